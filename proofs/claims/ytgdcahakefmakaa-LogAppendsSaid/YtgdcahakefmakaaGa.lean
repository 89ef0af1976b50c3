/-
  LOGS: entries in memory, slices of them; loads and stores.
-/
import Derived.Test.YtgdcahakefmakaaPm
import Derived.Test.YtgdcahakefmakaaPu
import Derived.Laws.StructEq
import Derived.Laws.Tables
import Derived.Deep.AppendLies
import Derived.Laws.CopyOwn
import Derived.Deep.RegionHeld3
import Derived.RangeFuncBox
import Derived.RangeFuncNested
namespace Go.Proofs.Ytgdcahakefmakaa
set_option linter.unusedVariables false
set_option linter.unusedSimpArgs false
open Go.RowKit Go.WideShapes Go.ChangeShapes Go.Deep

/-- A slice. -/
structure Sl where
  a : Option Addr
  n : Nat
  c : Nat
theorem size_setCells (w : World) (b o : Nat) (vs : List Value) : (w.setCells b o vs).heap.size = w.heap.size := (setCells_os b vs o w).2.2.2.1
section
variable {W W' : World} {b k : Nat} {l : List Value}
theorem Lies.other (h : Lies W b k l) {b' : Nat} (hn : b ≠ b') (o : Nat) (vs : List Value) : Lies (W.setCells b' o vs) b k l :=
  ⟨rangeAt_keep h.rg ((setCells_os b' vs o W).2.2.2.2 b hn), World.there_setCells h.th _ _ _, by rw [(setCells_os b' vs o W).2.2.2.1]; exact h.lt, h.len⟩
theorem Lies.set_ (h : Lies W b k l) {l' : List Value} (hl : l'.length = k) : Lies (W.setCells b 0 l') b k l' :=
  ⟨World.rangeAt_setCells_same _ _ _ _ (by rw [hl]; exact h.th), World.there_setCells h.th _ _ _, by rw [(setCells_os b l' 0 W).2.2.2.1]; exact h.lt, hl⟩
theorem Lies.mv {S : Nat → Prop} (h : Lies W b k l) (hm : Mv S W W') (hn : ¬ S b) : Lies W' b k l :=
  ⟨rangeAt_keep h.rg (hm.block b h.lt hn), there_keep h.th (hm.block b h.lt hn), Nat.lt_of_lt_of_le h.lt hm.size, h.len⟩
theorem Lies.far (h : Lies W b k l) {p : Addr} (hn : b ≠ p.block) (u : Value) : Lies (W.setCell p u) b k l :=
  h.kp (Below.heap_setCell W p u b hn) (by simp [World.setCell])
theorem Lies.set1 (h : Lies W b k l) (j : Nat) (u : Value) : Lies (W.setCell ⟨b, j, none⟩ u) b k (l.set j u) := by
  refine ⟨fun i v hv => ?_, fun i hi => ?_, by simpa [World.setCell] using h.lt, by rw [List.length_set]; exact h.len⟩
  · have hi : i < l.length := by have := (List.getElem?_eq_some_iff.1 hv).1; simpa using this
    by_cases hij : j = i
    · subst hij
      rw [List.getElem?_set_self hi] at hv
      injection hv with hv
      subst hv
      have hs := (h.th j (by rw [← h.len]; exact hi)).1
      rw [Nat.zero_add] at hs ⊢
      exact World.cell?_setCell_same' W _ _ hs
    · rw [List.getElem?_set_ne hij] at hv
      have := h.rg i v hv
      rw [Nat.zero_add] at this ⊢
      rw [World.cell?_setCell_other (a := ⟨b, j, none⟩) (b := ⟨b, i, none⟩) W u (fun e => hij (by simp at e))]
      exact this
  · exact (World.there_setCells h.th b j [u] : (W.setCells b j [u]).there b 0 k) i hi
end
theorem below_setCells {B : Nat} {a w : World} (h : Below B a w) {b : Nat} (hb : B ≤ b) (o : Nat) (vs : List Value) : Below B a (w.setCells b o vs) := by
  obtain ⟨h1, h2, h3, h4, h5⟩ := setCells_os b vs o w
  exact ⟨h1.trans h.os, h2.trans h.tape, h3.trans h.output, by rw [h4]; exact h.size, fun k hk => (h5 k (by omega)).trans (h.block k hk)⟩
theorem Lies.mid {W : World} {b k : Nat} {l : List Value} (h : Lies W b k l) (o : Nat) (vs : List Value) (hle : o + vs.length ≤ k) : Lies (W.setCells b o vs) b k (l.take o ++ (vs ++ l.drop (o + vs.length))) := by
  have hl := h.len
  refine ⟨?_, World.there_setCells h.th _ _ _, by rw [(setCells_os b vs o W).2.2.2.1]; exact h.lt, by simp; omega⟩
  have hth : W.there b o vs.length := fun i hi => (by have := h.th (o + i) (by omega); rwa [Nat.zero_add] at this)
  have hs : (W.setCells b o vs).rangeAt b o vs := World.rangeAt_setCells_same _ _ _ _ hth
  intro i v hv
  rw [Nat.zero_add]
  rcases Nat.lt_or_ge i o with h1 | h1
  · rw [List.getElem?_append_left (by simp; omega), List.getElem?_take_of_lt h1] at hv
    rw [World.cell?_setCells_out b vs o W ⟨b, i, none⟩ (fun _ _ => .inl h1)]
    have := h.rg i v hv
    rwa [Nat.zero_add] at this
  · rw [List.getElem?_append_right (by simp; omega)] at hv
    have e1 : (l.take o).length = o := by simp; omega
    rw [e1] at hv
    rcases Nat.lt_or_ge i (o + vs.length) with h2 | h2
    · rw [List.getElem?_append_left (by omega)] at hv
      have := hs (i - o) v hv
      rwa [show o + (i - o) = i by omega] at this
    · rw [List.getElem?_append_right (by omega), List.getElem?_drop, show o + vs.length + (i - o - vs.length) = i by omega] at hv
      rw [World.cell?_setCells_out b vs o W ⟨b, i, none⟩ (fun _ _ => .inr h2)]
      have := h.rg i v hv
      rwa [Nat.zero_add] at this
theorem wpList_want {P : Program} {w : World} {ops : Array Oper} {rest : List Oper} {o : Oper} {a : Act} {Q : Exit → Act → World → Prop} (hw : Region.wanted o (yielded ops a.tmps) = true) (h : o.wp P a w (wpList P ops Q rest) Q) : wpList P ops Q (o :: rest) a w := by
  unfold wpList
  rw [if_pos hw]
  exact .inl h
theorem bvs_all {l : List UInt8} : (bvs l).toArray.all (·.oneCell') = true := all_oneCell_toArray (bvs_one l)
section
variable {ops : Array Oper} {rest : List Oper} {op : Oper} {a : Act} {w : World} {Q : Exit → Act → World → Prop}
/-- A struct that is built. -/
theorem bdt (t : TypeId) (ps : List (Nat × Operand)) (ho : op.op = .build t ps.toArray) (hw : Region.wanted op (yielded ops a.tmps) = true) (zs : Array Value) (hb : Try.prog.built t (ps.map fun ix => (ix.1, a.eval ix.2)) = some zs)
    (h : wpList Try.prog ops Q rest (a.put op.dst (.agg zs)) w) : wpList Try.prog ops Q (op :: rest) a w := by
  have e : (ps.toArray.map fun (i, x) => (i, a.eval x)).toList = ps.map fun ix => (ix.1, a.eval ix.2) := by simp
  refine wpList_want hw ?_
  refine wp_build t ps.toArray ho (by rw [e, hb]; rfl) ?_
  rw [e, hb]
  exact h
/-- A variable that is made. -/
theorem alt (e : TypeId) (ho : op.op = .alloc e) (hw : Region.wanted op (yielded ops a.tmps) = true) (zs : List Value) (hz : ∀ w : World, (zeroValue e).run Try.prog w = .ok (.agg zs.toArray) w)
    (h : wpList Try.prog ops Q rest (a.put op.dst (.pointer (some ⟨w.heap.size, 0, none⟩))) (w.alloc (.cells zs.toArray e))) : wpList Try.prog ops Q (op :: rest) a w := by
  refine wpList_want hw ?_
  unfold Oper.wp execOp
  simp only [ho, Instr.alloc, Sem.run_bind, hz, Result.andThen_ok, newVar, newRow, newObj, Sem.run_pure, Value.cells]
  exact h
end
theorem SlB.str {P : Program} {w : World} {B n c : Nat} {A : Option Addr} {l : List UInt8} (h : SlB w B A n c l) (src dst e : TypeId) (hs : P.underlying src = some (.slice e)) (he : P.underlying e = some (.int .u8)) (hd : P.underlying dst = some .string) :
    (convert src dst (.slice A n c)).run P w = .ok (.string ⟨l.toArray⟩) w := by
  obtain rfl : l.length = n := h.len
  by_cases h0 : l.length = 0
  · obtain rfl : l = [] := List.eq_nil_of_length_eq_zero h0
    rcases A with _ | ad
    · exact run_convert_bytes_nil w src e hs he _ c dst hd
    · exact run_convert_bytes_back w src dst e ad c [] hs he hd (fun j hj => absurd hj (by simp))
  · obtain ⟨b, o, rfl, hb, hc⟩ := h.pos (by omega)
    refine run_convert_bytes_back w src dst e _ c l hs he hd (fun j hj => ?_)
    rw [addr_add]
    exact hc j hj
theorem wp_val {P : Program} {o : Oper} {a : Act} {w : World} {K : Act → World → Prop} {Q : Exit → Act → World → Prop} {v : Value} (hr : (execOp a.eval o).run P w = .ok (.value v) w) (h : K (a.put o.dst v) w) : o.wp P a w K Q := by
  unfold Oper.wp
  rw [hr]
  exact h
theorem run_str {op : Oper} {a : Act} {w : World} {B n c : Nat} {A : Option Addr} {l : List UInt8} (x : Operand) (ho : op.op = .convert 42 9 x) (hx : a.eval x = .slice A n c) (h : SlB w B A n c l) : (execOp a.eval op).run Try.prog w = .ok (.value (.string ⟨l.toArray⟩)) w := by
  have e := h.str (P := Try.prog) 42 9 5 Try.underlying42 Try.underlying5 Try.underlying9
  unfold execOp
  simp only [ho, hx, Sem.run_bind, e, Result.andThen_ok, Sem.run_pure]
theorem cell_grown {w w' : World} {g : Nat} (h : w.grownBy w' (some g)) {b : Nat} (hb : b < w.heap.size) (hne : b ≠ g) {o : Nat} {v : Value} (hc : w.cell? ⟨b, o, none⟩ = some v) : w'.cell? ⟨b, o, none⟩ = some v :=
  (World.cell?_of_block (h.block b hb (by simpa using hne))).trans hc
theorem range_row {w : World} {b : Nat} {cs : List Value} {t : TypeId} {f : Nat × Nat} (h : w.heap[b]? = some (.cells cs.toArray t f)) : w.rangeAt b 0 cs := fun i v hv => by
  unfold World.cell?
  simp only [h]
  simpa using hv
theorem only_then {a b c : World} {r : Option Nat} (h : a.grownBy b r) (k : Below a.heap.size b c) : a.grownBy c r := ⟨k.os.trans h.os, k.tape.trans h.tape, k.output.trans h.output, Nat.le_trans h.size k.size, fun i hi hn => (k.block i hi).trans (h.block i hi hn)⟩
/-- A row of bytes of one's own. -/
abbrev OwnB (w : World) (base : Nat) (A : Option Addr) (n c : Nat) (l : List UInt8) : Prop := w.ownsRow base 5 1 (.slice A n c) n (bvs l)
theorem OwnB.sl {w : World} {base n c : Nat} {A : Option Addr} {l : List UInt8} (h : OwnB w base A n c l) : SlB w w.heap.size A n c l := by
  have hn : l.length = n := by have := h.1; rw [bvs_len] at this; omega
  rcases h.2 with ⟨h2, h3⟩ | ⟨g, cap, cur, h2, hb, hg, hnc, hcm, hcs, htk⟩
  · injection h2 with h4 h5 h6
    subst h3 h4 h6
    obtain rfl := List.eq_nil_of_length_eq_zero hn
    exact SlB.nil_
  · injection h2 with h4 h5 h6
    subst h4 h6
    refine ⟨hn, hnc, hcm, (fun e => by cases e), fun _ => ⟨g, 0, rfl, (Array.getElem?_eq_some_iff.1 hg).1, fun j hj => ?_⟩⟩
    have := h.cells (g := g) rfl j (bv l[j]) (by simp [bvs, hj])
    rwa [addr_add] at this
theorem OwnB.of_bl {w : World} {base g n : Nat} {l : List UInt8} (h : Bl w g 5 (bvs l)) (hb : base ≤ g) (hn : l.length = n) (hm : n ≤ maxLen) : OwnB w base (some ⟨g, 0, none⟩) n n l := by
  subst hn
  exact ⟨by rw [bvs_len]; omega, .inr ⟨g, l.length, (bvs l).toArray, rfl, hb, h, Nat.le_refl _, hm, by simp [bvs_len], by rw [List.take_of_length_le (by simp [bvs_len])]⟩⟩
theorem OwnB.base_ {w : World} {base base' n c : Nat} {A : Option Addr} {l : List UInt8} (h : OwnB w base A n c l) (hb : base' ≤ base) : OwnB w base' A n c l := by
  rcases h with ⟨h1, h2 | ⟨g, cap, cur, h2, h3, h4⟩⟩
  · exact ⟨h1, .inl h2⟩
  · exact ⟨h1, .inr ⟨g, cap, cur, h2, Nat.le_trans hb h3, h4⟩⟩

/-- An entry in memory: its Term, its Kind, the slice of its Data, and what that reads as. -/
structure En where
  t : Nat
  k : Int
  D : Sl
  d : List UInt8
def En.cells (x : En) : List Value := [.int .u64 (x.t : Int), .int .i64 x.k, .slice x.D.a x.D.n x.D.c]
def En.v (x : En) : Ev := ⟨x.t, x.k, x.d⟩
abbrev enV (x : En) : Value := .agg #[.int .u64 (x.t : Int), .int .i64 x.k, .slice x.D.a x.D.n x.D.c]
abbrev atV (i t : Nat) : Value := .agg #[.int .u64 (i : Int), .int .u64 (t : Int)]
abbrev lgV (i t : Nat) (A : Option Addr) (n c : Nat) : Value := .agg #[.int .u64 (i : Int), .int .u64 (t : Int), .slice A n c]
theorem en_sz (x : En) : x.cells.length = 3 := rfl
theorem en_one (l : List En) : ∀ v ∈ l.flatMap En.cells, v.oneCell' = true := by
  intro v hv
  simp only [List.mem_flatMap, En.cells, List.mem_cons, List.not_mem_nil, or_false] at hv
  obtain ⟨r, _, rfl | rfl | rfl⟩ := hv <;> rfl
/-- An entry whose Data stands below B. -/
structure EnIn (w : World) (B : Nat) (x : En) : Prop where
  d : SlB w B x.D.a x.D.n x.D.c x.d
  t : x.t < 18446744073709551616
  k : -9223372036854775808 ≤ x.k ∧ x.k ≤ 9223372036854775807
theorem EnIn.below {w w' : World} {B : Nat} {x : En} (h : EnIn w B x) (hb : Below B w w') : EnIn w' B x := ⟨h.d.below hb, h.t, h.k⟩
theorem EnIn.more {w : World} {B B' : Nat} {x : En} (h : EnIn w B x) (hB : B ≤ B') : EnIn w B' x := ⟨h.d.more hB, h.t, h.k⟩
/-- A slice of entries. -/
structure SqE (w : World) (B : Nat) (A : Option Addr) (n c : Nat) (l : List En) : Prop where
  s : Sq En.cells 3 w B A n c l
  e : ∀ x ∈ l, EnIn w B x
section
variable {w w' : World} {B B' n c : Nat} {A : Option Addr} {l : List En}
theorem SqE.below (h : SqE w B A n c l) (hb : Below B w w') : SqE w' B A n c l := ⟨h.s.below hb, fun x hx => (h.e x hx).below hb⟩
theorem SqE.more (h : SqE w B A n c l) (hB : B ≤ B') : SqE w B' A n c l := ⟨h.s.more hB, fun x hx => (h.e x hx).more hB⟩
theorem SqE.next (h : SqE w B A n c l) (hB : B ≤ w.heap.size) (hb : Below w.heap.size w w') : SqE w' w'.heap.size A n c l := (h.below (hb.mono hB)).more (Nat.le_trans hB hb.size)
theorem SqE.nil_ : SqE w B none 0 0 [] := ⟨Sq.nil_ en_sz, fun _ h => by cases h⟩
theorem SqE.len (h : SqE w B A n c l) : l.length = n := h.s.len
end
def vsE (l : List En) : List Ev := l.map En.v
theorem vsE_len (l : List En) : (vsE l).length = l.length := by simp [vsE]
theorem vsE_app (a b : List En) : vsE (a ++ b) = vsE a ++ vsE b := by simp [vsE]
theorem size_en : (Try.prog.info? 44).map (·.size) = some 3 := by kernel_rfl
theorem size_lg : (Try.prog.info? 27).map (·.size) = some 3 := by kernel_rfl
theorem size_at : (Try.prog.info? 24).map (·.size) = some 2 := by kernel_rfl
section
variable {ops : Array Oper} {rest : List Oper} {op : Oper} {a : Act} {w : World} {Q : Exit → Act → World → Prop}
theorem lde (x : Operand) (ho : op.op = .load 44 x) (hw : Region.wanted op (yielded ops a.tmps) = true) (b o : Nat) (i : En) (hx : a.eval x = .pointer (some ⟨b, o, none⟩)) (hc : w.rangeAt b o i.cells)
    (h : wpList Try.prog ops Q rest (a.put op.dst (enV i)) w) : wpList Try.prog ops Q (op :: rest) a w :=
  wpList_want hw (wp_load_mid _ x ho b o hx i.cells _ hc Try.underlying44 rfl (by rw [en_sz]; exact size_en) h)
end
section
variable {ops : Array Oper} {rest : List Oper} {op : Oper} {a : Act} {w : World} {Q : Exit → Act → World → Prop}
theorem ste (x y : Operand) (ho : op.op = .store 44 x y) (hw : Region.wanted op (yielded ops a.tmps) = true) (b o : Nat) (i : En) (hx : a.eval x = .pointer (some ⟨b, o, none⟩)) (hy : a.eval y = enV i) (ht : w.there b o 3)
    (h : wpList Try.prog ops Q rest (a.put op.dst undef) (w.setCells b o i.cells)) : wpList Try.prog ops Q (op :: rest) a w :=
  wpList_want hw (wp_store_mid _ x y ho b o i.cells.toArray hx hy (by simpa [en_sz] using ht) (by simpa [en_sz] using size_en) (all_oneCell_toArray (fun v hv => en_one [i] v (by simpa using hv))) h)
def atC (i t : Nat) : List Value := [.int .u64 (i : Int), .int .u64 (t : Int)]
def lgC (i t : Nat) (A : Option Addr) (n c : Nat) : List Value := [.int .u64 (i : Int), .int .u64 (t : Int), .slice A n c]
theorem sta (x y : Operand) (ho : op.op = .store 24 x y) (hw : Region.wanted op (yielded ops a.tmps) = true) (b o : Nat) (i t : Nat) (hx : a.eval x = .pointer (some ⟨b, o, none⟩)) (hy : a.eval y = atV i t) (ht : w.there b o 2)
    (h : wpList Try.prog ops Q rest (a.put op.dst undef) (w.setCells b o (atC i t))) : wpList Try.prog ops Q (op :: rest) a w :=
  wpList_want hw (wp_store_mid _ x y ho b o (atC i t).toArray hx hy (by simpa [atC] using ht) (by simpa [atC] using size_at) (by simp [atC, Value.oneCell']) h)
theorem stl (x y : Operand) (ho : op.op = .store 27 x y) (hw : Region.wanted op (yielded ops a.tmps) = true) (b o : Nat) (i t : Nat) (A : Option Addr) (n c : Nat) (hx : a.eval x = .pointer (some ⟨b, o, none⟩)) (hy : a.eval y = lgV i t A n c) (ht : w.there b o 3)
    (h : wpList Try.prog ops Q rest (a.put op.dst undef) (w.setCells b o (lgC i t A n c))) : wpList Try.prog ops Q (op :: rest) a w :=
  wpList_want hw (wp_store_mid _ x y ho b o (lgC i t A n c).toArray hx hy (by simpa [lgC] using ht) (by simpa [lgC] using size_lg) (by simp [lgC, Value.oneCell']) h)
end
/-- The places behind one, with their entries. -/
structure Pl where
  i : Nat
  e : En
abbrev enP (x : Pl) : Array Value := #[atV x.i x.e.t, enV x.e]
def placedL : Nat → List En → List Pl
  | _, [] => []
  | i, e :: r => ⟨i + 1, e⟩ :: placedL (i + 1) r
theorem placedL_len : ∀ (i : Nat) (l : List En), (placedL i l).length = l.length
  | _, [] => rfl
  | i, e :: r => by simp [placedL, placedL_len (i + 1) r]
theorem placedL_at : ∀ (i : Nat) (l : List En) (j : Nat) (h : j < l.length), (placedL i l)[j]? = some ⟨i + j + 1, l[j]⟩
  | i, e :: r, 0, _ => rfl
  | i, e :: r, j + 1, h => by
    simp only [placedL, List.getElem?_cons_succ, List.getElem_cons_succ]
    rw [placedL_at (i + 1) r j (by simpa using h), show i + 1 + j + 1 = i + (j + 1) + 1 by omega]
theorem placedL_map : ∀ (i : Nat) (l : List En), (placedL i l).map Pl.e = l
  | _, [] => rfl
  | i, e :: r => by simp [placedL, placedL_map (i + 1) r]
theorem placedL_next {i : Nat} {l : List En} {pre : List Pl} {x : Pl} (h : pre ++ [x] <+: placedL i l) : pre.length < l.length ∧ (∃ h' : pre.length < l.length, x = ⟨i + pre.length + 1, l[pre.length]⟩) ∧ pre.map Pl.e = l.take pre.length := by
  obtain ⟨r, hr⟩ := h
  have h1 : pre.length < l.length := by
    have := congrArg List.length hr
    rw [placedL_len] at this
    simp at this
    omega
  refine ⟨h1, ⟨h1, ?_⟩, ?_⟩
  · have := placedL_at i l pre.length h1
    rw [← hr] at this
    simpa using this
  · have h2 := congrArg (fun z => (z.map Pl.e).take pre.length) hr
    simp only [placedL_map] at h2
    rw [← h2]
    simp
end Go.Proofs.Ytgdcahakefmakaa
