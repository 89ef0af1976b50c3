/-
  COMMANDS: Ids, commands in memory; loads and stores.
-/
import Derived.Test.YthionkcnmkhopaaPm
import Derived.Test.YthionkcnmkhopaaNum
import Derived.Test.YthionkcnmkhopaaCmp
import Derived.Test.YthionkcnmkhopaaHigh
import Derived.Laws.StructEq
import Derived.Laws.Tables
import Derived.Lib.AppendStr
import Derived.Deep.AppendLies
import Derived.Laws.CopyOwn
import Derived.Deep.RegionHeld3
namespace Go.Proofs.Ythionkcnmkhopaa
set_option linter.unusedVariables false
set_option linter.unusedSimpArgs false
open Go.RowKit Go.WideShapes Go.ChangeShapes Go.Deep

theorem run_part_bvs (l : List UInt8) (i : Nat) (h : i < l.length) (w : World) : (part 5 (bvs l).toArray (i * 1)).run Try.prog w = .ok (bv l[i]) w := by
  have e : (bvs l)[i]? = some (bv l[i]) := by simp [bvs, h]
  simp only [part, isAgg, Sem.run_bind, run_underlying Try.underlying5, Result.andThen_ok, Sem.run_pure, Bool.false_eq_true, if_false, Nat.mul_one, List.getElem?_toArray, e]
theorem run_equalIn_rows (D : Nat) (a b : List UInt8) (n : Nat) (t : TypeId) (ht : Try.prog.underlying t = some (.array n 5)) (ha : a.length = n) (hb : b.length = n) (hel : ∀ (x y : Int) (w : World), (Op.equalIn D 5 (.int .u8 x) (.int .u8 y)).run Try.prog w = .ok (x == y) w) (w : World) :
    (Op.equalIn (D + 1) t (.agg (bvs a).toArray) (.agg (bvs b).toArray)).run Try.prog w = .ok (a == b) w := by
  have hsz : ∀ w : World, (sizeOf 5).run Try.prog w = .ok 1 w := fun w => by kernel_rfl
  simp only [Op.equalIn, Sem.run_bind, run_underlying ht, Result.andThen_ok, hsz]
  rw [Std.Legacy.Range.forIn_eq_forIn_range']
  simp only [Std.Legacy.Range.size, Nat.sub_zero, Nat.add_sub_cancel, Nat.div_one]
  have key : ∀ (m k : Nat) (w : World), k + m = n → ((forIn (List.range' k m 1) (none, ()) fun (i : Nat) (__s : Option Bool × Unit) => do
      let x ← part 5 (bvs a).toArray (i * 1)
      let y ← part 5 (bvs b).toArray (i * 1)
      let r ← Op.equalIn D 5 x y
      if (!r) = true then pure (ForInStep.done (some false, ())) else pure (ForInStep.yield (none, ()))) : Sem (Option Bool × Unit)).run Try.prog w = .ok (if a.drop k = b.drop k then (none, ()) else (some false, ())) w := by
    intro m
    induction m with
    | zero =>
      intro k w hk
      have e1 : a.drop k = [] := List.drop_eq_nil_of_le (by omega)
      have e2 : b.drop k = [] := List.drop_eq_nil_of_le (by omega)
      simp [e1, e2]
    | succ m ih =>
      intro k w hk
      have d1 : a.drop k = a[k]'(by omega) :: a.drop (k + 1) := List.drop_eq_getElem_cons (by omega)
      have d2 : b.drop k = b[k]'(by omega) :: b.drop (k + 1) := List.drop_eq_getElem_cons (by omega)
      rw [List.range'_succ, List.forIn_cons]
      simp only [Sem.run_bind, run_part_bvs a k (by omega), run_part_bvs b k (by omega), Result.andThen_ok, bv, hel]
      by_cases he : a[k]'(by omega) = b[k]'(by omega)
      · have hb : (((a[k]'(by omega)).toNat : Int) == ((b[k]'(by omega)).toNat : Int)) = true := by rw [he]; simp
        simp only [hb, Bool.not_true, Bool.false_eq_true, if_false, Sem.run_pure, Result.andThen_ok]
        rw [ih (k + 1) w (by omega)]
        have hiff : (a.drop k = b.drop k) = (a.drop (k + 1) = b.drop (k + 1)) := propext ⟨fun e => by rw [d1, d2] at e; injection e, fun e => by rw [d1, d2, he, e]⟩
        simp only [hiff]
      · have hb : (((a[k]'(by omega)).toNat : Int) == ((b[k]'(by omega)).toNat : Int)) = false := by
          rw [beq_eq_false_iff_ne]
          intro e
          exact he (UInt8.toNat_inj.1 (by omega))
        simp only [hb, Bool.not_false, if_true, Sem.run_pure, Result.andThen_ok]
        rw [if_neg (by rw [d1, d2]; intro e; injection e with e1 e2; exact he e1)]
  rw [key n 0 w (by omega)]
  simp only [List.drop_zero, Result.andThen_ok]
  by_cases he : a = b
  · simp [he]
  · have : (a == b) = false := by simpa using he
    simp [he]
/-- An Id. -/
structure Idv where
  b : List UInt8
  h : b.length = 32
theorem Idv.ext_ {a c : Idv} (h : a.b = c.b) : a = c := by cases a; cases c; cases h; rfl
def Idv.cells (i : Idv) : List Value := bvs i.b
theorem id_sz (i : Idv) : i.cells.length = 32 := by unfold Idv.cells; rw [bvs_len, i.h]
abbrev idV (i : Idv) : Value := .agg (bvs i.b).toArray
def Idv.zero : Idv := ⟨List.replicate 32 0, by simp⟩
theorem size_idv : (Try.prog.info? 24).map (·.size) = some 32 := by kernel_rfl
theorem neq_id (a c : Idv) (w : World) : (binOp .neq 24 (idV a) (idV c)).run Try.prog w = .ok (.bool (!(a.b == c.b))) w := by
  rw [run_neq_struct, run_equalIn_rows 9999 a.b c.b 32 _ Try.underlying24 a.h c.h (fun x y w => run_equalIn_int w 9998 _ _ _ x y Try.underlying5) w]
  rfl
theorem eql_id (a c : Idv) (w : World) : (binOp .eql 24 (idV a) (idV c)).run Try.prog w = .ok (.bool (a.b == c.b)) w := by
  rw [run_eql_struct, run_equalIn_rows 9999 a.b c.b 32 _ Try.underlying24 a.h c.h (fun x y w => run_equalIn_int w 9998 _ _ _ x y Try.underlying5) w]
  rfl
theorem eq_id (a c : Idv) (w : World) : (Op.equalIn 10000 24 (.agg a.cells.toArray) (.agg c.cells.toArray)).run Try.prog w = .ok (a.b == c.b) w :=
  run_equalIn_rows 9999 a.b c.b 32 _ Try.underlying24 a.h c.h (fun x y w => run_equalIn_int w 9998 _ _ _ x y Try.underlying5) w
/-- A slice. -/
structure Sl where
  a : Option Addr
  n : Nat
  c : Nat
/-- A command's fields, its data by its slice. -/
structure Cf where
  kind : Int
  client : Int
  seq : Nat
  branch : ByteArray
  old : Idv
  new : Idv
  dv : Value
def Cf.cells (o : Cf) : List Value := [.int .i64 o.kind, .int .i64 o.client, .int .u32 (o.seq : Int), .string o.branch] ++ (bvs o.old.b ++ (bvs o.new.b ++ [o.dv]))
theorem cf_sz (o : Cf) : o.cells.length = 69 := by
  unfold Cf.cells
  simp only [List.length_append, bvs_len, o.old.h, o.new.h, List.length_cons, List.length_nil]
abbrev cfV (o : Cf) : Value := .agg o.cells.toArray
/-- Where its fields lie. -/
theorem cf_lies {w : World} {b : Nat} {x : Cf} (h : Lies w b 69 x.cells) :
    w.cell? ⟨b, 0, none⟩ = some (.int .i64 x.kind) ∧ w.cell? ⟨b, 1, none⟩ = some (.int .i64 x.client) ∧ w.cell? ⟨b, 2, none⟩ = some (.int .u32 (x.seq : Int)) ∧ w.cell? ⟨b, 3, none⟩ = some (.string x.branch) ∧
    w.rangeAt b 4 x.old.cells ∧ w.rangeAt b 36 x.new.cells ∧ w.cell? ⟨b, 68, none⟩ = some x.dv := by
  have h := h.rg
  unfold Cf.cells at h
  rw [rangeAt_app, rangeAt_app, rangeAt_app] at h
  obtain ⟨h1, h2, h3, h4⟩ := h
  simp only [List.length_cons, List.length_nil, bvs_len, x.old.h, x.new.h, Nat.zero_add] at h2 h3 h4
  exact ⟨h1 0 _ rfl, h1 1 _ rfl, h1 2 _ rfl, h1 3 _ rfl, h2, h3, h4 0 _ rfl⟩
/-- A command. -/
structure Cv where
  kind : Int
  client : Int
  seq : Nat
  branch : ByteArray
  old : Idv
  new : Idv
  data : List UInt8
def Cv.at_ (x : Cv) (D : Sl) : Cf := ⟨x.kind, x.client, x.seq, x.branch, x.old, x.new, .slice D.a D.n D.c⟩
/-- A command whose data stands below B. -/
structure Cmd (w : World) (B : Nat) (x : Cv) (D : Sl) : Prop where
  d : SlB w B D.a D.n D.c x.data
  kb : -9223372036854775808 ≤ x.kind ∧ x.kind ≤ 9223372036854775807
  cb : -9223372036854775808 ≤ x.client ∧ x.client ≤ 9223372036854775807
  sb : x.seq < 4294967296
theorem Cmd.below {w w' : World} {B : Nat} {x : Cv} {D : Sl} (h : Cmd w B x D) (hb : Below B w w') : Cmd w' B x D := ⟨h.d.below hb, h.kb, h.cb, h.sb⟩
theorem Cmd.more {w : World} {B B' : Nat} {x : Cv} {D : Sl} (h : Cmd w B x D) (hB : B ≤ B') : Cmd w B' x D := ⟨h.d.more hB, h.kb, h.cb, h.sb⟩
theorem size_cf : (Try.prog.info? 27).map (·.size) = some 69 := by kernel_rfl
theorem size_setCells (w : World) (b o : Nat) (vs : List Value) : (w.setCells b o vs).heap.size = w.heap.size := (setCells_os b vs o w).2.2.2.1
section
variable {W W' : World} {b k : Nat} {l : List Value}
theorem Lies.other (h : Lies W b k l) {b' : Nat} (hn : b ≠ b') (o : Nat) (vs : List Value) : Lies (W.setCells b' o vs) b k l :=
  ⟨rangeAt_keep h.rg ((setCells_os b' vs o W).2.2.2.2 b hn), World.there_setCells h.th _ _ _, by rw [(setCells_os b' vs o W).2.2.2.1]; exact h.lt, h.len⟩
theorem Lies.set_ (h : Lies W b k l) {l' : List Value} (hl : l'.length = k) : Lies (W.setCells b 0 l') b k l' :=
  ⟨World.rangeAt_setCells_same _ _ _ _ (by rw [hl]; exact h.th), World.there_setCells h.th _ _ _, by rw [(setCells_os b l' 0 W).2.2.2.1]; exact h.lt, hl⟩
theorem Lies.mv {S : Nat → Prop} (h : Lies W b k l) (hm : Mv S W W') (hn : ¬ S b) : Lies W' b k l :=
  ⟨rangeAt_keep h.rg (hm.block b h.lt hn), there_keep h.th (hm.block b h.lt hn), Nat.lt_of_lt_of_le h.lt hm.size, h.len⟩
theorem Lies.far (h : Lies W b k l) {p : Addr} (hn : b ≠ p.block) (u : Value) : Lies (W.setCell p u) b k l :=
  h.kp (Below.heap_setCell W p u b hn) (by simp [World.setCell])
theorem Lies.set1 (h : Lies W b k l) (j : Nat) (u : Value) : Lies (W.setCell ⟨b, j, none⟩ u) b k (l.set j u) := by
  refine ⟨fun i v hv => ?_, fun i hi => ?_, by simpa [World.setCell] using h.lt, by rw [List.length_set]; exact h.len⟩
  · have hi : i < l.length := by have := (List.getElem?_eq_some_iff.1 hv).1; simpa using this
    by_cases hij : j = i
    · subst hij
      rw [List.getElem?_set_self hi] at hv
      injection hv with hv
      subst hv
      have hs := (h.th j (by rw [← h.len]; exact hi)).1
      rw [Nat.zero_add] at hs ⊢
      exact World.cell?_setCell_same' W _ _ hs
    · rw [List.getElem?_set_ne hij] at hv
      have := h.rg i v hv
      rw [Nat.zero_add] at this ⊢
      rw [World.cell?_setCell_other (a := ⟨b, j, none⟩) (b := ⟨b, i, none⟩) W u (fun e => hij (by simp at e))]
      exact this
  · exact (World.there_setCells h.th b j [u] : (W.setCells b j [u]).there b 0 k) i hi
end
theorem Lies.mid {W : World} {b k : Nat} {l : List Value} (h : Lies W b k l) (o : Nat) (vs : List Value) (hle : o + vs.length ≤ k) : Lies (W.setCells b o vs) b k (l.take o ++ (vs ++ l.drop (o + vs.length))) := by
  have hl := h.len
  refine ⟨?_, World.there_setCells h.th _ _ _, by rw [(setCells_os b vs o W).2.2.2.1]; exact h.lt, by simp; omega⟩
  have hth : W.there b o vs.length := fun i hi => (by have := h.th (o + i) (by omega); rwa [Nat.zero_add] at this)
  have hs : (W.setCells b o vs).rangeAt b o vs := World.rangeAt_setCells_same _ _ _ _ hth
  intro i v hv
  rw [Nat.zero_add]
  rcases Nat.lt_or_ge i o with h1 | h1
  · rw [List.getElem?_append_left (by simp; omega), List.getElem?_take_of_lt h1] at hv
    rw [World.cell?_setCells_out b vs o W ⟨b, i, none⟩ (fun _ _ => .inl h1)]
    have := h.rg i v hv
    rwa [Nat.zero_add] at this
  · rw [List.getElem?_append_right (by simp; omega)] at hv
    have e1 : (l.take o).length = o := by simp; omega
    rw [e1] at hv
    rcases Nat.lt_or_ge i (o + vs.length) with h2 | h2
    · rw [List.getElem?_append_left (by omega)] at hv
      have := hs (i - o) v hv
      rwa [show o + (i - o) = i by omega] at this
    · rw [List.getElem?_append_right (by omega), List.getElem?_drop, show o + vs.length + (i - o - vs.length) = i by omega] at hv
      rw [World.cell?_setCells_out b vs o W ⟨b, i, none⟩ (fun _ _ => .inr h2)]
      have := h.rg i v hv
      rwa [Nat.zero_add] at this
theorem wpList_want {P : Program} {w : World} {ops : Array Oper} {rest : List Oper} {o : Oper} {a : Act} {Q : Exit → Act → World → Prop} (hw : Region.wanted o (yielded ops a.tmps) = true) (h : o.wp P a w (wpList P ops Q rest) Q) : wpList P ops Q (o :: rest) a w := by
  unfold wpList
  rw [if_pos hw]
  exact .inl h
theorem bvs_all {l : List UInt8} : (bvs l).toArray.all (·.oneCell') = true := all_oneCell_toArray (bvs_one l)
theorem id_one (i : Idv) : i.cells.toArray.all (·.oneCell') = true := bvs_all
theorem cf_one {x : Cf} (h : x.dv.oneCell' = true) : x.cells.toArray.all (·.oneCell') = true := all_oneCell_toArray (fun v hv => by
  unfold Cf.cells at hv
  simp only [List.mem_append, List.mem_cons, List.not_mem_nil, or_false] at hv
  rcases hv with (rfl | rfl | rfl | rfl) | hv | hv | rfl <;> first | rfl | assumption | exact bvs_one _ v hv)
section
variable {ops : Array Oper} {rest : List Oper} {op : Oper} {a : Act} {w : World} {Q : Exit → Act → World → Prop}
theorem ldi (x : Operand) (ho : op.op = .load 24 x) (hw : Region.wanted op (yielded ops a.tmps) = true) (b o : Nat) (i : Idv) (hx : a.eval x = .pointer (some ⟨b, o, none⟩)) (hc : w.rangeAt b o i.cells)
    (h : wpList Try.prog ops Q rest (a.put op.dst (idV i)) w) : wpList Try.prog ops Q (op :: rest) a w :=
  wpList_want hw (wp_load_mid _ x ho b o hx i.cells _ hc Try.underlying24 rfl (by rw [id_sz]; exact size_idv) h)
theorem ldc (x : Operand) (ho : op.op = .load 27 x) (hw : Region.wanted op (yielded ops a.tmps) = true) (b o : Nat) (i : Cf) (hx : a.eval x = .pointer (some ⟨b, o, none⟩)) (hc : w.rangeAt b o i.cells)
    (h : wpList Try.prog ops Q rest (a.put op.dst (cfV i)) w) : wpList Try.prog ops Q (op :: rest) a w :=
  wpList_want hw (wp_load_mid _ x ho b o hx i.cells _ hc Try.underlying27 rfl (by rw [cf_sz]; exact size_cf) h)
theorem sti (x y : Operand) (ho : op.op = .store 24 x y) (hw : Region.wanted op (yielded ops a.tmps) = true) (b o : Nat) (i : Idv) (hx : a.eval x = .pointer (some ⟨b, o, none⟩)) (hy : a.eval y = idV i) (ht : w.there b o 32)
    (h : wpList Try.prog ops Q rest (a.put op.dst undef) (w.setCells b o i.cells)) : wpList Try.prog ops Q (op :: rest) a w :=
  wpList_want hw (wp_store_mid _ x y ho b o i.cells.toArray hx hy (by simpa [id_sz] using ht) (by simpa [id_sz] using size_idv) (id_one i) h)
theorem stc (x y : Operand) (ho : op.op = .store 27 x y) (hw : Region.wanted op (yielded ops a.tmps) = true) (b o : Nat) (i : Cf) (hx : a.eval x = .pointer (some ⟨b, o, none⟩)) (hy : a.eval y = cfV i) (ht : w.there b o 69) (h1 : i.dv.oneCell' = true)
    (h : wpList Try.prog ops Q rest (a.put op.dst undef) (w.setCells b o i.cells)) : wpList Try.prog ops Q (op :: rest) a w :=
  wpList_want hw (wp_store_mid _ x y ho b o i.cells.toArray hx hy (by simpa [cf_sz] using ht) (by simpa [cf_sz] using size_cf) (cf_one h1) h)
/-- A struct that is built. -/
theorem bdt (t : TypeId) (ps : List (Nat × Operand)) (ho : op.op = .build t ps.toArray) (hw : Region.wanted op (yielded ops a.tmps) = true) (zs : Array Value) (hb : Try.prog.built t (ps.map fun ix => (ix.1, a.eval ix.2)) = some zs)
    (h : wpList Try.prog ops Q rest (a.put op.dst (.agg zs)) w) : wpList Try.prog ops Q (op :: rest) a w := by
  have e : (ps.toArray.map fun (i, x) => (i, a.eval x)).toList = ps.map fun ix => (ix.1, a.eval ix.2) := by simp
  refine wpList_want hw ?_
  refine wp_build t ps.toArray ho (by rw [e, hb]; rfl) ?_
  rw [e, hb]
  exact h
/-- A variable that is made. -/
theorem alt (e : TypeId) (ho : op.op = .alloc e) (hw : Region.wanted op (yielded ops a.tmps) = true) (zs : List Value) (hz : ∀ w : World, (zeroValue e).run Try.prog w = .ok (.agg zs.toArray) w)
    (h : wpList Try.prog ops Q rest (a.put op.dst (.pointer (some ⟨w.heap.size, 0, none⟩))) (w.alloc (.cells zs.toArray e))) : wpList Try.prog ops Q (op :: rest) a w := by
  refine wpList_want hw ?_
  unfold Oper.wp execOp
  simp only [ho, Instr.alloc, Sem.run_bind, hz, Result.andThen_ok, newVar, newRow, newObj, Sem.run_pure, Value.cells]
  exact h
end
/-- Nothing. -/
def zCf : Cf := ⟨0, 0, 0, ⟨#[]⟩, Idv.zero, Idv.zero, .slice none 0 0⟩
def zCv : Cv := ⟨0, 0, 0, ⟨#[]⟩, Idv.zero, Idv.zero, []⟩
theorem zero_cf (w : World) : (zeroValue 27).run Try.prog w = .ok (.agg zCf.cells.toArray) w := by kernel_rfl
theorem built_cfz : Try.prog.built 27 [] = some zCf.cells.toArray := by kernel_rfl
theorem built_idz : Try.prog.built 24 [] = some Idv.zero.cells.toArray := by kernel_rfl
theorem zero_id (w : World) : (zeroValue 24).run Try.prog w = .ok (.agg Idv.zero.cells.toArray) w := by kernel_rfl
theorem wp_val {P : Program} {o : Oper} {a : Act} {w : World} {K : Act → World → Prop} {Q : Exit → Act → World → Prop} {v : Value} (hr : (execOp a.eval o).run P w = .ok (.value v) w) (h : K (a.put o.dst v) w) : o.wp P a w K Q := by
  unfold Oper.wp
  rw [hr]
  exact h
theorem run_str {op : Oper} {a : Act} {w : World} {B n c : Nat} {A : Option Addr} {l : List UInt8} (x : Operand) (ho : op.op = .convert 25 9 x) (hx : a.eval x = .slice A n c) (h : SlB w B A n c l) : (execOp a.eval op).run Try.prog w = .ok (.value (.string ⟨l.toArray⟩)) w := by
  have e := h.str (P := Try.prog) 25 9 5 Try.underlying25 Try.underlying5 Try.underlying9
  unfold execOp
  simp only [ho, hx, Sem.run_bind, e, Result.andThen_ok, Sem.run_pure]
theorem cell_grown {w w' : World} {g : Nat} (h : w.grownBy w' (some g)) {b : Nat} (hb : b < w.heap.size) (hne : b ≠ g) {o : Nat} {v : Value} (hc : w.cell? ⟨b, o, none⟩ = some v) : w'.cell? ⟨b, o, none⟩ = some v :=
  (World.cell?_of_block (h.block b hb (by simpa using hne))).trans hc
theorem range_row {w : World} {b : Nat} {cs : List Value} {t : TypeId} {f : Nat × Nat} (h : w.heap[b]? = some (.cells cs.toArray t f)) : w.rangeAt b 0 cs := fun i v hv => by
  unfold World.cell?
  simp only [h]
  simpa using hv
theorem only_then {a b c : World} {r : Option Nat} (h : a.grownBy b r) (k : Below a.heap.size b c) : a.grownBy c r := ⟨k.os.trans h.os, k.tape.trans h.tape, k.output.trans h.output, Nat.le_trans h.size k.size, fun i hi hn => (k.block i hi).trans (h.block i hi hn)⟩
/-- A text's bytes. -/
def strB (s : ByteArray) : List UInt8 := s.data.toList
theorem strB_len (s : ByteArray) : (strB s).length = s.size := by
  unfold strB
  rw [Array.length_toList]
  rfl
theorem strB_cells (s : ByteArray) : Lib.strCells s = bvs (strB s) := rfl
/-- A row of bytes of one's own. -/
abbrev OwnB (w : World) (base : Nat) (A : Option Addr) (n c : Nat) (l : List UInt8) : Prop := w.ownsRow base 5 1 (.slice A n c) n (bvs l)
theorem OwnB.sl {w : World} {base n c : Nat} {A : Option Addr} {l : List UInt8} (h : OwnB w base A n c l) : SlB w w.heap.size A n c l := by
  have hn : l.length = n := by have := h.1; rw [bvs_len] at this; omega
  rcases h.2 with ⟨h2, h3⟩ | ⟨g, cap, cur, h2, hb, hg, hnc, hcm, hcs, htk⟩
  · injection h2 with h4 h5 h6
    subst h3 h4 h6
    obtain rfl := List.eq_nil_of_length_eq_zero hn
    exact SlB.nil_
  · injection h2 with h4 h5 h6
    subst h4 h6
    refine ⟨hn, hnc, hcm, (fun e => by cases e), fun _ => ⟨g, 0, rfl, (Array.getElem?_eq_some_iff.1 hg).1, fun j hj => ?_⟩⟩
    have := h.cells (g := g) rfl j (bv l[j]) (by simp [bvs, hj])
    rwa [addr_add] at this
theorem OwnB.of_bl {w : World} {base g n : Nat} {l : List UInt8} (h : Bl w g 5 (bvs l)) (hb : base ≤ g) (hn : l.length = n) (hm : n ≤ maxLen) : OwnB w base (some ⟨g, 0, none⟩) n n l := by
  subst hn
  exact ⟨by rw [bvs_len]; omega, .inr ⟨g, l.length, (bvs l).toArray, rfl, hb, h, Nat.le_refl _, hm, by simp [bvs_len], by rw [List.take_of_length_le (by simp [bvs_len])]⟩⟩
theorem byte_small {k : Nat} (h : k < 256) : bv (UInt8.ofNat k) = .int .u8 (k : Int) := by
  unfold bv
  rw [show (UInt8.ofNat k).toNat = k by simp; omega]
theorem own_byte {w : World} {base n c k : Nat} {A : Option Addr} {l : List UInt8} (hk : k < 256) (h : w.ownsRow base 5 1 (.slice A n c) n (bvs l ++ [.int .u8 (k : Int)])) : OwnB w base A n c (l ++ [UInt8.ofNat k]) := by
  show w.ownsRow base 5 1 (.slice A n c) n (bvs (l ++ [UInt8.ofNat k]))
  rw [bvs_app, show bvs [UInt8.ofNat k] = [.int .u8 (k : Int)] from by rw [← byte_small hk]; rfl]
  exact h
theorem OwnB.base_ {w : World} {base base' n c : Nat} {A : Option Addr} {l : List UInt8} (h : OwnB w base A n c l) (hb : base' ≤ base) : OwnB w base' A n c l := by
  rcases h with ⟨h1, h2 | ⟨g, cap, cur, h2, h3, h4⟩⟩
  · exact ⟨h1, .inl h2⟩
  · exact ⟨h1, .inr ⟨g, cap, cur, h2, Nat.le_trans hb h3, h4⟩⟩
end Go.Proofs.Ythionkcnmkhopaa
