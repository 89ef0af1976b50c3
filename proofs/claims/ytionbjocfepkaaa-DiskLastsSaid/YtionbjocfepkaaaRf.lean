/-
  THE DOCUMENT'S OWN DISK: a write by itself in memory; live.
-/
import Derived.Test.YtionbjocfepkaaaRd
namespace Go.Proofs.Ytionbjocfepkaaa
set_option linter.unusedVariables false
set_option linter.unusedSimpArgs false
open Go.RowKit Go.WideShapes Go.ChangeShapes Go.Deep

def Z66 : Array Value := (En.cells ⟨0, Zb, false⟩).toArray
theorem zero_en (w : World) : (zeroValue 94).run Try.prog w = .ok (.agg Z66) w := by kernel_rfl
theorem info_en : (Try.prog.info? 94).map (fun i => (i.zero, i.size, i.bytes)) = some (some (.agg Z66), 66, 80) := by kernel_rfl
theorem size_en : (Try.prog.info? 94).map (·.size) = some 66 := by kernel_rfl
theorem size_en_of {e : En} (h : e.b.length = 64) : (Try.prog.info? 94).map (·.size) = some e.cells.length := by rw [En.cells_len h]; exact size_en
theorem al_en {ops : Array Oper} {rest : List Oper} {op : Oper} {a : Act} {w : World} {Q : Exit → Act → World → Prop} (hgd : op.guard = none) (ho : op.op = .alloc 94)
    (h : wpList Try.prog ops Q rest (a.put op.dst (.pointer (some ⟨w.heap.size, 0, none⟩))) (w.alloc (.cells Z66 94))) : wpList Try.prog ops Q (op :: rest) a w :=
  wpList_alloc_as hgd _ ho Z66 zero_en h
theorem ld_en {ops : Array Oper} {rest : List Oper} {op : Oper} {a : Act} {w : World} {Q : Exit → Act → World → Prop} (hgd : op.guard = none) (x : Operand) (ho : op.op = .load 94 x)
    (b o : Nat) (e : En) (hl : Hid (e.b.length = 64)) (hx : a.eval x = .pointer (some ⟨b, o, none⟩)) (hc : w.rangeAt b o e.cells)
    (h : wpList Try.prog ops Q rest (a.put op.dst (.agg e.cells.toArray)) w) : wpList Try.prog ops Q (op :: rest) a w :=
  wpList_load_mid hgd _ x ho b o hx e.cells _ hc Try.underlying94 rfl (size_en_of hl.out) h
theorem en_all {e : En} : e.cells.toArray.all (·.oneCell') = true := all_oneCell_toArray e.cells_oneCell
theorem st_en {ops : Array Oper} {rest : List Oper} {op : Oper} {a : Act} {w : World} {Q : Exit → Act → World → Prop} (hgd : op.guard = none) (x y : Operand) (ho : op.op = .store 94 x y)
    (b o : Nat) (e : En) (hl : Hid (e.b.length = 64)) (hx : a.eval x = .pointer (some ⟨b, o, none⟩)) (hy : a.eval y = .agg e.cells.toArray) (ht : w.there b o 66)
    (h : wpList Try.prog ops Q rest (a.put op.dst undef) (w.setCells b o e.cells)) : wpList Try.prog ops Q (op :: rest) a w :=
  wpList_store_mid hgd _ x y ho b o e.cells.toArray hx hy (by have := En.cells_len hl.out; simpa [this] using ht) (by have := size_en_of hl.out; simpa using this) en_all h
/-- A literal slice of one write. -/
theorem one_en {e : En} (hl : e.b.length = 64) (w : World) : (Instr.buildSlice 28 1 #[(0, .agg e.cells.toArray)]).run Try.prog w = .ok (.slice (some ⟨w.heap.size, 0, none⟩) 1 1) (w.alloc (.cells e.cells.toArray 94)) := by
  obtain ⟨i0, hi, hz, hz1, hz2⟩ := info_parts info_en
  have hcl := En.cells_len hl
  have hs : (Value.agg e.cells.toArray).cells.size = 66 := by simp [Value.cells, hcl]
  obtain ⟨r, hr, hrs, hrk⟩ := Great.fill_dense (s := 66) (by omega) [.agg e.cells.toArray] 0 ((Array.range (1 * i0.size)).map ((Value.agg Z66).cells[· % (Value.agg Z66).cells.size]!)) (by intro v hv; simp at hv; subst hv; exact hs) (by rw [hz1]; simp)
  have hre : r = e.cells.toArray := by
    apply Array.ext_getElem?
    intro k
    rw [hrk k]
    by_cases hk : k < 66
    · rw [if_pos ⟨by omega, by simp; omega⟩]
      have h1 : k / 66 - 0 = 0 := by omega
      have h2 : k % 66 = k := by omega
      rw [h1, h2]
      simp [Value.cells]
    · rw [if_neg (by simp; omega)]
      rw [Array.getElem?_eq_none (by simp [hz1]; omega), Array.getElem?_eq_none (by simp [hcl]; omega)]
  rw [hre] at hr
  exact run_buildSlice w _ _ 1 _ _ i0 _ Try.underlying28 hi hz (by rw [hz1]; omega) (by rw [hz1]; omega) (by rw [hz1] at hr ⊢; exact hr)
theorem wpList_one_en {ops : Array Oper} {rest : List Oper} {w : World} {o : Oper} {a : Act} {Q : Exit → Act → World → Prop} (hgd : o.guard = none) (x : Operand) (ho : o.op = .buildSlice 28 1 #[(0, x)]) (e : En) (hl : Hid (e.b.length = 64)) (hx : a.eval x = .agg e.cells.toArray) (H : Nat) (hH : w.heap.size = H)
    (h : wpList Try.prog ops Q rest (a.put o.dst (.slice (some ⟨H, 0, none⟩) 1 1)) (w.alloc (.cells e.cells.toArray 94))) : wpList Try.prog ops Q (o :: rest) a w :=
  wpList_plain hgd fun _ hK => by
    unfold Oper.wp execOp
    simp only [ho, List.map_toArray, List.map_cons, List.map_nil, hx, one_en hl.out, Sem.run_bind, Result.andThen_ok, hH]
    exact hK _ _ h
/-- Writes appended to a slice of one's own. -/
theorem app_en {ops : Array Oper} {rest : List Oper} {w : World} {o : Oper} {a : Act} {Q : Exit → Act → World → Prop} (hgd : o.guard = none) (s x : Operand)
    (ho : o.op = .call { callee := .builtin .append, args := #[s, x], argTypes := #[28, 28] })
    (base : Nat) (v : Value) (n : Nat) (es : List En) (hs : a.eval s = v) (hown : w.ownsRow base 94 66 v n (ens es))
    (ad : Addr) (m c : Nat) (new : List En) (hx : a.eval x = .slice (some ad) m c) (hl : Hid (∀ e ∈ new, e.b.length = 64)) (hm : new.length = m) (hnews : ∀ j u, (ens new)[j]? = some u → w.cell? (ad.add j) = some u)
    (hp : 0 < m) (hn : n + m ≤ 1000000000) (hbase : base ≤ w.heap.size) (H : Nat) (hH : w.heap.size = H)
    (h : ∀ g cap w', w'.ownsRow base 94 66 (.slice (some ⟨g, 0, none⟩) (n + m) cap) (n + m) (ens (es ++ new)) → w.grownBy w' v.ownBlock → (v.ownBlock = some g ∨ g = H) → g < w'.heap.size → wpList Try.prog ops Q rest (a.put o.dst (.slice (some ⟨g, 0, none⟩) (n + m) cap)) w') : wpList Try.prog ops Q (o :: rest) a w := by
  obtain ⟨i0, hi, hz, hz1, hz2⟩ := info_parts info_en
  refine wpList_append_lies w hgd s x 28 ho base 94 i0 _ 66 80 Try.underlying28 hi hz hz1 hz2 (by simp [Value.cells, Z66, En.cells_len (e := ⟨0, Zb, false⟩) Zb_len]) (by omega) v n (ens es) hs hown ad m c (ens new) hx (by rw [ens_len hl.out, hm]) hnews (ens_oneCell new) hp (by unfold maxLen; omega) (by omega) hbase H hH ?_
  intro g cap w' h1
  rw [← ens_app] at h1
  exact h g cap w' h1

/-- The writes that count when some that wait are lost. -/
def liveE (lv : Nat → Bool) : List En → Nat → List En
  | [], _ => []
  | e :: r, k => if e.safe = true then ⟨e.s, e.b, true⟩ :: liveE lv r k else if lv k = true then ⟨e.s, e.b, true⟩ :: liveE lv r (k + 1) else liveE lv r (k + 1)
theorem waitS_cons (e : En) (l : List En) : waitS (e :: l) = if e.safe = true then waitS l else e.s :: waitS l := by
  unfold waitS
  cases h : e.safe <;> simp [h]
theorem liveE_snoc (lv : Nat → Bool) (e : En) : ∀ (l : List En) (k : Nat), liveE lv (l ++ [e]) k = liveE lv l k ++ if e.safe = true ∨ lv (k + (waitS l).length) = true then [⟨e.s, e.b, true⟩] else []
  | [], k => by
    cases h : e.safe <;> cases h2 : lv k <;> simp [liveE, h, h2, waitS]
  | x :: r, k => by
    rw [List.cons_append, liveE, liveE, liveE_snoc lv e r k, liveE_snoc lv e r (k + 1), waitS_cons]
    cases h : x.safe
    · simp only [Bool.false_eq_true, if_false, List.length_cons]
      rw [show k + 1 + (waitS r).length = k + ((waitS r).length + 1) by omega]
      split <;> simp
    · simp
theorem liveE_fit {lv : Nat → Bool} : ∀ {l : List En} {k : Nat}, (∀ e ∈ l, e.b.length = 64) → ∀ e ∈ liveE lv l k, e.b.length = 64
  | [], _, _, e, he => by cases he
  | x :: r, k, h, e, he => by
    have hx := h x (by simp)
    have hr : ∀ e ∈ r, e.b.length = 64 := fun e he => h e (by simp [he])
    rw [liveE] at he
    split at he
    · rcases List.mem_cons.1 he with rfl | he
      · exact hx
      · exact liveE_fit hr e he
    · split at he
      · rcases List.mem_cons.1 he with rfl | he
        · exact hx
        · exact liveE_fit hr e he
      · exact liveE_fit hr e he
theorem liveE_len {lv : Nat → Bool} : ∀ (l : List En) (k : Nat), (liveE lv l k).length ≤ l.length
  | [], _ => Nat.le_refl _
  | x :: r, k => by
    have h1 := liveE_len (lv := lv) r k
    have h2 := liveE_len (lv := lv) r (k + 1)
    rw [liveE]
    split
    · simp only [List.length_cons]; omega
    · split <;> simp only [List.length_cons] <;> omega
def lvA (all : Bool) (ks : List Bool) (j : Nat) : Bool := all || lvB ks j

/-- A slice of one's own, read. -/
theorem own_ew {w : World} {base : Nat} {A : Option Addr} {n c : Nat} {l : List En} (h : w.ownsRow base 94 66 (.slice A n c) n (ens l)) (hf : ∀ e ∈ l, e.b.length = 64) (h0 : n = 0 → A = none) : Ew w A n c l ∧ ∀ x, A = some x → base ≤ x.block := by
  have hn : l.length = n := by
    have h1 := h.1
    rw [ens_len hf] at h1
    omega
  rcases h.2 with ⟨h2, h3⟩ | ⟨g, cap, cur, h2, hb, hg, hnc, hcm, hcs, htk⟩
  · injection h2 with h4 h5 h6
    subst h3 h4 h6
    obtain rfl := List.eq_nil_of_length_eq_zero hn
    exact ⟨Ew.nil_ w, fun x hx => by cases hx⟩
  · injection h2 with h4 h5 h6
    subst h4 h6
    refine ⟨⟨hn, hnc, hcm, hf, h0, fun _ => ⟨g, 0, rfl, (Array.getElem?_eq_some_iff.1 hg).1, fun j u hu => ?_⟩, fun e => by cases e⟩, fun x hx => by injection hx with hx; subst hx; exact hb⟩
    have := h.cells (g := g) rfl j u hu
    rwa [addr_add] at this
theorem Lies.fld {W : World} {b k : Nat} {l : List Value} (h : Lies W b k l) {j : Nat} (hj : j < k) (v : Value) : Lies (W.setCell ⟨b, j, none⟩ v) b k (l.set j v) := by
  have hjl : j < l.length := by rw [h.len]; exact hj
  refine ⟨fun i u hu => ?_, World.there_setCells (vs := [v]) h.th b j, by have := h.lt; simpa [World.setCell] using this, by rw [List.length_set]; exact h.len⟩
  rw [Nat.zero_add]
  by_cases hij : i = j
  · subst hij
    rw [List.getElem?_set_self hjl] at hu
    injection hu with hu
    subst hu
    exact World.cell?_setCell_same _ _ _ (h.cell (List.getElem?_eq_getElem hjl))
  · rw [List.getElem?_set_ne (Ne.symm hij)] at hu
    rw [World.cell?_setCell_other _ _ _ _ (by intro e; injection e with _ e; exact hij e.symm)]
    exact h.cell hu
theorem En.set65 (e : En) (hl : e.b.length = 64) (v : Bool) : e.cells.set 65 (.bool v) = (En.mk e.s e.b v).cells := by
  have hb : (bvs e.b).length = 64 := by rw [bvs_len, hl]
  simp only [En.cells, List.set_cons_succ]
  rw [List.set_append_right _ _ (by omega), hb]
  rfl
/-- A write copied into a variable of its own. -/
abbrev enW (w : World) (e : En) : World := (w.alloc (.cells Z66 94)).setCells w.heap.size 0 e.cells
theorem enW_lies (w : World) {e : En} (hl : e.b.length = 64) : Lies (enW w e) w.heap.size 66 e.cells := by
  have h := Lies.new w (En.cells ⟨0, Zb, false⟩) 94
  rw [En.cells_len (e := ⟨0, Zb, false⟩) Zb_len] at h
  exact h.set_ (En.cells_len hl)
theorem Z66_there (w : World) : (w.alloc (.cells Z66 94)).there w.heap.size 0 66 := by
  have h := Lies.new w (En.cells ⟨0, Zb, false⟩) 94
  rw [En.cells_len (e := ⟨0, Zb, false⟩) Zb_len] at h
  exact h.th
theorem enW_below (w : World) (e : En) : Below w.heap.size w (enW w e) := below_setCells ((Below.refl _ _).alloc (Nat.le_refl _) _) (Nat.le_refl _) _ _
theorem enW_size (w : World) (e : En) : (enW w e).heap.size = w.heap.size + 1 := by rw [(setCells_os _ _ _ _).2.2.2.1]; simp
theorem enW2_lies (w : World) {e : En} (hl : e.b.length = 64) : Lies ((enW w e).setCell ⟨w.heap.size, 65, none⟩ (.bool true)) w.heap.size 66 (En.mk e.s e.b true).cells := by
  have h := (enW_lies w hl).fld (j := 65) (by omega) (.bool true)
  rwa [En.set65 e hl] at h
theorem enW2_below (w : World) (e : En) : Below w.heap.size w ((enW w e).setCell ⟨w.heap.size, 65, none⟩ (.bool true)) := (enW_below w e).setCell (by simp) _
theorem enW2_size (w : World) (e : En) : ((enW w e).setCell ⟨w.heap.size, 65, none⟩ (.bool true)).heap.size = w.heap.size + 1 := by simp [World.setCell, enW_size]
end Go.Proofs.Ytionbjocfepkaaa
