/-
  LOGS: boxes of several cells; what stays while a loop over places runs.
-/
import Derived.Test.YtgdcahakefmakaaGc
import Derived.Sort.CutIn
import Derived.Maps.AppendAt
import Derived.Lib.AppendStr
namespace Go.Proofs.Ytgdcahakefmakaa
set_option linter.unusedVariables false
set_option linter.unusedSimpArgs false
open Go.RowKit Go.WideShapes Go.ChangeShapes Go.Deep Go.Shelf

section
variable {W W' V : World} {b : Nat} {t : TypeId} {cs : List Value} {row : Option Nat}
theorem Bl.rg (h : Bl W b t cs) : W.rangeAt b 0 cs := fun j v hv => by rw [Nat.zero_add, h.cell j]; exact hv
theorem Bl.th (h : Bl W b t cs) : W.there b 0 cs.length := fun j hj => by
  rw [Nat.zero_add]
  exact ⟨by rw [h.cell j, List.getElem?_eq_getElem hj]; rfl, h.frozen j⟩
theorem Bl.lies (h : Bl W b t cs) : Lies W b cs.length cs := ⟨h.rg, h.th, h.lt, rfl⟩
theorem Bl.own (h : Bl W b t cs) (hg : W.grownBy W' row) (hr : ∀ r, row = some r → V.heap.size ≤ r ∧ ∃ o : Obj, W.heap[r]? = some o ∧ o.isCells = false) : Bl W' b t cs :=
  h.grown hg fun e => by
    obtain ⟨_, o, ho, hc⟩ := hr b e.symm
    rw [show W.heap[b]? = _ from h] at ho
    cases ho
    cases hc
theorem bl_set2 {u0 u1 : Value} (h : Bl W b t [u0, u1]) (v0 v1 : Value) : Bl ((W.setCell ⟨b, 0, none⟩ v0).setCell ⟨b, 1, none⟩ v1) b t [v0, v1] := (h.set_ 0 v0).set_ 1 v1
theorem bl_set3 {u0 u1 u2 : Value} (h : Bl W b t [u0, u1, u2]) (v0 v1 v2 : Value) : Bl (((W.setCell ⟨b, 0, none⟩ v0).setCell ⟨b, 1, none⟩ v1).setCell ⟨b, 2, none⟩ v2) b t [v0, v1, v2] := ((h.set_ 0 v0).set_ 1 v1).set_ 2 v2
theorem bl_setCells {vs : List Value} (h : Bl W b t cs) (hl : vs.length = cs.length) : Bl (W.setCells b 0 vs) b t vs := by
  have key : ∀ (vs pre rest : List Value) (W : World), Bl W b t (pre ++ rest) → vs.length = rest.length → Bl (W.setCells b pre.length vs) b t (pre ++ vs) := by
    intro vs
    induction vs with
    | nil =>
      intro pre rest W h hl
      obtain rfl : rest = [] := List.eq_nil_of_length_eq_zero (by simpa using hl.symm)
      exact h
    | cons v r ih =>
      intro pre rest W h hl
      rcases rest with _ | ⟨u, rest⟩
      · simp at hl
      · have h1 := h.set_ pre.length v
        rw [List.set_append_right _ _ (Nat.le_refl _), Nat.sub_self, List.set_cons_zero] at h1
        have h2 := ih (pre ++ [v]) rest (W.setCell ⟨b, pre.length, none⟩ v) (by simpa using h1) (by simpa using hl)
        rw [List.length_append, List.append_assoc] at h2
        exact h2
  exact key vs [] cs W h hl
theorem bl_ne {W : World} {a b : Nat} {t u : TypeId} {cs ds : List Value} (h : Bl W a t cs) (k : Bl W b u ds) (ht : t ≠ u) : a ≠ b := fun e => by
  subst e
  have k' : W.heap[a]? = _ := k
  rw [show W.heap[a]? = _ from h] at k'
  injection k' with k
  injection k with _ k
  exact ht k
theorem below_own {B : Nat} (h : Below B W W') (hw : B ≤ W.heap.size) {W2 : World} (hg : W'.grownBy W2 row) (hB : B ≤ V.heap.size) (hr : ∀ r, row = some r → V.heap.size ≤ r ∧ ∃ o : Obj, W'.heap[r]? = some o ∧ o.isCells = false) : Below B W W2 :=
  ⟨hg.os.trans h.os, hg.tape.trans h.tape, hg.output.trans h.output, Nat.le_trans h.size hg.size, fun k hk => (hg.block k (by have := h.size; omega) (fun e => by have := (hr k e.symm).1; omega)).trans (h.block k hk)⟩
theorem keeps_below {B : Nat} {W W' : World} (hb : Below W.heap.size W W') : KeepsFrom B W W' := ⟨hb.size, fun j o _ hj _ => by rw [hb.block j (Array.getElem?_eq_some_iff.1 hj).1]; exact hj⟩
theorem kp_put {n₀ Be Ba : Nat} (hBe : Be < V.heap.size) (hBa : Ba < V.heap.size) (hn₀ : n₀ ≤ V.heap.size) {l : Nat} (hl : V.heap.size ≤ l) (o' : Obj) : Mv (TnP n₀ Be Ba) W (W.putObj l o') :=
  Mv.of_grown (grownBy_putObj' W l o') (fun g e => by cases e; exact .inl ⟨by omega, by omega, by omega⟩)
theorem below_put {B D : Nat} (h : B ≤ D) {W : World} {o : Obj} : Below B W (W.putObj D o) := by
  have hg := grownBy_putObj' W D o
  exact ⟨hg.os, hg.tape, hg.output, hg.size, fun k hk => by
    rcases Nat.lt_or_ge k W.heap.size with h1 | h1
    · exact hg.block k h1 (fun e => by injection e with e; omega)
    · rw [Array.getElem?_eq_none h1, Array.getElem?_eq_none (by simpa [World.putObj] using h1)]⟩
theorem below_cell {w : World} {b o n₀ : Nat} {v : Value} (hb : n₀ ≤ b) (hw : n₀ ≤ w.heap.size) : Below n₀ w (w.setCell ⟨b, o, none⟩ v) :=
  below_of_only (only_set (only_refl w (some b)) (p := ⟨b, o, none⟩) rfl v) hb hw
theorem keeps_set (B : Nat) (p : Addr) (v : Value) : KeepsFrom B W (W.setCell p v) := (KeepsOthers.setCell _ _ _).from _
theorem keeps_setCells (B : Nat) {b : Nat} : ∀ (vs : List Value) (o : Nat) (W : World), KeepsFrom B W (W.setCells b o vs)
  | [], _, W => KeepsFrom.refl B W
  | v :: r, o, W => (keeps_set B _ v).trans (keeps_setCells B r (o + 1) _)
end
end Go.Proofs.Ytgdcahakefmakaa
