/-
  WHAT A DISK's STEPS DO, as plain Lean: sectors that hold what was written last; no memory here.
-/
import Derived.Test.YtionbjocfepkaaaDh
namespace Go.Proofs.Ytionbjocfepkaaa
set_option linter.unusedVariables false

/-- What sector i holds. -/
def Mo.hold (M : Mo) (i : Nat) : List UInt8 := holdsOf M.safe M.wt i
/-- A disk with power, no fuse and no fault. -/
structure Mo.Plain (M : Mo) : Prop where
  dead : M.dead = false
  fu : M.fu.1 = false
  fa : M.fa.1 = false
theorem due_off {f : Bool × Int} (h : f.1 = false) : dueB f = false := by simp [dueB, h]
theorem passed_off {f : Bool × Int} (h : f.1 = false) : passed f = f := by simp [passed, h]

theorem hold_snoc (safe : List (List UInt8)) (wt : List (Nat × List UInt8)) (n : Nat) (x : List UInt8) (i : Nat) : holdsOf safe (wt ++ [(n, x)]) i = if i = n then x else holdsOf safe wt i := by
  unfold holdsOf
  by_cases h : i = n
  · subst h
    rw [waitsOf_snoc_same, if_pos rfl]
    simp
  · rw [waitsOf_snoc_other (Ne.symm h), if_neg h]
theorem hold_cons (safe : List (List UInt8)) (p : Nat × List UInt8) (r : List (Nat × List UInt8)) (i : Nat) (hp : p.1 < safe.length) : holdsOf safe (p :: r) i = holdsOf (safe.set p.1 p.2) r i := by
  obtain ⟨n, x⟩ := p
  unfold holdsOf
  by_cases h : n = i
  · subst h
    rw [waitsOf_cons_same]
    cases hr : waitsOf r n with
    | nil =>
      simp only [List.getLast?_singleton, Option.getD_some, List.getLast?_nil, Option.getD_none]
      rw [List.getD_eq_getElem?_getD, List.getElem?_set_self hp]
      rfl
    | cons y l =>
      rw [List.getLast?_cons_cons, List.getLast?_eq_some_getLast (by simp)]
      rfl
  · rw [waitsOf_cons_other h]
    congr 1
    rw [List.getD_eq_getElem?_getD, List.getD_eq_getElem?_getD, List.getElem?_set_ne h]
theorem hold_nil (safe : List (List UInt8)) (i : Nat) : holdsOf safe [] i = safe.getD i [] := rfl
/-- All waits live: what a sector holds is safe. -/
theorem settle_all (lv : Nat → Bool) : ∀ (wt : List (Nat × List UInt8)) (k : Nat) (safe : List (List UInt8)) (i : Nat), (∀ p ∈ wt, p.1 < safe.length) → (∀ j, j < wt.length → lv (k + j) = true) → (settleL lv wt k safe).getD i [] = holdsOf safe wt i
  | [], _, _, _, _, _ => rfl
  | p :: r, k, safe, i, hp, hl => by
    have h0 : lv k = true := hl 0 (by simp)
    rw [settleL, if_pos h0, hold_cons safe p r i (hp p (by simp))]
    exact settle_all lv r (k + 1) _ i (fun q hq => by rw [List.length_set]; exact hp q (by simp [hq])) (fun j hj => by rw [show k + 1 + j = k + (j + 1) by omega]; exact hl (j + 1) (by simp; omega))
theorem settle_none (lv : Nat → Bool) : ∀ (wt : List (Nat × List UInt8)) (k : Nat) (safe : List (List UInt8)), (∀ j, j < wt.length → lv (k + j) = false) → settleL lv wt k safe = safe
  | [], _, _, _ => rfl
  | p :: r, k, safe, hl => by
    have h0 : lv k = false := hl 0 (by simp)
    rw [settleL, h0, if_neg (by decide)]
    exact settle_none lv r (k + 1) safe (fun j hj => by rw [show k + 1 + j = k + (j + 1) by omega]; exact hl (j + 1) (by simp; omega))
theorem settle_len (lv : Nat → Bool) : ∀ (wt : List (Nat × List UInt8)) (k : Nat) (safe : List (List UInt8)), (settleL lv wt k safe).length = safe.length
  | [], _, _ => rfl
  | p :: r, k, safe => by
    rw [settleL, settle_len lv r]
    split <;> simp

section
variable {M : Mo}
theorem Mo.Plain.read (h : M.Plain) (i : Int) : M.read i = if hasB M.safe.length i = true then ({ M with fa := passed M.fa, ops := M.ops + 1 }, M.hold i.toNat, 0) else (M, Zb, 2) := by
  unfold Mo.read
  rw [if_neg (by simp [h.dead])]
  cases hb : hasB M.safe.length i
  · rw [if_pos rfl, if_neg (by decide)]
  · rw [if_neg (by decide), if_pos rfl, if_neg (by simp [due_off h.fa])]
    rfl
theorem Mo.Plain.alter (h : M.Plain) (there : Bool) (sf : List (List UInt8)) (wt' : List (Nat × List UInt8)) : M.alter there sf wt' = if there = true then ({ safe := sf, wt := wt', fu := passed M.fu, fa := passed M.fa, dead := false, ops := M.ops + 1 }, 0) else (M, 2) := by
  unfold Mo.alter
  rw [if_neg (by simp [h.dead])]
  cases there
  · rw [if_pos rfl, if_neg (by decide)]
  · rw [if_neg (by decide), if_pos rfl, if_neg (by simp [due_off h.fa]), if_neg (by simp [due_off h.fu])]
end
end Go.Proofs.Ytionbjocfepkaaa
