/-
  COMMANDS, PURE: the program's Check is the document's.
-/
import Derived.Test.YthionkcnmkhopaaEg
namespace Go.Proofs.Ythionkcnmkhopaa
set_option linter.unusedVariables false
set_option linter.unusedSimpArgs false
open Go.RowKit Go.WideShapes Go.ChangeShapes Go.Deep

theorem filled1 (b1 b2 b3 b4 : Bool) : isFilledB 1 (filledB b1 b2 b3 b4) = (b1 && !b2 && !b3 && !b4) := by cases b1 <;> cases b2 <;> cases b3 <;> cases b4 <;> decide +kernel
theorem filled2 (b1 b2 b3 b4 : Bool) : isFilledB 7 (filledB b1 b2 b3 b4) = (b1 && !b4) := by cases b1 <;> cases b2 <;> cases b3 <;> cases b4 <;> decide +kernel
theorem filled3 (b1 b2 b3 b4 : Bool) : isFilledB 5 (filledB b1 b2 b3 b4) = (b1 && !b2 && !b4) := by cases b1 <;> cases b2 <;> cases b3 <;> cases b4 <;> decide +kernel
theorem filled4 (b1 b2 b3 b4 : Bool) : isFilledB 8 (filledB b1 b2 b3 b4) = (!b1 && !b2 && !b3 && b4) := by cases b1 <;> cases b2 <;> cases b3 <;> cases b4 <;> decide +kernel
theorem empty_size (s : ByteArray) : s.toList.isEmpty = decide (s.size = 0) := by
  have h : s.toList.length = s.size := by rw [ByteArray.toList_eq, Array.length_toList]; rfl
  cases hl : s.toList with
  | nil => rw [hl] at h; simp only [List.length_nil] at h; simp only [List.isEmpty_nil]; exact (decide_eq_true h.symm).symm
  | cons a r => rw [hl] at h; simp only [List.length_cons] at h; simp only [List.isEmpty_cons]; exact (decide_eq_false (by omega)).symm
theorem vis_empty (s : ByteArray) (h : s.size = 0) : visW s = true := by
  have : s.data.toList = [] := List.eq_nil_of_length_eq_zero (by simpa using h)
  unfold visW
  rw [this]
  rfl
theorem right_ok (x : Cf) (n : Nat) : rightF x n = okF x n := by
  unfold rightF okF askedW preR putR sizeR idsR nameW filledW
  rw [empty_size]
  generalize hv : visW x.branch = v
  have hve := vis_empty x.branch
  rw [hv] at hve
  generalize (x.old.b == Idv.zero.b) = o
  generalize (x.new.b == Idv.zero.b) = q
  generalize x.branch.size = s at *
  generalize x.client = c
  generalize x.seq = u
  generalize x.kind = k
  by_cases k1 : k = 1
  · subst k1
    rw [show fieldsW 1 = 1 from rfl, filled1]
    rw [Bool.eq_iff_iff]
    cases o <;> cases q <;> cases v <;> simp <;> omega
  by_cases k2 : k = 2
  · subst k2
    rw [show fieldsW 2 = 7 from rfl, filled2]
    rw [Bool.eq_iff_iff]
    cases o <;> cases q <;> cases v <;> simp <;> omega
  by_cases k3 : k = 3
  · subst k3
    rw [show fieldsW 3 = 5 from rfl, filled3]
    rw [Bool.eq_iff_iff]
    cases o <;> cases q <;> cases v <;> simp <;> omega
  by_cases k4 : k = 4
  · subst k4
    rw [show fieldsW 4 = 8 from rfl, filled4]
    rw [Bool.eq_iff_iff]
    cases o <;> cases q <;> cases v <;> simp at hve ⊢ <;> omega
  rw [show fieldsW k = 0 by unfold fieldsW; rw [if_neg k1, if_neg k2, if_neg k3, if_neg k4]]
  have e : isFilledB 0 (filledB (!decide (s = 0)) (!o) (!q) (decide (0 < n))) = false := rfl
  rw [e, Bool.eq_iff_iff]
  simp
  omega
end Go.Proofs.Ythionkcnmkhopaa
