/-
  COMMANDS: whether somebody may ask so; the fields of a Kind; what is filled.
-/
import Derived.Test.YthionkcnmkhopaaEa
namespace Go.Proofs.Ythionkcnmkhopaa
set_option linter.unusedVariables false
set_option linter.unusedSimpArgs false
open Go.RowKit Go.WideShapes Go.ChangeShapes Go.Deep
attribute [local irreducible] wpQuiet

/-- A command as an argument: its box. -/
theorem boxed_cf (w : World) (x : Cf) : ∃ w1, w.alloc (.cells x.cells.toArray 27) = w1 ∧ Below w.heap.size w w1 ∧ w1.heap.size = w.heap.size + 1 ∧ Lies w1 w.heap.size 69 x.cells := by
  refine ⟨_, rfl, (Below.refl _ _).alloc (Nat.le_refl _) _, by simp, ?_⟩
  have := Lies.new w x.cells 27
  rwa [cf_sz] at this
def askedW (x : Cf) : Bool := decide (1 ≤ x.client) && decide (x.client ≤ 3) && decide (0 < x.seq)
def fieldsW (k : Int) : Int := if k = 1 then 1 else if k = 2 then 7 else if k = 3 then 5 else if k = 4 then 8 else 0
def orIf (b : Bool) (o k : Int) : Int := if b then bits .or .i64 o k else o
def filledB (b1 b2 b3 b4 : Bool) : Int := orIf b4 (orIf b3 (orIf b2 (orIf b1 0 1) 2) 4) 8
def filledW (x : Cf) (n : Nat) : Int := filledB (!x.branch.toList.isEmpty) (!(x.old.b == Idv.zero.b)) (!(x.new.b == Idv.zero.b)) (decide (0 < n))
set_option maxHeartbeats 2000000 in
set_option maxRecDepth 100000 in
theorem isAsked_any (w : World) (x : Cf) : Calls Try.prog 19 #[cfV x] w fun e w' => e = .returned (.bool (askedW x)) ∧ Below w.heap.size w w' := by
  obtain ⟨w1, hw1, B1, s1, X1⟩ := boxed_cf w x
  have HW := Lib.hid hw1
  have HB := Lib.hid B1
  obtain ⟨a0, a1, a2, a3, a4, a5, a6⟩ := cf_lies X1
  clear a0 a3 a4 a5 a6 hw1 B1 X1
  unfold askedW
  by_cases h1 : 1 ≤ x.client
  · have d1 : decide (1 ≤ x.client) = true := by simpa using h1
    by_cases h2 : x.client ≤ 3
    · have d2 : decide (x.client ≤ 3) = true := by simpa using h2
      go_enter Try.func19, Try.ntmps19
      go_upto_region 1 with fail
      rw [HW.out]
      go_wp2_with fail
      go_ret
      refine ⟨?_, HB.out⟩
      rw [d1, d2]
      simp
    · have d2 : decide (x.client ≤ 3) = false := by simpa using h2
      go_enter Try.func19, Try.ntmps19
      go_upto_region 1 with fail
      rw [HW.out]
      go_wp2_with fail
      go_ret
      exact ⟨rfl, HB.out⟩
  · have d1 : decide (1 ≤ x.client) = false := by simpa using h1
    go_enter Try.func19, Try.ntmps19
    go_upto_region 1 with fail
    rw [HW.out]
    go_wp2_with fail
    go_ret
    exact ⟨rfl, HB.out⟩
set_option maxHeartbeats 2000000 in
theorem fields_any (w : World) (k : Int) (hk : -9223372036854775808 ≤ k ∧ k ≤ 9223372036854775807) : Calls Try.prog 36 #[.int .i64 k] w fun e w' => e = .returned (.int .i64 (fieldsW k)) ∧ w = w' := by
  unfold fieldsW
  by_cases h1 : k = 1
  · subst h1
    go_enter Try.func36, Try.ntmps36
    go_wp2
    go_ret
    exact ⟨rfl, rfl⟩
  by_cases h2 : k = 2
  · subst h2
    go_enter Try.func36, Try.ntmps36
    go_wp2
    go_ret
    exact ⟨rfl, rfl⟩
  by_cases h3 : k = 3
  · subst h3
    go_enter Try.func36, Try.ntmps36
    go_wp2
    go_ret
    exact ⟨rfl, rfl⟩
  by_cases h4 : k = 4
  · subst h4
    go_enter Try.func36, Try.ntmps36
    go_wp2
    go_ret
    exact ⟨rfl, rfl⟩
  have d1 : (k == 1) = false := by simpa using h1
  have d2 : (k == 2) = false := by simpa using h2
  have d3 : (k == 3) = false := by simpa using h3
  have d4 : (k == 4) = false := by simpa using h4
  rw [if_neg h1, if_neg h2, if_neg h3, if_neg h4]
  clear h1 h2 h3 h4
  go_enter Try.func36, Try.ntmps36
  go_wp2
  go_ret
  exact ⟨rfl, rfl⟩
set_option maxHeartbeats 4000000 in
set_option maxRecDepth 100000 in
theorem filled_any (w : World) (x : Cf) (A : Option Addr) (n c : Nat) (hdv : x.dv = .slice A n c) (hn : n ≤ 140737488355328) : Calls Try.prog 37 #[cfV x] w fun e w' => e = .returned (.int .i64 (filledW x n)) ∧ Below w.heap.size w w' := by
  obtain ⟨w1, hw1, B1, s1, X1⟩ := boxed_cf w x
  have HW := Lib.hid hw1
  have HB := Lib.hid B1
  obtain ⟨a0, a1, a2, a3, a4, a5, a6⟩ := cf_lies X1
  rw [hdv] at a6
  have R4 := Lib.hid a4
  have R5 := Lib.hid a5
  clear a0 a1 a2 a4 a5 hw1 B1 X1
  obtain ⟨zi, hzi⟩ : ∃ z, Idv.zero = z := ⟨_, rfl⟩
  have BZ : Hid (Try.prog.built 24 [] = some (bvs zi.b).toArray) := Lib.hid (by rw [← hzi]; exact built_idz)
  unfold filledW
  rw [hzi]
  clear hzi
  have E4 := eq_id x.old zi
  have E5 := eq_id x.new zi
  obtain ⟨q2, h2⟩ : ∃ q, (x.old.b == zi.b) = q := ⟨_, rfl⟩
  obtain ⟨q3, h3⟩ : ∃ q, (x.new.b == zi.b) = q := ⟨_, rfl⟩
  obtain ⟨q4, h4⟩ : ∃ q, decide (0 < n) = q := ⟨_, rfl⟩
  obtain ⟨q1, h1⟩ : ∃ q, x.branch.toList.isEmpty = q := ⟨_, rfl⟩
  rw [h1, h2, h3, h4]
  rw [h2] at E4
  rw [h3] at E5
  clear h2 h3
  unfold Idv.cells at E4 E5
  have e4 := Lib.hid E4
  have e5 := Lib.hid E5
  clear E4 E5
  cases q1 <;> cases q2 <;> cases q3 <;> cases q4 <;> (
    go_enter Try.func37, Try.ntmps37
    go_upto_region 1 with fail
    rw [HW.out]
    have en4 := e4.out
    have en5 := e5.out
    go_wp2_with (first
      | ((with_reducible refine ldi (.tmp 9) ?_ ?_ w.heap.size 4 x.old ?_ R4.out ?_); (rfl); (first | rfl | go_simp); (first | rfl | go_simp))
      | ((with_reducible refine ldi (.tmp 15) ?_ ?_ w.heap.size 36 x.new ?_ R5.out ?_); (rfl); (first | rfl | go_simp); (first | rfl | go_simp))
      | ((with_reducible refine bdt 24 [] ?_ ?_ (bvs zi.b).toArray ?_ ?_); rfl; rfl; exact BZ.out)
      | fail)
    go_ret
    exact ⟨rfl, HB.out⟩)
end Go.Proofs.Ythionkcnmkhopaa
