/-
  THE DOCUMENT'S OWN DISK (confluenceref02): what it is in memory; Fits, Fresh, Set, begin.
-/
import Derived.Test.YtionbjocfepkaaaLawe
namespace Go.Proofs.Ytionbjocfepkaaa
set_option linter.unusedVariables false
set_option linter.unusedSimpArgs false
open Go.RowKit Go.WideShapes Go.ChangeShapes Go.Deep

abbrev rfV (n : Int) (V : Value) (dead : Bool) (fu fa done : Int) : Value := .agg #[.int .i64 n, V, .bool dead, .int .i64 fu, .int .i64 fa, .int .i64 done]

theorem fresh_any (n : Int) (w : World) : Calls Try.prog 7 #[.int .i64 n] w fun e w' => e = .returned (rfV n (.slice none 0 0) false (-1) (-1) 0) ∧ Below w.heap.size w w' := by
  go_enter Try.func7, Try.ntmps7
  go_wp2
  exact bodyPost_ret (v := rfV n (.slice none 0 0) false (-1) (-1) 0) (by simp [results, Try.results7, go_sem]) rfl ⟨rfl, (Below.refl _ _).alloc (Nat.le_refl _) _⟩
def setR (n : Int) : Int := if n < 0 then -1 else n
theorem set_any (n : Int) (w : World) : Calls Try.prog 32 #[.int .i64 n] w fun e w' => e = .returned (.int .i64 (setR n)) ∧ w = w' := by
  unfold setR
  by_cases h : n < 0
  · rw [if_pos h]
    go_enter Try.func32, Try.ntmps32
    go_wp2
    go_ret
    exact ⟨rfl, rfl⟩
  · rw [if_neg h]
    have h' : decide (n < 0) = false := by simpa using h
    go_enter Try.func32, Try.ntmps32
    go_wp2
    go_ret
    exact ⟨rfl, rfl⟩

/-- What the document's disk is, but for its sectors and writes. -/
structure Rs where
  dead : Bool
  fu : Int
  fa : Int
  done : Int
abbrev Rs.val (s : Rs) (n : Int) (V : Value) : Value := rfV n V s.dead s.fu s.fa s.done
structure Rs.Ok (s : Rs) : Prop where
  fu : -1 ≤ s.fu ∧ s.fu ≤ 9223372036854775807
  fa : -1 ≤ s.fa ∧ s.fa ≤ 9223372036854775807
  done : 0 ≤ s.done
def Rs.begin (s : Rs) (n i : Int) (burns : Bool) : Rs × Int :=
  if s.dead = true then (s, 9) else if i < 0 ∨ n ≤ i then (s, 2) else if s.fa = 0 then ({ s with fa := -1 }, 8) else
  if burns = true ∧ s.fu = 0 then (⟨true, -1, if 0 < s.fa then s.fa - 1 else s.fa, s.done⟩, 9) else
  (⟨s.dead, if burns = true ∧ 0 < s.fu then s.fu - 1 else s.fu, if 0 < s.fa then s.fa - 1 else s.fa, s.done + 1⟩, 0)
theorem Rs.Ok.begin {s : Rs} (h : s.Ok) (n i : Int) (burns : Bool) : (s.begin n i burns).1.Ok := by
  obtain ⟨⟨f1, f2⟩, ⟨a1, a2⟩, d⟩ := h
  unfold Rs.begin
  split
  · exact ⟨⟨f1, f2⟩, ⟨a1, a2⟩, d⟩
  · split
    · exact ⟨⟨f1, f2⟩, ⟨a1, a2⟩, d⟩
    · split
      · exact ⟨⟨f1, f2⟩, ⟨by simp, by simp⟩, d⟩
      · split
        · refine ⟨⟨by simp, by simp⟩, ?_, d⟩
          show -1 ≤ (if 0 < s.fa then s.fa - 1 else s.fa) ∧ (if 0 < s.fa then s.fa - 1 else s.fa) ≤ 9223372036854775807
          split <;> omega
        · refine ⟨?_, ?_, by show 0 ≤ s.done + 1; omega⟩
          · show -1 ≤ (if burns = true ∧ 0 < s.fu then s.fu - 1 else s.fu) ∧ (if burns = true ∧ 0 < s.fu then s.fu - 1 else s.fu) ≤ 9223372036854775807
            split <;> omega
          · show -1 ≤ (if 0 < s.fa then s.fa - 1 else s.fa) ∧ (if 0 < s.fa then s.fa - 1 else s.fa) ≤ 9223372036854775807
            split <;> omega

set_option maxHeartbeats 2000000 in
theorem begin_any {s : Rs} (hs : s.Ok) (hd : s.done ≤ 4611686018427387904) (n i : Int) (burns : Bool) (A : Option Addr) (l c : Nat) (w : World) :
    Calls Try.prog 52 #[s.val n (.slice A l c), .int .i64 i, .bool burns] w fun e w' => e = .returned (.tuple #[(s.begin n i burns).1.val n (.slice A l c), .int .i64 (s.begin n i burns).2]) ∧ Below w.heap.size w w' := by
  obtain ⟨dead, fu, fa, done⟩ := s
  obtain ⟨⟨f1, f2⟩, ⟨a1, a2⟩, d1⟩ := hs
  simp only at f1 f2 a1 a2 d1 hd
  cases dead
  · by_cases hi : i < 0
    · have q1 : decide (i < 0) = true := by simpa using hi
      cases burns
      · rw [show Rs.begin ⟨false, fu, fa, done⟩ n i false = (⟨false, fu, fa, done⟩, 2) by unfold Rs.begin; simp [hi]]
        go_enter Try.func52, Try.ntmps52
        go_wp2
        exact bodyPost_ret (v := .tuple #[rfV n (.slice A l c) false (fu) (fa) (done), .int .i64 2]) (by simp [results, Try.results52, go_sem]) rfl ⟨rfl, ((Below.refl _ _).alloc (Nat.le_refl _) _).alloc (by simp) _⟩
      · rw [show Rs.begin ⟨false, fu, fa, done⟩ n i true = (⟨false, fu, fa, done⟩, 2) by unfold Rs.begin; simp [hi]]
        go_enter Try.func52, Try.ntmps52
        go_wp2
        exact bodyPost_ret (v := .tuple #[rfV n (.slice A l c) false (fu) (fa) (done), .int .i64 2]) (by simp [results, Try.results52, go_sem]) rfl ⟨rfl, ((Below.refl _ _).alloc (Nat.le_refl _) _).alloc (by simp) _⟩
    · have q1 : decide (i < 0) = false := by simpa using hi
      by_cases hi2 : n ≤ i
      · have q2 : decide (n ≤ i) = true := by simpa using hi2
        cases burns
        · rw [show Rs.begin ⟨false, fu, fa, done⟩ n i false = (⟨false, fu, fa, done⟩, 2) by unfold Rs.begin; simp [hi2]]
          go_enter Try.func52, Try.ntmps52
          go_wp2
          exact bodyPost_ret (v := .tuple #[rfV n (.slice A l c) false (fu) (fa) (done), .int .i64 2]) (by simp [results, Try.results52, go_sem]) rfl ⟨rfl, ((Below.refl _ _).alloc (Nat.le_refl _) _).alloc (by simp) _⟩
        · rw [show Rs.begin ⟨false, fu, fa, done⟩ n i true = (⟨false, fu, fa, done⟩, 2) by unfold Rs.begin; simp [hi2]]
          go_enter Try.func52, Try.ntmps52
          go_wp2
          exact bodyPost_ret (v := .tuple #[rfV n (.slice A l c) false (fu) (fa) (done), .int .i64 2]) (by simp [results, Try.results52, go_sem]) rfl ⟨rfl, ((Below.refl _ _).alloc (Nat.le_refl _) _).alloc (by simp) _⟩
      · have q2 : decide (n ≤ i) = false := by simpa using hi2
        by_cases hfa : fa = 0
        · have q3 : (fa == 0) = true := by simpa using hfa
          cases burns
          · rw [show Rs.begin ⟨false, fu, fa, done⟩ n i false = (⟨false, fu, -1, done⟩, 8) by unfold Rs.begin; simp [hi, hi2, hfa]]
            go_enter Try.func52, Try.ntmps52
            go_wp2
            exact bodyPost_ret (v := .tuple #[rfV n (.slice A l c) false (fu) (-1) (done), .int .i64 8]) (by simp [results, Try.results52, go_sem]) rfl ⟨rfl, ((Below.refl _ _).alloc (Nat.le_refl _) _).alloc (by simp) _⟩
          · rw [show Rs.begin ⟨false, fu, fa, done⟩ n i true = (⟨false, fu, -1, done⟩, 8) by unfold Rs.begin; simp [hi, hi2, hfa]]
            go_enter Try.func52, Try.ntmps52
            go_wp2
            exact bodyPost_ret (v := .tuple #[rfV n (.slice A l c) false (fu) (-1) (done), .int .i64 8]) (by simp [results, Try.results52, go_sem]) rfl ⟨rfl, ((Below.refl _ _).alloc (Nat.le_refl _) _).alloc (by simp) _⟩
        · have q3 : (fa == 0) = false := by simpa using hfa
          by_cases hfp : 0 < fa
          · have q4 : decide (0 < fa) = true := by simpa using hfp
            cases burns
            · rw [show Rs.begin ⟨false, fu, fa, done⟩ n i false = (⟨false, fu, fa - 1, done + 1⟩, 0) by unfold Rs.begin; simp [hi, hi2, hfa, hfp]]
              go_enter Try.func52, Try.ntmps52
              go_wp2
              exact bodyPost_ret (v := .tuple #[rfV n (.slice A l c) false (fu) (fa - 1) (done + 1), .int .i64 0]) (by simp [results, Try.results52, go_sem]) rfl ⟨rfl, ((Below.refl _ _).alloc (Nat.le_refl _) _).alloc (by simp) _⟩
            · by_cases hfu : fu = 0
              · have q5 : (fu == 0) = true := by simpa using hfu
                rw [show Rs.begin ⟨false, fu, fa, done⟩ n i true = (⟨true, -1, fa - 1, done⟩, 9) by unfold Rs.begin; simp [hi, hi2, hfa, hfp, hfu]]
                go_enter Try.func52, Try.ntmps52
                go_wp2
                exact bodyPost_ret (v := .tuple #[rfV n (.slice A l c) true (-1) (fa - 1) (done), .int .i64 9]) (by simp [results, Try.results52, go_sem]) rfl ⟨rfl, ((Below.refl _ _).alloc (Nat.le_refl _) _).alloc (by simp) _⟩
              · have q5 : (fu == 0) = false := by simpa using hfu
                by_cases hfup : 0 < fu
                · have q6 : decide (0 < fu) = true := by simpa using hfup
                  rw [show Rs.begin ⟨false, fu, fa, done⟩ n i true = (⟨false, fu - 1, fa - 1, done + 1⟩, 0) by unfold Rs.begin; simp [hi, hi2, hfa, hfp, hfu, hfup]]
                  go_enter Try.func52, Try.ntmps52
                  go_wp2
                  exact bodyPost_ret (v := .tuple #[rfV n (.slice A l c) false (fu - 1) (fa - 1) (done + 1), .int .i64 0]) (by simp [results, Try.results52, go_sem]) rfl ⟨rfl, ((Below.refl _ _).alloc (Nat.le_refl _) _).alloc (by simp) _⟩
                · have q6 : decide (0 < fu) = false := by simpa using hfup
                  rw [show Rs.begin ⟨false, fu, fa, done⟩ n i true = (⟨false, fu, fa - 1, done + 1⟩, 0) by unfold Rs.begin; simp [hi, hi2, hfa, hfp, hfu, hfup]]
                  go_enter Try.func52, Try.ntmps52
                  go_wp2
                  exact bodyPost_ret (v := .tuple #[rfV n (.slice A l c) false (fu) (fa - 1) (done + 1), .int .i64 0]) (by simp [results, Try.results52, go_sem]) rfl ⟨rfl, ((Below.refl _ _).alloc (Nat.le_refl _) _).alloc (by simp) _⟩
          · have q4 : decide (0 < fa) = false := by simpa using hfp
            cases burns
            · rw [show Rs.begin ⟨false, fu, fa, done⟩ n i false = (⟨false, fu, fa, done + 1⟩, 0) by unfold Rs.begin; simp [hi, hi2, hfa, hfp]]
              go_enter Try.func52, Try.ntmps52
              go_wp2
              exact bodyPost_ret (v := .tuple #[rfV n (.slice A l c) false (fu) (fa) (done + 1), .int .i64 0]) (by simp [results, Try.results52, go_sem]) rfl ⟨rfl, ((Below.refl _ _).alloc (Nat.le_refl _) _).alloc (by simp) _⟩
            · by_cases hfu : fu = 0
              · have q5 : (fu == 0) = true := by simpa using hfu
                rw [show Rs.begin ⟨false, fu, fa, done⟩ n i true = (⟨true, -1, fa, done⟩, 9) by unfold Rs.begin; simp [hi, hi2, hfa, hfp, hfu]]
                go_enter Try.func52, Try.ntmps52
                go_wp2
                exact bodyPost_ret (v := .tuple #[rfV n (.slice A l c) true (-1) (fa) (done), .int .i64 9]) (by simp [results, Try.results52, go_sem]) rfl ⟨rfl, ((Below.refl _ _).alloc (Nat.le_refl _) _).alloc (by simp) _⟩
              · have q5 : (fu == 0) = false := by simpa using hfu
                by_cases hfup : 0 < fu
                · have q6 : decide (0 < fu) = true := by simpa using hfup
                  rw [show Rs.begin ⟨false, fu, fa, done⟩ n i true = (⟨false, fu - 1, fa, done + 1⟩, 0) by unfold Rs.begin; simp [hi, hi2, hfa, hfp, hfu, hfup]]
                  go_enter Try.func52, Try.ntmps52
                  go_wp2
                  exact bodyPost_ret (v := .tuple #[rfV n (.slice A l c) false (fu - 1) (fa) (done + 1), .int .i64 0]) (by simp [results, Try.results52, go_sem]) rfl ⟨rfl, ((Below.refl _ _).alloc (Nat.le_refl _) _).alloc (by simp) _⟩
                · have q6 : decide (0 < fu) = false := by simpa using hfup
                  rw [show Rs.begin ⟨false, fu, fa, done⟩ n i true = (⟨false, fu, fa, done + 1⟩, 0) by unfold Rs.begin; simp [hi, hi2, hfa, hfp, hfu, hfup]]
                  go_enter Try.func52, Try.ntmps52
                  go_wp2
                  exact bodyPost_ret (v := .tuple #[rfV n (.slice A l c) false (fu) (fa) (done + 1), .int .i64 0]) (by simp [results, Try.results52, go_sem]) rfl ⟨rfl, ((Below.refl _ _).alloc (Nat.le_refl _) _).alloc (by simp) _⟩
  · cases burns
    · rw [show Rs.begin ⟨true, fu, fa, done⟩ n i false = (⟨true, fu, fa, done⟩, 9) by unfold Rs.begin; simp]
      go_enter Try.func52, Try.ntmps52
      go_wp2
      exact bodyPost_ret (v := .tuple #[rfV n (.slice A l c) true (fu) (fa) (done), .int .i64 9]) (by simp [results, Try.results52, go_sem]) rfl ⟨rfl, ((Below.refl _ _).alloc (Nat.le_refl _) _).alloc (by simp) _⟩
    · rw [show Rs.begin ⟨true, fu, fa, done⟩ n i true = (⟨true, fu, fa, done⟩, 9) by unfold Rs.begin; simp]
      go_enter Try.func52, Try.ntmps52
      go_wp2
      exact bodyPost_ret (v := .tuple #[rfV n (.slice A l c) true (fu) (fa) (done), .int .i64 9]) (by simp [results, Try.results52, go_sem]) rfl ⟨rfl, ((Below.refl _ _).alloc (Nat.le_refl _) _).alloc (by simp) _⟩
end Go.Proofs.Ytionbjocfepkaaa
