/-
  LOGS: whether an entry may be; a copy of bytes; the iterator over places.
-/
import Derived.Test.YtgdcahakefmakaaGa
import Derived.Laws.AppendOwnNone
import Derived.Laws.CopyOwn
namespace Go.Proofs.Ytgdcahakefmakaa
set_option linter.unusedVariables false
set_option linter.unusedSimpArgs false
open Go.RowKit Go.WideShapes Go.ChangeShapes Go.Deep
attribute [local irreducible] wpQuiet

theorem kind_cases (k : Int) : k = 1 ∨ k = 2 ∨ k = 3 ∨ (k ≠ 1 ∧ k ≠ 2 ∧ k ≠ 3) := by omega
set_option maxHeartbeats 1000000 in
theorem isEntry_any {w : World} {B : Nat} {x : En} (h : EnIn w B x) : Calls Try.prog 51 #[enV x] w fun e w' => e = .returned (.bool (okE x.v)) ∧ Below w.heap.size w w' := by
  obtain ⟨t, k, ⟨A, n, c⟩, d⟩ := x
  have hl := h.d.len
  have ht := h.t
  simp only at hl ht
  subst hl
  have hB : Below w.heap.size w (w.alloc (.cells #[.int .u64 (t : Int), .int .i64 k, .slice A d.length c] 44)) := (Below.refl _ _).alloc (Nat.le_refl _) _
  have HB := Lib.hid hB
  have HT := Lib.hid ht
  clear hB h ht
  by_cases h1 : k = 1
  · subst h1
    have e0 : okE (En.v ⟨t, 1, ⟨A, d.length, c⟩, d⟩) = (decide (0 < t) && decide (d.length ≤ 0)) := rfl
    rw [e0]
    by_cases h2 : 0 < t
    · have dt : decide (0 < t) = true := by simpa using h2
      have dt' : decide ((0 : Int) < (t : Int)) = true := by simpa using h2
      rw [dt]
      go_enter Try.func51, Try.ntmps51
      go_wp2_with fail
      go_ret
      exact ⟨by simp, HB.out⟩
    · have dt : decide (0 < t) = false := by simpa using h2
      have dt' : decide ((0 : Int) < (t : Int)) = false := by simpa using h2
      rw [dt]
      go_enter Try.func51, Try.ntmps51
      go_wp2_with fail
      go_ret
      exact ⟨rfl, HB.out⟩
  by_cases h23 : k = 2 ∨ k = 3
  · have e0 : okE (En.v ⟨t, k, ⟨A, d.length, c⟩, d⟩) = (decide (0 < t) && decide (d.length ≤ 1024)) := by
      unfold okE En.v kindOk mostD
      rcases h23 with rfl | rfl <;> rfl
    rw [e0]
    have d1 : (k == 1) = false := by simpa using h1
    by_cases h2 : 0 < t
    · have dt : decide (0 < t) = true := by simpa using h2
      have dt' : decide ((0 : Int) < (t : Int)) = true := by simpa using h2
      rw [dt]
      rcases h23 with rfl | rfl
      · go_enter Try.func51, Try.ntmps51
        go_wp2_with fail
        go_ret
        refine ⟨?_, HB.out⟩
        simp
        omega
      · go_enter Try.func51, Try.ntmps51
        go_wp2_with fail
        go_ret
        refine ⟨?_, HB.out⟩
        simp
        omega
    · have dt : decide (0 < t) = false := by simpa using h2
      have dt' : decide ((0 : Int) < (t : Int)) = false := by simpa using h2
      rw [dt]
      rcases h23 with rfl | rfl
      · go_enter Try.func51, Try.ntmps51
        go_wp2_with fail
        go_ret
        exact ⟨rfl, HB.out⟩
      · go_enter Try.func51, Try.ntmps51
        go_wp2_with fail
        go_ret
        exact ⟨rfl, HB.out⟩
  · have d1 : (k == 1) = false := by simpa using h1
    have d2 : (k == 2) = false := by simp; omega
    have d3 : (k == 3) = false := by simp; omega
    have e0 : okE (En.v ⟨t, k, ⟨A, d.length, c⟩, d⟩) = false := by
      unfold okE En.v kindOk
      simp only [d1, d2, d3, Bool.or_false, Bool.false_and]
    rw [e0]
    clear h1 h23 e0
    go_enter Try.func51, Try.ntmps51
    go_wp2_with fail
    go_ret
    exact ⟨rfl, HB.out⟩

set_option maxHeartbeats 1000000 in
theorem placed_any (w : World) (i t : Nat) (A : Option Addr) (n c : Nat) : Calls Try.prog 54 #[atV i t, .slice A n c] w fun e w' => ∃ Ba Be, e = .returned (.func (.func 59) #[] #[.pointer (some ⟨Be, 0, none⟩), .pointer (some ⟨Ba, 0, none⟩)]) ∧ w.heap.size ≤ Ba ∧ w.heap.size ≤ Be ∧ Lies w' Ba 2 [.int .u64 (i : Int), .int .u64 (t : Int)] ∧ Lies w' Be 1 [.slice A n c] ∧ Below w.heap.size w w' := by
  obtain ⟨w1, hw1⟩ : ∃ w1, w.alloc (.cells #[.int .u64 (i : Int), .int .u64 (t : Int)] 24) = w1 := ⟨_, rfl⟩
  obtain ⟨w2, hw2⟩ : ∃ w2, w1.alloc (.cells #[.slice A n c] 25) = w2 := ⟨_, rfl⟩
  have s1 : w1.heap.size = w.heap.size + 1 := by rw [← hw1]; simp
  have L1 : Lies w2 w.heap.size 2 [.int .u64 (i : Int), .int .u64 (t : Int)] := by rw [← hw2, ← hw1]; exact (Lies.new w [.int .u64 (i : Int), .int .u64 (t : Int)] 24).alloc _
  have L2 : Lies w2 w1.heap.size 1 [.slice A n c] := by rw [← hw2]; exact Lies.new w1 [.slice A n c] 25
  have B2 : Below w.heap.size w w2 := by rw [← hw2, ← hw1]; exact ((Below.refl _ _).alloc (Nat.le_refl _) _).alloc (by simp) _
  have H1 := Lib.hid hw1
  have H2 := Lib.hid hw2
  have HL1 := Lib.hid L1
  have HL2 := Lib.hid L2
  have HB := Lib.hid B2
  have S1 := Lib.hid s1
  clear hw1 hw2 L1 L2 B2 s1
  go_enter Try.func54, Try.ntmps54
  go_wp2_with fail
  go_ret
  rw [H1.out, H2.out]
  exact ⟨_, _, rfl, Nat.le_refl _, Nat.le_succ _, HL1.out, by rw [← S1.out]; exact HL2.out, HB.out⟩
end Go.Proofs.Ytgdcahakefmakaa
