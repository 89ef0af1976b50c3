/-
  STAGE 7's STATEMENTS: the layer does something.
-/
import Derived.Test.YtgpakahmccafdaaMn
import Derived.Test.YtgpakahmccafdaaPj
namespace Go.Proofs.Ytgpakahmccafdaa
set_option linter.unusedVariables false
set_option linter.unusedSimpArgs false
open Go.RowKit Go.WideShapes Go.ChangeShapes Go.Deep

theorem results_one (tmps : Array Value) (W : World) (b : Nat) (v : Value) (h4 : tmps.getD 4 undef = .pointer (some ⟨b, 0, none⟩)) (x : W.cell? ⟨b, 0, none⟩ = some v) :
    (results Try.f35 tmps).run Try.prog W = .ok (.agg #[v]) W := by
  have h4' : tmps[4]?.getD undef = .pointer (some ⟨b, 0, none⟩) := by simpa using h4
  simp [results, Try.f35, go_sem, h4', x]
set_option maxRecDepth 100000 in
set_option maxHeartbeats 2000000 in
theorem one_any (p t : ByteArray) (w : World) : Calls Try.prog 35 #[.string p, .string t] w fun e w' => (∃ A, e = .returned (.agg #[.slice A 1 1]) ∧ SqR w' w'.heap.size A 1 1 [⟨p, t⟩]) ∧ Below w.heap.size w w' := by
  have hone := fun w => one_row ⟨p, t⟩ w
  go_enter Try.func35, Try.ntmps35
  go_wp2
  refine bodyPost_ret (results_one _ _ w.heap.size (.slice (some ⟨w.heap.size + 1, 0, none⟩) 1 1) rfl ?_) rfl ⟨⟨_, rfl, ?_⟩, ?_⟩
  · exact ((Boxed.new w 24 (.slice (some ⟨w.heap.size + 1, 0, none⟩) 1 1)).alloc (.cells #[.string p, .string t] 70)).cell
  · have h := Lies.new (w.alloc (.cells #[.slice (some ⟨w.heap.size + 1, 0, none⟩) 1 1] 24)) [.string p, .string t] 70
    rw [World.size_alloc] at h
    exact ⟨rfl, Nat.le_refl _, by unfold maxLen; omega, (fun e => by cases e), rw_sz, fun _ => ⟨w.heap.size + 1, 0, rfl, by simp, h.rg⟩⟩
  · exact ((Below.refl _ _).alloc (Nat.le_refl _) _).alloc (by simp) _
set_option maxRecDepth 100000 in
set_option maxHeartbeats 4000000 in
theorem wakes_any (w : World) : Calls Try.prog 9 #[] w fun e w' => e = .returned (.bool true) ∧ Below w.heap.size w w' := by
  go_enter Try.func9, Try.ntmps9
  go_wp2_with fail
  refine (one_any ⟨#[97]⟩ ⟨#[49]⟩ w).mono ?_
  rintro e w1 ⟨⟨A1, rfl, hs1⟩, hb1⟩
  have S1 := Lib.hid hs1
  have B1 := Lib.hid hb1
  clear hs1 hb1
  go_wp2_with fail
  refine (one_any ⟨#[97]⟩ ⟨#[50]⟩ w1).mono ?_
  rintro e w2 ⟨⟨A2, rfl, hs2⟩, hb2⟩
  have S2 := Lib.hid hs2
  have B2 := Lib.hid (B1.out.trans (hb2.mono B1.out.size))
  have S12 := Lib.hid ((S1.out.below hb2).more hb2.size)
  clear hs2 hb2 S1
  go_wp2_with fail
  obtain ⟨w3, hw3⟩ : ∃ w3, w2.alloc (.cells #[.string ⟨#[97]⟩, .string ⟨#[49]⟩, .string ⟨#[98]⟩, .string ⟨#[51]⟩] 70) = w3 := ⟨_, rfl⟩
  rw [hw3]
  have C3 : Hid (Below w2.heap.size w2 w3) := Lib.hid (by rw [← hw3]; exact (Below.refl _ _).alloc (Nat.le_refl _) _)
  have S3 : Hid (SqR w3 w3.heap.size (some ⟨w2.heap.size, 0, none⟩) 2 2 wk4) := Lib.hid (by
    have h := Lies.new w2 [.string ⟨#[97]⟩, .string ⟨#[49]⟩, .string ⟨#[98]⟩, .string ⟨#[51]⟩] 70
    refine ⟨rfl, Nat.le_refl _, by unfold maxLen; omega, (fun e => by cases e), rw_sz, fun _ => ⟨w2.heap.size, 0, rfl, by rw [← hw3]; simp, ?_⟩⟩
    rw [← hw3]
    exact h.rg)
  have HM := Merge_any ((S12.out.below C3.out).more C3.out.size) (by omega) ((S2.out.below C3.out).more C3.out.size) (by omega) S3.out (by omega) (Sq.nil_ (f := Ch.cells) ch_sz) (by omega)
  rw [wk_me, wk_merged] at HM
  simp only [if_true] at HM
  refine HM.mono ?_
  rintro e w4 ⟨⟨A4, n4, c4, rfl, hs4⟩, hb4⟩
  obtain rfl : n4 = 2 := by rw [← hs4.len]; rfl
  have B4 := Lib.hid ((B2.out.trans (C3.out.mono B2.out.size)).trans (hb4.mono (Nat.le_trans B2.out.size C3.out.size)))
  have S4 := Lib.hid hs4
  clear hs4 hb4 HM hw3 C3 S3 S12 S2 B2 B1
  go_wp2_with fail
  obtain ⟨w5, hw5⟩ : ∃ w5, w4.alloc (.cells #[.slice A4 2 c4] 24) = w5 := ⟨_, rfl⟩
  rw [hw5]
  have C5 : Hid (Below w4.heap.size w4 w5) := Lib.hid (by rw [← hw5]; exact (Below.refl _ _).alloc (Nat.le_refl _) _)
  have X5 : Hid (Lies w5 w4.heap.size 1 [.slice A4 2 c4]) := Lib.hid (by rw [← hw5]; exact Lies.new w4 [.slice A4 2 c4] 24)
  obtain ⟨M, hM⟩ : ∃ M, w4.heap.size = M := ⟨_, rfl⟩
  rw [hM] at X5 ⊢
  have S5 := Lib.hid ((S4.out.below C5.out).more C5.out.size)
  have B5 := Lib.hid (B4.out.trans (C5.out.mono B4.out.size))
  clear hw5 hM C5 S4 B4
  refine (one_any ⟨#[97]⟩ ⟨#[49]⟩ w5).mono ?_
  rintro e w6 ⟨⟨A6, rfl, hs6⟩, hb6⟩
  have S6 := Lib.hid hs6
  have B6 := Lib.hid hb6
  clear hs6 hb6
  go_wp2_with fail
  refine (one_any ⟨#[97]⟩ ⟨#[50]⟩ w6).mono ?_
  rintro e w7 ⟨⟨A7, rfl, hs7⟩, hb7⟩
  have S7 := Lib.hid hs7
  have S67 := Lib.hid ((S6.out.below hb7).more hb7.size)
  have B7 := Lib.hid (B6.out.trans (hb7.mono B6.out.size))
  clear hs7 hb7 S6 B6
  go_wp2_with fail
  refine (one_any ⟨#[97]⟩ ⟨#[51]⟩ w7).mono ?_
  rintro e w8 ⟨⟨A8, rfl, hs8⟩, hb8⟩
  have S8 := Lib.hid hs8
  have S78 := Lib.hid ((S7.out.below hb8).more hb8.size)
  have S68 := Lib.hid ((S67.out.below hb8).more hb8.size)
  have B8 := Lib.hid (B7.out.trans (hb8.mono B7.out.size))
  clear hs8 hb8 S7 S67 B7
  go_wp2_with fail
  have HC := Conflicts_any S68.out (by omega) S78.out (by omega) S8.out (by omega)
  rw [wk_ce2, wk_conf2] at HC
  simp only [if_true] at HC
  refine HC.mono ?_
  rintro e w9 ⟨⟨A9, n9, c9, rfl, hs9⟩, hb9⟩
  obtain rfl : n9 = 1 := by rw [← hs9.len]; rfl
  have B9 := Lib.hid (B8.out.trans (hb9.mono B8.out.size))
  have q0 := (X5.out.below B9.out X5.out.lt).cell (j := 0) rfl
  obtain ⟨b, o, rfl, hbl, hrg⟩ := (S5.out.below B9.out).at_ (i := 0) (by omega)
  have r0 : w9.cell? ⟨b, o + 0 * 2, none⟩ = some (.string ⟨#[97]⟩) := hrg 0 _ rfl
  have r1 : w9.cell? ⟨b, o + 0 * 2 + 1, none⟩ = some (.string ⟨#[50]⟩) := hrg 1 _ rfl
  rw [Nat.zero_mul, Nat.add_zero] at r0 r1
  clear hs9 hb9 hrg HC S68 S78 S8 B8
  go_wp2_with fail
  go_ret
  exact ⟨rfl, B5.out.trans (B9.out.mono B5.out.size)⟩
end Go.Proofs.Ytgpakahmccafdaa
