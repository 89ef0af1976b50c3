/-
  THE LAWS' OWN: the layer wakes.
-/
import Derived.Test.YtgdcahakefmakaaGx
namespace Go.Proofs.Ytgdcahakefmakaa
set_option linter.unusedVariables false
set_option linter.unusedSimpArgs false
open Go.RowKit Go.WideShapes Go.ChangeShapes Go.Deep Go.Shelf
attribute [local irreducible] wpQuiet

theorem wk1 : spliceW ⟨0, 0, firstE⟩ 2 1 [⟨3, 1, []⟩] = (⟨0, 0, [⟨1, 1, []⟩, ⟨1, 2, [7]⟩, ⟨3, 1, []⟩]⟩, 3, 0) := by kernel_rfl
theorem wk2 : compactW ⟨0, 0, firstE⟩ 2 = (⟨2, 1, [⟨2, 3, []⟩]⟩, 0) := by kernel_rfl
theorem wk3 : termW ⟨0, 0, firstE⟩ 2 = some 1 := by kernel_rfl
theorem wk4 : lastW ⟨2, 1, [⟨2, 3, []⟩]⟩ = (3, 2) := by kernel_rfl
set_option maxRecDepth 100000 in
set_option maxHeartbeats 8000000 in
theorem wakes_any (w : World) : Calls Try.prog 10 #[] w fun e w' => e = .returned (.bool true) ∧ Below w.heap.size w w' := by
  go_enter Try.func10, Try.ntmps10
  go_upto_region 2 with (first
    | (go_at_call 38; go_loud (refine (first_any _).mono ?_); go_loud (rintro e w1 ⟨⟨A1, c1, l1, rfl, hs1, hv1⟩, hb1⟩); go_loud (obtain ⟨w2, hw2⟩ : ∃ w2, w1.alloc (.cells #[.int .u64 3, .int .i64 1, .slice none 0 0] 44) = w2 := ⟨_, rfl⟩); go_loud (have x1 := one_en (w := w1) (x := ⟨3, 1, ⟨none, 0, 0⟩, []⟩) ⟨SlB.nil_, (show (3 : Nat) < 18446744073709551616 by omega), (show (-9223372036854775808 : Int) ≤ 1 ∧ (1 : Int) ≤ 9223372036854775807 by omega)⟩); go_loud (have hw2' : w1.alloc (.cells #[.int .u64 ((3 : Nat) : Int), .int .i64 1, .slice none 0 0] 44) = w2 := hw2); go_loud (dsimp only at x1); go_loud (rw [hw2'] at x1); go_loud (have hb2 : Below w1.heap.size w1 w2 := (by rw [← hw2]; exact (Below.refl _ _).alloc (Nat.le_refl _) _)); go_loud (have CS := Lib.hid (show Calls Try.prog 13 #[lgV 0 0 A1 3 c1, .agg #[.int .u64 2, .int .u64 1], .slice (some ⟨w1.heap.size, 0, none⟩) 1 1] w2 _ from Splice_any (hs1.next (Nat.le_refl _) hb2) (by omega) 0 0 (by omega) (by omega) x1 (by omega) 2 1 (by omega) (by omega))); go_loud (rw [hv1, show vsE [(⟨3, 1, ⟨none, 0, 0⟩, []⟩ : En)] = [⟨3, 1, []⟩] from rfl, wk1] at CS); go_loud (have HW2 := Lib.hid hw2); go_loud (have HB2 := Lib.hid (hb1.trans (hb2.mono hb1.size))); go_loud (clear hw2 hw2' x1 hb1 hb2 hs1 hv1))
    | (go_at_call 13; go_loud (rw [HW2.out]); go_loud (refine CS.out.mono ?_); go_loud (rintro e w3 ⟨⟨v, rfl, A3, n3, c3, l3, rfl, ho3, hv3⟩, hb3⟩); go_loud (have HO3 := Lib.hid ho3); go_loud (have HV3 := Lib.hid hv3); go_loud (have HB3 := Lib.hid (HB2.out.trans (hb3.mono HB2.out.size))); go_loud (clear ho3 hv3 hb3))
    | fail)
  have hn3 : n3 = 3 := by
    have h1 := HO3.out.len
    have h2 := congrArg List.length HV3.out
    rw [vsE_len] at h2
    simp at h2
    omega
  subst hn3
  obtain ⟨w4, hw4⟩ : ∃ w4, w3.alloc (.cells #[.int .u64 0, .int .u64 0, .slice A3 3 c3] 27) = w4 := ⟨_, rfl⟩
  have HN4 := Lib.hid (show Bl w4 w3.heap.size 27 [.int .u64 0, .int .u64 0, .slice A3 3 c3] by rw [← hw4]; exact Bl.new w3 27 [.int .u64 0, .int .u64 0, .slice A3 3 c3])
  have HB4 := Lib.hid (show Below w.heap.size w w4 by rw [← hw4]; exact HB3.out.alloc HB3.out.size _)
  have HO4 := Lib.hid (show OwnL w4 w2.heap.size A3 3 c3 l3 by rw [← hw4]; exact HO3.out.below ((Below.refl _ _).alloc (Nat.le_refl _) _))
  rw [hw4]
  clear hw4 HO3 CS
  go_upto_region 3 with (first
    | (go_at_call 38; go_loud (refine (first_any _).mono ?_); go_loud (rintro e w5 ⟨⟨A5, c5, l5, rfl, hs5, hv5⟩, hb5⟩); go_loud (have CC := Lib.hid (show Calls Try.prog 21 #[lgV 0 0 A5 3 c5, .int .u64 2] w5 _ from Compact_any hs5 (by omega) 0 0 (by omega) (by omega) 2 (by omega))); go_loud (rw [hv5, wk2] at CC); go_loud (have HB5 := Lib.hid hb5); go_loud (clear hb5 hs5 hv5))
    | (go_at_call 21; go_loud (refine CC.out.mono ?_); go_loud (rintro e w6 ⟨⟨v, rfl, A6, n6, c6, l6, rfl, ho6, hv6⟩, hb6⟩); go_loud (have HO6 := Lib.hid ho6); go_loud (have HV6 := Lib.hid hv6); go_loud (have HB6 := Lib.hid (HB5.out.trans (hb6.mono HB5.out.size))); go_loud (clear ho6 hv6 hb6))
    | fail)
  have hn6 : n6 = 1 := by
    have h1 := HO6.out.len
    have h2 := congrArg List.length HV6.out
    rw [vsE_len] at h2
    simp at h2
    omega
  subst hn6
  obtain ⟨w7, hw7⟩ : ∃ w7, w6.alloc (.cells #[.int .u64 2, .int .u64 1, .slice A6 1 c6] 27) = w7 := ⟨_, rfl⟩
  have HN7 := Lib.hid (show Bl w7 w6.heap.size 27 [.int .u64 2, .int .u64 1, .slice A6 1 c6] by rw [← hw7]; exact Bl.new w6 27 [.int .u64 2, .int .u64 1, .slice A6 1 c6])
  have HB7 := Lib.hid (show Below w4.heap.size w4 w7 by rw [← hw7]; exact HB6.out.alloc HB6.out.size _)
  have HO7 := Lib.hid (show OwnL w7 w5.heap.size A6 1 c6 l6 by rw [← hw7]; exact HO6.out.below ((Below.refl _ _).alloc (Nat.le_refl _) _))
  rw [hw7]
  clear hw7 HO6 CC
  go_upto_region 4 with (first
    | (go_at_call 38; go_loud (refine (first_any _).mono ?_); go_loud (rintro e w8 ⟨⟨A8, c8, l8, rfl, hs8, hv8⟩, hb8⟩); go_loud (have CT := Lib.hid (show Calls Try.prog 25 #[lgV 0 0 A8 3 c8, .int .u64 2] w8 _ from Term_any hs8 (by omega) 0 0 (by omega) (by omega) 2 (by omega))); go_loud (rw [hv8, wk3] at CT); go_loud (have HB8 := Lib.hid hb8); go_loud (clear hb8 hs8 hv8))
    | (go_at_call 25; go_loud (refine CT.out.mono ?_); go_loud (rintro e w9 ⟨rfl, hb9⟩); go_loud (have HB9 := Lib.hid (HB8.out.trans (hb9.mono HB8.out.size))); go_loud (dsimp only [termV]); go_loud (clear hb9))
    | fail)
  have HB49 := Lib.hid (HB7.out.trans (HB9.out.mono HB7.out.size))
  have N4 := HN4.out.below HB49.out HN4.out.lt
  have N7 := HN7.out.below HB9.out HN7.out.lt
  have S3 := (HO4.out.below HB49.out).sq
  have S6 := (HO7.out.below HB9.out).sq
  have CLa := Lib.hid (show Calls Try.prog 24 #[.agg #[.int .u64 2, .int .u64 1, .slice A6 1 c6]] w9 _ from Last_any S6 (by omega) 2 1 (by omega) (by omega))
  rw [HV6.out, wk4] at CLa
  obtain ⟨b, o, rfl, hbl, hrg⟩ := S3.s.at_ (i := 2) (by omega)
  have hx3 : ∀ (h : 2 < l3.length), (l3[2]).t = 3 := fun h => by
    have h2 : (vsE l3)[2]? = some ⟨3, 1, []⟩ := by rw [HV3.out]; rfl
    unfold vsE at h2
    rw [List.getElem?_map, List.getElem?_eq_getElem h] at h2
    injection h2 with h2
    have := congrArg Ev.t h2
    exact this
  have r6 : w9.cell? ⟨b, o + 6, none⟩ = some (.int .u64 3) := by
    have := hrg 0 _ rfl
    rw [hx3 _] at this
    simpa using this
  have n0 := N4.cell 0
  have n1 := N4.cell 1
  have n2 := N4.cell 2
  have m0 := N7.cell 0
  have m1 := N7.cell 1
  have m2 := N7.cell 2
  simp only [List.getElem?_cons_zero, List.getElem?_cons_succ] at n0 n1 n2 m0 m1 m2
  have HN7' := Lib.hid N7
  have heq := fun w => eq_at 3 2 3 2 w
  clear N4 N7 S3 S6 hrg hx3 hbl
  go_wp2_with (first
    | (go_at_call 24; go_loud (refine CLa.out.mono ?_); go_loud (rintro e wX ⟨rfl, hbX⟩); go_loud (have NX := HN7'.out.below hbX HN7'.out.lt); go_loud (have m0 := NX.cell 0); go_loud (have m1 := NX.cell 1); go_loud (have m2 := NX.cell 2); go_loud (simp only [List.getElem?_cons_zero, List.getElem?_cons_succ] at m0 m1 m2); go_loud (have HBX := Lib.hid hbX); go_loud (dsimp only [atV]); go_loud (clear NX hbX))
    | fail)
  go_ret
  refine ⟨rfl, ?_⟩
  exact HB4.out.trans ((HB49.out.trans (HBX.out.mono HB49.out.size)).mono HB4.out.size)
end Go.Proofs.Ytgdcahakefmakaa
