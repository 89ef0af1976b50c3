/-
  PROVED HERE: LogCuts: a cut keeps what stands behind it.
-/
import Derived.Test.YtoknigpdphfocaaArg
import Derived.Test.YtoknigpdphfocaaPc
import Derived.Test.YtoknigpdphfocaaRows
import Derived.ProofKit
import Derived.OpenShut
import Derived.ChangeOld
import Derived.Carry
namespace Go.Proofs.Ytoknigpdphfocaa.logCuts
open Go.ChangeShapes Go.WideShapes Go.ChangeAt Go.RowKit Go.Deep Go.Shelf
set_option linter.unusedSimpArgs false
attribute [local irreducible] wpQuiet
set_option linter.unusedVariables false

theorem fld0 (a b : Nat) (w : World) : (Instr.field 24 (atV a b) 0).run Try.prog w = .ok (.int .u64 (a : Int)) w := by kernel_rfl
theorem lg_cells {W : World} {b i t n c : Nat} {A : Option Addr} (h : Bl W b 27 (lgC i t A n c)) : W.cell? ⟨b, 0, none⟩ = some (.int .u64 (i : Int)) ∧ W.cell? ⟨b, 1, none⟩ = some (.int .u64 (t : Int)) ∧ W.cell? ⟨b, 2, none⟩ = some (.slice A n c) := by
  have x0 := h.cell 0
  have x1 := h.cell 1
  have x2 := h.cell 2
  simp only [lgC, atC, List.getElem?_cons_zero, List.getElem?_cons_succ] at x0 x1 x2
  exact ⟨x0, x1, x2⟩
theorem place_lt {w : World} {A : Option Addr} {n c i t k u B : Nat} {l : List En} (h : SqE w B A n c l) (ht : t < 18446744073709551616) (hp : placeW ⟨i, t, vsE l⟩ k = some u) : u < 18446744073709551616 := by
  unfold placeW at hp
  split at hp
  · injection hp with hp
    rw [← hp]; exact ht
  · split at hp
    · have hp' : ((vsE l)[k - i - 1]?).map Ev.t = some u := hp
      unfold vsE at hp'
      rw [List.getElem?_map] at hp'
      rcases hg : l[k - i - 1]? with _ | x
      · rw [hg] at hp'; cases hp'
      · rw [hg] at hp'
        have hp2 : some x.t = some u := hp'
        injection hp2 with hp2
        rw [← hp2]
        exact (h.e x (List.mem_of_getElem? hg)).t
    · cases hp
theorem comp_ways (L : Lg) (k : Nat) : (∃ m : Int, compactW L k = (zLg, m) ∧ (m != 0) = true) ∨ (isLogW L = true ∧ ∃ u, placeW L k = some u ∧ compactW L k = (cutL L k u, 0)) := by
  unfold compactW
  rcases hq : isLogW L with _ | _
  · exact .inl ⟨220, by rw [if_pos rfl], rfl⟩
  · rw [if_neg (by simp)]
    rcases hp : placeW L k with _ | u
    · exact .inl ⟨4, rfl, rfl⟩
    · exact .inr ⟨rfl, u, rfl, rfl⟩

set_option maxRecDepth 100000 in
set_option maxHeartbeats 20000000 in
theorem walk {w : World} {A : Option Addr} {n c : Nat} {es : List En} (hs : SqE w w.heap.size A n c es) (i t : Nat) (hi : i < 18446744073709551616) (ht : t < 18446744073709551616) (k : Nat) (hk : k < 18446744073709551616) :
    Calls Try.prog 8 #[lgV i t A n c, .int .u64 (k : Int)] w fun e w' => e = .returned (.bool true) ∧ Below w.heap.size w w' := by
  obtain ⟨w1, hw1⟩ : ∃ w1, (w.alloc (.cells #[.int .u64 (i : Int), .int .u64 (t : Int), .slice A n c] 27)) = w1 := ⟨_, rfl⟩
  have L0 : Bl w1 (w.heap.size) 27 [.int .u64 (i : Int), .int .u64 (t : Int), .slice A n c] := by
    rw [← hw1]
    have h := Bl.new w 27 [.int .u64 (i : Int), .int .u64 (t : Int), .slice A n c]
    (try simp only [World.size_alloc] at h)
    exact h
  have B1 : Below w.heap.size w w1 := by
    rw [← hw1]
    exact ((Below.refl _ _).alloc (by simp <;> omega) _)
  have Z1 : w1.heap.size = w.heap.size + 1 := by rw [← hw1]; simp
  have HW := Lib.hid hw1
  have HB1 := Lib.hid B1
  have HL0 := Lib.hid (show Bl w1 w.heap.size 27 (lgC i t A n c) from L0)
  have HS := Lib.hid (fun (w' : World) (hw : Below w1.heap.size w1 w') => hs.next (Nat.le_refl _) (B1.trans (hw.mono B1.size)))
  obtain ⟨n1, hn1⟩ : ∃ n1, min 17 n = n1 := ⟨_, rfl⟩
  have h17 : n1 ≤ 17 := by omega
  have CSH := Lib.hid (fun (w' : World) (hw : Below w1.heap.size w1 w') => short_any (HS.out w' hw) i t)
  rw [hn1] at CSH
  clear hw1 L0 B1 hs hn1
  go_enter Try.func8, Try.ntmps8
  go_upto_region 1 with fail
  rw [HW.out]
  go_upto_region 3 with (first
    | (go_at_call 10; go_loud (refine (wakes_any _).mono ?_); go_loud (rintro e w2 ⟨rfl, hb2⟩); go_loud (have HB2 := Lib.hid hb2); go_loud (clear hb2))
    | fail)
  obtain ⟨c0, c1, c2⟩ := lg_cells (HL0.out.below HB2.out HL0.out.lt)
  go_upto_region 4 with (first
    | (go_at_call 11; go_loud (refine (CSH.out _ HB2.out).mono ?_); go_loud (rintro e w3 ⟨⟨A1, k1, l1, rfl, ho3, hv3⟩, hb3⟩); go_loud (have HB3 := Lib.hid (HB2.out.trans (hb3.mono HB2.out.size))); go_loud (have HO3 := Lib.hid ho3); go_loud (have HG3 := Lib.hid (show w.heap.size < w2.heap.size from Nat.lt_of_lt_of_le HL0.out.lt HB2.out.size)); go_loud (have HL3 := Lib.hid (HL0.out.below HB3.out HL0.out.lt)); go_loud (obtain ⟨c0, c1, c2⟩ := lg_cells HL3.out); go_loud (have f0 := HL3.out.frozen 0); go_loud (have f1 := HL3.out.frozen 1); go_loud (have f2 := HL3.out.frozen 2); go_loud (clear ho3 hb3))
    | fail)
  obtain ⟨R1, R2⟩ := res3 (w1 := w) HL3.out (HB1.out.trans (HB3.out.mono HB1.out.size)) (Nat.le_refl _) i t A1 n1 k1
  have R3 := ((HO3.out.far1 (p := ⟨w.heap.size, 0, none⟩) HG3.out (.int .u64 (i : Int))).far1 (p := ⟨w.heap.size, 1, none⟩) HG3.out (.int .u64 (t : Int))).far1 (p := ⟨w.heap.size, 2, none⟩) HG3.out (.slice A1 n1 k1)
  obtain ⟨w4, hw4⟩ : ∃ w4, ((w3.setCell ⟨w.heap.size, 0, none⟩ (.int .u64 (i : Int))).setCell ⟨w.heap.size, 1, none⟩ (.int .u64 (t : Int))).setCell ⟨w.heap.size, 2, none⟩ (.slice A1 n1 k1) = w4 := ⟨_, rfl⟩
  rw [hw4] at R1 R2 R3
  rw [hw4]
  have HL4 := Lib.hid R1
  have HB4 := Lib.hid R2
  have HS4 := Lib.hid R3.sq
  have hlen := R3.len
  have HLEN := Lib.hid hlen
  have H17 := Lib.hid h17
  clear R1 R2 R3 hw4 HL3 HO3 c0 c1 c2 f0 f1 f2 HB1 HB2 HB3 hv3
  have CC := Lib.hid (Compact_any HS4.out (by omega) i t hi ht k hk)
  obtain ⟨c0, c1, c2⟩ := lg_cells HL4.out
  rcases comp_ways ⟨i, t, vsE l1⟩ k with ⟨m, he, hm⟩ | ⟨hR, u, hP, he⟩
  · rw [he] at CC
    clear he
    go_upto_region 5 with (first
      | (go_at_call 21; go_loud (refine CC.out.mono ?_); go_loud (rintro e w5 ⟨⟨v, rfl, A2, n2, k2, l2, rfl, ho, hv⟩, hb5⟩); go_loud (have HO5 := Lib.hid ho); go_loud (have HV5 := Lib.hid hv); go_loud (have HB5 := Lib.hid hb5); go_loud (clear ho hv hb5))
      | fail)
    obtain rfl : n2 = 0 := by
      have h1 := HO5.out.len
      have h2 := congrArg List.length HV5.out
      rw [vsE_len, h1] at h2
      exact h2
    obtain ⟨w6, hw6⟩ : ∃ w6, w5.alloc (.cells #[.int .u64 (zLg.bi : Int), .int .u64 (zLg.bt : Int), .slice A2 0 k2] 27) = w6 := ⟨_, rfl⟩
    have R6 := Bl.new w5 27 (lgC zLg.bi zLg.bt A2 0 k2)
    have R7 : w5.alloc (.cells (lgC zLg.bi zLg.bt A2 0 k2).toArray 27) = w6 := hw6
    rw [R7] at R6
    have HB6 : Below w4.heap.size w4 w6 := by rw [← hw6]; exact HB5.out.alloc HB5.out.size _
    rw [hw6]
    clear c0 c1 c2
    obtain ⟨c0, c1, c2⟩ := lg_cells R6
    go_wp2_with fail
    go_ret
    exact ⟨rfl, HB4.out.trans (HB6.mono HB4.out.size)⟩
  rw [he] at CC
  go_upto_region 5 with (first
    | (go_at_call 21; go_loud (refine CC.out.mono ?_); go_loud (rintro e w5 ⟨⟨v, rfl, A2, n2, k2, l2, rfl, ho, hv⟩, hb5⟩); go_loud (dsimp only [cutL] at ho hv); go_loud (dsimp only [cutL]); go_loud (have HO5 := Lib.hid ho); go_loud (have HV5 := Lib.hid hv); go_loud (have HB5 := Lib.hid hb5); go_loud (clear ho hv hb5))
    | fail)
  obtain ⟨w6, hw6⟩ : ∃ w6, w5.alloc (.cells #[.int .u64 (k : Int), .int .u64 (u : Int), .slice A2 n2 k2] 27) = w6 := ⟨_, rfl⟩
  have R6 := Bl.new w5 27 (lgC k u A2 n2 k2)
  have R7 : w5.alloc (.cells (lgC k u A2 n2 k2).toArray 27) = w6 := hw6
  rw [R7] at R6
  have HB6 := Lib.hid (show Below w4.heap.size w4 w6 by rw [← hw6]; exact HB5.out.alloc HB5.out.size _)
  have R8 := HO5.out.below (w' := w6) (by rw [← hw6]; exact (Below.refl _ _).alloc (Nat.le_refl _) _)
  rw [hw6]
  have hL1 := HL4.out.below HB6.out HL4.out.lt
  have HQ := Lib.hid (fun (w' : World) (hw : Below w6.heap.size w6 w') => And.intro (lg_cells (hL1.below hw hL1.lt)) (lg_cells (R6.below hw R6.lt)))
  have HS1 := Lib.hid (fun (w' : World) (hw : Below w6.heap.size w6 w') => HS4.out.next (Nat.le_refl _) (HB6.out.trans (hw.mono HB6.out.size)))
  have HS2 := Lib.hid (fun (w' : World) (hw : Below w6.heap.size w6 w') => (R8.below hw).sq)
  have hl2 : l2.length = n2 := R8.len
  have hN : cutL ⟨i, t, vsE l1⟩ k u = ⟨k, u, vsE l2⟩ := by rw [HV5.out]; rfl
  have hNR := cut_right hR hP
  rw [hN] at hNR
  have hn2 : n2 ≤ 16 := by
    have := (right_base hNR).2.1
    have h2 : (vsE l2).length ≤ 16 := this
    rw [vsE_len, hl2] at h2
    exact h2
  have hu : u < 18446744073709551616 := place_lt HS4.out ht hP
  obtain ⟨s, hsI⟩ : ∃ s, lastI ⟨i, t, vsE l1⟩ = s := ⟨_, rfl⟩
  obtain ⟨v, hvT⟩ : ∃ v, lastT t (vsE l1) = v := ⟨_, rfl⟩
  have hsk : k ≤ s := by rw [← hsI]; exact (placeW_some hP).2.1
  have hst : s ≤ 18446744073709551614 := by rw [← hsI]; exact (right_base hR).2.2.2.1
  have hv64 : v < 18446744073709551616 := by
    have := placeW_last ⟨i, t, vsE l1⟩
    rw [show lastT (Lg.mk i t (vsE l1)).bt (Lg.mk i t (vsE l1)).es = v from hvT] at this
    exact place_lt HS4.out ht this
  have eK : checkW ⟨k, u, vsE l2⟩ 18446744073709551615 = 0 := by
    unfold checkW
    rw [if_neg (by rw [hNR]; simp), if_neg]
    show ¬ (18446744073709551615 < lastT u (vsE l2))
    have h3 := cut_lastT hP
    rw [show (Lg.mk i t (vsE l1)).es.drop (k - (Lg.mk i t (vsE l1)).bi) = vsE l2 from HV5.out.symm] at h3
    rw [h3, show lastT (Lg.mk i t (vsE l1)).bt (Lg.mk i t (vsE l1)).es = v from hvT]
    omega
  have eN : lastW ⟨k, u, vsE l2⟩ = (s, v) := by
    unfold lastW
    rw [if_neg (by rw [hNR]; simp)]
    have h3 := cut_lastT hP
    rw [show (Lg.mk i t (vsE l1)).es.drop (k - (Lg.mk i t (vsE l1)).bi) = vsE l2 from HV5.out.symm] at h3
    have h4 := cut_lastI hP
    rw [hN, hsI] at h4
    rw [h4]
    exact Prod.ext rfl (h3.trans hvT)
  have eL : lastW ⟨i, t, vsE l1⟩ = (s, v) := by
    unfold lastW
    rw [if_neg (by rw [hR]; simp), hsI]
    exact Prod.ext rfl hvT
  have CK := Lib.hid (fun (w' : World) (hw : Below w6.heap.size w6 w') => (show Calls Try.prog 36 #[.agg #[.int .u64 (k : Int), .int .u64 (u : Int), .slice A2 n2 k2], .int .u64 18446744073709551615] w' _ from Check_any (HS2.out w' hw) (by omega) k u hk hu 18446744073709551615 (by omega)))
  rw [eK] at CK
  have CLN := Lib.hid (fun (w' : World) (hw : Below w6.heap.size w6 w') => (show Calls Try.prog 24 #[.agg #[.int .u64 (k : Int), .int .u64 (u : Int), .slice A2 n2 k2]] w' _ from Last_any (HS2.out w' hw) (by omega) k u hk hu))
  rw [eN] at CLN
  have CLL := Lib.hid (fun (w' : World) (hw : Below w6.heap.size w6 w') => (show Calls Try.prog 24 #[.agg #[.int .u64 (i : Int), .int .u64 (t : Int), .slice A1 n1 k1]] w' _ from Last_any (HS1.out w' hw) (by omega) i t hi ht))
  rw [eL] at CLL
  have CTN := Lib.hid (fun (w' : World) (hw : Below w6.heap.size w6 w') (j : Nat) (hj : j < 18446744073709551616) => (show Calls Try.prog 25 #[.agg #[.int .u64 (k : Int), .int .u64 (u : Int), .slice A2 n2 k2], .int .u64 (j : Int)] w' _ from Term_any (HS2.out w' hw) (by omega) k u hk hu j hj))
  have CTL := Lib.hid (fun (w' : World) (hw : Below w6.heap.size w6 w') (j : Nat) (hj : j < 18446744073709551616) => (show Calls Try.prog 25 #[.agg #[.int .u64 (i : Int), .int .u64 (t : Int), .slice A1 n1 k1], .int .u64 (j : Int)] w' _ from Term_any (HS1.out w' hw) (by omega) i t hi ht j hj))
  have CFN := Lib.hid (fun (w' : World) (hw : Below w6.heap.size w6 w') (j : Nat) (hj : j < 18446744073709551616) => (show Calls Try.prog 27 #[.agg #[.int .u64 (k : Int), .int .u64 (u : Int), .slice A2 n2 k2], .int .u64 (j : Int), .int .i64 1] w' _ from From_any (HS2.out w' hw) (by omega) k u hk hu j hj 1 (by omega)))
  have CFL := Lib.hid (fun (w' : World) (hw : Below w6.heap.size w6 w') (j : Nat) (hj : j < 18446744073709551616) => (show Calls Try.prog 27 #[.agg #[.int .u64 (i : Int), .int .u64 (t : Int), .slice A1 n1 k1], .int .u64 (j : Int), .int .i64 1] w' _ from From_any (HS1.out w' hw) (by omega) i t hi ht j hj 1 (by omega)))
  have HN := Lib.hid hN
  have HR := Lib.hid hR
  have HNR := Lib.hid hNR
  have HP := Lib.hid hP
  have HST := Lib.hid hst
  have HK := Lib.hid hk
  have HI := Lib.hid hsI
  clear R6 R7 R8 hw6 hL1 hl2 hN hR hNR hP he hst hk hn2 hu hsI hvT hv64 eK eN eL CC c0 c1 c2 HO5 HS4
  have hb6 : Below w6.heap.size w6 w6 := Below.refl _ _
  obtain ⟨⟨c0, c1, c2⟩, d0, d1, d2⟩ := HQ.out _ hb6
  have heq := fun w => eq_at (s : Int) (v : Int) (s : Int) (v : Int) w
  have SIX := Lib.hid (fun (w' : World) (hw : Below w6.heap.size w6 w') => (show w'.cell? ⟨w.heap.size, 0, none⟩ = some (.int .u64 (i : Int)) ∧ w'.cell? ⟨w.heap.size, 1, none⟩ = some (.int .u64 (t : Int)) ∧ w'.cell? ⟨w.heap.size, 2, none⟩ = some (.slice A1 n1 k1) ∧ w'.cell? ⟨w5.heap.size, 0, none⟩ = some (.int .u64 (k : Int)) ∧ w'.cell? ⟨w5.heap.size, 1, none⟩ = some (.int .u64 (u : Int)) ∧ w'.cell? ⟨w5.heap.size, 2, none⟩ = some (.slice A2 n2 k2) from ⟨(HQ.out _ hw).1.1, (HQ.out _ hw).1.2.1, (HQ.out _ hw).1.2.2, (HQ.out _ hw).2.1, (HQ.out _ hw).2.2.1, (HQ.out _ hw).2.2.2⟩))
  go_upto_region 7 with fail
  go_region_held3 (fun w' => w'.cell? ⟨w.heap.size, 0, none⟩ = some (.int .u64 (i : Int)) ∧ w'.cell? ⟨w.heap.size, 1, none⟩ = some (.int .u64 (t : Int)) ∧ w'.cell? ⟨w.heap.size, 2, none⟩ = some (.slice A1 n1 k1) ∧ w'.cell? ⟨w5.heap.size, 0, none⟩ = some (.int .u64 (k : Int)) ∧ w'.cell? ⟨w5.heap.size, 1, none⟩ = some (.int .u64 (u : Int)) ∧ w'.cell? ⟨w5.heap.size, 2, none⟩ = some (.slice A2 n2 k2))
    (first | exact ⟨c0, c1, c2, d0, d1, d2⟩ | with_reducible exact K7.out | with_reducible exact K8.out | with_reducible exact K9.out | fail)
    (first
      | (have g8 := hb8; go_loud (clear g8); go_loud (go_at_call 24); go_loud (with_reducible refine Calls.mono ((by first | exact CLN.out _ (by first | exact hb8 | exact hb8.drew | exact below_drewN hb8 _) | exact CLL.out _ (by first | exact hb8 | exact hb8.drew | exact below_drewN hb8 _))) ?_); go_loud (rintro e w9 ⟨rfl, h9⟩); go_loud (have hb9 : Below w6.heap.size w6 w9 := (by first | exact hb8.trans (h9.mono hb8.size) | exact hb8.drew.trans (h9.mono hb8.drew.size) | exact (below_drewN hb8 _).trans (h9.mono (below_drewN hb8 _).size))); go_loud (have K9 := Lib.hid (SIX.out _ hb9)); go_loud (clear h9))
      | (have g7 := hb7; go_loud (clear g7); go_loud (go_at_call 24); go_loud (with_reducible refine Calls.mono ((by first | exact CLN.out _ (by first | exact hb7 | exact hb7.drew | exact below_drewN hb7 _) | exact CLL.out _ (by first | exact hb7 | exact hb7.drew | exact below_drewN hb7 _))) ?_); go_loud (rintro e w8 ⟨rfl, h8⟩); go_loud (have hb8 : Below w6.heap.size w6 w8 := (by first | exact hb7.trans (h8.mono hb7.size) | exact hb7.drew.trans (h8.mono hb7.drew.size) | exact (below_drewN hb7 _).trans (h8.mono (below_drewN hb7 _).size))); go_loud (have K8 := Lib.hid (SIX.out _ hb8)); go_loud (clear h8))
      | (have g6 := hb6; go_loud (clear g6); go_loud (go_at_call 36); go_loud (with_reducible refine Calls.mono (CK.out _ (by first | exact hb6 | exact hb6.drew | exact below_drewN hb6 _)) ?_); go_loud (rintro e w7 ⟨rfl, h7⟩); go_loud (have hb7 : Below w6.heap.size w6 w7 := (by first | exact hb6.trans (h7.mono hb6.size) | exact hb6.drew.trans (h7.mono hb6.drew.size) | exact (below_drewN hb6 _).trans (h7.mono (below_drewN hb6 _).size))); go_loud (have K7 := Lib.hid (SIX.out _ hb7)); go_loud (clear h7))
      | fail)
  all_goals (
    clear c0 c1 c2 d0 d1 d2 heq
    have HB9 := Lib.hid hb9
    clear hb6 hb7 hb8 hb9 K7 K8 K9
    go_wp2_with fail
    go_loopw [7] (fun i wr => ∃ j : Nat, k ≤ j ∧ j ≤ s + 1 ∧ i = .int .u64 (j : Int) ∧ Hid (Below w6.heap.size w6 wr)) (fun i _ => s + 1 - (intOf i).toNat)
    case atStart => exact ⟨k, Nat.le_refl _, by omega, rfl, HB9⟩
    case round =>
      obtain ⟨j, hkj, hjs, rfl, HJ⟩ := hrel
      have hbr : Below w6.heap.size w6 wr := HJ.out
      obtain ⟨c0, c1, c2, d0, d1, d2⟩ := SIX.out _ hbr
      have f0 := fun w => fld0 s v w
      by_cases hlt : j ≤ s
      · have dj : decide ((j : Int) ≤ (s : Int)) = true := by simp; omega
        have hj64 : j < 18446744073709551616 := by have := HST.out; omega
        have hwr : IntKind.u64.wrap ((j : Int) + 1) = (j : Int) + 1 := by have := HST.out; show ((j : Int) + 1) % 18446744073709551616 = _; omega
        obtain ⟨a, ha⟩ : ∃ a, placeW ⟨i, t, vsE l1⟩ j = some a := ⟨_, placeW_at (Nat.le_trans (placeW_some HP.out).1 hkj) (by rw [HI.out]; exact hlt)⟩
        have ha2 : placeW ⟨k, u, vsE l2⟩ j = some a := by rw [← HN.out, cut_place HP.out hkj]; exact ha
        have DTL := Lib.hid (fun (w' : World) (hw : Below w6.heap.size w6 w') => CTL.out w' hw j hj64)
        have DTN := Lib.hid (fun (w' : World) (hw : Below w6.heap.size w6 w') => CTN.out w' hw j hj64)
        rw [show termW ⟨i, t, vsE l1⟩ j = some a by unfold termW; rw [if_neg (by rw [HR.out]; simp)]; exact ha] at DTL
        rw [show termW ⟨k, u, vsE l2⟩ j = some a by unfold termW; rw [if_neg (by rw [HNR.out]; simp)]; exact ha2] at DTN
        have daa : ((a : Int) == (a : Int)) = true := by simp
        rcases Nat.eq_or_lt_of_le hkj with hjk | hkj'
        · subst hjk
          have djk : ((k : Int) == (k : Int)) = true := by simp
          clear ha ha2
          go_wp2_with (first
            | (have g11 := hb11; go_loud (clear g11); go_loud (go_at_call 25); go_loud (with_reducible refine Calls.mono (DTN.out _ (by first | exact hb11 | exact hb11.drew | exact below_drewN hb11 _)) ?_); go_loud (rintro e w12 ⟨rfl, h12⟩); go_loud (have hb12 : Below w6.heap.size w6 w12 := (by first | exact hb11.trans (h12.mono hb11.size) | exact hb11.drew.trans (h12.mono hb11.drew.size) | exact (below_drewN hb11 _).trans (h12.mono (below_drewN hb11 _).size))); go_loud (clear h12); go_loud (clear c0 c1 c2 d0 d1 d2); go_loud (obtain ⟨c0, c1, c2, d0, d1, d2⟩ := SIX.out _ hb12); go_loud (dsimp only [termV]))
            | (have g10 := hb10; go_loud (clear g10); go_loud (go_at_call 25); go_loud (with_reducible refine Calls.mono (DTL.out _ (by first | exact hb10 | exact hb10.drew | exact below_drewN hb10 _)) ?_); go_loud (rintro e w11 ⟨rfl, h11⟩); go_loud (have hb11 : Below w6.heap.size w6 w11 := (by first | exact hb10.trans (h11.mono hb10.size) | exact hb10.drew.trans (h11.mono hb10.drew.size) | exact (below_drewN hb10 _).trans (h11.mono (below_drewN hb10 _).size))); go_loud (clear h11); go_loud (clear c0 c1 c2 d0 d1 d2); go_loud (obtain ⟨c0, c1, c2, d0, d1, d2⟩ := SIX.out _ hb11); go_loud (dsimp only [termV]))
            | (have gr := hbr; go_loud (clear gr); go_loud (go_at_call 24); go_loud (with_reducible refine Calls.mono (CLL.out _ (by first | exact hbr | exact hbr.drew | exact below_drewN hbr _)) ?_); go_loud (rintro e w10 ⟨rfl, h10⟩); go_loud (have hb10 : Below w6.heap.size w6 w10 := (by first | exact hbr.trans (h10.mono hbr.size) | exact hbr.drew.trans (h10.mono hbr.drew.size) | exact (below_drewN hbr _).trans (h10.mono (below_drewN hbr _).size))); go_loud (clear h10); go_loud (clear c0 c1 c2 d0 d1 d2); go_loud (obtain ⟨c0, c1, c2, d0, d1, d2⟩ := SIX.out _ hb10))
            | fail)
          go_roundw
          case rel => exact ⟨k + 1, by omega, by omega, by go_num, Lib.hid hb12⟩
          case measure => simp [intOf]; omega
        · have djk : ((j : Int) == (k : Int)) = false := by simp; omega
          have DFL := Lib.hid (fun (w' : World) (hw : Below w6.heap.size w6 w') => CFL.out w' hw j hj64)
          have DFN := Lib.hid (fun (w' : World) (hw : Below w6.heap.size w6 w') => CFN.out w' hw j hj64)
          obtain ⟨u1, e1, he1, hu1, hf1⟩ := from_one HR.out (Nat.lt_of_le_of_lt (placeW_some HP.out).1 hkj') (show j ≤ lastI ⟨i, t, vsE l1⟩ by rw [HI.out]; exact hlt)
          have hf2 := cut_from HR.out HP.out hkj' (show j ≤ lastI ⟨i, t, vsE l1⟩ by rw [HI.out]; exact hlt)
          rw [HN.out, hf1] at hf2
          rw [hf1] at DFL
          rw [hf2] at DFN
          obtain ⟨j1, hj1⟩ : ∃ j1, j - 1 = j1 := ⟨_, rfl⟩
          rw [hj1] at DFL DFN
          dsimp only at DFL DFN
          clear ha ha2 he1 hu1 hf1 hf2 hj1
          go_upto_region 18 with (first
            | (have g12 := hb12; go_loud (clear g12); go_loud (go_at_call 27); go_loud (with_reducible refine Calls.mono (DFL.out _ (by first | exact hb12 | exact hb12.drew | exact below_drewN hb12 _)) ?_); go_loud (rintro e w13 ⟨⟨A3, n3, k3, l3, rfl, ho3, hv3⟩, h13⟩); go_loud (have hb13 : Below w6.heap.size w6 w13 := (by first | exact hb12.trans (h13.mono hb12.size) | exact hb12.drew.trans (h13.mono hb12.drew.size) | exact (below_drewN hb12 _).trans (h13.mono (below_drewN hb12 _).size))); go_loud (clear h13); go_loud (clear c0 c1 c2 d0 d1 d2); go_loud (obtain ⟨c0, c1, c2, d0, d1, d2⟩ := SIX.out _ hb13); go_loud (have HO3 := Lib.hid ho3); go_loud (have HV3 := Lib.hid hv3); go_loud (clear ho3 hv3))
            | (have g11 := hb11; go_loud (clear g11); go_loud (go_at_call 25); go_loud (with_reducible refine Calls.mono (DTN.out _ (by first | exact hb11 | exact hb11.drew | exact below_drewN hb11 _)) ?_); go_loud (rintro e w12 ⟨rfl, h12⟩); go_loud (have hb12 : Below w6.heap.size w6 w12 := (by first | exact hb11.trans (h12.mono hb11.size) | exact hb11.drew.trans (h12.mono hb11.drew.size) | exact (below_drewN hb11 _).trans (h12.mono (below_drewN hb11 _).size))); go_loud (clear h12); go_loud (clear c0 c1 c2 d0 d1 d2); go_loud (obtain ⟨c0, c1, c2, d0, d1, d2⟩ := SIX.out _ hb12); go_loud (dsimp only [termV]))
            | (have g10 := hb10; go_loud (clear g10); go_loud (go_at_call 25); go_loud (with_reducible refine Calls.mono (DTL.out _ (by first | exact hb10 | exact hb10.drew | exact below_drewN hb10 _)) ?_); go_loud (rintro e w11 ⟨rfl, h11⟩); go_loud (have hb11 : Below w6.heap.size w6 w11 := (by first | exact hb10.trans (h11.mono hb10.size) | exact hb10.drew.trans (h11.mono hb10.drew.size) | exact (below_drewN hb10 _).trans (h11.mono (below_drewN hb10 _).size))); go_loud (clear h11); go_loud (clear c0 c1 c2 d0 d1 d2); go_loud (obtain ⟨c0, c1, c2, d0, d1, d2⟩ := SIX.out _ hb11); go_loud (dsimp only [termV]))
            | (have gr := hbr; go_loud (clear gr); go_loud (go_at_call 24); go_loud (with_reducible refine Calls.mono (CLL.out _ (by first | exact hbr | exact hbr.drew | exact below_drewN hbr _)) ?_); go_loud (rintro e w10 ⟨rfl, h10⟩); go_loud (have hb10 : Below w6.heap.size w6 w10 := (by first | exact hbr.trans (h10.mono hbr.size) | exact hbr.drew.trans (h10.mono hbr.drew.size) | exact (below_drewN hbr _).trans (h10.mono (below_drewN hbr _).size))); go_loud (clear h10); go_loud (clear c0 c1 c2 d0 d1 d2); go_loud (obtain ⟨c0, c1, c2, d0, d1, d2⟩ := SIX.out _ hb10))
            | fail)
          obtain rfl : n3 = 1 := by
            have h1 := HO3.out.len
            have h2 := congrArg List.length HV3.out
            rw [vsE_len, h1] at h2
            exact h2
          obtain ⟨w14, hw14⟩ : ∃ w14, w13.alloc (.cells #[.int .u64 (j1 : Int), .int .u64 (u1 : Int)] 24) = w14 := ⟨_, rfl⟩
          have HN14 := Lib.hid (show Bl w14 w13.heap.size 24 (atC j1 u1) by rw [← hw14]; exact Bl.new w13 24 (atC j1 u1))
          have hb14 : Below w6.heap.size w6 w14 := by rw [← hw14]; exact hb13.alloc hb13.size _
          have HO14 := Lib.hid (show OwnL w14 w12.heap.size A3 1 k3 l3 by rw [← hw14]; exact HO3.out.below ((Below.refl _ _).alloc (Nat.le_refl _) _))
          rw [hw14]
          clear hw14 HO3 c0 c1 c2 d0 d1 d2
          obtain ⟨c0, c1, c2, d0, d1, d2⟩ := SIX.out _ hb14
          go_upto_region 19 with (first
            | (go_at_call 27; go_loud (with_reducible refine Calls.mono (DFN.out _ hb14) ?_); go_loud (rintro e w15 ⟨⟨A4, n4, k4, l4, rfl, ho4, hv4⟩, h15⟩); go_loud (have hb15 : Below w6.heap.size w6 w15 := hb14.trans (h15.mono hb14.size)); go_loud (have HN15 := Lib.hid (HN14.out.below h15 HN14.out.lt)); go_loud (have HO15 := Lib.hid (HO14.out.below h15)); go_loud (have HO4 := Lib.hid ho4); go_loud (have HV4 := Lib.hid hv4); go_loud (clear h15 ho4 hv4 c0 c1 c2 d0 d1 d2))
            | fail)
          obtain rfl : n4 = 1 := by
            have h1 := HO4.out.len
            have h2 := congrArg List.length HV4.out
            rw [vsE_len, h1] at h2
            exact h2
          obtain ⟨w16, hw16⟩ : ∃ w16, w15.alloc (.cells #[.int .u64 (j1 : Int), .int .u64 (u1 : Int)] 24) = w16 := ⟨_, rfl⟩
          have N16 : Bl w16 w15.heap.size 24 (atC j1 u1) := by rw [← hw16]; exact Bl.new w15 24 (atC j1 u1)
          have b16 : Below w15.heap.size w15 w16 := by rw [← hw16]; exact (Below.refl _ _).alloc (Nat.le_refl _) _
          have HB16 := Lib.hid (show Below w6.heap.size w6 w16 from hb15.trans (b16.mono hb15.size))
          have M16 := HN15.out.below b16 HN15.out.lt
          have S3 := (HO15.out.below b16).sq
          have S4 := (HO4.out.below b16).sq
          rw [hw16]
          obtain ⟨x, rfl⟩ := List.length_eq_one_iff.1 S3.len
          obtain ⟨y, rfl⟩ := List.length_eq_one_iff.1 S4.len
          have exy : x.v = y.v := by
            have h1 : [x.v] = [e1] := HV3.out
            have h2 : [y.v] = [e1] := HV4.out
            rw [← h2] at h1
            injection h1
          have ekk : y.k = x.k := (congrArg Ev.k exy).symm
          have edd : y.d = x.d := (congrArg Ev.d exy).symm
          have hxd := (S3.e x (by simp)).d
          have hyd := (S4.e y (by simp)).d
          rw [edd] at hyd
          obtain ⟨bs, hbs⟩ : ∃ bs : ByteArray, (⟨x.d.toArray⟩ : ByteArray) = bs := ⟨_, rfl⟩
          have k1 := hxd.str 42 9 5 Try.underlying42 Try.underlying5 Try.underlying9
          have k2 := hyd.str 42 9 5 Try.underlying42 Try.underlying5 Try.underlying9
          have k3' := (hxd.below (Below.refl w16.heap.size w16).drew).str 42 9 5 Try.underlying42 Try.underlying5 Try.underlying9
          have k4' := (hyd.below (Below.refl w16.heap.size w16).drew).str 42 9 5 Try.underlying42 Try.underlying5 Try.underlying9
          have k5 := fun n => (hxd.below (below_drewN (Below.refl w16.heap.size w16) n)).str 42 9 5 Try.underlying42 Try.underlying5 Try.underlying9
          have k6 := fun n => (hyd.below (below_drewN (Below.refl w16.heap.size w16) n)).str 42 9 5 Try.underlying42 Try.underlying5 Try.underlying9
          rw [hbs] at k1 k2 k3' k4'
          simp only [hbs] at k5 k6
          obtain ⟨b3, o3, rfl, hbl3, hr3⟩ := S3.s.at_ (i := 0) (by omega)
          obtain ⟨b4, o4, rfl, hbl4, hr4⟩ := S4.s.at_ (i := 0) (by omega)
          have p1 : w16.cell? ⟨b3, o3 + 1, none⟩ = some (.int .i64 x.k) := by simpa using hr3 1 _ rfl
          have p2 : w16.cell? ⟨b3, o3 + 2, none⟩ = some (.slice x.D.a x.D.n x.D.c) := by simpa using hr3 2 _ rfl
          have q1 : w16.cell? ⟨b4, o4 + 1, none⟩ = some (.int .i64 x.k) := by rw [← ekk]; simpa using hr4 1 _ rfl
          have q2 : w16.cell? ⟨b4, o4 + 2, none⟩ = some (.slice y.D.a y.D.n y.D.c) := by simpa using hr4 2 _ rfl
          have m0 := M16.cell 0
          have m1 := M16.cell 1
          have g0 := N16.cell 0
          have g1 := N16.cell 1
          simp only [atC, List.getElem?_cons_zero, List.getElem?_cons_succ] at m0 m1 g0 g1
          have heq := fun w => eq_at (j1 : Int) (u1 : Int) (j1 : Int) (u1 : Int) w
          clear hw16 N16 b16 M16 S3 S4 exy ekk edd hxd hyd hbl3 hbl4 hr3 hr4 hbs HO15 HO4 HV3 HV4 hj64 DTL DTN DFL DFN daa hb14 hb15 HN15
          go_quiet (fail)
          go_wp2_with fail
          go_roundw
          case rel => exact ⟨j + 1, by omega, by omega, by go_num, Lib.hid (by first | exact HB16.out | exact below_drewN HB16.out _ | exact HB16.out.drew)⟩
          case measure => simp [intOf]; omega
      · have dj : decide ((j : Int) ≤ (s : Int)) = false := by simp; omega
        rcases Nat.eq_zero_or_pos k with h0 | h0
        · have dk : decide ((0 : Int) < (k : Int)) = false := by simp; omega
          go_wp2_with (first
            | (have gr := hbr; go_loud (clear gr); go_loud (go_at_call 24); go_loud (with_reducible refine Calls.mono (CLL.out _ (by first | exact hbr | exact hbr.drew | exact below_drewN hbr _)) ?_); go_loud (rintro e w10 ⟨rfl, h10⟩); go_loud (have hb10 : Below w6.heap.size w6 w10 := (by first | exact hbr.trans (h10.mono hbr.size) | exact hbr.drew.trans (h10.mono hbr.drew.size) | exact (below_drewN hbr _).trans (h10.mono (below_drewN hbr _).size))); go_loud (clear h10); go_loud (clear c0 c1 c2 d0 d1 d2); go_loud (obtain ⟨c0, c1, c2, d0, d1, d2⟩ := SIX.out _ hb10))
            | fail)
          go_ret
          exact ⟨rfl, HB4.out.trans ((HB6.out.trans (hb10.mono HB6.out.size)).mono HB4.out.size)⟩
        · have dk : decide ((0 : Int) < (k : Int)) = true := by simp; omega
          have hk1 : k - 1 < 18446744073709551616 := by have := HK.out; omega
          have hwk : IntKind.u64.wrap ((k : Int) - 1) = ((k - 1 : Nat) : Int) := by have := HK.out; show ((k : Int) - 1) % 18446744073709551616 = _; omega
          have DTN := Lib.hid (fun (w' : World) (hw : Below w6.heap.size w6 w') => CTN.out w' hw (k - 1) hk1)
          rw [show termW ⟨k, u, vsE l2⟩ (k - 1) = none by unfold termW; rw [if_neg (by rw [HNR.out]; simp), ← HN.out]; exact cut_none (by omega)] at DTN
          go_wp2_with (first
            | (have g10 := hb10; go_loud (clear g10); go_loud (go_at_call 25); go_loud (with_reducible refine Calls.mono (DTN.out _ (by first | exact hb10 | exact hb10.drew)) ?_); go_loud (rintro e w11 ⟨rfl, h11⟩); go_loud (have hb11 : Below w6.heap.size w6 w11 := hb10.trans (h11.mono hb10.size)); go_loud (clear h11); go_loud (dsimp only [termV]))
            | (have gr := hbr; go_loud (clear gr); go_loud (go_at_call 24); go_loud (with_reducible refine Calls.mono (CLL.out _ (by first | exact hbr | exact hbr.drew | exact below_drewN hbr _)) ?_); go_loud (rintro e w10 ⟨rfl, h10⟩); go_loud (have hb10 : Below w6.heap.size w6 w10 := (by first | exact hbr.trans (h10.mono hbr.size) | exact hbr.drew.trans (h10.mono hbr.drew.size) | exact (below_drewN hbr _).trans (h10.mono (below_drewN hbr _).size))); go_loud (clear h10); go_loud (clear c0 c1 c2 d0 d1 d2); go_loud (obtain ⟨c0, c1, c2, d0, d1, d2⟩ := SIX.out _ hb10))
            | fail)
          go_ret
          exact ⟨rfl, HB4.out.trans ((HB6.out.trans (hb11.mono HB6.out.size)).mono HB4.out.size)⟩)

theorem own : ownKnob Try.prog.godebug = none := by kernel_rfl
theorem laidOut : laidOutB Try.prog = true := by kernel_rfl

set_option maxRecDepth 100000 in
theorem lifted (os : Os) (started : os.Started) (H : Type) (enc : TypeId × Value → H) :
    ReturnsInHanded {} Try.checked os 8 .any (Rows.logCutsSpec.pre6 enc Try.prog Try.f8 Rows.logCutsRow.domain false) (Rows.logCutsSpec.post enc Try.prog Try.f8 false true false false) := by
  refine returnsInHanded_of_change (C := Try.checked) own started (by kernel_rfl) Try.func8
    (ChangeSpec.witness6 (enc := enc) (C := Try.checked) false ⟨#[], #[.agg #[.int .u64 0, .int .u64 0, .slice none 0 0], .int .u64 0], []⟩ 8 (by kernel_rfl) (by kernel_rfl) (by kernel_rfl) (by kernel_rfl)) ?_
  intro W base args ds gs before hval0 hW hcnd _
  have hval : ∀ (j : Nat) t v, Try.f8.params[j]? = some t → args[j]? = some v → Value.okWide Try.prog W .any base t v := hval0
  have hW' := hW
  obtain ⟨p, q, hA0, hV, rfl, hfz, hnd⟩ := hW
  have hA : DataW.TrodAll enc Try.prog W 0 (fun _ => true) true Try.f8.params.toList args.toList ds p := hA0
  rw [Try.params8] at hA hval
  obtain ⟨v0, vs0, d0, ds0, p0, q0, hargs, rfl, rfl, h0, r0⟩ := trodAll_cons hA
  obtain ⟨v1, vs1, d1, ds1, p1, q1, rfl, rfl, rfl, h1, r1⟩ := trodAll_cons r0
  obtain ⟨rfl, rfl, rfl⟩ := trodAll_nil r1
  obtain rfl : args = #[v0, v1] := by cases args; simp_all
  obtain ⟨rfl, rfl⟩ := trodVars_none hV
  have k0 := h0
  have lt0 : ∀ x ∈ p0, x.block < W.heap.size := by obtain ⟨m, hm⟩ := k0; exact DataW.trod_lt m _ _ _ hm
  obtain ⟨i0, t0, A0, n0, c0, l0, rfl, hi0, ht0, s0⟩ := log_arg (hval 0 27 v0 rfl rfl) h0
  have k1 := h1
  have lt1 : ∀ x ∈ p1, x.block < W.heap.size := by obtain ⟨m, hm⟩ := k1; exact DataW.trod_lt m _ _ _ hm
  obtain ⟨z1, rfl, e1, f1, w1⟩ := open_int Try.underlying22 (hval 1 22 v1 rfl rfl) h1
  have b1 := bounds_u64 w1
  obtain ⟨a1, rfl⟩ : ∃ a1 : Nat, z1 = (a1 : Int) := ⟨z1.toNat, by omega⟩
  clear hA0 hval0
  refine (walk s0 i0 t0 hi0 ht0 a1 (by omega)).mono fun e W' ⟨he, bel⟩ => ?_
  subst he
  exact ⟨_, rfl, _, _, _, [], _, [], hW', trodAll_mk1 (shut_bool Try.underlying4 _), (trodAll_cons_mk (Below.trod laidOut (by kernel_rfl) (of_decide_eq_true (by kernel_rfl)) k0 bel lt0) (trodAll_cons_mk (Below.trod laidOut (by kernel_rfl) (of_decide_eq_true (by kernel_rfl)) k1 bel lt1) trodAll_mk0)), rfl, bel.frame _, fun h => by cases h⟩

theorem over : Rows.logCutsRow.holds Try.pinned (OpenSpec.ofChange Rows.logCutsSpec) :=
  OpenClaim.holds_of_wide 8 Try.f8 rfl rfl rfl rfl rfl rfl rfl ⟨rfl, rfl, rfl, rfl, rfl⟩ rfl rfl rfl rfl rfl (by kernel_rfl) Try.func8 (by kernel_rfl)
    (of_decide_eq_true (by kernel_rfl)) (by unfold Func.isWrapper; first | (rw [if_pos (by decide +kernel)]; kernel_rfl) | (rw [if_neg (by decide +kernel)]; exact ⟨rfl, rfl⟩))
    (fun os started H enc _ => lifted os started H enc)

theorem proved : Rows.LogCutsSaid := over
#print axioms proved
end Go.Proofs.Ytoknigpdphfocaa.logCuts
