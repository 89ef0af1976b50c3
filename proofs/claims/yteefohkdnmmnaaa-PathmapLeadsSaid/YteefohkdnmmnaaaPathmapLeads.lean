/-
  PROVED HERE: the difference of two maps leads from the one to the other, and there is none of the same: at every two maps.
-/
import Derived.Test.YteefohkdnmmnaaaPw
import Derived.Test.YteefohkdnmmnaaaWk
import Derived.Test.YteefohkdnmmnaaaLa
import Derived.Test.YteefohkdnmmnaaaPy
import Derived.Test.YteefohkdnmmnaaaRows
import Derived.ProofKit
import Derived.OpenShut
import Derived.ChangeOld
import Derived.Carry
namespace Go.Proofs.Yteefohkdnmmnaaa.pathmapLeads
open Go.ChangeShapes Go.WideShapes Go.ChangeAt Go.RowKit
set_option linter.unusedVariables false
set_option linter.unusedSimpArgs false
open Go.Deep

set_option maxRecDepth 100000 in
set_option maxHeartbeats 4000000 in
theorem walk (A : Option Addr) (n c : Nat) (l : List Rw) (A' : Option Addr) (n' c' : Nat) (l' : List Rw) (w : World) (h : SqR w w.heap.size A n c l) (h' : SqR w w.heap.size A' n' c' l') :
    Calls Try.prog 7 #[.agg #[.slice A n c], .agg #[.slice A' n' c']] w fun e w' => e = .returned (.bool true) ∧ Below w.heap.size w w' := by
  obtain ⟨w0, hw0⟩ : ∃ w0, (w.alloc (.cells #[.slice A n c] 24)).alloc (.cells #[.slice A' n' c'] 24) = w0 := ⟨_, rfl⟩
  have B0 : Hid (Below w.heap.size w w0) := Lib.hid (by rw [← hw0]; exact ((Below.refl _ _).alloc (Nat.le_refl _) _).alloc (by simp) _)
  have X0 : Hid (Lies w0 w.heap.size 1 [.slice A n c]) := Lib.hid (by rw [← hw0]; exact (Lies.new w [.slice A n c] 24).alloc _)
  have X1 : Hid (Lies w0 (w.heap.size + 1) 1 [.slice A' n' c']) := Lib.hid (by
    rw [← hw0]
    have := Lies.new (w.alloc (.cells #[.slice A n c] 24)) [.slice A' n' c'] 24
    rwa [World.size_alloc] at this)
  have HS := Lib.hid ((h.below B0.out).more B0.out.size)
  have HS' := Lib.hid ((h'.below B0.out).more B0.out.size)
  have HW := Lib.hid hw0
  have hl := h.len
  have hl' := h'.len
  clear hw0 h h'
  go_enter Try.func7, Try.ntmps7
  go_upto_region 1 with fail
  rw [HW.out]
  clear HW
  go_wp2_with fail
  refine (wakes_any w0).mono ?_
  rintro e w1 ⟨rfl, hb1⟩
  have G1 := Lib.hid hb1
  clear hb1
  have q0 := (X0.out.below G1.out X0.out.lt).cell (j := 0) rfl
  have q1 := (X1.out.below G1.out X1.out.lt).cell (j := 0) rfl
  go_wp2_with fail
  refine (large_any ((HS.out.below G1.out).more G1.out.size) (A' := none) (n' := 0) (c' := 0) (Sq.nil_ ch_sz)).mono ?_
  rintro e w2 ⟨(rfl | ⟨rfl, hn, _⟩), hb2⟩
  · have G2 := Lib.hid (G1.out.trans (hb2.mono G1.out.size))
    clear hb2 q0 q1
    go_wp2_with fail
    go_ret
    exact ⟨rfl, B0.out.trans (G2.out.mono B0.out.size)⟩
  have G2 := Lib.hid (G1.out.trans (hb2.mono G1.out.size))
  clear hb2 q0 q1
  have q0 := (X0.out.below G2.out X0.out.lt).cell (j := 0) rfl
  have q1 := (X1.out.below G2.out X1.out.lt).cell (j := 0) rfl
  go_wp2_with fail
  refine (large_any ((HS'.out.below G2.out).more G2.out.size) (A' := none) (n' := 0) (c' := 0) (Sq.nil_ ch_sz)).mono ?_
  rintro e w3 ⟨(rfl | ⟨rfl, hn', _⟩), hb3⟩
  · have G3 := Lib.hid (G2.out.trans (hb3.mono G2.out.size))
    clear hb3 q0 q1
    go_wp2_with fail
    go_ret
    exact ⟨rfl, B0.out.trans (G3.out.mono B0.out.size)⟩
  have G3 := Lib.hid (G2.out.trans (hb3.mono G2.out.size))
  clear hb3 q0 q1
  have q0 := (X0.out.below G3.out X0.out.lt).cell (j := 0) rfl
  have q1 := (X1.out.below G3.out X1.out.lt).cell (j := 0) rfl
  go_wp2_with fail
  refine (Diff_any ((HS.out.below G3.out).more G3.out.size) (by omega) ((HS'.out.below G3.out).more G3.out.size) (by omega)).mono ?_
  rintro e w4 ⟨A2, n2, c2, rfl, hsq, hb4⟩
  have G4 := Lib.hid (G3.out.trans (hb4.mono G3.out.size))
  clear hb4 q0 q1
  obtain ⟨er, her⟩ : ∃ er, diffE l l' = er := ⟨_, rfl⟩
  rw [her] at hsq ⊢
  by_cases he : er = 0
  · subst he
    rw [if_pos rfl] at hsq
    have hD := her
    have HD := Lib.hid hD
    have hn2 := hsq.len
    have hn3 := (diffE_right hD).2.2
    clear her hD
    obtain ⟨w5, hw5⟩ : ∃ w5, w4.alloc (.cells #[.slice A2 n2 c2] 27) = w5 := ⟨_, rfl⟩
    have B5 : Hid (Below w4.heap.size w4 w5) := Lib.hid (by rw [← hw5]; exact (Below.refl _ _).alloc (Nat.le_refl _) _)
    have E5 : Hid (Lies w5 w4.heap.size 1 [.slice A2 n2 c2]) := Lib.hid (by rw [← hw5]; exact Lies.new w4 [.slice A2 n2 c2] 27)
    have G5 := Lib.hid (G4.out.trans (B5.out.mono G4.out.size))
    have HE := Lib.hid ((hsq.below B5.out).more B5.out.size)
    have HW := Lib.hid hw5
    clear hsq hw5
    go_upto_region 6 with fail
    rw [HW.out]
    clear HW
    have q0 := (X0.out.below G5.out X0.out.lt).cell (j := 0) rfl
    have e0 := E5.out.cell (j := 0) rfl
    have HAP := Lib.hid (Apply_any ((HS.out.below G5.out).more G5.out.size) (by omega) HE.out (by omega))
    have hL := diff_leads HD.out
    rw [hL.1, hL.2, if_pos rfl] at HAP
    clear hL
    go_wp2_with fail
    refine HAP.out.mono ?_
    rintro e w6 ⟨A3, n3, c3, rfl, hsq, hb6⟩
    have G6 := Lib.hid hb6
    have hn33 := hsq.len
    clear hb6 q0 e0 HAP
    obtain ⟨w7, hw7⟩ : ∃ w7, w6.alloc (.cells #[.slice A3 n3 c3] 24) = w7 := ⟨_, rfl⟩
    have B7 : Hid (Below w6.heap.size w6 w7) := Lib.hid (by rw [← hw7]; exact (Below.refl _ _).alloc (Nat.le_refl _) _)
    have M7 : Hid (Lies w7 w6.heap.size 1 [.slice A3 n3 c3]) := Lib.hid (by rw [← hw7]; exact Lies.new w6 [.slice A3 n3 c3] 24)
    have G57 := Lib.hid (G6.out.trans (B7.out.mono G6.out.size))
    have G7 := Lib.hid (G5.out.trans (G57.out.mono G5.out.size))
    have HM := Lib.hid ((hsq.below B7.out).more B7.out.size)
    have E7 := Lib.hid (E5.out.below G57.out E5.out.lt)
    have HW := Lib.hid hw7
    clear hsq hw7
    go_upto_region 9 with fail
    rw [HW.out]
    clear HW
    have q1 := (X1.out.below G7.out X1.out.lt).cell (j := 0) rfl
    have m0 := M7.out.cell (j := 0) rfl
    have HSM := Lib.hid (same_any HM.out ((HS'.out.below G7.out).more G7.out.size) (by omega))
    rw [same_eq rfl] at HSM
    go_wp2_with fail
    refine HSM.out.mono ?_
    rintro e w8 ⟨rfl, hb8⟩
    have G58 := Lib.hid (G57.out.trans (hb8.mono G57.out.size))
    have G8 := Lib.hid (G5.out.trans (G58.out.mono G5.out.size))
    clear hb8 q1 m0 HSM
    have E8 := Lib.hid (E5.out.below G58.out E5.out.lt)
    have e0 := E8.out.cell (j := 0) rfl
    have HCK := Lib.hid (CheckEdit_any ((HE.out.below G58.out).more G58.out.size) (by omega))
    rw [diff_right HD.out, if_pos rfl] at HCK
    go_wp2_with fail
    refine HCK.out.mono ?_
    rintro e w9 ⟨rfl, hb9⟩
    have G59 := Lib.hid (G58.out.trans (hb9.mono G58.out.size))
    have G9 := Lib.hid (G5.out.trans (G59.out.mono G5.out.size))
    clear hb9 e0 HCK
    have q0 := (X0.out.below G9.out X0.out.lt).cell (j := 0) rfl
    have HDD := Lib.hid (Diff_any ((HS.out.below G9.out).more G9.out.size) (by omega) ((HS.out.below G9.out).more G9.out.size) (by omega))
    have hds := diff_self (diffE_right HD.out).1
    rw [hds.1, hds.2, if_pos rfl] at HDD
    clear hds
    go_wp2_with fail
    refine HDD.out.mono ?_
    rintro e w10 ⟨A5, n5, c5, rfl, hsq, hb10⟩
    have hn5 : n5 = 0 := by rw [← hsq.len]; rfl
    subst hn5
    have G510 := Lib.hid (G59.out.trans (hb10.mono G59.out.size))
    clear hb10 q0 HDD hsq
    obtain ⟨w11, hw11⟩ : ∃ w11, w10.alloc (.cells #[.slice A5 0 c5] 27) = w11 := ⟨_, rfl⟩
    have B11 : Hid (Below w10.heap.size w10 w11) := Lib.hid (by rw [← hw11]; exact (Below.refl _ _).alloc (Nat.le_refl _) _)
    have N11 : Hid (Lies w11 w10.heap.size 1 [.slice A5 0 c5]) := Lib.hid (by rw [← hw11]; exact Lies.new w10 [.slice A5 0 c5] 27)
    have G511 := Lib.hid (G510.out.trans (B11.out.mono G510.out.size))
    have G11 := Lib.hid (G5.out.trans (G511.out.mono G5.out.size))
    have E11 := Lib.hid (E5.out.below G511.out E5.out.lt)
    have HW := Lib.hid hw11
    clear hw11
    go_upto_region 12 with fail
    rw [HW.out]
    clear HW
    have q0 := (X0.out.below G11.out X0.out.lt).cell (j := 0) rfl
    have q1 := (X1.out.below G11.out X1.out.lt).cell (j := 0) rfl
    have e0 := E11.out.cell (j := 0) rfl
    have o0 := N11.out.cell (j := 0) rfl
    have hfin := diff_none HD.out
    have hm2 : ((diffW l l').length : Int) = (n2 : Int) := by rw [← hn2]
    rw [hm2] at hfin
    have HSA := Lib.hid (fun (W : World) (hW : Below w11.heap.size w11 W) => same_any ((HS.out.below (G11.out.trans (hW.mono G11.out.size))).more (Nat.le_trans G11.out.size hW.size)) ((HS'.out.below (G11.out.trans (hW.mono G11.out.size))).more (Nat.le_trans G11.out.size hW.size)) (by omega))
    obtain ⟨sq, hsq⟩ : ∃ sq, sameL l l' = sq := ⟨_, rfl⟩
    rw [hsq] at HSA hfin
    clear hsq
    go_region_held3 (fun w' => w'.cell? ⟨w.heap.size, 0, none⟩ = some (.slice A n c) ∧ w'.cell? ⟨w.heap.size + 1, 0, none⟩ = some (.slice A' n' c') ∧ w'.cell? ⟨w4.heap.size, 0, none⟩ = some (.slice A2 n2 c2) ∧ w'.cell? ⟨w10.heap.size, 0, none⟩ = some (.slice A5 0 c5) ∧ Below w11.heap.size w11 w')
      (first | exact ⟨q0, q1, e0, o0, (Below.refl _ _).drew⟩ | with_reducible exact K12.out | fail)
      (first | (go_at_call 17; have T := HSA.out w11.drew (Below.refl _ _).drew; with_reducible refine Calls.mono T ?_; clear T; rintro e w12 ⟨rfl, hb12⟩; have hb13 := (show Below w11.heap.size w11 w12 from (Below.refl _ _).drew.trans (hb12.mono (show w11.heap.size ≤ w11.drew.heap.size from Nat.le_refl _))); have K12 := Lib.hid (show w12.cell? ⟨w.heap.size, 0, none⟩ = some (.slice A n c) ∧ w12.cell? ⟨w.heap.size + 1, 0, none⟩ = some (.slice A' n' c') ∧ w12.cell? ⟨w4.heap.size, 0, none⟩ = some (.slice A2 n2 c2) ∧ w12.cell? ⟨w10.heap.size, 0, none⟩ = some (.slice A5 0 c5) ∧ Below w11.heap.size w11 w12 from ⟨(hb13.cell (p := ⟨w.heap.size, 0, none⟩) (block_lt_of_cell q0)).trans q0, (hb13.cell (p := ⟨w.heap.size + 1, 0, none⟩) (block_lt_of_cell q1)).trans q1, (hb13.cell (p := ⟨w4.heap.size, 0, none⟩) (block_lt_of_cell e0)).trans e0, (hb13.cell (p := ⟨w10.heap.size, 0, none⟩) (block_lt_of_cell o0)).trans o0, hb13⟩); clear hb12 hb13) | fail)
    go_wp2_with fail
    go_ret
    exact ⟨rfl, B0.out.trans ((G11.out.trans (K12.out.2.2.2.2.mono G11.out.size)).mono B0.out.size)⟩
  · have d1 : (er == 0) = false := by simpa using he
    have d2 : (er != 0) = true := by simpa using he
    rw [if_neg he] at hsq
    have hn2 : n2 = 0 := by rw [← hsq.len]; rfl
    subst hn2
    clear hsq
    go_wp2_with fail
    go_ret
    exact ⟨rfl, B0.out.trans ((G4.out.alloc G4.out.size _).mono B0.out.size)⟩

theorem own : ownKnob Try.prog.godebug = none := by kernel_rfl
theorem laidOut : laidOutB Try.prog = true := by kernel_rfl

set_option maxRecDepth 100000 in
theorem lifted (os : Os) (started : os.Started) (H : Type) (enc : TypeId × Value → H) :
    ReturnsInHanded {} Try.checked os 7 .any (Rows.pathmapLeadsSpec.pre6 enc Try.prog Try.f7 Rows.pathmapLeadsRow.domain false) (Rows.pathmapLeadsSpec.post enc Try.prog Try.f7 false true false false) := by
  refine returnsInHanded_of_change (C := Try.checked) own started (by kernel_rfl) Try.func7
    (ChangeSpec.witness6 (enc := enc) (C := Try.checked) false ⟨#[], #[.agg #[.slice none 0 0], .agg #[.slice none 0 0]], []⟩ 8 (by kernel_rfl) (by kernel_rfl) (by kernel_rfl) (by kernel_rfl)) ?_
  intro W base args ds gs before hval0 hW hcnd _
  have hval : ∀ (j : Nat) t v, Try.f7.params[j]? = some t → args[j]? = some v → Value.okWide Try.prog W .any base t v := hval0
  have hW' := hW
  obtain ⟨p, q, hA0, hV, rfl, hfz, hnd⟩ := hW
  have hA : DataW.TrodAll enc Try.prog W 0 (fun _ => true) true Try.f7.params.toList args.toList ds p := hA0
  rw [Try.params7] at hA hval
  obtain ⟨v0, vs0, d0, ds0, p0, q0, hargs, rfl, rfl, h0, r0⟩ := trodAll_cons hA
  obtain ⟨v1, vs1, d1, ds1, p1, q1, rfl, rfl, rfl, h1, r1⟩ := trodAll_cons r0
  obtain ⟨rfl, rfl, rfl⟩ := trodAll_nil r1
  obtain rfl : args = #[v0, v1] := by cases args; simp_all
  obtain ⟨rfl, rfl⟩ := trodVars_none hV
  have k0 := h0
  have lt0 : ∀ x ∈ p0, x.block < W.heap.size := by obtain ⟨m, hm⟩ := k0; exact DataW.trod_lt m _ _ _ hm
  obtain ⟨A0, n0, c0, l0, rfl, s0⟩ := map_arg (hval 0 24 v0 rfl rfl) h0
  have k1 := h1
  have lt1 : ∀ x ∈ p1, x.block < W.heap.size := by obtain ⟨m, hm⟩ := k1; exact DataW.trod_lt m _ _ _ hm
  obtain ⟨A1, n1, c1, l1, rfl, s1⟩ := map_arg (hval 1 24 v1 rfl rfl) h1
  clear hA0 hval0
  refine (walk A0 n0 c0 l0 A1 n1 c1 l1 W s0 s1).mono fun e W' ⟨he, bel⟩ => ?_
  subst he
  exact ⟨_, rfl, _, _, _, [], _, [], hW', trodAll_mk1 (shut_bool Try.underlying4 _), (trodAll_cons_mk (Below.trod laidOut (by kernel_rfl) (of_decide_eq_true (by kernel_rfl)) k0 bel lt0) (trodAll_cons_mk (Below.trod laidOut (by kernel_rfl) (of_decide_eq_true (by kernel_rfl)) k1 bel lt1) trodAll_mk0)), rfl, bel.frame _, fun h => by cases h⟩

theorem over : Rows.pathmapLeadsRow.holds Try.pinned (OpenSpec.ofChange Rows.pathmapLeadsSpec) :=
  OpenClaim.holds_of_wide 7 Try.f7 rfl rfl rfl rfl rfl rfl rfl ⟨rfl, rfl, rfl, rfl, rfl⟩ rfl rfl rfl rfl rfl (by kernel_rfl) Try.func7 (by kernel_rfl)
    (of_decide_eq_true (by kernel_rfl)) (by unfold Func.isWrapper; first | (rw [if_pos (by decide +kernel)]; kernel_rfl) | (rw [if_neg (by decide +kernel)]; exact ⟨rfl, rfl⟩))
    (fun os started H enc _ => lifted os started H enc)

theorem proved : Rows.PathmapLeadsSaid := over
#print axioms proved
end Go.Proofs.Yteefohkdnmmnaaa.pathmapLeads
