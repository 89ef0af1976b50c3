/-
  PROVED HERE: where nothing conflicts both sides may be changed about; with the same on both sides it is that, with base on one side the other one: at every three maps.
-/
import Derived.Test.YtgpakahmccafdaaMo
import Derived.Test.YtgpakahmccafdaaMk
import Derived.Test.YtgpakahmccafdaaMt
import Derived.Test.YtgpakahmccafdaaRows
import Derived.ProofKit
import Derived.OpenShut
import Derived.ChangeOld
import Derived.Carry
namespace Go.Proofs.Ytgpakahmccafdaa.mergeTurns
open Go.ChangeShapes Go.WideShapes Go.ChangeAt Go.RowKit
set_option linter.unusedVariables false
set_option linter.unusedSimpArgs false
open Go.Deep
attribute [local irreducible] wpQuiet

set_option maxRecDepth 100000 in
set_option maxHeartbeats 8000000 in
theorem walk (A1 : Option Addr) (n1 c1 : Nat) (l1 : List Rw) (A2 : Option Addr) (n2 c2 : Nat) (l2 : List Rw) (A3 : Option Addr) (n3 c3 : Nat) (l3 : List Rw) (w : World) (h1 : SqR w w.heap.size A1 n1 c1 l1) (h2 : SqR w w.heap.size A2 n2 c2 l2) (h3 : SqR w w.heap.size A3 n3 c3 l3) :
    Calls Try.prog 6 #[.agg #[.slice A1 n1 c1, .slice A2 n2 c2, .slice A3 n3 c3]] w fun e w' => e = .returned (.bool true) ∧ Below w.heap.size w w' := by
  obtain ⟨w0, hw0⟩ : ∃ w0, w.alloc (.cells #[.slice A1 n1 c1, .slice A2 n2 c2, .slice A3 n3 c3] 26) = w0 := ⟨_, rfl⟩
  have B0 : Hid (Below w.heap.size w w0) := Lib.hid (by rw [← hw0]; exact (Below.refl _ _).alloc (Nat.le_refl _) _)
  have X0 : Hid (Lies w0 w.heap.size 3 [.slice A1 n1 c1, .slice A2 n2 c2, .slice A3 n3 c3]) := Lib.hid (by rw [← hw0]; exact Lies.new w [.slice A1 n1 c1, .slice A2 n2 c2, .slice A3 n3 c3] 26)
  have HS1 : Hid (∀ W, Below w0.heap.size w0 W → SqR W W.heap.size A1 n1 c1 l1) := Lib.hid fun W hW => (h1.below (B0.out.trans (hW.mono B0.out.size))).more (Nat.le_trans B0.out.size hW.size)
  have HS2 : Hid (∀ W, Below w0.heap.size w0 W → SqR W W.heap.size A2 n2 c2 l2) := Lib.hid fun W hW => (h2.below (B0.out.trans (hW.mono B0.out.size))).more (Nat.le_trans B0.out.size hW.size)
  have HS3 : Hid (∀ W, Below w0.heap.size w0 W → SqR W W.heap.size A3 n3 c3 l3) := Lib.hid fun W hW => (h3.below (B0.out.trans (hW.mono B0.out.size))).more (Nat.le_trans B0.out.size hW.size)
  have HQ : Hid (∀ W, Below w0.heap.size w0 W → W.cell? ⟨w.heap.size, 0, none⟩ = some (.slice A1 n1 c1) ∧ W.cell? ⟨w.heap.size, 1, none⟩ = some (.slice A2 n2 c2) ∧ W.cell? ⟨w.heap.size, 2, none⟩ = some (.slice A3 n3 c3)) := Lib.hid fun W hW =>
    ⟨(X0.out.below hW X0.out.lt).cell (j := 0) rfl, (X0.out.below hW X0.out.lt).cell (j := 1) rfl, (X0.out.below hW X0.out.lt).cell (j := 2) rfl⟩
  have HW := Lib.hid hw0
  clear hw0 h1 h2 h3 X0
  go_enter Try.func6, Try.ntmps6
  go_upto_region 1 with fail
  rw [HW.out]
  clear HW
  go_wp2_with fail
  refine (wakes_any w0).mono ?_
  rintro e wa ⟨rfl, hb1⟩
  have G1 := Lib.hid hb1
  clear hb1
  obtain ⟨q0, q1, q2⟩ := HQ.out _ G1.out
  go_wp2_with fail
  obtain ⟨wb, hw2⟩ : ∃ wb, wa.alloc (.cells #[.slice A1 n1 c1, .slice A2 n2 c2, .slice A3 n3 c3] 24) = wb := ⟨_, rfl⟩
  rw [hw2]
  have C2 : Hid (Below wa.heap.size wa wb) := Lib.hid (by rw [← hw2]; exact (Below.refl _ _).alloc (Nat.le_refl _) _)
  have G2 := Lib.hid (G1.out.trans (C2.out.mono G1.out.size))
  have HL := larges_any (w := wb) (A := some ⟨wa.heap.size, 0, none⟩) (n := 3) (c := 3) (ms := [⟨A1, n1, c1, l1⟩, ⟨A2, n2, c2, l2⟩, ⟨A3, n3, c3, l3⟩]) ⟨rfl, Nat.le_refl _, by unfold maxLen; omega, (fun e => by cases e), mp_sz, fun _ => ⟨wa.heap.size, 0, rfl, by rw [← hw2]; simp, by rw [← hw2]; exact (Lies.new wa [.slice A1 n1 c1, .slice A2 n2 c2, .slice A3 n3 c3] 24).rg⟩⟩ (mp_all3 (HS1.out _ G2.out) (HS2.out _ G2.out) (HS3.out _ G2.out)) (by omega)
  clear hw2 C2 q0 q1 q2
  refine HL.mono ?_
  rintro e wc ⟨(rfl | ⟨rfl, hm⟩), hb3⟩
  · have G3 := Lib.hid (G2.out.trans (hb3.mono G2.out.size))
    clear hb3 HL
    go_wp2_with fail
    go_ret
    exact ⟨rfl, B0.out.trans (G3.out.mono B0.out.size)⟩
  have G3 := Lib.hid (G2.out.trans (hb3.mono G2.out.size))
  have hn1 : n1 ≤ 1000 ∧ ∀ r ∈ l1, r.p.size ≤ 500 := by have := hm ⟨A1, n1, c1, l1⟩ (by simp); exact ⟨by have := this.1; simp at this; omega, this.2⟩
  have hn2 : n2 ≤ 1000 ∧ ∀ r ∈ l2, r.p.size ≤ 500 := by have := hm ⟨A2, n2, c2, l2⟩ (by simp); exact ⟨by have := this.1; simp at this; omega, this.2⟩
  have hn3 : n3 ≤ 1000 ∧ ∀ r ∈ l3, r.p.size ≤ 500 := by have := hm ⟨A3, n3, c3, l3⟩ (by simp); exact ⟨by have := this.1; simp at this; omega, this.2⟩
  clear hb3 HL hm G2
  obtain ⟨er, her⟩ : ∃ er, mergeE l1 l2 l3 [] = er := ⟨_, rfl⟩
  obtain ⟨X, hX⟩ : ∃ X, (if mergeE l1 l2 l3 [] = 0 then mergedW l1 l2 l3 [] else []) = X := ⟨_, rfl⟩
  have hXl : X.length ≤ 32 := by rw [← hX]; exact mergeX_len _ _ _ _
  have HM4 := Lib.hid (fun W (hW : Below w0.heap.size w0 W) => by
    have T := Merge_any (HS1.out W hW) hn1.1 (HS2.out W hW) hn2.1 (HS3.out W hW) hn3.1 (Sq.nil_ (f := Ch.cells) ch_sz) (show 0 ≤ 1000 by omega)
    rw [hX, her] at T
    exact T)
  have HM5 := Lib.hid (fun W (hW : Below w0.heap.size w0 W) => by
    have T := Merge_any (HS1.out W hW) hn1.1 (HS3.out W hW) hn3.1 (HS2.out W hW) hn2.1 (Sq.nil_ (f := Ch.cells) ch_sz) (show 0 ≤ 1000 by omega)
    rw [← (merge_turn l1 l2 l3).2, ← (merge_turn l1 l2 l3).1, hX, her] at T
    exact T)
  have HRT := Lib.hid (fun W (hW : Below w0.heap.size w0 W) => right_any (HS1.out W hW) hn1 (HS2.out W hW) hn2 (HS3.out W hW) hn3)
  have HER : Hid ((rightR l1 && (rightR l2 && rightR l3)) = false → er = 150) := Lib.hid fun h => by rw [← her]; exact merge_wrong h
  have HM6 := Lib.hid (fun (hr : (rightR l1 && (rightR l2 && rightR l3)) = true) W (hW : Below w0.heap.size w0 W) => by
    have T := Merge_any (HS1.out W hW) hn1.1 (HS2.out W hW) hn2.1 (HS2.out W hW) hn2.1 (Sq.nil_ (f := Ch.cells) ch_sz) (show 0 ≤ 1000 by omega)
    simp only [Bool.and_eq_true] at hr
    obtain ⟨r1, r2, r3⟩ := hr
    rw [(merge_both r1 r2).1, (merge_both r1 r2).2, if_pos rfl] at T
    exact T)
  have HM7 := Lib.hid (fun (hr : (rightR l1 && (rightR l2 && rightR l3)) = true) W (hW : Below w0.heap.size w0 W) => by
    have T := Merge_any (HS1.out W hW) hn1.1 (HS1.out W hW) hn1.1 (HS3.out W hW) hn3.1 (Sq.nil_ (f := Ch.cells) ch_sz) (show 0 ≤ 1000 by omega)
    simp only [Bool.and_eq_true] at hr
    obtain ⟨r1, r2, r3⟩ := hr
    rw [(merge_base r1 r3).1, (merge_base r1 r3).2, if_pos rfl] at T
    exact T)
  have HXL := Lib.hid hXl
  obtain ⟨rq, hrq⟩ : ∃ rq, (rightR l1 && (rightR l2 && rightR l3)) = rq := ⟨_, rfl⟩
  rw [hrq] at HRT HER HM6 HM7
  clear her hX hrq hXl
  have HN1 := Lib.hid hn1.1
  have HN2 := Lib.hid hn2.1
  have HN3 := Lib.hid hn3.1
  clear hn1 hn2 hn3
  obtain ⟨q0, q1, q2⟩ := HQ.out _ G3.out
  go_wp2_with fail
  refine (HM4.out _ G3.out).mono ?_
  rintro e u4 ⟨⟨C4, m4, d4, rfl, hs4⟩, hb4⟩
  have R4 := Lib.hid hs4
  have F4 := Lib.hid (G3.out.trans (hb4.mono G3.out.size))
  clear hs4 hb4 HM4 q0 q1 q2
  go_upto_region 6 with fail
  obtain ⟨w4, hw4⟩ : ∃ w4, u4.alloc (.cells #[.slice C4 m4 d4] 24) = w4 := ⟨_, rfl⟩
  rw [hw4]
  have D4 : Hid (Below u4.heap.size u4 w4) := Lib.hid (by rw [← hw4]; exact (Below.refl _ _).alloc (Nat.le_refl _) _)
  have Y4 : Hid (Lies w4 u4.heap.size 1 [.slice C4 m4 d4]) := Lib.hid (by rw [← hw4]; exact Lies.new u4 [.slice C4 m4 d4] 24)
  obtain ⟨M4, hM4⟩ : ∃ M, u4.heap.size = M := ⟨_, rfl⟩
  have S4 := Lib.hid ((R4.out.below D4.out).more D4.out.size)
  have G4 := Lib.hid (F4.out.trans (D4.out.mono F4.out.size))
  rw [hM4] at Y4 ⊢
  clear hw4 hM4 D4 R4 F4
  obtain ⟨q0, q1, q2⟩ := HQ.out _ G4.out
  go_wp2_with fail
  refine (HM5.out _ G4.out).mono ?_
  rintro e u5 ⟨⟨C5, m5, d5, rfl, hs5⟩, hb5⟩
  have R5 := Lib.hid hs5
  have F5 := Lib.hid (G4.out.trans (hb5.mono G4.out.size))
  have YY4 := Lib.hid (Y4.out.below hb5 Y4.out.lt)
  have SS4 := Lib.hid ((S4.out.below hb5).more hb5.size)
  clear Y4 S4
  clear hs5 hb5 HM5 q0 q1 q2
  go_upto_region 7 with fail
  obtain ⟨w5, hw5⟩ : ∃ w5, u5.alloc (.cells #[.slice C5 m5 d5] 24) = w5 := ⟨_, rfl⟩
  rw [hw5]
  have D5 : Hid (Below u5.heap.size u5 w5) := Lib.hid (by rw [← hw5]; exact (Below.refl _ _).alloc (Nat.le_refl _) _)
  have Y5 : Hid (Lies w5 u5.heap.size 1 [.slice C5 m5 d5]) := Lib.hid (by rw [← hw5]; exact Lies.new u5 [.slice C5 m5 d5] 24)
  obtain ⟨M5, hM5⟩ : ∃ M, u5.heap.size = M := ⟨_, rfl⟩
  have S5 := Lib.hid ((R5.out.below D5.out).more D5.out.size)
  have G5 := Lib.hid (F5.out.trans (D5.out.mono F5.out.size))
  have Y4 := Lib.hid (YY4.out.below D5.out YY4.out.lt)
  have S4 := Lib.hid ((SS4.out.below D5.out).more D5.out.size)
  rw [hM5] at Y5 ⊢
  clear hw5 hM5 D5 R5 F5 YY4 SS4
  obtain ⟨q0, q1, q2⟩ := HQ.out _ G5.out
  have y4 := Y4.out.cell (j := 0) rfl
  have y5 := Y5.out.cell (j := 0) rfl
  have raw_S := same_any S4.out S5.out (show m4 ≤ 1000000 by have := S4.out.len; have := HXL.out; omega)
  rw [same_eq (rfl : X = X)] at raw_S
  have HSM := Lib.hid raw_S
  clear raw_S S4 S5 Y4 Y5
  have hnn : ((er != er) : Bool) = false := by simp
  go_wp2_with fail
  refine HSM.out.mono ?_
  rintro e w8 ⟨rfl, hb8⟩
  have G8 := Lib.hid (G5.out.trans (hb8.mono G5.out.size))
  clear hb8 y4 y5 q0 q1 q2 HSM hnn
  obtain ⟨q0, q1, q2⟩ := HQ.out _ G8.out
  go_wp2_with fail
  refine (HRT.out _ G8.out).mono ?_
  rintro e w9 ⟨rfl, hb9⟩
  have G9 := Lib.hid (G8.out.trans (hb9.mono G8.out.size))
  clear hb9 q0 q1 q2 HRT
  cases rq
  · have e0 := HER.out rfl
    subst e0
    go_wp2_with fail
    go_ret
    exact ⟨rfl, B0.out.trans (G9.out.mono B0.out.size)⟩
  have HM10 := Lib.hid (HM6.out rfl)
  have HM11 := Lib.hid (HM7.out rfl)
  clear HM6 HM7 HER
  obtain ⟨q0, q1, q2⟩ := HQ.out _ G9.out
  go_wp2_with fail
  refine (HM10.out _ G9.out).mono ?_
  rintro e u10 ⟨⟨C10, m10, d10, rfl, hs10⟩, hb10⟩
  have R10 := Lib.hid hs10
  have F10 := Lib.hid (G9.out.trans (hb10.mono G9.out.size))
  clear hs10 hb10 HM10 q0 q1 q2
  go_upto_region 12 with fail
  obtain ⟨w10, hw10⟩ : ∃ w10, u10.alloc (.cells #[.slice C10 m10 d10] 24) = w10 := ⟨_, rfl⟩
  rw [hw10]
  have D10 : Hid (Below u10.heap.size u10 w10) := Lib.hid (by rw [← hw10]; exact (Below.refl _ _).alloc (Nat.le_refl _) _)
  have Y10 : Hid (Lies w10 u10.heap.size 1 [.slice C10 m10 d10]) := Lib.hid (by rw [← hw10]; exact Lies.new u10 [.slice C10 m10 d10] 24)
  obtain ⟨M10, hM10⟩ : ∃ M, u10.heap.size = M := ⟨_, rfl⟩
  have S10 := Lib.hid ((R10.out.below D10.out).more D10.out.size)
  have G10 := Lib.hid (F10.out.trans (D10.out.mono F10.out.size))
  rw [hM10] at Y10 ⊢
  clear hw10 hM10 D10 R10 F10
  obtain ⟨q0, q1, q2⟩ := HQ.out _ G10.out
  go_wp2_with fail
  refine (HM11.out _ G10.out).mono ?_
  rintro e u11 ⟨⟨C11, m11, d11, rfl, hs11⟩, hb11⟩
  have R11 := Lib.hid hs11
  have F11 := Lib.hid (G10.out.trans (hb11.mono G10.out.size))
  have YY10 := Lib.hid (Y10.out.below hb11 Y10.out.lt)
  have SS10 := Lib.hid ((S10.out.below hb11).more hb11.size)
  clear Y10 S10
  clear hs11 hb11 HM11 q0 q1 q2
  go_upto_region 13 with fail
  obtain ⟨w11, hw11⟩ : ∃ w11, u11.alloc (.cells #[.slice C11 m11 d11] 24) = w11 := ⟨_, rfl⟩
  rw [hw11]
  have D11 : Hid (Below u11.heap.size u11 w11) := Lib.hid (by rw [← hw11]; exact (Below.refl _ _).alloc (Nat.le_refl _) _)
  have Y11 : Hid (Lies w11 u11.heap.size 1 [.slice C11 m11 d11]) := Lib.hid (by rw [← hw11]; exact Lies.new u11 [.slice C11 m11 d11] 24)
  obtain ⟨M11, hM11⟩ : ∃ M, u11.heap.size = M := ⟨_, rfl⟩
  have S11 := Lib.hid ((R11.out.below D11.out).more D11.out.size)
  have G11 := Lib.hid (F11.out.trans (D11.out.mono F11.out.size))
  have Y10 := Lib.hid (YY10.out.below D11.out YY10.out.lt)
  have S10 := Lib.hid ((SS10.out.below D11.out).more D11.out.size)
  rw [hM11] at Y11 ⊢
  clear hw11 hM11 D11 R11 F11 YY10 SS10
  obtain ⟨q0, q1, q2⟩ := HQ.out _ G11.out
  have y4 := Y10.out.cell (j := 0) rfl
  have y5 := Y11.out.cell (j := 0) rfl
  have raw_S := same_any S10.out (HS2.out _ G11.out) (show m10 ≤ 1000000 by have a := S10.out.len; have b := (HS2.out _ G11.out).len; have := HN2.out; omega)
  rw [same_eq (rfl : l2 = l2)] at raw_S
  have HSM := Lib.hid raw_S
  clear raw_S S10
  go_wp2_with fail
  refine HSM.out.mono ?_
  rintro e w12 ⟨rfl, hb8⟩
  have G12 := Lib.hid (G11.out.trans (hb8.mono G11.out.size))
  have S12 := Lib.hid ((S11.out.below hb8).more hb8.size)
  have Y12 := Lib.hid (Y11.out.below hb8 Y11.out.lt)
  clear hb8 y4 y5 q0 q1 q2 HSM S11 Y11
  obtain ⟨q0, q1, q2⟩ := HQ.out _ G12.out
  have y5 := Y12.out.cell (j := 0) rfl
  have raw_S := same_any S12.out (HS3.out _ G12.out) (show m11 ≤ 1000000 by have a := S12.out.len; have b := (HS3.out _ G12.out).len; have := HN3.out; omega)
  rw [same_eq (rfl : l3 = l3)] at raw_S
  have HSM := Lib.hid raw_S
  clear raw_S S12 Y12
  go_wp2_with fail
  refine HSM.out.mono ?_
  rintro e w13 ⟨rfl, hb8⟩
  have G13 := Lib.hid (G12.out.trans (hb8.mono G12.out.size))
  clear hb8 y5 q0 q1 q2 HSM
  go_wp2_with fail
  go_ret
  exact ⟨by simp, B0.out.trans (G13.out.mono B0.out.size)⟩

theorem own : ownKnob Try.prog.godebug = none := by kernel_rfl
theorem laidOut : laidOutB Try.prog = true := by kernel_rfl

set_option maxRecDepth 100000 in
theorem lifted (os : Os) (started : os.Started) (H : Type) (enc : TypeId × Value → H) :
    ReturnsInHanded {} Try.checked os 6 .any (Rows.mergeTurnsSpec.pre6 enc Try.prog Try.f6 Rows.mergeTurnsRow.domain false) (Rows.mergeTurnsSpec.post enc Try.prog Try.f6 false true false false) := by
  refine returnsInHanded_of_change (C := Try.checked) own started (by kernel_rfl) Try.func6
    (ChangeSpec.witness6 (enc := enc) (C := Try.checked) false ⟨#[], #[.agg #[.slice none 0 0, .slice none 0 0, .slice none 0 0]], []⟩ 8 (by kernel_rfl) (by kernel_rfl) (by kernel_rfl) (by kernel_rfl)) ?_
  intro W base args ds gs before hval0 hW hcnd _
  have hval : ∀ (j : Nat) t v, Try.f6.params[j]? = some t → args[j]? = some v → Value.okWide Try.prog W .any base t v := hval0
  have hW' := hW
  obtain ⟨p, q, hA0, hV, rfl, hfz, hnd⟩ := hW
  have hA : DataW.TrodAll enc Try.prog W 0 (fun _ => true) true Try.f6.params.toList args.toList ds p := hA0
  rw [Try.params6] at hA hval
  obtain ⟨v0, vs0, d0, ds0, p0, q0, hargs, rfl, rfl, h0, r0⟩ := trodAll_cons hA
  obtain ⟨rfl, rfl, rfl⟩ := trodAll_nil r0
  obtain rfl : args = #[v0] := by cases args; simp_all
  obtain ⟨rfl, rfl⟩ := trodVars_none hV
  have k0 := h0
  have lt0 : ∀ x ∈ p0, x.block < W.heap.size := by obtain ⟨m, hm⟩ := k0; exact DataW.trod_lt m _ _ _ hm
  obtain ⟨A1, n1, c1, l1, A2, n2, c2, l2, A3, n3, c3, l3, rfl, s1, s2, s3⟩ := three_arg (hval 0 26 v0 rfl rfl) h0
  clear hA0 hval0
  refine (walk A1 n1 c1 l1 A2 n2 c2 l2 A3 n3 c3 l3 W s1 s2 s3).mono fun e W' ⟨he, bel⟩ => ?_
  subst he
  exact ⟨_, rfl, _, _, _, [], _, [], hW', trodAll_mk1 (shut_bool Try.underlying4 _), (trodAll_cons_mk (Below.trod laidOut (by kernel_rfl) (of_decide_eq_true (by kernel_rfl)) k0 bel lt0) trodAll_mk0), rfl, bel.frame _, fun h => by cases h⟩

theorem over : Rows.mergeTurnsRow.holds Try.pinned (OpenSpec.ofChange Rows.mergeTurnsSpec) :=
  OpenClaim.holds_of_wide 6 Try.f6 rfl rfl rfl rfl rfl rfl rfl ⟨rfl, rfl, rfl, rfl, rfl⟩ rfl rfl rfl rfl rfl (by kernel_rfl) Try.func6 (by kernel_rfl)
    (of_decide_eq_true (by kernel_rfl)) (by unfold Func.isWrapper; first | (rw [if_pos (by decide +kernel)]; kernel_rfl) | (rw [if_neg (by decide +kernel)]; exact ⟨rfl, rfl⟩))
    (fun os started H enc _ => lifted os started H enc)

theorem proved : Rows.MergeTurnsSaid := over
#print axioms proved
end Go.Proofs.Ytgpakahmccafdaa.mergeTurns
