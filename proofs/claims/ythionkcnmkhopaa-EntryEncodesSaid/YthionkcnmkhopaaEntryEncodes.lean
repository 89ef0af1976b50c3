/-
  PROVED HERE: whatever command c, confluencelaw11.EntryEncodes(c) returns true: entry.Encode lays its bytes as the document says, or refuses it. No condition.
-/
import Derived.Test.YthionkcnmkhopaaEo
import Derived.Test.YthionkcnmkhopaaRows
import Derived.ProofKit
import Derived.OpenShut
import Derived.ChangeOld
import Derived.Carry
namespace Go.Proofs.Ythionkcnmkhopaa.entryEncodes
open Go.ChangeShapes Go.WideShapes Go.ChangeAt Go.RowKit
set_option linter.unusedVariables false
open Go.Deep
attribute [local irreducible] wpQuiet
theorem Rt_any {w : World} {x : Cv} {D : Sl} (h : Cmd w w.heap.size x D) (hn : D.n ≤ 1000000) : Calls Try.prog 10 #[cfV (x.at_ D)] w fun e w' => e = .returned (.bool (okC x)) ∧ Below w.heap.size w w' := by
  have e := Right_any w (x.at_ D) D.a D.n D.c rfl (by omega)
  rw [right_ok, okC_at x D h.d.len.symm] at e
  exact e
theorem By_any {w : World} {x : Cv} {D : Sl} (h : Cmd w w.heap.size x D) (hok : okC x = true) : Calls Try.prog 13 #[cfV (x.at_ D)] w fun e w' => (∃ A' m c', e = .returned (.slice A' m c') ∧ OwnB w' w.heap.size A' m c' (bytesC x)) ∧ Below w.heap.size w w' := by
  obtain ⟨h1, h2, h3, h4⟩ := ok_small hok
  exact Bytes_any w (x.at_ D) D.a D.n D.c x.data rfl h.d h1 h2 h.sb h3 (by rw [← h.d.len]; exact h4)

set_option maxRecDepth 100000 in
set_option maxHeartbeats 8000000 in
theorem walk {w : World} {x : Cv} {D : Sl} (h : Cmd w w.heap.size x D) :
    Calls Try.prog 3 #[cfV (x.at_ D)] w fun e w' => e = .returned (.bool true) ∧ Below w.heap.size w w' := by
  obtain ⟨cf, hcf⟩ : ∃ c, x.at_ D = c := ⟨_, rfl⟩
  obtain ⟨w1, hw1, K1⟩ := Kc.new w cf
  have HDV : Hid (cf.dv = .slice D.a D.n D.c) := Lib.hid (by rw [← hcf]; rfl)
  have HBR : Hid (cf.branch = x.branch) := Lib.hid (by rw [← hcf]; rfl)
  have HC : Hid (∀ W, Kc w cf W → Cmd W W.heap.size x D) := Lib.hid fun W hW => (h.below hW.b).more hW.b.size
  have HCF := Lib.hid hcf
  rw [hcf]
  have HW := Lib.hid hw1
  clear hcf h hw1
  by_cases h1 : (5000 : Int) < (x.branch.size : Int)
  · have d1 : decide ((5000 : Int) < (x.branch.size : Int)) = true := by simpa using h1
    go_enter Try.func3, Try.ntmps3
    go_upto_region 1 with fail
    rw [HW.out]
    go_wp2_with (first | ((with_reducible refine ldc (.tmp 1) ?_ ?_ w.heap.size 0 cf ?_ R6.out ?_); rfl; (first | rfl | (go_simp <;> fail)); rfl) | ((with_reducible refine ldc (.tmp 1) ?_ ?_ w.heap.size 0 cf ?_ R5.out ?_); rfl; (first | rfl | (go_simp <;> fail)); rfl) | ((with_reducible refine ldc (.tmp 1) ?_ ?_ w.heap.size 0 cf ?_ R4.out ?_); rfl; (first | rfl | (go_simp <;> fail)); rfl) | ((with_reducible refine ldc (.tmp 1) ?_ ?_ w.heap.size 0 cf ?_ R3.out ?_); rfl; (first | rfl | (go_simp <;> fail)); rfl) | ((with_reducible refine ldc (.tmp 1) ?_ ?_ w.heap.size 0 cf ?_ R2.out ?_); rfl; (first | rfl | (go_simp <;> fail)); rfl) | (go_at_call 7; refine (wakes_any _).mono ?_; rintro e w2 ⟨rfl, hb2⟩; have K2 := Lib.hid (K1.out.step hb2); have R2 := Lib.hid K2.out.l.rg; obtain ⟨_, _, _, c3, _, _, c6⟩ := cf_lies K2.out.l; rw [HDV.out] at c6; rw [HBR.out] at c3; clear hb2) | (go_at_call 8; clear c3 c6; refine (CS.out _ K2.out).mono ?_; rintro e w3 ⟨rfl, hb3⟩; have K3 := Lib.hid (K2.out.step hb3); have R3 := Lib.hid K3.out.l.rg; clear hb3) | (go_at_call 9; refine (CE.out _ K3.out).mono ?_; rintro e w4 ⟨⟨A4, m4, c4, rfl, ho4⟩, hb4⟩; have K4 := Lib.hid (K3.out.step hb4); have R4 := Lib.hid K4.out.l.rg; have S4 := Lib.hid ho4.sl; have L4 := Lib.hid ho4.sl.len; clear ho4 hb4) | (go_at_call 10; refine (CR.out _ K4.out).mono ?_; rintro e w5 ⟨rfl, hb5⟩; have K5 := Lib.hid (K4.out.step hb5); have R5 := Lib.hid K5.out.l.rg; have S5 := Lib.hid ((S4.out.below hb5).more hb5.size); clear hb5) | (go_at_call 11; refine (CC.out _ K5.out).mono ?_; rintro e w6 ⟨rfl, hb6⟩; have K6 := Lib.hid (K5.out.step hb6); have R6 := Lib.hid K6.out.l.rg; have S6 := Lib.hid ((S5.out.below hb6).more hb6.size); clear hb6) | (go_at_call 13; refine (CB.out _ K6.out).mono ?_; rintro e w7 ⟨⟨A7, m7, c7, rfl, ho7⟩, hb7⟩; have K7 := Lib.hid (K6.out.step hb7); have S7 := Lib.hid ((S6.out.below hb7).more hb7.size); have T7 := Lib.hid ho7.sl; clear ho7 hb7) | (go_at_call 12; refine (same_is S7.out T7.out true (by simp)).mono ?_; rintro e w8 ⟨rfl, k8, rfl⟩; have K8 := Lib.hid (K7.out.step (below_drewN (Below.refl _ _) k8))) | fail)
    go_ret
    exact ⟨rfl, K2.out.b⟩
  have d1 : decide ((5000 : Int) < (x.branch.size : Int)) = false := by simpa using h1
  by_cases h2 : (5000 : Int) < (D.n : Int)
  · have d2 : decide ((5000 : Int) < (D.n : Int)) = true := by simpa using h2
    go_enter Try.func3, Try.ntmps3
    go_upto_region 1 with fail
    rw [HW.out]
    go_wp2_with (first | ((with_reducible refine ldc (.tmp 1) ?_ ?_ w.heap.size 0 cf ?_ R6.out ?_); rfl; (first | rfl | (go_simp <;> fail)); rfl) | ((with_reducible refine ldc (.tmp 1) ?_ ?_ w.heap.size 0 cf ?_ R5.out ?_); rfl; (first | rfl | (go_simp <;> fail)); rfl) | ((with_reducible refine ldc (.tmp 1) ?_ ?_ w.heap.size 0 cf ?_ R4.out ?_); rfl; (first | rfl | (go_simp <;> fail)); rfl) | ((with_reducible refine ldc (.tmp 1) ?_ ?_ w.heap.size 0 cf ?_ R3.out ?_); rfl; (first | rfl | (go_simp <;> fail)); rfl) | ((with_reducible refine ldc (.tmp 1) ?_ ?_ w.heap.size 0 cf ?_ R2.out ?_); rfl; (first | rfl | (go_simp <;> fail)); rfl) | (go_at_call 7; refine (wakes_any _).mono ?_; rintro e w2 ⟨rfl, hb2⟩; have K2 := Lib.hid (K1.out.step hb2); have R2 := Lib.hid K2.out.l.rg; obtain ⟨_, _, _, c3, _, _, c6⟩ := cf_lies K2.out.l; rw [HDV.out] at c6; rw [HBR.out] at c3; clear hb2) | (go_at_call 8; clear c3 c6; refine (CS.out _ K2.out).mono ?_; rintro e w3 ⟨rfl, hb3⟩; have K3 := Lib.hid (K2.out.step hb3); have R3 := Lib.hid K3.out.l.rg; clear hb3) | (go_at_call 9; refine (CE.out _ K3.out).mono ?_; rintro e w4 ⟨⟨A4, m4, c4, rfl, ho4⟩, hb4⟩; have K4 := Lib.hid (K3.out.step hb4); have R4 := Lib.hid K4.out.l.rg; have S4 := Lib.hid ho4.sl; have L4 := Lib.hid ho4.sl.len; clear ho4 hb4) | (go_at_call 10; refine (CR.out _ K4.out).mono ?_; rintro e w5 ⟨rfl, hb5⟩; have K5 := Lib.hid (K4.out.step hb5); have R5 := Lib.hid K5.out.l.rg; have S5 := Lib.hid ((S4.out.below hb5).more hb5.size); clear hb5) | (go_at_call 11; refine (CC.out _ K5.out).mono ?_; rintro e w6 ⟨rfl, hb6⟩; have K6 := Lib.hid (K5.out.step hb6); have R6 := Lib.hid K6.out.l.rg; have S6 := Lib.hid ((S5.out.below hb6).more hb6.size); clear hb6) | (go_at_call 13; refine (CB.out _ K6.out).mono ?_; rintro e w7 ⟨⟨A7, m7, c7, rfl, ho7⟩, hb7⟩; have K7 := Lib.hid (K6.out.step hb7); have S7 := Lib.hid ((S6.out.below hb7).more hb7.size); have T7 := Lib.hid ho7.sl; clear ho7 hb7) | (go_at_call 12; refine (same_is S7.out T7.out true (by simp)).mono ?_; rintro e w8 ⟨rfl, k8, rfl⟩; have K8 := Lib.hid (K7.out.step (below_drewN (Below.refl _ _) k8))) | fail)
    go_ret
    exact ⟨rfl, K2.out.b⟩
  have d2 : decide ((5000 : Int) < (D.n : Int)) = false := by simpa using h2
  have hn : D.n ≤ 1000000 := by omega
  have CS : Hid (∀ W, Kc w cf W → Calls Try.prog 8 #[cfV cf, cfV cf] W fun e w' => e = .returned (.bool true) ∧ Below W.heap.size W w') := Lib.hid fun W hW => by
    have := Sm_any (HC.out W hW) (HC.out W hW)
    rwa [sameC_self, HCF.out] at this
  by_cases hok : okC x = true
  · have CE : Hid (∀ W, Kc w cf W → Calls Try.prog 9 #[cfV cf] W fun e w' => (∃ A' m c', e = .returned (.tuple #[.slice A' m c', .int .i64 0]) ∧ OwnB w' W.heap.size A' m c' (bytesC x)) ∧ Below W.heap.size W w') := Lib.hid fun W hW => by
      have := Enc_any (HC.out W hW) hn
      rwa [if_pos hok, if_pos hok, HCF.out] at this
    have CR : Hid (∀ W, Kc w cf W → Calls Try.prog 10 #[cfV cf] W fun e w' => e = .returned (.bool true) ∧ Below W.heap.size W w') := Lib.hid fun W hW => by
      have := Rt_any (HC.out W hW) hn
      rwa [hok, HCF.out] at this
    have CC : Hid (∀ W, Kc w cf W → Calls Try.prog 11 #[cfV cf] W fun e w' => e = .returned (.int .i64 0) ∧ Below W.heap.size W w') := Lib.hid fun W hW => by
      have := Chk_any (HC.out W hW) hn
      rwa [if_pos hok, HCF.out] at this
    have CB : Hid (∀ W, Kc w cf W → Calls Try.prog 13 #[cfV cf] W fun e w' => (∃ A' m c', e = .returned (.slice A' m c') ∧ OwnB w' W.heap.size A' m c' (bytesC x)) ∧ Below W.heap.size W w') := Lib.hid fun W hW => by
      have := By_any (HC.out W hW) hok
      rwa [HCF.out] at this
    go_enter Try.func3, Try.ntmps3
    go_upto_region 1 with fail
    rw [HW.out]
    go_wp2_with (first | ((with_reducible refine ldc (.tmp 1) ?_ ?_ w.heap.size 0 cf ?_ R6.out ?_); rfl; (first | rfl | (go_simp <;> fail)); rfl) | ((with_reducible refine ldc (.tmp 1) ?_ ?_ w.heap.size 0 cf ?_ R5.out ?_); rfl; (first | rfl | (go_simp <;> fail)); rfl) | ((with_reducible refine ldc (.tmp 1) ?_ ?_ w.heap.size 0 cf ?_ R4.out ?_); rfl; (first | rfl | (go_simp <;> fail)); rfl) | ((with_reducible refine ldc (.tmp 1) ?_ ?_ w.heap.size 0 cf ?_ R3.out ?_); rfl; (first | rfl | (go_simp <;> fail)); rfl) | ((with_reducible refine ldc (.tmp 1) ?_ ?_ w.heap.size 0 cf ?_ R2.out ?_); rfl; (first | rfl | (go_simp <;> fail)); rfl) | (go_at_call 7; refine (wakes_any _).mono ?_; rintro e w2 ⟨rfl, hb2⟩; have K2 := Lib.hid (K1.out.step hb2); have R2 := Lib.hid K2.out.l.rg; obtain ⟨_, _, _, c3, _, _, c6⟩ := cf_lies K2.out.l; rw [HDV.out] at c6; rw [HBR.out] at c3; clear hb2) | (go_at_call 8; clear c3 c6; refine (CS.out _ K2.out).mono ?_; rintro e w3 ⟨rfl, hb3⟩; have K3 := Lib.hid (K2.out.step hb3); have R3 := Lib.hid K3.out.l.rg; clear hb3) | (go_at_call 9; refine (CE.out _ K3.out).mono ?_; rintro e w4 ⟨⟨A4, m4, c4, rfl, ho4⟩, hb4⟩; have K4 := Lib.hid (K3.out.step hb4); have R4 := Lib.hid K4.out.l.rg; have S4 := Lib.hid ho4.sl; have L4 := Lib.hid ho4.sl.len; clear ho4 hb4) | (go_at_call 10; refine (CR.out _ K4.out).mono ?_; rintro e w5 ⟨rfl, hb5⟩; have K5 := Lib.hid (K4.out.step hb5); have R5 := Lib.hid K5.out.l.rg; have S5 := Lib.hid ((S4.out.below hb5).more hb5.size); clear hb5) | (go_at_call 11; refine (CC.out _ K5.out).mono ?_; rintro e w6 ⟨rfl, hb6⟩; have K6 := Lib.hid (K5.out.step hb6); have R6 := Lib.hid K6.out.l.rg; have S6 := Lib.hid ((S5.out.below hb6).more hb6.size); clear hb6) | (go_at_call 13; refine (CB.out _ K6.out).mono ?_; rintro e w7 ⟨⟨A7, m7, c7, rfl, ho7⟩, hb7⟩; have K7 := Lib.hid (K6.out.step hb7); have S7 := Lib.hid ((S6.out.below hb7).more hb7.size); have T7 := Lib.hid ho7.sl; clear ho7 hb7) | (go_at_call 12; refine (same_is S7.out T7.out true (by simp)).mono ?_; rintro e w8 ⟨rfl, k8, rfl⟩; have K8 := Lib.hid (K7.out.step (below_drewN (Below.refl _ _) k8))) | fail)
    go_ret
    exact ⟨rfl, K8.out.b⟩
  · have CE : Hid (∀ W, Kc w cf W → Calls Try.prog 9 #[cfV cf] W fun e w' => (∃ A' m c', e = .returned (.tuple #[.slice A' m c', .int .i64 210]) ∧ OwnB w' W.heap.size A' m c' []) ∧ Below W.heap.size W w') := Lib.hid fun W hW => by
      have := Enc_any (HC.out W hW) hn
      rwa [if_neg hok, if_neg hok, HCF.out] at this
    have CR : Hid (∀ W, Kc w cf W → Calls Try.prog 10 #[cfV cf] W fun e w' => e = .returned (.bool false) ∧ Below W.heap.size W w') := Lib.hid fun W hW => by
      have := Rt_any (HC.out W hW) hn
      rwa [show okC x = false from by simpa using hok, HCF.out] at this
    have CC : Hid (∀ W, Kc w cf W → Calls Try.prog 11 #[cfV cf] W fun e w' => e = .returned (.int .i64 210) ∧ Below W.heap.size W w') := Lib.hid fun W hW => by
      have := Chk_any (HC.out W hW) hn
      rwa [if_neg hok, HCF.out] at this
    go_enter Try.func3, Try.ntmps3
    go_upto_region 1 with fail
    rw [HW.out]
    go_wp2_with (first | ((with_reducible refine ldc (.tmp 1) ?_ ?_ w.heap.size 0 cf ?_ R6.out ?_); rfl; (first | rfl | (go_simp <;> fail)); rfl) | ((with_reducible refine ldc (.tmp 1) ?_ ?_ w.heap.size 0 cf ?_ R5.out ?_); rfl; (first | rfl | (go_simp <;> fail)); rfl) | ((with_reducible refine ldc (.tmp 1) ?_ ?_ w.heap.size 0 cf ?_ R4.out ?_); rfl; (first | rfl | (go_simp <;> fail)); rfl) | ((with_reducible refine ldc (.tmp 1) ?_ ?_ w.heap.size 0 cf ?_ R3.out ?_); rfl; (first | rfl | (go_simp <;> fail)); rfl) | ((with_reducible refine ldc (.tmp 1) ?_ ?_ w.heap.size 0 cf ?_ R2.out ?_); rfl; (first | rfl | (go_simp <;> fail)); rfl) | (go_at_call 7; refine (wakes_any _).mono ?_; rintro e w2 ⟨rfl, hb2⟩; have K2 := Lib.hid (K1.out.step hb2); have R2 := Lib.hid K2.out.l.rg; obtain ⟨_, _, _, c3, _, _, c6⟩ := cf_lies K2.out.l; rw [HDV.out] at c6; rw [HBR.out] at c3; clear hb2) | (go_at_call 8; clear c3 c6; refine (CS.out _ K2.out).mono ?_; rintro e w3 ⟨rfl, hb3⟩; have K3 := Lib.hid (K2.out.step hb3); have R3 := Lib.hid K3.out.l.rg; clear hb3) | (go_at_call 9; refine (CE.out _ K3.out).mono ?_; rintro e w4 ⟨⟨A4, m4, c4, rfl, ho4⟩, hb4⟩; have K4 := Lib.hid (K3.out.step hb4); have R4 := Lib.hid K4.out.l.rg; have S4 := Lib.hid ho4.sl; obtain rfl : m4 = 0 := (by have := ho4.sl.len; simpa using this.symm); clear ho4 hb4) | (go_at_call 10; refine (CR.out _ K4.out).mono ?_; rintro e w5 ⟨rfl, hb5⟩; have K5 := Lib.hid (K4.out.step hb5); have R5 := Lib.hid K5.out.l.rg; have S5 := Lib.hid ((S4.out.below hb5).more hb5.size); clear hb5) | (go_at_call 11; refine (CC.out _ K5.out).mono ?_; rintro e w6 ⟨rfl, hb6⟩; have K6 := Lib.hid (K5.out.step hb6); have R6 := Lib.hid K6.out.l.rg; have S6 := Lib.hid ((S5.out.below hb6).more hb6.size); clear hb6) | (go_at_call 13; refine (CB.out _ K6.out).mono ?_; rintro e w7 ⟨⟨A7, m7, c7, rfl, ho7⟩, hb7⟩; have K7 := Lib.hid (K6.out.step hb7); have S7 := Lib.hid ((S6.out.below hb7).more hb7.size); have T7 := Lib.hid ho7.sl; clear ho7 hb7) | (go_at_call 12; refine (same_is S7.out T7.out true (by simp)).mono ?_; rintro e w8 ⟨rfl, k8, rfl⟩; have K8 := Lib.hid (K7.out.step (below_drewN (Below.refl _ _) k8))) | fail)
    go_ret
    exact ⟨rfl, K6.out.b⟩

theorem own : ownKnob Try.prog.godebug = none := by kernel_rfl
theorem laidOut : laidOutB Try.prog = true := by kernel_rfl

set_option maxRecDepth 100000 in
theorem lifted (os : Os) (started : os.Started) (H : Type) (enc : TypeId × Value → H) :
    ReturnsInHanded {} Try.checked os 3 .any (Rows.entryEncodesSpec.pre6 enc Try.prog Try.f3 Rows.entryEncodesRow.domain false) (Rows.entryEncodesSpec.post enc Try.prog Try.f3 false true false false) := by
  refine returnsInHanded_of_change (C := Try.checked) own started (by kernel_rfl) Try.func3
    (ChangeSpec.witness6 (enc := enc) (C := Try.checked) false ⟨#[], #[.agg (#[.int .i64 0, .int .i64 0, .int .u32 0, .string ByteArray.empty] ++ Array.replicate 64 (.int .u8 0) ++ #[.slice none 0 0])], []⟩ 8 (by kernel_rfl) (by kernel_rfl) (by kernel_rfl) (by kernel_rfl)) ?_
  intro W base args ds gs before hval0 hW hcnd _
  have hval : ∀ (j : Nat) t v, Try.f3.params[j]? = some t → args[j]? = some v → Value.okWide Try.prog W .any base t v := hval0
  have hW' := hW
  obtain ⟨p, q, hA0, hV, rfl, hfz, hnd⟩ := hW
  have hA : DataW.TrodAll enc Try.prog W 0 (fun _ => true) true Try.f3.params.toList args.toList ds p := hA0
  rw [Try.params3] at hA hval
  obtain ⟨v0, vs0, d0, ds0, p0, q0, hargs, rfl, rfl, h0, r0⟩ := trodAll_cons hA
  obtain ⟨rfl, rfl, rfl⟩ := trodAll_nil r0
  obtain rfl : args = #[v0] := by cases args; simp_all
  obtain ⟨rfl, rfl⟩ := trodVars_none hV
  have k0 := h0
  have lt0 : ∀ x ∈ p0, x.block < W.heap.size := by obtain ⟨m, hm⟩ := k0; exact DataW.trod_lt m _ _ _ hm
  obtain ⟨x0, D0, rfl, s0⟩ := cmd_arg (hval 0 27 v0 rfl rfl) h0
  clear hA0 hval0
  refine (walk s0).mono fun e W' ⟨he, bel⟩ => ?_
  subst he
  exact ⟨_, rfl, _, _, _, [], _, [], hW', trodAll_mk1 (shut_bool Try.underlying4 _), (trodAll_cons_mk (Below.trod laidOut (by kernel_rfl) (of_decide_eq_true (by kernel_rfl)) k0 bel lt0) trodAll_mk0), rfl, bel.frame _, fun h => by cases h⟩

theorem over : Rows.entryEncodesRow.holds Try.pinned (OpenSpec.ofChange Rows.entryEncodesSpec) :=
  OpenClaim.holds_of_wide 3 Try.f3 rfl rfl rfl rfl rfl rfl rfl ⟨rfl, rfl, rfl, rfl, rfl⟩ rfl rfl rfl rfl rfl (by kernel_rfl) Try.func3 (by kernel_rfl)
    (of_decide_eq_true (by kernel_rfl)) (by unfold Func.isWrapper; first | (rw [if_pos (by decide +kernel)]; kernel_rfl) | (rw [if_neg (by decide +kernel)]; exact ⟨rfl, rfl⟩))
    (fun os started H enc _ => lifted os started H enc)

theorem proved : Rows.EntryEncodesSaid := over
#print axioms proved
end Go.Proofs.Ythionkcnmkhopaa.entryEncodes
