/-
  PROVED HERE: which maps and edits may be, and are the same: at every two maps and every edit.
-/
import Derived.Test.YteefohkdnmmnaaaWk
import Derived.Test.YteefohkdnmmnaaaLb
import Derived.Test.YteefohkdnmmnaaaYc
import Derived.Test.YteefohkdnmmnaaaCp
import Derived.Test.YteefohkdnmmnaaaRw
import Derived.Test.YteefohkdnmmnaaaSr
import Derived.Test.YteefohkdnmmnaaaRows
import Derived.ProofKit
import Derived.OpenShut
import Derived.ChangeOld
import Derived.Carry
namespace Go.Proofs.Yteefohkdnmmnaaa.pathmapChecks
open Go.ChangeShapes Go.WideShapes Go.ChangeAt Go.RowKit
set_option linter.unusedVariables false
set_option linter.unusedSimpArgs false
open Go.Deep
attribute [local irreducible] wpQuiet

theorem sameL_self (l : List Rw) : sameL l l = true := sameL_yes rfl (fun j _ _ => by unfold sameRw; simp)
theorem sameE_self (l : List Ch) : sameE l l = true := sameE_yes rfl (fun j _ _ => by unfold sameCh; simp)
set_option maxRecDepth 100000 in
set_option maxHeartbeats 8000000 in
theorem walk (A : Option Addr) (n c : Nat) (l : List Rw) (A' : Option Addr) (n' c' : Nat) (l' : List Rw) (A2 : Option Addr) (n2 c2 : Nat) (l2 : List Ch) (w : World) (h : SqR w w.heap.size A n c l) (h' : SqR w w.heap.size A' n' c' l') (h2 : SqC w w.heap.size A2 n2 c2 l2) :
    Calls Try.prog 3 #[.agg #[.slice A n c], .agg #[.slice A' n' c'], .agg #[.slice A2 n2 c2]] w fun e w' => e = .returned (.bool true) ∧ Below w.heap.size w w' := by
  obtain ⟨w0, hw0⟩ : ∃ w0, ((w.alloc (.cells #[.slice A n c] 24)).alloc (.cells #[.slice A' n' c'] 24)).alloc (.cells #[.slice A2 n2 c2] 27) = w0 := ⟨_, rfl⟩
  have B0 : Hid (Below w.heap.size w w0) := Lib.hid (by rw [← hw0]; exact (((Below.refl _ _).alloc (Nat.le_refl _) _).alloc (by simp) _).alloc (by simp; omega) _)
  have X0 : Hid (Lies w0 w.heap.size 1 [.slice A n c]) := Lib.hid (by rw [← hw0]; exact ((Lies.new w [.slice A n c] 24).alloc _).alloc _)
  have X1 : Hid (Lies w0 (w.heap.size + 1) 1 [.slice A' n' c']) := Lib.hid (by
    rw [← hw0]
    have := (Lies.new (w.alloc (.cells #[.slice A n c] 24)) [.slice A' n' c'] 24).alloc (.cells #[.slice A2 n2 c2] 27)
    rwa [World.size_alloc] at this)
  have X2 : Hid (Lies w0 (w.heap.size + 1 + 1) 1 [.slice A2 n2 c2]) := Lib.hid (by
    rw [← hw0]
    have := Lies.new ((w.alloc (.cells #[.slice A n c] 24)).alloc (.cells #[.slice A' n' c'] 24)) [.slice A2 n2 c2] 27
    rwa [World.size_alloc, World.size_alloc] at this)
  have HSm : Hid (∀ W, Below w0.heap.size w0 W → SqR W W.heap.size A n c l) := Lib.hid fun W hW => (h.below (B0.out.trans (hW.mono B0.out.size))).more (Nat.le_trans B0.out.size hW.size)
  have HSn : Hid (∀ W, Below w0.heap.size w0 W → SqR W W.heap.size A' n' c' l') := Lib.hid fun W hW => (h'.below (B0.out.trans (hW.mono B0.out.size))).more (Nat.le_trans B0.out.size hW.size)
  have HSe : Hid (∀ W, Below w0.heap.size w0 W → SqC W W.heap.size A2 n2 c2 l2) := Lib.hid fun W hW => (h2.below (B0.out.trans (hW.mono B0.out.size))).more (Nat.le_trans B0.out.size hW.size)
  have HQ : Hid (∀ W, Below w0.heap.size w0 W → W.cell? ⟨w.heap.size, 0, none⟩ = some (.slice A n c) ∧ W.cell? ⟨w.heap.size + 1, 0, none⟩ = some (.slice A' n' c') ∧ W.cell? ⟨w.heap.size + 1 + 1, 0, none⟩ = some (.slice A2 n2 c2)) := Lib.hid fun W hW =>
    ⟨(X0.out.below hW X0.out.lt).cell (j := 0) rfl, (X1.out.below hW X1.out.lt).cell (j := 0) rfl, (X2.out.below hW X2.out.lt).cell (j := 0) rfl⟩
  have HW := Lib.hid hw0
  have hl := h.len
  have hl' := h'.len
  have hl2 := h2.len
  clear hw0 h h' h2
  go_enter Try.func3, Try.ntmps3
  go_upto_region 1 with fail
  rw [HW.out]
  clear HW
  go_wp2_with fail
  refine (wakes_any w0).mono ?_
  rintro e w1 ⟨rfl, hb1⟩
  have G1 := Lib.hid hb1
  clear hb1
  obtain ⟨q0, q1, q2⟩ := HQ.out _ G1.out
  go_wp2_with fail
  refine (larges_any (HSm.out _ G1.out) (HSe.out _ G1.out)).mono ?_
  rintro e w2 ⟨(rfl | ⟨rfl, hn, hn2, hpm, hpe⟩), hb2⟩
  · have G2 := Lib.hid (G1.out.trans (hb2.mono G1.out.size))
    clear hb2 q0 q1 q2
    go_wp2_with fail
    go_ret
    exact ⟨rfl, B0.out.trans (G2.out.mono B0.out.size)⟩
  have G2 := Lib.hid (G1.out.trans (hb2.mono G1.out.size))
  have HPM := Lib.hid (fun r hr => Nat.le_trans (hpm r hr) (show 500 ≤ 1000000 by omega))
  have HPE := Lib.hid (fun r hr => Nat.le_trans (hpe r hr) (show 500 ≤ 1000000 by omega))
  clear hb2 q0 q1 q2 hpm hpe
  obtain ⟨q0, q1, q2⟩ := HQ.out _ G2.out
  go_wp2_with fail
  refine (larges_any (HSn.out _ G2.out) (HSe.out _ G2.out)).mono ?_
  rintro e w3 ⟨(rfl | ⟨rfl, hn', _, _, _⟩), hb3⟩
  · have G3 := Lib.hid (G2.out.trans (hb3.mono G2.out.size))
    clear hb3 q0 q1 q2
    go_wp2_with fail
    go_ret
    exact ⟨rfl, B0.out.trans (G3.out.mono B0.out.size)⟩
  have G3 := Lib.hid (G2.out.trans (hb3.mono G2.out.size))
  clear hb3 q0 q1 q2
  obtain ⟨q0, q1, q2⟩ := HQ.out _ G3.out
  go_wp2_with fail
  obtain ⟨qa, hqa⟩ : ∃ qa, rightR l = qa := ⟨_, rfl⟩
  obtain ⟨qb, hqb⟩ : ∃ qb, rightC l2 = qb := ⟨_, rfl⟩
  have HQA := Lib.hid hqa
  have HQB := Lib.hid hqb
  clear hqa hqb
  obtain ⟨ca, hca⟩ : ∃ ca : Int, (if qa then 0 else 150) = ca := ⟨_, rfl⟩
  obtain ⟨cb, hcb⟩ : ∃ cb : Int, (if qb then 0 else 151) = cb := ⟨_, rfl⟩
  have HCA := Lib.hid hca
  have HCB := Lib.hid hcb
  clear hca hcb
  go_region_held3 (fun w' => w'.cell? ⟨w.heap.size, 0, none⟩ = some (.slice A n c) ∧ w'.cell? ⟨w.heap.size + 1, 0, none⟩ = some (.slice A' n' c') ∧ w'.cell? ⟨w.heap.size + 1 + 1, 0, none⟩ = some (.slice A2 n2 c2) ∧ Below w0.heap.size w0 w')
    (first | exact ⟨q0, q1, q2, G3.out.drew⟩ | with_reducible exact K4.out | with_reducible exact K5.out | with_reducible exact K6.out | with_reducible exact K7.out | fail)
    (first
      | (go_at_call 12; have T := copied_any (HSm.out _ G3.out.drew) (show n ≤ 1000000 by omega); with_reducible refine Calls.mono T ?_; clear T; rintro e w4 ⟨A4, c4, rfl, hown4, hb4⟩; have hb5 := (show Below w0.heap.size w0 w4 from G3.out.drew.trans (hb4.mono G3.out.drew.size)); have K4 := Lib.hid (show w4.cell? ⟨w.heap.size, 0, none⟩ = some (.slice A n c) ∧ w4.cell? ⟨w.heap.size + 1, 0, none⟩ = some (.slice A' n' c') ∧ w4.cell? ⟨w.heap.size + 1 + 1, 0, none⟩ = some (.slice A2 n2 c2) ∧ Below w0.heap.size w0 w4 from ⟨(HQ.out _ hb5).1, (HQ.out _ hb5).2.1, (HQ.out _ hb5).2.2, hb5⟩); have SQ4 := Lib.hid (own_sq hown4 rw_sz (by omega)); clear hb4 hb5 hown4)
      | (go_at_call 11; have T := Check_any SQ4.out (show n ≤ 1000000 by omega); rw [HQA.out, HCA.out] at T; with_reducible refine Calls.mono T ?_; clear T; rintro e w5 ⟨rfl, hb4⟩; have hb5 := (show Below w0.heap.size w0 w5 from K4.out.2.2.2.trans (hb4.mono K4.out.2.2.2.size)); have K5 := Lib.hid (show w5.cell? ⟨w.heap.size, 0, none⟩ = some (.slice A n c) ∧ w5.cell? ⟨w.heap.size + 1, 0, none⟩ = some (.slice A' n' c') ∧ w5.cell? ⟨w.heap.size + 1 + 1, 0, none⟩ = some (.slice A2 n2 c2) ∧ Below w0.heap.size w0 w5 from ⟨(HQ.out _ hb5).1, (HQ.out _ hb5).2.1, (HQ.out _ hb5).2.2, hb5⟩); clear hb4 hb5)
      | (go_at_call 14; have T := copiedE_any (HSe.out _ K5.out.2.2.2) (show n2 ≤ 1000000 by omega); with_reducible refine Calls.mono T ?_; clear T; rintro e w6 ⟨A6, c6, rfl, hown4, hb4⟩; have hb5 := (show Below w0.heap.size w0 w6 from K5.out.2.2.2.trans (hb4.mono K5.out.2.2.2.size)); have K6 := Lib.hid (show w6.cell? ⟨w.heap.size, 0, none⟩ = some (.slice A n c) ∧ w6.cell? ⟨w.heap.size + 1, 0, none⟩ = some (.slice A' n' c') ∧ w6.cell? ⟨w.heap.size + 1 + 1, 0, none⟩ = some (.slice A2 n2 c2) ∧ Below w0.heap.size w0 w6 from ⟨(HQ.out _ hb5).1, (HQ.out _ hb5).2.1, (HQ.out _ hb5).2.2, hb5⟩); have SQ6 := Lib.hid (own_sq hown4 ch_sz (by omega)); clear hb4 hb5 hown4)
      | (go_at_call 13; have T := CheckEdit_any SQ6.out (show n2 ≤ 1000000 by omega); rw [HQB.out, HCB.out] at T; with_reducible refine Calls.mono T ?_; clear T; rintro e w7 ⟨rfl, hb4⟩; have hb5 := (show Below w0.heap.size w0 w7 from K6.out.2.2.2.trans (hb4.mono K6.out.2.2.2.size)); have K7 := Lib.hid (show w7.cell? ⟨w.heap.size, 0, none⟩ = some (.slice A n c) ∧ w7.cell? ⟨w.heap.size + 1, 0, none⟩ = some (.slice A' n' c') ∧ w7.cell? ⟨w.heap.size + 1 + 1, 0, none⟩ = some (.slice A2 n2 c2) ∧ Below w0.heap.size w0 w7 from ⟨(HQ.out _ hb5).1, (HQ.out _ hb5).2.1, (HQ.out _ hb5).2.2, hb5⟩); clear hb4 hb5)
      | fail)
  clear q0 q1 q2
  have G7 := Lib.hid K7.out.2.2.2
  obtain ⟨q0, q1, q2⟩ := HQ.out _ G7.out
  clear K4 K5 K6 K7 SQ4 SQ6
  have HRA := Lib.hid (fun (W : World) (hW : Below w0.heap.size w0 W) => refRight_any (HSm.out _ hW) (show n ≤ 1000000 by omega) HPM.out)
  have HRB := Lib.hid (fun (W : World) (hW : Below w0.heap.size w0 W) => refRightE_any (HSe.out _ hW) (show n2 ≤ 1000000 by omega) HPE.out)
  rw [HQA.out] at HRA
  rw [HQB.out] at HRB
  cases qa <;> cases qb
  · obtain rfl : ca = 150 := by have := HCA.out; simpa using this.symm
    obtain rfl : cb = 151 := by have := HCB.out; simpa using this.symm
    go_wp2_with fail
    refine (HRA.out _ G7.out).mono ?_
    rintro e w8 ⟨rfl, hb8⟩
    have G8 := Lib.hid (G7.out.trans (hb8.mono G7.out.size))
    clear hb8 q0 q1 q2
    obtain ⟨q0, q1, q2⟩ := HQ.out _ G8.out
    go_wp2_with fail
    refine (HRB.out _ G8.out).mono ?_
    rintro e w9 ⟨rfl, hb9⟩
    have G9 := Lib.hid (G8.out.trans (hb9.mono G8.out.size))
    clear hb9 q0 q1 q2
    obtain ⟨q0, q1, q2⟩ := HQ.out _ G9.out
    go_wp2_with fail
    refine (copiedE_any (HSe.out _ G9.out) (show n2 ≤ 1000000 by omega)).mono ?_
    rintro e w10 ⟨A3, c3, rfl, hown, hb10⟩
    have G10 := Lib.hid (G9.out.trans (hb10.mono G9.out.size))
    have HOW := Lib.hid hown
    clear hb10 hown q0 q1 q2
    obtain ⟨w11, hw11⟩ : ∃ w11, w10.alloc (.cells #[.slice A3 n2 c3] 27) = w11 := ⟨_, rfl⟩
    have F11 : Hid (Lies w11 w10.heap.size 1 [.slice A3 n2 c3]) := Lib.hid (by rw [← hw11]; exact Lies.new w10 [.slice A3 n2 c3] 27)
    have HO11 := Lib.hid (show w11.ownsRow w9.heap.size 38 3 (.slice A3 n2 c3) n2 (l2.flatMap Ch.cells) by rw [← hw11]; exact HOW.out.alloc _)
    have G11 := Lib.hid (show Below w0.heap.size w0 w11 by rw [← hw11]; exact G10.out.alloc G10.out.size _)
    have HW11 := Lib.hid hw11
    clear hw11
    go_upto_region 9 with fail
    rw [HW11.out]
    clear HW11
    have f0 := F11.out.cell (j := 0) rfl
    by_cases h0 : 0 < (n2 : Int)
    · have d0 : decide (0 < (n2 : Int)) = true := by simpa using h0
      obtain ⟨g, rfl, hg9⟩ : ∃ g, A3 = some ⟨g, 0, none⟩ ∧ w9.heap.size ≤ g := by
        rcases HOW.out.2 with ⟨e1, e2⟩ | ⟨g, cap, cur, e1, hb, _⟩
        · omega
        · injection e1 with e1 e2 e3
          exact ⟨g, e1, hb⟩
      have hg10 := (HOW.out.lt g rfl).2
      obtain ⟨⟨p, is, t⟩, rest, hr⟩ : ∃ r rest, l2 = r :: rest := List.exists_cons_of_length_pos (by omega)
      have q4 : w11.cell? ⟨g, 1, none⟩ = some (.bool is) := by
        have := HO11.out.cellAt 1 (by omega)
        rw [this, hr]
        rfl
      have z4 := HO11.out.frozenAt 1
      have HR := Lib.hid hr
      clear hr
      go_wp2_with fail
      refine wp_region_bar 8 8 (fun w' => w'.cell? ⟨w10.heap.size, 0, none⟩ = some (.slice (some ⟨g, 0, none⟩) n2 c3) ∧ w'.cell? ⟨g, 1, none⟩ = some (.bool is)) (by kernel_rfl) (by kernel_rfl) ⟨f0, q4⟩ ?_
      simp only [List.take_succ_cons, List.take_zero, List.drop_succ_cons, List.drop_zero, List.take_nil, List.drop_nil]
      refine ⟨_, .inl ⟨rfl, fun w' hw' => (by have hc1 := hw'.1; have hc2 := hw'.2; clear hw'; go_simp; (try rfl))⟩, ?_⟩
      refine ⟨_, .inl ⟨rfl, fun w' hw' => (by have hc1 := hw'.1; have hc2 := hw'.2; clear hw'; go_simp; (try rfl))⟩, ?_⟩
      refine ⟨_, .inl ⟨rfl, fun w' hw' => (by have hc1 := hw'.1; have hc2 := hw'.2; clear hw'; go_simp; (try rfl))⟩, ?_⟩
      refine ⟨_, .inl ⟨rfl, fun w' hw' => (by have hc1 := hw'.1; have hc2 := hw'.2; clear hw'; go_simp; (try rfl))⟩, ?_⟩
      refine ⟨_, .inl ⟨rfl, fun w' hw' => (by have hc1 := hw'.1; have hc2 := hw'.2; clear hw'; go_simp; (try rfl))⟩, ?_⟩
      refine ⟨_, .inl ⟨rfl, fun w' hw' => (by have hc1 := hw'.1; have hc2 := hw'.2; clear hw'; go_simp; (try rfl))⟩, ?_⟩
      refine ⟨_, .inl ⟨rfl, fun w' hw' => (by have hc1 := hw'.1; have hc2 := hw'.2; clear hw'; go_simp; (try rfl))⟩, ?_⟩
      refine ⟨_, .inl ⟨rfl, fun w' hw' => (by have hc1 := hw'.1; have hc2 := hw'.2; clear hw'; go_simp; (try rfl))⟩, ?_⟩
      rw [wpHead_nil, wpMid_nil]
      simp only [Act.put, List.setIfInBounds_toArray, List.set_cons_succ, List.set_cons_zero]
      go_wp2_with fail
      refine NoPanic.normal ?_
      obtain ⟨wf, hwf⟩ : ∃ wf, wf = (w11.setCell ⟨g, 1, none⟩ (.bool (!is))).drew := ⟨_, rfl⟩
      rw [← hwf]
      obtain ⟨lf, hlf⟩ : ∃ lf : List Ch, lf = ⟨p, !is, t⟩ :: rest := ⟨_, rfl⟩
      have HOF := Lib.hid (show wf.ownsRow w9.heap.size 38 3 (.slice (some ⟨g, 0, none⟩) n2 c3) n2 (lf.flatMap Ch.cells) by
        have := World.ownsRow.drew (HO11.out.stored 1 (.bool (!is))).1
        rw [HR.out] at this
        rw [hwf, hlf]
        exact this)
      have FF := Lib.hid (show Lies wf w10.heap.size 1 [.slice (some ⟨g, 0, none⟩) n2 c3] from F11.out.kp (by rw [hwf]; exact Below.heap_setCell w11 _ _ _ (by show w10.heap.size ≠ g; omega)) (by rw [hwf]; show _ ≤ (w11.setCell ⟨g, 1, none⟩ (.bool (!is))).heap.size; simp))
      have GF := Lib.hid (show Below w0.heap.size w0 wf by rw [hwf]; exact Below.drew (Below.setCell G11.out (p := ⟨g, 1, none⟩) (Nat.le_trans G9.out.size hg9) _))
      have HSF : Hid (∀ W, Below wf.heap.size wf W → SqC W W.heap.size (some ⟨g, 0, none⟩) n2 c3 lf) := Lib.hid fun W hW => ((own_sq HOF.out ch_sz (by omega)).below hW).more hW.size
      have HQF : Hid (∀ W, Below wf.heap.size wf W → W.cell? ⟨w10.heap.size, 0, none⟩ = some (.slice (some ⟨g, 0, none⟩) n2 c3)) := Lib.hid fun W hW => (FF.out.below hW FF.out.lt).cell (j := 0) rfl
      clear hwf hlf q4 z4 f0 hg9 hg10 HOW
      go_wp2_with fail
      obtain ⟨s1, hs1⟩ : ∃ s1, sameL l l' = s1 := ⟨_, rfl⟩
      obtain ⟨s2, hs2⟩ : ∃ s2, sameE l2 lf = s2 := ⟨_, rfl⟩
      have HS1 := Lib.hid hs1
      have HS2 := Lib.hid hs2
      clear hs1 hs2
      have hb0 := Below.refl wf.heap.size wf
      obtain ⟨q0, q1, q2⟩ := HQ.out _ GF.out
      have q3 := HQF.out _ hb0
      have b1 : (s1 == s1) = true := by simp
      have b2 : (s2 == s2) = true := by simp
      go_region_held3 (fun w' => w'.cell? ⟨w.heap.size, 0, none⟩ = some (.slice A n c) ∧ w'.cell? ⟨w.heap.size + 1, 0, none⟩ = some (.slice A' n' c') ∧ w'.cell? ⟨w.heap.size + 1 + 1, 0, none⟩ = some (.slice A2 n2 c2) ∧ w'.cell? ⟨w10.heap.size, 0, none⟩ = some (.slice (some ⟨g, 0, none⟩) n2 c3) ∧ Below wf.heap.size wf w')
        (first | exact ⟨q0, q1, q2, q3, hb0.drew⟩ | with_reducible exact K21.out | with_reducible exact K22.out | with_reducible exact K23.out | with_reducible exact K24.out | with_reducible exact K25.out | with_reducible exact K26.out | with_reducible exact K27.out | with_reducible exact K28.out | fail)
        (first
          | (go_at_call 17; have T := same_any (HSm.out _ (GF.out.trans (Below.mono (hb0.drew) GF.out.size))) (HSn.out _ (GF.out.trans (Below.mono (hb0.drew) GF.out.size))) (show n ≤ 1000000 by omega); rw [HS1.out] at T; with_reducible refine Calls.mono T ?_; clear T; rintro e w21 ⟨rfl, hb4⟩; have hb5 := (show Below wf.heap.size wf w21 from (hb0.drew).trans (hb4.mono (hb0.drew).size)); have K21 := Lib.hid (show w21.cell? ⟨w.heap.size, 0, none⟩ = some (.slice A n c) ∧ w21.cell? ⟨w.heap.size + 1, 0, none⟩ = some (.slice A' n' c') ∧ w21.cell? ⟨w.heap.size + 1 + 1, 0, none⟩ = some (.slice A2 n2 c2) ∧ w21.cell? ⟨w10.heap.size, 0, none⟩ = some (.slice (some ⟨g, 0, none⟩) n2 c3) ∧ Below wf.heap.size wf w21 from ⟨(HQ.out _ (GF.out.trans (hb5.mono GF.out.size))).1, (HQ.out _ (GF.out.trans (hb5.mono GF.out.size))).2.1, (HQ.out _ (GF.out.trans (hb5.mono GF.out.size))).2.2, HQF.out _ hb5, hb5⟩); clear hb4 hb5)
          | (go_at_call 18; have T := refSame_any (HSm.out _ (GF.out.trans (Below.mono (K21.out.2.2.2.2) GF.out.size))) (HSn.out _ (GF.out.trans (Below.mono (K21.out.2.2.2.2) GF.out.size))) (show n ≤ 1000000 by omega); rw [HS1.out] at T; with_reducible refine Calls.mono T ?_; clear T; rintro e w22 ⟨rfl, hb4⟩; have hb5 := (show Below wf.heap.size wf w22 from (K21.out.2.2.2.2).trans (hb4.mono (K21.out.2.2.2.2).size)); have K22 := Lib.hid (show w22.cell? ⟨w.heap.size, 0, none⟩ = some (.slice A n c) ∧ w22.cell? ⟨w.heap.size + 1, 0, none⟩ = some (.slice A' n' c') ∧ w22.cell? ⟨w.heap.size + 1 + 1, 0, none⟩ = some (.slice A2 n2 c2) ∧ w22.cell? ⟨w10.heap.size, 0, none⟩ = some (.slice (some ⟨g, 0, none⟩) n2 c3) ∧ Below wf.heap.size wf w22 from ⟨(HQ.out _ (GF.out.trans (hb5.mono GF.out.size))).1, (HQ.out _ (GF.out.trans (hb5.mono GF.out.size))).2.1, (HQ.out _ (GF.out.trans (hb5.mono GF.out.size))).2.2, HQF.out _ hb5, hb5⟩); clear hb4 hb5)
          | (go_at_call 12; have T := copied_any (HSm.out _ (GF.out.trans (Below.mono (K22.out.2.2.2.2) GF.out.size))) (show n ≤ 1000000 by omega); with_reducible refine Calls.mono T ?_; clear T; rintro e w23 ⟨A5, c5, rfl, hown5, hb4⟩; have hb5 := (show Below wf.heap.size wf w23 from (K22.out.2.2.2.2).trans (hb4.mono (K22.out.2.2.2.2).size)); have K23 := Lib.hid (show w23.cell? ⟨w.heap.size, 0, none⟩ = some (.slice A n c) ∧ w23.cell? ⟨w.heap.size + 1, 0, none⟩ = some (.slice A' n' c') ∧ w23.cell? ⟨w.heap.size + 1 + 1, 0, none⟩ = some (.slice A2 n2 c2) ∧ w23.cell? ⟨w10.heap.size, 0, none⟩ = some (.slice (some ⟨g, 0, none⟩) n2 c3) ∧ Below wf.heap.size wf w23 from ⟨(HQ.out _ (GF.out.trans (hb5.mono GF.out.size))).1, (HQ.out _ (GF.out.trans (hb5.mono GF.out.size))).2.1, (HQ.out _ (GF.out.trans (hb5.mono GF.out.size))).2.2, HQF.out _ hb5, hb5⟩); have SQ5 := Lib.hid (own_sq hown5 rw_sz (by omega)); clear hb4 hb5)
          | (go_at_call 17; have T := same_any (HSm.out _ (GF.out.trans (Below.mono (K23.out.2.2.2.2) GF.out.size))) SQ5.out (show n ≤ 1000000 by omega); rw [sameL_self] at T; with_reducible refine Calls.mono T ?_; clear T; rintro e w24 ⟨rfl, hb4⟩; have hb5 := (show Below wf.heap.size wf w24 from (K23.out.2.2.2.2).trans (hb4.mono (K23.out.2.2.2.2).size)); have K24 := Lib.hid (show w24.cell? ⟨w.heap.size, 0, none⟩ = some (.slice A n c) ∧ w24.cell? ⟨w.heap.size + 1, 0, none⟩ = some (.slice A' n' c') ∧ w24.cell? ⟨w.heap.size + 1 + 1, 0, none⟩ = some (.slice A2 n2 c2) ∧ w24.cell? ⟨w10.heap.size, 0, none⟩ = some (.slice (some ⟨g, 0, none⟩) n2 c3) ∧ Below wf.heap.size wf w24 from ⟨(HQ.out _ (GF.out.trans (hb5.mono GF.out.size))).1, (HQ.out _ (GF.out.trans (hb5.mono GF.out.size))).2.1, (HQ.out _ (GF.out.trans (hb5.mono GF.out.size))).2.2, HQF.out _ hb5, hb5⟩); clear hb4 hb5)
          | (go_at_call 14; have T := copiedE_any (HSe.out _ (GF.out.trans (Below.mono (K24.out.2.2.2.2) GF.out.size))) (show n2 ≤ 1000000 by omega); with_reducible refine Calls.mono T ?_; clear T; rintro e w25 ⟨A6, c6, rfl, hown5, hb4⟩; have hb5 := (show Below wf.heap.size wf w25 from (K24.out.2.2.2.2).trans (hb4.mono (K24.out.2.2.2.2).size)); have K25 := Lib.hid (show w25.cell? ⟨w.heap.size, 0, none⟩ = some (.slice A n c) ∧ w25.cell? ⟨w.heap.size + 1, 0, none⟩ = some (.slice A' n' c') ∧ w25.cell? ⟨w.heap.size + 1 + 1, 0, none⟩ = some (.slice A2 n2 c2) ∧ w25.cell? ⟨w10.heap.size, 0, none⟩ = some (.slice (some ⟨g, 0, none⟩) n2 c3) ∧ Below wf.heap.size wf w25 from ⟨(HQ.out _ (GF.out.trans (hb5.mono GF.out.size))).1, (HQ.out _ (GF.out.trans (hb5.mono GF.out.size))).2.1, (HQ.out _ (GF.out.trans (hb5.mono GF.out.size))).2.2, HQF.out _ hb5, hb5⟩); have SQ6 := Lib.hid (own_sq hown5 ch_sz (by omega)); clear hb4 hb5)
          | (go_at_call 19; have T := sameE_any (HSe.out _ (GF.out.trans (Below.mono (K25.out.2.2.2.2) GF.out.size))) SQ6.out (show n2 ≤ 1000000 by omega); rw [sameE_self] at T; with_reducible refine Calls.mono T ?_; clear T; rintro e w26 ⟨rfl, hb4⟩; have hb5 := (show Below wf.heap.size wf w26 from (K25.out.2.2.2.2).trans (hb4.mono (K25.out.2.2.2.2).size)); have K26 := Lib.hid (show w26.cell? ⟨w.heap.size, 0, none⟩ = some (.slice A n c) ∧ w26.cell? ⟨w.heap.size + 1, 0, none⟩ = some (.slice A' n' c') ∧ w26.cell? ⟨w.heap.size + 1 + 1, 0, none⟩ = some (.slice A2 n2 c2) ∧ w26.cell? ⟨w10.heap.size, 0, none⟩ = some (.slice (some ⟨g, 0, none⟩) n2 c3) ∧ Below wf.heap.size wf w26 from ⟨(HQ.out _ (GF.out.trans (hb5.mono GF.out.size))).1, (HQ.out _ (GF.out.trans (hb5.mono GF.out.size))).2.1, (HQ.out _ (GF.out.trans (hb5.mono GF.out.size))).2.2, HQF.out _ hb5, hb5⟩); clear hb4 hb5)
          | (go_at_call 19; have T := sameE_any (HSe.out _ (GF.out.trans (Below.mono (K26.out.2.2.2.2) GF.out.size))) (HSF.out _ (K26.out.2.2.2.2)) (show n2 ≤ 1000000 by omega); rw [HS2.out] at T; with_reducible refine Calls.mono T ?_; clear T; rintro e w27 ⟨rfl, hb4⟩; have hb5 := (show Below wf.heap.size wf w27 from (K26.out.2.2.2.2).trans (hb4.mono (K26.out.2.2.2.2).size)); have K27 := Lib.hid (show w27.cell? ⟨w.heap.size, 0, none⟩ = some (.slice A n c) ∧ w27.cell? ⟨w.heap.size + 1, 0, none⟩ = some (.slice A' n' c') ∧ w27.cell? ⟨w.heap.size + 1 + 1, 0, none⟩ = some (.slice A2 n2 c2) ∧ w27.cell? ⟨w10.heap.size, 0, none⟩ = some (.slice (some ⟨g, 0, none⟩) n2 c3) ∧ Below wf.heap.size wf w27 from ⟨(HQ.out _ (GF.out.trans (hb5.mono GF.out.size))).1, (HQ.out _ (GF.out.trans (hb5.mono GF.out.size))).2.1, (HQ.out _ (GF.out.trans (hb5.mono GF.out.size))).2.2, HQF.out _ hb5, hb5⟩); clear hb4 hb5)
          | (go_at_call 20; have T := refSameE_any (HSe.out _ (GF.out.trans (Below.mono (K27.out.2.2.2.2) GF.out.size))) (HSF.out _ (K27.out.2.2.2.2)) (show n2 ≤ 1000000 by omega); rw [HS2.out] at T; with_reducible refine Calls.mono T ?_; clear T; rintro e w28 ⟨rfl, hb4⟩; have hb5 := (show Below wf.heap.size wf w28 from (K27.out.2.2.2.2).trans (hb4.mono (K27.out.2.2.2.2).size)); have K28 := Lib.hid (show w28.cell? ⟨w.heap.size, 0, none⟩ = some (.slice A n c) ∧ w28.cell? ⟨w.heap.size + 1, 0, none⟩ = some (.slice A' n' c') ∧ w28.cell? ⟨w.heap.size + 1 + 1, 0, none⟩ = some (.slice A2 n2 c2) ∧ w28.cell? ⟨w10.heap.size, 0, none⟩ = some (.slice (some ⟨g, 0, none⟩) n2 c3) ∧ Below wf.heap.size wf w28 from ⟨(HQ.out _ (GF.out.trans (hb5.mono GF.out.size))).1, (HQ.out _ (GF.out.trans (hb5.mono GF.out.size))).2.1, (HQ.out _ (GF.out.trans (hb5.mono GF.out.size))).2.2, HQF.out _ hb5, hb5⟩); clear hb4 hb5)
          | fail)
      have GE := Lib.hid (GF.out.trans (Below.mono K28.out.2.2.2.2 GF.out.size))
      clear K21 K22 K23 K24 K25 K26 K27 K28 SQ5 SQ6 q0 q1 q2 q3 hb0
      go_wp2_with fail
      go_ret
      exact ⟨rfl, B0.out.trans (GE.out.mono B0.out.size)⟩
    · have d0 : decide (0 < (n2 : Int)) = false := by simpa using h0
      go_wp2_with fail
      obtain ⟨wf, hwf⟩ : ∃ wf, w11 = wf := ⟨_, rfl⟩
      obtain ⟨lf, hlf⟩ : ∃ lf, l2 = lf := ⟨_, rfl⟩
      have GF := Lib.hid (show Below w0.heap.size w0 wf by rw [← hwf]; exact G11.out)
      have HSF : Hid (∀ W, Below wf.heap.size wf W → SqC W W.heap.size A3 n2 c3 lf) := Lib.hid fun W hW => ((own_sq (l := lf) (by rw [← hwf, ← hlf]; exact HO11.out) ch_sz (by omega)).below hW).more hW.size
      have HQF : Hid (∀ W, Below wf.heap.size wf W → W.cell? ⟨w10.heap.size, 0, none⟩ = some (.slice A3 n2 c3)) := Lib.hid fun W hW => (Lies.below (by rw [← hwf]; exact F11.out) hW (by rw [← hwf]; exact F11.out.lt)).cell (j := 0) rfl
      rw [hwf]
      clear hwf hlf f0 HOW
      obtain ⟨s1, hs1⟩ : ∃ s1, sameL l l' = s1 := ⟨_, rfl⟩
      obtain ⟨s2, hs2⟩ : ∃ s2, sameE l2 lf = s2 := ⟨_, rfl⟩
      have HS1 := Lib.hid hs1
      have HS2 := Lib.hid hs2
      clear hs1 hs2
      have hb0 := Below.refl wf.heap.size wf
      obtain ⟨q0, q1, q2⟩ := HQ.out _ GF.out
      have q3 := HQF.out _ hb0
      have b1 : (s1 == s1) = true := by simp
      have b2 : (s2 == s2) = true := by simp
      go_region_held3 (fun w' => w'.cell? ⟨w.heap.size, 0, none⟩ = some (.slice A n c) ∧ w'.cell? ⟨w.heap.size + 1, 0, none⟩ = some (.slice A' n' c') ∧ w'.cell? ⟨w.heap.size + 1 + 1, 0, none⟩ = some (.slice A2 n2 c2) ∧ w'.cell? ⟨w10.heap.size, 0, none⟩ = some (.slice A3 n2 c3) ∧ Below wf.heap.size wf w')
        (first | exact ⟨q0, q1, q2, q3, hb0.drew⟩ | with_reducible exact K21.out | with_reducible exact K22.out | with_reducible exact K23.out | with_reducible exact K24.out | with_reducible exact K25.out | with_reducible exact K26.out | with_reducible exact K27.out | with_reducible exact K28.out | fail)
        (first
          | (go_at_call 17; have T := same_any (HSm.out _ (GF.out.trans (Below.mono (hb0.drew) GF.out.size))) (HSn.out _ (GF.out.trans (Below.mono (hb0.drew) GF.out.size))) (show n ≤ 1000000 by omega); rw [HS1.out] at T; with_reducible refine Calls.mono T ?_; clear T; rintro e w21 ⟨rfl, hb4⟩; have hb5 := (show Below wf.heap.size wf w21 from (hb0.drew).trans (hb4.mono (hb0.drew).size)); have K21 := Lib.hid (show w21.cell? ⟨w.heap.size, 0, none⟩ = some (.slice A n c) ∧ w21.cell? ⟨w.heap.size + 1, 0, none⟩ = some (.slice A' n' c') ∧ w21.cell? ⟨w.heap.size + 1 + 1, 0, none⟩ = some (.slice A2 n2 c2) ∧ w21.cell? ⟨w10.heap.size, 0, none⟩ = some (.slice A3 n2 c3) ∧ Below wf.heap.size wf w21 from ⟨(HQ.out _ (GF.out.trans (hb5.mono GF.out.size))).1, (HQ.out _ (GF.out.trans (hb5.mono GF.out.size))).2.1, (HQ.out _ (GF.out.trans (hb5.mono GF.out.size))).2.2, HQF.out _ hb5, hb5⟩); clear hb4 hb5)
          | (go_at_call 18; have T := refSame_any (HSm.out _ (GF.out.trans (Below.mono (K21.out.2.2.2.2) GF.out.size))) (HSn.out _ (GF.out.trans (Below.mono (K21.out.2.2.2.2) GF.out.size))) (show n ≤ 1000000 by omega); rw [HS1.out] at T; with_reducible refine Calls.mono T ?_; clear T; rintro e w22 ⟨rfl, hb4⟩; have hb5 := (show Below wf.heap.size wf w22 from (K21.out.2.2.2.2).trans (hb4.mono (K21.out.2.2.2.2).size)); have K22 := Lib.hid (show w22.cell? ⟨w.heap.size, 0, none⟩ = some (.slice A n c) ∧ w22.cell? ⟨w.heap.size + 1, 0, none⟩ = some (.slice A' n' c') ∧ w22.cell? ⟨w.heap.size + 1 + 1, 0, none⟩ = some (.slice A2 n2 c2) ∧ w22.cell? ⟨w10.heap.size, 0, none⟩ = some (.slice A3 n2 c3) ∧ Below wf.heap.size wf w22 from ⟨(HQ.out _ (GF.out.trans (hb5.mono GF.out.size))).1, (HQ.out _ (GF.out.trans (hb5.mono GF.out.size))).2.1, (HQ.out _ (GF.out.trans (hb5.mono GF.out.size))).2.2, HQF.out _ hb5, hb5⟩); clear hb4 hb5)
          | (go_at_call 12; have T := copied_any (HSm.out _ (GF.out.trans (Below.mono (K22.out.2.2.2.2) GF.out.size))) (show n ≤ 1000000 by omega); with_reducible refine Calls.mono T ?_; clear T; rintro e w23 ⟨A5, c5, rfl, hown5, hb4⟩; have hb5 := (show Below wf.heap.size wf w23 from (K22.out.2.2.2.2).trans (hb4.mono (K22.out.2.2.2.2).size)); have K23 := Lib.hid (show w23.cell? ⟨w.heap.size, 0, none⟩ = some (.slice A n c) ∧ w23.cell? ⟨w.heap.size + 1, 0, none⟩ = some (.slice A' n' c') ∧ w23.cell? ⟨w.heap.size + 1 + 1, 0, none⟩ = some (.slice A2 n2 c2) ∧ w23.cell? ⟨w10.heap.size, 0, none⟩ = some (.slice A3 n2 c3) ∧ Below wf.heap.size wf w23 from ⟨(HQ.out _ (GF.out.trans (hb5.mono GF.out.size))).1, (HQ.out _ (GF.out.trans (hb5.mono GF.out.size))).2.1, (HQ.out _ (GF.out.trans (hb5.mono GF.out.size))).2.2, HQF.out _ hb5, hb5⟩); have SQ5 := Lib.hid (own_sq hown5 rw_sz (by omega)); clear hb4 hb5)
          | (go_at_call 17; have T := same_any (HSm.out _ (GF.out.trans (Below.mono (K23.out.2.2.2.2) GF.out.size))) SQ5.out (show n ≤ 1000000 by omega); rw [sameL_self] at T; with_reducible refine Calls.mono T ?_; clear T; rintro e w24 ⟨rfl, hb4⟩; have hb5 := (show Below wf.heap.size wf w24 from (K23.out.2.2.2.2).trans (hb4.mono (K23.out.2.2.2.2).size)); have K24 := Lib.hid (show w24.cell? ⟨w.heap.size, 0, none⟩ = some (.slice A n c) ∧ w24.cell? ⟨w.heap.size + 1, 0, none⟩ = some (.slice A' n' c') ∧ w24.cell? ⟨w.heap.size + 1 + 1, 0, none⟩ = some (.slice A2 n2 c2) ∧ w24.cell? ⟨w10.heap.size, 0, none⟩ = some (.slice A3 n2 c3) ∧ Below wf.heap.size wf w24 from ⟨(HQ.out _ (GF.out.trans (hb5.mono GF.out.size))).1, (HQ.out _ (GF.out.trans (hb5.mono GF.out.size))).2.1, (HQ.out _ (GF.out.trans (hb5.mono GF.out.size))).2.2, HQF.out _ hb5, hb5⟩); clear hb4 hb5)
          | (go_at_call 14; have T := copiedE_any (HSe.out _ (GF.out.trans (Below.mono (K24.out.2.2.2.2) GF.out.size))) (show n2 ≤ 1000000 by omega); with_reducible refine Calls.mono T ?_; clear T; rintro e w25 ⟨A6, c6, rfl, hown5, hb4⟩; have hb5 := (show Below wf.heap.size wf w25 from (K24.out.2.2.2.2).trans (hb4.mono (K24.out.2.2.2.2).size)); have K25 := Lib.hid (show w25.cell? ⟨w.heap.size, 0, none⟩ = some (.slice A n c) ∧ w25.cell? ⟨w.heap.size + 1, 0, none⟩ = some (.slice A' n' c') ∧ w25.cell? ⟨w.heap.size + 1 + 1, 0, none⟩ = some (.slice A2 n2 c2) ∧ w25.cell? ⟨w10.heap.size, 0, none⟩ = some (.slice A3 n2 c3) ∧ Below wf.heap.size wf w25 from ⟨(HQ.out _ (GF.out.trans (hb5.mono GF.out.size))).1, (HQ.out _ (GF.out.trans (hb5.mono GF.out.size))).2.1, (HQ.out _ (GF.out.trans (hb5.mono GF.out.size))).2.2, HQF.out _ hb5, hb5⟩); have SQ6 := Lib.hid (own_sq hown5 ch_sz (by omega)); clear hb4 hb5)
          | (go_at_call 19; have T := sameE_any (HSe.out _ (GF.out.trans (Below.mono (K25.out.2.2.2.2) GF.out.size))) SQ6.out (show n2 ≤ 1000000 by omega); rw [sameE_self] at T; with_reducible refine Calls.mono T ?_; clear T; rintro e w26 ⟨rfl, hb4⟩; have hb5 := (show Below wf.heap.size wf w26 from (K25.out.2.2.2.2).trans (hb4.mono (K25.out.2.2.2.2).size)); have K26 := Lib.hid (show w26.cell? ⟨w.heap.size, 0, none⟩ = some (.slice A n c) ∧ w26.cell? ⟨w.heap.size + 1, 0, none⟩ = some (.slice A' n' c') ∧ w26.cell? ⟨w.heap.size + 1 + 1, 0, none⟩ = some (.slice A2 n2 c2) ∧ w26.cell? ⟨w10.heap.size, 0, none⟩ = some (.slice A3 n2 c3) ∧ Below wf.heap.size wf w26 from ⟨(HQ.out _ (GF.out.trans (hb5.mono GF.out.size))).1, (HQ.out _ (GF.out.trans (hb5.mono GF.out.size))).2.1, (HQ.out _ (GF.out.trans (hb5.mono GF.out.size))).2.2, HQF.out _ hb5, hb5⟩); clear hb4 hb5)
          | (go_at_call 19; have T := sameE_any (HSe.out _ (GF.out.trans (Below.mono (K26.out.2.2.2.2) GF.out.size))) (HSF.out _ (K26.out.2.2.2.2)) (show n2 ≤ 1000000 by omega); rw [HS2.out] at T; with_reducible refine Calls.mono T ?_; clear T; rintro e w27 ⟨rfl, hb4⟩; have hb5 := (show Below wf.heap.size wf w27 from (K26.out.2.2.2.2).trans (hb4.mono (K26.out.2.2.2.2).size)); have K27 := Lib.hid (show w27.cell? ⟨w.heap.size, 0, none⟩ = some (.slice A n c) ∧ w27.cell? ⟨w.heap.size + 1, 0, none⟩ = some (.slice A' n' c') ∧ w27.cell? ⟨w.heap.size + 1 + 1, 0, none⟩ = some (.slice A2 n2 c2) ∧ w27.cell? ⟨w10.heap.size, 0, none⟩ = some (.slice A3 n2 c3) ∧ Below wf.heap.size wf w27 from ⟨(HQ.out _ (GF.out.trans (hb5.mono GF.out.size))).1, (HQ.out _ (GF.out.trans (hb5.mono GF.out.size))).2.1, (HQ.out _ (GF.out.trans (hb5.mono GF.out.size))).2.2, HQF.out _ hb5, hb5⟩); clear hb4 hb5)
          | (go_at_call 20; have T := refSameE_any (HSe.out _ (GF.out.trans (Below.mono (K27.out.2.2.2.2) GF.out.size))) (HSF.out _ (K27.out.2.2.2.2)) (show n2 ≤ 1000000 by omega); rw [HS2.out] at T; with_reducible refine Calls.mono T ?_; clear T; rintro e w28 ⟨rfl, hb4⟩; have hb5 := (show Below wf.heap.size wf w28 from (K27.out.2.2.2.2).trans (hb4.mono (K27.out.2.2.2.2).size)); have K28 := Lib.hid (show w28.cell? ⟨w.heap.size, 0, none⟩ = some (.slice A n c) ∧ w28.cell? ⟨w.heap.size + 1, 0, none⟩ = some (.slice A' n' c') ∧ w28.cell? ⟨w.heap.size + 1 + 1, 0, none⟩ = some (.slice A2 n2 c2) ∧ w28.cell? ⟨w10.heap.size, 0, none⟩ = some (.slice A3 n2 c3) ∧ Below wf.heap.size wf w28 from ⟨(HQ.out _ (GF.out.trans (hb5.mono GF.out.size))).1, (HQ.out _ (GF.out.trans (hb5.mono GF.out.size))).2.1, (HQ.out _ (GF.out.trans (hb5.mono GF.out.size))).2.2, HQF.out _ hb5, hb5⟩); clear hb4 hb5)
          | fail)
      have GE := Lib.hid (GF.out.trans (Below.mono K28.out.2.2.2.2 GF.out.size))
      clear K21 K22 K23 K24 K25 K26 K27 K28 SQ5 SQ6 q0 q1 q2 q3 hb0
      go_wp2_with fail
      go_ret
      exact ⟨rfl, B0.out.trans (GE.out.mono B0.out.size)⟩
  · obtain rfl : ca = 150 := by have := HCA.out; simpa using this.symm
    obtain rfl : cb = 0 := by have := HCB.out; simpa using this.symm
    go_wp2_with fail
    refine (HRA.out _ G7.out).mono ?_
    rintro e w8 ⟨rfl, hb8⟩
    have G8 := Lib.hid (G7.out.trans (hb8.mono G7.out.size))
    clear hb8 q0 q1 q2
    obtain ⟨q0, q1, q2⟩ := HQ.out _ G8.out
    go_wp2_with fail
    refine (HRB.out _ G8.out).mono ?_
    rintro e w9 ⟨rfl, hb9⟩
    have G9 := Lib.hid (G8.out.trans (hb9.mono G8.out.size))
    clear hb9 q0 q1 q2
    obtain ⟨q0, q1, q2⟩ := HQ.out _ G9.out
    go_wp2_with fail
    refine (copiedE_any (HSe.out _ G9.out) (show n2 ≤ 1000000 by omega)).mono ?_
    rintro e w10 ⟨A3, c3, rfl, hown, hb10⟩
    have G10 := Lib.hid (G9.out.trans (hb10.mono G9.out.size))
    have HOW := Lib.hid hown
    clear hb10 hown q0 q1 q2
    obtain ⟨w11, hw11⟩ : ∃ w11, w10.alloc (.cells #[.slice A3 n2 c3] 27) = w11 := ⟨_, rfl⟩
    have F11 : Hid (Lies w11 w10.heap.size 1 [.slice A3 n2 c3]) := Lib.hid (by rw [← hw11]; exact Lies.new w10 [.slice A3 n2 c3] 27)
    have HO11 := Lib.hid (show w11.ownsRow w9.heap.size 38 3 (.slice A3 n2 c3) n2 (l2.flatMap Ch.cells) by rw [← hw11]; exact HOW.out.alloc _)
    have G11 := Lib.hid (show Below w0.heap.size w0 w11 by rw [← hw11]; exact G10.out.alloc G10.out.size _)
    have HW11 := Lib.hid hw11
    clear hw11
    go_upto_region 9 with fail
    rw [HW11.out]
    clear HW11
    have f0 := F11.out.cell (j := 0) rfl
    by_cases h0 : 0 < (n2 : Int)
    · have d0 : decide (0 < (n2 : Int)) = true := by simpa using h0
      obtain ⟨g, rfl, hg9⟩ : ∃ g, A3 = some ⟨g, 0, none⟩ ∧ w9.heap.size ≤ g := by
        rcases HOW.out.2 with ⟨e1, e2⟩ | ⟨g, cap, cur, e1, hb, _⟩
        · omega
        · injection e1 with e1 e2 e3
          exact ⟨g, e1, hb⟩
      have hg10 := (HOW.out.lt g rfl).2
      obtain ⟨⟨p, is, t⟩, rest, hr⟩ : ∃ r rest, l2 = r :: rest := List.exists_cons_of_length_pos (by omega)
      have q4 : w11.cell? ⟨g, 1, none⟩ = some (.bool is) := by
        have := HO11.out.cellAt 1 (by omega)
        rw [this, hr]
        rfl
      have z4 := HO11.out.frozenAt 1
      have HR := Lib.hid hr
      clear hr
      go_wp2_with fail
      refine wp_region_bar 8 8 (fun w' => w'.cell? ⟨w10.heap.size, 0, none⟩ = some (.slice (some ⟨g, 0, none⟩) n2 c3) ∧ w'.cell? ⟨g, 1, none⟩ = some (.bool is)) (by kernel_rfl) (by kernel_rfl) ⟨f0, q4⟩ ?_
      simp only [List.take_succ_cons, List.take_zero, List.drop_succ_cons, List.drop_zero, List.take_nil, List.drop_nil]
      refine ⟨_, .inl ⟨rfl, fun w' hw' => (by have hc1 := hw'.1; have hc2 := hw'.2; clear hw'; go_simp; (try rfl))⟩, ?_⟩
      refine ⟨_, .inl ⟨rfl, fun w' hw' => (by have hc1 := hw'.1; have hc2 := hw'.2; clear hw'; go_simp; (try rfl))⟩, ?_⟩
      refine ⟨_, .inl ⟨rfl, fun w' hw' => (by have hc1 := hw'.1; have hc2 := hw'.2; clear hw'; go_simp; (try rfl))⟩, ?_⟩
      refine ⟨_, .inl ⟨rfl, fun w' hw' => (by have hc1 := hw'.1; have hc2 := hw'.2; clear hw'; go_simp; (try rfl))⟩, ?_⟩
      refine ⟨_, .inl ⟨rfl, fun w' hw' => (by have hc1 := hw'.1; have hc2 := hw'.2; clear hw'; go_simp; (try rfl))⟩, ?_⟩
      refine ⟨_, .inl ⟨rfl, fun w' hw' => (by have hc1 := hw'.1; have hc2 := hw'.2; clear hw'; go_simp; (try rfl))⟩, ?_⟩
      refine ⟨_, .inl ⟨rfl, fun w' hw' => (by have hc1 := hw'.1; have hc2 := hw'.2; clear hw'; go_simp; (try rfl))⟩, ?_⟩
      refine ⟨_, .inl ⟨rfl, fun w' hw' => (by have hc1 := hw'.1; have hc2 := hw'.2; clear hw'; go_simp; (try rfl))⟩, ?_⟩
      rw [wpHead_nil, wpMid_nil]
      simp only [Act.put, List.setIfInBounds_toArray, List.set_cons_succ, List.set_cons_zero]
      go_wp2_with fail
      refine NoPanic.normal ?_
      obtain ⟨wf, hwf⟩ : ∃ wf, wf = (w11.setCell ⟨g, 1, none⟩ (.bool (!is))).drew := ⟨_, rfl⟩
      rw [← hwf]
      obtain ⟨lf, hlf⟩ : ∃ lf : List Ch, lf = ⟨p, !is, t⟩ :: rest := ⟨_, rfl⟩
      have HOF := Lib.hid (show wf.ownsRow w9.heap.size 38 3 (.slice (some ⟨g, 0, none⟩) n2 c3) n2 (lf.flatMap Ch.cells) by
        have := World.ownsRow.drew (HO11.out.stored 1 (.bool (!is))).1
        rw [HR.out] at this
        rw [hwf, hlf]
        exact this)
      have FF := Lib.hid (show Lies wf w10.heap.size 1 [.slice (some ⟨g, 0, none⟩) n2 c3] from F11.out.kp (by rw [hwf]; exact Below.heap_setCell w11 _ _ _ (by show w10.heap.size ≠ g; omega)) (by rw [hwf]; show _ ≤ (w11.setCell ⟨g, 1, none⟩ (.bool (!is))).heap.size; simp))
      have GF := Lib.hid (show Below w0.heap.size w0 wf by rw [hwf]; exact Below.drew (Below.setCell G11.out (p := ⟨g, 1, none⟩) (Nat.le_trans G9.out.size hg9) _))
      have HSF : Hid (∀ W, Below wf.heap.size wf W → SqC W W.heap.size (some ⟨g, 0, none⟩) n2 c3 lf) := Lib.hid fun W hW => ((own_sq HOF.out ch_sz (by omega)).below hW).more hW.size
      have HQF : Hid (∀ W, Below wf.heap.size wf W → W.cell? ⟨w10.heap.size, 0, none⟩ = some (.slice (some ⟨g, 0, none⟩) n2 c3)) := Lib.hid fun W hW => (FF.out.below hW FF.out.lt).cell (j := 0) rfl
      clear hwf hlf q4 z4 f0 hg9 hg10 HOW
      go_wp2_with fail
      obtain ⟨s1, hs1⟩ : ∃ s1, sameL l l' = s1 := ⟨_, rfl⟩
      obtain ⟨s2, hs2⟩ : ∃ s2, sameE l2 lf = s2 := ⟨_, rfl⟩
      have HS1 := Lib.hid hs1
      have HS2 := Lib.hid hs2
      clear hs1 hs2
      have hb0 := Below.refl wf.heap.size wf
      obtain ⟨q0, q1, q2⟩ := HQ.out _ GF.out
      have q3 := HQF.out _ hb0
      have b1 : (s1 == s1) = true := by simp
      have b2 : (s2 == s2) = true := by simp
      go_region_held3 (fun w' => w'.cell? ⟨w.heap.size, 0, none⟩ = some (.slice A n c) ∧ w'.cell? ⟨w.heap.size + 1, 0, none⟩ = some (.slice A' n' c') ∧ w'.cell? ⟨w.heap.size + 1 + 1, 0, none⟩ = some (.slice A2 n2 c2) ∧ w'.cell? ⟨w10.heap.size, 0, none⟩ = some (.slice (some ⟨g, 0, none⟩) n2 c3) ∧ Below wf.heap.size wf w')
        (first | exact ⟨q0, q1, q2, q3, hb0.drew⟩ | with_reducible exact K21.out | with_reducible exact K22.out | with_reducible exact K23.out | with_reducible exact K24.out | with_reducible exact K25.out | with_reducible exact K26.out | with_reducible exact K27.out | with_reducible exact K28.out | fail)
        (first
          | (go_at_call 17; have T := same_any (HSm.out _ (GF.out.trans (Below.mono (hb0.drew) GF.out.size))) (HSn.out _ (GF.out.trans (Below.mono (hb0.drew) GF.out.size))) (show n ≤ 1000000 by omega); rw [HS1.out] at T; with_reducible refine Calls.mono T ?_; clear T; rintro e w21 ⟨rfl, hb4⟩; have hb5 := (show Below wf.heap.size wf w21 from (hb0.drew).trans (hb4.mono (hb0.drew).size)); have K21 := Lib.hid (show w21.cell? ⟨w.heap.size, 0, none⟩ = some (.slice A n c) ∧ w21.cell? ⟨w.heap.size + 1, 0, none⟩ = some (.slice A' n' c') ∧ w21.cell? ⟨w.heap.size + 1 + 1, 0, none⟩ = some (.slice A2 n2 c2) ∧ w21.cell? ⟨w10.heap.size, 0, none⟩ = some (.slice (some ⟨g, 0, none⟩) n2 c3) ∧ Below wf.heap.size wf w21 from ⟨(HQ.out _ (GF.out.trans (hb5.mono GF.out.size))).1, (HQ.out _ (GF.out.trans (hb5.mono GF.out.size))).2.1, (HQ.out _ (GF.out.trans (hb5.mono GF.out.size))).2.2, HQF.out _ hb5, hb5⟩); clear hb4 hb5)
          | (go_at_call 18; have T := refSame_any (HSm.out _ (GF.out.trans (Below.mono (K21.out.2.2.2.2) GF.out.size))) (HSn.out _ (GF.out.trans (Below.mono (K21.out.2.2.2.2) GF.out.size))) (show n ≤ 1000000 by omega); rw [HS1.out] at T; with_reducible refine Calls.mono T ?_; clear T; rintro e w22 ⟨rfl, hb4⟩; have hb5 := (show Below wf.heap.size wf w22 from (K21.out.2.2.2.2).trans (hb4.mono (K21.out.2.2.2.2).size)); have K22 := Lib.hid (show w22.cell? ⟨w.heap.size, 0, none⟩ = some (.slice A n c) ∧ w22.cell? ⟨w.heap.size + 1, 0, none⟩ = some (.slice A' n' c') ∧ w22.cell? ⟨w.heap.size + 1 + 1, 0, none⟩ = some (.slice A2 n2 c2) ∧ w22.cell? ⟨w10.heap.size, 0, none⟩ = some (.slice (some ⟨g, 0, none⟩) n2 c3) ∧ Below wf.heap.size wf w22 from ⟨(HQ.out _ (GF.out.trans (hb5.mono GF.out.size))).1, (HQ.out _ (GF.out.trans (hb5.mono GF.out.size))).2.1, (HQ.out _ (GF.out.trans (hb5.mono GF.out.size))).2.2, HQF.out _ hb5, hb5⟩); clear hb4 hb5)
          | (go_at_call 12; have T := copied_any (HSm.out _ (GF.out.trans (Below.mono (K22.out.2.2.2.2) GF.out.size))) (show n ≤ 1000000 by omega); with_reducible refine Calls.mono T ?_; clear T; rintro e w23 ⟨A5, c5, rfl, hown5, hb4⟩; have hb5 := (show Below wf.heap.size wf w23 from (K22.out.2.2.2.2).trans (hb4.mono (K22.out.2.2.2.2).size)); have K23 := Lib.hid (show w23.cell? ⟨w.heap.size, 0, none⟩ = some (.slice A n c) ∧ w23.cell? ⟨w.heap.size + 1, 0, none⟩ = some (.slice A' n' c') ∧ w23.cell? ⟨w.heap.size + 1 + 1, 0, none⟩ = some (.slice A2 n2 c2) ∧ w23.cell? ⟨w10.heap.size, 0, none⟩ = some (.slice (some ⟨g, 0, none⟩) n2 c3) ∧ Below wf.heap.size wf w23 from ⟨(HQ.out _ (GF.out.trans (hb5.mono GF.out.size))).1, (HQ.out _ (GF.out.trans (hb5.mono GF.out.size))).2.1, (HQ.out _ (GF.out.trans (hb5.mono GF.out.size))).2.2, HQF.out _ hb5, hb5⟩); have SQ5 := Lib.hid (own_sq hown5 rw_sz (by omega)); clear hb4 hb5)
          | (go_at_call 17; have T := same_any (HSm.out _ (GF.out.trans (Below.mono (K23.out.2.2.2.2) GF.out.size))) SQ5.out (show n ≤ 1000000 by omega); rw [sameL_self] at T; with_reducible refine Calls.mono T ?_; clear T; rintro e w24 ⟨rfl, hb4⟩; have hb5 := (show Below wf.heap.size wf w24 from (K23.out.2.2.2.2).trans (hb4.mono (K23.out.2.2.2.2).size)); have K24 := Lib.hid (show w24.cell? ⟨w.heap.size, 0, none⟩ = some (.slice A n c) ∧ w24.cell? ⟨w.heap.size + 1, 0, none⟩ = some (.slice A' n' c') ∧ w24.cell? ⟨w.heap.size + 1 + 1, 0, none⟩ = some (.slice A2 n2 c2) ∧ w24.cell? ⟨w10.heap.size, 0, none⟩ = some (.slice (some ⟨g, 0, none⟩) n2 c3) ∧ Below wf.heap.size wf w24 from ⟨(HQ.out _ (GF.out.trans (hb5.mono GF.out.size))).1, (HQ.out _ (GF.out.trans (hb5.mono GF.out.size))).2.1, (HQ.out _ (GF.out.trans (hb5.mono GF.out.size))).2.2, HQF.out _ hb5, hb5⟩); clear hb4 hb5)
          | (go_at_call 14; have T := copiedE_any (HSe.out _ (GF.out.trans (Below.mono (K24.out.2.2.2.2) GF.out.size))) (show n2 ≤ 1000000 by omega); with_reducible refine Calls.mono T ?_; clear T; rintro e w25 ⟨A6, c6, rfl, hown5, hb4⟩; have hb5 := (show Below wf.heap.size wf w25 from (K24.out.2.2.2.2).trans (hb4.mono (K24.out.2.2.2.2).size)); have K25 := Lib.hid (show w25.cell? ⟨w.heap.size, 0, none⟩ = some (.slice A n c) ∧ w25.cell? ⟨w.heap.size + 1, 0, none⟩ = some (.slice A' n' c') ∧ w25.cell? ⟨w.heap.size + 1 + 1, 0, none⟩ = some (.slice A2 n2 c2) ∧ w25.cell? ⟨w10.heap.size, 0, none⟩ = some (.slice (some ⟨g, 0, none⟩) n2 c3) ∧ Below wf.heap.size wf w25 from ⟨(HQ.out _ (GF.out.trans (hb5.mono GF.out.size))).1, (HQ.out _ (GF.out.trans (hb5.mono GF.out.size))).2.1, (HQ.out _ (GF.out.trans (hb5.mono GF.out.size))).2.2, HQF.out _ hb5, hb5⟩); have SQ6 := Lib.hid (own_sq hown5 ch_sz (by omega)); clear hb4 hb5)
          | (go_at_call 19; have T := sameE_any (HSe.out _ (GF.out.trans (Below.mono (K25.out.2.2.2.2) GF.out.size))) SQ6.out (show n2 ≤ 1000000 by omega); rw [sameE_self] at T; with_reducible refine Calls.mono T ?_; clear T; rintro e w26 ⟨rfl, hb4⟩; have hb5 := (show Below wf.heap.size wf w26 from (K25.out.2.2.2.2).trans (hb4.mono (K25.out.2.2.2.2).size)); have K26 := Lib.hid (show w26.cell? ⟨w.heap.size, 0, none⟩ = some (.slice A n c) ∧ w26.cell? ⟨w.heap.size + 1, 0, none⟩ = some (.slice A' n' c') ∧ w26.cell? ⟨w.heap.size + 1 + 1, 0, none⟩ = some (.slice A2 n2 c2) ∧ w26.cell? ⟨w10.heap.size, 0, none⟩ = some (.slice (some ⟨g, 0, none⟩) n2 c3) ∧ Below wf.heap.size wf w26 from ⟨(HQ.out _ (GF.out.trans (hb5.mono GF.out.size))).1, (HQ.out _ (GF.out.trans (hb5.mono GF.out.size))).2.1, (HQ.out _ (GF.out.trans (hb5.mono GF.out.size))).2.2, HQF.out _ hb5, hb5⟩); clear hb4 hb5)
          | (go_at_call 19; have T := sameE_any (HSe.out _ (GF.out.trans (Below.mono (K26.out.2.2.2.2) GF.out.size))) (HSF.out _ (K26.out.2.2.2.2)) (show n2 ≤ 1000000 by omega); rw [HS2.out] at T; with_reducible refine Calls.mono T ?_; clear T; rintro e w27 ⟨rfl, hb4⟩; have hb5 := (show Below wf.heap.size wf w27 from (K26.out.2.2.2.2).trans (hb4.mono (K26.out.2.2.2.2).size)); have K27 := Lib.hid (show w27.cell? ⟨w.heap.size, 0, none⟩ = some (.slice A n c) ∧ w27.cell? ⟨w.heap.size + 1, 0, none⟩ = some (.slice A' n' c') ∧ w27.cell? ⟨w.heap.size + 1 + 1, 0, none⟩ = some (.slice A2 n2 c2) ∧ w27.cell? ⟨w10.heap.size, 0, none⟩ = some (.slice (some ⟨g, 0, none⟩) n2 c3) ∧ Below wf.heap.size wf w27 from ⟨(HQ.out _ (GF.out.trans (hb5.mono GF.out.size))).1, (HQ.out _ (GF.out.trans (hb5.mono GF.out.size))).2.1, (HQ.out _ (GF.out.trans (hb5.mono GF.out.size))).2.2, HQF.out _ hb5, hb5⟩); clear hb4 hb5)
          | (go_at_call 20; have T := refSameE_any (HSe.out _ (GF.out.trans (Below.mono (K27.out.2.2.2.2) GF.out.size))) (HSF.out _ (K27.out.2.2.2.2)) (show n2 ≤ 1000000 by omega); rw [HS2.out] at T; with_reducible refine Calls.mono T ?_; clear T; rintro e w28 ⟨rfl, hb4⟩; have hb5 := (show Below wf.heap.size wf w28 from (K27.out.2.2.2.2).trans (hb4.mono (K27.out.2.2.2.2).size)); have K28 := Lib.hid (show w28.cell? ⟨w.heap.size, 0, none⟩ = some (.slice A n c) ∧ w28.cell? ⟨w.heap.size + 1, 0, none⟩ = some (.slice A' n' c') ∧ w28.cell? ⟨w.heap.size + 1 + 1, 0, none⟩ = some (.slice A2 n2 c2) ∧ w28.cell? ⟨w10.heap.size, 0, none⟩ = some (.slice (some ⟨g, 0, none⟩) n2 c3) ∧ Below wf.heap.size wf w28 from ⟨(HQ.out _ (GF.out.trans (hb5.mono GF.out.size))).1, (HQ.out _ (GF.out.trans (hb5.mono GF.out.size))).2.1, (HQ.out _ (GF.out.trans (hb5.mono GF.out.size))).2.2, HQF.out _ hb5, hb5⟩); clear hb4 hb5)
          | fail)
      have GE := Lib.hid (GF.out.trans (Below.mono K28.out.2.2.2.2 GF.out.size))
      clear K21 K22 K23 K24 K25 K26 K27 K28 SQ5 SQ6 q0 q1 q2 q3 hb0
      go_wp2_with fail
      go_ret
      exact ⟨rfl, B0.out.trans (GE.out.mono B0.out.size)⟩
    · have d0 : decide (0 < (n2 : Int)) = false := by simpa using h0
      go_wp2_with fail
      obtain ⟨wf, hwf⟩ : ∃ wf, w11 = wf := ⟨_, rfl⟩
      obtain ⟨lf, hlf⟩ : ∃ lf, l2 = lf := ⟨_, rfl⟩
      have GF := Lib.hid (show Below w0.heap.size w0 wf by rw [← hwf]; exact G11.out)
      have HSF : Hid (∀ W, Below wf.heap.size wf W → SqC W W.heap.size A3 n2 c3 lf) := Lib.hid fun W hW => ((own_sq (l := lf) (by rw [← hwf, ← hlf]; exact HO11.out) ch_sz (by omega)).below hW).more hW.size
      have HQF : Hid (∀ W, Below wf.heap.size wf W → W.cell? ⟨w10.heap.size, 0, none⟩ = some (.slice A3 n2 c3)) := Lib.hid fun W hW => (Lies.below (by rw [← hwf]; exact F11.out) hW (by rw [← hwf]; exact F11.out.lt)).cell (j := 0) rfl
      rw [hwf]
      clear hwf hlf f0 HOW
      obtain ⟨s1, hs1⟩ : ∃ s1, sameL l l' = s1 := ⟨_, rfl⟩
      obtain ⟨s2, hs2⟩ : ∃ s2, sameE l2 lf = s2 := ⟨_, rfl⟩
      have HS1 := Lib.hid hs1
      have HS2 := Lib.hid hs2
      clear hs1 hs2
      have hb0 := Below.refl wf.heap.size wf
      obtain ⟨q0, q1, q2⟩ := HQ.out _ GF.out
      have q3 := HQF.out _ hb0
      have b1 : (s1 == s1) = true := by simp
      have b2 : (s2 == s2) = true := by simp
      go_region_held3 (fun w' => w'.cell? ⟨w.heap.size, 0, none⟩ = some (.slice A n c) ∧ w'.cell? ⟨w.heap.size + 1, 0, none⟩ = some (.slice A' n' c') ∧ w'.cell? ⟨w.heap.size + 1 + 1, 0, none⟩ = some (.slice A2 n2 c2) ∧ w'.cell? ⟨w10.heap.size, 0, none⟩ = some (.slice A3 n2 c3) ∧ Below wf.heap.size wf w')
        (first | exact ⟨q0, q1, q2, q3, hb0.drew⟩ | with_reducible exact K21.out | with_reducible exact K22.out | with_reducible exact K23.out | with_reducible exact K24.out | with_reducible exact K25.out | with_reducible exact K26.out | with_reducible exact K27.out | with_reducible exact K28.out | fail)
        (first
          | (go_at_call 17; have T := same_any (HSm.out _ (GF.out.trans (Below.mono (hb0.drew) GF.out.size))) (HSn.out _ (GF.out.trans (Below.mono (hb0.drew) GF.out.size))) (show n ≤ 1000000 by omega); rw [HS1.out] at T; with_reducible refine Calls.mono T ?_; clear T; rintro e w21 ⟨rfl, hb4⟩; have hb5 := (show Below wf.heap.size wf w21 from (hb0.drew).trans (hb4.mono (hb0.drew).size)); have K21 := Lib.hid (show w21.cell? ⟨w.heap.size, 0, none⟩ = some (.slice A n c) ∧ w21.cell? ⟨w.heap.size + 1, 0, none⟩ = some (.slice A' n' c') ∧ w21.cell? ⟨w.heap.size + 1 + 1, 0, none⟩ = some (.slice A2 n2 c2) ∧ w21.cell? ⟨w10.heap.size, 0, none⟩ = some (.slice A3 n2 c3) ∧ Below wf.heap.size wf w21 from ⟨(HQ.out _ (GF.out.trans (hb5.mono GF.out.size))).1, (HQ.out _ (GF.out.trans (hb5.mono GF.out.size))).2.1, (HQ.out _ (GF.out.trans (hb5.mono GF.out.size))).2.2, HQF.out _ hb5, hb5⟩); clear hb4 hb5)
          | (go_at_call 18; have T := refSame_any (HSm.out _ (GF.out.trans (Below.mono (K21.out.2.2.2.2) GF.out.size))) (HSn.out _ (GF.out.trans (Below.mono (K21.out.2.2.2.2) GF.out.size))) (show n ≤ 1000000 by omega); rw [HS1.out] at T; with_reducible refine Calls.mono T ?_; clear T; rintro e w22 ⟨rfl, hb4⟩; have hb5 := (show Below wf.heap.size wf w22 from (K21.out.2.2.2.2).trans (hb4.mono (K21.out.2.2.2.2).size)); have K22 := Lib.hid (show w22.cell? ⟨w.heap.size, 0, none⟩ = some (.slice A n c) ∧ w22.cell? ⟨w.heap.size + 1, 0, none⟩ = some (.slice A' n' c') ∧ w22.cell? ⟨w.heap.size + 1 + 1, 0, none⟩ = some (.slice A2 n2 c2) ∧ w22.cell? ⟨w10.heap.size, 0, none⟩ = some (.slice A3 n2 c3) ∧ Below wf.heap.size wf w22 from ⟨(HQ.out _ (GF.out.trans (hb5.mono GF.out.size))).1, (HQ.out _ (GF.out.trans (hb5.mono GF.out.size))).2.1, (HQ.out _ (GF.out.trans (hb5.mono GF.out.size))).2.2, HQF.out _ hb5, hb5⟩); clear hb4 hb5)
          | (go_at_call 12; have T := copied_any (HSm.out _ (GF.out.trans (Below.mono (K22.out.2.2.2.2) GF.out.size))) (show n ≤ 1000000 by omega); with_reducible refine Calls.mono T ?_; clear T; rintro e w23 ⟨A5, c5, rfl, hown5, hb4⟩; have hb5 := (show Below wf.heap.size wf w23 from (K22.out.2.2.2.2).trans (hb4.mono (K22.out.2.2.2.2).size)); have K23 := Lib.hid (show w23.cell? ⟨w.heap.size, 0, none⟩ = some (.slice A n c) ∧ w23.cell? ⟨w.heap.size + 1, 0, none⟩ = some (.slice A' n' c') ∧ w23.cell? ⟨w.heap.size + 1 + 1, 0, none⟩ = some (.slice A2 n2 c2) ∧ w23.cell? ⟨w10.heap.size, 0, none⟩ = some (.slice A3 n2 c3) ∧ Below wf.heap.size wf w23 from ⟨(HQ.out _ (GF.out.trans (hb5.mono GF.out.size))).1, (HQ.out _ (GF.out.trans (hb5.mono GF.out.size))).2.1, (HQ.out _ (GF.out.trans (hb5.mono GF.out.size))).2.2, HQF.out _ hb5, hb5⟩); have SQ5 := Lib.hid (own_sq hown5 rw_sz (by omega)); clear hb4 hb5)
          | (go_at_call 17; have T := same_any (HSm.out _ (GF.out.trans (Below.mono (K23.out.2.2.2.2) GF.out.size))) SQ5.out (show n ≤ 1000000 by omega); rw [sameL_self] at T; with_reducible refine Calls.mono T ?_; clear T; rintro e w24 ⟨rfl, hb4⟩; have hb5 := (show Below wf.heap.size wf w24 from (K23.out.2.2.2.2).trans (hb4.mono (K23.out.2.2.2.2).size)); have K24 := Lib.hid (show w24.cell? ⟨w.heap.size, 0, none⟩ = some (.slice A n c) ∧ w24.cell? ⟨w.heap.size + 1, 0, none⟩ = some (.slice A' n' c') ∧ w24.cell? ⟨w.heap.size + 1 + 1, 0, none⟩ = some (.slice A2 n2 c2) ∧ w24.cell? ⟨w10.heap.size, 0, none⟩ = some (.slice A3 n2 c3) ∧ Below wf.heap.size wf w24 from ⟨(HQ.out _ (GF.out.trans (hb5.mono GF.out.size))).1, (HQ.out _ (GF.out.trans (hb5.mono GF.out.size))).2.1, (HQ.out _ (GF.out.trans (hb5.mono GF.out.size))).2.2, HQF.out _ hb5, hb5⟩); clear hb4 hb5)
          | (go_at_call 14; have T := copiedE_any (HSe.out _ (GF.out.trans (Below.mono (K24.out.2.2.2.2) GF.out.size))) (show n2 ≤ 1000000 by omega); with_reducible refine Calls.mono T ?_; clear T; rintro e w25 ⟨A6, c6, rfl, hown5, hb4⟩; have hb5 := (show Below wf.heap.size wf w25 from (K24.out.2.2.2.2).trans (hb4.mono (K24.out.2.2.2.2).size)); have K25 := Lib.hid (show w25.cell? ⟨w.heap.size, 0, none⟩ = some (.slice A n c) ∧ w25.cell? ⟨w.heap.size + 1, 0, none⟩ = some (.slice A' n' c') ∧ w25.cell? ⟨w.heap.size + 1 + 1, 0, none⟩ = some (.slice A2 n2 c2) ∧ w25.cell? ⟨w10.heap.size, 0, none⟩ = some (.slice A3 n2 c3) ∧ Below wf.heap.size wf w25 from ⟨(HQ.out _ (GF.out.trans (hb5.mono GF.out.size))).1, (HQ.out _ (GF.out.trans (hb5.mono GF.out.size))).2.1, (HQ.out _ (GF.out.trans (hb5.mono GF.out.size))).2.2, HQF.out _ hb5, hb5⟩); have SQ6 := Lib.hid (own_sq hown5 ch_sz (by omega)); clear hb4 hb5)
          | (go_at_call 19; have T := sameE_any (HSe.out _ (GF.out.trans (Below.mono (K25.out.2.2.2.2) GF.out.size))) SQ6.out (show n2 ≤ 1000000 by omega); rw [sameE_self] at T; with_reducible refine Calls.mono T ?_; clear T; rintro e w26 ⟨rfl, hb4⟩; have hb5 := (show Below wf.heap.size wf w26 from (K25.out.2.2.2.2).trans (hb4.mono (K25.out.2.2.2.2).size)); have K26 := Lib.hid (show w26.cell? ⟨w.heap.size, 0, none⟩ = some (.slice A n c) ∧ w26.cell? ⟨w.heap.size + 1, 0, none⟩ = some (.slice A' n' c') ∧ w26.cell? ⟨w.heap.size + 1 + 1, 0, none⟩ = some (.slice A2 n2 c2) ∧ w26.cell? ⟨w10.heap.size, 0, none⟩ = some (.slice A3 n2 c3) ∧ Below wf.heap.size wf w26 from ⟨(HQ.out _ (GF.out.trans (hb5.mono GF.out.size))).1, (HQ.out _ (GF.out.trans (hb5.mono GF.out.size))).2.1, (HQ.out _ (GF.out.trans (hb5.mono GF.out.size))).2.2, HQF.out _ hb5, hb5⟩); clear hb4 hb5)
          | (go_at_call 19; have T := sameE_any (HSe.out _ (GF.out.trans (Below.mono (K26.out.2.2.2.2) GF.out.size))) (HSF.out _ (K26.out.2.2.2.2)) (show n2 ≤ 1000000 by omega); rw [HS2.out] at T; with_reducible refine Calls.mono T ?_; clear T; rintro e w27 ⟨rfl, hb4⟩; have hb5 := (show Below wf.heap.size wf w27 from (K26.out.2.2.2.2).trans (hb4.mono (K26.out.2.2.2.2).size)); have K27 := Lib.hid (show w27.cell? ⟨w.heap.size, 0, none⟩ = some (.slice A n c) ∧ w27.cell? ⟨w.heap.size + 1, 0, none⟩ = some (.slice A' n' c') ∧ w27.cell? ⟨w.heap.size + 1 + 1, 0, none⟩ = some (.slice A2 n2 c2) ∧ w27.cell? ⟨w10.heap.size, 0, none⟩ = some (.slice A3 n2 c3) ∧ Below wf.heap.size wf w27 from ⟨(HQ.out _ (GF.out.trans (hb5.mono GF.out.size))).1, (HQ.out _ (GF.out.trans (hb5.mono GF.out.size))).2.1, (HQ.out _ (GF.out.trans (hb5.mono GF.out.size))).2.2, HQF.out _ hb5, hb5⟩); clear hb4 hb5)
          | (go_at_call 20; have T := refSameE_any (HSe.out _ (GF.out.trans (Below.mono (K27.out.2.2.2.2) GF.out.size))) (HSF.out _ (K27.out.2.2.2.2)) (show n2 ≤ 1000000 by omega); rw [HS2.out] at T; with_reducible refine Calls.mono T ?_; clear T; rintro e w28 ⟨rfl, hb4⟩; have hb5 := (show Below wf.heap.size wf w28 from (K27.out.2.2.2.2).trans (hb4.mono (K27.out.2.2.2.2).size)); have K28 := Lib.hid (show w28.cell? ⟨w.heap.size, 0, none⟩ = some (.slice A n c) ∧ w28.cell? ⟨w.heap.size + 1, 0, none⟩ = some (.slice A' n' c') ∧ w28.cell? ⟨w.heap.size + 1 + 1, 0, none⟩ = some (.slice A2 n2 c2) ∧ w28.cell? ⟨w10.heap.size, 0, none⟩ = some (.slice A3 n2 c3) ∧ Below wf.heap.size wf w28 from ⟨(HQ.out _ (GF.out.trans (hb5.mono GF.out.size))).1, (HQ.out _ (GF.out.trans (hb5.mono GF.out.size))).2.1, (HQ.out _ (GF.out.trans (hb5.mono GF.out.size))).2.2, HQF.out _ hb5, hb5⟩); clear hb4 hb5)
          | fail)
      have GE := Lib.hid (GF.out.trans (Below.mono K28.out.2.2.2.2 GF.out.size))
      clear K21 K22 K23 K24 K25 K26 K27 K28 SQ5 SQ6 q0 q1 q2 q3 hb0
      go_wp2_with fail
      go_ret
      exact ⟨rfl, B0.out.trans (GE.out.mono B0.out.size)⟩
  · obtain rfl : ca = 0 := by have := HCA.out; simpa using this.symm
    obtain rfl : cb = 151 := by have := HCB.out; simpa using this.symm
    go_wp2_with fail
    refine (HRA.out _ G7.out).mono ?_
    rintro e w8 ⟨rfl, hb8⟩
    have G8 := Lib.hid (G7.out.trans (hb8.mono G7.out.size))
    clear hb8 q0 q1 q2
    obtain ⟨q0, q1, q2⟩ := HQ.out _ G8.out
    go_wp2_with fail
    refine (HRB.out _ G8.out).mono ?_
    rintro e w9 ⟨rfl, hb9⟩
    have G9 := Lib.hid (G8.out.trans (hb9.mono G8.out.size))
    clear hb9 q0 q1 q2
    obtain ⟨q0, q1, q2⟩ := HQ.out _ G9.out
    go_wp2_with fail
    refine (copiedE_any (HSe.out _ G9.out) (show n2 ≤ 1000000 by omega)).mono ?_
    rintro e w10 ⟨A3, c3, rfl, hown, hb10⟩
    have G10 := Lib.hid (G9.out.trans (hb10.mono G9.out.size))
    have HOW := Lib.hid hown
    clear hb10 hown q0 q1 q2
    obtain ⟨w11, hw11⟩ : ∃ w11, w10.alloc (.cells #[.slice A3 n2 c3] 27) = w11 := ⟨_, rfl⟩
    have F11 : Hid (Lies w11 w10.heap.size 1 [.slice A3 n2 c3]) := Lib.hid (by rw [← hw11]; exact Lies.new w10 [.slice A3 n2 c3] 27)
    have HO11 := Lib.hid (show w11.ownsRow w9.heap.size 38 3 (.slice A3 n2 c3) n2 (l2.flatMap Ch.cells) by rw [← hw11]; exact HOW.out.alloc _)
    have G11 := Lib.hid (show Below w0.heap.size w0 w11 by rw [← hw11]; exact G10.out.alloc G10.out.size _)
    have HW11 := Lib.hid hw11
    clear hw11
    go_upto_region 9 with fail
    rw [HW11.out]
    clear HW11
    have f0 := F11.out.cell (j := 0) rfl
    by_cases h0 : 0 < (n2 : Int)
    · have d0 : decide (0 < (n2 : Int)) = true := by simpa using h0
      obtain ⟨g, rfl, hg9⟩ : ∃ g, A3 = some ⟨g, 0, none⟩ ∧ w9.heap.size ≤ g := by
        rcases HOW.out.2 with ⟨e1, e2⟩ | ⟨g, cap, cur, e1, hb, _⟩
        · omega
        · injection e1 with e1 e2 e3
          exact ⟨g, e1, hb⟩
      have hg10 := (HOW.out.lt g rfl).2
      obtain ⟨⟨p, is, t⟩, rest, hr⟩ : ∃ r rest, l2 = r :: rest := List.exists_cons_of_length_pos (by omega)
      have q4 : w11.cell? ⟨g, 1, none⟩ = some (.bool is) := by
        have := HO11.out.cellAt 1 (by omega)
        rw [this, hr]
        rfl
      have z4 := HO11.out.frozenAt 1
      have HR := Lib.hid hr
      clear hr
      go_wp2_with fail
      refine wp_region_bar 8 8 (fun w' => w'.cell? ⟨w10.heap.size, 0, none⟩ = some (.slice (some ⟨g, 0, none⟩) n2 c3) ∧ w'.cell? ⟨g, 1, none⟩ = some (.bool is)) (by kernel_rfl) (by kernel_rfl) ⟨f0, q4⟩ ?_
      simp only [List.take_succ_cons, List.take_zero, List.drop_succ_cons, List.drop_zero, List.take_nil, List.drop_nil]
      refine ⟨_, .inl ⟨rfl, fun w' hw' => (by have hc1 := hw'.1; have hc2 := hw'.2; clear hw'; go_simp; (try rfl))⟩, ?_⟩
      refine ⟨_, .inl ⟨rfl, fun w' hw' => (by have hc1 := hw'.1; have hc2 := hw'.2; clear hw'; go_simp; (try rfl))⟩, ?_⟩
      refine ⟨_, .inl ⟨rfl, fun w' hw' => (by have hc1 := hw'.1; have hc2 := hw'.2; clear hw'; go_simp; (try rfl))⟩, ?_⟩
      refine ⟨_, .inl ⟨rfl, fun w' hw' => (by have hc1 := hw'.1; have hc2 := hw'.2; clear hw'; go_simp; (try rfl))⟩, ?_⟩
      refine ⟨_, .inl ⟨rfl, fun w' hw' => (by have hc1 := hw'.1; have hc2 := hw'.2; clear hw'; go_simp; (try rfl))⟩, ?_⟩
      refine ⟨_, .inl ⟨rfl, fun w' hw' => (by have hc1 := hw'.1; have hc2 := hw'.2; clear hw'; go_simp; (try rfl))⟩, ?_⟩
      refine ⟨_, .inl ⟨rfl, fun w' hw' => (by have hc1 := hw'.1; have hc2 := hw'.2; clear hw'; go_simp; (try rfl))⟩, ?_⟩
      refine ⟨_, .inl ⟨rfl, fun w' hw' => (by have hc1 := hw'.1; have hc2 := hw'.2; clear hw'; go_simp; (try rfl))⟩, ?_⟩
      rw [wpHead_nil, wpMid_nil]
      simp only [Act.put, List.setIfInBounds_toArray, List.set_cons_succ, List.set_cons_zero]
      go_wp2_with fail
      refine NoPanic.normal ?_
      obtain ⟨wf, hwf⟩ : ∃ wf, wf = (w11.setCell ⟨g, 1, none⟩ (.bool (!is))).drew := ⟨_, rfl⟩
      rw [← hwf]
      obtain ⟨lf, hlf⟩ : ∃ lf : List Ch, lf = ⟨p, !is, t⟩ :: rest := ⟨_, rfl⟩
      have HOF := Lib.hid (show wf.ownsRow w9.heap.size 38 3 (.slice (some ⟨g, 0, none⟩) n2 c3) n2 (lf.flatMap Ch.cells) by
        have := World.ownsRow.drew (HO11.out.stored 1 (.bool (!is))).1
        rw [HR.out] at this
        rw [hwf, hlf]
        exact this)
      have FF := Lib.hid (show Lies wf w10.heap.size 1 [.slice (some ⟨g, 0, none⟩) n2 c3] from F11.out.kp (by rw [hwf]; exact Below.heap_setCell w11 _ _ _ (by show w10.heap.size ≠ g; omega)) (by rw [hwf]; show _ ≤ (w11.setCell ⟨g, 1, none⟩ (.bool (!is))).heap.size; simp))
      have GF := Lib.hid (show Below w0.heap.size w0 wf by rw [hwf]; exact Below.drew (Below.setCell G11.out (p := ⟨g, 1, none⟩) (Nat.le_trans G9.out.size hg9) _))
      have HSF : Hid (∀ W, Below wf.heap.size wf W → SqC W W.heap.size (some ⟨g, 0, none⟩) n2 c3 lf) := Lib.hid fun W hW => ((own_sq HOF.out ch_sz (by omega)).below hW).more hW.size
      have HQF : Hid (∀ W, Below wf.heap.size wf W → W.cell? ⟨w10.heap.size, 0, none⟩ = some (.slice (some ⟨g, 0, none⟩) n2 c3)) := Lib.hid fun W hW => (FF.out.below hW FF.out.lt).cell (j := 0) rfl
      clear hwf hlf q4 z4 f0 hg9 hg10 HOW
      go_wp2_with fail
      obtain ⟨s1, hs1⟩ : ∃ s1, sameL l l' = s1 := ⟨_, rfl⟩
      obtain ⟨s2, hs2⟩ : ∃ s2, sameE l2 lf = s2 := ⟨_, rfl⟩
      have HS1 := Lib.hid hs1
      have HS2 := Lib.hid hs2
      clear hs1 hs2
      have hb0 := Below.refl wf.heap.size wf
      obtain ⟨q0, q1, q2⟩ := HQ.out _ GF.out
      have q3 := HQF.out _ hb0
      have b1 : (s1 == s1) = true := by simp
      have b2 : (s2 == s2) = true := by simp
      go_region_held3 (fun w' => w'.cell? ⟨w.heap.size, 0, none⟩ = some (.slice A n c) ∧ w'.cell? ⟨w.heap.size + 1, 0, none⟩ = some (.slice A' n' c') ∧ w'.cell? ⟨w.heap.size + 1 + 1, 0, none⟩ = some (.slice A2 n2 c2) ∧ w'.cell? ⟨w10.heap.size, 0, none⟩ = some (.slice (some ⟨g, 0, none⟩) n2 c3) ∧ Below wf.heap.size wf w')
        (first | exact ⟨q0, q1, q2, q3, hb0.drew⟩ | with_reducible exact K21.out | with_reducible exact K22.out | with_reducible exact K23.out | with_reducible exact K24.out | with_reducible exact K25.out | with_reducible exact K26.out | with_reducible exact K27.out | with_reducible exact K28.out | fail)
        (first
          | (go_at_call 17; have T := same_any (HSm.out _ (GF.out.trans (Below.mono (hb0.drew) GF.out.size))) (HSn.out _ (GF.out.trans (Below.mono (hb0.drew) GF.out.size))) (show n ≤ 1000000 by omega); rw [HS1.out] at T; with_reducible refine Calls.mono T ?_; clear T; rintro e w21 ⟨rfl, hb4⟩; have hb5 := (show Below wf.heap.size wf w21 from (hb0.drew).trans (hb4.mono (hb0.drew).size)); have K21 := Lib.hid (show w21.cell? ⟨w.heap.size, 0, none⟩ = some (.slice A n c) ∧ w21.cell? ⟨w.heap.size + 1, 0, none⟩ = some (.slice A' n' c') ∧ w21.cell? ⟨w.heap.size + 1 + 1, 0, none⟩ = some (.slice A2 n2 c2) ∧ w21.cell? ⟨w10.heap.size, 0, none⟩ = some (.slice (some ⟨g, 0, none⟩) n2 c3) ∧ Below wf.heap.size wf w21 from ⟨(HQ.out _ (GF.out.trans (hb5.mono GF.out.size))).1, (HQ.out _ (GF.out.trans (hb5.mono GF.out.size))).2.1, (HQ.out _ (GF.out.trans (hb5.mono GF.out.size))).2.2, HQF.out _ hb5, hb5⟩); clear hb4 hb5)
          | (go_at_call 18; have T := refSame_any (HSm.out _ (GF.out.trans (Below.mono (K21.out.2.2.2.2) GF.out.size))) (HSn.out _ (GF.out.trans (Below.mono (K21.out.2.2.2.2) GF.out.size))) (show n ≤ 1000000 by omega); rw [HS1.out] at T; with_reducible refine Calls.mono T ?_; clear T; rintro e w22 ⟨rfl, hb4⟩; have hb5 := (show Below wf.heap.size wf w22 from (K21.out.2.2.2.2).trans (hb4.mono (K21.out.2.2.2.2).size)); have K22 := Lib.hid (show w22.cell? ⟨w.heap.size, 0, none⟩ = some (.slice A n c) ∧ w22.cell? ⟨w.heap.size + 1, 0, none⟩ = some (.slice A' n' c') ∧ w22.cell? ⟨w.heap.size + 1 + 1, 0, none⟩ = some (.slice A2 n2 c2) ∧ w22.cell? ⟨w10.heap.size, 0, none⟩ = some (.slice (some ⟨g, 0, none⟩) n2 c3) ∧ Below wf.heap.size wf w22 from ⟨(HQ.out _ (GF.out.trans (hb5.mono GF.out.size))).1, (HQ.out _ (GF.out.trans (hb5.mono GF.out.size))).2.1, (HQ.out _ (GF.out.trans (hb5.mono GF.out.size))).2.2, HQF.out _ hb5, hb5⟩); clear hb4 hb5)
          | (go_at_call 12; have T := copied_any (HSm.out _ (GF.out.trans (Below.mono (K22.out.2.2.2.2) GF.out.size))) (show n ≤ 1000000 by omega); with_reducible refine Calls.mono T ?_; clear T; rintro e w23 ⟨A5, c5, rfl, hown5, hb4⟩; have hb5 := (show Below wf.heap.size wf w23 from (K22.out.2.2.2.2).trans (hb4.mono (K22.out.2.2.2.2).size)); have K23 := Lib.hid (show w23.cell? ⟨w.heap.size, 0, none⟩ = some (.slice A n c) ∧ w23.cell? ⟨w.heap.size + 1, 0, none⟩ = some (.slice A' n' c') ∧ w23.cell? ⟨w.heap.size + 1 + 1, 0, none⟩ = some (.slice A2 n2 c2) ∧ w23.cell? ⟨w10.heap.size, 0, none⟩ = some (.slice (some ⟨g, 0, none⟩) n2 c3) ∧ Below wf.heap.size wf w23 from ⟨(HQ.out _ (GF.out.trans (hb5.mono GF.out.size))).1, (HQ.out _ (GF.out.trans (hb5.mono GF.out.size))).2.1, (HQ.out _ (GF.out.trans (hb5.mono GF.out.size))).2.2, HQF.out _ hb5, hb5⟩); have SQ5 := Lib.hid (own_sq hown5 rw_sz (by omega)); clear hb4 hb5)
          | (go_at_call 17; have T := same_any (HSm.out _ (GF.out.trans (Below.mono (K23.out.2.2.2.2) GF.out.size))) SQ5.out (show n ≤ 1000000 by omega); rw [sameL_self] at T; with_reducible refine Calls.mono T ?_; clear T; rintro e w24 ⟨rfl, hb4⟩; have hb5 := (show Below wf.heap.size wf w24 from (K23.out.2.2.2.2).trans (hb4.mono (K23.out.2.2.2.2).size)); have K24 := Lib.hid (show w24.cell? ⟨w.heap.size, 0, none⟩ = some (.slice A n c) ∧ w24.cell? ⟨w.heap.size + 1, 0, none⟩ = some (.slice A' n' c') ∧ w24.cell? ⟨w.heap.size + 1 + 1, 0, none⟩ = some (.slice A2 n2 c2) ∧ w24.cell? ⟨w10.heap.size, 0, none⟩ = some (.slice (some ⟨g, 0, none⟩) n2 c3) ∧ Below wf.heap.size wf w24 from ⟨(HQ.out _ (GF.out.trans (hb5.mono GF.out.size))).1, (HQ.out _ (GF.out.trans (hb5.mono GF.out.size))).2.1, (HQ.out _ (GF.out.trans (hb5.mono GF.out.size))).2.2, HQF.out _ hb5, hb5⟩); clear hb4 hb5)
          | (go_at_call 14; have T := copiedE_any (HSe.out _ (GF.out.trans (Below.mono (K24.out.2.2.2.2) GF.out.size))) (show n2 ≤ 1000000 by omega); with_reducible refine Calls.mono T ?_; clear T; rintro e w25 ⟨A6, c6, rfl, hown5, hb4⟩; have hb5 := (show Below wf.heap.size wf w25 from (K24.out.2.2.2.2).trans (hb4.mono (K24.out.2.2.2.2).size)); have K25 := Lib.hid (show w25.cell? ⟨w.heap.size, 0, none⟩ = some (.slice A n c) ∧ w25.cell? ⟨w.heap.size + 1, 0, none⟩ = some (.slice A' n' c') ∧ w25.cell? ⟨w.heap.size + 1 + 1, 0, none⟩ = some (.slice A2 n2 c2) ∧ w25.cell? ⟨w10.heap.size, 0, none⟩ = some (.slice (some ⟨g, 0, none⟩) n2 c3) ∧ Below wf.heap.size wf w25 from ⟨(HQ.out _ (GF.out.trans (hb5.mono GF.out.size))).1, (HQ.out _ (GF.out.trans (hb5.mono GF.out.size))).2.1, (HQ.out _ (GF.out.trans (hb5.mono GF.out.size))).2.2, HQF.out _ hb5, hb5⟩); have SQ6 := Lib.hid (own_sq hown5 ch_sz (by omega)); clear hb4 hb5)
          | (go_at_call 19; have T := sameE_any (HSe.out _ (GF.out.trans (Below.mono (K25.out.2.2.2.2) GF.out.size))) SQ6.out (show n2 ≤ 1000000 by omega); rw [sameE_self] at T; with_reducible refine Calls.mono T ?_; clear T; rintro e w26 ⟨rfl, hb4⟩; have hb5 := (show Below wf.heap.size wf w26 from (K25.out.2.2.2.2).trans (hb4.mono (K25.out.2.2.2.2).size)); have K26 := Lib.hid (show w26.cell? ⟨w.heap.size, 0, none⟩ = some (.slice A n c) ∧ w26.cell? ⟨w.heap.size + 1, 0, none⟩ = some (.slice A' n' c') ∧ w26.cell? ⟨w.heap.size + 1 + 1, 0, none⟩ = some (.slice A2 n2 c2) ∧ w26.cell? ⟨w10.heap.size, 0, none⟩ = some (.slice (some ⟨g, 0, none⟩) n2 c3) ∧ Below wf.heap.size wf w26 from ⟨(HQ.out _ (GF.out.trans (hb5.mono GF.out.size))).1, (HQ.out _ (GF.out.trans (hb5.mono GF.out.size))).2.1, (HQ.out _ (GF.out.trans (hb5.mono GF.out.size))).2.2, HQF.out _ hb5, hb5⟩); clear hb4 hb5)
          | (go_at_call 19; have T := sameE_any (HSe.out _ (GF.out.trans (Below.mono (K26.out.2.2.2.2) GF.out.size))) (HSF.out _ (K26.out.2.2.2.2)) (show n2 ≤ 1000000 by omega); rw [HS2.out] at T; with_reducible refine Calls.mono T ?_; clear T; rintro e w27 ⟨rfl, hb4⟩; have hb5 := (show Below wf.heap.size wf w27 from (K26.out.2.2.2.2).trans (hb4.mono (K26.out.2.2.2.2).size)); have K27 := Lib.hid (show w27.cell? ⟨w.heap.size, 0, none⟩ = some (.slice A n c) ∧ w27.cell? ⟨w.heap.size + 1, 0, none⟩ = some (.slice A' n' c') ∧ w27.cell? ⟨w.heap.size + 1 + 1, 0, none⟩ = some (.slice A2 n2 c2) ∧ w27.cell? ⟨w10.heap.size, 0, none⟩ = some (.slice (some ⟨g, 0, none⟩) n2 c3) ∧ Below wf.heap.size wf w27 from ⟨(HQ.out _ (GF.out.trans (hb5.mono GF.out.size))).1, (HQ.out _ (GF.out.trans (hb5.mono GF.out.size))).2.1, (HQ.out _ (GF.out.trans (hb5.mono GF.out.size))).2.2, HQF.out _ hb5, hb5⟩); clear hb4 hb5)
          | (go_at_call 20; have T := refSameE_any (HSe.out _ (GF.out.trans (Below.mono (K27.out.2.2.2.2) GF.out.size))) (HSF.out _ (K27.out.2.2.2.2)) (show n2 ≤ 1000000 by omega); rw [HS2.out] at T; with_reducible refine Calls.mono T ?_; clear T; rintro e w28 ⟨rfl, hb4⟩; have hb5 := (show Below wf.heap.size wf w28 from (K27.out.2.2.2.2).trans (hb4.mono (K27.out.2.2.2.2).size)); have K28 := Lib.hid (show w28.cell? ⟨w.heap.size, 0, none⟩ = some (.slice A n c) ∧ w28.cell? ⟨w.heap.size + 1, 0, none⟩ = some (.slice A' n' c') ∧ w28.cell? ⟨w.heap.size + 1 + 1, 0, none⟩ = some (.slice A2 n2 c2) ∧ w28.cell? ⟨w10.heap.size, 0, none⟩ = some (.slice (some ⟨g, 0, none⟩) n2 c3) ∧ Below wf.heap.size wf w28 from ⟨(HQ.out _ (GF.out.trans (hb5.mono GF.out.size))).1, (HQ.out _ (GF.out.trans (hb5.mono GF.out.size))).2.1, (HQ.out _ (GF.out.trans (hb5.mono GF.out.size))).2.2, HQF.out _ hb5, hb5⟩); clear hb4 hb5)
          | fail)
      have GE := Lib.hid (GF.out.trans (Below.mono K28.out.2.2.2.2 GF.out.size))
      clear K21 K22 K23 K24 K25 K26 K27 K28 SQ5 SQ6 q0 q1 q2 q3 hb0
      go_wp2_with fail
      go_ret
      exact ⟨rfl, B0.out.trans (GE.out.mono B0.out.size)⟩
    · have d0 : decide (0 < (n2 : Int)) = false := by simpa using h0
      go_wp2_with fail
      obtain ⟨wf, hwf⟩ : ∃ wf, w11 = wf := ⟨_, rfl⟩
      obtain ⟨lf, hlf⟩ : ∃ lf, l2 = lf := ⟨_, rfl⟩
      have GF := Lib.hid (show Below w0.heap.size w0 wf by rw [← hwf]; exact G11.out)
      have HSF : Hid (∀ W, Below wf.heap.size wf W → SqC W W.heap.size A3 n2 c3 lf) := Lib.hid fun W hW => ((own_sq (l := lf) (by rw [← hwf, ← hlf]; exact HO11.out) ch_sz (by omega)).below hW).more hW.size
      have HQF : Hid (∀ W, Below wf.heap.size wf W → W.cell? ⟨w10.heap.size, 0, none⟩ = some (.slice A3 n2 c3)) := Lib.hid fun W hW => (Lies.below (by rw [← hwf]; exact F11.out) hW (by rw [← hwf]; exact F11.out.lt)).cell (j := 0) rfl
      rw [hwf]
      clear hwf hlf f0 HOW
      obtain ⟨s1, hs1⟩ : ∃ s1, sameL l l' = s1 := ⟨_, rfl⟩
      obtain ⟨s2, hs2⟩ : ∃ s2, sameE l2 lf = s2 := ⟨_, rfl⟩
      have HS1 := Lib.hid hs1
      have HS2 := Lib.hid hs2
      clear hs1 hs2
      have hb0 := Below.refl wf.heap.size wf
      obtain ⟨q0, q1, q2⟩ := HQ.out _ GF.out
      have q3 := HQF.out _ hb0
      have b1 : (s1 == s1) = true := by simp
      have b2 : (s2 == s2) = true := by simp
      go_region_held3 (fun w' => w'.cell? ⟨w.heap.size, 0, none⟩ = some (.slice A n c) ∧ w'.cell? ⟨w.heap.size + 1, 0, none⟩ = some (.slice A' n' c') ∧ w'.cell? ⟨w.heap.size + 1 + 1, 0, none⟩ = some (.slice A2 n2 c2) ∧ w'.cell? ⟨w10.heap.size, 0, none⟩ = some (.slice A3 n2 c3) ∧ Below wf.heap.size wf w')
        (first | exact ⟨q0, q1, q2, q3, hb0.drew⟩ | with_reducible exact K21.out | with_reducible exact K22.out | with_reducible exact K23.out | with_reducible exact K24.out | with_reducible exact K25.out | with_reducible exact K26.out | with_reducible exact K27.out | with_reducible exact K28.out | fail)
        (first
          | (go_at_call 17; have T := same_any (HSm.out _ (GF.out.trans (Below.mono (hb0.drew) GF.out.size))) (HSn.out _ (GF.out.trans (Below.mono (hb0.drew) GF.out.size))) (show n ≤ 1000000 by omega); rw [HS1.out] at T; with_reducible refine Calls.mono T ?_; clear T; rintro e w21 ⟨rfl, hb4⟩; have hb5 := (show Below wf.heap.size wf w21 from (hb0.drew).trans (hb4.mono (hb0.drew).size)); have K21 := Lib.hid (show w21.cell? ⟨w.heap.size, 0, none⟩ = some (.slice A n c) ∧ w21.cell? ⟨w.heap.size + 1, 0, none⟩ = some (.slice A' n' c') ∧ w21.cell? ⟨w.heap.size + 1 + 1, 0, none⟩ = some (.slice A2 n2 c2) ∧ w21.cell? ⟨w10.heap.size, 0, none⟩ = some (.slice A3 n2 c3) ∧ Below wf.heap.size wf w21 from ⟨(HQ.out _ (GF.out.trans (hb5.mono GF.out.size))).1, (HQ.out _ (GF.out.trans (hb5.mono GF.out.size))).2.1, (HQ.out _ (GF.out.trans (hb5.mono GF.out.size))).2.2, HQF.out _ hb5, hb5⟩); clear hb4 hb5)
          | (go_at_call 18; have T := refSame_any (HSm.out _ (GF.out.trans (Below.mono (K21.out.2.2.2.2) GF.out.size))) (HSn.out _ (GF.out.trans (Below.mono (K21.out.2.2.2.2) GF.out.size))) (show n ≤ 1000000 by omega); rw [HS1.out] at T; with_reducible refine Calls.mono T ?_; clear T; rintro e w22 ⟨rfl, hb4⟩; have hb5 := (show Below wf.heap.size wf w22 from (K21.out.2.2.2.2).trans (hb4.mono (K21.out.2.2.2.2).size)); have K22 := Lib.hid (show w22.cell? ⟨w.heap.size, 0, none⟩ = some (.slice A n c) ∧ w22.cell? ⟨w.heap.size + 1, 0, none⟩ = some (.slice A' n' c') ∧ w22.cell? ⟨w.heap.size + 1 + 1, 0, none⟩ = some (.slice A2 n2 c2) ∧ w22.cell? ⟨w10.heap.size, 0, none⟩ = some (.slice A3 n2 c3) ∧ Below wf.heap.size wf w22 from ⟨(HQ.out _ (GF.out.trans (hb5.mono GF.out.size))).1, (HQ.out _ (GF.out.trans (hb5.mono GF.out.size))).2.1, (HQ.out _ (GF.out.trans (hb5.mono GF.out.size))).2.2, HQF.out _ hb5, hb5⟩); clear hb4 hb5)
          | (go_at_call 12; have T := copied_any (HSm.out _ (GF.out.trans (Below.mono (K22.out.2.2.2.2) GF.out.size))) (show n ≤ 1000000 by omega); with_reducible refine Calls.mono T ?_; clear T; rintro e w23 ⟨A5, c5, rfl, hown5, hb4⟩; have hb5 := (show Below wf.heap.size wf w23 from (K22.out.2.2.2.2).trans (hb4.mono (K22.out.2.2.2.2).size)); have K23 := Lib.hid (show w23.cell? ⟨w.heap.size, 0, none⟩ = some (.slice A n c) ∧ w23.cell? ⟨w.heap.size + 1, 0, none⟩ = some (.slice A' n' c') ∧ w23.cell? ⟨w.heap.size + 1 + 1, 0, none⟩ = some (.slice A2 n2 c2) ∧ w23.cell? ⟨w10.heap.size, 0, none⟩ = some (.slice A3 n2 c3) ∧ Below wf.heap.size wf w23 from ⟨(HQ.out _ (GF.out.trans (hb5.mono GF.out.size))).1, (HQ.out _ (GF.out.trans (hb5.mono GF.out.size))).2.1, (HQ.out _ (GF.out.trans (hb5.mono GF.out.size))).2.2, HQF.out _ hb5, hb5⟩); have SQ5 := Lib.hid (own_sq hown5 rw_sz (by omega)); clear hb4 hb5)
          | (go_at_call 17; have T := same_any (HSm.out _ (GF.out.trans (Below.mono (K23.out.2.2.2.2) GF.out.size))) SQ5.out (show n ≤ 1000000 by omega); rw [sameL_self] at T; with_reducible refine Calls.mono T ?_; clear T; rintro e w24 ⟨rfl, hb4⟩; have hb5 := (show Below wf.heap.size wf w24 from (K23.out.2.2.2.2).trans (hb4.mono (K23.out.2.2.2.2).size)); have K24 := Lib.hid (show w24.cell? ⟨w.heap.size, 0, none⟩ = some (.slice A n c) ∧ w24.cell? ⟨w.heap.size + 1, 0, none⟩ = some (.slice A' n' c') ∧ w24.cell? ⟨w.heap.size + 1 + 1, 0, none⟩ = some (.slice A2 n2 c2) ∧ w24.cell? ⟨w10.heap.size, 0, none⟩ = some (.slice A3 n2 c3) ∧ Below wf.heap.size wf w24 from ⟨(HQ.out _ (GF.out.trans (hb5.mono GF.out.size))).1, (HQ.out _ (GF.out.trans (hb5.mono GF.out.size))).2.1, (HQ.out _ (GF.out.trans (hb5.mono GF.out.size))).2.2, HQF.out _ hb5, hb5⟩); clear hb4 hb5)
          | (go_at_call 14; have T := copiedE_any (HSe.out _ (GF.out.trans (Below.mono (K24.out.2.2.2.2) GF.out.size))) (show n2 ≤ 1000000 by omega); with_reducible refine Calls.mono T ?_; clear T; rintro e w25 ⟨A6, c6, rfl, hown5, hb4⟩; have hb5 := (show Below wf.heap.size wf w25 from (K24.out.2.2.2.2).trans (hb4.mono (K24.out.2.2.2.2).size)); have K25 := Lib.hid (show w25.cell? ⟨w.heap.size, 0, none⟩ = some (.slice A n c) ∧ w25.cell? ⟨w.heap.size + 1, 0, none⟩ = some (.slice A' n' c') ∧ w25.cell? ⟨w.heap.size + 1 + 1, 0, none⟩ = some (.slice A2 n2 c2) ∧ w25.cell? ⟨w10.heap.size, 0, none⟩ = some (.slice A3 n2 c3) ∧ Below wf.heap.size wf w25 from ⟨(HQ.out _ (GF.out.trans (hb5.mono GF.out.size))).1, (HQ.out _ (GF.out.trans (hb5.mono GF.out.size))).2.1, (HQ.out _ (GF.out.trans (hb5.mono GF.out.size))).2.2, HQF.out _ hb5, hb5⟩); have SQ6 := Lib.hid (own_sq hown5 ch_sz (by omega)); clear hb4 hb5)
          | (go_at_call 19; have T := sameE_any (HSe.out _ (GF.out.trans (Below.mono (K25.out.2.2.2.2) GF.out.size))) SQ6.out (show n2 ≤ 1000000 by omega); rw [sameE_self] at T; with_reducible refine Calls.mono T ?_; clear T; rintro e w26 ⟨rfl, hb4⟩; have hb5 := (show Below wf.heap.size wf w26 from (K25.out.2.2.2.2).trans (hb4.mono (K25.out.2.2.2.2).size)); have K26 := Lib.hid (show w26.cell? ⟨w.heap.size, 0, none⟩ = some (.slice A n c) ∧ w26.cell? ⟨w.heap.size + 1, 0, none⟩ = some (.slice A' n' c') ∧ w26.cell? ⟨w.heap.size + 1 + 1, 0, none⟩ = some (.slice A2 n2 c2) ∧ w26.cell? ⟨w10.heap.size, 0, none⟩ = some (.slice A3 n2 c3) ∧ Below wf.heap.size wf w26 from ⟨(HQ.out _ (GF.out.trans (hb5.mono GF.out.size))).1, (HQ.out _ (GF.out.trans (hb5.mono GF.out.size))).2.1, (HQ.out _ (GF.out.trans (hb5.mono GF.out.size))).2.2, HQF.out _ hb5, hb5⟩); clear hb4 hb5)
          | (go_at_call 19; have T := sameE_any (HSe.out _ (GF.out.trans (Below.mono (K26.out.2.2.2.2) GF.out.size))) (HSF.out _ (K26.out.2.2.2.2)) (show n2 ≤ 1000000 by omega); rw [HS2.out] at T; with_reducible refine Calls.mono T ?_; clear T; rintro e w27 ⟨rfl, hb4⟩; have hb5 := (show Below wf.heap.size wf w27 from (K26.out.2.2.2.2).trans (hb4.mono (K26.out.2.2.2.2).size)); have K27 := Lib.hid (show w27.cell? ⟨w.heap.size, 0, none⟩ = some (.slice A n c) ∧ w27.cell? ⟨w.heap.size + 1, 0, none⟩ = some (.slice A' n' c') ∧ w27.cell? ⟨w.heap.size + 1 + 1, 0, none⟩ = some (.slice A2 n2 c2) ∧ w27.cell? ⟨w10.heap.size, 0, none⟩ = some (.slice A3 n2 c3) ∧ Below wf.heap.size wf w27 from ⟨(HQ.out _ (GF.out.trans (hb5.mono GF.out.size))).1, (HQ.out _ (GF.out.trans (hb5.mono GF.out.size))).2.1, (HQ.out _ (GF.out.trans (hb5.mono GF.out.size))).2.2, HQF.out _ hb5, hb5⟩); clear hb4 hb5)
          | (go_at_call 20; have T := refSameE_any (HSe.out _ (GF.out.trans (Below.mono (K27.out.2.2.2.2) GF.out.size))) (HSF.out _ (K27.out.2.2.2.2)) (show n2 ≤ 1000000 by omega); rw [HS2.out] at T; with_reducible refine Calls.mono T ?_; clear T; rintro e w28 ⟨rfl, hb4⟩; have hb5 := (show Below wf.heap.size wf w28 from (K27.out.2.2.2.2).trans (hb4.mono (K27.out.2.2.2.2).size)); have K28 := Lib.hid (show w28.cell? ⟨w.heap.size, 0, none⟩ = some (.slice A n c) ∧ w28.cell? ⟨w.heap.size + 1, 0, none⟩ = some (.slice A' n' c') ∧ w28.cell? ⟨w.heap.size + 1 + 1, 0, none⟩ = some (.slice A2 n2 c2) ∧ w28.cell? ⟨w10.heap.size, 0, none⟩ = some (.slice A3 n2 c3) ∧ Below wf.heap.size wf w28 from ⟨(HQ.out _ (GF.out.trans (hb5.mono GF.out.size))).1, (HQ.out _ (GF.out.trans (hb5.mono GF.out.size))).2.1, (HQ.out _ (GF.out.trans (hb5.mono GF.out.size))).2.2, HQF.out _ hb5, hb5⟩); clear hb4 hb5)
          | fail)
      have GE := Lib.hid (GF.out.trans (Below.mono K28.out.2.2.2.2 GF.out.size))
      clear K21 K22 K23 K24 K25 K26 K27 K28 SQ5 SQ6 q0 q1 q2 q3 hb0
      go_wp2_with fail
      go_ret
      exact ⟨rfl, B0.out.trans (GE.out.mono B0.out.size)⟩
  · obtain rfl : ca = 0 := by have := HCA.out; simpa using this.symm
    obtain rfl : cb = 0 := by have := HCB.out; simpa using this.symm
    go_wp2_with fail
    refine (HRA.out _ G7.out).mono ?_
    rintro e w8 ⟨rfl, hb8⟩
    have G8 := Lib.hid (G7.out.trans (hb8.mono G7.out.size))
    clear hb8 q0 q1 q2
    obtain ⟨q0, q1, q2⟩ := HQ.out _ G8.out
    go_wp2_with fail
    refine (HRB.out _ G8.out).mono ?_
    rintro e w9 ⟨rfl, hb9⟩
    have G9 := Lib.hid (G8.out.trans (hb9.mono G8.out.size))
    clear hb9 q0 q1 q2
    obtain ⟨q0, q1, q2⟩ := HQ.out _ G9.out
    go_wp2_with fail
    refine (copiedE_any (HSe.out _ G9.out) (show n2 ≤ 1000000 by omega)).mono ?_
    rintro e w10 ⟨A3, c3, rfl, hown, hb10⟩
    have G10 := Lib.hid (G9.out.trans (hb10.mono G9.out.size))
    have HOW := Lib.hid hown
    clear hb10 hown q0 q1 q2
    obtain ⟨w11, hw11⟩ : ∃ w11, w10.alloc (.cells #[.slice A3 n2 c3] 27) = w11 := ⟨_, rfl⟩
    have F11 : Hid (Lies w11 w10.heap.size 1 [.slice A3 n2 c3]) := Lib.hid (by rw [← hw11]; exact Lies.new w10 [.slice A3 n2 c3] 27)
    have HO11 := Lib.hid (show w11.ownsRow w9.heap.size 38 3 (.slice A3 n2 c3) n2 (l2.flatMap Ch.cells) by rw [← hw11]; exact HOW.out.alloc _)
    have G11 := Lib.hid (show Below w0.heap.size w0 w11 by rw [← hw11]; exact G10.out.alloc G10.out.size _)
    have HW11 := Lib.hid hw11
    clear hw11
    go_upto_region 9 with fail
    rw [HW11.out]
    clear HW11
    have f0 := F11.out.cell (j := 0) rfl
    by_cases h0 : 0 < (n2 : Int)
    · have d0 : decide (0 < (n2 : Int)) = true := by simpa using h0
      obtain ⟨g, rfl, hg9⟩ : ∃ g, A3 = some ⟨g, 0, none⟩ ∧ w9.heap.size ≤ g := by
        rcases HOW.out.2 with ⟨e1, e2⟩ | ⟨g, cap, cur, e1, hb, _⟩
        · omega
        · injection e1 with e1 e2 e3
          exact ⟨g, e1, hb⟩
      have hg10 := (HOW.out.lt g rfl).2
      obtain ⟨⟨p, is, t⟩, rest, hr⟩ : ∃ r rest, l2 = r :: rest := List.exists_cons_of_length_pos (by omega)
      have q4 : w11.cell? ⟨g, 1, none⟩ = some (.bool is) := by
        have := HO11.out.cellAt 1 (by omega)
        rw [this, hr]
        rfl
      have z4 := HO11.out.frozenAt 1
      have HR := Lib.hid hr
      clear hr
      go_wp2_with fail
      refine wp_region_bar 8 8 (fun w' => w'.cell? ⟨w10.heap.size, 0, none⟩ = some (.slice (some ⟨g, 0, none⟩) n2 c3) ∧ w'.cell? ⟨g, 1, none⟩ = some (.bool is)) (by kernel_rfl) (by kernel_rfl) ⟨f0, q4⟩ ?_
      simp only [List.take_succ_cons, List.take_zero, List.drop_succ_cons, List.drop_zero, List.take_nil, List.drop_nil]
      refine ⟨_, .inl ⟨rfl, fun w' hw' => (by have hc1 := hw'.1; have hc2 := hw'.2; clear hw'; go_simp; (try rfl))⟩, ?_⟩
      refine ⟨_, .inl ⟨rfl, fun w' hw' => (by have hc1 := hw'.1; have hc2 := hw'.2; clear hw'; go_simp; (try rfl))⟩, ?_⟩
      refine ⟨_, .inl ⟨rfl, fun w' hw' => (by have hc1 := hw'.1; have hc2 := hw'.2; clear hw'; go_simp; (try rfl))⟩, ?_⟩
      refine ⟨_, .inl ⟨rfl, fun w' hw' => (by have hc1 := hw'.1; have hc2 := hw'.2; clear hw'; go_simp; (try rfl))⟩, ?_⟩
      refine ⟨_, .inl ⟨rfl, fun w' hw' => (by have hc1 := hw'.1; have hc2 := hw'.2; clear hw'; go_simp; (try rfl))⟩, ?_⟩
      refine ⟨_, .inl ⟨rfl, fun w' hw' => (by have hc1 := hw'.1; have hc2 := hw'.2; clear hw'; go_simp; (try rfl))⟩, ?_⟩
      refine ⟨_, .inl ⟨rfl, fun w' hw' => (by have hc1 := hw'.1; have hc2 := hw'.2; clear hw'; go_simp; (try rfl))⟩, ?_⟩
      refine ⟨_, .inl ⟨rfl, fun w' hw' => (by have hc1 := hw'.1; have hc2 := hw'.2; clear hw'; go_simp; (try rfl))⟩, ?_⟩
      rw [wpHead_nil, wpMid_nil]
      simp only [Act.put, List.setIfInBounds_toArray, List.set_cons_succ, List.set_cons_zero]
      go_wp2_with fail
      refine NoPanic.normal ?_
      obtain ⟨wf, hwf⟩ : ∃ wf, wf = (w11.setCell ⟨g, 1, none⟩ (.bool (!is))).drew := ⟨_, rfl⟩
      rw [← hwf]
      obtain ⟨lf, hlf⟩ : ∃ lf : List Ch, lf = ⟨p, !is, t⟩ :: rest := ⟨_, rfl⟩
      have HOF := Lib.hid (show wf.ownsRow w9.heap.size 38 3 (.slice (some ⟨g, 0, none⟩) n2 c3) n2 (lf.flatMap Ch.cells) by
        have := World.ownsRow.drew (HO11.out.stored 1 (.bool (!is))).1
        rw [HR.out] at this
        rw [hwf, hlf]
        exact this)
      have FF := Lib.hid (show Lies wf w10.heap.size 1 [.slice (some ⟨g, 0, none⟩) n2 c3] from F11.out.kp (by rw [hwf]; exact Below.heap_setCell w11 _ _ _ (by show w10.heap.size ≠ g; omega)) (by rw [hwf]; show _ ≤ (w11.setCell ⟨g, 1, none⟩ (.bool (!is))).heap.size; simp))
      have GF := Lib.hid (show Below w0.heap.size w0 wf by rw [hwf]; exact Below.drew (Below.setCell G11.out (p := ⟨g, 1, none⟩) (Nat.le_trans G9.out.size hg9) _))
      have HSF : Hid (∀ W, Below wf.heap.size wf W → SqC W W.heap.size (some ⟨g, 0, none⟩) n2 c3 lf) := Lib.hid fun W hW => ((own_sq HOF.out ch_sz (by omega)).below hW).more hW.size
      have HQF : Hid (∀ W, Below wf.heap.size wf W → W.cell? ⟨w10.heap.size, 0, none⟩ = some (.slice (some ⟨g, 0, none⟩) n2 c3)) := Lib.hid fun W hW => (FF.out.below hW FF.out.lt).cell (j := 0) rfl
      clear hwf hlf q4 z4 f0 hg9 hg10 HOW
      go_wp2_with fail
      obtain ⟨s1, hs1⟩ : ∃ s1, sameL l l' = s1 := ⟨_, rfl⟩
      obtain ⟨s2, hs2⟩ : ∃ s2, sameE l2 lf = s2 := ⟨_, rfl⟩
      have HS1 := Lib.hid hs1
      have HS2 := Lib.hid hs2
      clear hs1 hs2
      have hb0 := Below.refl wf.heap.size wf
      obtain ⟨q0, q1, q2⟩ := HQ.out _ GF.out
      have q3 := HQF.out _ hb0
      have b1 : (s1 == s1) = true := by simp
      have b2 : (s2 == s2) = true := by simp
      go_region_held3 (fun w' => w'.cell? ⟨w.heap.size, 0, none⟩ = some (.slice A n c) ∧ w'.cell? ⟨w.heap.size + 1, 0, none⟩ = some (.slice A' n' c') ∧ w'.cell? ⟨w.heap.size + 1 + 1, 0, none⟩ = some (.slice A2 n2 c2) ∧ w'.cell? ⟨w10.heap.size, 0, none⟩ = some (.slice (some ⟨g, 0, none⟩) n2 c3) ∧ Below wf.heap.size wf w')
        (first | exact ⟨q0, q1, q2, q3, hb0.drew⟩ | with_reducible exact K21.out | with_reducible exact K22.out | with_reducible exact K23.out | with_reducible exact K24.out | with_reducible exact K25.out | with_reducible exact K26.out | with_reducible exact K27.out | with_reducible exact K28.out | fail)
        (first
          | (go_at_call 17; have T := same_any (HSm.out _ (GF.out.trans (Below.mono (hb0.drew) GF.out.size))) (HSn.out _ (GF.out.trans (Below.mono (hb0.drew) GF.out.size))) (show n ≤ 1000000 by omega); rw [HS1.out] at T; with_reducible refine Calls.mono T ?_; clear T; rintro e w21 ⟨rfl, hb4⟩; have hb5 := (show Below wf.heap.size wf w21 from (hb0.drew).trans (hb4.mono (hb0.drew).size)); have K21 := Lib.hid (show w21.cell? ⟨w.heap.size, 0, none⟩ = some (.slice A n c) ∧ w21.cell? ⟨w.heap.size + 1, 0, none⟩ = some (.slice A' n' c') ∧ w21.cell? ⟨w.heap.size + 1 + 1, 0, none⟩ = some (.slice A2 n2 c2) ∧ w21.cell? ⟨w10.heap.size, 0, none⟩ = some (.slice (some ⟨g, 0, none⟩) n2 c3) ∧ Below wf.heap.size wf w21 from ⟨(HQ.out _ (GF.out.trans (hb5.mono GF.out.size))).1, (HQ.out _ (GF.out.trans (hb5.mono GF.out.size))).2.1, (HQ.out _ (GF.out.trans (hb5.mono GF.out.size))).2.2, HQF.out _ hb5, hb5⟩); clear hb4 hb5)
          | (go_at_call 18; have T := refSame_any (HSm.out _ (GF.out.trans (Below.mono (K21.out.2.2.2.2) GF.out.size))) (HSn.out _ (GF.out.trans (Below.mono (K21.out.2.2.2.2) GF.out.size))) (show n ≤ 1000000 by omega); rw [HS1.out] at T; with_reducible refine Calls.mono T ?_; clear T; rintro e w22 ⟨rfl, hb4⟩; have hb5 := (show Below wf.heap.size wf w22 from (K21.out.2.2.2.2).trans (hb4.mono (K21.out.2.2.2.2).size)); have K22 := Lib.hid (show w22.cell? ⟨w.heap.size, 0, none⟩ = some (.slice A n c) ∧ w22.cell? ⟨w.heap.size + 1, 0, none⟩ = some (.slice A' n' c') ∧ w22.cell? ⟨w.heap.size + 1 + 1, 0, none⟩ = some (.slice A2 n2 c2) ∧ w22.cell? ⟨w10.heap.size, 0, none⟩ = some (.slice (some ⟨g, 0, none⟩) n2 c3) ∧ Below wf.heap.size wf w22 from ⟨(HQ.out _ (GF.out.trans (hb5.mono GF.out.size))).1, (HQ.out _ (GF.out.trans (hb5.mono GF.out.size))).2.1, (HQ.out _ (GF.out.trans (hb5.mono GF.out.size))).2.2, HQF.out _ hb5, hb5⟩); clear hb4 hb5)
          | (go_at_call 12; have T := copied_any (HSm.out _ (GF.out.trans (Below.mono (K22.out.2.2.2.2) GF.out.size))) (show n ≤ 1000000 by omega); with_reducible refine Calls.mono T ?_; clear T; rintro e w23 ⟨A5, c5, rfl, hown5, hb4⟩; have hb5 := (show Below wf.heap.size wf w23 from (K22.out.2.2.2.2).trans (hb4.mono (K22.out.2.2.2.2).size)); have K23 := Lib.hid (show w23.cell? ⟨w.heap.size, 0, none⟩ = some (.slice A n c) ∧ w23.cell? ⟨w.heap.size + 1, 0, none⟩ = some (.slice A' n' c') ∧ w23.cell? ⟨w.heap.size + 1 + 1, 0, none⟩ = some (.slice A2 n2 c2) ∧ w23.cell? ⟨w10.heap.size, 0, none⟩ = some (.slice (some ⟨g, 0, none⟩) n2 c3) ∧ Below wf.heap.size wf w23 from ⟨(HQ.out _ (GF.out.trans (hb5.mono GF.out.size))).1, (HQ.out _ (GF.out.trans (hb5.mono GF.out.size))).2.1, (HQ.out _ (GF.out.trans (hb5.mono GF.out.size))).2.2, HQF.out _ hb5, hb5⟩); have SQ5 := Lib.hid (own_sq hown5 rw_sz (by omega)); clear hb4 hb5)
          | (go_at_call 17; have T := same_any (HSm.out _ (GF.out.trans (Below.mono (K23.out.2.2.2.2) GF.out.size))) SQ5.out (show n ≤ 1000000 by omega); rw [sameL_self] at T; with_reducible refine Calls.mono T ?_; clear T; rintro e w24 ⟨rfl, hb4⟩; have hb5 := (show Below wf.heap.size wf w24 from (K23.out.2.2.2.2).trans (hb4.mono (K23.out.2.2.2.2).size)); have K24 := Lib.hid (show w24.cell? ⟨w.heap.size, 0, none⟩ = some (.slice A n c) ∧ w24.cell? ⟨w.heap.size + 1, 0, none⟩ = some (.slice A' n' c') ∧ w24.cell? ⟨w.heap.size + 1 + 1, 0, none⟩ = some (.slice A2 n2 c2) ∧ w24.cell? ⟨w10.heap.size, 0, none⟩ = some (.slice (some ⟨g, 0, none⟩) n2 c3) ∧ Below wf.heap.size wf w24 from ⟨(HQ.out _ (GF.out.trans (hb5.mono GF.out.size))).1, (HQ.out _ (GF.out.trans (hb5.mono GF.out.size))).2.1, (HQ.out _ (GF.out.trans (hb5.mono GF.out.size))).2.2, HQF.out _ hb5, hb5⟩); clear hb4 hb5)
          | (go_at_call 14; have T := copiedE_any (HSe.out _ (GF.out.trans (Below.mono (K24.out.2.2.2.2) GF.out.size))) (show n2 ≤ 1000000 by omega); with_reducible refine Calls.mono T ?_; clear T; rintro e w25 ⟨A6, c6, rfl, hown5, hb4⟩; have hb5 := (show Below wf.heap.size wf w25 from (K24.out.2.2.2.2).trans (hb4.mono (K24.out.2.2.2.2).size)); have K25 := Lib.hid (show w25.cell? ⟨w.heap.size, 0, none⟩ = some (.slice A n c) ∧ w25.cell? ⟨w.heap.size + 1, 0, none⟩ = some (.slice A' n' c') ∧ w25.cell? ⟨w.heap.size + 1 + 1, 0, none⟩ = some (.slice A2 n2 c2) ∧ w25.cell? ⟨w10.heap.size, 0, none⟩ = some (.slice (some ⟨g, 0, none⟩) n2 c3) ∧ Below wf.heap.size wf w25 from ⟨(HQ.out _ (GF.out.trans (hb5.mono GF.out.size))).1, (HQ.out _ (GF.out.trans (hb5.mono GF.out.size))).2.1, (HQ.out _ (GF.out.trans (hb5.mono GF.out.size))).2.2, HQF.out _ hb5, hb5⟩); have SQ6 := Lib.hid (own_sq hown5 ch_sz (by omega)); clear hb4 hb5)
          | (go_at_call 19; have T := sameE_any (HSe.out _ (GF.out.trans (Below.mono (K25.out.2.2.2.2) GF.out.size))) SQ6.out (show n2 ≤ 1000000 by omega); rw [sameE_self] at T; with_reducible refine Calls.mono T ?_; clear T; rintro e w26 ⟨rfl, hb4⟩; have hb5 := (show Below wf.heap.size wf w26 from (K25.out.2.2.2.2).trans (hb4.mono (K25.out.2.2.2.2).size)); have K26 := Lib.hid (show w26.cell? ⟨w.heap.size, 0, none⟩ = some (.slice A n c) ∧ w26.cell? ⟨w.heap.size + 1, 0, none⟩ = some (.slice A' n' c') ∧ w26.cell? ⟨w.heap.size + 1 + 1, 0, none⟩ = some (.slice A2 n2 c2) ∧ w26.cell? ⟨w10.heap.size, 0, none⟩ = some (.slice (some ⟨g, 0, none⟩) n2 c3) ∧ Below wf.heap.size wf w26 from ⟨(HQ.out _ (GF.out.trans (hb5.mono GF.out.size))).1, (HQ.out _ (GF.out.trans (hb5.mono GF.out.size))).2.1, (HQ.out _ (GF.out.trans (hb5.mono GF.out.size))).2.2, HQF.out _ hb5, hb5⟩); clear hb4 hb5)
          | (go_at_call 19; have T := sameE_any (HSe.out _ (GF.out.trans (Below.mono (K26.out.2.2.2.2) GF.out.size))) (HSF.out _ (K26.out.2.2.2.2)) (show n2 ≤ 1000000 by omega); rw [HS2.out] at T; with_reducible refine Calls.mono T ?_; clear T; rintro e w27 ⟨rfl, hb4⟩; have hb5 := (show Below wf.heap.size wf w27 from (K26.out.2.2.2.2).trans (hb4.mono (K26.out.2.2.2.2).size)); have K27 := Lib.hid (show w27.cell? ⟨w.heap.size, 0, none⟩ = some (.slice A n c) ∧ w27.cell? ⟨w.heap.size + 1, 0, none⟩ = some (.slice A' n' c') ∧ w27.cell? ⟨w.heap.size + 1 + 1, 0, none⟩ = some (.slice A2 n2 c2) ∧ w27.cell? ⟨w10.heap.size, 0, none⟩ = some (.slice (some ⟨g, 0, none⟩) n2 c3) ∧ Below wf.heap.size wf w27 from ⟨(HQ.out _ (GF.out.trans (hb5.mono GF.out.size))).1, (HQ.out _ (GF.out.trans (hb5.mono GF.out.size))).2.1, (HQ.out _ (GF.out.trans (hb5.mono GF.out.size))).2.2, HQF.out _ hb5, hb5⟩); clear hb4 hb5)
          | (go_at_call 20; have T := refSameE_any (HSe.out _ (GF.out.trans (Below.mono (K27.out.2.2.2.2) GF.out.size))) (HSF.out _ (K27.out.2.2.2.2)) (show n2 ≤ 1000000 by omega); rw [HS2.out] at T; with_reducible refine Calls.mono T ?_; clear T; rintro e w28 ⟨rfl, hb4⟩; have hb5 := (show Below wf.heap.size wf w28 from (K27.out.2.2.2.2).trans (hb4.mono (K27.out.2.2.2.2).size)); have K28 := Lib.hid (show w28.cell? ⟨w.heap.size, 0, none⟩ = some (.slice A n c) ∧ w28.cell? ⟨w.heap.size + 1, 0, none⟩ = some (.slice A' n' c') ∧ w28.cell? ⟨w.heap.size + 1 + 1, 0, none⟩ = some (.slice A2 n2 c2) ∧ w28.cell? ⟨w10.heap.size, 0, none⟩ = some (.slice (some ⟨g, 0, none⟩) n2 c3) ∧ Below wf.heap.size wf w28 from ⟨(HQ.out _ (GF.out.trans (hb5.mono GF.out.size))).1, (HQ.out _ (GF.out.trans (hb5.mono GF.out.size))).2.1, (HQ.out _ (GF.out.trans (hb5.mono GF.out.size))).2.2, HQF.out _ hb5, hb5⟩); clear hb4 hb5)
          | fail)
      have GE := Lib.hid (GF.out.trans (Below.mono K28.out.2.2.2.2 GF.out.size))
      clear K21 K22 K23 K24 K25 K26 K27 K28 SQ5 SQ6 q0 q1 q2 q3 hb0
      go_wp2_with fail
      go_ret
      exact ⟨rfl, B0.out.trans (GE.out.mono B0.out.size)⟩
    · have d0 : decide (0 < (n2 : Int)) = false := by simpa using h0
      go_wp2_with fail
      obtain ⟨wf, hwf⟩ : ∃ wf, w11 = wf := ⟨_, rfl⟩
      obtain ⟨lf, hlf⟩ : ∃ lf, l2 = lf := ⟨_, rfl⟩
      have GF := Lib.hid (show Below w0.heap.size w0 wf by rw [← hwf]; exact G11.out)
      have HSF : Hid (∀ W, Below wf.heap.size wf W → SqC W W.heap.size A3 n2 c3 lf) := Lib.hid fun W hW => ((own_sq (l := lf) (by rw [← hwf, ← hlf]; exact HO11.out) ch_sz (by omega)).below hW).more hW.size
      have HQF : Hid (∀ W, Below wf.heap.size wf W → W.cell? ⟨w10.heap.size, 0, none⟩ = some (.slice A3 n2 c3)) := Lib.hid fun W hW => (Lies.below (by rw [← hwf]; exact F11.out) hW (by rw [← hwf]; exact F11.out.lt)).cell (j := 0) rfl
      rw [hwf]
      clear hwf hlf f0 HOW
      obtain ⟨s1, hs1⟩ : ∃ s1, sameL l l' = s1 := ⟨_, rfl⟩
      obtain ⟨s2, hs2⟩ : ∃ s2, sameE l2 lf = s2 := ⟨_, rfl⟩
      have HS1 := Lib.hid hs1
      have HS2 := Lib.hid hs2
      clear hs1 hs2
      have hb0 := Below.refl wf.heap.size wf
      obtain ⟨q0, q1, q2⟩ := HQ.out _ GF.out
      have q3 := HQF.out _ hb0
      have b1 : (s1 == s1) = true := by simp
      have b2 : (s2 == s2) = true := by simp
      go_region_held3 (fun w' => w'.cell? ⟨w.heap.size, 0, none⟩ = some (.slice A n c) ∧ w'.cell? ⟨w.heap.size + 1, 0, none⟩ = some (.slice A' n' c') ∧ w'.cell? ⟨w.heap.size + 1 + 1, 0, none⟩ = some (.slice A2 n2 c2) ∧ w'.cell? ⟨w10.heap.size, 0, none⟩ = some (.slice A3 n2 c3) ∧ Below wf.heap.size wf w')
        (first | exact ⟨q0, q1, q2, q3, hb0.drew⟩ | with_reducible exact K21.out | with_reducible exact K22.out | with_reducible exact K23.out | with_reducible exact K24.out | with_reducible exact K25.out | with_reducible exact K26.out | with_reducible exact K27.out | with_reducible exact K28.out | fail)
        (first
          | (go_at_call 17; have T := same_any (HSm.out _ (GF.out.trans (Below.mono (hb0.drew) GF.out.size))) (HSn.out _ (GF.out.trans (Below.mono (hb0.drew) GF.out.size))) (show n ≤ 1000000 by omega); rw [HS1.out] at T; with_reducible refine Calls.mono T ?_; clear T; rintro e w21 ⟨rfl, hb4⟩; have hb5 := (show Below wf.heap.size wf w21 from (hb0.drew).trans (hb4.mono (hb0.drew).size)); have K21 := Lib.hid (show w21.cell? ⟨w.heap.size, 0, none⟩ = some (.slice A n c) ∧ w21.cell? ⟨w.heap.size + 1, 0, none⟩ = some (.slice A' n' c') ∧ w21.cell? ⟨w.heap.size + 1 + 1, 0, none⟩ = some (.slice A2 n2 c2) ∧ w21.cell? ⟨w10.heap.size, 0, none⟩ = some (.slice A3 n2 c3) ∧ Below wf.heap.size wf w21 from ⟨(HQ.out _ (GF.out.trans (hb5.mono GF.out.size))).1, (HQ.out _ (GF.out.trans (hb5.mono GF.out.size))).2.1, (HQ.out _ (GF.out.trans (hb5.mono GF.out.size))).2.2, HQF.out _ hb5, hb5⟩); clear hb4 hb5)
          | (go_at_call 18; have T := refSame_any (HSm.out _ (GF.out.trans (Below.mono (K21.out.2.2.2.2) GF.out.size))) (HSn.out _ (GF.out.trans (Below.mono (K21.out.2.2.2.2) GF.out.size))) (show n ≤ 1000000 by omega); rw [HS1.out] at T; with_reducible refine Calls.mono T ?_; clear T; rintro e w22 ⟨rfl, hb4⟩; have hb5 := (show Below wf.heap.size wf w22 from (K21.out.2.2.2.2).trans (hb4.mono (K21.out.2.2.2.2).size)); have K22 := Lib.hid (show w22.cell? ⟨w.heap.size, 0, none⟩ = some (.slice A n c) ∧ w22.cell? ⟨w.heap.size + 1, 0, none⟩ = some (.slice A' n' c') ∧ w22.cell? ⟨w.heap.size + 1 + 1, 0, none⟩ = some (.slice A2 n2 c2) ∧ w22.cell? ⟨w10.heap.size, 0, none⟩ = some (.slice A3 n2 c3) ∧ Below wf.heap.size wf w22 from ⟨(HQ.out _ (GF.out.trans (hb5.mono GF.out.size))).1, (HQ.out _ (GF.out.trans (hb5.mono GF.out.size))).2.1, (HQ.out _ (GF.out.trans (hb5.mono GF.out.size))).2.2, HQF.out _ hb5, hb5⟩); clear hb4 hb5)
          | (go_at_call 12; have T := copied_any (HSm.out _ (GF.out.trans (Below.mono (K22.out.2.2.2.2) GF.out.size))) (show n ≤ 1000000 by omega); with_reducible refine Calls.mono T ?_; clear T; rintro e w23 ⟨A5, c5, rfl, hown5, hb4⟩; have hb5 := (show Below wf.heap.size wf w23 from (K22.out.2.2.2.2).trans (hb4.mono (K22.out.2.2.2.2).size)); have K23 := Lib.hid (show w23.cell? ⟨w.heap.size, 0, none⟩ = some (.slice A n c) ∧ w23.cell? ⟨w.heap.size + 1, 0, none⟩ = some (.slice A' n' c') ∧ w23.cell? ⟨w.heap.size + 1 + 1, 0, none⟩ = some (.slice A2 n2 c2) ∧ w23.cell? ⟨w10.heap.size, 0, none⟩ = some (.slice A3 n2 c3) ∧ Below wf.heap.size wf w23 from ⟨(HQ.out _ (GF.out.trans (hb5.mono GF.out.size))).1, (HQ.out _ (GF.out.trans (hb5.mono GF.out.size))).2.1, (HQ.out _ (GF.out.trans (hb5.mono GF.out.size))).2.2, HQF.out _ hb5, hb5⟩); have SQ5 := Lib.hid (own_sq hown5 rw_sz (by omega)); clear hb4 hb5)
          | (go_at_call 17; have T := same_any (HSm.out _ (GF.out.trans (Below.mono (K23.out.2.2.2.2) GF.out.size))) SQ5.out (show n ≤ 1000000 by omega); rw [sameL_self] at T; with_reducible refine Calls.mono T ?_; clear T; rintro e w24 ⟨rfl, hb4⟩; have hb5 := (show Below wf.heap.size wf w24 from (K23.out.2.2.2.2).trans (hb4.mono (K23.out.2.2.2.2).size)); have K24 := Lib.hid (show w24.cell? ⟨w.heap.size, 0, none⟩ = some (.slice A n c) ∧ w24.cell? ⟨w.heap.size + 1, 0, none⟩ = some (.slice A' n' c') ∧ w24.cell? ⟨w.heap.size + 1 + 1, 0, none⟩ = some (.slice A2 n2 c2) ∧ w24.cell? ⟨w10.heap.size, 0, none⟩ = some (.slice A3 n2 c3) ∧ Below wf.heap.size wf w24 from ⟨(HQ.out _ (GF.out.trans (hb5.mono GF.out.size))).1, (HQ.out _ (GF.out.trans (hb5.mono GF.out.size))).2.1, (HQ.out _ (GF.out.trans (hb5.mono GF.out.size))).2.2, HQF.out _ hb5, hb5⟩); clear hb4 hb5)
          | (go_at_call 14; have T := copiedE_any (HSe.out _ (GF.out.trans (Below.mono (K24.out.2.2.2.2) GF.out.size))) (show n2 ≤ 1000000 by omega); with_reducible refine Calls.mono T ?_; clear T; rintro e w25 ⟨A6, c6, rfl, hown5, hb4⟩; have hb5 := (show Below wf.heap.size wf w25 from (K24.out.2.2.2.2).trans (hb4.mono (K24.out.2.2.2.2).size)); have K25 := Lib.hid (show w25.cell? ⟨w.heap.size, 0, none⟩ = some (.slice A n c) ∧ w25.cell? ⟨w.heap.size + 1, 0, none⟩ = some (.slice A' n' c') ∧ w25.cell? ⟨w.heap.size + 1 + 1, 0, none⟩ = some (.slice A2 n2 c2) ∧ w25.cell? ⟨w10.heap.size, 0, none⟩ = some (.slice A3 n2 c3) ∧ Below wf.heap.size wf w25 from ⟨(HQ.out _ (GF.out.trans (hb5.mono GF.out.size))).1, (HQ.out _ (GF.out.trans (hb5.mono GF.out.size))).2.1, (HQ.out _ (GF.out.trans (hb5.mono GF.out.size))).2.2, HQF.out _ hb5, hb5⟩); have SQ6 := Lib.hid (own_sq hown5 ch_sz (by omega)); clear hb4 hb5)
          | (go_at_call 19; have T := sameE_any (HSe.out _ (GF.out.trans (Below.mono (K25.out.2.2.2.2) GF.out.size))) SQ6.out (show n2 ≤ 1000000 by omega); rw [sameE_self] at T; with_reducible refine Calls.mono T ?_; clear T; rintro e w26 ⟨rfl, hb4⟩; have hb5 := (show Below wf.heap.size wf w26 from (K25.out.2.2.2.2).trans (hb4.mono (K25.out.2.2.2.2).size)); have K26 := Lib.hid (show w26.cell? ⟨w.heap.size, 0, none⟩ = some (.slice A n c) ∧ w26.cell? ⟨w.heap.size + 1, 0, none⟩ = some (.slice A' n' c') ∧ w26.cell? ⟨w.heap.size + 1 + 1, 0, none⟩ = some (.slice A2 n2 c2) ∧ w26.cell? ⟨w10.heap.size, 0, none⟩ = some (.slice A3 n2 c3) ∧ Below wf.heap.size wf w26 from ⟨(HQ.out _ (GF.out.trans (hb5.mono GF.out.size))).1, (HQ.out _ (GF.out.trans (hb5.mono GF.out.size))).2.1, (HQ.out _ (GF.out.trans (hb5.mono GF.out.size))).2.2, HQF.out _ hb5, hb5⟩); clear hb4 hb5)
          | (go_at_call 19; have T := sameE_any (HSe.out _ (GF.out.trans (Below.mono (K26.out.2.2.2.2) GF.out.size))) (HSF.out _ (K26.out.2.2.2.2)) (show n2 ≤ 1000000 by omega); rw [HS2.out] at T; with_reducible refine Calls.mono T ?_; clear T; rintro e w27 ⟨rfl, hb4⟩; have hb5 := (show Below wf.heap.size wf w27 from (K26.out.2.2.2.2).trans (hb4.mono (K26.out.2.2.2.2).size)); have K27 := Lib.hid (show w27.cell? ⟨w.heap.size, 0, none⟩ = some (.slice A n c) ∧ w27.cell? ⟨w.heap.size + 1, 0, none⟩ = some (.slice A' n' c') ∧ w27.cell? ⟨w.heap.size + 1 + 1, 0, none⟩ = some (.slice A2 n2 c2) ∧ w27.cell? ⟨w10.heap.size, 0, none⟩ = some (.slice A3 n2 c3) ∧ Below wf.heap.size wf w27 from ⟨(HQ.out _ (GF.out.trans (hb5.mono GF.out.size))).1, (HQ.out _ (GF.out.trans (hb5.mono GF.out.size))).2.1, (HQ.out _ (GF.out.trans (hb5.mono GF.out.size))).2.2, HQF.out _ hb5, hb5⟩); clear hb4 hb5)
          | (go_at_call 20; have T := refSameE_any (HSe.out _ (GF.out.trans (Below.mono (K27.out.2.2.2.2) GF.out.size))) (HSF.out _ (K27.out.2.2.2.2)) (show n2 ≤ 1000000 by omega); rw [HS2.out] at T; with_reducible refine Calls.mono T ?_; clear T; rintro e w28 ⟨rfl, hb4⟩; have hb5 := (show Below wf.heap.size wf w28 from (K27.out.2.2.2.2).trans (hb4.mono (K27.out.2.2.2.2).size)); have K28 := Lib.hid (show w28.cell? ⟨w.heap.size, 0, none⟩ = some (.slice A n c) ∧ w28.cell? ⟨w.heap.size + 1, 0, none⟩ = some (.slice A' n' c') ∧ w28.cell? ⟨w.heap.size + 1 + 1, 0, none⟩ = some (.slice A2 n2 c2) ∧ w28.cell? ⟨w10.heap.size, 0, none⟩ = some (.slice A3 n2 c3) ∧ Below wf.heap.size wf w28 from ⟨(HQ.out _ (GF.out.trans (hb5.mono GF.out.size))).1, (HQ.out _ (GF.out.trans (hb5.mono GF.out.size))).2.1, (HQ.out _ (GF.out.trans (hb5.mono GF.out.size))).2.2, HQF.out _ hb5, hb5⟩); clear hb4 hb5)
          | fail)
      have GE := Lib.hid (GF.out.trans (Below.mono K28.out.2.2.2.2 GF.out.size))
      clear K21 K22 K23 K24 K25 K26 K27 K28 SQ5 SQ6 q0 q1 q2 q3 hb0
      go_wp2_with fail
      go_ret
      exact ⟨rfl, B0.out.trans (GE.out.mono B0.out.size)⟩

theorem own : ownKnob Try.prog.godebug = none := by kernel_rfl
theorem laidOut : laidOutB Try.prog = true := by kernel_rfl

set_option maxRecDepth 100000 in
theorem lifted (os : Os) (started : os.Started) (H : Type) (enc : TypeId × Value → H) :
    ReturnsInHanded {} Try.checked os 3 .any (Rows.pathmapChecksSpec.pre6 enc Try.prog Try.f3 Rows.pathmapChecksRow.domain false) (Rows.pathmapChecksSpec.post enc Try.prog Try.f3 false true false false) := by
  refine returnsInHanded_of_change (C := Try.checked) own started (by kernel_rfl) Try.func3
    (ChangeSpec.witness6 (enc := enc) (C := Try.checked) false ⟨#[], #[.agg #[.slice none 0 0], .agg #[.slice none 0 0], .agg #[.slice none 0 0]], []⟩ 8 (by kernel_rfl) (by kernel_rfl) (by kernel_rfl) (by kernel_rfl)) ?_
  intro W base args ds gs before hval0 hW hcnd _
  have hval : ∀ (j : Nat) t v, Try.f3.params[j]? = some t → args[j]? = some v → Value.okWide Try.prog W .any base t v := hval0
  have hW' := hW
  obtain ⟨p, q, hA0, hV, rfl, hfz, hnd⟩ := hW
  have hA : DataW.TrodAll enc Try.prog W 0 (fun _ => true) true Try.f3.params.toList args.toList ds p := hA0
  rw [Try.params3] at hA hval
  obtain ⟨v0, vs0, d0, ds0, p0, q0, hargs, rfl, rfl, h0, r0⟩ := trodAll_cons hA
  obtain ⟨v1, vs1, d1, ds1, p1, q1, rfl, rfl, rfl, h1, r1⟩ := trodAll_cons r0
  obtain ⟨v2, vs2, d2, ds2, p2, q2, rfl, rfl, rfl, h2, r2⟩ := trodAll_cons r1
  obtain ⟨rfl, rfl, rfl⟩ := trodAll_nil r2
  obtain rfl : args = #[v0, v1, v2] := by cases args; simp_all
  obtain ⟨rfl, rfl⟩ := trodVars_none hV
  have k0 := h0
  have lt0 : ∀ x ∈ p0, x.block < W.heap.size := by obtain ⟨m, hm⟩ := k0; exact DataW.trod_lt m _ _ _ hm
  obtain ⟨A0, n0, c0, l0, rfl, s0⟩ := map_arg (hval 0 24 v0 rfl rfl) h0
  have k1 := h1
  have lt1 : ∀ x ∈ p1, x.block < W.heap.size := by obtain ⟨m, hm⟩ := k1; exact DataW.trod_lt m _ _ _ hm
  obtain ⟨A1, n1, c1, l1, rfl, s1⟩ := map_arg (hval 1 24 v1 rfl rfl) h1
  have k2 := h2
  have lt2 : ∀ x ∈ p2, x.block < W.heap.size := by obtain ⟨m, hm⟩ := k2; exact DataW.trod_lt m _ _ _ hm
  obtain ⟨A2, n2, c2, l2, rfl, s2⟩ := edit_arg (hval 2 27 v2 rfl rfl) h2
  clear hA0 hval0
  refine (walk A0 n0 c0 l0 A1 n1 c1 l1 A2 n2 c2 l2 W s0 s1 s2).mono fun e W' ⟨he, bel⟩ => ?_
  subst he
  exact ⟨_, rfl, _, _, _, [], _, [], hW', trodAll_mk1 (shut_bool Try.underlying4 _), (trodAll_cons_mk (Below.trod laidOut (by kernel_rfl) (of_decide_eq_true (by kernel_rfl)) k0 bel lt0) (trodAll_cons_mk (Below.trod laidOut (by kernel_rfl) (of_decide_eq_true (by kernel_rfl)) k1 bel lt1) (trodAll_cons_mk (Below.trod laidOut (by kernel_rfl) (of_decide_eq_true (by kernel_rfl)) k2 bel lt2) trodAll_mk0))), rfl, bel.frame _, fun h => by cases h⟩

theorem over : Rows.pathmapChecksRow.holds Try.pinned (OpenSpec.ofChange Rows.pathmapChecksSpec) :=
  OpenClaim.holds_of_wide 3 Try.f3 rfl rfl rfl rfl rfl rfl rfl ⟨rfl, rfl, rfl, rfl, rfl⟩ rfl rfl rfl rfl rfl (by kernel_rfl) Try.func3 (by kernel_rfl)
    (of_decide_eq_true (by kernel_rfl)) (by unfold Func.isWrapper; first | (rw [if_pos (by decide +kernel)]; kernel_rfl) | (rw [if_neg (by decide +kernel)]; exact ⟨rfl, rfl⟩))
    (fun os started H enc _ => lifted os started H enc)

theorem proved : Rows.PathmapChecksSaid := over
#print axioms proved
end Go.Proofs.Yteefohkdnmmnaaa.pathmapChecks
