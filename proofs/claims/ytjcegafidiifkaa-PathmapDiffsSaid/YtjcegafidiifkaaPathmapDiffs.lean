/-
  PROVED HERE: the difference of two maps is that which the document says: at every two maps.
-/
import Derived.Test.YtjcegafidiifkaaWk
import Derived.Test.YtjcegafidiifkaaLb
import Derived.Test.YtjcegafidiifkaaYc
import Derived.Test.YtjcegafidiifkaaCp
import Derived.Test.YtjcegafidiifkaaRw
import Derived.Test.YtjcegafidiifkaaSr
import Derived.Test.YtjcegafidiifkaaBs
import Derived.Test.YtjcegafidiifkaaRd
import Derived.Test.YtjcegafidiifkaaPw
import Derived.Test.YtjcegafidiifkaaRows
import Derived.ProofKit
import Derived.OpenShut
import Derived.ChangeOld
import Derived.Carry
namespace Go.Proofs.Ytjcegafidiifkaa.pathmapDiffs
open Go.ChangeShapes Go.WideShapes Go.ChangeAt Go.RowKit
set_option linter.unusedVariables false
set_option linter.unusedSimpArgs false
open Go.Deep
attribute [local irreducible] wpQuiet

theorem sameL_self (l : List Rw) : sameL l l = true := sameL_yes rfl (fun j _ _ => by unfold sameRw; simp)
theorem sameE_self (l : List Ch) : sameE l l = true := sameE_yes rfl (fun j _ _ => by unfold sameCh; simp)
theorem err_first {l : List Rw} {l' : List Rw} (h : rightR l = false) : diffE l l' = 150 := by unfold diffE; rw [if_pos h]
theorem err_second {l : List Rw} {l' : List Rw} (h : rightR l = true) (h' : rightR l' = false) : diffE l l' = 150 := by
  unfold diffE; rw [if_neg (by rw [h]; decide), if_pos h']
theorem err_third {l : List Rw} {l' : List Rw} (h : rightR l = true) (h' : rightR l' = true) : diffW l l' = (pathsW Rw.p (pathsW Rw.p [] l) l').flatMap (refD l l') ∧ diffE l l' = if 32 < ((pathsW Rw.p (pathsW Rw.p [] l) l').flatMap (refD l l')).length then 151 else 0 := by
  have hw : diffW l l' = (pathsW Rw.p (pathsW Rw.p [] l) l').flatMap (refD l l') := by
    rw [diffW_dif]
    exact dif_paths (rightR_up h).1 (rightR_up h').1
  refine ⟨hw, ?_⟩
  unfold diffE
  rw [if_neg (by rw [h]; decide), if_neg (by rw [h']; decide), hw]

set_option maxRecDepth 100000 in
set_option maxHeartbeats 8000000 in
theorem walk (A : Option Addr) (n c : Nat) (l : List Rw) (A' : Option Addr) (n' c' : Nat) (l' : List Rw) (w : World) (h : SqR w w.heap.size A n c l) (h' : SqR w w.heap.size A' n' c' l') :
    Calls Try.prog 6 #[.agg #[.slice A n c], .agg #[.slice A' n' c']] w fun e w' => e = .returned (.bool true) ∧ Below w.heap.size w w' := by
  obtain ⟨w0, hw0⟩ : ∃ w0, (w.alloc (.cells #[.slice A n c] 24)).alloc (.cells #[.slice A' n' c'] 24) = w0 := ⟨_, rfl⟩
  have B0 : Hid (Below w.heap.size w w0) := Lib.hid (by rw [← hw0]; exact ((Below.refl _ _).alloc (Nat.le_refl _) _).alloc (by simp) _)
  have X0 : Hid (Lies w0 w.heap.size 1 [.slice A n c]) := Lib.hid (by rw [← hw0]; exact (Lies.new w [.slice A n c] 24).alloc _)
  have X1 : Hid (Lies w0 (w.heap.size + 1) 1 [.slice A' n' c']) := Lib.hid (by
    rw [← hw0]
    have := Lies.new (w.alloc (.cells #[.slice A n c] 24)) [.slice A' n' c'] 24
    rwa [World.size_alloc] at this)
  have HSm : Hid (∀ W, Below w0.heap.size w0 W → SqR W W.heap.size A n c l) := Lib.hid fun W hW => (h.below (B0.out.trans (hW.mono B0.out.size))).more (Nat.le_trans B0.out.size hW.size)
  have HSn : Hid (∀ W, Below w0.heap.size w0 W → SqR W W.heap.size A' n' c' l') := Lib.hid fun W hW => (h'.below (B0.out.trans (hW.mono B0.out.size))).more (Nat.le_trans B0.out.size hW.size)
  have HQ : Hid (∀ W, Below w0.heap.size w0 W → W.cell? ⟨w.heap.size, 0, none⟩ = some (.slice A n c) ∧ W.cell? ⟨w.heap.size + 1, 0, none⟩ = some (.slice A' n' c')) := Lib.hid fun W hW =>
    ⟨(X0.out.below hW X0.out.lt).cell (j := 0) rfl, (X1.out.below hW X1.out.lt).cell (j := 0) rfl⟩
  have HR : Hid (∀ w', Below w0.heap.size w0 w' → w'.rangeAt w.heap.size 0 [.slice A n c] ∧ w'.rangeAt (w.heap.size + 1) 0 [.slice A' n' c']) := Lib.hid fun W hW => ⟨(X0.out.below hW X0.out.lt).rg, (X1.out.below hW X1.out.lt).rg⟩
  have HW := Lib.hid hw0
  have hl := h.len
  have hl' := h'.len
  clear hw0 h h'
  go_enter Try.func6, Try.ntmps6
  go_upto_region 1 with fail
  rw [HW.out]
  clear HW
  go_wp2_with fail
  refine (wakes_any w0).mono ?_
  rintro e w1 ⟨rfl, hb1⟩
  have G1 := Lib.hid hb1
  clear hb1
  obtain ⟨q0, q1⟩ := HQ.out _ G1.out
  go_wp2_with fail
  refine (larges_any (HSm.out _ G1.out) (A' := none) (n' := 0) (c' := 0) (Sq.nil_ ch_sz)).mono ?_
  rintro e w2 ⟨(rfl | ⟨rfl, hn, _, hpm, _⟩), hb2⟩
  · have G2 := Lib.hid (G1.out.trans (hb2.mono G1.out.size))
    clear hb2 q0 q1
    go_wp2_with fail
    go_ret
    exact ⟨rfl, B0.out.trans (G2.out.mono B0.out.size)⟩
  have G2 := Lib.hid (G1.out.trans (hb2.mono G1.out.size))
  have HPM := Lib.hid (fun r hr => Nat.le_trans (hpm r hr) (show 500 ≤ 1000000 by omega))
  clear hb2 q0 q1 hpm
  obtain ⟨q0, q1⟩ := HQ.out _ G2.out
  go_wp2_with fail
  refine (larges_any (HSn.out _ G2.out) (A' := none) (n' := 0) (c' := 0) (Sq.nil_ ch_sz)).mono ?_
  rintro e w3 ⟨(rfl | ⟨rfl, hn', _, hpn, _⟩), hb3⟩
  · have G3 := Lib.hid (G2.out.trans (hb3.mono G2.out.size))
    clear hb3 q0 q1
    go_wp2_with fail
    go_ret
    exact ⟨rfl, B0.out.trans (G3.out.mono B0.out.size)⟩
  have G3 := Lib.hid (G2.out.trans (hb3.mono G2.out.size))
  have HPN := Lib.hid (fun r hr => Nat.le_trans (hpn r hr) (show 500 ≤ 1000000 by omega))
  clear hb3 q0 q1 hpn
  obtain ⟨er, her⟩ : ∃ er, diffE l l' = er := ⟨_, rfl⟩
  obtain ⟨Lr, hLr⟩ : ∃ Lr, (if er = 0 then diffW l l' else []) = Lr := ⟨_, rfl⟩
  have HER := Lib.hid her
  have HLR := Lib.hid hLr
  clear her hLr
  have HC1 := Lib.hid (fun (W : World) (hW : Below w3.heap.size w3 W) => copied_any (HSm.out _ (G3.out.trans (hW.mono G3.out.size))) (show n ≤ 1000000 by omega))
  have HC2 := Lib.hid (fun (W : World) (hW : Below w3.heap.size w3 W) => copied_any (HSn.out _ (G3.out.trans (hW.mono G3.out.size))) (show n' ≤ 1000000 by omega))
  have HS5 := Lib.hid (fun (W : World) (hW : Below w3.heap.size w3 W) => HR.out _ (G3.out.trans (hW.mono G3.out.size)))
  have HC3 : Hid (∀ (W : World) A4 c4 A5 c5, SqR W W.heap.size A4 n c4 l → SqR W W.heap.size A5 n' c5 l' → Calls Try.prog 27 #[.agg #[.slice A4 n c4], .agg #[.slice A5 n' c5]] W fun en w' => ∃ A2 n2 c2, en = .returned (.tuple #[.agg #[.slice A2 n2 c2], .int .i64 er]) ∧ SqC w' w'.heap.size A2 n2 c2 Lr ∧ Below W.heap.size W w') := Lib.hid (fun W A4 c4 A5 c5 ha hb => by
    have T := Diff_any ha (show n ≤ 1000000 by omega) hb (show n' ≤ 1000000 by omega)
    rw [HER.out, HLR.out] at T
    exact T)
  have HMX := Lib.hid (show n ≤ 1000000 ∧ n' ≤ 1000000 from ⟨by omega, by omega⟩)
  go_upto_region 5 with fail
  go_cut [5, 6] (fun s5 s6 wx => ∃ (B : Nat) (A2 : Option Addr) (n2 c2 : Nat), s5 = .pointer (some ⟨B, 0, none⟩) ∧ s6 = .int .i64 er ∧ Hid (Fin Ch.cells 3 w3 B A2 n2 c2 Lr wx))
  case first =>
    have D0 := Lib.hid (Bes.start w3 (Value.slice none 0 0) 27)
    refine wp_region_noPanic ?_
    refine wp_region_held_drew (S := fun w' => w'.rangeAt w.heap.size 0 [.slice A n c] ∧ w'.rangeAt (w.heap.size + 1) 0 [.slice A' n' c']) (by kernel_rfl) (HS5.out _ D0.out.below) (fun _ => ?_)
    refine wpAnyH_take (i := 0) rfl (by kernel_rfl) (by kernel_rfl) (by kernel_rfl) (fun _ _ _ h => h) (yieldsIf_load_mid rfl 24 _ rfl (w.heap.size) (0) rfl ([.slice A n c]) _ (fun w' hw' => hw'.1) Try.underlying24 rfl (size_map _ _ _)) (HS5.out _ D0.out.below) ?_
    simp only [List.getElem_toArray, List.getElem_cons_zero, List.getElem_cons_succ, Act.put, List.setIfInBounds_toArray, List.set_cons_succ, List.set_cons_zero]
    refine wpAnyH_take (i := 2) rfl (by kernel_rfl) (by kernel_rfl) (by kernel_rfl) (fun _ _ _ h => h) (yieldsIf_load_mid rfl 24 _ rfl (w.heap.size + 1) (0) rfl ([.slice A' n' c']) _ (fun w' hw' => hw'.2) Try.underlying24 rfl (size_map _ _ _)) (HS5.out _ D0.out.below) ?_
    simp only [List.getElem_toArray, List.getElem_cons_zero, List.getElem_cons_succ, Act.put, List.setIfInBounds_toArray, List.set_cons_succ, List.set_cons_zero]
    refine wpAnyH_ready (rs := [1, 8]) (by kernel_rfl) (by simp) (AllReadyH.cons rfl (fun K hK => ?_) (AllReadyH.cons rfl (fun K hK => ?_) AllReadyH.nil))
    · rw [if_pos (by rfl)]
      refine wp_fn (f := 12) (xs := #[.agg #[.slice A n c]]) (by first | (go_simp; done) | (go_simp; rfl)) ((HC1.out _ D0.out.below).mono ?_)
      rintro e u1 ⟨A4, c4, rfl, hown4, hb4⟩
      have hbb : Below w3.drew.heap.size w3.drew u1 := hb4
      have D1 := Lib.hid (D0.out.call hbb)
      have SA_1 := Lib.hid (own_sq hown4 rw_sz (by omega))
      clear hbb hb4
      refine ⟨_, rfl, hK.out _ _ (HS5.out _ D1.out.below) (fun _ => ?_)⟩
      simp only [List.getElem_toArray, List.getElem_cons_zero, List.getElem_cons_succ, Act.put, List.setIfInBounds_toArray, List.set_cons_succ, List.set_cons_zero]
      refine wpAnyH_ready (rs := [3, 8]) (by kernel_rfl) (by simp) (AllReadyH.cons rfl (fun K hK => ?_) (AllReadyH.cons rfl (fun K hK => ?_) AllReadyH.nil))
      · rw [if_pos (by rfl)]
        refine wp_fn (f := 12) (xs := #[.agg #[.slice A' n' c']]) (by first | (go_simp; done) | (go_simp; rfl)) ((HC2.out _ D1.out.below).mono ?_)
        rintro e u2 ⟨A5, c5, rfl, hown4, hb4⟩
        have hbb : Below u1.heap.size u1 u2 := hb4
        have D2 := Lib.hid (D1.out.call hbb)
        have SA_2 := Lib.hid ((SA_1.out.below hbb).more hbb.size)
        have SB_2 := Lib.hid (own_sq hown4 rw_sz (by omega))
        clear hbb hb4
        refine ⟨_, rfl, hK.out _ _ (HS5.out _ D2.out.below) (fun _ => ?_)⟩
        simp only [List.getElem_toArray, List.getElem_cons_zero, List.getElem_cons_succ, Act.put, List.setIfInBounds_toArray, List.set_cons_succ, List.set_cons_zero]
        refine wpAnyH_ready (rs := [4, 8]) (by kernel_rfl) (by simp) (AllReadyH.cons rfl (fun K hK => ?_) (AllReadyH.cons rfl (fun K hK => ?_) AllReadyH.nil))
        · rw [if_pos (by rfl)]
          refine wp_fn (f := 27) (xs := #[.agg #[.slice A4 n c4], .agg #[.slice A5 n' c5]]) (by first | (go_simp; done) | (go_simp; rfl)) ((HC3.out _ _ _ _ _ SA_2.out SB_2.out).mono ?_)
          rintro e u3 ⟨A6, n6, c6, rfl, hsq6, hb4⟩
          have hbb : Below u2.heap.size u2 u3 := hb4
          have D3 := Lib.hid (D2.out.call hbb)
          have SA_3 := Lib.hid ((SA_2.out.below hbb).more hbb.size)
          have SB_3 := Lib.hid ((SB_2.out.below hbb).more hbb.size)
          have SC_3 := Lib.hid (hsq6)
          clear hbb hb4
          refine ⟨_, rfl, hK.out _ _ (HS5.out _ D3.out.below) (fun _ => ?_)⟩
          simp only [List.getElem_toArray, List.getElem_cons_zero, List.getElem_cons_succ, Act.put, List.setIfInBounds_toArray, List.set_cons_succ, List.set_cons_zero]
          refine wpAnyH_take (i := 5) rfl (by kernel_rfl) (by kernel_rfl) (by kernel_rfl) (fun _ _ _ h => h) (.inl ⟨rfl, fun w' hw' => (by clear hw'; go_simp; rfl)⟩) (HS5.out _ D3.out.below) ?_
          simp only [List.getElem_toArray, List.getElem_cons_zero, List.getElem_cons_succ, Act.put, List.setIfInBounds_toArray, List.set_cons_succ, List.set_cons_zero]
          refine wpAnyH_take (i := 6) rfl (by kernel_rfl) (by kernel_rfl) (by kernel_rfl) (fun _ _ _ h => h) (.inl ⟨rfl, fun w' hw' => (by clear hw'; go_simp; rfl)⟩) (HS5.out _ D3.out.below) ?_
          simp only [List.getElem_toArray, List.getElem_cons_zero, List.getElem_cons_succ, Act.put, List.setIfInBounds_toArray, List.set_cons_succ, List.set_cons_zero]
          refine wpAnyH_take (i := 7) rfl (by kernel_rfl) (by kernel_rfl) (by kernel_rfl) (fun _ _ _ h => h) (.inl ⟨rfl, fun w' hw' => (by clear hw'; go_simp; rfl)⟩) (HS5.out _ D3.out.below) ?_
          simp only [List.getElem_toArray, List.getElem_cons_zero, List.getElem_cons_succ, Act.put, List.setIfInBounds_toArray, List.set_cons_succ, List.set_cons_zero]
          refine wpAnyH_ready (rs := [8]) (by kernel_rfl) (by simp) (AllReadyH.cons rfl (fun K hK => ?_) AllReadyH.nil)
          rw [if_pos (by rfl)]
          refine wp_alloc_as _ rfl _ zero_edit ?_
          have hbb : Below u3.heap.size u3 (u3.alloc (.cells #[Value.slice none 0 0] 27)) := (Below.refl _ _).alloc (Nat.le_refl _) _
          have D4 := Lib.hid (D3.out.alloc)
          have SA_4 := Lib.hid ((SA_3.out.below hbb).more hbb.size)
          have SB_4 := Lib.hid ((SB_3.out.below hbb).more hbb.size)
          have SC_4 := Lib.hid ((SC_3.out.below hbb).more hbb.size)
          clear hbb
          refine hK.out _ _ (HS5.out _ D4.out.below) (fun _ => ?_)
          simp only [List.getElem_toArray, List.getElem_cons_zero, List.getElem_cons_succ, Act.put, List.setIfInBounds_toArray, List.set_cons_succ, List.set_cons_zero]
          generalize u3.heap.size = b4 at D4 ⊢
          generalize u3.alloc (.cells #[Value.slice none 0 0] 27) = u4 at D4 SA_4 SB_4 SC_4 ⊢
          have TD := Lib.hid (D4.out.done SC_4.out ch_noslice (by decide))
          refine wpAnyH_ready (rs := [9]) (by kernel_rfl) (by simp) (AllReadyH.cons rfl (fun K hK => ?_) AllReadyH.nil)
          rw [if_pos (by rfl)]
          refine wp_store_mid _ _ _ rfl _ _ #[.slice A6 n6 c6] rfl rfl (by first | exact D4.out.there | simpa using D4.out.there) (size_edit _ _ _) (by simp [Value.oneCell']) ?_
          refine hK.out _ _ (HS5.out _ TD.out.below) (fun _ => ?_)
          simp only [List.getElem_toArray, List.getElem_cons_zero, List.getElem_cons_succ, Act.put, List.setIfInBounds_toArray, List.set_cons_succ, List.set_cons_zero]
          refine wpAnyH_take (i := 10) rfl (by kernel_rfl) (by kernel_rfl) (by kernel_rfl) (fun _ _ _ h => h) (.inl ⟨rfl, fun w' hw' => (by clear hw'; go_simp; rfl)⟩) (HS5.out _ TD.out.below) ?_
          simp only [List.getElem_toArray, List.getElem_cons_zero, List.getElem_cons_succ, Act.put, List.setIfInBounds_toArray, List.set_cons_succ, List.set_cons_zero]
          refine wpAnyH_done (by kernel_rfl) ?_ _
          refine NoPanic.normal ?_
          go_wp2_with fail
          go_meet
          exact ⟨_, _, _, _, rfl, rfl, TD⟩
        · rw [if_pos (by rfl)]
          refine wp_alloc_as _ rfl _ zero_edit ?_
          have hbb : Below u2.heap.size u2 (u2.alloc (.cells #[Value.slice none 0 0] 27)) := (Below.refl _ _).alloc (Nat.le_refl _) _
          have D5 := Lib.hid (D2.out.alloc)
          have SA_5 := Lib.hid ((SA_2.out.below hbb).more hbb.size)
          have SB_5 := Lib.hid ((SB_2.out.below hbb).more hbb.size)
          clear hbb
          refine hK.out _ _ (HS5.out _ D5.out.below) (fun _ => ?_)
          simp only [List.getElem_toArray, List.getElem_cons_zero, List.getElem_cons_succ, Act.put, List.setIfInBounds_toArray, List.set_cons_succ, List.set_cons_zero]
          generalize u2.heap.size = b5 at D5 ⊢
          generalize u2.alloc (.cells #[Value.slice none 0 0] 27) = u5 at D5 SA_5 SB_5 ⊢
          refine wpAnyH_ready (rs := [4]) (by kernel_rfl) (by simp) (AllReadyH.cons rfl (fun K hK => ?_) AllReadyH.nil)
          rw [if_pos (by rfl)]
          refine wp_fn (f := 27) (xs := #[.agg #[.slice A4 n c4], .agg #[.slice A5 n' c5]]) (by first | (go_simp; done) | (go_simp; rfl)) ((HC3.out _ _ _ _ _ SA_5.out SB_5.out).mono ?_)
          rintro e u6 ⟨A6, n6, c6, rfl, hsq6, hb4⟩
          have hbb : Below u5.heap.size u5 u6 := hb4
          have D6 := Lib.hid (D5.out.call hbb)
          have SA_6 := Lib.hid ((SA_5.out.below hbb).more hbb.size)
          have SB_6 := Lib.hid ((SB_5.out.below hbb).more hbb.size)
          have SC_6 := Lib.hid (hsq6)
          clear hbb hb4
          refine ⟨_, rfl, hK.out _ _ (HS5.out _ D6.out.below) (fun _ => ?_)⟩
          simp only [List.getElem_toArray, List.getElem_cons_zero, List.getElem_cons_succ, Act.put, List.setIfInBounds_toArray, List.set_cons_succ, List.set_cons_zero]
          refine wpAnyH_take (i := 5) rfl (by kernel_rfl) (by kernel_rfl) (by kernel_rfl) (fun _ _ _ h => h) (.inl ⟨rfl, fun w' hw' => (by clear hw'; go_simp; rfl)⟩) (HS5.out _ D6.out.below) ?_
          simp only [List.getElem_toArray, List.getElem_cons_zero, List.getElem_cons_succ, Act.put, List.setIfInBounds_toArray, List.set_cons_succ, List.set_cons_zero]
          refine wpAnyH_take (i := 6) rfl (by kernel_rfl) (by kernel_rfl) (by kernel_rfl) (fun _ _ _ h => h) (.inl ⟨rfl, fun w' hw' => (by clear hw'; go_simp; rfl)⟩) (HS5.out _ D6.out.below) ?_
          simp only [List.getElem_toArray, List.getElem_cons_zero, List.getElem_cons_succ, Act.put, List.setIfInBounds_toArray, List.set_cons_succ, List.set_cons_zero]
          refine wpAnyH_take (i := 7) rfl (by kernel_rfl) (by kernel_rfl) (by kernel_rfl) (fun _ _ _ h => h) (.inl ⟨rfl, fun w' hw' => (by clear hw'; go_simp; rfl)⟩) (HS5.out _ D6.out.below) ?_
          simp only [List.getElem_toArray, List.getElem_cons_zero, List.getElem_cons_succ, Act.put, List.setIfInBounds_toArray, List.set_cons_succ, List.set_cons_zero]
          have TD := Lib.hid (D6.out.done SC_6.out ch_noslice (by decide))
          refine wpAnyH_ready (rs := [9]) (by kernel_rfl) (by simp) (AllReadyH.cons rfl (fun K hK => ?_) AllReadyH.nil)
          rw [if_pos (by rfl)]
          refine wp_store_mid _ _ _ rfl _ _ #[.slice A6 n6 c6] rfl rfl (by first | exact D6.out.there | simpa using D6.out.there) (size_edit _ _ _) (by simp [Value.oneCell']) ?_
          refine hK.out _ _ (HS5.out _ TD.out.below) (fun _ => ?_)
          simp only [List.getElem_toArray, List.getElem_cons_zero, List.getElem_cons_succ, Act.put, List.setIfInBounds_toArray, List.set_cons_succ, List.set_cons_zero]
          refine wpAnyH_take (i := 10) rfl (by kernel_rfl) (by kernel_rfl) (by kernel_rfl) (fun _ _ _ h => h) (.inl ⟨rfl, fun w' hw' => (by clear hw'; go_simp; rfl)⟩) (HS5.out _ TD.out.below) ?_
          simp only [List.getElem_toArray, List.getElem_cons_zero, List.getElem_cons_succ, Act.put, List.setIfInBounds_toArray, List.set_cons_succ, List.set_cons_zero]
          refine wpAnyH_done (by kernel_rfl) ?_ _
          refine NoPanic.normal ?_
          go_wp2_with fail
          go_meet
          exact ⟨_, _, _, _, rfl, rfl, TD⟩
      · rw [if_pos (by rfl)]
        refine wp_alloc_as _ rfl _ zero_edit ?_
        have hbb : Below u1.heap.size u1 (u1.alloc (.cells #[Value.slice none 0 0] 27)) := (Below.refl _ _).alloc (Nat.le_refl _) _
        have D7 := Lib.hid (D1.out.alloc)
        have SA_7 := Lib.hid ((SA_1.out.below hbb).more hbb.size)
        clear hbb
        refine hK.out _ _ (HS5.out _ D7.out.below) (fun _ => ?_)
        simp only [List.getElem_toArray, List.getElem_cons_zero, List.getElem_cons_succ, Act.put, List.setIfInBounds_toArray, List.set_cons_succ, List.set_cons_zero]
        generalize u1.heap.size = b7 at D7 ⊢
        generalize u1.alloc (.cells #[Value.slice none 0 0] 27) = u7 at D7 SA_7 ⊢
        refine wpAnyH_ready (rs := [3]) (by kernel_rfl) (by simp) (AllReadyH.cons rfl (fun K hK => ?_) AllReadyH.nil)
        rw [if_pos (by rfl)]
        refine wp_fn (f := 12) (xs := #[.agg #[.slice A' n' c']]) (by first | (go_simp; done) | (go_simp; rfl)) ((HC2.out _ D7.out.below).mono ?_)
        rintro e u8 ⟨A5, c5, rfl, hown4, hb4⟩
        have hbb : Below u7.heap.size u7 u8 := hb4
        have D8 := Lib.hid (D7.out.call hbb)
        have SA_8 := Lib.hid ((SA_7.out.below hbb).more hbb.size)
        have SB_8 := Lib.hid (own_sq hown4 rw_sz (by omega))
        clear hbb hb4
        refine ⟨_, rfl, hK.out _ _ (HS5.out _ D8.out.below) (fun _ => ?_)⟩
        simp only [List.getElem_toArray, List.getElem_cons_zero, List.getElem_cons_succ, Act.put, List.setIfInBounds_toArray, List.set_cons_succ, List.set_cons_zero]
        refine wpAnyH_ready (rs := [4]) (by kernel_rfl) (by simp) (AllReadyH.cons rfl (fun K hK => ?_) AllReadyH.nil)
        rw [if_pos (by rfl)]
        refine wp_fn (f := 27) (xs := #[.agg #[.slice A4 n c4], .agg #[.slice A5 n' c5]]) (by first | (go_simp; done) | (go_simp; rfl)) ((HC3.out _ _ _ _ _ SA_8.out SB_8.out).mono ?_)
        rintro e u9 ⟨A6, n6, c6, rfl, hsq6, hb4⟩
        have hbb : Below u8.heap.size u8 u9 := hb4
        have D9 := Lib.hid (D8.out.call hbb)
        have SA_9 := Lib.hid ((SA_8.out.below hbb).more hbb.size)
        have SB_9 := Lib.hid ((SB_8.out.below hbb).more hbb.size)
        have SC_9 := Lib.hid (hsq6)
        clear hbb hb4
        refine ⟨_, rfl, hK.out _ _ (HS5.out _ D9.out.below) (fun _ => ?_)⟩
        simp only [List.getElem_toArray, List.getElem_cons_zero, List.getElem_cons_succ, Act.put, List.setIfInBounds_toArray, List.set_cons_succ, List.set_cons_zero]
        refine wpAnyH_take (i := 5) rfl (by kernel_rfl) (by kernel_rfl) (by kernel_rfl) (fun _ _ _ h => h) (.inl ⟨rfl, fun w' hw' => (by clear hw'; go_simp; rfl)⟩) (HS5.out _ D9.out.below) ?_
        simp only [List.getElem_toArray, List.getElem_cons_zero, List.getElem_cons_succ, Act.put, List.setIfInBounds_toArray, List.set_cons_succ, List.set_cons_zero]
        refine wpAnyH_take (i := 6) rfl (by kernel_rfl) (by kernel_rfl) (by kernel_rfl) (fun _ _ _ h => h) (.inl ⟨rfl, fun w' hw' => (by clear hw'; go_simp; rfl)⟩) (HS5.out _ D9.out.below) ?_
        simp only [List.getElem_toArray, List.getElem_cons_zero, List.getElem_cons_succ, Act.put, List.setIfInBounds_toArray, List.set_cons_succ, List.set_cons_zero]
        refine wpAnyH_take (i := 7) rfl (by kernel_rfl) (by kernel_rfl) (by kernel_rfl) (fun _ _ _ h => h) (.inl ⟨rfl, fun w' hw' => (by clear hw'; go_simp; rfl)⟩) (HS5.out _ D9.out.below) ?_
        simp only [List.getElem_toArray, List.getElem_cons_zero, List.getElem_cons_succ, Act.put, List.setIfInBounds_toArray, List.set_cons_succ, List.set_cons_zero]
        have TD := Lib.hid (D9.out.done SC_9.out ch_noslice (by decide))
        refine wpAnyH_ready (rs := [9]) (by kernel_rfl) (by simp) (AllReadyH.cons rfl (fun K hK => ?_) AllReadyH.nil)
        rw [if_pos (by rfl)]
        refine wp_store_mid _ _ _ rfl _ _ #[.slice A6 n6 c6] rfl rfl (by first | exact D9.out.there | simpa using D9.out.there) (size_edit _ _ _) (by simp [Value.oneCell']) ?_
        refine hK.out _ _ (HS5.out _ TD.out.below) (fun _ => ?_)
        simp only [List.getElem_toArray, List.getElem_cons_zero, List.getElem_cons_succ, Act.put, List.setIfInBounds_toArray, List.set_cons_succ, List.set_cons_zero]
        refine wpAnyH_take (i := 10) rfl (by kernel_rfl) (by kernel_rfl) (by kernel_rfl) (fun _ _ _ h => h) (.inl ⟨rfl, fun w' hw' => (by clear hw'; go_simp; rfl)⟩) (HS5.out _ TD.out.below) ?_
        simp only [List.getElem_toArray, List.getElem_cons_zero, List.getElem_cons_succ, Act.put, List.setIfInBounds_toArray, List.set_cons_succ, List.set_cons_zero]
        refine wpAnyH_done (by kernel_rfl) ?_ _
        refine NoPanic.normal ?_
        go_wp2_with fail
        go_meet
        exact ⟨_, _, _, _, rfl, rfl, TD⟩
    · rw [if_pos (by rfl)]
      refine wp_alloc_as _ rfl _ zero_edit ?_
      have hbb : Below w3.drew.heap.size w3.drew (w3.drew.alloc (.cells #[Value.slice none 0 0] 27)) := (Below.refl _ _).alloc (Nat.le_refl _) _
      have D10 := Lib.hid (D0.out.alloc)
      clear hbb
      refine hK.out _ _ (HS5.out _ D10.out.below) (fun _ => ?_)
      simp only [List.getElem_toArray, List.getElem_cons_zero, List.getElem_cons_succ, Act.put, List.setIfInBounds_toArray, List.set_cons_succ, List.set_cons_zero]
      generalize w3.drew.heap.size = b10 at D10 ⊢
      generalize w3.drew.alloc (.cells #[Value.slice none 0 0] 27) = u10 at D10 ⊢
      refine wpAnyH_ready (rs := [1]) (by kernel_rfl) (by simp) (AllReadyH.cons rfl (fun K hK => ?_) AllReadyH.nil)
      rw [if_pos (by rfl)]
      refine wp_fn (f := 12) (xs := #[.agg #[.slice A n c]]) (by first | (go_simp; done) | (go_simp; rfl)) ((HC1.out _ D10.out.below).mono ?_)
      rintro e u11 ⟨A4, c4, rfl, hown4, hb4⟩
      have hbb : Below u10.heap.size u10 u11 := hb4
      have D11 := Lib.hid (D10.out.call hbb)
      have SA_11 := Lib.hid (own_sq hown4 rw_sz (by omega))
      clear hbb hb4
      refine ⟨_, rfl, hK.out _ _ (HS5.out _ D11.out.below) (fun _ => ?_)⟩
      simp only [List.getElem_toArray, List.getElem_cons_zero, List.getElem_cons_succ, Act.put, List.setIfInBounds_toArray, List.set_cons_succ, List.set_cons_zero]
      refine wpAnyH_ready (rs := [3]) (by kernel_rfl) (by simp) (AllReadyH.cons rfl (fun K hK => ?_) AllReadyH.nil)
      rw [if_pos (by rfl)]
      refine wp_fn (f := 12) (xs := #[.agg #[.slice A' n' c']]) (by first | (go_simp; done) | (go_simp; rfl)) ((HC2.out _ D11.out.below).mono ?_)
      rintro e u12 ⟨A5, c5, rfl, hown4, hb4⟩
      have hbb : Below u11.heap.size u11 u12 := hb4
      have D12 := Lib.hid (D11.out.call hbb)
      have SA_12 := Lib.hid ((SA_11.out.below hbb).more hbb.size)
      have SB_12 := Lib.hid (own_sq hown4 rw_sz (by omega))
      clear hbb hb4
      refine ⟨_, rfl, hK.out _ _ (HS5.out _ D12.out.below) (fun _ => ?_)⟩
      simp only [List.getElem_toArray, List.getElem_cons_zero, List.getElem_cons_succ, Act.put, List.setIfInBounds_toArray, List.set_cons_succ, List.set_cons_zero]
      refine wpAnyH_ready (rs := [4]) (by kernel_rfl) (by simp) (AllReadyH.cons rfl (fun K hK => ?_) AllReadyH.nil)
      rw [if_pos (by rfl)]
      refine wp_fn (f := 27) (xs := #[.agg #[.slice A4 n c4], .agg #[.slice A5 n' c5]]) (by first | (go_simp; done) | (go_simp; rfl)) ((HC3.out _ _ _ _ _ SA_12.out SB_12.out).mono ?_)
      rintro e u13 ⟨A6, n6, c6, rfl, hsq6, hb4⟩
      have hbb : Below u12.heap.size u12 u13 := hb4
      have D13 := Lib.hid (D12.out.call hbb)
      have SA_13 := Lib.hid ((SA_12.out.below hbb).more hbb.size)
      have SB_13 := Lib.hid ((SB_12.out.below hbb).more hbb.size)
      have SC_13 := Lib.hid (hsq6)
      clear hbb hb4
      refine ⟨_, rfl, hK.out _ _ (HS5.out _ D13.out.below) (fun _ => ?_)⟩
      simp only [List.getElem_toArray, List.getElem_cons_zero, List.getElem_cons_succ, Act.put, List.setIfInBounds_toArray, List.set_cons_succ, List.set_cons_zero]
      refine wpAnyH_take (i := 5) rfl (by kernel_rfl) (by kernel_rfl) (by kernel_rfl) (fun _ _ _ h => h) (.inl ⟨rfl, fun w' hw' => (by clear hw'; go_simp; rfl)⟩) (HS5.out _ D13.out.below) ?_
      simp only [List.getElem_toArray, List.getElem_cons_zero, List.getElem_cons_succ, Act.put, List.setIfInBounds_toArray, List.set_cons_succ, List.set_cons_zero]
      refine wpAnyH_take (i := 6) rfl (by kernel_rfl) (by kernel_rfl) (by kernel_rfl) (fun _ _ _ h => h) (.inl ⟨rfl, fun w' hw' => (by clear hw'; go_simp; rfl)⟩) (HS5.out _ D13.out.below) ?_
      simp only [List.getElem_toArray, List.getElem_cons_zero, List.getElem_cons_succ, Act.put, List.setIfInBounds_toArray, List.set_cons_succ, List.set_cons_zero]
      refine wpAnyH_take (i := 7) rfl (by kernel_rfl) (by kernel_rfl) (by kernel_rfl) (fun _ _ _ h => h) (.inl ⟨rfl, fun w' hw' => (by clear hw'; go_simp; rfl)⟩) (HS5.out _ D13.out.below) ?_
      simp only [List.getElem_toArray, List.getElem_cons_zero, List.getElem_cons_succ, Act.put, List.setIfInBounds_toArray, List.set_cons_succ, List.set_cons_zero]
      have TD := Lib.hid (D13.out.done SC_13.out ch_noslice (by decide))
      refine wpAnyH_ready (rs := [9]) (by kernel_rfl) (by simp) (AllReadyH.cons rfl (fun K hK => ?_) AllReadyH.nil)
      rw [if_pos (by rfl)]
      refine wp_store_mid _ _ _ rfl _ _ #[.slice A6 n6 c6] rfl rfl (by first | exact D13.out.there | simpa using D13.out.there) (size_edit _ _ _) (by simp [Value.oneCell']) ?_
      refine hK.out _ _ (HS5.out _ TD.out.below) (fun _ => ?_)
      simp only [List.getElem_toArray, List.getElem_cons_zero, List.getElem_cons_succ, Act.put, List.setIfInBounds_toArray, List.set_cons_succ, List.set_cons_zero]
      refine wpAnyH_take (i := 10) rfl (by kernel_rfl) (by kernel_rfl) (by kernel_rfl) (fun _ _ _ h => h) (.inl ⟨rfl, fun w' hw' => (by clear hw'; go_simp; rfl)⟩) (HS5.out _ TD.out.below) ?_
      simp only [List.getElem_toArray, List.getElem_cons_zero, List.getElem_cons_succ, Act.put, List.setIfInBounds_toArray, List.set_cons_succ, List.set_cons_zero]
      refine wpAnyH_done (by kernel_rfl) ?_ _
      refine NoPanic.normal ?_
      go_wp2_with fail
      go_meet
      exact ⟨_, _, _, _, rfl, rfl, TD⟩
  case rest =>
    obtain ⟨B, A2, n2, c2, rfl, rfl, hF⟩ := hcut
    obtain ⟨w4, hw4⟩ : ∃ w4 : World, w4 = wc := ⟨_, rfl⟩
    rw [← hw4] at hF ⊢
    clear hw4
    have G4 := Lib.hid (G3.out.trans (hF.out.below.mono G3.out.size))
    have HB : Hid (∀ W, Below w4.heap.size w4 W → W.cell? ⟨B, 0, none⟩ = some (.slice A2 n2 c2)) := Lib.hid fun W hW => (hF.out.x.below hW hF.out.x.lt).cell (j := 0) rfl
    have HS2 : Hid (∀ W, Below w4.heap.size w4 W → SqC W W.heap.size A2 n2 c2 Lr) := Lib.hid fun W hW => (hF.out.sq.below hW).more hW.size
    have hn2 := hF.out.sq.len
    clear hF HC1 HC2 HC3 HS5 HR
    have HRA := Lib.hid (fun (W : World) (hW : Below w0.heap.size w0 W) => refRight_any (HSm.out _ hW) (show n ≤ 1000000 by omega) HPM.out)
    have HRB := Lib.hid (fun (W : World) (hW : Below w0.heap.size w0 W) => refRight_any (HSn.out _ hW) (show n' ≤ 1000000 by omega) HPN.out)
    have FN : ∀ {qa qb : Bool}, rightR l = qa → rightR l' = qb → True := fun _ _ => trivial
    clear FN
    cases hqa : rightR l with
    | false =>
      have he0 : er = 150 := by rw [← HER.out]; exact err_first hqa
      rw [hqa] at HRA
      subst he0
      have h2 : n2 = 0 := by rw [← hn2, ← HLR.out]; rfl
      subst h2
      clear hn2 hqa
      obtain ⟨q0, q1⟩ := HQ.out _ G4.out
      go_wp2_with fail
      refine (HRA.out _ G4.out).mono ?_
      rintro e w5 ⟨rfl, hb5⟩
      have G5 := Lib.hid (G4.out.trans (hb5.mono G4.out.size))
      have f0 := HB.out _ hb5
      clear hb5 q0 q1
      go_wp2_with fail
      go_ret
      exact ⟨rfl, B0.out.trans (G5.out.mono B0.out.size)⟩
    | true =>
      rw [hqa] at HRA
      obtain ⟨q0, q1⟩ := HQ.out _ G4.out
      cases hqb : rightR l' with
      | false =>
        have he0 : er = 150 := by rw [← HER.out]; exact err_second hqa hqb
        rw [hqb] at HRB
        subst he0
        have h2 : n2 = 0 := by rw [← hn2, ← HLR.out]; rfl
        subst h2
        clear hn2 hqa hqb
        go_wp2_with fail
        refine (HRA.out _ G4.out).mono ?_
        rintro e w5 ⟨rfl, hb5⟩
        have G45 := Lib.hid hb5
        have G5 := Lib.hid (G4.out.trans (hb5.mono G4.out.size))
        clear hb5 q0 q1
        obtain ⟨q0, q1⟩ := HQ.out _ G5.out
        go_wp2_with fail
        refine (HRB.out _ G5.out).mono ?_
        rintro e w6 ⟨rfl, hb5⟩
        have G46 := Lib.hid (G45.out.trans (hb5.mono G45.out.size))
        have G6 := Lib.hid (G5.out.trans (hb5.mono G5.out.size))
        have f0 := HB.out _ G46.out
        clear hb5 q0 q1
        go_wp2_with fail
        go_ret
        exact ⟨rfl, B0.out.trans (G6.out.mono B0.out.size)⟩
      | true =>
        obtain ⟨hval, herr⟩ := err_third hqa hqb
        rw [hqb] at HRB
        rw [HER.out] at herr
        obtain ⟨Lw, hLw⟩ : ∃ Lw, (pathsW Rw.p (pathsW Rw.p [] l) l').flatMap (refD l l') = Lw := ⟨_, rfl⟩
        rw [hLw] at herr hval
        have HLW := Lib.hid hLw
        have HV := Lib.hid hval
        have HE := Lib.hid herr
        clear hqa hqb hLw hval herr
        go_wp2_with fail
        refine (HRA.out _ G4.out).mono ?_
        rintro e w5 ⟨rfl, hb5⟩
        have G45 := Lib.hid hb5
        have G5 := Lib.hid (G4.out.trans (hb5.mono G4.out.size))
        clear hb5 q0 q1
        obtain ⟨q0, q1⟩ := HQ.out _ G5.out
        go_wp2_with fail
        refine (HRB.out _ G5.out).mono ?_
        rintro e w6 ⟨rfl, hb5⟩
        have G46 := Lib.hid (G45.out.trans (hb5.mono G45.out.size))
        have G6 := Lib.hid (G5.out.trans (hb5.mono G5.out.size))
        clear hb5 q0 q1
        obtain ⟨q0, q1⟩ := HQ.out _ G6.out
        have HD := Lib.hid (refDiff_any (HSm.out _ G6.out) (show n ≤ 1000 by omega) (HSn.out _ G6.out) (show n' ≤ 1000 by omega))
        rw [HLW.out] at HD
        go_wp2_with fail
        refine HD.out.mono ?_
        rintro e w7 ⟨⟨A3, n3, c3, rfl, hsq3⟩, hb7⟩
        have G47 := Lib.hid (G46.out.trans (hb7.mono G46.out.size))
        have hn3 := hsq3.len
        clear hb7 q0 q1 HD
        obtain ⟨w8, hw8⟩ : ∃ w8, w7.alloc (.cells #[.slice A3 n3 c3] 27) = w8 := ⟨_, rfl⟩
        have B8 : Hid (Below w7.heap.size w7 w8) := Lib.hid (by rw [← hw8]; exact (Below.refl _ _).alloc (Nat.le_refl _) _)
        have M8 : Hid (Lies w8 w7.heap.size 1 [.slice A3 n3 c3]) := Lib.hid (by rw [← hw8]; exact Lies.new w7 [.slice A3 n3 c3] 27)
        have G48 := Lib.hid (G47.out.trans (B8.out.mono G47.out.size))
        have G8 := Lib.hid (G4.out.trans (G48.out.mono G4.out.size))
        have HS3 := Lib.hid ((hsq3.below B8.out).more B8.out.size)
        have HW := Lib.hid hw8
        clear hsq3 hw8
        go_upto_region 9 with fail
        rw [HW.out]
        clear HW
        have f0 := HB.out _ G48.out
        have m0 := M8.out.cell (j := 0) rfl
        by_cases hov : 32 < (n3 : Int)
        · have d1 : decide (32 < (n3 : Int)) = true := by simpa using hov
          have he0 : er = 151 := by rw [HE.out, if_pos (by omega)]
          subst he0
          have h2 : n2 = 0 := by rw [← hn2, ← HLR.out]; rfl
          subst h2
          clear hn2 hov
          go_wp2_with fail
          go_ret
          exact ⟨rfl, B0.out.trans (G8.out.mono B0.out.size)⟩
        · have d1 : decide (32 < (n3 : Int)) = false := by simpa using hov
          have he0 : er = 0 := by rw [HE.out, if_neg (by omega)]
          subst he0
          have hL : Lr = Lw := by rw [← HLR.out, if_pos rfl]; exact HV.out
          subst hL
          have HSS := Lib.hid (refSameE_any (HS2.out _ G48.out) HS3.out (show n2 ≤ 1000000 by omega))
          rw [sameE_self] at HSS
          clear hn2 hov
          go_wp2_with fail
          refine HSS.out.mono ?_
          rintro e w9 ⟨rfl, hb9⟩
          have G9 := Lib.hid (G8.out.trans (hb9.mono G8.out.size))
          clear hb9 f0 m0
          go_wp2_with fail
          go_ret
          exact ⟨rfl, B0.out.trans (G9.out.mono B0.out.size)⟩

theorem own : ownKnob Try.prog.godebug = none := by kernel_rfl
theorem laidOut : laidOutB Try.prog = true := by kernel_rfl

set_option maxRecDepth 100000 in
theorem lifted (os : Os) (started : os.Started) (H : Type) (enc : TypeId × Value → H) :
    ReturnsInHanded {} Try.checked os 6 .any (Rows.pathmapDiffsSpec.pre6 enc Try.prog Try.f6 Rows.pathmapDiffsRow.domain false) (Rows.pathmapDiffsSpec.post enc Try.prog Try.f6 false true false false) := by
  refine returnsInHanded_of_change (C := Try.checked) own started (by kernel_rfl) Try.func6
    (ChangeSpec.witness6 (enc := enc) (C := Try.checked) false ⟨#[], #[.agg #[.slice none 0 0], .agg #[.slice none 0 0]], []⟩ 8 (by kernel_rfl) (by kernel_rfl) (by kernel_rfl) (by kernel_rfl)) ?_
  intro W base args ds gs before hval0 hW hcnd _
  have hval : ∀ (j : Nat) t v, Try.f6.params[j]? = some t → args[j]? = some v → Value.okWide Try.prog W .any base t v := hval0
  have hW' := hW
  obtain ⟨p, q, hA0, hV, rfl, hfz, hnd⟩ := hW
  have hA : DataW.TrodAll enc Try.prog W 0 (fun _ => true) true Try.f6.params.toList args.toList ds p := hA0
  rw [Try.params6] at hA hval
  obtain ⟨v0, vs0, d0, ds0, p0, q0, hargs, rfl, rfl, h0, r0⟩ := trodAll_cons hA
  obtain ⟨v1, vs1, d1, ds1, p1, q1, rfl, rfl, rfl, h1, r1⟩ := trodAll_cons r0
  obtain ⟨rfl, rfl, rfl⟩ := trodAll_nil r1
  obtain rfl : args = #[v0, v1] := by cases args; simp_all
  obtain ⟨rfl, rfl⟩ := trodVars_none hV
  have k0 := h0
  have lt0 : ∀ x ∈ p0, x.block < W.heap.size := by obtain ⟨m, hm⟩ := k0; exact DataW.trod_lt m _ _ _ hm
  obtain ⟨A0, n0, c0, l0, rfl, s0⟩ := map_arg (hval 0 24 v0 rfl rfl) h0
  have k1 := h1
  have lt1 : ∀ x ∈ p1, x.block < W.heap.size := by obtain ⟨m, hm⟩ := k1; exact DataW.trod_lt m _ _ _ hm
  obtain ⟨A1, n1, c1, l1, rfl, s1⟩ := map_arg (hval 1 24 v1 rfl rfl) h1
  clear hA0 hval0
  refine (walk A0 n0 c0 l0 A1 n1 c1 l1 W s0 s1).mono fun e W' ⟨he, bel⟩ => ?_
  subst he
  exact ⟨_, rfl, _, _, _, [], _, [], hW', trodAll_mk1 (shut_bool Try.underlying4 _), (trodAll_cons_mk (Below.trod laidOut (by kernel_rfl) (of_decide_eq_true (by kernel_rfl)) k0 bel lt0) (trodAll_cons_mk (Below.trod laidOut (by kernel_rfl) (of_decide_eq_true (by kernel_rfl)) k1 bel lt1) trodAll_mk0)), rfl, bel.frame _, fun h => by cases h⟩

theorem over : Rows.pathmapDiffsRow.holds Try.pinned (OpenSpec.ofChange Rows.pathmapDiffsSpec) :=
  OpenClaim.holds_of_wide 6 Try.f6 rfl rfl rfl rfl rfl rfl rfl ⟨rfl, rfl, rfl, rfl, rfl⟩ rfl rfl rfl rfl rfl (by kernel_rfl) Try.func6 (by kernel_rfl)
    (of_decide_eq_true (by kernel_rfl)) (by unfold Func.isWrapper; first | (rw [if_pos (by decide +kernel)]; kernel_rfl) | (rw [if_neg (by decide +kernel)]; exact ⟨rfl, rfl⟩))
    (fun os started H enc _ => lifted os started H enc)

theorem proved : Rows.PathmapDiffsSaid := over
#print axioms proved
end Go.Proofs.Ytjcegafidiifkaa.pathmapDiffs
