/-
  PROVED HERE: what a map has at a path, and the paths of two maps, are those that the document says: at every two maps and every text.
-/
import Derived.Test.YtjcegafidiifkaaWk
import Derived.Test.YtjcegafidiifkaaLb
import Derived.Test.YtjcegafidiifkaaPy
import Derived.Test.YtjcegafidiifkaaCp
import Derived.Test.YtjcegafidiifkaaTm
import Derived.Test.YtjcegafidiifkaaRows
import Derived.ProofKit
import Derived.OpenShut
import Derived.ChangeOld
import Derived.Carry
namespace Go.Proofs.Ytjcegafidiifkaa.pathmapGets
open Go.ChangeShapes Go.WideShapes Go.ChangeAt Go.RowKit
set_option linter.unusedVariables false
set_option linter.unusedSimpArgs false
open Go.Deep
attribute [local irreducible] wpQuiet

set_option maxRecDepth 100000 in
set_option maxHeartbeats 8000000 in
theorem walk (A : Option Addr) (n c : Nat) (l : List Rw) (A' : Option Addr) (n' c' : Nat) (l' : List Rw) (s : ByteArray) (w : World) (h : SqR w w.heap.size A n c l) (h' : SqR w w.heap.size A' n' c' l') :
    Calls Try.prog 4 #[.agg #[.slice A n c], .agg #[.slice A' n' c'], .string s] w fun e w' => e = .returned (.bool true) ∧ Below w.heap.size w w' := by
  obtain ⟨w0, hw0⟩ : ∃ w0, (w.alloc (.cells #[.slice A n c] 24)).alloc (.cells #[.slice A' n' c'] 24) = w0 := ⟨_, rfl⟩
  have B0 : Hid (Below w.heap.size w w0) := Lib.hid (by rw [← hw0]; exact ((Below.refl _ _).alloc (Nat.le_refl _) _).alloc (by simp) _)
  have X0 : Hid (Lies w0 w.heap.size 1 [.slice A n c]) := Lib.hid (by rw [← hw0]; exact (Lies.new w [.slice A n c] 24).alloc _)
  have X1 : Hid (Lies w0 (w.heap.size + 1) 1 [.slice A' n' c']) := Lib.hid (by
    rw [← hw0]
    have := Lies.new (w.alloc (.cells #[.slice A n c] 24)) [.slice A' n' c'] 24
    rwa [World.size_alloc] at this)
  have HSm : Hid (∀ W, Below w0.heap.size w0 W → SqR W W.heap.size A n c l) := Lib.hid fun W hW => (h.below (B0.out.trans (hW.mono B0.out.size))).more (Nat.le_trans B0.out.size hW.size)
  have HSn : Hid (∀ W, Below w0.heap.size w0 W → SqR W W.heap.size A' n' c' l') := Lib.hid fun W hW => (h'.below (B0.out.trans (hW.mono B0.out.size))).more (Nat.le_trans B0.out.size hW.size)
  have HQ : Hid (∀ W, Below w0.heap.size w0 W → W.cell? ⟨w.heap.size, 0, none⟩ = some (.slice A n c) ∧ W.cell? ⟨w.heap.size + 1, 0, none⟩ = some (.slice A' n' c')) := Lib.hid fun W hW =>
    ⟨(X0.out.below hW X0.out.lt).cell (j := 0) rfl, (X1.out.below hW X1.out.lt).cell (j := 0) rfl⟩
  have HR : Hid (∀ w', Below w0.heap.size w0 w' → w'.rangeAt w.heap.size 0 [.slice A n c] ∧ w'.rangeAt (w.heap.size + 1) 0 [.slice A' n' c']) := Lib.hid fun W hW => ⟨(X0.out.below hW X0.out.lt).rg, (X1.out.below hW X1.out.lt).rg⟩
  have HW := Lib.hid hw0
  have hl := h.len
  have hl' := h'.len
  clear hw0 h h'
  go_enter Try.func4, Try.ntmps4
  go_upto_region 1 with fail
  rw [HW.out]
  clear HW
  go_wp2_with fail
  refine (wakes_any w0).mono ?_
  rintro e w1 ⟨rfl, hb1⟩
  have G1 := Lib.hid hb1
  clear hb1
  obtain ⟨q0, q1⟩ := HQ.out _ G1.out
  go_wp2_with fail
  refine (larges_any (HSm.out _ G1.out) (A' := none) (n' := 0) (c' := 0) (Sq.nil_ ch_sz)).mono ?_
  rintro e w2 ⟨(rfl | ⟨rfl, hn, _, hpm, _⟩), hb2⟩
  · have G2 := Lib.hid (G1.out.trans (hb2.mono G1.out.size))
    clear hb2 q0 q1
    go_wp2_with fail
    go_ret
    exact ⟨rfl, B0.out.trans (G2.out.mono B0.out.size)⟩
  have G2 := Lib.hid (G1.out.trans (hb2.mono G1.out.size))
  clear hb2 q0 q1 hpm
  obtain ⟨q0, q1⟩ := HQ.out _ G2.out
  go_wp2_with fail
  refine (larges_any (HSn.out _ G2.out) (A' := none) (n' := 0) (c' := 0) (Sq.nil_ ch_sz)).mono ?_
  rintro e w3 ⟨(rfl | ⟨rfl, hn', _, hpn, _⟩), hb3⟩
  · have G3 := Lib.hid (G2.out.trans (hb3.mono G2.out.size))
    clear hb3 q0 q1
    go_wp2_with fail
    go_ret
    exact ⟨rfl, B0.out.trans (G3.out.mono B0.out.size)⟩
  have G3 := Lib.hid (G2.out.trans (hb3.mono G2.out.size))
  clear hb3 q0 q1 hpn
  obtain ⟨q0, q1⟩ := HQ.out _ G3.out
  obtain ⟨tx, htx⟩ : ∃ tx, textR (findW Rw.p l s) = tx := ⟨_, rfl⟩
  obtain ⟨ix, hix⟩ : ∃ ix, (findW Rw.p l s).isSome = ix := ⟨_, rfl⟩
  obtain ⟨ps, hps⟩ : ∃ ps, pathsW Rw.p (pathsW Rw.p [] l) l' = ps := ⟨_, rfl⟩
  have HX := Lib.hid htx
  have HI := Lib.hid hix
  have HP := Lib.hid hps
  clear htx hix hps
  go_wp2_with fail
  refine (copied_any (HSm.out _ G3.out) (show n ≤ 1000000 by omega)).mono ?_
  rintro e w4 ⟨A3, c3, rfl, hown, hb4⟩
  have G4 := Lib.hid (G3.out.trans (hb4.mono G3.out.size))
  have HG1 := Get_any (own_sq hown rw_sz (by omega)) (show n ≤ 1000000 by omega) s
  rw [HX.out, HI.out] at HG1
  have HG1 := Lib.hid HG1
  clear hb4 q0 q1 hown
  go_wp2_with fail
  refine HG1.out.mono ?_
  rintro e w5 ⟨rfl, hb5⟩
  have G5 := Lib.hid (G4.out.trans (hb5.mono G4.out.size))
  have HG2 := refGet_any (HSm.out _ G5.out) (show n ≤ 1000000 by omega) s
  rw [HX.out, HI.out] at HG2
  have HG2 := Lib.hid HG2
  obtain ⟨q0, q1⟩ := HQ.out _ G5.out
  clear hb5 HG1
  go_wp2_with fail
  refine HG2.out.mono ?_
  rintro e w6 ⟨rfl, hb6⟩
  have G6 := Lib.hid (G5.out.trans (hb6.mono G5.out.size))
  clear hb6 HG2 q0 q1
  have HC1 := Lib.hid (fun (W : World) (hW : Below w6.heap.size w6 W) => copied_any (HSm.out _ (G6.out.trans (hW.mono G6.out.size))) (show n ≤ 1000000 by omega))
  have HC2 := Lib.hid (fun (W : World) (hW : Below w6.heap.size w6 W) => copied_any (HSn.out _ (G6.out.trans (hW.mono G6.out.size))) (show n' ≤ 1000000 by omega))
  have HS7 := Lib.hid (fun (W : World) (hW : Below w6.heap.size w6 W) => HR.out _ (G6.out.trans (hW.mono G6.out.size)))
  go_upto_region 7 with fail
  have hb0 := (Below.refl w6.heap.size w6).drew
  refine wp_region_noPanic ?_
  refine wp_region_held_drew (S := fun w' => w'.rangeAt w.heap.size 0 [.slice A n c] ∧ w'.rangeAt (w.heap.size + 1) 0 [.slice A' n' c']) (by kernel_rfl) (HS7.out _ hb0) (fun _ => ?_)
  refine wpAnyH_take (i := 0) rfl (by kernel_rfl) (by kernel_rfl) (by kernel_rfl) (fun _ _ _ h => h) (yieldsIf_load_mid rfl 24 _ rfl (w.heap.size) (0) rfl ([.slice A n c]) _ (fun w' hw' => hw'.1) Try.underlying24 rfl (size_map _ _ _)) (HS7.out _ hb0) ?_
  simp only [List.getElem_toArray, List.getElem_cons_zero, List.getElem_cons_succ, Act.put, List.setIfInBounds_toArray, List.set_cons_succ, List.set_cons_zero]
  refine wpAnyH_take (i := 2) rfl (by kernel_rfl) (by kernel_rfl) (by kernel_rfl) (fun _ _ _ h => h) (yieldsIf_load_mid rfl 24 _ rfl (w.heap.size + 1) (0) rfl ([.slice A' n' c']) _ (fun w' hw' => hw'.2) Try.underlying24 rfl (size_map _ _ _)) (HS7.out _ hb0) ?_
  simp only [List.getElem_toArray, List.getElem_cons_zero, List.getElem_cons_succ, Act.put, List.setIfInBounds_toArray, List.set_cons_succ, List.set_cons_zero]
  refine wpAnyH_ready (rs := [1]) (by kernel_rfl) (by simp) (AllReadyH.cons rfl (fun K hK => ?_) AllReadyH.nil)
  rw [if_pos (by rfl)]
  refine wp_fn (f := 12) (xs := #[.agg #[.slice A n c]]) (by first | (go_simp; done) | (go_simp; rfl)) ((HC1.out _ hb0).mono ?_)
  rintro e u1 ⟨A4, c4, rfl, hown4, hb4⟩
  have hb1 := hb0.trans (hb4.mono hb0.size)
  have SA := Lib.hid (own_sq hown4 rw_sz (by omega))
  clear hown4 hb4
  refine ⟨_, rfl, hK.out _ _ (HS7.out _ hb1) (fun _ => ?_)⟩
  simp only [List.getElem_toArray, List.getElem_cons_zero, List.getElem_cons_succ, Act.put, List.setIfInBounds_toArray, List.set_cons_succ, List.set_cons_zero]
  refine wpAnyH_ready (rs := [3]) (by kernel_rfl) (by simp) (AllReadyH.cons rfl (fun K hK => ?_) AllReadyH.nil)
  rw [if_pos (by rfl)]
  refine wp_fn (f := 12) (xs := #[.agg #[.slice A' n' c']]) (by first | (go_simp; done) | (go_simp; rfl)) ((HC2.out _ hb1).mono ?_)
  rintro e u2 ⟨A5, c5, rfl, hown4, hb4⟩
  have hb2 := hb1.trans (hb4.mono hb1.size)
  have SB := Lib.hid (own_sq hown4 rw_sz (by omega))
  have SA2 := Lib.hid ((SA.out.below hb4).more hb4.size)
  clear hown4 hb4 SA
  refine ⟨_, rfl, hK.out _ _ (HS7.out _ hb2) (fun _ => ?_)⟩
  simp only [List.getElem_toArray, List.getElem_cons_zero, List.getElem_cons_succ, Act.put, List.setIfInBounds_toArray, List.set_cons_succ, List.set_cons_zero]
  refine wpAnyH_ready (rs := [4]) (by kernel_rfl) (by simp) (AllReadyH.cons rfl (fun K hK => ?_) AllReadyH.nil)
  rw [if_pos (by rfl)]
  refine wp_two_maps _ _ rfl A4 A5 n c4 n' c5 rfl rfl ?_
  have hb3 := hb2.alloc hb2.size (.cells #[.slice A4 n c4, .slice A5 n' c5] 24)
  have hbb : Below u2.heap.size u2 (u2.alloc (.cells #[.slice A4 n c4, .slice A5 n' c5] 24)) := (Below.refl _ _).alloc (Nat.le_refl _) _
  have SQ := Lib.hid (two_sq A4 A5 n c4 n' c5 l l' u2)
  have SA3 := Lib.hid ((SA2.out.below hbb).more hbb.size)
  have SB3 := Lib.hid ((SB.out.below hbb).more hbb.size)
  clear hbb SA2 SB
  refine hK.out _ _ (HS7.out _ hb3) (fun _ => ?_)
  simp only [List.getElem_toArray, List.getElem_cons_zero, List.getElem_cons_succ, Act.put, List.setIfInBounds_toArray, List.set_cons_succ, List.set_cons_zero]
  generalize u2.heap.size = b2 at SQ ⊢
  generalize u2.alloc (.cells #[.slice A4 n c4, .slice A5 n' c5] 24) = u3 at hb3 SQ SA3 SB3 ⊢
  refine wpAnyH_ready (rs := [5]) (by kernel_rfl) (by simp) (AllReadyH.cons rfl (fun K hK => ?_) AllReadyH.nil)
  rw [if_pos (by rfl)]
  refine wp_fn (f := 23) (xs := #[.slice (some ⟨b2, 0, none⟩) 2 2]) (by first | (go_simp; done) | (go_simp; rfl)) ((Paths_any SQ.out (mp_all2 ⟨SA3.out, by show n ≤ 1000; omega⟩ ⟨SB3.out, by show n' ≤ 1000; omega⟩) (by omega)).mono ?_)
  rintro e w7 ⟨⟨A7, n7, c7, rfl, hn7, hs7⟩, hb4⟩
  have hb5 := hb3.trans (hb4.mono hb3.size)
  clear hb4
  refine ⟨_, rfl, hK.out _ _ (HS7.out _ hb5) (fun _ => ?_)⟩
  simp only [List.getElem_toArray, List.getElem_cons_zero, List.getElem_cons_succ, Act.put, List.setIfInBounds_toArray, List.set_cons_succ, List.set_cons_zero]
  refine wpAnyH_take (i := 6) rfl (by kernel_rfl) (by kernel_rfl) (by kernel_rfl) (fun _ _ _ h => h) (.inl ⟨rfl, fun w' hw' => (by clear hw'; go_simp; rfl)⟩) (HS7.out _ hb5) ?_
  simp only [List.getElem_toArray, List.getElem_cons_zero, List.getElem_cons_succ, Act.put, List.setIfInBounds_toArray, List.set_cons_succ, List.set_cons_zero]
  refine wpAnyH_done (by kernel_rfl) ?_ _
  refine NoPanic.normal ?_
  have G7 := Lib.hid (G6.out.trans (hb5.mono G6.out.size))
  have SP : Hid (∀ W, Below w7.heap.size w7 W → SqS W W.heap.size A7 n7 c7 ps) := Lib.hid (fun W hW => by
    rw [← HP.out, ← pathsW_app]
    have h := hs7
    simp only [List.flatMap_cons, List.flatMap_nil, List.append_nil] at h
    exact (h.below hW).more hW.size)
  clear hs7 hb0 hb1 hb2 hb3 hb5 SQ SA3 SB3 HC1 HC2 HS7
  have HM8 := Lib.hid (fun (W : World) (hW : Below w7.heap.size w7 W) => HSm.out _ (G7.out.trans (hW.mono G7.out.size)))
  have HN8 := Lib.hid (fun (W : World) (hW : Below w7.heap.size w7 W) => HSn.out _ (G7.out.trans (hW.mono G7.out.size)))
  have HS8 := Lib.hid (fun (W : World) (hW : Below w7.heap.size w7 W) => HR.out _ (G7.out.trans (hW.mono G7.out.size)))
  go_wp2_with fail
  have hb0 := (Below.refl w7.heap.size w7).drew
  refine wp_region_noPanic ?_
  refine wp_region_held_drew (S := fun w' => w'.rangeAt w.heap.size 0 [.slice A n c] ∧ w'.rangeAt (w.heap.size + 1) 0 [.slice A' n' c']) (by kernel_rfl) (HS8.out _ hb0) (fun _ => ?_)
  refine wpAnyH_take (i := 0) rfl (by kernel_rfl) (by kernel_rfl) (by kernel_rfl) (fun _ _ _ h => h) (yieldsIf_load_mid rfl 24 _ rfl (w.heap.size) (0) rfl ([.slice A n c]) _ (fun w' hw' => hw'.1) Try.underlying24 rfl (size_map _ _ _)) (HS8.out _ hb0) ?_
  simp only [List.getElem_toArray, List.getElem_cons_zero, List.getElem_cons_succ, Act.put, List.setIfInBounds_toArray, List.set_cons_succ, List.set_cons_zero]
  refine wpAnyH_take (i := 2) rfl (by kernel_rfl) (by kernel_rfl) (by kernel_rfl) (fun _ _ _ h => h) (yieldsIf_load_mid rfl 24 _ rfl (w.heap.size + 1) (0) rfl ([.slice A' n' c']) _ (fun w' hw' => hw'.2) Try.underlying24 rfl (size_map _ _ _)) (HS8.out _ hb0) ?_
  simp only [List.getElem_toArray, List.getElem_cons_zero, List.getElem_cons_succ, Act.put, List.setIfInBounds_toArray, List.set_cons_succ, List.set_cons_zero]
  refine wpAnyH_ready (rs := [1]) (by kernel_rfl) (by simp) (AllReadyH.cons rfl (fun K hK => ?_) AllReadyH.nil)
  rw [if_pos (by rfl)]
  refine wp_fn (f := 24) (xs := #[.slice none 0 0, .agg #[.slice A n c]]) (by first | (go_simp; done) | (go_simp; rfl)) ((refPaths_any (Sq.nil_ sc_sz) (show 0 ≤ 10000 by omega) (HM8.out _ hb0) (show n ≤ 10000 by omega)).mono ?_)
  rintro e u1 ⟨⟨A4, n4, c4, rfl, hn4, hsq4⟩, hb4⟩
  have hb1 := hb0.trans (hb4.mono hb0.size)
  have SA := Lib.hid hsq4
  clear hsq4 hb4
  refine ⟨_, rfl, hK.out _ _ (HS8.out _ hb1) (fun _ => ?_)⟩
  simp only [List.getElem_toArray, List.getElem_cons_zero, List.getElem_cons_succ, Act.put, List.setIfInBounds_toArray, List.set_cons_succ, List.set_cons_zero]
  refine wpAnyH_ready (rs := [3]) (by kernel_rfl) (by simp) (AllReadyH.cons rfl (fun K hK => ?_) AllReadyH.nil)
  rw [if_pos (by rfl)]
  refine wp_fn (f := 24) (xs := #[.slice A4 n4 c4, .agg #[.slice A' n' c']]) (by first | (go_simp; done) | (go_simp; rfl)) ((refPaths_any SA.out (show n4 ≤ 10000 by omega) (HN8.out _ hb1) (show n' ≤ 10000 by omega)).mono ?_)
  rintro e w8 ⟨⟨A8, n8, c8, rfl, hn8, hsq8⟩, hb4⟩
  have hb2 := hb1.trans (hb4.mono hb1.size)
  clear hb4
  refine ⟨_, rfl, hK.out _ _ (HS8.out _ hb2) (fun _ => ?_)⟩
  simp only [List.getElem_toArray, List.getElem_cons_zero, List.getElem_cons_succ, Act.put, List.setIfInBounds_toArray, List.set_cons_succ, List.set_cons_zero]
  refine wpAnyH_take (i := 4) rfl (by kernel_rfl) (by kernel_rfl) (by kernel_rfl) (fun _ _ _ h => h) (.inl ⟨rfl, fun w' hw' => (by clear hw'; go_simp; rfl)⟩) (HS8.out _ hb2) ?_
  simp only [List.getElem_toArray, List.getElem_cons_zero, List.getElem_cons_succ, Act.put, List.setIfInBounds_toArray, List.set_cons_succ, List.set_cons_zero]
  refine wpAnyH_done (by kernel_rfl) ?_ _
  refine NoPanic.normal ?_
  have G78 := Lib.hid hb2
  have SR : Hid (∀ W, Below w8.heap.size w8 W → SqS W W.heap.size A8 n8 c8 ps) := Lib.hid (fun W hW => by
    rw [← HP.out]
    exact (hsq8.below hW).more hW.size)
  clear hsq8 hb0 hb1 hb2 SA HM8 HN8 HS8
  have hn78 : n8 = n7 := by
    have h1 := (SP.out _ (Below.refl _ _)).len
    have h2 := (SR.out _ (Below.refl _ _)).len
    omega
  subst hn78
  have d1 : (tx.toList == tx.toList) = true := by simp
  have d2 : (ix != ix) = false := by simp
  have d3 : ((n8 : Int) == (n8 : Int)) = true := by simp
  have d4 : ((n8 : Int) != (n8 : Int)) = false := by simp
  have HNP := Paths_any (w := w8) (A := none) (n := 0) (c := 0) (ms := []) (Sq.nil_ mp_sz) (by simp) (by omega)
  rw [show pathsW Rw.p [] (([] : List Mp).flatMap (·.l)) = [] from rfl] at HNP
  have HNP := Lib.hid HNP
  go_wp2_with fail
  refine HNP.out.mono ?_
  rintro e w9 ⟨⟨A9, n9, c9, rfl, hn9, hs9⟩, hb9⟩
  have e9 : n9 = 0 := by have := hs9.len; simpa using this.symm
  subst e9
  have B9 := Lib.hid hb9
  clear hs9 hb9 hn9 HNP
  go_wp2_with fail
  go_loopw [69] (fun i wr => ∃ k : Nat, k ≤ n8 ∧ i = .int .i64 (k : Int) ∧ Hid (Below w9.heap.size w9 wr)) (fun i _ => n8 - (intOf i).toNat)
  case atStart => exact ⟨0, Nat.zero_le _, rfl, Lib.hid (Below.refl _ _)⟩
  case round =>
    obtain ⟨k, hk, rfl, hb⟩ := hrel
    have B8 := Lib.hid (B9.out.trans (hb.out.mono B9.out.size))
    by_cases hlt : k < n8
    · have hd : decide ((k : Int) < (n8 : Int)) = true := by simp; omega
      have hk0 : (0 : Int) ≤ (k : Int) := Int.natCast_nonneg _
      have hk1 : (k : Int) < (n8 : Int) := by omega
      obtain ⟨b, o, rfl, hbl, hrg⟩ := (SP.out _ (G78.out.trans (B8.out.mono G78.out.size))).at_ hlt
      obtain ⟨b', o', rfl, hbl', hrg'⟩ := (SR.out _ B8.out).at_ hlt
      obtain ⟨r, hr⟩ : ∃ r, ps[k]'(by have := (SR.out _ B8.out).len; omega) = r := ⟨_, rfl⟩
      rw [hr] at hrg hrg'
      have r0 : wr.cell? ⟨b, o + k, none⟩ = some (.string r) := by have := hrg 0 _ rfl; simpa using this
      have s0 : wr.cell? ⟨b', o' + k, none⟩ = some (.string r) := by have := hrg' 0 _ rfl; simpa using this
      have d5 : (r.toList == r.toList) = true := by simp
      clear hrg hrg' hr hbl hbl'
      go_wp2_with fail
      go_quiet (fail)
      go_wp2_with fail
      go_roundw
      case rel => exact ⟨k + 1, by omega, by go_num, Lib.hid (below_drewN hb.out _)⟩
      case measure => simp [intOf]; omega
    · have hd : decide ((k : Int) < (n8 : Int)) = false := by simp; omega
      go_wp2_with fail
      go_ret
      exact ⟨rfl, B0.out.trans ((G7.out.trans ((G78.out.trans (B8.out.mono G78.out.size)).mono G7.out.size)).mono B0.out.size)⟩

theorem own : ownKnob Try.prog.godebug = none := by kernel_rfl
theorem laidOut : laidOutB Try.prog = true := by kernel_rfl

set_option maxRecDepth 100000 in
theorem lifted (os : Os) (started : os.Started) (H : Type) (enc : TypeId × Value → H) :
    ReturnsInHanded {} Try.checked os 4 .any (Rows.pathmapGetsSpec.pre6 enc Try.prog Try.f4 Rows.pathmapGetsRow.domain false) (Rows.pathmapGetsSpec.post enc Try.prog Try.f4 false true false false) := by
  refine returnsInHanded_of_change (C := Try.checked) own started (by kernel_rfl) Try.func4
    (ChangeSpec.witness6 (enc := enc) (C := Try.checked) false ⟨#[], #[.agg #[.slice none 0 0], .agg #[.slice none 0 0], .string ByteArray.empty], []⟩ 8 (by kernel_rfl) (by kernel_rfl) (by kernel_rfl) (by kernel_rfl)) ?_
  intro W base args ds gs before hval0 hW hcnd _
  have hval : ∀ (j : Nat) t v, Try.f4.params[j]? = some t → args[j]? = some v → Value.okWide Try.prog W .any base t v := hval0
  have hW' := hW
  obtain ⟨p, q, hA0, hV, rfl, hfz, hnd⟩ := hW
  have hA : DataW.TrodAll enc Try.prog W 0 (fun _ => true) true Try.f4.params.toList args.toList ds p := hA0
  rw [Try.params4] at hA hval
  obtain ⟨v0, vs0, d0, ds0, p0, q0, hargs, rfl, rfl, h0, r0⟩ := trodAll_cons hA
  obtain ⟨v1, vs1, d1, ds1, p1, q1, rfl, rfl, rfl, h1, r1⟩ := trodAll_cons r0
  obtain ⟨v2, vs2, d2, ds2, p2, q2, rfl, rfl, rfl, h2, r2⟩ := trodAll_cons r1
  obtain ⟨rfl, rfl, rfl⟩ := trodAll_nil r2
  obtain rfl : args = #[v0, v1, v2] := by cases args; simp_all
  obtain ⟨rfl, rfl⟩ := trodVars_none hV
  have k0 := h0
  have lt0 : ∀ x ∈ p0, x.block < W.heap.size := by obtain ⟨m, hm⟩ := k0; exact DataW.trod_lt m _ _ _ hm
  obtain ⟨A0, n0, c0, l0, rfl, s0⟩ := map_arg (hval 0 24 v0 rfl rfl) h0
  have k1 := h1
  have lt1 : ∀ x ∈ p1, x.block < W.heap.size := by obtain ⟨m, hm⟩ := k1; exact DataW.trod_lt m _ _ _ hm
  obtain ⟨A1, n1, c1, l1, rfl, s1⟩ := map_arg (hval 1 24 v1 rfl rfl) h1
  have k2 := h2
  have lt2 : ∀ x ∈ p2, x.block < W.heap.size := by obtain ⟨m, hm⟩ := k2; exact DataW.trod_lt m _ _ _ hm
  obtain ⟨a2, rfl⟩ := okWide_string Try.underlying9 (hval 2 9 v2 rfl rfl)
  clear hA0 hval0
  refine (walk A0 n0 c0 l0 A1 n1 c1 l1 a2 W s0 s1).mono fun e W' ⟨he, bel⟩ => ?_
  subst he
  exact ⟨_, rfl, _, _, _, [], _, [], hW', trodAll_mk1 (shut_bool Try.underlying4 _), (trodAll_cons_mk (Below.trod laidOut (by kernel_rfl) (of_decide_eq_true (by kernel_rfl)) k0 bel lt0) (trodAll_cons_mk (Below.trod laidOut (by kernel_rfl) (of_decide_eq_true (by kernel_rfl)) k1 bel lt1) (trodAll_cons_mk (Below.trod laidOut (by kernel_rfl) (of_decide_eq_true (by kernel_rfl)) k2 bel lt2) trodAll_mk0))), rfl, bel.frame _, fun h => by cases h⟩

theorem over : Rows.pathmapGetsRow.holds Try.pinned (OpenSpec.ofChange Rows.pathmapGetsSpec) :=
  OpenClaim.holds_of_wide 4 Try.f4 rfl rfl rfl rfl rfl rfl rfl ⟨rfl, rfl, rfl, rfl, rfl⟩ rfl rfl rfl rfl rfl (by kernel_rfl) Try.func4 (by kernel_rfl)
    (of_decide_eq_true (by kernel_rfl)) (by unfold Func.isWrapper; first | (rw [if_pos (by decide +kernel)]; kernel_rfl) | (rw [if_neg (by decide +kernel)]; exact ⟨rfl, rfl⟩))
    (fun os started H enc _ => lifted os started H enc)

theorem proved : Rows.PathmapGetsSaid := over
#print axioms proved
end Go.Proofs.Ytjcegafidiifkaa.pathmapGets
