/-
  COMMANDS: Decode, walked.
-/
import Derived.Test.YthionkcnmkhopaaEk
namespace Go.Proofs.Ythionkcnmkhopaa
set_option linter.unusedVariables false
set_option linter.unusedSimpArgs false
open Go.RowKit Go.WideShapes Go.ChangeShapes Go.Deep
attribute [local irreducible] wpQuiet

theorem De.th {w W : World} {g bx B : Nat} {s : St} {cf : Cf} (h : De w g bx s B cf W) (o k : Nat) (hk : o + k ≤ 69) : W.there B o k := fun i hi => by have := h.x.th (o + i) (by omega); rwa [Nat.zero_add] at this
theorem grown_sc (w : World) (b o : Nat) (vs : List Value) : w.grownBy (w.setCells b o vs) (some b) :=
  ⟨(setCells_os b vs o w).1, (setCells_os b vs o w).2.1, (setCells_os b vs o w).2.2.1, Nat.le_of_eq (setCells_os b vs o w).2.2.2.1.symm, fun k _ hn => (setCells_os b vs o w).2.2.2.2 k (by simpa using hn)⟩
theorem CmdRes.zero (w : World) : CmdRes (cfV zCf) zCv w := ⟨⟨none, 0, 0⟩, rfl, SlB.nil_.more (Nat.zero_le _), by decide, by decide, by decide⟩
theorem okC_at (x : Cv) (D : Sl) (h : D.n = x.data.length) : okF (x.at_ D) D.n = okC x := by
  rw [h]
  rfl
set_option maxRecDepth 100000 in
set_option maxHeartbeats 8000000 in
theorem Decode_any {w : World} {A : Option Addr} {n c : Nat} {l : List UInt8} (hs : SlB w w.heap.size A n c l) (hn : n ≤ 1000000) :
    Calls Try.prog 14 #[.slice A n c] w fun x w' => (∃ v, x = .returned (.tuple #[v, .int .i64 (decW l).2]) ∧ CmdRes v (decW l).1 w') ∧ Below w.heap.size w w' := by
  obtain ⟨D, hD⟩ : ∃ d, decW l = d := ⟨_, rfl⟩
  have HDD := Lib.hid hD
  rw [hD]
  clear hD
  obtain ⟨zz, hzz⟩ : ∃ z, zCf = z := ⟨_, rfl⟩
  have ZO : Hid (∀ w : World, (zeroValue 27).run Try.prog w = .ok (.agg zz.cells.toArray) w) := Lib.hid (by rw [← hzz]; exact zero_cf)
  have BZ : Hid (Try.prog.built 27 [] = some zz.cells.toArray) := Lib.hid (by rw [← hzz]; exact built_cfz)
  have ZZ1 : Hid (zz.dv.oneCell' = true) := Lib.hid (by rw [← hzz]; rfl)
  obtain ⟨w1, hw1⟩ : ∃ w1, w.alloc (.cells zz.cells.toArray 27) = w1 := ⟨_, rfl⟩
  have s1 : w1.heap.size = w.heap.size + 1 := by rw [← hw1]; simp
  have B1 : Hid (Below w.heap.size w w1) := Lib.hid (by rw [← hw1]; exact (Below.refl _ _).alloc (Nat.le_refl _) _)
  have Y1 : Hid (Lies w1 w.heap.size 69 zz.cells) := Lib.hid (by
    rw [← hw1]
    have := Lies.new w zz.cells 27
    rwa [cf_sz] at this)
  have S1 : Hid (SlB w1 w1.heap.size A n c l) := Lib.hid ((hs.below B1.out).more (by omega))
  have hln := hs.len
  have HW1 := Lib.hid hw1
  have HZZ := Lib.hid hzz
  clear hw1 hs hzz
  go_enter Try.func14, Try.ntmps14
  go_upto_region 1 with (first
    | ((with_reducible refine alt 27 ?_ ?_ zz.cells ZO.out ?_); rfl; rfl; rw [HW1.out]; (try simp only [Act.put, List.setIfInBounds_toArray, List.set_cons_succ, List.set_cons_zero]))
    | fail)
  go_upto_region 2 with (first
    | (go_at_call 24; refine (read_any S1.out (Nat.le_refl _) (by omega)).mono ?_; rintro e w2 ⟨g, hg, rfl, hR2, hb2⟩)
    | fail)
  obtain ⟨w3, hw3⟩ : ∃ w3, w2.alloc (.cells #[rp g] 46) = w3 := ⟨_, rfl⟩
  have b23 : Below w2.heap.size w2 w3 := by rw [← hw3]; exact (Below.refl _ _).alloc (Nat.le_refl _) _
  obtain ⟨bx, hbx⟩ : ∃ b, w2.heap.size = b := ⟨_, rfl⟩
  have K3 : w3.cell? ⟨bx, 0, none⟩ = some (rp g) := by rw [← hw3, ← hbx]; exact (Lies.new w2 [rp g] 46).cell rfl
  obtain ⟨s0, hs0⟩ : ∃ s : St, (l, (0 : Int)) = s := ⟨_, rfl⟩
  have z2 := hb2.size
  have D3 : Hid (Dc w g bx s0 w3) := Lib.hid (by
    rw [← hs0]
    have hgl := hR2.lt
    exact ⟨(B1.out.trans (hb2.mono B1.out.size)).trans (b23.mono (by omega)), ⟨hR2.below b23 hgl, by show l.length ≤ _; omega⟩, K3, by rw [HZZ.out]; exact (Y1.out.below hb2 (by omega)).below b23 (by omega), by omega, by omega, by omega⟩)
  rw [show w2.alloc (.cells #[.pointer (some ⟨g, 0, none⟩)] 46) = w3 from hw3, hbx]
  clear hw3 b23 K3 hR2 hb2 hbx z2 Y1 B1 S1 HW1 s1 hg
  obtain ⟨q1, hq1⟩ : ∃ s, s0.s 1 = s := ⟨_, rfl⟩
  obtain ⟨q2, hq2⟩ : ∃ s, q1.s 1 = s := ⟨_, rfl⟩
  obtain ⟨q3, hq3⟩ : ∃ s, q2.s 4 = s := ⟨_, rfl⟩
  obtain ⟨q4, hq4⟩ : ∃ s, q3.s 1 = s := ⟨_, rfl⟩
  obtain ⟨nb, hnb⟩ : ∃ k, q3.nm 1 = k := ⟨_, rfl⟩
  obtain ⟨q5, hq5⟩ : ∃ s, q4.s nb = s := ⟨_, rfl⟩
  obtain ⟨q6, hq6⟩ : ∃ s, q5.s 32 = s := ⟨_, rfl⟩
  obtain ⟨q7, hq7⟩ : ∃ s, q6.s 32 = s := ⟨_, rfl⟩
  obtain ⟨q8, hq8⟩ : ∃ s, q7.s 2 = s := ⟨_, rfl⟩
  obtain ⟨nd, hnd⟩ : ∃ k, q7.nm 2 = k := ⟨_, rfl⟩
  obtain ⟨q9, hq9⟩ : ∃ s, q8.s nd = s := ⟨_, rfl⟩
  obtain ⟨k0, hk0⟩ : ∃ k, s0.nm 1 = k := ⟨_, rfl⟩
  obtain ⟨k1, hk1⟩ : ∃ k, q1.nm 1 = k := ⟨_, rfl⟩
  obtain ⟨k2, hk2⟩ : ∃ k, q2.nm 4 = k := ⟨_, rfl⟩
  obtain ⟨br, hbr⟩ : ∃ b : List UInt8, q4.t nb = b := ⟨_, rfl⟩
  obtain ⟨io, hio⟩ : ∃ i, idT q5 = i := ⟨_, rfl⟩
  obtain ⟨iw, hiw⟩ : ∃ i, idT q6 = i := ⟨_, rfl⟩
  obtain ⟨dt, hdt⟩ : ∃ b : List UInt8, q8.t nd = b := ⟨_, rfl⟩
  obtain ⟨bs, hbs⟩ : ∃ b : ByteArray, (⟨br.toArray⟩ : ByteArray) = b := ⟨_, rfl⟩
  have HP : Hid (parC s0 = (⟨(k0 : Int), (k1 : Int), k2, bs, io, iw, dt⟩, q9)) := Lib.hid (by
    subst hbs hbr hio hiw hdt hk0 hk1 hk2 hq9 hnd hq8 hq7 hq6 hq5 hnb hq4 hq3 hq2 hq1
    rfl)
  have k0l : k0 < 256 := by rw [← hk0]; exact nm_le s0 1
  have k1l : k1 < 256 := by rw [← hk1]; exact nm_le q1 1
  have k2l : k2 < 4294967296 := by rw [← hk2]; exact nm_le q2 4
  have nbl : nb < 256 := by rw [← hnb]; exact nm_le q3 1
  have ndl : nd < 65536 := by rw [← hnd]; exact nm_le q7 2
  have brl : br.length ≤ 255 := by rw [← hbr]; have := t_len q4 nb; omega
  have dtl : dt.length ≤ 65535 := by rw [← hdt]; have := t_len q8 nd; omega
  have C1 : Hid (∀ W, RdS W g s0 → Calls Try.prog 27 #[rp g] W fun e w' => e = .returned (.int .u8 (k0 : Nat)) ∧ RdS w' g q1 ∧ W.grownBy w' (some g)) := Lib.hid fun W h => by rw [← hk0, ← hq1]; exact u8_st h
  have C2 : Hid (∀ W, RdS W g q1 → Calls Try.prog 27 #[rp g] W fun e w' => e = .returned (.int .u8 (k1 : Nat)) ∧ RdS w' g q2 ∧ W.grownBy w' (some g)) := Lib.hid fun W h => by rw [← hk1, ← hq2]; exact u8_st h
  have C3 : Hid (∀ W, RdS W g q2 → Calls Try.prog 28 #[rp g] W fun e w' => e = .returned (.int .u32 (k2 : Nat)) ∧ RdS w' g q3 ∧ W.grownBy w' (some g)) := Lib.hid fun W h => by rw [← hk2, ← hq3]; exact u32_st h
  have C4 : Hid (∀ W, RdS W g q3 → Calls Try.prog 27 #[rp g] W fun e w' => e = .returned (.int .u8 (nb : Nat)) ∧ RdS w' g q4 ∧ W.grownBy w' (some g)) := Lib.hid fun W h => by rw [← hnb, ← hq4]; exact u8_st h
  have C5 : Hid (∀ W, RdS W g q4 → Calls Try.prog 26 #[rp g, .int .i64 (nb : Int)] W fun e w' => (∃ b, W.heap.size ≤ b ∧ e = .returned (.slice (some ⟨b, 0, none⟩) br.length br.length) ∧ Bl w' b 5 (bvs br)) ∧ RdS w' g q5 ∧ W.grownBy w' (some g)) := Lib.hid fun W h => by rw [← hbr, ← hq5]; exact raw_st h nb (by omega)
  have C6 : Hid (∀ W, Dc w g bx q5 W → Calls Try.prog 25 #[.pointer (some ⟨bx, 0, none⟩)] W fun e w' => e = .returned (idV io) ∧ RdS w' g q6 ∧ W.grownBy w' (some g)) := Lib.hid fun W h => by rw [← hio, ← hq6]; exact idc_any h.r h.k h.hn
  have C7 : Hid (∀ W, Dc w g bx q6 W → Calls Try.prog 25 #[.pointer (some ⟨bx, 0, none⟩)] W fun e w' => e = .returned (idV iw) ∧ RdS w' g q7 ∧ W.grownBy w' (some g)) := Lib.hid fun W h => by rw [← hiw, ← hq7]; exact idc_any h.r h.k h.hn
  have C8 : Hid (∀ W, RdS W g q7 → Calls Try.prog 29 #[rp g] W fun e w' => e = .returned (.int .u16 (nd : Nat)) ∧ RdS w' g q8 ∧ W.grownBy w' (some g)) := Lib.hid fun W h => by rw [← hnd, ← hq8]; exact u16_st h
  have C9 : Hid (∀ W, RdS W g q8 → Calls Try.prog 26 #[rp g, .int .i64 (nd : Int)] W fun e w' => (∃ b, W.heap.size ≤ b ∧ e = .returned (.slice (some ⟨b, 0, none⟩) dt.length dt.length) ∧ Bl w' b 5 (bvs dt)) ∧ RdS w' g q9 ∧ W.grownBy w' (some g)) := Lib.hid fun W h => by rw [← hdt, ← hq9]; exact raw_st h nd (by omega)
  have v0 : IntKind.i64.wrap (k0 : Int) = (k0 : Int) := IntWalk.i64_in _ (by omega)
  have v1 : IntKind.i64.wrap (k1 : Int) = (k1 : Int) := IntWalk.i64_in _ (by omega)
  have v2 : IntKind.i64.wrap (nb : Int) = (nb : Int) := IntWalk.i64_in _ (by omega)
  have v3 : IntKind.i64.wrap (nd : Int) = (nd : Int) := IntWalk.i64_in _ (by omega)
  have HBS := Lib.hid hbs
  obtain ⟨c3, hc3⟩ : ∃ c : Cf, (⟨(k0 : Int), (k1 : Int), k2, ⟨#[]⟩, Idv.zero, Idv.zero, .slice none 0 0⟩ : Cf) = c := ⟨_, rfl⟩
  have B3 : Hid (Try.prog.built 27 [(0, .int .i64 (k0 : Int)), (1, .int .i64 (k1 : Int)), (2, .int .u32 (k2 : Int))] = some c3.cells.toArray) := Lib.hid (by rw [← hc3]; exact cf3_built _ _ _)
  have c3d : Hid (c3.dv.oneCell' = true) := Lib.hid (by rw [← hc3]; rfl)
  have HC3 := Lib.hid hc3
  have HS0 := Lib.hid hs0
  clear hs0 hq1 hq2 hq3 hq4 hnb hq5 hq6 hq7 hq8 hnd hq9 hk0 hk1 hk2 hbr hio hiw hdt hbs hc3
  go_upto_region 3 with fail
  have D30 : Hid (Dc w g bx s0 w3.drew) := Lib.hid (D3.out.up ((Below.refl _ _).drew))
  obtain ⟨wD, hwD⟩ : ∃ v, w3.drew = v := ⟨_, rfl⟩
  have DD : Hid (Dc w g bx s0 wD) := Lib.hid (by rw [← hwD]; exact D30.out)
  have HWD := Lib.hid hwD
  clear hwD D3
  go_cut [6] (fun t wx => ∃ B, t = .pointer (some ⟨B, 0, none⟩) ∧ Hid (De w g bx q3 B c3 wx))
  case first =>
    refine wp_region_noPanic ?_
    refine wp_region_held_drew (S := (fun w' => w'.cell? ⟨bx, 0, none⟩ = some (rp g))) (by kernel_rfl) D30.out.k (fun _ => ?_)
    rw [HWD.out]
    refine wpAnyH_take (i := 0) rfl (by kernel_rfl) (by kernel_rfl) (by kernel_rfl) (fun _ _ _ h => h) (.inl ⟨rfl, fun w' hw' => (by have h1 : w'.cell? ⟨bx, 0, none⟩ = some (rp g) := hw'; clear hw'; go_simp; (try rfl))⟩) DD.out.k ?_
    simp only [List.getElem_toArray, List.getElem_cons_zero, List.getElem_cons_succ, Act.put, List.setIfInBounds_toArray, List.set_cons_succ, List.set_cons_zero]
    refine wpAnyH_take (i := 3) rfl (by kernel_rfl) (by kernel_rfl) (by kernel_rfl) (fun _ _ _ h => h) (.inl ⟨rfl, fun w' hw' => (by have h1 : w'.cell? ⟨bx, 0, none⟩ = some (rp g) := hw'; clear hw'; go_simp; (try rfl))⟩) DD.out.k ?_
    simp only [List.getElem_toArray, List.getElem_cons_zero, List.getElem_cons_succ, Act.put, List.setIfInBounds_toArray, List.set_cons_succ, List.set_cons_zero]
    refine wpAnyH_take (i := 6) rfl (by kernel_rfl) (by kernel_rfl) (by kernel_rfl) (fun _ _ _ h => h) (.inl ⟨rfl, fun w' hw' => (by have h1 : w'.cell? ⟨bx, 0, none⟩ = some (rp g) := hw'; clear hw'; go_simp; (try rfl))⟩) DD.out.k ?_
    simp only [List.getElem_toArray, List.getElem_cons_zero, List.getElem_cons_succ, Act.put, List.setIfInBounds_toArray, List.set_cons_succ, List.set_cons_zero]
    refine wpAnyH_ready (rs := [1, 9]) (by kernel_rfl) (by simp) (AllReadyH.cons rfl (fun K hK => ?_) (AllReadyH.cons rfl (fun K hK => ?_) AllReadyH.nil))
    · rw [if_pos (by rfl)]
      refine wp_fn (f := 27) (xs := #[rp g]) (by first | (go_simp; done) | (go_simp; rfl)) ((C1.out _ DD.out.r).mono ?_)
      rintro e u1 ⟨rfl, hR, hG⟩
      have E1 := Lib.hid (DD.out.call hG hR)
      clear hR hG
      refine ⟨_, rfl, hK.out _ _ E1.out.k (fun _ => ?_)⟩
      simp only [List.getElem_toArray, List.getElem_cons_zero, List.getElem_cons_succ, Act.put, List.setIfInBounds_toArray, List.set_cons_succ, List.set_cons_zero]
      refine wpAnyH_take (i := 2) rfl (by kernel_rfl) (by kernel_rfl) (by kernel_rfl) (fun _ _ _ h => h) (.inl ⟨rfl, fun w' hw' => (by clear hw'; go_simp; (try rfl))⟩) E1.out.k ?_
      simp only [List.getElem_toArray, List.getElem_cons_zero, List.getElem_cons_succ, Act.put, List.setIfInBounds_toArray, List.set_cons_succ, List.set_cons_zero]
      refine wpAnyH_ready (rs := [4, 9]) (by kernel_rfl) (by simp) (AllReadyH.cons rfl (fun K hK => ?_) (AllReadyH.cons rfl (fun K hK => ?_) AllReadyH.nil))
      · rw [if_pos (by rfl)]
        refine wp_fn (f := 27) (xs := #[rp g]) (by first | (go_simp; done) | (go_simp; rfl)) ((C2.out _ E1.out.r).mono ?_)
        rintro e u2 ⟨rfl, hR, hG⟩
        have E2 := Lib.hid (E1.out.call hG hR)
        clear hR hG
        refine ⟨_, rfl, hK.out _ _ E2.out.k (fun _ => ?_)⟩
        simp only [List.getElem_toArray, List.getElem_cons_zero, List.getElem_cons_succ, Act.put, List.setIfInBounds_toArray, List.set_cons_succ, List.set_cons_zero]
        refine wpAnyH_take (i := 5) rfl (by kernel_rfl) (by kernel_rfl) (by kernel_rfl) (fun _ _ _ h => h) (.inl ⟨rfl, fun w' hw' => (by clear hw'; go_simp; (try rfl))⟩) E2.out.k ?_
        simp only [List.getElem_toArray, List.getElem_cons_zero, List.getElem_cons_succ, Act.put, List.setIfInBounds_toArray, List.set_cons_succ, List.set_cons_zero]
        refine wpAnyH_ready (rs := [7, 9]) (by kernel_rfl) (by simp) (AllReadyH.cons rfl (fun K hK => ?_) (AllReadyH.cons rfl (fun K hK => ?_) AllReadyH.nil))
        · rw [if_pos (by rfl)]
          refine wp_fn (f := 28) (xs := #[rp g]) (by first | (go_simp; done) | (go_simp; rfl)) ((C3.out _ E2.out.r).mono ?_)
          rintro e u3 ⟨rfl, hR, hG⟩
          have E3 := Lib.hid (E2.out.call hG hR)
          clear hR hG
          refine ⟨_, rfl, hK.out _ _ E3.out.k (fun _ => ?_)⟩
          simp only [List.getElem_toArray, List.getElem_cons_zero, List.getElem_cons_succ, Act.put, List.setIfInBounds_toArray, List.set_cons_succ, List.set_cons_zero]
          refine wpAnyH_take (i := 8) rfl (by kernel_rfl) (by kernel_rfl) (by kernel_rfl) (fun _ _ _ h => h) (.inl ⟨rfl, fun w' hw' => run_bd3 (.tmp 13) (.tmp 16) (.tmp 18) rfl rfl rfl rfl B3.out⟩) E3.out.k ?_
          simp only [List.getElem_toArray, List.getElem_cons_zero, List.getElem_cons_succ, Act.put, List.setIfInBounds_toArray, List.set_cons_succ, List.set_cons_zero]
          refine wpAnyH_ready (rs := [9]) (by kernel_rfl) (by simp) (AllReadyH.cons rfl (fun K hK => ?_) AllReadyH.nil)
          rw [if_pos (by rfl)]
          refine wp_alloc_as _ rfl zz.cells.toArray ZO.out ?_
          have E4 : Hid (De w g bx _ u3.heap.size zz (u3.alloc (.cells zz.cells.toArray 27))) := Lib.hid (De.mk_ E3.out)
          refine hK.out _ _ E4.out.d.k (fun _ => ?_)
          simp only [List.getElem_toArray, List.getElem_cons_zero, List.getElem_cons_succ, Act.put, List.setIfInBounds_toArray, List.set_cons_succ, List.set_cons_zero]
          obtain ⟨u4, hu4⟩ : ∃ v, u3.alloc (.cells zz.cells.toArray 27) = v := ⟨_, rfl⟩
          rw [hu4] at E4 ⊢
          clear hu4
          refine wpAnyH_ready (rs := [10]) (by kernel_rfl) (by simp) (AllReadyH.cons rfl (fun K hK => ?_) AllReadyH.nil)
          rw [if_pos (by rfl)]
          have TD := Lib.hid E4.out.x.th
          refine wp_store_mid _ (.tmp 6) (.tmp 19) rfl u3.heap.size 0 c3.cells.toArray rfl rfl (by simpa [cf_sz] using TD.out) (by simpa [cf_sz] using size_cf) (cf_one c3d.out) ?_
          have EZ : Hid (De w g bx q3 u3.heap.size c3 (u4.setCells u3.heap.size 0 c3.cells)) := Lib.hid (E4.out.put (below_setCells (Below.refl _ _) (Nat.le_refl _) _ _) (E4.out.x.set_ (cf_sz _)))
          refine hK.out _ _ EZ.out.d.k (fun _ => ?_)
          simp only [List.getElem_toArray, List.getElem_cons_zero, List.getElem_cons_succ, Act.put, List.setIfInBounds_toArray, List.set_cons_succ, List.set_cons_zero]
          refine wpAnyH_done (by kernel_rfl) ?_ _
          refine NoPanic.normal ?_
          go_wp2_with fail
          go_meet
          exact ⟨_, rfl, EZ⟩
        · rw [if_pos (by rfl)]
          refine wp_alloc_as _ rfl zz.cells.toArray ZO.out ?_
          have E5 : Hid (De w g bx _ u2.heap.size zz (u2.alloc (.cells zz.cells.toArray 27))) := Lib.hid (De.mk_ E2.out)
          refine hK.out _ _ E5.out.d.k (fun _ => ?_)
          simp only [List.getElem_toArray, List.getElem_cons_zero, List.getElem_cons_succ, Act.put, List.setIfInBounds_toArray, List.set_cons_succ, List.set_cons_zero]
          obtain ⟨u5, hu5⟩ : ∃ v, u2.alloc (.cells zz.cells.toArray 27) = v := ⟨_, rfl⟩
          rw [hu5] at E5 ⊢
          clear hu5
          refine wpAnyH_ready (rs := [7]) (by kernel_rfl) (by simp) (AllReadyH.cons rfl (fun K hK => ?_) AllReadyH.nil)
          rw [if_pos (by rfl)]
          refine wp_fn (f := 28) (xs := #[rp g]) (by first | (go_simp; done) | (go_simp; rfl)) ((C3.out _ E5.out.d.r).mono ?_)
          rintro e u6 ⟨rfl, hR, hG⟩
          have E6 := Lib.hid (E5.out.call hG (E5.out.d.call hG hR))
          clear hR hG
          refine ⟨_, rfl, hK.out _ _ E6.out.d.k (fun _ => ?_)⟩
          simp only [List.getElem_toArray, List.getElem_cons_zero, List.getElem_cons_succ, Act.put, List.setIfInBounds_toArray, List.set_cons_succ, List.set_cons_zero]
          refine wpAnyH_take (i := 8) rfl (by kernel_rfl) (by kernel_rfl) (by kernel_rfl) (fun _ _ _ h => h) (.inl ⟨rfl, fun w' hw' => run_bd3 (.tmp 13) (.tmp 16) (.tmp 18) rfl rfl rfl rfl B3.out⟩) E6.out.d.k ?_
          simp only [List.getElem_toArray, List.getElem_cons_zero, List.getElem_cons_succ, Act.put, List.setIfInBounds_toArray, List.set_cons_succ, List.set_cons_zero]
          refine wpAnyH_ready (rs := [10]) (by kernel_rfl) (by simp) (AllReadyH.cons rfl (fun K hK => ?_) AllReadyH.nil)
          rw [if_pos (by rfl)]
          have TD := Lib.hid E6.out.x.th
          refine wp_store_mid _ (.tmp 6) (.tmp 19) rfl u2.heap.size 0 c3.cells.toArray rfl rfl (by simpa [cf_sz] using TD.out) (by simpa [cf_sz] using size_cf) (cf_one c3d.out) ?_
          have EZ : Hid (De w g bx q3 u2.heap.size c3 (u6.setCells u2.heap.size 0 c3.cells)) := Lib.hid (E6.out.put (below_setCells (Below.refl _ _) (Nat.le_refl _) _ _) (E6.out.x.set_ (cf_sz _)))
          refine hK.out _ _ EZ.out.d.k (fun _ => ?_)
          simp only [List.getElem_toArray, List.getElem_cons_zero, List.getElem_cons_succ, Act.put, List.setIfInBounds_toArray, List.set_cons_succ, List.set_cons_zero]
          refine wpAnyH_done (by kernel_rfl) ?_ _
          refine NoPanic.normal ?_
          go_wp2_with fail
          go_meet
          exact ⟨_, rfl, EZ⟩
      · rw [if_pos (by rfl)]
        refine wp_alloc_as _ rfl zz.cells.toArray ZO.out ?_
        have E7 : Hid (De w g bx _ u1.heap.size zz (u1.alloc (.cells zz.cells.toArray 27))) := Lib.hid (De.mk_ E1.out)
        refine hK.out _ _ E7.out.d.k (fun _ => ?_)
        simp only [List.getElem_toArray, List.getElem_cons_zero, List.getElem_cons_succ, Act.put, List.setIfInBounds_toArray, List.set_cons_succ, List.set_cons_zero]
        obtain ⟨u7, hu7⟩ : ∃ v, u1.alloc (.cells zz.cells.toArray 27) = v := ⟨_, rfl⟩
        rw [hu7] at E7 ⊢
        clear hu7
        refine wpAnyH_ready (rs := [4]) (by kernel_rfl) (by simp) (AllReadyH.cons rfl (fun K hK => ?_) AllReadyH.nil)
        rw [if_pos (by rfl)]
        refine wp_fn (f := 27) (xs := #[rp g]) (by first | (go_simp; done) | (go_simp; rfl)) ((C2.out _ E7.out.d.r).mono ?_)
        rintro e u8 ⟨rfl, hR, hG⟩
        have E8 := Lib.hid (E7.out.call hG (E7.out.d.call hG hR))
        clear hR hG
        refine ⟨_, rfl, hK.out _ _ E8.out.d.k (fun _ => ?_)⟩
        simp only [List.getElem_toArray, List.getElem_cons_zero, List.getElem_cons_succ, Act.put, List.setIfInBounds_toArray, List.set_cons_succ, List.set_cons_zero]
        refine wpAnyH_take (i := 5) rfl (by kernel_rfl) (by kernel_rfl) (by kernel_rfl) (fun _ _ _ h => h) (.inl ⟨rfl, fun w' hw' => (by clear hw'; go_simp; (try rfl))⟩) E8.out.d.k ?_
        simp only [List.getElem_toArray, List.getElem_cons_zero, List.getElem_cons_succ, Act.put, List.setIfInBounds_toArray, List.set_cons_succ, List.set_cons_zero]
        refine wpAnyH_ready (rs := [7]) (by kernel_rfl) (by simp) (AllReadyH.cons rfl (fun K hK => ?_) AllReadyH.nil)
        rw [if_pos (by rfl)]
        refine wp_fn (f := 28) (xs := #[rp g]) (by first | (go_simp; done) | (go_simp; rfl)) ((C3.out _ E8.out.d.r).mono ?_)
        rintro e u9 ⟨rfl, hR, hG⟩
        have E9 := Lib.hid (E8.out.call hG (E8.out.d.call hG hR))
        clear hR hG
        refine ⟨_, rfl, hK.out _ _ E9.out.d.k (fun _ => ?_)⟩
        simp only [List.getElem_toArray, List.getElem_cons_zero, List.getElem_cons_succ, Act.put, List.setIfInBounds_toArray, List.set_cons_succ, List.set_cons_zero]
        refine wpAnyH_take (i := 8) rfl (by kernel_rfl) (by kernel_rfl) (by kernel_rfl) (fun _ _ _ h => h) (.inl ⟨rfl, fun w' hw' => run_bd3 (.tmp 13) (.tmp 16) (.tmp 18) rfl rfl rfl rfl B3.out⟩) E9.out.d.k ?_
        simp only [List.getElem_toArray, List.getElem_cons_zero, List.getElem_cons_succ, Act.put, List.setIfInBounds_toArray, List.set_cons_succ, List.set_cons_zero]
        refine wpAnyH_ready (rs := [10]) (by kernel_rfl) (by simp) (AllReadyH.cons rfl (fun K hK => ?_) AllReadyH.nil)
        rw [if_pos (by rfl)]
        have TD := Lib.hid E9.out.x.th
        refine wp_store_mid _ (.tmp 6) (.tmp 19) rfl u1.heap.size 0 c3.cells.toArray rfl rfl (by simpa [cf_sz] using TD.out) (by simpa [cf_sz] using size_cf) (cf_one c3d.out) ?_
        have EZ : Hid (De w g bx q3 u1.heap.size c3 (u9.setCells u1.heap.size 0 c3.cells)) := Lib.hid (E9.out.put (below_setCells (Below.refl _ _) (Nat.le_refl _) _ _) (E9.out.x.set_ (cf_sz _)))
        refine hK.out _ _ EZ.out.d.k (fun _ => ?_)
        simp only [List.getElem_toArray, List.getElem_cons_zero, List.getElem_cons_succ, Act.put, List.setIfInBounds_toArray, List.set_cons_succ, List.set_cons_zero]
        refine wpAnyH_done (by kernel_rfl) ?_ _
        refine NoPanic.normal ?_
        go_wp2_with fail
        go_meet
        exact ⟨_, rfl, EZ⟩
    · rw [if_pos (by rfl)]
      refine wp_alloc_as _ rfl zz.cells.toArray ZO.out ?_
      have E10 : Hid (De w g bx _ wD.heap.size zz (wD.alloc (.cells zz.cells.toArray 27))) := Lib.hid (De.mk_ DD.out)
      refine hK.out _ _ E10.out.d.k (fun _ => ?_)
      simp only [List.getElem_toArray, List.getElem_cons_zero, List.getElem_cons_succ, Act.put, List.setIfInBounds_toArray, List.set_cons_succ, List.set_cons_zero]
      obtain ⟨u10, hu10⟩ : ∃ v, wD.alloc (.cells zz.cells.toArray 27) = v := ⟨_, rfl⟩
      rw [hu10] at E10 ⊢
      clear hu10
      refine wpAnyH_ready (rs := [1]) (by kernel_rfl) (by simp) (AllReadyH.cons rfl (fun K hK => ?_) AllReadyH.nil)
      rw [if_pos (by rfl)]
      refine wp_fn (f := 27) (xs := #[rp g]) (by first | (go_simp; done) | (go_simp; rfl)) ((C1.out _ E10.out.d.r).mono ?_)
      rintro e u11 ⟨rfl, hR, hG⟩
      have E11 := Lib.hid (E10.out.call hG (E10.out.d.call hG hR))
      clear hR hG
      refine ⟨_, rfl, hK.out _ _ E11.out.d.k (fun _ => ?_)⟩
      simp only [List.getElem_toArray, List.getElem_cons_zero, List.getElem_cons_succ, Act.put, List.setIfInBounds_toArray, List.set_cons_succ, List.set_cons_zero]
      refine wpAnyH_take (i := 2) rfl (by kernel_rfl) (by kernel_rfl) (by kernel_rfl) (fun _ _ _ h => h) (.inl ⟨rfl, fun w' hw' => (by clear hw'; go_simp; (try rfl))⟩) E11.out.d.k ?_
      simp only [List.getElem_toArray, List.getElem_cons_zero, List.getElem_cons_succ, Act.put, List.setIfInBounds_toArray, List.set_cons_succ, List.set_cons_zero]
      refine wpAnyH_ready (rs := [4]) (by kernel_rfl) (by simp) (AllReadyH.cons rfl (fun K hK => ?_) AllReadyH.nil)
      rw [if_pos (by rfl)]
      refine wp_fn (f := 27) (xs := #[rp g]) (by first | (go_simp; done) | (go_simp; rfl)) ((C2.out _ E11.out.d.r).mono ?_)
      rintro e u12 ⟨rfl, hR, hG⟩
      have E12 := Lib.hid (E11.out.call hG (E11.out.d.call hG hR))
      clear hR hG
      refine ⟨_, rfl, hK.out _ _ E12.out.d.k (fun _ => ?_)⟩
      simp only [List.getElem_toArray, List.getElem_cons_zero, List.getElem_cons_succ, Act.put, List.setIfInBounds_toArray, List.set_cons_succ, List.set_cons_zero]
      refine wpAnyH_take (i := 5) rfl (by kernel_rfl) (by kernel_rfl) (by kernel_rfl) (fun _ _ _ h => h) (.inl ⟨rfl, fun w' hw' => (by clear hw'; go_simp; (try rfl))⟩) E12.out.d.k ?_
      simp only [List.getElem_toArray, List.getElem_cons_zero, List.getElem_cons_succ, Act.put, List.setIfInBounds_toArray, List.set_cons_succ, List.set_cons_zero]
      refine wpAnyH_ready (rs := [7]) (by kernel_rfl) (by simp) (AllReadyH.cons rfl (fun K hK => ?_) AllReadyH.nil)
      rw [if_pos (by rfl)]
      refine wp_fn (f := 28) (xs := #[rp g]) (by first | (go_simp; done) | (go_simp; rfl)) ((C3.out _ E12.out.d.r).mono ?_)
      rintro e u13 ⟨rfl, hR, hG⟩
      have E13 := Lib.hid (E12.out.call hG (E12.out.d.call hG hR))
      clear hR hG
      refine ⟨_, rfl, hK.out _ _ E13.out.d.k (fun _ => ?_)⟩
      simp only [List.getElem_toArray, List.getElem_cons_zero, List.getElem_cons_succ, Act.put, List.setIfInBounds_toArray, List.set_cons_succ, List.set_cons_zero]
      refine wpAnyH_take (i := 8) rfl (by kernel_rfl) (by kernel_rfl) (by kernel_rfl) (fun _ _ _ h => h) (.inl ⟨rfl, fun w' hw' => run_bd3 (.tmp 13) (.tmp 16) (.tmp 18) rfl rfl rfl rfl B3.out⟩) E13.out.d.k ?_
      simp only [List.getElem_toArray, List.getElem_cons_zero, List.getElem_cons_succ, Act.put, List.setIfInBounds_toArray, List.set_cons_succ, List.set_cons_zero]
      refine wpAnyH_ready (rs := [10]) (by kernel_rfl) (by simp) (AllReadyH.cons rfl (fun K hK => ?_) AllReadyH.nil)
      rw [if_pos (by rfl)]
      have TD := Lib.hid E13.out.x.th
      refine wp_store_mid _ (.tmp 6) (.tmp 19) rfl wD.heap.size 0 c3.cells.toArray rfl rfl (by simpa [cf_sz] using TD.out) (by simpa [cf_sz] using size_cf) (cf_one c3d.out) ?_
      have EZ : Hid (De w g bx q3 wD.heap.size c3 (u13.setCells wD.heap.size 0 c3.cells)) := Lib.hid (E13.out.put (below_setCells (Below.refl _ _) (Nat.le_refl _) _ _) (E13.out.x.set_ (cf_sz _)))
      refine hK.out _ _ EZ.out.d.k (fun _ => ?_)
      simp only [List.getElem_toArray, List.getElem_cons_zero, List.getElem_cons_succ, Act.put, List.setIfInBounds_toArray, List.set_cons_succ, List.set_cons_zero]
      refine wpAnyH_done (by kernel_rfl) ?_ _
      refine NoPanic.normal ?_
      go_wp2_with fail
      go_meet
      exact ⟨_, rfl, EZ⟩
  case rest =>
    obtain ⟨B, rfl, E3⟩ := hcut
    clear DD D30 HWD C1 C2 C3 B3 v0 v1
    obtain ⟨wA, hwA⟩ : ∃ v, wc = v := ⟨_, rfl⟩
    rw [hwA] at E3 ⊢
    clear hwA
    go_upto_region 4 with fail
    have E30 : Hid (De w g bx q3 B c3 wA.drew) := Lib.hid (E3.out.up ((Below.refl _ _).drew))
    obtain ⟨wD, hwD⟩ : ∃ v, wA.drew = v := ⟨_, rfl⟩
    have ED : Hid (De w g bx q3 B c3 wD) := Lib.hid (by rw [← hwD]; exact E30.out)
    have HWD := Lib.hid hwD
    clear hwD E3
    obtain ⟨c4, hc4⟩ : ∃ c : Cf, ({ c3 with branch := bs } : Cf) = c := ⟨_, rfl⟩
    go_cut [] (fun wx => Hid (De w g bx q5 B c4 wx))
    case first =>
      refine wp_region_noPanic ?_
      refine wp_region_held_drew (S := (fun w' => w'.cell? ⟨bx, 0, none⟩ = some (rp g))) (by kernel_rfl) E30.out.d.k (fun _ => ?_)
      rw [HWD.out]
      refine wpAnyH_take (i := 0) rfl (by kernel_rfl) (by kernel_rfl) (by kernel_rfl) (fun _ _ _ h => h) (.inl ⟨rfl, fun w' hw' => (by have h1 : w'.cell? ⟨bx, 0, none⟩ = some (rp g) := hw'; clear hw'; go_simp; (try rfl))⟩) ED.out.d.k ?_
      simp only [List.getElem_toArray, List.getElem_cons_zero, List.getElem_cons_succ, Act.put, List.setIfInBounds_toArray, List.set_cons_succ, List.set_cons_zero]
      refine wpAnyH_take (i := 1) rfl (by kernel_rfl) (by kernel_rfl) (by kernel_rfl) (fun _ _ _ h => h) (.inl ⟨rfl, fun w' hw' => (by have h1 : w'.cell? ⟨bx, 0, none⟩ = some (rp g) := hw'; clear hw'; go_simp; (try rfl))⟩) ED.out.d.k ?_
      simp only [List.getElem_toArray, List.getElem_cons_zero, List.getElem_cons_succ, Act.put, List.setIfInBounds_toArray, List.set_cons_succ, List.set_cons_zero]
      refine wpAnyH_ready (rs := [2]) (by kernel_rfl) (by simp) (AllReadyH.cons rfl (fun K hK => ?_) AllReadyH.nil)
      rw [if_pos (by rfl)]
      refine wp_fn (f := 27) (xs := #[rp g]) (by first | (go_simp; done) | (go_simp; rfl)) ((C4.out _ ED.out.d.r).mono ?_)
      rintro e u1 ⟨rfl, hR, hG⟩
      have E1 := Lib.hid (ED.out.call hG (ED.out.d.call hG hR))
      clear hR hG
      refine ⟨_, rfl, hK.out _ _ E1.out.d.k (fun _ => ?_)⟩
      simp only [List.getElem_toArray, List.getElem_cons_zero, List.getElem_cons_succ, Act.put, List.setIfInBounds_toArray, List.set_cons_succ, List.set_cons_zero]
      refine wpAnyH_take (i := 3) rfl (by kernel_rfl) (by kernel_rfl) (by kernel_rfl) (fun _ _ _ h => h) (.inl ⟨rfl, fun w' hw' => (by clear hw'; go_simp; (try rfl))⟩) E1.out.d.k ?_
      simp only [List.getElem_toArray, List.getElem_cons_zero, List.getElem_cons_succ, Act.put, List.setIfInBounds_toArray, List.set_cons_succ, List.set_cons_zero]
      refine wpAnyH_ready (rs := [4]) (by kernel_rfl) (by simp) (AllReadyH.cons rfl (fun K hK => ?_) AllReadyH.nil)
      rw [if_pos (by rfl)]
      refine wp_fn (f := 26) (xs := #[rp g, .int .i64 (nb : Int)]) (by first | (go_simp; done) | (go_simp; rfl)) ((C5.out _ E1.out.d.r).mono ?_)
      rintro e u2 ⟨⟨b, hb, rfl, hbl⟩, hR, hG⟩
      have E2 := Lib.hid (E1.out.call hG (E1.out.d.call hG hR))
      have SL := Lib.hid (hbl.sl hbl.lt (by unfold maxLen; omega))
      clear hR hG hbl hb
      refine ⟨_, rfl, hK.out _ _ E2.out.d.k (fun _ => ?_)⟩
      simp only [List.getElem_toArray, List.getElem_cons_zero, List.getElem_cons_succ, Act.put, List.setIfInBounds_toArray, List.set_cons_succ, List.set_cons_zero]
      refine wpAnyH_ready (rs := [5]) (by kernel_rfl) (by simp) (AllReadyH.cons rfl (fun K hK => ?_) AllReadyH.nil)
      rw [if_pos (by rfl)]
      refine wp_val (run_str (.tmp 24) rfl rfl SL.out) ?_
      rw [HBS.out]
      refine hK.out _ _ E2.out.d.k (fun _ => ?_)
      simp only [List.getElem_toArray, List.getElem_cons_zero, List.getElem_cons_succ, Act.put, List.setIfInBounds_toArray, List.set_cons_succ, List.set_cons_zero]
      refine wpAnyH_take (i := 6) rfl (by kernel_rfl) (by kernel_rfl) (by kernel_rfl) (fun _ _ _ h => h) (.inl ⟨rfl, fun w' hw' => (by clear hw'; go_simp; (try rfl))⟩) E2.out.d.k ?_
      simp only [List.getElem_toArray, List.getElem_cons_zero, List.getElem_cons_succ, Act.put, List.setIfInBounds_toArray, List.set_cons_succ, List.set_cons_zero]
      refine wpAnyH_ready (rs := [7]) (by kernel_rfl) (by simp) (AllReadyH.cons rfl (fun K hK => ?_) AllReadyH.nil)
      rw [if_pos (by rfl)]
      have x3 : u2.cell? ⟨B, 3, none⟩ = some (.string c3.branch) := E2.out.x.cell rfl
      have f3 := E2.out.x.frozen (j := 3) (by omega)
      go_simp
      have E4 : Hid (De w g bx q5 B c4 (u2.setCell ⟨B, 3, none⟩ (.string bs))) := Lib.hid (E2.out.put (below_setCells (Below.refl B u2) (Nat.le_refl _) 3 [.string bs]) (by rw [← hc4, cf_branch]; exact E2.out.x.set1 3 _))
      refine hK.out _ _ E4.out.d.k (fun _ => ?_)
      refine wpAnyH_done (by kernel_rfl) ?_ _
      refine NoPanic.normal ?_
      go_wp2_with fail
      go_meet
      exact E4
    case rest =>
      obtain ⟨wF, hwF⟩ : ∃ v, wc = v := ⟨_, rfl⟩
      rw [hwF] at hcut ⊢
      clear hwF ED E30 HWD C4 C5 v2 HBS
      have E4 := hcut
      clear hcut
      obtain ⟨c5, hc5⟩ : ∃ c : Cf, ({ c4 with old := io } : Cf) = c := ⟨_, rfl⟩
      obtain ⟨c6, hc6⟩ : ∃ c : Cf, ({ c5 with new := iw } : Cf) = c := ⟨_, rfl⟩
      go_upto_region 6 with (first
        | (go_at_call 25; refine (C6.out _ E4.out.d).mono ?_; rintro e u1 ⟨rfl, hR, hG⟩; have E5 := Lib.hid (E4.out.call hG (E4.out.d.call hG hR)); have T5 := Lib.hid (E5.out.th 4 32 (by omega)); clear hR hG)
        | ((with_reducible refine sti (.tmp 29) (.tmp 28) ?_ ?_ B 4 io ?_ ?_ T5.out ?_); rfl; rfl; rfl; rfl; (have E6 : Hid (De w g bx q6 B c5 (u1.setCells B 4 io.cells)) := Lib.hid (E5.out.put (below_setCells (Below.refl B u1) (Nat.le_refl _) 4 io.cells) (by rw [← hc5, cf_old]; exact E5.out.x.mid 4 io.cells (by rw [id_sz]; omega)))); (try simp only [Act.put, List.setIfInBounds_toArray, List.set_cons_succ, List.set_cons_zero]))
        | fail)
      obtain ⟨u2, hu2⟩ : ∃ v, u1.setCells B 4 io.cells = v := ⟨_, rfl⟩
      rw [hu2] at E6 ⊢
      clear hu2 T5 E5 E4
      go_upto_region 7 with (first
        | (go_at_call 25; refine (C7.out _ E6.out.d).mono ?_; rintro e u3 ⟨rfl, hR, hG⟩; have E7 := Lib.hid (E6.out.call hG (E6.out.d.call hG hR)); have T7 := Lib.hid (E7.out.th 36 32 (by omega)); clear hR hG)
        | ((with_reducible refine sti (.tmp 32) (.tmp 31) ?_ ?_ B 36 iw ?_ ?_ T7.out ?_); rfl; rfl; rfl; rfl; (have E8 : Hid (De w g bx q7 B c6 (u3.setCells B 36 iw.cells)) := Lib.hid (E7.out.put (below_setCells (Below.refl B u3) (Nat.le_refl _) 36 iw.cells) (by rw [← hc6, cf_new]; exact E7.out.x.mid 36 iw.cells (by rw [id_sz]; omega)))); (try simp only [Act.put, List.setIfInBounds_toArray, List.set_cons_succ, List.set_cons_zero]))
        | fail)
      obtain ⟨u4, hu4⟩ : ∃ v, u3.setCells B 36 iw.cells = v := ⟨_, rfl⟩
      rw [hu4] at E8 ⊢
      clear hu4 T7 E7 E6
      have E80 : Hid (De w g bx q7 B c6 u4.drew) := Lib.hid (E8.out.up ((Below.refl _ _).drew))
      obtain ⟨wD, hwD⟩ : ∃ v, u4.drew = v := ⟨_, rfl⟩
      have ED : Hid (De w g bx q7 B c6 wD) := Lib.hid (by rw [← hwD]; exact E80.out)
      have HWD := Lib.hid hwD
      clear hwD E8
      go_cut [] (fun wx => ∃ b c7, Hid (c7 = ({ c6 with dv := .slice (some ⟨b, 0, none⟩) dt.length dt.length } : Cf)) ∧ Hid (De w g bx q9 B c7 wx) ∧ Hid (SlB wx wx.heap.size (some ⟨b, 0, none⟩) dt.length dt.length dt) ∧ B < b)
      case first =>
        refine wp_region_noPanic ?_
        refine wp_region_held_drew (S := (fun w' => w'.cell? ⟨bx, 0, none⟩ = some (rp g))) (by kernel_rfl) E80.out.d.k (fun _ => ?_)
        rw [HWD.out]
        refine wpAnyH_take (i := 0) rfl (by kernel_rfl) (by kernel_rfl) (by kernel_rfl) (fun _ _ _ h => h) (.inl ⟨rfl, fun w' hw' => (by have h1 : w'.cell? ⟨bx, 0, none⟩ = some (rp g) := hw'; clear hw'; go_simp; (try rfl))⟩) ED.out.d.k ?_
        simp only [List.getElem_toArray, List.getElem_cons_zero, List.getElem_cons_succ, Act.put, List.setIfInBounds_toArray, List.set_cons_succ, List.set_cons_zero]
        refine wpAnyH_take (i := 1) rfl (by kernel_rfl) (by kernel_rfl) (by kernel_rfl) (fun _ _ _ h => h) (.inl ⟨rfl, fun w' hw' => (by have h1 : w'.cell? ⟨bx, 0, none⟩ = some (rp g) := hw'; clear hw'; go_simp; (try rfl))⟩) ED.out.d.k ?_
        simp only [List.getElem_toArray, List.getElem_cons_zero, List.getElem_cons_succ, Act.put, List.setIfInBounds_toArray, List.set_cons_succ, List.set_cons_zero]
        refine wpAnyH_ready (rs := [2]) (by kernel_rfl) (by simp) (AllReadyH.cons rfl (fun K hK => ?_) AllReadyH.nil)
        rw [if_pos (by rfl)]
        refine wp_fn (f := 29) (xs := #[rp g]) (by first | (go_simp; done) | (go_simp; rfl)) ((C8.out _ ED.out.d.r).mono ?_)
        rintro e u5 ⟨rfl, hR, hG⟩
        have E1 := Lib.hid (ED.out.call hG (ED.out.d.call hG hR))
        clear hR hG
        refine ⟨_, rfl, hK.out _ _ E1.out.d.k (fun _ => ?_)⟩
        simp only [List.getElem_toArray, List.getElem_cons_zero, List.getElem_cons_succ, Act.put, List.setIfInBounds_toArray, List.set_cons_succ, List.set_cons_zero]
        refine wpAnyH_take (i := 3) rfl (by kernel_rfl) (by kernel_rfl) (by kernel_rfl) (fun _ _ _ h => h) (.inl ⟨rfl, fun w' hw' => (by clear hw'; go_simp; (try rfl))⟩) E1.out.d.k ?_
        simp only [List.getElem_toArray, List.getElem_cons_zero, List.getElem_cons_succ, Act.put, List.setIfInBounds_toArray, List.set_cons_succ, List.set_cons_zero]
        refine wpAnyH_ready (rs := [4]) (by kernel_rfl) (by simp) (AllReadyH.cons rfl (fun K hK => ?_) AllReadyH.nil)
        rw [if_pos (by rfl)]
        refine wp_fn (f := 26) (xs := #[rp g, .int .i64 (nd : Int)]) (by first | (go_simp; done) | (go_simp; rfl)) ((C9.out _ E1.out.d.r).mono ?_)
        rintro e u6 ⟨⟨b, hb, rfl, hbl⟩, hR, hG⟩
        have E2 := Lib.hid (E1.out.call hG (E1.out.d.call hG hR))
        have SL := Lib.hid (hbl.sl hbl.lt (by unfold maxLen; omega))
        have hBb : B < b := Nat.lt_of_lt_of_le E1.out.x.lt hb
        clear hR hG hbl hb
        refine ⟨_, rfl, hK.out _ _ E2.out.d.k (fun _ => ?_)⟩
        simp only [List.getElem_toArray, List.getElem_cons_zero, List.getElem_cons_succ, Act.put, List.setIfInBounds_toArray, List.set_cons_succ, List.set_cons_zero]
        refine wpAnyH_take (i := 5) rfl (by kernel_rfl) (by kernel_rfl) (by kernel_rfl) (fun _ _ _ h => h) (.inl ⟨rfl, fun w' hw' => (by clear hw'; go_simp; (try rfl))⟩) E2.out.d.k ?_
        simp only [List.getElem_toArray, List.getElem_cons_zero, List.getElem_cons_succ, Act.put, List.setIfInBounds_toArray, List.set_cons_succ, List.set_cons_zero]
        refine wpAnyH_ready (rs := [6]) (by kernel_rfl) (by simp) (AllReadyH.cons rfl (fun K hK => ?_) AllReadyH.nil)
        rw [if_pos (by rfl)]
        have x3 : u6.cell? ⟨B, 68, none⟩ = some c6.dv := (cf_lies E2.out.x).2.2.2.2.2.2
        have f3 := E2.out.x.frozen (j := 68) (by omega)
        go_simp
        have E9 : Hid (De w g bx q9 B ({ c6 with dv := .slice (some ⟨b, 0, none⟩) dt.length dt.length } : Cf) (u6.setCell ⟨B, 68, none⟩ (.slice (some ⟨b, 0, none⟩) dt.length dt.length))) := Lib.hid (E2.out.put (below_setCells (Below.refl B u6) (Nat.le_refl _) 68 [.slice (some ⟨b, 0, none⟩) dt.length dt.length]) (by rw [cf_dv]; exact E2.out.x.set1 68 _))
        have S9 : Hid (SlB (u6.setCell ⟨B, 68, none⟩ (.slice (some ⟨b, 0, none⟩) dt.length dt.length)) (u6.setCell ⟨B, 68, none⟩ (.slice (some ⟨b, 0, none⟩) dt.length dt.length)).heap.size (some ⟨b, 0, none⟩) dt.length dt.length dt) := Lib.hid ((SL.out.othr (grown_sc u6 B 68 [.slice (some ⟨b, 0, none⟩) dt.length dt.length]) (Nat.le_refl _) (fun b2 o2 e => by injection e with e; injection e with e1 e2 e3; omega)).more (Nat.le_of_eq (size_setCells u6 B 68 [.slice (some ⟨b, 0, none⟩) dt.length dt.length]).symm))
        refine hK.out _ _ E9.out.d.k (fun _ => ?_)
        refine wpAnyH_done (by kernel_rfl) ?_ _
        refine NoPanic.normal ?_
        go_wp2_with fail
        go_meet
        exact ⟨b, _, Lib.hid rfl, E9, S9, hBb⟩
      case rest =>
        obtain ⟨b, c7, hc7, E9, S9, hBb⟩ := hcut
        obtain ⟨wG, hwG⟩ : ∃ v, wc = v := ⟨_, rfl⟩
        rw [hwG] at E9 S9 ⊢
        clear hwG ED E80 HWD C8 C9 v3 C6 C7
        obtain ⟨xv, hxv⟩ : ∃ x : Cv, (⟨(k0 : Int), (k1 : Int), k2, bs, io, iw, dt⟩ : Cv) = x := ⟨_, rfl⟩
        have HX : Hid (c7 = xv.at_ ⟨some ⟨b, 0, none⟩, dt.length, dt.length⟩ ∧ xv.data = dt) := Lib.hid (by
          rw [hc7.out, ← hc6, ← hc5, ← hc4, ← HC3.out, ← hxv]
          exact ⟨rfl, rfl⟩)
        rw [hxv] at HP
        have xk : -9223372036854775808 ≤ c7.kind ∧ c7.kind ≤ 9223372036854775807 := by rw [HX.out.1, ← hxv]; show -9223372036854775808 ≤ (k0 : Int) ∧ (k0 : Int) ≤ 9223372036854775807; omega
        have xd : c7.dv = .slice (some ⟨b, 0, none⟩) dt.length dt.length := by rw [HX.out.1]; rfl
        have xo : okF c7 dt.length = okC xv := by rw [HX.out.1]; exact okC_at xv ⟨some ⟨b, 0, none⟩, dt.length, dt.length⟩ (by rw [HX.out.2])
        have xc : ∀ W, SlB W W.heap.size (some ⟨b, 0, none⟩) dt.length dt.length dt → CmdRes (cfV c7) xv W := fun W hW => ⟨⟨some ⟨b, 0, none⟩, dt.length, dt.length⟩, by rw [HX.out.1], by rw [HX.out.2]; exact hW, by rw [← hxv]; show -9223372036854775808 ≤ (k0 : Int) ∧ (k0 : Int) ≤ 9223372036854775807; omega, by rw [← hxv]; show -9223372036854775808 ≤ (k1 : Int) ∧ (k1 : Int) ≤ 9223372036854775807; omega, by rw [← hxv]; exact k2l⟩
        have HXC := Lib.hid xc
        have HXO := Lib.hid xo
        have HXD := Lib.hid xd
        have HXK := Lib.hid xk
        have ONE : Hid (c7.dv.oneCell' = true) := Lib.hid (by rw [xd]; rfl)
        obtain ⟨er, her⟩ : ∃ e, q9.2 = e := ⟨_, rfl⟩
        obtain ⟨ln, hln9⟩ : ∃ m, q9.1.length = m := ⟨_, rfl⟩
        have HD : Hid (decW l = if er ≠ 0 then (zCv, er) else if 0 < ln then (zCv, 210) else if okC xv then (xv, 0) else (zCv, 210)) := Lib.hid (by
          unfold decW
          rw [show ((l, (0 : Int)) : St) = s0 from HS0.out, HP.out, ← her, ← hln9])
        have CE : Hid (∀ W, RdS W g q9 → Calls Try.prog 30 #[rp g] W fun e w' => e = .returned (.int .i64 er) ∧ W = w') := Lib.hid fun W h => by rw [← her]; exact err_any h.1
        have CL : Hid (∀ W, RdS W g q9 → Calls Try.prog 31 #[rp g] W fun e w' => e = .returned (.int .i64 (ln : Int)) ∧ ∃ k, w' = W.drewN k) := Lib.hid fun W h => by rw [← hln9]; exact left_any h.1
        have lnl : ln ≤ 140737488355320 := by rw [← hln9]; exact E9.out.d.r.2
        rw [HDD.out] at HD
        clear hc7 hc6 hc5 hc4 HC3 hxv HP HS0 xc xo xd xk her hln9 HX k0l k1l k2l nbl ndl brl c3d
        have k9 := E9.out.d.k
        go_upto_region 9 with (first
          | (go_at_call 30; refine (CE.out _ E9.out.d.r).mono ?_; rintro e _ ⟨rfl, rfl⟩)
          | fail)
        have x9 := E9.out.d.b
        by_cases he : er = 0
        · subst he
          by_cases hl0 : 0 < ln
          · have dl : decide ((0 : Int) < (ln : Int)) = true := by simp; omega
            have HDZ : Hid ((zCv, (210 : Int)) = D) := Lib.hid (by rw [HD.out, if_neg (by simp), if_pos hl0])
            go_upto_region 12 with (first
              | (go_at_call 31; refine (CL.out _ E9.out.d.r).mono ?_; rintro e _ ⟨rfl, kd, rfl⟩; have E10 := Lib.hid (E9.out.up (below_drewN (Below.refl _ _) kd)))
              | fail)
            have T10 := Lib.hid E10.out.d.y.th
            obtain ⟨wH, hwH⟩ : ∃ v, wG.drewN kd = v := ⟨_, rfl⟩
            rw [hwH] at E10 T10 ⊢
            clear hwH
            obtain ⟨w9, hw9⟩ : ∃ v, wH.setCells w.heap.size 0 zz.cells = v := ⟨_, rfl⟩
            have N9 : Hid (w9.rangeAt w.heap.size 0 zz.cells) := Lib.hid (by rw [← hw9]; exact (E10.out.d.y.set_ (cf_sz _)).rg)
            have B9 : Hid (Below w.heap.size w w9) := Lib.hid (by rw [← hw9]; exact below_setCells E10.out.d.b (Nat.le_refl _) _ _)
            have HW9 := Lib.hid hw9
            clear hw9
            go_wp2_with (first
              | ((with_reducible refine bdt 27 [] ?_ ?_ zz.cells.toArray ?_ ?_); rfl; rfl; exact BZ.out)
              | ((with_reducible refine stc (.tmp 2) (.tmp 53) ?_ ?_ w.heap.size 0 zz ?_ ?_ T10.out ZZ1.out ?_); rfl; rfl; rfl; rfl; rw [HW9.out])
              | fail)
            exact bodyPost_ret (res_cfi rfl _ _ w.heap.size 0 zz _ rfl rfl N9.out) rfl ⟨⟨cfV zz, by rw [← HDZ.out]; rfl, by rw [← HDZ.out, ← HZZ.out]; exact CmdRes.zero _⟩, B9.out⟩
          · have dl : decide ((0 : Int) < (ln : Int)) = false := by simp; omega
            have RG9 := Lib.hid E9.out.x.rg
            have CC : Hid (∀ W, Calls Try.prog 11 #[cfV c7] W fun e w' => e = .returned (.int .i64 (if okC xv then 0 else 210)) ∧ Below W.heap.size W w') := Lib.hid fun W => by rw [← HXO.out]; exact Check_any W c7 _ _ _ HXD.out (by omega) HXK.out
            by_cases hok : okC xv = true
            · rw [if_pos hok] at CC
              have HDZ : Hid ((xv, (0 : Int)) = D) := Lib.hid (by rw [HD.out, if_neg (by simp), if_neg hl0, if_pos hok])
              go_upto_region 13 with (first
                | (go_at_call 31; refine (CL.out _ E9.out.d.r).mono ?_; rintro e _ ⟨rfl, kd, rfl⟩; have E10 := Lib.hid (E9.out.up (below_drewN (Below.refl _ _) kd)); have S10 := Lib.hid (S9.out.drewN kd); have RG10 := Lib.hid E10.out.x.rg)
                | ((with_reducible refine ldc (.tmp 6) ?_ ?_ B 0 c7 ?_ RG10.out ?_); rfl; (first | rfl | (go_simp <;> fail)); rfl)
                | (go_at_call 11; refine (CC.out _).mono ?_; rintro e w8 ⟨rfl, hb8⟩; have E11 := Lib.hid (E10.out.up hb8); have S11 := Lib.hid ((S10.out.below hb8).more hb8.size); clear hb8)
                | fail)
              have RG11 := Lib.hid E11.out.x.rg
              have T11 : Hid (w8.there w.heap.size 0 69) := Lib.hid E11.out.d.y.th
              obtain ⟨w9, hw9⟩ : ∃ v, w8.setCells w.heap.size 0 c7.cells = v := ⟨_, rfl⟩
              have N9 : Hid (w9.rangeAt w.heap.size 0 c7.cells) := Lib.hid (by rw [← hw9]; exact (E11.out.d.y.set_ (cf_sz _)).rg)
              have B9 : Hid (Below w.heap.size w w9) := Lib.hid (by rw [← hw9]; exact below_setCells E11.out.d.b (Nat.le_refl _) _ _)
              have hBw : w.heap.size < B := Nat.lt_trans E11.out.d.hg E11.out.hg
              have S12 : Hid (SlB w9 w9.heap.size (some ⟨b, 0, none⟩) dt.length dt.length dt) := Lib.hid (by
                rw [← hw9]
                exact (S11.out.othr (grown_sc w8 w.heap.size 0 c7.cells) (Nat.le_refl _) (fun b2 o2 e => by injection e with e; injection e with e1 e2 e3; omega)).more (Nat.le_of_eq (size_setCells w8 w.heap.size 0 c7.cells).symm))
              have HW9 := Lib.hid hw9
              clear hw9
              go_wp2_with (first
                | ((with_reducible refine ldc (.tmp 6) ?_ ?_ B 0 c7 ?_ RG11.out ?_); rfl; (first | rfl | (go_simp <;> fail)); rfl)
                | ((with_reducible refine stc (.tmp 2) (.tmp 54) ?_ ?_ w.heap.size 0 c7 ?_ ?_ T11.out ONE.out ?_); rfl; rfl; rfl; rfl; rw [HW9.out])
                | fail)
              exact bodyPost_ret (res_cfi rfl _ _ w.heap.size 0 c7 _ rfl rfl N9.out) rfl ⟨⟨cfV c7, by rw [← HDZ.out]; rfl, by rw [← HDZ.out]; exact HXC.out _ S12.out⟩, B9.out⟩
            · rw [if_neg hok] at CC
              have HDZ : Hid ((zCv, (210 : Int)) = D) := Lib.hid (by rw [HD.out, if_neg (by simp), if_neg hl0, if_neg hok])
              go_upto_region 12 with (first
                | (go_at_call 31; refine (CL.out _ E9.out.d.r).mono ?_; rintro e _ ⟨rfl, kd, rfl⟩; have E9b := Lib.hid (E9.out.up (below_drewN (Below.refl _ _) kd)); have RG10 := Lib.hid E9b.out.x.rg)
                | ((with_reducible refine ldc (.tmp 6) ?_ ?_ B 0 c7 ?_ RG10.out ?_); rfl; (first | rfl | (go_simp <;> fail)); rfl)
                | (go_at_call 11; refine (CC.out _).mono ?_; rintro e w8 ⟨rfl, hb8⟩; have E10 := Lib.hid (E9b.out.up hb8); clear hb8)
                | fail)
              have T10 := Lib.hid E10.out.d.y.th
              obtain ⟨wH, hwH⟩ : ∃ v, w8 = v := ⟨_, rfl⟩
              rw [hwH] at E10 T10 ⊢
              clear hwH
              obtain ⟨w9, hw9⟩ : ∃ v, wH.setCells w.heap.size 0 zz.cells = v := ⟨_, rfl⟩
              have N9 : Hid (w9.rangeAt w.heap.size 0 zz.cells) := Lib.hid (by rw [← hw9]; exact (E10.out.d.y.set_ (cf_sz _)).rg)
              have B9 : Hid (Below w.heap.size w w9) := Lib.hid (by rw [← hw9]; exact below_setCells E10.out.d.b (Nat.le_refl _) _ _)
              have HW9 := Lib.hid hw9
              clear hw9
              go_wp2_with (first
                | ((with_reducible refine bdt 27 [] ?_ ?_ zz.cells.toArray ?_ ?_); rfl; rfl; exact BZ.out)
                | ((with_reducible refine stc (.tmp 2) (.tmp 53) ?_ ?_ w.heap.size 0 zz ?_ ?_ T10.out ZZ1.out ?_); rfl; rfl; rfl; rfl; rw [HW9.out])
                | fail)
              exact bodyPost_ret (res_cfi rfl _ _ w.heap.size 0 zz _ rfl rfl N9.out) rfl ⟨⟨cfV zz, by rw [← HDZ.out]; rfl, by rw [← HDZ.out, ← HZZ.out]; exact CmdRes.zero _⟩, B9.out⟩
        · have hd0 : (er == 0) = false := by rw [Bool.eq_false_iff]; simpa using he
          have HDZ : Hid ((zCv, er) = D) := Lib.hid (by rw [HD.out, if_pos he])
          have E10 := E9
          go_upto_region 10 with fail
          have T10 := Lib.hid E10.out.d.y.th
          obtain ⟨wH, hwH⟩ : ∃ v, wG = v := ⟨_, rfl⟩
          rw [hwH] at E10 T10 ⊢
          clear hwH
          obtain ⟨w9, hw9⟩ : ∃ v, wH.setCells w.heap.size 0 zz.cells = v := ⟨_, rfl⟩
          have N9 : Hid (w9.rangeAt w.heap.size 0 zz.cells) := Lib.hid (by rw [← hw9]; exact (E10.out.d.y.set_ (cf_sz _)).rg)
          have B9 : Hid (Below w.heap.size w w9) := Lib.hid (by rw [← hw9]; exact below_setCells E10.out.d.b (Nat.le_refl _) _ _)
          have HW9 := Lib.hid hw9
          clear hw9
          go_wp2_with (first
            | ((with_reducible refine bdt 27 [] ?_ ?_ zz.cells.toArray ?_ ?_); rfl; rfl; exact BZ.out)
            | ((with_reducible refine stc (.tmp 2) (.tmp 43) ?_ ?_ w.heap.size 0 zz ?_ ?_ T10.out ZZ1.out ?_); rfl; rfl; rfl; rfl; rw [HW9.out])
            | fail)
          exact bodyPost_ret (res_cfi rfl _ _ w.heap.size 0 zz _ rfl rfl N9.out) rfl ⟨⟨cfV zz, by rw [← HDZ.out]; rfl, by rw [← HDZ.out, ← HZZ.out]; exact CmdRes.zero _⟩, B9.out⟩
end Go.Proofs.Ythionkcnmkhopaa
