/-
  STAGE 6's REFERENCE: the bytes of blobs and trees.
-/
import Derived.Test.YtcofkhmgmemkmaaGreatDoorK44
namespace Go.Proofs.YtcofkhmgmemkmaaGreatDoor
set_option linter.unusedVariables false
set_option linter.unusedSimpArgs false
open Go.RowKit Go.WideShapes Go.ChangeShapes Go.Deep Go.Shelf
attribute [local irreducible] wpQuiet

theorem St6.one (w1 : World) (k : Nat) (hk : k < 256) : St6 w1 (some ⟨w1.heap.size, 0, none⟩) 1 1 [UInt8.ofNat k] (w1.alloc (.cells #[.int .u8 (k : Int)] 5)) := by
  refine ⟨(Below.refl _ _).alloc (Nat.le_refl _) _, ?_⟩
  have := World.ownsRow_lit (base := w1.heap.size) (e := 5) (size := 1) w1 #[.int .u8 (k : Int)] 1 (Nat.le_refl _) (by unfold maxLen; omega) (by simp)
  show World.ownsRow _ _ _ _ _ _ (S3.bvs [UInt8.ofNat k])
  rw [show S3.bvs [UInt8.ofNat k] = [S3.bv (UInt8.ofNat k)] from rfl, byte_small hk]
  exact this
theorem be1 (k : Nat) (hk : k < 256) : S3.be 1 k = [UInt8.ofNat k] := by
  simp [S3.be]

set_option maxRecDepth 100000 in
set_option maxHeartbeats 8000000 in
theorem bytes6_blob {w : World} {x : Ov} {L P E : Sl} (h : Obj3 w w.heap.size x L P E) (K1 : x.kind = 1) (hs : x.text.size ≤ 256) :
    Calls Tryz.prog 21 #[ofV (x.at_ L P E)] w fun e w' => (∃ A n c, e = .returned (.slice A n c) ∧ OwnB w' w.heap.size A n c (bytesW x)) ∧ Below w.heap.size w w' := by
  obtain ⟨ox, w1, hb⟩ := Bxo.mk_ w x L P E
  have HB := Lib.hid hb
  rw [hb.eq]
  have HL : Hid (∀ W, Below w.heap.size w W → Obj3 W w.heap.size x L P E) := Lib.hid fun W hW => h.below hW
  obtain ⟨AL, nL, cL⟩ := L
  obtain ⟨AP, nP, cP⟩ := P
  obtain ⟨AE, nE, cE⟩ := E
  have HLL : Hid (x.lv.length = nL ∧ x.ps.length = nP ∧ x.es.length = nE) := Lib.hid ⟨h.l.len, h.p.len, h.e.len⟩
  clear h hb
  go_enter Tryz.func21, Tryz.ntmps21
  go_upto_region 1 with fail
  rw [HB.out.al]
  have B1 := Lib.hid HB.out.bl
  obtain ⟨a0, a1, a2, a3, -, -, a6, a7, a8, a9, a10⟩ := HB.out.facts (Below.refl _ _)
  have hw0 : IntKind.u8.wrap x.kind = 1 := by rw [K1]; rfl
  have d1 : (x.kind == 1) = true := by simp [K1]
  have HBW : Hid (bytesW x = [UInt8.ofNat 1] ++ (S3.be 2 x.text.size ++ strB x.text)) := Lib.hid (by unfold bytesW; rw [K1, if_pos rfl]; rfl)
  clear K1
  have S0 := Lib.hid (St6.one w1 1 (by omega))
  obtain ⟨w2, hw2⟩ : ∃ w2, w1.alloc (.cells #[.int .u8 ((1 : Nat) : Int)] 5) = w2 := ⟨_, rfl⟩
  rw [hw2] at S0
  have HW2 : Hid (w1.alloc (.cells #[.int .u8 1] 5) = w2) := Lib.hid hw2
  clear hw2
  go_upto_region 2 with fail
  rw [HW2.out]
  clear a0 a1 a2 a3 a6 a7 a8 a9 a10
  obtain ⟨a0, a1, a2, a3, -, -, a6, a7, a8, a9, a10⟩ := HB.out.facts S0.out.b
  go_wp2_with fail
  refine (some6_any x.text (by omega) 2 2 rfl (by omega) w2).mono ?_
  rintro e w3 ⟨⟨As, cs, rfl, hos⟩, hb3⟩
  dsimp only
  have SL3 := Lib.hid hos.sl
  have S3z := Lib.hid (S0.out.below hb3)
  clear hos hb3 a0 a1 a2 a3 a6 a7 a8 a9 a10
  go_wp2_with (first
    | (at_builtin; refine wpList_plain rfl fun KK hKK => S3z.out.app (.tmp 19) (.tmp 22) rfl rfl rfl SL3.out (by omega) ?_; intro A4 c4 w4 hst hkt; have S4 := Lib.hid hst; clear hst hkt; refine hKK _ _ ?_)
    | fail)
  go_ret
  exact ⟨⟨A4, _, c4, rfl, by rw [HBW.out]; exact own_base S4.out.o B1.out.size⟩, B1.out.trans (S4.out.b.mono B1.out.size)⟩

set_option maxRecDepth 100000 in
set_option maxHeartbeats 8000000 in
theorem bytes6_tree {w : World} {x : Ov} {L P E : Sl} (h : Obj3 w w.heap.size x L P E) (K2 : x.kind = 2) (hs : x.lv.length ≤ 32 ∧ ∀ l ∈ x.lv, l.p.size ≤ 48) :
    Calls Tryz.prog 21 #[ofV (x.at_ L P E)] w fun e w' => (∃ A n c, e = .returned (.slice A n c) ∧ OwnB w' w.heap.size A n c (bytesW x)) ∧ Below w.heap.size w w' := by
  obtain ⟨ox, w1, hb⟩ := Bxo.mk_ w x L P E
  have HB := Lib.hid hb
  rw [hb.eq]
  have HL : Hid (∀ W, Below w.heap.size w W → Obj3 W w.heap.size x L P E) := Lib.hid fun W hW => h.below hW
  obtain ⟨AL, nL, cL⟩ := L
  obtain ⟨AP, nP, cP⟩ := P
  obtain ⟨AE, nE, cE⟩ := E
  have HLL : Hid (x.lv.length = nL ∧ x.ps.length = nP ∧ x.es.length = nE) := Lib.hid ⟨h.l.len, h.p.len, h.e.len⟩
  clear h hb
  go_enter Tryz.func21, Tryz.ntmps21
  go_upto_region 1 with fail
  rw [HB.out.al]
  have B1 := Lib.hid HB.out.bl
  obtain ⟨a0, a1, a2, a3, -, -, a6, a7, a8, a9, a10⟩ := HB.out.facts (Below.refl _ _)
  have hw0 : IntKind.u8.wrap x.kind = 2 := by rw [K2]; rfl
  have d1 : (x.kind == 1) = false := by simp [K2]
  have d2 : (x.kind == 2) = true := by simp [K2]
  have hnL : nL ≤ 32 := by have := HLL.out.1; omega
  have hw1 : IntKind.u8.wrap (nL : Int) = (nL : Int) := by rw [IntKind.wrap_u8]; omega
  have HSZ := Lib.hid hs.2
  have HBW : Hid (bytesW x = [UInt8.ofNat 2] ++ ([UInt8.ofNat nL] ++ x.lv.flatMap leafB)) := Lib.hid (by unfold bytesW; rw [K2, if_neg (by decide), if_pos rfl, HLL.out.1]; rfl)
  clear K2 hs
  have S0 := Lib.hid (St6.one w1 2 (by omega))
  obtain ⟨w2, hw2⟩ : ∃ w2, w1.alloc (.cells #[.int .u8 ((2 : Nat) : Int)] 5) = w2 := ⟨_, rfl⟩
  rw [hw2] at S0
  have HW2 : Hid (w1.alloc (.cells #[.int .u8 2] 5) = w2) := Lib.hid hw2
  clear hw2
  go_upto_region 2 with fail
  rw [HW2.out]
  clear a0 a1 a2 a3 a6 a7 a8 a9 a10 HW2
  obtain ⟨a0, a1, a2, a3, -, -, a6, a7, a8, a9, a10⟩ := HB.out.facts S0.out.b
  obtain ⟨wa, hwa⟩ : ∃ wa, w2.alloc (.cells #[.int .u8 (nL : Int)] 5) = wa := ⟨_, rfl⟩
  have SA := Lib.hid (S0.out.below (W' := wa) (by rw [← hwa]; exact (Below.refl _ _).alloc (Nat.le_refl _) _))
  have SLA : Hid (S3.SlB wa wa.heap.size (some ⟨w2.heap.size, 0, none⟩) 1 1 [UInt8.ofNat nL]) := Lib.hid (by rw [← hwa]; exact one_sl w2 nL (by omega))
  have HWA := Lib.hid hwa
  clear hwa S0
  go_upto_region 7 with (first
    | (at_builtin; rw [HWA.out]; refine wpList_plain rfl fun KK hKK => SA.out.app (.tmp 26) (.tmp 31) rfl rfl rfl SLA.out (by omega) ?_; intro A4 c4 w4 hst hkt; have S4 := Lib.hid hst; clear hst hkt; refine hKK _ _ ?_)
    | fail)
  clear a0 a1 a2 a3 a6 a7 a8 a9 a10 HWA SLA SA
  obtain ⟨a0, a1, a2, a3, -, -, a6, a7, a8, a9, a10⟩ := HB.out.facts S4.out.b
  have hnl0 : (0 : Int) ≤ (nL : Int) := Int.natCast_nonneg _
  go_wp2_with fail
  clear a0 a1 a2 a3 a6 a7 a8 a9 a10
  obtain ⟨zl, hzl⟩ : ∃ z, zLf = z := ⟨_, rfl⟩
  have ZL : Hid (∀ w : World, (zeroValue 68).run Tryz.prog w = .ok (.agg zl.cells.toArray) w) := Lib.hid (by rw [← hzl]; exact zero_lf)
  clear hzl
  go_loopw [3, 36] (fun v i wr => ∃ (k : Nat) (A : Option Addr) (n c : Nat), k ≤ nL ∧ i = .int .i64 (k : Int) ∧ v = .slice A n c ∧ n ≤ 2 + k * 81 ∧ Hid (St6 w1 A n c ([UInt8.ofNat 2] ++ ([UInt8.ofNat nL] ++ (x.lv.take k).flatMap leafB)) wr)) (fun _ i _ => nL - (intOf i).toNat)
  case atStart => exact ⟨0, A4, _, c4, Nat.zero_le _, rfl, rfl, by omega, S4⟩
  case round =>
    obtain ⟨k, A, n, c, hk, rfl, rfl, hn2, hlo⟩ := hrel
    by_cases hlt : k < nL
    · have hd : decide ((k : Int) < (nL : Int)) = true := by simp; omega
      have hk0 : (0 : Int) ≤ (k : Int) := Int.natCast_nonneg _
      have hk1 : (k : Int) < (nL : Int) := by omega
      have BR := B1.out.trans (hlo.out.b.mono B1.out.size)
      obtain ⟨b, o, rfl, hbl, hrg⟩ := (HL.out wr BR).l.at_ hlt
      have hkl : k < x.lv.length := by rw [HLL.out.1]; exact hlt
      have HST := Lib.hid (leafs_step hkl)
      have hps := HSZ.out x.lv[k] (List.getElem_mem hkl)
      obtain ⟨r, hr⟩ : ∃ r, x.lv[k] = r := ⟨_, rfl⟩
      rw [hr] at hrg HST hps
      have HRG := Lib.hid hrg
      obtain ⟨T, hT⟩ : ∃ T, wr.heap.size = T := ⟨_, rfl⟩
      obtain ⟨wA, hwA⟩ : ∃ wA, wr.alloc (.cells zl.cells.toArray 68) = wA := ⟨_, rfl⟩
      obtain ⟨w5, hw5⟩ : ∃ w5, wA.setCells T 0 r.cells = w5 := ⟨_, rfl⟩
      have Lt0 : Hid (Lt w5 T 68 33 r.cells) := Lib.hid (by rw [← hw5, ← hwA, ← hT]; exact Lt.made wr 68 (lf_sz _) (lf_sz _))
      have C5 : Below wr.heap.size wr w5 := by rw [← hw5, ← hwA]; exact below_setCells ((Below.refl _ _).alloc (Nat.le_refl _) _) (by omega) _ _
      have Sx0 := Lib.hid (hlo.out.below C5)
      have HWA := Lib.hid hwA
      have HW5 := Lib.hid hw5
      have TA : Hid (wA.there T 0 33) := Lib.hid (by rw [← hwA, ← hT]; have := (Lies.new wr zl.cells 68).th; rwa [lf_sz] at this)
      clear hwA hw5 C5 hrg hr BR hlo
      go_upto_region 10 with (first
        | ((with_reducible refine ldl (.tmp 38) ?_ ?_ b (o + k * 33) r ?_ HRG.out ?_); rfl; rfl; (first | rfl | go_simp))
        | ((with_reducible refine alt 68 ?_ ?_ zl.cells ZL.out ?_); rfl; rfl; rw [HWA.out]; (try simp only [Act.put, List.setIfInBounds_toArray, List.set_cons_succ, List.set_cons_zero, hT]))
        | ((with_reducible refine stl (.tmp 5) (.tmp 39) ?_ ?_ T 0 r ?_ ?_ TA.out ?_); rfl; rfl; rfl; rfl; rw [HW5.out])
        | fail)
      clear HWA HW5 TA HRG
      obtain ⟨wd1, hwd⟩ : ∃ wd, w5.drew = wd := ⟨_, rfl⟩
      have BDz : Below w5.heap.size w5 wd1 := by rw [← hwd]; exact (Below.refl _ _).drew
      have St2 := Lib.hid (Sx0.out.below BDz)
      have Lt2_T : Hid (Lt wd1 T 68 33 r.cells) := Lib.hid (Lt0.out.kt (Kt.fresh BDz (Nat.le_refl _)) (by decide))
      clear Sx0 Lt0
      refine wp_region_noPanic (wp_region_any (by kernel_rfl) (wpAny_of_bk (S := (fun w' => w'.cell? ⟨T, 0, none⟩ = some (.string r.p))) (m := 8) _ _ _ _ ?_))
      show wpBk _ _ _ _ _ _ 9 _ _ w5.drew
      rw [hwd]
      clear hwd BDz
      refine wpBk_takeP (i := 0) rfl (by kernel_rfl) (fun _ _ _ _ h => h) (.inl ⟨rfl, fun w' hw' => (by clear hw'; go_simp; (try rfl))⟩) ?_
      simp only [List.getElem_toArray, List.getElem_cons_zero, List.getElem_cons_succ, Act.put, List.setIfInBounds_toArray, List.set_cons_succ, List.set_cons_zero]
      refine wpBk_takeP (i := 1) rfl (by kernel_rfl) (fun _ _ _ _ h => h) (.inl ⟨rfl, fun w' hw' => (by clear hw'; go_simp; (try rfl))⟩) ?_
      simp only [List.getElem_toArray, List.getElem_cons_zero, List.getElem_cons_succ, Act.put, List.setIfInBounds_toArray, List.set_cons_succ, List.set_cons_zero]
      refine wpBk_take (i := 2) rfl (by kernel_rfl) (fun _ _ _ _ h => h) (.inl ⟨rfl, fun w' hw' => (by have q : w'.cell? ⟨T, 0, none⟩ = some (.string r.p) := hw'; clear hw'; go_simp; (try rfl))⟩) (Lt2_T.out.ls.cell (j := 0) rfl) ?_
      simp only [List.getElem_toArray, List.getElem_cons_zero, List.getElem_cons_succ, Act.put, List.setIfInBounds_toArray, List.set_cons_succ, List.set_cons_zero]
      refine wpBk_takeP (i := 5) rfl (by kernel_rfl) (fun _ _ _ _ h => h) (.inl ⟨rfl, fun w' hw' => (by clear hw'; go_simp; (try rfl))⟩) ?_
      simp only [List.getElem_toArray, List.getElem_cons_zero, List.getElem_cons_succ, Act.put, List.setIfInBounds_toArray, List.set_cons_succ, List.set_cons_zero]
      refine wpBk_takeP (i := 6) rfl (by kernel_rfl) (fun _ _ _ _ h => h) (.inl ⟨rfl, fun w' hw' => (by clear hw'; go_simp; (try rfl))⟩) ?_
      simp only [List.getElem_toArray, List.getElem_cons_zero, List.getElem_cons_succ, Act.put, List.setIfInBounds_toArray, List.set_cons_succ, List.set_cons_zero]
      refine wpBk_one (i := 3) rfl rfl (by kernel_rfl) (fun K hK => ?_)
      refine wp_fn (f := 41) (xs := #[.string r.p, .int .i64 1]) (by first | (go_simp; done) | (go_simp; rfl)) ((some6_any r.p (by omega) 1 1 rfl (by omega) wd1).mono ?_)
      rintro e ws3 ⟨⟨As3, cs3, rfl, hos⟩, hbs⟩
      have SLs3 := Lib.hid hos.sl
      have St4 := Lib.hid (St2.out.below hbs)
      have Lt4_T : Hid (Lt ws3 T 68 33 r.cells) := Lib.hid (Lt2_T.out.kt (Kt.fresh hbs (Nat.le_refl _)) (by decide))
      clear St2 Lt2_T
      clear hos hbs
      refine ⟨_, rfl, hK _ _ ⟨fun _ _ => (Lt4_T.out.ls.cell (j := 0) rfl), ?_⟩⟩
      simp only [List.getElem_toArray, List.getElem_cons_zero, List.getElem_cons_succ, Act.put, List.setIfInBounds_toArray, List.set_cons_succ, List.set_cons_zero]
      refine wpBk_one (i := 4) rfl rfl (by kernel_rfl) (fun K hK => ?_)
      refine St4.out.app (.tmp 40) (.tmp 43) rfl rfl rfl (SLs3.out) (by omega) ?_
      intro A5 c5 wp5 hst hkt
      have St5 := Lib.hid hst
      have Lt5_T : Hid (Lt wp5 T 68 33 r.cells) := Lib.hid (Lt4_T.out.kt hkt (by decide))
      clear hst hkt St4 Lt4_T
      refine hK _ _ ⟨fun _ _ => (Lt5_T.out.ls.cell (j := 0) rfl), ?_⟩
      simp only [List.getElem_toArray, List.getElem_cons_zero, List.getElem_cons_succ, Act.put, List.setIfInBounds_toArray, List.set_cons_succ, List.set_cons_zero]
      have RIz : Hid (wp5.rangeAt T 1 r.id.cells) := Lib.hid (by
        have h9 := Lt5_T.out.ls.rg
        unfold Lf.cells at h9
        rw [show (Value.string r.p :: S3.bvs r.id.b) = [Value.string r.p] ++ S3.bvs r.id.b from rfl, rangeAt_app] at h9
        exact h9.2)
      refine wpBk_one (i := 7) rfl rfl (by kernel_rfl) (fun K hK => ?_)
      refine St5.out.app (.tmp 44) (.tmp 46) rfl rfl rfl (id_slb RIz.out) (by omega) ?_
      intro A6 c6 wp6 hst hkt
      have St6 := Lib.hid hst
      have Lt6_T : Hid (Lt wp6 T 68 33 r.cells) := Lib.hid (Lt5_T.out.kt hkt (by decide))
      clear hst hkt St5 Lt5_T
      refine hK _ _ ⟨fun _ _ => (Lt6_T.out.ls.cell (j := 0) rfl), ?_⟩
      simp only [List.getElem_toArray, List.getElem_cons_zero, List.getElem_cons_succ, Act.put, List.setIfInBounds_toArray, List.set_cons_succ, List.set_cons_zero]
      refine bk_drop 8 1 rfl (by omega) (by kernel_rfl) ?_
      simp only [List.drop_succ_cons, List.drop_zero]
      go_wp2_with fail
      refine NoPanic.normal ?_
      go_wp2_with fail
      go_roundw
      case rel =>
        refine ⟨k + 1, A6, _, c6, by omega, by go_num, rfl, by omega, Lib.hid ?_⟩
        have h9 := St6.out
        rw [be1 _ (by omega)] at h9
        rw [HST.out, show leafB r = [UInt8.ofNat r.p.size] ++ strB r.p ++ r.id.b from rfl]
        simpa only [List.append_assoc] using h9
      case measure => simp [intOf]; omega
    · have hd : decide ((k : Int) < (nL : Int)) = false := by simp; omega
      obtain rfl : k = nL := by omega
      have SF : Hid (St6 w1 A n c (bytesW x) wr) := Lib.hid (by have h9 := hlo.out; rw [List.take_of_length_le (by rw [HLL.out.1]; exact Nat.le_refl _)] at h9; rw [HBW.out]; exact h9)
      go_wp2_with fail
      go_ret
      exact ⟨⟨A, n, c, rfl, own_base SF.out.o B1.out.size⟩, B1.out.trans (SF.out.b.mono B1.out.size)⟩
end Go.Proofs.YtcofkhmgmemkmaaGreatDoor
