/-
  PROVED HERE: the law ObjectBack of layer 6 (object): an object that may be is what its bytes are decoded to, its Id is the digest of these, and each beginning of them is too short; whatever bytes are decoded to an object are that object's bytes, and it may be; else the error is ErrShort or ErrObject, with no object. Conditions: the package variable sha.constants holds what the program's text lays (the card ties it).
-/
import Derived.Test.YtnkhoghdfncgpaaDoorK40
import Derived.Test.YtnkhoghdfncgpaaDoorK34
import Derived.Test.YtnkhoghdfncgpaaDoorK41
import Derived.Test.YtnkhoghdfncgpaaDoorCards
import Derived.Test.YtnkhoghdfncgpaaDoorTie
import Derived.SevenTiedAt
namespace Go.Proofs.YtnkhoghdfncgpaaDoor.objectBack
open Go.ChangeShapes Go.WideShapes Go.ChangeAt Go.RowKit
set_option linter.unusedVariables false
set_option linter.unusedSimpArgs false
open Go.Deep Go.Shelf
attribute [local irreducible] wpQuiet

set_option maxRecDepth 100000 in
set_option maxHeartbeats 8000000 in
theorem walk {w : World} {x : Ov} {L P E : Sl} (hx : Obj3 w w.heap.size x L P E) {A : Option Addr} {n c : Nat} {l : List UInt8} (hs : S3.SlB w w.heap.size A n c l) (cut : Int) (hcut : -9223372036854775808 ≤ cut ∧ cut ≤ 9223372036854775807) (hg : S3.GK w) :
    Calls Tryd.prog 4 #[ofV (x.at_ L P E), .slice A n c, .int .i64 cut] w fun e w' => e = .returned (.bool true) ∧ Below w.heap.size w w' := by
  have h00 := hg.lt
  have HG := Lib.hid hg
  have HS := Lib.hid hs
  have HCUT := Lib.hid hcut
  obtain ⟨X, hX⟩ : ∃ X, w.heap.size = X := ⟨_, rfl⟩
  obtain ⟨xo, hxo⟩ : ∃ o, x.at_ L P E = o := ⟨_, rfl⟩
  obtain ⟨w0, hw0⟩ : ∃ w0, w.alloc (.cells xo.cells.toArray 31) = w0 := ⟨_, rfl⟩
  have B0 : Hid (Below w.heap.size w w0 ∧ w0.heap.size = X + 1) := Lib.hid (by rw [← hw0]; exact ⟨(Below.refl _ _).alloc (Nat.le_refl _) _, by simp [hX]⟩)
  have X0 : Hid (Lies w0 X 73 xo.cells) := Lib.hid (by
    rw [← hw0, ← hX]
    have := Lies.new w xo.cells 31
    rwa [of_sz] at this)
  obtain ⟨zz, hzz⟩ : ∃ z, zOf = z := ⟨_, rfl⟩
  have ZO : Hid (∀ w : World, (zeroValue 31).run Tryd.prog w = .ok (.agg zz.cells.toArray) w) := Lib.hid (by rw [← hzz]; exact zero_of)
  have HZZ := Lib.hid hzz
  obtain ⟨zI, hzI⟩ : ∃ z, Idv.zero = z := ⟨_, rfl⟩
  have ZI : Hid (∀ w : World, (zeroValue 24).run Tryd.prog w = .ok (.agg zI.cells.toArray) w) := Lib.hid (by rw [← hzI]; exact zero_id)
  have HW := Lib.hid hw0
  have HXO := Lib.hid hxo
  have HXX := Lib.hid hx
  rw [hxo]
  clear hw0 hxo hx hg hs hcut hzz hzI
  go_enter Tryd.func4, Tryd.ntmps4
  go_upto_region 1 with fail
  rw [HW.out]
  (try rw [hX])
  go_wp2_with fail
  refine (owakes_any (gk_keep HG.out B0.out.1 h00)).mono ?_
  rintro e w1 ⟨rfl, hb1⟩
  have B1 : Hid (Below w.heap.size w w1 ∧ X < w1.heap.size) := Lib.hid ⟨B0.out.1.trans (hb1.mono B0.out.1.size), by have := B0.out.2; have := hb1.size; omega⟩
  have Y0 := Lib.hid (X0.out.below hb1 X0.out.lt)
  have RG := Lib.hid Y0.out.rg
  clear hb1 X0 B0 HW
  go_wp2_with (first
    | ((with_reducible refine ldo (.tmp 3) ?_ ?_ X 0 xo ?_ RG.out ?_); rfl; rfl; rfl)
    | fail)
  rw [← HXO.out]
  refine (short_any ((HXX.out.below B1.out.1).more B1.out.1.size)).mono ?_
  rintro e w2 ⟨⟨L1, P1, E1, rfl, ob1, ow1, nn1⟩, hb2⟩
  rw [HXO.out]
  obtain ⟨sx, hsx⟩ : ∃ s, shortO x = s := ⟨_, rfl⟩
  rw [hsx] at ob1 ow1 ⊢
  obtain ⟨xs, hxs⟩ : ∃ o, sx.at_ L1 P1 E1 = o := ⟨_, rfl⟩
  rw [hxs]
  have HXS := Lib.hid hxs
  have OX : Hid (xs.lv.oneCell' = true ∧ xs.pv.oneCell' = true ∧ xs.ev.oneCell' = true) := Lib.hid (by rw [← hxs]; exact at_one _ _ _ _)
  obtain ⟨w5, hw5⟩ : ∃ w5, w2.setCells X 0 xs.cells = w5 := ⟨_, rfl⟩
  have TX := Lib.hid (Y0.out.below hb2 Y0.out.lt).th
  have B5 : Hid (Below w.heap.size w w5) := Lib.hid (by rw [← hw5]; exact below_setCells (B1.out.1.trans (hb2.mono B1.out.1.size)) (by omega) _ _)
  have LM : Hid (Lim L1 P1 E1) := Lib.hid ⟨by omega, by omega, by omega⟩
  have HF : Hid (∀ W, Below w5.heap.size w5 W → Obj3 W W.heap.size sx L1 P1 E1 ∧ W.rangeAt X 0 xs.cells ∧ S3.GK W ∧ S3.SlB W W.heap.size A n c l) := Lib.hid fun W hW => by
    have hb := B5.out.trans (hW.mono B5.out.size)
    have hX2 := B1.out.2
    refine ⟨OwnO.obj (OwnO.below (w := w5) (by rw [← hw5]; exact ow1.set_ hX2 _ _) hW) ob1.num_, ?_, gk_keep HG.out hb h00, (HS.out.below hb).more hb.size⟩
    have h9 : Lies w5 X 73 xs.cells := by rw [← hw5]; exact (Y0.out.below hb2 Y0.out.lt).set_ (of_sz _)
    exact (h9.below hW h9.lt).rg
  have KN := Lib.hid ob1.num_
  have HW5 := Lib.hid hw5
  clear hw5 hxs hsx ob1 ow1 nn1 hb2 Y0 RG
  go_upto_region 4 with (first
    | ((with_reducible refine sto (.tmp 3) (.tmp 21) ?_ ?_ X 0 xs ?_ ?_ TX.out OX.out.1 OX.out.2.1 OX.out.2.2 ?_); rfl; rfl; rfl; rfl; rw [HW5.out])
    | fail)
  have RG := Lib.hid (HF.out w5 (Below.refl _ _)).2.1
  have CE : Hid (Calls Tryd.prog 10 #[ofV xs] w5 fun e w' => (∃ A n c, e = .returned (.tuple #[.slice A n c, .int .i64 (if okW sx then 0 else 160)]) ∧ OwnB w' w5.heap.size A n c (if okW sx then bytesW sx else [])) ∧ Below w5.heap.size w5 w') := Lib.hid (by rw [← HXS.out]; exact Encode_any (HF.out w5 (Below.refl _ _)).1 LM.out)
  go_wp2_with (first
    | ((with_reducible refine ldo (.tmp 3) ?_ ?_ X 0 xs ?_ RG.out ?_); rfl; rfl; rfl)
    | fail)
  refine CE.out.mono ?_
  rintro e w6 ⟨⟨A1, n1, c1, rfl, hown⟩, hb6⟩
  have B6 := Lib.hid hb6
  have SL6 := Lib.hid hown.sl
  clear hb6 hown RG CE TX HW5 HXX OX B1
  cases hq : okW sx
  case true =>
    have HOK := Lib.hid hq
    rw [hq] at SL6
    simp only [if_true] at SL6 ⊢
    clear hq
    obtain ⟨bs, hbs⟩ : ∃ b, bytesW sx = b := ⟨_, rfl⟩
    rw [hbs] at SL6
    have HBS := Lib.hid hbs
    have HD : Hid (decW bs = (sx, 0)) := Lib.hid (by rw [← hbs]; exact dec_back HOK.out KN.out.2.2.1 KN.out.2.2.2)
    have HDS : Hid (∀ k, k < bs.length → decW (bs.take k) = (zOv, 7)) := Lib.hid (by rw [← hbs]; exact fun k hk => dec_short HOK.out KN.out.2.2.1 KN.out.2.2.2 hk)
    have HBL : Hid (bs.length = n1 ∧ n1 ≤ 800 ∧ 0 < n1) := Lib.hid (by
      have h1 := SL6.out.len
      have h2 := HOK.out
      have h3 : 0 < bs.length := by rw [← hbs]; unfold bytesW; simp
      unfold okW at h2
      rw [hbs] at h2
      simp only [Bool.and_eq_true, Bool.not_eq_true', decide_eq_false_iff_not] at h2
      omega)
    clear hbs
    go_wp2_with fail
    refine (Decode_any SL6.out (by have := HBL.out; omega)).mono ?_
    rintro e w7 ⟨⟨v, rfl, hres⟩, hb7⟩
    rw [HD.out] at hres ⊢
    obtain ⟨L2, P2, E2, rfl, ob2, lm2⟩ := hres.ob
    dsimp only at ob2 ⊢
    obtain ⟨us, hus⟩ : ∃ o, sx.at_ L2 P2 E2 = o := ⟨_, rfl⟩
    rw [hus]
    obtain ⟨U, hU⟩ : ∃ U, w7.heap.size = U := ⟨_, rfl⟩
    have OU : Hid (us.lv.oneCell' = true ∧ us.pv.oneCell' = true ∧ us.ev.oneCell' = true) := Lib.hid (by rw [← hus]; exact at_one _ _ _ _)
    obtain ⟨wA, hwA⟩ : ∃ wA, w7.alloc (.cells zz.cells.toArray 31) = wA := ⟨_, rfl⟩
    obtain ⟨w8, hw8⟩ : ∃ w8, wA.setCells U 0 us.cells = w8 := ⟨_, rfl⟩
    have YA : Hid (Lies wA U 73 zz.cells) := Lib.hid (by rw [← hwA, ← hU]; have := Lies.new w7 zz.cells 31; rwa [of_sz] at this)
    have D8 : Hid (Below w7.heap.size w7 w8) := Lib.hid (by rw [← hw8, ← hwA]; exact below_setCells ((Below.refl _ _).alloc (Nat.le_refl _) _) (by omega) _ _)
    have YU : Hid (Lies w8 U 73 us.cells) := Lib.hid (by rw [← hw8]; exact YA.out.set_ (of_sz _))
    have B8 : Hid (Below w5.heap.size w5 w8) := Lib.hid ((B6.out.trans (hb7.mono B6.out.size)).trans (D8.out.mono (Nat.le_trans B6.out.size hb7.size)))
    have HU2 : Hid (∀ W, Below w8.heap.size w8 W → Obj3 W W.heap.size sx L2 P2 E2 ∧ W.rangeAt U 0 us.cells) := Lib.hid fun W hW => ⟨(ob2.below (D8.out.trans (hW.mono D8.out.size))).more (Nat.le_trans D8.out.size hW.size), (YU.out.below hW YU.out.lt).rg⟩
    have HF8 : Hid (∀ W, Below w8.heap.size w8 W → S3.SlB W W.heap.size A1 n1 c1 bs) := Lib.hid fun W hW => (SL6.out.below ((hb7.trans (D8.out.mono hb7.size)).trans (hW.mono (Nat.le_trans hb7.size D8.out.size)))).more (Nat.le_trans (Nat.le_trans hb7.size D8.out.size) hW.size)
    have HWA := Lib.hid hwA
    have HW8 := Lib.hid hw8
    have HUS := Lib.hid hus
    have TU := Lib.hid YA.out.th
    have LM2 := Lib.hid lm2
    clear hwA hw8 hus ob2 lm2 hb7 YA hres
    go_upto_region 7 with (first
      | ((with_reducible refine alt 31 ?_ ?_ zz.cells ZO.out ?_); rfl; rfl; rw [HWA.out]; (try simp only [Act.put, List.setIfInBounds_toArray, List.set_cons_succ, List.set_cons_zero, hU]))
      | ((with_reducible refine sto (.tmp 9) (.tmp 32) ?_ ?_ U 0 us ?_ ?_ TU.out OU.out.1 OU.out.2.1 OU.out.2.2 ?_); rfl; rfl; rfl; rfl; rw [HW8.out])
      | fail)
    have RG := Lib.hid (HF.out w8 B8.out).2.1
    obtain ⟨si, hsi⟩ : ∃ i, idW sx = i := ⟨_, rfl⟩
    have CI : Hid (Calls Tryd.prog 12 #[ofV xs] w8 fun e w' => e = .returned (.tuple #[idV si, .int .i64 0]) ∧ Below w8.heap.size w8 w') := Lib.hid (by
      have h9 := Id_any (HF.out w8 B8.out).1 LM.out (HF.out w8 B8.out).2.2.1
      rw [HOK.out, HXS.out] at h9
      simp only [if_true] at h9
      rw [hsi] at h9
      exact h9)
    have HSI : Hid (si.b = S3.sumW bs) := Lib.hid (by rw [← hsi, ← HBS.out]; rfl)
    clear hsi
    go_wp2_with (first
      | ((with_reducible refine ldo (.tmp 3) ?_ ?_ X 0 xs ?_ RG.out ?_); rfl; rfl; rfl)
      | fail)
    refine CI.out.mono ?_
    rintro e w9 ⟨rfl, hb9⟩
    dsimp only
    clear CI TU RG HWA HW8 OU
    obtain ⟨V, hV⟩ : ∃ V, w9.heap.size = V := ⟨_, rfl⟩
    obtain ⟨wA, hwA⟩ : ∃ wA, w9.alloc (.cells zI.cells.toArray 24) = wA := ⟨_, rfl⟩
    obtain ⟨w10, hw10⟩ : ∃ w10, wA.setCells V 0 si.cells = w10 := ⟨_, rfl⟩
    have YA : Hid (Lies wA V 32 zI.cells) := Lib.hid (by rw [← hwA, ← hV]; have := Lies.new w9 zI.cells 24; rwa [id_sz] at this)
    have D10 : Hid (Below w8.heap.size w8 w10) := Lib.hid (by rw [← hw10, ← hwA]; exact hb9.trans ((below_setCells ((Below.refl w9.heap.size _).alloc (Nat.le_refl _) _) (by omega) _ _).mono hb9.size))
    have YV : Hid (Lies w10 V 32 si.cells) := Lib.hid (by rw [← hw10]; exact YA.out.set_ (id_sz _))
    have B10 : Hid (Below w5.heap.size w5 w10) := Lib.hid (B8.out.trans (D10.out.mono B8.out.size))
    have HWA := Lib.hid hwA
    have HW10 := Lib.hid hw10
    have TV := Lib.hid YA.out.th
    clear hwA hw10 hb9 YA
    go_upto_region 8 with (first
      | ((with_reducible refine alt 24 ?_ ?_ zI.cells ZI.out ?_); rfl; rfl; rw [HWA.out]; (try simp only [Act.put, List.setIfInBounds_toArray, List.set_cons_succ, List.set_cons_zero, hV]))
      | ((with_reducible refine sti (.tmp 11) (.tmp 37) ?_ ?_ V 0 si ?_ ?_ TV.out ?_); rfl; rfl; rfl; rfl; rw [HW10.out])
      | fail)
    obtain ⟨wd, hwd⟩ : ∃ wd, w10.drew = wd := ⟨_, rfl⟩
    have BD : Hid (Below w8.heap.size w8 wd) := Lib.hid (by rw [← hwd]; exact D10.out.trans (Below.refl _ _).drew)
    have FV : Hid (Lies wd V 32 si.cells) := Lib.hid (by rw [← hwd]; exact YV.out.below (Below.refl _ _).drew YV.out.lt)
    have BE : Hid (∀ W, Below wd.heap.size wd W → Below w8.heap.size w8 W ∧ Below w5.heap.size w5 W) := Lib.hid fun W hW => by
      have h9 := BD.out.trans (hW.mono BD.out.size)
      exact ⟨h9, B8.out.trans (h9.mono B8.out.size)⟩
    have HSS : Hid (∀ W, Below wd.heap.size wd W → W.rangeAt X 0 xs.cells ∧ W.rangeAt U 0 us.cells ∧ W.rangeAt V 0 si.cells) := Lib.hid fun W hW => ⟨(HF.out W (BE.out W hW).2).2.1, (HU2.out W (BE.out W hW).1).2, (FV.out.below hW FV.out.lt).rg⟩
    refine wp_region_noPanic (wp_region_any (by kernel_rfl) (wpAny_of_bk (S := (fun w' => w'.rangeAt X 0 xs.cells ∧ w'.rangeAt U 0 us.cells ∧ w'.rangeAt V 0 si.cells)) (m := 18) _ _ _ _ ?_))
    show wpBk _ _ _ _ _ _ 18 _ _ w10.drew
    rw [hwd]
    clear hwd YV FV TV HWA HW10
    refine wpBk_takeP (i := 0) rfl (by kernel_rfl) (fun _ _ _ _ h => h) (.inl ⟨rfl, fun w' hw' => (by clear hw'; go_simp; (try rfl))⟩) ?_
    simp only [List.getElem_toArray, List.getElem_cons_zero, List.getElem_cons_succ, Act.put, List.setIfInBounds_toArray, List.set_cons_succ, List.set_cons_zero]
    refine wpBk_takeP (i := 1) rfl (by kernel_rfl) (fun _ _ _ _ h => h) (.inl ⟨rfl, fun w' hw' => (by clear hw'; go_simp; (try rfl))⟩) ?_
    simp only [List.getElem_toArray, List.getElem_cons_zero, List.getElem_cons_succ, Act.put, List.setIfInBounds_toArray, List.set_cons_succ, List.set_cons_zero]
    refine wpBk_takeP (i := 2) rfl (by kernel_rfl) (fun _ _ _ _ h => h) (.inl ⟨rfl, fun w' hw' => (by clear hw'; go_simp; (try rfl))⟩) ?_
    simp only [List.getElem_toArray, List.getElem_cons_zero, List.getElem_cons_succ, Act.put, List.setIfInBounds_toArray, List.set_cons_succ, List.set_cons_zero]
    refine wpBk_takeP (i := 3) rfl (by kernel_rfl) (fun _ _ _ _ h => h) (.inl ⟨rfl, fun w' hw' => (by clear hw'; go_simp; (try rfl))⟩) ?_
    simp only [List.getElem_toArray, List.getElem_cons_zero, List.getElem_cons_succ, Act.put, List.setIfInBounds_toArray, List.set_cons_succ, List.set_cons_zero]
    refine wpBk_takeP (i := 4) rfl (by kernel_rfl) (fun _ _ _ _ h => h) (.inl ⟨rfl, fun w' hw' => (by clear hw'; go_simp; (try rfl))⟩) ?_
    simp only [List.getElem_toArray, List.getElem_cons_zero, List.getElem_cons_succ, Act.put, List.setIfInBounds_toArray, List.set_cons_succ, List.set_cons_zero]
    refine wpBk_takeP (i := 5) rfl (by kernel_rfl) (fun _ _ _ _ h => h) (.inl ⟨rfl, fun w' hw' => (by clear hw'; go_simp; (try rfl))⟩) ?_
    simp only [List.getElem_toArray, List.getElem_cons_zero, List.getElem_cons_succ, Act.put, List.setIfInBounds_toArray, List.set_cons_succ, List.set_cons_zero]
    refine wpBk_takeP (i := 6) rfl (by kernel_rfl) (fun _ _ _ _ h => h) (.inl ⟨rfl, fun w' hw' => (by clear hw'; go_simp; (try rfl))⟩) ?_
    simp only [List.getElem_toArray, List.getElem_cons_zero, List.getElem_cons_succ, Act.put, List.setIfInBounds_toArray, List.set_cons_succ, List.set_cons_zero]
    refine wpBk_take (i := 7) rfl (by kernel_rfl) (fun _ _ _ _ h => h) (of_yield (.tmp 3) rfl rfl (X) xs rfl (fun w' hw' => hw'.1)) (HSS.out wd (Below.refl _ _)) ?_
    simp only [List.getElem_toArray, List.getElem_cons_zero, List.getElem_cons_succ, Act.put, List.setIfInBounds_toArray, List.set_cons_succ, List.set_cons_zero]
    refine wpBk_take (i := 8) rfl (by kernel_rfl) (fun _ _ _ _ h => h) (of_yield (.tmp 9) rfl rfl (U) us rfl (fun w' hw' => hw'.2.1)) (HSS.out wd (Below.refl _ _)) ?_
    simp only [List.getElem_toArray, List.getElem_cons_zero, List.getElem_cons_succ, Act.put, List.setIfInBounds_toArray, List.set_cons_succ, List.set_cons_zero]
    have CS : Hid (Calls Tryd.prog 8 #[ofV xs, ofV us] wd fun e w' => e = .returned (.bool true) ∧ Below wd.heap.size wd w') := Lib.hid (by rw [← sameO_refl sx, ← HXS.out, ← HUS.out]; exact Same_any (HF.out wd (BE.out wd (Below.refl _ _)).2).1 (HU2.out wd (BE.out wd (Below.refl _ _)).1).1 (by have := LM.out.l; omega) (by have := LM.out.p; omega) (by have := LM.out.e; omega))
    refine wpBk_one (i := 9) rfl rfl (by kernel_rfl) (fun K hK => ?_)
    refine wp_fn (f := 8) (xs := #[ofV xs, ofV us]) (by first | (go_simp; done) | (go_simp; rfl)) ((CS.out).mono ?_)
    rintro e w11 ⟨rfl, hb11⟩
    have B11 := Lib.hid hb11
    clear hb11 CS
    refine ⟨_, rfl, hK _ _ ⟨fun _ _ => (HSS.out w11 B11.out), ?_⟩⟩
    simp only [List.getElem_toArray, List.getElem_cons_zero, List.getElem_cons_succ, Act.put, List.setIfInBounds_toArray, List.set_cons_succ, List.set_cons_zero]
    refine wpBk_takeP (i := 10) rfl (by kernel_rfl) (fun _ _ _ _ h => h) (.inl ⟨rfl, fun w' hw' => (by clear hw'; go_simp; (try rfl))⟩) ?_
    simp only [List.getElem_toArray, List.getElem_cons_zero, List.getElem_cons_succ, Act.put, List.setIfInBounds_toArray, List.set_cons_succ, List.set_cons_zero]
    refine wpBk_takeP (i := 11) rfl (by kernel_rfl) (fun _ _ _ _ h => h) (.inl ⟨rfl, fun w' hw' => (by clear hw'; go_simp; (try rfl))⟩) ?_
    simp only [List.getElem_toArray, List.getElem_cons_zero, List.getElem_cons_succ, Act.put, List.setIfInBounds_toArray, List.set_cons_succ, List.set_cons_zero]
    refine wpBk_takeP (i := 12) rfl (by kernel_rfl) (fun _ _ _ _ h => h) (.inl ⟨rfl, fun w' hw' => (by clear hw'; go_simp; (try rfl))⟩) ?_
    simp only [List.getElem_toArray, List.getElem_cons_zero, List.getElem_cons_succ, Act.put, List.setIfInBounds_toArray, List.set_cons_succ, List.set_cons_zero]
    refine wpBk_take (i := 13) rfl (by kernel_rfl) (fun _ _ _ _ h => h) (yieldsIf_load_mid rfl 24 (.tmp 11) rfl V 0 rfl si.cells _ (fun w' hw' => hw'.2.2) Tryd.underlying24 rfl (by rw [id_sz]; exact size_idv)) (HSS.out w11 B11.out) ?_
    simp only [List.getElem_toArray, List.getElem_cons_zero, List.getElem_cons_succ, Act.put, List.setIfInBounds_toArray, List.set_cons_succ, List.set_cons_zero]
    refine wpBk_takeP (i := 14) rfl (by kernel_rfl) (fun _ _ _ _ h => h) (.inl ⟨rfl, fun w' hw' => (by clear hw'; go_simp; (try rfl))⟩) ?_
    simp only [List.getElem_toArray, List.getElem_cons_zero, List.getElem_cons_succ, Act.put, List.setIfInBounds_toArray, List.set_cons_succ, List.set_cons_zero]
    have CU : Hid (Calls Tryd.prog 13 #[.slice A1 n1 c1] w11 fun e w' => e = .returned (idV si) ∧ Below w11.heap.size w11 w') := Lib.hid (by
      have h9 := S3.sum_any (HF8.out w11 (BE.out w11 B11.out).1) (Nat.le_refl _) (by have := HBL.out; omega) (HF.out w11 (BE.out w11 B11.out).2).2.2.1
      rw [← HSI.out] at h9
      exact h9)
    refine wpBk_one (i := 15) rfl rfl (by kernel_rfl) (fun K hK => ?_)
    refine wp_fn (f := 13) (xs := #[.slice A1 n1 c1]) (by first | (go_simp; done) | (go_simp; rfl)) ((CU.out).mono ?_)
    rintro e w12 ⟨rfl, hb12⟩
    have B12 := Lib.hid (B11.out.trans (hb12.mono B11.out.size))
    clear hb12 CU B11
    refine ⟨_, rfl, hK _ _ ⟨fun _ _ => (HSS.out w12 B12.out), ?_⟩⟩
    simp only [List.getElem_toArray, List.getElem_cons_zero, List.getElem_cons_succ, Act.put, List.setIfInBounds_toArray, List.set_cons_succ, List.set_cons_zero]
    refine wpBk_takeP (i := 16) rfl (by kernel_rfl) (fun _ _ _ _ h => h) (.inl ⟨rfl, fun w' hw' => (by clear hw'; have h9 : (Op.equalIn 10000 24 (.agg si.cells.toArray) (.agg (S3.bvs si.b).toArray)).run Tryd.prog w' = .ok true w' := (eq_id si si w').trans (by rw [beq_self_eq_true]); go_simp; (try rw [h9]); (try rfl))⟩) ?_
    simp only [List.getElem_toArray, List.getElem_cons_zero, List.getElem_cons_succ, Act.put, List.setIfInBounds_toArray, List.set_cons_succ, List.set_cons_zero]
    refine wpBk_takeP (i := 17) rfl (by kernel_rfl) (fun _ _ _ _ h => h) (.inl ⟨rfl, fun w' hw' => (by clear hw'; go_simp; (try rfl))⟩) ?_
    simp only [List.getElem_toArray, List.getElem_cons_zero, List.getElem_cons_succ, Act.put, List.setIfInBounds_toArray, List.set_cons_succ, List.set_cons_zero]
    refine ⟨by kernel_rfl, ?_⟩
    refine NoPanic.normal ?_
    go_upto_region 10 with fail
    have hn1p : (0 : Int) < (n1 : Int) := by have := HBL.out; omega
    have hn18 : (n1 : Int) ≤ 800 := by have := HBL.out; omega
    go_upto_region 11 with fail
    obtain ⟨k, hk, hkl⟩ : ∃ k : Nat, wrap64 ((IntKind.u64.wrap cut).tmod (n1 : Int)) = (k : Int) ∧ k < n1 := by
      have h1 := wrap_u64_nonneg cut
      have h2 : (IntKind.u64.wrap cut).tmod (n1 : Int) = IntKind.u64.wrap cut % (n1 : Int) := Int.tmod_eq_emod_of_nonneg h1
      have h3 := Int.emod_nonneg (IntKind.u64.wrap cut) (b := (n1 : Int)) (by omega)
      have h4 := Int.emod_lt_of_pos (IntKind.u64.wrap cut) hn1p
      rw [h2]
      obtain ⟨z, hz⟩ : ∃ z, IntKind.u64.wrap cut % (n1 : Int) = z := ⟨_, rfl⟩
      rw [hz] at h3 h4 ⊢
      exact ⟨z.toNat, by unfold wrap64; omega, by omega⟩
    rw [hk]
    clear hk
    have hk0 : (0 : Int) ≤ (k : Int) := Int.natCast_nonneg _
    have hk1 : (k : Int) ≤ (c1 : Int) := by have := (HF8.out w12 (BE.out w12 B12.out).1).cap; omega
    have hk2 : (k : Int).toNat = k := Int.toNat_natCast k
    have HSK := Lib.hid ((HF8.out w12 (BE.out w12 B12.out).1).take (Nat.le_of_lt hkl))
    have HDK : Hid (decW (bs.take k) = (zOv, 7)) := Lib.hid (HDS.out k (by have := HBL.out.1; omega))
    go_wp2_with fail
    (try rw [hk2])
    refine (Decode_any HSK.out (by omega)).mono ?_
    rintro e w13 ⟨⟨v, rfl, hres⟩, hb13⟩
    rw [HDK.out] at hres ⊢
    obtain ⟨L3, P3, E3, rfl, ob3, lm3⟩ := hres.ob
    dsimp only at ob3 ⊢
    obtain ⟨vs, hvs⟩ : ∃ o, zOv.at_ L3 P3 E3 = o := ⟨_, rfl⟩
    rw [hvs]
    obtain ⟨U3, hU3⟩ : ∃ U, w13.heap.size = U := ⟨_, rfl⟩
    have OV : Hid (vs.lv.oneCell' = true ∧ vs.pv.oneCell' = true ∧ vs.ev.oneCell' = true) := Lib.hid (by rw [← hvs]; exact at_one _ _ _ _)
    obtain ⟨wA, hwA⟩ : ∃ wA, w13.alloc (.cells zz.cells.toArray 31) = wA := ⟨_, rfl⟩
    obtain ⟨w14, hw14⟩ : ∃ w14, wA.setCells U3 0 vs.cells = w14 := ⟨_, rfl⟩
    have YA : Hid (Lies wA U3 73 zz.cells) := Lib.hid (by rw [← hwA, ← hU3]; have := Lies.new w13 zz.cells 31; rwa [of_sz] at this)
    have D14 : Hid (Below w13.heap.size w13 w14) := Lib.hid (by rw [← hw14, ← hwA]; exact below_setCells ((Below.refl _ _).alloc (Nat.le_refl _) _) (by omega) _ _)
    have B14 : Hid (Below w5.heap.size w5 w14) := Lib.hid (by have h9 := (BE.out w12 B12.out).2; exact h9.trans ((hb13.trans (D14.out.mono hb13.size)).mono h9.size))
    have HWA := Lib.hid hwA
    have HW14 := Lib.hid hw14
    have TV := Lib.hid YA.out.th
    clear hwA hw14 hvs ob3 lm3 hb13 YA hres D14 HSK HDK B12 BE HSS HF8 HU2 BD D10 B10 B8 YU D8 HSI HUS LM2 SL6 hk0 hk1 hn1p hn18
    go_upto_region 14 with (first
      | ((with_reducible refine alt 31 ?_ ?_ zz.cells ZO.out ?_); rfl; rfl; rw [HWA.out]; (try simp only [Act.put, List.setIfInBounds_toArray, List.set_cons_succ, List.set_cons_zero, hU3]))
      | ((with_reducible refine sto (.tmp 14) (.tmp 69) ?_ ?_ U3 0 vs ?_ ?_ TV.out OV.out.1 OV.out.2.1 OV.out.2.2 ?_); rfl; rfl; rfl; rfl; rw [HW14.out])
      | fail)
    clear HWA HW14 TV OV
    have HSB := Lib.hid (HF.out w14 B14.out).2.2.2
    have hnc := HSB.out.cap
    have hn0 : (0 : Int) ≤ (n : Int) := Int.natCast_nonneg _
    obtain ⟨m, hm⟩ : ∃ m, (min (n : Int) 1000).toNat = m := ⟨_, rfl⟩
    have hmn : m ≤ n ∧ m ≤ 1000 := by omega
    have HSM := Lib.hid (HSB.out.take hmn.1)
    obtain ⟨lb, hlb⟩ : ∃ b, l.take m = b := ⟨_, rfl⟩
    rw [hlb] at HSM
    clear hlb HSB
    go_wp2_with fail
    (try rw [hm])
    clear hm
    refine (Decode_any HSM.out (by omega)).mono ?_
    rintro e wu ⟨⟨v, rfl, hres⟩, hbu⟩
    have HE := Lib.hid (dec_errs lb)
    have HB := Lib.hid (dec_bytes (b := lb))
    obtain ⟨⟨uo, er⟩, hue⟩ : ∃ p, decW lb = p := ⟨_, rfl⟩
    rw [hue] at hres HE HB ⊢
    clear hue
    obtain ⟨L4, P4, E4, rfl, ob4, lm4⟩ := hres.ob
    dsimp only at ob4 HE HB ⊢
    obtain ⟨gs, hgs⟩ : ∃ o, uo.at_ L4 P4 E4 = o := ⟨_, rfl⟩
    rw [hgs]
    obtain ⟨G, hG⟩ : ∃ U, wu.heap.size = U := ⟨_, rfl⟩
    have OG : Hid (gs.lv.oneCell' = true ∧ gs.pv.oneCell' = true ∧ gs.ev.oneCell' = true) := Lib.hid (by rw [← hgs]; exact at_one _ _ _ _)
    obtain ⟨wA, hwA⟩ : ∃ wA, wu.alloc (.cells zz.cells.toArray 31) = wA := ⟨_, rfl⟩
    obtain ⟨wv, hwv⟩ : ∃ wv, wA.setCells G 0 gs.cells = wv := ⟨_, rfl⟩
    have YA : Hid (Lies wA G 73 zz.cells) := Lib.hid (by rw [← hwA, ← hG]; have := Lies.new wu zz.cells 31; rwa [of_sz] at this)
    have DV : Hid (Below wu.heap.size wu wv) := Lib.hid (by rw [← hwv, ← hwA]; exact below_setCells ((Below.refl _ _).alloc (Nat.le_refl _) _) (by omega) _ _)
    have YG : Hid (Lies wv G 73 gs.cells) := Lib.hid (by rw [← hwv]; exact YA.out.set_ (of_sz _))
    have BV : Hid (Below w5.heap.size w5 wv) := Lib.hid (B14.out.trans ((hbu.trans (DV.out.mono hbu.size)).mono B14.out.size))
    have HG4 : Hid (∀ W, Below wv.heap.size wv W → Obj3 W W.heap.size uo L4 P4 E4 ∧ W.rangeAt G 0 gs.cells ∧ S3.SlB W W.heap.size A m c lb) := Lib.hid fun W hW => ⟨(ob4.below (DV.out.trans (hW.mono DV.out.size))).more (Nat.le_trans DV.out.size hW.size), (YG.out.below hW YG.out.lt).rg, (HSM.out.below ((hbu.trans (DV.out.mono hbu.size)).trans (hW.mono (Nat.le_trans hbu.size DV.out.size)))).more (Nat.le_trans (Nat.le_trans hbu.size DV.out.size) hW.size)⟩
    have HWA := Lib.hid hwA
    have HWV := Lib.hid hwv
    have TG := Lib.hid YA.out.th
    have HGS := Lib.hid hgs
    have LM4 := Lib.hid lm4
    clear hwA hwv hgs ob4 lm4 hbu YA hres DV HSM YG
    go_upto_region 16 with (first
      | ((with_reducible refine alt 31 ?_ ?_ zz.cells ZO.out ?_); rfl; rfl; rw [HWA.out]; (try simp only [Act.put, List.setIfInBounds_toArray, List.set_cons_succ, List.set_cons_zero, hG]))
      | ((with_reducible refine sto (.tmp 16) (.tmp 81) ?_ ?_ G 0 gs ?_ ?_ TG.out OG.out.1 OG.out.2.1 OG.out.2.2 ?_); rfl; rfl; rfl; rfl; rw [HWV.out])
      | fail)
    clear HWA HWV TG OG
    rcases HE.out with he | ⟨hz, he⟩
    · obtain ⟨hok4, hby4⟩ := HB.out he
      subst he
      clear HE HB
      have RG4 := Lib.hid (HG4.out wv (Below.refl _ _)).2.1
      have CE4 : Hid (Calls Tryd.prog 10 #[ofV gs] wv fun e w' => (∃ A n c, e = .returned (.tuple #[.slice A n c, .int .i64 0]) ∧ OwnB w' wv.heap.size A n c lb) ∧ Below wv.heap.size wv w') := Lib.hid (by
        have h9 := Encode_any (HG4.out wv (Below.refl _ _)).1 LM4.out
        rw [hok4, hby4, HGS.out] at h9
        simp only [if_true] at h9
        exact h9)
      go_wp2_with (first
        | ((with_reducible refine ldo (.tmp 16) ?_ ?_ G 0 gs ?_ RG4.out ?_); rfl; rfl; rfl)
        | fail)
      refine CE4.out.mono ?_
      rintro e wx ⟨⟨A5, n5, c5, rfl, hown⟩, hbx⟩
      dsimp only
      have BX := Lib.hid hbx
      have SX5 := Lib.hid hown.sl
      clear hbx hown CE4 RG4
      go_wp2_with fail
      have HQ := S3.bytesEqual_is SX5.out (HG4.out wx BX.out).2.2 true (beq_self_eq_true lb)
      have RG5 := Lib.hid (HG4.out wx BX.out).2.1
      refine HQ.mono ?_
      rintro e _ ⟨rfl, rfl⟩
      dsimp only
      clear HQ
      have CC4 : Hid (Calls Tryd.prog 15 #[ofV gs] wx fun e w' => e = .returned (.int .i64 0) ∧ Below wx.heap.size wx w') := Lib.hid (by
        have h9 := OCheck_any (HG4.out wx BX.out).1 LM4.out
        rw [hok4, HGS.out] at h9
        simp only [if_true] at h9
        exact h9)
      go_wp2_with (first
        | ((with_reducible refine ldo (.tmp 16) ?_ ?_ G 0 gs ?_ RG5.out ?_); rfl; rfl; rfl)
        | fail)
      refine CC4.out.mono ?_
      rintro e wy ⟨rfl, hby⟩
      dsimp only
      have BY : Hid (Below w.heap.size w wy) := Lib.hid (B5.out.trans ((BV.out.trans ((BX.out.trans (hby.mono BX.out.size)).mono BV.out.size)).mono B5.out.size))
      clear hby CC4
      go_wp2_with fail
      go_ret
      exact ⟨rfl, BY.out⟩
    · subst hz
      clear HE HB
      have BZ : Hid (Tryd.prog.built 31 [] = some zz.cells.toArray) := Lib.hid (by rw [← HZZ.out]; exact built_obz)
      have HZV : Hid (zOv.at_ nSl nSl nSl = zz) := Lib.hid (by rw [← HZZ.out]; rfl)
      rcases he with rfl | rfl
      · have RG4 := Lib.hid (HG4.out wv (Below.refl _ _)).2.1
        have CS : Hid (Calls Tryd.prog 8 #[ofV gs, ofV zz] wv fun e w' => e = .returned (.bool true) ∧ Below wv.heap.size wv w') := Lib.hid (by rw [← sameO_refl zOv, ← HGS.out, ← HZV.out]; exact Same_any (HG4.out wv (Below.refl _ _)).1 z_ok (by have := LM4.out.l; omega) (by have := LM4.out.p; omega) (by have := LM4.out.e; omega))
        go_wp2_with (first
          | ((with_reducible refine ldo (.tmp 16) ?_ ?_ G 0 gs ?_ RG4.out ?_); rfl; rfl; rfl)
          | ((with_reducible refine bdt 31 [] ?_ ?_ zz.cells.toArray ?_ ?_); rfl; rfl; exact BZ.out)
          | fail)
        refine CS.out.mono ?_
        rintro e wx ⟨rfl, hbx⟩
        dsimp only
        have BX : Hid (Below w.heap.size w wx) := Lib.hid (B5.out.trans ((BV.out.trans (hbx.mono BV.out.size)).mono B5.out.size))
        clear hbx CS
        go_wp2_with fail
        go_ret
        exact ⟨rfl, BX.out⟩
      · have RG4 := Lib.hid (HG4.out wv (Below.refl _ _)).2.1
        have CS : Hid (Calls Tryd.prog 8 #[ofV gs, ofV zz] wv fun e w' => e = .returned (.bool true) ∧ Below wv.heap.size wv w') := Lib.hid (by rw [← sameO_refl zOv, ← HGS.out, ← HZV.out]; exact Same_any (HG4.out wv (Below.refl _ _)).1 z_ok (by have := LM4.out.l; omega) (by have := LM4.out.p; omega) (by have := LM4.out.e; omega))
        go_wp2_with (first
          | ((with_reducible refine ldo (.tmp 16) ?_ ?_ G 0 gs ?_ RG4.out ?_); rfl; rfl; rfl)
          | ((with_reducible refine bdt 31 [] ?_ ?_ zz.cells.toArray ?_ ?_); rfl; rfl; exact BZ.out)
          | fail)
        refine CS.out.mono ?_
        rintro e wx ⟨rfl, hbx⟩
        dsimp only
        have BX : Hid (Below w.heap.size w wx) := Lib.hid (B5.out.trans ((BV.out.trans (hbx.mono BV.out.size)).mono B5.out.size))
        clear hbx CS
        go_wp2_with fail
        go_ret
        exact ⟨rfl, BX.out⟩
  case false =>
    rw [hq] at SL6
    simp only [Bool.false_eq_true, if_false] at SL6 ⊢
    clear hq SL6
    go_upto_region 14 with fail
    have HSB := Lib.hid (HF.out w6 B6.out).2.2.2
    have hnc := HSB.out.cap
    have hn0 : (0 : Int) ≤ (n : Int) := Int.natCast_nonneg _
    obtain ⟨m, hm⟩ : ∃ m, (min (n : Int) 1000).toNat = m := ⟨_, rfl⟩
    have hmn : m ≤ n ∧ m ≤ 1000 := by omega
    have HSM := Lib.hid (HSB.out.take hmn.1)
    obtain ⟨lb, hlb⟩ : ∃ b, l.take m = b := ⟨_, rfl⟩
    rw [hlb] at HSM
    clear hlb HSB
    go_wp2_with fail
    (try rw [hm])
    clear hm
    refine (Decode_any HSM.out (by omega)).mono ?_
    rintro e wu ⟨⟨v, rfl, hres⟩, hbu⟩
    have HE := Lib.hid (dec_errs lb)
    have HB := Lib.hid (dec_bytes (b := lb))
    obtain ⟨⟨uo, er⟩, hue⟩ : ∃ p, decW lb = p := ⟨_, rfl⟩
    rw [hue] at hres HE HB ⊢
    clear hue
    obtain ⟨L4, P4, E4, rfl, ob4, lm4⟩ := hres.ob
    dsimp only at ob4 HE HB ⊢
    obtain ⟨gs, hgs⟩ : ∃ o, uo.at_ L4 P4 E4 = o := ⟨_, rfl⟩
    rw [hgs]
    obtain ⟨G, hG⟩ : ∃ U, wu.heap.size = U := ⟨_, rfl⟩
    have OG : Hid (gs.lv.oneCell' = true ∧ gs.pv.oneCell' = true ∧ gs.ev.oneCell' = true) := Lib.hid (by rw [← hgs]; exact at_one _ _ _ _)
    obtain ⟨wA, hwA⟩ : ∃ wA, wu.alloc (.cells zz.cells.toArray 31) = wA := ⟨_, rfl⟩
    obtain ⟨wv, hwv⟩ : ∃ wv, wA.setCells G 0 gs.cells = wv := ⟨_, rfl⟩
    have YA : Hid (Lies wA G 73 zz.cells) := Lib.hid (by rw [← hwA, ← hG]; have := Lies.new wu zz.cells 31; rwa [of_sz] at this)
    have DV : Hid (Below wu.heap.size wu wv) := Lib.hid (by rw [← hwv, ← hwA]; exact below_setCells ((Below.refl _ _).alloc (Nat.le_refl _) _) (by omega) _ _)
    have YG : Hid (Lies wv G 73 gs.cells) := Lib.hid (by rw [← hwv]; exact YA.out.set_ (of_sz _))
    have BV : Hid (Below w5.heap.size w5 wv) := Lib.hid (B6.out.trans ((hbu.trans (DV.out.mono hbu.size)).mono B6.out.size))
    have HG4 : Hid (∀ W, Below wv.heap.size wv W → Obj3 W W.heap.size uo L4 P4 E4 ∧ W.rangeAt G 0 gs.cells ∧ S3.SlB W W.heap.size A m c lb) := Lib.hid fun W hW => ⟨(ob4.below (DV.out.trans (hW.mono DV.out.size))).more (Nat.le_trans DV.out.size hW.size), (YG.out.below hW YG.out.lt).rg, (HSM.out.below ((hbu.trans (DV.out.mono hbu.size)).trans (hW.mono (Nat.le_trans hbu.size DV.out.size)))).more (Nat.le_trans (Nat.le_trans hbu.size DV.out.size) hW.size)⟩
    have HWA := Lib.hid hwA
    have HWV := Lib.hid hwv
    have TG := Lib.hid YA.out.th
    have HGS := Lib.hid hgs
    have LM4 := Lib.hid lm4
    clear hwA hwv hgs ob4 lm4 hbu YA hres DV HSM YG
    go_upto_region 16 with (first
      | ((with_reducible refine alt 31 ?_ ?_ zz.cells ZO.out ?_); rfl; rfl; rw [HWA.out]; (try simp only [Act.put, List.setIfInBounds_toArray, List.set_cons_succ, List.set_cons_zero, hG]))
      | ((with_reducible refine sto (.tmp 16) (.tmp 81) ?_ ?_ G 0 gs ?_ ?_ TG.out OG.out.1 OG.out.2.1 OG.out.2.2 ?_); rfl; rfl; rfl; rfl; rw [HWV.out])
      | fail)
    clear HWA HWV TG OG
    rcases HE.out with he | ⟨hz, he⟩
    · obtain ⟨hok4, hby4⟩ := HB.out he
      subst he
      clear HE HB
      have RG4 := Lib.hid (HG4.out wv (Below.refl _ _)).2.1
      have CE4 : Hid (Calls Tryd.prog 10 #[ofV gs] wv fun e w' => (∃ A n c, e = .returned (.tuple #[.slice A n c, .int .i64 0]) ∧ OwnB w' wv.heap.size A n c lb) ∧ Below wv.heap.size wv w') := Lib.hid (by
        have h9 := Encode_any (HG4.out wv (Below.refl _ _)).1 LM4.out
        rw [hok4, hby4, HGS.out] at h9
        simp only [if_true] at h9
        exact h9)
      go_wp2_with (first
        | ((with_reducible refine ldo (.tmp 16) ?_ ?_ G 0 gs ?_ RG4.out ?_); rfl; rfl; rfl)
        | fail)
      refine CE4.out.mono ?_
      rintro e wx ⟨⟨A5, n5, c5, rfl, hown⟩, hbx⟩
      dsimp only
      have BX := Lib.hid hbx
      have SX5 := Lib.hid hown.sl
      clear hbx hown CE4 RG4
      go_wp2_with fail
      have HQ := S3.bytesEqual_is SX5.out (HG4.out wx BX.out).2.2 true (beq_self_eq_true lb)
      have RG5 := Lib.hid (HG4.out wx BX.out).2.1
      refine HQ.mono ?_
      rintro e _ ⟨rfl, rfl⟩
      dsimp only
      clear HQ
      have CC4 : Hid (Calls Tryd.prog 15 #[ofV gs] wx fun e w' => e = .returned (.int .i64 0) ∧ Below wx.heap.size wx w') := Lib.hid (by
        have h9 := OCheck_any (HG4.out wx BX.out).1 LM4.out
        rw [hok4, HGS.out] at h9
        simp only [if_true] at h9
        exact h9)
      go_wp2_with (first
        | ((with_reducible refine ldo (.tmp 16) ?_ ?_ G 0 gs ?_ RG5.out ?_); rfl; rfl; rfl)
        | fail)
      refine CC4.out.mono ?_
      rintro e wy ⟨rfl, hby⟩
      dsimp only
      have BY : Hid (Below w.heap.size w wy) := Lib.hid (B5.out.trans ((BV.out.trans ((BX.out.trans (hby.mono BX.out.size)).mono BV.out.size)).mono B5.out.size))
      clear hby CC4
      go_wp2_with fail
      go_ret
      exact ⟨rfl, BY.out⟩
    · subst hz
      clear HE HB
      have BZ : Hid (Tryd.prog.built 31 [] = some zz.cells.toArray) := Lib.hid (by rw [← HZZ.out]; exact built_obz)
      have HZV : Hid (zOv.at_ nSl nSl nSl = zz) := Lib.hid (by rw [← HZZ.out]; rfl)
      rcases he with rfl | rfl
      · have RG4 := Lib.hid (HG4.out wv (Below.refl _ _)).2.1
        have CS : Hid (Calls Tryd.prog 8 #[ofV gs, ofV zz] wv fun e w' => e = .returned (.bool true) ∧ Below wv.heap.size wv w') := Lib.hid (by rw [← sameO_refl zOv, ← HGS.out, ← HZV.out]; exact Same_any (HG4.out wv (Below.refl _ _)).1 z_ok (by have := LM4.out.l; omega) (by have := LM4.out.p; omega) (by have := LM4.out.e; omega))
        go_wp2_with (first
          | ((with_reducible refine ldo (.tmp 16) ?_ ?_ G 0 gs ?_ RG4.out ?_); rfl; rfl; rfl)
          | ((with_reducible refine bdt 31 [] ?_ ?_ zz.cells.toArray ?_ ?_); rfl; rfl; exact BZ.out)
          | fail)
        refine CS.out.mono ?_
        rintro e wx ⟨rfl, hbx⟩
        dsimp only
        have BX : Hid (Below w.heap.size w wx) := Lib.hid (B5.out.trans ((BV.out.trans (hbx.mono BV.out.size)).mono B5.out.size))
        clear hbx CS
        go_wp2_with fail
        go_ret
        exact ⟨rfl, BX.out⟩
      · have RG4 := Lib.hid (HG4.out wv (Below.refl _ _)).2.1
        have CS : Hid (Calls Tryd.prog 8 #[ofV gs, ofV zz] wv fun e w' => e = .returned (.bool true) ∧ Below wv.heap.size wv w') := Lib.hid (by rw [← sameO_refl zOv, ← HGS.out, ← HZV.out]; exact Same_any (HG4.out wv (Below.refl _ _)).1 z_ok (by have := LM4.out.l; omega) (by have := LM4.out.p; omega) (by have := LM4.out.e; omega))
        go_wp2_with (first
          | ((with_reducible refine ldo (.tmp 16) ?_ ?_ G 0 gs ?_ RG4.out ?_); rfl; rfl; rfl)
          | ((with_reducible refine bdt 31 [] ?_ ?_ zz.cells.toArray ?_ ?_); rfl; rfl; exact BZ.out)
          | fail)
        refine CS.out.mono ?_
        rintro e wx ⟨rfl, hbx⟩
        dsimp only
        have BX : Hid (Below w.heap.size w wx) := Lib.hid (B5.out.trans ((BV.out.trans (hbx.mono BV.out.size)).mono B5.out.size))
        clear hbx CS
        go_wp2_with fail
        go_ret
        exact ⟨rfl, BX.out⟩

set_option maxRecDepth 100000 in
theorem lifted (os : Os) (started : os.Started) (H : Type) (enc : TypeId × Value → H) :
    ReturnsInHanded {} Tryd.checked os 4 .any (fun w args => (Rows.objectBackSpec.pre enc Tryd.prog Tryd.f4 [] false w args ∧ laidMetH Tryd.prog S3.laidL w) ∧ sizedMet enc Tryd.prog Tryd.f4 (OpenSpec.ofChange Rows.objectBackSpec) false w args)
      (Rows.objectBackSpec.post enc Tryd.prog Tryd.f4 false true false false) := by
  refine returnsInHanded_of_change_and (C := Tryd.checked) (X := fun w _ => laidMetH Tryd.prog S3.laidL w) (fun _ _ _ hh h => h.of_heap hh) S3.own started (by kernel_rfl) Tryd.func4
    (ChangeSpec.witness_shaped (enc := enc) (C := Tryd.checked) (os := os) (X := fun w _ => laidMetH Tryd.prog S3.laidL w) false (World.doorLaid Tryd.prog 14 os) #[.agg (#[.int .i64 0, .string ByteArray.empty, .slice none 0 0, .int .i64 0] ++ Array.replicate 64 (.int .u8 0) ++ #[.slice none 0 0, .slice none 0 0, .int .u32 0, .int .u32 0, .string ByteArray.empty]), .slice none 0 0, .int .i64 0] 8 rfl (World.shaped_of_RefB (by kernel_rfl) (by kernel_rfl)) (by kernel_rfl) (by kernel_rfl) (by kernel_rfl) (S3.door_met os _)) ?_
  intro W base args ds gs before hval0 hW _ _ hL _
  have hval : ∀ (j : Nat) t v, Tryd.f4.params[j]? = some t → args[j]? = some v → Value.okWide Tryd.prog W .any base t v := hval0
  have hW' := hW
  obtain ⟨p, q, hA0, hV, rfl, hfz, hnd⟩ := hW
  have hA : DataW.TrodAll enc Tryd.prog W 0 (fun _ => true) true Tryd.f4.params.toList args.toList ds p := hA0
  rw [Tryd.params4] at hA hval
  obtain ⟨v0, vs0, d0, ds0, p0, q0, hargs, rfl, rfl, h0, r0⟩ := trodAll_cons hA
  obtain ⟨v1, vs1, d1, ds1, p1, q1, rfl, rfl, rfl, h1, r1⟩ := trodAll_cons r0
  obtain ⟨v2, vs2, d2, ds2, p2, q2, rfl, rfl, rfl, h2, r2⟩ := trodAll_cons r1
  obtain ⟨rfl, rfl, rfl⟩ := trodAll_nil r2
  obtain rfl : args = #[v0, v1, v2] := by cases args; simp_all
  obtain ⟨rfl, rfl⟩ := trodVars_none hV
  have hGK := S3.gk_of_laid hL
  have k0 := h0
  have lt0 : ∀ x ∈ p0, x.block < W.heap.size := by obtain ⟨m, hm⟩ := k0; exact DataW.trod_lt m _ _ _ hm
  obtain ⟨x0, L0, P0, E0, rfl, s0⟩ := obj_arg (hval 0 31 v0 rfl rfl) h0
  have k1 := h1
  have lt1 : ∀ x ∈ p1, x.block < W.heap.size := by obtain ⟨m, hm⟩ := k1; exact DataW.trod_lt m _ _ _ hm
  obtain ⟨a1, len1, cap1, rfl⟩ := okWide_slice Tryd.underlying35 (hval 1 35 v1 rfl rfl)
  obtain ⟨l1, s1⟩ : ∃ l, S3.SlB W W.heap.size a1 len1 cap1 l := by
    obtain ⟨fuel, hf⟩ := h1
    rcases open_ints Tryd.underlying35 Tryd.underlying5 (by kernel_rfl) hf with ⟨hcs, _⟩ | ⟨x, l, c, zs, hcs, _, hl, hm, hz, _, hcell, hwz⟩
    · simp [Value.cells] at hcs
      obtain ⟨rfl, rfl, rfl⟩ := hcs
      exact ⟨[], S3.SlB.nil_⟩
    · simp [Value.cells] at hcs
      obtain ⟨rfl, rfl, rfl⟩ := hcs
      exact S3.sl_arg hl hm (by simpa using hz) hcell hwz
  have k2 := h2
  have lt2 : ∀ x ∈ p2, x.block < W.heap.size := by obtain ⟨m, hm⟩ := k2; exact DataW.trod_lt m _ _ _ hm
  obtain ⟨a2, rfl, e2, f2, w2⟩ := open_int Tryd.underlying3 (hval 2 3 v2 rfl rfl) h2
  have b2 := bounds_i64 w2
  clear hA0 hval0
  refine (walk s0 s1 a2 b2 hGK).mono fun e W' ⟨he, bel⟩ => ?_
  subst he
  exact ⟨_, rfl, _, _, _, [], _, [], hW', trodAll_mk1 (shut_bool Tryd.underlying4 _), (trodAll_cons_mk (Below.trod S3.laidOut (by kernel_rfl) (of_decide_eq_true (by kernel_rfl)) k0 bel lt0) (trodAll_cons_mk (Below.trod S3.laidOut (by kernel_rfl) (of_decide_eq_true (by kernel_rfl)) k1 bel lt1) (trodAll_cons_mk (Below.trod S3.laidOut (by kernel_rfl) (of_decide_eq_true (by kernel_rfl)) k2 bel lt2) trodAll_mk0))), rfl, bel.frame _, fun h => by cases h⟩

theorem over : Rows.objectBackRow.holds Tryd.pinned (OpenSpec.ofChange Rows.objectBackSpec) :=
  OpenClaim.holds_of_wide 4 Tryd.f4 rfl rfl rfl rfl rfl rfl rfl ⟨rfl, rfl, rfl, rfl, rfl⟩ rfl rfl rfl rfl rfl (by kernel_rfl) Tryd.func4 (by kernel_rfl)
    (of_decide_eq_true (by kernel_rfl)) (by unfold Func.isWrapper; first | (rw [if_pos (by decide +kernel)]; kernel_rfl) | (rw [if_neg (by decide +kernel)]; exact ⟨rfl, rfl⟩))
    (fun os started H enc _ => lifted os started H enc)

theorem proved : Rows.ObjectBackCardSaid :=
  Claim7.holds_tied_plain_at .later [] [.data] true Rows.objectBackCard.stood.harness false
    over (fun _ h => by cases h) (by kernel_rfl) (fun _ h => by cases h) objectBack_row_tie rfl ⟨rfl, rfl⟩ (by kernel_rfl) rfl
    (fun f fn hf hfn => by
      obtain rfl : f = 4 := Option.some.inj ((show Tryd.prog.funcNamed "confluence/confluencelaw06.ObjectBack" = some 4 by kernel_rfl).symm.trans hf) |>.symm
      obtain rfl : fn = Tryd.f4 := (Option.some.inj (Tryd.func4.symm.trans hfn)).symm
      exact ⟨by kernel_rfl, fun j t ht => by
        have hall : (Tryd.f4.params.all fun u => !Tryd.prog.wantsStandIn u) = true := by kernel_rfl
        have := Array.all_eq_true_iff_forall_mem.1 hall t (Array.mem_of_getElem? ht)
        exact (by simpa using this : Tryd.prog.wantsStandIn t = false)⟩)
    (by kernel_rfl)
#print axioms proved
end Go.Proofs.YtnkhoghdfncgpaaDoor.objectBack
