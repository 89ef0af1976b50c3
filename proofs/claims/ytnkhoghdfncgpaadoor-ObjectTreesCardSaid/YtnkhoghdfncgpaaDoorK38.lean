/-
  OBJECTS: the laws' first calls.
-/
import Derived.Test.YtnkhoghdfncgpaaDoorK34
namespace Go.Proofs.YtnkhoghdfncgpaaDoor
set_option linter.unusedVariables false
set_option linter.unusedSimpArgs false
open Go.RowKit Go.WideShapes Go.ChangeShapes Go.Deep Go.Shelf
attribute [local irreducible] wpQuiet

theorem sl_new (w : World) (l : List UInt8) (hl : l.length ≤ 1000) : S3.SlB (w.alloc (.cells (S3.bvs l).toArray 5)) (w.alloc (.cells (S3.bvs l).toArray 5)).heap.size (some ⟨w.heap.size, 0, none⟩) l.length l.length l := by
  have hb : S3.Bl (w.alloc (.cells (S3.bvs l).toArray 5)) w.heap.size 5 (S3.bvs l) := heap_alloc_new w _
  exact hb.sl (by simp) (by unfold maxLen; omega)
set_option maxRecDepth 100000 in
set_option maxHeartbeats 8000000 in
theorem owakes_any {w : World} (hg : S3.GK w) : Calls Tryd.prog 6 #[] w fun e w' => e = .returned (.bool true) ∧ Below w.heap.size w w' := by
  have h00 := hg.lt
  have HG := Lib.hid hg
  obtain ⟨ho, hho⟩ : ∃ o, hiO.at_ nSl nSl nSl = o := ⟨_, rfl⟩
  have BH : Hid (Tryd.prog.built 31 [(0, .int .i64 1), (1, .string ⟨#[104, 105]⟩)] = some ho.cells.toArray) := Lib.hid (by rw [← hho]; exact blob_built _)
  have CE : Hid (Calls Tryd.prog 10 #[ofV ho] w fun e w' => (∃ A n c, e = .returned (.tuple #[.slice A n c, .int .i64 0]) ∧ OwnB w' w.heap.size A n c [1, 0, 2, 104, 105]) ∧ Below w.heap.size w w') := Lib.hid (by
    have h := Encode_any (w := w) (x := hiO) (L := nSl) (P := nSl) (E := nSl) (blob_ok _) ⟨by decide, by decide, by decide⟩
    rw [hi_ok, hi_bytes] at h
    rw [← hho]
    exact h)
  clear hho hg
  go_enter Tryd.func6, Tryd.ntmps6
  go_wp2_with (first
    | ((with_reducible refine bdt 31 [(0, .const (.int .i64 1)), (1, .const (.string ⟨#[104, 105]⟩))] ?_ ?_ ho.cells.toArray ?_ ?_); rfl; rfl; exact BH.out)
    | fail)
  refine CE.out.mono ?_
  rintro e w1 ⟨⟨A1, n1, c1, rfl, hown⟩, hb1⟩
  dsimp only
  have HO1 := Lib.hid hown.sl
  have B1 := Lib.hid hb1
  clear hown hb1
  go_wp2_with fail
  obtain ⟨w2, hw2⟩ : ∃ w2, w1.alloc (.cells #[.string ⟨#[97]⟩, .string ⟨#[49]⟩, .string ⟨#[98]⟩, .string ⟨#[49]⟩] 62) = w2 := ⟨_, rfl⟩
  rw [hw2]
  have C2 : Below w1.heap.size w1 w2 := by rw [← hw2]; exact (Below.refl _ _).alloc (Nat.le_refl _) _
  have S2 : SqR w2 w2.heap.size (some ⟨w1.heap.size, 0, none⟩) 2 2 abR := by
    have h := Lies.new w1 [.string ⟨#[97]⟩, .string ⟨#[49]⟩, .string ⟨#[98]⟩, .string ⟨#[49]⟩] 62
    refine ⟨rfl, Nat.le_refl _, by unfold maxLen; omega, (fun e => by cases e), rw_sz, fun _ => ⟨w1.heap.size, 0, rfl, by rw [← hw2]; simp, ?_⟩⟩
    rw [← hw2]
    exact h.rg
  have B2 := Lib.hid (B1.out.trans (C2.mono B1.out.size))
  have HP := Parts_any S2 (by omega) (gk_keep HG.out B2.out h00)
  rw [ab_partsE, ab_partsW] at HP
  have HO2 := Lib.hid ((HO1.out.below C2).more C2.size)
  clear S2 hw2 C2
  refine HP.mono ?_
  rintro e w3 ⟨⟨A3, n3, c3, rfl, hgo⟩, hb3⟩
  dsimp only
  clear HP
  have B3 := Lib.hid (B2.out.trans (hb3.mono B2.out.size))
  have HO3 := Lib.hid ((HO2.out.below hb3).more hb3.size)
  obtain ⟨ys, hsq, hel, hmap⟩ := hgo.ex
  have hyl : ys.length = 2 := by have := congrArg List.length hmap; simpa using this
  obtain rfl : n3 = 2 := by have := hsq.len; rw [List.length_map, hyl] at this; exact this.symm
  obtain ⟨y0, y1, rfl⟩ : ∃ y0 y1, ys = [y0, y1] := by
    match ys, hyl with
    | [a, b], _ => exact ⟨a, b, rfl⟩
  have hy1 : y1.1 = treeO abR := by simp at hmap; exact hmap.2
  have HSQ := Lib.hid hsq
  have HE1 := Lib.hid (hel y1 (by simp))
  have HY := Lib.hid hy1
  clear hgo hsq hel hmap hyl hy1 hb3
  go_wp2_with fail
  obtain ⟨w4, hw4⟩ : ∃ w4, w3.alloc (.cells (S3.bvs [2, 0]).toArray 5) = w4 := ⟨_, rfl⟩
  have C4 : Below w3.heap.size w3 w4 := by rw [← hw4]; exact (Below.refl _ _).alloc (Nat.le_refl _) _
  have HSL : S3.SlB w4 w4.heap.size (some ⟨w3.heap.size, 0, none⟩) 2 2 [2, 0] := by rw [← hw4]; exact sl_new w3 [2, 0] (by decide)
  rw [show w3.alloc (.cells #[.int .u8 2, .int .u8 0] 5) = w4 from hw4]
  have B4 := Lib.hid (B3.out.trans (C4.mono B3.out.size))
  have HO4 := Lib.hid ((HO3.out.below C4).more C4.size)
  have SQ4 := Lib.hid ((HSQ.out.below C4).more C4.size)
  have HE4 := Lib.hid (HE1.out.below C4)
  have HD := Decode_any HSL (by omega)
  rw [e2_dec] at HD
  clear hw4 C4 HSL
  refine HD.mono ?_
  rintro e w5 ⟨⟨v, rfl, hob⟩, hb5⟩
  dsimp only
  clear HD
  obtain ⟨L, P, E, rfl, _, _⟩ := hob.ob
  obtain ⟨xo, hxo⟩ : ∃ o, (kOv 2).at_ L P E = o := ⟨_, rfl⟩
  have XO1 : Hid (xo.lv.oneCell' = true ∧ xo.pv.oneCell' = true ∧ xo.ev.oneCell' = true) := Lib.hid (by rw [← hxo]; exact ⟨rfl, rfl, rfl⟩)
  have XK : Hid (xo.kind = 2) := Lib.hid (by rw [← hxo]; rfl)
  rw [hxo]
  have B5 := Lib.hid (B4.out.trans (hb5.mono B4.out.size))
  have HO5 := Lib.hid ((HO4.out.below hb5).more hb5.size)
  have SQ5 := Lib.hid ((SQ4.out.below hb5).more hb5.size)
  have HE5 := Lib.hid (HE4.out.below hb5)
  clear hob hb5 hxo
  obtain ⟨zz, hzz⟩ : ∃ z, zOf = z := ⟨_, rfl⟩
  have ZO : Hid (∀ w : World, (zeroValue 31).run Tryd.prog w = .ok (.agg zz.cells.toArray) w) := Lib.hid (by rw [← hzz]; exact zero_of)
  clear hzz
  obtain ⟨wA, hwA⟩ : ∃ wA, w5.alloc (.cells zz.cells.toArray 31) = wA := ⟨_, rfl⟩
  have YA : Lies wA w5.heap.size 73 zz.cells := by
    rw [← hwA]
    have := Lies.new w5 zz.cells 31
    rwa [of_sz] at this
  obtain ⟨w6, hw6⟩ : ∃ w6, wA.setCells w5.heap.size 0 xo.cells = w6 := ⟨_, rfl⟩
  have C6 : Below w5.heap.size w5 w6 := by rw [← hw6, ← hwA]; exact below_setCells ((Below.refl _ _).alloc (Nat.le_refl _) _) (Nat.le_refl _) _ _
  have X6 : Hid (Lies w6 w5.heap.size 73 xo.cells) := Lib.hid (by rw [← hw6]; exact YA.set_ (of_sz _))
  have B6 := Lib.hid (B5.out.trans (C6.mono B5.out.size))
  have HO6 := Lib.hid ((HO5.out.below C6).more C6.size)
  have SQ6 := Lib.hid ((SQ5.out.below C6).more C6.size)
  have HE6 := Lib.hid (HE5.out.below C6)
  have HWA := Lib.hid hwA
  have HW6 := Lib.hid hw6
  have TA := Lib.hid YA.th
  have hx6 := X6.out.lt
  clear hwA hw6 YA C6
  go_upto_region 4 with (first
    | ((with_reducible refine alt 31 ?_ ?_ zz.cells ZO.out ?_); rfl; rfl; rw [HWA.out]; (try simp only [Act.put, List.setIfInBounds_toArray, List.set_cons_succ, List.set_cons_zero]))
    | ((with_reducible refine sto (.tmp 5) (.tmp 23) ?_ ?_ w5.heap.size 0 xo ?_ ?_ TA.out XO1.out.1 XO1.out.2.1 XO1.out.2.2 ?_); rfl; rfl; rfl; rfl; rw [HW6.out]; (try simp only [Act.put, List.setIfInBounds_toArray, List.set_cons_succ, List.set_cons_zero]))
    | fail)
  obtain ⟨b5, hb5⟩ : ∃ b, w5.heap.size = b := ⟨_, rfl⟩
  rw [hb5] at X6 hx6 ⊢
  clear hb5 HWA HW6 TA
  obtain ⟨b3, o3, e3, hb3, hr3⟩ := SQ6.out.pos (by omega)
  subst e3
  have x5 : w6.cell? ⟨b5, 0, none⟩ = some (.int .i64 2) := by have h := (of_lies X6.out).1; rw [XK.out] at h; exact h
  clear hr3 x5
  go_wp2_with fail
  obtain ⟨w7, hw7⟩ : ∃ w7, w6.alloc (.cells (S3.bvs [1, 0, 2, 104, 105]).toArray 5) = w7 := ⟨_, rfl⟩
  have C7 : Below w6.heap.size w6 w7 := by rw [← hw7]; exact (Below.refl _ _).alloc (Nat.le_refl _) _
  have HSL : S3.SlB w7 w7.heap.size (some ⟨w6.heap.size, 0, none⟩) 5 5 [1, 0, 2, 104, 105] := by rw [← hw7]; exact sl_new w6 [1, 0, 2, 104, 105] (by decide)
  rw [show w6.alloc (.cells #[.int .u8 1, .int .u8 0, .int .u8 2, .int .u8 104, .int .u8 105] 5) = w7 from hw7]
  have B7 := Lib.hid (B6.out.trans (C7.mono B6.out.size))
  have HO7 := (HO6.out.below C7).more C7.size
  have SQ7 := (SQ6.out.below C7).more C7.size
  have HE7 := Lib.hid (HE6.out.below C7)
  have X7 : Hid (Lies w7 b5 73 xo.cells) := Lib.hid (X6.out.below C7 hx6)
  have HQ := S3.bytesEqual_is HO7 HSL true rfl
  clear hw7 C7 HSL
  refine HQ.mono ?_
  rintro e _ ⟨rfl, rfl⟩
  dsimp only
  clear HQ HO7
  obtain ⟨b, o, e7, hb7, hr7⟩ := SQ7.at_ (show 1 < 2 by omega)
  injection e7 with e7
  cases e7
  have hh : ([y0, y1].map El.hd)[1] = El.hd y1 := rfl
  rw [hh] at hr7
  obtain ⟨yi, hyi⟩ : ∃ i, idW y1.1 = i := ⟨_, rfl⟩
  obtain ⟨yo, hyo⟩ : ∃ i, y1.1.at_ y1.2 nSl nSl = i := ⟨_, rfl⟩
  have RGH : w7.rangeAt b3 (o3 + 1 * 105) (hdC yi yo) := by rw [← hyi, ← hyo]; exact hr7
  have RGO : Hid (w7.rangeAt b3 (o3 + 1 * 105 + 32) yo.cells) := Lib.hid (hd_rg.1 RGH).2
  have CL : Hid (Calls Tryd.prog 18 #[ofV yo] w7 fun e w' => (∃ A c, e = .returned (.slice A 2 c)) ∧ Below w7.heap.size w7 w') := Lib.hid (by
    have h := Links_any HE7.out.o ⟨by have := HE7.out.n; omega, by decide, by decide⟩
    rw [HY.out, tr_ok] at h
    rw [← hyo, HY.out]
    refine h.mono ?_
    rintro e w' ⟨⟨A, n, c, rfl, hsq, _⟩, hb⟩
    have hn : n = 2 := by rw [← hsq.len]; exact ab_links
    subst hn
    exact ⟨⟨A, c, rfl⟩, hb⟩)
  clear hh hr7 RGH hyi hyo SQ7
  go_wp2_with (first
    | ((with_reducible refine ldo (.tmp 48) ?_ ?_ b3 (o3 + 1 * 105 + 32) yo ?_ RGO.out ?_); rfl; rfl; (first | rfl | go_simp))
    | fail)
  refine CL.out.mono ?_
  rintro e w8 ⟨⟨A8, c8, rfl⟩, hb8⟩
  dsimp only
  have B8 := Lib.hid (B7.out.trans (hb8.mono B7.out.size))
  have X8 : Hid (Lies w8 b5 73 xo.cells) := Lib.hid (X7.out.below hb8 (by have := X7.out.lt; omega))
  clear hb8
  have x8 : w8.cell? ⟨b5, 0, none⟩ = some (.int .i64 2) := by have h := (of_lies X8.out).1; rw [XK.out] at h; exact h
  go_wp2_with fail
  go_ret
  exact ⟨rfl, B8.out⟩
end Go.Proofs.YtnkhoghdfncgpaaDoor
