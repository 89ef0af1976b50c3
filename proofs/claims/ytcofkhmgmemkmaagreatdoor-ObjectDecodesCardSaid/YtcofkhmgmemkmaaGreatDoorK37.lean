/-
  OBJECTS: the laws' first calls.
  STAGE 6's REFERENCE: whether two objects are the same.
-/
import Derived.Test.YtcofkhmgmemkmaaGreatDoorK34
namespace Go.Proofs.YtcofkhmgmemkmaaGreatDoor
set_option linter.unusedVariables false
set_option linter.unusedSimpArgs false
open Go.RowKit Go.WideShapes Go.ChangeShapes Go.Deep Go.Shelf
attribute [local irreducible] wpQuiet

theorem sl_new (w : World) (l : List UInt8) (hl : l.length ≤ 1000) : S3.SlB (w.alloc (.cells (S3.bvs l).toArray 5)) (w.alloc (.cells (S3.bvs l).toArray 5)).heap.size (some ⟨w.heap.size, 0, none⟩) l.length l.length l := by
  have hb : S3.Bl (w.alloc (.cells (S3.bvs l).toArray 5)) w.heap.size 5 (S3.bvs l) := heap_alloc_new w _
  exact hb.sl (by simp) (by unfold maxLen; omega)
set_option maxRecDepth 100000 in
set_option maxHeartbeats 8000000 in
theorem owakes_any {w : World} (hg : S3.GK w) : Calls Tryz.prog 4 #[] w fun e w' => e = .returned (.bool true) ∧ Below w.heap.size w w' := by
  have h00 := hg.lt
  have HG := Lib.hid hg
  obtain ⟨ho, hho⟩ : ∃ o, hiO.at_ nSl nSl nSl = o := ⟨_, rfl⟩
  have BH : Hid (Tryz.prog.built 34 [(0, .int .i64 1), (1, .string ⟨#[104, 105]⟩)] = some ho.cells.toArray) := Lib.hid (by rw [← hho]; exact blob_built _)
  have CE : Hid (Calls Tryz.prog 10 #[ofV ho] w fun e w' => (∃ A n c, e = .returned (.tuple #[.slice A n c, .int .i64 0]) ∧ OwnB w' w.heap.size A n c [1, 0, 2, 104, 105]) ∧ Below w.heap.size w w') := Lib.hid (by
    have h := Encode_any (w := w) (x := hiO) (L := nSl) (P := nSl) (E := nSl) (blob_ok _) ⟨by decide, by decide, by decide⟩
    rw [hi_ok, hi_bytes] at h
    rw [← hho]
    exact h)
  clear hho hg
  go_enter Tryz.func4, Tryz.ntmps4
  go_wp2_with (first
    | ((with_reducible refine bdt 34 [(0, .const (.int .i64 1)), (1, .const (.string ⟨#[104, 105]⟩))] ?_ ?_ ho.cells.toArray ?_ ?_); rfl; rfl; exact BH.out)
    | fail)
  refine CE.out.mono ?_
  rintro e w1 ⟨⟨A1, n1, c1, rfl, hown⟩, hb1⟩
  dsimp only
  have HO1 := Lib.hid hown.sl
  have B1 := Lib.hid hb1
  clear hown hb1
  go_wp2_with fail
  obtain ⟨w2, hw2⟩ : ∃ w2, w1.alloc (.cells #[.string ⟨#[97]⟩, .string ⟨#[49]⟩, .string ⟨#[98]⟩, .string ⟨#[49]⟩] 48) = w2 := ⟨_, rfl⟩
  rw [hw2]
  have C2 : Below w1.heap.size w1 w2 := by rw [← hw2]; exact (Below.refl _ _).alloc (Nat.le_refl _) _
  have S2 : SqR w2 w2.heap.size (some ⟨w1.heap.size, 0, none⟩) 2 2 abR := by
    have h := Lies.new w1 [.string ⟨#[97]⟩, .string ⟨#[49]⟩, .string ⟨#[98]⟩, .string ⟨#[49]⟩] 48
    refine ⟨rfl, Nat.le_refl _, by unfold maxLen; omega, (fun e => by cases e), rw_sz, fun _ => ⟨w1.heap.size, 0, rfl, by rw [← hw2]; simp, ?_⟩⟩
    rw [← hw2]
    exact h.rg
  have B2 := Lib.hid (B1.out.trans (C2.mono B1.out.size))
  have HP := Parts_any S2 (by omega) (gk_keep HG.out B2.out h00)
  rw [ab_partsE, ab_partsW] at HP
  have HO2 := Lib.hid ((HO1.out.below C2).more C2.size)
  clear S2 hw2 C2
  refine HP.mono ?_
  rintro e w3 ⟨⟨A3, n3, c3, rfl, hgo⟩, hb3⟩
  dsimp only
  clear HP
  have B3 := Lib.hid (B2.out.trans (hb3.mono B2.out.size))
  have HO3 := Lib.hid ((HO2.out.below hb3).more hb3.size)
  obtain ⟨ys, hsq, hel, hmap⟩ := hgo.ex
  have hyl : ys.length = 2 := by have := congrArg List.length hmap; simpa using this
  obtain rfl : n3 = 2 := by have := hsq.len; rw [List.length_map, hyl] at this; exact this.symm
  obtain ⟨y0, y1, rfl⟩ : ∃ y0 y1, ys = [y0, y1] := by
    match ys, hyl with
    | [a, b], _ => exact ⟨a, b, rfl⟩
  have hy1 : y1.1 = treeO abR := by simp at hmap; exact hmap.2
  have HSQ := Lib.hid hsq
  have HE1 := Lib.hid (hel y1 (by simp))
  have HY := Lib.hid hy1
  clear hgo hsq hel hmap hyl hy1 hb3
  go_wp2_with fail
  obtain ⟨w4, hw4⟩ : ∃ w4, w3.alloc (.cells (S3.bvs [2, 0]).toArray 5) = w4 := ⟨_, rfl⟩
  have C4 : Below w3.heap.size w3 w4 := by rw [← hw4]; exact (Below.refl _ _).alloc (Nat.le_refl _) _
  have HSL : S3.SlB w4 w4.heap.size (some ⟨w3.heap.size, 0, none⟩) 2 2 [2, 0] := by rw [← hw4]; exact sl_new w3 [2, 0] (by decide)
  rw [show w3.alloc (.cells #[.int .u8 2, .int .u8 0] 5) = w4 from hw4]
  have B4 := Lib.hid (B3.out.trans (C4.mono B3.out.size))
  have HO4 := Lib.hid ((HO3.out.below C4).more C4.size)
  have SQ4 := Lib.hid ((HSQ.out.below C4).more C4.size)
  have HE4 := Lib.hid (HE1.out.below C4)
  have HD := Decode_any HSL (by omega)
  rw [e2_dec] at HD
  clear hw4 C4 HSL
  refine HD.mono ?_
  rintro e w5 ⟨⟨v, rfl, hob⟩, hb5⟩
  dsimp only
  clear HD
  obtain ⟨L, P, E, rfl, _, _⟩ := hob.ob
  obtain ⟨xo, hxo⟩ : ∃ o, (kOv 2).at_ L P E = o := ⟨_, rfl⟩
  have XO1 : Hid (xo.lv.oneCell' = true ∧ xo.pv.oneCell' = true ∧ xo.ev.oneCell' = true) := Lib.hid (by rw [← hxo]; exact ⟨rfl, rfl, rfl⟩)
  have XK : Hid (xo.kind = 2) := Lib.hid (by rw [← hxo]; rfl)
  rw [hxo]
  have B5 := Lib.hid (B4.out.trans (hb5.mono B4.out.size))
  have HO5 := Lib.hid ((HO4.out.below hb5).more hb5.size)
  have SQ5 := Lib.hid ((SQ4.out.below hb5).more hb5.size)
  have HE5 := Lib.hid (HE4.out.below hb5)
  clear hob hb5 hxo
  obtain ⟨zz, hzz⟩ : ∃ z, zOf = z := ⟨_, rfl⟩
  have ZO : Hid (∀ w : World, (zeroValue 34).run Tryz.prog w = .ok (.agg zz.cells.toArray) w) := Lib.hid (by rw [← hzz]; exact zero_of)
  clear hzz
  obtain ⟨wA, hwA⟩ : ∃ wA, w5.alloc (.cells zz.cells.toArray 34) = wA := ⟨_, rfl⟩
  have YA : Lies wA w5.heap.size 73 zz.cells := by
    rw [← hwA]
    have := Lies.new w5 zz.cells 34
    rwa [of_sz] at this
  obtain ⟨w6, hw6⟩ : ∃ w6, wA.setCells w5.heap.size 0 xo.cells = w6 := ⟨_, rfl⟩
  have C6 : Below w5.heap.size w5 w6 := by rw [← hw6, ← hwA]; exact below_setCells ((Below.refl _ _).alloc (Nat.le_refl _) _) (Nat.le_refl _) _ _
  have X6 : Hid (Lies w6 w5.heap.size 73 xo.cells) := Lib.hid (by rw [← hw6]; exact YA.set_ (of_sz _))
  have B6 := Lib.hid (B5.out.trans (C6.mono B5.out.size))
  have HO6 := Lib.hid ((HO5.out.below C6).more C6.size)
  have SQ6 := Lib.hid ((SQ5.out.below C6).more C6.size)
  have HE6 := Lib.hid (HE5.out.below C6)
  have HWA := Lib.hid hwA
  have HW6 := Lib.hid hw6
  have TA := Lib.hid YA.th
  have hx6 := X6.out.lt
  clear hwA hw6 YA C6
  go_upto_region 4 with (first
    | ((with_reducible refine alt 34 ?_ ?_ zz.cells ZO.out ?_); rfl; rfl; rw [HWA.out]; (try simp only [Act.put, List.setIfInBounds_toArray, List.set_cons_succ, List.set_cons_zero]))
    | ((with_reducible refine sto (.tmp 5) (.tmp 23) ?_ ?_ w5.heap.size 0 xo ?_ ?_ TA.out XO1.out.1 XO1.out.2.1 XO1.out.2.2 ?_); rfl; rfl; rfl; rfl; rw [HW6.out]; (try simp only [Act.put, List.setIfInBounds_toArray, List.set_cons_succ, List.set_cons_zero]))
    | fail)
  obtain ⟨b5, hb5⟩ : ∃ b, w5.heap.size = b := ⟨_, rfl⟩
  rw [hb5] at X6 hx6 ⊢
  clear hb5 HWA HW6 TA
  obtain ⟨b3, o3, e3, hb3, hr3⟩ := SQ6.out.pos (by omega)
  subst e3
  have x5 : w6.cell? ⟨b5, 0, none⟩ = some (.int .i64 2) := by have h := (of_lies X6.out).1; rw [XK.out] at h; exact h
  clear hr3 x5
  go_wp2_with fail
  obtain ⟨w7, hw7⟩ : ∃ w7, w6.alloc (.cells (S3.bvs [1, 0, 2, 104, 105]).toArray 5) = w7 := ⟨_, rfl⟩
  have C7 : Below w6.heap.size w6 w7 := by rw [← hw7]; exact (Below.refl _ _).alloc (Nat.le_refl _) _
  have HSL : S3.SlB w7 w7.heap.size (some ⟨w6.heap.size, 0, none⟩) 5 5 [1, 0, 2, 104, 105] := by rw [← hw7]; exact sl_new w6 [1, 0, 2, 104, 105] (by decide)
  rw [show w6.alloc (.cells #[.int .u8 1, .int .u8 0, .int .u8 2, .int .u8 104, .int .u8 105] 5) = w7 from hw7]
  have B7 := Lib.hid (B6.out.trans (C7.mono B6.out.size))
  have HO7 := (HO6.out.below C7).more C7.size
  have SQ7 := (SQ6.out.below C7).more C7.size
  have HE7 := Lib.hid (HE6.out.below C7)
  have X7 : Hid (Lies w7 b5 73 xo.cells) := Lib.hid (X6.out.below C7 hx6)
  have HQ := S3.bytesEqual_is HO7 HSL true rfl
  clear hw7 C7 HSL
  refine HQ.mono ?_
  rintro e _ ⟨rfl, rfl⟩
  dsimp only
  clear HQ HO7
  obtain ⟨b, o, e7, hb7, hr7⟩ := SQ7.at_ (show 1 < 2 by omega)
  injection e7 with e7
  cases e7
  have hh : ([y0, y1].map El.hd)[1] = El.hd y1 := rfl
  rw [hh] at hr7
  obtain ⟨yi, hyi⟩ : ∃ i, idW y1.1 = i := ⟨_, rfl⟩
  obtain ⟨yo, hyo⟩ : ∃ i, y1.1.at_ y1.2 nSl nSl = i := ⟨_, rfl⟩
  have RGH : w7.rangeAt b3 (o3 + 1 * 105) (hdC yi yo) := by rw [← hyi, ← hyo]; exact hr7
  have RGO : Hid (w7.rangeAt b3 (o3 + 1 * 105 + 32) yo.cells) := Lib.hid (hd_rg.1 RGH).2
  have CL : Hid (Calls Tryz.prog 12 #[ofV yo] w7 fun e w' => (∃ A c, e = .returned (.slice A 2 c)) ∧ Below w7.heap.size w7 w') := Lib.hid (by
    have h := Links_any HE7.out.o ⟨by have := HE7.out.n; omega, by decide, by decide⟩
    rw [HY.out, tr_ok] at h
    rw [← hyo, HY.out]
    refine h.mono ?_
    rintro e w' ⟨⟨A, n, c, rfl, hsq, _⟩, hb⟩
    have hn : n = 2 := by rw [← hsq.len]; exact ab_links
    subst hn
    exact ⟨⟨A, c, rfl⟩, hb⟩)
  clear hh hr7 RGH hyi hyo SQ7
  go_wp2_with (first
    | ((with_reducible refine ldo (.tmp 48) ?_ ?_ b3 (o3 + 1 * 105 + 32) yo ?_ RGO.out ?_); rfl; rfl; (first | rfl | go_simp))
    | fail)
  refine CL.out.mono ?_
  rintro e w8 ⟨⟨A8, c8, rfl⟩, hb8⟩
  dsimp only
  have B8 := Lib.hid (B7.out.trans (hb8.mono B7.out.size))
  have X8 : Hid (Lies w8 b5 73 xo.cells) := Lib.hid (X7.out.below hb8 (by have := X7.out.lt; omega))
  clear hb8
  have x8 : w8.cell? ⟨b5, 0, none⟩ = some (.int .i64 2) := by have h := (of_lies X8.out).1; rw [XK.out] at h; exact h
  go_wp2_with fail
  go_ret
  exact ⟨rfl, B8.out⟩
end Go.Proofs.YtcofkhmgmemkmaaGreatDoor
namespace Go.Proofs.YtcofkhmgmemkmaaGreatDoor
set_option linter.unusedVariables false
set_option linter.unusedSimpArgs false
open Go.RowKit Go.WideShapes Go.ChangeShapes Go.Deep Go.Shelf
attribute [local irreducible] wpQuiet

theorem sameI_ln {l l' : List Idv} (h : l.length ≠ l'.length) : sameI l l' = false := by
  unfold sameI
  rw [decide_eq_false_iff_not]
  intro e
  have := congrArg List.length e
  simp at this
  exact h this
theorem neq_chv (r r' : Ch) (w : World) : (binOp .neq 71 (.agg r.cells.toArray) (.agg r'.cells.toArray)).run Tryz.prog w = .ok (.bool (!sameCh r r')) w := neq_chgs r r' w
set_option maxRecDepth 100000 in
set_option maxHeartbeats 8000000 in
theorem refO_any {w : World} {x y : Ov} {L P E L' P' E' : Sl} (h : Obj3 w w.heap.size x L P E) (h' : Obj3 w w.heap.size y L' P' E') (hL : L.n ≤ 1000000) (hP : P.n ≤ 1000000) (hE : E.n ≤ 1000000) :
    Calls Tryz.prog 7 #[ofV (x.at_ L P E), ofV (y.at_ L' P' E')] w fun e w' => e = .returned (.bool (sameO x y)) ∧ Below w.heap.size w w' := by
  obtain ⟨w2, hw2⟩ : ∃ w2, (w.alloc (.cells (x.at_ L P E).cells.toArray 34)).alloc (.cells (y.at_ L' P' E').cells.toArray 34) = w2 := ⟨_, rfl⟩
  have B2 : Hid (Below w.heap.size w w2) := Lib.hid (by rw [← hw2]; exact ((Below.refl _ _).alloc (Nat.le_refl _) _).alloc (by simp) _)
  have S2 : w2.heap.size = w.heap.size + 2 := by rw [← hw2]; simp
  have X0 : Hid (Lies w2 w.heap.size 73 (x.at_ L P E).cells) := Lib.hid (by
    rw [← hw2]
    have := (Lies.new w (x.at_ L P E).cells 34).alloc (.cells (y.at_ L' P' E').cells.toArray 34)
    rwa [of_sz] at this)
  have X1 : Hid (Lies w2 (w.heap.size + 1) 73 (y.at_ L' P' E').cells) := Lib.hid (by
    rw [← hw2]
    have := Lies.new (w.alloc (.cells (x.at_ L P E).cells.toArray 34)) (y.at_ L' P' E').cells 34
    rwa [World.size_alloc, of_sz] at this)
  obtain ⟨AL, nL, cL⟩ := L
  obtain ⟨AP, nP, cP⟩ := P
  obtain ⟨AE, nE, cE⟩ := E
  obtain ⟨AL', nL', cL'⟩ := L'
  obtain ⟨AP', nP', cP'⟩ := P'
  obtain ⟨AE', nE', cE'⟩ := E'
  have HW := Lib.hid hw2
  obtain ⟨q0, h0⟩ : ∃ q, (x.kind == y.kind) = q := ⟨_, rfl⟩
  obtain ⟨q1, h1⟩ : ∃ q, (x.text.toList == y.text.toList) = q := ⟨_, rfl⟩
  obtain ⟨q2, h2⟩ : ∃ q, sameLs x.lv y.lv = q := ⟨_, rfl⟩
  obtain ⟨q3, h3⟩ : ∃ q, (x.style == y.style) = q := ⟨_, rfl⟩
  obtain ⟨q4, h4⟩ : ∃ q, (x.tree.b == y.tree.b) = q := ⟨_, rfl⟩
  obtain ⟨q5, h5⟩ : ∃ q, (x.base.b == y.base.b) = q := ⟨_, rfl⟩
  obtain ⟨q6, h6⟩ : ∃ q, sameI x.ps y.ps = q := ⟨_, rfl⟩
  obtain ⟨q7, h7⟩ : ∃ q, sameE x.es y.es = q := ⟨_, rfl⟩
  obtain ⟨q8, h8⟩ : ∃ q, ((x.num : Int) == (y.num : Int)) = q := ⟨_, rfl⟩
  obtain ⟨q9, h9⟩ : ∃ q, ((x.auth : Int) == (y.auth : Int)) = q := ⟨_, rfl⟩
  obtain ⟨q10, h10⟩ : ∃ q, (x.note.toList == y.note.toList) = q := ⟨_, rfl⟩
  have HF := Lib.hid (sameO_eq h0 h1 h2 h3 h4 h5 h6 h7 h8 h9 h10)
  have E4 : Hid (∀ w, (binOp .eql 27 (idV x.tree) (idV y.tree)).run Tryz.prog w = .ok (.bool q4) w) := Lib.hid (by rw [← h4]; exact eql_id x.tree y.tree)
  have E5 : Hid (∀ w, (binOp .eql 27 (idV x.base) (idV y.base)).run Tryz.prog w = .ok (.bool q5) w) := Lib.hid (by rw [← h5]; exact eql_id x.base y.base)
  have Z2 := Lib.hid S2
  have HXL := Lib.hid h.l
  have HYL := Lib.hid h'.l
  have HXP := Lib.hid h.p
  have HYP := Lib.hid h'.p
  have HXE := Lib.hid h.e
  have HYE := Lib.hid h'.e
  have lxl := h.l.len
  have lyl := h'.l.len
  have lxp := h.p.len
  have lyp := h'.p.len
  have lxe := h.e.len
  have lye := h'.e.len
  have Q2 := Lib.hid h2
  have Q6 := Lib.hid h6
  have Q7 := Lib.hid h7
  dsimp only at hL hP hE lxl lyl lxp lyp lxe lye
  clear hw2 h h' h2 h6 h7 h4 h5 S2
  obtain ⟨sq, hsq⟩ : ∃ q, sameO x y = q := ⟨_, rfl⟩
  rw [hsq] at HF ⊢
  clear hsq
  go_enter Tryz.func7, Tryz.ntmps7
  go_upto_region 1 with fail
  rw [HW.out]
  (try simp only [List.append])
  clear HW
  have FA : Hid (∀ W, Below w2.heap.size w2 W → Lies W w.heap.size 73 (x.at_ ⟨AL, nL, cL⟩ ⟨AP, nP, cP⟩ ⟨AE, nE, cE⟩).cells) := Lib.hid fun W hW => X0.out.below hW (by rw [Z2.out]; omega)
  have FB : Hid (∀ W, Below w2.heap.size w2 W → Lies W (w.heap.size + 1) 73 (y.at_ ⟨AL', nL', cL'⟩ ⟨AP', nP', cP'⟩ ⟨AE', nE', cE'⟩).cells) := Lib.hid fun W hW => X1.out.below hW (by rw [Z2.out]; omega)
  obtain ⟨a0, a1, a2, a3, R4, R5, a6, a7, a8, a9, a10⟩ := obj_lies X0.out
  obtain ⟨b0, b1, b2, b3, T4, T5, b6, b7, b8, b9, b10⟩ := obj_lies X1.out
  clear a0 a1 a3 R4 R5 a8 a9 a10 b0 b1 b3 T4 T5 b8 b9 b10 X0 X1
  by_cases n1 : nL = nL'
  case neg =>
    have d1 : ((nL : Int) == (nL' : Int)) = false := by rw [Bool.eq_false_iff]; simp only [ne_eq, beq_iff_eq]; omega
    have e : sq = false := by rw [HF.out, show q2 = false from by rw [← Q2.out]; exact sameLs_no (fun hh => n1 (by omega))]; simp
    subst e
    go_wp2_with fail
    go_ret
    exact ⟨rfl, B2.out⟩
  subst n1
  have d1 : ((nL : Int) == (nL : Int)) = true := by simp
  by_cases n2 : nP = nP'
  case neg =>
    have d2 : ((nP : Int) == (nP' : Int)) = false := by rw [Bool.eq_false_iff]; simp only [ne_eq, beq_iff_eq]; omega
    have e : sq = false := by rw [HF.out, show q6 = false from by rw [← Q6.out]; exact sameI_ln (by omega)]; simp
    subst e
    go_wp2_with fail
    go_ret
    exact ⟨rfl, B2.out⟩
  subst n2
  have d2 : ((nP : Int) == (nP : Int)) = true := by simp
  by_cases n3 : nE = nE'
  case neg =>
    have d3 : ((nE : Int) == (nE' : Int)) = false := by rw [Bool.eq_false_iff]; simp only [ne_eq, beq_iff_eq]; omega
    have e : sq = false := by rw [HF.out, show q7 = false from by rw [← Q7.out]; exact sameE_no (fun hh => n3 (by omega))]; simp
    subst e
    go_wp2_with fail
    go_ret
    exact ⟨rfl, B2.out⟩
  subst n3
  have d3 : ((nE : Int) == (nE : Int)) = true := by simp
  go_wp2_with fail
  go_loopw [38] (fun i wr => ∃ k : Nat, k ≤ nL ∧ i = .int .i64 (k : Int) ∧ Hid (∀ j (hk : j < k) (hj : j < x.lv.length) (hj' : j < y.lv.length), sameLf x.lv[j] y.lv[j] = true) ∧ Hid (Below w2.heap.size w2 wr)) (fun i _ => nL - (intOf i).toNat)
  case atStart => exact ⟨0, Nat.zero_le _, rfl, Lib.hid (fun j hj => absurd hj (by omega)), Lib.hid (Below.refl _ _)⟩
  case round =>
    obtain ⟨k, hk, rfl, hg, hb⟩ := hrel
    have BW : Hid (Below w.heap.size w wr) := Lib.hid (B2.out.trans (hb.out.mono B2.out.size))
    by_cases hlt : k < nL
    · have hd : decide ((k : Int) < (nL : Int)) = true := by simp; omega
      have hk0 : (0 : Int) ≤ (k : Int) := Int.natCast_nonneg _
      have hk1 : (k : Int) < (nL : Int) := by omega
      obtain ⟨b, o, eA, hbl, hrg⟩ := (HXL.out.below BW.out).at_ hlt
      obtain ⟨b', o', eA', hbl', hrg'⟩ := (HYL.out.below BW.out).at_ (show k < nL by omega)
      have ca : wr.drew.cell? ⟨w.heap.size, 2, none⟩ = some (.slice (some ⟨b, o, none⟩) nL cL) := by rw [← eA]; exact (obj_lies (FA.out wr hb.out)).2.2.1
      have cb : wr.drew.cell? ⟨w.heap.size + 1, 2, none⟩ = some (.slice (some ⟨b', o', none⟩) nL cL') := by rw [← eA']; exact (obj_lies (FB.out wr hb.out)).2.2.1
      obtain ⟨r, hr⟩ : ∃ r, x.lv[k]'(by omega) = r := ⟨_, rfl⟩
      obtain ⟨r', hr'⟩ : ∃ r', y.lv[k]'(by omega) = r' := ⟨_, rfl⟩
      rw [hr] at hrg
      rw [hr'] at hrg'
      have hne := fun w => eq_lf r r' w
      have hgd := lf_guard
      obtain ⟨q, hq⟩ : ∃ q, sameLf r r' = q := ⟨_, rfl⟩
      rw [hq] at hne
      have YES : Hid (q = true → ∀ j (hk : j < k + 1) (hj : j < x.lv.length) (hj' : j < y.lv.length), sameLf x.lv[j] y.lv[j] = true) := Lib.hid (fun h1 j hjk hj hj' => by
        by_cases e : j = k
        · subst e; rw [hr, hr']; rw [h1] at hq; simpa using hq
        · exact hg.out j (by omega) hj hj')
      have NO : Hid (q = false → sq = false) := Lib.hid (fun h1 => by
        rw [HF.out, show q2 = false from by
          rw [← Q2.out]
          exact sameLs_no (fun hh => by have := hh.2 k (by omega) (by omega); rw [hr, hr', hq, h1] at this; cases this)]
        simp)
      clear hr hr' hq eA eA'
      go_upto_region 6 with fail
      refine wp_region_noPanic ?_
      refine wp_region_held_drew (S := (fun w' => w'.cell? ⟨w.heap.size, 2, none⟩ = some (.slice (some ⟨b, o, none⟩) nL cL) ∧ w'.cell? ⟨w.heap.size + 1, 2, none⟩ = some (.slice (some ⟨b', o', none⟩) nL cL') ∧ w'.rangeAt b (o + k * 33) r.cells ∧ w'.rangeAt b' (o' + k * 33) r'.cells)) (by kernel_rfl) ⟨ca, cb, hrg, hrg'⟩ (fun _ => ?_)
      refine wpAnyH_take (i := 0) rfl (by kernel_rfl) (by kernel_rfl) (by kernel_rfl) (fun _ _ _ h => h) (.inl ⟨rfl, fun w' hw' => (by clear hw'; go_simp; (try rfl))⟩) ⟨ca, cb, hrg, hrg'⟩ ?_
      simp only [List.getElem_toArray, List.getElem_cons_zero, List.getElem_cons_succ, Act.put, List.setIfInBounds_toArray, List.set_cons_succ, List.set_cons_zero]
      refine wpAnyH_take (i := 1) rfl (by kernel_rfl) (by kernel_rfl) (by kernel_rfl) (fun _ _ _ h => h) (.inl ⟨rfl, fun w' hw' => (by have g1 := hw'.1; have g2 := hw'.2.1; clear hw'; go_simp; (try rfl))⟩) ⟨ca, cb, hrg, hrg'⟩ ?_
      simp only [List.getElem_toArray, List.getElem_cons_zero, List.getElem_cons_succ, Act.put, List.setIfInBounds_toArray, List.set_cons_succ, List.set_cons_zero]
      refine wpAnyH_take (i := 2) rfl (by kernel_rfl) (by kernel_rfl) (by kernel_rfl) (fun _ _ _ h => h) (.inl ⟨rfl, fun w' hw' => (by clear hw'; go_simp; (try rfl))⟩) ⟨ca, cb, hrg, hrg'⟩ ?_
      simp only [List.getElem_toArray, List.getElem_cons_zero, List.getElem_cons_succ, Act.put, List.setIfInBounds_toArray, List.set_cons_succ, List.set_cons_zero]
      refine wpAnyH_take (i := 3) rfl (by kernel_rfl) (by kernel_rfl) (by kernel_rfl) (fun _ _ _ h => h) (.inl ⟨rfl, fun w' hw' => (by clear hw'; go_simp; (try rfl))⟩) ⟨ca, cb, hrg, hrg'⟩ ?_
      simp only [List.getElem_toArray, List.getElem_cons_zero, List.getElem_cons_succ, Act.put, List.setIfInBounds_toArray, List.set_cons_succ, List.set_cons_zero]
      refine wpAnyH_take (i := 4) rfl (by kernel_rfl) (by kernel_rfl) (by kernel_rfl) (fun _ _ _ h => h) (yieldsIf_load_mid rfl 68 _ rfl (b) ((o + k * 33)) rfl (r.cells) _ (fun w' hw' => hw'.2.2.1) Tryz.underlying68 rfl (by rw [lf_sz]; exact size_lf)) ⟨ca, cb, hrg, hrg'⟩ ?_
      simp only [List.getElem_toArray, List.getElem_cons_zero, List.getElem_cons_succ, Act.put, List.setIfInBounds_toArray, List.set_cons_succ, List.set_cons_zero]
      refine wpAnyH_take (i := 5) rfl (by kernel_rfl) (by kernel_rfl) (by kernel_rfl) (fun _ _ _ h => h) (.inl ⟨rfl, fun w' hw' => (by clear hw'; go_simp; (try rfl))⟩) ⟨ca, cb, hrg, hrg'⟩ ?_
      simp only [List.getElem_toArray, List.getElem_cons_zero, List.getElem_cons_succ, Act.put, List.setIfInBounds_toArray, List.set_cons_succ, List.set_cons_zero]
      refine wpAnyH_take (i := 6) rfl (by kernel_rfl) (by kernel_rfl) (by kernel_rfl) (fun _ _ _ h => h) (.inl ⟨rfl, fun w' hw' => (by have g1 := hw'.1; have g2 := hw'.2.1; clear hw'; go_simp; (try rfl))⟩) ⟨ca, cb, hrg, hrg'⟩ ?_
      simp only [List.getElem_toArray, List.getElem_cons_zero, List.getElem_cons_succ, Act.put, List.setIfInBounds_toArray, List.set_cons_succ, List.set_cons_zero]
      refine wpAnyH_take (i := 7) rfl (by kernel_rfl) (by kernel_rfl) (by kernel_rfl) (fun _ _ _ h => h) (.inl ⟨rfl, fun w' hw' => (by clear hw'; go_simp; (try rfl))⟩) ⟨ca, cb, hrg, hrg'⟩ ?_
      simp only [List.getElem_toArray, List.getElem_cons_zero, List.getElem_cons_succ, Act.put, List.setIfInBounds_toArray, List.set_cons_succ, List.set_cons_zero]
      refine wpAnyH_take (i := 8) rfl (by kernel_rfl) (by kernel_rfl) (by kernel_rfl) (fun _ _ _ h => h) (.inl ⟨rfl, fun w' hw' => (by clear hw'; go_simp; (try rfl))⟩) ⟨ca, cb, hrg, hrg'⟩ ?_
      simp only [List.getElem_toArray, List.getElem_cons_zero, List.getElem_cons_succ, Act.put, List.setIfInBounds_toArray, List.set_cons_succ, List.set_cons_zero]
      refine wpAnyH_take (i := 9) rfl (by kernel_rfl) (by kernel_rfl) (by kernel_rfl) (fun _ _ _ h => h) (yieldsIf_load_mid rfl 68 _ rfl (b') ((o' + k * 33)) rfl (r'.cells) _ (fun w' hw' => hw'.2.2.2) Tryz.underlying68 rfl (by rw [lf_sz]; exact size_lf)) ⟨ca, cb, hrg, hrg'⟩ ?_
      simp only [List.getElem_toArray, List.getElem_cons_zero, List.getElem_cons_succ, Act.put, List.setIfInBounds_toArray, List.set_cons_succ, List.set_cons_zero]
      refine wpAnyH_take (i := 10) rfl (by kernel_rfl) (by kernel_rfl) (by kernel_rfl) (fun _ _ _ h => h) (.inl ⟨rfl, fun w' hw' => (by clear hw'; have e := hne w'; go_simp; (try rfl))⟩) ⟨ca, cb, hrg, hrg'⟩ ?_
      simp only [List.getElem_toArray, List.getElem_cons_zero, List.getElem_cons_succ, Act.put, List.setIfInBounds_toArray, List.set_cons_succ, List.set_cons_zero]
      refine wpAnyH_done (by kernel_rfl) ?_ _
      refine NoPanic.normal ?_
      have GE := Lib.hid (show Below w2.heap.size w2 wr.drew from hb.out.drew)
      clear hrg hrg' ca cb
      cases q
      · have e := NO.out (by first | rfl | trivial)
        subst e
        go_wp2_with fail
        go_ret
        exact ⟨rfl, B2.out.trans (GE.out.mono B2.out.size)⟩
      · go_wp2_with fail
        go_roundw
        case rel => exact ⟨k + 1, by omega, by go_num, Lib.hid (YES.out (by first | rfl | trivial)), GE⟩
        case measure => simp [intOf]; omega
    · have hd : decide ((k : Int) < (nL : Int)) = false := by simp; omega
      obtain rfl : k = nL := by omega
      have q2T : q2 = true := by rw [← Q2.out]; exact sameLs_yes (by omega) (fun j hj hj' => hg.out j (by omega) hj hj')
      have HB1 := hb
      clear hg hb
      obtain ⟨wo, rfl⟩ : ∃ wo : World, wo = wr := ⟨_, rfl⟩
      obtain ⟨a0, a1, a2, a3, R4, R5, a6, a7, a8, a9, a10⟩ := obj_lies (FA.out wo HB1.out)
      clear a0 a1 a2 a3 R4 R5 a8 a9 a10
      go_wp2_with fail
      clear a6 a7
      go_loopw [56] (fun i wr => ∃ k : Nat, k ≤ nP ∧ i = .int .i64 (k : Int) ∧ Hid (∀ j (hk : j < k) (hj : j < x.ps.length) (hj' : j < y.ps.length), x.ps[j].b = y.ps[j].b) ∧ Hid (Below w2.heap.size w2 wr)) (fun i _ => nP - (intOf i).toNat)
      case atStart => exact ⟨0, Nat.zero_le _, rfl, Lib.hid (fun j hj => absurd hj (by omega)), Lib.hid HB1.out⟩
      case round =>
        obtain ⟨k, hk, rfl, hg, hb⟩ := hrel
        have BW : Hid (Below w.heap.size w wr) := Lib.hid (B2.out.trans (hb.out.mono B2.out.size))
        by_cases hlt : k < nP
        · have hd : decide ((k : Int) < (nP : Int)) = true := by simp; omega
          have hk0 : (0 : Int) ≤ (k : Int) := Int.natCast_nonneg _
          have hk1 : (k : Int) < (nP : Int) := by omega
          obtain ⟨b, o, eA, hbl, hrg⟩ := (HXP.out.below BW.out).at_ hlt
          obtain ⟨b', o', eA', hbl', hrg'⟩ := (HYP.out.below BW.out).at_ (show k < nP by omega)
          have ca : wr.drew.cell? ⟨w.heap.size, 68, none⟩ = some (.slice (some ⟨b, o, none⟩) nP cP) := by rw [← eA]; exact (obj_lies (FA.out wr hb.out)).2.2.2.2.2.2.1
          have cb : wr.drew.cell? ⟨w.heap.size + 1, 68, none⟩ = some (.slice (some ⟨b', o', none⟩) nP cP') := by rw [← eA']; exact (obj_lies (FB.out wr hb.out)).2.2.2.2.2.2.1
          obtain ⟨r, hr⟩ : ∃ r, x.ps[k]'(by omega) = r := ⟨_, rfl⟩
          obtain ⟨r', hr'⟩ : ∃ r', y.ps[k]'(by omega) = r' := ⟨_, rfl⟩
          rw [hr] at hrg
          rw [hr'] at hrg'
          have hne := fun w => eq_id r r' w
          have hgd := id_guard
          obtain ⟨q, hq⟩ : ∃ q, (r.b == r'.b) = q := ⟨_, rfl⟩
          rw [hq] at hne
          have YES : Hid (q = true → ∀ j (hk : j < k + 1) (hj : j < x.ps.length) (hj' : j < y.ps.length), x.ps[j].b = y.ps[j].b) := Lib.hid (fun h1 j hjk hj hj' => by
            by_cases e : j = k
            · subst e; rw [hr, hr']; rw [h1] at hq; simpa using hq
            · exact hg.out j (by omega) hj hj')
          have NO : Hid (q = false → sq = false) := Lib.hid (fun h1 => by
            rw [HF.out, show q6 = false from by
              rw [← Q6.out]
              exact sameI_not (j := k) (by omega) (by omega) (by rw [hr, hr']; rw [h1] at hq; simpa using hq)]
            simp)
          clear hr hr' hq eA eA'
          go_upto_region 12 with fail
          refine wp_region_noPanic ?_
          refine wp_region_held_drew (S := (fun w' => w'.cell? ⟨w.heap.size, 68, none⟩ = some (.slice (some ⟨b, o, none⟩) nP cP) ∧ w'.cell? ⟨w.heap.size + 1, 68, none⟩ = some (.slice (some ⟨b', o', none⟩) nP cP') ∧ w'.rangeAt b (o + k * 32) r.cells ∧ w'.rangeAt b' (o' + k * 32) r'.cells)) (by kernel_rfl) ⟨ca, cb, hrg, hrg'⟩ (fun _ => ?_)
          refine wpAnyH_take (i := 0) rfl (by kernel_rfl) (by kernel_rfl) (by kernel_rfl) (fun _ _ _ h => h) (.inl ⟨rfl, fun w' hw' => (by clear hw'; go_simp; (try rfl))⟩) ⟨ca, cb, hrg, hrg'⟩ ?_
          simp only [List.getElem_toArray, List.getElem_cons_zero, List.getElem_cons_succ, Act.put, List.setIfInBounds_toArray, List.set_cons_succ, List.set_cons_zero]
          refine wpAnyH_take (i := 1) rfl (by kernel_rfl) (by kernel_rfl) (by kernel_rfl) (fun _ _ _ h => h) (.inl ⟨rfl, fun w' hw' => (by have g1 := hw'.1; have g2 := hw'.2.1; clear hw'; go_simp; (try rfl))⟩) ⟨ca, cb, hrg, hrg'⟩ ?_
          simp only [List.getElem_toArray, List.getElem_cons_zero, List.getElem_cons_succ, Act.put, List.setIfInBounds_toArray, List.set_cons_succ, List.set_cons_zero]
          refine wpAnyH_take (i := 2) rfl (by kernel_rfl) (by kernel_rfl) (by kernel_rfl) (fun _ _ _ h => h) (.inl ⟨rfl, fun w' hw' => (by clear hw'; go_simp; (try rfl))⟩) ⟨ca, cb, hrg, hrg'⟩ ?_
          simp only [List.getElem_toArray, List.getElem_cons_zero, List.getElem_cons_succ, Act.put, List.setIfInBounds_toArray, List.set_cons_succ, List.set_cons_zero]
          refine wpAnyH_take (i := 3) rfl (by kernel_rfl) (by kernel_rfl) (by kernel_rfl) (fun _ _ _ h => h) (.inl ⟨rfl, fun w' hw' => (by clear hw'; go_simp; (try rfl))⟩) ⟨ca, cb, hrg, hrg'⟩ ?_
          simp only [List.getElem_toArray, List.getElem_cons_zero, List.getElem_cons_succ, Act.put, List.setIfInBounds_toArray, List.set_cons_succ, List.set_cons_zero]
          refine wpAnyH_take (i := 4) rfl (by kernel_rfl) (by kernel_rfl) (by kernel_rfl) (fun _ _ _ h => h) (yieldsIf_load_mid rfl 27 _ rfl (b) ((o + k * 32)) rfl (r.cells) _ (fun w' hw' => hw'.2.2.1) Tryz.underlying27 rfl (by rw [id_sz]; exact size_idv)) ⟨ca, cb, hrg, hrg'⟩ ?_
          simp only [List.getElem_toArray, List.getElem_cons_zero, List.getElem_cons_succ, Act.put, List.setIfInBounds_toArray, List.set_cons_succ, List.set_cons_zero]
          refine wpAnyH_take (i := 5) rfl (by kernel_rfl) (by kernel_rfl) (by kernel_rfl) (fun _ _ _ h => h) (.inl ⟨rfl, fun w' hw' => (by clear hw'; go_simp; (try rfl))⟩) ⟨ca, cb, hrg, hrg'⟩ ?_
          simp only [List.getElem_toArray, List.getElem_cons_zero, List.getElem_cons_succ, Act.put, List.setIfInBounds_toArray, List.set_cons_succ, List.set_cons_zero]
          refine wpAnyH_take (i := 6) rfl (by kernel_rfl) (by kernel_rfl) (by kernel_rfl) (fun _ _ _ h => h) (.inl ⟨rfl, fun w' hw' => (by have g1 := hw'.1; have g2 := hw'.2.1; clear hw'; go_simp; (try rfl))⟩) ⟨ca, cb, hrg, hrg'⟩ ?_
          simp only [List.getElem_toArray, List.getElem_cons_zero, List.getElem_cons_succ, Act.put, List.setIfInBounds_toArray, List.set_cons_succ, List.set_cons_zero]
          refine wpAnyH_take (i := 7) rfl (by kernel_rfl) (by kernel_rfl) (by kernel_rfl) (fun _ _ _ h => h) (.inl ⟨rfl, fun w' hw' => (by clear hw'; go_simp; (try rfl))⟩) ⟨ca, cb, hrg, hrg'⟩ ?_
          simp only [List.getElem_toArray, List.getElem_cons_zero, List.getElem_cons_succ, Act.put, List.setIfInBounds_toArray, List.set_cons_succ, List.set_cons_zero]
          refine wpAnyH_take (i := 8) rfl (by kernel_rfl) (by kernel_rfl) (by kernel_rfl) (fun _ _ _ h => h) (.inl ⟨rfl, fun w' hw' => (by clear hw'; go_simp; (try rfl))⟩) ⟨ca, cb, hrg, hrg'⟩ ?_
          simp only [List.getElem_toArray, List.getElem_cons_zero, List.getElem_cons_succ, Act.put, List.setIfInBounds_toArray, List.set_cons_succ, List.set_cons_zero]
          refine wpAnyH_take (i := 9) rfl (by kernel_rfl) (by kernel_rfl) (by kernel_rfl) (fun _ _ _ h => h) (yieldsIf_load_mid rfl 27 _ rfl (b') ((o' + k * 32)) rfl (r'.cells) _ (fun w' hw' => hw'.2.2.2) Tryz.underlying27 rfl (by rw [id_sz]; exact size_idv)) ⟨ca, cb, hrg, hrg'⟩ ?_
          simp only [List.getElem_toArray, List.getElem_cons_zero, List.getElem_cons_succ, Act.put, List.setIfInBounds_toArray, List.set_cons_succ, List.set_cons_zero]
          refine wpAnyH_take (i := 10) rfl (by kernel_rfl) (by kernel_rfl) (by kernel_rfl) (fun _ _ _ h => h) (.inl ⟨rfl, fun w' hw' => (by clear hw'; have e := hne w'; go_simp; (try rfl))⟩) ⟨ca, cb, hrg, hrg'⟩ ?_
          simp only [List.getElem_toArray, List.getElem_cons_zero, List.getElem_cons_succ, Act.put, List.setIfInBounds_toArray, List.set_cons_succ, List.set_cons_zero]
          refine wpAnyH_done (by kernel_rfl) ?_ _
          refine NoPanic.normal ?_
          have GE := Lib.hid (show Below w2.heap.size w2 wr.drew from hb.out.drew)
          clear hrg hrg' ca cb
          cases q
          · have e := NO.out (by first | rfl | trivial)
            subst e
            go_wp2_with fail
            go_ret
            exact ⟨rfl, B2.out.trans (GE.out.mono B2.out.size)⟩
          · go_wp2_with fail
            go_roundw
            case rel => exact ⟨k + 1, by omega, by go_num, Lib.hid (YES.out (by first | rfl | trivial)), GE⟩
            case measure => simp [intOf]; omega
        · have hd : decide ((k : Int) < (nP : Int)) = false := by simp; omega
          obtain rfl : k = nP := by omega
          have q6T : q6 = true := by rw [← Q6.out]; exact sameI_yes (by omega) (fun j hj hj' => hg.out j (by omega) hj hj')
          have HB2 := hb
          clear hg hb
          obtain ⟨wo, rfl⟩ : ∃ wo : World, wo = wr := ⟨_, rfl⟩
          obtain ⟨a0, a1, a2, a3, R4, R5, a6, a7, a8, a9, a10⟩ := obj_lies (FA.out wo HB2.out)
          clear a0 a1 a2 a3 R4 R5 a8 a9 a10
          go_wp2_with fail
          clear a6 a7
          go_loopw [75] (fun i wr => ∃ k : Nat, k ≤ nE ∧ i = .int .i64 (k : Int) ∧ Hid (∀ j (hk : j < k) (hj : j < x.es.length) (hj' : j < y.es.length), sameCh x.es[j] y.es[j] = true) ∧ Hid (Below w2.heap.size w2 wr)) (fun i _ => nE - (intOf i).toNat)
          case atStart => exact ⟨0, Nat.zero_le _, rfl, Lib.hid (fun j hj => absurd hj (by omega)), Lib.hid HB2.out⟩
          case round =>
            obtain ⟨k, hk, rfl, hg, hb⟩ := hrel
            have BW : Hid (Below w.heap.size w wr) := Lib.hid (B2.out.trans (hb.out.mono B2.out.size))
            by_cases hlt : k < nE
            · have hd : decide ((k : Int) < (nE : Int)) = true := by simp; omega
              have hk0 : (0 : Int) ≤ (k : Int) := Int.natCast_nonneg _
              have hk1 : (k : Int) < (nE : Int) := by omega
              obtain ⟨b, o, eA, hbl, hrg⟩ := (HXE.out.below BW.out).at_ hlt
              obtain ⟨b', o', eA', hbl', hrg'⟩ := (HYE.out.below BW.out).at_ (show k < nE by omega)
              have ca : wr.drew.cell? ⟨w.heap.size, 69, none⟩ = some (.slice (some ⟨b, o, none⟩) nE cE) := by rw [← eA]; exact (obj_lies (FA.out wr hb.out)).2.2.2.2.2.2.2.1
              have cb : wr.drew.cell? ⟨w.heap.size + 1, 69, none⟩ = some (.slice (some ⟨b', o', none⟩) nE cE') := by rw [← eA']; exact (obj_lies (FB.out wr hb.out)).2.2.2.2.2.2.2.1
              obtain ⟨r, hr⟩ : ∃ r, x.es[k]'(by omega) = r := ⟨_, rfl⟩
              obtain ⟨r', hr'⟩ : ∃ r', y.es[k]'(by omega) = r' := ⟨_, rfl⟩
              rw [hr] at hrg
              rw [hr'] at hrg'
              have hne := fun w => neq_chv r r' w
              have hgd := chg_guard
              obtain ⟨q, hq⟩ : ∃ q, sameCh r r' = q := ⟨_, rfl⟩
              rw [hq] at hne
              have YES : Hid (q = true → ∀ j (hk : j < k + 1) (hj : j < x.es.length) (hj' : j < y.es.length), sameCh x.es[j] y.es[j] = true) := Lib.hid (fun h1 j hjk hj hj' => by
                by_cases e : j = k
                · subst e; rw [hr, hr']; rw [h1] at hq; simpa using hq
                · exact hg.out j (by omega) hj hj')
              have NO : Hid (q = false → sq = false) := Lib.hid (fun h1 => by
                rw [HF.out, show q7 = false from by
                  rw [← Q7.out]
                  exact sameE_no (fun hh => by have := hh.2 k (by omega) (by omega); rw [hr, hr', hq, h1] at this; cases this)]
                simp)
              clear hr hr' hq eA eA'
              go_upto_region 18 with fail
              refine wp_region_noPanic ?_
              refine wp_region_held_drew (S := (fun w' => w'.cell? ⟨w.heap.size, 69, none⟩ = some (.slice (some ⟨b, o, none⟩) nE cE) ∧ w'.cell? ⟨w.heap.size + 1, 69, none⟩ = some (.slice (some ⟨b', o', none⟩) nE cE') ∧ w'.rangeAt b (o + k * 3) r.cells ∧ w'.rangeAt b' (o' + k * 3) r'.cells)) (by kernel_rfl) ⟨ca, cb, hrg, hrg'⟩ (fun _ => ?_)
              refine wpAnyH_take (i := 0) rfl (by kernel_rfl) (by kernel_rfl) (by kernel_rfl) (fun _ _ _ h => h) (.inl ⟨rfl, fun w' hw' => (by clear hw'; go_simp; (try rfl))⟩) ⟨ca, cb, hrg, hrg'⟩ ?_
              simp only [List.getElem_toArray, List.getElem_cons_zero, List.getElem_cons_succ, Act.put, List.setIfInBounds_toArray, List.set_cons_succ, List.set_cons_zero]
              refine wpAnyH_take (i := 1) rfl (by kernel_rfl) (by kernel_rfl) (by kernel_rfl) (fun _ _ _ h => h) (.inl ⟨rfl, fun w' hw' => (by clear hw'; go_simp; (try rfl))⟩) ⟨ca, cb, hrg, hrg'⟩ ?_
              simp only [List.getElem_toArray, List.getElem_cons_zero, List.getElem_cons_succ, Act.put, List.setIfInBounds_toArray, List.set_cons_succ, List.set_cons_zero]
              refine wpAnyH_take (i := 2) rfl (by kernel_rfl) (by kernel_rfl) (by kernel_rfl) (fun _ _ _ h => h) (.inl ⟨rfl, fun w' hw' => (by have g1 := hw'.1; have g2 := hw'.2.1; clear hw'; go_simp; (try rfl))⟩) ⟨ca, cb, hrg, hrg'⟩ ?_
              simp only [List.getElem_toArray, List.getElem_cons_zero, List.getElem_cons_succ, Act.put, List.setIfInBounds_toArray, List.set_cons_succ, List.set_cons_zero]
              refine wpAnyH_take (i := 3) rfl (by kernel_rfl) (by kernel_rfl) (by kernel_rfl) (fun _ _ _ h => h) (.inl ⟨rfl, fun w' hw' => (by clear hw'; go_simp; (try rfl))⟩) ⟨ca, cb, hrg, hrg'⟩ ?_
              simp only [List.getElem_toArray, List.getElem_cons_zero, List.getElem_cons_succ, Act.put, List.setIfInBounds_toArray, List.set_cons_succ, List.set_cons_zero]
              refine wpAnyH_take (i := 4) rfl (by kernel_rfl) (by kernel_rfl) (by kernel_rfl) (fun _ _ _ h => h) (.inl ⟨rfl, fun w' hw' => (by clear hw'; go_simp; (try rfl))⟩) ⟨ca, cb, hrg, hrg'⟩ ?_
              simp only [List.getElem_toArray, List.getElem_cons_zero, List.getElem_cons_succ, Act.put, List.setIfInBounds_toArray, List.set_cons_succ, List.set_cons_zero]
              refine wpAnyH_take (i := 5) rfl (by kernel_rfl) (by kernel_rfl) (by kernel_rfl) (fun _ _ _ h => h) (yieldsIf_load_mid rfl 71 _ rfl (b) ((o + k * 3)) rfl (r.cells) _ (fun w' hw' => hw'.2.2.1) Tryz.underlying71 rfl size_ch) ⟨ca, cb, hrg, hrg'⟩ ?_
              simp only [List.getElem_toArray, List.getElem_cons_zero, List.getElem_cons_succ, Act.put, List.setIfInBounds_toArray, List.set_cons_succ, List.set_cons_zero]
              refine wpAnyH_take (i := 6) rfl (by kernel_rfl) (by kernel_rfl) (by kernel_rfl) (fun _ _ _ h => h) (.inl ⟨rfl, fun w' hw' => (by clear hw'; go_simp; (try rfl))⟩) ⟨ca, cb, hrg, hrg'⟩ ?_
              simp only [List.getElem_toArray, List.getElem_cons_zero, List.getElem_cons_succ, Act.put, List.setIfInBounds_toArray, List.set_cons_succ, List.set_cons_zero]
              refine wpAnyH_take (i := 7) rfl (by kernel_rfl) (by kernel_rfl) (by kernel_rfl) (fun _ _ _ h => h) (.inl ⟨rfl, fun w' hw' => (by clear hw'; go_simp; (try rfl))⟩) ⟨ca, cb, hrg, hrg'⟩ ?_
              simp only [List.getElem_toArray, List.getElem_cons_zero, List.getElem_cons_succ, Act.put, List.setIfInBounds_toArray, List.set_cons_succ, List.set_cons_zero]
              refine wpAnyH_take (i := 8) rfl (by kernel_rfl) (by kernel_rfl) (by kernel_rfl) (fun _ _ _ h => h) (.inl ⟨rfl, fun w' hw' => (by have g1 := hw'.1; have g2 := hw'.2.1; clear hw'; go_simp; (try rfl))⟩) ⟨ca, cb, hrg, hrg'⟩ ?_
              simp only [List.getElem_toArray, List.getElem_cons_zero, List.getElem_cons_succ, Act.put, List.setIfInBounds_toArray, List.set_cons_succ, List.set_cons_zero]
              refine wpAnyH_take (i := 9) rfl (by kernel_rfl) (by kernel_rfl) (by kernel_rfl) (fun _ _ _ h => h) (.inl ⟨rfl, fun w' hw' => (by clear hw'; go_simp; (try rfl))⟩) ⟨ca, cb, hrg, hrg'⟩ ?_
              simp only [List.getElem_toArray, List.getElem_cons_zero, List.getElem_cons_succ, Act.put, List.setIfInBounds_toArray, List.set_cons_succ, List.set_cons_zero]
              refine wpAnyH_take (i := 10) rfl (by kernel_rfl) (by kernel_rfl) (by kernel_rfl) (fun _ _ _ h => h) (.inl ⟨rfl, fun w' hw' => (by clear hw'; go_simp; (try rfl))⟩) ⟨ca, cb, hrg, hrg'⟩ ?_
              simp only [List.getElem_toArray, List.getElem_cons_zero, List.getElem_cons_succ, Act.put, List.setIfInBounds_toArray, List.set_cons_succ, List.set_cons_zero]
              refine wpAnyH_take (i := 11) rfl (by kernel_rfl) (by kernel_rfl) (by kernel_rfl) (fun _ _ _ h => h) (yieldsIf_load_mid rfl 71 _ rfl (b') ((o' + k * 3)) rfl (r'.cells) _ (fun w' hw' => hw'.2.2.2) Tryz.underlying71 rfl size_ch) ⟨ca, cb, hrg, hrg'⟩ ?_
              simp only [List.getElem_toArray, List.getElem_cons_zero, List.getElem_cons_succ, Act.put, List.setIfInBounds_toArray, List.set_cons_succ, List.set_cons_zero]
              refine wpAnyH_take (i := 12) rfl (by kernel_rfl) (by kernel_rfl) (by kernel_rfl) (fun _ _ _ h => h) (.inl ⟨rfl, fun w' hw' => (by clear hw'; have e := hne w'; go_simp; (try rfl))⟩) ⟨ca, cb, hrg, hrg'⟩ ?_
              simp only [List.getElem_toArray, List.getElem_cons_zero, List.getElem_cons_succ, Act.put, List.setIfInBounds_toArray, List.set_cons_succ, List.set_cons_zero]
              refine wpAnyH_done (by kernel_rfl) ?_ _
              refine NoPanic.normal ?_
              have GE := Lib.hid (show Below w2.heap.size w2 wr.drew from hb.out.drew)
              clear hrg hrg' ca cb
              cases q
              · have e := NO.out (by first | rfl | trivial)
                subst e
                go_wp2_with fail
                go_ret
                exact ⟨rfl, B2.out.trans (GE.out.mono B2.out.size)⟩
              · go_wp2_with fail
                go_roundw
                case rel => exact ⟨k + 1, by omega, by go_num, Lib.hid (YES.out (by first | rfl | trivial)), GE⟩
                case measure => simp [intOf]; omega
            · have hd : decide ((k : Int) < (nE : Int)) = false := by simp; omega
              obtain rfl : k = nE := by omega
              have q7T : q7 = true := by rw [← Q7.out]; exact sameE_yes (by omega) (fun j hj hj' => hg.out j (by omega) hj hj')
              have HB3 := hb
              clear hg hb
              subst q2T
              subst q6T
              subst q7T
              obtain ⟨a0, a1, a2, a3, R4, R5, a6, a7, a8, a9, a10⟩ := obj_lies (FA.out wr HB3.out)
              obtain ⟨b0, b1, b2, b3, T4, T5, b6, b7, b8, b9, b10⟩ := obj_lies (FB.out wr HB3.out)
              replace R4 := Lib.hid R4
              replace R5 := Lib.hid R5
              replace T4 := Lib.hid T4
              replace T5 := Lib.hid T5
              clear a2 a6 a7 b2 b6 b7
              have e4 := E4.out
              have e5 := E5.out
              have GE := Lib.hid (B2.out.trans (HB3.out.mono B2.out.size))
              go_upto_region 21 with fail
              (try simp only [List.append])
              cases q0
              · go_wp2_with (first | ((with_reducible refine ldi (.tmp 112) ?_ ?_ w.heap.size 4 x.tree ?_ R4.out ?_); rfl; (first | rfl | go_simp); rfl) | ((with_reducible refine ldi (.tmp 114) ?_ ?_ (w.heap.size + 1) 4 y.tree ?_ T4.out ?_); rfl; (first | rfl | go_simp); rfl) | ((with_reducible refine ldi (.tmp 119) ?_ ?_ w.heap.size 36 x.base ?_ R5.out ?_); rfl; (first | rfl | go_simp); rfl) | ((with_reducible refine ldi (.tmp 121) ?_ ?_ (w.heap.size + 1) 36 y.base ?_ T5.out ?_); rfl; (first | rfl | go_simp); rfl) | fail)
                go_ret
                exact ⟨by rw [HF.out]; rfl, GE.out⟩
              cases q1
              · go_wp2_with (first | ((with_reducible refine ldi (.tmp 112) ?_ ?_ w.heap.size 4 x.tree ?_ R4.out ?_); rfl; (first | rfl | go_simp); rfl) | ((with_reducible refine ldi (.tmp 114) ?_ ?_ (w.heap.size + 1) 4 y.tree ?_ T4.out ?_); rfl; (first | rfl | go_simp); rfl) | ((with_reducible refine ldi (.tmp 119) ?_ ?_ w.heap.size 36 x.base ?_ R5.out ?_); rfl; (first | rfl | go_simp); rfl) | ((with_reducible refine ldi (.tmp 121) ?_ ?_ (w.heap.size + 1) 36 y.base ?_ T5.out ?_); rfl; (first | rfl | go_simp); rfl) | fail)
                go_ret
                exact ⟨by rw [HF.out]; rfl, GE.out⟩
              cases q3
              · go_wp2_with (first | ((with_reducible refine ldi (.tmp 112) ?_ ?_ w.heap.size 4 x.tree ?_ R4.out ?_); rfl; (first | rfl | go_simp); rfl) | ((with_reducible refine ldi (.tmp 114) ?_ ?_ (w.heap.size + 1) 4 y.tree ?_ T4.out ?_); rfl; (first | rfl | go_simp); rfl) | ((with_reducible refine ldi (.tmp 119) ?_ ?_ w.heap.size 36 x.base ?_ R5.out ?_); rfl; (first | rfl | go_simp); rfl) | ((with_reducible refine ldi (.tmp 121) ?_ ?_ (w.heap.size + 1) 36 y.base ?_ T5.out ?_); rfl; (first | rfl | go_simp); rfl) | fail)
                go_ret
                exact ⟨by rw [HF.out]; rfl, GE.out⟩
              cases q4
              · go_wp2_with (first | ((with_reducible refine ldi (.tmp 112) ?_ ?_ w.heap.size 4 x.tree ?_ R4.out ?_); rfl; (first | rfl | go_simp); rfl) | ((with_reducible refine ldi (.tmp 114) ?_ ?_ (w.heap.size + 1) 4 y.tree ?_ T4.out ?_); rfl; (first | rfl | go_simp); rfl) | ((with_reducible refine ldi (.tmp 119) ?_ ?_ w.heap.size 36 x.base ?_ R5.out ?_); rfl; (first | rfl | go_simp); rfl) | ((with_reducible refine ldi (.tmp 121) ?_ ?_ (w.heap.size + 1) 36 y.base ?_ T5.out ?_); rfl; (first | rfl | go_simp); rfl) | fail)
                go_ret
                exact ⟨by rw [HF.out]; rfl, GE.out⟩
              cases q5
              · go_wp2_with (first | ((with_reducible refine ldi (.tmp 112) ?_ ?_ w.heap.size 4 x.tree ?_ R4.out ?_); rfl; (first | rfl | go_simp); rfl) | ((with_reducible refine ldi (.tmp 114) ?_ ?_ (w.heap.size + 1) 4 y.tree ?_ T4.out ?_); rfl; (first | rfl | go_simp); rfl) | ((with_reducible refine ldi (.tmp 119) ?_ ?_ w.heap.size 36 x.base ?_ R5.out ?_); rfl; (first | rfl | go_simp); rfl) | ((with_reducible refine ldi (.tmp 121) ?_ ?_ (w.heap.size + 1) 36 y.base ?_ T5.out ?_); rfl; (first | rfl | go_simp); rfl) | fail)
                go_ret
                exact ⟨by rw [HF.out]; rfl, GE.out⟩
              cases q8
              · go_wp2_with (first | ((with_reducible refine ldi (.tmp 112) ?_ ?_ w.heap.size 4 x.tree ?_ R4.out ?_); rfl; (first | rfl | go_simp); rfl) | ((with_reducible refine ldi (.tmp 114) ?_ ?_ (w.heap.size + 1) 4 y.tree ?_ T4.out ?_); rfl; (first | rfl | go_simp); rfl) | ((with_reducible refine ldi (.tmp 119) ?_ ?_ w.heap.size 36 x.base ?_ R5.out ?_); rfl; (first | rfl | go_simp); rfl) | ((with_reducible refine ldi (.tmp 121) ?_ ?_ (w.heap.size + 1) 36 y.base ?_ T5.out ?_); rfl; (first | rfl | go_simp); rfl) | fail)
                go_ret
                exact ⟨by rw [HF.out]; rfl, GE.out⟩
              cases q9
              · go_wp2_with (first | ((with_reducible refine ldi (.tmp 112) ?_ ?_ w.heap.size 4 x.tree ?_ R4.out ?_); rfl; (first | rfl | go_simp); rfl) | ((with_reducible refine ldi (.tmp 114) ?_ ?_ (w.heap.size + 1) 4 y.tree ?_ T4.out ?_); rfl; (first | rfl | go_simp); rfl) | ((with_reducible refine ldi (.tmp 119) ?_ ?_ w.heap.size 36 x.base ?_ R5.out ?_); rfl; (first | rfl | go_simp); rfl) | ((with_reducible refine ldi (.tmp 121) ?_ ?_ (w.heap.size + 1) 36 y.base ?_ T5.out ?_); rfl; (first | rfl | go_simp); rfl) | fail)
                go_ret
                exact ⟨by rw [HF.out]; rfl, GE.out⟩
              cases q10
              · go_wp2_with (first | ((with_reducible refine ldi (.tmp 112) ?_ ?_ w.heap.size 4 x.tree ?_ R4.out ?_); rfl; (first | rfl | go_simp); rfl) | ((with_reducible refine ldi (.tmp 114) ?_ ?_ (w.heap.size + 1) 4 y.tree ?_ T4.out ?_); rfl; (first | rfl | go_simp); rfl) | ((with_reducible refine ldi (.tmp 119) ?_ ?_ w.heap.size 36 x.base ?_ R5.out ?_); rfl; (first | rfl | go_simp); rfl) | ((with_reducible refine ldi (.tmp 121) ?_ ?_ (w.heap.size + 1) 36 y.base ?_ T5.out ?_); rfl; (first | rfl | go_simp); rfl) | fail)
                go_ret
                exact ⟨by rw [HF.out]; rfl, GE.out⟩
              go_wp2_with (first | ((with_reducible refine ldi (.tmp 112) ?_ ?_ w.heap.size 4 x.tree ?_ R4.out ?_); rfl; (first | rfl | go_simp); rfl) | ((with_reducible refine ldi (.tmp 114) ?_ ?_ (w.heap.size + 1) 4 y.tree ?_ T4.out ?_); rfl; (first | rfl | go_simp); rfl) | ((with_reducible refine ldi (.tmp 119) ?_ ?_ w.heap.size 36 x.base ?_ R5.out ?_); rfl; (first | rfl | go_simp); rfl) | ((with_reducible refine ldi (.tmp 121) ?_ ?_ (w.heap.size + 1) 36 y.base ?_ T5.out ?_); rfl; (first | rfl | go_simp); rfl) | fail)
              go_ret
              exact ⟨by rw [HF.out]; rfl, GE.out⟩
end Go.Proofs.YtcofkhmgmemkmaaGreatDoor
