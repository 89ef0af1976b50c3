/-
  STAGE 6's LAW ObjectEncodes: the walk.
-/
import Derived.Test.YtnkhoghdfncgpaaGreatDoorK52
namespace Go.Proofs.YtnkhoghdfncgpaaGreatDoor
set_option linter.unusedVariables false
set_option linter.unusedSimpArgs false
open Go.RowKit Go.WideShapes Go.ChangeShapes Go.Deep Go.Shelf
attribute [local irreducible] wpQuiet

set_option maxRecDepth 100000 in
set_option maxHeartbeats 8000000 in
theorem enc_walk {w : World} {A : Option Addr} {n c : Nat} {l : List (InO w)} (h : Sq (fun o : InO w => o.1.cells) 73 w w.heap.size A n c l) (hg : S3.GK w) :
    Calls Tryz.prog 3 #[.slice A n c] w fun e w' => e = .returned (.bool true) ∧ Below w.heap.size w w' := by
  have h00 := hg.lt
  have HG := Lib.hid hg
  have HLE := Lib.hid h.len
  have HS : Hid (∀ W, Below w.heap.size w W → Sq (fun o : InO w => o.1.cells) 73 W w.heap.size A n c l) := Lib.hid fun W hW => h.below hW
  have HN : Hid (n ≤ maxLen) := Lib.hid (Nat.le_trans h.cap h.max)
  have hn63 : n ≤ 9223372036854775807 := by have := HN.out; unfold maxLen at this; omega
  clear h hg
  go_enter Tryz.func3, Tryz.ntmps3
  go_wp2_with fail
  refine (owakes_any HG.out).mono ?_
  rintro e w1 ⟨rfl, hb1⟩
  dsimp only
  have B1 := Lib.hid hb1
  have HG1 := Lib.hid (gk_keep HG.out hb1 h00)
  clear hb1
  go_wp2_with fail
  go_loopw [18] (fun i wr => ∃ k : Nat, k ≤ n ∧ i = .int .i64 (k : Int) ∧ Hid (Below w.heap.size w wr)) (fun i _ => n - (intOf i).toNat)
  case atStart => exact ⟨0, Nat.zero_le _, rfl, B1⟩
  case round =>
    obtain ⟨k, hk, rfl, hlo⟩ := hrel
    by_cases hlt : k < n
    · have hd : decide ((k : Int) < (n : Int)) = true := by simp; omega
      have hk0 : (0 : Int) ≤ (k : Int) := Int.natCast_nonneg _
      have hk1 : (k : Int) < (n : Int) := by omega
      obtain ⟨b, o, rfl, hbl, hrg⟩ := (HS.out wr hlo.out).at_ hlt
      have hkl : k < l.length := by rw [HLE.out]; exact hlt
      obtain ⟨xo, x, L, P, E, hxo, hxx⟩ : ∃ xo x L P E, xo = Ov.at_ x L P E ∧ wr.rangeAt b (o + k * 73) xo.cells ∧ Obj3 w w.heap.size x L P E := by
        obtain ⟨x, L, P, E, e, ho⟩ := l[k].2
        exact ⟨l[k].1, x, L, P, E, e, hrg, ho⟩
      have HRG := Lib.hid hxx.1
      have HXX := Lib.hid hxx.2
      have HXO := Lib.hid hxo
      have OXO : Hid (xo.lv.oneCell' = true ∧ xo.pv.oneCell' = true ∧ xo.ev.oneCell' = true) := Lib.hid (by rw [hxo]; exact at_one _ _ _ _)
      obtain ⟨X, hX⟩ : ∃ X, wr.heap.size = X := ⟨_, rfl⟩
      obtain ⟨zo, hzo⟩ : ∃ z, zOf = z := ⟨_, rfl⟩
      have ZO : Hid (∀ w : World, (zeroValue 33).run Tryz.prog w = .ok (.agg zo.cells.toArray) w) := Lib.hid (by rw [← hzo]; exact zero_of)
      obtain ⟨wA, hwA⟩ : ∃ wA, wr.alloc (.cells zo.cells.toArray 33) = wA := ⟨_, rfl⟩
      obtain ⟨w5, hw5⟩ : ∃ w5, wA.setCells X 0 xo.cells = w5 := ⟨_, rfl⟩
      have YA : Hid (Lies wA X 73 zo.cells) := Lib.hid (by rw [← hwA, ← hX]; have := Lies.new wr zo.cells 33; rwa [of_sz] at this)
      have Y5 : Hid (Lies w5 X 73 xo.cells) := Lib.hid (by rw [← hw5]; exact YA.out.set_ (of_sz _))
      have B5 : Hid (Below w.heap.size w w5) := Lib.hid (by rw [← hw5, ← hwA]; exact hlo.out.trans ((below_setCells ((Below.refl wr.heap.size _).alloc (Nat.le_refl _) _) (by omega) _ _).mono hlo.out.size))
      have HWA := Lib.hid hwA
      have HW5 := Lib.hid hw5
      have TA := Lib.hid YA.out.th
      have HZO := Lib.hid hzo
      have ZO2 := Lib.hid ZO.out
      clear hwA hw5 YA hrg hxx hxo hlo hzo
      go_upto_region 6 with (first
        | ((with_reducible refine ldo (.tmp 21) ?_ ?_ b (o + k * 73) xo ?_ HRG.out ?_); rfl; rfl; (first | rfl | go_simp))
        | ((with_reducible refine alt 33 ?_ ?_ zo.cells ZO.out ?_); rfl; rfl; rw [HWA.out]; (try simp only [Act.put, List.setIfInBounds_toArray, List.set_cons_succ, List.set_cons_zero, hX]))
        | ((with_reducible refine sto (.tmp 4) (.tmp 22) ?_ ?_ X 0 xo ?_ ?_ TA.out OXO.out.1 OXO.out.2.1 OXO.out.2.2 ?_); rfl; rfl; rfl; rfl; rw [HW5.out])
        | fail)
      clear HWA HW5 TA HRG OXO ZO
      by_cases h12 : k = 12
      · subst h12
        go_wp2_with fail
        go_ret
        exact ⟨rfl, B5.out⟩
      have d12 : ((k : Int) == 12) = false := by simp; omega
      go_upto_region 7 with fail
      obtain ⟨w0, hw0⟩ : ∃ w0, w5.drew = w0 := ⟨_, rfl⟩
      have B0 : Hid (Below w.heap.size w w0) := Lib.hid (by rw [← hw0]; exact B5.out.drew)
      have T0 : Hid (Lies w0 X 73 xo.cells) := Lib.hid (by rw [← hw0]; exact Y5.out.below (Below.refl _ _).drew Y5.out.lt)
      obtain ⟨y, hy⟩ : ∃ y, shortO x = y := ⟨_, rfl⟩
      have CX : Hid (∀ W, Below w.heap.size w W → Calls Tryz.prog 7 #[ofV xo] W fun e w' => (∃ L' P' E', e = .returned (ofV (y.at_ L' P' E')) ∧ Obj3 w' w'.heap.size y L' P' E' ∧ OwnO w' W.heap.size y L' P' E' ∧ L'.n ≤ 33 ∧ P'.n ≤ 4 ∧ E'.n ≤ 33) ∧ Below W.heap.size W w') := Lib.hid fun W hW => by rw [HXO.out, ← hy]; exact short_any ((HXX.out.below hW).more hW.size)
      have SM : Hid ((∀ l ∈ y.lv, l.p.size ≤ 1000000) ∧ ∀ r ∈ y.es, r.p.size ≤ 1000000) := Lib.hid (by rw [← hy]; exact short_small x)
      have HNL : Hid ((linksW y).length ≤ 100) := Lib.hid (by rw [← hy]; exact links_few x)
      obtain ⟨HK, -⟩ : Hid ((-9223372036854775808 ≤ y.kind ∧ y.kind ≤ 9223372036854775807) ∧ (-9223372036854775808 ≤ y.style ∧ y.style ≤ 9223372036854775807) ∧ y.num < 4294967296 ∧ y.auth < 4294967296) ∧ True := ⟨Lib.hid (by rw [← hy]; exact HXX.out.num_), trivial⟩
      clear hy HXX HXO
      refine wp_region_noPanic (wp_region_any (by kernel_rfl) (wpAny_of_bk (S := (fun w' => w'.rangeAt X 0 xo.cells)) (m := 8) _ _ _ _ ?_))
      show wpBk _ _ _ _ _ _ 8 _ _ w5.drew
      rw [hw0]
      clear hw0 Y5 B5
      refine wpBk_take (i := 0) rfl (by kernel_rfl) (fun _ _ _ _ h => h) (of_yield (.tmp 4) rfl rfl X xo rfl (fun w' hw' => hw')) T0.out.rg ?_
      simp only [List.getElem_toArray, List.getElem_cons_zero, List.getElem_cons_succ, Act.put, List.setIfInBounds_toArray, List.set_cons_succ, List.set_cons_zero]
      refine wpBk_take (i := 2) rfl (by kernel_rfl) (fun _ _ _ _ h => h) (of_yield (.tmp 4) rfl rfl X xo rfl (fun w' hw' => hw')) T0.out.rg ?_
      simp only [List.getElem_toArray, List.getElem_cons_zero, List.getElem_cons_succ, Act.put, List.setIfInBounds_toArray, List.set_cons_succ, List.set_cons_zero]
      refine wpBk_free (fun old a0 l0 f l a w' => ∃ (r1 r3 : Option (Sl × Sl × Sl)) (b4 b5 : Option Nat), f = 2 + (r1.isNone.toNat + (r3.isNone.toNat + (b4.isNone.toNat + b5.isNone.toNat))) ∧ (r3.isSome = true → r1.isSome = true) ∧ l = (((l0.setIfInBounds 1 r1.isSome).setIfInBounds 3 r3.isSome).setIfInBounds 4 b4.isSome).setIfInBounds 5 b5.isSome ∧ a = { tmps := (((a0.tmps.setIfInBounds 26 (objV (old 26) y r1)).setIfInBounds 28 (objV (old 28) y r3)).setIfInBounds 5 (boxV (old 5) b4)).setIfInBounds 6 (boxV (old 6) b5), defers := a0.defers } ∧ Tw w0 X xo y r1 r3 b4 b5 w') 2 [(1, []), (3, [1]), (4, []), (5, [])] ?_ ?_ ?_ 4 ?_
      · rintro old f l a wz ⟨r1, r3, b4, b5, hf, hc, rfl, -⟩
        rcases r1 with _ | _ <;> rcases r3 with _ | _ <;> rcases b4 with _ | _ <;> rcases b5 with _ | _ <;> first | (exfalso; simp at hc; done) | (exfalso; simp at hf; done) | (exfalso; simp at hf; omega) | kernel_rfl
      · rintro old f l a wz ⟨r1, r3, b4, b5, hf, hc, rfl, rfl, hT⟩ jp hjp hn hq
        simp only [List.mem_cons, List.not_mem_nil, or_false] at hjp
        rcases hjp with rfl | rfl | rfl | rfl
        · obtain rfl : r1 = none := by clear hT hf hq hc; cases r1 <;> first | rfl | exact absurd (show (false : Bool) = true from hn.symm.trans (by kernel_rfl)) (by decide)
          obtain rfl : r3 = none := by clear hn hq hf hT; cases r3 <;> simp_all
          clear hn hq
          refine wpOp_of rfl rfl (fun K hK => ?_)
          simp only [List.getElem_toArray, List.getElem_cons_zero, List.getElem_cons_succ, Act.put, List.setIfInBounds_toArray, List.set_cons_succ, List.set_cons_zero, List.getElem_toArray]
          refine wp_fn (f := 7) (xs := #[ofV xo]) (by first | (go_simp; done) | (go_simp; rfl)) ((CX.out wz (B0.out.trans (hT.b.mono B0.out.size))).mono ?_)
          rintro e wy ⟨⟨L1, P1, E1, rfl, -, ow1, nn1⟩, hb2⟩
          have hT2 := hT.call1 hb2 (q := (L1, P1, E1)) ow1 nn1
          refine ⟨_, rfl, hK _ _ ⟨fun _ _ => hT2.x.rg, some (L1, P1, E1), none, b4, b5, ?_, (fun h9 => by cases h9), ?_, ?_, hT2⟩⟩
          · simp at hf ⊢; omega
          · kernel_rfl
          · kernel_rfl
        · obtain rfl : r3 = none := by clear hT hf hq hc; cases r3 <;> first | rfl | exact absurd (show (false : Bool) = true from hn.symm.trans (by kernel_rfl)) (by decide)
          obtain ⟨q1, rfl⟩ : ∃ v, r1 = some v := by clear hT hf hn hc; cases r1 <;> first | exact ⟨_, rfl⟩ | exact absurd (show (true : Bool) = false from hq.symm.trans (by kernel_rfl)) (by decide)
          clear hn hq
          refine wpOp_of rfl rfl (fun K hK => ?_)
          simp only [List.getElem_toArray, List.getElem_cons_zero, List.getElem_cons_succ, Act.put, List.setIfInBounds_toArray, List.set_cons_succ, List.set_cons_zero, List.getElem_toArray]
          refine wp_fn (f := 7) (xs := #[ofV xo]) (by first | (go_simp; done) | (go_simp; rfl)) ((CX.out wz (B0.out.trans (hT.b.mono B0.out.size))).mono ?_)
          rintro e wy ⟨⟨L1, P1, E1, rfl, -, ow1, nn1⟩, hb2⟩
          have hT2 := hT.call3 hb2 (q := (L1, P1, E1)) ow1 nn1
          refine ⟨_, rfl, hK _ _ ⟨fun _ _ => hT2.x.rg, some q1, some (L1, P1, E1), b4, b5, ?_, (fun h9 => rfl), ?_, ?_, hT2⟩⟩
          · simp at hf ⊢; omega
          · kernel_rfl
          · kernel_rfl
        · obtain rfl : b4 = none := by clear hT hf hq hc; cases b4 <;> first | rfl | exact absurd (show (false : Bool) = true from hn.symm.trans (by kernel_rfl)) (by decide)
          clear hn hq
          refine wpOp_of rfl rfl (fun K hK => ?_)
          simp only [List.getElem_toArray, List.getElem_cons_zero, List.getElem_cons_succ, Act.put, List.setIfInBounds_toArray, List.set_cons_succ, List.set_cons_zero, List.getElem_toArray]
          refine wp_al 33 rfl zo.cells ZO2.out ?_
          have hT2 := hT.made4
          rw [HZO.out] at hT2
          refine hK _ _ ⟨fun _ _ => hT2.x.rg, r1, r3, some wz.heap.size, b5, ?_, hc, ?_, ?_, hT2⟩
          · simp at hf ⊢; omega
          · kernel_rfl
          · kernel_rfl
        · obtain rfl : b5 = none := by clear hT hf hq hc; cases b5 <;> first | rfl | exact absurd (show (false : Bool) = true from hn.symm.trans (by kernel_rfl)) (by decide)
          clear hn hq
          refine wpOp_of rfl rfl (fun K hK => ?_)
          simp only [List.getElem_toArray, List.getElem_cons_zero, List.getElem_cons_succ, Act.put, List.setIfInBounds_toArray, List.set_cons_succ, List.set_cons_zero, List.getElem_toArray]
          refine wp_al 33 rfl zo.cells ZO2.out ?_
          have hT2 := hT.made5
          rw [HZO.out] at hT2
          refine hK _ _ ⟨fun _ _ => hT2.x.rg, r1, r3, b4, some wz.heap.size, ?_, hc, ?_, ?_, hT2⟩
          · simp at hf ⊢; omega
          · kernel_rfl
          · kernel_rfl
      · rintro old l a wz ⟨r1, r3, b4, b5, hf, hc, rfl, rfl, hT⟩
        obtain ⟨⟨L1, P1, E1⟩, rfl⟩ := some_is (o := r1) (by omega)
        obtain ⟨⟨L3, P3, E3⟩, rfl⟩ := some_is (o := r3) (by omega)
        obtain ⟨g4, rfl⟩ := some_is (o := b4) (by omega)
        obtain ⟨g5, rfl⟩ := some_is (o := b5) (by omega)
        simp only [List.getElem_toArray, List.getElem_cons_zero, List.getElem_cons_succ, Act.put, List.setIfInBounds_toArray, List.set_cons_succ, List.set_cons_zero, List.getElem_toArray, objV, boxV, Option.isSome_some]
        have BZ : Hid (Below w0.heap.size w0 wz) := Lib.hid hT.b
        have O1 := Lib.hid (hT.o1 _ rfl)
        have O3 := Lib.hid (hT.o3 _ rfl)
        have V4 := Lib.hid (hT.v4 _ rfl)
        have V5 := Lib.hid (hT.v5 _ rfl)
        have NE := Lib.hid (hT.ne _ _ rfl rfl)
        have XZ := Lib.hid hT.x
        clear hT hf hc
        dsimp only at O1 O3
        obtain ⟨xs, hxs⟩ : ∃ o, y.at_ L1 P1 E1 = o := ⟨_, rfl⟩
        obtain ⟨ys, hys⟩ : ∃ o, y.at_ L3 P3 E3 = o := ⟨_, rfl⟩
        rw [hxs, hys]
        have HXS := Lib.hid hxs
        have HYS := Lib.hid hys
        have OX : Hid (xs.lv.oneCell' = true ∧ xs.pv.oneCell' = true ∧ xs.ev.oneCell' = true) := Lib.hid (by rw [← hxs]; exact at_one _ _ _ _)
        have OY : Hid (ys.lv.oneCell' = true ∧ ys.pv.oneCell' = true ∧ ys.ev.oneCell' = true) := Lib.hid (by rw [← hys]; exact at_one _ _ _ _)
        clear hxs hys
        obtain ⟨w6, hw6⟩ : ∃ w6, wz.setCells g4 0 xs.cells = w6 := ⟨_, rfl⟩
        obtain ⟨w7, hw7⟩ : ∃ w7, w6.setCells g5 0 ys.cells = w7 := ⟨_, rfl⟩
        have HX0 : Hid (X < w0.heap.size) := Lib.hid T0.out.lt
        have g4X := V4.out.1
        have g5X := V5.out.1
        have gne := NE.out
        have hx0 := HX0.out
        have A4 : Hid (Lt w6 g4 33 73 xs.cells) := Lib.hid (by rw [← hw6]; exact V4.out.2.2.setO (of_sz _))
        have A5 : Hid (Lt w6 g5 33 73 zOf.cells) := Lib.hid (by rw [← hw6]; exact V5.out.2.2.farO (by omega) _ _)
        have C4 : Hid (Lt w7 g4 33 73 xs.cells) := Lib.hid (by rw [← hw7]; exact A4.out.farO (by omega) _ _)
        have C5 : Hid (Lt w7 g5 33 73 ys.cells) := Lib.hid (by rw [← hw7]; exact A5.out.setO (of_sz _))
        have Q1 : Hid (OwnO w7 w0.heap.size y L1 P1 E1) := Lib.hid (by rw [← hw7, ← hw6]; exact (O1.out.1.box V4.out.2.2 _ _).box (by rw [hw6]; exact A5.out) _ _)
        have Q3 : Hid (OwnO w7 w0.heap.size y L3 P3 E3) := Lib.hid (by rw [← hw7, ← hw6]; exact (O3.out.1.box V4.out.2.2 _ _).box (by rw [hw6]; exact A5.out) _ _)
        have B7 : Hid (Below w.heap.size w w7) := Lib.hid (by have hs0 := B0.out.size; rw [← hw7, ← hw6]; exact below_setCells (below_setCells (B0.out.trans (BZ.out.mono B0.out.size)) (by omega) _ _) (by omega) _ _)
        have N1 := Lib.hid O1.out.2
        have N3 := Lib.hid O3.out.2
        have X6 : Hid (Lies w6 X 73 xo.cells) := Lib.hid (by rw [← hw6]; exact XZ.out.other (by omega) _ _)
        have X7 : Hid (Lies w7 X 73 xo.cells) := Lib.hid (by rw [← hw7]; exact X6.out.other (by omega) _ _)
        have HW6 := Lib.hid hw6
        have HW7 := Lib.hid hw7
        have TH4 := Lib.hid V4.out.2.2.ls.th
        have TH5 := Lib.hid A5.out.ls.th
        clear hw6 hw7 O1 O3 V4 V5 A4 A5 NE BZ B0 CX gne g4X g5X hx0 HX0 XZ
        refine wpBk_one (i := 6) rfl rfl (by kernel_rfl) (fun K hK => ?_)
        refine wp_store_mid _ (.tmp 5) (.tmp 26) rfl g4 0 xs.cells.toArray rfl rfl (by have := TH4.out; simpa [of_sz] using this) (by simpa [of_sz] using size_of) (of_one OX.out.1 OX.out.2.1 OX.out.2.2) ?_
        rw [show xs.cells.toArray.toList = xs.cells from rfl, HW6.out]
        refine hK _ _ ⟨fun _ _ => X6.out.rg, ?_⟩
        simp only [List.getElem_toArray, List.getElem_cons_zero, List.getElem_cons_succ, Act.put, List.setIfInBounds_toArray, List.set_cons_succ, List.set_cons_zero]
        refine wpBk_one (i := 7) rfl rfl (by kernel_rfl) (fun K hK => ?_)
        refine wp_store_mid _ (.tmp 6) (.tmp 28) rfl g5 0 ys.cells.toArray rfl rfl (by have := TH5.out; simpa [of_sz] using this) (by simpa [of_sz] using size_of) (of_one OY.out.1 OY.out.2.1 OY.out.2.2) ?_
        rw [show ys.cells.toArray.toList = ys.cells from rfl, HW7.out]
        refine hK _ _ ⟨fun _ _ => X7.out.rg, ?_⟩
        simp only [List.getElem_toArray, List.getElem_cons_zero, List.getElem_cons_succ, Act.put, List.setIfInBounds_toArray, List.set_cons_succ, List.set_cons_zero]
        refine ⟨by kernel_rfl, ?_⟩
        refine NoPanic.normal ?_
        clear TH4 TH5 HW6 HW7 OX OY X6 X7 T0
        have RX : Hid (∀ W, Below w7.heap.size w7 W → W.rangeAt g4 0 xs.cells ∧ W.rangeAt g5 0 ys.cells) := Lib.hid fun W hW => ⟨(C4.out.ls.below hW C4.out.ls.lt).rg, (C5.out.ls.below hW C5.out.ls.lt).rg⟩
        have LM1 : Lim L1 P1 E1 := ⟨by have := N1.out.1; omega, by have := N1.out.2.1; omega, by have := N1.out.2.2; omega⟩
        have LM3 : Lim L3 P3 E3 := ⟨by have := N3.out.1; omega, by have := N3.out.2.1; omega, by have := N3.out.2.2; omega⟩
        have J1 : Hid (∀ W, Below w7.heap.size w7 W → Obj3 W W.heap.size y L1 P1 E1) := Lib.hid fun W hW => (Q1.out.below hW).obj HK.out
        have J3 : Hid (∀ W, Below w7.heap.size w7 W → Obj3 W W.heap.size y L3 P3 E3) := Lib.hid fun W hW => (Q3.out.below hW).obj HK.out
        have GKW : Hid (∀ W, Below w7.heap.size w7 W → S3.GK W) := Lib.hid fun W hW => gk_keep HG.out (B7.out.trans (hW.mono B7.out.size)) h00
        have CE : Hid (∀ W, Below w7.heap.size w7 W → Calls Tryz.prog 8 #[ofV xs] W fun e w' => (∃ A n c, e = .returned (.tuple #[.slice A n c, .int .i64 (if okW y then 0 else 160)]) ∧ OwnB w' W.heap.size A n c (if okW y then bytesW y else [])) ∧ Below W.heap.size W w') := Lib.hid fun W hW => by rw [← HXS.out]; exact Encode_any (J1.out W hW) LM1
        have CI : Hid (∀ W, Below w7.heap.size w7 W → Calls Tryz.prog 9 #[ofV xs] W fun e w' => e = .returned (.tuple #[idV (if okW y then idW y else Idv.zero), .int .i64 (if okW y then 0 else 160)]) ∧ Below W.heap.size W w') := Lib.hid fun W hW => by rw [← HXS.out]; exact Id_any (J1.out W hW) LM1 (GKW.out W hW)
        have CL : Hid (∀ W, Below w7.heap.size w7 W → Calls Tryz.prog 10 #[ofV xs] W fun e w' => (∃ A n c, e = .returned (.slice A n c) ∧ SqI w' w'.heap.size A n c (if okW y then linksW y else []) ∧ OwnI w' W.heap.size A n c (if okW y then linksW y else [])) ∧ Below W.heap.size W w') := Lib.hid fun W hW => by rw [← HXS.out]; exact Links_any (J1.out W hW) LM1
        have CC : Hid (∀ W, Below w7.heap.size w7 W → Calls Tryz.prog 11 #[ofV xs] W fun e w' => e = .returned (.int .i64 (if okW y then 0 else 160)) ∧ Below W.heap.size W w') := Lib.hid fun W hW => by rw [← HXS.out]; exact OCheck_any (J1.out W hW) LM1
        have CS : Hid (∀ W, Below w7.heap.size w7 W → Calls Tryz.prog 12 #[ofV xs, ofV ys] W fun e w' => e = .returned (.bool true) ∧ Below W.heap.size W w') := Lib.hid fun W hW => by rw [← sameO_refl y, ← HXS.out, ← HYS.out]; exact refO_any (J1.out W hW) (J3.out W hW) (by have := N1.out.1; omega) (by have := N1.out.2.1; omega) (by have := N1.out.2.2; omega)
        have CR : Hid (∀ W, Below w7.heap.size w7 W → Calls Tryz.prog 13 #[ofV ys] W fun e w' => e = .returned (.bool (okW y)) ∧ Below W.heap.size W w') := Lib.hid fun W hW => by rw [← HYS.out]; exact right6_any (J3.out W hW) LM3 SM.out.1 SM.out.2
        have CB : Hid (∀ W, Below w7.heap.size w7 W → okW y = true → Calls Tryz.prog 15 #[ofV ys] W fun e w' => (∃ A n c, e = .returned (.slice A n c) ∧ OwnB w' W.heap.size A n c (bytesW y)) ∧ Below W.heap.size W w') := Lib.hid fun W hW hq => by rw [← HYS.out]; exact bytes6_any (J3.out W hW) (layW_of (okW_sound hq))
        have CJ : Hid (∀ W, Below w7.heap.size w7 W → okW y = true → Calls Tryz.prog 16 #[ofV ys] W fun e w' => e = .returned (idV (idW y)) ∧ Below W.heap.size W w') := Lib.hid fun W hW hq => by rw [← HYS.out]; exact id6_any (J3.out W hW) (layW_of (okW_sound hq)) (by unfold okW at hq; simp only [Bool.and_eq_true, Bool.not_eq_true', decide_eq_false_iff_not] at hq; omega)
        have CM : Hid (∀ W, Below w7.heap.size w7 W → Calls Tryz.prog 18 #[ofV ys] W fun e w' => (∃ A n c, e = .returned (.slice A n c) ∧ SqI w' w'.heap.size A n c (linksW y) ∧ OwnI w' W.heap.size A n c (linksW y)) ∧ Below W.heap.size W w') := Lib.hid fun W hW => by rw [← HYS.out]; exact Links6_any (J3.out W hW) LM3
        obtain ⟨q, hq⟩ : ∃ q, okW y = q := ⟨_, rfl⟩
        rw [hq] at CE CI CL CC CR CB CJ
        obtain ⟨ev, hev⟩ : ∃ ev : Int, (if q = true then 0 else 160) = ev := ⟨_, rfl⟩
        rw [hev] at CE CI CC
        obtain ⟨bv, hbv⟩ : ∃ b, (if q = true then bytesW y else []) = b := ⟨_, rfl⟩
        rw [hbv] at CE
        obtain ⟨iv, hiv⟩ : ∃ b, (if q = true then idW y else Idv.zero) = b := ⟨_, rfl⟩
        rw [hiv] at CI
        obtain ⟨lv, hlv⟩ : ∃ b, (if q = true then linksW y else []) = b := ⟨_, rfl⟩
        rw [hlv] at CL
        have HEV := Lib.hid hev
        have HBV := Lib.hid hbv
        have HIV := Lib.hid hiv
        have HLV := Lib.hid hlv
        clear hq hev hbv hiv hlv LM1 LM3 HXS HYS SM HK N1 N3 Q1 Q3 C4 C5
        go_wp2_with (first
          | ((with_reducible refine ldo (.tmp 5) ?_ ?_ g4 0 xs ?_ (RX.out w7 (Below.refl _ _)).1 ?_); rfl; (first | rfl | go_simp); (first | rfl | go_simp))
          | fail)
        refine (CE.out w7 (Below.refl _ _)).mono ?_
        rintro e w8 ⟨⟨A1, n1, c1, rfl, ow8⟩, hb⟩
        dsimp only
        have D8 : Hid (Below w7.heap.size w7 w8) := Lib.hid hb
        have OB := Lib.hid ow8.sl
        clear hb ow8 CE
        go_wp2_with (first
          | ((with_reducible refine ldo (.tmp 5) ?_ ?_ g4 0 xs ?_ (RX.out w8 D8.out).1 ?_); rfl; (first | rfl | go_simp); (first | rfl | go_simp))
          | fail)
        refine (CI.out w8 D8.out).mono ?_
        rintro e w9 ⟨rfl, hb⟩
        dsimp only
        have D9 : Hid (Below w7.heap.size w7 w9) := Lib.hid (D8.out.trans (hb.mono D8.out.size))
        have OB9 := Lib.hid ((OB.out.below hb).more hb.size)
        clear hb CI OB
        obtain ⟨zI, hzI⟩ : ∃ z, Idv.zero = z := ⟨_, rfl⟩
        have ZI : Hid (∀ w : World, (zeroValue 26).run Tryz.prog w = .ok (.agg zI.cells.toArray) w) := Lib.hid (by rw [← hzI]; exact zero_id)
        have ZB : Hid (Tryz.prog.built 26 [] = some zI.cells.toArray) := Lib.hid (by rw [← hzI]; exact zb_id)
        have HZI := Lib.hid hzI
        obtain ⟨G, hG⟩ : ∃ G, w9.heap.size = G := ⟨_, rfl⟩
        obtain ⟨wB, hwB⟩ : ∃ wB, w9.alloc (.cells zI.cells.toArray 26) = wB := ⟨_, rfl⟩
        obtain ⟨w10, hw10⟩ : ∃ w10, wB.setCells G 0 iv.cells = w10 := ⟨_, rfl⟩
        have YB : Hid (Lies wB G 32 zI.cells) := Lib.hid (by rw [← hwB, ← hG]; have := Lies.new w9 zI.cells 26; rwa [id_sz] at this)
        have YG : Hid (Lies w10 G 32 iv.cells) := Lib.hid (by rw [← hw10]; exact YB.out.set_ (id_sz _))
        have E10 : Hid (Below w9.heap.size w9 w10) := Lib.hid (by rw [← hw10, ← hwB]; exact below_setCells ((Below.refl w9.heap.size _).alloc (Nat.le_refl _) _) (by omega) _ _)
        have D10 : Hid (Below w7.heap.size w7 w10) := Lib.hid (D9.out.trans (E10.out.mono D9.out.size))
        have OB10 := Lib.hid ((OB9.out.below E10.out).more E10.out.size)
        have HWB := Lib.hid hwB
        have HW10 := Lib.hid hw10
        have TB := Lib.hid YB.out.th
        clear hwB hw10 YB hzI OB9 E10
        go_upto_region 10 with (first
          | ((with_reducible refine alt 26 ?_ ?_ zI.cells ZI.out ?_); rfl; rfl; rw [HWB.out]; (try simp only [Act.put, List.setIfInBounds_toArray, List.set_cons_succ, List.set_cons_zero, hG]))
          | ((with_reducible refine sti (.tmp 9) (.tmp 37) ?_ ?_ G 0 iv ?_ ?_ TB.out ?_); rfl; rfl; rfl; rfl; rw [HW10.out])
          | fail)
        clear HWB HW10 TB hG
        obtain ⟨wd, hwd⟩ : ∃ wd, w10.drew = wd := ⟨_, rfl⟩
        have DD : Hid (Below w7.heap.size w7 wd) := Lib.hid (by rw [← hwd]; exact D10.out.drew)
        have YD : Hid (Lies wd G 32 iv.cells) := Lib.hid (by rw [← hwd]; exact YG.out.below (Below.refl _ _).drew YG.out.lt)
        have OBD : Hid (S3.SlB wd wd.heap.size A1 n1 c1 bv) := Lib.hid (by rw [← hwd]; exact OB10.out.below (Below.refl _ _).drew)
        refine wp_region_noPanic (wp_region_any (by kernel_rfl) (wpAny_of_bk (S := (fun w9 => w9.rangeAt g4 0 xs.cells)) (m := 6) _ _ _ _ ?_))
        show wpBk _ _ _ _ _ _ 6 _ _ w10.drew
        rw [hwd]
        clear hwd YG OB10 D10
        refine wpBk_take (i := 0) rfl (by kernel_rfl) (fun _ _ _ _ h => h) (of_yield (.tmp 5) rfl rfl g4 xs rfl (fun w' hw' => hw')) (RX.out wd DD.out).1 ?_
        simp only [List.getElem_toArray, List.getElem_cons_zero, List.getElem_cons_succ, Act.put, List.setIfInBounds_toArray, List.set_cons_succ, List.set_cons_zero]
        refine wpBk_take (i := 2) rfl (by kernel_rfl) (fun _ _ _ _ h => h) (of_yield (.tmp 5) rfl rfl g4 xs rfl (fun w' hw' => hw')) (RX.out wd DD.out).1 ?_
        simp only [List.getElem_toArray, List.getElem_cons_zero, List.getElem_cons_succ, Act.put, List.setIfInBounds_toArray, List.set_cons_succ, List.set_cons_zero]
        refine wpBk_one (i := 1) rfl rfl (by kernel_rfl) (fun K hK => ?_)
        refine wp_fn (f := 10) (xs := #[ofV xs]) (by first | (go_simp; done) | (go_simp; rfl)) ((CL.out wd DD.out).mono ?_)
        rintro e w11 ⟨⟨A2, n2, c2, rfl, sl11, ow11⟩, hb⟩
        have D11 : Hid (Below w7.heap.size w7 w11) := Lib.hid (DD.out.trans (hb.mono DD.out.size))
        have LI11 := Lib.hid sl11
        have LO11 := Lib.hid ow11
        have Y11 := Lib.hid (YD.out.below hb YD.out.lt)
        have OB11 := Lib.hid ((OBD.out.below hb).more hb.size)
        clear hb sl11 ow11 YD OBD CL
        refine ⟨_, rfl, hK _ _ ⟨fun _ _ => (RX.out w11 D11.out).1, ?_⟩⟩
        simp only [List.getElem_toArray, List.getElem_cons_zero, List.getElem_cons_succ, Act.put, List.setIfInBounds_toArray, List.set_cons_succ, List.set_cons_zero]
        refine wpBk_one (i := 3) rfl rfl (by kernel_rfl) (fun K hK => ?_)
        refine wp_fn (f := 11) (xs := #[ofV xs]) (by first | (go_simp; done) | (go_simp; rfl)) ((CC.out w11 D11.out).mono ?_)
        rintro e w12 ⟨rfl, hb⟩
        have D12 : Hid (Below w7.heap.size w7 w12) := Lib.hid (D11.out.trans (hb.mono D11.out.size))
        have LI12 := Lib.hid ((LI11.out.below hb).more hb.size)
        have LO12 := Lib.hid (own_fresh LO11.out hb)
        have Y12 := Lib.hid (Y11.out.below hb Y11.out.lt)
        have OB12 := Lib.hid ((OB11.out.below hb).more hb.size)
        clear hb LI11 LO11 Y11 OB11 CC D11
        refine ⟨_, rfl, hK _ _ ⟨fun _ _ => (RX.out w12 D12.out).1, ?_⟩⟩
        simp only [List.getElem_toArray, List.getElem_cons_zero, List.getElem_cons_succ, Act.put, List.setIfInBounds_toArray, List.set_cons_succ, List.set_cons_zero]
        refine wpBk_takeP (i := 4) rfl (by kernel_rfl) (fun _ _ _ _ h => h) (.inl ⟨rfl, fun w' hw' => (by clear hw'; go_simp; (try rfl))⟩) ?_
        simp only [List.getElem_toArray, List.getElem_cons_zero, List.getElem_cons_succ, Act.put, List.setIfInBounds_toArray, List.set_cons_succ, List.set_cons_zero]
        refine wpBk_takeP (i := 5) rfl (by kernel_rfl) (fun _ _ _ _ h => h) (.inl ⟨rfl, fun w' hw' => (by clear hw'; go_simp; (try rfl))⟩) ?_
        simp only [List.getElem_toArray, List.getElem_cons_zero, List.getElem_cons_succ, Act.put, List.setIfInBounds_toArray, List.set_cons_succ, List.set_cons_zero]
        refine ⟨by kernel_rfl, ?_⟩
        refine NoPanic.normal ?_
        go_wp2_with (first
          | ((with_reducible refine ldo (.tmp 5) ?_ ?_ g4 0 xs ?_ (RX.out w12 D12.out).1 ?_); rfl; (first | rfl | go_simp); (first | rfl | go_simp))
          | ((with_reducible refine ldo (.tmp 6) ?_ ?_ g5 0 ys ?_ (RX.out w12 D12.out).2 ?_); rfl; (first | rfl | go_simp); (first | rfl | go_simp))
          | fail)
        refine (CS.out w12 D12.out).mono ?_
        rintro e w13 ⟨rfl, hb⟩
        dsimp only
        have D13 : Hid (Below w7.heap.size w7 w13) := Lib.hid (D12.out.trans (hb.mono D12.out.size))
        have LI13 := Lib.hid ((LI12.out.below hb).more hb.size)
        have LO13 := Lib.hid (own_fresh LO12.out hb)
        have Y13 := Lib.hid (Y12.out.below hb Y12.out.lt)
        have OB13 := Lib.hid ((OB12.out.below hb).more hb.size)
        clear hb LI12 LO12 Y12 OB12 D12
        go_wp2_with (first
          | ((with_reducible refine ldo (.tmp 5) ?_ ?_ g4 0 xs ?_ (RX.out w13 D13.out).1 ?_); rfl; (first | rfl | go_simp); (first | rfl | go_simp))
          | ((with_reducible refine ldo (.tmp 6) ?_ ?_ g5 0 ys ?_ (RX.out w13 D13.out).2 ?_); rfl; (first | rfl | go_simp); (first | rfl | go_simp))
          | fail)
        refine (CR.out w13 D13.out).mono ?_
        rintro e w14 ⟨rfl, hb⟩
        dsimp only
        have D14 : Hid (Below w7.heap.size w7 w14) := Lib.hid (D13.out.trans (hb.mono D13.out.size))
        have LI14 := Lib.hid ((LI13.out.below hb).more hb.size)
        have LO14 := Lib.hid (own_fresh LO13.out hb)
        have Y14 := Lib.hid (Y13.out.below hb Y13.out.lt)
        have OB14 := Lib.hid ((OB13.out.below hb).more hb.size)
        have W14 : Hid (Below w.heap.size w w14) := Lib.hid (B7.out.trans (D14.out.mono B7.out.size))
        clear hb LI13 LO13 Y13 OB13 D13 CR
        cases q
        · have e1 := HEV.out
          have e2 := HBV.out
          have e3 := HIV.out
          have e4 := HLV.out
          rw [if_neg (by decide)] at e1 e2 e3 e4
          subst e1 e2 e3 e4
          obtain rfl : 0 = n1 := OB14.out.len
          obtain rfl : 0 = n2 := LI14.out.len
          have E2 : ∀ w, (binOp .neq 26 (idV Idv.zero) (.agg zI.cells.toArray)).run Tryz.prog w = .ok (.bool false) w := fun w => by have h9 := neq_id Idv.zero zI w; rw [HZI.out, beq_self_eq_true] at h9; rw [HZI.out]; exact h9
          rw [HZI.out] at Y14 E2
          clear HEV HBV HIV HLV LI14 LO14 OB14 CB CJ CM CS
          go_wp2_with (first
            | ((with_reducible refine ldi (.tmp 9) ?_ ?_ G 0 zI ?_ Y14.out.rg ?_); rfl; (first | rfl | go_simp); (first | rfl | go_simp))
            | ((with_reducible refine bdt 26 [] ?_ ?_ zI.cells.toArray ?_ ?_); rfl; (first | rfl | go_simp); exact ZB.out)
            | fail)
          go_roundw
          case rel => exact ⟨k + 1, by omega, by go_num, W14⟩
          case measure => simp [intOf]; omega
        have e1 := HEV.out
        have e2 := HBV.out
        have e3 := HIV.out
        have e4 := HLV.out
        rw [if_pos rfl] at e1 e2 e3 e4
        subst e1 e2 e3 e4
        clear HEV HBV HIV HLV ZB
        obtain ⟨iv, hiv⟩ : ∃ i, idW y = i := ⟨_, rfl⟩
        rw [hiv] at Y14 CJ
        obtain ⟨ly, hly⟩ : ∃ i, linksW y = i := ⟨_, rfl⟩
        rw [hly] at LI14 LO14 CM HNL
        obtain ⟨bv, hbv⟩ : ∃ i, bytesW y = i := ⟨_, rfl⟩
        rw [hbv] at OB14 CB
        rw [hiv]
        clear hiv hly hbv
        have hn2 : n2 ≤ 100 := by have := LI14.out.len; have := HNL.out; omega
        have E2 : ∀ w, (Op.equalIn 10000 26 (.agg iv.cells.toArray) (.agg (S3.bvs iv.b).toArray)).run Tryz.prog w = .ok true w := fun w => by have h9 := eq_id iv iv w; rw [beq_self_eq_true] at h9; exact h9
        go_upto_region 16 with fail
        obtain ⟨we, hwe⟩ : ∃ we, w14.drew = we := ⟨_, rfl⟩
        have DE : Hid (Below w7.heap.size w7 we) := Lib.hid (by rw [← hwe]; exact D14.out.drew)
        have YE : Hid (Lies we G 32 iv.cells) := Lib.hid (by rw [← hwe]; exact Y14.out.below (Below.refl _ _).drew Y14.out.lt)
        have LIE : Hid (SqI we we.heap.size A2 n2 c2 ly) := Lib.hid (by rw [← hwe]; exact LI14.out.below (Below.refl _ _).drew)
        have LOE : Hid (OwnI we wd.heap.size A2 n2 c2 ly) := Lib.hid (by rw [← hwe]; exact own_fresh LO14.out (Below.refl _ _).drew)
        have OBE : Hid (S3.SlB we we.heap.size A1 n1 c1 bv) := Lib.hid (by rw [← hwe]; exact OB14.out.below (Below.refl _ _).drew)
        refine wp_region_noPanic (wp_region_any (by kernel_rfl) (wpAny_of_bk (S := (fun w9 => w9.rangeAt g5 0 ys.cells ∧ w9.rangeAt G 0 iv.cells)) (m := 30) _ _ _ _ ?_))
        show wpBk _ _ _ _ _ _ 30 _ _ w14.drew
        rw [hwe]
        clear hwe Y14 LI14 LO14 OB14 W14
        refine wpBk_takeP (i := 0) rfl (by kernel_rfl) (fun _ _ _ _ h => h) (.inl ⟨rfl, fun w' hw' => (by clear hw'; go_simp; (try rfl))⟩) ?_
        simp only [List.getElem_toArray, List.getElem_cons_zero, List.getElem_cons_succ, Act.put, List.setIfInBounds_toArray, List.set_cons_succ, List.set_cons_zero]
        refine wpBk_takeP (i := 1) rfl (by kernel_rfl) (fun _ _ _ _ h => h) (.inl ⟨rfl, fun w' hw' => (by clear hw'; go_simp; (try rfl))⟩) ?_
        simp only [List.getElem_toArray, List.getElem_cons_zero, List.getElem_cons_succ, Act.put, List.setIfInBounds_toArray, List.set_cons_succ, List.set_cons_zero]
        refine wpBk_takeP (i := 2) rfl (by kernel_rfl) (fun _ _ _ _ h => h) (.inl ⟨rfl, fun w' hw' => (by clear hw'; go_simp; (try rfl))⟩) ?_
        simp only [List.getElem_toArray, List.getElem_cons_zero, List.getElem_cons_succ, Act.put, List.setIfInBounds_toArray, List.set_cons_succ, List.set_cons_zero]
        refine wpBk_takeP (i := 3) rfl (by kernel_rfl) (fun _ _ _ _ h => h) (.inl ⟨rfl, fun w' hw' => (by clear hw'; go_simp; (try rfl))⟩) ?_
        simp only [List.getElem_toArray, List.getElem_cons_zero, List.getElem_cons_succ, Act.put, List.setIfInBounds_toArray, List.set_cons_succ, List.set_cons_zero]
        refine wpBk_takeP (i := 4) rfl (by kernel_rfl) (fun _ _ _ _ h => h) (.inl ⟨rfl, fun w' hw' => (by clear hw'; go_simp; (try rfl))⟩) ?_
        simp only [List.getElem_toArray, List.getElem_cons_zero, List.getElem_cons_succ, Act.put, List.setIfInBounds_toArray, List.set_cons_succ, List.set_cons_zero]
        refine wpBk_takeP (i := 5) rfl (by kernel_rfl) (fun _ _ _ _ h => h) (.inl ⟨rfl, fun w' hw' => (by clear hw'; go_simp; (try rfl))⟩) ?_
        simp only [List.getElem_toArray, List.getElem_cons_zero, List.getElem_cons_succ, Act.put, List.setIfInBounds_toArray, List.set_cons_succ, List.set_cons_zero]
        refine wpBk_takeP (i := 6) rfl (by kernel_rfl) (fun _ _ _ _ h => h) (.inl ⟨rfl, fun w' hw' => (by clear hw'; go_simp; (try rfl))⟩) ?_
        simp only [List.getElem_toArray, List.getElem_cons_zero, List.getElem_cons_succ, Act.put, List.setIfInBounds_toArray, List.set_cons_succ, List.set_cons_zero]
        refine wpBk_takeP (i := 7) rfl (by kernel_rfl) (fun _ _ _ _ h => h) (.inl ⟨rfl, fun w' hw' => (by clear hw'; go_simp; (try rfl))⟩) ?_
        simp only [List.getElem_toArray, List.getElem_cons_zero, List.getElem_cons_succ, Act.put, List.setIfInBounds_toArray, List.set_cons_succ, List.set_cons_zero]
        refine wpBk_takeP (i := 8) rfl (by kernel_rfl) (fun _ _ _ _ h => h) (.inl ⟨rfl, fun w' hw' => (by clear hw'; go_simp; (try rfl))⟩) ?_
        simp only [List.getElem_toArray, List.getElem_cons_zero, List.getElem_cons_succ, Act.put, List.setIfInBounds_toArray, List.set_cons_succ, List.set_cons_zero]
        refine wpBk_takeP (i := 9) rfl (by kernel_rfl) (fun _ _ _ _ h => h) (.inl ⟨rfl, fun w' hw' => (by clear hw'; go_simp; (try rfl))⟩) ?_
        simp only [List.getElem_toArray, List.getElem_cons_zero, List.getElem_cons_succ, Act.put, List.setIfInBounds_toArray, List.set_cons_succ, List.set_cons_zero]
        refine wpBk_takeP (i := 10) rfl (by kernel_rfl) (fun _ _ _ _ h => h) (.inl ⟨rfl, fun w' hw' => (by clear hw'; go_simp; (try rfl))⟩) ?_
        simp only [List.getElem_toArray, List.getElem_cons_zero, List.getElem_cons_succ, Act.put, List.setIfInBounds_toArray, List.set_cons_succ, List.set_cons_zero]
        refine wpBk_takeP (i := 11) rfl (by kernel_rfl) (fun _ _ _ _ h => h) (.inl ⟨rfl, fun w' hw' => (by clear hw'; go_simp; (try rfl))⟩) ?_
        simp only [List.getElem_toArray, List.getElem_cons_zero, List.getElem_cons_succ, Act.put, List.setIfInBounds_toArray, List.set_cons_succ, List.set_cons_zero]
        refine wpBk_take (i := 12) rfl (by kernel_rfl) (fun _ _ _ _ h => h) (of_yield (.tmp 6) rfl rfl g5 ys rfl (fun w' hw' => hw'.1)) ⟨(RX.out we DE.out).2, YE.out.rg⟩ ?_
        simp only [List.getElem_toArray, List.getElem_cons_zero, List.getElem_cons_succ, Act.put, List.setIfInBounds_toArray, List.set_cons_succ, List.set_cons_zero]
        refine wpBk_one (i := 13) rfl rfl (by kernel_rfl) (fun K hK => ?_)
        refine wp_fn (f := 15) (xs := #[ofV ys]) (by first | (go_simp; done) | (go_simp; rfl)) ((CB.out we DE.out rfl).mono ?_)
        rintro e wf ⟨⟨A3, n3, c3, rfl, ow3⟩, hb⟩
        have DF : Hid (Below w7.heap.size w7 wf) := Lib.hid (DE.out.trans (hb.mono DE.out.size))
        have LIF := Lib.hid ((LIE.out.below hb).more hb.size)
        have LOF := Lib.hid (own_fresh LOE.out hb)
        have YF := Lib.hid (YE.out.below hb YE.out.lt)
        have OBF := Lib.hid ((OBE.out.below hb).more hb.size)
        have OB3 := Lib.hid ow3.sl
        clear hb LIE LOE YE OBE DE ow3 CB
        refine ⟨_, rfl, hK _ _ ⟨fun _ _ => ⟨(RX.out wf DF.out).2, YF.out.rg⟩, ?_⟩⟩
        simp only [List.getElem_toArray, List.getElem_cons_zero, List.getElem_cons_succ, Act.put, List.setIfInBounds_toArray, List.set_cons_succ, List.set_cons_zero]
        refine wpBk_one (i := 14) rfl rfl (by kernel_rfl) (fun K hK => ?_)
        refine wp_fn (f := 14) (xs := #[.slice A1 n1 c1, .slice A3 n3 c3]) (by first | (go_simp; done) | (go_simp; rfl)) ((S3.bytesEqual_is OBF.out OB3.out true (by simp)).mono ?_)
        rintro e _ ⟨rfl, rfl⟩
        refine ⟨_, rfl, hK _ _ ⟨fun h9 _ => h9, ?_⟩⟩
        simp only [List.getElem_toArray, List.getElem_cons_zero, List.getElem_cons_succ, Act.put, List.setIfInBounds_toArray, List.set_cons_succ, List.set_cons_zero]
        refine wpBk_takeP (i := 15) rfl (by kernel_rfl) (fun _ _ _ _ h => h) (.inl ⟨rfl, fun w' hw' => (by clear hw'; go_simp; (try rfl))⟩) ?_
        simp only [List.getElem_toArray, List.getElem_cons_zero, List.getElem_cons_succ, Act.put, List.setIfInBounds_toArray, List.set_cons_succ, List.set_cons_zero]
        refine wpBk_takeP (i := 16) rfl (by kernel_rfl) (fun _ _ _ _ h => h) (.inl ⟨rfl, fun w' hw' => (by clear hw'; go_simp; (try rfl))⟩) ?_
        simp only [List.getElem_toArray, List.getElem_cons_zero, List.getElem_cons_succ, Act.put, List.setIfInBounds_toArray, List.set_cons_succ, List.set_cons_zero]
        refine wpBk_takeP (i := 17) rfl (by kernel_rfl) (fun _ _ _ _ h => h) (.inl ⟨rfl, fun w' hw' => (by clear hw'; go_simp; (try rfl))⟩) ?_
        simp only [List.getElem_toArray, List.getElem_cons_zero, List.getElem_cons_succ, Act.put, List.setIfInBounds_toArray, List.set_cons_succ, List.set_cons_zero]
        refine wpBk_take (i := 18) rfl (by kernel_rfl) (fun _ _ _ _ h => h) (yieldsIf_load_mid rfl 26 (.tmp 9) rfl G 0 rfl iv.cells _ (fun w' hw' => hw'.2) Tryz.underlying26 rfl (by rw [id_sz]; exact size_idv)) ⟨(RX.out wf DF.out).2, YF.out.rg⟩ ?_
        simp only [List.getElem_toArray, List.getElem_cons_zero, List.getElem_cons_succ, Act.put, List.setIfInBounds_toArray, List.set_cons_succ, List.set_cons_zero]
        refine wpBk_take (i := 19) rfl (by kernel_rfl) (fun _ _ _ _ h => h) (of_yield (.tmp 6) rfl rfl g5 ys rfl (fun w' hw' => hw'.1)) ⟨(RX.out wf DF.out).2, YF.out.rg⟩ ?_
        simp only [List.getElem_toArray, List.getElem_cons_zero, List.getElem_cons_succ, Act.put, List.setIfInBounds_toArray, List.set_cons_succ, List.set_cons_zero]
        refine wpBk_one (i := 20) rfl rfl (by kernel_rfl) (fun K hK => ?_)
        refine wp_fn (f := 16) (xs := #[ofV ys]) (by first | (go_simp; done) | (go_simp; rfl)) ((CJ.out wf DF.out rfl).mono ?_)
        rintro e wg ⟨rfl, hb⟩
        have DG : Hid (Below w7.heap.size w7 wg) := Lib.hid (DF.out.trans (hb.mono DF.out.size))
        have LIG := Lib.hid ((LIF.out.below hb).more hb.size)
        have LOG := Lib.hid (own_fresh LOF.out hb)
        have YG2 := Lib.hid (YF.out.below hb YF.out.lt)
        clear hb LIF LOF YF OBF OB3 DF CJ
        refine ⟨_, rfl, hK _ _ ⟨fun _ _ => ⟨(RX.out wg DG.out).2, YG2.out.rg⟩, ?_⟩⟩
        simp only [List.getElem_toArray, List.getElem_cons_zero, List.getElem_cons_succ, Act.put, List.setIfInBounds_toArray, List.set_cons_succ, List.set_cons_zero]
        refine wpBk_takeP (i := 21) rfl (by kernel_rfl) (fun _ _ _ _ h => h) (.inl ⟨rfl, fun w' hw' => (by clear hw'; have e9 := E2 w'; go_simp; (try rfl))⟩) ?_
        simp only [List.getElem_toArray, List.getElem_cons_zero, List.getElem_cons_succ, Act.put, List.setIfInBounds_toArray, List.set_cons_succ, List.set_cons_zero]
        refine wpBk_takeP (i := 22) rfl (by kernel_rfl) (fun _ _ _ _ h => h) (.inl ⟨rfl, fun w' hw' => (by clear hw'; go_simp; (try rfl))⟩) ?_
        simp only [List.getElem_toArray, List.getElem_cons_zero, List.getElem_cons_succ, Act.put, List.setIfInBounds_toArray, List.set_cons_succ, List.set_cons_zero]
        refine wpBk_takeP (i := 23) rfl (by kernel_rfl) (fun _ _ _ _ h => h) (.inl ⟨rfl, fun w' hw' => (by clear hw'; go_simp; (try rfl))⟩) ?_
        simp only [List.getElem_toArray, List.getElem_cons_zero, List.getElem_cons_succ, Act.put, List.setIfInBounds_toArray, List.set_cons_succ, List.set_cons_zero]
        refine wpBk_takeP (i := 24) rfl (by kernel_rfl) (fun _ _ _ _ h => h) (.inl ⟨rfl, fun w' hw' => (by clear hw'; go_simp; (try rfl))⟩) ?_
        simp only [List.getElem_toArray, List.getElem_cons_zero, List.getElem_cons_succ, Act.put, List.setIfInBounds_toArray, List.set_cons_succ, List.set_cons_zero]
        refine wpBk_take (i := 25) rfl (by kernel_rfl) (fun _ _ _ _ h => h) (of_yield (.tmp 6) rfl rfl g5 ys rfl (fun w' hw' => hw'.1)) ⟨(RX.out wg DG.out).2, YG2.out.rg⟩ ?_
        simp only [List.getElem_toArray, List.getElem_cons_zero, List.getElem_cons_succ, Act.put, List.setIfInBounds_toArray, List.set_cons_succ, List.set_cons_zero]
        refine wpBk_one (i := 26) rfl rfl (by kernel_rfl) (fun K hK => ?_)
        refine wp_fn (f := 18) (xs := #[ofV ys]) (by first | (go_simp; done) | (go_simp; rfl)) ((CM.out wg DG.out).mono ?_)
        rintro e wh ⟨⟨A4, n4, c4, rfl, sl4, -⟩, hb⟩
        have DH : Hid (Below w7.heap.size w7 wh) := Lib.hid (DG.out.trans (hb.mono DG.out.size))
        have LIH := Lib.hid ((LIG.out.below hb).more hb.size)
        have LOH := Lib.hid (own_fresh LOG.out hb)
        have YH := Lib.hid (YG2.out.below hb YG2.out.lt)
        have L4 := Lib.hid sl4
        clear hb LIG LOG YG2 DG CM sl4
        refine ⟨_, rfl, hK _ _ ⟨fun _ _ => ⟨(RX.out wh DH.out).2, YH.out.rg⟩, ?_⟩⟩
        simp only [List.getElem_toArray, List.getElem_cons_zero, List.getElem_cons_succ, Act.put, List.setIfInBounds_toArray, List.set_cons_succ, List.set_cons_zero]
        have CQ : Hid (Calls Tryz.prog 17 #[.slice A2 n2 c2, .slice A4 n4 c4] wh fun e w' => e = .returned (.bool true) ∧ Below wh.heap.size wh w') := Lib.hid (by rw [← sameI_refl ly]; exact same6I_any LIH.out L4.out (by omega))
        refine wpBk_one (i := 27) rfl rfl (by kernel_rfl) (fun K hK => ?_)
        refine wp_fn (f := 17) (xs := #[.slice A2 n2 c2, .slice A4 n4 c4]) (by first | (go_simp; done) | (go_simp; rfl)) ((CQ.out).mono ?_)
        rintro e wi ⟨rfl, hb⟩
        have DI : Hid (Below w7.heap.size w7 wi) := Lib.hid (DH.out.trans (hb.mono DH.out.size))
        have LOI := Lib.hid (own_fresh LOH.out hb)
        have YI := Lib.hid (YH.out.below hb YH.out.lt)
        clear hb LIH LOH YH DH L4 CQ
        refine ⟨_, rfl, hK _ _ ⟨fun _ _ => ⟨(RX.out wi DI.out).2, YI.out.rg⟩, ?_⟩⟩
        simp only [List.getElem_toArray, List.getElem_cons_zero, List.getElem_cons_succ, Act.put, List.setIfInBounds_toArray, List.set_cons_succ, List.set_cons_zero]
        refine wpBk_takeP (i := 28) rfl (by kernel_rfl) (fun _ _ _ _ h => h) (.inl ⟨rfl, fun w' hw' => (by clear hw'; go_simp; (try rfl))⟩) ?_
        simp only [List.getElem_toArray, List.getElem_cons_zero, List.getElem_cons_succ, Act.put, List.setIfInBounds_toArray, List.set_cons_succ, List.set_cons_zero]
        refine wpBk_takeP (i := 29) rfl (by kernel_rfl) (fun _ _ _ _ h => h) (.inl ⟨rfl, fun w' hw' => (by clear hw'; go_simp; (try rfl))⟩) ?_
        simp only [List.getElem_toArray, List.getElem_cons_zero, List.getElem_cons_succ, Act.put, List.setIfInBounds_toArray, List.set_cons_succ, List.set_cons_zero]
        refine ⟨by kernel_rfl, ?_⟩
        refine NoPanic.normal ?_
        clear YI E2
        have WI : Hid (Below wd.heap.size w7 w7 ∧ w7.heap.size ≤ wd.heap.size) := Lib.hid ⟨Below.refl _ _, DD.out.size⟩
        go_upto_region 18 with fail
        go_wp2_with fail
        have FIN : Hid (∀ W, Below w7.heap.size w7 W → Below w.heap.size w W) := Lib.hid fun W hW => B7.out.trans (hW.mono B7.out.size)
        have hn20 : (0 : Int) ≤ (n2 : Int) := Int.natCast_nonneg _
        clear hd hk0 hk1 d12
        go_loopw [107] (fun i wr => ∃ j : Nat, j ≤ n2 ∧ i = .int .i64 (j : Int) ∧ Hid (Below w7.heap.size w7 wr ∧ (0 < n2 → ∃ g K cur, A2 = some ⟨g, 0, none⟩ ∧ w7.heap.size ≤ g ∧ n2 * 32 ≤ K ∧ Lies wr g K cur))) (fun i _ => n2 - (intOf i).toNat)
        case atStart => exact ⟨0, Nat.zero_le _, rfl, Lib.hid ⟨DI.out, fun h9 => by obtain ⟨g, K, cur, e1, e2, e3, e4⟩ := own_lies LOI.out h9; exact ⟨g, K, cur, e1, Nat.le_trans WI.out.2 e2, e3, e4⟩⟩⟩
        case round =>
          obtain ⟨j, hj, rfl, hlo⟩ := hrel
          by_cases hlt2 : j < n2
          · have hd : decide ((j : Int) < (n2 : Int)) = true := by simp; omega
            have hj0 : (0 : Int) ≤ (j : Int) := Int.natCast_nonneg _
            have hj1 : (j : Int) < (n2 : Int) := by omega
            obtain ⟨g, Kz, cur, rfl, hgb, hKz, hls⟩ := hlo.out.2 (by omega)
            have TH : Hid (wr.there g (0 + j * 32) 32) := Lib.hid (hls.part_there _ _ (by omega))
            obtain ⟨ws, hws⟩ : ∃ ws, wr.setCells g (0 + j * 32) zI.cells = ws := ⟨_, rfl⟩
            have DS : Hid (Below w7.heap.size w7 ws) := Lib.hid (by rw [← hws]; exact below_setCells hlo.out.1 hgb _ _)
            have LS : Hid (∃ cur, Lies ws g Kz cur) := Lib.hid ⟨_, by rw [← hws]; exact hls.mid _ _ (by rw [id_sz]; omega)⟩
            have HWS := Lib.hid hws
            have HGB := Lib.hid hgb
            have HKZ := Lib.hid hKz
            have ZB : Hid (Tryz.prog.built 26 [] = some zI.cells.toArray) := Lib.hid (by rw [← HZI.out]; exact zb_id)
            clear hws hgb hKz hls hlo
            go_wp2_with (first
              | ((with_reducible refine bdt 26 [] ?_ ?_ zI.cells.toArray ?_ ?_); rfl; (first | rfl | go_simp); exact ZB.out)
              | ((with_reducible refine sti (.tmp 113) (.tmp 112) ?_ ?_ g (0 + j * 32) zI ?_ ?_ TH.out ?_); rfl; rfl; (first | rfl | go_simp); (first | rfl | go_simp); rw [HWS.out])
              | fail)
            go_roundw
            case rel => exact ⟨j + 1, by omega, by go_num, Lib.hid ⟨DS.out, fun _ => by obtain ⟨cur2, h9⟩ := LS.out; exact ⟨g, Kz, cur2, rfl, HGB.out, HKZ.out, h9⟩⟩⟩
            case measure => simp [intOf]; omega
          · have hd : decide ((j : Int) < (n2 : Int)) = false := by simp; omega
            obtain ⟨wo, hwo⟩ : ∃ wo : World, wo = wr := ⟨_, rfl⟩
            have DO : Hid (Below w7.heap.size w7 wo) := Lib.hid (by rw [hwo]; exact hlo.out.1)
            rw [← hwo]
            clear hwo hlo
            go_wp2_with (first
              | ((with_reducible refine ldo (.tmp 5) ?_ ?_ g4 0 xs ?_ (RX.out wo DO.out).1 ?_); rfl; (first | rfl | go_simp); (first | rfl | go_simp))
              | ((with_reducible refine ldo (.tmp 6) ?_ ?_ g5 0 ys ?_ (RX.out wo DO.out).2 ?_); rfl; (first | rfl | go_simp); (first | rfl | go_simp))
              | fail)
            refine (CS.out wo DO.out).mono ?_
            rintro e wq ⟨rfl, hb⟩
            dsimp only
            have WQ := Lib.hid (FIN.out wq (DO.out.trans (hb.mono DO.out.size)))
            clear hb hd
            go_wp2_with fail
            go_roundw
            case rel => exact ⟨k + 1, by omega, by go_num, WQ⟩
            case measure => simp [intOf]; omega
      exact ⟨none, none, none, none, rfl, (fun h9 => by cases h9), by kernel_rfl, by kernel_rfl, ⟨Below.refl _ _, T0.out, (fun q e => by cases e), (fun q e => by cases e), (fun q e => by cases e), (fun q e => by cases e), (fun q q' e => by cases e)⟩⟩

    · have hd : decide ((k : Int) < (n : Int)) = false := by simp; omega
      obtain ⟨wo, hwo⟩ : ∃ wo : World, wo = wr := ⟨_, rfl⟩
      have DO : Hid (Below w.heap.size w wo) := Lib.hid (by rw [hwo]; exact hlo.out)
      rw [← hwo]
      clear hwo hlo
      go_wp2_with fail
      go_ret
      exact ⟨rfl, DO.out⟩
end Go.Proofs.YtnkhoghdfncgpaaGreatDoor
