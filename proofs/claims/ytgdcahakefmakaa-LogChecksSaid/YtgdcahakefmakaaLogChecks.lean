/-
  PROVED HERE: LogChecks: which logs may be, and which are the same.
-/
import Derived.Test.YtgdcahakefmakaaTw
import Derived.Test.YtgdcahakefmakaaAh
import Derived.Test.YtgdcahakefmakaaHa
import Derived.Test.YtgdcahakefmakaaHb
import Derived.Test.YtgdcahakefmakaaHc
import Derived.Test.YtgdcahakefmakaaRows
import Derived.ProofKit
import Derived.OpenShut
import Derived.ChangeOld
import Derived.Carry
namespace Go.Proofs.Ytgdcahakefmakaa.logChecks
open Go.ChangeShapes Go.WideShapes Go.ChangeAt Go.RowKit Go.Deep Go.Shelf
set_option linter.unusedSimpArgs false
attribute [local irreducible] wpQuiet
set_option linter.unusedVariables false

set_option maxRecDepth 100000 in
set_option maxHeartbeats 20000000 in
theorem walk {w : World} {A : Option Addr} {n c : Nat} {L : List Lv} (hs : SqLv w w.heap.size A n c L) (top : Nat) (htop : top < 18446744073709551616) :
    Calls Try.prog 6 #[.slice A n c, .int .u64 (top : Int)] w fun e w' => e = .returned (.bool true) ∧ Below w.heap.size w w' := by
  have HS := Lib.hid hs
  have hlen : L.length = n := hs.s.len
  have hn63 : (n : Int) ≤ 9223372036854775807 := by have h1 := hs.s.cap; have h2 := hs.s.max; unfold maxLen at h2; omega
  have HN63 := Lib.hid hn63
  have HLEN := Lib.hid hlen
  clear hs
  go_enter Try.func6, Try.ntmps6
  go_upto_region 4 with (first
    | (go_at_call 10; go_loud (refine (wakes_any _).mono ?_); go_loud (rintro e w1 ⟨rfl, hb1⟩); go_loud (have HB1 := Lib.hid hb1); go_loud (clear hb1))
    | fail)
  clear hn63 hlen
  go_loopw [14] (fun v wr => ∃ k : Nat, k ≤ n ∧ v = .int .i64 (k : Int) ∧ Hid (Below w.heap.size w wr)) (fun v _ => n - (intOf v).toNat)
  case atStart => exact ⟨0, Nat.zero_le _, rfl, HB1⟩
  case round =>
    obtain ⟨k, hk, rfl, hb⟩ := hrel
    have hk0 : (0 : Int) ≤ (k : Int) := Int.natCast_nonneg _
    by_cases hlt : k < n
    · have hd : decide ((k : Int) < (n : Int)) = true := by simp; omega
      have hk1 : (k : Int) < (n : Int) := by omega
      have h0n : 0 < n := by omega
      have hkw : wrap64 ((k : Int) + 1) = (k : Int) + 1 := by have := HN63.out; unfold wrap64; omega
      have T := HS.out.next (Nat.le_refl _) hb.out
      obtain ⟨b, o, hA, hbl, hrg⟩ := T.s.at_ hlt
      obtain ⟨b', o', hA', hbl', hrg'⟩ := T.s.at_ (i := 0) (by omega)
      rw [hA] at hA'
      injection hA' with hA'
      injection hA' with hA1 hA2
      subst hA1 hA2
      subst hA
      obtain ⟨x, hx⟩ : ∃ x, L[k]'(by rw [HLEN.out]; exact hlt) = x := ⟨_, rfl⟩
      obtain ⟨y, hy⟩ : ∃ y, L[0]'(by rw [HLEN.out]; omega) = y := ⟨_, rfl⟩
      have HXI := Lib.hid (show LvIn wr wr.heap.size x by rw [← hx]; exact T.e _ (List.getElem_mem _))
      have HYI := Lib.hid (show LvIn wr wr.heap.size y by rw [← hy]; exact T.e _ (List.getElem_mem _))
      rw [hx] at hrg
      rw [hy] at hrg'
      have r0 : wr.cell? ⟨b, o + k * 3, none⟩ = some (.int .u64 (x.i : Int)) := by have := hrg 0 _ rfl; simpa using this
      have r1 : wr.cell? ⟨b, o + k * 3 + 1, none⟩ = some (.int .u64 (x.t : Int)) := by have := hrg 1 _ rfl; simpa using this
      have r2 : wr.cell? ⟨b, o + k * 3 + 2, none⟩ = some (.slice x.A x.n x.c) := by have := hrg 2 _ rfl; simpa using this
      have HY3 := Lib.hid (show wr.cell? ⟨b, o, none⟩ = some (.int .u64 (y.i : Int)) ∧ wr.cell? ⟨b, o + 1, none⟩ = some (.int .u64 (y.t : Int)) ∧ wr.cell? ⟨b, o + 2, none⟩ = some (.slice y.A y.n y.c) from
        ⟨by have := hrg' 0 _ rfl; simpa using this, by have := hrg' 1 _ rfl; simpa using this, by have := hrg' 2 _ rfl; simpa using this⟩)
      have HBL := Lib.hid hbl
      clear T hrg hrg' hx hy hbl hbl'
      by_cases h12 : k = 12
      · have d12 : ((k : Int) == 12) = true := by simp; omega
        clear h12
        go_wp2_with fail
        go_ret
        exact ⟨rfl, (hb.out.trans ((Below.refl wr.heap.size wr).alloc (Nat.le_refl _) _ |>.mono hb.out.size))⟩
      have d12 : ((k : Int) == 12) = false := by simp; omega
      clear h12
      go_upto_region 7 with fail
      obtain ⟨w2, hw2⟩ : ∃ w2, wr.alloc (.cells #[.int .u64 (x.i : Int), .int .u64 (x.t : Int), .slice x.A x.n x.c] 27) = w2 := ⟨_, rfl⟩
      have bl2 : Bl w2 wr.heap.size 27 (lgC x.i x.t x.A x.n x.c) := by rw [← hw2]; exact Bl.new wr 27 (lgC x.i x.t x.A x.n x.c)
      have br2 : Below wr.heap.size wr w2 := by rw [← hw2]; exact (Below.refl _ _).alloc (Nat.le_refl _) _
      have BR2 := Lib.hid br2
      have HB2 := Lib.hid (show Below w.heap.size w w2 from hb.out.trans (br2.mono hb.out.size))
      have KS := Lib.hid (fun (W : World) (hw : Below w2.heap.size w2 W) => (show W.cell? ⟨wr.heap.size, 0, none⟩ = some (.int .u64 (x.i : Int)) ∧ W.cell? ⟨wr.heap.size, 1, none⟩ = some (.int .u64 (x.t : Int)) ∧ W.cell? ⟨wr.heap.size, 2, none⟩ = some (.slice x.A x.n x.c) ∧ W.cell? ⟨b, o, none⟩ = some (.int .u64 (y.i : Int)) ∧ W.cell? ⟨b, o + 1, none⟩ = some (.int .u64 (y.t : Int)) ∧ W.cell? ⟨b, o + 2, none⟩ = some (.slice y.A y.n y.c) from by
        have h1 := lg_cells (bl2.below hw bl2.lt)
        have h2 : ∀ j u, wr.cell? ⟨b, j, none⟩ = some u → W.cell? ⟨b, j, none⟩ = some u := fun j u h => (World.cell?_of_block ((br2.trans (hw.mono br2.size)).block b HBL.out)).trans h
        exact ⟨h1.1, h1.2.1, h1.2.2, h2 _ _ HY3.out.1, h2 _ _ HY3.out.2.1, h2 _ _ HY3.out.2.2⟩))
      have CX0 := Lib.hid (fun (W : World) (hw : Below w2.heap.size w2 W) => (show Calls Try.prog 11 #[.agg #[.int .u64 (x.i : Int), .int .u64 (x.t : Int), .slice x.A x.n x.c]] W _ from short_any (w := W) (HXI.out.s.next (Nat.le_refl _) (br2.trans (hw.mono br2.size))) x.i x.t))
      have CY0 := Lib.hid (fun (W : World) (hw : Below w2.heap.size w2 W) => (show Calls Try.prog 11 #[.agg #[.int .u64 (y.i : Int), .int .u64 (y.t : Int), .slice y.A y.n y.c]] W _ from short_any (w := W) (HYI.out.s.next (Nat.le_refl _) (br2.trans (hw.mono br2.size))) y.i y.t))
      obtain ⟨n1, hn1⟩ : ∃ n1, min 17 x.n = n1 := ⟨_, rfl⟩
      obtain ⟨n5, hn5⟩ : ∃ n5, min 17 y.n = n5 := ⟨_, rfl⟩
      have h17 : n1 ≤ 17 := by omega
      have h57 : n5 ≤ 17 := by omega
      obtain ⟨V1, hV1⟩ : ∃ V, capL 17 (vsE x.l) = V := ⟨_, rfl⟩
      obtain ⟨V5, hV5⟩ : ∃ V, capL 17 (vsE y.l) = V := ⟨_, rfl⟩
      rw [hn1, hV1] at CX0
      rw [hn5, hV5] at CY0
      have HCP := Lib.hid (show capL 17 V1 = V1 by rw [← hV1, capL_idem])
      have CX := CX0
      have CY := CY0
      obtain ⟨wD, hwD⟩ : ∃ wD, w2.drew = wD := ⟨_, rfl⟩
      have B2D := Lib.hid (show Below w2.heap.size w2 wD by rw [← hwD]; exact (Below.refl _ _).drew)
      have KD := Lib.hid (KS.out _ B2D.out)
      have HXT := Lib.hid (show x.i < 18446744073709551616 ∧ x.t < 18446744073709551616 from ⟨HXI.out.i, HXI.out.t⟩)
      rw [hw2]
      clear hw2 bl2 br2 CX0 CY0 hn1 hn5 hV1 hV5 r0 r1 r2 HY3 HXI HYI HBL
      refine wp_region_noPanic (wp_region_any (by kernel_rfl) (wpAny_of_bk (S := (fun W => W.cell? ⟨wr.heap.size, 0, none⟩ = some (.int .u64 (x.i : Int)) ∧ W.cell? ⟨wr.heap.size, 1, none⟩ = some (.int .u64 (x.t : Int)) ∧ W.cell? ⟨wr.heap.size, 2, none⟩ = some (.slice x.A x.n x.c) ∧ W.cell? ⟨b, o, none⟩ = some (.int .u64 (y.i : Int)) ∧ W.cell? ⟨b, o + 1, none⟩ = some (.int .u64 (y.t : Int)) ∧ W.cell? ⟨b, o + 2, none⟩ = some (.slice y.A y.n y.c))) (m := 10) _ _ _ _ ?_))
      show wpBk _ _ _ _ _ _ 10 #[false, false, false, false, false, false, false, false, false, false] _ w2.drew
      rw [hwD]
      clear hwD
      refine wpBk_take (i := 0) rfl (by kernel_rfl) (fun _ _ _ _ h => h) (.inl ⟨rfl, fun w' hw' => (by obtain ⟨a0, a1, a2, a3, a4, a5⟩ := hw'; go_simp; rfl)⟩) KD.out ?_
      simp only [List.getElem_toArray, List.getElem_cons_zero, List.getElem_cons_succ, Act.put, List.setIfInBounds_toArray, List.set_cons_succ, List.set_cons_zero]
      refine wpBk_takeP (i := 2) rfl (by kernel_rfl) (fun _ _ _ _ h => h) (.inl ⟨rfl, fun w' _ => (by go_simp; rfl)⟩) ?_
      simp only [List.getElem_toArray, List.getElem_cons_zero, List.getElem_cons_succ, Act.put, List.setIfInBounds_toArray, List.set_cons_succ, List.set_cons_zero]
      refine wpBk_takeP (i := 3) rfl (by kernel_rfl) (fun _ _ _ _ h => h) (.inl ⟨rfl, fun w' _ => (by go_simp; rfl)⟩) ?_
      simp only [List.getElem_toArray, List.getElem_cons_zero, List.getElem_cons_succ, Act.put, List.setIfInBounds_toArray, List.set_cons_succ, List.set_cons_zero]
      refine wpBk_take (i := 4) rfl (by kernel_rfl) (fun _ _ _ _ h => h) (.inl ⟨rfl, fun w' hw' => (by obtain ⟨a0, a1, a2, a3, a4, a5⟩ := hw'; go_simp; rfl)⟩) KD.out ?_
      simp only [List.getElem_toArray, List.getElem_cons_zero, List.getElem_cons_succ, Act.put, List.setIfInBounds_toArray, List.set_cons_succ, List.set_cons_zero]
      refine wpBk_free (fun old a0 l0 f l a w' => ∃ (r1 r5 : Option (Option Addr × Nat)) (b6 b7 : Option Nat), f = 2 + (r1.isNone.toNat + (r5.isNone.toNat + (b6.isNone.toNat + b7.isNone.toNat))) ∧ (r5.isSome = true → r1.isSome = true) ∧ l = (((l0.setIfInBounds 1 r1.isSome).setIfInBounds 5 r5.isSome).setIfInBounds 6 b6.isSome).setIfInBounds 7 b7.isSome ∧ a = { tmps := (((a0.tmps.setIfInBounds 22 (logV (old 22) x.i x.t n1 r1)).setIfInBounds 26 (logV (old 26) y.i y.t n5 r5)).setIfInBounds 7 (boxV (old 7) b6)).setIfInBounds 8 (boxV (old 8) b7), defers := a0.defers } ∧ Tw wD n1 V1 n5 V5 r1 r5 b6 b7 w') 2 [(1, []), (5, [1]), (6, []), (7, [])] ?_ ?_ ?_ 4 ?_
      · rintro old f l a wz ⟨r1, r5, b6, b7, hf, hc, rfl, -⟩
        rcases r1 with _ | _ <;> rcases r5 with _ | _ <;> rcases b6 with _ | _ <;> rcases b7 with _ | _ <;> first | (exfalso; simp at hc; done) | (exfalso; simp at hf; done) | (exfalso; simp at hf; omega) | kernel_rfl
      · rintro old f l a wz ⟨r1, r5, b6, b7, hf, hc, rfl, rfl, hT⟩ jp hjp hn hq
        simp only [List.mem_cons, List.not_mem_nil, or_false] at hjp
        rcases hjp with rfl | rfl | rfl | rfl
        · obtain rfl : r1 = none := by clear hT hf hq hc; cases r1 <;> first | rfl | exact absurd (show (false : Bool) = true from hn.symm.trans (by kernel_rfl)) (by decide)
          obtain rfl : r5 = none := by clear hn hq hf hT; cases r5 <;> simp_all
          clear hn hq
          refine wpOp_of rfl rfl (fun K hK => ?_)
          simp only [List.getElem_toArray, List.getElem_cons_zero, List.getElem_cons_succ, Act.put, List.setIfInBounds_toArray, List.set_cons_succ, List.set_cons_zero]
          refine wp_fn (f := 11) (xs := #[.agg #[.int .u64 (x.i : Int), .int .u64 (x.t : Int), .slice x.A x.n x.c]]) (by first | (go_simp; done) | (go_simp; rfl)) (Calls.mono (CX.out wz (B2D.out.trans (hT.b.mono B2D.out.size))) ?_)
          rintro e wy ⟨⟨A1, c1, l1, rfl, ow1, v1⟩, hb2⟩
          have hT2 := hT.call1 hb2 (q := (A1, c1)) ow1 v1
          refine ⟨_, rfl, hK _ _ ⟨fun _ _ => KS.out _ (B2D.out.trans (hT2.b.mono B2D.out.size)), some (A1, c1), none, b6, b7, ?_, (fun h9 => by cases h9), ?_, ?_, hT2⟩⟩
          · simp at hf ⊢; omega
          · kernel_rfl
          · kernel_rfl
        · obtain rfl : r5 = none := by clear hT hf hq hc; cases r5 <;> first | rfl | exact absurd (show (false : Bool) = true from hn.symm.trans (by kernel_rfl)) (by decide)
          obtain ⟨q1, rfl⟩ : ∃ v, r1 = some v := by clear hT hf hn hc; cases r1 <;> first | exact ⟨_, rfl⟩ | exact absurd (show (true : Bool) = false from hq.symm.trans (by kernel_rfl)) (by decide)
          clear hn hq
          refine wpOp_of rfl rfl (fun K hK => ?_)
          simp only [List.getElem_toArray, List.getElem_cons_zero, List.getElem_cons_succ, Act.put, List.setIfInBounds_toArray, List.set_cons_succ, List.set_cons_zero]
          refine wp_fn (f := 11) (xs := #[.agg #[.int .u64 (y.i : Int), .int .u64 (y.t : Int), .slice y.A y.n y.c]]) (by first | (go_simp; done) | (go_simp; rfl)) (Calls.mono (CY.out wz (B2D.out.trans (hT.b.mono B2D.out.size))) ?_)
          rintro e wy ⟨⟨A1, c1, l1, rfl, ow1, v1⟩, hb2⟩
          have hT2 := hT.call5 hb2 (q := (A1, c1)) ow1 v1
          refine ⟨_, rfl, hK _ _ ⟨fun _ _ => KS.out _ (B2D.out.trans (hT2.b.mono B2D.out.size)), some q1, some (A1, c1), b6, b7, ?_, (fun h9 => rfl), ?_, ?_, hT2⟩⟩
          · simp at hf ⊢; omega
          · kernel_rfl
          · kernel_rfl
        · obtain rfl : b6 = none := by clear hT hf hq hc; cases b6 <;> first | rfl | exact absurd (show (false : Bool) = true from hn.symm.trans (by kernel_rfl)) (by decide)
          clear hn hq
          refine wpOp_of rfl rfl (fun K hK => ?_)
          simp only [List.getElem_toArray, List.getElem_cons_zero, List.getElem_cons_succ, Act.put, List.setIfInBounds_toArray, List.set_cons_succ, List.set_cons_zero]
          refine wp_al 27 rfl (lgC 0 0 none 0 0) zero_lg ?_
          have hT2 := hT.made6
          refine hK _ _ ⟨fun _ _ => KS.out _ (B2D.out.trans (hT2.b.mono B2D.out.size)), r1, r5, some wz.heap.size, b7, ?_, hc, ?_, ?_, hT2⟩
          · simp at hf ⊢; omega
          · kernel_rfl
          · kernel_rfl
        · obtain rfl : b7 = none := by clear hT hf hq hc; cases b7 <;> first | rfl | exact absurd (show (false : Bool) = true from hn.symm.trans (by kernel_rfl)) (by decide)
          clear hn hq
          refine wpOp_of rfl rfl (fun K hK => ?_)
          simp only [List.getElem_toArray, List.getElem_cons_zero, List.getElem_cons_succ, Act.put, List.setIfInBounds_toArray, List.set_cons_succ, List.set_cons_zero]
          refine wp_al 27 rfl (lgC 0 0 none 0 0) zero_lg ?_
          have hT2 := hT.made7
          refine hK _ _ ⟨fun _ _ => KS.out _ (B2D.out.trans (hT2.b.mono B2D.out.size)), r1, r5, b6, some wz.heap.size, ?_, hc, ?_, ?_, hT2⟩
          · simp at hf ⊢; omega
          · kernel_rfl
          · kernel_rfl
      · rintro old l a wz ⟨r1, r5, b6, b7, hf, hc, rfl, rfl, hT⟩
        obtain ⟨⟨A1, c1⟩, rfl⟩ := some_is (o := r1) (by omega)
        obtain ⟨⟨A5, c5⟩, rfl⟩ := some_is (o := r5) (by omega)
        obtain ⟨g6, rfl⟩ := some_is (o := b6) (by omega)
        obtain ⟨g7, rfl⟩ := some_is (o := b7) (by omega)
        simp only [List.getElem_toArray, List.getElem_cons_zero, List.getElem_cons_succ, Act.put, List.setIfInBounds_toArray, List.set_cons_succ, List.set_cons_zero, logV, boxV, Option.isSome_some]
        obtain ⟨l1, ow1, hv1⟩ := hT.o1 _ rfl
        obtain ⟨l5, ow5, hv5⟩ := hT.o5 _ rfl
        obtain ⟨hg6, -, bl6⟩ := hT.v6 _ rfl
        obtain ⟨hg7, -, bl7⟩ := hT.v7 _ rfl
        have hne := hT.ne _ _ rfl rfl
        have BZ := Lib.hid hT.b
        clear hT hf hc
        dsimp only at ow1 ow5
        obtain ⟨w6, hw6⟩ : ∃ w6, wz.setCells g6 0 (lgC x.i x.t A1 n1 c1) = w6 := ⟨_, rfl⟩
        obtain ⟨w7, hw7⟩ : ∃ w7, w6.setCells g7 0 (lgC y.i y.t A5 n5 c5) = w7 := ⟨_, rfl⟩
        have N6 : Bl w6 g6 27 (lgC x.i x.t A1 n1 c1) := by rw [← hw6]; exact bl_setCells bl6 rfl
        have M7 : Bl w6 g7 27 (lgC 0 0 none 0 0) := by rw [← hw6]; exact bl7.fars (Ne.symm hne) _ _
        have N7 := Lib.hid (show Bl w7 g7 27 (lgC y.i y.t A5 n5 c5) by rw [← hw7]; exact bl_setCells M7 rfl)
        have NN6 := Lib.hid (show Bl w7 g6 27 (lgC x.i x.t A1 n1 c1) by rw [← hw7]; exact N6.fars hne _ _)
        have OO1 := Lib.hid (show OwnM w7 wD.heap.size A1 n1 c1 l1 by rw [← hw7, ← hw6]; exact (ow1.boxes bl6 (by decide) (by decide) _ _).boxes (by rw [hw6]; exact M7) (by decide) (by decide) _ _)
        have OO5 := Lib.hid (show OwnM w7 wD.heap.size A5 n5 c5 l5 by rw [← hw7, ← hw6]; exact (ow5.boxes bl6 (by decide) (by decide) _ _).boxes (by rw [hw6]; exact M7) (by decide) (by decide) _ _)
        have TH6 := Lib.hid bl6.th
        have TH7 := Lib.hid M7.th
        have B6 : Below w2.heap.size w2 w6 := by rw [← hw6]; exact below_setCells (B2D.out.trans (BZ.out.mono B2D.out.size)) (Nat.le_trans B2D.out.size hg6) _ _
        have B7 : Below w2.heap.size w2 w7 := by rw [← hw7]; exact below_setCells B6 (Nat.le_trans B2D.out.size hg7) _ _
        have HW6 := Lib.hid hw6
        have HW7 := Lib.hid hw7
        have K6 := Lib.hid (KS.out _ B6)
        have K7 := Lib.hid (KS.out _ B7)
        have BB7 := Lib.hid B7
        have HV1 := Lib.hid hv1
        have HV5 := Lib.hid hv5
        clear hw6 hw7 N6 M7 ow1 ow5 bl6 bl7 hg6 hg7 hne B6 B7 hv1 hv5
        refine wpBk_one (i := 8) rfl (by rfl) (by kernel_rfl) (fun K hK => ?_)
        refine wp_store_mid _ (.tmp 7) (.tmp 22) rfl g6 0 (lgC x.i x.t A1 n1 c1).toArray rfl rfl (by simpa [lgC] using TH6.out) (by simpa [lgC] using size_lg) (by simp [lgC, Value.oneCell']) ?_
        rw [show (lgC x.i x.t A1 n1 c1).toArray.toList = lgC x.i x.t A1 n1 c1 from rfl, HW6.out]
        refine hK _ _ ⟨fun _ _ => K6.out, ?_⟩
        simp only [List.getElem_toArray, List.getElem_cons_zero, List.getElem_cons_succ, Act.put, List.setIfInBounds_toArray, List.set_cons_succ, List.set_cons_zero]
        refine wpBk_one (i := 9) rfl (by rfl) (by kernel_rfl) (fun K hK => ?_)
        refine wp_store_mid _ (.tmp 8) (.tmp 26) rfl g7 0 (lgC y.i y.t A5 n5 c5).toArray rfl rfl (by simpa [lgC] using TH7.out) (by simpa [lgC] using size_lg) (by simp [lgC, Value.oneCell']) ?_
        rw [show (lgC y.i y.t A5 n5 c5).toArray.toList = lgC y.i y.t A5 n5 c5 from rfl, HW7.out]
        refine hK _ _ ⟨fun _ _ => K7.out, ?_⟩
        simp only [List.getElem_toArray, List.getElem_cons_zero, List.getElem_cons_succ, Act.put, List.setIfInBounds_toArray, List.set_cons_succ, List.set_cons_zero]
        refine ⟨by kernel_rfl, ?_⟩
        refine NoPanic.normal ?_
        clear TH6 TH7 HW6 HW7 K6 K7
        have KT := Lib.hid (fun (W : World) (hw : Below w7.heap.size w7 W) => (show W.cell? ⟨g6, 0, none⟩ = some (.int .u64 (x.i : Int)) ∧ W.cell? ⟨g6, 1, none⟩ = some (.int .u64 (x.t : Int)) ∧ W.cell? ⟨g6, 2, none⟩ = some (.slice A1 n1 c1) ∧ W.cell? ⟨g7, 0, none⟩ = some (.int .u64 (y.i : Int)) ∧ W.cell? ⟨g7, 1, none⟩ = some (.int .u64 (y.t : Int)) ∧ W.cell? ⟨g7, 2, none⟩ = some (.slice A5 n5 c5) from ⟨(NN6.out.below hw NN6.out.lt).cell 0, (NN6.out.below hw NN6.out.lt).cell 1, (NN6.out.below hw NN6.out.lt).cell 2, (N7.out.below hw N7.out.lt).cell 0, (N7.out.below hw N7.out.lt).cell 1, (N7.out.below hw N7.out.lt).cell 2⟩))
        obtain ⟨R, hR⟩ : ∃ R, isLogW ⟨x.i, x.t, V1⟩ = R := ⟨_, rfl⟩
        obtain ⟨u, hu⟩ : ∃ u, lastT x.t V1 = u := ⟨_, rfl⟩
        obtain ⟨sm, hsm⟩ : ∃ s, sameG ⟨x.i, x.t, V1⟩ ⟨y.i, y.t, V5⟩ = s := ⟨_, rfl⟩
        obtain ⟨m, hm⟩ : ∃ m, checkW ⟨x.i, x.t, V1⟩ top = m := ⟨_, rfl⟩
        have HM := Lib.hid hm
        have HU := Lib.hid hu
        have HRR := Lib.hid hR
        have dsm : (sm != sm) = false := by cases sm <;> rfl
        have CRT := Lib.hid (fun (W : World) (hw : Below w7.heap.size w7 W) => (show Calls Try.prog 16 #[.agg #[.int .u64 (x.i : Int), .int .u64 (x.t : Int), .slice A1 n1 c1]] W _ from right_any (OO1.out.below hw).sq (by omega) x.i x.t HXT.out.1))
        have CCK := Lib.hid (fun (W : World) (hw : Below w7.heap.size w7 W) => (show Calls Try.prog 36 #[.agg #[.int .u64 (x.i : Int), .int .u64 (x.t : Int), .slice A1 n1 c1], .int .u64 (top : Int)] W _ from Check_any (OO1.out.below hw).sq (by omega) x.i x.t HXT.out.1 HXT.out.2 top htop))
        have CSM := Lib.hid (fun (W : World) (hw : Below w7.heap.size w7 W) => (show Calls Try.prog 37 #[.agg #[.int .u64 (x.i : Int), .int .u64 (x.t : Int), .slice A1 n1 c1], .agg #[.int .u64 (y.i : Int), .int .u64 (y.t : Int), .slice A5 n5 c5]] W _ from Same_any (OO1.out.below hw).sq (by omega) (OO5.out.below hw).sq (by omega) x.i x.t y.i y.t))
        have CRS := Lib.hid (fun (W : World) (hw : Below w7.heap.size w7 W) => (show Calls Try.prog 14 #[.agg #[.int .u64 (x.i : Int), .int .u64 (x.t : Int), .slice A1 n1 c1], .agg #[.int .u64 (y.i : Int), .int .u64 (y.t : Int), .slice A5 n5 c5]] W _ from refSame_any (OO1.out.below hw).sq (by omega) (OO5.out.below hw).sq (by omega) x.i x.t y.i y.t))
        have CSH := Lib.hid (fun (W : World) (hw : Below w7.heap.size w7 W) => (show Calls Try.prog 11 #[.agg #[.int .u64 (x.i : Int), .int .u64 (x.t : Int), .slice A1 n1 c1]] W _ from short_any (w := W) (OO1.out.below hw).sq x.i x.t))
        rw [HV1.out, hR] at CRT
        rw [HV1.out, hm] at CCK
        rw [HV1.out, HV5.out, hsm] at CSM CRS
        rw [show min 17 n1 = n1 by omega, HV1.out, HCP.out] at CSH
        have CLS := Lib.hid (fun (hr : R = true) (W : World) (hw : Below w7.heap.size w7 W) => (show Calls Try.prog 23 #[.agg #[.int .u64 (x.i : Int), .int .u64 (x.t : Int), .slice A1 n1 c1]] W _ from refLast_any (OO1.out.below hw).sq (by omega) x.i x.t (by have h := (isLog_sum (show isLogW ⟨x.i, x.t, vsE l1⟩ = true by rw [HV1.out, HRR.out, hr]) OO1.out.len).2; omega)))
        rw [HV1.out, hu] at CLS
        have fl1 := fun (a b : Nat) (w : World) => fld1 a b w
        clear hR hu hsm hm CX CY KD KS
        have hb7 := Below.refl w7.heap.size w7
        obtain ⟨c0, c1', c2, d0, d1, d2⟩ := KT.out _ hb7
        rcases R with _ | _
        · obtain rfl : m = 220 := by rw [← HM.out]; unfold checkW; rw [if_pos HRR.out]
          go_upto_region 13 with (first
            | (go_at_call 16; go_loud (with_reducible refine Calls.mono (CRT.out _ hb7) ?_); go_loud (rintro e w8 ⟨rfl, h8⟩); go_loud (have hb8 : Below w7.heap.size w7 w8 := hb7.trans (h8.mono (Nat.le_refl _))); go_loud (clear h8 c0 c1' c2 d0 d1 d2); go_loud (obtain ⟨c0, c1', c2, d0, d1, d2⟩ := KT.out _ hb8))
            | fail)
          clear c0 c1' c2 d0 d1 d2
          refine wp_region_noPanic (wp_region_any (by kernel_rfl) (wpAny_of_bk (S := (fun W => W.cell? ⟨g6, 0, none⟩ = some (.int .u64 (x.i : Int)) ∧ W.cell? ⟨g6, 1, none⟩ = some (.int .u64 (x.t : Int)) ∧ W.cell? ⟨g6, 2, none⟩ = some (.slice A1 n1 c1) ∧ W.cell? ⟨g7, 0, none⟩ = some (.int .u64 (y.i : Int)) ∧ W.cell? ⟨g7, 1, none⟩ = some (.int .u64 (y.t : Int)) ∧ W.cell? ⟨g7, 2, none⟩ = some (.slice A5 n5 c5))) (m := 21) _ _ _ _ ?_))
          show wpBk _ _ _ _ _ _ 21 #[false, false, false, false, false, false, false, false, false, false, false, false, false, false, false, false, false, false, false, false, false] _ w8.drew
          refine wpBk_take (i := 0) rfl (by kernel_rfl) (fun _ _ _ _ h => h) (.inl ⟨rfl, fun w' hw' => (by obtain ⟨a0, a1, a2, a3, a4, a5⟩ := hw'; go_simp; rfl)⟩) (KT.out _ (Below.drew hb8)) ?_
          simp only [List.getElem_toArray, List.getElem_cons_zero, List.getElem_cons_succ, Act.put, List.setIfInBounds_toArray, List.set_cons_succ, List.set_cons_zero]
          refine wpBk_takeP (i := 1) rfl (by kernel_rfl) (fun _ _ _ _ h => h) (.inl ⟨rfl, fun w' _ => (by go_simp; rfl)⟩) ?_
          simp only [List.getElem_toArray, List.getElem_cons_zero, List.getElem_cons_succ, Act.put, List.setIfInBounds_toArray, List.set_cons_succ, List.set_cons_zero]
          refine wpBk_takeP (i := 3) rfl (by kernel_rfl) (fun _ _ _ _ h => h) (.inl ⟨rfl, fun w' _ => (by go_simp; rfl)⟩) ?_
          simp only [List.getElem_toArray, List.getElem_cons_zero, List.getElem_cons_succ, Act.put, List.setIfInBounds_toArray, List.set_cons_succ, List.set_cons_zero]
          refine wpBk_one (i := 2) rfl (by rfl) (by kernel_rfl) (fun K hK => ?_)
          refine wp_fn (f := 36) (xs := #[.agg #[.int .u64 (x.i : Int), .int .u64 (x.t : Int), .slice A1 n1 c1], .int .u64 (top : Int)]) (by first | (go_simp; done) | (go_simp; rfl)) (Calls.mono (CCK.out _ (Below.drew hb8)) ?_)
          rintro e vy1 ⟨rfl, h9⟩
          have y1 : Below w7.heap.size w7 vy1 := Below.trans (Below.drew hb8) (h9.mono (Below.size (Below.drew hb8)))
          have Ky1 := Lib.hid (KT.out _ y1)
          clear h9
          refine ⟨_, rfl, hK _ _ ⟨fun _ _ => Ky1.out, ?_⟩⟩
          simp only [List.getElem_toArray, List.getElem_cons_zero, List.getElem_cons_succ, Act.put, List.setIfInBounds_toArray, List.set_cons_succ, List.set_cons_zero]
          refine wpBk_takeP (i := 4) rfl (by kernel_rfl) (fun _ _ _ _ h => h) (.inl ⟨rfl, fun w' _ => (by go_simp; rfl)⟩) ?_
          simp only [List.getElem_toArray, List.getElem_cons_zero, List.getElem_cons_succ, Act.put, List.setIfInBounds_toArray, List.set_cons_succ, List.set_cons_zero]
          refine wpBk_takeP (i := 5) rfl (by kernel_rfl) (fun _ _ _ _ h => h) (.inl ⟨rfl, fun w' _ => (by go_simp; rfl)⟩) ?_
          simp only [List.getElem_toArray, List.getElem_cons_zero, List.getElem_cons_succ, Act.put, List.setIfInBounds_toArray, List.set_cons_succ, List.set_cons_zero]
          refine wpBk_take (i := 6) rfl (by kernel_rfl) (fun _ _ _ _ h => h) (.inl ⟨rfl, fun w' hw' => (by obtain ⟨a0, a1, a2, a3, a4, a5⟩ := hw'; go_simp; rfl)⟩) Ky1.out ?_
          simp only [List.getElem_toArray, List.getElem_cons_zero, List.getElem_cons_succ, Act.put, List.setIfInBounds_toArray, List.set_cons_succ, List.set_cons_zero]
          refine wpBk_take (i := 7) rfl (by kernel_rfl) (fun _ _ _ _ h => h) (.inl ⟨rfl, fun w' hw' => (by obtain ⟨a0, a1, a2, a3, a4, a5⟩ := hw'; go_simp; rfl)⟩) Ky1.out ?_
          simp only [List.getElem_toArray, List.getElem_cons_zero, List.getElem_cons_succ, Act.put, List.setIfInBounds_toArray, List.set_cons_succ, List.set_cons_zero]
          refine wpBk_take (i := 9) rfl (by kernel_rfl) (fun _ _ _ _ h => h) (.inl ⟨rfl, fun w' hw' => (by obtain ⟨a0, a1, a2, a3, a4, a5⟩ := hw'; go_simp; rfl)⟩) Ky1.out ?_
          simp only [List.getElem_toArray, List.getElem_cons_zero, List.getElem_cons_succ, Act.put, List.setIfInBounds_toArray, List.set_cons_succ, List.set_cons_zero]
          refine wpBk_take (i := 10) rfl (by kernel_rfl) (fun _ _ _ _ h => h) (.inl ⟨rfl, fun w' hw' => (by obtain ⟨a0, a1, a2, a3, a4, a5⟩ := hw'; go_simp; rfl)⟩) Ky1.out ?_
          simp only [List.getElem_toArray, List.getElem_cons_zero, List.getElem_cons_succ, Act.put, List.setIfInBounds_toArray, List.set_cons_succ, List.set_cons_zero]
          refine wpBk_one (i := 8) rfl (by rfl) (by kernel_rfl) (fun K hK => ?_)
          refine wp_fn (f := 37) (xs := #[.agg #[.int .u64 (x.i : Int), .int .u64 (x.t : Int), .slice A1 n1 c1], .agg #[.int .u64 (y.i : Int), .int .u64 (y.t : Int), .slice A5 n5 c5]]) (by first | (go_simp; done) | (go_simp; rfl)) (Calls.mono (CSM.out _ y1) ?_)
          rintro e vy2 ⟨rfl, h9⟩
          have y2 : Below w7.heap.size w7 vy2 := Below.trans y1 (h9.mono (Below.size y1))
          have Ky2 := Lib.hid (KT.out _ y2)
          clear h9
          refine ⟨_, rfl, hK _ _ ⟨fun _ _ => Ky2.out, ?_⟩⟩
          simp only [List.getElem_toArray, List.getElem_cons_zero, List.getElem_cons_succ, Act.put, List.setIfInBounds_toArray, List.set_cons_succ, List.set_cons_zero]
          refine wpBk_one (i := 11) rfl (by rfl) (by kernel_rfl) (fun K hK => ?_)
          refine wp_fn (f := 14) (xs := #[.agg #[.int .u64 (x.i : Int), .int .u64 (x.t : Int), .slice A1 n1 c1], .agg #[.int .u64 (y.i : Int), .int .u64 (y.t : Int), .slice A5 n5 c5]]) (by first | (go_simp; done) | (go_simp; rfl)) (Calls.mono (CRS.out _ y2) ?_)
          rintro e vy3 ⟨rfl, h9⟩
          have y3 : Below w7.heap.size w7 vy3 := Below.trans y2 (h9.mono (Below.size y2))
          have Ky3 := Lib.hid (KT.out _ y3)
          clear h9
          refine ⟨_, rfl, hK _ _ ⟨fun _ _ => Ky3.out, ?_⟩⟩
          simp only [List.getElem_toArray, List.getElem_cons_zero, List.getElem_cons_succ, Act.put, List.setIfInBounds_toArray, List.set_cons_succ, List.set_cons_zero]
          refine wpBk_takeP (i := 12) rfl (by kernel_rfl) (fun _ _ _ _ h => h) (.inl ⟨rfl, fun w' _ => (by go_simp; rfl)⟩) ?_
          simp only [List.getElem_toArray, List.getElem_cons_zero, List.getElem_cons_succ, Act.put, List.setIfInBounds_toArray, List.set_cons_succ, List.set_cons_zero]
          refine wpBk_takeP (i := 13) rfl (by kernel_rfl) (fun _ _ _ _ h => h) (.inl ⟨rfl, fun w' _ => (by go_simp; rfl)⟩) ?_
          simp only [List.getElem_toArray, List.getElem_cons_zero, List.getElem_cons_succ, Act.put, List.setIfInBounds_toArray, List.set_cons_succ, List.set_cons_zero]
          refine wpBk_takeP (i := 14) rfl (by kernel_rfl) (fun _ _ _ _ h => h) (.inl ⟨rfl, fun w' _ => (by go_simp; rfl)⟩) ?_
          simp only [List.getElem_toArray, List.getElem_cons_zero, List.getElem_cons_succ, Act.put, List.setIfInBounds_toArray, List.set_cons_succ, List.set_cons_zero]
          refine wpBk_take (i := 15) rfl (by kernel_rfl) (fun _ _ _ _ h => h) (.inl ⟨rfl, fun w' hw' => (by obtain ⟨a0, a1, a2, a3, a4, a5⟩ := hw'; go_simp; rfl)⟩) Ky3.out ?_
          simp only [List.getElem_toArray, List.getElem_cons_zero, List.getElem_cons_succ, Act.put, List.setIfInBounds_toArray, List.set_cons_succ, List.set_cons_zero]
          refine wpBk_take (i := 16) rfl (by kernel_rfl) (fun _ _ _ _ h => h) (.inl ⟨rfl, fun w' hw' => (by obtain ⟨a0, a1, a2, a3, a4, a5⟩ := hw'; go_simp; rfl)⟩) Ky3.out ?_
          simp only [List.getElem_toArray, List.getElem_cons_zero, List.getElem_cons_succ, Act.put, List.setIfInBounds_toArray, List.set_cons_succ, List.set_cons_zero]
          refine wpBk_one (i := 17) rfl (by rfl) (by kernel_rfl) (fun K hK => ?_)
          refine wp_fn (f := 11) (xs := #[.agg #[.int .u64 (x.i : Int), .int .u64 (x.t : Int), .slice A1 n1 c1]]) (by first | (go_simp; done) | (go_simp; rfl)) (Calls.mono (CSH.out _ y3) ?_)
          rintro e vy4 ⟨⟨A9, c9, l9, rfl, ho9, hv9⟩, h9⟩
          have y4 : Below w7.heap.size w7 vy4 := Below.trans y3 (h9.mono (Below.size y3))
          have Ky4 := Lib.hid (KT.out _ y4)
          have CS9 := Lib.hid (show Calls Try.prog 37 #[.agg #[.int .u64 (x.i : Int), .int .u64 (x.t : Int), .slice A1 n1 c1], .agg #[.int .u64 (x.i : Int), .int .u64 (x.t : Int), .slice A9 n1 c9]] vy4 _ from Same_any (OO1.out.below y4).sq (by omega) ho9.sq (by omega) x.i x.t x.i x.t)
          rw [show sameG ⟨x.i, x.t, vsE l1⟩ ⟨x.i, x.t, vsE l9⟩ = true from sameG_iff.2 (Lg.ext_ rfl rfl (HV1.out.trans hv9.symm))] at CS9
          clear h9
          refine ⟨_, rfl, hK _ _ ⟨fun _ _ => Ky4.out, ?_⟩⟩
          simp only [List.getElem_toArray, List.getElem_cons_zero, List.getElem_cons_succ, Act.put, List.setIfInBounds_toArray, List.set_cons_succ, List.set_cons_zero]
          refine wpBk_one (i := 18) rfl (by rfl) (by kernel_rfl) (fun K hK => ?_)
          refine wp_fn (f := 37) (xs := #[.agg #[.int .u64 (x.i : Int), .int .u64 (x.t : Int), .slice A1 n1 c1], .agg #[.int .u64 (x.i : Int), .int .u64 (x.t : Int), .slice A9 n1 c9]]) (by first | (go_simp; done) | (go_simp; rfl)) (Calls.mono (CS9.out) ?_)
          rintro e vy5 ⟨rfl, h9⟩
          have y5 : Below w7.heap.size w7 vy5 := Below.trans y4 (h9.mono (Below.size y4))
          have Ky5 := Lib.hid (KT.out _ y5)
          clear h9
          refine ⟨_, rfl, hK _ _ ⟨fun _ _ => Ky5.out, ?_⟩⟩
          simp only [List.getElem_toArray, List.getElem_cons_zero, List.getElem_cons_succ, Act.put, List.setIfInBounds_toArray, List.set_cons_succ, List.set_cons_zero]
          refine wpBk_takeP (i := 19) rfl (by kernel_rfl) (fun _ _ _ _ h => h) (.inl ⟨rfl, fun w' _ => (by go_simp; rfl)⟩) ?_
          simp only [List.getElem_toArray, List.getElem_cons_zero, List.getElem_cons_succ, Act.put, List.setIfInBounds_toArray, List.set_cons_succ, List.set_cons_zero]
          refine wpBk_takeP (i := 20) rfl (by kernel_rfl) (fun _ _ _ _ h => h) (.inl ⟨rfl, fun w' _ => (by go_simp; rfl)⟩) ?_
          simp only [List.getElem_toArray, List.getElem_cons_zero, List.getElem_cons_succ, Act.put, List.setIfInBounds_toArray, List.set_cons_succ, List.set_cons_zero]
          refine ⟨by kernel_rfl, ?_⟩
          refine NoPanic.normal ?_
          clear CS9 Ky1 Ky2 Ky3 Ky4 Ky5
          go_wp2_with fail
          try simp only [hkw]
          go_roundw
          case rel => exact ⟨k + 1, by omega, by go_num, Lib.hid (HB2.out.trans ((BB7.out.trans (y5.mono BB7.out.size)).mono HB2.out.size))⟩
          case measure => clear hkw; show n - ((k : Int) + 1).toNat < n - (k : Int).toNat; omega
        · have CLT := CLS.out rfl
          have CL2 := Lib.hid CLT
          clear CLT CLS
          by_cases hgt : top < u
          · have dgt : decide (top < u) = true := by simpa using hgt
            have dgt2 : decide ((top : Int) < (u : Int)) = true := by simp; omega
            obtain rfl : m = 2 := by rw [← HM.out]; unfold checkW; rw [if_neg (by rw [HRR.out]; simp), if_pos (by rw [HU.out]; exact hgt)]
            clear hgt
            go_upto_region 13 with (first
              | (go_at_call 23; go_loud (with_reducible refine Calls.mono (CL2.out _ hb8) ?_); go_loud (rintro e w9 ⟨rfl, h9⟩); go_loud (have hb9 : Below w7.heap.size w7 w9 := hb8.trans (h9.mono hb8.size)); go_loud (clear h9 c0 c1' c2 d0 d1 d2); go_loud (obtain ⟨c0, c1', c2, d0, d1, d2⟩ := KT.out _ hb9))
              | (go_at_call 16; go_loud (with_reducible refine Calls.mono (CRT.out _ hb7) ?_); go_loud (rintro e w8 ⟨rfl, h8⟩); go_loud (have hb8 : Below w7.heap.size w7 w8 := hb7.trans (h8.mono (Nat.le_refl _))); go_loud (clear h8 c0 c1' c2 d0 d1 d2); go_loud (obtain ⟨c0, c1', c2, d0, d1, d2⟩ := KT.out _ hb8))
              | fail)
            clear c0 c1' c2 d0 d1 d2
            refine wp_region_noPanic (wp_region_any (by kernel_rfl) (wpAny_of_bk (S := (fun W => W.cell? ⟨g6, 0, none⟩ = some (.int .u64 (x.i : Int)) ∧ W.cell? ⟨g6, 1, none⟩ = some (.int .u64 (x.t : Int)) ∧ W.cell? ⟨g6, 2, none⟩ = some (.slice A1 n1 c1) ∧ W.cell? ⟨g7, 0, none⟩ = some (.int .u64 (y.i : Int)) ∧ W.cell? ⟨g7, 1, none⟩ = some (.int .u64 (y.t : Int)) ∧ W.cell? ⟨g7, 2, none⟩ = some (.slice A5 n5 c5))) (m := 21) _ _ _ _ ?_))
            show wpBk _ _ _ _ _ _ 21 #[false, false, false, false, false, false, false, false, false, false, false, false, false, false, false, false, false, false, false, false, false] _ w9.drew
            refine wpBk_take (i := 0) rfl (by kernel_rfl) (fun _ _ _ _ h => h) (.inl ⟨rfl, fun w' hw' => (by obtain ⟨a0, a1, a2, a3, a4, a5⟩ := hw'; go_simp; rfl)⟩) (KT.out _ (Below.drew hb9)) ?_
            simp only [List.getElem_toArray, List.getElem_cons_zero, List.getElem_cons_succ, Act.put, List.setIfInBounds_toArray, List.set_cons_succ, List.set_cons_zero]
            refine wpBk_takeP (i := 1) rfl (by kernel_rfl) (fun _ _ _ _ h => h) (.inl ⟨rfl, fun w' _ => (by go_simp; rfl)⟩) ?_
            simp only [List.getElem_toArray, List.getElem_cons_zero, List.getElem_cons_succ, Act.put, List.setIfInBounds_toArray, List.set_cons_succ, List.set_cons_zero]
            refine wpBk_takeP (i := 3) rfl (by kernel_rfl) (fun _ _ _ _ h => h) (.inl ⟨rfl, fun w' _ => (by go_simp; rfl)⟩) ?_
            simp only [List.getElem_toArray, List.getElem_cons_zero, List.getElem_cons_succ, Act.put, List.setIfInBounds_toArray, List.set_cons_succ, List.set_cons_zero]
            refine wpBk_one (i := 2) rfl (by rfl) (by kernel_rfl) (fun K hK => ?_)
            refine wp_fn (f := 36) (xs := #[.agg #[.int .u64 (x.i : Int), .int .u64 (x.t : Int), .slice A1 n1 c1], .int .u64 (top : Int)]) (by first | (go_simp; done) | (go_simp; rfl)) (Calls.mono (CCK.out _ (Below.drew hb9)) ?_)
            rintro e vy1 ⟨rfl, h9⟩
            have y1 : Below w7.heap.size w7 vy1 := Below.trans (Below.drew hb9) (h9.mono (Below.size (Below.drew hb9)))
            have Ky1 := Lib.hid (KT.out _ y1)
            clear h9
            refine ⟨_, rfl, hK _ _ ⟨fun _ _ => Ky1.out, ?_⟩⟩
            simp only [List.getElem_toArray, List.getElem_cons_zero, List.getElem_cons_succ, Act.put, List.setIfInBounds_toArray, List.set_cons_succ, List.set_cons_zero]
            refine wpBk_takeP (i := 4) rfl (by kernel_rfl) (fun _ _ _ _ h => h) (.inl ⟨rfl, fun w' _ => (by go_simp; rfl)⟩) ?_
            simp only [List.getElem_toArray, List.getElem_cons_zero, List.getElem_cons_succ, Act.put, List.setIfInBounds_toArray, List.set_cons_succ, List.set_cons_zero]
            refine wpBk_takeP (i := 5) rfl (by kernel_rfl) (fun _ _ _ _ h => h) (.inl ⟨rfl, fun w' _ => (by go_simp; rfl)⟩) ?_
            simp only [List.getElem_toArray, List.getElem_cons_zero, List.getElem_cons_succ, Act.put, List.setIfInBounds_toArray, List.set_cons_succ, List.set_cons_zero]
            refine wpBk_take (i := 6) rfl (by kernel_rfl) (fun _ _ _ _ h => h) (.inl ⟨rfl, fun w' hw' => (by obtain ⟨a0, a1, a2, a3, a4, a5⟩ := hw'; go_simp; rfl)⟩) Ky1.out ?_
            simp only [List.getElem_toArray, List.getElem_cons_zero, List.getElem_cons_succ, Act.put, List.setIfInBounds_toArray, List.set_cons_succ, List.set_cons_zero]
            refine wpBk_take (i := 7) rfl (by kernel_rfl) (fun _ _ _ _ h => h) (.inl ⟨rfl, fun w' hw' => (by obtain ⟨a0, a1, a2, a3, a4, a5⟩ := hw'; go_simp; rfl)⟩) Ky1.out ?_
            simp only [List.getElem_toArray, List.getElem_cons_zero, List.getElem_cons_succ, Act.put, List.setIfInBounds_toArray, List.set_cons_succ, List.set_cons_zero]
            refine wpBk_take (i := 9) rfl (by kernel_rfl) (fun _ _ _ _ h => h) (.inl ⟨rfl, fun w' hw' => (by obtain ⟨a0, a1, a2, a3, a4, a5⟩ := hw'; go_simp; rfl)⟩) Ky1.out ?_
            simp only [List.getElem_toArray, List.getElem_cons_zero, List.getElem_cons_succ, Act.put, List.setIfInBounds_toArray, List.set_cons_succ, List.set_cons_zero]
            refine wpBk_take (i := 10) rfl (by kernel_rfl) (fun _ _ _ _ h => h) (.inl ⟨rfl, fun w' hw' => (by obtain ⟨a0, a1, a2, a3, a4, a5⟩ := hw'; go_simp; rfl)⟩) Ky1.out ?_
            simp only [List.getElem_toArray, List.getElem_cons_zero, List.getElem_cons_succ, Act.put, List.setIfInBounds_toArray, List.set_cons_succ, List.set_cons_zero]
            refine wpBk_one (i := 8) rfl (by rfl) (by kernel_rfl) (fun K hK => ?_)
            refine wp_fn (f := 37) (xs := #[.agg #[.int .u64 (x.i : Int), .int .u64 (x.t : Int), .slice A1 n1 c1], .agg #[.int .u64 (y.i : Int), .int .u64 (y.t : Int), .slice A5 n5 c5]]) (by first | (go_simp; done) | (go_simp; rfl)) (Calls.mono (CSM.out _ y1) ?_)
            rintro e vy2 ⟨rfl, h9⟩
            have y2 : Below w7.heap.size w7 vy2 := Below.trans y1 (h9.mono (Below.size y1))
            have Ky2 := Lib.hid (KT.out _ y2)
            clear h9
            refine ⟨_, rfl, hK _ _ ⟨fun _ _ => Ky2.out, ?_⟩⟩
            simp only [List.getElem_toArray, List.getElem_cons_zero, List.getElem_cons_succ, Act.put, List.setIfInBounds_toArray, List.set_cons_succ, List.set_cons_zero]
            refine wpBk_one (i := 11) rfl (by rfl) (by kernel_rfl) (fun K hK => ?_)
            refine wp_fn (f := 14) (xs := #[.agg #[.int .u64 (x.i : Int), .int .u64 (x.t : Int), .slice A1 n1 c1], .agg #[.int .u64 (y.i : Int), .int .u64 (y.t : Int), .slice A5 n5 c5]]) (by first | (go_simp; done) | (go_simp; rfl)) (Calls.mono (CRS.out _ y2) ?_)
            rintro e vy3 ⟨rfl, h9⟩
            have y3 : Below w7.heap.size w7 vy3 := Below.trans y2 (h9.mono (Below.size y2))
            have Ky3 := Lib.hid (KT.out _ y3)
            clear h9
            refine ⟨_, rfl, hK _ _ ⟨fun _ _ => Ky3.out, ?_⟩⟩
            simp only [List.getElem_toArray, List.getElem_cons_zero, List.getElem_cons_succ, Act.put, List.setIfInBounds_toArray, List.set_cons_succ, List.set_cons_zero]
            refine wpBk_takeP (i := 12) rfl (by kernel_rfl) (fun _ _ _ _ h => h) (.inl ⟨rfl, fun w' _ => (by go_simp; rfl)⟩) ?_
            simp only [List.getElem_toArray, List.getElem_cons_zero, List.getElem_cons_succ, Act.put, List.setIfInBounds_toArray, List.set_cons_succ, List.set_cons_zero]
            refine wpBk_takeP (i := 13) rfl (by kernel_rfl) (fun _ _ _ _ h => h) (.inl ⟨rfl, fun w' _ => (by go_simp; rfl)⟩) ?_
            simp only [List.getElem_toArray, List.getElem_cons_zero, List.getElem_cons_succ, Act.put, List.setIfInBounds_toArray, List.set_cons_succ, List.set_cons_zero]
            refine wpBk_takeP (i := 14) rfl (by kernel_rfl) (fun _ _ _ _ h => h) (.inl ⟨rfl, fun w' _ => (by go_simp; rfl)⟩) ?_
            simp only [List.getElem_toArray, List.getElem_cons_zero, List.getElem_cons_succ, Act.put, List.setIfInBounds_toArray, List.set_cons_succ, List.set_cons_zero]
            refine wpBk_take (i := 15) rfl (by kernel_rfl) (fun _ _ _ _ h => h) (.inl ⟨rfl, fun w' hw' => (by obtain ⟨a0, a1, a2, a3, a4, a5⟩ := hw'; go_simp; rfl)⟩) Ky3.out ?_
            simp only [List.getElem_toArray, List.getElem_cons_zero, List.getElem_cons_succ, Act.put, List.setIfInBounds_toArray, List.set_cons_succ, List.set_cons_zero]
            refine wpBk_take (i := 16) rfl (by kernel_rfl) (fun _ _ _ _ h => h) (.inl ⟨rfl, fun w' hw' => (by obtain ⟨a0, a1, a2, a3, a4, a5⟩ := hw'; go_simp; rfl)⟩) Ky3.out ?_
            simp only [List.getElem_toArray, List.getElem_cons_zero, List.getElem_cons_succ, Act.put, List.setIfInBounds_toArray, List.set_cons_succ, List.set_cons_zero]
            refine wpBk_one (i := 17) rfl (by rfl) (by kernel_rfl) (fun K hK => ?_)
            refine wp_fn (f := 11) (xs := #[.agg #[.int .u64 (x.i : Int), .int .u64 (x.t : Int), .slice A1 n1 c1]]) (by first | (go_simp; done) | (go_simp; rfl)) (Calls.mono (CSH.out _ y3) ?_)
            rintro e vy4 ⟨⟨A9, c9, l9, rfl, ho9, hv9⟩, h9⟩
            have y4 : Below w7.heap.size w7 vy4 := Below.trans y3 (h9.mono (Below.size y3))
            have Ky4 := Lib.hid (KT.out _ y4)
            have CS9 := Lib.hid (show Calls Try.prog 37 #[.agg #[.int .u64 (x.i : Int), .int .u64 (x.t : Int), .slice A1 n1 c1], .agg #[.int .u64 (x.i : Int), .int .u64 (x.t : Int), .slice A9 n1 c9]] vy4 _ from Same_any (OO1.out.below y4).sq (by omega) ho9.sq (by omega) x.i x.t x.i x.t)
            rw [show sameG ⟨x.i, x.t, vsE l1⟩ ⟨x.i, x.t, vsE l9⟩ = true from sameG_iff.2 (Lg.ext_ rfl rfl (HV1.out.trans hv9.symm))] at CS9
            clear h9
            refine ⟨_, rfl, hK _ _ ⟨fun _ _ => Ky4.out, ?_⟩⟩
            simp only [List.getElem_toArray, List.getElem_cons_zero, List.getElem_cons_succ, Act.put, List.setIfInBounds_toArray, List.set_cons_succ, List.set_cons_zero]
            refine wpBk_one (i := 18) rfl (by rfl) (by kernel_rfl) (fun K hK => ?_)
            refine wp_fn (f := 37) (xs := #[.agg #[.int .u64 (x.i : Int), .int .u64 (x.t : Int), .slice A1 n1 c1], .agg #[.int .u64 (x.i : Int), .int .u64 (x.t : Int), .slice A9 n1 c9]]) (by first | (go_simp; done) | (go_simp; rfl)) (Calls.mono (CS9.out) ?_)
            rintro e vy5 ⟨rfl, h9⟩
            have y5 : Below w7.heap.size w7 vy5 := Below.trans y4 (h9.mono (Below.size y4))
            have Ky5 := Lib.hid (KT.out _ y5)
            clear h9
            refine ⟨_, rfl, hK _ _ ⟨fun _ _ => Ky5.out, ?_⟩⟩
            simp only [List.getElem_toArray, List.getElem_cons_zero, List.getElem_cons_succ, Act.put, List.setIfInBounds_toArray, List.set_cons_succ, List.set_cons_zero]
            refine wpBk_takeP (i := 19) rfl (by kernel_rfl) (fun _ _ _ _ h => h) (.inl ⟨rfl, fun w' _ => (by go_simp; rfl)⟩) ?_
            simp only [List.getElem_toArray, List.getElem_cons_zero, List.getElem_cons_succ, Act.put, List.setIfInBounds_toArray, List.set_cons_succ, List.set_cons_zero]
            refine wpBk_takeP (i := 20) rfl (by kernel_rfl) (fun _ _ _ _ h => h) (.inl ⟨rfl, fun w' _ => (by go_simp; rfl)⟩) ?_
            simp only [List.getElem_toArray, List.getElem_cons_zero, List.getElem_cons_succ, Act.put, List.setIfInBounds_toArray, List.set_cons_succ, List.set_cons_zero]
            refine ⟨by kernel_rfl, ?_⟩
            refine NoPanic.normal ?_
            clear CS9 Ky1 Ky2 Ky3 Ky4 Ky5
            go_wp2_with fail
            try simp only [hkw]
            go_roundw
            case rel => exact ⟨k + 1, by omega, by go_num, Lib.hid (HB2.out.trans ((BB7.out.trans (y5.mono BB7.out.size)).mono HB2.out.size))⟩
            case measure => clear hkw; show n - ((k : Int) + 1).toNat < n - (k : Int).toNat; omega
          · have dgt : decide (top < u) = false := by simpa using hgt
            have dgt2 : decide ((top : Int) < (u : Int)) = false := by simp; omega
            obtain rfl : m = 0 := by rw [← HM.out]; unfold checkW; rw [if_neg (by rw [HRR.out]; simp), if_neg (by rw [HU.out]; exact hgt)]
            clear hgt
            go_upto_region 13 with (first
              | (go_at_call 23; go_loud (with_reducible refine Calls.mono (CL2.out _ hb8) ?_); go_loud (rintro e w9 ⟨rfl, h9⟩); go_loud (have hb9 : Below w7.heap.size w7 w9 := hb8.trans (h9.mono hb8.size)); go_loud (clear h9 c0 c1' c2 d0 d1 d2); go_loud (obtain ⟨c0, c1', c2, d0, d1, d2⟩ := KT.out _ hb9))
              | (go_at_call 16; go_loud (with_reducible refine Calls.mono (CRT.out _ hb7) ?_); go_loud (rintro e w8 ⟨rfl, h8⟩); go_loud (have hb8 : Below w7.heap.size w7 w8 := hb7.trans (h8.mono (Nat.le_refl _))); go_loud (clear h8 c0 c1' c2 d0 d1 d2); go_loud (obtain ⟨c0, c1', c2, d0, d1, d2⟩ := KT.out _ hb8))
              | fail)
            clear c0 c1' c2 d0 d1 d2
            refine wp_region_noPanic (wp_region_any (by kernel_rfl) (wpAny_of_bk (S := (fun W => W.cell? ⟨g6, 0, none⟩ = some (.int .u64 (x.i : Int)) ∧ W.cell? ⟨g6, 1, none⟩ = some (.int .u64 (x.t : Int)) ∧ W.cell? ⟨g6, 2, none⟩ = some (.slice A1 n1 c1) ∧ W.cell? ⟨g7, 0, none⟩ = some (.int .u64 (y.i : Int)) ∧ W.cell? ⟨g7, 1, none⟩ = some (.int .u64 (y.t : Int)) ∧ W.cell? ⟨g7, 2, none⟩ = some (.slice A5 n5 c5))) (m := 21) _ _ _ _ ?_))
            show wpBk _ _ _ _ _ _ 21 #[false, false, false, false, false, false, false, false, false, false, false, false, false, false, false, false, false, false, false, false, false] _ w9.drew
            refine wpBk_take (i := 0) rfl (by kernel_rfl) (fun _ _ _ _ h => h) (.inl ⟨rfl, fun w' hw' => (by obtain ⟨a0, a1, a2, a3, a4, a5⟩ := hw'; go_simp; rfl)⟩) (KT.out _ (Below.drew hb9)) ?_
            simp only [List.getElem_toArray, List.getElem_cons_zero, List.getElem_cons_succ, Act.put, List.setIfInBounds_toArray, List.set_cons_succ, List.set_cons_zero]
            refine wpBk_takeP (i := 1) rfl (by kernel_rfl) (fun _ _ _ _ h => h) (.inl ⟨rfl, fun w' _ => (by go_simp; rfl)⟩) ?_
            simp only [List.getElem_toArray, List.getElem_cons_zero, List.getElem_cons_succ, Act.put, List.setIfInBounds_toArray, List.set_cons_succ, List.set_cons_zero]
            refine wpBk_takeP (i := 3) rfl (by kernel_rfl) (fun _ _ _ _ h => h) (.inl ⟨rfl, fun w' _ => (by go_simp; rfl)⟩) ?_
            simp only [List.getElem_toArray, List.getElem_cons_zero, List.getElem_cons_succ, Act.put, List.setIfInBounds_toArray, List.set_cons_succ, List.set_cons_zero]
            refine wpBk_one (i := 2) rfl (by rfl) (by kernel_rfl) (fun K hK => ?_)
            refine wp_fn (f := 36) (xs := #[.agg #[.int .u64 (x.i : Int), .int .u64 (x.t : Int), .slice A1 n1 c1], .int .u64 (top : Int)]) (by first | (go_simp; done) | (go_simp; rfl)) (Calls.mono (CCK.out _ (Below.drew hb9)) ?_)
            rintro e vy1 ⟨rfl, h9⟩
            have y1 : Below w7.heap.size w7 vy1 := Below.trans (Below.drew hb9) (h9.mono (Below.size (Below.drew hb9)))
            have Ky1 := Lib.hid (KT.out _ y1)
            clear h9
            refine ⟨_, rfl, hK _ _ ⟨fun _ _ => Ky1.out, ?_⟩⟩
            simp only [List.getElem_toArray, List.getElem_cons_zero, List.getElem_cons_succ, Act.put, List.setIfInBounds_toArray, List.set_cons_succ, List.set_cons_zero]
            refine wpBk_takeP (i := 4) rfl (by kernel_rfl) (fun _ _ _ _ h => h) (.inl ⟨rfl, fun w' _ => (by go_simp; rfl)⟩) ?_
            simp only [List.getElem_toArray, List.getElem_cons_zero, List.getElem_cons_succ, Act.put, List.setIfInBounds_toArray, List.set_cons_succ, List.set_cons_zero]
            refine wpBk_takeP (i := 5) rfl (by kernel_rfl) (fun _ _ _ _ h => h) (.inl ⟨rfl, fun w' _ => (by go_simp; rfl)⟩) ?_
            simp only [List.getElem_toArray, List.getElem_cons_zero, List.getElem_cons_succ, Act.put, List.setIfInBounds_toArray, List.set_cons_succ, List.set_cons_zero]
            refine wpBk_take (i := 6) rfl (by kernel_rfl) (fun _ _ _ _ h => h) (.inl ⟨rfl, fun w' hw' => (by obtain ⟨a0, a1, a2, a3, a4, a5⟩ := hw'; go_simp; rfl)⟩) Ky1.out ?_
            simp only [List.getElem_toArray, List.getElem_cons_zero, List.getElem_cons_succ, Act.put, List.setIfInBounds_toArray, List.set_cons_succ, List.set_cons_zero]
            refine wpBk_take (i := 7) rfl (by kernel_rfl) (fun _ _ _ _ h => h) (.inl ⟨rfl, fun w' hw' => (by obtain ⟨a0, a1, a2, a3, a4, a5⟩ := hw'; go_simp; rfl)⟩) Ky1.out ?_
            simp only [List.getElem_toArray, List.getElem_cons_zero, List.getElem_cons_succ, Act.put, List.setIfInBounds_toArray, List.set_cons_succ, List.set_cons_zero]
            refine wpBk_take (i := 9) rfl (by kernel_rfl) (fun _ _ _ _ h => h) (.inl ⟨rfl, fun w' hw' => (by obtain ⟨a0, a1, a2, a3, a4, a5⟩ := hw'; go_simp; rfl)⟩) Ky1.out ?_
            simp only [List.getElem_toArray, List.getElem_cons_zero, List.getElem_cons_succ, Act.put, List.setIfInBounds_toArray, List.set_cons_succ, List.set_cons_zero]
            refine wpBk_take (i := 10) rfl (by kernel_rfl) (fun _ _ _ _ h => h) (.inl ⟨rfl, fun w' hw' => (by obtain ⟨a0, a1, a2, a3, a4, a5⟩ := hw'; go_simp; rfl)⟩) Ky1.out ?_
            simp only [List.getElem_toArray, List.getElem_cons_zero, List.getElem_cons_succ, Act.put, List.setIfInBounds_toArray, List.set_cons_succ, List.set_cons_zero]
            refine wpBk_one (i := 8) rfl (by rfl) (by kernel_rfl) (fun K hK => ?_)
            refine wp_fn (f := 37) (xs := #[.agg #[.int .u64 (x.i : Int), .int .u64 (x.t : Int), .slice A1 n1 c1], .agg #[.int .u64 (y.i : Int), .int .u64 (y.t : Int), .slice A5 n5 c5]]) (by first | (go_simp; done) | (go_simp; rfl)) (Calls.mono (CSM.out _ y1) ?_)
            rintro e vy2 ⟨rfl, h9⟩
            have y2 : Below w7.heap.size w7 vy2 := Below.trans y1 (h9.mono (Below.size y1))
            have Ky2 := Lib.hid (KT.out _ y2)
            clear h9
            refine ⟨_, rfl, hK _ _ ⟨fun _ _ => Ky2.out, ?_⟩⟩
            simp only [List.getElem_toArray, List.getElem_cons_zero, List.getElem_cons_succ, Act.put, List.setIfInBounds_toArray, List.set_cons_succ, List.set_cons_zero]
            refine wpBk_one (i := 11) rfl (by rfl) (by kernel_rfl) (fun K hK => ?_)
            refine wp_fn (f := 14) (xs := #[.agg #[.int .u64 (x.i : Int), .int .u64 (x.t : Int), .slice A1 n1 c1], .agg #[.int .u64 (y.i : Int), .int .u64 (y.t : Int), .slice A5 n5 c5]]) (by first | (go_simp; done) | (go_simp; rfl)) (Calls.mono (CRS.out _ y2) ?_)
            rintro e vy3 ⟨rfl, h9⟩
            have y3 : Below w7.heap.size w7 vy3 := Below.trans y2 (h9.mono (Below.size y2))
            have Ky3 := Lib.hid (KT.out _ y3)
            clear h9
            refine ⟨_, rfl, hK _ _ ⟨fun _ _ => Ky3.out, ?_⟩⟩
            simp only [List.getElem_toArray, List.getElem_cons_zero, List.getElem_cons_succ, Act.put, List.setIfInBounds_toArray, List.set_cons_succ, List.set_cons_zero]
            refine wpBk_takeP (i := 12) rfl (by kernel_rfl) (fun _ _ _ _ h => h) (.inl ⟨rfl, fun w' _ => (by go_simp; rfl)⟩) ?_
            simp only [List.getElem_toArray, List.getElem_cons_zero, List.getElem_cons_succ, Act.put, List.setIfInBounds_toArray, List.set_cons_succ, List.set_cons_zero]
            refine wpBk_takeP (i := 13) rfl (by kernel_rfl) (fun _ _ _ _ h => h) (.inl ⟨rfl, fun w' _ => (by go_simp; rfl)⟩) ?_
            simp only [List.getElem_toArray, List.getElem_cons_zero, List.getElem_cons_succ, Act.put, List.setIfInBounds_toArray, List.set_cons_succ, List.set_cons_zero]
            refine wpBk_takeP (i := 14) rfl (by kernel_rfl) (fun _ _ _ _ h => h) (.inl ⟨rfl, fun w' _ => (by go_simp; rfl)⟩) ?_
            simp only [List.getElem_toArray, List.getElem_cons_zero, List.getElem_cons_succ, Act.put, List.setIfInBounds_toArray, List.set_cons_succ, List.set_cons_zero]
            refine wpBk_take (i := 15) rfl (by kernel_rfl) (fun _ _ _ _ h => h) (.inl ⟨rfl, fun w' hw' => (by obtain ⟨a0, a1, a2, a3, a4, a5⟩ := hw'; go_simp; rfl)⟩) Ky3.out ?_
            simp only [List.getElem_toArray, List.getElem_cons_zero, List.getElem_cons_succ, Act.put, List.setIfInBounds_toArray, List.set_cons_succ, List.set_cons_zero]
            refine wpBk_take (i := 16) rfl (by kernel_rfl) (fun _ _ _ _ h => h) (.inl ⟨rfl, fun w' hw' => (by obtain ⟨a0, a1, a2, a3, a4, a5⟩ := hw'; go_simp; rfl)⟩) Ky3.out ?_
            simp only [List.getElem_toArray, List.getElem_cons_zero, List.getElem_cons_succ, Act.put, List.setIfInBounds_toArray, List.set_cons_succ, List.set_cons_zero]
            refine wpBk_one (i := 17) rfl (by rfl) (by kernel_rfl) (fun K hK => ?_)
            refine wp_fn (f := 11) (xs := #[.agg #[.int .u64 (x.i : Int), .int .u64 (x.t : Int), .slice A1 n1 c1]]) (by first | (go_simp; done) | (go_simp; rfl)) (Calls.mono (CSH.out _ y3) ?_)
            rintro e vy4 ⟨⟨A9, c9, l9, rfl, ho9, hv9⟩, h9⟩
            have y4 : Below w7.heap.size w7 vy4 := Below.trans y3 (h9.mono (Below.size y3))
            have Ky4 := Lib.hid (KT.out _ y4)
            have CS9 := Lib.hid (show Calls Try.prog 37 #[.agg #[.int .u64 (x.i : Int), .int .u64 (x.t : Int), .slice A1 n1 c1], .agg #[.int .u64 (x.i : Int), .int .u64 (x.t : Int), .slice A9 n1 c9]] vy4 _ from Same_any (OO1.out.below y4).sq (by omega) ho9.sq (by omega) x.i x.t x.i x.t)
            rw [show sameG ⟨x.i, x.t, vsE l1⟩ ⟨x.i, x.t, vsE l9⟩ = true from sameG_iff.2 (Lg.ext_ rfl rfl (HV1.out.trans hv9.symm))] at CS9
            clear h9
            refine ⟨_, rfl, hK _ _ ⟨fun _ _ => Ky4.out, ?_⟩⟩
            simp only [List.getElem_toArray, List.getElem_cons_zero, List.getElem_cons_succ, Act.put, List.setIfInBounds_toArray, List.set_cons_succ, List.set_cons_zero]
            refine wpBk_one (i := 18) rfl (by rfl) (by kernel_rfl) (fun K hK => ?_)
            refine wp_fn (f := 37) (xs := #[.agg #[.int .u64 (x.i : Int), .int .u64 (x.t : Int), .slice A1 n1 c1], .agg #[.int .u64 (x.i : Int), .int .u64 (x.t : Int), .slice A9 n1 c9]]) (by first | (go_simp; done) | (go_simp; rfl)) (Calls.mono (CS9.out) ?_)
            rintro e vy5 ⟨rfl, h9⟩
            have y5 : Below w7.heap.size w7 vy5 := Below.trans y4 (h9.mono (Below.size y4))
            have Ky5 := Lib.hid (KT.out _ y5)
            clear h9
            refine ⟨_, rfl, hK _ _ ⟨fun _ _ => Ky5.out, ?_⟩⟩
            simp only [List.getElem_toArray, List.getElem_cons_zero, List.getElem_cons_succ, Act.put, List.setIfInBounds_toArray, List.set_cons_succ, List.set_cons_zero]
            refine wpBk_takeP (i := 19) rfl (by kernel_rfl) (fun _ _ _ _ h => h) (.inl ⟨rfl, fun w' _ => (by go_simp; rfl)⟩) ?_
            simp only [List.getElem_toArray, List.getElem_cons_zero, List.getElem_cons_succ, Act.put, List.setIfInBounds_toArray, List.set_cons_succ, List.set_cons_zero]
            refine wpBk_takeP (i := 20) rfl (by kernel_rfl) (fun _ _ _ _ h => h) (.inl ⟨rfl, fun w' _ => (by go_simp; rfl)⟩) ?_
            simp only [List.getElem_toArray, List.getElem_cons_zero, List.getElem_cons_succ, Act.put, List.setIfInBounds_toArray, List.set_cons_succ, List.set_cons_zero]
            refine ⟨by kernel_rfl, ?_⟩
            refine NoPanic.normal ?_
            clear CS9 Ky1 Ky2 Ky3 Ky4 Ky5
            go_wp2_with fail
            try simp only [hkw]
            go_roundw
            case rel => exact ⟨k + 1, by omega, by go_num, Lib.hid (HB2.out.trans ((BB7.out.trans (y5.mono BB7.out.size)).mono HB2.out.size))⟩
            case measure => clear hkw; show n - ((k : Int) + 1).toNat < n - (k : Int).toNat; omega
      · refine ⟨none, none, none, none, rfl, (fun h9 => by cases h9), by kernel_rfl, by kernel_rfl, ⟨Below.refl _ _, (fun q e => by cases e), (fun q e => by cases e), (fun g e => by cases e), (fun g e => by cases e), (fun g g' e => by cases e)⟩⟩
    · have hd : decide ((k : Int) < (n : Int)) = false := by simp; omega
      go_wp2_with fail
      go_ret
      exact ⟨rfl, hb.out⟩

theorem own : ownKnob Try.prog.godebug = none := by kernel_rfl
theorem laidOut : laidOutB Try.prog = true := by kernel_rfl

set_option maxRecDepth 100000 in
theorem lifted (os : Os) (started : os.Started) (H : Type) (enc : TypeId × Value → H) :
    ReturnsInHanded {} Try.checked os 6 .any (Rows.logChecksSpec.pre6 enc Try.prog Try.f6 Rows.logChecksRow.domain false) (Rows.logChecksSpec.post enc Try.prog Try.f6 false true false false) := by
  refine returnsInHanded_of_change (C := Try.checked) own started (by kernel_rfl) Try.func6
    (ChangeSpec.witness6 (enc := enc) (C := Try.checked) false ⟨#[], #[.slice none 0 0, .int .u64 0], []⟩ 8 (by kernel_rfl) (by kernel_rfl) (by kernel_rfl) (by kernel_rfl)) ?_
  intro W base args ds gs before hval0 hW hcnd _
  have hval : ∀ (j : Nat) t v, Try.f6.params[j]? = some t → args[j]? = some v → Value.okWide Try.prog W .any base t v := hval0
  have hW' := hW
  obtain ⟨p, q, hA0, hV, rfl, hfz, hnd⟩ := hW
  have hA : DataW.TrodAll enc Try.prog W 0 (fun _ => true) true Try.f6.params.toList args.toList ds p := hA0
  rw [Try.params6] at hA hval
  obtain ⟨v0, vs0, d0, ds0, p0, q0, hargs, rfl, rfl, h0, r0⟩ := trodAll_cons hA
  obtain ⟨v1, vs1, d1, ds1, p1, q1, rfl, rfl, rfl, h1, r1⟩ := trodAll_cons r0
  obtain ⟨rfl, rfl, rfl⟩ := trodAll_nil r1
  obtain rfl : args = #[v0, v1] := by cases args; simp_all
  obtain ⟨rfl, rfl⟩ := trodVars_none hV
  have k0 := h0
  have lt0 : ∀ x ∈ p0, x.block < W.heap.size := by obtain ⟨m, hm⟩ := k0; exact DataW.trod_lt m _ _ _ hm
  obtain ⟨y0, len0, cap0, rfl⟩ := okWide_slice Try.underlying64 (hval 0 64 v0 rfl rfl)
  obtain ⟨fuel0, hf0⟩ := h0
  obtain ⟨A0, n0, c0, l0, eq0, s0⟩ := logs_arg (show DataW.trod enc Try.prog W 0 (fun _ => true) true fuel0 64 [.slice y0 len0 cap0] = some _ from hf0)
  injection eq0 with eqa0 eqb0 eqc0
  subst eqa0 eqb0 eqc0
  have k1 := h1
  have lt1 : ∀ x ∈ p1, x.block < W.heap.size := by obtain ⟨m, hm⟩ := k1; exact DataW.trod_lt m _ _ _ hm
  obtain ⟨z1, rfl, e1, f1, w1⟩ := open_int Try.underlying22 (hval 1 22 v1 rfl rfl) h1
  have b1 := bounds_u64 w1
  obtain ⟨a1, rfl⟩ : ∃ a1 : Nat, z1 = (a1 : Int) := ⟨z1.toNat, by omega⟩
  clear hA0 hval0
  refine (walk s0 a1 (by omega)).mono fun e W' ⟨he, bel⟩ => ?_
  subst he
  exact ⟨_, rfl, _, _, _, [], _, [], hW', trodAll_mk1 (shut_bool Try.underlying4 _), (trodAll_cons_mk (Below.trod laidOut (by kernel_rfl) (of_decide_eq_true (by kernel_rfl)) k0 bel lt0) (trodAll_cons_mk (Below.trod laidOut (by kernel_rfl) (of_decide_eq_true (by kernel_rfl)) k1 bel lt1) trodAll_mk0)), rfl, bel.frame _, fun h => by cases h⟩

theorem over : Rows.logChecksRow.holds Try.pinned (OpenSpec.ofChange Rows.logChecksSpec) :=
  OpenClaim.holds_of_wide 6 Try.f6 rfl rfl rfl rfl rfl rfl rfl ⟨rfl, rfl, rfl, rfl, rfl⟩ rfl rfl rfl rfl rfl (by kernel_rfl) Try.func6 (by kernel_rfl)
    (of_decide_eq_true (by kernel_rfl)) (by unfold Func.isWrapper; first | (rw [if_pos (by decide +kernel)]; kernel_rfl) | (rw [if_neg (by decide +kernel)]; exact ⟨rfl, rfl⟩))
    (fun os started H enc _ => lifted os started H enc)

theorem proved : Rows.LogChecksSaid := over
#print axioms proved
end Go.Proofs.Ytgdcahakefmakaa.logChecks
