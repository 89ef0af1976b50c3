/-
  PROVED HERE: the law ObjectSame of layer 6 (object): whether two objects are the same is told as the document says, and an object is the same as a copy of it. Conditions: the package variable sha.constants holds what the program's text lays (the card ties it).
-/
import Derived.Test.YtnkhoghdfncgpaaDoorK40
import Derived.Test.YtnkhoghdfncgpaaDoorK41
import Derived.Test.YtnkhoghdfncgpaaDoorCards
import Derived.Test.YtnkhoghdfncgpaaDoorTie
import Derived.SevenTiedAt
namespace Go.Proofs.YtnkhoghdfncgpaaDoor.objectSame
open Go.ChangeShapes Go.WideShapes Go.ChangeAt Go.RowKit
set_option linter.unusedVariables false
set_option linter.unusedSimpArgs false
open Go.Deep Go.Shelf
attribute [local irreducible] wpQuiet

set_option maxRecDepth 100000 in
set_option maxHeartbeats 8000000 in
theorem walk {w : World} {x y : Ov} {L P E L' P' E' : Sl} (hx : Obj3 w w.heap.size x L P E) (hy : Obj3 w w.heap.size y L' P' E') (hg : S3.GK w) :
    Calls Tryd.prog 3 #[ofV (x.at_ L P E), ofV (y.at_ L' P' E')] w fun e w' => e = .returned (.bool true) ∧ Below w.heap.size w w' := by
  have h00 := hg.lt
  have HG := Lib.hid hg
  obtain ⟨X, hX⟩ : ∃ X, w.heap.size = X := ⟨_, rfl⟩
  obtain ⟨xo, hxo⟩ : ∃ o, x.at_ L P E = o := ⟨_, rfl⟩
  obtain ⟨yo, hyo⟩ : ∃ o, y.at_ L' P' E' = o := ⟨_, rfl⟩
  obtain ⟨w0, hw0⟩ : ∃ w0, (w.alloc (.cells xo.cells.toArray 31)).alloc (.cells yo.cells.toArray 31) = w0 := ⟨_, rfl⟩
  have B0 : Hid (Below w.heap.size w w0 ∧ w0.heap.size = X + 1 + 1) := Lib.hid (by rw [← hw0]; exact ⟨((Below.refl _ _).alloc (Nat.le_refl _) _).alloc (by simp) _, by simp [hX]⟩)
  have X0 : Hid (Lies w0 X 73 xo.cells) := Lib.hid (by
    rw [← hw0, ← hX]
    have := (Lies.new w xo.cells 31).alloc (.cells yo.cells.toArray 31)
    rwa [of_sz] at this)
  have X1 : Hid (Lies w0 (X + 1) 73 yo.cells) := Lib.hid (by
    rw [← hw0, ← hX]
    have := Lies.new (w.alloc (.cells xo.cells.toArray 31)) yo.cells 31
    rwa [World.size_alloc, of_sz] at this)
  have HW := Lib.hid hw0
  have HXO := Lib.hid hxo
  have HYO := Lib.hid hyo
  have HXX := Lib.hid hx
  have HYY := Lib.hid hy
  rw [hxo, hyo]
  clear hw0 hxo hyo hx hy hg
  go_enter Tryd.func3, Tryd.ntmps3
  go_upto_region 1 with fail
  rw [HW.out]
  (try simp only [World.size_alloc])
  (try rw [hX])
  go_wp2_with fail
  refine (owakes_any (gk_keep HG.out B0.out.1 h00)).mono ?_
  rintro e w1 ⟨rfl, hb1⟩
  have B1 : Hid (Below w.heap.size w w1 ∧ X + 1 < w1.heap.size) := Lib.hid ⟨B0.out.1.trans (hb1.mono B0.out.1.size), by have := B0.out.2; have := hb1.size; omega⟩
  have Y0 := Lib.hid (X0.out.below hb1 X0.out.lt)
  have Y1 := Lib.hid (X1.out.below hb1 X1.out.lt)
  clear hb1 X0 X1 B0 HW
  go_upto_region 3 with fail
  obtain ⟨wd, hwd⟩ : ∃ wd, w1.drew = wd := ⟨_, rfl⟩
  have BD : Hid (Below w.heap.size w wd ∧ X + 1 < wd.heap.size) := Lib.hid (by rw [← hwd]; exact ⟨B1.out.1.trans (Below.refl _ _).drew, B1.out.2⟩)
  have T0 : Hid (Lies wd X 73 xo.cells) := Lib.hid (by rw [← hwd]; exact Y0.out.below (Below.refl _ _).drew Y0.out.lt)
  have T1 : Hid (Lies wd (X + 1) 73 yo.cells) := Lib.hid (by rw [← hwd]; exact Y1.out.below (Below.refl _ _).drew Y1.out.lt)
  refine wp_region_noPanic (wp_region_any (by kernel_rfl) (wpAny_of_bk (S := fun w' => w'.rangeAt (X + 1) 0 yo.cells) (m := 5) _ _ _ _ ?_))
  show wpBk _ _ _ _ _ _ 6 _ _ w1.drew
  rw [hwd]
  clear hwd Y0 Y1 B1
  refine wpBk_take (i := 2) rfl (by kernel_rfl) (fun _ _ _ _ h => h) (of_yield (.tmp 3) rfl rfl (X + 1) yo rfl (fun w' hw' => hw')) T1.out.rg ?_
  simp only [List.getElem_toArray, List.getElem_cons_zero, List.getElem_cons_succ, Act.put, List.setIfInBounds_toArray, List.set_cons_succ, List.set_cons_zero]
  refine wpBk_one (i := 0) rfl rfl (by kernel_rfl) (fun K hK => ?_)
  refine wp_load_mid _ (.tmp 2) rfl X 0 rfl xo.cells _ T0.out.rg Tryd.underlying31 rfl (by rw [of_sz]; exact size_of) ?_
  refine hK _ _ ⟨fun h9 _ => h9, ?_⟩
  simp only [List.getElem_toArray, List.getElem_cons_zero, List.getElem_cons_succ, Act.put, List.setIfInBounds_toArray, List.set_cons_succ, List.set_cons_zero]
  have CX : Hid (Calls Tryd.prog 7 #[ofV xo] wd fun e w' => (∃ L' P' E', e = .returned (ofV ((shortO x).at_ L' P' E')) ∧ Obj3 w' w'.heap.size (shortO x) L' P' E' ∧ OwnO w' wd.heap.size (shortO x) L' P' E' ∧ L'.n ≤ 33 ∧ P'.n ≤ 4 ∧ E'.n ≤ 33) ∧ Below wd.heap.size wd w') := Lib.hid (by rw [← HXO.out]; exact short_any ((HXX.out.below BD.out.1).more BD.out.1.size))
  refine wpBk_one (i := 1) rfl rfl (by kernel_rfl) (fun K hK => ?_)
  refine wp_fn (f := 7) (xs := #[ofV xo]) (by first | (go_simp; done) | (go_simp; rfl)) (CX.out.mono ?_)
  rintro e w2 ⟨⟨L1, P1, E1, rfl, ob1, ow1, nn1⟩, hb2⟩
  have OW1 := Lib.hid ow1
  have K1 := Lib.hid ob1.num_
  have N1 := Lib.hid nn1
  have B2 : Hid (Below w.heap.size w w2 ∧ Below wd.heap.size wd w2) := Lib.hid ⟨BD.out.1.trans (hb2.mono BD.out.1.size), hb2⟩
  have U0 := Lib.hid (T0.out.below hb2 T0.out.lt)
  have U1 := Lib.hid (T1.out.below hb2 T1.out.lt)
  clear ob1 ow1 nn1 hb2 CX
  refine ⟨_, rfl, hK _ _ ⟨fun _ _ => U1.out.rg, ?_⟩⟩
  obtain ⟨xs, hxs⟩ : ∃ o, (shortO x).at_ L1 P1 E1 = o := ⟨_, rfl⟩
  rw [hxs]
  have HXS := Lib.hid hxs
  clear hxs
  simp only [List.getElem_toArray, List.getElem_cons_zero, List.getElem_cons_succ, Act.put, List.setIfInBounds_toArray, List.set_cons_succ, List.set_cons_zero]
  have CY : Hid (Calls Tryd.prog 7 #[ofV yo] w2 fun e w' => (∃ L' P' E', e = .returned (ofV ((shortO y).at_ L' P' E')) ∧ Obj3 w' w'.heap.size (shortO y) L' P' E' ∧ OwnO w' w2.heap.size (shortO y) L' P' E' ∧ L'.n ≤ 33 ∧ P'.n ≤ 4 ∧ E'.n ≤ 33) ∧ Below w2.heap.size w2 w') := Lib.hid (by rw [← HYO.out]; exact short_any ((HYY.out.below B2.out.1).more B2.out.1.size))
  refine wpBk_one (i := 3) rfl rfl (by kernel_rfl) (fun K hK => ?_)
  refine wp_fn (f := 7) (xs := #[ofV yo]) (by first | (go_simp; done) | (go_simp; rfl)) (CY.out.mono ?_)
  rintro e w3 ⟨⟨L2, P2, E2, rfl, ob2, ow2, nn2⟩, hb3⟩
  have OW2 := Lib.hid (own_base_o ow2 B2.out.2.size)
  have OW1b := Lib.hid (OW1.out.below hb3)
  have K2 := Lib.hid ob2.num_
  have N2 := Lib.hid nn2
  have B3 : Hid (Below w.heap.size w w3) := Lib.hid (B2.out.1.trans (hb3.mono B2.out.1.size))
  have V0 := Lib.hid (U0.out.below hb3 U0.out.lt)
  have V1 := Lib.hid (U1.out.below hb3 U1.out.lt)
  clear ob2 ow2 nn2 hb3 CY U0 U1 OW1 T0 T1
  refine ⟨_, rfl, hK _ _ ⟨fun _ _ => V1.out.rg, ?_⟩⟩
  obtain ⟨ys, hys⟩ : ∃ o, (shortO y).at_ L2 P2 E2 = o := ⟨_, rfl⟩
  rw [hys]
  have HYS := Lib.hid hys
  clear hys
  simp only [List.getElem_toArray, List.getElem_cons_zero, List.getElem_cons_succ, Act.put, List.setIfInBounds_toArray, List.set_cons_succ, List.set_cons_zero]
  have OX : Hid (xs.lv.oneCell' = true ∧ xs.pv.oneCell' = true ∧ xs.ev.oneCell' = true) := Lib.hid (by rw [← HXS.out]; exact at_one _ _ _ _)
  have OY : Hid (ys.lv.oneCell' = true ∧ ys.pv.oneCell' = true ∧ ys.ev.oneCell' = true) := Lib.hid (by rw [← HYS.out]; exact at_one _ _ _ _)
  obtain ⟨w4, hw4⟩ : ∃ w4, w3.setCells X 0 xs.cells = w4 := ⟨_, rfl⟩
  obtain ⟨w5, hw5⟩ : ∃ w5, w4.setCells (X + 1) 0 ys.cells = w5 := ⟨_, rfl⟩
  have T4 : Hid (Lies w4 (X + 1) 73 yo.cells) := Lib.hid (by rw [← hw4]; exact V1.out.other (by omega) _ _)
  have V4 : Hid (Lies w4 X 73 xs.cells) := Lib.hid (by rw [← hw4]; exact V0.out.set_ (of_sz _))
  have Z0 : Hid (Lies w5 X 73 xs.cells) := Lib.hid (by rw [← hw5]; exact V4.out.other (by omega) _ _)
  have Z1 : Hid (Lies w5 (X + 1) 73 ys.cells) := Lib.hid (by rw [← hw5]; exact T4.out.set_ (of_sz _))
  have B5 : Hid (Below w.heap.size w w5) := Lib.hid (by rw [← hw5, ← hw4]; exact below_setCells (below_setCells B3.out (by omega) _ _) (by omega) _ _)
  have Q1 : Hid (OwnO w5 wd.heap.size (shortO x) L1 P1 E1) := Lib.hid (by have := BD.out.2; rw [← hw5, ← hw4]; exact (OW1b.out.set_ (by omega) _ _).set_ (by omega) _ _)
  have Q2 : Hid (OwnO w5 wd.heap.size (shortO y) L2 P2 E2) := Lib.hid (by have := BD.out.2; rw [← hw5, ← hw4]; exact (OW2.out.set_ (by omega) _ _).set_ (by omega) _ _)
  have HW4 := Lib.hid hw4
  have HW5 := Lib.hid hw5
  have TX := Lib.hid V0.out.th
  have TY := Lib.hid T4.out.th
  clear hw4 hw5 OW1b OW2 V4 V0 V1 B3 B2
  refine wpBk_one (i := 4) rfl rfl (by kernel_rfl) (fun K hK => ?_)
  refine wp_store_mid _ (.tmp 2) (.tmp 8) rfl X 0 xs.cells.toArray rfl rfl (by have := TX.out; simpa [of_sz] using this) (by simpa [of_sz] using size_of) (of_one OX.out.1 OX.out.2.1 OX.out.2.2) ?_
  rw [show xs.cells.toArray.toList = xs.cells from rfl, HW4.out]
  refine hK _ _ ⟨fun _ _ => T4.out.rg, ?_⟩
  simp only [List.getElem_toArray, List.getElem_cons_zero, List.getElem_cons_succ, Act.put, List.setIfInBounds_toArray, List.set_cons_succ, List.set_cons_zero]
  refine bk_drop 5 1 rfl (by omega) (by kernel_rfl) ?_
  simp only [List.drop_succ_cons, List.drop_zero]
  go_wp2_with (first
    | ((with_reducible refine sto (.tmp 3) (.tmp 10) ?_ ?_ (X + 1) 0 ys ?_ ?_ TY.out OY.out.1 OY.out.2.1 OY.out.2.2 ?_); rfl; rfl; rfl; rfl; rw [HW5.out])
    | fail)
  refine NoPanic.normal ?_
  go_upto_region 4 with fail
  clear TX TY OX OY HW4 HW5 T4
  obtain ⟨q, hq⟩ : ∃ q, sameO (shortO x) (shortO y) = q := ⟨_, rfl⟩
  have HQ := Lib.hid hq
  clear hq
  obtain ⟨wd4, hwd4⟩ : ∃ wd4, w5.drew = wd4 := ⟨_, rfl⟩
  have D4 : Hid (Below w.heap.size w wd4) := Lib.hid (by rw [← hwd4]; exact B5.out.trans (Below.refl _ _).drew)
  have F0 : Hid (Lies wd4 X 73 xs.cells) := Lib.hid (by rw [← hwd4]; exact Z0.out.below (Below.refl _ _).drew Z0.out.lt)
  have F1 : Hid (Lies wd4 (X + 1) 73 ys.cells) := Lib.hid (by rw [← hwd4]; exact Z1.out.below (Below.refl _ _).drew Z1.out.lt)
  have G1 : Hid (OwnO wd4 wd.heap.size (shortO x) L1 P1 E1) := Lib.hid (by rw [← hwd4]; exact Q1.out.below (Below.refl _ _).drew)
  have G2 : Hid (OwnO wd4 wd.heap.size (shortO y) L2 P2 E2) := Lib.hid (by rw [← hwd4]; exact Q2.out.below (Below.refl _ _).drew)
  refine wp_region_noPanic (wp_region_any (by kernel_rfl) (wpAny_of_bk (S := (fun w' => w'.rangeAt X 0 xs.cells ∧ w'.rangeAt (X + 1) 0 ys.cells)) (m := 13) _ _ _ _ ?_))
  show wpBk _ _ _ _ _ _ 14 _ _ w5.drew
  rw [hwd4]
  clear hwd4 Z0 Z1 B5 Q1 Q2
  refine wpBk_take (i := 0) rfl (by kernel_rfl) (fun _ _ _ _ h => h) (of_yield (.tmp 2) rfl rfl (X) xs rfl (fun w' hw' => hw'.1)) ⟨F0.out.rg, F1.out.rg⟩ ?_
  simp only [List.getElem_toArray, List.getElem_cons_zero, List.getElem_cons_succ, Act.put, List.setIfInBounds_toArray, List.set_cons_succ, List.set_cons_zero]
  refine wpBk_take (i := 1) rfl (by kernel_rfl) (fun _ _ _ _ h => h) (of_yield (.tmp 3) rfl rfl (X + 1) ys rfl (fun w' hw' => hw'.2)) ⟨F0.out.rg, F1.out.rg⟩ ?_
  simp only [List.getElem_toArray, List.getElem_cons_zero, List.getElem_cons_succ, Act.put, List.setIfInBounds_toArray, List.set_cons_succ, List.set_cons_zero]
  refine wpBk_take (i := 3) rfl (by kernel_rfl) (fun _ _ _ _ h => h) (of_yield (.tmp 2) rfl rfl (X) xs rfl (fun w' hw' => hw'.1)) ⟨F0.out.rg, F1.out.rg⟩ ?_
  simp only [List.getElem_toArray, List.getElem_cons_zero, List.getElem_cons_succ, Act.put, List.setIfInBounds_toArray, List.set_cons_succ, List.set_cons_zero]
  refine wpBk_take (i := 4) rfl (by kernel_rfl) (fun _ _ _ _ h => h) (of_yield (.tmp 3) rfl rfl (X + 1) ys rfl (fun w' hw' => hw'.2)) ⟨F0.out.rg, F1.out.rg⟩ ?_
  simp only [List.getElem_toArray, List.getElem_cons_zero, List.getElem_cons_succ, Act.put, List.setIfInBounds_toArray, List.set_cons_succ, List.set_cons_zero]
  have C1 : Hid (∀ W, Below wd4.heap.size wd4 W → Calls Tryd.prog 8 #[ofV xs, ofV ys] W fun e w' => e = .returned (.bool q) ∧ Below W.heap.size W w') := Lib.hid fun W hW => by rw [← HQ.out, ← HXS.out, ← HYS.out]; exact Same_any ((G1.out.below hW).obj K1.out) ((G2.out.below hW).obj K2.out) (by have := N1.out.1; omega) (by have := N1.out.2.1; omega) (by have := N1.out.2.2; omega)
  have C2 : Hid (∀ W, Below wd4.heap.size wd4 W → Calls Tryd.prog 9 #[ofV xs, ofV ys] W fun e w' => e = .returned (.bool q) ∧ Below W.heap.size W w') := Lib.hid fun W hW => by rw [← HQ.out, ← HXS.out, ← HYS.out]; exact refO_any ((G1.out.below hW).obj K1.out) ((G2.out.below hW).obj K2.out) (by have := N1.out.1; omega) (by have := N1.out.2.1; omega) (by have := N1.out.2.2; omega)
  have C3 : Hid (∀ W, Below wd4.heap.size wd4 W → Calls Tryd.prog 7 #[ofV xs] W fun e w' => (∃ L' P' E', e = .returned (ofV ((shortO x).at_ L' P' E')) ∧ Obj3 w' w'.heap.size (shortO x) L' P' E' ∧ L'.n ≤ 33 ∧ P'.n ≤ 4 ∧ E'.n ≤ 33) ∧ Below W.heap.size W w') := Lib.hid fun W hW => by
    have h9 := short_any ((G1.out.below hW).obj K1.out)
    rw [short_short, HXS.out] at h9
    exact h9.mono fun e w' ⟨⟨a, b, c, d, f, _, g⟩, k⟩ => ⟨⟨a, b, c, d, f, g⟩, k⟩
  refine wpBk_one (i := 2) rfl rfl (by kernel_rfl) (fun K hK => ?_)
  refine wp_fn (f := 8) (xs := #[ofV xs, ofV ys]) (by first | (go_simp; done) | (go_simp; rfl)) ((C1.out wd4 (Below.refl _ _)).mono ?_)
  rintro e w6 ⟨rfl, hb6⟩
  have A6 := Lib.hid hb6
  have J0 := Lib.hid (F0.out.below hb6 F0.out.lt)
  have J1 := Lib.hid (F1.out.below hb6 F1.out.lt)
  clear hb6
  refine ⟨_, rfl, hK _ _ ⟨fun _ _ => ⟨J0.out.rg, J1.out.rg⟩, ?_⟩⟩
  simp only [List.getElem_toArray, List.getElem_cons_zero, List.getElem_cons_succ, Act.put, List.setIfInBounds_toArray, List.set_cons_succ, List.set_cons_zero]
  refine wpBk_one (i := 5) rfl rfl (by kernel_rfl) (fun K hK => ?_)
  refine wp_fn (f := 9) (xs := #[ofV xs, ofV ys]) (by first | (go_simp; done) | (go_simp; rfl)) ((C2.out w6 A6.out).mono ?_)
  rintro e w7 ⟨rfl, hb7⟩
  have A7 := Lib.hid (A6.out.trans (hb7.mono A6.out.size))
  have M0 := Lib.hid (J0.out.below hb7 J0.out.lt)
  have M1 := Lib.hid (J1.out.below hb7 J1.out.lt)
  clear hb7 J0 J1 A6 F0 F1
  refine ⟨_, rfl, hK _ _ ⟨fun _ _ => ⟨M0.out.rg, M1.out.rg⟩, ?_⟩⟩
  simp only [List.getElem_toArray, List.getElem_cons_zero, List.getElem_cons_succ, Act.put, List.setIfInBounds_toArray, List.set_cons_succ, List.set_cons_zero]
  have hqq : (q == q) = true := beq_self_eq_true q
  refine wpBk_takeP (i := 6) rfl (by kernel_rfl) (fun _ _ _ _ h => h) (.inl ⟨rfl, fun w' hw' => (by clear hw'; go_simp; (try rw [hqq]); (try rfl))⟩) ?_
  simp only [List.getElem_toArray, List.getElem_cons_zero, List.getElem_cons_succ, Act.put, List.setIfInBounds_toArray, List.set_cons_succ, List.set_cons_zero]
  refine wpBk_takeP (i := 7) rfl (by kernel_rfl) (fun _ _ _ _ h => h) (.inl ⟨rfl, fun w' hw' => (by clear hw'; go_simp; (try rfl))⟩) ?_
  simp only [List.getElem_toArray, List.getElem_cons_zero, List.getElem_cons_succ, Act.put, List.setIfInBounds_toArray, List.set_cons_succ, List.set_cons_zero]
  refine wpBk_take (i := 8) rfl (by kernel_rfl) (fun _ _ _ _ h => h) (of_yield (.tmp 2) rfl rfl (X) xs rfl (fun w' hw' => hw'.1)) ⟨M0.out.rg, M1.out.rg⟩ ?_
  simp only [List.getElem_toArray, List.getElem_cons_zero, List.getElem_cons_succ, Act.put, List.setIfInBounds_toArray, List.set_cons_succ, List.set_cons_zero]
  refine wpBk_take (i := 9) rfl (by kernel_rfl) (fun _ _ _ _ h => h) (of_yield (.tmp 2) rfl rfl (X) xs rfl (fun w' hw' => hw'.1)) ⟨M0.out.rg, M1.out.rg⟩ ?_
  simp only [List.getElem_toArray, List.getElem_cons_zero, List.getElem_cons_succ, Act.put, List.setIfInBounds_toArray, List.set_cons_succ, List.set_cons_zero]
  refine wpBk_one (i := 10) rfl rfl (by kernel_rfl) (fun K hK => ?_)
  refine wp_fn (f := 7) (xs := #[ofV xs]) (by first | (go_simp; done) | (go_simp; rfl)) ((C3.out w7 A7.out).mono ?_)
  rintro e w8 ⟨⟨L3, P3, E3, rfl, ob3, nn3⟩, hb8⟩
  have A8 := Lib.hid (A7.out.trans (hb8.mono A7.out.size))
  have OB := Lib.hid ob3
  have R0 := Lib.hid (M0.out.below hb8 M0.out.lt)
  have R1 := Lib.hid (M1.out.below hb8 M1.out.lt)
  clear hb8 M0 M1 A7 ob3
  refine ⟨_, rfl, hK _ _ ⟨fun _ _ => ⟨R0.out.rg, R1.out.rg⟩, ?_⟩⟩
  obtain ⟨zs, hzs⟩ : ∃ o, (shortO x).at_ L3 P3 E3 = o := ⟨_, rfl⟩
  rw [hzs]
  have HZS := Lib.hid hzs
  clear hzs
  simp only [List.getElem_toArray, List.getElem_cons_zero, List.getElem_cons_succ, Act.put, List.setIfInBounds_toArray, List.set_cons_succ, List.set_cons_zero]
  have C4 : Hid (Calls Tryd.prog 8 #[ofV xs, ofV zs] w8 fun e w' => e = .returned (.bool true) ∧ Below w8.heap.size w8 w') := Lib.hid (by rw [← sameO_refl (shortO x), ← HXS.out, ← HZS.out]; exact Same_any ((G1.out.below A8.out).obj K1.out) OB.out (by have := N1.out.1; omega) (by have := N1.out.2.1; omega) (by have := N1.out.2.2; omega))
  refine wpBk_one (i := 11) rfl rfl (by kernel_rfl) (fun K hK => ?_)
  refine wp_fn (f := 8) (xs := #[ofV xs, ofV zs]) (by first | (go_simp; done) | (go_simp; rfl)) ((C4.out).mono ?_)
  rintro e w9 ⟨rfl, hb9⟩
  have A9 := Lib.hid (D4.out.trans ((A8.out.trans (hb9.mono A8.out.size)).mono D4.out.size))
  have I0 := Lib.hid (R0.out.below hb9 R0.out.lt)
  have I1 := Lib.hid (R1.out.below hb9 R1.out.lt)
  clear hb9 R0 R1
  refine ⟨_, rfl, hK _ _ ⟨fun _ _ => ⟨I0.out.rg, I1.out.rg⟩, ?_⟩⟩
  simp only [List.getElem_toArray, List.getElem_cons_zero, List.getElem_cons_succ, Act.put, List.setIfInBounds_toArray, List.set_cons_succ, List.set_cons_zero]
  refine wpBk_takeP (i := 12) rfl (by kernel_rfl) (fun _ _ _ _ h => h) (.inl ⟨rfl, fun w' hw' => (by clear hw'; go_simp; (try rfl))⟩) ?_
  simp only [List.getElem_toArray, List.getElem_cons_zero, List.getElem_cons_succ, Act.put, List.setIfInBounds_toArray, List.set_cons_succ, List.set_cons_zero]
  refine bk_drop 13 1 rfl (by omega) (by kernel_rfl) ?_
  simp only [List.drop_succ_cons, List.drop_zero]
  go_wp2_with fail
  refine NoPanic.normal ?_
  go_wp2_with fail
  go_ret
  exact ⟨rfl, A9.out⟩

set_option maxRecDepth 100000 in
theorem lifted (os : Os) (started : os.Started) (H : Type) (enc : TypeId × Value → H) :
    ReturnsInHanded {} Tryd.checked os 3 .any (fun w args => (Rows.objectSameSpec.pre enc Tryd.prog Tryd.f3 [] false w args ∧ laidMetH Tryd.prog S3.laidL w) ∧ sizedMet enc Tryd.prog Tryd.f3 (OpenSpec.ofChange Rows.objectSameSpec) false w args)
      (Rows.objectSameSpec.post enc Tryd.prog Tryd.f3 false true false false) := by
  refine returnsInHanded_of_change_and (C := Tryd.checked) (X := fun w _ => laidMetH Tryd.prog S3.laidL w) (fun _ _ _ hh h => h.of_heap hh) S3.own started (by kernel_rfl) Tryd.func3
    (ChangeSpec.witness_shaped (enc := enc) (C := Tryd.checked) (os := os) (X := fun w _ => laidMetH Tryd.prog S3.laidL w) false (World.doorLaid Tryd.prog 14 os) #[.agg (#[.int .i64 0, .string ByteArray.empty, .slice none 0 0, .int .i64 0] ++ Array.replicate 64 (.int .u8 0) ++ #[.slice none 0 0, .slice none 0 0, .int .u32 0, .int .u32 0, .string ByteArray.empty]), .agg (#[.int .i64 0, .string ByteArray.empty, .slice none 0 0, .int .i64 0] ++ Array.replicate 64 (.int .u8 0) ++ #[.slice none 0 0, .slice none 0 0, .int .u32 0, .int .u32 0, .string ByteArray.empty])] 8 rfl (World.shaped_of_RefB (by kernel_rfl) (by kernel_rfl)) (by kernel_rfl) (by kernel_rfl) (by kernel_rfl) (S3.door_met os _)) ?_
  intro W base args ds gs before hval0 hW _ _ hL _
  have hval : ∀ (j : Nat) t v, Tryd.f3.params[j]? = some t → args[j]? = some v → Value.okWide Tryd.prog W .any base t v := hval0
  have hW' := hW
  obtain ⟨p, q, hA0, hV, rfl, hfz, hnd⟩ := hW
  have hA : DataW.TrodAll enc Tryd.prog W 0 (fun _ => true) true Tryd.f3.params.toList args.toList ds p := hA0
  rw [Tryd.params3] at hA hval
  obtain ⟨v0, vs0, d0, ds0, p0, q0, hargs, rfl, rfl, h0, r0⟩ := trodAll_cons hA
  obtain ⟨v1, vs1, d1, ds1, p1, q1, rfl, rfl, rfl, h1, r1⟩ := trodAll_cons r0
  obtain ⟨rfl, rfl, rfl⟩ := trodAll_nil r1
  obtain rfl : args = #[v0, v1] := by cases args; simp_all
  obtain ⟨rfl, rfl⟩ := trodVars_none hV
  have hGK := S3.gk_of_laid hL
  have k0 := h0
  have lt0 : ∀ x ∈ p0, x.block < W.heap.size := by obtain ⟨m, hm⟩ := k0; exact DataW.trod_lt m _ _ _ hm
  obtain ⟨x0, L0, P0, E0, rfl, s0⟩ := obj_arg (hval 0 31 v0 rfl rfl) h0
  have k1 := h1
  have lt1 : ∀ x ∈ p1, x.block < W.heap.size := by obtain ⟨m, hm⟩ := k1; exact DataW.trod_lt m _ _ _ hm
  obtain ⟨x1, L1, P1, E1, rfl, s1⟩ := obj_arg (hval 1 31 v1 rfl rfl) h1
  clear hA0 hval0
  refine (walk s0 s1 hGK).mono fun e W' ⟨he, bel⟩ => ?_
  subst he
  exact ⟨_, rfl, _, _, _, [], _, [], hW', trodAll_mk1 (shut_bool Tryd.underlying4 _), (trodAll_cons_mk (Below.trod S3.laidOut (by kernel_rfl) (of_decide_eq_true (by kernel_rfl)) k0 bel lt0) (trodAll_cons_mk (Below.trod S3.laidOut (by kernel_rfl) (of_decide_eq_true (by kernel_rfl)) k1 bel lt1) trodAll_mk0)), rfl, bel.frame _, fun h => by cases h⟩

theorem over : Rows.objectSameRow.holds Tryd.pinned (OpenSpec.ofChange Rows.objectSameSpec) :=
  OpenClaim.holds_of_wide 3 Tryd.f3 rfl rfl rfl rfl rfl rfl rfl ⟨rfl, rfl, rfl, rfl, rfl⟩ rfl rfl rfl rfl rfl (by kernel_rfl) Tryd.func3 (by kernel_rfl)
    (of_decide_eq_true (by kernel_rfl)) (by unfold Func.isWrapper; first | (rw [if_pos (by decide +kernel)]; kernel_rfl) | (rw [if_neg (by decide +kernel)]; exact ⟨rfl, rfl⟩))
    (fun os started H enc _ => lifted os started H enc)

theorem proved : Rows.ObjectSameCardSaid :=
  Claim7.holds_tied_plain_at .later [] [.data] true Rows.objectSameCard.stood.harness false
    over (fun _ h => by cases h) (by kernel_rfl) (fun _ h => by cases h) objectSame_row_tie rfl ⟨rfl, rfl⟩ (by kernel_rfl) rfl
    (fun f fn hf hfn => by
      obtain rfl : f = 3 := Option.some.inj ((show Tryd.prog.funcNamed "confluence/confluencelaw06.ObjectSame" = some 3 by kernel_rfl).symm.trans hf) |>.symm
      obtain rfl : fn = Tryd.f3 := (Option.some.inj (Tryd.func3.symm.trans hfn)).symm
      exact ⟨by kernel_rfl, fun j t ht => by
        have hall : (Tryd.f3.params.all fun u => !Tryd.prog.wantsStandIn u) = true := by kernel_rfl
        have := Array.all_eq_true_iff_forall_mem.1 hall t (Array.mem_of_getElem? ht)
        exact (by simpa using this : Tryd.prog.wantsStandIn t = false)⟩)
    (by kernel_rfl)
#print axioms proved
end Go.Proofs.YtnkhoghdfncgpaaDoor.objectSame
