/-
  PROVED HERE: the law ShaTexts of layer 3 (sha): the text of any digest is the document's, and any text (its first 200 bytes) parses to what the document says, or is refused where the document refuses it. Conditions: the package variable sha.constants holds what the program's text lays (the card ties it).
-/
import Derived.Test.YtgbpbbjglikheaaDoorRefT
import Derived.Test.YtgbpbbjglikheaaDoorFrame
import Derived.Test.YtgbpbbjglikheaaDoorCards
import Derived.Test.YtgbpbbjglikheaaDoorTie
import Derived.SevenTiedAt
namespace Go.Proofs.YtgbpbbjglikheaaDoor.shaTexts
open Go.ChangeShapes Go.WideShapes Go.ChangeAt Go.RowKit
set_option linter.unusedVariables false
set_option linter.unusedSimpArgs false

structure Tt (w : World) (g0 g1 g2 : Nat) (x y : List UInt8) : Prop where
  a : Lies w g0 32 (bvs x)
  b : Lies w g1 32 (bvs y)
  c : Lies w g2 32 (bvs y)
section
variable {w w' : World} {g0 g1 g2 : Nat} {x y : List UInt8}
theorem Tt.below (h : Tt w g0 g1 g2 x y) (hb : Below w.heap.size w w') : Tt w' g0 g1 g2 x y := ⟨h.a.below hb h.a.lt, h.b.below hb h.b.lt, h.c.below hb h.c.lt⟩
end
theorem below_drew (w : World) : Below w.heap.size w w.drew := (Below.refl _ _).drew

set_option maxRecDepth 100000 in
set_option maxHeartbeats 1600000 in
theorem walk (x : List UInt8) (hx : x.length = 32) (s : ByteArray) {w : World} (hg : GK w) :
    Calls Tryd.prog 6 #[.agg (bvs x).toArray, .string s] w fun e w' => e = .returned (.bool true) ∧ Below w.heap.size w w' := by
  have HX := Lib.hid hx
  have l1 : Lies (w.alloc (.cells (bvs x).toArray 26)) w.heap.size 32 (bvs x) := by
    have := Lies.new w (bvs x) 26
    rwa [bvs_len, hx] at this
  have L1 := Lib.hid l1
  have B1 := Lib.hid (show Below w.heap.size w (w.alloc (.cells (bvs x).toArray 26)) from (Below.refl _ _).alloc (Nat.le_refl _) _)
  have G1 := Lib.hid (hg.alloc (.cells (bvs x).toArray 26))
  clear l1 hx hg
  go_enter Tryd.func6, Tryd.ntmps6
  go_wp2_with fail
  generalize w.alloc (.cells (bvs x).toArray 26) = w1 at L1 B1 G1 ⊢
  refine (wakes_any G1.out).mono ?_
  rintro e w2 ⟨rfl, hb2⟩
  have L2 := Lib.hid (L1.out.below hb2 L1.out.lt)
  have B2 := Lib.hid (B1.out.trans (hb2.mono B1.out.size))
  clear hb2
  go_wp2_with fail
  generalize s.extract 0 (min (s.size : Int) 200).toNat = s2
  obtain ⟨y, hy⟩ : ∃ y, parseW s2.data.toList = y := ⟨_, rfl⟩
  have HPY := Lib.hid hy
  have HY := Lib.hid (show y.length = 32 by rw [← hy]; exact parseW_len _)
  clear hy
  refine (parse_any _ _).mono ?_
  rintro e w4 ⟨rfl, hb4⟩
  rw [HPY.out]
  have L4 := Lib.hid (L2.out.below hb4 L2.out.lt)
  have B4 := Lib.hid (B2.out.trans (hb4.mono B2.out.size))
  have N4 := Lib.hid (Zi_new w4)
  have D4 := Lib.hid (below_setCells ((Below.refl w4.heap.size w4).alloc (Nat.le_refl _) (.cells (bvs Zi).toArray 26)) (Nat.le_refl _) 0 (bvs y))
  have K4 := Lib.hid (N4.out.set_ (l' := bvs y) (by rw [bvs_len]; exact HY.out))
  clear hb4
  have M4 := Lib.hid (L4.out.below D4.out L4.out.lt)
  have E4 := Lib.hid (B4.out.trans (D4.out.mono B4.out.size))
  obtain ⟨er, her⟩ : ∃ er, parseE s2.data.toList = er := ⟨_, rfl⟩
  have HER := Lib.hid her
  rw [her]
  clear her
  go_wp2_with (first
    | ((with_reducible refine al_id rfl rfl ?_); (try simp only [Act.put, List.setIfInBounds_toArray, List.set_cons_succ, List.set_cons_zero, World.size_alloc]))
    | (with_reducible refine st_id rfl _ _ rfl w4.heap.size 0 y HY rfl rfl N4.out.th ?_))
  generalize (w4.alloc (.cells (bvs Zi).toArray 26)).setCells w4.heap.size 0 (bvs y) = v4 at M4 K4 D4 E4 ⊢
  generalize w4.heap.size = b1 at K4 ⊢
  refine (parse_ref _ _).mono ?_
  rintro e w6 ⟨rfl, hb6⟩
  rw [HPY.out]
  have L6 := Lib.hid (M4.out.below hb6 M4.out.lt)
  have P6 := Lib.hid (K4.out.below hb6 K4.out.lt)
  have B6 := Lib.hid (E4.out.trans (hb6.mono E4.out.size))
  have N6 := Lib.hid (Zi_new w6)
  have D6 := Lib.hid (below_setCells ((Below.refl w6.heap.size w6).alloc (Nat.le_refl _) (.cells (bvs Zi).toArray 26)) (Nat.le_refl _) 0 (bvs y))
  have K6 := Lib.hid (N6.out.set_ (l' := bvs y) (by rw [bvs_len]; exact HY.out))
  have KT0 := Lib.hid (Tt.mk (L6.out.below D6.out L6.out.lt) (P6.out.below D6.out P6.out.lt) K6.out)
  have BS0 := Lib.hid (B6.out.trans (D6.out.mono B6.out.size))
  obtain ⟨gd, hgd⟩ : ∃ gd, goodL s2.data.toList = gd := ⟨_, rfl⟩
  have HGD := Lib.hid hgd
  rw [hgd]
  clear hb6 hgd
  go_wp2_with (first
    | ((with_reducible refine al_id rfl rfl ?_); (try simp only [Act.put, List.setIfInBounds_toArray, List.set_cons_succ, List.set_cons_zero, World.size_alloc]))
    | (with_reducible refine st_id rfl _ _ rfl w6.heap.size 0 y HY rfl rfl N6.out.th ?_))
  generalize (w6.alloc (.cells (bvs Zi).toArray 26)).setCells w6.heap.size 0 (bvs y) = v6 at KT0 BS0 ⊢
  generalize w6.heap.size = b2 at KT0 ⊢
  have heq := run_eql_32 y y HY.out HY.out
  simp only [beq_self_eq_true] at heq
  have BS := Lib.hid (BS0.out.trans ((below_drew v6).mono BS0.out.size))
  have KT := Lib.hid (KT0.out.below (below_drew v6))
  clear L6 P6 B6 N6 D6 K6 KT0 BS0 L1 B1 G1 L2 B2 L4 B4 N4 D4 K4 M4 E4
  cases gd
  · obtain rfl : er = 130 := by rw [← HER.out]; unfold parseE; rw [HGD.out]; rfl
    refine wp_region_noPanic ?_
    refine wp_region_held_drew (S := fun w' => Tt w' w.heap.size b1 b2 x y) (by kernel_rfl) KT.out (fun _ => ?_)
    refine wpAnyH_take (i := 0)  rfl (by kernel_rfl) (by kernel_rfl) (by kernel_rfl) (fun _ _ _ h => h) (yieldsIf_load_mid rfl 26 _ rfl w.heap.size 0 rfl (bvs x) _ (fun w' hw' => hw'.a.rg) Tryd.underlying26 rfl (by rw [bvs_len, HX.out]; exact size_id)) KT.out ?_
    simp only [List.getElem_toArray, List.getElem_cons_zero, List.getElem_cons_succ, Act.put, List.setIfInBounds_toArray, List.set_cons_succ, List.set_cons_zero]
    refine wpAnyH_take (i := 2)  rfl (by kernel_rfl) (by kernel_rfl) (by kernel_rfl) (fun _ _ _ h => h) (yieldsIf_load_mid rfl 26 _ rfl w.heap.size 0 rfl (bvs x) _ (fun w' hw' => hw'.a.rg) Tryd.underlying26 rfl (by rw [bvs_len, HX.out]; exact size_id)) KT.out ?_
    simp only [List.getElem_toArray, List.getElem_cons_zero, List.getElem_cons_succ, Act.put, List.setIfInBounds_toArray, List.set_cons_succ, List.set_cons_zero]
    refine wpAnyH_ready (rs := [1]) (by kernel_rfl) (by simp) (AllReadyH.cons rfl (fun K hK => ?_) AllReadyH.nil)
    rw [if_pos (by rfl)]
    refine wp_fn (f := 26) (xs := #[.agg (bvs x).toArray]) (by go_simp) ((text_any x HX.out _).mono ?_)
    rintro e wm ⟨rfl, hbn⟩
    replace KT := Lib.hid (KT.out.below hbn)
    replace BS := Lib.hid (BS.out.trans (hbn.mono BS.out.size))
    clear hbn
    refine ⟨_, rfl, hK.out _ _ KT.out (fun _ => ?_)⟩
    simp only [List.getElem_toArray, List.getElem_cons_zero, List.getElem_cons_succ, Act.put, List.setIfInBounds_toArray, List.set_cons_succ, List.set_cons_zero]
    refine wpAnyH_ready (rs := [3]) (by kernel_rfl) (by simp) (AllReadyH.cons rfl (fun K hK => ?_) AllReadyH.nil)
    rw [if_pos (by rfl)]
    refine wp_fn (f := 27) (xs := #[.agg (bvs x).toArray]) (by go_simp) ((text_ref x HX.out _).mono ?_)
    rintro e wm ⟨rfl, hbn⟩
    replace KT := Lib.hid (KT.out.below hbn)
    replace BS := Lib.hid (BS.out.trans (hbn.mono BS.out.size))
    clear hbn
    refine ⟨_, rfl, hK.out _ _ KT.out (fun _ => ?_)⟩
    simp only [List.getElem_toArray, List.getElem_cons_zero, List.getElem_cons_succ, Act.put, List.setIfInBounds_toArray, List.set_cons_succ, List.set_cons_zero]
    generalize (⟨(textW x).toArray⟩ : ByteArray) = tx
    refine wpAnyH_take (i := 4) (v := .bool true) rfl (by kernel_rfl) (by kernel_rfl) (by kernel_rfl) (fun _ _ _ h => h) (.inl ⟨rfl, fun w' hw' => (by clear hw'; first | (go_simp; done) | (go_simp; simp))⟩) KT.out ?_
    simp only [List.getElem_toArray, List.getElem_cons_zero, List.getElem_cons_succ, Act.put, List.setIfInBounds_toArray, List.set_cons_succ, List.set_cons_zero]
    refine wpAnyH_take (i := 5)  rfl (by kernel_rfl) (by kernel_rfl) (by kernel_rfl) (fun _ _ _ h => h) (.inl ⟨rfl, fun w' hw' => (by clear hw'; go_simp; rfl)⟩) KT.out ?_
    simp only [List.getElem_toArray, List.getElem_cons_zero, List.getElem_cons_succ, Act.put, List.setIfInBounds_toArray, List.set_cons_succ, List.set_cons_zero]
    refine wpAnyH_take (i := 6)  rfl (by kernel_rfl) (by kernel_rfl) (by kernel_rfl) (fun _ _ _ h => h) (yieldsIf_load_mid rfl 26 _ rfl b1 0 rfl (bvs y) _ (fun w' hw' => hw'.b.rg) Tryd.underlying26 rfl (by rw [bvs_len, HY.out]; exact size_id)) KT.out ?_
    simp only [List.getElem_toArray, List.getElem_cons_zero, List.getElem_cons_succ, Act.put, List.setIfInBounds_toArray, List.set_cons_succ, List.set_cons_zero]
    refine wpAnyH_take (i := 7)  rfl (by kernel_rfl) (by kernel_rfl) (by kernel_rfl) (fun _ _ _ h => h) (yieldsIf_load_mid rfl 26 _ rfl b2 0 rfl (bvs y) _ (fun w' hw' => hw'.c.rg) Tryd.underlying26 rfl (by rw [bvs_len, HY.out]; exact size_id)) KT.out ?_
    simp only [List.getElem_toArray, List.getElem_cons_zero, List.getElem_cons_succ, Act.put, List.setIfInBounds_toArray, List.set_cons_succ, List.set_cons_zero]
    refine wpAnyH_take (i := 8) (v := .bool true) rfl (by kernel_rfl) (by kernel_rfl) (by kernel_rfl) (fun _ _ _ h => h) (.inl ⟨rfl, fun w' hw' => (by clear hw'; have h9 := heq w'; first | (go_simp; done) | (go_simp; rw [h9]; rfl))⟩) KT.out ?_
    simp only [List.getElem_toArray, List.getElem_cons_zero, List.getElem_cons_succ, Act.put, List.setIfInBounds_toArray, List.set_cons_succ, List.set_cons_zero]
    refine wpAnyH_take (i := 9)  rfl (by kernel_rfl) (by kernel_rfl) (by kernel_rfl) (fun _ _ _ h => h) (.inl ⟨rfl, fun w' hw' => (by clear hw'; go_simp; rfl)⟩) KT.out ?_
    simp only [List.getElem_toArray, List.getElem_cons_zero, List.getElem_cons_succ, Act.put, List.setIfInBounds_toArray, List.set_cons_succ, List.set_cons_zero]
    refine wpAnyH_take (i := 10)  rfl (by kernel_rfl) (by kernel_rfl) (by kernel_rfl) (fun _ _ _ h => h) (.inl ⟨rfl, fun w' hw' => (by clear hw'; go_simp; rfl)⟩) KT.out ?_
    simp only [List.getElem_toArray, List.getElem_cons_zero, List.getElem_cons_succ, Act.put, List.setIfInBounds_toArray, List.set_cons_succ, List.set_cons_zero]
    refine wpAnyH_take (i := 11)  rfl (by kernel_rfl) (by kernel_rfl) (by kernel_rfl) (fun _ _ _ h => h) (.inl ⟨rfl, fun w' hw' => (by clear hw'; go_simp; rfl)⟩) KT.out ?_
    simp only [List.getElem_toArray, List.getElem_cons_zero, List.getElem_cons_succ, Act.put, List.setIfInBounds_toArray, List.set_cons_succ, List.set_cons_zero]
    refine wpAnyH_take (i := 12)  rfl (by kernel_rfl) (by kernel_rfl) (by kernel_rfl) (fun _ _ _ h => h) (.inl ⟨rfl, fun w' hw' => (by clear hw'; go_simp; rfl)⟩) KT.out ?_
    simp only [List.getElem_toArray, List.getElem_cons_zero, List.getElem_cons_succ, Act.put, List.setIfInBounds_toArray, List.set_cons_succ, List.set_cons_zero]
    refine wpAnyH_take (i := 13)  rfl (by kernel_rfl) (by kernel_rfl) (by kernel_rfl) (fun _ _ _ h => h) (.inl ⟨rfl, fun w' hw' => (by clear hw'; go_simp; rfl)⟩) KT.out ?_
    simp only [List.getElem_toArray, List.getElem_cons_zero, List.getElem_cons_succ, Act.put, List.setIfInBounds_toArray, List.set_cons_succ, List.set_cons_zero]
    refine wpAnyH_take (i := 14)  rfl (by kernel_rfl) (by kernel_rfl) (by kernel_rfl) (fun _ _ _ h => h) (.inl ⟨rfl, fun w' hw' => (by clear hw'; go_simp; rfl)⟩) KT.out ?_
    simp only [List.getElem_toArray, List.getElem_cons_zero, List.getElem_cons_succ, Act.put, List.setIfInBounds_toArray, List.set_cons_succ, List.set_cons_zero]
    refine wpAnyH_take (i := 15)  rfl (by kernel_rfl) (by kernel_rfl) (by kernel_rfl) (fun _ _ _ h => h) (.inl ⟨rfl, fun w' hw' => (by clear hw'; go_simp; rfl)⟩) KT.out ?_
    simp only [List.getElem_toArray, List.getElem_cons_zero, List.getElem_cons_succ, Act.put, List.setIfInBounds_toArray, List.set_cons_succ, List.set_cons_zero]
    refine wpAnyH_take (i := 16)  rfl (by kernel_rfl) (by kernel_rfl) (by kernel_rfl) (fun _ _ _ h => h) (.inl ⟨rfl, fun w' hw' => (by clear hw'; go_simp; rfl)⟩) KT.out ?_
    simp only [List.getElem_toArray, List.getElem_cons_zero, List.getElem_cons_succ, Act.put, List.setIfInBounds_toArray, List.set_cons_succ, List.set_cons_zero]
    refine wpAnyH_take (i := 17)  rfl (by kernel_rfl) (by kernel_rfl) (by kernel_rfl) (fun _ _ _ h => h) (.inl ⟨rfl, fun w' hw' => (by clear hw'; go_simp; rfl)⟩) KT.out ?_
    simp only [List.getElem_toArray, List.getElem_cons_zero, List.getElem_cons_succ, Act.put, List.setIfInBounds_toArray, List.set_cons_succ, List.set_cons_zero]
    refine wpAnyH_take (i := 18)  rfl (by kernel_rfl) (by kernel_rfl) (by kernel_rfl) (fun _ _ _ h => h) (.inl ⟨rfl, fun w' hw' => (by clear hw'; go_simp; rfl)⟩) KT.out ?_
    simp only [List.getElem_toArray, List.getElem_cons_zero, List.getElem_cons_succ, Act.put, List.setIfInBounds_toArray, List.set_cons_succ, List.set_cons_zero]
    refine wpAnyH_take (i := 19)  rfl (by kernel_rfl) (by kernel_rfl) (by kernel_rfl) (fun _ _ _ h => h) (.inl ⟨rfl, fun w' hw' => (by clear hw'; go_simp; rfl)⟩) KT.out ?_
    simp only [List.getElem_toArray, List.getElem_cons_zero, List.getElem_cons_succ, Act.put, List.setIfInBounds_toArray, List.set_cons_succ, List.set_cons_zero]
    refine wpAnyH_take (i := 20)  rfl (by kernel_rfl) (by kernel_rfl) (by kernel_rfl) (fun _ _ _ h => h) (.inl ⟨rfl, fun w' hw' => (by clear hw'; go_simp; rfl)⟩) KT.out ?_
    simp only [List.getElem_toArray, List.getElem_cons_zero, List.getElem_cons_succ, Act.put, List.setIfInBounds_toArray, List.set_cons_succ, List.set_cons_zero]
    refine wpAnyH_take (i := 21)  rfl (by kernel_rfl) (by kernel_rfl) (by kernel_rfl) (fun _ _ _ h => h) (.inl ⟨rfl, fun w' hw' => (by clear hw'; go_simp; rfl)⟩) KT.out ?_
    simp only [List.getElem_toArray, List.getElem_cons_zero, List.getElem_cons_succ, Act.put, List.setIfInBounds_toArray, List.set_cons_succ, List.set_cons_zero]
    refine wpAnyH_take (i := 22)  rfl (by kernel_rfl) (by kernel_rfl) (by kernel_rfl) (fun _ _ _ h => h) (.inl ⟨rfl, fun w' hw' => (by clear hw'; go_simp; rfl)⟩) KT.out ?_
    simp only [List.getElem_toArray, List.getElem_cons_zero, List.getElem_cons_succ, Act.put, List.setIfInBounds_toArray, List.set_cons_succ, List.set_cons_zero]
    refine wpAnyH_take (i := 23)  rfl (by kernel_rfl) (by kernel_rfl) (by kernel_rfl) (fun _ _ _ h => h) (.inl ⟨rfl, fun w' hw' => (by clear hw'; go_simp; rfl)⟩) KT.out ?_
    simp only [List.getElem_toArray, List.getElem_cons_zero, List.getElem_cons_succ, Act.put, List.setIfInBounds_toArray, List.set_cons_succ, List.set_cons_zero]
    refine wpAnyH_done (by kernel_rfl) ?_ _
    refine NoPanic.normal ?_
    go_wp2
    go_ret
    exact ⟨rfl, BS.out⟩
  · obtain rfl : er = 0 := by rw [← HER.out]; unfold parseE; rw [HGD.out]; rfl
    refine wp_region_noPanic ?_
    refine wp_region_held_drew (S := fun w' => Tt w' w.heap.size b1 b2 x y) (by kernel_rfl) KT.out (fun _ => ?_)
    refine wpAnyH_take (i := 0)  rfl (by kernel_rfl) (by kernel_rfl) (by kernel_rfl) (fun _ _ _ h => h) (yieldsIf_load_mid rfl 26 _ rfl w.heap.size 0 rfl (bvs x) _ (fun w' hw' => hw'.a.rg) Tryd.underlying26 rfl (by rw [bvs_len, HX.out]; exact size_id)) KT.out ?_
    simp only [List.getElem_toArray, List.getElem_cons_zero, List.getElem_cons_succ, Act.put, List.setIfInBounds_toArray, List.set_cons_succ, List.set_cons_zero]
    refine wpAnyH_take (i := 2)  rfl (by kernel_rfl) (by kernel_rfl) (by kernel_rfl) (fun _ _ _ h => h) (yieldsIf_load_mid rfl 26 _ rfl w.heap.size 0 rfl (bvs x) _ (fun w' hw' => hw'.a.rg) Tryd.underlying26 rfl (by rw [bvs_len, HX.out]; exact size_id)) KT.out ?_
    simp only [List.getElem_toArray, List.getElem_cons_zero, List.getElem_cons_succ, Act.put, List.setIfInBounds_toArray, List.set_cons_succ, List.set_cons_zero]
    refine wpAnyH_ready (rs := [1]) (by kernel_rfl) (by simp) (AllReadyH.cons rfl (fun K hK => ?_) AllReadyH.nil)
    rw [if_pos (by rfl)]
    refine wp_fn (f := 26) (xs := #[.agg (bvs x).toArray]) (by go_simp) ((text_any x HX.out _).mono ?_)
    rintro e wm ⟨rfl, hbn⟩
    replace KT := Lib.hid (KT.out.below hbn)
    replace BS := Lib.hid (BS.out.trans (hbn.mono BS.out.size))
    clear hbn
    refine ⟨_, rfl, hK.out _ _ KT.out (fun _ => ?_)⟩
    simp only [List.getElem_toArray, List.getElem_cons_zero, List.getElem_cons_succ, Act.put, List.setIfInBounds_toArray, List.set_cons_succ, List.set_cons_zero]
    refine wpAnyH_ready (rs := [3]) (by kernel_rfl) (by simp) (AllReadyH.cons rfl (fun K hK => ?_) AllReadyH.nil)
    rw [if_pos (by rfl)]
    refine wp_fn (f := 27) (xs := #[.agg (bvs x).toArray]) (by go_simp) ((text_ref x HX.out _).mono ?_)
    rintro e wm ⟨rfl, hbn⟩
    replace KT := Lib.hid (KT.out.below hbn)
    replace BS := Lib.hid (BS.out.trans (hbn.mono BS.out.size))
    clear hbn
    refine ⟨_, rfl, hK.out _ _ KT.out (fun _ => ?_)⟩
    simp only [List.getElem_toArray, List.getElem_cons_zero, List.getElem_cons_succ, Act.put, List.setIfInBounds_toArray, List.set_cons_succ, List.set_cons_zero]
    generalize (⟨(textW x).toArray⟩ : ByteArray) = tx
    refine wpAnyH_take (i := 4) (v := .bool true) rfl (by kernel_rfl) (by kernel_rfl) (by kernel_rfl) (fun _ _ _ h => h) (.inl ⟨rfl, fun w' hw' => (by clear hw'; first | (go_simp; done) | (go_simp; simp))⟩) KT.out ?_
    simp only [List.getElem_toArray, List.getElem_cons_zero, List.getElem_cons_succ, Act.put, List.setIfInBounds_toArray, List.set_cons_succ, List.set_cons_zero]
    refine wpAnyH_take (i := 5)  rfl (by kernel_rfl) (by kernel_rfl) (by kernel_rfl) (fun _ _ _ h => h) (.inl ⟨rfl, fun w' hw' => (by clear hw'; go_simp; rfl)⟩) KT.out ?_
    simp only [List.getElem_toArray, List.getElem_cons_zero, List.getElem_cons_succ, Act.put, List.setIfInBounds_toArray, List.set_cons_succ, List.set_cons_zero]
    refine wpAnyH_take (i := 6)  rfl (by kernel_rfl) (by kernel_rfl) (by kernel_rfl) (fun _ _ _ h => h) (yieldsIf_load_mid rfl 26 _ rfl b1 0 rfl (bvs y) _ (fun w' hw' => hw'.b.rg) Tryd.underlying26 rfl (by rw [bvs_len, HY.out]; exact size_id)) KT.out ?_
    simp only [List.getElem_toArray, List.getElem_cons_zero, List.getElem_cons_succ, Act.put, List.setIfInBounds_toArray, List.set_cons_succ, List.set_cons_zero]
    refine wpAnyH_take (i := 7)  rfl (by kernel_rfl) (by kernel_rfl) (by kernel_rfl) (fun _ _ _ h => h) (yieldsIf_load_mid rfl 26 _ rfl b2 0 rfl (bvs y) _ (fun w' hw' => hw'.c.rg) Tryd.underlying26 rfl (by rw [bvs_len, HY.out]; exact size_id)) KT.out ?_
    simp only [List.getElem_toArray, List.getElem_cons_zero, List.getElem_cons_succ, Act.put, List.setIfInBounds_toArray, List.set_cons_succ, List.set_cons_zero]
    refine wpAnyH_take (i := 8) (v := .bool true) rfl (by kernel_rfl) (by kernel_rfl) (by kernel_rfl) (fun _ _ _ h => h) (.inl ⟨rfl, fun w' hw' => (by clear hw'; have h9 := heq w'; first | (go_simp; done) | (go_simp; rw [h9]; rfl))⟩) KT.out ?_
    simp only [List.getElem_toArray, List.getElem_cons_zero, List.getElem_cons_succ, Act.put, List.setIfInBounds_toArray, List.set_cons_succ, List.set_cons_zero]
    refine wpAnyH_take (i := 9)  rfl (by kernel_rfl) (by kernel_rfl) (by kernel_rfl) (fun _ _ _ h => h) (.inl ⟨rfl, fun w' hw' => (by clear hw'; go_simp; rfl)⟩) KT.out ?_
    simp only [List.getElem_toArray, List.getElem_cons_zero, List.getElem_cons_succ, Act.put, List.setIfInBounds_toArray, List.set_cons_succ, List.set_cons_zero]
    refine wpAnyH_take (i := 10)  rfl (by kernel_rfl) (by kernel_rfl) (by kernel_rfl) (fun _ _ _ h => h) (.inl ⟨rfl, fun w' hw' => (by clear hw'; go_simp; rfl)⟩) KT.out ?_
    simp only [List.getElem_toArray, List.getElem_cons_zero, List.getElem_cons_succ, Act.put, List.setIfInBounds_toArray, List.set_cons_succ, List.set_cons_zero]
    refine wpAnyH_take (i := 11)  rfl (by kernel_rfl) (by kernel_rfl) (by kernel_rfl) (fun _ _ _ h => h) (.inl ⟨rfl, fun w' hw' => (by clear hw'; go_simp; rfl)⟩) KT.out ?_
    simp only [List.getElem_toArray, List.getElem_cons_zero, List.getElem_cons_succ, Act.put, List.setIfInBounds_toArray, List.set_cons_succ, List.set_cons_zero]
    refine wpAnyH_take (i := 12)  rfl (by kernel_rfl) (by kernel_rfl) (by kernel_rfl) (fun _ _ _ h => h) (.inl ⟨rfl, fun w' hw' => (by clear hw'; go_simp; rfl)⟩) KT.out ?_
    simp only [List.getElem_toArray, List.getElem_cons_zero, List.getElem_cons_succ, Act.put, List.setIfInBounds_toArray, List.set_cons_succ, List.set_cons_zero]
    refine wpAnyH_take (i := 13)  rfl (by kernel_rfl) (by kernel_rfl) (by kernel_rfl) (fun _ _ _ h => h) (.inl ⟨rfl, fun w' hw' => (by clear hw'; go_simp; rfl)⟩) KT.out ?_
    simp only [List.getElem_toArray, List.getElem_cons_zero, List.getElem_cons_succ, Act.put, List.setIfInBounds_toArray, List.set_cons_succ, List.set_cons_zero]
    refine wpAnyH_take (i := 14)  rfl (by kernel_rfl) (by kernel_rfl) (by kernel_rfl) (fun _ _ _ h => h) (.inl ⟨rfl, fun w' hw' => (by clear hw'; go_simp; rfl)⟩) KT.out ?_
    simp only [List.getElem_toArray, List.getElem_cons_zero, List.getElem_cons_succ, Act.put, List.setIfInBounds_toArray, List.set_cons_succ, List.set_cons_zero]
    refine wpAnyH_take (i := 15)  rfl (by kernel_rfl) (by kernel_rfl) (by kernel_rfl) (fun _ _ _ h => h) (.inl ⟨rfl, fun w' hw' => (by clear hw'; go_simp; rfl)⟩) KT.out ?_
    simp only [List.getElem_toArray, List.getElem_cons_zero, List.getElem_cons_succ, Act.put, List.setIfInBounds_toArray, List.set_cons_succ, List.set_cons_zero]
    refine wpAnyH_take (i := 16)  rfl (by kernel_rfl) (by kernel_rfl) (by kernel_rfl) (fun _ _ _ h => h) (.inl ⟨rfl, fun w' hw' => (by clear hw'; go_simp; rfl)⟩) KT.out ?_
    simp only [List.getElem_toArray, List.getElem_cons_zero, List.getElem_cons_succ, Act.put, List.setIfInBounds_toArray, List.set_cons_succ, List.set_cons_zero]
    refine wpAnyH_take (i := 17)  rfl (by kernel_rfl) (by kernel_rfl) (by kernel_rfl) (fun _ _ _ h => h) (.inl ⟨rfl, fun w' hw' => (by clear hw'; go_simp; rfl)⟩) KT.out ?_
    simp only [List.getElem_toArray, List.getElem_cons_zero, List.getElem_cons_succ, Act.put, List.setIfInBounds_toArray, List.set_cons_succ, List.set_cons_zero]
    refine wpAnyH_take (i := 18)  rfl (by kernel_rfl) (by kernel_rfl) (by kernel_rfl) (fun _ _ _ h => h) (.inl ⟨rfl, fun w' hw' => (by clear hw'; go_simp; rfl)⟩) KT.out ?_
    simp only [List.getElem_toArray, List.getElem_cons_zero, List.getElem_cons_succ, Act.put, List.setIfInBounds_toArray, List.set_cons_succ, List.set_cons_zero]
    refine wpAnyH_take (i := 19)  rfl (by kernel_rfl) (by kernel_rfl) (by kernel_rfl) (fun _ _ _ h => h) (.inr ⟨rfl, rfl⟩) KT.out ?_
    simp only [List.getElem_toArray, List.getElem_cons_zero, List.getElem_cons_succ, Act.put, List.setIfInBounds_toArray, List.set_cons_succ, List.set_cons_zero]
    refine wpAnyH_take (i := 20)  rfl (by kernel_rfl) (by kernel_rfl) (by kernel_rfl) (fun _ _ _ h => h) (.inr ⟨rfl, rfl⟩) KT.out ?_
    simp only [List.getElem_toArray, List.getElem_cons_zero, List.getElem_cons_succ, Act.put, List.setIfInBounds_toArray, List.set_cons_succ, List.set_cons_zero]
    refine wpAnyH_take (i := 21)  rfl (by kernel_rfl) (by kernel_rfl) (by kernel_rfl) (fun _ _ _ h => h) (.inl ⟨rfl, fun w' hw' => (by clear hw'; go_simp; rfl)⟩) KT.out ?_
    simp only [List.getElem_toArray, List.getElem_cons_zero, List.getElem_cons_succ, Act.put, List.setIfInBounds_toArray, List.set_cons_succ, List.set_cons_zero]
    refine wpAnyH_take (i := 22)  rfl (by kernel_rfl) (by kernel_rfl) (by kernel_rfl) (fun _ _ _ h => h) (.inl ⟨rfl, fun w' hw' => (by clear hw'; go_simp; rfl)⟩) KT.out ?_
    simp only [List.getElem_toArray, List.getElem_cons_zero, List.getElem_cons_succ, Act.put, List.setIfInBounds_toArray, List.set_cons_succ, List.set_cons_zero]
    refine wpAnyH_take (i := 23)  rfl (by kernel_rfl) (by kernel_rfl) (by kernel_rfl) (fun _ _ _ h => h) (.inl ⟨rfl, fun w' hw' => (by clear hw'; go_simp; rfl)⟩) KT.out ?_
    simp only [List.getElem_toArray, List.getElem_cons_zero, List.getElem_cons_succ, Act.put, List.setIfInBounds_toArray, List.set_cons_succ, List.set_cons_zero]
    refine wpAnyH_done (by kernel_rfl) ?_ _
    refine NoPanic.normal ?_
    go_wp2
    go_ret
    exact ⟨rfl, BS.out⟩

set_option maxRecDepth 100000 in
theorem lifted (os : Os) (started : os.Started) (H : Type) (enc : TypeId × Value → H) :
    ReturnsInHanded {} Tryd.checked os 6 .any (fun w args => (Rows.shaTextsSpec.pre enc Tryd.prog Tryd.f6 [] false w args ∧ laidMetH Tryd.prog laidL w) ∧ sizedMet enc Tryd.prog Tryd.f6 (OpenSpec.ofChange Rows.shaTextsSpec) false w args)
      (Rows.shaTextsSpec.post enc Tryd.prog Tryd.f6 false true false false) := by
  refine returnsInHanded_of_change_and (C := Tryd.checked) (X := fun w _ => laidMetH Tryd.prog laidL w) (fun _ _ _ hh h => h.of_heap hh) own started (by kernel_rfl) Tryd.func6
    (ChangeSpec.witness_shaped (enc := enc) (C := Tryd.checked) (os := os) (X := fun w _ => laidMetH Tryd.prog laidL w) false (World.doorLaid Tryd.prog 14 os) #[.agg (Array.replicate 32 (.int .u8 0)), .string ByteArray.empty] 8 rfl (World.shaped_of_RefB (by kernel_rfl) (by kernel_rfl)) (by kernel_rfl) (by kernel_rfl) (by kernel_rfl) (door_met os _)) ?_
  intro W base args ds gs before hval0 hW _ _ hL _
  have hval : ∀ (j : Nat) t v, Tryd.f6.params[j]? = some t → args[j]? = some v → Value.okWide Tryd.prog W .any base t v := hval0
  have hW' := hW
  obtain ⟨p, q, hA0, hV, rfl, hfz, hnd⟩ := hW
  have hA : DataW.TrodAll enc Tryd.prog W 0 (fun _ => true) true Tryd.f6.params.toList args.toList ds p := hA0
  rw [Tryd.params6] at hA hval
  obtain ⟨v0, vs0, d0, ds0, p0, q0, hargs, rfl, rfl, h0, r0⟩ := trodAll_cons hA
  obtain ⟨v1, vs1, d1, ds1, p1, q1, rfl, rfl, rfl, h1, r1⟩ := trodAll_cons r0
  obtain ⟨rfl, rfl, rfl⟩ := trodAll_nil r1
  obtain rfl : args = #[v0, v1] := by cases args; simp_all
  obtain ⟨rfl, rfl⟩ := trodVars_none hV
  have hGK := gk_of_laid hL
  have k0 := h0
  have lt0 : ∀ x ∈ p0, x.block < W.heap.size := by obtain ⟨m, hm⟩ := k0; exact DataW.trod_lt m _ _ _ hm
  obtain ⟨l0, n0, rfl⟩ := open_arr8 Tryd.underlying26 (by kernel_rfl) (hval 0 26 v0 rfl rfl) h0
  have k1 := h1
  have lt1 : ∀ x ∈ p1, x.block < W.heap.size := by obtain ⟨m, hm⟩ := k1; exact DataW.trod_lt m _ _ _ hm
  obtain ⟨a1, rfl⟩ := okWide_string Tryd.underlying9 (hval 1 9 v1 rfl rfl)
  clear hA0 hval0
  refine (walk l0 n0 a1 hGK).mono fun e W' ⟨he, bel⟩ => ?_
  subst he
  exact ⟨_, rfl, _, _, _, [], _, [], hW', trodAll_mk1 (shut_bool Tryd.underlying4 _), (trodAll_cons_mk (Below.trod laidOut (by kernel_rfl) (of_decide_eq_true (by kernel_rfl)) k0 bel lt0) (trodAll_cons_mk (Below.trod laidOut (by kernel_rfl) (of_decide_eq_true (by kernel_rfl)) k1 bel lt1) trodAll_mk0)), rfl, bel.frame _, fun h => by cases h⟩

theorem over : Rows.shaTextsRow.holds Tryd.pinned (OpenSpec.ofChange Rows.shaTextsSpec) :=
  OpenClaim.holds_of_wide 6 Tryd.f6 rfl rfl rfl rfl rfl rfl rfl ⟨rfl, rfl, rfl, rfl, rfl⟩ rfl rfl rfl rfl rfl (by kernel_rfl) Tryd.func6 (by kernel_rfl)
    (of_decide_eq_true (by kernel_rfl)) (by unfold Func.isWrapper; first | (rw [if_pos (by decide +kernel)]; kernel_rfl) | (rw [if_neg (by decide +kernel)]; exact ⟨rfl, rfl⟩))
    (fun os started H enc _ => lifted os started H enc)

theorem proved : Rows.ShaTextsCardSaid :=
  Claim7.holds_tied_plain_at .later [] [.data] true Rows.shaTextsCard.stood.harness false
    over (fun _ h => by cases h) (by kernel_rfl) (fun _ h => by cases h) shaTexts_row_tie rfl ⟨rfl, rfl⟩ (by kernel_rfl) rfl
    (fun f fn hf hfn => by
      obtain rfl : f = 6 := Option.some.inj ((show Tryd.prog.funcNamed "confluence/confluencelaw03.ShaTexts" = some 6 by kernel_rfl).symm.trans hf) |>.symm
      obtain rfl : fn = Tryd.f6 := (Option.some.inj (Tryd.func6.symm.trans hfn)).symm
      exact ⟨by kernel_rfl, fun j t ht => by
        have hall : (Tryd.f6.params.all fun u => !Tryd.prog.wantsStandIn u) = true := by kernel_rfl
        have := Array.all_eq_true_iff_forall_mem.1 hall t (Array.mem_of_getElem? ht)
        exact (by simpa using this : Tryd.prog.wantsStandIn t = false)⟩)
    (by kernel_rfl)
#print axioms proved
end Go.Proofs.YtgbpbbjglikheaaDoor.shaTexts
