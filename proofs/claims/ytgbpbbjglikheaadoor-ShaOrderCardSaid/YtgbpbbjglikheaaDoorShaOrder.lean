/-
  PROVED HERE: the law ShaOrder of layer 3 (sha): of any three digests: no two are less than one another, of two unlike ones one is less, what is less than a lesser one is less, and the order of the digests is that of their texts. Conditions: the package variable sha.constants holds what the program's text lays (the card ties it).
-/
import Derived.Test.YtgbpbbjglikheaaDoorWake
import Derived.Test.YtgbpbbjglikheaaDoorOrd
import Derived.Test.YtgbpbbjglikheaaDoorFrame
import Derived.Test.YtgbpbbjglikheaaDoorCards
import Derived.Test.YtgbpbbjglikheaaDoorTie
import Derived.SevenTiedAt
namespace Go.Proofs.YtgbpbbjglikheaaDoor.shaOrder
open Go.ChangeShapes Go.WideShapes Go.ChangeAt Go.RowKit
set_option linter.unusedVariables false
set_option linter.unusedSimpArgs false

structure Th (w : World) (g0 g1 g2 : Nat) (a b c : List UInt8) : Prop where
  x : Lies w g0 32 (bvs a)
  y : Lies w g1 32 (bvs b)
  z : Lies w g2 32 (bvs c)
section
variable {w w' : World} {g0 g1 g2 : Nat} {a b c : List UInt8}
theorem Th.rgs (h : Th w g0 g1 g2 a b c) : w.rangeAt g0 0 (bvs a) ∧ w.rangeAt g1 0 (bvs b) ∧ w.rangeAt g2 0 (bvs c) := ⟨h.x.rg, h.y.rg, h.z.rg⟩
theorem Th.below (h : Th w g0 g1 g2 a b c) (hb : Below w.heap.size w w') : Th w' g0 g1 g2 a b c := ⟨h.x.below hb h.x.lt, h.y.below hb h.y.lt, h.z.below hb h.z.lt⟩
end
theorem below_drew (w : World) : Below w.heap.size w w.drew := (Below.refl _ _).drew
theorem Lies.mk3 (w : World) (l : List UInt8) (hl : l.length = 32) : Lies (w.alloc (.cells (bvs l).toArray 26)) w.heap.size 32 (bvs l) := by
  have := Lies.new w (bvs l) 26
  rwa [bvs_len, hl] at this

set_option maxRecDepth 100000 in
set_option maxHeartbeats 1600000 in
theorem walk (a b c : List UInt8) (ha : a.length = 32) (hb : b.length = 32) (hc : c.length = 32) {w : World} (hg : GK w) :
    Calls Tryd.prog 9 #[.agg (bvs a).toArray, .agg (bvs b).toArray, .agg (bvs c).toArray] w fun e w' => e = .returned (.bool true) ∧ Below w.heap.size w w' := by
  have HA := Lib.hid ha
  have HB := Lib.hid hb
  have HC := Lib.hid hc
  obtain ⟨w1, hw1⟩ : ∃ w1, w1 = w.alloc (.cells (bvs a).toArray 26) := ⟨_, rfl⟩
  have l1 := Lies.mk3 w a ha
  have z1 : w1.heap.size = w.heap.size + 1 := by rw [hw1]; simp
  rw [← hw1] at l1
  obtain ⟨w2, hw2⟩ : ∃ w2, w2 = w1.alloc (.cells (bvs b).toArray 26) := ⟨_, rfl⟩
  have l2 := Lies.mk3 w1 b hb
  have z2 : w2.heap.size = w.heap.size + 1 + 1 := by rw [hw2]; simp [z1]
  rw [← hw2, z1] at l2
  have l12 : Lies w2 w.heap.size 32 (bvs a) := by rw [hw2]; exact l1.alloc _
  obtain ⟨w3, hw3⟩ : ∃ w3, w3 = w2.alloc (.cells (bvs c).toArray 26) := ⟨_, rfl⟩
  have l3 := Lies.mk3 w2 c hc
  rw [← hw3, z2] at l3
  have T3 : Hid (Th w3 w.heap.size (w.heap.size + 1) (w.heap.size + 1 + 1) a b c) := Lib.hid ⟨by rw [hw3]; exact l12.alloc _, by rw [hw3]; exact l2.alloc _, l3⟩
  have B3 : Hid (Below w.heap.size w w3) := Lib.hid (by rw [hw3, hw2, hw1]; exact (((Below.refl _ _).alloc (Nat.le_refl _) _).alloc (by simp) _).alloc (by simp; omega) _)
  have G3 : Hid (GK w3) := Lib.hid (by rw [hw3, hw2, hw1]; exact ((hg.alloc _).alloc _).alloc _)
  have HW3 := Lib.hid (hw3.trans (by rw [hw2, hw1]))
  clear hw1 hw2 hw3 l1 l2 l12 l3 z1 z2 ha hb hc hg
  go_enter Tryd.func9, Tryd.ntmps9
  go_wp2_with fail
  rw [← HW3.out]
  refine (wakes_any G3.out).mono ?_
  rintro e w4 ⟨rfl, hb4⟩
  have KS := Lib.hid (T3.out.below hb4)
  have BS := Lib.hid (B3.out.trans (hb4.mono B3.out.size))
  clear hb4 T3 B3 G3 HW3
  go_wp2_with fail
  replace BS := Lib.hid (BS.out.trans ((below_drew w4).mono BS.out.size))
  replace KS := Lib.hid (KS.out.below (below_drew w4))
  refine wp_region_noPanic ?_
  refine wp_region_held_drew (S := fun w' => Th w' w.heap.size (w.heap.size + 1) (w.heap.size + 1 + 1) a b c) (by kernel_rfl) KS.out (fun _ => ?_)
  refine wpAnyH_take (i := 0) rfl (by kernel_rfl) (by kernel_rfl) (by kernel_rfl) (fun _ _ _ h => h) (yieldsIf_load_mid rfl 26 _ rfl w.heap.size 0 rfl (bvs a) _ (fun w' hw' => hw'.x.rg) Tryd.underlying26 rfl (by rw [bvs_len, HA.out]; exact size_id)) KS.out ?_
  simp only [List.getElem_toArray, List.getElem_cons_zero, List.getElem_cons_succ, Act.put, List.setIfInBounds_toArray, List.set_cons_succ, List.set_cons_zero]
  refine wpAnyH_take (i := 1) rfl (by kernel_rfl) (by kernel_rfl) (by kernel_rfl) (fun _ _ _ h => h) (yieldsIf_load_mid rfl 26 _ rfl (w.heap.size + 1) 0 rfl (bvs b) _ (fun w' hw' => hw'.y.rg) Tryd.underlying26 rfl (by rw [bvs_len, HB.out]; exact size_id)) KS.out ?_
  simp only [List.getElem_toArray, List.getElem_cons_zero, List.getElem_cons_succ, Act.put, List.setIfInBounds_toArray, List.set_cons_succ, List.set_cons_zero]
  refine wpAnyH_take (i := 3) rfl (by kernel_rfl) (by kernel_rfl) (by kernel_rfl) (fun _ _ _ h => h) (yieldsIf_load_mid rfl 26 _ rfl (w.heap.size + 1) 0 rfl (bvs b) _ (fun w' hw' => hw'.y.rg) Tryd.underlying26 rfl (by rw [bvs_len, HB.out]; exact size_id)) KS.out ?_
  simp only [List.getElem_toArray, List.getElem_cons_zero, List.getElem_cons_succ, Act.put, List.setIfInBounds_toArray, List.set_cons_succ, List.set_cons_zero]
  refine wpAnyH_take (i := 4) rfl (by kernel_rfl) (by kernel_rfl) (by kernel_rfl) (fun _ _ _ h => h) (yieldsIf_load_mid rfl 26 _ rfl w.heap.size 0 rfl (bvs a) _ (fun w' hw' => hw'.x.rg) Tryd.underlying26 rfl (by rw [bvs_len, HA.out]; exact size_id)) KS.out ?_
  simp only [List.getElem_toArray, List.getElem_cons_zero, List.getElem_cons_succ, Act.put, List.setIfInBounds_toArray, List.set_cons_succ, List.set_cons_zero]
  refine wpAnyH_take (i := 6) rfl (by kernel_rfl) (by kernel_rfl) (by kernel_rfl) (fun _ _ _ h => h) (yieldsIf_load_mid rfl 26 _ rfl (w.heap.size + 1) 0 rfl (bvs b) _ (fun w' hw' => hw'.y.rg) Tryd.underlying26 rfl (by rw [bvs_len, HB.out]; exact size_id)) KS.out ?_
  simp only [List.getElem_toArray, List.getElem_cons_zero, List.getElem_cons_succ, Act.put, List.setIfInBounds_toArray, List.set_cons_succ, List.set_cons_zero]
  refine wpAnyH_take (i := 7) rfl (by kernel_rfl) (by kernel_rfl) (by kernel_rfl) (fun _ _ _ h => h) (yieldsIf_load_mid rfl 26 _ rfl (w.heap.size + 1 + 1) 0 rfl (bvs c) _ (fun w' hw' => hw'.z.rg) Tryd.underlying26 rfl (by rw [bvs_len, HC.out]; exact size_id)) KS.out ?_
  simp only [List.getElem_toArray, List.getElem_cons_zero, List.getElem_cons_succ, Act.put, List.setIfInBounds_toArray, List.set_cons_succ, List.set_cons_zero]
  refine wpAnyH_take (i := 9) rfl (by kernel_rfl) (by kernel_rfl) (by kernel_rfl) (fun _ _ _ h => h) (yieldsIf_load_mid rfl 26 _ rfl w.heap.size 0 rfl (bvs a) _ (fun w' hw' => hw'.x.rg) Tryd.underlying26 rfl (by rw [bvs_len, HA.out]; exact size_id)) KS.out ?_
  simp only [List.getElem_toArray, List.getElem_cons_zero, List.getElem_cons_succ, Act.put, List.setIfInBounds_toArray, List.set_cons_succ, List.set_cons_zero]
  refine wpAnyH_take (i := 10) rfl (by kernel_rfl) (by kernel_rfl) (by kernel_rfl) (fun _ _ _ h => h) (yieldsIf_load_mid rfl 26 _ rfl (w.heap.size + 1 + 1) 0 rfl (bvs c) _ (fun w' hw' => hw'.z.rg) Tryd.underlying26 rfl (by rw [bvs_len, HC.out]; exact size_id)) KS.out ?_
  simp only [List.getElem_toArray, List.getElem_cons_zero, List.getElem_cons_succ, Act.put, List.setIfInBounds_toArray, List.set_cons_succ, List.set_cons_zero]
  refine wpAnyH_ready (rs := [2]) (by kernel_rfl) (by simp) (AllReadyH.cons rfl (fun K hK => ?_) AllReadyH.nil)
  rw [if_pos (by rfl)]
  refine wp_fn (f := 34) (xs := #[.agg (bvs a).toArray, .agg (bvs b).toArray]) (by go_simp) ((less_any a b HA.out HB.out _).mono ?_)
  rintro e wn ⟨rfl, hbn⟩
  replace KS := Lib.hid (KS.out.below hbn)
  replace BS := Lib.hid (BS.out.trans (hbn.mono BS.out.size))
  clear hbn
  refine ⟨_, rfl, hK.out _ _ KS.out (fun _ => ?_)⟩
  simp only [List.getElem_toArray, List.getElem_cons_zero, List.getElem_cons_succ, Act.put, List.setIfInBounds_toArray, List.set_cons_succ, List.set_cons_zero]
  refine wpAnyH_ready (rs := [5]) (by kernel_rfl) (by simp) (AllReadyH.cons rfl (fun K hK => ?_) AllReadyH.nil)
  rw [if_pos (by rfl)]
  refine wp_fn (f := 34) (xs := #[.agg (bvs b).toArray, .agg (bvs a).toArray]) (by go_simp) ((less_any b a HB.out HA.out _).mono ?_)
  rintro e wn ⟨rfl, hbn⟩
  replace KS := Lib.hid (KS.out.below hbn)
  replace BS := Lib.hid (BS.out.trans (hbn.mono BS.out.size))
  clear hbn
  refine ⟨_, rfl, hK.out _ _ KS.out (fun _ => ?_)⟩
  simp only [List.getElem_toArray, List.getElem_cons_zero, List.getElem_cons_succ, Act.put, List.setIfInBounds_toArray, List.set_cons_succ, List.set_cons_zero]
  refine wpAnyH_ready (rs := [8]) (by kernel_rfl) (by simp) (AllReadyH.cons rfl (fun K hK => ?_) AllReadyH.nil)
  rw [if_pos (by rfl)]
  refine wp_fn (f := 34) (xs := #[.agg (bvs b).toArray, .agg (bvs c).toArray]) (by go_simp) ((less_any b c HB.out HC.out _).mono ?_)
  rintro e wn ⟨rfl, hbn⟩
  replace KS := Lib.hid (KS.out.below hbn)
  replace BS := Lib.hid (BS.out.trans (hbn.mono BS.out.size))
  clear hbn
  refine ⟨_, rfl, hK.out _ _ KS.out (fun _ => ?_)⟩
  simp only [List.getElem_toArray, List.getElem_cons_zero, List.getElem_cons_succ, Act.put, List.setIfInBounds_toArray, List.set_cons_succ, List.set_cons_zero]
  refine wpAnyH_ready (rs := [11]) (by kernel_rfl) (by simp) (AllReadyH.cons rfl (fun K hK => ?_) AllReadyH.nil)
  rw [if_pos (by rfl)]
  refine wp_fn (f := 34) (xs := #[.agg (bvs a).toArray, .agg (bvs c).toArray]) (by go_simp) ((less_any a c HA.out HC.out _).mono ?_)
  rintro e wn ⟨rfl, hbn⟩
  replace KS := Lib.hid (KS.out.below hbn)
  replace BS := Lib.hid (BS.out.trans (hbn.mono BS.out.size))
  clear hbn
  refine ⟨_, rfl, hK.out _ _ KS.out (fun _ => ?_)⟩
  simp only [List.getElem_toArray, List.getElem_cons_zero, List.getElem_cons_succ, Act.put, List.setIfInBounds_toArray, List.set_cons_succ, List.set_cons_zero]
  refine wpAnyH_take (i := 12) rfl (by kernel_rfl) (by kernel_rfl) (by kernel_rfl) (fun _ _ _ h => h) (.inl ⟨rfl, fun w' hw' => (by clear hw'; go_simp; rfl)⟩) KS.out ?_
  simp only [List.getElem_toArray, List.getElem_cons_zero, List.getElem_cons_succ, Act.put, List.setIfInBounds_toArray, List.set_cons_succ, List.set_cons_zero]
  refine wpAnyH_take (i := 13) rfl (by kernel_rfl) (by kernel_rfl) (by kernel_rfl) (fun _ _ _ h => h) (.inl ⟨rfl, fun w' hw' => (by clear hw'; go_simp; rfl)⟩) KS.out ?_
  simp only [List.getElem_toArray, List.getElem_cons_zero, List.getElem_cons_succ, Act.put, List.setIfInBounds_toArray, List.set_cons_succ, List.set_cons_zero]
  refine wpAnyH_take (i := 14) rfl (by kernel_rfl) (by kernel_rfl) (by kernel_rfl) (fun _ _ _ h => h) (.inl ⟨rfl, fun w' hw' => (by clear hw'; go_simp; rfl)⟩) KS.out ?_
  simp only [List.getElem_toArray, List.getElem_cons_zero, List.getElem_cons_succ, Act.put, List.setIfInBounds_toArray, List.set_cons_succ, List.set_cons_zero]
  refine wpAnyH_take (i := 15) rfl (by kernel_rfl) (by kernel_rfl) (by kernel_rfl) (fun _ _ _ h => h) (.inl ⟨rfl, fun w' hw' => (by clear hw'; go_simp; rfl)⟩) KS.out ?_
  simp only [List.getElem_toArray, List.getElem_cons_zero, List.getElem_cons_succ, Act.put, List.setIfInBounds_toArray, List.set_cons_succ, List.set_cons_zero]
  refine wpAnyH_done (by kernel_rfl) ?_ _
  refine NoPanic.normal ?_
  have hlaw := less_laws a b c HA.out HB.out HC.out
  have HTO := Lib.hid (text_order a b HA.out HB.out)
  have hne := run_neq_32 a b HA.out HB.out
  generalize lessB a b = ab at *
  generalize lessB b a = ba at *
  generalize lessB b c = bc at *
  generalize lessB a c = ac at *
  generalize (a == b) = same at *
  replace BS := Lib.hid (BS.out.trans ((below_drew wn).mono BS.out.size))
  have KT := Lib.hid (KS.out.below (below_drew wn))
  cases ab <;> cases ba <;> cases same <;> cases bc <;> cases ac <;> first | (exfalso; revert hlaw; decide) | clear hlaw
  all_goals
    simp only [Bool.not_true, Bool.not_false] at hne
    go_wp2_with (first
      | (with_reducible refine ldw_id rfl (.tmp 3) rfl w.heap.size 0 a HA rfl KS.out.x.rg ?_)
      | (with_reducible refine ldw_id rfl (.tmp 4) rfl (w.heap.size + 1) 0 b HB rfl KS.out.y.rg ?_))
    refine wp_region_noPanic ?_
    refine wp_region_held_drew (S := fun w' => Th w' w.heap.size (w.heap.size + 1) (w.heap.size + 1 + 1) a b c) (by kernel_rfl) KT.out (fun _ => ?_)
    refine wpAnyH_take (i := 1) rfl (by kernel_rfl) (by kernel_rfl) (by kernel_rfl) (fun _ _ _ h => h) (yieldsIf_load_mid rfl 26 _ rfl w.heap.size 0 rfl (bvs a) _ (fun w' hw' => hw'.x.rg) Tryd.underlying26 rfl (by rw [bvs_len, HA.out]; exact size_id)) KT.out ?_
    simp only [List.getElem_toArray, List.getElem_cons_zero, List.getElem_cons_succ, Act.put, List.setIfInBounds_toArray, List.set_cons_succ, List.set_cons_zero]
    refine wpAnyH_take (i := 3) rfl (by kernel_rfl) (by kernel_rfl) (by kernel_rfl) (fun _ _ _ h => h) (yieldsIf_load_mid rfl 26 _ rfl (w.heap.size + 1) 0 rfl (bvs b) _ (fun w' hw' => hw'.y.rg) Tryd.underlying26 rfl (by rw [bvs_len, HB.out]; exact size_id)) KT.out ?_
    simp only [List.getElem_toArray, List.getElem_cons_zero, List.getElem_cons_succ, Act.put, List.setIfInBounds_toArray, List.set_cons_succ, List.set_cons_zero]
    refine wpAnyH_take (i := 0) rfl (by kernel_rfl) (by kernel_rfl) (by kernel_rfl) (fun _ _ _ h => h) (.inl ⟨rfl, fun w' hw' => (by clear hw'; go_simp; rfl)⟩) KT.out ?_
    simp only [List.getElem_toArray, List.getElem_cons_zero, List.getElem_cons_succ, Act.put, List.setIfInBounds_toArray, List.set_cons_succ, List.set_cons_zero]
    refine wpAnyH_ready (rs := [2]) (by kernel_rfl) (by simp) (AllReadyH.cons rfl (fun K hK => ?_) AllReadyH.nil)
    rw [if_pos (by rfl)]
    refine wp_fn (f := 26) (xs := #[.agg (bvs a).toArray]) (by go_simp) ((text_any a HA.out _).mono ?_)
    rintro e wm ⟨rfl, hbn⟩
    replace KT := Lib.hid (KT.out.below hbn)
    replace BS := Lib.hid (BS.out.trans (hbn.mono BS.out.size))
    clear hbn
    obtain ⟨ta, hta⟩ : ∃ t : ByteArray, t = ⟨(textW a).toArray⟩ := ⟨_, rfl⟩
    rw [← hta]
    have HTA := Lib.hid hta
    clear hta
    refine ⟨_, rfl, hK.out _ _ KT.out (fun _ => ?_)⟩
    simp only [List.getElem_toArray, List.getElem_cons_zero, List.getElem_cons_succ, Act.put, List.setIfInBounds_toArray, List.set_cons_succ, List.set_cons_zero]
    refine wpAnyH_ready (rs := [4]) (by kernel_rfl) (by simp) (AllReadyH.cons rfl (fun K hK => ?_) AllReadyH.nil)
    rw [if_pos (by rfl)]
    refine wp_fn (f := 26) (xs := #[.agg (bvs b).toArray]) (by go_simp) ((text_any b HB.out _).mono ?_)
    rintro e wm ⟨rfl, hbn⟩
    replace KT := Lib.hid (KT.out.below hbn)
    replace BS := Lib.hid (BS.out.trans (hbn.mono BS.out.size))
    clear hbn
    obtain ⟨tb, htb⟩ : ∃ t : ByteArray, t = ⟨(textW b).toArray⟩ := ⟨_, rfl⟩
    rw [← htb]
    have HTB := Lib.hid htb
    clear htb
    refine ⟨_, rfl, hK.out _ _ KT.out (fun _ => ?_)⟩
    simp only [List.getElem_toArray, List.getElem_cons_zero, List.getElem_cons_succ, Act.put, List.setIfInBounds_toArray, List.set_cons_succ, List.set_cons_zero]
    refine wpAnyH_take (i := 5) rfl (by kernel_rfl) (by kernel_rfl) (by kernel_rfl) (fun _ _ _ h => h) (.inl ⟨rfl, fun w' hw' => (by clear hw'; go_simp; rfl)⟩) KT.out ?_
    simp only [List.getElem_toArray, List.getElem_cons_zero, List.getElem_cons_succ, Act.put, List.setIfInBounds_toArray, List.set_cons_succ, List.set_cons_zero]
    refine wpAnyH_take (i := 6) rfl (by kernel_rfl) (by kernel_rfl) (by kernel_rfl) (fun _ _ _ h => h) (.inl ⟨rfl, fun w' hw' => (by clear hw'; go_simp; rfl)⟩) KT.out ?_
    simp only [List.getElem_toArray, List.getElem_cons_zero, List.getElem_cons_succ, Act.put, List.setIfInBounds_toArray, List.set_cons_succ, List.set_cons_zero]
    refine wpAnyH_take (i := 7) rfl (by kernel_rfl) (by kernel_rfl) (by kernel_rfl) (fun _ _ _ h => h) (.inl ⟨rfl, fun w' hw' => (by clear hw'; go_simp; rfl)⟩) KT.out ?_
    simp only [List.getElem_toArray, List.getElem_cons_zero, List.getElem_cons_succ, Act.put, List.setIfInBounds_toArray, List.set_cons_succ, List.set_cons_zero]
    refine wpAnyH_done (by kernel_rfl) ?_ _
    refine NoPanic.normal ?_
    go_wp2
    go_ret
    refine ⟨?_, BS.out⟩
    rw [HTA.out, HTB.out, Lib.toList_data, Lib.toList_data]
    rw [show Op.bytesLess (ByteArray.mk (textW a).toArray).data.toList (ByteArray.mk (textW b).toArray).data.toList = _ from HTO.out]
    rfl

set_option maxRecDepth 100000 in
theorem lifted (os : Os) (started : os.Started) (H : Type) (enc : TypeId × Value → H) :
    ReturnsInHanded {} Tryd.checked os 9 .any (fun w args => (Rows.shaOrderSpec.pre enc Tryd.prog Tryd.f9 [] false w args ∧ laidMetH Tryd.prog laidL w) ∧ sizedMet enc Tryd.prog Tryd.f9 (OpenSpec.ofChange Rows.shaOrderSpec) false w args)
      (Rows.shaOrderSpec.post enc Tryd.prog Tryd.f9 false true false false) := by
  refine returnsInHanded_of_change_and (C := Tryd.checked) (X := fun w _ => laidMetH Tryd.prog laidL w) (fun _ _ _ hh h => h.of_heap hh) own started (by kernel_rfl) Tryd.func9
    (ChangeSpec.witness_shaped (enc := enc) (C := Tryd.checked) (os := os) (X := fun w _ => laidMetH Tryd.prog laidL w) false (World.doorLaid Tryd.prog 14 os) #[.agg (Array.replicate 32 (.int .u8 0)), .agg (Array.replicate 32 (.int .u8 0)), .agg (Array.replicate 32 (.int .u8 0))] 8 rfl (World.shaped_of_RefB (by kernel_rfl) (by kernel_rfl)) (by kernel_rfl) (by kernel_rfl) (by kernel_rfl) (door_met os _)) ?_
  intro W base args ds gs before hval0 hW _ _ hL _
  have hval : ∀ (j : Nat) t v, Tryd.f9.params[j]? = some t → args[j]? = some v → Value.okWide Tryd.prog W .any base t v := hval0
  have hW' := hW
  obtain ⟨p, q, hA0, hV, rfl, hfz, hnd⟩ := hW
  have hA : DataW.TrodAll enc Tryd.prog W 0 (fun _ => true) true Tryd.f9.params.toList args.toList ds p := hA0
  rw [Tryd.params9] at hA hval
  obtain ⟨v0, vs0, d0, ds0, p0, q0, hargs, rfl, rfl, h0, r0⟩ := trodAll_cons hA
  obtain ⟨v1, vs1, d1, ds1, p1, q1, rfl, rfl, rfl, h1, r1⟩ := trodAll_cons r0
  obtain ⟨v2, vs2, d2, ds2, p2, q2, rfl, rfl, rfl, h2, r2⟩ := trodAll_cons r1
  obtain ⟨rfl, rfl, rfl⟩ := trodAll_nil r2
  obtain rfl : args = #[v0, v1, v2] := by cases args; simp_all
  obtain ⟨rfl, rfl⟩ := trodVars_none hV
  have hGK := gk_of_laid hL
  have k0 := h0
  have lt0 : ∀ x ∈ p0, x.block < W.heap.size := by obtain ⟨m, hm⟩ := k0; exact DataW.trod_lt m _ _ _ hm
  obtain ⟨l0, n0, rfl⟩ := open_arr8 Tryd.underlying26 (by kernel_rfl) (hval 0 26 v0 rfl rfl) h0
  have k1 := h1
  have lt1 : ∀ x ∈ p1, x.block < W.heap.size := by obtain ⟨m, hm⟩ := k1; exact DataW.trod_lt m _ _ _ hm
  obtain ⟨l1, n1, rfl⟩ := open_arr8 Tryd.underlying26 (by kernel_rfl) (hval 1 26 v1 rfl rfl) h1
  have k2 := h2
  have lt2 : ∀ x ∈ p2, x.block < W.heap.size := by obtain ⟨m, hm⟩ := k2; exact DataW.trod_lt m _ _ _ hm
  obtain ⟨l2, n2, rfl⟩ := open_arr8 Tryd.underlying26 (by kernel_rfl) (hval 2 26 v2 rfl rfl) h2
  clear hA0 hval0
  refine (walk l0 l1 l2 n0 n1 n2 hGK).mono fun e W' ⟨he, bel⟩ => ?_
  subst he
  exact ⟨_, rfl, _, _, _, [], _, [], hW', trodAll_mk1 (shut_bool Tryd.underlying4 _), (trodAll_cons_mk (Below.trod laidOut (by kernel_rfl) (of_decide_eq_true (by kernel_rfl)) k0 bel lt0) (trodAll_cons_mk (Below.trod laidOut (by kernel_rfl) (of_decide_eq_true (by kernel_rfl)) k1 bel lt1) (trodAll_cons_mk (Below.trod laidOut (by kernel_rfl) (of_decide_eq_true (by kernel_rfl)) k2 bel lt2) trodAll_mk0))), rfl, bel.frame _, fun h => by cases h⟩

theorem over : Rows.shaOrderRow.holds Tryd.pinned (OpenSpec.ofChange Rows.shaOrderSpec) :=
  OpenClaim.holds_of_wide 9 Tryd.f9 rfl rfl rfl rfl rfl rfl rfl ⟨rfl, rfl, rfl, rfl, rfl⟩ rfl rfl rfl rfl rfl (by kernel_rfl) Tryd.func9 (by kernel_rfl)
    (of_decide_eq_true (by kernel_rfl)) (by unfold Func.isWrapper; first | (rw [if_pos (by decide +kernel)]; kernel_rfl) | (rw [if_neg (by decide +kernel)]; exact ⟨rfl, rfl⟩))
    (fun os started H enc _ => lifted os started H enc)

theorem proved : Rows.ShaOrderCardSaid :=
  Claim7.holds_tied_plain_at .later [] [.data] true Rows.shaOrderCard.stood.harness false
    over (fun _ h => by cases h) (by kernel_rfl) (fun _ h => by cases h) shaOrder_row_tie rfl ⟨rfl, rfl⟩ (by kernel_rfl) rfl
    (fun f fn hf hfn => by
      obtain rfl : f = 9 := Option.some.inj ((show Tryd.prog.funcNamed "confluence/confluencelaw03.ShaOrder" = some 9 by kernel_rfl).symm.trans hf) |>.symm
      obtain rfl : fn = Tryd.f9 := (Option.some.inj (Tryd.func9.symm.trans hfn)).symm
      exact ⟨by kernel_rfl, fun j t ht => by
        have hall : (Tryd.f9.params.all fun u => !Tryd.prog.wantsStandIn u) = true := by kernel_rfl
        have := Array.all_eq_true_iff_forall_mem.1 hall t (Array.mem_of_getElem? ht)
        exact (by simpa using this : Tryd.prog.wantsStandIn t = false)⟩)
    (by kernel_rfl)
#print axioms proved
end Go.Proofs.YtgbpbbjglikheaaDoor.shaOrder
