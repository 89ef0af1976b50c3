/-
  A BLOCK GOES INTO A SUM.
-/
import Derived.Test.YtgjkahoblopddaaDoorPad
import Derived.Test.YtgjkahoblopddaaDoorBk
namespace Go.Proofs.YtgjkahoblopddaaDoor
set_option linter.unusedVariables false
set_option linter.unusedSimpArgs false
open Go.RowKit Go.WideShapes Go.ChangeShapes

set_option maxRecDepth 100000 in
set_option maxHeartbeats 1600000 in
theorem take_any (h : W8) (blk : List UInt8) (hl : blk.length = 64) {w : World} (hg : GK w) {g : Nat} (hL : Lies w g 8 (wvs h.list)) {b o c : Nat} (hr : w.rangeAt b o (bvs blk)) (hb : b < w.heap.size) :
    Calls Tryd.prog 36 #[rp g, .slice (some ⟨b, o, none⟩) 64 c] w fun e w' => e = .returned (.tuple #[]) ∧ Lies w' g 8 (wvs (blockW h blk).list) ∧ Mv (fun k => k = g) w w' := by
  have HL := Lib.hid hL
  have HG := Lib.hid hg
  have HB := Lib.hid hl
  have H8 := Lib.hid (show (wvs h.list).length = 8 from rfl)
  have HR := Lib.hid hr
  have HBS := Lib.hid hb
  have har := fun w => run_arrayAt (P := Tryd.prog) w 32 5 64 (some ⟨b, o, none⟩) 64 c Tryd.underlying32 (Nat.le_refl _)
  clear hg hL hl hr hb
  go_enter Tryd.func36, Tryd.ntmps36
  have BD := Lib.hid (show Below w.heap.size w w.drew from (Below.refl _ _).drew)
  refine wp_region_bk 9 10 13 (fun w' => w'.rangeAt g 0 (wvs h.list) ∧ w'.rangeAt b o (bvs blk)) (by kernel_rfl) (by kernel_rfl) ⟨(HL.out.below BD.out HL.out.lt).rg, rangeAt_keep HR.out (BD.out.block b HBS.out)⟩ ?_
  simp only [List.take_succ_cons, List.take_zero, List.drop_succ_cons, List.drop_zero]
  refine ⟨_, .inl ⟨rfl, fun w' hw' => (by go_simp; rfl)⟩, ?_⟩
  refine ⟨_, .inl ⟨rfl, fun w' hw' => (by go_simp; rfl)⟩, ?_⟩
  refine ⟨_, .inl ⟨rfl, fun w' hw' => (by clear hw'; go_simp; rfl)⟩, ?_⟩
  refine ⟨_, .inl ⟨rfl, fun w' hw' => (by clear hw'; go_simp; rfl)⟩, ?_⟩
  refine ⟨_, .inl ⟨rfl, fun w' hw' => (by clear hw'; go_simp; rfl)⟩, ?_⟩
  refine ⟨_, yieldsIf_load_mid rfl 31 _ rfl g 0 rfl (wvs h.list) _ (fun w' hw' => hw'.1) Tryd.underlying31 rfl (by rw [H8.out]; exact size_w8), ?_⟩
  refine ⟨_, .inl ⟨rfl, fun w' hw' => (by clear hw'; go_simp; rfl)⟩, ?_⟩
  refine ⟨_, .inl ⟨rfl, fun w' hw' => (by clear hw'; go_simp; rfl)⟩, ?_⟩
  refine ⟨_, yieldsIf_load_mid rfl 32 _ rfl b o rfl (bvs blk) _ (fun w' hw' => hw'.2) Tryd.underlying32 rfl (by rw [bvs_len, HB.out]; exact size_b64), ?_⟩
  rw [wpHead_nil]
  rw [wpMid_cons]
  refine ⟨rfl, ?_⟩
  refine wp_fn (f := 17) (xs := #[h.val, .agg (bvs blk).toArray]) (by go_simp; rfl) ((block_any h blk HB.out (HG.out.below BD.out)).mono ?_)
  rintro e w3 ⟨rfl, hb3⟩
  have B3 := Lib.hid (BD.out.trans hb3)
  have L3 := Lib.hid (HL.out.below B3.out HL.out.lt)
  clear hb3
  refine ⟨_, rfl, ⟨L3.out.rg, rangeAt_keep HR.out (B3.out.block b HBS.out)⟩, ?_⟩
  rw [wpMid_nil]
  simp only [Act.put, List.setIfInBounds_toArray, List.set_cons_succ, List.set_cons_zero]
  refine ⟨_, .inl ⟨rfl, fun w' _ => (by go_simp; rfl)⟩, ?_⟩
  simp only [Act.put, List.setIfInBounds_toArray, List.set_cons_succ, List.set_cons_zero]
  refine ⟨_, .inl ⟨rfl, fun w' _ => (by go_simp; rfl)⟩, ?_⟩
  simp only [Act.put, List.setIfInBounds_toArray, List.set_cons_succ, List.set_cons_zero]
  refine ⟨_, .inl ⟨rfl, fun w' _ => (by go_simp; rfl)⟩, ?_⟩
  rw [wpHead_nil]
  simp only [Act.put, List.setIfInBounds_toArray, List.set_cons_succ, List.set_cons_zero]
  have HN8 := Lib.hid (show (blockW h blk).list.length = 8 from rfl)
  have L4 := Lib.hid (L3.out.set_ (l' := wvs (blockW h blk).list) rfl)
  have M4 := Lib.hid ((Mv.of_below B3.out (fun k => k = g)).setCells (b := g) (.inl rfl) 0 (wvs (blockW h blk).list))
  go_wp2_with (first
    | (with_reducible refine st_w8 rfl _ _ rfl g 0 (blockW h blk).list HN8 rfl rfl L3.out.th ?_))
  refine NoPanic.normal ?_
  go_end0
  exact ⟨rfl, L4.out, M4.out⟩
end Go.Proofs.YtgjkahoblopddaaDoor
