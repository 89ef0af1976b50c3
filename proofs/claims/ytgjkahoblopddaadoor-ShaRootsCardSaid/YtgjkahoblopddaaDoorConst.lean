/-
  THE CONSTANTS, AS THEY ARE HANDED OUT.
-/
import Derived.Test.YtgjkahoblopddaaDoorDraw
namespace Go.Proofs.YtgjkahoblopddaaDoor
set_option linter.unusedVariables false
set_option linter.unusedSimpArgs false
open Go.RowKit Go.WideShapes Go.ChangeShapes

set_option maxRecDepth 100000 in
theorem constants_at (l : List UInt32) (hl : l.length = 64) {w : World} (h0 : 0 < w.heap.size) (hg : w.rangeAt 0 0 (wvs l)) : Calls Tryd.prog 20 #[] w fun e w' => e = .returned (.agg (wvs l).toArray) ∧ Below w.heap.size w w' := by
  obtain ⟨w1, hw1⟩ : ∃ w1, w1 = w.alloc (.cells (wvs Zw).toArray 39) := ⟨_, rfl⟩
  have l1 : Lies w1 w.heap.size 64 (wvs Zw) := by
    have := Lies.new w (wvs Zw) 39
    rw [wvs_len, Zw_len] at this
    rwa [hw1]
  have hb1 : Below w.heap.size w w1 := by rw [hw1]; exact (Below.refl _ _).alloc (Nat.le_refl _) _
  have hr : w1.rangeAt 0 0 (wvs l) := fun j v hv => (World.cell?_of_block (a := ⟨0, 0 + j, none⟩) (hb1.block 0 h0)).trans (hg j v hv)
  have HK := Lib.hid hl
  have HG := Lib.hid hr
  have L1 := Lib.hid l1
  have B1 := Lib.hid hb1
  have HW1 := Lib.hid hw1
  clear hg hl hr l1 hb1 hw1
  go_enter Tryd.func20, Tryd.ntmps20
  go_wp2_with (first | ((with_reducible refine al_w64 rfl rfl ?_); rw [← HW1.out]) | (with_reducible refine ld_w64 rfl _ rfl 0 0 l HK rfl HG.out ?_) | (with_reducible refine st_w64 rfl _ _ rfl w.heap.size 0 l HK rfl rfl L1.out.th ?_))
  refine bodyPost_ret (res_w64 rfl _ _ w.heap.size l HK.out rfl (L1.out.set_ (l' := wvs l) (by rw [wvs_len, HK.out])).rg) rfl ⟨rfl, below_setCells B1.out (Nat.le_refl _) _ _⟩
theorem constants_any {w : World} (hg : GK w) : Calls Tryd.prog 20 #[] w fun e w' => e = .returned (.agg (wvs ksW).toArray) ∧ Below w.heap.size w w' := constants_at ksW rfl hg.lt hg.rg
end Go.Proofs.YtgjkahoblopddaaDoor
