/-
  THE DIGEST OF BYTES.
-/
import Derived.Test.YtgjkahoblopddaaDoorSum
namespace Go.Proofs.YtgjkahoblopddaaDoor
set_option linter.unusedVariables false
set_option linter.unusedSimpArgs false
open Go.RowKit Go.WideShapes Go.ChangeShapes

theorem sumW_len (l : List UInt8) : (sumW l).length = 32 := idW_len _

set_option maxRecDepth 100000 in
set_option maxHeartbeats 1600000 in
theorem sum_any {A : Option Addr} {n c : Nat} {l : List UInt8} {w : World} {B : Nat} (hs : SlB w B A n c l) (hB : B ≤ w.heap.size) (hn : n ≤ 1000000000) (hg : GK w) :
    Calls Tryd.prog 13 #[.slice A n c] w fun e w' => e = .returned (.agg (bvs (sumW l)).toArray) ∧ Below w.heap.size w w' := by
  have HS := Lib.hid hs
  have HG := Lib.hid hg
  have HN := Lib.hid hn
  have HBB := Lib.hid hB
  have hlen := Lib.hid hs.len
  have L0 := Lib.hid (Zi_new w)
  have hb0 : Below w.heap.size w (w.alloc (.cells (bvs Zi).toArray 26)) := (Below.refl _ _).alloc (Nat.le_refl _) _
  have B0 := Lib.hid hb0
  have Z0 := Lib.hid (show (w.alloc (.cells (bvs Zi).toArray 26)).heap.size = w.heap.size + 1 by simp)
  clear hs hg hn hB hb0
  go_enter Tryd.func13, Tryd.ntmps13
  go_wp2_with (first | (with_reducible refine al_id rfl rfl ?_))
  generalize w.alloc (.cells (bvs Zi).toArray 26) = w0 at L0 B0 Z0 ⊢
  refine (start_any w0).mono ?_
  rintro e w1 ⟨rfl, hb1⟩
  have B1 := Lib.hid (B0.out.trans (hb1.mono B0.out.size))
  have L1 := Lib.hid (L0.out.below hb1 L0.out.lt)
  have HW1 := Lib.hid (show w.heap.size < w1.heap.size from Nat.lt_of_lt_of_le L0.out.lt hb1.size)
  clear hb1
  go_wp2_with fail
  have L2 : Hid (Lies (w1.alloc (.cells #[wv startW.a, wv startW.b, wv startW.c, wv startW.d, wv startW.e, wv startW.f, wv startW.g, wv startW.h] 63)) w1.heap.size 8 (wvs startW.list)) := Lib.hid (Lies.new w1 (wvs startW.list) 63)
  have hb2 : Below w1.heap.size w1 (w1.alloc (.cells #[wv startW.a, wv startW.b, wv startW.c, wv startW.d, wv startW.e, wv startW.f, wv startW.g, wv startW.h] 63)) := (Below.refl _ _).alloc (Nat.le_refl _) _
  have B2 := Lib.hid (B1.out.trans (hb2.mono B1.out.size))
  have R2 := Lib.hid (L1.out.below hb2 L1.out.lt)
  clear hb2
  generalize w1.alloc (.cells #[wv startW.a, wv startW.b, wv startW.c, wv startW.d, wv startW.e, wv startW.f, wv startW.g, wv startW.h] 63) = w2 at L2 B2 R2 ⊢
  refine (pad_any (HS.out.below (B2.out.mono HBB.out)) (Nat.le_trans HBB.out B2.out.size) HN.out).mono ?_
  rintro e w3 ⟨g, m, rfl, hm, hgb, hbl, hb3⟩
  obtain ⟨q, rfl⟩ : ∃ q, m = 64 * q := ⟨m / 64, by have := (fillN_bd n).2.2; omega⟩
  have HM := Lib.hid hm
  have hpl : (padW l).length = 64 * q := by rw [padW_len, hlen.out, hm]
  have HPL := Lib.hid hpl
  have LR : Hid (Lies w3 g (64 * q) (bvs (padW l))) := Lib.hid (by
    have := hbl.lies
    rwa [bvs_len, hpl] at this)
  have L3 := Lib.hid (L2.out.below hb3 L2.out.lt)
  have B3 := Lib.hid (B2.out.trans (hb3.mono B2.out.size))
  have R3 := Lib.hid (R2.out.below hb3 R2.out.lt)
  have HQ := Lib.hid (show q ≤ 100000000 by have := (fillN_bd n).2.1; have := HN.out; omega)
  have HE := Lib.hid (each_any startW (padW l) q hpl HQ.out (HG.out.below B3.out) L3.out LR.out (by have := L2.out.lt; omega) (by have := HW1.out; omega) (c := 64 * q) (Nat.le_refl _) (by have := HQ.out; omega))
  clear hm hgb hbl hb3 hpl
  go_wp2_with fail
  refine (HE.out).mono ?_
  rintro e w4 ⟨rfl, hL4, hm4⟩
  have L4 := Lib.hid hL4
  have B4 := Lib.hid (B3.out.trans ((hm4.below (B := w.heap.size) (fun b hb => by have := HW1.out; omega) B3.out.size)))
  have R4 := Lib.hid (R3.out.mv hm4 (by have := HW1.out; omega))
  have H8 := Lib.hid (show (foldW startW (padW l) q).list.length = 8 from rfl)
  clear hL4 hm4
  go_wp2_with (first | (with_reducible refine ld_wd rfl _ rfl w1.heap.size 0 (foldW startW (padW l) q).list H8 rfl L4.out.rg ?_))
  refine (id_any (foldW startW (padW l) q) _).mono ?_
  rintro e w5 ⟨rfl, hb5⟩
  have B5 := Lib.hid (B4.out.trans (hb5.mono B4.out.size))
  have R5 := Lib.hid (R4.out.below hb5 R4.out.lt)
  have HI := Lib.hid (idW_len (foldW startW (padW l) q))
  clear hb5
  go_wp2_with (first | (with_reducible refine st_id rfl _ _ rfl w.heap.size 0 (idW (foldW startW (padW l) q)) HI rfl rfl R5.out.th ?_))
  refine bodyPost_ret (res_id rfl _ _ w.heap.size (idW (foldW startW (padW l) q)) HI.out rfl (R5.out.set_ (l' := bvs (idW (foldW startW (padW l) q))) (by rw [bvs_len]; exact HI.out)).rg) rfl ⟨?_, below_setCells B5.out (Nat.le_refl _) _ _⟩
  unfold sumW
  rw [HPL.out, Nat.mul_div_cancel_left _ (by omega : 0 < 64)]
end Go.Proofs.YtgjkahoblopddaaDoor
