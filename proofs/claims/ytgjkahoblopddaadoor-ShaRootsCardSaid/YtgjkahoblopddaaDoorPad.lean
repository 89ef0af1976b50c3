/-
  BYTES, FILLED UP.
-/
import Derived.Test.YtgjkahoblopddaaDoorId
import Derived.Deep.CutBlock
namespace Go.Proofs.YtgjkahoblopddaaDoor
set_option linter.unusedVariables false
set_option linter.unusedSimpArgs false
open Go.RowKit

/-- How many bytes there are ahead of the length. -/
def fillN (n : Nat) : Nat := if (n + 9) % 64 = 0 then n + 1 else n + 1 + (64 - (n + 9) % 64)
theorem fillN_bd (n : Nat) : n + 1 ≤ fillN n ∧ fillN n ≤ n + 64 ∧ (fillN n + 8) % 64 = 0 := by
  unfold fillN
  split <;> omega
/-- The bytes, a one, noughts, and how many bits there are. -/
def padW (l : List UInt8) : List UInt8 := l ++ 128 :: List.replicate (fillN l.length - l.length - 1) 0 ++ be 8 (8 * l.length)
theorem padW_len (l : List UInt8) : (padW l).length = fillN l.length + 8 := by
  have := fillN_bd l.length
  simp only [padW, List.length_append, List.length_cons, List.length_replicate, be_len]
  omega

set_option maxRecDepth 100000 in
set_option maxHeartbeats 1000000 in
theorem pad_any {A : Option Addr} {n c : Nat} {l : List UInt8} {w : World} {B : Nat} (hs : SlB w B A n c l) (hB : B ≤ w.heap.size) (hn : n ≤ 1000000000) :
    Calls Tryd.prog 12 #[.slice A n c] w fun e w' => ∃ g m, e = .returned (.slice (some ⟨g, 0, none⟩) m m) ∧ m = fillN n + 8 ∧ w.heap.size ≤ g ∧ Bl w' g 5 (bvs (padW l)) ∧ Below w.heap.size w w' := by
  obtain ⟨m, hm⟩ : ∃ m, fillN n = m := ⟨_, rfl⟩
  have hbd := fillN_bd n
  rw [hm] at hbd
  have hmk := make_bytes m (m : Int) rfl (by omega)
  have hl := hs.le
  have hz8 := size_u8
  have hcp : (bvs l).length = Nat.min n m := by rw [bvs_len, hs.len]; exact (Nat.min_eq_left (by omega)).symm
  have hpos : 0 < (bvs l).length → some (⟨w.heap.size, 0, none⟩ : Addr) = some ⟨w.heap.size, 0, none⟩ ∧ ∃ ad, A = some ad ∧ ∀ j v, (bvs l)[j]? = some v → (w.alloc (.cells (bvs (List.replicate m 0)).toArray 5)).cell? (ad.add j) = some v := by
    intro h0
    rw [bvs_len, hs.len] at h0
    obtain ⟨ad, e, hc⟩ := (hs.below ((Below.refl B w).alloc hB (.cells (bvs (List.replicate m 0)).toArray 5))).src h0
    exact ⟨rfl, ad, e, hc⟩
  have hfit : 0 + (bvs l).length ≤ (bvs (List.replicate m 0)).length := by have := hs.len; simp only [bvs_len, List.length_replicate]; omega
  have hlen := Lib.hid hs.len
  have HM := Lib.hid hmk
  have HN := Lib.hid hn
  have HBD := Lib.hid hbd
  have HFM := Lib.hid hm
  have hn0 : (0 : Int) ≤ (n : Int) := Int.natCast_nonneg _
  have hn1 : (n : Int) ≤ 1000000000 := by omega
  clear hmk hn hl hm
  go_enter Tryd.func12, Tryd.ntmps12
  go_upto_if 13 with fail
  go_cut [3] (fun f wx => f = .int .i64 (m : Int) ∧ wx = w)
  case first =>
    by_cases hc0 : (n + 9) % 64 = 0
    · have hmm : m = n + 1 := by have := HFM.out; unfold fillN at this; rw [if_pos hc0] at this; exact this.symm
      have hd : decide ((0 : Int) < ((n : Int) + 1 + 8) % 64) = false := by simp; omega
      go_wp2_with fail
      go_meet
      case rel => exact ⟨by rw [hmm]; go_num, rfl⟩
    · have hmm : m = n + 1 + (64 - (n + 9) % 64) := by have := HFM.out; unfold fillN at this; rw [if_neg hc0] at this; exact this.symm
      have hd : decide ((0 : Int) < ((n : Int) + 1 + 8) % 64) = true := by simp; omega
      have hr0 : (0 : Int) ≤ ((n : Int) + 1 + 8) % 64 := by omega
      have hr1 : ((n : Int) + 1 + 8) % 64 < 64 := by omega
      go_wp2_with fail
      go_meet
      case rel => exact ⟨congrArg (Value.int IntKind.i64) (by omega), rfl⟩
  case rest =>
    obtain ⟨rfl, hwc⟩ := hcut
    rw [hwc]
    clear hwc
    have hm0 : (0 : Int) ≤ (m : Int) := Int.natCast_nonneg _
    have hm1 : (m : Int) ≤ 1000000064 := by have := HBD.out; omega
    have hnm : (n : Int) < (m : Int) := by have := HBD.out; omega
    have hmk := HM.out
    have HPW := Lib.hid (show padW l = l ++ 128 :: List.replicate (m - n - 1) 0 ++ be 8 (8 * n) by unfold padW; rw [hlen.out, HFM.out])
    have HREP := Lib.hid (show List.replicate (m - n) (0 : UInt8) = 0 :: List.replicate (m - n - 1) 0 by rw [← List.replicate_succ]; congr 1; have := HBD.out; omega)
    go_wp2_with (
      (with_reducible refine wpList_copy_splice rfl (.tmp 20) (.tmp 21) 22 22 rfl 5 Tryd.underlying22 hz8 _ _ _ _ _ _ rfl rfl w.heap.size 0 (bvs (List.replicate m 0)) 5 (heap_alloc_new w _) (bvs l) hcp hpos hfit (bvs_one l) w.heap.size w ((Below.refl _ w).alloc (Nat.le_refl _) _) (Nat.le_refl _) ?_)
      intro w1 hw1 hb1
      have HBL : Hid (Bl w1 w.heap.size 5 (bvs (l ++ List.replicate (m - n) 0))) := Lib.hid (by
        have h2 := hw1.out
        unfold Bl
        rw [h2]
        congr 3
        rw [splice_front _ _ hfit, bvs_len, bvs_app]
        congr 1
        simp only [bvs, ← List.map_drop, List.drop_replicate]
        rw [hlen.out])
      have q1 : w1.cell? ⟨w.heap.size, n, none⟩ = some (bv 0) := (by
        rw [HBL.out.cell n, HREP.out]
        have := hlen.out
        simp only [bvs, List.map_append]
        rw [List.getElem?_append_right (by simp; omega)]
        simp [this])
      have q2 := HBL.out.frozen n
      )
    have hbl2 := HBL.out.set_ n (bv 128)
    have HB2 : Hid (Bl (w1.setCell ⟨w.heap.size, n, none⟩ (bv 128)) w.heap.size 5 (bvs (l ++ 128 :: List.replicate (m - n - 1) 0))) := Lib.hid (by
      have e : (bvs (l ++ List.replicate (m - n) 0)).set n (bv 128) = bvs (l ++ 128 :: List.replicate (m - n - 1) 0) := by
        rw [HREP.out]
        have hl2 := hlen.out
        simp only [bvs, List.map_append]
        rw [List.set_append_right _ _ (by simp; omega)]
        simp [hl2]
      rw [e] at hbl2
      exact hbl2)
    have hb2 : Below w.heap.size w (w1.setCell ⟨w.heap.size, n, none⟩ (bv 128)) := hb1.setCell (Nat.le_refl _) _
    have HBE := Lib.hid hb2
    have S2 : Hid (SlB (w1.setCell ⟨w.heap.size, n, none⟩ (bv 128)) (w1.setCell ⟨w.heap.size, n, none⟩ (bv 128)).heap.size (some ⟨w.heap.size, 0, none⟩) m m (l ++ 128 :: List.replicate (m - n - 1) 0)) := Lib.hid (by
      have hl2 : (l ++ 128 :: List.replicate (m - n - 1) (0 : UInt8)).length = m := by have := HBD.out; have := hlen.out; simp; omega
      have := HB2.out.sl (B := (w1.setCell ⟨w.heap.size, n, none⟩ (bv 128)).heap.size) HB2.out.lt (by rw [hl2]; have := HBD.out; have := HN.out; unfold maxLen; omega)
      rwa [hl2] at this)
    clear hbl2 hb2
    refine (put_u64 S2.out (Nat.le_refl _) (8 * n) _ (by omega) (by have := HN.out; omega) (by have := HBD.out; have := HN.out; omega)).mono ?_
    rintro e w5 ⟨g, hg, rfl, hb5, hw5⟩
    have HB5 := Lib.hid hb5
    have HW5 := Lib.hid hw5
    have HG := Lib.hid hg
    clear hb5 hw5 hg
    go_wp2
    go_ret
    exact ⟨g, m + 8, rfl, by rw [HFM.out], Nat.le_trans HBE.out.size HG.out, by rw [HPW.out]; exact HB5.out, HBE.out.trans (HW5.out.mono HBE.out.size)⟩
end Go.Proofs.YtgjkahoblopddaaDoor
