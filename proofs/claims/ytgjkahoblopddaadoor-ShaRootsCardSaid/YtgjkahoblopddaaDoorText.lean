/-
  THE TEXT OF A DIGEST.
-/
import Derived.Test.YtgjkahoblopddaaDoorLess
import Derived.StillTailTactics
import Derived.Deep.AppendLies
import Derived.Deep.RegionLaw
namespace Go.Proofs.YtgjkahoblopddaaDoor
set_option linter.unusedVariables false
set_option linter.unusedSimpArgs false
open Go.RowKit Go.WideShapes Go.ChangeShapes

def signsL : List UInt8 := [48, 49, 50, 51, 52, 53, 54, 55, 56, 57, 97, 98, 99, 100, 101, 102]
def sgn16 (i : Nat) : UInt8 := signsL.getD i 0
theorem index_sign {i : Nat} (hi : i < 16) (k : IntKind) (w : World) : (Instr.index 9 (.string ⟨#[48, 49, 50, 51, 52, 53, 54, 55, 56, 57, 97, 98, 99, 100, 101, 102]⟩) (.int k (i : Int))).run Tryd.prog w = .ok (.int .u8 ((sgn16 i).toNat : Int)) w := by
  rcases (show i = 0 ∨ i = 1 ∨ i = 2 ∨ i = 3 ∨ i = 4 ∨ i = 5 ∨ i = 6 ∨ i = 7 ∨ i = 8 ∨ i = 9 ∨ i = 10 ∨ i = 11 ∨ i = 12 ∨ i = 13 ∨ i = 14 ∨ i = 15 by omega) with rfl | rfl | rfl | rfl | rfl | rfl | rfl | rfl | rfl | rfl | rfl | rfl | rfl | rfl | rfl | rfl <;> kernel_rfl
theorem sign_get (m : Nat) (hm : m < 16) (z : Int) (hz : z = (m : Int)) (h : z.toNat < (⟨#[48, 49, 50, 51, 52, 53, 54, 55, 56, 57, 97, 98, 99, 100, 101, 102]⟩ : ByteArray).size) : (⟨#[48, 49, 50, 51, 52, 53, 54, 55, 56, 57, 97, 98, 99, 100, 101, 102]⟩ : ByteArray)[z.toNat] = sgn16 m := by
  subst hz
  rcases (show m = 0 ∨ m = 1 ∨ m = 2 ∨ m = 3 ∨ m = 4 ∨ m = 5 ∨ m = 6 ∨ m = 7 ∨ m = 8 ∨ m = 9 ∨ m = 10 ∨ m = 11 ∨ m = 12 ∨ m = 13 ∨ m = 14 ∨ m = 15 by omega) with rfl | rfl | rfl | rfl | rfl | rfl | rfl | rfl | rfl | rfl | rfl | rfl | rfl | rfl | rfl | rfl <;> rfl
theorem u8_and15 (x : UInt8) : bits .and .u8 (x.toNat : Int) 15 = ((x.toNat % 16 : Nat) : Int) := by
  have : ∀ n : Fin 256, bits .and .u8 (n.val : Int) 15 = ((n.val % 16 : Nat) : Int) := by decide +kernel
  exact this ⟨x.toNat, x.toNat_lt⟩
def textW (l : List UInt8) : List UInt8 := l.flatMap fun x => [sgn16 (x.toNat / 16), sgn16 (x.toNat % 16)]
theorem textW_len (l : List UInt8) : (textW l).length = 2 * l.length := by
  induction l with
  | nil => rfl
  | cons x r ih =>
    have h : textW (x :: r) = [sgn16 (x.toNat / 16), sgn16 (x.toNat % 16)] ++ textW r := by simp [textW]
    rw [h, List.length_append, ih, List.length_cons]
    simp
    omega
theorem textW_take (l : List UInt8) {k : Nat} (hk : k < l.length) : textW (l.take (k + 1)) = textW (l.take k) ++ [sgn16 ((l.getD k 0).toNat / 16), sgn16 ((l.getD k 0).toNat % 16)] := by
  rw [List.take_succ_eq_append_getElem hk]
  have : l.getD k 0 = l[k] := by rw [List.getD_eq_getElem?_getD, List.getElem?_eq_getElem hk]; rfl
  rw [this]
  unfold textW
  rw [List.flatMap_append]
  simp

set_option maxRecDepth 100000 in
set_option maxHeartbeats 1600000 in
theorem text_any (x : List UInt8) (hx : x.length = 32) (w : World) :
    Calls Tryd.prog 26 #[.agg (bvs x).toArray] w fun e w' => e = .returned (.string ⟨(textW x).toArray⟩) ∧ Below w.heap.size w w' := by
  have HX := Lib.hid hx
  have l1 : Lies (w.alloc (.cells (bvs x).toArray 26)) w.heap.size 32 (bvs x) := by
    have := Lies.new w (bvs x) 26
    rwa [bvs_len, hx] at this
  obtain ⟨w1, hw1⟩ : ∃ w1, w1 = w.alloc (.cells (bvs x).toArray 26) := ⟨_, rfl⟩
  have hb1 : Below w.heap.size w w1 := by rw [hw1]; exact (Below.refl _ _).alloc (Nat.le_refl _) _
  have hz1 : w1.heap.size = w.heap.size + 1 := by rw [hw1]; simp
  rw [← hw1] at l1
  have hmk : (Instr.makeSlice 22 (.int .i64 0) (.int .i64 64)).run Tryd.prog w1 = .ok (.slice (some ⟨w1.heap.size, 0, none⟩) 0 64) (w1.alloc (.cells (bvs (List.replicate 64 0)).toArray 5)) := by
    obtain ⟨i0, hi, hz, h1, hb⟩ := info_parts info_u8
    have hr := run_make (P := Tryd.prog) w1 22 5 i0 _ Tryd.underlying22 hi hz .i64 .i64 0 64 (by omega) (by omega) (by rw [hb]; omega) (by omega)
    simp only [h1, Nat.mul_one] at hr
    rw [hr]
    congr 3
    kernel_rfl
  have LX : Hid (Lies (w1.alloc (.cells (bvs (List.replicate 64 0)).toArray 5)) w.heap.size 32 (bvs x)) := Lib.hid (l1.alloc _)
  have O0 : Hid ((w1.alloc (.cells (bvs (List.replicate 64 0)).toArray 5)).ownsRow w1.heap.size 5 1 (.slice (some ⟨w1.heap.size, 0, none⟩) 0 64) 0 (bvs [])) := Lib.hid
    (World.ownsRow_made w1 (bvs (List.replicate 64 0)).toArray 64 (Nat.le_refl _) (by unfold maxLen; omega) (by simp [bvs]))
  have B2 := Lib.hid (show Below w.heap.size w (w1.alloc (.cells (bvs (List.replicate 64 0)).toArray 5)) from hb1.alloc hb1.size _)
  have HW1 := Lib.hid hw1
  have HZ1 := Lib.hid hz1
  rw [hz1] at hmk
  obtain ⟨w2, hw2⟩ : ∃ w2, w2 = w1.alloc (.cells (bvs (List.replicate 64 0)).toArray 5) := ⟨_, rfl⟩
  rw [← hw2] at hmk LX O0 B2
  rw [hz1] at O0
  have HW2 := Lib.hid (hw2.trans (by rw [hw1]))
  rw [hw1] at hmk
  clear hw1 hb1 hz1 l1 hw2
  go_enter Tryd.func26, Tryd.ntmps26
  go_wp2_with (first | (with_reducible refine ld_id rfl _ rfl w.heap.size 0 x HX rfl LX.out.rg ?_))
  go_loopw [3, 8] (fun row i wr => ∃ k m : Nat, k ≤ 32 ∧ i = .int .i64 (k : Int) ∧ Hid (m = 2 * k) ∧ Hid (wr.ownsRow (w.heap.size + 1) 5 1 row m (bvs (textW (x.take k)))) ∧ Hid (Below w.heap.size w wr)) (fun _ i _ => 32 - (intOf i).toNat)
  case atStart => exact ⟨0, 0, by omega, rfl, Lib.hid rfl, O0, B2⟩
  case round =>
    obtain ⟨k, m, hk, rfl, hm, hown, hB⟩ := hrel
    by_cases hlt : k < 32
    · have hd : decide ((k : Int) < 32) = true := by simp; omega
      have hk0 : (0 : Int) ≤ (k : Int) := Int.natCast_nonneg _
      have hk1 : (k : Int) < 32 := by omega
      have hkl : k < x.length := by rw [HX.out]; exact hlt
      have hix := index_bytes Tryd.underlying26 HX.out hkl
      have hta : x[k] = x.getD k 0 := by rw [List.getD_eq_getElem?_getD, List.getElem?_eq_getElem hkl]; rfl
      have htk := textW_take x hkl
      rw [hta] at hix
      generalize x.getD k 0 = y at hix htk
      have HTK := Lib.hid htk
      unfold bv at hix
      have hy0 : (0 : Int) ≤ (y.toNat : Int) := Int.natCast_nonneg _
      have hy1 : (y.toNat : Int) < 256 := by have := y.toNat_lt; omega
      clear hta htk
      have hq0 : (0 : Int) ≤ (y.toNat : Int) / 16 := by omega
      have hq1 : (y.toNat : Int) / 16 < 16 := by omega
      have hr0 : (0 : Int) ≤ (y.toNat : Int) % 16 := by omega
      have hr1 : (y.toNat : Int) % 16 < 16 := by omega
      have hs1 := sign_get (y.toNat / 16) (by omega) ((y.toNat : Int) / 16) (by omega)
      have hs2 := sign_get (y.toNat % 16) (by omega) ((y.toNat : Int) % 16) (by omega)
      have h15 := u8_and15 y
      obtain ⟨i0, hi0, hz0, hz1, hz2⟩ := info_parts info_u8
      have hBs := hB.out.size
      have OW : Hid ((wr.drew.alloc (.cells #[.int .u8 ((sgn16 (y.toNat / 16)).toNat : Int), .int .u8 ((sgn16 (y.toNat % 16)).toNat : Int)] 5)).ownsRow (w.heap.size + 1) 5 1 u3 m (bvs (textW (x.take k)))) := Lib.hid (hown.out.drew.alloc _)
      have NEWS : Hid (∀ j u, (bvs [sgn16 (y.toNat / 16), sgn16 (y.toNat % 16)])[j]? = some u → (wr.drew.alloc (.cells #[.int .u8 ((sgn16 (y.toNat / 16)).toNat : Int), .int .u8 ((sgn16 (y.toNat % 16)).toNat : Int)] 5)).cell? ((⟨wr.heap.size, 0, none⟩ : Addr).add j) = some u) := Lib.hid (fun j u hu => by
        have h := Bl.cell (Bl.new wr.drew 5 (bvs [sgn16 (y.toNat / 16), sgn16 (y.toNat % 16)])) j
        rw [addr_add, Nat.zero_add]
        exact h.trans hu)
      have HI0 := Lib.hid hi0
      have HM := Lib.hid (show m ≤ 64 by have := hm.out; omega)
      have HBS := Lib.hid hBs
      clear hBs
      go_wp2
      go_region_law (refine step_append_lies _ rfl (.tmp 11) (.tmp 18) 22 rfl (w.heap.size + 1) 5 i0 (.int .u8 0) 1 1 Tryd.underlying22 HI0.out hz0 hz1 hz2 rfl (by omega) u3 m (bvs (textW (x.take k))) rfl OW.out ⟨wr.heap.size, 0, none⟩ 2 2 (bvs [sgn16 (y.toNat / 16), sgn16 (y.toNat % 16)]) rfl rfl NEWS.out (bvs_one _) (by omega) (by have := HM.out; unfold maxLen; omega) (by have := HM.out; omega) (by simp; have := HBS.out; omega) (wr.heap.size + 1) (by simp) ?_; intro g cap w5 ho5 hg5 hat5 hlt5)
      all_goals
        have O5 := Lib.hid (show w5.ownsRow (w.heap.size + 1) 5 1 (.slice (some ⟨g, 0, none⟩) (m + 2) cap) (m + 2) (bvs (textW (x.take (k + 1)))) by rw [HTK.out]; unfold bvs; rw [List.map_append]; exact ho5)
        have B5 := Lib.hid (Below.grown ((hB.out.alloc hB.out.size _).drew) hg5 ((hB.out.alloc hB.out.size _).drew).size (fun q hq => by have := (hown.out.lt q hq).1; omega))
        have HLT := Lib.hid hlt
        clear ho5 hg5 hat5 hlt5 hown hB OW NEWS
        simp only [List.getElem_toArray, List.getElem_cons_zero, List.getElem_cons_succ, Act.put]
        go_wp2
        go_roundw
        case rel => exact ⟨k + 1, m + 2, by have := HLT.out; omega, by go_num, Lib.hid (by have := hm.out; omega), O5, B5⟩
        case measure => simp [intOf]; have := HLT.out; omega
    · have hd : decide ((k : Int) < 32) = false := by simp; omega
      obtain rfl : k = 32 := by omega
      obtain rfl : m = 64 := by have := hm.out; omega
      have htk : x.take 32 = x := List.take_of_length_le (by rw [HX.out]; exact Nat.le_refl _)
      rw [htk] at hown
      obtain ⟨g, cap, rfl, hg⟩ := hown.out.form (by omega)
      have hl : (textW x).length = 64 := by rw [textW_len, HX.out]
      have hcv : (convert 22 9 (.slice (some ⟨g, 0, none⟩) 64 cap)).run Tryd.prog wr = .ok (.string ⟨(textW x).toArray⟩) wr := by
        rw [← hl]
        refine run_convert_bytes_back wr 22 9 5 _ cap (textW x) Tryd.underlying22 Tryd.underlying5 Tryd.underlying9 (fun j hj => ?_)
        exact hown.out.cells rfl j _ (by simp [bvs, hj, bv])
      have HB := hB
      clear hB hown
      go_wp2
      go_ret
      exact ⟨rfl, HB.out⟩
end Go.Proofs.YtgjkahoblopddaaDoor
