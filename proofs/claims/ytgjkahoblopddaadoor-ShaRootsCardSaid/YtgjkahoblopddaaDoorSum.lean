/-
  A DIGEST.
-/
import Derived.Test.YtgjkahoblopddaaDoorTake
namespace Go.Proofs.YtgjkahoblopddaaDoor
set_option linter.unusedVariables false
set_option linter.unusedSimpArgs false
open Go.RowKit Go.WideShapes Go.ChangeShapes

/-- What k blocks of a row come to. -/
def foldW (s : W8) (row : List UInt8) : Nat → W8
  | 0 => s
  | k + 1 => blockW (foldW s row k) ((row.drop (64 * k)).take 64)
def startW : W8 := ⟨1779033703, 3144134277, 1013904242, 2773480762, 1359893119, 2600822924, 528734635, 1541459225⟩
def sumW (l : List UInt8) : List UInt8 := idW (foldW startW (padW l) ((padW l).length / 64))

theorem start_any (w : World) : Calls Tryd.prog 21 #[] w fun e w' => e = .returned startW.val ∧ Below w.heap.size w w' := by
  go_enter Tryd.func21, Tryd.ntmps21
  have HS := Lib.hid (show startW.list.length = 8 from rfl)
  have L := Lib.hid (Z8_new w)
  go_wp2_with (with_reducible refine st_w8 rfl _ _ rfl w.heap.size 0 startW.list HS rfl rfl L.out.th ?_)
  refine bodyPost_ret (res_w8 rfl _ _ w.heap.size startW.list rfl rfl (L.out.set_ (l' := wvs startW.list) rfl).rg) rfl ⟨rfl, below_setCells ((Below.refl _ _).alloc (Nat.le_refl _) _) (Nat.le_refl _) _ _⟩

set_option maxRecDepth 100000 in
set_option maxHeartbeats 1600000 in
/-- The blocks of a row go into the sum in block g. -/
theorem each_any (s : W8) (row : List UInt8) (n : Nat) (hn : row.length = 64 * n) (hn2 : n ≤ 100000000) {w : World} (hg : GK w) {g : Nat} (hL : Lies w g 8 (wvs s.list)) {b : Nat} (hr : Lies w b (64 * n) (bvs row)) (hne : b ≠ g) (h0 : g ≠ 0) {c : Nat} (hc : 64 * n ≤ c) (hcm : c ≤ 6400000064) :
    Calls Tryd.prog 35 #[.slice (some ⟨b, 0, none⟩) (64 * n) c, .func (.func 36) #[rp g] #[]] w fun e w' => e = .returned (.tuple #[]) ∧ Lies w' g 8 (wvs (foldW s row n).list) ∧ Mv (fun k => k = g) w w' := by
  have HG := Lib.hid hg
  have HL := Lib.hid hL
  have HR := Lib.hid hr
  have HN := Lib.hid hn
  have HC := Lib.hid (And.intro hc hcm)
  clear hg hL hr hn hc hcm
  go_enter Tryd.func35, Tryd.ntmps35
  go_wp2_with fail
  go_loopw [0] (fun r wr => ∃ k o L C : Nat, k ≤ n ∧ r = .slice (some ⟨b, o, none⟩) L C ∧ Hid (L = 64 * (n - k) ∧ C = c - 64 * k ∧ (k < n → o = 64 * k)) ∧ Hid (Lies wr g 8 (wvs (foldW s row k).list)) ∧ Hid (Mv (fun x => x = g) w wr)) (fun r _ => match r with | .slice _ l _ => l | _ => 0)
  case atStart => exact ⟨0, 0, 64 * n, c, Nat.zero_le _, rfl, Lib.hid ⟨by simp, by simp, fun _ => rfl⟩, HL, Lib.hid (Mv.refl _ _)⟩
  case round =>
    obtain ⟨k, o, L, C, hk, rfl, hq, hl, hm⟩ := hrel
    by_cases hlt : k < n
    · have hL0 : 64 ≤ L := by have := hq.out.1; omega
      have hLC : L ≤ C := by have := hq.out; have := HC.out; omega
      have hC1 : C ≤ 6400000064 := by have := hq.out; have := HC.out; omega
      have hi0 : (64 : Int) ≤ (L : Int) := by omega
      have hi1 : (64 : Int) ≤ (C : Int) := by omega
      have hi2 : (L : Int) ≤ (C : Int) := by omega
      have hi3 : (C : Int) ≤ 6400000064 := by omega
      obtain rfl : o = 64 * k := hq.out.2.2 hlt
      have hbl : ((row.drop (64 * k)).take 64).length = 64 := by rw [List.length_take, List.length_drop, HN.out]; omega
      have hrg : wr.rangeAt b (64 * k) (bvs ((row.drop (64 * k)).take 64)) := fun j v hv => by
        obtain ⟨hj, rfl⟩ := bvs_at _ _ _ hv
        rw [hbl] at hj
        have h1 := (HR.out.mv hm.out (by exact hne)).cell (j := 64 * k + j) (v := bv (((row.drop (64 * k)).take 64)[j]'(by rw [hbl]; exact hj))) (by
          simp only [bvs, List.getElem?_map, List.getElem_take, List.getElem_drop]
          rw [List.getElem?_eq_getElem (by rw [HN.out]; omega)]
          rfl)
        exact h1
      have hgk : GK wr := ⟨Nat.lt_of_lt_of_le HG.out.lt hm.out.size, fun j v hv => (World.cell?_of_block (a := ⟨0, 0 + j, none⟩) (hm.out.block 0 HG.out.lt (fun e => h0 e.symm))).trans (HG.out.rg j v hv)⟩
      have HT := Lib.hid (take_any (foldW s row k) ((row.drop (64 * k)).take 64) hbl hgk hl.out (c := 64) hrg (Nat.lt_of_lt_of_le HR.out.lt hm.out.size))
      clear hbl hrg hgk
      go_wp2_with fail
      refine (HT.out).mono ?_
      rintro e w5 ⟨rfl, hL5, hm5⟩
      have L5 : Hid (Lies w5 g 8 (wvs (foldW s row (k + 1)).list)) := Lib.hid hL5
      have M5 := Lib.hid (hm.out.trans hm5)
      clear hL5 hm5
      by_cases hC : C = 64
      · subst hC
        obtain rfl : L = 64 := by omega
        go_wp2
        go_roundw
        case rel => exact ⟨k + 1, _, 0, 0, by omega, rfl, Lib.hid ⟨by have := hq.out; omega, by have := hq.out; omega, fun h => by have := hq.out; omega⟩, L5, M5⟩
        case measure => simp
      · have hC2 : (64 : Int) < (C : Int) := by omega
        go_wp2
        go_roundw
        case rel => exact ⟨k + 1, 64 * k + 64, L - 64, C - 64, by omega, rfl, Lib.hid ⟨by have := hq.out; omega, by have := hq.out; omega, fun h => by omega⟩, L5, M5⟩
        case measure => simp; omega
    · obtain rfl : k = n := by omega
      obtain rfl : L = 0 := by have := hq.out.1; omega
      have L6 := hl
      have M6 := hm
      clear hl hm
      go_wp2
      go_end0
      exact ⟨rfl, L6.out, M6.out⟩
end Go.Proofs.YtgjkahoblopddaaDoor
