/-
  CONTRACTS OF PACKAGE octet's FUNCTIONS: what each call comes to, as plain Lean, and what becomes of memory.
-/
import Derived.Test.YthionkcnmkhopaaProg
import Derived.Test.YthionkcnmkhopaaLib
import Derived.WalkSpells
import Derived.Deep.QuietTactic
import Derived.BigQuiet
namespace Go.Proofs.Ythionkcnmkhopaa
open Go.RowKit Go.WideShapes Go.ChangeShapes

theorem info_u8 : (Try.prog.info? 5).map (fun i => (i.zero, i.size, i.bytes)) = some (some (.int .u8 0), 1, 1) := by kernel_rfl

theorem size_u8 : (Try.prog.info? 5).map (·.size) = some 1 := by kernel_rfl

theorem make_bytes (n : Nat) (N : Int) (hN : N = (n : Int)) (h : n ≤ 140737488355328) (w : World) :
    (Instr.makeSlice 25 (.int .i64 N) (.int .i64 N)).run Try.prog w = .ok (.slice (some ⟨w.heap.size, 0, none⟩) n n) (w.alloc (.cells (bvs (List.replicate n 0)).toArray 5)) := by
  obtain ⟨i0, hi, hz, h1, hb⟩ := info_parts info_u8
  exact run_make_bytes _ _ i0 Try.underlying25 hi hz h1 hb n N hN h w

/-- grown: a row of its own: b, and k noughts. -/
theorem grown_any {A : Option Addr} {n c : Nat} {l : List UInt8} {w : World} {B : Nat} (hs : SlB w B A n c l) (hB : B ≤ w.heap.size) (k : Nat) (K : Int) (hK : K = (k : Int)) (hk : n + k ≤ 140737488355328) :
    Calls Try.prog 38 #[.slice A n c, .int .i64 K] w fun e w' =>
      e = .returned (.slice (some ⟨w.heap.size, 0, none⟩) (n + k) (n + k)) ∧ Bl w' w.heap.size 5 (bvs (l ++ List.replicate k 0)) ∧ Below w.heap.size w w' := by
  subst hK
  have hmk := make_bytes (n + k) ((n : Int) + (k : Int)) (by omega) hk
  have hl := hs.le
  unfold maxLen at hl
  have hz8 := size_u8
  have hcp : (bvs l).length = Nat.min n (n + k) := by rw [bvs_len, hs.len]; exact (Nat.min_eq_left (by omega)).symm
  have hpos : 0 < (bvs l).length → some (⟨w.heap.size, 0, none⟩ : Addr) = some ⟨w.heap.size, 0, none⟩ ∧ ∃ ad, A = some ad ∧ ∀ j v, (bvs l)[j]? = some v → (w.alloc (.cells (bvs (List.replicate (n + k) 0)).toArray 5)).cell? (ad.add j) = some v := by
    intro h0
    rw [bvs_len, hs.len] at h0
    obtain ⟨ad, e, hc⟩ := (hs.below ((Below.refl B w).alloc hB (.cells (bvs (List.replicate (n + k) 0)).toArray 5))).src h0
    exact ⟨rfl, ad, e, hc⟩
  have hfit : 0 + (bvs l).length ≤ (bvs (List.replicate (n + k) 0)).length := by have := hs.len; simp only [bvs_len, List.length_replicate]; omega
  have hlen := Lib.hid hs.len
  have HM := Lib.hid hmk
  clear hmk
  go_enter Try.func38, Try.ntmps38
  have hmk := HM.out
  go_wp2_with ((with_reducible refine wpList_copy_splice rfl (.tmp 11) (.tmp 12) 25 25 rfl 5 Try.underlying25 hz8 _ _ _ _ _ _ rfl rfl w.heap.size 0 (bvs (List.replicate (n + k) 0)) 5 (heap_alloc_new w _) (bvs l) hcp hpos hfit (bvs_one l) w.heap.size w ((Below.refl _ w).alloc (Nat.le_refl _) _) (Nat.le_refl _) ?_); intro w1 hw1 hb1)
  go_ret
  refine ⟨rfl, ?_, hb1⟩
  have h2 := hw1.out
  unfold Bl
  rw [h2]
  congr 3
  rw [splice_front _ _ hfit, bvs_len, bvs_app]
  congr 1
  simp only [bvs, ← List.map_drop, List.drop_replicate]
  rw [hlen.out, Nat.add_sub_cancel_left]
end Go.Proofs.Ythionkcnmkhopaa
