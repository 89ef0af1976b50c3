/-
  THE DOCUMENT'S ROUNDS OF A BLOCK, BEGUN: a word turned, the constants, a number of bytes.
-/
import Derived.Test.YtgjkahoblopddaaDoorWake
import Derived.Test.YtgjkahoblopddaaDoorOrd
namespace Go.Proofs.YtgjkahoblopddaaDoor
set_option linter.unusedVariables false
set_option linter.unusedSimpArgs false
open Go.RowKit Go.WideShapes Go.ChangeShapes

def w64 (n : Nat) : Nat := n % 18446744073709551616
theorem num_drop (l : List UInt8) (i : Nat) (h : i < l.length) : num (l.drop i) = l[i].toNat * 256 ^ (l.length - (i + 1)) + num (l.drop (i + 1)) := by
  rw [List.drop_eq_getElem_cons h, num_cons, List.length_drop]
theorem wrap_w64 (n : Nat) : IntKind.u64.wrap (n : Int) = ((w64 n : Nat) : Int) := by rw [IntKind.wrap_u64]; unfold w64; omega
theorem step_num (x wt b X W : Nat) (hx : x = w64 X) (hw : wt = w64 W) : w64 (x + w64 (wt * b)) = w64 (b * W + X) := by
  subst hx hw
  unfold w64
  rw [Nat.mul_comm b W]
  simp [Nat.add_mod, Nat.mul_mod, Nat.add_comm]

theorem number_any {A : Option Addr} {n c : Nat} {l : List UInt8} {w : World} {B : Nat} (h : SlB w B A n c l) :
    Calls Tryd.prog 60 #[.slice A n c] w fun e w' => e = .returned (.int .u64 (w64 (num l) : Nat)) ∧ w = w' := by
  have hlen := Lib.hid h.len
  have hm := h.le
  unfold maxLen at hm
  go_enter Tryd.func60, Tryd.ntmps60
  go_wp2
  go_loop [3, 4, 5] (fun x wt i => ∃ q xv wv : Nat, q ≤ n ∧ i = .int .i64 q ∧ x = .int .u64 (xv : Nat) ∧ wt = .int .u64 (wv : Nat) ∧ Hid (xv = w64 (num (l.drop q))) ∧ Hid (wv = w64 (256 ^ (n - q)))) (fun _ _ i => (intOf i).toNat)
  case atStart => exact ⟨n, 0, 1, Nat.le_refl _, rfl, rfl, rfl, by rw [List.drop_of_length_le (by rw [hlen.out]; exact Nat.le_refl _)]; rfl, by rw [Nat.sub_self]; rfl⟩
  case round =>
    obtain ⟨q, xv, wv, hq, rfl, rfl, rfl, hx, hw⟩ := hrel
    by_cases h0 : q = 0
    · subst h0
      go_wp2
      go_ret
      refine ⟨?_, rfl⟩
      have := hx.out
      rw [List.drop_zero] at this
      rw [← this]
      rfl
    · obtain ⟨q, rfl⟩ : ∃ q', q = q' + 1 := ⟨q - 1, by omega⟩
      have hql : q < l.length := by rw [hlen.out]; omega
      obtain ⟨b, o, rfl, hbb, hc⟩ := h.pos (by omega)
      have hcq := hc q hql
      unfold bv at hcq
      clear hc h0
      have hby := l[q].toNat_lt
      have HN : Hid (w64 (xv + w64 (wv * l[q].toNat)) = w64 (num (l.drop q))) := by
        have : w64 (xv + w64 (wv * l[q].toNat)) = w64 (num (l.drop q)) := by
          rw [step_num _ _ _ _ _ hx.out hw.out, num_drop l q hql, hlen.out]
        exact this
      have HW : Hid (w64 (wv * 256) = w64 (256 ^ (n - q))) := by
        have : w64 (wv * 256) = w64 (256 ^ (n - q)) := by
          rw [hw.out, show n - q = (n - (q + 1)) + 1 by omega, Nat.pow_succ]
          unfold w64
          simp [Nat.mul_mod]
        exact this
      go_wp2
      go_round
      case rel =>
        refine ⟨q, w64 (xv + w64 (wv * l[q].toNat)), w64 (wv * 256), by omega, rfl, ?_, ?_, HN, HW⟩
        · rw [← Int.natCast_mul, wrap_w64, ← Int.natCast_add, wrap_w64]
        · rw [show ((wv : Int) * 256) = ((wv * 256 : Nat) : Int) by omega, wrap_w64]
      case measure => simp [intOf]

theorem key (a b : Int) (h : a = b) : Ending.returned (Value.int .u32 a) = .returned (.int .u32 b) := by rw [h]
set_option maxRecDepth 100000 in
set_option maxHeartbeats 1600000 in
theorem turned_ref (x : UInt32) (n : Nat) (N : Int) (hN : N = (n : Int)) (hn : n = 2 ∨ n = 6 ∨ n = 7 ∨ n = 11 ∨ n = 13 ∨ n = 17 ∨ n = 18 ∨ n = 19 ∨ n = 22 ∨ n = 25) (w : World) :
    Calls Tryd.prog 43 #[wv x, .int .u64 N] w fun e w' => e = .returned (wv (rotr x n)) ∧ w = w' := by
  have hx := x.toNat_lt
  have hb := rot_bound x.toNat n hx (by omega)
  have hr := rotr_nat x n (by omega)
  obtain ⟨r, hrr⟩ : ∃ r, rotr x n = r := ⟨_, rfl⟩
  rw [hrr] at hr ⊢
  unfold wv
  generalize x.toNat = X at hx hb hr
  have HR := Lib.hid hr
  have HB := Lib.hid hb
  have hX0 : (0 : Int) ≤ (X : Int) := Int.natCast_nonneg _
  have hX1 : (X : Int) < 4294967296 := by omega
  clear hr hb hrr
  subst hN
  rcases hn with rfl | rfl | rfl | rfl | rfl | rfl | rfl | rfl | rfl | rfl
  all_goals
    go_enter Tryd.func43, Tryd.ntmps43
    go_wp2
    go_ret
    refine ⟨?_, rfl⟩
    rw [HR.out]
    have := HB.out
    refine key _ _ ?_
    simp only [Nat.reducePow, Nat.reduceSub]
    omega
theorem SlB.part2 {w : World} {B n c g o : Nat} {l : List UInt8} (h : SlB w B (some ⟨g, o, none⟩) n c l) {k m : Nat} (hk : k + m ≤ n) : SlB w B (some ⟨g, o + k, none⟩) m (c - k) ((l.drop k).take m) :=
  ⟨by rw [List.length_take, List.length_drop, h.len]; omega, by have := h.cap; omega, by have := h.max; omega, fun e => (by cases e), fun h0 => by
    obtain ⟨b, o', e, hb, hc⟩ := h.pos (by omega)
    cases e
    refine ⟨g, o + k, rfl, hb, fun j hj => ?_⟩
    rw [List.length_take, List.length_drop, h.len] at hj
    have := hc (k + j) (by rw [h.len]; omega)
    rw [Nat.add_assoc, this]
    simp⟩
theorem wdOf_num (b : List UInt8) (k : Nat) (h : 4 * k + 4 ≤ b.length) : w64 (num ((b.drop (4 * k)).take 4)) = (wdOf b k).toNat := by
  have hl : ((b.drop (4 * k)).take 4).length = 4 := by rw [List.length_take, List.length_drop]; omega
  have hn := num_lt ((b.drop (4 * k)).take 4)
  rw [hl] at hn
  unfold w64 wdOf
  rw [UInt32.toNat_ofNat']
  omega
end Go.Proofs.YtgjkahoblopddaaDoor
