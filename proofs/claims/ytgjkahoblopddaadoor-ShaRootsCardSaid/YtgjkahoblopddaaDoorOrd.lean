/-
  THE ORDER OF DIGESTS, AND OF THEIR TEXTS (pure).
-/
import Derived.Test.YtgjkahoblopddaaDoorHex
import Derived.Test.YtgjkahoblopddaaDoorCmp
namespace Go.Proofs.YtgjkahoblopddaaDoor
set_option linter.unusedVariables false
set_option linter.unusedSimpArgs false
open Go.RowKit Go.WideShapes Go.ChangeShapes

theorem num_split (l : List UInt8) (k : Nat) : num l = num (l.take k) * 256 ^ (l.drop k).length + num (l.drop k) := by
  induction k generalizing l with
  | zero => simp [num]
  | succ k ih =>
    cases l with
    | nil => simp [num]
    | cons x r =>
      rw [List.take_succ_cons, List.drop_succ_cons, num_cons, num_cons, ih r, Nat.add_mul, Nat.mul_assoc, ← Nat.pow_add]
      have : r.length = (r.take k).length + (r.drop k).length := by rw [← List.length_append, List.take_append_drop]
      rw [this]
      have h2 : num (List.take k r ++ List.drop k r) = num r := by rw [List.take_append_drop]
      omega
theorem num_inj : ∀ (a b : List UInt8), a.length = b.length → num a = num b → a = b
  | [], [], _, _ => rfl
  | [], _ :: _, h, _ => by simp at h
  | _ :: _, [], h, _ => by simp at h
  | x :: a, y :: b, h, hn => by
    have hl : a.length = b.length := by simpa using h
    have h1 := num_lt a
    have h2 := num_lt b
    rw [num_cons, num_cons, hl] at hn
    rw [hl] at h1
    have hxy : x.toNat = y.toNat := by
      rcases Nat.lt_trichotomy x.toNat y.toNat with h | h | h
      · have h4 : (x.toNat + 1) * 256 ^ b.length ≤ y.toNat * 256 ^ b.length := Nat.mul_le_mul_right _ h
        rw [Nat.add_mul, Nat.one_mul] at h4
        omega
      · exact h
      · have h4 : (y.toNat + 1) * 256 ^ b.length ≤ x.toNat * 256 ^ b.length := Nat.mul_le_mul_right _ h
        rw [Nat.add_mul, Nat.one_mul] at h4
        omega
    rw [hxy] at hn
    rw [UInt8.toNat_inj.1 hxy, num_inj a b hl (by omega)]
theorem sgn_neg (x y : Nat) : decide (sgn x y < 0) = decide (x < y) := by
  unfold sgn
  split
  · simp [*]
  · split
    · simp [*]
    · simp [*]
theorem lessB_num (a b : List UInt8) (ha : a.length = 32) (hb : b.length = 32) : lessB a b = decide (num a < num b) := by
  have ta : (a.take 16).length = 16 := by rw [List.length_take, ha]; rfl
  have tb : (b.take 16).length = 16 := by rw [List.length_take, hb]; rfl
  have da : (a.drop 16).length = 16 := by rw [List.length_drop, ha]
  have db : (b.drop 16).length = 16 := by rw [List.length_drop, hb]
  unfold lessB
  rw [compare_num _ _ (da.trans db.symm), compare_num _ _ (ta.trans tb.symm), sgn_neg, sgn_neg, num_split a 16, num_split b 16, da, db]
  have h1 := num_lt (a.drop 16)
  have h2 := num_lt (b.drop 16)
  rw [da] at h1
  rw [db] at h2
  generalize num (a.drop 16) = x at *
  generalize num (b.drop 16) = y at *
  split
  · rename_i he
    rw [he]
    congr 1
    simp
  · rename_i he
    have hne : num (a.take 16) ≠ num (b.take 16) := fun h => he (num_inj _ _ (ta.trans tb.symm) h)
    generalize num (a.take 16) = p at *
    generalize num (b.take 16) = q at *
    generalize 256 ^ 16 = m at *
    rcases Nat.lt_trichotomy p q with h | h | h
    · have h4 : (p + 1) * m ≤ q * m := Nat.mul_le_mul_right _ h
      rw [Nat.add_mul, Nat.one_mul] at h4
      rw [decide_eq_true h, decide_eq_true (by omega)]
    · exact absurd h hne
    · have h4 : (q + 1) * m ≤ p * m := Nat.mul_le_mul_right _ h
      rw [Nat.add_mul, Nat.one_mul] at h4
      rw [decide_eq_false (by omega), decide_eq_false (by omega)]
theorem bytesLess_num : ∀ (a b : List UInt8), a.length = b.length → Op.bytesLess a b = decide (num a < num b)
  | [], [], _ => by simp [Op.bytesLess]
  | [], _ :: _, h => by simp at h
  | _ :: _, [], h => by simp at h
  | x :: a, y :: b, h => by
    have hl : a.length = b.length := by simpa using h
    have ih := bytesLess_num a b hl
    have h1 := num_lt a
    have h2 := num_lt b
    rw [num_cons, num_cons, hl, Op.bytesLess, ih]
    rw [hl] at h1
    rcases Nat.lt_trichotomy x.toNat y.toNat with h | h | h
    · have h4 : (x.toNat + 1) * 256 ^ b.length ≤ y.toNat * 256 ^ b.length := Nat.mul_le_mul_right _ h
      rw [Nat.add_mul, Nat.one_mul] at h4
      rw [decide_eq_true (UInt8.lt_iff_toNat_lt.2 h), Bool.true_or, eq_comm, decide_eq_true (by omega)]
    · have hxy := UInt8.toNat_inj.1 h
      subst hxy
      rw [decide_eq_false (by rw [UInt8.lt_iff_toNat_lt]; omega), Bool.false_or, beq_self_eq_true, Bool.true_and]
      congr 1
      simp
    · have h4 : (y.toNat + 1) * 256 ^ b.length ≤ x.toNat * 256 ^ b.length := Nat.mul_le_mul_right _ h
      rw [Nat.add_mul, Nat.one_mul] at h4
      have hne : (x == y) = false := by rw [beq_eq_false_iff_ne]; intro e; rw [e] at h; omega
      rw [decide_eq_false (by rw [UInt8.lt_iff_toNat_lt]; omega), hne, Bool.false_and, Bool.false_or, eq_comm, decide_eq_false (by omega)]
theorem sgn16_lt (i j : Nat) (hi : i < 16) (hj : j < 16) : decide (sgn16 i < sgn16 j) = decide (i < j) := by
  have : ∀ i j : Fin 16, decide (sgn16 i.val < sgn16 j.val) = decide (i.val < j.val) := by decide +kernel
  exact this ⟨i, hi⟩ ⟨j, hj⟩
theorem sgn16_eq (i j : Nat) (hi : i < 16) (hj : j < 16) : (sgn16 i == sgn16 j) = (i == j) := by
  have : ∀ i j : Fin 16, (sgn16 i.val == sgn16 j.val) = (i.val == j.val) := by decide +kernel
  exact this ⟨i, hi⟩ ⟨j, hj⟩
theorem byte_less (x y : UInt8) (r : Bool) : (decide (x.toNat / 16 < y.toNat / 16) || (x.toNat / 16 == y.toNat / 16 && (decide (x.toNat % 16 < y.toNat % 16) || (x.toNat % 16 == y.toNat % 16 && r)))) = (decide (x < y) || (x == y && r)) := by
  have e : (x == y) = (x.toNat == y.toNat) := by
    rw [Bool.eq_iff_iff]
    simp [UInt8.toNat_inj]
  rw [e, show decide (x < y) = decide (x.toNat < y.toNat) from by rw [Bool.eq_iff_iff]; simp [UInt8.lt_iff_toNat_lt]]
  rw [Bool.eq_iff_iff]
  simp only [Bool.or_eq_true, Bool.and_eq_true, decide_eq_true_eq, beq_iff_eq]
  cases r
  · simp only [Bool.false_eq_true, and_false, or_false]
    omega
  · simp only [and_true]
    omega
theorem text_less : ∀ (a b : List UInt8), a.length = b.length → Op.bytesLess (textW a) (textW b) = Op.bytesLess a b
  | [], [], _ => rfl
  | [], _ :: _, h => by simp at h
  | _ :: _, [], h => by simp at h
  | x :: a, y :: b, h => by
    have ih := text_less a b (by simpa using h)
    have e1 : textW (x :: a) = sgn16 (x.toNat / 16) :: sgn16 (x.toNat % 16) :: textW a := by simp [textW]
    have e2 : textW (y :: b) = sgn16 (y.toNat / 16) :: sgn16 (y.toNat % 16) :: textW b := by simp [textW]
    have b1 := x.toNat_lt
    have b2 := y.toNat_lt
    rw [e1, e2]
    simp only [Op.bytesLess, ih]
    rw [sgn16_lt _ _ (by omega) (by omega), sgn16_lt _ _ (by omega) (by omega), sgn16_eq _ _ (by omega) (by omega), sgn16_eq _ _ (by omega) (by omega), byte_less]
/-- The texts' order is the digests'. -/
theorem text_order (a b : List UInt8) (ha : a.length = 32) (hb : b.length = 32) : Op.bytesLess (textW a) (textW b) = lessB a b := by
  rw [text_less a b (ha.trans hb.symm), bytesLess_num a b (ha.trans hb.symm), lessB_num a b ha hb]
theorem neq_num (a b : List UInt8) (ha : a.length = 32) (hb : b.length = 32) : (a == b) = decide (num a = num b) := by
  rw [Bool.eq_iff_iff]
  simp only [beq_iff_eq, decide_eq_true_eq]
  exact ⟨fun h => by rw [h], num_inj a b (ha.trans hb.symm)⟩
/-- No two are less than one another; of two unlike ones one is; what is less than a lesser one is less. -/
theorem less_laws (a b c : List UInt8) (ha : a.length = 32) (hb : b.length = 32) (hc : c.length = 32) :
    ((lessB a b && lessB b a) || ((lessB a b || lessB b a) != !(a == b)) || (lessB a b && lessB b c && !lessB a c)) = false := by
  rw [lessB_num a b ha hb, lessB_num b a hb ha, lessB_num b c hb hc, lessB_num a c ha hc, neq_num a b ha hb]
  generalize num a = p
  generalize num b = q
  generalize num c = r
  by_cases h1 : p < q <;> by_cases h2 : q < p <;> by_cases h3 : q < r <;> by_cases h4 : p < r <;> by_cases h5 : p = q <;> simp [h1, h2, h3, h4, h5] <;> omega
end Go.Proofs.YtgjkahoblopddaaDoor
