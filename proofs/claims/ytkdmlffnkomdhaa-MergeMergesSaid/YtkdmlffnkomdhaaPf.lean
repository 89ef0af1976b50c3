/-
  TWO LISTS WHOSE PATHS RISE, GONE THROUGH TOGETHER: pure.
-/
import Derived.Test.YtkdmlffnkomdhaaPm
namespace Go.Proofs.Ytkdmlffnkomdhaa
set_option linter.unusedVariables false
set_option linter.unusedSimpArgs false
open Go.RowKit Go.WideShapes Go.ChangeShapes Go.Deep

theorem less_irrefl : ∀ l : List UInt8, Op.bytesLess l l = false
  | [] => rfl
  | x :: r => by simp [Op.bytesLess, less_irrefl r]
theorem less_trans : ∀ {a b c : List UInt8}, Op.bytesLess a b = true → Op.bytesLess b c = true → Op.bytesLess a c = true
  | _, [], _, h, _ => by simp [Op.bytesLess] at h
  | _, _ :: _, [], _, h => by simp [Op.bytesLess] at h
  | [], _ :: _, _ :: _, _, _ => by simp [Op.bytesLess]
  | x :: a, y :: b, z :: c, h, k => by
    have ih := @less_trans a b c
    simp only [Op.bytesLess, Bool.or_eq_true, Bool.and_eq_true, decide_eq_true_eq, beq_iff_eq] at h k ⊢
    rcases h with h | ⟨rfl, h⟩
    · rcases k with k | ⟨rfl, k⟩
      · exact .inl (UInt8.lt_trans h k)
      · exact .inl h
    · rcases k with k | ⟨rfl, k⟩
      · exact .inl k
      · exact .inr ⟨rfl, ih h k⟩
theorem less_total : ∀ {a b : List UInt8}, Op.bytesLess a b = false → Op.bytesLess b a = false → a = b
  | [], [], _, _ => rfl
  | [], _ :: _, h, _ => by simp [Op.bytesLess] at h
  | _ :: _, [], _, h => by simp [Op.bytesLess] at h
  | x :: a, y :: b, h, k => by
    have ih := @less_total a b
    simp only [Op.bytesLess, Bool.or_eq_false_iff, Bool.and_eq_false_iff, decide_eq_false_iff_not, beq_eq_false_iff_ne] at h k
    obtain ⟨h1, h2⟩ := h
    obtain ⟨k1, k2⟩ := k
    have e : x = y := by
      rw [UInt8.lt_iff_toNat_lt] at h1 k1
      exact UInt8.toNat_inj.1 (by omega)
    subst e
    rw [ih (h2.resolve_left (fun q => q rfl)) (k2.resolve_left (fun q => q rfl))]
def le (a b : ByteArray) : Bool := lt a b || (a.toList == b.toList)
theorem le_total {a b : ByteArray} (h : le a b = false) : lt b a = true := by
  unfold le lt at *
  rw [Bool.or_eq_false_iff] at h
  cases hb : Op.bytesLess b.toList a.toList with
  | true => rfl
  | false =>
    have := less_total h.1 hb
    rw [this] at h
    simp at h
theorem lt_le {a b : ByteArray} (h : lt a b = true) : le a b = true := by unfold le; rw [h]; rfl
theorem lt_not_le {a b : ByteArray} (h : lt a b = true) : le b a = false := by
  unfold le lt at *
  rw [Bool.or_eq_false_iff]
  refine ⟨?_, ?_⟩
  · cases hb : Op.bytesLess b.toList a.toList with
    | false => rfl
    | true => have := less_trans h hb; rw [less_irrefl] at this; cases this
  · simp only [beq_eq_false_iff_ne, ne_eq]
    intro e
    rw [e, less_irrefl] at h
    cases h

theorem tri_ (a b : ByteArray) : (Op.bytesLess a.toList b.toList = true ∧ (a.toList == b.toList) = false ∧ Op.bytesLess b.toList a.toList = false ∧ (b.toList == a.toList) = false) ∨
    (Op.bytesLess a.toList b.toList = false ∧ (a.toList == b.toList) = true ∧ Op.bytesLess b.toList a.toList = false ∧ (b.toList == a.toList) = true) ∨
    (Op.bytesLess a.toList b.toList = false ∧ (a.toList == b.toList) = false ∧ Op.bytesLess b.toList a.toList = true ∧ (b.toList == a.toList) = false) := by
  have key : ∀ x y : List UInt8, Op.bytesLess x y = true → (x == y) = false ∧ Op.bytesLess y x = false ∧ (y == x) = false := by
    intro x y h
    have h1 : x ≠ y := fun e => by rw [e, less_irrefl] at h; cases h
    refine ⟨by simpa using h1, ?_, by simpa using h1.symm⟩
    cases hb : Op.bytesLess y x with
    | false => rfl
    | true => have := less_trans h hb; rw [less_irrefl] at this; cases this
  cases h1 : Op.bytesLess a.toList b.toList with
  | true => exact .inl ⟨rfl, key _ _ h1⟩
  | false =>
    cases h2 : Op.bytesLess b.toList a.toList with
    | true => obtain ⟨k1, k2, k3⟩ := key _ _ h2; exact .inr (.inr ⟨rfl, k3, rfl, k1⟩)
    | false => have e := less_total h1 h2; exact .inr (.inl ⟨rfl, by simp [e], rfl, by simp [e]⟩)
/-- What one round tells: the places of the rows, or none. -/
structure Mi (n m : Nat) where
  i : Option (Fin n)
  k : Option (Fin m)
  ne : i.isSome = true ∨ k.isSome = true
section
variable {α β : Type} (fa : α → ByteArray) (fb : β → ByteArray) (la : List α) (lb : List β)
def takeA (i k : Nat) : Bool := if hi : i < la.length then (if hk : k < lb.length then le (fa la[i]) (fb lb[k]) else true) else false
def takeB (i k : Nat) : Bool := if hk : k < lb.length then (if hi : i < la.length then le (fb lb[k]) (fa la[i]) else true) else false
theorem takeA_lt {i k : Nat} (h : takeA fa fb la lb i k = true) : i < la.length := by
  unfold takeA at h
  split at h
  · assumption
  · cases h
theorem takeB_lt {i k : Nat} (h : takeB fa fb la lb i k = true) : k < lb.length := by
  unfold takeB at h
  split at h
  · assumption
  · cases h
theorem take_one {i k : Nat} (h : i < la.length ∨ k < lb.length) : takeA fa fb la lb i k = true ∨ takeB fa fb la lb i k = true := by
  unfold takeA takeB
  by_cases hi : i < la.length
  · by_cases hk : k < lb.length
    · simp only [hi, hk, dif_pos]
      cases hl : le (fa la[i]) (fb lb[k]) with
      | true => exact .inl rfl
      | false => exact .inr (lt_le (le_total hl))
    · simp [hi, hk]
  · have hk : k < lb.length := h.resolve_left hi
    simp [hi, hk]
def nx (i k : Nat) (h : i < la.length ∨ k < lb.length) : Mi la.length lb.length :=
  ⟨if ha : takeA fa fb la lb i k = true then some ⟨i, takeA_lt fa fb la lb ha⟩ else none, if hb : takeB fa fb la lb i k = true then some ⟨k, takeB_lt fa fb la lb hb⟩ else none, by
    rcases take_one fa fb la lb h with q | q
    · left; simp [q]
    · right; simp [q]⟩
theorem nx_a {i k : Nat} (hi : i < la.length) (hk : lb.length ≤ k) {h : i < la.length ∨ k < lb.length} : nx fa fb la lb i k h = ⟨some ⟨i, hi⟩, none, .inl rfl⟩ ∧ takeA fa fb la lb i k = true ∧ takeB fa fb la lb i k = false := by
  have ha : takeA fa fb la lb i k = true := by unfold takeA; rw [dif_pos hi, dif_neg (by omega)]
  have hb : takeB fa fb la lb i k = false := by unfold takeB; rw [dif_neg (by omega)]
  refine ⟨?_, ha, hb⟩
  unfold nx
  simp [ha, hb]
theorem nx_b {i k : Nat} (hi : la.length ≤ i) (hk : k < lb.length) {h : i < la.length ∨ k < lb.length} : nx fa fb la lb i k h = ⟨none, some ⟨k, hk⟩, .inr rfl⟩ ∧ takeA fa fb la lb i k = false ∧ takeB fa fb la lb i k = true := by
  have ha : takeA fa fb la lb i k = false := by unfold takeA; rw [dif_neg (by omega)]
  have hb : takeB fa fb la lb i k = true := by unfold takeB; rw [dif_pos hk, dif_neg (by omega)]
  refine ⟨?_, ha, hb⟩
  unfold nx
  simp [ha, hb]
theorem nx_le {i k : Nat} (hi : i < la.length) (hk : k < lb.length) {h : i < la.length ∨ k < lb.length} :
    takeA fa fb la lb i k = le (fa la[i]) (fb lb[k]) ∧ takeB fa fb la lb i k = le (fb lb[k]) (fa la[i]) := by
  unfold takeA takeB
  simp only [hi, hk, dif_pos, and_self]
theorem nx_t {i k : Nat} {h : i < la.length ∨ k < lb.length} {qa qb : Bool} (ha : takeA fa fb la lb i k = qa) (hb : takeB fa fb la lb i k = qb) :
    nx fa fb la lb i k h = ⟨if q : qa = true then some ⟨i, takeA_lt fa fb la lb (ha.trans q)⟩ else none, if q : qb = true then some ⟨k, takeB_lt fa fb la lb (hb.trans q)⟩ else none, by
      rcases take_one fa fb la lb h with q | q
      · left; rw [ha] at q; simp [q]
      · right; rw [hb] at q; simp [q]⟩ := by
  subst ha hb
  rfl
/-- The rounds from these places on. -/
def runW : Nat → Nat → Nat → List (Mi la.length lb.length)
  | 0, _, _ => []
  | f + 1, i, k => if h : i < la.length ∨ k < lb.length then nx fa fb la lb i k h :: runW f (if takeA fa fb la lb i k then i + 1 else i) (if takeB fa fb la lb i k then k + 1 else k) else []
def allW : List (Mi la.length lb.length) := runW fa fb la lb (la.length + lb.length) 0 0
theorem runW_end {i k : Nat} (hi : i = la.length) (hk : k = lb.length) : ∀ f, runW fa fb la lb f i k = []
  | 0 => rfl
  | f + 1 => by rw [runW, dif_neg (by omega)]
theorem run_step {f i k i' k' : Nat} (h : i < la.length ∨ k < lb.length) {x : Mi la.length lb.length} (hx : nx fa fb la lb i k h = x) {qa qb : Bool} (ha : takeA fa fb la lb i k = qa) (hb : takeB fa fb la lb i k = qb) (hi : i' = if qa = true then i + 1 else i) (hk : k' = if qb = true then k + 1 else k) :
    runW fa fb la lb (f + 1) i k = x :: runW fa fb la lb f i' k' := by
  rw [runW, dif_pos h, hx, ha, hb, ← hi, ← hk]
/-- One more round has come. -/
theorem run_next {f i k i' k' : Nat} {pre all : List (Mi la.length lb.length)} (ha0 : all = pre ++ runW fa fb la lb f i k) (hf : la.length + lb.length ≤ f + i + k) (h : i < la.length ∨ k < lb.length) (hle : i ≤ la.length ∧ k ≤ lb.length) {x : Mi la.length lb.length} (hx : nx fa fb la lb i k h = x) {qa qb : Bool} (ha : takeA fa fb la lb i k = qa) (hb : takeB fa fb la lb i k = qb) (hi : i' = if qa = true then i + 1 else i) (hk : k' = if qb = true then k + 1 else k) :
    ∃ f', f = f' + 1 ∧ all = (pre ++ [x]) ++ runW fa fb la lb f' i' k' := by
  rcases f with _ | f
  · omega
  · exact ⟨f, rfl, by rw [ha0, run_step fa fb la lb h hx ha hb hi hk]; simp⟩
theorem runW_len : ∀ (f i k : Nat), (runW fa fb la lb f i k).length ≤ f
  | 0, _, _ => Nat.le_refl _
  | f + 1, i, k => by
    rw [runW]
    split
    · rw [List.length_cons]; have := runW_len f (if takeA fa fb la lb i k then i + 1 else i) (if takeB fa fb la lb i k then k + 1 else k); omega
    · simp
end
end Go.Proofs.Ytkdmlffnkomdhaa
