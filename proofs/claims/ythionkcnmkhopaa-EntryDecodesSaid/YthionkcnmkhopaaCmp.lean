/-
  bytes.Compare, and the order of numbers and of their bytes.
-/
import Derived.Test.YthionkcnmkhopaaLaw1
import Derived.Lib.Bytealg
namespace Go.Proofs.Ythionkcnmkhopaa
set_option linter.unusedVariables false
open Go.RowKit Go.WideShapes Go.ChangeShapes

theorem loadBytes_ok {P : Program} {w : World} : ∀ (l : List UInt8) (b o : Nat) (acc : ByteArray), (∀ j (h : j < l.length), w.cell? ⟨b, o + j, none⟩ = some (bv l[j])) →
    (Extern.Bytes.loadBytes ⟨b, o, none⟩ l.length acc).run P w = .ok ⟨acc.data ++ l.toArray⟩ w
  | [], b, o, acc, _ => by simp [Extern.Bytes.loadBytes, Sem.run_pure]
  | x :: l, b, o, acc, h => by
    have h0 := h 0 (by simp)
    rw [Nat.add_zero] at h0
    have ht := loadBytes_ok (P := P) l b (o + 1) (acc.push x) (fun j hj => by
      have := h (j + 1) (by simpa using hj)
      rw [show o + 1 + j = o + (j + 1) by omega, this]
      simp)
    simp only [List.length_cons, Extern.Bytes.loadBytes, Sem.run_bind]
    have e1 : (load ⟨b, o, none⟩).run P w = .ok (bv x) w := by simp [h0]
    rw [e1]
    simp only [Result.andThen, bv, addr_add]
    have e2 : ((x.toNat : Int)).toNat.toUInt8 = x := by simp
    rw [e2, ht]
    simp [ByteArray.push]
theorem SlB.bytesOf {P : Program} {w : World} {B n c : Nat} {A : Option Addr} {l : List UInt8} (h : SlB w B A n c l) : (Extern.Bytes.bytesOf (.slice A n c)).run P w = .ok ⟨l.toArray⟩ w := by
  obtain rfl : l.length = n := h.len
  by_cases h0 : l.length = 0
  · obtain rfl : l = [] := List.eq_nil_of_length_eq_zero h0
    rcases A with _ | ad
    · rfl
    · rfl
  · obtain ⟨b, o, rfl, hb, hc⟩ := h.pos (by omega)
    have := loadBytes_ok (P := P) l b o .empty hc
    simp only [Extern.Bytes.bytesOf]
    rw [this]
    simp
theorem run_compare {P : Program} {w : World} {B n c B' n' c' : Nat} {A A' : Option Addr} {l l' : List UInt8} (h : SlB w B A n c l) (h' : SlB w B' A' n' c' l') :
    (Extern.BytealgCompare.compare #[.slice A n c, .slice A' n' c']).run P w = .ok (.int .i64 (Lib.compareBytes l l')) w := by
  change Sem.run P (do pure (goInt (Extern.BytealgCompare.cmp (← Extern.Bytes.bytesOf (.slice A n c)) (← Extern.Bytes.bytesOf (.slice A' n' c'))))) w = _
  simp only [Sem.run_bind, Sem.run_pure, Result.andThen, h.bytesOf, h'.bytesOf]
  rw [Lib.cmp_eq]
  rfl
/-! ### order -/
def sgn (a b : Nat) : Int := if a < b then -1 else if b < a then 1 else 0
theorem sgn_add (m a b : Nat) : sgn (m + a) (m + b) = sgn a b := by simp only [sgn, Nat.add_lt_add_iff_left]
theorem num_cons : ∀ (l : List UInt8) (x : UInt8), num (x :: l) = x.toNat * 256 ^ l.length + num l := by
  intro l x
  have gen : ∀ (l : List UInt8) (a : Nat), l.foldl (fun x b => x * 256 + b.toNat) a = a * 256 ^ l.length + num l := by
    intro l
    induction l with
    | nil => intro a; simp [num]
    | cons b l ih =>
      intro a
      have e1 := ih (a * 256 + b.toNat)
      have e2 := ih (0 * 256 + b.toNat)
      simp only [num, List.foldl_cons, List.length_cons] at *
      rw [e1, e2, Nat.pow_succ', Nat.add_mul, Nat.zero_mul, Nat.zero_add, Nat.mul_assoc]
      omega
  have := gen l (0 * 256 + x.toNat)
  simp only [num, List.foldl_cons] at *
  rw [this]
  simp
theorem compare_num : ∀ (l l' : List UInt8), l.length = l'.length → Lib.compareBytes l l' = sgn (num l) (num l')
  | [], [], _ => rfl
  | [], _ :: _, h => by simp at h
  | _ :: _, [], h => by simp at h
  | a :: l, b :: l', h => by
    have hl : l.length = l'.length := by simpa using h
    have ih := compare_num l l' hl
    have h1 := num_lt l
    have h2 := num_lt l'
    rw [num_cons, num_cons, Lib.compareBytes, hl]
    rw [hl] at h1
    by_cases hab : a < b
    · have h3 : a.toNat + 1 ≤ b.toNat := UInt8.lt_iff_toNat_lt.1 hab
      have h4 : (a.toNat + 1) * 256 ^ l'.length ≤ b.toNat * 256 ^ l'.length := Nat.mul_le_mul_right _ h3
      rw [Nat.add_mul, Nat.one_mul] at h4
      rw [if_pos hab, sgn, if_pos (by omega)]
    · by_cases hba : b < a
      · have h3 : b.toNat + 1 ≤ a.toNat := UInt8.lt_iff_toNat_lt.1 hba
        have h4 : (b.toNat + 1) * 256 ^ l'.length ≤ a.toNat * 256 ^ l'.length := Nat.mul_le_mul_right _ h3
        rw [Nat.add_mul, Nat.one_mul] at h4
        rw [if_neg hab, if_pos hba, sgn, if_neg (by omega), if_pos (by omega)]
      · obtain rfl : a = b := by
          rw [UInt8.lt_iff_toNat_lt] at hab hba
          exact UInt8.toNat_inj.1 (by omega)
        rw [if_neg hab, if_neg hab, ih]
        exact (sgn_add _ _ _).symm
theorem num_be : ∀ (k x : Nat), num (be k x) = x % 256 ^ k
  | 0, x => by simp [num, be, Nat.mod_one]
  | k + 1, x => by
    rw [be, num_snoc, num_be k, Nat.pow_succ', Nat.mod_mul]
    simp
    omega
theorem compare_be (k x y : Nat) (hx : x < 256 ^ k) (hy : y < 256 ^ k) : Lib.compareBytes (be k x) (be k y) = sgn x y := by
  rw [compare_num _ _ (by rw [be_len, be_len]), num_be, num_be, Nat.mod_eq_of_lt hx, Nat.mod_eq_of_lt hy]

/-! ### a number that was put is taken off -/
theorem offT_at (l t : List UInt8) (k : Nat) (n : Int) (hn : n = (k : Int)) (hl : l.length = k) : offT (l ++ t) 0 n = l ∧ offL (l ++ t) 0 n = t ∧ offE (l ++ t) 0 n = 0 := by
  subst hn hl
  have h : (0 : Int) = 0 ∧ (0 : Int) ≤ (l.length : Int) ∧ (l.length : Int) ≤ ((l ++ t).length : Int) := by simp; omega
  refine ⟨?_, ?_, ?_⟩
  · unfold offT; rw [if_pos h]; simp
  · unfold offL; rw [if_pos h]; simp
  · unfold offE; rw [if_pos rfl, if_neg (by omega), if_pos h.2.2]
theorem num_app : ∀ (a b : List UInt8), num (a ++ b) = num a * 256 ^ b.length + num b
  | [], b => by simp [num]
  | x :: a, b => by
    rw [List.cons_append, num_cons, num_cons, num_app a b, List.length_append, Nat.pow_add, Nat.add_mul, Nat.mul_assoc, Nat.add_assoc]
theorem num_halves (t : List UInt8) (h : 8 ≤ t.length) : num (t.take 8) = num (t.take 4) * 4294967296 + num ((t.drop 4).take 4) := by
  have h1 : t.take 8 = t.take 4 ++ (t.drop 4).take 4 := by
    rw [show 8 = 4 + 4 from rfl, List.take_add]
  rw [h1, num_app, List.length_take, List.length_drop, Nat.min_eq_left (by omega)]
theorem off_ok (l : List UInt8) (k : Nat) (n : Int) (hn : n = (k : Int)) (hl : k ≤ l.length) : offT l 0 n = l.take k ∧ offL l 0 n = l.drop k ∧ offE l 0 n = 0 := by
  subst hn
  have h : (0 : Int) = 0 ∧ (0 : Int) ≤ (k : Int) ∧ (k : Int) ≤ (l.length : Int) := by omega
  refine ⟨?_, ?_, ?_⟩
  · unfold offT; rw [if_pos h]; simp
  · unfold offL; rw [if_pos h]; simp
  · unfold offE; rw [if_pos rfl, if_neg (by omega), if_pos h.2.2]
end Go.Proofs.Ythionkcnmkhopaa
