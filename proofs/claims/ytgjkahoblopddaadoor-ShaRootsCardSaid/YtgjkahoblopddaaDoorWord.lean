/-
  WORDS: what sha's small functions come to, as plain Lean on UInt32; their contracts.
-/
import Derived.Test.YtgjkahoblopddaaDoorCmp
namespace Go.Proofs.YtgjkahoblopddaaDoor
set_option linter.unusedVariables false
set_option linter.unusedSimpArgs false
open Go.RowKit

abbrev wv (x : UInt32) : Value := .int .u32 (x.toNat : Int)
theorem ofInt_word (x : UInt32) : BitVec.ofInt 32 (x.toNat : Int) = x.toBitVec := by
  apply BitVec.eq_of_toNat_eq
  rw [BitVec.toNat_ofInt, UInt32.toNat_toBitVec]
  have := x.toNat_lt
  omega
theorem wrap_u32 (n : Nat) : IntKind.u32.wrap (n : Int) = ((n % 4294967296 : Nat) : Int) := by
  show (n : Int) % 4294967296 = _
  omega
theorem w_xor (x y : UInt32) : bits .xor .u32 (x.toNat : Int) (y.toNat : Int) = ((x ^^^ y).toNat : Int) := by
  unfold bits
  show IntKind.u32.wrap (((BitVec.ofInt 32 (x.toNat : Int)) ^^^ (BitVec.ofInt 32 (y.toNat : Int))).toNat : Int) = _
  rw [ofInt_word, ofInt_word, wrap_u32, ← UInt32.toBitVec_xor, UInt32.toNat_toBitVec, Nat.mod_eq_of_lt (UInt32.toNat_lt _)]
theorem w_and (x y : UInt32) : bits .and .u32 (x.toNat : Int) (y.toNat : Int) = ((x &&& y).toNat : Int) := by
  unfold bits
  show IntKind.u32.wrap (((BitVec.ofInt 32 (x.toNat : Int)) &&& (BitVec.ofInt 32 (y.toNat : Int))).toNat : Int) = _
  rw [ofInt_word, ofInt_word, wrap_u32, ← UInt32.toBitVec_and, UInt32.toNat_toBitVec, Nat.mod_eq_of_lt (UInt32.toNat_lt _)]
theorem w_or (x y : UInt32) : bits .or .u32 (x.toNat : Int) (y.toNat : Int) = ((x ||| y).toNat : Int) := by
  unfold bits
  show IntKind.u32.wrap (((BitVec.ofInt 32 (x.toNat : Int)) ||| (BitVec.ofInt 32 (y.toNat : Int))).toNat : Int) = _
  rw [ofInt_word, ofInt_word, wrap_u32, ← UInt32.toBitVec_or, UInt32.toNat_toBitVec, Nat.mod_eq_of_lt (UInt32.toNat_lt _)]
theorem w_add (x y : UInt32) : IntKind.u32.wrap ((x.toNat : Int) + (y.toNat : Int)) = ((x + y).toNat : Int) := by
  rw [show (x.toNat : Int) + (y.toNat : Int) = ((x.toNat + y.toNat : Nat) : Int) by omega, wrap_u32, UInt32.toNat_add]
theorem w_not (x : UInt32) : (4294967295 : Int) - (x.toNat : Int) = ((~~~x).toNat : Int) := by
  have h := x.toNat_lt
  rw [UInt32.toNat_not]
  simp only [UInt32.size]
  omega

theorem quiet_eq {P : Program} {f : FuncId} {args : Array Value} {w : World} {n : Nat} {v : Value} (h : Calls P f args (w.drewN n) fun e w' => e = .returned v ∧ w.drewN n = w') : Calls P f args (w.drewN n) fun e w'' => e = .returned v ∧ ∃ m, w'' = w.drewN m :=
  h.mono fun _ _ ⟨he, hm⟩ => ⟨he, n, hm.symm⟩
/-- A word, its n lowest bits at its top. -/
def rotr (x : UInt32) (n : Nat) : UInt32 := UInt32.ofNat (x.toNat / 2 ^ n + x.toNat % 2 ^ n * 2 ^ (32 - n))
theorem rot_bound (x n : Nat) (hx : x < 4294967296) (h1 : n ≤ 32) : x / 2 ^ n + x % 2 ^ n * 2 ^ (32 - n) < 4294967296 := by
  have hp : 2 ^ n * 2 ^ (32 - n) = 4294967296 := by rw [← Nat.pow_add, show n + (32 - n) = 32 by omega]
  have h0 : 0 < 2 ^ n := Nat.two_pow_pos n
  have hd : x / 2 ^ n < 2 ^ (32 - n) := by rw [Nat.div_lt_iff_lt_mul h0, Nat.mul_comm, hp]; exact hx
  have hm : x % 2 ^ n < 2 ^ n := Nat.mod_lt _ h0
  have : x % 2 ^ n * 2 ^ (32 - n) + 2 ^ (32 - n) ≤ 2 ^ n * 2 ^ (32 - n) := by rw [← Nat.succ_mul]; exact Nat.mul_le_mul_right _ hm
  omega
theorem rotr_nat (x : UInt32) (n : Nat) (h1 : n ≤ 32) : (rotr x n).toNat = x.toNat / 2 ^ n + x.toNat % 2 ^ n * 2 ^ (32 - n) := by
  unfold rotr
  rw [UInt32.toNat_ofNat', Nat.mod_eq_of_lt (rot_bound _ _ x.toNat_lt h1)]
/-- What the shifts come to. -/
theorem rot_or (x : UInt32) (n : Nat) (h1 : n ≤ 32) : bits .or .u32 ((x.toNat : Int) / (2 ^ n : Nat)) (IntKind.u32.wrap ((x.toNat : Int) * (2 ^ (32 - n) : Nat))) = ((rotr x n).toNat : Int) := by
  have hp : 2 ^ n * 2 ^ (32 - n) = 4294967296 := by rw [← Nat.pow_add, show n + (32 - n) = 32 by omega]
  have h0 : 0 < 2 ^ n := Nat.two_pow_pos n
  have hx := x.toNat_lt
  have e1 : x.toNat * 2 ^ (32 - n) % 4294967296 = x.toNat % 2 ^ n * 2 ^ (32 - n) := by
    rw [← hp, Nat.mul_mod_mul_right]
  have hd : x.toNat / 2 ^ n < 2 ^ (32 - n) := by rw [Nat.div_lt_iff_lt_mul h0, Nat.mul_comm, hp]; exact hx
  have hb := rot_bound _ n hx h1
  rw [show (x.toNat : Int) / ((2 ^ n : Nat) : Int) = ((x.toNat / 2 ^ n : Nat) : Int) by norm_cast, show (x.toNat : Int) * ((2 ^ (32 - n) : Nat) : Int) = ((x.toNat * 2 ^ (32 - n) : Nat) : Int) by norm_cast, wrap_u32, e1]
  have a1 : (UInt32.ofNat (x.toNat / 2 ^ n)).toNat = x.toNat / 2 ^ n := by rw [UInt32.toNat_ofNat', Nat.mod_eq_of_lt (by omega)]
  have a2 : (UInt32.ofNat (x.toNat % 2 ^ n * 2 ^ (32 - n))).toNat = x.toNat % 2 ^ n * 2 ^ (32 - n) := by rw [UInt32.toNat_ofNat', Nat.mod_eq_of_lt (by omega)]
  rw [← a1, ← a2, w_or, UInt32.toNat_or, a1, a2, rotr_nat x n h1, Nat.or_comm, Nat.mul_comm, ← Nat.two_pow_add_eq_or_of_lt hd]
  congr 1
  omega
def shrW (x : UInt32) (n : Nat) : UInt32 := UInt32.ofNat (x.toNat / 2 ^ n)
theorem shrW_nat (x : UInt32) (n : Nat) : (shrW x n).toNat = x.toNat / 2 ^ n := by
  unfold shrW
  rw [UInt32.toNat_ofNat', Nat.mod_eq_of_lt]
  have := x.toNat_lt
  exact Nat.lt_of_le_of_lt (Nat.div_le_self _ _) this
def spreadW (x : UInt32) (l m n : Nat) : UInt32 := rotr x l ^^^ rotr x m ^^^ rotr x n
def blendW (x : UInt32) (l m n : Nat) : UInt32 := rotr x l ^^^ rotr x m ^^^ shrW x n
def chW (e f g : UInt32) : UInt32 := e &&& f ||| ~~~e &&& g
def mjW (a b c : UInt32) : UInt32 := a &&& b ||| a &&& c ||| b &&& c
theorem w_max (x : UInt32) : bits .xor .u32 IntKind.u32.max (x.toNat : Int) = ((~~~x).toNat : Int) := by
  have e : (IntKind.u32.max : Int) = ((4294967295 : UInt32).toNat : Int) := rfl
  rw [e, w_xor]
  congr 2
theorem ret_word {a : Int} {x : UInt32} (h : a = (x.toNat : Int)) : Ending.returned (.int .u32 a) = .returned (wv x) := by rw [h]

theorem chosen_any (e f g : UInt32) (w : World) : Calls Tryd.prog 57 #[wv e, wv f, wv g] w fun x w' => x = .returned (wv (chW e f g)) ∧ w = w' := by
  have he := e.toNat_lt
  go_enter Tryd.func57, Tryd.ntmps57
  go_wp2
  go_ret
  refine ⟨ret_word ?_, rfl⟩
  rw [w_and, w_max, w_and, w_or]
  try rfl
theorem most_any (a b c : UInt32) (w : World) : Calls Tryd.prog 58 #[wv a, wv b, wv c] w fun x w' => x = .returned (wv (mjW a b c)) ∧ w = w' := by
  go_enter Tryd.func58, Tryd.ntmps58
  go_wp2
  go_ret
  refine ⟨ret_word ?_, rfl⟩
  rw [w_and, w_and, w_or, w_and, w_or]
  rfl
theorem turned_any (x : UInt32) (n : Nat) (N : Int) (hN : N = (n : Int)) (h1 : 1 ≤ n) (h2 : n ≤ 31) (w : World) : Calls Tryd.prog 72 #[wv x, .int .i64 N] w fun y w' => y = .returned (wv (rotr x n)) ∧ ∃ k, w' = w.drewN k := by
  subst hN
  have hn0 : (0 : Int) ≤ (n : Int) := Int.natCast_nonneg _
  have hn1 : (n : Int) ≤ 31 := by omega
  go_enter Tryd.func72, Tryd.ntmps72
  go_wp2
  go_quiet ((go_at_call 74; refine quiet_eq (len64_32 _ _ ?_ ?_) <;> decide +kernel))
  go_wp2
  go_ret
  refine ⟨ret_word ?_, nq, rfl⟩
  rw [show (2 : Int) ^ n = ((2 ^ n : Nat) : Int) by simp, show (2 : Int) ^ (32 - n) = ((2 ^ (32 - n) : Nat) : Int) by simp]
  exact rot_or x n (by omega)
theorem spread_any (x : UInt32) (l m n : Nat) (L M N : Int) (hL : L = (l : Int)) (hM : M = (m : Int)) (hN : N = (n : Int)) (hl : 1 ≤ l ∧ l ≤ 31) (hm : 1 ≤ m ∧ m ≤ 31) (hn : 1 ≤ n ∧ n ≤ 31) (w : World) :
    Calls Tryd.prog 56 #[wv x, .int .i64 L, .int .i64 M, .int .i64 N] w fun y w' => y = .returned (wv (spreadW x l m n)) ∧ ∃ k, w' = w.drewN k := by
  have HL := Lib.hid hL
  have HM := Lib.hid hM
  have HN := Lib.hid hN
  clear hL hM hN
  go_enter Tryd.func56, Tryd.ntmps56
  go_wp2_with fail
  refine (turned_any x l L HL.out hl.1 hl.2 _).mono ?_
  rintro e w1 ⟨rfl, k1, rfl⟩
  go_wp2_with fail
  refine (turned_any x m M HM.out hm.1 hm.2 _).mono ?_
  rintro e w1 ⟨rfl, k2, rfl⟩
  go_wp2_with fail
  refine (turned_any x n N HN.out hn.1 hn.2 _).mono ?_
  rintro e w1 ⟨rfl, k3, rfl⟩
  go_wp2
  go_ret
  refine ⟨ret_word ?_, k1 + k2 + k3, rfl⟩
  rw [w_xor, w_xor]
  rfl
theorem blended_any (x : UInt32) (l m n : Nat) (L M N : Int) (hL : L = (l : Int)) (hM : M = (m : Int)) (hN : N = (n : Int)) (hl : 1 ≤ l ∧ l ≤ 31) (hm : 1 ≤ m ∧ m ≤ 31) (hn : 1 ≤ n ∧ n ≤ 31) (w : World) :
    Calls Tryd.prog 59 #[wv x, .int .i64 L, .int .i64 M, .int .i64 N] w fun y w' => y = .returned (wv (blendW x l m n)) ∧ ∃ k, w' = w.drewN k := by
  have HL := Lib.hid hL
  have HM := Lib.hid hM
  subst hN
  have C1 := Lib.hid (fun k => Calls.quiet_of (n := k) (turned_any x l L hL hl.1 hl.2 (w.drewN k)))
  have C2 := Lib.hid (fun k => Calls.quiet_of (n := k) (turned_any x m M hM hm.1 hm.2 (w.drewN k)))
  clear hL hM
  have hn0 : (0 : Int) ≤ (n : Int) := Int.natCast_nonneg _
  have hn1 : (n : Int) ≤ 31 := by omega
  go_enter Tryd.func59, Tryd.ntmps59
  go_wp2
  go_quiet ((first | (go_at_call 72; with_reducible exact C1.out _) | (go_at_call 72; with_reducible exact C2.out _)))
  go_wp2
  go_ret
  refine ⟨ret_word ?_, nq, rfl⟩
  rw [show (2 : Int) ^ n = ((2 ^ n : Nat) : Int) by simp, show (x.toNat : Int) / ((2 ^ n : Nat) : Int) = ((shrW x n).toNat : Int) by rw [shrW_nat]; norm_cast, w_xor, w_xor]
  rfl
end Go.Proofs.YtgjkahoblopddaaDoor
