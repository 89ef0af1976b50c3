/-
  bytes.Compare, and the order of numbers and of their bytes.
  WORDS: what sha's small functions come to, as plain Lean on UInt32; their contracts.
  WORDS OF MY OWN FOR MEMORY, over whatever program: a step that turns only the blocks of a set; ranges of a row; stores of many cells. Nothing of a program stands here.
-/
import Derived.Test.YtcofkhmgmemkmaaGreatDoorK01
import Derived.Lib.Bytealg
import Derived.Deep.OwnRows
import Derived.Deep.MidRow
import Derived.Deep.RegionHeld3
import Derived.StillTailTactics
namespace Go.Proofs.YtcofkhmgmemkmaaGreatDoor.S3
set_option maxRecDepth 100000
set_option linter.unusedVariables false
open Go.RowKit Go.WideShapes Go.ChangeShapes

theorem loadBytes_ok {P : Program} {w : World} : ∀ (l : List UInt8) (b o : Nat) (acc : ByteArray), (∀ j (h : j < l.length), w.cell? ⟨b, o + j, none⟩ = some (bv l[j])) →
    (Extern.Bytes.loadBytes ⟨b, o, none⟩ l.length acc).run P w = .ok ⟨acc.data ++ l.toArray⟩ w
  | [], b, o, acc, _ => by simp [Extern.Bytes.loadBytes, Sem.run_pure]
  | x :: l, b, o, acc, h => by
    have h0 := h 0 (by simp)
    rw [Nat.add_zero] at h0
    have ht := loadBytes_ok (P := P) l b (o + 1) (acc.push x) (fun j hj => by
      have := h (j + 1) (by simpa using hj)
      rw [show o + 1 + j = o + (j + 1) by omega, this]
      simp)
    simp only [List.length_cons, Extern.Bytes.loadBytes, Sem.run_bind]
    have e1 : (load ⟨b, o, none⟩).run P w = .ok (bv x) w := by simp [h0]
    rw [e1]
    simp only [Result.andThen, bv, addr_add]
    have e2 : ((x.toNat : Int)).toNat.toUInt8 = x := by simp
    rw [e2, ht]
    simp [ByteArray.push]
theorem SlB.bytesOf {P : Program} {w : World} {B n c : Nat} {A : Option Addr} {l : List UInt8} (h : SlB w B A n c l) : (Extern.Bytes.bytesOf (.slice A n c)).run P w = .ok ⟨l.toArray⟩ w := by
  obtain rfl : l.length = n := h.len
  by_cases h0 : l.length = 0
  · obtain rfl : l = [] := List.eq_nil_of_length_eq_zero h0
    rcases A with _ | ad
    · rfl
    · rfl
  · obtain ⟨b, o, rfl, hb, hc⟩ := h.pos (by omega)
    have := loadBytes_ok (P := P) l b o .empty hc
    simp only [Extern.Bytes.bytesOf]
    rw [this]
    simp
theorem run_compare {P : Program} {w : World} {B n c B' n' c' : Nat} {A A' : Option Addr} {l l' : List UInt8} (h : SlB w B A n c l) (h' : SlB w B' A' n' c' l') :
    (Extern.BytealgCompare.compare #[.slice A n c, .slice A' n' c']).run P w = .ok (.int .i64 (Lib.compareBytes l l')) w := by
  change Sem.run P (do pure (goInt (Extern.BytealgCompare.cmp (← Extern.Bytes.bytesOf (.slice A n c)) (← Extern.Bytes.bytesOf (.slice A' n' c'))))) w = _
  simp only [Sem.run_bind, Sem.run_pure, Result.andThen, h.bytesOf, h'.bytesOf]
  rw [Lib.cmp_eq]
  rfl
/-! ### order -/
def sgn (a b : Nat) : Int := if a < b then -1 else if b < a then 1 else 0
theorem sgn_add (m a b : Nat) : sgn (m + a) (m + b) = sgn a b := by simp only [sgn, Nat.add_lt_add_iff_left]
theorem num_cons : ∀ (l : List UInt8) (x : UInt8), num (x :: l) = x.toNat * 256 ^ l.length + num l := by
  intro l x
  have gen : ∀ (l : List UInt8) (a : Nat), l.foldl (fun x b => x * 256 + b.toNat) a = a * 256 ^ l.length + num l := by
    intro l
    induction l with
    | nil => intro a; simp [num]
    | cons b l ih =>
      intro a
      have e1 := ih (a * 256 + b.toNat)
      have e2 := ih (0 * 256 + b.toNat)
      simp only [num, List.foldl_cons, List.length_cons] at *
      rw [e1, e2, Nat.pow_succ', Nat.add_mul, Nat.zero_mul, Nat.zero_add, Nat.mul_assoc]
      omega
  have := gen l (0 * 256 + x.toNat)
  simp only [num, List.foldl_cons] at *
  rw [this]
  simp
theorem compare_num : ∀ (l l' : List UInt8), l.length = l'.length → Lib.compareBytes l l' = sgn (num l) (num l')
  | [], [], _ => rfl
  | [], _ :: _, h => by simp at h
  | _ :: _, [], h => by simp at h
  | a :: l, b :: l', h => by
    have hl : l.length = l'.length := by simpa using h
    have ih := compare_num l l' hl
    have h1 := num_lt l
    have h2 := num_lt l'
    rw [num_cons, num_cons, Lib.compareBytes, hl]
    rw [hl] at h1
    by_cases hab : a < b
    · have h3 : a.toNat + 1 ≤ b.toNat := UInt8.lt_iff_toNat_lt.1 hab
      have h4 : (a.toNat + 1) * 256 ^ l'.length ≤ b.toNat * 256 ^ l'.length := Nat.mul_le_mul_right _ h3
      rw [Nat.add_mul, Nat.one_mul] at h4
      rw [if_pos hab, sgn, if_pos (by omega)]
    · by_cases hba : b < a
      · have h3 : b.toNat + 1 ≤ a.toNat := UInt8.lt_iff_toNat_lt.1 hba
        have h4 : (b.toNat + 1) * 256 ^ l'.length ≤ a.toNat * 256 ^ l'.length := Nat.mul_le_mul_right _ h3
        rw [Nat.add_mul, Nat.one_mul] at h4
        rw [if_neg hab, if_pos hba, sgn, if_neg (by omega), if_pos (by omega)]
      · obtain rfl : a = b := by
          rw [UInt8.lt_iff_toNat_lt] at hab hba
          exact UInt8.toNat_inj.1 (by omega)
        rw [if_neg hab, if_neg hab, ih]
        exact (sgn_add _ _ _).symm
theorem num_be : ∀ (k x : Nat), num (be k x) = x % 256 ^ k
  | 0, x => by simp [num, be, Nat.mod_one]
  | k + 1, x => by
    rw [be, num_snoc, num_be k, Nat.pow_succ', Nat.mod_mul]
    simp
    omega
theorem compare_be (k x y : Nat) (hx : x < 256 ^ k) (hy : y < 256 ^ k) : Lib.compareBytes (be k x) (be k y) = sgn x y := by
  rw [compare_num _ _ (by rw [be_len, be_len]), num_be, num_be, Nat.mod_eq_of_lt hx, Nat.mod_eq_of_lt hy]

/-! ### a number that was put is taken off -/
theorem offT_at (l t : List UInt8) (k : Nat) (n : Int) (hn : n = (k : Int)) (hl : l.length = k) : offT (l ++ t) 0 n = l ∧ offL (l ++ t) 0 n = t ∧ offE (l ++ t) 0 n = 0 := by
  subst hn hl
  have h : (0 : Int) = 0 ∧ (0 : Int) ≤ (l.length : Int) ∧ (l.length : Int) ≤ ((l ++ t).length : Int) := by simp; omega
  refine ⟨?_, ?_, ?_⟩
  · unfold offT; rw [if_pos h]; simp
  · unfold offL; rw [if_pos h]; simp
  · unfold offE; rw [if_pos rfl, if_neg (by omega), if_pos h.2.2]
theorem num_app : ∀ (a b : List UInt8), num (a ++ b) = num a * 256 ^ b.length + num b
  | [], b => by simp [num]
  | x :: a, b => by
    rw [List.cons_append, num_cons, num_cons, num_app a b, List.length_append, Nat.pow_add, Nat.add_mul, Nat.mul_assoc, Nat.add_assoc]
theorem num_halves (t : List UInt8) (h : 8 ≤ t.length) : num (t.take 8) = num (t.take 4) * 4294967296 + num ((t.drop 4).take 4) := by
  have h1 : t.take 8 = t.take 4 ++ (t.drop 4).take 4 := by
    rw [show 8 = 4 + 4 from rfl, List.take_add]
  rw [h1, num_app, List.length_take, List.length_drop, Nat.min_eq_left (by omega)]
theorem off_ok (l : List UInt8) (k : Nat) (n : Int) (hn : n = (k : Int)) (hl : k ≤ l.length) : offT l 0 n = l.take k ∧ offL l 0 n = l.drop k ∧ offE l 0 n = 0 := by
  subst hn
  have h : (0 : Int) = 0 ∧ (0 : Int) ≤ (k : Int) ∧ (k : Int) ≤ (l.length : Int) := by omega
  refine ⟨?_, ?_, ?_⟩
  · unfold offT; rw [if_pos h]; simp
  · unfold offL; rw [if_pos h]; simp
  · unfold offE; rw [if_pos rfl, if_neg (by omega), if_pos h.2.2]
end Go.Proofs.YtcofkhmgmemkmaaGreatDoor.S3
namespace Go.Proofs.YtcofkhmgmemkmaaGreatDoor.S3
set_option maxRecDepth 100000
set_option linter.unusedVariables false
set_option linter.unusedSimpArgs false
open Go.RowKit

abbrev wv (x : UInt32) : Value := .int .u32 (x.toNat : Int)
theorem ofInt_word (x : UInt32) : BitVec.ofInt 32 (x.toNat : Int) = x.toBitVec := by
  apply BitVec.eq_of_toNat_eq
  rw [BitVec.toNat_ofInt, UInt32.toNat_toBitVec]
  have := x.toNat_lt
  omega
theorem wrap_u32 (n : Nat) : IntKind.u32.wrap (n : Int) = ((n % 4294967296 : Nat) : Int) := by
  show (n : Int) % 4294967296 = _
  omega
theorem w_xor (x y : UInt32) : bits .xor .u32 (x.toNat : Int) (y.toNat : Int) = ((x ^^^ y).toNat : Int) := by
  unfold bits
  show IntKind.u32.wrap (((BitVec.ofInt 32 (x.toNat : Int)) ^^^ (BitVec.ofInt 32 (y.toNat : Int))).toNat : Int) = _
  rw [ofInt_word, ofInt_word, wrap_u32, ← UInt32.toBitVec_xor, UInt32.toNat_toBitVec, Nat.mod_eq_of_lt (UInt32.toNat_lt _)]
theorem w_and (x y : UInt32) : bits .and .u32 (x.toNat : Int) (y.toNat : Int) = ((x &&& y).toNat : Int) := by
  unfold bits
  show IntKind.u32.wrap (((BitVec.ofInt 32 (x.toNat : Int)) &&& (BitVec.ofInt 32 (y.toNat : Int))).toNat : Int) = _
  rw [ofInt_word, ofInt_word, wrap_u32, ← UInt32.toBitVec_and, UInt32.toNat_toBitVec, Nat.mod_eq_of_lt (UInt32.toNat_lt _)]
theorem w_or (x y : UInt32) : bits .or .u32 (x.toNat : Int) (y.toNat : Int) = ((x ||| y).toNat : Int) := by
  unfold bits
  show IntKind.u32.wrap (((BitVec.ofInt 32 (x.toNat : Int)) ||| (BitVec.ofInt 32 (y.toNat : Int))).toNat : Int) = _
  rw [ofInt_word, ofInt_word, wrap_u32, ← UInt32.toBitVec_or, UInt32.toNat_toBitVec, Nat.mod_eq_of_lt (UInt32.toNat_lt _)]
theorem w_add (x y : UInt32) : IntKind.u32.wrap ((x.toNat : Int) + (y.toNat : Int)) = ((x + y).toNat : Int) := by
  rw [show (x.toNat : Int) + (y.toNat : Int) = ((x.toNat + y.toNat : Nat) : Int) by omega, wrap_u32, UInt32.toNat_add]
theorem w_not (x : UInt32) : (4294967295 : Int) - (x.toNat : Int) = ((~~~x).toNat : Int) := by
  have h := x.toNat_lt
  rw [UInt32.toNat_not]
  simp only [UInt32.size]
  omega

theorem quiet_eq {P : Program} {f : FuncId} {args : Array Value} {w : World} {n : Nat} {v : Value} (h : Calls P f args (w.drewN n) fun e w' => e = .returned v ∧ w.drewN n = w') : Calls P f args (w.drewN n) fun e w'' => e = .returned v ∧ ∃ m, w'' = w.drewN m :=
  h.mono fun _ _ ⟨he, hm⟩ => ⟨he, n, hm.symm⟩
/-- A word, its n lowest bits at its top. -/
def rotr (x : UInt32) (n : Nat) : UInt32 := UInt32.ofNat (x.toNat / 2 ^ n + x.toNat % 2 ^ n * 2 ^ (32 - n))
theorem rot_bound (x n : Nat) (hx : x < 4294967296) (h1 : n ≤ 32) : x / 2 ^ n + x % 2 ^ n * 2 ^ (32 - n) < 4294967296 := by
  have hp : 2 ^ n * 2 ^ (32 - n) = 4294967296 := by rw [← Nat.pow_add, show n + (32 - n) = 32 by omega]
  have h0 : 0 < 2 ^ n := Nat.two_pow_pos n
  have hd : x / 2 ^ n < 2 ^ (32 - n) := by rw [Nat.div_lt_iff_lt_mul h0, Nat.mul_comm, hp]; exact hx
  have hm : x % 2 ^ n < 2 ^ n := Nat.mod_lt _ h0
  have : x % 2 ^ n * 2 ^ (32 - n) + 2 ^ (32 - n) ≤ 2 ^ n * 2 ^ (32 - n) := by rw [← Nat.succ_mul]; exact Nat.mul_le_mul_right _ hm
  omega
theorem rotr_nat (x : UInt32) (n : Nat) (h1 : n ≤ 32) : (rotr x n).toNat = x.toNat / 2 ^ n + x.toNat % 2 ^ n * 2 ^ (32 - n) := by
  unfold rotr
  rw [UInt32.toNat_ofNat', Nat.mod_eq_of_lt (rot_bound _ _ x.toNat_lt h1)]
/-- What the shifts come to. -/
theorem rot_or (x : UInt32) (n : Nat) (h1 : n ≤ 32) : bits .or .u32 ((x.toNat : Int) / (2 ^ n : Nat)) (IntKind.u32.wrap ((x.toNat : Int) * (2 ^ (32 - n) : Nat))) = ((rotr x n).toNat : Int) := by
  have hp : 2 ^ n * 2 ^ (32 - n) = 4294967296 := by rw [← Nat.pow_add, show n + (32 - n) = 32 by omega]
  have h0 : 0 < 2 ^ n := Nat.two_pow_pos n
  have hx := x.toNat_lt
  have e1 : x.toNat * 2 ^ (32 - n) % 4294967296 = x.toNat % 2 ^ n * 2 ^ (32 - n) := by
    rw [← hp, Nat.mul_mod_mul_right]
  have hd : x.toNat / 2 ^ n < 2 ^ (32 - n) := by rw [Nat.div_lt_iff_lt_mul h0, Nat.mul_comm, hp]; exact hx
  have hb := rot_bound _ n hx h1
  rw [show (x.toNat : Int) / ((2 ^ n : Nat) : Int) = ((x.toNat / 2 ^ n : Nat) : Int) by norm_cast, show (x.toNat : Int) * ((2 ^ (32 - n) : Nat) : Int) = ((x.toNat * 2 ^ (32 - n) : Nat) : Int) by norm_cast, wrap_u32, e1]
  have a1 : (UInt32.ofNat (x.toNat / 2 ^ n)).toNat = x.toNat / 2 ^ n := by rw [UInt32.toNat_ofNat', Nat.mod_eq_of_lt (by omega)]
  have a2 : (UInt32.ofNat (x.toNat % 2 ^ n * 2 ^ (32 - n))).toNat = x.toNat % 2 ^ n * 2 ^ (32 - n) := by rw [UInt32.toNat_ofNat', Nat.mod_eq_of_lt (by omega)]
  rw [← a1, ← a2, w_or, UInt32.toNat_or, a1, a2, rotr_nat x n h1, Nat.or_comm, Nat.mul_comm, ← Nat.two_pow_add_eq_or_of_lt hd]
  congr 1
  omega
def shrW (x : UInt32) (n : Nat) : UInt32 := UInt32.ofNat (x.toNat / 2 ^ n)
theorem shrW_nat (x : UInt32) (n : Nat) : (shrW x n).toNat = x.toNat / 2 ^ n := by
  unfold shrW
  rw [UInt32.toNat_ofNat', Nat.mod_eq_of_lt]
  have := x.toNat_lt
  exact Nat.lt_of_le_of_lt (Nat.div_le_self _ _) this
def spreadW (x : UInt32) (l m n : Nat) : UInt32 := rotr x l ^^^ rotr x m ^^^ rotr x n
def blendW (x : UInt32) (l m n : Nat) : UInt32 := rotr x l ^^^ rotr x m ^^^ shrW x n
def chW (e f g : UInt32) : UInt32 := e &&& f ||| ~~~e &&& g
def mjW (a b c : UInt32) : UInt32 := a &&& b ||| a &&& c ||| b &&& c
theorem w_max (x : UInt32) : bits .xor .u32 IntKind.u32.max (x.toNat : Int) = ((~~~x).toNat : Int) := by
  have e : (IntKind.u32.max : Int) = ((4294967295 : UInt32).toNat : Int) := rfl
  rw [e, w_xor]
  congr 2
theorem ret_word {a : Int} {x : UInt32} (h : a = (x.toNat : Int)) : Ending.returned (.int .u32 a) = .returned (wv x) := by rw [h]

theorem chosen_any (e f g : UInt32) (w : World) : Calls Tryz.prog 110 #[wv e, wv f, wv g] w fun x w' => x = .returned (wv (chW e f g)) ∧ w = w' := by
  have he := e.toNat_lt
  go_enter Tryz.func110, Tryz.ntmps110
  go_wp2
  go_ret
  refine ⟨ret_word ?_, rfl⟩
  rw [w_and, w_max, w_and, w_or]
  try rfl
theorem most_any (a b c : UInt32) (w : World) : Calls Tryz.prog 111 #[wv a, wv b, wv c] w fun x w' => x = .returned (wv (mjW a b c)) ∧ w = w' := by
  go_enter Tryz.func111, Tryz.ntmps111
  go_wp2
  go_ret
  refine ⟨ret_word ?_, rfl⟩
  rw [w_and, w_and, w_or, w_and, w_or]
  rfl
theorem turned_any (x : UInt32) (n : Nat) (N : Int) (hN : N = (n : Int)) (h1 : 1 ≤ n) (h2 : n ≤ 31) (w : World) : Calls Tryz.prog 113 #[wv x, .int .i64 N] w fun y w' => y = .returned (wv (rotr x n)) ∧ ∃ k, w' = w.drewN k := by
  subst hN
  have hn0 : (0 : Int) ≤ (n : Int) := Int.natCast_nonneg _
  have hn1 : (n : Int) ≤ 31 := by omega
  go_enter Tryz.func113, Tryz.ntmps113
  go_wp2
  go_quiet ((go_at_call 92; refine quiet_eq (len64_32 _ _ ?_ ?_) <;> decide +kernel))
  go_wp2
  go_ret
  refine ⟨ret_word ?_, nq, rfl⟩
  rw [show (2 : Int) ^ n = ((2 ^ n : Nat) : Int) by simp, show (2 : Int) ^ (32 - n) = ((2 ^ (32 - n) : Nat) : Int) by simp]
  exact rot_or x n (by omega)
theorem spread_any (x : UInt32) (l m n : Nat) (L M N : Int) (hL : L = (l : Int)) (hM : M = (m : Int)) (hN : N = (n : Int)) (hl : 1 ≤ l ∧ l ≤ 31) (hm : 1 ≤ m ∧ m ≤ 31) (hn : 1 ≤ n ∧ n ≤ 31) (w : World) :
    Calls Tryz.prog 109 #[wv x, .int .i64 L, .int .i64 M, .int .i64 N] w fun y w' => y = .returned (wv (spreadW x l m n)) ∧ ∃ k, w' = w.drewN k := by
  have HL := Lib.hid hL
  have HM := Lib.hid hM
  have HN := Lib.hid hN
  clear hL hM hN
  go_enter Tryz.func109, Tryz.ntmps109
  go_wp2_with fail
  refine (turned_any x l L HL.out hl.1 hl.2 _).mono ?_
  rintro e w1 ⟨rfl, k1, rfl⟩
  go_wp2_with fail
  refine (turned_any x m M HM.out hm.1 hm.2 _).mono ?_
  rintro e w1 ⟨rfl, k2, rfl⟩
  go_wp2_with fail
  refine (turned_any x n N HN.out hn.1 hn.2 _).mono ?_
  rintro e w1 ⟨rfl, k3, rfl⟩
  go_wp2
  go_ret
  refine ⟨ret_word ?_, k1 + k2 + k3, rfl⟩
  rw [w_xor, w_xor]
  rfl
theorem blended_any (x : UInt32) (l m n : Nat) (L M N : Int) (hL : L = (l : Int)) (hM : M = (m : Int)) (hN : N = (n : Int)) (hl : 1 ≤ l ∧ l ≤ 31) (hm : 1 ≤ m ∧ m ≤ 31) (hn : 1 ≤ n ∧ n ≤ 31) (w : World) :
    Calls Tryz.prog 112 #[wv x, .int .i64 L, .int .i64 M, .int .i64 N] w fun y w' => y = .returned (wv (blendW x l m n)) ∧ ∃ k, w' = w.drewN k := by
  have HL := Lib.hid hL
  have HM := Lib.hid hM
  subst hN
  have C1 := Lib.hid (fun k => Calls.quiet_of (n := k) (turned_any x l L hL hl.1 hl.2 (w.drewN k)))
  have C2 := Lib.hid (fun k => Calls.quiet_of (n := k) (turned_any x m M hM hm.1 hm.2 (w.drewN k)))
  clear hL hM
  have hn0 : (0 : Int) ≤ (n : Int) := Int.natCast_nonneg _
  have hn1 : (n : Int) ≤ 31 := by omega
  go_enter Tryz.func112, Tryz.ntmps112
  go_wp2
  go_quiet ((first | (go_at_call 113; with_reducible exact C1.out _) | (go_at_call 113; with_reducible exact C2.out _)))
  go_wp2
  go_ret
  refine ⟨ret_word ?_, nq, rfl⟩
  rw [show (2 : Int) ^ n = ((2 ^ n : Nat) : Int) by simp, show (x.toNat : Int) / ((2 ^ n : Nat) : Int) = ((shrW x n).toNat : Int) by rw [shrW_nat]; norm_cast, w_xor, w_xor]
  rfl
end Go.Proofs.YtcofkhmgmemkmaaGreatDoor.S3
namespace Go.Proofs.YtcofkhmgmemkmaaGreatDoor.S3
set_option maxRecDepth 100000
open Go.RowKit Go.WideShapes Go.ChangeShapes

/-- ONLY BLOCKS OF S MAY HAVE TURNED, of those that were there. -/
structure Mv (S : Nat → Prop) (w w' : World) : Prop where
  os : w'.os = w.os
  tape : w'.tape = w.tape
  output : w'.output = w.output
  size : w.heap.size ≤ w'.heap.size
  block : ∀ k, k < w.heap.size → ¬ S k → w'.heap[k]? = w.heap[k]?

section
variable {S S' : Nat → Prop} {a w w' w'' : World}
theorem Mv.refl (S : Nat → Prop) (w : World) : Mv S w w := ⟨rfl, rfl, rfl, Nat.le_refl _, fun _ _ _ => rfl⟩
/-- What the second step may turn is of S, or new. -/
theorem Mv.then (h : Mv S w w') (k : Mv S' w' w'') (hs : ∀ b, S' b → S b ∨ w.heap.size ≤ b) : Mv S w w'' :=
  ⟨k.os.trans h.os, k.tape.trans h.tape, k.output.trans h.output, Nat.le_trans h.size k.size, fun i hi hn =>
    (k.block i (Nat.lt_of_lt_of_le hi h.size) (fun h' => by rcases hs i h' with x | x; exact hn x; omega)).trans (h.block i hi hn)⟩
theorem Mv.trans (h : Mv S w w') (k : Mv S w' w'') : Mv S w w'' := h.then k fun _ x => .inl x
theorem Mv.mono (h : Mv S w w') (hs : ∀ b, S b → S' b ∨ w.heap.size ≤ b) : Mv S' w w' := (Mv.refl S' w).then h hs
theorem Mv.of_below (h : Below w.heap.size w w') (S : Nat → Prop) : Mv S w w' := ⟨h.os, h.tape, h.output, h.size, fun i hi _ => h.block i hi⟩
theorem Mv.of_grown {r : Option Nat} (h : w.grownBy w' r) (hr : ∀ g, r = some g → S g ∨ w.heap.size ≤ g) : Mv S w w' :=
  ⟨h.os, h.tape, h.output, h.size, fun i hi hn => h.block i hi (fun e => by rcases hr i e.symm with x | x; exact hn x; omega)⟩
theorem Mv.drewN (h : Mv S a w) (n : Nat) : Mv S a (w.drewN n) := ⟨h.os, h.tape, h.output, h.size, h.block⟩
theorem Mv.drew (h : Mv S a w) : Mv S a w.drew := ⟨h.os, h.tape, h.output, h.size, h.block⟩
theorem Mv.alloc (h : Mv S a w) (o : Obj) : Mv S a (w.alloc o) :=
  ⟨h.os, h.tape, h.output, Nat.le_trans h.size (by simp), fun i hi hn => (Below.heap_alloc w o i (Nat.lt_of_lt_of_le hi h.size)).trans (h.block i hi hn)⟩
theorem Mv.set_ (h : Mv S a w) {p : Addr} (hp : S p.block ∨ a.heap.size ≤ p.block) (u : Value) : Mv S a (w.setCell p u) :=
  ⟨h.os, h.tape, h.output, by simpa [World.setCell] using h.size, fun i hi hn => (Below.heap_setCell w p u i (by
    rintro rfl
    rcases hp with hp | hp
    · exact hn hp
    · omega)).trans (h.block i hi hn)⟩
theorem setCells_os (b : Nat) : ∀ (vs : List Value) (o : Nat) (w : World), (w.setCells b o vs).os = w.os ∧ (w.setCells b o vs).tape = w.tape ∧ (w.setCells b o vs).output = w.output ∧ (w.setCells b o vs).heap.size = w.heap.size ∧ ∀ k, k ≠ b → (w.setCells b o vs).heap[k]? = w.heap[k]?
  | [], _, _ => ⟨rfl, rfl, rfl, rfl, fun _ _ => rfl⟩
  | v :: r, o, w => by
    obtain ⟨h1, h2, h3, h4, h5⟩ := setCells_os b r (o + 1) (w.setCell ⟨b, o, none⟩ v)
    refine ⟨h1, h2, h3, ?_, fun k hk => ?_⟩
    · exact h4.trans (by simp [World.setCell])
    · exact (h5 k hk).trans (Below.heap_setCell w _ v k hk)
theorem Mv.setCells (h : Mv S a w) {b : Nat} (hp : S b ∨ a.heap.size ≤ b) (o : Nat) (vs : List Value) : Mv S a (w.setCells b o vs) := by
  obtain ⟨h1, h2, h3, h4, h5⟩ := setCells_os b vs o w
  refine ⟨h1.trans h.os, h2.trans h.tape, h3.trans h.output, by rw [h4]; exact h.size, fun i hi hn => (h5 i ?_).trans (h.block i hi hn)⟩
  rintro rfl
  rcases hp with hp | hp
  · exact hn hp
  · omega
theorem Mv.below (h : Mv S w w') {B : Nat} (hs : ∀ b, S b → B ≤ b) (hB : B ≤ w.heap.size) : Below B w w' :=
  ⟨h.os, h.tape, h.output, h.size, fun i hi => h.block i (by omega) (fun x => by have := hs i x; omega)⟩
theorem Mv.cell (h : Mv S w w') {p : Addr} {v : Value} (hc : w.cell? p = some v) (hn : ¬ S p.block) : w'.cell? p = some v :=
  (World.cell?_of_block (h.block p.block (World.block_lt_of_cell? w p hc) hn)).trans hc
end

/-- A slice of one-cell elements is as it was, if no block of it may have turned. -/
structure Off (S : Nat → Prop) (A : Option Addr) : Prop where
  off : ∀ x, A = some x → ¬ S x.block

section
variable {w w' : World} {b n : Nat} {t : TypeId} {f g : Nat → Value}
theorem rowIs_setCells (b : Nat) (t : TypeId) (n : Nat) : ∀ (vs : List Value) (o : Nat) (w : World) (f : Nat → Value), w.rowIs b t n f → (w.setCells b o vs).rowIs b t n (fun j => if o ≤ j ∧ j < o + vs.length then vs.getD (j - o) undef else f j)
  | [], o, w, f, h => h.congr fun j _ => by rw [if_neg (by simp only [List.length_nil]; omega)]
  | v :: r, o, w, f, h => by
    have := rowIs_setCells b t n r (o + 1) (w.setCell ⟨b, o, none⟩ v) _ (h.set o v)
    refine this.congr fun j _ => ?_
    simp only [List.length_cons]
    by_cases hj : j = o
    · subst hj
      rw [if_neg (by omega), if_pos rfl, if_pos (by omega), Nat.sub_self]
      rfl
    · rw [if_neg hj]
      by_cases h1 : o + 1 ≤ j ∧ j < o + 1 + r.length
      · rw [if_pos h1, if_pos (by omega), show j - o = (j - (o + 1)) + 1 by omega]
        rfl
      · rw [if_neg h1, if_neg (by omega)]
theorem rowIs_range (h : w.rowIs b t n f) (o : Nat) (cs : List Value) (hf : ∀ j v, cs[j]? = some v → o + j < n ∧ f (o + j) = v) : w.rangeAt b o cs := fun j v hv => by
  obtain ⟨h1, h2⟩ := hf j v hv
  rw [h.cell h1, h2]
theorem rowIs_there (h : w.rowIs b t n f) (o m : Nat) (hm : o + m ≤ n) : w.there b o m := fun j hj => ⟨by rw [h.cell (by omega)]; rfl, h.frozen _⟩
theorem rowIs_drewN (h : w.rowIs b t n f) (k : Nat) : (w.drewN k).rowIs b t n f := h
end

theorem rangeAt_keep {w w' : World} {b o : Nat} {cs : List Value} (h : w.rangeAt b o cs) (hk : w'.heap[b]? = w.heap[b]?) : w'.rangeAt b o cs := fun j v hv => (World.cell?_of_block (a := ⟨b, o + j, none⟩) hk).trans (h j v hv)
theorem rangeAt_app {w : World} {b o : Nat} {xs ys : List Value} : w.rangeAt b o (xs ++ ys) ↔ w.rangeAt b o xs ∧ w.rangeAt b (o + xs.length) ys := by
  constructor
  · intro h
    refine ⟨fun j v hv => h j v (by rw [List.getElem?_append_left (List.getElem?_eq_some_iff.1 hv).1]; exact hv), fun j v hv => ?_⟩
    have := h (xs.length + j) v (by rw [List.getElem?_append_right (by omega)]; simpa using hv)
    rw [← this]; congr 2; omega
  · intro ⟨h1, h2⟩ j v hv
    by_cases hj : j < xs.length
    · rw [List.getElem?_append_left hj] at hv; exact h1 j v hv
    · rw [List.getElem?_append_right (by omega)] at hv
      have := h2 _ v hv
      rw [← this]; congr 2; omega

/-- Blocks of 64 bytes, one behind the other, as cells. -/
def fl (l : List (List UInt8)) : List Value := l.flatMap bvs
theorem fl_len {l : List (List UInt8)} (h : ∀ x ∈ l, x.length = 64) : (fl l).length = l.length * 64 := by
  induction l with
  | nil => rfl
  | cons x r ih =>
    have h1 := h x (by simp)
    have h2 := ih fun y hy => h y (by simp [hy])
    simp only [fl, List.flatMap_cons, List.length_append, bvs_len, h1, List.length_cons] at h2 ⊢
    omega
theorem fl_app (a b : List (List UInt8)) : fl (a ++ b) = fl a ++ fl b := by simp [fl]
theorem fl_one (a : List UInt8) : fl [a] = bvs a := by simp [fl]
theorem fl_cons (a : List UInt8) (r : List (List UInt8)) : fl (a :: r) = bvs a ++ fl r := by simp [fl]
theorem fl_oneCell (l : List (List UInt8)) : ∀ v ∈ fl l, v.oneCell' = true := by
  intro v hv
  simp only [fl, List.mem_flatMap] at hv
  obtain ⟨x, _, hx⟩ := hv
  exact bvs_one x v hx

/-- A region that draws: its first n operations are still, the rest in one forced order; the world behind the draw by its name. -/
theorem wp_region_tail {P : Program} {id : Nat} {Q : Exit → Act → World → Prop} {a : Act} {w : World} {l : List Oper} (n : Nat) (hm : P.follows .mixedOrders = true) (hB : Region.lexTailB .any l.toArray n = true)
    (h : wpStill P l.toArray w.drew (fun a' => wpList P l.toArray Q (l.drop n) a' w.drew) (l.take n) a) : (Code.region id l.toArray true).wp P Q a w := wp_region_still_tail n hm hB h
/-- A new variable of a type whose zero value is known under a name. -/
theorem wpList_alloc_as {P : Program} {w : World} {ops : Array Oper} {rest : List Oper} {o : Oper} {a : Act} {Q : Exit → Act → World → Prop} (hgd : o.guard = none) (e : TypeId) (ho : o.op = .alloc e)
    (zs : Array Value) (hz : ∀ w : World, (zeroValue e).run P w = .ok (.agg zs) w)
    (h : wpList P ops Q rest (a.put o.dst (.pointer (some ⟨w.heap.size, 0, none⟩))) (w.alloc (.cells zs e))) : wpList P ops Q (o :: rest) a w := by
  refine wpList_plain hgd fun _ hK => ?_
  unfold Oper.wp execOp
  simp only [ho, Instr.alloc, Sem.run_bind, hz, Result.andThen_ok, newVar, newRow, newObj, Sem.run_pure, Value.cells]
  exact hK _ _ h
/-- A result variable that lies in memory, its cells known. -/
theorem results_cell_mid {P : Program} {fn : Func} {p : Tmp} {ty : TypeId} (h : fn.results = #[.cell p ty]) (tmps : Array Value) (w : World) (b o : Nat) (cs : List Value) (d : TypeDesc)
    (hp : tmps.getD p undef = .pointer (some ⟨b, o, none⟩)) (hc : w.rangeAt b o cs)
    (hu : P.underlying ty = some d) (hd : d.isRow = true) (hi : (P.info? ty).map (·.size) = some cs.length) :
    (results fn tmps).run P w = .ok (.agg cs.toArray) w := by
  have hp' : tmps[p]?.getD undef = .pointer (some ⟨b, o, none⟩) := by simpa using hp
  simp [results, h, hp', asAddr, run_loadVar_mid w b o ty cs d hc hu hd hi]
end Go.Proofs.YtcofkhmgmemkmaaGreatDoor.S3
