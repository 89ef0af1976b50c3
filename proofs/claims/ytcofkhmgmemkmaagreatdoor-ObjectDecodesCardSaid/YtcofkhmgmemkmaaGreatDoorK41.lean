/-
  THE LAWS' FIRST CALLS: wakes, own.
  THE ORDER OF DIGESTS, AND OF THEIR TEXTS (pure).
  WHAT THE FOLD'S LAW CALLS: own, HasPrefix, HasSuffix; parts of a row.
  THE DOCUMENT'S ROUNDS OF A BLOCK, BEGUN: a word turned, the constants, a number of bytes.
  THE DOCUMENT'S BLOCK, DRAWN OUT.
  THE DOCUMENT'S ROUNDS OF A BLOCK.
  The document's own answers (confluenceref01): High, Both.
  THE DOCUMENT'S DIGEST OF BYTES.
-/
import Derived.Test.YtcofkhmgmemkmaaGreatDoorK40
import Derived.Test.YtcofkhmgmemkmaaGreatDoorK06
import Derived.Lib.SlBytesConst
import Derived.Deep.RegionHeld3
import Derived.Test.YtcofkhmgmemkmaaGreatDoorK02
import Derived.Test.YtcofkhmgmemkmaaGreatDoorK01
import Derived.Deep.RegionLaw
import Derived.Lib.SmallJoins
import Derived.Deep.RegionWith
import Derived.Deep.DeepCutAuto
namespace Go.Proofs.YtcofkhmgmemkmaaGreatDoor.S3
set_option maxRecDepth 100000
set_option linter.unusedVariables false
set_option linter.unusedSimpArgs false
open Go.RowKit Go.WideShapes Go.ChangeShapes

def abcW : List UInt8 := [186, 120, 22, 191, 143, 1, 207, 234, 65, 65, 64, 222, 93, 174, 34, 35, 176, 3, 97, 163, 150, 23, 122, 156, 180, 16, 255, 97, 242, 0, 21, 173]
theorem abc_len : abcW.length = 32 := rfl
set_option maxRecDepth 100000 in
theorem abc_sum : sumW [97, 98, 99] = abcW := by decide +kernel
abbrev abcT : ByteArray := ⟨#[98, 97, 55, 56, 49, 54, 98, 102, 56, 102, 48, 49, 99, 102, 101, 97, 52, 49, 52, 49, 52, 48, 100, 101, 53, 100, 97, 101, 50, 50, 50, 51, 98, 48, 48, 51, 54, 49, 97, 51, 57, 54, 49, 55, 55, 97, 57, 99, 98, 52, 49, 48, 102, 102, 54, 49, 102, 50, 48, 48, 49, 53, 97, 100]⟩
theorem abc_parse : parseW abcT.data.toList = abcW := by decide +kernel
theorem abc_err : parseE abcT.data.toList = 0 := by decide +kernel
theorem ab_err : parseE (⟨#[97, 98]⟩ : ByteArray).data.toList = 130 := by decide +kernel
theorem abc_less : lessB Zi abcW = true := by decide +kernel
theorem abc_not : lessB abcW abcW = false := by decide +kernel

theorem wpList_want {P : Program} {w : World} {ops : Array Oper} {rest : List Oper} {o : Oper} {a : Act} {Q : Exit → Act → World → Prop} (hw : Region.wanted o (yielded ops a.tmps) = true) (h : o.wp P a w (wpList P ops Q rest) Q) : wpList P ops Q (o :: rest) a w := by
  unfold wpList
  rw [if_pos hw]
  exact .inl h
/-- The digest of noughts, written as a literal. -/
theorem bz_id {w : World} {ops : Array Oper} {rest : List Oper} {o : Oper} {a : Act} {Q : Exit → Act → World → Prop} (hw : Region.wanted o (yielded ops a.tmps) = true) (ho : o.op = .build 27 #[])
    (h : wpList Tryz.prog ops Q rest (a.put o.dst (.agg (bvs Zi).toArray)) w) : wpList Tryz.prog ops Q (o :: rest) a w := by
  have hb : (Instr.build 27 #[]).run Tryz.prog w = .ok (.agg (bvs Zi).toArray) w := by kernel_rfl
  refine wpList_want hw ?_
  unfold Oper.wp execOp
  simp only [ho, List.map_toArray, List.map_nil, Sem.run_bind, hb, Result.andThen_ok, Sem.run_pure]
  exact h
theorem ldw_id {ops : Array Oper} {rest : List Oper} {op : Oper} {a : Act} {w : World} {Q : Exit → Act → World → Prop} (hw : Region.wanted op (yielded ops a.tmps) = true) (x : Operand) (ho : op.op = .load 27 x)
    (b o : Nat) (l : List UInt8) (hl : Hid (l.length = 32)) (hx : a.eval x = .pointer (some ⟨b, o, none⟩)) (hc : w.rangeAt b o (bvs l))
    (h : wpList Tryz.prog ops Q rest (a.put op.dst (.agg (bvs l).toArray)) w) : wpList Tryz.prog ops Q (op :: rest) a w :=
  wpList_want hw (wp_load_mid _ x ho b o hx (bvs l) _ hc Tryz.underlying27 rfl (by rw [bvs_len, hl.out]; exact size_id) h)
theorem Lies.slb {W : World} {b n : Nat} {l : List UInt8} (h : Lies W b n (bvs l)) (hl : l.length = n) (hn : n ≤ 1000000) : SlB W W.heap.size (some ⟨b, 0, none⟩) n n l :=
  ⟨hl, Nat.le_refl _, by unfold maxLen; omega, fun e => (by cases e), fun _ => ⟨b, 0, rfl, h.lt, fun j hj => by
    rw [Nat.zero_add]
    exact h.cell (by simp [bvs, List.getElem?_eq_getElem hj])⟩⟩
end Go.Proofs.YtcofkhmgmemkmaaGreatDoor.S3
namespace Go.Proofs.YtcofkhmgmemkmaaGreatDoor.S3
set_option maxRecDepth 100000
set_option linter.unusedVariables false
set_option linter.unusedSimpArgs false
open Go.RowKit Go.WideShapes Go.ChangeShapes

theorem num_split (l : List UInt8) (k : Nat) : num l = num (l.take k) * 256 ^ (l.drop k).length + num (l.drop k) := by
  induction k generalizing l with
  | zero => simp [num]
  | succ k ih =>
    cases l with
    | nil => simp [num]
    | cons x r =>
      rw [List.take_succ_cons, List.drop_succ_cons, num_cons, num_cons, ih r, Nat.add_mul, Nat.mul_assoc, ← Nat.pow_add]
      have : r.length = (r.take k).length + (r.drop k).length := by rw [← List.length_append, List.take_append_drop]
      rw [this]
      have h2 : num (List.take k r ++ List.drop k r) = num r := by rw [List.take_append_drop]
      omega
theorem num_inj : ∀ (a b : List UInt8), a.length = b.length → num a = num b → a = b
  | [], [], _, _ => rfl
  | [], _ :: _, h, _ => by simp at h
  | _ :: _, [], h, _ => by simp at h
  | x :: a, y :: b, h, hn => by
    have hl : a.length = b.length := by simpa using h
    have h1 := num_lt a
    have h2 := num_lt b
    rw [num_cons, num_cons, hl] at hn
    rw [hl] at h1
    have hxy : x.toNat = y.toNat := by
      rcases Nat.lt_trichotomy x.toNat y.toNat with h | h | h
      · have h4 : (x.toNat + 1) * 256 ^ b.length ≤ y.toNat * 256 ^ b.length := Nat.mul_le_mul_right _ h
        rw [Nat.add_mul, Nat.one_mul] at h4
        omega
      · exact h
      · have h4 : (y.toNat + 1) * 256 ^ b.length ≤ x.toNat * 256 ^ b.length := Nat.mul_le_mul_right _ h
        rw [Nat.add_mul, Nat.one_mul] at h4
        omega
    rw [hxy] at hn
    rw [UInt8.toNat_inj.1 hxy, num_inj a b hl (by omega)]
theorem sgn_neg (x y : Nat) : decide (sgn x y < 0) = decide (x < y) := by
  unfold sgn
  split
  · simp [*]
  · split
    · simp [*]
    · simp [*]
theorem lessB_num (a b : List UInt8) (ha : a.length = 32) (hb : b.length = 32) : lessB a b = decide (num a < num b) := by
  have ta : (a.take 16).length = 16 := by rw [List.length_take, ha]; rfl
  have tb : (b.take 16).length = 16 := by rw [List.length_take, hb]; rfl
  have da : (a.drop 16).length = 16 := by rw [List.length_drop, ha]
  have db : (b.drop 16).length = 16 := by rw [List.length_drop, hb]
  unfold lessB
  rw [compare_num _ _ (da.trans db.symm), compare_num _ _ (ta.trans tb.symm), sgn_neg, sgn_neg, num_split a 16, num_split b 16, da, db]
  have h1 := num_lt (a.drop 16)
  have h2 := num_lt (b.drop 16)
  rw [da] at h1
  rw [db] at h2
  generalize num (a.drop 16) = x at *
  generalize num (b.drop 16) = y at *
  split
  · rename_i he
    rw [he]
    congr 1
    simp
  · rename_i he
    have hne : num (a.take 16) ≠ num (b.take 16) := fun h => he (num_inj _ _ (ta.trans tb.symm) h)
    generalize num (a.take 16) = p at *
    generalize num (b.take 16) = q at *
    generalize 256 ^ 16 = m at *
    rcases Nat.lt_trichotomy p q with h | h | h
    · have h4 : (p + 1) * m ≤ q * m := Nat.mul_le_mul_right _ h
      rw [Nat.add_mul, Nat.one_mul] at h4
      rw [decide_eq_true h, decide_eq_true (by omega)]
    · exact absurd h hne
    · have h4 : (q + 1) * m ≤ p * m := Nat.mul_le_mul_right _ h
      rw [Nat.add_mul, Nat.one_mul] at h4
      rw [decide_eq_false (by omega), decide_eq_false (by omega)]
theorem bytesLess_num : ∀ (a b : List UInt8), a.length = b.length → Op.bytesLess a b = decide (num a < num b)
  | [], [], _ => by simp [Op.bytesLess]
  | [], _ :: _, h => by simp at h
  | _ :: _, [], h => by simp at h
  | x :: a, y :: b, h => by
    have hl : a.length = b.length := by simpa using h
    have ih := bytesLess_num a b hl
    have h1 := num_lt a
    have h2 := num_lt b
    rw [num_cons, num_cons, hl, Op.bytesLess, ih]
    rw [hl] at h1
    rcases Nat.lt_trichotomy x.toNat y.toNat with h | h | h
    · have h4 : (x.toNat + 1) * 256 ^ b.length ≤ y.toNat * 256 ^ b.length := Nat.mul_le_mul_right _ h
      rw [Nat.add_mul, Nat.one_mul] at h4
      rw [decide_eq_true (UInt8.lt_iff_toNat_lt.2 h), Bool.true_or, eq_comm, decide_eq_true (by omega)]
    · have hxy := UInt8.toNat_inj.1 h
      subst hxy
      rw [decide_eq_false (by rw [UInt8.lt_iff_toNat_lt]; omega), Bool.false_or, beq_self_eq_true, Bool.true_and]
      congr 1
      simp
    · have h4 : (y.toNat + 1) * 256 ^ b.length ≤ x.toNat * 256 ^ b.length := Nat.mul_le_mul_right _ h
      rw [Nat.add_mul, Nat.one_mul] at h4
      have hne : (x == y) = false := by rw [beq_eq_false_iff_ne]; intro e; rw [e] at h; omega
      rw [decide_eq_false (by rw [UInt8.lt_iff_toNat_lt]; omega), hne, Bool.false_and, Bool.false_or, eq_comm, decide_eq_false (by omega)]
theorem sgn16_lt (i j : Nat) (hi : i < 16) (hj : j < 16) : decide (sgn16 i < sgn16 j) = decide (i < j) := by
  have : ∀ i j : Fin 16, decide (sgn16 i.val < sgn16 j.val) = decide (i.val < j.val) := by decide +kernel
  exact this ⟨i, hi⟩ ⟨j, hj⟩
theorem sgn16_eq (i j : Nat) (hi : i < 16) (hj : j < 16) : (sgn16 i == sgn16 j) = (i == j) := by
  have : ∀ i j : Fin 16, (sgn16 i.val == sgn16 j.val) = (i.val == j.val) := by decide +kernel
  exact this ⟨i, hi⟩ ⟨j, hj⟩
theorem byte_less (x y : UInt8) (r : Bool) : (decide (x.toNat / 16 < y.toNat / 16) || (x.toNat / 16 == y.toNat / 16 && (decide (x.toNat % 16 < y.toNat % 16) || (x.toNat % 16 == y.toNat % 16 && r)))) = (decide (x < y) || (x == y && r)) := by
  have e : (x == y) = (x.toNat == y.toNat) := by
    rw [Bool.eq_iff_iff]
    simp [UInt8.toNat_inj]
  rw [e, show decide (x < y) = decide (x.toNat < y.toNat) from by rw [Bool.eq_iff_iff]; simp [UInt8.lt_iff_toNat_lt]]
  rw [Bool.eq_iff_iff]
  simp only [Bool.or_eq_true, Bool.and_eq_true, decide_eq_true_eq, beq_iff_eq]
  cases r
  · simp only [Bool.false_eq_true, and_false, or_false]
    omega
  · simp only [and_true]
    omega
theorem text_less : ∀ (a b : List UInt8), a.length = b.length → Op.bytesLess (textW a) (textW b) = Op.bytesLess a b
  | [], [], _ => rfl
  | [], _ :: _, h => by simp at h
  | _ :: _, [], h => by simp at h
  | x :: a, y :: b, h => by
    have ih := text_less a b (by simpa using h)
    have e1 : textW (x :: a) = sgn16 (x.toNat / 16) :: sgn16 (x.toNat % 16) :: textW a := by simp [textW]
    have e2 : textW (y :: b) = sgn16 (y.toNat / 16) :: sgn16 (y.toNat % 16) :: textW b := by simp [textW]
    have b1 := x.toNat_lt
    have b2 := y.toNat_lt
    rw [e1, e2]
    simp only [Op.bytesLess, ih]
    rw [sgn16_lt _ _ (by omega) (by omega), sgn16_lt _ _ (by omega) (by omega), sgn16_eq _ _ (by omega) (by omega), sgn16_eq _ _ (by omega) (by omega), byte_less]
/-- The texts' order is the digests'. -/
theorem text_order (a b : List UInt8) (ha : a.length = 32) (hb : b.length = 32) : Op.bytesLess (textW a) (textW b) = lessB a b := by
  rw [text_less a b (ha.trans hb.symm), bytesLess_num a b (ha.trans hb.symm), lessB_num a b ha hb]
theorem neq_num (a b : List UInt8) (ha : a.length = 32) (hb : b.length = 32) : (a == b) = decide (num a = num b) := by
  rw [Bool.eq_iff_iff]
  simp only [beq_iff_eq, decide_eq_true_eq]
  exact ⟨fun h => by rw [h], num_inj a b (ha.trans hb.symm)⟩
/-- No two are less than one another; of two unlike ones one is; what is less than a lesser one is less. -/
theorem less_laws (a b c : List UInt8) (ha : a.length = 32) (hb : b.length = 32) (hc : c.length = 32) :
    ((lessB a b && lessB b a) || ((lessB a b || lessB b a) != !(a == b)) || (lessB a b && lessB b c && !lessB a c)) = false := by
  rw [lessB_num a b ha hb, lessB_num b a hb ha, lessB_num b c hb hc, lessB_num a c ha hc, neq_num a b ha hb]
  generalize num a = p
  generalize num b = q
  generalize num c = r
  by_cases h1 : p < q <;> by_cases h2 : q < p <;> by_cases h3 : q < r <;> by_cases h4 : p < r <;> by_cases h5 : p = q <;> simp [h1, h2, h3, h4, h5] <;> omega
end Go.Proofs.YtcofkhmgmemkmaaGreatDoor.S3
namespace Go.Proofs.YtcofkhmgmemkmaaGreatDoor.S3
set_option maxRecDepth 100000
set_option linter.unusedVariables false
set_option linter.unusedSimpArgs false
open Go.RowKit Go.WideShapes Go.ChangeShapes

/-- THE SLICE '.slice A n c' IS THE CALL's OWN, from block 'base' on, and reads as l. -/
def Ow (w : World) (base : Nat) (A : Option Addr) (n c : Nat) (l : List UInt8) : Prop := w.ownsRow base 5 1 (.slice A n c) n (bvs l)
theorem Ow.sl {w : World} {base n c B : Nat} {A : Option Addr} {l : List UInt8} (h : Ow w base A n c l) (hB : w.heap.size ≤ B) : SlB w B A n c l := by
  obtain ⟨h1, h2⟩ := h
  rw [bvs_len, Nat.mul_one] at h1
  rcases h2 with ⟨h2, h3⟩ | ⟨g, cap, cur, hv, hb, hh, hn, hc, hs, ht⟩
  · injection h2 with e1 e2 e3
    subst e1 e2 e3
    exact ⟨h1, Nat.le_refl _, Nat.zero_le _, fun _ => rfl, fun h => absurd h (by omega)⟩
  · injection hv with e1 e2 e3
    subst e1 e3
    refine ⟨h1, hn, hc, fun e => (by cases e), fun h0 => ⟨g, 0, rfl, by have := (Array.getElem?_eq_some_iff.1 hh).1; omega, fun j hj => ?_⟩⟩
    rw [Nat.zero_add, cell_of_row w g j cur _ (0, 0) hh]
    have h4 : (bvs l)[j]? = some (bv l[j]) := by simp [bvs, List.getElem?_eq_getElem hj]
    rw [← ht, List.getElem?_take] at h4
    split at h4
    · simpa using h4
    · cases h4
theorem Ow.len {w : World} {base n c : Nat} {A : Option Addr} {l : List UInt8} (h : Ow w base A n c l) : l.length = n := by
  have h1 := h.1
  rwa [bvs_len, Nat.mul_one] at h1
theorem Ow.below {w w' : World} {base n c B : Nat} {A : Option Addr} {l : List UInt8} (h : Ow w base A n c l) (hb : Below B w w') (hB : w.heap.size ≤ B) : Ow w' base A n c l :=
  h.kept (w' := w') (row := none) ⟨hb.os, hb.tape, hb.output, hb.size, fun k hk _ => hb.block k (by omega)⟩ (by cases hv : Value.ownBlock (.slice A n c) <;> simp)

theorem Lies.part {W : World} {g N : Nat} {L : List UInt8} (h : Lies W g N (bvs L)) (hL : L.length = N) (k m c : Nat) (hk : k + m ≤ N) (hm : m ≤ c) (hc : c ≤ 1000000) : SlB W W.heap.size (some ⟨g, k, none⟩) m c ((L.drop k).take m) :=
  ⟨by rw [List.length_take, List.length_drop]; omega, hm, by unfold maxLen; omega, fun e => (by cases e), fun _ => ⟨g, k, rfl, h.lt, fun j hj => by
    rw [List.length_take, List.length_drop] at hj
    exact h.cell (by simp [bvs, List.getElem?_eq_getElem (show k + j < L.length by omega)])⟩⟩

end Go.Proofs.YtcofkhmgmemkmaaGreatDoor.S3
namespace Go.Proofs.YtcofkhmgmemkmaaGreatDoor.S3
set_option maxRecDepth 100000
set_option linter.unusedVariables false
set_option linter.unusedSimpArgs false
open Go.RowKit Go.WideShapes Go.ChangeShapes

def w64 (n : Nat) : Nat := n % 18446744073709551616
theorem num_drop (l : List UInt8) (i : Nat) (h : i < l.length) : num (l.drop i) = l[i].toNat * 256 ^ (l.length - (i + 1)) + num (l.drop (i + 1)) := by
  rw [List.drop_eq_getElem_cons h, num_cons, List.length_drop]
theorem wrap_w64 (n : Nat) : IntKind.u64.wrap (n : Int) = ((w64 n : Nat) : Int) := by rw [IntKind.wrap_u64]; unfold w64; omega
theorem step_num (x wt b X W : Nat) (hx : x = w64 X) (hw : wt = w64 W) : w64 (x + w64 (wt * b)) = w64 (b * W + X) := by
  subst hx hw
  unfold w64
  rw [Nat.mul_comm b W]
  simp [Nat.add_mod, Nat.mul_mod, Nat.add_comm]

theorem number_any {A : Option Addr} {n c : Nat} {l : List UInt8} {w : World} {B : Nat} (h : SlB w B A n c l) :
    Calls Tryz.prog 38 #[.slice A n c] w fun e w' => e = .returned (.int .u64 (w64 (num l) : Nat)) ∧ w = w' := by
  have hlen := Lib.hid h.len
  have hm := h.le
  unfold maxLen at hm
  go_enter Tryz.func38, Tryz.ntmps38
  go_wp2
  go_loop [3, 4, 5] (fun x wt i => ∃ q xv wv : Nat, q ≤ n ∧ i = .int .i64 q ∧ x = .int .u64 (xv : Nat) ∧ wt = .int .u64 (wv : Nat) ∧ Hid (xv = w64 (num (l.drop q))) ∧ Hid (wv = w64 (256 ^ (n - q)))) (fun _ _ i => (intOf i).toNat)
  case atStart => exact ⟨n, 0, 1, Nat.le_refl _, rfl, rfl, rfl, by rw [List.drop_of_length_le (by rw [hlen.out]; exact Nat.le_refl _)]; rfl, by rw [Nat.sub_self]; rfl⟩
  case round =>
    obtain ⟨q, xv, wv, hq, rfl, rfl, rfl, hx, hw⟩ := hrel
    by_cases h0 : q = 0
    · subst h0
      go_wp2
      go_ret
      refine ⟨?_, rfl⟩
      have := hx.out
      rw [List.drop_zero] at this
      rw [← this]
      rfl
    · obtain ⟨q, rfl⟩ : ∃ q', q = q' + 1 := ⟨q - 1, by omega⟩
      have hql : q < l.length := by rw [hlen.out]; omega
      obtain ⟨b, o, rfl, hbb, hc⟩ := h.pos (by omega)
      have hcq := hc q hql
      unfold bv at hcq
      clear hc h0
      have hby := l[q].toNat_lt
      have HN : Hid (w64 (xv + w64 (wv * l[q].toNat)) = w64 (num (l.drop q))) := by
        have : w64 (xv + w64 (wv * l[q].toNat)) = w64 (num (l.drop q)) := by
          rw [step_num _ _ _ _ _ hx.out hw.out, num_drop l q hql, hlen.out]
        exact this
      have HW : Hid (w64 (wv * 256) = w64 (256 ^ (n - q))) := by
        have : w64 (wv * 256) = w64 (256 ^ (n - q)) := by
          rw [hw.out, show n - q = (n - (q + 1)) + 1 by omega, Nat.pow_succ]
          unfold w64
          simp [Nat.mul_mod]
        exact this
      go_wp2
      go_round
      case rel =>
        refine ⟨q, w64 (xv + w64 (wv * l[q].toNat)), w64 (wv * 256), by omega, rfl, ?_, ?_, HN, HW⟩
        · rw [← Int.natCast_mul, wrap_w64, ← Int.natCast_add, wrap_w64]
        · rw [show ((wv : Int) * 256) = ((wv * 256 : Nat) : Int) by omega, wrap_w64]
      case measure => simp [intOf]

theorem key (a b : Int) (h : a = b) : Ending.returned (Value.int .u32 a) = .returned (.int .u32 b) := by rw [h]
theorem SlB.part2 {w : World} {B n c g o : Nat} {l : List UInt8} (h : SlB w B (some ⟨g, o, none⟩) n c l) {k m : Nat} (hk : k + m ≤ n) : SlB w B (some ⟨g, o + k, none⟩) m (c - k) ((l.drop k).take m) :=
  ⟨by rw [List.length_take, List.length_drop, h.len]; omega, by have := h.cap; omega, by have := h.max; omega, fun e => (by cases e), fun h0 => by
    obtain ⟨b, o', e, hb, hc⟩ := h.pos (by omega)
    cases e
    refine ⟨g, o + k, rfl, hb, fun j hj => ?_⟩
    rw [List.length_take, List.length_drop, h.len] at hj
    have := hc (k + j) (by rw [h.len]; omega)
    rw [Nat.add_assoc, this]
    simp⟩
theorem wdOf_num (b : List UInt8) (k : Nat) (h : 4 * k + 4 ≤ b.length) : w64 (num ((b.drop (4 * k)).take 4)) = (wdOf b k).toNat := by
  have hl : ((b.drop (4 * k)).take 4).length = 4 := by rw [List.length_take, List.length_drop]; omega
  have hn := num_lt ((b.drop (4 * k)).take 4)
  rw [hl] at hn
  unfold w64 wdOf
  rw [UInt32.toNat_ofNat']
  omega
end Go.Proofs.YtcofkhmgmemkmaaGreatDoor.S3
namespace Go.Proofs.YtcofkhmgmemkmaaGreatDoor.S3
set_option maxRecDepth 100000
set_option linter.unusedVariables false
set_option linter.unusedSimpArgs false
open Go.RowKit Go.WideShapes Go.ChangeShapes

theorem wrap32i (n : Int) : IntKind.u32.wrap n = n % 4294967296 := by
  simp [IntKind.wrap, IntKind.min, IntKind.max, IntKind.signed, IntKind.bits]
theorem wp_new2 {P : Program} {o : Oper} {a : Act} {w w' : World} {K : Act → World → Prop} {Q : Exit → Act → World → Prop} {v : Value} (hr : (execOp a.eval o).run P w = .ok (.value v) w') (h : K (a.put o.dst v) w') : o.wp P a w K Q := by
  unfold Oper.wp
  rw [hr]
  exact h
theorem info_u32 : (Tryz.prog.info? 32).map (fun i => (i.zero, i.size, i.bytes)) = some (some (.int .u32 0), 1, 4) := by kernel_rfl
theorem wvs_one : ∀ (l : List UInt32), ∀ u ∈ wvs l, u.oneCell' = true := fun l u hu => by
  simp only [wvs, List.mem_map] at hu
  obtain ⟨x, _, rfl⟩ := hu
  rfl
def outW (b : List UInt8) (k : Nat) : List UInt32 := if k ≤ 16 then w16 b k else drW b (k - 16)
theorem outW_len (b : List UInt8) (k : Nat) : (outW b k).length = k := by
  unfold outW
  split
  · exact w16_len b k
  · rw [drW_len]; omega
theorem outW_low (b : List UInt8) {k : Nat} (h : k < 16) : outW b (k + 1) = outW b k ++ [wdOf b k] := by
  unfold outW
  rw [if_pos (by omega), if_pos (by omega), w16_succ]
theorem outW_high (b : List UInt8) {k : Nat} (h : 16 ≤ k) : outW b (k + 1) = outW b k ++ [nxW (outW b k) k] := by
  unfold outW
  rw [if_neg (by omega)]
  obtain ⟨j, rfl⟩ : ∃ j, k = 16 + j := ⟨k - 16, by omega⟩
  rw [show 16 + j + 1 - 16 = j + 1 by omega]
  by_cases hj : j = 0
  · subst hj
    rw [if_pos (by omega)]
    rfl
  · rw [if_neg (by omega), show 16 + j - 16 = j by omega]
    rfl
theorem blend_eq (x : UInt32) (l m n D : Nat) (d : Int) (hD : D = 2 ^ n) (hd : d = (D : Int)) : bits .xor .u32 (bits .xor .u32 ((rotr x l).toNat : Int) ((rotr x m).toNat : Int)) ((x.toNat : Int) / d % 4294967296) = ((blendW x l m n).toNat : Int) := by
  have h : (x.toNat : Int) / d % 4294967296 = ((shrW x n).toNat : Int) := by
    have h2 := (shrW x n).toNat_lt
    have h3 := shrW_nat x n
    rw [hd, hD]
    omega
  rw [h, w_xor, w_xor]
  rfl

end Go.Proofs.YtcofkhmgmemkmaaGreatDoor.S3
namespace Go.Proofs.YtcofkhmgmemkmaaGreatDoor.S3
set_option maxRecDepth 100000
set_option linter.unusedVariables false
set_option linter.unusedSimpArgs false
open Go.RowKit Go.WideShapes Go.ChangeShapes

structure In (w wr : World) (b8 g' gk ok : Nat) (h t : W8) (ws : List UInt32) : Prop where
  l : Lies wr b8 8 (wvs t.list)
  hh : Lies wr w.heap.size 8 (wvs h.list)
  r : Lies wr (w.heap.size + 1) 8 Z8.toList
  ws : wr.rangeAt g' 0 (wvs ws)
  ks : wr.rangeAt gk ok (wvs ksW)
  bel : Below w.heap.size w wr
section
variable {w wr : World} {b8 g' gk ok : Nat} {h t t' : W8} {ws : List UInt32}
theorem In.drewN (H : In w wr b8 g' gk ok h t ws) (n : Nat) : In w (wr.drewN n) b8 g' gk ok h t ws :=
  ⟨H.l.drewN n, H.hh.drewN n, H.r.drewN n, H.ws, H.ks, below_drewN H.bel n⟩
theorem In.set_ (H : In w wr b8 g' gk ok h t ws) (h1 : w.heap.size + 1 < b8) (h2 : g' < b8) (h3 : gk < w.heap.size) : In w (wr.setCells b8 0 (wvs t'.list)) b8 g' gk ok h t' ws :=
  ⟨H.l.set_ rfl, H.hh.other (by omega) 0 _, H.r.other (by omega) 0 _, rangeAt_keep H.ws ((setCells_os b8 (wvs t'.list) 0 wr).2.2.2.2 g' (by omega)), rangeAt_keep H.ks ((setCells_os b8 (wvs t'.list) 0 wr).2.2.2.2 gk (by omega)), below_setCells H.bel (by omega) _ _⟩
end
theorem Lies.keep2 {W W' : World} {b k : Nat} {l : List Value} (h : Lies W b k l) (hk : W'.heap[b]? = W.heap[b]?) (hz : W.heap.size ≤ W'.heap.size) : Lies W' b k l :=
  ⟨rangeAt_keep h.rg hk, there_keep h.th hk, Nat.lt_of_lt_of_le h.lt hz, h.len⟩
theorem ws_at {w : World} {g : Nat} {ws : List UInt32} (h : w.rangeAt g 0 (wvs ws)) {n k : Nat} (hl : ws.length = n) (hk : k < n) : w.cell? ⟨g, 0 + k, none⟩ = some (wv (ws.getD k 0)) := by
  refine h k _ ?_
  rw [wvs_at _ (show k < ws.length by omega), List.getD_eq_getElem?_getD, List.getElem?_eq_getElem (show k < ws.length by omega)]
  rfl
theorem ks_at {w : World} {g o : Nat} (h : w.rangeAt g o (wvs ksW)) {k : Nat} (hk : k < 64) : w.cell? ⟨g, o + k, none⟩ = some (wv (ksW.getD k 0)) := by
  refine h k _ ?_
  rw [wvs_at _ (show k < ksW.length by rw [ksW_len]; exact hk), List.getD_eq_getElem?_getD, List.getElem?_eq_getElem (show k < ksW.length by rw [ksW_len]; exact hk)]
  rfl

end Go.Proofs.YtcofkhmgmemkmaaGreatDoor.S3
namespace Go.Proofs.YtcofkhmgmemkmaaGreatDoor.S3
set_option maxRecDepth 100000
set_option linter.unusedVariables false
open Go.RowKit Go.WideShapes Go.ChangeShapes

theorem one_sl (w : World) (b : Nat) (v : Int) (x : UInt8) (hv : v = (x.toNat : Int)) (hb : b = w.heap.size) : SlB (w.alloc (.cells #[.int .u8 v] 5)) (b + 1) (some ⟨b, 0, none⟩) 1 1 [x] := by
  subst hb hv
  exact Bl.sl (l := [x]) (Bl.new w 5 (bvs [x])) (Nat.lt_succ_self _) (by unfold maxLen; simp)
theorem be_mod : ∀ (k x : Nat), be k (x % 256 ^ k) = be k x
  | 0, _ => rfl
  | k + 1, x => by
    have h1 : x % 256 ^ (k + 1) / 256 = x / 256 % 256 ^ k := by rw [Nat.pow_succ', Nat.mod_mul_right_div_self]
    have h2 : UInt8.ofNat (x % 256 ^ (k + 1)) = UInt8.ofNat x := by
      apply UInt8.toNat_inj.1
      simp only [UInt8.toNat_ofNat']
      rw [Nat.pow_succ', Nat.mod_mul_right_mod]
    rw [be, be, h1, h2, be_mod k]

set_option maxRecDepth 100000 in
set_option maxHeartbeats 1600000 in
theorem high_any : ∀ (k : Nat) (x : Nat) (X : Int) (K : Int) (w : World), X = (x : Int) → x < 18446744073709551616 → K = (k : Int) → k ≤ 1000 →
    Calls Tryz.prog 42 #[.int .u64 X, .int .i64 K] w fun e w' =>
      ∃ A c, e = .returned (.slice A k c) ∧ Ow w' w.heap.size A k c (be k x) ∧ Below w.heap.size w w' := by
  intro k
  induction k with
  | zero =>
    intro x X K w hX hx hK hk
    subst hX hK
    go_enter Tryz.func42, Tryz.ntmps42
    go_wp2_with fail
    go_ret
    exact ⟨none, 0, rfl, World.ownsRow_nil _ _ _ _, Below.refl _ _⟩
  | succ k ih =>
    intro x X K w hX hx hK hk
    subst hX hK
    have IH := Lib.hid (ih (x / 256))
    clear ih
    obtain ⟨i0, hi0, hz0, hz1, hz2⟩ := info_parts info_u8
    have HX := Lib.hid hx
    clear hx
    go_enter Tryz.func42, Tryz.ntmps42
    go_wp2_with fail
    refine (IH.out _ _ _ (by have := HX.out; rw [IntKind.wrap_u64]; omega) (by have := HX.out; omega) (by omega) (by omega)).mono ?_
    rintro e w1 ⟨A1, c1, rfl, ho1, hb1⟩
    have ho2 := fun v => ho1.alloc (.cells #[.int .u8 v] 5)
    have HO := Lib.hid ho2
    have hsz := hb1.size
    clear ho2
    go_wp2_with (at_builtin; go_loud (refine wpList_append_sl rfl (.tmp 11) (.tmp 15) 24 rfl w.heap.size 5 i0 Tryz.underlying24 hi0 hz0 hz1 hz2 _ _ (be k (x / 256)) rfl (HO.out _) rfl (one_sl w1 w1.heap.size ((x : Int) % 256) (UInt8.ofNat x) (byte_of x).symm rfl) (by omega) (by simp; omega) ?_); intro v2 w2 ho2 hg2)
    go_ret
    obtain ⟨A2, c2, rfl⟩ := own_form ho2
    refine ⟨A2, c2, rfl, ho2, (hb1.alloc hsz _).grown hg2 (by simp; omega) (fun j hj => ?_)⟩
    have := ho1.lt j (by simpa [Act.eval] using hj)
    omega

/-- A row that the call owns, with bytes more: whatever guard stands before it. -/
theorem wpList_app_want {w : World} {ops : Array Oper} {rest : List Oper} {o : Oper} {a : Act} {Q : Exit → Act → World → Prop} (hw : Region.wanted o (yielded ops a.tmps) = true) (s x : Operand)
    (ho : o.op = .call { callee := .builtin .append, args := #[s, x], argTypes := #[24, 24] })
    (base : Nat) (v : Value) (n : Nat) (l0 : List UInt8) (hs : a.eval s = v) (hown : w.ownsRow base 5 1 v n (bvs l0))
    (ad : Addr) (m c : Nat) (l : List UInt8) (hx : a.eval x = .slice (some ad) m c) (hl : l.length = m) (hnews : ∀ j u, (bvs l)[j]? = some u → w.cell? (ad.add j) = some u)
    (hm : 0 < m) (h63 : n + m ≤ 1000000) (hbase : base ≤ w.heap.size)
    (h : ∀ v' w', w'.ownsRow base 5 1 v' (n + m) (bvs (l0 ++ l)) → w.grownBy w' v.ownBlock → wpList Tryz.prog ops Q rest (a.put o.dst v') w') : wpList Tryz.prog ops Q (o :: rest) a w := by
  obtain ⟨i0, hi0, hz0, hz1, hz2⟩ := info_parts info_u8
  refine wpList_want hw ?_
  have h1 := step_append_lies (P := Tryz.prog) (ops := ops) (o := { o with guard := none }) (a := a) (K := wpList Tryz.prog ops Q rest) (Q := Q) (E := True) w rfl s x 24 ho base 5 i0 (.int .u8 0) 1 1 Tryz.underlying24 hi0 hz0 hz1 hz2 rfl (by omega) v n (bvs l0) hs hown ad m c (bvs l) hx (by rw [bvs_len, hl, Nat.mul_one]) hnews (bvs_one _) hm (by unfold maxLen; omega) (by omega) hbase w.heap.size rfl
    (fun g cap w' h1 h2 _ _ => h _ w' (by unfold bvs; rw [List.map_append]; exact h1) h2)
  have hw0 : Region.wanted { o with guard := none } (yielded ops a.tmps) = true := rfl
  rw [if_pos hw0] at h1
  exact h1


theorem fill_is {n m : Nat} (h1 : n + 1 ≤ m) (h2 : m ≤ fillN n) (h3 : (m + 8) % 64 = 0) : m = fillN n := by
  have := fillN_bd n
  omega
theorem zeros_more (l : List UInt8) (k : Nat) : (l ++ 128 :: List.replicate k (0 : UInt8)) ++ [0] = l ++ 128 :: List.replicate (k + 1) 0 := by
  rw [List.append_assoc, List.cons_append, ← List.replicate_succ']

end Go.Proofs.YtcofkhmgmemkmaaGreatDoor.S3
namespace Go.Proofs.YtcofkhmgmemkmaaGreatDoor.S3
set_option maxRecDepth 100000
set_option linter.unusedVariables false
set_option linter.unusedSimpArgs false
open Go.RowKit Go.WideShapes Go.ChangeShapes

theorem wbytes_at : ∀ (l : List UInt32) {i r : Nat}, i < l.length → r < 4 → (wbytes l)[4 * i + r]? = (be 4 (l.getD i 0).toNat)[r]?
  | [], i, r, h, _ => by simp at h
  | x :: t, i, r, h, hr => by
    have e : wbytes (x :: t) = be 4 x.toNat ++ wbytes t := by unfold wbytes; rw [List.flatMap_cons]
    have hl := be_len 4 x.toNat
    rw [e]
    cases i with
    | zero => rw [List.getElem?_append_left (by omega)]; simp
    | succ j =>
      rw [List.getElem?_append_right (by omega), hl, show 4 * (j + 1) + r - 4 = 4 * j + r by omega, wbytes_at t (by simpa using h) hr]
      simp
def idP (F : W8) (j : Nat) : List UInt8 := (wbytes F.list).take j ++ List.replicate (32 - j) 0
theorem idP_set (F : W8) {j : Nat} {y : UInt8} (hj : j < 32) (hy : (wbytes F.list)[4 * (j / 4) + j % 4]? = some y) : (idP F j).set j y = idP F (j + 1) := by
  rw [show 4 * (j / 4) + j % 4 = j by omega] at hy
  have hl : (wbytes F.list).length = 32 := wbytes_len F.list
  have ht : ((wbytes F.list).take j).length = j := by rw [List.length_take, hl]; omega
  obtain ⟨h1, h2⟩ := List.getElem?_eq_some_iff.1 hy
  unfold idP
  rw [List.set_append_right _ _ (by omega), ht, Nat.sub_self, show 32 - j = (32 - (j + 1)) + 1 by omega, List.replicate_succ, List.set_cons_zero, List.take_succ_eq_append_getElem h1, h2, List.append_assoc]
  rfl
structure Su (w wr : World) (g4 gk : Nat) (L : List UInt8) (F : W8) : Prop where
  h : Lies wr (w.heap.size + 1) 8 (wvs F.list)
  r : Lies wr w.heap.size 32 (bvs Zi)
  a : wr.rangeAt g4 0 (bvs L)
  ag : g4 < wr.heap.size
  k : Lies wr gk 64 (wvs ksW)
  bel : Below w.heap.size w wr
section
variable {w wr w' : World} {g4 gk : Nat} {L : List UInt8} {F F' : W8}
theorem Su.below (H : Su w wr g4 gk L F) (hb : Below wr.heap.size wr w') : Su w w' g4 gk L F :=
  ⟨H.h.below hb H.h.lt, H.r.below hb H.r.lt, rangeAt_keep H.a (hb.block g4 H.ag), Nat.lt_of_lt_of_le H.ag hb.size, H.k.below hb H.k.lt, H.bel.trans (hb.mono H.bel.size)⟩
theorem Su.set_ (H : Su w wr g4 gk L F) (h1 : w.heap.size + 1 < g4) (h2 : w.heap.size + 1 < gk) : Su w (wr.setCells (w.heap.size + 1) 0 (wvs F'.list)) g4 gk L F' :=
  ⟨H.h.set_ rfl, H.r.other (by omega) 0 _, rangeAt_keep H.a ((setCells_os (w.heap.size + 1) (wvs F'.list) 0 wr).2.2.2.2 g4 (by omega)), by rw [size_setCells]; exact H.ag, H.k.other (by omega) 0 _, below_setCells H.bel (by omega) _ _⟩
end

end Go.Proofs.YtcofkhmgmemkmaaGreatDoor.S3
