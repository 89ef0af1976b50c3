/-
  THE DIGEST THAT A TEXT SAYS.
  THE CONSTANTS, AS THEY ARE HANDED OUT.
  THE LAWS' FIRST CALLS: wakes, own.
  THE ORDER OF DIGESTS, AND OF THEIR TEXTS (pure).
-/
import Derived.Test.YtnkhoghdfncgpaaGreatDoorK41
import Derived.ScopeJumps
import Derived.Test.YtnkhoghdfncgpaaGreatDoorK03
import Derived.Test.YtnkhoghdfncgpaaGreatDoorK06
import Derived.Lib.SlBytesConst
import Derived.Deep.RegionHeld3
import Derived.Test.YtnkhoghdfncgpaaGreatDoorK40
import Derived.Test.YtnkhoghdfncgpaaGreatDoorK02
namespace Go.Proofs.YtnkhoghdfncgpaaGreatDoor.S3
set_option maxRecDepth 100000
set_option linter.unusedVariables false
set_option linter.unusedSimpArgs false
open Go.RowKit Go.WideShapes Go.ChangeShapes

theorem results_cell_tmp {P : Program} {fn : Func} {p t : Tmp} {ty : TypeId} (h : fn.results = #[.cell p ty, .tmp t]) (tmps : Array Value) (w : World) (b o : Nat) (cs : List Value) (d : TypeDesc)
    (hp : tmps.getD p undef = .pointer (some ⟨b, o, none⟩)) (hc : w.rangeAt b o cs) (hu : P.underlying ty = some d) (hd : d.isRow = true) (hi : (P.info? ty).map (·.size) = some cs.length) :
    (results fn tmps).run P w = .ok (.tuple #[.agg cs.toArray, tmps.getD t undef]) w := by
  have hp' : tmps[p]?.getD undef = .pointer (some ⟨b, o, none⟩) := by simpa using hp
  simp [results, h, hp', asAddr, run_loadVar_mid w b o ty cs d hc hu hd hi]
theorem Lies.keep {W W' : World} {b k : Nat} {l : List Value} (h : Lies W b k l) (hk : W'.heap[b]? = W.heap[b]?) (hz : W.heap.size ≤ W'.heap.size) : Lies W' b k l :=
  ⟨rangeAt_keep h.rg hk, there_keep h.th hk, Nat.lt_of_lt_of_le h.lt hz, h.len⟩

theorem wrap8 (n : Int) : IntKind.u8.wrap n = n % 256 := by
  simp [IntKind.wrap, IntKind.min, IntKind.max, IntKind.signed, IntKind.bits]
/-- At the label. -/
def ParseJ (s : ByteArray) (w : World) (a' : Act) (w' : World) : Prop :=
  ∃ u4 u5 u6 u7 u8 u9 u10 u11 u12 u13 u14 u15 u16 u17 u18 u19 u20 u21 u22 u23 u24 u25 u26 u27 u28 u29 u30 u31 u32 u33 : Value, a' = { tmps := #[.string s, undef, .pointer (some ⟨w.heap.size, 0, none⟩), .int .i64 0, u4, u5, u6, u7, u8, u9, u10, u11, u12, u13, u14, u15, u16, u17, u18, u19, u20, u21, u22, u23, u24, u25, u26, u27, u28, u29, u30, u31, u32, u33], defers := [] } ∧ Hid (goodL s.data.toList = false) ∧ Hid (Lies w' w.heap.size 32 (bvs Zi)) ∧ Hid (Below w.heap.size w w')
/-- Behind the first signs. -/
structure ParseR (s : ByteArray) (w wr : World) (pos : Nat) : Prop where
  it : wr.heap[w.heap.size + 1 + 1]? = some (.stringIter s pos)
  ok : ∀ i, i < pos → 0 ≤ hx (s.data.toList.getD i 0)
  row : Lies wr (w.heap.size + 1) 32 (bvs (rowP s.data.toList pos))
  res : Lies wr w.heap.size 32 (bvs Zi)
  bel : Below w.heap.size w wr
theorem ParseR.next {s : ByteArray} {w wr : World} {pos : Nat} (h : ParseR s w wr pos) (p' : Nat) :
    (wr.iterAt (w.heap.size + 1 + 1) s p').heap[w.heap.size + 1 + 1]? = some (.stringIter s p') ∧ Lies (wr.iterAt (w.heap.size + 1 + 1) s p') (w.heap.size + 1) 32 (bvs (rowP s.data.toList pos)) ∧
      Lies (wr.iterAt (w.heap.size + 1 + 1) s p') w.heap.size 32 (bvs Zi) ∧ Below w.heap.size w (wr.iterAt (w.heap.size + 1 + 1) s p') :=
  ⟨Lib.iterAt_heap _ _ _ _ _ h.it, h.row.keep (Lib.iterAt_other _ _ _ _ _ (by omega)) (Nat.le_of_eq (Lib.iterAt_size _ _ _ _).symm),
    h.res.keep (Lib.iterAt_other _ _ _ _ _ (by omega)) (Nat.le_of_eq (Lib.iterAt_size _ _ _ _).symm), Lib.below_iterAt h.bel (by omega) _ _⟩
theorem data_at (s : ByteArray) {i : Nat} (h : i < s.size) : s.data.toList.getD i 0 = s[i]'h := by
  rw [List.getD_eq_getElem?_getD, List.getElem?_eq_getElem (by simpa using h)]
  rfl
theorem size_list (s : ByteArray) : s.data.toList.length = s.size := by simp

end Go.Proofs.YtnkhoghdfncgpaaGreatDoor.S3
namespace Go.Proofs.YtnkhoghdfncgpaaGreatDoor.S3
set_option maxRecDepth 100000
set_option linter.unusedVariables false
set_option linter.unusedSimpArgs false
open Go.RowKit Go.WideShapes Go.ChangeShapes

end Go.Proofs.YtnkhoghdfncgpaaGreatDoor.S3
namespace Go.Proofs.YtnkhoghdfncgpaaGreatDoor.S3
set_option maxRecDepth 100000
set_option linter.unusedVariables false
set_option linter.unusedSimpArgs false
open Go.RowKit Go.WideShapes Go.ChangeShapes

def abcW : List UInt8 := [186, 120, 22, 191, 143, 1, 207, 234, 65, 65, 64, 222, 93, 174, 34, 35, 176, 3, 97, 163, 150, 23, 122, 156, 180, 16, 255, 97, 242, 0, 21, 173]
theorem abc_len : abcW.length = 32 := rfl
set_option maxRecDepth 100000 in
theorem abc_sum : sumW [97, 98, 99] = abcW := by decide +kernel
abbrev abcT : ByteArray := ⟨#[98, 97, 55, 56, 49, 54, 98, 102, 56, 102, 48, 49, 99, 102, 101, 97, 52, 49, 52, 49, 52, 48, 100, 101, 53, 100, 97, 101, 50, 50, 50, 51, 98, 48, 48, 51, 54, 49, 97, 51, 57, 54, 49, 55, 55, 97, 57, 99, 98, 52, 49, 48, 102, 102, 54, 49, 102, 50, 48, 48, 49, 53, 97, 100]⟩
theorem abc_parse : parseW abcT.data.toList = abcW := by decide +kernel
theorem abc_err : parseE abcT.data.toList = 0 := by decide +kernel
theorem ab_err : parseE (⟨#[97, 98]⟩ : ByteArray).data.toList = 130 := by decide +kernel
theorem abc_less : lessB Zi abcW = true := by decide +kernel
theorem abc_not : lessB abcW abcW = false := by decide +kernel

theorem wpList_want {P : Program} {w : World} {ops : Array Oper} {rest : List Oper} {o : Oper} {a : Act} {Q : Exit → Act → World → Prop} (hw : Region.wanted o (yielded ops a.tmps) = true) (h : o.wp P a w (wpList P ops Q rest) Q) : wpList P ops Q (o :: rest) a w := by
  unfold wpList
  rw [if_pos hw]
  exact .inl h
/-- The digest of noughts, written as a literal. -/
theorem bz_id {w : World} {ops : Array Oper} {rest : List Oper} {o : Oper} {a : Act} {Q : Exit → Act → World → Prop} (hw : Region.wanted o (yielded ops a.tmps) = true) (ho : o.op = .build 26 #[])
    (h : wpList Tryz.prog ops Q rest (a.put o.dst (.agg (bvs Zi).toArray)) w) : wpList Tryz.prog ops Q (o :: rest) a w := by
  have hb : (Instr.build 26 #[]).run Tryz.prog w = .ok (.agg (bvs Zi).toArray) w := by kernel_rfl
  refine wpList_want hw ?_
  unfold Oper.wp execOp
  simp only [ho, List.map_toArray, List.map_nil, Sem.run_bind, hb, Result.andThen_ok, Sem.run_pure]
  exact h
theorem ldw_id {ops : Array Oper} {rest : List Oper} {op : Oper} {a : Act} {w : World} {Q : Exit → Act → World → Prop} (hw : Region.wanted op (yielded ops a.tmps) = true) (x : Operand) (ho : op.op = .load 26 x)
    (b o : Nat) (l : List UInt8) (hl : Hid (l.length = 32)) (hx : a.eval x = .pointer (some ⟨b, o, none⟩)) (hc : w.rangeAt b o (bvs l))
    (h : wpList Tryz.prog ops Q rest (a.put op.dst (.agg (bvs l).toArray)) w) : wpList Tryz.prog ops Q (op :: rest) a w :=
  wpList_want hw (wp_load_mid _ x ho b o hx (bvs l) _ hc Tryz.underlying26 rfl (by rw [bvs_len, hl.out]; exact size_id) h)
theorem Lies.slb {W : World} {b n : Nat} {l : List UInt8} (h : Lies W b n (bvs l)) (hl : l.length = n) (hn : n ≤ 1000000) : SlB W W.heap.size (some ⟨b, 0, none⟩) n n l :=
  ⟨hl, Nat.le_refl _, by unfold maxLen; omega, fun e => (by cases e), fun _ => ⟨b, 0, rfl, h.lt, fun j hj => by
    rw [Nat.zero_add]
    exact h.cell (by simp [bvs, List.getElem?_eq_getElem hj])⟩⟩
end Go.Proofs.YtnkhoghdfncgpaaGreatDoor.S3
namespace Go.Proofs.YtnkhoghdfncgpaaGreatDoor.S3
set_option maxRecDepth 100000
set_option linter.unusedVariables false
set_option linter.unusedSimpArgs false
open Go.RowKit Go.WideShapes Go.ChangeShapes

theorem num_split (l : List UInt8) (k : Nat) : num l = num (l.take k) * 256 ^ (l.drop k).length + num (l.drop k) := by
  induction k generalizing l with
  | zero => simp [num]
  | succ k ih =>
    cases l with
    | nil => simp [num]
    | cons x r =>
      rw [List.take_succ_cons, List.drop_succ_cons, num_cons, num_cons, ih r, Nat.add_mul, Nat.mul_assoc, ← Nat.pow_add]
      have : r.length = (r.take k).length + (r.drop k).length := by rw [← List.length_append, List.take_append_drop]
      rw [this]
      have h2 : num (List.take k r ++ List.drop k r) = num r := by rw [List.take_append_drop]
      omega
theorem num_inj : ∀ (a b : List UInt8), a.length = b.length → num a = num b → a = b
  | [], [], _, _ => rfl
  | [], _ :: _, h, _ => by simp at h
  | _ :: _, [], h, _ => by simp at h
  | x :: a, y :: b, h, hn => by
    have hl : a.length = b.length := by simpa using h
    have h1 := num_lt a
    have h2 := num_lt b
    rw [num_cons, num_cons, hl] at hn
    rw [hl] at h1
    have hxy : x.toNat = y.toNat := by
      rcases Nat.lt_trichotomy x.toNat y.toNat with h | h | h
      · have h4 : (x.toNat + 1) * 256 ^ b.length ≤ y.toNat * 256 ^ b.length := Nat.mul_le_mul_right _ h
        rw [Nat.add_mul, Nat.one_mul] at h4
        omega
      · exact h
      · have h4 : (y.toNat + 1) * 256 ^ b.length ≤ x.toNat * 256 ^ b.length := Nat.mul_le_mul_right _ h
        rw [Nat.add_mul, Nat.one_mul] at h4
        omega
    rw [hxy] at hn
    rw [UInt8.toNat_inj.1 hxy, num_inj a b hl (by omega)]
theorem sgn_neg (x y : Nat) : decide (sgn x y < 0) = decide (x < y) := by
  unfold sgn
  split
  · simp [*]
  · split
    · simp [*]
    · simp [*]
theorem lessB_num (a b : List UInt8) (ha : a.length = 32) (hb : b.length = 32) : lessB a b = decide (num a < num b) := by
  have ta : (a.take 16).length = 16 := by rw [List.length_take, ha]; rfl
  have tb : (b.take 16).length = 16 := by rw [List.length_take, hb]; rfl
  have da : (a.drop 16).length = 16 := by rw [List.length_drop, ha]
  have db : (b.drop 16).length = 16 := by rw [List.length_drop, hb]
  unfold lessB
  rw [compare_num _ _ (da.trans db.symm), compare_num _ _ (ta.trans tb.symm), sgn_neg, sgn_neg, num_split a 16, num_split b 16, da, db]
  have h1 := num_lt (a.drop 16)
  have h2 := num_lt (b.drop 16)
  rw [da] at h1
  rw [db] at h2
  generalize num (a.drop 16) = x at *
  generalize num (b.drop 16) = y at *
  split
  · rename_i he
    rw [he]
    congr 1
    simp
  · rename_i he
    have hne : num (a.take 16) ≠ num (b.take 16) := fun h => he (num_inj _ _ (ta.trans tb.symm) h)
    generalize num (a.take 16) = p at *
    generalize num (b.take 16) = q at *
    generalize 256 ^ 16 = m at *
    rcases Nat.lt_trichotomy p q with h | h | h
    · have h4 : (p + 1) * m ≤ q * m := Nat.mul_le_mul_right _ h
      rw [Nat.add_mul, Nat.one_mul] at h4
      rw [decide_eq_true h, decide_eq_true (by omega)]
    · exact absurd h hne
    · have h4 : (q + 1) * m ≤ p * m := Nat.mul_le_mul_right _ h
      rw [Nat.add_mul, Nat.one_mul] at h4
      rw [decide_eq_false (by omega), decide_eq_false (by omega)]
theorem bytesLess_num : ∀ (a b : List UInt8), a.length = b.length → Op.bytesLess a b = decide (num a < num b)
  | [], [], _ => by simp [Op.bytesLess]
  | [], _ :: _, h => by simp at h
  | _ :: _, [], h => by simp at h
  | x :: a, y :: b, h => by
    have hl : a.length = b.length := by simpa using h
    have ih := bytesLess_num a b hl
    have h1 := num_lt a
    have h2 := num_lt b
    rw [num_cons, num_cons, hl, Op.bytesLess, ih]
    rw [hl] at h1
    rcases Nat.lt_trichotomy x.toNat y.toNat with h | h | h
    · have h4 : (x.toNat + 1) * 256 ^ b.length ≤ y.toNat * 256 ^ b.length := Nat.mul_le_mul_right _ h
      rw [Nat.add_mul, Nat.one_mul] at h4
      rw [decide_eq_true (UInt8.lt_iff_toNat_lt.2 h), Bool.true_or, eq_comm, decide_eq_true (by omega)]
    · have hxy := UInt8.toNat_inj.1 h
      subst hxy
      rw [decide_eq_false (by rw [UInt8.lt_iff_toNat_lt]; omega), Bool.false_or, beq_self_eq_true, Bool.true_and]
      congr 1
      simp
    · have h4 : (y.toNat + 1) * 256 ^ b.length ≤ x.toNat * 256 ^ b.length := Nat.mul_le_mul_right _ h
      rw [Nat.add_mul, Nat.one_mul] at h4
      have hne : (x == y) = false := by rw [beq_eq_false_iff_ne]; intro e; rw [e] at h; omega
      rw [decide_eq_false (by rw [UInt8.lt_iff_toNat_lt]; omega), hne, Bool.false_and, Bool.false_or, eq_comm, decide_eq_false (by omega)]
theorem sgn16_lt (i j : Nat) (hi : i < 16) (hj : j < 16) : decide (sgn16 i < sgn16 j) = decide (i < j) := by
  have : ∀ i j : Fin 16, decide (sgn16 i.val < sgn16 j.val) = decide (i.val < j.val) := by decide +kernel
  exact this ⟨i, hi⟩ ⟨j, hj⟩
theorem sgn16_eq (i j : Nat) (hi : i < 16) (hj : j < 16) : (sgn16 i == sgn16 j) = (i == j) := by
  have : ∀ i j : Fin 16, (sgn16 i.val == sgn16 j.val) = (i.val == j.val) := by decide +kernel
  exact this ⟨i, hi⟩ ⟨j, hj⟩
theorem byte_less (x y : UInt8) (r : Bool) : (decide (x.toNat / 16 < y.toNat / 16) || (x.toNat / 16 == y.toNat / 16 && (decide (x.toNat % 16 < y.toNat % 16) || (x.toNat % 16 == y.toNat % 16 && r)))) = (decide (x < y) || (x == y && r)) := by
  have e : (x == y) = (x.toNat == y.toNat) := by
    rw [Bool.eq_iff_iff]
    simp [UInt8.toNat_inj]
  rw [e, show decide (x < y) = decide (x.toNat < y.toNat) from by rw [Bool.eq_iff_iff]; simp [UInt8.lt_iff_toNat_lt]]
  rw [Bool.eq_iff_iff]
  simp only [Bool.or_eq_true, Bool.and_eq_true, decide_eq_true_eq, beq_iff_eq]
  cases r
  · simp only [Bool.false_eq_true, and_false, or_false]
    omega
  · simp only [and_true]
    omega
theorem text_less : ∀ (a b : List UInt8), a.length = b.length → Op.bytesLess (textW a) (textW b) = Op.bytesLess a b
  | [], [], _ => rfl
  | [], _ :: _, h => by simp at h
  | _ :: _, [], h => by simp at h
  | x :: a, y :: b, h => by
    have ih := text_less a b (by simpa using h)
    have e1 : textW (x :: a) = sgn16 (x.toNat / 16) :: sgn16 (x.toNat % 16) :: textW a := by simp [textW]
    have e2 : textW (y :: b) = sgn16 (y.toNat / 16) :: sgn16 (y.toNat % 16) :: textW b := by simp [textW]
    have b1 := x.toNat_lt
    have b2 := y.toNat_lt
    rw [e1, e2]
    simp only [Op.bytesLess, ih]
    rw [sgn16_lt _ _ (by omega) (by omega), sgn16_lt _ _ (by omega) (by omega), sgn16_eq _ _ (by omega) (by omega), sgn16_eq _ _ (by omega) (by omega), byte_less]
/-- The texts' order is the digests'. -/
theorem text_order (a b : List UInt8) (ha : a.length = 32) (hb : b.length = 32) : Op.bytesLess (textW a) (textW b) = lessB a b := by
  rw [text_less a b (ha.trans hb.symm), bytesLess_num a b (ha.trans hb.symm), lessB_num a b ha hb]
theorem neq_num (a b : List UInt8) (ha : a.length = 32) (hb : b.length = 32) : (a == b) = decide (num a = num b) := by
  rw [Bool.eq_iff_iff]
  simp only [beq_iff_eq, decide_eq_true_eq]
  exact ⟨fun h => by rw [h], num_inj a b (ha.trans hb.symm)⟩
/-- No two are less than one another; of two unlike ones one is; what is less than a lesser one is less. -/
theorem less_laws (a b c : List UInt8) (ha : a.length = 32) (hb : b.length = 32) (hc : c.length = 32) :
    ((lessB a b && lessB b a) || ((lessB a b || lessB b a) != !(a == b)) || (lessB a b && lessB b c && !lessB a c)) = false := by
  rw [lessB_num a b ha hb, lessB_num b a hb ha, lessB_num b c hb hc, lessB_num a c ha hc, neq_num a b ha hb]
  generalize num a = p
  generalize num b = q
  generalize num c = r
  by_cases h1 : p < q <;> by_cases h2 : q < p <;> by_cases h3 : q < r <;> by_cases h4 : p < r <;> by_cases h5 : p = q <;> simp [h1, h2, h3, h4, h5] <;> omega
end Go.Proofs.YtnkhoghdfncgpaaGreatDoor.S3
