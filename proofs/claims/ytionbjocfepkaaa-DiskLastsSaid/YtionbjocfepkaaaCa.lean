/-
  COPY OF A ROW OF BLOCKS by the builtin copy; how many writes wait in all.
-/
import Derived.Test.YtionbjocfepkaaaDr
import Derived.Laws.CopyRow
namespace Go.Proofs.Ytionbjocfepkaaa
set_option linter.unusedVariables false
open Go.RowKit Go.WideShapes Go.ChangeShapes

theorem run_copy_blocks (w : World) (ty : TypeId) (R o dLen dCap : Nat) (a : Addr) (sLen sCap : Nat) (cur : Array Value) (l : List (List UInt8)) (hl : ∀ x ∈ l, x.length = 64) (hg : w.heap[R]? = some (.cells cur 37 (0, 0)))
    (hn : l.length = Nat.min sLen dLen) (hsrc : ∀ j v, (fl l)[j]? = some v → w.cell? (a.add j) = some v) (hfit : o + l.length * 64 ≤ cur.size) :
    (Builtin.copy_ #[45, 45] ty #[.slice (some ⟨R, o, none⟩) dLen dCap, .slice (some a) sLen sCap]).run Try.prog w =
      .ok (.int .i64 (l.length : Int)) (w.setRow R (cur.toList.take o ++ fl l ++ cur.toList.drop (o + l.length * 64)).toArray) := by
  obtain ⟨i0, hi, hz, hz1, hz2⟩ := info_parts info_block
  have hfl := fl_len hl
  have h1 := run_loadCells_list (P := Try.prog) w a (fl l) hsrc
  have hst := run_storeCells_at Try.prog R o 37 (fl l) 0 cur w hg (by rw [hfl]; simpa using hfit) (fl_oneCell l)
  rw [hfl] at h1 hst
  simp [Builtin.copy_, run_underlying Try.underlying45, Builtin.lenOf, Builtin.firstCells, sizeOf, typeInfo, hi, hz1, ← hn, h1, hst, goInt]

/-- How many of the writes wait in the sectors from 0 to k. -/
def offW (wt : List (Nat × List UInt8)) : Nat → Nat
  | 0 => 0
  | k + 1 => offW wt k + (waitsOf wt k).length
theorem offW_cons (p : Nat × List UInt8) (r : List (Nat × List UInt8)) : ∀ k, offW (p :: r) k = offW r k + if p.1 < k then 1 else 0
  | 0 => rfl
  | k + 1 => by
    rw [offW, offW, offW_cons p r k]
    obtain ⟨n, x⟩ := p
    by_cases h : n = k
    · subst h
      rw [waitsOf_cons_same, if_neg (by simp), if_pos (by simp), List.length_cons]
      omega
    · rw [waitsOf_cons_other h]
      by_cases h2 : n < k
      · rw [if_pos (by simpa using h2), if_pos (by show n < k + 1; omega)]
        omega
      · rw [if_neg (by simpa using h2), if_neg (by show ¬ n < k + 1; omega)]
        omega
theorem offW_nil : ∀ k, offW [] k = 0
  | 0 => rfl
  | k + 1 => by rw [offW, offW_nil k]; rfl
theorem offW_le : ∀ (wt : List (Nat × List UInt8)) (k : Nat), offW wt k ≤ wt.length
  | [], k => by rw [offW_nil]; exact Nat.le_refl _
  | p :: r, k => by
    have := offW_le r k
    rw [offW_cons, List.length_cons]
    split <;> omega

/-- The writes that wait, sector by sector, of the sectors below k. -/
def catW (wt : List (Nat × List UInt8)) (k : Nat) : List (List UInt8) := (List.range k).flatMap (waitsOf wt)
theorem catW_succ (wt : List (Nat × List UInt8)) (k : Nat) : catW wt (k + 1) = catW wt k ++ waitsOf wt k := by
  simp [catW, List.range_succ]
theorem catW_len (wt : List (Nat × List UInt8)) : ∀ k, (catW wt k).length = offW wt k
  | 0 => rfl
  | k + 1 => by rw [catW_succ, List.length_append, catW_len wt k, offW]
theorem catW_mem {wt : List (Nat × List UInt8)} {k : Nat} {x : List UInt8} (h : x ∈ catW wt k) : ∃ p ∈ wt, p.2 = x := by
  simp only [catW, List.mem_flatMap] at h
  obtain ⟨i, _, hx⟩ := h
  exact waitsOf_mem hx
theorem catW_split (wt : List (Nat × List UInt8)) {i k : Nat} (h : i < k) : ∃ r, catW wt k = catW wt i ++ (waitsOf wt i ++ r) := by
  induction k with
  | zero => omega
  | succ k ih =>
    rw [catW_succ]
    by_cases hik : i = k
    · subst hik
      exact ⟨[], by simp⟩
    · obtain ⟨r, hr⟩ := ih (by omega)
      exact ⟨r ++ waitsOf wt k, by rw [hr]; simp⟩
theorem offW_mono (wt : List (Nat × List UInt8)) {i k : Nat} (h : i ≤ k) : offW wt i ≤ offW wt k := by
  induction k with
  | zero => obtain rfl : i = 0 := by omega
            exact Nat.le_refl _
  | succ k ih =>
    by_cases hik : i = k + 1
    · subst hik; exact Nat.le_refl _
    · have := ih (by omega)
      rw [offW]; omega

/-- What waits of sector i, in the copy's own row. -/
def waC (gr : Nat) (wt : List (Nat × List UInt8)) (i : Nat) : Value :=
  if waitsOf wt i = [] then .slice none 0 0 else .slice (some ⟨gr, offW wt i * 64, none⟩) (waitsOf wt i).length (waitsOf wt i).length
theorem waC_room (gr : Nat) (wt : List (Nat × List UInt8)) (i : Nat) : roomBlk (waC gr wt i) = none := by
  unfold waC
  split
  · rfl
  · simp [roomBlk]
/-- A cell of the copy's sectors, of which k are done. -/
def cpF (safe : List (List UInt8)) (W : Nat → Value) (k : Nat) (j : Nat) : Value := if j / 65 < k then cellS safe W j else if j % 65 < 64 then bv 0 else .slice none 0 0

abbrev dkL (s o : Value) (f a : Bool × Int) (dd : Bool) (ops : Int) : List Value := [s, o, .bool f.1, .int .i64 f.2, .bool a.1, .int .i64 a.2, .bool dd, .int .i64 ops]
theorem bl_setCells {g : Nat} {t : TypeId} : ∀ (cs zs pre : List Value) (w : World), Bl w g t (pre ++ zs) → zs.length = cs.length → Bl (w.setCells g pre.length cs) g t (pre ++ cs)
  | [], zs, pre, w, h, hl => by
    obtain rfl : zs = [] := List.eq_nil_of_length_eq_zero hl
    exact h
  | c :: cs, [], pre, w, h, hl => by simp at hl
  | c :: cs, z :: zs, pre, w, h, hl => by
    have h1 := h.set_ pre.length c
    have e : (pre ++ z :: zs).set pre.length c = (pre ++ [c]) ++ zs := by
      rw [List.set_append_right _ _ (Nat.le_refl _)]
      simp
    rw [e] at h1
    have := bl_setCells cs zs (pre ++ [c]) _ h1 (by simpa using hl)
    rw [List.length_append, List.length_singleton] at this
    rw [show pre ++ c :: cs = (pre ++ [c]) ++ cs by simp]
    exact this
theorem bl_set0 {w : World} {g : Nat} {t : TypeId} {zs cs : List Value} (h : Bl w g t zs) (hl : zs.length = cs.length) : Bl (w.setCells g 0 cs) g t cs := bl_setCells cs zs [] w h hl

def ZD : Array Value := #[.slice none 0 0, .slice none 0 0, .bool false, .int .i64 0, .bool false, .int .i64 0, .bool false, .int .i64 0]
theorem zero_disk (w : World) : (zeroValue 68).run Try.prog w = .ok (.agg ZD) w := by kernel_rfl
theorem disk_size {s o : Value} {f a : Bool × Int} {dd : Bool} {ops : Int} : (Try.prog.info? 68).map (·.size) = some (dkL s o f a dd ops).length := by kernel_rfl
theorem ld_disk {ops : Array Oper} {rest : List Oper} {op : Oper} {a : Act} {w : World} {Q : Exit → Act → World → Prop} (hgd : op.guard = none) (x : Operand) (ho : op.op = .load 68 x)
    (b : Nat) (cs : List Value) (hl : Hid (cs.length = 8)) (hx : a.eval x = .pointer (some ⟨b, 0, none⟩)) (hc : w.rangeAt b 0 cs)
    (h : wpList Try.prog ops Q rest (a.put op.dst (.agg cs.toArray)) w) : wpList Try.prog ops Q (op :: rest) a w :=
  wpList_load_mid hgd _ x ho b 0 hx cs _ hc Try.underlying68 rfl (by rw [hl.out]; kernel_rfl) h
theorem al_disk {ops : Array Oper} {rest : List Oper} {op : Oper} {a : Act} {w : World} {Q : Exit → Act → World → Prop} (hgd : op.guard = none) (ho : op.op = .alloc 68)
    (h : wpList Try.prog ops Q rest (a.put op.dst (.pointer (some ⟨w.heap.size, 0, none⟩))) (w.alloc (.cells ZD 68))) : wpList Try.prog ops Q (op :: rest) a w :=
  wpList_alloc_as hgd _ ho ZD zero_disk h
theorem st_disk {ops : Array Oper} {rest : List Oper} {op : Oper} {a : Act} {w : World} {Q : Exit → Act → World → Prop} (hgd : op.guard = none) (x y : Operand) (ho : op.op = .store 68 x y)
    (b : Nat) (cs : List Value) (hl : Hid (cs.length = 8)) (h1 : Hid (cs.toArray.all (·.oneCell') = true)) (hx : a.eval x = .pointer (some ⟨b, 0, none⟩)) (hy : a.eval y = .agg cs.toArray) (ht : w.there b 0 8)
    (h : wpList Try.prog ops Q rest (a.put op.dst undef) (w.setCells b 0 cs)) : wpList Try.prog ops Q (op :: rest) a w :=
  wpList_store_mid hgd _ x y ho b 0 cs.toArray hx hy (by rw [List.size_toArray, hl.out]; exact ht) (by rw [List.size_toArray, hl.out]; kernel_rfl) h1.out h

theorem zero_sector (w : World) : (zeroValue 80).run Try.prog w = .ok (.agg ZS) w := by kernel_rfl
theorem ld_sector {ops : Array Oper} {rest : List Oper} {op : Oper} {a : Act} {w : World} {Q : Exit → Act → World → Prop} (hgd : op.guard = none) (x : Operand) (ho : op.op = .load 80 x)
    (b o : Nat) (cs : List Value) (hl : Hid (cs.length = 65)) (hx : a.eval x = .pointer (some ⟨b, o, none⟩)) (hc : w.rangeAt b o cs)
    (h : wpList Try.prog ops Q rest (a.put op.dst (.agg cs.toArray)) w) : wpList Try.prog ops Q (op :: rest) a w :=
  wpList_load_mid hgd _ x ho b o hx cs _ hc Try.underlying80 rfl (by rw [hl.out]; kernel_rfl) h
theorem al_sector {ops : Array Oper} {rest : List Oper} {op : Oper} {a : Act} {w : World} {Q : Exit → Act → World → Prop} (hgd : op.guard = none) (ho : op.op = .alloc 80)
    (h : wpList Try.prog ops Q rest (a.put op.dst (.pointer (some ⟨w.heap.size, 0, none⟩))) (w.alloc (.cells ZS 80))) : wpList Try.prog ops Q (op :: rest) a w :=
  wpList_alloc_as hgd _ ho ZS zero_sector h
theorem st_sector {ops : Array Oper} {rest : List Oper} {op : Oper} {a : Act} {w : World} {Q : Exit → Act → World → Prop} (hgd : op.guard = none) (x y : Operand) (ho : op.op = .store 80 x y)
    (b : Nat) (cs : List Value) (hl : Hid (cs.length = 65)) (h1 : Hid (cs.toArray.all (·.oneCell') = true)) (hx : a.eval x = .pointer (some ⟨b, 0, none⟩)) (hy : a.eval y = .agg cs.toArray) (ht : w.there b 0 65)
    (h : wpList Try.prog ops Q rest (a.put op.dst undef) (w.setCells b 0 cs)) : wpList Try.prog ops Q (op :: rest) a w :=
  wpList_store_mid hgd _ x y ho b 0 cs.toArray hx hy (by rw [List.size_toArray, hl.out]; exact ht) (by rw [List.size_toArray, hl.out]; kernel_rfl) h1.out h
theorem size_safe : (Try.prog.info? 78).map (·.size) = some 64 := by kernel_rfl
theorem ld_safe {ops : Array Oper} {rest : List Oper} {op : Oper} {a : Act} {w : World} {Q : Exit → Act → World → Prop} (hgd : op.guard = none) (x : Operand) (ho : op.op = .load 78 x)
    (b o : Nat) (l : List UInt8) (hl : Hid (l.length = 64)) (hx : a.eval x = .pointer (some ⟨b, o, none⟩)) (hc : w.rangeAt b o (bvs l))
    (h : wpList Try.prog ops Q rest (a.put op.dst (.agg (bvs l).toArray)) w) : wpList Try.prog ops Q (op :: rest) a w :=
  wpList_load_mid hgd _ x ho b o hx (bvs l) _ hc Try.underlying78 rfl (by rw [bvs_len, hl.out]; exact size_safe) h
theorem st_safe {ops : Array Oper} {rest : List Oper} {op : Oper} {a : Act} {w : World} {Q : Exit → Act → World → Prop} (hgd : op.guard = none) (x y : Operand) (ho : op.op = .store 78 x y)
    (b o : Nat) (l : List UInt8) (hl : Hid (l.length = 64)) (hx : a.eval x = .pointer (some ⟨b, o, none⟩)) (hy : a.eval y = .agg (bvs l).toArray) (ht : w.there b o 64)
    (h : wpList Try.prog ops Q rest (a.put op.dst undef) (w.setCells b o (bvs l))) : wpList Try.prog ops Q (op :: rest) a w :=
  wpList_store_mid hgd _ x y ho b o (bvs l).toArray hx hy (by have e := bvs_len l; rw [hl.out] at e; simpa [e] using ht) (by have e := bvs_len l; rw [hl.out] at e; simpa [e] using size_safe) bvs_all h

theorem make_blocks (n : Nat) (h : n ≤ 1000000000) (w : World) :
    (Instr.makeSlice 45 (.int .i64 (n : Int)) (.int .i64 (n : Int))).run Try.prog w = .ok (.slice (some ⟨w.heap.size, 0, none⟩) n n) (w.alloc (.cells (madeCells Z64 (n * 64)) 37)) := by
  obtain ⟨i0, hi, hz, hz1, hz2⟩ := info_parts info_block
  have hr := run_make (P := Try.prog) w 45 _ i0 _ Try.underlying45 hi hz .i64 .i64 (n : Int) (n : Int) (by omega) (by omega) (by rw [hz2]; omega) (by omega)
  simp only [Int.toNat_natCast, hz1] at hr
  exact hr

/-- copy(row, waits): the writes of one sector go into the row from block place o on. -/
theorem wp_copy_blocks {ops : Array Oper} {rest : List Oper} {op : Oper} {a : Act} {w : World} {Q : Exit → Act → World → Prop} (hgd : op.guard = none) (s y : Operand)
    (ho : op.op = .call { callee := .builtin .copy, args := #[s, y], argTypes := #[45, 45] })
    (R o dLen dCap : Nat) (ad : Addr) (sLen sCap : Nat) (cur : Array Value) (l : List (List UInt8)) (hl : Hid (∀ x ∈ l, x.length = 64)) (hg : Hid (w.heap[R]? = some (.cells cur 37 (0, 0))))
    (hn : Hid (l.length = sLen ∧ sLen ≤ dLen)) (hsrc : Hid (∀ j v, (fl l)[j]? = some v → w.cell? (ad.add j) = some v)) (hfit : Hid (o + l.length * 64 ≤ cur.size))
    (hs : a.eval s = .slice (some ⟨R, o, none⟩) dLen dCap) (hy : a.eval y = .slice (some ad) sLen sCap)
    (h : wpList Try.prog ops Q rest (a.put op.dst (.int .i64 (l.length : Int))) (w.setRow R (cur.toList.take o ++ fl l ++ cur.toList.drop (o + l.length * 64)).toArray)) : wpList Try.prog ops Q (op :: rest) a w := by
  refine wpList_plain hgd fun _ hK => ?_
  unfold Oper.wp execOp
  have hr := run_copy_blocks w op.type R o dLen dCap ad sLen sCap cur l hl.out hg.out (by have := hn.out; rw [this.1]; exact (Nat.min_eq_left this.2).symm) hsrc.out hfit.out
  simp only [ho, resolve, invoke, builtin, Sem.run_bind, Sem.run_pure, Result.andThen_ok, List.map_toArray, List.map_cons, List.map_nil, hs, hy, hr]
  exact hK _ _ h
theorem wp_copy_none {ops : Array Oper} {rest : List Oper} {op : Oper} {a : Act} {w : World} {Q : Exit → Act → World → Prop} (hgd : op.guard = none) (s y : Operand)
    (ho : op.op = .call { callee := .builtin .copy, args := #[s, y], argTypes := #[45, 45] })
    (ad : Addr) (dLen dCap : Nat) (hs : a.eval s = .slice (some ad) dLen dCap) (hy : a.eval y = .slice none 0 0)
    (h : wpList Try.prog ops Q rest (a.put op.dst (.int .i64 0)) w) : wpList Try.prog ops Q (op :: rest) a w := by
  refine wpList_plain hgd fun _ hK => ?_
  unfold Oper.wp execOp
  have hr := run_copy_nil (P := Try.prog) w 45 45 op.type 37 ad dLen dCap Try.underlying45 (by kernel_rfl)
  simp only [ho, resolve, invoke, builtin, Sem.run_bind, Sem.run_pure, Result.andThen_ok, List.map_toArray, List.map_cons, List.map_nil, hs, hy, hr]
  exact hK _ _ h
end Go.Proofs.Ytionbjocfepkaaa
