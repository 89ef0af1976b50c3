/-
  ROWS OF CELLS: blocks known whole, and loads and stores of arrays by value.
-/
import Derived.Test.YtgjkahoblopddaaDoorWord
import Derived.Test.YtgjkahoblopddaaDoorMem
import Derived.Deep.MidRow
import Derived.ChangeKeysEq
namespace Go.Proofs.YtgjkahoblopddaaDoor
set_option linter.unusedVariables false
set_option linter.unusedSimpArgs false
open Go.RowKit Go.WideShapes Go.ChangeShapes

theorem below_setCells {B : Nat} {a w : World} (h : Below B a w) {b : Nat} (hb : B ≤ b) (o : Nat) (vs : List Value) : Below B a (w.setCells b o vs) := by
  obtain ⟨h1, h2, h3, h4, h5⟩ := setCells_os b vs o w
  exact ⟨h1.trans h.os, h2.trans h.tape, h3.trans h.output, by rw [h4]; exact h.size, fun k hk => (h5 k (by omega)).trans (h.block k hk)⟩
theorem size_setCells (w : World) (b o : Nat) (vs : List Value) : (w.setCells b o vs).heap.size = w.heap.size := (setCells_os b vs o w).2.2.2.1
theorem there_keep {w w' : World} {b o n : Nat} (h : w.there b o n) (hk : w'.heap[b]? = w.heap[b]?) : w'.there b o n := fun j hj => by
  obtain ⟨h1, h2⟩ := h j hj
  exact ⟨by rw [World.cell?_of_block (a := ⟨b, o + j, none⟩) hk]; exact h1, (World.frozen?_of_block (a := ⟨b, o + j, none⟩) hk).trans h2⟩
theorem there_below {w w' : World} {b o n B : Nat} (h : w.there b o n) (hb : Below B w w') (hB : b < B) : w'.there b o n := there_keep h (hb.block b hB)
/-- A block's cells from its start on, all of which may be stored into. -/
structure Lies (W : World) (b k : Nat) (l : List Value) : Prop where
  rg : W.rangeAt b 0 l
  th : W.there b 0 k
  lt : b < W.heap.size
  len : l.length = k
section
variable {W W' : World} {b k : Nat} {l : List Value}
theorem Lies.below (h : Lies W b k l) {B : Nat} (hb : Below B W W') (hB : b < B) : Lies W' b k l :=
  ⟨rangeAt_keep h.rg (hb.block b hB), there_below h.th hb hB, Nat.lt_of_lt_of_le h.lt hb.size, h.len⟩
theorem Lies.other (h : Lies W b k l) {b' : Nat} (hn : b ≠ b') (o : Nat) (vs : List Value) : Lies (W.setCells b' o vs) b k l :=
  ⟨rangeAt_keep h.rg ((setCells_os b' vs o W).2.2.2.2 b hn), World.there_setCells h.th _ _ _, by rw [(setCells_os b' vs o W).2.2.2.1]; exact h.lt, h.len⟩
theorem Lies.set_ (h : Lies W b k l) {l' : List Value} (hl : l'.length = k) : Lies (W.setCells b 0 l') b k l' :=
  ⟨World.rangeAt_setCells_same _ _ _ _ (by rw [hl]; exact h.th), World.there_setCells h.th _ _ _, by rw [(setCells_os b l' 0 W).2.2.2.1]; exact h.lt, hl⟩
theorem Lies.alloc (h : Lies W b k l) (o : Obj) : Lies (W.alloc o) b k l := h.below ((Below.refl W.heap.size W).alloc (Nat.le_refl _) o) h.lt
theorem Lies.new (w : World) (cs : List Value) (t : TypeId) : Lies (w.alloc (.cells cs.toArray t)) w.heap.size cs.length cs := by
  have hb := Bl.new w t cs
  refine ⟨fun j v hv => by rw [Nat.zero_add, hb.cell j]; exact hv, fun j hj => ⟨?_, hb.frozen _⟩, hb.lt, rfl⟩
  rw [Nat.zero_add, hb.cell j, List.getElem?_eq_getElem hj]
  rfl
theorem Lies.cell (h : Lies W b k l) {j : Nat} {v : Value} (hv : l[j]? = some v) : W.cell? ⟨b, j, none⟩ = some v := by
  have := h.rg j v hv
  rwa [Nat.zero_add] at this
theorem Lies.frozen (h : Lies W b k l) {j : Nat} (hj : j < k) : W.frozen? ⟨b, j, none⟩ = false := by
  have := (h.th j hj).2
  rwa [Nat.zero_add] at this
theorem Lies.drewN (h : Lies W b k l) (m : Nat) : Lies (W.drewN m) b k l := ⟨h.rg, h.th, h.lt, h.len⟩
end

theorem Lies.mv {W W' : World} {S : Nat → Prop} {b k : Nat} {l : List Value} (h : Lies W b k l) (hm : Mv S W W') (hn : ¬ S b) : Lies W' b k l :=
  ⟨rangeAt_keep h.rg (hm.block b h.lt hn), there_keep h.th (hm.block b h.lt hn), Nat.lt_of_lt_of_le h.lt hm.size, h.len⟩
theorem Lies.set1 {W : World} {b k : Nat} {l : List Value} (h : Lies W b k l) (j : Nat) (u : Value) : Lies (W.setCell ⟨b, j, none⟩ u) b k (l.set j u) := by
  refine ⟨fun i v hv => ?_, fun i hi => ?_, by simpa [World.setCell] using h.lt, by rw [List.length_set]; exact h.len⟩
  · have hi : i < l.length := by have := (List.getElem?_eq_some_iff.1 hv).1; simpa using this
    by_cases hij : j = i
    · subst hij
      rw [List.getElem?_set_self hi] at hv
      injection hv with hv
      subst hv
      have hs := (h.th j (by rw [← h.len]; exact hi)).1
      rw [Nat.zero_add] at hs ⊢
      exact World.cell?_setCell_same' W _ _ hs
    · rw [List.getElem?_set_ne hij] at hv
      have := h.rg i v hv
      rw [Nat.zero_add] at this ⊢
      rw [World.cell?_setCell_other (a := ⟨b, j, none⟩) (b := ⟨b, i, none⟩) W u (fun e => hij (by simp at e))]
      exact this
  · exact (World.there_setCells h.th b j [u] : (W.setCells b j [u]).there b 0 k) i hi
def wvs (l : List UInt32) : List Value := l.map wv
theorem wvs_len (l : List UInt32) : (wvs l).length = l.length := by simp [wvs]
theorem wvs_at (l : List UInt32) {j : Nat} (h : j < l.length) : (wvs l)[j]? = some (wv l[j]) := by simp [wvs, h]
theorem wvs_all {l : List UInt32} : (wvs l).toArray.all (·.oneCell') = true := all_oneCell_toArray (fun v hv => by simp only [wvs, List.mem_map] at hv; obtain ⟨x, _, rfl⟩ := hv; rfl)
theorem bvs_all {l : List UInt8} : (bvs l).toArray.all (·.oneCell') = true := all_oneCell_toArray (bvs_one l)

theorem size_w8 : (Tryd.prog.info? 31).map (·.size) = some 8 := by kernel_rfl
theorem ld_w8 {ops : Array Oper} {rest : List Oper} {op : Oper} {a : Act} {w : World} {Q : Exit → Act → World → Prop} (hgd : op.guard = none) (x : Operand) (ho : op.op = .load 31 x)
    (b o : Nat) (l : List UInt32) (hl : Hid (l.length = 8)) (hx : a.eval x = .pointer (some ⟨b, o, none⟩)) (hc : w.rangeAt b o (wvs l))
    (h : wpList Tryd.prog ops Q rest (a.put op.dst (.agg (wvs l).toArray)) w) : wpList Tryd.prog ops Q (op :: rest) a w :=
  wpList_load_mid hgd _ x ho b o hx (wvs l) _ hc Tryd.underlying31 rfl (by rw [wvs_len, hl.out]; exact size_w8) h
theorem st_w8 {ops : Array Oper} {rest : List Oper} {op : Oper} {a : Act} {w : World} {Q : Exit → Act → World → Prop} (hgd : op.guard = none) (x y : Operand) (ho : op.op = .store 31 x y)
    (b o : Nat) (l : List UInt32) (hl : Hid (l.length = 8)) (hx : a.eval x = .pointer (some ⟨b, o, none⟩)) (hy : a.eval y = .agg (wvs l).toArray) (ht : w.there b o 8)
    (h : wpList Tryd.prog ops Q rest (a.put op.dst undef) (w.setCells b o (wvs l))) : wpList Tryd.prog ops Q (op :: rest) a w :=
  wpList_store_mid hgd _ x y ho b o (wvs l).toArray hx hy (by have e := wvs_len l; rw [hl.out] at e; simpa [e] using ht) (by have e := wvs_len l; rw [hl.out] at e; simpa [e] using size_w8) wvs_all h
theorem res_w8 {fn : Func} {p : Tmp} (h : fn.results = #[.cell p 31]) (tmps : Array Value) (w : World) (b : Nat) (l : List UInt32) (hl : l.length = 8) (hp : tmps.getD p undef = .pointer (some ⟨b, 0, none⟩)) (hc : w.rangeAt b 0 (wvs l)) :
    (results fn tmps).run Tryd.prog w = .ok (.agg (wvs l).toArray) w := results_cell_mid h tmps w b 0 (wvs l) _ hp hc Tryd.underlying31 rfl (by rw [wvs_len, hl]; exact size_w8)

theorem size_wd : (Tryd.prog.info? 61).map (·.size) = some 8 := by kernel_rfl
theorem ld_wd {ops : Array Oper} {rest : List Oper} {op : Oper} {a : Act} {w : World} {Q : Exit → Act → World → Prop} (hgd : op.guard = none) (x : Operand) (ho : op.op = .load 61 x)
    (b o : Nat) (l : List UInt32) (hl : Hid (l.length = 8)) (hx : a.eval x = .pointer (some ⟨b, o, none⟩)) (hc : w.rangeAt b o (wvs l))
    (h : wpList Tryd.prog ops Q rest (a.put op.dst (.agg (wvs l).toArray)) w) : wpList Tryd.prog ops Q (op :: rest) a w :=
  wpList_load_mid hgd _ x ho b o hx (wvs l) _ hc Tryd.underlying61 rfl (by rw [wvs_len, hl.out]; exact size_wd) h
theorem st_wd {ops : Array Oper} {rest : List Oper} {op : Oper} {a : Act} {w : World} {Q : Exit → Act → World → Prop} (hgd : op.guard = none) (x y : Operand) (ho : op.op = .store 61 x y)
    (b o : Nat) (l : List UInt32) (hl : Hid (l.length = 8)) (hx : a.eval x = .pointer (some ⟨b, o, none⟩)) (hy : a.eval y = .agg (wvs l).toArray) (ht : w.there b o 8)
    (h : wpList Tryd.prog ops Q rest (a.put op.dst undef) (w.setCells b o (wvs l))) : wpList Tryd.prog ops Q (op :: rest) a w :=
  wpList_store_mid hgd _ x y ho b o (wvs l).toArray hx hy (by have e := wvs_len l; rw [hl.out] at e; simpa [e] using ht) (by have e := wvs_len l; rw [hl.out] at e; simpa [e] using size_wd) wvs_all h
theorem res_wd {fn : Func} {p : Tmp} (h : fn.results = #[.cell p 61]) (tmps : Array Value) (w : World) (b : Nat) (l : List UInt32) (hl : l.length = 8) (hp : tmps.getD p undef = .pointer (some ⟨b, 0, none⟩)) (hc : w.rangeAt b 0 (wvs l)) :
    (results fn tmps).run Tryd.prog w = .ok (.agg (wvs l).toArray) w := results_cell_mid h tmps w b 0 (wvs l) _ hp hc Tryd.underlying61 rfl (by rw [wvs_len, hl]; exact size_wd)

theorem size_w64 : (Tryd.prog.info? 39).map (·.size) = some 64 := by kernel_rfl
theorem ld_w64 {ops : Array Oper} {rest : List Oper} {op : Oper} {a : Act} {w : World} {Q : Exit → Act → World → Prop} (hgd : op.guard = none) (x : Operand) (ho : op.op = .load 39 x)
    (b o : Nat) (l : List UInt32) (hl : Hid (l.length = 64)) (hx : a.eval x = .pointer (some ⟨b, o, none⟩)) (hc : w.rangeAt b o (wvs l))
    (h : wpList Tryd.prog ops Q rest (a.put op.dst (.agg (wvs l).toArray)) w) : wpList Tryd.prog ops Q (op :: rest) a w :=
  wpList_load_mid hgd _ x ho b o hx (wvs l) _ hc Tryd.underlying39 rfl (by rw [wvs_len, hl.out]; exact size_w64) h
theorem st_w64 {ops : Array Oper} {rest : List Oper} {op : Oper} {a : Act} {w : World} {Q : Exit → Act → World → Prop} (hgd : op.guard = none) (x y : Operand) (ho : op.op = .store 39 x y)
    (b o : Nat) (l : List UInt32) (hl : Hid (l.length = 64)) (hx : a.eval x = .pointer (some ⟨b, o, none⟩)) (hy : a.eval y = .agg (wvs l).toArray) (ht : w.there b o 64)
    (h : wpList Tryd.prog ops Q rest (a.put op.dst undef) (w.setCells b o (wvs l))) : wpList Tryd.prog ops Q (op :: rest) a w :=
  wpList_store_mid hgd _ x y ho b o (wvs l).toArray hx hy (by have e := wvs_len l; rw [hl.out] at e; simpa [e] using ht) (by have e := wvs_len l; rw [hl.out] at e; simpa [e] using size_w64) wvs_all h
theorem res_w64 {fn : Func} {p : Tmp} (h : fn.results = #[.cell p 39]) (tmps : Array Value) (w : World) (b : Nat) (l : List UInt32) (hl : l.length = 64) (hp : tmps.getD p undef = .pointer (some ⟨b, 0, none⟩)) (hc : w.rangeAt b 0 (wvs l)) :
    (results fn tmps).run Tryd.prog w = .ok (.agg (wvs l).toArray) w := results_cell_mid h tmps w b 0 (wvs l) _ hp hc Tryd.underlying39 rfl (by rw [wvs_len, hl]; exact size_w64)

theorem size_b64 : (Tryd.prog.info? 32).map (·.size) = some 64 := by kernel_rfl
theorem ld_b64 {ops : Array Oper} {rest : List Oper} {op : Oper} {a : Act} {w : World} {Q : Exit → Act → World → Prop} (hgd : op.guard = none) (x : Operand) (ho : op.op = .load 32 x)
    (b o : Nat) (l : List UInt8) (hl : Hid (l.length = 64)) (hx : a.eval x = .pointer (some ⟨b, o, none⟩)) (hc : w.rangeAt b o (bvs l))
    (h : wpList Tryd.prog ops Q rest (a.put op.dst (.agg (bvs l).toArray)) w) : wpList Tryd.prog ops Q (op :: rest) a w :=
  wpList_load_mid hgd _ x ho b o hx (bvs l) _ hc Tryd.underlying32 rfl (by rw [bvs_len, hl.out]; exact size_b64) h
theorem st_b64 {ops : Array Oper} {rest : List Oper} {op : Oper} {a : Act} {w : World} {Q : Exit → Act → World → Prop} (hgd : op.guard = none) (x y : Operand) (ho : op.op = .store 32 x y)
    (b o : Nat) (l : List UInt8) (hl : Hid (l.length = 64)) (hx : a.eval x = .pointer (some ⟨b, o, none⟩)) (hy : a.eval y = .agg (bvs l).toArray) (ht : w.there b o 64)
    (h : wpList Tryd.prog ops Q rest (a.put op.dst undef) (w.setCells b o (bvs l))) : wpList Tryd.prog ops Q (op :: rest) a w :=
  wpList_store_mid hgd _ x y ho b o (bvs l).toArray hx hy (by have e := bvs_len l; rw [hl.out] at e; simpa [e] using ht) (by have e := bvs_len l; rw [hl.out] at e; simpa [e] using size_b64) bvs_all h
theorem res_b64 {fn : Func} {p : Tmp} (h : fn.results = #[.cell p 32]) (tmps : Array Value) (w : World) (b : Nat) (l : List UInt8) (hl : l.length = 64) (hp : tmps.getD p undef = .pointer (some ⟨b, 0, none⟩)) (hc : w.rangeAt b 0 (bvs l)) :
    (results fn tmps).run Tryd.prog w = .ok (.agg (bvs l).toArray) w := results_cell_mid h tmps w b 0 (bvs l) _ hp hc Tryd.underlying32 rfl (by rw [bvs_len, hl]; exact size_b64)

theorem size_id : (Tryd.prog.info? 26).map (·.size) = some 32 := by kernel_rfl
theorem ld_id {ops : Array Oper} {rest : List Oper} {op : Oper} {a : Act} {w : World} {Q : Exit → Act → World → Prop} (hgd : op.guard = none) (x : Operand) (ho : op.op = .load 26 x)
    (b o : Nat) (l : List UInt8) (hl : Hid (l.length = 32)) (hx : a.eval x = .pointer (some ⟨b, o, none⟩)) (hc : w.rangeAt b o (bvs l))
    (h : wpList Tryd.prog ops Q rest (a.put op.dst (.agg (bvs l).toArray)) w) : wpList Tryd.prog ops Q (op :: rest) a w :=
  wpList_load_mid hgd _ x ho b o hx (bvs l) _ hc Tryd.underlying26 rfl (by rw [bvs_len, hl.out]; exact size_id) h
theorem st_id {ops : Array Oper} {rest : List Oper} {op : Oper} {a : Act} {w : World} {Q : Exit → Act → World → Prop} (hgd : op.guard = none) (x y : Operand) (ho : op.op = .store 26 x y)
    (b o : Nat) (l : List UInt8) (hl : Hid (l.length = 32)) (hx : a.eval x = .pointer (some ⟨b, o, none⟩)) (hy : a.eval y = .agg (bvs l).toArray) (ht : w.there b o 32)
    (h : wpList Tryd.prog ops Q rest (a.put op.dst undef) (w.setCells b o (bvs l))) : wpList Tryd.prog ops Q (op :: rest) a w :=
  wpList_store_mid hgd _ x y ho b o (bvs l).toArray hx hy (by have e := bvs_len l; rw [hl.out] at e; simpa [e] using ht) (by have e := bvs_len l; rw [hl.out] at e; simpa [e] using size_id) bvs_all h
theorem res_id {fn : Func} {p : Tmp} (h : fn.results = #[.cell p 26]) (tmps : Array Value) (w : World) (b : Nat) (l : List UInt8) (hl : l.length = 32) (hp : tmps.getD p undef = .pointer (some ⟨b, 0, none⟩)) (hc : w.rangeAt b 0 (bvs l)) :
    (results fn tmps).run Tryd.prog w = .ok (.agg (bvs l).toArray) w := results_cell_mid h tmps w b 0 (bvs l) _ hp hc Tryd.underlying26 rfl (by rw [bvs_len, hl]; exact size_id)

theorem size_b16 : (Tryd.prog.info? 85).map (·.size) = some 16 := by kernel_rfl
theorem ld_b16 {ops : Array Oper} {rest : List Oper} {op : Oper} {a : Act} {w : World} {Q : Exit → Act → World → Prop} (hgd : op.guard = none) (x : Operand) (ho : op.op = .load 85 x)
    (b o : Nat) (l : List UInt8) (hl : Hid (l.length = 16)) (hx : a.eval x = .pointer (some ⟨b, o, none⟩)) (hc : w.rangeAt b o (bvs l))
    (h : wpList Tryd.prog ops Q rest (a.put op.dst (.agg (bvs l).toArray)) w) : wpList Tryd.prog ops Q (op :: rest) a w :=
  wpList_load_mid hgd _ x ho b o hx (bvs l) _ hc Tryd.underlying85 rfl (by rw [bvs_len, hl.out]; exact size_b16) h
theorem st_b16 {ops : Array Oper} {rest : List Oper} {op : Oper} {a : Act} {w : World} {Q : Exit → Act → World → Prop} (hgd : op.guard = none) (x y : Operand) (ho : op.op = .store 85 x y)
    (b o : Nat) (l : List UInt8) (hl : Hid (l.length = 16)) (hx : a.eval x = .pointer (some ⟨b, o, none⟩)) (hy : a.eval y = .agg (bvs l).toArray) (ht : w.there b o 16)
    (h : wpList Tryd.prog ops Q rest (a.put op.dst undef) (w.setCells b o (bvs l))) : wpList Tryd.prog ops Q (op :: rest) a w :=
  wpList_store_mid hgd _ x y ho b o (bvs l).toArray hx hy (by have e := bvs_len l; rw [hl.out] at e; simpa [e] using ht) (by have e := bvs_len l; rw [hl.out] at e; simpa [e] using size_b16) bvs_all h
theorem res_b16 {fn : Func} {p : Tmp} (h : fn.results = #[.cell p 85]) (tmps : Array Value) (w : World) (b : Nat) (l : List UInt8) (hl : l.length = 16) (hp : tmps.getD p undef = .pointer (some ⟨b, 0, none⟩)) (hc : w.rangeAt b 0 (bvs l)) :
    (results fn tmps).run Tryd.prog w = .ok (.agg (bvs l).toArray) w := results_cell_mid h tmps w b 0 (bvs l) _ hp hc Tryd.underlying85 rfl (by rw [bvs_len, hl]; exact size_b16)

theorem size_u32 (w : World) : (sizeOf 30).run Tryd.prog w = .ok 1 w := by kernel_rfl
theorem size_u8' (w : World) : (sizeOf 5).run Tryd.prog w = .ok 1 w := by kernel_rfl
theorem index_words {t : TypeId} {n : Nat} (ht : Tryd.prog.underlying t = some (.array n 30)) {l : List UInt32} (hl : l.length = n) {k : Nat} (hk : k < l.length) (w : World) :
    (Instr.index t (.agg (wvs l).toArray) (.int .i64 (k : Int))).run Tryd.prog w = .ok (wv l[k]) w := by
  have hx : (wvs l).toArray[k]? = some (wv l[k]) := by simp [wvs, hk]
  simp only [Instr.index, asIntOf, Sem.run_bind, Sem.run_pure, Result.andThen_ok, run_underlying ht, size_u32]
  rw [if_pos ⟨by omega, by omega⟩]
  simp only [Sem.run_bind, size_u32, Result.andThen_ok, Int.toNat_natCast, Nat.mul_one]
  simp only [part, isAgg, Sem.run_bind, run_underlying Tryd.underlying30, Result.andThen_ok, Sem.run_pure, Bool.false_eq_true, if_false, hx]
theorem index_bytes {t : TypeId} {n : Nat} (ht : Tryd.prog.underlying t = some (.array n 5)) {l : List UInt8} (hl : l.length = n) {k : Nat} (hk : k < l.length) (w : World) :
    (Instr.index t (.agg (bvs l).toArray) (.int .i64 (k : Int))).run Tryd.prog w = .ok (bv l[k]) w := by
  have hx : (bvs l).toArray[k]? = some (bv l[k]) := by simp [bvs, hk]
  simp only [Instr.index, asIntOf, Sem.run_bind, Sem.run_pure, Result.andThen_ok, run_underlying ht, size_u8']
  rw [if_pos ⟨by omega, by omega⟩]
  simp only [Sem.run_bind, size_u8', Result.andThen_ok, Int.toNat_natCast, Nat.mul_one]
  simp only [part, isAgg, Sem.run_bind, run_underlying Tryd.underlying5, Result.andThen_ok, Sem.run_pure, Bool.false_eq_true, if_false, hx]
theorem bl_range {w : World} (cs : List Value) (t : TypeId) : (w.alloc (.cells cs.toArray t)).rangeAt w.heap.size 0 cs := fun j v hv => by
  rw [Nat.zero_add, Bl.cell (Bl.new w t cs) j]
  exact hv
end Go.Proofs.YtgjkahoblopddaaDoor
