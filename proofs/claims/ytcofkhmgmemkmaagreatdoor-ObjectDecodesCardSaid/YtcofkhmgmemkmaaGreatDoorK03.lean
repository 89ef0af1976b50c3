/-
  ROWS OF CELLS: blocks known whole, and loads and stores of arrays by value.
  THE STEPS OF A BLOCK: 64 rounds on eight words.
  A BLOCK, DRAWN OUT TO 64 WORDS.
-/
import Derived.Test.YtcofkhmgmemkmaaGreatDoorK02
import Derived.Deep.MidRow
import Derived.ChangeKeysEq
import Derived.IntWalk
namespace Go.Proofs.YtcofkhmgmemkmaaGreatDoor.S3
set_option maxRecDepth 100000
set_option linter.unusedVariables false
set_option linter.unusedSimpArgs false
open Go.RowKit Go.WideShapes Go.ChangeShapes

theorem below_setCells {B : Nat} {a w : World} (h : Below B a w) {b : Nat} (hb : B ≤ b) (o : Nat) (vs : List Value) : Below B a (w.setCells b o vs) := by
  obtain ⟨h1, h2, h3, h4, h5⟩ := setCells_os b vs o w
  exact ⟨h1.trans h.os, h2.trans h.tape, h3.trans h.output, by rw [h4]; exact h.size, fun k hk => (h5 k (by omega)).trans (h.block k hk)⟩
theorem size_setCells (w : World) (b o : Nat) (vs : List Value) : (w.setCells b o vs).heap.size = w.heap.size := (setCells_os b vs o w).2.2.2.1
theorem there_keep {w w' : World} {b o n : Nat} (h : w.there b o n) (hk : w'.heap[b]? = w.heap[b]?) : w'.there b o n := fun j hj => by
  obtain ⟨h1, h2⟩ := h j hj
  exact ⟨by rw [World.cell?_of_block (a := ⟨b, o + j, none⟩) hk]; exact h1, (World.frozen?_of_block (a := ⟨b, o + j, none⟩) hk).trans h2⟩
theorem there_below {w w' : World} {b o n B : Nat} (h : w.there b o n) (hb : Below B w w') (hB : b < B) : w'.there b o n := there_keep h (hb.block b hB)
/-- A block's cells from its start on, all of which may be stored into. -/
structure Lies (W : World) (b k : Nat) (l : List Value) : Prop where
  rg : W.rangeAt b 0 l
  th : W.there b 0 k
  lt : b < W.heap.size
  len : l.length = k
section
variable {W W' : World} {b k : Nat} {l : List Value}
theorem Lies.below (h : Lies W b k l) {B : Nat} (hb : Below B W W') (hB : b < B) : Lies W' b k l :=
  ⟨rangeAt_keep h.rg (hb.block b hB), there_below h.th hb hB, Nat.lt_of_lt_of_le h.lt hb.size, h.len⟩
theorem Lies.other (h : Lies W b k l) {b' : Nat} (hn : b ≠ b') (o : Nat) (vs : List Value) : Lies (W.setCells b' o vs) b k l :=
  ⟨rangeAt_keep h.rg ((setCells_os b' vs o W).2.2.2.2 b hn), World.there_setCells h.th _ _ _, by rw [(setCells_os b' vs o W).2.2.2.1]; exact h.lt, h.len⟩
theorem Lies.set_ (h : Lies W b k l) {l' : List Value} (hl : l'.length = k) : Lies (W.setCells b 0 l') b k l' :=
  ⟨World.rangeAt_setCells_same _ _ _ _ (by rw [hl]; exact h.th), World.there_setCells h.th _ _ _, by rw [(setCells_os b l' 0 W).2.2.2.1]; exact h.lt, hl⟩
theorem Lies.alloc (h : Lies W b k l) (o : Obj) : Lies (W.alloc o) b k l := h.below ((Below.refl W.heap.size W).alloc (Nat.le_refl _) o) h.lt
theorem Lies.new (w : World) (cs : List Value) (t : TypeId) : Lies (w.alloc (.cells cs.toArray t)) w.heap.size cs.length cs := by
  have hb := Bl.new w t cs
  refine ⟨fun j v hv => by rw [Nat.zero_add, hb.cell j]; exact hv, fun j hj => ⟨?_, hb.frozen _⟩, hb.lt, rfl⟩
  rw [Nat.zero_add, hb.cell j, List.getElem?_eq_getElem hj]
  rfl
theorem Lies.cell (h : Lies W b k l) {j : Nat} {v : Value} (hv : l[j]? = some v) : W.cell? ⟨b, j, none⟩ = some v := by
  have := h.rg j v hv
  rwa [Nat.zero_add] at this
theorem Lies.frozen (h : Lies W b k l) {j : Nat} (hj : j < k) : W.frozen? ⟨b, j, none⟩ = false := by
  have := (h.th j hj).2
  rwa [Nat.zero_add] at this
theorem Lies.drewN (h : Lies W b k l) (m : Nat) : Lies (W.drewN m) b k l := ⟨h.rg, h.th, h.lt, h.len⟩
end

theorem Lies.mv {W W' : World} {S : Nat → Prop} {b k : Nat} {l : List Value} (h : Lies W b k l) (hm : Mv S W W') (hn : ¬ S b) : Lies W' b k l :=
  ⟨rangeAt_keep h.rg (hm.block b h.lt hn), there_keep h.th (hm.block b h.lt hn), Nat.lt_of_lt_of_le h.lt hm.size, h.len⟩
theorem Lies.set1 {W : World} {b k : Nat} {l : List Value} (h : Lies W b k l) (j : Nat) (u : Value) : Lies (W.setCell ⟨b, j, none⟩ u) b k (l.set j u) := by
  refine ⟨fun i v hv => ?_, fun i hi => ?_, by simpa [World.setCell] using h.lt, by rw [List.length_set]; exact h.len⟩
  · have hi : i < l.length := by have := (List.getElem?_eq_some_iff.1 hv).1; simpa using this
    by_cases hij : j = i
    · subst hij
      rw [List.getElem?_set_self hi] at hv
      injection hv with hv
      subst hv
      have hs := (h.th j (by rw [← h.len]; exact hi)).1
      rw [Nat.zero_add] at hs ⊢
      exact World.cell?_setCell_same' W _ _ hs
    · rw [List.getElem?_set_ne hij] at hv
      have := h.rg i v hv
      rw [Nat.zero_add] at this ⊢
      rw [World.cell?_setCell_other (a := ⟨b, j, none⟩) (b := ⟨b, i, none⟩) W u (fun e => hij (by simp at e))]
      exact this
  · exact (World.there_setCells h.th b j [u] : (W.setCells b j [u]).there b 0 k) i hi
def wvs (l : List UInt32) : List Value := l.map wv
theorem wvs_len (l : List UInt32) : (wvs l).length = l.length := by simp [wvs]
theorem wvs_at (l : List UInt32) {j : Nat} (h : j < l.length) : (wvs l)[j]? = some (wv l[j]) := by simp [wvs, h]
theorem wvs_all {l : List UInt32} : (wvs l).toArray.all (·.oneCell') = true := all_oneCell_toArray (fun v hv => by simp only [wvs, List.mem_map] at hv; obtain ⟨x, _, rfl⟩ := hv; rfl)
theorem bvs_all {l : List UInt8} : (bvs l).toArray.all (·.oneCell') = true := all_oneCell_toArray (bvs_one l)

theorem size_w8 : (Tryz.prog.info? 129).map (·.size) = some 8 := by kernel_rfl
theorem ld_w8 {ops : Array Oper} {rest : List Oper} {op : Oper} {a : Act} {w : World} {Q : Exit → Act → World → Prop} (hgd : op.guard = none) (x : Operand) (ho : op.op = .load 129 x)
    (b o : Nat) (l : List UInt32) (hl : Hid (l.length = 8)) (hx : a.eval x = .pointer (some ⟨b, o, none⟩)) (hc : w.rangeAt b o (wvs l))
    (h : wpList Tryz.prog ops Q rest (a.put op.dst (.agg (wvs l).toArray)) w) : wpList Tryz.prog ops Q (op :: rest) a w :=
  wpList_load_mid hgd _ x ho b o hx (wvs l) _ hc Tryz.underlying129 rfl (by rw [wvs_len, hl.out]; exact size_w8) h
theorem st_w8 {ops : Array Oper} {rest : List Oper} {op : Oper} {a : Act} {w : World} {Q : Exit → Act → World → Prop} (hgd : op.guard = none) (x y : Operand) (ho : op.op = .store 129 x y)
    (b o : Nat) (l : List UInt32) (hl : Hid (l.length = 8)) (hx : a.eval x = .pointer (some ⟨b, o, none⟩)) (hy : a.eval y = .agg (wvs l).toArray) (ht : w.there b o 8)
    (h : wpList Tryz.prog ops Q rest (a.put op.dst undef) (w.setCells b o (wvs l))) : wpList Tryz.prog ops Q (op :: rest) a w :=
  wpList_store_mid hgd _ x y ho b o (wvs l).toArray hx hy (by have e := wvs_len l; rw [hl.out] at e; simpa [e] using ht) (by have e := wvs_len l; rw [hl.out] at e; simpa [e] using size_w8) wvs_all h
theorem res_w8 {fn : Func} {p : Tmp} (h : fn.results = #[.cell p 129]) (tmps : Array Value) (w : World) (b : Nat) (l : List UInt32) (hl : l.length = 8) (hp : tmps.getD p undef = .pointer (some ⟨b, 0, none⟩)) (hc : w.rangeAt b 0 (wvs l)) :
    (results fn tmps).run Tryz.prog w = .ok (.agg (wvs l).toArray) w := results_cell_mid h tmps w b 0 (wvs l) _ hp hc Tryz.underlying129 rfl (by rw [wvs_len, hl]; exact size_w8)

theorem size_wd : (Tryz.prog.info? 132).map (·.size) = some 8 := by kernel_rfl
theorem ld_wd {ops : Array Oper} {rest : List Oper} {op : Oper} {a : Act} {w : World} {Q : Exit → Act → World → Prop} (hgd : op.guard = none) (x : Operand) (ho : op.op = .load 132 x)
    (b o : Nat) (l : List UInt32) (hl : Hid (l.length = 8)) (hx : a.eval x = .pointer (some ⟨b, o, none⟩)) (hc : w.rangeAt b o (wvs l))
    (h : wpList Tryz.prog ops Q rest (a.put op.dst (.agg (wvs l).toArray)) w) : wpList Tryz.prog ops Q (op :: rest) a w :=
  wpList_load_mid hgd _ x ho b o hx (wvs l) _ hc Tryz.underlying132 rfl (by rw [wvs_len, hl.out]; exact size_wd) h
theorem st_wd {ops : Array Oper} {rest : List Oper} {op : Oper} {a : Act} {w : World} {Q : Exit → Act → World → Prop} (hgd : op.guard = none) (x y : Operand) (ho : op.op = .store 132 x y)
    (b o : Nat) (l : List UInt32) (hl : Hid (l.length = 8)) (hx : a.eval x = .pointer (some ⟨b, o, none⟩)) (hy : a.eval y = .agg (wvs l).toArray) (ht : w.there b o 8)
    (h : wpList Tryz.prog ops Q rest (a.put op.dst undef) (w.setCells b o (wvs l))) : wpList Tryz.prog ops Q (op :: rest) a w :=
  wpList_store_mid hgd _ x y ho b o (wvs l).toArray hx hy (by have e := wvs_len l; rw [hl.out] at e; simpa [e] using ht) (by have e := wvs_len l; rw [hl.out] at e; simpa [e] using size_wd) wvs_all h
theorem res_wd {fn : Func} {p : Tmp} (h : fn.results = #[.cell p 132]) (tmps : Array Value) (w : World) (b : Nat) (l : List UInt32) (hl : l.length = 8) (hp : tmps.getD p undef = .pointer (some ⟨b, 0, none⟩)) (hc : w.rangeAt b 0 (wvs l)) :
    (results fn tmps).run Tryz.prog w = .ok (.agg (wvs l).toArray) w := results_cell_mid h tmps w b 0 (wvs l) _ hp hc Tryz.underlying132 rfl (by rw [wvs_len, hl]; exact size_wd)

theorem size_w64 : (Tryz.prog.info? 152).map (·.size) = some 64 := by kernel_rfl
theorem ld_w64 {ops : Array Oper} {rest : List Oper} {op : Oper} {a : Act} {w : World} {Q : Exit → Act → World → Prop} (hgd : op.guard = none) (x : Operand) (ho : op.op = .load 152 x)
    (b o : Nat) (l : List UInt32) (hl : Hid (l.length = 64)) (hx : a.eval x = .pointer (some ⟨b, o, none⟩)) (hc : w.rangeAt b o (wvs l))
    (h : wpList Tryz.prog ops Q rest (a.put op.dst (.agg (wvs l).toArray)) w) : wpList Tryz.prog ops Q (op :: rest) a w :=
  wpList_load_mid hgd _ x ho b o hx (wvs l) _ hc Tryz.underlying152 rfl (by rw [wvs_len, hl.out]; exact size_w64) h
theorem st_w64 {ops : Array Oper} {rest : List Oper} {op : Oper} {a : Act} {w : World} {Q : Exit → Act → World → Prop} (hgd : op.guard = none) (x y : Operand) (ho : op.op = .store 152 x y)
    (b o : Nat) (l : List UInt32) (hl : Hid (l.length = 64)) (hx : a.eval x = .pointer (some ⟨b, o, none⟩)) (hy : a.eval y = .agg (wvs l).toArray) (ht : w.there b o 64)
    (h : wpList Tryz.prog ops Q rest (a.put op.dst undef) (w.setCells b o (wvs l))) : wpList Tryz.prog ops Q (op :: rest) a w :=
  wpList_store_mid hgd _ x y ho b o (wvs l).toArray hx hy (by have e := wvs_len l; rw [hl.out] at e; simpa [e] using ht) (by have e := wvs_len l; rw [hl.out] at e; simpa [e] using size_w64) wvs_all h
theorem res_w64 {fn : Func} {p : Tmp} (h : fn.results = #[.cell p 152]) (tmps : Array Value) (w : World) (b : Nat) (l : List UInt32) (hl : l.length = 64) (hp : tmps.getD p undef = .pointer (some ⟨b, 0, none⟩)) (hc : w.rangeAt b 0 (wvs l)) :
    (results fn tmps).run Tryz.prog w = .ok (.agg (wvs l).toArray) w := results_cell_mid h tmps w b 0 (wvs l) _ hp hc Tryz.underlying152 rfl (by rw [wvs_len, hl]; exact size_w64)

theorem size_b64 : (Tryz.prog.info? 149).map (·.size) = some 64 := by kernel_rfl
theorem ld_b64 {ops : Array Oper} {rest : List Oper} {op : Oper} {a : Act} {w : World} {Q : Exit → Act → World → Prop} (hgd : op.guard = none) (x : Operand) (ho : op.op = .load 149 x)
    (b o : Nat) (l : List UInt8) (hl : Hid (l.length = 64)) (hx : a.eval x = .pointer (some ⟨b, o, none⟩)) (hc : w.rangeAt b o (bvs l))
    (h : wpList Tryz.prog ops Q rest (a.put op.dst (.agg (bvs l).toArray)) w) : wpList Tryz.prog ops Q (op :: rest) a w :=
  wpList_load_mid hgd _ x ho b o hx (bvs l) _ hc Tryz.underlying149 rfl (by rw [bvs_len, hl.out]; exact size_b64) h
theorem st_b64 {ops : Array Oper} {rest : List Oper} {op : Oper} {a : Act} {w : World} {Q : Exit → Act → World → Prop} (hgd : op.guard = none) (x y : Operand) (ho : op.op = .store 149 x y)
    (b o : Nat) (l : List UInt8) (hl : Hid (l.length = 64)) (hx : a.eval x = .pointer (some ⟨b, o, none⟩)) (hy : a.eval y = .agg (bvs l).toArray) (ht : w.there b o 64)
    (h : wpList Tryz.prog ops Q rest (a.put op.dst undef) (w.setCells b o (bvs l))) : wpList Tryz.prog ops Q (op :: rest) a w :=
  wpList_store_mid hgd _ x y ho b o (bvs l).toArray hx hy (by have e := bvs_len l; rw [hl.out] at e; simpa [e] using ht) (by have e := bvs_len l; rw [hl.out] at e; simpa [e] using size_b64) bvs_all h
theorem res_b64 {fn : Func} {p : Tmp} (h : fn.results = #[.cell p 149]) (tmps : Array Value) (w : World) (b : Nat) (l : List UInt8) (hl : l.length = 64) (hp : tmps.getD p undef = .pointer (some ⟨b, 0, none⟩)) (hc : w.rangeAt b 0 (bvs l)) :
    (results fn tmps).run Tryz.prog w = .ok (.agg (bvs l).toArray) w := results_cell_mid h tmps w b 0 (bvs l) _ hp hc Tryz.underlying149 rfl (by rw [bvs_len, hl]; exact size_b64)

theorem size_id : (Tryz.prog.info? 27).map (·.size) = some 32 := by kernel_rfl
theorem ld_id {ops : Array Oper} {rest : List Oper} {op : Oper} {a : Act} {w : World} {Q : Exit → Act → World → Prop} (hgd : op.guard = none) (x : Operand) (ho : op.op = .load 27 x)
    (b o : Nat) (l : List UInt8) (hl : Hid (l.length = 32)) (hx : a.eval x = .pointer (some ⟨b, o, none⟩)) (hc : w.rangeAt b o (bvs l))
    (h : wpList Tryz.prog ops Q rest (a.put op.dst (.agg (bvs l).toArray)) w) : wpList Tryz.prog ops Q (op :: rest) a w :=
  wpList_load_mid hgd _ x ho b o hx (bvs l) _ hc Tryz.underlying27 rfl (by rw [bvs_len, hl.out]; exact size_id) h
theorem st_id {ops : Array Oper} {rest : List Oper} {op : Oper} {a : Act} {w : World} {Q : Exit → Act → World → Prop} (hgd : op.guard = none) (x y : Operand) (ho : op.op = .store 27 x y)
    (b o : Nat) (l : List UInt8) (hl : Hid (l.length = 32)) (hx : a.eval x = .pointer (some ⟨b, o, none⟩)) (hy : a.eval y = .agg (bvs l).toArray) (ht : w.there b o 32)
    (h : wpList Tryz.prog ops Q rest (a.put op.dst undef) (w.setCells b o (bvs l))) : wpList Tryz.prog ops Q (op :: rest) a w :=
  wpList_store_mid hgd _ x y ho b o (bvs l).toArray hx hy (by have e := bvs_len l; rw [hl.out] at e; simpa [e] using ht) (by have e := bvs_len l; rw [hl.out] at e; simpa [e] using size_id) bvs_all h
theorem res_id {fn : Func} {p : Tmp} (h : fn.results = #[.cell p 27]) (tmps : Array Value) (w : World) (b : Nat) (l : List UInt8) (hl : l.length = 32) (hp : tmps.getD p undef = .pointer (some ⟨b, 0, none⟩)) (hc : w.rangeAt b 0 (bvs l)) :
    (results fn tmps).run Tryz.prog w = .ok (.agg (bvs l).toArray) w := results_cell_mid h tmps w b 0 (bvs l) _ hp hc Tryz.underlying27 rfl (by rw [bvs_len, hl]; exact size_id)

theorem size_u32 (w : World) : (sizeOf 32).run Tryz.prog w = .ok 1 w := by kernel_rfl
theorem size_u8' (w : World) : (sizeOf 5).run Tryz.prog w = .ok 1 w := by kernel_rfl
theorem index_words {t : TypeId} {n : Nat} (ht : Tryz.prog.underlying t = some (.array n 32)) {l : List UInt32} (hl : l.length = n) {k : Nat} (hk : k < l.length) (w : World) :
    (Instr.index t (.agg (wvs l).toArray) (.int .i64 (k : Int))).run Tryz.prog w = .ok (wv l[k]) w := by
  have hx : (wvs l).toArray[k]? = some (wv l[k]) := by simp [wvs, hk]
  simp only [Instr.index, asIntOf, Sem.run_bind, Sem.run_pure, Result.andThen_ok, run_underlying ht, size_u32]
  rw [if_pos ⟨by omega, by omega⟩]
  simp only [Sem.run_bind, size_u32, Result.andThen_ok, Int.toNat_natCast, Nat.mul_one]
  simp only [part, isAgg, Sem.run_bind, run_underlying Tryz.underlying32, Result.andThen_ok, Sem.run_pure, Bool.false_eq_true, if_false, hx]
theorem index_bytes {t : TypeId} {n : Nat} (ht : Tryz.prog.underlying t = some (.array n 5)) {l : List UInt8} (hl : l.length = n) {k : Nat} (hk : k < l.length) (w : World) :
    (Instr.index t (.agg (bvs l).toArray) (.int .i64 (k : Int))).run Tryz.prog w = .ok (bv l[k]) w := by
  have hx : (bvs l).toArray[k]? = some (bv l[k]) := by simp [bvs, hk]
  simp only [Instr.index, asIntOf, Sem.run_bind, Sem.run_pure, Result.andThen_ok, run_underlying ht, size_u8']
  rw [if_pos ⟨by omega, by omega⟩]
  simp only [Sem.run_bind, size_u8', Result.andThen_ok, Int.toNat_natCast, Nat.mul_one]
  simp only [part, isAgg, Sem.run_bind, run_underlying Tryz.underlying5, Result.andThen_ok, Sem.run_pure, Bool.false_eq_true, if_false, hx]
theorem bl_range {w : World} (cs : List Value) (t : TypeId) : (w.alloc (.cells cs.toArray t)).rangeAt w.heap.size 0 cs := fun j v hv => by
  rw [Nat.zero_add, Bl.cell (Bl.new w t cs) j]
  exact hv
end Go.Proofs.YtcofkhmgmemkmaaGreatDoor.S3
namespace Go.Proofs.YtcofkhmgmemkmaaGreatDoor.S3
set_option maxRecDepth 100000
set_option linter.unusedVariables false
set_option linter.unusedSimpArgs false
open Go.RowKit

def ksW : List UInt32 := [1116352408, 1899447441, 3049323471, 3921009573, 961987163, 1508970993, 2453635748, 2870763221, 3624381080, 310598401, 607225278, 1426881987, 1925078388, 2162078206, 2614888103, 3248222580, 3835390401, 4022224774, 264347078, 604807628, 770255983, 1249150122, 1555081692, 1996064986, 2554220882, 2821834349, 2952996808, 3210313671, 3336571891, 3584528711, 113926993, 338241895, 666307205, 773529912, 1294757372, 1396182291, 1695183700, 1986661051, 2177026350, 2456956037, 2730485921, 2820302411, 3259730800, 3345764771, 3516065817, 3600352804, 4094571909, 275423344, 430227734, 506948616, 659060556, 883997877, 958139571, 1322822218, 1537002063, 1747873779, 1955562222, 2024104815, 2227730452, 2361852424, 2428436474, 2756734187, 3204031479, 3329325298]
theorem ksW_len : ksW.length = 64 := rfl
/-- The constants stand where the program lays them. -/
structure GK (w : World) : Prop where
  lt : 0 < w.heap.size
  rg : w.rangeAt 0 0 (wvs ksW)
theorem GK.below {w w' : World} (h : GK w) (hb : Below w.heap.size w w') : GK w' :=
  ⟨Nat.lt_of_lt_of_le h.lt hb.size, fun j v hv => (World.cell?_of_block (a := ⟨0, 0 + j, none⟩) (hb.block 0 h.lt)).trans (h.rg j v hv)⟩
theorem GK.drewN {w : World} (h : GK w) (n : Nat) : GK (w.drewN n) := ⟨h.lt, h.rg⟩
theorem GK.cell {w : World} (h : GK w) {j : Nat} (hj : j < 64) : w.cell? ⟨0, j, none⟩ = some (wv (ksW.getD j 0)) := by
  have := h.rg j _ (wvs_at ksW (show j < ksW.length from hj))
  rw [Nat.zero_add] at this
  rw [this, List.getD_eq_getElem?_getD, List.getElem?_eq_getElem (show j < ksW.length from hj)]
  rfl

/-- The eight words that go through the rounds. -/
structure W8 where
  a : UInt32
  b : UInt32
  c : UInt32
  d : UInt32
  e : UInt32
  f : UInt32
  g : UInt32
  h : UInt32
abbrev W8.val (s : W8) : Value := .agg #[wv s.a, wv s.b, wv s.c, wv s.d, wv s.e, wv s.f, wv s.g, wv s.h]
abbrev W8.list (s : W8) : List UInt32 := [s.a, s.b, s.c, s.d, s.e, s.f, s.g, s.h]
def W8.x (s : W8) (k w : UInt32) : UInt32 := s.h + spreadW s.e 6 11 25 + chW s.e s.f s.g + k + w
def W8.y (s : W8) : UInt32 := spreadW s.a 2 13 22 + mjW s.a s.b s.c
def W8.step (s : W8) (k w : UInt32) : W8 := ⟨s.x k w + s.y, s.a, s.b, s.c, s.d + s.x k w, s.e, s.f, s.g⟩
/-- What k rounds come to. -/
def W8.run (s : W8) (ws : List UInt32) : Nat → W8
  | 0 => s
  | k + 1 => (s.run ws k).step (ksW.getD k 0) (ws.getD k 0)

theorem w_sum (x y : UInt32) : ((x + y).toNat : Int) = ((x.toNat : Int) + (y.toNat : Int)) % 4294967296 := by rw [UInt32.toNat_add]; omega
theorem w_x (s : W8) (k w : UInt32) : ((s.x k w).toNat : Int) = ((s.h.toNat : Int) + ((spreadW s.e 6 11 25).toNat : Int) + ((chW s.e s.f s.g).toNat : Int) + (k.toNat : Int) + (w.toNat : Int)) % 4294967296 := by
  unfold W8.x
  simp only [UInt32.toNat_add]
  omega
theorem w_y (s : W8) : ((s.y).toNat : Int) = (((spreadW s.a 2 13 22).toNat : Int) + ((mjW s.a s.b s.c).toNat : Int)) % 4294967296 := by
  unfold W8.y
  simp only [UInt32.toNat_add]
  omega
abbrev Z8 : Array Value := #[.int .u32 0, .int .u32 0, .int .u32 0, .int .u32 0, .int .u32 0, .int .u32 0, .int .u32 0, .int .u32 0]
theorem Z8_new (w : World) : Lies (w.alloc (.cells Z8 129)) w.heap.size 8 Z8.toList := Lies.new w Z8.toList 129
set_option maxRecDepth 100000 in
set_option maxHeartbeats 1600000 in
theorem stepped_any (s : W8) (ws : List UInt32) (hw : ws.length = 64) {w : World} (hg : GK w) :
    Calls Tryz.prog 106 #[s.val, .agg (wvs ws).toArray] w fun e w' => e = .returned (s.run ws 64).val ∧ Below w.heap.size w w' := by
  have HW := Lib.hid hw
  have HG := Lib.hid hg
  have hb1 := Bl.new w 129 [wv s.a, wv s.b, wv s.c, wv s.d, wv s.e, wv s.f, wv s.g, wv s.h]
  obtain ⟨w1, hw1⟩ : ∃ w1, w1 = w.alloc (.cells #[wv s.a, wv s.b, wv s.c, wv s.d, wv s.e, wv s.f, wv s.g, wv s.h] 129) := ⟨_, rfl⟩
  rw [← hw1] at hb1
  have hz1 : w1.heap.size = w.heap.size + 1 := by rw [hw1]; simp
  obtain ⟨w2, hw2⟩ : ∃ w2, w2 = w1.alloc (.cells (wvs ws).toArray 152) := ⟨_, rfl⟩
  have hz2 : w2.heap.size = w.heap.size + 2 := by rw [hw2]; simp [hz1]
  have hr2 : w2.rangeAt (w.heap.size + 1) 0 (wvs ws) := by rw [hw2, ← hz1]; exact bl_range _ _
  have hb2 : Bl w2 w.heap.size 129 [wv s.a, wv s.b, wv s.c, wv s.d, wv s.e, wv s.f, wv s.g, wv s.h] := by rw [hw2]; exact hb1.alloc _
  obtain ⟨w3, hw3⟩ : ∃ w3, w3 = w2.alloc (.cells #[.int .u32 0, .int .u32 0, .int .u32 0, .int .u32 0, .int .u32 0, .int .u32 0, .int .u32 0, .int .u32 0] 129) := ⟨_, rfl⟩
  have hb3 : Bl w3 w.heap.size 129 [wv s.a, wv s.b, wv s.c, wv s.d, wv s.e, wv s.f, wv s.g, wv s.h] := by rw [hw3]; exact hb2.alloc _
  have hbel : Below w.heap.size w w3 := by rw [hw3, hw2, hw1]; exact (((Below.refl _ _).alloc (Nat.le_refl _) _).alloc (by simp) _).alloc (by simp; omega) _
  have hl3 : Lies w3 (w.heap.size + 2) 8 Z8.toList := by rw [hw3, ← hz2]; exact Z8_new w2
  have HL := Lib.hid hl3
  have HB := Lib.hid hbel
  have HG3 := Lib.hid (HG.out.below hbel)
  have HR3 : Hid (w3.rangeAt (w.heap.size + 1) 0 (wvs ws)) := Lib.hid (by rw [hw3]; exact fun j v hv => (World.cell?_of_block (a := ⟨w.heap.size + 1, 0 + j, none⟩) (Below.heap_alloc _ _ _ (by show w.heap.size + 1 < _; omega))).trans (hr2 j v hv))
  have e0 := hb3.cell 0
  have e1 := hb3.cell 1
  have e2 := hb3.cell 2
  have e3 := hb3.cell 3
  have e4 := hb3.cell 4
  have e5 := hb3.cell 5
  have e6 := hb3.cell 6
  have e7 := hb3.cell 7
  simp only [List.getElem?_cons_zero, List.getElem?_cons_succ] at e0 e1 e2 e3 e4 e5 e6 e7
  have HW3 := Lib.hid (hw3.trans (by rw [hw2, hw1]))
  clear hl3 hw hg hb1 hw1 hz1 hw2 hz2 hr2 hb2 hw3 hb3 hbel
  go_enter Tryz.func106, Tryz.ntmps106
  go_wp2
  rw [← HW3.out]
  go_quiet (fail)
  have HR4 := Lib.hid (show (w3.drewN nq).rangeAt (w.heap.size + 1) 0 (wvs ws) from HR3.out)
  go_wp2_with (first | (with_reducible refine ld_w64 rfl _ rfl (w.heap.size + 1) 0 ws HW rfl HR4.out ?_))
  go_loopw [5, 6, 7, 8, 9, 10, 11, 12, 34] (fun va vb vc vd ve vf vg vh i wr => ∃ k : Nat, k ≤ 64 ∧ i = .int .i64 (k : Int) ∧ va = wv (s.run ws k).a ∧ vb = wv (s.run ws k).b ∧ vc = wv (s.run ws k).c ∧ vd = wv (s.run ws k).d ∧ ve = wv (s.run ws k).e ∧ vf = wv (s.run ws k).f ∧ vg = wv (s.run ws k).g ∧ vh = wv (s.run ws k).h ∧ Hid (∃ n, wr = w3.drewN n)) (fun _ _ _ _ _ _ _ _ i _ => 64 - (intOf i).toNat)
  case atStart => exact ⟨0, by omega, rfl, rfl, rfl, rfl, rfl, rfl, rfl, rfl, rfl, Lib.hid ⟨nq, rfl⟩⟩
  case round =>
    obtain ⟨k, hk, rfl, rfl, rfl, rfl, rfl, rfl, rfl, rfl, rfl, HD⟩ := hrel
    obtain ⟨t, ht⟩ : ∃ t, s.run ws k = t := ⟨_, rfl⟩
    have HST : Hid (s.run ws (k + 1) = t.step (ksW.getD k 0) (ws.getD k 0)) := Lib.hid (by rw [← ht]; rfl)
    rw [ht]
    have HRT := Lib.hid ht
    clear ht
    by_cases hlt : k < 64
    · have hd : decide ((k : Int) < 64) = true := by simp; omega
      have hk0 : (0 : Int) ≤ (k : Int) := Int.natCast_nonneg _
      have hk1 : (k : Int) < 64 := by omega
      have hgk : wr.cell? ⟨0, k, none⟩ = some (wv (ksW.getD k 0)) := by
        obtain ⟨n, h⟩ := HD.out
        rw [h]
        exact (HG3.out.drewN n).cell hlt
      have hws : k < ws.length := by rw [HW.out]; exact hlt
      have hix := index_words Tryz.underlying152 HW.out hws
      have hwg : ws.getD k 0 = ws[k] := by rw [List.getD_eq_getElem?_getD, List.getElem?_eq_getElem hws]; rfl
      have HWG := Lib.hid hwg
      clear hwg
      generalize ws[k] = x at hix HWG
      generalize ksW.getD k 0 = kc at hgk HST
      have C1 := Lib.hid (fun j => Calls.quiet_of (n := j) (spread_any t.e 6 11 25 6 11 25 rfl rfl rfl (by omega) (by omega) (by omega) (wr.drewN j)))
      have C2 := Lib.hid (fun j => quiet_eq (n := j) (chosen_any t.e t.f t.g (wr.drewN j)))
      go_wp2
      go_quiet ((first | (go_at_call 109; with_reducible exact C1.out _) | (go_at_call 110; with_reducible exact C2.out _)))
      have D1 := Lib.hid (fun w => spread_any t.a 2 13 22 2 13 22 rfl rfl rfl (by omega) (by omega) (by omega) w)
      have D2 := Lib.hid (fun w => most_any t.a t.b t.c w)
      go_wp2_with (first
        | (go_at_call 109; refine (D1.out _).mono ?_; rintro e w' ⟨rfl, m1, rfl⟩)
        | (go_at_call 111; refine (D2.out _).mono ?_; rintro e w' ⟨rfl, rfl⟩))
      go_roundw
      case rel =>
        have hs := HST.out
        rw [HWG.out] at hs
        refine ⟨k + 1, by omega, by go_num, ?_, ?_, ?_, ?_, ?_, ?_, ?_, ?_, Lib.hid ?_⟩
        · rw [hs, ← w_x, ← w_y, ← w_sum]; rfl
        · rw [hs]; rfl
        · rw [hs]; rfl
        · rw [hs]; rfl
        · rw [hs, ← w_x, ← w_sum]; rfl
        · rw [hs]; rfl
        · rw [hs]; rfl
        · rw [hs]; rfl
        · obtain ⟨n, h⟩ := HD.out
          exact ⟨n + (nq + m1), by rw [h, World.drewN_drewN]⟩
      case measure => simp [intOf]; omega
    · have hd : decide ((k : Int) < 64) = false := by simp; omega
      obtain rfl : k = 64 := by omega
      have HST2 := HST
      clear HST
      have HLr : Hid (Lies wr (w.heap.size + 1 + 1) 8 Z8.toList) := Lib.hid (by obtain ⟨n, h⟩ := HD.out; rw [h]; exact HL.out.drewN n)
      have H8 := Lib.hid (show t.list.length = 8 from rfl)
      go_wp2_with (with_reducible refine st_w8 rfl _ _ rfl (w.heap.size + 1 + 1) 0 t.list H8 rfl rfl HLr.out.th ?_)
      refine bodyPost_ret (res_w8 rfl _ _ (w.heap.size + 1 + 1) t.list rfl rfl (HLr.out.set_ (l' := wvs t.list) rfl).rg) rfl ⟨by rw [HRT.out]; rfl, ?_⟩
      obtain ⟨n, h⟩ := HD.out
      rw [h]
      exact below_setCells (below_drewN HB.out n) (by omega) _ _
end Go.Proofs.YtcofkhmgmemkmaaGreatDoor.S3
namespace Go.Proofs.YtcofkhmgmemkmaaGreatDoor.S3
set_option maxRecDepth 100000
set_option linter.unusedVariables false
set_option linter.unusedSimpArgs false
open Go.RowKit

def wdOf (b : List UInt8) (k : Nat) : UInt32 := UInt32.ofNat (num ((b.drop (4 * k)).take 4))
/-- The first k words of a block. -/
def w16 (b : List UInt8) (k : Nat) : List UInt32 := (List.range k).map (wdOf b)
theorem w16_len (b : List UInt8) (k : Nat) : (w16 b k).length = k := by simp [w16]
theorem w16_succ (b : List UInt8) (k : Nat) : w16 b (k + 1) = w16 b k ++ [wdOf b k] := by simp [w16, List.range_succ]
def nxW (w : List UInt32) (i : Nat) : UInt32 := blendW (w.getD (i - 2) 0) 17 19 10 + w.getD (i - 7) 0 + blendW (w.getD (i - 15) 0) 7 18 3 + w.getD (i - 16) 0
/-- The words, k of them drawn out. -/
def drW (b : List UInt8) : Nat → List UInt32
  | 0 => w16 b 16
  | k + 1 => drW b k ++ [nxW (drW b k) (16 + k)]
theorem drW_len (b : List UInt8) : ∀ k, (drW b k).length = 16 + k
  | 0 => w16_len b 16
  | k + 1 => by rw [drW, List.length_append, drW_len b k]; rfl
/-- Words, filled up with noughts. -/
def fillW (l : List UInt32) : List UInt32 := l ++ List.replicate (64 - l.length) 0
theorem fillW_len {l : List UInt32} (h : l.length ≤ 64) : (fillW l).length = 64 := by simp [fillW]; omega
theorem fillW_set {l : List UInt32} (h : l.length < 64) (x : UInt32) : (fillW l).set l.length x = fillW (l ++ [x]) := by
  unfold fillW
  rw [List.set_append_right _ _ (Nat.le_refl _), Nat.sub_self, show 64 - l.length = (64 - (l ++ [x]).length) + 1 by simp; omega, List.replicate_succ]
  simp
theorem fillW_at {l : List UInt32} {j : Nat} (h : j < l.length) : (wvs (fillW l))[j]? = some (wv (l.getD j 0)) := by
  have : (fillW l)[j]? = some (l.getD j 0) := by
    unfold fillW
    rw [List.getElem?_append_left h, List.getD_eq_getElem?_getD, List.getElem?_eq_getElem h]
    rfl
  simp only [wvs, List.getElem?_map, this, Option.map_some]
theorem fillW_end {l : List UInt32} (h : l.length < 64) : (wvs (fillW l))[l.length]? = some (wv 0) := by
  have : (fillW l)[l.length]? = some 0 := by
    unfold fillW
    rw [List.getElem?_append_right (Nat.le_refl _), Nat.sub_self, List.getElem?_replicate, if_pos (by omega)]
  simp only [wvs, List.getElem?_map, this, Option.map_some]
theorem wvs_set (l : List UInt32) (j : Nat) (x : UInt32) : (wvs l).set j (wv x) = wvs (l.set j x) := by simp [wvs, List.map_set]
def Zw : List UInt32 := fillW []
theorem Zw_len : Zw.length = 64 := fillW_len (by simp)
theorem zero_w64 (w : World) : (zeroValue 152).run Tryz.prog w = .ok (.agg (wvs Zw).toArray) w := by kernel_rfl
theorem al_w64 {ops : Array Oper} {rest : List Oper} {op : Oper} {a : Act} {w : World} {Q : Exit → Act → World → Prop} (hgd : op.guard = none) (ho : op.op = .alloc 152)
    (h : wpList Tryz.prog ops Q rest (a.put op.dst (.pointer (some ⟨w.heap.size, 0, none⟩))) (w.alloc (.cells (wvs Zw).toArray 152))) : wpList Tryz.prog ops Q (op :: rest) a w :=
  wpList_alloc_as hgd _ ho _ zero_w64 h
theorem word_of (l : List UInt8) (h : l.length = 4) : ((num l : Nat) : Int) = ((UInt32.ofNat (num l)).toNat : Int) := by
  have := num_lt l
  rw [h] at this
  rw [UInt32.toNat_ofNat', Nat.mod_eq_of_lt this]
theorem Bl.lies {w : World} {g : Nat} {t : TypeId} {cs : List Value} (h : Bl w g t cs) : Lies w g cs.length cs :=
  ⟨fun j v hv => by rw [Nat.zero_add, h.cell j]; exact hv, fun j hj => ⟨by rw [Nat.zero_add, h.cell j, List.getElem?_eq_getElem hj]; rfl, h.frozen _⟩, h.lt, rfl⟩
/-- A word stored into a block of words does not touch a reader. -/
theorem Rd.word {w : World} {g : Nat} {l : List UInt8} {e : Int} (h : Rd w g l e) {b : Nat} {t : TypeId} {ws : List UInt32} (hb : Bl w b t (wvs ws)) (hne : g ≠ b) (j : Nat) (u : Value) : Rd (w.setCell ⟨b, j, none⟩ u) g l e := by
  obtain ⟨A, n, c, tt, full, h1, hs, ht, hl⟩ := h
  refine ⟨A, n, c, tt, full, h1.far (p := ⟨b, j, none⟩) hne u, ⟨hs.len, hs.cap, hs.max, hs.non, fun h0 => ?_⟩, ht, hl⟩
  obtain ⟨b', o, e1, hlt, hc⟩ := hs.pos h0
  refine ⟨b', o, e1, hlt, fun i hi => ?_⟩
  have hn : b' ≠ b := by
    rintro rfl
    have h2 := hc i hi
    rw [hb.cell (o + i)] at h2
    simp only [wvs, List.getElem?_map, Option.map_eq_some_iff] at h2
    obtain ⟨x, _, hx⟩ := h2
    cases hx
  rw [World.cell?_setCell_other (a := ⟨b, j, none⟩) (b := ⟨b', o + i, none⟩) w u (fun e => hn (by injection e with e; exact e.symm))]
  exact hc i hi
theorem Lies.far {W : World} {b k : Nat} {l : List Value} (h : Lies W b k l) {b' : Nat} (hn : b ≠ b') (j : Nat) (u : Value) : Lies (W.setCell ⟨b', j, none⟩ u) b k l := h.other hn j [u]
theorem blended_1 (x : UInt32) (w : World) : Calls Tryz.prog 112 #[wv x, .int .i64 17, .int .i64 19, .int .i64 10] w fun y w' => y = .returned (wv (blendW x 17 19 10)) ∧ Below w.heap.size w w' :=
  (blended_any x 17 19 10 _ _ _ rfl rfl rfl (by omega) (by omega) (by omega) w).mono fun e w' ⟨he, k, hk⟩ => ⟨he, by rw [hk]; exact below_drewN (Below.refl _ _) k⟩
theorem blended_2 (x : UInt32) (w : World) : Calls Tryz.prog 112 #[wv x, .int .i64 7, .int .i64 18, .int .i64 3] w fun y w' => y = .returned (wv (blendW x 7 18 3)) ∧ Below w.heap.size w w' :=
  (blended_any x 7 18 3 _ _ _ rfl rfl rfl (by omega) (by omega) (by omega) w).mono fun e w' ⟨he, k, hk⟩ => ⟨he, by rw [hk]; exact below_drewN (Below.refl _ _) k⟩
theorem blended_b (x : UInt32) (l m n : Nat) (hl : 1 ≤ l ∧ l ≤ 31) (hm : 1 ≤ m ∧ m ≤ 31) (hn : 1 ≤ n ∧ n ≤ 31) (w : World) :
    Calls Tryz.prog 112 #[wv x, .int .i64 (l : Int), .int .i64 (m : Int), .int .i64 (n : Int)] w fun y w' => y = .returned (wv (blendW x l m n)) ∧ Below w.heap.size w w' :=
  (blended_any x l m n _ _ _ rfl rfl rfl hl hm hn w).mono fun e w' ⟨he, k, hk⟩ => ⟨he, by rw [hk]; exact below_drewN (Below.refl _ _) k⟩

set_option maxRecDepth 100000 in
set_option maxHeartbeats 1600000 in
theorem drawn_any (b : List UInt8) (hl : b.length = 64) (w : World) :
    Calls Tryz.prog 107 #[.agg (bvs b).toArray] w fun e w' => e = .returned (.agg (wvs (drW b 48)).toArray) ∧ Below w.heap.size w w' := by
  have HL := Lib.hid hl
  have hbx : (w.alloc (.cells (bvs b).toArray 149)).heap.size = w.heap.size + 1 := by simp
  have l1 : Lies (w.alloc (.cells (bvs b).toArray 149)) w.heap.size 64 (bvs b) := by
    have := Lies.new w (bvs b) 149
    rwa [bvs_len, hl] at this
  obtain ⟨w1, hw1⟩ : ∃ w1, w1 = w.alloc (.cells (bvs b).toArray 149) := ⟨_, rfl⟩
  have hb1 : Below w.heap.size w w1 := by rw [hw1]; exact (Below.refl _ _).alloc (Nat.le_refl _) _
  rw [← hw1] at hbx l1
  obtain ⟨w2, hw2⟩ : ∃ w2, w2 = w1.alloc (.cells (wvs Zw).toArray 152) := ⟨_, rfl⟩
  have l2 : Lies w2 (w.heap.size + 1) 64 (wvs Zw) := by
    have := Lies.new w1 (wvs Zw) 152
    rw [wvs_len, Zw_len, ← hw2, hbx] at this
    exact this
  have hz2 : w2.heap.size = w.heap.size + 1 + 1 := by rw [hw2]; simp [hbx]
  have l12 : Lies w2 w.heap.size 64 (bvs b) := by rw [hw2]; exact l1.alloc _
  have hb2 : Below w.heap.size w w2 := by rw [hw2]; exact hb1.alloc hb1.size _
  obtain ⟨w3, hw3⟩ : ∃ w3, w3 = w2.alloc (.cells (wvs Zw).toArray 152) := ⟨_, rfl⟩
  have l3 : Bl w3 (w.heap.size + 1 + 1) 152 (wvs (fillW (w16 b 0))) := by
    have := Bl.new w2 152 (wvs Zw)
    rw [← hw3, hz2] at this
    exact this
  have hz3 : w3.heap.size = w.heap.size + 1 + 1 + 1 := by rw [hw3]; simp [hz2]
  have l13 : Lies w3 w.heap.size 64 (bvs b) := by rw [hw3]; exact l12.alloc _
  have l23 : Lies w3 (w.heap.size + 1) 64 (wvs Zw) := by rw [hw3]; exact l2.alloc _
  have hb3 : Below w.heap.size w w3 := by rw [hw3]; exact hb2.alloc hb2.size _
  have hs3 : SlB w3 w3.heap.size (some ⟨w.heap.size, 0, none⟩) 64 64 b := ⟨hl, Nat.le_refl _, by unfold maxLen; omega, fun e => (by cases e), fun _ => ⟨w.heap.size, 0, rfl, by rw [hz3]; omega, fun j hj => by
    have := l13.cell (j := j) (v := bv b[j]) (by simp [bvs, List.getElem?_eq_getElem hj])
    rw [Nat.zero_add]; exact this⟩⟩
  have HW3 := Lib.hid (hw3.trans (by rw [hw2, hw1]))
  have L23 := Lib.hid l23
  have L3 := Lib.hid l3
  have B3 := Lib.hid hb3
  have S3 := Lib.hid hs3
  have Z3 := Lib.hid hz3
  have SZ := Lib.hid (show w2.heap.size = w.heap.size + 1 + 1 ∧ w1.heap.size = w.heap.size + 1 from ⟨hz2, hbx⟩)
  clear hl hbx l1 hw1 hb1 hw2 l2 hz2 l12 hb2 hw3 l3 hz3 l13 l23 hb3 hs3
  go_enter Tryz.func107, Tryz.ntmps107
  go_wp2_with (first | (with_reducible refine al_w64 rfl rfl ?_))
  rw [← HW3.out]
  refine (read_any S3.out (Nat.le_refl _) (by omega)).mono ?_
  rintro e w4 ⟨g, hg, rfl, hR, hb4⟩
  have R4 := Lib.hid hR
  have B4 := Lib.hid (B3.out.trans (hb4.mono B3.out.size))
  have L24 := Lib.hid (L23.out.below hb4 L23.out.lt)
  have L4 := Lib.hid (L3.out.below hb4 L3.out.lt)
  have HG := Lib.hid (show w.heap.size + 1 + 1 < g by have := Z3.out; omega)
  clear hg hR hb4
  go_wp2_with fail
  go_loopw [9] (fun i wr => ∃ k : Nat, k ≤ 16 ∧ i = .int .i64 (k : Int) ∧ Hid (Rd wr g (b.drop (4 * k)) 0) ∧ Hid (Below w.heap.size w wr) ∧ Hid (Lies wr (w.heap.size + 1) 64 (wvs Zw)) ∧ Hid (Bl wr (w.heap.size + 1 + 1) 152 (wvs (fillW (w16 b k))))) (fun i _ => 16 - (intOf i).toNat)
  case atStart => exact ⟨0, by omega, rfl, by simpa using R4, B4, L24, L4⟩
  case round =>
    obtain ⟨k, hk, rfl, hR, hB, hL2, hL3⟩ := hrel
    by_cases hlt : k < 16
    · have hd : decide ((k : Int) < 16) = true := by simp; omega
      have hk0 : (0 : Int) ≤ (k : Int) := Int.natCast_nonneg _
      have hk1 : (k : Int) < 16 := by omega
      have hlen : (b.drop (4 * k)).length = 64 - 4 * k := by rw [List.length_drop, HL.out]
      obtain ⟨o1, o2, o3⟩ := off_ok (b.drop (4 * k)) 4 4 rfl (by omega)
      have hT := take_u32 hR.out
      rw [o1, o2, o3, word_of _ (by rw [List.length_take]; omega), List.drop_drop] at hT
      have HT := Lib.hid hT
      have HK := Lib.hid hlt
      clear hT o1 o2 o3 hlen
      go_wp2_with fail
      refine (HT.out).mono ?_
      rintro e w5 ⟨rfl, hR5, hG5⟩
      have hm : Mv (fun x => x = g) wr w5 := Mv.of_grown hG5 fun y hy => .inl (by injection hy with hy; exact hy.symm)
      have R5 := Lib.hid hR5
      have B5 := Lib.hid (hB.out.trans (below_of_only hG5 (by have := HG.out; omega) hB.out.size))
      have L25 := Lib.hid (hL2.out.mv hm (by have := HG.out; omega))
      have L5 := Lib.hid (hL3.out.grown hG5 (by have := HG.out; intro e; injection e with e; omega))
      have q1 : w5.cell? ⟨w.heap.size + 1 + 1, k, none⟩ = some (wv 0) := by
        have h := fillW_end (l := w16 b k) (by rw [w16_len]; omega)
        rw [w16_len] at h
        rw [L5.out.cell k]
        exact h
      have q2 := L5.out.frozen k
      clear hR5 hG5 hm hR hB hL2 hL3
      go_wp2
      go_roundw
      case rel =>
        refine ⟨k + 1, by have := HK.out; omega, by go_num, Lib.hid ?_, Lib.hid ?_, Lib.hid ?_, Lib.hid ?_⟩
        · rw [show 4 * (k + 1) = 4 * k + 4 by omega]
          exact R5.out.word L5.out (by have := HG.out; omega) k _
        · exact B5.out.setCell (by show w.heap.size ≤ w.heap.size + 1 + 1; omega) _
        · exact L25.out.far (by omega) k _
        · have h := L5.out.set_ k (wv (wdOf b k))
          have h2 := fillW_set (l := w16 b k) (by rw [w16_len]; have := HK.out; omega) (wdOf b k)
          rw [w16_len] at h2
          rw [wvs_set, h2, ← w16_succ] at h
          exact h
      case measure => simp [intOf]; omega
    · have hd : decide ((k : Int) < 16) = false := by simp; omega
      obtain rfl : k = 16 := by omega
      have HB := hB
      have HL2 := hL2
      have HL3 := hL3
      clear hB hL2 hL3 hR R4 B4 L24 L4
      obtain ⟨wo, hwo⟩ : ∃ wo : World, wo = wr := ⟨_, rfl⟩
      rw [← hwo] at HB HL2 HL3 ⊢
      clear hwo
      rw [show ((16 : Nat) : Int) = 16 from rfl]
      go_wp2
      go_loopw [6] (fun i wq => ∃ k : Nat, k ≤ 48 ∧ i = .int .i64 ((16 + k : Nat) : Int) ∧ Hid (Below w.heap.size w wq) ∧ Hid (Lies wq (w.heap.size + 1) 64 (wvs Zw)) ∧ Hid (Bl wq (w.heap.size + 1 + 1) 152 (wvs (fillW (drW b k))))) (fun i _ => 64 - (intOf i).toNat)
      case atStart => exact ⟨0, by omega, rfl, HB, HL2, HL3⟩
      case round =>
        obtain ⟨k, hk, rfl, hB, hL2, hL3⟩ := hrel
        obtain ⟨j, hj⟩ : ∃ j, 16 + k = j := ⟨_, rfl⟩
        have HJ := Lib.hid hj
        rw [hj]
        clear hj
        by_cases hlt : k < 48
        · have hj0 : 16 ≤ j := by have := HJ.out; omega
          have hj1 : j < 64 := by have := HJ.out; omega
          have hd : decide ((j : Int) < 64) = true := by simp; omega
          have hi0 : (16 : Int) ≤ (j : Int) := by omega
          have hi1 : (j : Int) < 64 := by omega
          have hlen := drW_len b k
          rw [HJ.out] at hlen
          have hc : ∀ i, i < j → wr.cell? ⟨w.heap.size + 1 + 1, i, none⟩ = some (wv ((drW b k).getD i 0)) := fun i hi => by
            rw [hL3.out.cell i]
            exact fillW_at (by rw [hlen]; exact hi)
          have he : wr.cell? ⟨w.heap.size + 1 + 1, j, none⟩ = some (wv 0) := by
            rw [hL3.out.cell j]
            have := fillW_end (l := drW b k) (by rw [hlen]; exact hj1)
            rwa [hlen] at this
          have HLEN := Lib.hid hlen
          have HX := Lib.hid (show nxW (drW b k) j = blendW ((drW b k).getD (j - 2) 0) 17 19 10 + (drW b k).getD (j - 7) 0 + blendW ((drW b k).getD (j - 15) 0) 7 18 3 + (drW b k).getD (j - 16) 0 from rfl)
          have c2 := hc (j - 2) (by omega)
          have c7 := hc (j - 7) (by omega)
          have c15 := hc (j - 15) (by omega)
          have c16 := hc (j - 16) (by omega)
          have hfz := hL3.out.frozen j
          have hzl := hL3.out.lt
          generalize (drW b k).getD (j - 2) 0 = x2 at c2 HX
          generalize (drW b k).getD (j - 7) 0 = x7 at c7 HX
          generalize (drW b k).getD (j - 15) 0 = x15 at c15 HX
          generalize (drW b k).getD (j - 16) 0 = x16 at c16 HX
          obtain ⟨B3, hB3⟩ : ∃ B3, B3 = w.heap.size + 1 + 1 := ⟨_, rfl⟩
          have HK := Lib.hid (fun w' (hb : Below wr.heap.size wr w') => show w'.cell? ⟨w.heap.size + 1 + 1, j - 2, none⟩ = some (wv x2) ∧ w'.cell? ⟨w.heap.size + 1 + 1, j - 7, none⟩ = some (wv x7) ∧ w'.cell? ⟨w.heap.size + 1 + 1, j - 15, none⟩ = some (wv x15) ∧ w'.cell? ⟨w.heap.size + 1 + 1, j - 16, none⟩ = some (wv x16) from
            ⟨(hb.cell (p := ⟨_, _, none⟩) hzl).trans c2, (hb.cell (p := ⟨_, _, none⟩) hzl).trans c7, (hb.cell (p := ⟨_, _, none⟩) hzl).trans c15, (hb.cell (p := ⟨_, _, none⟩) hzl).trans c16⟩)
          have HZ := Lib.hid (fun w' (hb : Below wr.heap.size wr w') => show w'.cell? ⟨w.heap.size + 1 + 1, j, none⟩ = some (wv 0) ∧ w'.frozen? ⟨w.heap.size + 1 + 1, j, none⟩ = false from ⟨(hb.cell (p := ⟨_, _, none⟩) hzl).trans he, (hb.frozen (p := ⟨_, _, none⟩) hzl).trans hfz⟩)
          have HO := Lib.hid (fun (w' : World) (v : Value) (h : w'.cell? ⟨w.heap.size + 1 + 1, j - 2, none⟩ = some (wv x2) ∧ w'.cell? ⟨w.heap.size + 1 + 1, j - 7, none⟩ = some (wv x7) ∧ w'.cell? ⟨w.heap.size + 1 + 1, j - 15, none⟩ = some (wv x15) ∧ w'.cell? ⟨w.heap.size + 1 + 1, j - 16, none⟩ = some (wv x16)) => show (fun w' : World => w'.cell? ⟨w.heap.size + 1 + 1, j - 2, none⟩ = some (wv x2) ∧ w'.cell? ⟨w.heap.size + 1 + 1, j - 7, none⟩ = some (wv x7) ∧ w'.cell? ⟨w.heap.size + 1 + 1, j - 15, none⟩ = some (wv x15) ∧ w'.cell? ⟨w.heap.size + 1 + 1, j - 16, none⟩ = some (wv x16)) (w'.setCell ⟨w.heap.size + 1 + 1, j, none⟩ v) from ⟨(World.cell?_setCell_other (a := ⟨w.heap.size + 1 + 1, j, none⟩) (b := ⟨w.heap.size + 1 + 1, j - 2, none⟩) w' v (fun e => by injection e with e1 e2; omega)).trans h.1, (World.cell?_setCell_other (a := ⟨w.heap.size + 1 + 1, j, none⟩) (b := ⟨w.heap.size + 1 + 1, j - 7, none⟩) w' v (fun e => by injection e with e1 e2; omega)).trans h.2.1, (World.cell?_setCell_other (a := ⟨w.heap.size + 1 + 1, j, none⟩) (b := ⟨w.heap.size + 1 + 1, j - 15, none⟩) w' v (fun e => by injection e with e1 e2; omega)).trans h.2.2.1, (World.cell?_setCell_other (a := ⟨w.heap.size + 1 + 1, j, none⟩) (b := ⟨w.heap.size + 1 + 1, j - 16, none⟩) w' v (fun e => by injection e with e1 e2; omega)).trans h.2.2.2⟩)
          have BD := Lib.hid (show Below wr.heap.size wr wr.drew from (Below.refl _ _).drew)
          have HKD := Lib.hid (HK.out _ BD.out)
          have t2 : ((j : Int) - 2).toNat = j - 2 := by omega
          have t7 : ((j : Int) - 7).toNat = j - 7 := by omega
          have t15 : ((j : Int) - 15).toNat = j - 15 := by omega
          have t16 : ((j : Int) - 16).toNat = j - 16 := by omega
          clear hc he c2 c7 c15 c16 hfz hzl hlen hB3
          go_wp2
          have p2 : 0 ≤ (j : Int) - 2 := by omega
          have r2 : (j : Int) - 2 < 64 := by omega
          have p7 : 0 ≤ (j : Int) - 7 := by omega
          have r7 : (j : Int) - 7 < 64 := by omega
          have p15 : 0 ≤ (j : Int) - 15 := by omega
          have r15 : (j : Int) - 15 < 64 := by omega
          have p16 : 0 ≤ (j : Int) - 16 := by omega
          have r16 : (j : Int) - 16 < 64 := by omega
          have g2 : (2 : Int) ≤ (j : Int) := by omega
          have v2 : (j : Int) < 66 := by omega
          have g7 : (7 : Int) ≤ (j : Int) := by omega
          have v7 : (j : Int) < 71 := by omega
          have g15 : (15 : Int) ≤ (j : Int) := by omega
          have v15 : (j : Int) < 79 := by omega
          have g16 : (16 : Int) ≤ (j : Int) := by omega
          have v16 : (j : Int) < 80 := by omega
          have hw2 : IntKind.i64.wrap ((j : Int) - 2) = (j : Int) - 2 := IntWalk.i64_in _ (by omega)
          have hw7 : IntKind.i64.wrap ((j : Int) - 7) = (j : Int) - 7 := IntWalk.i64_in _ (by omega)
          have hw15 : IntKind.i64.wrap ((j : Int) - 15) = (j : Int) - 15 := IntWalk.i64_in _ (by omega)
          have hw16 : IntKind.i64.wrap ((j : Int) - 16) = (j : Int) - 16 := IntWalk.i64_in _ (by omega)
          go_region_held3 (fun w' => w'.cell? ⟨w.heap.size + 1 + 1, j - 2, none⟩ = some (wv x2) ∧ w'.cell? ⟨w.heap.size + 1 + 1, j - 7, none⟩ = some (wv x7) ∧ w'.cell? ⟨w.heap.size + 1 + 1, j - 15, none⟩ = some (wv x15) ∧ w'.cell? ⟨w.heap.size + 1 + 1, j - 16, none⟩ = some (wv x16))
            (first | with_reducible exact HKD.out | with_reducible exact HK5.out | with_reducible exact HK6.out | exact HS6.out _)
            (first
              | (go_at_call 112; (with_reducible refine (blended_1 x2 _).mono ?_); rintro e w5 ⟨rfl, hb5⟩; have B5 := Lib.hid (BD.out.trans (hb5.mono BD.out.size)); have HK5 := Lib.hid (HK.out _ B5.out); clear hb5)
              | (go_at_call 112; (with_reducible refine (blended_2 x15 _).mono ?_); rintro e w6 ⟨rfl, hb6⟩; have B6 := Lib.hid (B5.out.trans (hb6.mono B5.out.size)); have HK6 := Lib.hid (HK.out _ B6.out); obtain ⟨z6, f6⟩ := HZ.out _ B6.out; have HS6 := Lib.hid (fun v => HO.out _ v HK6.out); clear hb6))
          clear hw2 hw7 hw15 hw16
          clear t2 t7 t15 t16 p2 p7 p15 p16 r2 r7 r15 r16 g2 g7 g15 g16 v2 v7 v15 v16 z6 f6
          go_wp2_with fail
          go_roundw
          case rel =>
            refine ⟨k + 1, by omega, ?_, Lib.hid ?_, Lib.hid ?_, Lib.hid ?_⟩
            · rw [show 16 + (k + 1) = j + 1 by have := HJ.out; omega]; go_num
            · exact (hB.out.trans (B6.out.mono hB.out.size)).setCell (by show w.heap.size ≤ w.heap.size + 1 + 1; omega) _
            · exact (hL2.out.below B6.out hL2.out.lt).far (by omega) j _
            · rw [← w_sum, ← w_sum, ← w_sum, ← HX.out]
              have h := (hL3.out.below B6.out hL3.out.lt).set_ j (wv (nxW (drW b k) j))
              have h2 := fillW_set (l := drW b k) (by rw [HLEN.out]; exact hj1) (nxW (drW b k) j)
              rw [HLEN.out] at h2
              rw [wvs_set, h2] at h
              rw [drW, HJ.out]
              exact h
          case measure => simp [intOf]; omega
        · obtain rfl : k = 48 := by omega
          obtain rfl : j = 64 := HJ.out.symm
          have hfw : fillW (drW b 48) = drW b 48 := by
            unfold fillW
            rw [drW_len]
            simp
          have HLD : Hid ((drW b 48).length = 64) := Lib.hid (drW_len b 48)
          have HBl := hL3.out
          rw [hfw] at HBl
          have LB := Lib.hid HBl.lies
          have L2 := hL2
          have HBB := hB
          clear hfw HBl hL3 hL2 hB
          go_wp2_with (first
            | (with_reducible refine ld_w64 rfl _ rfl (w.heap.size + 1 + 1) 0 (drW b 48) HLD rfl LB.out.rg ?_)
            | (with_reducible refine st_w64 rfl _ _ rfl (w.heap.size + 1) 0 (drW b 48) HLD rfl rfl L2.out.th ?_))
          refine bodyPost_ret (res_w64 rfl _ _ (w.heap.size + 1) (drW b 48) HLD.out rfl (L2.out.set_ (l' := wvs (drW b 48)) (by rw [wvs_len]; exact HLD.out)).rg) rfl ⟨rfl, below_setCells HBB.out (by omega) _ _⟩
end Go.Proofs.YtcofkhmgmemkmaaGreatDoor.S3
