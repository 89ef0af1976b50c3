/-
  CONTRACTS OF PACKAGE disk: Write's closure.
-/
import Derived.Test.YtionbjocfepkaaaDi
import Derived.Maps.AppendAt
namespace Go.Proofs.Ytionbjocfepkaaa
set_option linter.unusedVariables false
open Go.RowKit Go.WideShapes Go.ChangeShapes

theorem info_int : (Try.prog.info? 3).map (fun i => (i.zero, i.size, i.bytes)) = some (some (.int .i64 0), 1, 8) := by kernel_rfl
theorem roomBlk_S {w : World} {S : Nat → Prop} {v : Value} {l : List (List UInt8)} (h : Wv w S v l) {b : Nat} (hb : roomBlk v = some b) : S b ∧ ∃ cur, w.heap[b]? = some (.cells cur 37 (0, 0)) := by
  rcases h with ⟨_, rfl⟩ | ⟨b', o, c, cur, h1, rfl, h3, h4, h5, h6, h7, h8⟩
  · cases hb
  · simp only [roomBlk] at hb
    split at hb
    · injection hb with hb
      subst hb
      exact ⟨h3, cur, h7⟩
    · cases hb
theorem frz_of_block {w w' : World} {b o : Nat} (h : w'.heap[b]? = w.heap[b]?) (hf : w.frozen? ⟨b, o, none⟩ = false) : w'.frozen? ⟨b, o, none⟩ = false := (World.frozen?_of_block (a := ⟨b, o, none⟩) h).trans hf
theorem cell_of_blk {w w' : World} {b o : Nat} {v : Value} (h : w'.heap[b]? = w.heap[b]?) (hf : w.cell? ⟨b, o, none⟩ = some v) : w'.cell? ⟨b, o, none⟩ = some v := (World.cell?_of_block (a := ⟨b, o, none⟩) h).trans hf
theorem ord_blk {w : World} {base : Nat} {e : TypeId} {size n : Nat} {v : Value} {xs : List Value} (h : w.ownsRow base e size v n xs) {b : Nat} (hb : v.ownBlock = some b) : ∃ cur, w.heap[b]? = some (.cells cur e (0, 0)) := by
  rcases h.2 with ⟨h2, _⟩ | ⟨b', cap, cur', h3, _, hg', _⟩
  · rw [h2] at hb; cases hb
  · rw [h3] at hb
    have : b' = b := by simpa [Value.ownBlock] using hb
    subst this
    exact ⟨cur', hg'⟩

theorem one_int (z : Int) (w : World) : (Instr.buildSlice 53 1 #[(0, .int .i64 z)]).run Try.prog w = .ok (.slice (some ⟨w.heap.size, 0, none⟩) 1 1) (w.alloc (.cells #[.int .i64 z] 3)) := by
  obtain ⟨i0, hi, hz, hz1, hz2⟩ := info_parts info_int
  obtain ⟨r, hr, hrs, hrk⟩ := Great.fill_dense (s := 1) (by omega) [.int .i64 z] 0 ((Array.range (1 * i0.size)).map ((Value.int .i64 0).cells[· % (Value.int .i64 0).cells.size]!)) (by intro v hv; simp at hv; subst hv; rfl) (by rw [hz1]; simp)
  have hre : r = #[.int .i64 z] := by
    apply Array.ext_getElem?
    intro k
    rw [hrk k]
    by_cases hk : k < 1
    · rw [if_pos ⟨by omega, by simp; omega⟩]
      have h1 : k = 0 := by omega
      subst h1
      simp [Value.cells]
    · rw [if_neg (by simp; omega)]
      rw [Array.getElem?_eq_none (by simp [hz1]; omega), Array.getElem?_eq_none (by simp; omega)]
  rw [hre] at hr
  exact run_buildSlice w _ _ 1 _ _ i0 _ Try.underlying53 hi hz (by rw [hz1]; omega) (by rw [hz1]; omega) (by rw [hz1] at hr ⊢; exact hr)
theorem wp_one_int {w : World} {o : Oper} {a : Act} {K : Act → World → Prop} {Q : Exit → Act → World → Prop} (x : Operand) (ho : o.op = .buildSlice 53 1 #[(0, x)]) (z : Int) (hx : a.eval x = .int .i64 z)
    (h : K (a.put o.dst (.slice (some ⟨w.heap.size, 0, none⟩) 1 1)) (w.alloc (.cells #[.int .i64 z] 3))) : o.wp Try.prog a w K Q := by
  unfold Oper.wp execOp
  simp only [ho, List.map_toArray, List.map_cons, List.map_nil, hx, one_int, Sem.run_bind, Result.andThen_ok]
  exact h

/-- What Write's closure leaves, step by step. -/
def Wr1 (w : World) (g : Nat) (S : Nat → Prop) (M : Mo) (ga : Nat) (O : Value) (W : Nat → Value) (n : Nat) (x : List UInt8) (w' : World) : Prop :=
  ∃ w1 b c w2 w4 b2 c2 w5, Nw w w1 ∧ Apd (w1.alloc (.cells (bvs x).toArray 37)) w2 S (W n) (.slice (some ⟨b, 0, none⟩) ((waitsOf M.wt n).length + 1) c) (waitsOf M.wt n ++ [x]) ∧
    Nw (w2.setCell ⟨ga, n * 65 + 64, none⟩ (.slice (some ⟨b, 0, none⟩) ((waitsOf M.wt n).length + 1) c)) w4 ∧ (w4.alloc (.cells #[.int .i64 (n : Int)] 3)).grownBy w5 O.ownBlock ∧
    w5.ownsRow 0 3 1 (.slice (some ⟨b2, 0, none⟩) (M.wt.length + 1) c2) (M.wt.length + 1) ((M.wt.map fun p => Value.int .i64 (p.1 : Int)) ++ [.int .i64 (n : Int)]) ∧ (O.ownBlock = some b2 ∨ b2 = w4.heap.size + 1) ∧
    w' = w5.setCell ⟨g, 1, none⟩ (.slice (some ⟨b2, 0, none⟩) (M.wt.length + 1) c2)

set_option maxRecDepth 100000 in
set_option maxHeartbeats 800000 in
theorem write1_raw {w : World} {bd bi bb g : Nat} {S : Nat → Prop} {M : Mo} {ga : Nat} {O : Value} {W : Nat → Value} (h : DkAt w g S M ga O W) (n : Nat) (hn : n < M.safe.length) (x : List UInt8) (hx : x.length = 64)
    (h0 : w.cell? ⟨bd, 0, none⟩ = some (rp g)) (h1 : w.cell? ⟨bi, 0, none⟩ = some (.int .i64 (n : Int))) (hb : w.rangeAt bb 0 (bvs x)) (hbb : ¬ S bb) (hbd : ¬ S bd) (hbi : ¬ S bi) (hlb : bb < w.heap.size) (hwt : M.wt.length ≤ 1000000000) :
    Calls Try.prog 42 #[rp bd, rp bi, rp bb] w fun e w' => e = .returned (.tuple #[]) ∧ Wr1 w g S M ga O W n x w' := by
  obtain ⟨i0, hi0, hz0, hz1, hz2⟩ := info_parts info_int
  have hk0 : (0 : Int) ≤ (n : Int) := Int.natCast_nonneg _
  have hk8 : (n : Int) < (M.safe.length : Int) := by omega
  have hi : (Try.prog.info? 37).map (·.size) = some (bvs x).length := size_of hx
  have c0 := h.db.c0
  have hlt0 := block_lt_of_cell h0
  have hlt1 := block_lt_of_cell h1
  have hlt2 := h.db.lt
  have hlt3 := h.lt ga h.sga
  have hmx := h.ok.max
  have hwl : Hid (∀ y ∈ waitsOf M.wt n, y.length = 64) := Lib.hid fun y hy => by
    obtain ⟨p, hp, rfl⟩ := waitsOf_mem hy
    exact (h.ok.wt p hp).2
  have hcnt := waitsOf_len M.wt n
  have rS : ∀ b, roomBlk (W n) = some b → S b := fun b hb => (roomBlk_S (h.wv n hn) hb).1
  have rbd : roomBlk (W n) ≠ some bd := fun e => hbd (rS _ e)
  have rbi : roomBlk (W n) ≠ some bi := fun e => hbi (rS _ e)
  have rbb : roomBlk (W n) ≠ some bb := fun e => hbb (rS _ e)
  have rg : roomBlk (W n) ≠ some g := fun e => by
    obtain ⟨cur, hc⟩ := (roomBlk_S (h.wv n hn) e).2
    exact ty_ne hc h.db (by decide) rfl
  have rga : roomBlk (W n) ≠ some ga := fun e => by
    obtain ⟨cur, hc⟩ := (roomBlk_S (h.wv n hn) e).2
    obtain ⟨cs, hc'⟩ := rowIs_blk h.sec
    exact ty_ne hc hc' (by decide) rfl
  have rO : ∀ b, O.ownBlock = some b → roomBlk (W n) ≠ some b := fun b hb e => by
    obtain ⟨cur, hc⟩ := (roomBlk_S (h.wv n hn) e).2
    obtain ⟨cur', hg'⟩ := ord_blk h.ord hb
    exact ty_ne hc hg' (by decide) rfl
  have oga : ∀ b, O.ownBlock = some b → b ≠ ga := fun b e => by
    obtain ⟨cs, hc'⟩ := rowIs_blk h.sec
    obtain ⟨cur', hg'⟩ := ord_blk h.ord e
    exact ty_ne hg' hc' (by decide)
  have og : O.ownBlock ≠ some g := fun e => by
    obtain ⟨cur', hg'⟩ := ord_blk h.ord e
    exact ty_ne hg' h.db (by decide) rfl
  have obd : O.ownBlock ≠ some bd := fun e => hbd (h.ordS _ e)
  have obi : O.ownBlock ≠ some bi := fun e => hbi (h.ordS _ e)
  have nbd : bd ≠ ga := fun e => hbd (e ▸ h.sga)
  have nbi : bi ≠ ga := fun e => hbi (e ▸ h.sga)
  have ng : g ≠ ga := fun e => h.ga_ne e.symm
  -- the facts, hidden, of the world behind the first region
  obtain ⟨w0, hw0⟩ : ∃ w0, w0 = w.drew := ⟨_, rfl⟩
  have NW0 : Nw w w0 := by rw [hw0]; exact Nw.drew w
  have H0 := Lib.hid (h.keep (w' := w0) (by rw [NW0.1]; exact Nat.le_refl _) fun b _ => by rw [NW0.1])
  have C0 := Lib.hid (cell_of_blk (w' := w0) (by rw [NW0.1]) h0)
  have C1 := Lib.hid (cell_of_blk (w' := w0) (by rw [NW0.1]) h1)
  have B0 := Lib.hid (rangeAt_keep (w' := w0) hb (by rw [NW0.1]))
  have HW0 := Lib.hid hw0
  have HX := Lib.hid hx
  have HI := Lib.hid hi
  have RO := Lib.hid rO
  have N0 := Lib.hid (And.intro rbd (And.intro rbi (And.intro rbb (And.intro rg rga))))
  have N1 := Lib.hid (And.intro oga (And.intro og (And.intro obd obi)))
  have N2 := Lib.hid (And.intro nbd (And.intro nbi ng))
  have HNW0 := Lib.hid NW0
  clear rS rO rbd rbi rbb rg rga oga og obd obi nbd nbi ng hw0 NW0 hx h hb hi
  simp only at hlt0 hlt1 hlt2
  go_enter Try.func42, Try.ntmps42
  go_wp2
  refine wp_region_tail 6 (by kernel_rfl) (by kernel_rfl) ?_
  simp only [List.take_succ_cons, List.take_zero, List.drop_succ_cons, List.drop_zero]
  still_step
  still_step
  still_step
  still_step
  still_step
  still_step
  refine wpStill_nil ?_
  rw [← HW0.out]
  clear h0 h1 c0
  go_wp2
  refine wp_region_bar 6 8 (fun w' => w'.rangeAt bb 0 (bvs x) ∧ w'.cell? ⟨ga, n * 65 + 64, none⟩ = some (W n)) (by kernel_rfl) (by kernel_rfl) ⟨B0.out, cellS_waits H0.out.sec hn⟩ ?_
  simp only [List.take_succ_cons, List.take_zero, List.drop_succ_cons, List.drop_zero]
  refine ⟨_, .inl ⟨rfl, fun w' hw' => (by go_simp; rfl)⟩, ?_⟩
  refine ⟨_, .inl ⟨rfl, fun w' hw' => (by go_simp; rfl)⟩, ?_⟩
  refine ⟨_, .inl ⟨rfl, fun w' hw' => (by go_simp; rfl)⟩, ?_⟩
  refine ⟨_, .inl ⟨rfl, fun w' hw' => (by go_simp; rfl)⟩, ?_⟩
  refine ⟨_, .inl ⟨rfl, fun w' hw' => (by have hc := hw'.2; clear hw'; go_simp; rfl)⟩, ?_⟩
  refine ⟨_, yieldsIf_load_mid rfl 37 _ rfl bb 0 rfl (bvs x) _ (fun w' hw' => hw'.1) Try.underlying37 rfl HI.out, ?_⟩
  obtain ⟨w1, hw1⟩ : ∃ w1, w1 = w0.drew := ⟨_, rfl⟩
  have NW1 : Nw w0 w1 := by rw [hw1]; exact Nw.drew w0
  have z01 : w0.heap.size = w.heap.size := HNW0.out.size
  have z1 : w1.heap.size = w.heap.size := NW1.size.trans z01
  have H1 := Lib.hid (H0.out.keep (w' := w1) (by rw [NW1.1]; exact Nat.le_refl _) fun b _ => by rw [NW1.1])
  have B1 := Lib.hid (rangeAt_keep (w' := w1) B0.out (by rw [NW1.1]))
  have D0 := Lib.hid (cell_of_blk (w' := w1) (by rw [NW1.1]) C0.out)
  have D1 := Lib.hid (cell_of_blk (w' := w1) (by rw [NW1.1]) C1.out)
  have HNW1 := Lib.hid NW1
  have Z1 := Lib.hid z1
  rw [← hw1]
  clear NW1 z01 z1 hw1
  rw [wpHead_nil]
  rw [wpMid_cons]
  refine ⟨rfl, ?_⟩
  simp only [Act.put, List.setIfInBounds_toArray, List.set_cons_succ, List.set_cons_zero]
  refine wp_one_block (.tmp 15) (by rfl) x HX.out (by rfl) ?_
  refine ⟨⟨World.rangeAt_alloc B1.out _, (cell_alloc_old (H1.out.lt ga H1.out.sga)).trans (cellS_waits H1.out.sec hn)⟩, ?_⟩
  rw [wpMid_cons]
  refine ⟨rfl, ?_⟩
  refine wp_append_w (S := S) (.tmp 14) (.tmp 16) (by rfl) (by rfl) (W n) (waitsOf M.wt n) (by rfl) ((H1.out.wv n hn).keep (fun b hb => Below.heap_alloc w1 _ b (H1.out.lt b hb)) fun _ hb => hb) hwl.out ⟨w1.heap.size, 0, none⟩ 1 x (by rfl) HX.out (World.news_of_block (heap_alloc_new w1 _)) (by omega) ?_
  intro b c w2 hap
  have HK2 := Lib.hid (show ∀ k, k < w.heap.size → roomBlk (W n) ≠ some k → w2.heap[k]? = w1.heap[k]? from fun k hk hr => (hap.grown.block k (by simp [Z1.out]; omega) (fun e => hr e.symm)).trans (Below.heap_alloc w1 _ k (by rw [Z1.out]; exact hk)))
  have d1 := cell_of_blk (HK2.out ga hlt3 N0.out.2.2.2.2) (cellS_waits H1.out.sec hn)
  have d2 := frz_of_block (HK2.out ga hlt3 N0.out.2.2.2.2) (H1.out.sec.frozen (n * 65 + 64))
  have HAP := Lib.hid hap
  clear hap
  refine ⟨⟨rangeAt_keep B1.out (HK2.out bb hlb N0.out.2.2.1), d1⟩, ?_⟩
  rw [wpMid_nil]
  go_wp2
  refine NoPanic.normal ?_
  obtain ⟨w3, hw3⟩ : ∃ w3, w3 = w2.setCell ⟨ga, n * 65 + 64, none⟩ (.slice (some ⟨b, 0, none⟩) ((waitsOf M.wt n).length + 1) c) := ⟨_, rfl⟩
  rw [← hw3]
  clear d1 d2
  have HK3 := Lib.hid (show ∀ k, k < w.heap.size → roomBlk (W n) ≠ some k → k ≠ ga → w3.heap[k]? = w1.heap[k]? from fun k hk hr hg => by rw [hw3]; exact (Below.heap_setCell w2 _ _ k hg).trans (HK2.out k hk hr))
  have z3 : w.heap.size ≤ w3.heap.size := by
    have := HAP.out.grown.size
    rw [hw3]
    simp [World.setCell, Z1.out] at this ⊢
    omega
  have HW3 := Lib.hid hw3
  have Z3 := Lib.hid z3
  clear hw3 z3
  go_wp2
  obtain ⟨w4, hw4⟩ : ∃ w4, w4 = w3.drew := ⟨_, rfl⟩
  have NW4 : Nw w3 w4 := by rw [hw4]; exact Nw.drew w3
  have hk4 : ∀ k, k < w.heap.size → roomBlk (W n) ≠ some k → k ≠ ga → w4.heap[k]? = w1.heap[k]? := fun k hk hr hg => by rw [NW4.1]; exact HK3.out k hk hr hg
  have E0 := Lib.hid (cell_of_blk (hk4 bd hlt0 N0.out.1 N2.out.1) D0.out)
  have E1 := Lib.hid (cell_of_blk (hk4 bi hlt1 N0.out.2.1 N2.out.2.1) D1.out)
  have E2 := Lib.hid (cell_of_blk (hk4 g hlt2 N0.out.2.2.2.1 N2.out.2.2) H1.out.db.c1)
  have E3 := Lib.hid (frz_of_block (hk4 g hlt2 N0.out.2.2.2.1 N2.out.2.2) (H1.out.db.fz 1))
  have OW := Lib.hid (ownsRow_keep (w' := w4) H1.out.ord fun b hb => hk4 b (by have := H1.out.lt b (H1.out.ordS b hb); rw [Z1.out] at this; exact this) (RO.out b hb) (N1.out.1 b hb))
  have z4 : w.heap.size ≤ w4.heap.size := by rw [NW4.size]; exact Z3.out
  have HNW4 := Lib.hid NW4
  have HK4 := Lib.hid hk4
  clear NW4 hk4
  refine wp_region_bar 6 8 (fun w' => w'.cell? ⟨bd, 0, none⟩ = some (rp g) ∧ w'.cell? ⟨bi, 0, none⟩ = some (.int .i64 (n : Int)) ∧ w'.cell? ⟨g, 1, none⟩ = some O) (by kernel_rfl) (by kernel_rfl) (by rw [← hw4]; exact ⟨E0.out, E1.out, E2.out⟩) ?_
  rw [← hw4]
  have HW4 := Lib.hid hw4
  clear hw4
  simp only [List.take_succ_cons, List.take_zero, List.drop_succ_cons, List.drop_zero]
  refine ⟨_, .inl ⟨rfl, fun w' hw' => (by have hc := hw'.1; clear hw'; go_simp; rfl)⟩, ?_⟩
  refine ⟨_, .inl ⟨rfl, fun w' hw' => (by have hc := hw'.1; clear hw'; go_simp; rfl)⟩, ?_⟩
  refine ⟨_, .inl ⟨rfl, fun w' hw' => (by go_simp; rfl)⟩, ?_⟩
  refine ⟨_, .inl ⟨rfl, fun w' hw' => (by go_simp; rfl)⟩, ?_⟩
  refine ⟨_, .inl ⟨rfl, fun w' hw' => (by have hc := hw'.2.2; clear hw'; go_simp; rfl)⟩, ?_⟩
  refine ⟨_, .inl ⟨rfl, fun w' hw' => (by have hc := hw'.2.1; clear hw'; go_simp; rfl)⟩, ?_⟩
  rw [wpHead_nil, wpMid_cons]
  refine ⟨rfl, ?_⟩
  simp only [Act.put, List.setIfInBounds_toArray, List.set_cons_succ, List.set_cons_zero]
  refine wp_one_int (.tmp 25) (by rfl) n (by rfl) ?_
  refine ⟨⟨(cell_alloc_old (by simp only; omega)).trans E0.out, (cell_alloc_old (by simp only; omega)).trans E1.out, (cell_alloc_old (by simp only; omega)).trans E2.out⟩, ?_⟩
  rw [wpMid_cons]
  refine ⟨rfl, ?_⟩
  refine wp_append_lies _ (.tmp 24) (.tmp 26) 53 (by rfl) 0 3 i0 _ 1 8 Try.underlying53 hi0 hz0 hz1 hz2 rfl (by omega) O M.wt.length _ (by rfl) (OW.out.alloc _) ⟨w4.heap.size, 0, none⟩ 1 1 [.int .i64 (n : Int)] (by rfl) (by rfl) (World.news_of_block (cs := #[.int .i64 (n : Int)]) (heap_alloc_new w4 _)) (by simp [Value.oneCell']) (by omega) (by unfold maxLen; omega) (by omega) (Nat.zero_le _) (w4.heap.size + 1) (by simp) ?_
  intro b2 c2 w5 hown5 hg5 hat5 hlt5
  have hk5 : ∀ k, k < w.heap.size → O.ownBlock ≠ some k → w5.heap[k]? = w4.heap[k]? := fun k hk ho => (hg5.block k (by simp; omega) (fun e => ho e.symm)).trans (Below.heap_alloc w4 _ k (by omega))
  have d1 := cell_of_blk (hk5 g hlt2 N1.out.2.1) E2.out
  have d2 := frz_of_block (hk5 g hlt2 N1.out.2.1) E3.out
  have F0 := cell_of_blk (hk5 bd hlt0 N1.out.2.2.1) E0.out
  have F1 := cell_of_blk (hk5 bi hlt1 N1.out.2.2.2) E1.out
  refine ⟨⟨F0, F1, d1⟩, ?_⟩
  have HO5 := Lib.hid hown5
  have HG5 := Lib.hid hg5
  have HA5 := Lib.hid hat5
  clear hown5 hg5 hat5 hk5 F0 F1
  rw [wpMid_nil]
  simp only [Act.put, List.setIfInBounds_toArray, List.set_cons_succ, List.set_cons_zero]
  go_wp2
  refine NoPanic.normal ?_
  go_wp2
  go_end0
  exact ⟨rfl, w1, b, c, w2, w4, b2, c2, w5, HNW0.out.trans HNW1.out, HAP.out, by have := HNW4.out; rw [HW3.out] at this; exact this, HG5.out, HO5.out, HA5.out, rfl⟩
end Go.Proofs.Ytionbjocfepkaaa
