/-
  STAGE 6's REFERENCE: the taker's Ids.
  STAGE 6's REFERENCE: the taker's Ids, taken.
  STAGE 6's REFERENCE: its taker tells what the program's reader tells (pure).
  STAGE 6's REFERENCE: what its Decode reads, as functions of the taker's state (pure).
-/
import Derived.Test.YtcofkhmgmemkmaaGreatDoorK48
import Derived.Laws.IdiomCopy
import Derived.Test.YtcofkhmgmemkmaaGreatDoorK34
namespace Go.Proofs.YtcofkhmgmemkmaaGreatDoor
set_option linter.unusedVariables false
set_option linter.unusedSimpArgs false
open Go.RowKit Go.WideShapes Go.ChangeShapes Go.Deep Go.Shelf
attribute [local irreducible] wpQuiet

def Ts.idv (s : Ts) : Idv := ⟨s.t 32 ++ List.replicate (32 - (s.t 32).length) 0, by have := ts_len s 32; simp; omega⟩
theorem tsid_cells (s : Ts) : s.idv.cells = S3.bvs (s.t 32) ++ Idv.zero.cells.drop (s.t 32).length := by
  unfold Ts.idv Idv.cells
  show S3.bvs (s.t 32 ++ List.replicate (32 - (s.t 32).length) 0) = S3.bvs (s.t 32) ++ (S3.bvs (List.replicate 32 0)).drop (s.t 32).length
  unfold S3.bvs
  rw [List.map_append, List.map_replicate, List.map_replicate, List.drop_replicate]
theorem run_cp2 {op : Oper} {a : Act} {w : World} (d s : Operand) (ho : op.op = .call { callee := .builtin .copy, args := #[d, s], argTypes := #[24, 24] }) (g : Nat) {B n c : Nat} {A : Option Addr} {l : List UInt8} (hd : a.eval d = .slice (some ⟨g, 0, none⟩) 32 32) (hs : a.eval s = .slice A n c) (h : S3.SlB w B A n c l) (hn : n ≤ 32)
    (cur : List Value) (hg : w.heap[g]? = some (.cells cur.toArray 27)) (hc : cur.length = 32) :
    ∃ v w', (execOp a.eval op).run Tryz.prog w = .ok (.value v) w' ∧ (w' = w ∨ w' = w.setRow g (S3.bvs l ++ cur.drop n).toArray) ∧ w'.heap[g]? = some (.cells (S3.bvs l ++ cur.drop n).toArray 27) := by
  rcases Nat.eq_zero_or_pos n with h0 | h0
  · subst h0
    have hl : l = [] := List.eq_nil_of_length_eq_zero h.len
    subst hl
    have hrun := run_copy_none (P := Tryz.prog) w 24 24 op.type 5 (some ⟨g, 0, none⟩) A 32 32 0 c Tryz.underlying24 (by kernel_rfl) (by simp)
    refine ⟨goInt 0, w, ?_, .inl rfl, ?_⟩
    · simp [execOp, ho, resolve, invoke, builtin, hd, hs, hrun, Result.andThen]
    · simpa [S3.bvs] using hg
  · obtain ⟨ad, rfl, hsrc⟩ := h.src h0
    have hlen : (S3.bvs l).length = n := by rw [S3.bvs_len]; exact h.len
    have hrun := run_copy_row (P := Tryz.prog) w 24 24 op.type 5 g 0 32 32 ad n c cur.toArray 27 (S3.bvs l) Tryz.underlying24 (by kernel_rfl) hg (by rw [hlen]; exact (Nat.min_eq_left hn).symm) hsrc (by simp; omega) (S3.bvs_one l)
    refine ⟨goInt (S3.bvs l).length, w.setRow g (S3.bvs l ++ cur.drop n).toArray, ?_, .inr rfl, setRow_heap w _ _ _ _ _ hg⟩
    rw [hlen] at hrun ⊢
    simp [execOp, ho, resolve, invoke, builtin, hd, hs, hrun, Result.andThen]
end Go.Proofs.YtcofkhmgmemkmaaGreatDoor
namespace Go.Proofs.YtcofkhmgmemkmaaGreatDoor
set_option linter.unusedVariables false
set_option linter.unusedSimpArgs false
open Go.RowKit Go.WideShapes Go.ChangeShapes Go.Deep Go.Shelf
attribute [local irreducible] wpQuiet

theorem Tk.kept {w w' : World} {g : Nat} {s : Ts} (h : Tk w g s) (hz : w.heap.size ≤ w'.heap.size) (hk : ∀ k, k ≤ g → w'.heap[k]? = w.heap[k]?) : Tk w' g s := by
  obtain ⟨A, n, c, h1, h2⟩ := h.ex
  exact ⟨A, n, c, h1.kp (hk g (Nat.le_refl _)) hz, h2.keep fun p hp => World.cell?_of_block (hk p.block (by omega))⟩
theorem Tk.below {w w' : World} {g : Nat} {s : Ts} (h : Tk w g s) (hb : Below w.heap.size w w') : Tk w' g s := h.kept hb.size fun k hk => hb.block k (by have := h.lt; omega)
theorem wp_cp2 {op : Oper} {a : Act} {w : World} {K : Act → World → Prop} {Q : Exit → Act → World → Prop} (d s : Operand) (ho : op.op = .call { callee := .builtin .copy, args := #[d, s], argTypes := #[24, 24] }) (g : Nat) {B n c : Nat} {A : Option Addr} {l : List UInt8} (hd : a.eval d = .slice (some ⟨g, 0, none⟩) 32 32) (hs : a.eval s = .slice A n c) (h : S3.SlB w B A n c l) (hn : n ≤ 32)
    (cur : List Value) (hg : w.heap[g]? = some (.cells cur.toArray 27)) (hc : cur.length = 32)
    (H : ∀ v w', (w' = w ∨ w' = w.setRow g (S3.bvs l ++ cur.drop n).toArray) → w'.heap[g]? = some (.cells (S3.bvs l ++ cur.drop n).toArray 27) → K (a.put op.dst v) w') : op.wp Tryz.prog a w K Q := by
  obtain ⟨v, w', hr, h1, h2⟩ := run_cp2 d s ho g hd hs h hn cur hg hc
  exact wp_valw hr (H v w' h1 h2)
set_option maxRecDepth 100000 in
set_option maxHeartbeats 1600000 in
theorem id6t_any {w : World} {g : Nat} {s : Ts} (h : Tk w g s) :
    Calls Tryz.prog 19 #[.pointer (some ⟨g, 0, none⟩)] w fun e w' => e = .returned (idV s.idv) ∧ Tk w' g (s.s 32) ∧ w.grownBy w' (some g) := by
  have hgl := h.lt
  obtain ⟨ir, hir⟩ : ∃ i, s.idv = i := ⟨_, rfl⟩
  have HIR := Lib.hid hir
  rw [hir]
  obtain ⟨zI, hzI⟩ : ∃ z, Idv.zero = z := ⟨_, rfl⟩
  have ZZ : Hid (∀ w : World, (zeroValue 27).run Tryz.prog w = .ok (.agg zI.cells.toArray) w) := Lib.hid (by rw [← hzI]; exact zero_id)
  obtain ⟨X, hX⟩ : ∃ X, w.heap.size = X := ⟨_, rfl⟩
  obtain ⟨w1, hw1⟩ : ∃ w1, w.alloc (.cells zI.cells.toArray 27) = w1 := ⟨_, rfl⟩
  have s1 : w1.heap.size = X + 1 := by rw [← hw1]; simp [hX]
  obtain ⟨w2, hw2⟩ : ∃ w2, w1.alloc (.cells zI.cells.toArray 27) = w2 := ⟨_, rfl⟩
  have Z2 : Hid (w2.heap.size = X + 2) := Lib.hid (by rw [← hw2]; simp; omega)
  have b1 : Below w.heap.size w w1 := by rw [← hw1]; exact (Below.refl _ _).alloc (Nat.le_refl _) _
  have b2 : Below w1.heap.size w1 w2 := by rw [← hw2]; exact (Below.refl _ _).alloc (Nat.le_refl _) _
  obtain ⟨wd, hwd⟩ : ∃ wd, w2.drew = wd := ⟨_, rfl⟩
  have ZD : Hid (wd.heap.size = X + 2) := Lib.hid (by rw [← hwd]; exact Z2.out)
  have BD : Hid (Below w.heap.size w wd) := Lib.hid (by rw [← hwd]; exact (b1.trans (b2.mono b1.size)).drew)
  have Y2 : Hid (Lies wd X 32 zI.cells) := Lib.hid (by
    have h9 := Lies.new w zI.cells 27
    rw [id_sz, hw1, hX] at h9
    have h8 := h9.below b2 (by omega)
    rw [← hwd]
    exact h8.below (Below.refl _ _).drew h8.lt)
  have X2 : Hid (wd.heap[X + 1]? = some (.cells zI.cells.toArray 27)) := Lib.hid (by rw [← hwd, ← s1, ← hw2]; exact heap_alloc_new w1 _)
  have T2 : Hid (Tk wd g s) := Lib.hid (h.below BD.out)
  have HW1 := Lib.hid hw1
  have HW2 := Lib.hid hw2
  have HZI := Lib.hid hzI
  clear hw1 hw2 b1 b2 h hir hzI
  go_enter Tryz.func19, Tryz.ntmps19
  go_upto_region 2 with (first
    | ((with_reducible refine alt 27 ?_ ?_ zI.cells ZZ.out ?_); rfl; rfl; (first | rw [HW1.out] | rw [HW2.out]); (try simp only [Act.put, List.setIfInBounds_toArray, List.set_cons_succ, List.set_cons_zero, s1, hX]))
    | fail)
  refine wp_region_noPanic (wp_region_any (by kernel_rfl) (wpAny_of_bk (S := fun _ => True) (m := 4) _ _ _ _ ?_))
  show wpBk _ _ _ _ _ _ 4 _ _ w2.drew
  rw [hwd]
  clear hwd
  refine wpBk_takeP (i := 0) rfl (by kernel_rfl) (fun _ _ _ _ h => h) (.inl ⟨rfl, fun w' hw' => (by clear hw'; go_simp; (try rfl))⟩) ?_
  simp only [List.getElem_toArray, List.getElem_cons_zero, List.getElem_cons_succ, Act.put, List.setIfInBounds_toArray, List.set_cons_succ, List.set_cons_zero]
  refine wpBk_takeP (i := 1) rfl (by kernel_rfl) (fun _ _ _ _ h => h) (.inl ⟨rfl, fun w' hw' => (by clear hw'; go_simp; (try rfl))⟩) ?_
  simp only [List.getElem_toArray, List.getElem_cons_zero, List.getElem_cons_succ, Act.put, List.setIfInBounds_toArray, List.set_cons_succ, List.set_cons_zero]
  refine wpBk_one (i := 2) rfl rfl (by kernel_rfl) (fun K hK => ?_)
  refine wp_fn (f := 39) (xs := #[.pointer (some ⟨g, 0, none⟩), .int .i64 32]) (by first | (go_simp; done) | (go_simp; rfl)) ((raw6_any T2.out 32 32 rfl (by omega)).mono ?_)
  rintro e w4 ⟨⟨A, n, c, rfl, hs⟩, hT, hg⟩
  have hz4 := hg.size
  have zd := ZD.out
  have n32 : n ≤ 32 := by have h1 := hs.len; have h2 := ts_len s 32; omega
  have HG4 : Hid (w4.heap[X + 1]? = some (.cells zI.cells.toArray 27)) := Lib.hid ((hg.block (X + 1) (by omega) (by simp <;> omega)).trans X2.out)
  have Y4 : Hid (Lies w4 X 32 zI.cells) := Lib.hid (Y2.out.kp (hg.block X (by omega) (by simp <;> omega)) hz4)
  have T4 := Lib.hid hT
  have G4 := Lib.hid hg
  have SL := Lib.hid hs
  clear hT hg hs
  refine ⟨_, rfl, hK _ _ ⟨fun h9 _ => h9, ?_⟩⟩
  simp only [List.getElem_toArray, List.getElem_cons_zero, List.getElem_cons_succ, Act.put, List.setIfInBounds_toArray, List.set_cons_succ, List.set_cons_zero]
  refine wpBk_one (i := 3) rfl rfl (by kernel_rfl) (fun K hK => ?_)
  refine wp_cp2 (.tmp 4) (.tmp 6) rfl (X + 1) rfl rfl SL.out n32 zI.cells HG4.out (id_sz _) ?_
  intro v w5 hor hh5
  have hln : n = (s.t 32).length := SL.out.len.symm
  have hrow : S3.bvs (s.t 32) ++ zI.cells.drop n = ir.cells := by rw [← HIR.out, ← HZI.out, hln]; exact (tsid_cells s).symm
  rw [hrow] at hor hh5
  have hz5 : w5.heap.size = w4.heap.size := by rcases hor with rfl | rfl <;> simp
  have hk5 : ∀ k, k ≠ X + 1 → w5.heap[k]? = w4.heap[k]? := fun k hk => by
    rcases hor with rfl | rfl
    · rfl
    · exact setRow_other w4 _ k _ hk
  have N5 : Hid (w5.rangeAt (X + 1) 0 ir.cells) := Lib.hid (range_row hh5)
  have Y5 : Hid (Lies w5 X 32 zI.cells) := Lib.hid (Y4.out.kp (hk5 X (by omega)) (by omega))
  have G5 : Hid (w4.grownBy w5 (some (X + 1))) := Lib.hid (by
    rcases hor with rfl | rfl
    · exact S3.only_refl _ _
    · exact ⟨rfl, rfl, rfl, by simp, fun k _ hk => setRow_other w4 _ k _ (by simpa using hk)⟩)
  have T5 : Hid (Tk w5 g (s.s 32)) := Lib.hid (T4.out.kept (by omega) fun k hk => hk5 k (by omega))
  have HZ5 : Hid (X + 2 ≤ w5.heap.size) := Lib.hid (by omega)
  clear hor hh5 hz5 hk5 hrow
  refine hK _ _ ⟨fun h9 _ => h9, ?_⟩
  simp only [List.getElem_toArray, List.getElem_cons_zero, List.getElem_cons_succ, Act.put, List.setIfInBounds_toArray, List.set_cons_succ, List.set_cons_zero]
  refine ⟨by kernel_rfl, ?_⟩
  refine NoPanic.normal ?_
  have TH := Lib.hid Y5.out.th
  obtain ⟨w6, hw6⟩ : ∃ w6, w5.setCells X 0 ir.cells = w6 := ⟨_, rfl⟩
  have N6 : Hid (w6.rangeAt X 0 ir.cells) := Lib.hid (by rw [← hw6]; exact (Y5.out.set_ (id_sz _)).rg)
  have B6 : Hid (Below X w5 w6) := Lib.hid (by rw [← hw6]; exact below_setCells (Below.refl _ _) (Nat.le_refl _) _ _)
  have HW6 := Lib.hid hw6
  clear hw6
  go_wp2_with (first
    | ((with_reducible refine ldi (.tmp 3) ?_ ?_ (X + 1) 0 ir ?_ N5.out ?_); rfl; rfl; rfl)
    | ((with_reducible refine sti (.tmp 2) (.tmp 8) ?_ ?_ X 0 ir ?_ ?_ TH.out ?_); rfl; rfl; rfl; rfl; rw [HW6.out])
    | fail)
  have b45 := S3.below_of_only G5.out (B := w.heap.size) (by omega) (by omega)
  refine bodyPost_ret (S3.res_id rfl _ _ X ir.b ir.h rfl N6.out) rfl ⟨rfl, T5.out.kept B6.out.size (fun k hk => B6.out.block k (by omega)), only_then (S3.only_trans (S3.only_of_below BD.out _) G4.out) (b45.trans (B6.out.mono (by omega)))⟩
end Go.Proofs.YtcofkhmgmemkmaaGreatDoor
namespace Go.Proofs.YtcofkhmgmemkmaaGreatDoor
set_option linter.unusedVariables false
set_option linter.unusedSimpArgs false
open Go.RowKit Go.WideShapes Go.ChangeShapes Go.Deep Go.Shelf

/-- A taker's state as the reader's: bytes that ended are error 7. -/
def Ts.st (s : Ts) : St := (s.1, if s.2 then 7 else 0)
theorem st_t (s : Ts) (n : Nat) : s.st.t n = s.t n := by
  obtain ⟨l, b⟩ := s
  unfold Ts.st St.t S3.offT Ts.t Ts.b
  cases b
  · by_cases h : l.length < n
    · have h2 : ¬ ((n : Int) ≤ (l.length : Int)) := by omega
      simp [h, h2]
    · have h2 : ((n : Int) ≤ (l.length : Int)) := by omega
      simp [h, h2]
  · simp
theorem st_s (s : Ts) (n : Nat) : s.st.s n = (s.s n).st := by
  obtain ⟨l, b⟩ := s
  unfold Ts.st St.s S3.offL S3.offE Ts.s Ts.b
  cases b
  · by_cases h : l.length < n
    · have h2 : ¬ ((n : Int) ≤ (l.length : Int)) := by omega
      have h3 : ¬ ((n : Int) < 0) := by omega
      simp [h, h2, h3]
    · have h2 : ((n : Int) ≤ (l.length : Int)) := by omega
      have h3 : ¬ ((n : Int) < 0) := by omega
      simp [h, h2, h3]
  · simp
theorem st_num (s : Ts) (n : Nat) : s.st.num n = s.num n := by unfold St.num Ts.num; rw [st_t]
theorem st_word (s : Ts) : wordV s.st = s.txt 1 := by unfold wordV Ts.txt; rw [st_num, st_s, st_t]
theorem st_words (s : Ts) : wordS s.st = (s.ts 1).st := by unfold wordS Ts.ts; rw [st_num, st_s, st_s]
theorem st_text (s : Ts) : textV s.st = s.txt 2 := by unfold textV Ts.txt; rw [st_num, st_s, st_t]
theorem st_texts (s : Ts) : textS s.st = (s.ts 2).st := by unfold textS Ts.ts; rw [st_num, st_s, st_s]
theorem st_id (s : Ts) : idT s.st = s.idv := Idv.ext_ (by unfold idT Ts.idv; dsimp only; rw [st_t])
/-- Once the bytes ended, nothing is taken. -/
theorem bad_s {s : Ts} (h : s.2 = true) (n : Nat) : s.s n = s := by
  obtain ⟨l, b⟩ := s
  obtain rfl : b = true := h
  simp [Ts.s, Ts.b]
theorem bad_ts {s : Ts} (h : s.2 = true) (n : Nat) : s.ts n = s := by unfold Ts.ts; rw [bad_s h, bad_s h]
end Go.Proofs.YtcofkhmgmemkmaaGreatDoor
namespace Go.Proofs.YtcofkhmgmemkmaaGreatDoor
set_option linter.unusedVariables false
set_option linter.unusedSimpArgs false
open Go.RowKit Go.WideShapes Go.ChangeShapes Go.Deep Go.Shelf

def leafT (s : Ts) : Lf × Ts := (⟨s.txt 1, (s.ts 1).idv⟩, (s.ts 1).s 32)
def chgT (s : Ts) : Ch × Ts := (⟨s.txt 1, decide (0 < (s.ts 1).num 1), ((s.ts 1).s 1).txt 2⟩, ((s.ts 1).s 1).ts 2)
def iddT (s : Ts) : Idv × Ts := (s.idv, s.s 32)
/-- So many are taken, while the bytes last. -/
def whS {α : Type} (f : Ts → α × Ts) : Nat → Ts → Ts
  | 0, s => s
  | k + 1, s => if (whS f k s).2 then whS f k s else (f (whS f k s)).2
def whL {α : Type} (f : Ts → α × Ts) : Nat → Ts → List α
  | 0, _ => []
  | k + 1, s => if (whS f k s).2 then whL f k s else whL f k s ++ [(f (whS f k s)).1]
theorem leafT_st (s : Ts) : leafR s.st = ((leafT s).1, (leafT s).2.st) := by
  unfold leafR leafT
  rw [st_word, st_words, st_id, st_s]
theorem chgT_st (s : Ts) : (chgR s.st).2 = (chgT s).2.st := by
  unfold chgR chgT
  dsimp only
  rw [st_words, st_s, st_texts]
theorem iddT_st (s : Ts) : idR s.st = ((iddT s).1, (iddT s).2.st) := by
  unfold idR iddT
  rw [st_id, st_s]
theorem leafT_bad {s : Ts} (h : s.2 = true) : (leafT s).2 = s := by unfold leafT; dsimp only; rw [bad_ts h, bad_s h]
theorem chgT_bad {s : Ts} (h : s.2 = true) : (chgT s).2 = s := by unfold chgT; dsimp only; rw [bad_ts h, bad_s h, bad_ts h]
theorem iddT_bad {s : Ts} (h : s.2 = true) : (iddT s).2 = s := by unfold iddT; dsimp only; rw [bad_s h]
section
variable {α : Type} {f : Ts → α × Ts} {fR : St → α × St}
theorem wh_st (h : ∀ s, (fR s.st).2 = (f s).2.st) (hb : ∀ s : Ts, s.2 = true → (f s).2 = s) : ∀ (k : Nat) (s : Ts), itS fR k s.st = (whS f k s).st
  | 0, s => rfl
  | k + 1, s => by
    show (fR (itS fR k s.st)).2 = (if (whS f k s).2 then whS f k s else (f (whS f k s)).2).st
    rw [wh_st h hb k s, h]
    by_cases e : (whS f k s).2 = true
    · rw [if_pos e, hb _ e]
    · rw [if_neg e]
theorem wh_good {k : Nat} {s : Ts} (hb : ∀ s : Ts, s.2 = true → (f s).2 = s) (h : (whS f (k + 1) s).2 = false) : (whS f k s).2 = false := by
  by_cases e : (whS f k s).2 = true
  · rw [show whS f (k + 1) s = whS f k s from if_pos e] at h
    exact h
  · simpa using e
theorem wh_list (h : ∀ s, (fR s.st).2 = (f s).2.st) (h1 : ∀ s, (fR s.st).1 = (f s).1) (hb : ∀ s : Ts, s.2 = true → (f s).2 = s) : ∀ (k : Nat) (s : Ts), (whS f k s).2 = false → itL fR k s.st = whL f k s
  | 0, s, _ => rfl
  | k + 1, s, e => by
    have e1 := wh_good hb e
    show itL fR k s.st ++ [(fR (itS fR k s.st)).1] = (if (whS f k s).2 then whL f k s else whL f k s ++ [(f (whS f k s)).1])
    rw [wh_list h h1 hb k s e1, wh_st h hb, h1, if_neg (by rw [e1]; decide)]
end
/-- A commit, behind its kind. -/
def comT (s1 : Ts) : Ov × Ts :=
  let t1 := s1.s 1
  let t2 := t1.s 32
  let t3 := whS iddT (t2.num 1) (t2.s 1)
  let t4 := t3.s 32
  let t5 := whS chgT (t4.num 1) (t4.s 1)
  let t6 := t5.s 4
  let t7 := t6.s 4
  (⟨3, ⟨#[]⟩, [], s1.num 1, t1.idv, t3.idv, whL iddT (t2.num 1) (t2.s 1), whL chgT (t4.num 1) (t4.s 1), t5.num 4, t6.num 4, t7.txt 1⟩, t7.ts 1)
def objT (s : Ts) : Ov × Ts :=
  if s.num 1 = 1 then ({ kOv 1 with text := (s.s 1).txt 2 }, (s.s 1).ts 2)
  else if s.num 1 = 2 then ({ kOv 2 with lv := whL leafT ((s.s 1).num 1) ((s.s 1).s 1) }, whS leafT ((s.s 1).num 1) ((s.s 1).s 1))
  else if s.num 1 = 3 then comT (s.s 1)
  else (kOv (s.num 1), s.s 1)
theorem comT_st (s : Ts) : (comR s.st).2 = (comT s).2.st := by
  unfold comR comT
  dsimp only
  simp only [st_num, st_s, st_words, wh_st (f := iddT) (fR := idR) (fun s => by rw [iddT_st]) (fun s h => iddT_bad h), wh_st (f := chgT) (fR := chgR) (fun s => chgT_st s) (fun s h => chgT_bad h)]
theorem objT_st (s : Ts) : (objR s.st).2 = (objT s).2.st := by
  unfold objR objT
  rw [st_num]
  split
  · simp only [st_s, st_texts]
  · split
    · simp only [st_num, st_s, wh_st (f := leafT) (fR := leafR) (fun s => by rw [leafT_st]) (fun s h => leafT_bad h)]
    · split
      · rw [st_s, comT_st]
      · simp only [st_s]
end Go.Proofs.YtcofkhmgmemkmaaGreatDoor
