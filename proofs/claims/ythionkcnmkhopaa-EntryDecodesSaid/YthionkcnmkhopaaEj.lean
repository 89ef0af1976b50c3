/-
  COMMANDS: what a reader takes off; an Id.
-/
import Derived.Test.YthionkcnmkhopaaEi
namespace Go.Proofs.Ythionkcnmkhopaa
set_option linter.unusedVariables false
set_option linter.unusedSimpArgs false
open Go.RowKit Go.WideShapes Go.ChangeShapes Go.Deep
attribute [local irreducible] wpQuiet

/-- What a reader has still, and its error. -/
abbrev St := List UInt8 × Int
def St.t (s : St) (n : Nat) : List UInt8 := offT s.1 s.2 n
def St.s (s : St) (n : Nat) : St := (offL s.1 s.2 n, offE s.1 s.2 n)
abbrev RdS (w : World) (g : Nat) (s : St) : Prop := Rd w g s.1 s.2 ∧ s.1.length ≤ 140737488355320
theorem t_len (s : St) (n : Nat) : (s.t n).length ≤ n := by unfold St.t offT; split <;> simp <;> omega
theorem s_len (s : St) (n : Nat) : (s.s n).1.length ≤ s.1.length := by unfold St.s offL; dsimp only; split <;> simp
def idT (s : St) : Idv := ⟨s.t 32 ++ List.replicate (32 - (s.t 32).length) 0, by have := t_len s 32; simp; omega⟩
theorem idT_cells (s : St) : (idT s).cells = bvs (s.t 32) ++ Idv.zero.cells.drop (s.t 32).length := by
  unfold idT Idv.cells
  show bvs (s.t 32 ++ List.replicate (32 - (s.t 32).length) 0) = bvs (s.t 32) ++ (bvs (List.replicate 32 0)).drop (s.t 32).length
  unfold bvs
  rw [List.map_append, List.map_replicate, List.map_replicate, List.drop_replicate]
theorem run_cp {op : Oper} {a : Act} {w : World} (d s : Operand) (ho : op.op = .call { callee := .builtin .copy, args := #[d, s], argTypes := #[25, 25] }) (g : Nat) (ad : Addr) (sLen : Nat) (hd : a.eval d = .slice (some ⟨g, 0, none⟩) 32 32) (hs : a.eval s = .slice (some ad) sLen sLen)
    (cur : List Value) (hg : w.heap[g]? = some (.cells cur.toArray 24)) (hc : cur.length = 32) (cs : List Value) (hn : cs.length = Nat.min sLen 32) (hsrc : ∀ j v, cs[j]? = some v → w.cell? (ad.add j) = some v) (h1 : ∀ v ∈ cs, v.oneCell' = true) :
    (execOp a.eval op).run Try.prog w = .ok (.value (goInt cs.length)) (w.setRow g (cs ++ cur.drop cs.length).toArray) := by
  have hle : cs.length ≤ 32 := by rw [hn]; exact Nat.min_le_right _ _
  have hrun := run_copy_row (P := Try.prog) w 25 25 op.type 5 g 0 32 32 ad sLen sLen cur.toArray 24 cs Try.underlying25 (by kernel_rfl) hg hn hsrc (by simp; omega) h1
  simp [execOp, ho, resolve, invoke, builtin, hd, hs, hrun, Result.andThen]
theorem res_id {fn : Func} {p : Tmp} (h : fn.results = #[.cell p 24]) (tmps : Array Value) (w : World) (b : Nat) (l : List UInt8) (hl : l.length = 32) (hp : tmps.getD p undef = .pointer (some ⟨b, 0, none⟩)) (hc : w.rangeAt b 0 (bvs l)) :
    (results fn tmps).run Try.prog w = .ok (.agg (bvs l).toArray) w := results_cell_mid h tmps w b 0 (bvs l) _ hp hc Try.underlying24 rfl (by rw [bvs_len, hl]; exact size_idv)
def St.nm (s : St) (n : Nat) : Nat := num (s.t n)
theorem nm_le (s : St) (n : Nat) : s.nm n < 256 ^ n := Nat.lt_of_lt_of_le (num_lt _) (Nat.pow_le_pow_right (by omega) (t_len s n))
set_option maxRecDepth 100000 in
theorem idc_any {w : World} {g bx : Nat} {s : St} (h : RdS w g s) (hbx : w.cell? ⟨bx, 0, none⟩ = some (rp g)) (hne : bx ≠ g) :
    Calls Try.prog 25 #[.pointer (some ⟨bx, 0, none⟩)] w fun x w' => x = .returned (idV (idT s)) ∧ RdS w' g (s.s 32) ∧ w.grownBy w' (some g) := by
  obtain ⟨l, e⟩ := s
  obtain ⟨hR, hl⟩ := h
  have hgl := hR.lt
  have hbl := block_lt_of_cell hbx
  simp only at hbl
  obtain ⟨ir, hir⟩ : ∃ i, idT (l, e) = i := ⟨_, rfl⟩
  have HIR := Lib.hid hir
  rw [hir]
  clear hir
  obtain ⟨zI, hzI⟩ : ∃ z, Idv.zero = z := ⟨_, rfl⟩
  have ZZ : Hid (∀ w : World, (zeroValue 24).run Try.prog w = .ok (.agg zI.cells.toArray) w) := Lib.hid (by rw [← hzI]; exact zero_id)
  obtain ⟨w2, hw2⟩ : ∃ w2, w.alloc (.cells zI.cells.toArray 24) = w2 := ⟨_, rfl⟩
  have s2 : w2.heap.size = w.heap.size + 1 := by rw [← hw2]; simp
  obtain ⟨w3, hw3⟩ : ∃ w3, w2.alloc (.cells zI.cells.toArray 24) = w3 := ⟨_, rfl⟩
  have Z3 : Hid (w3.heap.size = w.heap.size + 2) := Lib.hid (by rw [← hw3]; simp; omega)
  have b12 : Below w.heap.size w w2 := by rw [← hw2]; exact (Below.refl _ _).alloc (Nat.le_refl _) _
  have b23 : Below w2.heap.size w2 w3 := by rw [← hw3]; exact (Below.refl _ _).alloc (Nat.le_refl _) _
  have B3 : Hid (Below w.heap.size w w3) := Lib.hid (b12.trans (b23.mono b12.size))
  have K1 : Hid (w3.drew.cell? ⟨bx, 0, none⟩ = some (rp g)) := Lib.hid ((World.cell?_of_block (B3.out.block bx hbl)).trans hbx)
  have X3 : Hid (w3.heap[w.heap.size + 1]? = some (.cells zI.cells.toArray 24)) := Lib.hid (by
    rw [← s2, ← hw3]; exact heap_alloc_new w2 _)
  have Y3 : Hid (Lies w3 w.heap.size 32 zI.cells) := Lib.hid (by
    have := Lies.new w zI.cells 24
    rw [id_sz, hw2] at this
    exact this.kp (b23.block _ (by omega)) b23.size)
  have R1 : Hid (Rd w3.drew g l e) := Lib.hid ((hR.below B3.out hgl).drewN 1)
  obtain ⟨tt, htt⟩ : ∃ t, offT l e 32 = t := ⟨_, rfl⟩
  have HTL : Hid (tt.length ≤ 32) := Lib.hid (by rw [← htt]; exact t_len (l, e) 32)
  have TT := Lib.hid htt
  have HL := Lib.hid hl
  have HW2 := Lib.hid hw2
  have HW3 := Lib.hid hw3
  have HZI := Lib.hid hzI
  clear hw2 hw3 hR b12 b23 htt hzI hbx
  go_enter Try.func25, Try.ntmps25
  go_upto_region 2 with (first
    | ((with_reducible refine alt 24 ?_ ?_ zI.cells ZZ.out ?_); rfl; rfl; (first | rw [HW2.out] | rw [HW3.out]); (try simp only [Act.put, List.setIfInBounds_toArray, List.set_cons_succ, List.set_cons_zero, s2]))
    | fail)
  refine wp_region_noPanic ?_
  refine wp_region_held_drew (S := (fun w' => w'.cell? ⟨bx, 0, none⟩ = some (rp g))) (by kernel_rfl) K1.out (fun _ => ?_)
  refine wpAnyH_take (i := 0) rfl (by kernel_rfl) (by kernel_rfl) (by kernel_rfl) (fun _ _ _ h => h) (.inl ⟨rfl, fun w' hw' => (by clear hw'; go_simp; (try rfl))⟩) K1.out ?_
  simp only [List.getElem_toArray, List.getElem_cons_zero, List.getElem_cons_succ, Act.put, List.setIfInBounds_toArray, List.set_cons_succ, List.set_cons_zero]
  refine wpAnyH_take (i := 1) rfl (by kernel_rfl) (by kernel_rfl) (by kernel_rfl) (fun _ _ _ h => h) (.inl ⟨rfl, fun w' hw' => (by have h1 : w'.cell? ⟨bx, 0, none⟩ = some (rp g) := hw'; clear hw'; go_simp; (try rfl))⟩) K1.out ?_
  simp only [List.getElem_toArray, List.getElem_cons_zero, List.getElem_cons_succ, Act.put, List.setIfInBounds_toArray, List.set_cons_succ, List.set_cons_zero]
  refine wpAnyH_ready (rs := [2]) (by kernel_rfl) (by simp) (AllReadyH.cons rfl (fun K hK => ?_) AllReadyH.nil)
  rw [if_pos (by rfl)]
  refine wp_fn (f := 26) (xs := #[rp g, .int .i64 32]) (by first | (go_simp; done) | (go_simp; rfl)) ((raw_any R1.out 32 ⟨by omega, by omega⟩ HL.out).mono ?_)
  rintro e w4 ⟨b, hb, rfl, hbl4, hR4, hG4⟩
  rw [TT.out] at hbl4
  have hz3 := Z3.out
  have K4 := Lib.hid (cell_grown hG4 (by show bx < w3.heap.size; omega) hne K1.out)
  have R4 := Lib.hid hR4
  have G4 := Lib.hid hG4
  have BL := Lib.hid hbl4
  have HG4 : Hid (w4.heap[w.heap.size + 1]? = some (.cells zI.cells.toArray 24)) := Lib.hid ((hG4.block (w.heap.size + 1) (by show w.heap.size + 1 < w3.heap.size; omega) (by simp <;> omega)).trans X3.out)
  have Y4 : Hid (Lies w4 w.heap.size 32 zI.cells) := Lib.hid (Y3.out.kp (hG4.block w.heap.size (by show w.heap.size < w3.heap.size; omega) (by simp <;> omega)) hG4.size)
  clear hR4 hG4 hbl4 hb
  (try dsimp only)
  refine ⟨_, rfl, hK.out _ _ K4.out (fun _ => ?_)⟩
  simp only [List.getElem_toArray, List.getElem_cons_zero, List.getElem_cons_succ, Act.put, List.setIfInBounds_toArray, List.set_cons_succ, List.set_cons_zero]
  simp only [TT.out]
  refine wpAnyH_ready (rs := [3]) (by kernel_rfl) (by simp) (AllReadyH.cons rfl (fun K hK => ?_) AllReadyH.nil)
  rw [if_pos (by rfl)]
  refine wp_valw (run_cp (.tmp 3) (.tmp 5) rfl (w.heap.size + 1) ⟨b, 0, none⟩ _ rfl rfl zI.cells HG4.out (id_sz _) (bvs tt) (by rw [bvs_len]; exact (Nat.min_eq_left HTL.out).symm) (World.news_of_block BL.out) (bvs_one _)) ?_
  obtain ⟨w5, hw5⟩ : ∃ w5, w4.setRow (w.heap.size + 1) (bvs tt ++ zI.cells.drop (bvs tt).length).toArray = w5 := ⟨_, rfl⟩
  rw [hw5]
  have hrow : bvs tt ++ zI.cells.drop (bvs tt).length = ir.cells := by rw [← HIR.out, bvs_len, ← HZI.out, ← TT.out]; exact (idT_cells (l, e)).symm
  rw [hrow] at hw5
  have N5 : Hid (w5.rangeAt (w.heap.size + 1) 0 ir.cells) := Lib.hid (by rw [← hw5]; exact range_row (setRow_heap w4 _ _ _ _ _ HG4.out))
  have Y5 : Hid (Lies w5 w.heap.size 32 zI.cells) := Lib.hid (by rw [← hw5]; exact Y4.out.kp (setRow_other w4 _ _ _ (by omega)) (by simp))
  have G5 : Hid (w4.grownBy w5 (some (w.heap.size + 1))) := Lib.hid (by rw [← hw5]; exact ⟨rfl, rfl, rfl, by simp, fun k _ hk => setRow_other w4 _ k _ (by simpa using hk)⟩)
  have K5 : Hid (w5.cell? ⟨bx, 0, none⟩ = some (rp g)) := Lib.hid (by rw [← hw5]; exact (World.cell?_of_block (setRow_other w4 _ bx _ (by omega))).trans K4.out)
  have R5 : Hid (Rd w5 g (offL l e 32) (offE l e 32)) := Lib.hid (R4.out.keep fun k hk => by rw [← hw5]; exact setRow_other w4 _ k _ (by omega))
  clear hw5 hrow
  refine hK.out _ _ K5.out (fun _ => ?_)
  simp only [List.getElem_toArray, List.getElem_cons_zero, List.getElem_cons_succ, Act.put, List.setIfInBounds_toArray, List.set_cons_succ, List.set_cons_zero]
  refine wpAnyH_done (by kernel_rfl) ?_ _
  refine NoPanic.normal ?_
  have T5 := Lib.hid Y5.out.th
  obtain ⟨w6, hw6⟩ : ∃ w6, w5.setCells w.heap.size 0 ir.cells = w6 := ⟨_, rfl⟩
  have N6 : Hid (w6.rangeAt w.heap.size 0 ir.cells) := Lib.hid (by rw [← hw6]; exact (Y5.out.set_ (id_sz _)).rg)
  have B6 : Hid (Below w.heap.size w5 w6) := Lib.hid (by rw [← hw6]; exact below_setCells (Below.refl _ _) (Nat.le_refl _) _ _)
  have HW6 := Lib.hid hw6
  clear hw6
  go_wp2_with (first
    | ((with_reducible refine ldi (.tmp 2) ?_ ?_ (w.heap.size + 1) 0 ir ?_ N5.out ?_); rfl; rfl; rfl)
    | ((with_reducible refine sti (.tmp 1) (.tmp 7) ?_ ?_ w.heap.size 0 ir ?_ ?_ T5.out ?_); rfl; rfl; rfl; rfl; rw [HW6.out])
    | fail)
  have b45 := below_of_only G5.out (B := w.heap.size) (by omega) (by have := G4.out.size; have e : w3.drew.heap.size = w3.heap.size := rfl; have := B3.out.size; omega)
  refine bodyPost_ret (res_id rfl _ _ w.heap.size ir.b ir.h rfl N6.out) rfl ⟨rfl, ⟨R5.out.below B6.out (by omega), Nat.le_trans (s_len (l, e) 32) HL.out⟩, only_then (only_trans (only_of_below B3.out _) (only_trans (only_drewN (only_refl w3 (some g)) 1) G4.out)) (b45.trans B6.out)⟩
end Go.Proofs.Ythionkcnmkhopaa
