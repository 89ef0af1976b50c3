/-
  OBJECTS: the reader's parts.
-/
import Derived.Test.YtcofkhmgmemkmaaGreatDoorK28
import Derived.Laws.CopyOwn
import Derived.Deep.RegionHeld3
namespace Go.Proofs.YtcofkhmgmemkmaaGreatDoor
set_option linter.unusedVariables false
set_option linter.unusedSimpArgs false
open Go.RowKit Go.WideShapes Go.ChangeShapes Go.Deep Go.Shelf
attribute [local irreducible] wpQuiet

/-- What a reader has still, and its error. -/
abbrev St := List UInt8 × Int
def St.t (s : St) (n : Nat) : List UInt8 := S3.offT s.1 s.2 n
def St.s (s : St) (n : Nat) : St := (S3.offL s.1 s.2 n, S3.offE s.1 s.2 n)
def St.num (s : St) (n : Nat) : Nat := S3.num (s.t n)
abbrev RdS (w : World) (g : Nat) (s : St) : Prop := S3.Rd w g s.1 s.2 ∧ s.1.length ≤ 140737488355320
theorem t_len (s : St) (n : Nat) : (s.t n).length ≤ n := by unfold St.t S3.offT; split <;> simp <;> omega
theorem s_len (s : St) (n : Nat) : (s.s n).1.length ≤ s.1.length := by unfold St.s S3.offL; dsimp only; split <;> simp
theorem num_le (s : St) (n : Nat) : s.num n < 256 ^ n := Nat.lt_of_lt_of_le (S3.num_lt _) (Nat.pow_le_pow_right (by omega) (t_len s n))
def wordV (s : St) : ByteArray := ⟨((s.s 1).t (s.num 1)).toArray⟩
def wordS (s : St) : St := (s.s 1).s (s.num 1)
def textV (s : St) : ByteArray := ⟨((s.s 2).t (s.num 2)).toArray⟩
def textS (s : St) : St := (s.s 2).s (s.num 2)
theorem wp_val {P : Program} {o : Oper} {a : Act} {w : World} {K : Act → World → Prop} {Q : Exit → Act → World → Prop} {v : Value} (hr : (execOp a.eval o).run P w = .ok (.value v) w) (h : K (a.put o.dst v) w) : o.wp P a w K Q := by
  unfold Oper.wp
  rw [hr]
  exact h
theorem run_str {op : Oper} {a : Act} {w : World} {B n c : Nat} {A : Option Addr} {l : List UInt8} (x : Operand) (ho : op.op = .convert 24 9 x) (hx : a.eval x = .slice A n c) (h : S3.SlB w B A n c l) : (execOp a.eval op).run Tryz.prog w = .ok (.value (.string ⟨l.toArray⟩)) w := by
  have e := h.str (P := Tryz.prog) 24 9 5 Tryz.underlying24 Tryz.underlying5 Tryz.underlying9
  unfold execOp
  simp only [ho, hx, Sem.run_bind, e, Result.andThen_ok, Sem.run_pure]
theorem cell_grown {w w' : World} {g : Nat} (h : w.grownBy w' (some g)) {b : Nat} (hb : b < w.heap.size) (hne : b ≠ g) {o : Nat} {v : Value} (hc : w.cell? ⟨b, o, none⟩ = some v) : w'.cell? ⟨b, o, none⟩ = some v :=
  (World.cell?_of_block (h.block b hb (by simpa using hne))).trans hc

set_option maxRecDepth 100000 in
theorem word_any {w : World} {g : Nat} {s : St} (h : RdS w g s) :
    Calls Tryz.prog 37 #[.agg #[S3.rp g]] w fun x w' => x = .returned (.string (wordV s)) ∧ RdS w' g (wordS s) ∧ w.grownBy w' (some g) := by
  obtain ⟨l, e⟩ := s
  obtain ⟨hR, hl⟩ := h
  have hgl := hR.lt
  obtain ⟨w1, hw1⟩ : ∃ w1, w.alloc (.cells #[S3.rp g] 58) = w1 := ⟨_, rfl⟩
  have B1 : Hid (Below w.heap.size w w1) := Lib.hid (by rw [← hw1]; exact (Below.refl _ _).alloc (Nat.le_refl _) _)
  have Z1 : Hid (w1.heap.size = w.heap.size + 1) := Lib.hid (by rw [← hw1]; simp)
  have K1 : Hid (w1.drew.cell? ⟨w.heap.size, 0, none⟩ = some (S3.rp g)) := Lib.hid (by rw [← hw1]; exact (Boxed.new w 58 (S3.rp g)).cell)
  have R1 : Hid (S3.Rd w1.drew g l e) := Lib.hid ((hR.below B1.out hgl).drewN 1)
  obtain ⟨nn, hnn⟩ : ∃ n, St.num (l, e) 1 = n := ⟨_, rfl⟩
  have hn : nn < 256 := by rw [← hnn]; exact num_le _ _
  have NV : Hid (S3.num (S3.offT l e 1) = nn) := Lib.hid hnn
  have HL2 : Hid ((S3.offL l e 1).length ≤ 140737488355320) := Lib.hid (Nat.le_trans (s_len (l, e) 1) hl)
  have HT : Hid ((S3.offT (S3.offL l e 1) (S3.offE l e 1) (nn : Int)).length ≤ nn) := Lib.hid (t_len (St.s (l, e) 1) nn)
  have hwr : IntKind.i64.wrap (nn : Int) = (nn : Int) := IntWalk.i64_in _ (by omega)
  have HW1 := Lib.hid hw1
  have HNN := Lib.hid hnn
  clear hw1 hnn hR
  go_enter Tryz.func37, Tryz.ntmps37
  go_upto_region 1 with fail
  rw [HW1.out]
  refine wp_region_noPanic ?_
  refine wp_region_held_drew (S := (fun w' => w'.cell? ⟨w.heap.size, 0, none⟩ = some (S3.rp g))) (by kernel_rfl) K1.out (fun _ => ?_)
  refine wpAnyH_take (i := 0) rfl (by kernel_rfl) (by kernel_rfl) (by kernel_rfl) (fun _ _ _ h => h) (.inl ⟨rfl, fun w' hw' => (by clear hw'; go_simp; (try rfl))⟩) K1.out ?_
  simp only [List.getElem_toArray, List.getElem_cons_zero, List.getElem_cons_succ, Act.put, List.setIfInBounds_toArray, List.set_cons_succ, List.set_cons_zero]
  refine wpAnyH_take (i := 1) rfl (by kernel_rfl) (by kernel_rfl) (by kernel_rfl) (fun _ _ _ h => h) (.inl ⟨rfl, fun w' hw' => (by have h1 : w'.cell? ⟨w.heap.size, 0, none⟩ = some (S3.rp g) := hw'; clear hw'; go_simp; (try rfl))⟩) K1.out ?_
  simp only [List.getElem_toArray, List.getElem_cons_zero, List.getElem_cons_succ, Act.put, List.setIfInBounds_toArray, List.set_cons_succ, List.set_cons_zero]
  refine wpAnyH_take (i := 2) rfl (by kernel_rfl) (by kernel_rfl) (by kernel_rfl) (fun _ _ _ h => h) (.inl ⟨rfl, fun w' hw' => (by clear hw'; go_simp; (try rfl))⟩) K1.out ?_
  simp only [List.getElem_toArray, List.getElem_cons_zero, List.getElem_cons_succ, Act.put, List.setIfInBounds_toArray, List.set_cons_succ, List.set_cons_zero]
  refine wpAnyH_take (i := 3) rfl (by kernel_rfl) (by kernel_rfl) (by kernel_rfl) (fun _ _ _ h => h) (.inl ⟨rfl, fun w' hw' => (by have h1 : w'.cell? ⟨w.heap.size, 0, none⟩ = some (S3.rp g) := hw'; clear hw'; go_simp; (try rfl))⟩) K1.out ?_
  simp only [List.getElem_toArray, List.getElem_cons_zero, List.getElem_cons_succ, Act.put, List.setIfInBounds_toArray, List.set_cons_succ, List.set_cons_zero]
  refine wpAnyH_ready (rs := [4]) (by kernel_rfl) (by simp) (AllReadyH.cons rfl (fun K hK => ?_) AllReadyH.nil)
  rw [if_pos (by rfl)]
  refine wp_fn (f := 28) (xs := #[S3.rp g]) (by first | (go_simp; done) | (go_simp; rfl)) ((S3.take_u8 R1.out).mono ?_)
  rintro e w2 ⟨rfl, hR2, hG2⟩
  have K2 := Lib.hid (cell_grown hG2 (by show w.heap.size < w1.heap.size; rw [Z1.out]; omega) (by omega) K1.out)
  have R2 := Lib.hid hR2
  have G2 := Lib.hid hG2
  clear hR2 hG2
  (try dsimp only)
  refine ⟨_, rfl, hK.out _ _ K2.out (fun _ => ?_)⟩
  simp only [List.getElem_toArray, List.getElem_cons_zero, List.getElem_cons_succ, Act.put, List.setIfInBounds_toArray, List.set_cons_succ, List.set_cons_zero]
  rw [NV.out]
  refine wpAnyH_take (i := 5) rfl (by kernel_rfl) (by kernel_rfl) (by kernel_rfl) (fun _ _ _ h => h) (.inl ⟨rfl, fun w' hw' => (by clear hw'; go_simp; (try rfl))⟩) K2.out ?_
  simp only [List.getElem_toArray, List.getElem_cons_zero, List.getElem_cons_succ, Act.put, List.setIfInBounds_toArray, List.set_cons_succ, List.set_cons_zero]
  refine wpAnyH_ready (rs := [6]) (by kernel_rfl) (by simp) (AllReadyH.cons rfl (fun K hK => ?_) AllReadyH.nil)
  rw [if_pos (by rfl)]
  refine wp_fn (f := 56) (xs := #[S3.rp g, .int .i64 (nn : Int)]) (by first | (go_simp; done) | (go_simp; rfl)) ((S3.raw_any R2.out (nn : Int) ⟨by omega, by omega⟩ HL2.out).mono ?_)
  rintro e w3 ⟨b, hb, rfl, hbl, hR3, hG3⟩
  have hsl : S3.SlB w3 w3.heap.size (some ⟨b, 0, none⟩) _ _ _ := hbl.sl hbl.lt (by have := HT.out; unfold maxLen; omega)
  have HSL := Lib.hid hsl
  have K3 := Lib.hid (cell_grown hG3 (by have := G2.out.size; have e : w1.drew.heap.size = w.heap.size + 1 := Z1.out; omega) (by omega) K2.out)
  have R3 := Lib.hid hR3
  have G3 := Lib.hid hG3
  clear hR3 hG3 hbl hsl hb
  (try dsimp only)
  refine ⟨_, rfl, hK.out _ _ K3.out (fun _ => ?_)⟩
  simp only [List.getElem_toArray, List.getElem_cons_zero, List.getElem_cons_succ, Act.put, List.setIfInBounds_toArray, List.set_cons_succ, List.set_cons_zero]
  refine wpAnyH_ready (rs := [7]) (by kernel_rfl) (by simp) (AllReadyH.cons rfl (fun K hK => ?_) AllReadyH.nil)
  rw [if_pos (by rfl)]
  refine wp_val (run_str (.tmp 9) rfl (by go_simp; (try rfl)) HSL.out) ?_
  refine hK.out _ _ K3.out (fun _ => ?_)
  simp only [List.getElem_toArray, List.getElem_cons_zero, List.getElem_cons_succ, Act.put, List.setIfInBounds_toArray, List.set_cons_succ, List.set_cons_zero]
  refine wpAnyH_take (i := 8) rfl (by kernel_rfl) (by kernel_rfl) (by kernel_rfl) (fun _ _ _ h => h) (.inl ⟨rfl, fun w' hw' => (by clear hw'; go_simp; (try rfl))⟩) K3.out ?_
  simp only [List.getElem_toArray, List.getElem_cons_zero, List.getElem_cons_succ, Act.put, List.setIfInBounds_toArray, List.set_cons_succ, List.set_cons_zero]
  refine wpAnyH_done (by kernel_rfl) ?_ _
  refine NoPanic.normal ?_
  go_wp2_with fail
  go_ret
  refine ⟨?_, ⟨?_, ?_⟩, ?_⟩
  · unfold wordV; rw [HNN.out]; rfl
  · unfold wordS; rw [HNN.out]; exact R3.out
  · unfold wordS; rw [HNN.out]; exact Nat.le_trans (s_len _ _) HL2.out
  · exact S3.only_trans (S3.only_of_below B1.out _) (S3.only_trans (S3.only_drewN (S3.only_refl w1 (some g)) 1) (S3.only_trans G2.out G3.out))

set_option maxRecDepth 100000 in
theorem text_any {w : World} {g : Nat} {s : St} (h : RdS w g s) :
    Calls Tryz.prog 29 #[.agg #[S3.rp g]] w fun x w' => x = .returned (.string (textV s)) ∧ RdS w' g (textS s) ∧ w.grownBy w' (some g) := by
  obtain ⟨l, e⟩ := s
  obtain ⟨hR, hl⟩ := h
  have hgl := hR.lt
  obtain ⟨w1, hw1⟩ : ∃ w1, w.alloc (.cells #[S3.rp g] 58) = w1 := ⟨_, rfl⟩
  have B1 : Hid (Below w.heap.size w w1) := Lib.hid (by rw [← hw1]; exact (Below.refl _ _).alloc (Nat.le_refl _) _)
  have Z1 : Hid (w1.heap.size = w.heap.size + 1) := Lib.hid (by rw [← hw1]; simp)
  have K1 : Hid (w1.drew.cell? ⟨w.heap.size, 0, none⟩ = some (S3.rp g)) := Lib.hid (by rw [← hw1]; exact (Boxed.new w 58 (S3.rp g)).cell)
  have R1 : Hid (S3.Rd w1.drew g l e) := Lib.hid ((hR.below B1.out hgl).drewN 1)
  obtain ⟨nn, hnn⟩ : ∃ n, St.num (l, e) 2 = n := ⟨_, rfl⟩
  have hn : nn < 65536 := by rw [← hnn]; exact num_le _ _
  have NV : Hid (S3.num (S3.offT l e 2) = nn) := Lib.hid hnn
  have HL2 : Hid ((S3.offL l e 2).length ≤ 140737488355320) := Lib.hid (Nat.le_trans (s_len (l, e) 2) hl)
  have HT : Hid ((S3.offT (S3.offL l e 2) (S3.offE l e 2) (nn : Int)).length ≤ nn) := Lib.hid (t_len (St.s (l, e) 2) nn)
  have hwr : IntKind.i64.wrap (nn : Int) = (nn : Int) := IntWalk.i64_in _ (by omega)
  have HW1 := Lib.hid hw1
  have HNN := Lib.hid hnn
  clear hw1 hnn hR
  go_enter Tryz.func29, Tryz.ntmps29
  go_upto_region 1 with fail
  rw [HW1.out]
  refine wp_region_noPanic ?_
  refine wp_region_held_drew (S := (fun w' => w'.cell? ⟨w.heap.size, 0, none⟩ = some (S3.rp g))) (by kernel_rfl) K1.out (fun _ => ?_)
  refine wpAnyH_take (i := 0) rfl (by kernel_rfl) (by kernel_rfl) (by kernel_rfl) (fun _ _ _ h => h) (.inl ⟨rfl, fun w' hw' => (by clear hw'; go_simp; (try rfl))⟩) K1.out ?_
  simp only [List.getElem_toArray, List.getElem_cons_zero, List.getElem_cons_succ, Act.put, List.setIfInBounds_toArray, List.set_cons_succ, List.set_cons_zero]
  refine wpAnyH_take (i := 1) rfl (by kernel_rfl) (by kernel_rfl) (by kernel_rfl) (fun _ _ _ h => h) (.inl ⟨rfl, fun w' hw' => (by have h1 : w'.cell? ⟨w.heap.size, 0, none⟩ = some (S3.rp g) := hw'; clear hw'; go_simp; (try rfl))⟩) K1.out ?_
  simp only [List.getElem_toArray, List.getElem_cons_zero, List.getElem_cons_succ, Act.put, List.setIfInBounds_toArray, List.set_cons_succ, List.set_cons_zero]
  refine wpAnyH_take (i := 2) rfl (by kernel_rfl) (by kernel_rfl) (by kernel_rfl) (fun _ _ _ h => h) (.inl ⟨rfl, fun w' hw' => (by clear hw'; go_simp; (try rfl))⟩) K1.out ?_
  simp only [List.getElem_toArray, List.getElem_cons_zero, List.getElem_cons_succ, Act.put, List.setIfInBounds_toArray, List.set_cons_succ, List.set_cons_zero]
  refine wpAnyH_take (i := 3) rfl (by kernel_rfl) (by kernel_rfl) (by kernel_rfl) (fun _ _ _ h => h) (.inl ⟨rfl, fun w' hw' => (by have h1 : w'.cell? ⟨w.heap.size, 0, none⟩ = some (S3.rp g) := hw'; clear hw'; go_simp; (try rfl))⟩) K1.out ?_
  simp only [List.getElem_toArray, List.getElem_cons_zero, List.getElem_cons_succ, Act.put, List.setIfInBounds_toArray, List.set_cons_succ, List.set_cons_zero]
  refine wpAnyH_ready (rs := [4]) (by kernel_rfl) (by simp) (AllReadyH.cons rfl (fun K hK => ?_) AllReadyH.nil)
  rw [if_pos (by rfl)]
  refine wp_fn (f := 57) (xs := #[S3.rp g]) (by first | (go_simp; done) | (go_simp; rfl)) ((S3.take_u16 R1.out).mono ?_)
  rintro e w2 ⟨rfl, hR2, hG2⟩
  have K2 := Lib.hid (cell_grown hG2 (by show w.heap.size < w1.heap.size; rw [Z1.out]; omega) (by omega) K1.out)
  have R2 := Lib.hid hR2
  have G2 := Lib.hid hG2
  clear hR2 hG2
  (try dsimp only)
  refine ⟨_, rfl, hK.out _ _ K2.out (fun _ => ?_)⟩
  simp only [List.getElem_toArray, List.getElem_cons_zero, List.getElem_cons_succ, Act.put, List.setIfInBounds_toArray, List.set_cons_succ, List.set_cons_zero]
  rw [NV.out]
  refine wpAnyH_take (i := 5) rfl (by kernel_rfl) (by kernel_rfl) (by kernel_rfl) (fun _ _ _ h => h) (.inl ⟨rfl, fun w' hw' => (by clear hw'; go_simp; (try rfl))⟩) K2.out ?_
  simp only [List.getElem_toArray, List.getElem_cons_zero, List.getElem_cons_succ, Act.put, List.setIfInBounds_toArray, List.set_cons_succ, List.set_cons_zero]
  refine wpAnyH_ready (rs := [6]) (by kernel_rfl) (by simp) (AllReadyH.cons rfl (fun K hK => ?_) AllReadyH.nil)
  rw [if_pos (by rfl)]
  refine wp_fn (f := 56) (xs := #[S3.rp g, .int .i64 (nn : Int)]) (by first | (go_simp; done) | (go_simp; rfl)) ((S3.raw_any R2.out (nn : Int) ⟨by omega, by omega⟩ HL2.out).mono ?_)
  rintro e w3 ⟨b, hb, rfl, hbl, hR3, hG3⟩
  have hsl : S3.SlB w3 w3.heap.size (some ⟨b, 0, none⟩) _ _ _ := hbl.sl hbl.lt (by have := HT.out; unfold maxLen; omega)
  have HSL := Lib.hid hsl
  have K3 := Lib.hid (cell_grown hG3 (by have := G2.out.size; have e : w1.drew.heap.size = w.heap.size + 1 := Z1.out; omega) (by omega) K2.out)
  have R3 := Lib.hid hR3
  have G3 := Lib.hid hG3
  clear hR3 hG3 hbl hsl hb
  (try dsimp only)
  refine ⟨_, rfl, hK.out _ _ K3.out (fun _ => ?_)⟩
  simp only [List.getElem_toArray, List.getElem_cons_zero, List.getElem_cons_succ, Act.put, List.setIfInBounds_toArray, List.set_cons_succ, List.set_cons_zero]
  refine wpAnyH_ready (rs := [7]) (by kernel_rfl) (by simp) (AllReadyH.cons rfl (fun K hK => ?_) AllReadyH.nil)
  rw [if_pos (by rfl)]
  refine wp_val (run_str (.tmp 9) rfl (by go_simp; (try rfl)) HSL.out) ?_
  refine hK.out _ _ K3.out (fun _ => ?_)
  simp only [List.getElem_toArray, List.getElem_cons_zero, List.getElem_cons_succ, Act.put, List.setIfInBounds_toArray, List.set_cons_succ, List.set_cons_zero]
  refine wpAnyH_take (i := 8) rfl (by kernel_rfl) (by kernel_rfl) (by kernel_rfl) (fun _ _ _ h => h) (.inl ⟨rfl, fun w' hw' => (by clear hw'; go_simp; (try rfl))⟩) K3.out ?_
  simp only [List.getElem_toArray, List.getElem_cons_zero, List.getElem_cons_succ, Act.put, List.setIfInBounds_toArray, List.set_cons_succ, List.set_cons_zero]
  refine wpAnyH_done (by kernel_rfl) ?_ _
  refine NoPanic.normal ?_
  go_wp2_with fail
  go_ret
  refine ⟨?_, ⟨?_, ?_⟩, ?_⟩
  · unfold textV; rw [HNN.out]; rfl
  · unfold textS; rw [HNN.out]; exact R3.out
  · unfold textS; rw [HNN.out]; exact Nat.le_trans (s_len _ _) HL2.out
  · exact S3.only_trans (S3.only_of_below B1.out _) (S3.only_trans (S3.only_drewN (S3.only_refl w1 (some g)) 1) (S3.only_trans G2.out G3.out))

def idT (s : St) : Idv := ⟨s.t 32 ++ List.replicate (32 - (s.t 32).length) 0, by have := t_len s 32; simp; omega⟩
theorem only_then {a b c : World} {r : Option Nat} (h : a.grownBy b r) (k : Below a.heap.size b c) : a.grownBy c r := ⟨k.os.trans h.os, k.tape.trans h.tape, k.output.trans h.output, Nat.le_trans h.size k.size, fun i hi hn => (k.block i hi).trans (h.block i hi hn)⟩
theorem idT_cells (s : St) : (idT s).cells = S3.bvs (s.t 32) ++ Idv.zero.cells.drop (s.t 32).length := by
  unfold idT Idv.cells
  show S3.bvs (s.t 32 ++ List.replicate (32 - (s.t 32).length) 0) = S3.bvs (s.t 32) ++ (S3.bvs (List.replicate 32 0)).drop (s.t 32).length
  unfold S3.bvs
  rw [List.map_append, List.map_replicate, List.map_replicate, List.drop_replicate]
theorem range_row {w : World} {b : Nat} {cs : List Value} {t : TypeId} {f : Nat × Nat} (h : w.heap[b]? = some (.cells cs.toArray t f)) : w.rangeAt b 0 cs := fun i v hv => by
  unfold World.cell?
  simp only [h]
  simpa using hv
theorem wp_valw {P : Program} {o : Oper} {a : Act} {w w' : World} {K : Act → World → Prop} {Q : Exit → Act → World → Prop} {v : Value} (hr : (execOp a.eval o).run P w = .ok (.value v) w') (h : K (a.put o.dst v) w') : o.wp P a w K Q := by
  unfold Oper.wp
  rw [hr]
  exact h
theorem run_cp {op : Oper} {a : Act} {w : World} (d s : Operand) (ho : op.op = .call { callee := .builtin .copy, args := #[d, s], argTypes := #[24, 24] }) (g : Nat) (ad : Addr) (sLen : Nat) (hd : a.eval d = .slice (some ⟨g, 0, none⟩) 32 32) (hs : a.eval s = .slice (some ad) sLen sLen)
    (cur : List Value) (hg : w.heap[g]? = some (.cells cur.toArray 27)) (hc : cur.length = 32) (cs : List Value) (hn : cs.length = Nat.min sLen 32) (hsrc : ∀ j v, cs[j]? = some v → w.cell? (ad.add j) = some v) (h1 : ∀ v ∈ cs, v.oneCell' = true) :
    (execOp a.eval op).run Tryz.prog w = .ok (.value (goInt cs.length)) (w.setRow g (cs ++ cur.drop cs.length).toArray) := by
  have hle : cs.length ≤ 32 := by rw [hn]; exact Nat.min_le_right _ _
  have hrun := run_copy_row (P := Tryz.prog) w 24 24 op.type 5 g 0 32 32 ad sLen sLen cur.toArray 27 cs Tryz.underlying24 (by kernel_rfl) hg hn hsrc (by simp; omega) h1
  simp [execOp, ho, resolve, invoke, builtin, hd, hs, hrun, Result.andThen]
set_option maxRecDepth 100000 in
theorem idr_any {w : World} {g : Nat} {s : St} (h : RdS w g s) :
    Calls Tryz.prog 32 #[.agg #[S3.rp g]] w fun x w' => x = .returned (idV (idT s)) ∧ RdS w' g (s.s 32) ∧ w.grownBy w' (some g) := by
  obtain ⟨l, e⟩ := s
  obtain ⟨hR, hl⟩ := h
  have hgl := hR.lt
  obtain ⟨ir, hir⟩ : ∃ i, idT (l, e) = i := ⟨_, rfl⟩
  have HIR := Lib.hid hir
  rw [hir]
  clear hir
  obtain ⟨zI, hzI⟩ : ∃ z, Idv.zero = z := ⟨_, rfl⟩
  have ZZ : Hid (∀ w : World, (zeroValue 27).run Tryz.prog w = .ok (.agg zI.cells.toArray) w) := Lib.hid (by rw [← hzI]; exact zero_id)
  obtain ⟨w1, hw1⟩ : ∃ w1, w.alloc (.cells #[S3.rp g] 58) = w1 := ⟨_, rfl⟩
  have s1 : w1.heap.size = w.heap.size + 1 := by rw [← hw1]; simp
  obtain ⟨w2, hw2⟩ : ∃ w2, w1.alloc (.cells zI.cells.toArray 27) = w2 := ⟨_, rfl⟩
  have s2 : w2.heap.size = w.heap.size + 2 := by rw [← hw2]; simp; omega
  obtain ⟨w3, hw3⟩ : ∃ w3, w2.alloc (.cells zI.cells.toArray 27) = w3 := ⟨_, rfl⟩
  have Z3 : Hid (w3.heap.size = w.heap.size + 3) := Lib.hid (by rw [← hw3]; simp; omega)
  have b1 : Below w.heap.size w w1 := by rw [← hw1]; exact (Below.refl _ _).alloc (Nat.le_refl _) _
  have b12 : Below w1.heap.size w1 w2 := by rw [← hw2]; exact (Below.refl _ _).alloc (Nat.le_refl _) _
  have b23 : Below w2.heap.size w2 w3 := by rw [← hw3]; exact (Below.refl _ _).alloc (Nat.le_refl _) _
  have b13 := b12.trans (b23.mono b12.size)
  have B3 : Hid (Below w.heap.size w w3) := Lib.hid (b1.trans (b13.mono b1.size))
  have K1 : Hid (w3.drew.cell? ⟨w.heap.size, 0, none⟩ = some (S3.rp g)) := Lib.hid (by
    refine (World.cell?_of_block (b13.block w.heap.size (by omega))).trans ?_
    rw [← hw1]; exact (Boxed.new w 58 (S3.rp g)).cell)
  have X3 : Hid (w3.heap[w.heap.size + 2]? = some (.cells zI.cells.toArray 27)) := Lib.hid (by
    rw [← s2, ← hw3]; exact heap_alloc_new w2 _)
  have Y3 : Hid (Lies w3 (w.heap.size + 1) 32 zI.cells) := Lib.hid (by
    have := Lies.new w1 zI.cells 27
    rw [id_sz, hw2, s1] at this
    exact this.kp (b23.block _ (by omega)) b23.size)
  have R1 : Hid (S3.Rd w3.drew g l e) := Lib.hid ((hR.below B3.out hgl).drewN 1)
  obtain ⟨tt, htt⟩ : ∃ t, S3.offT l e 32 = t := ⟨_, rfl⟩
  have HTL : Hid (tt.length ≤ 32) := Lib.hid (by rw [← htt]; exact t_len (l, e) 32)
  have TT := Lib.hid htt
  have HL := Lib.hid hl
  have HW1 := Lib.hid hw1
  have HW2 := Lib.hid hw2
  have HW3 := Lib.hid hw3
  have HZI := Lib.hid hzI
  clear hw1 hw2 hw3 hR b1 b12 b23 b13 htt hzI
  go_enter Tryz.func32, Tryz.ntmps32
  go_upto_region 2 with (first
    | ((with_reducible refine alt 27 ?_ ?_ zI.cells ZZ.out ?_); rfl; rfl; (first | rw [HW1.out, HW2.out] | rw [HW3.out]); (try simp only [Act.put, List.setIfInBounds_toArray, List.set_cons_succ, List.set_cons_zero, s1, s2]))
    | fail)
  refine wp_region_noPanic ?_
  refine wp_region_held_drew (S := (fun w' => w'.cell? ⟨w.heap.size, 0, none⟩ = some (S3.rp g))) (by kernel_rfl) K1.out (fun _ => ?_)
  refine wpAnyH_take (i := 0) rfl (by kernel_rfl) (by kernel_rfl) (by kernel_rfl) (fun _ _ _ h => h) (.inl ⟨rfl, fun w' hw' => (by clear hw'; go_simp; (try rfl))⟩) K1.out ?_
  simp only [List.getElem_toArray, List.getElem_cons_zero, List.getElem_cons_succ, Act.put, List.setIfInBounds_toArray, List.set_cons_succ, List.set_cons_zero]
  refine wpAnyH_take (i := 1) rfl (by kernel_rfl) (by kernel_rfl) (by kernel_rfl) (fun _ _ _ h => h) (.inl ⟨rfl, fun w' hw' => (by clear hw'; go_simp; (try rfl))⟩) K1.out ?_
  simp only [List.getElem_toArray, List.getElem_cons_zero, List.getElem_cons_succ, Act.put, List.setIfInBounds_toArray, List.set_cons_succ, List.set_cons_zero]
  refine wpAnyH_take (i := 2) rfl (by kernel_rfl) (by kernel_rfl) (by kernel_rfl) (fun _ _ _ h => h) (.inl ⟨rfl, fun w' hw' => (by have h1 : w'.cell? ⟨w.heap.size, 0, none⟩ = some (S3.rp g) := hw'; clear hw'; go_simp; (try rfl))⟩) K1.out ?_
  simp only [List.getElem_toArray, List.getElem_cons_zero, List.getElem_cons_succ, Act.put, List.setIfInBounds_toArray, List.set_cons_succ, List.set_cons_zero]
  refine wpAnyH_ready (rs := [3]) (by kernel_rfl) (by simp) (AllReadyH.cons rfl (fun K hK => ?_) AllReadyH.nil)
  rw [if_pos (by rfl)]
  refine wp_fn (f := 56) (xs := #[S3.rp g, .int .i64 32]) (by first | (go_simp; done) | (go_simp; rfl)) ((S3.raw_any R1.out 32 ⟨by omega, by omega⟩ HL.out).mono ?_)
  rintro e w4 ⟨b, hb, rfl, hbl, hR4, hG4⟩
  rw [TT.out] at hbl
  have hz3 := Z3.out
  have K4 := Lib.hid (cell_grown hG4 (by show w.heap.size < w3.heap.size; omega) (by omega) K1.out)
  have R4 := Lib.hid hR4
  have G4 := Lib.hid hG4
  have BL := Lib.hid hbl
  have HG4 : Hid (w4.heap[w.heap.size + 2]? = some (.cells zI.cells.toArray 27)) := Lib.hid ((hG4.block (w.heap.size + 2) (by show w.heap.size + 2 < w3.heap.size; omega) (by simp <;> omega)).trans X3.out)
  have Y4 : Hid (Lies w4 (w.heap.size + 1) 32 zI.cells) := Lib.hid (Y3.out.kp (hG4.block (w.heap.size + 1) (by show w.heap.size + 1 < w3.heap.size; omega) (by simp <;> omega)) hG4.size)
  clear hR4 hG4 hbl hb
  (try dsimp only)
  refine ⟨_, rfl, hK.out _ _ K4.out (fun _ => ?_)⟩
  simp only [List.getElem_toArray, List.getElem_cons_zero, List.getElem_cons_succ, Act.put, List.setIfInBounds_toArray, List.set_cons_succ, List.set_cons_zero]
  simp only [TT.out]
  refine wpAnyH_ready (rs := [4]) (by kernel_rfl) (by simp) (AllReadyH.cons rfl (fun K hK => ?_) AllReadyH.nil)
  rw [if_pos (by rfl)]
  refine wp_valw (run_cp (.tmp 4) (.tmp 7) rfl (w.heap.size + 2) ⟨b, 0, none⟩ _ rfl rfl zI.cells HG4.out (id_sz _) (S3.bvs tt) (by rw [S3.bvs_len]; exact (Nat.min_eq_left HTL.out).symm) (World.news_of_block BL.out) (S3.bvs_one _)) ?_
  obtain ⟨w5, hw5⟩ : ∃ w5, w4.setRow (w.heap.size + 2) (S3.bvs tt ++ zI.cells.drop (S3.bvs tt).length).toArray = w5 := ⟨_, rfl⟩
  rw [hw5]
  have hrow : S3.bvs tt ++ zI.cells.drop (S3.bvs tt).length = ir.cells := by rw [← HIR.out, S3.bvs_len, ← HZI.out, ← TT.out]; exact (idT_cells (l, e)).symm
  rw [hrow] at hw5
  have N5 : Hid (w5.rangeAt (w.heap.size + 2) 0 ir.cells) := Lib.hid (by rw [← hw5]; exact range_row (setRow_heap w4 _ _ _ _ _ HG4.out))
  have Y5 : Hid (Lies w5 (w.heap.size + 1) 32 zI.cells) := Lib.hid (by rw [← hw5]; exact Y4.out.kp (setRow_other w4 _ _ _ (by omega)) (by simp))
  have G5 : Hid (w4.grownBy w5 (some (w.heap.size + 2))) := Lib.hid (by rw [← hw5]; exact ⟨rfl, rfl, rfl, by simp, fun k _ hk => setRow_other w4 _ k _ (by simpa using hk)⟩)
  have K5 : Hid (w5.cell? ⟨w.heap.size, 0, none⟩ = some (S3.rp g)) := Lib.hid (by rw [← hw5]; exact (World.cell?_of_block (setRow_other w4 _ w.heap.size _ (by omega))).trans K4.out)
  have R5 : Hid (S3.Rd w5 g (S3.offL l e 32) (S3.offE l e 32)) := Lib.hid (R4.out.keep fun k hk => by rw [← hw5]; exact setRow_other w4 _ k _ (by omega))
  clear hw5 hrow
  refine hK.out _ _ K5.out (fun _ => ?_)
  simp only [List.getElem_toArray, List.getElem_cons_zero, List.getElem_cons_succ, Act.put, List.setIfInBounds_toArray, List.set_cons_succ, List.set_cons_zero]
  refine wpAnyH_done (by kernel_rfl) ?_ _
  refine NoPanic.normal ?_
  have T5 := Lib.hid Y5.out.th
  obtain ⟨w6, hw6⟩ : ∃ w6, w5.setCells (w.heap.size + 1) 0 ir.cells = w6 := ⟨_, rfl⟩
  have N6 : Hid (w6.rangeAt (w.heap.size + 1) 0 ir.cells) := Lib.hid (by rw [← hw6]; exact (Y5.out.set_ (id_sz _)).rg)
  have B6 : Hid (Below (w.heap.size + 1) w5 w6) := Lib.hid (by rw [← hw6]; exact below_setCells (Below.refl _ _) (Nat.le_refl _) _ _)
  have HW6 := Lib.hid hw6
  clear hw6
  go_wp2_with (first
    | ((with_reducible refine ldi (.tmp 3) ?_ ?_ (w.heap.size + 2) 0 ir ?_ N5.out ?_); rfl; rfl; rfl)
    | ((with_reducible refine sti (.tmp 2) (.tmp 9) ?_ ?_ (w.heap.size + 1) 0 ir ?_ ?_ T5.out ?_); rfl; rfl; rfl; rfl; rw [HW6.out])
    | fail)
  have b45 := S3.below_of_only G5.out (B := w.heap.size) (by omega) (by have := G4.out.size; have e : w3.drew.heap.size = w3.heap.size := rfl; have := B3.out.size; omega)
  refine bodyPost_ret (S3.res_id rfl _ _ (w.heap.size + 1) ir.b ir.h rfl N6.out) rfl ⟨rfl, ⟨R5.out.below B6.out (by omega), Nat.le_trans (s_len (l, e) 32) HL.out⟩, only_then (S3.only_trans (S3.only_of_below B3.out _) (S3.only_trans (S3.only_drewN (S3.only_refl w3 (some g)) 1) G4.out)) (b45.trans (B6.out.mono (by omega)))⟩
end Go.Proofs.YtcofkhmgmemkmaaGreatDoor
