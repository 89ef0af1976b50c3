/-
  COMMANDS: Decode.
-/
import Derived.Test.YthionkcnmkhopaaEj
namespace Go.Proofs.Ythionkcnmkhopaa
set_option linter.unusedVariables false
set_option linter.unusedSimpArgs false
open Go.RowKit Go.WideShapes Go.ChangeShapes Go.Deep
attribute [local irreducible] wpQuiet

/-- What is taken off for a command, and what is left. -/
def parC (s0 : St) : Cv × St :=
  let s1 := s0.s 1
  let s2 := s1.s 1
  let s3 := s2.s 4
  let s4 := s3.s 1
  let s5 := s4.s (s3.nm 1)
  let s6 := s5.s 32
  let s7 := s6.s 32
  let s8 := s7.s 2
  (⟨(s0.nm 1 : Int), (s1.nm 1 : Int), s2.nm 4, ⟨(s4.t (s3.nm 1)).toArray⟩, idT s5, idT s6, s8.t (s7.nm 2)⟩, s8.s (s7.nm 2))
def atC (x : Cv) (n : Nat) : Cf := ⟨x.kind, x.client, x.seq, x.branch, x.old, x.new, .slice none n n⟩
theorem okF_at (x : Cf) (v : Value) (n : Nat) : okF { x with dv := v } n = okF x n := rfl
/-- Whether a command may be. -/
def okC (x : Cv) : Bool := okF (x.at_ ⟨none, 0, 0⟩) x.data.length
/-- The command whose bytes these are. -/
def decW (b : List UInt8) : Cv × Int :=
  if (parC (b, 0)).2.2 ≠ 0 then (zCv, (parC (b, 0)).2.2)
  else if 0 < (parC (b, 0)).2.1.length then (zCv, 210)
  else if okC (parC (b, 0)).1 then ((parC (b, 0)).1, 0) else (zCv, 210)
/-- A command that is answered. -/
structure CmdRes (v : Value) (x : Cv) (w' : World) : Prop where
  c : ∃ D, v = cfV (x.at_ D) ∧ Cmd w' w'.heap.size x D
/-- How a reader and its box lie. -/
structure Dc (w : World) (g bx : Nat) (s : St) (W : World) : Prop where
  b : Below w.heap.size w W
  r : RdS W g s
  k : W.cell? ⟨bx, 0, none⟩ = some (rp g)
  y : Lies W w.heap.size 69 zCf.cells
  hg : w.heap.size < g
  hx : w.heap.size < bx
  hn : bx ≠ g
section
variable {w W W' : World} {g bx B : Nat} {s s' : St} {cf cf' : Cf}
theorem Dc.below (h : Dc w g bx s W) (hb : Below B W W') (h1 : g < B) (h2 : bx < B) : Dc w g bx s W' :=
  ⟨h.b.trans (hb.mono (by have := h.hg; omega)), ⟨h.r.1.below hb h1, h.r.2⟩, (World.cell?_of_block (hb.block bx h2)).trans h.k, h.y.below hb (by have := h.hg; omega), h.hg, h.hx, h.hn⟩
theorem Dc.up (h : Dc w g bx s W) (hb : Below W.heap.size W W') : Dc w g bx s W' := h.below hb h.r.1.lt (block_lt_of_cell h.k)
theorem Dc.call (h : Dc w g bx s W) (hg : W.grownBy W' (some g)) (hr : RdS W' g s') : Dc w g bx s' W' :=
  ⟨h.b.trans (below_of_only hg (by have := h.hg; omega) h.b.size), hr, cell_grown hg (block_lt_of_cell h.k) h.hn h.k, h.y.kp (hg.block _ h.y.lt (by have := h.hg; simp <;> omega)) hg.size, h.hg, h.hx, h.hn⟩
/-- And the command on its way in. -/
structure De (w : World) (g bx : Nat) (s : St) (B : Nat) (cf : Cf) (W : World) : Prop where
  d : Dc w g bx s W
  x : Lies W B 69 cf.cells
  hg : g < B
  hx : bx < B
theorem De.call (h : De w g bx s B cf W) (hg : W.grownBy W' (some g)) (hd : Dc w g bx s' W') : De w g bx s' B cf W' :=
  ⟨hd, h.x.kp (hg.block _ h.x.lt (by have := h.hg; simp <;> omega)) hg.size, h.hg, h.hx⟩
theorem De.up (h : De w g bx s B cf W) (hb : Below W.heap.size W W') : De w g bx s B cf W' := ⟨h.d.up hb, h.x.below hb h.x.lt, h.hg, h.hx⟩
theorem De.put (h : De w g bx s B cf W) (hb : Below B W W') (hl : Lies W' B 69 cf'.cells) : De w g bx s B cf' W' := ⟨h.d.below hb h.hg h.hx, hl, h.hg, h.hx⟩
end
theorem cf_branch (o : Cf) (v : ByteArray) : ({ o with branch := v } : Cf).cells = o.cells.set 3 (.string v) := rfl
theorem cf_dv (o : Cf) (v : Value) : ({ o with dv := v } : Cf).cells = o.cells.set 68 v := by
  unfold Cf.cells
  have h1 : (bvs o.old.b).length = 32 := by rw [bvs_len, o.old.h]
  have h2 : (bvs o.new.b).length = 32 := by rw [bvs_len, o.new.h]
  rw [List.set_append_right _ _ (by simp), List.set_append_right _ _ (by simp [h1]), List.set_append_right _ _ (by simp [h1, h2])]
  simp [h1, h2]
theorem cf_old (o : Cf) (i : Idv) : ({ o with old := i } : Cf).cells = o.cells.take 4 ++ (i.cells ++ o.cells.drop (4 + i.cells.length)) := by
  rw [id_sz]
  unfold Cf.cells Idv.cells
  have h1 : (bvs o.old.b).length = 32 := by rw [bvs_len, o.old.h]
  rw [List.take_left' (by rfl), ← List.append_assoc [_, _, _, _] (bvs o.old.b), List.drop_left' (by simp [h1])]
theorem mid4 (a t b r i : List Value) (h : (a ++ t).length = 36) (hb : b.length = 32) : a ++ (t ++ (i ++ r)) = (a ++ (t ++ (b ++ r))).take 36 ++ (i ++ (a ++ (t ++ (b ++ r))).drop (36 + 32)) := by
  have e1 : a ++ (t ++ (b ++ r)) = (a ++ t) ++ (b ++ r) := by simp
  have e2 : a ++ (t ++ (b ++ r)) = ((a ++ t) ++ b) ++ r := by simp
  have t1 : (a ++ (t ++ (b ++ r))).take 36 = a ++ t := by rw [e1, List.take_left' h]
  have t2 : (a ++ (t ++ (b ++ r))).drop (36 + 32) = r := by rw [e2, List.drop_left' (by rw [List.length_append, h, hb])]
  rw [t1, t2, List.append_assoc]
theorem cf_new (o : Cf) (i : Idv) : ({ o with new := i } : Cf).cells = o.cells.take 36 ++ (i.cells ++ o.cells.drop (36 + i.cells.length)) := by
  rw [id_sz]
  unfold Cf.cells Idv.cells
  have h1 : (bvs o.old.b).length = 32 := by rw [bvs_len, o.old.h]
  have h2 : (bvs o.new.b).length = 32 := by rw [bvs_len, o.new.h]
  exact mid4 _ _ _ _ _ (by simp [h1]) h2
theorem res_cfi {fn : Func} {p u : Tmp} (h : fn.results = #[.cell p 27, .tmp u]) (tmps : Array Value) (w : World) (b o : Nat) (i : Cf) (v : Value) (hp : tmps.getD p undef = .pointer (some ⟨b, o, none⟩)) (hu : tmps.getD u undef = v) (hc : w.rangeAt b o i.cells) :
    (results fn tmps).run Try.prog w = .ok (.tuple #[cfV i, v]) w := by
  rw [results_cell_tmp h, hp, hu]
  simp [asAddr, Result.andThen, run_loadVar_mid w b o 27 i.cells _ hc Try.underlying27 rfl (by rw [cf_sz]; exact size_cf)]
theorem built_cf3 (k c q : Int) : Try.prog.built 27 [(0, .int .i64 k), (1, .int .i64 c), (2, .int .u32 q)] = some (#[.int .i64 k, .int .i64 c, .int .u32 q, .string ⟨#[]⟩] ++ (bvs Idv.zero.b).toArray ++ (bvs Idv.zero.b).toArray ++ #[.slice none 0 0]) := by kernel_rfl
theorem cf3_built (k c : Int) (q : Nat) : Try.prog.built 27 [(0, .int .i64 k), (1, .int .i64 c), (2, .int .u32 (q : Int))] = some (⟨k, c, q, ⟨#[]⟩, Idv.zero, Idv.zero, .slice none 0 0⟩ : Cf).cells.toArray := by
  rw [built_cf3]
  simp [Cf.cells]
theorem run_bd3 {op : Oper} {a : Act} {w : World} {k c q : Int} {zs : Array Value} (x y z : Operand) (ho : op.op = .build 27 #[(0, x), (1, y), (2, z)]) (hx : a.eval x = .int .i64 k) (hy : a.eval y = .int .i64 c) (hz : a.eval z = .int .u32 q) (hb : Try.prog.built 27 [(0, .int .i64 k), (1, .int .i64 c), (2, .int .u32 q)] = some zs) :
    (execOp a.eval op).run Try.prog w = .ok (.value (.agg zs)) w := by
  have e := run_build (P := Try.prog) w 27 #[(0, .int .i64 k), (1, .int .i64 c), (2, .int .u32 q)] zs hb
  unfold execOp
  simp only [ho, List.map_toArray, List.map_cons, List.map_nil, hx, hy, hz, Sem.run_bind, e, Result.andThen_ok, Sem.run_pure]
theorem wp_alloc_as {P : Program} {o : Oper} {a : Act} {w : World} {K : Act → World → Prop} {Q : Exit → Act → World → Prop} (e : TypeId) (ho : o.op = .alloc e)
    (zs : Array Value) (hz : ∀ w : World, (zeroValue e).run P w = .ok (.agg zs) w) (h : K (a.put o.dst (.pointer (some ⟨w.heap.size, 0, none⟩))) (w.alloc (.cells zs e))) : o.wp P a w K Q := by
  unfold Oper.wp execOp
  simp only [ho, Instr.alloc, Sem.run_bind, hz, Result.andThen_ok, newVar, newRow, newObj, Sem.run_pure, Value.cells]
  exact h
theorem De.mk_ {w W : World} {g bx : Nat} {s : St} {z : Cf} (h : Dc w g bx s W) : De w g bx s W.heap.size z (W.alloc (.cells z.cells.toArray 27)) :=
  ⟨h.up ((Below.refl _ _).alloc (Nat.le_refl _) _), by have := Lies.new W z.cells 27; rwa [cf_sz] at this, h.r.1.lt, block_lt_of_cell h.k⟩
theorem u8_st {W : World} {g : Nat} {s : St} (h : RdS W g s) : Calls Try.prog 27 #[rp g] W fun e w' => e = .returned (.int .u8 (s.nm 1 : Nat)) ∧ RdS w' g (s.s 1) ∧ W.grownBy w' (some g) :=
  (take_u8 h.1).mono fun e w' ⟨h1, h2, h3⟩ => ⟨h1, ⟨h2, Nat.le_trans (s_len s 1) h.2⟩, h3⟩
theorem u16_st {W : World} {g : Nat} {s : St} (h : RdS W g s) : Calls Try.prog 29 #[rp g] W fun e w' => e = .returned (.int .u16 (s.nm 2 : Nat)) ∧ RdS w' g (s.s 2) ∧ W.grownBy w' (some g) :=
  (take_u16 h.1).mono fun e w' ⟨h1, h2, h3⟩ => ⟨h1, ⟨h2, Nat.le_trans (s_len s 2) h.2⟩, h3⟩
theorem u32_st {W : World} {g : Nat} {s : St} (h : RdS W g s) : Calls Try.prog 28 #[rp g] W fun e w' => e = .returned (.int .u32 (s.nm 4 : Nat)) ∧ RdS w' g (s.s 4) ∧ W.grownBy w' (some g) :=
  (take_u32 h.1).mono fun e w' ⟨h1, h2, h3⟩ => ⟨h1, ⟨h2, Nat.le_trans (s_len s 4) h.2⟩, h3⟩
theorem raw_st {W : World} {g : Nat} {s : St} (h : RdS W g s) (n : Nat) (hn : n ≤ 1000000) : Calls Try.prog 26 #[rp g, .int .i64 (n : Int)] W fun e w' =>
    (∃ b, W.heap.size ≤ b ∧ e = .returned (.slice (some ⟨b, 0, none⟩) (s.t n).length (s.t n).length) ∧ Bl w' b 5 (bvs (s.t n))) ∧ RdS w' g (s.s n) ∧ W.grownBy w' (some g) :=
  (raw_any h.1 (n : Int) ⟨by omega, by omega⟩ h.2).mono fun e w' ⟨b, hb, h1, h2, h3, h4⟩ => ⟨⟨b, hb, h1, h2⟩, ⟨h3, Nat.le_trans (s_len s n) h.2⟩, h4⟩
end Go.Proofs.Ythionkcnmkhopaa
