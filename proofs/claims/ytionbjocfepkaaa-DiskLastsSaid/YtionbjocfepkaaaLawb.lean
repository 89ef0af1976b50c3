/-
  THE ARGUMENTS OF STAGE 2's STATEMENTS: an act; what else the statements share.
-/
import Derived.Test.YtionbjocfepkaaaWd
import Derived.Deep.Grids
import Derived.Deep.Slices
import Derived.Deep.Fields
import Derived.Lib.SmallJoins
import Derived.ChangeSame
namespace Go.Proofs.Ytionbjocfepkaaa
set_option linter.unusedVariables false
open Go.RowKit Go.WideShapes Go.ChangeShapes Go.Deep

section
variable {H : Type} {enc : TypeId × Value → H} {W : World}
/-- A slice of bools that came in. -/
theorem bools_arg {fuel : Nat} {v : Value} {x : DataW H × List MemPlace} (h : DataW.trod enc Try.prog W 0 (fun _ => true) true fuel 33 [v] = some x) :
    ∃ A l c ks, v = .slice A l c ∧ SlV W W.heap.size A l c (bls ks) := by
  rcases open_bools Try.underlying33 Try.underlying4 (by kernel_rfl) h with ⟨hcs, _⟩ | ⟨ad, len, cap, Bf, hcs, _, hl, hm, _, hc⟩
  · injection hcs with hcs
    exact ⟨none, 0, 0, [], hcs, SlV.nil_⟩
  · injection hcs with hcs
    refine ⟨some ad, len, cap, (List.range len).map Bf, hcs, by simp [bls], hl, hm, fun e => (by cases e), fun h0 => ?_⟩
    obtain ⟨b, o, s⟩ := ad
    have hc0 := hc 0 (by omega)
    have hs : s = none := by simpa [Addr.add] using World.cell?_spot hc0
    subst hs
    refine ⟨b, o, rfl, World.block_lt_of_cell? W _ hc0, fun j hj => ?_⟩
    have hjl : j < len := by simpa [bls] using hj
    have hcj := hc j (by omega)
    rw [addr_add] at hcj
    rw [hcj]
    simp [bls]

/-- An act, as plain Lean. -/
structure Ac where
  kind : Int
  n : Int
  b : UInt8
  A : Option Addr
  l : Nat
  c : Nat
  ks : List Bool
abbrev Ac.cells (a : Ac) : List Value := [.int .i64 a.kind, .int .i64 a.n, .int .u8 (a.b.toNat : Int), .slice a.A a.l a.c]
structure Ac.Ok (w : World) (B : Nat) (a : Ac) : Prop where
  n : -9223372036854775808 ≤ a.n ∧ a.n ≤ 9223372036854775807
  ks : SlV w B a.A a.l a.c (bls a.ks)
theorem act_cells {n0 n1 n2 n3 : Nat} {v0 v1 v2 v3 : Value} {y0 y1 y2 y3 : DataW H × List MemPlace}
    (h0 : DataW.trod enc Try.prog W 0 (fun _ => true) true n0 3 [v0] = some y0) (h1 : DataW.trod enc Try.prog W 0 (fun _ => true) true n1 3 [v1] = some y1) (h2 : DataW.trod enc Try.prog W 0 (fun _ => true) true n2 5 [v2] = some y2) (h3 : DataW.trod enc Try.prog W 0 (fun _ => true) true n3 33 [v3] = some y3) :
    ∃ a : Ac, a.cells = [v0, v1, v2, v3] ∧ a.Ok W W.heap.size := by
  obtain ⟨k, e0, _, _⟩ := DataW.trod_int Try.underlying3 h0
  obtain ⟨n, e1, _, wn⟩ := DataW.trod_int Try.underlying3 h1
  obtain ⟨b, e2, _, wb⟩ := DataW.trod_int Try.underlying5 h2
  obtain ⟨A, l, c, ks, e3, hs⟩ := bools_arg h3
  injection e0 with e0; injection e1 with e1; injection e2 with e2
  have hb := bounds_u8 wb
  refine ⟨⟨k, n, UInt8.ofNat b.toNat, A, l, c, ks⟩, ?_, bounds_i64 wn, hs⟩
  simp only [Ac.cells, e0, e1, e2, e3, UInt8.toNat_ofNat']
  congr 4
  omega
/-- An act that came in by value. -/
theorem act_arg {r : Reach} {b0 : Nat} {v : Value} {d : DataW H} {p : List MemPlace} (hv : Value.okWide Try.prog W r b0 35 v) (h : DataW.Trod enc Try.prog W 0 (fun _ => true) true 35 v d p) :
    ∃ a : Ac, v = .agg a.cells.toArray ∧ a.Ok W W.heap.size := by
  obtain ⟨v0, v1, v2, v3, y0, y1, y2, y3, n, rfl, _, _, h0, h1, h2, h3⟩ := Go.Joins.open_agg4 Try.underlying35 (by kernel_rfl) (by kernel_rfl) hv h
  obtain ⟨a, ha, hok⟩ := act_cells h0 h1 h2 h3
  exact ⟨a, by rw [ha], hok⟩
end

theorem wpList_want {P : Program} {w : World} {ops : Array Oper} {rest : List Oper} {o : Oper} {a : Act} {Q : Exit → Act → World → Prop} (hw : Region.wanted o (yielded ops a.tmps) = true) (h : o.wp P a w (wpList P ops Q rest) Q) : wpList P ops Q (o :: rest) a w := by
  unfold wpList
  rw [if_pos hw]
  exact .inl h
theorem size_u8 (w : World) : (sizeOf 5).run Try.prog w = .ok 1 w := by kernel_rfl
/-- The block of noughts, written as a literal. -/
theorem bz_block {w : World} {ops : Array Oper} {rest : List Oper} {o : Oper} {a : Act} {Q : Exit → Act → World → Prop} (hw : Region.wanted o (yielded ops a.tmps) = true) (ho : o.op = .build 37 #[])
    (h : wpList Try.prog ops Q rest (a.put o.dst (.agg Z64)) w) : wpList Try.prog ops Q (o :: rest) a w := by
  refine wpList_want hw ?_
  unfold Oper.wp execOp
  simp only [ho, Instr.build, List.map_toArray, List.map_nil, Sem.run_bind, zero_block, Result.andThen_ok, run_underlying Try.underlying37, size_u8, Instr.fill, Sem.run_pure, Value.cells]
  exact h
theorem ldw_block {ops : Array Oper} {rest : List Oper} {op : Oper} {a : Act} {w : World} {Q : Exit → Act → World → Prop} (hw : Region.wanted op (yielded ops a.tmps) = true) (x : Operand) (ho : op.op = .load 37 x)
    (b o : Nat) (l : List UInt8) (hl : Hid (l.length = 64)) (hx : a.eval x = .pointer (some ⟨b, o, none⟩)) (hc : w.rangeAt b o (bvs l))
    (h : wpList Try.prog ops Q rest (a.put op.dst (.agg (bvs l).toArray)) w) : wpList Try.prog ops Q (op :: rest) a w :=
  wpList_want hw (wp_load_mid _ x ho b o hx (bvs l) _ hc Try.underlying37 rfl (size_of hl.out) h)

theorem copy_nil (w : World) :
    Calls Try.prog 11 #[.pointer none] w fun e w' => e = .returned (.pointer none) ∧ w = w' := by
  go_enter Try.func11, Try.ntmps11
  go_wp2
  go_ret
  exact ⟨rfl, rfl⟩
end Go.Proofs.Ytionbjocfepkaaa
