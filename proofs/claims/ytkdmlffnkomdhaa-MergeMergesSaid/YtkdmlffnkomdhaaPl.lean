/-
  PATHMAP: Diff.
-/
import Derived.RangeFuncNested
import Derived.RangeFuncBound
import Derived.RangeFuncCalls
import Derived.RangeFuncLeaves
import Derived.RangeFuncBox
import Derived.Shelf.Abstract
import Derived.Shelf.RegionOpen
import Derived.WalkKit
import Derived.OwnWalkIn
import Derived.TacticsInMore
import Derived.LoopNIn
import Derived.LoopIn
import Derived.Deep.Cut
import Derived.Test.YtkdmlffnkomdhaaPj
namespace Go.Proofs.Ytkdmlffnkomdhaa
set_option linter.unusedVariables false
set_option linter.unusedSimpArgs false
set_option pp.deepTerms true
set_option pp.maxSteps 200000
open Go.RowKit Go.WideShapes Go.ChangeShapes Go.Deep Go.Shelf
attribute [local go_sem] Oper.semAt_some
attribute [local irreducible] wpQuiet

/-- What one round adds. -/
def partD (la : List Rw) (lb : List Rw) (x : Mi la.length lb.length) : List Ch :=
  match x.k with
  | none => (match x.i with
    | some i => [⟨la[i].p, false, ⟨#[]⟩⟩]
    | none => [])
  | some k => (match x.i with
    | none => [⟨lb[k].p, true, lb[k].t⟩]
    | some i => if la[i].t.toList == lb[k].t.toList then [] else [⟨lb[k].p, true, lb[k].t⟩])
def madeD (la : List Rw) (lb : List Rw) (pre : List (Mi la.length lb.length)) : List Ch := pre.flatMap (partD la lb)
def diffW (la : List Rw) (lb : List Rw) : List Ch := madeD la lb (allW Rw.p Rw.p la lb)
def diffE (la : List Rw) (lb : List Rw) : Int := if rightR la = false then 150 else if rightR lb = false then 150 else if 32 < (diffW la lb).length then 151 else 0


/-- What it has laid ahead of its loop. -/
structure FvDiff (w : World) (A : Option Addr) (n c : Nat) (l : List Rw) (A' : Option Addr) (n' c' : Nat) (l' : List Rw) (M Ba : Nat) (V : World) : Prop where
  b4 : Boxed V (w.heap.size + 1 + 1) 36 (.slice none 0 0)
  b5 : Boxed V (w.heap.size + 1 + 1 + 1) 31 (.int .i64 0)
  m : Boxed V M 36 (.slice none 0 0)
  o : V.cell? ⟨M + 1, 0, none⟩ = some (.int .i64 32)
  f : V.cell? ⟨M + 1 + 1, 0, none⟩ = some (.func (.func 75) #[] #[.pointer (some ⟨M + 1, 0, none⟩)])
  tb : Tb Rw.cells 2 tbLR V w.heap.size Ba (Ba + 1) A n c l A' n' c' l'
  bel : Below w.heap.size w V
  l1 : w.heap.size + 4 ≤ M
  l2 : M + 3 ≤ Ba
  l3 : Ba + 2 ≤ V.heap.size

theorem madeD_le {la : List Rw} {lb : List Rw} {pre all : List (Mi la.length lb.length)} (h : pre <+: all) : (madeD la lb pre).length ≤ (madeD la lb all).length := by
  obtain ⟨t, rfl⟩ := h
  unfold madeD
  rw [List.flatMap_append, List.length_append]
  omega
end Go.Proofs.Ytkdmlffnkomdhaa
