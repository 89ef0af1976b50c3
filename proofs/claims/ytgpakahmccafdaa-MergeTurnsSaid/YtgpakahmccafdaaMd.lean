/-
  MERGE: Conflicts.
-/
import Derived.RangeFuncNested
import Derived.RangeFuncBound
import Derived.RangeFuncCalls
import Derived.RangeFuncLeaves
import Derived.RangeFuncBox
import Derived.Shelf.Abstract
import Derived.Shelf.RegionOpen
import Derived.WalkKit
import Derived.OwnWalkIn
import Derived.TacticsInMore
import Derived.LoopNIn
import Derived.LoopIn
import Derived.Deep.Cut
import Derived.Great.BuildSlice
import Derived.Great.FillDense
import Derived.Test.YtgpakahmccafdaaMc
import Derived.Test.YtgpakahmccafdaaPj
namespace Go.Proofs.Ytgpakahmccafdaa
set_option linter.unusedVariables false
set_option linter.unusedSimpArgs false
set_option pp.deepTerms true
set_option pp.maxSteps 200000
open Go.RowKit Go.WideShapes Go.ChangeShapes Go.Deep Go.Shelf
attribute [local go_sem] Oper.semAt_some
attribute [local irreducible] wpQuiet

theorem pl_one (l : List Pl) : ∀ v ∈ l.flatMap Pl.cells, v.oneCell' = true := by
  intro v hv
  simp only [List.mem_flatMap, Pl.cells, List.mem_cons, List.not_mem_nil, or_false] at hv
  obtain ⟨r, _, rfl | rfl | rfl | rfl | rfl | rfl | rfl⟩ := hv <;> rfl
/-- A literal slice of one conflict. -/
theorem one_cf (r : Pl) (w : World) : (Instr.buildSlice 30 1 #[(0, plV r)]).run Try.prog w = .ok (.slice (some ⟨w.heap.size, 0, none⟩) 1 1) (w.alloc (.cells r.cells.toArray 43)) := by
  obtain ⟨i0, hi, hz, hz1, hz2⟩ := info_parts info_cf
  have hcl : r.cells.length = 7 := rfl
  have hs : (plV r).cells.size = 7 := by simp [Value.cells]
  obtain ⟨x, hr, hrs, hrk⟩ := Great.fill_dense (s := 7) (by omega) [plV r] 0 ((Array.range (1 * i0.size)).map ((plV ⟨⟨#[]⟩, ⟨false, ⟨#[]⟩⟩, ⟨false, ⟨#[]⟩⟩, ⟨false, ⟨#[]⟩⟩⟩).cells[· % (plV ⟨⟨#[]⟩, ⟨false, ⟨#[]⟩⟩, ⟨false, ⟨#[]⟩⟩, ⟨false, ⟨#[]⟩⟩⟩).cells.size]!)) (by intro v hv; simp at hv; subst hv; exact hs) (by rw [hz1]; simp)
  have hre : x = r.cells.toArray := by
    apply Array.ext_getElem?
    intro k
    rw [hrk k]
    by_cases hk : k < 7
    · rw [if_pos ⟨by omega, by simp; omega⟩]
      have h1 : k / 7 - 0 = 0 := by omega
      have h2 : k % 7 = k := by omega
      rw [h1, h2]
      simp [Value.cells, Pl.cells]
    · rw [if_neg (by simp; omega)]
      rw [Array.getElem?_eq_none (by simp [hz1]; omega), Array.getElem?_eq_none (by simp [hcl]; omega)]
  rw [hre] at hr
  exact run_buildSlice w _ _ 1 _ _ i0 _ Try.underlying30 hi hz (by rw [hz1]; omega) (by rw [hz1]; omega) (by rw [hz1] at hr ⊢; exact hr)
theorem wp_one_cf {o : Oper} {a : Act} {w : World} {K : Act → World → Prop} {Q : Exit → Act → World → Prop} (x : Operand) (ho : o.op = .buildSlice 30 1 #[(0, x)]) (r : Pl) (hx : a.eval x = plV r)
    (h : K (a.put o.dst (.slice (some ⟨w.heap.size, 0, none⟩) 1 1)) (w.alloc (.cells r.cells.toArray 43))) : o.wp Try.prog a w K Q := by
  unfold Oper.wp execOp
  simp only [ho, List.map_toArray, List.map_cons, List.map_nil, hx, one_cf, Sem.run_bind, Result.andThen_ok]
  exact h

end Go.Proofs.Ytgpakahmccafdaa
