/-
  STAGE 5's REFERENCE: Diff.
-/
import Derived.Test.YtkdmlffnkomdhaaPn
namespace Go.Proofs.Ytkdmlffnkomdhaa
set_option linter.unusedVariables false
set_option linter.unusedSimpArgs false
open Go.RowKit Go.WideShapes Go.ChangeShapes Go.Deep
attribute [local irreducible] wpQuiet

theorem flat_take {α : Type} {f : ByteArray → List α} {l : List ByteArray} {k : Nat} (hk : k < l.length) : (l.take (k + 1)).flatMap f = (l.take k).flatMap f ++ f l[k] := by
  rw [List.take_add_one, List.getElem?_eq_getElem hk, List.flatMap_append]
  simp

end Go.Proofs.Ytkdmlffnkomdhaa
