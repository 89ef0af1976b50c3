/-
  WHERE A SIGN STANDS AMONG THE SIXTEEN.
-/
import Derived.Test.YtnkhoghdfncgpaaGreatDoorK40
import Derived.Lib.OthersKept
import Derived.Laws.Runes
import Derived.WalkMore
import Derived.Laws.RangeAny
namespace Go.Proofs.YtnkhoghdfncgpaaGreatDoor.S3
set_option maxRecDepth 100000
set_option linter.unusedVariables false
set_option linter.unusedSimpArgs false
open Go.RowKit Go.WideShapes Go.ChangeShapes

theorem sgB_ascii (k : Nat) (h : k < sgB.size) : (sgB[k]'h).toNat < 128 := by
  have : ∀ b ∈ sgB.data.toList, b.toNat < 128 := by decide +kernel
  exact this _ (by simp [ByteArray.getElem_eq_getElem_data])
end Go.Proofs.YtnkhoghdfncgpaaGreatDoor.S3
