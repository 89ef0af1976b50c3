/-
  PATHMAP: both over two maps.
-/
import Derived.RangeFuncNested
import Derived.RangeFuncBound
import Derived.RangeFuncCalls
import Derived.RangeFuncLeaves
import Derived.Shelf.Abstract
import Derived.Shelf.RegionOpen
import Derived.WalkKit
import Derived.OwnWalkIn
import Derived.TacticsInMore
import Derived.LoopNIn
import Derived.LoopIn
import Derived.Test.YtkdmlffnkomdhaaPh
namespace Go.Proofs.Ytkdmlffnkomdhaa
set_option linter.unusedVariables false
set_option linter.unusedSimpArgs false
open Go.RowKit Go.WideShapes Go.ChangeShapes Go.Deep Go.Shelf
attribute [local go_sem] Oper.semAt_some


abbrev enR (ba oa bb ob : Nat) {n m : Nat} (x : Mi n m) : Array Value := #[.pointer (x.i.map fun i => ⟨ba, oa + i.val * 2, none⟩), .pointer (x.k.map fun k => ⟨bb, ob + k.val * 2, none⟩)]
end Go.Proofs.Ytkdmlffnkomdhaa
