/- Of our texts, what this claim reaches. -/
import Derived.Test.YticcibefchffmaaDoorPpbAB
import Derived.RangeFuncNested
import Derived.RangeFuncBound
import Derived.RangeFuncCalls
import Derived.RangeFuncLeaves
import Derived.Shelf.Abstract
import Derived.Shelf.RegionOpen
import Derived.WalkKit
import Derived.OwnWalkIn
import Derived.TacticsInMore
import Derived.LoopNIn
import Derived.LoopIn
import Derived.Test.YticcibefchffmaaDoorChecked
set_option linter.unusedVariables false
namespace Go.Proofs.YticcibefchffmaaDoor.valus
open Go.RowKit Go.Shelf
attribute [local go_sem] Oper.semAt_some
abbrev Nd := Nat × Nat × Int
end Go.Proofs.YticcibefchffmaaDoor.valus
