/- Of our texts, what this claim reaches. -/
import Derived.Test.YticcibefchffmaaDoorPptAB
import Derived.RangeFuncNested
import Derived.RangeFuncBound
import Derived.RangeFuncCalls
import Derived.RangeFuncLeaves
import Derived.Shelf.Abstract
import Derived.Shelf.RegionOpen
import Derived.WalkKit
import Derived.OwnWalkIn
import Derived.TacticsInMore
import Derived.LoopNIn
import Derived.LoopIn
import Derived.Test.YticcibefchffmaaDoorChecked
set_option linter.unusedVariables false
namespace Go.Proofs.YticcibefchffmaaDoor
namespace valus
open Go.RowKit Go.Shelf
attribute [local go_sem] Oper.semAt_some
abbrev Nd:=Nat×Nat×Int
end valus
end Go.Proofs.YticcibefchffmaaDoor
