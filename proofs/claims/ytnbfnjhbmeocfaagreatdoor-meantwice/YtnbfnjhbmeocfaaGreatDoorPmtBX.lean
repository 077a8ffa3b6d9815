/- Of our texts, what this claim reaches. -/
import Derived.Test.YtnbfnjhbmeocfaaGreatDoorPmtBC
import Derived.Test.YtnbfnjhbmeocfaaGreatDoorPmtAD
import Derived.Test.YtnbfnjhbmeocfaaGreatDoorPmtAH
import Derived.Laws.BitsLemmas
import Derived.Deep.RegionHeld3
import Derived.RangeFuncCalls
set_option linter.unusedVariables false
namespace Go.Proofs.YtnbfnjhbmeocfaaGreatDoor
namespace valus
open Go.RowKit Go.Shelf
attribute [local go_sem] Oper.semAt_some
open Go.RowKit Go.Shelf
attribute [local go_sem] Oper.semAt_some
end valus
end Go.Proofs.YtnbfnjhbmeocfaaGreatDoor
