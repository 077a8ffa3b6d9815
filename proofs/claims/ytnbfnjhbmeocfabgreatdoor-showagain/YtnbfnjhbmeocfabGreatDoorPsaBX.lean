/- Of our texts, what this claim reaches. -/
import Derived.Test.YtnbfnjhbmeocfabGreatDoorPsaBE
import Derived.Test.YtnbfnjhbmeocfabGreatDoorPsaAD
import Derived.Test.YtnbfnjhbmeocfabGreatDoorPsaAH
import Derived.Laws.BitsLemmas
import Derived.Deep.RegionHeld3
import Derived.RangeFuncCalls
set_option linter.unusedVariables false
namespace Go.Proofs.YtnbfnjhbmeocfabGreatDoor
namespace valus
open Go.RowKit Go.Shelf
attribute [local go_sem] Oper.semAt_some
open Go.RowKit Go.Shelf
attribute [local go_sem] Oper.semAt_some
end valus
end Go.Proofs.YtnbfnjhbmeocfabGreatDoor
