/- Of our texts, what this claim reaches. -/
import Derived.Test.YtnbfnjhbmeocfaaGreatDoorRows
import Derived.Test.YtnbfnjhbmeocfaaGreatDoorPblAB
import Derived.OpenShut
import Derived.Test.YtnbfnjhbmeocfaaGreatDoorPblAF
import Derived.WalkKit
import Derived.ProofKit
import Derived.ShutString
import Derived.ChangeOld
import Derived.Below
import Derived.SizedLaws
import Derived.Lay
import Derived.PinnedBridge
import Derived.Deep.DeepHandedRow
set_option linter.unusedVariables false
set_option linter.unusedVariables false
namespace Go.Proofs.YtnbfnjhbmeocfaaGreatDoor.frame
open Go.ChangeShapes Go.WideShapes Go.ChangeAt Go.RowKit
open valus
theorem own : ownKnob Tryz.prog.godebug = none := by kernel_rfl
set_option maxRecDepth 100000
end Go.Proofs.YtnbfnjhbmeocfaaGreatDoor.frame
