/- What the rows of this door seat share. -/
import Derived.Test.YtjlbbmpefjkamaaDoorCards
import Derived.Test.YtjlbbmpefjkamaaDoorTie
import Derived.Test.YtjlbbmpefjkamaaDoorNumMore
import Derived.WalkKit
import Derived.ProofKit
import Derived.OpenShut
import Derived.ShutString
import Derived.ChangeOld
import Derived.Below
import Derived.SizedLaws
import Derived.Lay
import Derived.PinnedBridge
import Derived.Deep.DeepHandedRow
set_option linter.unusedVariables false
namespace Go.Proofs.YtjlbbmpefjkamaaDoor.frame
open Go.ChangeShapes Go.WideShapes Go.ChangeAt Go.RowKit
open bigs

theorem own : ownKnob Tryd.prog.godebug = none := by kernel_rfl
theorem laidOut : laidOutB Tryd.prog = true := by kernel_rfl
theorem bytesU : Tryd.prog.bytesOf 69 = 4 := by kernel_rfl

end Go.Proofs.YtjlbbmpefjkamaaDoor.frame
