/- What the rows of this seat share: how arguments are opened; the library's variable. -/
import Derived.Test.YtoikdjbgeebadaaRows
import Derived.Test.YtoikdjbgeebadaaTokBlk
import Derived.WalkKit
import Derived.ProofKit
import Derived.OpenShut
import Derived.ShutString
import Derived.ChangeOld
import Derived.Below
import Derived.SizedLaws
import Derived.HandedShaped
import Derived.Shelf.Vars
set_option linter.unusedVariables false
namespace Go.Proofs.Ytoikdjbgeebadaa.frame
open Go.ChangeShapes Go.WideShapes Go.ChangeAt Go.RowKit
open toks

theorem own : ownKnob Try.prog.godebug = none := by kernel_rfl
theorem laidOut : laidOutB Try.prog = true := by kernel_rfl
/-- The library's variable holds some number. -/
theorem maxOk {W : World} (h : W.ShapedOpen Try.prog) : MaxOk W :=
  Go.Proofs.cell_of_shapedOpen_int (zero := #[.int .i64 0]) (t := 3) h (of_decide_eq_true (by kernel_rfl)) (by kernel_rfl) rfl (by kernel_rfl) (by kernel_rfl) Try.underlying3
end Go.Proofs.Ytoikdjbgeebadaa.frame
