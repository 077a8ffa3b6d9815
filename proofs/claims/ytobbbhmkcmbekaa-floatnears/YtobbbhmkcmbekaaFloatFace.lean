/- What Near of package float answers: the face. -/
import Derived.Test.YtobbbhmkcmbekaaFloatNearW
import Derived.Test.YtobbbhmkcmbekaaFloatNears
set_option linter.unusedVariables false
namespace Go.Proofs.Ytobbbhmkcmbekaa.bigs
open Go.RowKit

theorem faceNear : FaceNear where
  nil := nearW_nil
  up := nearW_up
  down := nearW_down
  large := nearW_large
end Go.Proofs.Ytobbbhmkcmbekaa.bigs
