/- The walks of package splice: compose's loop. -/
import Derived.Test.YteajpkoghlbneaaSplCmpW
set_option linter.unusedVariables false
namespace Go.Proofs.Yteajpkoghlbneaa.spls
open Go.RowKit

end Go.Proofs.Yteajpkoghlbneaa.spls
