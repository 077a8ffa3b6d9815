/- Of our texts, what this claim reaches. -/
import Derived.Test.YtnbfnjhbmeocfabGreatDoorPssBN
import Derived.Test.YtnbfnjhbmeocfabGreatDoorPssAA
import Derived.Below
import Derived.Laws.AppendOwn
import Derived.Laws.OwnMore
import Derived.Test.YtnbfnjhbmeocfabGreatDoorPssBK
import Derived.Laws.StructEq
import Derived.BigRegion
set_option linter.unusedVariables false
namespace Go.Proofs.YtnbfnjhbmeocfabGreatDoor.trees
open Go.RowKit
open toks
def nextN (w : World) (B : Nat) : Nat := match w.cell? ⟨B, 2, none⟩ with | some (.int _ n) => n.toNat | _ => 0
end Go.Proofs.YtnbfnjhbmeocfabGreatDoor.trees
