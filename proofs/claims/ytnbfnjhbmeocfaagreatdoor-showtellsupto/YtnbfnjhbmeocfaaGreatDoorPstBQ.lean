/- Of our texts, what this claim reaches. -/
import Derived.Test.YtnbfnjhbmeocfaaGreatDoorPstBO
import Derived.Test.YtnbfnjhbmeocfaaGreatDoorPstAA
import Derived.Below
import Derived.Laws.AppendOwn
import Derived.Laws.OwnMore
import Derived.Test.YtnbfnjhbmeocfaaGreatDoorPstBJ
import Derived.Laws.StructEq
import Derived.BigRegion
set_option linter.unusedVariables false
namespace Go.Proofs.YtnbfnjhbmeocfaaGreatDoor
namespace trees
open Go.RowKit
open toks
def jZ (w:World)(B:Nat):Nat:=match w.cell? ⟨B,2,none⟩ with | some (.int _ n)=>n.toNat | _=>0
end trees
end Go.Proofs.YtnbfnjhbmeocfaaGreatDoor
