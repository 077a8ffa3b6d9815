/- Of our texts, what this claim reaches. -/
import Derived.Test.YtnbfnjhbmeocfaaGreatDoorPmtBR
import Derived.Test.YtnbfnjhbmeocfaaGreatDoorPmtBV
import Derived.Test.YtnbfnjhbmeocfaaGreatDoorPmtBY
set_option linter.unusedVariables false
namespace Go.Proofs.YtnbfnjhbmeocfaaGreatDoor
namespace valus
open Go.RowKit Go.Shelf
open toks (MaxOk)
theorem jdE (a b:ByteArray)(h:a.size+b.size<=1000000)(u:World):(Op.stringOp .add a b).run Tryz.prog u=.ok (.string (a++b)) u:=run_string_add_sum _ _ _ (by omega)
theorem qX (a b:ByteArray):(a++b).data.toList=a.data.toList++b.data.toList:=by simp
end valus
end Go.Proofs.YtnbfnjhbmeocfaaGreatDoor
