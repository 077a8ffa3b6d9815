/- Of our texts, what this claim reaches. -/
import Derived.Test.YtnbfnjhbmeocfaaGreatDoorPmtBU
import Derived.Test.YtnbfnjhbmeocfaaGreatDoorPmtBV
set_option linter.unusedVariables false
namespace Go.Proofs.YtnbfnjhbmeocfaaGreatDoor
namespace valus
open toks (isW)
theorem jeT (l:List UInt8):(⟨l.toArray⟩:ByteArray).size=l.length:=by
 show l.toArray.size=l.length
 rw [List.size_toArray]
end valus
end Go.Proofs.YtnbfnjhbmeocfaaGreatDoor
