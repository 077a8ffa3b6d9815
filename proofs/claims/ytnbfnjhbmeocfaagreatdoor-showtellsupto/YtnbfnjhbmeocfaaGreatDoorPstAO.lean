/- Of our texts, what this claim reaches. -/
import Derived.Test.YtnbfnjhbmeocfaaGreatDoorPstAI
import Derived.Test.YtnbfnjhbmeocfaaGreatDoorPstAN
set_option linter.unusedVariables false
namespace Go.Proofs.YtnbfnjhbmeocfaaGreatDoor
namespace bigs
open Go.RowKit
theorem X4 (s:ByteArray):s.data.toList.length=s.size:=by rw [Array.length_toList];rfl
end bigs
end Go.Proofs.YtnbfnjhbmeocfaaGreatDoor
