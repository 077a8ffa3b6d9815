/- Of our texts, what this claim reaches. -/
import Derived.Test.YtnbfnjhbmeocfaaGreatDoorPstAO
import Derived.Test.YtnbfnjhbmeocfaaGreatDoorPstAI
set_option linter.unusedVariables false
namespace Go.Proofs.YtnbfnjhbmeocfaaGreatDoor
namespace bigs
open Go.RowKit
theorem jfN (s:ByteArray):(⟨s.data.toList.toArray⟩:ByteArray)=s:=by simp
theorem jaZ (l:List UInt8):(⟨l.toArray⟩:ByteArray).size=l.length:=by simp [ByteArray.size]
end bigs
end Go.Proofs.YtnbfnjhbmeocfaaGreatDoor
