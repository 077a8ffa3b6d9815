/- Of our texts, what this claim reaches. -/
import Derived.Test.YtnbfnjhbmeocfaaGreatDoorPstAZ
import Derived.Test.YtnbfnjhbmeocfaaGreatDoorPstAI
import Derived.BigQuiet
import Derived.Deep.CutRange
import Derived.Test.YtnbfnjhbmeocfaaGreatDoorPstAY
set_option linter.unusedVariables false
namespace Go.Proofs.YtnbfnjhbmeocfaaGreatDoor
namespace bigs
open Go.RowKit
def jjP (l t:List UInt8)(sg:Nat):Prop:=(l=45 :: t/\sg=9223372036854775808)\/((∀r,l≠45 :: r)/\t=l/\sg=0)
def QE (l:List UInt8)(v:Nat)(x:Int):Prop :=
 (80<l.length/\v=0/\x=2)\/(l.length<=80/\l=[110,97,110]/\v=9221120237041090561/\x=0)\/
 (l.length<=80/\l≠[110,97,110]/\∃t sg,jjP l t sg/\((t=[105,110,102]/\v=sg+9218868437227405312/\x=0)\/(t≠[105,110,102]/\Res t sg v x)))
end bigs
end Go.Proofs.YtnbfnjhbmeocfaaGreatDoor
