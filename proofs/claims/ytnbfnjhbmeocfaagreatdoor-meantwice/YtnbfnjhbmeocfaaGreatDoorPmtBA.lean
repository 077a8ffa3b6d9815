/- Of our texts, what this claim reaches. -/
import Derived.Test.YtnbfnjhbmeocfaaGreatDoorPmtAC
import Derived.Test.YtnbfnjhbmeocfaaGreatDoorPmtAD
import Derived.Test.YtnbfnjhbmeocfaaGreatDoorPmtAI
set_option linter.unusedVariables false
namespace Go.Proofs.YtnbfnjhbmeocfaaGreatDoor
namespace valus
open Go.RowKit
abbrev JS (k n:Int) (b:Nat) (s:List UInt8) (nl ne:Nat):Prop :=
 (0<=k/\k<=6)/\(n=0\/k=1\/k=2)/\(k=1->n=0\/n=1)/\(b=0\/k=3)/\(s=[]\/k=4)/\(nl=0\/k=5)/\(ne=0\/k=6)/\((Jm b).2.2=2->b=9221120237041090561)
def jji:Option (List UInt8)->List UInt8->Int
 | none,_=>0
 | some q,k=>if Op.bytesLess q k=true then 0 else 14
def Zj (p:Option (List UInt8))(k:List UInt8):Int :=
 if 100<k.length then 2 else if 0<=utfs.bad k then 3 else jji p k
def zR:Option (List UInt8)->List (List UInt8)->Int
 | _,[]=>0
 | p,k :: r=>if Zj p k=0 then zR (some k) r else Zj p k
def qN (E:List V):List (List UInt8):=E.map fun e=>(zf e).1
def qi (t:V):Int :=
 if ¬JS (opn t).1.1 (opn t).1.2.1 (opn t).1.2.2.1 (opn t).1.2.2.2 (opn t).2.1.length (opn t).2.2.length then 10
 else if 4000<(opn t).1.2.2.2.length\/200<(opn t).2.1.length\/200<(opn t).2.2.length then 2
 else if 0<=utfs.bad (opn t).1.2.2.2 then 3
 else zR none (qN (opn t).2.2)
theorem jiC {p:Option (List UInt8)}{l:List (List UInt8)}{j:Nat}{k:List UInt8}(h:l[j]?=some k):zR p (l.drop j)=if Zj p k=0 then zR (some k) (l.drop (j+1)) else Zj p k:=by
 obtain⟨hlt,e⟩:=List.getElem?_eq_some_iff.1 h
 rw [List.drop_eq_getElem_cons hlt,e];rfl
theorem jka (a b:List UInt8):(Op.bytesLess a b || a == b) = !Op.bytesLess b a:=by
 rw [Yi,Yi,zt.swap b a trivial trivial]
 by_cases e:a=b
 ·subst e
  rw [jgo];simp [Ordering.swap]
 ·have h1:(a == b)=false:=beq_false_of_ne e
  rw [h1,Bool.or_false];cases c:zT b a with
  | lt=>rfl
  | eq=>exact absurd ((zt.same b a trivial trivial).1 c).symm e
  | gt=>rfl
theorem je9 (p:Option (List UInt8))(k:List UInt8):0<=Zj p k/\Zj p k<=14:=by
 unfold Zj;split
 ·decide
 ·split
  ·decide
  ·cases p with
   | none=>exact⟨Int.le_refl 0,by show(0:Int)<=14;decide⟩
   | some q=>
    show 0<=(if Op.bytesLess q k=true then (0:Int) else 14)/\(if Op.bytesLess q k=true then (0:Int) else 14)<=14
    split<;>decide
theorem Xy:∀(l:List (List UInt8)) (p:Option (List UInt8)),0<=zR p l/\zR p l<=14
 | [],p=>by simp [zR]
 | k :: l,p=>by
  unfold zR;split
  ·exact Xy l _
  ·exact je9 p k
theorem jeU (t:V):0<=qi t/\qi t<=14:=by
 unfold qi;split
 ·decide
 ·split
  ·decide
  ·split
   ·decide
   ·exact Xy _ _
end valus
end Go.Proofs.YtnbfnjhbmeocfaaGreatDoor
