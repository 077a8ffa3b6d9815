/- Of our texts, what this claim reaches. -/
import Derived.Test.YtadaehaemmelfaaDoorPubAD
import Derived.Test.YtadaehaemmelfaaDoorPubAE
import Derived.Test.YtadaehaemmelfaaDoorPubAJ
set_option linter.unusedVariables false
namespace Go.Proofs.YtadaehaemmelfaaDoor
namespace valus
open Go.RowKit
abbrev Jf (k n:Int) (b:Nat) (s:List UInt8) (nl ne:Nat):Prop :=
 (0<=k/\k<=6)/\(n=0\/k=1\/k=2)/\(k=1->n=0\/n=1)/\(b=0\/k=3)/\(s=[]\/k=4)/\(nl=0\/k=5)/\(ne=0\/k=6)/\((qd b).2.2=2->b=9221120237041090561)
def ZU:Option (List UInt8)->List UInt8->Int
 | none,_=>0
 | some q,k=>if Op.bytesLess q k=true then 0 else 14
def jW (p:Option (List UInt8))(k:List UInt8):Int :=
 if 100<k.length then 2 else if 0<=utfs.bad k then 3 else ZU p k
def qp:Option (List UInt8)->List (List UInt8)->Int
 | _,[]=>0
 | p,k :: r=>if jW p k=0 then qp (some k) r else jW p k
def jF (E:List V):List (List UInt8):=E.map fun e=>(jE e).1
def jr (t:V):Int :=
 if ¬Jf (opn t).1.1 (opn t).1.2.1 (opn t).1.2.2.1 (opn t).1.2.2.2 (opn t).2.1.length (opn t).2.2.length then 10
 else if 4000<(opn t).1.2.2.2.length\/200<(opn t).2.1.length\/200<(opn t).2.2.length then 2
 else if 0<=utfs.bad (opn t).1.2.2.2 then 3
 else qp none (jF (opn t).2.2)
theorem Xl {p:Option (List UInt8)}{l:List (List UInt8)}{j:Nat}{k:List UInt8}(h:l[j]?=some k):qp p (l.drop j)=if jW p k=0 then qp (some k) (l.drop (j+1)) else jW p k:=by
 obtain⟨hlt,e⟩:=List.getElem?_eq_some_iff.1 h
 rw [List.drop_eq_getElem_cons hlt,e];rfl
theorem jbw (a b:List UInt8):(Op.bytesLess a b || a == b) = !Op.bytesLess b a:=by
 rw [zm,zm,qC.swap b a trivial trivial]
 by_cases e:a=b
 ·subst e
  rw [Jp];simp [Ordering.swap]
 ·have h1:(a == b)=false:=beq_false_of_ne e
  rw [h1,Bool.or_false];cases c:zH b a with
  | lt=>rfl
  | eq=>exact absurd ((qC.same b a trivial trivial).1 c).symm e
  | gt=>rfl
theorem Yo (p:Option (List UInt8))(k:List UInt8):0<=jW p k/\jW p k<=14:=by
 unfold jW;split
 ·decide
 ·split
  ·decide
  ·cases p with
   | none=>exact⟨Int.le_refl 0,by show(0:Int)<=14;decide⟩
   | some q=>
    show 0<=(if Op.bytesLess q k=true then (0:Int) else 14)/\(if Op.bytesLess q k=true then (0:Int) else 14)<=14
    split<;>decide
theorem J2:∀(l:List (List UInt8)) (p:Option (List UInt8)),0<=qp p l/\qp p l<=14
 | [],p=>by simp [qp]
 | k :: l,p=>by
  unfold qp;split
  ·exact J2 l _
  ·exact Yo p k
theorem XX (t:V):0<=jr t/\jr t<=14:=by
 unfold jr;split
 ·decide
 ·split
  ·decide
  ·split
   ·decide
   ·exact J2 _ _
end valus
end Go.Proofs.YtadaehaemmelfaaDoor
