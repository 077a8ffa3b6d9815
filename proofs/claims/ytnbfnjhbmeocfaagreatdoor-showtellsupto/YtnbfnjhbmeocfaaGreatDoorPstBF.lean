/- Of our texts, what this claim reaches. -/
import Derived.Test.YtnbfnjhbmeocfaaGreatDoorPstAD
import Derived.Test.YtnbfnjhbmeocfaaGreatDoorPstAE
import Derived.Test.YtnbfnjhbmeocfaaGreatDoorPstAJ
import Derived.Test.YtnbfnjhbmeocfaaGreatDoorPstAA
import Derived.Test.YtnbfnjhbmeocfaaGreatDoorPstAB
set_option linter.unusedVariables false
namespace Go.Proofs.YtnbfnjhbmeocfaaGreatDoor
namespace valus
open Go.RowKit
abbrev Ja (k n:Int) (b:Nat) (s:List UInt8) (nl ne:Nat):Prop :=
 (0<=k/\k<=6)/\(n=0\/k=1\/k=2)/\(k=1->n=0\/n=1)/\(b=0\/k=3)/\(s=[]\/k=4)/\(nl=0\/k=5)/\(ne=0\/k=6)/\((jo b).2.2=2->b=9221120237041090561)
def jbN:Option (List UInt8)->List UInt8->Int
 | none,_=>0
 | some q,k=>if Op.bytesLess q k=true then 0 else 14
def qZ (p:Option (List UInt8))(k:List UInt8):Int :=
 if 100<k.length then 2 else if 0<=utfs.bad k then 3 else jbN p k
def qw:Option (List UInt8)->List (List UInt8)->Int
 | _,[]=>0
 | p,k :: r=>if qZ p k=0 then qw (some k) r else qZ p k
def jS (E:List V):List (List UInt8):=E.map fun e=>(jz e).1
def jR (t:V):Int :=
 if ¬Ja (opn t).1.1 (opn t).1.2.1 (opn t).1.2.2.1 (opn t).1.2.2.2 (opn t).2.1.length (opn t).2.2.length then 10
 else if 4000<(opn t).1.2.2.2.length\/200<(opn t).2.1.length\/200<(opn t).2.2.length then 2
 else if 0<=utfs.bad (opn t).1.2.2.2 then 3
 else qw none (jS (opn t).2.2)
theorem jb6 {p:Option (List UInt8)}{l:List (List UInt8)}{j:Nat}{k:List UInt8}(h:l[j]?=some k):qw p (l.drop j)=if qZ p k=0 then qw (some k) (l.drop (j+1)) else qZ p k:=by
 obtain⟨hlt,e⟩:=List.getElem?_eq_some_iff.1 h
 rw [List.drop_eq_getElem_cons hlt,e];rfl
theorem jiH (a b:List UInt8):(Op.bytesLess a b || a == b) = !Op.bytesLess b a:=by
 rw [Zv,Zv,Zy.swap b a trivial trivial]
 by_cases e:a=b
 ·subst e
  rw [jaX];simp [Ordering.swap]
 ·have h1:(a == b)=false:=beq_false_of_ne e
  rw [h1,Bool.or_false];cases c:ZG b a with
  | lt=>rfl
  | eq=>exact absurd ((Zy.same b a trivial trivial).1 c).symm e
  | gt=>rfl
theorem jez (p:Option (List UInt8))(k:List UInt8):0<=qZ p k/\qZ p k<=14:=by
 unfold qZ;split
 ·decide
 ·split
  ·decide
  ·cases p with
   | none=>exact⟨Int.le_refl 0,by show(0:Int)<=14;decide⟩
   | some q=>
    show 0<=(if Op.bytesLess q k=true then (0:Int) else 14)/\(if Op.bytesLess q k=true then (0:Int) else 14)<=14
    split<;>decide
theorem Z3:∀(l:List (List UInt8)) (p:Option (List UInt8)),0<=qw p l/\qw p l<=14
 | [],p=>by simp [qw]
 | k :: l,p=>by
  unfold qw;split
  ·exact Z3 l _
  ·exact jez p k
theorem jdJ (t:V):0<=jR t/\jR t<=14:=by
 unfold jR;split
 ·decide
 ·split
  ·decide
  ·split
   ·decide
   ·exact Z3 _ _
structure OfKind (x:Lab) (L E:List V):Prop where
 k:0<=x.1/\x.1<=6
 n:x.2.1≠0->x.1=1\/x.1=2
 b:x.1=1->x.2.1=0\/x.2.1=1
 i : -9223372036854775808<=x.2.1/\x.2.1<=9223372036854775807
 f:x.2.2.1≠0->x.1=3
 u:x.2.2.1<18446744073709551616
 s:x.2.2.2≠[]->x.1=4
 l:L≠[]->x.1=5
 e:E≠[]->x.1=6
theorem not_or {P:Prop}{a:Int}(h:a≠0->P)(hp:¬P):a=0:=Decidable.byContradiction fun e=>hp (h e)
open Go.RowKit
def Jq:Nat->V->Prop
 | 0,_=>False
 | n+1,v=>OfKind (opn v).1 (opn v).2.1 (opn v).2.2/\((opn v).1.2.2.2.length<=4000/\∀e∈(opn v).2.2,(jz e).1.length<=100)/\(∀y∈(opn v).2.1,Jq n y)/\∀e∈(opn v).2.2,Jq n (jz e).2
theorem jaI:∀(l:List (List UInt8)) (p:Option (List UInt8)),qw p l=0->∀k∈l,k.length<=100
 | [],_,_,k,hk=>by cases hk
 | x :: r,p,h,k,hk=>by
  have h':(if qZ p x=0 then qw (some x) r else qZ p x)=0:=h
  by_cases h0:qZ p x=0
  ·rw [if_pos h0] at h'
   rcases List.mem_cons.1 hk with rfl | hk
   ·unfold qZ at h0
    by_cases h1:100<k.length
    ·rw [if_pos h1] at h0
     cases h0
    ·omega
   ·exact jaI r _ h' k hk
  ·rw [if_neg h0] at h'
   exact absurd h' h0
theorem QN:∀{f:Nat} {ok:Nat->Prop} {w:World} {vs:List Value} {t:V},LiesV ok f w vs t->jC jR t=0->Jq f t
 | 0,_,_,_,_,h,_=>h.elim
 | f+1,ok,w,vs,t,h,hf=>by
  obtain⟨k,n,b,s,L,E,pL,pE,cL,cE,rfl,rfl,⟨h1,h2,h3,h4⟩,h5,rL,rE⟩:=h;have h1v:=Jk hf;unfold jR at h1v;rw [qJ] at h1v;simp only at h1v
  by_cases hk:Ja k n b s.data.toList L.length E.length
  ·rw [if_neg (fun h=>h hk)] at h1v
   by_cases hb:4000<s.data.toList.length\/200<L.length\/200<E.length
   ·rw [if_pos hb] at h1v
    cases h1v
   ·rw [if_neg hb] at h1v
    have hks:qw none (jS E)=0:=by
     by_cases hu:0<=utfs.bad s.data.toList
     ·rw [if_pos hu] at h1v
      cases h1v
     ·rw [if_neg hu] at h1v
      exact h1v
    obtain⟨q1,q2,q3,q4,q5,q6,q7,_⟩:=hk;refine⟨⟨q1,fun h=>q2.resolve_left h,q3,h2,fun h=>q4.resolve_left h,h3,fun h=>q5.resolve_left h,fun h=>q6.resolve_left (fun e=>h (List.eq_nil_of_length_eq_zero e)),fun h=>q7.resolve_left (fun e=>h (List.eq_nil_of_length_eq_zero e))⟩,⟨?_,fun e he=>?_⟩,fun y hy=>?_,fun e he=>?_⟩
    ·rw [qJ]
     simp only;omega
    ·rw [qJ] at he
     exact jaI _ _ hks _ (List.mem_map.2 ⟨e,he,rfl⟩)
    ·rw [qJ] at hy
     simp only at hy;obtain⟨j,hj,ej⟩:=List.getElem_of_mem hy;obtain⟨B,o,_,_,_,hr⟩:=rL (by omega);obtain⟨us,_,_,z,hz,hlz⟩:=hr j hj;rw [List.getElem?_eq_getElem hj,ej] at hz;injection hz with hz;rw [hz];rw [hz] at hy;exact QN hlz (zb hf (by rw [j8];exact List.mem_append_left _ hy))
    ·rw [qJ] at he
     simp only at he;obtain⟨j,hj,ej⟩:=List.getElem_of_mem he;obtain⟨B,o,_,_,_,hr⟩:=rE (by omega);obtain⟨us,_,_,key,z,xs,hz,_,_,hlz⟩:=hr j hj;rw [List.getElem?_eq_getElem hj,ej] at hz;injection hz with hz
     have hp:z∈parts (mkV (k,n,b,s.data.toList) L E):=by
      rw [j8];exact List.mem_append_right _ (List.mem_map.2 ⟨e,he,by rw [hz,qk]⟩)
     rw [hz,qk];exact QN hlz (zb hf hp)
  ·rw [if_pos hk] at h1v
   cases h1v
end valus
end Go.Proofs.YtnbfnjhbmeocfaaGreatDoor
