/- Of our texts, what this claim reaches. -/
import Derived.Test.YtadaehaemmelfaaDoorPubAM
import Derived.Test.YtadaehaemmelfaaDoorPubAO
import Derived.Test.YtadaehaemmelfaaDoorPubAA
set_option linter.unusedVariables false
namespace Go.Proofs.YtadaehaemmelfaaDoor
namespace paths
open valus (V opn jE ent mkV idx parts jo jd)
def jf (t:V)(x:St):V⊕Int :=
 if x.2 = -1 then (if (opn t).1.1≠6 then .inr 10 else if idx (fun k=>decide (k=x.1)) 0 (opn t).2.2<0 then .inr 8 else .inl (jE ((opn t).2.2.getD (idx (fun k=>decide (k=x.1)) 0 (opn t).2.2).toNat .nil)).2)
 else (if (opn t).1.1≠5 then .inr 10 else if ((opn t).2.1.length:Int)<=x.2 then .inr 8 else .inl ((opn t).2.1.getD x.2.toNat .nil))
def je:V->List St->V⊕Int
 | t,[]=>.inl t
 | t,x :: l=>match jf t x with
  | .inl y=>je y l
  | .inr e=>.inr e
def qT (x:V⊕Int)(q:List St):V⊕Int:=match x with
 | .inl y=>je y q
 | .inr e=>.inr e
theorem jU (t:V)(x:St)(l:List St):je t (x :: l)=qT (jf t x) l:=rfl
theorem jR:∀(p:List St) (t:V) (q:List St),je t (p++q)=qT (je t p) q
 | [],t,q=>rfl
 | x :: p,t,q=>by
  rw [List.cons_append,jU,jU];cases h:jf t x with
  | inl y=>exact jR p y q
  | inr e=>rfl
theorem ZQ (g:List UInt8->Bool):∀(l:List V) (n:Nat),idx g n l<0\/((n:Int)<=idx g n l/\idx g n l<n+l.length)
 | [],n=>.inl (by show(-1:Int)<0;omega)
 | e :: l,n=>by
  unfold idx;split
  ·right;simp only [List.length_cons];omega
  ·rcases ZQ g l (n+1) with h | h
   ·exact .inl h
   ·right;simp only [List.length_cons];omega
end paths
end Go.Proofs.YtadaehaemmelfaaDoor
