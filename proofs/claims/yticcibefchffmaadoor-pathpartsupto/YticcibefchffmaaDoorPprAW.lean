/- Of our texts, what this claim reaches. -/
import Derived.Test.YticcibefchffmaaDoorPprAQ
import Derived.Test.YticcibefchffmaaDoorPprAV
import Derived.Test.YticcibefchffmaaDoorPprAA
set_option linter.unusedVariables false
namespace Go.Proofs.YticcibefchffmaaDoor
namespace paths
open valus (V opn jV ent mkV idx parts jh jd)
def jE (t:V)(x:St):V⊕Int :=
 if x.2 = -1 then (if (opn t).1.1≠6 then .inr 10 else if idx (fun k=>decide (k=x.1)) 0 (opn t).2.2<0 then .inr 8 else .inl (jV ((opn t).2.2.getD (idx (fun k=>decide (k=x.1)) 0 (opn t).2.2).toNat .nil)).2)
 else (if (opn t).1.1≠5 then .inr 10 else if ((opn t).2.1.length:Int)<=x.2 then .inr 8 else .inl ((opn t).2.1.getD x.2.toNat .nil))
def jk:V->List St->V⊕Int
 | t,[]=>.inl t
 | t,x :: l=>match jE t x with
  | .inl y=>jk y l
  | .inr e=>.inr e
def QA (x:V⊕Int)(q:List St):V⊕Int:=match x with
 | .inl y=>jk y q
 | .inr e=>.inr e
theorem qu (t:V)(x:St)(l:List St):jk t (x :: l)=QA (jE t x) l:=rfl
theorem qP:∀(p:List St) (t:V) (q:List St),jk t (p++q)=QA (jk t p) q
 | [],t,q=>rfl
 | x :: p,t,q=>by
  rw [List.cons_append,qu,qu];cases h:jE t x with
  | inl y=>exact qP p y q
  | inr e=>rfl
theorem J5 (g:List UInt8->Bool):∀(l:List V) (n:Nat),idx g n l<0\/((n:Int)<=idx g n l/\idx g n l<n+l.length)
 | [],n=>.inl (by show(-1:Int)<0;omega)
 | e :: l,n=>by
  unfold idx;split
  ·right;simp only [List.length_cons];omega
  ·rcases J5 g l (n+1) with h | h
   ·exact .inl h
   ·right;simp only [List.length_cons];omega
theorem zG:∀(p q:List St),jN p=0->jN q=0->jN (p++q)=0
 | [],q,_,h=>h
 | x :: p,q,h1,h2=>by
  unfold jN at h1;split at h1
  ·rename_i hx
   show(if ju x=0 then jN (p++q) else ju x)=0
   rw [if_pos hx];exact zG p q h1 h2
  ·rename_i hx
   exact absurd h1 hx
theorem J2 {p q:List St}(h1:jl p=0)(h2:jl q=0)(hl:p.length+q.length<=20):jl (p++q)=0:=by
 unfold jl at *;rw [if_neg (by omega)] at h1 h2;rw [if_neg (by rw [List.length_append];omega)];exact zG p q h1 h2
end paths
end Go.Proofs.YticcibefchffmaaDoor
