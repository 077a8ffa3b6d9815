/- Of our texts, what this claim reaches. -/
import Derived.Test.YtnbfnjhbmeocfaaGreatDoorPstBN
import Derived.Test.YtnbfnjhbmeocfaaGreatDoorPstAA
import Derived.Test.YtnbfnjhbmeocfaaGreatDoorPstBO
set_option linter.unusedVariables false
namespace Go.Proofs.YtnbfnjhbmeocfaaGreatDoor
namespace valus
open trees (Sym Q2 jc2)
open toks (Tk qx QB jW Qk zA isB isW isM noL)
def XV:Nat->List UInt8->List zU
 | 0,_=>[]
 | f+1,l=>if l=[] then [] else ((qx l).1,l.take (qx l).2) :: XV f (l.drop (qx l).2)
def jiC (l:List UInt8):List zU:=XV l.length l
def jkz (t:zU):Bool:=decide (3<t.1)
def jE (l:List UInt8):List zU:=(jiC l).filter jkz
theorem jaj:∀(f g:Nat) (l:List UInt8),l.length<=f->l.length<=g->XV f l=XV g l
 | 0,0,_,_,_=>rfl
 | 0,g+1,l,h,_=>by
  obtain rfl:l=[]:=List.eq_nil_of_length_eq_zero (by omega);rw [XV,XV,if_pos rfl]
 | f+1,0,l,_,h=>by
  obtain rfl:l=[]:=List.eq_nil_of_length_eq_zero (by omega);rw [XV,XV,if_pos rfl]
 | f+1,g+1,l,h1,h2=>by
  rw [XV,XV]
  by_cases h:l=[]
  ·rw [if_pos h,if_pos h]
  ·rw [if_neg h,if_neg h]
   have:=(QB h).1;have h3:(l.drop (qx l).2).length=l.length - (qx l).2:=List.length_drop;rw [jaj f g _ (by omega) (by omega)]
theorem jhV {l:List UInt8}(h:l≠[]):jiC l=((qx l).1,l.take (qx l).2) :: jiC (l.drop (qx l).2):=by
 have hl:=List.length_pos_iff.2 h;obtain⟨n,hn⟩:∃n,l.length=n+1:=⟨l.length - 1,by omega⟩
 unfold jiC;rw [hn,XV,if_neg h];have:=(QB h).1;have h3:(l.drop (qx l).2).length=l.length - (qx l).2:=List.length_drop;rw [jaj n _ _ (by omega) (Nat.le_refl _)]
open toks (qx QB jW Qk zA isB isW isM noL)
theorem je4 (p:UInt8->Bool):∀(l x:List UInt8),(∀c∈l,p c=true)->zA p (l++x)=l.length+zA p x
 | [],x,_=>by simp
 | c :: l,x,h=>by
  rw [List.cons_append,zA,if_pos (h c (by simp)),je4 p l x (fun d hd=>h d (by simp [hd])),List.length_cons];omega
theorem Yf (p:UInt8->Bool)(c:UInt8)(x:List UInt8)(h:p c=false):zA p (c :: x)=0:=by rw [zA,if_neg (by rw [h];decide)]
theorem Qy {l:List UInt8}(h:l≠[]):jE l=(if 3<(qx l).1 then [((qx l).1,l.take (qx l).2)] else [])++jE (l.drop (qx l).2):=by
 unfold jE;rw [jhV h]
 by_cases hk:3<(qx l).1
 ·rw [if_pos hk,List.filter_cons_of_pos (by exact decide_eq_true hk)]
  rfl
 ·rw [if_neg hk,List.filter_cons_of_neg (by show ¬decide (3<(qx l).1)=true;rw [decide_eq_true_iff];exact hk)]
  rfl
theorem jdW {c:UInt8}{x:List UInt8}(h:isB c=true):qx (c :: x)=(1,zA isB (c :: x)):=by
 unfold qx;simp only;rw [if_pos h]
theorem YH (x:List UInt8):jE (x.drop (zA isB x))=jE x:=by
 cases x with
 | nil=>rfl
 | cons c x=>
  by_cases h:isB c=true
  ·have e:=jdW (x:=x) h
   rw [Qy (l:=c :: x) (by simp),e];simp
  ·rw [Yf isB c x (by simpa using h)]
   rfl
end valus
end Go.Proofs.YtnbfnjhbmeocfaaGreatDoor
