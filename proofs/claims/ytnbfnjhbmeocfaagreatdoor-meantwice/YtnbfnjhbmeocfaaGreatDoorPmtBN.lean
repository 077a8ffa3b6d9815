/- Of our texts, what this claim reaches. -/
import Derived.Test.YtnbfnjhbmeocfaaGreatDoorPmtAA
import Derived.Lib.Bytealg
import Derived.Lib.Index
set_option linter.unusedVariables false
namespace Go.Proofs.YtnbfnjhbmeocfaaGreatDoor
namespace toks
theorem jS {l:List UInt8}{k:Nat}(h:k<l.length):l.drop k=l[k] :: l.drop (k+1):=List.drop_eq_getElem_cons h
theorem jkw {p:UInt8->Bool}{c:UInt8}{t:List UInt8}(h:p c=false):jF p (c :: t)=0:=by rw [jF,if_neg (by rw [h];decide)]
theorem jjI {p:UInt8->Bool}{l:List UInt8}{k:Nat}(h:k<l.length)(hp:p l[k]=true):jF p (l.drop k)=jF p (l.drop (k+1))+1:=by
 rw [jS h,Qg hp]
theorem Qq {p:UInt8->Bool}{l:List UInt8}{k:Nat}(h:k<l.length)(hp:p l[k]=false):jF p (l.drop k)=0:=by
 rw [jS h,jkw hp]
theorem jkh {p:UInt8->Bool}{l:List UInt8}{k:Nat}(h:l.length<=k):jF p (l.drop k)=0:=by
 rw [List.drop_of_length_le h];rfl
theorem jau:∀l:List UInt8,(Lib.indexByte l 10 = -1->jF noL l=l.length)/\(Lib.indexByte l 10≠-1->(jF noL l:Int)=Lib.indexByte l 10)
 | []=>⟨fun _=>rfl,fun h=>absurd rfl h⟩
 | b :: l=>by
  obtain⟨h1,h2⟩:=jau l
  by_cases e:b=10
  ·subst e
   exact⟨fun h=>by simp [Lib.indexByte] at h,fun _=>rfl⟩
  ·have hn:noL b=true:=by unfold noL;simpa using e
   have he:(b == 10)=false:=by simpa using e
   have ei:Lib.indexByte (b :: l) 10=if Lib.indexByte l 10 == -1 then -1 else Lib.indexByte l 10+1:=by
    rw [Lib.indexByte,he];rfl
   rw [ei,Qg hn]
   by_cases q:Lib.indexByte l 10 = -1
   ·rw [q]
    exact⟨fun _=>by rw [h1 q];rfl,fun h=>absurd rfl h⟩
   ·have qb:(Lib.indexByte l 10 == -1)=false:=by simpa using q
    rw [qb];have:=Lib.indexByte_ge l 10;have:=h2 q;refine⟨fun h=>?_,fun _=>?_⟩
    ·simp only [Bool.false_eq_true,if_false] at h;omega
    ·simp only [Bool.false_eq_true,if_false];omega
theorem Xo:∀{l:List UInt8},jt l≠0->2<=jt l
 | [],h=>absurd rfl h
 | [_],h=>absurd rfl h
 | a :: b :: l,h=>by
  have ih:=@Xo (b :: l);unfold jt at h ⊢;split
  ·omega
  ·rename_i hc
   rw [if_neg hc] at h;split at h
   ·exact absurd rfl h
   ·rename_i h0
    rw [if_neg h0];have:=ih h0;omega
theorem XM:∀l:List UInt8,(jt l=0->Lib.index l [42,47] = -1)/\(jt l≠0->Lib.index l [42,47]=(jt l:Int) - 2)
 | []=>⟨fun _=>rfl,fun h=>absurd rfl h⟩
 | [a]=>by
  have e:Lib.index [a] [42,47] = -1:=by simp [Lib.index,List.isPrefixOf]
  exact⟨fun _=>e,fun h=>absurd rfl h⟩
 | a :: b :: l=>by
  obtain⟨h1,h2⟩:=XM (b :: l)
  have hp:([42,47]:List UInt8).isPrefixOf (a :: b :: l)=decide (a=42/\b=47):=by
   simp only [List.isPrefixOf,Bool.and_true]
   by_cases q1:a=42
   ·by_cases q2:b=47
    ·subst q1 q2;rfl
    ·have:((47:UInt8) == b)=false:=by simpa using Ne.symm q2
     rw [this,Bool.and_false];simp [q2]
   ·have:((42:UInt8) == a)=false:=by simpa using Ne.symm q1
    rw [this,Bool.false_and];simp [q1]
  have ei:Lib.index (a :: b :: l) [42,47]=if decide (a=42/\b=47)=true then 0 else if Lib.index (b :: l) [42,47] == -1 then -1 else Lib.index (b :: l) [42,47]+1:=by
   rw [Lib.index,hp]
  rw [ei]
  by_cases hc:a=42/\b=47
  ·have e:jt (a :: b :: l)=2:=by rw [jt,if_pos hc]
   rw [e,decide_eq_true hc];exact⟨fun h=>by omega,fun _=>rfl⟩
  ·have e:jt (a :: b :: l)=if jt (b :: l)=0 then 0 else jt (b :: l)+1:=by rw [jt,if_neg hc]
   rw [e,decide_eq_false hc];simp only [Bool.false_eq_true,if_false]
   by_cases h0:jt (b :: l)=0
   ·rw [if_pos h0,h1 h0]
    exact⟨fun _=>rfl,fun h=>absurd rfl h⟩
   ·rw [if_neg h0]
    have q:=h2 h0;have g:=Xo h0
    have qb:(Lib.index (b :: l) [42,47] == -1)=false:=by
     rw [q];simp;omega
    rw [qb];simp only [Bool.false_eq_true,if_false];refine⟨fun h=>by omega,fun _=>by rw [q];push_cast;omega⟩
theorem jae:∀(l:List UInt8) (k:Nat),jt l=0->jt (l.drop k)=0
 | [],k,_=>by simp [jt]
 | [a],0,h=>h
 | [a],k+1,_=>by simp [jt]
 | a :: b :: l,0,h=>h
 | a :: b :: l,k+1,h=>by
  rw [List.drop_succ_cons];refine jae (b :: l) k ?_
  by_cases hc:a=42/\b=47
  ·rw [jt,if_pos hc] at h;omega
  ·rw [jt,if_neg hc] at h
   by_cases h0:jt (b :: l)=0
   ·exact h0
   ·rw [if_neg h0] at h;omega
structure Way (l:List UInt8) (a e:Nat):Prop where
 lo:a+1<=e
 hi:e<=l.length
 val:jk (l.drop (a+1))=if jk (l.drop e)=0 then 0 else jk (l.drop e)+(e - (a+1))
 pass:jk (l.drop e)=0->∀q,a<q->q<e->l.getD q 0=34->jk (l.drop (q+1))=0
theorem jhC {l:List UInt8}{a:Nat}(h:a<l.length):Way l a (a+1):=by
 refine⟨Nat.le_refl _,h,?_,fun _ q h1 h2=>by omega⟩;split
 ·assumption
 ·omega
theorem jhX {l:List UInt8}{e:Nat}(h:e+1<l.length)(h1:l[e]=92)(h2:l[e+1]≠10):jk (l.drop e)=if jk (l.drop (e+2))=0 then 0 else jk (l.drop (e+2))+2:=by
 rw [jS (by omega:e<l.length),jS h,h1,jk,if_neg (by decide),if_neg (by decide),if_pos rfl,if_neg h2]
theorem jhJ {l:List UInt8}{e:Nat}(h:e<l.length)(h1:l[e]≠34)(h2:l[e]≠10)(h3:l[e]=92->∀h:e+1<l.length,l[e+1]=10):jk (l.drop e)=if jk (l.drop (e+1))=0 then 0 else jk (l.drop (e+1))+1:=by
 rw [jS h]
 by_cases hl:e+1<l.length
 ·rw [jS hl,jk,if_neg h1,if_neg h2]
  by_cases h92:l[e]=92
  ·have:=h3 h92 hl
   rw [if_pos h92,if_pos this,this]
   have e0:jk (10 :: l.drop (e+1+1))=0:=by
    cases l.drop (e+1+1) with
    | nil=>rfl
    | cons d r=>rw [jk,if_neg (by decide),if_pos rfl]
   rw [e0,if_pos rfl]
  ·rw [if_neg h92]
 ·rw [List.drop_of_length_le (by omega:l.length<=e+1)]
  have e1:jk [l[e]]=if l[e]=34 then 1 else 0:=rfl
  rw [e1,if_neg h1];rfl
theorem jiM {l:List UInt8}{e:Nat}(h:e<l.length)(h1:l[e]=34):jk (l.drop e)=1:=by
 rw [jS h,h1];cases l.drop (e+1) with
 | nil=>rfl
 | cons d r=>rw [jk,if_pos rfl]
theorem jgQ {l:List UInt8}{e:Nat}(h:e<l.length)(h1:l[e]=10):jk (l.drop e)=0:=by
 rw [jS h,h1];cases l.drop (e+1) with
 | nil=>rfl
 | cons d r=>rw [jk,if_neg (by decide),if_pos rfl]
theorem jjO {l:List UInt8}{e:Nat}(h:l.length<=e):jk (l.drop e)=0:=by
 rw [List.drop_of_length_le h];rfl
theorem getD_at {l:List UInt8}{k:Nat}(h:k<l.length):l.getD k 0=l[k]:=by
 rw [List.getD,List.getElem?_eq_getElem h];rfl
theorem jkH {l:List UInt8}{a e:Nat}(w:Way l a e)(h:e+1<l.length)(h1:l[e]=92)(h2:l[e+1]≠10):Way l a (e+2):=by
 have hs:=jhX h h1 h2;have hv:=w.val;have hl:=w.lo;rw [hs] at hv;refine⟨by omega,by omega,?_,fun h0 q q1 q2 q3=>?_⟩
 ·rw [hv]
  by_cases h0:jk (l.drop (e+2))=0
  ·simp [h0]
  ·rw [if_neg h0,if_neg h0,if_neg (by omega)]
   omega
 ·rw [h0,if_pos rfl] at hs
  by_cases c1:q<e
  ·exact w.pass hs q q1 c1 q3
  ·by_cases c2:q=e
   ·subst c2
    rw [getD_at (by omega),h1] at q3;exact absurd q3 (by decide)
   ·have:q=e+1:=by omega
    subst this;exact h0
theorem jjf {l:List UInt8}{a e:Nat}(w:Way l a e)(h:e<l.length)(h1:l[e]≠34)(h2:l[e]≠10)(h3:l[e]=92->∀h:e+1<l.length,l[e+1]=10):Way l a (e+1):=by
 have hs:=jhJ h h1 h2 h3;have hv:=w.val;have hl:=w.lo;rw [hs] at hv;refine⟨by omega,by omega,?_,fun h0 q q1 q2 q3=>?_⟩
 ·rw [hv]
  by_cases h0:jk (l.drop (e+1))=0
  ·simp [h0]
  ·rw [if_neg h0,if_neg h0,if_neg (by omega)]
   omega
 ·rw [h0,if_pos rfl] at hs
  by_cases c1:q<e
  ·exact w.pass hs q q1 c1 q3
  ·have:q=e:=by omega
   subst this;rw [getD_at h] at q3;exact absurd q3 h1
theorem jkF {l:List UInt8}{a e:Nat}(w:Way l a e)(h:e<l.length)(h1:l[e]=34):jk (l.drop (a+1))=e - a:=by
 have hl:=w.lo;rw [w.val,jiM h h1,if_neg (by decide)];omega
def NoText (l:List UInt8)(p m:Nat):Prop:=∀q,p<=q->q<m->l.getD q 0=34->jk (l.drop (q+1))=0
def NoNote (l:List UInt8)(p:Nat)(b:Bool):Prop:=b=true->jt (l.drop (p+2))=0
theorem jeb (l:List UInt8)(p:Nat):NoText l p 0:=fun q _ h=>by omega
theorem jco (l:List UInt8)(p:Nat):NoNote l p false:=fun h=>by cases h
theorem NoText.on {l:List UInt8}{p p' m:Nat}(h:NoText l p m)(hp:p<=p'):NoText l p' m:=fun q h1=>h q (by omega)
theorem NoNote.on {l:List UInt8}{p p':Nat}{b:Bool}(h:NoNote l p b)(hp:p<=p'):NoNote l p' b:=fun hb=>by
 have:=jae _ (p' - p) (h hb);rwa [List.drop_drop,show p+2+(p' - p)=p'+2 by omega] at this
theorem jja {l:List UInt8}{a e:Nat}(w:Way l a e)(h0:jk (l.drop e)=0):jk (l.drop (a+1))=0/\NoText l a e:=by
 have h1:jk (l.drop (a+1))=0:=by rw [w.val,if_pos h0]
 refine⟨h1,fun q q1 q2 q3=>?_⟩
 by_cases c:q=a
 ·subst c;exact h1
 ·exact w.pass h0 q (by omega) q2 q3
end toks
end Go.Proofs.YtnbfnjhbmeocfaaGreatDoor
