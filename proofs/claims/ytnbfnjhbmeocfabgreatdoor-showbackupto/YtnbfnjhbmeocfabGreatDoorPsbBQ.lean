/- Of our texts, what this claim reaches. -/
import Derived.Test.YtnbfnjhbmeocfabGreatDoorPsbBN
import Derived.Test.YtnbfnjhbmeocfabGreatDoorPsbAA
import Derived.Test.YtnbfnjhbmeocfabGreatDoorPsbBP
set_option linter.unusedVariables false
namespace Go.Proofs.YtnbfnjhbmeocfabGreatDoor
namespace valus
open trees (Sym Jv Qs Q1)
open toks (Tk jF jG Xg qk jp jw jZ isB isW isM noL)
def jbY:Nat->List UInt8->List zh
 | 0,_=>[]
 | f+1,l=>if l=[] then [] else ((jF l).1,l.take (jF l).2) :: jbY f (l.drop (jF l).2)
def jlh (l:List UInt8):List zh:=jbY l.length l
def jpQ (t:zh):Bool:=decide (3<t.1)
def jN (l:List UInt8):List zh:=(jlh l).filter jpQ
theorem jdK:∀(f g:Nat) (l:List UInt8),l.length<=f->l.length<=g->jbY f l=jbY g l
 | 0,0,_,_,_=>rfl
 | 0,g+1,l,h,_=>by
  obtain rfl:l=[]:=List.eq_nil_of_length_eq_zero (by omega);rw [jbY,jbY,if_pos rfl]
 | f+1,0,l,_,h=>by
  obtain rfl:l=[]:=List.eq_nil_of_length_eq_zero (by omega);rw [jbY,jbY,if_pos rfl]
 | f+1,g+1,l,h1,h2=>by
  rw [jbY,jbY]
  by_cases h:l=[]
  ·rw [if_pos h,if_pos h]
  ·rw [if_neg h,if_neg h]
   have:=(qk h).1;have h3:(l.drop (jF l).2).length=l.length - (jF l).2:=List.length_drop;rw [jdK f g _ (by omega) (by omega)]
theorem jf6 {l:List UInt8}(h:l≠[]):jlh l=((jF l).1,l.take (jF l).2) :: jlh (l.drop (jF l).2):=by
 have hl:=List.length_pos_iff.2 h;obtain⟨n,hn⟩:∃n,l.length=n+1:=⟨l.length - 1,by omega⟩
 unfold jlh;rw [hn,jbY,if_neg h];have:=(qk h).1;have h3:(l.drop (jF l).2).length=l.length - (jF l).2:=List.length_drop;rw [jdK n _ _ (by omega) (Nat.le_refl _)]
theorem jn0 (s:ByteArray)(a b:Nat):(s.extract a b).data.toList=(s.data.toList.drop a).take (b - a):=by
 rw [ByteArray.data_extract,Array.toList_extract]
def X5 (L:List UInt8)(t:Tk):zh:=(t.kind,(L.drop t.fro).take (t.til - t.fro))
theorem jft (L:List UInt8):∀(n p:Nat) (l:List UInt8),l.length<=n->L.drop p=l->jlh l=(Xg p l).map (X5 L)
 | 0,p,l,h,_=>by
  obtain rfl:l=[]:=List.eq_nil_of_length_eq_zero (by omega);rfl
 | n+1,p,l,h,hd=>by
  by_cases h0:l=[]
  ·subst h0
   rfl
  ·have hz:=(qk h0).1
   have h3:(l.drop (jF l).2).length=l.length - (jF l).2:=List.length_drop;rw [jf6 h0,toks.Jw h0,List.map_cons,jft L n (p+(jF l).2) _ (by omega) (by rw [<-hd,List.drop_drop])]
   congr 1
   unfold X5;simp only;rw [hd]
   congr 2
   omega
theorem jjy (L:List UInt8):jlh L=(jG L).map (X5 L):=jft L L.length 0 L (Nat.le_refl _) rfl
theorem ji7 (s:ByteArray)(j:Nat)(hj:j<(jG s.data.toList).length):Yy s (jG s.data.toList) j=X5 s.data.toList (jG s.data.toList)[j]:=by
 unfold Yy X5;rw [dif_pos hj,jn0]
theorem jdD (L:List UInt8)(ct:Nat->zh):∀(l:List Tk) (i:Nat),(∀(j:Nat) (h:j<l.length),ct (i+j)=X5 L l[j])->jeu ct (Qs L i l)=(l.map (X5 L)).filter jpQ
 | [],i,_=>rfl
 | t :: l,i,h=>by
  have ih:=jdD L ct l (i+1) (fun j hj=>by
   have:=h (j+1) (by simpa using hj);rw [List.getElem_cons_succ] at this;rw [<-this]
   congr 1
   omega)
  have h0:=h 0 (by simp);rw [List.getElem_cons_zero,Nat.add_zero] at h0;rw [List.map_cons]
  by_cases hk:3<t.kind
  ·rw [trees.Yj hk,jj8,ih,List.filter_cons_of_pos (by exact decide_eq_true hk)]
   rw [h0]
  ·rw [trees.jeB hk,ih,List.filter_cons_of_neg (by show ¬decide (3<t.kind)=true;rw [decide_eq_true_iff];exact hk)]
theorem jkW (s:ByteArray):jeu (Yy s (jG s.data.toList)) (Jv s.data.toList)=jN s.data.toList:=by
 unfold jN Jv;rw [jjy];exact jdD _ _ _ 0 (fun j hj=>by rw [Nat.zero_add];exact ji7 s j hj)
theorem jg9 {l:List UInt8}{n:Nat}(h:jF l=(6,n)):n=1/\∃c r,l=c :: r/\isM c=true:=by
 cases l with
 | nil=>simp [jF] at h
 | cons c t=>
  have hm:=trees.jdh h;refine⟨?_,c,t,rfl,hm⟩
  have hb:isB c=false:=by
   unfold isM at hm;simp only [Bool.or_eq_true,beq_iff_eq] at hm
   rcases hm with ((((((h | h) | h) | h) | h) | h) | h)<;>(rw [show c=_ from h];decide)
  unfold jF at h;simp only at h;rw [if_neg (by rw [hb];decide)] at h;split at h
  ·simp at h
  ·split at h
   ·simp at h
   ·split at h
    ·simp at h
    ·split at h
     ·injection h with _ h
      exact h.symm
     ·rename_i h2
      exact absurd hm h2
theorem jju (s:ByteArray):∀x∈Jv s.data.toList,Fits (Yy s (jG s.data.toList)) x:=by
 intro x hx;obtain⟨_,h1,h2,h3⟩:=trees.Xn s.data.toList (jG s.data.toList) 0 x hx;simp only [Nat.sub_zero] at h1 h2 h3;obtain⟨_,a2,a3,a4,_,_,a7,_⟩:=toks.jet x.2 0 s.data.toList (jG s.data.toList)[x.2] (List.getElem?_eq_getElem h1);rw [Nat.sub_zero] at a4;have hc:=ji7 s x.2 h1;generalize (jG s.data.toList)[x.2]=t at *
 have hm:t.kind=6->∃c,isM c=true/\(s.data.toList.drop t.fro).take (t.til - t.fro)=[c]/\s.data.toList.getD t.fro 0=c:=fun h6=>by
  rw [h6] at a4;obtain⟨e1,c,r,e2,e3⟩:=jg9 a4;refine⟨c,e3,by rw [e2,e1];rfl,?_⟩;have:(s.data.toList.drop t.fro)[0]?=some c:=by rw [e2];rfl
  rw [List.getElem?_drop,Nat.add_zero] at this;rw [List.getD_eq_getElem?_getD,this];rfl
 refine⟨?_,fun m hm1 hm2=>?_⟩
 ·rw [hc,h3]
  unfold X5 Q1;simp only
  by_cases h6:t.kind=6
  ·obtain⟨c,q1,_,q3⟩:=hm h6
   rw [if_pos h6,q3]
   constructor
   ·intro e
    exact absurd e (trees.jiR q1).1
   ·intro e
    omega
  ·rw [if_neg h6]
   by_cases h7:t.kind=7
   ·rw [if_pos h7]
    constructor
    ·intro e
     exact absurd e (by decide)
    ·intro e
     omega
   ·rw [if_neg h7]
    constructor
    ·intro _
     omega
    ·intro _
     rfl
 ·rw [hc,h3]
  unfold X5 Q1
  by_cases h6:t.kind=6
  ·obtain⟨c,q1,q2,q3⟩:=hm h6
   rw [if_pos h6,q3,q2,h6]
   constructor
   ·intro e
    rw [e]
   ·intro e
    injection e with _ e;injection e with e _
  ·rw [if_neg h6]
   constructor
   ·intro e
    split at e
    ·exact absurd e.symm hm2
    ·exact absurd e.symm hm1
   ·intro e
    injection e with e _;exact absurd e h6
theorem jdP {s:ByteArray}{N:Nat}(hN:N=(jG s.data.toList).length):∀(f:Nat) (t:trees.T) (x:V⊕(Int×Int)),jap N f t->∀g,(zS (JF s (jG s.data.toList)) (Zb s (jG s.data.toList)) g t x↔zS (YS (Yy s (jG s.data.toList)) (jcy (jG s.data.toList))) (ZW (Yy s (jG s.data.toList)) (jcy (jG s.data.toList))) g t x)
 | 0,_,_,h,_=>h.elim
 | f+1,t,x,hF,0=>Iff.rfl
 | f+1,t,x,hF,g+1=>by
  obtain⟨k,a,e,l,rfl,_,hF⟩:=hF;have ih:=jdP hN f
  have inj:∀{k' a' e':Nat} {l':List trees.T},trees.nd k a e l=trees.nd k' a' e' l'->k'=k/\a'=a/\l'=l:=fun h=>by
   obtain⟨h1,h2,_,h4⟩:=trees.zf h;exact⟨h1.symm,h2.symm,h4.symm⟩
  have tabs:∀(l:List trees.T) (acc:List V),(∀y∈l,∃ek ea ee kk ka ke v,y=trees.nd ek ea ee [trees.nd kk ka ke [],v]/\ka<N/\jap N f v)->(QZ (JF s (jG s.data.toList)) (zS (JF s (jG s.data.toList)) (Zb s (jG s.data.toList)) g) l acc x↔QZ (YS (Yy s (jG s.data.toList)) (jcy (jG s.data.toList))) (zS (YS (Yy s (jG s.data.toList)) (jcy (jG s.data.toList))) (ZW (Yy s (jG s.data.toList)) (jcy (jG s.data.toList))) g) l acc x):=by
   intro l
   induction l with
   | nil=>exact fun _ _=>Iff.rfl
   | cons y l il=>
    intro acc hy;obtain⟨ek,ea,ee,kk,ka,ke,v,e1,e2,e3⟩:=hy y (List.mem_cons_self ..);have il':=fun acc=>il acc (fun z hz=>hy z (List.mem_cons_of_mem _ hz))
    have hka:ka<(jG s.data.toList).length:=by rw [<-hN];exact e2
    constructor
    ·rintro⟨ek',ea',ee',kk',ka',ke',v',q,h⟩
     rw [e1] at q;obtain⟨_,_,_,q2⟩:=trees.zf q;injection q2 with q3 q4;injection q4 with q4 _;obtain⟨_,rfl,_,_⟩:=trees.zf q3;subst q4;refine⟨ek,ea,ee,kk,ka,ke,v,e1,?_⟩
     rcases h with ⟨key,h1,h2⟩ | ⟨pq,h1,h2⟩
     ·refine .inl ⟨key,(Qt hka).1 h1,?_⟩
      rcases h2 with ⟨z,h3,h4⟩ | ⟨pq,h3,h4⟩
      ·exact .inl ⟨z,(ih v _ e3 g).1 h3,(il' _).1 h4⟩
      ·exact .inr ⟨pq,(ih v _ e3 g).1 h3,h4⟩
     ·exact .inr ⟨pq,(Qt hka).1 h1,h2⟩
    ·rintro⟨ek',ea',ee',kk',ka',ke',v',q,h⟩
     rw [e1] at q;obtain⟨_,_,_,q2⟩:=trees.zf q;injection q2 with q3 q4;injection q4 with q4 _;obtain⟨_,rfl,_,_⟩:=trees.zf q3;subst q4;refine⟨ek,ea,ee,kk,ka,ke,v,e1,?_⟩
     rcases h with ⟨key,h1,h2⟩ | ⟨pq,h1,h2⟩
     ·refine .inl ⟨key,(Qt hka).2 h1,?_⟩
      rcases h2 with ⟨z,h3,h4⟩ | ⟨pq,h3,h4⟩
      ·exact .inl ⟨z,(ih v _ e3 g).2 h3,(il' _).2 h4⟩
      ·exact .inr ⟨pq,(ih v _ e3 g).2 h3,h4⟩
     ·exact .inr ⟨pq,(Qt hka).2 h1,h2⟩
  constructor
  ·rintro⟨k',a',e',l',q,h⟩
   obtain⟨rfl,rfl,rfl⟩:=inj q;refine⟨_,_,_,_,rfl,?_⟩
   rcases hF with ⟨rfl,ha⟩ | ⟨rfl,hk⟩ | ⟨rfl,hk⟩
   ·rcases h with ⟨h1,_⟩ | ⟨h1,_⟩ | ⟨h1,h2,h3⟩
    ·omega
    ·omega
    ·exact .inr (.inr ⟨h1,h2,(ZG (by rw [<-hN];exact ha)).1 h3⟩)
   ·rcases h with ⟨h1,_⟩ | ⟨_,h2⟩ | ⟨_,h2,_⟩
    ·omega
    ·exact .inr (.inl ⟨rfl,Zt _ _ _ (fun t ht x=>(ih t x (hk t ht) g).1) h2⟩)
    ·omega
   ·rcases h with ⟨_,h2⟩ | ⟨h1,_⟩ | ⟨h1,_⟩
    ·exact .inl ⟨rfl,(tabs _ _ hk).1 h2⟩
    ·omega
    ·omega
  ·rintro⟨k',a',e',l',q,h⟩
   obtain⟨rfl,rfl,rfl⟩:=inj q;refine⟨_,_,_,_,rfl,?_⟩
   rcases hF with ⟨rfl,ha⟩ | ⟨rfl,hk⟩ | ⟨rfl,hk⟩
   ·rcases h with ⟨h1,_⟩ | ⟨h1,_⟩ | ⟨h1,h2,h3⟩
    ·omega
    ·omega
    ·exact .inr (.inr ⟨h1,h2,(ZG (by rw [<-hN];exact ha)).2 h3⟩)
   ·rcases h with ⟨h1,_⟩ | ⟨_,h2⟩ | ⟨_,h2,_⟩
    ·omega
    ·exact .inr (.inl ⟨rfl,Zt _ _ _ (fun t ht x=>(ih t x (hk t ht) g).2) h2⟩)
    ·omega
   ·rcases h with ⟨_,h2⟩ | ⟨h1,_⟩ | ⟨h1,_⟩
    ·exact .inl ⟨rfl,(tabs _ _ hk).2 h2⟩
    ·omega
    ·omega
open toks (jF qk jp jw jZ isB isW isM noL)
theorem jix (p:UInt8->Bool):∀(l x:List UInt8),(∀c∈l,p c=true)->jZ p (l++x)=l.length+jZ p x
 | [],x,_=>by simp
 | c :: l,x,h=>by
  rw [List.cons_append,jZ,if_pos (h c (by simp)),jix p l x (fun d hd=>h d (by simp [hd])),List.length_cons];omega
theorem XS (p:UInt8->Bool)(c:UInt8)(x:List UInt8)(h:p c=false):jZ p (c :: x)=0:=by rw [jZ,if_neg (by rw [h];decide)]
theorem Q7 {l:List UInt8}(h:l≠[]):jN l=(if 3<(jF l).1 then [((jF l).1,l.take (jF l).2)] else [])++jN (l.drop (jF l).2):=by
 unfold jN;rw [jf6 h]
 by_cases hk:3<(jF l).1
 ·rw [if_pos hk,List.filter_cons_of_pos (by exact decide_eq_true hk)]
  rfl
 ·rw [if_neg hk,List.filter_cons_of_neg (by show ¬decide (3<(jF l).1)=true;rw [decide_eq_true_iff];exact hk)]
  rfl
theorem jih {c:UInt8}{x:List UInt8}(h:isB c=true):jF (c :: x)=(1,jZ isB (c :: x)):=by
 unfold jF;simp only;rw [if_pos h]
theorem jaS (x:List UInt8):jN (x.drop (jZ isB x))=jN x:=by
 cases x with
 | nil=>rfl
 | cons c x=>
  by_cases h:isB c=true
  ·have e:=jih (x:=x) h
   rw [Q7 (l:=c :: x) (by simp),e];simp
  ·rw [XS isB c x (by simpa using h)]
   rfl
end valus
end Go.Proofs.YtnbfnjhbmeocfabGreatDoor
