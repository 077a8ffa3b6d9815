/- Of our texts, what this claim reaches. -/
import Derived.Test.YtnbfnjhbmeocfaaGreatDoorPmtBM
import Derived.Test.YtnbfnjhbmeocfaaGreatDoorPmtAA
import Derived.Test.YtnbfnjhbmeocfaaGreatDoorPmtBO
set_option linter.unusedVariables false
namespace Go.Proofs.YtnbfnjhbmeocfaaGreatDoor
namespace valus
open trees (Sym q7 zA J3)
open toks (Tk jB jv J5 jN jk jt jF isB isW isM noL)
def YF:Nat->List UInt8->List qy
 | 0,_=>[]
 | f+1,l=>if l=[] then [] else ((jB l).1,l.take (jB l).2) :: YF f (l.drop (jB l).2)
def qK (l:List UInt8):List qy:=YF l.length l
def jct (t:qy):Bool:=decide (3<t.1)
def jcc (l:List UInt8):List qy:=(qK l).filter jct
theorem jbS:∀(f g:Nat) (l:List UInt8),l.length<=f->l.length<=g->YF f l=YF g l
 | 0,0,_,_,_=>rfl
 | 0,g+1,l,h,_=>by
  obtain rfl:l=[]:=List.eq_nil_of_length_eq_zero (by omega);rw [YF,YF,if_pos rfl]
 | f+1,0,l,_,h=>by
  obtain rfl:l=[]:=List.eq_nil_of_length_eq_zero (by omega);rw [YF,YF,if_pos rfl]
 | f+1,g+1,l,h1,h2=>by
  rw [YF,YF]
  by_cases h:l=[]
  ·rw [if_pos h,if_pos h]
  ·rw [if_neg h,if_neg h]
   have:=(jN h).1;have h3:(l.drop (jB l).2).length=l.length - (jB l).2:=List.length_drop;rw [jbS f g _ (by omega) (by omega)]
theorem zx {l:List UInt8}(h:l≠[]):qK l=((jB l).1,l.take (jB l).2) :: qK (l.drop (jB l).2):=by
 have hl:=List.length_pos_iff.2 h;obtain⟨n,hn⟩:∃n,l.length=n+1:=⟨l.length - 1,by omega⟩
 unfold qK;rw [hn,YF,if_neg h];have:=(jN h).1;have h3:(l.drop (jB l).2).length=l.length - (jB l).2:=List.length_drop;rw [jbS n _ _ (by omega) (Nat.le_refl _)]
theorem jj4 {a b:List UInt8}{k:Nat}(ha:a≠[])(h:jB (a++b)=(k,a.length)):qK (a++b)=(k,a) :: qK b:=by
 rw [zx (by simp [ha]),h];simp
theorem jkc (s:ByteArray)(a b:Nat):(s.extract a b).data.toList=(s.data.toList.drop a).take (b - a):=by
 rw [ByteArray.data_extract,Array.toList_extract]
def QW (L:List UInt8)(t:Tk):qy:=(t.kind,(L.drop t.fro).take (t.til - t.fro))
theorem jd6 (L:List UInt8):∀(n p:Nat) (l:List UInt8),l.length<=n->L.drop p=l->qK l=(J5 p l).map (QW L)
 | 0,p,l,h,_=>by
  obtain rfl:l=[]:=List.eq_nil_of_length_eq_zero (by omega);rfl
 | n+1,p,l,h,hd=>by
  by_cases h0:l=[]
  ·subst h0
   rfl
  ·have hz:=(jN h0).1
   have h3:(l.drop (jB l).2).length=l.length - (jB l).2:=List.length_drop;rw [zx h0,toks.zm h0,List.map_cons,jd6 L n (p+(jB l).2) _ (by omega) (by rw [<-hd,List.drop_drop])]
   congr 1
   unfold QW;simp only;rw [hd]
   congr 2
   omega
theorem ja8 (L:List UInt8):qK L=(jv L).map (QW L):=jd6 L L.length 0 L (Nat.le_refl _) rfl
theorem jcE (s:ByteArray)(j:Nat)(hj:j<(jv s.data.toList).length):JJ s (jv s.data.toList) j=QW s.data.toList (jv s.data.toList)[j]:=by
 unfold JJ QW;rw [dif_pos hj,jkc]
theorem QA (L:List UInt8)(ct:Nat->qy):∀(l:List Tk) (i:Nat),(∀(j:Nat) (h:j<l.length),ct (i+j)=QW L l[j])->zh ct (zA L i l)=(l.map (QW L)).filter jct
 | [],i,_=>rfl
 | t :: l,i,h=>by
  have ih:=QA L ct l (i+1) (fun j hj=>by
   have:=h (j+1) (by simpa using hj);rw [List.getElem_cons_succ] at this;rw [<-this]
   congr 1
   omega)
  have h0:=h 0 (by simp);rw [List.getElem_cons_zero,Nat.add_zero] at h0;rw [List.map_cons]
  by_cases hk:3<t.kind
  ·rw [trees.Jd hk,JA,ih,List.filter_cons_of_pos (by exact decide_eq_true hk)]
   rw [h0]
  ·rw [trees.Xp hk,ih,List.filter_cons_of_neg (by show ¬decide (3<t.kind)=true;rw [decide_eq_true_iff];exact hk)]
theorem jgu (s:ByteArray):zh (JJ s (jv s.data.toList)) (q7 s.data.toList)=jcc s.data.toList:=by
 unfold jcc q7;rw [ja8];exact QA _ _ _ 0 (fun j hj=>by rw [Nat.zero_add];exact jcE s j hj)
theorem jet {l:List UInt8}{n:Nat}(h:jB l=(6,n)):n=1/\∃c r,l=c :: r/\isM c=true:=by
 cases l with
 | nil=>simp [jB] at h
 | cons c t=>
  have hm:=trees.jbR h;refine⟨?_,c,t,rfl,hm⟩
  have hb:isB c=false:=by
   unfold isM at hm;simp only [Bool.or_eq_true,beq_iff_eq] at hm
   rcases hm with ((((((h | h) | h) | h) | h) | h) | h)<;>(rw [show c=_ from h];decide)
  unfold jB at h;simp only at h;rw [if_neg (by rw [hb];decide)] at h;split at h
  ·simp at h
  ·split at h
   ·simp at h
   ·split at h
    ·simp at h
    ·split at h
     ·injection h with _ h
      exact h.symm
     ·rename_i h2
      exact absurd hm h2
theorem jbI (s:ByteArray):∀x∈q7 s.data.toList,Fits (JJ s (jv s.data.toList)) x:=by
 intro x hx;obtain⟨_,h1,h2,h3⟩:=trees.jeG s.data.toList (jv s.data.toList) 0 x hx;simp only [Nat.sub_zero] at h1 h2 h3;obtain⟨_,a2,a3,a4,_,_,a7,_⟩:=toks.jb9 x.2 0 s.data.toList (jv s.data.toList)[x.2] (List.getElem?_eq_getElem h1);rw [Nat.sub_zero] at a4;have hc:=jcE s x.2 h1;generalize (jv s.data.toList)[x.2]=t at *
 have hm:t.kind=6->∃c,isM c=true/\(s.data.toList.drop t.fro).take (t.til - t.fro)=[c]/\s.data.toList.getD t.fro 0=c:=fun h6=>by
  rw [h6] at a4;obtain⟨e1,c,r,e2,e3⟩:=jet a4;refine⟨c,e3,by rw [e2,e1];rfl,?_⟩;have:(s.data.toList.drop t.fro)[0]?=some c:=by rw [e2];rfl
  rw [List.getElem?_drop,Nat.add_zero] at this;rw [List.getD_eq_getElem?_getD,this];rfl
 refine⟨?_,fun m hm1 hm2=>?_⟩
 ·rw [hc,h3]
  unfold QW J3;simp only
  by_cases h6:t.kind=6
  ·obtain⟨c,q1,_,q3⟩:=hm h6
   rw [if_pos h6,q3]
   constructor
   ·intro e
    exact absurd e (trees.jfO q1).1
   ·intro e
    omega
  ·rw [if_neg h6]
   by_cases h7:t.kind=7
   ·rw [if_pos h7]
    constructor
    ·intro e
     exact absurd e (by decide)
    ·intro e
     omega
   ·rw [if_neg h7]
    constructor
    ·intro _
     omega
    ·intro _
     rfl
 ·rw [hc,h3]
  unfold QW J3
  by_cases h6:t.kind=6
  ·obtain⟨c,q1,q2,q3⟩:=hm h6
   rw [if_pos h6,q3,q2,h6]
   constructor
   ·intro e
    rw [e]
   ·intro e
    injection e with _ e;injection e with e _
  ·rw [if_neg h6]
   constructor
   ·intro e
    split at e
    ·exact absurd e.symm hm2
    ·exact absurd e.symm hm1
   ·intro e
    injection e with e _;exact absurd e h6
theorem Z9 {s:ByteArray}{N:Nat}(hN:N=(jv s.data.toList).length):∀(f:Nat) (t:trees.T) (x:V⊕(Int×Int)),Xx N f t->∀g,(qt (zY s (jv s.data.toList)) (J8 s (jv s.data.toList)) g t x↔qt (Ja (JJ s (jv s.data.toList)) (Xf (jv s.data.toList))) (zD (JJ s (jv s.data.toList)) (Xf (jv s.data.toList))) g t x)
 | 0,_,_,h,_=>h.elim
 | f+1,t,x,hF,0=>Iff.rfl
 | f+1,t,x,hF,g+1=>by
  obtain⟨k,a,e,l,rfl,_,hF⟩:=hF;have ih:=Z9 hN f
  have inj:∀{k' a' e':Nat} {l':List trees.T},trees.nd k a e l=trees.nd k' a' e' l'->k'=k/\a'=a/\l'=l:=fun h=>by
   obtain⟨h1,h2,_,h4⟩:=trees.qh h;exact⟨h1.symm,h2.symm,h4.symm⟩
  have tabs:∀(l:List trees.T) (acc:List V),(∀y∈l,∃ek ea ee kk ka ke v,y=trees.nd ek ea ee [trees.nd kk ka ke [],v]/\ka<N/\Xx N f v)->(Jt (zY s (jv s.data.toList)) (qt (zY s (jv s.data.toList)) (J8 s (jv s.data.toList)) g) l acc x↔Jt (Ja (JJ s (jv s.data.toList)) (Xf (jv s.data.toList))) (qt (Ja (JJ s (jv s.data.toList)) (Xf (jv s.data.toList))) (zD (JJ s (jv s.data.toList)) (Xf (jv s.data.toList))) g) l acc x):=by
   intro l
   induction l with
   | nil=>exact fun _ _=>Iff.rfl
   | cons y l il=>
    intro acc hy;obtain⟨ek,ea,ee,kk,ka,ke,v,e1,e2,e3⟩:=hy y (List.mem_cons_self ..);have il':=fun acc=>il acc (fun z hz=>hy z (List.mem_cons_of_mem _ hz))
    have hka:ka<(jv s.data.toList).length:=by rw [<-hN];exact e2
    constructor
    ·rintro⟨ek',ea',ee',kk',ka',ke',v',q,h⟩
     rw [e1] at q;obtain⟨_,_,_,q2⟩:=trees.qh q;injection q2 with q3 q4;injection q4 with q4 _;obtain⟨_,rfl,_,_⟩:=trees.qh q3;subst q4;refine⟨ek,ea,ee,kk,ka,ke,v,e1,?_⟩
     rcases h with ⟨key,h1,h2⟩ | ⟨pq,h1,h2⟩
     ·refine .inl ⟨key,(JB hka).1 h1,?_⟩
      rcases h2 with ⟨z,h3,h4⟩ | ⟨pq,h3,h4⟩
      ·exact .inl ⟨z,(ih v _ e3 g).1 h3,(il' _).1 h4⟩
      ·exact .inr ⟨pq,(ih v _ e3 g).1 h3,h4⟩
     ·exact .inr ⟨pq,(JB hka).1 h1,h2⟩
    ·rintro⟨ek',ea',ee',kk',ka',ke',v',q,h⟩
     rw [e1] at q;obtain⟨_,_,_,q2⟩:=trees.qh q;injection q2 with q3 q4;injection q4 with q4 _;obtain⟨_,rfl,_,_⟩:=trees.qh q3;subst q4;refine⟨ek,ea,ee,kk,ka,ke,v,e1,?_⟩
     rcases h with ⟨key,h1,h2⟩ | ⟨pq,h1,h2⟩
     ·refine .inl ⟨key,(JB hka).2 h1,?_⟩
      rcases h2 with ⟨z,h3,h4⟩ | ⟨pq,h3,h4⟩
      ·exact .inl ⟨z,(ih v _ e3 g).2 h3,(il' _).2 h4⟩
      ·exact .inr ⟨pq,(ih v _ e3 g).2 h3,h4⟩
     ·exact .inr ⟨pq,(JB hka).2 h1,h2⟩
  constructor
  ·rintro⟨k',a',e',l',q,h⟩
   obtain⟨rfl,rfl,rfl⟩:=inj q;refine⟨_,_,_,_,rfl,?_⟩
   rcases hF with ⟨rfl,ha⟩ | ⟨rfl,hk⟩ | ⟨rfl,hk⟩
   ·rcases h with ⟨h1,_⟩ | ⟨h1,_⟩ | ⟨h1,h2,h3⟩
    ·omega
    ·omega
    ·exact .inr (.inr ⟨h1,h2,(QQ (by rw [<-hN];exact ha)).1 h3⟩)
   ·rcases h with ⟨h1,_⟩ | ⟨_,h2⟩ | ⟨_,h2,_⟩
    ·omega
    ·exact .inr (.inl ⟨rfl,Qb _ _ _ (fun t ht x=>(ih t x (hk t ht) g).1) h2⟩)
    ·omega
   ·rcases h with ⟨_,h2⟩ | ⟨h1,_⟩ | ⟨h1,_⟩
    ·exact .inl ⟨rfl,(tabs _ _ hk).1 h2⟩
    ·omega
    ·omega
  ·rintro⟨k',a',e',l',q,h⟩
   obtain⟨rfl,rfl,rfl⟩:=inj q;refine⟨_,_,_,_,rfl,?_⟩
   rcases hF with ⟨rfl,ha⟩ | ⟨rfl,hk⟩ | ⟨rfl,hk⟩
   ·rcases h with ⟨h1,_⟩ | ⟨h1,_⟩ | ⟨h1,h2,h3⟩
    ·omega
    ·omega
    ·exact .inr (.inr ⟨h1,h2,(QQ (by rw [<-hN];exact ha)).2 h3⟩)
   ·rcases h with ⟨h1,_⟩ | ⟨_,h2⟩ | ⟨_,h2,_⟩
    ·omega
    ·exact .inr (.inl ⟨rfl,Qb _ _ _ (fun t ht x=>(ih t x (hk t ht) g).2) h2⟩)
    ·omega
   ·rcases h with ⟨_,h2⟩ | ⟨h1,_⟩ | ⟨h1,_⟩
    ·exact .inl ⟨rfl,(tabs _ _ hk).2 h2⟩
    ·omega
    ·omega
open toks (jB jN jk jt jF isB isW isM noL)
theorem zQ (p:UInt8->Bool):∀(l x:List UInt8),jF p l<l.length->jF p (l++x)=jF p l
 | [],x,h=>by simp at h
 | c :: l,x,h=>by
  rw [List.cons_append]
  by_cases hc:p c=true
  ·have e:∀y,jF p (c :: y)=jF p y+1:=fun y=>by rw [jF,if_pos hc]
   rw [e] at h;rw [e,e,zQ p l x (by simp only [List.length_cons] at h;omega)]
  ·have e:∀y,jF p (c :: y)=0:=fun y=>by rw [jF,if_neg hc]
   rw [e,e]
theorem Ya (p:UInt8->Bool):∀(l x:List UInt8),(∀c∈l,p c=true)->jF p (l++x)=l.length+jF p x
 | [],x,_=>by simp
 | c :: l,x,h=>by
  rw [List.cons_append,jF,if_pos (h c (by simp)),Ya p l x (fun d hd=>h d (by simp [hd])),List.length_cons];omega
theorem Yj (p:UInt8->Bool):∀(l:List UInt8),jF p l=l.length->∀c∈l,p c=true
 | [],_,c,h=>by simp at h
 | d :: l,h,c,hc=>by
  by_cases hd:p d=true
  ·rw [jF,if_pos hd,List.length_cons] at h
   rcases List.mem_cons.1 hc with rfl | hc
   ·exact hd
   ·exact Yj p l (by omega) c hc
  ·rw [jF,if_neg hd,List.length_cons] at h
   omega
theorem Qq (p:UInt8->Bool)(c:UInt8)(x:List UInt8)(h:p c=false):jF p (c :: x)=0:=by rw [jF,if_neg (by rw [h];decide)]
theorem Ye:∀(l x:List UInt8),jt l≠0->jt (l++x)=jt l
 | [],_,h=>absurd rfl h
 | [_],_,h=>absurd rfl h
 | a :: b :: l,x,h=>by
  have ih:=Ye (b :: l) x;rw [List.cons_append,List.cons_append];rw [List.cons_append] at ih
  by_cases hc:a=42/\b=47
  ·rw [jt,jt,if_pos hc,if_pos hc]
  ·rw [jt,if_neg hc] at h
   rw [jt,jt,if_neg hc,if_neg hc]
   by_cases h0:jt (b :: l)=0
   ·rw [if_pos h0] at h
    exact absurd rfl h
   ·rw [ih h0]
theorem Xv:∀(n:Nat) (l x:List UInt8),l.length<=n->jk l≠0->jk (l++x)=jk l
 | 0,l,x,hn,h=>by
  obtain rfl:l=[]:=List.eq_nil_of_length_eq_zero (by omega);exact absurd rfl h
 | n+1,[],x,_,h=>absurd rfl h
 | n+1,[c],x,_,h=>by
  have e:jk [c]=if c=34 then 1 else 0:=rfl
  rw [e] at h
  by_cases hc:c=34
  ·rw [e,if_pos hc]
   cases x with
   | nil=>rw [List.append_nil,e,if_pos hc]
   | cons d y=>rw [List.cons_append,List.nil_append,jk,if_pos hc]
  ·rw [if_neg hc] at h
   exact absurd rfl h
 | n+1,c :: d :: l,x,hn,h=>by
  have ih1:=Xv n l x (by simp only [List.length_cons] at hn;omega);have ih2:=Xv n (d :: l) x (by simp only [List.length_cons] at hn ⊢;omega);rw [List.cons_append,List.cons_append];rw [List.cons_append] at ih2;rw [jk] at h;rw [jk,jk]
  by_cases c1:c=34
  ·rw [if_pos c1,if_pos c1]
  ·rw [if_neg c1] at h
   rw [if_neg c1,if_neg c1]
   by_cases c2:c=10
   ·rw [if_pos c2] at h
    exact absurd rfl h
   ·rw [if_neg c2] at h
    rw [if_neg c2,if_neg c2]
    by_cases c3:c=92
    ·rw [if_pos c3] at h
     rw [if_pos c3,if_pos c3]
     by_cases c4:d=10
     ·rw [if_pos c4] at h
      exact absurd rfl h
     ·rw [if_neg c4] at h
      rw [if_neg c4,if_neg c4]
      by_cases c5:jk l=0
      ·rw [if_pos c5] at h
       exact absurd rfl h
      ·rw [ih1 c5]
    ·rw [if_neg c3] at h
     rw [if_neg c3,if_neg c3]
     by_cases c5:jk (d :: l)=0
     ·rw [if_pos c5] at h
      exact absurd rfl h
     ·rw [ih2 c5]
theorem jiS {a x:List UInt8}(ha:a≠[])(h7:(jB a).1≠7) :
  jB (a++x)=jB a\/((jB a).2=a.length/\(((jB a).1=1/\jB (a++x)=(1,a.length+jF isB x))\/((jB a).1=4/\jB (a++x)=(4,a.length+jF isW x))\/((jB a).1=3/\a.head?=some 35/\(∀c∈a,noL c=true)/\jB (a++x)=(3,a.length+jF noL x)))):=by
 match a,ha with
 | c :: t,_=>
  have el:∀p:UInt8->Bool,jF p (c :: t)<=(c :: t).length:=fun p=>toks.QK p _
  rw [List.cons_append];unfold jB at h7 ⊢;simp only at h7 ⊢
  by_cases a1:isB c=true
  ·rw [if_pos a1] at h7
   rw [if_pos a1,if_pos a1]
   by_cases hl:jF isB (c :: t)<(c :: t).length
   ·exact .inl (by rw [<-List.cons_append,zQ isB _ x hl])
   ·have e:jF isB (c :: t)=(c :: t).length:=by have:=el isB;omega
    exact .inr ⟨e,.inl ⟨rfl,by rw [<-List.cons_append,Ya isB _ x (Yj isB _ e)]⟩⟩
  ·rw [if_neg a1] at h7
   rw [if_neg a1,if_neg a1]
   by_cases a2:c=10
   ·exact .inl (by rw [if_pos a2,if_pos a2])
   ·rw [if_neg a2] at h7
    rw [if_neg a2,if_neg a2]
    by_cases a3:c=35
    ·rw [if_pos a3,if_pos a3]
     by_cases hl:jF noL (c :: t)<(c :: t).length
     ·exact .inl (by rw [<-List.cons_append,zQ noL _ x hl])
     ·have e:jF noL (c :: t)=(c :: t).length:=by have:=el noL;omega
      exact .inr ⟨e,.inr (.inr ⟨rfl,by rw [a3];rfl,Yj noL _ e,by rw [<-List.cons_append,Ya noL _ x (Yj noL _ e)]⟩)⟩
    ·rw [if_neg a3] at h7
     rw [if_neg a3,if_neg a3]
     by_cases a4:isW c=true
     ·rw [if_pos a4,if_pos a4]
      by_cases hl:jF isW (c :: t)<(c :: t).length
      ·exact .inl (by rw [<-List.cons_append,zQ isW _ x hl])
      ·have e:jF isW (c :: t)=(c :: t).length:=by have:=el isW;omega
       exact .inr ⟨e,.inr (.inl ⟨rfl,by rw [<-List.cons_append,Ya isW _ x (Yj isW _ e)]⟩)⟩
     ·rw [if_neg a4] at h7
      rw [if_neg a4,if_neg a4]
      by_cases a5:isM c=true
      ·exact .inl (by rw [if_pos a5,if_pos a5])
      ·rw [if_neg a5] at h7
       rw [if_neg a5,if_neg a5]
       by_cases a6:c=34/\jk t≠0
       ·have e:=Xv t.length t x (Nat.le_refl _) a6.2
        exact .inl (by rw [if_pos a6,e,if_pos a6])
       ·rw [if_neg a6] at h7
        rw [if_neg a6]
        by_cases a7:c=47/\t.head?=some 42/\jt (t.drop 1)≠0
        ·obtain⟨b1,b2,b3⟩:=a7
         have n6:¬(c=34/\jk (t++x)≠0):=fun h=>by rw [b1] at h;exact absurd h.1 (by decide)
         cases t with
         | nil=>simp at b2
         | cons d t=>
          have e:=Ye t x (by simpa using b3);have q1:c=47/\(d :: t++x).head?=some 42/\jt ((d :: t++x).drop 1)≠0:=⟨b1,by simpa using b2,by show jt (t++x)≠0;rw [e];exact b3⟩
          have q2:c=47/\(d :: t).head?=some 42/\jt ((d :: t).drop 1)≠0:=⟨b1,b2,b3⟩
          refine .inl ?_
          rw [if_neg n6,if_pos q1,if_pos q2]
          show(3,jt (t++x)+2)=(3,jt t+2)
          rw [e]
        ·rw [if_neg a7] at h7
         exact absurd rfl h7
def jkS (a:List UInt8):Prop:=∀t∈qK a,t.1≠7
end valus
end Go.Proofs.YtnbfnjhbmeocfaaGreatDoor
