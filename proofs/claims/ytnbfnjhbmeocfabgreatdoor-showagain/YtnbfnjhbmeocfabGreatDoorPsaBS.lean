/- Of our texts, what this claim reaches. -/
import Derived.Test.YtnbfnjhbmeocfabGreatDoorPsaBP
import Derived.Test.YtnbfnjhbmeocfabGreatDoorPsaAA
import Derived.Test.YtnbfnjhbmeocfabGreatDoorPsaBR
set_option linter.unusedVariables false
namespace Go.Proofs.YtnbfnjhbmeocfabGreatDoor
namespace valus
open trees (Sym Jp Qf QZ)
open toks (Tk jE jF Xn qo jp jw jZ isB isW isM noL)
def jbD:Nat->List UInt8->List zg
 | 0,_=>[]
 | f+1,l=>if l=[] then [] else ((jE l).1,l.take (jE l).2) :: jbD f (l.drop (jE l).2)
def jke (l:List UInt8):List zg:=jbD l.length l
def jpg (t:zg):Bool:=decide (3<t.1)
def jL (l:List UInt8):List zg:=(jke l).filter jpg
theorem jdp:∀(f g:Nat) (l:List UInt8),l.length<=f->l.length<=g->jbD f l=jbD g l
 | 0,0,_,_,_=>rfl
 | 0,g+1,l,h,_=>by
  obtain rfl:l=[]:=List.eq_nil_of_length_eq_zero (by omega);rw [jbD,jbD,if_pos rfl]
 | f+1,0,l,_,h=>by
  obtain rfl:l=[]:=List.eq_nil_of_length_eq_zero (by omega);rw [jbD,jbD,if_pos rfl]
 | f+1,g+1,l,h1,h2=>by
  rw [jbD,jbD]
  by_cases h:l=[]
  ·rw [if_pos h,if_pos h]
  ·rw [if_neg h,if_neg h]
   have:=(qo h).1;have h3:(l.drop (jE l).2).length=l.length - (jE l).2:=List.length_drop;rw [jdp f g _ (by omega) (by omega)]
theorem jgx {l:List UInt8}(h:l≠[]):jke l=((jE l).1,l.take (jE l).2) :: jke (l.drop (jE l).2):=by
 have hl:=List.length_pos_iff.2 h;obtain⟨n,hn⟩:∃n,l.length=n+1:=⟨l.length - 1,by omega⟩
 unfold jke;rw [hn,jbD,if_neg h];have:=(qo h).1;have h3:(l.drop (jE l).2).length=l.length - (jE l).2:=List.length_drop;rw [jdp n _ _ (by omega) (Nat.le_refl _)]
theorem jom (s:ByteArray)(a b:Nat):(s.extract a b).data.toList=(s.data.toList.drop a).take (b - a):=by
 rw [ByteArray.data_extract,Array.toList_extract]
def XD (L:List UInt8)(t:Tk):zg:=(t.kind,(L.drop t.fro).take (t.til - t.fro))
theorem jfH (L:List UInt8):∀(n p:Nat) (l:List UInt8),l.length<=n->L.drop p=l->jke l=(Xn p l).map (XD L)
 | 0,p,l,h,_=>by
  obtain rfl:l=[]:=List.eq_nil_of_length_eq_zero (by omega);rfl
 | n+1,p,l,h,hd=>by
  by_cases h0:l=[]
  ·subst h0
   rfl
  ·have hz:=(qo h0).1
   have h3:(l.drop (jE l).2).length=l.length - (jE l).2:=List.length_drop;rw [jgx h0,toks.Jz h0,List.map_cons,jfH L n (p+(jE l).2) _ (by omega) (by rw [<-hd,List.drop_drop])]
   congr 1
   unfold XD;simp only;rw [hd]
   congr 2
   omega
theorem jkI (L:List UInt8):jke L=(jF L).map (XD L):=jfH L L.length 0 L (Nat.le_refl _) rfl
theorem jiz (s:ByteArray)(j:Nat)(hj:j<(jF s.data.toList).length):YB s (jF s.data.toList) j=XD s.data.toList (jF s.data.toList)[j]:=by
 unfold YB XD;rw [dif_pos hj,jom]
theorem jdb (L:List UInt8)(ct:Nat->zg):∀(l:List Tk) (i:Nat),(∀(j:Nat) (h:j<l.length),ct (i+j)=XD L l[j])->Jv ct (Qf L i l)=(l.map (XD L)).filter jpg
 | [],i,_=>rfl
 | t :: l,i,h=>by
  have ih:=jdb L ct l (i+1) (fun j hj=>by
   have:=h (j+1) (by simpa using hj);rw [List.getElem_cons_succ] at this;rw [<-this]
   congr 1
   omega)
  have h0:=h 0 (by simp);rw [List.getElem_cons_zero,Nat.add_zero] at h0;rw [List.map_cons]
  by_cases hk:3<t.kind
  ·rw [trees.XN hk,Qu,ih,List.filter_cons_of_pos (by exact decide_eq_true hk)]
   rw [h0]
  ·rw [trees.jeH hk,ih,List.filter_cons_of_neg (by show ¬decide (3<t.kind)=true;rw [decide_eq_true_iff];exact hk)]
theorem jdq (s:ByteArray):Jv (YB s (jF s.data.toList)) (Jp s.data.toList)=jL s.data.toList:=by
 unfold jL Jp;rw [jkI];exact jdb _ _ _ 0 (fun j hj=>by rw [Nat.zero_add];exact jiz s j hj)
theorem jhG {l:List UInt8}{n:Nat}(h:jE l=(6,n)):n=1/\∃c r,l=c :: r/\isM c=true:=by
 cases l with
 | nil=>simp [jE] at h
 | cons c t=>
  have hm:=trees.jdE h;refine⟨?_,c,t,rfl,hm⟩
  have hb:isB c=false:=by
   unfold isM at hm;simp only [Bool.or_eq_true,beq_iff_eq] at hm
   rcases hm with ((((((h | h) | h) | h) | h) | h) | h)<;>(rw [show c=_ from h];decide)
  unfold jE at h;simp only at h;rw [if_neg (by rw [hb];decide)] at h;split at h
  ·simp at h
  ·split at h
   ·simp at h
   ·split at h
    ·simp at h
    ·split at h
     ·injection h with _ h
      exact h.symm
     ·rename_i h2
      exact absurd hm h2
theorem jda (s:ByteArray):∀x∈Jp s.data.toList,Fits (YB s (jF s.data.toList)) x:=by
 intro x hx;obtain⟨_,h1,h2,h3⟩:=trees.Xk s.data.toList (jF s.data.toList) 0 x hx;simp only [Nat.sub_zero] at h1 h2 h3;obtain⟨_,a2,a3,a4,_,_,a7,_⟩:=toks.jee x.2 0 s.data.toList (jF s.data.toList)[x.2] (List.getElem?_eq_getElem h1);rw [Nat.sub_zero] at a4;have hc:=jiz s x.2 h1;generalize (jF s.data.toList)[x.2]=t at *
 have hm:t.kind=6->∃c,isM c=true/\(s.data.toList.drop t.fro).take (t.til - t.fro)=[c]/\s.data.toList.getD t.fro 0=c:=fun h6=>by
  rw [h6] at a4;obtain⟨e1,c,r,e2,e3⟩:=jhG a4;refine⟨c,e3,by rw [e2,e1];rfl,?_⟩;have:(s.data.toList.drop t.fro)[0]?=some c:=by rw [e2];rfl
  rw [List.getElem?_drop,Nat.add_zero] at this;rw [List.getD_eq_getElem?_getD,this];rfl
 refine⟨?_,fun m hm1 hm2=>?_⟩
 ·rw [hc,h3]
  unfold XD QZ;simp only
  by_cases h6:t.kind=6
  ·obtain⟨c,q1,_,q3⟩:=hm h6
   rw [if_pos h6,q3]
   constructor
   ·intro e
    exact absurd e (trees.jiS q1).1
   ·intro e
    omega
  ·rw [if_neg h6]
   by_cases h7:t.kind=7
   ·rw [if_pos h7]
    constructor
    ·intro e
     exact absurd e (by decide)
    ·intro e
     omega
   ·rw [if_neg h7]
    constructor
    ·intro _
     omega
    ·intro _
     rfl
 ·rw [hc,h3]
  unfold XD QZ
  by_cases h6:t.kind=6
  ·obtain⟨c,q1,q2,q3⟩:=hm h6
   rw [if_pos h6,q3,q2,h6]
   constructor
   ·intro e
    rw [e]
   ·intro e
    injection e with _ e;injection e with e _
  ·rw [if_neg h6]
   constructor
   ·intro e
    split at e
    ·exact absurd e.symm hm2
    ·exact absurd e.symm hm1
   ·intro e
    injection e with e _;exact absurd e h6
theorem YC {s:ByteArray}{N:Nat}(hN:N=(jF s.data.toList).length):∀(f:Nat) (t:trees.T) (x:V⊕(Int×Int)),jan N f t->∀g,(qU (JH s (jF s.data.toList)) (Zv s (jF s.data.toList)) g t x↔qU (QF (YB s (jF s.data.toList)) (jco (jF s.data.toList))) (JK (YB s (jF s.data.toList)) (jco (jF s.data.toList))) g t x)
 | 0,_,_,h,_=>h.elim
 | f+1,t,x,hF,0=>Iff.rfl
 | f+1,t,x,hF,g+1=>by
  obtain⟨k,a,e,l,rfl,_,hF⟩:=hF;have ih:=YC hN f
  have inj:∀{k' a' e':Nat} {l':List trees.T},trees.nd k a e l=trees.nd k' a' e' l'->k'=k/\a'=a/\l'=l:=fun h=>by
   obtain⟨h1,h2,_,h4⟩:=trees.qM h;exact⟨h1.symm,h2.symm,h4.symm⟩
  have tabs:∀(l:List trees.T) (acc:List V),(∀y∈l,∃ek ea ee kk ka ke v,y=trees.nd ek ea ee [trees.nd kk ka ke [],v]/\ka<N/\jan N f v)->(Qq (JH s (jF s.data.toList)) (qU (JH s (jF s.data.toList)) (Zv s (jF s.data.toList)) g) l acc x↔Qq (QF (YB s (jF s.data.toList)) (jco (jF s.data.toList))) (qU (QF (YB s (jF s.data.toList)) (jco (jF s.data.toList))) (JK (YB s (jF s.data.toList)) (jco (jF s.data.toList))) g) l acc x):=by
   intro l
   induction l with
   | nil=>exact fun _ _=>Iff.rfl
   | cons y l il=>
    intro acc hy;obtain⟨ek,ea,ee,kk,ka,ke,v,e1,e2,e3⟩:=hy y (List.mem_cons_self ..);have il':=fun acc=>il acc (fun z hz=>hy z (List.mem_cons_of_mem _ hz))
    have hka:ka<(jF s.data.toList).length:=by rw [<-hN];exact e2
    constructor
    ·rintro⟨ek',ea',ee',kk',ka',ke',v',q,h⟩
     rw [e1] at q;obtain⟨_,_,_,q2⟩:=trees.qM q;injection q2 with q3 q4;injection q4 with q4 _;obtain⟨_,rfl,_,_⟩:=trees.qM q3;subst q4;refine⟨ek,ea,ee,kk,ka,ke,v,e1,?_⟩
     rcases h with ⟨key,h1,h2⟩ | ⟨pq,h1,h2⟩
     ·refine .inl ⟨key,(Qo hka).1 h1,?_⟩
      rcases h2 with ⟨z,h3,h4⟩ | ⟨pq,h3,h4⟩
      ·exact .inl ⟨z,(ih v _ e3 g).1 h3,(il' _).1 h4⟩
      ·exact .inr ⟨pq,(ih v _ e3 g).1 h3,h4⟩
     ·exact .inr ⟨pq,(Qo hka).1 h1,h2⟩
    ·rintro⟨ek',ea',ee',kk',ka',ke',v',q,h⟩
     rw [e1] at q;obtain⟨_,_,_,q2⟩:=trees.qM q;injection q2 with q3 q4;injection q4 with q4 _;obtain⟨_,rfl,_,_⟩:=trees.qM q3;subst q4;refine⟨ek,ea,ee,kk,ka,ke,v,e1,?_⟩
     rcases h with ⟨key,h1,h2⟩ | ⟨pq,h1,h2⟩
     ·refine .inl ⟨key,(Qo hka).2 h1,?_⟩
      rcases h2 with ⟨z,h3,h4⟩ | ⟨pq,h3,h4⟩
      ·exact .inl ⟨z,(ih v _ e3 g).2 h3,(il' _).2 h4⟩
      ·exact .inr ⟨pq,(ih v _ e3 g).2 h3,h4⟩
     ·exact .inr ⟨pq,(Qo hka).2 h1,h2⟩
  constructor
  ·rintro⟨k',a',e',l',q,h⟩
   obtain⟨rfl,rfl,rfl⟩:=inj q;refine⟨_,_,_,_,rfl,?_⟩
   rcases hF with ⟨rfl,ha⟩ | ⟨rfl,hk⟩ | ⟨rfl,hk⟩
   ·rcases h with ⟨h1,_⟩ | ⟨h1,_⟩ | ⟨h1,h2,h3⟩
    ·omega
    ·omega
    ·exact .inr (.inr ⟨h1,h2,(ZQ (by rw [<-hN];exact ha)).1 h3⟩)
   ·rcases h with ⟨h1,_⟩ | ⟨_,h2⟩ | ⟨_,h2,_⟩
    ·omega
    ·exact .inr (.inl ⟨rfl,Zb _ _ _ (fun t ht x=>(ih t x (hk t ht) g).1) h2⟩)
    ·omega
   ·rcases h with ⟨_,h2⟩ | ⟨h1,_⟩ | ⟨h1,_⟩
    ·exact .inl ⟨rfl,(tabs _ _ hk).1 h2⟩
    ·omega
    ·omega
  ·rintro⟨k',a',e',l',q,h⟩
   obtain⟨rfl,rfl,rfl⟩:=inj q;refine⟨_,_,_,_,rfl,?_⟩
   rcases hF with ⟨rfl,ha⟩ | ⟨rfl,hk⟩ | ⟨rfl,hk⟩
   ·rcases h with ⟨h1,_⟩ | ⟨h1,_⟩ | ⟨h1,h2,h3⟩
    ·omega
    ·omega
    ·exact .inr (.inr ⟨h1,h2,(ZQ (by rw [<-hN];exact ha)).2 h3⟩)
   ·rcases h with ⟨h1,_⟩ | ⟨_,h2⟩ | ⟨_,h2,_⟩
    ·omega
    ·exact .inr (.inl ⟨rfl,Zb _ _ _ (fun t ht x=>(ih t x (hk t ht) g).2) h2⟩)
    ·omega
   ·rcases h with ⟨_,h2⟩ | ⟨h1,_⟩ | ⟨h1,_⟩
    ·exact .inl ⟨rfl,(tabs _ _ hk).2 h2⟩
    ·omega
    ·omega
open toks (jE qo jp jw jZ isB isW isM noL)
theorem jiE (p:UInt8->Bool):∀(l x:List UInt8),(∀c∈l,p c=true)->jZ p (l++x)=l.length+jZ p x
 | [],x,_=>by simp
 | c :: l,x,h=>by
  rw [List.cons_append,jZ,if_pos (h c (by simp)),jiE p l x (fun d hd=>h d (by simp [hd])),List.length_cons];omega
theorem XK (p:UInt8->Bool)(c:UInt8)(x:List UInt8)(h:p c=false):jZ p (c :: x)=0:=by rw [jZ,if_neg (by rw [h];decide)]
theorem Zq {l:List UInt8}(h:l≠[]):jL l=(if 3<(jE l).1 then [((jE l).1,l.take (jE l).2)] else [])++jL (l.drop (jE l).2):=by
 unfold jL;rw [jgx h]
 by_cases hk:3<(jE l).1
 ·rw [if_pos hk,List.filter_cons_of_pos (by exact decide_eq_true hk)]
  rfl
 ·rw [if_neg hk,List.filter_cons_of_neg (by show ¬decide (3<(jE l).1)=true;rw [decide_eq_true_iff];exact hk)]
  rfl
theorem jh5 {c:UInt8}{x:List UInt8}(h:isB c=true):jE (c :: x)=(1,jZ isB (c :: x)):=by
 unfold jE;simp only;rw [if_pos h]
theorem jbC (x:List UInt8):jL (x.drop (jZ isB x))=jL x:=by
 cases x with
 | nil=>rfl
 | cons c x=>
  by_cases h:isB c=true
  ·have e:=jh5 (x:=x) h
   rw [Zq (l:=c :: x) (by simp),e];simp
  ·rw [XK isB c x (by simpa using h)]
   rfl
end valus
end Go.Proofs.YtnbfnjhbmeocfabGreatDoor
