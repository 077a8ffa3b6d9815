/- Of our texts, what this claim reaches. -/
import GoSem.ClaimWide
set_option linter.unusedVariables false
namespace Go.Proofs.YtnbfnjhbmeocfaaGreatDoor
namespace valus
structure IsOrd {α:Type} (P:α->Prop) (c:α->α->Ordering):Prop where
 swap:∀a b,P a->P b->c b a=(c a b).swap
 same:∀a b,P a->P b->(c a b=.eq↔a=b)
 trans:∀a b d,P a->P b->P d->c a b=.lt->c b d=.lt->c a d=.lt
theorem IsOrd.refl {α:Type}{P:α->Prop}{c:α->α->Ordering}(h:IsOrd P c){a:α}(ha:P a):c a a=.eq:=(h.same a a ha ha).2 rfl
theorem IsOrd.mono {α:Type}{P Q:α->Prop}{c:α->α->Ordering}(h:IsOrd P c)(hq:∀a,Q a->P a):IsOrd Q c :=
 ⟨fun a b ha hb=>h.swap a b (hq a ha) (hq b hb),fun a b ha hb=>h.same a b (hq a ha) (hq b hb),fun a b d ha hb hd=>h.trans a b d (hq a ha) (hq b hb) (hq d hd)⟩
def QT (a b:Int):Ordering:=if a<b then .lt else if a=b then .eq else .gt
theorem jdx:IsOrd (fun _=>True) QT:=by
 refine⟨fun a b _ _=>?_,fun a b _ _=>?_,fun a b d _ _ _ h1 h2=>?_⟩
 ·unfold QT
  by_cases h1:a<b
  ·rw [if_pos h1,if_neg (by omega),if_neg (by omega)];rfl
  ·by_cases h2:a=b
   ·rw [if_neg h1,if_pos h2,if_neg (by omega),if_pos h2.symm];rfl
   ·rw [if_neg h1,if_neg h2,if_pos (by omega)];rfl
 ·unfold QT
  by_cases h1:a<b
  ·rw [if_pos h1]
   exact⟨fun h=>(by cases h),fun h=>(by omega)⟩
  ·by_cases h2:a=b
   ·rw [if_neg h1,if_pos h2]
    exact⟨fun _=>h2,fun _=>rfl⟩
   ·rw [if_neg h1,if_neg h2]
    exact⟨fun h=>(by cases h),fun h=>absurd h h2⟩
 ·have e:∀x y,QT x y=.lt->x<y:=fun x y h=>by
   unfold QT at h
   by_cases h1:x<y
   ·exact h1
   ·by_cases h2:x=y
    ·rw [if_neg h1,if_pos h2] at h;cases h
    ·rw [if_neg h1,if_neg h2] at h;cases h
  unfold QT;rw [if_pos (Int.lt_trans (e _ _ h1) (e _ _ h2))]
theorem IsOrd.key {α β:Type}{P:β->Prop}{Q:α->Prop}{c:β->β->Ordering}(h:IsOrd P c)(f:α->β)(hp:∀a,Q a->P (f a))(hi:∀a b,Q a->Q b->f a=f b->a=b):IsOrd Q (fun a b=>c (f a) (f b)) :=
 ⟨fun a b ha hb=>h.swap _ _ (hp a ha) (hp b hb),fun a b ha hb=>⟨fun e=>hi a b ha hb ((h.same _ _ (hp a ha) (hp b hb)).1 e),fun e=>by subst e;exact h.refl (hp a ha)⟩,fun a b d ha hb hd=>h.trans _ _ _ (hp a ha) (hp b hb) (hp d hd)⟩
def Jy (x y:Ordering):Ordering:=match x with | .eq=>y | _=>x
theorem YJ {x y:Ordering}(h:Jy x y=.lt):x=.lt\/(x=.eq/\y=.lt):=by
 cases x with
 | lt=>exact .inl rfl
 | eq=>exact .inr ⟨rfl,h⟩
 | gt=>cases h
theorem jid {x y:Ordering}:Jy x y=.eq↔x=.eq/\y=.eq:=by
 cases x with
 | lt=>exact⟨fun h=>(by cases h),fun h=>(by cases h.1)⟩
 | eq=>exact⟨fun h=>⟨rfl,h⟩,fun h=>h.2⟩
 | gt=>exact⟨fun h=>(by cases h),fun h=>(by cases h.1)⟩
theorem jfw (x y:Ordering):(Jy x y).swap=Jy x.swap y.swap:=by cases x<;>rfl
def cmpL {α:Type}(c:α->α->Ordering):List α->List α->Ordering
 | [],[]=>.eq
 | [],_ :: _=>.lt
 | _ :: _,[]=>.gt
 | x :: r,y :: t=>Jy (c x y) (cmpL c r t)
theorem IsOrd.list {α:Type}{P:α->Prop}{c:α->α->Ordering}(h:IsOrd P c):IsOrd (fun l:List α=>∀x∈l,P x) (cmpL c):=by
 have sw:∀a b:List α,(∀x∈a,P x)->(∀x∈b,P x)->cmpL c b a=(cmpL c a b).swap:=by
  intro a
  induction a with
  | nil=>intro b _ _;cases b<;>rfl
  | cons x r ih=>
   intro b ha hb;cases b with
   | nil=>rfl
   | cons y t=>
    show Jy _ _=(Jy _ _).swap
    rw [jfw,h.swap x y (ha x (by simp)) (hb y (by simp)),ih t (fun z hz=>ha z (by simp [hz])) (fun z hz=>hb z (by simp [hz]))]
 have sm:∀a b:List α,(∀x∈a,P x)->(∀x∈b,P x)->(cmpL c a b=.eq↔a=b):=by
  intro a
  induction a with
  | nil=>
   intro b _ _;cases b with
   | nil=>exact⟨fun _=>rfl,fun _=>rfl⟩
   | cons y t=>exact⟨fun h=>(by cases h),fun h=>(by cases h)⟩
  | cons x r ih=>
   intro b ha hb;cases b with
   | nil=>exact⟨fun h=>(by cases h),fun h=>(by cases h)⟩
   | cons y t=>
    show Jy _ _=.eq↔_
    rw [jid,h.same x y (ha x (by simp)) (hb y (by simp)),ih t (fun z hz=>ha z (by simp [hz])) (fun z hz=>hb z (by simp [hz]))];exact⟨fun e=>by rw [e.1,e.2],fun e=>by injection e with e1 e2;exact⟨e1,e2⟩⟩
 refine⟨sw,sm,?_⟩;intro a
 induction a with
 | nil=>
  intro b d _ _ _ h1 h2;cases b with
  | nil=>cases h1
  | cons y t=>
   cases d with
   | nil=>cases h2
   | cons z u=>rfl
 | cons x r ih=>
  intro b d ha hb hd h1 h2;cases b with
  | nil=>cases h1
  | cons y t=>
   cases d with
   | nil=>cases h2
   | cons z u=>
    have hx:=ha x (by simp);have hy:=hb y (by simp);have hz:=hd z (by simp)
    show Jy _ _=.lt
    rcases YJ h1 with a1 | ⟨a1,b1⟩
    ·rcases YJ h2 with a2 | ⟨a2,b2⟩
     ·rw [h.trans x y z hx hy hz a1 a2];rfl
     ·have e:=(h.same y z hy hz).1 a2
      rw [<-e,a1];rfl
    ·have e:=(h.same x y hx hy).1 a1
     rcases YJ h2 with a2 | ⟨a2,b2⟩
     ·rw [e,a2];rfl
     ·rw [e,a2]
      exact ih t u (fun z hz=>ha z (by simp [hz])) (fun z hz=>hb z (by simp [hz])) (fun z hz=>hd z (by simp [hz])) b1 b2
def jlE (x:Ordering):Int:=match x with | .lt=>-1 | .eq=>0 | .gt=>1
def zT:List UInt8->List UInt8->Ordering:=cmpL (fun a b=>QT (a.toNat:Int) (b.toNat:Int))
theorem zt:IsOrd (fun _=>True) zT:=by
 have h:IsOrd (fun _:UInt8=>True) (fun a b=>QT (a.toNat:Int) (b.toNat:Int)):=jdx.key (fun a:UInt8=>(a.toNat:Int)) (fun _ _=>trivial) (fun a b _ _ e=>UInt8.toNat_inj.1 (by omega));exact h.list.mono (fun _ _ x _=>trivial)
abbrev Lab:=Int×Int×Nat×List UInt8
abbrev V:=DataW Lab
def mkV (x:Lab)(L E:List V):V:=.slice L (.held x :: E)
def ent (k:List UInt8)(v:V):V:=mkV (0,0,0,k) [v] []
def opn:V->Lab×List V×List V
 | .slice L (.held x :: E)=>(x,L,E)
 | _=>((0,0,0,[]),[],[])
theorem jad (x:Lab)(L E:List V):opn (mkV x L E)=(x,L,E):=rfl
def zf (e:V):List UInt8×V:=((opn e).1.2.2.2,(opn e).2.1.headD .nil)
theorem ZT (k:List UInt8)(v:V):zf (ent k v)=(k,v):=rfl
theorem jbZ {x y:Lab}{L M E F:List V}(h:mkV x L E=mkV y M F):x=y/\L=M/\E=F:=by
 have e:=congrArg opn h;rw [jad,jad] at e;injection e with e1 e2;injection e2 with e3 e4;exact⟨e1,e3,e4⟩
theorem jkl {k m:List UInt8}{v u:V}(h:ent k v=ent m u):k=m/\v=u:=by
 have e:=congrArg zf h;rw [ZT,ZT] at e;injection e with e1 e2;exact⟨e1,e2⟩
def IsV:Nat->V->Prop
 | 0,_=>False
 | n+1,v=>∃x L E,v=mkV x L E/\x.2.2.1<18446744073709551616/\(∀y∈L,IsV n y)/\∀e∈E,∃k y,e=ent k y/\IsV n y
def IsE (n:Nat)(e:V):Prop:=∃k y,e=ent k y/\IsV n y
theorem IsV.mk {n:Nat}{x:Lab}{L E:List V}:IsV (n+1) (mkV x L E)↔x.2.2.1<18446744073709551616/\(∀y∈L,IsV n y)/\∀e∈E,IsE n e:=by
 constructor
 ·rintro⟨x',L',E',h,a,b,c⟩
  obtain⟨h1,h2,h3⟩:=jbZ h;subst h1;subst h2;subst h3;exact⟨a,b,c⟩
 ·rintro⟨a,b,c⟩
  exact⟨x,L,E,rfl,a,b,c⟩
def parts (v:V):List V:=(opn v).2.1++(opn v).2.2.map (fun e=>(zf e).2)
theorem JH (x:Lab)(L E:List V):parts (mkV x L E)=L++E.map (fun e=>(zf e).2):=rfl
theorem IsV.part {n:Nat}{v y:V}(h:IsV (n+1) v)(hy:y∈parts v):IsV n y:=by
 obtain⟨x,L,E,rfl,a,b,c⟩:=h;rw [JH,List.mem_append,List.mem_map] at hy
 rcases hy with hy | ⟨e,he,rfl⟩
 ·exact b y hy
 ·obtain⟨k,z,rfl,hz⟩:=c e he
  exact hz
def maxOf (q:V->Nat):List V->Nat
 | []=>0
 | x :: r=>max (q x) (maxOf q r)
def qf (q:V->Nat):List V->Nat
 | []=>0
 | x :: r=>q x+qf q r
theorem jbY (q:V->Nat):∀l m:List V,maxOf q (l++m)=max (maxOf q l) (maxOf q m)
 | [],m=>by show maxOf q m=max 0 _;omega
 | x :: r,m=>by
  show max _ (maxOf q (r++m))=max (max _ _) _
  rw [jbY q r m];omega
theorem ZA (q:V->Nat):∀l m:List V,qf q (l++m)=qf q l+qf q m
 | [],m=>by show qf q m=0+_;omega
 | x :: r,m=>by
  show _+qf q (r++m)=_+_+_
  rw [ZA q r m];omega
theorem XL {p q:V->Nat}:∀{l:List V},(∀x∈l,p x=q x)->maxOf p l=maxOf q l
 | [],_=>rfl
 | x :: r,h=>by
  show max _ _=max _ _
  rw [h x (by simp),XL (fun y hy=>h y (by simp [hy]))]
theorem XE {p q:V->Nat}:∀{l:List V},(∀x∈l,p x=q x)->qf p l=qf q l
 | [],_=>rfl
 | x :: r,h=>by
  show _+_=_+_
  rw [h x (by simp),XE (fun y hy=>h y (by simp [hy]))]
theorem jdm {q:V->Nat}:∀{l:List V} {x:V},x∈l->q x<=maxOf q l
 | y :: r,x,h=>by
  show _<=max _ _
  rcases List.mem_cons.1 h with rfl | h
  ·omega
  ·have:=jdm (q:=q) h
   omega
theorem Yy {q:V->Nat}{b:Nat}:∀{l:List V},(∀x∈l,q x<=b)->maxOf q l<=b
 | [],_=>Nat.zero_le _
 | x :: r,h=>by
  show max _ _<=b
  have h1:=h x (by simp);have h2:=Yy (q:=q) (b:=b) (l:=r) (fun y hy=>h y (by simp [hy]));omega
theorem jaj {p q:V->Nat}:∀{l:List V},(∀x∈l,p x<=q x)->maxOf p l<=qf q l
 | [],_=>Nat.le_refl _
 | x :: r,h=>by
  show max _ _<=_+_
  have h1:=h x (by simp);have h2:=jaj (p:=p) (q:=q) (l:=r) (fun y hy=>h y (by simp [hy]));omega
def jO:Nat->V->Nat
 | 0,_=>0
 | n+1,v=>maxOf (jO n) (parts v)+1
def jP:Nat->V->Nat
 | 0,_=>0
 | n+1,v=>qf (jP n) (parts v)+1
theorem XC:∀{n:Nat} {v:V},IsV n v->jO (n+1) v=jO n v
 | 0,_,h=>h.elim
 | n+1,v,h=>by
  show maxOf (jO (n+1)) _+1=maxOf (jO n) _+1
  rw [XL (fun x hx=>XC (h.part hx))]
theorem XG:∀{n:Nat} {v:V},IsV n v->jP (n+1) v=jP n v
 | 0,_,h=>h.elim
 | n+1,v,h=>by
  show qf (jP (n+1)) _+1=qf (jP n) _+1
  rw [XE (fun x hx=>XG (h.part hx))]
theorem jd2:∀{n:Nat} {v:V},jO n v<=n
 | 0,_=>Nat.le_refl _
 | n+1,v=>Nat.succ_le_succ (Yy (fun x _=>jd2))
theorem Qj:∀{n:Nat} {v:V},jO n v<=jP n v
 | 0,_=>Nat.le_refl _
 | n+1,v=>Nat.succ_le_succ (jaj (fun x _=>Qj))
theorem jhd {n:Nat}{v:V}(h:IsV n v):1<=jO n v:=by
 cases n with
 | zero=>exact h.elim
 | succ n=>exact Nat.succ_le_succ (Nat.zero_le _)
def chk (one:V->Int):Nat->List (V×Nat)->Int
 | _,[]=>0
 | 0,_ :: _=>2
 | f+1,(v,d) :: r=>if 20<=d then 5 else if one v=0 then chk one f ((parts v).map (fun y=>(y,d+1))++r) else one v
def Qk (q:Nat->V->Int⊕Nat):Nat->List V->Int⊕Nat
 | f,[]=>.inr f
 | f,x :: r=>match q f x with
  | .inl e=>.inl e
  | .inr g=>Qk q g r
def Qa (one:V->Int):Nat->Nat->V->Int⊕Nat
 | _,0,_=>.inl 2
 | 0,_+1,_=>.inl 5
 | l+1,f+1,v=>if one v=0 then Qk (Qa one l) f (parts v) else .inl (one v)
def fin (s:Int⊕Nat)(k:Nat->Int):Int:=match s with | .inl e=>e | .inr g=>k g
theorem jdH {one:V->Int}{l:Nat}(h:∀v f r,chk one f ((v,20 - l) :: r)=fin (Qa one l f v) (fun g=>chk one g r)):∀(ps:List V) (f:Nat) (r:List (V×Nat)),chk one f (ps.map (fun y=>(y,20 - l))++r)=fin (Qk (Qa one l) f ps) (fun g=>chk one g r)
 | [],f,r=>rfl
 | x :: ps,f,r=>by
  rw [List.map_cons,List.cons_append,h]
  show _=fin (match Qa one l f x with | .inl e=>.inl e | .inr g=>Qk (Qa one l) g ps) _
  cases Qa one l f x with
  | inl e=>rfl
  | inr g=>exact jdH h ps g r
theorem jfB (one:V->Int):∀(l:Nat),l<=20->∀v f r,chk one f ((v,20 - l) :: r)=fin (Qa one l f v) (fun g=>chk one g r)
 | l,_,v,0,r=>by cases l<;>rfl
 | 0,_,v,f+1,r=>rfl
 | l+1,hl,v,f+1,r=>by
  have ih:=jdH (jfB one l (by omega)) (parts v) f r
  show(if 20<=20 - (l+1) then 5 else if one v=0 then _ else one v)=fin (if one v=0 then _ else _) _
  rw [if_neg (by omega)]
  by_cases h0:one v=0
  ·rw [if_pos h0,if_pos h0,<-ih]
   have e:20 - (l+1)+1=20 - l:=by omega
   rw [e]
  ·rw [if_neg h0,if_neg h0]
   rfl
def jU (one:V->Int)(v:V):Int:=chk one 2000 [(v,0)]
theorem jfc (one:V->Int)(v:V):jU one v=fin (Qa one 20 2000 v) (fun _=>0):=by
 refine(jfB one 20 (Nat.le_refl _) v 2000 []).trans ?_
 cases Qa one 20 2000 v with
 | inl e=>rfl
 | inr g=>cases g<;>rfl
end valus
namespace bigs
def jlt:Nat->Nat->List Nat
 | 0,_=>[]
 | f+1,n=>if n=0 then [] else n % 10000 :: jlt f (n / 10000)
def dig (n:Nat):List Nat:=jlt n n
theorem jg6 (l:List Nat)(k:Nat)(h:k<l.length):l.take (k+1)=l.take k++[l.getD k 0]:=by
 rw [List.take_succ_eq_append_getElem h];simp [List.getD,List.getElem?_eq_getElem h]
end bigs
namespace toks
def isB (c:UInt8):Bool:=c == 32 || c == 9 || c == 13
def isW (c:UInt8):Bool:=decide ((97<=c.toNat/\c.toNat<=122)\/(65<=c.toNat/\c.toNat<=90)\/(48<=c.toNat/\c.toNat<=57)\/c.toNat=95\/c.toNat=45\/c.toNat=43\/c.toNat=46)
def isM (c:UInt8):Bool:=c == 123 || c == 125 || c == 91 || c == 93 || c == 58 || c == 61 || c == 44
def noL (c:UInt8):Bool:=c != 10
def jF (p:UInt8->Bool):List UInt8->Nat
 | []=>0
 | c :: l=>if p c=true then jF p l+1 else 0
def jt:List UInt8->Nat
 | []=>0
 | [_]=>0
 | a :: b :: l=>if a=42/\b=47 then 2 else if jt (b :: l)=0 then 0 else jt (b :: l)+1
def jk:List UInt8->Nat
 | []=>0
 | [c]=>if c=34 then 1 else 0
 | c :: d :: l=>if c=34 then 1 else if c=10 then 0 else if c=92 then (if d=10 then 0 else if jk l=0 then 0 else jk l+2) else if jk (d :: l)=0 then 0 else jk (d :: l)+1
def jB (l:List UInt8):Nat×Nat :=
 match l with
 | []=>(0,0)
 | c :: t=>
  if isB c=true then (1,jF isB (c :: t))
  else if c=10 then (2,1)
  else if c=35 then (3,jF noL (c :: t))
  else if isW c=true then (4,jF isW (c :: t))
  else if isM c=true then (6,1)
  else if c=34/\jk t≠0 then (5,jk t+1)
  else if c=47/\t.head?=some 42/\jt (t.drop 1)≠0 then (3,jt (t.drop 1)+2)
  else (7,1)
structure Tk where
 kind:Nat
 fro:Nat
 til:Nat
def Yb:Nat->Nat->List UInt8->List Tk
 | 0,_,_=>[]
 | f+1,p,l=>if l=[] then [] else ⟨(jB l).1,p,p+(jB l).2⟩ :: Yb f (p+(jB l).2) (l.drop (jB l).2)
def jv (l:List UInt8):List Tk:=Yb l.length 0 l
theorem QK (p:UInt8->Bool):∀l:List UInt8,jF p l<=l.length
 | []=>Nat.le_refl _
 | c :: l=>by
  have:=QK p l;unfold jF;split
  ·simp only [List.length_cons];omega
  ·exact Nat.zero_le _
theorem QM (p:UInt8->Bool):∀(l:List UInt8) (m:Nat),jF p l<=m->jF p (l.take m)=jF p l
 | [],m,_=>by simp
 | c :: l,0,h=>by
  unfold jF at h ⊢;split at h
  ·omega
  ·rename_i hc;simp [hc]
 | c :: l,m+1,h=>by
  rw [List.take_succ_cons]
  by_cases hc:p c=true
  ·have e:∀x,jF p (c :: x)=jF p x+1:=fun x=>by rw [jF,if_pos hc]
   rw [e] at h;rw [e,e,QM p l m (by omega)]
  ·have e:∀x,jF p (c :: x)=0:=fun x=>by rw [jF,if_neg hc]
   rw [e,e]
theorem Xe:∀l:List UInt8,jt l<=l.length
 | []=>Nat.le_refl _
 | [_]=>Nat.zero_le _
 | a :: b :: l=>by
  have:=Xe (b :: l);unfold jt;simp only [List.length_cons] at this ⊢;split
  ·omega
  ·split
   ·omega
   ·omega
theorem Qc:∀(l:List UInt8) (m:Nat),(jt l<=m->jt l≠0->jt (l.take m)=jt l)/\(jt l=0->jt (l.take m)=0)
 | [],m=>by simp [jt]
 | [a],m=>by
  have:jt ([a].take m)=0:=by cases m<;>simp [jt]
  simp [jt,this]
 | a :: b :: l,0=>by
  refine⟨fun h h0=>?_,fun _=>by simp [jt]⟩;omega
 | a :: b :: l,1=>by
  refine⟨fun h h0=>?_,fun _=>by simp [jt]⟩;unfold jt at h h0;split at h
  ·omega
  ·rename_i hc
   rw [if_neg hc] at h0;split at h
   ·rename_i h1;rw [if_pos h1] at h0;exact absurd rfl h0
   ·omega
 | a :: b :: l,m+2=>by
  have ih:=Qc (b :: l) (m+1);rw [List.take_succ_cons] at ih;rw [List.take_succ_cons,List.take_succ_cons]
  by_cases hc:a=42/\b=47
  ·have e:∀x,jt (a :: b :: x)=2:=fun x=>by rw [jt,if_pos hc]
   rw [e,e];exact⟨fun _ _=>rfl,fun h=>by omega⟩
  ·have e:∀x,jt (a :: b :: x)=if jt (b :: x)=0 then 0 else jt (b :: x)+1:=fun x=>by rw [jt,if_neg hc]
   rw [e,e]
   by_cases h0:jt (b :: l)=0
   ·rw [if_pos h0,if_pos (ih.2 h0)]
    exact⟨fun _ h=>absurd rfl h,fun _=>rfl⟩
   ·rw [if_neg h0]
    refine⟨fun h _=>?_,fun h=>by omega⟩;rw [ih.1 (by omega) h0,if_neg h0]
theorem YY:∀l:List UInt8,jk l<=l.length
 | []=>Nat.le_refl _
 | [c]=>by unfold jk;split<;>simp
 | c :: d :: l=>by
  have h1:=YY l;have h2:=YY (d :: l);unfold jk;simp only [List.length_cons] at h2 ⊢;split
  ·omega
  ·split
   ·omega
   ·split
    ·split
     ·omega
     ·split<;>omega
    ·split<;>omega
theorem Zc:∀(l:List UInt8) (m:Nat),(jk l<=m->jk l≠0->jk (l.take m)=jk l)/\(jk l=0->jk (l.take m)=0)
 | [],m=>by simp [jk]
 | [c],0=>by
  refine⟨fun h h0=>by omega,fun _=>rfl⟩
 | [c],m+1=>by simp
 | c :: d :: l,0=>by
  refine⟨fun h h0=>by omega,fun _=>rfl⟩
 | c :: d :: l,1=>by
  rw [show(c :: d :: l).take 1=[c] from rfl];have e1:jk [c]=if c=34 then 1 else 0:=rfl
  by_cases c34:c=34
  ·have e:jk (c :: d :: l)=1:=by rw [jk,if_pos c34]
   rw [e,e1,if_pos c34];exact⟨fun _ _=>rfl,fun h=>by omega⟩
  ·rw [e1,if_neg c34]
   refine⟨fun h h0=>?_,fun _=>rfl⟩
   exfalso
   rw [jk,if_neg c34] at h h0;split at h
   ·rename_i h1;rw [if_pos h1] at h0;exact h0 rfl
   ·rename_i h1
    rw [if_neg h1] at h0;split at h
    ·rename_i h2
     rw [if_pos h2] at h0;split at h
     ·rename_i h3;rw [if_pos h3] at h0;exact h0 rfl
     ·rename_i h3
      rw [if_neg h3] at h0;split at h
      ·rename_i h4;rw [if_pos h4] at h0;exact h0 rfl
      ·omega
    ·rename_i h2
     rw [if_neg h2] at h0;split at h
     ·rename_i h4;rw [if_pos h4] at h0;exact h0 rfl
     ·omega
 | c :: d :: l,m+2=>by
  have ih1:=Zc l m;have ih2:=Zc (d :: l) (m+1);rw [List.take_succ_cons] at ih2;rw [List.take_succ_cons,List.take_succ_cons]
  by_cases c34:c=34
  ·have e:∀x,jk (c :: d :: x)=1:=fun x=>by rw [jk,if_pos c34]
   rw [e,e];exact⟨fun _ _=>rfl,fun h=>by omega⟩
  ·by_cases c10:c=10
   ·have e:∀x,jk (c :: d :: x)=0:=fun x=>by rw [jk,if_neg c34,if_pos c10]
    rw [e,e];exact⟨fun _ _=>rfl,fun _=>rfl⟩
   ·by_cases c92:c=92
    ·by_cases d10:d=10
     ·have e:∀x,jk (c :: d :: x)=0:=fun x=>by rw [jk,if_neg c34,if_neg c10,if_pos c92,if_pos d10]
      rw [e,e];exact⟨fun _ _=>rfl,fun _=>rfl⟩
     ·have e:∀x,jk (c :: d :: x)=if jk x=0 then 0 else jk x+2:=fun x=>by rw [jk,if_neg c34,if_neg c10,if_pos c92,if_neg d10]
      rw [e,e]
      by_cases h0:jk l=0
      ·rw [if_pos h0,if_pos (ih1.2 h0)]
       exact⟨fun _ _=>rfl,fun _=>rfl⟩
      ·rw [if_neg h0]
       refine⟨fun h _=>?_,fun h=>by omega⟩;rw [ih1.1 (by omega) h0,if_neg h0]
    ·have e:∀x,jk (c :: d :: x)=if jk (d :: x)=0 then 0 else jk (d :: x)+1:=fun x=>by rw [jk,if_neg c34,if_neg c10,if_neg c92]
     rw [e,e]
     by_cases h0:jk (d :: l)=0
     ·rw [if_pos h0,if_pos (ih2.2 h0)]
      exact⟨fun _ _=>rfl,fun _=>rfl⟩
     ·rw [if_neg h0]
      refine⟨fun h _=>?_,fun h=>by omega⟩;rw [ih2.1 (by omega) h0,if_neg h0]
theorem Qg {p:UInt8->Bool}{c:UInt8}{t:List UInt8}(h:p c=true):jF p (c :: t)=jF p t+1:=by rw [jF,if_pos h]
theorem jN {l:List UInt8}(h:l≠[]):1<=(jB l).2/\(jB l).2<=l.length/\1<=(jB l).1/\(jB l).1<=7:=by
 match l,h with
 | c :: t,_=>
  have r1:=QK isB (c :: t);have r2:=QK noL (c :: t);have r3:=QK isW (c :: t);have s1:=YY t;have s2:=Xe (t.drop 1);rw [List.length_drop] at s2;simp only [List.length_cons] at r1 r2 r3 ⊢;unfold jB;simp only;split
  ·rename_i hc;rw [Qg hc] at r1 ⊢;simp only;omega
  ·split
   ·simp only;omega
   ·split
    ·rename_i hc
     have:noL c=true:=by rw [hc];rfl
     rw [Qg this] at r2 ⊢;simp only;omega
    ·split
     ·rename_i hc;rw [Qg hc] at r3 ⊢;simp only;omega
     ·split
      ·simp only;omega
      ·split
       ·simp only;omega
       ·split
        ·rename_i hc
         have:t≠[]:=fun e=>by rw [e] at hc;simp at hc
         have:=List.length_pos_iff.2 this;simp only;omega
        ·simp only;omega
theorem jhn {l:List UInt8}{m:Nat}(hm:(jB l).2<=m)(h1:1<=m):jB (l.take m)=jB l:=by
 match l with
 | []=>simp
 | c :: t=>
  obtain⟨k,rfl⟩:∃k,m=k+1:=⟨m - 1,by omega⟩
  have ec:(c :: t).take (k+1)=c :: t.take k:=List.take_succ_cons;rw [ec];unfold jB at hm ⊢;simp only at hm ⊢
  by_cases a1:isB c=true
  ·rw [if_pos a1] at hm
   rw [if_pos a1,if_pos a1,<-ec,QM isB _ _ hm]
  ·rw [if_neg a1] at hm
   rw [if_neg a1,if_neg a1]
   by_cases a2:c=10
   ·rw [if_pos a2,if_pos a2]
   ·rw [if_neg a2] at hm
    rw [if_neg a2,if_neg a2]
    by_cases a3:c=35
    ·rw [if_pos a3] at hm
     rw [if_pos a3,if_pos a3,<-ec,QM noL _ _ hm]
    ·rw [if_neg a3] at hm
     rw [if_neg a3,if_neg a3]
     by_cases a4:isW c=true
     ·rw [if_pos a4] at hm
      rw [if_pos a4,if_pos a4,<-ec,QM isW _ _ hm]
     ·rw [if_neg a4] at hm
      rw [if_neg a4,if_neg a4]
      by_cases a5:isM c=true
      ·rw [if_pos a5,if_pos a5]
      ·rw [if_neg a5] at hm
       rw [if_neg a5,if_neg a5];have st:=Zc t k
       by_cases a6:c=34/\jk t≠0
       ·rw [if_pos a6] at hm
        simp only at hm;have e:=st.1 (by omega) a6.2;rw [if_pos a6,e,if_pos a6]
       ·rw [if_neg a6] at hm
        have a6':¬(c=34/\jk (t.take k)≠0):=fun h=>a6 ⟨h.1,fun e=>h.2 (st.2 e)⟩
        rw [if_neg a6,if_neg a6']
        by_cases a7:c=47/\t.head?=some 42/\jt (t.drop 1)≠0
        ·rw [if_pos a7] at hm
         simp only at hm;obtain⟨j,rfl⟩:∃j,k=j+1:=⟨k - 1,by omega⟩
         have ct:=Qc (t.drop 1) j;have e:=ct.1 (by omega) a7.2.2;have ed:(t.take (j+1)).drop 1=(t.drop 1).take j:=by rw [List.drop_take];rfl
         have eh:(t.take (j+1)).head?=t.head?:=by cases t<;>rfl
         rw [if_pos a7,ed,eh,e,if_pos a7]
        ·have a7':¬(c=47/\(t.take k).head?=some 42/\jt ((t.take k).drop 1)≠0):=fun h=>a7 (by
          obtain⟨q1,q2,q3⟩:=h;cases k with
          | zero=>simp at q2
          | succ j=>
           have ed:(t.take (j+1)).drop 1=(t.drop 1).take j:=by rw [List.drop_take];rfl
           have eh:(t.take (j+1)).head?=t.head?:=by cases t<;>rfl
           rw [eh] at q2;rw [ed] at q3;exact⟨q1,q2,fun e=>q3 ((Qc (t.drop 1) j).2 e)⟩)
         rw [if_neg a7,if_neg a7']
end toks
namespace valus
theorem jgE {q p:Nat->V->Int⊕Nat}{k:Nat}(h:∀x f g,q f x=.inr g->p (f+k) x=.inr (g+k)):∀{ps:List V} {f g:Nat},Qk q f ps=.inr g->Qk p (f+k) ps=.inr (g+k)
 | [],f,g,e=>by
  injection e with e;rw [<-e];rfl
 | x :: ps,f,g,e=>by
  show(match p (f+k) x with | .inl e=>Sum.inl e | .inr g=>Qk p g ps)=_
  cases hx:q f x with
  | inl z=>
   have e':(match q f x with | .inl e=>Sum.inl e | .inr g=>Qk q g ps)=.inr g:=e;rw [hx] at e';cases e'
  | inr z=>
   have e':(match q f x with | .inl e=>Sum.inl e | .inr g=>Qk q g ps)=.inr g:=e;rw [hx] at e';rw [h x f z hx];exact jgE h e'
theorem Yl {q:Nat->V->Int⊕Nat}{c d:V->Nat}{b:Nat}:∀{ps:List V} {f g:Nat},(∀x∈ps,∀f g,q f x=.inr g->f=g+c x/\d x<=b)->Qk q f ps=.inr g->f=g+qf c ps/\∀x∈ps,d x<=b
 | [],f,g,h,e=>by
  injection e with e;exact⟨e,fun x hx=>by cases hx⟩
 | x :: ps,f,g,h,e=>by
  have e':(match q f x with | .inl e=>Sum.inl e | .inr g=>Qk q g ps)=.inr g:=e;cases hx:q f x with
  | inl z=>
   rw [hx] at e';cases e'
  | inr z=>
   rw [hx] at e';obtain⟨a1,a2⟩:=h x (by simp) f z hx;obtain⟨b1,b2⟩:=Yl (ps:=ps) (fun y hy=>h y (by simp [hy])) e';refine⟨?_,fun y hy=>?_⟩
   ·show f=g+(c x+qf c ps)
    omega
   ·rcases List.mem_cons.1 hy with rfl | hy
    ·exact a2
    ·exact b2 y hy
theorem YP (one:V->Int):∀(l n:Nat) (v:V) (f g:Nat),IsV n v->Qa one l f v=.inr g->f=g+jP n v/\jO n v<=l
 | l,_,v,0,g,_,e=>by cases l<;>cases e
 | 0,_,v,f+1,g,_,e=>by cases e
 | l+1,0,v,f+1,g,h,e=>h.elim
 | l+1,n+1,v,f+1,g,h,e=>by
  have e':(if one v=0 then Qk (Qa one l) f (parts v) else .inl (one v))=.inr g:=e
  by_cases h0:one v=0
  ·rw [if_pos h0] at e'
   obtain⟨a,b⟩:=Yl (c:=jP n) (d:=jO n) (b:=l) (fun x hx f g hg=>YP one l n x f g (h.part hx) hg) e';refine⟨?_,Nat.succ_le_succ (Yy b)⟩
   show f+1=g+(qf (jP n) (parts v)+1)
   omega
  ·rw [if_neg h0] at e'
   cases e'
theorem jfM {q:Nat->V->Int⊕Nat}(h:∀x f,q f x≠.inl 0):∀{ps:List V} {f:Nat},Qk q f ps≠.inl 0
 | [],f=>fun e=>by cases e
 | x :: ps,f=>by
  show(match q f x with | .inl e=>Sum.inl e | .inr g=>Qk q g ps)≠_
  cases hx:q f x with
  | inl z=>
   intro e;injection e with e;rw [e] at hx;exact h x f hx
  | inr z=>exact jfM h
theorem jfG (one:V->Int):∀(l:Nat) (v:V) (f:Nat),Qa one l f v≠.inl 0
 | l,v,0=>fun e=>by cases l<;>cases e
 | 0,v,f+1=>fun e=>by cases e
 | l+1,v,f+1=>by
  show(if one v=0 then Qk (Qa one l) f (parts v) else .inl (one v))≠_
  by_cases h0:one v=0
  ·rw [if_pos h0]
   exact jfM (jfG one l)
  ·rw [if_neg h0]
   intro e;injection e with e;exact h0 e
theorem Zf {one:V->Int}{v:V}:jU one v=0↔∃g,Qa one 20 2000 v=.inr g:=by
 rw [jfc];cases h:Qa one 20 2000 v with
 | inl e=>
  constructor
  ·intro e0
   have e1:e=0:=e0;rw [e1] at h;exact absurd h (jfG one 20 v 2000)
  ·rintro⟨g,hg⟩
   cases hg
 | inr g=>exact⟨fun _=>⟨g,rfl⟩,fun _=>rfl⟩
theorem J0 {one:V->Int}{n:Nat}{v:V}(hv:IsV n v)(h:jU one v=0):jO n v<=20/\jP n v<=2000:=by
 obtain⟨g,hg⟩:=Zf.1 h;obtain⟨a,b⟩:=YP one 20 n v 2000 g hv hg;exact⟨b,by omega⟩
theorem Yx {one:V->Int}{v:V}(h:jU one v=0):one v=0:=by
 obtain⟨g,hg⟩:=Zf.1 h;have e':(if one v=0 then Qk (Qa one 19) 1999 (parts v) else .inl (one v))=.inr g:=hg
 by_cases h0:one v=0
 ·exact h0
 ·rw [if_neg h0] at e'
  cases e'
end valus
namespace trees
abbrev T:=DataW (Nat×Nat×Nat)
def nd (k a e:Nat)(l:List T):T:=.slice l [.held (k,a,e)]
theorem qh {k a e k' a' e':Nat}{l l':List T}(h:nd k a e l=nd k' a' e' l'):k=k'/\a=a'/\e=e'/\l=l':=by
 unfold nd at h;injection h with h1 h2;injection h2 with h3 _;injection h3 with h4;injection h4 with h5 h6;injection h6 with h7 h8;exact⟨h5,h7,h8,h1⟩
def J7:T->Nat
 | .slice _ [.held (_,_,e)]=>e
 | _=>0
abbrev Sym:=UInt8×Nat
abbrev R:=(Nat×List Sym)⊕(T×List Sym)
def qF (q:List Sym->R):List Sym->R
 | []=>.inl (4,[])
 | x :: r=>
  if x.1=120 then
   match r with
   | []=>.inl (4,[])
   | m :: r1=>
    if m.1=58\/m.1=61 then
     match q r1 with
     | .inl e=>.inl e
     | .inr (v,r2)=>.inr (nd 4 x.2 (J7 v) [nd 2 x.2 (x.2+1) [],v],r2)
    else .inl (4,m :: r1)
  else .inl (4,x :: r)
def jE (q:List Sym->R)(ec:UInt8)(kind i:Nat):Nat->List T->List Sym->R
 | 0,_,ts=>.inl (4,ts)
 | _+1,_,[]=>.inl (4,[])
 | f+1,acc,x :: r=>
  if x.1=ec then .inr (nd kind i (x.2+1) acc,r)
  else
   match q (x :: r) with
   | .inl e=>.inl e
   | .inr (_,[])=>.inl (4,[])
   | .inr (t,y :: r2)=>
    if y.1=44 then jE q ec kind i f (acc++[t]) r2
    else if y.1=ec then .inr (nd kind i (y.2+1) (acc++[t]),r2)
    else .inl (4,y :: r2)
def pv:Nat->List Sym->R
 | _,[]=>.inl (4,[])
 | 0,x :: r=>if x.1=120\/x.1=123\/x.1=91 then .inl (5,x :: r) else .inl (4,x :: r)
 | lv+1,x :: r=>
  if x.1=120 then .inr (nd 1 x.2 (x.2+1) [],r)
  else if x.1=123 then jE (qF (pv lv)) 125 3 x.2 (r.length+1) [] r
  else if x.1=91 then jE (pv lv) 93 5 x.2 (r.length+1) [] r
  else .inl (4,x :: r)
theorem jb2 (lv:Nat):pv lv []=.inl (4,[]):=by cases lv<;>rfl
def Kids (q:List Sym->R)(ec:UInt8):List T->List Sym->Nat->List Sym->Prop
 | [],ts,e,r=>∃x:Sym,x.1=ec/\ts=x :: r/\e=x.2+1
 | t :: l,ts,e,r=>∃(x:Sym) (r0:List Sym) (y:Sym) (r1:List Sym),ts=x :: r0/\x.1≠ec/\q ts=.inr (t,y :: r1)/\((y.1=44/\Kids q ec l r1 e r)\/(y.1≠44/\y.1=ec/\l=[]/\e=y.2+1/\r=r1))
theorem Jv (q:List Sym->R)(ec:UInt8)(kind i:Nat):∀(f:Nat) (acc:List T) (ts:List Sym) (t:T) (r:List Sym),jE q ec kind i f acc ts=.inr (t,r)->∃l e,t=nd kind i e (acc++l)/\Kids q ec l ts e r
 | 0,acc,ts,t,r,h=>by cases h
 | f+1,acc,[],t,r,h=>by cases h
 | f+1,acc,x :: r0,t,r,h=>by
  unfold jE at h;split at h
  ·rename_i hx
   injection h with h;injection h with h1 h2;exact⟨[],x.2+1,by rw [<-h1,List.append_nil],x,hx,by rw [h2],rfl⟩
  ·rename_i hx
   split at h
   ·cases h
   ·cases h
   ·rename_i t1 y r2 hq
    split at h
    ·rename_i hy
     obtain⟨l,e,e1,hk⟩:=Jv q ec kind i f _ _ _ _ h;exact⟨t1 :: l,e,by rw [e1,List.append_assoc];rfl,x,r0,y,r2,rfl,hx,hq,.inl ⟨hy,hk⟩⟩
    ·rename_i hy
     split at h
     ·rename_i hy2
      injection h with h;injection h with h1 h2;exact⟨[t1],y.2+1,h1.symm,x,r0,y,r2,rfl,hx,hq,.inr ⟨hy,hy2,rfl,rfl,h2.symm⟩⟩
     ·cases h
structure Loc (q:List Sym->R):Prop where
 good:∀ts t r,q ts=.inr (t,r)->∃p,p≠[]/\ts=p++r/\∀r',q (p++r')=.inr (t,r')
 bad:∀ts e r,q ts=.inl (e,r)->∃p,ts=p++r/\(e=4->q p=.inl (4,[]))/\(e=4\/(e=5/\r≠[]))
theorem ZW {q:List Sym->R}{ec:UInt8}(hq:Loc q):∀(l:List T) (ts:List Sym) (e:Nat) (r:List Sym),Kids q ec l ts e r->∃p,p≠[]/\ts=p++r/\l.length<p.length/\∀r',Kids q ec l (p++r') e r'
 | [],ts,e,r,h=>by
  obtain⟨x,hx,rfl,rfl⟩:=h;exact⟨[x],by simp,rfl,by simp,fun r'=>⟨x,hx,rfl,rfl⟩⟩
 | t :: l,ts,e,r,h=>by
  obtain⟨x,r0,y,r1,rfl,hx,hqt,h⟩:=h;obtain⟨p,hp,e1,h2⟩:=hq.good _ _ _ hqt
  obtain⟨p0,rfl⟩:∃p0,p=x :: p0:=by
   cases p with
   | nil=>exact absurd rfl hp
   | cons a b=>rw [List.cons_append] at e1;injection e1 with e1 _;exact⟨b,by rw [e1]⟩
  rcases h with ⟨hy,hk⟩ | ⟨hy,hy2,rfl,rfl,rfl⟩
  ·obtain⟨p',_,rfl,hl',hk'⟩:=ZW hq l _ _ _ hk
   refine⟨x :: p0++y :: p',by simp,by rw [e1];simp,by simp;omega,fun r'=>?_⟩;refine⟨x,p0++y :: p'++r',y,p'++r',by simp,hx,?_,.inl ⟨hy,hk' r'⟩⟩;have:=h2 (y :: (p'++r'));rw [<-this];simp
  ·refine⟨x :: p0++[y],by simp,by rw [e1];simp,by simp,fun r'=>?_⟩
   refine⟨x,p0++y :: r',y,r',by simp,hx,?_,.inr ⟨hy,hy2,rfl,rfl,rfl⟩⟩;have:=h2 (y :: r');rw [<-this];simp
theorem zJ {q:List Sym->R}{ec:UInt8}(kind i:Nat)(hec:ec≠44):∀(l:List T) (f:Nat) (acc:List T) (ts:List Sym) (e:Nat) (r:List Sym),Kids q ec l ts e r->l.length<f->jE q ec kind i f acc ts=.inr (nd kind i e (acc++l),r)
 | [],f+1,acc,ts,e,r,h,_=>by
  obtain⟨x,hx,rfl,rfl⟩:=h;rw [jE,if_pos hx,List.append_nil]
 | t :: l,f+1,acc,ts,e,r,h,hf=>by
  obtain⟨x,r0,y,r1,rfl,hx,hqt,h⟩:=h;rw [jE,if_neg hx,hqt]
  rcases h with ⟨hy,hk⟩ | ⟨hy,hy2,rfl,rfl,rfl⟩
  ·simp only
   rw [if_pos hy,zJ kind i hec l f _ _ _ _ hk (by simp at hf;omega),List.append_assoc];rfl
  ·simp only
   rw [if_neg hy,if_pos hy2]
theorem jbi {q:List Sym->R}{ec:UInt8}{kind i f:Nat}{acc:List T}{ts:List Sym}{t:T}{r:List Sym}(hq:Loc q)(hec:ec≠44)(h:jE q ec kind i f acc ts=.inr (t,r)) :
  ∃p,p≠[]/\ts=p++r/\∀f' r',(p++r').length<f'->jE q ec kind i f' acc (p++r')=.inr (t,r'):=by
 obtain⟨l,e,rfl,hk⟩:=Jv q ec kind i f acc ts t r h;obtain⟨p,hp,e1,hl,hk'⟩:=ZW hq l ts e r hk;refine⟨p,hp,e1,fun f' r' hf=>zJ kind i hec l f' acc _ e r' (hk' r') ?_⟩;rw [List.length_append] at hf;omega
theorem jay {q:List Sym->R}{ec:UInt8}{kind i:Nat}(hq:Loc q)(hec:ec≠44):∀(f:Nat) (acc:List T) (ts:List Sym) (e:Nat) (r:List Sym),ts.length<f->jE q ec kind i f acc ts=.inl (e,r)->
  ∃p,ts=p++r/\(e=4->∀f',p.length<f'->jE q ec kind i f' acc p=.inl (4,[]))/\(e=4\/(e=5/\r≠[]))
 | 0,acc,ts,e,r,hf,h=>by omega
 | f+1,acc,[],e,r,hf,h=>by
  unfold jE at h;injection h with h;injection h with h1 h2;subst h1 h2;refine⟨[],rfl,fun _ f' hf'=>?_,.inl rfl⟩;cases f' with
  | zero=>simp at hf'
  | succ f'=>rfl
 | f+1,acc,x :: r0,e,r,hf,h=>by
  unfold jE at h;split at h
  ·cases h
  ·rename_i hx
   split at h
   ·rename_i e1 hq1
    injection h with h;subst h;obtain⟨p,e2,h4,h5⟩:=hq.bad _ _ _ hq1;refine⟨p,e2,fun he f' hf'=>?_,h5⟩;cases f' with
    | zero=>omega
    | succ f'=>
     have hp:=h4 he;cases p with
     | nil=>rfl
     | cons a b=>
      rw [List.cons_append] at e2;injection e2 with e3 _;subst e3;rw [jE,if_neg hx,hp]
   ·rename_i t1 hq1
    injection h with h;injection h with h1 h2;subst h1 h2;refine⟨x :: r0,by simp,fun _ f' hf'=>?_,.inl rfl⟩;cases f' with
    | zero=>omega
    | succ f'=>rw [jE,if_neg hx,hq1]
   ·rename_i t1 y r2 hq1
    obtain⟨p,hp,e1,h2⟩:=hq.good _ _ _ hq1
    obtain⟨p0,rfl⟩:∃p0,p=x :: p0:=by
     cases p with
     | nil=>exact absurd rfl hp
     | cons a b=>rw [List.cons_append] at e1;injection e1 with e1 _;exact⟨b,by rw [e1]⟩
    split at h
    ·rename_i hy
     have hlen:=congrArg List.length e1;simp only [List.length_cons,List.length_append] at hlen hf;obtain⟨p',rfl,h4,h5⟩:=jay hq hec f _ _ _ _ (by omega) h;refine⟨x :: p0++y :: p',by rw [e1];simp,fun he f' hf'=>?_,h5⟩;cases f' with
     | zero=>omega
     | succ f'=>
      have h3:=h2 (y :: p');rw [List.cons_append] at h3 ⊢;simp only [List.length_cons,List.length_append] at hf';rw [jE,if_neg hx,h3];simp only;rw [if_pos hy,h4 he f' (by omega)]
    ·rename_i hy
     split at h
     ·cases h
     ·rename_i hy2
      injection h with h;injection h with h1 h3;subst h1 h3;refine⟨x :: p0,e1,fun _ f' hf'=>?_,.inl rfl⟩;cases f' with
      | zero=>omega
      | succ f'=>
       have h3:=h2 [];rw [List.append_nil] at h3;rw [jE,if_neg hx,h3]
theorem Jh (q:List Sym->R)(x:Sym):qF q [x]=if x.1=120 then .inl (4,[]) else .inl (4,[x]):=rfl
theorem qG (q:List Sym->R)(x m:Sym)(r1:List Sym):qF q (x :: m :: r1)=if x.1=120 then (if m.1=58\/m.1=61 then (match q r1 with | .inl e=>.inl e | .inr (v,r2)=>.inr (nd 4 x.2 (J7 v) [nd 2 x.2 (x.2+1) [],v],r2)) else .inl (4,m :: r1)) else .inl (4,x :: m :: r1):=rfl
theorem Qy {q:List Sym->R}(hq:Loc q):Loc (qF q):=by
 refine⟨fun ts t r h=>?_,fun ts e r h=>?_⟩
 ·match ts with
  | []=>cases h
  | [x]=>
   rw [Jh] at h;split at h<;>cases h
  | x :: m :: r1=>
   rw [qG] at h;split at h
   ·rename_i hx
    split at h
    ·rename_i hm
     split at h
     ·cases h
     ·rename_i v r2 hv
      injection h with h;injection h with h1 h2;subst h1 h2;obtain⟨p,hp,e1,h3⟩:=hq.good _ _ _ hv;refine⟨x :: m :: p,by simp,by rw [e1];rfl,fun r'=>?_⟩;rw [List.cons_append,List.cons_append,qG,if_pos hx,if_pos hm,h3 r']
    ·cases h
   ·cases h
 ·match ts with
  | []=>
   injection h with h;injection h with h1 h2;subst h1 h2;exact⟨[],rfl,fun _=>rfl,.inl rfl⟩
  | [x]=>
   rw [Jh] at h;split at h
   ·rename_i hx
    injection h with h;injection h with h1 h2;subst h1 h2;refine⟨[x],rfl,fun _=>?_,.inl rfl⟩;rw [Jh,if_pos hx]
   ·injection h with h
    injection h with h1 h2;subst h1 h2;exact⟨[],rfl,fun _=>rfl,.inl rfl⟩
  | x :: m :: r1=>
   rw [qG] at h;split at h
   ·rename_i hx
    split at h
    ·rename_i hm
     split at h
     ·rename_i e1 hv
      injection h with h;subst h;obtain⟨p,e2,h3,h4⟩:=hq.bad _ _ _ hv;refine⟨x :: m :: p,by rw [e2];rfl,fun he=>?_,h4⟩;rw [qG,if_pos hx,if_pos hm,h3 he]
     ·cases h
    ·injection h with h
     injection h with h1 h2;subst h1 h2;refine⟨[x],rfl,fun _=>?_,.inl rfl⟩;rw [Jh,if_pos hx]
   ·injection h with h
    injection h with h1 h2;subst h1 h2;exact⟨[],rfl,fun _=>rfl,.inl rfl⟩
theorem qJ:∀lv,Loc (pv lv)
 | 0=>by
  refine⟨fun ts t r h=>?_,fun ts e r h=>?_⟩
  ·cases ts with
   | nil=>cases h
   | cons x r0=>unfold pv at h;split at h<;>cases h
  ·cases ts with
   | nil=>
    injection h with h;injection h with h1 h2;subst h1 h2;exact⟨[],rfl,fun _=>rfl,.inl rfl⟩
   | cons x r0=>
    unfold pv at h;split at h
    ·injection h with h
     injection h with h1 h2;subst h1 h2;exact⟨[],rfl,(fun h=>by cases h),.inr ⟨rfl,by simp⟩⟩
    ·injection h with h
     injection h with h1 h2;subst h1 h2;exact⟨[],rfl,fun _=>rfl,.inl rfl⟩
 | lv+1=>by
  have ih:=qJ lv;have ie:=Qy ih;refine⟨fun ts t r h=>?_,fun ts e r h=>?_⟩
  ·cases ts with
   | nil=>cases h
   | cons x r0=>
    unfold pv at h;split at h
    ·rename_i hx
     injection h with h;injection h with h1 h2;subst h1 h2;exact⟨[x],by simp,rfl,fun r'=>by rw [List.cons_append,pv,if_pos hx];rfl⟩
    ·rename_i hx
     split at h
     ·rename_i hx2
      obtain⟨p,hp,e1,h2⟩:=jbi ie (by decide) h;refine⟨x :: p,by simp,by rw [e1];rfl,fun r'=>?_⟩;rw [List.cons_append,pv,if_neg hx,if_pos hx2];exact h2 _ r' (Nat.lt_succ_self _)
     ·rename_i hx2
      split at h
      ·rename_i hx3
       obtain⟨p,hp,e1,h2⟩:=jbi ih (by decide) h;refine⟨x :: p,by simp,by rw [e1];rfl,fun r'=>?_⟩;rw [List.cons_append,pv,if_neg hx,if_neg hx2,if_pos hx3];exact h2 _ r' (Nat.lt_succ_self _)
      ·cases h
  ·cases ts with
   | nil=>
    injection h with h;injection h with h1 h2;subst h1 h2;exact⟨[],rfl,fun _=>jb2 _,.inl rfl⟩
   | cons x r0=>
    unfold pv at h;split at h
    ·cases h
    ·rename_i hx
     split at h
     ·rename_i hx2
      obtain⟨p,e1,h3,h4⟩:=jay ie (by decide) _ _ _ _ _ (Nat.lt_succ_self _) h;refine⟨x :: p,by rw [e1];rfl,fun he=>?_,h4⟩;rw [pv,if_neg hx,if_pos hx2];exact h3 he _ (Nat.lt_succ_self _)
     ·rename_i hx2
      split at h
      ·rename_i hx3
       obtain⟨p,e1,h3,h4⟩:=jay ih (by decide) _ _ _ _ _ (Nat.lt_succ_self _) h;refine⟨x :: p,by rw [e1];rfl,fun he=>?_,h4⟩;rw [pv,if_neg hx,if_neg hx2,if_pos hx3];exact h3 he _ (Nat.lt_succ_self _)
      ·injection h with h
       injection h with h1 h2;subst h1 h2;exact⟨[],rfl,fun _=>jb2 _,.inl rfl⟩
end trees
namespace valus
section
variable {β : Type}
theorem jjo (a:List UInt8):¬zT a a=.lt:=by
 rw [zt.refl trivial]
 decide
theorem jhj {a b:List UInt8}(h:zT a b=.lt):¬zT b a=.lt:=by
 rw [zt.swap a b trivial trivial,h]
 decide
theorem Y8 {a b c:List UInt8}(h:zT a b=.lt)(g:zT b c=.lt):zT a c=.lt:=zt.trans a b c trivial trivial trivial h g
theorem jfU {a b:List UInt8}(h:¬zT a b=.lt)(g:b≠a):zT b a=.lt:=by
 rw [zt.swap a b trivial trivial];cases e:zT a b with
 | lt=>exact absurd e h
 | eq=>exact absurd ((zt.same a b trivial trivial).1 e).symm g
 | gt=>rfl
end
end valus
namespace trees
def LeQ (q q':List Sym->R):Prop:=∀ts x,q ts=.inr x->q' ts=.inr x
theorem jfE {q q':List Sym->R}{ec:UInt8}(h:LeQ q q'):∀(l:List T) (ts:List Sym) (e:Nat) (r:List Sym),Kids q ec l ts e r->Kids q' ec l ts e r
 | [],ts,e,r,hk=>hk
 | t :: l,ts,e,r,hk=>by
  obtain⟨x,r0,y,r1,rfl,hx,hq,hk⟩:=hk;refine⟨x,r0,y,r1,rfl,hx,h _ _ hq,?_⟩
  rcases hk with ⟨hy,hk⟩ | hk
  ·exact .inl ⟨hy,jfE h l _ _ _ hk⟩
  ·exact .inr hk
theorem jfT {q q':List Sym->R}{ec:UInt8}{kind i:Nat}{ts:List Sym}{x:T×List Sym}(h:LeQ q q')(hq:Loc q)(hec:ec≠44)(hl:jE q ec kind i (ts.length+1) [] ts=.inr x):jE q' ec kind i (ts.length+1) [] ts=.inr x:=by
 obtain⟨t,r⟩:=x;obtain⟨l,e,rfl,hk⟩:=Jv q ec kind i _ [] ts t r hl;obtain⟨p,_,e1,hlp,_⟩:=ZW hq l ts e r hk;refine zJ kind i hec l _ [] ts e r (jfE h l ts e r hk) ?_
 rw [e1,List.length_append];omega
theorem jk5 {q q':List Sym->R}(h:LeQ q q'):LeQ (qF q) (qF q'):=by
 intro ts x hx
 match ts with
 | []=>cases hx
 | [a]=>
  rw [Jh] at hx;split at hx<;>cases hx
 | a :: m :: r1=>
  rw [qG] at hx ⊢;split at hx
  ·rename_i h1
   split at hx
   ·rename_i h2
    rw [if_pos h1,if_pos h2];split at hx
    ·cases hx
    ·rename_i v r2 hv
     rw [h _ _ hv];exact hx
   ·cases hx
  ·cases hx
theorem jkK:∀lv,LeQ (pv lv) (pv (lv+1))
 | 0=>by
  intro ts x h;cases ts with
  | nil=>cases h
  | cons a r=>unfold pv at h;split at h<;>cases h
 | lv+1=>by
  intro ts x h;have ih:=jkK lv;cases ts with
  | nil=>cases h
  | cons a r=>
   rw [pv] at h ⊢;split at h
   ·rename_i h1;rw [if_pos h1];exact h
   ·rename_i h1
    rw [if_neg h1];split at h
    ·rename_i h2;rw [if_pos h2];exact jfT (jk5 ih) (Qy (qJ lv)) (by decide) h
    ·rename_i h2
     rw [if_neg h2];split at h
     ·rename_i h3;rw [if_pos h3];exact jfT ih (qJ lv) (by decide) h
     ·cases h
theorem jll {a b:Nat}(h:a<=b):LeQ (pv a) (pv b):=by
 induction b with
 | zero=>
  have:a=0:=by omega
  subst this;exact fun _ _ h=>h
 | succ b ih=>
  by_cases e:a=b+1
  ·subst e;exact fun _ _ h=>h
  ·exact fun ts x hx=>jkK b ts x (ih (by omega) ts x hx)
def Xt (q:List Sym->R)(ec:UInt8):List T->List Sym->Nat->Prop
 | [],ts,e=>∃y:Sym,y.1=ec/\ts=[y]/\e=y.2+1
 | t :: l,ts,e=>∃(seg:List Sym) (y:Sym) (rest:List Sym),seg≠[]/\q seg=.inr (t,[])/\ts=seg++y :: rest/\((y.1=44/\Xt q ec l rest e)\/(y.1=ec/\l=[]/\rest=[]/\e=y.2+1))
theorem Yv {q:List Sym->R}{ec:UInt8}(hq:Loc q):∀(l:List T) (ts:List Sym) (e:Nat),Kids q ec l ts e []->Xt q ec l ts e
 | [],ts,e,h=>by
  obtain⟨x,hx,e1,e2⟩:=h;exact⟨x,hx,e1,e2⟩
 | t :: l,ts,e,h=>by
  obtain⟨x,r0,y,r1,rfl,hx,hqt,h⟩:=h;obtain⟨p,hp,e1,h2⟩:=hq.good _ _ _ hqt;have h3:=h2 [];rw [List.append_nil] at h3;refine⟨p,y,r1,hp,h3,e1,?_⟩
  rcases h with ⟨hy,hk⟩ | ⟨_,hy2,rfl,rfl,rfl⟩
  ·exact .inl ⟨hy,Yv hq l _ _ hk⟩
  ·exact .inr ⟨hy2,rfl,rfl,rfl⟩
theorem JX {lv:Nat}{seg:List Sym}{t:T}(h:pv lv seg=.inr (t,[])):∃lv',lv=lv'+1/\
  ((∃x:Sym,seg=[x]/\x.1=120/\t=nd 1 x.2 (x.2+1) [])\/
   (∃(x:Sym) (ts:List Sym) (l:List T) (e:Nat),seg=x :: ts/\x.1=123/\t=nd 3 x.2 e l/\Xt (qF (pv lv')) 125 l ts e)\/
   (∃(x:Sym) (ts:List Sym) (l:List T) (e:Nat),seg=x :: ts/\x.1=91/\t=nd 5 x.2 e l/\Xt (pv lv') 93 l ts e)):=by
 cases lv with
 | zero=>
  cases seg with
  | nil=>cases h
  | cons x r=>unfold pv at h;split at h<;>cases h
 | succ lv=>
  refine⟨lv,rfl,?_⟩;cases seg with
  | nil=>cases h
  | cons x r=>
   rw [pv] at h;split at h
   ·rename_i hx
    injection h with h;injection h with h1 h2;subst h1 h2;exact .inl ⟨x,rfl,hx,rfl⟩
   ·split at h
    ·rename_i hx
     obtain⟨l,e,rfl,hk⟩:=Jv _ _ _ _ _ _ _ _ _ h;exact .inr (.inl ⟨x,r,l,e,rfl,hx,rfl,Yv (Qy (qJ lv)) l r e hk⟩)
    ·split at h
     ·rename_i hx
      obtain⟨l,e,rfl,hk⟩:=Jv _ _ _ _ _ _ _ _ _ h;exact .inr (.inr ⟨x,r,l,e,rfl,hx,rfl,Yv (qJ lv) l r e hk⟩)
     ·cases h
theorem YW {q:List Sym->R}{seg:List Sym}{t:T}(h:qF q seg=.inr (t,[])):∃(x m:Sym) (sv:List Sym) (v:T),seg=x :: m :: sv/\x.1=120/\(m.1=58\/m.1=61)/\q sv=.inr (v,[])/\t=nd 4 x.2 (J7 v) [nd 2 x.2 (x.2+1) [],v]:=by
 match seg with
 | []=>cases h
 | [x]=>
  rw [Jh] at h;split at h<;>cases h
 | x :: m :: r1=>
  rw [qG] at h;split at h
  ·rename_i hx
   split at h
   ·rename_i hm
    split at h
    ·cases h
    ·rename_i v r2 hv
     injection h with h;injection h with h1 h2;subst h1 h2;exact⟨x,m,r1,v,rfl,hx,hm,hv,rfl⟩
   ·cases h
  ·cases h
theorem YC {q:List Sym->R}{ec:UInt8}:∀(l:List T) (ts:List Sym) (e:Nat),Xt q ec l ts e->∀(j:Nat) (h:j<l.length),∃pre seg post,ts=pre++(seg++post)/\seg≠[]/\q seg=.inr (l[j],[])
 | [],ts,e,h,j,hj=>by simp at hj
 | t :: l,ts,e,h,0,hj=>by
  obtain⟨seg,y,rest,hs,hq,rfl,_⟩:=h;exact⟨[],seg,y :: rest,rfl,hs,hq⟩
 | t :: l,ts,e,h,j+1,hj=>by
  obtain⟨seg,y,rest,hs,hq,rfl,h⟩:=h
  rcases h with ⟨_,hk⟩ | ⟨_,rfl,_⟩
  ·obtain⟨pre,s2,post,e1,h2,h3⟩:=YC l rest e hk j (by simpa using hj)
   exact⟨seg++y :: pre,s2,post,by rw [e1];simp,h2,h3⟩
  ·simp at hj
def jkP (t:T)(seg:List Sym):Prop:=∃lv,lv<=20/\pv lv seg=.inr (t,[])
def Part (seg ts:List Sym):Prop:=∃pre post,ts=pre++(seg++post)
theorem Part.trans {a b c:List Sym}(h:Part a b)(h':Part b c):Part a c:=by
 obtain⟨p,q,rfl⟩:=h;obtain⟨p',q',rfl⟩:=h';exact⟨p'++p,q++q',by simp⟩
theorem jbn {t:T}{seg:List Sym}(h:jkP t seg):pv 20 seg=.inr (t,[]):=by
 obtain⟨lv,hlv,h⟩:=h;exact jll hlv _ _ h
def pd (ts:List Sym):R :=
 match pv 20 ts with
 | .inl e=>.inl e
 | .inr (t,[])=>.inr (t,[])
 | .inr (_,y :: r)=>.inl (4,y :: r)
theorem jeY {ts:List Sym}{t:T}{r:List Sym}(h:pd ts=.inr (t,r)):r=[]/\jkP t ts:=by
 unfold pd at h;split at h
 ·cases h
 ·rename_i t1 hq
  injection h with h;injection h with h1 h2;subst h1 h2;exact⟨rfl,20,Nat.le_refl _,hq⟩
 ·cases h
theorem jic {ts:List Sym}{e:Nat}{r:List Sym}(h:pd ts=.inl (e,r)):∃p,ts=p++r/\(e=4->pd p=.inl (4,[])\/∃t,pd p=.inr (t,[]))/\(e=4\/(e=5/\r≠[])):=by
 unfold pd at h;split at h
 ·rename_i e1 hq
  injection h with h;subst h;obtain⟨p,e2,h3,h4⟩:=(qJ 20).bad _ _ _ hq;refine⟨p,e2,fun he=>.inl ?_,h4⟩;unfold pd;rw [h3 he]
 ·cases h
 ·rename_i t1 y r1 hq
  injection h with h;injection h with h1 h2;subst h1 h2;obtain⟨p,_,e2,h3⟩:=(qJ 20).good _ _ _ hq;refine⟨p,e2,fun _=>.inr ⟨t1,?_⟩,.inl rfl⟩;have h4:=h3 [];rw [List.append_nil] at h4;unfold pd;rw [h4]
end trees
namespace toks
def J5 (p:Nat)(l:List UInt8):List Tk:=Yb l.length p l
theorem Zt (f p:Nat):Yb f p []=[]:=by cases f<;>simp [Yb]
theorem jbT:∀(f g p:Nat) (l:List UInt8),l.length<=f->l.length<=g->Yb f p l=Yb g p l
 | 0,g,p,l,hf,_=>by
  have:l=[]:=List.eq_nil_of_length_eq_zero (by omega);rw [this,Zt,Zt]
 | f+1,g,p,l,hf,hg=>by
  by_cases h:l=[]
  ·rw [h,Zt,Zt]
  ·have hp:=List.length_pos_iff.2 h
   obtain⟨g',rfl⟩:∃g',g=g'+1:=⟨g - 1,by omega⟩
   obtain⟨a,b,_⟩:=jN h;have e:=jbT f g' (p+(jB l).2) (l.drop (jB l).2) (by rw [List.length_drop];omega) (by rw [List.length_drop];omega);rw [Yb,Yb,if_neg h,if_neg h,e]
theorem ZX (p:Nat):J5 p []=[]:=rfl
theorem zm {p:Nat}{l:List UInt8}(h:l≠[]):J5 p l=⟨(jB l).1,p,p+(jB l).2⟩ :: J5 (p+(jB l).2) (l.drop (jB l).2):=by
 have hp:=List.length_pos_iff.2 h;obtain⟨n,hn⟩:∃n,l.length=n+1:=⟨l.length - 1,by omega⟩
 obtain⟨a,b,_⟩:=jN h;unfold J5;rw [hn,Yb,if_neg h,jbT n (l.drop (jB l).2).length _ _ (by rw [List.length_drop];omega) (Nat.le_refl _)]
theorem jir (l:List UInt8):jv l=J5 0 l:=rfl
theorem jfD {P:Nat->List UInt8->Prop}(h0:∀p,P p [])(h1:∀p l,l≠[]->P (p+(jB l).2) (l.drop (jB l).2)->P p l):∀(n p:Nat) (l:List UInt8),l.length<=n->P p l
 | 0,p,l,h=>by
  have:l=[]:=List.eq_nil_of_length_eq_zero (by omega);rw [this];exact h0 p
 | n+1,p,l,h=>by
  by_cases e:l=[]
  ·rw [e];exact h0 p
  ·obtain⟨a,b,_⟩:=jN e
   exact h1 p l e (jfD h0 h1 n _ _ (by rw [List.length_drop];omega))
theorem jdI (p:Nat)(l:List UInt8):(J5 p l).length<=l.length:=by
 refine jfD (P:=fun p l=>(J5 p l).length<=l.length) (fun p=>by simp [ZX]) (fun p l h ih=>?_) l.length p l (Nat.le_refl _);obtain⟨a,b,_⟩:=jN h;rw [List.length_drop] at ih;rw [zm h,List.length_cons];omega
theorem jb9:∀(i p:Nat) (l:List UInt8) (t:Tk),(J5 p l)[i]?=some t->
  p<=t.fro/\t.fro<t.til/\t.til<=p+l.length/\jB (l.drop (t.fro - p))=(t.kind,t.til - t.fro)/\l.drop (t.fro - p)≠[]/\1<=t.kind/\t.kind<=7/\
  J5 p (l.take (t.fro - p))=(J5 p l).take i/\J5 t.fro (l.drop (t.fro - p))=(J5 p l).drop i
 | i,p,[],t,h=>by rw [ZX] at h;simp at h
 | 0,p,c :: r,t,h=>by
  have hl:c :: r≠[]:=by simp
  generalize c :: r=l at *;obtain⟨a,b,k1,k7⟩:=jN hl;have e:=zm (p:=p) hl;rw [e] at h;simp only [List.getElem?_cons_zero,Option.some.injEq] at h;subst h;simp only [Nat.sub_self,List.drop_zero,List.take_zero];refine⟨Nat.le_refl _,by omega,by omega,?_,hl,k1,k7,ZX p,trivial⟩;rw [show p+(jB l).2 - p=(jB l).2 by omega]
 | i+1,p,c :: r,t,h=>by
  have hl:c :: r≠[]:=by simp
  generalize c :: r=l at *;obtain⟨a,b,_⟩:=jN hl;have e:=zm (p:=p) hl;rw [e] at h;simp only [List.getElem?_cons_succ] at h;obtain⟨h1,h2,h3,h4,h5,k1,k7,h6,h7⟩:=jb9 i (p+(jB l).2) (l.drop (jB l).2) t h;rw [List.length_drop] at h3;have ed:(l.drop (jB l).2).drop (t.fro - (p+(jB l).2))=l.drop (t.fro - p):=by rw [List.drop_drop];congr 1;omega
  rw [ed] at h4 h5 h7;refine⟨by omega,h2,by omega,h4,h5,k1,k7,?_,by rw [e,List.drop_succ_cons];exact h7⟩
  have hne:l.take (t.fro - p)≠[]:=fun q=>by
   have:=congrArg List.length q;rw [List.length_take,List.length_nil] at this;omega
  have et:jB (l.take (t.fro - p))=jB l:=jhn (by omega) (by omega)
  have ex:(l.take (t.fro - p)).drop (jB l).2=(l.drop (jB l).2).take (t.fro - (p+(jB l).2)):=by
   rw [List.drop_take];congr 1;omega
  rw [zm hne,et,ex,h6,e,List.take_succ_cons]
end toks
namespace trees
open toks
def J3 (L:List UInt8)(t:Tk):UInt8:=if t.kind=6 then L.getD t.fro 0 else if t.kind=7 then 63 else 120
def zA (L:List UInt8):Nat->List Tk->List Sym
 | _,[]=>[]
 | i,t :: r=>if 3<t.kind then (J3 L t,i) :: zA L (i+1) r else zA L (i+1) r
def q7 (L:List UInt8):List Sym:=zA L 0 (jv L)
theorem Jd {L:List UInt8}{i:Nat}{t:Tk}{r:List Tk}(h:3<t.kind):zA L i (t :: r)=(J3 L t,i) :: zA L (i+1) r:=by rw [zA,if_pos h]
theorem Xp {L:List UInt8}{i:Nat}{t:Tk}{r:List Tk}(h:¬3<t.kind):zA L i (t :: r)=zA L (i+1) r:=by rw [zA,if_neg h]
theorem jeG (L:List UInt8):∀(l:List Tk) (i:Nat) (x:Sym),x∈zA L i l->i<=x.2/\∃h:x.2 - i<l.length,3<l[x.2 - i].kind/\x.1=J3 L l[x.2 - i]
 | [],i,x,h=>by cases h
 | t :: l,i,x,h=>by
  have go:x∈zA L (i+1) l->i<=x.2/\∃h:x.2 - i<(t :: l).length,3<(t :: l)[x.2 - i].kind/\x.1=J3 L (t :: l)[x.2 - i]:=fun hm=>by
   obtain⟨h1,h2,h3,h4⟩:=jeG L l (i+1) x hm;refine⟨by omega,by simp only [List.length_cons];omega,?_⟩
   have e:(t :: l)[x.2 - i]'(by simp only [List.length_cons];omega)=l[x.2 - (i+1)]:=by
    have:x.2 - i=(x.2 - (i+1))+1:=by omega
    simp only [this,List.getElem_cons_succ]
   rw [e];exact⟨h3,h4⟩
  by_cases hk:3<t.kind
  ·rw [Jd hk] at h
   rcases List.mem_cons.1 h with rfl | h
   ·refine⟨Nat.le_refl _,by simp,?_⟩
    simp only [Nat.sub_self,List.getElem_cons_zero];exact⟨hk,trivial⟩
   ·exact go h
  ·rw [Xp hk] at h
   exact go h
open toks
theorem jhY {L:List UInt8}{z:Sym}(h:z∈q7 L):z.2<(jv L).length:=by
 obtain⟨_,h1,_⟩:=jeG L (jv L) 0 z h;omega
end trees
end Go.Proofs.YtnbfnjhbmeocfaaGreatDoor
