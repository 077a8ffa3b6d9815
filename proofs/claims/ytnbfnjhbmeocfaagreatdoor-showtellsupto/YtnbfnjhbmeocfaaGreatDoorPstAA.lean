/- Of our texts, what this claim reaches. -/
import GoSem.ClaimWide
set_option linter.unusedVariables false
namespace Go.Proofs.YtnbfnjhbmeocfaaGreatDoor
namespace valus
structure IsOrd {α:Type} (P:α->Prop) (c:α->α->Ordering):Prop where
 swap:∀a b,P a->P b->c b a=(c a b).swap
 same:∀a b,P a->P b->(c a b=.eq↔a=b)
 trans:∀a b d,P a->P b->P d->c a b=.lt->c b d=.lt->c a d=.lt
theorem IsOrd.refl {α:Type}{P:α->Prop}{c:α->α->Ordering}(h:IsOrd P c){a:α}(ha:P a):c a a=.eq:=(h.same a a ha ha).2 rfl
theorem IsOrd.mono {α:Type}{P Q:α->Prop}{c:α->α->Ordering}(h:IsOrd P c)(hq:∀a,Q a->P a):IsOrd Q c :=
 ⟨fun a b ha hb=>h.swap a b (hq a ha) (hq b hb),fun a b ha hb=>h.same a b (hq a ha) (hq b hb),fun a b d ha hb hd=>h.trans a b d (hq a ha) (hq b hb) (hq d hd)⟩
def ZA (a b:Int):Ordering:=if a<b then .lt else if a=b then .eq else .gt
theorem jc6:IsOrd (fun _=>True) ZA:=by
 refine⟨fun a b _ _=>?_,fun a b _ _=>?_,fun a b d _ _ _ h1 h2=>?_⟩
 ·unfold ZA
  by_cases h1:a<b
  ·rw [if_pos h1,if_neg (by omega),if_neg (by omega)];rfl
  ·by_cases h2:a=b
   ·rw [if_neg h1,if_pos h2,if_neg (by omega),if_pos h2.symm];rfl
   ·rw [if_neg h1,if_neg h2,if_pos (by omega)];rfl
 ·unfold ZA
  by_cases h1:a<b
  ·rw [if_pos h1]
   exact⟨fun h=>(by cases h),fun h=>(by omega)⟩
  ·by_cases h2:a=b
   ·rw [if_neg h1,if_pos h2]
    exact⟨fun _=>h2,fun _=>rfl⟩
   ·rw [if_neg h1,if_neg h2]
    exact⟨fun h=>(by cases h),fun h=>absurd h h2⟩
 ·have e:∀x y,ZA x y=.lt->x<y:=fun x y h=>by
   unfold ZA at h
   by_cases h1:x<y
   ·exact h1
   ·by_cases h2:x=y
    ·rw [if_neg h1,if_pos h2] at h;cases h
    ·rw [if_neg h1,if_neg h2] at h;cases h
  unfold ZA;rw [if_pos (Int.lt_trans (e _ _ h1) (e _ _ h2))]
theorem IsOrd.key {α β:Type}{P:β->Prop}{Q:α->Prop}{c:β->β->Ordering}(h:IsOrd P c)(f:α->β)(hp:∀a,Q a->P (f a))(hi:∀a b,Q a->Q b->f a=f b->a=b):IsOrd Q (fun a b=>c (f a) (f b)) :=
 ⟨fun a b ha hb=>h.swap _ _ (hp a ha) (hp b hb),fun a b ha hb=>⟨fun e=>hi a b ha hb ((h.same _ _ (hp a ha) (hp b hb)).1 e),fun e=>by subst e;exact h.refl (hp a ha)⟩,fun a b d ha hb hd=>h.trans _ _ _ (hp a ha) (hp b hb) (hp d hd)⟩
def Qb (x y:Ordering):Ordering:=match x with | .eq=>y | _=>x
theorem X8 {x y:Ordering}(h:Qb x y=.lt):x=.lt\/(x=.eq/\y=.lt):=by
 cases x with
 | lt=>exact .inl rfl
 | eq=>exact .inr ⟨rfl,h⟩
 | gt=>cases h
theorem jhd {x y:Ordering}:Qb x y=.eq↔x=.eq/\y=.eq:=by
 cases x with
 | lt=>exact⟨fun h=>(by cases h),fun h=>(by cases h.1)⟩
 | eq=>exact⟨fun h=>⟨rfl,h⟩,fun h=>h.2⟩
 | gt=>exact⟨fun h=>(by cases h),fun h=>(by cases h.1)⟩
theorem jdC (x y:Ordering):(Qb x y).swap=Qb x.swap y.swap:=by cases x<;>rfl
def cmpL {α:Type}(c:α->α->Ordering):List α->List α->Ordering
 | [],[]=>.eq
 | [],_ :: _=>.lt
 | _ :: _,[]=>.gt
 | x :: r,y :: t=>Qb (c x y) (cmpL c r t)
theorem IsOrd.list {α:Type}{P:α->Prop}{c:α->α->Ordering}(h:IsOrd P c):IsOrd (fun l:List α=>∀x∈l,P x) (cmpL c):=by
 have sw:∀a b:List α,(∀x∈a,P x)->(∀x∈b,P x)->cmpL c b a=(cmpL c a b).swap:=by
  intro a
  induction a with
  | nil=>intro b _ _;cases b<;>rfl
  | cons x r ih=>
   intro b ha hb;cases b with
   | nil=>rfl
   | cons y t=>
    show Qb _ _=(Qb _ _).swap
    rw [jdC,h.swap x y (ha x (by simp)) (hb y (by simp)),ih t (fun z hz=>ha z (by simp [hz])) (fun z hz=>hb z (by simp [hz]))]
 have sm:∀a b:List α,(∀x∈a,P x)->(∀x∈b,P x)->(cmpL c a b=.eq↔a=b):=by
  intro a
  induction a with
  | nil=>
   intro b _ _;cases b with
   | nil=>exact⟨fun _=>rfl,fun _=>rfl⟩
   | cons y t=>exact⟨fun h=>(by cases h),fun h=>(by cases h)⟩
  | cons x r ih=>
   intro b ha hb;cases b with
   | nil=>exact⟨fun h=>(by cases h),fun h=>(by cases h)⟩
   | cons y t=>
    show Qb _ _=.eq↔_
    rw [jhd,h.same x y (ha x (by simp)) (hb y (by simp)),ih t (fun z hz=>ha z (by simp [hz])) (fun z hz=>hb z (by simp [hz]))];exact⟨fun e=>by rw [e.1,e.2],fun e=>by injection e with e1 e2;exact⟨e1,e2⟩⟩
 refine⟨sw,sm,?_⟩;intro a
 induction a with
 | nil=>
  intro b d _ _ _ h1 h2;cases b with
  | nil=>cases h1
  | cons y t=>
   cases d with
   | nil=>cases h2
   | cons z u=>rfl
 | cons x r ih=>
  intro b d ha hb hd h1 h2;cases b with
  | nil=>cases h1
  | cons y t=>
   cases d with
   | nil=>cases h2
   | cons z u=>
    have hx:=ha x (by simp);have hy:=hb y (by simp);have hz:=hd z (by simp)
    show Qb _ _=.lt
    rcases X8 h1 with a1 | ⟨a1,b1⟩
    ·rcases X8 h2 with a2 | ⟨a2,b2⟩
     ·rw [h.trans x y z hx hy hz a1 a2];rfl
     ·have e:=(h.same y z hy hz).1 a2
      rw [<-e,a1];rfl
    ·have e:=(h.same x y hx hy).1 a1
     rcases X8 h2 with a2 | ⟨a2,b2⟩
     ·rw [e,a2];rfl
     ·rw [e,a2]
      exact ih t u (fun z hz=>ha z (by simp [hz])) (fun z hz=>hb z (by simp [hz])) (fun z hz=>hd z (by simp [hz])) b1 b2
def ZG:List UInt8->List UInt8->Ordering:=cmpL (fun a b=>ZA (a.toNat:Int) (b.toNat:Int))
theorem Zy:IsOrd (fun _=>True) ZG:=by
 have h:IsOrd (fun _:UInt8=>True) (fun a b=>ZA (a.toNat:Int) (b.toNat:Int)):=jc6.key (fun a:UInt8=>(a.toNat:Int)) (fun _ _=>trivial) (fun a b _ _ e=>UInt8.toNat_inj.1 (by omega));exact h.list.mono (fun _ _ x _=>trivial)
abbrev Lab:=Int×Int×Nat×List UInt8
abbrev V:=DataW Lab
def mkV (x:Lab)(L E:List V):V:=.slice L (.held x :: E)
def ent (k:List UInt8)(v:V):V:=mkV (0,0,0,k) [v] []
def opn:V->Lab×List V×List V
 | .slice L (.held x :: E)=>(x,L,E)
 | _=>((0,0,0,[]),[],[])
theorem qJ (x:Lab)(L E:List V):opn (mkV x L E)=(x,L,E):=rfl
def jz (e:V):List UInt8×V:=((opn e).1.2.2.2,(opn e).2.1.headD .nil)
theorem qk (k:List UInt8)(v:V):jz (ent k v)=(k,v):=rfl
theorem ji3 {x y:Lab}{L M E F:List V}(h:mkV x L E=mkV y M F):x=y/\L=M/\E=F:=by
 have e:=congrArg opn h;rw [qJ,qJ] at e;injection e with e1 e2;injection e2 with e3 e4;exact⟨e1,e3,e4⟩
def IsV:Nat->V->Prop
 | 0,_=>False
 | n+1,v=>∃x L E,v=mkV x L E/\x.2.2.1<18446744073709551616/\(∀y∈L,IsV n y)/\∀e∈E,∃k y,e=ent k y/\IsV n y
def IsE (n:Nat)(e:V):Prop:=∃k y,e=ent k y/\IsV n y
theorem IsV.mk {n:Nat}{x:Lab}{L E:List V}:IsV (n+1) (mkV x L E)↔x.2.2.1<18446744073709551616/\(∀y∈L,IsV n y)/\∀e∈E,IsE n e:=by
 constructor
 ·rintro⟨x',L',E',h,a,b,c⟩
  obtain⟨h1,h2,h3⟩:=ji3 h;subst h1;subst h2;subst h3;exact⟨a,b,c⟩
 ·rintro⟨a,b,c⟩
  exact⟨x,L,E,rfl,a,b,c⟩
theorem IsV.more:∀{n:Nat} {v:V},IsV n v->IsV (n+1) v
 | 0,_,h=>h.elim
 | n+1,_,⟨x,L,E,e,a,b,c⟩=>⟨x,L,E,e,a,fun y hy=>(b y hy).more,fun z hz=>by
  obtain⟨k,y,h1,h2⟩:=c z hz;exact⟨k,y,h1,h2.more⟩⟩
def parts (v:V):List V:=(opn v).2.1++(opn v).2.2.map (fun e=>(jz e).2)
theorem j8 (x:Lab)(L E:List V):parts (mkV x L E)=L++E.map (fun e=>(jz e).2):=rfl
theorem IsV.part {n:Nat}{v y:V}(h:IsV (n+1) v)(hy:y∈parts v):IsV n y:=by
 obtain⟨x,L,E,rfl,a,b,c⟩:=h;rw [j8,List.mem_append,List.mem_map] at hy
 rcases hy with hy | ⟨e,he,rfl⟩
 ·exact b y hy
 ·obtain⟨k,z,rfl,hz⟩:=c e he
  exact hz
def maxOf (q:V->Nat):List V->Nat
 | []=>0
 | x :: r=>max (q x) (maxOf q r)
def j3 (q:V->Nat):List V->Nat
 | []=>0
 | x :: r=>q x+j3 q r
theorem jbP (q:V->Nat):∀l m:List V,maxOf q (l++m)=max (maxOf q l) (maxOf q m)
 | [],m=>by show maxOf q m=max 0 _;omega
 | x :: r,m=>by
  show max _ (maxOf q (r++m))=max (max _ _) _
  rw [jbP q r m];omega
theorem zm (q:V->Nat):∀l m:List V,j3 q (l++m)=j3 q l+j3 q m
 | [],m=>by show j3 q m=0+_;omega
 | x :: r,m=>by
  show _+j3 q (r++m)=_+_+_
  rw [zm q r m];omega
theorem Z2 {p q:V->Nat}:∀{l:List V},(∀x∈l,p x=q x)->maxOf p l=maxOf q l
 | [],_=>rfl
 | x :: r,h=>by
  show max _ _=max _ _
  rw [h x (by simp),Z2 (fun y hy=>h y (by simp [hy]))]
theorem Z8 {p q:V->Nat}:∀{l:List V},(∀x∈l,p x=q x)->j3 p l=j3 q l
 | [],_=>rfl
 | x :: r,h=>by
  show _+_=_+_
  rw [h x (by simp),Z8 (fun y hy=>h y (by simp [hy]))]
theorem YP {q:V->Nat}:∀{l:List V} {x:V},x∈l->q x<=maxOf q l
 | y :: r,x,h=>by
  show _<=max _ _
  rcases List.mem_cons.1 h with rfl | h
  ·omega
  ·have:=YP (q:=q) h
   omega
theorem jci {q:V->Nat}{b:Nat}:∀{l:List V},(∀x∈l,q x<=b)->maxOf q l<=b
 | [],_=>Nat.zero_le _
 | x :: r,h=>by
  show max _ _<=b
  have h1:=h x (by simp);have h2:=jci (q:=q) (b:=b) (l:=r) (fun y hy=>h y (by simp [hy]));omega
theorem Yh {q:V->Nat}:∀{l:List V} {x:V},x∈l->q x<=j3 q l
 | y :: r,x,h=>by
  show _<=_+_
  rcases List.mem_cons.1 h with rfl | h
  ·omega
  ·have:=Yh (q:=q) h
   omega
def zj:Nat->V->Nat
 | 0,_=>0
 | n+1,v=>maxOf (zj n) (parts v)+1
def jB:Nat->V->Nat
 | 0,_=>0
 | n+1,v=>j3 (jB n) (parts v)+1
theorem jce:∀{n:Nat} {v:V},IsV n v->zj (n+1) v=zj n v
 | 0,_,h=>h.elim
 | n+1,v,h=>by
  show maxOf (zj (n+1)) _+1=maxOf (zj n) _+1
  rw [Z2 (fun x hx=>jce (h.part hx))]
theorem Xc:∀{n:Nat} {v:V},IsV n v->jB (n+1) v=jB n v
 | 0,_,h=>h.elim
 | n+1,v,h=>by
  show j3 (jB (n+1)) _+1=j3 (jB n) _+1
  rw [Z8 (fun x hx=>Xc (h.part hx))]
def chk (one:V->Int):Nat->List (V×Nat)->Int
 | _,[]=>0
 | 0,_ :: _=>2
 | f+1,(v,d) :: r=>if 20<=d then 5 else if one v=0 then chk one f ((parts v).map (fun y=>(y,d+1))++r) else one v
def zM (q:Nat->V->Int⊕Nat):Nat->List V->Int⊕Nat
 | f,[]=>.inr f
 | f,x :: r=>match q f x with
  | .inl e=>.inl e
  | .inr g=>zM q g r
def zX (one:V->Int):Nat->Nat->V->Int⊕Nat
 | _,0,_=>.inl 2
 | 0,_+1,_=>.inl 5
 | l+1,f+1,v=>if one v=0 then zM (zX one l) f (parts v) else .inl (one v)
def fin (s:Int⊕Nat)(k:Nat->Int):Int:=match s with | .inl e=>e | .inr g=>k g
theorem jcq {one:V->Int}{l:Nat}(h:∀v f r,chk one f ((v,20 - l) :: r)=fin (zX one l f v) (fun g=>chk one g r)):∀(ps:List V) (f:Nat) (r:List (V×Nat)),chk one f (ps.map (fun y=>(y,20 - l))++r)=fin (zM (zX one l) f ps) (fun g=>chk one g r)
 | [],f,r=>rfl
 | x :: ps,f,r=>by
  rw [List.map_cons,List.cons_append,h]
  show _=fin (match zX one l f x with | .inl e=>.inl e | .inr g=>zM (zX one l) g ps) _
  cases zX one l f x with
  | inl e=>rfl
  | inr g=>exact jcq h ps g r
theorem jeZ (one:V->Int):∀(l:Nat),l<=20->∀v f r,chk one f ((v,20 - l) :: r)=fin (zX one l f v) (fun g=>chk one g r)
 | l,_,v,0,r=>by cases l<;>rfl
 | 0,_,v,f+1,r=>rfl
 | l+1,hl,v,f+1,r=>by
  have ih:=jcq (jeZ one l (by omega)) (parts v) f r
  show(if 20<=20 - (l+1) then 5 else if one v=0 then _ else one v)=fin (if one v=0 then _ else _) _
  rw [if_neg (by omega)]
  by_cases h0:one v=0
  ·rw [if_pos h0,if_pos h0,<-ih]
   have e:20 - (l+1)+1=20 - l:=by omega
   rw [e]
  ·rw [if_neg h0,if_neg h0]
   rfl
def jC (one:V->Int)(v:V):Int:=chk one 2000 [(v,0)]
theorem jdf (one:V->Int)(v:V):jC one v=fin (zX one 20 2000 v) (fun _=>0):=by
 refine(jeZ one 20 (Nat.le_refl _) v 2000 []).trans ?_
 cases zX one 20 2000 v with
 | inl e=>rfl
 | inr g=>cases g<;>rfl
end valus
namespace bigs
def val:List Nat->Nat
 | []=>0
 | d :: r=>d+10000*val r
def jcN:Nat->Nat->List Nat
 | 0,_=>[]
 | f+1,n=>if n=0 then [] else n % 10000 :: jcN f (n / 10000)
theorem jat (f:Nat):jcN f 0=[]:=by cases f<;>rfl
theorem jfO (n:Nat):∀(f g:Nat),n<=f->n<=g->jcN f n=jcN g n:=by
 induction n using Nat.strongRecOn with
 | ind n ih=>
  intro f g hf hg
  by_cases h:n=0
  ·rw [h,jat,jat]
  ·obtain⟨f',rfl⟩:∃f',f=f'+1:=⟨f - 1,by omega⟩
   obtain⟨g',rfl⟩:∃g',g=g'+1:=⟨g - 1,by omega⟩
   rw [jcN,jcN,if_neg h,if_neg h,ih (n / 10000) (by omega) f' g' (by omega) (by omega)]
def dig (n:Nat):List Nat:=jcN n n
theorem qC:dig 0=[]:=rfl
theorem Jt {n:Nat}(h:n≠0):dig n=n % 10000 :: dig (n / 10000):=by
 obtain⟨m,rfl⟩:∃m,n=m+1:=⟨n - 1,by omega⟩
 unfold dig;rw [jcN,if_neg h,jfO ((m+1) / 10000) m ((m+1) / 10000) (by omega) (Nat.le_refl _)]
theorem zl (n:Nat):val (dig n)=n:=by
 induction n using Nat.strongRecOn with
 | ind n ih=>
  by_cases h:n=0
  ·subst h;rw [qC];rfl
  ·rw [Jt h,val,ih _ (by omega)];omega
def jH (l:List Nat):Prop:=∀j,j<l.length->l.getD j 0<10000
theorem qK {d:Nat}{r:List Nat}:jH (d :: r)↔d<10000/\jH r:=by
 constructor
 ·intro h
  exact⟨h 0 (by simp),fun j hj=>h (j+1) (by simpa using hj)⟩
 ·rintro⟨h1,h2⟩ j hj
  cases j with
  | zero=>exact h1
  | succ j=>exact h2 j (by simpa using hj)
theorem zp:jH []:=fun j h=>absurd h (by simp)
theorem qn (n:Nat):jH (dig n):=by
 induction n using Nat.strongRecOn with
 | ind n ih=>
  by_cases h:n=0
  ·subst h;rw [qC];exact zp
  ·rw [Jt h];exact qK.2 ⟨by omega,ih _ (by omega)⟩
theorem qD {l:List Nat}(h:jH l)(j:Nat):l.getD j 0<10000:=by
 by_cases hj:j<l.length
 ·exact h j hj
 ·rw [List.getD,List.getElem?_eq_none (by omega)];simp
theorem zN {a b:List Nat}:jH (a++b)↔jH a/\jH b:=by
 induction a with
 | nil=>simp [zp]
 | cons x a ih=>rw [List.cons_append,qK,qK,ih,and_assoc]
theorem zu (a b:List Nat):val (a++b)=val a+10000 ^ a.length*val b:=by
 induction a with
 | nil=>simp [val]
 | cons x a ih=>
  rw [List.cons_append,val,val,ih,List.length_cons,Nat.pow_succ];have:10000 ^ a.length*10000*val b=10000*(10000 ^ a.length*val b):=by rw [Nat.mul_comm (10000 ^ a.length),Nat.mul_assoc]
  rw [this];omega
theorem jbk {l:List Nat}(h:jH l):val l<10000 ^ l.length:=by
 induction l with
 | nil=>simp [val]
 | cons d r ih=>
  have h':=qK.1 h;have:=ih h'.2;rw [val,List.length_cons,Nat.pow_succ];omega
theorem jcg:∀{l:List Nat},jH l->(l=[]\/l.getD (l.length - 1) 0≠0)->dig (val l)=l
 | [],_,_=>qC
 | d :: r,h,hl=>by
  obtain⟨h1,h2⟩:=qK.1 h
  have hr:r=[]\/r.getD (r.length - 1) 0≠0:=by
   by_cases e:r=[]
   ·exact .inl e
   ·right
    rcases hl with hl | hl
    ·cases hl
    ·have hp:0<r.length:=List.length_pos_iff.2 e
     have e1:(d :: r).length - 1=(r.length - 1)+1:=by rw [List.length_cons];omega
     rw [e1,List.getD_cons_succ] at hl;exact hl
  have ih:=jcg h2 hr
  have hne:val (d :: r)≠0:=by
   intro e;rw [val] at e;have e0:val r=0:=by omega
   rw [e0,qC] at ih;subst ih
   rcases hl with hl | hl
   ·cases hl
   ·simp at hl
    omega
  rw [Jt hne];have e1:val (d :: r) % 10000=d:=by rw [val];omega
  have e2:val (d :: r) / 10000=val r:=by rw [val];omega
  rw [e1,e2,ih]
theorem ZU (l:List Nat)(k:Nat)(h:k<l.length):l.take (k+1)=l.take k++[l.getD k 0]:=by
 rw [List.take_succ_eq_append_getElem h];simp [List.getD,List.getElem?_eq_getElem h]
theorem Zw (d:Nat):val [d]=d:=by simp [val]
theorem QU (l:List Nat)(k:Nat)(h:k<l.length):val (l.take (k+1))=val (l.take k)+10000 ^ k*l.getD k 0:=by
 rw [ZU l k h,zu,Zw,List.length_take,Nat.min_eq_left (by omega)]
theorem jN {n k:Nat}(h:n<10000 ^ k):(dig n).length<=k:=by
 induction k generalizing n with
 | zero=>
  have:n=0:=by simpa using h
  subst this;rw [qC];simp
 | succ k ih=>
  by_cases h0:n=0
  ·subst h0;rw [qC];simp
  ·rw [Jt h0,List.length_cons]
   have:n / 10000<10000 ^ k:=by
    rw [Nat.pow_succ] at h;exact Nat.div_lt_of_lt_mul (by omega)
   have:=ih this;omega
theorem Q1 (n:Nat):n<10000 ^ (dig n).length:=by have:=jbk (qn n);rwa [zl] at this
end bigs
namespace toks
def isB (c:UInt8):Bool:=c == 32 || c == 9 || c == 13
def isW (c:UInt8):Bool:=decide ((97<=c.toNat/\c.toNat<=122)\/(65<=c.toNat/\c.toNat<=90)\/(48<=c.toNat/\c.toNat<=57)\/c.toNat=95\/c.toNat=45\/c.toNat=43\/c.toNat=46)
def isM (c:UInt8):Bool:=c == 123 || c == 125 || c == 91 || c == 93 || c == 58 || c == 61 || c == 44
def noL (c:UInt8):Bool:=c != 10
def zA (p:UInt8->Bool):List UInt8->Nat
 | []=>0
 | c :: l=>if p c=true then zA p l+1 else 0
def Qk:List UInt8->Nat
 | []=>0
 | [_]=>0
 | a :: b :: l=>if a=42/\b=47 then 2 else if Qk (b :: l)=0 then 0 else Qk (b :: l)+1
def jW:List UInt8->Nat
 | []=>0
 | [c]=>if c=34 then 1 else 0
 | c :: d :: l=>if c=34 then 1 else if c=10 then 0 else if c=92 then (if d=10 then 0 else if jW l=0 then 0 else jW l+2) else if jW (d :: l)=0 then 0 else jW (d :: l)+1
def qx (l:List UInt8):Nat×Nat :=
 match l with
 | []=>(0,0)
 | c :: t=>
  if isB c=true then (1,zA isB (c :: t))
  else if c=10 then (2,1)
  else if c=35 then (3,zA noL (c :: t))
  else if isW c=true then (4,zA isW (c :: t))
  else if isM c=true then (6,1)
  else if c=34/\jW t≠0 then (5,jW t+1)
  else if c=47/\t.head?=some 42/\Qk (t.drop 1)≠0 then (3,Qk (t.drop 1)+2)
  else (7,1)
structure Tk where
 kind:Nat
 fro:Nat
 til:Nat
theorem Xu (p:UInt8->Bool):∀l:List UInt8,zA p l<=l.length
 | []=>Nat.le_refl _
 | c :: l=>by
  have:=Xu p l;unfold zA;split
  ·simp only [List.length_cons];omega
  ·exact Nat.zero_le _
theorem jas:∀l:List UInt8,Qk l<=l.length
 | []=>Nat.le_refl _
 | [_]=>Nat.zero_le _
 | a :: b :: l=>by
  have:=jas (b :: l);unfold Qk;simp only [List.length_cons] at this ⊢;split
  ·omega
  ·split
   ·omega
   ·omega
theorem XJ:∀l:List UInt8,jW l<=l.length
 | []=>Nat.le_refl _
 | [c]=>by unfold jW;split<;>simp
 | c :: d :: l=>by
  have h1:=XJ l;have h2:=XJ (d :: l);unfold jW;simp only [List.length_cons] at h2 ⊢;split
  ·omega
  ·split
   ·omega
   ·split
    ·split
     ·omega
     ·split<;>omega
    ·split<;>omega
theorem Ys {p:UInt8->Bool}{c:UInt8}{t:List UInt8}(h:p c=true):zA p (c :: t)=zA p t+1:=by rw [zA,if_pos h]
theorem QB {l:List UInt8}(h:l≠[]):1<=(qx l).2/\(qx l).2<=l.length/\1<=(qx l).1/\(qx l).1<=7:=by
 match l,h with
 | c :: t,_=>
  have r1:=Xu isB (c :: t);have r2:=Xu noL (c :: t);have r3:=Xu isW (c :: t);have s1:=XJ t;have s2:=jas (t.drop 1);rw [List.length_drop] at s2;simp only [List.length_cons] at r1 r2 r3 ⊢;unfold qx;simp only;split
  ·rename_i hc;rw [Ys hc] at r1 ⊢;simp only;omega
  ·split
   ·simp only;omega
   ·split
    ·rename_i hc
     have:noL c=true:=by rw [hc];rfl
     rw [Ys this] at r2 ⊢;simp only;omega
    ·split
     ·rename_i hc;rw [Ys hc] at r3 ⊢;simp only;omega
     ·split
      ·simp only;omega
      ·split
       ·simp only;omega
       ·split
        ·rename_i hc
         have:t≠[]:=fun e=>by rw [e] at hc;simp at hc
         have:=List.length_pos_iff.2 this;simp only;omega
        ·simp only;omega
end toks
namespace valus
theorem jaL {q p:Nat->V->Int⊕Nat}{k:Nat}(h:∀x f g,q f x=.inr g->p (f+k) x=.inr (g+k)):∀{ps:List V} {f g:Nat},zM q f ps=.inr g->zM p (f+k) ps=.inr (g+k)
 | [],f,g,e=>by
  injection e with e;rw [<-e];rfl
 | x :: ps,f,g,e=>by
  show(match p (f+k) x with | .inl e=>Sum.inl e | .inr g=>zM p g ps)=_
  cases hx:q f x with
  | inl z=>
   have e':(match q f x with | .inl e=>Sum.inl e | .inr g=>zM q g ps)=.inr g:=e;rw [hx] at e';cases e'
  | inr z=>
   have e':(match q f x with | .inl e=>Sum.inl e | .inr g=>zM q g ps)=.inr g:=e;rw [hx] at e';rw [h x f z hx];exact jaL h e'
theorem jbh (one:V->Int)(k:Nat):∀(l:Nat) (v:V) (f g:Nat),zX one l f v=.inr g->zX one (l+1) (f+k) v=.inr (g+k)
 | l,v,0,g,e=>by cases l<;>cases e
 | 0,v,f+1,g,e=>by cases e
 | l+1,v,f+1,g,e=>by
  have e':(if one v=0 then zM (zX one l) f (parts v) else .inl (one v))=.inr g:=e;have hf:f+1+k=(f+k)+1:=by omega
  rw [hf]
  show(if one v=0 then zM (zX one (l+1)) (f+k) (parts v) else .inl (one v))=.inr (g+k)
  by_cases h0:one v=0
  ·rw [if_pos h0] at e' ⊢
   exact jaL (jbh one k l) e'
  ·rw [if_neg h0] at e'
   cases e'
theorem XE {q:Nat->V->Int⊕Nat}{c d:V->Nat}{b:Nat}:∀{ps:List V} {f g:Nat},(∀x∈ps,∀f g,q f x=.inr g->f=g+c x/\d x<=b)->zM q f ps=.inr g->f=g+j3 c ps/\∀x∈ps,d x<=b
 | [],f,g,h,e=>by
  injection e with e;exact⟨e,fun x hx=>by cases hx⟩
 | x :: ps,f,g,h,e=>by
  have e':(match q f x with | .inl e=>Sum.inl e | .inr g=>zM q g ps)=.inr g:=e;cases hx:q f x with
  | inl z=>
   rw [hx] at e';cases e'
  | inr z=>
   rw [hx] at e';obtain⟨a1,a2⟩:=h x (by simp) f z hx;obtain⟨b1,b2⟩:=XE (ps:=ps) (fun y hy=>h y (by simp [hy])) e';refine⟨?_,fun y hy=>?_⟩
   ·show f=g+(c x+j3 c ps)
    omega
   ·rcases List.mem_cons.1 hy with rfl | hy
    ·exact a2
    ·exact b2 y hy
theorem YI (one:V->Int):∀(l n:Nat) (v:V) (f g:Nat),IsV n v->zX one l f v=.inr g->f=g+jB n v/\zj n v<=l
 | l,_,v,0,g,_,e=>by cases l<;>cases e
 | 0,_,v,f+1,g,_,e=>by cases e
 | l+1,0,v,f+1,g,h,e=>h.elim
 | l+1,n+1,v,f+1,g,h,e=>by
  have e':(if one v=0 then zM (zX one l) f (parts v) else .inl (one v))=.inr g:=e
  by_cases h0:one v=0
  ·rw [if_pos h0] at e'
   obtain⟨a,b⟩:=XE (c:=jB n) (d:=zj n) (b:=l) (fun x hx f g hg=>YI one l n x f g (h.part hx) hg) e';refine⟨?_,Nat.succ_le_succ (jci b)⟩
   show f+1=g+(j3 (jB n) (parts v)+1)
   omega
  ·rw [if_neg h0] at e'
   cases e'
theorem jal {q:Nat->V->Int⊕Nat}:∀{ps:List V} {f g:Nat},(∀x f g,q f x=.inr g->g<=f)->zM q f ps=.inr g->∀x∈ps,∃f' g',f'<=f/\q f' x=.inr g'
 | [],f,g,h,e,x,hx=>by cases hx
 | x :: ps,f,g,h,e,y,hy=>by
  have e':(match q f x with | .inl e=>Sum.inl e | .inr g=>zM q g ps)=.inr g:=e;cases hx:q f x with
  | inl z=>
   rw [hx] at e';cases e'
  | inr z=>
   rw [hx] at e'
   rcases List.mem_cons.1 hy with rfl | hy
   ·exact⟨f,z,Nat.le_refl _,hx⟩
   ·obtain⟨f',g',a,b⟩:=jal h e' y hy
    exact⟨f',g',Nat.le_trans a (h x f z hx),b⟩
theorem jeM {q:Nat->V->Int⊕Nat}(h:∀x f g,q f x=.inr g->g<=f):∀{ps:List V} {f g:Nat},zM q f ps=.inr g->g<=f
 | [],f,g,e=>by
  injection e with e;omega
 | x :: ps,f,g,e=>by
  have e':(match q f x with | .inl e=>Sum.inl e | .inr g=>zM q g ps)=.inr g:=e;cases hx:q f x with
  | inl z=>
   rw [hx] at e';cases e'
  | inr z=>
   rw [hx] at e';exact Nat.le_trans (jeM h e') (h x f z hx)
theorem jeI (one:V->Int):∀(l:Nat) (v:V) (f g:Nat),zX one l f v=.inr g->g<=f
 | l,v,0,g,e=>by cases l<;>cases e
 | 0,v,f+1,g,e=>by cases e
 | l+1,v,f+1,g,e=>by
  have e':(if one v=0 then zM (zX one l) f (parts v) else .inl (one v))=.inr g:=e
  by_cases h0:one v=0
  ·rw [if_pos h0] at e'
   exact Nat.le_succ_of_le (jeM (jeI one l) e')
  ·rw [if_neg h0] at e'
   cases e'
theorem jeR {q:Nat->V->Int⊕Nat}(h:∀x f,q f x≠.inl 0):∀{ps:List V} {f:Nat},zM q f ps≠.inl 0
 | [],f=>fun e=>by cases e
 | x :: ps,f=>by
  show(match q f x with | .inl e=>Sum.inl e | .inr g=>zM q g ps)≠_
  cases hx:q f x with
  | inl z=>
   intro e;injection e with e;rw [e] at hx;exact h x f hx
  | inr z=>exact jeR h
theorem je2 (one:V->Int):∀(l:Nat) (v:V) (f:Nat),zX one l f v≠.inl 0
 | l,v,0=>fun e=>by cases l<;>cases e
 | 0,v,f+1=>fun e=>by cases e
 | l+1,v,f+1=>by
  show(if one v=0 then zM (zX one l) f (parts v) else .inl (one v))≠_
  by_cases h0:one v=0
  ·rw [if_pos h0]
   exact jeR (je2 one l)
  ·rw [if_neg h0]
   intro e;injection e with e;exact h0 e
theorem J8 {one:V->Int}{v:V}:jC one v=0↔∃g,zX one 20 2000 v=.inr g:=by
 rw [jdf];cases h:zX one 20 2000 v with
 | inl e=>
  constructor
  ·intro e0
   have e1:e=0:=e0;rw [e1] at h;exact absurd h (je2 one 20 v 2000)
  ·rintro⟨g,hg⟩
   cases hg
 | inr g=>exact⟨fun _=>⟨g,rfl⟩,fun _=>rfl⟩
theorem zb {one:V->Int}{v x:V}(h:jC one v=0)(hx:x∈parts v):jC one x=0:=by
 obtain⟨g,hg⟩:=J8.1 h;have e':(if one v=0 then zM (zX one 19) 1999 (parts v) else .inl (one v))=.inr g:=hg
 by_cases h0:one v=0
 ·rw [if_pos h0] at e'
  obtain⟨f',g',a,b⟩:=jal (jeI one 19) e' x hx;refine J8.2 ⟨g'+(2000 - f'),?_⟩;have c:=jbh one (2000 - f') 19 x f' g' b;have d:f'+(2000 - f')=2000:=by omega
  rw [d] at c;exact c
 ·rw [if_neg h0] at e'
  cases e'
theorem JR {one:V->Int}{n:Nat}{v:V}(hv:IsV n v)(h:jC one v=0):zj n v<=20/\jB n v<=2000:=by
 obtain⟨g,hg⟩:=J8.1 h;obtain⟨a,b⟩:=YI one 20 n v 2000 g hv hg;exact⟨b,by omega⟩
theorem Jk {one:V->Int}{v:V}(h:jC one v=0):one v=0:=by
 obtain⟨g,hg⟩:=J8.1 h;have e':(if one v=0 then zM (zX one 19) 1999 (parts v) else .inl (one v))=.inr g:=hg
 by_cases h0:one v=0
 ·exact h0
 ·rw [if_neg h0] at e'
  cases e'
end valus
namespace trees
abbrev T:=DataW (Nat×Nat×Nat)
def nd (k a e:Nat)(l:List T):T:=.slice l [.held (k,a,e)]
abbrev Sym:=UInt8×Nat
abbrev R:=(Nat×List Sym)⊕(T×List Sym)
end trees
namespace valus
section
variable {β : Type}
theorem jdD {a b c:List UInt8}(h:ZG a b=.lt)(g:ZG b c=.lt):ZG a c=.lt:=Zy.trans a b c trivial trivial trivial h g
end
end valus
namespace trees
def Part (seg ts:List Sym):Prop:=∃pre post,ts=pre++(seg++post)
theorem Part.trans {a b c:List Sym}(h:Part a b)(h':Part b c):Part a c:=by
 obtain⟨p,q,rfl⟩:=h;obtain⟨p',q',rfl⟩:=h';exact⟨p'++p,q++q',by simp⟩
open toks
def jc2 (L:List UInt8)(t:Tk):UInt8:=if t.kind=6 then L.getD t.fro 0 else if t.kind=7 then 63 else 120
def Q2 (L:List UInt8):Nat->List Tk->List Sym
 | _,[]=>[]
 | i,t :: r=>if 3<t.kind then (jc2 L t,i) :: Q2 L (i+1) r else Q2 L (i+1) r
theorem ji8 {L:List UInt8}{i:Nat}{t:Tk}{r:List Tk}(h:3<t.kind):Q2 L i (t :: r)=(jc2 L t,i) :: Q2 L (i+1) r:=by rw [Q2,if_pos h]
theorem jgU {L:List UInt8}{i:Nat}{t:Tk}{r:List Tk}(h:¬3<t.kind):Q2 L i (t :: r)=Q2 L (i+1) r:=by rw [Q2,if_neg h]
theorem Yw (L:List UInt8):∀(l:List Tk) (i:Nat) (x:Sym),x∈Q2 L i l->i<=x.2/\∃h:x.2 - i<l.length,3<l[x.2 - i].kind/\x.1=jc2 L l[x.2 - i]
 | [],i,x,h=>by cases h
 | t :: l,i,x,h=>by
  have go:x∈Q2 L (i+1) l->i<=x.2/\∃h:x.2 - i<(t :: l).length,3<(t :: l)[x.2 - i].kind/\x.1=jc2 L (t :: l)[x.2 - i]:=fun hm=>by
   obtain⟨h1,h2,h3,h4⟩:=Yw L l (i+1) x hm;refine⟨by omega,by simp only [List.length_cons];omega,?_⟩
   have e:(t :: l)[x.2 - i]'(by simp only [List.length_cons];omega)=l[x.2 - (i+1)]:=by
    have:x.2 - i=(x.2 - (i+1))+1:=by omega
    simp only [this,List.getElem_cons_succ]
   rw [e];exact⟨h3,h4⟩
  by_cases hk:3<t.kind
  ·rw [ji8 hk] at h
   rcases List.mem_cons.1 h with rfl | h
   ·refine⟨Nat.le_refl _,by simp,?_⟩
    simp only [Nat.sub_self,List.getElem_cons_zero];exact⟨hk,trivial⟩
   ·exact go h
  ·rw [jgU hk] at h
   exact go h
end trees
end Go.Proofs.YtnbfnjhbmeocfaaGreatDoor
