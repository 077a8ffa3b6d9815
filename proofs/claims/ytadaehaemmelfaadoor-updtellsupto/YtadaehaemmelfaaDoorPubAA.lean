/- Of our texts, what this claim reaches. -/
import GoSem.ClaimWide
set_option linter.unusedVariables false
namespace Go.Proofs.YtadaehaemmelfaaDoor
namespace valus
structure IsOrd {α:Type} (P:α->Prop) (c:α->α->Ordering):Prop where
 swap:∀a b,P a->P b->c b a=(c a b).swap
 same:∀a b,P a->P b->(c a b=.eq↔a=b)
 trans:∀a b d,P a->P b->P d->c a b=.lt->c b d=.lt->c a d=.lt
theorem IsOrd.refl {α:Type}{P:α->Prop}{c:α->α->Ordering}(h:IsOrd P c){a:α}(ha:P a):c a a=.eq:=(h.same a a ha ha).2 rfl
theorem IsOrd.mono {α:Type}{P Q:α->Prop}{c:α->α->Ordering}(h:IsOrd P c)(hq:∀a,Q a->P a):IsOrd Q c :=
 ⟨fun a b ha hb=>h.swap a b (hq a ha) (hq b hb),fun a b ha hb=>h.same a b (hq a ha) (hq b hb),fun a b d ha hb hd=>h.trans a b d (hq a ha) (hq b hb) (hq d hd)⟩
def qb (a b:Int):Ordering:=if a<b then .lt else if a=b then .eq else .gt
theorem zK:IsOrd (fun _=>True) qb:=by
 refine⟨fun a b _ _=>?_,fun a b _ _=>?_,fun a b d _ _ _ h1 h2=>?_⟩
 ·unfold qb
  by_cases h1:a<b
  ·rw [if_pos h1,if_neg (by omega),if_neg (by omega)];rfl
  ·by_cases h2:a=b
   ·rw [if_neg h1,if_pos h2,if_neg (by omega),if_pos h2.symm];rfl
   ·rw [if_neg h1,if_neg h2,if_pos (by omega)];rfl
 ·unfold qb
  by_cases h1:a<b
  ·rw [if_pos h1]
   exact⟨fun h=>(by cases h),fun h=>(by omega)⟩
  ·by_cases h2:a=b
   ·rw [if_neg h1,if_pos h2]
    exact⟨fun _=>h2,fun _=>rfl⟩
   ·rw [if_neg h1,if_neg h2]
    exact⟨fun h=>(by cases h),fun h=>absurd h h2⟩
 ·have e:∀x y,qb x y=.lt->x<y:=fun x y h=>by
   unfold qb at h
   by_cases h1:x<y
   ·exact h1
   ·by_cases h2:x=y
    ·rw [if_neg h1,if_pos h2] at h;cases h
    ·rw [if_neg h1,if_neg h2] at h;cases h
  unfold qb;rw [if_pos (Int.lt_trans (e _ _ h1) (e _ _ h2))]
theorem IsOrd.key {α β:Type}{P:β->Prop}{Q:α->Prop}{c:β->β->Ordering}(h:IsOrd P c)(f:α->β)(hp:∀a,Q a->P (f a))(hi:∀a b,Q a->Q b->f a=f b->a=b):IsOrd Q (fun a b=>c (f a) (f b)) :=
 ⟨fun a b ha hb=>h.swap _ _ (hp a ha) (hp b hb),fun a b ha hb=>⟨fun e=>hi a b ha hb ((h.same _ _ (hp a ha) (hp b hb)).1 e),fun e=>by subst e;exact h.refl (hp a ha)⟩,fun a b d ha hb hd=>h.trans _ _ _ (hp a ha) (hp b hb) (hp d hd)⟩
def jw (x y:Ordering):Ordering:=match x with | .eq=>y | _=>x
theorem zD {x y:Ordering}(h:jw x y=.lt):x=.lt\/(x=.eq/\y=.lt):=by
 cases x with
 | lt=>exact .inl rfl
 | eq=>exact .inr ⟨rfl,h⟩
 | gt=>cases h
theorem XO {x y:Ordering}:jw x y=.eq↔x=.eq/\y=.eq:=by
 cases x with
 | lt=>exact⟨fun h=>(by cases h),fun h=>(by cases h.1)⟩
 | eq=>exact⟨fun h=>⟨rfl,h⟩,fun h=>h.2⟩
 | gt=>exact⟨fun h=>(by cases h),fun h=>(by cases h.1)⟩
theorem Qq (x y:Ordering):(jw x y).swap=jw x.swap y.swap:=by cases x<;>rfl
theorem IsOrd.pair {α β:Type}{P:α->Prop}{Q:β->Prop}{c:α->α->Ordering}{d:β->β->Ordering}(h:IsOrd P c)(g:IsOrd Q d):IsOrd (fun p:α×β=>P p.1/\Q p.2) (fun p q=>jw (c p.1 q.1) (d p.2 q.2)):=by
 refine⟨fun p q hp hq=>?_,fun p q hp hq=>?_,fun p q r hp hq hr h1 h2=>?_⟩
 ·rw [Qq,h.swap _ _ hp.1 hq.1,g.swap _ _ hp.2 hq.2]
 ·rw [XO,h.same _ _ hp.1 hq.1,g.same _ _ hp.2 hq.2]
  exact⟨fun e=>Prod.ext e.1 e.2,fun e=>by rw [e];exact⟨rfl,rfl⟩⟩
 ·rcases zD h1 with a1 | ⟨a1,b1⟩
  ·rcases zD h2 with a2 | ⟨a2,b2⟩
   ·rw [h.trans _ _ _ hp.1 hq.1 hr.1 a1 a2];rfl
   ·have e:=(h.same _ _ hq.1 hr.1).1 a2
    rw [<-e,a1];rfl
  ·have e:=(h.same _ _ hp.1 hq.1).1 a1
   rcases zD h2 with a2 | ⟨a2,b2⟩
   ·rw [e,a2];rfl
   ·rw [e,a2]
    exact g.trans _ _ _ hp.2 hq.2 hr.2 b1 b2
def cmpL {α:Type}(c:α->α->Ordering):List α->List α->Ordering
 | [],[]=>.eq
 | [],_ :: _=>.lt
 | _ :: _,[]=>.gt
 | x :: r,y :: t=>jw (c x y) (cmpL c r t)
theorem IsOrd.list {α:Type}{P:α->Prop}{c:α->α->Ordering}(h:IsOrd P c):IsOrd (fun l:List α=>∀x∈l,P x) (cmpL c):=by
 have sw:∀a b:List α,(∀x∈a,P x)->(∀x∈b,P x)->cmpL c b a=(cmpL c a b).swap:=by
  intro a
  induction a with
  | nil=>intro b _ _;cases b<;>rfl
  | cons x r ih=>
   intro b ha hb;cases b with
   | nil=>rfl
   | cons y t=>
    show jw _ _=(jw _ _).swap
    rw [Qq,h.swap x y (ha x (by simp)) (hb y (by simp)),ih t (fun z hz=>ha z (by simp [hz])) (fun z hz=>hb z (by simp [hz]))]
 have sm:∀a b:List α,(∀x∈a,P x)->(∀x∈b,P x)->(cmpL c a b=.eq↔a=b):=by
  intro a
  induction a with
  | nil=>
   intro b _ _;cases b with
   | nil=>exact⟨fun _=>rfl,fun _=>rfl⟩
   | cons y t=>exact⟨fun h=>(by cases h),fun h=>(by cases h)⟩
  | cons x r ih=>
   intro b ha hb;cases b with
   | nil=>exact⟨fun h=>(by cases h),fun h=>(by cases h)⟩
   | cons y t=>
    show jw _ _=.eq↔_
    rw [XO,h.same x y (ha x (by simp)) (hb y (by simp)),ih t (fun z hz=>ha z (by simp [hz])) (fun z hz=>hb z (by simp [hz]))];exact⟨fun e=>by rw [e.1,e.2],fun e=>by injection e with e1 e2;exact⟨e1,e2⟩⟩
 refine⟨sw,sm,?_⟩;intro a
 induction a with
 | nil=>
  intro b d _ _ _ h1 h2;cases b with
  | nil=>cases h1
  | cons y t=>
   cases d with
   | nil=>cases h2
   | cons z u=>rfl
 | cons x r ih=>
  intro b d ha hb hd h1 h2;cases b with
  | nil=>cases h1
  | cons y t=>
   cases d with
   | nil=>cases h2
   | cons z u=>
    have hx:=ha x (by simp);have hy:=hb y (by simp);have hz:=hd z (by simp)
    show jw _ _=.lt
    rcases zD h1 with a1 | ⟨a1,b1⟩
    ·rcases zD h2 with a2 | ⟨a2,b2⟩
     ·rw [h.trans x y z hx hy hz a1 a2];rfl
     ·have e:=(h.same y z hy hz).1 a2
      rw [<-e,a1];rfl
    ·have e:=(h.same x y hx hy).1 a1
     rcases zD h2 with a2 | ⟨a2,b2⟩
     ·rw [e,a2];rfl
     ·rw [e,a2]
      exact ih t u (fun z hz=>ha z (by simp [hz])) (fun z hz=>hb z (by simp [hz])) (fun z hz=>hd z (by simp [hz])) b1 b2
def qw (x:Ordering):Int:=match x with | .lt=>-1 | .eq=>0 | .gt=>1
theorem Js {x:Ordering}:qw x=0↔x=.eq:=by cases x<;>simp [qw]
def zH:List UInt8->List UInt8->Ordering:=cmpL (fun a b=>qb (a.toNat:Int) (b.toNat:Int))
theorem qC:IsOrd (fun _=>True) zH:=by
 have h:IsOrd (fun _:UInt8=>True) (fun a b=>qb (a.toNat:Int) (b.toNat:Int)):=zK.key (fun a:UInt8=>(a.toNat:Int)) (fun _ _=>trivial) (fun a b _ _ e=>UInt8.toNat_inj.1 (by omega));exact h.list.mono (fun _ _ x _=>trivial)
def qi (f:Nat):Int:=if f<9223372036854775808 then (f:Int) else -(f:Int) - 1+9223372036854775808
theorem XD:IsOrd (fun f:Nat=>f<18446744073709551616) (fun a b=>qb (qi a) (qi b)):=by
 refine zK.key qi (fun _ _=>trivial) (fun a b ha hb e=>?_);unfold qi at e;split at e<;>split at e<;>omega
abbrev Lab:=Int×Int×Nat×List UInt8
abbrev V:=DataW Lab
def mkV (x:Lab)(L E:List V):V:=.slice L (.held x :: E)
def ent (k:List UInt8)(v:V):V:=mkV (0,0,0,k) [v] []
def opn:V->Lab×List V×List V
 | .slice L (.held x :: E)=>(x,L,E)
 | _=>((0,0,0,[]),[],[])
theorem jQ (x:Lab)(L E:List V):opn (mkV x L E)=(x,L,E):=rfl
def jE (e:V):List UInt8×V:=((opn e).1.2.2.2,(opn e).2.1.headD .nil)
theorem jv (k:List UInt8)(v:V):jE (ent k v)=(k,v):=rfl
theorem jbq {x y:Lab}{L M E F:List V}(h:mkV x L E=mkV y M F):x=y/\L=M/\E=F:=by
 have e:=congrArg opn h;rw [jQ,jQ] at e;injection e with e1 e2;injection e2 with e3 e4;exact⟨e1,e3,e4⟩
theorem ZY {k m:List UInt8}{v u:V}(h:ent k v=ent m u):k=m/\v=u:=by
 have e:=congrArg jE h;rw [jv,jv] at e;injection e with e1 e2;exact⟨e1,e2⟩
def IsV:Nat->V->Prop
 | 0,_=>False
 | n+1,v=>∃x L E,v=mkV x L E/\x.2.2.1<18446744073709551616/\(∀y∈L,IsV n y)/\∀e∈E,∃k y,e=ent k y/\IsV n y
def IsE (n:Nat)(e:V):Prop:=∃k y,e=ent k y/\IsV n y
theorem IsV.mk {n:Nat}{x:Lab}{L E:List V}:IsV (n+1) (mkV x L E)↔x.2.2.1<18446744073709551616/\(∀y∈L,IsV n y)/\∀e∈E,IsE n e:=by
 constructor
 ·rintro⟨x',L',E',h,a,b,c⟩
  obtain⟨h1,h2,h3⟩:=jbq h;subst h1;subst h2;subst h3;exact⟨a,b,c⟩
 ·rintro⟨a,b,c⟩
  exact⟨x,L,E,rfl,a,b,c⟩
theorem IsV.more:∀{n:Nat} {v:V},IsV n v->IsV (n+1) v
 | 0,_,h=>h.elim
 | n+1,_,⟨x,L,E,e,a,b,c⟩=>⟨x,L,E,e,a,fun y hy=>(b y hy).more,fun z hz=>by
  obtain⟨k,y,h1,h2⟩:=c z hz;exact⟨k,y,h1,h2.more⟩⟩
theorem IsV.le {n m:Nat}{v:V}(h:IsV n v)(hm:n<=m):IsV m v:=by
 obtain⟨d,rfl⟩:=Nat.le.dest hm
 induction d with
 | zero=>exact h
 | succ d ih=>exact(ih (by omega)).more
def jav (x y:Lab):Ordering:=jw (qb x.1 y.1) (jw (qb x.2.1 y.2.1) (jw (qb (qi x.2.2.1) (qi y.2.2.1)) (zH x.2.2.2 y.2.2.2)))
theorem X5:IsOrd (fun x:Lab=>x.2.2.1<18446744073709551616) jav :=
 (zK.pair (zK.pair (XD.pair qC))).mono (fun x h=>⟨trivial,trivial,h,trivial⟩)
def JE (c:V->V->Ordering)(e f:V):Ordering:=jw (zH (jE e).1 (jE f).1) (c (jE e).2 (jE f).2)
def jG:Nat->V->V->Ordering
 | 0,_,_=>.eq
 | n+1,a,b=>jw (jav (opn a).1 (opn b).1) (jw (cmpL (jG n) (opn a).2.1 (opn b).2.1) (cmpL (JE (jG n)) (opn a).2.2 (opn b).2.2))
theorem jaH {n:Nat}{c:V->V->Ordering}(h:IsOrd (IsV n) c):IsOrd (IsE n) (JE c):=by
 refine(qC.pair h).key jE (fun e he=>?_) (fun e f he hf hx=>?_)
 ·obtain⟨k,y,rfl,b⟩:=he
  exact⟨trivial,b⟩
 ·obtain⟨k,y,rfl,b⟩:=he
  obtain⟨m,z,rfl,b'⟩:=hf;rw [jv,jv] at hx;injection hx with h1 h2;rw [h1,h2]
theorem XB:∀n:Nat,IsOrd (IsV n) (jG n)
 | 0=>⟨fun _ _ h=>h.elim,fun _ _ h=>h.elim,fun _ _ _ h=>h.elim⟩
 | n+1=>by
  have ih:=XB n;refine(X5.pair (ih.list.pair (jaH ih).list)).key opn (fun v hv=>?_) (fun v u hv hu hx=>?_)
  ·obtain⟨x,L,E,rfl,a,b,c⟩:=hv
   exact⟨a,b,c⟩
  ·obtain⟨x,L,E,rfl,a,b,c⟩:=hv
   obtain⟨x',L',E',rfl,a',b',c'⟩:=hu;rw [jQ,jQ] at hx;injection hx with h1 h2;injection h2 with h3 h4;rw [h1,h3,h4]
def parts (v:V):List V:=(opn v).2.1++(opn v).2.2.map (fun e=>(jE e).2)
theorem jB (x:Lab)(L E:List V):parts (mkV x L E)=L++E.map (fun e=>(jE e).2):=rfl
theorem IsV.part {n:Nat}{v y:V}(h:IsV (n+1) v)(hy:y∈parts v):IsV n y:=by
 obtain⟨x,L,E,rfl,a,b,c⟩:=h;rw [jB,List.mem_append,List.mem_map] at hy
 rcases hy with hy | ⟨e,he,rfl⟩
 ·exact b y hy
 ·obtain⟨k,z,rfl,hz⟩:=c e he
  exact hz
def maxOf (q:V->Nat):List V->Nat
 | []=>0
 | x :: r=>max (q x) (maxOf q r)
def jo (q:V->Nat):List V->Nat
 | []=>0
 | x :: r=>q x+jo q r
theorem ZN (q:V->Nat):∀l m:List V,maxOf q (l++m)=max (maxOf q l) (maxOf q m)
 | [],m=>by show maxOf q m=max 0 _;omega
 | x :: r,m=>by
  show max _ (maxOf q (r++m))=max (max _ _) _
  rw [ZN q r m];omega
theorem jH (q:V->Nat):∀l m:List V,jo q (l++m)=jo q l+jo q m
 | [],m=>by show jo q m=0+_;omega
 | x :: r,m=>by
  show _+jo q (r++m)=_+_+_
  rw [jH q r m];omega
theorem J4 {p q:V->Nat}:∀{l:List V},(∀x∈l,p x=q x)->maxOf p l=maxOf q l
 | [],_=>rfl
 | x :: r,h=>by
  show max _ _=max _ _
  rw [h x (by simp),J4 (fun y hy=>h y (by simp [hy]))]
theorem J7 {p q:V->Nat}:∀{l:List V},(∀x∈l,p x=q x)->jo p l=jo q l
 | [],_=>rfl
 | x :: r,h=>by
  show _+_=_+_
  rw [h x (by simp),J7 (fun y hy=>h y (by simp [hy]))]
theorem jax {q:V->Nat}:∀{l:List V} {x:V},x∈l->q x<=maxOf q l
 | y :: r,x,h=>by
  show _<=max _ _
  rcases List.mem_cons.1 h with rfl | h
  ·omega
  ·have:=jax (q:=q) h
   omega
theorem Z9 {q:V->Nat}{b:Nat}:∀{l:List V},(∀x∈l,q x<=b)->maxOf q l<=b
 | [],_=>Nat.zero_le _
 | x :: r,h=>by
  show max _ _<=b
  have h1:=h x (by simp);have h2:=Z9 (q:=q) (b:=b) (l:=r) (fun y hy=>h y (by simp [hy]));omega
theorem zI {q:V->Nat}:∀{l:List V} {x:V},x∈l->q x<=jo q l
 | y :: r,x,h=>by
  show _<=_+_
  rcases List.mem_cons.1 h with rfl | h
  ·omega
  ·have:=zI (q:=q) h
   omega
def zw:Nat->V->Nat
 | 0,_=>0
 | n+1,v=>maxOf (zw n) (parts v)+1
def jd:Nat->V->Nat
 | 0,_=>0
 | n+1,v=>jo (jd n) (parts v)+1
theorem J3:∀{n:Nat} {v:V},IsV n v->zw (n+1) v=zw n v
 | 0,_,h=>h.elim
 | n+1,v,h=>by
  show maxOf (zw (n+1)) _+1=maxOf (zw n) _+1
  rw [J4 (fun x hx=>J3 (h.part hx))]
theorem jI:∀{n:Nat} {v:V},IsV n v->jd (n+1) v=jd n v
 | 0,_,h=>h.elim
 | n+1,v,h=>by
  show jo (jd (n+1)) _+1=jo (jd n) _+1
  rw [J7 (fun x hx=>jI (h.part hx))]
theorem jbZ {n m:Nat}{v:V}(h:IsV n v)(hm:n<=m):zw m v=zw n v:=by
 obtain⟨d,rfl⟩:=Nat.le.dest hm
 induction d with
 | zero=>rfl
 | succ d ih=>exact(J3 (n:=n+d) (h.le (by omega))).trans (ih (by omega))
theorem jS {n m:Nat}{v:V}(h:IsV n v)(hm:n<=m):jd m v=jd n v:=by
 obtain⟨d,rfl⟩:=Nat.le.dest hm
 induction d with
 | zero=>rfl
 | succ d ih=>exact(jI (n:=n+d) (h.le (by omega))).trans (ih (by omega))
def chk (one:V->Int):Nat->List (V×Nat)->Int
 | _,[]=>0
 | 0,_ :: _=>2
 | f+1,(v,d) :: r=>if 20<=d then 5 else if one v=0 then chk one f ((parts v).map (fun y=>(y,d+1))++r) else one v
def qV (q:Nat->V->Int⊕Nat):Nat->List V->Int⊕Nat
 | f,[]=>.inr f
 | f,x :: r=>match q f x with
  | .inl e=>.inl e
  | .inr g=>qV q g r
def zi (one:V->Int):Nat->Nat->V->Int⊕Nat
 | _,0,_=>.inl 2
 | 0,_+1,_=>.inl 5
 | l+1,f+1,v=>if one v=0 then qV (zi one l) f (parts v) else .inl (one v)
def fin (s:Int⊕Nat)(k:Nat->Int):Int:=match s with | .inl e=>e | .inr g=>k g
theorem XE {one:V->Int}{l:Nat}(h:∀v f r,chk one f ((v,20 - l) :: r)=fin (zi one l f v) (fun g=>chk one g r)):∀(ps:List V) (f:Nat) (r:List (V×Nat)),chk one f (ps.map (fun y=>(y,20 - l))++r)=fin (qV (zi one l) f ps) (fun g=>chk one g r)
 | [],f,r=>rfl
 | x :: ps,f,r=>by
  rw [List.map_cons,List.cons_append,h]
  show _=fin (match zi one l f x with | .inl e=>.inl e | .inr g=>qV (zi one l) g ps) _
  cases zi one l f x with
  | inl e=>rfl
  | inr g=>exact XE h ps g r
theorem YV (one:V->Int):∀(l:Nat),l<=20->∀v f r,chk one f ((v,20 - l) :: r)=fin (zi one l f v) (fun g=>chk one g r)
 | l,_,v,0,r=>by cases l<;>rfl
 | 0,_,v,f+1,r=>rfl
 | l+1,hl,v,f+1,r=>by
  have ih:=XE (YV one l (by omega)) (parts v) f r
  show(if 20<=20 - (l+1) then 5 else if one v=0 then _ else one v)=fin (if one v=0 then _ else _) _
  rw [if_neg (by omega)]
  by_cases h0:one v=0
  ·rw [if_pos h0,if_pos h0,<-ih]
   have e:20 - (l+1)+1=20 - l:=by omega
   rw [e]
  ·rw [if_neg h0,if_neg h0]
   rfl
def jh (one:V->Int)(v:V):Int:=chk one 2000 [(v,0)]
theorem Yu (one:V->Int)(v:V):jh one v=fin (zi one 20 2000 v) (fun _=>0):=by
 refine(YV one 20 (Nat.le_refl _) v 2000 []).trans ?_
 cases zi one 20 2000 v with
 | inl e=>rfl
 | inr g=>cases g<;>rfl
section
variable {β : Type}
theorem jac {a b:List UInt8}(h:zH a b=.lt):¬zH b a=.lt:=by
 rw [qC.swap a b trivial trivial,h]
 decide
theorem Yg {a b c:List UInt8}(h:zH a b=.lt)(g:zH b c=.lt):zH a c=.lt:=qC.trans a b c trivial trivial trivial h g
end
theorem Zl {q p:Nat->V->Int⊕Nat}{k:Nat}(h:∀x f g,q f x=.inr g->p (f+k) x=.inr (g+k)):∀{ps:List V} {f g:Nat},qV q f ps=.inr g->qV p (f+k) ps=.inr (g+k)
 | [],f,g,e=>by
  injection e with e;rw [<-e];rfl
 | x :: ps,f,g,e=>by
  show(match p (f+k) x with | .inl e=>Sum.inl e | .inr g=>qV p g ps)=_
  cases hx:q f x with
  | inl z=>
   have e':(match q f x with | .inl e=>Sum.inl e | .inr g=>qV q g ps)=.inr g:=e;rw [hx] at e';cases e'
  | inr z=>
   have e':(match q f x with | .inl e=>Sum.inl e | .inr g=>qV q g ps)=.inr g:=e;rw [hx] at e';rw [h x f z hx];exact Zl h e'
theorem Zu (one:V->Int)(k:Nat):∀(l:Nat) (v:V) (f g:Nat),zi one l f v=.inr g->zi one (l+1) (f+k) v=.inr (g+k)
 | l,v,0,g,e=>by cases l<;>cases e
 | 0,v,f+1,g,e=>by cases e
 | l+1,v,f+1,g,e=>by
  have e':(if one v=0 then qV (zi one l) f (parts v) else .inl (one v))=.inr g:=e;have hf:f+1+k=(f+k)+1:=by omega
  rw [hf]
  show(if one v=0 then qV (zi one (l+1)) (f+k) (parts v) else .inl (one v))=.inr (g+k)
  by_cases h0:one v=0
  ·rw [if_pos h0] at e' ⊢
   exact Zl (Zu one k l) e'
  ·rw [if_neg h0] at e'
   cases e'
theorem Qr {q:Nat->V->Int⊕Nat}{c d:V->Nat}{b:Nat}:∀{ps:List V} {f g:Nat},(∀x∈ps,∀f g,q f x=.inr g->f=g+c x/\d x<=b)->qV q f ps=.inr g->f=g+jo c ps/\∀x∈ps,d x<=b
 | [],f,g,h,e=>by
  injection e with e;exact⟨e,fun x hx=>by cases hx⟩
 | x :: ps,f,g,h,e=>by
  have e':(match q f x with | .inl e=>Sum.inl e | .inr g=>qV q g ps)=.inr g:=e;cases hx:q f x with
  | inl z=>
   rw [hx] at e';cases e'
  | inr z=>
   rw [hx] at e';obtain⟨a1,a2⟩:=h x (by simp) f z hx;obtain⟨b1,b2⟩:=Qr (ps:=ps) (fun y hy=>h y (by simp [hy])) e';refine⟨?_,fun y hy=>?_⟩
   ·show f=g+(c x+jo c ps)
    omega
   ·rcases List.mem_cons.1 hy with rfl | hy
    ·exact a2
    ·exact b2 y hy
theorem QY (one:V->Int):∀(l n:Nat) (v:V) (f g:Nat),IsV n v->zi one l f v=.inr g->f=g+jd n v/\zw n v<=l
 | l,_,v,0,g,_,e=>by cases l<;>cases e
 | 0,_,v,f+1,g,_,e=>by cases e
 | l+1,0,v,f+1,g,h,e=>h.elim
 | l+1,n+1,v,f+1,g,h,e=>by
  have e':(if one v=0 then qV (zi one l) f (parts v) else .inl (one v))=.inr g:=e
  by_cases h0:one v=0
  ·rw [if_pos h0] at e'
   obtain⟨a,b⟩:=Qr (c:=jd n) (d:=zw n) (b:=l) (fun x hx f g hg=>QY one l n x f g (h.part hx) hg) e';refine⟨?_,Nat.succ_le_succ (Z9 b)⟩
   show f+1=g+(jo (jd n) (parts v)+1)
   omega
  ·rw [if_neg h0] at e'
   cases e'
theorem Zt {q:Nat->V->Int⊕Nat}:∀{ps:List V} {f g:Nat},(∀x f g,q f x=.inr g->g<=f)->qV q f ps=.inr g->∀x∈ps,∃f' g',f'<=f/\q f' x=.inr g'
 | [],f,g,h,e,x,hx=>by cases hx
 | x :: ps,f,g,h,e,y,hy=>by
  have e':(match q f x with | .inl e=>Sum.inl e | .inr g=>qV q g ps)=.inr g:=e;cases hx:q f x with
  | inl z=>
   rw [hx] at e';cases e'
  | inr z=>
   rw [hx] at e'
   rcases List.mem_cons.1 hy with rfl | hy
   ·exact⟨f,z,Nat.le_refl _,hx⟩
   ·obtain⟨f',g',a,b⟩:=Zt h e' y hy
    exact⟨f',g',Nat.le_trans a (h x f z hx),b⟩
theorem Yz {q:Nat->V->Int⊕Nat}(h:∀x f g,q f x=.inr g->g<=f):∀{ps:List V} {f g:Nat},qV q f ps=.inr g->g<=f
 | [],f,g,e=>by
  injection e with e;omega
 | x :: ps,f,g,e=>by
  have e':(match q f x with | .inl e=>Sum.inl e | .inr g=>qV q g ps)=.inr g:=e;cases hx:q f x with
  | inl z=>
   rw [hx] at e';cases e'
  | inr z=>
   rw [hx] at e';exact Nat.le_trans (Yz h e') (h x f z hx)
theorem YF (one:V->Int):∀(l:Nat) (v:V) (f g:Nat),zi one l f v=.inr g->g<=f
 | l,v,0,g,e=>by cases l<;>cases e
 | 0,v,f+1,g,e=>by cases e
 | l+1,v,f+1,g,e=>by
  have e':(if one v=0 then qV (zi one l) f (parts v) else .inl (one v))=.inr g:=e
  by_cases h0:one v=0
  ·rw [if_pos h0] at e'
   exact Nat.le_succ_of_le (Yz (YF one l) e')
  ·rw [if_neg h0] at e'
   cases e'
theorem YJ {q:Nat->V->Int⊕Nat}(h:∀x f,q f x≠.inl 0):∀{ps:List V} {f:Nat},qV q f ps≠.inl 0
 | [],f=>fun e=>by cases e
 | x :: ps,f=>by
  show(match q f x with | .inl e=>Sum.inl e | .inr g=>qV q g ps)≠_
  cases hx:q f x with
  | inl z=>
   intro e;injection e with e;rw [e] at hx;exact h x f hx
  | inr z=>exact YJ h
theorem YL (one:V->Int):∀(l:Nat) (v:V) (f:Nat),zi one l f v≠.inl 0
 | l,v,0=>fun e=>by cases l<;>cases e
 | 0,v,f+1=>fun e=>by cases e
 | l+1,v,f+1=>by
  show(if one v=0 then qV (zi one l) f (parts v) else .inl (one v))≠_
  by_cases h0:one v=0
  ·rw [if_pos h0]
   exact YJ (YL one l)
  ·rw [if_neg h0]
   intro e;injection e with e;exact h0 e
theorem zN {one:V->Int}{v:V}:jh one v=0↔∃g,zi one 20 2000 v=.inr g:=by
 rw [Yu];cases h:zi one 20 2000 v with
 | inl e=>
  constructor
  ·intro e0
   have e1:e=0:=e0;rw [e1] at h;exact absurd h (YL one 20 v 2000)
  ·rintro⟨g,hg⟩
   cases hg
 | inr g=>exact⟨fun _=>⟨g,rfl⟩,fun _=>rfl⟩
theorem jar {one:V->Int}{v x:V}(h:jh one v=0)(hx:x∈parts v):jh one x=0:=by
 obtain⟨g,hg⟩:=zN.1 h;have e':(if one v=0 then qV (zi one 19) 1999 (parts v) else .inl (one v))=.inr g:=hg
 by_cases h0:one v=0
 ·rw [if_pos h0] at e'
  obtain⟨f',g',a,b⟩:=Zt (YF one 19) e' x hx;refine zN.2 ⟨g'+(2000 - f'),?_⟩;have c:=Zu one (2000 - f') 19 x f' g' b;have d:f'+(2000 - f')=2000:=by omega
  rw [d] at c;exact c
 ·rw [if_neg h0] at e'
  cases e'
theorem QS {one:V->Int}{n:Nat}{v:V}(hv:IsV n v)(h:jh one v=0):zw n v<=20/\jd n v<=2000:=by
 obtain⟨g,hg⟩:=zN.1 h;obtain⟨a,b⟩:=QY one 20 n v 2000 g hv hg;exact⟨b,by omega⟩
theorem ja3 {one:V->Int}{v:V}(h:jh one v=0):one v=0:=by
 obtain⟨g,hg⟩:=zN.1 h;have e':(if one v=0 then qV (zi one 19) 1999 (parts v) else .inl (one v))=.inr g:=hg
 by_cases h0:one v=0
 ·exact h0
 ·rw [if_neg h0] at e'
  cases e'
end valus
end Go.Proofs.YtadaehaemmelfaaDoor
