/- Of our texts, what this claim reaches. -/
import GoSem.ClaimWide
set_option linter.unusedVariables false
namespace Go.Proofs.YticcibefchffmaaDoor
namespace valus
abbrev Lab:=Int×Int×Nat×List UInt8
abbrev V:=DataW Lab
def mkV (x:Lab)(L E:List V):V:=.slice L (.held x :: E)
def ent (k:List UInt8)(v:V):V:=mkV (0,0,0,k) [v] []
def opn:V->Lab×List V×List V
 | .slice L (.held x :: E)=>(x,L,E)
 | _=>((0,0,0,[]),[],[])
theorem z7 (x:Lab)(L E:List V):opn (mkV x L E)=(x,L,E):=rfl
def jV (e:V):List UInt8×V:=((opn e).1.2.2.2,(opn e).2.1.headD .nil)
theorem jy (k:List UInt8)(v:V):jV (ent k v)=(k,v):=rfl
theorem Ji {x y:Lab}{L M E F:List V}(h:mkV x L E=mkV y M F):x=y/\L=M/\E=F:=by
 have e:=congrArg opn h;rw [z7,z7] at e;injection e with e1 e2;injection e2 with e3 e4;exact⟨e1,e3,e4⟩
theorem Qj {k m:List UInt8}{v u:V}(h:ent k v=ent m u):k=m/\v=u:=by
 have e:=congrArg jV h;rw [jy,jy] at e;injection e with e1 e2;exact⟨e1,e2⟩
def IsV:Nat->V->Prop
 | 0,_=>False
 | n+1,v=>∃x L E,v=mkV x L E/\x.2.2.1<18446744073709551616/\(∀y∈L,IsV n y)/\∀e∈E,∃k y,e=ent k y/\IsV n y
def IsE (n:Nat)(e:V):Prop:=∃k y,e=ent k y/\IsV n y
theorem IsV.mk {n:Nat}{x:Lab}{L E:List V}:IsV (n+1) (mkV x L E)↔x.2.2.1<18446744073709551616/\(∀y∈L,IsV n y)/\∀e∈E,IsE n e:=by
 constructor
 ·rintro⟨x',L',E',h,a,b,c⟩
  obtain⟨h1,h2,h3⟩:=Ji h;subst h1;subst h2;subst h3;exact⟨a,b,c⟩
 ·rintro⟨a,b,c⟩
  exact⟨x,L,E,rfl,a,b,c⟩
def parts (v:V):List V:=(opn v).2.1++(opn v).2.2.map (fun e=>(jV e).2)
theorem jQ (x:Lab)(L E:List V):parts (mkV x L E)=L++E.map (fun e=>(jV e).2):=rfl
theorem IsV.part {n:Nat}{v y:V}(h:IsV (n+1) v)(hy:y∈parts v):IsV n y:=by
 obtain⟨x,L,E,rfl,a,b,c⟩:=h;rw [jQ,List.mem_append,List.mem_map] at hy
 rcases hy with hy | ⟨e,he,rfl⟩
 ·exact b y hy
 ·obtain⟨k,z,rfl,hz⟩:=c e he
  exact hz
def maxOf (q:V->Nat):List V->Nat
 | []=>0
 | x :: r=>max (q x) (maxOf q r)
def jh (q:V->Nat):List V->Nat
 | []=>0
 | x :: r=>q x+jh q r
theorem zf (q:V->Nat):∀l m:List V,maxOf q (l++m)=max (maxOf q l) (maxOf q m)
 | [],m=>by show maxOf q m=max 0 _;omega
 | x :: r,m=>by
  show max _ (maxOf q (r++m))=max (max _ _) _
  rw [zf q r m];omega
theorem jK (q:V->Nat):∀l m:List V,jh q (l++m)=jh q l+jh q m
 | [],m=>by show jh q m=0+_;omega
 | x :: r,m=>by
  show _+jh q (r++m)=_+_+_
  rw [jK q r m];omega
theorem qb {p q:V->Nat}:∀{l:List V},(∀x∈l,p x=q x)->maxOf p l=maxOf q l
 | [],_=>rfl
 | x :: r,h=>by
  show max _ _=max _ _
  rw [h x (by simp),qb (fun y hy=>h y (by simp [hy]))]
theorem qd {p q:V->Nat}:∀{l:List V},(∀x∈l,p x=q x)->jh p l=jh q l
 | [],_=>rfl
 | x :: r,h=>by
  show _+_=_+_
  rw [h x (by simp),qd (fun y hy=>h y (by simp [hy]))]
theorem Qf {q:V->Nat}:∀{l:List V} {x:V},x∈l->q x<=maxOf q l
 | y :: r,x,h=>by
  show _<=max _ _
  rcases List.mem_cons.1 h with rfl | h
  ·omega
  ·have:=Qf (q:=q) h
   omega
theorem qq {q:V->Nat}:∀{l:List V} {x:V},x∈l->q x<=jh q l
 | y :: r,x,h=>by
  show _<=_+_
  rcases List.mem_cons.1 h with rfl | h
  ·omega
  ·have:=qq (q:=q) h
   omega
def qo:Nat->V->Nat
 | 0,_=>0
 | n+1,v=>maxOf (qo n) (parts v)+1
def jd:Nat->V->Nat
 | 0,_=>0
 | n+1,v=>jh (jd n) (parts v)+1
theorem zK:∀{n:Nat} {v:V},IsV n v->qo (n+1) v=qo n v
 | 0,_,h=>h.elim
 | n+1,v,h=>by
  show maxOf (qo (n+1)) _+1=maxOf (qo n) _+1
  rw [qb (fun x hx=>zK (h.part hx))]
theorem qf:∀{n:Nat} {v:V},IsV n v->jd (n+1) v=jd n v
 | 0,_,h=>h.elim
 | n+1,v,h=>by
  show jh (jd (n+1)) _+1=jh (jd n) _+1
  rw [qd (fun x hx=>qf (h.part hx))]
end valus
end Go.Proofs.YticcibefchffmaaDoor
