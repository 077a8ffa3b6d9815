/- Of our texts, what this claim reaches. -/
import GoSem.ClaimWide
set_option linter.unusedVariables false
namespace Go.Proofs.YticcibefchffmaaDoor
namespace valus
structure IsOrd {α:Type} (P:α->Prop) (c:α->α->Ordering):Prop where
 swap:∀a b,P a->P b->c b a=(c a b).swap
 same:∀a b,P a->P b->(c a b=.eq↔a=b)
 trans:∀a b d,P a->P b->P d->c a b=.lt->c b d=.lt->c a d=.lt
theorem IsOrd.refl {α:Type}{P:α->Prop}{c:α->α->Ordering}(h:IsOrd P c){a:α}(ha:P a):c a a=.eq:=(h.same a a ha ha).2 rfl
theorem IsOrd.key {α β:Type}{P:β->Prop}{Q:α->Prop}{c:β->β->Ordering}(h:IsOrd P c)(f:α->β)(hp:∀a,Q a->P (f a))(hi:∀a b,Q a->Q b->f a=f b->a=b):IsOrd Q (fun a b=>c (f a) (f b)) :=
 ⟨fun a b ha hb=>h.swap _ _ (hp a ha) (hp b hb),fun a b ha hb=>⟨fun e=>hi a b ha hb ((h.same _ _ (hp a ha) (hp b hb)).1 e),fun e=>by subst e;exact h.refl (hp a ha)⟩,fun a b d ha hb hd=>h.trans _ _ _ (hp a ha) (hp b hb) (hp d hd)⟩
abbrev Lab:=Int×Int×Nat×List UInt8
abbrev V:=DataW Lab
def mkV (x:Lab)(L E:List V):V:=.slice L (.held x :: E)
def ent (k:List UInt8)(v:V):V:=mkV (0,0,0,k) [v] []
def opn:V->Lab×List V×List V
 | .slice L (.held x :: E)=>(x,L,E)
 | _=>((0,0,0,[]),[],[])
theorem Xg (x:Lab)(L E:List V):opn (mkV x L E)=(x,L,E):=rfl
theorem Ym {x y:Lab}{L M E F:List V}(h:mkV x L E=mkV y M F):x=y/\L=M/\E=F:=by
 have e:=congrArg opn h;rw [Xg,Xg] at e;injection e with e1 e2;injection e2 with e3 e4;exact⟨e1,e3,e4⟩
def IsV:Nat->V->Prop
 | 0,_=>False
 | n+1,v=>∃x L E,v=mkV x L E/\x.2.2.1<18446744073709551616/\(∀y∈L,IsV n y)/\∀e∈E,∃k y,e=ent k y/\IsV n y
def IsE (n:Nat)(e:V):Prop:=∃k y,e=ent k y/\IsV n y
theorem IsV.mk {n:Nat}{x:Lab}{L E:List V}:IsV (n+1) (mkV x L E)↔x.2.2.1<18446744073709551616/\(∀y∈L,IsV n y)/\∀e∈E,IsE n e:=by
 constructor
 ·rintro⟨x',L',E',h,a,b,c⟩
  obtain⟨h1,h2,h3⟩:=Ym h;subst h1;subst h2;subst h3;exact⟨a,b,c⟩
 ·rintro⟨a,b,c⟩
  exact⟨x,L,E,rfl,a,b,c⟩
end valus
namespace bigs
def jaa:Nat->Nat->List Nat
 | 0,_=>[]
 | f+1,n=>if n=0 then [] else n % 10000 :: jaa f (n / 10000)
def dig (n:Nat):List Nat:=jaa n n
end bigs
end Go.Proofs.YticcibefchffmaaDoor
