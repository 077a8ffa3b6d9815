/- Of our texts, what this claim reaches. -/
import Derived.Test.YtadaehaemmelfaaDoorPubAK
import Derived.Lib.ItoaNum
import Derived.Test.YtadaehaemmelfaaDoorPubAE
import Derived.Deep.QuietTactic
import Derived.BigQuiet
import Derived.Test.YtadaehaemmelfaaDoorPubAL
import Derived.Lib.IndexAny
import Derived.Lib.IndexMore
set_option linter.unusedVariables false
namespace Go.Proofs.YtadaehaemmelfaaDoor
namespace paths
open utfs (bad enc sc)
abbrev St:Type:=List UInt8×Int
def qI (x:St):Int:=if x.2 < -1\/(-1<x.2/\x.1≠[]) then 1 else if 100<x.1.length then 2 else if 0<=bad x.1 then 3 else 0
def zn:List St->Int
 | []=>0
 | x :: l=>if qI x=0 then zn l else qI x
def jq (p:List St):Int:=if 20<p.length then 5 else zn p
theorem jm {x:St}(h:qI x=0) : -1<=x.2/\(x.2 = -1\/(0<=x.2/\x.1=[]))/\x.1.length<=100/\bad x.1<0:=by
 unfold qI at h;split at h
 ·omega
 ·rename_i h1
  split at h
  ·omega
  ·split at h
   ·omega
   ·refine⟨by omega,?_,by omega,by omega⟩
    by_cases e:x.2 = -1
    ·exact .inl e
    ·exact .inr ⟨by omega,Classical.byContradiction fun hn=>h1 (.inr ⟨by omega,hn⟩)⟩
theorem XP:∀{p:List St},zn p=0->∀x∈p,qI x=0
 | [],_,x,hx=>absurd hx (List.not_mem_nil)
 | y :: l,h,x,hx=>by
  unfold zn at h;split at h
  ·rename_i h1
   rcases List.mem_cons.1 hx with rfl | hx
   ·exact h1
   ·exact XP h x hx
  ·rename_i h1
   exact absurd h h1
theorem jl {p:List St}(h:jq p=0):p.length<=20/\∀x∈p,qI x=0:=by
 unfold jq at h;split at h
 ·omega
 ·exact⟨by omega,XP h⟩
end paths
end Go.Proofs.YtadaehaemmelfaaDoor
