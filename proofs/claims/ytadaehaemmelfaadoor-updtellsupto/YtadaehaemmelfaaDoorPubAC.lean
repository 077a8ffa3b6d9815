/- Of our texts, what this claim reaches. -/
import Derived.Test.YtadaehaemmelfaaDoorPubAB
import Derived.OpenShut
set_option linter.unusedVariables false
namespace Go.Proofs.YtadaehaemmelfaaDoor
namespace valus
open Go.RowKit Go.ChangeShapes Go.WideShapes
theorem jaF {α:Type}{Q:Nat->α->Prop}:∀(n:Nat),(∀j,j<n->∃y,Q j y)->∃l:List α,l.length=n/\∀j y,l[j]?=some y->Q j y
 | 0,_=>⟨[],rfl,fun j y h=>by simp at h⟩
 | n+1,h=>by
  obtain⟨l,hl,hq⟩:=jaF n (fun j hj=>h j (by omega));obtain⟨y,hy⟩:=h n (by omega);refine⟨l++[y],by simp [hl],fun j z hz=>?_⟩
  by_cases hj:j<l.length
  ·rw [List.getElem?_append_left hj] at hz
   exact hq j z hz
  ·rw [List.getElem?_append_right (by omega)] at hz
   have h0:j - l.length=0:=by
    have:=(List.getElem?_eq_some_iff.1 hz).1;simp at this;omega
   rw [h0] at hz;injection hz with hz;have:j=n:=by omega
   rw [this,<-hz];exact hy
structure Typed (P:Program) (tV tE tL tM tI tN tU tS:TypeId) (fV fE:Array Field):Prop where
 v:P.underlying tV=some (.struct fV)
 e:P.underlying tE=some (.struct fE)
 l:P.underlying tL=some (.slice tV)
 m:P.underlying tM=some (.slice tE)
 i:P.underlying tI=some (.int .i64)
 n:P.underlying tN=some (.int .i64)
 u:P.underlying tU=some (.int .u64)
 s:P.underlying tS=some .string
 cv:P.cellsOf tV=6
 ce:P.cellsOf tE=7
 cl:P.cellsOf tL=1
 cm:P.cellsOf tM=1
 ci:P.cellsOf tI=1
 cn:P.cellsOf tN=1
 cu:P.cellsOf tU=1
 cs:P.cellsOf tS=1
 v0:∃f,fV[0]?=some f/\f.offset=0/\f.type=tI
 v1:∃f,fV[1]?=some f/\f.offset=1/\f.type=tN
 v2:∃f,fV[2]?=some f/\f.offset=2/\f.type=tU
 v3:∃f,fV[3]?=some f/\f.offset=3/\f.type=tS
 v4:∃f,fV[4]?=some f/\f.offset=4/\f.type=tL
 v5:∃f,fV[5]?=some f/\f.offset=5/\f.type=tM
 e0:∃f,fE[0]?=some f/\f.offset=0/\f.type=tS
 e1:∃f,fE[1]?=some f/\f.offset=1/\f.type=tV
section
variable {H : Type} {enc : TypeId × Value → H} {P : Program} {w : World} {spare : Nat → Bool} {held : Bool}
variable {tV tE tL tM tI tN tU tS : TypeId} {fV fE : Array Field}
end
end valus
end Go.Proofs.YtadaehaemmelfaaDoor
