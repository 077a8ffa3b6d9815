/- Of our texts, what this claim reaches. -/
import Derived.Test.YticcibefchffmaaDoorPptAB
import Derived.OpenShut
set_option linter.unusedVariables false
namespace Go.Proofs.YticcibefchffmaaDoor
namespace valus
open Go.RowKit Go.ChangeShapes Go.WideShapes
theorem jab {α:Type}{Q:Nat->α->Prop}:∀(n:Nat),(∀j,j<n->∃y,Q j y)->∃l:List α,l.length=n/\∀j y,l[j]?=some y->Q j y
 | 0,_=>⟨[],rfl,fun j y h=>by simp at h⟩
 | n+1,h=>by
  obtain⟨l,hl,hq⟩:=jab n (fun j hj=>h j (by omega));obtain⟨y,hy⟩:=h n (by omega);refine⟨l++[y],by simp [hl],fun j z hz=>?_⟩
  by_cases hj:j<l.length
  ·rw [List.getElem?_append_left hj] at hz
   exact hq j z hz
  ·rw [List.getElem?_append_right (by omega)] at hz
   have h0:j - l.length=0:=by
    have:=(List.getElem?_eq_some_iff.1 hz).1;simp at this;omega
   rw [h0] at hz;injection hz with hz;have:j=n:=by omega
   rw [this,<-hz];exact hy
section
variable {H : Type} {enc : TypeId × Value → H} {P : Program} {w : World} {spare : Nat → Bool} {held : Bool}
variable {tV tE tL tM tI tN tU tS : TypeId} {fV fE : Array Field}
end
end valus
end Go.Proofs.YticcibefchffmaaDoor
