/- Of our texts, what this claim reaches. -/
import Derived.Test.YtadaehaemmelfaaDoorRows
import Derived.Test.YtadaehaemmelfaaDoorPubAG
import Derived.WalkKit
import Derived.ProofKit
import Derived.OpenShut
import Derived.ShutString
import Derived.ChangeOld
import Derived.Below
import Derived.SizedLaws
import Derived.Lay
import Derived.PinnedBridge
import Derived.Deep.DeepHandedRow
set_option linter.unusedVariables false
namespace Go.Proofs.YtadaehaemmelfaaDoor
namespace frame
open Go.ChangeShapes Go.WideShapes Go.ChangeAt Go.RowKit
open valus
theorem own:ownKnob Tryd.prog.godebug=none:=by kernel_rfl
theorem Qj:laidOutB Tryd.prog=true:=by kernel_rfl
theorem jbm {H:Type}{d:DataW H}{l:List (DataW H)}(h:d∈l):Rows.uptoBulk d<=Rows.uptoBulkAll l:=by
 induction l with
 | nil=>cases h
 | cons x r ih=>
  simp only [Rows.uptoBulkAll];cases List.mem_cons.1 h with
  | inl e=>subst e;omega
  | inr e=>have:=ih e;omega
theorem QM {H:Type}:∀l:List (DataW H),zx Rows.uptoBulk l=Rows.uptoBulkAll l
 | []=>by simp [zx,Rows.uptoBulkAll]
 | d :: r=>by
  show Rows.uptoBulk d+zx Rows.uptoBulk r=_
  rw [QM r];simp [Rows.uptoBulkAll]
theorem zZ {H:Type}(ps:List (DataW H)):zx Rows.uptoBulk ps+1<=Rows.uptoBulk (.agg ps):=by rw [QM];simp [Rows.uptoBulk]
theorem zj {H:Type}(es sp:List (DataW H)):zx Rows.uptoBulk es<=Rows.uptoBulk (.slice es sp):=by rw [QM];simp only [Rows.uptoBulk];omega
theorem jba {w:World}{p:Option Addr}{d n:Nat}{Q Q':Nat->List Value->Prop}(h:RowIn (fun _=>True) w p d n Q)(hq:∀j us,j<n->Q j us->Q' j us):RowIn (fun b=>b<w.heap.size) w p d n Q':=by
 intro hn;obtain⟨B,o,hp,_,hlt,hk⟩:=h hn;refine⟨B,o,hp,hlt,hlt,fun j hj=>?_⟩;obtain⟨us,u1,u2,u3⟩:=hk j hj;exact⟨us,u1,u2,hq j us hj u3⟩
theorem tight {w:World}:∀{f:Nat} {vs:List Value} {t:V},LiesV (fun _=>True) f w vs t->LiesV (fun b=>b<w.heap.size) f w vs t
 | 0,_,_,h=>h.elim
 | f+1,vs,t,h=>by
  obtain⟨k,n,b,s,L,E,pL,pE,cL,cE,h1,h2,h3,h4,h5,h6⟩:=h;refine⟨k,n,b,s,L,E,pL,pE,cL,cE,h1,h2,h3,h4,jba h5 ?_,jba h6 ?_⟩
  ·rintro j us _ ⟨y,a,c⟩
   exact⟨y,a,tight c⟩
  ·rintro j us _ ⟨key,y,xs,a,c,e,g⟩
   exact⟨key,y,xs,a,c,e,tight g⟩
set_option maxRecDepth 100000
theorem Jb:Tryd.prog.cellsOf 26=6:=by kernel_rfl
theorem Xz {W:World}{r:Reach}{base:Nat}{v:Value}(h:Value.okWide Tryd.prog W r base 26 v):∃x0 x1 x2 x3 x4 x5,v=.agg #[x0,x1,x2,x3,x4,x5]:=by
 simp only [Value.okWide,Tryd.underlying26] at h;obtain⟨cs,rfl,hsz,_⟩:=h;rw [Jb] at hsz;obtain⟨l⟩:=cs
 match l,hsz with
 | [x0,x1,x2,x3,x4,x5],_=>exact⟨x0,x1,x2,x3,x4,x5,rfl⟩
theorem XK {H:Type}{enc:TypeId×Value->H}{W:World}{x0 x1 x2 x3 x4 x5:Value}{d:DataW H}{p:List MemPlace}
  (h:DataW.Trod enc Tryd.prog W 0 (fun _=>true) true 26 (.agg #[x0,x1,x2,x3,x4,x5]) d p) :
  ∃f t,LiesV (fun b=>b<W.heap.size) f W [x0,x1,x2,x3,x4,x5] t/\jd f t<=Rows.uptoBulk d:=by
 obtain⟨fuel,hf⟩:=h;obtain⟨fV,fE,T⟩:=jaz;obtain⟨t,ht,hb⟩:=QV (bk:=Rows.uptoBulk) zZ zj T fuel fuel _ _ (Nat.le_refl _) hf;exact⟨fuel,t,tight ht,hb⟩
theorem few {H:Type}{d:DataW H}{ds:List (DataW H)}{n:Nat}(hk:Rows.uptoSmall H ds=true)(hm:d∈ds)(hn:n<=Rows.uptoBulk d):n<=1048576:=by
 have h:Rows.uptoBulkAll ds<=1048576:=of_decide_eq_true hk;have h2:=jbm hm;omega
end frame
end Go.Proofs.YtadaehaemmelfaaDoor
