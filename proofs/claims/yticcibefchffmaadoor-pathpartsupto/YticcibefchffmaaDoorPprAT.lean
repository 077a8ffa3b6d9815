/- Of our texts, what this claim reaches. -/
import Derived.Test.YticcibefchffmaaDoorPprAS
import Derived.Test.YticcibefchffmaaDoorPprAQ
import Derived.Test.YticcibefchffmaaDoorPprAL
import Derived.Lib.DecodeN
import Derived.WalkSmall
import Derived.OpenShut
import Derived.WalkMore
import Derived.Deep.QuietTactic
import Derived.BigQuiet
import Derived.Test.YticcibefchffmaaDoorPprAN
import Derived.Test.YticcibefchffmaaDoorPprAJ
import Derived.Test.YticcibefchffmaaDoorPprAE
import Derived.Test.YticcibefchffmaaDoorPprAP
import Derived.BigRegion
import Derived.OwnWalk
import Derived.BigCall
import Derived.Maps.AppendAt
import Derived.Deep.AppendLies
import Derived.Laws.OwnMore
import Derived.Test.YticcibefchffmaaDoorPprAR
import Derived.WalkKit
set_option linter.unusedVariables false
set_option maxHeartbeats 4000000
set_option maxRecDepth 100000
namespace Go.Proofs.YticcibefchffmaaDoor
namespace paths
open Go.RowKit
open utfs (bad ja jb)
open valus (Blk jc jj j6)
abbrev SK:Type:=ByteArray×Int
def stC (x:SK):List Value:=[.string x.1,.int .i64 x.2]
def stL (x:SK):St:=(x.1.data.toList,x.2)
theorem zm:(Tryd.prog.info? 50).map (fun i=>(i.zero,i.size,i.bytes))=some (some (.agg #[.string ⟨#[]⟩,.int .i64 0]),2,24):=by kernel_rfl
theorem zW:∀(l:List SK) (j:Nat) (h:j<l.length),(l.flatMap stC)[j*2]?=some (.string l[j].1)/\(l.flatMap stC)[j*2+1]?=some (.int .i64 l[j].2)
 | [],j,h=>absurd h (Nat.not_lt_zero _)
 | t :: l,0,h=>by simp [stC]
 | t :: l,j+1,h=>by
  have ih:=zW l j (by simpa using h)
  have e:∀r,((t :: l).flatMap stC)[(j+1)*2+r]?=(l.flatMap stC)[j*2+r]?:=fun r=>by
   rw [List.flatMap_cons,List.getElem?_append_right (by simp [stC];omega)]
   congr 1
   simp [stC];omega
  have e0:=e 0;rw [Nat.add_zero,Nat.add_zero] at e0;rw [e0,e 1];exact ih
theorem Jt {w:World}{base:Nat}{v:Value}{K:List SK}(h:w.ownsRow base 50 2 v K.length (K.flatMap stC))(hk:∀x∈K,x.1.size<=9223372036854775807/\-9223372036854775808<=x.2/\x.2<=9223372036854775807):∃p c,v=.slice p K.length c/\K.length<=c/\LiesP w p (K.map stL)/\(∀B o,p=some ⟨B,o,none⟩->base<=B):=by
 have h':=h
 rcases h.2 with ⟨rfl,h0⟩ | ⟨g,cap,cur,rfl,hb,hg,hcap,_⟩
 ·have:K=[]:=List.eq_nil_of_length_eq_zero h0
  subst this;exact⟨none,0,rfl,by simp,fun h=>absurd rfl h,fun B o e=>by cases e⟩
 ·refine⟨_,cap,rfl,hcap,fun _=>⟨g,0,rfl,(Array.getElem?_eq_some_iff.1 hg).1,fun j x hx=>?_⟩,fun B o e=>by injection e with e;injection e with e;omega⟩
  obtain⟨hj,hx⟩:=List.getElem?_eq_some_iff.1 hx
  rw [List.length_map] at hj;rw [List.getElem_map] at hx;subst hx;obtain⟨g0,g1⟩:=zW K j hj;have hm:=hk K[j] (List.getElem_mem hj);refine⟨K[j].1,rfl,hm.1,hm.2,?_,?_⟩
  ·rw [Nat.zero_add,h'.cellAt (j*2) (by omega)]
   exact g0
  ·rw [Nat.zero_add,h'.cellAt (j*2+1) (by omega)]
   exact g1
open Go.RowKit
open utfs (ja jb)
theorem qX (w:World)(hT:PTabs w):Calls Tryd.prog 22 #[] w fun e w'=>e=.returned (.bool true)/\Below w.heap.size w w':=by
 have KT:=ja (J7 w none 0 [] (fun h=>absurd rfl h) (by decide) hT);have e1:JG []=[36]:=rfl;have e2:jl []=0:=rfl;rw [e1,e2] at KT;clear hT e1 e2
 go_enter Tryd.func22,Tryd.ntmps22
 go_wp2_with fail
 refine(jb KT).mono ?_
 rintro _ w1 ⟨rfl,b1⟩
 have B1:=ja b1;clear KT b1;go_wp2;go_ret;exact⟨rfl,B1.out⟩
end paths
end Go.Proofs.YticcibefchffmaaDoor
