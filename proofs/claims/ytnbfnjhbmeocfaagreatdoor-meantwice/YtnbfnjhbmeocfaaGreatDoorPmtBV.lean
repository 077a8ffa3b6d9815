/- Of our texts, what this claim reaches. -/
import Derived.Test.YtnbfnjhbmeocfaaGreatDoorPmtBR
import Derived.Test.YtnbfnjhbmeocfaaGreatDoorPmtBM
import Derived.Test.YtnbfnjhbmeocfaaGreatDoorPmtAE
set_option linter.unusedVariables false
set_option maxHeartbeats 4000000
set_option maxRecDepth 100000
namespace Go.Proofs.YtnbfnjhbmeocfaaGreatDoor
namespace valus
open Go.RowKit Go.Shelf
open trees (nd pd q7 qP)
open toks (jv MaxOk)
theorem q8 {s:ByteArray}{x y:V⊕(Int×Int)}(h:qx s x)(k:qx s y):x=y:=by
 have U:=Zy (fun keys=>jjv s (jv s.data.toList) keys) (jg2 s (jv s.data.toList)) 20
 rcases h with ⟨h1,h2⟩ | ⟨h1,h⟩<;>rcases k with ⟨k1,k2⟩ | ⟨k1,k⟩
 ·rw [h2,k2]
 ·omega
 ·omega
 ·rcases h with ⟨c,ts,h2,h3⟩ | ⟨t,h2,h⟩<;>rcases k with ⟨c',ts',k2,k3⟩ | ⟨t',k2,k⟩
  ·rw [h2] at k2
   injection k2 with k2;injection k2 with e1 e2;rw [h3,k3,e1,e2]
  ·rw [h2] at k2
   cases k2
  ·rw [h2] at k2
   cases k2
  ·rw [h2] at k2
   injection k2 with k2;injection k2 with k2 _;subst k2
   rcases h with ⟨pq,h3,h4⟩ | ⟨v,h3,h4⟩<;>rcases k with ⟨rs,k3,k4⟩ | ⟨u,k3,k4⟩
   ·have e:=U _ _ _ h3 k3
    rw [h4,k4,e]
   ·have e:=U _ _ _ h3 k3
    cases e
   ·have e:=U _ _ _ h3 k3
    cases e
   ·have e:=U _ _ _ h3 k3
    injection e with e;subst e
    rcases h4 with ⟨a,b⟩ | ⟨a,b⟩<;>rcases k4 with ⟨c,d⟩ | ⟨c,d⟩
    ·rw [b,d]
    ·exact absurd a c
    ·exact absurd c a
    ·rw [b,d]
theorem jaA {R:trees.T->V⊕(Int×Int)->Prop}{Q:Int×Int->Prop}(hR:∀t pq,R t (.inr pq)->Q pq):∀(l:List trees.T) (acc:List V) (pq:Int×Int),zp R l acc (.inr pq)->Q pq
 | [],_,_,h=>by cases h
 | t :: l,acc,pq,h=>by
  rcases h with ⟨v,_,h2⟩ | ⟨rs,h1,h2⟩
  ·exact jaA hR l _ _ h2
  ·injection h2 with h2
   rw [h2];exact hR _ _ h1
theorem ja6 {kr:KR}{R:trees.T->V⊕(Int×Int)->Prop}{Q:Int×Int->Prop}(hk:∀keys j pq,kr keys j (.inr pq)->Q pq)(hR:∀t pq,R t (.inr pq)->Q pq):∀(l:List trees.T) (acc:List V) (pq:Int×Int),Jt kr R l acc (.inr pq)->Q pq
 | [],_,_,h=>by
  obtain⟨E,_,_,h⟩:=h;cases h
 | t :: l,acc,pq,h=>by
  obtain⟨ek,ea,ee,kk,ka,ke,v,_,h⟩:=h
  rcases h with ⟨key,_,h⟩ | ⟨rs,h1,h2⟩
  ·rcases h with ⟨y,_,h2⟩ | ⟨rs,h1,h2⟩
   ·exact ja6 hk hR l _ _ h2
   ·injection h2 with h2
    rw [h2];exact hR _ _ h1
  ·injection h2 with h2
   rw [h2];exact hk _ _ _ h1
theorem Z7 {kr:KR}{lf:LR}{Q:Int×Int->Prop}(hk:∀keys j pq,kr keys j (.inr pq)->Q pq)(hl:∀j pq,lf j (.inr pq)->Q pq):∀(f:Nat) (t:trees.T) (pq:Int×Int),qt kr lf f t (.inr pq)->Q pq
 | 0,_,_,h=>h.elim
 | f+1,t,pq,h=>by
  obtain⟨k,a,e,l,rfl,h⟩:=h
  rcases h with ⟨_,h⟩ | ⟨_,h⟩ | ⟨_,_,h⟩
  ·exact ja6 hk (Z7 hk hl f) _ _ _ h
  ·exact jaA (Z7 hk hl f) _ _ _ h
  ·exact hl _ _ h
theorem jhk {s:ByteArray}{l:List toks.Tk}(g:trees.Good s l)(te:List trees.Sym):qP s l te<=s.size:=by
 cases te with
 | nil=>exact Nat.le_refl _
 | cons x r=>
  show(l.getD x.2 ⟨0,0,0⟩).fro<=s.size
  by_cases h:x.2<l.length
  ·rw [List.getD_eq_getElem?_getD,List.getElem?_eq_getElem h]
   exact Nat.le_of_lt (g.fro _ h)
  ·rw [List.getD_eq_getElem?_getD,List.getElem?_eq_none (by omega)]
   exact Nat.zero_le _
theorem jbl {s:ByteArray}{pq:Int×Int}(h:qx s (.inr pq)):(0<=pq.1/\pq.1<=(s.size:Int))/\pq.2≠0:=by
 rcases h with ⟨h1,h2⟩ | ⟨h1,h⟩
 ·injection h2 with h2
  subst h2;exact⟨⟨by simp,by simp⟩,by decide⟩
 ·have g:=trees.good s h1
  rcases h with ⟨c,ts,h2,h3⟩ | ⟨t,h2,h⟩
  ·injection h3 with h3
   subst h3;have:=jhk g ts;obtain⟨_,_,_,hc⟩:=trees.jic h2;refine⟨⟨by simp,by simp only;omega⟩,?_⟩
   rcases hc with rfl | ⟨rfl,_⟩<;>simp
  ·rcases h with ⟨rs,h3,h4⟩ | ⟨v,_,h4⟩
   ·injection h4 with h4
    subst h4;refine Z7 (Q:=fun pq=>(0<=pq.1/\pq.1<=(s.size:Int))/\pq.2≠0) (fun keys j pq h=>?_) (fun j pq h=>?_) 20 t _ h3
    ·obtain⟨hj,key,ke,_,h⟩:=h
     have:=g.fro j hj
     rcases h with ⟨_,_,h⟩ | ⟨_,_,h⟩ | ⟨h0,h⟩
     ·cases h
     ·injection h with h
      subst h;exact⟨⟨by simp,by simp only;omega⟩,by simp⟩
     ·injection h with h
      subst h;exact⟨⟨by simp,by simp only;omega⟩,h0⟩
    ·obtain⟨hj,lab,er,_,h⟩:=h
     have:=g.fro j hj
     rcases h with ⟨_,h⟩ | ⟨h0,h⟩
     ·cases h
     ·injection h with h
      subst h;exact⟨⟨by simp,by simp only;omega⟩,h0⟩
   ·rcases h4 with ⟨_,h4⟩ | ⟨h5,h4⟩
    ·cases h4
    ·injection h4 with h4
     subst h4;exact⟨⟨by simp,by simp⟩,h5⟩
def jdF:V:=mkV (2,1,0,[]) [] []
theorem one_one:qi jdF=0:=by
 unfold qi jdF;rw [jad];have hk:JS 2 1 0 ([]:List UInt8) ([]:List V).length ([]:List V).length:=by unfold JS;simp;decide
 simp only;rw [if_neg (fun h=>h hk),if_neg (by simp),if_neg (by decide)];rfl
theorem jig:jU qi jdF=0:=Zf.2 ⟨1999,by
 show(if qi jdF=0 then Qk (Qa qi 19) 1999 (parts jdF) else .inl (qi jdF))=.inr 1999
 rw [if_pos one_one];rfl⟩
theorem jbH:qx ⟨#[49]⟩ (.inl jdF):=by
 refine .inr ⟨by decide,.inr ⟨nd 1 0 1 [],rfl,.inr ⟨jdF,⟨1,0,1,[],rfl,.inr (.inr ⟨by decide,by decide,by decide,(2,1,0,[]),0,?_,.inl ⟨rfl,rfl⟩⟩)⟩,.inl ⟨jig,rfl⟩⟩⟩⟩
 show Zk [49] (2,1,0,[]) 0
 exact .inr (.inr (.inr ⟨by decide,.inl ⟨by decide,by decide,rfl⟩⟩))
theorem jhL (w:World)(hM:MaxOk w)(hT:Lib.Utf8Tabs 1 2 w) :
  Calls Tryz.prog 14 #[] w fun e w'=>e=.returned (.bool true)/\Below w.heap.size w w':=by
 have K:=jdt w ⟨#[49]⟩ hM hT
 have HK:Hid (Calls Tryz.prog 11 #[.string ⟨#[49]⟩] w fun e w'=>(∃(pL:Option Addr) (nL cL:Nat) (pE:Option Addr) (nE cE:Nat) (z:ByteArray) (k:Int) (b:Nat),e=.returned (.tuple #[.agg #[.int .i64 k,.int .i64 1,.int .u64 (b:Int),.string z,.slice pL nL cL,.slice pE nE cE],.int .i64 0,.int .i64 0]))/\Below w.heap.size w w'):=jd (K.mono fun e w' ⟨h1,h2⟩=>⟨by
  rcases h1 with ⟨vk,nn,b,z,pL,nL,cL,pE,nE,cE,v,rfl,h3,h4⟩ | ⟨pq,_,h3⟩
  ·have e:=q8 h3 jbH
   injection e with e;subst e;obtain⟨k,n,b',s',L,E,pL',pE',cL',cE',e1,e2,_⟩:=h4;obtain⟨e3,_,_⟩:=jbZ e1;injection e2 with _ e2;injection e2 with e2 _;injection e2 with _ e2;injection e3 with _ e3;injection e3 with e3 _;rw [e2,<-e3];exact⟨_,_,_,_,_,_,_,_,_,rfl⟩
  ·exact absurd (q8 h3 jbH) (by simp),h2⟩)
 clear K hT hM
 go_enter Tryz.func14,Tryz.ntmps14
 go_upto_region 2 with (go_at_call 11;refine(ja HK).mono ?_;rintro e w3 ⟨⟨pL,nL,cL,pE,nE,cE,z,k,b,rfl⟩,b3⟩)
 have hX:=jf w3 #[.int .i64 k,.int .i64 1,.int .u64 (b:Int),.string z,.slice pL nL cL,.slice pE nE cE] 26;have x1:=hX.cell 1 _ rfl;have FIN:=jd (b3.trans (((Below.refl _ w3).alloc (Nat.le_refl _) (.cells #[.int .i64 k,.int .i64 1,.int .u64 (b:Int),.string z,.slice pL nL cL,.slice pE nE cE] 26)).mono b3.size));clear hX b3 HK;go_wp2;go_ret;exact⟨rfl,FIN.out⟩
theorem jas (ok:Nat->Prop)(w:World):LiesV ok 1 w [.int .i64 0,.int .i64 0,.int .u64 0,.string ⟨#[]⟩,.slice none 0 0,.slice none 0 0] (mkV (0,0,0,[]) [] []) :=
 ⟨0,0,0,⟨#[]⟩,[],[],none,none,0,0,rfl,rfl,⟨⟨by omega,by omega⟩,⟨by omega,by omega⟩,by omega,by decide⟩,⟨Nat.le_refl _,Nat.zero_le _,Nat.le_refl _,Nat.zero_le _⟩,fun h=>absurd rfl h,fun h=>absurd rfl h⟩
end valus
end Go.Proofs.YtnbfnjhbmeocfaaGreatDoor
