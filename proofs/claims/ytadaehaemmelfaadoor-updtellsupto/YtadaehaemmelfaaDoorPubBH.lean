/- Of our texts, what this claim reaches. -/
import Derived.Test.YtadaehaemmelfaaDoorCards
import Derived.Test.YtadaehaemmelfaaDoorTie
import Derived.Test.YtadaehaemmelfaaDoorPubAH
import Derived.Test.YtadaehaemmelfaaDoorPubAN
import Derived.Lib.ItoaNum
import Derived.Test.YtadaehaemmelfaaDoorPubAE
import Derived.Test.YtadaehaemmelfaaDoorPubAI
import Derived.Lib.AppendIntMem
import Derived.Lib.Walk
import Derived.BigCall
import Derived.BigGuard
import Derived.Test.YtadaehaemmelfaaDoorPubAK
import Derived.Deep.QuietTactic
import Derived.BigQuiet
import Derived.Test.YtadaehaemmelfaaDoorPubAL
import Derived.Test.YtadaehaemmelfaaDoorPubAM
import Derived.Lib.DecodeN
import Derived.WalkSmall
import Derived.OpenShut
import Derived.WalkMore
import Derived.BigRegion
import Derived.OwnWalk
import Derived.Maps.AppendAt
import Derived.Deep.AppendLies
import Derived.Laws.OwnMore
import Derived.Test.YtadaehaemmelfaaDoorPubBG
import Derived.Lib.LaidU8T
import Derived.Lib.LaidTab
import Derived.HandedShaped
import Derived.Shelf.Vars
set_option linter.unusedVariables false
namespace Go.Proofs.YtadaehaemmelfaaDoor
namespace frame
open Go.ChangeShapes Go.WideShapes Go.ChangeAt Go.RowKit
open paths
theorem YX:U8Types Tryd.prog Tryd.lays197_ren:={ Tryd.lays197 with }
theorem YA:U8Extra Tryd.prog Tryd.lays197_ren:=⟨by kernel_rfl,by kernel_rfl,by kernel_rfl,by kernel_rfl,by kernel_rfl,by kernel_rfl,by kernel_rfl⟩
theorem Zv:Rows.laid_unicode_utf8_acceptRanges=Lib.acceptData:=by kernel_rfl
theorem jb7 {W:World}(h:laidMetH Tryd.prog Rows.updAllUptoRow.laid W):jt W:=by
 rw [MakeChecks.laidMetH_plain _ _ _ (by kernel_rfl)] at h;exact utf8Tabs_of_readsT YX YA (Pinned.utf8First_eq ▸ Lib.laidMet.reads h (.tail _ (.head _))) (Zv ▸ Lib.laidMet.reads h (.head _))
theorem Ys:∃fS,Tryd.prog.underlying 60=some (.struct fS)/\(∃f,fS[0]?=some f/\f.offset=0/\f.type=9)/\(∃f,fS[1]?=some f/\f.offset=1/\f.type=3) :=
 ⟨_,Tryd.underlying60,⟨_,rfl,rfl,rfl⟩,⟨_,rfl,rfl,rfl⟩⟩
theorem X4:Tryd.prog.cellsOf 60=2:=by kernel_rfl
theorem JS:Tryd.prog.cellsOf 9=1:=by kernel_rfl
theorem JW:Tryd.prog.cellsOf 3=1:=by kernel_rfl
set_option maxRecDepth 100000 in
/-- A path that came in. -/
theorem Xg {H:Type}{enc:TypeId×Value->H}{W:World}{a:Option Addr}{n c:Nat}{d:DataW H}{p:List MemPlace}
  (h:DataW.Trod enc Tryd.prog W 0 (fun _=>true) true 27 (.slice a n c) d p) :
  ∃P:List St,n=P.length/\P.length<=c/\c<=maxLen/\LiesP W a P/\(a=none->c=0):=by
 obtain⟨fuel,hf⟩:=h
 have hnil:a=none->c=0:=by
  intro ha;have hf':DataW.trod enc Tryd.prog W 0 (fun _=>true) true fuel 27 [.slice a n c]=some (d,p):=hf
  rcases DataW.trod_slice Tryd.underlying27 hf' with ⟨e,_⟩ | ⟨a',len,cap,elems,rest,m,_,e,_⟩
  ·injection e with e
   injection e with _ _ e
  ·injection e with e
   injection e with e;rw [ha] at e;cases e
 obtain⟨fS,hS,s0,s1⟩:=Ys;obtain⟨p5,l5,a5,n5,es5,e5,b5,m5,k5,q5,el5,sm5,r5⟩:=valus.jbl (bk:=Rows.uptoBulk) zj (d:=2) (by omega) Tryd.underlying27 X4 hf;have he':[Value.slice a n c]=[Value.slice p5 l5 a5]:=e5;simp only [List.cons.injEq,Value.slice.injEq,and_true] at he';obtain⟨rfl,rfl,rfl⟩:=he'
 by_cases hz:n=0
 ·subst hz
  exact⟨[],rfl,b5,m5,fun h=>absurd rfl h,hnil⟩
 ·obtain⟨B,o,hp,hok,hlt,hr⟩:=r5 hz
  obtain⟨P,hP,hq⟩:=valus.jaF (Q:=fun j (x:St)=>∃key:ByteArray,key.data.toList=x.1/\key.size<=9223372036854775807/\(-9223372036854775808<=x.2/\x.2<=9223372036854775807)/\W.cell? ⟨B,o+j*2,none⟩=some (.string key)/\W.cell? ⟨B,o+j*2+1,none⟩=some (.int .i64 x.2)) n (fun j hj=>by
   obtain⟨us,u1,u2,y,u7,u3⟩:=hr j hj;obtain⟨ys,n',hn',hy',_,hys,hg⟩:=DataW.trod_struct hS u3;obtain⟨y0,_,g0⟩:=valus.qc hys hg s0;obtain⟨y1,_,g1⟩:=valus.qc hys hg s1;rw [JS] at g0;rw [JW] at g1
   match us,u1 with
   | [d0,d1],u1=>
    obtain⟨key,ek,_,wk⟩:=DataW.trod_string Tryd.underlying9 g0;obtain⟨z,ez,_,wz⟩:=DataW.trod_int Tryd.underlying3 g1;simp only [List.drop,List.take] at ek ez;injection ek with ek;injection ez with ez;subst ek ez;have bz:=bounds_i64 wz;have c0:=u2 0 (by omega);have c1:=u2 1 (by omega);refine⟨(key.data.toList,z),key,rfl,by unfold maxLen at wk;omega,bz,?_,?_⟩
    ·rw [Nat.add_zero] at c0;exact c0
    ·exact c1)
  subst hP;exact⟨P,rfl,b5,m5,fun _=>⟨B,o,hp,hlt,fun j x hx=>hq j x hx⟩,hnil⟩
theorem Xp:∃fS,Tryd.prog.underlying 45=some (.struct fS)/\(∃f,fS[0]?=some f/\f.offset=0/\f.type=3)/\(∃f,fS[1]?=some f/\f.offset=1/\f.type=27)/\(∃f,fS[2]?=some f/\f.offset=2/\f.type=26)/\(∃f,fS[3]?=some f/\f.offset=8/\f.type=9) :=
 ⟨_,Tryd.underlying45,⟨_,rfl,rfl,rfl⟩,⟨_,rfl,rfl,rfl⟩,⟨_,rfl,rfl,rfl⟩,⟨_,rfl,rfl,rfl⟩⟩
theorem Xj:Tryd.prog.cellsOf 45=9:=by kernel_rfl
theorem Qd:Tryd.prog.cellsOf 27=1:=by kernel_rfl
theorem JI {H:Type}{x:DataW H}:∀{l:List (DataW H)},x∈l->Rows.uptoBulk x<=valus.zx Rows.uptoBulk l
 | d :: r,h=>by
  show Rows.uptoBulk x<=Rows.uptoBulk d+valus.zx Rows.uptoBulk r
  rcases List.mem_cons.1 h with rfl | h
  ·omega
  ·have:=JI h
   omega
set_option maxRecDepth 100000 in
/-- A row of updates that came in. -/
theorem jbK {H:Type}{enc:TypeId×Value->H}{W:World}{a:Option Addr}{n c:Nat}{d:DataW H}{p:List MemPlace}
  (h:DataW.Trod enc Tryd.prog W 0 (fun _=>true) true 52 (.slice a n c) d p) (hk:Rows.uptoBulk d<=10000000) :
  ∃l:List upds.OpD,n=l.length/\l.length<=c/\c<=maxLen/\upds.LiesO W a l:=by
 obtain⟨fuel,hf⟩:=h;obtain⟨fS,hS,s0,s1,s2,s3⟩:=Xp;obtain⟨fV,fE,T⟩:=valus.jaz;obtain⟨p5,l5,a5,n5,es5,e5,b5,m5,k5,q5,el5,sm5,r5⟩:=valus.jbl (bk:=Rows.uptoBulk) zj (d:=9) (by omega) Tryd.underlying52 Xj hf;have he':[Value.slice a n c]=[Value.slice p5 l5 a5]:=e5;simp only [List.cons.injEq,Value.slice.injEq,and_true] at he';obtain⟨rfl,rfl,rfl⟩:=he'
 by_cases hz:n=0
 ·subst hz
  exact⟨[],rfl,b5,m5,fun h=>absurd rfl h⟩
 ·obtain⟨B,o,hp,hok,hlt,hr⟩:=r5 hz
  obtain⟨l,hl,hq⟩:=valus.jaF (Q:=fun j (x:upds.OpD)=>∃us:List Value,us.length=9/\(∀i,i<9->W.cell? ⟨B,o+j*9+i,none⟩=us[i]?)/\upds.OpIn W us x) n (fun j hj=>by
   obtain⟨us,u1,u2,y,u7,u3⟩:=hr j hj
   have hyb:Rows.uptoBulk y.1<=10000000:=by
    have h1:=JI (x:=y.1) (l:=es5.map (·.1)) (List.mem_map.2 ⟨y,List.mem_of_getElem? u7,rfl⟩);have h2:valus.zx Rows.uptoBulk (es5.map (·.1))<=Rows.uptoBulk d:=sm5;omega
   obtain⟨ys,n',hn',hy',_,hys,hg⟩:=DataW.trod_struct hS u3;obtain⟨y0,_,g0⟩:=valus.qc hys hg s0;obtain⟨y1,_,g1⟩:=valus.qc hys hg s1;obtain⟨y2,i2,g2⟩:=valus.qc hys hg s2;obtain⟨y3,_,g3⟩:=valus.qc hys hg s3;rw [JW] at g0;rw [Qd] at g1;rw [Jb] at g2;rw [JS] at g3
   match us,u1 with
   | [d0,d1,d2,d3,d4,d5,d6,d7,d8],u1=>
    obtain⟨z,ez,_,wz⟩:=DataW.trod_int Tryd.underlying3 g0;obtain⟨key,ek,_,wk⟩:=DataW.trod_string Tryd.underlying9 g3;obtain⟨t,ht,hb⟩:=valus.QV (bk:=Rows.uptoBulk) zZ zj T n' n' _ _ (Nat.le_refl _) g2;simp only [List.drop,List.take] at ek ez ht g1;injection ek with ek;injection ez with ez;subst ek ez
    have hS1:∃(pp:Option Addr) (nn cc:Nat),d1=.slice pp nn cc:=by
     rcases DataW.trod_slice Tryd.underlying27 g1 with ⟨e,_⟩ | ⟨a',len,cap,elems,rest,m,_,e,_⟩
     ·injection e with e
      exact⟨_,_,_,e⟩
     ·injection e with e
      exact⟨_,_,_,e⟩
    obtain⟨pp,nn,cc,rfl⟩:=hS1;obtain⟨P,rfl,hP1,hP2,hP3,_⟩:=Xg (enc:=enc) ⟨_,g1⟩;have hty:=tight ht;obtain⟨k,m,b,s,pL,nL,cL,pE,nE,cE,rfl,rfl,rfl,rfl,rfl,rfl⟩:=hty.form;have bz:=bounds_i64 wz
    have hy2:Rows.uptoBulk y2.1<=Rows.uptoBulk y.1:=by
     rw [hy'];have h1:=JI (x:=y2.1) (l:=ys.map (·.1)) (List.mem_map.2 ⟨y2,List.mem_of_getElem? i2,rfl⟩);have h2:=zZ (ys.map (·.1))
     show Rows.uptoBulk y2.1<=Rows.uptoBulk (DataW.agg (ys.map (·.1)))
     omega
    exact⟨(z,P,t,key.data.toList),_,rfl,u2,pp,cc,n',k,m,b,s,pL,nL,cL,pE,nE,cE,key,rfl,bz,hP3,hP1,by unfold maxLen at hP2;omega,hty,(show valus.jd n' t<=10000000 by omega),wk,rfl⟩)
  subst hl;exact⟨l,rfl,b5,m5,fun _=>⟨B,o,hp,hlt,fun j x hx=>hq j x hx⟩⟩
open Go.ChangeShapes Go.WideShapes Go.ChangeAt Go.RowKit
open paths
theorem jb5 {W:World}(h:laidMetH Tryd.prog Rows.updTellsUptoRow.laid W):jt W:=by
 rw [MakeChecks.laidMetH_plain _ _ _ (by kernel_rfl)] at h;exact utf8Tabs_of_readsT YX YA (Pinned.utf8First_eq ▸ Lib.laidMet.reads h (.tail _ (.head _))) (Zv ▸ Lib.laidMet.reads h (.head _))
set_option maxRecDepth 100000 in
/-- An update that came in: its nine cells. -/
theorem jcb {W:World}{r:Reach}{base:Nat}{v:Value}(h:Value.okWide Tryd.prog W r base 45 v):∃x0 x1 x2 x3 x4 x5 x6 x7 x8,v=.agg #[x0,x1,x2,x3,x4,x5,x6,x7,x8]:=by
 simp only [Value.okWide,Tryd.underlying45] at h;obtain⟨cs,rfl,hsz,_⟩:=h;rw [Xj] at hsz;obtain⟨l⟩:=cs
 match l,hsz with
 | [x0,x1,x2,x3,x4,x5,x6,x7,x8],_=>exact⟨x0,x1,x2,x3,x4,x5,x6,x7,x8,rfl⟩
set_option maxRecDepth 100000 in
theorem jb6 {H:Type}{enc:TypeId×Value->H}{W:World}{d0 d1 d2 d3 d4 d5 d6 d7 d8:Value}{d:DataW H}{p:List MemPlace}
  (h:DataW.Trod enc Tryd.prog W 0 (fun _=>true) true 45 (.agg #[d0,d1,d2,d3,d4,d5,d6,d7,d8]) d p) (hk:Rows.uptoBulk d<=10000000) :
  ∃x:upds.OpD,upds.OpIn W [d0,d1,d2,d3,d4,d5,d6,d7,d8] x:=by
 obtain⟨fuel,hf⟩:=h;obtain⟨fS,hS,s0,s1,s2,s3⟩:=Xp;obtain⟨fV,fE,T⟩:=valus.jaz;obtain⟨ys,n',hn',hy',_,hys,hg⟩:=DataW.trod_struct hS hf;obtain⟨y0,_,g0⟩:=valus.qc hys hg s0;obtain⟨y1,_,g1⟩:=valus.qc hys hg s1;obtain⟨y2,i2,g2⟩:=valus.qc hys hg s2;obtain⟨y3,_,g3⟩:=valus.qc hys hg s3;rw [JW] at g0;rw [Qd] at g1;rw [Jb] at g2;rw [JS] at g3;obtain⟨z,ez,_,wz⟩:=DataW.trod_int Tryd.underlying3 g0;obtain⟨key,ek,_,wk⟩:=DataW.trod_string Tryd.underlying9 g3;obtain⟨t,ht,hb⟩:=valus.QV (bk:=Rows.uptoBulk) zZ zj T n' n' _ _ (Nat.le_refl _) g2;have ez':[d0]=[Value.int .i64 z]:=ez;have ek':[d8]=[Value.string key]:=ek;have ht':valus.LiesV (fun _=>True) n' W [d2,d3,d4,d5,d6,d7] t:=ht;have g1':DataW.trod enc Tryd.prog W 0 (fun _=>true) true n' 27 [d1]=some y1:=g1;clear ez ek;injection ek' with ek1 _;injection ez' with ez1 _;subst ek1 ez1
 have hS1:∃(pp:Option Addr) (nn cc:Nat),d1=.slice pp nn cc:=by
  rcases DataW.trod_slice Tryd.underlying27 g1' with ⟨e,_⟩ | ⟨a',len,cap,elems,rest,m,_,e,_⟩
  ·injection e with e
   exact⟨_,_,_,e⟩
  ·injection e with e
   exact⟨_,_,_,e⟩
 obtain⟨pp,nn,cc,rfl⟩:=hS1;obtain⟨P,rfl,hP1,hP2,hP3,_⟩:=Xg (enc:=enc) ⟨_,g1'⟩;have hty:=tight ht';obtain⟨k,m,b,s,pL,nL,cL,pE,nE,cE,rfl,rfl,rfl,rfl,rfl,rfl⟩:=hty.form;have bz:=bounds_i64 wz
 have hy2:Rows.uptoBulk y2.1<=Rows.uptoBulk d:=by
  have h1:=JI (x:=y2.1) (l:=ys.map (·.1)) (List.mem_map.2 ⟨y2,List.mem_of_getElem? i2,rfl⟩);have h2:=zZ (ys.map (·.1));have e:d=DataW.agg (ys.map (·.1)):=congrArg Prod.fst hy';rw [e];omega
 exact⟨(z,P,t,key.data.toList),pp,cc,n',k,m,b,s,pL,nL,cL,pE,nE,cE,key,rfl,bz,hP3,hP1,by unfold maxLen at hP2;omega,hty,(show valus.jd n' t<=10000000 by omega),wk,rfl⟩
end frame
end Go.Proofs.YtadaehaemmelfaaDoor
