/- Of our texts, what this claim reaches. -/
import Derived.Test.YtadaehaemmelfaaDoorPubAP
import Derived.Test.YtadaehaemmelfaaDoorPubAR
import Derived.Test.YtadaehaemmelfaaDoorPubAN
import Derived.Test.YtadaehaemmelfaaDoorPubAQ
import Derived.WalkKit
import Derived.Test.YtadaehaemmelfaaDoorPubAF
import Derived.Lib.ItoaNum
import Derived.Test.YtadaehaemmelfaaDoorPubAE
import Derived.Test.YtadaehaemmelfaaDoorPubAI
import Derived.Lib.AppendIntMem
import Derived.Lib.Walk
import Derived.BigCall
import Derived.BigGuard
import Derived.Test.YtadaehaemmelfaaDoorPubAK
import Derived.Deep.QuietTactic
import Derived.BigQuiet
import Derived.Test.YtadaehaemmelfaaDoorPubAL
import Derived.Test.YtadaehaemmelfaaDoorPubAM
import Derived.Lib.DecodeN
import Derived.WalkSmall
import Derived.OpenShut
import Derived.WalkMore
import Derived.BigRegion
import Derived.OwnWalk
import Derived.Maps.AppendAt
import Derived.Deep.AppendLies
import Derived.Laws.OwnMore
import Derived.Test.YtadaehaemmelfaaDoorPubAD
import Derived.Test.YtadaehaemmelfaaDoorPubAC
import Derived.Lib.SliceRun
set_option linter.unusedVariables false
set_option maxHeartbeats 8000000
set_option maxRecDepth 100000
namespace Go.Proofs.YtadaehaemmelfaaDoor
namespace upds
open valus
open paths (St jf je qT)
def zl (t:V)(x:St)(w:V):V:=if x.2 = -1 then mkV (opn t).1 (opn t).2.1 ((opn t).2.2.set (idx (fun k=>decide (k=x.1)) 0 (opn t).2.2).toNat (ent x.1 w)) else mkV (opn t).1 ((opn t).2.1.set x.2.toNat w) (opn t).2.2
def j6:V->List St->V->V
 | _,[],z=>z
 | t,x :: P,z=>match jf t x with
  | .inl y=>zl t x (j6 y P z)
  | .inr _=>t
theorem XG:∀(p:List St) (t:V) (q:List St) (y z:V),je t p=.inl y->j6 t (p++q) z=j6 t p (j6 y q z)
 | [],t,q,y,z,h=>by
  have:t=y:=by
   have h':(Sum.inl t:V⊕Int)=.inl y:=h;injection h'
  subst this;rfl
 | x :: p,t,q,y,z,h=>by
  rw [List.cons_append];have hl:je t (x :: p)=qT (jf t x) p:=rfl;rw [hl] at h
  show(match jf t x with | .inl w=>zl t x (j6 w (p++q) z) | .inr _=>t)=match jf t x with | .inl w=>zl t x (j6 w p (j6 y q z)) | .inr _=>t
  cases hp:jf t x with
  | inl w=>
   rw [hp] at h
   show zl t x (j6 w (p++q) z)=zl t x (j6 w p (j6 y q z))
   rw [XG p w q y z h]
  | inr e=>
   rw [hp] at h
def jj (G:V->Int×V)(t:V)(P:List St):Int×V:=match je t P with
 | .inl y=>((G y).1,j6 t P (G y).2)
 | .inr e=>(e,t)
theorem YZ {k:List UInt8}:∀(E:List V) (m:Nat),(∀e,e∈E->∃a y,e=ent a y)->0<=idx (fun x=>decide (x=k)) m E->∃j y,E[j]?=some (ent k y)/\idx (fun x=>decide (x=k)) m E=((m+j:Nat):Int)
 | [],m,_,h=>by simp [idx] at h
 | e :: l,m,hE,h=>by
  obtain⟨a,y,rfl⟩:=hE e (by simp);unfold idx at h ⊢;rw [jv] at h ⊢
  by_cases hk:a=k
  ·subst hk
   simp only [decide_true,if_true] at h ⊢;exact⟨0,y,rfl,rfl⟩
  ·simp only [decide_eq_false hk] at h ⊢
   obtain⟨j,z,h1,h2⟩:=YZ l (m+1) (fun e he=>hE e (by simp [he])) (by simpa using h);exact⟨j+1,z,h1,by simp only [Bool.false_eq_true,if_false];rw [h2];congr 1;omega⟩
theorem qX {f:Nat}{t y:V}{x:St}(ht:IsV f t)(h:jf t x=.inl y):(x.2 = -1/\∃j:Nat,(opn t).2.2[j]?=some (ent x.1 y)/\idx (fun k=>decide (k=x.1)) 0 (opn t).2.2=(j:Int))\/(x.2≠-1/\(0<=x.2->(opn t).2.1[x.2.toNat]?=some y/\x.2<(opn t).2.1.length)):=by
 unfold jf at h
 by_cases hx:x.2 = -1
 ·rw [if_pos hx] at h
  left
  refine⟨hx,?_⟩;split at h
  ·cases h
  ·split at h
   ·cases h
   ·rename_i hneg
    cases f with
    | zero=>exact ht.elim
    | succ f=>
     obtain⟨lab,L,E,rfl,_,_,hE⟩:=ht;rw [jQ] at h hneg ⊢
     dsimp only at h hneg ⊢
     obtain⟨j,z,h1,h2⟩:=YZ (k:=x.1) E 0 (fun e he=>by obtain⟨a,w,e1,_⟩:=hE e he;exact⟨a,w,e1⟩) (by omega);rw [Nat.zero_add] at h2;refine⟨j,?_,h2⟩;rw [h2,Int.toNat_natCast,List.getD_eq_getElem?_getD,h1] at h;injection h with h;have:(jE (ent x.1 z)).2=y:=h;rw [jv] at this;rw [h1,<-this]
 ·rw [if_neg hx] at h
  right
  refine⟨hx,fun h0=>?_⟩;split at h
  ·cases h
  ·split at h
   ·cases h
   ·rename_i hlt
    have hl:x.2.toNat<(opn t).2.1.length:=by omega
    injection h with h;rw [List.getD_eq_getElem?_getD,List.getElem?_eq_getElem hl] at h;exact⟨by rw [List.getElem?_eq_getElem hl,<-h];rfl,by omega⟩
end upds
namespace paths
open Go.RowKit
open utfs (ja jc)
open valus (V opn jE ent mkV idx parts jo jd LiesV RowIn Blk jb jp jk jg)
structure PAt (ok:Nat->Prop) (M:Nat) (w:World) (B o:Nat) (t:V):Prop where
 ex:∃(f:Nat) (x0 x1 x2 x3 x4 x5:Value),LiesV ok f w [x0,x1,x2,x3,x4,x5] t/\jd f t<=M/\w.cell? ⟨B,o,none⟩=some x0/\w.cell? ⟨B,o+1,none⟩=some x1/\w.cell? ⟨B,o+2,none⟩=some x2/\w.cell? ⟨B,o+3,none⟩=some x3/\w.cell? ⟨B,o+4,none⟩=some x4/\w.cell? ⟨B,o+5,none⟩=some x5
 lt:ok B
theorem PAt.below {N M B o:Nat}{w w':World}{t:V}(h:PAt (fun q=>q<N) M w B o t)(hb:Below N w w')(hN:N<=w.heap.size):PAt (fun q=>q<N) M w' B o t:=by
 obtain⟨f,x0,x1,x2,x3,x4,x5,hl,hn,c0,c1,c2,c3,c4,c5⟩:=h.ex;have hB:=h.lt;exact⟨⟨f,x0,x1,x2,x3,x4,x5,hl.kept (fun _ h=>h) hb.size (fun b hb1 _=>hb.block b hb1),hn,(hb.cell (p:=⟨B,o,none⟩) hB).trans c0,(hb.cell (p:=⟨B,o+1,none⟩) hB).trans c1,(hb.cell (p:=⟨B,o+2,none⟩) hB).trans c2,(hb.cell (p:=⟨B,o+3,none⟩) hB).trans c3,(hb.cell (p:=⟨B,o+4,none⟩) hB).trans c4,(hb.cell (p:=⟨B,o+5,none⟩) hB).trans c5⟩,h.lt⟩
abbrev jaU (ok:Nat->Prop) (M:Nat) (x:V⊕Int) (w:World) (e:Ending) (w':World):Prop :=
 ((∃y B o,x=.inl y/\e=.returned (.tuple #[.pointer (some ⟨B,o,none⟩),.int .i64 0])/\PAt ok M w' B o y)\/∃er,x=.inr er/\er≠0/\e=.returned (.tuple #[.pointer none,.int .i64 er]))/\Below w.heap.size w w'
theorem Q3 (N M:Nat)(w:World)(hN:N<=w.heap.size)(B o:Nat)(t:V)(h:PAt (fun q=>q<N) M w B o t)(i:Int)(h0:0<=i)(key:List UInt8) :
  Calls Tryd.prog 46 #[.pointer (some ⟨B,o,none⟩),.int .i64 i] w (jaU (fun q=>q<N) M (jf t (key,i)) w):=by
 obtain⟨f,x0,x1,x2,x3,x4,x5,hl,hn,c0,c1,c2,c3,c4,c5⟩:=h.ex;cases f with
 | zero=>exact hl.elim
 | succ f=>
  obtain⟨k,n,b,s,L,E,pL,pE,cL,cE,rfl,hx,⟨h3,_⟩,⟨hL1,hL2,hE1,hE2⟩,rL,rE⟩:=hl;simp only [List.cons.injEq,and_true] at hx;obtain⟨rfl,rfl,rfl,rfl,rfl,rfl⟩:=hx
  have hpv:jf (mkV (k,n,b,s.data.toList) L E) (key,i)=if k≠5 then .inr 10 else if (L.length:Int)<=i then .inr 8 else .inl (L.getD i.toNat .nil):=by
   unfold jf;rw [if_neg (by dsimp only;omega)];rfl
  clear h
  by_cases hk:k=5
  ·subst hk
   rw [if_neg (by simp)] at hpv
   by_cases hi:(L.length:Int)<=i
   ·rw [if_pos hi] at hpv
    have HPV:=ja hpv;have hi':i ≥ (L.length:Int):=hi;clear hpv rL rE hn
    go_enter Tryd.func46,Tryd.ntmps46
    go_wp2;go_ret2;exact⟨.inr ⟨8,HPV.out,by omega,rfl⟩,Below.refl _ _⟩
   ·rw [if_neg hi] at hpv
    obtain⟨j,rfl⟩:∃j:Nat,i=j:=⟨i.toNat,by omega⟩
    have hj:j<L.length:=by omega
    obtain⟨B2,o2,rfl,ok2,hB2,y0,y1,y2,y3,y4,y5,⟨y,hy,hly⟩,d0,d1,d2,d3,d4,d5⟩:=rL.six hj;have hget:L.getD (j:Int).toNat .nil=y:=by rw [Int.toNat_natCast,List.getD_eq_getElem?_getD,hy];rfl
    rw [hget] at hpv;have hmem:y∈parts (mkV (5,n,b,s.data.toList) L E):=by rw [valus.jB];exact List.mem_append_left _ (List.mem_of_getElem? hy)
    have hle:jd f y<=M:=by
     have h1:jd (f+1) (mkV (5,n,b,s.data.toList) L E)=jo (jd f) (parts (mkV (5,n,b,s.data.toList) L E))+1:=rfl;have h2:=valus.zI (q:=jd f) hmem;omega
    have HF:=ja (And.intro hpv (PAt.mk (ok:=fun q=>q<N) (M:=M) (w:=w) (B:=B2) (o:=o2+j*6) (t:=y) ⟨f,y0,y1,y2,y3,y4,y5,hly,hle,d0,d1,d2,d3,d4,d5⟩ ok2));have i1:(j:Int)<(L.length:Int):=by omega
    have i2:(0:Int)<=(j:Int):=by omega
    clear hpv rE hn hget hmem hle hy hly rL d0 d1 d2 d3 d4 d5 ok2
    go_enter Tryd.func46,Tryd.ntmps46
    go_wp2;go_ret2;exact⟨.inl ⟨y,B2,o2+j*6,HF.out.1,rfl,HF.out.2⟩,Below.refl _ _⟩
  ·rw [if_pos hk] at hpv
   have HPV:=ja hpv;have hk':(k != 5)=true:=bne_iff_ne.2 hk;clear hpv rL rE hn
   go_enter Tryd.func46,Tryd.ntmps46
   go_wp2;go_ret2;exact⟨.inr ⟨10,HPV.out,by omega,rfl⟩,Below.refl _ _⟩
theorem ZP (N M:Nat)(w:World)(hN:N<=w.heap.size)(B o:Nat)(t:V)(h:PAt (fun q=>q<N) M w B o t)(key:ByteArray) :
  Calls Tryd.prog 45 #[.pointer (some ⟨B,o,none⟩),.string key] w (jaU (fun q=>q<N) M (jf t (key.data.toList,-1)) w):=by
 obtain⟨f,x0,x1,x2,x3,x4,x5,hl,hn,c0,c1,c2,c3,c4,c5⟩:=h.ex;have hBN:B<N:=h.lt;cases f with
 | zero=>exact hl.elim
 | succ f=>
  obtain⟨k,n,b,s,L,E,pL,pE,cL,cE,rfl,hx,⟨h3,_⟩,⟨hL1,hL2,hE1,hE2⟩,rL,rE⟩:=hl;simp only [List.cons.injEq,and_true] at hx;obtain⟨rfl,rfl,rfl,rfl,rfl,rfl⟩:=hx
  have hpv:jf (mkV (k,n,b,s.data.toList) L E) (key.data.toList,-1)=if k≠6 then .inr 10 else if idx (fun q=>decide (q=key.data.toList)) 0 E<0 then .inr 8 else .inl (jE (E.getD (idx (fun q=>decide (q=key.data.toList)) 0 E).toNat .nil)).2:=by
   unfold jf;rw [if_pos rfl];rfl
  clear h
  by_cases hk:k=6
  ·subst hk
   rw [if_neg (by simp)] at hpv;have KF:=ja (valus.zY (fun q=>q<N) f w E pE cE key rE hE1 hE2);have hix:=ZQ (fun q=>decide (q=key.data.toList)) E 0;generalize idx (fun q=>decide (q=key.data.toList)) 0 E=ix at *
   by_cases hi:ix<0
   ·rw [if_pos hi] at hpv
    have HPV:=ja hpv;clear hpv rL rE hn hix
    go_enter Tryd.func45,Tryd.ntmps45
    go_wp2_with fail
    refine(jc KF).mono ?_
    rintro _ w1 ⟨rfl,b1⟩
    have B1:=ja b1;clear KF b1;go_wp2;go_ret2;exact⟨.inr ⟨8,HPV.out,by omega,rfl⟩,B1.out⟩
   ·rw [if_neg hi] at hpv
    obtain⟨j,rfl⟩:∃j:Nat,ix=j:=⟨ix.toNat,by omega⟩
    have hj:j<E.length:=by omega
    obtain⟨B2,o2,rfl,ok2,hB2,y0,y1,y2,y3,y4,y5,y6,⟨kk,y,xs,hy,hus,hks,hly⟩,d0,d1,d2,d3,d4,d5,d6⟩:=rE.seven hj;injection hus with hu0 hu1;subst hu1;have hget:(jE (E.getD (j:Int).toNat .nil)).2=y:=by rw [Int.toNat_natCast,List.getD_eq_getElem?_getD,hy];rfl
    rw [hget] at hpv
    have hmem:y∈parts (mkV (6,n,b,s.data.toList) L E):=by
     rw [valus.jB];exact List.mem_append_right _ (List.mem_map.2 ⟨_,List.mem_of_getElem? hy,rfl⟩)
    have hle:jd f y<=M:=by
     have h1:jd (f+1) (mkV (6,n,b,s.data.toList) L E)=jo (jd f) (parts (mkV (6,n,b,s.data.toList) L E))+1:=rfl;have h2:=valus.zI (q:=jd f) hmem;omega
    have HF:=ja (And.intro hpv (PAt.mk (ok:=fun q=>q<N) (M:=M) (w:=w) (B:=B2) (o:=o2+j*7+1) (t:=y) ⟨f,y1,y2,y3,y4,y5,y6,hly,hle,d1,d2,d3,d4,d5,d6⟩ ok2));have i1:(j:Int)<(E.length:Int):=by omega
    have i2:(0:Int)<=(j:Int):=by omega
    clear hpv hn hget hmem hle hy hly rE rL d0 d1 d2 d3 d4 d5 d6 ok2 hix hu0
    go_enter Tryd.func45,Tryd.ntmps45
    go_wp2_with fail
    refine(jc KF).mono ?_
    rintro _ w1 ⟨rfl,b1⟩
    have q5:=(b1.cell (p:=⟨B,o+5,none⟩) (show B<w.heap.size by omega)).trans c5;have B1:=ja b1;clear KF b1 c0 c1 c2 c3 c4 c5;go_wp2;go_ret2;exact⟨.inl ⟨y,B2,o2+j*7+1,HF.out.1,rfl,HF.out.2.below (B1.out.mono hN) hN⟩,B1.out⟩
  ·rw [if_pos hk] at hpv
   have HPV:=ja hpv;have hk':(k != 6)=true:=bne_iff_ne.2 hk;clear hpv rL rE hn
   go_enter Tryd.func45,Tryd.ntmps45
   go_wp2;go_ret2;exact⟨.inr ⟨10,HPV.out,by omega,rfl⟩,Below.refl _ _⟩
theorem QK (N M:Nat)(w:World)(hN:N<=w.heap.size)(B o:Nat)(t:V)(h:PAt (fun q=>q<N) M w B o t)(key:ByteArray)(i:Int)(hi : -1<=i) :
  Calls Tryd.prog 28 #[.pointer (some ⟨B,o,none⟩),.agg #[.string key,.int .i64 i]] w (jaU (fun q=>q<N) M (jf t (key.data.toList,i)) w):=by
 have b0:Below w.heap.size w (w.alloc (.cells #[.string key,.int .i64 i] 60)):=(Below.refl _ w).alloc (Nat.le_refl _) _;have h1:=h.below (b0.mono hN) hN;have hN1:N<=(w.alloc (.cells #[.string key,.int .i64 i] 60)).heap.size:=by simp;omega
 have B0:=ja b0
 by_cases e:i = -1
 ·subst e
  have K:=ja (ZP N M _ hN1 B o t h1 key);clear h h1 b0 hN1;generalize jf t (key.data.toList,-1)=X at *
  go_enter Tryd.func28,Tryd.ntmps28
  go_wp2_with fail
  refine(jc K).mono ?_
  rintro _ w1 ⟨h1,b1⟩
  have B1:=ja (B0.out.trans (b1.mono B0.out.size));clear K b1 B0
  rcases h1 with ⟨y,B',o',rfl,rfl,hp⟩ | ⟨er,rfl,hne,rfl⟩
  ·have HPP:=ja hp
   clear hp;go_wp2;go_ret2;exact⟨.inl ⟨y,B',o',rfl,rfl,HPP.out⟩,B1.out⟩
  ·go_wp2
   go_ret2;exact⟨.inr ⟨er,rfl,hne,rfl⟩,B1.out⟩
 ·have K:=ja (Q3 N M _ hN1 B o t h1 i (by omega) key.data.toList)
  have e1:(i == -1)=false:=beq_false_of_ne e;clear h h1 b0 hN1;generalize jf t (key.data.toList,i)=X at *
  go_enter Tryd.func28,Tryd.ntmps28
  go_wp2_with fail
  refine(jc K).mono ?_
  rintro _ w1 ⟨h1,b1⟩
  have B1:=ja (B0.out.trans (b1.mono B0.out.size));clear K b1 B0
  rcases h1 with ⟨y,B',o',rfl,rfl,hp⟩ | ⟨er,rfl,hne,rfl⟩
  ·have HPP:=ja hp
   clear hp;go_wp2;go_ret2;exact⟨.inl ⟨y,B',o',rfl,rfl,HPP.out⟩,B1.out⟩
  ·go_wp2
   go_ret2;exact⟨.inr ⟨er,rfl,hne,rfl⟩,B1.out⟩
theorem qu {w:World}{B:Nat}{u0 u1 u2 u3 u4 u5 y:Value}(tmps:Array Value)(h:Blk w B #[u0,u1,u2,u3,u4,u5] 26)(ht:tmps[4]?=some (.pointer (some ⟨B,0,none⟩)):=by rfl)(hy:tmps[5]?=some y:=by rfl):(results Tryd.f8 tmps).run Tryd.prog w=.ok (.tuple #[.agg #[u0,u1,u2,u3,u4,u5],y]) w:=by
 obtain⟨c0,c1,c2,c3,c4,c5⟩:=h.cells6;simp [results,Tryd.f8,ht,hy,go_sem,c0,c1,c2,c3,c4,c5]
def jY (t:V)(P:List St):V⊕Int:=if jq P=0 then je t P else .inr (jq P)
abbrev jcl (M:Nat) (x:V⊕Int) (w:World) (e:Ending) (w':World):Prop :=
 ((∃(y:V) (f:Nat) (x0 x1 x2 x3 x4 x5:Value),x=.inl y/\e=.returned (.tuple #[.agg #[x0,x1,x2,x3,x4,x5],.int .i64 0])/\LiesV (fun q=>q<w'.heap.size) f w' [x0,x1,x2,x3,x4,x5] y/\jd f y<=M)\/∃er,x=.inr er/\er≠0/\e=.returned (.tuple #[.agg #[.int .i64 0,.int .i64 0,.int .u64 0,.string ⟨#[]⟩,.slice none 0 0,.slice none 0 0],.int .i64 er]))/\Below w.heap.size w w'
theorem zP (M:Nat)(hM:M<=10000000)(w:World)(f:Nat)(t:V)(a0 a1 a2 a3 a4 a5:Value)(hl:LiesV (fun q=>q<w.heap.size) f w [a0,a1,a2,a3,a4,a5] t)(hn:jd f t<=M)(p:Option Addr)(c:Nat)(P:List St)(hP:LiesP w p P)(hPl:P.length<=9223372036854775807)(hT:jt w) :
  Calls Tryd.prog 8 #[.agg #[a0,a1,a2,a3,a4,a5],.slice p P.length c] w (jcl M (jY t P) w):=by
 obtain⟨k,n,b,s,pL,nL,cL,pE,nE,cE,rfl,rfl,rfl,rfl,rfl,rfl⟩:=hl.form;obtain⟨W0,hW0⟩:∃W0,W0=(w.alloc (.cells #[.int .i64 k,.int .i64 n,.int .u64 (b:Int),.string s,.slice pL nL cL,.slice pE nE cE] 26)).alloc (.cells #[.int .i64 0,.int .i64 0,.int .u64 0,.string ⟨#[]⟩,.slice none 0 0,.slice none 0 0] 26):=⟨_,rfl⟩
 have bA:Below w.heap.size w (w.alloc (.cells #[.int .i64 k,.int .i64 n,.int .u64 (b:Int),.string s,.slice pL nL cL,.slice pE nE cE] 26)):=(Below.refl _ w).alloc (Nat.le_refl _) _;have b0:Below w.heap.size w W0:=by rw [hW0];exact bA.alloc bA.size _
 have s0:W0.heap.size=w.heap.size+2:=by rw [hW0];simp
 have hbox:Blk W0 w.heap.size #[.int .i64 k,.int .i64 n,.int .u64 (b:Int),.string s,.slice pL nL cL,.slice pE nE cE] 26:=by rw [hW0];exact(jb w _ _).alloc _
 have hres:Blk W0 (w.heap.size+1) #[.int .i64 0,.int .i64 0,.int .u64 0,.string ⟨#[]⟩,.slice none 0 0,.slice none 0 0] 26:=by
  rw [hW0];have h:=jb (w.alloc (.cells #[.int .i64 k,.int .i64 n,.int .u64 (b:Int),.string s,.slice pL nL cL,.slice pE nE cE] 26)) #[.int .i64 0,.int .i64 0,.int .u64 0,.string ⟨#[]⟩,.slice none 0 0,.slice none 0 0] 26;have e:(w.alloc (.cells #[.int .i64 k,.int .i64 n,.int .u64 (b:Int),.string s,.slice pL nL cL,.slice pE nE cE] 26)).heap.size=w.heap.size+1:=by simp
  rw [e] at h;exact h
 have hl0:LiesV (fun q=>q<w.heap.size+1) f W0 [.int .i64 k,.int .i64 n,.int .u64 (b:Int),.string s,.slice pL nL cL,.slice pE nE cE] t:=hl.kept (fun q h=>by omega) b0.size (fun q h _=>b0.block q h)
 have hp0:PAt (fun q=>q<w.heap.size+1) M W0 w.heap.size 0 t:=by
  obtain⟨c0,c1,c2,c3,c4,c5⟩:=hbox.cells6;exact⟨⟨f,_,_,_,_,_,_,hl0,hn,c0,c1,c2,c3,c4,c5⟩,by omega⟩
 have KC:=ja (qH W0 p c P (hP.keep b0) hPl (Utf8Tabs_below hT b0));have HP0:=ja (hP.keep b0);have HPA:=ja hp0;have HRES:=ja hres;have HB0:=ja b0
 have hPB:∀B o,p=some ⟨B,o,none⟩->P.length≠0->B<W0.heap.size:=fun B o e hn=>by
  obtain⟨B',o',e',hB,_⟩:=HP0.out hn;rw [e'] at e;injection e with e;injection e with e;omega
 have HPB:=ja hPB
 by_cases hc:jq P=0
 ·have hLP:jY t P=je t P:=by unfold jY;rw [if_pos hc]
  rw [hLP];have hall:=(jl hc).2;have HALL:=ja hall;rw [hc] at KC;clear hLP hc hall bA b0 hbox hres hl0 hp0 hl hn hP hT hPB
  go_enter Tryd.func8,Tryd.ntmps8
  go_wp2_with (go_at_call 27;rw [<-hW0];refine(jc KC).mono ?_;rintro _ w1 ⟨rfl,b1⟩)
  have B1:=ja b1;clear KC b1
  go_loopw [7,20] (fun h i wr=>∃(j B o:Nat) (y:V),i=.int .i64 j/\j<=P.length/\h=.pointer (some ⟨B,o,none⟩)/\Hid (PAt (fun q=>q<w.heap.size+1) M wr B o y)/\Hid (je y (P.drop j)=je t P)/\Below W0.heap.size W0 wr) (fun _ i _=>P.length - (intOf i).toNat)
  case atStart=>exact⟨0,w.heap.size,0,t,rfl,Nat.zero_le _,rfl,ja (HPA.out.below (B1.out.mono (by omega)) (by omega)),ja rfl,B1.out⟩
  case round=>
   obtain⟨j,B,o,y,rfl,hj,rfl,HPY,HLD,hbw⟩:=hrel;have hwrs:W0.heap.size<=wr.heap.size:=hbw.size
   by_cases hlt:j<P.length
   ·obtain⟨Bp,op,key,rfl,hBp,hk1,hk2,hk3,c0,c1⟩:=HP0.out.at hlt
    have q0:=(hbw.cell (p:=⟨Bp,op+j*2,none⟩) hBp).trans c0;have q1:=(hbw.cell (p:=⟨Bp,op+j*2+1,none⟩) hBp).trans c1;have hi1:=(jm (HALL.out _ (List.getElem_mem hlt))).1;have bS:Below wr.heap.size wr (wr.alloc (.cells #[.string key,.int .i64 (P[j]).2] 60)):=(Below.refl _ wr).alloc (Nat.le_refl _) _;have hpS:=HPY.out.below (bS.mono (by omega)) (by omega);have KP:=ja (QK (w.heap.size+1) M (wr.alloc (.cells #[.string key,.int .i64 (P[j]).2] 60)) (by simp;omega) B o y hpS key (P[j]).2 hi1);rw [hk1] at KP;have hLD:=HLD.out;rw [List.drop_eq_getElem_cons hlt] at hLD;have hstep:je y (P[j] :: P.drop (j+1))=(match jf y ((P[j]).1,(P[j]).2) with | .inl z=>je z (P.drop (j+1)) | .inr e=>.inr e):=rfl;rw [hstep] at hLD;have HLD2:=ja hLD;have HBS:=ja (hbw.trans (bS.mono hwrs));clear hstep hLD HLD hk1 hk2 hk3 c0 c1 hpS bS hi1 HPY
    generalize jf y ((P[j]).1,(P[j]).2)=X at *;generalize (P[j]).2=xi at *
    go_wp2_with fail
    refine(jc KP).mono ?_
    rintro _ w2 ⟨h2,b2⟩
    have B2:=ja (HBS.out.trans (b2.mono HBS.out.size));clear KP b2 HBS
    rcases h2 with ⟨z,B',o',rfl,rfl,hpz⟩ | ⟨er,rfl,hne,rfl⟩
    ·have HPZ:=ja hpz
     clear hpz;go_wp2;go_roundw
     case rel=>exact⟨j+1,B',o',z,by go_num,by omega,rfl,HPZ,HLD2,B2.out⟩
     case measure=>simp only [intOf];omega
    ·have hne2:(er != 0)=true:=bne_iff_ne.2 hne
     have hr:=HRES.out.below B2.out;have hbz:=HB0.out.trans (B2.out.mono (by omega));have x0:=hr.cell 0 _ rfl;have x1:=hr.cell 1 _ rfl;have x2:=hr.cell 2 _ rfl;have x3:=hr.cell 3 _ rfl;have x4:=hr.cell 4 _ rfl;have x5:=hr.cell 5 _ rfl;simp only [List.getElem_toArray,List.getElem_cons_zero,List.getElem_cons_succ] at x0 x1 x2 x3 x4 x5;have z0:=Blk.froz hr 0;have z1:=Blk.froz hr 1;have z2:=Blk.froz hr 2;have z3:=Blk.froz hr 3;have z4:=Blk.froz hr 4;have z5:=Blk.froz hr 5;have HY:=ja (jk hr (.int .i64 0) (.int .i64 0) (.int .u64 0) (.string ⟨#[]⟩) (.slice none 0 0) (.slice none 0 0));have HF:=ja (jg hbz (b:=w.heap.size+1) (by omega) (.int .i64 0) (.int .i64 0) (.int .u64 0) (.string ⟨#[]⟩) (.slice none 0 0) (.slice none 0 0));go_wp2
     obtain⟨Y,hYe⟩:∃Y,Y=jp w2 (w.heap.size+1) (.int .i64 0) (.int .i64 0) (.int .u64 0) (.string ⟨#[]⟩) (.slice none 0 0) (.slice none 0 0):=⟨_,rfl⟩
     rw [<-hYe] at HY HF;simp only [jp] at hYe;rw [<-hYe];clear hYe x0 x1 x2 x3 x4 x5 z0 z1 z2 z3 z4 z5;refine bodyPost_ret (qu _ HY.out) rfl ?_
     rw [<-HLD2.out];exact⟨.inr ⟨er,rfl,hne,rfl⟩,HF.out⟩
   ·obtain rfl:j=P.length:=by omega
    have g0:¬(P.length:Int)<(P.length:Int):=by omega
    obtain⟨f',y0,y1,y2,y3,y4,y5,hly,hny,c0,c1,c2,c3,c4,c5⟩:=HPY.out.ex;have KCP:=ja (callsIn_wide.1 (valus.ja7 (fun q=>q<w.heap.size+1) f' wr y y0 y1 y2 y3 y4 y5 (fun q h=>by omega) hly (by omega)));have HLD2:Hid (je t P=.inl y):=ja (by rw [<-HLD.out,List.drop_of_length_le (Nat.le_refl _)];rfl);clear HLD HPY hly
    go_upto_region 13 with fail
    go_wp2_with fail
    refine(jc KCP).mono ?_
    rintro _ w2 ⟨⟨v0,v1,v2,v3,v4,v5,rfl,hlv⟩,b2⟩
    have hr:=HRES.out.below (hbw.trans (b2.mono hwrs));have hbz:=HB0.out.trans ((hbw.trans (b2.mono hwrs)).mono (by omega));have x0:=hr.cell 0 _ rfl;have x1:=hr.cell 1 _ rfl;have x2:=hr.cell 2 _ rfl;have x3:=hr.cell 3 _ rfl;have x4:=hr.cell 4 _ rfl;have x5:=hr.cell 5 _ rfl;simp only [List.getElem_toArray,List.getElem_cons_zero,List.getElem_cons_succ] at x0 x1 x2 x3 x4 x5;have z0:=Blk.froz hr 0;have z1:=Blk.froz hr 1;have z2:=Blk.froz hr 2;have z3:=Blk.froz hr 3;have z4:=Blk.froz hr 4;have z5:=Blk.froz hr 5;have HY:=ja (jk hr v0 v1 v2 v3 v4 v5);have HF:=ja (jg hbz (b:=w.heap.size+1) (by omega) v0 v1 v2 v3 v4 v5)
    have hlv2:LiesV (fun q=>q<(jp w2 (w.heap.size+1) v0 v1 v2 v3 v4 v5).heap.size) f' (jp w2 (w.heap.size+1) v0 v1 v2 v3 v4 v5) [v0,v1,v2,v3,v4,v5] y:=by
     have hb2:=b2.size;refine hlv.kept (fun q h=>?_) (by rw [valus.qq];exact Nat.le_refl _) (fun q h hq=>?_)
     ·rw [valus.qq]
      rcases h with h | h<;>omega
     ·have hne:q≠w.heap.size+1:=by rcases h with h | h<;>omega
      simp only [jp];rw [Below.heap_setCell _ _ _ _ hne,Below.heap_setCell _ _ _ _ hne,Below.heap_setCell _ _ _ _ hne,Below.heap_setCell _ _ _ _ hne,Below.heap_setCell _ _ _ _ hne,Below.heap_setCell _ _ _ _ hne]
    have HLV:=ja (And.intro hlv2 hny);clear hr hbz b2 hlv hlv2 KCP hny;obtain⟨gk,gn,gb,gs,gpL,gnL,gcL,gpE,gnE,gcE,rfl,rfl,rfl,rfl,rfl,rfl⟩:=HLV.out.1.form;go_wp2;obtain⟨Y,hYe⟩:∃Y,Y=jp w2 (w.heap.size+1) (.int .i64 gk) (.int .i64 gn) (.int .u64 (gb:Int)) (.string gs) (.slice gpL gnL gcL) (.slice gpE gnE gcE):=⟨_,rfl⟩
    rw [<-hYe] at HY HF HLV;simp only [jp] at hYe;rw [<-hYe];clear hYe x0 x1 x2 x3 x4 x5 z0 z1 z2 z3 z4 z5;refine bodyPost_ret (qu _ HY.out) rfl ?_
    rw [HLD2.out];exact⟨.inl ⟨y,f',_,_,_,_,_,_,rfl,rfl,HLV.out.1,HLV.out.2⟩,HF.out⟩
 ·have hLP:jY t P=.inr (jq P):=by unfold jY;rw [if_neg hc]
  rw [hLP];have hne2:(jq P != 0)=true:=bne_iff_ne.2 hc;have HNE:=ja hc;clear hLP hc bA b0 hbox hres hl0 hp0 hl hn hP hT hPB HPA HPB HP0;generalize jq P=ce at *
  go_enter Tryd.func8,Tryd.ntmps8
  go_wp2_with fail
  rw [<-hW0];refine(jc KC).mono ?_
  rintro _ w1 ⟨rfl,b1⟩
  have hr:=HRES.out.below b1;have hbz:=HB0.out.trans (b1.mono (by omega));clear KC b1;have x0:=hr.cell 0 _ rfl;have x1:=hr.cell 1 _ rfl;have x2:=hr.cell 2 _ rfl;have x3:=hr.cell 3 _ rfl;have x4:=hr.cell 4 _ rfl;have x5:=hr.cell 5 _ rfl;simp only [List.getElem_toArray,List.getElem_cons_zero,List.getElem_cons_succ] at x0 x1 x2 x3 x4 x5;have z0:=Blk.froz hr 0;have z1:=Blk.froz hr 1;have z2:=Blk.froz hr 2;have z3:=Blk.froz hr 3;have z4:=Blk.froz hr 4;have z5:=Blk.froz hr 5;have HY:=ja (jk hr (.int .i64 0) (.int .i64 0) (.int .u64 0) (.string ⟨#[]⟩) (.slice none 0 0) (.slice none 0 0));have HF:=ja (jg hbz (b:=w.heap.size+1) (by omega) (.int .i64 0) (.int .i64 0) (.int .u64 0) (.string ⟨#[]⟩) (.slice none 0 0) (.slice none 0 0));go_wp2
  obtain⟨Y,hYe⟩:∃Y,Y=jp w1 (w.heap.size+1) (.int .i64 0) (.int .i64 0) (.int .u64 0) (.string ⟨#[]⟩) (.slice none 0 0) (.slice none 0 0):=⟨_,rfl⟩
  rw [<-hYe] at HY HF;simp only [jp] at hYe;rw [<-hYe];clear hYe x0 x1 x2 x3 x4 x5 z0 z1 z2 z3 z4 z5;refine bodyPost_ret (qu _ HY.out) rfl ?_
  exact⟨.inr ⟨ce,rfl,HNE.out,rfl⟩,HF.out⟩
open Go.RowKit
open utfs (ja jc)
open valus (V opn jE ent mkV idx parts jo jd LiesV RowIn Blk jb jp jk jg)
theorem jX {w:World}{B:Nat}{u0 u1 u2 u3 u4 u5 y:Value}(tmps:Array Value)(h:Blk w B #[u0,u1,u2,u3,u4,u5] 26)(ht:tmps[4]?=some (.pointer (some ⟨B,0,none⟩)):=by rfl)(hy:tmps[5]?=some y:=by rfl):(results Tryd.f35 tmps).run Tryd.prog w=.ok (.tuple #[.agg #[u0,u1,u2,u3,u4,u5],y]) w:=by
 obtain⟨c0,c1,c2,c3,c4,c5⟩:=h.cells6;simp [results,Tryd.f35,ht,hy,go_sem,c0,c1,c2,c3,c4,c5]
theorem Jm {N f B:Nat}{w:World}{us:List Value}{t:V}(h:LiesV (fun q=>q<N) f w us t)(hB:N<=B)(v0 v1 v2 v3 v4 v5:Value):LiesV (fun q=>q<N) f (jp w B v0 v1 v2 v3 v4 v5) us t:=by
 refine h.kept (fun q h=>h) (by rw [valus.qq];exact Nat.le_refl _) (fun q hq _=>?_);have hne:q≠B:=by omega
 simp only [jp];rw [Below.heap_setCell _ _ _ _ hne,Below.heap_setCell _ _ _ _ hne,Below.heap_setCell _ _ _ _ hne,Below.heap_setCell _ _ _ _ hne,Below.heap_setCell _ _ _ _ hne,Below.heap_setCell _ _ _ _ hne]
abbrev QW (N M:Nat) (x:V⊕Int) (w:World) (e:Ending) (w':World):Prop :=
 ((∃(y:V) (f:Nat) (x0 x1 x2 x3 x4 x5:Value),x=.inl y/\e=.returned (.tuple #[.agg #[x0,x1,x2,x3,x4,x5],.int .i64 0])/\LiesV (fun q=>q<N) f w' [x0,x1,x2,x3,x4,x5] y/\jd f y<=M)\/∃er,x=.inr er/\er≠0/\e=.returned (.tuple #[.agg #[.int .i64 0,.int .i64 0,.int .u64 0,.string ⟨#[]⟩,.slice none 0 0,.slice none 0 0],.int .i64 er]))/\Below w.heap.size w w'
theorem X9 (N M:Nat)(w:World)(hN:N<=w.heap.size)(f:Nat)(t:V)(a0 a1 a2 a3 a4 a5:Value)(hl:LiesV (fun q=>q<N) f w [a0,a1,a2,a3,a4,a5] t)(hn:jd f t<=M)(key:ByteArray)(i:Int)(hi : -1<=i) :
  Calls Tryd.prog 35 #[.agg #[a0,a1,a2,a3,a4,a5],.agg #[.string key,.int .i64 i]] w (QW N M (jf t (key.data.toList,i)) w):=by
 cases f with
 | zero=>exact hl.elim
 | succ f=>
  obtain⟨k,n,b,s,L,E,pL,pE,cL,cE,rfl,hx,⟨h3,_⟩,⟨hL1,hL2,hE1,hE2⟩,rL,rE⟩:=hl;simp only [List.cons.injEq,and_true] at hx;obtain⟨rfl,rfl,rfl,rfl,rfl,rfl⟩:=hx;obtain⟨W0,hW0⟩:∃W0,W0=(((w.alloc (.cells #[.int .i64 k,.int .i64 n,.int .u64 (b:Int),.string s,.slice pL L.length cL,.slice pE E.length cE] 26)).alloc (.cells #[.string key,.int .i64 i] 60)).alloc (.cells #[.int .i64 0,.int .i64 0,.int .u64 0,.string ⟨#[]⟩,.slice none 0 0,.slice none 0 0] 26)).alloc (.cells #[.int .i64 0,.int .i64 0,.int .u64 0,.string ⟨#[]⟩,.slice none 0 0,.slice none 0 0] 26):=⟨_,rfl⟩
  have bA:Below w.heap.size w (w.alloc (.cells #[.int .i64 k,.int .i64 n,.int .u64 (b:Int),.string s,.slice pL L.length cL,.slice pE E.length cE] 26)):=(Below.refl _ w).alloc (Nat.le_refl _) _;have bB:Below w.heap.size w ((w.alloc (.cells #[.int .i64 k,.int .i64 n,.int .u64 (b:Int),.string s,.slice pL L.length cL,.slice pE E.length cE] 26)).alloc (.cells #[.string key,.int .i64 i] 60)):=bA.alloc bA.size _;have bC:Below w.heap.size w (((w.alloc (.cells #[.int .i64 k,.int .i64 n,.int .u64 (b:Int),.string s,.slice pL L.length cL,.slice pE E.length cE] 26)).alloc (.cells #[.string key,.int .i64 i] 60)).alloc (.cells #[.int .i64 0,.int .i64 0,.int .u64 0,.string ⟨#[]⟩,.slice none 0 0,.slice none 0 0] 26)):=bB.alloc bB.size _;have b0:Below w.heap.size w W0:=by rw [hW0];exact bC.alloc bC.size _
  have s0:W0.heap.size=w.heap.size+4:=by rw [hW0];simp
  have k0:Blk W0 w.heap.size #[.int .i64 k,.int .i64 n,.int .u64 (b:Int),.string s,.slice pL L.length cL,.slice pE E.length cE] 26:=by rw [hW0];exact(((jb w _ _).alloc _).alloc _).alloc _
  have k1:Blk W0 (w.heap.size+1) #[.string key,.int .i64 i] 60:=by
   rw [hW0];have h:=jb (w.alloc (.cells #[.int .i64 k,.int .i64 n,.int .u64 (b:Int),.string s,.slice pL L.length cL,.slice pE E.length cE] 26)) #[.string key,.int .i64 i] 60;rw [World.size_alloc] at h;exact(h.alloc _).alloc _
  have k2:Blk W0 (w.heap.size+2) #[.int .i64 0,.int .i64 0,.int .u64 0,.string ⟨#[]⟩,.slice none 0 0,.slice none 0 0] 26:=by
   rw [hW0];have h:=jb ((w.alloc (.cells #[.int .i64 k,.int .i64 n,.int .u64 (b:Int),.string s,.slice pL L.length cL,.slice pE E.length cE] 26)).alloc (.cells #[.string key,.int .i64 i] 60)) #[.int .i64 0,.int .i64 0,.int .u64 0,.string ⟨#[]⟩,.slice none 0 0,.slice none 0 0] 26;rw [World.size_alloc,World.size_alloc] at h;exact h.alloc _
  have k3:Blk W0 (w.heap.size+3) #[.int .i64 0,.int .i64 0,.int .u64 0,.string ⟨#[]⟩,.slice none 0 0,.slice none 0 0] 26:=by
   rw [hW0];have h:=jb (((w.alloc (.cells #[.int .i64 k,.int .i64 n,.int .u64 (b:Int),.string s,.slice pL L.length cL,.slice pE E.length cE] 26)).alloc (.cells #[.string key,.int .i64 i] 60)).alloc (.cells #[.int .i64 0,.int .i64 0,.int .u64 0,.string ⟨#[]⟩,.slice none 0 0,.slice none 0 0] 26)) #[.int .i64 0,.int .i64 0,.int .u64 0,.string ⟨#[]⟩,.slice none 0 0,.slice none 0 0] 26;rw [World.size_alloc,World.size_alloc,World.size_alloc] at h;exact h
  have rL0:RowIn (fun q=>q<N) W0 pL 6 L.length (fun j us=>∃y,L[j]?=some y/\LiesV (fun q=>q<N) f W0 us y):=rL.kept (fun _ h=>h) b0.size (fun q h _=>b0.block q (by omega)) (fun j us _ ⟨y,h1,h2⟩=>⟨y,h1,h2.kept (fun _ h=>h) b0.size (fun q h _=>b0.block q (by omega))⟩);have rE0:valus.JO (fun q=>q<N) f W0 pE E:=rE.kept (fun _ h=>h) b0.size (fun q h _=>b0.block q (by omega)) (fun j us _ ⟨kk,y,xs,h1,h2,h3,h4⟩=>⟨kk,y,xs,h1,h2,h3,h4.kept (fun _ h=>h) b0.size (fun q h _=>b0.block q (by omega))⟩);have HB0:=ja b0;clear bA bB bC rL rE b0
  by_cases e:i = -1
  ·subst e
   have hpv:jf (mkV (k,n,b,s.data.toList) L E) (key.data.toList,-1)=if k≠6 then .inr 10 else if idx (fun q=>decide (q=key.data.toList)) 0 E<0 then .inr 8 else .inl (jE (E.getD (idx (fun q=>decide (q=key.data.toList)) 0 E).toNat .nil)).2:=by
    unfold jf;rw [if_pos rfl];rfl
   by_cases hk:k=6
   ·subst hk
    rw [if_neg (by simp)] at hpv;have KE:=ja (valus.Xq (fun q=>q<N) f W0 E pE cE key rE0 hE1 hE2);have hix:=ZQ (fun q=>decide (q=key.data.toList)) E 0;generalize idx (fun q=>decide (q=key.data.toList)) 0 E=ix at *;have K0:=ja k0;have K1:=ja k1;have K3:=ja k3
    by_cases hi2:ix<0
    ·rw [if_pos hi2] at hpv
     have HPV:=ja hpv;have HK:=ja (And.intro k0 (And.intro k1 (And.intro k2 k3)));clear hpv rL0 rE0 hn hix k0 k1 k2 k3
     go_enter Tryd.func35,Tryd.ntmps35
     go_upto_region 2 with fail
     rw [<-hW0];clear hW0;have p0:=K0.out.cell 0 _ rfl;have p1:=K0.out.cell 1 _ rfl;have p2:=K0.out.cell 2 _ rfl;have p3:=K0.out.cell 3 _ rfl;have p4:=K0.out.cell 4 _ rfl;have p5:=K0.out.cell 5 _ rfl;have q0:=K1.out.cell 0 _ rfl;have q1:=K1.out.cell 1 _ rfl;have r0:=K3.out.cell 0 _ rfl;have r1:=K3.out.cell 1 _ rfl;have r2:=K3.out.cell 2 _ rfl;have r3:=K3.out.cell 3 _ rfl;have r4:=K3.out.cell 4 _ rfl;have r5:=K3.out.cell 5 _ rfl;simp only [List.getElem_toArray,List.getElem_cons_zero,List.getElem_cons_succ] at p0 p1 p2 p3 p4 p5 q0 q1 r0 r1 r2 r3 r4 r5;clear K0 K1 K3
     go_wp2_with fail
     refine(jc KE).mono ?_
     rintro _ w1 ⟨rfl,b1⟩
     have K0:=ja (HK.out.1.below b1);have K1:=ja (HK.out.2.1.below b1);have K2:=ja (HK.out.2.2.1.below b1);have K3:=ja (HK.out.2.2.2.below b1);have HB:=ja (HB0.out.trans (b1.mono (by omega)));clear KE b1 HK HB0 p0 p1 p2 p3 p4 p5 q0 q1 r0 r1 r2 r3 r4 r5;have p0:=K0.out.cell 0 _ rfl;have p1:=K0.out.cell 1 _ rfl;have p2:=K0.out.cell 2 _ rfl;have p3:=K0.out.cell 3 _ rfl;have p4:=K0.out.cell 4 _ rfl;have p5:=K0.out.cell 5 _ rfl;have q0:=K1.out.cell 0 _ rfl;have q1:=K1.out.cell 1 _ rfl;have r0:=K3.out.cell 0 _ rfl;have r1:=K3.out.cell 1 _ rfl;have r2:=K3.out.cell 2 _ rfl;have r3:=K3.out.cell 3 _ rfl;have r4:=K3.out.cell 4 _ rfl;have r5:=K3.out.cell 5 _ rfl;simp only [List.getElem_toArray,List.getElem_cons_zero,List.getElem_cons_succ] at p0 p1 p2 p3 p4 p5 q0 q1 r0 r1 r2 r3 r4 r5;have x0:=K2.out.cell 0 _ rfl;have x1:=K2.out.cell 1 _ rfl;have x2:=K2.out.cell 2 _ rfl
     have x3:=K2.out.cell 3 _ rfl;have x4:=K2.out.cell 4 _ rfl;have x5:=K2.out.cell 5 _ rfl;simp only [List.getElem_toArray,List.getElem_cons_zero,List.getElem_cons_succ] at x0 x1 x2 x3 x4 x5;have z0:=Blk.froz K2.out 0;have z1:=Blk.froz K2.out 1;have z2:=Blk.froz K2.out 2;have z3:=Blk.froz K2.out 3;have z4:=Blk.froz K2.out 4;have z5:=Blk.froz K2.out 5;have HY:=ja (jk K2.out (.int .i64 0) (.int .i64 0) (.int .u64 0) (.string ⟨#[]⟩) (.slice none 0 0) (.slice none 0 0));have HF:=ja (jg HB.out (b:=w.heap.size+2) (by omega) (.int .i64 0) (.int .i64 0) (.int .u64 0) (.string ⟨#[]⟩) (.slice none 0 0) (.slice none 0 0));go_wp2;obtain⟨Y,hYe⟩:∃Y,Y=jp w1 (w.heap.size+2) (.int .i64 0) (.int .i64 0) (.int .u64 0) (.string ⟨#[]⟩) (.slice none 0 0) (.slice none 0 0):=⟨_,rfl⟩
     rw [<-hYe] at HY HF;simp only [jp] at hYe;rw [<-hYe];clear hYe x0 x1 x2 x3 x4 x5 z0 z1 z2 z3 z4 z5 p0 p1 p2 p3 p4 p5 q0 q1 r0 r1 r2 r3 r4 r5;refine bodyPost_ret (jX _ HY.out) rfl ?_
     exact⟨.inr ⟨8,HPV.out,by omega,rfl⟩,HF.out⟩
    ·rw [if_neg hi2] at hpv
     obtain⟨j,rfl⟩:∃j:Nat,ix=j:=⟨ix.toNat,by omega⟩
     have hj:j<E.length:=by omega
     obtain⟨B2,o2,rfl,ok2,hB2,y0,y1,y2,y3,y4,y5,y6,⟨kk,y,xs,hy,hus,hks,hly⟩,d00,d0,d1,d2,d3,d4,d5⟩:=rE0.seven hj;injection hus with hu0 hu1;subst hu1;have hget:(jE (E.getD (j:Int).toNat .nil)).2=y:=by rw [Int.toNat_natCast,List.getD_eq_getElem?_getD,hy];rfl
     rw [hget] at hpv
     have hmem:y∈parts (mkV (6,n,b,s.data.toList) L E):=by
      rw [valus.jB];exact List.mem_append_right _ (List.mem_map.2 ⟨_,List.mem_of_getElem? hy,rfl⟩)
     have hle:jd f y<=M:=by
      have h1:jd (f+1) (mkV (6,n,b,s.data.toList) L E)=jo (jd f) (parts (mkV (6,n,b,s.data.toList) L E))+1:=rfl;have h2:=valus.zI (q:=jd f) hmem;omega
     obtain⟨gk,gn,gb,gs,gpL,gnL,gcL,gpE,gnE,gcE,rfl,rfl,rfl,rfl,rfl,rfl⟩:=hly.form;have HPV:=ja hpv;have HLE:=ja hle;have HK:=ja (And.intro k0 (And.intro k1 (And.intro k2 k3)));have HD:=ja (And.intro d0 (And.intro d1 (And.intro d2 (And.intro d3 (And.intro d4 d5)))));have HLY0:=ja hly;have i1:(j:Int)<(E.length:Int):=by omega
     have i2:(0:Int)<=(j:Int):=by omega
     have hB3:B2<w.heap.size+4:=by have:B2<N:=ok2;omega
     clear hpv rL0 rE0 hn hix k0 k1 k2 k3 hget hmem hle hy hly d0 d1 d2 d3 d4 d5 d00 ok2 hu0
     go_enter Tryd.func35,Tryd.ntmps35
     go_upto_region 2 with fail
     rw [<-hW0];clear hW0;have p0:=K0.out.cell 0 _ rfl;have p1:=K0.out.cell 1 _ rfl;have p2:=K0.out.cell 2 _ rfl;have p3:=K0.out.cell 3 _ rfl;have p4:=K0.out.cell 4 _ rfl;have p5:=K0.out.cell 5 _ rfl;have q0:=K1.out.cell 0 _ rfl;have q1:=K1.out.cell 1 _ rfl;have r0:=K3.out.cell 0 _ rfl;have r1:=K3.out.cell 1 _ rfl;have r2:=K3.out.cell 2 _ rfl;have r3:=K3.out.cell 3 _ rfl;have r4:=K3.out.cell 4 _ rfl;have r5:=K3.out.cell 5 _ rfl;simp only [List.getElem_toArray,List.getElem_cons_zero,List.getElem_cons_succ] at p0 p1 p2 p3 p4 p5 q0 q1 r0 r1 r2 r3 r4 r5;clear K0 K1 K3
     go_wp2_with fail
     refine(jc KE).mono ?_
     rintro _ w1 ⟨rfl,b1⟩
     have K0:=ja (HK.out.1.below b1);have K1:=ja (HK.out.2.1.below b1);have K2:=ja (HK.out.2.2.1.below b1);have K3:=ja (HK.out.2.2.2.below b1);obtain⟨d0,d1,d2,d3,d4,d5⟩:=HD.out;replace d0:=(b1.cell (p:=⟨B2,o2+j*7+1,none⟩) (show B2<W0.heap.size by omega)).trans d0;replace d1:=(b1.cell (p:=⟨B2,o2+j*7+2,none⟩) (show B2<W0.heap.size by omega)).trans d1;replace d2:=(b1.cell (p:=⟨B2,o2+j*7+3,none⟩) (show B2<W0.heap.size by omega)).trans d2;replace d3:=(b1.cell (p:=⟨B2,o2+j*7+4,none⟩) (show B2<W0.heap.size by omega)).trans d3;replace d4:=(b1.cell (p:=⟨B2,o2+j*7+5,none⟩) (show B2<W0.heap.size by omega)).trans d4;replace d5:=(b1.cell (p:=⟨B2,o2+j*7+6,none⟩) (show B2<W0.heap.size by omega)).trans d5;have HLY:=ja (HLY0.out.kept (fun _ h=>h) b1.size (fun q hq hq2=>b1.block q hq2));have HB:=ja (HB0.out.trans (b1.mono (by omega)))
     clear KE b1 HK HD HLY0 HB0 p0 p1 p2 p3 p4 p5 q0 q1 r0 r1 r2 r3 r4 r5;have p0:=K0.out.cell 0 _ rfl;have p1:=K0.out.cell 1 _ rfl;have p2:=K0.out.cell 2 _ rfl;have p3:=K0.out.cell 3 _ rfl;have p4:=K0.out.cell 4 _ rfl;have p5:=K0.out.cell 5 _ rfl;have q0:=K1.out.cell 0 _ rfl;have q1:=K1.out.cell 1 _ rfl;have r0:=K3.out.cell 0 _ rfl;have r1:=K3.out.cell 1 _ rfl;have r2:=K3.out.cell 2 _ rfl;have r3:=K3.out.cell 3 _ rfl;have r4:=K3.out.cell 4 _ rfl;have r5:=K3.out.cell 5 _ rfl;simp only [List.getElem_toArray,List.getElem_cons_zero,List.getElem_cons_succ] at p0 p1 p2 p3 p4 p5 q0 q1 r0 r1 r2 r3 r4 r5;have x0:=K2.out.cell 0 _ rfl;have x1:=K2.out.cell 1 _ rfl;have x2:=K2.out.cell 2 _ rfl;have x3:=K2.out.cell 3 _ rfl;have x4:=K2.out.cell 4 _ rfl;have x5:=K2.out.cell 5 _ rfl;simp only [List.getElem_toArray,List.getElem_cons_zero,List.getElem_cons_succ] at x0 x1 x2 x3 x4 x5
     have z0:=Blk.froz K2.out 0;have z1:=Blk.froz K2.out 1;have z2:=Blk.froz K2.out 2;have z3:=Blk.froz K2.out 3;have z4:=Blk.froz K2.out 4;have z5:=Blk.froz K2.out 5;have HY:=ja (jk K2.out (.int .i64 gk) (.int .i64 gn) (.int .u64 (gb:Int)) (.string gs) (.slice gpL gnL gcL) (.slice gpE gnE gcE));have HF:=ja (jg HB.out (b:=w.heap.size+2) (by omega) (.int .i64 gk) (.int .i64 gn) (.int .u64 (gb:Int)) (.string gs) (.slice gpL gnL gcL) (.slice gpE gnE gcE));have HLV:=ja (Jm HLY.out (B:=w.heap.size+2) (by omega) (.int .i64 gk) (.int .i64 gn) (.int .u64 (gb:Int)) (.string gs) (.slice gpL gnL gcL) (.slice gpE gnE gcE));go_wp2;obtain⟨Y,hYe⟩:∃Y,Y=jp w1 (w.heap.size+2) (.int .i64 gk) (.int .i64 gn) (.int .u64 (gb:Int)) (.string gs) (.slice gpL gnL gcL) (.slice gpE gnE gcE):=⟨_,rfl⟩
     rw [<-hYe] at HY HF HLV;simp only [jp] at hYe;rw [<-hYe];clear hYe x0 x1 x2 x3 x4 x5 z0 z1 z2 z3 z4 z5 p0 p1 p2 p3 p4 p5 q0 q1 r0 r1 r2 r3 r4 r5 d0 d1 d2 d3 d4 d5;refine bodyPost_ret (jX _ HY.out) rfl ?_
     exact⟨.inl ⟨y,f,_,_,_,_,_,_,HPV.out,rfl,HLV.out,HLE.out⟩,HF.out⟩
   ·rw [if_pos hk] at hpv
    have HPV:=ja hpv;have hk':(k != 6)=true:=bne_iff_ne.2 hk;have K0:=ja k0;have K1:=ja k1;have K2:=ja k2;have K3:=ja k3;have HB:=HB0;clear hpv rL0 rE0 hn k0 k1 k2 k3
    go_enter Tryd.func35,Tryd.ntmps35
    go_upto_region 2 with fail
    rw [<-hW0];clear hW0;have p0:=K0.out.cell 0 _ rfl;have p1:=K0.out.cell 1 _ rfl;have p2:=K0.out.cell 2 _ rfl;have p3:=K0.out.cell 3 _ rfl;have p4:=K0.out.cell 4 _ rfl;have p5:=K0.out.cell 5 _ rfl;have q0:=K1.out.cell 0 _ rfl;have q1:=K1.out.cell 1 _ rfl;have r0:=K3.out.cell 0 _ rfl;have r1:=K3.out.cell 1 _ rfl;have r2:=K3.out.cell 2 _ rfl;have r3:=K3.out.cell 3 _ rfl;have r4:=K3.out.cell 4 _ rfl;have r5:=K3.out.cell 5 _ rfl;simp only [List.getElem_toArray,List.getElem_cons_zero,List.getElem_cons_succ] at p0 p1 p2 p3 p4 p5 q0 q1 r0 r1 r2 r3 r4 r5;have x0:=K2.out.cell 0 _ rfl;have x1:=K2.out.cell 1 _ rfl;have x2:=K2.out.cell 2 _ rfl;have x3:=K2.out.cell 3 _ rfl;have x4:=K2.out.cell 4 _ rfl;have x5:=K2.out.cell 5 _ rfl;simp only [List.getElem_toArray,List.getElem_cons_zero,List.getElem_cons_succ] at x0 x1 x2 x3 x4 x5;have z0:=Blk.froz K2.out 0;have z1:=Blk.froz K2.out 1
    have z2:=Blk.froz K2.out 2;have z3:=Blk.froz K2.out 3;have z4:=Blk.froz K2.out 4;have z5:=Blk.froz K2.out 5;have HY:=ja (jk K2.out (.int .i64 0) (.int .i64 0) (.int .u64 0) (.string ⟨#[]⟩) (.slice none 0 0) (.slice none 0 0));have HF:=ja (jg HB.out (b:=w.heap.size+2) (by omega) (.int .i64 0) (.int .i64 0) (.int .u64 0) (.string ⟨#[]⟩) (.slice none 0 0) (.slice none 0 0));go_wp2;obtain⟨Y,hYe⟩:∃Y,Y=jp W0 (w.heap.size+2) (.int .i64 0) (.int .i64 0) (.int .u64 0) (.string ⟨#[]⟩) (.slice none 0 0) (.slice none 0 0):=⟨_,rfl⟩
    rw [<-hYe] at HY HF;simp only [jp] at hYe;rw [<-hYe];clear hYe x0 x1 x2 x3 x4 x5 z0 z1 z2 z3 z4 z5 p0 p1 p2 p3 p4 p5 q0 q1 r0 r1 r2 r3 r4 r5;refine bodyPost_ret (jX _ HY.out) rfl ?_
    exact⟨.inr ⟨10,HPV.out,by omega,rfl⟩,HF.out⟩
  ·have hpv:jf (mkV (k,n,b,s.data.toList) L E) (key.data.toList,i)=if k≠5 then .inr 10 else if (L.length:Int)<=i then .inr 8 else .inl (L.getD i.toNat .nil):=by
    unfold jf;rw [if_neg e];rfl
   have e1:(i == -1)=false:=beq_false_of_ne e;have K0:=ja k0;have K1:=ja k1;have K2:=ja k2;have K3:=ja k3;have HB:=HB0;clear k0 k1 k2 k3
   by_cases hk:k=5
   ·subst hk
    rw [if_neg (by simp)] at hpv
    by_cases hi2:(L.length:Int)<=i
    ·rw [if_pos hi2] at hpv
     have HPV:=ja hpv;have hi3:i ≥ (L.length:Int):=hi2;clear hpv rL0 rE0 hn
     go_enter Tryd.func35,Tryd.ntmps35
     go_upto_region 2 with fail
     rw [<-hW0];clear hW0;have p0:=K0.out.cell 0 _ rfl;have p1:=K0.out.cell 1 _ rfl;have p2:=K0.out.cell 2 _ rfl;have p3:=K0.out.cell 3 _ rfl;have p4:=K0.out.cell 4 _ rfl;have p5:=K0.out.cell 5 _ rfl;have q0:=K1.out.cell 0 _ rfl;have q1:=K1.out.cell 1 _ rfl;have r0:=K3.out.cell 0 _ rfl;have r1:=K3.out.cell 1 _ rfl;have r2:=K3.out.cell 2 _ rfl;have r3:=K3.out.cell 3 _ rfl;have r4:=K3.out.cell 4 _ rfl;have r5:=K3.out.cell 5 _ rfl;simp only [List.getElem_toArray,List.getElem_cons_zero,List.getElem_cons_succ] at p0 p1 p2 p3 p4 p5 q0 q1 r0 r1 r2 r3 r4 r5;have x0:=K2.out.cell 0 _ rfl;have x1:=K2.out.cell 1 _ rfl;have x2:=K2.out.cell 2 _ rfl;have x3:=K2.out.cell 3 _ rfl;have x4:=K2.out.cell 4 _ rfl;have x5:=K2.out.cell 5 _ rfl;simp only [List.getElem_toArray,List.getElem_cons_zero,List.getElem_cons_succ] at x0 x1 x2 x3 x4 x5;have z0:=Blk.froz K2.out 0;have z1:=Blk.froz K2.out 1
     have z2:=Blk.froz K2.out 2;have z3:=Blk.froz K2.out 3;have z4:=Blk.froz K2.out 4;have z5:=Blk.froz K2.out 5;have HY:=ja (jk K2.out (.int .i64 0) (.int .i64 0) (.int .u64 0) (.string ⟨#[]⟩) (.slice none 0 0) (.slice none 0 0));have HF:=ja (jg HB.out (b:=w.heap.size+2) (by omega) (.int .i64 0) (.int .i64 0) (.int .u64 0) (.string ⟨#[]⟩) (.slice none 0 0) (.slice none 0 0));go_wp2;obtain⟨Y,hYe⟩:∃Y,Y=jp W0 (w.heap.size+2) (.int .i64 0) (.int .i64 0) (.int .u64 0) (.string ⟨#[]⟩) (.slice none 0 0) (.slice none 0 0):=⟨_,rfl⟩
     rw [<-hYe] at HY HF;simp only [jp] at hYe;rw [<-hYe];clear hYe x0 x1 x2 x3 x4 x5 z0 z1 z2 z3 z4 z5 p0 p1 p2 p3 p4 p5 q0 q1 r0 r1 r2 r3 r4 r5;refine bodyPost_ret (jX _ HY.out) rfl ?_
     exact⟨.inr ⟨8,HPV.out,by omega,rfl⟩,HF.out⟩
    ·rw [if_neg hi2] at hpv
     obtain⟨j,rfl⟩:∃j:Nat,i=j:=⟨i.toNat,by omega⟩
     have hj:j<L.length:=by omega
     obtain⟨B2,o2,rfl,ok2,hB2,y0,y1,y2,y3,y4,y5,⟨y,hy,hly⟩,d0,d1,d2,d3,d4,d5⟩:=rL0.six hj;have hget:L.getD (j:Int).toNat .nil=y:=by rw [Int.toNat_natCast,List.getD_eq_getElem?_getD,hy];rfl
     rw [hget] at hpv;have hmem:y∈parts (mkV (5,n,b,s.data.toList) L E):=by rw [valus.jB];exact List.mem_append_left _ (List.mem_of_getElem? hy)
     have hle:jd f y<=M:=by
      have h1:jd (f+1) (mkV (5,n,b,s.data.toList) L E)=jo (jd f) (parts (mkV (5,n,b,s.data.toList) L E))+1:=rfl;have h2:=valus.zI (q:=jd f) hmem;omega
     obtain⟨gk,gn,gb,gs,gpL,gnL,gcL,gpE,gnE,gcE,rfl,rfl,rfl,rfl,rfl,rfl⟩:=hly.form;have HPV:=ja hpv;have HLE:=ja hle;have HLY:=ja hly;have i1:(j:Int)<(L.length:Int):=by omega
     have i2:(0:Int)<=(j:Int):=by omega
     clear hpv rL0 rE0 hn hget hmem hle hy hly ok2
     go_enter Tryd.func35,Tryd.ntmps35
     go_upto_region 2 with fail
     rw [<-hW0];clear hW0;have p0:=K0.out.cell 0 _ rfl;have p1:=K0.out.cell 1 _ rfl;have p2:=K0.out.cell 2 _ rfl;have p3:=K0.out.cell 3 _ rfl;have p4:=K0.out.cell 4 _ rfl;have p5:=K0.out.cell 5 _ rfl;have q0:=K1.out.cell 0 _ rfl;have q1:=K1.out.cell 1 _ rfl;have r0:=K3.out.cell 0 _ rfl;have r1:=K3.out.cell 1 _ rfl;have r2:=K3.out.cell 2 _ rfl;have r3:=K3.out.cell 3 _ rfl;have r4:=K3.out.cell 4 _ rfl;have r5:=K3.out.cell 5 _ rfl;simp only [List.getElem_toArray,List.getElem_cons_zero,List.getElem_cons_succ] at p0 p1 p2 p3 p4 p5 q0 q1 r0 r1 r2 r3 r4 r5;have x0:=K2.out.cell 0 _ rfl;have x1:=K2.out.cell 1 _ rfl;have x2:=K2.out.cell 2 _ rfl;have x3:=K2.out.cell 3 _ rfl;have x4:=K2.out.cell 4 _ rfl;have x5:=K2.out.cell 5 _ rfl;simp only [List.getElem_toArray,List.getElem_cons_zero,List.getElem_cons_succ] at x0 x1 x2 x3 x4 x5;have z0:=Blk.froz K2.out 0;have z1:=Blk.froz K2.out 1
     have z2:=Blk.froz K2.out 2;have z3:=Blk.froz K2.out 3;have z4:=Blk.froz K2.out 4;have z5:=Blk.froz K2.out 5;have HY:=ja (jk K2.out (.int .i64 gk) (.int .i64 gn) (.int .u64 (gb:Int)) (.string gs) (.slice gpL gnL gcL) (.slice gpE gnE gcE));have HF:=ja (jg HB.out (b:=w.heap.size+2) (by omega) (.int .i64 gk) (.int .i64 gn) (.int .u64 (gb:Int)) (.string gs) (.slice gpL gnL gcL) (.slice gpE gnE gcE));have HLV:=ja (Jm HLY.out (B:=w.heap.size+2) (by omega) (.int .i64 gk) (.int .i64 gn) (.int .u64 (gb:Int)) (.string gs) (.slice gpL gnL gcL) (.slice gpE gnE gcE));go_wp2;obtain⟨Y,hYe⟩:∃Y,Y=jp W0 (w.heap.size+2) (.int .i64 gk) (.int .i64 gn) (.int .u64 (gb:Int)) (.string gs) (.slice gpL gnL gcL) (.slice gpE gnE gcE):=⟨_,rfl⟩
     rw [<-hYe] at HY HF HLV;simp only [jp] at hYe;rw [<-hYe];clear hYe x0 x1 x2 x3 x4 x5 z0 z1 z2 z3 z4 z5 p0 p1 p2 p3 p4 p5 q0 q1 r0 r1 r2 r3 r4 r5 d0 d1 d2 d3 d4 d5;refine bodyPost_ret (jX _ HY.out) rfl ?_
     exact⟨.inl ⟨y,f,_,_,_,_,_,_,HPV.out,rfl,HLV.out,HLE.out⟩,HF.out⟩
   ·rw [if_pos hk] at hpv
    have HPV:=ja hpv;have hk':(k != 5)=true:=bne_iff_ne.2 hk;clear hpv rL0 rE0 hn
    go_enter Tryd.func35,Tryd.ntmps35
    go_upto_region 2 with fail
    rw [<-hW0];clear hW0;have p0:=K0.out.cell 0 _ rfl;have p1:=K0.out.cell 1 _ rfl;have p2:=K0.out.cell 2 _ rfl;have p3:=K0.out.cell 3 _ rfl;have p4:=K0.out.cell 4 _ rfl;have p5:=K0.out.cell 5 _ rfl;have q0:=K1.out.cell 0 _ rfl;have q1:=K1.out.cell 1 _ rfl;have r0:=K3.out.cell 0 _ rfl;have r1:=K3.out.cell 1 _ rfl;have r2:=K3.out.cell 2 _ rfl;have r3:=K3.out.cell 3 _ rfl;have r4:=K3.out.cell 4 _ rfl;have r5:=K3.out.cell 5 _ rfl;simp only [List.getElem_toArray,List.getElem_cons_zero,List.getElem_cons_succ] at p0 p1 p2 p3 p4 p5 q0 q1 r0 r1 r2 r3 r4 r5;have x0:=K2.out.cell 0 _ rfl;have x1:=K2.out.cell 1 _ rfl;have x2:=K2.out.cell 2 _ rfl;have x3:=K2.out.cell 3 _ rfl;have x4:=K2.out.cell 4 _ rfl;have x5:=K2.out.cell 5 _ rfl;simp only [List.getElem_toArray,List.getElem_cons_zero,List.getElem_cons_succ] at x0 x1 x2 x3 x4 x5;have z0:=Blk.froz K2.out 0;have z1:=Blk.froz K2.out 1
    have z2:=Blk.froz K2.out 2;have z3:=Blk.froz K2.out 3;have z4:=Blk.froz K2.out 4;have z5:=Blk.froz K2.out 5;have HY:=ja (jk K2.out (.int .i64 0) (.int .i64 0) (.int .u64 0) (.string ⟨#[]⟩) (.slice none 0 0) (.slice none 0 0));have HF:=ja (jg HB.out (b:=w.heap.size+2) (by omega) (.int .i64 0) (.int .i64 0) (.int .u64 0) (.string ⟨#[]⟩) (.slice none 0 0) (.slice none 0 0));go_wp2;obtain⟨Y,hYe⟩:∃Y,Y=jp W0 (w.heap.size+2) (.int .i64 0) (.int .i64 0) (.int .u64 0) (.string ⟨#[]⟩) (.slice none 0 0) (.slice none 0 0):=⟨_,rfl⟩
    rw [<-hYe] at HY HF;simp only [jp] at hYe;rw [<-hYe];clear hYe x0 x1 x2 x3 x4 x5 z0 z1 z2 z3 z4 z5 p0 p1 p2 p3 p4 p5 q0 q1 r0 r1 r2 r3 r4 r5;refine bodyPost_ret (jX _ HY.out) rfl ?_
    exact⟨.inr ⟨10,HPV.out,by omega,rfl⟩,HF.out⟩
open Go.RowKit Go.Shelf
open utfs (ja jc)
open valus (Blk jb Xf Turns YieldAt.any)
attribute [local go_sem] Oper.semAt_some
open Go.RowKit Go.Shelf
open utfs (ja jc)
open valus (Blk jb Turns j7)
attribute [local go_sem] Oper.semAt_some
open Go.RowKit Go.Shelf
open utfs (ja jc)
open valus (Blk jb Turns j7)
attribute [local go_sem] Oper.semAt_some
open Go.RowKit Go.Shelf
open utfs (ja jc)
open valus (V opn jE ent mkV parts jo jd LiesV RowIn Blk jb Turns Xf Abides2)
attribute [local go_sem] Oper.semAt_some
open Go.RowKit
open utfs (ja jc)
open valus (V opn mkV jd LiesV Blk jb jp jk jg)
theorem zu {w:World}{B:Nat}{u0 u1 u2 u3 u4 u5 y:Value}(tmps:Array Value)(h:Blk w B #[u0,u1,u2,u3,u4,u5] 26)(ht:tmps[4]?=some (.pointer (some ⟨B,0,none⟩)):=by rfl)(hy:tmps[5]?=some y:=by rfl):(results Tryd.f14 tmps).run Tryd.prog w=.ok (.tuple #[.agg #[u0,u1,u2,u3,u4,u5],y]) w:=by
 obtain⟨c0,c1,c2,c3,c4,c5⟩:=h.cells6;simp [results,Tryd.f14,ht,hy,go_sem,c0,c1,c2,c3,c4,c5]
def XJ (k n:Int)(b:Nat)(s:ByteArray)(pL:Option Addr)(nL cL:Nat)(pE:Option Addr)(nE cE:Nat):Prop:=k=0/\n=0/\b=0/\s=⟨#[]⟩/\pL=none/\nL=0/\cL=0/\pE=none/\nE=0/\cE=0
abbrev YU (N M:Nat) (z:V⊕Int) (w:World) (e:Ending) (w':World):Prop :=
 ∃(k n:Int) (b:Nat) (s:ByteArray) (pL:Option Addr) (nL cL:Nat) (pE:Option Addr) (nE cE:Nat) (er:Int),e=.returned (.tuple #[.agg #[.int .i64 k,.int .i64 n,.int .u64 (b:Int),.string s,.slice pL nL cL,.slice pE nE cE],.int .i64 er])/\Hid ((∃(y:V) (f:Nat),z=.inl y/\er=0/\LiesV (fun q=>q<N) f w' [.int .i64 k,.int .i64 n,.int .u64 (b:Int),.string s,.slice pL nL cL,.slice pE nE cE] y/\jd f y<=M)\/(z=.inr er/\er≠0/\XJ k n b s pL nL cL pE nE cE))/\Below w.heap.size w w'
theorem Qp {N M:Nat}{z:V⊕Int}{w w':World}{e:Ending}(h:QW N M z w e w'):YU N M z w e w':=by
 obtain⟨⟨y,f,x0,x1,x2,x3,x4,x5,h1,h2,h3,h4⟩ | ⟨er,h1,h2,h3⟩,hb⟩:=h
 ·obtain⟨k,n,b,s,pL,nL,cL,pE,nE,cE,rfl,rfl,rfl,rfl,rfl,rfl⟩:=h3.form
  exact⟨k,n,b,s,pL,nL,cL,pE,nE,cE,0,h2,ja (.inl ⟨y,f,h1,rfl,h3,h4⟩),hb⟩
 ·exact⟨0,0,0,⟨#[]⟩,none,0,0,none,0,0,er,h3,ja (.inr ⟨h1,h2,rfl,rfl,rfl,rfl,rfl,rfl,rfl,rfl,rfl,rfl⟩),hb⟩
def Yd (N M n0:Nat)(z:V⊕Int)(w:World)(BB:Nat)(k n:Int)(b:Nat)(s:ByteArray)(pL:Option Addr)(nL cL:Nat)(pE:Option Addr)(nE cE:Nat)(er:Int)(wx:World):Prop :=
 Blk wx BB #[.int .i64 k,.int .i64 n,.int .u64 (b:Int),.string s,.slice pL nL cL,.slice pE nE cE] 26/\Blk wx (n0+1) #[.int .i64 0,.int .i64 0,.int .u64 0,.string ⟨#[]⟩,.slice none 0 0,.slice none 0 0] 26/\((∃(y:V) (f:Nat),z=.inl y/\er=0/\LiesV (fun q=>q<N) f wx [.int .i64 k,.int .i64 n,.int .u64 (b:Int),.string s,.slice pL nL cL,.slice pE nE cE] y/\jd f y<=M)\/(z=.inr er/\er≠0/\XJ k n b s pL nL cL pE nE cE))/\Below n0 w wx/\n0+2<=BB
theorem jbp {N M n0:Nat}{z:V⊕Int}{w w8:World}{BB:Nat}{k n:Int}{b:Nat}{s:ByteArray}{pL:Option Addr}{nL cL:Nat}{pE:Option Addr}{nE cE:Nat}{er:Int}(h8:Below n0 w w8)(hN:N<=n0)(zb:Blk w8 BB #[.int .i64 0,.int .i64 0,.int .u64 0,.string ⟨#[]⟩,.slice none 0 0,.slice none 0 0] 26)(hBB:n0+2<=BB)(k1:Blk w8 (n0+1) #[.int .i64 0,.int .i64 0,.int .u64 0,.string ⟨#[]⟩,.slice none 0 0,.slice none 0 0] 26)
  (hres:Hid ((∃(y:V) (f:Nat),z=.inl y/\er=0/\LiesV (fun q=>q<N) f w8 [.int .i64 k,.int .i64 n,.int .u64 (b:Int),.string s,.slice pL nL cL,.slice pE nE cE] y/\jd f y<=M)\/(z=.inr er/\er≠0/\XJ k n b s pL nL cL pE nE cE))) :
  Yd N M n0 z w BB k n b s pL nL cL pE nE cE er (jp w8 BB (.int .i64 k) (.int .i64 n) (.int .u64 (b:Int)) (.string s) (.slice pL nL cL) (.slice pE nE cE)):=by
 refine⟨jk zb _ _ _ _ _ _,valus.QT k1 (by omega) _ _ _ _ _ _,?_,jg h8 (by omega) _ _ _ _ _ _,hBB⟩
 rcases hres.out with ⟨y,f,h1,h2,h3,h4⟩ | h
 ·exact .inl ⟨y,f,h1,h2,Jm h3 (by omega) _ _ _ _ _ _,h4⟩
 ·exact .inr h
theorem jah {N M n0:Nat}{z:V⊕Int}{w w8:World}{k n:Int}{b:Nat}{s:ByteArray}{pL:Option Addr}{nL cL:Nat}{pE:Option Addr}{nE cE:Nat}{er:Int}(h8:Below n0 w w8)(hN:N<=n0)(hBB:n0+2<=w8.heap.size)(k1:Blk w8 (n0+1) #[.int .i64 0,.int .i64 0,.int .u64 0,.string ⟨#[]⟩,.slice none 0 0,.slice none 0 0] 26)
  (hres:Hid ((∃(y:V) (f:Nat),z=.inl y/\er=0/\LiesV (fun q=>q<N) f w8 [.int .i64 k,.int .i64 n,.int .u64 (b:Int),.string s,.slice pL nL cL,.slice pE nE cE] y/\jd f y<=M)\/(z=.inr er/\er≠0/\XJ k n b s pL nL cL pE nE cE))) :
  Yd N M n0 z w w8.heap.size k n b s pL nL cL pE nE cE er (w8.alloc (.cells #[.int .i64 k,.int .i64 n,.int .u64 (b:Int),.string s,.slice pL nL cL,.slice pE nE cE] 26)):=by
 have hb:=(Below.refl n0 w8).alloc (by omega) (.cells #[.int .i64 k,.int .i64 n,.int .u64 (b:Int),.string s,.slice pL nL cL,.slice pE nE cE] 26);refine⟨jb _ _ _,k1.alloc _,?_,h8.trans hb,hBB⟩
 rcases hres.out with ⟨y,f,h1,h2,h3,h4⟩ | h
 ·exact .inl ⟨y,f,h1,h2,h3.kept (fun q h=>h) hb.size (fun q h _=>hb.block q (by omega)),h4⟩
 ·exact .inr h
theorem YC {N M:Nat}{z:V⊕Int}{w w8:World}{k n:Int}{b:Nat}{s:ByteArray}{pL:Option Addr}{nL cL:Nat}{pE:Option Addr}{nE cE:Nat}{er:Int}(h8:Below w.heap.size w w8)(hN:N<=w.heap.size)
  (hres:Hid ((∃(y:V) (f:Nat),z=.inl y/\er=0/\LiesV (fun q=>q<N) f w8 [.int .i64 k,.int .i64 n,.int .u64 (b:Int),.string s,.slice pL nL cL,.slice pE nE cE] y/\jd f y<=M)\/(z=.inr er/\er≠0/\XJ k n b s pL nL cL pE nE cE))) :
  QW N M z w (.returned (.tuple #[.agg #[.int .i64 k,.int .i64 n,.int .u64 (b:Int),.string s,.slice pL nL cL,.slice pE nE cE],.int .i64 er])) (jp w8 (w.heap.size+1) (.int .i64 k) (.int .i64 n) (.int .u64 (b:Int)) (.string s) (.slice pL nL cL) (.slice pE nE cE)):=by
 refine⟨?_,jg h8 (by omega) _ _ _ _ _ _⟩
 rcases hres.out with ⟨y,f,h1,rfl,h3,h4⟩ | ⟨h1,h2,rfl,rfl,rfl,rfl,rfl,rfl,rfl,rfl,rfl,rfl⟩
 ·exact .inl ⟨y,f,_,_,_,_,_,_,h1,rfl,Jm h3 (by omega) _ _ _ _ _ _,h4⟩
 ·exact .inr ⟨er,h1,h2,rfl⟩
theorem Yh {w:World}{B o:Nat}{x:St}{P:List St}(h:LiesP w (some ⟨B,o,none⟩) (x :: P)):LiesP w (some ⟨B,o+2,none⟩) P:=fun _=>by
 obtain⟨B',o',e,hB,hc⟩:=h (by simp);injection e with e;injection e with e1 e2;subst e1 e2;refine⟨B,o+2,rfl,hB,fun j y hy=>?_⟩;obtain⟨key,k1,k2,k3,k4,k5⟩:=hc (j+1) y hy;rw [show o+(j+1)*2=o+2+j*2 from by omega] at k4 k5;exact⟨key,k1,k2,k3,k4,k5⟩
def jck (N M:Nat)(P:List St):Prop:=∀(f:Nat) (w:World) (t:V) (a0 a1 a2 a3 a4 a5:Value) (p:Option Addr) (c:Nat),N<=w.heap.size->LiesV (fun q=>q<N) f w [a0,a1,a2,a3,a4,a5] t->jd f t<=M->LiesP w p P->P.length<=c->c<=maxLen->(∀x∈P,-1<=x.2)->
 Calls Tryd.prog 14 #[.agg #[a0,a1,a2,a3,a4,a5],.slice p P.length c] w (QW N M (je t P) w)
open Go.RowKit
open utfs (ja jc)
open valus (V opn mkV jd LiesV Blk jb jp jk jg)
theorem YE (N M:Nat):∀P:List St,jck N M P
 | []=>by
  intro f w t a0 a1 a2 a3 a4 a5 p c hN hl hn hP hc hm hi;obtain⟨k,n,b,s,pL,nL,cL,pE,nE,cE,rfl,rfl,rfl,rfl,rfl,rfl⟩:=hl.form;obtain⟨W0,hW0⟩:∃W0,W0=(w.alloc (.cells #[.int .i64 k,.int .i64 n,.int .u64 (b:Int),.string s,.slice pL nL cL,.slice pE nE cE] 26)).alloc (.cells #[.int .i64 k,.int .i64 n,.int .u64 (b:Int),.string s,.slice pL nL cL,.slice pE nE cE] 26):=⟨_,rfl⟩
  have bA:Below w.heap.size w (w.alloc (.cells #[.int .i64 k,.int .i64 n,.int .u64 (b:Int),.string s,.slice pL nL cL,.slice pE nE cE] 26)):=(Below.refl _ w).alloc (Nat.le_refl _) _;have b0:Below w.heap.size w W0:=by rw [hW0];exact bA.alloc bA.size _
  have k1:Blk W0 (w.heap.size+1) #[.int .i64 k,.int .i64 n,.int .u64 (b:Int),.string s,.slice pL nL cL,.slice pE nE cE] 26:=by
   rw [hW0];have h:=jb (w.alloc (.cells #[.int .i64 k,.int .i64 n,.int .u64 (b:Int),.string s,.slice pL nL cL,.slice pE nE cE] 26)) #[.int .i64 k,.int .i64 n,.int .u64 (b:Int),.string s,.slice pL nL cL,.slice pE nE cE] 26;rw [World.size_alloc] at h;exact h
  go_enter Tryd.func14,Tryd.ntmps14
  go_wp2;rw [<-hW0];refine bodyPost_ret (zu _ k1) rfl ?_
  exact⟨.inl ⟨t,f,_,_,_,_,_,_,rfl,rfl,hl.kept (fun q h=>h) b0.size (fun q h _=>b0.block q (by omega)),hn⟩,b0⟩
 | x :: P=>by
  intro f w t a0 a1 a2 a3 a4 a5 p c hN hl hn hP hc hm hi;have ih:=ja (YE N M P);obtain⟨k,n,b,s,pL,nL,cL,pE,nE,cE,rfl,rfl,rfl,rfl,rfl,rfl⟩:=hl.form;obtain⟨B,o,key,rfl,hB,e1,e2,e3,e4,e5⟩:=hP.at (j:=0) (by simp);simp only [List.getElem_cons_zero,Nat.zero_mul,Nat.add_zero] at e1 e3 e4 e5;obtain⟨W0,hW0⟩:∃W0,W0=(w.alloc (.cells #[.int .i64 k,.int .i64 n,.int .u64 (b:Int),.string s,.slice pL nL cL,.slice pE nE cE] 26)).alloc (.cells #[.int .i64 0,.int .i64 0,.int .u64 0,.string ⟨#[]⟩,.slice none 0 0,.slice none 0 0] 26):=⟨_,rfl⟩
  have bA:Below w.heap.size w (w.alloc (.cells #[.int .i64 k,.int .i64 n,.int .u64 (b:Int),.string s,.slice pL nL cL,.slice pE nE cE] 26)):=(Below.refl _ w).alloc (Nat.le_refl _) _;have b0:Below w.heap.size w W0:=by rw [hW0];exact bA.alloc bA.size _
  have s0:W0.heap.size=w.heap.size+2:=by rw [hW0];simp
  have k0:Blk W0 w.heap.size #[.int .i64 k,.int .i64 n,.int .u64 (b:Int),.string s,.slice pL nL cL,.slice pE nE cE] 26:=by rw [hW0];exact(jb w _ _).alloc _
  have k1:Blk W0 (w.heap.size+1) #[.int .i64 0,.int .i64 0,.int .u64 0,.string ⟨#[]⟩,.slice none 0 0,.slice none 0 0] 26:=by
   rw [hW0];have h:=jb (w.alloc (.cells #[.int .i64 k,.int .i64 n,.int .u64 (b:Int),.string s,.slice pL nL cL,.slice pE nE cE] 26)) #[.int .i64 0,.int .i64 0,.int .u64 0,.string ⟨#[]⟩,.slice none 0 0,.slice none 0 0] 26;rw [World.size_alloc] at h;exact h
  have KP:∀u,Below w.heap.size w u->Calls Tryd.prog 35 #[.agg #[.int .i64 k,.int .i64 n,.int .u64 (b:Int),.string s,.slice pL nL cL,.slice pE nE cE],.agg #[.string key,.int .i64 x.2]] u (YU N M (jf t x) u):=fun u hu=>by
   refine Calls.mono ?_ (fun e w' h=>Qp h)
   have:=X9 N M u (Nat.le_trans hN hu.size) f t _ _ _ _ _ _ (hl.kept (fun q h=>h) hu.size (fun q h _=>hu.block q (by omega))) hn key x.2 (hi x List.mem_cons_self);rw [e1] at this;exact this
  have bz:Below w.heap.size w (W0.alloc (.cells #[.int .i64 0,.int .i64 0,.int .u64 0,.string ⟨#[]⟩,.slice none 0 0,.slice none 0 0] 26)):=b0.alloc b0.size _;have p0:=(b0.cell (p:=⟨B,o,none⟩) hB).trans e4;have p1:=(b0.cell (p:=⟨B,o+1,none⟩) hB).trans e5;have q0:=(bz.cell (p:=⟨B,o,none⟩) hB).trans e4;have q1:=(bz.cell (p:=⟨B,o+1,none⟩) hB).trans e5;obtain⟨c0,c1,c2,c3,c4,c5⟩:=k0.cells6;obtain⟨d0,d1,d2,d3,d4,d5⟩:=(k0.alloc (.cells #[.int .i64 0,.int .i64 0,.int .u64 0,.string ⟨#[]⟩,.slice none 0 0,.slice none 0 0] 26)).cells6;have HKP:=ja KP;have HB0:=ja b0;have i1:¬((P.length:Int)+1=0):=by omega
  have i2:((P.length:Int)+1 == 0)=false:=beq_false_of_ne i1;have i3:(((P.length+1:Nat):Int) == 0)=false:=beq_false_of_ne (by omega);have HS0:=ja s0;clear KP bA s0
  go_enter Tryd.func14,Tryd.ntmps14
  go_wp2;rw [<-hW0];clear hW0
  go_cut [6,7] from 12 to 19 (fun s6 s7 wx=>∃(BB:Nat) (k8 n8:Int) (b8:Nat) (s8:ByteArray) (pL8:Option Addr) (nL8 cL8:Nat) (pE8:Option Addr) (nE8 cE8:Nat) (er:Int),s6=.pointer (some ⟨BB,0,none⟩)/\s7=.int .i64 er/\Hid (Yd N M w.heap.size (jf t x) w BB k8 n8 b8 s8 pL8 nL8 cL8 pE8 nE8 cE8 er wx))
  case first=>
   go_region_with (go_at_call 35
                   refine(HKP.out _ (by first | exact b0 | exact bz | exact _root_.Go.below_drewN b0 _ | exact _root_.Go.below_drewN bz _ | exact(_root_.Go.below_drewN b0 _).alloc (_root_.Go.below_drewN b0 _).size _)).mono ?_
                   rintro e w8 ⟨k8,n8,b8n,s8,pL8,nL8,cL8,pE8,nE8,cE8,er,rfl,hres,b8⟩
                   first
                    | (have zb : Blk w8 W0.heap.size #[.int .i64 0, .int .i64 0, .int .u64 0, .string ⟨#[]⟩, .slice none 0 0, .slice none 0 0] 26 := Blk.below (jb W0.drew _ _) b8
                       obtain⟨z0,z1,z2,z3,z4,z5⟩:=zb.cells6;have y0:=Blk.froz zb 0;have y1:=Blk.froz zb 1;have y2:=Blk.froz zb 2;have y3:=Blk.froz zb 3;have y4:=Blk.froz zb 4;have y5:=Blk.froz zb 5;have HM:=ja (jbp (n0:=w.heap.size) (((_root_.Go.below_drewN b0 1).alloc (_root_.Go.below_drewN b0 1).size _).trans (b8.mono ((_root_.Go.below_drewN b0 1).alloc (_root_.Go.below_drewN b0 1).size _).size)) hN zb (by have:=HS0.out;omega) (Blk.below (Blk.alloc (w:=W0.drew) k1 _) b8) hres);clear hres zb)
                    | (have HM := ja (jah (n0 := w.heap.size) ((_root_.Go.below_drewN b0 1).trans (b8.mono (_root_.Go.below_drewN b0 1).size)) hN (by have := HS0.out; have := b8.size; have e : W0.drew.heap.size = W0.heap.size := rfl; omega) (Blk.below (w := W0.drew) k1 b8) hres)
                       clear hres)
                   clear b8)
   all_goals
    go_wp2_with fail
    go_meet
    exact⟨_,_,_,_,_,_,_,_,_,_,_,_,rfl,rfl,HM⟩
  case rest=>
  obtain⟨BB,k8,n8,b8,s8,pL8,nL8,cL8,pE8,nE8,cE8,er,rfl,rfl,HM⟩:=hcut;clear p0 p1 q0 q1 c0 c1 c2 c3 c4 c5 d0 d1 d2 d3 d4 d5 HKP k0 k1 b0 bz;obtain⟨hBk,hk1,hz,hbw,hBB⟩:=HM.out;have hLw:=hP.keep (hbw.mono (Nat.le_refl _));have hsz:=hbw.size;have hblt:=hBk.lt;have y0:=hBk.cell 0 _ rfl;have y1:=hBk.cell 1 _ rfl;have y2:=hBk.cell 2 _ rfl;have y3:=hBk.cell 3 _ rfl;have y4:=hBk.cell 4 _ rfl;have y5:=hBk.cell 5 _ rfl
  rcases hz with ⟨y,g,hz,rfl,hly,hny⟩ | ⟨hz,hne,_⟩
  ·have hlead:je t (x :: P)=je y P:=by rw [jU,hz];rfl
   have KL:∀u,Below wc.heap.size wc u->Calls Tryd.prog 14 #[.agg #[.int .i64 k8,.int .i64 n8,.int .u64 (b8:Int),.string s8,.slice pL8 nL8 cL8,.slice pE8 nE8 cE8],.slice (if c=1 then some ⟨B,o,none⟩ else some ⟨B,o+2,none⟩) P.length (c - 1)] u (YU N M (je t (x :: P)) u):=fun u hu=>by
    rw [hlead];refine Calls.mono ?_ (fun e w' h=>Qp h)
    refine ih.out g u y _ _ _ _ _ _ _ _ (by have:=hu.size;omega) (hly.kept (fun q h=>h) hu.size (fun q h _=>hu.block q (by omega))) hny ?_ (by rw [List.length_cons] at hc;omega) (by omega) (fun z hz=>hi z (List.mem_cons_of_mem _ hz))
    by_cases hc1:c=1
    ·intro hz
     rw [List.length_cons] at hc;omega
    ·rw [if_neg hc1]
     exact Yh (hLw.keep hu)
   have HKL:=ja KL;have HK1:=ja hk1;have i4:(1:Int)<=(P.length:Int)+1:=by omega
   have i5:1<=P.length+1:=by omega
   have i6:P.length+1<=c:=by rw [List.length_cons] at hc;exact hc
   clear KL hlead hz hly hny hk1 hLw hP HM ih hBk;generalize je t (x :: P)=zz at *
   by_cases hc1:c=1
   ·subst hc1
    have hp0:P=[]:=List.eq_nil_of_length_eq_zero (by omega);subst hp0;rw [if_pos rfl] at HKL;have HKL:Hid (∀u,Below wc.heap.size wc u->Calls Tryd.prog 14 #[.agg #[.int .i64 k8,.int .i64 n8,.int .u64 (b8:Int),.string s8,.slice pL8 nL8 cL8,.slice pE8 nE8 cE8],.slice (some ⟨B,o,none⟩) 0 0] u (YU N M zz u)):=HKL;clear i1 i2 i3 i4 i5 i6 hc hm hi;rw [List.length_nil,Nat.zero_add];go_wp2
    go_region_with (go_at_call 14
                    refine(HKL.out _ (_root_.Go.below_drewN (Below.refl _ wc) 1)).mono ?_
                    rintro e w9 ⟨k9,n9,b9n,s9,pL9,nL9,cL9,pE9,nE9,cE9,e9,rfl,hres,b9⟩
                    have zb:Blk w9 (w.heap.size+1) #[.int .i64 0,.int .i64 0,.int .u64 0,.string ⟨#[]⟩,.slice none 0 0,.slice none 0 0] 26:=Blk.below (w:=wc.drew) HK1.out b9;obtain⟨z0,z1,z2,z3,z4,z5⟩:=zb.cells6;have f0:=Blk.froz zb 0;have f1:=Blk.froz zb 1;have f2:=Blk.froz zb 2;have f3:=Blk.froz zb 3;have f4:=Blk.froz zb 4;have f5:=Blk.froz zb 5;have HY:=ja (jk zb (.int .i64 k9) (.int .i64 n9) (.int .u64 (b9n:Int)) (.string s9) (.slice pL9 nL9 cL9) (.slice pE9 nE9 cE9));have HR:=ja (YC ((_root_.Go.below_drewN hbw 1).trans (b9.mono (_root_.Go.below_drewN hbw 1).size)) hN hres);clear hres b9 zb)
    all_goals
     go_wp2;obtain⟨Y,hYe⟩:∃Y,Y=jp w9 (w.heap.size+1) (.int .i64 k9) (.int .i64 n9) (.int .u64 (b9n:Int)) (.string s9) (.slice pL9 nL9 cL9) (.slice pE9 nE9 cE9):=⟨_,rfl⟩
     rw [<-hYe] at HY HR;simp only [jp] at hYe;rw [<-hYe];clear hYe z0 z1 z2 z3 z4 z5 f0 f1 f2 f3 f4 f5;refine bodyPost_ret (zu _ HY.out) rfl ?_
     exact HR.out
   ·rw [if_neg hc1] at HKL
    go_wp2
    go_region_with (go_at_call 14
                    refine(HKL.out _ (_root_.Go.below_drewN (Below.refl _ wc) 1)).mono ?_
                    rintro e w9 ⟨k9,n9,b9n,s9,pL9,nL9,cL9,pE9,nE9,cE9,e9,rfl,hres,b9⟩
                    have zb:Blk w9 (w.heap.size+1) #[.int .i64 0,.int .i64 0,.int .u64 0,.string ⟨#[]⟩,.slice none 0 0,.slice none 0 0] 26:=Blk.below (w:=wc.drew) HK1.out b9;obtain⟨z0,z1,z2,z3,z4,z5⟩:=zb.cells6;have f0:=Blk.froz zb 0;have f1:=Blk.froz zb 1;have f2:=Blk.froz zb 2;have f3:=Blk.froz zb 3;have f4:=Blk.froz zb 4;have f5:=Blk.froz zb 5;have HY:=ja (jk zb (.int .i64 k9) (.int .i64 n9) (.int .u64 (b9n:Int)) (.string s9) (.slice pL9 nL9 cL9) (.slice pE9 nE9 cE9));have HR:=ja (YC ((_root_.Go.below_drewN hbw 1).trans (b9.mono (_root_.Go.below_drewN hbw 1).size)) hN hres);clear hres b9 zb)
    all_goals
     go_wp2;obtain⟨Y,hYe⟩:∃Y,Y=jp w9 (w.heap.size+1) (.int .i64 k9) (.int .i64 n9) (.int .u64 (b9n:Int)) (.string s9) (.slice pL9 nL9 cL9) (.slice pE9 nE9 cE9):=⟨_,rfl⟩
     rw [<-hYe] at HY HR;simp only [jp] at hYe;rw [<-hYe];clear hYe z0 z1 z2 z3 z4 z5 f0 f1 f2 f3 f4 f5;refine bodyPost_ret (zu _ HY.out) rfl ?_
     exact HR.out
  ·have hlead:je t (x :: P)=.inr er:=by rw [jU,hz];rfl
   have HLD:=ja hlead;have HK1:=ja hk1;obtain⟨z0,z1,z2,z3,z4,z5⟩:=hk1.cells6;have f0:=Blk.froz hk1 0;have f1:=Blk.froz hk1 1;have f2:=Blk.froz hk1 2;have f3:=Blk.froz hk1 3;have f4:=Blk.froz hk1 4;have f5:=Blk.froz hk1 5;have HY:=ja (jk hk1 (.int .i64 0) (.int .i64 0) (.int .u64 0) (.string ⟨#[]⟩) (.slice none 0 0) (.slice none 0 0));have HF:=ja (jg hbw (b:=w.heap.size+1) (by omega) (.int .i64 0) (.int .i64 0) (.int .u64 0) (.string ⟨#[]⟩) (.slice none 0 0) (.slice none 0 0));have n2:(er != 0)=true:=bne_iff_ne.2 hne;have HNE:=ja hne;clear hlead hz hk1 hLw hP HM ih hBk;go_wp2;obtain⟨Y,hYe⟩:∃Y,Y=jp wc (w.heap.size+1) (.int .i64 0) (.int .i64 0) (.int .u64 0) (.string ⟨#[]⟩) (.slice none 0 0) (.slice none 0 0):=⟨_,rfl⟩
   rw [<-hYe] at HY HF;simp only [jp] at hYe;rw [<-hYe];clear hYe z0 z1 z2 z3 z4 z5 f0 f1 f2 f3 f4 f5;refine bodyPost_ret (zu _ HY.out) rfl ?_
   exact⟨.inr ⟨er,HLD.out,HNE.out,rfl⟩,HF.out⟩
end paths
end Go.Proofs.YtadaehaemmelfaaDoor
