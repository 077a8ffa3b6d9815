/- Of our texts, what this claim reaches. -/
import Derived.Test.YtadaehaemmelfaaDoorPubBV
import Derived.Test.YtadaehaemmelfaaDoorPubBN
import Derived.Test.YtadaehaemmelfaaDoorPubBG
set_option linter.unusedVariables false
set_option maxHeartbeats 16000000
set_option maxRecDepth 100000
set_option linter.unusedSimpArgs false
namespace Go.Proofs.YtadaehaemmelfaaDoor
namespace upds
open Go.RowKit Go.Shelf
open valus
open paths (St LiesP jf je jq)
theorem qa {w:World}{B:Nat}{u0 u1 u2 u3 u4 u5 y:Value}(tmps:Array Value)(h:Blk w B #[u0,u1,u2,u3,u4,u5] 26)(ht:tmps[4]?=some (.pointer (some ⟨B,0,none⟩)):=by rfl)(hy:tmps[5]?=some y:=by rfl):(results Tryd.f21 tmps).run Tryd.prog w=.ok (.tuple #[.agg #[u0,u1,u2,u3,u4,u5],y]) w:=by
 obtain⟨c0,c1,c2,c3,c4,c5⟩:=h.cells6;simp [results,Tryd.f21,ht,hy,go_sem,c0,c1,c2,c3,c4,c5]
def UpdZW (ok:Nat->Prop)(r:Int×V)(w:World)(e:Ending)(w':World):Prop:=Below w.heap.size w w'/\∃(k n:Int) (b:Nat) (s:ByteArray) (pL:Option Addr) (nL cL:Nat) (pE:Option Addr) (nE cE:Nat),e=.returned (.tuple #[.agg #[.int .i64 k,.int .i64 n,.int .u64 (b:Int),.string s,.slice pL nL cL,.slice pE nE cE],.int .i64 r.1])/\(r.1=0->∃f,LiesV (At ok w.heap.size w') f w' [.int .i64 k,.int .i64 n,.int .u64 (b:Int),.string s,.slice pL nL cL,.slice pE nE cE] r.2)/\(r.1≠0->k=0/\n=0/\b=0/\s=⟨#[]⟩/\pL=none/\nL=0/\cL=0/\pE=none/\nE=0/\cE=0)
theorem UpdZW.bad {ok:Nat->Prop}{r:Int×V}{w w':World}(hb:Below w.heap.size w w')(hr:r.1≠0):UpdZW ok r w (.returned (.tuple #[.agg #[.int .i64 0,.int .i64 0,.int .u64 0,.string ⟨#[]⟩,.slice none 0 0,.slice none 0 0],.int .i64 r.1])) w':=⟨hb,0,0,0,⟨#[]⟩,none,0,0,none,0,0,rfl,fun h=>absurd h hr,fun _=>⟨rfl,rfl,rfl,rfl,rfl,rfl,rfl,rfl,rfl,rfl⟩⟩
theorem J8 (ok:Nat->Prop)(f:Nat)(w:World)(t:V)(k n:Int)(b:Nat)(s:ByteArray)(pL:Option Addr)(nL cL:Nat)(pE:Option Addr)(nE cE:Nat)(hok:∀q,ok q->q<w.heap.size)(hl:LiesV ok f w [.int .i64 k,.int .i64 n,.int .u64 (b:Int),.string s,.slice pL nL cL,.slice pE nE cE] t)(hg:jh jr t=0)(hn:jd f t<=2000)(hgood:∀y:V,∀g,IsV g y->jh jr y=0->jd g y<=2000)
  (kind:Int) (hki : -9223372036854775808<=kind/\kind<=9223372036854775807) (p:Option Addr) (c:Nat) (P:List St) (hP:LiesP w p P) (hPc:P.length<=c) (hcm:c<=9223372036854775807) (g:Nat) (y:V) (vk vn:Int) (vb:Nat) (vs:ByteArray) (vpL:Option Addr) (vnL vcL:Nat) (vpE:Option Addr) (vnE vcE:Nat) (hy:LiesV ok g w [.int .i64 vk,.int .i64 vn,.int .u64 (vb:Int),.string vs,.slice vpL vnL vcL,.slice vpE vnE vcE] y) (hny:jd g y<=10000000) (key:ByteArray) (hkm:key.size<=maxLen) :
  Calls Tryd.prog 21 #[.agg #[.int .i64 k,.int .i64 n,.int .u64 (b:Int),.string s,.slice pL nL cL,.slice pE nE cE],.agg #[.int .i64 kind,.slice p P.length c,.int .i64 vk,.int .i64 vn,.int .u64 (vb:Int),.string vs,.slice vpL vnL vcL,.slice vpE vnE vcE,.string key]] w (UpdZW ok (qR kind P y key.data.toList t) w):=by
 obtain⟨W0,hW0⟩:∃W0,W0=Zk w #[.int .i64 k,.int .i64 n,.int .u64 (b:Int),.string s,.slice pL nL cL,.slice pE nE cE] #[.int .i64 kind,.slice p P.length c,.int .i64 vk,.int .i64 vn,.int .u64 (vb:Int),.string vs,.slice vpL vnL vcL,.slice vpE vnE vcE,.string key] qv:=⟨_,rfl⟩
 have h3:=QQ w #[.int .i64 k,.int .i64 n,.int .u64 (b:Int),.string s,.slice pL nL cL,.slice pE nE cE] #[.int .i64 kind,.slice p P.length c,.int .i64 vk,.int .i64 vn,.int .u64 (vb:Int),.string vs,.slice vpL vnL vcL,.slice vpE vnE vcE,.string key] qv;rw [<-hW0] at h3;have hPl:P.length<=9223372036854775807:=by omega
 have KV:=ja (zE f W0 t _ _ _ _ _ _ ((Qi (N:=w.heap.size) hl hok h3.b).weaken (fun q h=>h.2)) (by omega))
 have KO:Hid (∀v,Below W0.heap.size W0 v->Calls Tryd.prog 41 #[.agg #[.int .i64 kind,.slice p P.length c,.int .i64 vk,.int .i64 vn,.int .u64 (vb:Int),.string vs,.slice vpL vnL vcL,.slice vpE vnE vcE,.string key]] v fun e w'=>e=.returned (.int .i64 (qf kind P y key.data.toList))/\Below v.heap.size v w'):=ja fun v hv=>by
  have bv:=h3.b.trans (hv.mono h3.b.size);exact Z5 v kind hki p c P (hP.keep bv) hPl g y vk vn vb vs vpL vnL vcL vpE vnE vcE ((Qi (N:=w.heap.size) hy hok bv).weaken (fun q h=>h.2)) hny key trivial
 rw [hg] at KV;have H3:=ja h3;unfold Zk qv at hW0;have HW0:=ja hW0;have HA:=ja (And.intro hl (And.intro hok (And.intro hg (And.intro hn (And.intro hgood (And.intro hP hy))))));have a0:=h3.a.cell 0 _ rfl;have a1:=h3.a.cell 1 _ rfl;have a2:=h3.a.cell 2 _ rfl;have a3:=h3.a.cell 3 _ rfl;have a4:=h3.a.cell 4 _ rfl;have a5:=h3.a.cell 5 _ rfl;simp only [List.getElem_toArray,List.getElem_cons_zero,List.getElem_cons_succ] at a0 a1 a2 a3 a4 a5;clear h3 hW0 hl hok hg hn hgood hP hy
 go_enter Tryd.func21,Tryd.ntmps21
 go_upto_region 1 with fail
 rw [<-HW0.out];clear HW0
 go_upto_region 4 with (go_at_call 40;refine(jc KV).mono ?_;rintro e w1 ⟨rfl,b1⟩;have B1:=ja b1;clear b1)
 clear KV a0 a1 a2 a3 a4 a5;have K1:=H3.out.below B1.out;have o0:=K1.o.cell 0 _ rfl;have o1:=K1.o.cell 1 _ rfl;have o2:=K1.o.cell 2 _ rfl;have o3:=K1.o.cell 3 _ rfl;have o4:=K1.o.cell 4 _ rfl;have o5:=K1.o.cell 5 _ rfl;have o6:=K1.o.cell 6 _ rfl;have o7:=K1.o.cell 7 _ rfl;have o8:=K1.o.cell 8 _ rfl;simp only [List.getElem_toArray,List.getElem_cons_zero,List.getElem_cons_succ] at o0 o1 o2 o3 o4 o5 o6 o7 o8;clear K1
 go_upto_region 5 with (go_at_call 41;refine(KO.out _ B1.out).mono ?_;rintro e w2 ⟨rfl,b2⟩;have B2:=ja (B1.out.trans (b2.mono B1.out.size));clear b2)
 clear KO o0 o1 o2 o3 o4 o5 o6 o7 o8;obtain⟨er,her⟩:∃er,er=qf kind P y key.data.toList:=⟨_,rfl⟩
 have hM:qR kind P y key.data.toList t=if er≠0 then (er,t) else if (chM kind P y key.data.toList t).1≠0 then chM kind P y key.data.toList t else (jh jr (chM kind P y key.data.toList t).2,(chM kind P y key.data.toList t).2):=by unfold qR;rw [<-her]
 rw [<-her];have K2:=H3.out.below B2.out
 by_cases he:er=0
 ·rw [if_neg (by simpa using he)] at hM
  have hck:qf kind P y key.data.toList=0:=by rw [<-her];exact he
  obtain⟨hk1,hk4,hcp,hneed,hP0⟩:=qJ hck;have hcp2:=paths.jl hcp
  have hPx:∀x∈P,-1<=x.2:=fun x hx=>by
   rcases(paths.jm (hcp2.2 x hx)).2.1 with h | h<;>omega
  obtain⟨r,hr⟩:∃r,r=Xs kind y key.data.toList t P:=⟨_,rfl⟩
  obtain⟨hr1,hr2⟩:=Xc (y:=y) (key:=key.data.toList) ⟨hk1,hk4⟩ P f t HA.out.1.isV HA.out.2.2.1 hPx hP0;rw [<-hr] at hr1 hr2
  have hfew:(chM kind P y key.data.toList t).1=0->Few 10000000 (chM kind P y key.data.toList t).2:=fun _=>YB hcp HA.out.1.isV (by have:=HA.out.2.2.2.1;omega) (fun hk=>⟨HA.out.2.2.2.2.2.2.isV,by
   unfold qs at hneed;rw [if_pos (by omega)] at hneed;have:=HA.out.2.2.2.2.1 y g HA.out.2.2.2.2.2.2.isV hneed;omega⟩)
  have KU:Hid (∀v,Below w2.heap.size w2 v->Calls Tryd.prog 42 #[.agg #[.int .i64 k,.int .i64 n,.int .u64 (b:Int),.string s,.slice pL nL cL,.slice pE nE cE],.slice p P.length c,.agg #[.int .i64 kind,.slice p P.length c,.int .i64 vk,.int .i64 vn,.int .u64 (vb:Int),.string vs,.slice vpL vnL vcL,.slice vpE vnE vcE,.string key]] v (jbz ok r v)):=ja fun v hv=>by
   rw [hr];have bv:=K2.b.trans (hv.mono K2.b.size);exact Qc kind ⟨hk1,hk4⟩ y key hkm P hP0 ok f v t k n b s pL nL cL pE nE cE p c p P.length c g vk vn vb vs vpL vnL vcL vpE vnE vcE (fun q h=>Nat.lt_of_lt_of_le (HA.out.2.1 q h) bv.size) (HA.out.1.kept (fun q h=>h) bv.size (fun q h _=>bv.block q (HA.out.2.1 q h))) (by have:=HA.out.2.2.2.1;omega) (HA.out.2.2.2.2.2.1.keep bv) hPc (by unfold maxLen;omega) hPx (HA.out.2.2.2.2.2.2.kept (fun q h=>h) bv.size (fun q h _=>bv.block q (HA.out.2.1 q h)))
  rw [he];have HM:=ja hM;have HR:=ja (And.intro hr1 (And.intro hr2 hfew));have HK2:=ja K2;have a0:=K2.a.cell 0 _ rfl;have a1:=K2.a.cell 1 _ rfl;have a2:=K2.a.cell 2 _ rfl;have a3:=K2.a.cell 3 _ rfl;have a4:=K2.a.cell 4 _ rfl;have a5:=K2.a.cell 5 _ rfl;have o0:=K2.o.cell 0 _ rfl;have o1:=K2.o.cell 1 _ rfl;have o2:=K2.o.cell 2 _ rfl;have o3:=K2.o.cell 3 _ rfl;have o4:=K2.o.cell 4 _ rfl;have o5:=K2.o.cell 5 _ rfl;have o6:=K2.o.cell 6 _ rfl;have o7:=K2.o.cell 7 _ rfl;have o8:=K2.o.cell 8 _ rfl;simp only [List.getElem_toArray,List.getElem_cons_zero,List.getElem_cons_succ] at a0 a1 a2 a3 a4 a5 o0 o1 o2 o3 o4 o5 o6 o7 o8;clear hM hck hneed hcp2 hPx hr hr1 hr2 hfew K2 her he hcp
  go_upto_region 8 with (go_at_call 42;refine(KU.out _ (Below.refl _ _)).mono ?_;rintro e w5 ⟨b5,k9,n9,b9,s9,pL9,nL9,cL9,pE9,nE9,cE9,rfl,f9,hl9⟩;have B5:=ja b5;have HL9:=ja hl9;clear b5 hl9)
  obtain⟨W6,hW6⟩:∃W6,W6=w5.alloc (.cells #[.int .i64 k9,.int .i64 n9,.int .u64 (b9:Int),.string s9,.slice pL9 nL9 cL9,.slice pE9 nE9 cE9] 26):=⟨_,rfl⟩
  rw [<-hW6];have b6:Below w5.heap.size w5 W6:=by rw [hW6];exact(Below.refl _ _).alloc (Nat.le_refl _) _
  have hD:Blk W6 w5.heap.size #[.int .i64 k9,.int .i64 n9,.int .u64 (b9:Int),.string s9,.slice pL9 nL9 cL9,.slice pE9 nE9 cE9] 26:=by rw [hW6];exact jb _ _ _
  have K6:=HK2.out.below (B5.out.trans (b6.mono B5.out.size));have hlD:=Jo HL9.out (Nat.le_refl _) b6;have hsz:=HK2.out.s;clear KU a0 a1 a2 a3 a4 a5 o0 o1 o2 o3 o4 o5 o6 o7 o8 hW6
  by_cases hr0:r.1=0
  ·have hm0:(chM kind P y key.data.toList t).1=0:=by rw [<-HR.out.1];exact hr0
   have hm:=HM.out;rw [if_neg (by simpa using hm0),<-HR.out.2.1 hm0] at hm;have hf6:=HR.out.2.2 hm0;rw [<-HR.out.2.1 hm0] at hf6;have KF:=ja (zE f9 W6 r.2 _ _ _ _ _ _ (hlD.weaken (fun q h=>h.2)) (hf6.at hlD.isV));obtain⟨fv,hfv⟩:∃fv,fv=jh jr r.2:=⟨_,rfl⟩
   rw [<-hfv] at KF hm;rw [hr0];have HU:=ja hm;have HK6:=ja K6;have HLD:=ja hlD;have HDD:=ja hD;obtain⟨d0,d1,d2,d3,d4,d5⟩:=hD.cells6;clear hm hf6 hm0 K6 hlD hD hfv HM HR HL9 hr0
   go_upto_region 10 with (go_at_call 40;refine(jc KF).mono ?_;rintro e w7 ⟨rfl,b7⟩;have B7:=ja b7;clear b7)
   have K7:=HK6.out.below B7.out;clear KF d0 d1 d2 d3 d4 d5
   by_cases hv0:fv=0
   ·subst hv0
    obtain⟨d0,d1,d2,d3,d4,d5⟩:=(HDD.out.below B7.out).cells6;have HY:=ja (jk K7.r (.int .i64 k9) (.int .i64 n9) (.int .u64 (b9:Int)) (.string s9) (.slice pL9 nL9 cL9) (.slice pE9 nE9 cE9));have HB:=ja (jg K7.b (b:=w.heap.size+2) (by omega) (.int .i64 k9) (.int .i64 n9) (.int .u64 (b9:Int)) (.string s9) (.slice pL9 nL9 cL9) (.slice pE9 nE9 cE9));have HV:=ja (JY (ok:=ok) (B:=w.heap.size+2) (N:=w2.heap.size) (Jo HLD.out (Nat.le_refl _) B7.out) (fun h=>by have:=HA.out.2.1 _ h;omega) (by omega) (.int .i64 k9) (.int .i64 n9) (.int .u64 (b9:Int)) (.string s9) (.slice pL9 nL9 cL9) (.slice pE9 nE9 cE9));have r0:=K7.r.cell 0 _ rfl;have r1:=K7.r.cell 1 _ rfl;have r2:=K7.r.cell 2 _ rfl;have r3:=K7.r.cell 3 _ rfl;have r4:=K7.r.cell 4 _ rfl;have r5:=K7.r.cell 5 _ rfl;have f0:=K7.r.froz 0;have f1:=K7.r.froz 1;have f2:=K7.r.froz 2;have f3:=K7.r.froz 3
    have f4:=K7.r.froz 4;have f5:=K7.r.froz 5;simp only [qv,List.getElem_toArray,List.getElem_cons_zero,List.getElem_cons_succ] at r0 r1 r2 r3 r4 r5
    go_wp2_with fail
    obtain⟨Y,hYe⟩:∃Y,Y=jp w7 (w.heap.size+2) (.int .i64 k9) (.int .i64 n9) (.int .u64 (b9:Int)) (.string s9) (.slice pL9 nL9 cL9) (.slice pE9 nE9 cE9):=⟨_,rfl⟩
    rw [<-hYe] at HY HB HV;simp only [jp] at hYe;rw [<-hYe];clear hYe;refine bodyPost_ret (qa _ HY.out) rfl ?_
    rw [HU.out];exact⟨HB.out,k9,n9,b9,s9,pL9,nL9,cL9,pE9,nE9,cE9,rfl,fun _=>⟨f9,Jo HV.out (by omega) (Below.refl _ _)⟩,fun h=>absurd rfl h⟩
   ·have hvb:(fv != 0)=true:=bne_iff_ne.2 hv0
    have HV0:=ja hv0;clear hv0;have HY:=ja (jk K7.r (.int .i64 0) (.int .i64 0) (.int .u64 0) (.string ⟨#[]⟩) (.slice none 0 0) (.slice none 0 0));have HB:=ja (jg K7.b (b:=w.heap.size+2) (by omega) (.int .i64 0) (.int .i64 0) (.int .u64 0) (.string ⟨#[]⟩) (.slice none 0 0) (.slice none 0 0));have r0:=K7.r.cell 0 _ rfl;have r1:=K7.r.cell 1 _ rfl;have r2:=K7.r.cell 2 _ rfl;have r3:=K7.r.cell 3 _ rfl;have r4:=K7.r.cell 4 _ rfl;have r5:=K7.r.cell 5 _ rfl;have f0:=K7.r.froz 0;have f1:=K7.r.froz 1;have f2:=K7.r.froz 2;have f3:=K7.r.froz 3;have f4:=K7.r.froz 4;have f5:=K7.r.froz 5;simp only [qv,List.getElem_toArray,List.getElem_cons_zero,List.getElem_cons_succ] at r0 r1 r2 r3 r4 r5
    go_wp2_with fail
    obtain⟨Y,hYe⟩:∃Y,Y=jp w7 (w.heap.size+2) (.int .i64 0) (.int .i64 0) (.int .u64 0) (.string ⟨#[]⟩) (.slice none 0 0) (.slice none 0 0):=⟨_,rfl⟩
    rw [<-hYe] at HY HB;simp only [jp] at hYe;rw [<-hYe];clear hYe;refine bodyPost_ret (qa _ HY.out) rfl ?_
    rw [HU.out];exact UpdZW.bad HB.out HV0.out
  ·have hm0:(chM kind P y key.data.toList t).1≠0:=by rw [<-HR.out.1];exact hr0
   have hm:=HM.out;rw [if_pos hm0] at hm;have HU:Hid (qR kind P y key.data.toList t=(r.1,(chM kind P y key.data.toList t).2)):=ja (by rw [hm,HR.out.1]);have hrb:(r.1 != 0)=true:=bne_iff_ne.2 hr0;have hrb2:(r.1 == 0)=false:=beq_false_of_ne hr0;have HR0:=ja hr0;clear hm hm0 hlD hD HM HR HL9 hr0;have HY:=ja (jk K6.r (.int .i64 0) (.int .i64 0) (.int .u64 0) (.string ⟨#[]⟩) (.slice none 0 0) (.slice none 0 0));have HB:=ja (jg K6.b (b:=w.heap.size+2) (by omega) (.int .i64 0) (.int .i64 0) (.int .u64 0) (.string ⟨#[]⟩) (.slice none 0 0) (.slice none 0 0));have r0:=K6.r.cell 0 _ rfl;have r1:=K6.r.cell 1 _ rfl;have r2:=K6.r.cell 2 _ rfl;have r3:=K6.r.cell 3 _ rfl;have r4:=K6.r.cell 4 _ rfl;have r5:=K6.r.cell 5 _ rfl;have f0:=K6.r.froz 0;have f1:=K6.r.froz 1;have f2:=K6.r.froz 2;have f3:=K6.r.froz 3;have f4:=K6.r.froz 4;have f5:=K6.r.froz 5
   simp only [qv,List.getElem_toArray,List.getElem_cons_zero,List.getElem_cons_succ] at r0 r1 r2 r3 r4 r5
   go_wp2_with fail
   obtain⟨Y,hYe⟩:∃Y,Y=jp W6 (w.heap.size+2) (.int .i64 0) (.int .i64 0) (.int .u64 0) (.string ⟨#[]⟩) (.slice none 0 0) (.slice none 0 0):=⟨_,rfl⟩
   rw [<-hYe] at HY HB;simp only [jp] at hYe;rw [<-hYe];clear hYe;refine bodyPost_ret (qa _ HY.out) rfl ?_
   rw [HU.out];exact UpdZW.bad HB.out HR0.out
 ·rw [if_pos he] at hM
  have HU:=ja hM;have heb:(er != 0)=true:=bne_iff_ne.2 he;have HE0:=ja he;have hsz:=K2.s;clear hM her he;have HY:=ja (jk K2.r (.int .i64 0) (.int .i64 0) (.int .u64 0) (.string ⟨#[]⟩) (.slice none 0 0) (.slice none 0 0));have HB:=ja (jg K2.b (b:=w.heap.size+2) (by omega) (.int .i64 0) (.int .i64 0) (.int .u64 0) (.string ⟨#[]⟩) (.slice none 0 0) (.slice none 0 0));have r0:=K2.r.cell 0 _ rfl;have r1:=K2.r.cell 1 _ rfl;have r2:=K2.r.cell 2 _ rfl;have r3:=K2.r.cell 3 _ rfl;have r4:=K2.r.cell 4 _ rfl;have r5:=K2.r.cell 5 _ rfl;have f0:=K2.r.froz 0;have f1:=K2.r.froz 1;have f2:=K2.r.froz 2;have f3:=K2.r.froz 3;have f4:=K2.r.froz 4;have f5:=K2.r.froz 5;simp only [qv,List.getElem_toArray,List.getElem_cons_zero,List.getElem_cons_succ] at r0 r1 r2 r3 r4 r5
  go_wp2_with fail
  obtain⟨Y,hYe⟩:∃Y,Y=jp w2 (w.heap.size+2) (.int .i64 0) (.int .i64 0) (.int .u64 0) (.string ⟨#[]⟩) (.slice none 0 0) (.slice none 0 0):=⟨_,rfl⟩
  rw [<-hYe] at HY HB;simp only [jp] at hYe;rw [<-hYe];clear hYe;refine bodyPost_ret (qa _ HY.out) rfl ?_
  rw [HU.out];exact UpdZW.bad HB.out HE0.out
end upds
set_option linter.unusedSimpArgs false
namespace upds
open Go.RowKit Go.Shelf
open valus
open paths (St LiesP jf je jq)
theorem qm {w:World}{B:Nat}{u0 u1 u2 u3 u4 u5 y z:Value}(tmps:Array Value)(h:Blk w B #[u0,u1,u2,u3,u4,u5] 26)(ht:tmps[4]?=some (.pointer (some ⟨B,0,none⟩)):=by rfl)(hy:tmps[5]?=some y:=by rfl)(hz:tmps[6]?=some z:=by rfl):(results Tryd.f26 tmps).run Tryd.prog w=.ok (.tuple #[.agg #[u0,u1,u2,u3,u4,u5],y,z]) w:=by
 obtain⟨c0,c1,c2,c3,c4,c5⟩:=h.cells6;simp [results,Tryd.f26,ht,hy,hz,go_sem,c0,c1,c2,c3,c4,c5]
def jbA (w:World)(r:Int×Int×V)(e:Ending)(w':World):Prop:=Below w.heap.size w w'/\(r.2.1=0->∃(f:Nat) (x0 x1 x2 x3 x4 x5:Value),e=.returned (.tuple #[.agg #[x0,x1,x2,x3,x4,x5],.int .i64 r.1,.int .i64 0])/\LiesV (fun q=>q<w'.heap.size) f w' [x0,x1,x2,x3,x4,x5] r.2.2)/\(r.2.1≠0->e=.returned (.tuple #[.agg #[.int .i64 0,.int .i64 0,.int .u64 0,.string ⟨#[]⟩,.slice none 0 0,.slice none 0 0],.int .i64 r.1,.int .i64 r.2.1]))
def Loop (w wr:World)(tj:V)(k n:Int)(b:Nat)(s:ByteArray)(pL:Option Addr)(nL cL:Nat)(pE:Option Addr)(nE cE:Nat):Prop :=
 Blk wr w.heap.size #[.int .i64 k,.int .i64 n,.int .u64 (b:Int),.string s,.slice pL nL cL,.slice pE nE cE] 26/\Blk wr (w.heap.size+1) qv 26/\Below w.heap.size w wr/\w.heap.size+2<=wr.heap.size/\jh jr tj=0/\∃f,LiesV (At (fun q=>q<w.heap.size) (w.heap.size+2) wr) f wr [.int .i64 k,.int .i64 n,.int .u64 (b:Int),.string s,.slice pL nL cL,.slice pE nE cE] tj
theorem Qy (f:Nat)(w:World)(t:V)(k n:Int)(b:Nat)(s:ByteArray)(pL:Option Addr)(nL cL:Nat)(pE:Option Addr)(nE cE:Nat)(hl:LiesV (fun q=>q<w.heap.size) f w [.int .i64 k,.int .i64 n,.int .u64 (b:Int),.string s,.slice pL nL cL,.slice pE nE cE] t)(hn:jd f t<=10000000)(hgood:∀y:V,∀g,IsV g y->jh jr y=0->jd g y<=2000)(qo:Option Addr)(co:Nat)(l:List OpD)(hO:LiesO w qo l)(hcl:l.length<=9223372036854775807) :
  Calls Tryd.prog 26 #[.agg #[.int .i64 k,.int .i64 n,.int .u64 (b:Int),.string s,.slice pL nL cL,.slice pE nE cE],.slice qo l.length co] w (jbA w (qQ l t)):=by
 obtain⟨W0,hW0⟩:∃W0,W0=(w.alloc (.cells #[.int .i64 k,.int .i64 n,.int .u64 (b:Int),.string s,.slice pL nL cL,.slice pE nE cE] 26)).alloc (.cells qv 26):=⟨_,rfl⟩
 have b0:Below w.heap.size w W0:=by rw [hW0];exact((Below.refl _ w).alloc (Nat.le_refl _) _).alloc (by simp) _
 have s0:W0.heap.size=w.heap.size+2:=by rw [hW0];simp
 have hA0:Blk W0 w.heap.size #[.int .i64 k,.int .i64 n,.int .u64 (b:Int),.string s,.slice pL nL cL,.slice pE nE cE] 26:=by rw [hW0];exact(jb w _ _).alloc _
 have hR0:Blk W0 (w.heap.size+1) qv 26:=by
  rw [hW0];have:=jb (w.alloc (.cells #[.int .i64 k,.int .i64 n,.int .u64 (b:Int),.string s,.slice pL nL cL,.slice pE nE cE] 26)) qv 26;rwa [World.size_alloc] at this
 have KV:=ja (zE f W0 t _ _ _ _ _ _ ((Qi (ok:=fun q=>q<w.heap.size) (N:=w.heap.size) hl (fun q h=>h) b0).weaken (fun q h=>h.2)) hn);obtain⟨fv,hfv⟩:∃fv,fv=jh jr t:=⟨_,rfl⟩
 have hall:qQ l t=if fv≠0 then (0,fv,t) else JF 0 l t:=by unfold qQ;rw [<-hfv]
 rw [<-hfv] at KV;have HB0:=ja (And.intro b0 (And.intro hA0 (And.intro hR0 s0)));have HA:=ja (And.intro hl (And.intro hgood (And.intro hO hfv)));have HALL:=ja hall;have a0:=hA0.cell 0 _ rfl;have a1:=hA0.cell 1 _ rfl;have a2:=hA0.cell 2 _ rfl;have a3:=hA0.cell 3 _ rfl;have a4:=hA0.cell 4 _ rfl;have a5:=hA0.cell 5 _ rfl;simp only [List.getElem_toArray,List.getElem_cons_zero,List.getElem_cons_succ] at a0 a1 a2 a3 a4 a5;unfold qv at hW0;have HW0:=ja hW0;clear hl hgood hO hall hfv b0 hA0 hR0 s0 hW0 hn
 go_enter Tryd.func26,Tryd.ntmps26
 go_upto_region 1 with fail
 rw [<-HW0.out];clear HW0
 go_upto_region 2 with (go_at_call 40;refine(jc KV).mono ?_;rintro e w1 ⟨rfl,b1⟩;have B1:=ja b1;clear b1)
 clear KV a0 a1 a2 a3 a4 a5;have hBw:Below w.heap.size w w1:=HB0.out.1.trans (B1.out.mono HB0.out.1.size);have hR:Blk w1 (w.heap.size+1) qv 26:=HB0.out.2.2.1.below B1.out;have hA1:Blk w1 w.heap.size #[.int .i64 k,.int .i64 n,.int .u64 (b:Int),.string s,.slice pL nL cL,.slice pE nE cE] 26:=HB0.out.2.1.below B1.out;have hsz:w.heap.size+2<=w1.heap.size:=by have:=HB0.out.2.2.2;have:=B1.out.size;omega
 by_cases hf0:fv=0
 ·have hall:=HALL.out
  rw [if_neg (by simpa using hf0)] at hall;have HALL:=ja hall;have hg0:jh jr t=0:=by rw [<-HA.out.2.2.2];exact hf0
  subst hf0;have hstart:Loop w w1 t k n b s pL nL cL pE nE cE:=⟨hA1,hR,hBw,hsz,hg0,f,Qi (N:=w.heap.size+2) HA.out.1 (fun q h=>h) hBw⟩
  have HS:=ja hstart;clear hall hstart hA1 hR hBw hg0
  go_upto_region 5 with fail
  go_loopw [20] (fun i wr=>∃(j:Nat) (tj:V) (k1 n1:Int) (b1:Nat) (s1:ByteArray) (pL1:Option Addr) (nL1 cL1:Nat) (pE1:Option Addr) (nE1 cE1:Nat),i=.int .i64 j/\j<=l.length/\Hid (Loop w wr tj k1 n1 b1 s1 pL1 nL1 cL1 pE1 nE1 cE1)/\Hid (JF j (l.drop j) tj=JF 0 l t)) (fun i _=>l.length - (intOf i).toNat)
  case atStart=>exact⟨0,t,k,n,b,s,pL,nL,cL,pE,nE,cE,rfl,Nat.zero_le _,HS,ja rfl⟩
  case round=>
   obtain⟨j,tj,k1,n1,b1,s1,pL1,nL1,cL1,pE1,nE1,cE1,rfl,hj,HL,HRM⟩:=hrel;obtain⟨hAj,hRj,hBj,hszj,hgj,fj,hlj⟩:=HL.out
   by_cases hlt:j<l.length
   ·obtain⟨Bq,oq,rfl,hBq,hOq⟩:=HA.out.2.2.1 (by omega)
    obtain⟨us,hul,huc,hux⟩:=hOq j l[j] (List.getElem?_eq_getElem hlt);obtain⟨pp,cc,g,vk,vn,vb,vs,vpL,vnL,vcL,vpE,vnE,vcE,key,rfl,hki,hP,hPc,hcm,hy,hny,hkm,hkey⟩:=hux;have c0:=(hBj.cell (p:=⟨Bq,oq+j*9+0,none⟩) hBq).trans (huc 0 (by omega));have c1:=(hBj.cell (p:=⟨Bq,oq+j*9+1,none⟩) hBq).trans (huc 1 (by omega));have c2:=(hBj.cell (p:=⟨Bq,oq+j*9+2,none⟩) hBq).trans (huc 2 (by omega));have c3:=(hBj.cell (p:=⟨Bq,oq+j*9+3,none⟩) hBq).trans (huc 3 (by omega));have c4:=(hBj.cell (p:=⟨Bq,oq+j*9+4,none⟩) hBq).trans (huc 4 (by omega));have c5:=(hBj.cell (p:=⟨Bq,oq+j*9+5,none⟩) hBq).trans (huc 5 (by omega));have c6:=(hBj.cell (p:=⟨Bq,oq+j*9+6,none⟩) hBq).trans (huc 6 (by omega));have c7:=(hBj.cell (p:=⟨Bq,oq+j*9+7,none⟩) hBq).trans (huc 7 (by omega));have c8:=(hBj.cell (p:=⟨Bq,oq+j*9+8,none⟩) hBq).trans (huc 8 (by omega))
    simp only [Nat.add_zero,List.getElem?_cons_zero,List.getElem?_cons_succ] at c0 c1 c2 c3 c4 c5 c6 c7 c8;obtain⟨WB,hWB⟩:∃WB,WB=wr.alloc (.cells #[.int .i64 l[j].1,.slice pp l[j].2.1.length cc,.int .i64 vk,.int .i64 vn,.int .u64 (vb:Int),.string vs,.slice vpL vnL vcL,.slice vpE vnE vcE,.string key] 45):=⟨_,rfl⟩
    have bB:Below wr.heap.size wr WB:=by rw [hWB];exact(Below.refl _ _).alloc (Nat.le_refl _) _
    have hOB:Blk WB wr.heap.size #[.int .i64 l[j].1,.slice pp l[j].2.1.length cc,.int .i64 vk,.int .i64 vn,.int .u64 (vb:Int),.string vs,.slice vpL vnL vcL,.slice vpE vnE vcE,.string key] 45:=by rw [hWB];exact jb _ _ _
    have bWB:Below w.heap.size w WB:=hBj.trans (bB.mono hBj.size);have hsB:=bB.size;obtain⟨r,hr⟩:∃r,r=qR l[j].1 l[j].2.1 l[j].2.2.1 l[j].2.2.2 tj:=⟨_,rfl⟩
    have KU:=J8 (At (fun q=>q<w.heap.size) (w.heap.size+2) wr) fj WB tj k1 n1 b1 s1 pL1 nL1 cL1 pE1 nE1 cE1 (fun q h=>Nat.lt_of_lt_of_le h.2 hsB) (hlj.kept (fun q h=>h) hsB (fun q h hq=>bB.block q hq)) hgj (HA.out.2.1 _ _ hlj.isV hgj) HA.out.2.1 l[j].1 hki pp cc l[j].2.1 (hP.keep bWB) hPc hcm g l[j].2.2.1 vk vn vb vs vpL vnL vcL vpE vnE vcE (hy.kept (fun q h=>⟨.inl h,Nat.lt_of_lt_of_le h hBj.size⟩) bWB.size (fun q h hq=>bWB.block q hq)) hny key hkm;rw [hkey,<-hr] at KU;have HKU:=ja KU;have hrm:=HRM.out;rw [List.drop_eq_getElem_cons hlt] at hrm;have hrm2:(if r.1≠0 then ((j:Int),r.1,tj) else JF (j+1) (l.drop (j+1)) r.2)=JF 0 l t:=by rw [hr];exact hrm
    have hgr:r.1=0->jh jr r.2=0:=by rw [hr];exact XL
    have HRR:=ja (And.intro hrm2 hgr);have HJ:=ja (And.intro hAj (And.intro hRj (And.intro hBj (And.intro hszj (And.intro bB (And.intro hOB bWB))))));have hWB2:=ja hWB;clear hrm hrm2 hgr hr HRM HL hlj hgj hOq huc hul hki hP hPc hcm hy hny hkm hkey KU hWB
    go_upto_region 7 with fail
    rw [<-hWB2.out];clear hWB2 c0 c1 c2 c3 c4 c5 c6 c7 c8;obtain⟨a0,a1,a2,a3,a4,a5⟩:=(HJ.out.1.below HJ.out.2.2.2.2.1).cells6;have o0:=HJ.out.2.2.2.2.2.1.cell 0 _ rfl;have o1:=HJ.out.2.2.2.2.2.1.cell 1 _ rfl;have o2:=HJ.out.2.2.2.2.2.1.cell 2 _ rfl;have o3:=HJ.out.2.2.2.2.2.1.cell 3 _ rfl;have o4:=HJ.out.2.2.2.2.2.1.cell 4 _ rfl;have o5:=HJ.out.2.2.2.2.2.1.cell 5 _ rfl;have o6:=HJ.out.2.2.2.2.2.1.cell 6 _ rfl;have o7:=HJ.out.2.2.2.2.2.1.cell 7 _ rfl;have o8:=HJ.out.2.2.2.2.2.1.cell 8 _ rfl;simp only [List.getElem_toArray,List.getElem_cons_zero,List.getElem_cons_succ] at o0 o1 o2 o3 o4 o5 o6 o7 o8
    go_upto_region 8 with (go_at_call 21;refine HKU.out.mono ?_;rintro e w5 ⟨b5,k9,n9,b9,s9,pL9,nL9,cL9,pE9,nE9,cE9,rfl,hl9⟩;have B5:=ja b5;have HL9:=ja hl9.1;clear b5 hl9)
    obtain⟨W6,hW6⟩:∃W6,W6=w5.alloc (.cells #[.int .i64 k9,.int .i64 n9,.int .u64 (b9:Int),.string s9,.slice pL9 nL9 cL9,.slice pE9 nE9 cE9] 26):=⟨_,rfl⟩
    rw [<-hW6];have b6:Below w5.heap.size w5 W6:=by rw [hW6];exact(Below.refl _ _).alloc (Nat.le_refl _) _
    have hD:Blk W6 w5.heap.size #[.int .i64 k9,.int .i64 n9,.int .u64 (b9:Int),.string s9,.slice pL9 nL9 cL9,.slice pE9 nE9 cE9] 26:=by rw [hW6];exact jb _ _ _
    have bBB:=HJ.out.2.2.2.2.1;have bw6:Below wr.heap.size wr W6:=bBB.trans ((B5.out.trans (b6.mono B5.out.size)).mono bBB.size);have hA6:=HJ.out.1.below bw6;have hR6:=HJ.out.2.1.below bw6;have hBw:Below w.heap.size w W6:=HJ.out.2.2.1.trans (bw6.mono HJ.out.2.2.1.size);have hs6:=bw6.size;clear HKU a0 a1 a2 a3 a4 a5 o0 o1 o2 o3 o4 o5 o6 o7 o8 hW6
    by_cases hr0:r.1=0
    ·have hrr:=HRR.out.1
     rw [if_neg (by simpa using hr0)] at hrr;obtain⟨f9,hl9⟩:=HL9.out hr0;have hl6:LiesV (At (fun q=>q<w.heap.size) (w.heap.size+2) W6) f9 W6 [.int .i64 k9,.int .i64 n9,.int .u64 (b9:Int),.string s9,.slice pL9 nL9 cL9,.slice pE9 nE9 cE9] r.2:=hl9.kept (fun q h=>⟨by rcases h.1 with h | h;exact h.1;exact .inr (by omega),Nat.lt_of_lt_of_le h.2 b6.size⟩) b6.size (fun q _ hq=>b6.block q hq);have hnew:Loop w (jp W6 w.heap.size (.int .i64 k9) (.int .i64 n9) (.int .u64 (b9:Int)) (.string s9) (.slice pL9 nL9 cL9) (.slice pE9 nE9 cE9)) r.2 k9 n9 b9 s9 pL9 nL9 cL9 pE9 nE9 cE9:=⟨jk hA6 _ _ _ _ _ _,QT hR6 (by omega) _ _ _ _ _ _,jg hBw (Nat.le_refl _) _ _ _ _ _ _,by rw [qq];omega,HRR.out.2 hr0,f9,JY (ok:=fun q=>q<w.heap.size) hl6 (by omega) (by omega) _ _ _ _ _ _⟩
     have HN:=ja hnew;have HR2:=ja hrr;obtain⟨d0,d1,d2,d3,d4,d5⟩:=hD.cells6;obtain⟨a0,a1,a2,a3,a4,a5⟩:=hA6.cells6;have g0:=hA6.froz 0;have g1:=hA6.froz 1;have g2:=hA6.froz 2;have g3:=hA6.froz 3;have g4:=hA6.froz 4;have g5:=hA6.froz 5;rw [hr0];clear hnew hrr hl6 hl9 HL9 hD hA6 hR6 hBw HRR hr0
     go_wp2_with fail
     go_roundw
     case rel=>exact⟨j+1,r.2,k9,n9,b9,s9,pL9,nL9,cL9,pE9,nE9,cE9,by go_num,by omega,HN,HR2⟩
     case measure=>simp only [intOf];omega
    ·have hrr:=HRR.out.1
     rw [if_pos hr0] at hrr;have hrb:(r.1 != 0)=true:=bne_iff_ne.2 hr0;have HR2:=ja hrr;have HR0:=ja hr0;have hR:=hR6;clear hrr HL9 hD hA6 hR6 HRR hr0;have HY:=ja (jk hR (.int .i64 0) (.int .i64 0) (.int .u64 0) (.string ⟨#[]⟩) (.slice none 0 0) (.slice none 0 0));have HB:=ja (jg hBw (b:=w.heap.size+1) (by omega) (.int .i64 0) (.int .i64 0) (.int .u64 0) (.string ⟨#[]⟩) (.slice none 0 0) (.slice none 0 0));have r0:=hR.cell 0 _ rfl;have r1:=hR.cell 1 _ rfl;have r2:=hR.cell 2 _ rfl;have r3:=hR.cell 3 _ rfl;have r4:=hR.cell 4 _ rfl;have r5:=hR.cell 5 _ rfl;have f0:=hR.froz 0;have f1:=hR.froz 1;have f2:=hR.froz 2;have f3:=hR.froz 3;have f4:=hR.froz 4;have f5:=hR.froz 5;simp only [qv,List.getElem_toArray,List.getElem_cons_zero,List.getElem_cons_succ] at r0 r1 r2 r3 r4 r5
     go_wp2_with fail
     obtain⟨Y,hYe⟩:∃Y,Y=jp W6 (w.heap.size+1) (.int .i64 0) (.int .i64 0) (.int .u64 0) (.string ⟨#[]⟩) (.slice none 0 0) (.slice none 0 0):=⟨_,rfl⟩
     rw [<-hYe] at HY HB;simp only [jp] at hYe;rw [<-hYe];clear hYe;refine bodyPost_ret (qm _ HY.out) rfl ?_
     rw [HALL.out,<-HR2.out];exact⟨HB.out,fun h=>absurd h HR0.out,fun _=>rfl⟩
   ·have hjl:j=l.length:=by omega
    have hrm:=HRM.out;rw [hjl,List.drop_length] at hrm;have hrm':(0,0,tj)=JF 0 l t:=hrm;have HR2:=ja hrm';obtain⟨a0,a1,a2,a3,a4,a5⟩:=hAj.cells6;have hR:=hRj;have hBw:=hBj;have hlw:=Jo hlj (Nat.le_refl _) (Below.refl _ _);have hge:¬(j:Int)<(l.length:Int):=by omega
    clear hrm hrm' HRM HL hAj hRj hBj;have HY:=ja (jk hR (.int .i64 k1) (.int .i64 n1) (.int .u64 (b1:Int)) (.string s1) (.slice pL1 nL1 cL1) (.slice pE1 nE1 cE1));have HB:=ja (jg hBw (b:=w.heap.size+1) (by omega) (.int .i64 k1) (.int .i64 n1) (.int .u64 (b1:Int)) (.string s1) (.slice pL1 nL1 cL1) (.slice pE1 nE1 cE1));have HV:=ja (JY (ok:=fun q=>q<w.heap.size) (B:=w.heap.size+1) hlw (fun h=>by omega) (by omega) (.int .i64 k1) (.int .i64 n1) (.int .u64 (b1:Int)) (.string s1) (.slice pL1 nL1 cL1) (.slice pE1 nE1 cE1));have r0:=hR.cell 0 _ rfl;have r1:=hR.cell 1 _ rfl;have r2:=hR.cell 2 _ rfl;have r3:=hR.cell 3 _ rfl;have r4:=hR.cell 4 _ rfl;have r5:=hR.cell 5 _ rfl;have f0:=hR.froz 0;have f1:=hR.froz 1;have f2:=hR.froz 2;have f3:=hR.froz 3;have f4:=hR.froz 4;have f5:=hR.froz 5
    simp only [qv,List.getElem_toArray,List.getElem_cons_zero,List.getElem_cons_succ] at r0 r1 r2 r3 r4 r5
    go_wp2_with fail
    obtain⟨Y,hYe⟩:∃Y,Y=jp wr (w.heap.size+1) (.int .i64 k1) (.int .i64 n1) (.int .u64 (b1:Int)) (.string s1) (.slice pL1 nL1 cL1) (.slice pE1 nE1 cE1):=⟨_,rfl⟩
    rw [<-hYe] at HY HB HV;simp only [jp] at hYe;rw [<-hYe];clear hYe;refine bodyPost_ret (qm _ HY.out) rfl ?_
    rw [HALL.out,<-HR2.out];exact⟨HB.out,fun _=>⟨fj,_,_,_,_,_,_,rfl,HV.out.weaken (fun q h=>h.2)⟩,fun h=>absurd rfl h⟩
 ·have hall:=HALL.out
  rw [if_pos hf0] at hall;have HALL:=ja hall;have hfb:(fv != 0)=true:=bne_iff_ne.2 hf0;have HF0:=ja hf0;clear hall hf0 hA1;have HY:=ja (jk hR (.int .i64 0) (.int .i64 0) (.int .u64 0) (.string ⟨#[]⟩) (.slice none 0 0) (.slice none 0 0));have HB:=ja (jg hBw (b:=w.heap.size+1) (by omega) (.int .i64 0) (.int .i64 0) (.int .u64 0) (.string ⟨#[]⟩) (.slice none 0 0) (.slice none 0 0));have r0:=hR.cell 0 _ rfl;have r1:=hR.cell 1 _ rfl;have r2:=hR.cell 2 _ rfl;have r3:=hR.cell 3 _ rfl;have r4:=hR.cell 4 _ rfl;have r5:=hR.cell 5 _ rfl;have f0:=hR.froz 0;have f1:=hR.froz 1;have f2:=hR.froz 2;have f3:=hR.froz 3;have f4:=hR.froz 4;have f5:=hR.froz 5;simp only [qv,List.getElem_toArray,List.getElem_cons_zero,List.getElem_cons_succ] at r0 r1 r2 r3 r4 r5
  go_wp2_with fail
  obtain⟨Y,hYe⟩:∃Y,Y=jp w1 (w.heap.size+1) (.int .i64 0) (.int .i64 0) (.int .u64 0) (.string ⟨#[]⟩) (.slice none 0 0) (.slice none 0 0):=⟨_,rfl⟩
  rw [<-hYe] at HY HB;simp only [jp] at hYe;rw [<-hYe];clear hYe;refine bodyPost_ret (qm _ HY.out) rfl ?_
  rw [HALL.out];exact⟨HB.out,fun h=>absurd h HF0.out,fun _=>rfl⟩
end upds
end Go.Proofs.YtadaehaemmelfaaDoor
