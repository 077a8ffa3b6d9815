/- Of our texts, what this claim reaches. -/
import Derived.Test.YtadaehaemmelfaaDoorPubBN
import Derived.Deep.DrawnRows
set_option linter.unusedVariables false
set_option maxHeartbeats 16000000
set_option maxRecDepth 100000
set_option linter.unusedSimpArgs false
namespace Go.Proofs.YtadaehaemmelfaaDoor
namespace upds
open Go.RowKit Go.Shelf
open valus
open paths (St LiesP jf je jq)
attribute [local go_sem ↓] Go.wp_at_zero Go.wp_at_succ
theorem upd_add (y:V)(key:ByteArray)(hkm:key.size<=maxLen)(x:St):UpdCI 2 y key [x] (fun t cL=>¬Ins x t):=by
 intro ok f w t k n b s pL nL cL pE nE cE p c po no co g vk vn vb vs vpL vnL vcL vpE vnE vcE hok hl hn hP hc hm hi hy hpr;obtain⟨B,o,xk,rfl,hB,e1,e2,e3,e4,e5⟩:=hP.at (j:=0) (by simp);simp only [List.getElem_cons_zero,Nat.zero_mul,Nat.add_zero] at e1 e3 e4 e5;obtain⟨W0,hW0⟩:∃W0,W0=Zk w #[.int .i64 k,.int .i64 n,.int .u64 (b:Int),.string s,.slice pL nL cL,.slice pE nE cE] #[.int .i64 2,.slice po no co,.int .i64 vk,.int .i64 vn,.int .u64 (vb:Int),.string vs,.slice vpL vnL vcL,.slice vpE vnE vcE,.string key] qv:=⟨_,rfl⟩
 obtain⟨W1,hW1⟩:∃W1,W1=W0.alloc (.cells #[.string xk,.int .i64 x.2] 60):=⟨_,rfl⟩
 have h4:Four w W1 #[.int .i64 k,.int .i64 n,.int .u64 (b:Int),.string s,.slice pL nL cL,.slice pE nE cE] #[.int .i64 2,.slice po no co,.int .i64 vk,.int .i64 vn,.int .u64 (vb:Int),.string vs,.slice vpL vnL vcL,.slice vpE vnE vcE,.string key] xk x.2:=by rw [hW1,hW0];exact four_base w _ _ xk x.2
 have h3:=QQ w #[.int .i64 k,.int .i64 n,.int .u64 (b:Int),.string s,.slice pL nL cL,.slice pE nE cE] #[.int .i64 2,.slice po no co,.int .i64 vk,.int .i64 vn,.int .u64 (vb:Int),.string vs,.slice vpL vnL vcL,.slice vpE vnE vcE,.string key] qv;rw [<-hW0] at h3
 have KP:Hid (∀u,Below W1.heap.size W1 u->Calls Tryd.prog 35 #[.agg #[.int .i64 k,.int .i64 n,.int .u64 (b:Int),.string s,.slice pL nL cL,.slice pE nE cE],.agg #[.string xk,.int .i64 x.2]] u (paths.PartTK ok (jd f t) (jf t x) u)):=ja fun u hu=>by
  refine Calls.mono ?_ (fun e w' h=>paths.part_tupleK h)
  have hbu:=h4.h.b.trans (hu.mono h4.h.b.size);have:=paths.partK_any ok (jd f t) u (fun q h=>Nat.lt_of_lt_of_le (hok q h) hbu.size) f t _ _ _ _ _ _ (hl.kept (fun q h=>h) hbu.size (fun q h _=>hbu.block q (hok q h))) (Nat.le_refl _) xk x.2 (hi x List.mem_cons_self);rw [e1] at this;exact this
 have p0:=(h3.b.cell (p:=⟨B,o,none⟩) hB).trans e4;have p1:=(h3.b.cell (p:=⟨B,o+1,none⟩) hB).trans e5;obtain⟨a0,a1,a2,a3,a4,a5⟩:=h4.h.a.cells6;have o0:=h3.o.cell 0 _ rfl;have o10:=h4.h.o.cell 0 _ rfl;have c0:=h4.c.cell 0 _ rfl;have c1:=h4.c.cell 1 _ rfl;have HPR:=ja hpr;clear hpr;have HE1:=ja e1;have H4:=ja h4;have HL:=ja (And.intro hl (And.intro hy (And.intro hok (And.intro hP (And.intro hn hi)))));unfold Zk qv at hW0;rw [hW1,hW0] at o10;rw [hW0] at o0 p0 p1;rw [hW0] at hW1;have HW1:=ja hW1;clear h3 h4 hW0 hW1 hl hy hP hn hi e1 e4 e5 a0 a1 a2 a3 a4 a5 c0 c1
 show Calls Tryd.prog 42 #[.agg #[.int .i64 k,.int .i64 n,.int .u64 (b:Int),.string s,.slice pL nL cL,.slice pE nE cE],.slice (some ⟨B,o,none⟩) 1 c,.agg #[.int .i64 2,.slice po no co,.int .i64 vk,.int .i64 vn,.int .u64 (vb:Int),.string vs,.slice vpL vnL vcL,.slice vpE vnE vcE,.string key]] w (jbz ok (Xs 2 y key.data.toList t [x]) w)
 go_enter Tryd.func42,Tryd.ntmps42
 go_upto_region 17 with fail
 rw [<-HW1.out];clear o0 o10 p0 p1 HW1;have a0:=H4.out.h.a.cell 0 _ rfl;have a1:=H4.out.h.a.cell 1 _ rfl;have a2:=H4.out.h.a.cell 2 _ rfl;have a3:=H4.out.h.a.cell 3 _ rfl;have a4:=H4.out.h.a.cell 4 _ rfl;have a5:=H4.out.h.a.cell 5 _ rfl;have c0:=H4.out.c.cell 0 _ rfl;have c1:=H4.out.c.cell 1 _ rfl;simp only [List.getElem_toArray,List.getElem_cons_zero,List.getElem_cons_succ] at a0 a1 a2 a3 a4 a5 c0 c1
 go_upto_region 18 with (go_at_call 35
                         refine(KP.out _ (Below.refl _ _)).mono ?_
                         rintro e w2 ⟨k8,n8,b8,s8,pL8,nL8,cL8,pE8,nE8,cE8,er,rfl,hres,b2⟩
                         have HR:=ja hres.out;have B2:=ja b2;clear hres b2)
 clear KP a0 a1 a2 a3 a4 a5 c0 c1;obtain⟨W3,hW3⟩:∃W3,W3=w2.alloc (.cells #[.int .i64 k8,.int .i64 n8,.int .u64 (b8:Int),.string s8,.slice pL8 nL8 cL8,.slice pE8 nE8 cE8] 26):=⟨_,rfl⟩
 have b3:Below W1.heap.size W1 W3:=by rw [hW3];exact B2.out.alloc B2.out.size _
 have k3:=H4.out.below b3;have dD:Blk W3 w2.heap.size #[.int .i64 k8,.int .i64 n8,.int .u64 (b8:Int),.string s8,.slice pL8 nL8 cL8,.slice pE8 nE8 cE8] 26:=by rw [hW3];exact jb _ _ _
 have hD:w.heap.size+4<=w2.heap.size:=Nat.le_trans H4.out.s B2.out.size;rw [<-hW3];have b03:Below w.heap.size w W3:=k3.h.b;have b23:Below w2.heap.size w2 W3:=by rw [hW3];exact(Below.refl _ _).alloc (Nat.le_refl _) _
 have hWlt:w2.heap.size<W3.heap.size:=by rw [hW3,World.size_alloc];omega
 have hU:=upd_last (kind:=2) (y:=y) (t:=t) (key:=key.data.toList) (x:=x) (by decide);have hl0:=Qi (N:=w2.heap.size+1) HL.out.1 hok b03;have hy0:=Qi (N:=w2.heap.size+1) HL.out.2.1 hok b03;have T6:=k3.h;have hl6:=Jo (M:=w.heap.size+3) hl0 (by omega) (Below.refl _ _);have c0:=k3.c.cell 0 _ rfl;have c1:=k3.c.cell 1 _ rfl;have o0:=k3.h.o.cell 0 _ rfl;have o1:=k3.h.o.cell 1 _ rfl;have o2:=k3.h.o.cell 2 _ rfl;have o3:=k3.h.o.cell 3 _ rfl;have o4:=k3.h.o.cell 4 _ rfl;have o5:=k3.h.o.cell 5 _ rfl;have o6:=k3.h.o.cell 6 _ rfl;have o7:=k3.h.o.cell 7 _ rfl;have o8:=k3.h.o.cell 8 _ rfl;have A0:=k3.h.a.cell 0 _ rfl;have A1:=k3.h.a.cell 1 _ rfl;have A2:=k3.h.a.cell 2 _ rfl;have A3:=k3.h.a.cell 3 _ rfl;have A4:=k3.h.a.cell 4 _ rfl;have A5:=k3.h.a.cell 5 _ rfl;have d0:=dD.cell 0 _ rfl;have d1:=dD.cell 1 _ rfl;have d2:=dD.cell 2 _ rfl;have d3:=dD.cell 3 _ rfl;have d4:=dD.cell 4 _ rfl
 have d5:=dD.cell 5 _ rfl;simp only [List.getElem_toArray,List.getElem_cons_zero,List.getElem_cons_succ] at c0 c1 o0 o1 o2 o3 o4 o5 o6 o7 o8 A0 A1 A2 A3 A4 A5 d0 d1 d2 d3 d4 d5;have hx1:=HL.out.2.2.2.2.2 x List.mem_cons_self;have HB3:=ja b3;clear hW3 H4 B2 b3;have hU2:Xs 2 y key.data.toList t [x]=ZA x y t:=by rw [hU];rfl
 have HZ:(er=0/\∃u,jf t x=.inl u)\/(er≠0/\jf t x=.inr er):=by
  rcases HR.out with ⟨u,fu,hz,h0,_⟩ | ⟨hz,hne⟩
  ·exact .inl ⟨h0,u,hz⟩
  ·exact .inr ⟨hne,hz⟩
 by_cases h10:er=10
 ·have hU3:Xs 2 y key.data.toList t [x]=(10,t):=by
   rw [hU2]
   rcases HZ with ⟨h,_⟩ | ⟨_,h⟩
   ·omega
   ·rw [h10] at h
    exact add_ten h
  subst h10;have HU2:=ja hU3;clear hU3 hU2 HZ hU hl0 hy0 HR k3 dD b03 b23 A0 A1 A2 A3 A4 A5;have HY:=ja (jk T6.r (.int .i64 k) (.int .i64 n) (.int .u64 (b:Int)) (.string s) (.slice pL nL cL) (.slice pE nE cE));have HB:=ja (jg T6.b (b:=w.heap.size+2) (by omega) (.int .i64 k) (.int .i64 n) (.int .u64 (b:Int)) (.string s) (.slice pL nL cL) (.slice pE nE cE));have HV:=ja (JY (B:=w.heap.size+2) hl6 (fun h=>by have:=hok _ h;omega) (by omega) (.int .i64 k) (.int .i64 n) (.int .u64 (b:Int)) (.string s) (.slice pL nL cL) (.slice pE nE cE));have a0:=T6.a.cell 0 _ rfl;have a1:=T6.a.cell 1 _ rfl;have a2:=T6.a.cell 2 _ rfl;have a3:=T6.a.cell 3 _ rfl;have a4:=T6.a.cell 4 _ rfl;have a5:=T6.a.cell 5 _ rfl;have r0:=T6.r.cell 0 _ rfl;have r1:=T6.r.cell 1 _ rfl;have r2:=T6.r.cell 2 _ rfl;have r3:=T6.r.cell 3 _ rfl;have r4:=T6.r.cell 4 _ rfl;have r5:=T6.r.cell 5 _ rfl
  have f0:=T6.r.froz 0;have f1:=T6.r.froz 1;have f2:=T6.r.froz 2;have f3:=T6.r.froz 3;have f4:=T6.r.froz 4;have f5:=T6.r.froz 5;simp only [List.getElem_toArray,List.getElem_cons_zero,List.getElem_cons_succ] at a0 a1 a2 a3 a4 a5 r0 r1 r2 r3 r4 r5
  go_wp2_with fail
  obtain⟨Y,hYe⟩:∃Y,Y=jp W3 (w.heap.size+2) (.int .i64 k) (.int .i64 n) (.int .u64 (b:Int)) (.string s) (.slice pL nL cL) (.slice pE nE cE):=⟨_,rfl⟩
  rw [<-hYe] at HY HB HV;simp only [jp] at hYe;rw [<-hYe];clear hYe;refine bodyPost_ret (results_updated _ HY.out) rfl ?_
  rw [HU2.out];exact jbz.mk (r:=(10,t)) HB.out (Jo HV.out (by omega) (Below.refl _ _))
 ·have hnt:jf t x≠.inr 10:=by
   rcases HZ with ⟨_,u,h⟩ | ⟨_,h⟩
   ·rw [h];intro e;cases e
   ·rw [h];intro e;injection e with e;exact h10 e
  have h10b:(er == 10)=false:=beq_false_of_ne h10
  by_cases hx:x.2 = -1
  ·rw [hx] at c1
   rcases HZ with ⟨h0,u,hz⟩ | ⟨hne,hz⟩
   ·have hU3:Xs 2 y key.data.toList t [x]=(9,t):=by rw [hU2];exact add_there hx hz
    subst h0;have HU2:=ja hU3;clear hU3 hU2 hz hnt h10 h10b hU hl0 hy0 HR k3 dD b03 b23 A0 A1 A2 A3 A4 A5;have HY:=ja (jk T6.r (.int .i64 k) (.int .i64 n) (.int .u64 (b:Int)) (.string s) (.slice pL nL cL) (.slice pE nE cE));have HB:=ja (jg T6.b (b:=w.heap.size+2) (by omega) (.int .i64 k) (.int .i64 n) (.int .u64 (b:Int)) (.string s) (.slice pL nL cL) (.slice pE nE cE));have HV:=ja (JY (B:=w.heap.size+2) hl6 (fun h=>by have:=hok _ h;omega) (by omega) (.int .i64 k) (.int .i64 n) (.int .u64 (b:Int)) (.string s) (.slice pL nL cL) (.slice pE nE cE));have a0:=T6.a.cell 0 _ rfl;have a1:=T6.a.cell 1 _ rfl;have a2:=T6.a.cell 2 _ rfl;have a3:=T6.a.cell 3 _ rfl;have a4:=T6.a.cell 4 _ rfl;have a5:=T6.a.cell 5 _ rfl;have r0:=T6.r.cell 0 _ rfl;have r1:=T6.r.cell 1 _ rfl;have r2:=T6.r.cell 2 _ rfl;have r3:=T6.r.cell 3 _ rfl;have r4:=T6.r.cell 4 _ rfl
    have r5:=T6.r.cell 5 _ rfl;have f0:=T6.r.froz 0;have f1:=T6.r.froz 1;have f2:=T6.r.froz 2;have f3:=T6.r.froz 3;have f4:=T6.r.froz 4;have f5:=T6.r.froz 5;simp only [List.getElem_toArray,List.getElem_cons_zero,List.getElem_cons_succ] at a0 a1 a2 a3 a4 a5 r0 r1 r2 r3 r4 r5
    go_wp2_with fail
    obtain⟨Y,hYe⟩:∃Y,Y=jp W3 (w.heap.size+2) (.int .i64 k) (.int .i64 n) (.int .u64 (b:Int)) (.string s) (.slice pL nL cL) (.slice pE nE cE):=⟨_,rfl⟩
    rw [<-hYe] at HY HB HV;simp only [jp] at hYe;rw [<-hYe];clear hYe;refine bodyPost_ret (results_updated _ HY.out) rfl ?_
    rw [HU2.out];exact jbz.mk (r:=(9,t)) HB.out (Jo HV.out (by omega) (Below.refl _ _))
   ·have hl2:=LiesV.to (Nat.le_max_left f g) hl0
    have hy2:=LiesV.to (Nat.le_max_right f g) hy0;have hU3:Xs 2 y key.data.toList t [x]=(0,mkV (opn t).1 (opn t).2.1 (qx xk.data.toList y (jD xk.data.toList (opn t).2.2))):=by rw [hU2,HE1.out];exact add_key hx hz h10
    have HLn:=ja (And.intro HL.out.1.isV HL.out.2.2.2.2.1);have heb:(er == 0)=false:=beq_false_of_ne hne;clear hl0 hy0 hl6 HL HR hz hnt hU hU2 HPR;generalize max f g=F at hl2 hy2;obtain⟨L,E,rfl,rfl,rfl,⟨q1,q2,q3,q4⟩,rL,rE⟩:=Y0 hl2;have hLE:=Few.len ⟨_,HLn.out.1,HLn.out.2⟩;obtain⟨M,hM⟩:∃M,M=qx xk.data.toList y (jD xk.data.toList E):=⟨_,rfl⟩
    rw [jQ] at hU3;have hU3:Xs 2 y key.data.toList (mkV (k,n,b,s.data.toList) L E) [x]=(0,mkV (k,n,b,s.data.toList) L M):=by rw [hM];exact hU3
    have KW:=ja (with_at (At ok (w2.heap.size+1) W3) F W3 E pE cE xk y vk vn vb vs vpL vnL vcL vpE vnE vcE rE q3 q4 (fun q h=>h.2) (by omega) (by unfold maxLen;omega) hy2);rw [<-hM] at KW;have H4d:=ja k3;have HL2:=ja hl2;have HU2:=ja hU3;have zA:=k3.h.a;clear k3 hl2 hy2 rL rE hU3 T6 dD b03 b23 hM
    go_upto_region 26 with (go_at_call 61;refine(jc KW).mono ?_;rintro e w5 ⟨⟨p5,c5,rfl,hi1,hi2,hrow⟩,b5⟩;have zA5:=(zA.below b5).froz 5;have zC5:=(zA.below b5).cell 5 _ rfl;have HRW0:=ja hrow;have B5:=ja b5;clear hrow b5)
    have H4c:=ja (H4d.out.below B5.out);have hsz:=H4d.out.s;have HL5:=ja (Jo HL2.out (M:=w.heap.size+3) (by omega) B5.out);have HRW:Hid (JO (At ok (w.heap.size+3) w5) F w5 p5 M):=ja (HRW0.out.kept (fun q h=>⟨by rcases h.1 with h | h;exact h.1.imp id (fun h=>by omega);exact .inr (by omega),h.2⟩) (Nat.le_refl _) (fun _ _ _=>rfl) (fun j us _ ⟨key,z,xs,g1,g2,g3,g4⟩=>⟨key,z,xs,g1,g2,g3,g4.weaken (fun q h=>⟨by rcases h.1 with h | h;exact h.1.imp id (fun h=>by omega);exact .inr (by omega),h.2⟩)⟩));obtain⟨W6,hW6⟩:∃W6,W6=w5.setCell ⟨w.heap.size,5,none⟩ (.slice p5 M.length c5):=⟨_,rfl⟩
    rw [<-hW6];have T6:Three w W6 #[.int .i64 k,.int .i64 n,.int .u64 (b:Int),.string s,.slice pL L.length cL,.slice p5 M.length c5] #[.int .i64 2,.slice po no co,.int .i64 vk,.int .i64 vn,.int .u64 (vb:Int),.string vs,.slice vpL vnL vcL,.slice vpE vnE vcE,.string key] qv:=by rw [hW6];exact three_set H4c.out.h 5 _
    have hlE:=lies_setE (okA:=At ok (w.heap.size+3) w5) (E':=M) (p':=p5) (c':=c5) HL5.out.up HRW.out hi1 hi2
    have hl6:LiesV (At ok (w.heap.size+3) W6) (max F F+1) W6 [.int .i64 k,.int .i64 n,.int .u64 (b:Int),.string s,.slice pL L.length cL,.slice p5 M.length c5] (mkV (k,n,b,s.data.toList) L M):=by
     rw [hW6];exact lies_past1 (B:=w.heap.size) (j:=5) hlE (fun h=>by have:=hok _ h;omega) (by omega) _
    clear hW6;have HY:=ja (jk T6.r (.int .i64 k) (.int .i64 n) (.int .u64 (b:Int)) (.string s) (.slice pL L.length cL) (.slice p5 M.length c5));have HB:=ja (jg T6.b (b:=w.heap.size+2) (by omega) (.int .i64 k) (.int .i64 n) (.int .u64 (b:Int)) (.string s) (.slice pL L.length cL) (.slice p5 M.length c5));have HV:=ja (JY (B:=w.heap.size+2) hl6 (fun h=>by have:=hok _ h;omega) (by omega) (.int .i64 k) (.int .i64 n) (.int .u64 (b:Int)) (.string s) (.slice pL L.length cL) (.slice p5 M.length c5));have a0:=T6.a.cell 0 _ rfl;have a1:=T6.a.cell 1 _ rfl;have a2:=T6.a.cell 2 _ rfl;have a3:=T6.a.cell 3 _ rfl;have a4:=T6.a.cell 4 _ rfl;have a5:=T6.a.cell 5 _ rfl;have r0:=T6.r.cell 0 _ rfl;have r1:=T6.r.cell 1 _ rfl;have r2:=T6.r.cell 2 _ rfl;have r3:=T6.r.cell 3 _ rfl;have r4:=T6.r.cell 4 _ rfl;have r5:=T6.r.cell 5 _ rfl;have f0:=T6.r.froz 0;have f1:=T6.r.froz 1
    have f2:=T6.r.froz 2;have f3:=T6.r.froz 3;have f4:=T6.r.froz 4;have f5:=T6.r.froz 5;simp only [List.getElem_toArray,List.getElem_cons_zero,List.getElem_cons_succ] at a0 a1 a2 a3 a4 a5 r0 r1 r2 r3 r4 r5
    go_wp2_with fail
    obtain⟨Y,hYe⟩:∃Y,Y=jp W6 (w.heap.size+2) (.int .i64 k) (.int .i64 n) (.int .u64 (b:Int)) (.string s) (.slice pL L.length cL) (.slice p5 M.length c5):=⟨_,rfl⟩
    rw [<-hYe] at HY HB HV;simp only [jp] at hYe;rw [<-hYe];clear hYe;refine bodyPost_ret (results_updated _ HY.out) rfl ?_
    rw [HU2.out];exact jbz.mk (r:=(0,mkV (k,n,b,s.data.toList) L M)) HB.out (Jo HV.out (by omega) (Below.refl _ _))
  ·have HLE:¬x.2<=((opn t).2.1.length:Int):=fun h=>HPR.out ⟨hx,hnt,h⟩
   obtain⟨j,hj⟩:∃j:Nat,x.2=(j:Int):=⟨x.2.toNat,by omega⟩
   have hU3:=add_place (y:=y) hx hnt;rw [<-hU2,hj,Int.toNat_natCast] at hU3;rw [hj] at c1 HLE;have hjb:((j:Int) == -1)=false:=beq_false_of_ne (by omega);have hjn:¬((j:Int) = -1):=by omega
   have hj0:(0:Int)<=(j:Int):=by omega
   have hl2:=LiesV.to (Nat.le_max_left f g) hl0;have hy2:=LiesV.to (Nat.le_max_right f g) hy0;have HLn:=ja (And.intro HL.out.1.isV HL.out.2.2.2.2.1);have HHX:=ja hx;have HHJ:=ja hj;clear hl0 hy0 hl6 HL HR hnt hU hU2 hx hj;generalize max f g=F at hl2 hy2;obtain⟨L,E,rfl,rfl,rfl,⟨q1,q2,q3,q4⟩,rL,rE⟩:=Y0 hl2;have hLE:=Few.len ⟨_,HLn.out.1,HLn.out.2⟩;rw [jQ] at hU3 HLE;have hU4:Xs 2 y key.data.toList (mkV (k,n,b,s.data.toList) L E) [x]=if (L.length:Int)<(j:Int) then (8,mkV (k,n,b,s.data.toList) L E) else (0,mkV (k,n,b,s.data.toList) (L.take j++y :: L.drop j) E):=hU3
   have hgt:(j:Int) > (L.length:Int):=by have h:¬(j:Int)<=(L.length:Int):=HLE;omega
   rw [if_pos hgt] at hU4;have hl6:=Jo (M:=w.heap.size+3) hl2 (by omega) (Below.refl _ _);have HU2:=ja hU4;clear hU3 hU4 k3 dD b03 b23 A0 A1 A2 A3 A5 hl2 hy2 rL rE HPR HLE HZ;have HY:=ja (jk T6.r (.int .i64 k) (.int .i64 n) (.int .u64 (b:Int)) (.string s) (.slice pL L.length cL) (.slice pE E.length cE));have HB:=ja (jg T6.b (b:=w.heap.size+2) (by omega) (.int .i64 k) (.int .i64 n) (.int .u64 (b:Int)) (.string s) (.slice pL L.length cL) (.slice pE E.length cE));have HV:=ja (JY (B:=w.heap.size+2) hl6 (fun h=>by have:=hok _ h;omega) (by omega) (.int .i64 k) (.int .i64 n) (.int .u64 (b:Int)) (.string s) (.slice pL L.length cL) (.slice pE E.length cE));have a0:=T6.a.cell 0 _ rfl;have a1:=T6.a.cell 1 _ rfl;have a2:=T6.a.cell 2 _ rfl;have a3:=T6.a.cell 3 _ rfl;have a4:=T6.a.cell 4 _ rfl;have a5:=T6.a.cell 5 _ rfl;have r0:=T6.r.cell 0 _ rfl
   have r1:=T6.r.cell 1 _ rfl;have r2:=T6.r.cell 2 _ rfl;have r3:=T6.r.cell 3 _ rfl;have r4:=T6.r.cell 4 _ rfl;have r5:=T6.r.cell 5 _ rfl;have f0:=T6.r.froz 0;have f1:=T6.r.froz 1;have f2:=T6.r.froz 2;have f3:=T6.r.froz 3;have f4:=T6.r.froz 4;have f5:=T6.r.froz 5;simp only [List.getElem_toArray,List.getElem_cons_zero,List.getElem_cons_succ] at a0 a1 a2 a3 a4 a5 r0 r1 r2 r3 r4 r5
   go_wp2_with fail
   obtain⟨Y,hYe⟩:∃Y,Y=jp W3 (w.heap.size+2) (.int .i64 k) (.int .i64 n) (.int .u64 (b:Int)) (.string s) (.slice pL L.length cL) (.slice pE E.length cE):=⟨_,rfl⟩
   rw [<-hYe] at HY HB HV;simp only [jp] at hYe;rw [<-hYe];clear hYe;refine bodyPost_ret (results_updated _ HY.out) rfl ?_
   rw [HU2.out];exact jbz.mk (r:=(8,mkV (k,n,b,s.data.toList) L E)) HB.out (Jo HV.out (by omega) (Below.refl _ _))
end upds
end Go.Proofs.YtadaehaemmelfaaDoor
