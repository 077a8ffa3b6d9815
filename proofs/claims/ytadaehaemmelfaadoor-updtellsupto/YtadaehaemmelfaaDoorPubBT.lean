/- Of our texts, what this claim reaches. -/
import Derived.Test.YtadaehaemmelfaaDoorPubBN
import Derived.Deep.DrawnRows
set_option linter.unusedVariables false
set_option maxHeartbeats 16000000
set_option maxRecDepth 100000
set_option linter.unusedSimpArgs false
namespace Go.Proofs.YtadaehaemmelfaaDoor
namespace upds
open Go.RowKit Go.Shelf
open valus
open paths (St LiesP jf je jq)
attribute [local go_sem ↓] Go.wp_at_zero Go.wp_at_succ
theorem upd_add_nil2 (ad:Addr)(y:V)(key:ByteArray)(hkm:key.size<=maxLen)(x:St):UpdCJ 2 y key [x] (some ad) (fun t cL=>Ins x t/\(opn t).2.1=[]/\cL≠0):=by
 intro ok f w t k n b s nL cL pE nE cE p c po no co g vk vn vb vs vpL vnL vcL vpE vnE vcE hok hl hn hP hc hm hi hy hpr;obtain⟨B,o,xk,rfl,hB,e1,e2,e3,e4,e5⟩:=hP.at (j:=0) (by simp);simp only [List.getElem_cons_zero,Nat.zero_mul,Nat.add_zero] at e1 e3 e4 e5;obtain⟨W0,hW0⟩:∃W0,W0=Zk w #[.int .i64 k,.int .i64 n,.int .u64 (b:Int),.string s,.slice (some ad) nL cL,.slice pE nE cE] #[.int .i64 2,.slice po no co,.int .i64 vk,.int .i64 vn,.int .u64 (vb:Int),.string vs,.slice vpL vnL vcL,.slice vpE vnE vcE,.string key] qv:=⟨_,rfl⟩
 obtain⟨W1,hW1⟩:∃W1,W1=W0.alloc (.cells #[.string xk,.int .i64 x.2] 60):=⟨_,rfl⟩
 have h4:Four w W1 #[.int .i64 k,.int .i64 n,.int .u64 (b:Int),.string s,.slice (some ad) nL cL,.slice pE nE cE] #[.int .i64 2,.slice po no co,.int .i64 vk,.int .i64 vn,.int .u64 (vb:Int),.string vs,.slice vpL vnL vcL,.slice vpE vnE vcE,.string key] xk x.2:=by rw [hW1,hW0];exact four_base w _ _ xk x.2
 have h3:=QQ w #[.int .i64 k,.int .i64 n,.int .u64 (b:Int),.string s,.slice (some ad) nL cL,.slice pE nE cE] #[.int .i64 2,.slice po no co,.int .i64 vk,.int .i64 vn,.int .u64 (vb:Int),.string vs,.slice vpL vnL vcL,.slice vpE vnE vcE,.string key] qv;rw [<-hW0] at h3
 have KP:Hid (∀u,Below W1.heap.size W1 u->Calls Tryd.prog 35 #[.agg #[.int .i64 k,.int .i64 n,.int .u64 (b:Int),.string s,.slice (some ad) nL cL,.slice pE nE cE],.agg #[.string xk,.int .i64 x.2]] u (paths.PartTK ok (jd f t) (jf t x) u)):=ja fun u hu=>by
  refine Calls.mono ?_ (fun e w' h=>paths.part_tupleK h)
  have hbu:=h4.h.b.trans (hu.mono h4.h.b.size);have:=paths.partK_any ok (jd f t) u (fun q h=>Nat.lt_of_lt_of_le (hok q h) hbu.size) f t _ _ _ _ _ _ (hl.kept (fun q h=>h) hbu.size (fun q h _=>hbu.block q (hok q h))) (Nat.le_refl _) xk x.2 (hi x List.mem_cons_self);rw [e1] at this;exact this
 have p0:=(h3.b.cell (p:=⟨B,o,none⟩) hB).trans e4;have p1:=(h3.b.cell (p:=⟨B,o+1,none⟩) hB).trans e5;obtain⟨a0,a1,a2,a3,a4,a5⟩:=h4.h.a.cells6;have o0:=h3.o.cell 0 _ rfl;have o10:=h4.h.o.cell 0 _ rfl;have c0:=h4.c.cell 0 _ rfl;have c1:=h4.c.cell 1 _ rfl;have HPR:=ja hpr;clear hpr;have HE1:=ja e1;have H4:=ja h4;have HL:=ja (And.intro hl (And.intro hy (And.intro hok (And.intro hP (And.intro hn hi)))));unfold Zk qv at hW0;rw [hW1,hW0] at o10;rw [hW0] at o0 p0 p1;rw [hW0] at hW1;have HW1:=ja hW1;clear h3 h4 hW0 hW1 hl hy hP hn hi e1 e4 e5 a0 a1 a2 a3 a4 a5 c0 c1
 show Calls Tryd.prog 42 #[.agg #[.int .i64 k,.int .i64 n,.int .u64 (b:Int),.string s,.slice (some ad) nL cL,.slice pE nE cE],.slice (some ⟨B,o,none⟩) 1 c,.agg #[.int .i64 2,.slice po no co,.int .i64 vk,.int .i64 vn,.int .u64 (vb:Int),.string vs,.slice vpL vnL vcL,.slice vpE vnE vcE,.string key]] w (jbz ok (Xs 2 y key.data.toList t [x]) w)
 go_enter Tryd.func42,Tryd.ntmps42
 go_upto_region 17 with fail
 rw [<-HW1.out];clear o0 o10 p0 p1 HW1;have a0:=H4.out.h.a.cell 0 _ rfl;have a1:=H4.out.h.a.cell 1 _ rfl;have a2:=H4.out.h.a.cell 2 _ rfl;have a3:=H4.out.h.a.cell 3 _ rfl;have a4:=H4.out.h.a.cell 4 _ rfl;have a5:=H4.out.h.a.cell 5 _ rfl;have c0:=H4.out.c.cell 0 _ rfl;have c1:=H4.out.c.cell 1 _ rfl;simp only [List.getElem_toArray,List.getElem_cons_zero,List.getElem_cons_succ] at a0 a1 a2 a3 a4 a5 c0 c1
 go_upto_region 18 with (go_at_call 35
                         refine(KP.out _ (Below.refl _ _)).mono ?_
                         rintro e w2 ⟨k8,n8,b8,s8,pL8,nL8,cL8,pE8,nE8,cE8,er,rfl,hres,b2⟩
                         have HR:=ja hres.out;have B2:=ja b2;clear hres b2)
 clear KP a0 a1 a2 a3 a4 a5 c0 c1;obtain⟨W3,hW3⟩:∃W3,W3=w2.alloc (.cells #[.int .i64 k8,.int .i64 n8,.int .u64 (b8:Int),.string s8,.slice pL8 nL8 cL8,.slice pE8 nE8 cE8] 26):=⟨_,rfl⟩
 have b3:Below W1.heap.size W1 W3:=by rw [hW3];exact B2.out.alloc B2.out.size _
 have k3:=H4.out.below b3;have dD:Blk W3 w2.heap.size #[.int .i64 k8,.int .i64 n8,.int .u64 (b8:Int),.string s8,.slice pL8 nL8 cL8,.slice pE8 nE8 cE8] 26:=by rw [hW3];exact jb _ _ _
 have hD:w.heap.size+4<=w2.heap.size:=Nat.le_trans H4.out.s B2.out.size;rw [<-hW3];have b03:Below w.heap.size w W3:=k3.h.b;have b23:Below w2.heap.size w2 W3:=by rw [hW3];exact(Below.refl _ _).alloc (Nat.le_refl _) _
 have hWlt:w2.heap.size<W3.heap.size:=by rw [hW3,World.size_alloc];omega
 have hU:=upd_last (kind:=2) (y:=y) (t:=t) (key:=key.data.toList) (x:=x) (by decide);have hl0:=Qi (N:=w2.heap.size+1) HL.out.1 hok b03;have hy0:=Qi (N:=w2.heap.size+1) HL.out.2.1 hok b03;have T6:=k3.h;have hl6:=Jo (M:=w.heap.size+3) hl0 (by omega) (Below.refl _ _);have c0:=k3.c.cell 0 _ rfl;have c1:=k3.c.cell 1 _ rfl;have o0:=k3.h.o.cell 0 _ rfl;have o1:=k3.h.o.cell 1 _ rfl;have o2:=k3.h.o.cell 2 _ rfl;have o3:=k3.h.o.cell 3 _ rfl;have o4:=k3.h.o.cell 4 _ rfl;have o5:=k3.h.o.cell 5 _ rfl;have o6:=k3.h.o.cell 6 _ rfl;have o7:=k3.h.o.cell 7 _ rfl;have o8:=k3.h.o.cell 8 _ rfl;have A0:=k3.h.a.cell 0 _ rfl;have A1:=k3.h.a.cell 1 _ rfl;have A2:=k3.h.a.cell 2 _ rfl;have A3:=k3.h.a.cell 3 _ rfl;have A4:=k3.h.a.cell 4 _ rfl;have A5:=k3.h.a.cell 5 _ rfl;have d0:=dD.cell 0 _ rfl;have d1:=dD.cell 1 _ rfl;have d2:=dD.cell 2 _ rfl;have d3:=dD.cell 3 _ rfl;have d4:=dD.cell 4 _ rfl
 have d5:=dD.cell 5 _ rfl;simp only [List.getElem_toArray,List.getElem_cons_zero,List.getElem_cons_succ] at c0 c1 o0 o1 o2 o3 o4 o5 o6 o7 o8 A0 A1 A2 A3 A4 A5 d0 d1 d2 d3 d4 d5;have hx1:=HL.out.2.2.2.2.2 x List.mem_cons_self;have HB3:=ja b3;clear hW3 H4 B2 b3;have hU2:Xs 2 y key.data.toList t [x]=ZA x y t:=by rw [hU];rfl
 have hx:=HPR.out.1.1;have hnt:=HPR.out.1.2.1;have HLE:=HPR.out.1.2.2
 have h10:¬er=10:=by
  rcases HR.out with ⟨u,fu,hz,h0,_⟩ | ⟨hz,hne⟩
  ·omega
  ·intro h
   rw [h] at hz;exact hnt hz
 have h10b:(er == 10)=false:=beq_false_of_ne h10;obtain⟨j,hj⟩:∃j:Nat,x.2=(j:Int):=⟨x.2.toNat,by omega⟩
 have hU3:=add_place (y:=y) hx hnt;rw [<-hU2,hj,Int.toNat_natCast] at hU3;rw [hj] at c1 HLE;have hjb:((j:Int) == -1)=false:=beq_false_of_ne (by omega);have hjn:¬((j:Int) = -1):=by omega
 have hj0:(0:Int)<=(j:Int):=by omega
 have hl2:=LiesV.to (Nat.le_max_left f g) hl0;have hy2:=LiesV.to (Nat.le_max_right f g) hy0;have HLn:=ja (And.intro HL.out.1.isV HL.out.2.2.2.2.1);have HHX:=ja hx;have HHJ:=ja hj;clear hl0 hy0 hl6 HL HR hnt hU hU2 hx hj;generalize max f g=F at hl2 hy2;obtain⟨L,E,rfl,rfl,rfl,⟨q1,q2,q3,q4⟩,rL,rE⟩:=Y0 hl2;have hLE:=Few.len ⟨_,HLn.out.1,HLn.out.2⟩;rw [jQ] at hU3 HLE;have hU4:Xs 2 y key.data.toList (mkV (k,n,b,s.data.toList) L E) [x]=if (L.length:Int)<(j:Int) then (8,mkV (k,n,b,s.data.toList) L E) else (0,mkV (k,n,b,s.data.toList) (L.take j++y :: L.drop j) E):=hU3
 have hle:(j:Int)<=(L.length:Int):=HLE;have hgt:¬(L.length:Int)<(j:Int):=by omega
 have hgt':¬(j:Int) > (L.length:Int):=by omega
 rw [if_neg hgt] at hU4;obtain⟨M,hM⟩:∃M,M=L.take j++[y]++L.drop j:=⟨_,rfl⟩
 have hU5:Xs 2 y key.data.toList (mkV (k,n,b,s.data.toList) L E) [x]=(0,mkV (k,n,b,s.data.toList) M E):=by rw [hU4,hM];simp
 have HU2:=ja hU5;have HMM:=ja hM;have HK3:=ja k3;have HL2:=ja hl2;have HRL:=ja rL;have HY2:=ja hy2;have hjL:j<=L.length:=by omega
 have hjc:(j:Int)<=(cL:Int):=by omega
 have hjc':j<=cL:=by omega
 have hcap:=HPR.out.2;clear hU3 hU4 hU5 hM T6 dD b03 b23 hl2 hy2 rL rE k3 HPR HLE;have hL0:L=[]:=hcap.1;subst hL0
 have hj00:j=0:=by
  have h:j<=0:=hjL;omega
 subst hj00;have hcz:¬cL=0:=hcap.2;obtain⟨v1,X1,hv1,hX1⟩:∃(v1:Value) (X1:World),v1=.slice none 0 0/\X1=W3:=⟨_,_,rfl,rfl⟩
 have HO1:Hid (OwnL (At ok (w2.heap.size+1) W3) W3.heap.size F X1 v1 (([]:List V).take 0)):=ja (by rw [hv1,List.take_nil];exact OwnL.nil _ _ _ _);have HBX1:Hid (Below W3.heap.size W3 X1):=ja (by rw [hX1];exact Below.refl _ _);have K1:=HK3.out.below HBX1.out;have hrun1:∀ps c,(Builtin.append_ #[23,23] 23 #[.slice none 0 0,.slice ps 0 c]).run Tryd.prog W3=.ok v1 X1:=fun ps c=>by rw [hv1,hX1];exact nilL ps c W3 23
 clear hcap hX1 hv1
 go_upto_region 30 with (at_builtin;refine Lib.wpList_append_run _ rfl _ _ _ _ rfl _ _ rfl rfl _ _ (hrun1 _ _) ?_)
 clear c0 c1 o0 o1 o2 o3 o4 o5 o6 o7 o8 A0 A1 A2 A3 A4 A5 d0 d1 d2 d3 d4 d5;obtain⟨XA,hXA⟩:∃XA,XA=X1.drew.alloc (.cells #[.int .i64 vk,.int .i64 vn,.int .u64 (vb:Int),.string vs,.slice vpL vnL vcL,.slice vpE vnE vcE] 26):=⟨_,rfl⟩
 have bX:Below W3.heap.size W3 XA:=by rw [hXA];exact(_root_.Go.below_drewN HBX1.out 1).alloc (_root_.Go.below_drewN HBX1.out 1).size _
 have bXX:Below X1.heap.size X1 XA:=by rw [hXA];exact(_root_.Go.below_drewN (Below.refl _ X1) 1).alloc (Nat.le_refl _) _
 have hXb:Blk XA X1.heap.size #[.int .i64 vk,.int .i64 vn,.int .u64 (vb:Int),.string vs,.slice vpL vnL vcL,.slice vpE vnE vcE] 26:=by rw [hXA];exact jb X1.drew _ _
 have hy3:LiesV (At ok (w2.heap.size+1) W3) F XA [.int .i64 vk,.int .i64 vn,.int .u64 (vb:Int),.string vs,.slice vpL vnL vcL,.slice vpE vnE vcE] y:=HY2.out.kept (fun q h=>h) bX.size (fun q h hq=>bX.block q hq);obtain⟨v2,Y1,hrunA,hoA,bA⟩:=oneL (fun q h=>h.2) bX (HO1.out.still bXX) hXb hy3 (by rw [List.length_take];omega) 23;rw [hXA] at hrunA;have HOA:=ja hoA;have HBA:=ja bA;obtain⟨XB,hXB⟩:∃XB,XB=X1.alloc (.cells #[.int .i64 vk,.int .i64 vn,.int .u64 (vb:Int),.string vs,.slice vpL vnL vcL,.slice vpE vnE vcE] 26):=⟨_,rfl⟩
 have bXB:Below W3.heap.size W3 XB:=by rw [hXB];exact HBX1.out.alloc HBX1.out.size _
 have KX:=HK3.out.below bXB;have KA:=HK3.out.below bA;have x4:=K1.h.a.cell 4 _ rfl;have x1:=K1.c.cell 1 _ rfl;rw [HHJ.out] at x1;have y4:=KX.h.a.cell 4 _ rfl;have y1:=KX.c.cell 1 _ rfl;rw [HHJ.out] at y1;have u4:=KA.h.a.cell 4 _ rfl;have u1:=KA.c.cell 1 _ rfl;rw [HHJ.out] at u1;have o2:=K1.h.o.cell 2 _ rfl;have o3:=K1.h.o.cell 3 _ rfl;have o4:=K1.h.o.cell 4 _ rfl;have o5:=K1.h.o.cell 5 _ rfl;have o6:=K1.h.o.cell 6 _ rfl;have o7:=K1.h.o.cell 7 _ rfl;simp only [List.getElem_toArray,List.getElem_cons_zero,List.getElem_cons_succ] at x4 x1 y4 y1 u4 u1 o2 o3 o4 o5 o6 o7;rw [hXB] at y4 y1;clear hoA bA KX KA bX bXX hXb hy3 hXA K1 bXB hXB;obtain⟨v3,Y2,hv3,hY2⟩:∃(v3:Value) (Y2:World),v3=v2/\Y2=Y1:=⟨_,_,rfl,rfl⟩
 have hrunB:∀ps c,(Builtin.append_ #[23,23] 23 #[v2,.slice ps 0 c]).run Tryd.prog Y1=.ok v3 Y2:=fun ps c=>by rw [hv3,hY2];exact zeroL HOA.out ps c 23
 have bB:Below W3.heap.size W3 Y2:=by rw [hY2];exact HBA.out
 have hoB:OwnL (At ok (w2.heap.size+1) W3) W3.heap.size F Y2 v3 (([]:List V).take 0++[y]++([]:List V).drop 0):=by rw [hY2,hv3,List.drop_nil,List.append_nil];exact HOA.out
 clear hY2 hv3;rw [<-HMM.out] at hoB;obtain⟨p5,c5,rfl,hi1,hi2,hrow⟩:=hoB.row3;have K2:=HK3.out.below bB;have z4:=K2.h.a.froz 4;have s4:=K2.h.a.cell 4 _ rfl;simp only [List.getElem_toArray,List.getElem_cons_zero,List.getElem_cons_succ] at s4;have HSZ:=HK3.out.s;have HRW:Hid (RowL (At ok (w.heap.size+3) Y2) F Y2 p5 M):=ja (hrow.kept (fun q h=>⟨by rcases h.1 with h | h;exact h.1.imp id (fun h=>by omega);exact .inr (by omega),h.2⟩) (Nat.le_refl _) (fun _ _ _=>rfl) (fun j us _ ⟨z,g1,g2⟩=>⟨z,g1,g2.weaken (fun q h=>⟨by rcases h.1 with h | h;exact h.1.imp id (fun h=>by omega);exact .inr (by omega),h.2⟩)⟩));have HK2:=ja K2;have HL5:=ja (Jo HL2.out (M:=w.heap.size+3) (by omega) bB);clear hrow K2 bB hoB
 go_cut [14] from 117 to 128 (fun s14 wx=>s14=v1/\(Y2.setCell ⟨w.heap.size,4,none⟩ (.slice p5 M.length c5))=wx)
 case first=>
  go_region_law (first
   | (refine step_append_run (by rfl) _ _ _ _ (by rfl) _ _ (by rfl) (by rfl) _ _ hrunA ?_)
   | (refine step_append_run (by rfl) _ _ _ _ (by rfl) _ _ (by rfl) (by rfl) _ _ (hrunB _ _) ?_))
  all_goals
   go_wp2_with fail
   go_meet
   exact⟨rfl,rfl⟩
 case rest=>
 obtain⟨rfl,rfl⟩:=hcut;clear hrunA z4 s4 x4 x1 y4 y1 u4 u1 o2 o3 o4 o5 o6 o7;obtain⟨W6,hW6⟩:∃W6,W6=Y2.setCell ⟨w.heap.size,4,none⟩ (.slice p5 M.length c5):=⟨_,rfl⟩
 rw [<-hW6];have T6:Three w W6 #[.int .i64 k,.int .i64 n,.int .u64 (b:Int),.string s,.slice p5 M.length c5,.slice pE E.length cE] #[.int .i64 2,.slice po no co,.int .i64 vk,.int .i64 vn,.int .u64 (vb:Int),.string vs,.slice vpL vnL vcL,.slice vpE vnE vcE,.string key] qv:=by rw [hW6];exact three_set HK2.out.h 4 _
 have hlE:=lies_setL (okA:=At ok (w.heap.size+3) Y2) (L':=M) (p':=p5) (c':=c5) HL5.out.up HRW.out hi1 hi2
 have hl6:LiesV (At ok (w.heap.size+3) W6) (max F F+1) W6 [.int .i64 k,.int .i64 n,.int .u64 (b:Int),.string s,.slice p5 M.length c5,.slice pE E.length cE] (mkV (k,n,b,s.data.toList) M E):=by
  rw [hW6];exact lies_past1 (B:=w.heap.size) (j:=4) hlE (fun h=>by have:=hok _ h;omega) (by omega) _
 clear hW6;have HY:=ja (jk T6.r (.int .i64 k) (.int .i64 n) (.int .u64 (b:Int)) (.string s) (.slice p5 M.length c5) (.slice pE E.length cE));have HB:=ja (jg T6.b (b:=w.heap.size+2) (by omega) (.int .i64 k) (.int .i64 n) (.int .u64 (b:Int)) (.string s) (.slice p5 M.length c5) (.slice pE E.length cE));have HV:=ja (JY (B:=w.heap.size+2) hl6 (fun h=>by have:=hok _ h;omega) (by omega) (.int .i64 k) (.int .i64 n) (.int .u64 (b:Int)) (.string s) (.slice p5 M.length c5) (.slice pE E.length cE));have a0:=T6.a.cell 0 _ rfl;have a1:=T6.a.cell 1 _ rfl;have a2:=T6.a.cell 2 _ rfl;have a3:=T6.a.cell 3 _ rfl;have a4:=T6.a.cell 4 _ rfl;have a5:=T6.a.cell 5 _ rfl;have r0:=T6.r.cell 0 _ rfl;have r1:=T6.r.cell 1 _ rfl;have r2:=T6.r.cell 2 _ rfl;have r3:=T6.r.cell 3 _ rfl;have r4:=T6.r.cell 4 _ rfl;have r5:=T6.r.cell 5 _ rfl;have f0:=T6.r.froz 0;have f1:=T6.r.froz 1
 have f2:=T6.r.froz 2;have f3:=T6.r.froz 3;have f4:=T6.r.froz 4;have f5:=T6.r.froz 5;simp only [List.getElem_toArray,List.getElem_cons_zero,List.getElem_cons_succ] at a0 a1 a2 a3 a4 a5 r0 r1 r2 r3 r4 r5
 go_wp2_with fail
 obtain⟨Y,hYe⟩:∃Y,Y=jp W6 (w.heap.size+2) (.int .i64 k) (.int .i64 n) (.int .u64 (b:Int)) (.string s) (.slice p5 M.length c5) (.slice pE E.length cE):=⟨_,rfl⟩
 rw [<-hYe] at HY HB HV;simp only [jp] at hYe;rw [<-hYe];clear hYe;refine bodyPost_ret (results_updated _ HY.out) rfl ?_
 rw [HU2.out];exact jbz.mk (r:=(0,mkV (k,n,b,s.data.toList) M E)) HB.out (Jo HV.out (by omega) (Below.refl _ _))
end upds
end Go.Proofs.YtadaehaemmelfaaDoor
