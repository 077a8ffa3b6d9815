/- Of our texts, what this claim reaches. -/
import Derived.Test.YtadaehaemmelfaaDoorPubBN
import Derived.Deep.DrawnRows
set_option linter.unusedVariables false
set_option maxHeartbeats 16000000
set_option maxRecDepth 100000
set_option linter.unusedSimpArgs false
namespace Go.Proofs.YtadaehaemmelfaaDoor
namespace upds
open Go.RowKit Go.Shelf
open valus
open paths (St LiesP jf je jq)
attribute [local go_sem ↓] Go.wp_at_zero Go.wp_at_succ
theorem upd_name (y:V)(key:ByteArray)(hkm:key.size<=maxLen)(x:St):jcm 4 y key [x]:=by
 intro ok f w t k n b s pL nL cL pE nE cE p c po no co g vk vn vb vs vpL vnL vcL vpE vnE vcE hok hl hn hP hc hm hi hy;obtain⟨B,o,xk,rfl,hB,e1,e2,e3,e4,e5⟩:=hP.at (j:=0) (by simp);simp only [List.getElem_cons_zero,Nat.zero_mul,Nat.add_zero] at e1 e3 e4 e5;obtain⟨W0,hW0⟩:∃W0,W0=Zk w #[.int .i64 k,.int .i64 n,.int .u64 (b:Int),.string s,.slice pL nL cL,.slice pE nE cE] #[.int .i64 4,.slice po no co,.int .i64 vk,.int .i64 vn,.int .u64 (vb:Int),.string vs,.slice vpL vnL vcL,.slice vpE vnE vcE,.string key] qv:=⟨_,rfl⟩
 obtain⟨W1,hW1⟩:∃W1,W1=W0.alloc (.cells #[.string xk,.int .i64 x.2] 60):=⟨_,rfl⟩
 have h4:Four w W1 #[.int .i64 k,.int .i64 n,.int .u64 (b:Int),.string s,.slice pL nL cL,.slice pE nE cE] #[.int .i64 4,.slice po no co,.int .i64 vk,.int .i64 vn,.int .u64 (vb:Int),.string vs,.slice vpL vnL vcL,.slice vpE vnE vcE,.string key] xk x.2:=by rw [hW1,hW0];exact four_base w _ _ xk x.2
 have h3:=QQ w #[.int .i64 k,.int .i64 n,.int .u64 (b:Int),.string s,.slice pL nL cL,.slice pE nE cE] #[.int .i64 4,.slice po no co,.int .i64 vk,.int .i64 vn,.int .u64 (vb:Int),.string vs,.slice vpL vnL vcL,.slice vpE vnE vcE,.string key] qv;rw [<-hW0] at h3
 have KP:Hid (∀u,Below W1.heap.size W1 u->Calls Tryd.prog 35 #[.agg #[.int .i64 k,.int .i64 n,.int .u64 (b:Int),.string s,.slice pL nL cL,.slice pE nE cE],.agg #[.string xk,.int .i64 x.2]] u (paths.PartTK ok (jd f t) (jf t x) u)):=ja fun u hu=>by
  refine Calls.mono ?_ (fun e w' h=>paths.part_tupleK h)
  have hbu:=h4.h.b.trans (hu.mono h4.h.b.size);have:=paths.partK_any ok (jd f t) u (fun q h=>Nat.lt_of_lt_of_le (hok q h) hbu.size) f t _ _ _ _ _ _ (hl.kept (fun q h=>h) hbu.size (fun q h _=>hbu.block q (hok q h))) (Nat.le_refl _) xk x.2 (hi x List.mem_cons_self);rw [e1] at this;exact this
 have p0:=(h3.b.cell (p:=⟨B,o,none⟩) hB).trans e4;have p1:=(h3.b.cell (p:=⟨B,o+1,none⟩) hB).trans e5;obtain⟨a0,a1,a2,a3,a4,a5⟩:=h4.h.a.cells6;have o0:=h3.o.cell 0 _ rfl;have o10:=h4.h.o.cell 0 _ rfl;have c0:=h4.c.cell 0 _ rfl;have c1:=h4.c.cell 1 _ rfl;have HE1:=ja e1;have H4:=ja h4;have HL:=ja (And.intro hl (And.intro hy (And.intro hok (And.intro hP (And.intro hn hi)))));unfold Zk qv at hW0;rw [hW1,hW0] at o10;rw [hW0] at o0 p0 p1;rw [hW0] at hW1;have HW1:=ja hW1;clear h3 h4 hW0 hW1 hl hy hP hn hi e1 e4 e5 a0 a1 a2 a3 a4 a5 c0 c1
 show Calls Tryd.prog 42 #[.agg #[.int .i64 k,.int .i64 n,.int .u64 (b:Int),.string s,.slice pL nL cL,.slice pE nE cE],.slice (some ⟨B,o,none⟩) 1 c,.agg #[.int .i64 4,.slice po no co,.int .i64 vk,.int .i64 vn,.int .u64 (vb:Int),.string vs,.slice vpL vnL vcL,.slice vpE vnE vcE,.string key]] w (jbz ok (Xs 4 y key.data.toList t [x]) w)
 go_enter Tryd.func42,Tryd.ntmps42
 go_upto_region 17 with fail
 rw [<-HW1.out];clear o0 o10 p0 p1 HW1;have a0:=H4.out.h.a.cell 0 _ rfl;have a1:=H4.out.h.a.cell 1 _ rfl;have a2:=H4.out.h.a.cell 2 _ rfl;have a3:=H4.out.h.a.cell 3 _ rfl;have a4:=H4.out.h.a.cell 4 _ rfl;have a5:=H4.out.h.a.cell 5 _ rfl;have c0:=H4.out.c.cell 0 _ rfl;have c1:=H4.out.c.cell 1 _ rfl;simp only [List.getElem_toArray,List.getElem_cons_zero,List.getElem_cons_succ] at a0 a1 a2 a3 a4 a5 c0 c1
 go_upto_region 18 with (go_at_call 35
                         refine(KP.out _ (Below.refl _ _)).mono ?_
                         rintro e w2 ⟨k8,n8,b8,s8,pL8,nL8,cL8,pE8,nE8,cE8,er,rfl,hres,b2⟩
                         have HR:=ja hres.out;have B2:=ja b2;clear hres b2)
 clear KP a0 a1 a2 a3 a4 a5 c0 c1;obtain⟨W3,hW3⟩:∃W3,W3=w2.alloc (.cells #[.int .i64 k8,.int .i64 n8,.int .u64 (b8:Int),.string s8,.slice pL8 nL8 cL8,.slice pE8 nE8 cE8] 26):=⟨_,rfl⟩
 have b3:Below W1.heap.size W1 W3:=by rw [hW3];exact B2.out.alloc B2.out.size _
 have k3:=H4.out.below b3;have dD:Blk W3 w2.heap.size #[.int .i64 k8,.int .i64 n8,.int .u64 (b8:Int),.string s8,.slice pL8 nL8 cL8,.slice pE8 nE8 cE8] 26:=by rw [hW3];exact jb _ _ _
 have hD:w.heap.size+4<=w2.heap.size:=Nat.le_trans H4.out.s B2.out.size;rw [<-hW3];have b03:Below w.heap.size w W3:=k3.h.b;have b23:Below w2.heap.size w2 W3:=by rw [hW3];exact(Below.refl _ _).alloc (Nat.le_refl _) _
 have hWlt:w2.heap.size<W3.heap.size:=by rw [hW3,World.size_alloc];omega
 have hU:=upd_last (kind:=4) (y:=y) (t:=t) (key:=key.data.toList) (x:=x) (by decide);have hl0:=Qi (N:=w2.heap.size+1) HL.out.1 hok b03;have hy0:=Qi (N:=w2.heap.size+1) HL.out.2.1 hok b03;have T6:=k3.h;have hl6:=Jo (M:=w.heap.size+3) hl0 (by omega) (Below.refl _ _);have c0:=k3.c.cell 0 _ rfl;have c1:=k3.c.cell 1 _ rfl;have o0:=k3.h.o.cell 0 _ rfl;have o1:=k3.h.o.cell 1 _ rfl;have o2:=k3.h.o.cell 2 _ rfl;have o3:=k3.h.o.cell 3 _ rfl;have o4:=k3.h.o.cell 4 _ rfl;have o5:=k3.h.o.cell 5 _ rfl;have o6:=k3.h.o.cell 6 _ rfl;have o7:=k3.h.o.cell 7 _ rfl;have o8:=k3.h.o.cell 8 _ rfl;have A0:=k3.h.a.cell 0 _ rfl;have A1:=k3.h.a.cell 1 _ rfl;have A2:=k3.h.a.cell 2 _ rfl;have A3:=k3.h.a.cell 3 _ rfl;have A4:=k3.h.a.cell 4 _ rfl;have A5:=k3.h.a.cell 5 _ rfl;have d0:=dD.cell 0 _ rfl;have d1:=dD.cell 1 _ rfl;have d2:=dD.cell 2 _ rfl;have d3:=dD.cell 3 _ rfl;have d4:=dD.cell 4 _ rfl
 have d5:=dD.cell 5 _ rfl;simp only [List.getElem_toArray,List.getElem_cons_zero,List.getElem_cons_succ] at c0 c1 o0 o1 o2 o3 o4 o5 o6 o7 o8 A0 A1 A2 A3 A4 A5 d0 d1 d2 d3 d4 d5;have hx1:=HL.out.2.2.2.2.2 x List.mem_cons_self;have HB3:=ja b3;clear hW3 H4 B2 b3
 rcases HR.out with ⟨u,fu,hz,rfl,hlu,hnu⟩ | ⟨hz,hne⟩
 ·have hU2:Xs 4 y key.data.toList t [x]=JH x key.data.toList u t:=by rw [hU];unfold jaG;rw [if_neg (by decide),hz];rfl
  by_cases hx:x.2 = -1
  ·have hlu3:=LiesV.to (Nat.le_max_right f fu) (hlu.kept (ok':=At ok (w2.heap.size+1) W3) (fun q h=>⟨.inl h,by have:=hok q h;omega⟩) b23.size (fun q h _=>b23.block q (by have:=hok q h;omega)))
   have hl3:=LiesV.to (Nat.le_max_left f fu) hl0;have HLn:=ja (And.intro HL.out.1.isV HL.out.2.2.2.2.1);clear hl0 hl6 hy0 HL;generalize max f fu=F at hlu3 hl3;obtain⟨L,E,rfl,rfl,rfl,⟨q1,q2,q3,q4⟩,rL,rE⟩:=Y0 hl3;have hLE:=Few.len ⟨_,HLn.out.1,HLn.out.2⟩;rw [hx] at c1;obtain⟨ix,hix⟩:∃ix,ix=idx (fun x=>decide (x=key.data.toList)) 0 E:=⟨_,rfl⟩
   obtain⟨M,hM⟩:∃M,M=qx key.data.toList u (jD key.data.toList (jD xk.data.toList E)):=⟨_,rfl⟩
   obtain⟨bb,hbb⟩:∃bb:Bool,bb=decide (key.data.toList≠xk.data.toList/\0<=ix):=⟨_,rfl⟩
   have hU3:Xs 4 y key.data.toList (mkV (k,n,b,s.data.toList) L E) [x]=if bb=true then (9,mkV (k,n,b,s.data.toList) L E) else (0,mkV (k,n,b,s.data.toList) L M):=by
    rw [hU2];unfold JH zo;rw [if_pos hx,<-HE1.out,jQ,hM,hbb,hix];simp only [decide_eq_true_eq]
   have KE:Hid (Calls Tryd.prog 51 #[.slice pE E.length cE,.string key] W3 fun e w'=>e=.returned (.int .i64 ix)/\Below W3.heap.size W3 w'):=by
    rw [hix];exact ja (Xq _ F W3 E pE cE key rE q3 q4)
   have HU2:=ja hU3;have HK3:=ja k3;have HDD:=ja dD;have HL3:=ja hl3;have HLU:=ja hlu3;have HRE:=ja rE;have HMM:=ja hM;have HBB:=ja hbb;have HHX:=ja hx;clear hU hU2 hU3 HR hz hlu hnu hix hM hbb k3 dD hl3 hlu3 rL rE T6 hx
   go_upto_region 45 with fail
   go_cut [182] from 170 to 181 (fun s182 wx=>s182=.bool bb/\Hid (Below W3.heap.size W3 wx))
   case first=>
    by_cases heq:key.data.toList=xk.data.toList
    ·have hs2:(key.toList == xk.toList)=true:=by rw [ByteArray.toList_eq,ByteArray.toList_eq];exact beq_iff_eq.2 heq
     have hb0:bb=false:=by rw [HBB.out];simp [heq]
     have HB0:=ja hb0;clear heq hb0
     go_wp2_with fail
     go_meet
     exact⟨by rw [HB0.out],ja (Below.refl _ _)⟩
    ·have hs2:(key.toList == xk.toList)=false:=by rw [ByteArray.toList_eq,ByteArray.toList_eq];exact beq_eq_false_iff_ne.2 heq
     have hb0:bb=decide (0<=ix):=by rw [HBB.out];simp [heq]
     have HB0:=ja hb0;clear heq hb0
     by_cases hi:0<=ix
     ·have hi':ix ≥ 0:=hi
      go_wp2_with (go_at_call 51;refine(jc KE).mono ?_;rintro e w5 ⟨rfl,b5⟩;have B5:=ja b5;clear b5)
      go_meet
      exact⟨by first | (rw [HB0.out,decide_eq_true hi];done) | (rw [HB0.out];done) | (rw [HB0.out];simp [hi]),B5⟩
     ·have hi':¬ix ≥ 0:=hi
      go_wp2_with (go_at_call 51;refine(jc KE).mono ?_;rintro e w5 ⟨rfl,b5⟩;have B5:=ja b5;clear b5)
      go_meet
      exact⟨by first | (rw [HB0.out,decide_eq_false hi];done) | (rw [HB0.out];done) | (rw [HB0.out];simp [hi]),B5⟩
   case rest=>
   obtain⟨rfl,HBX⟩:=hcut;clear c0 c1 o0 o1 o2 o3 o4 o5 o6 o7 o8 A0 A1 A2 A3 A4 A5 d0 d1 d2 d3 d4 d5 KE;have K4:=HK3.out.below HBX.out;cases bb with
   | true=>
    have hu:=HU2.out;rw [if_pos rfl] at hu;have HU2:=ja hu;clear hu K4;have T6:=(HK3.out.below HBX.out).h;have hl6:=Jo (M:=w.heap.size+3) HL3.out (by omega) HBX.out;clear HRE;have HY:=ja (jk T6.r (.int .i64 k) (.int .i64 n) (.int .u64 (b:Int)) (.string s) (.slice pL L.length cL) (.slice pE E.length cE));have HB:=ja (jg T6.b (b:=w.heap.size+2) (by omega) (.int .i64 k) (.int .i64 n) (.int .u64 (b:Int)) (.string s) (.slice pL L.length cL) (.slice pE E.length cE));have HV:=ja (JY (B:=w.heap.size+2) hl6 (fun h=>by have:=hok _ h;omega) (by omega) (.int .i64 k) (.int .i64 n) (.int .u64 (b:Int)) (.string s) (.slice pL L.length cL) (.slice pE E.length cE));have a0:=T6.a.cell 0 _ rfl;have a1:=T6.a.cell 1 _ rfl;have a2:=T6.a.cell 2 _ rfl;have a3:=T6.a.cell 3 _ rfl;have a4:=T6.a.cell 4 _ rfl;have a5:=T6.a.cell 5 _ rfl;have r0:=T6.r.cell 0 _ rfl
    have r1:=T6.r.cell 1 _ rfl;have r2:=T6.r.cell 2 _ rfl;have r3:=T6.r.cell 3 _ rfl;have r4:=T6.r.cell 4 _ rfl;have r5:=T6.r.cell 5 _ rfl;have f0:=T6.r.froz 0;have f1:=T6.r.froz 1;have f2:=T6.r.froz 2;have f3:=T6.r.froz 3;have f4:=T6.r.froz 4;have f5:=T6.r.froz 5;simp only [List.getElem_toArray,List.getElem_cons_zero,List.getElem_cons_succ] at a0 a1 a2 a3 a4 a5 r0 r1 r2 r3 r4 r5
    go_wp2_with fail
    obtain⟨Y,hYe⟩:∃Y,Y=jp wc (w.heap.size+2) (.int .i64 k) (.int .i64 n) (.int .u64 (b:Int)) (.string s) (.slice pL L.length cL) (.slice pE E.length cE):=⟨_,rfl⟩
    rw [<-hYe] at HY HB HV;simp only [jp] at hYe;rw [<-hYe];clear hYe;refine bodyPost_ret (results_updated _ HY.out) rfl ?_
    rw [HU2.out];exact jbz.mk (r:=(9,mkV (k,n,b,s.data.toList) L E)) HB.out (Jo HV.out (by omega) (Below.refl _ _))
   | false=>
    have hu:=HU2.out;rw [if_neg (by decide)] at hu;have HU2:=ja hu
    have KW1:Hid (∀v,Below wc.heap.size wc v->Calls Tryd.prog 62 #[.slice pE E.length cE,.string xk] v fun e v5=>∃p5 c5,e=.returned (.slice p5 (jD xk.data.toList E).length c5)/\Hid ((jD xk.data.toList E).length<=c5/\c5<=maxLen/\JO (At ok (w2.heap.size+1) v5) F v5 p5 (jD xk.data.toList E)/\Below wc.heap.size wc v5)):=ja fun v hv=>by
     have bv:=HBX.out.trans (hv.mono HBX.out.size);refine(without_any (At ok (w2.heap.size+1) v) F v E pE cE xk (HRE.out.kept (fun q h=>⟨h.1,Nat.lt_of_lt_of_le h.2 bv.size⟩) bv.size (fun q h hq=>bv.block q hq) (fun j us _ ⟨key,z,xs,g1,g2,g3,g4⟩=>⟨key,z,xs,g1,g2,g3,g4.kept (fun q h=>⟨h.1,Nat.lt_of_lt_of_le h.2 bv.size⟩) bv.size (fun q h hq=>bv.block q hq)⟩)) q3 q4 (fun q h=>h.2) (by omega)).mono ?_
     rintro e v5 ⟨v',rfl,how,b5⟩
     obtain⟨p5,c5,rfl,g1,g2,g3⟩:=how.row3;exact⟨p5,c5,rfl,ja ⟨g1,g2,g3.kept (fun q h=>⟨by rcases h.1 with h | h;exact h.1;exact .inr (by have:=bv.size;omega),h.2⟩) (Nat.le_refl _) (fun _ _ _=>rfl) (fun j us _ ⟨key,z,xs,g1,g2,g3,g4⟩=>⟨key,z,xs,g1,g2,g3,g4.weaken (fun q h=>⟨by rcases h.1 with h | h;exact h.1;exact .inr (by have:=bv.size;omega),h.2⟩)⟩),hv.trans (b5.mono hv.size)⟩⟩
    have KW2:Hid (∀v (p5:Option Addr) (c5:Nat),Below wc.heap.size wc v->(jD xk.data.toList E).length<=c5->c5<=maxLen->JO (At ok (w2.heap.size+1) v) F v p5 (jD xk.data.toList E)->Calls Tryd.prog 61 #[.slice p5 (jD xk.data.toList E).length c5,.string key,.agg #[.int .i64 k8,.int .i64 n8,.int .u64 (b8:Int),.string s8,.slice pL8 nL8 cL8,.slice pE8 nE8 cE8]] v fun e v6=>∃p6 c6,e=.returned (.slice p6 M.length c6)/\Hid (M.length<=c6/\c6<=maxLen/\JO (At ok (w.heap.size+3) v6) F v6 p6 M/\Below wc.heap.size wc v6)):=ja fun v p5 c5 hv h1 h2 hrow=>by
     have bv:=HBX.out.trans (hv.mono HBX.out.size);have hdl:=QI xk.data.toList E;rw [HMM.out];refine(with_at (At ok (w2.heap.size+1) v) F v (jD xk.data.toList E) p5 c5 key u k8 n8 b8 s8 pL8 nL8 cL8 pE8 nE8 cE8 hrow h1 h2 (fun q h=>h.2) (by omega) hkm (Jo HLU.out (Nat.le_refl _) bv)).mono ?_
     rintro e v6 ⟨⟨p6,c6,rfl,g1,g2,g3⟩,b6⟩
     have hsv:=bv.size;exact⟨p6,c6,rfl,ja ⟨g1,g2,g3.kept (fun q h=>⟨by rcases h.1 with h | h;exact h.1.imp id (fun h=>by omega);exact .inr (by omega),h.2⟩) (Nat.le_refl _) (fun _ _ _=>rfl) (fun j us _ ⟨key,z,xs,g1,g2,g3,g4⟩=>⟨key,z,xs,g1,g2,g3,g4.weaken (fun q h=>⟨by rcases h.1 with h | h;exact h.1.imp id (fun h=>by omega);exact .inr (by omega),h.2⟩)⟩),hv.trans (b6.mono hv.size)⟩⟩
    have HD4:=ja (HDD.out.below HBX.out);have H4c:=ja K4;have HSZ:=K4.s;have c0:=K4.c.cell 0 _ rfl;have c1:=K4.c.cell 1 _ rfl;have A0:=K4.h.a.cell 0 _ rfl;have A1:=K4.h.a.cell 1 _ rfl;have A2:=K4.h.a.cell 2 _ rfl;have A3:=K4.h.a.cell 3 _ rfl;have A4:=K4.h.a.cell 4 _ rfl;have A5:=K4.h.a.cell 5 _ rfl;have o8:=K4.h.o.cell 8 _ rfl;obtain⟨d0,d1,d2,d3,d4,d5⟩:=HD4.out.cells6;simp only [List.getElem_toArray,List.getElem_cons_zero,List.getElem_cons_succ] at c0 c1 o8 A0 A1 A2 A3 A4 A5;clear hu K4 HRE HLU HDD
    go_upto_region 47 with fail
    have mixed:Tryd.prog.follows Departure.mixedOrders=true:=by kernel_rfl
    have DD:Hid (∀v,Below wc.heap.size wc v->v.cell? ⟨w.heap.size+1,8,none⟩=some (.string key)/\v.cell? ⟨w2.heap.size,0,none⟩=some (.int .i64 k8)/\v.cell? ⟨w2.heap.size,1,none⟩=some (.int .i64 n8)/\v.cell? ⟨w2.heap.size,2,none⟩=some (.int .u64 (b8:Int))/\v.cell? ⟨w2.heap.size,3,none⟩=some (.string s8)/\v.cell? ⟨w2.heap.size,4,none⟩=some (.slice pL8 nL8 cL8)/\v.cell? ⟨w2.heap.size,5,none⟩=some (.slice pE8 nE8 cE8)):=ja fun v hv=>by
     have g8:=((H4c.out.below hv).h.o).cell 8 _ rfl;obtain⟨f0,f1,f2,f3,f4,f5⟩:=(HD4.out.below hv).cells6;exact⟨g8,f0,f1,f2,f3,f4,f5⟩
    have DE:Hid (∀v c,Below wc.heap.size wc v->(v.setCell ⟨w.heap.size,5,none⟩ c).cell? ⟨w.heap.size+1,8,none⟩=some (.string key)/\(v.setCell ⟨w.heap.size,5,none⟩ c).cell? ⟨w2.heap.size,0,none⟩=some (.int .i64 k8)/\(v.setCell ⟨w.heap.size,5,none⟩ c).cell? ⟨w2.heap.size,1,none⟩=some (.int .i64 n8)/\(v.setCell ⟨w.heap.size,5,none⟩ c).cell? ⟨w2.heap.size,2,none⟩=some (.int .u64 (b8:Int))/\(v.setCell ⟨w.heap.size,5,none⟩ c).cell? ⟨w2.heap.size,3,none⟩=some (.string s8)/\(v.setCell ⟨w.heap.size,5,none⟩ c).cell? ⟨w2.heap.size,4,none⟩=some (.slice pL8 nL8 cL8)/\(v.setCell ⟨w.heap.size,5,none⟩ c).cell? ⟨w2.heap.size,5,none⟩=some (.slice pE8 nE8 cE8)):=ja fun v c hv=>by
     have g8:=((H4c.out.below hv).h.o.set_other ⟨w.heap.size,5,none⟩ c (by simp)).cell 8 _ rfl;obtain⟨f0,f1,f2,f3,f4,f5⟩:=(valus.Blk.set_other (HD4.out.below hv) ⟨w.heap.size,5,none⟩ c (by simp;omega)).cells6;exact⟨g8,f0,f1,f2,f3,f4,f5⟩
    go_cut [13] from 184 to 193 (fun s13 wx=>s13=.int .i64 0/\∃(p6:Option Addr) (c6:Nat) (v6:World),(v6.setCell ⟨w.heap.size,5,none⟩ (.slice p6 M.length c6))=wx/\Hid (M.length<=c6/\c6<=maxLen/\JO (At ok (w.heap.size+3) v6) F v6 p6 M/\Below wc.heap.size wc v6))
    case first=>
     go_region_with (first
      | (go_at_call 62;refine(KW1.out _ (by first | exact _root_.Go.below_drewN (Below.refl _ wc) 1 | exact Below.refl _ wc)).mono ?_;rintro e v5 ⟨p5,c5,rfl,hh⟩;have HH5:=ja hh.out;obtain⟨g8,f0,f1,f2,f3,f4,f5⟩:=DD.out _ hh.out.2.2.2;clear hh)
      | (go_at_call 61;refine(KW2.out _ _ _ HH5.out.2.2.2 HH5.out.1 HH5.out.2.1 HH5.out.2.2.1).mono ?_;rintro e v6 ⟨p6,c6,rfl,hh⟩;have HH6:=ja hh.out;have zA5:=((H4c.out.below hh.out.2.2.2).h.a).froz 5;have yA5:=((H4c.out.below hh.out.2.2.2).h.a).cell 5 _ rfl;obtain⟨G8,G0,G1,G2,G3,G4,G5⟩:=DD.out _ hh.out.2.2.2;obtain⟨Q8,Q0,Q1,Q2,Q3,Q4,Q5⟩:=DE.out _ (.slice p6 M.length c6) hh.out.2.2.2;clear hh))
     all_goals
      go_wp2_with fail
      go_meet
      exact⟨rfl,_,_,_,rfl,HH6⟩
    case rest=>
    obtain⟨rfl,p5,c5,w5,rfl,HH6⟩:=hcut;have hi1:=HH6.out.1;have hi2:=HH6.out.2.1;have HRW:=ja HH6.out.2.2.1;have HL5:=ja (Jo (Jo HL3.out (M:=w.heap.size+3) (by omega) HBX.out) (Nat.le_refl _) HH6.out.2.2.2);have H4d:=H4c;have H4c:=ja (H4d.out.below HH6.out.2.2.2);clear c0 c1 A0 A1 A2 A3 A4 A5 o8 d0 d1 d2 d3 d4 d5 KW1 KW2 HD4 H4d;obtain⟨W6,hW6⟩:∃W6,W6=w5.setCell ⟨w.heap.size,5,none⟩ (.slice p5 M.length c5):=⟨_,rfl⟩
    rw [<-hW6];have T6:Three w W6 #[.int .i64 k,.int .i64 n,.int .u64 (b:Int),.string s,.slice pL L.length cL,.slice p5 M.length c5] #[.int .i64 4,.slice po no co,.int .i64 vk,.int .i64 vn,.int .u64 (vb:Int),.string vs,.slice vpL vnL vcL,.slice vpE vnE vcE,.string key] qv:=by rw [hW6];exact three_set H4c.out.h 5 _
    have hlE:=lies_setE (okA:=At ok (w.heap.size+3) w5) (E':=M) (p':=p5) (c':=c5) HL5.out.up HRW.out hi1 hi2
    have hl6:LiesV (At ok (w.heap.size+3) W6) (max F F+1) W6 [.int .i64 k,.int .i64 n,.int .u64 (b:Int),.string s,.slice pL L.length cL,.slice p5 M.length c5] (mkV (k,n,b,s.data.toList) L M):=by
     rw [hW6];exact lies_past1 (B:=w.heap.size) (j:=5) hlE (fun h=>by have:=hok _ h;omega) (by omega) _
    clear hW6;have HY:=ja (jk T6.r (.int .i64 k) (.int .i64 n) (.int .u64 (b:Int)) (.string s) (.slice pL L.length cL) (.slice p5 M.length c5));have HB:=ja (jg T6.b (b:=w.heap.size+2) (by omega) (.int .i64 k) (.int .i64 n) (.int .u64 (b:Int)) (.string s) (.slice pL L.length cL) (.slice p5 M.length c5));have HV:=ja (JY (B:=w.heap.size+2) hl6 (fun h=>by have:=hok _ h;omega) (by omega) (.int .i64 k) (.int .i64 n) (.int .u64 (b:Int)) (.string s) (.slice pL L.length cL) (.slice p5 M.length c5));have a0:=T6.a.cell 0 _ rfl;have a1:=T6.a.cell 1 _ rfl;have a2:=T6.a.cell 2 _ rfl;have a3:=T6.a.cell 3 _ rfl;have a4:=T6.a.cell 4 _ rfl;have a5:=T6.a.cell 5 _ rfl;have r0:=T6.r.cell 0 _ rfl;have r1:=T6.r.cell 1 _ rfl;have r2:=T6.r.cell 2 _ rfl;have r3:=T6.r.cell 3 _ rfl;have r4:=T6.r.cell 4 _ rfl;have r5:=T6.r.cell 5 _ rfl;have f0:=T6.r.froz 0;have f1:=T6.r.froz 1
    have f2:=T6.r.froz 2;have f3:=T6.r.froz 3;have f4:=T6.r.froz 4;have f5:=T6.r.froz 5;simp only [List.getElem_toArray,List.getElem_cons_zero,List.getElem_cons_succ] at a0 a1 a2 a3 a4 a5 r0 r1 r2 r3 r4 r5
    go_wp2_with fail
    obtain⟨Y,hYe⟩:∃Y,Y=jp W6 (w.heap.size+2) (.int .i64 k) (.int .i64 n) (.int .u64 (b:Int)) (.string s) (.slice pL L.length cL) (.slice p5 M.length c5):=⟨_,rfl⟩
    rw [<-hYe] at HY HB HV;simp only [jp] at hYe;rw [<-hYe];clear hYe;refine bodyPost_ret (results_updated _ HY.out) rfl ?_
    rw [HU2.out];exact jbz.mk (r:=(0,mkV (k,n,b,s.data.toList) L M)) HB.out (Jo HV.out (by omega) (Below.refl _ _))
  ·have hU3:Xs 4 y key.data.toList t [x]=(10,t):=by rw [hU2];unfold JH;rw [if_neg hx]
   have hxb:(x.2 != -1)=true:=bne_iff_ne.2 hx;have HU2:=ja hU3;clear hU3 hU2 hz hlu hU hl0 hy0 HR k3 dD b03 b23 A0 A1 A2 A3 A4 A5;have HY:=ja (jk T6.r (.int .i64 k) (.int .i64 n) (.int .u64 (b:Int)) (.string s) (.slice pL nL cL) (.slice pE nE cE));have HB:=ja (jg T6.b (b:=w.heap.size+2) (by omega) (.int .i64 k) (.int .i64 n) (.int .u64 (b:Int)) (.string s) (.slice pL nL cL) (.slice pE nE cE));have HV:=ja (JY (B:=w.heap.size+2) hl6 (fun h=>by have:=hok _ h;omega) (by omega) (.int .i64 k) (.int .i64 n) (.int .u64 (b:Int)) (.string s) (.slice pL nL cL) (.slice pE nE cE));have a0:=T6.a.cell 0 _ rfl;have a1:=T6.a.cell 1 _ rfl;have a2:=T6.a.cell 2 _ rfl;have a3:=T6.a.cell 3 _ rfl;have a4:=T6.a.cell 4 _ rfl;have a5:=T6.a.cell 5 _ rfl;have r0:=T6.r.cell 0 _ rfl;have r1:=T6.r.cell 1 _ rfl;have r2:=T6.r.cell 2 _ rfl;have r3:=T6.r.cell 3 _ rfl
   have r4:=T6.r.cell 4 _ rfl;have r5:=T6.r.cell 5 _ rfl;have f0:=T6.r.froz 0;have f1:=T6.r.froz 1;have f2:=T6.r.froz 2;have f3:=T6.r.froz 3;have f4:=T6.r.froz 4;have f5:=T6.r.froz 5;simp only [List.getElem_toArray,List.getElem_cons_zero,List.getElem_cons_succ] at a0 a1 a2 a3 a4 a5 r0 r1 r2 r3 r4 r5
   go_wp2_with fail
   obtain⟨Y,hYe⟩:∃Y,Y=jp W3 (w.heap.size+2) (.int .i64 k) (.int .i64 n) (.int .u64 (b:Int)) (.string s) (.slice pL nL cL) (.slice pE nE cE):=⟨_,rfl⟩
   rw [<-hYe] at HY HB HV;simp only [jp] at hYe;rw [<-hYe];clear hYe;refine bodyPost_ret (results_updated _ HY.out) rfl ?_
   rw [HU2.out];exact jbz.mk (r:=(10,t)) HB.out (Jo HV.out (by omega) (Below.refl _ _))
 ·have hU3:Xs 4 y key.data.toList t [x]=(er,t):=by rw [hU];unfold jaG;rw [if_neg (by decide),hz]
  have hneb:(er != 0)=true:=bne_iff_ne.2 hne;have HU2:=ja hU3;clear hU3 hz hne hU hl0 hy0 HR k3 dD b03 b23 A0 A1 A2 A3 A4 A5;have HY:=ja (jk T6.r (.int .i64 k) (.int .i64 n) (.int .u64 (b:Int)) (.string s) (.slice pL nL cL) (.slice pE nE cE));have HB:=ja (jg T6.b (b:=w.heap.size+2) (by omega) (.int .i64 k) (.int .i64 n) (.int .u64 (b:Int)) (.string s) (.slice pL nL cL) (.slice pE nE cE));have HV:=ja (JY (B:=w.heap.size+2) hl6 (fun h=>by have:=hok _ h;omega) (by omega) (.int .i64 k) (.int .i64 n) (.int .u64 (b:Int)) (.string s) (.slice pL nL cL) (.slice pE nE cE));have a0:=T6.a.cell 0 _ rfl;have a1:=T6.a.cell 1 _ rfl;have a2:=T6.a.cell 2 _ rfl;have a3:=T6.a.cell 3 _ rfl;have a4:=T6.a.cell 4 _ rfl;have a5:=T6.a.cell 5 _ rfl;have r0:=T6.r.cell 0 _ rfl;have r1:=T6.r.cell 1 _ rfl;have r2:=T6.r.cell 2 _ rfl;have r3:=T6.r.cell 3 _ rfl;have r4:=T6.r.cell 4 _ rfl
  have r5:=T6.r.cell 5 _ rfl;have f0:=T6.r.froz 0;have f1:=T6.r.froz 1;have f2:=T6.r.froz 2;have f3:=T6.r.froz 3;have f4:=T6.r.froz 4;have f5:=T6.r.froz 5;simp only [List.getElem_toArray,List.getElem_cons_zero,List.getElem_cons_succ] at a0 a1 a2 a3 a4 a5 r0 r1 r2 r3 r4 r5
  go_wp2_with fail
  obtain⟨Y,hYe⟩:∃Y,Y=jp W3 (w.heap.size+2) (.int .i64 k) (.int .i64 n) (.int .u64 (b:Int)) (.string s) (.slice pL nL cL) (.slice pE nE cE):=⟨_,rfl⟩
  rw [<-hYe] at HY HB HV;simp only [jp] at hYe;rw [<-hYe];clear hYe;refine bodyPost_ret (results_updated _ HY.out) rfl ?_
  rw [HU2.out];exact jbz.mk (r:=(er,t)) HB.out (Jo HV.out (by omega) (Below.refl _ _))
end upds
end Go.Proofs.YtadaehaemmelfaaDoor
