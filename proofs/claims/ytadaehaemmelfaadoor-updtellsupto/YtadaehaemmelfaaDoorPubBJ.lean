/- Of our texts, what this claim reaches. -/
import Derived.Test.YtadaehaemmelfaaDoorPubCA
import Derived.Test.YtadaehaemmelfaaDoorPubAS
set_option linter.unusedVariables false
set_option maxHeartbeats 8000000
set_option maxRecDepth 100000
namespace Go.Proofs.YtadaehaemmelfaaDoor
namespace paths
open Go.RowKit
open utfs (ja jc)
open valus (V opn jE ent mkV idx parts jo jd LiesV RowIn Blk jb jp jk jg)
theorem lies_putK {ok:Nat->Prop}{f B:Nat}{w:World}{us:List Value}{t:V}(h:LiesV ok f w us t)(hB:¬ok B)(v0 v1 v2 v3 v4 v5:Value):LiesV ok f (jp w B v0 v1 v2 v3 v4 v5) us t:=by
 refine h.kept (fun q h=>h) (by rw [valus.qq];exact Nat.le_refl _) (fun q hq _=>?_)
 have hne:q≠B:=by
  rintro rfl
  exact hB hq
 simp only [jp];rw [Below.heap_setCell _ _ _ _ hne,Below.heap_setCell _ _ _ _ hne,Below.heap_setCell _ _ _ _ hne,Below.heap_setCell _ _ _ _ hne,Below.heap_setCell _ _ _ _ hne,Below.heap_setCell _ _ _ _ hne]
abbrev PartKW (ok:Nat->Prop) (M:Nat) (x:V⊕Int) (w:World) (e:Ending) (w':World):Prop :=
 ((∃(y:V) (f:Nat) (x0 x1 x2 x3 x4 x5:Value),x=.inl y/\e=.returned (.tuple #[.agg #[x0,x1,x2,x3,x4,x5],.int .i64 0])/\LiesV ok f w' [x0,x1,x2,x3,x4,x5] y/\jd f y<=M)\/∃er,x=.inr er/\er≠0/\e=.returned (.tuple #[.agg #[.int .i64 0,.int .i64 0,.int .u64 0,.string ⟨#[]⟩,.slice none 0 0,.slice none 0 0],.int .i64 er]))/\Below w.heap.size w w'
theorem partK_any (ok:Nat->Prop)(M:Nat)(w:World)(hok:∀q,ok q->q<w.heap.size)(f:Nat)(t:V)(a0 a1 a2 a3 a4 a5:Value)(hl:LiesV ok f w [a0,a1,a2,a3,a4,a5] t)(hn:jd f t<=M)(key:ByteArray)(i:Int)(hi : -1<=i) :
  Calls Tryd.prog 35 #[.agg #[a0,a1,a2,a3,a4,a5],.agg #[.string key,.int .i64 i]] w (PartKW ok M (jf t (key.data.toList,i)) w):=by
 cases f with
 | zero=>exact hl.elim
 | succ f=>
  obtain⟨k,n,b,s,L,E,pL,pE,cL,cE,rfl,hx,⟨h3,_⟩,⟨hL1,hL2,hE1,hE2⟩,rL,rE⟩:=hl;simp only [List.cons.injEq,and_true] at hx;obtain⟨rfl,rfl,rfl,rfl,rfl,rfl⟩:=hx;obtain⟨W0,hW0⟩:∃W0,W0=(((w.alloc (.cells #[.int .i64 k,.int .i64 n,.int .u64 (b:Int),.string s,.slice pL L.length cL,.slice pE E.length cE] 26)).alloc (.cells #[.string key,.int .i64 i] 60)).alloc (.cells #[.int .i64 0,.int .i64 0,.int .u64 0,.string ⟨#[]⟩,.slice none 0 0,.slice none 0 0] 26)).alloc (.cells #[.int .i64 0,.int .i64 0,.int .u64 0,.string ⟨#[]⟩,.slice none 0 0,.slice none 0 0] 26):=⟨_,rfl⟩
  have bA:Below w.heap.size w (w.alloc (.cells #[.int .i64 k,.int .i64 n,.int .u64 (b:Int),.string s,.slice pL L.length cL,.slice pE E.length cE] 26)):=(Below.refl _ w).alloc (Nat.le_refl _) _;have bB:Below w.heap.size w ((w.alloc (.cells #[.int .i64 k,.int .i64 n,.int .u64 (b:Int),.string s,.slice pL L.length cL,.slice pE E.length cE] 26)).alloc (.cells #[.string key,.int .i64 i] 60)):=bA.alloc bA.size _;have bC:Below w.heap.size w (((w.alloc (.cells #[.int .i64 k,.int .i64 n,.int .u64 (b:Int),.string s,.slice pL L.length cL,.slice pE E.length cE] 26)).alloc (.cells #[.string key,.int .i64 i] 60)).alloc (.cells #[.int .i64 0,.int .i64 0,.int .u64 0,.string ⟨#[]⟩,.slice none 0 0,.slice none 0 0] 26)):=bB.alloc bB.size _;have b0:Below w.heap.size w W0:=by rw [hW0];exact bC.alloc bC.size _
  have s0:W0.heap.size=w.heap.size+4:=by rw [hW0];simp
  have k0:Blk W0 w.heap.size #[.int .i64 k,.int .i64 n,.int .u64 (b:Int),.string s,.slice pL L.length cL,.slice pE E.length cE] 26:=by rw [hW0];exact(((jb w _ _).alloc _).alloc _).alloc _
  have k1:Blk W0 (w.heap.size+1) #[.string key,.int .i64 i] 60:=by
   rw [hW0];have h:=jb (w.alloc (.cells #[.int .i64 k,.int .i64 n,.int .u64 (b:Int),.string s,.slice pL L.length cL,.slice pE E.length cE] 26)) #[.string key,.int .i64 i] 60;rw [World.size_alloc] at h;exact(h.alloc _).alloc _
  have k2:Blk W0 (w.heap.size+2) #[.int .i64 0,.int .i64 0,.int .u64 0,.string ⟨#[]⟩,.slice none 0 0,.slice none 0 0] 26:=by
   rw [hW0];have h:=jb ((w.alloc (.cells #[.int .i64 k,.int .i64 n,.int .u64 (b:Int),.string s,.slice pL L.length cL,.slice pE E.length cE] 26)).alloc (.cells #[.string key,.int .i64 i] 60)) #[.int .i64 0,.int .i64 0,.int .u64 0,.string ⟨#[]⟩,.slice none 0 0,.slice none 0 0] 26;rw [World.size_alloc,World.size_alloc] at h;exact h.alloc _
  have k3:Blk W0 (w.heap.size+3) #[.int .i64 0,.int .i64 0,.int .u64 0,.string ⟨#[]⟩,.slice none 0 0,.slice none 0 0] 26:=by
   rw [hW0];have h:=jb (((w.alloc (.cells #[.int .i64 k,.int .i64 n,.int .u64 (b:Int),.string s,.slice pL L.length cL,.slice pE E.length cE] 26)).alloc (.cells #[.string key,.int .i64 i] 60)).alloc (.cells #[.int .i64 0,.int .i64 0,.int .u64 0,.string ⟨#[]⟩,.slice none 0 0,.slice none 0 0] 26)) #[.int .i64 0,.int .i64 0,.int .u64 0,.string ⟨#[]⟩,.slice none 0 0,.slice none 0 0] 26;rw [World.size_alloc,World.size_alloc,World.size_alloc] at h;exact h
  have rL0:RowIn ok W0 pL 6 L.length (fun j us=>∃y,L[j]?=some y/\LiesV ok f W0 us y):=rL.kept (fun _ h=>h) b0.size (fun q h _=>b0.block q (by have:=hok q h;omega)) (fun j us _ ⟨y,h1,h2⟩=>⟨y,h1,h2.kept (fun _ h=>h) b0.size (fun q h _=>b0.block q (by have:=hok q h;omega))⟩);have rE0:valus.JO ok f W0 pE E:=rE.kept (fun _ h=>h) b0.size (fun q h _=>b0.block q (by have:=hok q h;omega)) (fun j us _ ⟨kk,y,xs,h1,h2,h3,h4⟩=>⟨kk,y,xs,h1,h2,h3,h4.kept (fun _ h=>h) b0.size (fun q h _=>b0.block q (by have:=hok q h;omega))⟩);have HB0:=ja b0;clear bA bB bC rL rE b0
  by_cases e:i = -1
  ·subst e
   have hpv:jf (mkV (k,n,b,s.data.toList) L E) (key.data.toList,-1)=if k≠6 then .inr 10 else if idx (fun q=>decide (q=key.data.toList)) 0 E<0 then .inr 8 else .inl (jE (E.getD (idx (fun q=>decide (q=key.data.toList)) 0 E).toNat .nil)).2:=by
    unfold jf;rw [if_pos rfl];rfl
   by_cases hk:k=6
   ·subst hk
    rw [if_neg (by simp)] at hpv;have KE:=ja (valus.Xq ok f W0 E pE cE key rE0 hE1 hE2);have hix:=ZQ (fun q=>decide (q=key.data.toList)) E 0;generalize idx (fun q=>decide (q=key.data.toList)) 0 E=ix at *;have K0:=ja k0;have K1:=ja k1;have K3:=ja k3
    by_cases hi2:ix<0
    ·rw [if_pos hi2] at hpv
     have HPV:=ja hpv;have HK:=ja (And.intro k0 (And.intro k1 (And.intro k2 k3)));clear hpv rL0 rE0 hn hix k0 k1 k2 k3
     go_enter Tryd.func35,Tryd.ntmps35
     go_upto_region 2 with fail
     rw [<-hW0];clear hW0;have p0:=K0.out.cell 0 _ rfl;have p1:=K0.out.cell 1 _ rfl;have p2:=K0.out.cell 2 _ rfl;have p3:=K0.out.cell 3 _ rfl;have p4:=K0.out.cell 4 _ rfl;have p5:=K0.out.cell 5 _ rfl;have q0:=K1.out.cell 0 _ rfl;have q1:=K1.out.cell 1 _ rfl;have r0:=K3.out.cell 0 _ rfl;have r1:=K3.out.cell 1 _ rfl;have r2:=K3.out.cell 2 _ rfl;have r3:=K3.out.cell 3 _ rfl;have r4:=K3.out.cell 4 _ rfl;have r5:=K3.out.cell 5 _ rfl;simp only [List.getElem_toArray,List.getElem_cons_zero,List.getElem_cons_succ] at p0 p1 p2 p3 p4 p5 q0 q1 r0 r1 r2 r3 r4 r5;clear K0 K1 K3
     go_wp2_with fail
     refine(jc KE).mono ?_
     rintro _ w1 ⟨rfl,b1⟩
     have K0:=ja (HK.out.1.below b1);have K1:=ja (HK.out.2.1.below b1);have K2:=ja (HK.out.2.2.1.below b1);have K3:=ja (HK.out.2.2.2.below b1);have HB:=ja (HB0.out.trans (b1.mono (by omega)));clear KE b1 HK HB0 p0 p1 p2 p3 p4 p5 q0 q1 r0 r1 r2 r3 r4 r5;have p0:=K0.out.cell 0 _ rfl;have p1:=K0.out.cell 1 _ rfl;have p2:=K0.out.cell 2 _ rfl;have p3:=K0.out.cell 3 _ rfl;have p4:=K0.out.cell 4 _ rfl;have p5:=K0.out.cell 5 _ rfl;have q0:=K1.out.cell 0 _ rfl;have q1:=K1.out.cell 1 _ rfl;have r0:=K3.out.cell 0 _ rfl;have r1:=K3.out.cell 1 _ rfl;have r2:=K3.out.cell 2 _ rfl;have r3:=K3.out.cell 3 _ rfl;have r4:=K3.out.cell 4 _ rfl;have r5:=K3.out.cell 5 _ rfl;simp only [List.getElem_toArray,List.getElem_cons_zero,List.getElem_cons_succ] at p0 p1 p2 p3 p4 p5 q0 q1 r0 r1 r2 r3 r4 r5;have x0:=K2.out.cell 0 _ rfl;have x1:=K2.out.cell 1 _ rfl;have x2:=K2.out.cell 2 _ rfl
     have x3:=K2.out.cell 3 _ rfl;have x4:=K2.out.cell 4 _ rfl;have x5:=K2.out.cell 5 _ rfl;simp only [List.getElem_toArray,List.getElem_cons_zero,List.getElem_cons_succ] at x0 x1 x2 x3 x4 x5;have z0:=Blk.froz K2.out 0;have z1:=Blk.froz K2.out 1;have z2:=Blk.froz K2.out 2;have z3:=Blk.froz K2.out 3;have z4:=Blk.froz K2.out 4;have z5:=Blk.froz K2.out 5;have HY:=ja (jk K2.out (.int .i64 0) (.int .i64 0) (.int .u64 0) (.string ⟨#[]⟩) (.slice none 0 0) (.slice none 0 0));have HF:=ja (jg HB.out (b:=w.heap.size+2) (by omega) (.int .i64 0) (.int .i64 0) (.int .u64 0) (.string ⟨#[]⟩) (.slice none 0 0) (.slice none 0 0));go_wp2;obtain⟨Y,hYe⟩:∃Y,Y=jp w1 (w.heap.size+2) (.int .i64 0) (.int .i64 0) (.int .u64 0) (.string ⟨#[]⟩) (.slice none 0 0) (.slice none 0 0):=⟨_,rfl⟩
     rw [<-hYe] at HY HF;simp only [jp] at hYe;rw [<-hYe];clear hYe x0 x1 x2 x3 x4 x5 z0 z1 z2 z3 z4 z5 p0 p1 p2 p3 p4 p5 q0 q1 r0 r1 r2 r3 r4 r5;refine bodyPost_ret (jX _ HY.out) rfl ?_
     exact⟨.inr ⟨8,HPV.out,by omega,rfl⟩,HF.out⟩
    ·rw [if_neg hi2] at hpv
     obtain⟨j,rfl⟩:∃j:Nat,ix=j:=⟨ix.toNat,by omega⟩
     have hj:j<E.length:=by omega
     obtain⟨B2,o2,rfl,ok2,hB2,y0,y1,y2,y3,y4,y5,y6,⟨kk,y,xs,hy,hus,hks,hly⟩,d00,d0,d1,d2,d3,d4,d5⟩:=rE0.seven hj;injection hus with hu0 hu1;subst hu1;have hget:(jE (E.getD (j:Int).toNat .nil)).2=y:=by rw [Int.toNat_natCast,List.getD_eq_getElem?_getD,hy];rfl
     rw [hget] at hpv
     have hmem:y∈parts (mkV (6,n,b,s.data.toList) L E):=by
      rw [valus.jB];exact List.mem_append_right _ (List.mem_map.2 ⟨_,List.mem_of_getElem? hy,rfl⟩)
     have hle:jd f y<=M:=by
      have h1:jd (f+1) (mkV (6,n,b,s.data.toList) L E)=jo (jd f) (parts (mkV (6,n,b,s.data.toList) L E))+1:=rfl;have h2:=valus.zI (q:=jd f) hmem;omega
     obtain⟨gk,gn,gb,gs,gpL,gnL,gcL,gpE,gnE,gcE,rfl,rfl,rfl,rfl,rfl,rfl⟩:=hly.form;have HPV:=ja hpv;have HLE:=ja hle;have HK:=ja (And.intro k0 (And.intro k1 (And.intro k2 k3)));have HD:=ja (And.intro d0 (And.intro d1 (And.intro d2 (And.intro d3 (And.intro d4 d5)))));have HLY0:=ja hly;have i1:(j:Int)<(E.length:Int):=by omega
     have i2:(0:Int)<=(j:Int):=by omega
     have hB3:B2<w.heap.size+4:=by have:=hok _ ok2;omega
     clear hpv rL0 rE0 hn hix k0 k1 k2 k3 hget hmem hle hy hly d0 d1 d2 d3 d4 d5 d00 ok2 hu0
     go_enter Tryd.func35,Tryd.ntmps35
     go_upto_region 2 with fail
     rw [<-hW0];clear hW0;have p0:=K0.out.cell 0 _ rfl;have p1:=K0.out.cell 1 _ rfl;have p2:=K0.out.cell 2 _ rfl;have p3:=K0.out.cell 3 _ rfl;have p4:=K0.out.cell 4 _ rfl;have p5:=K0.out.cell 5 _ rfl;have q0:=K1.out.cell 0 _ rfl;have q1:=K1.out.cell 1 _ rfl;have r0:=K3.out.cell 0 _ rfl;have r1:=K3.out.cell 1 _ rfl;have r2:=K3.out.cell 2 _ rfl;have r3:=K3.out.cell 3 _ rfl;have r4:=K3.out.cell 4 _ rfl;have r5:=K3.out.cell 5 _ rfl;simp only [List.getElem_toArray,List.getElem_cons_zero,List.getElem_cons_succ] at p0 p1 p2 p3 p4 p5 q0 q1 r0 r1 r2 r3 r4 r5;clear K0 K1 K3
     go_wp2_with fail
     refine(jc KE).mono ?_
     rintro _ w1 ⟨rfl,b1⟩
     have K0:=ja (HK.out.1.below b1);have K1:=ja (HK.out.2.1.below b1);have K2:=ja (HK.out.2.2.1.below b1);have K3:=ja (HK.out.2.2.2.below b1);obtain⟨d0,d1,d2,d3,d4,d5⟩:=HD.out;replace d0:=(b1.cell (p:=⟨B2,o2+j*7+1,none⟩) (show B2<W0.heap.size by omega)).trans d0;replace d1:=(b1.cell (p:=⟨B2,o2+j*7+2,none⟩) (show B2<W0.heap.size by omega)).trans d1;replace d2:=(b1.cell (p:=⟨B2,o2+j*7+3,none⟩) (show B2<W0.heap.size by omega)).trans d2;replace d3:=(b1.cell (p:=⟨B2,o2+j*7+4,none⟩) (show B2<W0.heap.size by omega)).trans d3;replace d4:=(b1.cell (p:=⟨B2,o2+j*7+5,none⟩) (show B2<W0.heap.size by omega)).trans d4;replace d5:=(b1.cell (p:=⟨B2,o2+j*7+6,none⟩) (show B2<W0.heap.size by omega)).trans d5;have HLY:=ja (HLY0.out.kept (fun _ h=>h) b1.size (fun q hq hq2=>b1.block q hq2));have HB:=ja (HB0.out.trans (b1.mono (by omega)))
     clear KE b1 HK HD HLY0 HB0 p0 p1 p2 p3 p4 p5 q0 q1 r0 r1 r2 r3 r4 r5;have p0:=K0.out.cell 0 _ rfl;have p1:=K0.out.cell 1 _ rfl;have p2:=K0.out.cell 2 _ rfl;have p3:=K0.out.cell 3 _ rfl;have p4:=K0.out.cell 4 _ rfl;have p5:=K0.out.cell 5 _ rfl;have q0:=K1.out.cell 0 _ rfl;have q1:=K1.out.cell 1 _ rfl;have r0:=K3.out.cell 0 _ rfl;have r1:=K3.out.cell 1 _ rfl;have r2:=K3.out.cell 2 _ rfl;have r3:=K3.out.cell 3 _ rfl;have r4:=K3.out.cell 4 _ rfl;have r5:=K3.out.cell 5 _ rfl;simp only [List.getElem_toArray,List.getElem_cons_zero,List.getElem_cons_succ] at p0 p1 p2 p3 p4 p5 q0 q1 r0 r1 r2 r3 r4 r5;have x0:=K2.out.cell 0 _ rfl;have x1:=K2.out.cell 1 _ rfl;have x2:=K2.out.cell 2 _ rfl;have x3:=K2.out.cell 3 _ rfl;have x4:=K2.out.cell 4 _ rfl;have x5:=K2.out.cell 5 _ rfl;simp only [List.getElem_toArray,List.getElem_cons_zero,List.getElem_cons_succ] at x0 x1 x2 x3 x4 x5
     have z0:=Blk.froz K2.out 0;have z1:=Blk.froz K2.out 1;have z2:=Blk.froz K2.out 2;have z3:=Blk.froz K2.out 3;have z4:=Blk.froz K2.out 4;have z5:=Blk.froz K2.out 5;have HY:=ja (jk K2.out (.int .i64 gk) (.int .i64 gn) (.int .u64 (gb:Int)) (.string gs) (.slice gpL gnL gcL) (.slice gpE gnE gcE));have HF:=ja (jg HB.out (b:=w.heap.size+2) (by omega) (.int .i64 gk) (.int .i64 gn) (.int .u64 (gb:Int)) (.string gs) (.slice gpL gnL gcL) (.slice gpE gnE gcE));have HLV:=ja (lies_putK HLY.out (B:=w.heap.size+2) (fun h=>by have:=hok _ h;omega) (.int .i64 gk) (.int .i64 gn) (.int .u64 (gb:Int)) (.string gs) (.slice gpL gnL gcL) (.slice gpE gnE gcE));go_wp2;obtain⟨Y,hYe⟩:∃Y,Y=jp w1 (w.heap.size+2) (.int .i64 gk) (.int .i64 gn) (.int .u64 (gb:Int)) (.string gs) (.slice gpL gnL gcL) (.slice gpE gnE gcE):=⟨_,rfl⟩
     rw [<-hYe] at HY HF HLV;simp only [jp] at hYe;rw [<-hYe];clear hYe x0 x1 x2 x3 x4 x5 z0 z1 z2 z3 z4 z5 p0 p1 p2 p3 p4 p5 q0 q1 r0 r1 r2 r3 r4 r5 d0 d1 d2 d3 d4 d5;refine bodyPost_ret (jX _ HY.out) rfl ?_
     exact⟨.inl ⟨y,f,_,_,_,_,_,_,HPV.out,rfl,HLV.out,HLE.out⟩,HF.out⟩
   ·rw [if_pos hk] at hpv
    have HPV:=ja hpv;have hk':(k != 6)=true:=bne_iff_ne.2 hk;have K0:=ja k0;have K1:=ja k1;have K2:=ja k2;have K3:=ja k3;have HB:=HB0;clear hpv rL0 rE0 hn k0 k1 k2 k3
    go_enter Tryd.func35,Tryd.ntmps35
    go_upto_region 2 with fail
    rw [<-hW0];clear hW0;have p0:=K0.out.cell 0 _ rfl;have p1:=K0.out.cell 1 _ rfl;have p2:=K0.out.cell 2 _ rfl;have p3:=K0.out.cell 3 _ rfl;have p4:=K0.out.cell 4 _ rfl;have p5:=K0.out.cell 5 _ rfl;have q0:=K1.out.cell 0 _ rfl;have q1:=K1.out.cell 1 _ rfl;have r0:=K3.out.cell 0 _ rfl;have r1:=K3.out.cell 1 _ rfl;have r2:=K3.out.cell 2 _ rfl;have r3:=K3.out.cell 3 _ rfl;have r4:=K3.out.cell 4 _ rfl;have r5:=K3.out.cell 5 _ rfl;simp only [List.getElem_toArray,List.getElem_cons_zero,List.getElem_cons_succ] at p0 p1 p2 p3 p4 p5 q0 q1 r0 r1 r2 r3 r4 r5;have x0:=K2.out.cell 0 _ rfl;have x1:=K2.out.cell 1 _ rfl;have x2:=K2.out.cell 2 _ rfl;have x3:=K2.out.cell 3 _ rfl;have x4:=K2.out.cell 4 _ rfl;have x5:=K2.out.cell 5 _ rfl;simp only [List.getElem_toArray,List.getElem_cons_zero,List.getElem_cons_succ] at x0 x1 x2 x3 x4 x5;have z0:=Blk.froz K2.out 0;have z1:=Blk.froz K2.out 1
    have z2:=Blk.froz K2.out 2;have z3:=Blk.froz K2.out 3;have z4:=Blk.froz K2.out 4;have z5:=Blk.froz K2.out 5;have HY:=ja (jk K2.out (.int .i64 0) (.int .i64 0) (.int .u64 0) (.string ⟨#[]⟩) (.slice none 0 0) (.slice none 0 0));have HF:=ja (jg HB.out (b:=w.heap.size+2) (by omega) (.int .i64 0) (.int .i64 0) (.int .u64 0) (.string ⟨#[]⟩) (.slice none 0 0) (.slice none 0 0));go_wp2;obtain⟨Y,hYe⟩:∃Y,Y=jp W0 (w.heap.size+2) (.int .i64 0) (.int .i64 0) (.int .u64 0) (.string ⟨#[]⟩) (.slice none 0 0) (.slice none 0 0):=⟨_,rfl⟩
    rw [<-hYe] at HY HF;simp only [jp] at hYe;rw [<-hYe];clear hYe x0 x1 x2 x3 x4 x5 z0 z1 z2 z3 z4 z5 p0 p1 p2 p3 p4 p5 q0 q1 r0 r1 r2 r3 r4 r5;refine bodyPost_ret (jX _ HY.out) rfl ?_
    exact⟨.inr ⟨10,HPV.out,by omega,rfl⟩,HF.out⟩
  ·have hpv:jf (mkV (k,n,b,s.data.toList) L E) (key.data.toList,i)=if k≠5 then .inr 10 else if (L.length:Int)<=i then .inr 8 else .inl (L.getD i.toNat .nil):=by
    unfold jf;rw [if_neg e];rfl
   have e1:(i == -1)=false:=beq_false_of_ne e;have K0:=ja k0;have K1:=ja k1;have K2:=ja k2;have K3:=ja k3;have HB:=HB0;clear k0 k1 k2 k3
   by_cases hk:k=5
   ·subst hk
    rw [if_neg (by simp)] at hpv
    by_cases hi2:(L.length:Int)<=i
    ·rw [if_pos hi2] at hpv
     have HPV:=ja hpv;have hi3:i ≥ (L.length:Int):=hi2;clear hpv rL0 rE0 hn
     go_enter Tryd.func35,Tryd.ntmps35
     go_upto_region 2 with fail
     rw [<-hW0];clear hW0;have p0:=K0.out.cell 0 _ rfl;have p1:=K0.out.cell 1 _ rfl;have p2:=K0.out.cell 2 _ rfl;have p3:=K0.out.cell 3 _ rfl;have p4:=K0.out.cell 4 _ rfl;have p5:=K0.out.cell 5 _ rfl;have q0:=K1.out.cell 0 _ rfl;have q1:=K1.out.cell 1 _ rfl;have r0:=K3.out.cell 0 _ rfl;have r1:=K3.out.cell 1 _ rfl;have r2:=K3.out.cell 2 _ rfl;have r3:=K3.out.cell 3 _ rfl;have r4:=K3.out.cell 4 _ rfl;have r5:=K3.out.cell 5 _ rfl;simp only [List.getElem_toArray,List.getElem_cons_zero,List.getElem_cons_succ] at p0 p1 p2 p3 p4 p5 q0 q1 r0 r1 r2 r3 r4 r5;have x0:=K2.out.cell 0 _ rfl;have x1:=K2.out.cell 1 _ rfl;have x2:=K2.out.cell 2 _ rfl;have x3:=K2.out.cell 3 _ rfl;have x4:=K2.out.cell 4 _ rfl;have x5:=K2.out.cell 5 _ rfl;simp only [List.getElem_toArray,List.getElem_cons_zero,List.getElem_cons_succ] at x0 x1 x2 x3 x4 x5;have z0:=Blk.froz K2.out 0;have z1:=Blk.froz K2.out 1
     have z2:=Blk.froz K2.out 2;have z3:=Blk.froz K2.out 3;have z4:=Blk.froz K2.out 4;have z5:=Blk.froz K2.out 5;have HY:=ja (jk K2.out (.int .i64 0) (.int .i64 0) (.int .u64 0) (.string ⟨#[]⟩) (.slice none 0 0) (.slice none 0 0));have HF:=ja (jg HB.out (b:=w.heap.size+2) (by omega) (.int .i64 0) (.int .i64 0) (.int .u64 0) (.string ⟨#[]⟩) (.slice none 0 0) (.slice none 0 0));go_wp2;obtain⟨Y,hYe⟩:∃Y,Y=jp W0 (w.heap.size+2) (.int .i64 0) (.int .i64 0) (.int .u64 0) (.string ⟨#[]⟩) (.slice none 0 0) (.slice none 0 0):=⟨_,rfl⟩
     rw [<-hYe] at HY HF;simp only [jp] at hYe;rw [<-hYe];clear hYe x0 x1 x2 x3 x4 x5 z0 z1 z2 z3 z4 z5 p0 p1 p2 p3 p4 p5 q0 q1 r0 r1 r2 r3 r4 r5;refine bodyPost_ret (jX _ HY.out) rfl ?_
     exact⟨.inr ⟨8,HPV.out,by omega,rfl⟩,HF.out⟩
    ·rw [if_neg hi2] at hpv
     obtain⟨j,rfl⟩:∃j:Nat,i=j:=⟨i.toNat,by omega⟩
     have hj:j<L.length:=by omega
     obtain⟨B2,o2,rfl,ok2,hB2,y0,y1,y2,y3,y4,y5,⟨y,hy,hly⟩,d0,d1,d2,d3,d4,d5⟩:=rL0.six hj;have hget:L.getD (j:Int).toNat .nil=y:=by rw [Int.toNat_natCast,List.getD_eq_getElem?_getD,hy];rfl
     rw [hget] at hpv;have hmem:y∈parts (mkV (5,n,b,s.data.toList) L E):=by rw [valus.jB];exact List.mem_append_left _ (List.mem_of_getElem? hy)
     have hle:jd f y<=M:=by
      have h1:jd (f+1) (mkV (5,n,b,s.data.toList) L E)=jo (jd f) (parts (mkV (5,n,b,s.data.toList) L E))+1:=rfl;have h2:=valus.zI (q:=jd f) hmem;omega
     obtain⟨gk,gn,gb,gs,gpL,gnL,gcL,gpE,gnE,gcE,rfl,rfl,rfl,rfl,rfl,rfl⟩:=hly.form;have HPV:=ja hpv;have HLE:=ja hle;have HLY:=ja hly;have i1:(j:Int)<(L.length:Int):=by omega
     have i2:(0:Int)<=(j:Int):=by omega
     clear hpv rL0 rE0 hn hget hmem hle hy hly ok2
     go_enter Tryd.func35,Tryd.ntmps35
     go_upto_region 2 with fail
     rw [<-hW0];clear hW0;have p0:=K0.out.cell 0 _ rfl;have p1:=K0.out.cell 1 _ rfl;have p2:=K0.out.cell 2 _ rfl;have p3:=K0.out.cell 3 _ rfl;have p4:=K0.out.cell 4 _ rfl;have p5:=K0.out.cell 5 _ rfl;have q0:=K1.out.cell 0 _ rfl;have q1:=K1.out.cell 1 _ rfl;have r0:=K3.out.cell 0 _ rfl;have r1:=K3.out.cell 1 _ rfl;have r2:=K3.out.cell 2 _ rfl;have r3:=K3.out.cell 3 _ rfl;have r4:=K3.out.cell 4 _ rfl;have r5:=K3.out.cell 5 _ rfl;simp only [List.getElem_toArray,List.getElem_cons_zero,List.getElem_cons_succ] at p0 p1 p2 p3 p4 p5 q0 q1 r0 r1 r2 r3 r4 r5;have x0:=K2.out.cell 0 _ rfl;have x1:=K2.out.cell 1 _ rfl;have x2:=K2.out.cell 2 _ rfl;have x3:=K2.out.cell 3 _ rfl;have x4:=K2.out.cell 4 _ rfl;have x5:=K2.out.cell 5 _ rfl;simp only [List.getElem_toArray,List.getElem_cons_zero,List.getElem_cons_succ] at x0 x1 x2 x3 x4 x5;have z0:=Blk.froz K2.out 0;have z1:=Blk.froz K2.out 1
     have z2:=Blk.froz K2.out 2;have z3:=Blk.froz K2.out 3;have z4:=Blk.froz K2.out 4;have z5:=Blk.froz K2.out 5;have HY:=ja (jk K2.out (.int .i64 gk) (.int .i64 gn) (.int .u64 (gb:Int)) (.string gs) (.slice gpL gnL gcL) (.slice gpE gnE gcE));have HF:=ja (jg HB.out (b:=w.heap.size+2) (by omega) (.int .i64 gk) (.int .i64 gn) (.int .u64 (gb:Int)) (.string gs) (.slice gpL gnL gcL) (.slice gpE gnE gcE));have HLV:=ja (lies_putK HLY.out (B:=w.heap.size+2) (fun h=>by have:=hok _ h;omega) (.int .i64 gk) (.int .i64 gn) (.int .u64 (gb:Int)) (.string gs) (.slice gpL gnL gcL) (.slice gpE gnE gcE));go_wp2;obtain⟨Y,hYe⟩:∃Y,Y=jp W0 (w.heap.size+2) (.int .i64 gk) (.int .i64 gn) (.int .u64 (gb:Int)) (.string gs) (.slice gpL gnL gcL) (.slice gpE gnE gcE):=⟨_,rfl⟩
     rw [<-hYe] at HY HF HLV;simp only [jp] at hYe;rw [<-hYe];clear hYe x0 x1 x2 x3 x4 x5 z0 z1 z2 z3 z4 z5 p0 p1 p2 p3 p4 p5 q0 q1 r0 r1 r2 r3 r4 r5 d0 d1 d2 d3 d4 d5;refine bodyPost_ret (jX _ HY.out) rfl ?_
     exact⟨.inl ⟨y,f,_,_,_,_,_,_,HPV.out,rfl,HLV.out,HLE.out⟩,HF.out⟩
   ·rw [if_pos hk] at hpv
    have HPV:=ja hpv;have hk':(k != 5)=true:=bne_iff_ne.2 hk;clear hpv rL0 rE0 hn
    go_enter Tryd.func35,Tryd.ntmps35
    go_upto_region 2 with fail
    rw [<-hW0];clear hW0;have p0:=K0.out.cell 0 _ rfl;have p1:=K0.out.cell 1 _ rfl;have p2:=K0.out.cell 2 _ rfl;have p3:=K0.out.cell 3 _ rfl;have p4:=K0.out.cell 4 _ rfl;have p5:=K0.out.cell 5 _ rfl;have q0:=K1.out.cell 0 _ rfl;have q1:=K1.out.cell 1 _ rfl;have r0:=K3.out.cell 0 _ rfl;have r1:=K3.out.cell 1 _ rfl;have r2:=K3.out.cell 2 _ rfl;have r3:=K3.out.cell 3 _ rfl;have r4:=K3.out.cell 4 _ rfl;have r5:=K3.out.cell 5 _ rfl;simp only [List.getElem_toArray,List.getElem_cons_zero,List.getElem_cons_succ] at p0 p1 p2 p3 p4 p5 q0 q1 r0 r1 r2 r3 r4 r5;have x0:=K2.out.cell 0 _ rfl;have x1:=K2.out.cell 1 _ rfl;have x2:=K2.out.cell 2 _ rfl;have x3:=K2.out.cell 3 _ rfl;have x4:=K2.out.cell 4 _ rfl;have x5:=K2.out.cell 5 _ rfl;simp only [List.getElem_toArray,List.getElem_cons_zero,List.getElem_cons_succ] at x0 x1 x2 x3 x4 x5;have z0:=Blk.froz K2.out 0;have z1:=Blk.froz K2.out 1
    have z2:=Blk.froz K2.out 2;have z3:=Blk.froz K2.out 3;have z4:=Blk.froz K2.out 4;have z5:=Blk.froz K2.out 5;have HY:=ja (jk K2.out (.int .i64 0) (.int .i64 0) (.int .u64 0) (.string ⟨#[]⟩) (.slice none 0 0) (.slice none 0 0));have HF:=ja (jg HB.out (b:=w.heap.size+2) (by omega) (.int .i64 0) (.int .i64 0) (.int .u64 0) (.string ⟨#[]⟩) (.slice none 0 0) (.slice none 0 0));go_wp2;obtain⟨Y,hYe⟩:∃Y,Y=jp W0 (w.heap.size+2) (.int .i64 0) (.int .i64 0) (.int .u64 0) (.string ⟨#[]⟩) (.slice none 0 0) (.slice none 0 0):=⟨_,rfl⟩
    rw [<-hYe] at HY HF;simp only [jp] at hYe;rw [<-hYe];clear hYe x0 x1 x2 x3 x4 x5 z0 z1 z2 z3 z4 z5 p0 p1 p2 p3 p4 p5 q0 q1 r0 r1 r2 r3 r4 r5;refine bodyPost_ret (jX _ HY.out) rfl ?_
    exact⟨.inr ⟨10,HPV.out,by omega,rfl⟩,HF.out⟩
abbrev PartTK (ok:Nat->Prop) (M:Nat) (z:V⊕Int) (w:World) (e:Ending) (w':World):Prop :=
 ∃(k n:Int) (b:Nat) (s:ByteArray) (pL:Option Addr) (nL cL:Nat) (pE:Option Addr) (nE cE:Nat) (er:Int),e=.returned (.tuple #[.agg #[.int .i64 k,.int .i64 n,.int .u64 (b:Int),.string s,.slice pL nL cL,.slice pE nE cE],.int .i64 er])/\Hid ((∃(y:V) (f:Nat),z=.inl y/\er=0/\LiesV ok f w' [.int .i64 k,.int .i64 n,.int .u64 (b:Int),.string s,.slice pL nL cL,.slice pE nE cE] y/\jd f y<=M)\/(z=.inr er/\er≠0))/\Below w.heap.size w w'
theorem part_tupleK {ok:Nat->Prop}{M:Nat}{z:V⊕Int}{w w':World}{e:Ending}(h:PartKW ok M z w e w'):PartTK ok M z w e w':=by
 obtain⟨⟨y,f,x0,x1,x2,x3,x4,x5,h1,h2,h3,h4⟩ | ⟨er,h1,h2,h3⟩,hb⟩:=h
 ·obtain⟨k,n,b,s,pL,nL,cL,pE,nE,cE,rfl,rfl,rfl,rfl,rfl,rfl⟩:=h3.form
  exact⟨k,n,b,s,pL,nL,cL,pE,nE,cE,0,h2,ja (.inl ⟨y,f,h1,rfl,h3,h4⟩),hb⟩
 ·exact⟨0,0,0,⟨#[]⟩,none,0,0,none,0,0,er,h3,ja (.inr ⟨h1,h2⟩),hb⟩
end paths
end Go.Proofs.YtadaehaemmelfaaDoor
