/- Of our texts, what this claim reaches. -/
import Derived.Test.YtadaehaemmelfaaDoorPubAR
import Derived.Test.YtadaehaemmelfaaDoorPubAS
import Derived.Deep.RegionHeld3
import Derived.BigQuiet
import Derived.Test.YtadaehaemmelfaaDoorPubAQ
set_option linter.unusedVariables false
set_option maxHeartbeats 8000000
set_option maxRecDepth 100000
namespace Go.Proofs.YtadaehaemmelfaaDoor
namespace upds
open Go.RowKit Go.Shelf
open valus
open paths (St)
theorem zL (W:World)(B o B2 n c:Nat)(key:ByteArray)(j:Nat)(h4:W.cell? ⟨B,o+4,none⟩=some (.slice (some ⟨B2,0,none⟩) n c))(hj:j<n) :
  Calls Tryd.prog 92 #[.pointer (some ⟨B,o,none⟩),.agg #[.string key,.int .i64 (j:Int)]] W fun e w'=>e=.returned (.pointer (some ⟨B2,j*6,none⟩))/\Below W.heap.size W w':=by
 have hB:=World.block_lt_of_cell? W _ h4
 have bA:Below W.heap.size W (W.alloc (.cells #[.string key,.int .i64 (j:Int)] 60)):=(Below.refl _ W).alloc (Nat.le_refl _) _;have hZ:=jb W #[.string key,.int .i64 (j:Int)] 60;have k4:=(bA.cell (p:=⟨B,o+4,none⟩) hB).trans h4;have z0:=hZ.cell 0 _ rfl;have z1:=hZ.cell 1 _ rfl;have hne:¬((j:Int) = -1):=by omega
 have hj0:(0:Int)<=(j:Int):=by omega
 have hj1:(j:Int)<(n:Int):=by omega
 have mixed:(Tryd.prog).follows .mixedOrders=true:=by kernel_rfl
 go_enter Tryd.func92,Tryd.ntmps92
 go_wp2
 go_quiet (fail)
 go_wp2;go_ret;exact⟨rfl,_root_.Go.below_drewN bA _⟩
theorem zd (W:World)(B o B2 f cE:Nat)(E:List V)(key:ByteArray)(j:Nat)(h5:W.cell? ⟨B,o+5,none⟩=some (.slice (some ⟨B2,0,none⟩) E.length cE))(hE:JO (fun b=>b<W.heap.size) f W (some ⟨B2,0,none⟩) E)(hc1:E.length<=cE)(hc2:cE<=maxLen)(hj:j<E.length)(hx:idx (fun x=>decide (x=key.data.toList)) 0 E=(j:Int)) :
  Calls Tryd.prog 92 #[.pointer (some ⟨B,o,none⟩),.agg #[.string key,.int .i64 (-1)]] W fun e w'=>e=.returned (.pointer (some ⟨B2,j*7+1,none⟩))/\Below W.heap.size W w':=by
 have hB:=World.block_lt_of_cell? W _ h5
 obtain⟨WA,hWA⟩:∃WA,WA=W.alloc (.cells #[.string key,.int .i64 (-1)] 60):=⟨_,rfl⟩
 have bA:Below W.heap.size W WA:=by rw [hWA];exact(Below.refl _ W).alloc (Nat.le_refl _) _
 have hZ:Blk WA W.heap.size #[.string key,.int .i64 (-1)] 60:=by rw [hWA];exact jb W _ _
 have bD:Below W.heap.size W WA.drew:=bA.drew;have k5:WA.drew.cell? ⟨B,o+5,none⟩=_:=(bD.cell (p:=⟨B,o+5,none⟩) hB).trans h5
 have z0:WA.drew.cell? ⟨W.heap.size,0,none⟩=some (.string key):=hZ.cell 0 _ rfl
 have z1:=hZ.cell 1 _ rfl;rw [hWA] at z1;have hj0:(0:Int)<=(j:Int):=by omega
 have hj1:(j:Int)<(E.length:Int):=by omega
 have sA:W.heap.size<WA.drew.heap.size:=by show _<WA.heap.size;rw [hWA];simp
 have C:=zY (fun b=>b<W.heap.size) f WA.drew E (some ⟨B2,0,none⟩) cE key (hE.kept (fun _ h=>h) bD.size (fun b hb _=>bD.block b hb) (fun i us _ ⟨ky,y,xs,a1,a2,a3,a4⟩=>⟨ky,y,xs,a1,a2,a3,a4.kept (fun _ h=>h) bD.size (fun b hb _=>bD.block b hb)⟩)) hc1 hc2;rw [hx] at C;have KC:Hid (Calls Tryd.prog 65 #[.slice (some ⟨B2,0,none⟩) E.length cE,.string key] WA.drew fun e w'=>e=.returned (.int .i64 (j:Int))/\w'.cell? ⟨B,o+5,none⟩=some (.slice (some ⟨B2,0,none⟩) E.length cE)/\w'.cell? ⟨W.heap.size,0,none⟩=some (.string key)/\Below W.heap.size W w'):=ja (C.mono fun e w' ⟨he,hb⟩=>⟨he,(hb.cell (p:=⟨B,o+5,none⟩) (Nat.lt_trans hB sA)).trans k5,(hb.cell (p:=⟨W.heap.size,0,none⟩) sA).trans z0,bD.trans (hb.mono bD.size)⟩);have HWA:=ja hWA;clear C hx hE bA hZ hWA
 go_enter Tryd.func92,Tryd.ntmps92
 go_upto_region 2 with fail
 rw [<-HWA.out];clear HWA z1
 go_region_held3 (fun w'=>w'.cell? ⟨B,o+5,none⟩=some (.slice (some ⟨B2,0,none⟩) E.length cE)/\w'.cell? ⟨W.heap.size,0,none⟩=some (.string key)) (go_keep) (first
  | (go_at_call 65;refine(jc KC).mono ?_;rintro e w1 ⟨rfl,F0,F1,F2⟩))
 all_goals
  go_wp2;go_ret;exact⟨rfl,by first | exact F2 | exact F2.drew | exact _root_.Go.below_drewN F2 _⟩
end upds
namespace paths
open Go.RowKit
open utfs (ja jc)
open valus (V opn jE ent mkV idx parts jo jd LiesV RowIn Blk jb jp jk jg)
abbrev jci (M:Nat) (x:V⊕Int) (w:World) (e:Ending) (w':World):Prop :=
 ((∃(y:V) (f:Nat) (x0 x1 x2 x3 x4 x5:Value),x=.inl y/\e=.returned (.tuple #[.agg #[x0,x1,x2,x3,x4,x5],.int .i64 0])/\LiesV (fun q=>w.heap.size<=q/\q<w'.heap.size) f w' [x0,x1,x2,x3,x4,x5] y/\jd f y<=M)\/∃er,x=.inr er/\er≠0/\e=.returned (.tuple #[.agg #[.int .i64 0,.int .i64 0,.int .u64 0,.string ⟨#[]⟩,.slice none 0 0,.slice none 0 0],.int .i64 er]))/\Below w.heap.size w w'
theorem Zz (M:Nat)(hM:M<=10000000)(w:World)(f:Nat)(t:V)(a0 a1 a2 a3 a4 a5:Value)(hl:LiesV (fun q=>q<w.heap.size) f w [a0,a1,a2,a3,a4,a5] t)(hn:jd f t<=M)(p:Option Addr)(c:Nat)(P:List St)(hP:LiesP w p P)(hPl:P.length<=9223372036854775807)(hT:jt w) :
  Calls Tryd.prog 8 #[.agg #[a0,a1,a2,a3,a4,a5],.slice p P.length c] w (jci M (jY t P) w):=by
 obtain⟨k,n,b,s,pL,nL,cL,pE,nE,cE,rfl,rfl,rfl,rfl,rfl,rfl⟩:=hl.form;obtain⟨W0,hW0⟩:∃W0,W0=(w.alloc (.cells #[.int .i64 k,.int .i64 n,.int .u64 (b:Int),.string s,.slice pL nL cL,.slice pE nE cE] 26)).alloc (.cells #[.int .i64 0,.int .i64 0,.int .u64 0,.string ⟨#[]⟩,.slice none 0 0,.slice none 0 0] 26):=⟨_,rfl⟩
 have bA:Below w.heap.size w (w.alloc (.cells #[.int .i64 k,.int .i64 n,.int .u64 (b:Int),.string s,.slice pL nL cL,.slice pE nE cE] 26)):=(Below.refl _ w).alloc (Nat.le_refl _) _;have b0:Below w.heap.size w W0:=by rw [hW0];exact bA.alloc bA.size _
 have s0:W0.heap.size=w.heap.size+2:=by rw [hW0];simp
 have hbox:Blk W0 w.heap.size #[.int .i64 k,.int .i64 n,.int .u64 (b:Int),.string s,.slice pL nL cL,.slice pE nE cE] 26:=by rw [hW0];exact(jb w _ _).alloc _
 have hres:Blk W0 (w.heap.size+1) #[.int .i64 0,.int .i64 0,.int .u64 0,.string ⟨#[]⟩,.slice none 0 0,.slice none 0 0] 26:=by
  rw [hW0];have h:=jb (w.alloc (.cells #[.int .i64 k,.int .i64 n,.int .u64 (b:Int),.string s,.slice pL nL cL,.slice pE nE cE] 26)) #[.int .i64 0,.int .i64 0,.int .u64 0,.string ⟨#[]⟩,.slice none 0 0,.slice none 0 0] 26;have e:(w.alloc (.cells #[.int .i64 k,.int .i64 n,.int .u64 (b:Int),.string s,.slice pL nL cL,.slice pE nE cE] 26)).heap.size=w.heap.size+1:=by simp
  rw [e] at h;exact h
 have hl0:LiesV (fun q=>q<w.heap.size+1) f W0 [.int .i64 k,.int .i64 n,.int .u64 (b:Int),.string s,.slice pL nL cL,.slice pE nE cE] t:=hl.kept (fun q h=>by omega) b0.size (fun q h _=>b0.block q h)
 have hp0:PAt (fun q=>q<w.heap.size+1) M W0 w.heap.size 0 t:=by
  obtain⟨c0,c1,c2,c3,c4,c5⟩:=hbox.cells6;exact⟨⟨f,_,_,_,_,_,_,hl0,hn,c0,c1,c2,c3,c4,c5⟩,by omega⟩
 have KC:=ja (qH W0 p c P (hP.keep b0) hPl (Utf8Tabs_below hT b0));have HP0:=ja (hP.keep b0);have HPA:=ja hp0;have HRES:=ja hres;have HB0:=ja b0
 have hPB:∀B o,p=some ⟨B,o,none⟩->P.length≠0->B<W0.heap.size:=fun B o e hn=>by
  obtain⟨B',o',e',hB,_⟩:=HP0.out hn;rw [e'] at e;injection e with e;injection e with e;omega
 have HPB:=ja hPB
 by_cases hc:jq P=0
 ·have hLP:jY t P=je t P:=by unfold jY;rw [if_pos hc]
  rw [hLP];have hall:=(jl hc).2;have HALL:=ja hall;rw [hc] at KC;clear hLP hc hall bA b0 hbox hres hl0 hp0 hl hn hP hT hPB
  go_enter Tryd.func8,Tryd.ntmps8
  go_wp2_with (go_at_call 27;rw [<-hW0];refine(jc KC).mono ?_;rintro _ w1 ⟨rfl,b1⟩)
  have B1:=ja b1;clear KC b1
  go_loopw [7,20] (fun h i wr=>∃(j B o:Nat) (y:V),i=.int .i64 j/\j<=P.length/\h=.pointer (some ⟨B,o,none⟩)/\Hid (PAt (fun q=>q<w.heap.size+1) M wr B o y)/\Hid (je y (P.drop j)=je t P)/\Below W0.heap.size W0 wr) (fun _ i _=>P.length - (intOf i).toNat)
  case atStart=>exact⟨0,w.heap.size,0,t,rfl,Nat.zero_le _,rfl,ja (HPA.out.below (B1.out.mono (by omega)) (by omega)),ja rfl,B1.out⟩
  case round=>
   obtain⟨j,B,o,y,rfl,hj,rfl,HPY,HLD,hbw⟩:=hrel;have hwrs:W0.heap.size<=wr.heap.size:=hbw.size
   by_cases hlt:j<P.length
   ·obtain⟨Bp,op,key,rfl,hBp,hk1,hk2,hk3,c0,c1⟩:=HP0.out.at hlt
    have q0:=(hbw.cell (p:=⟨Bp,op+j*2,none⟩) hBp).trans c0;have q1:=(hbw.cell (p:=⟨Bp,op+j*2+1,none⟩) hBp).trans c1;have hi1:=(jm (HALL.out _ (List.getElem_mem hlt))).1;have bS:Below wr.heap.size wr (wr.alloc (.cells #[.string key,.int .i64 (P[j]).2] 60)):=(Below.refl _ wr).alloc (Nat.le_refl _) _;have hpS:=HPY.out.below (bS.mono (by omega)) (by omega);have KP:=ja (QK (w.heap.size+1) M (wr.alloc (.cells #[.string key,.int .i64 (P[j]).2] 60)) (by simp;omega) B o y hpS key (P[j]).2 hi1);rw [hk1] at KP;have hLD:=HLD.out;rw [List.drop_eq_getElem_cons hlt] at hLD;have hstep:je y (P[j] :: P.drop (j+1))=(match jf y ((P[j]).1,(P[j]).2) with | .inl z=>je z (P.drop (j+1)) | .inr e=>.inr e):=rfl;rw [hstep] at hLD;have HLD2:=ja hLD;have HBS:=ja (hbw.trans (bS.mono hwrs));clear hstep hLD HLD hk1 hk2 hk3 c0 c1 hpS bS hi1 HPY
    generalize jf y ((P[j]).1,(P[j]).2)=X at *;generalize (P[j]).2=xi at *
    go_wp2_with fail
    refine(jc KP).mono ?_
    rintro _ w2 ⟨h2,b2⟩
    have B2:=ja (HBS.out.trans (b2.mono HBS.out.size));clear KP b2 HBS
    rcases h2 with ⟨z,B',o',rfl,rfl,hpz⟩ | ⟨er,rfl,hne,rfl⟩
    ·have HPZ:=ja hpz
     clear hpz;go_wp2;go_roundw
     case rel=>exact⟨j+1,B',o',z,by go_num,by omega,rfl,HPZ,HLD2,B2.out⟩
     case measure=>simp only [intOf];omega
    ·have hne2:(er != 0)=true:=bne_iff_ne.2 hne
     have hr:=HRES.out.below B2.out;have hbz:=HB0.out.trans (B2.out.mono (by omega));have x0:=hr.cell 0 _ rfl;have x1:=hr.cell 1 _ rfl;have x2:=hr.cell 2 _ rfl;have x3:=hr.cell 3 _ rfl;have x4:=hr.cell 4 _ rfl;have x5:=hr.cell 5 _ rfl;simp only [List.getElem_toArray,List.getElem_cons_zero,List.getElem_cons_succ] at x0 x1 x2 x3 x4 x5;have z0:=Blk.froz hr 0;have z1:=Blk.froz hr 1;have z2:=Blk.froz hr 2;have z3:=Blk.froz hr 3;have z4:=Blk.froz hr 4;have z5:=Blk.froz hr 5;have HY:=ja (jk hr (.int .i64 0) (.int .i64 0) (.int .u64 0) (.string ⟨#[]⟩) (.slice none 0 0) (.slice none 0 0));have HF:=ja (jg hbz (b:=w.heap.size+1) (by omega) (.int .i64 0) (.int .i64 0) (.int .u64 0) (.string ⟨#[]⟩) (.slice none 0 0) (.slice none 0 0));go_wp2
     obtain⟨Y,hYe⟩:∃Y,Y=jp w2 (w.heap.size+1) (.int .i64 0) (.int .i64 0) (.int .u64 0) (.string ⟨#[]⟩) (.slice none 0 0) (.slice none 0 0):=⟨_,rfl⟩
     rw [<-hYe] at HY HF;simp only [jp] at hYe;rw [<-hYe];clear hYe x0 x1 x2 x3 x4 x5 z0 z1 z2 z3 z4 z5;refine bodyPost_ret (qu _ HY.out) rfl ?_
     rw [<-HLD2.out];exact⟨.inr ⟨er,rfl,hne,rfl⟩,HF.out⟩
   ·obtain rfl:j=P.length:=by omega
    have g0:¬(P.length:Int)<(P.length:Int):=by omega
    obtain⟨f',y0,y1,y2,y3,y4,y5,hly,hny,c0,c1,c2,c3,c4,c5⟩:=HPY.out.ex;have KCP:=ja (callsIn_wide.1 (valus.zk (fun q=>q<w.heap.size+1) f' wr y y0 y1 y2 y3 y4 y5 (fun q h=>by omega) hly (by omega)));have HLD2:Hid (je t P=.inl y):=ja (by rw [<-HLD.out,List.drop_of_length_le (Nat.le_refl _)];rfl);clear HLD HPY hly
    go_upto_region 13 with fail
    go_wp2_with fail
    refine(jc KCP).mono ?_
    rintro _ w2 ⟨⟨v0,v1,v2,v3,v4,v5,rfl,hlv0⟩,b2⟩
    have hlv:=hlv0.lies;clear hlv0;have hr:=HRES.out.below (hbw.trans (b2.mono hwrs));have hbz:=HB0.out.trans ((hbw.trans (b2.mono hwrs)).mono (by omega));have x0:=hr.cell 0 _ rfl;have x1:=hr.cell 1 _ rfl;have x2:=hr.cell 2 _ rfl;have x3:=hr.cell 3 _ rfl;have x4:=hr.cell 4 _ rfl;have x5:=hr.cell 5 _ rfl;simp only [List.getElem_toArray,List.getElem_cons_zero,List.getElem_cons_succ] at x0 x1 x2 x3 x4 x5;have z0:=Blk.froz hr 0;have z1:=Blk.froz hr 1;have z2:=Blk.froz hr 2;have z3:=Blk.froz hr 3;have z4:=Blk.froz hr 4;have z5:=Blk.froz hr 5;have HY:=ja (jk hr v0 v1 v2 v3 v4 v5);have HF:=ja (jg hbz (b:=w.heap.size+1) (by omega) v0 v1 v2 v3 v4 v5)
    have hlv2:LiesV (fun q=>w.heap.size<=q/\q<(jp w2 (w.heap.size+1) v0 v1 v2 v3 v4 v5).heap.size) f' (jp w2 (w.heap.size+1) v0 v1 v2 v3 v4 v5) [v0,v1,v2,v3,v4,v5] y:=by
     have hb2:=b2.size;refine hlv.kept (fun q h=>?_) (by rw [valus.qq];exact Nat.le_refl _) (fun q h hq=>?_)
     ·rw [valus.qq]
      exact⟨by omega,h.2⟩
     ·have hne:q≠w.heap.size+1:=by omega
      simp only [jp];rw [Below.heap_setCell _ _ _ _ hne,Below.heap_setCell _ _ _ _ hne,Below.heap_setCell _ _ _ _ hne,Below.heap_setCell _ _ _ _ hne,Below.heap_setCell _ _ _ _ hne,Below.heap_setCell _ _ _ _ hne]
    have HLV:=ja (And.intro hlv2 hny);clear hr hbz b2 hlv hlv2 KCP hny;obtain⟨gk,gn,gb,gs,gpL,gnL,gcL,gpE,gnE,gcE,rfl,rfl,rfl,rfl,rfl,rfl⟩:=HLV.out.1.form;go_wp2;obtain⟨Y,hYe⟩:∃Y,Y=jp w2 (w.heap.size+1) (.int .i64 gk) (.int .i64 gn) (.int .u64 (gb:Int)) (.string gs) (.slice gpL gnL gcL) (.slice gpE gnE gcE):=⟨_,rfl⟩
    rw [<-hYe] at HY HF HLV;simp only [jp] at hYe;rw [<-hYe];clear hYe x0 x1 x2 x3 x4 x5 z0 z1 z2 z3 z4 z5;refine bodyPost_ret (qu _ HY.out) rfl ?_
    rw [HLD2.out];exact⟨.inl ⟨y,f',_,_,_,_,_,_,rfl,rfl,HLV.out.1,HLV.out.2⟩,HF.out⟩
 ·have hLP:jY t P=.inr (jq P):=by unfold jY;rw [if_neg hc]
  rw [hLP];have hne2:(jq P != 0)=true:=bne_iff_ne.2 hc;have HNE:=ja hc;clear hLP hc bA b0 hbox hres hl0 hp0 hl hn hP hT hPB HPA HPB HP0;generalize jq P=ce at *
  go_enter Tryd.func8,Tryd.ntmps8
  go_wp2_with fail
  rw [<-hW0];refine(jc KC).mono ?_
  rintro _ w1 ⟨rfl,b1⟩
  have hr:=HRES.out.below b1;have hbz:=HB0.out.trans (b1.mono (by omega));clear KC b1;have x0:=hr.cell 0 _ rfl;have x1:=hr.cell 1 _ rfl;have x2:=hr.cell 2 _ rfl;have x3:=hr.cell 3 _ rfl;have x4:=hr.cell 4 _ rfl;have x5:=hr.cell 5 _ rfl;simp only [List.getElem_toArray,List.getElem_cons_zero,List.getElem_cons_succ] at x0 x1 x2 x3 x4 x5;have z0:=Blk.froz hr 0;have z1:=Blk.froz hr 1;have z2:=Blk.froz hr 2;have z3:=Blk.froz hr 3;have z4:=Blk.froz hr 4;have z5:=Blk.froz hr 5;have HY:=ja (jk hr (.int .i64 0) (.int .i64 0) (.int .u64 0) (.string ⟨#[]⟩) (.slice none 0 0) (.slice none 0 0));have HF:=ja (jg hbz (b:=w.heap.size+1) (by omega) (.int .i64 0) (.int .i64 0) (.int .u64 0) (.string ⟨#[]⟩) (.slice none 0 0) (.slice none 0 0));go_wp2
  obtain⟨Y,hYe⟩:∃Y,Y=jp w1 (w.heap.size+1) (.int .i64 0) (.int .i64 0) (.int .u64 0) (.string ⟨#[]⟩) (.slice none 0 0) (.slice none 0 0):=⟨_,rfl⟩
  rw [<-hYe] at HY HF;simp only [jp] at hYe;rw [<-hYe];clear hYe x0 x1 x2 x3 x4 x5 z0 z1 z2 z3 z4 z5;refine bodyPost_ret (qu _ HY.out) rfl ?_
  exact⟨.inr ⟨ce,rfl,HNE.out,rfl⟩,HF.out⟩
end paths
end Go.Proofs.YtadaehaemmelfaaDoor
