/- Of our texts, what this claim reaches. -/
import Derived.Test.YtadaehaemmelfaaDoorPubAV
import Derived.Test.YtadaehaemmelfaaDoorPubAW
set_option linter.unusedVariables false
set_option maxHeartbeats 8000000
set_option maxRecDepth 100000
namespace Go.Proofs.YtadaehaemmelfaaDoor
namespace valus
open Go.RowKit Go.Shelf
theorem OwnD.row2 {n0 f:Nat}{P:Nat->Prop}{W:World}{v:Value}{F:List V}(h:OwnD n0 P f W v F):∃p c,v=.slice p F.length c/\F.length<=c/\c<=maxLen/\JO (fun b=>b<W.heap.size) f W p F:=by
 have hr:=h.row;obtain⟨p,c,rfl,h1,h2⟩:=hr.slice;refine⟨p,c,rfl,h1,h2,RowIn.kept (hr.rowIn (Q':=fun j us=>∃(key:ByteArray) (y:V) (xs:List Value),F[j]?=some (ent key.data.toList y)/\us=.string key :: xs/\key.size<=maxLen/\LiesV (fun b=>b<W.heap.size) f W xs y) ?_) (fun b h=>h.2) (Nat.le_refl _) (fun _ _ _=>rfl) (fun _ _ _ h=>h)⟩
 rintro i T us _ hT ⟨key,y,xs,a,c,e,g⟩
 exact⟨key,y,xs,a,c,e,g.lies.weaken fun b h=>h.2⟩
theorem YG (ok:Nat->Prop)(f:Nat)(w:World)(E:List V)(pE:Option Addr)(cE:Nat)(kk:ByteArray)(y:V)(k n:Int)(b:Nat)(s:ByteArray)(pL:Option Addr)(nL cL:Nat)(pV:Option Addr)(nV cV:Nat)(hE:JO ok f w pE E)(h1:E.length<=cE)(h2:cE<=maxLen)(hok:∀b,ok b->b<w.heap.size)(hn:E.length<=2000000)(hnod:∀e,e∈E->jd f (jE e).2<=10000000)(hkk:kk.size<=maxLen)
  (hl:LiesV ok f w [.int .i64 k,.int .i64 n,.int .u64 (b:Int),.string s,.slice pL nL cL,.slice pV nV cV] y) (hny:jd f y<=10000000) :
  Calls Tryd.prog 102 #[.slice pE E.length cE,.string kk,.agg #[.int .i64 k,.int .i64 n,.int .u64 (b:Int),.string s,.slice pL nL cL,.slice pV nV cV]] w fun e w'=>(∃v,e=.returned v/\RowD 7 57 w' v (qx kk.data.toList y (jD kk.data.toList E)).length (fun b=>w.heap.size<=b/\b<w'.heap.size) (QE f w' (qx kk.data.toList y (jD kk.data.toList E))))/\Below w.heap.size w w':=by
 obtain⟨Wa,hWa⟩:∃Wa,Wa=(w.alloc (.cells #[.string kk] 9)).alloc (.cells #[.int .i64 k,.int .i64 n,.int .u64 (b:Int),.string s,.slice pL nL cL,.slice pV nV cV] 26):=⟨_,rfl⟩
 have sWa:Wa.heap.size=w.heap.size+2:=by rw [hWa];simp
 have ba:Below w.heap.size w Wa:=by rw [hWa];exact((Below.refl _ w).alloc (Nat.le_refl _) _).alloc (by simp) _
 have hkb:Blk Wa w.heap.size #[.string kk] 9:=by rw [hWa];exact(jb _ _ _).alloc _
 have hvb:Blk Wa (w.heap.size+1) #[.int .i64 k,.int .i64 n,.int .u64 (b:Int),.string s,.slice pL nL cL,.slice pV nV cV] 26:=by
  rw [hWa];have:=jb (w.alloc (.cells #[.string kk] 9)) #[.int .i64 k,.int .i64 n,.int .u64 (b:Int),.string s,.slice pL nL cL,.slice pV nV cV] 26;rwa [World.size_alloc] at this
 have ck0:Wa.cell? ⟨w.heap.size,0,none⟩=some (.string kk):=hkb.cell 0 _ rfl
 have HD:=ja (QR ok f Wa E pE cE kk (hE.kept (fun _ h=>h) ba.size (fun b _ h=>ba.block b h) (fun j us _ ⟨key,y,xs,a1,a2,a3,a4⟩=>⟨key,y,xs,a1,a2,a3,a4.below ba⟩)) h1 h2 (fun b h=>by have:=hok b h;omega) (by omega) hnod);have HA:=ja hWa;rw [hWa] at HD ck0;clear hWa hE
 go_enter Tryd.func102,Tryd.ntmps102
 go_wp2_with (go_at_call 99;refine(jc HD).mono ?_;rintro e w1 ⟨v,rfl,⟨P0,hO⟩,hb1⟩)
 rw [<-HA.out] at hO hb1;obtain⟨p,c,rfl,m1,m2,hR⟩:=hO.row2;obtain⟨F,hF⟩:∃F,F=jD kk.data.toList E:=⟨_,rfl⟩
 have hFl:F.length<=2000000:=by rw [hF];have:=QI kk.data.toList E;omega
 rw [<-hF] at hR m1 hO;rw [<-hF];have HF:=ja hF;have HO:=ja hO;have ck1:w1.cell? ⟨w.heap.size,0,none⟩=some (.string kk):=(hb1.cell (p:=⟨w.heap.size,0,none⟩) (by simp only;omega)).trans (hkb.cell 0 _ rfl)
 have HX:=ja (Yn (fun b=>b<w1.heap.size) f w1 F p c w.heap.size kk hR m1 m2 ck1);have hgt:(fun x=>!Op.bytesLess x kk.data.toList && !(x == kk.data.toList))=gtr kk.data.toList:=rfl;rw [hgt] at HX;have hrg:=Zy (gtr kk.data.toList) F 0;obtain⟨z,hz⟩:∃z,z=idx (gtr kk.data.toList) 0 F:=⟨_,rfl⟩
 have hcut:(JA kk.data.toList F:Int)=if z<0 then (F.length:Int) else z:=by
  unfold JA;rw [<-hz];split<;>omega
 rw [<-hz] at HX hrg;have HZ:=ja hz;clear hz hF hO hR ck0 hgt
 by_cases hneg:z<0
 ·have hi:F.length=JA kk.data.toList F:=by rw [if_pos hneg] at hcut;omega
  have HI:=ja hi;clear hi hcut hrg
  go_wp2_with (go_at_call 84;refine(jc HX).mono ?_;rintro e w2 ⟨rfl,hb2⟩)
  obtain⟨w3,hw3⟩:∃w3,w3=w2.drew:=⟨_,rfl⟩
  have b3:Below w1.heap.size w1 w3:=by rw [hw3];exact hb2.drew
  have b03:Below Wa.heap.size Wa w3:=hb1.trans (b3.mono hb1.size);have ck:w2.drew.cell? ⟨w.heap.size,0,none⟩=some (.string kk):=by rw [<-hw3];exact(b03.cell (p:=⟨w.heap.size,0,none⟩) (by simp only;omega)).trans (hkb.cell 0 _ rfl)
  have cv:∀j u,#[.int .i64 k,.int .i64 n,.int .u64 (b:Int),.string s,.slice pL nL cL,.slice pV nV cV][j]?=some u->w2.drew.cell? ⟨w.heap.size+1,j,none⟩=some u:=fun j u h=>by rw [<-hw3];exact(b03.cell (p:=⟨w.heap.size+1,j,none⟩) (by simp only;omega)).trans (hvb.cell j u h)
  have C:=zk ok f w2.drew y _ _ _ _ _ _ (fun b hb=>by rw [<-hw3];have:=hok b hb;have:=b03.size;omega) (by rw [<-hw3];exact hl.below (ba.trans (b03.mono (by omega)))) hny
  refine wpIn_wide.1 (wpIn_region_any (n:=9) (by kernel_rfl) (jcg (i:=F.length) (fun w1' k n b s pL nL cL pE nE cE=>LiesD f (fun b=>w3.heap.size<=b/\b<w1'.heap.size) w1' [.int .i64 k,.int .i64 n,.int .u64 (b:Int),.string s,.slice pL nL cL,.slice pE nE cE] y/\Below w3.heap.size w3 w1') (fun w4 v4=>(∃P,OwnD Wa.heap.size P f w4 v4 (F.take F.length++ent kk.data.toList y :: F.drop F.length))/\Below w.heap.size w w4) rfl rfl rfl rfl rfl rfl rfl rfl rfl (by kernel_rfl) (by kernel_rfl) (by kernel_rfl) (by kernel_rfl) (by kernel_rfl) (by kernel_rfl) (by kernel_rfl) (by kernel_rfl) (by kernel_rfl) (by kernel_rfl) (by kernel_rfl) (by kernel_rfl) (by kernel_rfl) (by kernel_rfl) (by kernel_rfl) (by kernel_rfl) (by kernel_rfl) (by kernel_rfl) (by kernel_rfl) (by kernel_rfl) (by kernel_rfl) (by kernel_rfl) (by kernel_rfl) (by kernel_rfl) (by kernel_rfl) (by kernel_rfl) (by kernel_rfl) (by kernel_rfl) (by kernel_rfl) (by kernel_rfl) (by kernel_rfl) (by kernel_rfl) (by kernel_rfl) (by kernel_rfl) ck (cv 0 _ rfl) (cv 1 _ rfl) (cv 2 _ rfl) (cv 3 _ rfl) (cv 4 _ rfl) (cv 5 _ rfl) ?holeCF ?holeDF ?holeIF ?holeQF))
  case holeCF=>
   refine(callsIn_wide.2 (callsIn_wide.1 C)).mono ?_
   rintro e w5 ⟨⟨x0,x1,x2,x3,x4,x5,rfl,hx⟩,hb5⟩
   obtain⟨k,n,b,s,pL,nL,cL,pE,nE,cE,rfl,rfl,rfl,rfl,rfl,rfl⟩:=hx.lies.form;rw [<-hw3] at hx hb5;exact⟨k,n,b,s,pL,nL,cL,pE,nE,cE,rfl,hx,hb5⟩
  case holeDF=>
   rintro w5 k n b s pL nL cL pE nE cE ⟨_,hb5⟩
   rw [<-hw3] at ck;exact(hb5.cell (p:=⟨w.heap.size,0,none⟩) (by simp only;have:=b03.size;omega)).trans ck
  case holeIF=>
   rintro w5 k n b s pL nL cL pE nE cE ⟨hx,hb5⟩
   have z3:=b03.size;have z5:=hb5.size;have b13:Below w1.heap.size w1 (w5.alloc (.cells #[.string kk,.int .i64 k,.int .i64 n,.int .u64 (b:Int),.string s,.slice pL nL cL,.slice pE nE cE] 57)):=(b3.trans (hb5.mono (by have:=b3.size;omega))).alloc (by have:=b3.size;omega) _;obtain⟨rows0,how0,_,hPP0⟩:=HO.out;obtain⟨rows5,how5,hr5,hP5⟩:=HO.out.still b13;have hL:=hx.same (w':=w5.alloc (.cells #[.string kk,.int .i64 k,.int .i64 n,.int .u64 (b:Int),.string s,.slice pL nL cL,.slice pE nE cE] 57)) (fun b _ hlt=>Below.heap_alloc _ _ _ hlt)
   have hIN:=JJ (w5.alloc (.cells #[.string kk,.int .i64 k,.int .i64 n,.int .u64 (b:Int),.string s,.slice pL nL cL,.slice pE nE cE] 57)) (.slice p F.length c) F.length rows5 how5 hr5.1 hr5.flat hr5.onesE F.length (by omega) (by simp;omega) hFl w5.heap.size (.string kk :: [.int .i64 k,.int .i64 n,.int .u64 (b:Int),.string s,.slice pL nL cL,.slice pE nE cE]) (jb w5 _ _) (fun e=>by
    have h1:=how0.lt w5.heap.size e.symm;have:=b3.size;omega) (by simp) (jbd hx.ones)
   refine(callsIn_wide.2 hIN).mono ?_
   rintro e w6 ⟨v6,rfl,hown6,hg6,hat6⟩
   refine⟨v6,rfl,⟨_,OwnD.put (k:=F.length) hr5 hP5 hL (fun b hb=>⟨⟨by omega,by simp;omega,fun e=>by
    have h1:=how0.lt b e.symm;have:=b3.size;omega⟩,fun hp=>by
    have:=(hPP0 b hp).2.1;have:=b3.size;omega⟩) hkk (by omega) hown6 hg6 hat6⟩,?_⟩
   have b6:Below w.heap.size w (w5.alloc (.cells #[.string kk,.int .i64 k,.int .i64 n,.int .u64 (b:Int),.string s,.slice pL nL cL,.slice pE nE cE] 57)):=(ba.trans (hb1.mono (by omega))).trans (b13.mono (by have:=hb1.size;omega));exact b6.grown hg6 b6.size (fun q hq=>by have:=(how0.lt q hq).1;omega)
  case holeQF=>
   rintro w5 k n b s pL nL cL pE nE cE w4 v4 ⟨⟨P4,hO4⟩,hb4⟩
   have hfin:(∃v,Ending.returned v4=.returned v/\RowD 7 57 w4 v (qx kk.data.toList y (jD kk.data.toList E)).length (fun b=>w.heap.size<=b/\b<w4.heap.size) (QE f w4 (qx kk.data.toList y (jD kk.data.toList E))))/\Below w.heap.size w w4:=by
    have eI:qx kk.data.toList y (jD kk.data.toList E)=F.take F.length++ent kk.data.toList y :: F.drop F.length:=by unfold qx;rw [<-HF.out,<-HI.out]
    rw [eI];exact⟨⟨v4,rfl,hO4.row.kept (fun b h=>⟨by omega,h.2⟩) (fun _ _ _=>rfl) (fun _ _ _ _ _ h=>h)⟩,hb4⟩
   have HQ:=ja hfin;clear hfin hO4;go_wp2;go_ret;exact HQ.out
 ·obtain⟨i,hi⟩:∃i:Nat,i=JA kk.data.toList F:=⟨_,rfl⟩
  have hzi:z=(i:Int):=by rw [if_neg hneg] at hcut;omega
  have hil:i<=F.length:=by omega
  have HI:=ja hi;have HZI:=ja hzi;clear hi hcut hrg hzi
  go_wp2_with (go_at_call 84;refine(jc HX).mono ?_;rintro e w2 ⟨rfl,hb2⟩)
  have hzi:=HZI.out;clear HZI;subst hzi;obtain⟨w3,hw3⟩:∃w3,w3=w2.drew:=⟨_,rfl⟩
  have b3:Below w1.heap.size w1 w3:=by rw [hw3];exact hb2.drew
  have b03:Below Wa.heap.size Wa w3:=hb1.trans (b3.mono hb1.size);have ck:w2.drew.cell? ⟨w.heap.size,0,none⟩=some (.string kk):=by rw [<-hw3];exact(b03.cell (p:=⟨w.heap.size,0,none⟩) (by simp only;omega)).trans (hkb.cell 0 _ rfl)
  have cv:∀j u,#[.int .i64 k,.int .i64 n,.int .u64 (b:Int),.string s,.slice pL nL cL,.slice pV nV cV][j]?=some u->w2.drew.cell? ⟨w.heap.size+1,j,none⟩=some u:=fun j u h=>by rw [<-hw3];exact(b03.cell (p:=⟨w.heap.size+1,j,none⟩) (by simp only;omega)).trans (hvb.cell j u h)
  have C:=zk ok f w2.drew y _ _ _ _ _ _ (fun b hb=>by rw [<-hw3];have:=hok b hb;have:=b03.size;omega) (by rw [<-hw3];exact hl.below (ba.trans (b03.mono (by omega)))) hny
  refine wpIn_wide.1 (wpIn_region_any (n:=9) (by kernel_rfl) (jcg (i:=i) (fun w1' k n b s pL nL cL pE nE cE=>LiesD f (fun b=>w3.heap.size<=b/\b<w1'.heap.size) w1' [.int .i64 k,.int .i64 n,.int .u64 (b:Int),.string s,.slice pL nL cL,.slice pE nE cE] y/\Below w3.heap.size w3 w1') (fun w4 v4=>(∃P,OwnD Wa.heap.size P f w4 v4 (F.take i++ent kk.data.toList y :: F.drop i))/\Below w.heap.size w w4) rfl rfl rfl rfl rfl rfl rfl rfl rfl (by kernel_rfl) (by kernel_rfl) (by kernel_rfl) (by kernel_rfl) (by kernel_rfl) (by kernel_rfl) (by kernel_rfl) (by kernel_rfl) (by kernel_rfl) (by kernel_rfl) (by kernel_rfl) (by kernel_rfl) (by kernel_rfl) (by kernel_rfl) (by kernel_rfl) (by kernel_rfl) (by kernel_rfl) (by kernel_rfl) (by kernel_rfl) (by kernel_rfl) (by kernel_rfl) (by kernel_rfl) (by kernel_rfl) (by kernel_rfl) (by kernel_rfl) (by kernel_rfl) (by kernel_rfl) (by kernel_rfl) (by kernel_rfl) (by kernel_rfl) (by kernel_rfl) (by kernel_rfl) (by kernel_rfl) (by kernel_rfl) ck (cv 0 _ rfl) (cv 1 _ rfl) (cv 2 _ rfl) (cv 3 _ rfl) (cv 4 _ rfl) (cv 5 _ rfl) ?holeCi ?holeDi ?holeIi ?holeQi))
  case holeCi=>
   refine(callsIn_wide.2 (callsIn_wide.1 C)).mono ?_
   rintro e w5 ⟨⟨x0,x1,x2,x3,x4,x5,rfl,hx⟩,hb5⟩
   obtain⟨k,n,b,s,pL,nL,cL,pE,nE,cE,rfl,rfl,rfl,rfl,rfl,rfl⟩:=hx.lies.form;rw [<-hw3] at hx hb5;exact⟨k,n,b,s,pL,nL,cL,pE,nE,cE,rfl,hx,hb5⟩
  case holeDi=>
   rintro w5 k n b s pL nL cL pE nE cE ⟨_,hb5⟩
   rw [<-hw3] at ck;exact(hb5.cell (p:=⟨w.heap.size,0,none⟩) (by simp only;have:=b03.size;omega)).trans ck
  case holeIi=>
   rintro w5 k n b s pL nL cL pE nE cE ⟨hx,hb5⟩
   have z3:=b03.size;have z5:=hb5.size;have b13:Below w1.heap.size w1 (w5.alloc (.cells #[.string kk,.int .i64 k,.int .i64 n,.int .u64 (b:Int),.string s,.slice pL nL cL,.slice pE nE cE] 57)):=(b3.trans (hb5.mono (by have:=b3.size;omega))).alloc (by have:=b3.size;omega) _;obtain⟨rows0,how0,_,hPP0⟩:=HO.out;obtain⟨rows5,how5,hr5,hP5⟩:=HO.out.still b13;have hL:=hx.same (w':=w5.alloc (.cells #[.string kk,.int .i64 k,.int .i64 n,.int .u64 (b:Int),.string s,.slice pL nL cL,.slice pE nE cE] 57)) (fun b _ hlt=>Below.heap_alloc _ _ _ hlt)
   have hIN:=JJ (w5.alloc (.cells #[.string kk,.int .i64 k,.int .i64 n,.int .u64 (b:Int),.string s,.slice pL nL cL,.slice pE nE cE] 57)) (.slice p F.length c) F.length rows5 how5 hr5.1 hr5.flat hr5.onesE i (by omega) (by simp;omega) hFl w5.heap.size (.string kk :: [.int .i64 k,.int .i64 n,.int .u64 (b:Int),.string s,.slice pL nL cL,.slice pE nE cE]) (jb w5 _ _) (fun e=>by
    have h1:=how0.lt w5.heap.size e.symm;have:=b3.size;omega) (by simp) (jbd hx.ones)
   refine(callsIn_wide.2 hIN).mono ?_
   rintro e w6 ⟨v6,rfl,hown6,hg6,hat6⟩
   refine⟨v6,rfl,⟨_,OwnD.put (k:=i) hr5 hP5 hL (fun b hb=>⟨⟨by omega,by simp;omega,fun e=>by
    have h1:=how0.lt b e.symm;have:=b3.size;omega⟩,fun hp=>by
    have:=(hPP0 b hp).2.1;have:=b3.size;omega⟩) hkk (by omega) hown6 hg6 hat6⟩,?_⟩
   have b6:Below w.heap.size w (w5.alloc (.cells #[.string kk,.int .i64 k,.int .i64 n,.int .u64 (b:Int),.string s,.slice pL nL cL,.slice pE nE cE] 57)):=(ba.trans (hb1.mono (by omega))).trans (b13.mono (by have:=hb1.size;omega));exact b6.grown hg6 b6.size (fun q hq=>by have:=(how0.lt q hq).1;omega)
  case holeQi=>
   rintro w5 k n b s pL nL cL pE nE cE w4 v4 ⟨⟨P4,hO4⟩,hb4⟩
   have hfin:(∃v,Ending.returned v4=.returned v/\RowD 7 57 w4 v (qx kk.data.toList y (jD kk.data.toList E)).length (fun b=>w.heap.size<=b/\b<w4.heap.size) (QE f w4 (qx kk.data.toList y (jD kk.data.toList E))))/\Below w.heap.size w w4:=by
    have eI:qx kk.data.toList y (jD kk.data.toList E)=F.take i++ent kk.data.toList y :: F.drop i:=by unfold qx;rw [<-HF.out,<-HI.out]
    rw [eI];exact⟨⟨v4,rfl,hO4.row.kept (fun b h=>⟨by omega,h.2⟩) (fun _ _ _=>rfl) (fun _ _ _ _ _ h=>h)⟩,hb4⟩
   have HQ:=ja hfin;clear hfin hO4;go_wp2;go_ret;exact HQ.out
end valus
end Go.Proofs.YtadaehaemmelfaaDoor
