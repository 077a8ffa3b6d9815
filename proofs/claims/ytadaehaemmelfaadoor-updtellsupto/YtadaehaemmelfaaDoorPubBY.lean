/- Of our texts, what this claim reaches. -/
import Derived.Test.YtadaehaemmelfaaDoorPubBG
import Derived.Test.YtadaehaemmelfaaDoorPubBX
import Derived.Test.YtadaehaemmelfaaDoorPubAN
set_option linter.unusedVariables false
set_option maxHeartbeats 8000000
set_option maxRecDepth 100000
set_option linter.unusedSimpArgs false
namespace Go.Proofs.YtadaehaemmelfaaDoor
namespace upds
open Go.RowKit Go.Shelf
open valus
open paths (St LiesP jt jq jf je)
theorem QH (w:World)(us vs:List Value)(x:OpD)(h1:OpIn w us x)(h2:OpIn w vs x)(hx:x.2.1.length<=9223372036854775807) :
  Calls Tryd.prog 23 #[.agg us.toArray,.agg vs.toArray] w fun e w'=>e=.returned (.bool true)/\Below w.heap.size w w':=by
 obtain⟨pa,ca,ga,ka,na,ba,sa,pLa,nLa,cLa,pEa,nEa,cEa,keya,rfl,a2,a3,a4,a5,a6,a7,a8,a9⟩:=h1;obtain⟨pb,cb,gb,kb,nb,bb,sb,pLb,nLb,cLb,pEb,nEb,cEb,keyb,rfl,b2,b3,b4,b5,b6,b7,b8,b9⟩:=h2;obtain⟨W0,hW0⟩:∃W0,W0=(w.alloc (.cells #[.int .i64 x.1,.slice pa x.2.1.length ca,.int .i64 ka,.int .i64 na,.int .u64 (ba:Int),.string sa,.slice pLa nLa cLa,.slice pEa nEa cEa,.string keya] 45)).alloc (.cells #[.int .i64 x.1,.slice pb x.2.1.length cb,.int .i64 kb,.int .i64 nb,.int .u64 (bb:Int),.string sb,.slice pLb nLb cLb,.slice pEb nEb cEb,.string keyb] 45):=⟨_,rfl⟩
 have b0:Below w.heap.size w W0:=by rw [hW0];exact((Below.refl _ w).alloc (Nat.le_refl _) _).alloc (by simp) _
 have hA:Blk W0 w.heap.size #[.int .i64 x.1,.slice pa x.2.1.length ca,.int .i64 ka,.int .i64 na,.int .u64 (ba:Int),.string sa,.slice pLa nLa cLa,.slice pEa nEa cEa,.string keya] 45:=by rw [hW0];exact(jb w _ _).alloc _
 have hB:Blk W0 (w.heap.size+1) #[.int .i64 x.1,.slice pb x.2.1.length cb,.int .i64 kb,.int .i64 nb,.int .u64 (bb:Int),.string sb,.slice pLb nLb cLb,.slice pEb nEb cEb,.string keyb] 45:=by
  rw [hW0];have:=jb (w.alloc (.cells #[.int .i64 x.1,.slice pa x.2.1.length ca,.int .i64 ka,.int .i64 na,.int .u64 (ba:Int),.string sa,.slice pLa nLa cLa,.slice pEa nEa cEa,.string keya] 45)) #[.int .i64 x.1,.slice pb x.2.1.length cb,.int .i64 kb,.int .i64 nb,.int .u64 (bb:Int),.string sb,.slice pLb nLb cLb,.slice pEb nEb cEb,.string keyb] 45;rwa [World.size_alloc] at this
 have KP:Hid (∀v,Below W0.heap.size W0 v->Calls Tryd.prog 30 #[.slice pa x.2.1.length ca,.slice pb x.2.1.length cb] v fun e w'=>e=.returned (.bool true)/\Below v.heap.size v w'):=ja fun v hv=>by
  have bv:=b0.trans (hv.mono b0.size);refine(paths.jai v pa pb ca cb x.2.1 x.2.1 (a3.keep bv) (b3.keep bv) hx hx).mono ?_
  rintro e w' ⟨rfl,h⟩
  exact⟨by simp,h⟩
 have KS:Hid (∀v,Below W0.heap.size W0 v->Calls Tryd.prog 13 #[.agg #[.int .i64 ka,.int .i64 na,.int .u64 (ba:Int),.string sa,.slice pLa nLa cLa,.slice pEa nEa cEa],.agg #[.int .i64 kb,.int .i64 nb,.int .u64 (bb:Int),.string sb,.slice pLb nLb cLb,.slice pEb nEb cEb]] v fun e w'=>e=.returned (.bool true)/\Below v.heap.size v w'):=ja fun v hv=>by
  have bv:=b0.trans (hv.mono b0.size);exact Je (jP a6 bv) (jP b6 bv)
 have hkk:(keya.toList == keyb.toList)=true:=by rw [ByteArray.toList_eq,ByteArray.toList_eq];exact beq_iff_eq.2 (a9.trans b9.symm)
 have c0:=hA.cell 0 _ rfl;have c1:=hA.cell 1 _ rfl;have c2:=hA.cell 2 _ rfl;have c3:=hA.cell 3 _ rfl;have c4:=hA.cell 4 _ rfl;have c5:=hA.cell 5 _ rfl;have c6:=hA.cell 6 _ rfl;have c7:=hA.cell 7 _ rfl;have c8:=hA.cell 8 _ rfl;have d0:=hB.cell 0 _ rfl;have d1:=hB.cell 1 _ rfl;have d2:=hB.cell 2 _ rfl;have d3:=hB.cell 3 _ rfl;have d4:=hB.cell 4 _ rfl;have d5:=hB.cell 5 _ rfl;have d6:=hB.cell 6 _ rfl;have d7:=hB.cell 7 _ rfl;have d8:=hB.cell 8 _ rfl;simp only [List.getElem_toArray,List.getElem_cons_zero,List.getElem_cons_succ] at c0 c1 c2 c3 c4 c5 c6 c7 c8 d0 d1 d2 d3 d4 d5 d6 d7 d8;rw [hW0] at c0 c1 c8 d0 d1 d8;have HB0:=ja b0;have HA:=ja hA;have HB:=ja hB;have HW0:=ja hW0;clear a3 a6 b3 b6 a9 b9 b0 hA hB hW0 c2 c3 c4 c5 c6 c7 d2 d3 d4 d5 d6 d7 hx
 go_enter Tryd.func23,Tryd.ntmps23
 go_upto_region 1 with fail
 rw [<-HW0.out];rw [<-HW0.out] at c0 c1 c8 d0 d1 d8;clear HW0
 go_wp2_with (first
  | (go_at_call 30;refine(KP.out _ (Below.refl _ _)).mono ?_;rintro e w1 ⟨rfl,b1⟩;have B1:=ja b1;have zA:=HA.out.below b1;have zB:=HB.out.below b1;have e2:=zA.cell 2 _ rfl;have e3:=zA.cell 3 _ rfl;have e4:=zA.cell 4 _ rfl;have e5:=zA.cell 5 _ rfl;have e6:=zA.cell 6 _ rfl;have e7:=zA.cell 7 _ rfl;have g2:=zB.cell 2 _ rfl;have g3:=zB.cell 3 _ rfl;have g4:=zB.cell 4 _ rfl;have g5:=zB.cell 5 _ rfl;have g6:=zB.cell 6 _ rfl;have g7:=zB.cell 7 _ rfl;simp only [List.getElem_toArray,List.getElem_cons_zero,List.getElem_cons_succ] at e2 e3 e4 e5 e6 e7 g2 g3 g4 g5 g6 g7;clear b1 zA zB)
  | (go_at_call 13;refine(KS.out _ B1.out).mono ?_;rintro e w2 ⟨rfl,b2⟩;have B2:=ja (HB0.out.trans ((B1.out.trans (b2.mono B1.out.size)).mono HB0.out.size));clear b2))
 go_ret;exact⟨by first | rfl | simp,B2.out⟩
end upds
end Go.Proofs.YtadaehaemmelfaaDoor
