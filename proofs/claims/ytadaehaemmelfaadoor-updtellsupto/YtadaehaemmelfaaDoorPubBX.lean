/- Of our texts, what this claim reaches. -/
import Derived.Test.YtadaehaemmelfaaDoorPubBW
import Derived.Test.YtadaehaemmelfaaDoorPubAE
set_option linter.unusedVariables false
set_option maxHeartbeats 16000000
set_option maxRecDepth 100000
set_option linter.unusedSimpArgs false
namespace Go.Proofs.YtadaehaemmelfaaDoor
namespace upds
open Go.RowKit Go.Shelf
open valus
open paths (St LiesP jt)
theorem jP {f:Nat}{w w':World}{us:List Value}{t:V}(h:LiesV (fun q=>q<w.heap.size) f w us t)(hb:Below w.heap.size w w'):LiesV (fun q=>q<w'.heap.size) f w' us t:=h.kept (fun q h=>Nat.lt_of_lt_of_le h hb.size) hb.size (fun q h _=>hb.block q h)
theorem zR (ok:Nat->Prop)(w:World):LiesV ok 1 w [.int .i64 0,.int .i64 0,.int .u64 0,.string ⟨#[]⟩,.slice none 0 0,.slice none 0 0] (mkV (0,0,0,[]) [] []) :=
 ⟨0,0,0,⟨#[]⟩,[],[],none,none,0,0,rfl,rfl,⟨by omega,by omega,by omega,by unfold maxLen;decide⟩,⟨Nat.le_refl _,by unfold maxLen;omega,Nat.le_refl _,by unfold maxLen;omega⟩,fun h=>absurd rfl h,fun h=>absurd rfl h⟩
theorem Je {ok oq:Nat->Prop}{f g:Nat}{w:World}{y:V}{a0 a1 a2 a3 a4 a5 c0 c1 c2 c3 c4 c5:Value}(h1:LiesV ok f w [a0,a1,a2,a3,a4,a5] y)(h2:LiesV oq g w [c0,c1,c2,c3,c4,c5] y):Calls Tryd.prog 13 #[.agg #[a0,a1,a2,a3,a4,a5],.agg #[c0,c1,c2,c3,c4,c5]] w fun e w'=>e=.returned (.bool true)/\Below w.heap.size w w':=by
 have k1:=h1.to (Nat.le_max_left f g);have k2:=h2.to (Nat.le_max_right f g);refine(jaB (max f g) _ _ w y y _ _ _ _ _ _ _ _ _ _ _ _ k1 k2).mono ?_
 rintro e w' ⟨rfl,hb⟩
 exact⟨by rw [decide_eq_true (((XB _).same y y k1.isV k1.isV).2 rfl)],hb⟩
theorem LiesO.below {w w':World}{q:Option Addr}{l:List OpD}(h:LiesO w q l)(hb:Below w.heap.size w w'):LiesO w' q l:=fun hn=>by
 obtain⟨B,o,e,hB,hc⟩:=h hn
 exact⟨B,o,e,Nat.lt_of_lt_of_le hB hb.size,fun j x hx=>by
  obtain⟨us,u1,u2,u3⟩:=hc j x hx;exact⟨us,u1,fun i hi=>(hb.cell (p:=⟨B,o+j*9+i,none⟩) hB).trans (u2 i hi),u3.below hb⟩⟩
theorem jan (f:Nat)(w:World)(t:V)(k n:Int)(b:Nat)(s:ByteArray)(pL:Option Addr)(nL cL:Nat)(pE:Option Addr)(nE cE:Nat)(hl:LiesV (fun q=>q<w.heap.size) f w [.int .i64 k,.int .i64 n,.int .u64 (b:Int),.string s,.slice pL nL cL,.slice pE nE cE] t)(hn:jd f t<=10000000)(qo:Option Addr)(co:Nat)(l:List OpD)(hO:LiesO w qo l)(hcl:l.length<=9223372036854775807)(hT:jt w) :
  Calls Tryd.prog 6 #[.agg #[.int .i64 k,.int .i64 n,.int .u64 (b:Int),.string s,.slice pL nL cL,.slice pE nE cE],.slice qo l.length co] w fun e w'=>e=.returned (.bool true)/\Below w.heap.size w w':=by
 have hgood:∀y:V,∀g,IsV g y->jh jr y=0->jd g y<=2000:=fun y g h1 h2=>(QS h1 h2).2
 obtain⟨W0,hW0⟩:∃W0,W0=w.alloc (.cells #[.int .i64 k,.int .i64 n,.int .u64 (b:Int),.string s,.slice pL nL cL,.slice pE nE cE] 26):=⟨_,rfl⟩
 have b0:Below w.heap.size w W0:=by rw [hW0];exact(Below.refl _ w).alloc (Nat.le_refl _) _
 have hA:Blk W0 w.heap.size #[.int .i64 k,.int .i64 n,.int .u64 (b:Int),.string s,.slice pL nL cL,.slice pE nE cE] 26:=by rw [hW0];exact jb _ _ _
 by_cases hbig:(l.length:Int) > 40
 ·have B0:=ja b0
  have HW0:=ja hW0;clear hl hO hT hA b0 hgood hW0
  go_enter Tryd.func6,Tryd.ntmps6
  go_wp2_with fail
  go_ret;exact⟨rfl,by rw [<-HW0.out];exact B0.out⟩
 ·obtain⟨r,hr⟩:∃r,r=qQ l t:=⟨_,rfl⟩
  have hlt:∀v,Below w.heap.size w v->LiesV (fun q=>q<v.heap.size) f v [.int .i64 k,.int .i64 n,.int .u64 (b:Int),.string s,.slice pL nL cL,.slice pE nE cE] t:=fun v hv=>jP hl hv
  have KA:=ja (YN W0 f t k n b s pL nL cL pE nE cE (hlt W0 b0) hn qo co l (hO.below b0) hcl (Utf8Tabs_below hT b0) hgood)
  have KD:Hid (∀v,Below w.heap.size w v->Calls Tryd.prog 26 #[.agg #[.int .i64 k,.int .i64 n,.int .u64 (b:Int),.string s,.slice pL nL cL,.slice pE nE cE],.slice qo l.length co] v (jbA v r)):=ja fun v hv=>by
   rw [hr];exact Qy f v t k n b s pL nL cL pE nE cE (hlt v hv) hn hgood qo co l (hO.below hv) hcl
  rw [<-hr] at KA;have HB0:=ja b0;have HA:=ja hA;have HW0:=ja hW0;have a0:=hA.cell 0 _ rfl;have a1:=hA.cell 1 _ rfl;have a2:=hA.cell 2 _ rfl;have a3:=hA.cell 3 _ rfl;have a4:=hA.cell 4 _ rfl;have a5:=hA.cell 5 _ rfl;simp only [List.getElem_toArray,List.getElem_cons_zero,List.getElem_cons_succ] at a0 a1 a2 a3 a4 a5;clear hl hO hT hA b0 hgood hW0 hlt hr hn
  by_cases hr0:r.2.1=0
  ·have HR0:=ja hr0
   clear hr0
   go_enter Tryd.func6,Tryd.ntmps6
   go_upto_region 3 with fail
   rw [<-HW0.out];clear HW0
   go_upto_region 4 with (go_at_call 25;refine(jc KA).mono ?_;rintro e w1 ⟨b1,h0,_⟩;obtain⟨fa,x0,x1,x2,x3,x4,x5,rfl,hla,hfa⟩:=h0 HR0.out;obtain⟨ka,na,ba,sa,pLa,nLa,cLa,pEa,nEa,cEa,rfl,rfl,rfl,rfl,rfl,rfl⟩:=hla.form;have HLA:=ja hla;have B1:=ja b1;clear b1 h0 hla hfa)
   clear KA a0 a1 a2 a3 a4 a5;obtain⟨W2,hW2⟩:∃W2,W2=w1.alloc (.cells #[.int .i64 ka,.int .i64 na,.int .u64 (ba:Int),.string sa,.slice pLa nLa cLa,.slice pEa nEa cEa] 26):=⟨_,rfl⟩
   rw [<-hW2];have b2:Below w1.heap.size w1 W2:=by rw [hW2];exact(Below.refl _ _).alloc (Nat.le_refl _) _
   have HBA:Hid (Blk W2 w1.heap.size #[.int .i64 ka,.int .i64 na,.int .u64 (ba:Int),.string sa,.slice pLa nLa cLa,.slice pEa nEa cEa] 26):=ja (by rw [hW2];exact jb _ _ _);have b02:=B1.out.trans (b2.mono B1.out.size);have HB2:=ja (HB0.out.trans (b02.mono HB0.out.size));have HA2:=HA.out.below b02;have HLA2:=ja (HLA.out.kept (ok':=fun q=>q<W2.heap.size) (fun q h=>Nat.lt_of_lt_of_le h.2 b2.size) b2.size (fun q h hq=>b2.block q hq));have a0:=HA2.cell 0 _ rfl;have a1:=HA2.cell 1 _ rfl;have a2:=HA2.cell 2 _ rfl;have a3:=HA2.cell 3 _ rfl;have a4:=HA2.cell 4 _ rfl;have a5:=HA2.cell 5 _ rfl;simp only [List.getElem_toArray,List.getElem_cons_zero,List.getElem_cons_succ] at a0 a1 a2 a3 a4 a5;clear hW2 HA2 b2 b02
   go_upto_region 5 with (go_at_call 26;refine(KD.out _ HB2.out).mono ?_;rintro e w3 ⟨b3,h0,_⟩;obtain⟨fb,x0,x1,x2,x3,x4,x5,rfl,hlb⟩:=h0 HR0.out;obtain⟨kb,nb,bb,sb,pLb,nLb,cLb,pEb,nEb,cEb,rfl,rfl,rfl,rfl,rfl,rfl⟩:=hlb.form;have HLB:=ja hlb;have B3:=ja b3;clear b3 h0 hlb)
   clear KD a0 a1 a2 a3 a4 a5;obtain⟨W4,hW4⟩:∃W4,W4=w3.alloc (.cells #[.int .i64 kb,.int .i64 nb,.int .u64 (bb:Int),.string sb,.slice pLb nLb cLb,.slice pEb nEb cEb] 26):=⟨_,rfl⟩
   rw [<-hW4];have b4:Below w3.heap.size w3 W4:=by rw [hW4];exact(Below.refl _ _).alloc (Nat.le_refl _) _
   have bB:Blk W4 w3.heap.size #[.int .i64 kb,.int .i64 nb,.int .u64 (bb:Int),.string sb,.slice pLb nLb cLb,.slice pEb nEb cEb] 26:=by rw [hW4];exact jb _ _ _
   have b24:=B3.out.trans (b4.mono B3.out.size);have bA4:=HBA.out.below b24;have HF:=ja (HB2.out.trans (b24.mono HB2.out.size));have KS:=ja (Je (jP HLA2.out b24) (jP HLB.out b4));obtain⟨d0,d1,d2,d3,d4,d5⟩:=bB.cells6;obtain⟨g0,g1,g2,g3,g4,g5⟩:=bA4.cells6;clear hW4 bB bA4
   go_wp2_with (go_at_call 13;refine KS.out.mono ?_;rintro e w5 ⟨rfl,b5⟩;have B5:=ja (HF.out.trans (b5.mono HF.out.size));clear b5)
   go_ret;exact⟨by first | rfl | simp,B5.out⟩
  ·have HR0:=ja hr0
   have hrr:(r.2.1 == r.2.1)=true:=by simp
   clear hr0
   go_enter Tryd.func6,Tryd.ntmps6
   go_upto_region 3 with fail
   rw [<-HW0.out];clear HW0
   go_upto_region 4 with (go_at_call 25;refine(jc KA).mono ?_;rintro e w1 ⟨b1,_,h0⟩;have h0':=h0 HR0.out;subst h0';have B1:=ja b1;clear b1 h0)
   clear KA a0 a1 a2 a3 a4 a5;obtain⟨W2,hW2⟩:∃W2,W2=w1.alloc (.cells #[.int .i64 0,.int .i64 0,.int .u64 0,.string ⟨#[]⟩,.slice none 0 0,.slice none 0 0] 26):=⟨_,rfl⟩
   rw [<-hW2];have b2:Below w1.heap.size w1 W2:=by rw [hW2];exact(Below.refl _ _).alloc (Nat.le_refl _) _
   have HBA:Hid (Blk W2 w1.heap.size #[.int .i64 0,.int .i64 0,.int .u64 0,.string ⟨#[]⟩,.slice none 0 0,.slice none 0 0] 26):=ja (by rw [hW2];exact jb _ _ _);have b02:=B1.out.trans (b2.mono B1.out.size);have HB2:=ja (HB0.out.trans (b02.mono HB0.out.size));have HA2:=HA.out.below b02;have a0:=HA2.cell 0 _ rfl;have a1:=HA2.cell 1 _ rfl;have a2:=HA2.cell 2 _ rfl;have a3:=HA2.cell 3 _ rfl;have a4:=HA2.cell 4 _ rfl;have a5:=HA2.cell 5 _ rfl;simp only [List.getElem_toArray,List.getElem_cons_zero,List.getElem_cons_succ] at a0 a1 a2 a3 a4 a5;clear hW2 HA2 b2 b02
   go_upto_region 5 with (go_at_call 26;refine(KD.out _ HB2.out).mono ?_;rintro e w3 ⟨b3,_,h0⟩;have h0':=h0 HR0.out;subst h0';have B3:=ja b3;clear b3 h0)
   clear KD a0 a1 a2 a3 a4 a5;obtain⟨W4,hW4⟩:∃W4,W4=w3.alloc (.cells #[.int .i64 0,.int .i64 0,.int .u64 0,.string ⟨#[]⟩,.slice none 0 0,.slice none 0 0] 26):=⟨_,rfl⟩
   rw [<-hW4];have b4:Below w3.heap.size w3 W4:=by rw [hW4];exact(Below.refl _ _).alloc (Nat.le_refl _) _
   have bB:Blk W4 w3.heap.size #[.int .i64 0,.int .i64 0,.int .u64 0,.string ⟨#[]⟩,.slice none 0 0,.slice none 0 0] 26:=by rw [hW4];exact jb _ _ _
   have b24:=B3.out.trans (b4.mono B3.out.size);have bA4:=HBA.out.below b24;have HF:=ja (HB2.out.trans (b24.mono HB2.out.size));have KS:=ja (Je (zR (fun _=>True) W4) (zR (fun _=>True) W4));obtain⟨d0,d1,d2,d3,d4,d5⟩:=bB.cells6;obtain⟨g0,g1,g2,g3,g4,g5⟩:=bA4.cells6;clear hW4 bB bA4
   go_wp2_with (go_at_call 13;refine KS.out.mono ?_;rintro e w5 ⟨rfl,b5⟩;have B5:=ja (HF.out.trans (b5.mono HF.out.size));clear b5)
   go_ret;exact⟨by first | rfl | simp,B5.out⟩
theorem Ye (f:Nat)(w:World)(t:V)(a0 a1 a2 a3 a4 a5:Value)(hl:LiesV (fun q=>q<w.heap.size) f w [a0,a1,a2,a3,a4,a5] t)(hn:jd f t<=1048576)(qo:Option Addr)(co:Nat)(l:List OpD)(hO:LiesO w qo l)(hc:l.length<=co)(hm:co<=maxLen)(hT:jt w) :
  Calls Tryd.prog 6 #[.agg #[a0,a1,a2,a3,a4,a5],.slice qo l.length co] w fun e w'=>e=.returned (.bool true)/\Below w.heap.size w w':=by
 obtain⟨k,n,b,s,pL,nL,cL,pE,nE,cE,rfl,rfl,rfl,rfl,rfl,rfl⟩:=hl.form;exact jan f w t k n b s pL nL cL pE nE cE hl (by omega) qo co l hO (by unfold maxLen at hm;omega) hT
end upds
end Go.Proofs.YtadaehaemmelfaaDoor
