/- Of our texts, what this claim reaches. -/
import Derived.Test.YtnbfnjhbmeocfabGreatDoorPsbBW
import Derived.Test.YtnbfnjhbmeocfabGreatDoorPsbBZ
set_option linter.unusedVariables false
set_option maxHeartbeats 8000000
set_option maxRecDepth 100000
namespace Go.Proofs.YtnbfnjhbmeocfabGreatDoor
namespace valus
open Go.RowKit Go.Shelf
open toks (MaxOk)
open bigs (jW)
theorem jjZ (w:World)(hT:ShowTabs w):Calls Tryz.prog 6 #[] w fun e w'=>e=.returned (.bool true)/\Below w.heap.size w w':=by
 obtain⟨F,hF⟩:=jbG w hT;have K:=jdc 1 hF w 0 0 0 ⟨#[]⟩ none 0 0 none 0 0 jas hT (jim _ w) (by decide);rw [jhd,ja5] at K;have HK:=jd K;clear K hF hT
 go_enter Tryz.func6,Tryz.ntmps6
 go_wp2_with (go_at_call 7;refine(ja HK).mono ?_;rintro e w1 ⟨rfl,b1⟩)
 go_ret;exact⟨rfl,b1⟩
theorem jcn (l:List UInt8):(⟨l.toArray⟩:ByteArray).size=l.length:=by
 show l.toArray.size=l.length
 rw [List.size_toArray]
theorem jfY (f:Nat)(w:World)(t:V)(a0 a1 a2 a3 a4 a5:Value)(hl:LiesV (fun b=>b<w.heap.size) f w [a0,a1,a2,a3,a4,a5] t)(hn:jJ f t<=1048576)(hM:MaxOk w)(hT:ShowTabs w) :
  Calls Tryz.prog 3 #[.agg #[a0,a1,a2,a3,a4,a5]] w fun e w'=>e=.returned (.bool true)/\Below w.heap.size w w':=by
 obtain⟨k,n,b,s,pL,nL,cL,pE,nE,cE,rfl,rfl,rfl,rfl,rfl,rfl⟩:=hl.form;obtain⟨F,hF⟩:=jbG w hT;have bV:Below w.heap.size w (w.alloc (.cells #[.int .i64 k,.int .i64 n,.int .u64 (b:Int),.string s,.slice pL nL cL,.slice pE nE cE] 26)):=(Below.refl _ w).alloc (Nat.le_refl _) _;have hX:=jf w #[.int .i64 k,.int .i64 n,.int .u64 (b:Int),.string s,.slice pL nL cL,.slice pE nE cE] 26;obtain⟨W,hW⟩:∃W,W=w.alloc (.cells #[.int .i64 k,.int .i64 n,.int .u64 (b:Int),.string s,.slice pL nL cL,.slice pE nE cE] 26):=⟨_,rfl⟩
 rw [<-hW] at bV hX;have later:∀w1,Below w.heap.size w w1->LiesV (fun q=>q<w1.heap.size) f w1 [.int .i64 k,.int .i64 n,.int .u64 (b:Int),.string s,.slice pL nL cL,.slice pE nE cE] t:=fun w1 h1=>hl.kept (fun q hq=>Nat.lt_of_lt_of_le hq h1.size) h1.size (fun q hq _=>h1.block q hq)
 obtain⟨T1,hT1⟩:∃T1,T1=JQ F false t:=⟨_,rfl⟩
 obtain⟨T2,hT2⟩:∃T2,T2=JQ F true t:=⟨_,rfl⟩
 obtain⟨er,her⟩:∃er,er=jH qa t:=⟨_,rfl⟩
 have K0:=jd (jjZ W (hT.below bV))
 have K1:Hid (∀w1,Below w.heap.size w w1->Calls Tryz.prog 7 #[.agg #[.int .i64 k,.int .i64 n,.int .u64 (b:Int),.string s,.slice pL nL cL,.slice pE nE cE]] w1 fun e w'=>e=.returned (.tuple #[.string ⟨T1.toArray⟩,.int .i64 er])/\Below w1.heap.size w1 w'):=jd fun w1 h1=>by
  rw [hT1,her];exact jdc f hF w1 k n b s pL nL cL pE nE cE t (hT.below h1) (later w1 h1) (by omega)
 have K2:Hid (∀w1,Below w.heap.size w w1->Calls Tryz.prog 8 #[.agg #[.int .i64 k,.int .i64 n,.int .u64 (b:Int),.string s,.slice pL nL cL,.slice pE nE cE]] w1 fun e w'=>e=.returned (.tuple #[.string ⟨T2.toArray⟩,.int .i64 er])/\Below w1.heap.size w1 w'):=jd fun w1 h1=>by
  rw [hT2,her];exact jj7 f hF w1 k n b s pL nL cL pE nE cE t (hT.below h1) (later w1 h1) (by omega)
 have HX:=jd (And.intro bV hX);have HL:=jd later;have HM:Hid (∀(s:ByteArray) (w1:World),Below w.heap.size w w1->Calls Tryz.prog 11 #[.string s] w1 (jgT s w1)):=jd fun s w1 h1=>jlT w1 s (hM.below (Nat.le_refl _) h1) (hT.below h1).utf
 by_cases h0:er=0
 ·have hz:jH qa t=0:=by rw [<-her];exact h0
  obtain⟨hfit,_⟩:=jpq hl hz;rw [Xi F false hz] at hT1;rw [Xi F true hz] at hT2
  have i1:decide (0<=Lib.indexByte (⟨T1.toArray⟩:ByteArray).data.toList 10)=false:=by
   show decide (0<=Lib.indexByte T1 10)=false
   rw [hT1,jjQ hF hfit]
   decide
  have i2:Lib.hasSuffix (⟨T2.toArray⟩:ByteArray).data.toList (⟨#[10]⟩:ByteArray).data.toList=true:=by
   show Lib.hasSuffix T2 [10]=true
   rw [hT2];exact jhf F t
  have hlen1:=Qn hF false 20 0 t hfit.i hfit.g hz (by omega);have hlen2:=Qn hF true 20 0 t hfit.i hfit.g hz (by omega);have hnod:=(Qy hfit.i hz).2;have z1:=jcn T1;have z2:=jcn T2;have l1:T1.length<=100000000:=by rw [hT1];unfold J9;rw [List.length_append,if_neg (by decide),List.length_nil];omega
  have l2:T2.length<=100000000:=by rw [hT2];unfold J9;rw [List.length_append,if_pos rfl,List.length_cons,List.length_nil];omega
  have m1:T1.length<=20000->qV ⟨T1.toArray⟩ (.inl t):=fun h=>by rw [hT1] at h ⊢;exact jdZ hF false hfit h
  have m2:T2.length<=20000->qV ⟨T2.toArray⟩ (.inl t):=fun h=>by rw [hT2] at h ⊢;exact jdZ hF true hfit h
  have KC:∀w1,Hid (Calls Tryz.prog 9 #[.string ⟨T1.toArray⟩,.string ⟨#[10]⟩] w1 fun e w'=>e=.returned (.bool false)/\w'=w1):=fun w1=>jd (by have:=Tryz.strings_Contains_one ⟨T1.toArray⟩ 10 w1;rw [i1] at this;exact this)
  have KS:∀w1,Hid (Calls Tryz.prog 10 #[.string ⟨T2.toArray⟩,.string ⟨#[10]⟩] w1 fun e w'=>e=.returned (.bool true)/\w'=w1):=fun w1=>jd (by have:=Tryz.strings_HasSuffix ⟨T2.toArray⟩ ⟨#[10]⟩ w1 (by rw [z2];omega);rw [i2] at this;exact this)
  have HM1:=jd m1;have HM2:=jd m2;have HZ:=jd (And.intro z1 (And.intro z2 (And.intro l1 l2)));clear hl hn hM hF hT1 hT2 her later bV hX i1 i2 hlen1 hlen2 hnod m1 m2 z1 z2 l1 l2 hfit hz;obtain⟨S1,hS1⟩:∃S1:ByteArray,S1=⟨T1.toArray⟩:=⟨_,rfl⟩
  obtain⟨S2,hS2⟩:∃S2:ByteArray,S2=⟨T2.toArray⟩:=⟨_,rfl⟩
  rw [<-hS1] at K1 KC HM1 HZ;rw [<-hS2] at K2 KS HM2 HZ;clear hS1 hS2;subst h0;have g1:S1.size<=100000000:=by have:=HZ.out;omega
  have g2:S2.size<=100000000:=by have:=HZ.out;omega
  go_enter Tryz.func3,Tryz.ntmps3
  go_upto_region 1 with fail
  rw [<-hW];clear hW
  go_upto_region 3 with (go_at_call 6;refine(ja K0).mono ?_;rintro e w1 ⟨rfl,b1⟩)
  have b01:=HX.out.1.trans (b1.mono HX.out.1.size);have X1:=HX.out.2.below b1;have x0:=X1.cell 0 _ rfl;have x1:=X1.cell 1 _ rfl;have x2:=X1.cell 2 _ rfl;have x3:=X1.cell 3 _ rfl;have x4:=X1.cell 4 _ rfl;have x5:=X1.cell 5 _ rfl;have K1':=jd (K1.out w1 b01);have H1:=jd (And.intro b01 X1);clear b1 b01 X1 K0 K1 HX
  go_upto_region 4 with (go_at_call 7;refine(ja K1').mono ?_;rintro e w2 ⟨rfl,b2⟩)
  have b02:=H1.out.1.trans (b2.mono H1.out.1.size);have X2:=H1.out.2.below b2;clear x0 x1 x2 x3 x4 x5;have x0:=X2.cell 0 _ rfl;have x1:=X2.cell 1 _ rfl;have x2:=X2.cell 2 _ rfl;have x3:=X2.cell 3 _ rfl;have x4:=X2.cell 4 _ rfl;have x5:=X2.cell 5 _ rfl;have K2':=jd (K2.out w2 b02);have H2:=jd (And.intro b02 X2);clear b2 b02 X2 K1' K2 H1
  go_upto_region 7 with (go_at_call 8;refine(ja K2').mono ?_;rintro e w3 ⟨rfl,b3⟩)
  have b03:=H2.out.1.trans (b3.mono H2.out.1.size);have X3:=H2.out.2.below b3;have H3:=jd (And.intro b03 X3);clear x0 x1 x2 x3 x4 x5 b3 b03 X3 K2' H2
  go_upto_region 9 with (first | (go_at_call 9;refine(ja (KC _)).mono ?_;rintro e w4 ⟨rfl,rfl⟩) | (go_at_call 10;refine(ja (KS _)).mono ?_;rintro e w4 ⟨rfl,rfl⟩))
  by_cases c1:S1.size<=20000
  ·by_cases c2:S2.size<=20000
   ·have d1:¬(S1.size:Int) > 20000:=by omega
    have d2:¬(S2.size:Int) > 20000:=by omega
    have M1:=HM1.out (by have:=HZ.out;omega);have M2:=HM2.out (by have:=HZ.out;omega);have KM1:=jd (jjb M1 (HM.out S1 _ H3.out.1));have KM2:Hid (∀w1,Below w.heap.size w w1->Calls Tryz.prog 11 #[.string S2] w1 fun e w'=>(∃(xk xn:Int) (xb:Nat) (xz:ByteArray) (xL:Option Addr) (xl xc:Nat) (xE:Option Addr) (xe xd:Nat),e=.returned (.tuple #[.agg #[.int .i64 xk,.int .i64 xn,.int .u64 (xb:Int),.string xz,.slice xL xl xc,.slice xE xe xd],.int .i64 0,.int .i64 0])/\LiesV (fun q=>w1.heap.size<=q/\q<w'.heap.size) 40 w' [.int .i64 xk,.int .i64 xn,.int .u64 (xb:Int),.string xz,.slice xL xl xc,.slice xE xe xd] t)/\Below w1.heap.size w1 w'):=jd fun w1 h1=>jjb M2 (HM.out S2 w1 h1)
    clear M1 M2 HM HM1 HM2 KC KS HZ
    go_upto_region 12 with (go_at_call 11;refine(ja KM1).mono ?_;rintro e w5 ⟨⟨xk,xn,xb,xz,xL,xl,xc,xE,xe,xd,rfl,hlx⟩,b5⟩)
    have bA:Below w5.heap.size w5 (w5.alloc (.cells #[.int .i64 xk,.int .i64 xn,.int .u64 (xb:Int),.string xz,.slice xL xl xc,.slice xE xe xd] 26)):=(Below.refl _ w5).alloc (Nat.le_refl _) _;have b05:=H3.out.1.trans ((b5.trans (bA.mono b5.size)).mono H3.out.1.size);have Xv:=(H3.out.2.below b5).below bA;have Xx:=jf w5 #[.int .i64 xk,.int .i64 xn,.int .u64 (xb:Int),.string xz,.slice xL xl xc,.slice xE xe xd] 26;have hlx2:LiesV (fun q=>q<(w5.alloc (.cells #[.int .i64 xk,.int .i64 xn,.int .u64 (xb:Int),.string xz,.slice xL xl xc,.slice xE xe xd] 26)).heap.size) 40 (w5.alloc (.cells #[.int .i64 xk,.int .i64 xn,.int .u64 (xb:Int),.string xz,.slice xL xl xc,.slice xE xe xd] 26)) [.int .i64 xk,.int .i64 xn,.int .u64 (xb:Int),.string xz,.slice xL xl xc,.slice xE xe xd] t:=hlx.kept (fun q hq=>Nat.lt_of_lt_of_le hq.2 bA.size) bA.size (fun q hq _=>bA.block q hq.2);clear hlx
    generalize w5.alloc (.cells #[.int .i64 xk,.int .i64 xn,.int .u64 (xb:Int),.string xz,.slice xL xl xc,.slice xE xe xd] 26)=W5 at *;have KM2':=jd (KM2.out W5 b05);have H5:=jd (And.intro b05 (And.intro Xv (And.intro Xx hlx2)));clear KM1 KM2 bA b05 Xv Xx hlx2 b5 H3;generalize w5.heap.size=B5 at *
    go_upto_region 13 with (go_at_call 11;refine(ja KM2').mono ?_;rintro e w6 ⟨⟨yk,yn,yb,yz,yL,yl,yc,yE,ye,yd,rfl,hly⟩,b6⟩)
    obtain⟨b05,Xv,Xx,hlx2⟩:=H5.out;have bA:Below w6.heap.size w6 (w6.alloc (.cells #[.int .i64 yk,.int .i64 yn,.int .u64 (yb:Int),.string yz,.slice yL yl yc,.slice yE ye yd] 26)):=(Below.refl _ w6).alloc (Nat.le_refl _) _;have b56:=b6.trans (bA.mono b6.size);have b06:=b05.trans (b56.mono b05.size);have Xv6:=(Xv.below b6).below bA;have Xx6:=(Xx.below b6).below bA;have Xy6:=jf w6 #[.int .i64 yk,.int .i64 yn,.int .u64 (yb:Int),.string yz,.slice yL yl yc,.slice yE ye yd] 26;have hlx6:=hlx2.kept (ok':=fun q=>q<(w6.alloc (.cells #[.int .i64 yk,.int .i64 yn,.int .u64 (yb:Int),.string yz,.slice yL yl yc,.slice yE ye yd] 26)).heap.size) (fun q hq=>Nat.lt_of_lt_of_le hq b56.size) b56.size (fun q hq _=>b56.block q hq)
    have hly6:LiesV (fun q=>q<(w6.alloc (.cells #[.int .i64 yk,.int .i64 yn,.int .u64 (yb:Int),.string yz,.slice yL yl yc,.slice yE ye yd] 26)).heap.size) 40 (w6.alloc (.cells #[.int .i64 yk,.int .i64 yn,.int .u64 (yb:Int),.string yz,.slice yL yl yc,.slice yE ye yd] 26)) [.int .i64 yk,.int .i64 yn,.int .u64 (yb:Int),.string yz,.slice yL yl yc,.slice yE ye yd] t:=hly.kept (fun q hq=>Nat.lt_of_lt_of_le hq.2 bA.size) bA.size (fun q hq _=>bA.block q hq.2);clear hly bA b6 b56 Xv Xx hlx2 b05;generalize w6.alloc (.cells #[.int .i64 yk,.int .i64 yn,.int .u64 (yb:Int),.string yz,.slice yL yl yc,.slice yE ye yd] 26)=W6 at *;generalize w6.heap.size=B6 at *;have KA1:=jd (QC 40 f t W6 _ _ _ _ _ _ _ _ _ _ _ _ hlx6 (HL.out W6 b06))
    have KA2:Hid (∀w7,Below W6.heap.size W6 w7->Calls Tryz.prog 12 #[.agg #[.int .i64 yk,.int .i64 yn,.int .u64 (yb:Int),.string yz,.slice yL yl yc,.slice yE ye yd],.agg #[.int .i64 k,.int .i64 n,.int .u64 (b:Int),.string s,.slice pL nL cL,.slice pE nE cE]] w7 fun e w'=>e=.returned (.bool true)/\Below w7.heap.size w7 w'):=jd fun w7 h7=>QC 40 f t w7 _ _ _ _ _ _ _ _ _ _ _ _ (hly6.kept (fun q hq=>Nat.lt_of_lt_of_le hq h7.size) h7.size (fun q hq _=>h7.block q hq)) (HL.out w7 (b06.trans (h7.mono b06.size)))
    have H6:=jd (And.intro b06 (And.intro Xv6 Xy6));have u0:=Xx6.cell 0 _ rfl;have u1:=Xx6.cell 1 _ rfl;have u2:=Xx6.cell 2 _ rfl;have u3:=Xx6.cell 3 _ rfl;have u4:=Xx6.cell 4 _ rfl;have u5:=Xx6.cell 5 _ rfl;have v0:=Xv6.cell 0 _ rfl;have v1:=Xv6.cell 1 _ rfl;have v2:=Xv6.cell 2 _ rfl;have v3:=Xv6.cell 3 _ rfl;have v4:=Xv6.cell 4 _ rfl;have v5:=Xv6.cell 5 _ rfl;clear hlx6 hly6 HL Xv6 Xx6 Xy6 b06 H5 KM2'
    go_wp2_with (first
     | (go_at_call 12;refine(ja KA3).mono ?_;rintro e w8 ⟨rfl,b8⟩)
     | (go_at_call 12;refine(ja KA1).mono ?_;rintro e w7 ⟨rfl,b7⟩;have KA3:=jd (KA2.out w7 b7);have Xv7:=H6.out.2.1.below b7;have Xy7:=H6.out.2.2.below b7;have H7:=jd (H6.out.1.trans (b7.mono H6.out.1.size));have y0:=Xy7.cell 0 _ rfl;have y1:=Xy7.cell 1 _ rfl;have y2:=Xy7.cell 2 _ rfl;have y3:=Xy7.cell 3 _ rfl;have y4:=Xy7.cell 4 _ rfl;have y5:=Xy7.cell 5 _ rfl;have z0:=Xv7.cell 0 _ rfl;have z1:=Xv7.cell 1 _ rfl;have z2:=Xv7.cell 2 _ rfl;have z3:=Xv7.cell 3 _ rfl;have z4:=Xv7.cell 4 _ rfl;have z5:=Xv7.cell 5 _ rfl;clear KA1 KA2 Xv7 Xy7 b7 u0 u1 u2 u3 u4 u5 v0 v1 v2 v3 v4 v5))
    go_ret;exact⟨rfl,H7.out.trans (b8.mono H7.out.size)⟩
   ·have d1:¬(S1.size:Int) > 20000:=by omega
    have d2:(S2.size:Int) > 20000:=by omega
    clear HM HM1 HM2 KC KS HZ;go_wp2;go_ret;exact⟨rfl,H3.out.1⟩
  ·have d1:(S1.size:Int) > 20000:=by omega
   clear HM HM1 HM2 KC KS HZ;go_wp2;go_ret;exact⟨rfl,H3.out.1⟩
 ·have hz:jH qa t≠0:=by rw [<-her];exact h0
  rw [jdg F false hz] at hT1;rw [jdg F true hz] at hT2;subst hT1 hT2;have g0:(er != 0)=true:=bne_iff_ne.2 h0;have g1:(er == er)=true:=beq_self_eq_true er;clear hl hn hM hF her later bV hX hz HL HM
  go_enter Tryz.func3,Tryz.ntmps3
  go_upto_region 1 with fail
  rw [<-hW];clear hW
  go_upto_region 3 with (go_at_call 6;refine(ja K0).mono ?_;rintro e w1 ⟨rfl,b1⟩)
  have b01:=HX.out.1.trans (b1.mono HX.out.1.size);have X1:=HX.out.2.below b1;have x0:=X1.cell 0 _ rfl;have x1:=X1.cell 1 _ rfl;have x2:=X1.cell 2 _ rfl;have x3:=X1.cell 3 _ rfl;have x4:=X1.cell 4 _ rfl;have x5:=X1.cell 5 _ rfl;have K1':=jd (K1.out w1 b01);have H1:=jd (And.intro b01 X1);clear b1 b01 X1 K0 K1 HX
  go_upto_region 4 with (go_at_call 7;refine(ja K1').mono ?_;rintro e w2 ⟨rfl,b2⟩)
  have b02:=H1.out.1.trans (b2.mono H1.out.1.size);have X2:=H1.out.2.below b2;clear x0 x1 x2 x3 x4 x5;have x0:=X2.cell 0 _ rfl;have x1:=X2.cell 1 _ rfl;have x2:=X2.cell 2 _ rfl;have x3:=X2.cell 3 _ rfl;have x4:=X2.cell 4 _ rfl;have x5:=X2.cell 5 _ rfl;have K2':=jd (K2.out w2 b02);have H2:=jd b02;clear b2 b02 X2 K1' K2 H1
  go_wp2_with (go_at_call 8;refine(ja K2').mono ?_;rintro e w3 ⟨rfl,b3⟩)
  go_ret;exact⟨rfl,H2.out.trans (b3.mono H2.out.size)⟩
end valus
end Go.Proofs.YtnbfnjhbmeocfabGreatDoor
