/- Of our texts, what this claim reaches. -/
import Derived.Test.YtnbfnjhbmeocfabGreatDoorPsaBW
import Derived.Test.YtnbfnjhbmeocfabGreatDoorPsaBZ
set_option linter.unusedVariables false
set_option maxHeartbeats 8000000
set_option maxRecDepth 100000
namespace Go.Proofs.YtnbfnjhbmeocfabGreatDoor
namespace valus
open Go.RowKit Go.Shelf
open toks (MaxOk)
open bigs (jV)
theorem jkv (w:World)(hT:ShowTabs w):Calls Tryz.prog 6 #[] w fun e w'=>e=.returned (.bool true)/\Below w.heap.size w w':=by
 obtain⟨F,hF⟩:=jbt w hT;have K:=jko 1 hF w 0 0 0 ⟨#[]⟩ none 0 0 none 0 0 jaf hT (jhB _ w) (by decide);rw [jhD,jaP] at K;have HK:=jd K;clear K hF hT
 go_enter Tryz.func6,Tryz.ntmps6
 go_wp2_with (go_at_call 7;refine(ja HK).mono ?_;rintro e w1 ⟨rfl,b1⟩)
 go_ret;exact⟨rfl,b1⟩
theorem jht (l:List UInt8):(⟨l.toArray⟩:ByteArray).size=l.length:=by
 show l.toArray.size=l.length
 rw [List.size_toArray]
open Go.RowKit Go.Shelf
open toks (MaxOk)
open bigs (jV)
theorem jm4 {s:ByteArray}{v:V}(hA:qB s (.inl v)):jM qe v=0:=(jo0 hA).2.2
theorem jdv {s:ByteArray}(h:20000<s.size):qB s (.inr (0,2)):=.inl ⟨h,rfl⟩
theorem jeN (w:World)(s:ByteArray)(hs:s.size<=9223372036854775807)(hM:MaxOk w)(hT:ShowTabs w) :
  Calls Tryz.prog 5 #[.string s] w fun e w'=>e=.returned (.bool true)/\Below w.heap.size w w':=by
 obtain⟨F,hF⟩:=jbt w hT;have K0:=jd (jkv w hT);have KM:Hid (∀(x:ByteArray) (w1:World),Below w.heap.size w w1->Calls Tryz.prog 11 #[.string x] w1 (jgh x w1)):=jd fun x w1 h1=>jmj w1 x (hM.below (Nat.le_refl _) h1) (hT.below h1).utf
 have HT:=jd hT;have HF:=jd hF;clear hM hT hF
 go_enter Tryz.func5,Tryz.ntmps5
 go_upto_region 3 with (go_at_call 6;refine(ja K0).mono ?_;rintro e w1 ⟨rfl,b1⟩)
 have KM1:=jd (KM.out s w1 b1);have H1:=jd b1;clear b1 K0
 go_upto_region 4 with (go_at_call 11;refine(ja KM1).mono ?_;rintro e w2 ⟨hres,b2⟩;rcases hres with ⟨vk,nn,b,z,pL,nL,cL,pE,nE,cE,v,rfl,hA,hl⟩ | ⟨⟨p1,p2⟩,rfl,hA⟩)
 ·have bV:Below w2.heap.size w2 (w2.alloc (.cells #[.int .i64 vk,.int .i64 nn,.int .u64 (b:Int),.string z,.slice pL nL cL,.slice pE nE cE] 26)):=(Below.refl _ w2).alloc (Nat.le_refl _) _
  have b02:=H1.out.trans ((b2.trans (bV.mono b2.size)).mono H1.out.size);have hl2:LiesV (fun q=>q<(w2.alloc (.cells #[.int .i64 vk,.int .i64 nn,.int .u64 (b:Int),.string z,.slice pL nL cL,.slice pE nE cE] 26)).heap.size) 40 (w2.alloc (.cells #[.int .i64 vk,.int .i64 nn,.int .u64 (b:Int),.string z,.slice pL nL cL,.slice pE nE cE] 26)) [.int .i64 vk,.int .i64 nn,.int .u64 (b:Int),.string z,.slice pL nL cL,.slice pE nE cE] v:=hl.kept (fun q hq=>Nat.lt_of_lt_of_le hq.2 bV.size) bV.size (fun q hq _=>bV.block q hq.2);have hz:=jm4 hA;obtain⟨hfit,_⟩:=joT hl2 hz;have hno:jW 40 v<=10000000:=by have:=(JO hl2.isV hz).2;omega
  have hX:=jf w2 #[.int .i64 vk,.int .i64 nn,.int .u64 (b:Int),.string z,.slice pL nL cL,.slice pE nE cE] 26;have x0:=hX.cell 0 _ rfl;have x1:=hX.cell 1 _ rfl;have x2:=hX.cell 2 _ rfl;have x3:=hX.cell 3 _ rfl;have x4:=hX.cell 4 _ rfl;have x5:=hX.cell 5 _ rfl;have KS:=jdf 40 HF.out _ vk nn b z pL nL cL pE nE cE v (HT.out.below b02) hl2 hno;rw [hz,Xm F true hz] at KS;have hlen:=ZN HF.out true 20 0 v hfit.i hfit.g hz (by omega);have hnod:=(JO hfit.i hz).2;obtain⟨T,hTT⟩:∃T,T=Zd F true 20 v:=⟨_,rfl⟩
  have lT:T.length<=100000000:=by rw [hTT];unfold Zd;rw [List.length_append,if_pos rfl,List.length_cons,List.length_nil];omega
  rw [<-hTT] at KS;have zT:=jht T;obtain⟨S,hS⟩:∃S:ByteArray,S=⟨T.toArray⟩:=⟨_,rfl⟩
  rw [<-hS] at KS zT;have HKS:=jd KS
  have HA:Hid (S.size<=20000->qB S (.inl v)):=jd fun h=>by
   rw [zT,hTT] at h;rw [hS,hTT];exact jjE HF.out true hfit h
  have H2:=jd b02;have lS:S.size<=100000000:=by omega
  have KB:Hid (∀(w4:World) (yk yn:Int) (yb:Nat) (yz:ByteArray) (yL:Option Addr) (yl yc:Nat) (yE:Option Addr) (ye yd:Nat),Below w.heap.size w w4->LiesV (fun q=>q<w4.heap.size) 40 w4 [.int .i64 yk,.int .i64 yn,.int .u64 (yb:Int),.string yz,.slice yL yl yc,.slice yE ye yd] v->Calls Tryz.prog 8 #[.agg #[.int .i64 yk,.int .i64 yn,.int .u64 (yb:Int),.string yz,.slice yL yl yc,.slice yE ye yd]] w4 fun e w'=>e=.returned (.tuple #[.string S,.int .i64 0])/\Below w4.heap.size w4 w'):=jd fun w4 yk yn yb yz yL yl yc yE ye yd h4 hly=>by
   have K:=jdf 40 HF.out w4 yk yn yb yz yL yl yc yE ye yd v (HT.out.below h4) hly hno;rw [hz,Xm F true hz,<-hTT,<-hS] at K;exact K
  have eqS:(S.toList == S.toList)=true:=beq_self_eq_true _;clear bV b02 hl2 hz hfit hno hX KS hlen hnod hTT lT hS hl hA b2 KM1 H1 zT HF HT
  go_upto_region 9 with (go_at_call 8;refine(ja HKS).mono ?_;rintro e w3 ⟨rfl,b3⟩)
  have b03:=H2.out.trans (b3.mono H2.out.size);have H3:=jd b03;have KM2:=KM.out S w3 b03
  by_cases hc:S.size<=20000
  ·have hd:¬(S.size:Int) > 20000:=by omega
   have KM3:=jd (jnT (HA.out hc) KM2);clear KM2 KM HKS b3 b03 H2 HA x0 x1 x2 x3 x4 x5
   go_upto_region 10 with (go_at_call 11;refine(ja KM3).mono ?_;rintro e w4 ⟨⟨yk,yn,yb,yz,yL,yl,yc,yE,ye,yd,rfl,hly⟩,b4⟩)
   have bA:Below w4.heap.size w4 (w4.alloc (.cells #[.int .i64 yk,.int .i64 yn,.int .u64 (yb:Int),.string yz,.slice yL yl yc,.slice yE ye yd] 26)):=(Below.refl _ w4).alloc (Nat.le_refl _) _;have b04:=H3.out.trans ((b4.trans (bA.mono b4.size)).mono H3.out.size);have hly2:LiesV (fun q=>q<(w4.alloc (.cells #[.int .i64 yk,.int .i64 yn,.int .u64 (yb:Int),.string yz,.slice yL yl yc,.slice yE ye yd] 26)).heap.size) 40 (w4.alloc (.cells #[.int .i64 yk,.int .i64 yn,.int .u64 (yb:Int),.string yz,.slice yL yl yc,.slice yE ye yd] 26)) [.int .i64 yk,.int .i64 yn,.int .u64 (yb:Int),.string yz,.slice yL yl yc,.slice yE ye yd] v:=hly.kept (fun q hq=>Nat.lt_of_lt_of_le hq.2 bA.size) bA.size (fun q hq _=>bA.block q hq.2);have hY:=jf w4 #[.int .i64 yk,.int .i64 yn,.int .u64 (yb:Int),.string yz,.slice yL yl yc,.slice yE ye yd] 26;have y0:=hY.cell 0 _ rfl;have y1:=hY.cell 1 _ rfl
   have y2:=hY.cell 2 _ rfl;have y3:=hY.cell 3 _ rfl;have y4:=hY.cell 4 _ rfl;have y5:=hY.cell 5 _ rfl;have KB1:=jd (KB.out _ yk yn yb yz yL yl yc yE ye yd b04 hly2);have H4:=jd b04;clear KB bA b04 hly2 hY hly b4 KM3 H3
   go_wp2_with (go_at_call 8;refine(ja KB1).mono ?_;rintro e w5 ⟨rfl,b5⟩)
   go_ret;exact⟨rfl,H4.out.trans (b5.mono H4.out.size)⟩
  ·have hd:(S.size:Int) > 20000:=by omega
   have KM3:Hid (Calls Tryz.prog 11 #[.string S] w3 fun e w'=>e=.returned (.tuple #[.agg #[.int .i64 0,.int .i64 0,.int .u64 0,.string ⟨#[]⟩,.slice none 0 0,.slice none 0 0],.int .i64 0,.int .i64 2])/\Below w3.heap.size w3 w'):=jd (KM2.mono fun e w' ⟨h1,h2⟩=>⟨by
    rcases h1 with ⟨_,_,_,_,_,_,_,_,_,_,u,_,h4,_⟩ | ⟨pq,h3,h4⟩
    ·have:=zF h4 (jdv (by omega))
     cases this
    ·have:=zF h4 (jdv (by omega))
     injection this with this;subst this;exact h3,h2⟩)
   clear KM2 KM HKS b3 b03 H2 HA x0 x1 x2 x3 x4 x5 KB
   go_wp2_with (go_at_call 11;refine(ja KM3).mono ?_;rintro e w4 ⟨rfl,b4⟩)
   go_ret;exact⟨rfl,H3.out.trans ((b4.trans ((Below.refl _ w4).alloc b4.size _)).mono H3.out.size)⟩
 ·have h2:=(jjo hA).2
  simp only at h2;have g1:(p2 != 0)=true:=bne_iff_ne.2 h2;have b02:=H1.out.trans ((b2.trans ((Below.refl _ w2).alloc b2.size (.cells #[.int .i64 0,.int .i64 0,.int .u64 0,.string ⟨#[]⟩,.slice none 0 0,.slice none 0 0] 26))).mono H1.out.size);have H2:=jd b02;clear h2 b02 b2 hA KM KM1 H1 HT HF;go_wp2;go_ret;exact⟨rfl,H2.out⟩
end valus
end Go.Proofs.YtnbfnjhbmeocfabGreatDoor
