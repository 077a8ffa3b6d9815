/- Of our texts, what this claim reaches. -/
import Derived.Test.YtnbfnjhbmeocfaaGreatDoorPmtBS
import Derived.Test.YtnbfnjhbmeocfaaGreatDoorPmtBW
import Derived.Test.YtnbfnjhbmeocfaaGreatDoorPmtBU
import Derived.Test.YtnbfnjhbmeocfaaGreatDoorPmtBZ
import Derived.Test.YtnbfnjhbmeocfaaGreatDoorPmtAF
set_option linter.unusedVariables false
set_option maxHeartbeats 8000000
set_option maxRecDepth 100000
namespace Go.Proofs.YtnbfnjhbmeocfaaGreatDoor
namespace valus
open Go.RowKit Go.Shelf
open toks (MaxOk)
theorem je3 (k:List UInt8)(h:jU qi (Q4 k)=0):ja9 k=escs.jJ (utfs.YS k)/\(∀r∈utfs.YS k,utfs.sc r=true)/\k=utfs.enc (utfs.YS k):=by
 have p2:utfs.bad k<0:=(jbm (Yx h)).2.1;obtain⟨g1,g2⟩:=utfs.Q8 p2;refine⟨?_,g2,g1⟩;unfold ja9;rw [if_pos h];unfold escs.Qu;rw [if_neg (by omega)]
theorem jb8 (w:World)(s t key:ByteArray)(hs:s.size<=9223372036854775807)(ht:t.size<=9223372036854775807)(hkey:key.size<=9223372036854775807)(hM:MaxOk w)(hT:ShowTabs w) :
  Calls Tryz.prog 7 #[.string s,.string t,.string key] w fun e w'=>e=.returned (.bool true)/\Below w.heap.size w w':=by
 have K0:=jd (jhL w hM hT.utf);have KM:Hid (∀(x:ByteArray) (w1:World),Below w.heap.size w w1->Calls Tryz.prog 11 #[.string x] w1 (jfN x w1)):=jd fun x w1 h1=>jdt w1 x (hM.below (Nat.le_refl _) h1) (hT.below h1).utf
 obtain⟨er,her⟩:∃er,er=jU qi (Q4 key.data.toList):=⟨_,rfl⟩
 obtain⟨KS,hKS⟩:∃KS:ByteArray,KS=⟨(ja9 key.data.toList).toArray⟩:=⟨_,rfl⟩
 have KL:Hid (∀w1,Below w.heap.size w w1->Calls Tryz.prog 20 #[.agg #[.int .i64 4,.int .i64 0,.int .u64 0,.string key,.slice none 0 0,.slice none 0 0]] w1 fun e w'=>e=.returned (.tuple #[.string KS,.int .i64 er])/\Below w1.heap.size w1 w'):=jd fun w1 h1=>by
  rw [hKS,her];exact jhp w1 key (by unfold maxLen;omega) (hT.below h1)
 have HQ:Hid (er=0->∃rs:List Int,(∀r∈rs,utfs.sc r=true)/\KS.data.toList=escs.jJ rs/\(key.size<=100->KS.size<=602)):=jd fun h0=>by
  obtain⟨e1,e2,e3⟩:=je3 key.data.toList (by rw [<-her];exact h0);refine⟨_,e2,by rw [hKS,e1],fun hk=>?_⟩;have:=escs.YT e2;rw [<-e3] at this;have ek:key.data.toList.length=key.size:=by rw [Array.length_toList];rfl
  rw [hKS,e1,jeT];omega
 clear hM hT her hKS
 go_enter Tryz.func7,Tryz.ntmps7
 go_upto_region 3 with (go_at_call 14;refine(ja K0).mono ?_;rintro e w1 ⟨rfl,b1⟩)
 have KM1:=jd (KM.out s w1 b1);have H1:=jd b1;clear b1 K0
 go_upto_region 4 with (go_at_call 11;refine(ja KM1).mono ?_;rintro e w2 ⟨hres,b2⟩;rcases hres with ⟨vk,nn,b,z,pL,nL,cL,pE,nE,cE,v,rfl,hA,hl⟩ | ⟨⟨p1,p2⟩,rfl,hA⟩)
 ·have bV:Below w2.heap.size w2 (w2.alloc (.cells #[.int .i64 vk,.int .i64 nn,.int .u64 (b:Int),.string z,.slice pL nL cL,.slice pE nE cE] 26)):=(Below.refl _ w2).alloc (Nat.le_refl _) _
  have b02:=H1.out.trans ((b2.trans (bV.mono b2.size)).mono H1.out.size);have hl2:LiesV (fun q=>q<(w2.alloc (.cells #[.int .i64 vk,.int .i64 nn,.int .u64 (b:Int),.string z,.slice pL nL cL,.slice pE nE cE] 26)).heap.size) 40 (w2.alloc (.cells #[.int .i64 vk,.int .i64 nn,.int .u64 (b:Int),.string z,.slice pL nL cL,.slice pE nE cE] 26)) [.int .i64 vk,.int .i64 nn,.int .u64 (b:Int),.string z,.slice pL nL cL,.slice pE nE cE] v:=hl.kept (fun q hq=>Nat.lt_of_lt_of_le hq.2 bV.size) bV.size (fun q hq _=>bV.block q hq.2);have hX:=jf w2 #[.int .i64 vk,.int .i64 nn,.int .u64 (b:Int),.string z,.slice pL nL cL,.slice pE nE cE] 26;have hno:jP 40 v<=10000000:=by have:=(J0 hl2.isV (Qf hA).2.2).2;omega
  clear bV hl b2;generalize w2.alloc (.cells #[.int .i64 vk,.int .i64 nn,.int .u64 (b:Int),.string z,.slice pL nL cL,.slice pE nE cE] 26)=W2 at *;generalize w2.heap.size=B2 at *;have KM2:=jd (KM.out t W2 b02);have H2:=jd (And.intro b02 (And.intro hl2 (And.intro hX hno)));have HA:=jd hA;clear b02 hl2 hX hno hA H1 KM1
  go_upto_region 5 with (go_at_call 11;refine(ja KM2).mono ?_;rintro e w3 ⟨hres,b3⟩;rcases hres with ⟨uk,un,ub,uz,qL,mL,dL,qE,mE,dE,u,rfl,hA',hl'⟩ | ⟨⟨p1,p2⟩,rfl,hA'⟩)
  ·obtain⟨b02,hl2,hX,hno⟩:=H2.out
   have bV:Below w3.heap.size w3 (w3.alloc (.cells #[.int .i64 uk,.int .i64 un,.int .u64 (ub:Int),.string uz,.slice qL mL dL,.slice qE mE dE] 26)):=(Below.refl _ w3).alloc (Nat.le_refl _) _;have b23:=b3.trans (bV.mono b3.size);have b03:=b02.trans (b23.mono b02.size);have hu2:LiesV (fun q=>q<(w3.alloc (.cells #[.int .i64 uk,.int .i64 un,.int .u64 (ub:Int),.string uz,.slice qL mL dL,.slice qE mE dE] 26)).heap.size) 40 (w3.alloc (.cells #[.int .i64 uk,.int .i64 un,.int .u64 (ub:Int),.string uz,.slice qL mL dL,.slice qE mE dE] 26)) [.int .i64 uk,.int .i64 un,.int .u64 (ub:Int),.string uz,.slice qL mL dL,.slice qE mE dE] u:=hl'.kept (fun q hq=>Nat.lt_of_lt_of_le hq.2 bV.size) bV.size (fun q hq _=>bV.block q hq.2)
   have hv2:=hl2.kept (ok':=fun q=>q<(w3.alloc (.cells #[.int .i64 uk,.int .i64 un,.int .u64 (ub:Int),.string uz,.slice qL mL dL,.slice qE mE dE] 26)).heap.size) (fun q hq=>Nat.lt_of_lt_of_le hq b23.size) b23.size (fun q hq _=>b23.block q hq);have hY:=jf w3 #[.int .i64 uk,.int .i64 un,.int .u64 (ub:Int),.string uz,.slice qL mL dL,.slice qE mE dE] 26;have hX3:=hX.below b23;have hnu:jP 40 u<=10000000:=by have:=(J0 hu2.isV (Qf hA').2.2).2;omega
   clear bV hl' b3 b23 b02 hl2 hX;generalize w3.alloc (.cells #[.int .i64 uk,.int .i64 un,.int .u64 (ub:Int),.string uz,.slice qL mL dL,.slice qE mE dE] 26)=W3 at *;generalize w3.heap.size=B3 at *;have z1:s.size<=20000:=(Qf HA.out).1;have z2:t.size<=20000:=(Qf hA').1;have H3:=jd b03;obtain⟨dv,hdv⟩:∃dv:Nat,dv=jO 40 v:=⟨_,rfl⟩
   obtain⟨du,hdu⟩:∃du:Nat,du=jO 40 u:=⟨_,rfl⟩
   have dv20:dv<=20:=by rw [hdv];exact(J0 hv2.isV (Qf HA.out).2.2).1
   have du20:du<=20:=by rw [hdu];exact(J0 hu2.isV (Qf hA').2.2).1
   have KD1:Hid (Calls Tryz.prog 19 #[.agg #[.int .i64 vk,.int .i64 nn,.int .u64 (b:Int),.string z,.slice pL nL cL,.slice pE nE cE]] W3 fun e w'=>e=.returned (.int .i64 (dv:Int))/\Below W3.heap.size W3 w'):=jd (by rw [hdv];exact callsIn_wide.1 (jbJ 40 W3 v _ _ _ _ _ _ hv2 hno))
   have KD2:Hid (∀w4,Below W3.heap.size W3 w4->Calls Tryz.prog 19 #[.agg #[.int .i64 uk,.int .i64 un,.int .u64 (ub:Int),.string uz,.slice qL mL dL,.slice qE mE dE]] w4 fun e w'=>e=.returned (.int .i64 (du:Int))/\Below w4.heap.size w4 w'):=jd fun w4 h4=>by
    rw [hdu];exact callsIn_wide.1 (jbJ 40 w4 u _ _ _ _ _ _ (hu2.kept (fun q hq=>Nat.lt_of_lt_of_le hq h4.size) h4.size (fun q hq _=>h4.block q hq)) hnu)
   have x0:=hX3.cell 0 _ rfl;have x1:=hX3.cell 1 _ rfl;have x2:=hX3.cell 2 _ rfl;have x3:=hX3.cell 3 _ rfl;have x4:=hX3.cell 4 _ rfl;have x5:=hX3.cell 5 _ rfl;have HA':=jd hA';have HD:=jd (And.intro hdv hdu);have HY:=jd hY;clear hv2 hu2 hno hnu hX3 hA' hdv hdu H2 b03 hY KM2
   by_cases hc:s.size+t.size<=18000
   ·have g1:¬(s.size:Int)+(t.size:Int) > 18000:=by omega
    by_cases hdv':dv<=19
    ·have g2:¬(dv:Int) ≥ 20:=by omega
     by_cases hdu':du<=19
     ·have g3:¬(du:Int) ≥ 20:=by omega
      go_upto_region 7 with (first
       | (go_at_call 19;refine(ja KD3).mono ?_;rintro e w5 ⟨rfl,b5⟩)
       | (go_at_call 19;refine(ja KD1).mono ?_;rintro e w4 ⟨rfl,b4⟩;have KD3:=jd (KD2.out w4 b4);have Y4:=HY.out.below b4;have y0:=Y4.cell 0 _ rfl;have y1:=Y4.cell 1 _ rfl;have y2:=Y4.cell 2 _ rfl;have y3:=Y4.cell 3 _ rfl;have y4:=Y4.cell 4 _ rfl;have y5:=Y4.cell 5 _ rfl;have H4:=jd (H3.out.trans (b4.mono H3.out.size));clear KD1 KD2 b4 Y4 x0 x1 x2 x3 x4 x5))
      have b05:=H4.out.trans (b5.mono H4.out.size);have KL1:=jd (KL.out w5 b05);have H5:=jd b05;clear b5 b05 KL y0 y1 y2 y3 y4 y5 H4 KD3 H3
      by_cases h0:er=0
      ·obtain⟨rs,hrs,hq,hsz⟩:=HQ.out h0
       subst h0
       by_cases hk:key.size<=100
       ·have g4:¬(key.size:Int) > 100:=by omega
        have hKs:=hsz hk;obtain⟨A1,hA1⟩:∃A1:ByteArray,A1=⟨#[123]⟩++KS:=⟨_,rfl⟩
        obtain⟨A2,hA2⟩:∃A2:ByteArray,A2=A1++⟨#[58]⟩:=⟨_,rfl⟩
        obtain⟨A3,hA3⟩:∃A3:ByteArray,A3=A2++s:=⟨_,rfl⟩
        obtain⟨A4,hA4⟩:∃A4:ByteArray,A4=A3++⟨#[10,44]⟩:=⟨_,rfl⟩
        obtain⟨A5,hA5⟩:∃A5:ByteArray,A5=A4++KS:=⟨_,rfl⟩
        obtain⟨A6,hA6⟩:∃A6:ByteArray,A6=A5++⟨#[61]⟩:=⟨_,rfl⟩
        obtain⟨A7,hA7⟩:∃A7:ByteArray,A7=A6++t:=⟨_,rfl⟩
        obtain⟨A8,hA8⟩:∃A8:ByteArray,A8=A7++⟨#[10,125]⟩:=⟨_,rfl⟩
        have n1:A1.size=1+KS.size:=by rw [hA1,ByteArray.size_append];rfl
        have n2:A2.size=A1.size+1:=by rw [hA2,ByteArray.size_append];rfl
        have n3:A3.size=A2.size+s.size:=by rw [hA3,ByteArray.size_append]
        have n4:A4.size=A3.size+2:=by rw [hA4,ByteArray.size_append];rfl
        have n5:A5.size=A4.size+KS.size:=by rw [hA5,ByteArray.size_append]
        have n6:A6.size=A5.size+1:=by rw [hA6,ByteArray.size_append];rfl
        have n7:A7.size=A6.size+t.size:=by rw [hA7,ByteArray.size_append]
        have n8:A8.size=A7.size+2:=by rw [hA8,ByteArray.size_append];rfl
        have k1:∀u,(Op.stringOp .add ⟨#[123]⟩ KS).run Tryz.prog u=.ok (.string A1) u:=fun u=>by rw [hA1];exact jdE _ _ (by show 1+KS.size<=_;omega) u
        have k2:∀u,(Op.stringOp .add A1 ⟨#[58]⟩).run Tryz.prog u=.ok (.string A2) u:=fun u=>by rw [hA2];exact jdE _ _ (by show A1.size+1<=_;omega) u
        have k3:∀u,(Op.stringOp .add A2 s).run Tryz.prog u=.ok (.string A3) u:=fun u=>by rw [hA3];exact jdE _ _ (by omega) u
        have k4:∀u,(Op.stringOp .add A3 ⟨#[10,44]⟩).run Tryz.prog u=.ok (.string A4) u:=fun u=>by rw [hA4];exact jdE _ _ (by show A3.size+2<=_;omega) u
        have k5:∀u,(Op.stringOp .add A4 KS).run Tryz.prog u=.ok (.string A5) u:=fun u=>by rw [hA5];exact jdE _ _ (by omega) u
        have k6:∀u,(Op.stringOp .add A5 ⟨#[61]⟩).run Tryz.prog u=.ok (.string A6) u:=fun u=>by rw [hA6];exact jdE _ _ (by show A5.size+1<=_;omega) u
        have k7:∀u,(Op.stringOp .add A6 t).run Tryz.prog u=.ok (.string A7) u:=fun u=>by rw [hA7];exact jdE _ _ (by omega) u
        have k8:∀u,(Op.stringOp .add A7 ⟨#[10,125]⟩).run Tryz.prog u=.ok (.string A8) u:=fun u=>by rw [hA8];exact jdE _ _ (by show A7.size+2<=_;omega) u
        have eF:A4.data.toList=Jo (escs.jJ rs) s.data.toList:=by
         rw [hA4,hA3,hA2,hA1,qX,qX,qX,qX,hq];unfold Jo;simp
        have eX:A8.data.toList=jcj (escs.jJ rs) s.data.toList t.data.toList:=by
         rw [hA8,hA7,hA6,hA5,qX,qX,qX,qX,eF,hq];unfold jcj;simp
        have lF:(Jo (escs.jJ rs) s.data.toList).length=A4.size:=by rw [<-eF,Array.length_toList];rfl
        obtain⟨hdv,hdu⟩:=HD.out;have ANS:=jdM hrs HA.out HA'.out (by rw [<-hdv];exact hdv') (by rw [<-hdu];exact hdu') eX (by omega);rw [lF] at ANS
        have KX:Hid (∀w6,Below w.heap.size w w6->Calls Tryz.prog 11 #[.string A8] w6 fun e w'=>e=.returned (.tuple #[.agg #[.int .i64 0,.int .i64 0,.int .u64 0,.string ⟨#[]⟩,.slice none 0 0,.slice none 0 0],.int .i64 (A4.size:Int),.int .i64 6])/\Below w6.heap.size w6 w'):=jd fun w6 h6=>(KM.out A8 w6 h6).mono fun e w' ⟨h1,h2⟩=>⟨by
         rcases h1 with ⟨_,_,_,_,_,_,_,_,_,_,q,_,h4,_⟩ | ⟨pq,h3,h4⟩
         ·have:=q8 h4 ANS
          cases this
         ·have:=q8 h4 ANS
          injection this with this;subst this;exact h3,h2⟩
        have gA:A4.size<=1000000:=by omega
        clear ANS eX eF lF hA1 hA2 hA3 hA4 hA5 hA6 hA7 hA8 n1 n2 n3 n4 n5 n6 n7 n8 hdv hdu HA HA' HD KM HQ hq hsz hrs
        go_upto_region 12 with (first
         | (go_at_call 20;refine(ja KL1).mono ?_;rintro e w6 ⟨rfl,b6⟩;have b06:=H5.out.trans (b6.mono H5.out.size);have KX1:=jd (KX.out w6 b06);have H6:=jd b06;clear b6 b06)
         | (go_at_call 11;refine(ja KX1).mono ?_;rintro e w7 ⟨rfl,b7⟩))
        have bZ:Below w7.heap.size w7 (w7.alloc (.cells #[.int .i64 0,.int .i64 0,.int .u64 0,.string ⟨#[]⟩,.slice none 0 0,.slice none 0 0] 26)):=(Below.refl _ w7).alloc (Nat.le_refl _) _;have b07:=H6.out.trans ((b7.trans (bZ.mono b7.size)).mono H6.out.size);have hZ:=jf w7 #[.int .i64 0,.int .i64 0,.int .u64 0,.string ⟨#[]⟩,.slice none 0 0,.slice none 0 0] 26;have KA:=jd (Zh 1 1 (mkV (0,0,0,[]) [] []) (w7.alloc (.cells #[.int .i64 0,.int .i64 0,.int .u64 0,.string ⟨#[]⟩,.slice none 0 0,.slice none 0 0] 26)) _ _ _ _ _ _ _ _ _ _ _ _ (jas _ _) (jas _ _));have v0:=hZ.cell 0 _ rfl;have v1:=hZ.cell 1 _ rfl;have v2:=hZ.cell 2 _ rfl;have v3:=hZ.cell 3 _ rfl;have v4:=hZ.cell 4 _ rfl;have v5:=hZ.cell 5 _ rfl;have H7:=jd b07;clear bZ b07 hZ b7 KX1 KX KL1 H6 H5 k1 k2 k3 k4 k5 k6 k7 k8
        go_wp2_with (go_at_call 18;refine(ja KA).mono ?_;rintro e w8 ⟨rfl,b8⟩)
        go_ret;exact⟨rfl,H7.out.trans (b8.mono H7.out.size)⟩
       ·have g4:(key.size:Int) > 100:=by omega
        clear HQ hq hsz hrs KM HA HA' HD
        go_wp2_with (go_at_call 20;refine(ja KL1).mono ?_;rintro e w6 ⟨rfl,b6⟩)
        go_ret;exact⟨rfl,H5.out.trans (b6.mono H5.out.size)⟩
      ·have g0:(er != 0)=true:=bne_iff_ne.2 h0
       clear HQ KM HA HA' HD
       go_wp2_with (go_at_call 20;refine(ja KL1).mono ?_;rintro e w6 ⟨rfl,b6⟩)
       go_ret;exact⟨rfl,H5.out.trans (b6.mono H5.out.size)⟩
     ·have g3:(du:Int) ≥ 20:=by omega
      clear KM KL HQ HA HA' HD
      go_wp2_with (first
       | (go_at_call 19;refine(ja KD3).mono ?_;rintro e w5 ⟨rfl,b5⟩)
       | (go_at_call 19;refine(ja KD1).mono ?_;rintro e w4 ⟨rfl,b4⟩;have KD3:=jd (KD2.out w4 b4);have Y4:=HY.out.below b4;have y0:=Y4.cell 0 _ rfl;have y1:=Y4.cell 1 _ rfl;have y2:=Y4.cell 2 _ rfl;have y3:=Y4.cell 3 _ rfl;have y4:=Y4.cell 4 _ rfl;have y5:=Y4.cell 5 _ rfl;have H4:=jd (H3.out.trans (b4.mono H3.out.size));clear KD1 KD2 b4 Y4 x0 x1 x2 x3 x4 x5))
      go_ret;exact⟨rfl,H4.out.trans (b5.mono H4.out.size)⟩
    ·have g2:(dv:Int) ≥ 20:=by omega
     clear KM KL HQ HA HA' HD KD2
     go_wp2_with (go_at_call 19;refine(ja KD1).mono ?_;rintro e w4 ⟨rfl,b4⟩)
     go_ret;exact⟨rfl,H3.out.trans (b4.mono H3.out.size)⟩
   ·have g1:(s.size:Int)+(t.size:Int) > 18000:=by omega
    clear KM KL HQ HA HA' HD KD1 KD2;go_wp2;go_ret;exact⟨rfl,H3.out⟩
  ·have h2:=(jbl hA').2
   simp only at h2;have g1:(p2 != 0)=true:=bne_iff_ne.2 h2;have b03:=H2.out.1.trans ((b3.trans ((Below.refl _ w3).alloc b3.size (.cells #[.int .i64 0,.int .i64 0,.int .u64 0,.string ⟨#[]⟩,.slice none 0 0,.slice none 0 0] 26))).mono H2.out.1.size);have H3:=jd b03;clear h2 b03 b3 hA' KM KM2 H2 HA KL HQ;go_wp2;go_ret;exact⟨rfl,H3.out⟩
 ·have h2:=(jbl hA).2
  simp only at h2;have g1:(p2 != 0)=true:=bne_iff_ne.2 h2;have b02:=H1.out.trans ((b2.trans ((Below.refl _ w2).alloc b2.size (.cells #[.int .i64 0,.int .i64 0,.int .u64 0,.string ⟨#[]⟩,.slice none 0 0,.slice none 0 0] 26))).mono H1.out.size);have H2:=jd b02
  have KM2:Hid (Calls Tryz.prog 11 #[.string t] (w2.alloc (.cells #[.int .i64 0,.int .i64 0,.int .u64 0,.string ⟨#[]⟩,.slice none 0 0,.slice none 0 0] 26)) fun e w'=>(∃(yk yn:Int) (yb:Nat) (yz:ByteArray) (yL:Option Addr) (yl yc:Nat) (yE:Option Addr) (ye yd:Nat) (q1 q2:Int),e=.returned (.tuple #[.agg #[.int .i64 yk,.int .i64 yn,.int .u64 (yb:Int),.string yz,.slice yL yl yc,.slice yE ye yd],.int .i64 q1,.int .i64 q2]))/\Below (w2.alloc (.cells #[.int .i64 0,.int .i64 0,.int .u64 0,.string ⟨#[]⟩,.slice none 0 0,.slice none 0 0] 26)).heap.size (w2.alloc (.cells #[.int .i64 0,.int .i64 0,.int .u64 0,.string ⟨#[]⟩,.slice none 0 0,.slice none 0 0] 26)) w'):=jd ((KM.out t _ b02).mono fun e w' ⟨h1,h3⟩=>⟨by
   rcases h1 with ⟨yk,yn,yb,yz,yL,yl,yc,yE,ye,yd,q,h4,_,_⟩ | ⟨pq,h4,_⟩
   ·exact⟨yk,yn,yb,yz,yL,yl,yc,yE,ye,yd,0,0,h4⟩
   ·exact⟨0,0,0,⟨#[]⟩,none,0,0,none,0,0,pq.1,pq.2,h4⟩,h3⟩)
  clear h2 b02 b2 hA KM KM1 H1 KL HQ
  go_upto_region 5 with (go_at_call 11;refine(ja KM2).mono ?_;rintro e w3 ⟨⟨yk,yn,yb,yz,yL,yl,yc,yE,ye,yd,q1,q2,rfl⟩,b3⟩)
  have b03:=H2.out.trans ((b3.trans ((Below.refl _ w3).alloc b3.size (.cells #[.int .i64 yk,.int .i64 yn,.int .u64 (yb:Int),.string yz,.slice yL yl yc,.slice yE ye yd] 26))).mono H2.out.size);have H3:=jd b03;clear b03 b3 H2 KM2;go_wp2;go_ret;exact⟨rfl,H3.out⟩
end valus
end Go.Proofs.YtnbfnjhbmeocfaaGreatDoor
