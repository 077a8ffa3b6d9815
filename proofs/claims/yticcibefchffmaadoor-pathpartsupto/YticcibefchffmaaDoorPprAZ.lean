/- Of our texts, what this claim reaches. -/
import Derived.Test.YticcibefchffmaaDoorPprAU
import Derived.Test.YticcibefchffmaaDoorPprAY
import Derived.Test.YticcibefchffmaaDoorPprAT
import Derived.Test.YticcibefchffmaaDoorPprAF
set_option linter.unusedVariables false
set_option maxHeartbeats 16000000
set_option maxRecDepth 100000
namespace Go.Proofs.YticcibefchffmaaDoor
namespace paths
open Go.RowKit
open utfs (ja jb)
open valus (V mkV LiesV Blk jc jd RowIn qm jn)
theorem qK (w:World):LiesV (fun q=>q<w.heap.size) 1 w [.int .i64 0,.int .i64 0,.int .u64 0,.string ⟨#[]⟩,.slice none 0 0,.slice none 0 0] (mkV (0,0,0,[]) [] []):=by
 refine⟨0,0,0,⟨#[]⟩,[],[],none,none,0,0,rfl,rfl,⟨⟨by omega,by omega⟩,⟨by omega,by omega⟩,by omega,by simp [ByteArray.size]⟩,⟨by simp,by simp,by simp,by simp⟩,fun h=>absurd rfl h,fun h=>absurd rfl h⟩
theorem jm (w:World):Calls Tryd.prog 25 #[.agg #[.int .i64 0,.int .i64 0,.int .u64 0,.string ⟨#[]⟩,.slice none 0 0,.slice none 0 0],.agg #[.int .i64 0,.int .i64 0,.int .u64 0,.string ⟨#[]⟩,.slice none 0 0,.slice none 0 0]] w fun e w'=>e=.returned (.bool true)/\Below w.heap.size w w':=jn 1 1 _ w _ _ _ _ _ _ _ _ _ _ _ _ (qK w) (qK w)
theorem LiesV.later {f:Nat}{w w':World}{us:List Value}{t:V}(h:LiesV (fun q=>q<w.heap.size) f w us t)(hb:Below w.heap.size w w'):LiesV (fun q=>q<w'.heap.size) f w' us t:=h.kept (fun q h=>Nat.lt_of_lt_of_le h hb.size) hb.size (fun q h _=>hb.block q h)
theorem jM (f:Nat)(W:World)(t:V)(k n:Int)(b:Nat)(s:ByteArray)(pL:Option Addr)(nL cL:Nat)(pE:Option Addr)(nE cE:Nat)(hl:LiesV (fun q=>q<W.heap.size) f W [.int .i64 k,.int .i64 n,.int .u64 (b:Int),.string s,.slice pL nL cL,.slice pE nE cE] t)(hn:jd f t<=1048576)(p q:Option Addr)(c d:Nat)(P Q:List St)(hP:LiesP W p P)(hQ:LiesP W q Q)(hPl:P.length<=9223372036854775807)(hQl:Q.length<=9223372036854775807)(hqn:q=none->d=0)(hT:PTabs W)(hlsum:P.length+Q.length<=9223372036854775807)(hbad:P.length+Q.length > 20\/jl P≠0\/jl Q≠0) :
  Calls Tryd.prog 6 #[.agg #[.int .i64 k,.int .i64 n,.int .u64 (b:Int),.string s,.slice pL nL cL,.slice pE nE cE],.slice p P.length c,.slice q Q.length d] W fun e W'=>e=.returned (.bool true)/\Below W.heap.size W W':=by
 have b0:Below W.heap.size W (W.alloc (.cells #[.int .i64 k,.int .i64 n,.int .u64 (b:Int),.string s,.slice pL nL cL,.slice pE nE cE] 38)):=(Below.refl _ W).alloc (Nat.le_refl _) _;have K0:=ja (qX (W.alloc (.cells #[.int .i64 k,.int .i64 n,.int .u64 (b:Int),.string s,.slice pL nL cL,.slice pE nE cE] 38)) (hT.below b0));have K1:Hid (∀u,Below W.heap.size W u->Calls Tryd.prog 13 #[.slice p P.length c] u fun e w'=>e=.returned (.int .i64 (jl P))/\Below u.heap.size u w'):=ja fun u h=>jw u p c P (hP.keep h) hPl (hT.below h).esc.utf
 have K2:Hid (∀u,Below W.heap.size W u->Calls Tryd.prog 13 #[.slice q Q.length d] u fun e w'=>e=.returned (.int .i64 (jl Q))/\Below u.heap.size u w'):=ja fun u h=>jw u q d Q (hQ.keep h) hQl (hT.below h).esc.utf
 have B0:=ja b0
 by_cases h20:P.length+Q.length > 20
 ·have h20':(P.length:Int)+(Q.length:Int) > 20:=by omega
  have hsm:(P.length:Int)+(Q.length:Int)<=9223372036854775807\/(P.length:Int)+(Q.length:Int) > 9223372036854775807:=by omega
  clear hbad hl hn hP hQ hT b0
  rcases hsm with hsm | hsm
  ·go_enter Tryd.func6,Tryd.ntmps6
   go_wp2_with fail
   refine(jb K0).mono ?_
   rintro _ w1 ⟨rfl,b1⟩
   have B1:=ja (B0.out.trans (b1.mono B0.out.size));clear K0 b1 B0;go_wp2;go_ret;exact⟨rfl,B1.out⟩
  ·exact absurd hsm (by have:=hlsum;omega)
 ·have h20':¬(P.length:Int)+(Q.length:Int) > 20:=by omega
  have hbad2:jl P≠0\/jl Q≠0:=by rcases hbad with h | h;exact absurd h h20;exact h
  clear hbad hl hn hP hQ hT b0
  go_enter Tryd.func6,Tryd.ntmps6
  go_wp2_with fail
  refine(jb K0).mono ?_
  rintro _ w1 ⟨rfl,b1⟩
  have B1:=ja (B0.out.trans (b1.mono B0.out.size));have K1':=ja (K1.out w1 B1.out);clear K0 b1 B0 K1
  go_wp2_with fail
  refine(jb K1').mono ?_
  rintro _ w2 ⟨rfl,b2⟩
  have B2:=ja (B1.out.trans (b2.mono B1.out.size));clear b2 B1 K1'
  by_cases hc1:jl P=0
  ·have hc2:jl Q≠0:=by rcases hbad2 with h | h;exact absurd hc1 h;exact h
   rw [hc1];have K2':=ja (K2.out w2 B2.out);have n2:(jl Q != 0)=true:=bne_iff_ne.2 hc2;clear hc1 hc2 hbad2 K2;generalize jl Q=ce at *
   go_wp2_with fail
   refine(jb K2').mono ?_
   rintro _ w3 ⟨rfl,b3⟩
   have B3:=ja (B2.out.trans (b3.mono B2.out.size));clear b3 B2 K2';go_wp2;go_ret;exact⟨rfl,B3.out⟩
  ·have n1:(jl P != 0)=true:=bne_iff_ne.2 hc1
   clear hc1 hbad2 K2;generalize jl P=ce at *;go_wp2;go_ret;exact⟨rfl,B2.out⟩
theorem zU (f:Nat)(W:World)(t:V)(k n:Int)(b:Nat)(s:ByteArray)(pL:Option Addr)(nL cL:Nat)(pE:Option Addr)(nE cE:Nat)(hl:LiesV (fun q=>q<W.heap.size) f W [.int .i64 k,.int .i64 n,.int .u64 (b:Int),.string s,.slice pL nL cL,.slice pE nE cE] t)(hn:jd f t<=1048576)(p q:Option Addr)(c d:Nat)(P Q:List St)(hP:LiesP W p P)(hQ:LiesP W q Q)(hPl:P.length<=9223372036854775807)(hQl:Q.length<=9223372036854775807)(hqn:q=none->d=0)(hT:PTabs W)(h20:P.length+Q.length<=20)(hcP:jl P=0)(hcQ:jl Q=0) :
  Calls Tryd.prog 6 #[.agg #[.int .i64 k,.int .i64 n,.int .u64 (b:Int),.string s,.slice pL nL cL,.slice pE nE cE],.slice p P.length c,.slice q Q.length d] W fun e W'=>e=.returned (.bool true)/\Below W.heap.size W W':=by
 obtain⟨i0,hinf,hz0,hz1,hz2⟩:=info_parts zm;have b0:Below W.heap.size W (W.alloc (.cells #[.int .i64 k,.int .i64 n,.int .u64 (b:Int),.string s,.slice pL nL cL,.slice pE nE cE] 38)):=(Below.refl _ W).alloc (Nat.le_refl _) _;have K0:=ja (qX (W.alloc (.cells #[.int .i64 k,.int .i64 n,.int .u64 (b:Int),.string s,.slice pL nL cL,.slice pE nE cE] 38)) (hT.below b0));have K1:Hid (∀u,Below W.heap.size W u->Calls Tryd.prog 13 #[.slice p P.length c] u fun e w'=>e=.returned (.int .i64 0)/\Below u.heap.size u w'):=ja fun u h=>by have k:=jw u p c P (hP.keep h) hPl (hT.below h).esc.utf;rw [hcP] at k;exact k
 have K2:Hid (∀u,Below W.heap.size W u->Calls Tryd.prog 13 #[.slice q Q.length d] u fun e w'=>e=.returned (.int .i64 0)/\Below u.heap.size u w'):=ja fun u h=>by have k:=jw u q d Q (hQ.keep h) hQl (hT.below h).esc.utf;rw [hcQ] at k;exact k
 obtain⟨KP,hKP,okP,rowP⟩:=hP.sk;obtain⟨KQ,hKQ,okQ,rowQ⟩:=hQ.sk;have lP:KP.length=P.length:=by rw [<-hKP,List.length_map]
 have lQ:KQ.length=Q.length:=by rw [<-hKQ,List.length_map]
 have KCL:Hid (∀u,Below W.heap.size W u->Calls Tryd.prog 24 #[.slice p P.length c] u fun e w'=>∃v,e=.returned v/\w'.ownsRow u.heap.size 50 2 v KP.length (KP.flatMap stC)/\Below u.heap.size u w'):=ja fun u h=>zV u p c P KP hKP (by omega) (fun hne=>by
  obtain⟨bb,o,e,hb,hc⟩:=rowP hne;exact⟨bb,o,e,Nat.lt_of_lt_of_le hb h.size,fun j v hv=>(h.cell (p:=⟨bb,o+j,none⟩) hb).trans (hc j v hv)⟩)
 have HRQ:Hid (Q.length≠0->∃bb o,q=some ⟨bb,o,none⟩/\bb<W.heap.size/\∀j u,(KQ.flatMap stC)[j]?=some u->W.cell? ⟨bb,o+j,none⟩=some u):=ja rowQ;have hcB:=J2 hcP hcQ h20;have lead1:jP t P=jk t P:=by unfold jP;rw [if_pos hcP]
 have lead2:jP t (P++Q)=(QA (jk t P) Q):=by unfold jP;rw [if_pos hcB,qP]
 have lead3:∀y,jP y Q=jk y Q:=fun y=>by unfold jP;rw [if_pos hcQ]
 have KG1:Hid (∀u,Below W.heap.size W u->Calls Tryd.prog 16 #[.agg #[.int .i64 k,.int .i64 n,.int .u64 (b:Int),.string s,.slice pL nL cL,.slice pE nE cE],.slice p P.length c] u (Ql 1048576 (jk t P) u)):=ja fun u h=>by
  have k:=zj 1048576 (by omega) u f t _ _ _ _ _ _ (LiesV.later hl h) hn p c P (hP.keep h) hPl (hT.below h).esc.utf;rw [lead1] at k;exact k
 have KG2:Hid (∀u pb cb,Below W.heap.size W u->LiesP u pb (P++Q)->Calls Tryd.prog 16 #[.agg #[.int .i64 k,.int .i64 n,.int .u64 (b:Int),.string s,.slice pL nL cL,.slice pE nE cE],.slice pb (P.length+Q.length) cb] u (Ql 1048576 (QA (jk t P) Q) u)):=ja fun u pb cb h hb=>by
  have k:=zj 1048576 (by omega) u f t _ _ _ _ _ _ (LiesV.later hl h) hn pb cb (P++Q) hb (by rw [List.length_append];omega) (hT.below h).esc.utf;rw [lead2,List.length_append] at k;exact k
 have KG3:Hid (∀u y f' v0 v1 v2 v3 v4 v5,Below W.heap.size W u->LiesV (fun q=>q<u.heap.size) f' u [v0,v1,v2,v3,v4,v5] y->jd f' y<=1048576->Calls Tryd.prog 16 #[.agg #[v0,v1,v2,v3,v4,v5],.slice q Q.length d] u (Ql 1048576 (jk y Q) u)):=ja fun u y f' v0 v1 v2 v3 v4 v5 h hy hny=>by
  have k:=zj 1048576 (by omega) u f' y v0 v1 v2 v3 v4 v5 hy hny q d Q (hQ.keep h) hQl (hT.below h).esc.utf;rw [lead3] at k;exact k
 have HKB:Hid ((KP++KQ).map stL=P++Q):=ja (by rw [List.map_append,hKP,hKQ]);have HOK:Hid (QS (KP++KQ)):=ja (fun x hx=>by rcases List.mem_append.1 hx with h | h;exact okP x h;exact okQ x h);have HLP:=ja lP;have HLQ:=ja lQ;have HBX:=ja (jc W #[.int .i64 k,.int .i64 n,.int .u64 (b:Int),.string s,.slice pL nL cL,.slice pE nE cE] 38);have B0:=ja b0;have h20':¬(P.length:Int)+(Q.length:Int) > 20:=by omega
 clear hl hn hP hQ hT b0 hcP hcQ rowP rowQ okP okQ hKP hKQ hcB lead1 lead2 lead3 lP lQ
 go_enter Tryd.func6,Tryd.ntmps6
 go_wp2_with fail
 refine(jb K0).mono ?_
 rintro _ w1 ⟨rfl,b1⟩
 have B1:=ja (B0.out.trans (b1.mono B0.out.size));have X1:=ja (HBX.out.below b1);have K1':=ja (K1.out w1 B1.out);clear K0 b1 B0 K1 HBX
 go_wp2_with fail
 refine(jb K1').mono ?_
 rintro _ w2 ⟨rfl,b2⟩
 have B2:=ja (B1.out.trans (b2.mono B1.out.size));have X2:=ja (X1.out.below b2);have K2':=ja (K2.out w2 B2.out);clear b2 B1 K1' K2 X1
 go_wp2_with fail
 refine(jb K2').mono ?_
 rintro _ w3 ⟨rfl,b3⟩
 have B3:=ja (B2.out.trans (b3.mono B2.out.size));have X3:=ja (X2.out.below b3);have KCL':=ja (KCL.out w3 B3.out);clear b3 B2 K2' KCL X2
 go_wp2_with fail
 refine(jb KCL').mono ?_
 rintro _ w4 ⟨v,rfl,hown,b4⟩
 have B4:=ja (B3.out.trans (b4.mono B3.out.size));have X4:=ja (X3.out.below b4);have S34:=b4.size;have S3:=B3.out.size;have S3':=X3.out.lt;clear b4 KCL' X3;have hob:=hown.lt
 have FIN:Hid (∀(v':Value) (w5:World),w5.ownsRow w3.heap.size 50 2 v' (P.length+Q.length) ((KP++KQ).flatMap stC)->∃pb cb,v'=.slice pb (P.length+Q.length) cb/\LiesP w5 pb (P++Q)):=ja fun v' w5 h=>by
  have e:(KP++KQ).length=P.length+Q.length:=by rw [List.length_append,HLP.out,HLQ.out]
  rw [<-e] at h;obtain⟨pb,cb,h1,_,h3,_⟩:=Jt h HOK.out;rw [HKB.out] at h3;rw [e] at h1;exact⟨pb,cb,h1,h3⟩
 by_cases hQ0:Q.length=0
 ·have hQe:Q=[]:=List.eq_nil_of_length_eq_zero hQ0
  have hKQe:KQ=[]:=List.eq_nil_of_length_eq_zero (by rw [HLQ.out];exact hQ0);subst hQe hKQe;rw [HLP.out] at hown;have hcases:=hown.2
  rcases hcases with ⟨rfl,hP0⟩ | ⟨g0,cap0,cur0,rfl,hb0,hg0,hcap0,hrest⟩
  ·have hPe:P=[]:=List.eq_nil_of_length_eq_zero hP0
   subst hPe;have hLB:LiesP w4 none ([]++[]):=fun h=>absurd rfl h
   obtain⟨w5,hw5⟩:∃w5,w5=w4:=⟨_,rfl⟩
   subst hw5;have B5:=B4;have X5:=X4;clear B4 X4 hown hob FIN HRQ;cases q with
   | none=>
    obtain rfl:=hqn rfl;obtain⟨p0,p1,p2,p3,p4,p5⟩:=X5.out.cells6;have KG1':=ja (KG1.out w5 B5.out);have hL5:=ja hLB;clear hLB KG1
    go_wp2_with fail
    refine(jb KG1').mono ?_
    rintro _ w6 ⟨h6,b6⟩
    have B6:=ja (B5.out.trans (b6.mono B5.out.size));have X6:=ja (X5.out.below b6);have L6:=ja (hL5.out.keep b6);clear b6 KG1' X5 hL5 p0 p1 p2 p3 p4 p5
    rcases h6 with ⟨y,f1,u0,u1,u2,u3,u4,u5,e1,rfl,hly,hny⟩ | ⟨er,e1,hne,rfl⟩
    ·obtain⟨uk,un,ub,us,upL,unL,ucL,upE,unE,ucE,rfl,rfl,rfl,rfl,rfl,rfl⟩:=hly.form
     have bA6:Below w6.heap.size w6 (w6.alloc (.cells #[.int .i64 uk,.int .i64 un,.int .u64 (ub:Int),.string us,.slice upL unL ucL,.slice upE unE ucE] 38)):=(Below.refl _ w6).alloc (Nat.le_refl _) _;have BA6:=ja (B6.out.trans (bA6.mono B6.out.size));have XA6:=ja (X6.out.below bA6);have LA6:=ja (L6.out.keep bA6);have HY6:=ja (LiesV.later hly bA6);have HNY:=ja hny;have T8:=ja (jc w6 #[.int .i64 uk,.int .i64 un,.int .u64 (ub:Int),.string us,.slice upL unL ucL,.slice upE unE ucE] 38);have KG2':=ja (KG2.out _ none 0 BA6.out LA6.out);rw [e1] at KG2';obtain⟨p0,p1,p2,p3,p4,p5⟩:=XA6.out.cells6;clear bA6 KG2 e1 hly hny X6 L6
     go_wp2_with fail
     refine(jb KG2').mono ?_
     rintro _ w7 ⟨h7,b7⟩
     have B7:=ja (BA6.out.trans (b7.mono BA6.out.size));have T87:=ja (T8.out.below b7);have HY7:=ja (LiesV.later HY6.out b7);clear b7 KG2' BA6 XA6 LA6 T8 HY6 p0 p1 p2 p3 p4 p5
     rcases h7 with ⟨z,f2,x0,x1,x2,x3,x4,x5,e2,rfl,hlz,hnz⟩ | ⟨er,e2,hne,rfl⟩
     ·obtain⟨xk,xn,xb,xs,xpL,xnL,xcL,xpE,xnE,xcE,rfl,rfl,rfl,rfl,rfl,rfl⟩:=hlz.form
      have bA7:Below w7.heap.size w7 (w7.alloc (.cells #[.int .i64 xk,.int .i64 xn,.int .u64 (xb:Int),.string xs,.slice xpL xnL xcL,.slice xpE xnE xcE] 38)):=(Below.refl _ w7).alloc (Nat.le_refl _) _;have BA7:=ja (B7.out.trans (bA7.mono B7.out.size));have T8A:=ja (T87.out.below bA7);have HYA:=ja (LiesV.later HY7.out bA7);have T10:=ja (jc w7 #[.int .i64 xk,.int .i64 xn,.int .u64 (xb:Int),.string xs,.slice xpL xnL xcL,.slice xpE xnE xcE] 38);have HZA:=ja (LiesV.later hlz bA7);have KG3':=ja (KG3.out _ y f1 _ _ _ _ _ _ BA7.out HYA.out HNY.out);have e2':jk y []=_:=e2;rw [e2'] at KG3';obtain⟨p0,p1,p2,p3,p4,p5⟩:=T8A.out.cells6;clear bA7 KG3 e2 e2' hlz T87 HY7 HYA
      go_wp2_with fail
      refine(jb KG3').mono ?_
      rintro _ w8 ⟨h8,b8⟩
      have B8:=ja (BA7.out.trans (b8.mono BA7.out.size));have T108:=ja (T10.out.below b8);have HZ8:=ja (LiesV.later HZA.out b8);clear b8 KG3' BA7 T8A T10 p0 p1 p2 p3 p4 p5
      rcases h8 with ⟨z2,f3,v0,v1,v2,v3,v4,v5,e3,rfl,hlz2,hnz2⟩ | ⟨er2,e3,hne2,rfl⟩
      ·injection e3 with e3
       subst e3;obtain⟨vk,vn,vb,vs,vpL,vnL,vcL,vpE,vnE,vcE,rfl,rfl,rfl,rfl,rfl,rfl⟩:=hlz2.form;have bA8:Below w8.heap.size w8 (w8.alloc (.cells #[.int .i64 vk,.int .i64 vn,.int .u64 (vb:Int),.string vs,.slice vpL vnL vcL,.slice vpE vnE vcE] 38)):=(Below.refl _ w8).alloc (Nat.le_refl _) _;have BA8:=ja (B8.out.trans (bA8.mono B8.out.size));have T10A:=ja (T108.out.below bA8);have KA:=ja (jn f2 f3 z _ _ _ _ _ _ _ _ _ _ _ _ _ (LiesV.later HZ8.out bA8) (LiesV.later hlz2 bA8));obtain⟨p0,p1,p2,p3,p4,p5⟩:=T10A.out.cells6;clear bA8
       go_wp2_with fail
       refine(jb KA).mono ?_
       rintro _ w9 ⟨rfl,b9⟩
       have B9:=ja (BA8.out.trans (b9.mono BA8.out.size));clear b9 KA BA8;go_wp2;go_ret;exact⟨rfl,B9.out⟩
      ·cases e3
     ·have bA7:Below w7.heap.size w7 (w7.alloc (.cells #[.int .i64 0,.int .i64 0,.int .u64 0,.string ⟨#[]⟩,.slice none 0 0,.slice none 0 0] 38)):=(Below.refl _ w7).alloc (Nat.le_refl _) _
      have BA7:=ja (B7.out.trans (bA7.mono B7.out.size));have T8A:=ja (T87.out.below bA7);have HYA:=ja (LiesV.later HY7.out bA7);have T10:=ja (jc w7 #[.int .i64 0,.int .i64 0,.int .u64 0,.string ⟨#[]⟩,.slice none 0 0,.slice none 0 0] 38);have KG3':=ja (KG3.out _ y f1 _ _ _ _ _ _ BA7.out HYA.out HNY.out);have e2':jk y []=_:=e2;rw [e2'] at KG3';obtain⟨p0,p1,p2,p3,p4,p5⟩:=T8A.out.cells6;clear bA7 KG3 e2 e2' T87 HY7 HYA
      go_wp2_with fail
      refine(jb KG3').mono ?_
      rintro _ w8 ⟨h8,b8⟩
      have B8:=ja (BA7.out.trans (b8.mono BA7.out.size));have T108:=ja (T10.out.below b8);clear b8 KG3' BA7 T8A T10 p0 p1 p2 p3 p4 p5
      rcases h8 with ⟨z2,f3,v0,v1,v2,v3,v4,v5,e3,rfl,hlz2,hnz2⟩ | ⟨er2,e3,hne2,rfl⟩
      ·cases e3
      ·injection e3 with e3
       subst e3;have bA8:Below w8.heap.size w8 (w8.alloc (.cells #[.int .i64 0,.int .i64 0,.int .u64 0,.string ⟨#[]⟩,.slice none 0 0,.slice none 0 0] 38)):=(Below.refl _ w8).alloc (Nat.le_refl _) _;have BA8:=ja (B8.out.trans (bA8.mono B8.out.size));have T10A:=ja (T108.out.below bA8);have KA:=ja (jm (w8.alloc (.cells #[.int .i64 0,.int .i64 0,.int .u64 0,.string ⟨#[]⟩,.slice none 0 0,.slice none 0 0] 38)));obtain⟨p0,p1,p2,p3,p4,p5⟩:=T10A.out.cells6;clear bA8
       go_wp2_with fail
       refine(jb KA).mono ?_
       rintro _ w9 ⟨rfl,b9⟩
       have B9:=ja (BA8.out.trans (b9.mono BA8.out.size));clear b9 KA BA8;go_wp2;go_ret;exact⟨rfl,B9.out⟩
    ·have hne2:(er != 0)=true:=bne_iff_ne.2 hne
     have bA6:Below w6.heap.size w6 (w6.alloc (.cells #[.int .i64 0,.int .i64 0,.int .u64 0,.string ⟨#[]⟩,.slice none 0 0,.slice none 0 0] 38)):=(Below.refl _ w6).alloc (Nat.le_refl _) _;have BA6:=ja (B6.out.trans (bA6.mono B6.out.size));have XA6:=ja (X6.out.below bA6);have LA6:=ja (L6.out.keep bA6);have KG2':=ja (KG2.out _ none 0 BA6.out LA6.out);rw [e1] at KG2';obtain⟨p0,p1,p2,p3,p4,p5⟩:=XA6.out.cells6;clear bA6 KG2 e1 X6 L6
     go_wp2_with fail
     refine(jb KG2').mono ?_
     rintro _ w7 ⟨h7,b7⟩
     have B7:=ja (BA6.out.trans (b7.mono BA6.out.size));clear b7 KG2' BA6 XA6 LA6 p0 p1 p2 p3 p4 p5
     rcases h7 with ⟨z,f2,x0,x1,x2,x3,x4,x5,e2,rfl,hlz,hnz⟩ | ⟨er2,e2,hne3,rfl⟩
     ·cases e2
     ·injection e2 with e2
      subst e2;have bA7:Below w7.heap.size w7 (w7.alloc (.cells #[.int .i64 0,.int .i64 0,.int .u64 0,.string ⟨#[]⟩,.slice none 0 0,.slice none 0 0] 38)):=(Below.refl _ w7).alloc (Nat.le_refl _) _;have BA7:=ja (B7.out.trans (bA7.mono B7.out.size));have KA:=ja (jm (w7.alloc (.cells #[.int .i64 0,.int .i64 0,.int .u64 0,.string ⟨#[]⟩,.slice none 0 0,.slice none 0 0] 38)));clear bA7
      go_wp2_with fail
      refine(jb KA).mono ?_
      rintro _ w9 ⟨rfl,b9⟩
      have B9:=ja (BA7.out.trans (b9.mono BA7.out.size));clear b9 KA BA7;go_wp2;go_ret;exact⟨rfl,B9.out⟩
   | some ad=>
    obtain⟨p0,p1,p2,p3,p4,p5⟩:=X5.out.cells6;have KG1':=ja (KG1.out w5 B5.out);have hL5:=ja hLB;clear hLB KG1
    go_wp2_with fail
    refine(jb KG1').mono ?_
    rintro _ w6 ⟨h6,b6⟩
    have B6:=ja (B5.out.trans (b6.mono B5.out.size));have X6:=ja (X5.out.below b6);have L6:=ja (hL5.out.keep b6);clear b6 KG1' X5 hL5 p0 p1 p2 p3 p4 p5
    rcases h6 with ⟨y,f1,u0,u1,u2,u3,u4,u5,e1,rfl,hly,hny⟩ | ⟨er,e1,hne,rfl⟩
    ·obtain⟨uk,un,ub,us,upL,unL,ucL,upE,unE,ucE,rfl,rfl,rfl,rfl,rfl,rfl⟩:=hly.form
     have bA6:Below w6.heap.size w6 (w6.alloc (.cells #[.int .i64 uk,.int .i64 un,.int .u64 (ub:Int),.string us,.slice upL unL ucL,.slice upE unE ucE] 38)):=(Below.refl _ w6).alloc (Nat.le_refl _) _;have BA6:=ja (B6.out.trans (bA6.mono B6.out.size));have XA6:=ja (X6.out.below bA6);have LA6:=ja (L6.out.keep bA6);have HY6:=ja (LiesV.later hly bA6);have HNY:=ja hny;have T8:=ja (jc w6 #[.int .i64 uk,.int .i64 un,.int .u64 (ub:Int),.string us,.slice upL unL ucL,.slice upE unE ucE] 38);have KG2':=ja (KG2.out _ none 0 BA6.out LA6.out);rw [e1] at KG2';obtain⟨p0,p1,p2,p3,p4,p5⟩:=XA6.out.cells6;clear bA6 KG2 e1 hly hny X6 L6
     go_wp2_with fail
     refine(jb KG2').mono ?_
     rintro _ w7 ⟨h7,b7⟩
     have B7:=ja (BA6.out.trans (b7.mono BA6.out.size));have T87:=ja (T8.out.below b7);have HY7:=ja (LiesV.later HY6.out b7);clear b7 KG2' BA6 XA6 LA6 T8 HY6 p0 p1 p2 p3 p4 p5
     rcases h7 with ⟨z,f2,x0,x1,x2,x3,x4,x5,e2,rfl,hlz,hnz⟩ | ⟨er,e2,hne,rfl⟩
     ·obtain⟨xk,xn,xb,xs,xpL,xnL,xcL,xpE,xnE,xcE,rfl,rfl,rfl,rfl,rfl,rfl⟩:=hlz.form
      have bA7:Below w7.heap.size w7 (w7.alloc (.cells #[.int .i64 xk,.int .i64 xn,.int .u64 (xb:Int),.string xs,.slice xpL xnL xcL,.slice xpE xnE xcE] 38)):=(Below.refl _ w7).alloc (Nat.le_refl _) _;have BA7:=ja (B7.out.trans (bA7.mono B7.out.size));have T8A:=ja (T87.out.below bA7);have HYA:=ja (LiesV.later HY7.out bA7);have T10:=ja (jc w7 #[.int .i64 xk,.int .i64 xn,.int .u64 (xb:Int),.string xs,.slice xpL xnL xcL,.slice xpE xnE xcE] 38);have HZA:=ja (LiesV.later hlz bA7);have KG3':=ja (KG3.out _ y f1 _ _ _ _ _ _ BA7.out HYA.out HNY.out);have e2':jk y []=_:=e2;rw [e2'] at KG3';obtain⟨p0,p1,p2,p3,p4,p5⟩:=T8A.out.cells6;clear bA7 KG3 e2 e2' hlz T87 HY7 HYA
      go_wp2_with fail
      refine(jb KG3').mono ?_
      rintro _ w8 ⟨h8,b8⟩
      have B8:=ja (BA7.out.trans (b8.mono BA7.out.size));have T108:=ja (T10.out.below b8);have HZ8:=ja (LiesV.later HZA.out b8);clear b8 KG3' BA7 T8A T10 p0 p1 p2 p3 p4 p5
      rcases h8 with ⟨z2,f3,v0,v1,v2,v3,v4,v5,e3,rfl,hlz2,hnz2⟩ | ⟨er2,e3,hne2,rfl⟩
      ·injection e3 with e3
       subst e3;obtain⟨vk,vn,vb,vs,vpL,vnL,vcL,vpE,vnE,vcE,rfl,rfl,rfl,rfl,rfl,rfl⟩:=hlz2.form;have bA8:Below w8.heap.size w8 (w8.alloc (.cells #[.int .i64 vk,.int .i64 vn,.int .u64 (vb:Int),.string vs,.slice vpL vnL vcL,.slice vpE vnE vcE] 38)):=(Below.refl _ w8).alloc (Nat.le_refl _) _;have BA8:=ja (B8.out.trans (bA8.mono B8.out.size));have T10A:=ja (T108.out.below bA8);have KA:=ja (jn f2 f3 z _ _ _ _ _ _ _ _ _ _ _ _ _ (LiesV.later HZ8.out bA8) (LiesV.later hlz2 bA8));obtain⟨p0,p1,p2,p3,p4,p5⟩:=T10A.out.cells6;clear bA8
       go_wp2_with fail
       refine(jb KA).mono ?_
       rintro _ w9 ⟨rfl,b9⟩
       have B9:=ja (BA8.out.trans (b9.mono BA8.out.size));clear b9 KA BA8;go_wp2;go_ret;exact⟨rfl,B9.out⟩
      ·cases e3
     ·have bA7:Below w7.heap.size w7 (w7.alloc (.cells #[.int .i64 0,.int .i64 0,.int .u64 0,.string ⟨#[]⟩,.slice none 0 0,.slice none 0 0] 38)):=(Below.refl _ w7).alloc (Nat.le_refl _) _
      have BA7:=ja (B7.out.trans (bA7.mono B7.out.size));have T8A:=ja (T87.out.below bA7);have HYA:=ja (LiesV.later HY7.out bA7);have T10:=ja (jc w7 #[.int .i64 0,.int .i64 0,.int .u64 0,.string ⟨#[]⟩,.slice none 0 0,.slice none 0 0] 38);have KG3':=ja (KG3.out _ y f1 _ _ _ _ _ _ BA7.out HYA.out HNY.out);have e2':jk y []=_:=e2;rw [e2'] at KG3';obtain⟨p0,p1,p2,p3,p4,p5⟩:=T8A.out.cells6;clear bA7 KG3 e2 e2' T87 HY7 HYA
      go_wp2_with fail
      refine(jb KG3').mono ?_
      rintro _ w8 ⟨h8,b8⟩
      have B8:=ja (BA7.out.trans (b8.mono BA7.out.size));have T108:=ja (T10.out.below b8);clear b8 KG3' BA7 T8A T10 p0 p1 p2 p3 p4 p5
      rcases h8 with ⟨z2,f3,v0,v1,v2,v3,v4,v5,e3,rfl,hlz2,hnz2⟩ | ⟨er2,e3,hne2,rfl⟩
      ·cases e3
      ·injection e3 with e3
       subst e3;have bA8:Below w8.heap.size w8 (w8.alloc (.cells #[.int .i64 0,.int .i64 0,.int .u64 0,.string ⟨#[]⟩,.slice none 0 0,.slice none 0 0] 38)):=(Below.refl _ w8).alloc (Nat.le_refl _) _;have BA8:=ja (B8.out.trans (bA8.mono B8.out.size));have T10A:=ja (T108.out.below bA8);have KA:=ja (jm (w8.alloc (.cells #[.int .i64 0,.int .i64 0,.int .u64 0,.string ⟨#[]⟩,.slice none 0 0,.slice none 0 0] 38)));obtain⟨p0,p1,p2,p3,p4,p5⟩:=T10A.out.cells6;clear bA8
       go_wp2_with fail
       refine(jb KA).mono ?_
       rintro _ w9 ⟨rfl,b9⟩
       have B9:=ja (BA8.out.trans (b9.mono BA8.out.size));clear b9 KA BA8;go_wp2;go_ret;exact⟨rfl,B9.out⟩
    ·have hne2:(er != 0)=true:=bne_iff_ne.2 hne
     have bA6:Below w6.heap.size w6 (w6.alloc (.cells #[.int .i64 0,.int .i64 0,.int .u64 0,.string ⟨#[]⟩,.slice none 0 0,.slice none 0 0] 38)):=(Below.refl _ w6).alloc (Nat.le_refl _) _;have BA6:=ja (B6.out.trans (bA6.mono B6.out.size));have XA6:=ja (X6.out.below bA6);have LA6:=ja (L6.out.keep bA6);have KG2':=ja (KG2.out _ none 0 BA6.out LA6.out);rw [e1] at KG2';obtain⟨p0,p1,p2,p3,p4,p5⟩:=XA6.out.cells6;clear bA6 KG2 e1 X6 L6
     go_wp2_with fail
     refine(jb KG2').mono ?_
     rintro _ w7 ⟨h7,b7⟩
     have B7:=ja (BA6.out.trans (b7.mono BA6.out.size));clear b7 KG2' BA6 XA6 LA6 p0 p1 p2 p3 p4 p5
     rcases h7 with ⟨z,f2,x0,x1,x2,x3,x4,x5,e2,rfl,hlz,hnz⟩ | ⟨er2,e2,hne3,rfl⟩
     ·cases e2
     ·injection e2 with e2
      subst e2;have bA7:Below w7.heap.size w7 (w7.alloc (.cells #[.int .i64 0,.int .i64 0,.int .u64 0,.string ⟨#[]⟩,.slice none 0 0,.slice none 0 0] 38)):=(Below.refl _ w7).alloc (Nat.le_refl _) _;have BA7:=ja (B7.out.trans (bA7.mono B7.out.size));have KA:=ja (jm (w7.alloc (.cells #[.int .i64 0,.int .i64 0,.int .u64 0,.string ⟨#[]⟩,.slice none 0 0,.slice none 0 0] 38)));clear bA7
      go_wp2_with fail
      refine(jb KA).mono ?_
      rintro _ w9 ⟨rfl,b9⟩
      have B9:=ja (BA7.out.trans (b9.mono BA7.out.size));clear b9 KA BA7;go_wp2;go_ret;exact⟨rfl,B9.out⟩
  ·have HNO:Hid (q=none->d=0):=ja hqn
   have HOW:=ja hown;clear hqn HRQ
   go_wp2_with (at_builtin;refine wpList_append_fits_any _ rfl _ _ 22 rfl w3.heap.size 50 i0 2 Tryd.underlying22 hinf hz1 g0 P.length cap0 (KP.flatMap stC) rfl (jb HOW) q 0 d [] rfl rfl (fun h=>⟨rfl,jb HNO h⟩) (fun ad _ j u hu=>by simp at hu) (fun u hu=>by cases hu) (by omega) ?_)
   intro w5 hown5 hg5;obtain⟨pb,cb,hv5,hLB⟩:=FIN.out _ w5 (by simpa using hown5);have B5:=ja (B4.out.grown hg5 B4.out.size (fun x hx=>by injection hx with hx;omega));have X5:=ja (X4.out.grown hg5 (fun e=>by injection e with e;omega));rw [hv5];clear hown5 hg5 hown hob FIN hv5 B4 X4 HOW HNO hg0 hrest;obtain⟨p0,p1,p2,p3,p4,p5⟩:=X5.out.cells6;have KG1':=ja (KG1.out w5 B5.out);have hL5:=ja hLB;clear hLB KG1
   go_wp2_with fail
   refine(jb KG1').mono ?_
   rintro _ w6 ⟨h6,b6⟩
   have B6:=ja (B5.out.trans (b6.mono B5.out.size));have X6:=ja (X5.out.below b6);have L6:=ja (hL5.out.keep b6);clear b6 KG1' X5 hL5 p0 p1 p2 p3 p4 p5
   rcases h6 with ⟨y,f1,u0,u1,u2,u3,u4,u5,e1,rfl,hly,hny⟩ | ⟨er,e1,hne,rfl⟩
   ·obtain⟨uk,un,ub,us,upL,unL,ucL,upE,unE,ucE,rfl,rfl,rfl,rfl,rfl,rfl⟩:=hly.form
    have bA6:Below w6.heap.size w6 (w6.alloc (.cells #[.int .i64 uk,.int .i64 un,.int .u64 (ub:Int),.string us,.slice upL unL ucL,.slice upE unE ucE] 38)):=(Below.refl _ w6).alloc (Nat.le_refl _) _;have BA6:=ja (B6.out.trans (bA6.mono B6.out.size));have XA6:=ja (X6.out.below bA6);have LA6:=ja (L6.out.keep bA6);have HY6:=ja (LiesV.later hly bA6);have HNY:=ja hny;have T8:=ja (jc w6 #[.int .i64 uk,.int .i64 un,.int .u64 (ub:Int),.string us,.slice upL unL ucL,.slice upE unE ucE] 38);have KG2':=ja (KG2.out _ pb cb BA6.out LA6.out);rw [e1] at KG2';obtain⟨p0,p1,p2,p3,p4,p5⟩:=XA6.out.cells6;clear bA6 KG2 e1 hly hny X6 L6
    go_wp2_with fail
    refine(jb KG2').mono ?_
    rintro _ w7 ⟨h7,b7⟩
    have B7:=ja (BA6.out.trans (b7.mono BA6.out.size));have T87:=ja (T8.out.below b7);have HY7:=ja (LiesV.later HY6.out b7);clear b7 KG2' BA6 XA6 LA6 T8 HY6 p0 p1 p2 p3 p4 p5
    rcases h7 with ⟨z,f2,x0,x1,x2,x3,x4,x5,e2,rfl,hlz,hnz⟩ | ⟨er,e2,hne,rfl⟩
    ·obtain⟨xk,xn,xb,xs,xpL,xnL,xcL,xpE,xnE,xcE,rfl,rfl,rfl,rfl,rfl,rfl⟩:=hlz.form
     have bA7:Below w7.heap.size w7 (w7.alloc (.cells #[.int .i64 xk,.int .i64 xn,.int .u64 (xb:Int),.string xs,.slice xpL xnL xcL,.slice xpE xnE xcE] 38)):=(Below.refl _ w7).alloc (Nat.le_refl _) _;have BA7:=ja (B7.out.trans (bA7.mono B7.out.size));have T8A:=ja (T87.out.below bA7);have HYA:=ja (LiesV.later HY7.out bA7);have T10:=ja (jc w7 #[.int .i64 xk,.int .i64 xn,.int .u64 (xb:Int),.string xs,.slice xpL xnL xcL,.slice xpE xnE xcE] 38);have HZA:=ja (LiesV.later hlz bA7);have KG3':=ja (KG3.out _ y f1 _ _ _ _ _ _ BA7.out HYA.out HNY.out);have e2':jk y []=_:=e2;rw [e2'] at KG3';obtain⟨p0,p1,p2,p3,p4,p5⟩:=T8A.out.cells6;clear bA7 KG3 e2 e2' hlz T87 HY7 HYA
     go_wp2_with fail
     refine(jb KG3').mono ?_
     rintro _ w8 ⟨h8,b8⟩
     have B8:=ja (BA7.out.trans (b8.mono BA7.out.size));have T108:=ja (T10.out.below b8);have HZ8:=ja (LiesV.later HZA.out b8);clear b8 KG3' BA7 T8A T10 p0 p1 p2 p3 p4 p5
     rcases h8 with ⟨z2,f3,v0,v1,v2,v3,v4,v5,e3,rfl,hlz2,hnz2⟩ | ⟨er2,e3,hne2,rfl⟩
     ·injection e3 with e3
      subst e3;obtain⟨vk,vn,vb,vs,vpL,vnL,vcL,vpE,vnE,vcE,rfl,rfl,rfl,rfl,rfl,rfl⟩:=hlz2.form;have bA8:Below w8.heap.size w8 (w8.alloc (.cells #[.int .i64 vk,.int .i64 vn,.int .u64 (vb:Int),.string vs,.slice vpL vnL vcL,.slice vpE vnE vcE] 38)):=(Below.refl _ w8).alloc (Nat.le_refl _) _;have BA8:=ja (B8.out.trans (bA8.mono B8.out.size));have T10A:=ja (T108.out.below bA8);have KA:=ja (jn f2 f3 z _ _ _ _ _ _ _ _ _ _ _ _ _ (LiesV.later HZ8.out bA8) (LiesV.later hlz2 bA8));obtain⟨p0,p1,p2,p3,p4,p5⟩:=T10A.out.cells6;clear bA8
      go_wp2_with fail
      refine(jb KA).mono ?_
      rintro _ w9 ⟨rfl,b9⟩
      have B9:=ja (BA8.out.trans (b9.mono BA8.out.size));clear b9 KA BA8;go_wp2;go_ret;exact⟨rfl,B9.out⟩
     ·cases e3
    ·have bA7:Below w7.heap.size w7 (w7.alloc (.cells #[.int .i64 0,.int .i64 0,.int .u64 0,.string ⟨#[]⟩,.slice none 0 0,.slice none 0 0] 38)):=(Below.refl _ w7).alloc (Nat.le_refl _) _
     have BA7:=ja (B7.out.trans (bA7.mono B7.out.size));have T8A:=ja (T87.out.below bA7);have HYA:=ja (LiesV.later HY7.out bA7);have T10:=ja (jc w7 #[.int .i64 0,.int .i64 0,.int .u64 0,.string ⟨#[]⟩,.slice none 0 0,.slice none 0 0] 38);have KG3':=ja (KG3.out _ y f1 _ _ _ _ _ _ BA7.out HYA.out HNY.out);have e2':jk y []=_:=e2;rw [e2'] at KG3';obtain⟨p0,p1,p2,p3,p4,p5⟩:=T8A.out.cells6;clear bA7 KG3 e2 e2' T87 HY7 HYA
     go_wp2_with fail
     refine(jb KG3').mono ?_
     rintro _ w8 ⟨h8,b8⟩
     have B8:=ja (BA7.out.trans (b8.mono BA7.out.size));have T108:=ja (T10.out.below b8);clear b8 KG3' BA7 T8A T10 p0 p1 p2 p3 p4 p5
     rcases h8 with ⟨z2,f3,v0,v1,v2,v3,v4,v5,e3,rfl,hlz2,hnz2⟩ | ⟨er2,e3,hne2,rfl⟩
     ·cases e3
     ·injection e3 with e3
      subst e3;have bA8:Below w8.heap.size w8 (w8.alloc (.cells #[.int .i64 0,.int .i64 0,.int .u64 0,.string ⟨#[]⟩,.slice none 0 0,.slice none 0 0] 38)):=(Below.refl _ w8).alloc (Nat.le_refl _) _;have BA8:=ja (B8.out.trans (bA8.mono B8.out.size));have T10A:=ja (T108.out.below bA8);have KA:=ja (jm (w8.alloc (.cells #[.int .i64 0,.int .i64 0,.int .u64 0,.string ⟨#[]⟩,.slice none 0 0,.slice none 0 0] 38)));obtain⟨p0,p1,p2,p3,p4,p5⟩:=T10A.out.cells6;clear bA8
      go_wp2_with fail
      refine(jb KA).mono ?_
      rintro _ w9 ⟨rfl,b9⟩
      have B9:=ja (BA8.out.trans (b9.mono BA8.out.size));clear b9 KA BA8;go_wp2;go_ret;exact⟨rfl,B9.out⟩
   ·have hne2:(er != 0)=true:=bne_iff_ne.2 hne
    have bA6:Below w6.heap.size w6 (w6.alloc (.cells #[.int .i64 0,.int .i64 0,.int .u64 0,.string ⟨#[]⟩,.slice none 0 0,.slice none 0 0] 38)):=(Below.refl _ w6).alloc (Nat.le_refl _) _;have BA6:=ja (B6.out.trans (bA6.mono B6.out.size));have XA6:=ja (X6.out.below bA6);have LA6:=ja (L6.out.keep bA6);have KG2':=ja (KG2.out _ pb cb BA6.out LA6.out);rw [e1] at KG2';obtain⟨p0,p1,p2,p3,p4,p5⟩:=XA6.out.cells6;clear bA6 KG2 e1 X6 L6
    go_wp2_with fail
    refine(jb KG2').mono ?_
    rintro _ w7 ⟨h7,b7⟩
    have B7:=ja (BA6.out.trans (b7.mono BA6.out.size));clear b7 KG2' BA6 XA6 LA6 p0 p1 p2 p3 p4 p5
    rcases h7 with ⟨z,f2,x0,x1,x2,x3,x4,x5,e2,rfl,hlz,hnz⟩ | ⟨er2,e2,hne3,rfl⟩
    ·cases e2
    ·injection e2 with e2
     subst e2;have bA7:Below w7.heap.size w7 (w7.alloc (.cells #[.int .i64 0,.int .i64 0,.int .u64 0,.string ⟨#[]⟩,.slice none 0 0,.slice none 0 0] 38)):=(Below.refl _ w7).alloc (Nat.le_refl _) _;have BA7:=ja (B7.out.trans (bA7.mono B7.out.size));have KA:=ja (jm (w7.alloc (.cells #[.int .i64 0,.int .i64 0,.int .u64 0,.string ⟨#[]⟩,.slice none 0 0,.slice none 0 0] 38)));clear bA7
     go_wp2_with fail
     refine(jb KA).mono ?_
     rintro _ w9 ⟨rfl,b9⟩
     have B9:=ja (BA7.out.trans (b9.mono BA7.out.size));clear b9 KA BA7;go_wp2;go_ret;exact⟨rfl,B9.out⟩
 ·obtain⟨bb,o,rfl,hbb,hcq⟩:=HRQ.out hQ0
  have hnews:∀j u,(KQ.flatMap stC)[j]?=some u->w4.cell? ((⟨bb,o,none⟩:Addr).add j)=some u:=fun j u hu=>by
   rw [qO];exact(B4.out.cell (p:=⟨bb,o+j,none⟩) hbb).trans (hcq j u hu)
  have hflq:(KQ.flatMap stC).length=Q.length*2:=by rw [jC,HLQ.out]
  have HNW:=ja hnews;have HON:=ja (J0 KQ);have HAP:Hid (KP.flatMap stC++KQ.flatMap stC=(KP++KQ).flatMap stC):=ja (by rw [List.flatMap_append]);rw [HLP.out] at hown;clear hnews hcq HRQ;generalize KQ.flatMap stC=xq at *;generalize KP.flatMap stC=xp at *
  go_wp2_with (at_builtin;refine wpList_append_lies _ rfl _ _ 22 rfl w3.heap.size 50 i0 (.agg #[.string ⟨#[]⟩,.int .i64 0]) 2 24 Tryd.underlying22 hinf hz0 hz1 hz2 rfl (by decide) _ _ _ rfl hown ⟨bb,o,none⟩ Q.length d xq rfl hflq (jb HNW) (jb HON) (by omega) (by unfold maxLen;omega) (by omega) S34 w4.heap.size rfl ?_)
  intro g cap w5 hown5 hg5 hat hlt5;rw [HAP.out] at hown5;obtain⟨pb,cb,hv5,hLB⟩:=FIN.out _ w5 hown5;have B5:=ja (B4.out.grown hg5 B4.out.size (fun x hx=>by have:=(hob x hx).1;omega));have X5:=ja (X4.out.grown hg5 (fun e=>by have:=(hob _ e.symm).1;omega));rw [hv5];clear hown5 hg5 hat hlt5 hown hob FIN hv5 HNW HON HAP B4 X4;obtain⟨p0,p1,p2,p3,p4,p5⟩:=X5.out.cells6;have KG1':=ja (KG1.out w5 B5.out);have hL5:=ja hLB;clear hLB KG1
  go_wp2_with fail
  refine(jb KG1').mono ?_
  rintro _ w6 ⟨h6,b6⟩
  have B6:=ja (B5.out.trans (b6.mono B5.out.size));have X6:=ja (X5.out.below b6);have L6:=ja (hL5.out.keep b6);clear b6 KG1' X5 hL5 p0 p1 p2 p3 p4 p5
  rcases h6 with ⟨y,f1,u0,u1,u2,u3,u4,u5,e1,rfl,hly,hny⟩ | ⟨er,e1,hne,rfl⟩
  ·obtain⟨uk,un,ub,us,upL,unL,ucL,upE,unE,ucE,rfl,rfl,rfl,rfl,rfl,rfl⟩:=hly.form
   have bA6:Below w6.heap.size w6 (w6.alloc (.cells #[.int .i64 uk,.int .i64 un,.int .u64 (ub:Int),.string us,.slice upL unL ucL,.slice upE unE ucE] 38)):=(Below.refl _ w6).alloc (Nat.le_refl _) _;have BA6:=ja (B6.out.trans (bA6.mono B6.out.size));have XA6:=ja (X6.out.below bA6);have LA6:=ja (L6.out.keep bA6);have HY6:=ja (LiesV.later hly bA6);have HNY:=ja hny;have T8:=ja (jc w6 #[.int .i64 uk,.int .i64 un,.int .u64 (ub:Int),.string us,.slice upL unL ucL,.slice upE unE ucE] 38);have KG2':=ja (KG2.out _ pb cb BA6.out LA6.out);rw [e1] at KG2';obtain⟨p0,p1,p2,p3,p4,p5⟩:=XA6.out.cells6;clear bA6 KG2 e1 hly hny X6 L6
   go_wp2_with fail
   refine(jb KG2').mono ?_
   rintro _ w7 ⟨h7,b7⟩
   have B7:=ja (BA6.out.trans (b7.mono BA6.out.size));have T87:=ja (T8.out.below b7);have HY7:=ja (LiesV.later HY6.out b7);clear b7 KG2' BA6 XA6 LA6 T8 HY6 p0 p1 p2 p3 p4 p5
   rcases h7 with ⟨z,f2,x0,x1,x2,x3,x4,x5,e2,rfl,hlz,hnz⟩ | ⟨er,e2,hne,rfl⟩
   ·obtain⟨xk,xn,xb,xs,xpL,xnL,xcL,xpE,xnE,xcE,rfl,rfl,rfl,rfl,rfl,rfl⟩:=hlz.form
    have bA7:Below w7.heap.size w7 (w7.alloc (.cells #[.int .i64 xk,.int .i64 xn,.int .u64 (xb:Int),.string xs,.slice xpL xnL xcL,.slice xpE xnE xcE] 38)):=(Below.refl _ w7).alloc (Nat.le_refl _) _;have BA7:=ja (B7.out.trans (bA7.mono B7.out.size));have T8A:=ja (T87.out.below bA7);have HYA:=ja (LiesV.later HY7.out bA7);have T10:=ja (jc w7 #[.int .i64 xk,.int .i64 xn,.int .u64 (xb:Int),.string xs,.slice xpL xnL xcL,.slice xpE xnE xcE] 38);have HZA:=ja (LiesV.later hlz bA7);have KG3':=ja (KG3.out _ y f1 _ _ _ _ _ _ BA7.out HYA.out HNY.out);have e2':jk y Q=_:=e2;rw [e2'] at KG3';obtain⟨p0,p1,p2,p3,p4,p5⟩:=T8A.out.cells6;clear bA7 KG3 e2 e2' hlz T87 HY7 HYA
    go_wp2_with fail
    refine(jb KG3').mono ?_
    rintro _ w8 ⟨h8,b8⟩
    have B8:=ja (BA7.out.trans (b8.mono BA7.out.size));have T108:=ja (T10.out.below b8);have HZ8:=ja (LiesV.later HZA.out b8);clear b8 KG3' BA7 T8A T10 p0 p1 p2 p3 p4 p5
    rcases h8 with ⟨z2,f3,v0,v1,v2,v3,v4,v5,e3,rfl,hlz2,hnz2⟩ | ⟨er2,e3,hne2,rfl⟩
    ·injection e3 with e3
     subst e3;obtain⟨vk,vn,vb,vs,vpL,vnL,vcL,vpE,vnE,vcE,rfl,rfl,rfl,rfl,rfl,rfl⟩:=hlz2.form;have bA8:Below w8.heap.size w8 (w8.alloc (.cells #[.int .i64 vk,.int .i64 vn,.int .u64 (vb:Int),.string vs,.slice vpL vnL vcL,.slice vpE vnE vcE] 38)):=(Below.refl _ w8).alloc (Nat.le_refl _) _;have BA8:=ja (B8.out.trans (bA8.mono B8.out.size));have T10A:=ja (T108.out.below bA8);have KA:=ja (jn f2 f3 z _ _ _ _ _ _ _ _ _ _ _ _ _ (LiesV.later HZ8.out bA8) (LiesV.later hlz2 bA8));obtain⟨p0,p1,p2,p3,p4,p5⟩:=T10A.out.cells6;clear bA8
     go_wp2_with fail
     refine(jb KA).mono ?_
     rintro _ w9 ⟨rfl,b9⟩
     have B9:=ja (BA8.out.trans (b9.mono BA8.out.size));clear b9 KA BA8;go_wp2;go_ret;exact⟨rfl,B9.out⟩
    ·cases e3
   ·have bA7:Below w7.heap.size w7 (w7.alloc (.cells #[.int .i64 0,.int .i64 0,.int .u64 0,.string ⟨#[]⟩,.slice none 0 0,.slice none 0 0] 38)):=(Below.refl _ w7).alloc (Nat.le_refl _) _
    have BA7:=ja (B7.out.trans (bA7.mono B7.out.size));have T8A:=ja (T87.out.below bA7);have HYA:=ja (LiesV.later HY7.out bA7);have T10:=ja (jc w7 #[.int .i64 0,.int .i64 0,.int .u64 0,.string ⟨#[]⟩,.slice none 0 0,.slice none 0 0] 38);have KG3':=ja (KG3.out _ y f1 _ _ _ _ _ _ BA7.out HYA.out HNY.out);have e2':jk y Q=_:=e2;rw [e2'] at KG3';obtain⟨p0,p1,p2,p3,p4,p5⟩:=T8A.out.cells6;clear bA7 KG3 e2 e2' T87 HY7 HYA
    go_wp2_with fail
    refine(jb KG3').mono ?_
    rintro _ w8 ⟨h8,b8⟩
    have B8:=ja (BA7.out.trans (b8.mono BA7.out.size));have T108:=ja (T10.out.below b8);clear b8 KG3' BA7 T8A T10 p0 p1 p2 p3 p4 p5
    rcases h8 with ⟨z2,f3,v0,v1,v2,v3,v4,v5,e3,rfl,hlz2,hnz2⟩ | ⟨er2,e3,hne2,rfl⟩
    ·cases e3
    ·injection e3 with e3
     subst e3;have bA8:Below w8.heap.size w8 (w8.alloc (.cells #[.int .i64 0,.int .i64 0,.int .u64 0,.string ⟨#[]⟩,.slice none 0 0,.slice none 0 0] 38)):=(Below.refl _ w8).alloc (Nat.le_refl _) _;have BA8:=ja (B8.out.trans (bA8.mono B8.out.size));have T10A:=ja (T108.out.below bA8);have KA:=ja (jm (w8.alloc (.cells #[.int .i64 0,.int .i64 0,.int .u64 0,.string ⟨#[]⟩,.slice none 0 0,.slice none 0 0] 38)));obtain⟨p0,p1,p2,p3,p4,p5⟩:=T10A.out.cells6;clear bA8
     go_wp2_with fail
     refine(jb KA).mono ?_
     rintro _ w9 ⟨rfl,b9⟩
     have B9:=ja (BA8.out.trans (b9.mono BA8.out.size));clear b9 KA BA8;go_wp2;go_ret;exact⟨rfl,B9.out⟩
  ·have hne2:(er != 0)=true:=bne_iff_ne.2 hne
   have bA6:Below w6.heap.size w6 (w6.alloc (.cells #[.int .i64 0,.int .i64 0,.int .u64 0,.string ⟨#[]⟩,.slice none 0 0,.slice none 0 0] 38)):=(Below.refl _ w6).alloc (Nat.le_refl _) _;have BA6:=ja (B6.out.trans (bA6.mono B6.out.size));have XA6:=ja (X6.out.below bA6);have LA6:=ja (L6.out.keep bA6);have KG2':=ja (KG2.out _ pb cb BA6.out LA6.out);rw [e1] at KG2';obtain⟨p0,p1,p2,p3,p4,p5⟩:=XA6.out.cells6;clear bA6 KG2 e1 X6 L6
   go_wp2_with fail
   refine(jb KG2').mono ?_
   rintro _ w7 ⟨h7,b7⟩
   have B7:=ja (BA6.out.trans (b7.mono BA6.out.size));clear b7 KG2' BA6 XA6 LA6 p0 p1 p2 p3 p4 p5
   rcases h7 with ⟨z,f2,x0,x1,x2,x3,x4,x5,e2,rfl,hlz,hnz⟩ | ⟨er2,e2,hne3,rfl⟩
   ·cases e2
   ·injection e2 with e2
    subst e2;have bA7:Below w7.heap.size w7 (w7.alloc (.cells #[.int .i64 0,.int .i64 0,.int .u64 0,.string ⟨#[]⟩,.slice none 0 0,.slice none 0 0] 38)):=(Below.refl _ w7).alloc (Nat.le_refl _) _;have BA7:=ja (B7.out.trans (bA7.mono B7.out.size));have KA:=ja (jm (w7.alloc (.cells #[.int .i64 0,.int .i64 0,.int .u64 0,.string ⟨#[]⟩,.slice none 0 0,.slice none 0 0] 38)));clear bA7
    go_wp2_with fail
    refine(jb KA).mono ?_
    rintro _ w9 ⟨rfl,b9⟩
    have B9:=ja (BA7.out.trans (b9.mono BA7.out.size));clear b9 KA BA7;go_wp2;go_ret;exact⟨rfl,B9.out⟩
theorem zi (f:Nat)(W:World)(t:V)(a0 a1 a2 a3 a4 a5:Value)(hl:LiesV (fun q=>q<W.heap.size) f W [a0,a1,a2,a3,a4,a5] t)(hn:jd f t<=1048576)(p q:Option Addr)(c d:Nat)(P Q:List St)(hP:LiesP W p P)(hQ:LiesP W q Q)(hPl:P.length<=1048576)(hQl:Q.length<=1048576)(hqn:q=none->d=0)(hT:PTabs W) :
  Calls Tryd.prog 6 #[.agg #[a0,a1,a2,a3,a4,a5],.slice p P.length c,.slice q Q.length d] W fun e W'=>e=.returned (.bool true)/\Below W.heap.size W W':=by
 obtain⟨k,n,b,s,pL,nL,cL,pE,nE,cE,rfl,rfl,rfl,rfl,rfl,rfl⟩:=hl.form
 by_cases h20:P.length+Q.length<=20
 ·by_cases hcP:jl P=0
  ·by_cases hcQ:jl Q=0
   ·exact zU f W t k n b s pL nL cL pE nE cE hl hn p q c d P Q hP hQ (by omega) (by omega) hqn hT h20 hcP hcQ
   ·exact jM f W t k n b s pL nL cL pE nE cE hl hn p q c d P Q hP hQ (by omega) (by omega) hqn hT (by omega) (.inr (.inr hcQ))
  ·exact jM f W t k n b s pL nL cL pE nE cE hl hn p q c d P Q hP hQ (by omega) (by omega) hqn hT (by omega) (.inr (.inl hcP))
 ·exact jM f W t k n b s pL nL cL pE nE cE hl hn p q c d P Q hP hQ (by omega) (by omega) hqn hT (by omega) (.inl (by omega))
end paths
end Go.Proofs.YticcibefchffmaaDoor
