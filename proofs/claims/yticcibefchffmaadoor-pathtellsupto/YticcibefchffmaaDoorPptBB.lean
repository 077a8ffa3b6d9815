/- Of our texts, what this claim reaches. -/
import Derived.Test.YticcibefchffmaaDoorPptAV
import Derived.Test.YticcibefchffmaaDoorPptBA
import Derived.Test.YticcibefchffmaaDoorPptAT
set_option linter.unusedVariables false
set_option maxHeartbeats 8000000
set_option maxRecDepth 100000
namespace Go.Proofs.YticcibefchffmaaDoor
namespace paths
open Go.RowKit
open utfs (jb ja)
theorem Z8 (W:World)(p:Option Addr)(c:Nat)(P:List St)(s:ByteArray)(hP:LiesP W p P)(hl:P.length<=9223372036854775807)(hs:s.size<=1048576)(hT:PTabs W)(hM:MaxP W)(hc0:jk P=0)(Q:List St)(hQ:∀y,jB s.data.toList y->y=.inl Q)(hQlen:Q.length<=9223372036854775807)(hQ2:∀y,qa s.data.toList y->y=.inl Q) :
  Calls Tryd.prog 3 #[.slice p P.length c,.string s] W fun e W'=>e=.returned (.bool true)/\Below W.heap.size W W':=by
 have HP:=jb hP;have HT:=jb hT;have HM:=jb hM;have HQ:=jb hQ;have HQ2:=jb hQ2;have hQl:Q.length<=9223372036854775807:=hQlen;have K1:=jb (j3 W p c P hP hl);have K2:Hid (∀v,Below W.heap.size W v->Calls Tryd.prog 9 #[.slice p P.length c] v fun e w'=>e=.returned (.tuple #[.string ⟨(qm P).toArray⟩,.int .i64 (jk P)])/\Below v.heap.size v w'):=jb fun v h=>qG v p c P (HP.out.keep h) hl (HT.out.below h)
 have K3:Hid (∀v,Below W.heap.size W v->Calls Tryd.prog 10 #[.string s] v (ReadW s.data.toList v)):=jb fun v h=>zb v s (by omega) (HT.out.below h) (HM.out.below h)
 have K4:Hid (∀v,Calls Tryd.prog 11 #[.string s] v (XL s.data.toList v)):=jb fun v=>ze v s hs
 have K6:Hid (∀v,Below W.heap.size W v->Calls Tryd.prog 13 #[.slice p P.length c] v fun e w'=>e=.returned (.int .i64 (jk P))/\Below v.heap.size v w'):=jb fun v h=>qg v p c P (HP.out.keep h) hl (HT.out.below h).esc.utf
 have K5:Hid (∀v,Below W.heap.size W v->Calls Tryd.prog 12 #[.slice p P.length c] v fun e w'=>e=.returned (.string ⟨(jn P).toArray⟩)/\Below v.heap.size v w'):=jb fun v h=>zn v p c P (HP.out.keep h) hc0
 have htx:qm P=jn P:=by unfold qm;rw [if_pos hc0]
 rw [hc0] at K1 K2 K6;rw [htx] at K2;clear htx hP hT hM hQ hQ2 hc0;generalize jn P=tx at *
 go_enter Tryd.func3,Tryd.ntmps3
 go_wp2_with fail
 refine(ja K1).mono ?_
 rintro _ w1 ⟨rfl,b1⟩
 have B1:=jb b1;have K2':=jb (K2.out w1 B1.out);clear b1 K1 K2
 go_wp2_with fail
 refine(ja K2').mono ?_
 rintro _ w2 ⟨rfl,b2⟩
 have B2:=jb (B1.out.trans (b2.mono B1.out.size));have K3':=jb (K3.out w2 B2.out);clear b2 B1 K2' K3
 go_wp2_with fail
 refine(ja K3').mono ?_
 rintro _ w3 ⟨h3,b3⟩
 have B3:=jb (B2.out.trans (b3.mono B2.out.size));clear b3 B2 K3'
 rcases h3 with ⟨Q1,q,cq,rfl,hcq,hLq,hRq⟩ | ⟨rfl,hRq⟩
 ·have K4':=jb (K4.out w3)
  clear K4
  go_wp2_with fail
  refine(ja K4').mono ?_
  rintro _ w4 ⟨h4,b4⟩
  have B4:=jb (B3.out.trans (b4.mono B3.out.size));have BB4:=jb b4;clear b4 K4'
  rcases h4 with ⟨Q2,x,cx,rfl,hcx,hLx,hRx⟩ | ⟨rfl,hRx⟩
  ·have K5':=jb (K5.out w4 B4.out)
   clear K5
   go_wp2_with fail
   refine(ja K5').mono ?_
   rintro _ w5 ⟨rfl,b5⟩
   have B5:=jb (B4.out.trans (b5.mono B4.out.size));have BB5:=jb (Below.trans (Below.refl w4.heap.size w4) b5);clear b5 K5';have K6':=jb (K6.out w5 B5.out);clear K6
   go_wp2_with fail
   refine(ja K6').mono ?_
   rintro _ w6 ⟨rfl,b6⟩
   have B6:=jb (B5.out.trans (b6.mono B5.out.size));have BB6:=jb (BB5.out.trans (b6.mono BB5.out.size));clear b6 K6';have hq1:=HQ.out _ hRq;injection hq1 with hq1;subst hq1;have hq2:=HQ2.out _ hRx;injection hq2 with hq2;subst hq2;have KS:=jb (Js w6 q x cq cx Q2 Q2 (hLq.keep (BB4.out.trans (BB6.out.mono BB4.out.size))) (hLx.keep BB6.out) hQl hQl);rw [decide_eq_true (rfl:Q2=Q2)] at KS;clear hLq hLx hRq hRx
   go_wp2_with fail
   refine(ja KS).mono ?_
   rintro _ w7 ⟨rfl,b7⟩
   have B7:=jb (B6.out.trans (b7.mono B6.out.size));clear b7 KS;go_wp2;go_ret;exact⟨rfl,B7.out⟩
  ·have:=HQ2.out _ hRx
   cases this
 ·have:=HQ.out _ hRq
  cases this
theorem Z2 (W:World)(p:Option Addr)(c:Nat)(P:List St)(s:ByteArray)(hP:LiesP W p P)(hl:P.length<=9223372036854775807)(hs:s.size<=1048576)(hT:PTabs W)(hM:MaxP W)(hc0:jk P=0)(hQ:∀y,jB s.data.toList y->y=.inr ())(hQ2:∀y,qa s.data.toList y->y=.inr ()) :
  Calls Tryd.prog 3 #[.slice p P.length c,.string s] W fun e W'=>e=.returned (.bool true)/\Below W.heap.size W W':=by
 have HP:=jb hP;have HT:=jb hT;have HM:=jb hM;have HQ:=jb hQ;have HQ2:=jb hQ2;have K1:=jb (j3 W p c P hP hl);have K2:Hid (∀v,Below W.heap.size W v->Calls Tryd.prog 9 #[.slice p P.length c] v fun e w'=>e=.returned (.tuple #[.string ⟨(qm P).toArray⟩,.int .i64 (jk P)])/\Below v.heap.size v w'):=jb fun v h=>qG v p c P (HP.out.keep h) hl (HT.out.below h)
 have K3:Hid (∀v,Below W.heap.size W v->Calls Tryd.prog 10 #[.string s] v (ReadW s.data.toList v)):=jb fun v h=>zb v s (by omega) (HT.out.below h) (HM.out.below h)
 have K4:Hid (∀v,Calls Tryd.prog 11 #[.string s] v (XL s.data.toList v)):=jb fun v=>ze v s hs
 have K6:Hid (∀v,Below W.heap.size W v->Calls Tryd.prog 13 #[.slice p P.length c] v fun e w'=>e=.returned (.int .i64 (jk P))/\Below v.heap.size v w'):=jb fun v h=>qg v p c P (HP.out.keep h) hl (HT.out.below h).esc.utf
 have K5:Hid (∀v,Below W.heap.size W v->Calls Tryd.prog 12 #[.slice p P.length c] v fun e w'=>e=.returned (.string ⟨(jn P).toArray⟩)/\Below v.heap.size v w'):=jb fun v h=>zn v p c P (HP.out.keep h) hc0
 have htx:qm P=jn P:=by unfold qm;rw [if_pos hc0]
 rw [hc0] at K1 K2 K6;rw [htx] at K2;clear htx hP hT hM hQ hQ2 hc0;generalize jn P=tx at *
 go_enter Tryd.func3,Tryd.ntmps3
 go_wp2_with fail
 refine(ja K1).mono ?_
 rintro _ w1 ⟨rfl,b1⟩
 have B1:=jb b1;have K2':=jb (K2.out w1 B1.out);clear b1 K1 K2
 go_wp2_with fail
 refine(ja K2').mono ?_
 rintro _ w2 ⟨rfl,b2⟩
 have B2:=jb (B1.out.trans (b2.mono B1.out.size));have K3':=jb (K3.out w2 B2.out);clear b2 B1 K2' K3
 go_wp2_with fail
 refine(ja K3').mono ?_
 rintro _ w3 ⟨h3,b3⟩
 have B3:=jb (B2.out.trans (b3.mono B2.out.size));clear b3 B2 K3'
 rcases h3 with ⟨Q1,q,cq,rfl,hcq,hLq,hRq⟩ | ⟨rfl,hRq⟩
 ·have:=HQ.out _ hRq
  cases this
 ·have K4':=jb (K4.out w3)
  clear K4
  go_wp2_with fail
  refine(ja K4').mono ?_
  rintro _ w4 ⟨h4,b4⟩
  have B4:=jb (B3.out.trans (b4.mono B3.out.size));have BB4:=jb b4;clear b4 K4'
  rcases h4 with ⟨Q2,x,cx,rfl,hcx,hLx,hRx⟩ | ⟨rfl,hRx⟩
  ·have:=HQ2.out _ hRx
   cases this
  ·have K5':=jb (K5.out w4 B4.out)
   clear K5
   go_wp2_with fail
   refine(ja K5').mono ?_
   rintro _ w5 ⟨rfl,b5⟩
   have B5:=jb (B4.out.trans (b5.mono B4.out.size));have BB5:=jb (Below.trans (Below.refl w4.heap.size w4) b5);clear b5 K5';have K6':=jb (K6.out w5 B5.out);clear K6
   go_wp2_with fail
   refine(ja K6').mono ?_
   rintro _ w6 ⟨rfl,b6⟩
   have B6:=jb (B5.out.trans (b6.mono B5.out.size));have BB6:=jb (BB5.out.trans (b6.mono BB5.out.size));clear b6 K6';go_wp2;go_ret;exact⟨rfl,B6.out⟩
theorem Xw (W:World)(p:Option Addr)(c:Nat)(P:List St)(s:ByteArray)(hP:LiesP W p P)(hl:P.length<=9223372036854775807)(hs:s.size<=1048576)(hT:PTabs W)(hM:MaxP W)(hc0:¬jk P=0)(Q:List St)(hQ:∀y,jB s.data.toList y->y=.inl Q)(hQlen:Q.length<=9223372036854775807)(hQ2:∀y,qa s.data.toList y->y=.inl Q) :
  Calls Tryd.prog 3 #[.slice p P.length c,.string s] W fun e W'=>e=.returned (.bool true)/\Below W.heap.size W W':=by
 have HP:=jb hP;have HT:=jb hT;have HM:=jb hM;have HQ:=jb hQ;have HQ2:=jb hQ2;have hQl:Q.length<=9223372036854775807:=hQlen;have K1:=jb (j3 W p c P hP hl);have K2:Hid (∀v,Below W.heap.size W v->Calls Tryd.prog 9 #[.slice p P.length c] v fun e w'=>e=.returned (.tuple #[.string ⟨(qm P).toArray⟩,.int .i64 (jk P)])/\Below v.heap.size v w'):=jb fun v h=>qG v p c P (HP.out.keep h) hl (HT.out.below h)
 have K3:Hid (∀v,Below W.heap.size W v->Calls Tryd.prog 10 #[.string s] v (ReadW s.data.toList v)):=jb fun v h=>zb v s (by omega) (HT.out.below h) (HM.out.below h)
 have K4:Hid (∀v,Calls Tryd.prog 11 #[.string s] v (XL s.data.toList v)):=jb fun v=>ze v s hs
 have K6:Hid (∀v,Below W.heap.size W v->Calls Tryd.prog 13 #[.slice p P.length c] v fun e w'=>e=.returned (.int .i64 (jk P))/\Below v.heap.size v w'):=jb fun v h=>qg v p c P (HP.out.keep h) hl (HT.out.below h).esc.utf
 have htx:qm P=[]:=by unfold qm;rw [if_neg hc0]
 rw [htx] at K2;have nc0:(jk P == 0)=false:=beq_false_of_ne hc0;clear htx hP hT hM hQ hQ2 hc0;generalize jk P=ce at *
 go_enter Tryd.func3,Tryd.ntmps3
 go_wp2_with fail
 refine(ja K1).mono ?_
 rintro _ w1 ⟨rfl,b1⟩
 have B1:=jb b1;have K2':=jb (K2.out w1 B1.out);clear b1 K1 K2
 go_wp2_with fail
 refine(ja K2').mono ?_
 rintro _ w2 ⟨rfl,b2⟩
 have B2:=jb (B1.out.trans (b2.mono B1.out.size));have K3':=jb (K3.out w2 B2.out);clear b2 B1 K2' K3
 go_wp2_with fail
 refine(ja K3').mono ?_
 rintro _ w3 ⟨h3,b3⟩
 have B3:=jb (B2.out.trans (b3.mono B2.out.size));clear b3 B2 K3'
 rcases h3 with ⟨Q1,q,cq,rfl,hcq,hLq,hRq⟩ | ⟨rfl,hRq⟩
 ·have K4':=jb (K4.out w3)
  clear K4
  go_wp2_with fail
  refine(ja K4').mono ?_
  rintro _ w4 ⟨h4,b4⟩
  have B4:=jb (B3.out.trans (b4.mono B3.out.size));have BB4:=jb b4;clear b4 K4'
  rcases h4 with ⟨Q2,x,cx,rfl,hcx,hLx,hRx⟩ | ⟨rfl,hRx⟩
  ·obtain⟨w5,hw5⟩:∃w5,w5=w4:=⟨_,rfl⟩
   have B5:Hid (Below W.heap.size W w5):=by rw [hw5];exact B4
   have BB5:Hid (Below w4.heap.size w4 w5):=by rw [hw5];exact jb (Below.refl _ _)
   rw [<-hw5];clear hw5;have K6':=jb (K6.out w5 B5.out);clear K6
   go_wp2_with fail
   refine(ja K6').mono ?_
   rintro _ w6 ⟨rfl,b6⟩
   have B6:=jb (B5.out.trans (b6.mono B5.out.size));have BB6:=jb (BB5.out.trans (b6.mono BB5.out.size));clear b6 K6';have hq1:=HQ.out _ hRq;injection hq1 with hq1;subst hq1;have hq2:=HQ2.out _ hRx;injection hq2 with hq2;subst hq2;have KS:=jb (Js w6 q x cq cx Q2 Q2 (hLq.keep (BB4.out.trans (BB6.out.mono BB4.out.size))) (hLx.keep BB6.out) hQl hQl);rw [decide_eq_true (rfl:Q2=Q2)] at KS;clear hLq hLx hRq hRx
   go_wp2_with fail
   refine(ja KS).mono ?_
   rintro _ w7 ⟨rfl,b7⟩
   have B7:=jb (B6.out.trans (b7.mono B6.out.size));clear b7 KS;go_wp2;go_ret;exact⟨rfl,B7.out⟩
  ·have:=HQ2.out _ hRx
   cases this
 ·have:=HQ.out _ hRq
  cases this
theorem Z4 (W:World)(p:Option Addr)(c:Nat)(P:List St)(s:ByteArray)(hP:LiesP W p P)(hl:P.length<=9223372036854775807)(hs:s.size<=1048576)(hT:PTabs W)(hM:MaxP W)(hc0:¬jk P=0)(hQ:∀y,jB s.data.toList y->y=.inr ())(hQ2:∀y,qa s.data.toList y->y=.inr ()) :
  Calls Tryd.prog 3 #[.slice p P.length c,.string s] W fun e W'=>e=.returned (.bool true)/\Below W.heap.size W W':=by
 have HP:=jb hP;have HT:=jb hT;have HM:=jb hM;have HQ:=jb hQ;have HQ2:=jb hQ2;have K1:=jb (j3 W p c P hP hl);have K2:Hid (∀v,Below W.heap.size W v->Calls Tryd.prog 9 #[.slice p P.length c] v fun e w'=>e=.returned (.tuple #[.string ⟨(qm P).toArray⟩,.int .i64 (jk P)])/\Below v.heap.size v w'):=jb fun v h=>qG v p c P (HP.out.keep h) hl (HT.out.below h)
 have K3:Hid (∀v,Below W.heap.size W v->Calls Tryd.prog 10 #[.string s] v (ReadW s.data.toList v)):=jb fun v h=>zb v s (by omega) (HT.out.below h) (HM.out.below h)
 have K4:Hid (∀v,Calls Tryd.prog 11 #[.string s] v (XL s.data.toList v)):=jb fun v=>ze v s hs
 have K6:Hid (∀v,Below W.heap.size W v->Calls Tryd.prog 13 #[.slice p P.length c] v fun e w'=>e=.returned (.int .i64 (jk P))/\Below v.heap.size v w'):=jb fun v h=>qg v p c P (HP.out.keep h) hl (HT.out.below h).esc.utf
 have htx:qm P=[]:=by unfold qm;rw [if_neg hc0]
 rw [htx] at K2;have nc0:(jk P == 0)=false:=beq_false_of_ne hc0;clear htx hP hT hM hQ hQ2 hc0;generalize jk P=ce at *
 go_enter Tryd.func3,Tryd.ntmps3
 go_wp2_with fail
 refine(ja K1).mono ?_
 rintro _ w1 ⟨rfl,b1⟩
 have B1:=jb b1;have K2':=jb (K2.out w1 B1.out);clear b1 K1 K2
 go_wp2_with fail
 refine(ja K2').mono ?_
 rintro _ w2 ⟨rfl,b2⟩
 have B2:=jb (B1.out.trans (b2.mono B1.out.size));have K3':=jb (K3.out w2 B2.out);clear b2 B1 K2' K3
 go_wp2_with fail
 refine(ja K3').mono ?_
 rintro _ w3 ⟨h3,b3⟩
 have B3:=jb (B2.out.trans (b3.mono B2.out.size));clear b3 B2 K3'
 rcases h3 with ⟨Q1,q,cq,rfl,hcq,hLq,hRq⟩ | ⟨rfl,hRq⟩
 ·have:=HQ.out _ hRq
  cases this
 ·have K4':=jb (K4.out w3)
  clear K4
  go_wp2_with fail
  refine(ja K4').mono ?_
  rintro _ w4 ⟨h4,b4⟩
  have B4:=jb (B3.out.trans (b4.mono B3.out.size));have BB4:=jb b4;clear b4 K4'
  rcases h4 with ⟨Q2,x,cx,rfl,hcx,hLx,hRx⟩ | ⟨rfl,hRx⟩
  ·have:=HQ2.out _ hRx
   cases this
  ·obtain⟨w5,hw5⟩:∃w5,w5=w4:=⟨_,rfl⟩
   have B5:Hid (Below W.heap.size W w5):=by rw [hw5];exact B4
   have BB5:Hid (Below w4.heap.size w4 w5):=by rw [hw5];exact jb (Below.refl _ _)
   rw [<-hw5];clear hw5;have K6':=jb (K6.out w5 B5.out);clear K6
   go_wp2_with fail
   refine(ja K6').mono ?_
   rintro _ w6 ⟨rfl,b6⟩
   have B6:=jb (B5.out.trans (b6.mono B5.out.size));have BB6:=jb (BB5.out.trans (b6.mono BB5.out.size));clear b6 K6';go_wp2;go_ret;exact⟨rfl,B6.out⟩
theorem JU (W:World)(p:Option Addr)(c:Nat)(P:List St)(s:ByteArray)(hP:LiesP W p P)(hl:P.length<=9223372036854775807)(hs:s.size<=1048576)(hT:PTabs W)(hM:MaxP W) :
  Calls Tryd.prog 3 #[.slice p P.length c,.string s] W fun e W'=>e=.returned (.bool true)/\Below W.heap.size W W':=by
 have hR:∃y,jB s.data.toList y:=by
  unfold jB
  by_cases h:(rdP s.data.toList).2=true/\jk (rdP s.data.toList).1=0/\jn (rdP s.data.toList).1=s.data.toList
  ·exact⟨_,.inl ⟨rfl,h.1,h.2.1,h.2.2⟩⟩
  ·refine⟨.inr (),.inr ⟨rfl,?_⟩⟩
   by_cases h1:(rdP s.data.toList).2=true
   ·by_cases h2:jk (rdP s.data.toList).1=0
    ·exact .inr (.inr (fun h3=>h ⟨h1,h2,h3⟩))
    ·exact .inr (.inl h2)
   ·exact .inl (by simpa using h1)
 have hF:∃y,qa s.data.toList y:=by
  by_cases h:∃P,gR s.data.toList.length [] (s.data.toList.drop 1)=some P/\jk P=0/\jn P=s.data.toList
  ·obtain⟨P,h1,h2,h3⟩:=h
   exact⟨_,.inl ⟨P,h1,h2,h3,rfl⟩⟩
  ·refine⟨.inr (),.inr ⟨rfl,fun P hP=>?_⟩⟩
   by_cases h2:jk P=0
   ·exact .inr (fun h3=>h ⟨P,hP,h2,h3⟩)
   ·exact .inl h2
 obtain⟨x,hx⟩:=hR;obtain⟨y,hy⟩:=hF;have a1:∀z,jB s.data.toList z->z=x:=fun z hz=>(zV hz hy).trans (zV hx hy).symm
 have a2:∀z,qa s.data.toList z->z=x:=fun z hz=>(zV hx hz).symm
 by_cases hc:jk P=0
 ·cases x with
  | inl Q=>
   have hQl:Q.length<=9223372036854775807:=by
    rcases hx with ⟨e,_,h1,_⟩ | ⟨e,_⟩
    ·injection e with e
     have:=(jH h1).1;rw [<-e] at this;omega
    ·cases e
   exact Z8 W p c P s hP hl hs hT hM hc Q a1 hQl a2
  | inr u=>exact Z2 W p c P s hP hl hs hT hM hc a1 a2
 ·cases x with
  | inl Q=>
   have hQl:Q.length<=9223372036854775807:=by
    rcases hx with ⟨e,_,h1,_⟩ | ⟨e,_⟩
    ·injection e with e
     have:=(jH h1).1;rw [<-e] at this;omega
    ·cases e
   exact Xw W p c P s hP hl hs hT hM hc Q a1 hQl a2
  | inr u=>exact Z4 W p c P s hP hl hs hT hM hc a1 a2
end paths
end Go.Proofs.YticcibefchffmaaDoor
