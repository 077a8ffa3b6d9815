/- Of our texts, what this claim reaches. -/
import Derived.Test.YtadaehaemmelfaaDoorPubCA
import Derived.Test.YtadaehaemmelfaaDoorPubAY
import Derived.Test.YtadaehaemmelfaaDoorPubBF
import Derived.Test.YtadaehaemmelfaaDoorPubBC
import Derived.Test.YtadaehaemmelfaaDoorPubAT
set_option linter.unusedVariables false
set_option maxHeartbeats 16000000
set_option maxRecDepth 100000
set_option linter.unusedSimpArgs false
namespace Go.Proofs.YtadaehaemmelfaaDoor
namespace upds
open Go.RowKit Go.Shelf
open valus
open paths (St LiesP jt jq)
def jW (key:List UInt8):Int:=if 100<key.length then 2 else if 0<=utfs.bad key then 3 else 0
def qs (kind:Int)(y:V)(key:List UInt8):Int:=if kind=1\/kind=2 then jh jr y else if kind=4 then jW key else 0
def qf (kind:Int)(P:List St)(y:V)(key:List UInt8):Int :=
 if kind<1\/4<kind then 1 else if jq P≠0 then jq P else if qs kind y key≠0 then qs kind y key else if kind≠1/\P=[] then 1 else 0
theorem Z3 (w:World)(key:ByteArray)(hk:key.size<=9223372036854775807)(hT:jt w) :
  Calls Tryd.prog 91 #[.string key] w fun e w'=>e=.returned (.int .i64 (jW key.data.toList))/\Below w.heap.size w w':=by
 have KB:=ja (utfs.Qk key w hk hT);have hl:=jn key
 by_cases h1:(key.size:Int) > 100
 ·have E:Hid (jW key.data.toList=2):=ja (by unfold jW;rw [if_pos (by omega)])
  clear hT hl
  go_enter Tryd.func91,Tryd.ntmps91
  go_wp2_with fail
  go_ret;exact⟨by rw [E.out];rfl,Below.refl _ _⟩
 ·by_cases h2:utfs.bad key.data.toList ≥ 0
  ·have E:Hid (jW key.data.toList=3):=ja (by unfold jW;rw [if_neg (by omega),if_pos h2])
   clear hT hl
   go_enter Tryd.func91,Tryd.ntmps91
   go_wp2_with (go_at_call 58;refine(jc KB).mono ?_;rintro e w1 ⟨rfl,b1⟩;have B1:=ja b1;clear b1)
   go_ret;exact⟨by rw [E.out];rfl,B1.out⟩
  ·have E:Hid (jW key.data.toList=0):=ja (by unfold jW;rw [if_neg (by omega),if_neg h2])
   clear hT hl
   go_enter Tryd.func91,Tryd.ntmps91
   go_wp2_with (go_at_call 58;refine(jc KB).mono ?_;rintro e w1 ⟨rfl,b1⟩;have B1:=ja b1;clear b1)
   go_ret;exact⟨by rw [E.out];rfl,B1.out⟩
theorem QB (w:World)(kind:Int)(hk1:1<=kind)(hk4:kind<=4)(p:Option Addr)(nP c g:Nat)(y:V)(k n:Int)(b:Nat)(s:ByteArray)(pL:Option Addr)(nL cL:Nat)(pE:Option Addr)(nE cE:Nat)(hl:LiesV (fun q=>q<w.heap.size) g w [.int .i64 k,.int .i64 n,.int .u64 (b:Int),.string s,.slice pL nL cL,.slice pE nE cE] y)(hn:jd g y<=10000000)(key:ByteArray)(hk:key.size<=9223372036854775807)(hT:jt w) :
  Calls Tryd.prog 77 #[.agg #[.int .i64 kind,.slice p nP c,.int .i64 k,.int .i64 n,.int .u64 (b:Int),.string s,.slice pL nL cL,.slice pE nE cE,.string key]] w fun e w'=>e=.returned (.int .i64 (qs kind y key.data.toList))/\Below w.heap.size w w':=by
 obtain⟨W0,hW0⟩:∃W0,W0=w.alloc (.cells #[.int .i64 kind,.slice p nP c,.int .i64 k,.int .i64 n,.int .u64 (b:Int),.string s,.slice pL nL cL,.slice pE nE cE,.string key] 45):=⟨_,rfl⟩
 have b0:Below w.heap.size w W0:=by rw [hW0];exact(Below.refl _ w).alloc (Nat.le_refl _) _
 have hZ:Blk W0 w.heap.size #[.int .i64 kind,.slice p nP c,.int .i64 k,.int .i64 n,.int .u64 (b:Int),.string s,.slice pL nL cL,.slice pE nE cE,.string key] 45:=by rw [hW0];exact jb w _ _
 have z0:=hZ.cell 0 _ rfl;have z2:=hZ.cell 2 _ rfl;have z3:=hZ.cell 3 _ rfl;have z4:=hZ.cell 4 _ rfl;have z5:=hZ.cell 5 _ rfl;have z6:=hZ.cell 6 _ rfl;have z7:=hZ.cell 7 _ rfl;have z8:=hZ.cell 8 _ rfl;have KC:=ja (callsIn_wide.1 (qH g W0 y _ _ _ _ _ _ ((hl.below b0).kept (fun q h=>Nat.lt_of_lt_of_le h b0.size) (Nat.le_refl _) (fun _ _ _=>rfl)) hn (Utf8Tabs_below hT b0)));have KK:=ja (Z3 W0 key hk (Utf8Tabs_below hT b0));rw [hW0] at z0 z2 z3 z4 z5 z6 z7 z8 KC KK;have B0:=ja b0;have HW0:=ja hW0
 rcases(show kind=1\/kind=2\/kind=3\/kind=4 by omega) with rfl | rfl | rfl | rfl
 all_goals
  clear hl hT b0 hZ hW0
  go_enter Tryd.func77,Tryd.ntmps77
  go_wp2_with (first
   | (go_at_call 16;refine(jc KC).mono ?_;rintro e w1 ⟨rfl,b1⟩;rw [<-HW0.out] at b1;have B1:=ja (B0.out.trans (b1.mono B0.out.size));clear b1)
   | (go_at_call 91;refine(jc KK).mono ?_;rintro e w1 ⟨rfl,b1⟩;rw [<-HW0.out] at b1;have B1:=ja (B0.out.trans (b1.mono B0.out.size));clear b1))
  go_ret
  first
   | exact⟨rfl,B1.out⟩
   | exact⟨rfl,by rw [<-HW0.out];exact B0.out⟩
theorem XU (w:World)(kind:Int)(hki : -9223372036854775808<=kind/\kind<=9223372036854775807)(p:Option Addr)(c:Nat)(P:List St)(hP:LiesP w p P)(hPl:P.length<=9223372036854775807)(g:Nat)(y:V)(k n:Int)(b:Nat)(s:ByteArray)(pL:Option Addr)(nL cL:Nat)(pE:Option Addr)(nE cE:Nat)(hl:LiesV (fun q=>q<w.heap.size) g w [.int .i64 k,.int .i64 n,.int .u64 (b:Int),.string s,.slice pL nL cL,.slice pE nE cE] y)(hn:jd g y<=10000000)(key:ByteArray)(hk:key.size<=9223372036854775807)(hT:jt w) :
  Calls Tryd.prog 63 #[.agg #[.int .i64 kind,.slice p P.length c,.int .i64 k,.int .i64 n,.int .u64 (b:Int),.string s,.slice pL nL cL,.slice pE nE cE,.string key]] w fun e w'=>e=.returned (.int .i64 (qf kind P y key.data.toList))/\Below w.heap.size w w':=by
 obtain⟨W0,hW0⟩:∃W0,W0=w.alloc (.cells #[.int .i64 kind,.slice p P.length c,.int .i64 k,.int .i64 n,.int .u64 (b:Int),.string s,.slice pL nL cL,.slice pE nE cE,.string key] 45):=⟨_,rfl⟩
 have b0:Below w.heap.size w W0:=by rw [hW0];exact(Below.refl _ w).alloc (Nat.le_refl _) _
 have hZ:Blk W0 w.heap.size #[.int .i64 kind,.slice p P.length c,.int .i64 k,.int .i64 n,.int .u64 (b:Int),.string s,.slice pL nL cL,.slice pE nE cE,.string key] 45:=by rw [hW0];exact jb w _ _
 have z0:=hZ.cell 0 _ rfl;have z1:=hZ.cell 1 _ rfl;rw [hW0] at z0 z1;have HZ:=ja hZ;have B0:=ja b0;have HW0:=ja hW0
 by_cases hr:kind<1\/4<kind
 ·have E:Hid (qf kind P y key.data.toList=1):=ja (by unfold qf;rw [if_pos hr])
  clear hl hT b0 hZ hW0 hP hn
  by_cases h1:kind<1
  ·go_enter Tryd.func63,Tryd.ntmps63
   go_wp2_with fail
   go_ret;exact⟨by rw [E.out];rfl,by rw [<-HW0.out];exact B0.out⟩
  ·have h4:kind > 4:=by omega
   go_enter Tryd.func63,Tryd.ntmps63
   go_wp2_with fail
   go_ret;exact⟨by rw [E.out];rfl,by rw [<-HW0.out];exact B0.out⟩
 ·have h1:¬kind<1:=by omega
  have h4:¬kind > 4:=by omega
  have KP:=ja (paths.qH W0 p c P (hP.keep b0) hPl (Utf8Tabs_below hT b0));rw [hW0] at KP
  by_cases hc:jq P=0
  ·have KN:Hid (∀w1,Below W0.heap.size W0 w1->Calls Tryd.prog 77 #[.agg #[.int .i64 kind,.slice p P.length c,.int .i64 k,.int .i64 n,.int .u64 (b:Int),.string s,.slice pL nL cL,.slice pE nE cE,.string key]] w1 fun e w'=>e=.returned (.int .i64 (qs kind y key.data.toList))/\Below w1.heap.size w1 w'):=ja fun w1 h=>by
    have b1:Below w.heap.size w w1:=b0.trans (h.mono b0.size);exact QB w1 kind (by omega) (by omega) p P.length c g y k n b s pL nL cL pE nE cE ((hl.below b1).kept (fun q h=>Nat.lt_of_lt_of_le h b1.size) (Nat.le_refl _) (fun _ _ _=>rfl)) hn key hk (Utf8Tabs_below hT b1)
   rw [hc] at KP;obtain⟨er,her⟩:∃er,er=qs kind y key.data.toList:=⟨_,rfl⟩
   rw [<-her] at KN;have hE:qf kind P y key.data.toList=if er≠0 then er else if kind≠1/\P=[] then 1 else 0:=by unfold qf;rw [if_neg hr,if_neg (by simpa using hc),<-her]
   by_cases he:er=0
   ·subst he
    rw [if_neg (by simp)] at hE
    by_cases hk1:kind=1
    ·subst hk1
     rw [if_neg (by simp)] at hE;have E:=ja hE;clear hl hT b0 hZ hW0 hP hn her hE hr
     go_enter Tryd.func63,Tryd.ntmps63
     go_wp2_with (first
      | (go_at_call 27;refine(jc KP).mono ?_;rintro e w1 ⟨rfl,b1⟩;rw [<-HW0.out] at b1;have B1:=ja b1;have hz1:=HZ.out.below b1;have y0:=hz1.cell 0 _ rfl;have y1:=hz1.cell 1 _ rfl;have y2:=hz1.cell 2 _ rfl;have y3:=hz1.cell 3 _ rfl;have y4:=hz1.cell 4 _ rfl;have y5:=hz1.cell 5 _ rfl;have y6:=hz1.cell 6 _ rfl;have y7:=hz1.cell 7 _ rfl;have y8:=hz1.cell 8 _ rfl;clear b1 hz1)
      | (go_at_call 77;refine(KN.out _ B1.out).mono ?_;rintro e w2 ⟨rfl,b2⟩;have B2:=ja (B1.out.trans (b2.mono B1.out.size));have hz2:=HZ.out.below (B1.out.trans (b2.mono B1.out.size));have x0:=hz2.cell 0 _ rfl;have x1:=hz2.cell 1 _ rfl;clear b2 hz2))
     go_ret;exact⟨by rw [E.out];rfl,B0.out.trans (B2.out.mono B0.out.size)⟩
    ·have hkb:(kind != 1)=true:=bne_iff_ne.2 hk1
     by_cases hPe:P=[]
     ·subst hPe
      rw [if_pos ⟨hk1,rfl⟩] at hE;have E:=ja hE;clear hl hT b0 hZ hW0 hP hn her hE hr
      go_enter Tryd.func63,Tryd.ntmps63
      go_wp2_with (first
       | (go_at_call 27;refine(jc KP).mono ?_;rintro e w1 ⟨rfl,b1⟩;rw [<-HW0.out] at b1;have B1:=ja b1;have hz1:=HZ.out.below b1;have y0:=hz1.cell 0 _ rfl;have y1:=hz1.cell 1 _ rfl;have y2:=hz1.cell 2 _ rfl;have y3:=hz1.cell 3 _ rfl;have y4:=hz1.cell 4 _ rfl;have y5:=hz1.cell 5 _ rfl;have y6:=hz1.cell 6 _ rfl;have y7:=hz1.cell 7 _ rfl;have y8:=hz1.cell 8 _ rfl;clear b1 hz1)
       | (go_at_call 77;refine(KN.out _ B1.out).mono ?_;rintro e w2 ⟨rfl,b2⟩;have B2:=ja (B1.out.trans (b2.mono B1.out.size));have hz2:=HZ.out.below (B1.out.trans (b2.mono B1.out.size));have x0:=hz2.cell 0 _ rfl;have x1:=hz2.cell 1 _ rfl;clear b2 hz2))
      go_ret;exact⟨by rw [E.out];rfl,B0.out.trans (B2.out.mono B0.out.size)⟩
     ·rw [if_neg (fun h=>hPe h.2)] at hE
      have hln:¬((P.length:Int)=0):=by have:=List.length_pos_iff.2 hPe;omega
      have hln2:¬(P.length=0):=by omega
      have E:=ja hE;clear hl hT b0 hZ hW0 hP hn her hE hr
      go_enter Tryd.func63,Tryd.ntmps63
      go_wp2_with (first
       | (go_at_call 27;refine(jc KP).mono ?_;rintro e w1 ⟨rfl,b1⟩;rw [<-HW0.out] at b1;have B1:=ja b1;have hz1:=HZ.out.below b1;have y0:=hz1.cell 0 _ rfl;have y1:=hz1.cell 1 _ rfl;have y2:=hz1.cell 2 _ rfl;have y3:=hz1.cell 3 _ rfl;have y4:=hz1.cell 4 _ rfl;have y5:=hz1.cell 5 _ rfl;have y6:=hz1.cell 6 _ rfl;have y7:=hz1.cell 7 _ rfl;have y8:=hz1.cell 8 _ rfl;clear b1 hz1)
       | (go_at_call 77;refine(KN.out _ B1.out).mono ?_;rintro e w2 ⟨rfl,b2⟩;have B2:=ja (B1.out.trans (b2.mono B1.out.size));have hz2:=HZ.out.below (B1.out.trans (b2.mono B1.out.size));have x0:=hz2.cell 0 _ rfl;have x1:=hz2.cell 1 _ rfl;clear b2 hz2))
      go_ret;exact⟨by rw [E.out];rfl,B0.out.trans (B2.out.mono B0.out.size)⟩
   ·rw [if_pos he] at hE
    have hne:(er != 0)=true:=bne_iff_ne.2 he;have E:=ja hE;clear hl hT b0 hZ hW0 hP hn her hE hr
    go_enter Tryd.func63,Tryd.ntmps63
    go_wp2_with (first
     | (go_at_call 27;refine(jc KP).mono ?_;rintro e w1 ⟨rfl,b1⟩;rw [<-HW0.out] at b1;have B1:=ja b1;have hz1:=HZ.out.below b1;have y0:=hz1.cell 0 _ rfl;have y1:=hz1.cell 1 _ rfl;have y2:=hz1.cell 2 _ rfl;have y3:=hz1.cell 3 _ rfl;have y4:=hz1.cell 4 _ rfl;have y5:=hz1.cell 5 _ rfl;have y6:=hz1.cell 6 _ rfl;have y7:=hz1.cell 7 _ rfl;have y8:=hz1.cell 8 _ rfl;clear b1 hz1)
     | (go_at_call 77;refine(KN.out _ B1.out).mono ?_;rintro e w2 ⟨rfl,b2⟩;have B2:=ja (B1.out.trans (b2.mono B1.out.size));have hz2:=HZ.out.below (B1.out.trans (b2.mono B1.out.size));have x0:=hz2.cell 0 _ rfl;have x1:=hz2.cell 1 _ rfl;clear b2 hz2))
    go_ret;exact⟨by rw [E.out];rfl,B0.out.trans (B2.out.mono B0.out.size)⟩
  ·have E:Hid (qf kind P y key.data.toList=jq P):=ja (by unfold qf;rw [if_neg hr,if_pos hc])
   obtain⟨er,her⟩:∃er,er=jq P:=⟨_,rfl⟩
   rw [<-her] at KP E hc;have hne:(er != 0)=true:=bne_iff_ne.2 hc;clear hl hT b0 hZ hW0 hP hn her hr
   go_enter Tryd.func63,Tryd.ntmps63
   go_wp2_with (go_at_call 27;refine(jc KP).mono ?_;rintro e w1 ⟨rfl,b1⟩;rw [<-HW0.out] at b1;have B1:=ja b1;clear b1)
   go_ret;exact⟨by rw [E.out];rfl,B0.out.trans (B1.out.mono B0.out.size)⟩
end upds
set_option linter.unusedSimpArgs false
namespace upds
open Go.RowKit Go.Shelf
open valus
open paths (St LiesP jt jq jf je)
def chM (kind:Int)(P:List St)(y:V)(key:List UInt8)(t:V):Int×V:=if kind=1 then jj (fun _=>(0,y)) t P else if kind=2 then jj (ZA (ju P) y) t P.dropLast else if kind=3 then Jg t P else zV t P key
def qR (kind:Int)(P:List St)(y:V)(key:List UInt8)(t:V):Int×V:=if qf kind P y key≠0 then (qf kind P y key,t) else if (chM kind P y key t).1≠0 then chM kind P y key t else (jh jr (chM kind P y key t).2,(chM kind P y key t).2)
theorem qJ {kind:Int}{P:List St}{y:V}{key:List UInt8}(h:qf kind P y key=0):1<=kind/\kind<=4/\jq P=0/\qs kind y key=0/\(kind≠1->P≠[]):=by
 unfold qf at h;split at h
 ·omega
 ·split at h
  ·rename_i h1 h2
   exact absurd h h2
  ·split at h
   ·rename_i h1 h2 h3
    exact absurd h h3
   ·split at h
    ·omega
    ·rename_i h1 h2 h3 h4
     exact⟨by omega,by omega,by simpa using h2,by simpa using h3,fun hk hP=>h4 ⟨hk,hP⟩⟩
theorem Yk {n0 R:Nat}{W:World}{t:V}(h:RootD n0 R W t)(hn0:n0<=W.heap.size)(hnt:Few 1000000 t)(kind:Int)(p:Option Addr)(c:Nat)(P:List St)(hP:LiesP W p P)(hPl:P.length<=20)(hPc:P.length<=c)(hcm:c<=9223372036854775807)(hT:jt W)(g:Nat)(y:V)(k n:Int)(b:Nat)(s:ByteArray)(pL:Option Addr)(nL cL:Nat)(pE:Option Addr)(nE cE:Nat)(hl:LiesV (fun q=>q<W.heap.size) g W [.int .i64 k,.int .i64 n,.int .u64 (b:Int),.string s,.slice pL nL cL,.slice pE nE cE] y)(key:ByteArray)(hk:key.size<=maxLen)(hck:qf kind P y key.data.toList=0)(hn:kind<=2->Few 1000000 y) :
  Calls Tryd.prog 64 #[.pointer (some ⟨R,0,none⟩),.agg #[.int .i64 kind,.slice p P.length c,.int .i64 k,.int .i64 n,.int .u64 (b:Int),.string s,.slice pL nL cL,.slice pE nE cE,.string key]] W (ChW n0 R W (chM kind P y key.data.toList t)):=by
 obtain⟨k1,k4,hcp,_,hP0⟩:=qJ hck
 rcases(show kind=1\/kind=2\/kind=3\/kind=4 by omega) with rfl | rfl | rfl | rfl
 ·exact X0 h hn0 hnt p c P hP hPl hcp hT g y k n b s pL nL cL pE nE cE hl (hn (by omega)) key
 ·have hne:=hP0 (by omega)
  have hlt:P.length - 1<P.length:=by have:=List.length_pos_iff.2 hne;omega
  have hlast:ju P=P[P.length - 1]:=by
   unfold ju;rw [List.getLast?_eq_getElem?,List.getElem?_eq_getElem hlt];rfl
  have hxs:=(paths.jm ((paths.jl hcp).2 _ (List.getElem_mem hlt)))
  have hb:(P[P.length - 1]).2<=9223372036854775807:=by
   obtain⟨_,_,_,_,_,_,_,hk3,_⟩:=hP.at hlt;exact hk3.2
  by_cases hx:(ju P).2 = -1
  ·exact QD h hn0 hnt p c P hP hPl hPc hcm hne hcp hT g y k n b s pL nL cL pE nE cE hl (hn (by omega)) key hx
  ·obtain⟨i,hi⟩:∃i:Nat,(ju P).2=(i:Int):=⟨(ju P).2.toNat,by rw [hlast] at hx ⊢;rcases hxs.2.1 with h | h<;>omega⟩
   exact JX h hn0 hnt p c P hP hPl hPc hcm hne hcp hT g y k n b s pL nL cL pE nE cE hl (hn (by omega)) key i hi
 ·exact XA h hn0 hnt p c P hP hPl hPc hcm (hP0 (by omega)) hcp hT g y k n b s pL nL cL pE nE cE hl key
 ·exact XN h hn0 hnt p c P hP hPl hPc hcm (hP0 (by omega)) hcp hT g y k n b s pL nL cL pE nE cE hl key hk
theorem X6 {n0 R:Nat}{W:World}{t:V}(h:RootD n0 R W t)(hn0:n0<=W.heap.size)(hnt:Few 1000000 t)(kind:Int)(hki : -9223372036854775808<=kind/\kind<=9223372036854775807)(p:Option Addr)(c:Nat)(P:List St)(hP:LiesP W p P)(hPl:P.length<=9223372036854775807)(hPc:P.length<=c)(hcm:c<=9223372036854775807)(hT:jt W)(hTn:∀w',Below n0 W w'->jt w')(g:Nat)(y:V)(k n:Int)(b:Nat)(s:ByteArray)(pL:Option Addr)(nL cL:Nat)(pE:Option Addr)(nE cE:Nat)(hl:LiesV (fun q=>q<W.heap.size) g W [.int .i64 k,.int .i64 n,.int .u64 (b:Int),.string s,.slice pL nL cL,.slice pE nE cE] y)(hny:jd g y<=10000000)(key:ByteArray)(hk:key.size<=maxLen)(hn:kind<=2->qf kind P y key.data.toList=0->Few 1000000 y)(hfew:qf kind P y key.data.toList=0->(chM kind P y key.data.toList t).1=0->Few 10000000 (chM kind P y key.data.toList t).2) :
  Calls Tryd.prog 43 #[.pointer (some ⟨R,0,none⟩),.agg #[.int .i64 kind,.slice p P.length c,.int .i64 k,.int .i64 n,.int .u64 (b:Int),.string s,.slice pL nL cL,.slice pE nE cE,.string key]] W (ChW n0 R W (qR kind P y key.data.toList t)):=by
 have hk63:key.size<=9223372036854775807:=by unfold maxLen at hk;omega
 obtain⟨W0,hW0⟩:∃W0,W0=W.alloc (.cells #[.int .i64 kind,.slice p P.length c,.int .i64 k,.int .i64 n,.int .u64 (b:Int),.string s,.slice pL nL cL,.slice pE nE cE,.string key] 45):=⟨_,rfl⟩
 have b0:Below W.heap.size W W0:=by rw [hW0];exact(Below.refl _ W).alloc (Nat.le_refl _) _
 have hZ:Blk W0 W.heap.size #[.int .i64 kind,.slice p P.length c,.int .i64 k,.int .i64 n,.int .u64 (b:Int),.string s,.slice pL nL cL,.slice pE nE cE,.string key] 45:=by rw [hW0];exact jb W _ _
 have KC:=ja (XU W0 kind hki p c P (hP.keep b0) hPl g y k n b s pL nL cL pE nE cE ((hl.below b0).kept (fun q h=>Nat.lt_of_lt_of_le h b0.size) (Nat.le_refl _) (fun _ _ _=>rfl)) hny key hk63 (Utf8Tabs_below hT b0));rw [hW0] at KC;have HZ:=ja hZ;have B0:=ja b0;have HW0:=ja hW0;have z0:=hZ.cell 0 _ rfl;have z1:=hZ.cell 1 _ rfl;have z2:=hZ.cell 2 _ rfl;have z3:=hZ.cell 3 _ rfl;have z4:=hZ.cell 4 _ rfl;have z5:=hZ.cell 5 _ rfl;have z6:=hZ.cell 6 _ rfl;have z7:=hZ.cell 7 _ rfl;have z8:=hZ.cell 8 _ rfl;rw [hW0] at z0 z1 z2 z3 z4 z5 z6 z7 z8
 by_cases hck:qf kind P y key.data.toList=0
 ·have hcp:=(qJ hck).2.2.1
  have hp20:=(paths.jl hcp).1
  have KH:Hid (∀w1,Below W0.heap.size W0 w1->Calls Tryd.prog 64 #[.pointer (some ⟨R,0,none⟩),.agg #[.int .i64 kind,.slice p P.length c,.int .i64 k,.int .i64 n,.int .u64 (b:Int),.string s,.slice pL nL cL,.slice pE nE cE,.string key]] w1 (ChW n0 R W (chM kind P y key.data.toList t))):=ja fun w1 hw1=>by
   have b1:Below W.heap.size W w1:=b0.trans (hw1.mono b0.size);exact(Yk (h.below b1) (Nat.le_trans hn0 b1.size) hnt kind p c P (hP.keep b1) hp20 hPc hcm (Utf8Tabs_below hT b1) g y k n b s pL nL cL pE nE cE ((hl.below b1).kept (fun q h=>Nat.lt_of_lt_of_le h b1.size) (Nat.le_refl _) (fun _ _ _=>rfl)) key hk hck (fun h2=>hn h2 hck)).mono fun e w' hc=>ChW.from hc b1 hn0
  obtain⟨r,hr⟩:∃r,r=chM kind P y key.data.toList t:=⟨_,rfl⟩
  have hU:qR kind P y key.data.toList t=if r.1≠0 then r else (jh jr r.2,r.2):=by unfold qR;rw [if_neg (by simpa using hck),<-hr]
  have hfw:=hfew hck;rw [<-hr] at KH hfw;rw [hck] at KC
  by_cases hr1:r.1=0
  ·rw [if_neg (by simpa using hr1)] at hU
   have HU:=ja hU;have HF:=ja (hfw hr1);have HT:=ja hTn;have HN0:=ja hn0;clear h hT hTn hl hny hn hfew hP hck hcp hr hU hfw hZ b0 hW0 hnt
   go_enter Tryd.func43,Tryd.ntmps43
   go_wp2_with (first
    | (go_at_call 63;refine(jc KC).mono ?_;rintro e w1 ⟨rfl,b1⟩;rw [<-HW0.out] at b1;have B1:=ja b1;have hz1:=HZ.out.below b1;have y0:=hz1.cell 0 _ rfl;have y1:=hz1.cell 1 _ rfl;have y2:=hz1.cell 2 _ rfl;have y3:=hz1.cell 3 _ rfl;have y4:=hz1.cell 4 _ rfl;have y5:=hz1.cell 5 _ rfl;have y6:=hz1.cell 6 _ rfl;have y7:=hz1.cell 7 _ rfl;have y8:=hz1.cell 8 _ rfl;clear b1 hz1)
    | (go_at_call 64;refine(KH.out _ B1.out).mono ?_;rintro e w2 ⟨he,hb2,hrt⟩;rw [hr1] at he;subst he;obtain⟨fr,Sr,x0,x1,x2,x3,x4,x5,hRB,hRl,hR0,hRS⟩:=hrt hr1;obtain⟨vk,vn,vb,vs,vpL,vnL,vcL,vpE,vnE,vcE,rfl,rfl,rfl,rfl,rfl,rfl⟩:=hRl.lies.form;have HRT:=ja (hrt hr1);have HBN:=ja hb2;have xx0:=hRB.cell 0 _ rfl;have xx1:=hRB.cell 1 _ rfl;have xx2:=hRB.cell 2 _ rfl;have xx3:=hRB.cell 3 _ rfl;have xx4:=hRB.cell 4 _ rfl;have xx5:=hRB.cell 5 _ rfl;have KV:=ja (callsIn_wide.1 (qH fr w2 r.2 _ _ _ _ _ _ (hRl.lies.weaken fun b h=>h.2) (by have:=HF.out.at hRl.lies.isV;omega) (HT.out w2 hb2)));clear hRB hRl hRS hrt hb2)
    | (go_at_call 16;refine(jc KV).mono ?_;rintro e w3 ⟨rfl,b3⟩;have B3:=ja b3;clear b3))
   go_ret;rw [HU.out];exact⟨rfl,HBN.out.trans (B3.out.mono (Nat.le_trans HN0.out HBN.out.size)),fun _=>HRT.out.below B3.out⟩
  ·rw [if_pos hr1] at hU
   have hne:(r.1 != 0)=true:=bne_iff_ne.2 hr1;have HU:=ja hU;have HN0:=ja hn0;clear h hT hTn hl hny hn hfew hP hck hcp hr hU hfw hZ b0 hW0 hnt
   go_enter Tryd.func43,Tryd.ntmps43
   go_wp2_with (first
    | (go_at_call 63;refine(jc KC).mono ?_;rintro e w1 ⟨rfl,b1⟩;rw [<-HW0.out] at b1;have B1:=ja b1;have hz1:=HZ.out.below b1;have y0:=hz1.cell 0 _ rfl;have y1:=hz1.cell 1 _ rfl;have y2:=hz1.cell 2 _ rfl;have y3:=hz1.cell 3 _ rfl;have y4:=hz1.cell 4 _ rfl;have y5:=hz1.cell 5 _ rfl;have y6:=hz1.cell 6 _ rfl;have y7:=hz1.cell 7 _ rfl;have y8:=hz1.cell 8 _ rfl;clear b1 hz1)
    | (go_at_call 64;refine(KH.out _ B1.out).mono ?_;rintro e w2 ⟨rfl,hb2,hrt⟩;have HBN:=ja hb2;clear hb2 hrt))
   go_ret;rw [HU.out];exact⟨rfl,HBN.out,fun hx=>absurd hx hr1⟩
 ·have hU:qR kind P y key.data.toList t=(qf kind P y key.data.toList,t):=by unfold qR;rw [if_pos hck]
  obtain⟨er,her⟩:∃er,er=qf kind P y key.data.toList:=⟨_,rfl⟩
  rw [<-her] at hU KC hck;have hne:(er != 0)=true:=bne_iff_ne.2 hck;have HU:=ja hU;have HN0:=ja hn0;clear h hT hTn hl hny hn hfew hP her hU hZ b0 hW0 hnt
  go_enter Tryd.func43,Tryd.ntmps43
  go_wp2_with (go_at_call 63;refine(jc KC).mono ?_;rintro e w1 ⟨rfl,b1⟩;rw [<-HW0.out] at b1;have B1:=ja b1;clear b1)
  go_ret;rw [HU.out];exact⟨rfl,(B0.out.trans (B1.out.mono B0.out.size)).mono HN0.out,fun hx=>absurd hx hck⟩
open valus
open paths (St jf je qT jq)
theorem JU (q:V->Nat):∀(l:List V) (j:Nat) (y w:V),l[j]?=some y->jo q (l.set j w)+q y=jo q l+q w
 | [],j,y,w,h=>by simp at h
 | a :: l,0,y,w,h=>by
  simp only [List.getElem?_cons_zero,Option.some.injEq] at h;subst h
  show q w+jo q l+q a=q a+jo q l+q w
  omega
 | a :: l,j+1,y,w,h=>by
  rw [List.getElem?_cons_succ] at h;have:=JU q l j y w h
  show q a+jo q (l.set j w)+q y=q a+jo q l+q w
  omega
theorem JL (q:V->Nat)(f:V->Bool):∀l:List V,jo q (l.filter f)<=jo q l
 | []=>Nat.le_refl _
 | a :: l=>by
  have:=JL q f l;rw [List.filter_cons];split
  ·show q a+_<=q a+_
   omega
  ·show _<=q a+_
   omega
theorem Zn (q:V->Nat)(l:List V)(i:Nat)(y:V):jo q (l.take i++y :: l.drop i)=jo q l+q y:=by
 have h:=jH q (l.take i) (l.drop i);rw [List.take_append_drop] at h;rw [jH]
 show jo q (l.take i)+(q y+jo q (l.drop i))=_
 omega
theorem Y6 (q:V->Nat)(l:List V)(i:Nat):jo q (l.take i++l.drop (i+1))<=jo q l:=by
 have h:=jH q (l.take i) (l.drop i);rw [List.take_append_drop] at h;rw [jH]
 have:jo q (l.drop (i+1))<=jo q (l.drop i):=by
  rcases Nat.lt_or_ge i l.length with hi | hi
  ·rw [List.drop_eq_getElem_cons hi]
   show _<=q _+_
   omega
  ·rw [List.drop_of_length_le (by omega)]
   exact Nat.zero_le _
 omega
def Jc (f:Nat)(L E:List V):Nat:=jo (jd f) L+jo (fun e=>jd f (jE e).2) E
theorem zW (f:Nat)(x:Lab)(L E:List V):jd (f+1) (mkV x L E)=Jc f L E+1:=by
 show jo (jd f) (parts (mkV x L E))+1=_
 rw [jB,jH]
 have:∀E:List V,jo (jd f) (E.map fun e=>(jE e).2)=jo (fun e=>jd f (jE e).2) E:=fun E=>by
  induction E with
  | nil=>rfl
  | cons e E ih=>
   show jd f (jE e).2+_=jd f (jE e).2+_
   rw [ih]
 rw [this];rfl
theorem jaw {f G:Nat}{t y w:V}{x:St}(ht:IsV f t)(hx:jf t x=.inl y)(hI:x.2 = -1\/0<=x.2)(hfG:f<=G+1)(hw:IsV G w):IsV (G+1) (zl t x w)/\∃g,IsV g y/\g<=G+1/\jd (G+1) (zl t x w)+jd g y<=jd f t+jd G w:=by
 have hT:IsV (G+1) t:=ht.le hfG;have eT:=jS ht hfG;have hhit:=qX ht hx;obtain⟨lab,L,E,rfl,hlab,hL,hE⟩:=hT;rw [jQ] at hhit
 dsimp only at hhit
 have eN:jd (G+1) (mkV lab L E)=Jc G L E+1:=zW G lab L E
 rcases hhit with ⟨h1,j,h2,h3⟩ | ⟨h1,h2⟩
 ·have hp:zl (mkV lab L E) x w=mkV lab L (E.set j (ent x.1 w)):=by
   unfold zl;rw [if_pos h1,jQ]
   dsimp only
   rw [h3,Int.toNat_natCast]
  rw [hp]
  have hy:IsV G y:=by
   obtain⟨k',y',e,hy'⟩:=hE _ (List.mem_of_getElem? h2);obtain⟨_,rfl⟩:=ZY e;exact hy'
  refine⟨IsV.mk.2 ⟨hlab,hL,fun e he=>?_⟩,G,hy,Nat.le_succ _,?_⟩
  ·rcases List.mem_or_eq_of_mem_set he with he | rfl
   ·exact hE e he
   ·exact⟨_,_,rfl,hw⟩
  ·rw [zW,<-eT,eN]
   have:=JU (fun e=>jd G (jE e).2) E j _ (ent x.1 w) h2;simp only [jv] at this;unfold Jc;omega
 ·have h0:0<=x.2:=by rcases hI with h | h<;>omega
  obtain⟨h3,h4⟩:=h2 h0
  have hp:zl (mkV lab L E) x w=mkV lab (L.set x.2.toNat w) E:=by
   unfold zl;rw [if_neg h1,jQ]
  rw [hp];have hy:IsV G y:=hL _ (List.mem_of_getElem? h3);refine⟨IsV.mk.2 ⟨hlab,fun e he=>?_,hE⟩,G,hy,Nat.le_succ _,?_⟩
  ·rcases List.mem_or_eq_of_mem_set he with he | rfl
   ·exact hL e he
   ·exact hw
  ·rw [zW,<-eT,eN]
   have:=JU (jd G) L _ _ w h3;unfold Jc;omega
theorem Xr:∀(P:List St) {f G:Nat} {t y z:V},(∀x,x∈P->x.2 = -1\/0<=x.2)->IsV f t->IsV G z->f<=G->je t P=.inl y->IsV (G+P.length) (j6 t P z)/\jd (G+P.length) (j6 t P z)<=jd f t+jd G z
 | [],f,G,t,y,z,_,ht,hz,_,_=>⟨hz,Nat.le_add_left _ _⟩
 | x :: P,f,G,t,y,z,hI,ht,hz,hfG,h=>by
  have h':qT (jf t x) P=.inl y:=h;cases hp:jf t x with
  | inr e=>rw [hp] at h';exact absurd (show(Sum.inr e:V⊕Int)=.inl y from h') (by simp)
  | inl u=>
   rw [hp] at h'
   have hs:j6 t (x :: P) z=zl t x (j6 u P z):=by
    show(match jf t x with | .inl w=>zl t x (j6 w P z) | .inr _=>t)=_
    rw [hp]
   rw [hs]
   have hu:IsV f u:=by
    cases f with
    | zero=>exact ht.elim
    | succ f=>
     rcases qX ht hp with ⟨_,j,h2,_⟩ | ⟨h1,h2⟩
     ·obtain⟨lab,L,E,rfl,_,_,hE⟩:=ht
      rw [jQ] at h2;obtain⟨k',y',e,hy'⟩:=hE _ (List.mem_of_getElem? h2);obtain⟨_,rfl⟩:=ZY e;exact hy'.more
     ·have h0:0<=x.2:=by rcases hI x (by simp) with h | h<;>omega
      obtain⟨lab,L,E,rfl,_,hL,_⟩:=ht;have h3:=(h2 h0).1;rw [jQ] at h3;exact(hL _ (List.mem_of_getElem? h3)).more
   obtain⟨k1,k2⟩:=Xr P (fun x hx=>hI x (by simp [hx])) hu hz hfG h';obtain⟨k3,g,k4,k5,k6⟩:=jaw ht hp (hI x (by simp)) (show f<=G+P.length+1 by omega) k1;refine⟨k3,?_⟩;have e1:=jS k4 (Nat.le_max_left g f);have e2:=jS hu (Nat.le_max_right g f)
   show jd (G+P.length+1) _<=_
   omega
theorem Qw {F:Nat}{h:V}{lab:Lab}{L E L' E':List V}{B:Nat}(hh:IsV F h)(e:h=mkV lab L E)(hL:∀l,l∈L'->IsV F l)(hE:∀e,e∈E'->IsE F e)(hn:Jc F L' E'<=Jc F L E+B):IsV (F+1) (mkV lab L' E')/\jd (F+1) (mkV lab L' E')<=jd F h+B:=by
 have h1:=hh.more;rw [e] at h1;refine⟨IsV.mk.2 ⟨(IsV.mk.1 h1).1,hL,hE⟩,?_⟩;have h2:=jI hh;rw [e,zW] at h2;rw [zW,e];omega
theorem Qx {F:Nat}{h:V}(hh:IsV F h):h=mkV (opn h).1 (opn h).2.1 (opn h).2.2/\(∀l,l∈(opn h).2.1->IsV F l)/\∀e,e∈(opn h).2.2->IsE F e:=by
 obtain⟨lab,L,E,rfl,_,a,b⟩:=hh.more;rw [jQ];exact⟨rfl,a,b⟩
theorem Qh (q:V->Nat)(k:List UInt8)(E:List V):jo q (jD k E)<=jo q E:=JL q _ E
theorem YS {k:List UInt8}{y e:V}{E:List V}(h:e∈qx k y E):e=ent k y\/e∈E:=by
 unfold qx at h
 rcases List.mem_append.1 h with h | h
 ·exact .inr (List.mem_of_mem_take h)
 ·rcases List.mem_cons.1 h with h | h
  ·exact .inl h
  ·exact .inr (List.mem_of_mem_drop h)
theorem Xh (q:V->Nat)(k:List UInt8)(y:V)(E:List V):jo q (qx k y E)=jo q E+q (ent k y):=Zn q E _ _
theorem jaT {F:Nat}{h y:V}(key:List UInt8)(hh:IsV F h)(hy:IsV F y):IsV (F+1) (Q7 key y h).2/\jd (F+1) (Q7 key y h).2<=jd F h+jd F y:=by
 obtain⟨e,hL,hE⟩:=Qx hh;unfold Q7;split
 ·exact⟨hh.more,by rw [jI hh];omega⟩
 ·split
  ·exact⟨hh.more,by rw [jI hh];omega⟩
  ·refine Qw hh e hL (fun z hz=>?_) ?_
   ·rcases YS hz with rfl | hz
    ·exact⟨_,_,rfl,hy⟩
    ·exact hE z (List.mem_filter.1 hz).1
   ·have h1:=Xh (fun e=>jd F (jE e).2) key y (jD key (opn h).2.2)
    have h2:=Qh (fun e=>jd F (jE e).2) key (opn h).2.2;simp only [jv] at h1;unfold Jc;omega
theorem jaI {F:Nat}{h y:V}(i:Int)(hh:IsV F h)(hy:IsV F y):IsV (F+1) (Q8 i y h).2/\jd (F+1) (Q8 i y h).2<=jd F h+jd F y:=by
 obtain⟨e,hL,hE⟩:=Qx hh;unfold Q8;split
 ·exact⟨hh.more,by rw [jI hh];omega⟩
 ·split
  ·exact⟨hh.more,by rw [jI hh];omega⟩
  ·refine Qw hh e (fun z hz=>?_) hE ?_
   ·rcases List.mem_append.1 hz with hz | hz
    ·exact hL z (List.mem_of_mem_take hz)
    ·rcases List.mem_cons.1 hz with rfl | hz
     ·exact hy
     ·exact hL z (List.mem_of_mem_drop hz)
   ·have h1:=Zn (jd F) (opn h).2.1 i.toNat y
    unfold Jc;omega
theorem jad {F:Nat}{h:V}(key:List UInt8)(hh:IsV F h):IsV (F+1) (Zm key h).2/\jd (F+1) (Zm key h).2<=jd F h+0:=by
 obtain⟨e,hL,hE⟩:=Qx hh;refine Qw hh e hL (fun z hz=>hE z (List.mem_filter.1 hz).1) ?_
 have h2:=Qh (fun e=>jd F (jE e).2) key (opn h).2.2;unfold Jc;omega
theorem Y3 {F:Nat}{h:V}(i:Nat)(hh:IsV F h):IsV (F+1) (Zj i h).2/\jd (F+1) (Zj i h).2<=jd F h+0:=by
 obtain⟨e,hL,hE⟩:=Qx hh;refine Qw hh e (fun z hz=>?_) hE ?_
 ·rcases List.mem_append.1 hz with hz | hz
  ·exact hL z (List.mem_of_mem_take hz)
  ·exact hL z (List.mem_of_mem_drop hz)
 ·have h2:=Y6 (jd F) (opn h).2.1 i
  unfold Jc;omega
theorem jap {F:Nat}{h y:V}(xk key:List UInt8)(hh:IsV F h)(hy:IsV F y):IsV (F+1) (zo xk key y h).2/\jd (F+1) (zo xk key y h).2<=jd F h+jd F y:=by
 obtain⟨e,hL,hE⟩:=Qx hh;unfold zo;split
 ·exact⟨hh.more,by rw [jI hh];omega⟩
 ·refine Qw hh e hL (fun z hz=>?_) ?_
  ·rcases YS hz with rfl | hz
   ·exact⟨_,_,rfl,hy⟩
   ·exact hE z (List.mem_filter.1 (List.mem_filter.1 hz).1).1
  ·have h1:=Xh (fun e=>jd F (jE e).2) key y (jD key (jD xk (opn h).2.2))
   have h2:=Qh (fun e=>jd F (jE e).2) key (jD xk (opn h).2.2);have h3:=Qh (fun e=>jd F (jE e).2) xk (opn h).2.2;simp only [jv] at h1;unfold Jc;omega
theorem zr {A B f:Nat}{t:V}{P:List St}{G:V->Int×V}(hI:∀x,x∈P->x.2 = -1\/0<=x.2)(ht:IsV f t)(hA:jd f t<=A)(hG:∀F h,f<=F->IsV F h->IsV (F+1) (G h).2/\jd (F+1) (G h).2<=jd F h+B):Few (A+(A+B)) (jj G t P).2:=by
 unfold jj;cases hl:je t P with
 | inr e=>exact⟨f,ht,by show jd f t<=_;omega⟩
 | inl y=>
  show Few _ (j6 t P (G y).2)
  have hy:=qr P hI ht ⟨f,ht,hA⟩ hl;obtain⟨g,hg,hg2⟩:=hy;have e1:=jS hg (Nat.le_max_left g f);obtain⟨k1,k2⟩:=hG (max g f) y (Nat.le_max_right g f) (hg.le (Nat.le_max_left g f));obtain⟨k3,k4⟩:=Xr P hI ht k1 (by omega) hl;exact⟨_,k3,by omega⟩
theorem YB {f g:Nat}{t y:V}{kind:Int}{P:List St}{key:List UInt8}(hc:jq P=0)(ht:IsV f t)(hA:jd f t<=1000000)(hy:kind<=2->IsV g y/\jd g y<=1000000):Few 10000000 (chM kind P y key t).2:=by
 have hI:∀x,x∈P->x.2 = -1\/0<=x.2:=fun x hx=>(paths.jm ((paths.jl hc).2 x hx)).2.1.imp id And.left
 have hID:∀x,x∈P.dropLast->x.2 = -1\/0<=x.2:=fun x hx=>hI x (List.dropLast_subset _ hx)
 have up:∀{v:V} {A:Nat},A<=10000000->Few A v->Few 10000000 v:=fun h ⟨k,k1,k2⟩=>⟨k,k1,by omega⟩
 unfold chM;split
 ·rename_i h1
  obtain⟨y1,y2⟩:=hy (by omega);refine up (by omega) (zr (f:=max f g) (A:=1000000) (B:=1000000) hI (ht.le (Nat.le_max_left f g)) (by rw [jS ht (Nat.le_max_left f g)];exact hA) (fun F h hF hh=>?_));have hyF:=y1.le (show g<=F+1 by omega);refine⟨hyF,?_⟩
  show jd (F+1) y<=_
  rw [jS y1 (by omega)];omega
 ·split
  ·rename_i h0 h1
   obtain⟨y1,y2⟩:=hy (by omega);refine up (by omega) (zr (f:=max f g) (A:=1000000) (B:=1000000) hID (ht.le (Nat.le_max_left f g)) (by rw [jS ht (Nat.le_max_left f g)];exact hA) (fun F h hF hh=>?_));have hyF:=y1.le (show g<=F by omega);have eY:=jS y1 (show g<=F by omega);unfold ZA;split
   ·have:=jaT (ju P).1 hh hyF
    exact⟨this.1,by omega⟩
   ·have:=jaI (ju P).2 hh hyF
    exact⟨this.1,by omega⟩
  ·split
   ·unfold Jg
    split
    ·exact⟨f,ht,by show jd f t<=_;omega⟩
    ·refine up (by omega) (zr (f:=f) (A:=1000000) (B:=0) hID ht hA (fun F h hF hh=>?_))
     unfold JN;split
     ·exact jad _ hh
     ·exact Y3 _ hh
   ·unfold zV
    cases hl:je t P with
    | inr e=>exact⟨f,ht,by show jd f t<=_;omega⟩
    | inl w=>
     obtain⟨gw,w1,w2⟩:=qr P hI ht ⟨f,ht,hA⟩ hl;refine up (by omega) (zr (f:=max f gw) (A:=1000000) (B:=1000000) hID (ht.le (Nat.le_max_left f gw)) (by rw [jS ht (Nat.le_max_left f gw)];exact hA) (fun F h hF hh=>?_));have hwF:=w1.le (show gw<=F by omega);have eW:=jS w1 (show gw<=F by omega);unfold JH;split
     ·have:=jap (ju P).1 key hh hwF
      exact⟨this.1,by omega⟩
     ·exact⟨hh.more,by show jd (F+1) h<=_;rw [jI hh];omega⟩
end upds
set_option linter.unusedSimpArgs false
namespace upds
open Go.RowKit Go.Shelf
open valus
open paths (St LiesP jt jq jf je)
abbrev OpD:=Int×List St×V×List UInt8
def JF:Nat->List OpD->V->Int×Int×V
 | _,[],t=>(0,0,t)
 | i,o :: l,t=>if (qR o.1 o.2.1 o.2.2.1 o.2.2.2 t).1≠0 then ((i:Int),(qR o.1 o.2.1 o.2.2.1 o.2.2.2 t).1,t) else JF (i+1) l (qR o.1 o.2.1 o.2.2.1 o.2.2.2 t).2
def qQ (l:List OpD)(t:V):Int×Int×V:=if jh jr t≠0 then (0,jh jr t,t) else JF 0 l t
def OpIn (w:World)(us:List Value)(x:OpD):Prop:=∃(p:Option Addr) (c g:Nat) (k n:Int) (b:Nat) (s:ByteArray) (pL:Option Addr) (nL cL:Nat) (pE:Option Addr) (nE cE:Nat) (key:ByteArray),
 us=[.int .i64 x.1,.slice p x.2.1.length c,.int .i64 k,.int .i64 n,.int .u64 (b:Int),.string s,.slice pL nL cL,.slice pE nE cE,.string key]/\(-9223372036854775808<=x.1/\x.1<=9223372036854775807)/\LiesP w p x.2.1/\x.2.1.length<=c/\c<=9223372036854775807/\
 LiesV (fun q=>q<w.heap.size) g w [.int .i64 k,.int .i64 n,.int .u64 (b:Int),.string s,.slice pL nL cL,.slice pE nE cE] x.2.2.1/\jd g x.2.2.1<=10000000/\key.size<=maxLen/\key.data.toList=x.2.2.2
theorem OpIn.below {w w':World}{us:List Value}{x:OpD}(h:OpIn w us x)(hb:Below w.heap.size w w'):OpIn w' us x:=by
 obtain⟨p,c,g,k,n,b,s,pL,nL,cL,pE,nE,cE,key,h1,h2,h3,h4,h5,h6,h7,h8,h9⟩:=h;exact⟨p,c,g,k,n,b,s,pL,nL,cL,pE,nE,cE,key,h1,h2,h3.keep hb,h4,h5,(h6.below hb).kept (fun q h=>Nat.lt_of_lt_of_le h hb.size) (Nat.le_refl _) (fun _ _ _=>rfl),h7,h8,h9⟩
def LiesO (w:World)(q:Option Addr)(l:List OpD):Prop:=l.length≠0->∃B o,q=some ⟨B,o,none⟩/\B<w.heap.size/\∀j x,l[j]?=some x->∃us,us.length=9/\(∀i,i<9->w.cell? ⟨B,o+j*9+i,none⟩=us[i]?)/\OpIn w us x
theorem jak {n0 R:Nat}{w W:World}{t:V}(h:RootD n0 R W t)(hn0:n0<=W.heap.size)(hw:w.heap.size<=n0)(hb:Below w.heap.size w W)(hnt:Few 1000000 t)(hT:jt w){us:List Value}{x:OpD}(hx:OpIn w us x)(hgood:∀y:V,∀g,IsV g y->jh jr y=0->jd g y<=2000) :
  ∃a0 a1 a2 a3 a4 a5 a6 a7 a8,us=[a0,a1,a2,a3,a4,a5,a6,a7,a8]/\Calls Tryd.prog 43 #[.pointer (some ⟨R,0,none⟩),.agg #[a0,a1,a2,a3,a4,a5,a6,a7,a8]] W (ChW n0 R W (qR x.1 x.2.1 x.2.2.1 x.2.2.2 t)):=by
 obtain⟨p,c,g,k,n,b,s,pL,nL,cL,pE,nE,cE,key,rfl,h2,h3,h4,h5,h6,h7,h8,h9⟩:=hx.below hb;refine⟨_,_,_,_,_,_,_,_,_,rfl,?_⟩;rw [<-h9]
 have hy:∀kind:Int,kind<=2->qf kind x.2.1 x.2.2.1 key.data.toList=0->jd g x.2.2.1<=1000000:=fun kind hk hc=>by
  obtain⟨k1,_,_,hneed,_⟩:=qJ hc;unfold qs at hneed;rw [if_pos (by omega)] at hneed;have:=hgood _ g h6.isV hneed;omega
 obtain⟨ft,ht1,ht2⟩:=hnt;have hl20:jq x.2.1=0->x.2.1.length<=20:=fun hc=>(paths.jl hc).1
 exact X6 h hn0 ⟨ft,ht1,ht2⟩ x.1 h2 p c x.2.1 h3 (by omega) h4 h5 (Utf8Tabs_below hT hb) (fun w' hw'=>Utf8Tabs_below hT (hb.trans (hw'.mono hw))) g x.2.2.1 k n b s pL nL cL pE nE cE h6 h7 key h8 (fun hk hc=>⟨g,h6.isV,hy _ hk hc⟩) (fun hc _=>YB (qJ hc).2.2.1 ht1 ht2 (fun hk=>⟨h6.isV,hy _ hk hc⟩))
theorem XL {kind:Int}{P:List St}{y:V}{key:List UInt8}{t:V}(h:(qR kind P y key t).1=0):jh jr (qR kind P y key t).2=0:=by
 unfold qR at h ⊢;split
 ·rename_i h1
  rw [if_pos h1] at h;exact absurd h h1
 ·rename_i h1
  rw [if_neg h1] at h;split
  ·rename_i h2
   rw [if_pos h2] at h;exact absurd h h2
  ·rename_i h2
   rw [if_neg h2] at h;exact h
theorem RootD.isV {n0 R:Nat}{W:World}{t:V}(h:RootD n0 R W t):∃f,IsV f t:=by
 obtain⟨f,S,x0,x1,x2,x3,x4,x5,_,hl,_⟩:=h;exact⟨f,hl.lies.isV⟩
theorem Ji {w:World}{B:Nat}{u0 u1 u2 u3 u4 u5 y z:Value}(tmps:Array Value)(h:Blk w B #[u0,u1,u2,u3,u4,u5] 26)(ht:tmps[4]?=some (.pointer (some ⟨B,0,none⟩)):=by rfl)(hy:tmps[5]?=some y:=by rfl)(hz:tmps[6]?=some z:=by rfl):(results Tryd.f25 tmps).run Tryd.prog w=.ok (.tuple #[.agg #[u0,u1,u2,u3,u4,u5],y,z]) w:=by
 obtain⟨c0,c1,c2,c3,c4,c5⟩:=h.cells6;simp [results,Tryd.f25,ht,hy,hz,go_sem,c0,c1,c2,c3,c4,c5]
def jco (w:World)(r:Int×Int×V)(e:Ending)(w':World):Prop:=Below w.heap.size w w'/\(r.2.1=0->∃(f:Nat) (x0 x1 x2 x3 x4 x5:Value),e=.returned (.tuple #[.agg #[x0,x1,x2,x3,x4,x5],.int .i64 r.1,.int .i64 0])/\LiesV (fun q=>w.heap.size<=q/\q<w'.heap.size) f w' [x0,x1,x2,x3,x4,x5] r.2.2/\Few 1000000 r.2.2)/\(r.2.1≠0->e=.returned (.tuple #[.agg #[.int .i64 0,.int .i64 0,.int .u64 0,.string ⟨#[]⟩,.slice none 0 0,.slice none 0 0],.int .i64 r.1,.int .i64 r.2.1]))
theorem YN (w:World)(f:Nat)(t:V)(k n:Int)(b:Nat)(s:ByteArray)(pL:Option Addr)(nL cL:Nat)(pE:Option Addr)(nE cE:Nat)(hl:LiesV (fun q=>q<w.heap.size) f w [.int .i64 k,.int .i64 n,.int .u64 (b:Int),.string s,.slice pL nL cL,.slice pE nE cE] t)(hn:jd f t<=10000000)(q:Option Addr)(c:Nat)(l:List OpD)(hO:LiesO w q l)(hcl:l.length<=9223372036854775807)(hT:jt w)(hgood:∀y:V,∀g,IsV g y->jh jr y=0->jd g y<=2000) :
  Calls Tryd.prog 25 #[.agg #[.int .i64 k,.int .i64 n,.int .u64 (b:Int),.string s,.slice pL nL cL,.slice pE nE cE],.slice q l.length c] w (jco w (qQ l t)):=by
 obtain⟨W0,hW0⟩:∃W0,W0=(w.alloc (.cells #[.int .i64 k,.int .i64 n,.int .u64 (b:Int),.string s,.slice pL nL cL,.slice pE nE cE] 26)).alloc (.cells #[.int .i64 0,.int .i64 0,.int .u64 0,.string ⟨#[]⟩,.slice none 0 0,.slice none 0 0] 26):=⟨_,rfl⟩
 have b0:Below w.heap.size w W0:=by rw [hW0];exact((Below.refl _ w).alloc (Nat.le_refl _) _).alloc (by simp) _
 have s0:W0.heap.size=w.heap.size+2:=by rw [hW0];simp
 have hV:Blk W0 w.heap.size #[.int .i64 k,.int .i64 n,.int .u64 (b:Int),.string s,.slice pL nL cL,.slice pE nE cE] 26:=by rw [hW0];exact(jb w _ _).alloc _
 have hR:Blk W0 (w.heap.size+1) #[.int .i64 0,.int .i64 0,.int .u64 0,.string ⟨#[]⟩,.slice none 0 0,.slice none 0 0] 26:=by
  rw [hW0];have:=jb (w.alloc (.cells #[.int .i64 k,.int .i64 n,.int .u64 (b:Int),.string s,.slice pL nL cL,.slice pE nE cE] 26)) #[.int .i64 0,.int .i64 0,.int .u64 0,.string ⟨#[]⟩,.slice none 0 0,.slice none 0 0] 26;rwa [World.size_alloc] at this
 have hl0:LiesV (fun q=>q<W0.heap.size) f W0 [.int .i64 k,.int .i64 n,.int .u64 (b:Int),.string s,.slice pL nL cL,.slice pE nE cE] t:=(hl.below b0).kept (fun q h=>Nat.lt_of_lt_of_le h b0.size) (Nat.le_refl _) (fun _ _ _=>rfl);have KC:=ja (callsIn_wide.1 (qH f W0 t _ _ _ _ _ _ hl0 hn (Utf8Tabs_below hT b0)));have e0:=hV.cell 0 _ rfl;have e1:=hV.cell 1 _ rfl;have e2:=hV.cell 2 _ rfl;have e3:=hV.cell 3 _ rfl;have e4:=hV.cell 4 _ rfl;have e5:=hV.cell 5 _ rfl;rw [hW0] at e0 e1 e2 e3 e4 e5 KC;have HW0:=ja hW0;have HV:=ja hV;have HR:=ja hR;have B0:=ja b0
 by_cases hf:jh jr t=0
 ·have hA:qQ l t=JF 0 l t:=by unfold qQ;rw [if_neg (by simpa using hf)]
  rw [hA];rw [hf] at KC
  have KY:Hid (∀w1,Below W0.heap.size W0 w1->Calls Tryd.prog 29 #[.agg #[.int .i64 k,.int .i64 n,.int .u64 (b:Int),.string s,.slice pL nL cL,.slice pE nE cE]] w1 fun e w2=>∃(vk vn:Int) (vb:Nat) (vs:ByteArray) (vpL:Option Addr) (vnL vcL:Nat) (vpE:Option Addr) (vnE vcE:Nat),e=.returned (.agg #[.int .i64 vk,.int .i64 vn,.int .u64 (vb:Int),.string vs,.slice vpL vnL vcL,.slice vpE vnE vcE])/\LiesD f (fun b=>W0.heap.size<=b/\b<w2.heap.size) w2 [.int .i64 vk,.int .i64 vn,.int .u64 (vb:Int),.string vs,.slice vpL vnL vcL,.slice vpE vnE vcE] t/\Below W0.heap.size W0 w2):=ja fun w1 hw1=>by
   have C:=callsIn_wide.1 (zk (fun b=>b<W0.heap.size) f w1 t _ _ _ _ _ _ (fun b hb=>Nat.lt_of_lt_of_le hb hw1.size) (hl0.below hw1) hn);refine C.mono ?_
   rintro e w2 ⟨⟨x0,x1,x2,x3,x4,x5,he,hx⟩,hb⟩
   obtain⟨vk,vn,vb,vs,vpL,vnL,vcL,vpE,vnE,vcE,rfl,rfl,rfl,rfl,rfl,rfl⟩:=hx.lies.form;exact⟨vk,vn,vb,vs,vpL,vnL,vcL,vpE,vnE,vcE,he,hx.mono (fun b hb=>⟨Nat.le_trans hw1.size hb.1,hb.2⟩),hw1.trans (hb.mono hw1.size)⟩
  have HF:=ja (show IsV f t from hl.isV);have HN:=ja (hgood t f hl.isV hf);have HT:=ja hT;have HO:=ja hO;have HG:=ja hgood;clear hl hl0 hT hO hgood b0 hV hR hW0 hA hn
  go_enter Tryd.func25,Tryd.ntmps25
  go_wp2_with (first
   | (go_at_call 16;refine(jc KC).mono ?_;rintro e w1 ⟨rfl,b1⟩;rw [<-HW0.out] at b1;have B1:=ja b1;have hv1:=HV.out.below b1;have f0:=hv1.cell 0 _ rfl;have f1:=hv1.cell 1 _ rfl;have f2:=hv1.cell 2 _ rfl;have f3:=hv1.cell 3 _ rfl;have f4:=hv1.cell 4 _ rfl;have f5:=hv1.cell 5 _ rfl;clear b1 hv1)
   | (go_at_call 29;refine(KY.out _ B1.out).mono ?_;rintro e w2 ⟨vk,vn,vb,vs,vpL,vnL,vcL,vpE,vnE,vcE,rfl,hx,b2⟩;have HX:=ja hx;have B2:=ja b2;clear hx b2))
  have hs2:W0.heap.size<=w2.heap.size:=B2.out.size
  go_loopw [22] (fun i wr=>∃(j:Nat) (tj:V),i=.int .i64 j/\j<=l.length/\Hid (RootD W0.heap.size w2.heap.size wr tj/\Few 1000000 tj)/\Hid (JF j (l.drop j) tj=JF 0 l t)/\Below W0.heap.size W0 wr) (fun i _=>l.length - (intOf i).toNat)
  case atStart=>exact⟨0,t,rfl,Nat.zero_le _,ja ⟨⟨f,_,_,_,_,_,_,_,jb w2 _ _,HX.out.same (fun b _ hlt=>Below.heap_alloc _ _ _ hlt),hs2,fun b hb=>⟨hb.1,by simp;omega,by omega⟩⟩,f,HF.out,by have:=HN.out;omega⟩,ja rfl,B2.out.alloc hs2 _⟩
  case round=>
   obtain⟨j,tj,rfl,hj,HRT,HRM,hbw⟩:=hrel;have hws:=hbw.size
   by_cases hlt:j<l.length
   ·obtain⟨Bq,oq,rfl,hBq,hOq⟩:=HO.out (by omega)
    obtain⟨us,hul,huc,hux⟩:=hOq j l[j] (List.getElem?_eq_getElem hlt);have hbw0:Below w.heap.size w wr:=B0.out.trans (hbw.mono B0.out.size);obtain⟨Wb,hWb⟩:∃Wb,Wb=wr.alloc (.cells us.toArray 45):=⟨_,rfl⟩
    have bWb:Below wr.heap.size wr Wb:=by rw [hWb];exact(Below.refl _ wr).alloc (Nat.le_refl _) _
    obtain⟨a0,a1,a2,a3,a4,a5,a6,a7,a8,rfl,U⟩:=jak (HRT.out.1.below bWb) (Nat.le_trans hws bWb.size) (by omega) (hbw0.trans (bWb.mono (by omega))) HRT.out.2 HT.out hux HG.out;have u0:=(hbw0.cell (p:=⟨Bq,oq+j*9+0,none⟩) hBq).trans (huc 0 (by omega));have u1:=(hbw0.cell (p:=⟨Bq,oq+j*9+1,none⟩) hBq).trans (huc 1 (by omega));have u2:=(hbw0.cell (p:=⟨Bq,oq+j*9+2,none⟩) hBq).trans (huc 2 (by omega));have u3:=(hbw0.cell (p:=⟨Bq,oq+j*9+3,none⟩) hBq).trans (huc 3 (by omega));have u4:=(hbw0.cell (p:=⟨Bq,oq+j*9+4,none⟩) hBq).trans (huc 4 (by omega));have u5:=(hbw0.cell (p:=⟨Bq,oq+j*9+5,none⟩) hBq).trans (huc 5 (by omega));have u6:=(hbw0.cell (p:=⟨Bq,oq+j*9+6,none⟩) hBq).trans (huc 6 (by omega));have u7:=(hbw0.cell (p:=⟨Bq,oq+j*9+7,none⟩) hBq).trans (huc 7 (by omega));have u8:=(hbw0.cell (p:=⟨Bq,oq+j*9+8,none⟩) hBq).trans (huc 8 (by omega))
    simp only [Nat.add_zero,List.getElem?_cons_zero,List.getElem?_cons_succ] at u0 u1 u2 u3 u4 u5 u6 u7 u8;have hrm:=HRM.out;rw [List.drop_eq_getElem_cons hlt] at hrm;obtain⟨r,hr⟩:∃r,r=qR l[j].1 l[j].2.1 l[j].2.2.1 l[j].2.2.2 tj:=⟨_,rfl⟩
    have hrm2:(if r.1≠0 then ((j:Int),r.1,tj) else JF (j+1) (l.drop (j+1)) r.2)=JF 0 l t:=by rw [hr];exact hrm
    have hgr:Hid (r.1=0->jh jr r.2=0):=ja (by rw [hr];exact XL);rw [<-hr] at U;have KU:=ja U;rw [hWb] at KU;have HWB:=ja hWb;have HBW:=ja (hbw.trans (bWb.mono hws));have HRR:=ja hrm2;obtain⟨b0',b1',b2',b3',b4',b5',b6',b7',b8',hone⟩:∃c0 c1 c2 c3 c4 c5 c6 c7 c8:Bool,True:=⟨true,true,true,true,true,true,true,true,true,trivial⟩
    clear hrm hrm2 hr U hbw hws HRT HRM hOq huc hul bWb hbw0 hWb hone;obtain⟨p',c',g',k',n',bb',s',pL',nL',cL',pE',nE',cE',key',hus,_⟩:=hux;simp only [List.cons.injEq,and_true] at hus;obtain⟨rfl,rfl,rfl,rfl,rfl,rfl,rfl,rfl,rfl⟩:=hus
    by_cases hr0:r.1=0
    ·have HG2:=ja (hgr.out hr0)
     have hrr:=HRR.out;rw [if_neg (by simpa using hr0)] at hrr;have HR2:=ja hrr;clear hrr HRR hgr
     go_wp2_with (go_at_call 43;refine(jc KU).mono ?_;rintro e w3 ⟨he,hb3,hrt⟩;rw [hr0] at he;subst he;rw [<-HWB.out] at hb3;have HRT3:=ja (hrt hr0);have HB3:=ja (HBW.out.trans hb3);clear hb3 hrt)
     go_roundw
     case rel=>
      obtain⟨fz,hfz⟩:=RootD.isV HRT3.out;exact⟨j+1,r.2,by go_num,by omega,ja ⟨HRT3.out,fz,hfz,by have:=HG.out _ _ hfz HG2.out;omega⟩,HR2,HB3.out⟩
     case measure=>simp only [intOf];omega
    ·have hne:(r.1 != 0)=true:=bne_iff_ne.2 hr0
     have hrr:=HRR.out;rw [if_pos hr0] at hrr;have HR2:=ja hrr;clear hrr HRR hgr
     go_wp2_with (go_at_call 43;refine(jc KU).mono ?_;rintro e w3 ⟨rfl,hb3,hrt⟩;rw [<-HWB.out] at hb3;have HB3:=ja (HBW.out.trans hb3);have hr3:=(Blk.below (w:=W0) HR.out HB3.out);have y0:=hr3.cell 0 _ rfl;have y1:=hr3.cell 1 _ rfl;have y2:=hr3.cell 2 _ rfl;have y3:=hr3.cell 3 _ rfl;have y4:=hr3.cell 4 _ rfl;have y5:=hr3.cell 5 _ rfl;have v0:=hr3.froz 0;have v1:=hr3.froz 1;have v2:=hr3.froz 2;have v3:=hr3.froz 3;have v4:=hr3.froz 4;have v5:=hr3.froz 5;have HY:=ja (jk hr3 (.int .i64 0) (.int .i64 0) (.int .u64 0) (.string ⟨#[]⟩) (.slice none 0 0) (.slice none 0 0));clear hb3 hrt hr3)
     have HBZ:=ja (jg (B0.out.trans (HB3.out.mono B0.out.size)) (b:=w.heap.size+1) (by omega) (.int .i64 0) (.int .i64 0) (.int .u64 0) (.string ⟨#[]⟩) (.slice none 0 0) (.slice none 0 0));obtain⟨Y,hYe⟩:∃Y,Y=jp w3 (w.heap.size+1) (.int .i64 0) (.int .i64 0) (.int .u64 0) (.string ⟨#[]⟩) (.slice none 0 0) (.slice none 0 0):=⟨_,rfl⟩
     rw [<-hYe] at HY HBZ;simp only [jp] at hYe;rw [<-hYe];refine bodyPost_ret (Ji _ HY.out) rfl ?_
     rw [<-HR2.out];exact⟨HBZ.out,fun h=>absurd h hr0,fun _=>rfl⟩
   ·have hjl:j=l.length:=by omega
    have hrm:=HRM.out;rw [hjl,List.drop_length] at hrm;have hrm':(0,0,tj)=JF 0 l t:=hrm;have HR2:=ja hrm';have HB3:=ja hbw;obtain⟨fz,Sz,x0,x1,x2,x3,x4,x5,hRB,hRl,hR0,hRS⟩:=HRT.out.1;obtain⟨vk',vn',vb',vs',vpL',vnL',vcL',vpE',vnE',vcE',rfl,rfl,rfl,rfl,rfl,rfl⟩:=hRl.lies.form;have i0:=hRB.cell 0 _ rfl;have i1:=hRB.cell 1 _ rfl;have i2:=hRB.cell 2 _ rfl;have i3:=hRB.cell 3 _ rfl;have i4:=hRB.cell 4 _ rfl;have i5:=hRB.cell 5 _ rfl;have hr3:=(Blk.below (w:=W0) HR.out hbw)
    have y0:=hr3.cell 0 _ rfl;have y1:=hr3.cell 1 _ rfl;have y2:=hr3.cell 2 _ rfl;have y3:=hr3.cell 3 _ rfl;have y4:=hr3.cell 4 _ rfl;have y5:=hr3.cell 5 _ rfl;have v0:=hr3.froz 0;have v1:=hr3.froz 1;have v2:=hr3.froz 2;have v3:=hr3.froz 3;have v4:=hr3.froz 4;have v5:=hr3.froz 5;have HY:=ja (jk hr3 (.int .i64 vk') (.int .i64 vn') (.int .u64 (vb':Int)) (.string vs') (.slice vpL' vnL' vcL') (.slice vpE' vnE' vcE'))
    have hLz:LiesV (fun q=>w.heap.size<=q/\q<(jp wr (w.heap.size+1) (.int .i64 vk') (.int .i64 vn') (.int .u64 (vb':Int)) (.string vs') (.slice vpL' vnL' vcL') (.slice vpE' vnE' vcE')).heap.size) fz (jp wr (w.heap.size+1) (.int .i64 vk') (.int .i64 vn') (.int .u64 (vb':Int)) (.string vs') (.slice vpL' vnL' vcL') (.slice vpE' vnE' vcE')) [.int .i64 vk',.int .i64 vn',.int .u64 (vb':Int),.string vs',.slice vpL' vnL' vcL',.slice vpE' vnE' vcE'] tj:=by
     have htz:=zM wr (w.heap.size+1) (.int .i64 vk') (.int .i64 vn') (.int .u64 (vb':Int)) (.string vs') (.slice vpL' vnL' vcL') (.slice vpE' vnE' vcE');exact hRl.lies.kept (fun q h=>⟨by have:=(hRS q h.1).1;omega,Nat.lt_of_lt_of_le h.2 htz.size⟩) htz.size (fun q h hq=>htz.block q hq (fun e=>by have:=(hRS q h.1).1;omega))
    have HLZ:=ja hLz;have HFW:=ja HRT.out.2;have HBZ:=ja (jg (B0.out.trans (hbw.mono B0.out.size)) (b:=w.heap.size+1) (by omega) (.int .i64 vk') (.int .i64 vn') (.int .u64 (vb':Int)) (.string vs') (.slice vpL' vnL' vcL') (.slice vpE' vnE' vcE'));clear hLz hRB hRl hRS hr3 hrm hrm' hbw HRT HRM;go_wp2;obtain⟨Y,hYe⟩:∃Y,Y=jp wr (w.heap.size+1) (.int .i64 vk') (.int .i64 vn') (.int .u64 (vb':Int)) (.string vs') (.slice vpL' vnL' vcL') (.slice vpE' vnE' vcE'):=⟨_,rfl⟩
    rw [<-hYe] at HY HLZ HBZ;simp only [jp] at hYe;rw [<-hYe];refine bodyPost_ret (Ji _ HY.out) rfl ?_
    rw [<-HR2.out];exact⟨HBZ.out,fun _=>⟨fz,_,_,_,_,_,_,rfl,HLZ.out,HFW.out⟩,fun h=>absurd rfl h⟩
 ·have hA:qQ l t=(0,jh jr t,t):=by unfold qQ;rw [if_pos hf]
  rw [hA];obtain⟨er,her⟩:∃er,er=jh jr t:=⟨_,rfl⟩
  rw [<-her] at KC hf ⊢;have hne:(er != 0)=true:=bne_iff_ne.2 hf;clear hl hl0 hT hO hgood b0 hV hR hW0 hA hn her
  go_enter Tryd.func25,Tryd.ntmps25
  go_wp2_with (go_at_call 16;refine(jc KC).mono ?_;rintro e w1 ⟨rfl,b1⟩;rw [<-HW0.out] at b1;have HB3:=ja b1;have hr3:=(Blk.below (w:=W0) HR.out b1);have y0:=hr3.cell 0 _ rfl;have y1:=hr3.cell 1 _ rfl;have y2:=hr3.cell 2 _ rfl;have y3:=hr3.cell 3 _ rfl;have y4:=hr3.cell 4 _ rfl;have y5:=hr3.cell 5 _ rfl;have v0:=hr3.froz 0;have v1:=hr3.froz 1;have v2:=hr3.froz 2;have v3:=hr3.froz 3;have v4:=hr3.froz 4;have v5:=hr3.froz 5;have HY:=ja (jk hr3 (.int .i64 0) (.int .i64 0) (.int .u64 0) (.string ⟨#[]⟩) (.slice none 0 0) (.slice none 0 0));clear b1 hr3)
  have HBZ:=ja (jg (B0.out.trans (HB3.out.mono B0.out.size)) (b:=w.heap.size+1) (by omega) (.int .i64 0) (.int .i64 0) (.int .u64 0) (.string ⟨#[]⟩) (.slice none 0 0) (.slice none 0 0));obtain⟨Y,hYe⟩:∃Y,Y=jp w1 (w.heap.size+1) (.int .i64 0) (.int .i64 0) (.int .u64 0) (.string ⟨#[]⟩) (.slice none 0 0) (.slice none 0 0):=⟨_,rfl⟩
  rw [<-hYe] at HY HBZ;simp only [jp] at hYe;rw [<-hYe];refine bodyPost_ret (Ji _ HY.out) rfl ?_
  exact⟨HBZ.out,fun h=>absurd h hf,fun _=>rfl⟩
end upds
set_option linter.unusedSimpArgs false
namespace upds
open Go.RowKit Go.Shelf
open valus
open paths (St LiesP jt jq jf je)
theorem JB {w:World}{B:Nat}{u0 u1 u2 u3 u4 u5 y:Value}(tmps:Array Value)(h:Blk w B #[u0,u1,u2,u3,u4,u5] 26)(ht:tmps[4]?=some (.pointer (some ⟨B,0,none⟩)):=by rfl)(hy:tmps[5]?=some y:=by rfl):(results Tryd.f20 tmps).run Tryd.prog w=.ok (.tuple #[.agg #[u0,u1,u2,u3,u4,u5],y]) w:=by
 obtain⟨c0,c1,c2,c3,c4,c5⟩:=h.cells6;simp [results,Tryd.f20,ht,hy,go_sem,c0,c1,c2,c3,c4,c5]
def jbH (w:World)(r:Int×Int×V)(e:Ending)(w':World):Prop:=Below w.heap.size w w'/\(r.2.1=0->∃(f:Nat) (x0 x1 x2 x3 x4 x5:Value),e=.returned (.tuple #[.agg #[x0,x1,x2,x3,x4,x5],.int .i64 0])/\LiesV (fun q=>w.heap.size<=q/\q<w'.heap.size) f w' [x0,x1,x2,x3,x4,x5] r.2.2/\Few 1000000 r.2.2)/\(r.2.1≠0->e=.returned (.tuple #[.agg #[.int .i64 0,.int .i64 0,.int .u64 0,.string ⟨#[]⟩,.slice none 0 0,.slice none 0 0],.int .i64 r.2.1]))
theorem JT (w:World)(f:Nat)(t:V)(k n:Int)(b:Nat)(s:ByteArray)(pL:Option Addr)(nL cL:Nat)(pE:Option Addr)(nE cE:Nat)(hl:LiesV (fun q=>q<w.heap.size) f w [.int .i64 k,.int .i64 n,.int .u64 (b:Int),.string s,.slice pL nL cL,.slice pE nE cE] t)(hn:jd f t<=10000000)(x:OpD)(us:List Value)(hx:OpIn w us x)(hT:jt w)(hgood:∀y:V,∀g,IsV g y->jh jr y=0->jd g y<=2000) :
  Calls Tryd.prog 20 #[.agg #[.int .i64 k,.int .i64 n,.int .u64 (b:Int),.string s,.slice pL nL cL,.slice pE nE cE],.agg us.toArray] w (jbH w (qQ [x] t)):=by
 obtain⟨p,c,g,ok,on,ob,os,opL,onL,ocL,opE,onE,ocE,key,rfl,_⟩:=id hx;obtain⟨W0,hW0⟩:∃W0,W0=((w.alloc (.cells #[.int .i64 k,.int .i64 n,.int .u64 (b:Int),.string s,.slice pL nL cL,.slice pE nE cE] 26)).alloc (.cells #[.int .i64 x.1,.slice p x.2.1.length c,.int .i64 ok,.int .i64 on,.int .u64 (ob:Int),.string os,.slice opL onL ocL,.slice opE onE ocE,.string key] 45)).alloc (.cells #[.int .i64 0,.int .i64 0,.int .u64 0,.string ⟨#[]⟩,.slice none 0 0,.slice none 0 0] 26):=⟨_,rfl⟩
 have b0:Below w.heap.size w W0:=by rw [hW0];exact(((Below.refl _ w).alloc (Nat.le_refl _) _).alloc (by simp) _).alloc (by simp;omega) _
 have s0:W0.heap.size=w.heap.size+3:=by rw [hW0];simp
 have hV:Blk W0 w.heap.size #[.int .i64 k,.int .i64 n,.int .u64 (b:Int),.string s,.slice pL nL cL,.slice pE nE cE] 26:=by rw [hW0];exact((jb w _ _).alloc _).alloc _
 have hP:Blk W0 (w.heap.size+1) #[.int .i64 x.1,.slice p x.2.1.length c,.int .i64 ok,.int .i64 on,.int .u64 (ob:Int),.string os,.slice opL onL ocL,.slice opE onE ocE,.string key] 45:=by
  rw [hW0];have:=jb (w.alloc (.cells #[.int .i64 k,.int .i64 n,.int .u64 (b:Int),.string s,.slice pL nL cL,.slice pE nE cE] 26)) #[.int .i64 x.1,.slice p x.2.1.length c,.int .i64 ok,.int .i64 on,.int .u64 (ob:Int),.string os,.slice opL onL ocL,.slice opE onE ocE,.string key] 45;rw [World.size_alloc] at this;exact this.alloc _
 have hR:Blk W0 (w.heap.size+1+1) #[.int .i64 0,.int .i64 0,.int .u64 0,.string ⟨#[]⟩,.slice none 0 0,.slice none 0 0] 26:=by
  rw [hW0];have:=jb ((w.alloc (.cells #[.int .i64 k,.int .i64 n,.int .u64 (b:Int),.string s,.slice pL nL cL,.slice pE nE cE] 26)).alloc (.cells #[.int .i64 x.1,.slice p x.2.1.length c,.int .i64 ok,.int .i64 on,.int .u64 (ob:Int),.string os,.slice opL onL ocL,.slice opE onE ocE,.string key] 45)) #[.int .i64 0,.int .i64 0,.int .u64 0,.string ⟨#[]⟩,.slice none 0 0,.slice none 0 0] 26;rwa [World.size_alloc,World.size_alloc] at this
 obtain⟨W1,hW1⟩:∃W1,W1=W0.alloc (.cells #[.int .i64 x.1,.slice p x.2.1.length c,.int .i64 ok,.int .i64 on,.int .u64 (ob:Int),.string os,.slice opL onL ocL,.slice opE onE ocE,.string key] 45):=⟨_,rfl⟩
 have b1:Below W0.heap.size W0 W1:=by rw [hW1];exact(Below.refl _ W0).alloc (Nat.le_refl _) _
 have b01:Below w.heap.size w W1:=b0.trans (b1.mono b0.size);have hQ:Blk W1 W0.heap.size #[.int .i64 x.1,.slice p x.2.1.length c,.int .i64 ok,.int .i64 on,.int .u64 (ob:Int),.string os,.slice opL onL ocL,.slice opE onE ocE,.string key] 45:=by rw [hW1];exact jb W0 _ _
 have hO:LiesO W1 (some ⟨W0.heap.size,0,none⟩) [x]:=fun _=>⟨W0.heap.size,0,rfl,by rw [hW1];simp,fun j z hj=>by
  match j,hj with
  | 0,hj=>
   simp only [List.getElem?_cons_zero,Option.some.injEq] at hj;subst hj;refine⟨_,rfl,fun i hi=>?_,hx.below b01⟩;rw [show 0+0*9+i=i by omega]
   match i,hi with
   | 0,_=>exact hQ.cell 0 _ rfl
   | 1,_=>exact hQ.cell 1 _ rfl
   | 2,_=>exact hQ.cell 2 _ rfl
   | 3,_=>exact hQ.cell 3 _ rfl
   | 4,_=>exact hQ.cell 4 _ rfl
   | 5,_=>exact hQ.cell 5 _ rfl
   | 6,_=>exact hQ.cell 6 _ rfl
   | 7,_=>exact hQ.cell 7 _ rfl
   | 8,_=>exact hQ.cell 8 _ rfl⟩
 have K:=YN W1 f t k n b s pL nL cL pE nE cE ((hl.below b01).kept (fun q h=>Nat.lt_of_lt_of_le h b01.size) (Nat.le_refl _) (fun _ _ _=>rfl)) hn (some ⟨W0.heap.size,0,none⟩) 1 [x] hO (by simp) (Utf8Tabs_below hT b01) hgood;obtain⟨r,hr⟩:∃r,r=qQ [x] t:=⟨_,rfl⟩
 rw [<-hr] at K ⊢;have hR1:Blk W1 (w.heap.size+1+1) #[.int .i64 0,.int .i64 0,.int .u64 0,.string ⟨#[]⟩,.slice none 0 0,.slice none 0 0] 26:=hR.below b1;have e0:=hV.cell 0 _ rfl;have e1:=hV.cell 1 _ rfl;have e2:=hV.cell 2 _ rfl;have e3:=hV.cell 3 _ rfl;have e4:=hV.cell 4 _ rfl;have e5:=hV.cell 5 _ rfl;have g0:=hP.cell 0 _ rfl;have g1:=hP.cell 1 _ rfl;have g2:=hP.cell 2 _ rfl;have g3:=hP.cell 3 _ rfl;have g4:=hP.cell 4 _ rfl;have g5:=hP.cell 5 _ rfl;have g6:=hP.cell 6 _ rfl;have g7:=hP.cell 7 _ rfl;have g8:=hP.cell 8 _ rfl;rw [hW0] at e0 e1 e2 e3 e4 e5 g0 g1 g2 g3 g4 g5 g6 g7 g8;rw [s0] at K;rw [hW1] at K;rw [hW0] at K;have HB:=ja b01;have HR:=ja hR1;have HW0:=ja hW0;have HW1:=ja hW1;have HS:=ja s0;have KA:=ja K;clear hl hn hT hgood hO hQ hR1 hR hP hV b0 b1 b01 s0 hW1 hW0 K hr hx
 by_cases h0:r.2.1=0
 ·go_enter Tryd.func20,Tryd.ntmps20
  go_wp2_with (go_at_call 25;refine(jc KA).mono ?_;rintro e w3 ⟨hb,hok,_⟩;obtain⟨f3,x0,x1,x2,x3,x4,x5,rfl,hlz,hfw⟩:=hok h0;obtain⟨vk,vn,vb,vs,vpL,vnL,vcL,vpE,vnE,vcE,rfl,rfl,rfl,rfl,rfl,rfl⟩:=hlz.form;rw [<-HW0.out] at hb;rw [<-HW1.out] at hb;have hr3:=Blk.alloc (Blk.below (w:=W1) HR.out hb) (.cells #[.int .i64 vk,.int .i64 vn,.int .u64 (vb:Int),.string vs,.slice vpL vnL vcL,.slice vpE vnE vcE] 26);have y0:=hr3.cell 0 _ rfl;have y1:=hr3.cell 1 _ rfl;have y2:=hr3.cell 2 _ rfl;have y3:=hr3.cell 3 _ rfl;have y4:=hr3.cell 4 _ rfl;have y5:=hr3.cell 5 _ rfl;have v0:=hr3.froz 0;have v1:=hr3.froz 1;have v2:=hr3.froz 2;have v3:=hr3.froz 3;have v4:=hr3.froz 4;have v5:=hr3.froz 5;have HY:=ja (jk hr3 (.int .i64 vk) (.int .i64 vn) (.int .u64 (vb:Int)) (.string vs) (.slice vpL vnL vcL) (.slice vpE vnE vcE));have HB3:=ja hb;have HLZ:=ja hlz;have HFW:=ja hfw;clear hb hok hr3 hlz hfw)
  have hs1:W1.heap.size=w.heap.size+3+1:=by rw [HW1.out,World.size_alloc,HS.out]
  have hsw:=HB3.out.size;have hal:Below w3.heap.size w3 (w3.alloc (.cells #[.int .i64 vk,.int .i64 vn,.int .u64 (vb:Int),.string vs,.slice vpL vnL vcL,.slice vpE vnE vcE] 26)):=(Below.refl _ w3).alloc (Nat.le_refl _) _;have HBZ:=ja (jg (HB.out.trans ((HB3.out.trans (hal.mono hsw)).mono HB.out.size)) (b:=w.heap.size+1+1) (by omega) (.int .i64 vk) (.int .i64 vn) (.int .u64 (vb:Int)) (.string vs) (.slice vpL vnL vcL) (.slice vpE vnE vcE))
  have HLY:Hid (LiesV (fun q=>w.heap.size<=q/\q<(jp (w3.alloc (.cells #[.int .i64 vk,.int .i64 vn,.int .u64 (vb:Int),.string vs,.slice vpL vnL vcL,.slice vpE vnE vcE] 26)) (w.heap.size+1+1) (.int .i64 vk) (.int .i64 vn) (.int .u64 (vb:Int)) (.string vs) (.slice vpL vnL vcL) (.slice vpE vnE vcE)).heap.size) f3 (jp (w3.alloc (.cells #[.int .i64 vk,.int .i64 vn,.int .u64 (vb:Int),.string vs,.slice vpL vnL vcL,.slice vpE vnE vcE] 26)) (w.heap.size+1+1) (.int .i64 vk) (.int .i64 vn) (.int .u64 (vb:Int)) (.string vs) (.slice vpL vnL vcL) (.slice vpE vnE vcE)) [.int .i64 vk,.int .i64 vn,.int .u64 (vb:Int),.string vs,.slice vpL vnL vcL,.slice vpE vnE vcE] r.2.2):=ja (by
   have htz:=zM (w3.alloc (.cells #[.int .i64 vk,.int .i64 vn,.int .u64 (vb:Int),.string vs,.slice vpL vnL vcL,.slice vpE vnE vcE] 26)) (w.heap.size+1+1) (.int .i64 vk) (.int .i64 vn) (.int .u64 (vb:Int)) (.string vs) (.slice vpL vnL vcL) (.slice vpE vnE vcE);have hsz:=htz.size;have hsa:=hal.size;exact HLZ.out.kept (fun q h=>⟨by have:=h.1;simp at this;omega,by have:=h.2;omega⟩) (by omega) (fun q h hq=>(htz.block q (by omega) (fun e=>by have:=h.1;simp at this;omega)).trans (hal.block q hq)))
  obtain⟨Y,hYe⟩:∃Y,Y=jp (w3.alloc (.cells #[.int .i64 vk,.int .i64 vn,.int .u64 (vb:Int),.string vs,.slice vpL vnL vcL,.slice vpE vnE vcE] 26)) (w.heap.size+1+1) (.int .i64 vk) (.int .i64 vn) (.int .u64 (vb:Int)) (.string vs) (.slice vpL vnL vcL) (.slice vpE vnE vcE):=⟨_,rfl⟩
  rw [<-hYe] at HY HBZ HLY;simp only [jp] at hYe;rw [<-hYe];refine bodyPost_ret (JB _ HY.out) rfl ?_
  exact⟨HBZ.out,fun _=>⟨f3,_,_,_,_,_,_,rfl,HLY.out,HFW.out⟩,fun h=>absurd h0 h⟩
 ·go_enter Tryd.func20,Tryd.ntmps20
  go_wp2_with (go_at_call 25;refine(jc KA).mono ?_;rintro e w3 ⟨hb,_,hno⟩;have he:=hno h0;subst he;rw [<-HW0.out] at hb;rw [<-HW1.out] at hb;have hr3:=Blk.alloc (Blk.below (w:=W1) HR.out hb) (.cells #[.int .i64 0,.int .i64 0,.int .u64 0,.string ⟨#[]⟩,.slice none 0 0,.slice none 0 0] 26);have y0:=hr3.cell 0 _ rfl;have y1:=hr3.cell 1 _ rfl;have y2:=hr3.cell 2 _ rfl;have y3:=hr3.cell 3 _ rfl;have y4:=hr3.cell 4 _ rfl;have y5:=hr3.cell 5 _ rfl;have v0:=hr3.froz 0;have v1:=hr3.froz 1;have v2:=hr3.froz 2;have v3:=hr3.froz 3;have v4:=hr3.froz 4;have v5:=hr3.froz 5;have HY:=ja (jk hr3 (.int .i64 0) (.int .i64 0) (.int .u64 0) (.string ⟨#[]⟩) (.slice none 0 0) (.slice none 0 0));have HB3:=ja hb;clear hb hno hr3)
  have hs1:W1.heap.size=w.heap.size+3+1:=by rw [HW1.out,World.size_alloc,HS.out]
  have hsw:=HB3.out.size;have hal:Below w3.heap.size w3 (w3.alloc (.cells #[.int .i64 0,.int .i64 0,.int .u64 0,.string ⟨#[]⟩,.slice none 0 0,.slice none 0 0] 26)):=(Below.refl _ w3).alloc (Nat.le_refl _) _;have HBZ:=ja (jg (HB.out.trans ((HB3.out.trans (hal.mono hsw)).mono HB.out.size)) (b:=w.heap.size+1+1) (by omega) (.int .i64 0) (.int .i64 0) (.int .u64 0) (.string ⟨#[]⟩) (.slice none 0 0) (.slice none 0 0));obtain⟨Y,hYe⟩:∃Y,Y=jp (w3.alloc (.cells #[.int .i64 0,.int .i64 0,.int .u64 0,.string ⟨#[]⟩,.slice none 0 0,.slice none 0 0] 26)) (w.heap.size+1+1) (.int .i64 0) (.int .i64 0) (.int .u64 0) (.string ⟨#[]⟩) (.slice none 0 0) (.slice none 0 0):=⟨_,rfl⟩
  rw [<-hYe] at HY HBZ;simp only [jp] at hYe;rw [<-hYe];refine bodyPost_ret (JB _ HY.out) rfl ?_
  exact⟨HBZ.out,fun h=>absurd h h0,fun _=>rfl⟩
end upds
set_option linter.unusedSimpArgs false
namespace upds
open Go.RowKit Go.Shelf
open valus
open paths (St LiesP jt jq jf je)
theorem qD {w:World}{B:Nat}{u0 u1 u2 u3 u4 u5 u6 u7 u8 y:Value}(tmps:Array Value)(h:Blk w B #[u0,u1,u2,u3,u4,u5,u6,u7,u8] 45)(ht:tmps[4]?=some (.pointer (some ⟨B,0,none⟩)):=by rfl)(hy:tmps[5]?=some y:=by rfl):(results Tryd.f22 tmps).run Tryd.prog w=.ok (.tuple #[.agg #[u0,u1,u2,u3,u4,u5,u6,u7,u8],y]) w:=by
 have c0:=h.cell 0 _ rfl;have c1:=h.cell 1 _ rfl;have c2:=h.cell 2 _ rfl;have c3:=h.cell 3 _ rfl;have c4:=h.cell 4 _ rfl;have c5:=h.cell 5 _ rfl;have c6:=h.cell 6 _ rfl;have c7:=h.cell 7 _ rfl;have c8:=h.cell 8 _ rfl;simp [results,Tryd.f22,ht,hy,go_sem,c0,c1,c2,c3,c4,c5,c6,c7,c8]
def qG (w:World)(b:Nat)(u0 u1 u2 u3 u4 u5 u6 u7 u8:Value):World:=((((((((w.setCell ⟨b,0,none⟩ u0).setCell ⟨b,1,none⟩ u1).setCell ⟨b,2,none⟩ u2).setCell ⟨b,3,none⟩ u3).setCell ⟨b,4,none⟩ u4).setCell ⟨b,5,none⟩ u5).setCell ⟨b,6,none⟩ u6).setCell ⟨b,7,none⟩ u7).setCell ⟨b,8,none⟩ u8
theorem qB {w:World}{b:Nat}{x0 x1 x2 x3 x4 x5 x6 x7 x8:Value}{t:Nat}(h:Blk w b #[x0,x1,x2,x3,x4,x5,x6,x7,x8] t)(u0 u1 u2 u3 u4 u5 u6 u7 u8:Value):Blk (qG w b u0 u1 u2 u3 u4 u5 u6 u7 u8) b #[u0,u1,u2,u3,u4,u5,u6,u7,u8] t:=by
 simpa [qG] using ((((((((h.set 0 u0).set 1 u1).set 2 u2).set 3 u3).set 4 u4).set 5 u5).set 6 u6).set 7 u7).set 8 u8
theorem j9 {B:Nat}{a w:World}(h:Below B a w){b:Nat}(hb:B<=b)(u0 u1 u2 u3 u4 u5 u6 u7 u8:Value):Below B a (qG w b u0 u1 u2 u3 u4 u5 u6 u7 u8) :=
 ((((((((h.setCell (p:=⟨b,0,none⟩) hb u0).setCell (p:=⟨b,1,none⟩) hb u1).setCell (p:=⟨b,2,none⟩) hb u2).setCell (p:=⟨b,3,none⟩) hb u3).setCell (p:=⟨b,4,none⟩) hb u4).setCell (p:=⟨b,5,none⟩) hb u5).setCell (p:=⟨b,6,none⟩) hb u6).setCell (p:=⟨b,7,none⟩) hb u7).setCell (p:=⟨b,8,none⟩) hb u8
theorem jbc (w:World)(f:Nat)(t:V)(k n:Int)(b:Nat)(s:ByteArray)(pL:Option Addr)(nL cL:Nat)(pE:Option Addr)(nE cE:Nat)(hl:LiesV (fun q=>q<w.heap.size) f w [.int .i64 k,.int .i64 n,.int .u64 (b:Int),.string s,.slice pL nL cL,.slice pE nE cE] t)(hn:jd f t<=10000000)(x:OpD)(us:List Value)(hx:OpIn w us x)(hT:jt w)(hgood:∀y:V,∀g,IsV g y->jh jr y=0->jd g y<=2000)(he:(qQ [x] t).2.1≠0) :
  Calls Tryd.prog 22 #[.agg #[.int .i64 k,.int .i64 n,.int .u64 (b:Int),.string s,.slice pL nL cL,.slice pE nE cE],.agg us.toArray] w fun e w'=>e=.returned (.tuple #[.agg #[.int .i64 0,.slice none 0 0,.int .i64 0,.int .i64 0,.int .u64 0,.string ⟨#[]⟩,.slice none 0 0,.slice none 0 0,.string ⟨#[]⟩],.int .i64 (qQ [x] t).2.1])/\Below w.heap.size w w':=by
 obtain⟨p,c,g,ok,on,ob,os,opL,onL,ocL,opE,onE,ocE,key,rfl,_⟩:=id hx;obtain⟨W0,hW0⟩:∃W0,W0=((w.alloc (.cells #[.int .i64 k,.int .i64 n,.int .u64 (b:Int),.string s,.slice pL nL cL,.slice pE nE cE] 26)).alloc (.cells #[.int .i64 x.1,.slice p x.2.1.length c,.int .i64 ok,.int .i64 on,.int .u64 (ob:Int),.string os,.slice opL onL ocL,.slice opE onE ocE,.string key] 45)).alloc (.cells #[.int .i64 0,.slice none 0 0,.int .i64 0,.int .i64 0,.int .u64 0,.string ⟨#[]⟩,.slice none 0 0,.slice none 0 0,.string ⟨#[]⟩] 45):=⟨_,rfl⟩
 have b0:Below w.heap.size w W0:=by rw [hW0];exact(((Below.refl _ w).alloc (Nat.le_refl _) _).alloc (by simp) _).alloc (by simp;omega) _
 have s0:W0.heap.size=w.heap.size+3:=by rw [hW0];simp
 have hV:Blk W0 w.heap.size #[.int .i64 k,.int .i64 n,.int .u64 (b:Int),.string s,.slice pL nL cL,.slice pE nE cE] 26:=by rw [hW0];exact((jb w _ _).alloc _).alloc _
 have hP:Blk W0 (w.heap.size+1) #[.int .i64 x.1,.slice p x.2.1.length c,.int .i64 ok,.int .i64 on,.int .u64 (ob:Int),.string os,.slice opL onL ocL,.slice opE onE ocE,.string key] 45:=by
  rw [hW0];have:=jb (w.alloc (.cells #[.int .i64 k,.int .i64 n,.int .u64 (b:Int),.string s,.slice pL nL cL,.slice pE nE cE] 26)) #[.int .i64 x.1,.slice p x.2.1.length c,.int .i64 ok,.int .i64 on,.int .u64 (ob:Int),.string os,.slice opL onL ocL,.slice opE onE ocE,.string key] 45;rw [World.size_alloc] at this;exact this.alloc _
 have hR:Blk W0 (w.heap.size+1+1) #[.int .i64 0,.slice none 0 0,.int .i64 0,.int .i64 0,.int .u64 0,.string ⟨#[]⟩,.slice none 0 0,.slice none 0 0,.string ⟨#[]⟩] 45:=by
  rw [hW0];have:=jb ((w.alloc (.cells #[.int .i64 k,.int .i64 n,.int .u64 (b:Int),.string s,.slice pL nL cL,.slice pE nE cE] 26)).alloc (.cells #[.int .i64 x.1,.slice p x.2.1.length c,.int .i64 ok,.int .i64 on,.int .u64 (ob:Int),.string os,.slice opL onL ocL,.slice opE onE ocE,.string key] 45)) #[.int .i64 0,.slice none 0 0,.int .i64 0,.int .i64 0,.int .u64 0,.string ⟨#[]⟩,.slice none 0 0,.slice none 0 0,.string ⟨#[]⟩] 45;rwa [World.size_alloc,World.size_alloc] at this
 have K:=JT W0 f t k n b s pL nL cL pE nE cE ((hl.below b0).kept (fun q h=>Nat.lt_of_lt_of_le h b0.size) (Nat.le_refl _) (fun _ _ _=>rfl)) hn x _ (hx.below b0) (Utf8Tabs_below hT b0) hgood;obtain⟨r,hr⟩:∃r,r=qQ [x] t:=⟨_,rfl⟩
 rw [<-hr] at K he ⊢;have e0:=hV.cell 0 _ rfl;have e1:=hV.cell 1 _ rfl;have e2:=hV.cell 2 _ rfl;have e3:=hV.cell 3 _ rfl;have e4:=hV.cell 4 _ rfl;have e5:=hV.cell 5 _ rfl;have g0:=hP.cell 0 _ rfl;have g1:=hP.cell 1 _ rfl;have g2:=hP.cell 2 _ rfl;have g3:=hP.cell 3 _ rfl;have g4:=hP.cell 4 _ rfl;have g5:=hP.cell 5 _ rfl;have g6:=hP.cell 6 _ rfl;have g7:=hP.cell 7 _ rfl;have g8:=hP.cell 8 _ rfl;rw [hW0] at e0 e1 e2 e3 e4 e5 g0 g1 g2 g3 g4 g5 g6 g7 g8;rw [hW0] at K;have HB:=ja b0;have HR:=ja hR;have HW0:=ja hW0;have HS:=ja s0;have KA:=ja K;have hne:(r.2.1 != 0)=true:=bne_iff_ne.2 he;clear hl hn hT hgood hR hP hV b0 s0 hW0 K hr hx
 go_enter Tryd.func22,Tryd.ntmps22
 go_wp2_with (go_at_call 20;refine(jc KA).mono ?_;rintro e w3 ⟨hb,_,hno⟩;have hee:=hno he;subst hee;rw [<-HW0.out] at hb;have hr3:=Blk.alloc (Blk.below (w:=W0) HR.out hb) (.cells #[.int .i64 0,.int .i64 0,.int .u64 0,.string ⟨#[]⟩,.slice none 0 0,.slice none 0 0] 26);have y0:=hr3.cell 0 _ rfl;have y1:=hr3.cell 1 _ rfl;have y2:=hr3.cell 2 _ rfl;have y3:=hr3.cell 3 _ rfl;have y4:=hr3.cell 4 _ rfl;have y5:=hr3.cell 5 _ rfl;have y6:=hr3.cell 6 _ rfl;have y7:=hr3.cell 7 _ rfl;have y8:=hr3.cell 8 _ rfl;have v0:=hr3.froz 0;have v1:=hr3.froz 1;have v2:=hr3.froz 2;have v3:=hr3.froz 3;have v4:=hr3.froz 4;have v5:=hr3.froz 5;have v6:=hr3.froz 6;have v7:=hr3.froz 7;have v8:=hr3.froz 8;have HY:=ja (qB hr3 (.int .i64 0) (.slice none 0 0) (.int .i64 0) (.int .i64 0) (.int .u64 0) (.string ⟨#[]⟩) (.slice none 0 0) (.slice none 0 0) (.string ⟨#[]⟩));have HB3:=ja hb;clear hb hno hr3)
 have hsw:=HB3.out.size;have hal:Below w3.heap.size w3 (w3.alloc (.cells #[.int .i64 0,.int .i64 0,.int .u64 0,.string ⟨#[]⟩,.slice none 0 0,.slice none 0 0] 26)):=(Below.refl _ w3).alloc (Nat.le_refl _) _;have HBZ:=ja (j9 (HB.out.trans ((HB3.out.trans (hal.mono hsw)).mono HB.out.size)) (b:=w.heap.size+1+1) (by omega) (.int .i64 0) (.slice none 0 0) (.int .i64 0) (.int .i64 0) (.int .u64 0) (.string ⟨#[]⟩) (.slice none 0 0) (.slice none 0 0) (.string ⟨#[]⟩));obtain⟨Y,hYe⟩:∃Y,Y=qG (w3.alloc (.cells #[.int .i64 0,.int .i64 0,.int .u64 0,.string ⟨#[]⟩,.slice none 0 0,.slice none 0 0] 26)) (w.heap.size+1+1) (.int .i64 0) (.slice none 0 0) (.int .i64 0) (.int .i64 0) (.int .u64 0) (.string ⟨#[]⟩) (.slice none 0 0) (.slice none 0 0) (.string ⟨#[]⟩):=⟨_,rfl⟩
 rw [<-hYe] at HY HBZ;simp only [qG] at hYe;rw [<-hYe];exact bodyPost_ret (qD _ HY.out) rfl ⟨rfl,HBZ.out⟩
end upds
set_option linter.unusedSimpArgs false
namespace upds
open Go.RowKit Go.Shelf
open valus
open paths (St LiesP jt jq jf je)
theorem jby:(Tryd.prog.info? 60).map (fun i=>(i.zero,i.size,i.bytes))=some (some (.agg #[.string ⟨#[]⟩,.int .i64 0]),2,24):=by kernel_rfl
end upds
set_option linter.unusedSimpArgs false
namespace upds
open Go.RowKit Go.Shelf
open valus
open paths (St LiesP jf je)
theorem J9 {W:World}{p:Option Addr}{P:List St}(h:LiesP W p P)(hl:P.length<=10000000)(c:Nat)(ty:TypeId):∃p' c' W1,(Builtin.append_ #[27,27] ty #[.slice none 0 0,.slice p P.length c]).run Tryd.prog W=.ok (.slice p' P.length c') W1/\Below W.heap.size W W1/\LiesP W1 p' P/\P.length<=c'/\c'<=maxLen/\(P.length≠0->p'=some ⟨W.heap.size,0,none⟩/\W.heap.size<W1.heap.size/\∃cur,W1.heap[W.heap.size]?=some (.cells cur 60 (0,0))/\P.length*2<=cur.size):=by
 obtain⟨i0,hi,hz0,hz1,hz2⟩:=info_parts jby
 obtain⟨p',c',W1,r1,r2,r3,r4,rz,r5⟩:=J0 (P:=Tryd.prog) 27 ty 60 i0 _ 2 24 Tryd.underlying27 hi hz0 hz1 hz2 rfl (by omega) (by omega) (W:=W) (p:=p) (n:=P.length) (c:=c) hl (fun hne=>by
  obtain⟨B,o,e,hB,hc⟩:=h hne;refine⟨B,o,e,fun i hi=>?_⟩;have hj:i / 2<P.length:=by omega
  obtain⟨key,k1,k2,k3,k4,k5⟩:=hc (i / 2) P[i / 2] (List.getElem?_eq_getElem hj)
  rcases Nat.mod_two_eq_zero_or_one i with hm | hm
  ·exact⟨_,by rw [show o+i=o+i / 2*2 by omega];exact k4,rfl⟩
  ·exact⟨_,by rw [show o+i=o+i / 2*2+1 by omega];exact k5,rfl⟩)
 refine⟨p',c',W1,r1,⟨r2.os,r2.tape,r2.output,r2.size,fun b hb=>r2.block b hb (by simp)⟩,fun hne=>?_,r3,r4,fun hne=>?_⟩
 ·obtain⟨e1,e2,_,_,b,q,e4,e5⟩:=r5 hne
  obtain⟨B,o,e,hB,hc⟩:=h hne;rw [e] at e4;cases e4
  refine⟨W.heap.size,0,e1,e2,fun j x hx=>?_⟩;have hj:=(List.getElem?_eq_some_iff.1 hx).1;obtain⟨key,k1,k2,k3,k4,k5⟩:=hc j x hx
  exact⟨key,k1,k2,k3,(e5 (j*2) (by omega)).trans k4,by
   have:=e5 (j*2+1) (by omega);rw [<-Nat.add_assoc,<-Nat.add_assoc] at this;exact this.trans k5⟩
 ·obtain⟨e1,e2,_,⟨cur,e3,e4⟩,_⟩:=r5 hne
  exact⟨e1,e2,cur,e3,by rw [e4];exact Nat.mul_le_mul_right _ r3⟩
def zg:V:=mkV (0,0,0,[]) [] []
theorem qk (ok:Nat->Prop)(w:World):LiesV ok 1 w [.int .i64 0,.int .i64 0,.int .u64 ((0:Nat):Int),.string ⟨#[]⟩,.slice none 0 0,.slice none 0 0] zg :=
 ⟨0,0,0,⟨#[]⟩,[],[],none,none,0,0,rfl,rfl,⟨by omega,by omega,by omega,by unfold maxLen;decide⟩,⟨Nat.le_refl _,by unfold maxLen;omega,Nat.le_refl _,by unfold maxLen;omega⟩,fun h=>absurd rfl h,fun h=>absurd rfl h⟩
def zc (t:V)(P:List St):V:=match je t P with
 | .inl y=>y
 | .inr _=>zg
def zT (P:List St)(k:List UInt8):List St:=P.set (P.length - 1) (k,(ju P).2)
def jZ (o:OpD)(t:V):OpD:=if o.1=1 then (1,o.2.1,zc t o.2.1,[]) else if o.1=2 then (3,o.2.1,zg,[]) else if o.1=3 then (2,o.2.1,zc t o.2.1,[]) else (4,zT o.2.1 o.2.2.2,zg,(ju o.2.1).1)
theorem zF (P:List St)(k:List UInt8):(zT P k).length=P.length:=by unfold zT;rw [List.length_set]
theorem J6 {w:World}{B:Nat}{P:List St}{cur:Array Value}{ty:Nat}(h:LiesP w (some ⟨B,0,none⟩) P)(hP:P.length≠0)(hb:w.heap[B]?=some (.cells cur ty (0,0)))(hcur:P.length*2<=cur.size)(key:ByteArray)(hk:key.size<=9223372036854775807):LiesP (w.setCell ⟨B,(P.length - 1)*2,none⟩ (.string key)) (some ⟨B,0,none⟩) (zT P key.data.toList):=fun _=>by
 obtain⟨B',o',e,hB,hc⟩:=h hP;injection e with e;injection e with e1 e2;subst e1 e2;have hsz:(w.setCell ⟨B,(P.length - 1)*2,none⟩ (.string key)).heap.size=w.heap.size:=by simp [World.setCell]
 have hset:(w.setCell ⟨B,(P.length - 1)*2,none⟩ (.string key)).heap[B]?=some (.cells (cur.setIfInBounds ((P.length - 1)*2) (.string key)) ty (0,0)):=jL hb _
 have hcell:∀i,i≠(P.length - 1)*2->(w.setCell ⟨B,(P.length - 1)*2,none⟩ (.string key)).cell? ⟨B,i,none⟩=w.cell? ⟨B,i,none⟩:=fun i hi=>by
  simp [World.cell?,hset,hb,Array.getElem?_setIfInBounds,hi,Ne.symm hi]
 have hnew:(w.setCell ⟨B,(P.length - 1)*2,none⟩ (.string key)).cell? ⟨B,(P.length - 1)*2,none⟩=some (.string key):=by
  have:(P.length - 1)*2<cur.size:=by omega
  simp [World.cell?,hset,this]
 refine⟨B,0,rfl,by rw [hsz];exact hB,fun j x hx=>?_⟩;unfold zT at hx
 by_cases hj:P.length - 1=j
 ·subst hj
  rw [List.getElem?_set_self (by omega)] at hx;injection hx with hx;subst hx
  have hlast:P[P.length - 1]?=some (ju P):=by
   unfold ju;rw [List.getLast?_eq_getElem?];rw [List.getElem?_eq_getElem (by omega)];rfl
  obtain⟨k',a1,a2,a3,a4,a5⟩:=hc _ _ hlast;refine⟨key,rfl,hk,a3,?_,?_⟩
  ·rw [Nat.zero_add]
   exact hnew
  ·rw [hcell _ (by omega)]
   exact a5
 ·rw [List.getElem?_set_ne hj] at hx
  obtain⟨k',a1,a2,a3,a4,a5⟩:=hc j x hx;have:=(List.getElem?_eq_some_iff.1 hx).1;exact⟨k',a1,a2,a3,by rw [hcell _ (by omega)];exact a4,by rw [hcell _ (by omega)];exact a5⟩
end upds
end Go.Proofs.YtadaehaemmelfaaDoor
