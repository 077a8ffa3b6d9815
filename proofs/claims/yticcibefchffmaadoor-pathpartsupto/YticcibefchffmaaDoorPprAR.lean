/- Of our texts, what this claim reaches. -/
import Derived.Test.YticcibefchffmaaDoorPprAQ
import Derived.Test.YticcibefchffmaaDoorPprAL
import Derived.WalkSmall
import Derived.OpenShut
set_option linter.unusedVariables false
set_option maxHeartbeats 4000000
set_option maxRecDepth 100000
namespace Go.Proofs.YticcibefchffmaaDoor
namespace paths
open Go.RowKit
open utfs (bad ja jb)
def LiesP (w:World)(p:Option Addr)(P:List St):Prop :=
 P.length≠0->∃B o,p=some ⟨B,o,none⟩/\B<w.heap.size/\∀j x,P[j]?=some x->∃key:ByteArray,key.data.toList=x.1/\key.size<=9223372036854775807/\(-9223372036854775808<=x.2/\x.2<=9223372036854775807)/\w.cell? ⟨B,o+j*2,none⟩=some (.string key)/\w.cell? ⟨B,o+j*2+1,none⟩=some (.int .i64 x.2)
theorem LiesP.below {w w':World}{p:Option Addr}{P:List St}{n:Nat}(h:LiesP w p P)(hb:Below n w w')(hn:∀B o,p=some ⟨B,o,none⟩->P.length≠0->B<n):LiesP w' p P:=by
 intro hP;obtain⟨B,o,e,hB,hc⟩:=h hP;refine⟨B,o,e,Nat.lt_of_lt_of_le hB hb.size,fun j x hx=>?_⟩;obtain⟨key,k1,k2,k3,k4,k5⟩:=hc j x hx;have hBn:=hn B o e hP;exact⟨key,k1,k2,k3,(hb.cell (p:=⟨B,o+j*2,none⟩) hBn).trans k4,(hb.cell (p:=⟨B,o+j*2+1,none⟩) hBn).trans k5⟩
theorem LiesP.keep {w w':World}{p:Option Addr}{P:List St}(h:LiesP w p P)(hb:Below w.heap.size w w'):LiesP w' p P:=by
 refine h.below hb fun B o e hP=>?_
 obtain⟨B',o',e',hB,_⟩:=h hP;rw [e'] at e;injection e with e;injection e with e;omega
theorem LiesP.at {w:World}{p:Option Addr}{P:List St}(h:LiesP w p P){j:Nat}(hj:j<P.length):∃B o key,p=some ⟨B,o,none⟩/\B<w.heap.size/\key.data.toList=(P[j]).1/\key.size<=9223372036854775807/\(-9223372036854775808<=(P[j]).2/\(P[j]).2<=9223372036854775807)/\w.cell? ⟨B,o+j*2,none⟩=some (.string key)/\w.cell? ⟨B,o+j*2+1,none⟩=some (.int .i64 (P[j]).2):=by
 obtain⟨B,o,e,hB,hc⟩:=h (by omega);obtain⟨key,k⟩:=hc j _ (List.getElem?_eq_getElem hj);exact⟨B,o,key,e,hB,k⟩
abbrev JZ (w:World):Prop:=Lib.Utf8Tabs 2 3 w
theorem qD (w:World)(key:ByteArray)(i:Int)(hk:key.size<=9223372036854775807)(hi : -9223372036854775808<=i/\i<=9223372036854775807)(hT:JZ w) :
  Calls Tryd.prog 37 #[.agg #[.string key,.int .i64 i]] w fun e w'=>e=.returned (.int .i64 (ju (key.data.toList,i)))/\Below w.heap.size w w':=by
 have b0:Below w.heap.size w (w.alloc (.cells #[.string key,.int .i64 i] 50)):=(Below.refl _ w).alloc (Nat.le_refl _) _;have KB:=ja (utfs.za key (w.alloc (.cells #[.string key,.int .i64 i] 50)) (by omega) (Utf8Tabs_below hT b0));have B0:=ja b0;clear b0 hT;have hlen:key.data.toList.length=key.size:=rfl
 by_cases i1:i < -1
 ·have E:Hid (ju (key.data.toList,i)=1):=ja (by unfold ju;rw [if_pos (.inl i1)])
  go_enter Tryd.func37,Tryd.ntmps37
  go_wp2_with fail
  go_ret;exact⟨by rw [E.out];rfl,B0.out⟩
 by_cases i2:i > -1
 ·by_cases hz:key.size=0
  ·have hzl:key.data.toList=[]:=List.eq_nil_of_length_eq_zero (by omega)
   have hz2:=escs.zE key hz;have i3:¬(key.size:Int) > 100:=by omega
   have i4:¬bad key.data.toList ≥ 0:=by rw [hzl];decide
   have E:Hid (ju (key.data.toList,i)=0):=ja (by unfold ju;rw [if_neg (by rintro(h | ⟨_,h⟩);exact i1 h;exact h hzl),if_neg (by dsimp only;omega),if_neg i4]);clear hzl hz hlen
   go_enter Tryd.func37,Tryd.ntmps37
   go_wp2_with fail
   refine(jb KB).mono ?_
   rintro e w1 ⟨rfl,b1⟩
   have B1:=ja (B0.out.trans (b1.mono B0.out.size));clear b1 B0 KB;go_wp2;go_ret;exact⟨by rw [E.out];rfl,B1.out⟩
  ·have hz2:=escs.Jk key (by omega)
   have E:Hid (ju (key.data.toList,i)=1):=ja (by unfold ju;rw [if_pos (.inr ⟨i2,fun e=>hz (by rw [<-hlen];dsimp only at e;rw [e];rfl)⟩)])
   go_enter Tryd.func37,Tryd.ntmps37
   go_wp2_with fail
   go_ret;exact⟨by rw [E.out];rfl,B0.out⟩
 ·have hno:¬(i < -1\/(-1<i/\key.data.toList≠[])):=by rintro(h | ⟨h,_⟩)<;>omega
  by_cases i3:(key.size:Int) > 100
  ·have E:Hid (ju (key.data.toList,i)=2):=ja (by unfold ju;rw [if_neg hno,if_pos (by dsimp only;omega)])
   clear hno hlen
   go_enter Tryd.func37,Tryd.ntmps37
   go_wp2_with fail
   go_ret;exact⟨by rw [E.out];rfl,B0.out⟩
  ·by_cases i4:bad key.data.toList ≥ 0
   ·have E:Hid (ju (key.data.toList,i)=3):=ja (by unfold ju;rw [if_neg hno,if_neg (by dsimp only;omega),if_pos i4])
    clear hno hlen
    go_enter Tryd.func37,Tryd.ntmps37
    go_wp2_with fail
    refine(jb KB).mono ?_
    rintro e w1 ⟨rfl,b1⟩
    have B1:=ja (B0.out.trans (b1.mono B0.out.size));clear b1 B0 KB;go_wp2;go_ret;exact⟨by rw [E.out];rfl,B1.out⟩
   ·have E:Hid (ju (key.data.toList,i)=0):=ja (by unfold ju;rw [if_neg hno,if_neg (by dsimp only;omega),if_neg i4])
    clear hno hlen
    go_enter Tryd.func37,Tryd.ntmps37
    go_wp2_with fail
    refine(jb KB).mono ?_
    rintro e w1 ⟨rfl,b1⟩
    have B1:=ja (B0.out.trans (b1.mono B0.out.size));clear b1 B0 KB;go_wp2;go_ret;exact⟨by rw [E.out];rfl,B1.out⟩
theorem Qr {P:List St}{j:Nat}(h:j<P.length):jN (P.drop j)=if ju P[j]=0 then jN (P.drop (j+1)) else ju P[j]:=by
 rw [List.drop_eq_getElem_cons h];rfl
theorem jw (w:World)(p:Option Addr)(c:Nat)(P:List St)(hP:LiesP w p P)(hl:P.length<=9223372036854775807)(hT:JZ w) :
  Calls Tryd.prog 13 #[.slice p P.length c] w fun e w'=>e=.returned (.int .i64 (jl P))/\Below w.heap.size w w':=by
 by_cases i1:(P.length:Int) > 20
 ·have E:Hid (jl P=5):=ja (by unfold jl;rw [if_pos (by omega)])
  go_enter Tryd.func13,Tryd.ntmps13
  go_wp2_with fail
  go_ret;exact⟨by rw [E.out];rfl,Below.refl _ _⟩
 ·have E:Hid (jl P=jN P):=ja (by unfold jl;rw [if_neg (by omega)])
  have HP:=ja hP;have HT:=ja hT;clear hP hT
  go_enter Tryd.func13,Tryd.ntmps13
  go_wp2_with fail
  go_loopw [11] (fun i wr=>∃j:Nat,i=.int .i64 j/\j<=P.length/\Hid (jN (P.drop j)=jN P)/\Below w.heap.size w wr) (fun i _=>P.length - (intOf i).toNat)
  case atStart=>exact⟨0,rfl,Nat.zero_le _,rfl,Below.refl _ _⟩
  case round=>
   obtain⟨j,rfl,hj,hacc,hbw⟩:=hrel
   by_cases hlt:j<P.length
   ·obtain⟨B,o,key,rfl,hB,hk1,hk2,hk3,c0,c1⟩:=HP.out.at hlt
    have hst:=Qr hlt;rw [hacc.out] at hst;have q0:=(hbw.cell (p:=⟨B,o+j*2,none⟩) hB).trans c0;have q1:=(hbw.cell (p:=⟨B,o+j*2+1,none⟩) hB).trans c1;have hbA:Below w.heap.size w (wr.alloc (.cells #[.string key,.int .i64 (P[j]).2] 50)):=hbw.alloc (by have:=hbw.size;omega) _;have KS:=ja (qD (wr.alloc (.cells #[.string key,.int .i64 (P[j]).2] 50)) key (P[j]).2 hk2 hk3 (Utf8Tabs_below HT.out hbA));rw [hk1] at KS;generalize hx:P[j].2=xi at *;obtain⟨er,her⟩:∃er,er=ju (P[j].1,xi):=⟨_,rfl⟩
    rw [<-her] at KS;have hst2:Hid (jN P=if er=0 then jN (P.drop (j+1)) else er):=ja (by rw [hst,her,<-hx]);have HB:=ja hbA;clear hst her hx hk1 hk2 hk3 c0 c1 hacc hbA
    by_cases he:er=0
    ·subst he
     have hst3:=hst2.out;rw [if_pos rfl] at hst3;have H3:=ja hst3.symm;clear hst2 hst3
     go_wp2_with fail
     refine(jb KS).mono ?_
     rintro e w2 ⟨rfl,b2⟩
     have hb2:=HB.out.trans (b2.mono HB.out.size);clear b2 KS HB;go_wp2;refine⟨⟨j+1,?_,by omega,H3,hb2⟩,?_⟩
     ·congr 1
     ·simp only [intOf]
      omega
    ·have hst3:=hst2.out
     rw [if_neg he] at hst3;have H3:=ja hst3;have he2:(er != 0)=true:=bne_iff_ne.2 he;clear hst2 hst3
     go_wp2_with fail
     refine(jb KS).mono ?_
     rintro e w2 ⟨rfl,b2⟩
     have hb2:=ja (HB.out.trans (b2.mono HB.out.size));clear b2 KS HB;go_wp2;go_ret;exact⟨by rw [E.out,H3.out];rfl,hb2.out⟩
   ·have H3:Hid (jN P=0):=ja (by rw [<-hacc.out,List.drop_of_length_le (by omega)];rfl)
    have g0:¬(j:Int)<(P.length:Int):=by omega
    clear hacc;go_wp2;go_ret;exact⟨by rw [E.out,H3.out];rfl,hbw⟩
end paths
end Go.Proofs.YticcibefchffmaaDoor
