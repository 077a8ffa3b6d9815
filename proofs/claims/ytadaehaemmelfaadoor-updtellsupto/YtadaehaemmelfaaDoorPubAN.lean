/- Of our texts, what this claim reaches. -/
import Derived.Test.YtadaehaemmelfaaDoorPubAM
import Derived.Test.YtadaehaemmelfaaDoorPubAK
import Derived.WalkSmall
import Derived.OpenShut
import Derived.WalkKit
import Derived.BigCall
import Derived.Deep.QuietTactic
import Derived.BigQuiet
set_option linter.unusedVariables false
set_option maxHeartbeats 4000000
set_option maxRecDepth 100000
namespace Go.Proofs.YtadaehaemmelfaaDoor
namespace paths
open Go.RowKit
open utfs (bad ja jc)
def LiesP (w:World)(p:Option Addr)(P:List St):Prop :=
 P.length≠0->∃B o,p=some ⟨B,o,none⟩/\B<w.heap.size/\∀j x,P[j]?=some x->∃key:ByteArray,key.data.toList=x.1/\key.size<=9223372036854775807/\(-9223372036854775808<=x.2/\x.2<=9223372036854775807)/\w.cell? ⟨B,o+j*2,none⟩=some (.string key)/\w.cell? ⟨B,o+j*2+1,none⟩=some (.int .i64 x.2)
theorem LiesP.below {w w':World}{p:Option Addr}{P:List St}{n:Nat}(h:LiesP w p P)(hb:Below n w w')(hn:∀B o,p=some ⟨B,o,none⟩->P.length≠0->B<n):LiesP w' p P:=by
 intro hP;obtain⟨B,o,e,hB,hc⟩:=h hP;refine⟨B,o,e,Nat.lt_of_lt_of_le hB hb.size,fun j x hx=>?_⟩;obtain⟨key,k1,k2,k3,k4,k5⟩:=hc j x hx;have hBn:=hn B o e hP;exact⟨key,k1,k2,k3,(hb.cell (p:=⟨B,o+j*2,none⟩) hBn).trans k4,(hb.cell (p:=⟨B,o+j*2+1,none⟩) hBn).trans k5⟩
theorem LiesP.keep {w w':World}{p:Option Addr}{P:List St}(h:LiesP w p P)(hb:Below w.heap.size w w'):LiesP w' p P:=by
 refine h.below hb fun B o e hP=>?_
 obtain⟨B',o',e',hB,_⟩:=h hP;rw [e'] at e;injection e with e;injection e with e;omega
theorem LiesP.at {w:World}{p:Option Addr}{P:List St}(h:LiesP w p P){j:Nat}(hj:j<P.length):∃B o key,p=some ⟨B,o,none⟩/\B<w.heap.size/\key.data.toList=(P[j]).1/\key.size<=9223372036854775807/\(-9223372036854775808<=(P[j]).2/\(P[j]).2<=9223372036854775807)/\w.cell? ⟨B,o+j*2,none⟩=some (.string key)/\w.cell? ⟨B,o+j*2+1,none⟩=some (.int .i64 (P[j]).2):=by
 obtain⟨B,o,e,hB,hc⟩:=h (by omega);obtain⟨key,k⟩:=hc j _ (List.getElem?_eq_getElem hj);exact⟨B,o,key,e,hB,k⟩
abbrev jt (w:World):Prop:=Lib.Utf8Tabs 1 2 w
theorem Q6 (w:World)(key:ByteArray)(i:Int)(hk:key.size<=9223372036854775807)(hi : -9223372036854775808<=i/\i<=9223372036854775807)(hT:jt w) :
  Calls Tryd.prog 44 #[.agg #[.string key,.int .i64 i]] w fun e w'=>e=.returned (.int .i64 (qI (key.data.toList,i)))/\Below w.heap.size w w':=by
 have b0:Below w.heap.size w (w.alloc (.cells #[.string key,.int .i64 i] 60)):=(Below.refl _ w).alloc (Nat.le_refl _) _;have KB:=ja (utfs.Qk key (w.alloc (.cells #[.string key,.int .i64 i] 60)) (by omega) (Utf8Tabs_below hT b0));have B0:=ja b0;clear b0 hT;have hlen:key.data.toList.length=key.size:=rfl
 by_cases i1:i < -1
 ·have E:Hid (qI (key.data.toList,i)=1):=ja (by unfold qI;rw [if_pos (.inl i1)])
  go_enter Tryd.func44,Tryd.ntmps44
  go_wp2_with fail
  go_ret;exact⟨by rw [E.out];rfl,B0.out⟩
 by_cases i2:i > -1
 ·by_cases hz:key.size=0
  ·have hzl:key.data.toList=[]:=List.eq_nil_of_length_eq_zero (by omega)
   have hz2:=escs.Xk key hz;have i3:¬(key.size:Int) > 100:=by omega
   have i4:¬bad key.data.toList ≥ 0:=by rw [hzl];decide
   have E:Hid (qI (key.data.toList,i)=0):=ja (by unfold qI;rw [if_neg (by rintro(h | ⟨_,h⟩);exact i1 h;exact h hzl),if_neg (by dsimp only;omega),if_neg i4]);clear hzl hz hlen
   go_enter Tryd.func44,Tryd.ntmps44
   go_wp2_with fail
   refine(jc KB).mono ?_
   rintro e w1 ⟨rfl,b1⟩
   have B1:=ja (B0.out.trans (b1.mono B0.out.size));clear b1 B0 KB;go_wp2;go_ret;exact⟨by rw [E.out];rfl,B1.out⟩
  ·have hz2:=escs.YY key (by omega)
   have E:Hid (qI (key.data.toList,i)=1):=ja (by unfold qI;rw [if_pos (.inr ⟨i2,fun e=>hz (by rw [<-hlen];dsimp only at e;rw [e];rfl)⟩)])
   go_enter Tryd.func44,Tryd.ntmps44
   go_wp2_with fail
   go_ret;exact⟨by rw [E.out];rfl,B0.out⟩
 ·have hno:¬(i < -1\/(-1<i/\key.data.toList≠[])):=by rintro(h | ⟨h,_⟩)<;>omega
  by_cases i3:(key.size:Int) > 100
  ·have E:Hid (qI (key.data.toList,i)=2):=ja (by unfold qI;rw [if_neg hno,if_pos (by dsimp only;omega)])
   clear hno hlen
   go_enter Tryd.func44,Tryd.ntmps44
   go_wp2_with fail
   go_ret;exact⟨by rw [E.out];rfl,B0.out⟩
  ·by_cases i4:bad key.data.toList ≥ 0
   ·have E:Hid (qI (key.data.toList,i)=3):=ja (by unfold qI;rw [if_neg hno,if_neg (by dsimp only;omega),if_pos i4])
    clear hno hlen
    go_enter Tryd.func44,Tryd.ntmps44
    go_wp2_with fail
    refine(jc KB).mono ?_
    rintro e w1 ⟨rfl,b1⟩
    have B1:=ja (B0.out.trans (b1.mono B0.out.size));clear b1 B0 KB;go_wp2;go_ret;exact⟨by rw [E.out];rfl,B1.out⟩
   ·have E:Hid (qI (key.data.toList,i)=0):=ja (by unfold qI;rw [if_neg hno,if_neg (by dsimp only;omega),if_neg i4])
    clear hno hlen
    go_enter Tryd.func44,Tryd.ntmps44
    go_wp2_with fail
    refine(jc KB).mono ?_
    rintro e w1 ⟨rfl,b1⟩
    have B1:=ja (B0.out.trans (b1.mono B0.out.size));clear b1 B0 KB;go_wp2;go_ret;exact⟨by rw [E.out];rfl,B1.out⟩
theorem YD {P:List St}{j:Nat}(h:j<P.length):zn (P.drop j)=if qI P[j]=0 then zn (P.drop (j+1)) else qI P[j]:=by
 rw [List.drop_eq_getElem_cons h];rfl
theorem qH (w:World)(p:Option Addr)(c:Nat)(P:List St)(hP:LiesP w p P)(hl:P.length<=9223372036854775807)(hT:jt w) :
  Calls Tryd.prog 27 #[.slice p P.length c] w fun e w'=>e=.returned (.int .i64 (jq P))/\Below w.heap.size w w':=by
 by_cases i1:(P.length:Int) > 20
 ·have E:Hid (jq P=5):=ja (by unfold jq;rw [if_pos (by omega)])
  go_enter Tryd.func27,Tryd.ntmps27
  go_wp2_with fail
  go_ret;exact⟨by rw [E.out];rfl,Below.refl _ _⟩
 ·have E:Hid (jq P=zn P):=ja (by unfold jq;rw [if_neg (by omega)])
  have HP:=ja hP;have HT:=ja hT;clear hP hT
  go_enter Tryd.func27,Tryd.ntmps27
  go_wp2_with fail
  go_loopw [11] (fun i wr=>∃j:Nat,i=.int .i64 j/\j<=P.length/\Hid (zn (P.drop j)=zn P)/\Below w.heap.size w wr) (fun i _=>P.length - (intOf i).toNat)
  case atStart=>exact⟨0,rfl,Nat.zero_le _,rfl,Below.refl _ _⟩
  case round=>
   obtain⟨j,rfl,hj,hacc,hbw⟩:=hrel
   by_cases hlt:j<P.length
   ·obtain⟨B,o,key,rfl,hB,hk1,hk2,hk3,c0,c1⟩:=HP.out.at hlt
    have hst:=YD hlt;rw [hacc.out] at hst;have q0:=(hbw.cell (p:=⟨B,o+j*2,none⟩) hB).trans c0;have q1:=(hbw.cell (p:=⟨B,o+j*2+1,none⟩) hB).trans c1;have hbA:Below w.heap.size w (wr.alloc (.cells #[.string key,.int .i64 (P[j]).2] 60)):=hbw.alloc (by have:=hbw.size;omega) _;have KS:=ja (Q6 (wr.alloc (.cells #[.string key,.int .i64 (P[j]).2] 60)) key (P[j]).2 hk2 hk3 (Utf8Tabs_below HT.out hbA));rw [hk1] at KS;generalize hx:P[j].2=xi at *;obtain⟨er,her⟩:∃er,er=qI (P[j].1,xi):=⟨_,rfl⟩
    rw [<-her] at KS;have hst2:Hid (zn P=if er=0 then zn (P.drop (j+1)) else er):=ja (by rw [hst,her,<-hx]);have HB:=ja hbA;clear hst her hx hk1 hk2 hk3 c0 c1 hacc hbA
    by_cases he:er=0
    ·subst he
     have hst3:=hst2.out;rw [if_pos rfl] at hst3;have H3:=ja hst3.symm;clear hst2 hst3
     go_wp2_with fail
     refine(jc KS).mono ?_
     rintro e w2 ⟨rfl,b2⟩
     have hb2:=HB.out.trans (b2.mono HB.out.size);clear b2 KS HB;go_wp2;refine⟨⟨j+1,?_,by omega,H3,hb2⟩,?_⟩
     ·congr 1
     ·simp only [intOf]
      omega
    ·have hst3:=hst2.out
     rw [if_neg he] at hst3;have H3:=ja hst3;have he2:(er != 0)=true:=bne_iff_ne.2 he;clear hst2 hst3
     go_wp2_with fail
     refine(jc KS).mono ?_
     rintro e w2 ⟨rfl,b2⟩
     have hb2:=ja (HB.out.trans (b2.mono HB.out.size));clear b2 KS HB;go_wp2;go_ret;exact⟨by rw [E.out,H3.out];rfl,hb2.out⟩
   ·have H3:Hid (zn P=0):=ja (by rw [<-hacc.out,List.drop_of_length_le (by omega)];rfl)
    have g0:¬(j:Int)<(P.length:Int):=by omega
    clear hacc;go_wp2;go_ret;exact⟨by rw [E.out,H3.out];rfl,hbw⟩
open Go.RowKit
open utfs (ja jc)
theorem jbe (k1 k2:ByteArray)(i1 i2:Int)(b c:Bool)(hb:(k1.toList == k2.toList)=b)(hc:(i1 == i2)=c)(w:World):(Op.equalIn 10000 60 (.agg #[.string k1,.int .i64 i1]) (.agg #[.string k2,.int .i64 i2])).run Tryd.prog w=.ok (b && c) w:=by
 have u3:=Tryd.underlying3;have u9:=Tryd.underlying9;have hS:Tryd.prog.underlying 60=some (.struct (Tryd.prog.fieldsOf 60)):=by kernel_rfl
 have hp:Tryd.prog.stoodInHeld 60=false:=by kernel_rfl
 rw [show(10000:Nat)=9999+1 from rfl,run_equalIn_agg w 9999 60 _ _ hS hp];simp only [Program.fieldsOf,Tryd.underlying60];cases b<;>cases c<;>go_simp
theorem YI {k1 k2:ByteArray}{x y:St}{b:Bool}(h1:k1.data.toList=x.1)(h2:k2.data.toList=y.1):(k1.toList == k2.toList && x.2 == y.2)=decide (x=y):=by
 rw [ByteArray.toList_eq,ByteArray.toList_eq,h1,h2];obtain⟨a,i⟩:=x;obtain⟨c,j⟩:=y
 by_cases h:a=c
 ·subst h
  by_cases g:i=j
  ·subst g;simp
  ·simp [g]
 ·simp [h]
theorem YK {P Q:List St}{k:Nat}(h:P.take k=Q.take k)(hp:k<P.length)(hq:k<Q.length)(e:P[k]=Q[k]):P.take (k+1)=Q.take (k+1):=by
 rw [List.take_succ_eq_append_getElem hp,List.take_succ_eq_append_getElem hq,h,e]
theorem jbO (w:World)(p q:Option Addr)(c d:Nat)(P Q:List St)(h1:LiesP w p P)(h2:LiesP w q Q)(l1:P.length<=9223372036854775807)(l2:Q.length<=9223372036854775807) :
  Calls Tryd.prog 39 #[.slice p P.length c,.slice q Q.length d] w fun e w'=>e=.returned (.bool (decide (P=Q)))/\Below w.heap.size w w':=by
 by_cases hl:P.length=Q.length
 ·have j0:((P.length:Int) != (Q.length:Int))=false:=bne_eq_false_iff_eq.2 (by rw [hl])
  have HP:=ja h1;have HQ:=ja h2;have HL:=ja hl;clear h1 h2 hl
  go_enter Tryd.func39,Tryd.ntmps39
  go_wp2_with fail
  go_loopw [13] (fun i wr=>∃k:Nat,k<=P.length/\i=.int .i64 k/\Hid (P.take k=Q.take k)/\Below w.heap.size w wr) (fun i _=>P.length - (intOf i).toNat)
  case atStart=>exact⟨0,Nat.zero_le _,rfl,ja rfl,Below.refl _ _⟩
  case round=>
   obtain⟨k,hk,rfl,HE,hbw⟩:=hrel
   by_cases hlt:k<P.length
   ·obtain⟨B1,o1,k1,rfl,b1,e1,_,_,x0,x1⟩:=HP.out.at hlt
    obtain⟨B2,o2,k2,rfl,b2,e2,_,_,y0,y1⟩:=HQ.out.at (show k<Q.length by have:=HL.out;omega);have p0:=(hbw.cell (p:=⟨B1,o1+k*2,none⟩) b1).trans x0;have p1:=(hbw.cell (p:=⟨B1,o1+k*2+1,none⟩) b1).trans x1;have q0:=(hbw.cell (p:=⟨B2,o2+k*2,none⟩) b2).trans y0;have q1:=(hbw.cell (p:=⟨B2,o2+k*2+1,none⟩) b2).trans y1;have eq:=jbe k1 k2 (P[k]).2 (Q[k]).2 _ _ rfl rfl;rw [YI (b:=true) e1 e2] at eq;have HD:Hid (decide (P[k]=Q[k])=true↔P[k]=Q[k]):=ja (by simp);have i1:(k:Int)<(P.length:Int):=by omega
    have i1':(k:Int)<(Q.length:Int):=by have:=HL.out;omega
    have i3':k<Q.length:=by omega
    have i2:(0:Int)<=(k:Int):=by omega
    clear x0 x1 y0 y1 e1 e2;obtain⟨bb,hbb⟩:∃bb,decide (P[k]=Q[k])=bb:=⟨_,rfl⟩
    rw [hbb] at eq;have HD2:Hid (bb=true↔P[k]=Q[k]):=ja (by rw [<-hbb];simp);clear HD hbb;generalize (P[k]).2=z1 at *;generalize (Q[k]).2=z2 at *;cases bb with
    | true=>
     have HT:=ja (YK HE.out hlt (by omega) (HD2.out.1 rfl))
     go_wp2_with fail
     go_quiet (fail)
     have hbw2:=below_drewN hbw nq;clear hbw p0 p1 q0 q1 eq;generalize wr.drewN nq=w2 at *;go_wp2;go_roundw
     case rel=>exact⟨k+1,hlt,by go_num,HT,hbw2⟩
     case measure=>simp only [intOf];omega
    | false=>
     have HN:Hid (decide (P=Q)=false):=ja (decide_eq_false (fun e=>by subst e;exact Bool.noConfusion (HD2.out.2 rfl)))
     go_wp2_with fail
     go_quiet (fail)
     have hbw2:=below_drewN hbw nq;clear hbw p0 p1 q0 q1 eq;generalize wr.drewN nq=w2 at *;go_wp2;go_ret;exact⟨by rw [HN.out];rfl,hbw2⟩
   ·have HN:Hid (decide (P=Q)=true):=ja (decide_eq_true (by
     have h:=HE.out;have hl:=HL.out;rw [List.take_of_length_le (by omega),List.take_of_length_le (by omega)] at h;exact h))
    clear HE;go_wp2;go_ret;exact⟨by rw [HN.out];rfl,hbw⟩
 ·have j0:((P.length:Int) != (Q.length:Int))=true:=bne_iff_ne.2 (by omega)
  have HN:Hid (decide (P=Q)=false):=ja (decide_eq_false (fun e=>hl (by rw [e])));clear h1 h2
  go_enter Tryd.func39,Tryd.ntmps39
  go_wp2;go_ret;exact⟨by rw [HN.out];rfl,Below.refl _ _⟩
theorem jai (w:World)(p q:Option Addr)(c d:Nat)(P Q:List St)(h1:LiesP w p P)(h2:LiesP w q Q)(l1:P.length<=9223372036854775807)(l2:Q.length<=9223372036854775807) :
  Calls Tryd.prog 30 #[.slice p P.length c,.slice q Q.length d] w fun e w'=>e=.returned (.bool (decide (P=Q)))/\Below w.heap.size w w':=by
 by_cases hl:P.length=Q.length
 ·have j0:((P.length:Int) != (Q.length:Int))=false:=bne_eq_false_iff_eq.2 (by rw [hl])
  have HP:=ja h1;have HQ:=ja h2;have HL:=ja hl;clear h1 h2 hl
  go_enter Tryd.func30,Tryd.ntmps30
  go_wp2_with fail
  go_loopw [13] (fun i wr=>∃k:Nat,k<=P.length/\i=.int .i64 k/\Hid (P.take k=Q.take k)/\Below w.heap.size w wr) (fun i _=>P.length - (intOf i).toNat)
  case atStart=>exact⟨0,Nat.zero_le _,rfl,ja rfl,Below.refl _ _⟩
  case round=>
   obtain⟨k,hk,rfl,HE,hbw⟩:=hrel
   by_cases hlt:k<P.length
   ·obtain⟨B1,o1,k1,rfl,b1,e1,_,_,x0,x1⟩:=HP.out.at hlt
    obtain⟨B2,o2,k2,rfl,b2,e2,_,_,y0,y1⟩:=HQ.out.at (show k<Q.length by have:=HL.out;omega);have p0:=(hbw.cell (p:=⟨B1,o1+k*2,none⟩) b1).trans x0;have p1:=(hbw.cell (p:=⟨B1,o1+k*2+1,none⟩) b1).trans x1;have q0:=(hbw.cell (p:=⟨B2,o2+k*2,none⟩) b2).trans y0;have q1:=(hbw.cell (p:=⟨B2,o2+k*2+1,none⟩) b2).trans y1;have eq:=jbe k1 k2 (P[k]).2 (Q[k]).2 _ _ rfl rfl;rw [YI (b:=true) e1 e2] at eq;have HD:Hid (decide (P[k]=Q[k])=true↔P[k]=Q[k]):=ja (by simp);have i1:(k:Int)<(P.length:Int):=by omega
    have i1':(k:Int)<(Q.length:Int):=by have:=HL.out;omega
    have i3':k<Q.length:=by omega
    have i2:(0:Int)<=(k:Int):=by omega
    clear x0 x1 y0 y1 e1 e2;obtain⟨bb,hbb⟩:∃bb,decide (P[k]=Q[k])=bb:=⟨_,rfl⟩
    rw [hbb] at eq;have HD2:Hid (bb=true↔P[k]=Q[k]):=ja (by rw [<-hbb];simp);clear HD hbb;generalize (P[k]).2=z1 at *;generalize (Q[k]).2=z2 at *;cases bb with
    | true=>
     have HT:=ja (YK HE.out hlt (by omega) (HD2.out.1 rfl))
     go_wp2_with fail
     go_quiet (fail)
     have hbw2:=below_drewN hbw nq;clear hbw p0 p1 q0 q1 eq;generalize wr.drewN nq=w2 at *;go_wp2;go_roundw
     case rel=>exact⟨k+1,hlt,by go_num,HT,hbw2⟩
     case measure=>simp only [intOf];omega
    | false=>
     have HN:Hid (decide (P=Q)=false):=ja (decide_eq_false (fun e=>by subst e;exact Bool.noConfusion (HD2.out.2 rfl)))
     go_wp2_with fail
     go_quiet (fail)
     have hbw2:=below_drewN hbw nq;clear hbw p0 p1 q0 q1 eq;generalize wr.drewN nq=w2 at *;go_wp2;go_ret;exact⟨by rw [HN.out];rfl,hbw2⟩
   ·have HN:Hid (decide (P=Q)=true):=ja (decide_eq_true (by
     have h:=HE.out;have hl:=HL.out;rw [List.take_of_length_le (by omega),List.take_of_length_le (by omega)] at h;exact h))
    clear HE;go_wp2;go_ret;exact⟨by rw [HN.out];rfl,hbw⟩
 ·have j0:((P.length:Int) != (Q.length:Int))=true:=bne_iff_ne.2 (by omega)
  have HN:Hid (decide (P=Q)=false):=ja (decide_eq_false (fun e=>hl (by rw [e])));clear h1 h2
  go_enter Tryd.func30,Tryd.ntmps30
  go_wp2;go_ret;exact⟨by rw [HN.out];rfl,Below.refl _ _⟩
end paths
end Go.Proofs.YtadaehaemmelfaaDoor
