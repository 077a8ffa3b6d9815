/- Of our texts, what this claim reaches. -/
import Derived.Test.YtnbfnjhbmeocfaaGreatDoorPstBV
import Derived.Test.YtnbfnjhbmeocfaaGreatDoorPstBT
import Derived.Test.YtnbfnjhbmeocfaaGreatDoorPstBM
set_option linter.unusedVariables false
set_option maxHeartbeats 16000000
set_option maxRecDepth 100000
namespace Go.Proofs.YtnbfnjhbmeocfaaGreatDoor
namespace valus
open Go.RowKit
def txV (l:List UInt8):V:=mkV (0,0,0,l) [] []
def QT (ok:Nat->Prop)(w:World)(us:List Value)(y:V):Prop:=us=[.string ⟨(opn y).1.2.2.2.toArray⟩]
theorem qV:jfe QT:=fun _ _ _ _ _ _ h _ _ _=>h
theorem Xy:(Tryz.prog.info? 9).map (fun i=>(i.zero,i.size,i.bytes))=some (some (.string ⟨#[]⟩),1,16):=by kernel_rfl
structure Fits0 (f:Nat) (t:V):Prop where
 i:IsV f t
 g:Jq f t
 z:jC jR t=0
 n:jB f t<=2000
def jhp (F:Nat->List UInt8)(many:Bool)(f:Nat):Prop :=
 ∀(w:World) (d:Nat) (k n:Int) (b:Nat) (s:ByteArray) (pL:Option Addr) (nL cL:Nat) (pE:Option Addr) (nE cE:Nat) (t:V),LiesV (fun q=>q<w.heap.size) f w [.int .i64 k,.int .i64 n,.int .u64 (b:Int),.string s,.slice pL nL cL,.slice pE nE cE] t->Fits0 f t->d+f<=90->
  Calls Tryz.prog 23 #[.agg #[.int .i64 k,.int .i64 n,.int .u64 (b:Int),.string s,.slice pL nL cL,.slice pE nE cE],.bool many,.int .i64 (d:Int)] w fun e w'=>e=.returned (.string ⟨(ji F many f d t).toArray⟩)/\Below w.heap.size w w'
theorem Blk.below' {w w':World}{n0 b:Nat}{cs:Array Value}{t:Nat}(h:Blk w b cs t)(hb:Below n0 w w')(hlt:b<n0):Blk w' b cs t:=(hb.block b hlt).trans h
open Go.RowKit
open bigs (jv)
theorem jgk (f:Nat)(F:Nat->List UInt8)(ih:jhp F true f)(w:World)(n:Int)(b:Nat)(s:ByteArray)(pL pE:Option Addr)(L:List V)(cL cE:Nat)(d:Nat)(hd:d+f<=89)(hcl:L.length<=cL/\cL<=maxLen)(hfew:L.length<=100000)
  (rL:RowIn (fun q=>q<w.heap.size) w pL 6 L.length (fun j us=>∃y,L[j]?=some y/\LiesV (fun q=>q<w.heap.size) f w us y)) (hG:∀y∈L,Fits0 f y) (hlen:(91 :: (jq true d (L.map (ji F true f (d+1)))++[93])).length<=100000000) :
  Calls Tryz.prog 23 #[.agg #[.int .i64 5,.int .i64 n,.int .u64 (b:Int),.string s,.slice pL L.length cL,.slice pE 0 cE],.bool true,.int .i64 (d:Int)] w fun e w'=>e=.returned (.string ⟨(91 :: (jq true d (L.map (ji F true f (d+1)))++[93])).toArray⟩)/\Below w.heap.size w w':=by
 have bV:Below w.heap.size w (w.alloc (.cells #[.int .i64 5,.int .i64 n,.int .u64 (b:Int),.string s,.slice pL L.length cL,.slice pE 0 cE] 26)):=(Below.refl _ w).alloc (Nat.le_refl _) _;have hX:=jd w #[.int .i64 5,.int .i64 n,.int .u64 (b:Int),.string s,.slice pL L.length cL,.slice pE 0 cE] 26;obtain⟨W,hW⟩:∃W,W=w.alloc (.cells #[.int .i64 5,.int .i64 n,.int .u64 (b:Int),.string s,.slice pL L.length cL,.slice pE 0 cE] 26):=⟨_,rfl⟩
 obtain⟨n0,hn0⟩:∃n0,n0=W.heap.size:=⟨_,rfl⟩
 have hwn:w.heap.size<n0:=by rw [hn0,hW];simp
 rw [<-hW] at bV hX;obtain⟨ps,hps⟩:∃ps,ps=L.map (ji F true f (d+1)):=⟨_,rfl⟩
 have hpl:ps.length=L.length:=by rw [hps,List.length_map]
 rw [<-hps] at hlen ⊢;obtain⟨i0,hi,hz0,hz1,hz2⟩:=info_parts Xy;have hn63:L.length<=9223372036854775807:=by omega
 -- one round of the first loop
 have R1:Hid (∀(wr:World) (u:Value) (j:Nat) (hj:j<L.length),Below n0 W wr->OwnR 9 1 QT n0 wr u ((ps.take j).map txV)->
   ∃(B o:Nat) (yk yn:Int) (yb:Nat) (ys:ByteArray) (ypL:Option Addr) (ynL ycL:Nat) (ypE:Option Addr) (ynE ycE:Nat),pL=some ⟨B,o,none⟩/\
    (wr.cell? ⟨B,o+j*6,none⟩=some (.int .i64 yk)/\wr.cell? ⟨B,o+j*6+1,none⟩=some (.int .i64 yn)/\wr.cell? ⟨B,o+j*6+2,none⟩=some (.int .u64 (yb:Int))/\wr.cell? ⟨B,o+j*6+3,none⟩=some (.string ys)/\wr.cell? ⟨B,o+j*6+4,none⟩=some (.slice ypL ynL ycL)/\wr.cell? ⟨B,o+j*6+5,none⟩=some (.slice ypE ynE ycE))/\
    Calls Tryz.prog 23 #[.agg #[.int .i64 yk,.int .i64 yn,.int .u64 (yb:Int),.string ys,.slice ypL ynL ycL,.slice ypE ynE ycE],.bool true,.int .i64 ((d:Int)+1)] (wr.alloc (.cells #[.int .i64 yk,.int .i64 yn,.int .u64 (yb:Int),.string ys,.slice ypL ynL ycL,.slice ypE ynE ycE] 26)) (fun e w2=>∃S:ByteArray,e=.returned (.string S)/\
     ∃v' W',(Builtin.append_ #[40,40] 40 #[u,.slice (some ⟨w2.heap.size,0,none⟩) 1 1]).run Tryz.prog (w2.alloc (.cells #[.string S] 9))=.ok v' W'/\OwnR 9 1 QT n0 W' v' ((ps.take (j+1)).map txV)/\Below n0 W W')):=jb fun wr u j hj hb hO=>by
  have hbw:Below w.heap.size w wr:=bV.trans (hb.mono (by omega));obtain⟨B,o,rfl,hBok,hBl,x0,x1,x2,x3,x4,x5,⟨y,hy,hly⟩,k0,k1,k2,k3,k4,k5⟩:=rL.six hj;obtain⟨yk,yn,yb,ys,ypL,ynL,ycL,ypE,ynE,ycE,rfl,rfl,rfl,rfl,rfl,rfl⟩:=LiesV.form hly;have hyL:y∈L:=List.mem_iff_getElem?.2 ⟨j,hy⟩
  have bA:Below wr.heap.size wr (wr.alloc (.cells #[.int .i64 yk,.int .i64 yn,.int .u64 (yb:Int),.string ys,.slice ypL ynL ycL,.slice ypE ynE ycE] 26)):=(Below.refl _ wr).alloc (Nat.le_refl _) _;have bwA:=hbw.trans (bA.mono hbw.size);refine⟨B,o,yk,yn,yb,ys,ypL,ynL,ycL,ypE,ynE,ycE,rfl,⟨(hbw.cell (p:=⟨B,o+j*6,none⟩) hBok).trans k0,(hbw.cell (p:=⟨B,o+j*6+1,none⟩) hBok).trans k1,(hbw.cell (p:=⟨B,o+j*6+2,none⟩) hBok).trans k2,(hbw.cell (p:=⟨B,o+j*6+3,none⟩) hBok).trans k3,(hbw.cell (p:=⟨B,o+j*6+4,none⟩) hBok).trans k4,(hbw.cell (p:=⟨B,o+j*6+5,none⟩) hBok).trans k5⟩,?_⟩;have K:=ih _ (d+1) yk yn yb ys ypL ynL ycL ypE ynE ycE y (hly.kept (ok':=fun q=>q<(wr.alloc (.cells #[.int .i64 yk,.int .i64 yn,.int .u64 (yb:Int),.string ys,.slice ypL ynL ycL,.slice ypE ynE ycE] 26)).heap.size) (fun q hq=>Nat.lt_of_lt_of_le hq bwA.size) bwA.size (fun q hq _=>bwA.block q hq)) (hG y hyL) (by omega)
  have ed:(((d+1:Nat)):Int)=(d:Int)+1:=by omega
  rw [ed] at K;refine K.mono ?_
  rintro e w2 ⟨rfl,b2⟩
  have b02:Below wr.heap.size wr w2:=bA.trans (b2.mono bA.size);have hO2:OwnR 9 1 QT n0 w2 u ((ps.take j).map txV):=hO.only qV (R:=0) (by omega) (zi b02);have hs2:=b02.size;have hsr:=hb.size;obtain⟨v',W',hrun,hO',hg⟩:=OwnR.push (tS:=40) qV Tryz.underlying40 hi hz0 hz1 hz2 rfl (by decide) (by decide) hO2 (by omega) [.string ⟨(ji F true f (d+1) y).toArray⟩] (txV (ji F true f (d+1) y)) rfl (fun u hu=>by rw [List.mem_singleton.1 hu];rfl) rfl (by rw [List.length_map,List.length_take];omega) 40;refine⟨_,rfl,v',W',hrun,?_,hb.trans ((b02.mono (by omega)).trans (hg.to_below (by omega) (fun g hg'=>(hO2.lt g hg').1)))⟩;have hjp:j<ps.length:=by omega
  have ep:ps[j]=ji F true f (d+1) y:=by
   have:ps[j]?=some (ji F true f (d+1) y):=by rw [hps,List.getElem?_map,hy];rfl
   rw [List.getElem?_eq_getElem hjp] at this;injection this
  rw [List.take_succ_eq_append_getElem hjp,List.map_append,ep];exact hO'
 have x0:=hX.cell 0 _ rfl;have x4:=hX.cell 4 _ rfl;have KI:Hid (∀(w1:World) (q:Nat),q<=1000->Calls Tryz.prog 45 #[.int .i64 (q:Int)] w1 fun e w'=>e=.returned (.string ⟨(inL q).toArray⟩)/\w'=w1):=jb fun w1 q hq=>Xx w1 q (by omega)
 have HX:=jb (And.intro bV (And.intro hX hwn));have HN:=jb hn0;have HH:=jb (And.intro hlen (And.intro hpl hd));clear bV hX rL hG ih hlen hwn hps hn0
 go_enter Tryz.func23,Tryz.ntmps23
 go_upto_region 1 with fail
 rw [<-hW];clear hW;go_wp2
 go_loopw [9,44] (fun u i wr=>∃j:Nat,i=.int .i64 (j:Int)/\j<=L.length/\Hid (Below n0 W wr/\OwnR 9 1 QT n0 wr u ((ps.take j).map txV))) (fun _ i _=>L.length - (intOf i).toNat)
 case atStart=>exact⟨0,rfl,Nat.zero_le _,jb ⟨Below.refl _ _,by rw [List.take_zero];exact OwnR.nil _ _ _ _ _⟩⟩
 case round=>
  obtain⟨j,rfl,hj,hh⟩:=hrel
  by_cases hlt:j<L.length
  ·obtain⟨B,o,yk,yn,yb,ys,ypL,ynL,ycL,ypE,ynE,ycE,rfl,⟨k0,k1,k2,k3,k4,k5⟩,K⟩:=R1.out wr _ j hlt hh.out.1 hh.out.2
   have HK:=jb K;clear K hh R1
   go_wp2_with (first
    | (at_builtin;refine Lib.wpList_append_run _ rfl _ _ _ _ rfl _ _ rfl rfl _ _ hrun ?_)
    | (go_at_call 23;refine(ja HK).mono ?_;rintro e w2 ⟨S,rfl,v',W',hrun,hO',hb'⟩;have HO:=jb (And.intro hb' hO');clear hb' hO'))
   go_roundw
   case rel=>exact⟨j+1,rfl,by omega,HO⟩
   case measure=>simp only [intOf];omega
  ·have hjN:j=L.length:=by omega
   obtain⟨hb,hO⟩:=hh.out;have hlp:ps.take j=ps:=by rw [List.take_of_length_le (by omega)]
   rw [hlp] at hO;obtain⟨pr,cr,hu,hc1,hc2,hrow⟩:=hO.row qV;have hXr:=HX.out.2.1.below' hb (by have:=HX.out.2.2;omega);have x5:=hXr.cell 5 _ rfl;have y0:=hXr.cell 0 _ rfl;rw [List.length_map] at hu hc1;obtain⟨N,hN⟩:∃N:Nat,N=ps.length:=⟨_,rfl⟩
   rw [<-hN] at hu hc1;subst hu;have hN63:N<=9223372036854775807:=by omega
   have FB:Hid (Below w.heap.size w wr):=jb (HX.out.1.trans (hb.mono (by have:=HX.out.2.2;omega)))
   have HE:Hid (∀k,k<N->∃B o,pr=some ⟨B,o,none⟩/\∃P:List UInt8,ps[k]?=some P/\wr.cell? ⟨B,o+k,none⟩=some (.string ⟨P.toArray⟩)):=jb fun k hk=>by
    obtain⟨B,o,e1,_,_,hr⟩:=hrow (by rw [List.length_map];omega);obtain⟨us,_,u2,y,hy,hq⟩:=hr k (by rw [List.length_map];omega);rw [List.getElem?_map] at hy;obtain⟨P,hP,rfl⟩:=Option.map_eq_some_iff.1 hy;refine⟨B,o,e1,P,hP,?_⟩;have e2:=u2 0 (by decide);rw [show us=[.string ⟨P.toArray⟩] from hq] at e2;rw [show o+k=o+k*1+0 by omega];exact e2
   have HPS:=jb (And.intro hN hc1);have hNL:N<=100000:=by omega
   have hge:¬(j:Int)<(L.length:Int):=by omega
   have HLEN:=HH.out.1;have hd1:d<=89:=by omega
   have HL2:=jb HLEN;clear R1 hh hO hb hrow hXr hlp hjN HLEN HH hc1 hc2 hpl hcl x0 x4 HN hN;go_wp2
   go_loopw [9,60] (fun u i wq=>u=.slice pr N cr/\i=.int .i64 0/\wq=wr) (fun _ _ _=>0)
   case atStart=>exact⟨by first | rfl | trivial,by first | rfl | trivial,by first | rfl | trivial⟩
   case round=>
    obtain⟨rfl,rfl,rfl⟩:=hrel
    by_cases hz:N=0
    ·have hp0:ps=[]:=List.eq_nil_of_length_eq_zero (by rw [<-HPS.out.1];exact hz)
     have q1:((N:Int) == 0)=true:=by rw [hz];rfl
     have q2:(N:Int)=((0:Nat):Int):=by rw [hz]
     have HQ2:=jb q2;have HZ:=jb hz;clear q2 hz;have c0:∀u,(Op.stringOp .add ⟨#[91]⟩ ⟨#[93]⟩).run Tryz.prog u=.ok (.string ⟨#[91,93]⟩) u:=fun u=>bigs.jg [91] [93] (by decide) u
     clear HE HPS KI HX HL2;go_wp2;go_ret;exact⟨by rw [hp0];rfl,FB.out⟩
    ·have nz:((N:Int) == 0)=false:=beq_false_of_ne (by omega)
     have nz':¬(N:Int)=0:=by omega
     have HZ:=jb hz;clear hz;go_wp2
     go_loopw [14,91] (fun sv i wq=>∃(k:Nat) (S:List UInt8),i=.int .i64 (k:Int)/\k<=N/\sv=.string ⟨S.toArray⟩/\Hid (S=91 :: jr d (ps.take k))/\wq=wr) (fun _ i _=>N - (intOf i).toNat)
     case atStart=>exact⟨0,[91],rfl,Nat.zero_le _,rfl,jb rfl,by first | rfl | trivial⟩
     case round=>
      obtain⟨k,S,rfl,hk,rfl,hS,rfl⟩:=hrel
      by_cases hlt2:k<N
      ·obtain⟨B,o,rfl,P,hP,hcell⟩:=HE.out k hlt2
       have hkp:k<ps.length:=by rw [<-HPS.out.1];exact hlt2
       have ep:ps[k]=P:=by rw [List.getElem?_eq_getElem hkp] at hP;injection hP
       have etk:ps.take (k+1)=ps.take k++[P]:=by rw [List.take_succ_eq_append_getElem hkp,ep]
       have hle:=Qm d ps (k+1);rw [etk,qH,List.length_append,JF] at hle;have hl2:=HL2.out;have eb:jq true d ps=jr d ps++10 :: inL d:=by unfold jq;rw [if_pos rfl,if_neg (fun e=>by rw [e] at hkp;cases hkp)]
       rw [eb] at hl2;simp only [List.length_cons,List.length_append,List.length_nil,qj] at hl2;obtain⟨I,hI⟩:∃I,I=inL (d+1):=⟨_,rfl⟩
       obtain⟨A1,hA1⟩:∃A1:List UInt8,A1=[10]++I:=⟨_,rfl⟩
       obtain⟨A2,hA2⟩:∃A2:List UInt8,A2=A1++P:=⟨_,rfl⟩
       obtain⟨A3,hA3⟩:∃A3:List UInt8,A3=A2++[44]:=⟨_,rfl⟩
       obtain⟨A4,hA4⟩:∃A4:List UInt8,A4=S++A3:=⟨_,rfl⟩
       have lI:I.length=2*(d+1):=by rw [hI,qj]
       have lS:S.length=(jr d (ps.take k)).length+1:=by rw [hS.out,List.length_cons]
       have l1:A1.length=I.length+1:=by rw [hA1,List.length_append,List.length_cons,List.length_nil];omega
       have l2:A2.length=A1.length+P.length:=by rw [hA2,List.length_append]
       have l3:A3.length=A2.length+1:=by rw [hA3,List.length_append];rfl
       have c1:∀u,(Op.stringOp .add ⟨#[10]⟩ ⟨I.toArray⟩).run Tryz.prog u=.ok (.string ⟨A1.toArray⟩) u:=fun u=>by rw [hA1];exact bigs.jg [10] I (by simp only [List.length_cons,List.length_nil];omega) u
       have c2:∀u,(Op.stringOp .add ⟨A1.toArray⟩ ⟨P.toArray⟩).run Tryz.prog u=.ok (.string ⟨A2.toArray⟩) u:=fun u=>by rw [hA2];exact bigs.jg A1 P (by omega) u
       have c3:∀u,(Op.stringOp .add ⟨A2.toArray⟩ ⟨#[44]⟩).run Tryz.prog u=.ok (.string ⟨A3.toArray⟩) u:=fun u=>by rw [hA3];exact bigs.jg A2 [44] (by simp only [List.length_cons,List.length_nil];omega) u
       have c4:∀u,(Op.stringOp .add ⟨S.toArray⟩ ⟨A3.toArray⟩).run Tryz.prog u=.ok (.string ⟨A4.toArray⟩) u:=fun u=>by rw [hA4];exact bigs.jg S A3 (by omega) u
       have HS2:Hid (A4=91 :: jr d (ps.take (k+1))):=jb (by
        rw [hA4,hS.out,hA3,hA2,hA1,hI,etk,qH];unfold Qd;simp)
       have ed:(d:Int)+1=((d+1:Nat):Int):=by omega
       have KI1:Hid (Calls Tryz.prog 45 #[.int .i64 ((d:Int)+1)] wr fun e w'=>e=.returned (.string ⟨I.toArray⟩)/\w'=wr):=jb (by rw [ed,hI];exact KI.out wr (d+1) (by omega));clear hle hl2 eb hI hA1 hA2 hA3 hA4 lI lS l1 l2 l3 hS etk ep hP hkp ed
       go_wp2_with (go_at_call 45;refine(ja KI1).mono ?_;rintro e w5 ⟨rfl,rfl⟩)
       go_roundw
       case rel=>exact⟨k+1,A4,rfl,by omega,rfl,HS2,by first | rfl | trivial⟩
       case measure=>simp only [intOf];omega
      ·have hkN:k=N:=by omega
       have hge2:¬(k:Int)<(N:Int):=by omega
       have eS:S=91 :: jr d ps:=by rw [hS.out,hkN,HPS.out.1,List.take_length]
       have hl2:=HL2.out;have hne:ps≠[]:=fun e=>HZ.out (by rw [HPS.out.1,e];rfl)
       have eb:jq true d ps=jr d ps++10 :: inL d:=by unfold jq;rw [if_pos rfl,if_neg hne]
       rw [eb] at hl2;simp only [List.length_cons,List.length_append,List.length_nil,qj] at hl2;obtain⟨I,hI⟩:∃I,I=inL d:=⟨_,rfl⟩
       obtain⟨A1,hA1⟩:∃A1:List UInt8,A1=[10]++I:=⟨_,rfl⟩
       obtain⟨A2,hA2⟩:∃A2:List UInt8,A2=S++A1:=⟨_,rfl⟩
       obtain⟨A3,hA3⟩:∃A3:List UInt8,A3=A2++[93]:=⟨_,rfl⟩
       have lI:I.length=2*d:=by rw [hI,qj]
       have lS:S.length=(jr d ps).length+1:=by rw [eS,List.length_cons]
       have l1:A1.length=I.length+1:=by rw [hA1,List.length_append,List.length_cons,List.length_nil];omega
       have l2:A2.length=S.length+A1.length:=by rw [hA2,List.length_append]
       have c1:∀u,(Op.stringOp .add ⟨#[10]⟩ ⟨I.toArray⟩).run Tryz.prog u=.ok (.string ⟨A1.toArray⟩) u:=fun u=>by rw [hA1];exact bigs.jg [10] I (by simp only [List.length_cons,List.length_nil];omega) u
       have c2:∀u,(Op.stringOp .add ⟨S.toArray⟩ ⟨A1.toArray⟩).run Tryz.prog u=.ok (.string ⟨A2.toArray⟩) u:=fun u=>by rw [hA2];exact bigs.jg S A1 (by omega) u
       have c3:∀u,(Op.stringOp .add ⟨A2.toArray⟩ ⟨#[93]⟩).run Tryz.prog u=.ok (.string ⟨A3.toArray⟩) u:=fun u=>by rw [hA3];exact bigs.jg A2 [93] (by simp only [List.length_cons,List.length_nil];omega) u
       have HA:Hid (A3=91 :: (jq true d ps++[93])):=jb (by rw [eb,hA3,hA2,eS,hA1,hI];simp);have KI1:Hid (Calls Tryz.prog 45 #[.int .i64 (d:Int)] wr fun e w'=>e=.returned (.string ⟨I.toArray⟩)/\w'=wr):=jb (by rw [hI];exact KI.out wr d (by omega));clear hl2 eb hI hA1 hA2 hA3 lI lS l1 l2 hS eS hkN hne HE HPS
       go_wp2_with (go_at_call 45;refine(ja KI1).mono ?_;rintro e w5 ⟨rfl,rfl⟩)
       go_ret;exact⟨congrArg (fun x:List UInt8=>Ending.returned (.string ⟨x.toArray⟩)) HA.out,FB.out⟩
theorem jhz (f:Nat)(F:Nat->List UInt8)(ih:jhp F false f)(w:World)(n:Int)(b:Nat)(s:ByteArray)(pL pE:Option Addr)(L:List V)(cL cE:Nat)(d:Nat)(hd:d+f<=89)(hcl:L.length<=cL/\cL<=maxLen)(hfew:L.length<=100000)
  (rL:RowIn (fun q=>q<w.heap.size) w pL 6 L.length (fun j us=>∃y,L[j]?=some y/\LiesV (fun q=>q<w.heap.size) f w us y)) (hG:∀y∈L,Fits0 f y) (hlen:(91 :: (jq false d (L.map (ji F false f (d+1)))++[93])).length<=100000000) :
  Calls Tryz.prog 23 #[.agg #[.int .i64 5,.int .i64 n,.int .u64 (b:Int),.string s,.slice pL L.length cL,.slice pE 0 cE],.bool false,.int .i64 (d:Int)] w fun e w'=>e=.returned (.string ⟨(91 :: (jq false d (L.map (ji F false f (d+1)))++[93])).toArray⟩)/\Below w.heap.size w w':=by
 have bV:Below w.heap.size w (w.alloc (.cells #[.int .i64 5,.int .i64 n,.int .u64 (b:Int),.string s,.slice pL L.length cL,.slice pE 0 cE] 26)):=(Below.refl _ w).alloc (Nat.le_refl _) _;have hX:=jd w #[.int .i64 5,.int .i64 n,.int .u64 (b:Int),.string s,.slice pL L.length cL,.slice pE 0 cE] 26;obtain⟨W,hW⟩:∃W,W=w.alloc (.cells #[.int .i64 5,.int .i64 n,.int .u64 (b:Int),.string s,.slice pL L.length cL,.slice pE 0 cE] 26):=⟨_,rfl⟩
 obtain⟨n0,hn0⟩:∃n0,n0=W.heap.size:=⟨_,rfl⟩
 have hwn:w.heap.size<n0:=by rw [hn0,hW];simp
 rw [<-hW] at bV hX;obtain⟨ps,hps⟩:∃ps,ps=L.map (ji F false f (d+1)):=⟨_,rfl⟩
 have hpl:ps.length=L.length:=by rw [hps,List.length_map]
 rw [<-hps] at hlen ⊢;obtain⟨i0,hi,hz0,hz1,hz2⟩:=info_parts Xy;have hn63:L.length<=9223372036854775807:=by omega
 -- one round of the first loop
 have R1:Hid (∀(wr:World) (u:Value) (j:Nat) (hj:j<L.length),Below n0 W wr->OwnR 9 1 QT n0 wr u ((ps.take j).map txV)->
   ∃(B o:Nat) (yk yn:Int) (yb:Nat) (ys:ByteArray) (ypL:Option Addr) (ynL ycL:Nat) (ypE:Option Addr) (ynE ycE:Nat),pL=some ⟨B,o,none⟩/\
    (wr.cell? ⟨B,o+j*6,none⟩=some (.int .i64 yk)/\wr.cell? ⟨B,o+j*6+1,none⟩=some (.int .i64 yn)/\wr.cell? ⟨B,o+j*6+2,none⟩=some (.int .u64 (yb:Int))/\wr.cell? ⟨B,o+j*6+3,none⟩=some (.string ys)/\wr.cell? ⟨B,o+j*6+4,none⟩=some (.slice ypL ynL ycL)/\wr.cell? ⟨B,o+j*6+5,none⟩=some (.slice ypE ynE ycE))/\
    Calls Tryz.prog 23 #[.agg #[.int .i64 yk,.int .i64 yn,.int .u64 (yb:Int),.string ys,.slice ypL ynL ycL,.slice ypE ynE ycE],.bool false,.int .i64 ((d:Int)+1)] (wr.alloc (.cells #[.int .i64 yk,.int .i64 yn,.int .u64 (yb:Int),.string ys,.slice ypL ynL ycL,.slice ypE ynE ycE] 26)) (fun e w2=>∃S:ByteArray,e=.returned (.string S)/\
     ∃v' W',(Builtin.append_ #[40,40] 40 #[u,.slice (some ⟨w2.heap.size,0,none⟩) 1 1]).run Tryz.prog (w2.alloc (.cells #[.string S] 9))=.ok v' W'/\OwnR 9 1 QT n0 W' v' ((ps.take (j+1)).map txV)/\Below n0 W W')):=jb fun wr u j hj hb hO=>by
  have hbw:Below w.heap.size w wr:=bV.trans (hb.mono (by omega));obtain⟨B,o,rfl,hBok,hBl,x0,x1,x2,x3,x4,x5,⟨y,hy,hly⟩,k0,k1,k2,k3,k4,k5⟩:=rL.six hj;obtain⟨yk,yn,yb,ys,ypL,ynL,ycL,ypE,ynE,ycE,rfl,rfl,rfl,rfl,rfl,rfl⟩:=LiesV.form hly;have hyL:y∈L:=List.mem_iff_getElem?.2 ⟨j,hy⟩
  have bA:Below wr.heap.size wr (wr.alloc (.cells #[.int .i64 yk,.int .i64 yn,.int .u64 (yb:Int),.string ys,.slice ypL ynL ycL,.slice ypE ynE ycE] 26)):=(Below.refl _ wr).alloc (Nat.le_refl _) _;have bwA:=hbw.trans (bA.mono hbw.size);refine⟨B,o,yk,yn,yb,ys,ypL,ynL,ycL,ypE,ynE,ycE,rfl,⟨(hbw.cell (p:=⟨B,o+j*6,none⟩) hBok).trans k0,(hbw.cell (p:=⟨B,o+j*6+1,none⟩) hBok).trans k1,(hbw.cell (p:=⟨B,o+j*6+2,none⟩) hBok).trans k2,(hbw.cell (p:=⟨B,o+j*6+3,none⟩) hBok).trans k3,(hbw.cell (p:=⟨B,o+j*6+4,none⟩) hBok).trans k4,(hbw.cell (p:=⟨B,o+j*6+5,none⟩) hBok).trans k5⟩,?_⟩;have K:=ih _ (d+1) yk yn yb ys ypL ynL ycL ypE ynE ycE y (hly.kept (ok':=fun q=>q<(wr.alloc (.cells #[.int .i64 yk,.int .i64 yn,.int .u64 (yb:Int),.string ys,.slice ypL ynL ycL,.slice ypE ynE ycE] 26)).heap.size) (fun q hq=>Nat.lt_of_lt_of_le hq bwA.size) bwA.size (fun q hq _=>bwA.block q hq)) (hG y hyL) (by omega)
  have ed:(((d+1:Nat)):Int)=(d:Int)+1:=by omega
  rw [ed] at K;refine K.mono ?_
  rintro e w2 ⟨rfl,b2⟩
  have b02:Below wr.heap.size wr w2:=bA.trans (b2.mono bA.size);have hO2:OwnR 9 1 QT n0 w2 u ((ps.take j).map txV):=hO.only qV (R:=0) (by omega) (zi b02);have hs2:=b02.size;have hsr:=hb.size;obtain⟨v',W',hrun,hO',hg⟩:=OwnR.push (tS:=40) qV Tryz.underlying40 hi hz0 hz1 hz2 rfl (by decide) (by decide) hO2 (by omega) [.string ⟨(ji F false f (d+1) y).toArray⟩] (txV (ji F false f (d+1) y)) rfl (fun u hu=>by rw [List.mem_singleton.1 hu];rfl) rfl (by rw [List.length_map,List.length_take];omega) 40;refine⟨_,rfl,v',W',hrun,?_,hb.trans ((b02.mono (by omega)).trans (hg.to_below (by omega) (fun g hg'=>(hO2.lt g hg').1)))⟩;have hjp:j<ps.length:=by omega
  have ep:ps[j]=ji F false f (d+1) y:=by
   have:ps[j]?=some (ji F false f (d+1) y):=by rw [hps,List.getElem?_map,hy];rfl
   rw [List.getElem?_eq_getElem hjp] at this;injection this
  rw [List.take_succ_eq_append_getElem hjp,List.map_append,ep];exact hO'
 have x0:=hX.cell 0 _ rfl;have x4:=hX.cell 4 _ rfl;have KI:Hid (∀(w1:World) (q:Nat),q<=1000->Calls Tryz.prog 45 #[.int .i64 (q:Int)] w1 fun e w'=>e=.returned (.string ⟨(inL q).toArray⟩)/\w'=w1):=jb fun w1 q hq=>Xx w1 q (by omega)
 have HX:=jb (And.intro bV (And.intro hX hwn));have HN:=jb hn0;have HH:=jb (And.intro hlen (And.intro hpl hd));clear bV hX rL hG ih hlen hwn hps hn0
 go_enter Tryz.func23,Tryz.ntmps23
 go_upto_region 1 with fail
 rw [<-hW];clear hW;go_wp2
 go_loopw [9,44] (fun u i wr=>∃j:Nat,i=.int .i64 (j:Int)/\j<=L.length/\Hid (Below n0 W wr/\OwnR 9 1 QT n0 wr u ((ps.take j).map txV))) (fun _ i _=>L.length - (intOf i).toNat)
 case atStart=>exact⟨0,rfl,Nat.zero_le _,jb ⟨Below.refl _ _,by rw [List.take_zero];exact OwnR.nil _ _ _ _ _⟩⟩
 case round=>
  obtain⟨j,rfl,hj,hh⟩:=hrel
  by_cases hlt:j<L.length
  ·obtain⟨B,o,yk,yn,yb,ys,ypL,ynL,ycL,ypE,ynE,ycE,rfl,⟨k0,k1,k2,k3,k4,k5⟩,K⟩:=R1.out wr _ j hlt hh.out.1 hh.out.2
   have HK:=jb K;clear K hh R1
   go_wp2_with (first
    | (at_builtin;refine Lib.wpList_append_run _ rfl _ _ _ _ rfl _ _ rfl rfl _ _ hrun ?_)
    | (go_at_call 23;refine(ja HK).mono ?_;rintro e w2 ⟨S,rfl,v',W',hrun,hO',hb'⟩;have HO:=jb (And.intro hb' hO');clear hb' hO'))
   go_roundw
   case rel=>exact⟨j+1,rfl,by omega,HO⟩
   case measure=>simp only [intOf];omega
  ·have hjN:j=L.length:=by omega
   obtain⟨hb,hO⟩:=hh.out;have hlp:ps.take j=ps:=by rw [List.take_of_length_le (by omega)]
   rw [hlp] at hO;obtain⟨pr,cr,hu,hc1,hc2,hrow⟩:=hO.row qV;have hXr:=HX.out.2.1.below' hb (by have:=HX.out.2.2;omega);have x5:=hXr.cell 5 _ rfl;have y0:=hXr.cell 0 _ rfl;rw [List.length_map] at hu hc1;obtain⟨N,hN⟩:∃N:Nat,N=ps.length:=⟨_,rfl⟩
   rw [<-hN] at hu hc1;subst hu;have hN63:N<=9223372036854775807:=by omega
   have FB:Hid (Below w.heap.size w wr):=jb (HX.out.1.trans (hb.mono (by have:=HX.out.2.2;omega)))
   have HE:Hid (∀k,k<N->∃B o,pr=some ⟨B,o,none⟩/\∃P:List UInt8,ps[k]?=some P/\wr.cell? ⟨B,o+k,none⟩=some (.string ⟨P.toArray⟩)):=jb fun k hk=>by
    obtain⟨B,o,e1,_,_,hr⟩:=hrow (by rw [List.length_map];omega);obtain⟨us,_,u2,y,hy,hq⟩:=hr k (by rw [List.length_map];omega);rw [List.getElem?_map] at hy;obtain⟨P,hP,rfl⟩:=Option.map_eq_some_iff.1 hy;refine⟨B,o,e1,P,hP,?_⟩;have e2:=u2 0 (by decide);rw [show us=[.string ⟨P.toArray⟩] from hq] at e2;rw [show o+k=o+k*1+0 by omega];exact e2
   have HPS:=jb (And.intro hN hc1);have hNL:N<=100000:=by omega
   have hge:¬(j:Int)<(L.length:Int):=by omega
   have HLEN:=HH.out.1;have hd1:d<=89:=by omega
   have HL2:=jb HLEN;clear R1 hh hO hb hrow hXr hlp hjN HLEN HH hc1 hc2 hpl hcl x0 x4 HN hN;go_wp2
   go_loopw [9,60] (fun u i wq=>u=.slice pr N cr/\i=.int .i64 0/\wq=wr) (fun _ _ _=>0)
   case atStart=>exact⟨by first | rfl | trivial,by first | rfl | trivial,by first | rfl | trivial⟩
   case round=>
    obtain⟨rfl,rfl,rfl⟩:=hrel
    by_cases hz:N=0
    ·have hp0:ps=[]:=List.eq_nil_of_length_eq_zero (by rw [<-HPS.out.1];exact hz)
     have q1:((N:Int) == 0)=true:=by rw [hz];rfl
     have q2:(N:Int)=((0:Nat):Int):=by rw [hz]
     have HQ2:=jb q2;have HZ:=jb hz;clear q2 hz;have c0:∀u,(Op.stringOp .add ⟨#[91]⟩ ⟨#[93]⟩).run Tryz.prog u=.ok (.string ⟨#[91,93]⟩) u:=fun u=>bigs.jg [91] [93] (by decide) u
     clear HE HPS KI HX HL2;go_wp2;go_ret;exact⟨by rw [hp0];rfl,FB.out⟩
    ·have nz:((N:Int) == 0)=false:=beq_false_of_ne (by omega)
     have nz':¬(N:Int)=0:=by omega
     have HZ:=jb hz;clear hz;go_wp2
     go_loopw [14,91] (fun sv i wq=>∃(k:Nat) (S:List UInt8),i=.int .i64 (k:Int)/\k<=N/\sv=.string ⟨S.toArray⟩/\Hid (S=91 :: jk (ps.take k))/\wq=wr) (fun _ i _=>N - (intOf i).toNat)
     case atStart=>exact⟨0,[91],rfl,Nat.zero_le _,rfl,jb rfl,by first | rfl | trivial⟩
     case round=>
      obtain⟨k,S,rfl,hk,rfl,hS,rfl⟩:=hrel
      by_cases hlt2:k<N
      ·obtain⟨B,o,rfl,P,hP,hcell⟩:=HE.out k hlt2
       have hkp:k<ps.length:=by rw [<-HPS.out.1];exact hlt2
       have ep:ps[k]=P:=by rw [List.getElem?_eq_getElem hkp] at hP;injection hP
       have etk:ps.take (k+1)=ps.take k++[P]:=by rw [List.take_succ_eq_append_getElem hkp,ep]
       have hle:=Qx ps (k+1);rw [etk,jU] at hle;have hl2:=HL2.out;have eb:jq false d ps=jk ps:=by unfold jq;rw [if_neg (by decide)]
       rw [eb] at hl2;simp only [List.length_cons,List.length_append,List.length_nil] at hl2;have lS:S.length=(jk (ps.take k)).length+1:=by rw [hS.out,List.length_cons]
       by_cases hk0:k=0
       ·have hpos:¬(k:Int) > 0:=by omega
        have et0:ps.take k=[]:=by rw [hk0];rfl
        rw [et0,if_pos rfl,List.length_append] at hle;obtain⟨A4,hA4⟩:∃A4:List UInt8,A4=S++P:=⟨_,rfl⟩
        have lz:(jk (ps.take k)).length=0:=by rw [et0];rfl
        have c4:∀u,(Op.stringOp .add ⟨S.toArray⟩ ⟨P.toArray⟩).run Tryz.prog u=.ok (.string ⟨A4.toArray⟩) u:=fun u=>by rw [hA4];exact bigs.jg S P (by omega) u
        have HS2:Hid (A4=91 :: jk (ps.take (k+1))):=jb (by
         rw [hA4,hS.out,etk,jU,et0,if_pos rfl];rfl)
        clear hle hl2 eb hA4 lS lz hS etk ep hP hkp et0 hk0;go_wp2;go_roundw
        case rel=>exact⟨k+1,A4,rfl,by omega,rfl,HS2,by first | rfl | trivial⟩
        case measure=>simp only [intOf];omega
       ·have hpos:(k:Int) > 0:=by omega
        have hne:ps.take k≠[]:=fun e=>by
         have:=congrArg List.length e;rw [List.length_take,List.length_nil] at this;omega
        rw [if_neg hne] at hle;simp only [List.length_append,List.length_cons] at hle;obtain⟨A3,hA3⟩:∃A3:List UInt8,A3=[44,32]++P:=⟨_,rfl⟩
        obtain⟨A4,hA4⟩:∃A4:List UInt8,A4=S++A3:=⟨_,rfl⟩
        have l3:A3.length=P.length+2:=by rw [hA3,List.length_append,List.length_cons,List.length_cons,List.length_nil];omega
        have c3:∀u,(Op.stringOp .add ⟨#[44,32]⟩ ⟨P.toArray⟩).run Tryz.prog u=.ok (.string ⟨A3.toArray⟩) u:=fun u=>by rw [hA3];exact bigs.jg [44,32] P (by simp only [List.length_cons,List.length_nil];omega) u
        have c4:∀u,(Op.stringOp .add ⟨S.toArray⟩ ⟨A3.toArray⟩).run Tryz.prog u=.ok (.string ⟨A4.toArray⟩) u:=fun u=>by rw [hA4];exact bigs.jg S A3 (by omega) u
        have HS2:Hid (A4=91 :: jk (ps.take (k+1))):=jb (by
         rw [hA4,hS.out,hA3,etk,jU,if_neg hne];simp)
        clear hle hl2 eb hA3 hA4 lS l3 hS etk ep hP hkp hne;go_wp2;go_roundw
        case rel=>exact⟨k+1,A4,rfl,by omega,rfl,HS2,by first | rfl | trivial⟩
        case measure=>simp only [intOf];omega
      ·have hkN:k=N:=by omega
       have hge2:¬(k:Int)<(N:Int):=by omega
       have eS:S=91 :: jk ps:=by rw [hS.out,hkN,HPS.out.1,List.take_length]
       have hl2:=HL2.out;have eb:jq false d ps=jk ps:=by unfold jq;rw [if_neg (by decide)]
       rw [eb] at hl2;simp only [List.length_cons,List.length_append,List.length_nil] at hl2;obtain⟨A3,hA3⟩:∃A3:List UInt8,A3=S++[93]:=⟨_,rfl⟩
       have lS:S.length=(jk ps).length+1:=by rw [eS,List.length_cons]
       have c3:∀u,(Op.stringOp .add ⟨S.toArray⟩ ⟨#[93]⟩).run Tryz.prog u=.ok (.string ⟨A3.toArray⟩) u:=fun u=>by rw [hA3];exact bigs.jg S [93] (by simp only [List.length_cons,List.length_nil];omega) u
       have HA:Hid (A3=91 :: (jq false d ps++[93])):=jb (by rw [eb,hA3,eS];simp);clear hl2 eb hA3 lS hS eS hkN HE HPS;go_wp2;go_ret;exact⟨congrArg (fun x:List UInt8=>Ending.returned (.string ⟨x.toArray⟩)) HA.out,FB.out⟩
end valus
end Go.Proofs.YtnbfnjhbmeocfaaGreatDoor
