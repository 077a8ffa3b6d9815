/- Of our texts, what this claim reaches. -/
import Derived.Test.YtadaehaemmelfaaDoorPubAB
import Derived.RangeFuncNested
import Derived.RangeFuncBound
import Derived.RangeFuncCalls
import Derived.RangeFuncLeaves
import Derived.Shelf.Abstract
import Derived.Shelf.RegionOpen
import Derived.WalkKit
import Derived.OwnWalkIn
import Derived.TacticsInMore
import Derived.LoopNIn
import Derived.LoopIn
import Derived.Test.YtadaehaemmelfaaDoorChecked
import Derived.Laws.BitsLemmas
import Derived.BigCall
set_option linter.unusedVariables false
set_option maxHeartbeats 4000000
set_option maxRecDepth 100000
namespace Go.Proofs.YtadaehaemmelfaaDoor
namespace valus
open Go.RowKit Go.Shelf
attribute [local go_sem] Oper.semAt_some
abbrev Nd:=Nat×Nat×Int
def Jw (x:Nd):Value:=.agg #[.pointer (some ⟨x.1,x.2.1,none⟩),.int .i64 x.2.2]
def Qa (p:Option Addr)(d k:Nat)(a:Int)(i:Nat):Nd:=((p.getD ⟨0,0,none⟩).block,(p.getD ⟨0,0,none⟩).off+i*d+k,a)
def jC (p:Option Addr)(d k:Nat)(a:Int)(n:Nat):List Nd:=(List.range n).map (Qa p d k a)
theorem J1 (p:Option Addr)(d k:Nat)(a:Int)(n:Nat):jC p d k a (n+1)=jC p d k a n++[Qa p d k a n]:=by simp [jC,List.range_succ]
theorem jy (p:Option Addr)(d k:Nat)(a:Int)(n:Nat):(jC p d k a n).length=n:=by simp [jC]
theorem Y2 {F:Fence}(hd:F.depth=none)(k:Nat):F.room k:=fun d h=>by rw [hd] at h;cases h
theorem YieldAt.any {m:Nat}(m':Nat){P:Program}{l:Nat}{args:Array Value}{W:World}{R:Ending->World->Prop}(h:YieldAt Fence.wide m P l args W R):YieldAt Fence.wide m' P l args W R:=by
 obtain⟨fn,tmps,assign,body,hy,hR⟩:=h;exact⟨fn,tmps,assign,body,hy,⟨hR.1,fun c cs _=>hR.2 c cs (Y2 rfl _)⟩⟩
theorem YieldAt.oneWay {m:Nat}{P:Program}{l:Nat}{args:Array Value}{W:World}{A B:World->Prop}(h:YieldAt Fence.wide m P l args W fun e W'=>(e=.returned (.bool true)/\A W')\/(e=.returned (.bool false)/\B W')) :
  YieldAt Fence.wide m P l args W fun e W'=>∃bb:Bool,e=.returned (.bool bb)/\((bb=true/\A W')\/(bb=false/\B W')) :=
 h.mono fun e W' hr=>hr.elim (fun hr=>⟨true,hr.1,.inl ⟨rfl,hr.2⟩⟩) (fun hr=>⟨false,hr.1,.inr ⟨rfl,hr.2⟩⟩)
theorem jau (l Bn B o:Nat)(ab:Int)(pL pE:Option Addr)(nL cL nE cE:Nat)(hL:nL≠0->∃b q,pL=some ⟨b,q,none⟩)(hE:nE≠0->∃b q,pE=some ⟨b,q,none⟩)(h2:nL<=9223372036854775807)(h4:nE<=9223372036854775807)
  (Kp:World->World->Prop) (hKp:∀X Y,Kp X Y->Y.heap[Bn]?=X.heap[Bn]?/\Y.heap[B]?=X.heap[B]?) (J Jx:List Nd->World->Prop) (hJd:∀pre W,J pre W->J pre W.drew)
  (hY:∀pre x W,J pre W->pre.length<nL+nE->YieldAt Fence.wide 9 Tryd.prog l #[Jw x] W fun e W'=>
   (e=.returned (.bool true)/\J (pre++[x]) W'/\Kp W W')\/(e=.returned (.bool false)/\Jx (pre++[x]) W'))
  (W:World) (hB0:W.cell? ⟨Bn,0,none⟩=some (.pointer (some ⟨B,o,none⟩))) (hB1:W.cell? ⟨Bn,1,none⟩=some (.int .i64 ab)) (hv4:W.cell? ⟨B,o+4,none⟩=some (.slice pL nL cL)) (hv5:W.cell? ⟨B,o+5,none⟩=some (.slice pE nE cE)) (h0:J [] W) :
  CallsIn Fence.wide 9 Tryd.prog 73 #[.func (.yield l) #[] #[],.pointer (some ⟨Bn,0,none⟩)] W fun e W'=>(∃v,e=.returned v)/\
   ((∃ys,ys=jC pL 6 0 (IntKind.i64.wrap (ab+1)) nL++jC pE 7 1 (IntKind.i64.wrap (ab+1)) nE/\J ys W')\/(∃pre,Jx pre W')):=by
 refine callsIn_of_wp Tryd.func73 rfl trivial ?_ rfl
 simp only [Tryd.ntmps73,List.size_toArray,List.length_cons,List.length_nil,Nat.reduceAdd,Nat.reduceSub,Array.replicate_succ,Array.replicate_zero,List.push_toArray,List.append_toArray,List.nil_append,List.cons_append]
 gi_wp2
 gi_loopw [11] (fun i wr=>∃k:Nat,k<=nL/\i=.int .i64 k/\J (jC pL 6 0 (IntKind.i64.wrap (ab+1)) k) wr/\wr.heap[Bn]?=W.heap[Bn]?/\wr.heap[B]?=W.heap[B]?)
  (fun i _=>nL - (intOf i).toNat)
 case atStart=>exact⟨0,Nat.zero_le _,rfl,h0,rfl,rfl⟩
 case round=>
  obtain⟨k,hk,rfl,hJs,hk1,hk2⟩:=hrel;have b0:wr.cell? ⟨Bn,0,none⟩=some (.pointer (some ⟨B,o,none⟩)):=(World.cell?_of_block hk1).trans hB0
  have b1:wr.cell? ⟨Bn,1,none⟩=some (.int .i64 ab):=(World.cell?_of_block hk1).trans hB1
  have v4:wr.cell? ⟨B,o+4,none⟩=some (.slice pL nL cL):=(World.cell?_of_block hk2).trans hv4
  by_cases hlt:k<nL
  ·obtain⟨bL,qL,rfl⟩:=hL (by omega)
   obtain⟨fn,tmps,assign,body,hy,hR⟩:=YieldAt.any 8 (YieldAt.oneWay (hY _ (Qa (some ⟨bL,qL,none⟩) 6 0 (IntKind.i64.wrap (ab+1)) k) wr.drew (hJd _ _ hJs) (by rw [jy];omega)));simp only [Jw,Qa,Option.getD_some,Nat.add_zero] at hy
   gi_wp2
   have hmix:(Tryd.prog).follows .mixedOrders=true:=by kernel_rfl
   gi_region_with_o (refine hR.mono ?_;intro e W3 hres;obtain⟨bb,he,hres⟩:=hres;subst he)
   all_goals
    rcases hres with ⟨rfl,hJ3,hk3⟩ | ⟨rfl,hJx3⟩
    ·gi_wp2
     go_roundw
     case rel=>exact⟨k+1,by omega,by simp,by rw [J1];exact hJ3,(hKp _ _ hk3).1.trans hk1,(hKp _ _ hk3).2.trans hk2⟩
     case measure=>simp [intOf];omega
    ·gi_wp2
     refine bodyPost_ret (results_none rfl _ _ _) rfl ?_
     exact⟨⟨_,rfl⟩,.inr ⟨_,hJx3⟩⟩
  ·obtain rfl:k=nL:=by omega
   have v5:wr.cell? ⟨B,o+5,none⟩=some (.slice pE nE cE):=(World.cell?_of_block hk2).trans hv5
   gi_wp2
   gi_loopw [35] (fun i ws=>∃j:Nat,j<=nE/\i=.int .i64 j/\J (jC pL 6 0 (IntKind.i64.wrap (ab+1)) k++jC pE 7 1 (IntKind.i64.wrap (ab+1)) j) ws/\ws.heap[Bn]?=W.heap[Bn]?/\ws.heap[B]?=W.heap[B]?)
    (fun i _=>nE - (intOf i).toNat)
   case atStart=>exact⟨0,Nat.zero_le _,rfl,by simpa [jC] using hJs,hk1,hk2⟩
   case round=>
    obtain⟨j,hj,rfl,hJt,hj1,hj2⟩:=hrel;have c0:wr.cell? ⟨Bn,0,none⟩=some (.pointer (some ⟨B,o,none⟩)):=(World.cell?_of_block hj1).trans hB0
    have c1:wr.cell? ⟨Bn,1,none⟩=some (.int .i64 ab):=(World.cell?_of_block hj1).trans hB1
    have c5:wr.cell? ⟨B,o+5,none⟩=some (.slice pE nE cE):=(World.cell?_of_block hj2).trans hv5
    by_cases hlt':j<nE
    ·obtain⟨bE,qE,rfl⟩:=hE (by omega)
     obtain⟨fn,tmps,assign,body,hy,hR⟩:=YieldAt.any 8 (YieldAt.oneWay (hY _ (Qa (some ⟨bE,qE,none⟩) 7 1 (IntKind.i64.wrap (ab+1)) j) wr.drew (hJd _ _ hJt) (by rw [List.length_append,jy,jy];omega)));simp only [Jw,Qa,Option.getD_some] at hy
     gi_wp2
     have hmix:(Tryd.prog).follows .mixedOrders=true:=by kernel_rfl
     gi_region_with_o (refine hR.mono ?_;intro e W3 hres;obtain⟨bb,he,hres⟩:=hres;subst he)
     all_goals
      rcases hres with ⟨rfl,hJ3,hk3⟩ | ⟨rfl,hJx3⟩
      ·gi_wp2
       go_roundw
       case rel=>exact⟨j+1,by omega,by simp,by rw [J1,<-List.append_assoc];exact hJ3,(hKp _ _ hk3).1.trans hj1,(hKp _ _ hk3).2.trans hj2⟩
       case measure=>simp [intOf];omega
      ·gi_wp2
       refine bodyPost_ret (results_none rfl _ _ _) rfl ?_
       exact⟨⟨_,rfl⟩,.inr ⟨_,hJx3⟩⟩
    ·obtain rfl:j=nE:=by omega
     gi_wp2
     go_end0;exact⟨⟨_,rfl⟩,.inl ⟨_,rfl,hJt⟩⟩
theorem XI (Bn B o:Nat)(ab:Int)(pL pE:Option Addr)(nL cL nE cE:Nat)(hL:nL≠0->∃b q,pL=some ⟨b,q,none⟩)(hE:nE≠0->∃b q,pE=some ⟨b,q,none⟩)(h2:nL<=9223372036854775807)(h4:nE<=9223372036854775807)
  (Kp:World->World->Prop) (hKp:∀X Y,Kp X Y->Y.heap[Bn]?=X.heap[Bn]?/\Y.heap[B]?=X.heap[B]?) (w:World) (hBn:Bn<w.heap.size) (hB:B<w.heap.size)
  (hB0:w.cell? ⟨Bn,0,none⟩=some (.pointer (some ⟨B,o,none⟩))) (hB1:w.cell? ⟨Bn,1,none⟩=some (.int .i64 ab)) (hv4:w.cell? ⟨B,o+4,none⟩=some (.slice pL nL cL)) (hv5:w.cell? ⟨B,o+5,none⟩=some (.slice pE nE cE)) :
  SeqStopsK Fence.wide 8 Tryd.prog 73 #[.pointer (some ⟨Bn,0,none⟩)] (fun x:Nd=>#[Jw x]) Kp (fun ys=>ys=jC pL 6 0 (IntKind.i64.wrap (ab+1)) nL++jC pE 7 1 (IntKind.i64.wrap (ab+1)) nE) (fun _=>True) (nL+nE) w:=fun l J Jx W hW hJ _ hY h0=>by
 refine(callsIn_wide.2 (callsIn_wide.1 (jau l Bn B o ab pL pE nL cL nE cE hL hE h2 h4 Kp hKp J Jx (fun pre X hX=>hJ pre X X.drew none hX ⟨rfl,rfl,rfl,Nat.le_refl _,fun _ _ _=>rfl⟩ (fun r e=>by cases e)) (fun pre x X hX hl=>YieldAt.any 9 (hY pre x X hX hl)) W ((hW.cell (p:=⟨Bn,0,none⟩) hBn).trans hB0) ((hW.cell (p:=⟨Bn,1,none⟩) hBn).trans hB1) ((hW.cell (p:=⟨B,o+4,none⟩) hB).trans hv4) ((hW.cell (p:=⟨B,o+5,none⟩) hB).trans hv5) h0))).mono ?_
 rintro e W' ⟨hv,h | ⟨pre,h⟩⟩
 ·exact⟨hv,.inl h⟩
 ·exact⟨hv,.inr ⟨pre,trivial,h⟩⟩
open Go.RowKit
theorem ZZ:∀n:Int,0<=n->n<2 ^ 64->IntKind.u64.wrap n=n:=fun n h1 h2=>by
 simp [IntKind.wrap,IntKind.bits,IntKind.signed];omega
def qd (b:Nat):Nat×Int×Int :=
 if b / 4503599627370496 % 2048=2047 then (if b % 4503599627370496=0 then (0,0,1) else (0,0,2))
 else if b / 4503599627370496 % 2048=0 then (b % 4503599627370496,-1074,0) else (b % 4503599627370496+4503599627370496,((b / 4503599627370496 % 2048:Nat):Int) - 1075,0)
theorem jaN (x:Nat)(hx:x<18446744073709551616):Go.bits .and .u64 (x:Int) 2047=((x % 2048:Nat):Int):=by
 have h:=bits_mask .u64 64 (by decide) ZZ 11 (by decide) (x:Int) (by omega) (by omega);have e:((2:Int) ^ 11 - 1)=2047:=by decide
 rw [e] at h;rw [h];omega
theorem ja9 (x:Nat)(hx:x<18446744073709551616):Go.bits .and .u64 (x:Int) 4503599627370495=((x % 4503599627370496:Nat):Int):=by
 have h:=bits_mask .u64 64 (by decide) ZZ 52 (by decide) (x:Int) (by omega) (by omega);have e:((2:Int) ^ 52 - 1)=4503599627370495:=by decide
 rw [e] at h;rw [h];omega
theorem jaa (x:Nat)(hx:x<4503599627370496):Go.bits .or .u64 4503599627370496 (x:Int)=((x+4503599627370496:Nat):Int):=by
 have h:=bits_join .u64 64 (by decide) ZZ 52 4503599627370496 (x:Int) (by omega) (by omega) (by omega) (by omega) (by omega) (by omega);rw [h];omega
theorem jbn (x y:Value)(a b:Int)(h:a=b):Ending.returned (.tuple #[x,.int .i64 a,y])=Ending.returned (.tuple #[x,.int .i64 b,y]):=by rw [h]
theorem Yp (w:World)(b:Nat)(hb:b<18446744073709551616) :
  Calls Tryd.prog 74 #[.int .u64 b] w fun e w'=>e=.returned (.tuple #[.int .u64 (qd b).1,.int .i64 (qd b).2.1,.int .i64 (qd b).2.2])/\w'=w:=by
 obtain⟨s,hs⟩:∃s,s=b / 4503599627370496:=⟨_,rfl⟩
 have n0:(b:Int) / 4503599627370496=(s:Int):=by omega
 have hs2:s<18446744073709551616:=by omega
 have n1:=ja9 b hb;have n2:=jaN s hs2;have h1:b % 4503599627370496<4503599627370496:=by omega
 have h2:s % 2048<2048:=by omega
 have n3:=jaa _ h1;unfold qd;rw [<-hs];clear hs hs2;generalize b % 4503599627370496=f at *;generalize s % 2048=e at *
 by_cases c1:e=2047
 ·rw [if_pos c1]
  subst c1
  by_cases c2:f=0
  ·rw [if_pos c2]
   subst c2
   go_enter Tryd.func74,Tryd.ntmps74
   go_wp2
   go_ret3
   exact⟨rfl,rfl⟩
  ·rw [if_neg c2]
   have c3:((f:Int) == 0)=false:=beq_false_of_ne (by omega)
   go_enter Tryd.func74,Tryd.ntmps74
   go_wp2
   go_ret3
   exact⟨rfl,rfl⟩
 ·rw [if_neg c1]
  have c4:((e:Int) == 2047)=false:=beq_false_of_ne (by omega)
  by_cases c2:e=0
  ·rw [if_pos c2]
   subst c2
   go_enter Tryd.func74,Tryd.ntmps74
   go_wp2
   go_ret3
   exact⟨rfl,rfl⟩
  ·rw [if_neg c2]
   have c3:((e:Int) == 0)=false:=beq_false_of_ne (by omega)
   go_enter Tryd.func74,Tryd.ntmps74
   go_wp2
   go_ret3
   refine⟨?_,rfl⟩;exact jbn _ _ _ _ (by omega)
theorem Y7 (w:World)(b:Nat)(hb:b<18446744073709551616) :
  Calls Tryd.prog 76 #[.int .u64 b] w fun e w'=>e=.returned (.tuple #[.int .u64 (qd b).1,.int .i64 (qd b).2.1,.int .i64 (qd b).2.2])/\w'=w:=by
 have n1:(b:Int) % 4503599627370496=((b % 4503599627370496:Nat):Int):=by omega
 have n2:(b:Int) / 4503599627370496 % 2048=((b / 4503599627370496 % 2048:Nat):Int):=by omega
 have h1:b % 4503599627370496<4503599627370496:=by omega
 have h2:b / 4503599627370496 % 2048<2048:=by omega
 unfold qd;generalize b % 4503599627370496=f at *;generalize b / 4503599627370496 % 2048=e at *
 by_cases c1:e=2047
 ·rw [if_pos c1]
  subst c1
  by_cases c2:f=0
  ·rw [if_pos c2]
   subst c2
   go_enter Tryd.func76,Tryd.ntmps76
   go_wp2
   go_ret3
   exact⟨rfl,rfl⟩
  ·rw [if_neg c2]
   have c3:((f:Int) == 0)=false:=beq_false_of_ne (by omega)
   go_enter Tryd.func76,Tryd.ntmps76
   go_wp2
   go_ret3
   exact⟨rfl,rfl⟩
 ·rw [if_neg c1]
  have c4:((e:Int) == 2047)=false:=beq_false_of_ne (by omega)
  by_cases c2:e=0
  ·rw [if_pos c2]
   subst c2
   go_enter Tryd.func76,Tryd.ntmps76
   go_wp2
   go_ret3
   refine⟨?_,rfl⟩;rw [<-n1];rfl
  ·rw [if_neg c2]
   have c3:((e:Int) == 0)=false:=beq_false_of_ne (by omega)
   go_enter Tryd.func76,Tryd.ntmps76
   go_wp2
   go_ret3
   refine⟨?_,rfl⟩
   first | rfl | (congr 3<;>omega)
end valus
end Go.Proofs.YtadaehaemmelfaaDoor
