/- Of our texts, what this claim reaches. -/
import Derived.Test.YtnbfnjhbmeocfaaGreatDoorPstBW
import Derived.Deep.RegionHeld3
import Derived.Test.YtnbfnjhbmeocfaaGreatDoorPstBV
import Derived.Test.YtnbfnjhbmeocfaaGreatDoorPstAQ
import Derived.Test.YtnbfnjhbmeocfaaGreatDoorPstBC
import Derived.Test.YtnbfnjhbmeocfaaGreatDoorPstBU
set_option linter.unusedVariables false
set_option maxHeartbeats 16000000
set_option maxRecDepth 100000
namespace Go.Proofs.YtnbfnjhbmeocfaaGreatDoor
namespace valus
open Go.RowKit
open bigs (jv)
theorem J9 {P:Program}{w:World}{ops:Array Oper}{o:Oper}{a:Act}{K:Act->World->Prop}{Q:Exit->Act->World->Prop}{E:Prop}(hgd:o.guard=none)(s x:Operand)(t tn:TypeId)
  (ho:o.op=.call { callee:=.builtin .append,args:=#[s,x],argTypes:=#[t,tn] }) (vs vx:Value) (hs:a.eval s=vs) (hx:a.eval x=vx)
  (v':Value) (w':World) (hr:(Builtin.append_ #[t,tn] o.type #[vs,vx]).run P w=.ok v' w') (h:K (a.put o.dst v') w'):if Region.wanted o (yielded ops a.tmps)=true then Oper.wp P o a w K Q else E:=by
 have hw:Region.wanted o (yielded ops a.tmps)=true:=by simp [Region.wanted,hgd]
 rw [if_pos hw];exact Lib.wp_append_run w s x t tn ho vs vx hs hx v' w' hr h
theorem jfv (f:Nat)(F:Nat->List UInt8)(hF:∀b,b<18446744073709551616->jv b (F b))(ih:jhp F true f)(w:World)(n:Int)(b:Nat)(s:ByteArray)(pL pE:Option Addr)(E:List V)(cL cE:Nat)(d:Nat)(hd:d+f<=89)(hcl:E.length<=cE/\cE<=maxLen)(hfew:E.length<=100000)
  (rE:RowIn (fun q=>q<w.heap.size) w pE 7 E.length (fun j us=>∃(key:ByteArray) (y:V) (xs:List Value),E[j]?=some (ent key.data.toList y)/\us=.string key :: xs/\key.size<=maxLen/\LiesV (fun q=>q<w.heap.size) f w xs y)) (hG:∀e∈E,Fits0 f (jz e).2) (hkg:∀e∈E,(jz e).1.length<=100/\utfs.bad (jz e).1<0) (hlen:(123 :: (jq true d (E.map (fun e=>qv (jz e).1 (ji F true f (d+1) (jz e).2)))++[125])).length<=100000000) :
  Calls Tryz.prog 23 #[.agg #[.int .i64 6,.int .i64 n,.int .u64 (b:Int),.string s,.slice pL 0 cL,.slice pE E.length cE],.bool true,.int .i64 (d:Int)] w fun e w'=>e=.returned (.string ⟨(123 :: (jq true d (E.map (fun e=>qv (jz e).1 (ji F true f (d+1) (jz e).2)))++[125])).toArray⟩)/\Below w.heap.size w w':=by
 have bV:Below w.heap.size w (w.alloc (.cells #[.int .i64 6,.int .i64 n,.int .u64 (b:Int),.string s,.slice pL 0 cL,.slice pE E.length cE] 26)):=(Below.refl _ w).alloc (Nat.le_refl _) _;have hX:=jd w #[.int .i64 6,.int .i64 n,.int .u64 (b:Int),.string s,.slice pL 0 cL,.slice pE E.length cE] 26;obtain⟨W,hW⟩:∃W,W=w.alloc (.cells #[.int .i64 6,.int .i64 n,.int .u64 (b:Int),.string s,.slice pL 0 cL,.slice pE E.length cE] 26):=⟨_,rfl⟩
 obtain⟨n0,hn0⟩:∃n0,n0=W.heap.size:=⟨_,rfl⟩
 have hwn:w.heap.size<n0:=by rw [hn0,hW];simp
 rw [<-hW] at bV hX;obtain⟨ps,hps⟩:∃ps,ps=E.map (fun e=>qv (jz e).1 (ji F true f (d+1) (jz e).2)):=⟨_,rfl⟩
 have hpl:ps.length=E.length:=by rw [hps,List.length_map]
 rw [<-hps] at hlen ⊢;obtain⟨i0,hi,hz0,hz1,hz2⟩:=info_parts Xy;have hn63:E.length<=9223372036854775807:=by omega
 -- one round of the second loop
 have R2:Hid (∀(wr:World) (u:Value) (j:Nat) (hj:j<E.length),Below n0 W wr->OwnR 9 1 QT n0 wr u ((ps.take j).map txV)->
   ∃(B o:Nat) (key:ByteArray) (yk yn:Int) (yb:Nat) (ys:ByteArray) (ypL:Option Addr) (ynL ycL:Nat) (ypE:Option Addr) (ynE ycE:Nat) (KT TT A1 A2:List UInt8),pE=some ⟨B,o,none⟩/\
    (wr.cell? ⟨B,o+j*7,none⟩=some (.string key)/\wr.cell? ⟨B,o+j*7+1,none⟩=some (.int .i64 yk)/\wr.cell? ⟨B,o+j*7+2,none⟩=some (.int .i64 yn)/\wr.cell? ⟨B,o+j*7+3,none⟩=some (.int .u64 (yb:Int))/\wr.cell? ⟨B,o+j*7+4,none⟩=some (.string ys)/\wr.cell? ⟨B,o+j*7+5,none⟩=some (.slice ypL ynL ycL)/\wr.cell? ⟨B,o+j*7+6,none⟩=some (.slice ypE ynE ycE))/\
    (∀w1,Below wr.heap.size wr w1->Calls Tryz.prog 44 #[.string key] w1 fun e w'=>e=.returned (.string ⟨KT.toArray⟩)/\Below w1.heap.size w1 w')/\
    (∀w1,Below wr.heap.size wr w1->Calls Tryz.prog 23 #[.agg #[.int .i64 yk,.int .i64 yn,.int .u64 (yb:Int),.string ys,.slice ypL ynL ycL,.slice ypE ynE ycE],.bool true,.int .i64 ((d:Int)+1)] w1 fun e w'=>e=.returned (.string ⟨TT.toArray⟩)/\Below w1.heap.size w1 w')/\
    (∀u,(Op.stringOp .add ⟨KT.toArray⟩ ⟨#[58,32]⟩).run Tryz.prog u=.ok (.string ⟨A1.toArray⟩) u)/\(∀u,(Op.stringOp .add ⟨A1.toArray⟩ ⟨TT.toArray⟩).run Tryz.prog u=.ok (.string ⟨A2.toArray⟩) u)/\
    (∀w2,Below wr.heap.size wr w2->∃v' W',(Builtin.append_ #[40,40] 40 #[u,.slice (some ⟨w2.heap.size,0,none⟩) 1 1]).run Tryz.prog (w2.alloc (.cells #[.string ⟨A2.toArray⟩] 9))=.ok v' W'/\Hid (Below n0 W W'/\OwnR 9 1 QT n0 W' v' ((ps.take (j+1)).map txV))/\(∀i,wr.heap.size<w2.heap.size->W'.cell? ⟨wr.heap.size,i,none⟩=w2.cell? ⟨wr.heap.size,i,none⟩))):=jb fun wr u j hj hb hO=>by
  have hbw:Below w.heap.size w wr:=bV.trans (hb.mono (by omega));obtain⟨B,o,rfl,hBok,hBl,x0,x1,x2,x3,x4,x5,x6,⟨key,y,xs,hy,hus,hks,hly⟩,k0,k1,k2,k3,k4,k5,k6⟩:=rE.seven hj;injection hus with hu0 hus;subst hu0;subst hus;obtain⟨yk,yn,yb,ys,ypL,ynL,ycL,ypE,ynE,ycE,rfl,rfl,rfl,rfl,rfl,rfl⟩:=LiesV.form hly;have hyE:ent key.data.toList y∈E:=List.mem_iff_getElem?.2 ⟨j,hy⟩
  have hGy:=hG _ hyE;have hky:=hkg _ hyE;rw [qk] at hGy hky;simp only at hGy hky
  have hkz:key.size<=1048576:=by
   have e:key.data.toList.length=key.size:=by rw [Array.length_toList];rfl
   omega
  have hjp:j<ps.length:=by omega
  have ep:ps[j]=qv key.data.toList (ji F true f (d+1) y):=by
   have:ps[j]?=some (qv key.data.toList (ji F true f (d+1) y)):=by rw [hps,List.getElem?_map,hy];rfl
   rw [List.getElem?_eq_getElem hjp] at this;injection this
  obtain⟨_,_,_,_,_,_,hkl⟩:=XA hky.2;have htl:=zx hF true f (d+1) y hGy.i hGy.g hGy.z (by omega);have hno:=hGy.n;obtain⟨A2,hA2⟩:∃A2:List UInt8,A2=(escs.JC key.data.toList++[58,32])++ji F true f (d+1) y:=⟨_,rfl⟩
  refine⟨B,o,key,yk,yn,yb,ys,ypL,ynL,ycL,ypE,ynE,ycE,escs.JC key.data.toList,ji F true f (d+1) y,escs.JC key.data.toList++[58,32],A2,rfl,⟨(hbw.cell (p:=⟨B,o+j*7,none⟩) hBok).trans k0,(hbw.cell (p:=⟨B,o+j*7+1,none⟩) hBok).trans k1,(hbw.cell (p:=⟨B,o+j*7+2,none⟩) hBok).trans k2,(hbw.cell (p:=⟨B,o+j*7+3,none⟩) hBok).trans k3,(hbw.cell (p:=⟨B,o+j*7+4,none⟩) hBok).trans k4,(hbw.cell (p:=⟨B,o+j*7+5,none⟩) hBok).trans k5,(hbw.cell (p:=⟨B,o+j*7+6,none⟩) hBok).trans k6⟩,fun w1 h1=>escs.Xe w1 key hkz hky.2,fun w1 h1=>?_,fun u=>bigs.jg _ [58,32] (by simp only [List.length_cons,List.length_nil];omega) u,fun u=>by rw [hA2];exact bigs.jg _ _ (by simp only [List.length_append,List.length_cons,List.length_nil];omega) u,fun w2 h2=>?_⟩
  ·have bw1:=hbw.trans (h1.mono hbw.size)
   have K:=ih w1 (d+1) yk yn yb ys ypL ynL ycL ypE ynE ycE y (hly.kept (ok':=fun q=>q<w1.heap.size) (fun q hq=>Nat.lt_of_lt_of_le hq bw1.size) bw1.size (fun q hq _=>bw1.block q hq)) hGy (by omega);have ed:(((d+1:Nat)):Int)=(d:Int)+1:=by omega
   rw [ed] at K;exact K
  ·have hO2:OwnR 9 1 QT n0 w2 u ((ps.take j).map txV):=hO.only qV (R:=0) (by omega) (zi h2)
   have hs2:=h2.size;have hsr:=hb.size;obtain⟨v',W',hrun,hO',hg⟩:=OwnR.push (tS:=40) qV Tryz.underlying40 hi hz0 hz1 hz2 rfl (by decide) (by decide) hO2 (by omega) [.string ⟨A2.toArray⟩] (txV A2) rfl (fun u hu=>by rw [List.mem_singleton.1 hu];rfl) rfl (by rw [List.length_map,List.length_take];omega) 40;refine⟨v',W',hrun,jb ⟨hb.trans ((h2.mono (by omega)).trans (hg.to_below (by omega) (fun g hg'=>(hO2.lt g hg').1))),?_⟩,fun i hlt=>World.cell?_of_block (hg.block hlt (fun e=>by have:=(hO.lt _ e.symm).2;omega)).1⟩;rw [List.take_succ_eq_append_getElem hjp,List.map_append,ep];have e:qv key.data.toList (ji F true f (d+1) y)=A2:=by rw [hA2];unfold qv;simp
   rw [e];exact hO'
 have x0:=hX.cell 0 _ rfl;have x4:=hX.cell 4 _ rfl;have mixed:Tryz.prog.follows Departure.mixedOrders=true:=by kernel_rfl
 have KI:Hid (∀(w1:World) (q:Nat),q<=1000->Calls Tryz.prog 45 #[.int .i64 (q:Int)] w1 fun e w'=>e=.returned (.string ⟨(inL q).toArray⟩)/\w'=w1):=jb fun w1 q hq=>Xx w1 q (by omega)
 have HX:=jb (And.intro bV (And.intro hX hwn));have HN:=jb hn0;have HH:=jb (And.intro hlen (And.intro hpl hd));clear bV rE hG hkg ih hlen hwn hps hn0 hF
 go_enter Tryz.func23,Tryz.ntmps23
 go_upto_region 1 with fail
 rw [<-hW];clear hW;go_wp2
 go_loopw [9,44] (fun u i wq=>u=.slice none 0 0/\i=.int .i64 0/\wq=W) (fun _ _ _=>0)
 case atStart=>exact⟨by first | rfl | trivial,by first | rfl | trivial,by first | rfl | trivial⟩
 case round=>
  obtain⟨rfl,rfl,hwq⟩:=hrel;rw [hwq];clear hwq;have z5:=hX.cell 5 _ rfl;go_wp2
  go_loopw [9,60] (fun u i wr=>∃j:Nat,i=.int .i64 (j:Int)/\j<=E.length/\Hid (Below n0 W wr/\OwnR 9 1 QT n0 wr u ((ps.take j).map txV))) (fun _ i _=>E.length - (intOf i).toNat)
  case atStart=>exact⟨0,rfl,Nat.zero_le _,jb ⟨Below.refl _ _,by rw [List.take_zero];exact OwnR.nil _ _ _ _ _⟩⟩
  case round=>
  obtain⟨j,rfl,hj,hh⟩:=hrel
  by_cases hlt:j<E.length
  ·obtain⟨B,o,key,yk,yn,yb,ys,ypL,ynL,ycL,ypE,ynE,ycE,KT,TT,A1,A2,rfl,⟨k0,k1,k2,k3,k4,k5,k6⟩,KK,KS,c1,c2,HP⟩:=R2.out wr _ j hlt hh.out.1 hh.out.2
   have bA:Below wr.heap.size wr (wr.alloc (.cells #[.string key,.int .i64 yk,.int .i64 yn,.int .u64 (yb:Int),.string ys,.slice ypL ynL ycL,.slice ypE ynE ycE] 44)):=(Below.refl _ wr).alloc (Nat.le_refl _) _;have hZ:=jd wr #[.string key,.int .i64 yk,.int .i64 yn,.int .u64 (yb:Int),.string ys,.slice ypL ynL ycL,.slice ypE ynE ycE] 44;obtain⟨WA,hWA⟩:∃WA,WA=wr.alloc (.cells #[.string key,.int .i64 yk,.int .i64 yn,.int .u64 (yb:Int),.string ys,.slice ypL ynL ycL,.slice ypE ynE ycE] 44):=⟨_,rfl⟩
   rw [<-hWA] at bA hZ;have bD:Below wr.heap.size wr WA.drew:=Below.drew bA;have HKK:=jb (KK WA.drew bD);have HPP:=jb HP;have E0:WA.drew.cell? ⟨wr.heap.size,0,none⟩=some (.string key):=hZ.cell 0 _ rfl
   have E1:WA.drew.cell? ⟨wr.heap.size,1,none⟩=some (.int .i64 yk):=hZ.cell 1 _ rfl
   have E2:WA.drew.cell? ⟨wr.heap.size,2,none⟩=some (.int .i64 yn):=hZ.cell 2 _ rfl
   have E3:WA.drew.cell? ⟨wr.heap.size,3,none⟩=some (.int .u64 (yb:Int)):=hZ.cell 3 _ rfl
   have E4:WA.drew.cell? ⟨wr.heap.size,4,none⟩=some (.string ys):=hZ.cell 4 _ rfl
   have E5:WA.drew.cell? ⟨wr.heap.size,5,none⟩=some (.slice ypL ynL ycL):=hZ.cell 5 _ rfl
   have E6:WA.drew.cell? ⟨wr.heap.size,6,none⟩=some (.slice ypE ynE ycE):=hZ.cell 6 _ rfl
   have hsz:wr.heap.size<WA.drew.heap.size:=by rw [hWA];show wr.heap.size<(wr.alloc _).heap.size;simp
   have DD:Hid (∀w1,Below WA.drew.heap.size WA.drew w1->w1.cell? ⟨wr.heap.size,0,none⟩=some (.string key)/\w1.cell? ⟨wr.heap.size,1,none⟩=some (.int .i64 yk)/\w1.cell? ⟨wr.heap.size,2,none⟩=some (.int .i64 yn)/\w1.cell? ⟨wr.heap.size,3,none⟩=some (.int .u64 (yb:Int))/\w1.cell? ⟨wr.heap.size,4,none⟩=some (.string ys)/\w1.cell? ⟨wr.heap.size,5,none⟩=some (.slice ypL ynL ycL)/\w1.cell? ⟨wr.heap.size,6,none⟩=some (.slice ypE ynE ycE)):=jb fun w1 h1=>
    ⟨(h1.cell (p:=⟨wr.heap.size,0,none⟩) hsz).trans E0,(h1.cell (p:=⟨wr.heap.size,1,none⟩) hsz).trans E1,(h1.cell (p:=⟨wr.heap.size,2,none⟩) hsz).trans E2,(h1.cell (p:=⟨wr.heap.size,3,none⟩) hsz).trans E3,(h1.cell (p:=⟨wr.heap.size,4,none⟩) hsz).trans E4,(h1.cell (p:=⟨wr.heap.size,5,none⟩) hsz).trans E5,(h1.cell (p:=⟨wr.heap.size,6,none⟩) hsz).trans E6⟩
   have HKS:Hid (∀w1,Below WA.drew.heap.size WA.drew w1->Calls Tryz.prog 23 #[.agg #[.int .i64 yk,.int .i64 yn,.int .u64 (yb:Int),.string ys,.slice ypL ynL ycL,.slice ypE ynE ycE],.bool true,.int .i64 ((d:Int)+1)] w1 fun e w'=>e=.returned (.string ⟨TT.toArray⟩)/\Below wr.heap.size wr w'/\wr.heap.size<w'.heap.size/\w'.cell? ⟨wr.heap.size,0,none⟩=some (.string key)/\w'.cell? ⟨wr.heap.size,1,none⟩=some (.int .i64 yk)/\w'.cell? ⟨wr.heap.size,2,none⟩=some (.int .i64 yn)/\w'.cell? ⟨wr.heap.size,3,none⟩=some (.int .u64 (yb:Int))/\w'.cell? ⟨wr.heap.size,4,none⟩=some (.string ys)/\w'.cell? ⟨wr.heap.size,5,none⟩=some (.slice ypL ynL ycL)/\w'.cell? ⟨wr.heap.size,6,none⟩=some (.slice ypE ynE ycE)):=jb fun w1 h1=>by
    have b1:=bD.trans (h1.mono bD.size);refine(KS w1 b1).mono ?_
    rintro e w2 ⟨he,h2⟩
    exact⟨he,b1.trans (h2.mono b1.size),Nat.lt_of_lt_of_le hsz (Nat.le_trans h1.size h2.size),ja DD w2 (h1.trans (h2.mono h1.size))⟩
   have HWA:=jb hWA;clear KK KS HP hh R2 hZ bA bD hsz hWA;have d63:d<=1000:=by have:=HH.out.2.2;omega
   have hwr:Hid (IntKind.i64.wrap ((d:Int)+1)=(d:Int)+1):=jb (by have:=d63;simp [IntKind.wrap,IntKind.bits,IntKind.signed];omega)
   go_upto_region 24 with fail
   rw [<-HWA.out];clear k0 k1 k2 k3 k4 k5 k6 HWA
   go_region_held3 (fun w'=>w'.cell? ⟨wr.heap.size,0,none⟩=some (.string key)/\w'.cell? ⟨wr.heap.size,1,none⟩=some (.int .i64 yk)/\w'.cell? ⟨wr.heap.size,2,none⟩=some (.int .i64 yn)/\w'.cell? ⟨wr.heap.size,3,none⟩=some (.int .u64 (yb:Int))/\w'.cell? ⟨wr.heap.size,4,none⟩=some (.string ys)/\w'.cell? ⟨wr.heap.size,5,none⟩=some (.slice ypL ynL ycL)/\w'.cell? ⟨wr.heap.size,6,none⟩=some (.slice ypE ynE ycE)) (go_keep) (first
    | ((refine J9 (by rfl) _ _ _ _ (by rfl) _ _ (by rfl) (by rfl) _ _ hrun ?_;have H0:=(HC 0 hl2).trans G0;have H1:=(HC 1 hl2).trans G1;have H2:=(HC 2 hl2).trans G2;have H3:=(HC 3 hl2).trans G3;have H4:=(HC 4 hl2).trans G4;have H5:=(HC 5 hl2).trans G5;have H6:=(HC 6 hl2).trans G6;clear HC hl2))
    | (go_at_call 44;refine(ja HKK).mono ?_;rintro e w1 ⟨rfl,b1⟩;obtain⟨F0,F1,F2,F3,F4,F5,F6⟩:=ja DD w1 b1;have KS1:=jb (HKS.out w1 b1);clear b1)
    | (go_at_call 23;rw [hwr.out];refine(ja KS1).mono ?_;rintro e w2 ⟨rfl,b2,hl2,G0,G1,G2,G3,G4,G5,G6⟩;obtain⟨v',W',hrun,HO,HC⟩:=HPP.out w2 b2;clear b2))
   all_goals
    go_wp2;go_roundw
    case rel=>exact⟨j+1,rfl,by omega,HO⟩
    case measure=>simp only [intOf];omega
  ·have hjN:j=E.length:=by omega
   obtain⟨hb,hO⟩:=hh.out;have hlp:ps.take j=ps:=by rw [List.take_of_length_le (by omega)]
   rw [hlp] at hO;obtain⟨pr,cr,hu,hc1,hc2,hrow⟩:=hO.row qV;have hXr:=HX.out.2.1.below' hb (by have:=HX.out.2.2;omega);have x5:=hXr.cell 5 _ rfl;have y0:=hXr.cell 0 _ rfl;rw [List.length_map] at hu hc1;obtain⟨N,hN⟩:∃N:Nat,N=ps.length:=⟨_,rfl⟩
   rw [<-hN] at hu hc1;subst hu;have hN63:N<=9223372036854775807:=by omega
   have FB:Hid (Below w.heap.size w wr):=jb (HX.out.1.trans (hb.mono (by have:=HX.out.2.2;omega)))
   have HE:Hid (∀k,k<N->∃B o,pr=some ⟨B,o,none⟩/\∃P:List UInt8,ps[k]?=some P/\wr.cell? ⟨B,o+k,none⟩=some (.string ⟨P.toArray⟩)):=jb fun k hk=>by
    obtain⟨B,o,e1,_,_,hr⟩:=hrow (by rw [List.length_map];omega);obtain⟨us,_,u2,y,hy,hq⟩:=hr k (by rw [List.length_map];omega);rw [List.getElem?_map] at hy;obtain⟨P,hP,rfl⟩:=Option.map_eq_some_iff.1 hy;refine⟨B,o,e1,P,hP,?_⟩;have e2:=u2 0 (by decide);rw [show us=[.string ⟨P.toArray⟩] from hq] at e2;rw [show o+k=o+k*1+0 by omega];exact e2
   have HPS:=jb (And.intro hN hc1);have hNL:N<=100000:=by omega
   have hge:¬(j:Int)<(E.length:Int):=by omega
   have HLEN:=HH.out.1;have hd1:d<=89:=by omega
   have HL2:=jb HLEN;clear R2 hh hO hb hrow hXr hlp hjN HLEN HH hc1 hc2 hpl hcl x0 x4 HN hN
   by_cases hz:N=0
   ·have hp0:ps=[]:=List.eq_nil_of_length_eq_zero (by rw [<-HPS.out.1];exact hz)
    have q1:((N:Int) == 0)=true:=by rw [hz];rfl
    have q2:(N:Int)=((0:Nat):Int):=by rw [hz]
    have HQ2:=jb q2;have HZ:=jb hz;clear q2 hz;have c0:∀u,(Op.stringOp .add ⟨#[123]⟩ ⟨#[125]⟩).run Tryz.prog u=.ok (.string ⟨#[123,125]⟩) u:=fun u=>bigs.jg [123] [125] (by decide) u
    clear HE HPS KI HX HL2;go_wp2;go_ret;exact⟨by first | rfl | (rw [hp0];rfl),FB.out⟩
   ·have nz:((N:Int) == 0)=false:=beq_false_of_ne (by omega)
    have nz':¬(N:Int)=0:=by omega
    have HZ:=jb hz;clear hz;go_wp2
    go_loopw [14,91] (fun sv i wq=>∃(k:Nat) (S:List UInt8),i=.int .i64 (k:Int)/\k<=N/\sv=.string ⟨S.toArray⟩/\Hid (S=123 :: jr d (ps.take k))/\wq=wr) (fun _ i _=>N - (intOf i).toNat)
    case atStart=>exact⟨0,[123],rfl,Nat.zero_le _,rfl,jb rfl,by first | rfl | trivial⟩
    case round=>
     obtain⟨k,S,rfl,hk,rfl,hS,rfl⟩:=hrel
     by_cases hlt2:k<N
     ·obtain⟨B,o,rfl,P,hP,hcell⟩:=HE.out k hlt2
      have hkp:k<ps.length:=by rw [<-HPS.out.1];exact hlt2
      have ep:ps[k]=P:=by rw [List.getElem?_eq_getElem hkp] at hP;injection hP
      have etk:ps.take (k+1)=ps.take k++[P]:=by rw [List.take_succ_eq_append_getElem hkp,ep]
      have hle:=Qm d ps (k+1);rw [etk,qH,List.length_append,JF] at hle;have hl2:=HL2.out;have eb:jq true d ps=jr d ps++10 :: inL d:=by unfold jq;rw [if_pos rfl,if_neg (fun e=>by rw [e] at hkp;cases hkp)]
      rw [eb] at hl2;simp only [List.length_cons,List.length_append,List.length_nil,qj] at hl2;obtain⟨I,hI⟩:∃I,I=inL (d+1):=⟨_,rfl⟩
      obtain⟨A1,hA1⟩:∃A1:List UInt8,A1=[10]++I:=⟨_,rfl⟩
      obtain⟨A2,hA2⟩:∃A2:List UInt8,A2=A1++P:=⟨_,rfl⟩
      obtain⟨A3,hA3⟩:∃A3:List UInt8,A3=A2++[44]:=⟨_,rfl⟩
      obtain⟨A4,hA4⟩:∃A4:List UInt8,A4=S++A3:=⟨_,rfl⟩
      have lI:I.length=2*(d+1):=by rw [hI,qj]
      have lS:S.length=(jr d (ps.take k)).length+1:=by rw [hS.out,List.length_cons]
      have l1:A1.length=I.length+1:=by rw [hA1,List.length_append,List.length_cons,List.length_nil];omega
      have l2:A2.length=A1.length+P.length:=by rw [hA2,List.length_append]
      have l3:A3.length=A2.length+1:=by rw [hA3,List.length_append];rfl
      have c1:∀u,(Op.stringOp .add ⟨#[10]⟩ ⟨I.toArray⟩).run Tryz.prog u=.ok (.string ⟨A1.toArray⟩) u:=fun u=>by rw [hA1];exact bigs.jg [10] I (by simp only [List.length_cons,List.length_nil];omega) u
      have c2:∀u,(Op.stringOp .add ⟨A1.toArray⟩ ⟨P.toArray⟩).run Tryz.prog u=.ok (.string ⟨A2.toArray⟩) u:=fun u=>by rw [hA2];exact bigs.jg A1 P (by omega) u
      have c3:∀u,(Op.stringOp .add ⟨A2.toArray⟩ ⟨#[44]⟩).run Tryz.prog u=.ok (.string ⟨A3.toArray⟩) u:=fun u=>by rw [hA3];exact bigs.jg A2 [44] (by simp only [List.length_cons,List.length_nil];omega) u
      have c4:∀u,(Op.stringOp .add ⟨S.toArray⟩ ⟨A3.toArray⟩).run Tryz.prog u=.ok (.string ⟨A4.toArray⟩) u:=fun u=>by rw [hA4];exact bigs.jg S A3 (by omega) u
      have HS2:Hid (A4=123 :: jr d (ps.take (k+1))):=jb (by
       rw [hA4,hS.out,hA3,hA2,hA1,hI,etk,qH];unfold Qd;simp)
      have ed:(d:Int)+1=((d+1:Nat):Int):=by omega
      have KI1:Hid (Calls Tryz.prog 45 #[.int .i64 ((d:Int)+1)] wr fun e w'=>e=.returned (.string ⟨I.toArray⟩)/\w'=wr):=jb (by rw [ed,hI];exact KI.out wr (d+1) (by omega));clear hle hl2 eb hI hA1 hA2 hA3 hA4 lI lS l1 l2 l3 hS etk ep hP hkp ed
      go_wp2_with (go_at_call 45;refine(ja KI1).mono ?_;rintro e w5 ⟨rfl,rfl⟩)
      go_roundw
      case rel=>exact⟨k+1,A4,rfl,by omega,rfl,HS2,by first | rfl | trivial⟩
      case measure=>simp only [intOf];omega
     ·have hkN:k=N:=by omega
      have hge2:¬(k:Int)<(N:Int):=by omega
      have eS:S=123 :: jr d ps:=by rw [hS.out,hkN,HPS.out.1,List.take_length]
      have hl2:=HL2.out;have hne:ps≠[]:=fun e=>HZ.out (by rw [HPS.out.1,e];rfl)
      have eb:jq true d ps=jr d ps++10 :: inL d:=by unfold jq;rw [if_pos rfl,if_neg hne]
      rw [eb] at hl2;simp only [List.length_cons,List.length_append,List.length_nil,qj] at hl2;obtain⟨I,hI⟩:∃I,I=inL d:=⟨_,rfl⟩
      obtain⟨A1,hA1⟩:∃A1:List UInt8,A1=[10]++I:=⟨_,rfl⟩
      obtain⟨A2,hA2⟩:∃A2:List UInt8,A2=S++A1:=⟨_,rfl⟩
      obtain⟨A3,hA3⟩:∃A3:List UInt8,A3=A2++[125]:=⟨_,rfl⟩
      have lI:I.length=2*d:=by rw [hI,qj]
      have lS:S.length=(jr d ps).length+1:=by rw [eS,List.length_cons]
      have l1:A1.length=I.length+1:=by rw [hA1,List.length_append,List.length_cons,List.length_nil];omega
      have l2:A2.length=S.length+A1.length:=by rw [hA2,List.length_append]
      have c1:∀u,(Op.stringOp .add ⟨#[10]⟩ ⟨I.toArray⟩).run Tryz.prog u=.ok (.string ⟨A1.toArray⟩) u:=fun u=>by rw [hA1];exact bigs.jg [10] I (by simp only [List.length_cons,List.length_nil];omega) u
      have c2:∀u,(Op.stringOp .add ⟨S.toArray⟩ ⟨A1.toArray⟩).run Tryz.prog u=.ok (.string ⟨A2.toArray⟩) u:=fun u=>by rw [hA2];exact bigs.jg S A1 (by omega) u
      have c3:∀u,(Op.stringOp .add ⟨A2.toArray⟩ ⟨#[125]⟩).run Tryz.prog u=.ok (.string ⟨A3.toArray⟩) u:=fun u=>by rw [hA3];exact bigs.jg A2 [125] (by simp only [List.length_cons,List.length_nil];omega) u
      have HA:Hid (A3=123 :: (jq true d ps++[125])):=jb (by rw [eb,hA3,hA2,eS,hA1,hI];simp);have KI1:Hid (Calls Tryz.prog 45 #[.int .i64 (d:Int)] wr fun e w'=>e=.returned (.string ⟨I.toArray⟩)/\w'=wr):=jb (by rw [hI];exact KI.out wr d (by omega));clear hl2 eb hI hA1 hA2 hA3 lI lS l1 l2 hS eS hkN hne HE HPS
      go_wp2_with (go_at_call 45;refine(ja KI1).mono ?_;rintro e w5 ⟨rfl,rfl⟩)
      go_ret;exact⟨congrArg (fun x:List UInt8=>Ending.returned (.string ⟨x.toArray⟩)) HA.out,FB.out⟩
open Go.RowKit
open bigs (jv)
theorem jg1 (f:Nat)(F:Nat->List UInt8)(hF:∀b,b<18446744073709551616->jv b (F b))(ih:jhp F false f)(w:World)(n:Int)(b:Nat)(s:ByteArray)(pL pE:Option Addr)(E:List V)(cL cE:Nat)(d:Nat)(hd:d+f<=89)(hcl:E.length<=cE/\cE<=maxLen)(hfew:E.length<=100000)
  (rE:RowIn (fun q=>q<w.heap.size) w pE 7 E.length (fun j us=>∃(key:ByteArray) (y:V) (xs:List Value),E[j]?=some (ent key.data.toList y)/\us=.string key :: xs/\key.size<=maxLen/\LiesV (fun q=>q<w.heap.size) f w xs y)) (hG:∀e∈E,Fits0 f (jz e).2) (hkg:∀e∈E,(jz e).1.length<=100/\utfs.bad (jz e).1<0) (hlen:(123 :: (jq false d (E.map (fun e=>qv (jz e).1 (ji F false f (d+1) (jz e).2)))++[125])).length<=100000000) :
  Calls Tryz.prog 23 #[.agg #[.int .i64 6,.int .i64 n,.int .u64 (b:Int),.string s,.slice pL 0 cL,.slice pE E.length cE],.bool false,.int .i64 (d:Int)] w fun e w'=>e=.returned (.string ⟨(123 :: (jq false d (E.map (fun e=>qv (jz e).1 (ji F false f (d+1) (jz e).2)))++[125])).toArray⟩)/\Below w.heap.size w w':=by
 have bV:Below w.heap.size w (w.alloc (.cells #[.int .i64 6,.int .i64 n,.int .u64 (b:Int),.string s,.slice pL 0 cL,.slice pE E.length cE] 26)):=(Below.refl _ w).alloc (Nat.le_refl _) _;have hX:=jd w #[.int .i64 6,.int .i64 n,.int .u64 (b:Int),.string s,.slice pL 0 cL,.slice pE E.length cE] 26;obtain⟨W,hW⟩:∃W,W=w.alloc (.cells #[.int .i64 6,.int .i64 n,.int .u64 (b:Int),.string s,.slice pL 0 cL,.slice pE E.length cE] 26):=⟨_,rfl⟩
 obtain⟨n0,hn0⟩:∃n0,n0=W.heap.size:=⟨_,rfl⟩
 have hwn:w.heap.size<n0:=by rw [hn0,hW];simp
 rw [<-hW] at bV hX;obtain⟨ps,hps⟩:∃ps,ps=E.map (fun e=>qv (jz e).1 (ji F false f (d+1) (jz e).2)):=⟨_,rfl⟩
 have hpl:ps.length=E.length:=by rw [hps,List.length_map]
 rw [<-hps] at hlen ⊢;obtain⟨i0,hi,hz0,hz1,hz2⟩:=info_parts Xy;have hn63:E.length<=9223372036854775807:=by omega
 -- one round of the second loop
 have R2:Hid (∀(wr:World) (u:Value) (j:Nat) (hj:j<E.length),Below n0 W wr->OwnR 9 1 QT n0 wr u ((ps.take j).map txV)->
   ∃(B o:Nat) (key:ByteArray) (yk yn:Int) (yb:Nat) (ys:ByteArray) (ypL:Option Addr) (ynL ycL:Nat) (ypE:Option Addr) (ynE ycE:Nat) (KT TT A1 A2:List UInt8),pE=some ⟨B,o,none⟩/\
    (wr.cell? ⟨B,o+j*7,none⟩=some (.string key)/\wr.cell? ⟨B,o+j*7+1,none⟩=some (.int .i64 yk)/\wr.cell? ⟨B,o+j*7+2,none⟩=some (.int .i64 yn)/\wr.cell? ⟨B,o+j*7+3,none⟩=some (.int .u64 (yb:Int))/\wr.cell? ⟨B,o+j*7+4,none⟩=some (.string ys)/\wr.cell? ⟨B,o+j*7+5,none⟩=some (.slice ypL ynL ycL)/\wr.cell? ⟨B,o+j*7+6,none⟩=some (.slice ypE ynE ycE))/\
    (∀w1,Below wr.heap.size wr w1->Calls Tryz.prog 44 #[.string key] w1 fun e w'=>e=.returned (.string ⟨KT.toArray⟩)/\Below w1.heap.size w1 w')/\
    (∀w1,Below wr.heap.size wr w1->Calls Tryz.prog 23 #[.agg #[.int .i64 yk,.int .i64 yn,.int .u64 (yb:Int),.string ys,.slice ypL ynL ycL,.slice ypE ynE ycE],.bool false,.int .i64 ((d:Int)+1)] w1 fun e w'=>e=.returned (.string ⟨TT.toArray⟩)/\Below w1.heap.size w1 w')/\
    (∀u,(Op.stringOp .add ⟨KT.toArray⟩ ⟨#[58,32]⟩).run Tryz.prog u=.ok (.string ⟨A1.toArray⟩) u)/\(∀u,(Op.stringOp .add ⟨A1.toArray⟩ ⟨TT.toArray⟩).run Tryz.prog u=.ok (.string ⟨A2.toArray⟩) u)/\
    (∀w2,Below wr.heap.size wr w2->∃v' W',(Builtin.append_ #[40,40] 40 #[u,.slice (some ⟨w2.heap.size,0,none⟩) 1 1]).run Tryz.prog (w2.alloc (.cells #[.string ⟨A2.toArray⟩] 9))=.ok v' W'/\Hid (Below n0 W W'/\OwnR 9 1 QT n0 W' v' ((ps.take (j+1)).map txV))/\(∀i,wr.heap.size<w2.heap.size->W'.cell? ⟨wr.heap.size,i,none⟩=w2.cell? ⟨wr.heap.size,i,none⟩))):=jb fun wr u j hj hb hO=>by
  have hbw:Below w.heap.size w wr:=bV.trans (hb.mono (by omega));obtain⟨B,o,rfl,hBok,hBl,x0,x1,x2,x3,x4,x5,x6,⟨key,y,xs,hy,hus,hks,hly⟩,k0,k1,k2,k3,k4,k5,k6⟩:=rE.seven hj;injection hus with hu0 hus;subst hu0;subst hus;obtain⟨yk,yn,yb,ys,ypL,ynL,ycL,ypE,ynE,ycE,rfl,rfl,rfl,rfl,rfl,rfl⟩:=LiesV.form hly;have hyE:ent key.data.toList y∈E:=List.mem_iff_getElem?.2 ⟨j,hy⟩
  have hGy:=hG _ hyE;have hky:=hkg _ hyE;rw [qk] at hGy hky;simp only at hGy hky
  have hkz:key.size<=1048576:=by
   have e:key.data.toList.length=key.size:=by rw [Array.length_toList];rfl
   omega
  have hjp:j<ps.length:=by omega
  have ep:ps[j]=qv key.data.toList (ji F false f (d+1) y):=by
   have:ps[j]?=some (qv key.data.toList (ji F false f (d+1) y)):=by rw [hps,List.getElem?_map,hy];rfl
   rw [List.getElem?_eq_getElem hjp] at this;injection this
  obtain⟨_,_,_,_,_,_,hkl⟩:=XA hky.2;have htl:=zx hF false f (d+1) y hGy.i hGy.g hGy.z (by omega);have hno:=hGy.n;obtain⟨A2,hA2⟩:∃A2:List UInt8,A2=(escs.JC key.data.toList++[58,32])++ji F false f (d+1) y:=⟨_,rfl⟩
  refine⟨B,o,key,yk,yn,yb,ys,ypL,ynL,ycL,ypE,ynE,ycE,escs.JC key.data.toList,ji F false f (d+1) y,escs.JC key.data.toList++[58,32],A2,rfl,⟨(hbw.cell (p:=⟨B,o+j*7,none⟩) hBok).trans k0,(hbw.cell (p:=⟨B,o+j*7+1,none⟩) hBok).trans k1,(hbw.cell (p:=⟨B,o+j*7+2,none⟩) hBok).trans k2,(hbw.cell (p:=⟨B,o+j*7+3,none⟩) hBok).trans k3,(hbw.cell (p:=⟨B,o+j*7+4,none⟩) hBok).trans k4,(hbw.cell (p:=⟨B,o+j*7+5,none⟩) hBok).trans k5,(hbw.cell (p:=⟨B,o+j*7+6,none⟩) hBok).trans k6⟩,fun w1 h1=>escs.Xe w1 key hkz hky.2,fun w1 h1=>?_,fun u=>bigs.jg _ [58,32] (by simp only [List.length_cons,List.length_nil];omega) u,fun u=>by rw [hA2];exact bigs.jg _ _ (by simp only [List.length_append,List.length_cons,List.length_nil];omega) u,fun w2 h2=>?_⟩
  ·have bw1:=hbw.trans (h1.mono hbw.size)
   have K:=ih w1 (d+1) yk yn yb ys ypL ynL ycL ypE ynE ycE y (hly.kept (ok':=fun q=>q<w1.heap.size) (fun q hq=>Nat.lt_of_lt_of_le hq bw1.size) bw1.size (fun q hq _=>bw1.block q hq)) hGy (by omega);have ed:(((d+1:Nat)):Int)=(d:Int)+1:=by omega
   rw [ed] at K;exact K
  ·have hO2:OwnR 9 1 QT n0 w2 u ((ps.take j).map txV):=hO.only qV (R:=0) (by omega) (zi h2)
   have hs2:=h2.size;have hsr:=hb.size;obtain⟨v',W',hrun,hO',hg⟩:=OwnR.push (tS:=40) qV Tryz.underlying40 hi hz0 hz1 hz2 rfl (by decide) (by decide) hO2 (by omega) [.string ⟨A2.toArray⟩] (txV A2) rfl (fun u hu=>by rw [List.mem_singleton.1 hu];rfl) rfl (by rw [List.length_map,List.length_take];omega) 40;refine⟨v',W',hrun,jb ⟨hb.trans ((h2.mono (by omega)).trans (hg.to_below (by omega) (fun g hg'=>(hO2.lt g hg').1))),?_⟩,fun i hlt=>World.cell?_of_block (hg.block hlt (fun e=>by have:=(hO.lt _ e.symm).2;omega)).1⟩;rw [List.take_succ_eq_append_getElem hjp,List.map_append,ep];have e:qv key.data.toList (ji F false f (d+1) y)=A2:=by rw [hA2];unfold qv;simp
   rw [e];exact hO'
 have x0:=hX.cell 0 _ rfl;have x4:=hX.cell 4 _ rfl;have mixed:Tryz.prog.follows Departure.mixedOrders=true:=by kernel_rfl
 have KI:Hid (∀(w1:World) (q:Nat),q<=1000->Calls Tryz.prog 45 #[.int .i64 (q:Int)] w1 fun e w'=>e=.returned (.string ⟨(inL q).toArray⟩)/\w'=w1):=jb fun w1 q hq=>Xx w1 q (by omega)
 have HX:=jb (And.intro bV (And.intro hX hwn));have HN:=jb hn0;have HH:=jb (And.intro hlen (And.intro hpl hd));clear bV rE hG hkg ih hlen hwn hps hn0 hF
 go_enter Tryz.func23,Tryz.ntmps23
 go_upto_region 1 with fail
 rw [<-hW];clear hW;go_wp2
 go_loopw [9,44] (fun u i wq=>u=.slice none 0 0/\i=.int .i64 0/\wq=W) (fun _ _ _=>0)
 case atStart=>exact⟨by first | rfl | trivial,by first | rfl | trivial,by first | rfl | trivial⟩
 case round=>
  obtain⟨rfl,rfl,hwq⟩:=hrel;rw [hwq];clear hwq;have z5:=hX.cell 5 _ rfl;go_wp2
  go_loopw [9,60] (fun u i wr=>∃j:Nat,i=.int .i64 (j:Int)/\j<=E.length/\Hid (Below n0 W wr/\OwnR 9 1 QT n0 wr u ((ps.take j).map txV))) (fun _ i _=>E.length - (intOf i).toNat)
  case atStart=>exact⟨0,rfl,Nat.zero_le _,jb ⟨Below.refl _ _,by rw [List.take_zero];exact OwnR.nil _ _ _ _ _⟩⟩
  case round=>
  obtain⟨j,rfl,hj,hh⟩:=hrel
  by_cases hlt:j<E.length
  ·obtain⟨B,o,key,yk,yn,yb,ys,ypL,ynL,ycL,ypE,ynE,ycE,KT,TT,A1,A2,rfl,⟨k0,k1,k2,k3,k4,k5,k6⟩,KK,KS,c1,c2,HP⟩:=R2.out wr _ j hlt hh.out.1 hh.out.2
   have bA:Below wr.heap.size wr (wr.alloc (.cells #[.string key,.int .i64 yk,.int .i64 yn,.int .u64 (yb:Int),.string ys,.slice ypL ynL ycL,.slice ypE ynE ycE] 44)):=(Below.refl _ wr).alloc (Nat.le_refl _) _;have hZ:=jd wr #[.string key,.int .i64 yk,.int .i64 yn,.int .u64 (yb:Int),.string ys,.slice ypL ynL ycL,.slice ypE ynE ycE] 44;obtain⟨WA,hWA⟩:∃WA,WA=wr.alloc (.cells #[.string key,.int .i64 yk,.int .i64 yn,.int .u64 (yb:Int),.string ys,.slice ypL ynL ycL,.slice ypE ynE ycE] 44):=⟨_,rfl⟩
   rw [<-hWA] at bA hZ;have bD:Below wr.heap.size wr WA.drew:=Below.drew bA;have HKK:=jb (KK WA.drew bD);have HPP:=jb HP;have E0:WA.drew.cell? ⟨wr.heap.size,0,none⟩=some (.string key):=hZ.cell 0 _ rfl
   have E1:WA.drew.cell? ⟨wr.heap.size,1,none⟩=some (.int .i64 yk):=hZ.cell 1 _ rfl
   have E2:WA.drew.cell? ⟨wr.heap.size,2,none⟩=some (.int .i64 yn):=hZ.cell 2 _ rfl
   have E3:WA.drew.cell? ⟨wr.heap.size,3,none⟩=some (.int .u64 (yb:Int)):=hZ.cell 3 _ rfl
   have E4:WA.drew.cell? ⟨wr.heap.size,4,none⟩=some (.string ys):=hZ.cell 4 _ rfl
   have E5:WA.drew.cell? ⟨wr.heap.size,5,none⟩=some (.slice ypL ynL ycL):=hZ.cell 5 _ rfl
   have E6:WA.drew.cell? ⟨wr.heap.size,6,none⟩=some (.slice ypE ynE ycE):=hZ.cell 6 _ rfl
   have hsz:wr.heap.size<WA.drew.heap.size:=by rw [hWA];show wr.heap.size<(wr.alloc _).heap.size;simp
   have DD:Hid (∀w1,Below WA.drew.heap.size WA.drew w1->w1.cell? ⟨wr.heap.size,0,none⟩=some (.string key)/\w1.cell? ⟨wr.heap.size,1,none⟩=some (.int .i64 yk)/\w1.cell? ⟨wr.heap.size,2,none⟩=some (.int .i64 yn)/\w1.cell? ⟨wr.heap.size,3,none⟩=some (.int .u64 (yb:Int))/\w1.cell? ⟨wr.heap.size,4,none⟩=some (.string ys)/\w1.cell? ⟨wr.heap.size,5,none⟩=some (.slice ypL ynL ycL)/\w1.cell? ⟨wr.heap.size,6,none⟩=some (.slice ypE ynE ycE)):=jb fun w1 h1=>
    ⟨(h1.cell (p:=⟨wr.heap.size,0,none⟩) hsz).trans E0,(h1.cell (p:=⟨wr.heap.size,1,none⟩) hsz).trans E1,(h1.cell (p:=⟨wr.heap.size,2,none⟩) hsz).trans E2,(h1.cell (p:=⟨wr.heap.size,3,none⟩) hsz).trans E3,(h1.cell (p:=⟨wr.heap.size,4,none⟩) hsz).trans E4,(h1.cell (p:=⟨wr.heap.size,5,none⟩) hsz).trans E5,(h1.cell (p:=⟨wr.heap.size,6,none⟩) hsz).trans E6⟩
   have HKS:Hid (∀w1,Below WA.drew.heap.size WA.drew w1->Calls Tryz.prog 23 #[.agg #[.int .i64 yk,.int .i64 yn,.int .u64 (yb:Int),.string ys,.slice ypL ynL ycL,.slice ypE ynE ycE],.bool false,.int .i64 ((d:Int)+1)] w1 fun e w'=>e=.returned (.string ⟨TT.toArray⟩)/\Below wr.heap.size wr w'/\wr.heap.size<w'.heap.size/\w'.cell? ⟨wr.heap.size,0,none⟩=some (.string key)/\w'.cell? ⟨wr.heap.size,1,none⟩=some (.int .i64 yk)/\w'.cell? ⟨wr.heap.size,2,none⟩=some (.int .i64 yn)/\w'.cell? ⟨wr.heap.size,3,none⟩=some (.int .u64 (yb:Int))/\w'.cell? ⟨wr.heap.size,4,none⟩=some (.string ys)/\w'.cell? ⟨wr.heap.size,5,none⟩=some (.slice ypL ynL ycL)/\w'.cell? ⟨wr.heap.size,6,none⟩=some (.slice ypE ynE ycE)):=jb fun w1 h1=>by
    have b1:=bD.trans (h1.mono bD.size);refine(KS w1 b1).mono ?_
    rintro e w2 ⟨he,h2⟩
    exact⟨he,b1.trans (h2.mono b1.size),Nat.lt_of_lt_of_le hsz (Nat.le_trans h1.size h2.size),ja DD w2 (h1.trans (h2.mono h1.size))⟩
   have HWA:=jb hWA;clear KK KS HP hh R2 hZ bA bD hsz hWA;have d63:d<=1000:=by have:=HH.out.2.2;omega
   have hwr:Hid (IntKind.i64.wrap ((d:Int)+1)=(d:Int)+1):=jb (by have:=d63;simp [IntKind.wrap,IntKind.bits,IntKind.signed];omega)
   go_upto_region 24 with fail
   rw [<-HWA.out];clear k0 k1 k2 k3 k4 k5 k6 HWA
   go_region_held3 (fun w'=>w'.cell? ⟨wr.heap.size,0,none⟩=some (.string key)/\w'.cell? ⟨wr.heap.size,1,none⟩=some (.int .i64 yk)/\w'.cell? ⟨wr.heap.size,2,none⟩=some (.int .i64 yn)/\w'.cell? ⟨wr.heap.size,3,none⟩=some (.int .u64 (yb:Int))/\w'.cell? ⟨wr.heap.size,4,none⟩=some (.string ys)/\w'.cell? ⟨wr.heap.size,5,none⟩=some (.slice ypL ynL ycL)/\w'.cell? ⟨wr.heap.size,6,none⟩=some (.slice ypE ynE ycE)) (go_keep) (first
    | ((refine J9 (by rfl) _ _ _ _ (by rfl) _ _ (by rfl) (by rfl) _ _ hrun ?_;have H0:=(HC 0 hl2).trans G0;have H1:=(HC 1 hl2).trans G1;have H2:=(HC 2 hl2).trans G2;have H3:=(HC 3 hl2).trans G3;have H4:=(HC 4 hl2).trans G4;have H5:=(HC 5 hl2).trans G5;have H6:=(HC 6 hl2).trans G6;clear HC hl2))
    | (go_at_call 44;refine(ja HKK).mono ?_;rintro e w1 ⟨rfl,b1⟩;obtain⟨F0,F1,F2,F3,F4,F5,F6⟩:=ja DD w1 b1;have KS1:=jb (HKS.out w1 b1);clear b1)
    | (go_at_call 23;rw [hwr.out];refine(ja KS1).mono ?_;rintro e w2 ⟨rfl,b2,hl2,G0,G1,G2,G3,G4,G5,G6⟩;obtain⟨v',W',hrun,HO,HC⟩:=HPP.out w2 b2;clear b2))
   all_goals
    go_wp2;go_roundw
    case rel=>exact⟨j+1,rfl,by omega,HO⟩
    case measure=>simp only [intOf];omega
  ·have hjN:j=E.length:=by omega
   obtain⟨hb,hO⟩:=hh.out;have hlp:ps.take j=ps:=by rw [List.take_of_length_le (by omega)]
   rw [hlp] at hO;obtain⟨pr,cr,hu,hc1,hc2,hrow⟩:=hO.row qV;have hXr:=HX.out.2.1.below' hb (by have:=HX.out.2.2;omega);have x5:=hXr.cell 5 _ rfl;have y0:=hXr.cell 0 _ rfl;rw [List.length_map] at hu hc1;obtain⟨N,hN⟩:∃N:Nat,N=ps.length:=⟨_,rfl⟩
   rw [<-hN] at hu hc1;subst hu;have hN63:N<=9223372036854775807:=by omega
   have FB:Hid (Below w.heap.size w wr):=jb (HX.out.1.trans (hb.mono (by have:=HX.out.2.2;omega)))
   have HE:Hid (∀k,k<N->∃B o,pr=some ⟨B,o,none⟩/\∃P:List UInt8,ps[k]?=some P/\wr.cell? ⟨B,o+k,none⟩=some (.string ⟨P.toArray⟩)):=jb fun k hk=>by
    obtain⟨B,o,e1,_,_,hr⟩:=hrow (by rw [List.length_map];omega);obtain⟨us,_,u2,y,hy,hq⟩:=hr k (by rw [List.length_map];omega);rw [List.getElem?_map] at hy;obtain⟨P,hP,rfl⟩:=Option.map_eq_some_iff.1 hy;refine⟨B,o,e1,P,hP,?_⟩;have e2:=u2 0 (by decide);rw [show us=[.string ⟨P.toArray⟩] from hq] at e2;rw [show o+k=o+k*1+0 by omega];exact e2
   have HPS:=jb (And.intro hN hc1);have hNL:N<=100000:=by omega
   have hge:¬(j:Int)<(E.length:Int):=by omega
   have HLEN:=HH.out.1;have hd1:d<=89:=by omega
   have HL2:=jb HLEN;clear R2 hh hO hb hrow hXr hlp hjN HLEN HH hc1 hc2 hpl hcl x0 x4 HN hN
   by_cases hz:N=0
   ·have hp0:ps=[]:=List.eq_nil_of_length_eq_zero (by rw [<-HPS.out.1];exact hz)
    have q1:((N:Int) == 0)=true:=by rw [hz];rfl
    have q2:(N:Int)=((0:Nat):Int):=by rw [hz]
    have HQ2:=jb q2;have HZ:=jb hz;clear q2 hz;have c0:∀u,(Op.stringOp .add ⟨#[123]⟩ ⟨#[125]⟩).run Tryz.prog u=.ok (.string ⟨#[123,125]⟩) u:=fun u=>bigs.jg [123] [125] (by decide) u
    clear HE HPS KI HX HL2;go_wp2;go_ret;exact⟨by first | rfl | (rw [hp0];rfl),FB.out⟩
   ·have nz:((N:Int) == 0)=false:=beq_false_of_ne (by omega)
    have nz':¬(N:Int)=0:=by omega
    have HZ:=jb hz;clear hz;go_wp2
    go_loopw [14,91] (fun sv i wq=>∃(k:Nat) (S:List UInt8),i=.int .i64 (k:Int)/\k<=N/\sv=.string ⟨S.toArray⟩/\Hid (S=123 :: jk (ps.take k))/\wq=wr) (fun _ i _=>N - (intOf i).toNat)
    case atStart=>exact⟨0,[123],rfl,Nat.zero_le _,rfl,jb rfl,by first | rfl | trivial⟩
    case round=>
     obtain⟨k,S,rfl,hk,rfl,hS,rfl⟩:=hrel
     by_cases hlt2:k<N
     ·obtain⟨B,o,rfl,P,hP,hcell⟩:=HE.out k hlt2
      have hkp:k<ps.length:=by rw [<-HPS.out.1];exact hlt2
      have ep:ps[k]=P:=by rw [List.getElem?_eq_getElem hkp] at hP;injection hP
      have etk:ps.take (k+1)=ps.take k++[P]:=by rw [List.take_succ_eq_append_getElem hkp,ep]
      have hle:=Qx ps (k+1);rw [etk,jU] at hle;have hl2:=HL2.out;have eb:jq false d ps=jk ps:=by unfold jq;rw [if_neg (by decide)]
      rw [eb] at hl2;simp only [List.length_cons,List.length_append,List.length_nil] at hl2;have lS:S.length=(jk (ps.take k)).length+1:=by rw [hS.out,List.length_cons]
      by_cases hk0:k=0
      ·have hpos:¬(k:Int) > 0:=by omega
       have et0:ps.take k=[]:=by rw [hk0];rfl
       rw [et0,if_pos rfl,List.length_append] at hle;obtain⟨A4,hA4⟩:∃A4:List UInt8,A4=S++P:=⟨_,rfl⟩
       have lz:(jk (ps.take k)).length=0:=by rw [et0];rfl
       have c4:∀u,(Op.stringOp .add ⟨S.toArray⟩ ⟨P.toArray⟩).run Tryz.prog u=.ok (.string ⟨A4.toArray⟩) u:=fun u=>by rw [hA4];exact bigs.jg S P (by omega) u
       have HS2:Hid (A4=123 :: jk (ps.take (k+1))):=jb (by
        rw [hA4,hS.out,etk,jU,et0,if_pos rfl];rfl)
       clear hle hl2 eb hA4 lS lz hS etk ep hP hkp et0 hk0;go_wp2;go_roundw
       case rel=>exact⟨k+1,A4,rfl,by omega,rfl,HS2,by first | rfl | trivial⟩
       case measure=>simp only [intOf];omega
      ·have hpos:(k:Int) > 0:=by omega
       have hne:ps.take k≠[]:=fun e=>by
        have:=congrArg List.length e;rw [List.length_take,List.length_nil] at this;omega
       rw [if_neg hne] at hle;simp only [List.length_append,List.length_cons] at hle;obtain⟨A3,hA3⟩:∃A3:List UInt8,A3=[44,32]++P:=⟨_,rfl⟩
       obtain⟨A4,hA4⟩:∃A4:List UInt8,A4=S++A3:=⟨_,rfl⟩
       have l3:A3.length=P.length+2:=by rw [hA3,List.length_append,List.length_cons,List.length_cons,List.length_nil];omega
       have c3:∀u,(Op.stringOp .add ⟨#[44,32]⟩ ⟨P.toArray⟩).run Tryz.prog u=.ok (.string ⟨A3.toArray⟩) u:=fun u=>by rw [hA3];exact bigs.jg [44,32] P (by simp only [List.length_cons,List.length_nil];omega) u
       have c4:∀u,(Op.stringOp .add ⟨S.toArray⟩ ⟨A3.toArray⟩).run Tryz.prog u=.ok (.string ⟨A4.toArray⟩) u:=fun u=>by rw [hA4];exact bigs.jg S A3 (by omega) u
       have HS2:Hid (A4=123 :: jk (ps.take (k+1))):=jb (by
        rw [hA4,hS.out,hA3,etk,jU,if_neg hne];simp)
       clear hle hl2 eb hA3 hA4 lS l3 hS etk ep hP hkp hne;go_wp2;go_roundw
       case rel=>exact⟨k+1,A4,rfl,by omega,rfl,HS2,by first | rfl | trivial⟩
       case measure=>simp only [intOf];omega
     ·have hkN:k=N:=by omega
      have hge2:¬(k:Int)<(N:Int):=by omega
      have eS:S=123 :: jk ps:=by rw [hS.out,hkN,HPS.out.1,List.take_length]
      have hl2:=HL2.out;have eb:jq false d ps=jk ps:=by unfold jq;rw [if_neg (by decide)]
      rw [eb] at hl2;simp only [List.length_cons,List.length_append,List.length_nil] at hl2;obtain⟨A3,hA3⟩:∃A3:List UInt8,A3=S++[125]:=⟨_,rfl⟩
      have lS:S.length=(jk ps).length+1:=by rw [eS,List.length_cons]
      have c3:∀u,(Op.stringOp .add ⟨S.toArray⟩ ⟨#[125]⟩).run Tryz.prog u=.ok (.string ⟨A3.toArray⟩) u:=fun u=>by rw [hA3];exact bigs.jg S [125] (by simp only [List.length_cons,List.length_nil];omega) u
      have HA:Hid (A3=123 :: (jq false d ps++[125])):=jb (by rw [eb,hA3,eS];simp);clear hl2 eb hA3 lS hS eS hkN HE HPS;go_wp2;go_ret;exact⟨congrArg (fun x:List UInt8=>Ending.returned (.string ⟨x.toArray⟩)) HA.out,FB.out⟩
open Go.RowKit
open bigs (jv)
theorem jja {v:V}(h:jR v=0):(opn v).2.1.length<=200/\(opn v).2.2.length<=200:=by
 unfold jR at h
 by_cases hk:Ja (opn v).1.1 (opn v).1.2.1 (opn v).1.2.2.1 (opn v).1.2.2.2 (opn v).2.1.length (opn v).2.2.length
 ·rw [if_neg (fun h=>h hk)] at h
  split at h
  ·cases h
  ·rename_i hn
   constructor<;>omega
 ·rw [if_pos hk] at h
  cases h
theorem jiA {F:Nat->List UInt8}(hF:∀b,b<18446744073709551616->jv b (F b))(many:Bool)(w:World)(k n:Int)(b:Nat)(s:ByteArray)(pL pE:Option Addr)(nL cL nE cE:Nat)(d:Int)(hk:0<=k/\k<=4)(hn : -9223372036854775808<=n/\n<=9223372036854775807)(hb:b<18446744073709551616)(hs:s.size<=1048576)(hu:utfs.bad s.data.toList<0) :
  Calls Tryz.prog 23 #[.agg #[.int .i64 k,.int .i64 n,.int .u64 (b:Int),.string s,.slice pL nL cL,.slice pE nE cE],.bool many,.int .i64 d] w fun e w'=>e=.returned (.string ⟨(z7 F (k,n,b,s.data.toList)).toArray⟩)/\Below w.heap.size w w':=by
 unfold z7;simp only
 by_cases h1:k=1
 ·rw [if_pos h1]
  by_cases h:n=1
  ·rw [if_pos h]
   exact jf7 w k n b s pL pE nL cL nE cE many d h1 h
  ·rw [if_neg h]
   exact jes w k n b s pL pE nL cL nE cE many d h1 (beq_false_of_ne h) h
 ·rw [if_neg h1]
  by_cases h2:k=2
  ·rw [if_pos h2]
   exact jgV w k n b s pL pE nL cL nE cE many d h2 _ (jb fun w1=>bigs.jcW w1 n 10 (.inr (.inr (.inl rfl))) hn.1 hn.2)
  ·rw [if_neg h2]
   by_cases h3:k=3
   ·rw [if_pos h3]
    refine jfD w k n b s pL pE nL cL nE cE many d h3 _ (jb fun w1 hw=>(bigs.jg3 w1 b hb).mono ?_)
    rintro e w' ⟨⟨R,rfl,hR⟩,hb'⟩
    have e2:=bigs.QV hR (hF b hb);refine⟨?_,hb'⟩;rw [<-e2,escs.QM rfl]
   ·rw [if_neg h3]
    by_cases h4:k=4
    ·rw [if_pos h4]
     obtain⟨hl,hsc⟩:=utfs.zt hu
     have eq:escs.YV s.data.toList=escs.jF (utfs.QS s.data.toList):=by
      unfold escs.YV;rw [if_neg (by omega)]
     rw [eq];exact jfY w k n b s pL pE nL cL nE cE many d h4 _ (jb fun w1 hw=>escs.YF w1 s _ hs hl hsc)
    ·rw [if_neg h4]
     exact jfl w k n b s pL pE nL cL nE cE many d (by omega)
theorem XR {F:Nat->List UInt8}(hF:∀b,b<18446744073709551616->jv b (F b))(many:Bool):∀f,jhp F many f
 | 0=>fun w d k n b s pL nL cL pE nE cE t hl=>hl.elim
 | f+1=>fun w d k n b s pL nL cL pE nE cE t hl hX hd=>by
  have ih:=XR hF many f;obtain⟨hI,hG,h0,hN⟩:=hX;have hln:=zx hF many (f+1) d t hI hG h0 hd;obtain⟨k',n',b',s',L,E,pL',pE',cL',cE',rfl,e2,⟨h1,h2,h3,h4⟩,⟨h5,h6,h7,h8⟩,rL,rE⟩:=hl;injection e2 with e0 e2;injection e0 with _ e0;injection e2 with e1 e2;injection e1 with _ e1;injection e2 with eb e2;injection eb with _ eb;injection e2 with es e2;injection es with es;injection e2 with eL e2;injection eL with eL1 eL2 eL3;injection e2 with eE _;injection eE with eE1 eE2 eE3;have eb':b=b':=by omega
  subst e0 e1 eb' es eL1 eL2 eL3 eE1 eE2 eE3;obtain⟨o,⟨ho1,ho2⟩,gL,gE⟩:=hG;obtain⟨p1,p2,p3⟩:=ZQ (Jk h0);obtain⟨q1,q2⟩:=jja (Jk h0);rw [qJ] at o ho1 ho2 gL gE p1 p2 p3 q1 q2;simp only at ho1 ho2 gL gE p1 p2 p3 q1 q2;obtain⟨_,iL,iE⟩:=IsV.mk.1 hI;have en:jB (f+1) (mkV (k,n,b,s.data.toList) L E)=j3 (jB f) (L++E.map (fun e=>(jz e).2))+1:=rfl;rw [en] at hN;rw [en] at hln
  have hsz:s.size<=1048576:=by
   have e:s.data.toList.length=s.size:=by rw [Array.length_toList];rfl
   omega
  have FL:∀y∈L,Fits0 f y:=fun y hy=>⟨iL y hy,gL y hy,zb h0 (by rw [j8];exact List.mem_append_left _ hy),by
   have:=Yh (q:=jB f) (List.mem_append_left (E.map (fun e=>(jz e).2)) hy);omega⟩
  have FE:∀e∈E,Fits0 f (jz e).2:=fun e he=>by
   have hm:(jz e).2∈L++E.map (fun e=>(jz e).2):=List.mem_append_right _ (List.mem_map.2 ⟨e,he,rfl⟩);have:=Yh (q:=jB f) hm;obtain⟨kk,y,ee,hy⟩:=iE e he;refine⟨?_,gE e he,zb h0 (by rw [j8];exact hm),by omega⟩;rw [ee,qk];exact hy
  rw [ji,qJ] at hln ⊢;simp only at hln ⊢
  by_cases k5:k=5
  ·subst k5
   rw [if_pos rfl] at hln ⊢;have e0:E=[]:=Classical.byContradiction fun h=>by have:=o.e h;simp only at this;omega
   have eE:E.length=0:=by rw [e0];rfl
   rw [eE];cases many with
   | true=>exact jgk f F ih w n b s pL pE L cL cE d (by omega) ⟨h5,h6⟩ (by omega) rL FL (by omega)
   | false=>exact jhz f F ih w n b s pL pE L cL cE d (by omega) ⟨h5,h6⟩ (by omega) rL FL (by omega)
  ·rw [if_neg k5] at hln ⊢
   by_cases k6:k=6
   ·subst k6
    rw [if_pos rfl] at hln ⊢;have e0:L=[]:=Classical.byContradiction fun h=>by have:=o.l h;simp only at this;omega
    have eL:L.length=0:=by rw [e0];rfl
    rw [eL];obtain⟨kg,_,_⟩:=J7 _ _ p3;have HK:∀e∈E,(jz e).1.length<=100/\utfs.bad (jz e).1<0:=fun e he=>⟨ho2 e he,kg _ (List.mem_map.2 ⟨e,he,rfl⟩)⟩
    cases many with
    | true=>exact jfv f F hF ih w n b s pL pE E cL cE d (by omega) ⟨h7,h8⟩ (by omega) rE FE HK (by omega)
    | false=>exact jg1 f F hF ih w n b s pL pE E cL cE d (by omega) ⟨h7,h8⟩ (by omega) rE FE HK (by omega)
   ·rw [if_neg k6]
    have hk:=o.k;simp only at hk;exact jiA hF many w k n b s pL pE L.length cL E.length cE d (by omega) h2 h3 hsz p2
end valus
end Go.Proofs.YtnbfnjhbmeocfaaGreatDoor
