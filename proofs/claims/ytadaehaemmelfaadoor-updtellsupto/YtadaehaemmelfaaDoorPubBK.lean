/- Of our texts, what this claim reaches. -/
import Derived.Test.YtadaehaemmelfaaDoorPubCA
import Derived.Test.YtadaehaemmelfaaDoorPubBE
import Derived.Test.YtadaehaemmelfaaDoorPubAL
import Derived.Deep.CutRange
set_option linter.unusedVariables false
set_option maxHeartbeats 8000000
set_option maxRecDepth 100000
set_option linter.unusedSimpArgs false
namespace Go.Proofs.YtadaehaemmelfaaDoor
namespace valus
open Go.RowKit
abbrev ZS (k n:Int):Prop:=(n≠0/\k≠1/\k≠2)\/(k=1/\n≠0/\n≠1)
abbrev ZB (k:Int) (b:Nat) (s:List UInt8) (nL nE:Nat):Prop:=(b≠0/\k≠3)\/(s≠[]/\k≠4)\/(0<nL/\k≠5)\/(0<nE/\k≠6)
theorem jbV (x y:Int):(x != y) = !decide (x=y):=by
 by_cases h:x=y
 ·subst h
  simp
 ·rw [decide_eq_false h]
  exact bne_iff_ne.2 h
theorem jbu (ok:Nat->Prop)(f:Nat)(w:World)(k n:Int)(b:Nat)(s:ByteArray)(L E:List V)(pL pE:Option Addr)(cL cE:Nat)(hb:b<18446744073709551616)(hs:s.size<=maxLen)
  (hE:jaC ok f w pE E) (hL1:L.length<=cL) (hL2:cL<=maxLen) (h1:E.length<=cE) (h2:cE<=maxLen) :
  Calls Tryd.prog 60 #[.agg #[.int .i64 k,.int .i64 n,.int .u64 (b:Int),.string s,.slice pL L.length cL,.slice pE E.length cE]] w fun e w'=>e=.returned (.int .i64 (jr (mkV (k,n,b,s.data.toList) L E)))/\Below w.heap.size w w':=by
 have hm:maxLen=9223372036854775807:=rfl;obtain⟨A,hA⟩:∃A,A=w.alloc (.cells #[.int .i64 k,.int .i64 n,.int .u64 (b:Int),.string s,.slice pL L.length cL,.slice pE E.length cE] 26):=⟨_,rfl⟩
 have hblk:Blk A w.heap.size #[.int .i64 k,.int .i64 n,.int .u64 (b:Int),.string s,.slice pL L.length cL,.slice pE E.length cE] 26:=by rw [hA];exact jb _ _ _
 have hbA:Below w.heap.size w A:=by rw [hA];exact(Below.refl _ w).alloc (Nat.le_refl _) _
 have a0:=hblk.cell 0 _ rfl;have a1:=hblk.cell 1 _ rfl;have a2:=hblk.cell 2 _ rfl;have a3:=hblk.cell 3 _ rfl;have a4:=hblk.cell 4 _ rfl;have a5:=hblk.cell 5 _ rfl
 go_enter Tryd.func60,Tryd.ntmps60
 go_upto_region 1 with fail
 rw [<-hA];generalize hv0:Value.agg #[Value.int IntKind.i64 k,Value.int IntKind.i64 n,Value.int IntKind.u64 (b:Int),Value.string s,Value.slice pL L.length cL,Value.slice pE E.length cE]=v0;clear hv0
 go_cut [16] from 9 to 15 (fun c wx=>c=.bool (decide (k<0\/6<k))/\wx=A)
 case first=>
  clear hA
  go_wp2_with fail
  all_goals go_meet
  all_goals
   refine⟨congrArg Value.bool ?_,rfl⟩;clear a0 a1 a2 a3 a4 a5 hblk hbA hE
   try simp only [ByteArray.toList_eq,Qe,Qf,jbV] at *
   simp_all [ZS,ZB]
 case rest=>
  obtain⟨rfl,hwc⟩:=hcut;rw [hwc];clear hA hwc wc
  have hone:jr (mkV (k,n,b,s.data.toList) L E)=if ¬Jf k n b s.data.toList L.length E.length then 10 else if 4000<s.size\/200<L.length\/200<E.length then 2 else if 0<=utfs.bad s.data.toList then 3 else qp none (jF E):=by
   rw [<-jn s];rfl
  have hbad:(k<0\/6<k)\/ZS k n\/ZB k b s.data.toList L.length E.length\/((qd b).2.2=2/\b≠9221120237041090561)->jr (mkV (k,n,b,s.data.toList) L E)=10:=by
   intro h;rw [hone,if_pos]
   rintro⟨⟨c1,c1'⟩,c2,c3,c4,c5,c6,c7,c8⟩
   rcases h with h | h | h | h
   ·omega
   ·rcases h with ⟨x,y,z⟩ | ⟨x,y,z⟩
    ·rcases c2 with c | c | c<;>contradiction
    ·rcases c3 x with c | c<;>contradiction
   ·rcases h with ⟨x,y⟩ | ⟨x,y⟩ | ⟨x,y⟩ | ⟨x,y⟩
    ·rcases c4 with c | c<;>contradiction
    ·rcases c5 with c | c<;>contradiction
    ·rcases c6 with c | c
     ·omega
     ·contradiction
    ·rcases c7 with c | c
     ·omega
     ·contradiction
   ·exact h.2 (c8 h.1)
  have HB:=ja hbad;have HO:=ja hone;clear hbad hone
  by_cases g1:k<0\/6<k
  ·have d1:decide (k<0\/6<k)=true:=decide_eq_true g1
   rw [d1];have HV:=ja (HB.out (.inl g1));clear g1 d1
   go_wp2_with fail
   go_ret;exact⟨by rw [HV.out];rfl,hbA⟩
  have d1:decide (k<0\/6<k)=false:=decide_eq_false g1;rw [d1];clear d1;have G1:=ja g1;clear g1
  go_upto_region 3 with fail
  go_cut [44] from 17 to 43 (fun c wx=>c=.bool (decide (ZS k n))/\wx=A)
  case first=>
   go_wp2_with fail
   all_goals go_meet
   all_goals
    refine⟨congrArg Value.bool ?_,rfl⟩;clear a0 a1 a2 a3 a4 a5 hblk hbA hE
    try simp only [ByteArray.toList_eq,Qe,Qf,jbV] at *
    simp_all [ZS,ZB]
  case rest=>
  obtain⟨rfl,hwc⟩:=hcut;rw [hwc];clear hwc wc
  by_cases g2:ZS k n
  ·have d1:decide (ZS k n)=true:=decide_eq_true g2
   rw [d1];have HV:=ja (HB.out (.inr (.inl g2)));clear g2 d1
   go_wp2_with fail
   go_ret;exact⟨by rw [HV.out];rfl,hbA⟩
  have d1:decide (ZS k n)=false:=decide_eq_false g2;rw [d1];clear d1;have G2:=ja g2;clear g2
  go_upto_region 5 with fail
  go_cut [84] from 45 to 83 (fun c wx=>c=.bool (decide (ZB k b s.data.toList L.length E.length))/\wx=A)
  case first=>
   go_wp2_with fail
   all_goals go_meet
   all_goals
    refine⟨congrArg Value.bool ?_,rfl⟩;clear a0 a1 a2 a3 a4 a5 hblk hbA hE
    try simp only [ByteArray.toList_eq,Qe,Qf,jbV] at *
    simp_all [ZS,ZB]
  case rest=>
  obtain⟨rfl,hwc⟩:=hcut;rw [hwc];clear hwc wc
  by_cases g3:ZB k b s.data.toList L.length E.length
  ·have d1:decide (ZB k b s.data.toList L.length E.length)=true:=decide_eq_true g3
   rw [d1];have HV:=ja (HB.out (.inr (.inr (.inl g3))));clear g3 d1
   go_wp2_with fail
   go_ret;exact⟨by rw [HV.out];rfl,hbA⟩
  have d1:decide (ZB k b s.data.toList L.length E.length)=false:=decide_eq_false g3;rw [d1];clear d1
  go_upto_region 8 with (go_at_call 76;refine(Y7 _ b hb).mono ?_;rintro e w1 ⟨rfl,hw1⟩;rw [hw1];clear hw1 w1)
  go_cut [98,5] from 85 to 97 (fun c v5 wx=>c=.bool (decide ((qd b).2.2=2/\b≠9221120237041090561))/\wx=A)
  case first=>
   have G3:=ja g3;clear g3
   go_wp2_with fail
   all_goals go_meet
   all_goals
    refine⟨congrArg Value.bool ?_,rfl⟩;clear a0 a1 a2 a3 a4 a5 hblk hbA hE
    try simp only [ByteArray.toList_eq,Qe,Qf] at *
    simp_all
  case rest=>
  obtain⟨rfl,hwc⟩:=hcut;rw [hwc];clear hwc wc
  by_cases g4:(qd b).2.2=2/\b≠9221120237041090561
  ·have d1:decide ((qd b).2.2=2/\b≠9221120237041090561)=true:=decide_eq_true g4
   rw [d1];have HV:=ja (HB.out (.inr (.inr (.inr g4))));clear g4 d1 g3
   go_wp2_with fail
   go_ret;exact⟨by rw [HV.out];rfl,hbA⟩
  have d1:decide ((qd b).2.2=2/\b≠9221120237041090561)=false:=decide_eq_false g4;rw [d1];clear d1
  have hgood:Jf k n b s.data.toList L.length E.length:=by
   have q1:=G1.out;have q2:=G2.out;unfold ZS at q2;unfold ZB at g3;refine⟨⟨by omega,by omega⟩,?_,?_,?_,?_,?_,?_,?_⟩
   ·by_cases x:n=0
    ·exact .inl x
    ·by_cases y:k=1
     ·exact .inr (.inl y)
     ·by_cases z:k=2
      ·exact .inr (.inr z)
      ·exact absurd (.inl ⟨x,y,z⟩) q2
   ·intro y
    by_cases x:n=0
    ·exact .inl x
    ·by_cases z:n=1
     ·exact .inr z
     ·exact absurd (.inr ⟨y,x,z⟩) q2
   ·by_cases x:b=0
    ·exact .inl x
    ·by_cases y:k=3
     ·exact .inr y
     ·exact absurd (.inl ⟨x,y⟩) g3
   ·by_cases x:s.data.toList=[]
    ·exact .inl x
    ·by_cases y:k=4
     ·exact .inr y
     ·exact absurd (.inr (.inl ⟨x,y⟩)) g3
   ·by_cases x:L.length=0
    ·exact .inl x
    ·by_cases y:k=5
     ·exact .inr y
     ·exact absurd (.inr (.inr (.inl ⟨by omega,y⟩))) g3
   ·by_cases x:E.length=0
    ·exact .inl x
    ·by_cases y:k=6
     ·exact .inr y
     ·exact absurd (.inr (.inr (.inr ⟨by omega,y⟩))) g3
   ·intro x
    by_cases y:b=9221120237041090561
    ·exact y
    ·exact absurd ⟨x,y⟩ g4
  have hone2:=HO.out;rw [if_neg (fun h=>h hgood)] at hone2;clear g3 g4 hgood HB HO G1 G2
  by_cases g5:4000<s.size\/200<L.length\/200<E.length
  ·rw [if_pos g5] at hone2
   have HV:=ja hone2;clear hone2
   by_cases x1:4000<s.size
   ·have d1:(s.size:Int) > 4000:=by omega
    clear g5
    go_wp2_with fail
    go_ret;exact⟨by rw [HV.out];rfl,hbA⟩
   ·have d1:¬(s.size:Int) > 4000:=by omega
    by_cases x2:200<L.length
    ·have d2:(L.length:Int) > 200:=by omega
     clear g5
     go_wp2_with fail
     go_ret;exact⟨by rw [HV.out];rfl,hbA⟩
    ·have d2:¬(L.length:Int) > 200:=by omega
     have d3:(E.length:Int) > 200:=by omega
     clear g5
     go_wp2_with fail
     go_ret;exact⟨by rw [HV.out];rfl,hbA⟩
  rw [if_neg g5] at hone2;have d1:¬(s.size:Int) > 4000:=by omega
  have d2:¬(L.length:Int) > 200:=by omega
  have d3:¬(E.length:Int) > 200:=by omega
  have hE200:E.length<=200:=by omega
  clear g5;have hbp:=utfs.qW s A (by omega);have HBP:=ja hbp;clear hbp
  by_cases g6:0<=utfs.bad s.data.toList
  ·rw [if_pos g6] at hone2
   have HV:=ja hone2;clear hone2
   go_wp2_with (go_at_call 33;refine(jc HBP).mono ?_;rintro e w2 ⟨rfl,b2⟩)
   go_ret;exact⟨by rw [HV.out];rfl,hbA.trans (b2.mono hbA.size)⟩
  rw [if_neg g6] at hone2;have HV:=ja hone2;clear hone2
  go_wp2_with (go_at_call 33;refine(jc HBP).mono ?_;rintro e w2 ⟨rfl,b2⟩;have a6:=(b2.cell (p:=⟨w.heap.size,5,none⟩) hblk.lt).trans a5)
  have hbw2:Below w.heap.size w w2:=hbA.trans (b2.mono hbA.size);clear a0 a1 a2 a3 a4 a5 a6 hblk HBP g6 d1 d2 d3
  go_loopw [6,122] (fun u i wr=>∃(j:Nat) (ls:ByteArray),i=.int .i64 j/\u=.string ls/\j<=E.length/\Hid (qp (qj (jF E) j) ((jF E).drop j)=qp none (jF E))/\Hid (j≠0->qj (jF E) j=some ls.data.toList)/\Below w.heap.size w wr) (fun _ i _=>E.length - (intOf i).toNat)
  case atStart=>exact⟨0,_,rfl,rfl,Nat.zero_le _,rfl,fun h=>absurd rfl h,hbw2⟩
  case round=>
   clear b2 hbw2 hbA;obtain⟨j,ls,rfl,rfl,hj,hacc,hls,hbw⟩:=hrel
   by_cases hlt:j<E.length
   ·obtain⟨B,o,rfl,_,hBl,x0,x1,x2,x3,x4,x5,x6,⟨key,y,xs,hy,hus,hks,hly⟩,k0,k1,k2,k3,k4,k5,k6⟩:=hE.seven hlt
    cases hus
    obtain⟨vk,vn,vb,vs,vpL,vnL,vcL,vpE,vnE,vcE,rfl,rfl,rfl,rfl,rfl,rfl⟩:=hly.form;have q0:=(hbw.cell (p:=⟨B,o+j*7,none⟩) hBl).trans k0;have q1:=(hbw.cell (p:=⟨B,o+j*7+1,none⟩) hBl).trans k1;have q2:=(hbw.cell (p:=⟨B,o+j*7+2,none⟩) hBl).trans k2;have q3:=(hbw.cell (p:=⟨B,o+j*7+3,none⟩) hBl).trans k3;have q4:=(hbw.cell (p:=⟨B,o+j*7+4,none⟩) hBl).trans k4;have q5:=(hbw.cell (p:=⟨B,o+j*7+5,none⟩) hBl).trans k5;have q6:=(hbw.cell (p:=⟨B,o+j*7+6,none⟩) hBl).trans k6;have hkey:(jF E)[j]?=some key.data.toList:=by rw [jF,List.getElem?_map,hy];rfl
    have hstep:=Xl (p:=qj (jF E) j) hkey;rw [hacc.out] at hstep;have hprev:qj (jF E) (j+1)=some key.data.toList:=by rw [qj,if_neg (by omega)];exact hkey
    have hlen:key.data.toList.length=key.size:=jn key;have HP:=ja hprev;clear k0 k1 k2 k3 k4 k5 k6 hacc hkey hprev;obtain⟨A2,hA2⟩:∃A2,A2=wr.alloc (.cells #[.string key,.int .i64 vk,.int .i64 vn,.int .u64 (vb:Int),.string vs,.slice vpL vnL vcL,.slice vpE vnE vcE] 57):=⟨_,rfl⟩
    have hblk:Blk A2 wr.heap.size #[.string key,.int .i64 vk,.int .i64 vn,.int .u64 (vb:Int),.string vs,.slice vpL vnL vcL,.slice vpE vnE vcE] 57:=by rw [hA2];exact jb _ _ _
    have hbA2:Below w.heap.size w A2:=by rw [hA2];exact hbw.alloc (by have:=hbw.size;omega) _
    have a0:=hblk.cell 0 _ rfl;rw [hA2] at a0
    by_cases hbig:100<key.size
    ·have hk0:jW (qj (jF E) j) key.data.toList=2:=by unfold jW;rw [if_pos (by omega)]
     rw [hk0,if_neg (by decide)] at hstep;have d1:(key.size:Int) > 100:=by omega
     have HS:=ja hstep;have H2:=ja hA2;clear hstep hk0 hA2
     go_wp2_with fail
     go_ret;rw [<-H2.out];exact⟨by rw [HV.out,HS.out];rfl,hbA2⟩
    ·have d1:¬(key.size:Int) > 100:=by omega
     have hbad:=utfs.qW key A2 (by omega);rw [hA2] at hbad;have HB:=ja hbad;have H2:=ja hA2;clear hbad hA2
     by_cases hbd:0<=utfs.bad key.data.toList
     ·have hk0:jW (qj (jF E) j) key.data.toList=3:=by unfold jW;rw [if_neg (by omega),if_pos hbd]
      rw [hk0,if_neg (by decide)] at hstep;have HS:=ja hstep;clear hstep hk0
      go_wp2_with (go_at_call 33;refine(jc HB).mono ?_;rintro e w1 ⟨rfl,hb1⟩)
      go_ret;rw [<-H2.out] at hb1;exact⟨by rw [HV.out,HS.out];rfl,hbA2.trans (hb1.mono hbA2.size)⟩
     ·have hkf:jW (qj (jF E) j) key.data.toList=ZU (qj (jF E) j) key.data.toList:=by unfold jW;rw [if_neg (by omega),if_neg hbd]
      have H7:Hid (∀w1,Below A2.heap.size A2 w1->w1.cell? ⟨wr.heap.size,0,none⟩=some (.string key)):=fun w1 hb1=>(hb1.cell (p:=⟨wr.heap.size,0,none⟩) hblk.lt).trans (hblk.cell 0 _ rfl)
      by_cases hj0:j=0
      ·have hk0:jW (qj (jF E) j) key.data.toList=0:=by rw [hkf,hj0];rfl
       rw [if_pos hk0] at hstep;have HS:=ja hstep;have HJ:=ja hj0;clear hstep hk0 hkf hj0
       go_upto_region 22 with (go_at_call 33;refine(jc HB).mono ?_;rintro e w1 ⟨rfl,hb1⟩)
       rw [<-H2.out] at hb1;have a7:=H7.out _ hb1;have d3:decide (0<(j:Int))=false:=decide_eq_false (by have:=HJ.out;omega);have d4:decide (0<j)=false:=decide_eq_false (by have:=HJ.out;omega);have d5:¬(j:Int) > 0:=by have:=HJ.out;omega
       go_wp2_with fail
       go_roundw
       case rel=>exact⟨j+1,key,by simp,rfl,by omega,by rw [HP.out];exact HS.out.symm,fun _=>HP.out,hbA2.trans (hb1.mono hbA2.size)⟩
       case measure=>simp [intOf];omega
      ·have hpk:=hls.out hj0
       rw [hpk] at hkf hstep;have HS:=ja hstep;have HK:=ja hkf;have HJ:=ja hj0;clear hstep hkf hj0 hpk;have hkf2:jW (some ls.data.toList) key.data.toList=if Op.bytesLess ls.data.toList key.data.toList=true then 0 else 14:=HK.out
       go_upto_region 22 with (go_at_call 33;refine(jc HB).mono ?_;rintro e w1 ⟨rfl,hb1⟩)
       rw [<-H2.out] at hb1;have a7:=H7.out _ hb1;have d3:decide (0<(j:Int))=true:=decide_eq_true (by have:=HJ.out;omega);have d4:decide (0<j)=true:=decide_eq_true (by have:=HJ.out;omega);have d5:(j:Int) > 0:=by have:=HJ.out;omega
       cases hl:Op.bytesLess ls.data.toList key.data.toList with
       | true=>
        have hl2:Op.bytesLess ls.toList key.toList=true:=by rw [ByteArray.toList_eq,ByteArray.toList_eq];exact hl
        rw [hl,if_pos rfl] at hkf2;have hs2:=HS.out;rw [if_pos hkf2] at hs2;have HS2:=ja hs2;clear hs2 hkf2 hl
        go_wp2_with fail
        go_roundw
        case rel=>exact⟨j+1,key,by simp,rfl,by omega,by rw [HP.out];exact HS2.out.symm,fun _=>HP.out,hbA2.trans (hb1.mono hbA2.size)⟩
        case measure=>simp [intOf];omega
       | false=>
        have hl2:Op.bytesLess ls.toList key.toList=false:=by rw [ByteArray.toList_eq,ByteArray.toList_eq];exact hl
        rw [hl,if_neg (by decide)] at hkf2;have hs2:=HS.out;rw [hkf2,if_neg (by decide)] at hs2;have HS2:=ja hs2;clear hs2 hkf2 hl
        go_wp2_with fail
        go_ret;exact⟨by rw [HV.out,HS2.out];rfl,hbA2.trans (hb1.mono hbA2.size)⟩
   ·obtain rfl:j=E.length:=by omega
    have hz:qp none (jF E)=0:=by rw [<-hacc.out,List.drop_eq_nil_of_le (by simp [jF])];rfl
    have HZ:=ja hz;clear hz
    go_wp2_with fail
    go_ret;exact⟨by rw [HV.out,HZ.out];rfl,hbw⟩
end valus
end Go.Proofs.YtadaehaemmelfaaDoor
