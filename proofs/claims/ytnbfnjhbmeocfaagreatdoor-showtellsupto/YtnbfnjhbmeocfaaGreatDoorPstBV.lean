/- Of our texts, what this claim reaches. -/
import Derived.Test.YtnbfnjhbmeocfaaGreatDoorPstBT
import Derived.Test.YtnbfnjhbmeocfaaGreatDoorPstBD
import Derived.Test.YtnbfnjhbmeocfaaGreatDoorPstBH
import Derived.Test.YtnbfnjhbmeocfaaGreatDoorPstAQ
import Derived.Test.YtnbfnjhbmeocfaaGreatDoorPstBU
import Derived.Test.YtnbfnjhbmeocfaaGreatDoorPstBC
import Derived.Test.YtnbfnjhbmeocfaaGreatDoorPstBK
import Derived.Test.YtnbfnjhbmeocfaaGreatDoorPstAR
import Derived.Deep.CutRange
import Derived.Test.YtnbfnjhbmeocfaaGreatDoorPstAG
import Derived.Maps.AppendAt
set_option linter.unusedVariables false
set_option maxHeartbeats 8000000
set_option maxRecDepth 100000
namespace Go.Proofs.YtnbfnjhbmeocfaaGreatDoor
namespace valus
open Go.RowKit
open bigs (jv)
theorem jjM (a b:ByteArray)(h:a.size+b.size<=1000000000)(u:World):(Op.stringOp .add a b).run Tryz.prog u=.ok (.string (a++b)) u:=run_string_add_sum _ _ _ (by omega)
theorem jhu (k:Nat):inL k++[32,32]=inL (k+1):=by
 unfold inL;have e:([32,32]:List UInt8)=List.replicate 2 32:=rfl;rw [e,List.replicate_append_replicate,show 2*k+2=2*(k+1) by omega]
theorem Xx (w:World)(d:Nat)(hd:d<=1000000) :
  Calls Tryz.prog 45 #[.int .i64 (d:Int)] w fun e w'=>e=.returned (.string ⟨(inL d).toArray⟩)/\w'=w:=by
 go_enter Tryz.func45,Tryz.ntmps45
 go_wp2
 go_loopw [3,5] (fun sv i wr=>∃(k:Nat) (S:ByteArray),k<=d/\i=.int .i64 (k:Int)/\sv=.string S/\S.size=2*k/\Hid (S=⟨(inL k).toArray⟩)/\wr=w) (fun _ i _=>d - (intOf i).toNat)
 case atStart=>exact⟨0,⟨#[]⟩,Nat.zero_le _,rfl,rfl,rfl,jb rfl,rfl⟩
 case round=>
  obtain⟨k,S,hk,rfl,rfl,hz,hS,rfl⟩:=hrel
  by_cases hlt:k<d
  ·obtain⟨S',hS'⟩:∃S':ByteArray,S'=S++⟨#[32,32]⟩:=⟨_,rfl⟩
   have c1:∀u,(Op.stringOp .add S ⟨#[32,32]⟩).run Tryz.prog u=.ok (.string S') u:=fun u=>by rw [hS'];exact jjM _ _ (by show S.size+2<=_;omega) u
   have z':S'.size=2*(k+1):=by rw [hS',ByteArray.size_append];show S.size+2=_;omega
   have HS:Hid (S'=⟨(inL (k+1)).toArray⟩):=jb (by
    rw [hS',hS.out,<-jhu];apply ByteArray.ext
    simp)
   clear hS';go_wp2;go_roundw
   case rel=>exact⟨k+1,S',by omega,rfl,rfl,z',HS,by first | rfl | trivial⟩
   case measure=>simp only [intOf];omega
  ·have hkd:k=d:=by omega
   have hge:¬(k:Int)<(d:Int):=by omega
   have HE:Hid (S=⟨(inL d).toArray⟩):=jb (by rw [<-hkd];exact hS.out);clear hS hkd;go_wp2;go_ret;exact⟨congrArg (fun x=>Ending.returned (.string x)) HE.out,by first | rfl | trivial⟩
open Go.RowKit
open bigs (jv tellB)
section
variable (w : World) (k n : Int) (b : Nat) (s : ByteArray) (pL pE : Option Addr) (nL cL nE cE : Nat) (many : Bool) (d : Int)
theorem jfl (hk:k=0) :
  Calls Tryz.prog 23 #[.agg #[.int .i64 k,.int .i64 n,.int .u64 (b:Int),.string s,.slice pL nL cL,.slice pE nE cE],.bool many,.int .i64 d] w fun e w'=>e=.returned (.string ⟨#[110,117,108,108]⟩)/\Below w.heap.size w w':=by
 subst hk;have bV:Below w.heap.size w (w.alloc (.cells #[.int .i64 0,.int .i64 n,.int .u64 (b:Int),.string s,.slice pL nL cL,.slice pE nE cE] 26)):=(Below.refl _ w).alloc (Nat.le_refl _) _;have FIN:=jb bV;have hX:=jd w #[.int .i64 0,.int .i64 n,.int .u64 (b:Int),.string s,.slice pL nL cL,.slice pE nE cE] 26;have x0:=hX.cell 0 _ rfl;clear hX bV
 go_enter Tryz.func23,Tryz.ntmps23
 go_wp2;go_ret;exact⟨rfl,FIN.out⟩
theorem jf7 (hk:k=1)(hn:n=1) :
  Calls Tryz.prog 23 #[.agg #[.int .i64 k,.int .i64 n,.int .u64 (b:Int),.string s,.slice pL nL cL,.slice pE nE cE],.bool many,.int .i64 d] w fun e w'=>e=.returned (.string ⟨#[116,114,117,101]⟩)/\Below w.heap.size w w':=by
 subst hk hn;have bV:Below w.heap.size w (w.alloc (.cells #[.int .i64 1,.int .i64 1,.int .u64 (b:Int),.string s,.slice pL nL cL,.slice pE nE cE] 26)):=(Below.refl _ w).alloc (Nat.le_refl _) _;have FIN:=jb bV;have hX:=jd w #[.int .i64 1,.int .i64 1,.int .u64 (b:Int),.string s,.slice pL nL cL,.slice pE nE cE] 26;have x0:=hX.cell 0 _ rfl;have x1:=hX.cell 1 _ rfl;clear hX bV
 go_enter Tryz.func23,Tryz.ntmps23
 go_wp2;go_ret;exact⟨rfl,FIN.out⟩
theorem jes (hk:k=1)(hn:(n == 1)=false)(hn':¬n=1) :
  Calls Tryz.prog 23 #[.agg #[.int .i64 k,.int .i64 n,.int .u64 (b:Int),.string s,.slice pL nL cL,.slice pE nE cE],.bool many,.int .i64 d] w fun e w'=>e=.returned (.string ⟨#[102,97,108,115,101]⟩)/\Below w.heap.size w w':=by
 subst hk;have bV:Below w.heap.size w (w.alloc (.cells #[.int .i64 1,.int .i64 n,.int .u64 (b:Int),.string s,.slice pL nL cL,.slice pE nE cE] 26)):=(Below.refl _ w).alloc (Nat.le_refl _) _;have FIN:=jb bV;have hX:=jd w #[.int .i64 1,.int .i64 n,.int .u64 (b:Int),.string s,.slice pL nL cL,.slice pE nE cE] 26;have x0:=hX.cell 0 _ rfl;have x1:=hX.cell 1 _ rfl;clear hX bV
 go_enter Tryz.func23,Tryz.ntmps23
 go_wp2;go_ret;exact⟨rfl,FIN.out⟩
theorem jgV (hk:k=2)(T:ByteArray)(K:Hid (∀w1,Calls Tryz.prog 41 #[.int .i64 n,.int .i64 10] w1 fun e w'=>e=.returned (.string T)/\w'=w1)) :
  Calls Tryz.prog 23 #[.agg #[.int .i64 k,.int .i64 n,.int .u64 (b:Int),.string s,.slice pL nL cL,.slice pE nE cE],.bool many,.int .i64 d] w fun e w'=>e=.returned (.string T)/\Below w.heap.size w w':=by
 subst hk;have bV:Below w.heap.size w (w.alloc (.cells #[.int .i64 2,.int .i64 n,.int .u64 (b:Int),.string s,.slice pL nL cL,.slice pE nE cE] 26)):=(Below.refl _ w).alloc (Nat.le_refl _) _;have K1:=jb (ja K (w.alloc (.cells #[.int .i64 2,.int .i64 n,.int .u64 (b:Int),.string s,.slice pL nL cL,.slice pE nE cE] 26)));have FIN:=jb bV;have hX:=jd w #[.int .i64 2,.int .i64 n,.int .u64 (b:Int),.string s,.slice pL nL cL,.slice pE nE cE] 26;have x0:=hX.cell 0 _ rfl;have x1:=hX.cell 1 _ rfl;clear hX bV K
 go_enter Tryz.func23,Tryz.ntmps23
 go_wp2_with (go_at_call 41;refine(ja K1).mono ?_;rintro e w1 ⟨rfl,rfl⟩)
 go_ret;exact⟨rfl,FIN.out⟩
theorem jfD (hk:k=3)(T:ByteArray)(K:Hid (∀w1,Below w.heap.size w w1->Calls Tryz.prog 42 #[.int .u64 (b:Int)] w1 fun e w'=>e=.returned (.string T)/\Below w1.heap.size w1 w')) :
  Calls Tryz.prog 23 #[.agg #[.int .i64 k,.int .i64 n,.int .u64 (b:Int),.string s,.slice pL nL cL,.slice pE nE cE],.bool many,.int .i64 d] w fun e w'=>e=.returned (.string T)/\Below w.heap.size w w':=by
 subst hk;have bV:Below w.heap.size w (w.alloc (.cells #[.int .i64 3,.int .i64 n,.int .u64 (b:Int),.string s,.slice pL nL cL,.slice pE nE cE] 26)):=(Below.refl _ w).alloc (Nat.le_refl _) _;have K1:=jb (ja K _ bV);have FIN:=jb bV;have hX:=jd w #[.int .i64 3,.int .i64 n,.int .u64 (b:Int),.string s,.slice pL nL cL,.slice pE nE cE] 26;have x0:=hX.cell 0 _ rfl;have x2:=hX.cell 2 _ rfl;clear hX bV K
 go_enter Tryz.func23,Tryz.ntmps23
 go_wp2_with (go_at_call 42;refine(ja K1).mono ?_;rintro e w1 ⟨rfl,b1⟩)
 go_ret;exact⟨rfl,FIN.out.trans (b1.mono FIN.out.size)⟩
theorem jfY (hk:k=4)(T:ByteArray)(K:Hid (∀w1,Below w.heap.size w w1->Calls Tryz.prog 43 #[.string s] w1 fun e w'=>e=.returned (.string T)/\Below w1.heap.size w1 w')) :
  Calls Tryz.prog 23 #[.agg #[.int .i64 k,.int .i64 n,.int .u64 (b:Int),.string s,.slice pL nL cL,.slice pE nE cE],.bool many,.int .i64 d] w fun e w'=>e=.returned (.string T)/\Below w.heap.size w w':=by
 subst hk;have bV:Below w.heap.size w (w.alloc (.cells #[.int .i64 4,.int .i64 n,.int .u64 (b:Int),.string s,.slice pL nL cL,.slice pE nE cE] 26)):=(Below.refl _ w).alloc (Nat.le_refl _) _;have K1:=jb (ja K _ bV);have FIN:=jb bV;have hX:=jd w #[.int .i64 4,.int .i64 n,.int .u64 (b:Int),.string s,.slice pL nL cL,.slice pE nE cE] 26;have x0:=hX.cell 0 _ rfl;have x3:=hX.cell 3 _ rfl;clear hX bV K
 go_enter Tryz.func23,Tryz.ntmps23
 go_wp2_with (go_at_call 43;refine(ja K1).mono ?_;rintro e w1 ⟨rfl,b1⟩)
 go_ret;exact⟨rfl,FIN.out.trans (b1.mono FIN.out.size)⟩
end
end valus
set_option linter.unusedSimpArgs false
namespace valus
open Go.RowKit
abbrev jbR (k n:Int):Prop:=(n≠0/\k≠1/\k≠2)\/(k=1/\n≠0/\n≠1)
abbrev jbz (k:Int) (b:Nat) (s:List UInt8) (nL nE:Nat):Prop:=(b≠0/\k≠3)\/(s≠[]/\k≠4)\/(0<nL/\k≠5)\/(0<nE/\k≠6)
theorem jjQ (x y:Int):(x != y) = !decide (x=y):=by
 by_cases h:x=y
 ·subst h
  simp
 ·rw [decide_eq_false h]
  exact bne_iff_ne.2 h
theorem jin (ok:Nat->Prop)(f:Nat)(w:World)(k n:Int)(b:Nat)(s:ByteArray)(L E:List V)(pL pE:Option Addr)(cL cE:Nat)(hb:b<18446744073709551616)(hs:s.size<=maxLen)
  (hE:jhg ok f w pE E) (hL1:L.length<=cL) (hL2:cL<=maxLen) (h1:E.length<=cE) (h2:cE<=maxLen) :
  Calls Tryz.prog 40 #[.agg #[.int .i64 k,.int .i64 n,.int .u64 (b:Int),.string s,.slice pL L.length cL,.slice pE E.length cE]] w fun e w'=>e=.returned (.int .i64 (jR (mkV (k,n,b,s.data.toList) L E)))/\Below w.heap.size w w':=by
 have hm:maxLen=9223372036854775807:=rfl;obtain⟨A,hA⟩:∃A,A=w.alloc (.cells #[.int .i64 k,.int .i64 n,.int .u64 (b:Int),.string s,.slice pL L.length cL,.slice pE E.length cE] 26):=⟨_,rfl⟩
 have hblk:Blk A w.heap.size #[.int .i64 k,.int .i64 n,.int .u64 (b:Int),.string s,.slice pL L.length cL,.slice pE E.length cE] 26:=by rw [hA];exact jd _ _ _
 have hbA:Below w.heap.size w A:=by rw [hA];exact(Below.refl _ w).alloc (Nat.le_refl _) _
 have a0:=hblk.cell 0 _ rfl;have a1:=hblk.cell 1 _ rfl;have a2:=hblk.cell 2 _ rfl;have a3:=hblk.cell 3 _ rfl;have a4:=hblk.cell 4 _ rfl;have a5:=hblk.cell 5 _ rfl
 go_enter Tryz.func40,Tryz.ntmps40
 go_upto_region 1 with fail
 rw [<-hA];generalize hv0:Value.agg #[Value.int IntKind.i64 k,Value.int IntKind.i64 n,Value.int IntKind.u64 (b:Int),Value.string s,Value.slice pL L.length cL,Value.slice pE E.length cE]=v0;clear hv0
 go_cut [16] from 9 to 15 (fun c wx=>c=.bool (decide (k<0\/6<k))/\wx=A)
 case first=>
  clear hA
  go_wp2_with fail
  all_goals go_meet
  all_goals
   refine⟨congrArg Value.bool ?_,rfl⟩;clear a0 a1 a2 a3 a4 a5 hblk hbA hE
   try simp only [ByteArray.toList_eq,Xq,Xt,jjQ] at *
   simp_all [jbR,jbz]
 case rest=>
  obtain⟨rfl,hwc⟩:=hcut;rw [hwc];clear hA hwc wc
  have hone:jR (mkV (k,n,b,s.data.toList) L E)=if ¬Ja k n b s.data.toList L.length E.length then 10 else if 4000<s.size\/200<L.length\/200<E.length then 2 else if 0<=utfs.bad s.data.toList then 3 else qw none (jS E):=by
   rw [<-jm s];rfl
  have hbad:(k<0\/6<k)\/jbR k n\/jbz k b s.data.toList L.length E.length\/((jo b).2.2=2/\b≠9221120237041090561)->jR (mkV (k,n,b,s.data.toList) L E)=10:=by
   intro h;rw [hone,if_pos]
   rintro⟨⟨c1,c1'⟩,c2,c3,c4,c5,c6,c7,c8⟩
   rcases h with h | h | h | h
   ·omega
   ·rcases h with ⟨x,y,z⟩ | ⟨x,y,z⟩
    ·rcases c2 with c | c | c<;>contradiction
    ·rcases c3 x with c | c<;>contradiction
   ·rcases h with ⟨x,y⟩ | ⟨x,y⟩ | ⟨x,y⟩ | ⟨x,y⟩
    ·rcases c4 with c | c<;>contradiction
    ·rcases c5 with c | c<;>contradiction
    ·rcases c6 with c | c
     ·omega
     ·contradiction
    ·rcases c7 with c | c
     ·omega
     ·contradiction
   ·exact h.2 (c8 h.1)
  have HB:=jb hbad;have HO:=jb hone;clear hbad hone
  by_cases g1:k<0\/6<k
  ·have d1:decide (k<0\/6<k)=true:=decide_eq_true g1
   rw [d1];have HV:=jb (HB.out (.inl g1));clear g1 d1
   go_wp2_with fail
   go_ret;exact⟨by rw [HV.out];rfl,hbA⟩
  have d1:decide (k<0\/6<k)=false:=decide_eq_false g1;rw [d1];clear d1;have G1:=jb g1;clear g1
  go_upto_region 3 with fail
  go_cut [44] from 17 to 43 (fun c wx=>c=.bool (decide (jbR k n))/\wx=A)
  case first=>
   go_wp2_with fail
   all_goals go_meet
   all_goals
    refine⟨congrArg Value.bool ?_,rfl⟩;clear a0 a1 a2 a3 a4 a5 hblk hbA hE
    try simp only [ByteArray.toList_eq,Xq,Xt,jjQ] at *
    simp_all [jbR,jbz]
  case rest=>
  obtain⟨rfl,hwc⟩:=hcut;rw [hwc];clear hwc wc
  by_cases g2:jbR k n
  ·have d1:decide (jbR k n)=true:=decide_eq_true g2
   rw [d1];have HV:=jb (HB.out (.inr (.inl g2)));clear g2 d1
   go_wp2_with fail
   go_ret;exact⟨by rw [HV.out];rfl,hbA⟩
  have d1:decide (jbR k n)=false:=decide_eq_false g2;rw [d1];clear d1;have G2:=jb g2;clear g2
  go_upto_region 5 with fail
  go_cut [84] from 45 to 83 (fun c wx=>c=.bool (decide (jbz k b s.data.toList L.length E.length))/\wx=A)
  case first=>
   go_wp2_with fail
   all_goals go_meet
   all_goals
    refine⟨congrArg Value.bool ?_,rfl⟩;clear a0 a1 a2 a3 a4 a5 hblk hbA hE
    try simp only [ByteArray.toList_eq,Xq,Xt,jjQ] at *
    simp_all [jbR,jbz]
  case rest=>
  obtain⟨rfl,hwc⟩:=hcut;rw [hwc];clear hwc wc
  by_cases g3:jbz k b s.data.toList L.length E.length
  ·have d1:decide (jbz k b s.data.toList L.length E.length)=true:=decide_eq_true g3
   rw [d1];have HV:=jb (HB.out (.inr (.inr (.inl g3))));clear g3 d1
   go_wp2_with fail
   go_ret;exact⟨by rw [HV.out];rfl,hbA⟩
  have d1:decide (jbz k b s.data.toList L.length E.length)=false:=decide_eq_false g3;rw [d1];clear d1
  go_upto_region 8 with (go_at_call 87;refine(zQ _ b hb).mono ?_;rintro e w1 ⟨rfl,hw1⟩;rw [hw1];clear hw1 w1)
  go_cut [98,5] from 85 to 97 (fun c v5 wx=>c=.bool (decide ((jo b).2.2=2/\b≠9221120237041090561))/\wx=A)
  case first=>
   have G3:=jb g3;clear g3
   go_wp2_with fail
   all_goals go_meet
   all_goals
    refine⟨congrArg Value.bool ?_,rfl⟩;clear a0 a1 a2 a3 a4 a5 hblk hbA hE
    try simp only [ByteArray.toList_eq,Xq,Xt] at *
    simp_all
  case rest=>
  obtain⟨rfl,hwc⟩:=hcut;rw [hwc];clear hwc wc
  by_cases g4:(jo b).2.2=2/\b≠9221120237041090561
  ·have d1:decide ((jo b).2.2=2/\b≠9221120237041090561)=true:=decide_eq_true g4
   rw [d1];have HV:=jb (HB.out (.inr (.inr (.inr g4))));clear g4 d1 g3
   go_wp2_with fail
   go_ret;exact⟨by rw [HV.out];rfl,hbA⟩
  have d1:decide ((jo b).2.2=2/\b≠9221120237041090561)=false:=decide_eq_false g4;rw [d1];clear d1
  have hgood:Ja k n b s.data.toList L.length E.length:=by
   have q1:=G1.out;have q2:=G2.out;unfold jbR at q2;unfold jbz at g3;refine⟨⟨by omega,by omega⟩,?_,?_,?_,?_,?_,?_,?_⟩
   ·by_cases x:n=0
    ·exact .inl x
    ·by_cases y:k=1
     ·exact .inr (.inl y)
     ·by_cases z:k=2
      ·exact .inr (.inr z)
      ·exact absurd (.inl ⟨x,y,z⟩) q2
   ·intro y
    by_cases x:n=0
    ·exact .inl x
    ·by_cases z:n=1
     ·exact .inr z
     ·exact absurd (.inr ⟨y,x,z⟩) q2
   ·by_cases x:b=0
    ·exact .inl x
    ·by_cases y:k=3
     ·exact .inr y
     ·exact absurd (.inl ⟨x,y⟩) g3
   ·by_cases x:s.data.toList=[]
    ·exact .inl x
    ·by_cases y:k=4
     ·exact .inr y
     ·exact absurd (.inr (.inl ⟨x,y⟩)) g3
   ·by_cases x:L.length=0
    ·exact .inl x
    ·by_cases y:k=5
     ·exact .inr y
     ·exact absurd (.inr (.inr (.inl ⟨by omega,y⟩))) g3
   ·by_cases x:E.length=0
    ·exact .inl x
    ·by_cases y:k=6
     ·exact .inr y
     ·exact absurd (.inr (.inr (.inr ⟨by omega,y⟩))) g3
   ·intro x
    by_cases y:b=9221120237041090561
    ·exact y
    ·exact absurd ⟨x,y⟩ g4
  have hone2:=HO.out;rw [if_neg (fun h=>h hgood)] at hone2;clear g3 g4 hgood HB HO G1 G2
  by_cases g5:4000<s.size\/200<L.length\/200<E.length
  ·rw [if_pos g5] at hone2
   have HV:=jb hone2;clear hone2
   by_cases x1:4000<s.size
   ·have d1:(s.size:Int) > 4000:=by omega
    clear g5
    go_wp2_with fail
    go_ret;exact⟨by rw [HV.out];rfl,hbA⟩
   ·have d1:¬(s.size:Int) > 4000:=by omega
    by_cases x2:200<L.length
    ·have d2:(L.length:Int) > 200:=by omega
     clear g5
     go_wp2_with fail
     go_ret;exact⟨by rw [HV.out];rfl,hbA⟩
    ·have d2:¬(L.length:Int) > 200:=by omega
     have d3:(E.length:Int) > 200:=by omega
     clear g5
     go_wp2_with fail
     go_ret;exact⟨by rw [HV.out];rfl,hbA⟩
  rw [if_neg g5] at hone2;have d1:¬(s.size:Int) > 4000:=by omega
  have d2:¬(L.length:Int) > 200:=by omega
  have d3:¬(E.length:Int) > 200:=by omega
  have hE200:E.length<=200:=by omega
  clear g5;have hbp:=utfs.ZB s A (by omega);have HBP:=jb hbp;clear hbp
  by_cases g6:0<=utfs.bad s.data.toList
  ·rw [if_pos g6] at hone2
   have HV:=jb hone2;clear hone2
   go_wp2_with (go_at_call 88;refine(ja HBP).mono ?_;rintro e w2 ⟨rfl,b2⟩)
   go_ret;exact⟨by rw [HV.out];rfl,hbA.trans (b2.mono hbA.size)⟩
  rw [if_neg g6] at hone2;have HV:=jb hone2;clear hone2
  go_wp2_with (go_at_call 88;refine(ja HBP).mono ?_;rintro e w2 ⟨rfl,b2⟩;have a6:=(b2.cell (p:=⟨w.heap.size,5,none⟩) hblk.lt).trans a5)
  have hbw2:Below w.heap.size w w2:=hbA.trans (b2.mono hbA.size);clear a0 a1 a2 a3 a4 a5 a6 hblk HBP g6 d1 d2 d3
  go_loopw [6,122] (fun u i wr=>∃(j:Nat) (ls:ByteArray),i=.int .i64 j/\u=.string ls/\j<=E.length/\Hid (qw (qP (jS E) j) ((jS E).drop j)=qw none (jS E))/\Hid (j≠0->qP (jS E) j=some ls.data.toList)/\Below w.heap.size w wr) (fun _ i _=>E.length - (intOf i).toNat)
  case atStart=>exact⟨0,_,rfl,rfl,Nat.zero_le _,rfl,fun h=>absurd rfl h,hbw2⟩
  case round=>
   clear b2 hbw2 hbA;obtain⟨j,ls,rfl,rfl,hj,hacc,hls,hbw⟩:=hrel
   by_cases hlt:j<E.length
   ·obtain⟨B,o,rfl,_,hBl,x0,x1,x2,x3,x4,x5,x6,⟨key,y,xs,hy,hus,hks,hly⟩,k0,k1,k2,k3,k4,k5,k6⟩:=hE.seven hlt
    cases hus
    obtain⟨vk,vn,vb,vs,vpL,vnL,vcL,vpE,vnE,vcE,rfl,rfl,rfl,rfl,rfl,rfl⟩:=hly.form;have q0:=(hbw.cell (p:=⟨B,o+j*7,none⟩) hBl).trans k0;have q1:=(hbw.cell (p:=⟨B,o+j*7+1,none⟩) hBl).trans k1;have q2:=(hbw.cell (p:=⟨B,o+j*7+2,none⟩) hBl).trans k2;have q3:=(hbw.cell (p:=⟨B,o+j*7+3,none⟩) hBl).trans k3;have q4:=(hbw.cell (p:=⟨B,o+j*7+4,none⟩) hBl).trans k4;have q5:=(hbw.cell (p:=⟨B,o+j*7+5,none⟩) hBl).trans k5;have q6:=(hbw.cell (p:=⟨B,o+j*7+6,none⟩) hBl).trans k6;have hkey:(jS E)[j]?=some key.data.toList:=by rw [jS,List.getElem?_map,hy];rfl
    have hstep:=jb6 (p:=qP (jS E) j) hkey;rw [hacc.out] at hstep;have hprev:qP (jS E) (j+1)=some key.data.toList:=by rw [qP,if_neg (by omega)];exact hkey
    have hlen:key.data.toList.length=key.size:=jm key;have HP:=jb hprev;clear k0 k1 k2 k3 k4 k5 k6 hacc hkey hprev;obtain⟨A2,hA2⟩:∃A2,A2=wr.alloc (.cells #[.string key,.int .i64 vk,.int .i64 vn,.int .u64 (vb:Int),.string vs,.slice vpL vnL vcL,.slice vpE vnE vcE] 44):=⟨_,rfl⟩
    have hblk:Blk A2 wr.heap.size #[.string key,.int .i64 vk,.int .i64 vn,.int .u64 (vb:Int),.string vs,.slice vpL vnL vcL,.slice vpE vnE vcE] 44:=by rw [hA2];exact jd _ _ _
    have hbA2:Below w.heap.size w A2:=by rw [hA2];exact hbw.alloc (by have:=hbw.size;omega) _
    have a0:=hblk.cell 0 _ rfl;rw [hA2] at a0
    by_cases hbig:100<key.size
    ·have hk0:qZ (qP (jS E) j) key.data.toList=2:=by unfold qZ;rw [if_pos (by omega)]
     rw [hk0,if_neg (by decide)] at hstep;have d1:(key.size:Int) > 100:=by omega
     have HS:=jb hstep;have H2:=jb hA2;clear hstep hk0 hA2
     go_wp2_with fail
     go_ret;rw [<-H2.out];exact⟨by rw [HV.out,HS.out];rfl,hbA2⟩
    ·have d1:¬(key.size:Int) > 100:=by omega
     have hbad:=utfs.ZB key A2 (by omega);rw [hA2] at hbad;have HB:=jb hbad;have H2:=jb hA2;clear hbad hA2
     by_cases hbd:0<=utfs.bad key.data.toList
     ·have hk0:qZ (qP (jS E) j) key.data.toList=3:=by unfold qZ;rw [if_neg (by omega),if_pos hbd]
      rw [hk0,if_neg (by decide)] at hstep;have HS:=jb hstep;clear hstep hk0
      go_wp2_with (go_at_call 88;refine(ja HB).mono ?_;rintro e w1 ⟨rfl,hb1⟩)
      go_ret;rw [<-H2.out] at hb1;exact⟨by rw [HV.out,HS.out];rfl,hbA2.trans (hb1.mono hbA2.size)⟩
     ·have hkf:qZ (qP (jS E) j) key.data.toList=jbN (qP (jS E) j) key.data.toList:=by unfold qZ;rw [if_neg (by omega),if_neg hbd]
      have H7:Hid (∀w1,Below A2.heap.size A2 w1->w1.cell? ⟨wr.heap.size,0,none⟩=some (.string key)):=fun w1 hb1=>(hb1.cell (p:=⟨wr.heap.size,0,none⟩) hblk.lt).trans (hblk.cell 0 _ rfl)
      by_cases hj0:j=0
      ·have hk0:qZ (qP (jS E) j) key.data.toList=0:=by rw [hkf,hj0];rfl
       rw [if_pos hk0] at hstep;have HS:=jb hstep;have HJ:=jb hj0;clear hstep hk0 hkf hj0
       go_upto_region 22 with (go_at_call 88;refine(ja HB).mono ?_;rintro e w1 ⟨rfl,hb1⟩)
       rw [<-H2.out] at hb1;have a7:=H7.out _ hb1;have d3:decide (0<(j:Int))=false:=decide_eq_false (by have:=HJ.out;omega);have d4:decide (0<j)=false:=decide_eq_false (by have:=HJ.out;omega);have d5:¬(j:Int) > 0:=by have:=HJ.out;omega
       go_wp2_with fail
       go_roundw
       case rel=>exact⟨j+1,key,by simp,rfl,by omega,by rw [HP.out];exact HS.out.symm,fun _=>HP.out,hbA2.trans (hb1.mono hbA2.size)⟩
       case measure=>simp [intOf];omega
      ·have hpk:=hls.out hj0
       rw [hpk] at hkf hstep;have HS:=jb hstep;have HK:=jb hkf;have HJ:=jb hj0;clear hstep hkf hj0 hpk;have hkf2:qZ (some ls.data.toList) key.data.toList=if Op.bytesLess ls.data.toList key.data.toList=true then 0 else 14:=HK.out
       go_upto_region 22 with (go_at_call 88;refine(ja HB).mono ?_;rintro e w1 ⟨rfl,hb1⟩)
       rw [<-H2.out] at hb1;have a7:=H7.out _ hb1;have d3:decide (0<(j:Int))=true:=decide_eq_true (by have:=HJ.out;omega);have d4:decide (0<j)=true:=decide_eq_true (by have:=HJ.out;omega);have d5:(j:Int) > 0:=by have:=HJ.out;omega
       cases hl:Op.bytesLess ls.data.toList key.data.toList with
       | true=>
        have hl2:Op.bytesLess ls.toList key.toList=true:=by rw [ByteArray.toList_eq,ByteArray.toList_eq];exact hl
        rw [hl,if_pos rfl] at hkf2;have hs2:=HS.out;rw [if_pos hkf2] at hs2;have HS2:=jb hs2;clear hs2 hkf2 hl
        go_wp2_with fail
        go_roundw
        case rel=>exact⟨j+1,key,by simp,rfl,by omega,by rw [HP.out];exact HS2.out.symm,fun _=>HP.out,hbA2.trans (hb1.mono hbA2.size)⟩
        case measure=>simp [intOf];omega
       | false=>
        have hl2:Op.bytesLess ls.toList key.toList=false:=by rw [ByteArray.toList_eq,ByteArray.toList_eq];exact hl
        rw [hl,if_neg (by decide)] at hkf2;have hs2:=HS.out;rw [hkf2,if_neg (by decide)] at hs2;have HS2:=jb hs2;clear hs2 hkf2 hl
        go_wp2_with fail
        go_ret;exact⟨by rw [HV.out,HS2.out];rfl,hbA2.trans (hb1.mono hbA2.size)⟩
   ·obtain rfl:j=E.length:=by omega
    have hz:qw none (jS E)=0:=by rw [<-hacc.out,List.drop_eq_nil_of_le (by simp [jS])];rfl
    have HZ:=jb hz;clear hz
    go_wp2_with fail
    go_ret;exact⟨by rw [HV.out,HZ.out];rfl,hbw⟩
open Go.RowKit
def Flat (ok:Nat->Prop)(f:Nat)(w:World):List Value->List (V×Nat)->Prop
 | xs,[]=>xs=[]
 | xs,(y,a) :: l=>∃(x0 x1 x2 x3 x4 x5:Value) (r:List Value),xs=x0 :: x1 :: x2 :: x3 :: x4 :: x5 :: .int .i64 (a:Int) :: r/\LiesV ok f w [x0,x1,x2,x3,x4,x5] y/\Flat ok f w r l
theorem Flat.len {ok:Nat->Prop}{f:Nat}{w:World}:∀{l:List (V×Nat)} {xs:List Value},Flat ok f w xs l->xs.length=l.length*7
 | [],xs,h=>by rw [show xs=[] from h];rfl
 | (y,a) :: l,xs,h=>by
  obtain⟨x0,x1,x2,x3,x4,x5,r,rfl,_,hr⟩:=h;have:=hr.len;simp only [List.length_cons] at *;omega
theorem Flat.append {ok:Nat->Prop}{f:Nat}{w:World}:∀{l:List (V×Nat)} {xs:List Value} {m:List (V×Nat)} {ys:List Value},Flat ok f w xs l->Flat ok f w ys m->Flat ok f w (xs++ys) (l++m)
 | [],xs,m,ys,h,g=>by rw [show xs=[] from h];exact g
 | (y,a) :: l,xs,m,ys,h,g=>by
  obtain⟨x0,x1,x2,x3,x4,x5,r,rfl,hl,hr⟩:=h;exact⟨x0,x1,x2,x3,x4,x5,r++ys,rfl,hl,hr.append g⟩
theorem Flat.one {ok:Nat->Prop}{f:Nat}{w:World}:∀{l:List (V×Nat)} {xs:List Value},Flat ok f w xs l->∀u∈xs,Value.oneCell' u=true
 | [],xs,h=>by rw [show xs=[] from h];simp
 | (y,a) :: l,xs,h=>by
  obtain⟨x0,x1,x2,x3,x4,x5,r,rfl,hl,hr⟩:=h;obtain⟨k,n,b,s,pL,nL,cL,pE,nE,cE,rfl,rfl,rfl,rfl,rfl,rfl⟩:=hl.form;have:=hr.one;intro u hu;simp only [List.mem_cons] at hu
  rcases hu with rfl | rfl | rfl | rfl | rfl | rfl | rfl | hu
  all_goals first | rfl | exact this u hu
def jkg (ok:Nat->Prop)(f:Nat)(w:World)(W:World)(tv:Value)(l:List (V×Nat)):Prop :=
 ∃(p:Option Addr) (c:Nat) (xs:List Value),tv=.slice p l.length c/\l.length<=c/\Flat ok f w xs l/\(l≠[]->∃B o,p=some ⟨B,o,none⟩/\w.heap.size<=B/\B<W.heap.size/\∀k u,xs[k]?=some u->W.cell? ⟨B,o+k,none⟩=some u)
def JD (f:Nat)(l:List (V×Nat)):Nat:=j3 (jB f) (l.map Prod.fst)
theorem Za {f:Nat}:∀{l:List (V×Nat)},(∀p,p∈l->IsV f p.1)->l.length<=JD f l
 | [],_=>Nat.zero_le _
 | p :: l,h=>by
  have h1:=jaT (h p (by simp));have h2:=Za (f:=f) (l:=l) (fun q hq=>h q (by simp [hq]));have e:JD f (p :: l)=jB f p.1+JD f l:=rfl;rw [e,List.length_cons];omega
theorem Flat.isV {ok:Nat->Prop}{f:Nat}{w:World}:∀{l:List (V×Nat)} {xs:List Value},Flat ok f w xs l->∀p,p∈l->IsV f p.1
 | [],xs,h=>by simp
 | (y,a) :: l,xs,h=>by
  obtain⟨x0,x1,x2,x3,x4,x5,r,rfl,hl,hr⟩:=h;intro p hp
  rcases List.mem_cons.1 hp with rfl | hp
  ·exact hl.isV
  ·exact hr.isV p hp
theorem jcS {f:Nat}{y:V}{a:Nat}{l:List (V×Nat)}(hy:IsV f y):JD f ((parts y).map (fun z=>(z,a+1))++l)+1=JD f ((y,a) :: l):=by
 have e:JD f ((y,a) :: l)=jB f y+JD f l:=rfl;rw [e,QA hy,JD,List.map_append,zm,List.map_map];have e2:(Prod.fst ∘ fun z:V=>(z,a+1))=id:=rfl;rw [e2,List.map_id];unfold JD;omega
theorem jjH:(Tryz.prog.info? 81).map (fun i=>(i.zero,i.size,i.bytes))=some (some (.agg #[.int .i64 0,.int .i64 0,.int .u64 0,.string ⟨#[]⟩,.slice none 0 0,.slice none 0 0,.int .i64 0]),7,96):=by kernel_rfl
theorem jaV (w:World)(x0 x1 x2 x3 x4 x5 x6:Value)(t:TypeId):∀j u,[x0,x1,x2,x3,x4,x5,x6][j]?=some u->(w.alloc (.cells #[x0,x1,x2,x3,x4,x5,x6] t)).cell? ((⟨w.heap.size,0,none⟩:Addr).add j)=some u :=
 fun j u hu=>World.news_of_block (jd w #[x0,x1,x2,x3,x4,x5,x6] t) j u hu
theorem jjc {ok:Nat->Prop}{f base n:Nat}{w W:World}{v:Value}{xs:List Value}{l:List (V×Nat)}(h:W.ownsRow base 81 7 v n xs)(hf:Flat ok f w xs l)(hb:w.heap.size<=base):jkg ok f w W v l:=by
 have hl:=hf.len;have hx:=h.1;have hn:n=l.length:=by omega
 rcases h.2 with ⟨rfl,h0⟩ | ⟨g,cap,cur,rfl,hg,hblk,hc,_,hcs,ht⟩
 ·obtain rfl:l=[]:=List.eq_nil_of_length_eq_zero (by omega)
  exact⟨none,0,xs,rfl,Nat.le_refl _,hf,fun h=>absurd rfl h⟩
 ·refine⟨some ⟨g,0,none⟩,cap,xs,by rw [hn],by omega,hf,fun _=>⟨g,0,rfl,by omega,(Array.getElem?_eq_some_iff.1 hblk).1,fun k u hk=>?_⟩⟩
  have hlt:k<n*7:=by
   have:=(List.getElem?_eq_some_iff.1 hk).1;omega
  rw [<-ht,List.getElem?_take,if_pos hlt,Array.getElem?_toList] at hk;rw [Nat.zero_add];simp only [World.cell?,hblk];exact hk
theorem jfr {ok:Nat->Prop}{f:Nat}{w:World}{y:V}{k n:Int}{b:Nat}{s:ByteArray}{pL:Option Addr}{nL cL:Nat}{pE:Option Addr}{nE cE:Nat}(h:LiesV ok f w [.int .i64 k,.int .i64 n,.int .u64 (b:Int),.string s,.slice pL nL cL,.slice pE nE cE] y) :
  ∃L E:List V,y=mkV (k,n,b,s.data.toList) L E/\nL=L.length/\nE=E.length/\(L.length<=cL/\cL<=maxLen/\E.length<=cE/\cE<=maxLen)/\RowIn ok w pL 6 L.length (fun j us=>∃z,L[j]?=some z/\LiesV ok f w us z)/\jhg ok f w pE E:=by
 cases f with
 | zero=>exact h.elim
 | succ f=>
  obtain⟨k',n',b',s',L,E,pL',pE',cL',cE',rfl,hv,h3,h4,hL,hE⟩:=h;simp only [List.cons.injEq,Value.int.injEq,Value.string.injEq,Value.slice.injEq,true_and,and_true] at hv;obtain⟨rfl,rfl,hbb,rfl,⟨rfl,rfl,rfl⟩,⟨rfl,rfl,rfl⟩⟩:=hv;obtain rfl:b=b':=by omega
  exact⟨L,E,rfl,rfl,rfl,h4,hL.kept (fun _ h=>h) (Nat.le_refl _) (fun _ _ _=>rfl) (fun j us _ ⟨z,a1,a2⟩=>⟨z,a1,a2.up⟩),hE.kept (fun _ h=>h) (Nat.le_refl _) (fun _ _ _=>rfl) (fun j us _ ⟨key,z,xs,a1,a2,a3,a4⟩=>⟨key,z,xs,a1,a2,a3,a4.up⟩)⟩
theorem jaP {l:List V}{j:Nat}{z:V}(h:l[j]?=some z):l.take (j+1)=l.take j++[z]:=by
 rw [List.take_add_one,h];rfl
theorem jh9 {ok:Nat->Prop}{f:Nat}{w:World}{y:V}{x0 x1 x2 x3 x4 x5:Value}(h:LiesV ok f w [x0,x1,x2,x3,x4,x5] y) :
  Calls Tryz.prog 40 #[.agg #[x0,x1,x2,x3,x4,x5]] w fun e w'=>e=.returned (.int .i64 (jR y))/\Below w.heap.size w w':=by
 cases f with
 | zero=>exact h.elim
 | succ f=>
  obtain⟨k,n,b,s,L,E,pL,pE,cL,cE,rfl,hv,h3,h4,hL,hE⟩:=h;cases hv
  exact jin ok f w k n b s L E pL pE cL cE h3.2.2.1 h3.2.2.2 hE h4.1 h4.2.1 h4.2.2.1 h4.2.2.2
theorem jfK (f:Nat)(w:World)(t:V)(a0 a1 a2 a3 a4 a5:Value)(hl:LiesV (fun b=>b<w.heap.size) f w [a0,a1,a2,a3,a4,a5] t)(hn:jB f t<=10000000) :
  Calls Tryz.prog 22 #[.agg #[a0,a1,a2,a3,a4,a5]] w fun e w'=>e=.returned (.int .i64 (jC jR t))/\Below w.heap.size w w':=by
 obtain⟨i0,hi,hz0,hz1,hz2⟩:=info_parts jjH;obtain⟨k,n,b,s,pL,nL,cL,pE,nE,cE,rfl,rfl,rfl,rfl,rfl,rfl⟩:=hl.form
 go_enter Tryz.func22,Tryz.ntmps22
 go_wp2
 go_loopw [3,4] (fun tv mv wr=>∃(l:List (V×Nat)) (many:Nat),mv=.int .i64 (many:Int)/\many<=2000/\(∀p,p∈l->p.2<=20)/\jkg (fun b=>b<w.heap.size) f w wr tv l/\JD f l<=jB f t/\Hid (chk jR (2000 - many) l=jC jR t)/\Below w.heap.size w wr) (fun _ mv _=>2001 - (intOf mv).toNat)
 case atStart=>
  refine⟨[(t,0)],0,rfl,by omega,by simp,⟨some ⟨w.heap.size+1,0,none⟩,1,[.int .i64 k,.int .i64 n,.int .u64 (b:Int),.string s,.slice pL nL cL,.slice pE nE cE,.int .i64 0],rfl,Nat.le_refl _,⟨_,_,_,_,_,_,[],rfl,hl,rfl⟩,fun _=>⟨w.heap.size+1,0,rfl,by omega,by simp,fun j u hu=>?_⟩⟩,Nat.le_refl _,rfl,((Below.refl _ w).alloc (Nat.le_refl _) _).alloc (by simp) _⟩;have hb:=jd (w.alloc (.cells #[.int .i64 k,.int .i64 n,.int .u64 (b:Int),.string s,.slice pL nL cL,.slice pE nE cE] 26)) #[.int .i64 k,.int .i64 n,.int .u64 (b:Int),.string s,.slice pL nL cL,.slice pE nE cE,.int .i64 0] 81;rw [World.size_alloc] at hb;rw [Nat.zero_add];exact hb.cell j u (by simpa using hu)
 case round=>
  obtain⟨l,many,rfl,hmany,h20,⟨tp,tc,xs,rfl,htc,hflat,hcells⟩,hnl,hacc,hbw⟩:=hrel;cases l with
  | nil=>
   have hz:jC jR t=0:=by
    rw [<-hacc.out];cases 2000 - many<;>rfl
   have HZ:=jb hz;clear hz hacc;simp only [List.length_nil];go_wp2;go_ret;exact⟨by rw [HZ.out];rfl,hbw⟩
  | cons q l=>
   obtain⟨y,a⟩:=q;obtain⟨x0,x1,x2,x3,x4,x5,r,rfl,hly,hr⟩:=hflat;obtain⟨B,o,rfl,hBge,hBlt,hc⟩:=hcells (by simp);have hLV:=hly;obtain⟨vk,vn,vb,vs,vpL,vnL,vcL,vpE,vnE,vcE,rfl,rfl,rfl,rfl,rfl,rfl⟩:=hly.form;have ha20:a<=20:=h20 (y,a) (by simp);have q0:=hc 0 _ rfl;have q1:=hc 1 _ rfl;have q2:=hc 2 _ rfl;have q3:=hc 3 _ rfl;have q4:=hc 4 _ rfl;have q5:=hc 5 _ rfl;have q6:=hc 6 _ rfl;rw [Nat.add_zero] at q0
   have hrest:Hid (∀j u,r[j]?=some u->wr.cell? ⟨B,o+7+j,none⟩=some u):=fun j u hu=>by
    have:=hc (j+7) u hu;rwa [show o+7+j=o+(j+7) by omega]
   obtain⟨A,hA⟩:∃A,A=wr.alloc (.cells #[.int .i64 vk,.int .i64 vn,.int .u64 (vb:Int),.string vs,.slice vpL vnL vcL,.slice vpE vnE vcE,.int .i64 (a:Int)] 81):=⟨_,rfl⟩
   have hblk:Blk A wr.heap.size #[.int .i64 vk,.int .i64 vn,.int .u64 (vb:Int),.string vs,.slice vpL vnL vcL,.slice vpE vnE vcE,.int .i64 (a:Int)] 81:=by rw [hA];exact jd _ _ _
   have hbA:Below w.heap.size w A:=by rw [hA];exact hbw.alloc (by have:=hbw.size;omega) _
   have hwA:Below wr.heap.size wr A:=by rw [hA];exact(Below.refl _ _).alloc (Nat.le_refl _) _
   simp only [List.length_cons] at htc;have hrest1:=hrest;simp only [List.length_cons];clear hc hcells
   go_upto_region 5 with fail
   rw [<-hA]
   go_cut [3] from 21 to 22 (fun v wx=>(∃B' o',v=.slice (some ⟨B',o',none⟩) l.length (tc - 1)/\(l≠[]->B'=B/\o'=o+7))/\wx=A)
   case first=>
    by_cases h1:tc=1
    ·subst h1
     have hl0:l=[]:=List.eq_nil_of_length_eq_zero (by omega);have HL:=jb hl0;clear hl0 hA
     go_wp2_with fail
     all_goals go_meet
     all_goals exact⟨⟨B,o,by rw [HL.out];rfl,fun h=>absurd HL.out h⟩,rfl⟩
    ·have h1':(1:Int)<(tc:Int):=by omega
     clear hA
     go_wp2_with fail
     go_meet
     exact⟨⟨B,o+7,rfl,fun _=>⟨rfl,rfl⟩⟩,rfl⟩
   case rest=>
    obtain⟨⟨B',o',rfl,hBo⟩,hwc⟩:=hcut;rw [hwc];clear hwc wc;have HACC:=hacc.out;have e1:((many+1:Nat):Int)=(many:Int)+1:=by omega
    clear hA hacc q0 q1 q2 q3 q4 q5 q6;have z0:=hblk.cell 0 _ rfl;have z1:=hblk.cell 1 _ rfl;have z2:=hblk.cell 2 _ rfl;have z3:=hblk.cell 3 _ rfl;have z4:=hblk.cell 4 _ rfl;have z5:=hblk.cell 5 _ rfl;have z6:=hblk.cell 6 _ rfl
    by_cases g1:many=2000
    ·have hv:jC jR t=2:=by
      rw [<-HACC,g1];rfl
     have i1:(many:Int)+1 > 2000:=by omega
     have HV:=jb hv;clear hv HACC g1
     go_wp2_with fail
     go_ret;exact⟨by rw [HV.out];rfl,hbA⟩
    have i1:¬(many:Int)+1 > 2000:=by omega
    obtain⟨m,hm⟩:∃m,2000 - many=m+1:=⟨1999 - many,by omega⟩
    rw [hm] at HACC;have hck2:(if 20<=a then 5 else if jR y=0 then chk jR m ((parts y).map (fun z=>(z,a+1))++l) else jR y)=jC jR t:=HACC;clear HACC
    by_cases g2:20<=a
    ·rw [if_pos g2] at hck2
     have i2:(a:Int) ≥ 20:=by omega
     have HV:=jb hck2;clear hck2
     go_wp2_with fail
     go_ret;exact⟨by rw [<-HV.out];rfl,hbA⟩
    rw [if_neg g2] at hck2;have i2:¬(a:Int) ≥ 20:=by omega
    have hon:=jh9 (hLV.kept (fun _ h=>h) hbA.size (fun b h _=>hbA.block b h));have HON:=jb hon;clear hon
    by_cases g3:jR y=0
    ·rw [if_pos g3] at hck2
     rw [g3] at HON;have HC:=jb hck2;clear hck2 g3
     go_upto_region 15 with (go_at_call 40;refine(ja HON).mono ?_;rintro e A3 ⟨rfl,b3⟩)
     obtain⟨L,E,rfl,rfl,rfl,⟨l1,l2,l3,l4⟩,hRL,hRE⟩:=jfr hLV;have hm9:maxLen=9223372036854775807:=rfl;have hblk3:Blk A3 wr.heap.size #[.int .i64 vk,.int .i64 vn,.int .u64 (vb:Int),.string vs,.slice vpL L.length vcL,.slice vpE E.length vcE,.int .i64 (a:Int)] 81:=hblk.below b3;have hb3:Below w.heap.size w A3:=hbA.trans (b3.mono hbA.size);have hw3:Below wr.heap.size wr A3:=hwA.trans (b3.mono hwA.size);have hrest3:Hid (∀j u,r[j]?=some u->A3.cell? ⟨B,o+7+j,none⟩=some u):=fun j u hu=>(hw3.cell (p:=⟨B,o+7+j,none⟩) hBlt).trans (hrest.out j u hu)
     have hB3:B<A3.heap.size:=Nat.lt_of_lt_of_le hBlt hw3.size;have hisV:=hLV.isV;have hnode:=jcS (f:=f) (a:=a) (l:=l) hisV;have hflatV:=hr.isV;clear HON z0 z1 z2 z3 z4 z5 z6 hblk hrest hrest1 hwA b3 hw3 hBlt hbA;obtain⟨Bx,hBx⟩:∃Bx,Bx=wr.heap.size:=⟨_,rfl⟩
     rw [<-hBx] at hblk3 ⊢;clear hBx;have y4:=hblk3.cell 4 _ rfl;have y5:=hblk3.cell 5 _ rfl;have y6:=hblk3.cell 6 _ rfl
     go_wp2_with fail
     go_loopw [7,40] (fun pv i wx=>∃(j:Nat) (ys:List Value),i=.int .i64 j/\j<=L.length/\wx.ownsRow A3.heap.size 81 7 pv j ys/\Hid (Flat (fun b=>b<w.heap.size) f w ys ((L.take j).map fun z=>(z,a+1)))/\Below A3.heap.size A3 wx) (fun _ i _=>L.length - (intOf i).toNat)
     case atStart=>exact⟨0,[],rfl,Nat.zero_le _,World.ownsRow_nil _ _ _ _,by simp [Flat,Hid],Below.refl _ _⟩
     case round=>
      obtain⟨j,ys,rfl,hj,hown,hfl,hbx⟩:=hrel
      by_cases hlt:j<L.length
      ·obtain⟨bL,oL,rfl,hbL,_,x0,x1,x2,x3,x4,x5,⟨z,hz,hlz⟩,c0,c1,c2,c3,c4,c5⟩:=hRL.six hlt
       have hLZ:=hlz;obtain⟨uk,un,ub,us,upL,unL,ucL,upE,unE,ucE,rfl,rfl,rfl,rfl,rfl,rfl⟩:=hlz.form;have hbt:Below w.heap.size w wr:=hb3.trans (hbx.mono hb3.size);have e0:=(hbt.cell (p:=⟨bL,oL+j*6,none⟩) hbL).trans c0;have e1':=(hbt.cell (p:=⟨bL,oL+j*6+1,none⟩) hbL).trans c1;have e2:=(hbt.cell (p:=⟨bL,oL+j*6+2,none⟩) hbL).trans c2;have e3:=(hbt.cell (p:=⟨bL,oL+j*6+3,none⟩) hbL).trans c3;have e4:=(hbt.cell (p:=⟨bL,oL+j*6+4,none⟩) hbL).trans c4;have e5:=(hbt.cell (p:=⟨bL,oL+j*6+5,none⟩) hbL).trans c5;have v6:wr.cell? ⟨Bx,6,none⟩=some (.int .i64 (a:Int)):=(hbx.cell (p:=⟨Bx,6,none⟩) hblk3.lt).trans y6
       have v7:(wr.alloc (.cells #[.int .i64 uk,.int .i64 un,.int .u64 (ub:Int),.string us,.slice upL unL ucL,.slice upE unE ucE] 26)).cell? ⟨Bx,6,none⟩=some (.int .i64 (a:Int)):=(World.cell?_of_block (Below.heap_alloc _ _ _ (Nat.lt_of_lt_of_le hblk3.lt hbx.size))).trans v6
       have hjl:j+1<=10000000:=by
        have h1:=hnode
        have h2:=Za (f:=f) (l:=(parts (mkV (vk,vn,vb,vs.data.toList) L E)).map (fun z=>(z,a+1))++l) (fun p hp=>by
         rcases List.mem_append.1 hp with hp | hp
         ·obtain⟨z,hz,rfl⟩:=List.mem_map.1 hp
          exact(hisV.more.part hz)
         ·exact hflatV p hp)
        rw [j8] at h2;simp only [List.length_append,List.length_map] at h2;rw [j8] at h1;omega
       clear c0 c1 c2 c3 c4 c5 hlz
       go_wp2_with (at_builtin;refine wpList_append_own_at _ rfl _ _ 82 rfl A3.heap.size 81 i0 _ 7 96 Tryz.underlying82 hi hz0 hz1 hz2 rfl (by decide) _ _ _ rfl ((hown.alloc _).alloc _) ⟨wr.heap.size+1,0,none⟩ 1 1 [.int .i64 uk,.int .i64 un,.int .u64 (ub:Int),.string us,.slice upL unL ucL,.slice upE unE ucE,.int .i64 ((a:Int)+1)] rfl rfl ?c1 ?c2 ?c3 ?c4 ?c5 ?_)
       case c1=>
        have:=jaV (wr.alloc (.cells #[.int .i64 uk,.int .i64 un,.int .u64 (ub:Int),.string us,.slice upL unL ucL,.slice upE unE ucE] 26)) (.int .i64 uk) (.int .i64 un) (.int .u64 (ub:Int)) (.string us) (.slice upL unL ucL) (.slice upE unE ucE) (.int .i64 ((a:Int)+1)) 81;rw [World.size_alloc] at this;exact this
       case c2=>intro u hu;simp at hu;rcases hu with rfl | rfl | rfl | rfl | rfl | rfl | rfl<;>rfl
       case c3=>unfold maxLen;omega
       case c4=>omega
       case c5=>have:=hbx.size;simp;omega
       intro v' w1 hown1 hg1 _ _
       go_wp2_with fail
       go_roundw
       case rel=>
        refine⟨j+1,_,by simp,by omega,hown1,?_,?_⟩
        ·rw [jaP hz,List.map_append]
         exact Flat.append hfl.out ⟨_,_,_,_,_,_,[],rfl,hLZ,rfl⟩
        ·exact(((hbx.alloc hbx.size _).alloc (by have:=hbx.size;simp;omega) _).grown hg1 (by have:=hbx.size;simp;omega) (fun g hg=>(World.ownsRow.lt hown g hg).1))
       case measure=>simp [intOf];omega
      ·obtain rfl:j=L.length:=by omega
       have v5:wr.cell? ⟨Bx,5,none⟩=some (.slice vpE E.length vcE):=(hbx.cell (p:=⟨Bx,5,none⟩) hblk3.lt).trans y5
       have hall:L.length+E.length+l.length<=10000000:=by
        have h1:=hnode
        have h2:=Za (f:=f) (l:=(parts (mkV (vk,vn,vb,vs.data.toList) L E)).map (fun z=>(z,a+1))++l) (fun p hp=>by
         rcases List.mem_append.1 hp with hp | hp
         ·obtain⟨z,hz,rfl⟩:=List.mem_map.1 hp
          exact(hisV.more.part hz)
         ·exact hflatV p hp)
        rw [j8] at h2;simp only [List.length_append,List.length_map] at h2;rw [j8] at h1;omega
       go_wp2_with fail
       go_loopw [7,57] (fun pv i wx=>∃(j:Nat) (ys:List Value),i=.int .i64 j/\j<=E.length/\wx.ownsRow A3.heap.size 81 7 pv (L.length+j) ys/\Hid (Flat (fun b=>b<w.heap.size) f w ys ((L++(E.take j).map (fun e=>(jz e).2)).map fun z=>(z,a+1)))/\Below A3.heap.size A3 wx) (fun _ i _=>E.length - (intOf i).toNat)
       case atStart=>exact⟨0,ys,rfl,Nat.zero_le _,hown,by rw [List.take_zero,List.map_nil,List.append_nil];rw [List.take_length] at hfl;exact hfl,hbx⟩
       case round=>
        clear hfl hbx hown v5;obtain⟨j,ys,rfl,hj,hown,hfl,hbx⟩:=hrel
        by_cases hlt2:j<E.length
        ·obtain⟨bE,oE,rfl,hbE,_,x0,x1,x2,x3,x4,x5,x6,⟨key,z,xs,hz,hus,hks,hlz⟩,c0,c1,c2,c3,c4,c5,c6⟩:=hRE.seven hlt2
         cases hus
         have hLZ:=hlz;obtain⟨uk,un,ub,us,upL,unL,ucL,upE,unE,ucE,rfl,rfl,rfl,rfl,rfl,rfl⟩:=hlz.form;have hbt:Below w.heap.size w wr:=hb3.trans (hbx.mono hb3.size);have e0:=(hbt.cell (p:=⟨bE,oE+j*7,none⟩) hbE).trans c0;have e1':=(hbt.cell (p:=⟨bE,oE+j*7+1,none⟩) hbE).trans c1;have e2:=(hbt.cell (p:=⟨bE,oE+j*7+2,none⟩) hbE).trans c2;have e3:=(hbt.cell (p:=⟨bE,oE+j*7+3,none⟩) hbE).trans c3;have e4:=(hbt.cell (p:=⟨bE,oE+j*7+4,none⟩) hbE).trans c4;have e5:=(hbt.cell (p:=⟨bE,oE+j*7+5,none⟩) hbE).trans c5;have e6:=(hbt.cell (p:=⟨bE,oE+j*7+6,none⟩) hbE).trans c6;have v6:wr.cell? ⟨Bx,6,none⟩=some (.int .i64 (a:Int)):=(hbx.cell (p:=⟨Bx,6,none⟩) hblk3.lt).trans y6
         obtain⟨W4,hW4⟩:∃W4,W4=wr.alloc (.cells #[.string key,.int .i64 uk,.int .i64 un,.int .u64 (ub:Int),.string us,.slice upL unL ucL,.slice upE unE ucE] 44):=⟨_,rfl⟩
         have hb4:Blk W4 wr.heap.size #[.string key,.int .i64 uk,.int .i64 un,.int .u64 (ub:Int),.string us,.slice upL unL ucL,.slice upE unE ucE] 44:=by rw [hW4];exact jd _ _ _
         have v7:W4.cell? ⟨Bx,6,none⟩=some (.int .i64 (a:Int)):=by rw [hW4];exact(World.cell?_of_block (Below.heap_alloc _ _ _ (Nat.lt_of_lt_of_le hblk3.lt hbx.size))).trans v6
         have p1:=hb4.cell 1 _ rfl;have p2:=hb4.cell 2 _ rfl;have p3:=hb4.cell 3 _ rfl;have p4:=hb4.cell 4 _ rfl;have p5:=hb4.cell 5 _ rfl;have p6:=hb4.cell 6 _ rfl;rw [hW4] at v7 p1 p2 p3 p4 p5 p6;clear c0 c1 c2 c3 c4 c5 c6 hlz hW4 hb4
         go_wp2_with (at_builtin;refine wpList_append_own_at _ rfl _ _ 82 rfl A3.heap.size 81 i0 _ 7 96 Tryz.underlying82 hi hz0 hz1 hz2 rfl (by decide) _ _ _ rfl ((hown.alloc _).alloc _) ⟨wr.heap.size+1,0,none⟩ 1 1 [.int .i64 uk,.int .i64 un,.int .u64 (ub:Int),.string us,.slice upL unL ucL,.slice upE unE ucE,.int .i64 ((a:Int)+1)] rfl rfl ?c1 ?c2 ?c3 ?c4 ?c5 ?_)
         case c1=>
          have:=jaV (wr.alloc (.cells #[.string key,.int .i64 uk,.int .i64 un,.int .u64 (ub:Int),.string us,.slice upL unL ucL,.slice upE unE ucE] 44)) (.int .i64 uk) (.int .i64 un) (.int .u64 (ub:Int)) (.string us) (.slice upL unL ucL) (.slice upE unE ucE) (.int .i64 ((a:Int)+1)) 81;rw [World.size_alloc] at this;exact this
         case c2=>intro u hu;simp at hu;rcases hu with rfl | rfl | rfl | rfl | rfl | rfl | rfl<;>rfl
         case c3=>unfold maxLen;omega
         case c4=>omega
         case c5=>have:=hbx.size;simp;omega
         intro v' w1 hown1 hg1 _ _
         go_wp2_with fail
         go_roundw
         case rel=>
          refine⟨j+1,_,by simp,by omega,hown1,?_,?_⟩
          ·have e7:L++(E.take (j+1)).map (fun e=>(jz e).2)=(L++(E.take j).map (fun e=>(jz e).2))++[z]:=by
            rw [jaP hz,List.map_append,<-List.append_assoc];rfl
           rw [e7,List.map_append];exact Flat.append hfl.out ⟨_,_,_,_,_,_,[],rfl,hLZ,rfl⟩
          ·exact(((hbx.alloc hbx.size _).alloc (by have:=hbx.size;simp;omega) _).grown hg1 (by have:=hbx.size;simp;omega) (fun g hg=>(World.ownsRow.lt hown g hg).1))
         case measure=>simp [intOf];omega
        ·obtain rfl:j=E.length:=by omega
         have hnews:∀j u,r[j]?=some u->wr.cell? ((⟨B',o',none⟩:Addr).add j)=some u:=fun j u hu=>by
          have hne:l≠[]:=fun e=>by
           subst e;rw [show r=[] from hr] at hu;simp at hu
          obtain⟨rfl,rfl⟩:=hBo hne;rw [Addr.add_lit];exact(hbx.cell (p:=⟨B',o+7+j,none⟩) hB3).trans (hrest3.out j u hu)
         have hlen:=hr.len;have hone:=hr.one;have HN:=jb hnews;have HR:=jb hr;have HO:=jb hone;clear hnews hr hone
         go_wp2_with (at_builtin;refine wpList_append_own_at _ rfl _ _ 82 rfl A3.heap.size 81 i0 _ 7 96 Tryz.underlying82 hi hz0 hz1 hz2 rfl (by decide) _ _ _ rfl hown ⟨B',o',none⟩ l.length (tc - 1) r rfl hlen HN.out HO.out ?c3 ?c4 ?c5 ?_)
         case c3=>unfold maxLen;omega
         case c4=>omega
         case c5=>exact hbx.size
         intro v' w1 hown1 hg1 _ _
         go_wp2_with fail
         go_roundw
         case rel=>
          refine⟨(parts (mkV (vk,vn,vb,vs.data.toList) L E)).map (fun z=>(z,a+1))++l,many+1,by simp,by omega,?_,jjc hown1 ?_ hb3.size,by omega,?_,?_⟩
          ·intro p hp
           rcases List.mem_append.1 hp with hp | hp
           ·obtain⟨z,hz,rfl⟩:=List.mem_map.1 hp
            show a+1<=20
            omega
           ·exact h20 p (by simp [hp])
          ·rw [List.take_length] at hfl
           exact Flat.append hfl.out HR.out
          ·have e8:2000 - (many+1)=m:=by omega
           rw [e8];exact HC.out
          ·exact hb3.trans ((hbx.grown hg1 hbx.size (fun g hg=>(World.ownsRow.lt hown g hg).1)).mono hb3.size)
         case measure=>simp [intOf];omega
    ·rw [if_neg g3] at hck2
     obtain⟨v,hv⟩:∃v,v=jR y:=⟨_,rfl⟩
     rw [<-hv] at HON hck2 g3;have g4:(v != 0)=true:=bne_iff_ne.2 g3;have HV:=jb hck2;clear hck2 hv
     go_wp2_with (go_at_call 40;refine(ja HON).mono ?_;rintro e A3 ⟨rfl,b3⟩)
     go_ret;exact⟨by rw [<-HV.out];rfl,hbA.trans (b3.mono hbA.size)⟩
end valus
end Go.Proofs.YtnbfnjhbmeocfaaGreatDoor
