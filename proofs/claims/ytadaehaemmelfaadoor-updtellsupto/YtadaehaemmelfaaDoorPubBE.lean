/- Of our texts, what this claim reaches. -/
import Derived.Test.YtadaehaemmelfaaDoorPubBD
import Derived.Test.YtadaehaemmelfaaDoorPubAE
import Derived.Test.YtadaehaemmelfaaDoorPubAK
import Derived.WalkLawsBesides
set_option linter.unusedVariables false
set_option maxHeartbeats 4000000
set_option maxRecDepth 100000
namespace Go.Proofs.YtadaehaemmelfaaDoor
namespace valus
open Go.RowKit
def qj (l:List (List UInt8))(j:Nat):Option (List UInt8):=if j=0 then none else l[j - 1]?
abbrev jaC (ok:Nat->Prop) (f:Nat) (w:World) (p:Option Addr) (E:List V):Prop:=RowIn ok w p 7 E.length (fun j us=>∃(key:ByteArray) (y:V) (xs:List Value),E[j]?=some (ent key.data.toList y)/\us=.string key :: xs/\key.size<=maxLen/\LiesV ok f w xs y)
theorem Zb (ok:Nat->Prop)(f:Nat)(w:World)(E:List V)(pE:Option Addr)(cE:Nat)(hE:jaC ok f w pE E)(h1:E.length<=cE)(h2:cE<=maxLen)(hT:Lib.Utf8Tabs 1 2 w) :
  Calls Tryd.prog 59 #[.slice pE E.length cE] w fun e w'=>e=.returned (.int .i64 (qp none (jF E)))/\Below w.heap.size w w':=by
 have h3:E.length<=9223372036854775807:=by unfold maxLen at h2;omega
 go_enter Tryd.func59,Tryd.ntmps59
 go_wp2
 go_loopw [7] (fun i wr=>∃j:Nat,i=.int .i64 j/\j<=E.length/\Hid (qp (qj (jF E) j) ((jF E).drop j)=qp none (jF E))/\Below w.heap.size w wr) (fun i _=>E.length - (intOf i).toNat)
 case atStart=>exact⟨0,rfl,Nat.zero_le _,rfl,Below.refl _ _⟩
 case round=>
  obtain⟨j,rfl,hj,hacc,hbw⟩:=hrel
  by_cases hlt:j<E.length
  ·obtain⟨B,o,rfl,_,hBl,x0,x1,x2,x3,x4,x5,x6,⟨key,y,xs,hy,hus,hks,hly⟩,k0,k1,k2,k3,k4,k5,k6⟩:=hE.seven hlt
   cases hus
   obtain⟨vk,vn,vb,vs,vpL,vnL,vcL,vpE,vnE,vcE,rfl,rfl,rfl,rfl,rfl,rfl⟩:=hly.form;have q0:=(hbw.cell (p:=⟨B,o+j*7,none⟩) hBl).trans k0;have q1:=(hbw.cell (p:=⟨B,o+j*7+1,none⟩) hBl).trans k1;have q2:=(hbw.cell (p:=⟨B,o+j*7+2,none⟩) hBl).trans k2;have q3:=(hbw.cell (p:=⟨B,o+j*7+3,none⟩) hBl).trans k3;have q4:=(hbw.cell (p:=⟨B,o+j*7+4,none⟩) hBl).trans k4;have q5:=(hbw.cell (p:=⟨B,o+j*7+5,none⟩) hBl).trans k5;have q6:=(hbw.cell (p:=⟨B,o+j*7+6,none⟩) hBl).trans k6;have hkey:(jF E)[j]?=some key.data.toList:=by rw [jF,List.getElem?_map,hy];rfl
   have hstep:=Xl (p:=qj (jF E) j) hkey;rw [hacc.out] at hstep;have hprev:qj (jF E) (j+1)=some key.data.toList:=by rw [qj,if_neg (by omega)];exact hkey
   have hlen:key.data.toList.length=key.size:=jn key;clear k0 k1 k2 k3 k4 k5 k6 hacc;obtain⟨A,hA⟩:∃A,A=wr.alloc (.cells #[.string key,.int .i64 vk,.int .i64 vn,.int .u64 (vb:Int),.string vs,.slice vpL vnL vcL,.slice vpE vnE vcE] 57):=⟨_,rfl⟩
   have hblk:Blk A wr.heap.size #[.string key,.int .i64 vk,.int .i64 vn,.int .u64 (vb:Int),.string vs,.slice vpL vnL vcL,.slice vpE vnE vcE] 57:=by rw [hA];exact jb _ _ _
   have hbA:Below w.heap.size w A:=by rw [hA];exact hbw.alloc (by have:=hbw.size;omega) _
   have a0:=hblk.cell 0 _ rfl;rw [hA] at a0
   by_cases hbig:100<key.size
   ·have hk0:jW (qj (jF E) j) key.data.toList=2:=by unfold jW;rw [if_pos (by omega)]
    rw [hk0,if_neg (by decide)] at hstep;have d1:(key.size:Int) > 100:=by omega
    have HS:=ja hstep;clear hstep hk0;go_wp2;go_ret;rw [<-hA];exact⟨by rw [HS.out];rfl,hbA⟩
   ·have d1:¬(key.size:Int) > 100:=by omega
    have hbad:=utfs.Qk key A (by unfold maxLen at hks;omega) (Utf8Tabs_below hT hbA);rw [hA] at hbad;have HB:=ja hbad;clear hbad
    by_cases hbd:0<=utfs.bad key.data.toList
    ·have hk0:jW (qj (jF E) j) key.data.toList=3:=by unfold jW;rw [if_neg (by omega),if_pos hbd]
     rw [hk0,if_neg (by decide)] at hstep;have HS:=ja hstep;clear hstep hk0
     go_wp2_with (go_at_call 58;refine(jc HB).mono ?_;rintro e w1 ⟨rfl,hb1⟩)
     go_ret;rw [<-hA] at hb1;exact⟨by rw [HS.out];rfl,hbA.trans (hb1.mono hbA.size)⟩
    ·have hkf:jW (qj (jF E) j) key.data.toList=ZU (qj (jF E) j) key.data.toList:=by unfold jW;rw [if_neg (by omega),if_neg hbd]
     by_cases hj0:j=0
     ·have hk0:jW (qj (jF E) j) key.data.toList=0:=by rw [hkf,hj0];rfl
      rw [if_pos hk0] at hstep;have HS:=ja hstep;have HJ:=ja hj0;clear hstep hk0 hkf hj0
      go_wp2_with (go_at_call 58;refine(jc HB).mono ?_;rintro e w1 ⟨rfl,hb1⟩)
      rw [<-hA] at hb1;have d3:decide (0<(j:Int))=false:=decide_eq_false (by have:=HJ.out;omega);have d4:decide (0<j)=false:=decide_eq_false (by have:=HJ.out;omega);have hmix:(Tryd.prog).follows .mixedOrders=true:=by kernel_rfl
      have a1:=(hb1.cell (p:=⟨wr.heap.size,0,none⟩) hblk.lt).trans (hblk.cell 0 _ rfl)
      go_quiet (fail)
      clear d3 d4;go_wp2;go_roundw
      case rel=>exact⟨j+1,by simp,by omega,by rw [hprev];exact HS.out.symm,below_drewN (hbA.trans (hb1.mono hbA.size)) _⟩
      case measure=>simp [intOf];omega
     ·obtain⟨i,rfl⟩:∃i,j=i+1:=⟨j - 1,by omega⟩
      obtain⟨B',o',eB,_,_,z0,z1,z2,z3,z4,z5,z6,⟨kp,yp,xsp,hyp,husp,hksp,_⟩,p0,_⟩:=hE.seven (show i<E.length by omega);cases husp
      cases eB
      have r0:=(hbw.cell (p:=⟨B,o+i*7,none⟩) hBl).trans p0;have hpk:qj (jF E) (i+1)=some kp.data.toList:=by rw [qj,if_neg (by omega),Nat.add_sub_cancel,jF,List.getElem?_map,hyp];rfl
      rw [hpk] at hkf hstep;have HS:=ja hstep;have HK:=ja hkf;clear hstep hkf hj0 p0
      go_wp2_with (go_at_call 58;refine(jc HB).mono ?_;rintro e w1 ⟨rfl,hb1⟩)
      rw [<-hA] at hb1;have hmix:(Tryd.prog).follows .mixedOrders=true:=by kernel_rfl
      have a1:=(hb1.cell (p:=⟨wr.heap.size,0,none⟩) hblk.lt).trans (hblk.cell 0 _ rfl);have r1:w1.cell? ⟨B,o+i*7,none⟩=some (.string kp):=(hb1.cell (p:=⟨B,o+i*7,none⟩) (by have:=hbA.size;simp only;omega)).trans (((hbA.cell (p:=⟨B,o+i*7,none⟩) hBl).trans ((hbw.cell (p:=⟨B,o+i*7,none⟩) hBl).symm)).trans r0)
      have d3:decide (0<((i:Int)+1))=true:=decide_eq_true (by omega);have d4:decide (0<i+1)=true:=decide_eq_true (by omega)
      go_quiet (fail)
      clear d3 d4;rw [ByteArray.toList_eq,ByteArray.toList_eq,jbw];have hkf:jW (some kp.data.toList) key.data.toList=if Op.bytesLess kp.data.toList key.data.toList=true then 0 else 14:=HK.out
      cases hl:Op.bytesLess kp.data.toList key.data.toList with
      | true=>
       rw [hl,if_pos rfl] at hkf;have hs2:=HS.out;rw [if_pos hkf] at hs2;have HS2:=ja hs2;clear hs2 hkf;go_wp2;go_roundw
       case rel=>exact⟨i+2,by simp;omega,by omega,by rw [hprev];exact HS2.out.symm,below_drewN (hbA.trans (hb1.mono hbA.size)) _⟩
       case measure=>simp [intOf];omega
      | false=>
       rw [hl,if_neg (by decide)] at hkf;have hs2:=HS.out;rw [hkf,if_neg (by decide)] at hs2;have HS2:=ja hs2;clear hs2 hkf;go_wp2;go_ret;exact⟨by rw [HS2.out];rfl,below_drewN (hbA.trans (hb1.mono hbA.size)) _⟩
  ·obtain rfl:j=E.length:=by omega
   have hz:qp none (jF E)=0:=by rw [<-hacc.out,List.drop_eq_nil_of_le (by simp [jF])];rfl
   go_wp2;go_ret;exact⟨by rw [hz];rfl,hbw⟩
end valus
set_option linter.unusedSimpArgs false
namespace valus
open Go.RowKit
structure Six (w:World) (B o:Nat) (k n:Int) (b:Nat) (s:ByteArray) (pL:Option Addr) (nL cL:Nat) (pE:Option Addr) (nE cE:Nat):Prop where
 c0:w.cell? ⟨B,o,none⟩=some (.int .i64 k)
 c1:w.cell? ⟨B,o+1,none⟩=some (.int .i64 n)
 c2:w.cell? ⟨B,o+2,none⟩=some (.int .u64 (b:Int))
 c3:w.cell? ⟨B,o+3,none⟩=some (.string s)
 c4:w.cell? ⟨B,o+4,none⟩=some (.slice pL nL cL)
 c5:w.cell? ⟨B,o+5,none⟩=some (.slice pE nE cE)
 lt:B<w.heap.size
theorem Six.below {w w':World}{B o:Nat}{k n:Int}{b:Nat}{s:ByteArray}{pL:Option Addr}{nL cL:Nat}{pE:Option Addr}{nE cE:Nat}(h:Six w B o k n b s pL nL cL pE nE cE)(hb:Below w.heap.size w w'):Six w' B o k n b s pL nL cL pE nE cE :=
 ⟨(hb.cell (p:=⟨B,o,none⟩) h.lt).trans h.c0,(hb.cell (p:=⟨B,o+1,none⟩) h.lt).trans h.c1,(hb.cell (p:=⟨B,o+2,none⟩) h.lt).trans h.c2,(hb.cell (p:=⟨B,o+3,none⟩) h.lt).trans h.c3,(hb.cell (p:=⟨B,o+4,none⟩) h.lt).trans h.c4,(hb.cell (p:=⟨B,o+5,none⟩) h.lt).trans h.c5,Nat.lt_of_lt_of_le h.lt hb.size⟩
theorem Qf (m:Nat):(((m:Nat):Int) == 0)=decide (m=0):=by
 by_cases h:m=0
 ·subst h
  rfl
 ·rw [decide_eq_false h]
  exact beq_false_of_ne (by omega)
theorem Qe (m:Nat):(((m:Nat):Int) != 9221120237041090561) = !decide (m=9221120237041090561):=by
 by_cases h:m=9221120237041090561
 ·subst h
  rfl
 ·rw [decide_eq_false h]
  exact bne_iff_ne.2 (by omega)
theorem jb0 (w:World)(B o:Nat)(n:Int)(b:Nat)(s:ByteArray)(pL:Option Addr)(nL cL:Nat)(pE:Option Addr)(nE cE:Nat)(hb:b<18446744073709551616)(h:Six w B o 0 n b s pL nL cL pE nE cE) :
  Calls Tryd.prog 57 #[.pointer (some ⟨B,o,none⟩)] w fun e w'=>e=.returned (.bool (decide (n=0/\b=0/\s.data.toList=[]/\nL=0/\nE=0)))/\Below w.heap.size w w':=by
 obtain⟨c0,c1,c2,c3,c4,c5,hlt⟩:=h;obtain⟨A,hA⟩:∃A,A=w.alloc (.cells #[.int .i64 0,.int .i64 n,.int .u64 (b:Int),.string s,.slice pL nL cL,.slice pE nE cE] 26):=⟨_,rfl⟩
 have hblk:Blk A w.heap.size #[.int .i64 0,.int .i64 n,.int .u64 (b:Int),.string s,.slice pL nL cL,.slice pE nE cE] 26:=by rw [hA];exact jb _ _ _
 have hbA:Below w.heap.size w A:=by rw [hA];exact(Below.refl _ w).alloc (Nat.le_refl _) _
 have z0:=(hbA.cell (p:=⟨B,o,none⟩) hlt).trans c0;have z1:=(hbA.cell (p:=⟨B,o+1,none⟩) hlt).trans c1;have z2:=(hbA.cell (p:=⟨B,o+2,none⟩) hlt).trans c2;have a1:=hblk.cell 1 _ rfl;have a2:=hblk.cell 2 _ rfl;have a3:=hblk.cell 3 _ rfl;have a4:=hblk.cell 4 _ rfl;have a5:=hblk.cell 5 _ rfl;have HB:=ja hbA;have HK:=ja hblk;rw [hA] at z0 z1 z2 a1 a2 a3 a4 a5;have HA:=ja hA;clear hA hbA hblk
 go_enter Tryd.func57,Tryd.ntmps57
 go_wp2
 all_goals
  go_ret;refine⟨congrArg (fun x=>Ending.returned (Value.bool x)) ?_,by first | exact(Below.refl _ w).alloc (Nat.le_refl _) _ | exact((Below.refl _ w).alloc (Nat.le_refl _) _).setCell (Nat.le_refl _) _⟩;clear z0 z1 z2 a1 a2 a3 a4 a5 c0 c1 c2 c3 c4 c5 HB HK HA
  try simp only [ByteArray.toList_eq,Qe,Qf] at *
  simp_all
theorem jce (w:World)(B o:Nat)(n:Int)(b:Nat)(s:ByteArray)(pL:Option Addr)(nL cL:Nat)(pE:Option Addr)(nE cE:Nat)(hb:b<18446744073709551616)(h:Six w B o 1 n b s pL nL cL pE nE cE) :
  Calls Tryd.prog 57 #[.pointer (some ⟨B,o,none⟩)] w fun e w'=>e=.returned (.bool (decide ((n=0\/n=1)/\b=0/\s.data.toList=[]/\nL=0/\nE=0)))/\Below w.heap.size w w':=by
 obtain⟨c0,c1,c2,c3,c4,c5,hlt⟩:=h;obtain⟨A,hA⟩:∃A,A=w.alloc (.cells #[.int .i64 1,.int .i64 n,.int .u64 (b:Int),.string s,.slice pL nL cL,.slice pE nE cE] 26):=⟨_,rfl⟩
 have hblk:Blk A w.heap.size #[.int .i64 1,.int .i64 n,.int .u64 (b:Int),.string s,.slice pL nL cL,.slice pE nE cE] 26:=by rw [hA];exact jb _ _ _
 have hbA:Below w.heap.size w A:=by rw [hA];exact(Below.refl _ w).alloc (Nat.le_refl _) _
 have z0:=(hbA.cell (p:=⟨B,o,none⟩) hlt).trans c0;have z1:=(hbA.cell (p:=⟨B,o+1,none⟩) hlt).trans c1;have z2:=(hbA.cell (p:=⟨B,o+2,none⟩) hlt).trans c2;have a1:=hblk.cell 1 _ rfl;have a2:=hblk.cell 2 _ rfl;have a3:=hblk.cell 3 _ rfl;have a4:=hblk.cell 4 _ rfl;have a5:=hblk.cell 5 _ rfl;have HB:=ja hbA;have HK:=ja hblk;rw [hA] at z0 z1 z2 a1 a2 a3 a4 a5;have HA:=ja hA;clear hA hbA hblk
 go_enter Tryd.func57,Tryd.ntmps57
 go_wp2
 all_goals
  go_ret;refine⟨congrArg (fun x=>Ending.returned (Value.bool x)) ?_,by first | exact(Below.refl _ w).alloc (Nat.le_refl _) _ | exact((Below.refl _ w).alloc (Nat.le_refl _) _).setCell (Nat.le_refl _) _⟩;clear z0 z1 z2 a1 a2 a3 a4 a5 c0 c1 c2 c3 c4 c5 HB HK HA
  try simp only [ByteArray.toList_eq,Qe,Qf] at *
  simp_all
theorem jb1 (w:World)(B o:Nat)(n:Int)(b:Nat)(s:ByteArray)(pL:Option Addr)(nL cL:Nat)(pE:Option Addr)(nE cE:Nat)(hb:b<18446744073709551616)(h:Six w B o 2 n b s pL nL cL pE nE cE) :
  Calls Tryd.prog 57 #[.pointer (some ⟨B,o,none⟩)] w fun e w'=>e=.returned (.bool (decide (b=0/\s.data.toList=[]/\nL=0/\nE=0)))/\Below w.heap.size w w':=by
 obtain⟨c0,c1,c2,c3,c4,c5,hlt⟩:=h;obtain⟨A,hA⟩:∃A,A=w.alloc (.cells #[.int .i64 2,.int .i64 n,.int .u64 (b:Int),.string s,.slice pL nL cL,.slice pE nE cE] 26):=⟨_,rfl⟩
 have hblk:Blk A w.heap.size #[.int .i64 2,.int .i64 n,.int .u64 (b:Int),.string s,.slice pL nL cL,.slice pE nE cE] 26:=by rw [hA];exact jb _ _ _
 have hbA:Below w.heap.size w A:=by rw [hA];exact(Below.refl _ w).alloc (Nat.le_refl _) _
 have z0:=(hbA.cell (p:=⟨B,o,none⟩) hlt).trans c0;have z1:=(hbA.cell (p:=⟨B,o+1,none⟩) hlt).trans c1;have z2:=(hbA.cell (p:=⟨B,o+2,none⟩) hlt).trans c2;have a1:=hblk.cell 1 _ rfl;have a2:=hblk.cell 2 _ rfl;have a3:=hblk.cell 3 _ rfl;have a4:=hblk.cell 4 _ rfl;have a5:=hblk.cell 5 _ rfl;have HB:=ja hbA;have HK:=ja hblk;rw [hA] at z0 z1 z2 a1 a2 a3 a4 a5;have HA:=ja hA;clear hA hbA hblk
 go_enter Tryd.func57,Tryd.ntmps57
 go_wp2
 all_goals
  go_ret;refine⟨congrArg (fun x=>Ending.returned (Value.bool x)) ?_,by first | exact(Below.refl _ w).alloc (Nat.le_refl _) _ | exact((Below.refl _ w).alloc (Nat.le_refl _) _).setCell (Nat.le_refl _) _⟩;clear z0 z1 z2 a1 a2 a3 a4 a5 c0 c1 c2 c3 c4 c5 HB HK HA
  try simp only [ByteArray.toList_eq,Qe,Qf] at *
  simp_all
theorem jb9 (w:World)(B o:Nat)(n:Int)(b:Nat)(s:ByteArray)(pL:Option Addr)(nL cL:Nat)(pE:Option Addr)(nE cE:Nat)(hb:b<18446744073709551616)(h:Six w B o 3 n b s pL nL cL pE nE cE) :
  Calls Tryd.prog 57 #[.pointer (some ⟨B,o,none⟩)] w fun e w'=>e=.returned (.bool (decide (((qd b).2.2=2->b=9221120237041090561)/\n=0/\s.data.toList=[]/\nL=0/\nE=0)))/\Below w.heap.size w w':=by
 obtain⟨c0,c1,c2,c3,c4,c5,hlt⟩:=h;obtain⟨A,hA⟩:∃A,A=w.alloc (.cells #[.int .i64 3,.int .i64 n,.int .u64 (b:Int),.string s,.slice pL nL cL,.slice pE nE cE] 26):=⟨_,rfl⟩
 have hblk:Blk A w.heap.size #[.int .i64 3,.int .i64 n,.int .u64 (b:Int),.string s,.slice pL nL cL,.slice pE nE cE] 26:=by rw [hA];exact jb _ _ _
 have hbA:Below w.heap.size w A:=by rw [hA];exact(Below.refl _ w).alloc (Nat.le_refl _) _
 have z0:=(hbA.cell (p:=⟨B,o,none⟩) hlt).trans c0;have z1:=(hbA.cell (p:=⟨B,o+1,none⟩) hlt).trans c1;have z2:=(hbA.cell (p:=⟨B,o+2,none⟩) hlt).trans c2;have a1:=hblk.cell 1 _ rfl;have a2:=hblk.cell 2 _ rfl;have a3:=hblk.cell 3 _ rfl;have a4:=hblk.cell 4 _ rfl;have a5:=hblk.cell 5 _ rfl;have HB:=ja hbA;have HK:=ja hblk;rw [hA] at z0 z1 z2 a1 a2 a3 a4 a5;have HA:=ja hA;clear hA hbA hblk
 go_enter Tryd.func57,Tryd.ntmps57
 go_wp2_with (go_at_call 74;refine(Yp _ b hb).mono ?_;rintro e w1 ⟨rfl,rfl⟩)
 all_goals
  go_ret;refine⟨congrArg (fun x=>Ending.returned (Value.bool x)) ?_,by first | exact(Below.refl _ w).alloc (Nat.le_refl _) _ | exact((Below.refl _ w).alloc (Nat.le_refl _) _).setCell (Nat.le_refl _) _⟩;clear z0 z1 z2 a1 a2 a3 a4 a5 c0 c1 c2 c3 c4 c5 HB HK HA
  try simp only [ByteArray.toList_eq,Qe,Qf] at *
  simp_all
theorem jcj (w:World)(B o:Nat)(n:Int)(b:Nat)(s:ByteArray)(pL:Option Addr)(nL cL:Nat)(pE:Option Addr)(nE cE:Nat)(hb:b<18446744073709551616)(h:Six w B o 4 n b s pL nL cL pE nE cE) :
  Calls Tryd.prog 57 #[.pointer (some ⟨B,o,none⟩)] w fun e w'=>e=.returned (.bool (decide (n=0/\b=0/\nL=0/\nE=0)))/\Below w.heap.size w w':=by
 obtain⟨c0,c1,c2,c3,c4,c5,hlt⟩:=h;obtain⟨A,hA⟩:∃A,A=w.alloc (.cells #[.int .i64 4,.int .i64 n,.int .u64 (b:Int),.string s,.slice pL nL cL,.slice pE nE cE] 26):=⟨_,rfl⟩
 have hblk:Blk A w.heap.size #[.int .i64 4,.int .i64 n,.int .u64 (b:Int),.string s,.slice pL nL cL,.slice pE nE cE] 26:=by rw [hA];exact jb _ _ _
 have hbA:Below w.heap.size w A:=by rw [hA];exact(Below.refl _ w).alloc (Nat.le_refl _) _
 have z0:=(hbA.cell (p:=⟨B,o,none⟩) hlt).trans c0;have z1:=(hbA.cell (p:=⟨B,o+1,none⟩) hlt).trans c1;have z2:=(hbA.cell (p:=⟨B,o+2,none⟩) hlt).trans c2;have a1:=hblk.cell 1 _ rfl;have a2:=hblk.cell 2 _ rfl;have a3:=hblk.cell 3 _ rfl;have a4:=hblk.cell 4 _ rfl;have a5:=hblk.cell 5 _ rfl;have HB:=ja hbA;have HK:=ja hblk;rw [hA] at z0 z1 z2 a1 a2 a3 a4 a5;have HA:=ja hA;clear hA hbA hblk
 go_enter Tryd.func57,Tryd.ntmps57
 go_wp2
 all_goals
  go_ret;refine⟨congrArg (fun x=>Ending.returned (Value.bool x)) ?_,by first | exact(Below.refl _ w).alloc (Nat.le_refl _) _ | exact((Below.refl _ w).alloc (Nat.le_refl _) _).setCell (Nat.le_refl _) _⟩;clear z0 z1 z2 a1 a2 a3 a4 a5 c0 c1 c2 c3 c4 c5 HB HK HA
  try simp only [ByteArray.toList_eq,Qe,Qf] at *
  simp_all
theorem jb8 (w:World)(B o:Nat)(n:Int)(b:Nat)(s:ByteArray)(pL:Option Addr)(nL cL:Nat)(pE:Option Addr)(nE cE:Nat)(hb:b<18446744073709551616)(h:Six w B o 5 n b s pL nL cL pE nE cE) :
  Calls Tryd.prog 57 #[.pointer (some ⟨B,o,none⟩)] w fun e w'=>e=.returned (.bool (decide (n=0/\b=0/\s.data.toList=[]/\nE=0)))/\Below w.heap.size w w':=by
 obtain⟨c0,c1,c2,c3,c4,c5,hlt⟩:=h;obtain⟨A,hA⟩:∃A,A=w.alloc (.cells #[.int .i64 5,.int .i64 n,.int .u64 (b:Int),.string s,.slice pL nL cL,.slice pE nE cE] 26):=⟨_,rfl⟩
 have hblk:Blk A w.heap.size #[.int .i64 5,.int .i64 n,.int .u64 (b:Int),.string s,.slice pL nL cL,.slice pE nE cE] 26:=by rw [hA];exact jb _ _ _
 have hbA:Below w.heap.size w A:=by rw [hA];exact(Below.refl _ w).alloc (Nat.le_refl _) _
 have z0:=(hbA.cell (p:=⟨B,o,none⟩) hlt).trans c0;have z1:=(hbA.cell (p:=⟨B,o+1,none⟩) hlt).trans c1;have z2:=(hbA.cell (p:=⟨B,o+2,none⟩) hlt).trans c2;have a1:=hblk.cell 1 _ rfl;have a2:=hblk.cell 2 _ rfl;have a3:=hblk.cell 3 _ rfl;have a4:=hblk.cell 4 _ rfl;have a5:=hblk.cell 5 _ rfl;have HB:=ja hbA;have HK:=ja hblk;rw [hA] at z0 z1 z2 a1 a2 a3 a4 a5;have HA:=ja hA;clear hA hbA hblk
 go_enter Tryd.func57,Tryd.ntmps57
 go_wp2
 all_goals
  go_ret;refine⟨congrArg (fun x=>Ending.returned (Value.bool x)) ?_,by first | exact(Below.refl _ w).alloc (Nat.le_refl _) _ | exact((Below.refl _ w).alloc (Nat.le_refl _) _).setCell (Nat.le_refl _) _⟩;clear z0 z1 z2 a1 a2 a3 a4 a5 c0 c1 c2 c3 c4 c5 HB HK HA
  try simp only [ByteArray.toList_eq,Qe,Qf] at *
  simp_all
theorem jcd (w:World)(B o:Nat)(n:Int)(b:Nat)(s:ByteArray)(pL:Option Addr)(nL cL:Nat)(pE:Option Addr)(nE cE:Nat)(hb:b<18446744073709551616)(h:Six w B o 6 n b s pL nL cL pE nE cE) :
  Calls Tryd.prog 57 #[.pointer (some ⟨B,o,none⟩)] w fun e w'=>e=.returned (.bool (decide (n=0/\b=0/\s.data.toList=[]/\nL=0)))/\Below w.heap.size w w':=by
 obtain⟨c0,c1,c2,c3,c4,c5,hlt⟩:=h;obtain⟨A,hA⟩:∃A,A=w.alloc (.cells #[.int .i64 6,.int .i64 n,.int .u64 (b:Int),.string s,.slice pL nL cL,.slice pE nE cE] 26):=⟨_,rfl⟩
 have hblk:Blk A w.heap.size #[.int .i64 6,.int .i64 n,.int .u64 (b:Int),.string s,.slice pL nL cL,.slice pE nE cE] 26:=by rw [hA];exact jb _ _ _
 have hbA:Below w.heap.size w A:=by rw [hA];exact(Below.refl _ w).alloc (Nat.le_refl _) _
 have z0:=(hbA.cell (p:=⟨B,o,none⟩) hlt).trans c0;have z1:=(hbA.cell (p:=⟨B,o+1,none⟩) hlt).trans c1;have z2:=(hbA.cell (p:=⟨B,o+2,none⟩) hlt).trans c2;have a1:=hblk.cell 1 _ rfl;have a2:=hblk.cell 2 _ rfl;have a3:=hblk.cell 3 _ rfl;have a4:=hblk.cell 4 _ rfl;have a5:=hblk.cell 5 _ rfl;have HB:=ja hbA;have HK:=ja hblk;rw [hA] at z0 z1 z2 a1 a2 a3 a4 a5;have HA:=ja hA;clear hA hbA hblk
 go_enter Tryd.func57,Tryd.ntmps57
 go_wp2
 all_goals
  go_ret;refine⟨congrArg (fun x=>Ending.returned (Value.bool x)) ?_,by first | exact(Below.refl _ w).alloc (Nat.le_refl _) _ | exact((Below.refl _ w).alloc (Nat.le_refl _) _).setCell (Nat.le_refl _) _⟩;clear z0 z1 z2 a1 a2 a3 a4 a5 c0 c1 c2 c3 c4 c5 HB HK HA
  try simp only [ByteArray.toList_eq,Qe,Qf] at *
  simp_all
theorem jch (w:World)(B o:Nat)(k:Int)(n:Int)(b:Nat)(s:ByteArray)(pL:Option Addr)(nL cL:Nat)(pE:Option Addr)(nE cE:Nat)(hb:b<18446744073709551616)(hk:k<0\/6<k)(h:Six w B o k n b s pL nL cL pE nE cE) :
  Calls Tryd.prog 57 #[.pointer (some ⟨B,o,none⟩)] w fun e w'=>e=.returned (.bool (decide (False)))/\Below w.heap.size w w':=by
 obtain⟨c0,c1,c2,c3,c4,c5,hlt⟩:=h;obtain⟨A,hA⟩:∃A,A=w.alloc (.cells #[.int .i64 k,.int .i64 n,.int .u64 (b:Int),.string s,.slice pL nL cL,.slice pE nE cE] 26):=⟨_,rfl⟩
 have hblk:Blk A w.heap.size #[.int .i64 k,.int .i64 n,.int .u64 (b:Int),.string s,.slice pL nL cL,.slice pE nE cE] 26:=by rw [hA];exact jb _ _ _
 have hbA:Below w.heap.size w A:=by rw [hA];exact(Below.refl _ w).alloc (Nat.le_refl _) _
 have z0:=(hbA.cell (p:=⟨B,o,none⟩) hlt).trans c0;have z1:=(hbA.cell (p:=⟨B,o+1,none⟩) hlt).trans c1;have z2:=(hbA.cell (p:=⟨B,o+2,none⟩) hlt).trans c2;have a1:=hblk.cell 1 _ rfl;have a2:=hblk.cell 2 _ rfl;have a3:=hblk.cell 3 _ rfl;have a4:=hblk.cell 4 _ rfl;have a5:=hblk.cell 5 _ rfl;have HB:=ja hbA;have HK:=ja hblk;rw [hA] at z0 z1 z2 a1 a2 a3 a4 a5;have HA:=ja hA;clear hA hbA hblk;have e0:(k == 0)=false:=beq_false_of_ne (by omega);have e1:(k == 1)=false:=beq_false_of_ne (by omega);have e2:(k == 2)=false:=beq_false_of_ne (by omega);have e3:(k == 3)=false:=beq_false_of_ne (by omega);have e4:(k == 4)=false:=beq_false_of_ne (by omega);have e5:(k == 5)=false:=beq_false_of_ne (by omega);have e6:(k == 6)=false:=beq_false_of_ne (by omega)
 go_enter Tryd.func57,Tryd.ntmps57
 go_wp2
 all_goals
  go_ret;refine⟨congrArg (fun x=>Ending.returned (Value.bool x)) ?_,by first | exact(Below.refl _ w).alloc (Nat.le_refl _) _ | exact((Below.refl _ w).alloc (Nat.le_refl _) _).setCell (Nat.le_refl _) _⟩;clear z0 z1 z2 a1 a2 a3 a4 a5 c0 c1 c2 c3 c4 c5 HB HK HA
  try simp only [ByteArray.toList_eq,Qe,Qf] at *
  simp_all
open Go.RowKit
theorem Xv:(qd 0).2.2≠2:=by decide
theorem jbg (w:World)(B o:Nat)(k n:Int)(b:Nat)(s:ByteArray)(pL:Option Addr)(nL cL:Nat)(pE:Option Addr)(nE cE:Nat)(hb:b<18446744073709551616)(h:Six w B o k n b s pL nL cL pE nE cE) :
  Calls Tryd.prog 57 #[.pointer (some ⟨B,o,none⟩)] w fun e w'=>e=.returned (.bool (decide (Jf k n b s.data.toList nL nE)))/\Below w.heap.size w w':=by
 have key:∀{p q:Prop} [Decidable p] [Decidable q],(p↔q)->(∀(e:Ending) (w':World),(e=.returned (.bool (decide p))/\Below w.heap.size w w')->(e=.returned (.bool (decide q))/\Below w.heap.size w w')):=by
  intro p q _ _ h e w' ⟨h1,h2⟩;exact⟨by rw [h1,decide_eq_decide.2 h],h2⟩
 have fz:b=0->((qd b).2.2=2->b=9221120237041090561):=fun h h'=>by
  subst h;exact absurd h' Xv
 by_cases k0:k=0
 ·subst k0
  refine(jb0 w B o n b s pL nL cL pE nE cE hb h).mono (key ⟨fun⟨a1,a2,a3,a4,a5⟩=>⟨⟨by omega,by omega⟩,.inl a1,fun h=>by omega,.inl a2,.inl a3,.inl a4,.inl a5,fz a2⟩,fun⟨_,a1,_,a2,a3,a4,a5,_⟩=>⟨a1.elim (fun h=>h) (fun h=>by omega),a2.elim (fun h=>h) (fun h=>by omega),a3.elim (fun h=>h) (fun h=>by omega),a4.elim (fun h=>h) (fun h=>by omega),a5.elim (fun h=>h) (fun h=>by omega)⟩⟩)
 by_cases k1:k=1
 ·subst k1
  refine(jce w B o n b s pL nL cL pE nE cE hb h).mono (key ⟨fun⟨a1,a2,a3,a4,a5⟩=>⟨⟨by omega,by omega⟩,.inr (.inl rfl),fun _=>a1,.inl a2,.inl a3,.inl a4,.inl a5,fz a2⟩,fun⟨_,_,a1,a2,a3,a4,a5,_⟩=>⟨a1 rfl,a2.elim (fun h=>h) (fun h=>by omega),a3.elim (fun h=>h) (fun h=>by omega),a4.elim (fun h=>h) (fun h=>by omega),a5.elim (fun h=>h) (fun h=>by omega)⟩⟩)
 by_cases k2:k=2
 ·subst k2
  refine(jb1 w B o n b s pL nL cL pE nE cE hb h).mono (key ⟨fun⟨a2,a3,a4,a5⟩=>⟨⟨by omega,by omega⟩,.inr (.inr rfl),fun h=>by omega,.inl a2,.inl a3,.inl a4,.inl a5,fz a2⟩,fun⟨_,_,_,a2,a3,a4,a5,_⟩=>⟨a2.elim (fun h=>h) (fun h=>by omega),a3.elim (fun h=>h) (fun h=>by omega),a4.elim (fun h=>h) (fun h=>by omega),a5.elim (fun h=>h) (fun h=>by omega)⟩⟩)
 by_cases k3:k=3
 ·subst k3
  refine(jb9 w B o n b s pL nL cL pE nE cE hb h).mono (key ⟨fun⟨a0,a1,a3,a4,a5⟩=>⟨⟨by omega,by omega⟩,.inl a1,fun h=>by omega,.inr rfl,.inl a3,.inl a4,.inl a5,a0⟩,fun⟨_,a1,_,_,a3,a4,a5,a0⟩=>⟨a0,a1.elim (fun h=>h) (fun h=>by omega),a3.elim (fun h=>h) (fun h=>by omega),a4.elim (fun h=>h) (fun h=>by omega),a5.elim (fun h=>h) (fun h=>by omega)⟩⟩)
 by_cases k4:k=4
 ·subst k4
  refine(jcj w B o n b s pL nL cL pE nE cE hb h).mono (key ⟨fun⟨a1,a2,a4,a5⟩=>⟨⟨by omega,by omega⟩,.inl a1,fun h=>by omega,.inl a2,.inr rfl,.inl a4,.inl a5,fz a2⟩,fun⟨_,a1,_,a2,_,a4,a5,_⟩=>⟨a1.elim (fun h=>h) (fun h=>by omega),a2.elim (fun h=>h) (fun h=>by omega),a4.elim (fun h=>h) (fun h=>by omega),a5.elim (fun h=>h) (fun h=>by omega)⟩⟩)
 by_cases k5:k=5
 ·subst k5
  refine(jb8 w B o n b s pL nL cL pE nE cE hb h).mono (key ⟨fun⟨a1,a2,a3,a5⟩=>⟨⟨by omega,by omega⟩,.inl a1,fun h=>by omega,.inl a2,.inl a3,.inr rfl,.inl a5,fz a2⟩,fun⟨_,a1,_,a2,a3,_,a5,_⟩=>⟨a1.elim (fun h=>h) (fun h=>by omega),a2.elim (fun h=>h) (fun h=>by omega),a3.elim (fun h=>h) (fun h=>by omega),a5.elim (fun h=>h) (fun h=>by omega)⟩⟩)
 by_cases k6:k=6
 ·subst k6
  refine(jcd w B o n b s pL nL cL pE nE cE hb h).mono (key ⟨fun⟨a1,a2,a3,a4⟩=>⟨⟨by omega,by omega⟩,.inl a1,fun h=>by omega,.inl a2,.inl a3,.inl a4,.inr rfl,fz a2⟩,fun⟨_,a1,_,a2,a3,a4,_,_⟩=>⟨a1.elim (fun h=>h) (fun h=>by omega),a2.elim (fun h=>h) (fun h=>by omega),a3.elim (fun h=>h) (fun h=>by omega),a4.elim (fun h=>h) (fun h=>by omega)⟩⟩)
 ·refine(jch w B o k n b s pL nL cL pE nE cE hb (by omega) h).mono (key ⟨fun h=>h.elim,fun⟨a,_⟩=>by omega⟩)
theorem jam (ok:Nat->Prop)(f:Nat)(w:World)(B o:Nat)(k n:Int)(b:Nat)(s:ByteArray)(L E:List V)(pL pE:Option Addr)(cL cE:Nat)(hb:b<18446744073709551616)(hs:s.size<=maxLen)(h:Six w B o k n b s pL L.length cL pE E.length cE)
  (hE:jaC ok f w pE E) (hL1:L.length<=cL) (hL2:cL<=maxLen) (h1:E.length<=cE) (h2:cE<=maxLen) (hT:Lib.Utf8Tabs 1 2 w) :
  Calls Tryd.prog 38 #[.pointer (some ⟨B,o,none⟩)] w fun e w'=>e=.returned (.int .i64 (jr (mkV (k,n,b,s.data.toList) L E)))/\Below w.heap.size w w':=by
 have hm:maxLen=9223372036854775807:=rfl;have hlen:s.data.toList.length=s.size:=jn s
 have hone:jr (mkV (k,n,b,s.data.toList) L E)=if ¬Jf k n b s.data.toList L.length E.length then 10 else if 4000<s.size\/200<L.length\/200<E.length then 2 else if 0<=utfs.bad s.data.toList then 3 else qp none (jF E):=by
  rw [<-hlen];rfl
 rw [hone];have hk:=jbg w B o k n b s pL L.length cL pE E.length cE hb h;have HK:=ja hk;clear hk
 by_cases g1:Jf k n b s.data.toList L.length E.length
 ·rw [if_neg (fun h=>h g1)]
  have d1:decide (Jf k n b s.data.toList L.length E.length)=true:=decide_eq_true g1
  have HK1:Hid (Calls Tryd.prog 57 #[.pointer (some ⟨B,o,none⟩)] w fun e w'=>e=.returned (.bool true)/\Below w.heap.size w w'):=by
   have:=HK.out;rw [d1] at this;exact this
  clear HK d1 g1;have HX:=ja h;clear h
  by_cases g2:4000<s.size\/200<L.length\/200<E.length
  ·rw [if_pos g2]
   by_cases x1:4000<s.size
   ·have d1:(s.size:Int) > 4000:=by omega
    clear g2
    go_enter Tryd.func38,Tryd.ntmps38
    go_wp2_with (go_at_call 57;refine(jc HK1).mono ?_;rintro e w1 ⟨rfl,b1⟩;obtain⟨q0,q1,q2,q3,q4,q5,ql⟩:=(jc HX).below b1)
    go_ret;exact⟨rfl,b1⟩
   ·have d1:¬(s.size:Int) > 4000:=by omega
    by_cases x2:200<L.length
    ·have d2:(L.length:Int) > 200:=by omega
     clear g2
     go_enter Tryd.func38,Tryd.ntmps38
     go_wp2_with (go_at_call 57;refine(jc HK1).mono ?_;rintro e w1 ⟨rfl,b1⟩;obtain⟨q0,q1,q2,q3,q4,q5,ql⟩:=(jc HX).below b1)
     go_ret;exact⟨rfl,b1⟩
    ·have d2:¬(L.length:Int) > 200:=by omega
     have d3:(E.length:Int) > 200:=by omega
     clear g2
     go_enter Tryd.func38,Tryd.ntmps38
     go_wp2_with (go_at_call 57;refine(jc HK1).mono ?_;rintro e w1 ⟨rfl,b1⟩;obtain⟨q0,q1,q2,q3,q4,q5,ql⟩:=(jc HX).below b1)
     go_ret;exact⟨rfl,b1⟩
  ·rw [if_neg g2]
   have d1:¬(s.size:Int) > 4000:=by omega
   have d2:¬(L.length:Int) > 200:=by omega
   have d3:¬(E.length:Int) > 200:=by omega
   clear g2;have hbad:Hid (∀w1,Below w.heap.size w w1->Calls Tryd.prog 58 #[.string s] w1 fun e w'=>e=.returned (.int .i64 (utfs.bad s.data.toList))/\Below w1.heap.size w1 w'):=fun w1 h=>utfs.Qk s w1 (by omega) (Utf8Tabs_below hT h)
   by_cases g3:0<=utfs.bad s.data.toList
   ·rw [if_pos g3]
    go_enter Tryd.func38,Tryd.ntmps38
    go_wp2_with (first | (go_at_call 57;refine(jc HK1).mono ?_;rintro e w1 ⟨rfl,b1⟩;obtain⟨q0,q1,q2,q3,q4,q5,ql⟩:=(jc HX).below b1) | (go_at_call 58;refine((jc hbad) w1 b1).mono ?_;rintro e w2 ⟨rfl,b2⟩))
    go_ret;exact⟨rfl,b1.trans (b2.mono b1.size)⟩
   ·rw [if_neg g3]
    have hkeys:Hid (∀w2,Below w.heap.size w w2->Calls Tryd.prog 59 #[.slice pE E.length cE] w2 fun e w'=>e=.returned (.int .i64 (qp none (jF E)))/\Below w2.heap.size w2 w'):=fun w2 h=>
     Zb ok f w2 E pE cE (hE.kept (fun _ h=>h) h.size (fun b _ hb=>h.block b hb) (fun j us _ ⟨key,y,xs,a1,a2,a3,a4⟩=>⟨key,y,xs,a1,a2,a3,a4.below h⟩)) h1 h2 (Utf8Tabs_below hT h)
    go_enter Tryd.func38,Tryd.ntmps38
    go_wp2_with (first | (go_at_call 57;refine(jc HK1).mono ?_;rintro e w1 ⟨rfl,b1⟩;obtain⟨q0,q1,q2,q3,q4,q5,ql⟩:=(jc HX).below b1) | (go_at_call 58;refine((jc hbad) w1 b1).mono ?_;rintro e w2 ⟨rfl,b2⟩;obtain⟨r0,r1,r2,r3,r4,r5,rl⟩:=(jc HX).below (b1.trans (b2.mono b1.size))) | (go_at_call 59;refine((jc hkeys) w2 (b1.trans (b2.mono b1.size))).mono ?_;rintro e w3 ⟨rfl,b3⟩))
    go_ret;exact⟨rfl,(b1.trans (b2.mono b1.size)).trans (b3.mono (Nat.le_trans b1.size b2.size))⟩
 ·rw [if_pos g1]
  have d1:decide (Jf k n b s.data.toList L.length E.length)=false:=decide_eq_false g1
  have HK1:Hid (Calls Tryd.prog 57 #[.pointer (some ⟨B,o,none⟩)] w fun e w'=>e=.returned (.bool false)/\Below w.heap.size w w'):=by
   have:=HK.out;rw [d1] at this;exact this
  clear HK d1 g1
  go_enter Tryd.func38,Tryd.ntmps38
  go_wp2_with (go_at_call 57;refine(jc HK1).mono ?_;rintro e w1 ⟨rfl,b1⟩)
  go_ret;exact⟨rfl,b1⟩
end valus
end Go.Proofs.YtadaehaemmelfaaDoor
