/- Of our texts, what this claim reaches. -/
import Derived.Test.YticcibefchffmaaDoorPptAS
import Derived.Test.YticcibefchffmaaDoorPptAK
import Derived.WalkSmall
import Derived.OpenShut
import Derived.Lib.DecodeN
import Derived.WalkMore
import Derived.Deep.QuietTactic
import Derived.BigQuiet
import Derived.WalkKit
import Derived.BigCall
set_option linter.unusedVariables false
set_option maxHeartbeats 8000000
set_option maxRecDepth 100000
namespace Go.Proofs.YticcibefchffmaaDoor
namespace paths
open Go.RowKit
open utfs (bad jb ja)
def LiesP (w:World)(p:Option Addr)(P:List St):Prop :=
 P.length≠0->∃B o,p=some ⟨B,o,none⟩/\B<w.heap.size/\∀j x,P[j]?=some x->∃key:ByteArray,key.data.toList=x.1/\key.size<=9223372036854775807/\(-9223372036854775808<=x.2/\x.2<=9223372036854775807)/\w.cell? ⟨B,o+j*2,none⟩=some (.string key)/\w.cell? ⟨B,o+j*2+1,none⟩=some (.int .i64 x.2)
theorem LiesP.below {w w':World}{p:Option Addr}{P:List St}{n:Nat}(h:LiesP w p P)(hb:Below n w w')(hn:∀B o,p=some ⟨B,o,none⟩->P.length≠0->B<n):LiesP w' p P:=by
 intro hP;obtain⟨B,o,e,hB,hc⟩:=h hP;refine⟨B,o,e,Nat.lt_of_lt_of_le hB hb.size,fun j x hx=>?_⟩;obtain⟨key,k1,k2,k3,k4,k5⟩:=hc j x hx;have hBn:=hn B o e hP;exact⟨key,k1,k2,k3,(hb.cell (p:=⟨B,o+j*2,none⟩) hBn).trans k4,(hb.cell (p:=⟨B,o+j*2+1,none⟩) hBn).trans k5⟩
theorem LiesP.keep {w w':World}{p:Option Addr}{P:List St}(h:LiesP w p P)(hb:Below w.heap.size w w'):LiesP w' p P:=by
 refine h.below hb fun B o e hP=>?_
 obtain⟨B',o',e',hB,_⟩:=h hP;rw [e'] at e;injection e with e;injection e with e;omega
theorem LiesP.at {w:World}{p:Option Addr}{P:List St}(h:LiesP w p P){j:Nat}(hj:j<P.length):∃B o key,p=some ⟨B,o,none⟩/\B<w.heap.size/\key.data.toList=(P[j]).1/\key.size<=9223372036854775807/\(-9223372036854775808<=(P[j]).2/\(P[j]).2<=9223372036854775807)/\w.cell? ⟨B,o+j*2,none⟩=some (.string key)/\w.cell? ⟨B,o+j*2+1,none⟩=some (.int .i64 (P[j]).2):=by
 obtain⟨B,o,e,hB,hc⟩:=h (by omega);obtain⟨key,k⟩:=hc j _ (List.getElem?_eq_getElem hj);exact⟨B,o,key,e,hB,k⟩
abbrev zc (w:World):Prop:=Lib.Utf8Tabs 2 3 w
theorem Jm (w:World)(key:ByteArray)(i:Int)(hk:key.size<=9223372036854775807)(hi : -9223372036854775808<=i/\i<=9223372036854775807)(hT:zc w) :
  Calls Tryd.prog 37 #[.agg #[.string key,.int .i64 i]] w fun e w'=>e=.returned (.int .i64 (jE (key.data.toList,i)))/\Below w.heap.size w w':=by
 have b0:Below w.heap.size w (w.alloc (.cells #[.string key,.int .i64 i] 50)):=(Below.refl _ w).alloc (Nat.le_refl _) _;have KB:=jb (utfs.J0 key (w.alloc (.cells #[.string key,.int .i64 i] 50)) (by omega) (Utf8Tabs_below hT b0));have B0:=jb b0;clear b0 hT;have hlen:key.data.toList.length=key.size:=rfl
 by_cases i1:i < -1
 ·have E:Hid (jE (key.data.toList,i)=1):=jb (by unfold jE;rw [if_pos (.inl i1)])
  go_enter Tryd.func37,Tryd.ntmps37
  go_wp2_with fail
  go_ret;exact⟨by rw [E.out];rfl,B0.out⟩
 by_cases i2:i > -1
 ·by_cases hz:key.size=0
  ·have hzl:key.data.toList=[]:=List.eq_nil_of_length_eq_zero (by omega)
   have hz2:=escs.ql key hz;have i3:¬(key.size:Int) > 100:=by omega
   have i4:¬bad key.data.toList ≥ 0:=by rw [hzl];decide
   have E:Hid (jE (key.data.toList,i)=0):=jb (by unfold jE;rw [if_neg (by rintro(h | ⟨_,h⟩);exact i1 h;exact h hzl),if_neg (by dsimp only;omega),if_neg i4]);clear hzl hz hlen
   go_enter Tryd.func37,Tryd.ntmps37
   go_wp2_with fail
   refine(ja KB).mono ?_
   rintro e w1 ⟨rfl,b1⟩
   have B1:=jb (B0.out.trans (b1.mono B0.out.size));clear b1 B0 KB;go_wp2;go_ret;exact⟨by rw [E.out];rfl,B1.out⟩
  ·have hz2:=escs.qO key (by omega)
   have E:Hid (jE (key.data.toList,i)=1):=jb (by unfold jE;rw [if_pos (.inr ⟨i2,fun e=>hz (by rw [<-hlen];dsimp only at e;rw [e];rfl)⟩)])
   go_enter Tryd.func37,Tryd.ntmps37
   go_wp2_with fail
   go_ret;exact⟨by rw [E.out];rfl,B0.out⟩
 ·have hno:¬(i < -1\/(-1<i/\key.data.toList≠[])):=by rintro(h | ⟨h,_⟩)<;>omega
  by_cases i3:(key.size:Int) > 100
  ·have E:Hid (jE (key.data.toList,i)=2):=jb (by unfold jE;rw [if_neg hno,if_pos (by dsimp only;omega)])
   clear hno hlen
   go_enter Tryd.func37,Tryd.ntmps37
   go_wp2_with fail
   go_ret;exact⟨by rw [E.out];rfl,B0.out⟩
  ·by_cases i4:bad key.data.toList ≥ 0
   ·have E:Hid (jE (key.data.toList,i)=3):=jb (by unfold jE;rw [if_neg hno,if_neg (by dsimp only;omega),if_pos i4])
    clear hno hlen
    go_enter Tryd.func37,Tryd.ntmps37
    go_wp2_with fail
    refine(ja KB).mono ?_
    rintro e w1 ⟨rfl,b1⟩
    have B1:=jb (B0.out.trans (b1.mono B0.out.size));clear b1 B0 KB;go_wp2;go_ret;exact⟨by rw [E.out];rfl,B1.out⟩
   ·have E:Hid (jE (key.data.toList,i)=0):=jb (by unfold jE;rw [if_neg hno,if_neg (by dsimp only;omega),if_neg i4])
    clear hno hlen
    go_enter Tryd.func37,Tryd.ntmps37
    go_wp2_with fail
    refine(ja KB).mono ?_
    rintro e w1 ⟨rfl,b1⟩
    have B1:=jb (B0.out.trans (b1.mono B0.out.size));clear b1 B0 KB;go_wp2;go_ret;exact⟨by rw [E.out];rfl,B1.out⟩
theorem Zm {P:List St}{j:Nat}(h:j<P.length):qo (P.drop j)=if jE P[j]=0 then qo (P.drop (j+1)) else jE P[j]:=by
 rw [List.drop_eq_getElem_cons h];rfl
theorem qg (w:World)(p:Option Addr)(c:Nat)(P:List St)(hP:LiesP w p P)(hl:P.length<=9223372036854775807)(hT:zc w) :
  Calls Tryd.prog 13 #[.slice p P.length c] w fun e w'=>e=.returned (.int .i64 (jk P))/\Below w.heap.size w w':=by
 by_cases i1:(P.length:Int) > 20
 ·have E:Hid (jk P=5):=jb (by unfold jk;rw [if_pos (by omega)])
  go_enter Tryd.func13,Tryd.ntmps13
  go_wp2_with fail
  go_ret;exact⟨by rw [E.out];rfl,Below.refl _ _⟩
 ·have E:Hid (jk P=qo P):=jb (by unfold jk;rw [if_neg (by omega)])
  have HP:=jb hP;have HT:=jb hT;clear hP hT
  go_enter Tryd.func13,Tryd.ntmps13
  go_wp2_with fail
  go_loopw [11] (fun i wr=>∃j:Nat,i=.int .i64 j/\j<=P.length/\Hid (qo (P.drop j)=qo P)/\Below w.heap.size w wr) (fun i _=>P.length - (intOf i).toNat)
  case atStart=>exact⟨0,rfl,Nat.zero_le _,rfl,Below.refl _ _⟩
  case round=>
   obtain⟨j,rfl,hj,hacc,hbw⟩:=hrel
   by_cases hlt:j<P.length
   ·obtain⟨B,o,key,rfl,hB,hk1,hk2,hk3,c0,c1⟩:=HP.out.at hlt
    have hst:=Zm hlt;rw [hacc.out] at hst;have q0:=(hbw.cell (p:=⟨B,o+j*2,none⟩) hB).trans c0;have q1:=(hbw.cell (p:=⟨B,o+j*2+1,none⟩) hB).trans c1;have hbA:Below w.heap.size w (wr.alloc (.cells #[.string key,.int .i64 (P[j]).2] 50)):=hbw.alloc (by have:=hbw.size;omega) _;have KS:=jb (Jm (wr.alloc (.cells #[.string key,.int .i64 (P[j]).2] 50)) key (P[j]).2 hk2 hk3 (Utf8Tabs_below HT.out hbA));rw [hk1] at KS;generalize hx:P[j].2=xi at *;obtain⟨er,her⟩:∃er,er=jE (P[j].1,xi):=⟨_,rfl⟩
    rw [<-her] at KS;have hst2:Hid (qo P=if er=0 then qo (P.drop (j+1)) else er):=jb (by rw [hst,her,<-hx]);have HB:=jb hbA;clear hst her hx hk1 hk2 hk3 c0 c1 hacc hbA
    by_cases he:er=0
    ·subst he
     have hst3:=hst2.out;rw [if_pos rfl] at hst3;have H3:=jb hst3.symm;clear hst2 hst3
     go_wp2_with fail
     refine(ja KS).mono ?_
     rintro e w2 ⟨rfl,b2⟩
     have hb2:=HB.out.trans (b2.mono HB.out.size);clear b2 KS HB;go_wp2;refine⟨⟨j+1,?_,by omega,H3,hb2⟩,?_⟩
     ·congr 1
     ·simp only [intOf]
      omega
    ·have hst3:=hst2.out
     rw [if_neg he] at hst3;have H3:=jb hst3;have he2:(er != 0)=true:=bne_iff_ne.2 he;clear hst2 hst3
     go_wp2_with fail
     refine(ja KS).mono ?_
     rintro e w2 ⟨rfl,b2⟩
     have hb2:=jb (HB.out.trans (b2.mono HB.out.size));clear b2 KS HB;go_wp2;go_ret;exact⟨by rw [E.out,H3.out];rfl,hb2.out⟩
   ·have H3:Hid (qo P=0):=jb (by rw [<-hacc.out,List.drop_of_length_le (by omega)];rfl)
    have g0:¬(j:Int)<(P.length:Int):=by omega
    clear hacc;go_wp2;go_ret;exact⟨by rw [E.out,H3.out];rfl,hbw⟩
open Go.RowKit
open utfs (jb ja)
theorem XZ (s:ByteArray)(j:Nat)(x:UInt8)(h:s.data.toList[j]?=some x):s.get! j=x:=by
 have hj:j<s.data.toList.length:=(List.getElem?_eq_some_iff.1 h).1;have hj':j<s.size:=hj;rw [List.getElem?_eq_getElem hj] at h;injection h with h;rw [<-h];simp [ByteArray.get!,getElem!_pos,hj']
theorem JR (s:ByteArray)(i:Nat)(hi:i<s.size)(h:128<=(s.get! i).toNat) :
  i+(Utf8.decode s i).2<=s.size/\1<=(Utf8.decode s i).2/\(∀j x,i<=j->j<i+(Utf8.decode s i).2->s.data.toList[j]?=some x->128<=x.toNat)/\128<=(Utf8.decode s i).1/\(Utf8.decode s i).1<=1114111/\((Utf8.decode s i).1<55296\/57344<=(Utf8.decode s i).1):=by
 have q0:=(s.get! i).toNat_lt;have q1:=(s.get! (i+1)).toNat_lt;have q2:=(s.get! (i+2)).toNat_lt;have q3:=(s.get! (i+3)).toNat_lt
 have fin:∀(r n:Nat),Utf8.decode s i=(r,n)->1<=n->n<=4->i+n<=s.size->(1<n->128<=(s.get! (i+1)).toNat)->(2<n->128<=(s.get! (i+2)).toNat)->(3<n->128<=(s.get! (i+3)).toNat)->128<=r->r<=1114111->(r<55296\/57344<=r)->i+(Utf8.decode s i).2<=s.size/\1<=(Utf8.decode s i).2/\(∀j x,i<=j->j<i+(Utf8.decode s i).2->s.data.toList[j]?=some x->128<=x.toNat)/\128<=(Utf8.decode s i).1/\(Utf8.decode s i).1<=1114111/\((Utf8.decode s i).1<55296\/57344<=(Utf8.decode s i).1):=by
  intro r n e h1 h4 h5 a1 a2 a3 b1 b2 b3;rw [e];refine⟨h5,h1,fun j x hj hj2 hx=>?_,b1,b2,b3⟩;have hg:=XZ s j x hx
  dsimp only at hj2
  obtain rfl | rfl | rfl | rfl:j=i\/j=i+1\/j=i+2\/j=i+3:=by omega
  ·rw [<-hg];exact h
  ·rw [<-hg];exact a1 (by omega)
  ·rw [<-hg];exact a2 (by omega)
  ·rw [<-hg];exact a3 (by omega)
 have e:=Lib.decode_at s i;unfold Lib.decodeN at e;rw [if_neg (by omega)] at e;split at e
 ·rename_i c
  split at e
  ·exact fin _ _ e (by omega) (by omega) (by omega) (fun _=>by omega) (fun h=>by omega) (fun h=>by omega) (by omega) (by omega) (by omega)
  ·exact fin _ _ e (by omega) (by omega) (by omega) (fun h=>by omega) (fun h=>by omega) (fun h=>by omega) (by omega) (by omega) (by omega)
 ·split at e
  ·rename_i c
   split at e
   ·rename_i d
    exact fin _ _ e (by omega) (by omega) (by omega) (fun _=>by omega) (fun _=>by omega) (fun h=>by omega) (by omega) (by omega) (by omega)
   ·exact fin _ _ e (by omega) (by omega) (by omega) (fun h=>by omega) (fun h=>by omega) (fun h=>by omega) (by omega) (by omega) (by omega)
  ·split at e
   ·rename_i c
    split at e
    ·rename_i d
     exact fin _ _ e (by omega) (by omega) (by omega) (fun _=>by omega) (fun _=>by omega) (fun _=>by omega) (by omega) (by omega) (by omega)
    ·exact fin _ _ e (by omega) (by omega) (by omega) (fun h=>by omega) (fun h=>by omega) (fun h=>by omega) (by omega) (by omega) (by omega)
   ·exact fin _ _ e (by omega) (by omega) (by omega) (fun h=>by omega) (fun h=>by omega) (fun h=>by omega) (by omega) (by omega) (by omega)
abbrev jM:ByteArray:=⟨#[46,91]⟩
theorem Xy (w:World):Calls Tryd.prog 107 #[.string jM,.int .i32 65533] w fun e w'=>e=.returned (.int .i64 (-1))/\Below w.heap.size w w':=by
 go_enter Tryd.func107,Tryd.ntmps107
 go_wp2_with fail
 go_loopw [] (fun wr=>∃pos:Nat,pos<=2/\wr.heap[w.heap.size]?=some (.stringIter jM pos)/\Below w.heap.size w wr) (fun wr=>2 - wr.iterPos w.heap.size)
 case atStart=>
  refine⟨0,by omega,?_,(Below.refl _ w).alloc (Nat.le_refl _) _⟩;have:=World.iter_heap w jM 0;simpa using this
 case round=>
  obtain⟨pos,hp2,hit,hbw⟩:=hrel;have hsz:w.heap.size<wr.heap.size:=(Array.getElem?_eq_some_iff.1 hit).1;obtain rfl | rfl | rfl:pos=0\/pos=1\/pos=2:=by omega
  ·have hnx:∀ty,(Instr.next (.pointer (some ⟨w.heap.size,0,none⟩)) true ty).run Tryd.prog wr=.ok (.tuple #[.bool true,.int .i64 0,.int .i32 46]) (wr.iterAt w.heap.size jM 1):=fun ty=>Lib.run_next_ascii_at wr w.heap.size jM 0 ty hit (by decide) (by decide)
   have hit2:=Lib.iterAt_heap wr w.heap.size jM 0 1 hit;have hbw2:=Lib.below_iterAt hbw (k:=w.heap.size) (by omega) jM 1;go_wp2;go_roundw
   case rel=>exact⟨1,by omega,hit2,hbw2⟩
   case measure=>
    simp only [World.iterPos,hit2,hit];omega
  ·have hnx:∀ty,(Instr.next (.pointer (some ⟨w.heap.size,0,none⟩)) true ty).run Tryd.prog wr=.ok (.tuple #[.bool true,.int .i64 1,.int .i32 91]) (wr.iterAt w.heap.size jM 2):=fun ty=>Lib.run_next_ascii_at wr w.heap.size jM 1 ty hit (by decide) (by decide)
   have hit2:=Lib.iterAt_heap wr w.heap.size jM 1 2 hit;have hbw2:=Lib.below_iterAt hbw (k:=w.heap.size) (by omega) jM 2;go_wp2;go_roundw
   case rel=>exact⟨2,by omega,hit2,hbw2⟩
   case measure=>
    simp only [World.iterPos,hit2,hit];omega
  ·have hnx:∀ty,(Instr.next (.pointer (some ⟨w.heap.size,0,none⟩)) true ty).run Tryd.prog wr=_:=fun ty=>Lib.run_next_end_at wr w.heap.size jM 2 ty hit (by decide)
   go_wp2;go_ret;exact⟨rfl,hbw⟩
theorem ZD {r:Int}(h1:2048<=r)(h2:r<=1114111)(h3:r<55296\/57344<=r):3<=(Utf8.encode r).size:=by
 have hv:Utf8.valid r=true:=by simp [Utf8.valid];omega
 have c1:¬r.toNat<128:=by omega
 have c2:¬r.toNat<2048:=by omega
 unfold Utf8.encode;simp only [hv,if_true,c1,c2,if_false];split
 ·show 3<=3;omega
 ·show 3<=4;omega
theorem X5 {r:Int}(h1:128<=r)(h2:r<2048):(Utf8.encode r).size=2:=by
 have hv:Utf8.valid r=true:=by simp [Utf8.valid];omega
 have c1:¬r.toNat<128:=by omega
 have c2:r.toNat<2048:=by omega
 unfold Utf8.encode;simp only [hv,if_true,c1,c2,if_false];rfl
theorem ZT (w:World)(r:Int)(h1:2048<=r)(h2:r<=1114111)(h3:r<55296\/57344<=r)(h4:r≠65533):Calls Tryd.prog 107 #[.string jM,.int .i32 r] w fun e w'=>e=.returned (.int .i64 (-1))/\Below w.heap.size w w':=by
 have i1:(0:Int)<=r:=by omega
 have i2:¬r<128:=by omega
 have i3:(r == 65533)=false:=beq_false_of_ne h4;have hv:Lib.validRune r=true:=decide_eq_true (by omega);have hz:3<=(Utf8.encode r).size:=ZD h1 h2 h3;have hz4:=(encode_facts r (by simp [Utf8.valid];omega) (by omega)).2.1;have hcv:∀u,(convert 21 9 (.int .i32 r)).run Tryd.prog u=.ok (.string (Utf8.encode r)) u:=fun u=>run_convert_int_string u _ _ _ _ (by kernel_rfl) (by kernel_rfl)
 have sd:jM.size=2:=rfl;generalize hE:Utf8.encode r=E at *;clear h1 h2 h3 h4 hE
 go_enter Tryd.func107,Tryd.ntmps107
 go_wp2_with fail
 refine(Tryd.utf8_ValidRune _ _).mono ?_
 rintro e w' ⟨rfl,rfl⟩
 rw [hv];go_wp2
 go_step3
 go_wp2;have i4:¬(E.size:Int) - 1<2:=by omega
 go_loopw [9] (fun v wr=>v=.int .i64 ((E.size:Int) - 1)/\wr=w') (fun _ _=>0)
 case atStart=>exact⟨rfl,rfl⟩
 case round=>
  obtain⟨rfl,rfl⟩:=hrel;go_wp2;go_ret;exact⟨rfl,Below.refl _ _⟩
theorem XN (w:World)(r:Int)(h1:128<=r)(h2:r<2048):Calls Tryd.prog 107 #[.string jM,.int .i32 r] w fun e w'=>e=.returned (.int .i64 (-1))/\Below w.heap.size w w':=by
 have i1:(0:Int)<=r:=by omega
 have i2:¬r<128:=by omega
 have i3:(r == 65533)=false:=beq_false_of_ne (by omega);have hv:Lib.validRune r=true:=decide_eq_true (by omega);have hz:(Utf8.encode r).size=2:=X5 h1 h2;have hlast:=(encode_facts r (by simp [Utf8.valid];omega) (by omega)).2.2;have hcv:∀u,(convert 21 9 (.int .i32 r)).run Tryd.prog u=.ok (.string (Utf8.encode r)) u:=fun u=>run_convert_int_string u _ _ _ _ (by kernel_rfl) (by kernel_rfl)
 have sd:jM.size=2:=rfl;generalize hE:Utf8.encode r=E at *;clear h1 h2 hE;obtain⟨x,hx⟩:∃x:UInt8,x=E[1]'(by omega):=⟨_,rfl⟩
 have hx128:128<=x.toNat:=by
  have:=hlast (by omega);rw [hx];simp only [hz] at this;exact this
 clear hlast;have h91:(jM[1]'(by decide)).toNat=91:=rfl;have n1:((((jM[1]'(by decide)).toNat:Nat):Int) != ((x.toNat:Nat):Int))=true:=bne_iff_ne.2 (by omega);have n2:¬((((jM[1]'(by decide)).toNat:Nat):Int)=((x.toNat:Nat):Int)):=by omega
 clear h91;have hxE:E[1]'(by omega)=x:=hx.symm;clear hx;have KI:∀u,Hid (Calls Tryd.prog 123 #[.string ByteArray.empty,.int .u8 (x.toNat:Int)] u fun e w'=>e=.returned (.int .i64 (-1))/\w'=u):=fun u=>jb (Tryd.strings_IndexByte ByteArray.empty (x.toNat:Int) u)
 go_enter Tryd.func107,Tryd.ntmps107
 go_wp2_with fail
 refine(Tryd.utf8_ValidRune _ _).mono ?_
 rintro e w' ⟨rfl,rfl⟩
 rw [hv];go_wp2
 go_step3
 go_wp2
 go_loopw [9] (fun v wr=>v=.int .i64 1/\wr=w') (fun _ _=>0)
 case atStart=>exact⟨rfl,rfl⟩
 case round=>
  obtain⟨rfl,rfl⟩:=hrel;go_wp2
  go_step3
  go_wp2_with fail
  go_quiet (fail)
  have HB1:=jb (below_drewN (Below.refl wr.heap.size wr) nq);generalize wr.drewN nq=W1 at *
  go_wp2_with fail
  have hwr:IntKind.i64.wrap 2=2:=rfl
  go_quiet ((go_at_call 123;exact Calls.quiet_of_same (ja (KI _))))
  go_wp2;rw [Exit.noGoto_ret]
  dsimp +zetaDelta only [Exit.inBlock,Exit.then,Exit.noGoto]
  go_ret;exact⟨rfl,below_drewN HB1.out _⟩
theorem ZE (w:World)(r:Nat)(h1:128<=r)(h2:r<=1114111)(h3:r<55296\/57344<=r):Calls Tryd.prog 107 #[.string jM,.int .i32 (r:Int)] w fun e w'=>e=.returned (.int .i64 (-1))/\Below w.heap.size w w':=by
 by_cases e:r=65533
 ·subst e;exact Xy w
 ·by_cases h:r<2048
  ·exact XN w r (by omega) (by omega)
  ·exact ZT w r (by omega) (by omega) (by omega) (by omega)
theorem XU {s:List UInt8}{i n:Nat}(h:Lib.NoAny s [46,91] i)(hb:∀j x,i<=j->j<i+n->s[j]?=some x->128<=x.toNat):Lib.NoAny s [46,91] (i+n):=by
 intro j b hj hx
 by_cases hji:j<i
 ·exact h j b hji hx
 ·have:=hb j b (by omega) hj hx
  have n1:b≠46:=fun e=>by rw [e] at this;revert this;decide
  have n2:b≠91:=fun e=>by rw [e] at this;revert this;decide
  simp [n1,n2]
theorem ZF (w:World)(s:ByteArray)(h8:s.size<=8):Calls Tryd.prog 95 #[.string s,.string jM] w fun e w'=>e=.returned (.int .i64 (Lib.indexAny s.data.toList [46,91]))/\Below w.heap.size w w':=by
 have h8z:decide ((8:Int)<(s.size:Int))=false:=decide_eq_false (by omega);have hlen:s.data.toList.length=s.size:=rfl
 go_enter Tryd.func95,Tryd.ntmps95
 go_wp2_with fail
 refine(Tryd.strings_shouldUseASCIISet _ _).mono ?_
 rintro e w' ⟨rfl,rfl⟩
 rw [h8z]
 go_wp2_with fail
 go_loopw [9,10] (fun _ _ wr=>∃pos:Nat,pos<=s.size/\wr.heap[w'.heap.size]?=some (.stringIter s pos)/\Below w'.heap.size w' wr/\Hid (Lib.NoAny s.data.toList [46,91] pos)) (fun _ _ wr=>s.size - wr.iterPos w'.heap.size)
 case atStart=>
  refine⟨0,by omega,?_,(Below.refl _ w').alloc (Nat.le_refl _) _,jb (Lib.NoAny.zero _ _)⟩;have:=World.iter_heap w' s 0;simpa using this
 case round=>
  obtain⟨pos,hp2,hit,hbw,HN⟩:=hrel;have hsz:w'.heap.size<wr.heap.size:=(Array.getElem?_eq_some_iff.1 hit).1
  by_cases hp:pos<s.size
  ·have hx0:s.data.toList[pos]?=some (s[pos]'hp):=Lib.data_getElem? s pos hp
   have hgx:=XZ s pos _ hx0
   by_cases hx:(s[pos]'hp).toNat<128
   ·have hnx:=fun ty=>Lib.run_next_ascii_at (P:=Tryd.prog) wr w'.heap.size s pos ty hit hp hx
    obtain⟨x,hxx⟩:∃x:UInt8,s[pos]'hp=x:=⟨_,rfl⟩
    rw [hxx] at hnx hx0 hx;have hit2:=Lib.iterAt_heap wr w'.heap.size s pos (pos+1) hit;have hbw2:=Lib.below_iterAt hbw (k:=w'.heap.size) (by omega) s (pos+1);have hback:((x.toNat:Int)).toNat.toUInt8=x:=by simp
    have hcon:=Lib.contains_iff_indexByte [46,91] x;have KR:=jb (Tryd.strings_IndexRune_ascii jM (x.toNat:Int) (wr.iterAt w'.heap.size s (pos+1)) (by omega) (by omega));rw [hback] at KR;have hdd:jM.data.toList=[46,91]:=rfl;rw [hdd] at KR;have H0:=jb hx0;clear hx0 hgx hxx hback hdd;generalize hq:Lib.indexByte [46,91] x=q at *;cases hin:([46,91]:List UInt8).contains x
    ·rw [hin] at hcon
     have hlt:¬(0:Int)<=q:=of_decide_eq_false hcon.symm;clear hcon hq;have HI:=jb hin;clear hin
     go_wp2_with fail
     refine(ja KR).mono ?_
     rintro e w2 ⟨rfl,rfl⟩
     go_wp2;go_roundw
     case rel=>exact⟨pos+1,by omega,hit2,hbw2,jb (HN.out.succ H0.out HI.out)⟩
     case measure=>
      simp only [World.iterPos,hit2,hit];omega
    ·rw [hin] at hcon
     have hge:(0:Int)<=q:=of_decide_eq_true hcon.symm;clear hcon hq;have HI:=jb hin;clear hin
     go_wp2_with fail
     refine(ja KR).mono ?_
     rintro e w2 ⟨rfl,rfl⟩
     go_wp2;go_ret;exact⟨by rw [Lib.indexAny_hit HN.out H0.out HI.out];rfl,hbw2⟩
   ·have hd:=JR s pos hp (by rw [hgx];omega)
    obtain⟨r,n,hrn⟩:∃r n,Utf8.decode s pos=(r,n):=⟨_,_,rfl⟩
    have hnx:=fun ty=>Lib.run_next_any_at (P:=Tryd.prog) wr w'.heap.size s pos ty hit hp
    rw [hrn] at hd hnx
    dsimp only at hd hnx
    obtain⟨d1,d2,d3,d4,d5,d6⟩:=hd;have hit2:=Lib.iterAt_heap wr w'.heap.size s pos (pos+n) hit;have hbw2:=Lib.below_iterAt hbw (k:=w'.heap.size) (by omega) s (pos+n);have KR:=jb (ZE (wr.iterAt w'.heap.size s (pos+n)) r d4 d5 d6);have HM:=jb (XU HN.out d3);have hs2:(wr.iterAt w'.heap.size s (pos+n)).heap.size=wr.heap.size:=Lib.iterAt_size ..;clear d3 hx0 hgx hx hrn HN d4 d5 d6;generalize wr.iterAt w'.heap.size s (pos+n)=WI at *
    go_wp2_with fail
    refine(ja KR).mono ?_
    rintro e w2 ⟨rfl,b2⟩
    have hit3:w2.heap[w'.heap.size]?=some (.stringIter s (pos+n)):=by
     rw [b2.block _ (by omega)];exact hit2
    have hbw3:=hbw2.trans (b2.mono (by omega));clear b2 KR;go_wp2;go_roundw
    case rel=>exact⟨pos+n,d1,hit3,hbw3,HM⟩
    case measure=>
     simp only [World.iterPos,hit3,hit];omega
  ·have hnx:∀ty,(Instr.next (.pointer (some ⟨w'.heap.size,0,none⟩)) true ty).run Tryd.prog wr=_:=fun ty=>Lib.run_next_end_at wr w'.heap.size s pos ty hit hp
   have HE:Hid (Lib.indexAny s.data.toList [46,91] = -1):=jb (Lib.indexAny_none (by rw [hlen,show s.size=pos by omega];exact HN.out));clear HN;go_wp2;go_ret;exact⟨by rw [HE.out];rfl,hbw⟩
theorem Q8 (w:World)(s:ByteArray)(hs:s.size<4294967281):Calls Tryd.prog 95 #[.string s,.string jM] w fun e w'=>e=.returned (.int .i64 (Lib.indexAny s.data.toList [46,91]))/\Below w.heap.size w w':=by
 by_cases h8:s.size<=8
 ·exact ZF w s h8
 ·refine(Tryd.strings_IndexAny_long (zero_of_info (n:=256) (by kernel_rfl)).1 s jM w (by decide) (by omega) hs (by decide) (fun j b hb=>?_)).mono fun e w' ⟨h1,h2⟩=>⟨h1,?_⟩
  ·have hm:=List.mem_of_getElem? hb
   have:∀b∈jM.data.toList,b.toNat<128:=by decide
   exact this b hm
  ·rw [h2]
   exact((Below.refl _ _).alloc (Nat.le_refl _) _).alloc (by simp) _
open Go.RowKit
open utfs (jb ja)
theorem Xk (k1 k2:ByteArray)(i1 i2:Int)(b c:Bool)(hb:(k1.toList == k2.toList)=b)(hc:(i1 == i2)=c)(w:World):(Op.equalIn 10000 50 (.agg #[.string k1,.int .i64 i1]) (.agg #[.string k2,.int .i64 i2])).run Tryd.prog w=.ok (b && c) w:=by
 have u3:=Tryd.underlying3;have u9:=Tryd.underlying9;have hS:Tryd.prog.underlying 50=some (.struct (Tryd.prog.fieldsOf 50)):=by kernel_rfl
 have hp:Tryd.prog.stoodInHeld 50=false:=by kernel_rfl
 rw [show(10000:Nat)=9999+1 from rfl,run_equalIn_agg w 9999 50 _ _ hS hp];simp only [Program.fieldsOf,Tryd.underlying50];cases b<;>cases c<;>go_simp
theorem Zk {k1 k2:ByteArray}{x y:St}{b:Bool}(h1:k1.data.toList=x.1)(h2:k2.data.toList=y.1):(k1.toList == k2.toList && x.2 == y.2)=decide (x=y):=by
 rw [ByteArray.toList_eq,ByteArray.toList_eq,h1,h2];obtain⟨a,i⟩:=x;obtain⟨c,j⟩:=y
 by_cases h:a=c
 ·subst h
  by_cases g:i=j
  ·subst g;simp
  ·simp [g]
 ·simp [h]
theorem Zd {P Q:List St}{k:Nat}(h:P.take k=Q.take k)(hp:k<P.length)(hq:k<Q.length)(e:P[k]=Q[k]):P.take (k+1)=Q.take (k+1):=by
 rw [List.take_succ_eq_append_getElem hp,List.take_succ_eq_append_getElem hq,h,e]
theorem Y0 (w:World)(p q:Option Addr)(c d:Nat)(P Q:List St)(h1:LiesP w p P)(h2:LiesP w q Q)(l1:P.length<=9223372036854775807)(l2:Q.length<=9223372036854775807) :
  Calls Tryd.prog 44 #[.slice p P.length c,.slice q Q.length d] w fun e w'=>e=.returned (.bool (decide (P=Q)))/\Below w.heap.size w w':=by
 by_cases hl:P.length=Q.length
 ·have j0:((P.length:Int) != (Q.length:Int))=false:=bne_eq_false_iff_eq.2 (by rw [hl])
  have HP:=jb h1;have HQ:=jb h2;have HL:=jb hl;clear h1 h2 hl
  go_enter Tryd.func44,Tryd.ntmps44
  go_wp2_with fail
  go_loopw [13] (fun i wr=>∃k:Nat,k<=P.length/\i=.int .i64 k/\Hid (P.take k=Q.take k)/\Below w.heap.size w wr) (fun i _=>P.length - (intOf i).toNat)
  case atStart=>exact⟨0,Nat.zero_le _,rfl,jb rfl,Below.refl _ _⟩
  case round=>
   obtain⟨k,hk,rfl,HE,hbw⟩:=hrel
   by_cases hlt:k<P.length
   ·obtain⟨B1,o1,k1,rfl,b1,e1,_,_,x0,x1⟩:=HP.out.at hlt
    obtain⟨B2,o2,k2,rfl,b2,e2,_,_,y0,y1⟩:=HQ.out.at (show k<Q.length by have:=HL.out;omega);have p0:=(hbw.cell (p:=⟨B1,o1+k*2,none⟩) b1).trans x0;have p1:=(hbw.cell (p:=⟨B1,o1+k*2+1,none⟩) b1).trans x1;have q0:=(hbw.cell (p:=⟨B2,o2+k*2,none⟩) b2).trans y0;have q1:=(hbw.cell (p:=⟨B2,o2+k*2+1,none⟩) b2).trans y1;have eq:=Xk k1 k2 (P[k]).2 (Q[k]).2 _ _ rfl rfl;rw [Zk (b:=true) e1 e2] at eq;have HD:Hid (decide (P[k]=Q[k])=true↔P[k]=Q[k]):=jb (by simp);have i1:(k:Int)<(P.length:Int):=by omega
    have i1':(k:Int)<(Q.length:Int):=by have:=HL.out;omega
    have i3':k<Q.length:=by omega
    have i2:(0:Int)<=(k:Int):=by omega
    clear x0 x1 y0 y1 e1 e2;obtain⟨bb,hbb⟩:∃bb,decide (P[k]=Q[k])=bb:=⟨_,rfl⟩
    rw [hbb] at eq;have HD2:Hid (bb=true↔P[k]=Q[k]):=jb (by rw [<-hbb];simp);clear HD hbb;generalize (P[k]).2=z1 at *;generalize (Q[k]).2=z2 at *;cases bb with
    | true=>
     have HT:=jb (Zd HE.out hlt (by omega) (HD2.out.1 rfl))
     go_wp2_with fail
     go_quiet (fail)
     have hbw2:=below_drewN hbw nq;clear hbw p0 p1 q0 q1 eq;generalize wr.drewN nq=w2 at *;go_wp2;go_roundw
     case rel=>exact⟨k+1,hlt,by go_num,HT,hbw2⟩
     case measure=>simp only [intOf];omega
    | false=>
     have HN:Hid (decide (P=Q)=false):=jb (decide_eq_false (fun e=>by subst e;exact Bool.noConfusion (HD2.out.2 rfl)))
     go_wp2_with fail
     go_quiet (fail)
     have hbw2:=below_drewN hbw nq;clear hbw p0 p1 q0 q1 eq;generalize wr.drewN nq=w2 at *;go_wp2;go_ret;exact⟨by rw [HN.out];rfl,hbw2⟩
   ·have HN:Hid (decide (P=Q)=true):=jb (decide_eq_true (by
     have h:=HE.out;have hl:=HL.out;rw [List.take_of_length_le (by omega),List.take_of_length_le (by omega)] at h;exact h))
    clear HE;go_wp2;go_ret;exact⟨by rw [HN.out];rfl,hbw⟩
 ·have j0:((P.length:Int) != (Q.length:Int))=true:=bne_iff_ne.2 (by omega)
  have HN:Hid (decide (P=Q)=false):=jb (decide_eq_false (fun e=>hl (by rw [e])));clear h1 h2
  go_enter Tryd.func44,Tryd.ntmps44
  go_wp2;go_ret;exact⟨by rw [HN.out];rfl,Below.refl _ _⟩
theorem Js (w:World)(p q:Option Addr)(c d:Nat)(P Q:List St)(h1:LiesP w p P)(h2:LiesP w q Q)(l1:P.length<=9223372036854775807)(l2:Q.length<=9223372036854775807) :
  Calls Tryd.prog 14 #[.slice p P.length c,.slice q Q.length d] w fun e w'=>e=.returned (.bool (decide (P=Q)))/\Below w.heap.size w w':=by
 by_cases hl:P.length=Q.length
 ·have j0:((P.length:Int) != (Q.length:Int))=false:=bne_eq_false_iff_eq.2 (by rw [hl])
  have HP:=jb h1;have HQ:=jb h2;have HL:=jb hl;clear h1 h2 hl
  go_enter Tryd.func14,Tryd.ntmps14
  go_wp2_with fail
  go_loopw [13] (fun i wr=>∃k:Nat,k<=P.length/\i=.int .i64 k/\Hid (P.take k=Q.take k)/\Below w.heap.size w wr) (fun i _=>P.length - (intOf i).toNat)
  case atStart=>exact⟨0,Nat.zero_le _,rfl,jb rfl,Below.refl _ _⟩
  case round=>
   obtain⟨k,hk,rfl,HE,hbw⟩:=hrel
   by_cases hlt:k<P.length
   ·obtain⟨B1,o1,k1,rfl,b1,e1,_,_,x0,x1⟩:=HP.out.at hlt
    obtain⟨B2,o2,k2,rfl,b2,e2,_,_,y0,y1⟩:=HQ.out.at (show k<Q.length by have:=HL.out;omega);have p0:=(hbw.cell (p:=⟨B1,o1+k*2,none⟩) b1).trans x0;have p1:=(hbw.cell (p:=⟨B1,o1+k*2+1,none⟩) b1).trans x1;have q0:=(hbw.cell (p:=⟨B2,o2+k*2,none⟩) b2).trans y0;have q1:=(hbw.cell (p:=⟨B2,o2+k*2+1,none⟩) b2).trans y1;have eq:=Xk k1 k2 (P[k]).2 (Q[k]).2 _ _ rfl rfl;rw [Zk (b:=true) e1 e2] at eq;have HD:Hid (decide (P[k]=Q[k])=true↔P[k]=Q[k]):=jb (by simp);have i1:(k:Int)<(P.length:Int):=by omega
    have i1':(k:Int)<(Q.length:Int):=by have:=HL.out;omega
    have i3':k<Q.length:=by omega
    have i2:(0:Int)<=(k:Int):=by omega
    clear x0 x1 y0 y1 e1 e2;obtain⟨bb,hbb⟩:∃bb,decide (P[k]=Q[k])=bb:=⟨_,rfl⟩
    rw [hbb] at eq;have HD2:Hid (bb=true↔P[k]=Q[k]):=jb (by rw [<-hbb];simp);clear HD hbb;generalize (P[k]).2=z1 at *;generalize (Q[k]).2=z2 at *;cases bb with
    | true=>
     have HT:=jb (Zd HE.out hlt (by omega) (HD2.out.1 rfl))
     go_wp2_with fail
     go_quiet (fail)
     have hbw2:=below_drewN hbw nq;clear hbw p0 p1 q0 q1 eq;generalize wr.drewN nq=w2 at *;go_wp2;go_roundw
     case rel=>exact⟨k+1,hlt,by go_num,HT,hbw2⟩
     case measure=>simp only [intOf];omega
    | false=>
     have HN:Hid (decide (P=Q)=false):=jb (decide_eq_false (fun e=>by subst e;exact Bool.noConfusion (HD2.out.2 rfl)))
     go_wp2_with fail
     go_quiet (fail)
     have hbw2:=below_drewN hbw nq;clear hbw p0 p1 q0 q1 eq;generalize wr.drewN nq=w2 at *;go_wp2;go_ret;exact⟨by rw [HN.out];rfl,hbw2⟩
   ·have HN:Hid (decide (P=Q)=true):=jb (decide_eq_true (by
     have h:=HE.out;have hl:=HL.out;rw [List.take_of_length_le (by omega),List.take_of_length_le (by omega)] at h;exact h))
    clear HE;go_wp2;go_ret;exact⟨by rw [HN.out];rfl,hbw⟩
 ·have j0:((P.length:Int) != (Q.length:Int))=true:=bne_iff_ne.2 (by omega)
  have HN:Hid (decide (P=Q)=false):=jb (decide_eq_false (fun e=>hl (by rw [e])));clear h1 h2
  go_enter Tryd.func14,Tryd.ntmps14
  go_wp2;go_ret;exact⟨by rw [HN.out];rfl,Below.refl _ _⟩
end paths
end Go.Proofs.YticcibefchffmaaDoor
