/- Of our texts, what this claim reaches. -/
import Derived.Test.YticcibefchffmaaDoorPptAU
import Derived.Test.YticcibefchffmaaDoorPptAP
import Derived.Test.YticcibefchffmaaDoorPptAX
import Derived.Laws.BytesString
import Derived.Test.YticcibefchffmaaDoorPptAE
set_option linter.unusedVariables false
set_option maxHeartbeats 4000000
set_option maxRecDepth 100000
namespace Go.Proofs.YticcibefchffmaaDoor
namespace paths
open Go.RowKit
open utfs (bad jb ja)
open bigs (tellB digB hexc)
open escs (ju qD)
theorem Zy (w:World)(s:ByteArray)(i:Nat)(hs:s.size<=1073741824)(h:s.size<=i)(hi:i<=1073741824) :
  Calls Tryd.prog 33 #[.string s,.int .i64 i] w fun e w'=>e=.returned (.bool false)/\w'=w:=by
 have t:¬(i:Int)<(s.size:Int):=by omega
 go_enter Tryd.func33,Tryd.ntmps33
 go_wp2;go_ret;exact⟨rfl,rfl⟩
theorem Zg (w:World)(s:ByteArray)(i:Nat)(hs:s.size<=1073741824)(h:i<s.size)(b:Bool)(hb:Hid (b=true↔(48<=(s[i]'h).toNat/\(s[i]'h).toNat<=57))) :
  Calls Tryd.prog 33 #[.string s,.int .i64 i] w fun e w'=>e=.returned (.bool b)/\w'=w:=by
 have t:(i:Int)<(s.size:Int):=by omega
 have t0:(0:Int)<=(i:Int):=by omega
 by_cases h1:48<=(s[i]'h).toNat
 ·by_cases h2:(s[i]'h).toNat<=57
  ·rw [hb.out.2 ⟨h1,h2⟩]
   have t3:decide ((((s[i]'h).toNat:Nat):Int)<=57)=true:=decide_eq_true (by omega)
   go_enter Tryd.func33,Tryd.ntmps33
   go_wp2;go_ret;exact⟨rfl,rfl⟩
  ·rw [show b=false from Bool.eq_false_iff.2 (fun e=>h2 (hb.out.1 e).2)]
   have t3:decide ((((s[i]'h).toNat:Nat):Int)<=57)=false:=decide_eq_false (by omega)
   go_enter Tryd.func33,Tryd.ntmps33
   go_wp2;go_ret;exact⟨rfl,rfl⟩
 ·rw [show b=false from Bool.eq_false_iff.2 (fun e=>h1 (hb.out.1 e).1)]
  go_enter Tryd.func33,Tryd.ntmps33
  go_wp2;go_ret;exact⟨rfl,rfl⟩
theorem ZK (w:World)(x:Value)(t:TypeId):∀j r,[x][j]?=some r->(w.alloc (.cells #[x] t)).cell? ((⟨w.heap.size,0,none⟩:Addr).add j)=some r :=
 fun j r hu=>World.news_of_block (valus.jl w #[x] t) j r hu
theorem jac (x:Nat)(w:World) :
  (convert 58 9 (.slice (some ⟨w.heap.size,0,none⟩) 1 1)).run Tryd.prog (w.alloc (.cells #[.int .u8 (48+(x:Int) % 10)] 5))=.ok (.string ⟨#[UInt8.ofNat (48+x % 10)]⟩) (w.alloc (.cells #[.int .u8 (48+(x:Int) % 10)] 5)):=by
 rw [run_convert_bytes_string _ 58 9 5 _ _ _ Tryd.underlying58 Tryd.underlying5 Tryd.underlying9];have h:=run_loadCells_list (P:=Tryd.prog) (w:=w.alloc (.cells #[.int .u8 (48+(x:Int) % 10)] 5)) ⟨w.heap.size,0,none⟩ [.int .u8 (48+(x:Int) % 10)] (ZK _ _ _);rw [run_bytesToString _ _ 1 1 [48+(x:Int) % 10] h];have e:(48+(x:Int) % 10).toNat=48+x % 10:=by omega
 simp only [List.foldl_cons,List.foldl_nil,e];rfl
theorem jai (D:List UInt8)(c:UInt8):(⟨D.toArray⟩:ByteArray)++(⟨#[c]⟩:ByteArray)=⟨(D++[c]).toArray⟩:=by
 apply ByteArray.ext
 rw [ByteArray.data_append];apply Array.toList_inj.1
 simp
theorem Zo {d:Nat}(h:d<10):hexc d=UInt8.ofNat (48+d):=by
 have:∀k:Fin 10,hexc k=UInt8.ofNat (48+(k:Nat)):=by decide
 exact this ⟨d,h⟩
theorem Xf {n:Nat}(h:n<=9223372036854775808):(digB 10 n).length<=20:=bigs.digB_len (by omega) 19 n (by omega)
theorem Xd {n:Nat}(h:n<10):(⟨#[UInt8.ofNat (48+n % 10)]⟩:ByteArray)=⟨(digB 10 n).toArray⟩:=by
 rw [bigs.digB_low h,Zo h,Nat.mod_eq_of_lt h]
theorem YE (n:Nat):∀(w:World),n<=9223372036854775808->
  Calls Tryd.prog 58 #[.int .i64 (-(n:Int))] w fun e w'=>e=.returned (.string ⟨(digB 10 n).toArray⟩)/\Below w.heap.size w w':=by
 induction n using Nat.strongRecOn with
 | ind n ih=>
  intro w hn;have q1:Int.tmod (-(n:Int)) 10 = -((n % 10:Nat):Int):=by rw [Int.neg_tmod,Int.tmod_eq_emod_of_nonneg (by omega)];simp
  have q2:Int.tdiv (-(n:Int)) 10 = -((n / 10:Nat):Int):=by rw [Int.neg_tdiv];simp
  have hb:Below w.heap.size w (w.alloc (.cells #[.int .u8 (48+(n:Int) % 10)] 5)):=(Below.refl _ w).alloc (Nat.le_refl _) _;have hcv:=jac n w;have q3:((n % 10:Nat):Int)=(n:Int) % 10:=by omega
  by_cases h10:n<10
  ·have i1:(-10:Int) < -(n:Int):=by omega
   rw [Xd h10] at hcv
   go_enter Tryd.func58,Tryd.ntmps58
   go_wp2;go_ret;exact⟨rfl,hb⟩
  ·have i1:¬(-10:Int) < -(n:Int):=by omega
   have K:=jb (ih (n / 10) (by omega) (w.alloc (.cells #[.int .u8 (48+(n:Int) % 10)] 5)) (by omega));have HE:Hid (digB 10 n=digB 10 (n / 10)++[UInt8.ofNat (48+n % 10)]):=jb (by rw [bigs.digB_high (by omega) (by omega),Zo (Nat.mod_lt _ (by omega))]);have hl:=Xf (show n / 10<=9223372036854775808 by omega);obtain⟨dc,hdc⟩:∃dc:UInt8,UInt8.ofNat (48+n % 10)=dc:=⟨_,rfl⟩
   rw [hdc] at hcv HE;clear ih hdc;have hls:(⟨(digB 10 (n / 10)).toArray⟩:ByteArray).size<=20:=by rw [valus.qw];exact hl
   generalize digB 10 (n / 10)=D at *
   go_enter Tryd.func58,Tryd.ntmps58
   go_wp2_with fail
   refine(ja K).mono ?_
   rintro e w2 ⟨rfl,b2⟩
   go_wp2;go_ret;rw [ja HE,<-jai];exact⟨rfl,hb.trans (b2.mono hb.size)⟩
theorem XQ (w:World)(n:Nat)(hn:n<=9223372036854775807) :
  Calls Tryd.prog 36 #[.int .i64 n] w fun e w'=>e=.returned (.string ⟨(tellB 10 n).toArray⟩)/\Below w.heap.size w w':=by
 rw [zX (by omega),Int.natAbs_natCast];have K:=jb (YE n w (by omega));have i1:¬(n:Int)<0:=by omega
 go_enter Tryd.func36,Tryd.ntmps36
 go_wp2_with fail
 refine(ja K).mono ?_
 rintro e w1 ⟨rfl,b1⟩
 go_wp2;go_ret;exact⟨rfl,b1⟩
theorem j3 (w:World)(p:Option Addr)(c:Nat)(P:List St)(hP:LiesP w p P)(hl:P.length<=9223372036854775807) :
  Calls Tryd.prog 8 #[.slice p P.length c] w fun e w'=>e=.returned (.int .i64 (jk P))/\Below w.heap.size w w':=by
 by_cases i1:(P.length:Int) > 20
 ·have E:Hid (jk P=5):=jb (by unfold jk;rw [if_pos (by omega)])
  go_enter Tryd.func8,Tryd.ntmps8
  go_wp2_with fail
  go_ret;exact⟨by rw [E.out];rfl,Below.refl _ _⟩
 ·have E:Hid (jk P=qo P):=jb (by unfold jk;rw [if_neg (by omega)])
  have HP:=jb hP;clear hP
  go_enter Tryd.func8,Tryd.ntmps8
  go_wp2_with fail
  go_loopw [10] (fun i wr=>∃j:Nat,i=.int .i64 j/\j<=P.length/\Hid (qo (P.drop j)=qo P)/\Below w.heap.size w wr) (fun i _=>P.length - (intOf i).toNat)
  case atStart=>exact⟨0,rfl,Nat.zero_le _,rfl,Below.refl _ _⟩
  case round=>
   obtain⟨j,rfl,hj,hacc,hbw⟩:=hrel
   by_cases hlt:j<P.length
   ·obtain⟨B,o,key,rfl,hB,hk1,hk2,hk3,c0,c1⟩:=HP.out.at hlt
    have hst:=Zm hlt;rw [hacc.out] at hst;have q0:=(hbw.cell (p:=⟨B,o+j*2,none⟩) hB).trans c0;have q1:=(hbw.cell (p:=⟨B,o+j*2+1,none⟩) hB).trans c1;have hbA:Below w.heap.size w (wr.alloc (.cells #[.string key,.int .i64 (P[j]).2] 50)):=hbw.alloc (by have:=hbw.size;omega) _;have hks:key.size=(P[j]).1.length:=by rw [<-hk1];rfl
    have KB:=fun(h:key.size<=140737488355328)=>jb (utfs.J2 key (wr.alloc (.cells #[.string key,.int .i64 (P[j]).2] 50)) h)
    rw [hk1] at KB;have hch:jE P[j]=if (P[j]).2 < -1\/(-1<(P[j]).2/\(P[j]).1≠[]) then 1 else if 100<(P[j]).1.length then 2 else if 0<=bad (P[j]).1 then 3 else 0:=rfl
    rw [<-hks] at hch;have hemp:(P[j]).1≠[]↔0<key.size:=by rw [hks];exact List.length_pos_iff.symm
    generalize jE P[j]=er at *;generalize (P[j]).2=xi at *;have HB:=jb hbA;clear hbA c0 c1 hk1 hacc hks
    by_cases a1:xi < -1
    ·rw [if_pos (.inl a1)] at hch
     subst hch;have H3:Hid (qo P=1):=jb hst;clear hst KB hemp;go_wp2;go_ret;exact⟨by rw [E.out,H3.out];rfl,HB.out⟩
    ·by_cases a2 : -1<xi/\0<key.size
     ·rw [if_pos (.inr ⟨a2.1,hemp.2 a2.2⟩)] at hch
      subst hch;have H3:Hid (qo P=1):=jb hst;have n1:(xi != -1)=true:=bne_iff_ne.2 (by omega);have he:=escs.qO key a2.2;clear hst KB hemp;go_wp2;go_ret;exact⟨by rw [E.out,H3.out];rfl,HB.out⟩
     ·rw [if_neg (by rintro(h | ⟨h1,h2⟩);exact a1 h;exact a2 ⟨h1,hemp.1 h2⟩)] at hch
      have hcond:((xi != -1)=false)\/((xi != -1)=true/\key.toList.isEmpty=true):=by
       by_cases h:xi = -1
       ·exact .inl (by rw [h];rfl)
       ·exact .inr ⟨bne_iff_ne.2 h,escs.ql key (by omega)⟩
      clear hemp
      by_cases a3:(key.size:Int) > 100
      ·rw [if_pos (by omega)] at hch
       subst hch;have H3:Hid (qo P=2):=jb hst;clear hst KB
       rcases hcond with n1 | ⟨n1,n2⟩
       all_goals
        go_wp2;go_ret;exact⟨by rw [E.out,H3.out];rfl,HB.out⟩
      ·rw [if_neg (by omega)] at hch
       have KB':=KB (by omega);clear KB;generalize bad (P[j]).1=bd at *
       by_cases a4:bd ≥ 0
       ·rw [if_pos a4] at hch
        subst hch;have H3:Hid (qo P=3):=jb hst;clear hst
        rcases hcond with n1 | ⟨n1,n2⟩
        all_goals
         go_wp2_with fail
         refine(ja KB').mono ?_
         rintro e w2 ⟨rfl,b2⟩
         have hb2:=jb (HB.out.trans (b2.mono HB.out.size));clear b2;go_wp2;go_ret;exact⟨by rw [E.out,H3.out];rfl,hb2.out⟩
       ·rw [if_neg a4] at hch
        subst hch;rw [if_pos rfl] at hst;have H3:=jb hst.symm;clear hst
        rcases hcond with n1 | ⟨n1,n2⟩
        all_goals
         go_wp2_with fail
         refine(ja KB').mono ?_
         rintro e w2 ⟨rfl,b2⟩
         have hb2:=HB.out.trans (b2.mono HB.out.size);clear b2;go_wp2;refine⟨⟨j+1,?_,by omega,H3,hb2⟩,?_⟩
         ·congr 1
         ·simp only [intOf]
          omega
   ·have H3:Hid (qo P=0):=jb (by rw [<-hacc.out,List.drop_of_length_le (by omega)];rfl)
    have g0:¬(j:Int)<(P.length:Int):=by omega
    clear hacc;go_wp2;go_ret;exact⟨by rw [E.out,H3.out];rfl,hbw⟩
theorem zn (w:World)(p:Option Addr)(c:Nat)(P:List St)(hP:LiesP w p P)(hc0:jk P=0) :
  Calls Tryd.prog 12 #[.slice p P.length c] w fun e w'=>e=.returned (.string ⟨(jn P).toArray⟩)/\Below w.heap.size w w':=by
 obtain⟨hl20,hall⟩:=jH hc0;have HP:=jb hP;have HA:=jb hall;clear hP hall hc0
 go_enter Tryd.func12,Tryd.ntmps12
 go_wp2_with fail
 go_loopw [3,8] (fun t i wr=>∃(j:Nat) (T:List UInt8),i=.int .i64 j/\j<=P.length/\t=.string ⟨T.toArray⟩/\Hid (T=36 :: ji (P.take j))/\T.length<=1+700*j/\Below w.heap.size w wr) (fun _ i _=>P.length - (intOf i).toNat)
 case atStart=>exact⟨0,[36],rfl,Nat.zero_le _,rfl,jb rfl,by simp,Below.refl _ _⟩
 case round=>
  obtain⟨j,T,rfl,hj,rfl,HT,hTl,hbw⟩:=hrel
  by_cases hlt:j<P.length
  ·obtain⟨B,o,key,rfl,hB,hk1,hk2,hk3,c0,c1⟩:=HP.out.at hlt
   have hch:=HA.out _ (List.getElem_mem hlt);have hs:=j4 hch;have hsl:=JX hch hk3;have q0:=(hbw.cell (p:=⟨B,o+j*2,none⟩) hB).trans c0;have q1:=(hbw.cell (p:=⟨B,o+j*2+1,none⟩) hB).trans c1;have hbA:Below w.heap.size w (wr.alloc (.cells #[.string key,.int .i64 (P[j]).2] 50)):=hbw.alloc (by have:=hbw.size;omega) _;have hks:key.size=(P[j]).1.length:=by rw [<-hk1];rfl
   have ht:Hid (T++stT P[j]=36 :: ji (P.take (j+1))):=jb (by
    rw [HT.out,List.take_succ_eq_append_getElem hlt,zq]
    show _ :: (_++_)=_
    simp [ji])
   have HB:=jb hbA;have hstl:=JX hch hk3
   by_cases e:(P[j]).2 = -1
   ·have KK:=jb (escs.Qh (wr.alloc (.cells #[.string key,.int .i64 (P[j]).2] 50)) key (by omega) (by rw [hk1];exact hs.2.2.2))
    have hE:stT P[j]=46 :: ju key.data.toList:=by unfold stT;rw [if_pos e,hk1]
    rw [hE] at ht hstl;simp only [List.length_cons] at hstl;have hc1:∀u,(Op.stringOp .add ⟨#[46]⟩ ⟨(ju key.data.toList).toArray⟩).run Tryd.prog u=.ok (.string ⟨(46 :: ju key.data.toList).toArray⟩) u:=fun u=>qD [46] (ju key.data.toList) (by simp;omega) u
    have hc2:∀u,(Op.stringOp .add ⟨T.toArray⟩ ⟨(46 :: ju key.data.toList).toArray⟩).run Tryd.prog u=.ok (.string ⟨(T++46 :: ju key.data.toList).toArray⟩) u:=fun u=>qD T (46 :: ju key.data.toList) (by simp;omega) u
    have e1:((P[j]).2 == -1)=true:=beq_iff_eq.2 e;clear hs hsl hE hch hbA hks c0 c1 hk1 hk2 hk3 HT e;generalize ju key.data.toList=kt at *;generalize (P[j]).2=xi at *
    go_wp2_with fail
    refine(ja KK).mono ?_
    rintro _ w2 ⟨rfl,b2⟩
    have hb2:=HB.out.trans (b2.mono HB.out.size);clear b2 KK HB;go_wp2;refine⟨⟨j+1,T++46 :: kt,?_,by omega,rfl,ht,by simp;omega,hb2⟩,?_⟩
    ·congr 1
    ·simp only [intOf]
     omega
   ·have e1:((P[j]).2 == -1)=false:=beq_false_of_ne e
    have h5:0<=(P[j]).2:=by have:=hs.1;omega
    have hE:stT P[j]=91 :: (tellB 10 (P[j]).2++[93]):=by unfold stT;rw [if_neg e]
    rw [hE] at ht hstl;simp only [List.length_cons,List.length_append,List.length_nil] at hstl;obtain⟨m,hm⟩:∃m:Nat,(P[j]).2=m:=⟨(P[j]).2.toNat,by omega⟩
    have KK:=jb (XQ (wr.alloc (.cells #[.string key,.int .i64 (P[j]).2] 50)) m (by omega));rw [<-hm] at KK;generalize (P[j]).2=xi at *;generalize tellB 10 xi=kt at *;have hc1:∀u,(Op.stringOp .add ⟨#[91]⟩ ⟨kt.toArray⟩).run Tryd.prog u=.ok (.string ⟨(91 :: kt).toArray⟩) u:=fun u=>qD [91] kt (by simp;omega) u
    have hc2:∀u,(Op.stringOp .add ⟨(91 :: kt).toArray⟩ ⟨#[93]⟩).run Tryd.prog u=.ok (.string ⟨(91 :: (kt++[93])).toArray⟩) u:=fun u=>qD (91 :: kt) [93] (by simp;omega) u
    have hc3:∀u,(Op.stringOp .add ⟨T.toArray⟩ ⟨(91 :: (kt++[93])).toArray⟩).run Tryd.prog u=.ok (.string ⟨(T++91 :: (kt++[93])).toArray⟩) u:=fun u=>qD T (91 :: (kt++[93])) (by simp;omega) u
    clear hs hsl hE hch hbA hks c0 c1 hk1 hk2 hk3 HT e hm h5
    go_wp2_with fail
    refine(ja KK).mono ?_
    rintro _ w2 ⟨rfl,b2⟩
    have hb2:=HB.out.trans (b2.mono HB.out.size);clear b2 KK HB;go_wp2;refine⟨⟨j+1,T++91 :: (kt++[93]),?_,by omega,rfl,ht,by simp;omega,hb2⟩,?_⟩
    ·congr 1
    ·simp only [intOf]
     omega
  ·obtain rfl:j=P.length:=by omega
   have g0:¬(P.length:Int)<(P.length:Int):=by omega
   have HF:Hid (T=jn P):=jb (by rw [HT.out,List.take_length];rfl);clear HT;go_wp2;go_ret;rw [HF.out];exact⟨rfl,hbw⟩
end paths
end Go.Proofs.YticcibefchffmaaDoor
