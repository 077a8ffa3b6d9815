/- Of our texts, what this claim reaches. -/
import Derived.Test.YtnbfnjhbmeocfaaGreatDoorPstBB
import Derived.Test.YtnbfnjhbmeocfaaGreatDoorPstAI
import Derived.Lib.AppendIntMem
import Derived.Lib.Walk
import Derived.BigCall
import Derived.BigGuard
import Derived.Test.YtnbfnjhbmeocfaaGreatDoorPstAZ
import Derived.Deep.CutRange
import Derived.Test.YtnbfnjhbmeocfaaGreatDoorPstAY
import Derived.Laws.BytesString
import Derived.Laws.Cells
import Derived.Laws.BitsAllLaws
import Derived.Test.YtnbfnjhbmeocfaaGreatDoorPstAV
import Derived.Deep.QuietTactic
import Derived.BigQuiet
import Derived.Deep.RegionWith
set_option linter.unusedVariables false
set_option maxHeartbeats 16000000
set_option maxRecDepth 100000
namespace Go.Proofs.YtnbfnjhbmeocfaaGreatDoor
namespace bigs
open Go.RowKit Go.Sort
theorem jcU (w:World)(u:Nat)(hu64:u<18446744073709551616)(htab:Lib.TabIs Tryz.prog w "internal/strconv.uint64pow10" .u64 Lib.pow10Tab) :
  Calls Tryz.prog 293 #[.int .u64 u,.int .i64 10] w fun e w'=>e=.returned (.string ⟨(Lib.decDigits u).toArray⟩)/\Below w.heap.size w w':=by
 by_cases hs:u<100
 ·have K:=jb (Tryz.internal_strconv_small u hs w)
  have iu:(u:Int)<100:=by omega
  go_enter Tryz.func293,Tryz.ntmps293
  go_wp2_with fail
  refine(ja K).mono ?_
  rintro e w' ⟨rfl,rfl⟩
  go_wp2;go_ret;exact⟨rfl,Below.refl _ _⟩
 ·have hu1:1<=u:=by omega
  have iu:¬(u:Int)<100:=by omega
  have hnd20:Lib.nDigits u<=20:=by have:=Lib.numDigits_eq u hu1 hu64;split at this<;>omega
  have hsl:∀W,(Instr.sliceAt 309 (.pointer (some ⟨w.heap.size,0,none⟩)) none (some (.int .i64 (Lib.nDigits u:Int))) none).run Tryz.prog W=.ok (.slice (some ⟨w.heap.size,0,none⟩) (Lib.nDigits u) 24) W:=fun W=>by
   have hal:(Tryz.prog).arrayLen 309=24:=by simp [Program.arrayLen,Tryz.underlying309]
   rw [run_sliceAt_array_h W 309 ⟨w.heap.size,0,none⟩ (by simp [Program.arrayLen,Program.elem,Tryz.underlying309]) .i64 (Lib.nDigits u:Int) (by omega) (by rw [hal];omega)]
   go_simp
  have hH0:=Lib.holds_zero0 w 309 (Lib.nDigits u) (by omega);have hfmt:=Tryz.internal_strconv_formatBase10 w.heap.size 0 24 u (Array.replicate (Lib.nDigits u) 0) (w.alloc (.cells Lib.zeros24 309)) hH0 (by rw [Array.size_replicate];exact Lib.lt_pow_nDigits u) hu64 (by rw [Array.size_replicate];omega);rw [Array.size_replicate] at hfmt;have HF:=jb hfmt;have HH0:=jb hH0;have KD:=jb (Tryz.internal_strconv_numDigits u hu1 hu64 (w.alloc (.cells Lib.zeros24 309)) (Lib.tabIs_alloc htab _));clear hH0 hfmt
  go_enter Tryz.func293,Tryz.ntmps293
  go_wp2_with fail
  refine(ja KD).mono ?_
  rintro e w' ⟨rfl,rfl⟩
  go_wp2_with fail
  refine(ja HF).mono ?_
  rintro e w' ⟨rfl,k,v',dk,rfl,hF⟩
  have hcv:(convert 147 9 (.slice (some ⟨w.heap.size,0,none⟩) (Lib.nDigits u) 24)).run Tryz.prog ((putRow (fun(b:UInt8)=>Value.int .u8 (b.toNat:Int)) (w.alloc (.cells Lib.zeros24 309)) w.heap.size 0 dk).drewN k)=.ok (.string ⟨(Lib.decDigits u).toArray⟩) ((putRow (fun(b:UInt8)=>Value.int .u8 (b.toNat:Int)) (w.alloc (.cells Lib.zeros24 309)) w.heap.size 0 dk).drewN k):=by
   have h:=run_convert_bytes_back (P:=Tryz.prog) ((putRow (fun(b:UInt8)=>Value.int .u8 (b.toNat:Int)) (w.alloc (.cells Lib.zeros24 309)) w.heap.size 0 dk).drewN k) 147 9 5 ⟨w.heap.size,0,none⟩ 24 (Lib.decDigits u) Tryz.underlying147 Tryz.underlying5 Tryz.underlying9 (fun j hj=>by
    rw [Lib.row_is_numeral hF j hj,Lib.add_plain,World.cell?_drewN];exact cell?_putRow (fun(b:UInt8)=>Value.int .u8 (b.toNat:Int)) _ w.heap.size 0 _ dk (ja HH0) (by rw [hF.size,Array.size_replicate]) j (by rw [hF.size];rw [Lib.decDigits_length] at hj;exact hj))
   rw [Lib.decDigits_length] at h;exact h
  obtain⟨os,eo⟩:=Lib.fin_at w (.cells Lib.zeros24 309) dk k 0;have bw:=jb (Lib.below_grow w.heap.size w (Nat.le_refl _) k os);rw [<-eo] at bw;clear eo HF HH0 KD hF;generalize (putRow (fun(b:UInt8)=>Value.int .u8 (b.toNat:Int)) (w.alloc (.cells Lib.zeros24 309)) w.heap.size 0 dk).drewN k=W2 at *;go_wp2;go_ret;exact⟨rfl,ja bw⟩
theorem ZN {P:Program}{w w':World}{name:String}{k:IntKind}{zs:List Int}(h:Lib.TabIs P w name k zs)(hb:Below w.heap.size w w'):Lib.TabIs P w' name k zs:=by
 unfold Lib.TabIs World.var? at *
 cases hg:P.globalNamed name with
 | none=>simp [hg] at h
 | some g=>
  simp only [hg,Option.bind_some] at h ⊢
  have hlt:g<w.heap.size:=by
   rcases Nat.lt_or_ge g w.heap.size with k | k
   ·exact k
   ·rw [Array.getElem?_eq_none k] at h
    simp at h
  rw [hb.block g hlt];exact h
theorem jdl (w:World)(u:Nat)(hu64:u<18446744073709551616)(htab:Lib.TabIs Tryz.prog w "internal/strconv.uint64pow10" .u64 Lib.pow10Tab) :
  Calls Tryz.prog 274 #[.int .u64 u,.int .i64 10] w fun e w'=>e=.returned (.string ⟨(Lib.decDigits u).toArray⟩)/\Below w.heap.size w w':=by
 have K:=jb (jcU w u hu64 htab);clear htab
 go_enter Tryz.func274,Tryz.ntmps274
 go_wp2_with fail
 refine(ja K).mono ?_
 rintro e w' ⟨rfl,b⟩
 have B:=jb b;clear b K;go_wp2;go_ret;exact⟨rfl,ja B⟩
open Go.RowKit
theorem Ji (b r:Nat)(hb:b<18446744073709551616)(hr:r=b % 9223372036854775808)(h0:0<r)(hi:r<9218868437227405312):(jo b).1=jM r/\(jo b).2.1=((r / 4503599627370496 - 1:Nat):Int) - 1074/\(jo b).2.2=0:=by
 unfold jo jM;rw [if_neg (by omega)]
 by_cases c:b / 4503599627370496 % 2048=0
 ·rw [if_pos c,if_pos (by omega)]
  refine⟨?_,?_,rfl⟩<;>simp only<;>omega
 ·rw [if_neg c,if_neg (by omega)]
  refine⟨?_,?_,rfl⟩<;>simp only<;>omega
theorem jcG {r j:Nat}(h:Qf r j 0):False:=by
 have h1:=jab h.2.1;unfold ze fL at h1;have h2:0<mid (r - 1)*wF:=Nat.mul_pos (by unfold mid;exact Nat.mul_pos (by omega) (Je _)) Yr;omega
theorem jfI (w:World)(b r:Nat)(hb:b<18446744073709551616)(hr:r=b % 9223372036854775808)(h0:0<r)(hi:r<9218868437227405312)(htab:Lib.TabIs Tryz.prog w "internal/strconv.uint64pow10" .u64 Lib.pow10Tab) :
  Calls Tryz.prog 254 #[.int .u64 b] w fun e w'=>(∃(d:Nat) (ten:Int),e=.returned (.tuple #[.string ⟨(Lib.decDigits d).toArray⟩,.int .i64 ten,.int .i64 0])/\d % 10≠0/\d<18446744073709551616/\-400<=ten/\ten<=500/\∃j,Qf r j (d*10 ^ (ten+1080).toNat))/\Below w.heap.size w w':=by
 obtain⟨e1,e2,e3⟩:=Ji b r hb hr h0 hi;have KP:=zW w b hb;obtain⟨m,hm⟩:∃m,m=jM r:=⟨_,rfl⟩
 obtain⟨e,he⟩:∃e:Int,e=((r / 4503599627370496 - 1:Nat):Int) - 1074:=⟨_,rfl⟩
 obtain⟨t,c,lo,a,hi',more,hc,t1,t2,hlo,ha,hhi,hmore,a1,a2,l2,h2,KS⟩:=jhU w r m e h0 hi hm he;have mp:0<m:=by rw [hm];unfold jM;split<;>omega
 have m0:((m:Int) == 0)=false:=beq_false_of_ne (by omega);rw [e1,e2,e3,<-hm,<-he] at KP;have KSH:∀w',Hid _:=fun w'=>jb (jbp w' r c a lo hi' t more h0 ha hlo hhi hmore a1 a2 l2 h2)
 have HT:=jb htab;have HC:=jb hc;clear e1 e2 e3 htab hc hm he ha hlo hhi hmore hr h0 hi;have HKP:=jb KP;have HKS:=jb KS;clear KP KS
 go_enter Tryz.func254,Tryz.ntmps254
 go_wp2_with fail
 refine(ja HKP).mono ?_
 rintro e' w' ⟨rfl,ew⟩
 rw [ew];clear ew w'
 go_wp2_with fail
 refine(ja HKS).mono ?_
 rintro e' w2 ⟨rfl,b2⟩
 clear HKP HKS
 go_upto_region 5 with fail
 have bk:=jd w2 #[.int .u64 lo,.int .u64 a,.int .u64 hi',.bool more,.int .i64 t] 301;have b3:Below w.heap.size w (w2.alloc (.cells #[.int .u64 lo,.int .u64 a,.int .u64 hi',.bool more,.int .i64 t] 301)):=b2.alloc b2.size _;generalize w2.alloc (.cells #[.int .u64 lo,.int .u64 a,.int .u64 hi',.bool more,.int .i64 t] 301)=w3 at *;have d0:w3.drew.cell? ⟨w2.heap.size,0,none⟩=some (.int .u64 lo):=bk.cell 0 _ rfl
 have d1:w3.drew.cell? ⟨w2.heap.size,1,none⟩=some (.int .u64 a):=bk.cell 1 _ rfl
 have d2:w3.drew.cell? ⟨w2.heap.size,2,none⟩=some (.int .u64 hi'):=bk.cell 2 _ rfl
 have d3:w3.drew.cell? ⟨w2.heap.size,3,none⟩=some (.bool more):=bk.cell 3 _ rfl
 have d4:w3.drew.cell? ⟨w2.heap.size,4,none⟩=some (.int .i64 t):=bk.cell 4 _ rfl
 have BK:Hid (Blk w3.drew w2.heap.size #[.int .u64 lo,.int .u64 a,.int .u64 hi',.bool more,.int .i64 t] 301):=jb bk;have B3:Hid (Below w.heap.size w w3.drew):=jb b3.drew;clear bk b3 b2
 go_cut [9,10] from 26 to 29 (fun s9 s10 wx=>∃x:Nat,s9=.int .u64 x/\x<18446744073709551616/\Hid (∃j,Qf r j (x*10 ^ c))/\s10=.int .i64 t/\Hid (Below w.heap.size w wx))
 case first=>
  go_region_with (first
   | (go_at_call 273
      refine(ja (KSH _)).mono ?_
      rintro _ w4 ⟨⟨x,rfl,hx,hbest⟩,b4⟩
      have BE:=jb hbest;have k4:w4.cell? ⟨w2.heap.size,4,none⟩=some (.int .i64 t):=((ja BK).below b4).cell 4 _ rfl
      have B4:=jb ((ja B3).trans (b4.mono (ja B3).size));clear hbest b4))
  all_goals (go_wp2_with fail;go_meet;exact⟨x,rfl,hx,BE,rfl,B4⟩)
 case rest=>
 obtain⟨x,rfl,hx,HB,rfl,B4⟩:=hcut;clear KSH d0 d1 d2 d3 d4 BK B3
 have x0:0<x:=by
  rcases Nat.eq_zero_or_pos x with h | h
  ·exfalso
   obtain⟨j,hj⟩:=ja HB;rw [h,Nat.zero_mul] at hj;exact jcG hj
  ·exact h
 go_wp2_with fail
 go_loopw [9,10] (fun v9 v10 wr=>∃(n k:Nat),v9=.int .u64 n/\v10=.int .i64 (t+(k:Int))/\0<n/\k<20/\Hid (n*10 ^ k=x)/\n<18446744073709551616/\wr=wc) (fun v9 _ _=>(intOf v9).toNat)
 case atStart=>exact⟨x,0,rfl,by simp,x0,by omega,jb (by simp),hx,by trivial⟩
 case round=>
  obtain⟨n,k,rfl,rfl,n0,hk,hn,n1,rfl⟩:=hrel
  by_cases c1:n % 10=0
  ·have y1:(n:Int) % 10=0:=by omega
   have y2:IntKind.u64.wrap ((n:Int).tdiv 10)=((n / 10:Nat):Int):=by
    rw [Int.tdiv_eq_ediv_of_nonneg (by omega)];simp [IntKind.wrap,IntKind.bits,IntKind.signed];omega
   have y4:IntKind.u64.wrap ((n:Int) / 10)=((n / 10:Nat):Int):=by
    simp [IntKind.wrap,IntKind.bits,IntKind.signed];omega
   have y5:(((n:Int) % 10) == 0)=true:=by rw [y1];rfl
   have y3:IntKind.i64.wrap (t+(k:Int)+1)=t+((k+1:Nat):Int):=by
    rw [wrap_small _ (by omega) (by omega)];omega
   have HN:Hid (n / 10*10 ^ (k+1)=x):=jb (by
    rw [<-ja hn,Nat.pow_succ,Nat.mul_comm (10 ^ k),<-Nat.mul_assoc]
    congr 1
    omega)
   have hk2:k+1<20:=by
    rcases Nat.lt_or_ge (k+1) 20 with g | g
    ·exact g
    ·exfalso
     have e:k=19:=by omega
     have:=ja HN;rw [e] at this;have:0<n / 10:=by omega
     omega
   have HM:Hid (n / 10<n/\0<n / 10):=jb (by omega);have n2:n / 10<18446744073709551616:=by omega
   clear y1;go_wp2;go_roundw
   case rel=>exact⟨n / 10,k+1,by first | rfl | simp,by first | rfl | simp,(ja HM).2,hk2,HN,n2,by trivial⟩
   case measure=>have:=ja HM;simp only [intOf];omega
  ·have y5:(((n:Int) % 10) == 0)=false:=beq_false_of_ne (by omega)
   have KF:=jb (jdl wr n n1 (ZN (ja HT) (ja B4)))
   have HBN:Hid (∃j,Qf r j (n*10 ^ (t+(k:Int)+1080).toNat)):=jb (by
    obtain⟨j,hj⟩:=ja HB;refine⟨j,?_⟩;rw [<-ja hn,ja HC] at hj;rwa [show(t+(k:Int)+1080).toNat=k+(t+1080).toNat by omega,Nat.pow_add,<-Nat.mul_assoc])
   clear HT HC
   go_wp2_with fail
   refine(ja KF).mono ?_
   rintro _ w5 ⟨rfl,b5⟩
   have B5:=jb ((ja B4).trans (b5.mono (ja B4).size));clear b5 KF;go_wp2;refine bodyPost_ret (v:=.tuple #[.string ⟨(Lib.decDigits n).toArray⟩,.int .i64 (t+(k:Int)),.int .i64 0]) (by simp [results,Tryz.results254,go_sem]) rfl ?_
   exact⟨⟨n,t+(k:Int),rfl,c1,n1,by omega,by omega,ja HBN⟩,ja B5⟩
open Go.RowKit
theorem jL (n:Nat):Lib.decDigits n=js n:=by
 induction n using Nat.strongRecOn with
 | ind n ih=>
  by_cases h:n<10
  ·rw [Lib.decDigits,dif_pos h]
   unfold js
   by_cases z:n=0
   ·rw [if_pos z,z];rfl
   ·rw [if_neg z,j4 z,show n / 10=0 by omega,j7,Nat.mod_eq_of_lt h];rfl
  ·rw [Lib.decDigits,dif_neg h,ih _ (by omega)]
   unfold js;rw [if_neg (by omega),if_neg (by omega),j4 (n:=n) (by omega)]
theorem jgH (d:Nat)(x:Int)(h1 : -1080<=x):d*10 ^ x.toNat*T10=d*10 ^ (x+1080).toNat*10 ^ (-x).toNat:=by
 rcases Int.le_total 0 x with h | h
 ·have e1:(x+1080).toNat=x.toNat+c80:=by unfold c80;omega
  have e2:(-x).toNat=0:=by omega
  rw [e1,e2,Nat.pow_add,Nat.pow_zero,Nat.mul_one,Nat.mul_assoc];rfl
 ·have e1:x.toNat=0:=by omega
  have e2:1080=(x+1080).toNat+(-x).toNat:=by omega
  rw [e1,Nat.pow_zero,Nat.mul_one];exact jgs d e2
theorem jey {r d:Nat}{x:Int}(h0:0<r)(hi:r<9218868437227405312)(h1 : -1080<=x)(hd:d≠0):jbf d x r↔ze r (d*10 ^ (x+1080).toNat):=by
 have h:=jgf (jD (-x).toNat) h0 hi (jgH d x h1);unfold jbf
 constructor
 ·rintro(⟨e,_⟩ | ⟨_,k⟩)
  ·exact absurd e hd
  ·exact h.1 k
 ·intro k
  exact .inr ⟨hd,h.2 k⟩
theorem jel {d:Nat}(hd:d≠0):(js d).getD 0 0≠48:=by
 obtain⟨h1,h2,h3⟩:=jJ d
 rcases h3 with h | h
 ·exact h
 ·intro e
  have:js d=[48]:=by
   cases hl:js d with
   | nil=>exact absurd hl h1
   | cons a r=>
    rw [hl] at h e;cases r with
    | nil=>simp at e;rw [e]
    | cons x y=>simp at h
  have v:=zg d;rw [this] at v;exact hd (by rw [<-v];rfl)
theorem jfJ {d:Nat}(hd:d % 10≠0):∃l c,js d=l++[c]/\c≠48:=by
 unfold js;rw [if_neg (by omega),j4 (by omega)];refine⟨_,_,rfl,?_⟩;have:∀k:Fin 10,k.1≠0->UInt8.ofNat (48+k.1)≠48:=by decide
 exact this ⟨d % 10,by omega⟩ hd
theorem zr (l:List UInt8):(⟨l.toArray⟩:ByteArray).size=l.length:=by simp [ByteArray.size]
theorem Xm {b r:Nat}(hr:r=b % 9223372036854775808)(hb:b<18446744073709551616)(h0:r=0\/9218868437227405312<=r):(jo b).2.2=1\/(jo b).2.2=2\/((jo b).2.2=0/\(jo b).1=0):=by
 unfold jo
 by_cases c:b / 4503599627370496 % 2048=2047
 ·rw [if_pos c]
  by_cases c2:b % 4503599627370496=0
  ·rw [if_pos c2];exact .inl rfl
  ·rw [if_neg c2];exact .inr (.inl rfl)
 ·rw [if_neg c,if_pos (by omega)]
  exact .inr (.inr ⟨rfl,by simp only;omega⟩)
open Go.RowKit
theorem jih {d:Nat}(hd:d≠0):10 ^ ((js d).length - 1)<=d:=by
 rcases Nat.lt_or_ge d (10 ^ ((js d).length - 1)) with h | h
 ·exfalso
  have hl:=List.length_pos_iff.2 (jJ d).1
  by_cases c:(js d).length - 1=0
  ·rw [c,Nat.pow_zero] at h;omega
  ·have:=jO h (by omega)
   omega
 ·exact h
open Go.RowKit
theorem jhR (q E:Nat):q*2 ^ E*wF=q*5 ^ sc*2 ^ (E+4):=by
 have e:c80=sc:=rfl;rw [jdY,e,Nat.pow_add];have e2:(2:Nat) ^ 4=16:=rfl;rw [e2];generalize 5 ^ sc=z;generalize 2 ^ E=y;simp only [Nat.mul_assoc,Nat.mul_comm,Nat.mul_left_comm]
theorem jfb (r:Nat):fX r=jM r*5 ^ sc*2 ^ (r / 4503599627370496 - 1+6):=by
 unfold fX JV step;rw [jhR,Nat.pow_add,Nat.pow_add];generalize 5 ^ sc=z;generalize 2 ^ (r / 4503599627370496 - 1)=y;generalize jM r=m;have e2:(2:Nat) ^ 4=16:=rfl;have e3:(2:Nat) ^ 6=16*4:=rfl;rw [e2,e3];simp only [Nat.mul_assoc,Nat.mul_comm,Nat.mul_left_comm]
theorem ji2 (r:Nat):fH r=(2*jM r+1)*5 ^ sc*2 ^ (r / 4503599627370496 - 1+5):=by
 unfold fH mid step;rw [jhR,Nat.pow_add,Nat.pow_add];generalize 5 ^ sc=z;generalize 2 ^ (r / 4503599627370496 - 1)=y;generalize jM r=m;have e2:(2:Nat) ^ 4=16:=rfl;have e3:(2:Nat) ^ 5=16*2:=rfl;have e4:4*m+2=(2*m+1)*2:=by omega
 rw [e2,e3,e4];simp only [Nat.mul_assoc,Nat.mul_comm,Nat.mul_left_comm]
theorem jiO (r:Nat)(h:0<r):(jM r=4503599627370496/\0<r / 4503599627370496 - 1->fL r=(4*jM r - 1)*5 ^ sc*2 ^ (r / 4503599627370496 - 1+4))/\(¬(jM r=4503599627370496/\0<r / 4503599627370496 - 1)->fL r=(2*jM r - 1)*5 ^ sc*2 ^ (r / 4503599627370496 - 1+5)):=by
 obtain⟨bel,hb,e⟩:=jju r h;unfold step at e;rw [jhR] at e
 constructor
 ·intro c
  rcases hb with ⟨_,_,hb⟩ | ⟨hb,_⟩
  ·rw [e,hb]
  ·exact absurd c hb
 ·intro c
  rcases hb with ⟨h1,h2,_⟩ | ⟨_,hb⟩
  ·exact absurd ⟨h1,h2⟩ c
  ·rw [e,hb,Nat.pow_add,Nat.pow_add]
   generalize 5 ^ sc=z;generalize 2 ^ (r / 4503599627370496 - 1)=y;generalize jM r=m;have e2:(2:Nat) ^ 4=16:=rfl;have e3:(2:Nat) ^ 5=16*2:=rfl;have e4:4*m - 2=(2*m - 1)*2:=by omega
   rw [e2,e3,e4];simp only [Nat.mul_assoc,Nat.mul_comm,Nat.mul_left_comm]
theorem jaQ (l:List UInt8)(j:Nat):dec (l++(qe j).data.toList)=dec l*10 ^ j:=by
 have e:(qe j).data.toList=List.replicate j 48:=by unfold qe;simp
 rw [e,zv,List.length_replicate]
 have:∀j,dec (List.replicate j 48)=0:=by
  intro j
  induction j with
  | zero=>rfl
  | succ j ih=>
   rw [List.replicate_succ,JI,ih];simp
 rw [this];rfl
theorem jfB {X n:Nat}(hn:n<=(js X).length):dec ((js X).take n)=X / 10 ^ ((js X).length - n):=by
 have h:=YN (l:=js X) hn (Nat.le_refl _);have h2:=Qi (jJ X).2.1 hn (Nat.le_refl _);rw [List.take_length,zg] at h;rw [List.take_length] at h2;generalize dec ((js X).drop n)=t at *;generalize dec ((js X).take n)=D at *;generalize 10 ^ ((js X).length - n)=P at *;rw [h,Nat.mul_comm,Nat.mul_add_div (by omega),Nat.div_eq_of_lt h2];rfl
theorem jhw {X i:Nat}(h:10 ^ i<=X):i<(js X).length:=by
 have h1:=jbm (jJ X).2.1;rw [zg] at h1;exact(Nat.pow_lt_pow_iff_right (by decide)).1 (Nat.lt_of_le_of_lt h h1)
theorem jhl {X j:Nat}:jV X j=if jw X j=X then jw X j else (X / 10 ^ j+1)*10 ^ j:=by
 unfold jV;split
 ·rfl
 ·unfold jw
  rw [Nat.add_mul,Nat.one_mul]
theorem jj9 (X j:Nat):X<=jV X j:=by
 unfold jV;have:=Zh X j;split
 ·omega
 ·omega
theorem ji6 {r j:Nat}{x y b:Bool}(hx:x=true↔ze r (jw (fX r) j))(hy:y=true↔ze r (jV (fX r) j))(hxy:¬(x=false/\y=false))(hb:b=true↔(x=false\/(y=true/\JH (fX r) j))):Jm r j (if b then jV (fX r) j else jw (fX r) j):=by
 unfold Jm;cases x with
 | false=>
  cases y with
  | false=>exact absurd ⟨rfl,rfl⟩ hxy
  | true=>
   left
   have:b=true:=hb.2 (.inl rfl);rw [if_pos this];exact⟨(fun h=>by have:=hx.2 h;cases this),hy.1 rfl,rfl⟩
 | true=>
  cases y with
  | false=>
   right;left
   have:¬b=true:=fun h=>by rcases hb.1 h with h | ⟨h,_⟩<;>cases h
   rw [if_neg this];exact⟨hx.1 rfl,(fun h=>by have:=hy.2 h;cases this),rfl⟩
  | true=>
   right;right
   refine⟨hx.1 rfl,hy.1 rfl,?_⟩
   by_cases u:JH (fX r) j
   ·left
    rw [if_pos (hb.2 (.inr ⟨rfl,u⟩))];exact⟨u,rfl⟩
   ·right
    have:¬b=true:=fun h=>by
     rcases hb.1 h with h | ⟨_,h⟩
     ·cases h
     ·exact u h
    rw [if_neg this];exact⟨u,rfl⟩
theorem jao {r:Nat}{n:Nat}:ze r n↔((fL r<n/\n<fH r)\/(jM r % 2=0/\fL r<=n/\n<=fH r)):=by
 unfold ze;rw [jcy]
open Go.RowKit
/-- The closure of ShortOf. -/
theorem je9 (w:World)(vx vl vh:Value)(bl bh bm n lo hi m:Nat)(f:Bool)(hn:(dig n).length<=1048576)(hlo:(dig lo).length<=1048576)(hhi:(dig hi).length<=1048576)(Lx:Lies w vx n)(Ll:Lies w vl lo)(Lh:Lies w vh hi)
  (kl:Blk w bl #[vl] 100) (kh:Blk w bh #[vh] 100) (km:Blk w bm #[.int .u64 (m:Int)] 22) (hm:m<18446744073709551616) (hf:Hid (f=true↔((lo<n/\n<hi)\/(m % 2=0/\lo<=n/\n<=hi)))) :
  Calls Tryz.prog 149 #[vx,.pointer (some ⟨bl,0,none⟩),.pointer (some ⟨bh,0,none⟩),.pointer (some ⟨bm,0,none⟩)] w fun e w'=>e=.returned (.bool f)/\Below w.heap.size w w':=by
 have K1:∀W,Below w.heap.size w W->Hid (Calls Tryz.prog 54 #[vl,vx] W fun e w'=>e=.returned (.int .i64 (sgn lo n))/\w'=W):=fun W hW=>jb (Ju W vl vx lo n hlo hn (Ll.below hW) (Lx.below hW))
 have K2:∀W,Below w.heap.size w W->Hid (Calls Tryz.prog 54 #[vx,vh] W fun e w'=>e=.returned (.int .i64 (sgn n hi))/\w'=W):=fun W hW=>jb (Ju W vx vh n hi hn hhi (Lx.below hW) (Lh.below hW))
 have c1:=kl.cell 0 _ rfl;have c2:=kh.cell 0 _ rfl;have KM:=jb km;obtain⟨al,cl,rfl,_⟩:=Ll;obtain⟨ah,ch,rfl,_⟩:=Lh;obtain⟨ax,cx,rfl,_⟩:=Lx
 have S1:Hid (f=((decide (sgn lo n<0) && decide (sgn n hi<0)) || (decide (m % 2=0) && decide (sgn lo n<=0) && decide (sgn n hi<=0)))):=jb (by
  rw [Bool.eq_iff_iff,ja hf];simp only [Bool.or_eq_true,Bool.and_eq_true,decide_eq_true_eq];unfold sgn
  constructor
  ·rintro(⟨h1,h2⟩ | ⟨h0,h1,h2⟩)
   ·left
    rw [if_pos h1,if_pos h2]
    decide
   ·right
    refine⟨⟨h0,?_⟩,?_⟩
    ·split
     ·decide
     ·rw [if_neg (by omega)];decide
    ·split
     ·decide
     ·rw [if_neg (by omega)];decide
  ·rintro(⟨h1,h2⟩ | ⟨⟨h0,h1⟩,h2⟩)
   ·left
    split at h1
    ·split at h2
     ·exact⟨by assumption,by assumption⟩
     ·split at h2<;>exact absurd h2 (by decide)
    ·split at h1<;>exact absurd h1 (by decide)
   ·right
    refine⟨h0,?_,?_⟩
    ·split at h1
     ·omega
     ·split at h1
      ·exact absurd h1 (by decide)
      ·omega
    ·split at h2
     ·omega
     ·split at h2
      ·exact absurd h2 (by decide)
      ·omega)
 have ea:sgn lo n = -1\/sgn lo n=0\/sgn lo n=1:=by unfold sgn;split;exact .inl rfl;split;exact .inr (.inr rfl);exact .inr (.inl rfl)
 have eb:sgn n hi = -1\/sgn n hi=0\/sgn n hi=1:=by unfold sgn;split;exact .inl rfl;split;exact .inr (.inr rfl);exact .inr (.inl rfl)
 generalize sgn lo n=a at *;generalize sgn n hi=b at *;clear hf kl kh km;generalize (dig lo).length=nl at *;generalize (dig hi).length=nh at *;generalize (dig n).length=nx at *
 go_enter Tryz.func149,Tryz.ntmps149
 go_upto_region 1 with fail
 go_cut [6,7] from 8 to 13 (fun s6 s7 wx=>s6=.int .i64 a/\s7=.int .i64 b/\Hid (Below w.heap.size w wx))
 case first=>
  go_region_with (first
   | (go_at_call_of 54 (Value.slice al nl cl);refine(ja (K1 _ (by first | exact Below.refl _ _ | exact(Below.refl _ _).drew | exact below_drewN (Below.refl _ _) _))).mono ?_;rintro _ w3 ⟨rfl,rfl⟩)
   | (go_at_call_of 54 (Value.slice ax nx cx);refine(ja (K2 _ (by first | exact Below.refl _ _ | exact(Below.refl _ _).drew | exact below_drewN (Below.refl _ _) _))).mono ?_;rintro _ w4 ⟨rfl,rfl⟩))
  all_goals
   go_wp2_with fail
   go_meet
   exact⟨rfl,rfl,jb (by first | exact Below.refl _ _ | exact(Below.refl _ _).drew | exact below_drewN (Below.refl _ _) _)⟩
 case rest=>
 obtain⟨rfl,rfl,hB⟩:=hcut;have c3:=((ja KM).below (ja hB)).cell 0 _ rfl;clear K1 K2 KM c1 c2;have r2:(m:Int) % 2=((m % 2:Nat):Int):=by omega
 by_cases par:m % 2=0
 ·have i5:(((m:Int) % 2) == 0)=true:=by rw [r2,par];rfl
  have d:decide (m % 2=0)=true:=decide_eq_true par;rw [d] at S1;clear d par r2
  rcases ea with rfl | rfl | rfl<;>rcases eb with rfl | rfl | rfl
  all_goals
   go_wp2;go_ret;rw [ja S1];exact⟨rfl,ja hB⟩
 ·have i5:(((m:Int) % 2) == 0)=false:=beq_false_of_ne (by omega)
  have d:decide (m % 2=0)=false:=decide_eq_false par;rw [d] at S1;clear d par r2
  rcases ea with rfl | rfl | rfl<;>rcases eb with rfl | rfl | rfl
  all_goals
   go_wp2;go_ret;rw [ja S1];exact⟨rfl,ja hB⟩
open Go.RowKit
theorem jh6 (r:Nat)(hi:r<9218868437227405312):(js (fX r)).length<=4000:=by
 rw [jfb];have hm:=QC r;obtain⟨E,hE⟩:∃E,E=r / 4503599627370496 - 1+6:=⟨_,rfl⟩
 have hE2:E<=2051:=by omega
 rw [<-hE];have h1:(5:Nat) ^ sc<=10 ^ sc:=Nat.pow_le_pow_left (by decide) _;have h2:(2:Nat) ^ E<=10 ^ E:=Nat.pow_le_pow_left (by decide) _;have h3:jM r<10 ^ 16:=Nat.lt_of_lt_of_le hm (by decide);have p1:0<(10:Nat) ^ sc:=Nat.pow_pos (by decide);have p2:0<(10:Nat) ^ E:=Nat.pow_pos (by decide)
 have h4:jM r*5 ^ sc*2 ^ E<10 ^ 16*10 ^ sc*10 ^ E :=
  Nat.lt_of_le_of_lt (Nat.mul_le_mul (Nat.mul_le_mul (Nat.le_refl _) h1) h2) (Nat.mul_lt_mul_of_pos_right (Nat.mul_lt_mul_of_pos_right h3 p1) p2)
 rw [<-Nat.pow_add,<-Nat.pow_add] at h4;have hsc:sc=1080:=rfl;have:=jO h4 (by omega);omega
theorem jae (j:Nat):qp (qe j).data.toList:=by
 have e:(qe j).data.toList=List.replicate j 48:=by unfold qe;simp
 rw [e];intro b hb;rw [List.eq_of_mem_replicate hb]
 decide
theorem jX {w0 w w':World}(h:Below w0.heap.size w0 w)(h':Below w.heap.size w w'):Below w0.heap.size w0 w':=h.trans (h'.mono h.size)
theorem jjV {X j F:Nat}(hX:(js X).length<=4000)(hj:10 ^ j<=X)(hF:F=X / 10 ^ j):(dig X).length<=2000/\(dig F).length<=2000/\(dig (F+1)).length<=2000/\(dig (jw X j)).length<=2000/\(dig ((F+1)*10 ^ j)).length<=2000/\(js (F+1)).length<=8000:=by
 obtain⟨K,hK⟩:∃K,K=1000:=⟨_,rfl⟩
 have h1:=jbm (jJ X).2.1;rw [zg] at h1;have e10:(10:Nat) ^ 4=10000:=by decide
 have h2:X<10000 ^ K:=by
  refine Nat.lt_of_lt_of_le h1 (Nat.le_trans (Nat.pow_le_pow_right (by decide) (show(js X).length<=4*K by omega)) ?_);rw [Nat.pow_mul,e10];exact Nat.le_refl _
 have h3:F<=X:=by rw [hF];exact Nat.div_le_self _ _
 have h4:jw X j<=X:=zG X j;have h5:(F+1)*10 ^ j=jw X j+10 ^ j:=by rw [hF];unfold jw;rw [Nat.add_mul,Nat.one_mul]
 have h6:10000 ^ (K+1)=10000 ^ K*10000:=Nat.pow_succ ..;have l1:=jN h2;have l2:=jN (n:=F) (k:=K) (by omega);have l3:=jN (n:=F+1) (k:=K+1) (by omega);have l4:=jN (n:=jw X j) (k:=K) (by omega);have l5:=jN (n:=(F+1)*10 ^ j) (k:=K+1) (by omega);have l6:=jO (n:=F+1) (k:=4*(K+1)) (by rw [Nat.pow_mul,e10];omega) (by omega);exact⟨by omega,by omega,by omega,by omega,by omega,by omega⟩
theorem jcx {p K:Nat}(h:(dig p).length<=K)(hK:1<=K):(js p).length<=4*K:=by
 have h1:p<10000 ^ K:=by
  have:=jbk (qn p);rw [zl] at this;exact Nat.lt_of_lt_of_le this (Nat.pow_le_pow_right (by decide) h)
 have e10:(10:Nat) ^ 4=10000:=by decide
 exact jO (k:=4*K) (by rw [Nat.pow_mul,e10];exact h1) (by omega)
theorem jgd {d:Nat}(h:d % 10=0)(hd:d≠0):js d=js (d / 10)++[48]/\d / 10≠0:=by
 refine⟨?_,by omega⟩;unfold js;rw [if_neg hd,if_neg (by omega),j4 hd,h];rfl
theorem jg5 {X j:Nat}(h:X - jw X j > jV X j - X):JH X j:=.inl h
theorem jh1 {X j:Nat}(h:X - jw X j<jV X j - X):¬JH X j:=by
 rintro(k | ⟨k,_⟩)<;>omega
theorem jhJ {X j:Nat}(h:X - jw X j=jV X j - X):JH X j↔X / 10 ^ j % 2=1:=by
 unfold JH
 constructor
 ·rintro(k | ⟨_,k⟩)
  ·omega
  ·exact k
 ·intro k
  exact .inr ⟨h.symm,k⟩
theorem jev {w:World}{a:Option Addr}{k c n:Nat}(h:Lies w (.slice a k c) n)(hn:n≠0):0<k/\∃b o,a=some ⟨b,o,none⟩/\w.cell? ⟨b,o,none⟩=some (.int .i64 ((n % 10000:Nat):Int)):=by
 obtain⟨a',c',e,hc,hr⟩:=h;injection e with e1 e2 e3;subst e1 e2 e3;have hne:dig n≠[]:=by rw [Jt hn];simp
 obtain⟨b,o,rfl,_,hcell⟩:=hr hne;refine⟨List.length_pos_iff.2 hne,b,o,rfl,?_⟩;have:=hcell 0 (List.length_pos_iff.2 hne);rw [Jt hn] at this;exact this
open Go.RowKit
theorem J1 (m E:Nat)(hm:m<18446744073709551616)(hE:E<=3000):(dig (m*5 ^ sc*2 ^ E)).length<=100000:=by
 have q0:(dig m).length<=5:=jN (Nat.lt_of_lt_of_le hm (by decide));have q1:=jch;have q2:=ZC (b:=2) (e:=E) (by decide);have q3:=JB m (5 ^ sc);have q4:=JB (m*5 ^ sc) (2 ^ E);omega
theorem qW {w:World}{v:Value}{n:Nat}(h:Lies w v n):∃a k c,v=.slice a k c:=by
 obtain⟨a,c,e,_⟩:=h;exact⟨a,_,c,e⟩
theorem Lies.alloc {w:World}{v:Value}{n:Nat}(h:Lies w v n)(o:Obj):Lies (w.alloc o) v n:=h.below ((Below.refl _ _).alloc (Nat.le_refl _) o)
theorem Lies.setBlk {w:World}{v:Value}{n b t:Nat}{u x:Value}(h:Lies w v n)(hb:Blk w b #[u] t)(hu:∀q,u≠.int .i64 q):Lies (w.setCell ⟨b,0,none⟩ x) v n:=by
 obtain⟨a,cap,rfl,hc,hr⟩:=h;refine⟨a,cap,rfl,hc,fun h0=>?_⟩;obtain⟨ba,oa,rfl,hba,hca⟩:=hr h0
 have ne:ba≠b:=by
  intro e;subst e;have h1:=hca 0 (by cases hd:dig n with | nil=>exact absurd hd h0 | cons x r=>simp);unfold Blk at hb;simp only [World.cell?,hb] at h1;rw [Nat.add_zero] at h1;cases oa with
  | zero=>exact hu _ (by simpa using h1)
  | succ k=>simp at h1
 refine⟨ba,oa,rfl,by simpa [World.setCell] using hba,fun k hk=>?_⟩;rw [World.cell?_setCell_other w ⟨b,0,none⟩ ⟨ba,oa+k,none⟩ x (by intro e;exact ne (by injection e with e1;exact e1.symm))];exact hca k hk
structure Sof (w1 wx:World) (bm bh bl:Nat) (v7 v8 v9:Value) (r m lo:Nat):Prop where
 l7:Lies wx v7 (fX r)
 l8:Lies wx v8 (fH r)
 l9:Lies wx v9 lo
 km:Blk wx bm #[.int .u64 (m:Int)] 22
 kh:Blk wx bh #[v8] 100
 kl:Blk wx bl #[v9] 100
 be:Below w1.heap.size w1 wx
 ne:bh≠bl
 ge:w1.heap.size<=bl
theorem Sof.below {w1 wx wy:World}{bm bh bl:Nat}{v7 v8 v9:Value}{r m lo:Nat}(h:Sof w1 wx bm bh bl v7 v8 v9 r m lo)(hb:Below wx.heap.size wx wy):Sof w1 wy bm bh bl v7 v8 v9 r m lo :=
 ⟨h.l7.below hb,h.l8.below hb,h.l9.below hb,h.km.below hb,h.kh.below hb,h.kl.below hb,h.be.trans (hb.mono h.be.size),h.ne,h.ge⟩
theorem Sof.low {w1 wx:World}{bm bh bl:Nat}{v7 v8 v9 x:Value}{r m lo lo':Nat}(h:Sof w1 wx bm bh bl v7 v8 v9 r m lo)(hx:Lies wx x lo')(h9:∀q,v9≠.int .i64 q)(h9':∀q,v9≠.int .u64 q):Sof w1 (wx.setCell ⟨bl,0,none⟩ x) bm bh bl v7 v8 x r m lo' where
 l7:=h.l7.setBlk h.kl h9
 l8:=h.l8.setBlk h.kl h9
 l9:=hx.setBlk h.kl h9
 km:=h.km.set_other ⟨bl,0,none⟩ x (fun e=>by
  have e':bm=bl:=e;have k1:=h.km;rw [e'] at k1;have k2:=h.kl;unfold Blk at k1 k2;rw [k1] at k2;injection k2 with k2;injection k2 with k2 _;have:Value.int .u64 (m:Int)=v9:=by simpa using k2
  exact h9' _ this.symm)
 kh:=h.kh.set_other ⟨bl,0,none⟩ x h.ne
 kl:=by
  have:=h.kl.set 0 x;simpa using this
 be:=h.be.setCell (p:=⟨bl,0,none⟩) h.ge x
 ne:=h.ne
 ge:=h.ge
theorem ZZ (w:World)(r:Nat)(h0:0<r)(hi:r<9218868437227405312) :
  Calls Tryz.prog 89 #[.int .u64 (r:Int)] w fun e w'=>∃(d:Nat) (ten:Int),e=.returned (.tuple #[.string ⟨(js d).toArray⟩,.int .i64 ten])/\d % 10≠0/\(∃j,Qf r j (d*10 ^ (ten+1080).toNat))/\-1080<=ten/\Below w.heap.size w w':=by
 obtain⟨e1,e2,e3⟩:=Ji r r (by omega) (by omega) h0 hi;have KP:=zQ w r (by omega);rw [e1,e2,e3] at KP;have hX:=jfb r;have hH:=ji2 r;obtain⟨hL1,hL2⟩:=jiO r h0;have hm0:0<jM r:=by unfold jM;split<;>omega
 have hm1:=QC r;obtain⟨E,hE⟩:∃E,E=r / 4503599627370496 - 1:=⟨_,rfl⟩
 have hE2:E<=2045:=by omega
 obtain⟨m,hm⟩:∃m,m=jM r:=⟨_,rfl⟩
 rw [<-hE,<-hm] at KP hX hH hL1 hL2;rw [<-hm] at hm0 hm1
 have K1:∀W,Hid (Calls Tryz.prog 148 #[.int .u64 (m:Int),.int .i64 ((E:Int) - 1074)] W fun x w'=>∃v,x=.returned v/\Lies w' v (fX r)/\Below W.heap.size W w'):=fun W=>jb (by
  rw [hX];exact zL W m (E+6) ((E:Int) - 1074) (by omega) (by omega) (by omega))
 have K2:∀W,Hid (Calls Tryz.prog 148 #[.int .u64 ((2*m+1:Nat):Int),.int .i64 ((E:Int) - 1075)] W fun x w'=>∃v,x=.returned v/\Lies w' v (fH r)/\Below W.heap.size W w'):=fun W=>jb (by
  rw [hH];exact zL W (2*m+1) (E+5) ((E:Int) - 1075) (by omega) (by omega) (by omega))
 obtain⟨lo3,hlo3⟩:∃lo3,lo3=(2*m - 1)*5 ^ sc*2 ^ (E+5):=⟨_,rfl⟩
 obtain⟨lo4,hlo4⟩:∃lo4,lo4=(4*m - 1)*5 ^ sc*2 ^ (E+4):=⟨_,rfl⟩
 rw [<-hlo4] at hL1;rw [<-hlo3] at hL2;have K3:∀W,Hid (Calls Tryz.prog 148 #[.int .u64 ((2*m - 1:Nat):Int),.int .i64 ((E:Int) - 1075)] W fun x w'=>∃v,x=.returned v/\Lies w' v lo3/\Below W.heap.size W w'):=fun W=>jb (by rw [hlo3];exact zL W (2*m - 1) (E+5) ((E:Int) - 1075) (by omega) (by omega) (by omega))
 have K4:∀W,Hid (Calls Tryz.prog 148 #[.int .u64 ((4*m - 1:Nat):Int),.int .i64 ((E:Int) - 1076)] W fun x w'=>∃v,x=.returned v/\Lies w' v lo4/\Below W.heap.size W w'):=fun W=>jb (by rw [hlo4];exact zL W (4*m - 1) (E+4) ((E:Int) - 1076) (by omega) (by omega) (by omega))
 have LN:Hid ((dig (fX r)).length<=100000/\(dig (fH r)).length<=100000/\(dig lo3).length<=100000/\(dig lo4).length<=100000):=jb ⟨by rw [hX];exact J1 _ _ (by omega) (by omega),by rw [hH];exact J1 _ _ (by omega) (by omega),by rw [hlo3];exact J1 _ _ (by omega) (by omega),by rw [hlo4];exact J1 _ _ (by omega) (by omega)⟩;have KPH:=jb KP;have HL:=jb (And.intro hL1 hL2);have y1:IntKind.u64.wrap (2*(m:Int))=((2*m:Nat):Int):=by simp [IntKind.wrap,IntKind.bits,IntKind.signed];omega
 have y2:IntKind.u64.wrap (((2*m:Nat):Int)+1)=((2*m+1:Nat):Int):=by simp [IntKind.wrap,IntKind.bits,IntKind.signed];omega
 have y3:IntKind.u64.wrap (((2*m:Nat):Int) - 1)=((2*m - 1:Nat):Int):=by simp [IntKind.wrap,IntKind.bits,IntKind.signed];omega
 have y4:IntKind.u64.wrap (4*(m:Int))=((4*m:Nat):Int):=by simp [IntKind.wrap,IntKind.bits,IntKind.signed];omega
 have y5:IntKind.u64.wrap (((4*m:Nat):Int) - 1)=((4*m - 1:Nat):Int):=by simp [IntKind.wrap,IntKind.bits,IntKind.signed];omega
 have z1:IntKind.i64.wrap ((E:Int) - 1074 - 1)=(E:Int) - 1075:=by simp [IntKind.wrap,IntKind.bits,IntKind.signed];omega
 have z2:IntKind.i64.wrap ((E:Int) - 1074 - 2)=(E:Int) - 1076:=by simp [IntKind.wrap,IntKind.bits,IntKind.signed];omega
 have HM:=jb hm;clear e1 e2 e3 KP hX hH hL1 hL2 hm hlo3 hlo4;obtain⟨t0,ht0⟩:∃t0:Int,t0=(E:Int) - 1074:=⟨_,rfl⟩
 obtain⟨t1,ht1⟩:∃t1:Int,t1=(E:Int) - 1075:=⟨_,rfl⟩
 obtain⟨t2,ht2⟩:∃t2:Int,t2=(E:Int) - 1076:=⟨_,rfl⟩
 rw [<-ht0] at z1 z2;rw [<-ht1] at z1;rw [<-ht2] at z2;obtain⟨m2,hm2⟩:∃m2,m2=2*m:=⟨_,rfl⟩
 obtain⟨m3,hm3⟩:∃m3,m3=2*m+1:=⟨_,rfl⟩
 obtain⟨m1,hm1'⟩:∃m1,m1=2*m - 1:=⟨_,rfl⟩
 obtain⟨m4,hm4⟩:∃m4,m4=4*m:=⟨_,rfl⟩
 obtain⟨m5,hm5⟩:∃m5,m5=4*m - 1:=⟨_,rfl⟩
 rw [<-hm3] at y2 K2;rw [<-hm1'] at y3 K3;rw [<-hm2] at y1 y2 y3;rw [<-hm5] at y5 K4;rw [<-hm4] at y4 y5;rw [<-ht0] at K1 KPH;rw [<-ht1] at K2 K3;rw [<-ht2] at K4;have HE:=jb (And.intro hE (And.intro h0 hi));have HT:=jb (And.intro ht0 (And.intro ht1 ht2));have HMM:=jb (And.intro hm0 hm1);clear hE h0 hi ht0 ht1 ht2 hm0 hm1 hm2 hm3 hm1' hm4 hm5 hE2
 go_enter Tryz.func89,Tryz.ntmps89
 go_wp2_with fail
 refine(ja KPH).mono ?_
 rintro _ w1 ⟨rfl,rfl⟩
 clear KPH
 go_wp2_with fail
 have km:=jd w1 #[.int .u64 (m:Int)] 22;have bA:Below w1.heap.size w1 (w1.alloc (.cells #[.int .u64 (m:Int)] 22)):=(Below.refl _ _).alloc (Nat.le_refl _) _;generalize w1.alloc (.cells #[.int .u64 (m:Int)] 22)=wA at *;refine(ja (K1 wA)).mono ?_
 rintro _ w2 ⟨v7,rfl,L7,b2⟩
 have km2:=km.below b2;have c2:=km2.cell 0 _ rfl;have B2:=bA.trans (b2.mono bA.size);obtain⟨a7,n7,c7,rfl⟩:=qW L7;have H2:=jb (And.intro L7 (And.intro km2 B2));clear K1 km bA b2 L7 km2 B2
 go_wp2_with fail
 refine(ja (K2 w2)).mono ?_
 rintro _ w3 ⟨v8,rfl,L8,b3⟩
 obtain⟨a8,n8,c8,rfl⟩:=qW L8;have km3:=(ja H2).2.1.below b3;have c3:=(km3.alloc (.cells #[.slice a8 n8 c8] 100)).cell 0 _ rfl;have bA3:=((ja H2).2.2.trans (b3.mono (ja H2).2.2.size))
 have H3:=jb (And.intro (((ja H2).1.below b3).alloc (.cells #[.slice a8 n8 c8] 100)) (And.intro (km3.alloc (.cells #[.slice a8 n8 c8] 100)) (And.intro (bA3.alloc bA3.size (.cells #[.slice a8 n8 c8] 100)) (And.intro (L8.alloc (.cells #[.slice a8 n8 c8] 100)) (jd w3 #[.slice a8 n8 c8] 100)))));clear K2 c2 H2 L8 b3 km3 bA3
 go_wp2_with fail
 refine(ja (K3 _)).mono ?_
 rintro _ w4 ⟨v9,rfl,L9,b4⟩
 obtain⟨a9,n9,c9,rfl⟩:=qW L9;obtain⟨q7,qm,qb,q8,qh⟩:=ja H3;have bB4:=qb.trans (b4.mono qb.size)
 have ST:Sof w1 (w4.alloc (.cells #[.slice a9 n9 c9] 100)) w1.heap.size w3.heap.size w4.heap.size (.slice a7 n7 c7) (.slice a8 n8 c8) (.slice a9 n9 c9) r m lo3 :=
  ⟨(q7.below b4).alloc _,(q8.below b4).alloc _,L9.alloc _,(qm.below b4).alloc _,(qh.below b4).alloc _,jd w4 _ _,bB4.alloc bB4.size _,Nat.ne_of_lt (qh.below b4).lt,bB4.size⟩
 have HST:=jb ST;have c4:(w4.alloc (.cells #[.slice a9 n9 c9] 100)).cell? ⟨w1.heap.size,0,none⟩=some (.int .u64 (m:Int)):=ST.km.cell 0 _ rfl
 have c9':(w4.alloc (.cells #[.slice a9 n9 c9] 100)).cell? ⟨w4.heap.size,0,none⟩=some (.slice a9 n9 c9):=ST.kl.cell 0 _ rfl
 have z9:=ST.kl.froz 0
 have bigF:∃big:Bool,big=true↔(m=4503599627370496/\0<E):=by
  classical
  exact⟨decide (m=4503599627370496/\0<E),by simp⟩
 obtain⟨big,hbig⟩:=bigF;have HBIG:=jb hbig;clear K3 c3 H3 L9 b4 q7 qm qb q8 qh bB4 ST hbig
 go_upto_region 5 with fail
 generalize hbl:w4.heap.size=bl at *;generalize hbh:w3.heap.size=bh at *;generalize w4.alloc (.cells #[.slice a9 n9 c9] 100)=w5 at *;clear hbl hbh
 go_cut [49] from 44 to 48 (fun s49 wx=>s49=.bool big/\w5=wx)
 case first=>
  by_cases cm:m=4503599627370496
  ·have i1:((m:Int) == 4503599627370496)=true:=by rw [cm];rfl
   have F:Hid (big=decide (t0 > -1074)):=jb (by
    rw [Bool.eq_iff_iff,ja HBIG,decide_eq_true_iff];have:=(ja HT).1
    constructor
    ·intro h;have:=h.2;omega
    ·intro h;exact⟨cm,by omega⟩)
   clear cm HBIG K4 HST;go_wp2
   go_meet
   case rel=>exact⟨by rw [ja F],by trivial⟩
  ·have i1:((m:Int) == 4503599627370496)=false:=beq_false_of_ne (by omega)
   have F:Hid (big=false):=jb (by
    cases hb:big with
    | false=>rfl
    | true=>exact absurd ((ja HBIG).1 hb).1 cm)
   clear cm HBIG K4 HST;go_wp2
   go_meet
   case rel=>exact⟨by rw [ja F],by trivial⟩
 case rest=>
 obtain⟨rfl,rfl⟩:=hcut
 go_upto_if 49 with fail
 go_cut [5] from 50 to 55 (fun s5 wx=>s5=.int .i64 t0/\∃(a:Option Addr) (k c:Nat),Hid (Sof w1 wx w1.heap.size bh bl (.slice a7 n7 c7) (.slice a8 n8 c8) (.slice a k c) r m (fL r)))
 case first=>
  cases hn:big with
  | false=>
   subst hn;have F:fL r=lo3:=(ja HL).2 (fun h=>by have:=(ja HBIG).2 h;cases this);rw [<-F] at HST;clear HBIG K4 HL F;go_wp2
   go_meet
   case rel=>exact⟨rfl,a9,n9,c9,HST⟩
  | true=>
   subst hn;have F:fL r=lo4:=(ja HL).1 ((ja HBIG).1 rfl);rw [<-F] at K4;clear HBIG HL F
   go_wp2_with fail
   refine(ja (K4 _)).mono ?_
   rintro _ w6 ⟨v10,rfl,L10,b6⟩
   obtain⟨a10,n10,c10,rfl⟩:=qW L10;have S6:=(ja HST).below b6;have d9:w6.cell? ⟨bl,0,none⟩=some (.slice a9 n9 c9):=S6.kl.cell 0 _ rfl
   have e9:=S6.kl.froz 0;have HS6:=jb (S6.low L10 (fun q h=>by cases h) (fun q h=>by cases h));clear K4 L10 b6 S6 HST c4 c9' z9;go_wp2
   go_meet
   case rel=>exact⟨rfl,a10,n10,c10,HS6⟩
 case rest=>
 obtain⟨rfl,a10,n10,c10,HS⟩:=hcut
 have LL:Hid ((dig (fL r)).length<=100000):=jb (by
  by_cases cc:m=4503599627370496/\0<E
  ·rw [(ja HL).1 cc];exact(ja LN).2.2.2
  ·rw [(ja HL).2 cc];exact(ja LN).2.2.1)
 have KD:=jb (Q8 wc (.slice a7 n7 c7) (fX r) (ja LN).1 (ja HS).l7);clear HST c4 c9' z9 HBIG HL K4 HT HMM y1 y2 y3 y4 y5 z1 z2
 go_wp2_with fail
 refine(ja KD).mono ?_
 rintro _ w8 ⟨rfl,b8⟩
 have S8:=jb ((ja HS).below b8);clear KD HS b8;obtain⟨A,hA⟩:∃A:ByteArray,A=⟨(js (fX r)).toArray⟩:=⟨_,rfl⟩
 rw [<-hA];have HA:=jb hA;clear hA;have AL:A.data.toList=js (fX r):=by rw [ja HA]
 have AS:A.size=(js (fX r)).length:=by rw [<-jj,AL]
 have A4:A.size<=4000:=by rw [AS];exact jh6 r (ja HE).2.2
 have A1:1<=A.size:=by rw [AS];exact List.length_pos_iff.2 (jJ _).1
 have HAA:=jb (And.intro AL AS);clear AL AS
 go_wp2_with fail
 go_loopw [12] (fun s12 wr=>∃n:Nat,s12=.int .i64 (n:Int)/\1<=n/\n<=A.size/\Hid (∀i,A.size - n<i->10 ^ i<=fX r->¬Good r i)/\Hid (Sof w1 wr w1.heap.size bh bl (.slice a7 n7 c7) (.slice a8 n8 c8) (.slice a10 n10 c10) r m (fL r))) (fun s12 _=>A.size - (intOf s12).toNat)
 case atStart=>exact⟨1,rfl,by omega,A1,jb (fun i h1 h2=>by have:=jhw h2;rw [<-(ja HAA).2] at this;omega),S8⟩
 case round=>
  obtain⟨n,rfl,n1,nA,hNG,hS⟩:=hrel;clear S8;obtain⟨j,hj⟩:∃j,j=A.size - n:=⟨_,rfl⟩
  have x1:IntKind.i64.wrap ((A.size:Int) - (n:Int))=(j:Int):=by simp [IntKind.wrap,IntKind.bits,IntKind.signed];omega
  have x2:max (j:Int) 0=(j:Int):=by omega
  have x3:IntKind.i64.wrap ((A.size:Int) - (j:Int))=(n:Int):=by simp [IntKind.wrap,IntKind.bits,IntKind.signed];omega
  have b0:(0:Int)<=(n:Int):=by omega
  have b1:(n:Int)<=(A.size:Int):=by omega
  obtain⟨P,hP⟩:∃P:ByteArray,A.extract 0 n=P:=⟨_,rfl⟩
  have PL:P.data.toList=(js (fX r)).take n:=by
   rw [<-hP,ByteArray.data_extract,Array.toList_extract,(ja HAA).1];simp [List.extract]
  have Ps:P.size=n:=by rw [<-jj,PL,List.length_take,<-(ja HAA).2];omega
  have PD:qp P.data.toList:=by rw [PL];exact Jf (jJ _).2.1 n
  have PV:dec P.data.toList=fX r / 10 ^ j:=by
   rw [PL,jfB (by rw [<-(ja HAA).2];exact nA),<-(ja HAA).2,<-hj]
  have KF:=J6 wr P (by omega) PD;rw [PV] at KF;have HKF:=jb KF;have HPD:=jb (And.intro PD PV);have HJ:=jb hj;have JA:j<=4000:=by omega
  clear KF PL PD PV hj
  go_wp2_with fail
  refine(ja HKF).mono ?_
  rintro _ w14 ⟨v14,rfl,L14,b14⟩
  obtain⟨a14,n14,c14,rfl⟩:=qW L14;obtain⟨F,hF⟩:∃F,F=fX r / 10 ^ j:=⟨_,rfl⟩
  rw [<-hF] at L14
  have hjX:10 ^ j<=fX r:=by
   refine Nat.le_trans (Nat.pow_le_pow_right (by decide) ?_) (jih (d:=fX r) ?_)
   ·rw [<-(ja HAA).2,ja HJ];omega
   ·intro z
    have:fX r<1:=by omega
    have h1:=(Jg r (ja HE).2.1).1;omega
  obtain⟨lX,lF,lF1,lLo,lUp,dF⟩:=jjV (jh6 r (ja HE).2.2) hjX hF;obtain⟨Z,hZ⟩:∃Z:ByteArray,Z=qe j:=⟨_,rfl⟩
  have Zs:Z.size=j:=by rw [hZ,qG]
  have KN:∀W,Hid (Calls Tryz.prog 90 #[.int .i64 (j:Int)] W fun e w'=>e=.returned (.string Z)/\Below W.heap.size W w'):=fun W=>jb (by rw [hZ];exact zE W j (by omega))
  have aPZ:∀u:World,(Op.stringOp .add P Z).run Tryz.prog u=.ok (.string (P++Z)) u:=fun u=>run_string_add_sum _ _ _ (by omega)
  have lPZ:(P++Z).data.toList=P.data.toList++(qe j).data.toList:=by rw [ByteArray.data_append,Array.toList_append,hZ]
  have dPZ:dec (P++Z).data.toList=jw (fX r) j:=by rw [lPZ,jaQ,(ja HPD).2];rfl
  have gPZ:qp (P++Z).data.toList:=by
   rw [lPZ];exact qN.2 ⟨(ja HPD).1,jae j⟩
  have KPZ:∀W,Hid (Calls Tryz.prog 56 #[.string (P++Z)] W fun e w'=>∃v,e=.returned v/\Lies w' v (jw (fX r) j)/\Below W.heap.size W w'):=fun W=>jb (by
   have:=J6 W (P++Z) (by rw [ByteArray.size_append];omega) gPZ;rw [dPZ] at this;exact this)
  obtain⟨G,hG⟩:∃G:ByteArray,G=⟨(js (F+1)).toArray⟩:=⟨_,rfl⟩
  have Gs:G.size<=8000:=by rw [hG,zr];exact dF
  have GL:G.data.toList=js (F+1):=by rw [hG]
  have aGZ:∀u:World,(Op.stringOp .add G Z).run Tryz.prog u=.ok (.string (G++Z)) u:=fun u=>run_string_add_sum _ _ _ (by omega)
  have lGZ:(G++Z).data.toList=G.data.toList++(qe j).data.toList:=by rw [ByteArray.data_append,Array.toList_append,hZ]
  have KGZ:∀W,Hid (Calls Tryz.prog 56 #[.string (G++Z)] W fun e w'=>∃v,e=.returned v/\Lies w' v ((F+1)*10 ^ j)/\Below W.heap.size W w'):=fun W=>jb (by
   have:=J6 W (G++Z) (by rw [ByteArray.size_append];omega) (by rw [lGZ,GL];exact qN.2 ⟨(jJ _).2.1,jae j⟩);rw [lGZ,jaQ,GL,zg] at this;exact this)
  have KD1:∀W v,Lies W v (F+1)->Hid (Calls Tryz.prog 150 #[v] W fun e w'=>e=.returned (.string G)/\Below W.heap.size W w'):=fun W v h=>jb (by rw [hG];exact Q8 W v (F+1) (by omega) h)
  obtain⟨PZ,hPZ⟩:∃PZ:ByteArray,PZ=P++Z:=⟨_,rfl⟩
  obtain⟨GZ,hGZ⟩:∃GZ:ByteArray,GZ=G++Z:=⟨_,rfl⟩
  rw [<-hPZ] at aPZ KPZ;rw [<-hGZ] at aGZ KGZ;have S14:=jb ((ja hS).below b14);have HL14:=jb L14;have HF:=jb (And.intro hF hjX);have HLEN:=jb (And.intro lX (And.intro lF (And.intro lF1 (And.intro lLo lUp))));clear hS b14 L14 hF hjX lX lF lF1 lLo lUp dF hZ lPZ dPZ gPZ hG Gs GL lGZ hPZ hGZ HKF
  go_upto_region 13 with fail
  go_cut [15] from 59 to 158 (fun s15 wx=>∃(a:Option Addr) (k c:Nat),s15=.slice a k c/\Hid (Lies wx (.slice a k c) (jw (fX r) j))/\Hid (Below w14.heap.size w14 wx))
  case first=>
   clear KGZ KD1 aGZ hNG S14 HL14
   go_region_with (first
    | (go_at_call 90
       refine(ja (KN _)).mono ?_
       rintro _ w15 ⟨rfl,b15⟩
       have B15:Below w14.heap.size w14 w15:=by first | exact b15 | exact jX (Below.refl _ _).drew b15 | exact jX (below_drewN (Below.refl _ _) _) b15
       have HB15:=jb B15;clear b15 B15)
    | (go_at_call 56
       refine(ja (KPZ _)).mono ?_
       rintro _ w16 ⟨v15,rfl,L15,b16⟩
       obtain⟨a15,n15,c15,rfl⟩:=qW L15;have HB16:=jb (jX (ja HB15) b16);have HL15:=jb L15;clear b16 L15))
   all_goals
    go_wp2_with fail
    go_meet
    exact⟨a15,n15,c15,rfl,HL15,HB16⟩
  case rest=>
  obtain⟨a15,n15,c15,rfl,HL15,HB15⟩:=hcut;generalize wc=w15 at *;have ST:=jb (And.intro ((ja S14).below (ja HB15)) (And.intro ((ja HL14).below (ja HB15)) (ja HL15)));clear S14 HL14 HL15 HB15 KPZ aPZ
  go_wp2_with fail
  refine(jfx w15).mono ?_
  rintro _ w16 ⟨va,rfl,La,_,b16⟩
  have ST:=jb (And.intro ((ja ST).1.below b16) (And.intro ((ja ST).2.1.below b16) ((ja ST).2.2.below b16)));clear b16
  go_wp2_with fail
  refine(jhY w16 _ va F 1 (by have:=(ja HLEN).2.1;omega) (by rw [Jt (by decide)];simp [qC]) (ja ST).2.1 La).mono ?_
  rintro _ w17 ⟨vb,rfl,Lb,_,b17⟩
  have ST:=jb (And.intro ((ja ST).1.below b17) (And.intro ((ja ST).2.1.below b17) ((ja ST).2.2.below b17)));clear b17 La
  go_wp2_with fail
  refine(ja (KD1 w17 vb Lb)).mono ?_
  rintro _ w18 ⟨rfl,b18⟩
  have ST:=jb (And.intro ((ja ST).1.below b18) (And.intro ((ja ST).2.1.below b18) ((ja ST).2.2.below b18)));clear b18 Lb KD1
  go_wp2_with fail
  refine(ja (KN w18)).mono ?_
  rintro _ w19 ⟨rfl,b19⟩
  have ST:=jb (And.intro ((ja ST).1.below b19) (And.intro ((ja ST).2.1.below b19) ((ja ST).2.2.below b19)));clear b19 KN
  go_wp2_with fail
  refine(ja (KGZ w19)).mono ?_
  rintro _ w20 ⟨v16,rfl,L16,b20⟩
  obtain⟨a16,n16,c16,rfl⟩:=qW L16;have ST:=jb (And.intro ((ja ST).1.below b20) (And.intro ((ja ST).2.1.below b20) ((ja ST).2.2.below b20)));have HL16:=jb L16;clear b20 KGZ L16 aGZ;have KA:=Ju w20 (.slice a15 n15 c15) (.slice a7 n7 c7) (jw (fX r) j) (fX r) (by have:=(ja HLEN).2.2.2.1;omega) (by have:=(ja HLEN).1;omega) (ja ST).2.2 (ja ST).1.l7;obtain⟨eqb,heqb⟩:∃eqb:Bool,eqb=true↔jw (fX r) j=fX r:=⟨decide (jw (fX r) j=fX r),by simp⟩
  have seq:(sgn (jw (fX r) j) (fX r) == 0)=eqb:=by
   have h:=zG (fX r) j;cases hb:eqb with
   | true=>rw [jbC (heqb.1 hb)];rfl
   | false=>
    have:jw (fX r) j≠fX r:=fun e=>by rw [heqb.2 e] at hb;cases hb
    rw [ZJ (by omega)];rfl
  generalize sgn (jw (fX r) j) (fX r)=sg at *;have HEQ:=jb heqb;have HKA:=jb KA;clear KA heqb
  go_wp2_with fail
  refine(ja HKA).mono ?_
  rintro _ w21 ⟨rfl,e21⟩
  rw [e21];clear e21 HKA
  go_upto_if 94 with fail
  go_cut [16] from 59 to 158 (fun s16 wx=>∃(a:Option Addr) (k c:Nat),s16=.slice a k c/\Hid (Lies wx (.slice a k c) (jV (fX r) j))/\w20=wx)
  case first=>
   cases hb:eqb with
   | true=>
    subst hb
    have U:Hid (Lies w20 (.slice a15 n15 c15) (jV (fX r) j)):=jb (by
     unfold jV;rw [if_pos ((ja HEQ).1 rfl)];exact(ja ST).2.2)
    clear HEQ hNG ST HL16;go_wp2
    go_meet
    case rel=>exact⟨a15,n15,c15,rfl,U,by trivial⟩
   | false=>
    subst hb
    have U:Hid (Lies w20 (.slice a16 n16 c16) (jV (fX r) j)):=jb (by
     have hn:jw (fX r) j≠fX r:=fun e=>by have:=(ja HEQ).2 e;cases this
     rw [jhl,if_neg hn,<-(ja HF).1];exact ja HL16)
    clear HEQ hNG ST HL16;go_wp2
    go_meet
    case rel=>exact⟨a16,n16,c16,rfl,U,by trivial⟩
  case rest=>
  obtain⟨b16a,b16n,b16c,rfl,HU,rfl⟩:=hcut;clear HL16 seq HEQ w21
  have lUp:(dig (jV (fX r) j)).length<=2000:=by
   unfold jV;split
   ·exact(ja HLEN).2.2.2.1
   ·have h:=(ja HLEN).2.2.2.2
    rw [(ja HF).1,Nat.add_mul,Nat.one_mul] at h;exact h
  have HLU:=jb lUp
  obtain⟨x,hx⟩:∃x:Bool,x=true↔ze r (jw (fX r) j):=by
   classical
   exact⟨decide (ze r (jw (fX r) j)),by simp⟩
  obtain⟨y,hy⟩:∃y:Bool,y=true↔ze r (jV (fX r) j):=by
   classical
   exact⟨decide (ze r (jV (fX r) j)),by simp⟩
  have hm64:m<18446744073709551616:=by rw [ja HM];have:=QC r;omega
  have KX:=jb (je9 w20 (.slice a15 n15 c15) (.slice a10 n10 c10) (.slice a8 n8 c8) bl bh w1.heap.size (jw (fX r) j) (fL r) (fH r) m x (by have:=(ja HLEN).2.2.2.1;omega) (by have:=ja LL;omega) (by have:=(ja LN).2.1;omega) (ja ST).2.2 (ja ST).1.l9 (ja ST).1.l8 (ja ST).1.kl (ja ST).1.kh (ja ST).1.km hm64 (jb (by rw [hx,jao,ja HM])));have HX:=jb (And.intro hx hy);clear lUp hx hy
  go_wp2_with fail
  refine(ja KX).mono ?_
  rintro _ w22 ⟨rfl,b22⟩
  have ST:=jb (And.intro ((ja ST).1.below b22) (And.intro ((ja ST).2.1.below b22) ((ja ST).2.2.below b22)));have HU:=jb ((ja HU).below b22);clear KX b22;have KY:=jb (je9 w22 (.slice b16a b16n b16c) (.slice a10 n10 c10) (.slice a8 n8 c8) bl bh w1.heap.size (jV (fX r) j) (fL r) (fH r) m y (by have:=ja HLU;omega) (by have:=ja LL;omega) (by have:=(ja LN).2.1;omega) (ja HU) (ja ST).1.l9 (ja ST).1.l8 (ja ST).1.kl (ja ST).1.kh (ja ST).1.km hm64 (jb (by rw [(ja HX).2,jao,ja HM])))
  go_wp2_with fail
  refine(ja KY).mono ?_
  rintro _ w23 ⟨rfl,b23⟩
  have ST:=jb (And.intro ((ja ST).1.below b23) (And.intro ((ja ST).2.1.below b23) ((ja ST).2.2.below b23)));have HU:=jb ((ja HU).below b23);clear KY b23 hm64
  by_cases both:x=false/\y=false
  ·obtain⟨rfl,rfl⟩:=both
   have nA1:n+1<=A.size:=by
    rcases Nat.lt_or_ge n A.size with h | h
    ·exact h
    ·exfalso
     have j0:j=0:=by rw [ja HJ];omega
     have e:jw (fX r) j=fX r:=by rw [j0];unfold jw;simp
     have:=(ja HX).1.2 (by rw [e];exact ZP r (ja HE).2.1);cases this
   have NG:Hid (∀i,A.size - (n+1)<i->10 ^ i<=fX r->¬Good r i):=jb (fun i h1 h2=>by
    by_cases c:i=j
    ·rw [c]
     rintro(g | g)
     ·have:=(ja HX).1.2 g;cases this
     ·have:=(ja HX).2.2 g;cases this
    ·refine ja hNG i ?_ h2
     have:=ja HJ;omega)
   have SS:=jb (ja ST).1;clear hNG ST HU HX HLEN HF;go_wp2;go_roundw
   case rel=>exact⟨n+1,by go_num,by omega,nA1,NG,SS⟩
   case measure=>simp [intOf];omega
  ·have HBO:=jb both
   clear both
   go_upto_region 18 with fail
   go_cut [107] from 102 to 106 (fun s107 wx=>s107=.bool false/\w23=wx)
   case first=>
    have both:=ja HBO;clear HBO hNG ST HU HX HLEN HF;cases x with
    | true=>
     clear both;go_wp2
     go_meet
     case rel=>exact⟨rfl,by trivial⟩
    | false=>
     have y1:y=true:=by
      cases y with
      | true=>rfl
      | false=>exact absurd ⟨rfl,rfl⟩ both
     subst y1;clear both;go_wp2
     go_meet
     case rel=>exact⟨rfl,by trivial⟩
   case rest=>
   obtain⟨rfl,rfl⟩:=hcut
   go_wp2_with fail
   refine(jaM w23 (.slice a7 n7 c7) (.slice a15 n15 c15) (fX r) (jw (fX r) j) (by have:=(ja HLEN).1;omega) (zG _ _) (ja ST).1.l7 (ja ST).2.2).mono ?_
   rintro _ w24 ⟨vc,rfl,Lc,_,b24⟩
   have ST:=jb (And.intro ((ja ST).1.below b24) (And.intro ((ja ST).2.1.below b24) ((ja ST).2.2.below b24)));have HU:=jb ((ja HU).below b24);clear b24
   go_wp2_with fail
   refine(jaM w24 (.slice b16a b16n b16c) (.slice a7 n7 c7) (jV (fX r) j) (fX r) (by have:=ja HLU;omega) (jj9 _ _) (ja HU) (ja ST).1.l7).mono ?_
   rintro _ w25 ⟨vd,rfl,Ld,_,b25⟩
   have ST:=jb (And.intro ((ja ST).1.below b25) (And.intro ((ja ST).2.1.below b25) ((ja ST).2.2.below b25)));have HU:=jb ((ja HU).below b25);have Lc:=Lc.below b25;clear b25
   have lc:(dig (fX r - jw (fX r) j)).length<=1048576:=by
    have:=zO (Nat.sub_le (fX r) (jw (fX r) j));have:=(ja HLEN).1;omega
   have ld:(dig (jV (fX r) j - fX r)).length<=1048576:=by
    have:=zO (Nat.sub_le (jV (fX r) j) (fX r));have:=ja HLU;omega
   have KG:=jb (Ju w25 vc vd _ _ lc ld Lc Ld);obtain⟨cg,hcg⟩:∃cg,cg=sgn (fX r - jw (fX r) j) (jV (fX r) j - fX r):=⟨_,rfl⟩
   rw [<-hcg] at KG;have HCG:=jb hcg;clear lc ld Lc Ld hcg
   go_wp2_with fail
   refine(ja KG).mono ?_
   rintro _ w26 ⟨rfl,e26⟩
   rw [e26];clear e26 KG
   -- which is picked
   obtain⟨bst,hbst⟩:∃bst:Bool,bst=true↔(x=false\/(y=true/\JH (fX r) j)):=by
    classical
    exact⟨decide (x=false\/(y=true/\JH (fX r) j)),by simp⟩
   have HBST:=jb hbst;clear hbst
   go_upto_region 21 with fail
   go_cut [140] from 116 to 139 (fun s140 wx=>s140=.bool bst/\w25=wx)
   case first=>
    -- PICK-BEGIN
    have hF0:F≠0:=by
     rw [(ja HF).1];exact Nat.ne_of_gt (Nat.div_pos (ja HF).2 (jD j))
    obtain⟨k14,b14,o14,rfl,c14⟩:=jev (ja ST).2.1 hF0;have k14':(0:Int)<(n14:Int):=by omega
    have HPAR:=jb (ja HF).1;clear hF0 hNG ST HU HX HLEN HF HBO HPD HJ HAA;cases x with
    | false=>
     have B1:Hid (bst=true):=jb ((ja HBST).2 (.inl rfl));clear HBST HCG HPAR;go_wp2
     go_meet
     case rel=>exact⟨by rw [ja B1],by trivial⟩
    | true=>
     cases y with
     | false=>
      have B1:Hid (bst=false):=jb (by
       cases hb:bst with
       | false=>rfl
       | true=>rcases(ja HBST).1 hb with h | ⟨h,_⟩<;>cases h)
      clear HBST HCG HPAR;go_wp2
      go_meet
      case rel=>exact⟨by rw [ja B1],by trivial⟩
     | true=>
      rcases Nat.lt_trichotomy (fX r - jw (fX r) j) (jV (fX r) j - fX r) with h | h | h
      ·have B1:Hid (bst=false):=jb (by
        cases hb:bst with
        | false=>rfl
        | true=>
         rcases(ja HBST).1 hb with h' | ⟨_,h'⟩
         ·cases h'
         ·exact absurd h' (jh1 h))
       have e1:cg = -1:=by rw [ja HCG];exact ZJ h
       subst e1;clear HBST HCG HPAR h;go_wp2
       go_meet
       case rel=>exact⟨by rw [ja B1],by trivial⟩
      ·have e1:cg=0:=by rw [ja HCG];exact jbC h
       subst e1
       have B1:Hid (bst=decide (F % 2=1)):=jb (by
        rw [Bool.eq_iff_iff,ja HBST,decide_eq_true_iff,jhJ h,ja HPAR];simp)
       have par:(((F % 10000:Nat):Int) % 2 == 1)=decide (F % 2=1):=by
        rw [Bool.eq_iff_iff,beq_iff_eq,decide_eq_true_iff];omega
       generalize F % 10000=q at *;generalize decide (F % 2=1)=dp at *;clear HBST HCG HPAR h;go_wp2
       go_meet
       case rel=>exact⟨by rw [ja B1],by trivial⟩
      ·have B1:Hid (bst=true):=jb ((ja HBST).2 (.inr ⟨rfl,jg5 h⟩))
       have e1:cg=1:=by rw [ja HCG];exact jbr h
       subst e1;clear HBST HCG HPAR h;go_wp2
       go_meet
       case rel=>exact⟨by rw [ja B1],by trivial⟩
    -- PICK-END
   case rest=>
   obtain⟨rfl,rfl⟩:=hcut;have PK:Hid (Jm r j (if bst then jV (fX r) j else jw (fX r) j)):=jb (ji6 (ja HX).1 (ja HX).2 (ja HBO) (ja HBST));obtain⟨p,hp⟩:∃p,p=if bst then jV (fX r) j else jw (fX r) j:=⟨_,rfl⟩
   rw [<-hp] at PK
   have lp:(dig p).length<=2000:=by
    rw [hp];split
    ·exact ja HLU
    ·exact(ja HLEN).2.2.2.1
   have HLP:=jb lp;have HP:=jb hp;clear lp hp
   go_upto_if 140 with fail
   go_cut [20] from 59 to 158 (fun s20 wx=>∃(a:Option Addr) (k c:Nat),s20=.slice a k c/\Hid (Lies wx (.slice a k c) p)/\w25=wx)
   case first=>
    cases hb:bst with
    | true=>
     subst hb;have U:Hid (Lies w25 (.slice b16a b16n b16c) p):=jb (by rw [ja HP,if_pos rfl];exact ja HU);clear HBST hNG ST HU HP PK;go_wp2
     go_meet
     case rel=>exact⟨b16a,b16n,b16c,rfl,U,by trivial⟩
    | false=>
     subst hb;have U:Hid (Lies w25 (.slice a15 n15 c15) p):=jb (by rw [ja HP,if_neg Bool.false_ne_true];exact(ja ST).2.2);clear HBST hNG ST HU HP PK;go_wp2
     go_meet
     case rel=>exact⟨a15,n15,c15,rfl,U,by trivial⟩
   case rest=>
   obtain⟨a20,n20,c20,rfl,HL20,rfl⟩:=hcut;have BE:=jb (ja ST).1.be;have BEST:Hid (Qf r j p):=jb ⟨(ja HF).2,ja PK,fun i h1 h2=>ja hNG i (by have:=ja HJ;omega) h2⟩
   have p0:p≠0:=by
    rintro rfl
    exact jcG (ja BEST)
   have KD2:=Q8 w25 (.slice a20 n20 c20) p (by have:=ja HLP;omega) (ja HL20);obtain⟨S0,hS0⟩:∃S0:ByteArray,S0=⟨(js p).toArray⟩:=⟨_,rfl⟩
   rw [<-hS0] at KD2
   have s8:S0.size<=9000:=by
    rw [hS0,zr];have:=jcx (ja HLP) (by decide);omega
   have HKD:=jb KD2;have HS0:=jb hS0;have HP0:=jb p0;clear KD2 hS0 p0 HBST HX HBO hNG ST HU HP PK HL20 HCG HLU HLEN HLP HF HJ HPD
   go_wp2_with fail
   refine(ja HKD).mono ?_
   rintro _ w27 ⟨rfl,b27⟩
   have BE:=jb (jX (ja BE) b27);clear b27 HKD
   go_wp2_with fail
   go_loopw [21,22] (fun s21 s22 wr=>∃(d c:Nat) (S:ByteArray),s21=.string S/\s22=.int .i64 (-1080+(c:Int))/\Hid (S=⟨(js d).toArray⟩)/\Hid (d≠0)/\Hid (d*10 ^ c=p)/\c+S.size<=9000/\w27=wr) (fun s21 _ _=>match s21 with | .string t=>t.size | _=>0)
   case atStart=>exact⟨p,0,S0,rfl,rfl,HS0,HP0,jb (by simp),by omega,by trivial⟩
   case round=>
    obtain⟨d,c,S,rfl,rfl,hS,hd0,hdp,hc,rfl⟩:=hrel;clear HS0 HP0;have hSl:S.data.toList=js d:=by rw [ja hS]
    have hSp:0<S.size:=by rw [<-jj,hSl];exact List.length_pos_iff.2 (jJ d).1
    obtain⟨q,hq⟩:∃q,S.size=q+1:=⟨S.size - 1,by omega⟩
    have qS:q<S.size:=by omega
    have x4:IntKind.i64.wrap ((S.size:Int) - 1)=(q:Int):=by simp [IntKind.wrap,IntKind.bits,IntKind.signed];omega
    have lq:(q:Int)<(S.size:Int):=by omega
    have lq0:(0:Int)<=(q:Int):=by omega
    have lq1:(q:Int)<=(S.size:Int):=by omega
    have gq:S.data.toList[q]?=some (S[q]'qS):=List.getElem?_eq_getElem (by rw [jj];exact qS)
    by_cases c1:d % 10=0
    ·obtain⟨e1,e2⟩:=jgd c1 (ja hd0)
     have lenq:(js (d / 10)).length=q:=by
      have:=jj S;rw [hSl,e1,List.length_append] at this;simp at this;omega
     have sq:(S[q]'qS)=48:=by
      rw [hSl,e1,List.getElem?_append_right (by omega),lenq,Nat.sub_self] at gq;exact(Option.some.inj gq).symm
     have i1:(((S[q]'qS).toNat:Int) == 48)=true:=by rw [sq];rfl
     obtain⟨S',hS'⟩:∃S':ByteArray,S.extract 0 q=S':=⟨_,rfl⟩
     have HS':Hid (S'=⟨(js (d / 10)).toArray⟩):=jb (by
      apply ByteArray.ext
      apply Array.toList_inj.1
      rw [<-hS',ByteArray.data_extract,Array.toList_extract,hSl,e1];simp [List.extract,<-lenq])
     have HD':=jb e2
     have HP':Hid (d / 10*10 ^ (c+1)=p):=jb (by
      rw [<-ja hdp,Nat.pow_succ,Nat.mul_comm (10 ^ c),<-Nat.mul_assoc]
      congr 1
      omega)
     have s':S'.size=q:=by rw [ja HS',zr,lenq]
     have x5:IntKind.i64.wrap (-1080+(c:Int)+1) = -1080+((c+1:Nat):Int):=by simp [IntKind.wrap,IntKind.bits,IntKind.signed];omega
     have hc':c+1+S'.size<=9000:=by omega
     have MS:Hid (S'.size<S.size):=jb (by omega);clear hS hSl hd0 hdp gq c1 e1 e2 lenq sq s' hq;go_wp2;go_roundw
     case rel=>exact⟨d / 10,c+1,S',rfl,by first | rfl | (congr 1),HS',HD',HP',hc',by trivial⟩
     case measure=>have:=ja MS;simp only [];omega
    ·obtain⟨pl,pc,hpl,hpc⟩:=jfJ c1
     have sq:(S[q]'qS)=pc:=by
      have hlen:pl.length=q:=by
       have:=jj S;rw [hSl,hpl,List.length_append] at this;simp at this;omega
      rw [hSl,hpl,List.getElem?_append_right (by omega),hlen,Nat.sub_self] at gq;exact(Option.some.inj gq).symm
     have i1:(((S[q]'qS).toNat:Int) == 48)=false:=beq_false_of_ne (fun e=>hpc (by
      rw [<-sq];exact UInt8.toNat_inj.1 (by show(S[q]'qS).toNat=48;omega)))
     have HC1:=jb c1;clear hSl gq hpl hpc sq c1;go_wp2;refine bodyPost_ret (v:=.tuple #[.string S,.int .i64 (-1080+(c:Int))]) (by simp [results,Tryz.results89,go_sem]) rfl ?_
     refine⟨d,-1080+(c:Int),by rw [ja hS],ja HC1,⟨j,?_⟩,by omega,ja BE⟩;rw [show(-1080+(c:Int)+1080).toNat=c by omega,ja hdp];exact ja BEST
open Go.RowKit
theorem jdk {r j i d e:Nat}{ten t:Int}(h1:Qf r j (d*10 ^ (ten+1080).toNat))(h2:Qf r i (e*10 ^ (t+1080).toNat))(hd:d % 10≠0)(he:e % 10≠0)(h3 : -1080<=ten)(h4 : -1080<=t):e=d/\t=ten:=by
 obtain⟨a,b⟩:=jec (jc4 h1 h2) hd he;exact⟨a.symm,by omega⟩
open Go.RowKit Go.Sort
theorem jbK (n:Nat):(⟨(Lib.repeatL [48] n).toArray⟩:ByteArray)=qe n:=by
 unfold qe
 congr 2
 induction n with
 | zero=>rfl
 | succ n ih=>rw [List.replicate_succ,<-ih];rfl
theorem ZD (w:World)(n:Nat)(hn:n<=1000) :
  Calls Tryz.prog 276 #[.int .i64 (n:Int)] w fun e w'=>e=.returned (.string (qe n))/\Below w.heap.size w w':=by
 have K:Hid (Calls Tryz.prog 270 #[.string ⟨#[48]⟩,.int .i64 (n:Int)] w fun e w'=>e=.returned (.string (qe n))/\Below w.heap.size w w'):=jb (by
  by_cases h0:n=0
  ·subst h0
   refine(Tryz.strings_Repeat_zero ⟨#[48]⟩ w).mono ?_
   rintro e w' ⟨rfl,rfl⟩
   exact⟨rfl,Below.refl _ _⟩
  ·by_cases h1:n=1
   ·subst h1
    refine(Tryz.strings_Repeat_one ⟨#[48]⟩ w).mono ?_
    rintro e w' ⟨rfl,rfl⟩
    exact⟨rfl,Below.refl _ _⟩
   ·have h:=Tryz.strings_Repeat_main ⟨#[48]⟩ n w (by omega) (by omega) (by show 1*n<=_;omega) (by decide)
    rw [show(⟨#[48]⟩:ByteArray).data.toList=[48] by rfl,jbK] at h;exact h)
 go_enter Tryz.func276,Tryz.ntmps276
 go_wp2_with fail
 refine(ja K).mono ?_
 rintro e w' ⟨rfl,b⟩
 have B:=jb b;clear b K;go_wp2;go_ret;exact⟨rfl,ja B⟩
theorem jf (a b:ByteArray):(a++b).data.toList=a.data.toList++b.data.toList:=by
 rw [ByteArray.data_append,Array.toList_append]
theorem jl (a b:ByteArray)(h:a.size+b.size<=100000)(u:World):(Op.stringOp .add a b).run Tryz.prog u=.ok (.string (a++b)) u:=run_string_add_sum _ _ _ (by omega)
theorem zo (n:Nat):(qe n).data.toList=List.replicate n 48:=by unfold qe;simp
theorem jcV (s:ByteArray)(a b:Nat):(s.extract a b).data.toList=(s.data.toList.take b).drop a:=by
 rw [ByteArray.data_extract,Array.toList_extract];simp [List.extract,List.drop_take]
theorem zP (s:ByteArray)(b:Nat):(s.extract 0 b).data.toList=s.data.toList.take b:=by rw [jcV,List.drop_zero]
theorem JK (s:ByteArray)(a:Nat):(s.extract a s.size).data.toList=s.data.toList.drop a:=by
 rw [jcV,List.take_of_length_le (by rw [jj];exact Nat.le_refl _)]
theorem qt (s:ByteArray)(a b:Nat)(h:b<=s.size):(s.extract a b).size=b - a:=by rw [ByteArray.size_extract];omega
def Qg (D:List UInt8)(x:Int):List UInt8:=D.take 1++((if D.drop 1=[] then [] else 46 :: D.drop 1)++101 :: Lib.itoa x)
theorem Qs (x:Int)(h1 : -100000<=x)(h2:x<=100000):(Lib.itoa x).length<=10:=by
 have e:(10:Nat) ^ 6=1000000:=by decide
 unfold Lib.itoa;split
 ·rw [List.length_cons,jL]
  have:=jO (n:=x.natAbs) (k:=6) (by omega) (by decide);omega
 ·rw [jL]
  have:=jO (n:=x.toNat) (k:=6) (by omega) (by decide);omega
theorem jck (w:World)(S:ByteArray)(x:Int)(s1:0<S.size)(s2:S.size<=100)(x1 : -100000<=x)(x2:x<=100000)(htab:Lib.TabIs Tryz.prog w "internal/strconv.uint64pow10" .u64 Lib.pow10Tab) :
  Calls Tryz.prog 275 #[.string S,.int .i64 x] w fun e w'=>(∃R:ByteArray,e=.returned (.string R)/\R.data.toList=Qg S.data.toList x)/\Below w.heap.size w w':=by
 have KI:∀k,Hid (Calls Tryz.prog 294 #[.int .i64 x] (w.drewN k) fun e w'=>e=.returned (.string ⟨(Lib.itoa x).toArray⟩)/\Below w.heap.size w w'):=fun k=>jb (by
  refine(Tryz.strconv_Itoa x (by omega) (by omega) (w.drewN k) (ZN htab (below_drewN (Below.refl _ _) k))).mono ?_
  rintro e w' ⟨rfl,i,os,hw⟩
  refine⟨rfl,?_⟩;rw [hw];have h:=Lib.below_grow (w.drewN k).heap.size (w.drewN k) (Nat.le_refl _) i os;exact(below_drewN (Below.refl _ _) k).trans (h.mono (Nat.le_refl _)))
 have il:=Qs x x1 x2;obtain⟨I,hI⟩:∃I:ByteArray,I=⟨(Lib.itoa x).toArray⟩:=⟨_,rfl⟩
 have Is:I.size<=10:=by rw [hI,zr];exact il
 have IL:I.data.toList=Lib.itoa x:=by rw [hI]
 rw [<-hI] at KI;obtain⟨F,hF⟩:∃F:ByteArray,S.extract 0 1=F:=⟨_,rfl⟩
 obtain⟨T,hT⟩:∃T:ByteArray,S.extract 1 S.size=T:=⟨_,rfl⟩
 have Fs:F.size=1:=by rw [<-hF,qt _ _ _ (by omega)]
 have Ts:T.size=S.size - 1:=by rw [<-hT,qt _ _ _ (by omega)]
 have FL:F.data.toList=S.data.toList.take 1:=by rw [<-hF,zP]
 have TL:T.data.toList=S.data.toList.drop 1:=by rw [<-hT,JK]
 have q0:(1:Int)<=(S.size:Int):=by omega
 have d1:(⟨#[46]⟩:ByteArray).size=1:=rfl;have d2:(⟨#[101]⟩:ByteArray).size=1:=rfl;have c1:=jl ⟨#[46]⟩ T (by omega);have c2:=jl F (⟨#[46]⟩++T) (by rw [ByteArray.size_append];omega);have c3:=jl (F++(⟨#[46]⟩++T)) ⟨#[101]⟩ (by rw [ByteArray.size_append,ByteArray.size_append];omega);have c4:=jl ((F++(⟨#[46]⟩++T))++⟨#[101]⟩) I (by rw [ByteArray.size_append,ByteArray.size_append,ByteArray.size_append];omega);have c5:=jl F ⟨#[101]⟩ (by omega);have c6:=jl (F++⟨#[101]⟩) I (by rw [ByteArray.size_append];omega)
 have R1:Hid (T.data.toList≠[]->(((F++(⟨#[46]⟩++T))++⟨#[101]⟩)++I).data.toList=Qg S.data.toList x):=jb (fun h=>by
  unfold Qg;rw [jf,jf,jf,jf,IL,FL,TL,if_neg (by rw [<-TL];exact h)];simp)
 have R2:Hid (T.data.toList=[]->((F++⟨#[101]⟩)++I).data.toList=Qg S.data.toList x):=jb (fun h=>by
  unfold Qg;rw [jf,jf,IL,FL,if_pos (by rw [<-TL];exact h)];simp)
 generalize hA4:((F++(⟨#[46]⟩++T))++⟨#[101]⟩)++I=A4 at *;generalize hA3:(F++(⟨#[46]⟩++T))++⟨#[101]⟩=A3 at *;generalize hA2:F++(⟨#[46]⟩++T)=A2 at *;generalize hA1:(⟨#[46]⟩:ByteArray)++T=A1 at *;generalize hA6:(F++⟨#[101]⟩)++I=A6 at *;generalize hA5:F++(⟨#[101]⟩:ByteArray)=A5 at *;have TN:=jb (jj T);clear htab hI IL FL TL hA1 hA2 hA3 hA4 hA5 hA6 d1 d2 Fs il
 by_cases c:S.size=1
 ·have T0:T.toList=[]:=by
   rw [ByteArray.toList_eq];exact List.eq_nil_of_length_eq_zero (by rw [ja TN];omega)
  have R:=jb (ja R2 (by rw [<-ByteArray.toList_eq];exact T0));clear R1 R2 Ts TN c1 c2 c3 c4 c
  go_enter Tryz.func275,Tryz.ntmps275
  go_wp2_with fail
  go_quiet (fail)
  go_wp2_with fail
  refine(ja (KI _)).mono ?_
  rintro _ w2 ⟨rfl,b2⟩
  have B:=jb b2;clear b2 KI;go_wp2;go_ret;exact⟨⟨A6,rfl,ja R⟩,ja B⟩
 ·have T1:T.data.toList≠[]:=fun e=>by
   have h:=ja TN;rw [e] at h;simp at h;omega
  have T0:T.toList.isEmpty=false:=by
   rw [ByteArray.toList_eq];cases hl:T.data.toList with
   | nil=>exact absurd hl T1
   | cons a r=>rfl
  have R:=jb (ja R1 T1);clear R1 R2 Ts TN c5 c6 c T1
  go_enter Tryz.func275,Tryz.ntmps275
  go_wp2_with fail
  go_quiet (fail)
  go_wp2_with fail
  refine(ja (KI _)).mono ?_
  rintro _ w2 ⟨rfl,b2⟩
  have B:=jb b2;clear b2 KI;go_wp2;go_ret;exact⟨⟨A4,rfl,ja R⟩,ja B⟩
open Go.RowKit Go.Sort
def qo (D:List UInt8)(p:Int):List UInt8 :=
 if p < -3\/17<p then Qg D (p - 1) else if p<=0 then [48,46]++(List.replicate (-p).toNat 48++D) else if p<(D.length:Int) then D.take p.toNat++46 :: D.drop p.toNat else D++(List.replicate (p - (D.length:Int)).toNat 48++[46,48])
theorem qq (x:Int)(h1 : -1000000000<=x)(h2:x<=1000000000):IntKind.i64.wrap x=x:=by
 simp [IntKind.wrap,IntKind.bits,IntKind.signed];omega
theorem jeh (w:World)(S:ByteArray)(p:Int)(s1:0<S.size)(s2:S.size<=100)(x1 : -10000<=p)(x2:p<=10000)(htab:Lib.TabIs Tryz.prog w "internal/strconv.uint64pow10" .u64 Lib.pow10Tab) :
  Calls Tryz.prog 255 #[.string S,.int .i64 p] w fun e w'=>(∃R:ByteArray,e=.returned (.string R)/\R.data.toList=qo S.data.toList p)/\Below w.heap.size w w':=by
 have SN:=jj S
 by_cases cA:p < -3\/17<p
 ·have K:=jb (jck w S (p - 1) s1 s2 (by omega) (by omega) htab)
  have y:=qq (p - 1) (by omega) (by omega);have E:Hid (qo S.data.toList p=Qg S.data.toList (p - 1)):=jb (by unfold qo;rw [if_pos cA]);obtain⟨q,hq⟩:∃q,q=p - 1:=⟨_,rfl⟩
  rw [<-hq] at K E;have y':IntKind.i64.wrap (p - 1)=q:=by rw [hq];exact y
  clear htab SN y hq
  rcases cA with c | c
  ·go_enter Tryz.func255,Tryz.ntmps255
   go_wp2_with fail
   refine(ja K).mono ?_
   rintro _ w1 ⟨⟨R,rfl,hR⟩,b1⟩
   have B:=jb b1;have HR:=jb hR;clear b1 hR K;go_wp2;go_ret;exact⟨⟨R,rfl,by rw [ja HR,ja E]⟩,ja B⟩
  ·have c':¬p < -3:=by omega
   have c2:p > 17:=c
   go_enter Tryz.func255,Tryz.ntmps255
   go_wp2_with fail
   refine(ja K).mono ?_
   rintro _ w1 ⟨⟨R,rfl,hR⟩,b1⟩
   have B:=jb b1;have HR:=jb hR;clear b1 hR K;go_wp2;go_ret;exact⟨⟨R,rfl,by rw [ja HR,ja E]⟩,ja B⟩
 ·have i1:¬p < -3:=by omega
  have i2:¬p > 17:=by omega
  by_cases cB:p<=0
  ·obtain⟨n,hn⟩:∃n:Nat,p = -(n:Int):=⟨(-p).toNat,by omega⟩
   have K:=jb (ZD w n (by omega));obtain⟨Z,hZ⟩:∃Z:ByteArray,Z=qe n:=⟨_,rfl⟩
   have Zs:Z.size=n:=by rw [hZ,qG]
   have y:IntKind.i64.wrap (-p)=(n:Int):=by rw [qq _ (by omega) (by omega)];omega
   have d1:(⟨#[48,46]⟩:ByteArray).size=2:=rfl;have c1:=jl ⟨#[48,46]⟩ Z (by omega);have c2:=jl (⟨#[48,46]⟩++Z) S (by rw [ByteArray.size_append];omega)
   have R:Hid (((⟨#[48,46]⟩++Z)++S).data.toList=qo S.data.toList p):=jb (by
    unfold qo;rw [if_neg cA,if_pos cB,jf,jf,hZ,zo,show(-p).toNat=n by omega];simp)
   rw [<-hZ] at K;generalize (⟨#[48,46]⟩++Z)++S=A2 at *;generalize (⟨#[48,46]⟩:ByteArray)++Z=A1 at *;clear htab SN hZ hn d1 cA
   go_enter Tryz.func255,Tryz.ntmps255
   go_wp2_with fail
   refine(ja K).mono ?_
   rintro _ w1 ⟨rfl,b1⟩
   have B:=jb b1;clear b1 K;go_wp2;go_ret;exact⟨⟨A2,rfl,ja R⟩,ja B⟩
  ·by_cases cC:p<(S.size:Int)
   ·obtain⟨n,rfl⟩:∃n:Nat,p=(n:Int):=⟨p.toNat,by omega⟩
    obtain⟨F,hF⟩:∃F:ByteArray,S.extract 0 n=F:=⟨_,rfl⟩
    obtain⟨T,hT⟩:∃T:ByteArray,S.extract n S.size=T:=⟨_,rfl⟩
    have Fs:F.size=n:=by rw [<-hF,qt _ _ _ (by omega)];omega
    have Ts:T.size=S.size - n:=by rw [<-hT,qt _ _ _ (by omega)]
    have FL:F.data.toList=S.data.toList.take n:=by rw [<-hF,zP]
    have TL:T.data.toList=S.data.toList.drop n:=by rw [<-hT,JK]
    have d1:(⟨#[46]⟩:ByteArray).size=1:=rfl;have c1:=jl F ⟨#[46]⟩ (by omega);have c2:=jl (F++⟨#[46]⟩) T (by rw [ByteArray.size_append];omega)
    have R:Hid (((F++⟨#[46]⟩)++T).data.toList=qo S.data.toList (n:Int)):=jb (by
     unfold qo;rw [if_neg cA,if_neg cB,SN,if_pos cC,jf,jf,FL,TL,Int.toNat_natCast];simp)
    have q0:(0:Int)<=(n:Int):=by omega
    have q1:(n:Int)<=(S.size:Int):=by omega
    generalize (F++⟨#[46]⟩)++T=A2 at *;generalize F++(⟨#[46]⟩:ByteArray)=A1 at *;clear htab SN FL TL d1 cA Fs Ts
    go_enter Tryz.func255,Tryz.ntmps255
    go_wp2_with fail
    go_quiet (fail)
    go_wp2;go_ret;exact⟨⟨A2,rfl,ja R⟩,below_drewN (Below.refl _ _) _⟩
   ·obtain⟨n,hn⟩:∃n:Nat,p - (S.size:Int)=(n:Int):=⟨(p - (S.size:Int)).toNat,by omega⟩
    have K:=jb (ZD w n (by omega));obtain⟨Z,hZ⟩:∃Z:ByteArray,Z=qe n:=⟨_,rfl⟩
    have Zs:Z.size=n:=by rw [hZ,qG]
    have y:IntKind.i64.wrap (p - (S.size:Int))=(n:Int):=by rw [qq _ (by omega) (by omega)];omega
    have d1:(⟨#[46,48]⟩:ByteArray).size=2:=rfl;have c1:=jl S Z (by omega);have c2:=jl (S++Z) ⟨#[46,48]⟩ (by rw [ByteArray.size_append];omega)
    have R:Hid (((S++Z)++⟨#[46,48]⟩).data.toList=qo S.data.toList p):=jb (by
     unfold qo;rw [if_neg cA,if_neg cB,SN,if_neg cC,jf,jf,hZ,zo,hn,Int.toNat_natCast];simp)
    rw [<-hZ] at K;generalize (S++Z)++⟨#[46,48]⟩=A2 at *;generalize S++Z=A1 at *;clear htab SN hZ hn d1 cA
    go_enter Tryz.func255,Tryz.ntmps255
    go_wp2_with fail
    refine(ja K).mono ?_
    rintro _ w1 ⟨rfl,b1⟩
    have B:=jb b1;clear b1 K;go_wp2;go_ret;exact⟨⟨A2,rfl,ja R⟩,ja B⟩
open Go.RowKit Go.Sort
def sgL (b:Nat):List UInt8:=if 9223372036854775808<=b then [45] else []
def jv (b:Nat)(T:List UInt8):Prop :=
 ((jo b).2.2=2/\T=[110,97,110])\/((jo b).2.2=1/\T=sgL b++[105,110,102])\/((jo b).2.2=0/\(jo b).1=0/\T=sgL b++[48,46,48])\/
 ((jo b).2.2=0/\(jo b).1≠0/\∃(d j:Nat) (ten:Int),d % 10≠0/\-1080<=ten/\Qf (b % 9223372036854775808) j (d*10 ^ (ten+1080).toNat)/\T=sgL b++qo (js d) (((js d).length:Int)+ten))
theorem QV {b:Nat}{T U:List UInt8}(h:jv b T)(k:jv b U):T=U:=by
 rcases h with ⟨a,h⟩ | ⟨a,h⟩ | ⟨a,a2,h⟩ | ⟨a,a2,d,j,ten,h1,h2,h3,h⟩<;>rcases k with ⟨c,k⟩ | ⟨c,k⟩ | ⟨c,c2,k⟩ | ⟨c,c2,d',j',ten',k1,k2,k3,k⟩<;>first | (rw [h,k];done) | omega | skip
 obtain⟨e1,e2⟩:=jdk h3 k3 h1 k1 h2 k2;rw [h,k,e1,e2]
theorem jeQ (b:Nat)(hb:b<18446744073709551616):Go.bits .and .u64 (b:Int) 9223372036854775808=if 9223372036854775808<=b then 9223372036854775808 else 0:=by
 have h:=bits_and_u64_nat b 9223372036854775808 hb (by decide);have e:(9223372036854775808:Nat)=2 ^ 63:=by decide
 have h2:b &&& 9223372036854775808=if 9223372036854775808<=b then 9223372036854775808 else 0:=by
  have top:b.testBit 63=decide (9223372036854775808<=b):=by
   rw [Nat.testBit_eq_decide_div_mod_eq,<-e,decide_eq_decide];omega
  apply Nat.eq_of_testBit_eq
  intro i;rw [Nat.testBit_and,e,Nat.testBit_two_pow,<-e]
  by_cases c:9223372036854775808<=b
  ·rw [if_pos c,e,Nat.testBit_two_pow]
   by_cases hi:63=i
   ·rw [<-hi,top,decide_eq_true c];rfl
   ·rw [decide_eq_false hi];simp
  ·rw [if_neg c,Nat.zero_testBit]
   by_cases hi:63=i
   ·rw [<-hi,top,decide_eq_false c];rfl
   ·rw [decide_eq_false hi];simp
 rw [h2] at h;split at h
 ·rw [if_pos (by assumption)];exact h
 ·rw [if_neg (by assumption)];exact h
def jcF (b:Nat)(G:ByteArray):Prop:=(9223372036854775808<=b/\G=⟨#[45]⟩)\/(b<9223372036854775808/\G=⟨#[]⟩)
theorem zR {b:Nat}{G:ByteArray}(h:jcF b G):G.data.toList=sgL b/\G.size<=1:=by
 unfold sgL
 rcases h with ⟨h,rfl⟩ | ⟨h,rfl⟩
 ·rw [if_pos h];exact⟨rfl,by decide⟩
 ·rw [if_neg (by omega)];exact⟨rfl,by decide⟩
theorem jb5 (w:World)(b kd:Nat)(hb:b<18446744073709551616)(hk:(jo b).2.2=(kd:Int))(hkd:(kd=2)\/(kd=1)\/(kd=0/\(jo b).1=0)) :
  Calls Tryz.prog 231 #[.int .u64 (b:Int)] w fun e w'=>(∃R:ByteArray,e=.returned (.string R)/\jv b R.data.toList)/\Below w.heap.size w w':=by
 have kp:=zW w b hb;have an:=jeQ b hb
 have TI:∀(G:ByteArray),jcF b G->(kd=2->Hid (jv b [110,97,110]))/\(kd=1->Hid (jv b (G++⟨#[105,110,102]⟩).data.toList))/\(kd=0->(jo b).1=0->Hid (jv b (G++⟨#[48,46,48]⟩).data.toList)):=fun G hG=>by
  obtain⟨g1,_⟩:=zR hG;refine⟨fun h=>jb (.inl ⟨by rw [hk,h];rfl,rfl⟩),fun h=>jb (.inr (.inl ⟨by rw [hk,h];rfl,by rw [jf,g1]⟩)),fun h h2=>jb (.inr (.inr (.inl ⟨by rw [hk,h];rfl,h2,by rw [jf,g1]⟩)))⟩
 rw [hk] at kp;generalize (jo b).2.1=ex at *;generalize (jo b).1=mt at *;have KP:=jb kp;clear kp hk
 by_cases sg:9223372036854775808<=b
 ·rw [if_pos sg] at an
  obtain⟨t2,t1,t0⟩:=TI ⟨#[45]⟩ (.inl ⟨sg,rfl⟩);have d0:(⟨#[45]⟩:ByteArray).size=1:=rfl;have d1:(⟨#[105,110,102]⟩:ByteArray).size=3:=rfl;have d2:(⟨#[48,46,48]⟩:ByteArray).size=3:=rfl;have c1:=jl ⟨#[45]⟩ ⟨#[105,110,102]⟩ (by omega);have c2:=jl ⟨#[45]⟩ ⟨#[48,46,48]⟩ (by omega);generalize (⟨#[45]⟩:ByteArray)++⟨#[105,110,102]⟩=A1 at *;generalize (⟨#[45]⟩:ByteArray)++⟨#[48,46,48]⟩=A2 at *;clear TI d0 d1 d2 sg hb
  rcases hkd with rfl | rfl | ⟨rfl,rfl⟩
  ·have T:=t2 rfl
   clear t2 t1 t0
   go_enter Tryz.func231,Tryz.ntmps231
   go_wp2_with fail
   refine(ja KP).mono ?_
   rintro _ w1 ⟨rfl,rfl⟩
   clear KP;go_wp2;go_ret;exact⟨⟨_,rfl,ja T⟩,Below.refl _ _⟩
  ·have T:=t1 rfl
   clear t2 t1 t0
   go_enter Tryz.func231,Tryz.ntmps231
   go_wp2_with fail
   refine(ja KP).mono ?_
   rintro _ w1 ⟨rfl,rfl⟩
   clear KP;go_wp2;go_ret;exact⟨⟨A1,rfl,ja T⟩,Below.refl _ _⟩
  ·have T:=t0 rfl rfl
   clear t2 t1 t0
   go_enter Tryz.func231,Tryz.ntmps231
   go_wp2_with fail
   refine(ja KP).mono ?_
   rintro _ w1 ⟨rfl,rfl⟩
   clear KP;go_wp2;go_ret;exact⟨⟨A2,rfl,ja T⟩,Below.refl _ _⟩
 ·rw [if_neg sg] at an
  obtain⟨t2,t1,t0⟩:=TI ⟨#[]⟩ (.inr ⟨by omega,rfl⟩);have d0:(⟨#[]⟩:ByteArray).size=0:=rfl;have d1:(⟨#[105,110,102]⟩:ByteArray).size=3:=rfl;have d2:(⟨#[48,46,48]⟩:ByteArray).size=3:=rfl;have c1:=jl ⟨#[]⟩ ⟨#[105,110,102]⟩ (by omega);have c2:=jl ⟨#[]⟩ ⟨#[48,46,48]⟩ (by omega);generalize (⟨#[]⟩:ByteArray)++⟨#[105,110,102]⟩=A1 at *;generalize (⟨#[]⟩:ByteArray)++⟨#[48,46,48]⟩=A2 at *;clear TI d0 d1 d2 sg hb
  rcases hkd with rfl | rfl | ⟨rfl,rfl⟩
  ·have T:=t2 rfl
   clear t2 t1 t0
   go_enter Tryz.func231,Tryz.ntmps231
   go_wp2_with fail
   refine(ja KP).mono ?_
   rintro _ w1 ⟨rfl,rfl⟩
   clear KP;go_wp2;go_ret;exact⟨⟨_,rfl,ja T⟩,Below.refl _ _⟩
  ·have T:=t1 rfl
   clear t2 t1 t0
   go_enter Tryz.func231,Tryz.ntmps231
   go_wp2_with fail
   refine(ja KP).mono ?_
   rintro _ w1 ⟨rfl,rfl⟩
   clear KP;go_wp2;go_ret;exact⟨⟨A1,rfl,ja T⟩,Below.refl _ _⟩
  ·have T:=t0 rfl rfl
   clear t2 t1 t0
   go_enter Tryz.func231,Tryz.ntmps231
   go_wp2_with fail
   refine(ja KP).mono ?_
   rintro _ w1 ⟨rfl,rfl⟩
   clear KP;go_wp2;go_ret;exact⟨⟨A2,rfl,ja T⟩,Below.refl _ _⟩
theorem jiJ {D:List UInt8}{x:Int}(hD:D.length<=100)(h1 : -100000<=x)(h2:x<=100000):(Qg D x).length<=500:=by
 unfold Qg;have h:=Qs x h1 h2;rw [List.length_append,List.length_append,List.length_take,List.length_cons];split
 ·simp;omega
 ·rw [List.length_cons,List.length_drop];omega
theorem jiT {D:List UInt8}{p:Int}(hD:D.length<=100)(h1 : -10000<=p)(h2:p<=10000):(qo D p).length<=500:=by
 unfold qo;split
 ·exact jiJ hD (by omega) (by omega)
 ·split
  ·rw [List.length_append,List.length_append,List.length_replicate];simp;omega
  ·split
   ·rw [List.length_append,List.length_take,List.length_cons,List.length_drop];omega
   ·rw [List.length_append,List.length_append,List.length_replicate];simp;omega
theorem jff (w:World)(b r:Nat)(hb:b<18446744073709551616)(hr:r=b % 9223372036854775808)(h0:0<r)(hi:r<9218868437227405312)(htab:Lib.TabIs Tryz.prog w "internal/strconv.uint64pow10" .u64 Lib.pow10Tab) :
  Calls Tryz.prog 231 #[.int .u64 (b:Int)] w fun e w'=>(∃R:ByteArray,e=.returned (.string R)/\jv b R.data.toList)/\Below w.heap.size w w':=by
 obtain⟨e1,e2,e3⟩:=Ji b r hb hr h0 hi;have KS:=jb (jfI w b r hb hr h0 hi htab);have mp:0<jM r:=by unfold jM;split<;>omega
 have TI:∀(G R:ByteArray) (d j:Nat) (ten:Int),jcF b G->d % 10≠0->-1080<=ten->Qf r j (d*10 ^ (ten+1080).toNat)->R.data.toList=qo (js d) (((js d).length:Int)+ten)->jv b (G++R).data.toList:=fun G R d j ten hG hd ht hB hR=>by
  obtain⟨g1,_⟩:=zR hG;refine .inr (.inr (.inr ⟨e3,by rw [e1];omega,d,j,ten,hd,ht,by rw [<-hr];exact hB,?_⟩));rw [jf,g1,hR]
 have kp:=zW w b hb;rw [e1,e2,e3] at kp;have an:=jeQ b hb;have HI:=jb (And.intro h0 hi);have HTI:=jb TI;have HT:=jb htab;obtain⟨m,hm⟩:∃m,m=jM r:=⟨_,rfl⟩
 obtain⟨ex,hex⟩:∃ex:Int,ex=((r / 4503599627370496 - 1:Nat):Int) - 1074:=⟨_,rfl⟩
 rw [<-hm,<-hex] at kp;rw [<-hm] at mp;have m0:((m:Int) == 0)=false:=beq_false_of_ne (by omega);have KP:=jb kp
 obtain⟨G,hG,hsg⟩:∃G,jcF b G/\((Go.bits .and .u64 (b:Int) 9223372036854775808=9223372036854775808/\G=⟨#[45]⟩)\/(Go.bits .and .u64 (b:Int) 9223372036854775808=0/\G=⟨#[]⟩)):=by
  by_cases sg:9223372036854775808<=b
  ·rw [if_pos sg] at an
   exact⟨_,.inl ⟨sg,rfl⟩,.inl ⟨an,rfl⟩⟩
  ·rw [if_neg sg] at an
   exact⟨_,.inr ⟨by omega,rfl⟩,.inr ⟨an,rfl⟩⟩
 have HG:=jb hG;clear kp TI e1 e2 e3 hr h0 hi htab hm hex an hG
 rcases hsg with ⟨an,rfl⟩ | ⟨an,rfl⟩
 all_goals
  go_enter Tryz.func231,Tryz.ntmps231
  go_wp2_with fail
  refine(ja KP).mono ?_
  rintro _ w1 ⟨rfl,e1⟩
  rw [e1];clear KP e1
  go_wp2_with fail
  refine(ja KS).mono ?_
  rintro _ w2 ⟨⟨d,ten,rfl,hd10,hd64,t1,t2,j,hB⟩,b2⟩
  have h17:=Xv (ja HI).1 hB rfl hd10;have L17:(js d).length<=17:=jO h17 (by decide);have L1:0<(js d).length:=List.length_pos_iff.2 (jJ d).1;rw [jL];obtain⟨S,hS⟩:∃S:ByteArray,S=⟨(js d).toArray⟩:=⟨_,rfl⟩
  have hSs:S.size=(js d).length:=by rw [hS,zr]
  have hSl:S.data.toList=js d:=by rw [hS]
  rw [<-hS];obtain⟨p,hp⟩:∃p:Int,p=(S.size:Int)+ten:=⟨_,rfl⟩
  have y:IntKind.i64.wrap ((S.size:Int)+ten)=p:=by rw [hp,qq _ (by omega) (by omega)]
  have KL:=jb (jeh w2 S p (by omega) (by omega) (by omega) (by omega) (ZN (ja HT) b2));have HTT:=jb (fun(R:ByteArray) (hR:R.data.toList=qo S.data.toList p)=>ja HTI _ R d j ten (ja HG) hd10 (by omega) hB (by rw [hR,hSl,hp,hSs]));have B2:=jb b2;have SB:Hid (S.size<=100/\-10000<=p/\p<=10000):=jb ⟨by omega,by omega,by omega⟩;clear KS hB b2 hS hSs hSl hp HTI HG HI HT h17 L17 L1
  go_wp2_with fail
  refine(ja KL).mono ?_
  rintro _ w3 ⟨⟨R,rfl,hR⟩,b3⟩
  have HTX:=jb (ja HTT R hR);have B3:=jb ((ja B2).trans (b3.mono (ja B2).size))
  have Rs:R.size<=500:=by
   have h:=jiT (D:=S.data.toList) (p:=p) (by rw [jj];exact(ja SB).1) (ja SB).2.1 (ja SB).2.2;rw [<-hR,jj] at h;exact h
  have d0:(⟨#[45]⟩:ByteArray).size=1:=rfl;have d00:(⟨#[]⟩:ByteArray).size=0:=rfl;have c1:=jl ⟨#[45]⟩ R (by omega);have c2:=jl ⟨#[]⟩ R (by omega);clear KL hR b3 HTT B2 d0 d00 SB;generalize (⟨#[45]⟩:ByteArray)++R=A1 at *;generalize (⟨#[]⟩:ByteArray)++R=A2 at *;go_wp2;go_ret;exact⟨⟨_,rfl,ja HTX⟩,ja B3⟩
theorem X7 (b:Nat)(hb:b<18446744073709551616):(∃kd:Nat,(jo b).2.2=(kd:Int)/\(kd=2\/kd=1\/(kd=0/\(jo b).1=0)))\/(0<b % 9223372036854775808/\b % 9223372036854775808<9218868437227405312):=by
 by_cases h:b % 9223372036854775808=0\/9218868437227405312<=b % 9223372036854775808
 ·left
  rcases Xm rfl hb h with e | e | ⟨e1,e2⟩
  ·exact⟨1,e,.inr (.inl rfl)⟩
  ·exact⟨2,e,.inl rfl⟩
  ·exact⟨0,e1,.inr (.inr ⟨rfl,e2⟩)⟩
 ·right;omega
theorem jad (w:World)(b:Nat)(hb:b<18446744073709551616)(htab:Lib.TabIs Tryz.prog w "internal/strconv.uint64pow10" .u64 Lib.pow10Tab) :
  Calls Tryz.prog 231 #[.int .u64 (b:Int)] w fun e w'=>(∃R:ByteArray,e=.returned (.string R)/\jv b R.data.toList)/\Below w.heap.size w w':=by
 rcases X7 b hb with ⟨kd,h1,h2⟩ | ⟨h1,h2⟩
 ·exact jb5 w b kd hb h1 h2
 ·exact jff w b _ hb rfl h1 h2 htab
open Go.RowKit Go.Sort
theorem XO {r j d t:Nat}(hi:r<9218868437227405312)(h:Qf r j (d*10 ^ t))(hd:d≠0):t<=4001:=by
 obtain⟨h1,h2,_⟩:=h;have hX:=jh6 r hi;have hlt:=jbm (jJ (fX r)).2.1;rw [zg] at hlt;obtain⟨K,hK⟩:∃K,K=(js (fX r)).length:=⟨_,rfl⟩
 rw [<-hK] at hX hlt
 have hu:d*10 ^ t<=fX r+10 ^ j:=by
  have u1:=zG (fX r) j
  have u2:jV (fX r) j<=fX r+10 ^ j:=by
   unfold jV;split
   ·exact Nat.le_trans u1 (Nat.le_add_right _ _)
   ·exact Nat.add_le_add_right u1 _
  have u3:jw (fX r) j<=fX r+10 ^ j:=Nat.le_trans u1 (Nat.le_add_right _ _);unfold Jm at h2
  rcases h2 with ⟨_,_,e⟩ | ⟨_,_,e⟩ | ⟨_,_,⟨_,e⟩ | ⟨_,e⟩⟩<;>rw [e]<;>first | exact u2 | exact u3
 have h3:1*10 ^ t<=d*10 ^ t:=Nat.mul_le_mul_right _ (by omega);have h4:(10:Nat) ^ (K+1)=10 ^ K*10:=Nat.pow_succ ..;have h5:(10:Nat) ^ t<10 ^ (K+1):=by omega
 have:=(Nat.pow_lt_pow_iff_right (a:=10) (by decide)).1 h5;omega
theorem Z6 (w:World)(x:Int)(h1 : -100000<=x)(h2:x<=100000) :
  Calls Tryz.prog 91 #[.int .i64 x] w fun e w'=>(∃I:ByteArray,e=.returned (.string I)/\I.data.toList=Lib.itoa x)/\Below w.heap.size w w':=by
 by_cases c:x<0
 ·obtain⟨n,rfl⟩:∃n:Nat,x = -(n:Int):=⟨x.natAbs,by omega⟩
  refine(jbv w n (by omega) (by omega)).mono ?_
  rintro e w' ⟨rfl,b⟩
  refine⟨⟨_,rfl,?_⟩,b⟩;unfold Lib.itoa;rw [if_pos c,jf,jL,show(-(n:Int)).natAbs=n by omega];rfl
 ·obtain⟨n,rfl⟩:∃n:Nat,x=(n:Int):=⟨x.toNat,by omega⟩
  refine(jdF w n (by omega)).mono ?_
  rintro e w' ⟨rfl,b⟩
  refine⟨⟨_,rfl,?_⟩,b⟩;unfold Lib.itoa;rw [if_neg c,jL,Int.toNat_natCast]
theorem XD (b:Nat)(hb:b<18446744073709551616)(s:Int)(hs:(9223372036854775808<=b/\s=1)\/(b<9223372036854775808/\s=0)):IntKind.u64.wrap ((b:Int).tdiv 9223372036854775808)=s/\IntKind.u64.wrap ((b:Int) / 9223372036854775808)=s/\(b:Int) / 9223372036854775808=s:=by
 have e:(b:Int) / 9223372036854775808=s:=by omega
 have e2:(b:Int).tdiv 9223372036854775808=s:=by rw [Int.tdiv_eq_ediv_of_nonneg (by omega),e]
 have e3:IntKind.u64.wrap s=s:=by
  simp [IntKind.wrap,IntKind.bits,IntKind.signed];omega
 rw [e2,e,e3];exact⟨rfl,rfl,rfl⟩
theorem jeg (w:World)(b kd:Nat)(hb:b<18446744073709551616)(hk:(jo b).2.2=(kd:Int))(hkd:(kd=2)\/(kd=1)\/(kd=0/\(jo b).1=0)) :
  Calls Tryz.prog 42 #[.int .u64 (b:Int)] w fun e w'=>(∃R:ByteArray,e=.returned (.string R)/\jv b R.data.toList)/\Below w.heap.size w w':=by
 have kp:=zQ w b hb
 have TI:∀(G:ByteArray),jcF b G->(kd=2->Hid (jv b [110,97,110]))/\(kd=1->Hid (jv b (G++⟨#[105,110,102]⟩).data.toList))/\(kd=0->(jo b).1=0->Hid (jv b (G++⟨#[48,46,48]⟩).data.toList)):=fun G hG=>by
  obtain⟨g1,_⟩:=zR hG;refine⟨fun h=>jb (.inl ⟨by rw [hk,h];rfl,rfl⟩),fun h=>jb (.inr (.inl ⟨by rw [hk,h];rfl,by rw [jf,g1]⟩)),fun h h2=>jb (.inr (.inr (.inl ⟨by rw [hk,h];rfl,h2,by rw [jf,g1]⟩)))⟩
 rw [hk] at kp;generalize (jo b).2.1=ex at *;generalize (jo b).1=mt at *;have KP:=jb kp;clear kp hk
 obtain⟨G,s,hG,hsg,hq⟩:∃(G:ByteArray) (s:Int),jcF b G/\((s=1/\G=⟨#[45]⟩)\/(s=0/\G=⟨#[]⟩))/\(IntKind.u64.wrap ((b:Int).tdiv 9223372036854775808)=s/\IntKind.u64.wrap ((b:Int) / 9223372036854775808)=s/\(b:Int) / 9223372036854775808=s):=by
  by_cases sg:9223372036854775808<=b
  ·exact⟨_,1,.inl ⟨sg,rfl⟩,.inl ⟨rfl,rfl⟩,XD b hb 1 (.inl ⟨sg,rfl⟩)⟩
  ·exact⟨_,0,.inr ⟨by omega,rfl⟩,.inr ⟨rfl,rfl⟩,XD b hb 0 (.inr ⟨by omega,rfl⟩)⟩
 obtain⟨t2,t1,t0⟩:=TI G hG;obtain⟨q1,q2,q3⟩:=hq;have Gs:=(zR hG).2;have d1:(⟨#[105,110,102]⟩:ByteArray).size=3:=rfl;have d2:(⟨#[48,46,48]⟩:ByteArray).size=3:=rfl;have c1:=jl G ⟨#[105,110,102]⟩ (by omega);have c2:=jl G ⟨#[48,46,48]⟩ (by omega);obtain⟨A1,hA1⟩:∃A1,A1=G++(⟨#[105,110,102]⟩:ByteArray):=⟨_,rfl⟩
 obtain⟨A2,hA2⟩:∃A2,A2=G++(⟨#[48,46,48]⟩:ByteArray):=⟨_,rfl⟩
 rw [<-hA1] at c1 t1;rw [<-hA2] at c2 t0;clear TI d1 d2 hb hG hA1 hA2 Gs
 rcases hkd with rfl | rfl | ⟨rfl,rfl⟩
 ·have T:=t2 rfl
  clear t2 t1 t0 c1 c2
  rcases hsg with ⟨rfl,rfl⟩ | ⟨rfl,rfl⟩
  all_goals
   go_enter Tryz.func42,Tryz.ntmps42
   go_wp2_with fail
   refine(ja KP).mono ?_
   rintro _ w1 ⟨rfl,rfl⟩
   clear KP;go_wp2;go_ret;exact⟨⟨_,rfl,ja T⟩,Below.refl _ _⟩
 ·have T:=t1 rfl
  clear t2 t1 t0 c2
  rcases hsg with ⟨rfl,rfl⟩ | ⟨rfl,rfl⟩
  all_goals
   go_enter Tryz.func42,Tryz.ntmps42
   go_wp2_with fail
   refine(ja KP).mono ?_
   rintro _ w1 ⟨rfl,rfl⟩
   clear KP;go_wp2;go_ret;exact⟨⟨A1,rfl,ja T⟩,Below.refl _ _⟩
 ·have T:=t0 rfl rfl
  clear t2 t1 t0 c1
  rcases hsg with ⟨rfl,rfl⟩ | ⟨rfl,rfl⟩
  all_goals
   go_enter Tryz.func42,Tryz.ntmps42
   go_wp2_with fail
   refine(ja KP).mono ?_
   rintro _ w1 ⟨rfl,rfl⟩
   clear KP;go_wp2;go_ret;exact⟨⟨A2,rfl,ja T⟩,Below.refl _ _⟩
open Go.RowKit Go.Sort
theorem jbQ (w:World)(b r:Nat)(hb:b<18446744073709551616)(hr:r=b % 9223372036854775808)(h0:0<r)(hi:r<9218868437227405312)(hG:jcF b ⟨#[45]⟩)(hq:IntKind.u64.wrap ((b:Int).tdiv 9223372036854775808)=1/\IntKind.u64.wrap ((b:Int) / 9223372036854775808)=1/\(b:Int) / 9223372036854775808=1) :
  Calls Tryz.prog 42 #[.int .u64 (b:Int)] w fun e w'=>(∃R:ByteArray,e=.returned (.string R)/\jv b R.data.toList)/\Below w.heap.size w w':=by
 obtain⟨e1,e2,e3⟩:=Ji b r hb hr h0 hi;have KO:=jb (ZZ w r h0 hi);have mp:0<jM r:=by unfold jM;split<;>omega
 have TI:∀(U:List UInt8) (d j:Nat) (ten:Int),d % 10≠0->-1080<=ten->Qf r j (d*10 ^ (ten+1080).toNat)->U=sgL b++qo (js d) (((js d).length:Int)+ten)->jv b U:=fun U d j ten hd ht hB hU=>
  .inr (.inr (.inr ⟨e3,by rw [e1];omega,d,j,ten,hd,ht,by rw [<-hr];exact hB,hU⟩))
 have kp:=zQ w b hb;rw [e1,e2,e3] at kp;have rm:(b:Int) % 9223372036854775808=(r:Int):=by omega
 have HI:=jb (And.intro h0 hi);have HTI:=jb TI;obtain⟨m,hm⟩:∃m,m=jM r:=⟨_,rfl⟩
 obtain⟨ex,hex⟩:∃ex:Int,ex=((r / 4503599627370496 - 1:Nat):Int) - 1074:=⟨_,rfl⟩
 rw [<-hm,<-hex] at kp;rw [<-hm] at mp;have m0:((m:Int) == 0)=false:=beq_false_of_ne (by omega);have KP:=jb kp;obtain⟨q1,q2,q3⟩:=hq;have HG:=jb (zR hG).1.symm;have Gs:(⟨#[45]⟩:ByteArray).size=1:=rfl;clear kp TI e1 e2 e3 hr h0 hi hm hex hG
 go_enter Tryz.func42,Tryz.ntmps42
 go_wp2_with fail
 refine(ja KP).mono ?_
 rintro _ w1 ⟨rfl,e1⟩
 rw [e1];clear KP e1
 go_wp2_with fail
 refine(ja KO).mono ?_
 rintro _ w2 ⟨d,ten,rfl,hd10,⟨j,hB⟩,t1,b2⟩
 have h17:=Xv (ja HI).1 hB rfl hd10;have L17:(js d).length<=17:=jO h17 (by decide);have L1:0<(js d).length:=List.length_pos_iff.2 (jJ d).1;have t2:ten<=3000:=by have:=XO (ja HI).2 hB (by omega);omega
 obtain⟨S,hS⟩:∃S:ByteArray,S=⟨(js d).toArray⟩:=⟨_,rfl⟩
 have hSs:S.size=(js d).length:=by rw [hS,zr]
 have hSl:S.data.toList=js d:=by rw [hS]
 rw [<-hS];obtain⟨p,hp⟩:∃p:Int,p=(S.size:Int)+ten:=⟨_,rfl⟩
 have y:IntKind.i64.wrap ((S.size:Int)+ten)=p:=by rw [hp,qq _ (by omega) (by omega)]
 have HTT:=jb (fun(U:List UInt8) (hU:U=sgL b++qo S.data.toList p)=>ja HTI U d j ten hd10 t1 hB (by rw [hU,hSl,hp,hSs]));have p1 : -2000<=p:=by omega
 have p2:p<=4000:=by omega
 have s1:0<S.size:=by omega
 have s2:S.size<=17:=by omega
 have SN:=jb (jj S);have B2:=jb b2;clear KO hB b2 hS hSs hSl hp HTI HI h17 L17 L1 t1 t2 hd10 q1 q2 q3 rm
 by_cases cB : -3<=p/\p<=0
 ·obtain⟨i1,i2⟩:=cB
  obtain⟨n,hn⟩:∃n:Nat,p = -(n:Int):=⟨(-p).toNat,by omega⟩
  have K:=jb (zE w2 n (by omega));obtain⟨Z,hZ⟩:∃Z:ByteArray,Z=qe n:=⟨_,rfl⟩
  have Zs:Z.size=n:=by rw [hZ,qG]
  rw [<-hZ] at K;have y2:IntKind.i64.wrap (-p)=(n:Int):=by rw [qq _ (by omega) (by omega)];omega
  have d1:(⟨#[48,46]⟩:ByteArray).size=2:=rfl;have c1:=jl ⟨#[45]⟩ ⟨#[48,46]⟩ (by rw [Gs,d1];decide);have c2:=jl (⟨#[45]⟩++⟨#[48,46]⟩) Z (by rw [ByteArray.size_append,Gs,d1];omega);have c3:=jl ((⟨#[45]⟩++⟨#[48,46]⟩)++Z) S (by rw [ByteArray.size_append,ByteArray.size_append,Gs,d1];omega)
  have R:=jb (ja HTT (((⟨#[45]⟩++⟨#[48,46]⟩)++Z)++S).data.toList (by
   unfold qo;rw [if_neg (by omega),if_pos i2,jf,jf,jf,ja HG,hZ,zo,show(-p).toNat=n by omega];simp))
  obtain⟨A3,hA3⟩:∃A3,A3=((⟨#[45]⟩++⟨#[48,46]⟩)++Z)++S:=⟨_,rfl⟩
  rw [<-hA3] at c3 R;obtain⟨A2,hA2⟩:∃A2,A2=(⟨#[45]⟩++(⟨#[48,46]⟩:ByteArray))++Z:=⟨_,rfl⟩
  rw [<-hA2] at c2 c3;obtain⟨A1,hA1⟩:∃A1,A1=⟨#[45]⟩++(⟨#[48,46]⟩:ByteArray):=⟨_,rfl⟩
  rw [<-hA1] at c1 c2;clear HTT SN hZ hn d1 hA1 hA2 hA3 HG Gs
  go_wp2_with fail
  refine(ja K).mono ?_
  rintro _ w3 ⟨rfl,b3⟩
  have B3:=jb (jX (ja B2) b3);clear K b3 B2;go_wp2;go_ret;exact⟨⟨A3,rfl,ja R⟩,ja B3⟩
 ·by_cases cC:1<=p/\p<(S.size:Int)
  ·obtain⟨i1,i2⟩:=cC
   have i3:¬p<=0:=by omega
   obtain⟨n,rfl⟩:∃n:Nat,p=(n:Int):=⟨p.toNat,by omega⟩
   obtain⟨F,hF⟩:∃F:ByteArray,S.extract 0 n=F:=⟨_,rfl⟩
   obtain⟨T,hT⟩:∃T:ByteArray,S.extract n S.size=T:=⟨_,rfl⟩
   have Fs:F.size=n:=by rw [<-hF,qt _ _ _ (by omega)];omega
   have Ts:T.size=S.size - n:=by rw [<-hT,qt _ _ _ (by omega)]
   have FL:F.data.toList=S.data.toList.take n:=by rw [<-hF,zP]
   have TL:T.data.toList=S.data.toList.drop n:=by rw [<-hT,JK]
   have d1:(⟨#[46]⟩:ByteArray).size=1:=rfl;have c1:=jl ⟨#[45]⟩ F (by rw [Gs];omega);have c2:=jl (⟨#[45]⟩++F) ⟨#[46]⟩ (by rw [ByteArray.size_append,Gs];omega);have c3:=jl ((⟨#[45]⟩++F)++⟨#[46]⟩) T (by rw [ByteArray.size_append,ByteArray.size_append,Gs];omega)
   have R:=jb (ja HTT (((⟨#[45]⟩++F)++⟨#[46]⟩)++T).data.toList (by
    unfold qo;rw [if_neg (by omega),if_neg i3,ja SN,if_pos i2,jf,jf,jf,ja HG,FL,TL,Int.toNat_natCast];simp))
   have q0:(0:Int)<=(n:Int):=by omega
   have q1:(n:Int)<=(S.size:Int):=by omega
   obtain⟨A3,hA3⟩:∃A3,A3=((⟨#[45]⟩++F)++⟨#[46]⟩)++T:=⟨_,rfl⟩
   rw [<-hA3] at c3 R;obtain⟨A2,hA2⟩:∃A2,A2=(⟨#[45]⟩++F)++(⟨#[46]⟩:ByteArray):=⟨_,rfl⟩
   rw [<-hA2] at c2 c3;obtain⟨A1,hA1⟩:∃A1,A1=⟨#[45]⟩++F:=⟨_,rfl⟩
   rw [<-hA1] at c1 c2;clear HTT SN d1 hA1 hA2 hA3 HG Gs cB FL TL Fs Ts
   go_wp2_with fail
   go_quiet (fail)
   go_wp2;go_ret;exact⟨⟨A3,rfl,ja R⟩,below_drewN (ja B2) _⟩
  ·by_cases cD:(S.size:Int)<=p/\p<=17
   ·obtain⟨i1,i2⟩:=cD
    have i3:¬p<=0:=by omega
    have i4:¬p<(S.size:Int):=by omega
    obtain⟨n,hn⟩:∃n:Nat,p - (S.size:Int)=(n:Int):=⟨(p - (S.size:Int)).toNat,by omega⟩
    have K:=jb (zE w2 n (by omega));obtain⟨Z,hZ⟩:∃Z:ByteArray,Z=qe n:=⟨_,rfl⟩
    have Zs:Z.size=n:=by rw [hZ,qG]
    rw [<-hZ] at K;have y2:IntKind.i64.wrap (p - (S.size:Int))=(n:Int):=by rw [qq _ (by omega) (by omega)];omega
    have d1:(⟨#[46,48]⟩:ByteArray).size=2:=rfl;have c1:=jl ⟨#[45]⟩ S (by rw [Gs];omega);have c2:=jl (⟨#[45]⟩++S) Z (by rw [ByteArray.size_append,Gs];omega);have c3:=jl ((⟨#[45]⟩++S)++Z) ⟨#[46,48]⟩ (by rw [ByteArray.size_append,ByteArray.size_append,Gs,d1];omega)
    have R:=jb (ja HTT (((⟨#[45]⟩++S)++Z)++⟨#[46,48]⟩).data.toList (by
     unfold qo;rw [if_neg (by omega),if_neg i3,ja SN,if_neg i4,jf,jf,jf,ja HG,hZ,zo,hn,Int.toNat_natCast];simp))
    obtain⟨A3,hA3⟩:∃A3,A3=((⟨#[45]⟩++S)++Z)++⟨#[46,48]⟩:=⟨_,rfl⟩
    rw [<-hA3] at c3 R;obtain⟨A2,hA2⟩:∃A2,A2=(⟨#[45]⟩++S)++Z:=⟨_,rfl⟩
    rw [<-hA2] at c2 c3;obtain⟨A1,hA1⟩:∃A1,A1=⟨#[45]⟩++S:=⟨_,rfl⟩
    rw [<-hA1] at c1 c2;have j1:(1:Int)<=p:=by omega
    clear HTT SN hZ hn d1 hA1 hA2 hA3 HG Gs cB cC
    go_wp2_with fail
    refine(ja K).mono ?_
    rintro _ w3 ⟨rfl,b3⟩
    have B3:=jb (jX (ja B2) b3);clear K b3 B2;go_wp2;go_ret;exact⟨⟨A3,rfl,ja R⟩,ja B3⟩
   ·have far:p < -3\/17<p:=by omega
    obtain⟨x,hx⟩:∃x:Int,x=p - 1:=⟨_,rfl⟩
    have y2:IntKind.i64.wrap (p - 1)=x:=by rw [hx,qq _ (by omega) (by omega)]
    have K:=jb (Z6 w2 x (by omega) (by omega));have il:=Qs x (by omega) (by omega);obtain⟨F,hF⟩:∃F:ByteArray,S.extract 0 1=F:=⟨_,rfl⟩
    obtain⟨T,hT⟩:∃T:ByteArray,S.extract 1 S.size=T:=⟨_,rfl⟩
    have Fs:F.size=1:=by rw [<-hF,qt _ _ _ (by omega)]
    have Ts:T.size=S.size - 1:=by rw [<-hT,qt _ _ _ (by omega)]
    have FL:F.data.toList=S.data.toList.take 1:=by rw [<-hF,zP]
    have TL:T.data.toList=S.data.toList.drop 1:=by rw [<-hT,JK]
    have q0:(1:Int)<=(S.size:Int):=by omega
    have d1:(⟨#[46]⟩:ByteArray).size=1:=rfl;have d2:(⟨#[101]⟩:ByteArray).size=1:=rfl;have c1:=jl ⟨#[45]⟩ F (by rw [Gs];omega);have c2:=jl ⟨#[46]⟩ T (by omega);have c3:=jl (⟨#[45]⟩++F) (⟨#[46]⟩++T) (by rw [ByteArray.size_append,ByteArray.size_append,Gs];omega);have c4:=jl ((⟨#[45]⟩++F)++(⟨#[46]⟩++T)) ⟨#[101]⟩ (by rw [ByteArray.size_append,ByteArray.size_append,ByteArray.size_append,Gs];omega);have c5:∀I:ByteArray,I.size<=10->∀u:World,_:=fun I hI=>jl (((⟨#[45]⟩++F)++(⟨#[46]⟩++T))++⟨#[101]⟩) I (by rw [ByteArray.size_append,ByteArray.size_append,ByteArray.size_append,ByteArray.size_append,Gs];omega)
    have c6:=jl (⟨#[45]⟩++F) ⟨#[101]⟩ (by rw [ByteArray.size_append,Gs];omega);have c7:∀I:ByteArray,I.size<=10->∀u:World,_:=fun I hI=>jl ((⟨#[45]⟩++F)++⟨#[101]⟩) I (by rw [ByteArray.size_append,ByteArray.size_append,Gs];omega)
    have R1:Hid (∀I:ByteArray,I.data.toList=Lib.itoa x->S.size≠1->jv b ((((⟨#[45]⟩++F)++(⟨#[46]⟩++T))++⟨#[101]⟩)++I).data.toList):=jb (fun I hI hn=>ja HTT _ (by
     have hne:S.data.toList.drop 1≠[]:=fun e=>by
      have:=congrArg List.length e;rw [List.length_drop,ja SN] at this;simp at this;omega
     unfold qo Qg;rw [if_pos far,if_neg hne,jf,jf,jf,jf,jf,ja HG,hI,FL,TL,<-hx];simp))
    have R2:Hid (∀I:ByteArray,I.data.toList=Lib.itoa x->S.size=1->jv b (((⟨#[45]⟩++F)++⟨#[101]⟩)++I).data.toList):=jb (fun I hI hn=>ja HTT _ (by
     have he:S.data.toList.drop 1=[]:=List.eq_nil_of_length_eq_zero (by rw [List.length_drop,ja SN];omega);unfold qo Qg;rw [if_pos far,if_pos he,jf,jf,jf,ja HG,hI,FL,<-hx];simp))
    obtain⟨A4,hA4⟩:∃A4,A4=((⟨#[45]⟩++F)++(⟨#[46]⟩++T))++(⟨#[101]⟩:ByteArray):=⟨_,rfl⟩
    rw [<-hA4] at c4 c5 R1;obtain⟨A6,hA6⟩:∃A6,A6=(⟨#[45]⟩++F)++(⟨#[101]⟩:ByteArray):=⟨_,rfl⟩
    rw [<-hA6] at c6 c7 R2;obtain⟨A3,hA3⟩:∃A3,A3=(⟨#[45]⟩++F)++((⟨#[46]⟩:ByteArray)++T):=⟨_,rfl⟩
    rw [<-hA3] at c3 c4;obtain⟨A2,hA2⟩:∃A2,A2=(⟨#[46]⟩:ByteArray)++T:=⟨_,rfl⟩
    rw [<-hA2] at c2 c3;obtain⟨A1,hA1⟩:∃A1,A1=⟨#[45]⟩++F:=⟨_,rfl⟩
    rw [<-hA1] at c1 c3 c6;have HIL:=jb il;have C5:=jb c5;have C7:=jb c7;clear HTT SN d1 d2 hA1 hA2 hA3 hA4 hA6 HG Gs FL TL Fs Ts il c5 c7 hx
    by_cases one:S.size=1
    ·have i1:¬(S.size:Int) > 1:=by omega
     rcases far with f | f
     ·have g1:¬-3<=p:=by omega
      have g2:¬(1:Int)<=p:=by omega
      have g3:¬(S.size:Int)<=p:=by omega
      have OO:=jb one;clear one cB cC cD f
      go_wp2_with fail
      refine(ja K).mono ?_
      rintro _ w3 ⟨⟨I,rfl,hI⟩,b3⟩
      have I10:I.size<=10:=by rw [<-jj,hI];exact ja HIL
      have c8:=ja C7 I I10;have R:=jb (ja R2 I hI (ja OO));have B3:=jb (jX (ja B2) b3);obtain⟨A9,hA9⟩:∃A9,A9=A6++I:=⟨_,rfl⟩
      rw [<-hA9] at c8 R;clear K b3 B2 R1 R2 C5 C7 hI hA9 I10 OO HIL;go_wp2;go_ret;exact⟨⟨A9,rfl,ja R⟩,ja B3⟩
     ·have g0 : -3<=p:=by omega
      have g1:¬p<=0:=by omega
      have g2:(1:Int)<=p:=by omega
      have g3:(S.size:Int)<=p:=by omega
      have g4:¬p<(S.size:Int):=by omega
      have g5:¬p<=17:=by omega
      have OO:=jb one;clear one cB cC cD f
      go_wp2_with fail
      refine(ja K).mono ?_
      rintro _ w3 ⟨⟨I,rfl,hI⟩,b3⟩
      have I10:I.size<=10:=by rw [<-jj,hI];exact ja HIL
      have c8:=ja C7 I I10;have R:=jb (ja R2 I hI (ja OO));have B3:=jb (jX (ja B2) b3);obtain⟨A9,hA9⟩:∃A9,A9=A6++I:=⟨_,rfl⟩
      rw [<-hA9] at c8 R;clear K b3 B2 R1 R2 C5 C7 hI hA9 I10 OO HIL;go_wp2;go_ret;exact⟨⟨A9,rfl,ja R⟩,ja B3⟩
    ·have i1:(S.size:Int) > 1:=by omega
     rcases far with f | f
     ·have g1:¬-3<=p:=by omega
      have g2:¬(1:Int)<=p:=by omega
      have g3:¬(S.size:Int)<=p:=by omega
      have OO:=jb one;clear one cB cC cD f
      go_wp2_with fail
      refine(ja K).mono ?_
      rintro _ w3 ⟨⟨I,rfl,hI⟩,b3⟩
      have I10:I.size<=10:=by rw [<-jj,hI];exact ja HIL
      have c8:=ja C5 I I10;have R:=jb (ja R1 I hI (ja OO));have B3:=jb (jX (ja B2) b3);obtain⟨A9,hA9⟩:∃A9,A9=A4++I:=⟨_,rfl⟩
      rw [<-hA9] at c8 R;clear K b3 B2 R1 R2 C5 C7 hI hA9 I10 OO HIL;go_wp2;go_ret;exact⟨⟨A9,rfl,ja R⟩,ja B3⟩
     ·have g0 : -3<=p:=by omega
      have g1:¬p<=0:=by omega
      have g2:(1:Int)<=p:=by omega
      have g3:(S.size:Int)<=p:=by omega
      have g4:¬p<(S.size:Int):=by omega
      have g5:¬p<=17:=by omega
      have OO:=jb one;clear one cB cC cD f
      go_wp2_with fail
      refine(ja K).mono ?_
      rintro _ w3 ⟨⟨I,rfl,hI⟩,b3⟩
      have I10:I.size<=10:=by rw [<-jj,hI];exact ja HIL
      have c8:=ja C5 I I10;have R:=jb (ja R1 I hI (ja OO));have B3:=jb (jX (ja B2) b3);obtain⟨A9,hA9⟩:∃A9,A9=A4++I:=⟨_,rfl⟩
      rw [<-hA9] at c8 R;clear K b3 B2 R1 R2 C5 C7 hI hA9 I10 OO HIL;go_wp2;go_ret;exact⟨⟨A9,rfl,ja R⟩,ja B3⟩
theorem jbG (w:World)(b r:Nat)(hb:b<18446744073709551616)(hr:r=b % 9223372036854775808)(h0:0<r)(hi:r<9218868437227405312)(hG:jcF b ⟨#[]⟩)(hq:IntKind.u64.wrap ((b:Int).tdiv 9223372036854775808)=0/\IntKind.u64.wrap ((b:Int) / 9223372036854775808)=0/\(b:Int) / 9223372036854775808=0) :
  Calls Tryz.prog 42 #[.int .u64 (b:Int)] w fun e w'=>(∃R:ByteArray,e=.returned (.string R)/\jv b R.data.toList)/\Below w.heap.size w w':=by
 obtain⟨e1,e2,e3⟩:=Ji b r hb hr h0 hi;have KO:=jb (ZZ w r h0 hi);have mp:0<jM r:=by unfold jM;split<;>omega
 have TI:∀(U:List UInt8) (d j:Nat) (ten:Int),d % 10≠0->-1080<=ten->Qf r j (d*10 ^ (ten+1080).toNat)->U=sgL b++qo (js d) (((js d).length:Int)+ten)->jv b U:=fun U d j ten hd ht hB hU=>
  .inr (.inr (.inr ⟨e3,by rw [e1];omega,d,j,ten,hd,ht,by rw [<-hr];exact hB,hU⟩))
 have kp:=zQ w b hb;rw [e1,e2,e3] at kp;have rm:(b:Int) % 9223372036854775808=(r:Int):=by omega
 have HI:=jb (And.intro h0 hi);have HTI:=jb TI;obtain⟨m,hm⟩:∃m,m=jM r:=⟨_,rfl⟩
 obtain⟨ex,hex⟩:∃ex:Int,ex=((r / 4503599627370496 - 1:Nat):Int) - 1074:=⟨_,rfl⟩
 rw [<-hm,<-hex] at kp;rw [<-hm] at mp;have m0:((m:Int) == 0)=false:=beq_false_of_ne (by omega);have KP:=jb kp;obtain⟨q1,q2,q3⟩:=hq;have HG:=jb (zR hG).1.symm;have Gs:(⟨#[]⟩:ByteArray).size=0:=rfl;clear kp TI e1 e2 e3 hr h0 hi hm hex hG
 go_enter Tryz.func42,Tryz.ntmps42
 go_wp2_with fail
 refine(ja KP).mono ?_
 rintro _ w1 ⟨rfl,e1⟩
 rw [e1];clear KP e1
 go_wp2_with fail
 refine(ja KO).mono ?_
 rintro _ w2 ⟨d,ten,rfl,hd10,⟨j,hB⟩,t1,b2⟩
 have h17:=Xv (ja HI).1 hB rfl hd10;have L17:(js d).length<=17:=jO h17 (by decide);have L1:0<(js d).length:=List.length_pos_iff.2 (jJ d).1;have t2:ten<=3000:=by have:=XO (ja HI).2 hB (by omega);omega
 obtain⟨S,hS⟩:∃S:ByteArray,S=⟨(js d).toArray⟩:=⟨_,rfl⟩
 have hSs:S.size=(js d).length:=by rw [hS,zr]
 have hSl:S.data.toList=js d:=by rw [hS]
 rw [<-hS];obtain⟨p,hp⟩:∃p:Int,p=(S.size:Int)+ten:=⟨_,rfl⟩
 have y:IntKind.i64.wrap ((S.size:Int)+ten)=p:=by rw [hp,qq _ (by omega) (by omega)]
 have HTT:=jb (fun(U:List UInt8) (hU:U=sgL b++qo S.data.toList p)=>ja HTI U d j ten hd10 t1 hB (by rw [hU,hSl,hp,hSs]));have p1 : -2000<=p:=by omega
 have p2:p<=4000:=by omega
 have s1:0<S.size:=by omega
 have s2:S.size<=17:=by omega
 have SN:=jb (jj S);have B2:=jb b2;clear KO hB b2 hS hSs hSl hp HTI HI h17 L17 L1 t1 t2 hd10 q1 q2 q3 rm
 by_cases cB : -3<=p/\p<=0
 ·obtain⟨i1,i2⟩:=cB
  obtain⟨n,hn⟩:∃n:Nat,p = -(n:Int):=⟨(-p).toNat,by omega⟩
  have K:=jb (zE w2 n (by omega));obtain⟨Z,hZ⟩:∃Z:ByteArray,Z=qe n:=⟨_,rfl⟩
  have Zs:Z.size=n:=by rw [hZ,qG]
  rw [<-hZ] at K;have y2:IntKind.i64.wrap (-p)=(n:Int):=by rw [qq _ (by omega) (by omega)];omega
  have d1:(⟨#[48,46]⟩:ByteArray).size=2:=rfl;have c1:=jl ⟨#[]⟩ ⟨#[48,46]⟩ (by rw [Gs,d1];decide);have c2:=jl (⟨#[]⟩++⟨#[48,46]⟩) Z (by rw [ByteArray.size_append,Gs,d1];omega);have c3:=jl ((⟨#[]⟩++⟨#[48,46]⟩)++Z) S (by rw [ByteArray.size_append,ByteArray.size_append,Gs,d1];omega)
  have R:=jb (ja HTT (((⟨#[]⟩++⟨#[48,46]⟩)++Z)++S).data.toList (by
   unfold qo;rw [if_neg (by omega),if_pos i2,jf,jf,jf,ja HG,hZ,zo,show(-p).toNat=n by omega];simp))
  obtain⟨A3,hA3⟩:∃A3,A3=((⟨#[]⟩++⟨#[48,46]⟩)++Z)++S:=⟨_,rfl⟩
  rw [<-hA3] at c3 R;obtain⟨A2,hA2⟩:∃A2,A2=(⟨#[]⟩++(⟨#[48,46]⟩:ByteArray))++Z:=⟨_,rfl⟩
  rw [<-hA2] at c2 c3;obtain⟨A1,hA1⟩:∃A1,A1=⟨#[]⟩++(⟨#[48,46]⟩:ByteArray):=⟨_,rfl⟩
  rw [<-hA1] at c1 c2;clear HTT SN hZ hn d1 hA1 hA2 hA3 HG Gs
  go_wp2_with fail
  refine(ja K).mono ?_
  rintro _ w3 ⟨rfl,b3⟩
  have B3:=jb (jX (ja B2) b3);clear K b3 B2;go_wp2;go_ret;exact⟨⟨A3,rfl,ja R⟩,ja B3⟩
 ·by_cases cC:1<=p/\p<(S.size:Int)
  ·obtain⟨i1,i2⟩:=cC
   have i3:¬p<=0:=by omega
   obtain⟨n,rfl⟩:∃n:Nat,p=(n:Int):=⟨p.toNat,by omega⟩
   obtain⟨F,hF⟩:∃F:ByteArray,S.extract 0 n=F:=⟨_,rfl⟩
   obtain⟨T,hT⟩:∃T:ByteArray,S.extract n S.size=T:=⟨_,rfl⟩
   have Fs:F.size=n:=by rw [<-hF,qt _ _ _ (by omega)];omega
   have Ts:T.size=S.size - n:=by rw [<-hT,qt _ _ _ (by omega)]
   have FL:F.data.toList=S.data.toList.take n:=by rw [<-hF,zP]
   have TL:T.data.toList=S.data.toList.drop n:=by rw [<-hT,JK]
   have d1:(⟨#[46]⟩:ByteArray).size=1:=rfl;have c1:=jl ⟨#[]⟩ F (by rw [Gs];omega);have c2:=jl (⟨#[]⟩++F) ⟨#[46]⟩ (by rw [ByteArray.size_append,Gs];omega);have c3:=jl ((⟨#[]⟩++F)++⟨#[46]⟩) T (by rw [ByteArray.size_append,ByteArray.size_append,Gs];omega)
   have R:=jb (ja HTT (((⟨#[]⟩++F)++⟨#[46]⟩)++T).data.toList (by
    unfold qo;rw [if_neg (by omega),if_neg i3,ja SN,if_pos i2,jf,jf,jf,ja HG,FL,TL,Int.toNat_natCast];simp))
   have q0:(0:Int)<=(n:Int):=by omega
   have q1:(n:Int)<=(S.size:Int):=by omega
   obtain⟨A3,hA3⟩:∃A3,A3=((⟨#[]⟩++F)++⟨#[46]⟩)++T:=⟨_,rfl⟩
   rw [<-hA3] at c3 R;obtain⟨A2,hA2⟩:∃A2,A2=(⟨#[]⟩++F)++(⟨#[46]⟩:ByteArray):=⟨_,rfl⟩
   rw [<-hA2] at c2 c3;obtain⟨A1,hA1⟩:∃A1,A1=⟨#[]⟩++F:=⟨_,rfl⟩
   rw [<-hA1] at c1 c2;clear HTT SN d1 hA1 hA2 hA3 HG Gs cB FL TL Fs Ts
   go_wp2_with fail
   go_quiet (fail)
   go_wp2;go_ret;exact⟨⟨A3,rfl,ja R⟩,below_drewN (ja B2) _⟩
  ·by_cases cD:(S.size:Int)<=p/\p<=17
   ·obtain⟨i1,i2⟩:=cD
    have i3:¬p<=0:=by omega
    have i4:¬p<(S.size:Int):=by omega
    obtain⟨n,hn⟩:∃n:Nat,p - (S.size:Int)=(n:Int):=⟨(p - (S.size:Int)).toNat,by omega⟩
    have K:=jb (zE w2 n (by omega));obtain⟨Z,hZ⟩:∃Z:ByteArray,Z=qe n:=⟨_,rfl⟩
    have Zs:Z.size=n:=by rw [hZ,qG]
    rw [<-hZ] at K;have y2:IntKind.i64.wrap (p - (S.size:Int))=(n:Int):=by rw [qq _ (by omega) (by omega)];omega
    have d1:(⟨#[46,48]⟩:ByteArray).size=2:=rfl;have c1:=jl ⟨#[]⟩ S (by rw [Gs];omega);have c2:=jl (⟨#[]⟩++S) Z (by rw [ByteArray.size_append,Gs];omega);have c3:=jl ((⟨#[]⟩++S)++Z) ⟨#[46,48]⟩ (by rw [ByteArray.size_append,ByteArray.size_append,Gs,d1];omega)
    have R:=jb (ja HTT (((⟨#[]⟩++S)++Z)++⟨#[46,48]⟩).data.toList (by
     unfold qo;rw [if_neg (by omega),if_neg i3,ja SN,if_neg i4,jf,jf,jf,ja HG,hZ,zo,hn,Int.toNat_natCast];simp))
    obtain⟨A3,hA3⟩:∃A3,A3=((⟨#[]⟩++S)++Z)++⟨#[46,48]⟩:=⟨_,rfl⟩
    rw [<-hA3] at c3 R;obtain⟨A2,hA2⟩:∃A2,A2=(⟨#[]⟩++S)++Z:=⟨_,rfl⟩
    rw [<-hA2] at c2 c3;obtain⟨A1,hA1⟩:∃A1,A1=⟨#[]⟩++S:=⟨_,rfl⟩
    rw [<-hA1] at c1 c2;have j1:(1:Int)<=p:=by omega
    clear HTT SN hZ hn d1 hA1 hA2 hA3 HG Gs cB cC
    go_wp2_with fail
    refine(ja K).mono ?_
    rintro _ w3 ⟨rfl,b3⟩
    have B3:=jb (jX (ja B2) b3);clear K b3 B2;go_wp2;go_ret;exact⟨⟨A3,rfl,ja R⟩,ja B3⟩
   ·have far:p < -3\/17<p:=by omega
    obtain⟨x,hx⟩:∃x:Int,x=p - 1:=⟨_,rfl⟩
    have y2:IntKind.i64.wrap (p - 1)=x:=by rw [hx,qq _ (by omega) (by omega)]
    have K:=jb (Z6 w2 x (by omega) (by omega));have il:=Qs x (by omega) (by omega);obtain⟨F,hF⟩:∃F:ByteArray,S.extract 0 1=F:=⟨_,rfl⟩
    obtain⟨T,hT⟩:∃T:ByteArray,S.extract 1 S.size=T:=⟨_,rfl⟩
    have Fs:F.size=1:=by rw [<-hF,qt _ _ _ (by omega)]
    have Ts:T.size=S.size - 1:=by rw [<-hT,qt _ _ _ (by omega)]
    have FL:F.data.toList=S.data.toList.take 1:=by rw [<-hF,zP]
    have TL:T.data.toList=S.data.toList.drop 1:=by rw [<-hT,JK]
    have q0:(1:Int)<=(S.size:Int):=by omega
    have d1:(⟨#[46]⟩:ByteArray).size=1:=rfl;have d2:(⟨#[101]⟩:ByteArray).size=1:=rfl;have c1:=jl ⟨#[]⟩ F (by rw [Gs];omega);have c2:=jl ⟨#[46]⟩ T (by omega);have c3:=jl (⟨#[]⟩++F) (⟨#[46]⟩++T) (by rw [ByteArray.size_append,ByteArray.size_append,Gs];omega);have c4:=jl ((⟨#[]⟩++F)++(⟨#[46]⟩++T)) ⟨#[101]⟩ (by rw [ByteArray.size_append,ByteArray.size_append,ByteArray.size_append,Gs];omega);have c5:∀I:ByteArray,I.size<=10->∀u:World,_:=fun I hI=>jl (((⟨#[]⟩++F)++(⟨#[46]⟩++T))++⟨#[101]⟩) I (by rw [ByteArray.size_append,ByteArray.size_append,ByteArray.size_append,ByteArray.size_append,Gs];omega)
    have c6:=jl (⟨#[]⟩++F) ⟨#[101]⟩ (by rw [ByteArray.size_append,Gs];omega);have c7:∀I:ByteArray,I.size<=10->∀u:World,_:=fun I hI=>jl ((⟨#[]⟩++F)++⟨#[101]⟩) I (by rw [ByteArray.size_append,ByteArray.size_append,Gs];omega)
    have R1:Hid (∀I:ByteArray,I.data.toList=Lib.itoa x->S.size≠1->jv b ((((⟨#[]⟩++F)++(⟨#[46]⟩++T))++⟨#[101]⟩)++I).data.toList):=jb (fun I hI hn=>ja HTT _ (by
     have hne:S.data.toList.drop 1≠[]:=fun e=>by
      have:=congrArg List.length e;rw [List.length_drop,ja SN] at this;simp at this;omega
     unfold qo Qg;rw [if_pos far,if_neg hne,jf,jf,jf,jf,jf,ja HG,hI,FL,TL,<-hx];simp))
    have R2:Hid (∀I:ByteArray,I.data.toList=Lib.itoa x->S.size=1->jv b (((⟨#[]⟩++F)++⟨#[101]⟩)++I).data.toList):=jb (fun I hI hn=>ja HTT _ (by
     have he:S.data.toList.drop 1=[]:=List.eq_nil_of_length_eq_zero (by rw [List.length_drop,ja SN];omega);unfold qo Qg;rw [if_pos far,if_pos he,jf,jf,jf,ja HG,hI,FL,<-hx];simp))
    obtain⟨A4,hA4⟩:∃A4,A4=((⟨#[]⟩++F)++(⟨#[46]⟩++T))++(⟨#[101]⟩:ByteArray):=⟨_,rfl⟩
    rw [<-hA4] at c4 c5 R1;obtain⟨A6,hA6⟩:∃A6,A6=(⟨#[]⟩++F)++(⟨#[101]⟩:ByteArray):=⟨_,rfl⟩
    rw [<-hA6] at c6 c7 R2;obtain⟨A3,hA3⟩:∃A3,A3=(⟨#[]⟩++F)++((⟨#[46]⟩:ByteArray)++T):=⟨_,rfl⟩
    rw [<-hA3] at c3 c4;obtain⟨A2,hA2⟩:∃A2,A2=(⟨#[46]⟩:ByteArray)++T:=⟨_,rfl⟩
    rw [<-hA2] at c2 c3;obtain⟨A1,hA1⟩:∃A1,A1=⟨#[]⟩++F:=⟨_,rfl⟩
    rw [<-hA1] at c1 c3 c6;have HIL:=jb il;have C5:=jb c5;have C7:=jb c7;clear HTT SN d1 d2 hA1 hA2 hA3 hA4 hA6 HG Gs FL TL Fs Ts il c5 c7 hx
    by_cases one:S.size=1
    ·have i1:¬(S.size:Int) > 1:=by omega
     rcases far with f | f
     ·have g1:¬-3<=p:=by omega
      have g2:¬(1:Int)<=p:=by omega
      have g3:¬(S.size:Int)<=p:=by omega
      have OO:=jb one;clear one cB cC cD f
      go_wp2_with fail
      refine(ja K).mono ?_
      rintro _ w3 ⟨⟨I,rfl,hI⟩,b3⟩
      have I10:I.size<=10:=by rw [<-jj,hI];exact ja HIL
      have c8:=ja C7 I I10;have R:=jb (ja R2 I hI (ja OO));have B3:=jb (jX (ja B2) b3);obtain⟨A9,hA9⟩:∃A9,A9=A6++I:=⟨_,rfl⟩
      rw [<-hA9] at c8 R;clear K b3 B2 R1 R2 C5 C7 hI hA9 I10 OO HIL;go_wp2;go_ret;exact⟨⟨A9,rfl,ja R⟩,ja B3⟩
     ·have g0 : -3<=p:=by omega
      have g1:¬p<=0:=by omega
      have g2:(1:Int)<=p:=by omega
      have g3:(S.size:Int)<=p:=by omega
      have g4:¬p<(S.size:Int):=by omega
      have g5:¬p<=17:=by omega
      have OO:=jb one;clear one cB cC cD f
      go_wp2_with fail
      refine(ja K).mono ?_
      rintro _ w3 ⟨⟨I,rfl,hI⟩,b3⟩
      have I10:I.size<=10:=by rw [<-jj,hI];exact ja HIL
      have c8:=ja C7 I I10;have R:=jb (ja R2 I hI (ja OO));have B3:=jb (jX (ja B2) b3);obtain⟨A9,hA9⟩:∃A9,A9=A6++I:=⟨_,rfl⟩
      rw [<-hA9] at c8 R;clear K b3 B2 R1 R2 C5 C7 hI hA9 I10 OO HIL;go_wp2;go_ret;exact⟨⟨A9,rfl,ja R⟩,ja B3⟩
    ·have i1:(S.size:Int) > 1:=by omega
     rcases far with f | f
     ·have g1:¬-3<=p:=by omega
      have g2:¬(1:Int)<=p:=by omega
      have g3:¬(S.size:Int)<=p:=by omega
      have OO:=jb one;clear one cB cC cD f
      go_wp2_with fail
      refine(ja K).mono ?_
      rintro _ w3 ⟨⟨I,rfl,hI⟩,b3⟩
      have I10:I.size<=10:=by rw [<-jj,hI];exact ja HIL
      have c8:=ja C5 I I10;have R:=jb (ja R1 I hI (ja OO));have B3:=jb (jX (ja B2) b3);obtain⟨A9,hA9⟩:∃A9,A9=A4++I:=⟨_,rfl⟩
      rw [<-hA9] at c8 R;clear K b3 B2 R1 R2 C5 C7 hI hA9 I10 OO HIL;go_wp2;go_ret;exact⟨⟨A9,rfl,ja R⟩,ja B3⟩
     ·have g0 : -3<=p:=by omega
      have g1:¬p<=0:=by omega
      have g2:(1:Int)<=p:=by omega
      have g3:(S.size:Int)<=p:=by omega
      have g4:¬p<(S.size:Int):=by omega
      have g5:¬p<=17:=by omega
      have OO:=jb one;clear one cB cC cD f
      go_wp2_with fail
      refine(ja K).mono ?_
      rintro _ w3 ⟨⟨I,rfl,hI⟩,b3⟩
      have I10:I.size<=10:=by rw [<-jj,hI];exact ja HIL
      have c8:=ja C5 I I10;have R:=jb (ja R1 I hI (ja OO));have B3:=jb (jX (ja B2) b3);obtain⟨A9,hA9⟩:∃A9,A9=A4++I:=⟨_,rfl⟩
      rw [<-hA9] at c8 R;clear K b3 B2 R1 R2 C5 C7 hI hA9 I10 OO HIL;go_wp2;go_ret;exact⟨⟨A9,rfl,ja R⟩,ja B3⟩
theorem jg3 (w:World)(b:Nat)(hb:b<18446744073709551616) :
  Calls Tryz.prog 42 #[.int .u64 (b:Int)] w fun e w'=>(∃R:ByteArray,e=.returned (.string R)/\jv b R.data.toList)/\Below w.heap.size w w':=by
 rcases X7 b hb with ⟨kd,h1,h2⟩ | ⟨h1,h2⟩
 ·exact jeg w b kd hb h1 h2
 ·by_cases sg:9223372036854775808<=b
  ·exact jbQ w b _ hb rfl h1 h2 (.inl ⟨sg,rfl⟩) (XD b hb 1 (.inl ⟨sg,rfl⟩))
  ·exact jbG w b _ hb rfl h1 h2 (.inr ⟨by omega,rfl⟩) (XD b hb 0 (.inr ⟨by omega,rfl⟩))
end bigs
end Go.Proofs.YtnbfnjhbmeocfaaGreatDoor
