/- Of our texts, what this claim reaches. -/
import Derived.Test.YtnbfnjhbmeocfabGreatDoorPsaAX
import Derived.Test.YtnbfnjhbmeocfabGreatDoorPsaAH
import Derived.Lib.AppendIntMem
import Derived.Lib.Walk
import Derived.BigCall
import Derived.BigGuard
import Derived.Test.YtnbfnjhbmeocfabGreatDoorPsaAV
import Derived.Deep.CutRange
import Derived.Test.YtnbfnjhbmeocfabGreatDoorPsaAU
import Derived.Laws.BytesString
import Derived.Laws.Cells
import Derived.Laws.BitsAllLaws
import Derived.Test.YtnbfnjhbmeocfabGreatDoorPsaAR
import Derived.Deep.QuietTactic
import Derived.BigQuiet
import Derived.Deep.RegionWith
set_option linter.unusedVariables false
set_option maxHeartbeats 8000000
set_option maxRecDepth 100000
namespace Go.Proofs.YtnbfnjhbmeocfabGreatDoor
namespace bigs
open Go.RowKit Go.Sort
theorem jfQ (w:World)(u:Nat)(hu64:u<18446744073709551616)(htab:Lib.TabIs Tryz.prog w "internal/strconv.uint64pow10" .u64 Lib.pow10Tab) :
  Calls Tryz.prog 193 #[.int .u64 u,.int .i64 10] w fun e w'=>e=.returned (.string ⟨(Lib.decDigits u).toArray⟩)/\Below w.heap.size w w':=by
 by_cases hs:u<100
 ·have K:=jd (Tryz.internal_strconv_small u hs w)
  have iu:(u:Int)<100:=by omega
  go_enter Tryz.func193,Tryz.ntmps193
  go_wp2_with fail
  refine(ja K).mono ?_
  rintro e w' ⟨rfl,rfl⟩
  go_wp2;go_ret;exact⟨rfl,Below.refl _ _⟩
 ·have hu1:1<=u:=by omega
  have iu:¬(u:Int)<100:=by omega
  have hnd20:Lib.nDigits u<=20:=by have:=Lib.numDigits_eq u hu1 hu64;split at this<;>omega
  have hsl:∀W,(Instr.sliceAt 230 (.pointer (some ⟨w.heap.size,0,none⟩)) none (some (.int .i64 (Lib.nDigits u:Int))) none).run Tryz.prog W=.ok (.slice (some ⟨w.heap.size,0,none⟩) (Lib.nDigits u) 24) W:=fun W=>by
   have hal:(Tryz.prog).arrayLen 230=24:=by simp [Program.arrayLen,Tryz.underlying230]
   rw [run_sliceAt_array_h W 230 ⟨w.heap.size,0,none⟩ (by simp [Program.arrayLen,Program.elem,Tryz.underlying230]) .i64 (Lib.nDigits u:Int) (by omega) (by rw [hal];omega)]
   go_simp
  have hH0:=Lib.holds_zero0 w 230 (Lib.nDigits u) (by omega);have hfmt:=Tryz.internal_strconv_formatBase10 w.heap.size 0 24 u (Array.replicate (Lib.nDigits u) 0) (w.alloc (.cells Lib.zeros24 230)) hH0 (by rw [Array.size_replicate];exact Lib.lt_pow_nDigits u) hu64 (by rw [Array.size_replicate];omega);rw [Array.size_replicate] at hfmt;have HF:=jd hfmt;have HH0:=jd hH0;have KD:=jd (Tryz.internal_strconv_numDigits u hu1 hu64 (w.alloc (.cells Lib.zeros24 230)) (Lib.tabIs_alloc htab _));clear hH0 hfmt
  go_enter Tryz.func193,Tryz.ntmps193
  go_wp2_with fail
  refine(ja KD).mono ?_
  rintro e w' ⟨rfl,rfl⟩
  go_wp2_with fail
  refine(ja HF).mono ?_
  rintro e w' ⟨rfl,k,v',dk,rfl,hF⟩
  have hcv:(convert 56 9 (.slice (some ⟨w.heap.size,0,none⟩) (Lib.nDigits u) 24)).run Tryz.prog ((putRow (fun(b:UInt8)=>Value.int .u8 (b.toNat:Int)) (w.alloc (.cells Lib.zeros24 230)) w.heap.size 0 dk).drewN k)=.ok (.string ⟨(Lib.decDigits u).toArray⟩) ((putRow (fun(b:UInt8)=>Value.int .u8 (b.toNat:Int)) (w.alloc (.cells Lib.zeros24 230)) w.heap.size 0 dk).drewN k):=by
   have h:=run_convert_bytes_back (P:=Tryz.prog) ((putRow (fun(b:UInt8)=>Value.int .u8 (b.toNat:Int)) (w.alloc (.cells Lib.zeros24 230)) w.heap.size 0 dk).drewN k) 56 9 5 ⟨w.heap.size,0,none⟩ 24 (Lib.decDigits u) Tryz.underlying56 Tryz.underlying5 Tryz.underlying9 (fun j hj=>by
    rw [Lib.row_is_numeral hF j hj,Lib.add_plain,World.cell?_drewN];exact cell?_putRow (fun(b:UInt8)=>Value.int .u8 (b.toNat:Int)) _ w.heap.size 0 _ dk (ja HH0) (by rw [hF.size,Array.size_replicate]) j (by rw [hF.size];rw [Lib.decDigits_length] at hj;exact hj))
   rw [Lib.decDigits_length] at h;exact h
  obtain⟨os,eo⟩:=Lib.fin_at w (.cells Lib.zeros24 230) dk k 0;have bw:=jd (Lib.below_grow w.heap.size w (Nat.le_refl _) k os);rw [<-eo] at bw;clear eo HF HH0 KD hF;generalize (putRow (fun(b:UInt8)=>Value.int .u8 (b.toNat:Int)) (w.alloc (.cells Lib.zeros24 230)) w.heap.size 0 dk).drewN k=W2 at *;go_wp2;go_ret;exact⟨rfl,ja bw⟩
theorem YO {P:Program}{w w':World}{name:String}{k:IntKind}{zs:List Int}(h:Lib.TabIs P w name k zs)(hb:Below w.heap.size w w'):Lib.TabIs P w' name k zs:=by
 unfold Lib.TabIs World.var? at *
 cases hg:P.globalNamed name with
 | none=>simp [hg] at h
 | some g=>
  simp only [hg,Option.bind_some] at h ⊢
  have hlt:g<w.heap.size:=by
   rcases Nat.lt_or_ge g w.heap.size with k | k
   ·exact k
   ·rw [Array.getElem?_eq_none k] at h
    simp at h
  rw [hb.block g hlt];exact h
theorem jh0 (w:World)(u:Nat)(hu64:u<18446744073709551616)(htab:Lib.TabIs Tryz.prog w "internal/strconv.uint64pow10" .u64 Lib.pow10Tab) :
  Calls Tryz.prog 164 #[.int .u64 u,.int .i64 10] w fun e w'=>e=.returned (.string ⟨(Lib.decDigits u).toArray⟩)/\Below w.heap.size w w':=by
 have K:=jd (jfQ w u hu64 htab);clear htab
 go_enter Tryz.func164,Tryz.ntmps164
 go_wp2_with fail
 refine(ja K).mono ?_
 rintro e w' ⟨rfl,b⟩
 have B:=jd b;clear b K;go_wp2;go_ret;exact⟨rfl,ja B⟩
open Go.RowKit
theorem jbu (b r:Nat)(hb:b<18446744073709551616)(hr:r=b % 9223372036854775808)(h0:0<r)(hi:r<9218868437227405312):(jH b).1=qh r/\(jH b).2.1=((r / 4503599627370496 - 1:Nat):Int) - 1074/\(jH b).2.2=0:=by
 unfold jH qh;rw [if_neg (by omega)]
 by_cases c:b / 4503599627370496 % 2048=0
 ·rw [if_pos c,if_pos (by omega)]
  refine⟨?_,?_,rfl⟩<;>simp only<;>omega
 ·rw [if_neg c,if_neg (by omega)]
  refine⟨?_,?_,rfl⟩<;>simp only<;>omega
theorem jl5 {r j:Nat}(h:XX r j 0):False:=by
 have h1:=jc0 h.2.1;unfold J8 fL at h1;have h2:0<mid (r - 1)*wF:=Nat.mul_pos (by unfold mid;exact Nat.mul_pos (by omega) (JG _)) jcj;omega
theorem jjg (w:World)(b r:Nat)(hb:b<18446744073709551616)(hr:r=b % 9223372036854775808)(h0:0<r)(hi:r<9218868437227405312)(htab:Lib.TabIs Tryz.prog w "internal/strconv.uint64pow10" .u64 Lib.pow10Tab) :
  Calls Tryz.prog 138 #[.int .u64 b] w fun e w'=>(∃(d:Nat) (ten:Int),e=.returned (.tuple #[.string ⟨(Lib.decDigits d).toArray⟩,.int .i64 ten,.int .i64 0])/\d % 10≠0/\d<18446744073709551616/\-400<=ten/\ten<=500/\∃j,XX r j (d*10 ^ (ten+1080).toNat))/\Below w.heap.size w w':=by
 obtain⟨e1,e2,e3⟩:=jbu b r hb hr h0 hi;have KP:=JJ w b hb;obtain⟨m,hm⟩:∃m,m=qh r:=⟨_,rfl⟩
 obtain⟨e,he⟩:∃e:Int,e=((r / 4503599627370496 - 1:Nat):Int) - 1074:=⟨_,rfl⟩
 obtain⟨t,c,lo,a,hi',more,hc,t1,t2,hlo,ha,hhi,hmore,a1,a2,l2,h2,KS⟩:=jlr w r m e h0 hi hm he;have mp:0<m:=by rw [hm];unfold qh;split<;>omega
 have m0:((m:Int) == 0)=false:=beq_false_of_ne (by omega);rw [e1,e2,e3,<-hm,<-he] at KP;have KSH:∀w',Hid _:=fun w'=>jd (jet w' r c a lo hi' t more h0 ha hlo hhi hmore a1 a2 l2 h2)
 have HT:=jd htab;have HC:=jd hc;clear e1 e2 e3 htab hc hm he ha hlo hhi hmore hr h0 hi;have HKP:=jd KP;have HKS:=jd KS;clear KP KS
 go_enter Tryz.func138,Tryz.ntmps138
 go_wp2_with fail
 refine(ja HKP).mono ?_
 rintro e' w' ⟨rfl,ew⟩
 rw [ew];clear ew w'
 go_wp2_with fail
 refine(ja HKS).mono ?_
 rintro e' w2 ⟨rfl,b2⟩
 clear HKP HKS
 go_upto_region 5 with fail
 have bk:=jf w2 #[.int .u64 lo,.int .u64 a,.int .u64 hi',.bool more,.int .i64 t] 211;have b3:Below w.heap.size w (w2.alloc (.cells #[.int .u64 lo,.int .u64 a,.int .u64 hi',.bool more,.int .i64 t] 211)):=b2.alloc b2.size _;generalize w2.alloc (.cells #[.int .u64 lo,.int .u64 a,.int .u64 hi',.bool more,.int .i64 t] 211)=w3 at *;have d0:w3.drew.cell? ⟨w2.heap.size,0,none⟩=some (.int .u64 lo):=bk.cell 0 _ rfl
 have d1:w3.drew.cell? ⟨w2.heap.size,1,none⟩=some (.int .u64 a):=bk.cell 1 _ rfl
 have d2:w3.drew.cell? ⟨w2.heap.size,2,none⟩=some (.int .u64 hi'):=bk.cell 2 _ rfl
 have d3:w3.drew.cell? ⟨w2.heap.size,3,none⟩=some (.bool more):=bk.cell 3 _ rfl
 have d4:w3.drew.cell? ⟨w2.heap.size,4,none⟩=some (.int .i64 t):=bk.cell 4 _ rfl
 have BK:Hid (Blk w3.drew w2.heap.size #[.int .u64 lo,.int .u64 a,.int .u64 hi',.bool more,.int .i64 t] 211):=jd bk;have B3:Hid (Below w.heap.size w w3.drew):=jd b3.drew;clear bk b3 b2
 go_cut [9,10] from 26 to 29 (fun s9 s10 wx=>∃x:Nat,s9=.int .u64 x/\x<18446744073709551616/\Hid (∃j,XX r j (x*10 ^ c))/\s10=.int .i64 t/\Hid (Below w.heap.size w wx))
 case first=>
  go_region_with (first
   | (go_at_call 163
      refine(ja (KSH _)).mono ?_
      rintro _ w4 ⟨⟨x,rfl,hx,hbest⟩,b4⟩
      have BE:=jd hbest;have k4:w4.cell? ⟨w2.heap.size,4,none⟩=some (.int .i64 t):=((ja BK).below b4).cell 4 _ rfl
      have B4:=jd ((ja B3).trans (b4.mono (ja B3).size));clear hbest b4))
  all_goals (go_wp2_with fail;go_meet;exact⟨x,rfl,hx,BE,rfl,B4⟩)
 case rest=>
 obtain⟨x,rfl,hx,HB,rfl,B4⟩:=hcut;clear KSH d0 d1 d2 d3 d4 BK B3
 have x0:0<x:=by
  rcases Nat.eq_zero_or_pos x with h | h
  ·exfalso
   obtain⟨j,hj⟩:=ja HB;rw [h,Nat.zero_mul] at hj;exact jl5 hj
  ·exact h
 go_wp2_with fail
 go_loopw [9,10] (fun v9 v10 wr=>∃(n k:Nat),v9=.int .u64 n/\v10=.int .i64 (t+(k:Int))/\0<n/\k<20/\Hid (n*10 ^ k=x)/\n<18446744073709551616/\wr=wc) (fun v9 _ _=>(intOf v9).toNat)
 case atStart=>exact⟨x,0,rfl,by simp,x0,by omega,jd (by simp),hx,by trivial⟩
 case round=>
  obtain⟨n,k,rfl,rfl,n0,hk,hn,n1,rfl⟩:=hrel
  by_cases c1:n % 10=0
  ·have y1:(n:Int) % 10=0:=by omega
   have y2:IntKind.u64.wrap ((n:Int).tdiv 10)=((n / 10:Nat):Int):=by
    rw [Int.tdiv_eq_ediv_of_nonneg (by omega)];simp [IntKind.wrap,IntKind.bits,IntKind.signed];omega
   have y4:IntKind.u64.wrap ((n:Int) / 10)=((n / 10:Nat):Int):=by
    simp [IntKind.wrap,IntKind.bits,IntKind.signed];omega
   have y5:(((n:Int) % 10) == 0)=true:=by rw [y1];rfl
   have y3:IntKind.i64.wrap (t+(k:Int)+1)=t+((k+1:Nat):Int):=by
    rw [wrap_small _ (by omega) (by omega)];omega
   have HN:Hid (n / 10*10 ^ (k+1)=x):=jd (by
    rw [<-ja hn,Nat.pow_succ,Nat.mul_comm (10 ^ k),<-Nat.mul_assoc]
    congr 1
    omega)
   have hk2:k+1<20:=by
    rcases Nat.lt_or_ge (k+1) 20 with g | g
    ·exact g
    ·exfalso
     have e:k=19:=by omega
     have:=ja HN;rw [e] at this;have:0<n / 10:=by omega
     omega
   have HM:Hid (n / 10<n/\0<n / 10):=jd (by omega);have n2:n / 10<18446744073709551616:=by omega
   clear y1;go_wp2;go_roundw
   case rel=>exact⟨n / 10,k+1,by first | rfl | simp,by first | rfl | simp,(ja HM).2,hk2,HN,n2,by trivial⟩
   case measure=>have:=ja HM;simp only [intOf];omega
  ·have y5:(((n:Int) % 10) == 0)=false:=beq_false_of_ne (by omega)
   have KF:=jd (jh0 wr n n1 (YO (ja HT) (ja B4)))
   have HBN:Hid (∃j,XX r j (n*10 ^ (t+(k:Int)+1080).toNat)):=jd (by
    obtain⟨j,hj⟩:=ja HB;refine⟨j,?_⟩;rw [<-ja hn,ja HC] at hj;rwa [show(t+(k:Int)+1080).toNat=k+(t+1080).toNat by omega,Nat.pow_add,<-Nat.mul_assoc])
   clear HT HC
   go_wp2_with fail
   refine(ja KF).mono ?_
   rintro _ w5 ⟨rfl,b5⟩
   have B5:=jd ((ja B4).trans (b5.mono (ja B4).size));clear b5 KF;go_wp2;refine bodyPost_ret (v:=.tuple #[.string ⟨(Lib.decDigits n).toArray⟩,.int .i64 (t+(k:Int)),.int .i64 0]) (by simp [results,Tryz.results138,go_sem]) rfl ?_
   exact⟨⟨n,t+(k:Int),rfl,c1,n1,by omega,by omega,ja HBN⟩,ja B5⟩
open Go.RowKit
theorem j8 (n:Nat):Lib.decDigits n=qJ n:=by
 induction n using Nat.strongRecOn with
 | ind n ih=>
  by_cases h:n<10
  ·rw [Lib.decDigits,dif_pos h]
   unfold qJ
   by_cases z:n=0
   ·rw [if_pos z,z];rfl
   ·rw [if_neg z,zX z,show n / 10=0 by omega,zW,Nat.mod_eq_of_lt h];rfl
  ·rw [Lib.decDigits,dif_neg h,ih _ (by omega)]
   unfold qJ;rw [if_neg (by omega),if_neg (by omega),zX (n:=n) (by omega)]
theorem jky (d:Nat)(x:Int)(h1 : -1080<=x):d*10 ^ x.toNat*T10=d*10 ^ (x+1080).toNat*10 ^ (-x).toNat:=by
 rcases Int.le_total 0 x with h | h
 ·have e1:(x+1080).toNat=x.toNat+c80:=by unfold c80;omega
  have e2:(-x).toNat=0:=by omega
  rw [e1,e2,Nat.pow_add,Nat.pow_zero,Nat.mul_one,Nat.mul_assoc];rfl
 ·have e1:x.toNat=0:=by omega
  have e2:1080=(x+1080).toNat+(-x).toNat:=by omega
  rw [e1,Nat.pow_zero,Nat.mul_one];exact jkR d e2
theorem jhx {r d:Nat}{x:Int}(h0:0<r)(hi:r<9218868437227405312)(h1 : -1080<=x)(hd:d≠0):zA d x r↔J8 r (d*10 ^ (x+1080).toNat):=by
 have h:=jjQ (jQ (-x).toNat) h0 hi (jky d x h1);unfold zA
 constructor
 ·rintro(⟨e,_⟩ | ⟨_,k⟩)
  ·exact absurd e hd
  ·exact h.1 k
 ·intro k
  exact .inr ⟨hd,h.2 k⟩
theorem jhV {d:Nat}(hd:d≠0):(qJ d).getD 0 0≠48:=by
 obtain⟨h1,h2,h3⟩:=qN d
 rcases h3 with h | h
 ·exact h
 ·intro e
  have:qJ d=[48]:=by
   cases hl:qJ d with
   | nil=>exact absurd hl h1
   | cons a r=>
    rw [hl] at h e;cases r with
    | nil=>simp at e;rw [e]
    | cons x y=>simp at h
  have v:=Zo d;rw [this] at v;exact hd (by rw [<-v];rfl)
theorem jc4 (l:List UInt8):(⟨l.toArray⟩:ByteArray).size=l.length:=by simp [ByteArray.size]
theorem jat {b r:Nat}(hr:r=b % 9223372036854775808)(hb:b<18446744073709551616)(h0:r=0\/9218868437227405312<=r):(jH b).2.2=1\/(jH b).2.2=2\/((jH b).2.2=0/\(jH b).1=0):=by
 unfold jH
 by_cases c:b / 4503599627370496 % 2048=2047
 ·rw [if_pos c]
  by_cases c2:b % 4503599627370496=0
  ·rw [if_pos c2];exact .inl rfl
  ·rw [if_neg c2];exact .inr (.inl rfl)
 ·rw [if_neg c,if_pos (by omega)]
  exact .inr (.inr ⟨rfl,by simp only;omega⟩)
open Go.RowKit
theorem jpw (q E:Nat):q*2 ^ E*wF=q*5 ^ sc*2 ^ (E+4):=by
 have e:c80=sc:=rfl;rw [jhi,e,Nat.pow_add];have e2:(2:Nat) ^ 4=16:=rfl;rw [e2];generalize 5 ^ sc=z;generalize 2 ^ E=y;simp only [Nat.mul_assoc,Nat.mul_comm,Nat.mul_left_comm]
theorem jon (r:Nat):fX r=qh r*5 ^ sc*2 ^ (r / 4503599627370496 - 1+6):=by
 unfold fX Qz step;rw [jpw,Nat.pow_add,Nat.pow_add];generalize 5 ^ sc=z;generalize 2 ^ (r / 4503599627370496 - 1)=y;generalize qh r=m;have e2:(2:Nat) ^ 4=16:=rfl;have e3:(2:Nat) ^ 6=16*4:=rfl;rw [e2,e3];simp only [Nat.mul_assoc,Nat.mul_comm,Nat.mul_left_comm]
open Go.RowKit
theorem jpJ (r:Nat)(hi:r<9218868437227405312):(qJ (fX r)).length<=4000:=by
 rw [jon];have hm:=jaF r;obtain⟨E,hE⟩:∃E,E=r / 4503599627370496 - 1+6:=⟨_,rfl⟩
 have hE2:E<=2051:=by omega
 rw [<-hE];have h1:(5:Nat) ^ sc<=10 ^ sc:=Nat.pow_le_pow_left (by decide) _;have h2:(2:Nat) ^ E<=10 ^ E:=Nat.pow_le_pow_left (by decide) _;have h3:qh r<10 ^ 16:=Nat.lt_of_lt_of_le hm (by decide);have p1:0<(10:Nat) ^ sc:=Nat.pow_pos (by decide);have p2:0<(10:Nat) ^ E:=Nat.pow_pos (by decide)
 have h4:qh r*5 ^ sc*2 ^ E<10 ^ 16*10 ^ sc*10 ^ E :=
  Nat.lt_of_le_of_lt (Nat.mul_le_mul (Nat.mul_le_mul (Nat.le_refl _) h1) h2) (Nat.mul_lt_mul_of_pos_right (Nat.mul_lt_mul_of_pos_right h3 p1) p2)
 rw [<-Nat.pow_add,<-Nat.pow_add] at h4;have hsc:sc=1080:=rfl;have:=za h4 (by omega);omega
open Go.RowKit
theorem jia {r j i d e:Nat}{ten t:Int}(h1:XX r j (d*10 ^ (ten+1080).toNat))(h2:XX r i (e*10 ^ (t+1080).toNat))(hd:d % 10≠0)(he:e % 10≠0)(h3 : -1080<=ten)(h4 : -1080<=t):e=d/\t=ten:=by
 obtain⟨a,b⟩:=jgU (jgi h1 h2) hd he;exact⟨a.symm,by omega⟩
open Go.RowKit Go.Sort
theorem jd9 (n:Nat):(⟨(Lib.repeatL [48] n).toArray⟩:ByteArray)=XR n:=by
 unfold XR
 congr 2
 induction n with
 | zero=>rfl
 | succ n ih=>rw [List.replicate_succ,<-ih];rfl
theorem XH (w:World)(n:Nat)(hn:n<=1000) :
  Calls Tryz.prog 166 #[.int .i64 (n:Int)] w fun e w'=>e=.returned (.string (XR n))/\Below w.heap.size w w':=by
 have K:Hid (Calls Tryz.prog 159 #[.string ⟨#[48]⟩,.int .i64 (n:Int)] w fun e w'=>e=.returned (.string (XR n))/\Below w.heap.size w w'):=jd (by
  by_cases h0:n=0
  ·subst h0
   refine(Tryz.strings_Repeat_zero ⟨#[48]⟩ w).mono ?_
   rintro e w' ⟨rfl,rfl⟩
   exact⟨rfl,Below.refl _ _⟩
  ·by_cases h1:n=1
   ·subst h1
    refine(Tryz.strings_Repeat_one ⟨#[48]⟩ w).mono ?_
    rintro e w' ⟨rfl,rfl⟩
    exact⟨rfl,Below.refl _ _⟩
   ·have h:=Tryz.strings_Repeat_main ⟨#[48]⟩ n w (by omega) (by omega) (by show 1*n<=_;omega) (by decide)
    rw [show(⟨#[48]⟩:ByteArray).data.toList=[48] by rfl,jd9] at h;exact h)
 go_enter Tryz.func166,Tryz.ntmps166
 go_wp2_with fail
 refine(ja K).mono ?_
 rintro e w' ⟨rfl,b⟩
 have B:=jd b;clear b K;go_wp2;go_ret;exact⟨rfl,ja B⟩
theorem qt (a b:ByteArray):(a++b).data.toList=a.data.toList++b.data.toList:=by
 rw [ByteArray.data_append,Array.toList_append]
theorem qv (a b:ByteArray)(h:a.size+b.size<=100000)(u:World):(Op.stringOp .add a b).run Tryz.prog u=.ok (.string (a++b)) u:=run_string_add_sum _ _ _ (by omega)
theorem jbi (n:Nat):(XR n).data.toList=List.replicate n 48:=by unfold XR;simp
theorem jfk (s:ByteArray)(a b:Nat):(s.extract a b).data.toList=(s.data.toList.take b).drop a:=by
 rw [ByteArray.data_extract,Array.toList_extract];simp [List.extract,List.drop_take]
theorem jdX (s:ByteArray)(b:Nat):(s.extract 0 b).data.toList=s.data.toList.take b:=by rw [jfk,List.drop_zero]
theorem jfO (s:ByteArray)(a:Nat):(s.extract a s.size).data.toList=s.data.toList.drop a:=by
 rw [jfk,List.take_of_length_le (by rw [jo];exact Nat.le_refl _)]
theorem Yl (s:ByteArray)(a b:Nat)(h:b<=s.size):(s.extract a b).size=b - a:=by rw [ByteArray.size_extract];omega
def XU (D:List UInt8)(x:Int):List UInt8:=D.take 1++((if D.drop 1=[] then [] else 46 :: D.drop 1)++101 :: Lib.itoa x)
theorem ja4 (x:Int)(h1 : -100000<=x)(h2:x<=100000):(Lib.itoa x).length<=10:=by
 have e:(10:Nat) ^ 6=1000000:=by decide
 unfold Lib.itoa;split
 ·rw [List.length_cons,j8]
  have:=za (n:=x.natAbs) (k:=6) (by omega) (by decide);omega
 ·rw [j8]
  have:=za (n:=x.toNat) (k:=6) (by omega) (by decide);omega
theorem jf5 (w:World)(S:ByteArray)(x:Int)(s1:0<S.size)(s2:S.size<=100)(x1 : -100000<=x)(x2:x<=100000)(htab:Lib.TabIs Tryz.prog w "internal/strconv.uint64pow10" .u64 Lib.pow10Tab) :
  Calls Tryz.prog 165 #[.string S,.int .i64 x] w fun e w'=>(∃R:ByteArray,e=.returned (.string R)/\R.data.toList=XU S.data.toList x)/\Below w.heap.size w w':=by
 have KI:∀k,Hid (Calls Tryz.prog 194 #[.int .i64 x] (w.drewN k) fun e w'=>e=.returned (.string ⟨(Lib.itoa x).toArray⟩)/\Below w.heap.size w w'):=fun k=>jd (by
  refine(Tryz.strconv_Itoa x (by omega) (by omega) (w.drewN k) (YO htab (below_drewN (Below.refl _ _) k))).mono ?_
  rintro e w' ⟨rfl,i,os,hw⟩
  refine⟨rfl,?_⟩;rw [hw];have h:=Lib.below_grow (w.drewN k).heap.size (w.drewN k) (Nat.le_refl _) i os;exact(below_drewN (Below.refl _ _) k).trans (h.mono (Nat.le_refl _)))
 have il:=ja4 x x1 x2;obtain⟨I,hI⟩:∃I:ByteArray,I=⟨(Lib.itoa x).toArray⟩:=⟨_,rfl⟩
 have Is:I.size<=10:=by rw [hI,jc4];exact il
 have IL:I.data.toList=Lib.itoa x:=by rw [hI]
 rw [<-hI] at KI;obtain⟨F,hF⟩:∃F:ByteArray,S.extract 0 1=F:=⟨_,rfl⟩
 obtain⟨T,hT⟩:∃T:ByteArray,S.extract 1 S.size=T:=⟨_,rfl⟩
 have Fs:F.size=1:=by rw [<-hF,Yl _ _ _ (by omega)]
 have Ts:T.size=S.size - 1:=by rw [<-hT,Yl _ _ _ (by omega)]
 have FL:F.data.toList=S.data.toList.take 1:=by rw [<-hF,jdX]
 have TL:T.data.toList=S.data.toList.drop 1:=by rw [<-hT,jfO]
 have q0:(1:Int)<=(S.size:Int):=by omega
 have d1:(⟨#[46]⟩:ByteArray).size=1:=rfl;have d2:(⟨#[101]⟩:ByteArray).size=1:=rfl;have c1:=qv ⟨#[46]⟩ T (by omega);have c2:=qv F (⟨#[46]⟩++T) (by rw [ByteArray.size_append];omega);have c3:=qv (F++(⟨#[46]⟩++T)) ⟨#[101]⟩ (by rw [ByteArray.size_append,ByteArray.size_append];omega);have c4:=qv ((F++(⟨#[46]⟩++T))++⟨#[101]⟩) I (by rw [ByteArray.size_append,ByteArray.size_append,ByteArray.size_append];omega);have c5:=qv F ⟨#[101]⟩ (by omega);have c6:=qv (F++⟨#[101]⟩) I (by rw [ByteArray.size_append];omega)
 have R1:Hid (T.data.toList≠[]->(((F++(⟨#[46]⟩++T))++⟨#[101]⟩)++I).data.toList=XU S.data.toList x):=jd (fun h=>by
  unfold XU;rw [qt,qt,qt,qt,IL,FL,TL,if_neg (by rw [<-TL];exact h)];simp)
 have R2:Hid (T.data.toList=[]->((F++⟨#[101]⟩)++I).data.toList=XU S.data.toList x):=jd (fun h=>by
  unfold XU;rw [qt,qt,IL,FL,if_pos (by rw [<-TL];exact h)];simp)
 generalize hA4:((F++(⟨#[46]⟩++T))++⟨#[101]⟩)++I=A4 at *;generalize hA3:(F++(⟨#[46]⟩++T))++⟨#[101]⟩=A3 at *;generalize hA2:F++(⟨#[46]⟩++T)=A2 at *;generalize hA1:(⟨#[46]⟩:ByteArray)++T=A1 at *;generalize hA6:(F++⟨#[101]⟩)++I=A6 at *;generalize hA5:F++(⟨#[101]⟩:ByteArray)=A5 at *;have TN:=jd (jo T);clear htab hI IL FL TL hA1 hA2 hA3 hA4 hA5 hA6 d1 d2 Fs il
 by_cases c:S.size=1
 ·have T0:T.toList=[]:=by
   rw [ByteArray.toList_eq];exact List.eq_nil_of_length_eq_zero (by rw [ja TN];omega)
  have R:=jd (ja R2 (by rw [<-ByteArray.toList_eq];exact T0));clear R1 R2 Ts TN c1 c2 c3 c4 c
  go_enter Tryz.func165,Tryz.ntmps165
  go_wp2_with fail
  go_quiet (fail)
  go_wp2_with fail
  refine(ja (KI _)).mono ?_
  rintro _ w2 ⟨rfl,b2⟩
  have B:=jd b2;clear b2 KI;go_wp2;go_ret;exact⟨⟨A6,rfl,ja R⟩,ja B⟩
 ·have T1:T.data.toList≠[]:=fun e=>by
   have h:=ja TN;rw [e] at h;simp at h;omega
  have T0:T.toList.isEmpty=false:=by
   rw [ByteArray.toList_eq];cases hl:T.data.toList with
   | nil=>exact absurd hl T1
   | cons a r=>rfl
  have R:=jd (ja R1 T1);clear R1 R2 Ts TN c5 c6 c T1
  go_enter Tryz.func165,Tryz.ntmps165
  go_wp2_with fail
  go_quiet (fail)
  go_wp2_with fail
  refine(ja (KI _)).mono ?_
  rintro _ w2 ⟨rfl,b2⟩
  have B:=jd b2;clear b2 KI;go_wp2;go_ret;exact⟨⟨A4,rfl,ja R⟩,ja B⟩
open Go.RowKit Go.Sort
def Jg (D:List UInt8)(p:Int):List UInt8 :=
 if p < -3\/17<p then XU D (p - 1) else if p<=0 then [48,46]++(List.replicate (-p).toNat 48++D) else if p<(D.length:Int) then D.take p.toNat++46 :: D.drop p.toNat else D++(List.replicate (p - (D.length:Int)).toNat 48++[46,48])
theorem XY (x:Int)(h1 : -1000000000<=x)(h2:x<=1000000000):IntKind.i64.wrap x=x:=by
 simp [IntKind.wrap,IntKind.bits,IntKind.signed];omega
theorem jhu (w:World)(S:ByteArray)(p:Int)(s1:0<S.size)(s2:S.size<=100)(x1 : -10000<=p)(x2:p<=10000)(htab:Lib.TabIs Tryz.prog w "internal/strconv.uint64pow10" .u64 Lib.pow10Tab) :
  Calls Tryz.prog 139 #[.string S,.int .i64 p] w fun e w'=>(∃R:ByteArray,e=.returned (.string R)/\R.data.toList=Jg S.data.toList p)/\Below w.heap.size w w':=by
 have SN:=jo S
 by_cases cA:p < -3\/17<p
 ·have K:=jd (jf5 w S (p - 1) s1 s2 (by omega) (by omega) htab)
  have y:=XY (p - 1) (by omega) (by omega);have E:Hid (Jg S.data.toList p=XU S.data.toList (p - 1)):=jd (by unfold Jg;rw [if_pos cA]);obtain⟨q,hq⟩:∃q,q=p - 1:=⟨_,rfl⟩
  rw [<-hq] at K E;have y':IntKind.i64.wrap (p - 1)=q:=by rw [hq];exact y
  clear htab SN y hq
  rcases cA with c | c
  ·go_enter Tryz.func139,Tryz.ntmps139
   go_wp2_with fail
   refine(ja K).mono ?_
   rintro _ w1 ⟨⟨R,rfl,hR⟩,b1⟩
   have B:=jd b1;have HR:=jd hR;clear b1 hR K;go_wp2;go_ret;exact⟨⟨R,rfl,by rw [ja HR,ja E]⟩,ja B⟩
  ·have c':¬p < -3:=by omega
   have c2:p > 17:=c
   go_enter Tryz.func139,Tryz.ntmps139
   go_wp2_with fail
   refine(ja K).mono ?_
   rintro _ w1 ⟨⟨R,rfl,hR⟩,b1⟩
   have B:=jd b1;have HR:=jd hR;clear b1 hR K;go_wp2;go_ret;exact⟨⟨R,rfl,by rw [ja HR,ja E]⟩,ja B⟩
 ·have i1:¬p < -3:=by omega
  have i2:¬p > 17:=by omega
  by_cases cB:p<=0
  ·obtain⟨n,hn⟩:∃n:Nat,p = -(n:Int):=⟨(-p).toNat,by omega⟩
   have K:=jd (XH w n (by omega));obtain⟨Z,hZ⟩:∃Z:ByteArray,Z=XR n:=⟨_,rfl⟩
   have Zs:Z.size=n:=by rw [hZ,jcc]
   have y:IntKind.i64.wrap (-p)=(n:Int):=by rw [XY _ (by omega) (by omega)];omega
   have d1:(⟨#[48,46]⟩:ByteArray).size=2:=rfl;have c1:=qv ⟨#[48,46]⟩ Z (by omega);have c2:=qv (⟨#[48,46]⟩++Z) S (by rw [ByteArray.size_append];omega)
   have R:Hid (((⟨#[48,46]⟩++Z)++S).data.toList=Jg S.data.toList p):=jd (by
    unfold Jg;rw [if_neg cA,if_pos cB,qt,qt,hZ,jbi,show(-p).toNat=n by omega];simp)
   rw [<-hZ] at K;generalize (⟨#[48,46]⟩++Z)++S=A2 at *;generalize (⟨#[48,46]⟩:ByteArray)++Z=A1 at *;clear htab SN hZ hn d1 cA
   go_enter Tryz.func139,Tryz.ntmps139
   go_wp2_with fail
   refine(ja K).mono ?_
   rintro _ w1 ⟨rfl,b1⟩
   have B:=jd b1;clear b1 K;go_wp2;go_ret;exact⟨⟨A2,rfl,ja R⟩,ja B⟩
  ·by_cases cC:p<(S.size:Int)
   ·obtain⟨n,rfl⟩:∃n:Nat,p=(n:Int):=⟨p.toNat,by omega⟩
    obtain⟨F,hF⟩:∃F:ByteArray,S.extract 0 n=F:=⟨_,rfl⟩
    obtain⟨T,hT⟩:∃T:ByteArray,S.extract n S.size=T:=⟨_,rfl⟩
    have Fs:F.size=n:=by rw [<-hF,Yl _ _ _ (by omega)];omega
    have Ts:T.size=S.size - n:=by rw [<-hT,Yl _ _ _ (by omega)]
    have FL:F.data.toList=S.data.toList.take n:=by rw [<-hF,jdX]
    have TL:T.data.toList=S.data.toList.drop n:=by rw [<-hT,jfO]
    have d1:(⟨#[46]⟩:ByteArray).size=1:=rfl;have c1:=qv F ⟨#[46]⟩ (by omega);have c2:=qv (F++⟨#[46]⟩) T (by rw [ByteArray.size_append];omega)
    have R:Hid (((F++⟨#[46]⟩)++T).data.toList=Jg S.data.toList (n:Int)):=jd (by
     unfold Jg;rw [if_neg cA,if_neg cB,SN,if_pos cC,qt,qt,FL,TL,Int.toNat_natCast];simp)
    have q0:(0:Int)<=(n:Int):=by omega
    have q1:(n:Int)<=(S.size:Int):=by omega
    generalize (F++⟨#[46]⟩)++T=A2 at *;generalize F++(⟨#[46]⟩:ByteArray)=A1 at *;clear htab SN FL TL d1 cA Fs Ts
    go_enter Tryz.func139,Tryz.ntmps139
    go_wp2_with fail
    go_quiet (fail)
    go_wp2;go_ret;exact⟨⟨A2,rfl,ja R⟩,below_drewN (Below.refl _ _) _⟩
   ·obtain⟨n,hn⟩:∃n:Nat,p - (S.size:Int)=(n:Int):=⟨(p - (S.size:Int)).toNat,by omega⟩
    have K:=jd (XH w n (by omega));obtain⟨Z,hZ⟩:∃Z:ByteArray,Z=XR n:=⟨_,rfl⟩
    have Zs:Z.size=n:=by rw [hZ,jcc]
    have y:IntKind.i64.wrap (p - (S.size:Int))=(n:Int):=by rw [XY _ (by omega) (by omega)];omega
    have d1:(⟨#[46,48]⟩:ByteArray).size=2:=rfl;have c1:=qv S Z (by omega);have c2:=qv (S++Z) ⟨#[46,48]⟩ (by rw [ByteArray.size_append];omega)
    have R:Hid (((S++Z)++⟨#[46,48]⟩).data.toList=Jg S.data.toList p):=jd (by
     unfold Jg;rw [if_neg cA,if_neg cB,SN,if_neg cC,qt,qt,hZ,jbi,hn,Int.toNat_natCast];simp)
    rw [<-hZ] at K;generalize (S++Z)++⟨#[46,48]⟩=A2 at *;generalize S++Z=A1 at *;clear htab SN hZ hn d1 cA
    go_enter Tryz.func139,Tryz.ntmps139
    go_wp2_with fail
    refine(ja K).mono ?_
    rintro _ w1 ⟨rfl,b1⟩
    have B:=jd b1;clear b1 K;go_wp2;go_ret;exact⟨⟨A2,rfl,ja R⟩,ja B⟩
open Go.RowKit Go.Sort
def sgL (b:Nat):List UInt8:=if 9223372036854775808<=b then [45] else []
def jV (b:Nat)(T:List UInt8):Prop :=
 ((jH b).2.2=2/\T=[110,97,110])\/((jH b).2.2=1/\T=sgL b++[105,110,102])\/((jH b).2.2=0/\(jH b).1=0/\T=sgL b++[48,46,48])\/
 ((jH b).2.2=0/\(jH b).1≠0/\∃(d j:Nat) (ten:Int),d % 10≠0/\-1080<=ten/\XX (b % 9223372036854775808) j (d*10 ^ (ten+1080).toNat)/\T=sgL b++Jg (qJ d) (((qJ d).length:Int)+ten))
theorem jcJ {b:Nat}{T U:List UInt8}(h:jV b T)(k:jV b U):T=U:=by
 rcases h with ⟨a,h⟩ | ⟨a,h⟩ | ⟨a,a2,h⟩ | ⟨a,a2,d,j,ten,h1,h2,h3,h⟩<;>rcases k with ⟨c,k⟩ | ⟨c,k⟩ | ⟨c,c2,k⟩ | ⟨c,c2,d',j',ten',k1,k2,k3,k⟩<;>first | (rw [h,k];done) | omega | skip
 obtain⟨e1,e2⟩:=jia h3 k3 h1 k1 h2 k2;rw [h,k,e1,e2]
theorem jih (b:Nat)(hb:b<18446744073709551616):Go.bits .and .u64 (b:Int) 9223372036854775808=if 9223372036854775808<=b then 9223372036854775808 else 0:=by
 have h:=bits_and_u64_nat b 9223372036854775808 hb (by decide);have e:(9223372036854775808:Nat)=2 ^ 63:=by decide
 have h2:b &&& 9223372036854775808=if 9223372036854775808<=b then 9223372036854775808 else 0:=by
  have top:b.testBit 63=decide (9223372036854775808<=b):=by
   rw [Nat.testBit_eq_decide_div_mod_eq,<-e,decide_eq_decide];omega
  apply Nat.eq_of_testBit_eq
  intro i;rw [Nat.testBit_and,e,Nat.testBit_two_pow,<-e]
  by_cases c:9223372036854775808<=b
  ·rw [if_pos c,e,Nat.testBit_two_pow]
   by_cases hi:63=i
   ·rw [<-hi,top,decide_eq_true c];rfl
   ·rw [decide_eq_false hi];simp
  ·rw [if_neg c,Nat.zero_testBit]
   by_cases hi:63=i
   ·rw [<-hi,top,decide_eq_false c];rfl
   ·rw [decide_eq_false hi];simp
 rw [h2] at h;split at h
 ·rw [if_pos (by assumption)];exact h
 ·rw [if_neg (by assumption)];exact h
def jod (b:Nat)(G:ByteArray):Prop:=(9223372036854775808<=b/\G=⟨#[45]⟩)\/(b<9223372036854775808/\G=⟨#[]⟩)
theorem jdh {b:Nat}{G:ByteArray}(h:jod b G):G.data.toList=sgL b/\G.size<=1:=by
 unfold sgL
 rcases h with ⟨h,rfl⟩ | ⟨h,rfl⟩
 ·rw [if_pos h];exact⟨rfl,by decide⟩
 ·rw [if_neg (by omega)];exact⟨rfl,by decide⟩
theorem jga (w:World)(b kd:Nat)(hb:b<18446744073709551616)(hk:(jH b).2.2=(kd:Int))(hkd:(kd=2)\/(kd=1)\/(kd=0/\(jH b).1=0)) :
  Calls Tryz.prog 114 #[.int .u64 (b:Int)] w fun e w'=>(∃R:ByteArray,e=.returned (.string R)/\jV b R.data.toList)/\Below w.heap.size w w':=by
 have kp:=JJ w b hb;have an:=jih b hb
 have TI:∀(G:ByteArray),jod b G->(kd=2->Hid (jV b [110,97,110]))/\(kd=1->Hid (jV b (G++⟨#[105,110,102]⟩).data.toList))/\(kd=0->(jH b).1=0->Hid (jV b (G++⟨#[48,46,48]⟩).data.toList)):=fun G hG=>by
  obtain⟨g1,_⟩:=jdh hG;refine⟨fun h=>jd (.inl ⟨by rw [hk,h];rfl,rfl⟩),fun h=>jd (.inr (.inl ⟨by rw [hk,h];rfl,by rw [qt,g1]⟩)),fun h h2=>jd (.inr (.inr (.inl ⟨by rw [hk,h];rfl,h2,by rw [qt,g1]⟩)))⟩
 rw [hk] at kp;generalize (jH b).2.1=ex at *;generalize (jH b).1=mt at *;have KP:=jd kp;clear kp hk
 by_cases sg:9223372036854775808<=b
 ·rw [if_pos sg] at an
  obtain⟨t2,t1,t0⟩:=TI ⟨#[45]⟩ (.inl ⟨sg,rfl⟩);have d0:(⟨#[45]⟩:ByteArray).size=1:=rfl;have d1:(⟨#[105,110,102]⟩:ByteArray).size=3:=rfl;have d2:(⟨#[48,46,48]⟩:ByteArray).size=3:=rfl;have c1:=qv ⟨#[45]⟩ ⟨#[105,110,102]⟩ (by omega);have c2:=qv ⟨#[45]⟩ ⟨#[48,46,48]⟩ (by omega);generalize (⟨#[45]⟩:ByteArray)++⟨#[105,110,102]⟩=A1 at *;generalize (⟨#[45]⟩:ByteArray)++⟨#[48,46,48]⟩=A2 at *;clear TI d0 d1 d2 sg hb
  rcases hkd with rfl | rfl | ⟨rfl,rfl⟩
  ·have T:=t2 rfl
   clear t2 t1 t0
   go_enter Tryz.func114,Tryz.ntmps114
   go_wp2_with fail
   refine(ja KP).mono ?_
   rintro _ w1 ⟨rfl,rfl⟩
   clear KP;go_wp2;go_ret;exact⟨⟨_,rfl,ja T⟩,Below.refl _ _⟩
  ·have T:=t1 rfl
   clear t2 t1 t0
   go_enter Tryz.func114,Tryz.ntmps114
   go_wp2_with fail
   refine(ja KP).mono ?_
   rintro _ w1 ⟨rfl,rfl⟩
   clear KP;go_wp2;go_ret;exact⟨⟨A1,rfl,ja T⟩,Below.refl _ _⟩
  ·have T:=t0 rfl rfl
   clear t2 t1 t0
   go_enter Tryz.func114,Tryz.ntmps114
   go_wp2_with fail
   refine(ja KP).mono ?_
   rintro _ w1 ⟨rfl,rfl⟩
   clear KP;go_wp2;go_ret;exact⟨⟨A2,rfl,ja T⟩,Below.refl _ _⟩
 ·rw [if_neg sg] at an
  obtain⟨t2,t1,t0⟩:=TI ⟨#[]⟩ (.inr ⟨by omega,rfl⟩);have d0:(⟨#[]⟩:ByteArray).size=0:=rfl;have d1:(⟨#[105,110,102]⟩:ByteArray).size=3:=rfl;have d2:(⟨#[48,46,48]⟩:ByteArray).size=3:=rfl;have c1:=qv ⟨#[]⟩ ⟨#[105,110,102]⟩ (by omega);have c2:=qv ⟨#[]⟩ ⟨#[48,46,48]⟩ (by omega);generalize (⟨#[]⟩:ByteArray)++⟨#[105,110,102]⟩=A1 at *;generalize (⟨#[]⟩:ByteArray)++⟨#[48,46,48]⟩=A2 at *;clear TI d0 d1 d2 sg hb
  rcases hkd with rfl | rfl | ⟨rfl,rfl⟩
  ·have T:=t2 rfl
   clear t2 t1 t0
   go_enter Tryz.func114,Tryz.ntmps114
   go_wp2_with fail
   refine(ja KP).mono ?_
   rintro _ w1 ⟨rfl,rfl⟩
   clear KP;go_wp2;go_ret;exact⟨⟨_,rfl,ja T⟩,Below.refl _ _⟩
  ·have T:=t1 rfl
   clear t2 t1 t0
   go_enter Tryz.func114,Tryz.ntmps114
   go_wp2_with fail
   refine(ja KP).mono ?_
   rintro _ w1 ⟨rfl,rfl⟩
   clear KP;go_wp2;go_ret;exact⟨⟨A1,rfl,ja T⟩,Below.refl _ _⟩
  ·have T:=t0 rfl rfl
   clear t2 t1 t0
   go_enter Tryz.func114,Tryz.ntmps114
   go_wp2_with fail
   refine(ja KP).mono ?_
   rintro _ w1 ⟨rfl,rfl⟩
   clear KP;go_wp2;go_ret;exact⟨⟨A2,rfl,ja T⟩,Below.refl _ _⟩
theorem joq {D:List UInt8}{x:Int}(hD:D.length<=100)(h1 : -100000<=x)(h2:x<=100000):(XU D x).length<=500:=by
 unfold XU;have h:=ja4 x h1 h2;rw [List.length_append,List.length_append,List.length_take,List.length_cons];split
 ·simp;omega
 ·rw [List.length_cons,List.length_drop];omega
theorem job {D:List UInt8}{p:Int}(hD:D.length<=100)(h1 : -10000<=p)(h2:p<=10000):(Jg D p).length<=500:=by
 unfold Jg;split
 ·exact joq hD (by omega) (by omega)
 ·split
  ·rw [List.length_append,List.length_append,List.length_replicate];simp;omega
  ·split
   ·rw [List.length_append,List.length_take,List.length_cons,List.length_drop];omega
   ·rw [List.length_append,List.length_append,List.length_replicate];simp;omega
theorem jjq (w:World)(b r:Nat)(hb:b<18446744073709551616)(hr:r=b % 9223372036854775808)(h0:0<r)(hi:r<9218868437227405312)(htab:Lib.TabIs Tryz.prog w "internal/strconv.uint64pow10" .u64 Lib.pow10Tab) :
  Calls Tryz.prog 114 #[.int .u64 (b:Int)] w fun e w'=>(∃R:ByteArray,e=.returned (.string R)/\jV b R.data.toList)/\Below w.heap.size w w':=by
 obtain⟨e1,e2,e3⟩:=jbu b r hb hr h0 hi;have KS:=jd (jjg w b r hb hr h0 hi htab);have mp:0<qh r:=by unfold qh;split<;>omega
 have TI:∀(G R:ByteArray) (d j:Nat) (ten:Int),jod b G->d % 10≠0->-1080<=ten->XX r j (d*10 ^ (ten+1080).toNat)->R.data.toList=Jg (qJ d) (((qJ d).length:Int)+ten)->jV b (G++R).data.toList:=fun G R d j ten hG hd ht hB hR=>by
  obtain⟨g1,_⟩:=jdh hG;refine .inr (.inr (.inr ⟨e3,by rw [e1];omega,d,j,ten,hd,ht,by rw [<-hr];exact hB,?_⟩));rw [qt,g1,hR]
 have kp:=JJ w b hb;rw [e1,e2,e3] at kp;have an:=jih b hb;have HI:=jd (And.intro h0 hi);have HTI:=jd TI;have HT:=jd htab;obtain⟨m,hm⟩:∃m,m=qh r:=⟨_,rfl⟩
 obtain⟨ex,hex⟩:∃ex:Int,ex=((r / 4503599627370496 - 1:Nat):Int) - 1074:=⟨_,rfl⟩
 rw [<-hm,<-hex] at kp;rw [<-hm] at mp;have m0:((m:Int) == 0)=false:=beq_false_of_ne (by omega);have KP:=jd kp
 obtain⟨G,hG,hsg⟩:∃G,jod b G/\((Go.bits .and .u64 (b:Int) 9223372036854775808=9223372036854775808/\G=⟨#[45]⟩)\/(Go.bits .and .u64 (b:Int) 9223372036854775808=0/\G=⟨#[]⟩)):=by
  by_cases sg:9223372036854775808<=b
  ·rw [if_pos sg] at an
   exact⟨_,.inl ⟨sg,rfl⟩,.inl ⟨an,rfl⟩⟩
  ·rw [if_neg sg] at an
   exact⟨_,.inr ⟨by omega,rfl⟩,.inr ⟨an,rfl⟩⟩
 have HG:=jd hG;clear kp TI e1 e2 e3 hr h0 hi htab hm hex an hG
 rcases hsg with ⟨an,rfl⟩ | ⟨an,rfl⟩
 all_goals
  go_enter Tryz.func114,Tryz.ntmps114
  go_wp2_with fail
  refine(ja KP).mono ?_
  rintro _ w1 ⟨rfl,e1⟩
  rw [e1];clear KP e1
  go_wp2_with fail
  refine(ja KS).mono ?_
  rintro _ w2 ⟨⟨d,ten,rfl,hd10,hd64,t1,t2,j,hB⟩,b2⟩
  have h17:=ji0 (ja HI).1 hB rfl hd10;have L17:(qJ d).length<=17:=za h17 (by decide);have L1:0<(qJ d).length:=List.length_pos_iff.2 (qN d).1;rw [j8];obtain⟨S,hS⟩:∃S:ByteArray,S=⟨(qJ d).toArray⟩:=⟨_,rfl⟩
  have hSs:S.size=(qJ d).length:=by rw [hS,jc4]
  have hSl:S.data.toList=qJ d:=by rw [hS]
  rw [<-hS];obtain⟨p,hp⟩:∃p:Int,p=(S.size:Int)+ten:=⟨_,rfl⟩
  have y:IntKind.i64.wrap ((S.size:Int)+ten)=p:=by rw [hp,XY _ (by omega) (by omega)]
  have KL:=jd (jhu w2 S p (by omega) (by omega) (by omega) (by omega) (YO (ja HT) b2));have HTT:=jd (fun(R:ByteArray) (hR:R.data.toList=Jg S.data.toList p)=>ja HTI _ R d j ten (ja HG) hd10 (by omega) hB (by rw [hR,hSl,hp,hSs]));have B2:=jd b2;have SB:Hid (S.size<=100/\-10000<=p/\p<=10000):=jd ⟨by omega,by omega,by omega⟩;clear KS hB b2 hS hSs hSl hp HTI HG HI HT h17 L17 L1
  go_wp2_with fail
  refine(ja KL).mono ?_
  rintro _ w3 ⟨⟨R,rfl,hR⟩,b3⟩
  have HTX:=jd (ja HTT R hR);have B3:=jd ((ja B2).trans (b3.mono (ja B2).size))
  have Rs:R.size<=500:=by
   have h:=job (D:=S.data.toList) (p:=p) (by rw [jo];exact(ja SB).1) (ja SB).2.1 (ja SB).2.2;rw [<-hR,jo] at h;exact h
  have d0:(⟨#[45]⟩:ByteArray).size=1:=rfl;have d00:(⟨#[]⟩:ByteArray).size=0:=rfl;have c1:=qv ⟨#[45]⟩ R (by omega);have c2:=qv ⟨#[]⟩ R (by omega);clear KL hR b3 HTT B2 d0 d00 SB;generalize (⟨#[45]⟩:ByteArray)++R=A1 at *;generalize (⟨#[]⟩:ByteArray)++R=A2 at *;go_wp2;go_ret;exact⟨⟨_,rfl,ja HTX⟩,ja B3⟩
theorem jif (b:Nat)(hb:b<18446744073709551616):(∃kd:Nat,(jH b).2.2=(kd:Int)/\(kd=2\/kd=1\/(kd=0/\(jH b).1=0)))\/(0<b % 9223372036854775808/\b % 9223372036854775808<9218868437227405312):=by
 by_cases h:b % 9223372036854775808=0\/9218868437227405312<=b % 9223372036854775808
 ·left
  rcases jat rfl hb h with e | e | ⟨e1,e2⟩
  ·exact⟨1,e,.inr (.inl rfl)⟩
  ·exact⟨2,e,.inl rfl⟩
  ·exact⟨0,e1,.inr (.inr ⟨rfl,e2⟩)⟩
 ·right;omega
theorem jdj (w:World)(b:Nat)(hb:b<18446744073709551616)(htab:Lib.TabIs Tryz.prog w "internal/strconv.uint64pow10" .u64 Lib.pow10Tab) :
  Calls Tryz.prog 114 #[.int .u64 (b:Int)] w fun e w'=>(∃R:ByteArray,e=.returned (.string R)/\jV b R.data.toList)/\Below w.heap.size w w':=by
 rcases jif b hb with ⟨kd,h1,h2⟩ | ⟨h1,h2⟩
 ·exact jga w b kd hb h1 h2
 ·exact jjq w b _ hb rfl h1 h2 htab
open Go.RowKit Go.Sort
theorem jnr {r j d t:Nat}(hi:r<9218868437227405312)(h:XX r j (d*10 ^ t))(hd:d≠0):t<=4001:=by
 obtain⟨h1,h2,_⟩:=h;have hX:=jpJ r hi;have hlt:=jaU (qN (fX r)).2.1;rw [Zo] at hlt;obtain⟨K,hK⟩:∃K,K=(qJ (fX r)).length:=⟨_,rfl⟩
 rw [<-hK] at hX hlt
 have hu:d*10 ^ t<=fX r+10 ^ j:=by
  have u1:=Zk (fX r) j
  have u2:zD (fX r) j<=fX r+10 ^ j:=by
   unfold zD;split
   ·exact Nat.le_trans u1 (Nat.le_add_right _ _)
   ·exact Nat.add_le_add_right u1 _
  have u3:qg (fX r) j<=fX r+10 ^ j:=Nat.le_trans u1 (Nat.le_add_right _ _);unfold QY at h2
  rcases h2 with ⟨_,_,e⟩ | ⟨_,_,e⟩ | ⟨_,_,⟨_,e⟩ | ⟨_,e⟩⟩<;>rw [e]<;>first | exact u2 | exact u3
 have h3:1*10 ^ t<=d*10 ^ t:=Nat.mul_le_mul_right _ (by omega);have h4:(10:Nat) ^ (K+1)=10 ^ K*10:=Nat.pow_succ ..;have h5:(10:Nat) ^ t<10 ^ (K+1):=by omega
 have:=(Nat.pow_lt_pow_iff_right (a:=10) (by decide)).1 h5;omega
end bigs
end Go.Proofs.YtnbfnjhbmeocfabGreatDoor
