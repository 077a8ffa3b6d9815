/- Of our texts, what this claim reaches. -/
import Derived.Test.YtnbfnjhbmeocfaaGreatDoorPstAP
import Derived.Lib.AppendIntMem
import Derived.Lib.Walk
import Derived.BigCall
import Derived.BigGuard
set_option linter.unusedVariables false
set_option maxHeartbeats 8000000
set_option maxRecDepth 100000
namespace Go.Proofs.YtnbfnjhbmeocfaaGreatDoor
namespace bigs
open Go.RowKit Go.Sort
def zn:List Int:=[0,1,56,2,57,49,28,3,61,58,42,50,38,29,17,4,62,47,59,36,45,43,51,22,53,39,33,30,24,18,12,5,63,55,48,27,60,41,37,16,46,35,44,21,52,32,23,11,54,26,40,15,34,20,31,10,25,14,19,9,13,8,7,6]
structure NumTabs (w:World):Prop where
 pow:Lib.TabIs Tryz.prog w "internal/strconv.uint64pow10" .u64 Lib.pow10Tab
 bru:Lib.TabIs Tryz.prog w "math/bits.deBruijn64tab" .u8 zn
theorem Jr {P:Program}{w w':World}{name:String}{k:IntKind}{zs:List Int}(h:Lib.TabIs P w name k zs)(hb:Below w.heap.size w w'):Lib.TabIs P w' name k zs:=by
 unfold Lib.TabIs World.var? at *
 cases hg:P.globalNamed name with
 | none=>simp [hg] at h
 | some g=>
  simp only [hg,Option.bind_some] at h ⊢
  have hlt:g<w.heap.size:=by
   rcases Nat.lt_or_ge g w.heap.size with k | k
   ·exact k
   ·rw [Array.getElem?_eq_none k] at h
    simp at h
  rw [hb.block g hlt];exact h
def jc3 (b s:Nat):Prop:=(b=2/\s=1)\/(b=8/\s=3)\/(b=16/\s=4)
theorem jbd (w:World)(b s:Nat)(h:jc3 b s):Calls Tryz.prog 301 #[.int .i64 (b:Int)] w fun e w'=>e=.returned (.bool true)/\w'=w:=by
 rcases h with ⟨rfl,rfl⟩ | ⟨rfl,rfl⟩ | ⟨rfl,rfl⟩
 ·have a0:Go.bits .and .i64 2 1=0:=by decide
  go_enter Tryz.func301,Tryz.ntmps301
  go_wp2;go_ret;exact⟨rfl,rfl⟩
 ·have a0:Go.bits .and .i64 8 7=0:=by decide
  go_enter Tryz.func301,Tryz.ntmps301
  go_wp2;go_ret;exact⟨rfl,rfl⟩
 ·have a0:Go.bits .and .i64 16 15=0:=by decide
  go_enter Tryz.func301,Tryz.ntmps301
  go_wp2;go_ret;exact⟨rfl,rfl⟩
theorem jh7 (w:World)(b s:Nat)(h:jc3 b s)(ht:Lib.TabIs Tryz.prog w "math/bits.deBruijn64tab" .u8 zn):Calls Tryz.prog 307 #[.int .u64 (b:Int)] w fun e w'=>e=.returned (.int .i64 (s:Int))/\w'=w:=by
 have hg:Tryz.prog.globalNamed "math/bits.deBruijn64tab" = some 5:=by kernel_rfl
 have c1:w.cell? ⟨5,1,none⟩=some (.int .u8 1):=ht.cell hg 1 (by decide)
 have c7:w.cell? ⟨5,7,none⟩=some (.int .u8 3):=ht.cell hg 7 (by decide)
 have c15:w.cell? ⟨5,15,none⟩=some (.int .u8 4):=ht.cell hg 15 (by decide)
 clear ht hg
 rcases h with ⟨rfl,rfl⟩ | ⟨rfl,rfl⟩ | ⟨rfl,rfl⟩
 ·have a0:Go.bits .and .u64 2 (IntKind.u64.wrap (-2))=2:=by decide
  have a1:IntKind.u64.wrap (2*285870213051353865)=571740426102707730:=by decide
  have a2:(571740426102707730:Int) / 288230376151711744=1:=by decide
  go_enter Tryz.func307,Tryz.ntmps307
  go_wp2;go_ret;exact⟨rfl,rfl⟩
 ·have a0:Go.bits .and .u64 8 (IntKind.u64.wrap (-8))=8:=by decide
  have a1:IntKind.u64.wrap (8*285870213051353865)=2286961704410830920:=by decide
  have a2:(2286961704410830920:Int) / 288230376151711744=7:=by decide
  go_enter Tryz.func307,Tryz.ntmps307
  go_wp2;go_ret;exact⟨rfl,rfl⟩
 ·have a0:Go.bits .and .u64 16 (IntKind.u64.wrap (-16))=16:=by decide
  have a1:IntKind.u64.wrap (16*285870213051353865)=4573923408821661840:=by decide
  have a2:(4573923408821661840:Int) / 288230376151711744=15:=by decide
  go_enter Tryz.func307,Tryz.ntmps307
  go_wp2;go_ret;exact⟨rfl,rfl⟩
theorem jhX (w:World)(b s:Nat)(h:jc3 b s)(ht:Lib.TabIs Tryz.prog w "math/bits.deBruijn64tab" .u8 zn):Calls Tryz.prog 302 #[.int .u64 (b:Int)] w fun e w'=>e=.returned (.int .i64 (s:Int))/\w'=w:=by
 have K:=jb (jh7 w b s h ht);have hb:b<17:=by unfold jc3 at h;omega
 clear ht h
 go_enter Tryz.func302,Tryz.ntmps302
 go_wp2_with fail
 refine(ja K).mono ?_
 rintro _ w1 ⟨rfl,rfl⟩
 go_wp2;go_ret;exact⟨rfl,rfl⟩
def Tail (w:World)(g t i:Nat)(W:List UInt8):Prop:=∃cs,w.heap[g]?=some (.cells cs t)/\cs.size=65/\i+W.length=65/\∀j,j<W.length->cs[i+j]?=some (.int .u8 ((W.getD j 0).toNat:Int))
theorem Tail.store {w:World}{g t i:Nat}{W:List UInt8}(h:Tail w g t (i+1) W)(c:UInt8):Tail (w.setCell ⟨g,i,none⟩ (.int .u8 (c.toNat:Int))) g t i (c :: W):=by
 obtain⟨cs,h1,h2,h3,h4⟩:=h;refine⟨cs.setIfInBounds i (.int .u8 (c.toNat:Int)),?_,by simp [h2],by simp;omega,fun j hj=>?_⟩
 ·simp only [World.setCell,Array.getElem?_modify,h1]
  simp
 ·rw [Array.getElem?_setIfInBounds]
  cases j with
  | zero=>simp;omega
  | succ j=>
   rw [if_neg (by omega),show i+(j+1)=i+1+j by omega,h4 j (by simpa using hj)];rfl
theorem Tail.froz {w:World}{g t i:Nat}{W:List UInt8}(h:Tail w g t i W)(j:Nat):w.frozen? ⟨g,j,none⟩=false:=by
 obtain⟨cs,h1,_⟩:=h;simp [World.frozen?,h1]
theorem Tail.there {w:World}{g t i:Nat}{W:List UInt8}(h:Tail w g t i W)(j:Nat)(hj:j<65):∃v,w.cell? ⟨g,j,none⟩=some v:=by
 obtain⟨cs,h1,h2,_⟩:=h;refine⟨cs[j]'(by omega),?_⟩;simp only [World.cell?,h1];exact Array.getElem?_eq_getElem (by omega)
open Go.RowKit Go.Sort
def dgs:ByteArray:=⟨#[48,49,50,51,52,53,54,55,56,57,97,98,99,100,101,102,103,104,105,106,107,108,109,110,111,112,113,114,115,116,117,118,119,120,121,122]⟩
theorem jbH (d:Nat)(h:d<16)(W:World):(Instr.index 9 (.string ⟨#[48,49,50,51,52,53,54,55,56,57,97,98,99,100,101,102,103,104,105,106,107,108,109,110,111,112,113,114,115,116,117,118,119,120,121,122]⟩) (.int .u64 (d:Int))).run Tryz.prog W=.ok (.int .u8 ((hexc d).toNat:Int)) W:=by
 rw [run_index_string W 9 _ .u64 (d:Int) Tryz.underlying9];have hs:(⟨#[48,49,50,51,52,53,54,55,56,57,97,98,99,100,101,102,103,104,105,106,107,108,109,110,111,112,113,114,115,116,117,118,119,120,121,122]⟩:ByteArray).size=36:=rfl;rw [dif_pos (by rw [hs];omega)]
 congr 2
 have:∀k:Fin 16,((dgs.data[k.1]!).toNat:Int)=((hexc k.1).toNat:Int):=by decide +kernel
 have e:=this ⟨d,h⟩;rw [<-e];have hd:d<dgs.data.size:=by have:dgs.data.size=36:=rfl;omega
 rw [getElem!_pos dgs.data d hd];rfl
theorem jhy (W:World)(g i:Nat)(hi:i<65):(Instr.sliceAt 321 (.pointer (some ⟨g,0,none⟩)) (some (.int .i64 (i:Int))) none none).run Tryz.prog W=.ok (.slice (some ⟨g,i,none⟩) (65 - i) (65 - i)) W:=by
 have hal:(Tryz.prog).arrayLen 321=65:=by simp [Program.arrayLen,Tryz.underlying321]
 rw [run_sliceAt_array_l W 321 ⟨g,0,none⟩ (by simp [Program.arrayLen,Program.elem,Tryz.underlying321]) .i64 (i:Int) (by omega) (by rw [hal];omega)]
 go_simp
 omega
theorem jaC (W:World)(g i:Nat)(l:List UInt8)(h:Tail W g 321 i l):(convert 147 9 (.slice (some ⟨g,i,none⟩) (65 - i) (65 - i))).run Tryz.prog W=.ok (.string ⟨l.toArray⟩) W:=by
 obtain⟨cs,h1,h2,h3,h4⟩:=h
 have e:=run_convert_bytes_back (P:=Tryz.prog) W 147 9 5 ⟨g,i,none⟩ (65 - i) l Tryz.underlying147 Tryz.underlying5 Tryz.underlying9 (fun j hj=>by
  have c:W.cell? ⟨g,i+j,none⟩=some (.int .u8 ((l.getD j 0).toNat:Int)):=by
   simp only [World.cell?,h1];exact h4 j hj
  rw [Lib.add_plain,c];simp [List.getD,hj])
 rwa [show l.length=65 - i by omega] at e
theorem w64:∀n:Int,0<=n->n<2 ^ 64->IntKind.u64.wrap n=n:=fun n h1 h2=>by
 simp [IntKind.wrap,IntKind.bits,IntKind.signed];omega
theorem jiY (P:Program)(t:TypeId)(z:Value)(h:(P.info? t).map (fun i=>i.zero)=some (some z)):∀W:World,(zeroValue t).run P W=.ok z W:=by
 intro W;cases hi:P.info? t with
 | none=>rw [hi] at h;cases h
 | some i=>
  rw [hi] at h;have h0:i.zero=some z:=by injection h
  simp [zeroValue,typeInfo,hi,h0]
theorem jgQ:∃Z:Array Value,Z.size=65/\∀W:World,(zeroValue 321).run Tryz.prog W=.ok (.agg Z) W:=by
 have h:((Tryz.prog).info? 321).map (fun i=>i.zero)=some (some (.agg (Array.replicate 65 (.int .u8 0)))):=by kernel_rfl
 exact⟨Array.replicate 65 (.int .u8 0),by simp,jiY _ _ _ h⟩
theorem jcA (w:World)(cs:Array Value)(h:cs.size=65):Tail (w.alloc (.cells cs 321)) w.heap.size 321 65 []:=by
 refine⟨cs,?_,h,rfl,fun j hj=>absurd hj (by simp)⟩
 show(w.heap.push _)[w.heap.size]?=_
 simp
theorem jki (x:Nat)(hx:x<18446744073709551616):Go.bits .and .u64 (x:Int) 1=((x % 2:Nat):Int):=by
 have h:=bits_mask .u64 64 (by decide) w64 1 (by decide) (x:Int) (by omega) (by omega);have e:((2:Int) ^ 1 - 1)=1:=by decide
 rw [e] at h;rw [h];omega
theorem jiG (w:World)(u:Nat)(hu:u<18446744073709551616)(ht:Lib.TabIs Tryz.prog w "math/bits.deBruijn64tab" .u8 zn) :
  Calls Tryz.prog 287 #[.slice none 0 0,.int .u64 (u:Int),.int .i64 2,.bool false,.bool false] w fun e w'=>e=.returned (.tuple #[.slice none 0 0,.string ⟨(digB 2 u).toArray⟩])/\Below w.heap.size w w':=by
 have hp:jc3 2 1:=by unfold jc3;omega
 have KP:∀W,Hid (Calls Tryz.prog 301 #[.int .i64 2] W fun e w'=>e=.returned (.bool true)/\w'=W):=fun W=>jb (jbd W 2 1 hp)
 have KT:∀W,Lib.TabIs Tryz.prog W "math/bits.deBruijn64tab" .u8 zn->Hid (Calls Tryz.prog 302 #[.int .u64 2] W fun e w'=>e=.returned (.int .i64 1)/\w'=W):=fun W h=>jb (jhX W 2 1 hp h)
 have HT:=jb ht;obtain⟨Z,hZ,hz⟩:=jgQ;clear ht hp
 go_enter Tryz.func287,Tryz.ntmps287
 go_wp2_with fail
 refine(ja (KP _)).mono ?_
 rintro _ w1 ⟨rfl,hw1⟩
 have T0:Hid (Tail w1 w.heap.size 321 65 []):=jb (by rw [hw1];exact jcA w _ hZ);have B1:Hid (Below w.heap.size w w1):=jb (by rw [hw1];exact(Below.refl _ _).alloc (Nat.le_refl _) _);clear hw1 KP
 go_wp2_with fail
 refine(ja (KT _ (Jr (ja HT) (ja B1)))).mono ?_
 rintro _ w2 ⟨rfl,rfl⟩
 clear KT HT
 go_wp2_with fail
 go_loopw [1,13] (fun v i wr=>∃(x m k:Nat) (W:List UInt8),v=.int .u64 (x:Int)/\i=.int .i64 (m:Int)/\Hid (m=k+1)/\m<=65/\x<18446744073709551616/\Hid (x<2 ^ k)/\Hid (digB 2 u=digB 2 x++W)/\Hid (Tail wr w.heap.size 321 m W)/\Hid (Below w.heap.size w wr)) (fun v _ _=>(intOf v).toNat)
 case atStart=>exact⟨u,65,64,[],rfl,rfl,jb rfl,by omega,hu,jb hu,jb (by simp),T0,B1⟩
 case round=>
  obtain⟨x,m,k,W,rfl,rfl,hm,m65,hx,hxk,hd,hT,hB⟩:=hrel;clear T0;have hmk:=ja hm;have y1:IntKind.i64.wrap ((m:Int) - 1)=(k:Int):=by simp [IntKind.wrap,IntKind.bits,IntKind.signed];omega
  have fz:wr.frozen? ⟨w.heap.size,k,none⟩=false:=(ja hT).froz k
  obtain⟨v0,hv0⟩:=(ja hT).there k (by omega);have k1:(k:Int)<65:=by omega
  have k0:(0:Int)<=(k:Int):=by omega
  by_cases c:2<=x
  ·have c1:(x:Int) ≥ 2:=by omega
   have ha:=jki x hx;have hd16:x % 2<16:=by omega
   have hix:=jbH (x % 2) hd16;have hn:digB 2 x=digB 2 (x / 2)++[hexc (x % 2)]:=digB_high (by decide) c;have HN:Hid (digB 2 u=digB 2 (x / 2)++hexc (x % 2) :: W):=jb (by rw [ja hd,hn,List.append_assoc];rfl)
   have hk1:Hid (∃k',k=k'+1/\x / 2<2 ^ k'):=jb (by
    cases k with
    | zero=>have:=ja hxk;simp at this;omega
    | succ k'=>
     refine⟨k',rfl,?_⟩;have:=ja hxk;rw [Nat.pow_succ] at this;omega)
   have hT':=ja hT;rw [hmk] at hT';have ST:Hid (Tail (wr.setCell ⟨w.heap.size,k,none⟩ (.int .u8 ((hexc (x % 2)).toNat:Int))) w.heap.size 321 k (hexc (x % 2) :: W)):=jb (hT'.store (hexc (x % 2)));have SB:Hid (Below w.heap.size w (wr.setCell ⟨w.heap.size,k,none⟩ (.int .u8 ((hexc (x % 2)).toNat:Int)))):=jb ((ja hB).setCell (p:=⟨w.heap.size,k,none⟩) (Nat.le_refl _) _);have hdiv:(x:Int) / 2=((x / 2:Nat):Int):=by omega
   have MS:Hid (x / 2<x):=jb (by omega);have hq:x / 2<18446744073709551616:=by omega
   clear hm hxk hd hT hB hmk hn hT';generalize x / 2=q at *;generalize hexc (x % 2)=ch at *;generalize x % 2=d at *;go_wp2;go_roundw
   case rel=>
    obtain⟨k',hk',hk''⟩:=ja hk1;exact⟨q,k,k',ch :: W,by first | rfl | simp,by first | rfl | simp,jb hk',by omega,hq,jb hk'',HN,ST,SB⟩
   case measure=>have:=ja MS;simp only [intOf];omega
  ·have c1:¬(x:Int) ≥ 2:=by omega
   have hd16:x<16:=by omega
   have hix:=jbH x hd16;have HN:Hid (digB 2 u=hexc x :: W):=jb (by rw [ja hd,digB_low (by omega)];rfl);have hT':=ja hT;rw [hmk] at hT';have ST:Tail (wr.setCell ⟨w.heap.size,k,none⟩ (.int .u8 ((hexc x).toNat:Int))) w.heap.size 321 k (hexc x :: W):=hT'.store (hexc x);have SB:Hid (Below w.heap.size w (wr.setCell ⟨w.heap.size,k,none⟩ (.int .u8 ((hexc x).toNat:Int)))):=jb ((ja hB).setCell (p:=⟨w.heap.size,k,none⟩) (Nat.le_refl _) _);have hcv:=jaC _ _ _ _ ST;have hsl:∀W,(Instr.sliceAt 321 (.pointer (some ⟨w.heap.size,0,none⟩)) (some (.int .i64 (k:Int))) none none).run Tryz.prog W=.ok (.slice (some ⟨w.heap.size,k,none⟩) (65 - k) (65 - k)) W:=fun W=>jhy W _ k (by omega)
   clear hm hxk hd hT hB hmk hT' ST;generalize hexc x=ch at *;generalize 65 - k=n65 at *;go_wp2;refine bodyPost_ret (v:=.tuple #[.slice none 0 0,.string ⟨(ch :: W).toArray⟩]) (by simp [results,Tryz.results287,go_sem]) rfl ?_
   rw [ja HN];exact⟨rfl,ja SB⟩
theorem jjx (x:Nat)(hx:x<18446744073709551616):Go.bits .and .u64 (x:Int) 15=((x % 16:Nat):Int):=by
 have h:=bits_mask .u64 64 (by decide) w64 4 (by decide) (x:Int) (by omega) (by omega);have e:((2:Int) ^ 4 - 1)=15:=by decide
 rw [e] at h;rw [h];omega
theorem QX (w:World)(u:Nat)(hu:u<18446744073709551616)(ht:Lib.TabIs Tryz.prog w "math/bits.deBruijn64tab" .u8 zn) :
  Calls Tryz.prog 287 #[.slice none 0 0,.int .u64 (u:Int),.int .i64 16,.bool false,.bool false] w fun e w'=>e=.returned (.tuple #[.slice none 0 0,.string ⟨(digB 16 u).toArray⟩])/\Below w.heap.size w w':=by
 have hp:jc3 16 4:=by unfold jc3;omega
 have KP:∀W,Hid (Calls Tryz.prog 301 #[.int .i64 16] W fun e w'=>e=.returned (.bool true)/\w'=W):=fun W=>jb (jbd W 16 4 hp)
 have KT:∀W,Lib.TabIs Tryz.prog W "math/bits.deBruijn64tab" .u8 zn->Hid (Calls Tryz.prog 302 #[.int .u64 16] W fun e w'=>e=.returned (.int .i64 4)/\w'=W):=fun W h=>jb (jhX W 16 4 hp h)
 have HT:=jb ht;obtain⟨Z,hZ,hz⟩:=jgQ;clear ht hp
 go_enter Tryz.func287,Tryz.ntmps287
 go_wp2_with fail
 refine(ja (KP _)).mono ?_
 rintro _ w1 ⟨rfl,hw1⟩
 have T0:Hid (Tail w1 w.heap.size 321 65 []):=jb (by rw [hw1];exact jcA w _ hZ);have B1:Hid (Below w.heap.size w w1):=jb (by rw [hw1];exact(Below.refl _ _).alloc (Nat.le_refl _) _);clear hw1 KP
 go_wp2_with fail
 refine(ja (KT _ (Jr (ja HT) (ja B1)))).mono ?_
 rintro _ w2 ⟨rfl,rfl⟩
 clear KT HT
 go_wp2_with fail
 go_loopw [1,13] (fun v i wr=>∃(x m k:Nat) (W:List UInt8),v=.int .u64 (x:Int)/\i=.int .i64 (m:Int)/\Hid (m=k+1)/\m<=65/\x<18446744073709551616/\Hid (x<2 ^ k)/\Hid (digB 16 u=digB 16 x++W)/\Hid (Tail wr w.heap.size 321 m W)/\Hid (Below w.heap.size w wr)) (fun v _ _=>(intOf v).toNat)
 case atStart=>exact⟨u,65,64,[],rfl,rfl,jb rfl,by omega,hu,jb hu,jb (by simp),T0,B1⟩
 case round=>
  obtain⟨x,m,k,W,rfl,rfl,hm,m65,hx,hxk,hd,hT,hB⟩:=hrel;clear T0;have hmk:=ja hm;have y1:IntKind.i64.wrap ((m:Int) - 1)=(k:Int):=by simp [IntKind.wrap,IntKind.bits,IntKind.signed];omega
  have fz:wr.frozen? ⟨w.heap.size,k,none⟩=false:=(ja hT).froz k
  obtain⟨v0,hv0⟩:=(ja hT).there k (by omega);have k1:(k:Int)<65:=by omega
  have k0:(0:Int)<=(k:Int):=by omega
  by_cases c:16<=x
  ·have c1:(x:Int) ≥ 16:=by omega
   have ha:=jjx x hx;have hd16:x % 16<16:=by omega
   have hix:=jbH (x % 16) hd16;have hn:digB 16 x=digB 16 (x / 16)++[hexc (x % 16)]:=digB_high (by decide) c;have HN:Hid (digB 16 u=digB 16 (x / 16)++hexc (x % 16) :: W):=jb (by rw [ja hd,hn,List.append_assoc];rfl)
   have hk1:Hid (∃k',k=k'+1/\x / 16<2 ^ k'):=jb (by
    cases k with
    | zero=>have:=ja hxk;simp at this;omega
    | succ k'=>
     refine⟨k',rfl,?_⟩;have:=ja hxk;rw [Nat.pow_succ] at this;omega)
   have hT':=ja hT;rw [hmk] at hT';have ST:Hid (Tail (wr.setCell ⟨w.heap.size,k,none⟩ (.int .u8 ((hexc (x % 16)).toNat:Int))) w.heap.size 321 k (hexc (x % 16) :: W)):=jb (hT'.store (hexc (x % 16)));have SB:Hid (Below w.heap.size w (wr.setCell ⟨w.heap.size,k,none⟩ (.int .u8 ((hexc (x % 16)).toNat:Int)))):=jb ((ja hB).setCell (p:=⟨w.heap.size,k,none⟩) (Nat.le_refl _) _);have hdiv:(x:Int) / 16=((x / 16:Nat):Int):=by omega
   have MS:Hid (x / 16<x):=jb (by omega);have hq:x / 16<18446744073709551616:=by omega
   clear hm hxk hd hT hB hmk hn hT';generalize x / 16=q at *;generalize hexc (x % 16)=ch at *;generalize x % 16=d at *;go_wp2;go_roundw
   case rel=>
    obtain⟨k',hk',hk''⟩:=ja hk1;exact⟨q,k,k',ch :: W,by first | rfl | simp,by first | rfl | simp,jb hk',by omega,hq,jb hk'',HN,ST,SB⟩
   case measure=>have:=ja MS;simp only [intOf];omega
  ·have c1:¬(x:Int) ≥ 16:=by omega
   have hd16:x<16:=by omega
   have hix:=jbH x hd16;have HN:Hid (digB 16 u=hexc x :: W):=jb (by rw [ja hd,digB_low (by omega)];rfl);have hT':=ja hT;rw [hmk] at hT';have ST:Tail (wr.setCell ⟨w.heap.size,k,none⟩ (.int .u8 ((hexc x).toNat:Int))) w.heap.size 321 k (hexc x :: W):=hT'.store (hexc x);have SB:Hid (Below w.heap.size w (wr.setCell ⟨w.heap.size,k,none⟩ (.int .u8 ((hexc x).toNat:Int)))):=jb ((ja hB).setCell (p:=⟨w.heap.size,k,none⟩) (Nat.le_refl _) _);have hcv:=jaC _ _ _ _ ST;have hsl:∀W,(Instr.sliceAt 321 (.pointer (some ⟨w.heap.size,0,none⟩)) (some (.int .i64 (k:Int))) none none).run Tryz.prog W=.ok (.slice (some ⟨w.heap.size,k,none⟩) (65 - k) (65 - k)) W:=fun W=>jhy W _ k (by omega)
   clear hm hxk hd hT hB hmk hT' ST;generalize hexc x=ch at *;generalize 65 - k=n65 at *;go_wp2;refine bodyPost_ret (v:=.tuple #[.slice none 0 0,.string ⟨(ch :: W).toArray⟩]) (by simp [results,Tryz.results287,go_sem]) rfl ?_
   rw [ja HN];exact⟨rfl,ja SB⟩
open Go.RowKit Go.Sort
theorem jaa (n:Int):Lib.itoa n=tellB 10 n:=by
 unfold Lib.itoa tellB;rw [show preB 10=[] by rfl,List.nil_append,digB_ten];split
 ·rfl
 ·rw [List.nil_append]
  congr 1
  omega
theorem jfj (w:World)(n:Int)(h0 : -9223372036854775808<=n)(h1:n<=9223372036854775807)(ht:NumTabs w) :
  Calls Tryz.prog 230 #[.int .i64 n] w fun e w'=>e=.returned (.string ⟨(tellB 10 n).toArray⟩)/\Below w.heap.size w w':=by
 have k:=Tryz.strconv_FormatInt_10 n h0 h1 w ht.pow;rw [jaa] at k;have K:=jb k;clear k ht
 go_enter Tryz.func230,Tryz.ntmps230
 go_wp2_with fail
 refine(ja K).mono ?_
 rintro e w' ⟨rfl,k,os,hw⟩
 have B:Hid (Below w.heap.size w w'):=jb (by rw [hw];exact Lib.below_grow w.heap.size w (Nat.le_refl _) k os);clear hw K;go_wp2;go_ret;exact⟨rfl,ja B⟩
theorem jg (a b:List UInt8)(h:a.length+b.length<=9223372036854775807)(u:World):(Op.stringOp .add ⟨a.toArray⟩ ⟨b.toArray⟩).run Tryz.prog u=.ok (.string ⟨(a++b).toArray⟩) u:=by
 rw [run_string_add_sum _ _ _ (by rw [jaZ,jaZ];exact h)]
 congr 2
open Go.RowKit Go.Sort
def jjp:ByteArray:=⟨#[48,49,50,51,52,53,54,55,56,57,97,98,99,100,101,102]⟩
theorem zD (d:Nat)(h:d<16):jjp.extract d (d+1)=⟨#[hexc d]⟩:=by
 have:∀k:Fin 16,(jjp.extract k.1 (k.1+1)).data=#[hexc k.1]:=by decide +kernel
 exact ByteArray.ext (this ⟨d,h⟩)
def Left (b:Nat)(N:Nat)(x:Int)(S:List UInt8):Prop:=(x=0/\S≠[]/\digB b N=S)\/(¬(x=0/\S≠[])/\digB b N=digB b x.natAbs++S)
theorem Zm {b N:Nat}{x:Int}{S:List UInt8}(h:Left b N x S)(hl:(digB b N).length<=64):S.length<=64:=by
 rcases h with ⟨_,_,e⟩ | ⟨_,e⟩
 ·rw [<-e];exact hl
 ·rw [e,List.length_append] at hl;omega
theorem QI {b N:Nat}{x q:Int}{S:List UInt8}(hb:2<=b)(h:Left b N x S)(hgo:¬(x=0/\S≠[]))(hq:q.natAbs=x.natAbs / b):Left b N q (hexc (x.natAbs % b) :: S):=by
 rcases h with ⟨e1,e2,_⟩ | ⟨_,e⟩
 ·exact absurd ⟨e1,e2⟩ hgo
 ·by_cases c:x.natAbs<b
  ·left
   have:x.natAbs / b=0:=Nat.div_eq_of_lt c;refine⟨by omega,by simp,?_⟩;rw [e,digB_low c,Nat.mod_eq_of_lt c];rfl
  ·right
   have hp:0<x.natAbs / b:=Nat.div_pos (by omega) (by omega);refine⟨fun h=>by omega,?_⟩;rw [e,digB_high hb (by omega),hq,List.append_assoc];rfl
theorem Zj (x:Int)(b:Nat):(x.tdiv (b:Int)).natAbs=x.natAbs / b:=by
 rw [Int.natAbs_tdiv];rfl
theorem Zn (x:Int)(b:Nat):(x.tmod (b:Int)).natAbs=x.natAbs % b:=by
 rw [Int.natAbs_tmod];rfl
theorem zI (x:Int)(h0 : -9223372036854775808<=x)(h1:x<=9223372036854775807):IntKind.i64.wrap x=x:=by
 simp [IntKind.wrap,IntKind.bits,IntKind.signed];omega
theorem QK (S:ByteArray)(h:S.data.toList≠[]):S.toList.isEmpty=false:=by
 rw [ByteArray.toList_eq];cases hs:S.data.toList with
 | nil=>exact absurd hs h
 | cons a r=>rfl
theorem qa (F:List UInt8)(S:ByteArray)(h:F.length+S.size<=9223372036854775807)(u:World):(Op.stringOp .add ⟨F.toArray⟩ S).run Tryz.prog u=.ok (.string ⟨(F++S.data.toList).toArray⟩) u:=by
 have:=jg F S.data.toList (by rw [X4];exact h) u;rwa [jfN] at this
theorem jgc (w:World)(n:Int)(b:Nat)(hb2:2<=b)(hb:b<=16)(h0 : -9223372036854775808<=n)(h1:n<=9223372036854775807)(n0:n≠0)(T:ByteArray)(hT:Hid (T=⟨((if n<0 then [45] else [])++([48,98]++digB b n.natAbs)).toArray⟩))(hl:Hid ((digB b n.natAbs).length<=64))
  (f0:((b:Int) == 2)=true) :
  Calls Tryz.prog 41 #[.int .i64 n,.int .i64 (b:Int)] w fun e w'=>e=.returned (.string T)/\w'=w:=by
 have bz:((b:Int) == 0)=false:=beq_false_of_ne (by omega)
 go_enter Tryz.func41,Tryz.ntmps41
 go_wp2
 go_loopw [7,6] (fun m s wr=>∃(x:Int) (S:ByteArray),m=.int .i64 x/\s=.string S/\Hid (-9223372036854775808<=x/\x<=9223372036854775807)/\Hid (Left b n.natAbs x S.data.toList)/\Hid (x=0->S.data.toList≠[])/\wr=w) (fun m s _=>(intOf m).natAbs+(match s with | .string t=>if t.size=0 then 1 else 0 | _=>0))
 case atStart=>exact⟨n,⟨#[]⟩,rfl,rfl,jb ⟨h0,h1⟩,jb (.inr ⟨by simp,by simp⟩),jb (fun h=>absurd h n0),rfl⟩
 case round=>
  obtain⟨x,S,rfl,rfl,hx,hL,hne,rfl⟩:=hrel
  have SL:S.size<=64:=by
   have:=Zm (ja hL) (ja hl);rwa [X4] at this
  by_cases stop:x=0/\S.data.toList≠[]
  ·obtain⟨rfl,hS⟩:=stop
   have e:Hid (digB b n.natAbs=S.data.toList):=jb (by
    rcases ja hL with ⟨_,_,e⟩ | ⟨e,_⟩
    ·exact e
    ·exact absurd ⟨rfl,hS⟩ e)
   have i1:=QK S hS;clear hL hx hl hS hne
   by_cases neg:n<0
   ·have HT:Hid (T=⟨([45,48,98]++S.data.toList).toArray⟩):=jb (by rw [ja hT,if_pos neg,ja e];rfl)
    have a1:∀u:World,(Op.stringOp .add ⟨#[45]⟩ ⟨#[48,98]⟩).run Tryz.prog u=.ok (.string ⟨#[45,48,98]⟩) u:=fun u=>jg [45] [48,98] (by simp) u
    have a2:∀u:World,(Op.stringOp .add ⟨#[45,48,98]⟩ S).run Tryz.prog u=.ok (.string T) u:=fun u=>by rw [ja HT];exact qa [45,48,98] S (by simp;omega) u
    clear hT e HT;go_wp2;go_ret;exact⟨rfl,rfl⟩
   ·have HT:Hid (T=⟨([48,98]++S.data.toList).toArray⟩):=jb (by rw [ja hT,if_neg neg,ja e];rfl)
    have a2:∀u:World,(Op.stringOp .add ⟨#[48,98]⟩ S).run Tryz.prog u=.ok (.string T) u:=fun u=>by rw [ja HT];exact qa [48,98] S (by simp;omega) u
    clear hT e HT;go_wp2;go_ret;exact⟨rfl,rfl⟩
  ·have hd16:x.natAbs % b<b:=Nat.mod_lt _ (by omega)
   have st:=fun q hq=>QI (q:=q) hb2 (ja hL) stop hq
   obtain⟨q,hq⟩:∃q,q=x.tdiv (b:Int):=⟨_,rfl⟩
   obtain⟨r,hr⟩:∃r,r=x.tmod (b:Int):=⟨_,rfl⟩
   have q1:=Zj x b;have q2:=Zn x b;rw [<-hq] at q1;rw [<-hr] at q2;have h2:x.natAbs / b<=x.natAbs / 2:=Nat.div_le_div_left hb2 (by decide);have hx1:=(ja hx).1;have hx2:=(ja hx).2;obtain⟨xb,hxb⟩:∃xb,xb=x.natAbs / b:=⟨_,rfl⟩
   rw [<-hxb] at q1 h2;have y1:x.tmod (b:Int)=r:=hr.symm;have y2:IntKind.i64.wrap (x.tdiv (b:Int))=q:=by rw [<-hq,zI _ (by omega) (by omega)]
   have HS:=jb (st q (by rw [q1,hxb]));have HB:Hid (-9223372036854775808<=q/\q<=9223372036854775807):=jb (by omega)
   have HM:Hid (q.natAbs<x.natAbs+(if S.size=0 then 1 else 0)):=jb (by
    rw [q1,hxb]
    by_cases z:x.natAbs=0
    ·have:S.data.toList=[]:=by
      rcases Classical.em (S.data.toList=[]) with h | h
      ·exact h
      ·exact absurd ⟨by omega,h⟩ stop
     have:S.size=0:=by rw [<-X4,this];rfl
     rw [if_pos this,z];simp
    ·have:=Nat.div_lt_self (n:=x.natAbs) (k:=b) (by omega) (by omega)
     omega)
   obtain⟨d,hd⟩:∃d,d=x.natAbs % b:=⟨_,rfl⟩
   rw [<-hd] at hd16 q2 HS;have hd':d<16:=by omega
   have hext:(⟨#[48,49,50,51,52,53,54,55,56,57,97,98,99,100,101,102]⟩:ByteArray).extract d (d+1)=⟨#[hexc d]⟩:=zD d hd';have hadd:∀u:World,(Op.stringOp .add ⟨#[hexc d]⟩ S).run Tryz.prog u=.ok (.string ⟨(hexc d :: S.data.toList).toArray⟩) u:=fun u=>qa [hexc d] S (by simp;omega) u
   have z1:IntKind.i64.wrap ((d:Int)+1)=((d+1:Nat):Int):=by rw [zI _ (by omega) (by omega)];omega
   have g:x≠0:=fun z=>stop ⟨z,ja hne z⟩
   have p0:(0:Int)<=(d:Int):=by omega
   have p1:(d:Int)<=((d+1:Nat):Int):=by omega
   have p2:((d+1:Nat):Int)<=16:=by omega
   obtain⟨R,hR⟩:∃R:ByteArray,R=⟨(hexc d :: S.data.toList).toArray⟩:=⟨_,rfl⟩
   have RL:Hid (Left b n.natAbs q R.data.toList):=jb (by rw [hR];exact ja HS);have RN:Hid (q=0->R.data.toList≠[]):=jb (fun _=>by rw [hR];simp);have RS:Hid (R.size≠0):=jb (by rw [hR,jaZ];simp);rw [<-hR] at hadd;generalize hexc d=ch at *;generalize hdd:d+1=d1 at *;clear hne HS hR st hL hx hl hT stop q1 hd hr hdd hq hxb h2 hx1 hx2
   by_cases s1:r<0
   ·have z2:IntKind.i64.wrap (-r)=(d:Int):=by rw [zI _ (by omega) (by omega)];omega
    clear q2;have g3:(x == 0)=false:=beq_false_of_ne g;go_wp2;go_roundw
    case rel=>exact⟨q,R,by first | rfl | simp,rfl,HB,RL,RN,by trivial⟩
    case measure=>have:=ja HM;have h:=ja RS;simp only [intOf];rw [if_neg h];omega
   ·have z2:r=(d:Int):=by omega
    clear q2;subst z2;have g3:(x == 0)=false:=beq_false_of_ne g;go_wp2;go_roundw
    case rel=>exact⟨q,R,by first | rfl | simp,rfl,HB,RL,RN,by trivial⟩
    case measure=>have:=ja HM;have h:=ja RS;simp only [intOf];rw [if_neg h];omega
theorem jdp (w:World)(b:Nat)(hb2:2<=b)(hb:b<=16)
  (f0:((b:Int) == 2)=true) :
  Calls Tryz.prog 41 #[.int .i64 0,.int .i64 (b:Int)] w fun e w'=>e=.returned (.string ⟨#[48,98,48]⟩)/\w'=w:=by
 have bz:((b:Int) == 0)=false:=beq_false_of_ne (by omega);have hext:(⟨#[48,49,50,51,52,53,54,55,56,57,97,98,99,100,101,102]⟩:ByteArray).extract 0 1=⟨#[48]⟩:=zD 0 (by decide);have hadd:∀u:World,(Op.stringOp .add ⟨#[48]⟩ ⟨#[]⟩).run Tryz.prog u=.ok (.string ⟨#[48]⟩) u:=fun u=>jg [48] [] (by simp) u
 have a2:∀u:World,(Op.stringOp .add ⟨#[48,98]⟩ ⟨#[48]⟩).run Tryz.prog u=.ok (.string ⟨#[48,98,48]⟩) u:=fun u=>jg [48,98] [48] (by simp) u
 go_enter Tryz.func41,Tryz.ntmps41
 go_wp2
 go_loopw [7,6] (fun m s wr=>∃k:Nat,m=.int .i64 0/\((k=0/\s=.string ⟨#[]⟩)\/(k=1/\s=.string ⟨#[48]⟩))/\wr=w) (fun m s _=>(match s with | .string t=>if t.size=0 then 1 else 0 | _=>0))
 case atStart=>exact⟨0,rfl,.inl ⟨rfl,rfl⟩,rfl⟩
 case round=>
  obtain⟨k,rfl,hk,rfl⟩:=hrel
  rcases hk with ⟨rfl,rfl⟩ | ⟨rfl,rfl⟩
  ·go_wp2
   go_roundw
   case rel=>exact⟨1,by first | rfl | simp,.inr ⟨rfl,by first | rfl | trivial⟩,by trivial⟩
   case measure=>decide
  ·go_wp2
   go_ret;exact⟨rfl,rfl⟩
theorem jgI (w:World)(n:Int)(b:Nat)(hb2:2<=b)(hb:b<=16)(h0 : -9223372036854775808<=n)(h1:n<=9223372036854775807)(n0:n≠0)(T:ByteArray)(hT:Hid (T=⟨((if n<0 then [45] else [])++([48,111]++digB b n.natAbs)).toArray⟩))(hl:Hid ((digB b n.natAbs).length<=64))
  (f0:((b:Int) == 2)=false) (f1:((b:Int) == 8)=true) :
  Calls Tryz.prog 41 #[.int .i64 n,.int .i64 (b:Int)] w fun e w'=>e=.returned (.string T)/\w'=w:=by
 have bz:((b:Int) == 0)=false:=beq_false_of_ne (by omega)
 go_enter Tryz.func41,Tryz.ntmps41
 go_wp2
 go_loopw [7,6] (fun m s wr=>∃(x:Int) (S:ByteArray),m=.int .i64 x/\s=.string S/\Hid (-9223372036854775808<=x/\x<=9223372036854775807)/\Hid (Left b n.natAbs x S.data.toList)/\Hid (x=0->S.data.toList≠[])/\wr=w) (fun m s _=>(intOf m).natAbs+(match s with | .string t=>if t.size=0 then 1 else 0 | _=>0))
 case atStart=>exact⟨n,⟨#[]⟩,rfl,rfl,jb ⟨h0,h1⟩,jb (.inr ⟨by simp,by simp⟩),jb (fun h=>absurd h n0),rfl⟩
 case round=>
  obtain⟨x,S,rfl,rfl,hx,hL,hne,rfl⟩:=hrel
  have SL:S.size<=64:=by
   have:=Zm (ja hL) (ja hl);rwa [X4] at this
  by_cases stop:x=0/\S.data.toList≠[]
  ·obtain⟨rfl,hS⟩:=stop
   have e:Hid (digB b n.natAbs=S.data.toList):=jb (by
    rcases ja hL with ⟨_,_,e⟩ | ⟨e,_⟩
    ·exact e
    ·exact absurd ⟨rfl,hS⟩ e)
   have i1:=QK S hS;clear hL hx hl hS hne
   by_cases neg:n<0
   ·have HT:Hid (T=⟨([45,48,111]++S.data.toList).toArray⟩):=jb (by rw [ja hT,if_pos neg,ja e];rfl)
    have a1:∀u:World,(Op.stringOp .add ⟨#[45]⟩ ⟨#[48,111]⟩).run Tryz.prog u=.ok (.string ⟨#[45,48,111]⟩) u:=fun u=>jg [45] [48,111] (by simp) u
    have a2:∀u:World,(Op.stringOp .add ⟨#[45,48,111]⟩ S).run Tryz.prog u=.ok (.string T) u:=fun u=>by rw [ja HT];exact qa [45,48,111] S (by simp;omega) u
    clear hT e HT;go_wp2;go_ret;exact⟨rfl,rfl⟩
   ·have HT:Hid (T=⟨([48,111]++S.data.toList).toArray⟩):=jb (by rw [ja hT,if_neg neg,ja e];rfl)
    have a2:∀u:World,(Op.stringOp .add ⟨#[48,111]⟩ S).run Tryz.prog u=.ok (.string T) u:=fun u=>by rw [ja HT];exact qa [48,111] S (by simp;omega) u
    clear hT e HT;go_wp2;go_ret;exact⟨rfl,rfl⟩
  ·have hd16:x.natAbs % b<b:=Nat.mod_lt _ (by omega)
   have st:=fun q hq=>QI (q:=q) hb2 (ja hL) stop hq
   obtain⟨q,hq⟩:∃q,q=x.tdiv (b:Int):=⟨_,rfl⟩
   obtain⟨r,hr⟩:∃r,r=x.tmod (b:Int):=⟨_,rfl⟩
   have q1:=Zj x b;have q2:=Zn x b;rw [<-hq] at q1;rw [<-hr] at q2;have h2:x.natAbs / b<=x.natAbs / 2:=Nat.div_le_div_left hb2 (by decide);have hx1:=(ja hx).1;have hx2:=(ja hx).2;obtain⟨xb,hxb⟩:∃xb,xb=x.natAbs / b:=⟨_,rfl⟩
   rw [<-hxb] at q1 h2;have y1:x.tmod (b:Int)=r:=hr.symm;have y2:IntKind.i64.wrap (x.tdiv (b:Int))=q:=by rw [<-hq,zI _ (by omega) (by omega)]
   have HS:=jb (st q (by rw [q1,hxb]));have HB:Hid (-9223372036854775808<=q/\q<=9223372036854775807):=jb (by omega)
   have HM:Hid (q.natAbs<x.natAbs+(if S.size=0 then 1 else 0)):=jb (by
    rw [q1,hxb]
    by_cases z:x.natAbs=0
    ·have:S.data.toList=[]:=by
      rcases Classical.em (S.data.toList=[]) with h | h
      ·exact h
      ·exact absurd ⟨by omega,h⟩ stop
     have:S.size=0:=by rw [<-X4,this];rfl
     rw [if_pos this,z];simp
    ·have:=Nat.div_lt_self (n:=x.natAbs) (k:=b) (by omega) (by omega)
     omega)
   obtain⟨d,hd⟩:∃d,d=x.natAbs % b:=⟨_,rfl⟩
   rw [<-hd] at hd16 q2 HS;have hd':d<16:=by omega
   have hext:(⟨#[48,49,50,51,52,53,54,55,56,57,97,98,99,100,101,102]⟩:ByteArray).extract d (d+1)=⟨#[hexc d]⟩:=zD d hd';have hadd:∀u:World,(Op.stringOp .add ⟨#[hexc d]⟩ S).run Tryz.prog u=.ok (.string ⟨(hexc d :: S.data.toList).toArray⟩) u:=fun u=>qa [hexc d] S (by simp;omega) u
   have z1:IntKind.i64.wrap ((d:Int)+1)=((d+1:Nat):Int):=by rw [zI _ (by omega) (by omega)];omega
   have g:x≠0:=fun z=>stop ⟨z,ja hne z⟩
   have p0:(0:Int)<=(d:Int):=by omega
   have p1:(d:Int)<=((d+1:Nat):Int):=by omega
   have p2:((d+1:Nat):Int)<=16:=by omega
   obtain⟨R,hR⟩:∃R:ByteArray,R=⟨(hexc d :: S.data.toList).toArray⟩:=⟨_,rfl⟩
   have RL:Hid (Left b n.natAbs q R.data.toList):=jb (by rw [hR];exact ja HS);have RN:Hid (q=0->R.data.toList≠[]):=jb (fun _=>by rw [hR];simp);have RS:Hid (R.size≠0):=jb (by rw [hR,jaZ];simp);rw [<-hR] at hadd;generalize hexc d=ch at *;generalize hdd:d+1=d1 at *;clear hne HS hR st hL hx hl hT stop q1 hd hr hdd hq hxb h2 hx1 hx2
   by_cases s1:r<0
   ·have z2:IntKind.i64.wrap (-r)=(d:Int):=by rw [zI _ (by omega) (by omega)];omega
    clear q2;have g3:(x == 0)=false:=beq_false_of_ne g;go_wp2;go_roundw
    case rel=>exact⟨q,R,by first | rfl | simp,rfl,HB,RL,RN,by trivial⟩
    case measure=>have:=ja HM;have h:=ja RS;simp only [intOf];rw [if_neg h];omega
   ·have z2:r=(d:Int):=by omega
    clear q2;subst z2;have g3:(x == 0)=false:=beq_false_of_ne g;go_wp2;go_roundw
    case rel=>exact⟨q,R,by first | rfl | simp,rfl,HB,RL,RN,by trivial⟩
    case measure=>have:=ja HM;have h:=ja RS;simp only [intOf];rw [if_neg h];omega
theorem jeo (w:World)(b:Nat)(hb2:2<=b)(hb:b<=16)
  (f0:((b:Int) == 2)=false) (f1:((b:Int) == 8)=true) :
  Calls Tryz.prog 41 #[.int .i64 0,.int .i64 (b:Int)] w fun e w'=>e=.returned (.string ⟨#[48,111,48]⟩)/\w'=w:=by
 have bz:((b:Int) == 0)=false:=beq_false_of_ne (by omega);have hext:(⟨#[48,49,50,51,52,53,54,55,56,57,97,98,99,100,101,102]⟩:ByteArray).extract 0 1=⟨#[48]⟩:=zD 0 (by decide);have hadd:∀u:World,(Op.stringOp .add ⟨#[48]⟩ ⟨#[]⟩).run Tryz.prog u=.ok (.string ⟨#[48]⟩) u:=fun u=>jg [48] [] (by simp) u
 have a2:∀u:World,(Op.stringOp .add ⟨#[48,111]⟩ ⟨#[48]⟩).run Tryz.prog u=.ok (.string ⟨#[48,111,48]⟩) u:=fun u=>jg [48,111] [48] (by simp) u
 go_enter Tryz.func41,Tryz.ntmps41
 go_wp2
 go_loopw [7,6] (fun m s wr=>∃k:Nat,m=.int .i64 0/\((k=0/\s=.string ⟨#[]⟩)\/(k=1/\s=.string ⟨#[48]⟩))/\wr=w) (fun m s _=>(match s with | .string t=>if t.size=0 then 1 else 0 | _=>0))
 case atStart=>exact⟨0,rfl,.inl ⟨rfl,rfl⟩,rfl⟩
 case round=>
  obtain⟨k,rfl,hk,rfl⟩:=hrel
  rcases hk with ⟨rfl,rfl⟩ | ⟨rfl,rfl⟩
  ·go_wp2
   go_roundw
   case rel=>exact⟨1,by first | rfl | simp,.inr ⟨rfl,by first | rfl | trivial⟩,by trivial⟩
   case measure=>decide
  ·go_wp2
   go_ret;exact⟨rfl,rfl⟩
theorem jdi (w:World)(n:Int)(b:Nat)(hb2:2<=b)(hb:b<=16)(h0 : -9223372036854775808<=n)(h1:n<=9223372036854775807)(n0:n≠0)(T:ByteArray)(hT:Hid (T=⟨((if n<0 then [45] else [])++([48,120]++digB b n.natAbs)).toArray⟩))(hl:Hid ((digB b n.natAbs).length<=64))
  (f0:((b:Int) == 2)=false) (f1:((b:Int) == 8)=false) (f2:((b:Int) == 16)=true) :
  Calls Tryz.prog 41 #[.int .i64 n,.int .i64 (b:Int)] w fun e w'=>e=.returned (.string T)/\w'=w:=by
 have bz:((b:Int) == 0)=false:=beq_false_of_ne (by omega)
 go_enter Tryz.func41,Tryz.ntmps41
 go_wp2
 go_loopw [7,6] (fun m s wr=>∃(x:Int) (S:ByteArray),m=.int .i64 x/\s=.string S/\Hid (-9223372036854775808<=x/\x<=9223372036854775807)/\Hid (Left b n.natAbs x S.data.toList)/\Hid (x=0->S.data.toList≠[])/\wr=w) (fun m s _=>(intOf m).natAbs+(match s with | .string t=>if t.size=0 then 1 else 0 | _=>0))
 case atStart=>exact⟨n,⟨#[]⟩,rfl,rfl,jb ⟨h0,h1⟩,jb (.inr ⟨by simp,by simp⟩),jb (fun h=>absurd h n0),rfl⟩
 case round=>
  obtain⟨x,S,rfl,rfl,hx,hL,hne,rfl⟩:=hrel
  have SL:S.size<=64:=by
   have:=Zm (ja hL) (ja hl);rwa [X4] at this
  by_cases stop:x=0/\S.data.toList≠[]
  ·obtain⟨rfl,hS⟩:=stop
   have e:Hid (digB b n.natAbs=S.data.toList):=jb (by
    rcases ja hL with ⟨_,_,e⟩ | ⟨e,_⟩
    ·exact e
    ·exact absurd ⟨rfl,hS⟩ e)
   have i1:=QK S hS;clear hL hx hl hS hne
   by_cases neg:n<0
   ·have HT:Hid (T=⟨([45,48,120]++S.data.toList).toArray⟩):=jb (by rw [ja hT,if_pos neg,ja e];rfl)
    have a1:∀u:World,(Op.stringOp .add ⟨#[45]⟩ ⟨#[48,120]⟩).run Tryz.prog u=.ok (.string ⟨#[45,48,120]⟩) u:=fun u=>jg [45] [48,120] (by simp) u
    have a2:∀u:World,(Op.stringOp .add ⟨#[45,48,120]⟩ S).run Tryz.prog u=.ok (.string T) u:=fun u=>by rw [ja HT];exact qa [45,48,120] S (by simp;omega) u
    clear hT e HT;go_wp2;go_ret;exact⟨rfl,rfl⟩
   ·have HT:Hid (T=⟨([48,120]++S.data.toList).toArray⟩):=jb (by rw [ja hT,if_neg neg,ja e];rfl)
    have a2:∀u:World,(Op.stringOp .add ⟨#[48,120]⟩ S).run Tryz.prog u=.ok (.string T) u:=fun u=>by rw [ja HT];exact qa [48,120] S (by simp;omega) u
    clear hT e HT;go_wp2;go_ret;exact⟨rfl,rfl⟩
  ·have hd16:x.natAbs % b<b:=Nat.mod_lt _ (by omega)
   have st:=fun q hq=>QI (q:=q) hb2 (ja hL) stop hq
   obtain⟨q,hq⟩:∃q,q=x.tdiv (b:Int):=⟨_,rfl⟩
   obtain⟨r,hr⟩:∃r,r=x.tmod (b:Int):=⟨_,rfl⟩
   have q1:=Zj x b;have q2:=Zn x b;rw [<-hq] at q1;rw [<-hr] at q2;have h2:x.natAbs / b<=x.natAbs / 2:=Nat.div_le_div_left hb2 (by decide);have hx1:=(ja hx).1;have hx2:=(ja hx).2;obtain⟨xb,hxb⟩:∃xb,xb=x.natAbs / b:=⟨_,rfl⟩
   rw [<-hxb] at q1 h2;have y1:x.tmod (b:Int)=r:=hr.symm;have y2:IntKind.i64.wrap (x.tdiv (b:Int))=q:=by rw [<-hq,zI _ (by omega) (by omega)]
   have HS:=jb (st q (by rw [q1,hxb]));have HB:Hid (-9223372036854775808<=q/\q<=9223372036854775807):=jb (by omega)
   have HM:Hid (q.natAbs<x.natAbs+(if S.size=0 then 1 else 0)):=jb (by
    rw [q1,hxb]
    by_cases z:x.natAbs=0
    ·have:S.data.toList=[]:=by
      rcases Classical.em (S.data.toList=[]) with h | h
      ·exact h
      ·exact absurd ⟨by omega,h⟩ stop
     have:S.size=0:=by rw [<-X4,this];rfl
     rw [if_pos this,z];simp
    ·have:=Nat.div_lt_self (n:=x.natAbs) (k:=b) (by omega) (by omega)
     omega)
   obtain⟨d,hd⟩:∃d,d=x.natAbs % b:=⟨_,rfl⟩
   rw [<-hd] at hd16 q2 HS;have hd':d<16:=by omega
   have hext:(⟨#[48,49,50,51,52,53,54,55,56,57,97,98,99,100,101,102]⟩:ByteArray).extract d (d+1)=⟨#[hexc d]⟩:=zD d hd';have hadd:∀u:World,(Op.stringOp .add ⟨#[hexc d]⟩ S).run Tryz.prog u=.ok (.string ⟨(hexc d :: S.data.toList).toArray⟩) u:=fun u=>qa [hexc d] S (by simp;omega) u
   have z1:IntKind.i64.wrap ((d:Int)+1)=((d+1:Nat):Int):=by rw [zI _ (by omega) (by omega)];omega
   have g:x≠0:=fun z=>stop ⟨z,ja hne z⟩
   have p0:(0:Int)<=(d:Int):=by omega
   have p1:(d:Int)<=((d+1:Nat):Int):=by omega
   have p2:((d+1:Nat):Int)<=16:=by omega
   obtain⟨R,hR⟩:∃R:ByteArray,R=⟨(hexc d :: S.data.toList).toArray⟩:=⟨_,rfl⟩
   have RL:Hid (Left b n.natAbs q R.data.toList):=jb (by rw [hR];exact ja HS);have RN:Hid (q=0->R.data.toList≠[]):=jb (fun _=>by rw [hR];simp);have RS:Hid (R.size≠0):=jb (by rw [hR,jaZ];simp);rw [<-hR] at hadd;generalize hexc d=ch at *;generalize hdd:d+1=d1 at *;clear hne HS hR st hL hx hl hT stop q1 hd hr hdd hq hxb h2 hx1 hx2
   by_cases s1:r<0
   ·have z2:IntKind.i64.wrap (-r)=(d:Int):=by rw [zI _ (by omega) (by omega)];omega
    clear q2;have g3:(x == 0)=false:=beq_false_of_ne g;go_wp2;go_roundw
    case rel=>exact⟨q,R,by first | rfl | simp,rfl,HB,RL,RN,by trivial⟩
    case measure=>have:=ja HM;have h:=ja RS;simp only [intOf];rw [if_neg h];omega
   ·have z2:r=(d:Int):=by omega
    clear q2;subst z2;have g3:(x == 0)=false:=beq_false_of_ne g;go_wp2;go_roundw
    case rel=>exact⟨q,R,by first | rfl | simp,rfl,HB,RL,RN,by trivial⟩
    case measure=>have:=ja HM;have h:=ja RS;simp only [intOf];rw [if_neg h];omega
theorem jcb (w:World)(b:Nat)(hb2:2<=b)(hb:b<=16)
  (f0:((b:Int) == 2)=false) (f1:((b:Int) == 8)=false) (f2:((b:Int) == 16)=true) :
  Calls Tryz.prog 41 #[.int .i64 0,.int .i64 (b:Int)] w fun e w'=>e=.returned (.string ⟨#[48,120,48]⟩)/\w'=w:=by
 have bz:((b:Int) == 0)=false:=beq_false_of_ne (by omega);have hext:(⟨#[48,49,50,51,52,53,54,55,56,57,97,98,99,100,101,102]⟩:ByteArray).extract 0 1=⟨#[48]⟩:=zD 0 (by decide);have hadd:∀u:World,(Op.stringOp .add ⟨#[48]⟩ ⟨#[]⟩).run Tryz.prog u=.ok (.string ⟨#[48]⟩) u:=fun u=>jg [48] [] (by simp) u
 have a2:∀u:World,(Op.stringOp .add ⟨#[48,120]⟩ ⟨#[48]⟩).run Tryz.prog u=.ok (.string ⟨#[48,120,48]⟩) u:=fun u=>jg [48,120] [48] (by simp) u
 go_enter Tryz.func41,Tryz.ntmps41
 go_wp2
 go_loopw [7,6] (fun m s wr=>∃k:Nat,m=.int .i64 0/\((k=0/\s=.string ⟨#[]⟩)\/(k=1/\s=.string ⟨#[48]⟩))/\wr=w) (fun m s _=>(match s with | .string t=>if t.size=0 then 1 else 0 | _=>0))
 case atStart=>exact⟨0,rfl,.inl ⟨rfl,rfl⟩,rfl⟩
 case round=>
  obtain⟨k,rfl,hk,rfl⟩:=hrel
  rcases hk with ⟨rfl,rfl⟩ | ⟨rfl,rfl⟩
  ·go_wp2
   go_roundw
   case rel=>exact⟨1,by first | rfl | simp,.inr ⟨rfl,by first | rfl | trivial⟩,by trivial⟩
   case measure=>decide
  ·go_wp2
   go_ret;exact⟨rfl,rfl⟩
theorem jdK (w:World)(n:Int)(b:Nat)(hb2:2<=b)(hb:b<=16)(h0 : -9223372036854775808<=n)(h1:n<=9223372036854775807)(n0:n≠0)(T:ByteArray)(hT:Hid (T=⟨((if n<0 then [45] else [])++([]++digB b n.natAbs)).toArray⟩))(hl:Hid ((digB b n.natAbs).length<=64))
  (f0:((b:Int) == 2)=false) (f1:((b:Int) == 8)=false) (f2:((b:Int) == 16)=false) :
  Calls Tryz.prog 41 #[.int .i64 n,.int .i64 (b:Int)] w fun e w'=>e=.returned (.string T)/\w'=w:=by
 have bz:((b:Int) == 0)=false:=beq_false_of_ne (by omega)
 go_enter Tryz.func41,Tryz.ntmps41
 go_wp2
 go_loopw [7,6] (fun m s wr=>∃(x:Int) (S:ByteArray),m=.int .i64 x/\s=.string S/\Hid (-9223372036854775808<=x/\x<=9223372036854775807)/\Hid (Left b n.natAbs x S.data.toList)/\Hid (x=0->S.data.toList≠[])/\wr=w) (fun m s _=>(intOf m).natAbs+(match s with | .string t=>if t.size=0 then 1 else 0 | _=>0))
 case atStart=>exact⟨n,⟨#[]⟩,rfl,rfl,jb ⟨h0,h1⟩,jb (.inr ⟨by simp,by simp⟩),jb (fun h=>absurd h n0),rfl⟩
 case round=>
  obtain⟨x,S,rfl,rfl,hx,hL,hne,rfl⟩:=hrel
  have SL:S.size<=64:=by
   have:=Zm (ja hL) (ja hl);rwa [X4] at this
  by_cases stop:x=0/\S.data.toList≠[]
  ·obtain⟨rfl,hS⟩:=stop
   have e:Hid (digB b n.natAbs=S.data.toList):=jb (by
    rcases ja hL with ⟨_,_,e⟩ | ⟨e,_⟩
    ·exact e
    ·exact absurd ⟨rfl,hS⟩ e)
   have i1:=QK S hS;clear hL hx hl hS hne
   by_cases neg:n<0
   ·have HT:Hid (T=⟨([45]++S.data.toList).toArray⟩):=jb (by rw [ja hT,if_pos neg,ja e];rfl)
    have a1:∀u:World,(Op.stringOp .add ⟨#[45]⟩ ⟨#[]⟩).run Tryz.prog u=.ok (.string ⟨#[45]⟩) u:=fun u=>jg [45] [] (by simp) u
    have a2:∀u:World,(Op.stringOp .add ⟨#[45]⟩ S).run Tryz.prog u=.ok (.string T) u:=fun u=>by rw [ja HT];exact qa [45] S (by simp;omega) u
    clear hT e HT;go_wp2;go_ret;exact⟨rfl,rfl⟩
   ·have HT:Hid (T=⟨([]++S.data.toList).toArray⟩):=jb (by rw [ja hT,if_neg neg,ja e];rfl)
    have a2:∀u:World,(Op.stringOp .add ⟨#[]⟩ S).run Tryz.prog u=.ok (.string T) u:=fun u=>by rw [ja HT];exact qa [] S (by simp;omega) u
    clear hT e HT;go_wp2;go_ret;exact⟨rfl,rfl⟩
  ·have hd16:x.natAbs % b<b:=Nat.mod_lt _ (by omega)
   have st:=fun q hq=>QI (q:=q) hb2 (ja hL) stop hq
   obtain⟨q,hq⟩:∃q,q=x.tdiv (b:Int):=⟨_,rfl⟩
   obtain⟨r,hr⟩:∃r,r=x.tmod (b:Int):=⟨_,rfl⟩
   have q1:=Zj x b;have q2:=Zn x b;rw [<-hq] at q1;rw [<-hr] at q2;have h2:x.natAbs / b<=x.natAbs / 2:=Nat.div_le_div_left hb2 (by decide);have hx1:=(ja hx).1;have hx2:=(ja hx).2;obtain⟨xb,hxb⟩:∃xb,xb=x.natAbs / b:=⟨_,rfl⟩
   rw [<-hxb] at q1 h2;have y1:x.tmod (b:Int)=r:=hr.symm;have y2:IntKind.i64.wrap (x.tdiv (b:Int))=q:=by rw [<-hq,zI _ (by omega) (by omega)]
   have HS:=jb (st q (by rw [q1,hxb]));have HB:Hid (-9223372036854775808<=q/\q<=9223372036854775807):=jb (by omega)
   have HM:Hid (q.natAbs<x.natAbs+(if S.size=0 then 1 else 0)):=jb (by
    rw [q1,hxb]
    by_cases z:x.natAbs=0
    ·have:S.data.toList=[]:=by
      rcases Classical.em (S.data.toList=[]) with h | h
      ·exact h
      ·exact absurd ⟨by omega,h⟩ stop
     have:S.size=0:=by rw [<-X4,this];rfl
     rw [if_pos this,z];simp
    ·have:=Nat.div_lt_self (n:=x.natAbs) (k:=b) (by omega) (by omega)
     omega)
   obtain⟨d,hd⟩:∃d,d=x.natAbs % b:=⟨_,rfl⟩
   rw [<-hd] at hd16 q2 HS;have hd':d<16:=by omega
   have hext:(⟨#[48,49,50,51,52,53,54,55,56,57,97,98,99,100,101,102]⟩:ByteArray).extract d (d+1)=⟨#[hexc d]⟩:=zD d hd';have hadd:∀u:World,(Op.stringOp .add ⟨#[hexc d]⟩ S).run Tryz.prog u=.ok (.string ⟨(hexc d :: S.data.toList).toArray⟩) u:=fun u=>qa [hexc d] S (by simp;omega) u
   have z1:IntKind.i64.wrap ((d:Int)+1)=((d+1:Nat):Int):=by rw [zI _ (by omega) (by omega)];omega
   have g:x≠0:=fun z=>stop ⟨z,ja hne z⟩
   have p0:(0:Int)<=(d:Int):=by omega
   have p1:(d:Int)<=((d+1:Nat):Int):=by omega
   have p2:((d+1:Nat):Int)<=16:=by omega
   obtain⟨R,hR⟩:∃R:ByteArray,R=⟨(hexc d :: S.data.toList).toArray⟩:=⟨_,rfl⟩
   have RL:Hid (Left b n.natAbs q R.data.toList):=jb (by rw [hR];exact ja HS);have RN:Hid (q=0->R.data.toList≠[]):=jb (fun _=>by rw [hR];simp);have RS:Hid (R.size≠0):=jb (by rw [hR,jaZ];simp);rw [<-hR] at hadd;generalize hexc d=ch at *;generalize hdd:d+1=d1 at *;clear hne HS hR st hL hx hl hT stop q1 hd hr hdd hq hxb h2 hx1 hx2
   by_cases s1:r<0
   ·have z2:IntKind.i64.wrap (-r)=(d:Int):=by rw [zI _ (by omega) (by omega)];omega
    clear q2;have g3:(x == 0)=false:=beq_false_of_ne g;go_wp2;go_roundw
    case rel=>exact⟨q,R,by first | rfl | simp,rfl,HB,RL,RN,by trivial⟩
    case measure=>have:=ja HM;have h:=ja RS;simp only [intOf];rw [if_neg h];omega
   ·have z2:r=(d:Int):=by omega
    clear q2;subst z2;have g3:(x == 0)=false:=beq_false_of_ne g;go_wp2;go_roundw
    case rel=>exact⟨q,R,by first | rfl | simp,rfl,HB,RL,RN,by trivial⟩
    case measure=>have:=ja HM;have h:=ja RS;simp only [intOf];rw [if_neg h];omega
theorem jcw (w:World)(b:Nat)(hb2:2<=b)(hb:b<=16)
  (f0:((b:Int) == 2)=false) (f1:((b:Int) == 8)=false) (f2:((b:Int) == 16)=false) :
  Calls Tryz.prog 41 #[.int .i64 0,.int .i64 (b:Int)] w fun e w'=>e=.returned (.string ⟨#[48]⟩)/\w'=w:=by
 have bz:((b:Int) == 0)=false:=beq_false_of_ne (by omega);have hext:(⟨#[48,49,50,51,52,53,54,55,56,57,97,98,99,100,101,102]⟩:ByteArray).extract 0 1=⟨#[48]⟩:=zD 0 (by decide);have hadd:∀u:World,(Op.stringOp .add ⟨#[48]⟩ ⟨#[]⟩).run Tryz.prog u=.ok (.string ⟨#[48]⟩) u:=fun u=>jg [48] [] (by simp) u
 have a2:∀u:World,(Op.stringOp .add ⟨#[]⟩ ⟨#[48]⟩).run Tryz.prog u=.ok (.string ⟨#[48]⟩) u:=fun u=>jg [] [48] (by simp) u
 go_enter Tryz.func41,Tryz.ntmps41
 go_wp2
 go_loopw [7,6] (fun m s wr=>∃k:Nat,m=.int .i64 0/\((k=0/\s=.string ⟨#[]⟩)\/(k=1/\s=.string ⟨#[48]⟩))/\wr=w) (fun m s _=>(match s with | .string t=>if t.size=0 then 1 else 0 | _=>0))
 case atStart=>exact⟨0,rfl,.inl ⟨rfl,rfl⟩,rfl⟩
 case round=>
  obtain⟨k,rfl,hk,rfl⟩:=hrel
  rcases hk with ⟨rfl,rfl⟩ | ⟨rfl,rfl⟩
  ·go_wp2
   go_roundw
   case rel=>exact⟨1,by first | rfl | simp,.inr ⟨rfl,by first | rfl | trivial⟩,by trivial⟩
   case measure=>decide
  ·go_wp2
   go_ret;exact⟨rfl,rfl⟩
theorem jfk {b:Nat}(hb:2<=b):tellB b 0=preB b++[48]:=by
 unfold tellB;rw [if_neg (by decide),List.nil_append,show Int.natAbs 0=0 by rfl,digB_low (by omega)];rfl
theorem jcW (w:World)(n:Int)(b:Nat)(hb:GoodB b)(h0 : -9223372036854775808<=n)(h1:n<=9223372036854775807) :
  Calls Tryz.prog 41 #[.int .i64 n,.int .i64 (b:Int)] w fun e w'=>e=.returned (.string ⟨(tellB b n).toArray⟩)/\w'=w:=by
 have hl:Hid ((digB b n.natAbs).length<=64):=jb (by
  have h2:2<=b:=by unfold GoodB at hb;omega
  refine digB_len h2 63 _ (Nat.lt_of_lt_of_le (m:=2 ^ 64) (by omega) ?_);exact Nat.pow_le_pow_left h2 64)
 by_cases n0:n=0
 ·subst n0
  rw [jfk (by unfold GoodB at hb;omega)]
  rcases hb with rfl | rfl | rfl | rfl
  ·exact jdp w 2 (by decide) (by decide) rfl
  ·exact jeo w 8 (by decide) (by decide) rfl rfl
  ·exact jcw w 10 (by decide) (by decide) rfl rfl rfl
  ·exact jcb w 16 (by decide) (by decide) rfl rfl rfl
 ·rcases hb with rfl | rfl | rfl | rfl
  ·exact jgc w n 2 (by decide) (by decide) h0 h1 n0 _ (jb rfl) hl rfl
  ·exact jgI w n 8 (by decide) (by decide) h0 h1 n0 _ (jb rfl) hl rfl rfl
  ·exact jdK w n 10 (by decide) (by decide) h0 h1 n0 _ (jb rfl) hl rfl rfl rfl
  ·exact jdi w n 16 (by decide) (by decide) h0 h1 n0 _ (jb rfl) hl rfl rfl rfl
end bigs
end Go.Proofs.YtnbfnjhbmeocfaaGreatDoor
