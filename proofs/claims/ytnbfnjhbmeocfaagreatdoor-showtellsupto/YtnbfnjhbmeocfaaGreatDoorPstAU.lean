/- Of our texts, what this claim reaches. -/
import Derived.Test.YtnbfnjhbmeocfaaGreatDoorPstAT
import Derived.Deep.RegionWith
set_option linter.unusedVariables false
set_option maxHeartbeats 8000000
set_option maxRecDepth 100000
namespace Go.Proofs.YtnbfnjhbmeocfaaGreatDoor
namespace bigs
open Go.RowKit
def jc:List Nat->Nat
 | []=>0
 | d :: r=>d+4294967296*jc r
def je (l:List Nat):Prop:=∀j,j<l.length->l.getD j 0<4294967296
theorem jG {l:List Nat}(h:je l)(j:Nat):l.getD j 0<4294967296:=by
 by_cases hj:j<l.length
 ·exact h j hj
 ·rw [List.getD,List.getElem?_eq_none (by omega)];simp
theorem qu (l:List Nat)(k:Nat):jc (l.drop k)=l.getD k 0+4294967296*jc (l.drop (k+1)):=by
 by_cases h:k<l.length
 ·rw [List.drop_eq_getElem_cons h,jc]
  simp [List.getD,List.getElem?_eq_getElem h]
 ·have e:l.getD k 0=0:=by rw [List.getD,List.getElem?_eq_none (by omega)];rfl
  rw [e,List.drop_of_length_le (by omega),List.drop_of_length_le (by omega)];rfl
theorem qi {d:Nat}{r:List Nat}:je (d :: r)↔d<4294967296/\je r:=by
 constructor
 ·intro h
  exact⟨h 0 (by simp),fun j hj=>h (j+1) (by simpa using hj)⟩
 ·rintro⟨h1,h2⟩ j hj
  cases j with
  | zero=>exact h1
  | succ j=>exact h2 j (by simpa using hj)
theorem JX {l:List Nat}(h:je l):∀k,je (l.drop k):=by
 induction l with
 | nil=>intro k;rw [List.drop_nil];exact h
 | cons d r ih=>
  intro k;cases k with
  | zero=>exact h
  | succ k=>rw [List.drop_succ_cons];exact ih (qi.1 h).2 k
theorem Jo {l:List Nat}(h:je l):jc l<4294967296 ^ l.length:=by
 induction l with
 | nil=>simp [jc]
 | cons d r ih=>
  have h':=qi.1 h;have:=ih h'.2;rw [jc,List.length_cons,Nat.pow_succ];omega
def RowU (w:World)(a:Option Addr)(l:List Nat):Prop :=
 l≠[]->∃b o,a=some ⟨b,o,none⟩/\b<w.heap.size/\∀j,j<l.length->w.cell? ⟨b,o+j,none⟩=some (.int .u32 ((l.getD j 0:Nat):Int))
theorem RowU.below {w w':World}{a:Option Addr}{l:List Nat}(h:RowU w a l)(hb:Below w.heap.size w w'):RowU w' a l:=by
 intro h0;obtain⟨b,o,e,hlt,hc⟩:=h h0;refine⟨b,o,e,Nat.lt_of_lt_of_le hlt hb.size,fun j hj=>?_⟩;rw [hb.cell (p:=⟨b,o+j,none⟩) hlt];exact hc j hj
theorem jga {w w':World}{a:Addr}{v:Value}(hb:Below w.heap.size w w')(h:w.cell? a=some v):w'.cell? a=some v:=by
 rw [hb.cell (World.block_lt_of_cell? w a h)];exact h
open Go.RowKit
def Xg:Nat->Nat->List Nat
 | 0,_=>[]
 | f+1,n=>if n=0 then [] else n % 4294967296 :: Xg f (n / 4294967296)
theorem Yq (f:Nat):Xg f 0=[]:=by cases f<;>rfl
theorem jd3 (n:Nat):∀(f g:Nat),n<=f->n<=g->Xg f n=Xg g n:=by
 induction n using Nat.strongRecOn with
 | ind n ih=>
  intro f g hf hg
  by_cases h:n=0
  ·rw [h,Yq,Yq]
  ·obtain⟨f',rfl⟩:∃f',f=f'+1:=⟨f - 1,by omega⟩
   obtain⟨g',rfl⟩:∃g',g=g'+1:=⟨g - 1,by omega⟩
   rw [Xg,Xg,if_neg h,if_neg h,ih (n / 4294967296) (by omega) f' g' (by omega) (by omega)]
def jh (n:Nat):List Nat:=Xg n n
theorem jI:jh 0=[]:=rfl
theorem zB {n:Nat}(h:n≠0):jh n=n % 4294967296 :: jh (n / 4294967296):=by
 obtain⟨m,rfl⟩:∃m,n=m+1:=⟨n - 1,by omega⟩
 unfold jh;rw [Xg,if_neg h,jd3 ((m+1) / 4294967296) m ((m+1) / 4294967296) (by omega) (Nat.le_refl _)]
theorem ju (n:Nat):jc (jh n)=n:=by
 induction n using Nat.strongRecOn with
 | ind n ih=>
  by_cases h:n=0
  ·subst h;rw [jI];rfl
  ·rw [zB h,jc,ih _ (by omega)];omega
theorem jbZ:(Tryz.prog.info? 222).map (fun i=>(i.zero,i.size,i.bytes))=some (some (.int .u32 0),1,4):=by kernel_rfl
def wrd (n:Nat):Value:=.int .u32 (n:Int)
theorem jc0 {w:World}{base:Nat}{v:Value}{l:List Nat}(h:w.ownsRow base 222 1 v l.length (l.map wrd)) :
  ∃a cap,v=.slice a l.length cap/\l.length<=cap/\RowU w a l:=by
 have h':=h
 rcases h.2 with ⟨rfl,h0⟩ | ⟨g,cap,cur,rfl,_,hg,hcap,_⟩
 ·have:l=[]:=List.eq_nil_of_length_eq_zero h0
  subst this;exact⟨none,0,rfl,by simp,fun h=>absurd rfl h⟩
 ·refine⟨_,cap,rfl,hcap,fun _=>⟨g,0,rfl,(Array.getElem?_eq_some_iff.1 hg).1,fun j hj=>?_⟩⟩
  rw [Nat.zero_add,h'.cellAt j (by omega)];simp [wrd,List.getD,List.getElem?_eq_getElem hj]
open Go.RowKit
theorem ZC {b e:Nat}(hb:b<18446744073709551616):(dig (b ^ e)).length<=5*e+1:=by
 apply jN
 have h1:b ^ e<=(10000 ^ 5) ^ e:=Nat.pow_le_pow_left (Nat.le_trans (Nat.le_of_lt hb) (by decide)) _;rw [<-Nat.pow_mul] at h1;have h2:10000 ^ (5*e)<10000 ^ (5*e+1):=Nat.pow_lt_pow_right (by omega) (by omega);omega
theorem jhN (w:World):Calls Tryz.prog 105 #[.int .u64 1] w fun e w'=>∃v,e=.returned v/\Lies w' v 1/\ja4 w.heap.size v/\Below w.heap.size w w':=QL 1 w (by decide)
theorem jaD (w:World)(b N:Nat)(hb:b<18446744073709551616)(hN:N<=50000) :
  Calls Tryz.prog 53 #[.int .u64 b,.int .i64 N] w fun e w'=>∃v,e=.returned v/\Lies w' v (b ^ N)/\Below w.heap.size w w':=by
 go_enter Tryz.func53,Tryz.ntmps53
 go_wp2_with fail
 refine(jhN w).mono ?_
 rintro e w1 ⟨v1,rfl,hL1,_,b1⟩
 go_wp2_with fail
 refine(QL b w1 hb).mono ?_
 rintro e w2 ⟨v2,rfl,hL2,_,b2⟩
 have b12:=b1.trans (b2.mono b1.size);have hL1':=hL1.below b2;clear hL1 b1 b2
 go_wp2_with fail
 go_loopw [1,5,6] (fun nn vo vx wr=>∃(k f e:Nat),nn=.int .i64 k/\Hid (f+e*k=N)/\k<=N/\e<=100001/\f<=N/\Lies wr vo (b ^ f)/\Lies wr vx (b ^ e)/\Below w.heap.size w wr) (fun nn _ _ _=>(intOf nn).toNat)
 case atStart=>exact⟨N,0,1,rfl,by show _=_;omega,by omega,by omega,by omega,by rw [Nat.pow_zero];exact hL1',by rw [Nat.pow_one];exact hL2,b12⟩
 case round=>
  clear hL1' hL2 b12;obtain⟨k,f,e,rfl,hfe,hk,he,hf,hLo,hLx,hbw⟩:=hrel
  by_cases h0:k=0
  ·subst h0
   have e1:f=N:=by have:=hfe.out;omega
   subst e1;clear hfe;go_wp2;go_ret;exact⟨_,rfl,hLo,hbw⟩
  ·have hek:e<=N:=by
    have h1:=hfe.out;have h2:e*1<=e*k:=Nat.mul_le_mul_left _ (by omega);omega
   have l1:=ZC (e:=f) hb;have l2:=ZC (e:=e) hb;have KX:∀(u:World),Lies u u6 (b ^ e)->Hid _:=fun u h=>jb (jbV u u6 u6 (b ^ e) (b ^ e) (by omega) (by omega) h h)
   rw [<-Nat.pow_add] at KX
   by_cases hodd:k % 2=1
   ·have KO:=jb (jbV wr u5 u6 (b ^ f) (b ^ e) (by omega) (by omega) hLo hLx)
    rw [<-Nat.pow_add] at KO
    have hfe2:Hid ((f+e)+(e+e)*(k / 2)=N):=by
     show _=_
     have h1:=hfe.out;have h2:k=2*(k / 2)+1:=by omega
     rw [h2,Nat.mul_add,Nat.mul_one,<-Nat.mul_assoc,Nat.mul_comm e 2,Nat.two_mul] at h1;omega
    have hf2:f+e<=N:=by have:=hfe2.out;omega
    have t1:((k:Int) % 2 == 1)=true:=by simp;omega
    clear hfe
    go_wp2_with fail
    refine(ja KO).mono ?_
    rintro e' w3 ⟨v3,rfl,hL3,_,b3⟩
    go_wp2_with fail
    refine(ja (KX w3 (hLx.below b3))).mono ?_
    rintro e' w4 ⟨v4,rfl,hL4,_,b4⟩
    have b34:=b3.trans (b4.mono b3.size);have hL3':=hL3.below b4;have hbw4:=hbw.trans (b34.mono hbw.size);clear KX KO hL3 b3 b4 b34 hbw hLo hLx;go_wp2;go_roundw
    case rel=>exact⟨k / 2,f+e,e+e,by go_num,hfe2,by omega,by omega,hf2,hL3',hL4,hbw4⟩
    case measure=>simp only [intOf];omega
   ·have hfe2:Hid (f+(e+e)*(k / 2)=N):=by
     show _=_
     have h1:=hfe.out;have h2:k=2*(k / 2):=by omega
     rw [h2,<-Nat.mul_assoc,Nat.mul_comm e 2,Nat.two_mul] at h1;omega
    have t1:((k:Int) % 2 == 1)=false:=by simp;omega
    clear hfe
    go_wp2_with fail
    refine(ja (KX wr hLx)).mono ?_
    rintro e' w4 ⟨v4,rfl,hL4,_,b4⟩
    have hLo':=hLo.below b4;have hbw4:=hbw.trans (b4.mono hbw.size);clear KX b4 hbw hLo hLx;go_wp2;go_roundw
    case rel=>exact⟨k / 2,f,e+e,by go_num,hfe2,by omega,by omega,hf,hLo',hL4,hbw4⟩
    case measure=>simp only [intOf];omega
def Xl:Nat->Nat->Nat
 | 0,_=>0
 | f+1,n=>if n=0 then 0 else Xl f (n / 2)+1
theorem YA (f:Nat):Xl f 0=0:=by cases f<;>rfl
theorem jed (n:Nat):∀(f g:Nat),n<=f->n<=g->Xl f n=Xl g n:=by
 induction n using Nat.strongRecOn with
 | ind n ih=>
  intro f g hf hg
  by_cases h:n=0
  ·rw [h,YA,YA]
  ·obtain⟨f',rfl⟩:∃f',f=f'+1:=⟨f - 1,by omega⟩
   obtain⟨g',rfl⟩:∃g',g=g'+1:=⟨g - 1,by omega⟩
   rw [Xl,Xl,if_neg h,if_neg h,ih (n / 2) (by omega) f' g' (by omega) (by omega)]
def bits (n:Nat):Nat:=Xl n n
theorem zd:bits 0=0:=rfl
theorem zk {n:Nat}(h:n≠0):bits n=bits (n / 2)+1:=by
 obtain⟨m,rfl⟩:∃m,n=m+1:=⟨n - 1,by omega⟩
 unfold bits;rw [Xl,if_neg h,jed ((m+1) / 2) m ((m+1) / 2) (by omega) (Nat.le_refl _)]
theorem J0 {n k:Nat}(h:n<2 ^ k):bits n<=k:=by
 induction k generalizing n with
 | zero=>
  have:n=0:=by simpa using h
  subst this;rw [zd];exact Nat.le_refl _
 | succ k ih=>
  by_cases h0:n=0
  ·subst h0;rw [zd];omega
  ·rw [zk h0]
   have:n / 2<2 ^ k:=by rw [Nat.pow_succ] at h;omega
   have:=ih this;omega
open Go.RowKit
def dec (l:List UInt8):Nat:=l.foldl (fun a b=>a*10+(b.toNat - 48)) 0
def qp (l:List UInt8):Prop:=∀b∈l,48<=b.toNat/\b.toNat<=57
theorem jh2 (l:List UInt8):∀a,l.foldl (fun a b=>a*10+(b.toNat - 48)) a=a*10 ^ l.length+dec l:=by
 induction l with
 | nil=>intro a;simp [dec]
 | cons x l ih=>
  intro a;have e:dec (x :: l)=(0*10+(x.toNat - 48))*10 ^ l.length+dec l:=by rw [<-ih];rfl
  rw [List.foldl_cons,ih,e,List.length_cons,Nat.pow_succ];simp only [Nat.zero_mul,Nat.zero_add,Nat.add_mul];have:a*10*10 ^ l.length=a*(10 ^ l.length*10):=by rw [Nat.mul_assoc,Nat.mul_comm 10]
  omega
theorem jeW:dec []=0:=rfl
theorem zv (a b:List UInt8):dec (a++b)=dec a*10 ^ b.length+dec b:=by
 unfold dec;rw [List.foldl_append,jh2 b];rfl
theorem jeL (b:UInt8):dec [b]=b.toNat - 48:=by simp [dec]
theorem Qw (a:List UInt8)(b:UInt8):dec (a++[b])=dec a*10+(b.toNat - 48):=by rw [zv,jeL];simp
theorem JI (b:UInt8)(l:List UInt8):dec (b :: l)=(b.toNat - 48)*10 ^ l.length+dec l:=by
 have:=zv [b] l;rwa [List.singleton_append,jeL] at this
theorem jbm {l:List UInt8}(h:qp l):dec l<10 ^ l.length:=by
 induction l with
 | nil=>simp [dec]
 | cons x l ih=>
  have h1:=ih fun b hb=>h b (List.mem_cons_of_mem _ hb)
  have h2:=h x List.mem_cons_self;rw [JI,List.length_cons,Nat.pow_succ];have h3:(x.toNat - 48)*10 ^ l.length<=9*10 ^ l.length:=Nat.mul_le_mul_right _ (by omega);omega
theorem Jf {l:List UInt8}(h:qp l)(k:Nat):qp (l.take k):=fun b hb=>h b (List.mem_of_mem_take hb)
theorem J4 {l:List UInt8}(h:qp l)(k:Nat):qp (l.drop k):=fun b hb=>h b (List.mem_of_mem_drop hb)
theorem YN {l:List UInt8}{n m:Nat}(h:n<=m)(hm:m<=l.length):dec (l.take m)=dec (l.take n)*10 ^ (m - n)+dec ((l.take m).drop n):=by
 have e:l.take m=l.take n++(l.take m).drop n:=by
  have:=(List.take_append_drop n (l.take m)).symm;rwa [List.take_take,Nat.min_eq_left h] at this
 have h2:=zv (l.take n) ((l.take m).drop n);rw [<-e] at h2;rw [h2,List.length_drop,List.length_take,Nat.min_eq_left hm]
theorem jd0 (l:List UInt8)(k:Nat)(h:k<l.length):l.take (k+1)=l.take k++[l.getD k 0]:=by
 rw [List.take_succ_eq_append_getElem h];simp [List.getD,List.getElem?_eq_getElem h]
theorem jb3 {l:List UInt8}{n i:Nat}(h:n<=i)(hi:i<l.length):dec ((l.take (i+1)).drop n)=dec ((l.take i).drop n)*10+((l.getD i 0).toNat - 48):=by
 rw [jd0 l i hi,List.drop_append_of_le_length (by rw [List.length_take];omega),Qw]
theorem Qi {l:List UInt8}(h:qp l){n i:Nat}(hn:n<=i)(hi:i<=l.length):dec ((l.take i).drop n)<10 ^ (i - n):=by
 have h1:=jbm (J4 (Jf h i) n);rwa [List.length_drop,List.length_take,Nat.min_eq_left hi] at h1
def jhb:Value->Nat
 | .string t=>t.size
 | _=>0
theorem jj (s:ByteArray):s.data.toList.length=s.size:=by rw [Array.length_toList];rfl
theorem JS (s:ByteArray)(b:Nat):(s.extract 0 b).data.toList=s.data.toList.take b:=by simp
theorem jdz (t:ByteArray)(i:Nat)(h:i<t.size):t.data.toList.getD i 0=t[i]'h:=by
 rw [List.getD,List.getElem?_eq_getElem (by rw [jj];exact h)];simp [ByteArray.getElem_eq_getElem_data]
theorem J6 (w:World)(s:ByteArray)(hs:s.size<=1000000)(hd:qp s.data.toList) :
  Calls Tryz.prog 56 #[.string s] w fun e w'=>∃v,e=.returned v/\Lies w' v (dec s.data.toList)/\Below w.heap.size w w':=by
 obtain⟨i0,hi,hz0,hz1,hz2⟩:=info_parts Zp
 go_enter Tryz.func56,Tryz.ntmps56
 go_wp2
 go_loopw [0,3] (fun vs v wr=>∃(t:ByteArray) (l:List Nat),vs=.string t/\Hid (t.data.toList=s.data.toList.take t.size)/\t.size<=s.size/\l.length<=s.size - t.size/\Hid (jH l)/\Hid (val l+10000 ^ l.length*dec t.data.toList=dec s.data.toList)/\
  wr.ownsRow w.heap.size 3 1 v l.length (l.map num)/\Below w.heap.size w wr) (fun vs _ _=>jhb vs)
 case atStart=>exact⟨s,[],rfl,by show _=_;rw [<-jj,List.take_length],Nat.le_refl _,by simp,zp,by show _=_;simp [val],World.ownsRow_nil _ _ _ _,Below.refl _ _⟩
 case round=>
  obtain⟨t,l,rfl,ht,hts,hll,hsm,hval,hown,hbw⟩:=hrel
  by_cases h0:t.size=0
  ·have e:val l=dec s.data.toList:=by
    have h:=hval.out;have e1:t.data.toList=[]:=List.eq_nil_of_length_eq_zero (by rw [jj];exact h0);rw [e1,jeW] at h;omega
   have hfr:=jb (JU hown);obtain⟨a,cap,rfl,hc,hr⟩:=Zt hown;have k1:=XB wr a l cap (by omega) hc hr hsm.out;rw [e] at k1;have K1:=jb k1;clear k1 hval hown hr hsm ht e
   go_wp2_with fail
   refine(ja K1).mono ?_
   rintro e w2 ⟨v,rfl,hL,_,rfl⟩
   go_wp2;go_ret;exact⟨_,rfl,hL,hbw⟩
  ·have hdt:qp t.data.toList:=by rw [ht.out];exact Jf hd _
   have HD:=jb hdt
   by_cases h4:t.size<=4
   ·have t4:(t.size:Int) - 4<=0:=by omega
    go_wp2_with fail
    go_loopw [5,6] (fun vx vi wq=>∃(i x:Nat),vi=.int .i64 i/\vx=.int .i64 x/\0<=i/\i<=t.size/\Hid (x=dec ((t.data.toList.take i).drop (0)))/\wq=wr) (fun _ vi _=>t.size - (intOf vi).toNat)
    case atStart=>exact⟨0,0,by first | rfl | (congr 1;omega),rfl,Nat.le_refl _,by omega,by show _=_;rw [List.drop_of_length_le (by rw [List.length_take];omega)];rfl,rfl⟩
    case round=>
     obtain⟨i,x,rfl,rfl,hni,hit,hx,rfl⟩:=hrel;have hxl:=Qi HD.out hni (by rw [jj];exact hit);rw [<-hx.out] at hxl;have hx4:x<10000:=Nat.lt_of_lt_of_le hxl (Nat.le_trans (Nat.pow_le_pow_right (by omega) (show i - (0)<=4 by omega)) (by decide))
     by_cases hlt:i<t.size
     ·have hb:=HD.out _ (show t.data.toList.getD i 0∈t.data.toList by rw [jdz t i hlt,<-jdz t i hlt,List.getD,List.getElem?_eq_getElem (by rw [jj];exact hlt)];simp)
      have hx2:Hid (x*10+((t.data.toList.getD i 0).toNat - 48)=dec ((t.data.toList.take (i+1)).drop (0))):=by
       show _=_
       rw [jb3 hni (by rw [jj];exact hlt),<-hx.out]
      rw [jdz t i hlt] at hb hx2;clear hx hxl;go_wp2;go_roundw
      case rel=>exact⟨i+1,x*10+((t[i]'hlt).toNat - 48),by go_num,by congr 1;omega,by omega,by omega,hx2,by trivial⟩
      case measure=>simp only [intOf];omega
     ·have hie:i=t.size:=by omega
      have hval2:Hid (val (l++[x])+10000 ^ (l++[x]).length*dec (t.data.toList.take (0))=dec s.data.toList):=by
       show _=_
       have h1:=hval.out;have h2:=YN (l:=t.data.toList) (n:=0) (m:=t.size) (by omega) (by rw [jj];exact Nat.le_refl _);have e1:t.data.toList.take t.size=t.data.toList:=List.take_of_length_le (by rw [jj];exact Nat.le_refl _);have h3:=hx.out;rw [hie] at h3;rw [e1] at h2 h3;rw [<-h3] at h2;rw [zu,Zw,List.length_append,List.length_singleton,Nat.pow_succ];have e2:t.data.toList.take 0=[]:=rfl;rw [e2,jeW] at h2 ⊢;have e3:val l+10000 ^ l.length*x=dec s.data.toList:=by rw [<-h1,h2];simp
       omega
      have hsm2:Hid (jH (l++[x])):=zN.2 ⟨hsm.out,qK.2 ⟨hx4,zp⟩⟩;clear hx hxl hval hsm
      go_wp2_with (at_builtin;refine wpList_append_own _ rfl _ _ 99 rfl w.heap.size 3 i0 (.int .i64 0) 1 8 Tryz.underlying99 hi hz0 hz1 hz2 rfl (by decide) _ _ _ rfl (hown.alloc _) ⟨wr.heap.size,0,none⟩ 1 1 [.int .i64 (x:Int)] rfl rfl ?c1 ?c2 ?c3 ?c4 ?c5 ?_)
      case c1=>exact cell_one_new _ _ _
      case c2=>intro u hu;simp at hu;subst hu;rfl
      case c3=>unfold maxLen;omega
      case c4=>omega
      case c5=>have:=hbw.size;simp;omega
      intro v' w3 hown' hgrow _;have hbw2:Below w.heap.size w w3:=(hbw.alloc hbw.size _).grown hgrow (by have:=hbw.size;simp;omega) (JU hown);have hez:(t.extract 0 (0)).size=0:=by rw [ByteArray.size_extract];omega
      have HT:Hid ((t.extract 0 (0)).data.toList=s.data.toList.take (t.extract 0 (0)).size):=by
       show _=_
       rw [hez,JS,ht.out,List.take_take,Nat.min_eq_left (by omega)]
      rw [<-JS] at hval2;clear hgrow hown ht;go_wp2;go_roundw
      case rel=>
       refine⟨t.extract 0 (0),l++[x],by congr 1;apply ByteArray.ext;simp,HT,by rw [hez];omega,by rw [hez,List.length_append,List.length_singleton];omega,hsm2,hval2,?_,hbw2⟩;simpa [num] using hown'
      case measure=>simp only [jhb];first | (rw [ByteArray.size_extract];omega) | (show 0<t.size;omega)
   ·obtain⟨n,hn⟩:∃n,t.size=n+4:=⟨t.size - 4,by omega⟩
    have hn2:(t.size:Int) - 4=(n:Int):=by omega
    have t4:0<(t.size:Int) - 4:=by omega
    have t5:0<(n:Int):=by omega
    go_wp2_with fail
    go_loopw [5,6] (fun vx vi wq=>∃(i x:Nat),vi=.int .i64 i/\vx=.int .i64 x/\n<=i/\i<=t.size/\Hid (x=dec ((t.data.toList.take i).drop (n)))/\wq=wr) (fun _ vi _=>t.size - (intOf vi).toNat)
    case atStart=>exact⟨n,0,by first | rfl | (congr 1;omega),rfl,Nat.le_refl _,by omega,by show _=_;rw [List.drop_of_length_le (by rw [List.length_take];omega)];rfl,rfl⟩
    case round=>
     obtain⟨i,x,rfl,rfl,hni,hit,hx,rfl⟩:=hrel;have hxl:=Qi HD.out hni (by rw [jj];exact hit);rw [<-hx.out] at hxl;have hx4:x<10000:=Nat.lt_of_lt_of_le hxl (Nat.le_trans (Nat.pow_le_pow_right (by omega) (show i - (n)<=4 by omega)) (by decide))
     by_cases hlt:i<t.size
     ·have hb:=HD.out _ (show t.data.toList.getD i 0∈t.data.toList by rw [jdz t i hlt,<-jdz t i hlt,List.getD,List.getElem?_eq_getElem (by rw [jj];exact hlt)];simp)
      have hx2:Hid (x*10+((t.data.toList.getD i 0).toNat - 48)=dec ((t.data.toList.take (i+1)).drop (n))):=by
       show _=_
       rw [jb3 hni (by rw [jj];exact hlt),<-hx.out]
      rw [jdz t i hlt] at hb hx2;clear hx hxl;go_wp2;go_roundw
      case rel=>exact⟨i+1,x*10+((t[i]'hlt).toNat - 48),by go_num,by congr 1;omega,by omega,by omega,hx2,by trivial⟩
      case measure=>simp only [intOf];omega
     ·have hie:i=t.size:=by omega
      have hval2:Hid (val (l++[x])+10000 ^ (l++[x]).length*dec (t.data.toList.take (n))=dec s.data.toList):=by
       show _=_
       have h1:=hval.out;have h2:=YN (l:=t.data.toList) (n:=n) (m:=t.size) (by omega) (by rw [jj];exact Nat.le_refl _);have e1:t.data.toList.take t.size=t.data.toList:=List.take_of_length_le (by rw [jj];exact Nat.le_refl _);have h3:=hx.out;rw [hie] at h3;rw [e1] at h2 h3;rw [<-h3] at h2;rw [zu,Zw,List.length_append,List.length_singleton,Nat.pow_succ];have e4:t.size - n=4:=by omega
       rw [e4] at h2
       have e5:10000 ^ l.length*(dec (t.data.toList.take n)*10 ^ 4+x)=10000 ^ l.length*10000*dec (t.data.toList.take n)+10000 ^ l.length*x:=by
        rw [Nat.mul_add,Nat.mul_comm (dec _),Nat.mul_assoc]
       rw [<-h1,h2,e5];omega
      have hsm2:Hid (jH (l++[x])):=zN.2 ⟨hsm.out,qK.2 ⟨hx4,zp⟩⟩;clear hx hxl hval hsm
      go_wp2_with (at_builtin;refine wpList_append_own _ rfl _ _ 99 rfl w.heap.size 3 i0 (.int .i64 0) 1 8 Tryz.underlying99 hi hz0 hz1 hz2 rfl (by decide) _ _ _ rfl (hown.alloc _) ⟨wr.heap.size,0,none⟩ 1 1 [.int .i64 (x:Int)] rfl rfl ?c1 ?c2 ?c3 ?c4 ?c5 ?_)
      case c1=>exact cell_one_new _ _ _
      case c2=>intro u hu;simp at hu;subst hu;rfl
      case c3=>unfold maxLen;omega
      case c4=>omega
      case c5=>have:=hbw.size;simp;omega
      intro v' w3 hown' hgrow _;have hbw2:Below w.heap.size w w3:=(hbw.alloc hbw.size _).grown hgrow (by have:=hbw.size;simp;omega) (JU hown);have hez:(t.extract 0 (n)).size=n:=by rw [ByteArray.size_extract];omega
      have HT:Hid ((t.extract 0 (n)).data.toList=s.data.toList.take (t.extract 0 (n)).size):=by
       show _=_
       rw [hez,JS,ht.out,List.take_take,Nat.min_eq_left (by omega)]
      rw [<-JS] at hval2;clear hgrow hown ht;go_wp2;go_roundw
      case rel=>
       refine⟨t.extract 0 (n),l++[x],rfl,HT,by rw [hez];omega,by rw [hez,List.length_append,List.length_singleton];omega,hsm2,hval2,?_,hbw2⟩;simpa [num] using hown'
      case measure=>simp only [jhb];first | (rw [ByteArray.size_extract];omega) | (show 0<t.size;omega)
end bigs
end Go.Proofs.YtnbfnjhbmeocfaaGreatDoor
