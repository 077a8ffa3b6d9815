/- Of our texts, what this claim reaches. -/
import Derived.Test.YtnbfnjhbmeocfabGreatDoorPsaAM
import Derived.Deep.QuietTactic
import Derived.BigQuiet
import Derived.Deep.RegionWith
import Derived.Laws.BytesString
import Derived.Laws.Cells
import Derived.Laws.Concat
import Derived.Lib.Strings
set_option linter.unusedVariables false
namespace Go.Proofs.YtnbfnjhbmeocfabGreatDoor
namespace bigs
open Go.RowKit
def zL (l:List Nat)(k:Nat):Prop:=∀j,k<=j->l.getD j 0=0
theorem Xb {l:List Nat}{k j d:Nat}(h:zL l k)(hj:j<k):zL (l.set j d) k:=by
 intro i hi;rw [List.getD,List.getElem?_set_ne (by omega)];exact h i hi
theorem J0 {l:List Nat}{k d:Nat}(h:zL l k):zL (l.set k d) (k+1):=by
 intro i hi;rw [List.getD,List.getElem?_set_ne (by omega)];exact h i (by omega)
theorem J4 (n:Nat):zL (List.replicate n 0) 0:=by
 intro j _
 by_cases h:j<n
 ·simp [List.getD,h]
 ·rw [List.getD,List.getElem?_eq_none (by simp;omega)];rfl
open Go.RowKit
theorem Qm {w:World}{base e n:Nat}{v:Value}{xs:List Value}(h:w.ownsRow base e 1 v n xs):∃b c,v=.slice b n c:=by
 rcases h.2 with ⟨rfl,rfl⟩ | ⟨g,cap,cur,rfl,_⟩
 ·exact⟨_,_,rfl⟩
 ·exact⟨_,_,rfl⟩
theorem jkj {w w':World}{base e n:Nat}{v:Value}{xs:List Value}(h:w.ownsRow base e 1 v n xs)(hb:Below w.heap.size w w'):w'.ownsRow base e 1 v n xs:=by
 refine⟨h.1,?_⟩
 rcases h.2 with hn | ⟨g,cap,cur,e,h1,hg,rest⟩
 ·exact .inl hn
 ·refine .inr ⟨g,cap,cur,e,h1,?_,rest⟩
  rw [hb.block g (Array.getElem?_eq_some_iff.1 hg).1];exact hg
open Go.RowKit
def je:List Nat->Nat
 | []=>0
 | d :: r=>d+4294967296*je r
def jg (l:List Nat):Prop:=∀j,j<l.length->l.getD j 0<4294967296
theorem jO {l:List Nat}(h:jg l)(j:Nat):l.getD j 0<4294967296:=by
 by_cases hj:j<l.length
 ·exact h j hj
 ·rw [List.getD,List.getElem?_eq_none (by omega)];simp
theorem qO (l:List Nat)(k:Nat):je (l.drop k)=l.getD k 0+4294967296*je (l.drop (k+1)):=by
 by_cases h:k<l.length
 ·rw [List.drop_eq_getElem_cons h,je]
  simp [List.getD,List.getElem?_eq_getElem h]
 ·have e:l.getD k 0=0:=by rw [List.getD,List.getElem?_eq_none (by omega)];rfl
  rw [e,List.drop_of_length_le (by omega),List.drop_of_length_le (by omega)];rfl
theorem qK {d:Nat}{r:List Nat}:jg (d :: r)↔d<4294967296/\jg r:=by
 constructor
 ·intro h
  exact⟨h 0 (by simp),fun j hj=>h (j+1) (by simpa using hj)⟩
 ·rintro⟨h1,h2⟩ j hj
  cases j with
  | zero=>exact h1
  | succ j=>exact h2 j (by simpa using hj)
theorem QA {l:List Nat}(h:jg l):∀k,jg (l.drop k):=by
 induction l with
 | nil=>intro k;rw [List.drop_nil];exact h
 | cons d r ih=>
  intro k;cases k with
  | zero=>exact h
  | succ k=>rw [List.drop_succ_cons];exact ih (qK.1 h).2 k
theorem zG {l:List Nat}(h:jg l):je l<4294967296 ^ l.length:=by
 induction l with
 | nil=>simp [je]
 | cons d r ih=>
  have h':=qK.1 h;have:=ih h'.2;rw [je,List.length_cons,Nat.pow_succ];omega
def RowU (w:World)(a:Option Addr)(l:List Nat):Prop :=
 l≠[]->∃b o,a=some ⟨b,o,none⟩/\b<w.heap.size/\∀j,j<l.length->w.cell? ⟨b,o+j,none⟩=some (.int .u32 ((l.getD j 0:Nat):Int))
theorem RowU.below {w w':World}{a:Option Addr}{l:List Nat}(h:RowU w a l)(hb:Below w.heap.size w w'):RowU w' a l:=by
 intro h0;obtain⟨b,o,e,hlt,hc⟩:=h h0;refine⟨b,o,e,Nat.lt_of_lt_of_le hlt hb.size,fun j hj=>?_⟩;rw [hb.cell (p:=⟨b,o+j,none⟩) hlt];exact hc j hj
theorem jkm {w w':World}{a:Addr}{v:Value}(hb:Below w.heap.size w w')(h:w.cell? a=some v):w'.cell? a=some v:=by
 rw [hb.cell (World.block_lt_of_cell? w a h)];exact h
open Go.RowKit
def jal:Nat->Nat->List Nat
 | 0,_=>[]
 | f+1,n=>if n=0 then [] else n % 4294967296 :: jal f (n / 4294967296)
theorem ja3 (f:Nat):jal f 0=[]:=by cases f<;>rfl
theorem jid (n:Nat):∀(f g:Nat),n<=f->n<=g->jal f n=jal g n:=by
 induction n using Nat.strongRecOn with
 | ind n ih=>
  intro f g hf hg
  by_cases h:n=0
  ·rw [h,ja3,ja3]
  ·obtain⟨f',rfl⟩:∃f',f=f'+1:=⟨f - 1,by omega⟩
   obtain⟨g',rfl⟩:∃g',g=g'+1:=⟨g - 1,by omega⟩
   rw [jal,jal,if_neg h,if_neg h,ih (n / 4294967296) (by omega) f' g' (by omega) (by omega)]
def jh (n:Nat):List Nat:=jal n n
theorem jy:jh 0=[]:=rfl
theorem zH {n:Nat}(h:n≠0):jh n=n % 4294967296 :: jh (n / 4294967296):=by
 obtain⟨m,rfl⟩:∃m,n=m+1:=⟨n - 1,by omega⟩
 unfold jh;rw [jal,if_neg h,jid ((m+1) / 4294967296) m ((m+1) / 4294967296) (by omega) (Nat.le_refl _)]
theorem jl (n:Nat):je (jh n)=n:=by
 induction n using Nat.strongRecOn with
 | ind n ih=>
  by_cases h:n=0
  ·subst h;rw [jy];rfl
  ·rw [zH h,je,ih _ (by omega)];omega
theorem jbS:(Tryz.prog.info? 130).map (fun i=>(i.zero,i.size,i.bytes))=some (some (.int .u32 0),1,4):=by kernel_rfl
def wrd (n:Nat):Value:=.int .u32 (n:Int)
theorem je3 {w:World}{base:Nat}{v:Value}{l:List Nat}(h:w.ownsRow base 130 1 v l.length (l.map wrd)) :
  ∃a cap,v=.slice a l.length cap/\l.length<=cap/\RowU w a l:=by
 have h':=h
 rcases h.2 with ⟨rfl,h0⟩ | ⟨g,cap,cur,rfl,_,hg,hcap,_⟩
 ·have:l=[]:=List.eq_nil_of_length_eq_zero h0
  subst this;exact⟨none,0,rfl,by simp,fun h=>absurd rfl h⟩
 ·refine⟨_,cap,rfl,hcap,fun _=>⟨g,0,rfl,(Array.getElem?_eq_some_iff.1 hg).1,fun j hj=>?_⟩⟩
  rw [Nat.zero_add,h'.cellAt j (by omega)];simp [wrd,List.getD,List.getElem?_eq_getElem hj]
open Go.RowKit
def Y5:Nat->Nat->Nat
 | 0,_=>0
 | f+1,n=>if n=0 then 0 else Y5 f (n / 2)+1
theorem jbA (f:Nat):Y5 f 0=0:=by cases f<;>rfl
theorem jgV (n:Nat):∀(f g:Nat),n<=f->n<=g->Y5 f n=Y5 g n:=by
 induction n using Nat.strongRecOn with
 | ind n ih=>
  intro f g hf hg
  by_cases h:n=0
  ·rw [h,jbA,jbA]
  ·obtain⟨f',rfl⟩:∃f',f=f'+1:=⟨f - 1,by omega⟩
   obtain⟨g',rfl⟩:∃g',g=g'+1:=⟨g - 1,by omega⟩
   rw [Y5,Y5,if_neg h,if_neg h,ih (n / 2) (by omega) f' g' (by omega) (by omega)]
def bits (n:Nat):Nat:=Y5 n n
theorem qy:bits 0=0:=rfl
theorem zM {n:Nat}(h:n≠0):bits n=bits (n / 2)+1:=by
 obtain⟨m,rfl⟩:∃m,n=m+1:=⟨n - 1,by omega⟩
 unfold bits;rw [Y5,if_neg h,jgV ((m+1) / 2) m ((m+1) / 2) (by omega) (Nat.le_refl _)]
theorem Jt {n k:Nat}(h:n<2 ^ k):bits n<=k:=by
 induction k generalizing n with
 | zero=>
  have:n=0:=by simpa using h
  subst this;rw [qy];exact Nat.le_refl _
 | succ k ih=>
  by_cases h0:n=0
  ·subst h0;rw [qy];omega
  ·rw [zM h0]
   have:n / 2<2 ^ k:=by rw [Nat.pow_succ] at h;omega
   have:=ih this;omega
open Go.RowKit
def dec (l:List UInt8):Nat:=l.foldl (fun a b=>a*10+(b.toNat - 48)) 0
def jX (l:List UInt8):Prop:=∀b∈l,48<=b.toNat/\b.toNat<=57
theorem jmf (l:List UInt8):∀a,l.foldl (fun a b=>a*10+(b.toNat - 48)) a=a*10 ^ l.length+dec l:=by
 induction l with
 | nil=>intro a;simp [dec]
 | cons x l ih=>
  intro a;have e:dec (x :: l)=(0*10+(x.toNat - 48))*10 ^ l.length+dec l:=by rw [<-ih];rfl
  rw [List.foldl_cons,ih,e,List.length_cons,Nat.pow_succ];simp only [Nat.zero_mul,Nat.zero_add,Nat.add_mul];have:a*10*10 ^ l.length=a*(10 ^ l.length*10):=by rw [Nat.mul_assoc,Nat.mul_comm 10]
  omega
theorem jeD:dec []=0:=rfl
theorem QJ (a b:List UInt8):dec (a++b)=dec a*10 ^ b.length+dec b:=by
 unfold dec;rw [List.foldl_append,jmf b];rfl
theorem jik (b:UInt8):dec [b]=b.toNat - 48:=by simp [dec]
theorem jbB (a:List UInt8)(b:UInt8):dec (a++[b])=dec a*10+(b.toNat - 48):=by rw [QJ,jik];simp
theorem XG (b:UInt8)(l:List UInt8):dec (b :: l)=(b.toNat - 48)*10 ^ l.length+dec l:=by
 have:=QJ [b] l;rwa [List.singleton_append,jik] at this
theorem jaU {l:List UInt8}(h:jX l):dec l<10 ^ l.length:=by
 induction l with
 | nil=>simp [dec]
 | cons x l ih=>
  have h1:=ih fun b hb=>h b (List.mem_cons_of_mem _ hb)
  have h2:=h x List.mem_cons_self;rw [XG,List.length_cons,Nat.pow_succ];have h3:(x.toNat - 48)*10 ^ l.length<=9*10 ^ l.length:=Nat.mul_le_mul_right _ (by omega);omega
theorem Xq {l:List UInt8}(h:jX l)(k:Nat):jX (l.take k):=fun b hb=>h b (List.mem_of_mem_take hb)
theorem jaT {l:List UInt8}(h:jX l)(k:Nat):jX (l.drop k):=fun b hb=>h b (List.mem_of_mem_drop hb)
theorem Z6 (l:List UInt8)(k:Nat)(h:k<l.length):l.take (k+1)=l.take k++[l.getD k 0]:=by
 rw [List.take_succ_eq_append_getElem h];simp [List.getD,List.getElem?_eq_getElem h]
theorem jo (s:ByteArray):s.data.toList.length=s.size:=by rw [Array.length_toList];rfl
theorem jhz (t:ByteArray)(i:Nat)(h:i<t.size):t.data.toList.getD i 0=t[i]'h:=by
 rw [List.getD,List.getElem?_eq_getElem (by rw [jo];exact h)];simp [ByteArray.getElem_eq_getElem_data]
open Go.RowKit
def Q6:Nat->Nat->List UInt8
 | 0,_=>[]
 | f+1,n=>if n=0 then [] else Q6 f (n / 10)++[UInt8.ofNat (48+n % 10)]
theorem jam (f:Nat):Q6 f 0=[]:=by cases f<;>rfl
theorem jgC (n:Nat):∀(f g:Nat),n<=f->n<=g->Q6 f n=Q6 g n:=by
 induction n using Nat.strongRecOn with
 | ind n ih=>
  intro f g hf hg
  by_cases h:n=0
  ·rw [h,jam,jam]
  ·obtain⟨f',rfl⟩:∃f',f=f'+1:=⟨f - 1,by omega⟩
   obtain⟨g',rfl⟩:∃g',g=g'+1:=⟨g - 1,by omega⟩
   rw [Q6,Q6,if_neg h,if_neg h,ih (n / 10) (by omega) f' g' (by omega) (by omega)]
def Zc (n:Nat):List UInt8:=Q6 n n
def qJ (n:Nat):List UInt8:=if n=0 then [48] else Zc n
theorem zW:Zc 0=[]:=rfl
theorem zX {n:Nat}(h:n≠0):Zc n=Zc (n / 10)++[UInt8.ofNat (48+n % 10)]:=by
 obtain⟨m,rfl⟩:∃m,n=m+1:=⟨n - 1,by omega⟩
 unfold Zc;rw [Q6,if_neg h,jgC ((m+1) / 10) m ((m+1) / 10) (by omega) (Nat.le_refl _)]
theorem qV (k:Nat)(h:k<256):(UInt8.ofNat k).toNat=k:=by simp [UInt8.toNat_ofNat'];omega
theorem QL {a b:List UInt8}:jX (a++b)↔jX a/\jX b:=by
 constructor
 ·intro h
  exact⟨fun x hx=>h x (List.mem_append_left _ hx),fun x hx=>h x (List.mem_append_right _ hx)⟩
 ·rintro⟨h1,h2⟩ x hx
  rcases List.mem_append.1 hx with h | h
  ·exact h1 x h
  ·exact h2 x h
theorem jks (n:Nat):jX (Zc n):=by
 induction n using Nat.strongRecOn with
 | ind n ih=>
  by_cases h:n=0
  ·subst h;rw [zW];intro b hb;cases hb
  ·rw [zX h,QL]
   refine⟨ih _ (by omega),?_⟩;intro b hb;rw [List.mem_singleton] at hb;subst hb;rw [qV _ (by omega)];omega
theorem jjz (n:Nat):dec (Zc n)=n:=by
 induction n using Nat.strongRecOn with
 | ind n ih=>
  by_cases h:n=0
  ·subst h;rw [zW];rfl
  ·rw [zX h,jbB,ih _ (by omega),qV _ (by omega)]
   omega
open Go.RowKit
def rnd (n d:Nat):Nat:=if d<2*(n % d)\/(2*(n % d)=d/\n / d % 2=1) then n / d+1 else n / d
def jhk (q:Nat)(e:Int):Nat :=
 if q=9007199254740992 then (if 971<e+1 then 9218868437227405312 else (e+1+1074).toNat*4503599627370496+4503599627370496)
 else if 971<e then 9218868437227405312 else if q<4503599627370496 then q else (e+1074).toNat*4503599627370496+q
def JE (num den r:Nat):Prop:=∃a b:Nat,a<=1074/\(a=0\/num*2 ^ (a - 1)<den*4503599627370496)/\(a=1074\/den*4503599627370496<=num*2 ^ a)/\
 (b=0\/den*2 ^ (b - 1)*9007199254740992<=num*2 ^ a)/\num*2 ^ a<den*2 ^ b*9007199254740992/\r=jhk (rnd (num*2 ^ a) (den*2 ^ b)) ((b:Int) - (a:Int))
theorem QD (x:Nat){a b:Nat}(h:a<=b):x*2 ^ a<=x*2 ^ b:=Nat.mul_le_mul_left _ (Nat.pow_le_pow_right (by omega) h)
theorem jae {num den r r':Nat}(h:JE num den r)(h':JE num den r'):r=r':=by
 obtain⟨a,b,h1,h2,h3,h4,h5,h6⟩:=h;obtain⟨a',b',k1,k2,k3,k4,k5,k6⟩:=h'
 have ea:a=a':=by
  rcases Nat.lt_trichotomy a a' with hlt | he | hgt
  ·have m:=QD num (show a<=a' - 1 by omega)
   rcases k2 with e | e
   ·omega
   ·rcases h3 with e3 | e3<;>omega
  ·exact he
  ·have m:=QD num (show a'<=a - 1 by omega)
   rcases h2 with e | e
   ·omega
   ·rcases k3 with e3 | e3<;>omega
 subst ea
 have eb:b=b':=by
  rcases Nat.lt_trichotomy b b' with hlt | he | hgt
  ·have m:=Nat.mul_le_mul_right 9007199254740992 (QD den (show b<=b' - 1 by omega))
   rcases k4 with e | e<;>omega
  ·exact he
  ·have m:=Nat.mul_le_mul_right 9007199254740992 (QD den (show b'<=b - 1 by omega))
   rcases h4 with e | e<;>omega
 subst eb;rw [h6,k6]
theorem qH (x a:Nat):x*2 ^ a+x*2 ^ a=x*2 ^ (a+1):=by rw [Nat.pow_succ,<-Nat.mul_assoc];omega
def jH (b:Nat):Nat×Int×Int :=
 if b / 4503599627370496 % 2048=2047 then (if b % 4503599627370496=0 then (0,0,1) else (0,0,2))
 else if b / 4503599627370496 % 2048=0 then (b % 4503599627370496,-1074,0) else (b % 4503599627370496+4503599627370496,((b / 4503599627370496 % 2048:Nat):Int) - 1075,0)
theorem ZL (x y c:Nat)(hc:0<c):rnd (x*c) (y*c)=rnd x y:=by
 unfold rnd;rw [Nat.mul_div_mul_right _ _ hc,Nat.mul_mod_mul_right,<-Nat.mul_assoc];have e1:(y*c<2*(x % y)*c)↔y<2*(x % y):=Nat.mul_lt_mul_right hc;have e2:(2*(x % y)*c=y*c)↔2*(x % y)=y:=⟨fun h=>Nat.eq_of_mul_eq_mul_right hc h,fun h=>by rw [h]⟩
 simp only [e1,e2]
theorem jbI {num den r c:Nat}(hc:0<c)(h:JE num den r):JE (num*c) (den*c) r:=by
 obtain⟨a,b,h1,h2,h3,h4,h5,h6⟩:=h;have s:∀x y z:Nat,x*c*y=x*y*c:=fun x y z=>by rw [Nat.mul_assoc,Nat.mul_comm c,Nat.mul_assoc]
 refine⟨a,b,h1,?_,?_,?_,?_,?_⟩
 ·rcases h2 with h | h
  ·exact .inl h
  ·right
   rw [s _ _ 0,s _ _ 0];exact Nat.mul_lt_mul_of_pos_right h hc
 ·rcases h3 with h | h
  ·exact .inl h
  ·right
   rw [s _ _ 0,s _ _ 0];exact Nat.mul_le_mul_right _ h
 ·rcases h4 with h | h
  ·exact .inl h
  ·right
   rw [s _ _ 0,s _ _ 0,s _ _ 0];exact Nat.mul_le_mul_right _ h
 ·rw [s _ _ 0,s _ _ 0,s _ _ 0]
  exact Nat.mul_lt_mul_of_pos_right h5 hc
 ·rw [s _ _ 0,s den _ 0,ZL _ _ _ hc]
  exact h6
theorem jbT {N d M:Nat}(h:N<d*M):rnd N d<=M:=by
 have h1:N / d<M:=Nat.div_lt_of_lt_mul h;unfold rnd;split<;>omega
theorem jeJ {N d M:Nat}(hd:0<d)(h:d*M<=N):M<=rnd N d:=by
 have h1:M<=N / d:=(Nat.le_div_iff_mul_le hd).2 (by rw [Nat.mul_comm];exact h);unfold rnd;split<;>omega
theorem jaK {q:Nat}{e:Int}(hq:q<=9007199254740992)(he : -1074<=e)(hn:4503599627370496<=q\/e = -1074):jhk q e=min 9218868437227405312 ((e+1074).toNat*4503599627370496+q):=by
 unfold jhk;obtain⟨E,hE⟩:∃E:Nat,e+1074=(E:Int):=⟨(e+1074).toNat,by omega⟩
 have e1:(e+1074).toNat=E:=by omega
 have e2:(e+1+1074).toNat=E+1:=by omega
 rw [e1,e2]
 by_cases h1:q=9007199254740992
 ·rw [if_pos h1]
  subst h1
  by_cases h2:971<e+1
  ·rw [if_pos h2,Nat.min_eq_left (by omega)]
  ·rw [if_neg h2,Nat.min_eq_right (by omega)]
   omega
 ·rw [if_neg h1]
  by_cases h2:971<e
  ·rw [if_pos h2,Nat.min_eq_left (by omega)]
  ·rw [if_neg h2]
   by_cases h3:q<4503599627370496
   ·rw [if_pos h3,Nat.min_eq_right (by omega)]
    omega
   ·rw [if_neg h3,Nat.min_eq_right (by omega)]
theorem jku {num den a b:Nat}(h2:a=0\/num*2 ^ (a - 1)<den*4503599627370496)(h4:b=0\/den*2 ^ (b - 1)*9007199254740992<=num*2 ^ a):a=0\/b=0:=by
 rcases h2 with h | h
 ·exact .inl h
 ·rcases h4 with k | k
  ·exact .inr k
  ·by_cases ha:a=0
   ·exact .inl ha
   ·exfalso
    have e:=qH num (a - 1);rw [show a - 1+1=a by omega] at e;have hY:den*1<=den*2 ^ (b - 1):=Nat.mul_le_mul_left _ (Nat.pow_pos (by omega));rw [<-e] at k;generalize num*2 ^ (a - 1)=X at *;generalize den*2 ^ (b - 1)=Y at *;omega
theorem jj3 {num den a b:Nat}(h3:a=1074\/den*4503599627370496<=num*2 ^ a)(h4:b=0\/den*2 ^ (b - 1)*9007199254740992<=num*2 ^ a)(hs:a=0\/b=0) :
  den*2 ^ b*4503599627370496<=num*2 ^ a\/(b:Int) - (a:Int) = -1074:=by
 by_cases hb:b=0
 ·rcases h3 with h | h
  ·right;omega
  ·left;rw [hb,Nat.pow_zero,Nat.mul_one];exact h
 ·left
  rcases h4 with k | k
  ·exact absurd k hb
  ·have e:=qH den (b - 1)
   rw [show b - 1+1=b by omega] at e;rw [<-e];have e2:∀Y:Nat,(Y+Y)*4503599627370496=Y*9007199254740992:=fun Y=>by omega
   rw [e2];exact k
theorem jnq {a b:Nat}(h:a<=1074) : -1074<=(b:Int) - (a:Int):=by omega
theorem Yv (x:Nat){a b c:Nat}(h:a=b+c):x*2 ^ a=x*2 ^ b*2 ^ c:=by rw [h,Nat.pow_add,Nat.mul_assoc]
def c74:Nat:=1074
def T74:Nat:=2 ^ c74
def T76:Nat:=4*T74
theorem YK (x:Nat){b c:Nat}(h:1074=b+c):x*T74=x*2 ^ b*2 ^ c:=by
 have e:c74=b+c:=h;unfold T74;rw [e,Nat.pow_add,Nat.mul_assoc]
def jbg (num den E r:Nat):Prop:=num*T74<den*2 ^ E*9007199254740992/\(E=0\/den*2 ^ E*4503599627370496<=num*T74)/\
 r=min 9218868437227405312 (E*4503599627370496+rnd (num*T74) (den*2 ^ E))
theorem jlL {num den r:Nat}(hd:0<den)(h:JE num den r):∃E,jbg num den E r:=by
 obtain⟨a,b,h1,h2,h3,h4,h5,h6⟩:=h;have s:=jku h2 h4;have n:=jj3 h3 h4 s;have hdb:0<den*2 ^ b:=Nat.mul_pos hd (Nat.pow_pos (by omega));have q:=jbT h5
 have g:4503599627370496<=rnd (num*2 ^ a) (den*2 ^ b)\/(b:Int) - (a:Int) = -1074:=by
  rcases n with e | e
  ·exact .inl (jeJ hdb e)
  ·exact .inr e
 rw [jaK q (jnq h1) g] at h6;have eE:((b:Int) - (a:Int)+1074).toNat=b+1074 - a:=by omega
 rw [eE] at h6;clear eE
 obtain⟨T,hT,e1,e2⟩:∃T,0<T/\num*T74=num*2 ^ a*T/\den*2 ^ (b+1074 - a)=den*2 ^ b*T:=by
  refine⟨2 ^ (1074 - a),Nat.pow_pos (by decide),YK _ (by omega),Yv _ (by omega)⟩
 refine⟨b+1074 - a,?_,?_,?_⟩
 ·rw [e1,e2,Nat.mul_assoc (den*2 ^ b),Nat.mul_comm T,<-Nat.mul_assoc]
  exact Nat.mul_lt_mul_of_pos_right h5 hT
 ·rcases n with e | e
  ·right
   rw [e1,e2,Nat.mul_assoc (den*2 ^ b),Nat.mul_comm T,<-Nat.mul_assoc];exact Nat.mul_le_mul_right _ e
  ·left
   omega
 ·rw [e1,e2,ZL _ _ _ hT]
  exact h6
theorem jg2 (E:Nat):(((E - 1074:Nat):Int) - ((1074 - E:Nat):Int)+1074).toNat=E:=by omega
theorem jlT (E:Nat):1074 - E<=1074:=by omega
theorem Zh {num den E r:Nat}(hd:0<den)(h:jbg num den E r):JE num den r:=by
 obtain⟨h1,h2,h3⟩:=h
 obtain⟨T,hT,e1,e2⟩:∃T,0<T/\num*T74=num*2 ^ (1074 - E)*T/\den*2 ^ E=den*2 ^ (E - 1074)*T:=by
  refine⟨2 ^ (1074 - (1074 - E)),Nat.pow_pos (by decide),YK _ (by omega),Yv _ (by omega)⟩
 have hdb:0<den*2 ^ (E - 1074):=Nat.mul_pos hd (Nat.pow_pos (by omega))
 have k1:num*2 ^ (1074 - E)<den*2 ^ (E - 1074)*9007199254740992:=by
  rw [e1,e2,Nat.mul_assoc (den*2 ^ (E - 1074)),Nat.mul_comm T,<-Nat.mul_assoc] at h1;exact Nat.lt_of_mul_lt_mul_right h1
 have k2:E=0\/den*2 ^ (E - 1074)*4503599627370496<=num*2 ^ (1074 - E):=by
  rcases h2 with h | h
  ·exact .inl h
  ·right
   rw [e1,e2,Nat.mul_assoc (den*2 ^ (E - 1074)),Nat.mul_comm T,<-Nat.mul_assoc] at h;exact Nat.le_of_mul_le_mul_right h hT
 have q:=jbT k1;rw [e1,e2,ZL _ _ _ hT] at h3;clear e1 e2 h1 h2;refine⟨1074 - E,E - 1074,by omega,?_,?_,?_,k1,?_⟩
 ·by_cases c:1074 - E=0
  ·exact .inl c
  ·right
   rw [show E - 1074=0 by omega,Nat.pow_zero,Nat.mul_one] at k1;have e:=qH num (1074 - E - 1);rw [show 1074 - E - 1+1=1074 - E by omega] at e;rw [<-e] at k1;clear e k2 h3 q hdb;generalize num*2 ^ (1074 - E - 1)=X at *;omega
 ·rcases k2 with h | h
  ·left;omega
  ·right
   refine Nat.le_trans (Nat.mul_le_mul_right _ ?_) h;exact Nat.le_mul_of_pos_right _ (Nat.pow_pos (by omega))
 ·by_cases c:E - 1074=0
  ·exact .inl c
  ·right
   rcases k2 with h | h
   ·omega
   ·have e:=qH den (E - 1074 - 1)
    rw [show E - 1074 - 1+1=E - 1074 by omega] at e;rw [<-e] at h;refine Nat.le_trans ?_ h
    clear e h k1 h3 q hdb;generalize den*2 ^ (E - 1074 - 1)=X at *;omega
 ·have eE:(((E - 1074:Nat):Int) - ((1074 - E:Nat):Int)+1074).toNat=E:=jg2 E
  have g:4503599627370496<=rnd (num*2 ^ (1074 - E)) (den*2 ^ (E - 1074))\/((E - 1074:Nat):Int) - ((1074 - E:Nat):Int) = -1074:=by
   rcases k2 with h | h
   ·subst h
    exact .inr rfl
   ·exact .inl (jeJ hdb h)
  rw [jaK q (jnq (jlT E)) g,eE];exact h3
theorem jeg (num den:Nat)(hd:0<den):∃E r,jbg num den E r:=by
 have h:∀E,num*T74<den*2 ^ E*9007199254740992->∃E r,jbg num den E r:=by
  intro E
  induction E with
  | zero=>intro h;exact⟨0,_,h,.inl rfl,rfl⟩
  | succ E ih=>
   intro h
   by_cases c:num*T74<den*2 ^ E*9007199254740992
   ·exact ih c
   ·refine⟨E+1,_,h,.inr ?_,rfl⟩
    rw [<-qH];generalize den*2 ^ E=X at *;generalize num*T74=Y at *;clear h ih;omega
 refine h (num*T74) ?_
 have h1:num*T74<2 ^ (num*T74):=Nat.lt_two_pow_self;generalize num*T74=Y at *;refine Nat.lt_of_lt_of_le h1 ?_
 rw [Nat.mul_comm den,Nat.mul_assoc];exact Nat.le_mul_of_pos_right _ (Nat.mul_pos hd (by omega))
theorem Q5 (num den:Nat)(hd:0<den):∃r,JE num den r:=by
 obtain⟨E,r,h⟩:=jeg num den hd;exact⟨r,Zh hd h⟩
def qh (r:Nat):Nat:=if r<4503599627370496 then r else r % 4503599627370496+4503599627370496
def step (r:Nat):Nat:=2 ^ (r / 4503599627370496 - 1)
def Qz (r:Nat):Nat:=4*qh r*step r
def mid (r:Nat):Nat:=(4*qh r+2)*step r
theorem JG (r:Nat):0<step r:=Nat.pow_pos (by omega)
theorem z7 (r:Nat):Qz (r+1)=Qz r+4*step r:=by
 unfold Qz qh step
 by_cases c:(r+1) % 4503599627370496=0
 ·by_cases c1:r<4503599627370496
  ·have e:r=4503599627370495:=by omega
   subst e;rfl
  ·rw [if_neg (by omega),if_neg c1,c,show(r+1) / 4503599627370496 - 1=(r / 4503599627370496 - 1)+1 by omega,Nat.pow_succ,show r % 4503599627370496=4503599627370495 by omega]
   generalize 2 ^ (r / 4503599627370496 - 1)=S;omega
 ·rw [show(r+1) / 4503599627370496=r / 4503599627370496 by omega]
  generalize 2 ^ (r / 4503599627370496 - 1)=S;have e:∀x:Nat,4*(x+1)*S=4*x*S+4*S:=fun x=>by rw [Nat.mul_add,Nat.add_mul]
  by_cases c1:r+1<4503599627370496
  ·rw [if_pos c1,if_pos (by omega),e]
  ·rw [if_neg c1,if_neg (by omega),<-e]
   congr 2
   omega
theorem Qa (r:Nat):mid r=Qz r+2*step r:=by
 unfold mid Qz;rw [Nat.add_mul]
theorem YJ {r s:Nat}(h:r<=s):Qz r<=Qz s:=by
 induction h with
 | refl=>exact Nat.le_refl _
 | step _ ih=>rw [z7];omega
theorem jpR {r s:Nat}(h:r<s):Qz r<Qz s:=by
 have h1:=YJ (show r+1<=s by omega);have h2:=z7 r;have h3:=JG r;omega
theorem jgz {r s:Nat}(h:r<=s):mid r<=mid s:=by
 by_cases c:r=s
 ·rw [c];exact Nat.le_refl _
 ·have h1:=YJ (show r+1<=s by omega)
  have h2:=z7 r;rw [Qa,Qa];omega
theorem jo8 {r s:Nat}(h:r<s):mid r<mid s:=by
 have h1:=YJ (show r+1<=s by omega);have h2:=z7 r;have h3:=JG r;have h4:=JG s;rw [Qa,Qa];omega
def Over (num den r:Nat):Prop:=r=0\/mid (r - 1)*den<num*T76\/(mid (r - 1)*den=num*T76/\r % 2=0)
def YW (num den r:Nat):Prop:=num*T76<mid r*den\/(num*T76=mid r*den/\r % 2=0)
theorem jl0 (n d:Nat)(hd:0<d):(2*n<(2*rnd n d+1)*d\/(2*n=(2*rnd n d+1)*d/\rnd n d % 2=0))/\
  ((2*rnd n d)*d<2*n+d\/((2*rnd n d)*d=2*n+d/\rnd n d % 2=0)):=by
 have e1:=Nat.div_add_mod n d;have l1:=Nat.mod_lt n hd;unfold rnd;generalize n / d=Q at *;generalize n % d=c at *;split
 ·rename_i h
  have x1:(2*(Q+1)+1)*d=2*(d*Q)+3*d:=by rw [Nat.add_mul,Nat.mul_assoc,Nat.add_mul,Nat.mul_comm Q];omega
  have x2:2*(Q+1)*d=2*(d*Q)+2*d:=by rw [Nat.mul_assoc,Nat.add_mul,Nat.mul_comm Q];omega
  rw [x1,x2];generalize d*Q=Z at *;omega
 ·rename_i h
  have x1:(2*Q+1)*d=2*(d*Q)+d:=by rw [Nat.add_mul,Nat.mul_assoc,Nat.mul_comm Q];omega
  have x2:2*Q*d=2*(d*Q):=by rw [Nat.mul_assoc,Nat.mul_comm Q]
  rw [x1,x2];generalize d*Q=Z at *;omega
theorem jnO {E q:Nat}(h1:q<9007199254740992)(h2:E=0\/4503599627370496<=q):qh (E*4503599627370496+q)=q/\step (E*4503599627370496+q)=2 ^ E:=by
 unfold qh step
 by_cases c:q<4503599627370496
 ·have e:E=0:=by omega
  subst e;rw [if_pos (by omega)];refine⟨by omega,?_⟩
  congr 1
  omega
 ·rw [if_neg (by omega)]
  refine⟨by omega,?_⟩
  congr 1
  omega
theorem jeC {E q:Nat}(h1:q<9007199254740992)(h2:E=0\/4503599627370496<=q):mid (E*4503599627370496+q)=(4*q+2)*2 ^ E:=by
 obtain⟨e1,e2⟩:=jnO h1 h2;unfold mid;rw [e1,e2]
theorem joZ (n:Nat):n*T76=4*(n*T74):=by
 unfold T76;generalize T74=T;rw [Nat.mul_left_comm]
theorem joW (E q:Nat):(E*4503599627370496+q) % 2=q % 2:=by omega
theorem jez {D X:Nat}(hD:0<D+D)(h:(D+D)*4503599627370496<=X):(4*9007199254740991+2)*D<4*X:=by omega
theorem jeQ {q X Y Z D:Nat}(e:Y+2*D=2*Z)(s:Z<2*X+D\/(Z=2*X+D/\q % 2=0)):Y<4*X\/(Y=4*X/\q % 2=0):=by omega
theorem jcD {D X:Nat}(hD:0<D)(h:X<D*9007199254740992):4*X<(4*4503599627370496+2)*(D+D):=by omega
theorem jct {q X Y:Nat}(s:2*X<Y\/(2*X=Y/\q % 2=0)):4*X<2*Y\/(4*X=2*Y/\q % 2=0):=by omega
theorem ZM (c E den:Nat):c*2 ^ E*den=c*(den*2 ^ E):=by rw [Nat.mul_assoc,Nat.mul_comm (2 ^ E)]
theorem jjC {X den E q:Nat}(hD:0<den*2 ^ E)(q1:q<=9007199254740992)(q2:E=0\/4503599627370496<=q)(h2:E=0\/den*2 ^ E*4503599627370496<=X)
  (s2:(2*q)*(den*2 ^ E)<2*X+den*2 ^ E\/((2*q)*(den*2 ^ E)=2*X+den*2 ^ E/\q % 2=0)) (z:E*4503599627370496+q≠0) :
  mid (E*4503599627370496+q - 1)*den<4*X\/(mid (E*4503599627370496+q - 1)*den=4*X/\q % 2=0):=by
 by_cases c:E≠0/\q=4503599627370496
 ·obtain⟨c1,c2⟩:=c
  subst c2;obtain⟨E',rfl⟩:∃E',E=E'+1:=⟨E - 1,(Nat.succ_pred c1).symm⟩
  have e0:(E'+1)*4503599627370496+4503599627370496 - 1=E'*4503599627370496+9007199254740991:=by clear hD q1 q2 h2 s2 z c1;omega
  rw [e0,jeC (by decide) (.inr (by decide)),ZM]
  left
  rcases h2 with h | h
  ·exact absurd h c1
  ·rw [<-qH] at h hD
   exact jez hD h
 ·clear h2
  have c3:1<=q:=by clear s2 hD;omega
  have e0:E*4503599627370496+q - 1=E*4503599627370496+(q - 1):=by clear hD q1 q2 s2 z c;omega
  have c4:E=0\/4503599627370496<=q - 1:=by clear hD s2 z e0;omega
  have c5:q - 1<9007199254740992:=by clear hD s2 z e0 c4 q2 c;omega
  rw [e0,jeC c5 c4,ZM]
  have e:(4*(q - 1)+2)*(den*2 ^ E)+2*(den*2 ^ E)=2*(2*q*(den*2 ^ E)):=by
   have e1:4*(q - 1)+2+2=2*(2*q):=by clear s2 hD c4 c5 e0 z c q2;omega
   rw [<-Nat.add_mul,e1,Nat.mul_assoc]
  exact jeQ e s2
theorem jhh {X den E q:Nat}(hD:0<den*2 ^ E)(q1:q<=9007199254740992)(q2:E=0\/4503599627370496<=q)(h1:X<den*2 ^ E*9007199254740992)
  (s1:2*X<(2*q+1)*(den*2 ^ E)\/(2*X=(2*q+1)*(den*2 ^ E)/\q % 2=0)) :
  4*X<mid (E*4503599627370496+q)*den\/(4*X=mid (E*4503599627370496+q)*den/\q % 2=0):=by
 by_cases c:q=9007199254740992
 ·subst c
  have e0:E*4503599627370496+9007199254740992=(E+1)*4503599627370496+4503599627370496:=by clear hD q1 q2 h1 s1;omega
  rw [e0,jeC (by decide) (.inr (Nat.le_refl _)),ZM,<-qH]
  left
  exact jcD hD h1
 ·have c5:q<9007199254740992:=Nat.lt_of_le_of_ne q1 c
  rw [jeC c5 q2,ZM]
  have e:(4*q+2)*(den*2 ^ E)=2*((2*q+1)*(den*2 ^ E)):=by
   have e1:4*q+2=2*(2*q+1):=by clear hD q1 q2 h1 s1 c c5;omega
   rw [e1,Nat.mul_assoc]
  rw [e];exact jct s1
theorem jn4 {num den E:Nat}(hd:0<den)(h1:num*T74<den*2 ^ E*9007199254740992)(h2:E=0\/den*2 ^ E*4503599627370496<=num*T74) :
  Over num den (E*4503599627370496+rnd (num*T74) (den*2 ^ E))/\YW num den (E*4503599627370496+rnd (num*T74) (den*2 ^ E)):=by
 have hD:0<den*2 ^ E:=Nat.mul_pos hd (Nat.pow_pos (by decide));have q1:=jbT h1
 have q2:E=0\/4503599627370496<=rnd (num*T74) (den*2 ^ E):=by
  rcases h2 with h | h
  ·exact .inl h
  ·exact .inr (jeJ hD h)
 obtain⟨s1,s2⟩:=jl0 (num*T74) (den*2 ^ E) hD;unfold Over YW;rw [joZ];generalize num*T74=X at *;generalize rnd X (den*2 ^ E)=q at *;rw [joW]
 constructor
 ·by_cases z:E*4503599627370496+q=0
  ·exact .inl z
  ·exact .inr (jjC hD q1 q2 h2 s2 z)
 ·exact jhh hD q1 q2 h1 s1
theorem ZJ {num den r:Nat}(hd:0<den)(h:JE num den r):r<=9218868437227405312/\Over num den r/\(r<9218868437227405312->YW num den r):=by
 obtain⟨E,h1,h2,h3⟩:=jlL hd h;obtain⟨s1,s2⟩:=jn4 hd h1 h2;generalize E*4503599627370496+rnd (num*T74) (den*2 ^ E)=R at *;refine⟨by omega,?_,?_⟩
 ·by_cases c:R<=9218868437227405312
  ·rw [h3,Nat.min_eq_right c]
   exact s1
  ·have e:r=9218868437227405312:=by omega
   rw [e]
   right
   have m:=Nat.mul_le_mul_right den (jgz (show 9218868437227405312 - 1<=R - 1 by omega))
   have m2:mid (R - 1)*den<=num*T76:=by
    rcases s1 with s | s | s
    ·omega
    ·omega
    ·omega
   generalize num*T76=X at *;generalize mid (9218868437227405312 - 1)*den=Y at *;generalize mid (R - 1)*den=Z at *;omega
 ·intro hr
  rw [h3,Nat.min_eq_right (by omega)];exact s2
theorem Xd {num den r s:Nat}(hd:0<den)(hu:YW num den r)(ho:Over num den s):s<=r:=by
 by_cases c:s<=r
 ·exact c
 ·exfalso
  have m:=Nat.mul_le_mul_right den (jgz (show r<=s - 1 by omega));unfold Over YW at *
  by_cases c2:s=r+1
  ·subst c2
   rw [show r+1 - 1=r by omega] at ho;generalize num*T76=X at *;generalize mid r*den=Y at *;omega
  ·have m2:=Nat.mul_lt_mul_of_pos_right (jo8 (show r<s - 1 by omega)) hd
   generalize num*T76=X at *;generalize mid r*den=Y at *;generalize mid (s - 1)*den=Z at *;omega
theorem XA {num den r:Nat}(hd:0<den)(hr:r<9218868437227405312)(ho:Over num den r)(hu:YW num den r):JE num den r:=by
 obtain⟨s,h⟩:=Q5 num den hd;obtain⟨h1,h2,h3⟩:=ZJ hd h;have l1:=Xd hd hu h2;have l2:=Xd hd (h3 (by omega)) ho;have e:s=r:=by omega
 rw [<-e];exact h
theorem jfo {num den:Nat}(hd:0<den)(ho:Over num den 9218868437227405312):JE num den 9218868437227405312:=by
 obtain⟨s,h⟩:=Q5 num den hd;obtain⟨h1,h2,h3⟩:=ZJ hd h
 by_cases c:s=9218868437227405312
 ·rw [<-c];exact h
 ·have l2:=Xd hd (h3 (by omega)) ho
  omega
def c80:Nat:=1080
def wF:Nat:=16*5 ^ c80
def T10:Nat:=10 ^ c80
theorem jd8 (n:Nat):(10:Nat) ^ n=2 ^ n*5 ^ n:=Nat.mul_pow 2 5 n
theorem jpx:2 ^ c80=T76*16:=by
 have e:c80=c74+6:=rfl;rw [e,Nat.pow_add];unfold T76 T74;generalize 2 ^ c74=T;omega
theorem jpt:T76*wF=T10:=by
 unfold wF T10;rw [jd8,jpx,Nat.mul_assoc]
theorem jcj:0<wF:=Nat.mul_pos (by decide) (Nat.pow_pos (by decide))
theorem jkR (x:Nat){b c:Nat}(h:1080=b+c):x*T10=x*10 ^ b*10 ^ c:=by
 have e:c80=b+c:=h;unfold T10;rw [e,Nat.pow_add,Nat.mul_assoc]
def fX (r:Nat):Nat:=Qz r*wF
def fH (r:Nat):Nat:=mid r*wF
def fL (r:Nat):Nat:=mid (r - 1)*wF
def J8 (r x:Nat):Prop:=(fL r<x/\x<fH r)\/(r % 2=0/\fL r<=x/\x<=fH r)
theorem jf6 {m num den x:Nat}(hd:0<den)(hx:num*T10=x*den):(m*den<num*T76↔m*wF<x)/\(m*den=num*T76↔m*wF=x)/\(num*T76<m*den↔x<m*wF):=by
 rw [<-jpt,<-Nat.mul_assoc] at hx;have e:∀y,y*den*wF=y*wF*den:=fun y=>by rw [Nat.mul_assoc,Nat.mul_comm den,Nat.mul_assoc]
 have hw:=jcj;generalize num*T76=N at *
 have l1:m*den<N↔m*wF<x:=by
  rw [<-Nat.mul_lt_mul_right hw,hx,e];exact Nat.mul_lt_mul_right hd
 have l2:N<m*den↔x<m*wF:=by
  rw [<-Nat.mul_lt_mul_right hw,hx,e];exact Nat.mul_lt_mul_right hd
 exact⟨l1,by omega,l2⟩
theorem jjQ {num den r x:Nat}(hd:0<den)(h0:0<r)(hr:r<9218868437227405312)(hx:num*T10=x*den):JE num den r↔J8 r x:=by
 obtain⟨a1,a2,a3⟩:=jf6 (m:=mid (r - 1)) hd hx;obtain⟨b1,b2,b3⟩:=jf6 (m:=mid r) hd hx
 have key:Over num den r/\YW num den r↔J8 r x:=by
  unfold Over YW J8 fL fH;rw [a1,a2,b3,eq_comm (a:=num*T76),b2];generalize mid (r - 1)*wF=A;generalize mid r*wF=B;omega
 constructor
 ·intro h
  obtain⟨_,h2,h3⟩:=ZJ hd h;exact key.1 ⟨h2,h3 hr⟩
 ·intro h
  obtain⟨h2,h3⟩:=key.2 h;exact XA hd hr h2 h3
theorem Qr (r:Nat)(h:0<r):fL r<fX r/\fX r<fH r:=by
 unfold fL fX fH;have h1:=z7 (r - 1);rw [show r - 1+1=r by omega] at h1;have h2:=Qa (r - 1);have h3:=Qa r;have h4:=JG r;have h5:=JG (r - 1);exact⟨Nat.mul_lt_mul_of_pos_right (by omega) jcj,Nat.mul_lt_mul_of_pos_right (by omega) jcj⟩
theorem jcX (r:Nat)(h:0<r):J8 r (fX r):=.inl (Qr r h)
def qg (X j:Nat):Nat:=X / 10 ^ j*10 ^ j
def zD (X j:Nat):Nat:=if qg X j=X then qg X j else qg X j+10 ^ j
def jfi (X j:Nat):Prop:=zD X j - X<X - qg X j\/(zD X j - X=X - qg X j/\X / 10 ^ j % 2=1)
def Good (r j:Nat):Prop:=J8 r (qg (fX r) j)\/J8 r (zD (fX r) j)
def QY (r j p:Nat):Prop :=
 (¬J8 r (qg (fX r) j)/\J8 r (zD (fX r) j)/\p=zD (fX r) j)\/
 (J8 r (qg (fX r) j)/\¬J8 r (zD (fX r) j)/\p=qg (fX r) j)\/
 (J8 r (qg (fX r) j)/\J8 r (zD (fX r) j)/\((jfi (fX r) j/\p=zD (fX r) j)\/(¬jfi (fX r) j/\p=qg (fX r) j)))
def XX (r j p:Nat):Prop:=10 ^ j<=fX r/\QY r j p/\∀i,j<i->10 ^ i<=fX r->¬Good r i
theorem jd5 {r j p:Nat}(h:QY r j p):Good r j:=by unfold QY Good at *;rcases h with h | h | h<;>simp_all
theorem jc0 {r j p:Nat}(h:QY r j p):J8 r p:=by
 unfold QY at h
 rcases h with ⟨_,h,rfl⟩ | ⟨h,_,rfl⟩ | ⟨h1,h2,⟨_,rfl⟩ | ⟨_,rfl⟩⟩<;>assumption
theorem jf0 {r j p q:Nat}(h:QY r j p)(k:QY r j q):p=q:=by
 unfold QY at h k
 rcases h with ⟨a,b,rfl⟩ | ⟨a,b,rfl⟩ | ⟨a,b,⟨c,rfl⟩ | ⟨c,rfl⟩⟩<;>rcases k with ⟨a',b',rfl⟩ | ⟨a',b',rfl⟩ | ⟨a',b',⟨c',rfl⟩ | ⟨c',rfl⟩⟩<;>first | rfl | contradiction
theorem jgi {r j p i q:Nat}(h:XX r j p)(k:XX r i q):p=q:=by
 obtain⟨h1,h2,h3⟩:=h;obtain⟨k1,k2,k3⟩:=k
 rcases Nat.lt_trichotomy i j with c | c | c
 ·exact absurd (jd5 h2) (k3 j c h1)
 ·subst c;exact jf0 h2 k2
 ·exact absurd (jd5 k2) (h3 i c k1)
theorem Zk (X j:Nat):qg X j<=X:=Nat.div_mul_le_self _ _
theorem ja6 (X j:Nat):X<qg X j+10 ^ j:=by
 unfold qg;have:=Nat.div_add_mod X (10 ^ j);have h:=Nat.mod_lt X (show 0<10 ^ j from Nat.pow_pos (by omega));rw [Nat.mul_comm];omega
theorem jaF (r:Nat):qh r<9007199254740992:=by unfold qh;split<;>omega
theorem jkz (r:Nat)(h:0<r):step (r - 1)=step r\/(step r=2*step (r - 1)/\qh r=4503599627370496):=by
 unfold step qh
 by_cases c:r % 4503599627370496=0
 ·by_cases c1:r / 4503599627370496=1
  ·left;rw [c1,show(r - 1) / 4503599627370496=0 by omega]
  ·right
   rw [if_neg (by omega),c,show r / 4503599627370496 - 1=((r - 1) / 4503599627370496 - 1)+1 by omega,Nat.pow_succ];exact⟨by rw [Nat.mul_comm],rfl⟩
 ·left
  congr 2
  omega
theorem wide {r:Nat}(h:0<r):fX r<(fH r - fL r)*10000000000000000:=by
 unfold fX fH fL;have hw:=jcj;rw [<-Nat.sub_mul,Nat.mul_assoc,Nat.mul_comm wF,<-Nat.mul_assoc];refine Nat.mul_lt_mul_of_pos_right ?_ hw
 have h1:=z7 (r - 1);rw [show r - 1+1=r by omega] at h1;have h2:=Qa (r - 1);have h3:=Qa r;have e:mid r - mid (r - 1)=2*step r+2*step (r - 1):=by omega
 rw [e];have m:=jaF r;have s:=JG r;have e2:Qz r=4*(qh r*step r):=by unfold Qz;rw [Nat.mul_assoc]
 rw [e2];clear e e2 h1 h2 h3
 rcases jkz r h with d | ⟨d1,d2⟩
 ·rw [d]
  have:=Nat.mul_lt_mul_of_pos_right m s;generalize qh r*step r=Z at *;omega
 ·rw [d2]
  omega
theorem jdZ {r i:Nat}(h:0<r)(hi:10 ^ i*10000000000000000<=fX r):Good r i:=by
 by_cases g:Good r i
 ·exact g
 ·exfalso
  have w:=wide h;have b:=Qr r h;have l1:=Zk (fX r) i;have l2:=ja6 (fX r) i;unfold Good zD at g
  by_cases c:qg (fX r) i=fX r
  ·rw [c] at g
   exact g (.inl (jcX r h))
  ·rw [if_neg c] at g
   unfold J8 at g;generalize 10 ^ i=T at *;generalize qg (fX r) i=A at *;generalize fX r=X at *;generalize fL r=L at *;generalize fH r=H at *;omega
theorem jQ (j:Nat):0<(10:Nat) ^ j:=Nat.pow_pos (by omega)
theorem Xl {d t j m:Nat}(h:d*10 ^ t=m*10 ^ j)(hd:d % 10≠0):j<=t:=by
 by_cases c:j<=t
 ·exact c
 ·exfalso
  obtain⟨e,rfl⟩:∃e,j=t+(e+1):=⟨j - t - 1,by omega⟩
  rw [Nat.pow_add,<-Nat.mul_assoc,Nat.mul_comm m,Nat.mul_assoc,Nat.mul_comm (10 ^ t)] at h;have h1:=Nat.eq_of_mul_eq_mul_right (jQ t) h;rw [Nat.pow_succ,<-Nat.mul_assoc] at h1;omega
theorem jgU {d t e s:Nat}(h:d*10 ^ t=e*10 ^ s)(hd:d % 10≠0)(he:e % 10≠0):d=e/\t=s:=by
 have a:=Xl h hd;have b:=Xl h.symm he;have c:t=s:=by omega
 subst c;exact⟨Nat.eq_of_mul_eq_mul_right (jQ t) h,rfl⟩
theorem jcq {r j p:Nat}(h:QY r j p):∃m,p=m*10 ^ j/\m<=fX r / 10 ^ j+1:=by
 have e1:∃m,qg (fX r) j=m*10 ^ j/\m<=fX r / 10 ^ j+1:=⟨_,rfl,by omega⟩
 have e2:∃m,zD (fX r) j=m*10 ^ j/\m<=fX r / 10 ^ j+1:=by
  unfold zD;split
  ·exact e1
  ·refine⟨fX r / 10 ^ j+1,?_,Nat.le_refl _⟩
   rw [Nat.add_mul,Nat.one_mul];rfl
 unfold QY at h
 rcases h with ⟨_,h,rfl⟩ | ⟨h,_,rfl⟩ | ⟨h1,h2,⟨_,rfl⟩ | ⟨_,rfl⟩⟩<;>assumption
theorem ji0 {r j p d t:Nat}(h0:0<r)(hb:XX r j p)(hp:d*10 ^ t=p)(hd:d % 10≠0):d<100000000000000000:=by
 by_cases c:d<100000000000000000
 ·exact c
 ·exfalso
  obtain⟨h1,h2,h3⟩:=hb;obtain⟨m,rfl,hm⟩:=jcq h2;have jt:=Xl hp hd
  have dm:d<=m:=by
   obtain⟨e,rfl⟩:∃e,t=j+e:=⟨t - j,by omega⟩
   rw [Nat.pow_add,Nat.mul_comm (10 ^ j),<-Nat.mul_assoc] at hp;have:=Nat.eq_of_mul_eq_mul_right (jQ j) hp;rw [<-this];exact Nat.le_mul_of_pos_right _ (jQ e)
  have cf:100000000000000000<=fX r / 10 ^ j:=by omega
  have big:=(Nat.le_div_iff_mul_le (jQ j)).1 cf;have e10:(10:Nat) ^ (j+1)=10*10 ^ j:=by rw [Nat.pow_succ,Nat.mul_comm]
  have g:=jdZ (i:=j+1) h0 (by rw [e10];generalize (10:Nat) ^ j=T at *;omega);exact h3 (j+1) (by omega) (by rw [e10];generalize (10:Nat) ^ j=T at *;omega) g
def Q0 (N:Nat):Nat:=(N*1262611+3166228440) / 4194304
def jeI (N:Nat):Bool:=decide (10 ^ Q0 N<=2 ^ N*5 ^ c80/\2 ^ N*5 ^ c80<10 ^ (Q0 N+1))
def Xs (k:Nat):Nat->Bool
 | 0=>true
 | n+1=>jeI (k+n) && Xs k n
theorem Qg {k:Nat}:∀n,Xs k n=true->∀i,i<n->jeI (k+i)=true
 | 0,_,i,hi=>by omega
 | n+1,h,i,hi=>by
  unfold Xs at h;rw [Bool.and_eq_true] at h
  by_cases c:i=n
  ·rw [c];exact h.1
  ·exact Qg n h.2 i (by omega)
theorem fits1:Xs 6 500=true:=by decide +kernel
theorem jpP:Xs 506 500=true:=by decide +kernel
theorem jpD:Xs 1006 500=true:=by decide +kernel
theorem jps:Xs 1506 598=true:=by decide +kernel
theorem jnt {N:Nat}(h1:6<=N)(h2:N<2104):10 ^ Q0 N<=2 ^ N*5 ^ c80/\2 ^ N*5 ^ c80<10 ^ (Q0 N+1):=by
 have h:jeI N=true:=by
  by_cases a:N<506
  ·have:=Qg _ fits1 (N - 6) (by omega)
   rwa [show 6+(N - 6)=N by omega] at this
  ·by_cases b:N<1006
   ·have:=Qg _ jpP (N - 506) (by omega)
    rwa [show 506+(N - 506)=N by omega] at this
   ·by_cases c:N<1506
    ·have:=Qg _ jpD (N - 1006) (by omega)
     rwa [show 1006+(N - 1006)=N by omega] at this
    ·have:=Qg _ jps (N - 1506) (by omega)
     rwa [show 1506+(N - 1506)=N by omega] at this
 exact of_decide_eq_true h
theorem jpC (r E:Nat)(hs:step r=2 ^ E):fX r=qh r*(2 ^ (E+6)*5 ^ c80):=by
 unfold fX Qz wF;rw [hs,Nat.pow_add];generalize 2 ^ E=T;generalize 5 ^ c80=F;generalize qh r=m;have e:(2:Nat) ^ 6=64:=rfl;rw [e,Nat.mul_assoc 4 m T,Nat.mul_mul_mul_comm 4 (m*T) 16 F,Nat.mul_comm T 64,Nat.mul_assoc 64 T F,Nat.mul_left_comm m 64,Nat.mul_assoc m T F]
theorem jmR {r E b:Nat}(hs:step r=2 ^ E)(hb1:2 ^ b<=qh r)(hb2:qh r<2 ^ (b+1))(hE:E<=2045)(hb:b<=52) :
  10 ^ (Q0 (b+E+6))<=fX r/\fX r<2*10 ^ (Q0 (b+E+6)+1):=by
 obtain⟨h1,h2⟩:=jnt (N:=b+E+6) (by omega) (by omega);rw [jpC r E hs];rw [Nat.add_assoc b,Nat.pow_add,Nat.mul_assoc] at h1 h2;rw [Nat.pow_succ] at hb2;generalize 2 ^ (E+6)*5 ^ c80=F at *;rw [Nat.add_assoc b]
 constructor
 ·exact Nat.le_trans h1 (Nat.mul_le_mul_right _ hb1)
 ·have a1:qh r*F<=2 ^ b*2*F:=Nat.mul_le_mul_right _ (by omega)
  have a2:2 ^ b*2*F=2*(2 ^ b*F):=by rw [Nat.mul_comm (2 ^ b),Nat.mul_assoc]
  omega
theorem jc6 {N D Y P:Nat}(hD:0<D)(hP:0<P)(h:N*P=Y*D):N / D=Y / P/\(N % D=0↔Y % P=0):=by
 constructor
 ·rw [<-Nat.mul_div_mul_right N D hP,h,Nat.mul_comm D P,Nat.mul_div_mul_right _ _ hD]
 ·have e:N % D*P=Y % P*D:=by rw [<-Nat.mul_mod_mul_right,h,Nat.mul_comm D P,Nat.mul_mod_mul_right]
  constructor
  ·intro h0
   rw [h0,Nat.zero_mul] at e
   rcases Nat.mul_eq_zero.1 e.symm with k | k<;>omega
  ·intro h0
   rw [h0,Nat.zero_mul] at e
   rcases Nat.mul_eq_zero.1 e with k | k<;>omega
def jau (r c:Nat):Nat:=fL r / 10 ^ c+(if r % 2=1\/fL r % 10 ^ c≠0 then 1 else 0)
def Ql (r c:Nat):Nat:=fH r / 10 ^ c - (if r % 2=1/\fH r % 10 ^ c=0 then 1 else 0)
theorem YY (Y P x:Nat)(hP:0<P):(x*P<Y↔x<Y / P\/(x=Y / P/\Y % P≠0))/\(x*P=Y↔x=Y / P/\Y % P=0):=by
 have e:=Nat.div_add_mod Y P;have l:=Nat.mod_lt Y hP;generalize Y / P=q at *;generalize Y % P=s at *
 rcases Nat.lt_trichotomy x q with c | c | c
 ·have h:=Nat.mul_le_mul_right P (show x+1<=q by omega)
  rw [Nat.add_mul,Nat.one_mul,Nat.mul_comm q] at h;omega
 ·subst c
  rw [Nat.mul_comm x];omega
 ·have h:=Nat.mul_le_mul_right P (show q+1<=x by omega)
  rw [Nat.add_mul,Nat.one_mul,Nat.mul_comm q] at h;omega
theorem jbz {r c x:Nat}(h0:0<r)(hx:x*10 ^ c<=fX r):x<jau r c↔¬J8 r (x*10 ^ c):=by
 obtain⟨a1,a2⟩:=YY (fL r) (10 ^ c) x (jQ c);obtain⟨b1,b2⟩:=Qr r h0;unfold J8 jau;generalize x*10 ^ c=y at *;generalize fL r / 10 ^ c=q at *;generalize fL r % 10 ^ c=s at *;generalize fL r=L at *;generalize fH r=H at *;generalize fX r=X at *;split<;>omega
theorem Yx {r c x:Nat}(h0:0<r)(hx:fX r<=x*10 ^ c):x<=Ql r c↔J8 r (x*10 ^ c):=by
 obtain⟨a1,a2⟩:=YY (fH r) (10 ^ c) x (jQ c);obtain⟨b1,b2⟩:=Qr r h0;unfold J8 Ql;have hx0:x≠0:=by intro e;subst e;rw [Nat.zero_mul] at hx;omega
 generalize x*10 ^ c=y at *;generalize fH r / 10 ^ c=q at *;generalize fH r % 10 ^ c=s at *;generalize fL r=L at *;generalize fH r=H at *;generalize fX r=X at *;split<;>omega
theorem jbZ {X c u a:Nat}(ha:a=X / 10 ^ c):qg X (c+u)=a / 10 ^ u*10 ^ u*10 ^ c/\X / 10 ^ (c+u)=a / 10 ^ u:=by
 have e:X / 10 ^ (c+u)=a / 10 ^ u:=by rw [ha,Nat.pow_add,Nat.div_div_eq_div_mul]
 refine⟨?_,e⟩;unfold qg;rw [e,Nat.pow_add,Nat.mul_comm (10 ^ c),Nat.mul_assoc]
theorem jfc {X c u a:Nat}(ha:a=X / 10 ^ c):X=qg X (c+u)+(a % 10 ^ u*10 ^ c+X % 10 ^ c)/\X % 10 ^ c<10 ^ c:=by
 have e1:=Nat.div_add_mod X (10 ^ c);have e2:=Nat.div_add_mod a (10 ^ u);refine⟨?_,Nat.mod_lt _ (jQ c)⟩;rw [(jbZ ha).1];rw [<-ha] at e1;have e3:a*10 ^ c=a / 10 ^ u*10 ^ u*10 ^ c+a % 10 ^ u*10 ^ c:=by rw [<-Nat.add_mul,Nat.mul_comm (a / 10 ^ u),e2]
 rw [Nat.mul_comm (10 ^ c)] at e1;omega
theorem jfJ (u:Nat)(hu:1<=u):10 ^ u / 2*2=10 ^ u:=by
 obtain⟨v,rfl⟩:∃v,u=v+1:=⟨u - 1,by omega⟩
 rw [Nat.pow_succ];omega
theorem jkT {r c u a:Nat}(h0:0<r)(ha:a=fX r / 10 ^ c)(hu:1<=u)(hd:¬a / 10 ^ u*10 ^ u<jau r c)
  (hc:Ql r c<a / 10 ^ u*10 ^ u+10 ^ u\/a % 10 ^ u<10 ^ u / 2\/(a % 10 ^ u=10 ^ u / 2/\fX r % 10 ^ c=0/\a / 10 ^ u % 2=0)) :
  QY r (c+u) (a / 10 ^ u*10 ^ u*10 ^ c):=by
 obtain⟨e1,e2⟩:=jbZ (u:=u) ha;obtain⟨e3,e4⟩:=jfc (u:=u) ha;have le:=Zk (fX r) (c+u);rw [jbz h0 (by rw [<-e1];exact le),<-e1,Classical.not_not] at hd;rw [<-e1];unfold QY
 by_cases s:qg (fX r) (c+u)=fX r
 ·right;right
  have eu:zD (fX r) (c+u)=qg (fX r) (c+u):=by unfold zD;rw [if_pos s]
  rw [eu];refine⟨hd,hd,?_⟩
  by_cases t:jfi (fX r) (c+u)
  ·exact .inl ⟨t,rfl⟩
  ·exact .inr ⟨t,rfl⟩
 ·have eu:zD (fX r) (c+u)=qg (fX r) (c+u)+10 ^ (c+u):=by unfold zD;rw [if_neg s]
  have eu2:zD (fX r) (c+u)=(a / 10 ^ u*10 ^ u+10 ^ u)*10 ^ c:=by rw [eu,e1,Nat.add_mul,Nat.pow_add,Nat.mul_comm (10 ^ c)]
  have lt:=ja6 (fX r) (c+u);rw [<-eu] at lt
  by_cases t:J8 r (zD (fX r) (c+u))
  ·right;right
   refine⟨hd,t,.inr ⟨?_,rfl⟩⟩;rw [eu2,<-Yx h0 (by rw [<-eu2];omega)] at t
   have hc':a % 10 ^ u<10 ^ u / 2\/(a % 10 ^ u=10 ^ u / 2/\fX r % 10 ^ c=0/\a / 10 ^ u % 2=0):=by
    rcases hc with k | k
    ·omega
    ·exact k
   have hh:=jfJ u hu
   have ep:10 ^ (c+u)=2*(10 ^ u / 2*10 ^ c):=by
    rw [Nat.pow_add,Nat.mul_comm (10 ^ c)];rw [<-Nat.mul_assoc,Nat.mul_comm 2,hh]
   unfold jfi;rw [e2]
   rcases hc' with k | ⟨k1,k2,k3⟩
   ·have k2:=Nat.mul_le_mul_right (10 ^ c) (show a % 10 ^ u+1<=10 ^ u / 2 by omega)
    rw [Nat.add_mul,Nat.one_mul] at k2;generalize a % 10 ^ u*10 ^ c=A at *;generalize 10 ^ u / 2*10 ^ c=B at *;generalize fX r % 10 ^ c=C at *;generalize qg (fX r) (c+u)=D at *;generalize zD (fX r) (c+u)=U at *;generalize fX r=X at *;clear hd ha e1 e2 eu2 hh t;generalize 10 ^ (c+u)=G at *;generalize 10 ^ c=K at *;omega
   ·rw [k1] at e3
    generalize 10 ^ u / 2*10 ^ c=B at *;generalize fX r % 10 ^ c=C at *;generalize qg (fX r) (c+u)=D at *;generalize zD (fX r) (c+u)=U at *;generalize fX r=X at *;clear hd ha e1 e2 eu2 hh t;generalize 10 ^ (c+u)=G at *;generalize 10 ^ c=K at *;omega
  ·right;left
   exact⟨hd,t,rfl⟩
theorem joH {r c u a:Nat}(ha:a=fX r / 10 ^ c)(s:qg (fX r) (c+u)≠fX r):zD (fX r) (c+u)=(a / 10 ^ u*10 ^ u+10 ^ u)*10 ^ c:=by
 obtain⟨e1,e2⟩:=jbZ (u:=u) ha;have eu:zD (fX r) (c+u)=qg (fX r) (c+u)+10 ^ (c+u):=by unfold zD;rw [if_neg s]
 rw [eu,e1,Nat.add_mul,Nat.pow_add,Nat.mul_comm (10 ^ c)]
theorem joJ {r c u:Nat}(s:qg (fX r) (c+u)≠fX r):fX r<=zD (fX r) (c+u):=by
 have lt:=ja6 (fX r) (c+u);unfold zD;rw [if_neg s];omega
theorem jmr {r c u a:Nat}(h0:0<r)(ha:a=fX r / 10 ^ c)(hd:a / 10 ^ u*10 ^ u<jau r c) :
  (a / 10 ^ u*10 ^ u+10 ^ u<=Ql r c->QY r (c+u) ((a / 10 ^ u*10 ^ u+10 ^ u)*10 ^ c))/\(¬a / 10 ^ u*10 ^ u+10 ^ u<=Ql r c->¬Good r (c+u)):=by
 obtain⟨e1,e2⟩:=jbZ (u:=u) ha;have le:=Zk (fX r) (c+u);rw [jbz h0 (by rw [<-e1];exact le),<-e1] at hd;have s:qg (fX r) (c+u)≠fX r:=fun e=>hd (by rw [e];exact jcX r h0)
 have eu:=joH ha s;have ge:=joJ s;rw [Yx h0 (by rw [<-eu];exact ge),<-eu]
 constructor
 ·intro t
  left
  exact⟨hd,t,rfl⟩
 ·intro t g
  exact g.elim hd t
theorem jnP {r c u a:Nat}(h0:0<r)(ha:a=fX r / 10 ^ c)(hu:1<=u)(hd:¬a / 10 ^ u*10 ^ u<jau r c)(h1:a / 10 ^ u*10 ^ u+10 ^ u<=Ql r c)(h2:10 ^ u / 2<=a % 10 ^ u)
  (h3:¬(a % 10 ^ u=10 ^ u / 2/\fX r % 10 ^ c=0/\a / 10 ^ u % 2=0)):QY r (c+u) ((a / 10 ^ u*10 ^ u+10 ^ u)*10 ^ c):=by
 obtain⟨e1,e2⟩:=jbZ (u:=u) ha;obtain⟨e3,e4⟩:=jfc (u:=u) ha;have le:=Zk (fX r) (c+u);have hh:=jfJ u hu;have hp:=jQ u;have hc:=jQ c
 have s:qg (fX r) (c+u)≠fX r:=by
  intro e;have:a % 10 ^ u*10 ^ c=0:=by omega
  rcases Nat.mul_eq_zero.1 this with k | k<;>omega
 rw [jbz h0 (by rw [<-e1];exact le),<-e1,Classical.not_not] at hd;have eu:=joH ha s;have ge:=joJ s;rw [Yx h0 (by rw [<-eu];exact ge),<-eu] at h1;rw [<-eu]
 right;right
 refine⟨hd,h1,.inl ⟨?_,rfl⟩⟩;have ea:zD (fX r) (c+u)=qg (fX r) (c+u)+10 ^ (c+u):=by unfold zD;rw [if_neg s]
 have ep:10 ^ (c+u)=2*(10 ^ u / 2*10 ^ c):=by
  rw [Nat.pow_add,Nat.mul_comm (10 ^ c)];rw [<-Nat.mul_assoc,Nat.mul_comm 2,hh]
 unfold jfi;rw [e2]
 by_cases k:a % 10 ^ u=10 ^ u / 2
 ·rw [k] at e3
  generalize 10 ^ u / 2*10 ^ c=B at *;generalize fX r % 10 ^ c=C at *;generalize qg (fX r) (c+u)=D at *;generalize zD (fX r) (c+u)=U at *;generalize fX r=X at *;clear hd ha e1 e2 eu hh h1;generalize 10 ^ (c+u)=G at *;generalize 10 ^ c=K at *;omega
 ·have k2:=Nat.mul_le_mul_right (10 ^ c) (show 10 ^ u / 2+1<=a % 10 ^ u by omega)
  rw [Nat.add_mul,Nat.one_mul] at k2;generalize a % 10 ^ u*10 ^ c=A at *;generalize 10 ^ u / 2*10 ^ c=B at *;generalize fX r % 10 ^ c=C at *;generalize qg (fX r) (c+u)=D at *;generalize zD (fX r) (c+u)=U at *;generalize fX r=X at *;clear hd ha e1 e2 eu hh h1;generalize 10 ^ (c+u)=G at *;generalize 10 ^ c=K at *;omega
theorem jbN {m n E:Nat}:∃T,0<T/\m*T74=m*2 ^ (1074 - E)*T/\n*2 ^ E=n*2 ^ (E - 1074)*T :=
 ⟨2 ^ (1074 - (1074 - E)),Nat.pow_pos (by decide),YK _ (by omega),Yv _ (by omega)⟩
theorem jdM {m n Lu Lb:Nat}(hm:m<2 ^ Lu)(hn:2 ^ Lb<=2*n):m*T74<n*2 ^ (Lu+1021 - Lb)*18014398509481984:=by
 have h1:m*T74<2 ^ Lu*T74:=Nat.mul_lt_mul_of_pos_right hm (Nat.pow_pos (by decide));refine Nat.lt_of_lt_of_le h1 ?_
 have e:2 ^ Lu*T74=2 ^ (Lu+c74):=by unfold T74;rw [Nat.pow_add]
 have e2:n*2 ^ (Lu+1021 - Lb)*18014398509481984=2*n*2 ^ (Lu+1021 - Lb)*2 ^ 53:=by
  rw [show(2:Nat) ^ 53=9007199254740992 from rfl,Nat.mul_assoc 2];generalize n*2 ^ (Lu+1021 - Lb)=X;omega
 rw [e,e2];have h2:2 ^ Lb*2 ^ (Lu+1021 - Lb)*2 ^ 53<=2*n*2 ^ (Lu+1021 - Lb)*2 ^ 53:=Nat.mul_le_mul_right _ (Nat.mul_le_mul_right _ hn);refine Nat.le_trans ?_ h2
 rw [<-Nat.pow_add,<-Nat.pow_add];refine Nat.pow_le_pow_right (by decide) ?_
 show Lu+1074<=_
 omega
theorem jhP {m n Lu Lb:Nat}(hm:2 ^ Lu<=2*m)(hn:n<2 ^ Lb)(h:Lb<Lu+1021):n*2 ^ (Lu+1021 - Lb)*4503599627370496<=m*T74:=by
 have h1:n*2 ^ (Lu+1021 - Lb)*2 ^ 52<=2 ^ Lb*2 ^ (Lu+1021 - Lb)*2 ^ 52:=Nat.mul_le_mul_right _ (Nat.mul_le_mul_right _ (Nat.le_of_lt hn));rw [show(2:Nat) ^ 52=4503599627370496 from rfl] at h1;refine Nat.le_trans h1 ?_
 rw [show(4503599627370496:Nat)=2 ^ 52 from rfl,<-Nat.pow_add,<-Nat.pow_add];have h2:2 ^ Lu*T74<=2*m*T74:=Nat.mul_le_mul_right _ hm;have e:2 ^ Lu*T74=2 ^ (Lu+c74):=by unfold T74;rw [Nat.pow_add]
 have ex:Lu+c74=(Lb+(Lu+1021 - Lb)+52)+1:=by
  show Lu+1074=_
  clear h1 h2 e hm hn;omega
 have e2:2 ^ (Lu+c74)=2*2 ^ (Lb+(Lu+1021 - Lb)+52):=by rw [ex,Nat.pow_succ,Nat.mul_comm]
 rw [e,e2,Nat.mul_assoc] at h2;omega
theorem jmy {X Y:Nat}(o:Y<X*18014398509481984):Y<(X+X)*9007199254740992:=by
 have e:(X+X)*9007199254740992=X*18014398509481984:=by rw [<-Nat.two_mul,Nat.mul_comm 2 X,Nat.mul_assoc]
 rw [e];exact o
theorem jmi {X Y:Nat}(h:¬Y<X*9007199254740992):(X+X)*4503599627370496<=Y:=by omega
theorem jdO {m n Lu Lb:Nat}(h0:0<n)(hm1:m<2 ^ Lu)(hm2:2 ^ Lu<=2*m)(hn1:n<2 ^ Lb)(hn2:2 ^ Lb<=2*n) :
  (m*T74<n*2 ^ (Lu+1021 - Lb)*9007199254740992->jbg m n (Lu+1021 - Lb) (min 9218868437227405312 ((Lu+1021 - Lb)*4503599627370496+rnd (m*T74) (n*2 ^ (Lu+1021 - Lb)))))/\
  (¬m*T74<n*2 ^ (Lu+1021 - Lb)*9007199254740992->jbg m n (Lu+1021 - Lb+1) (min 9218868437227405312 ((Lu+1021 - Lb+1)*4503599627370496+rnd (m*T74) (n*2 ^ (Lu+1021 - Lb+1))))):=by
 constructor
 ·intro h
  refine⟨h,?_,rfl⟩
  by_cases c:Lu+1021 - Lb=0
  ·exact .inl c
  ·exact .inr (jhP hm2 hn1 (by omega))
 ·intro h
  have o:=jdM hm1 hn2;refine⟨?_,.inr ?_,rfl⟩
  ·rw [<-qH]
   exact jmy o
  ·rw [<-qH]
   exact jmi h
theorem Y4 {m n E r:Nat}(hn:0<n)(h:jbg m n E r)(hE:2046<=E):r=9218868437227405312:=by
 obtain⟨h1,h2,h3⟩:=h
 have q:4503599627370496<=rnd (m*T74) (n*2 ^ E):=by
  rcases h2 with h | h
  ·omega
  ·exact jeJ (Nat.mul_pos hn (Nat.pow_pos (by decide))) h
 rw [h3,Nat.min_eq_left];clear h1 h2 h3;omega
theorem jhf {m n Lu Lb:Nat}(h0:0<n)(hm1:m<2 ^ Lu)(hm2:2 ^ Lu<=2*m)(hn1:n<2 ^ Lb)(hn2:2 ^ Lb<=2*n)(h:Lb+1024<Lu):JE m n 9218868437227405312:=by
 obtain⟨p1,p2⟩:=jdO h0 hm1 hm2 hn1 hn2
 by_cases c:m*T74<n*2 ^ (Lu+1021 - Lb)*9007199254740992
 ·have e:=Y4 h0 (p1 c) (by omega)
  have:=Zh h0 (p1 c);rwa [e] at this
 ·have e:=Y4 h0 (p2 c) (by omega)
  have:=Zh h0 (p2 c);rwa [e] at this
theorem jfE {m n E:Nat}(hn:0<n):(m*2 ^ (1074 - E) / (n*2 ^ (E - 1074))<9007199254740992↔m*T74<n*2 ^ E*9007199254740992)/\rnd (m*T74) (n*2 ^ E)=rnd (m*2 ^ (1074 - E)) (n*2 ^ (E - 1074)):=by
 obtain⟨T,hT,e1,e2⟩:=jbN (m:=m) (n:=n) (E:=E);have hB:0<n*2 ^ (E - 1074):=Nat.mul_pos hn (Nat.pow_pos (by decide))
 constructor
 ·rw [Nat.div_lt_iff_lt_mul hB,e1,e2,Nat.mul_comm 9007199254740992,Nat.mul_assoc (n*2 ^ (E - 1074)) T,Nat.mul_comm T,<-Nat.mul_assoc,Nat.mul_lt_mul_right hT]
 ·rw [e1,e2,ZL _ _ _ hT]
theorem jmP (A B:Nat)(hB:0<B):rnd A B=A / B+(if B<A % B+A % B\/(A % B+A % B=B/\A / B % 2=1) then 1 else 0):=by
 unfold rnd
 by_cases h:B<A % B+A % B\/(A % B+A % B=B/\A / B % 2=1)
 ·rw [if_pos h,if_pos (by omega)]
 ·rw [if_neg h,if_neg (by omega)]
  rfl
open Go.RowKit
def WSl (w:World)(v:Value)(l:List Nat):Prop:=∃a cap,v=.slice a l.length cap/\l.length<=cap/\RowU w a l
def WBig (w:World)(v:Value)(n:Nat):Prop:=WSl w v (jh n)
theorem WSl.below {w w':World}{v:Value}{l:List Nat}(h:WSl w v l)(hb:Below w.heap.size w w'):WSl w' v l:=by
 obtain⟨a,cap,e,hc,hr⟩:=h;exact⟨a,cap,e,hc,hr.below hb⟩
theorem WBig.below {w w':World}{v:Value}{n:Nat}(h:WBig w v n)(hb:Below w.heap.size w w'):WBig w' v n:=WSl.below h hb
theorem jj (n:Nat):jg (jh n):=by
 induction n using Nat.strongRecOn with
 | ind n ih=>
  by_cases h:n=0
  ·subst h;rw [jy];intro j hj;simp at hj
  ·rw [zH h];exact qK.2 ⟨by omega,ih _ (by omega)⟩
theorem jb6 (l:List Nat)(k:Nat)(h:k<l.length):l.take (k+1)=l.take k++[l.getD k 0]:=jjn l k h
open Go.RowKit
theorem Jy:jg []:=fun j h=>absurd h (by simp)
theorem qF {a b:List Nat}:jg (a++b)↔jg a/\jg b:=by
 induction a with
 | nil=>simp [Jy]
 | cons x a ih=>rw [List.cons_append,qK,qK,ih,and_assoc]
theorem qA {d:Nat}(h:d<4294967296):jg [d]:=qK.2 ⟨h,Jy⟩
theorem j9 (a b:List Nat):je (a++b)=je a+4294967296 ^ a.length*je b:=by
 induction a with
 | nil=>simp [je]
 | cons x a ih=>
  rw [List.cons_append,je,je,ih,List.length_cons,Nat.pow_succ];have:4294967296 ^ a.length*4294967296*je b=4294967296*(4294967296 ^ a.length*je b):=by rw [Nat.mul_comm (4294967296 ^ a.length),Nat.mul_assoc]
  rw [this];omega
theorem qG (d:Nat):je [d]=d:=by simp [je]
theorem zS {l:List Nat}(h:jg l)(k:Nat):jg (l.take k):=by
 rw [<-List.take_append_drop k l,qF] at h;exact h.1
theorem jN (l:List Nat)(k:Nat):je (l.take (k+1))=je (l.take k)+4294967296 ^ k*l.getD k 0:=by
 by_cases h:k<l.length
 ·rw [jb6 l k h,j9,qG,List.length_take,Nat.min_eq_left (by omega)]
 ·have e:l.getD k 0=0:=by rw [List.getD,List.getElem?_eq_none (by omega)];rfl
  rw [e,List.take_of_length_le (by omega),List.take_of_length_le (by omega)];omega
theorem JP (l:List Nat)(d:Nat):∀j,j<l.length->je (l.set j d)+4294967296 ^ j*l.getD j 0=je l+4294967296 ^ j*d:=by
 induction l with
 | nil=>intro j h;simp at h
 | cons x l ih=>
  intro j h;cases j with
  | zero=>simp [je];omega
  | succ j=>
   have:=ih j (by simpa using h);simp only [List.set_cons_succ,je,List.getD_cons_succ,Nat.pow_succ];have e1:4294967296 ^ j*4294967296*l.getD j 0=4294967296*(4294967296 ^ j*l.getD j 0):=by rw [Nat.mul_comm (4294967296 ^ j),Nat.mul_assoc]
   have e2:4294967296 ^ j*4294967296*d=4294967296*(4294967296 ^ j*d):=by rw [Nat.mul_comm (4294967296 ^ j),Nat.mul_assoc]
   omega
theorem zx {l:List Nat}{j d:Nat}(h:jg l)(hd:d<4294967296):jg (l.set j d):=by
 intro i hi;rw [List.length_set] at hi
 by_cases e:i=j
 ·subst e;simp [List.getD,hi];exact hd
 ·rw [List.getD,List.getElem?_set_ne (by omega)];exact h i hi
theorem YR (n:Nat):je (List.replicate n 0)=0:=by
 induction n with
 | zero=>rfl
 | succ n ih=>rw [List.replicate_succ,je,ih]
theorem QT (n:Nat):jg (List.replicate n 0):=by
 intro j hj;rw [List.length_replicate] at hj;simp [List.getD,hj]
theorem X9 {n:Nat}:jh n=[]↔n=0:=by
 constructor
 ·intro h;rw [<-jl n,h];rfl
 ·rintro rfl;exact jy
theorem zK {n:Nat}(h:n≠0):0<(jh n).length:=by
 cases e:jh n with
 | nil=>exact absurd (X9.1 e) h
 | cons x r=>simp
theorem XB:∀(l:List Nat),jg l->l.take (jh (je l)).length=jh (je l)
 | [],_=>by show _=jh 0;rw [jy];simp
 | d :: r,h=>by
  obtain⟨h1,h2⟩:=qK.1 h;have ih:=XB r h2
  by_cases h0:je (d :: r)=0
  ·rw [h0,jy];simp
  ·rw [zH h0]
   have e1:je (d :: r) % 4294967296=d:=by rw [je];omega
   have e2:je (d :: r) / 4294967296=je r:=by rw [je];omega
   rw [e1,e2,List.length_cons,List.take_succ_cons,ih]
theorem qC {n k:Nat}(h:n<4294967296 ^ k):(jh n).length<=k:=by
 induction k generalizing n with
 | zero=>
  have:n=0:=by simpa using h
  subst this;rw [jy];simp
 | succ k ih=>
  by_cases h0:n=0
  ·subst h0;rw [jy];simp
  ·rw [zH h0,List.length_cons]
   have:n / 4294967296<4294967296 ^ k:=by
    rw [Nat.pow_succ] at h;exact Nat.div_lt_of_lt_mul (by omega)
   have:=ih this;omega
theorem QU (n:Nat):n<4294967296 ^ (jh n).length:=by have:=zG (jj n);rwa [jl] at this
theorem jaM {n k:Nat}(h:4294967296 ^ k<=n):k<(jh n).length:=by
 have h1:=QU n
 by_cases e:k<(jh n).length
 ·exact e
 ·have:4294967296 ^ (jh n).length<=4294967296 ^ k:=Nat.pow_le_pow_right (by omega) (by omega)
  omega
theorem ji {l:List Nat}(h:jg l):(jh (je l)).length<=l.length:=qC (zG h)
theorem Qk {m n:Nat}(h:m<=n):(jh m).length<=(jh n).length:=qC (Nat.lt_of_le_of_lt h (QU n))
theorem Zl {m n:Nat}(h:(jh m).length<(jh n).length):m<n:=by
 by_cases e:m<n
 ·exact e
 ·have:=Qk (show n<=m by omega)
  omega
theorem Qp {n:Nat}(h:n≠0):(jh n).getD ((jh n).length - 1) 0≠0:=by
 induction n using Nat.strongRecOn with
 | ind n ih=>
  rw [zH h]
  by_cases e:n / 4294967296=0
  ·rw [e,jy]
   simp;omega
  ·have hp:=zK e
   have e1:(n % 4294967296 :: jh (n / 4294967296)).length - 1=((jh (n / 4294967296)).length - 1)+1:=by rw [List.length_cons];omega
   rw [e1,List.getD_cons_succ];exact ih _ (by omega) e
theorem ZO:∀{l:List Nat},jg l->(l=[]\/l.getD (l.length - 1) 0≠0)->jh (je l)=l
 | [],_,_=>jy
 | d :: r,h,hl=>by
  obtain⟨h1,h2⟩:=qK.1 h
  have hr:r=[]\/r.getD (r.length - 1) 0≠0:=by
   by_cases e:r=[]
   ·exact .inl e
   ·right
    rcases hl with hl | hl
    ·cases hl
    ·have hp:0<r.length:=List.length_pos_iff.2 e
     have e1:(d :: r).length - 1=(r.length - 1)+1:=by rw [List.length_cons];omega
     rw [e1,List.getD_cons_succ] at hl;exact hl
  have ih:=ZO h2 hr
  have hne:je (d :: r)≠0:=by
   intro e;rw [je] at e;have e0:je r=0:=by omega
   rw [e0,jy] at ih;subst ih
   rcases hl with hl | hl
   ·cases hl
   ·simp at hl
    omega
  rw [zH hne];have e1:je (d :: r) % 4294967296=d:=by rw [je];omega
  have e2:je (d :: r) / 4294967296=je r:=by rw [je];omega
  rw [e1,e2,ih]
theorem JN (l:List Nat)(k:Nat)(hs:jg l):∃t,je l=t+4294967296 ^ k*je (l.drop k)/\t<4294967296 ^ k:=by
 refine⟨je (l.take k),?_,?_⟩
 ·by_cases h:k<=l.length
  ·have:=j9 (l.take k) (l.drop k)
   rw [List.take_append_drop,List.length_take,Nat.min_eq_left h] at this;exact this
  ·rw [List.drop_of_length_le (by omega),List.take_of_length_le (by omega)]
   simp [je]
 ·have h1:=zG (zS hs k)
  have h2:4294967296 ^ (l.take k).length<=4294967296 ^ k:=Nat.pow_le_pow_right (by omega) (List.length_take_le k l);omega
theorem Qh (l:List Nat)(k:Nat)(hs:jg l):je (l.drop k)=je l / 4294967296 ^ k:=by
 obtain⟨t,e,h⟩:=JN l k hs;have hp:0<4294967296 ^ k:=Nat.pow_pos (by omega);rw [e,Nat.add_mul_div_left _ _ hp,Nat.div_eq_of_lt h];omega
theorem Z4 {a b:List Nat}{k:Nat}(ha:jg a)(hb:jg b)(h:je (a.drop k)<je (b.drop k)):je a<je b:=by
 obtain⟨t,e1,l1⟩:=JN a k ha;obtain⟨u,e2,l2⟩:=JN b k hb;have:4294967296 ^ k*(je (a.drop k)+1)<=4294967296 ^ k*je (b.drop k):=Nat.mul_le_mul_left _ h;rw [Nat.mul_add,Nat.mul_one] at this;omega
theorem RowU.take {w:World}{a:Option Addr}{l:List Nat}(h:RowU w a l)(k:Nat):RowU w a (l.take k):=by
 intro h0;have hl:l≠[]:=fun e=>h0 (by rw [e,List.take_nil])
 obtain⟨b,o,e,hlt,hc⟩:=h hl;refine⟨b,o,e,hlt,fun j hj=>?_⟩;rw [List.length_take] at hj;rw [hc j (by omega)];simp [List.getD,show j<k by omega]
theorem RowU.cut {w:World}{a:Option Addr}{l:List Nat}(h:RowU w a l)(hs:jg l):RowU w a (jh (je l)):=by
 rw [<-XB l hs];exact h.take _
theorem RowU.kept {w w':World}{a:Option Addr}{l:List Nat}{g:Nat}(h:RowU w a l)(hg:w.grownBy w' (some g))(hne:∀b o s,a=some ⟨b,o,s⟩->b≠g):RowU w' a l:=by
 intro h0;obtain⟨b,o,rfl,hb,hc⟩:=h h0;have hbg:=hne b o none rfl;refine⟨b,o,rfl,Nat.lt_of_lt_of_le hb hg.size,fun j hj=>?_⟩;exact hg.cell (hc j hj) (fun e=>hbg (by simpa using e))
theorem jB (w:World)(row:Option Nat):w.grownBy w row:=⟨rfl,rfl,rfl,Nat.le_refl _,fun _ _ _=>rfl⟩
theorem jk {a b c:World}{row:Option Nat}(h:a.grownBy b row)(k:b.grownBy c row):a.grownBy c row :=
 ⟨k.os.trans h.os,k.tape.trans h.tape,k.output.trans h.output,Nat.le_trans h.size k.size,fun i hi hn=>(k.block i (Nat.lt_of_lt_of_le hi h.size) hn).trans (h.block i hi hn)⟩
theorem JC {a b:World}{g:Nat}(h:a.grownBy b (some g))(j:Nat)(u:Value):a.grownBy (b.setCell ⟨g,j,none⟩ u) (some g) :=
 jk h ⟨rfl,rfl,rfl,by simp [World.setCell],fun k hk hn=>Below.heap_setCell _ _ _ _ (fun e=>hn (by rw [e]))⟩
theorem jhJ {a b:World}{row:Option Nat}(h:a.grownBy b row)(n:Nat):a.grownBy (b.drewN n) row:=⟨h.os,h.tape,h.output,h.size,h.block⟩
theorem qZ {a b:World}{g B:Nat}(h:a.grownBy b (some g))(hB:B<=g)(hB':B<=a.heap.size):Below B a b :=
 (Below.refl _ a).grown h hB' (fun k e=>by simp at e;omega)
def Own (w:World)(g c:Nat)(l:List Nat):Prop:=w.ownsRow 0 130 1 (.slice (some ⟨g,0,none⟩) l.length c) l.length (l.map wrd)
theorem Own.cell {w:World}{g c:Nat}{l:List Nat}(h:Own w g c l)(j:Nat)(hj:j<l.length):w.cell? ⟨g,j,none⟩=some (.int .u32 ((l.getD j 0:Nat):Int)):=by
 rw [World.ownsRow.cellAt h j (by omega)];simp [wrd,List.getD,hj]
theorem Own.froz {w:World}{g c:Nat}{l:List Nat}(h:Own w g c l)(j:Nat):w.frozen? ⟨g,j,none⟩=false:=World.ownsRow.frozenAt h j
theorem Own.set {w:World}{g c:Nat}{l:List Nat}(h:Own w g c l)(j d:Nat):Own (w.setCell ⟨g,j,none⟩ (.int .u32 (d:Int))) g c (l.set j d):=by
 have:=(World.ownsRow.stored h j (.int .u32 (d:Int))).1;unfold Own;rw [List.length_set,List.map_set];exact this
theorem Own.lt {w:World}{g c:Nat}{l:List Nat}(h:Own w g c l):g<w.heap.size:=(World.ownsRow.lt h g rfl).2
theorem Own.below {w w':World}{g c:Nat}{l:List Nat}(h:Own w g c l)(hb:Below w.heap.size w w'):Own w' g c l:=jkj h hb
theorem Own.kept {w w':World}{g c r:Nat}{l:List Nat}(h:Own w g c l)(hg:w.grownBy w' (some r))(hne:g≠r):Own w' g c l :=
 World.ownsRow.kept h hg (.inr (by simpa [Value.ownBlock] using hne))
theorem Own.row {w:World}{g c:Nat}{l:List Nat}(h:Own w g c l):RowU w (some ⟨g,0,none⟩) l:=fun _=>⟨g,0,rfl,h.lt,fun j hj=>by rw [Nat.zero_add];exact h.cell j hj⟩
theorem Own.cap {w:World}{g c:Nat}{l:List Nat}(h:Own w g c l):l.length<=c:=by
 obtain⟨a,cap,hv,hc,_⟩:=je3 h;cases hv
 exact hc
theorem Own.mid {w:World}{g c:Nat}{P M S:List Nat}(h:Own w g c (P++(M++S))):RowU w (some ⟨g,P.length,none⟩) M:=fun _=>⟨g,P.length,rfl,h.lt,fun j hj=>by
 rw [h.cell (P.length+j) (by simp;omega)];simp [List.getD,List.getElem?_append_right,List.getElem?_append_left hj]⟩
theorem Own.cellMid {w:World}{g c:Nat}{P M S:List Nat}(h:Own w g c (P++(M++S)))(j:Nat)(hj:j<M.length):w.cell? ⟨g,P.length+j,none⟩=some (.int .u32 ((M.getD j 0:Nat):Int)):=by
 rw [h.cell (P.length+j) (by simp;omega)];simp [List.getD,List.getElem?_append_right,List.getElem?_append_left hj]
theorem Own.setMid {w:World}{g c:Nat}{P M S:List Nat}(h:Own w g c (P++(M++S)))(j d:Nat)(hj:j<M.length):Own (w.setCell ⟨g,P.length+j,none⟩ (.int .u32 (d:Int))) g c (P++(M.set j d++S)):=by
 have:=h.set (P.length+j) d;rwa [List.set_append_right _ _ (by omega),Nat.add_sub_cancel_left,List.set_append_left _ _ hj] at this
theorem YH {D M:List Nat}{k:Nat}(hD:D.length=k)(hk:k<M.length):(D++M.drop k).getD k 0=M.getD k 0:=by
 subst hD;simp [List.getD,List.getElem?_append_right]
theorem YL {D M:List Nat}{k d:Nat}(hD:D.length=k)(hk:k<M.length):(D++M.drop k).set k d=(D++[d])++M.drop (k+1):=by
 subst hD;rw [List.set_append_right _ _ (Nat.le_refl _),Nat.sub_self,List.drop_eq_getElem_cons hk,List.set_cons_zero,List.append_assoc];rfl
theorem Yq {D M:List Nat}{k:Nat}(hD:D.length=k)(hk:k<=M.length):(D++M.drop k).length=M.length:=by
 rw [List.length_append,List.length_drop];omega
theorem X0 {w:World}{B g n:Nat}(h:w.ownsRow B 130 1 (.slice (some ⟨g,0,none⟩) n n) n (madeCells #[.int .u32 0] n).toList):Own w g n (List.replicate n 0):=by
 have e:(madeCells #[Value.int .u32 0] n).toList=(List.replicate n 0).map wrd:=by
  rw [toList_madeCells_one];simp [wrd]
 rw [e] at h;refine⟨by simp,?_⟩
 rcases h.2 with h' | ⟨g',cap,cur,e1,_,r⟩
 ·simp at h'
 ·right
  refine⟨g',cap,cur,by rw [List.length_replicate];exact e1,Nat.zero_le _,?_⟩;rw [List.length_replicate];exact r
open Go.RowKit
theorem JF {n k:Nat}(h:n<4294967296 ^ k):(jh n).length<=k:=by
 induction k generalizing n with
 | zero=>
  have:n=0:=by simpa using h
  subst this;rw [jy];simp
 | succ k ih=>
  by_cases h0:n=0
  ·subst h0;rw [jy];simp
  ·rw [zH h0,List.length_cons]
   have:n / 4294967296<4294967296 ^ k:=by
    rw [Nat.pow_succ] at h;exact Nat.div_lt_of_lt_mul (by omega)
   have:=ih this;omega
theorem Je (n:Nat):n<4294967296 ^ (jh n).length:=by have:=zG (jj n);rwa [jl] at this
theorem jel (m n:Nat):(jh (m+n)).length<=(jh m).length+(jh n).length+1:=by
 apply JF
 have h1:=Je m;have h2:=Je n;have h3:4294967296 ^ (jh m).length<=4294967296 ^ ((jh m).length+(jh n).length):=Nat.pow_le_pow_right (by omega) (by omega);have h4:4294967296 ^ (jh n).length<=4294967296 ^ ((jh m).length+(jh n).length):=Nat.pow_le_pow_right (by omega) (by omega);rw [Nat.pow_succ];omega
theorem Jb (m n:Nat):(jh (m*n)).length<=(jh m).length+(jh n).length:=by
 apply JF
 rw [Nat.pow_add];exact Nat.mul_lt_mul'' (Je m) (Je n)
def Form (l:List UInt8):Prop:=l≠[]/\jX l/\(l.getD 0 0≠48\/l.length=1)
theorem XI {b e:Nat}(hb:b<4294967296):(jh (b ^ e)).length<=e+1:=by
 apply JF
 have h1:b ^ e<=4294967296 ^ e:=Nat.pow_le_pow_left (Nat.le_of_lt hb) _;have h2:4294967296 ^ e<4294967296 ^ (e+1):=Nat.pow_lt_pow_right (by omega) (by omega);omega
theorem zh (n:Nat):bits n<=32*(jh n).length:=by
 apply Jt
 have h1:=Je n;have h2:(4294967296:Nat)=2 ^ 32:=by decide
 rw [h2,<-Nat.pow_mul] at h1;exact h1
theorem jeW {n:Nat}(h:n≠0):Zc n≠[]:=by rw [zX h];simp
theorem jhj {n:Nat}(h:n≠0):(Zc n).getD 0 0≠48:=by
 induction n using Nat.strongRecOn with
 | ind n ih=>
  rw [zX h]
  by_cases h1:n / 10=0
  ·rw [h1,zW]
   intro e
   have e2:(UInt8.ofNat (48+n % 10)).toNat=48:=by
    have e3:UInt8.ofNat (48+n % 10)=48:=by simpa using e
    rw [e3];rfl
   rw [qV _ (by omega)] at e2;omega
  ·have hne:=jeW h1
   have:=ih (n / 10) (by omega) h1;cases hc:Zc (n / 10) with
   | nil=>exact absurd hc hne
   | cons x r=>rw [hc] at this;simpa using this
theorem qN (n:Nat):Form (qJ n):=by
 unfold qJ
 by_cases h:n=0
 ·rw [if_pos h]
  refine⟨by simp,fun b hb=>?_,.inr rfl⟩;rw [List.mem_singleton] at hb;subst hb
  decide
 ·rw [if_neg h]
  exact⟨jeW h,jks n,.inl (jhj h)⟩
theorem Zo (n:Nat):dec (qJ n)=n:=by
 unfold qJ
 by_cases h:n=0
 ·rw [if_pos h,h];rfl
 ·rw [if_neg h,jjz]
theorem jav {n k:Nat}(h:n<10 ^ k):(Zc n).length<=k:=by
 induction k generalizing n with
 | zero=>
  have:n=0:=by simpa using h
  subst this;rw [zW];simp
 | succ k ih=>
  by_cases h0:n=0
  ·subst h0;rw [zW];simp
  ·rw [zX h0,List.length_append,List.length_singleton]
   have:n / 10<10 ^ k:=by rw [Nat.pow_succ] at h;exact Nat.div_lt_of_lt_mul (by omega)
   have:=ih this;omega
theorem za {n k:Nat}(h:n<10 ^ k)(hk:1<=k):(qJ n).length<=k:=by
 unfold qJ
 by_cases h0:n=0
 ·rw [if_pos h0];simpa using hk
 ·rw [if_neg h0];exact jav h
open Go.RowKit
def sc:Nat:=1080
open Go.RowKit
def XR (n:Nat):ByteArray:=⟨(List.replicate n 48).toArray⟩
theorem jcc (n:Nat):(XR n).size=n:=by
 show(List.replicate n (48:UInt8)).toArray.size=n
 simp
end bigs
end Go.Proofs.YtnbfnjhbmeocfabGreatDoor
