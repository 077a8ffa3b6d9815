/- Of our texts, what this claim reaches. -/
import Derived.Test.YtnbfnjhbmeocfaaGreatDoorPmtAM
import Derived.Deep.QuietTactic
import Derived.BigQuiet
import Derived.Deep.RegionWith
import Derived.Laws.BytesString
import Derived.Laws.Cells
import Derived.Laws.Concat
import Derived.Lib.Strings
set_option linter.unusedVariables false
namespace Go.Proofs.YtnbfnjhbmeocfaaGreatDoor
namespace bigs
open Go.RowKit
def zg (l:List Nat)(k:Nat):Prop:=∀j,k<=j->l.getD j 0=0
theorem Za {l:List Nat}{k j d:Nat}(h:zg l k)(hj:j<k):zg (l.set j d) k:=by
 intro i hi;rw [List.getD,List.getElem?_set_ne (by omega)];exact h i hi
theorem Je {l:List Nat}{k d:Nat}(h:zg l k):zg (l.set k d) (k+1):=by
 intro i hi;rw [List.getD,List.getElem?_set_ne (by omega)];exact h i (by omega)
theorem Jj (n:Nat):zg (List.replicate n 0) 0:=by
 intro j _
 by_cases h:j<n
 ·simp [List.getD,h]
 ·rw [List.getD,List.getElem?_eq_none (by simp;omega)];rfl
open Go.RowKit
theorem Jz {w:World}{base e n:Nat}{v:Value}{xs:List Value}(h:w.ownsRow base e 1 v n xs):∃b c,v=.slice b n c:=by
 rcases h.2 with ⟨rfl,rfl⟩ | ⟨g,cap,cur,rfl,_⟩
 ·exact⟨_,_,rfl⟩
 ·exact⟨_,_,rfl⟩
theorem jgN {w w':World}{base e n:Nat}{v:Value}{xs:List Value}(h:w.ownsRow base e 1 v n xs)(hb:Below w.heap.size w w'):w'.ownsRow base e 1 v n xs:=by
 refine⟨h.1,?_⟩
 rcases h.2 with hn | ⟨g,cap,cur,e,h1,hg,rest⟩
 ·exact .inl hn
 ·refine .inr ⟨g,cap,cur,e,h1,?_,rest⟩
  rw [hb.block g (Array.getElem?_eq_some_iff.1 hg).1];exact hg
open Go.RowKit
def je:List Nat->Nat
 | []=>0
 | d :: r=>d+4294967296*je r
def jg (l:List Nat):Prop:=∀j,j<l.length->l.getD j 0<4294967296
theorem jH {l:List Nat}(h:jg l)(j:Nat):l.getD j 0<4294967296:=by
 by_cases hj:j<l.length
 ·exact h j hj
 ·rw [List.getD,List.getElem?_eq_none (by omega)];simp
theorem qj (l:List Nat)(k:Nat):je (l.drop k)=l.getD k 0+4294967296*je (l.drop (k+1)):=by
 by_cases h:k<l.length
 ·rw [List.drop_eq_getElem_cons h,je]
  simp [List.getD,List.getElem?_eq_getElem h]
 ·have e:l.getD k 0=0:=by rw [List.getD,List.getElem?_eq_none (by omega)];rfl
  rw [e,List.drop_of_length_le (by omega),List.drop_of_length_le (by omega)];rfl
theorem qn {d:Nat}{r:List Nat}:jg (d :: r)↔d<4294967296/\jg r:=by
 constructor
 ·intro h
  exact⟨h 0 (by simp),fun j hj=>h (j+1) (by simpa using hj)⟩
 ·rintro⟨h1,h2⟩ j hj
  cases j with
  | zero=>exact h1
  | succ j=>exact h2 j (by simpa using hj)
theorem JQ {l:List Nat}(h:jg l):∀k,jg (l.drop k):=by
 induction l with
 | nil=>intro k;rw [List.drop_nil];exact h
 | cons d r ih=>
  intro k;cases k with
  | zero=>exact h
  | succ k=>rw [List.drop_succ_cons];exact ih (qn.1 h).2 k
theorem ze {l:List Nat}(h:jg l):je l<4294967296 ^ l.length:=by
 induction l with
 | nil=>simp [je]
 | cons d r ih=>
  have h':=qn.1 h;have:=ih h'.2;rw [je,List.length_cons,Nat.pow_succ];omega
def RowU (w:World)(a:Option Addr)(l:List Nat):Prop :=
 l≠[]->∃b o,a=some ⟨b,o,none⟩/\b<w.heap.size/\∀j,j<l.length->w.cell? ⟨b,o+j,none⟩=some (.int .u32 ((l.getD j 0:Nat):Int))
theorem RowU.below {w w':World}{a:Option Addr}{l:List Nat}(h:RowU w a l)(hb:Below w.heap.size w w'):RowU w' a l:=by
 intro h0;obtain⟨b,o,e,hlt,hc⟩:=h h0;refine⟨b,o,e,Nat.lt_of_lt_of_le hlt hb.size,fun j hj=>?_⟩;rw [hb.cell (p:=⟨b,o+j,none⟩) hlt];exact hc j hj
theorem jgU {w w':World}{a:Addr}{v:Value}(hb:Below w.heap.size w w')(h:w.cell? a=some v):w'.cell? a=some v:=by
 rw [hb.cell (World.block_lt_of_cell? w a h)];exact h
open Go.RowKit
def XS:Nat->Nat->List Nat
 | 0,_=>[]
 | f+1,n=>if n=0 then [] else n % 4294967296 :: XS f (n / 4294967296)
theorem jax (f:Nat):XS f 0=[]:=by cases f<;>rfl
theorem je1 (n:Nat):∀(f g:Nat),n<=f->n<=g->XS f n=XS g n:=by
 induction n using Nat.strongRecOn with
 | ind n ih=>
  intro f g hf hg
  by_cases h:n=0
  ·rw [h,jax,jax]
  ·obtain⟨f',rfl⟩:∃f',f=f'+1:=⟨f - 1,by omega⟩
   obtain⟨g',rfl⟩:∃g',g=g'+1:=⟨g - 1,by omega⟩
   rw [XS,XS,if_neg h,if_neg h,ih (n / 4294967296) (by omega) f' g' (by omega) (by omega)]
def jh (n:Nat):List Nat:=XS n n
theorem jy:jh 0=[]:=rfl
theorem q9 {n:Nat}(h:n≠0):jh n=n % 4294967296 :: jh (n / 4294967296):=by
 obtain⟨m,rfl⟩:∃m,n=m+1:=⟨n - 1,by omega⟩
 unfold jh;rw [XS,if_neg h,je1 ((m+1) / 4294967296) m ((m+1) / 4294967296) (by omega) (Nat.le_refl _)]
theorem jo (n:Nat):je (jh n)=n:=by
 induction n using Nat.strongRecOn with
 | ind n ih=>
  by_cases h:n=0
  ·subst h;rw [jy];rfl
  ·rw [q9 h,je,ih _ (by omega)];omega
theorem jaq:(Tryz.prog.info? 222).map (fun i=>(i.zero,i.size,i.bytes))=some (some (.int .u32 0),1,4):=by kernel_rfl
def wrd (n:Nat):Value:=.int .u32 (n:Int)
theorem jc0 {w:World}{base:Nat}{v:Value}{l:List Nat}(h:w.ownsRow base 222 1 v l.length (l.map wrd)) :
  ∃a cap,v=.slice a l.length cap/\l.length<=cap/\RowU w a l:=by
 have h':=h
 rcases h.2 with ⟨rfl,h0⟩ | ⟨g,cap,cur,rfl,_,hg,hcap,_⟩
 ·have:l=[]:=List.eq_nil_of_length_eq_zero h0
  subst this;exact⟨none,0,rfl,by simp,fun h=>absurd rfl h⟩
 ·refine⟨_,cap,rfl,hcap,fun _=>⟨g,0,rfl,(Array.getElem?_eq_some_iff.1 hg).1,fun j hj=>?_⟩⟩
  rw [Nat.zero_add,h'.cellAt j (by omega)];simp [wrd,List.getD,List.getElem?_eq_getElem hj]
open Go.RowKit
def XO:Nat->Nat->Nat
 | 0,_=>0
 | f+1,n=>if n=0 then 0 else XO f (n / 2)+1
theorem jam (f:Nat):XO f 0=0:=by cases f<;>rfl
theorem jeo (n:Nat):∀(f g:Nat),n<=f->n<=g->XO f n=XO g n:=by
 induction n using Nat.strongRecOn with
 | ind n ih=>
  intro f g hf hg
  by_cases h:n=0
  ·rw [h,jam,jam]
  ·obtain⟨f',rfl⟩:∃f',f=f'+1:=⟨f - 1,by omega⟩
   obtain⟨g',rfl⟩:∃g',g=g'+1:=⟨g - 1,by omega⟩
   rw [XO,XO,if_neg h,if_neg h,ih (n / 2) (by omega) f' g' (by omega) (by omega)]
def bits (n:Nat):Nat:=XO n n
theorem qv:bits 0=0:=rfl
theorem Js {n:Nat}(h:n≠0):bits n=bits (n / 2)+1:=by
 obtain⟨m,rfl⟩:∃m,n=m+1:=⟨n - 1,by omega⟩
 unfold bits;rw [XO,if_neg h,jeo ((m+1) / 2) m ((m+1) / 2) (by omega) (Nat.le_refl _)]
theorem QC {n k:Nat}(h:n<2 ^ k):bits n<=k:=by
 induction k generalizing n with
 | zero=>
  have:n=0:=by simpa using h
  subst this;rw [qv];exact Nat.le_refl _
 | succ k ih=>
  by_cases h0:n=0
  ·subst h0;rw [qv];omega
  ·rw [Js h0]
   have:n / 2<2 ^ k:=by rw [Nat.pow_succ] at h;omega
   have:=ih this;omega
open Go.RowKit
def dec (l:List UInt8):Nat:=l.foldl (fun a b=>a*10+(b.toNat - 48)) 0
def jV (l:List UInt8):Prop:=∀b∈l,48<=b.toNat/\b.toNat<=57
theorem jij (l:List UInt8):∀a,l.foldl (fun a b=>a*10+(b.toNat - 48)) a=a*10 ^ l.length+dec l:=by
 induction l with
 | nil=>intro a;simp [dec]
 | cons x l ih=>
  intro a;have e:dec (x :: l)=(0*10+(x.toNat - 48))*10 ^ l.length+dec l:=by rw [<-ih];rfl
  rw [List.foldl_cons,ih,e,List.length_cons,Nat.pow_succ];simp only [Nat.zero_mul,Nat.zero_add,Nat.add_mul];have:a*10*10 ^ l.length=a*(10 ^ l.length*10):=by rw [Nat.mul_assoc,Nat.mul_comm 10]
  omega
theorem jck:dec []=0:=rfl
theorem YD (a b:List UInt8):dec (a++b)=dec a*10 ^ b.length+dec b:=by
 unfold dec;rw [List.foldl_append,jij b];rfl
theorem jfX (b:UInt8):dec [b]=b.toNat - 48:=by simp [dec]
theorem jde (a:List UInt8)(b:UInt8):dec (a++[b])=dec a*10+(b.toNat - 48):=by rw [YD,jfX];simp
theorem jek (b:UInt8)(l:List UInt8):dec (b :: l)=(b.toNat - 48)*10 ^ l.length+dec l:=by
 have:=YD [b] l;rwa [List.singleton_append,jfX] at this
theorem jcy {l:List UInt8}(h:jV l):dec l<10 ^ l.length:=by
 induction l with
 | nil=>simp [dec]
 | cons x l ih=>
  have h1:=ih fun b hb=>h b (List.mem_cons_of_mem _ hb)
  have h2:=h x List.mem_cons_self;rw [jek,List.length_cons,Nat.pow_succ];have h3:(x.toNat - 48)*10 ^ l.length<=9*10 ^ l.length:=Nat.mul_le_mul_right _ (by omega);omega
theorem jfq {l:List UInt8}(h:jV l)(k:Nat):jV (l.take k):=fun b hb=>h b (List.mem_of_mem_take hb)
theorem Zr (l:List UInt8)(k:Nat)(h:k<l.length):l.take (k+1)=l.take k++[l.getD k 0]:=by
 rw [List.take_succ_eq_append_getElem h];simp [List.getD,List.getElem?_eq_getElem h]
theorem jq (s:ByteArray):s.data.toList.length=s.size:=by rw [Array.length_toList];rfl
theorem jeu (t:ByteArray)(i:Nat)(h:i<t.size):t.data.toList.getD i 0=t[i]'h:=by
 rw [List.getD,List.getElem?_eq_getElem (by rw [jq];exact h)];simp [ByteArray.getElem_eq_getElem_data]
open Go.RowKit
theorem qZ (k:Nat)(h:k<256):(UInt8.ofNat k).toNat=k:=by simp [UInt8.toNat_ofNat'];omega
open Go.RowKit
def rnd (n d:Nat):Nat:=if d<2*(n % d)\/(2*(n % d)=d/\n / d % 2=1) then n / d+1 else n / d
def jeJ (q:Nat)(e:Int):Nat :=
 if q=9007199254740992 then (if 971<e+1 then 9218868437227405312 else (e+1+1074).toNat*4503599627370496+4503599627370496)
 else if 971<e then 9218868437227405312 else if q<4503599627370496 then q else (e+1074).toNat*4503599627370496+q
def QS (num den r:Nat):Prop:=∃a b:Nat,a<=1074/\(a=0\/num*2 ^ (a - 1)<den*4503599627370496)/\(a=1074\/den*4503599627370496<=num*2 ^ a)/\
 (b=0\/den*2 ^ (b - 1)*9007199254740992<=num*2 ^ a)/\num*2 ^ a<den*2 ^ b*9007199254740992/\r=jeJ (rnd (num*2 ^ a) (den*2 ^ b)) ((b:Int) - (a:Int))
theorem JU (x:Nat){a b:Nat}(h:a<=b):x*2 ^ a<=x*2 ^ b:=Nat.mul_le_mul_left _ (Nat.pow_le_pow_right (by omega) h)
theorem jdy {num den r r':Nat}(h:QS num den r)(h':QS num den r'):r=r':=by
 obtain⟨a,b,h1,h2,h3,h4,h5,h6⟩:=h;obtain⟨a',b',k1,k2,k3,k4,k5,k6⟩:=h'
 have ea:a=a':=by
  rcases Nat.lt_trichotomy a a' with hlt | he | hgt
  ·have m:=JU num (show a<=a' - 1 by omega)
   rcases k2 with e | e
   ·omega
   ·rcases h3 with e3 | e3<;>omega
  ·exact he
  ·have m:=JU num (show a'<=a - 1 by omega)
   rcases h2 with e | e
   ·omega
   ·rcases k3 with e3 | e3<;>omega
 subst ea
 have eb:b=b':=by
  rcases Nat.lt_trichotomy b b' with hlt | he | hgt
  ·have m:=Nat.mul_le_mul_right 9007199254740992 (JU den (show b<=b' - 1 by omega))
   rcases k4 with e | e<;>omega
  ·exact he
  ·have m:=Nat.mul_le_mul_right 9007199254740992 (JU den (show b'<=b - 1 by omega))
   rcases h4 with e | e<;>omega
 subst eb;rw [h6,k6]
theorem qg (x a:Nat):x*2 ^ a+x*2 ^ a=x*2 ^ (a+1):=by rw [Nat.pow_succ,<-Nat.mul_assoc];omega
def Jm (b:Nat):Nat×Int×Int :=
 if b / 4503599627370496 % 2048=2047 then (if b % 4503599627370496=0 then (0,0,1) else (0,0,2))
 else if b / 4503599627370496 % 2048=0 then (b % 4503599627370496,-1074,0) else (b % 4503599627370496+4503599627370496,((b / 4503599627370496 % 2048:Nat):Int) - 1075,0)
theorem Z8 (x y c:Nat)(hc:0<c):rnd (x*c) (y*c)=rnd x y:=by
 unfold rnd;rw [Nat.mul_div_mul_right _ _ hc,Nat.mul_mod_mul_right,<-Nat.mul_assoc];have e1:(y*c<2*(x % y)*c)↔y<2*(x % y):=Nat.mul_lt_mul_right hc;have e2:(2*(x % y)*c=y*c)↔2*(x % y)=y:=⟨fun h=>Nat.eq_of_mul_eq_mul_right hc h,fun h=>by rw [h]⟩
 simp only [e1,e2]
theorem jab {N d M:Nat}(h:N<d*M):rnd N d<=M:=by
 have h1:N / d<M:=Nat.div_lt_of_lt_mul h;unfold rnd;split<;>omega
theorem jbX {N d M:Nat}(hd:0<d)(h:d*M<=N):M<=rnd N d:=by
 have h1:M<=N / d:=(Nat.le_div_iff_mul_le hd).2 (by rw [Nat.mul_comm];exact h);unfold rnd;split<;>omega
theorem Ys {q:Nat}{e:Int}(hq:q<=9007199254740992)(he : -1074<=e)(hn:4503599627370496<=q\/e = -1074):jeJ q e=min 9218868437227405312 ((e+1074).toNat*4503599627370496+q):=by
 unfold jeJ;obtain⟨E,hE⟩:∃E:Nat,e+1074=(E:Int):=⟨(e+1074).toNat,by omega⟩
 have e1:(e+1074).toNat=E:=by omega
 have e2:(e+1+1074).toNat=E+1:=by omega
 rw [e1,e2]
 by_cases h1:q=9007199254740992
 ·rw [if_pos h1]
  subst h1
  by_cases h2:971<e+1
  ·rw [if_pos h2,Nat.min_eq_left (by omega)]
  ·rw [if_neg h2,Nat.min_eq_right (by omega)]
   omega
 ·rw [if_neg h1]
  by_cases h2:971<e
  ·rw [if_pos h2,Nat.min_eq_left (by omega)]
  ·rw [if_neg h2]
   by_cases h3:q<4503599627370496
   ·rw [if_pos h3,Nat.min_eq_right (by omega)]
    omega
   ·rw [if_neg h3,Nat.min_eq_right (by omega)]
theorem jgv {num den a b:Nat}(h2:a=0\/num*2 ^ (a - 1)<den*4503599627370496)(h4:b=0\/den*2 ^ (b - 1)*9007199254740992<=num*2 ^ a):a=0\/b=0:=by
 rcases h2 with h | h
 ·exact .inl h
 ·rcases h4 with k | k
  ·exact .inr k
  ·by_cases ha:a=0
   ·exact .inl ha
   ·exfalso
    have e:=qg num (a - 1);rw [show a - 1+1=a by omega] at e;have hY:den*1<=den*2 ^ (b - 1):=Nat.mul_le_mul_left _ (Nat.pow_pos (by omega));rw [<-e] at k;generalize num*2 ^ (a - 1)=X at *;generalize den*2 ^ (b - 1)=Y at *;omega
theorem jgJ {num den a b:Nat}(h3:a=1074\/den*4503599627370496<=num*2 ^ a)(h4:b=0\/den*2 ^ (b - 1)*9007199254740992<=num*2 ^ a)(hs:a=0\/b=0) :
  den*2 ^ b*4503599627370496<=num*2 ^ a\/(b:Int) - (a:Int) = -1074:=by
 by_cases hb:b=0
 ·rcases h3 with h | h
  ·right;omega
  ·left;rw [hb,Nat.pow_zero,Nat.mul_one];exact h
 ·left
  rcases h4 with k | k
  ·exact absurd k hb
  ·have e:=qg den (b - 1)
   rw [show b - 1+1=b by omega] at e;rw [<-e];have e2:∀Y:Nat,(Y+Y)*4503599627370496=Y*9007199254740992:=fun Y=>by omega
   rw [e2];exact k
theorem jiB {a b:Nat}(h:a<=1074) : -1074<=(b:Int) - (a:Int):=by omega
theorem Xk (x:Nat){a b c:Nat}(h:a=b+c):x*2 ^ a=x*2 ^ b*2 ^ c:=by rw [h,Nat.pow_add,Nat.mul_assoc]
def c74:Nat:=1074
def T74:Nat:=2 ^ c74
def T76:Nat:=4*T74
theorem Xd (x:Nat){b c:Nat}(h:1074=b+c):x*T74=x*2 ^ b*2 ^ c:=by
 have e:c74=b+c:=h;unfold T74;rw [e,Nat.pow_add,Nat.mul_assoc]
def jaf (num den E r:Nat):Prop:=num*T74<den*2 ^ E*9007199254740992/\(E=0\/den*2 ^ E*4503599627370496<=num*T74)/\
 r=min 9218868437227405312 (E*4503599627370496+rnd (num*T74) (den*2 ^ E))
theorem jiK {num den r:Nat}(hd:0<den)(h:QS num den r):∃E,jaf num den E r:=by
 obtain⟨a,b,h1,h2,h3,h4,h5,h6⟩:=h;have s:=jgv h2 h4;have n:=jgJ h3 h4 s;have hdb:0<den*2 ^ b:=Nat.mul_pos hd (Nat.pow_pos (by omega));have q:=jab h5
 have g:4503599627370496<=rnd (num*2 ^ a) (den*2 ^ b)\/(b:Int) - (a:Int) = -1074:=by
  rcases n with e | e
  ·exact .inl (jbX hdb e)
  ·exact .inr e
 rw [Ys q (jiB h1) g] at h6;have eE:((b:Int) - (a:Int)+1074).toNat=b+1074 - a:=by omega
 rw [eE] at h6;clear eE
 obtain⟨T,hT,e1,e2⟩:∃T,0<T/\num*T74=num*2 ^ a*T/\den*2 ^ (b+1074 - a)=den*2 ^ b*T:=by
  refine⟨2 ^ (1074 - a),Nat.pow_pos (by decide),Xd _ (by omega),Xk _ (by omega)⟩
 refine⟨b+1074 - a,?_,?_,?_⟩
 ·rw [e1,e2,Nat.mul_assoc (den*2 ^ b),Nat.mul_comm T,<-Nat.mul_assoc]
  exact Nat.mul_lt_mul_of_pos_right h5 hT
 ·rcases n with e | e
  ·right
   rw [e1,e2,Nat.mul_assoc (den*2 ^ b),Nat.mul_comm T,<-Nat.mul_assoc];exact Nat.mul_le_mul_right _ e
  ·left
   omega
 ·rw [e1,e2,Z8 _ _ _ hT]
  exact h6
theorem jft (E:Nat):(((E - 1074:Nat):Int) - ((1074 - E:Nat):Int)+1074).toNat=E:=by omega
theorem jju (E:Nat):1074 - E<=1074:=by omega
theorem Qe {num den E r:Nat}(hd:0<den)(h:jaf num den E r):QS num den r:=by
 obtain⟨h1,h2,h3⟩:=h
 obtain⟨T,hT,e1,e2⟩:∃T,0<T/\num*T74=num*2 ^ (1074 - E)*T/\den*2 ^ E=den*2 ^ (E - 1074)*T:=by
  refine⟨2 ^ (1074 - (1074 - E)),Nat.pow_pos (by decide),Xd _ (by omega),Xk _ (by omega)⟩
 have hdb:0<den*2 ^ (E - 1074):=Nat.mul_pos hd (Nat.pow_pos (by omega))
 have k1:num*2 ^ (1074 - E)<den*2 ^ (E - 1074)*9007199254740992:=by
  rw [e1,e2,Nat.mul_assoc (den*2 ^ (E - 1074)),Nat.mul_comm T,<-Nat.mul_assoc] at h1;exact Nat.lt_of_mul_lt_mul_right h1
 have k2:E=0\/den*2 ^ (E - 1074)*4503599627370496<=num*2 ^ (1074 - E):=by
  rcases h2 with h | h
  ·exact .inl h
  ·right
   rw [e1,e2,Nat.mul_assoc (den*2 ^ (E - 1074)),Nat.mul_comm T,<-Nat.mul_assoc] at h;exact Nat.le_of_mul_le_mul_right h hT
 have q:=jab k1;rw [e1,e2,Z8 _ _ _ hT] at h3;clear e1 e2 h1 h2;refine⟨1074 - E,E - 1074,by omega,?_,?_,?_,k1,?_⟩
 ·by_cases c:1074 - E=0
  ·exact .inl c
  ·right
   rw [show E - 1074=0 by omega,Nat.pow_zero,Nat.mul_one] at k1;have e:=qg num (1074 - E - 1);rw [show 1074 - E - 1+1=1074 - E by omega] at e;rw [<-e] at k1;clear e k2 h3 q hdb;generalize num*2 ^ (1074 - E - 1)=X at *;omega
 ·rcases k2 with h | h
  ·left;omega
  ·right
   refine Nat.le_trans (Nat.mul_le_mul_right _ ?_) h;exact Nat.le_mul_of_pos_right _ (Nat.pow_pos (by omega))
 ·by_cases c:E - 1074=0
  ·exact .inl c
  ·right
   rcases k2 with h | h
   ·omega
   ·have e:=qg den (E - 1074 - 1)
    rw [show E - 1074 - 1+1=E - 1074 by omega] at e;rw [<-e] at h;refine Nat.le_trans ?_ h
    clear e h k1 h3 q hdb;generalize den*2 ^ (E - 1074 - 1)=X at *;omega
 ·have eE:(((E - 1074:Nat):Int) - ((1074 - E:Nat):Int)+1074).toNat=E:=jft E
  have g:4503599627370496<=rnd (num*2 ^ (1074 - E)) (den*2 ^ (E - 1074))\/((E - 1074:Nat):Int) - ((1074 - E:Nat):Int) = -1074:=by
   rcases k2 with h | h
   ·subst h
    exact .inr rfl
   ·exact .inl (jbX hdb h)
  rw [Ys q (jiB (jju E)) g,eE];exact h3
theorem jcK (num den:Nat)(hd:0<den):∃E r,jaf num den E r:=by
 have h:∀E,num*T74<den*2 ^ E*9007199254740992->∃E r,jaf num den E r:=by
  intro E
  induction E with
  | zero=>intro h;exact⟨0,_,h,.inl rfl,rfl⟩
  | succ E ih=>
   intro h
   by_cases c:num*T74<den*2 ^ E*9007199254740992
   ·exact ih c
   ·refine⟨E+1,_,h,.inr ?_,rfl⟩
    rw [<-qg];generalize den*2 ^ E=X at *;generalize num*T74=Y at *;clear h ih;omega
 refine h (num*T74) ?_
 have h1:num*T74<2 ^ (num*T74):=Nat.lt_two_pow_self;generalize num*T74=Y at *;refine Nat.lt_of_lt_of_le h1 ?_
 rw [Nat.mul_comm den,Nat.mul_assoc];exact Nat.le_mul_of_pos_right _ (Nat.mul_pos hd (by omega))
theorem XI (num den:Nat)(hd:0<den):∃r,QS num den r:=by
 obtain⟨E,r,h⟩:=jcK num den hd;exact⟨r,Qe hd h⟩
def jeq (r:Nat):Nat:=if r<4503599627370496 then r else r % 4503599627370496+4503599627370496
def step (r:Nat):Nat:=2 ^ (r / 4503599627370496 - 1)
def jaZ (r:Nat):Nat:=4*jeq r*step r
def mid (r:Nat):Nat:=(4*jeq r+2)*step r
theorem jaB (r:Nat):0<step r:=Nat.pow_pos (by omega)
theorem QH (r:Nat):jaZ (r+1)=jaZ r+4*step r:=by
 unfold jaZ jeq step
 by_cases c:(r+1) % 4503599627370496=0
 ·by_cases c1:r<4503599627370496
  ·have e:r=4503599627370495:=by omega
   subst e;rfl
  ·rw [if_neg (by omega),if_neg c1,c,show(r+1) / 4503599627370496 - 1=(r / 4503599627370496 - 1)+1 by omega,Nat.pow_succ,show r % 4503599627370496=4503599627370495 by omega]
   generalize 2 ^ (r / 4503599627370496 - 1)=S;omega
 ·rw [show(r+1) / 4503599627370496=r / 4503599627370496 by omega]
  generalize 2 ^ (r / 4503599627370496 - 1)=S;have e:∀x:Nat,4*(x+1)*S=4*x*S+4*S:=fun x=>by rw [Nat.mul_add,Nat.add_mul]
  by_cases c1:r+1<4503599627370496
  ·rw [if_pos c1,if_pos (by omega),e]
  ·rw [if_neg c1,if_neg (by omega),<-e]
   congr 2
   omega
theorem jcs (r:Nat):mid r=jaZ r+2*step r:=by
 unfold mid jaZ;rw [Nat.add_mul]
theorem Z5 {r s:Nat}(h:r<=s):jaZ r<=jaZ s:=by
 induction h with
 | refl=>exact Nat.le_refl _
 | step _ ih=>rw [QH];omega
theorem jlz {r s:Nat}(h:r<s):jaZ r<jaZ s:=by
 have h1:=Z5 (show r+1<=s by omega);have h2:=QH r;have h3:=jaB r;omega
theorem jel {r s:Nat}(h:r<=s):mid r<=mid s:=by
 by_cases c:r=s
 ·rw [c];exact Nat.le_refl _
 ·have h1:=Z5 (show r+1<=s by omega)
  have h2:=QH r;rw [jcs,jcs];omega
theorem jk2 {r s:Nat}(h:r<s):mid r<mid s:=by
 have h1:=Z5 (show r+1<=s by omega);have h2:=QH r;have h3:=jaB r;have h4:=jaB s;rw [jcs,jcs];omega
def Over (num den r:Nat):Prop:=r=0\/mid (r - 1)*den<num*T76\/(mid (r - 1)*den=num*T76/\r % 2=0)
def jbb (num den r:Nat):Prop:=num*T76<mid r*den\/(num*T76=mid r*den/\r % 2=0)
theorem jh5 (n d:Nat)(hd:0<d):(2*n<(2*rnd n d+1)*d\/(2*n=(2*rnd n d+1)*d/\rnd n d % 2=0))/\
  ((2*rnd n d)*d<2*n+d\/((2*rnd n d)*d=2*n+d/\rnd n d % 2=0)):=by
 have e1:=Nat.div_add_mod n d;have l1:=Nat.mod_lt n hd;unfold rnd;generalize n / d=Q at *;generalize n % d=c at *;split
 ·rename_i h
  have x1:(2*(Q+1)+1)*d=2*(d*Q)+3*d:=by rw [Nat.add_mul,Nat.mul_assoc,Nat.add_mul,Nat.mul_comm Q];omega
  have x2:2*(Q+1)*d=2*(d*Q)+2*d:=by rw [Nat.mul_assoc,Nat.add_mul,Nat.mul_comm Q];omega
  rw [x1,x2];generalize d*Q=Z at *;omega
 ·rename_i h
  have x1:(2*Q+1)*d=2*(d*Q)+d:=by rw [Nat.add_mul,Nat.mul_assoc,Nat.mul_comm Q];omega
  have x2:2*Q*d=2*(d*Q):=by rw [Nat.mul_assoc,Nat.mul_comm Q]
  rw [x1,x2];generalize d*Q=Z at *;omega
theorem jke {E q:Nat}(h1:q<9007199254740992)(h2:E=0\/4503599627370496<=q):jeq (E*4503599627370496+q)=q/\step (E*4503599627370496+q)=2 ^ E:=by
 unfold jeq step
 by_cases c:q<4503599627370496
 ·have e:E=0:=by omega
  subst e;rw [if_pos (by omega)];refine⟨by omega,?_⟩
  congr 1
  omega
 ·rw [if_neg (by omega)]
  refine⟨by omega,?_⟩
  congr 1
  omega
theorem jcq {E q:Nat}(h1:q<9007199254740992)(h2:E=0\/4503599627370496<=q):mid (E*4503599627370496+q)=(4*q+2)*2 ^ E:=by
 obtain⟨e1,e2⟩:=jke h1 h2;unfold mid;rw [e1,e2]
theorem jkU (n:Nat):n*T76=4*(n*T74):=by
 unfold T76;generalize T74=T;rw [Nat.mul_left_comm]
theorem jkZ (E q:Nat):(E*4503599627370496+q) % 2=q % 2:=by omega
theorem jcl {D X:Nat}(hD:0<D+D)(h:(D+D)*4503599627370496<=X):(4*9007199254740991+2)*D<4*X:=by omega
theorem jcI {q X Y Z D:Nat}(e:Y+2*D=2*Z)(s:Z<2*X+D\/(Z=2*X+D/\q % 2=0)):Y<4*X\/(Y=4*X/\q % 2=0):=by omega
theorem jaU {D X:Nat}(hD:0<D)(h:X<D*9007199254740992):4*X<(4*4503599627370496+2)*(D+D):=by omega
theorem ja1 {q X Y:Nat}(s:2*X<Y\/(2*X=Y/\q % 2=0)):4*X<2*Y\/(4*X=2*Y/\q % 2=0):=by omega
theorem QF (c E den:Nat):c*2 ^ E*den=c*(den*2 ^ E):=by rw [Nat.mul_assoc,Nat.mul_comm (2 ^ E)]
theorem jhq {X den E q:Nat}(hD:0<den*2 ^ E)(q1:q<=9007199254740992)(q2:E=0\/4503599627370496<=q)(h2:E=0\/den*2 ^ E*4503599627370496<=X)
  (s2:(2*q)*(den*2 ^ E)<2*X+den*2 ^ E\/((2*q)*(den*2 ^ E)=2*X+den*2 ^ E/\q % 2=0)) (z:E*4503599627370496+q≠0) :
  mid (E*4503599627370496+q - 1)*den<4*X\/(mid (E*4503599627370496+q - 1)*den=4*X/\q % 2=0):=by
 by_cases c:E≠0/\q=4503599627370496
 ·obtain⟨c1,c2⟩:=c
  subst c2;obtain⟨E',rfl⟩:∃E',E=E'+1:=⟨E - 1,(Nat.succ_pred c1).symm⟩
  have e0:(E'+1)*4503599627370496+4503599627370496 - 1=E'*4503599627370496+9007199254740991:=by clear hD q1 q2 h2 s2 z c1;omega
  rw [e0,jcq (by decide) (.inr (by decide)),QF]
  left
  rcases h2 with h | h
  ·exact absurd h c1
  ·rw [<-qg] at h hD
   exact jcl hD h
 ·clear h2
  have c3:1<=q:=by clear s2 hD;omega
  have e0:E*4503599627370496+q - 1=E*4503599627370496+(q - 1):=by clear hD q1 q2 s2 z c;omega
  have c4:E=0\/4503599627370496<=q - 1:=by clear hD s2 z e0;omega
  have c5:q - 1<9007199254740992:=by clear hD s2 z e0 c4 q2 c;omega
  rw [e0,jcq c5 c4,QF]
  have e:(4*(q - 1)+2)*(den*2 ^ E)+2*(den*2 ^ E)=2*(2*q*(den*2 ^ E)):=by
   have e1:4*(q - 1)+2+2=2*(2*q):=by clear s2 hD c4 c5 e0 z c q2;omega
   rw [<-Nat.add_mul,e1,Nat.mul_assoc]
  exact jcI e s2
theorem jfb {X den E q:Nat}(hD:0<den*2 ^ E)(q1:q<=9007199254740992)(q2:E=0\/4503599627370496<=q)(h1:X<den*2 ^ E*9007199254740992)
  (s1:2*X<(2*q+1)*(den*2 ^ E)\/(2*X=(2*q+1)*(den*2 ^ E)/\q % 2=0)) :
  4*X<mid (E*4503599627370496+q)*den\/(4*X=mid (E*4503599627370496+q)*den/\q % 2=0):=by
 by_cases c:q=9007199254740992
 ·subst c
  have e0:E*4503599627370496+9007199254740992=(E+1)*4503599627370496+4503599627370496:=by clear hD q1 q2 h1 s1;omega
  rw [e0,jcq (by decide) (.inr (Nat.le_refl _)),QF,<-qg]
  left
  exact jaU hD h1
 ·have c5:q<9007199254740992:=Nat.lt_of_le_of_ne q1 c
  rw [jcq c5 q2,QF]
  have e:(4*q+2)*(den*2 ^ E)=2*((2*q+1)*(den*2 ^ E)):=by
   have e1:4*q+2=2*(2*q+1):=by clear hD q1 q2 h1 s1 c c5;omega
   rw [e1,Nat.mul_assoc]
  rw [e];exact ja1 s1
theorem jkt {num den E:Nat}(hd:0<den)(h1:num*T74<den*2 ^ E*9007199254740992)(h2:E=0\/den*2 ^ E*4503599627370496<=num*T74) :
  Over num den (E*4503599627370496+rnd (num*T74) (den*2 ^ E))/\jbb num den (E*4503599627370496+rnd (num*T74) (den*2 ^ E)):=by
 have hD:0<den*2 ^ E:=Nat.mul_pos hd (Nat.pow_pos (by decide));have q1:=jab h1
 have q2:E=0\/4503599627370496<=rnd (num*T74) (den*2 ^ E):=by
  rcases h2 with h | h
  ·exact .inl h
  ·exact .inr (jbX hD h)
 obtain⟨s1,s2⟩:=jh5 (num*T74) (den*2 ^ E) hD;unfold Over jbb;rw [jkU];generalize num*T74=X at *;generalize rnd X (den*2 ^ E)=q at *;rw [jkZ]
 constructor
 ·by_cases z:E*4503599627370496+q=0
  ·exact .inl z
  ·exact .inr (jhq hD q1 q2 h2 s2 z)
 ·exact jfb hD q1 q2 h1 s1
theorem Xb {num den r:Nat}(hd:0<den)(h:QS num den r):r<=9218868437227405312/\Over num den r/\(r<9218868437227405312->jbb num den r):=by
 obtain⟨E,h1,h2,h3⟩:=jiK hd h;obtain⟨s1,s2⟩:=jkt hd h1 h2;generalize E*4503599627370496+rnd (num*T74) (den*2 ^ E)=R at *;refine⟨by omega,?_,?_⟩
 ·by_cases c:R<=9218868437227405312
  ·rw [h3,Nat.min_eq_right c]
   exact s1
  ·have e:r=9218868437227405312:=by omega
   rw [e]
   right
   have m:=Nat.mul_le_mul_right den (jel (show 9218868437227405312 - 1<=R - 1 by omega))
   have m2:mid (R - 1)*den<=num*T76:=by
    rcases s1 with s | s | s
    ·omega
    ·omega
    ·omega
   generalize num*T76=X at *;generalize mid (9218868437227405312 - 1)*den=Y at *;generalize mid (R - 1)*den=Z at *;omega
 ·intro hr
  rw [h3,Nat.min_eq_right (by omega)];exact s2
theorem Zq {num den r s:Nat}(hd:0<den)(hu:jbb num den r)(ho:Over num den s):s<=r:=by
 by_cases c:s<=r
 ·exact c
 ·exfalso
  have m:=Nat.mul_le_mul_right den (jel (show r<=s - 1 by omega));unfold Over jbb at *
  by_cases c2:s=r+1
  ·subst c2
   rw [show r+1 - 1=r by omega] at ho;generalize num*T76=X at *;generalize mid r*den=Y at *;omega
  ·have m2:=Nat.mul_lt_mul_of_pos_right (jk2 (show r<s - 1 by omega)) hd
   generalize num*T76=X at *;generalize mid r*den=Y at *;generalize mid (s - 1)*den=Z at *;omega
theorem jcH {num den r:Nat}(hd:0<den)(hr:r<9218868437227405312)(ho:Over num den r)(hu:jbb num den r):QS num den r:=by
 obtain⟨s,h⟩:=XI num den hd;obtain⟨h1,h2,h3⟩:=Xb hd h;have l1:=Zq hd hu h2;have l2:=Zq hd (h3 (by omega)) ho;have e:s=r:=by omega
 rw [<-e];exact h
theorem jec {num den:Nat}(hd:0<den)(ho:Over num den 9218868437227405312):QS num den 9218868437227405312:=by
 obtain⟨s,h⟩:=XI num den hd;obtain⟨h1,h2,h3⟩:=Xb hd h
 by_cases c:s=9218868437227405312
 ·rw [<-c];exact h
 ·have l2:=Zq hd (h3 (by omega)) ho
  omega
def c80:Nat:=1080
def wF:Nat:=16*5 ^ c80
def fX (r:Nat):Nat:=jaZ r*wF
def fH (r:Nat):Nat:=mid r*wF
theorem Y2 {m n E:Nat}:∃T,0<T/\m*T74=m*2 ^ (1074 - E)*T/\n*2 ^ E=n*2 ^ (E - 1074)*T :=
 ⟨2 ^ (1074 - (1074 - E)),Nat.pow_pos (by decide),Xd _ (by omega),Xk _ (by omega)⟩
theorem jbp {m n Lu Lb:Nat}(hm:m<2 ^ Lu)(hn:2 ^ Lb<=2*n):m*T74<n*2 ^ (Lu+1021 - Lb)*18014398509481984:=by
 have h1:m*T74<2 ^ Lu*T74:=Nat.mul_lt_mul_of_pos_right hm (Nat.pow_pos (by decide));refine Nat.lt_of_lt_of_le h1 ?_
 have e:2 ^ Lu*T74=2 ^ (Lu+c74):=by unfold T74;rw [Nat.pow_add]
 have e2:n*2 ^ (Lu+1021 - Lb)*18014398509481984=2*n*2 ^ (Lu+1021 - Lb)*2 ^ 53:=by
  rw [show(2:Nat) ^ 53=9007199254740992 from rfl,Nat.mul_assoc 2];generalize n*2 ^ (Lu+1021 - Lb)=X;omega
 rw [e,e2];have h2:2 ^ Lb*2 ^ (Lu+1021 - Lb)*2 ^ 53<=2*n*2 ^ (Lu+1021 - Lb)*2 ^ 53:=Nat.mul_le_mul_right _ (Nat.mul_le_mul_right _ hn);refine Nat.le_trans ?_ h2
 rw [<-Nat.pow_add,<-Nat.pow_add];refine Nat.pow_le_pow_right (by decide) ?_
 show Lu+1074<=_
 omega
theorem jeM {m n Lu Lb:Nat}(hm:2 ^ Lu<=2*m)(hn:n<2 ^ Lb)(h:Lb<Lu+1021):n*2 ^ (Lu+1021 - Lb)*4503599627370496<=m*T74:=by
 have h1:n*2 ^ (Lu+1021 - Lb)*2 ^ 52<=2 ^ Lb*2 ^ (Lu+1021 - Lb)*2 ^ 52:=Nat.mul_le_mul_right _ (Nat.mul_le_mul_right _ (Nat.le_of_lt hn));rw [show(2:Nat) ^ 52=4503599627370496 from rfl] at h1;refine Nat.le_trans h1 ?_
 rw [show(4503599627370496:Nat)=2 ^ 52 from rfl,<-Nat.pow_add,<-Nat.pow_add];have h2:2 ^ Lu*T74<=2*m*T74:=Nat.mul_le_mul_right _ hm;have e:2 ^ Lu*T74=2 ^ (Lu+c74):=by unfold T74;rw [Nat.pow_add]
 have ex:Lu+c74=(Lb+(Lu+1021 - Lb)+52)+1:=by
  show Lu+1074=_
  clear h1 h2 e hm hn;omega
 have e2:2 ^ (Lu+c74)=2*2 ^ (Lb+(Lu+1021 - Lb)+52):=by rw [ex,Nat.pow_succ,Nat.mul_comm]
 rw [e,e2,Nat.mul_assoc] at h2;omega
theorem jjy {X Y:Nat}(o:Y<X*18014398509481984):Y<(X+X)*9007199254740992:=by
 have e:(X+X)*9007199254740992=X*18014398509481984:=by rw [<-Nat.two_mul,Nat.mul_comm 2 X,Nat.mul_assoc]
 rw [e];exact o
theorem jjA {X Y:Nat}(h:¬Y<X*9007199254740992):(X+X)*4503599627370496<=Y:=by omega
theorem jbU {m n Lu Lb:Nat}(h0:0<n)(hm1:m<2 ^ Lu)(hm2:2 ^ Lu<=2*m)(hn1:n<2 ^ Lb)(hn2:2 ^ Lb<=2*n) :
  (m*T74<n*2 ^ (Lu+1021 - Lb)*9007199254740992->jaf m n (Lu+1021 - Lb) (min 9218868437227405312 ((Lu+1021 - Lb)*4503599627370496+rnd (m*T74) (n*2 ^ (Lu+1021 - Lb)))))/\
  (¬m*T74<n*2 ^ (Lu+1021 - Lb)*9007199254740992->jaf m n (Lu+1021 - Lb+1) (min 9218868437227405312 ((Lu+1021 - Lb+1)*4503599627370496+rnd (m*T74) (n*2 ^ (Lu+1021 - Lb+1))))):=by
 constructor
 ·intro h
  refine⟨h,?_,rfl⟩
  by_cases c:Lu+1021 - Lb=0
  ·exact .inl c
  ·exact .inr (jeM hm2 hn1 (by omega))
 ·intro h
  have o:=jbp hm1 hn2;refine⟨?_,.inr ?_,rfl⟩
  ·rw [<-qg]
   exact jjy o
  ·rw [<-qg]
   exact jjA h
theorem XD {m n E r:Nat}(hn:0<n)(h:jaf m n E r)(hE:2046<=E):r=9218868437227405312:=by
 obtain⟨h1,h2,h3⟩:=h
 have q:4503599627370496<=rnd (m*T74) (n*2 ^ E):=by
  rcases h2 with h | h
  ·omega
  ·exact jbX (Nat.mul_pos hn (Nat.pow_pos (by decide))) h
 rw [h3,Nat.min_eq_left];clear h1 h2 h3;omega
theorem jeH {m n Lu Lb:Nat}(h0:0<n)(hm1:m<2 ^ Lu)(hm2:2 ^ Lu<=2*m)(hn1:n<2 ^ Lb)(hn2:2 ^ Lb<=2*n)(h:Lb+1024<Lu):QS m n 9218868437227405312:=by
 obtain⟨p1,p2⟩:=jbU h0 hm1 hm2 hn1 hn2
 by_cases c:m*T74<n*2 ^ (Lu+1021 - Lb)*9007199254740992
 ·have e:=XD h0 (p1 c) (by omega)
  have:=Qe h0 (p1 c);rwa [e] at this
 ·have e:=XD h0 (p2 c) (by omega)
  have:=Qe h0 (p2 c);rwa [e] at this
theorem jdY {m n E:Nat}(hn:0<n):(m*2 ^ (1074 - E) / (n*2 ^ (E - 1074))<9007199254740992↔m*T74<n*2 ^ E*9007199254740992)/\rnd (m*T74) (n*2 ^ E)=rnd (m*2 ^ (1074 - E)) (n*2 ^ (E - 1074)):=by
 obtain⟨T,hT,e1,e2⟩:=Y2 (m:=m) (n:=n) (E:=E);have hB:0<n*2 ^ (E - 1074):=Nat.mul_pos hn (Nat.pow_pos (by decide))
 constructor
 ·rw [Nat.div_lt_iff_lt_mul hB,e1,e2,Nat.mul_comm 9007199254740992,Nat.mul_assoc (n*2 ^ (E - 1074)) T,Nat.mul_comm T,<-Nat.mul_assoc,Nat.mul_lt_mul_right hT]
 ·rw [e1,e2,Z8 _ _ _ hT]
theorem jiE (A B:Nat)(hB:0<B):rnd A B=A / B+(if B<A % B+A % B\/(A % B+A % B=B/\A / B % 2=1) then 1 else 0):=by
 unfold rnd
 by_cases h:B<A % B+A % B\/(A % B+A % B=B/\A / B % 2=1)
 ·rw [if_pos h,if_pos (by omega)]
 ·rw [if_neg h,if_neg (by omega)]
  rfl
open Go.RowKit
def WSl (w:World)(v:Value)(l:List Nat):Prop:=∃a cap,v=.slice a l.length cap/\l.length<=cap/\RowU w a l
def WBig (w:World)(v:Value)(n:Nat):Prop:=WSl w v (jh n)
theorem WSl.below {w w':World}{v:Value}{l:List Nat}(h:WSl w v l)(hb:Below w.heap.size w w'):WSl w' v l:=by
 obtain⟨a,cap,e,hc,hr⟩:=h;exact⟨a,cap,e,hc,hr.below hb⟩
theorem WBig.below {w w':World}{v:Value}{n:Nat}(h:WBig w v n)(hb:Below w.heap.size w w'):WBig w' v n:=WSl.below h hb
theorem jl (n:Nat):jg (jh n):=by
 induction n using Nat.strongRecOn with
 | ind n ih=>
  by_cases h:n=0
  ·subst h;rw [jy];intro j hj;simp at hj
  ·rw [q9 h];exact qn.2 ⟨by omega,ih _ (by omega)⟩
theorem Yw (l:List Nat)(k:Nat)(h:k<l.length):l.take (k+1)=l.take k++[l.getD k 0]:=jg6 l k h
open Go.RowKit
theorem zL:jg []:=fun j h=>absurd h (by simp)
theorem qe {a b:List Nat}:jg (a++b)↔jg a/\jg b:=by
 induction a with
 | nil=>simp [zL]
 | cons x a ih=>rw [List.cons_append,qn,qn,ih,and_assoc]
theorem qw {d:Nat}(h:d<4294967296):jg [d]:=qn.2 ⟨h,zL⟩
theorem jR (a b:List Nat):je (a++b)=je a+4294967296 ^ a.length*je b:=by
 induction a with
 | nil=>simp [je]
 | cons x a ih=>
  rw [List.cons_append,je,je,ih,List.length_cons,Nat.pow_succ];have:4294967296 ^ a.length*4294967296*je b=4294967296*(4294967296 ^ a.length*je b):=by rw [Nat.mul_comm (4294967296 ^ a.length),Nat.mul_assoc]
  rw [this];omega
theorem qu (d:Nat):je [d]=d:=by simp [je]
theorem zj {l:List Nat}(h:jg l)(k:Nat):jg (l.take k):=by
 rw [<-List.take_append_drop k l,qe] at h;exact h.1
theorem jG (l:List Nat)(k:Nat):je (l.take (k+1))=je (l.take k)+4294967296 ^ k*l.getD k 0:=by
 by_cases h:k<l.length
 ·rw [Yw l k h,jR,qu,List.length_take,Nat.min_eq_left (by omega)]
 ·have e:l.getD k 0=0:=by rw [List.getD,List.getElem?_eq_none (by omega)];rfl
  rw [e,List.take_of_length_le (by omega),List.take_of_length_le (by omega)];omega
theorem zX (l:List Nat)(d:Nat):∀j,j<l.length->je (l.set j d)+4294967296 ^ j*l.getD j 0=je l+4294967296 ^ j*d:=by
 induction l with
 | nil=>intro j h;simp at h
 | cons x l ih=>
  intro j h;cases j with
  | zero=>simp [je];omega
  | succ j=>
   have:=ih j (by simpa using h);simp only [List.set_cons_succ,je,List.getD_cons_succ,Nat.pow_succ];have e1:4294967296 ^ j*4294967296*l.getD j 0=4294967296*(4294967296 ^ j*l.getD j 0):=by rw [Nat.mul_comm (4294967296 ^ j),Nat.mul_assoc]
   have e2:4294967296 ^ j*4294967296*d=4294967296*(4294967296 ^ j*d):=by rw [Nat.mul_comm (4294967296 ^ j),Nat.mul_assoc]
   omega
theorem qY {l:List Nat}{j d:Nat}(h:jg l)(hd:d<4294967296):jg (l.set j d):=by
 intro i hi;rw [List.length_set] at hi
 by_cases e:i=j
 ·subst e;simp [List.getD,hi];exact hd
 ·rw [List.getD,List.getElem?_set_ne (by omega)];exact h i hi
theorem Xi (n:Nat):je (List.replicate n 0)=0:=by
 induction n with
 | zero=>rfl
 | succ n ih=>rw [List.replicate_succ,je,ih]
theorem JT (n:Nat):jg (List.replicate n 0):=by
 intro j hj;rw [List.length_replicate] at hj;simp [List.getD,hj]
theorem ZI {n:Nat}:jh n=[]↔n=0:=by
 constructor
 ·intro h;rw [<-jo n,h];rfl
 ·rintro rfl;exact jy
theorem za {n:Nat}(h:n≠0):0<(jh n).length:=by
 cases e:jh n with
 | nil=>exact absurd (ZI.1 e) h
 | cons x r=>simp
theorem ZG:∀(l:List Nat),jg l->l.take (jh (je l)).length=jh (je l)
 | [],_=>by show _=jh 0;rw [jy];simp
 | d :: r,h=>by
  obtain⟨h1,h2⟩:=qn.1 h;have ih:=ZG r h2
  by_cases h0:je (d :: r)=0
  ·rw [h0,jy];simp
  ·rw [q9 h0]
   have e1:je (d :: r) % 4294967296=d:=by rw [je];omega
   have e2:je (d :: r) / 4294967296=je r:=by rw [je];omega
   rw [e1,e2,List.length_cons,List.take_succ_cons,ih]
theorem qm {n k:Nat}(h:n<4294967296 ^ k):(jh n).length<=k:=by
 induction k generalizing n with
 | zero=>
  have:n=0:=by simpa using h
  subst this;rw [jy];simp
 | succ k ih=>
  by_cases h0:n=0
  ·subst h0;rw [jy];simp
  ·rw [q9 h0,List.length_cons]
   have:n / 4294967296<4294967296 ^ k:=by
    rw [Nat.pow_succ] at h;exact Nat.div_lt_of_lt_mul (by omega)
   have:=ih this;omega
theorem JZ (n:Nat):n<4294967296 ^ (jh n).length:=by have:=ze (jl n);rwa [jo] at this
theorem jaE {n k:Nat}(h:4294967296 ^ k<=n):k<(jh n).length:=by
 have h1:=JZ n
 by_cases e:k<(jh n).length
 ·exact e
 ·have:4294967296 ^ (jh n).length<=4294967296 ^ k:=Nat.pow_le_pow_right (by omega) (by omega)
  omega
theorem ji {l:List Nat}(h:jg l):(jh (je l)).length<=l.length:=qm (ze h)
theorem QR {m n:Nat}(h:m<=n):(jh m).length<=(jh n).length:=qm (Nat.lt_of_le_of_lt h (JZ n))
theorem Qr {m n:Nat}(h:(jh m).length<(jh n).length):m<n:=by
 by_cases e:m<n
 ·exact e
 ·have:=QR (show n<=m by omega)
  omega
theorem Jw {n:Nat}(h:n≠0):(jh n).getD ((jh n).length - 1) 0≠0:=by
 induction n using Nat.strongRecOn with
 | ind n ih=>
  rw [q9 h]
  by_cases e:n / 4294967296=0
  ·rw [e,jy]
   simp;omega
  ·have hp:=za e
   have e1:(n % 4294967296 :: jh (n / 4294967296)).length - 1=((jh (n / 4294967296)).length - 1)+1:=by rw [List.length_cons];omega
   rw [e1,List.getD_cons_succ];exact ih _ (by omega) e
theorem QD:∀{l:List Nat},jg l->(l=[]\/l.getD (l.length - 1) 0≠0)->jh (je l)=l
 | [],_,_=>jy
 | d :: r,h,hl=>by
  obtain⟨h1,h2⟩:=qn.1 h
  have hr:r=[]\/r.getD (r.length - 1) 0≠0:=by
   by_cases e:r=[]
   ·exact .inl e
   ·right
    rcases hl with hl | hl
    ·cases hl
    ·have hp:0<r.length:=List.length_pos_iff.2 e
     have e1:(d :: r).length - 1=(r.length - 1)+1:=by rw [List.length_cons];omega
     rw [e1,List.getD_cons_succ] at hl;exact hl
  have ih:=QD h2 hr
  have hne:je (d :: r)≠0:=by
   intro e;rw [je] at e;have e0:je r=0:=by omega
   rw [e0,jy] at ih;subst ih
   rcases hl with hl | hl
   ·cases hl
   ·simp at hl
    omega
  rw [q9 hne];have e1:je (d :: r) % 4294967296=d:=by rw [je];omega
  have e2:je (d :: r) / 4294967296=je r:=by rw [je];omega
  rw [e1,e2,ih]
theorem zU (l:List Nat)(k:Nat)(hs:jg l):∃t,je l=t+4294967296 ^ k*je (l.drop k)/\t<4294967296 ^ k:=by
 refine⟨je (l.take k),?_,?_⟩
 ·by_cases h:k<=l.length
  ·have:=jR (l.take k) (l.drop k)
   rw [List.take_append_drop,List.length_take,Nat.min_eq_left h] at this;exact this
  ·rw [List.drop_of_length_le (by omega),List.take_of_length_le (by omega)]
   simp [je]
 ·have h1:=ze (zj hs k)
  have h2:4294967296 ^ (l.take k).length<=4294967296 ^ k:=Nat.pow_le_pow_right (by omega) (List.length_take_le k l);omega
theorem Ju (l:List Nat)(k:Nat)(hs:jg l):je (l.drop k)=je l / 4294967296 ^ k:=by
 obtain⟨t,e,h⟩:=zU l k hs;have hp:0<4294967296 ^ k:=Nat.pow_pos (by omega);rw [e,Nat.add_mul_div_left _ _ hp,Nat.div_eq_of_lt h];omega
theorem Q6 {a b:List Nat}{k:Nat}(ha:jg a)(hb:jg b)(h:je (a.drop k)<je (b.drop k)):je a<je b:=by
 obtain⟨t,e1,l1⟩:=zU a k ha;obtain⟨u,e2,l2⟩:=zU b k hb;have:4294967296 ^ k*(je (a.drop k)+1)<=4294967296 ^ k*je (b.drop k):=Nat.mul_le_mul_left _ h;rw [Nat.mul_add,Nat.mul_one] at this;omega
theorem RowU.take {w:World}{a:Option Addr}{l:List Nat}(h:RowU w a l)(k:Nat):RowU w a (l.take k):=by
 intro h0;have hl:l≠[]:=fun e=>h0 (by rw [e,List.take_nil])
 obtain⟨b,o,e,hlt,hc⟩:=h hl;refine⟨b,o,e,hlt,fun j hj=>?_⟩;rw [List.length_take] at hj;rw [hc j (by omega)];simp [List.getD,show j<k by omega]
theorem RowU.cut {w:World}{a:Option Addr}{l:List Nat}(h:RowU w a l)(hs:jg l):RowU w a (jh (je l)):=by
 rw [<-ZG l hs];exact h.take _
theorem RowU.kept {w w':World}{a:Option Addr}{l:List Nat}{g:Nat}(h:RowU w a l)(hg:w.grownBy w' (some g))(hne:∀b o s,a=some ⟨b,o,s⟩->b≠g):RowU w' a l:=by
 intro h0;obtain⟨b,o,rfl,hb,hc⟩:=h h0;have hbg:=hne b o none rfl;refine⟨b,o,rfl,Nat.lt_of_lt_of_le hb hg.size,fun j hj=>?_⟩;exact hg.cell (hc j hj) (fun e=>hbg (by simpa using e))
theorem jC (w:World)(row:Option Nat):w.grownBy w row:=⟨rfl,rfl,rfl,Nat.le_refl _,fun _ _ _=>rfl⟩
theorem jj {a b c:World}{row:Option Nat}(h:a.grownBy b row)(k:b.grownBy c row):a.grownBy c row :=
 ⟨k.os.trans h.os,k.tape.trans h.tape,k.output.trans h.output,Nat.le_trans h.size k.size,fun i hi hn=>(k.block i (Nat.lt_of_lt_of_le hi h.size) hn).trans (h.block i hi hn)⟩
theorem zN {a b:World}{g:Nat}(h:a.grownBy b (some g))(j:Nat)(u:Value):a.grownBy (b.setCell ⟨g,j,none⟩ u) (some g) :=
 jj h ⟨rfl,rfl,rfl,by simp [World.setCell],fun k hk hn=>Below.heap_setCell _ _ _ _ (fun e=>hn (by rw [e]))⟩
theorem jeD {a b:World}{row:Option Nat}(h:a.grownBy b row)(n:Nat):a.grownBy (b.drewN n) row:=⟨h.os,h.tape,h.output,h.size,h.block⟩
theorem qD {a b:World}{g B:Nat}(h:a.grownBy b (some g))(hB:B<=g)(hB':B<=a.heap.size):Below B a b :=
 (Below.refl _ a).grown h hB' (fun k e=>by simp at e;omega)
def Own (w:World)(g c:Nat)(l:List Nat):Prop:=w.ownsRow 0 222 1 (.slice (some ⟨g,0,none⟩) l.length c) l.length (l.map wrd)
theorem Own.cell {w:World}{g c:Nat}{l:List Nat}(h:Own w g c l)(j:Nat)(hj:j<l.length):w.cell? ⟨g,j,none⟩=some (.int .u32 ((l.getD j 0:Nat):Int)):=by
 rw [World.ownsRow.cellAt h j (by omega)];simp [wrd,List.getD,hj]
theorem Own.froz {w:World}{g c:Nat}{l:List Nat}(h:Own w g c l)(j:Nat):w.frozen? ⟨g,j,none⟩=false:=World.ownsRow.frozenAt h j
theorem Own.set {w:World}{g c:Nat}{l:List Nat}(h:Own w g c l)(j d:Nat):Own (w.setCell ⟨g,j,none⟩ (.int .u32 (d:Int))) g c (l.set j d):=by
 have:=(World.ownsRow.stored h j (.int .u32 (d:Int))).1;unfold Own;rw [List.length_set,List.map_set];exact this
theorem Own.lt {w:World}{g c:Nat}{l:List Nat}(h:Own w g c l):g<w.heap.size:=(World.ownsRow.lt h g rfl).2
theorem Own.below {w w':World}{g c:Nat}{l:List Nat}(h:Own w g c l)(hb:Below w.heap.size w w'):Own w' g c l:=jgN h hb
theorem Own.kept {w w':World}{g c r:Nat}{l:List Nat}(h:Own w g c l)(hg:w.grownBy w' (some r))(hne:g≠r):Own w' g c l :=
 World.ownsRow.kept h hg (.inr (by simpa [Value.ownBlock] using hne))
theorem Own.row {w:World}{g c:Nat}{l:List Nat}(h:Own w g c l):RowU w (some ⟨g,0,none⟩) l:=fun _=>⟨g,0,rfl,h.lt,fun j hj=>by rw [Nat.zero_add];exact h.cell j hj⟩
theorem Own.cap {w:World}{g c:Nat}{l:List Nat}(h:Own w g c l):l.length<=c:=by
 obtain⟨a,cap,hv,hc,_⟩:=jc0 h;cases hv
 exact hc
theorem Own.mid {w:World}{g c:Nat}{P M S:List Nat}(h:Own w g c (P++(M++S))):RowU w (some ⟨g,P.length,none⟩) M:=fun _=>⟨g,P.length,rfl,h.lt,fun j hj=>by
 rw [h.cell (P.length+j) (by simp;omega)];simp [List.getD,List.getElem?_append_right,List.getElem?_append_left hj]⟩
theorem Own.cellMid {w:World}{g c:Nat}{P M S:List Nat}(h:Own w g c (P++(M++S)))(j:Nat)(hj:j<M.length):w.cell? ⟨g,P.length+j,none⟩=some (.int .u32 ((M.getD j 0:Nat):Int)):=by
 rw [h.cell (P.length+j) (by simp;omega)];simp [List.getD,List.getElem?_append_right,List.getElem?_append_left hj]
theorem Own.setMid {w:World}{g c:Nat}{P M S:List Nat}(h:Own w g c (P++(M++S)))(j d:Nat)(hj:j<M.length):Own (w.setCell ⟨g,P.length+j,none⟩ (.int .u32 (d:Int))) g c (P++(M.set j d++S)):=by
 have:=h.set (P.length+j) d;rwa [List.set_append_right _ _ (by omega),Nat.add_sub_cancel_left,List.set_append_left _ _ hj] at this
theorem Xl {D M:List Nat}{k:Nat}(hD:D.length=k)(hk:k<M.length):(D++M.drop k).getD k 0=M.getD k 0:=by
 subst hD;simp [List.getD,List.getElem?_append_right]
theorem Xr {D M:List Nat}{k d:Nat}(hD:D.length=k)(hk:k<M.length):(D++M.drop k).set k d=(D++[d])++M.drop (k+1):=by
 subst hD;rw [List.set_append_right _ _ (Nat.le_refl _),Nat.sub_self,List.drop_eq_getElem_cons hk,List.set_cons_zero,List.append_assoc];rfl
theorem Xh {D M:List Nat}{k:Nat}(hD:D.length=k)(hk:k<=M.length):(D++M.drop k).length=M.length:=by
 rw [List.length_append,List.length_drop];omega
theorem ZS {w:World}{B g n:Nat}(h:w.ownsRow B 222 1 (.slice (some ⟨g,0,none⟩) n n) n (madeCells #[.int .u32 0] n).toList):Own w g n (List.replicate n 0):=by
 have e:(madeCells #[Value.int .u32 0] n).toList=(List.replicate n 0).map wrd:=by
  rw [toList_madeCells_one];simp [wrd]
 rw [e] at h;refine⟨by simp,?_⟩
 rcases h.2 with h' | ⟨g',cap,cur,e1,_,r⟩
 ·simp at h'
 ·right
  refine⟨g',cap,cur,by rw [List.length_replicate];exact e1,Nat.zero_le _,?_⟩;rw [List.length_replicate];exact r
open Go.RowKit
theorem zV {n k:Nat}(h:n<4294967296 ^ k):(jh n).length<=k:=by
 induction k generalizing n with
 | zero=>
  have:n=0:=by simpa using h
  subst this;rw [jy];simp
 | succ k ih=>
  by_cases h0:n=0
  ·subst h0;rw [jy];simp
  ·rw [q9 h0,List.length_cons]
   have:n / 4294967296<4294967296 ^ k:=by
    rw [Nat.pow_succ] at h;exact Nat.div_lt_of_lt_mul (by omega)
   have:=ih this;omega
theorem zw (n:Nat):n<4294967296 ^ (jh n).length:=by have:=ze (jl n);rwa [jo] at this
theorem jcx (m n:Nat):(jh (m+n)).length<=(jh m).length+(jh n).length+1:=by
 apply zV
 have h1:=zw m;have h2:=zw n;have h3:4294967296 ^ (jh m).length<=4294967296 ^ ((jh m).length+(jh n).length):=Nat.pow_le_pow_right (by omega) (by omega);have h4:4294967296 ^ (jh n).length<=4294967296 ^ ((jh m).length+(jh n).length):=Nat.pow_le_pow_right (by omega) (by omega);rw [Nat.pow_succ];omega
theorem Jr (m n:Nat):(jh (m*n)).length<=(jh m).length+(jh n).length:=by
 apply zV
 rw [Nat.pow_add];exact Nat.mul_lt_mul'' (zw m) (zw n)
def Form (l:List UInt8):Prop:=l≠[]/\jV l/\(l.getD 0 0≠48\/l.length=1)
theorem ZC {b e:Nat}(hb:b<4294967296):(jh (b ^ e)).length<=e+1:=by
 apply zV
 have h1:b ^ e<=4294967296 ^ e:=Nat.pow_le_pow_left (Nat.le_of_lt hb) _;have h2:4294967296 ^ e<4294967296 ^ (e+1):=Nat.pow_lt_pow_right (by omega) (by omega);omega
theorem qO (n:Nat):bits n<=32*(jh n).length:=by
 apply QC
 have h1:=zw n;have h2:(4294967296:Nat)=2 ^ 32:=by decide
 rw [h2,<-Nat.pow_mul] at h1;exact h1
end bigs
end Go.Proofs.YtnbfnjhbmeocfaaGreatDoor
