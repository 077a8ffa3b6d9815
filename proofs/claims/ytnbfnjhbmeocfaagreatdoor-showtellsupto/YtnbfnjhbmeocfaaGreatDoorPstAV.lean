/- Of our texts, what this claim reaches. -/
import Derived.Test.YtnbfnjhbmeocfaaGreatDoorPstAU
import Derived.Laws.BytesString
import Derived.Laws.Cells
import Derived.Laws.Concat
import Derived.Lib.Strings
set_option linter.unusedVariables false
set_option maxHeartbeats 8000000
set_option maxRecDepth 100000
namespace Go.Proofs.YtnbfnjhbmeocfaaGreatDoor
namespace bigs
open Go.RowKit
def Qq:Nat->Nat->List UInt8
 | 0,_=>[]
 | f+1,n=>if n=0 then [] else Qq f (n / 10)++[UInt8.ofNat (48+n % 10)]
theorem Xh (f:Nat):Qq f 0=[]:=by cases f<;>rfl
theorem jct (n:Nat):∀(f g:Nat),n<=f->n<=g->Qq f n=Qq g n:=by
 induction n using Nat.strongRecOn with
 | ind n ih=>
  intro f g hf hg
  by_cases h:n=0
  ·rw [h,Xh,Xh]
  ·obtain⟨f',rfl⟩:∃f',f=f'+1:=⟨f - 1,by omega⟩
   obtain⟨g',rfl⟩:∃g',g=g'+1:=⟨g - 1,by omega⟩
   rw [Qq,Qq,if_neg h,if_neg h,ih (n / 10) (by omega) f' g' (by omega) (by omega)]
def Jd (n:Nat):List UInt8:=Qq n n
def js (n:Nat):List UInt8:=if n=0 then [48] else Jd n
theorem j7:Jd 0=[]:=rfl
theorem j4 {n:Nat}(h:n≠0):Jd n=Jd (n / 10)++[UInt8.ofNat (48+n % 10)]:=by
 obtain⟨m,rfl⟩:∃m,n=m+1:=⟨n - 1,by omega⟩
 unfold Jd;rw [Qq,if_neg h,jct ((m+1) / 10) m ((m+1) / 10) (by omega) (Nat.le_refl _)]
theorem qc (k:Nat)(h:k<256):(UInt8.ofNat k).toNat=k:=by simp [UInt8.toNat_ofNat'];omega
theorem qN {a b:List UInt8}:qp (a++b)↔qp a/\qp b:=by
 constructor
 ·intro h
  exact⟨fun x hx=>h x (List.mem_append_left _ hx),fun x hx=>h x (List.mem_append_right _ hx)⟩
 ·rintro⟨h1,h2⟩ x hx
  rcases List.mem_append.1 hx with h | h
  ·exact h1 x h
  ·exact h2 x h
theorem jgz (n:Nat):qp (Jd n):=by
 induction n using Nat.strongRecOn with
 | ind n ih=>
  by_cases h:n=0
  ·subst h;rw [j7];intro b hb;cases hb
  ·rw [j4 h,qN]
   refine⟨ih _ (by omega),?_⟩;intro b hb;rw [List.mem_singleton] at hb;subst hb;rw [qc _ (by omega)];omega
theorem jgJ (n:Nat):dec (Jd n)=n:=by
 induction n using Nat.strongRecOn with
 | ind n ih=>
  by_cases h:n=0
  ·subst h;rw [j7];rfl
  ·rw [j4 h,Qw,ih _ (by omega),qc _ (by omega)]
   omega
theorem XI:∀(k:Nat) (l:List UInt8),l.length=k->qp l->(l=[]\/l.getD 0 0≠48)->Jd (dec l)=l
 | 0,l,hk,_,_=>by
  have:l=[]:=List.eq_nil_of_length_eq_zero hk;subst this;exact j7
 | k+1,l,hk,hd,hh=>by
  rcases List.eq_nil_or_concat l with e | ⟨a,b,e⟩
  ·subst e;simp at hk
  ·subst e
   rw [List.concat_eq_append] at *;obtain⟨h1,h2⟩:=qN.1 hd;have hb:=h2 b (List.mem_singleton_self b);have hak:a.length=k:=by simp at hk;exact hk
   have ha:a=[]\/a.getD 0 0≠48:=by
    cases a with
    | nil=>exact .inl rfl
    | cons x r=>
     right
     rcases hh with hh | hh
     ·simp at hh
     ·simpa using hh
   have ih:=XI k a hak h1 ha
   have hne:dec (a++[b])≠0:=by
    intro e;rw [Qw] at e;have e0:dec a=0:=by omega
    rw [e0,j7] at ih;subst ih
    rcases hh with hh | hh
    ·simp at hh
    ·have hb2:b.toNat=48:=by simp [dec] at e;omega
     apply hh
     have:b=48:=UInt8.toNat_inj.1 hb2;rw [this];rfl
   rw [j4 hne];have e1:dec (a++[b]) / 10=dec a:=by rw [Qw];omega
   have e2:48+dec (a++[b]) % 10=b.toNat:=by rw [Qw];omega
   rw [e1,e2,ih]
   congr 2
   exact UInt8.toNat_inj.1 (qc _ (by omega))
theorem jef {l:List UInt8}{V i r a:Nat}(hl:l.length=4*i+r)(h:dec l=V+10 ^ (4*i)*(a % 10 ^ r)) :
  dec (UInt8.ofNat (48+a / 10 ^ r % 10) :: l)=V+10 ^ (4*i)*(a % 10 ^ (r+1)):=by
 rw [JI,qc _ (by omega),hl,h,Nat.mod_pow_succ,Nat.mul_add,<-Nat.mul_assoc (10 ^ (4*i)),<-Nat.pow_add];have e:48+a / 10 ^ r % 10 - 48=a / 10 ^ r % 10:=by omega
 rw [e,Nat.mul_comm (a / 10 ^ r % 10)];omega
theorem jfU (A:List Nat)(i:Nat)(h:A.getD i 0<10000):val (A.take i)+10 ^ (4*i)*(A.getD i 0 % 10 ^ 4)=val (A.take (i+1)):=by
 rw [qg,Nat.mod_eq_of_lt (show A.getD i 0<10 ^ 4 from h),Nat.pow_mul]
theorem jcf (x:Nat)(w:World) :
  (convert 147 9 (.slice (some ⟨w.heap.size,0,none⟩) 1 1)).run Tryz.prog (w.alloc (.cells #[.int .u8 (48+(x:Int) % 10)] 5))=.ok (.string ⟨#[UInt8.ofNat (48+x % 10)]⟩) (w.alloc (.cells #[.int .u8 (48+(x:Int) % 10)] 5)):=by
 rw [run_convert_bytes_string _ 147 9 5 _ _ _ Tryz.underlying147 Tryz.underlying5 Tryz.underlying9];have h:=run_loadCells_list (P:=Tryz.prog) (w:=w.alloc (.cells #[.int .u8 (48+(x:Int) % 10)] 5)) ⟨w.heap.size,0,none⟩ [.int .u8 (48+(x:Int) % 10)] (cell_one_new _ _ _);rw [run_bytesToString _ _ 1 1 [48+(x:Int) % 10] h];have e:(48+(x:Int) % 10).toNat=48+x % 10:=by omega
 simp only [List.foldl_cons,List.foldl_nil,e];rfl
theorem jeV (c:UInt8)(t:ByteArray):(⟨#[c]⟩:ByteArray)++t=⟨(c :: t.data.toList).toArray⟩:=by
 apply ByteArray.ext
 rw [ByteArray.data_append];apply Array.toList_inj.1
 simp
theorem Q8 (w:World)(va:Value)(n:Nat)(hn:(dig n).length<=100000)(ha:Lies w va n) :
  Calls Tryz.prog 150 #[va] w fun e w'=>e=.returned (.string ⟨(js n).toArray⟩)/\Below w.heap.size w w':=by
 obtain⟨aa,ca,rfl,hca,ra⟩:=ha;have sa:=qn n;have HV:Hid (val ((dig n).take (dig n).length)=n):=by show _=_;rw [List.take_length,zl]
 generalize dig n=A at *
 go_enter Tryz.func150,Tryz.ntmps150
 go_wp2
 go_loopw [3,8] (fun vs vi wr=>∃(i:Nat) (t:ByteArray),vi=.int .i64 i/\vs=.string t/\i<=A.length/\t.size=4*i/\Hid (qp t.data.toList)/\Hid (dec t.data.toList=val (A.take i))/\Below w.heap.size w wr) (fun _ vi _=>A.length - (intOf vi).toNat)
 case atStart=>exact⟨0,⟨#[]⟩,rfl,rfl,Nat.zero_le _,rfl,(fun b hb=>by cases hb),rfl,Below.refl _ _⟩
 case round=>
  obtain⟨i,t,rfl,rfl,hi,hts,hdt,hval,hbw⟩:=hrel
  by_cases hlt:i<A.length
  ·obtain⟨b,o,rfl,hb,hc⟩:=ra (by intro e;rw [e] at hlt;simp at hlt)
   have c1:wr.cell? ⟨b,o+i,none⟩=some (.int .i64 ((A.getD i 0:Nat):Int)):=by rw [hbw.cell (p:=⟨b,o+i,none⟩) hb];exact hc i hlt
   have hx:=qD sa i;have HN:=jb (jfU A i hx);clear hc;generalize A.getD i 0=a at *;generalize val (A.take i)=V at *
   go_wp2_with fail
   go_loopw [3,5,15] (fun vs vx vr wq=>∃(r:Nat) (t:ByteArray),vr=.int .i64 r/\vs=.string t/\vx=.int .i64 ((a / 10 ^ r:Nat):Int)/\r<=4/\t.size=4*i+r/\Hid (qp t.data.toList)/\Hid (dec t.data.toList=V+10 ^ (4*i)*(a % 10 ^ r))/\Below w.heap.size w wq) (fun _ _ vr _=>4 - (intOf vr).toNat)
   case atStart=>exact⟨0,t,rfl,rfl,by simp,by omega,by omega,hdt,by show _=_;rw [hval.out];simp [Nat.mod_one],hbw⟩
   case round=>
    clear hbw hval hdt hts;obtain⟨r,t,rfl,rfl,rfl,hr,hts,hdt,hval,hbw⟩:=hrel
    by_cases hr4:r<4
    ·have hr2:=jb (jef (i:=i) (r:=r) (a:=a) (V:=V) (l:=t.data.toList) (by rw [jj];exact hts) hval.out)
     have hd10:a / 10 ^ r<=a:=Nat.div_le_self _ _;have hnx:Hid (a / 10 ^ r / 10=a / 10 ^ (r+1)):=by show _=_;rw [Nat.div_div_eq_div_mul,Nat.pow_succ]
     generalize a / 10 ^ r=x at *;have hcv:=jcf x;obtain⟨c,hc⟩:∃c:UInt8,c=UInt8.ofNat (48+x % 10):=⟨_,rfl⟩
     have hcn:c.toNat=48+x % 10:=by rw [hc,qc _ (by omega)]
     rw [<-hc] at hr2;simp only [<-hc] at hcv;clear hc
     have hsz:((⟨#[c]⟩:ByteArray)++t).size=4*i+(r+1):=by
      rw [ByteArray.size_append]
      show 1+t.size=_
      omega
     have hdt2:Hid (qp ((⟨#[c]⟩:ByteArray)++t).data.toList):=by
      rw [jeV];intro b hb
      rcases List.mem_cons.1 hb with h | h
      ·rw [h,hcn];omega
      ·exact hdt.out b h
     have hval2:Hid (dec ((⟨#[c]⟩:ByteArray)++t).data.toList=V+10 ^ (4*i)*(a % 10 ^ (r+1))):=by
      rw [jeV];exact hr2.out
     have hbw2:Below w.heap.size w (wr.alloc (.cells #[.int .u8 (48+(x:Int) % 10)] 5)):=hbw.alloc hbw.size _;clear hr2 hval hdt hcn;go_wp2;go_roundw
     case rel=>exact⟨r+1,_,by go_num,rfl,by rw [<-ja hnx];congr 1,by omega,hsz,hdt2,hval2,hbw2⟩
     case measure=>simp only [intOf];omega
    ·have hr5:r=4:=by omega
     subst hr5;have hval2:Hid (dec t.data.toList=val (A.take (i+1))):=by show _=_;rw [hval.out];exact ja HN
     clear hval HN;go_wp2;go_roundw
     case rel=>exact⟨i+1,t,by go_num,rfl,by omega,by omega,hdt,hval2,hbw⟩
     case measure=>simp only [intOf];omega
  ·have hie:i=A.length:=by omega
   have hval2:Hid (dec t.data.toList=n):=by show _=_;rw [hval.out,hie];exact HV.out
   clear hval HV;subst hie
   go_wp2_with fail
   go_loopw [3] (fun vs wq=>∃t:ByteArray,vs=.string t/\t.size<=400000/\Hid (qp t.data.toList)/\Hid (dec t.data.toList=n)/\wq=wr) (fun vs _=>jhb vs)
   case atStart=>exact⟨t,rfl,by omega,hdt,hval2,rfl⟩
   case round=>
    clear hval2 hdt hts;obtain⟨t,rfl,hts,hdt,hval,rfl⟩:=hrel
    by_cases h0:t.size=0
    ·have e1:t.data.toList=[]:=List.eq_nil_of_length_eq_zero (by rw [jj];exact h0)
     have e2:n=0:=by rw [<-hval.out,e1];rfl
     have e3:t=⟨#[]⟩:=by apply ByteArray.ext;apply Array.toList_inj.1;rw [e1]
     have HE:Hid (js n=[48]):=by show _=_;unfold js;rw [if_pos e2]
     subst e3;clear hval hdt e1 e2;go_wp2;go_ret;rw [ja HE];exact⟨rfl,hbw⟩
    ·have hb:=jdz t 0 (by omega)
     by_cases h48:t.data.toList.getD 0 0=48
     ·have tb:(((t[0]'(by omega)).toNat:Int) == 48)=true:=by rw [<-hb,h48];rfl
      have hsp:t.data.toList=48 :: t.data.toList.drop 1:=by
       cases e:t.data.toList with
       | nil=>rw [<-jj,e] at h0;simp at h0
       | cons y z=>rw [e] at h48;simp at h48;rw [h48];rfl
      have hsl:(t.extract 1 t.size).data.toList=t.data.toList.drop 1:=by
       have e:(t.extract 1 t.size).data.toList=(t.data.toList.take t.size).drop 1:=by simp [List.drop_take]
       rw [e,List.take_of_length_le (by rw [jj];exact Nat.le_refl _)]
      have hdt2:Hid (qp (t.extract 1 t.size).data.toList):=by rw [hsl];exact J4 hdt.out 1
      have hval2:Hid (dec (t.extract 1 t.size).data.toList=n):=by
       show _=_
       rw [hsl];have h:=hval.out;rw [hsp,JI] at h;have e48:(48:UInt8).toNat - 48=0:=rfl;rw [e48,Nat.zero_mul,Nat.zero_add] at h;exact h
      clear hsp hsl hval hdt hb h48;go_wp2;go_roundw
      case rel=>exact⟨t.extract 1 t.size,rfl,by rw [ByteArray.size_extract];omega,hdt2,hval2,by trivial⟩
      case measure=>simp only [jhb];rw [ByteArray.size_extract];omega
     ·have tb:(((t[0]'(by omega)).toNat:Int) == 48)=false:=by
       rw [<-hb];apply beq_false_of_ne
       intro e;apply h48
       apply UInt8.toNat_inj.1
       show _=48
       omega
      have hun:Jd n=t.data.toList:=by
       rw [<-hval.out];exact XI _ _ rfl hdt.out (.inr h48)
      have hne:t.data.toList≠[]:=fun e=>by rw [<-jj,e] at h0;simp at h0
      have HE:Hid (js n=t.data.toList):=by
       show _=_
       unfold js;rw [if_neg (fun e=>by rw [e,j7] at hun;exact hne hun.symm),hun]
      have hemp:t.toList.isEmpty=false:=by
       rw [ByteArray.toList_eq t];cases e:t.data.toList with
       | nil=>exact absurd e hne
       | cons y z=>rfl
      clear hval hdt hb h48 hun hne;go_wp2;go_ret;rw [ja HE];refine⟨?_,hbw⟩
      congr 2
open Go.RowKit
def rnd (n d:Nat):Nat:=if d<2*(n % d)\/(2*(n % d)=d/\n / d % 2=1) then n / d+1 else n / d
def jd7 (q:Nat)(e:Int):Nat :=
 if q=9007199254740992 then (if 971<e+1 then 9218868437227405312 else (e+1+1074).toNat*4503599627370496+4503599627370496)
 else if 971<e then 9218868437227405312 else if q<4503599627370496 then q else (e+1074).toNat*4503599627370496+q
def Q7 (num den r:Nat):Prop:=∃a b:Nat,a<=1074/\(a=0\/num*2 ^ (a - 1)<den*4503599627370496)/\(a=1074\/den*4503599627370496<=num*2 ^ a)/\
 (b=0\/den*2 ^ (b - 1)*9007199254740992<=num*2 ^ a)/\num*2 ^ a<den*2 ^ b*9007199254740992/\r=jd7 (rnd (num*2 ^ a) (den*2 ^ b)) ((b:Int) - (a:Int))
theorem JW (x:Nat){a b:Nat}(h:a<=b):x*2 ^ a<=x*2 ^ b:=Nat.mul_le_mul_left _ (Nat.pow_le_pow_right (by omega) h)
theorem jb8 {num den r r':Nat}(h:Q7 num den r)(h':Q7 num den r'):r=r':=by
 obtain⟨a,b,h1,h2,h3,h4,h5,h6⟩:=h;obtain⟨a',b',k1,k2,k3,k4,k5,k6⟩:=h'
 have ea:a=a':=by
  rcases Nat.lt_trichotomy a a' with hlt | he | hgt
  ·have m:=JW num (show a<=a' - 1 by omega)
   rcases k2 with e | e
   ·omega
   ·rcases h3 with e3 | e3<;>omega
  ·exact he
  ·have m:=JW num (show a'<=a - 1 by omega)
   rcases h2 with e | e
   ·omega
   ·rcases k3 with e3 | e3<;>omega
 subst ea
 have eb:b=b':=by
  rcases Nat.lt_trichotomy b b' with hlt | he | hgt
  ·have m:=Nat.mul_le_mul_right 9007199254740992 (JW den (show b<=b' - 1 by omega))
   rcases k4 with e | e<;>omega
  ·exact he
  ·have m:=Nat.mul_le_mul_right 9007199254740992 (JW den (show b'<=b - 1 by omega))
   rcases h4 with e | e<;>omega
 subst eb;rw [h6,k6]
theorem JB (m n:Nat):(dig (m*n)).length<=(dig m).length+(dig n).length:=by
 apply jN
 rw [Nat.pow_add];exact Nat.mul_lt_mul'' (Q1 m) (Q1 n)
theorem qB (x a:Nat):x*2 ^ a+x*2 ^ a=x*2 ^ (a+1):=by rw [Nat.pow_succ,<-Nat.mul_assoc];omega
def jo (b:Nat):Nat×Int×Int :=
 if b / 4503599627370496 % 2048=2047 then (if b % 4503599627370496=0 then (0,0,1) else (0,0,2))
 else if b / 4503599627370496 % 2048=0 then (b % 4503599627370496,-1074,0) else (b % 4503599627370496+4503599627370496,((b / 4503599627370496 % 2048:Nat):Int) - 1075,0)
theorem ZM (x y c:Nat)(hc:0<c):rnd (x*c) (y*c)=rnd x y:=by
 unfold rnd;rw [Nat.mul_div_mul_right _ _ hc,Nat.mul_mod_mul_right,<-Nat.mul_assoc];have e1:(y*c<2*(x % y)*c)↔y<2*(x % y):=Nat.mul_lt_mul_right hc;have e2:(2*(x % y)*c=y*c)↔2*(x % y)=y:=⟨fun h=>Nat.eq_of_mul_eq_mul_right hc h,fun h=>by rw [h]⟩
 simp only [e1,e2]
theorem YK {num den r c:Nat}(hc:0<c)(h:Q7 num den r):Q7 (num*c) (den*c) r:=by
 obtain⟨a,b,h1,h2,h3,h4,h5,h6⟩:=h;have s:∀x y z:Nat,x*c*y=x*y*c:=fun x y z=>by rw [Nat.mul_assoc,Nat.mul_comm c,Nat.mul_assoc]
 refine⟨a,b,h1,?_,?_,?_,?_,?_⟩
 ·rcases h2 with h | h
  ·exact .inl h
  ·right
   rw [s _ _ 0,s _ _ 0];exact Nat.mul_lt_mul_of_pos_right h hc
 ·rcases h3 with h | h
  ·exact .inl h
  ·right
   rw [s _ _ 0,s _ _ 0];exact Nat.mul_le_mul_right _ h
 ·rcases h4 with h | h
  ·exact .inl h
  ·right
   rw [s _ _ 0,s _ _ 0,s _ _ 0];exact Nat.mul_le_mul_right _ h
 ·rw [s _ _ 0,s _ _ 0,s _ _ 0]
  exact Nat.mul_lt_mul_of_pos_right h5 hc
 ·rw [s _ _ 0,s den _ 0,ZM _ _ _ hc]
  exact h6
theorem jdI {N d M:Nat}(h:N<d*M):rnd N d<=M:=by
 have h1:N / d<M:=Nat.div_lt_of_lt_mul h;unfold rnd;split<;>omega
theorem jeB {N d M:Nat}(hd:0<d)(h:d*M<=N):M<=rnd N d:=by
 have h1:M<=N / d:=(Nat.le_div_iff_mul_le hd).2 (by rw [Nat.mul_comm];exact h);unfold rnd;split<;>omega
theorem XK {q:Nat}{e:Int}(hq:q<=9007199254740992)(he : -1074<=e)(hn:4503599627370496<=q\/e = -1074):jd7 q e=min 9218868437227405312 ((e+1074).toNat*4503599627370496+q):=by
 unfold jd7;obtain⟨E,hE⟩:∃E:Nat,e+1074=(E:Int):=⟨(e+1074).toNat,by omega⟩
 have e1:(e+1074).toNat=E:=by omega
 have e2:(e+1+1074).toNat=E+1:=by omega
 rw [e1,e2]
 by_cases h1:q=9007199254740992
 ·rw [if_pos h1]
  subst h1
  by_cases h2:971<e+1
  ·rw [if_pos h2,Nat.min_eq_left (by omega)]
  ·rw [if_neg h2,Nat.min_eq_right (by omega)]
   omega
 ·rw [if_neg h1]
  by_cases h2:971<e
  ·rw [if_pos h2,Nat.min_eq_left (by omega)]
  ·rw [if_neg h2]
   by_cases h3:q<4503599627370496
   ·rw [if_pos h3,Nat.min_eq_right (by omega)]
    omega
   ·rw [if_neg h3,Nat.min_eq_right (by omega)]
theorem jgq {num den a b:Nat}(h2:a=0\/num*2 ^ (a - 1)<den*4503599627370496)(h4:b=0\/den*2 ^ (b - 1)*9007199254740992<=num*2 ^ a):a=0\/b=0:=by
 rcases h2 with h | h
 ·exact .inl h
 ·rcases h4 with k | k
  ·exact .inr k
  ·by_cases ha:a=0
   ·exact .inl ha
   ·exfalso
    have e:=qB num (a - 1);rw [show a - 1+1=a by omega] at e;have hY:den*1<=den*2 ^ (b - 1):=Nat.mul_le_mul_left _ (Nat.pow_pos (by omega));rw [<-e] at k;generalize num*2 ^ (a - 1)=X at *;generalize den*2 ^ (b - 1)=Y at *;omega
theorem jgm {num den a b:Nat}(h3:a=1074\/den*4503599627370496<=num*2 ^ a)(h4:b=0\/den*2 ^ (b - 1)*9007199254740992<=num*2 ^ a)(hs:a=0\/b=0) :
  den*2 ^ b*4503599627370496<=num*2 ^ a\/(b:Int) - (a:Int) = -1074:=by
 by_cases hb:b=0
 ·rcases h3 with h | h
  ·right;omega
  ·left;rw [hb,Nat.pow_zero,Nat.mul_one];exact h
 ·left
  rcases h4 with k | k
  ·exact absurd k hb
  ·have e:=qB den (b - 1)
   rw [show b - 1+1=b by omega] at e;rw [<-e];have e2:∀Y:Nat,(Y+Y)*4503599627370496=Y*9007199254740992:=fun Y=>by omega
   rw [e2];exact k
theorem jhi {a b:Nat}(h:a<=1074) : -1074<=(b:Int) - (a:Int):=by omega
theorem jax (x:Nat){a b c:Nat}(h:a=b+c):x*2 ^ a=x*2 ^ b*2 ^ c:=by rw [h,Nat.pow_add,Nat.mul_assoc]
def c74:Nat:=1074
def T74:Nat:=2 ^ c74
def T76:Nat:=4*T74
theorem jav (x:Nat){b c:Nat}(h:1074=b+c):x*T74=x*2 ^ b*2 ^ c:=by
 have e:c74=b+c:=h;unfold T74;rw [e,Nat.pow_add,Nat.mul_assoc]
def jeP (num den E r:Nat):Prop:=num*T74<den*2 ^ E*9007199254740992/\(E=0\/den*2 ^ E*4503599627370496<=num*T74)/\
 r=min 9218868437227405312 (E*4503599627370496+rnd (num*T74) (den*2 ^ E))
theorem jg4 {num den r:Nat}(hd:0<den)(h:Q7 num den r):∃E,jeP num den E r:=by
 obtain⟨a,b,h1,h2,h3,h4,h5,h6⟩:=h;have s:=jgq h2 h4;have n:=jgm h3 h4 s;have hdb:0<den*2 ^ b:=Nat.mul_pos hd (Nat.pow_pos (by omega));have q:=jdI h5
 have g:4503599627370496<=rnd (num*2 ^ a) (den*2 ^ b)\/(b:Int) - (a:Int) = -1074:=by
  rcases n with e | e
  ·exact .inl (jeB hdb e)
  ·exact .inr e
 rw [XK q (jhi h1) g] at h6;have eE:((b:Int) - (a:Int)+1074).toNat=b+1074 - a:=by omega
 rw [eE] at h6;clear eE
 obtain⟨T,hT,e1,e2⟩:∃T,0<T/\num*T74=num*2 ^ a*T/\den*2 ^ (b+1074 - a)=den*2 ^ b*T:=by
  refine⟨2 ^ (1074 - a),Nat.pow_pos (by decide),jav _ (by omega),jax _ (by omega)⟩
 refine⟨b+1074 - a,?_,?_,?_⟩
 ·rw [e1,e2,Nat.mul_assoc (den*2 ^ b),Nat.mul_comm T,<-Nat.mul_assoc]
  exact Nat.mul_lt_mul_of_pos_right h5 hT
 ·rcases n with e | e
  ·right
   rw [e1,e2,Nat.mul_assoc (den*2 ^ b),Nat.mul_comm T,<-Nat.mul_assoc];exact Nat.mul_le_mul_right _ e
  ·left
   omega
 ·rw [e1,e2,ZM _ _ _ hT]
  exact h6
theorem jdg (E:Nat):(((E - 1074:Nat):Int) - ((1074 - E:Nat):Int)+1074).toNat=E:=by omega
theorem jgL (E:Nat):1074 - E<=1074:=by omega
theorem jhs {num den E r:Nat}(hd:0<den)(h:jeP num den E r):Q7 num den r:=by
 obtain⟨h1,h2,h3⟩:=h
 obtain⟨T,hT,e1,e2⟩:∃T,0<T/\num*T74=num*2 ^ (1074 - E)*T/\den*2 ^ E=den*2 ^ (E - 1074)*T:=by
  refine⟨2 ^ (1074 - (1074 - E)),Nat.pow_pos (by decide),jav _ (by omega),jax _ (by omega)⟩
 have hdb:0<den*2 ^ (E - 1074):=Nat.mul_pos hd (Nat.pow_pos (by omega))
 have k1:num*2 ^ (1074 - E)<den*2 ^ (E - 1074)*9007199254740992:=by
  rw [e1,e2,Nat.mul_assoc (den*2 ^ (E - 1074)),Nat.mul_comm T,<-Nat.mul_assoc] at h1;exact Nat.lt_of_mul_lt_mul_right h1
 have k2:E=0\/den*2 ^ (E - 1074)*4503599627370496<=num*2 ^ (1074 - E):=by
  rcases h2 with h | h
  ·exact .inl h
  ·right
   rw [e1,e2,Nat.mul_assoc (den*2 ^ (E - 1074)),Nat.mul_comm T,<-Nat.mul_assoc] at h;exact Nat.le_of_mul_le_mul_right h hT
 have q:=jdI k1;rw [e1,e2,ZM _ _ _ hT] at h3;clear e1 e2 h1 h2;refine⟨1074 - E,E - 1074,by omega,?_,?_,?_,k1,?_⟩
 ·by_cases c:1074 - E=0
  ·exact .inl c
  ·right
   rw [show E - 1074=0 by omega,Nat.pow_zero,Nat.mul_one] at k1;have e:=qB num (1074 - E - 1);rw [show 1074 - E - 1+1=1074 - E by omega] at e;rw [<-e] at k1;clear e k2 h3 q hdb;generalize num*2 ^ (1074 - E - 1)=X at *;omega
 ·rcases k2 with h | h
  ·left;omega
  ·right
   refine Nat.le_trans (Nat.mul_le_mul_right _ ?_) h;exact Nat.le_mul_of_pos_right _ (Nat.pow_pos (by omega))
 ·by_cases c:E - 1074=0
  ·exact .inl c
  ·right
   rcases k2 with h | h
   ·omega
   ·have e:=qB den (E - 1074 - 1)
    rw [show E - 1074 - 1+1=E - 1074 by omega] at e;rw [<-e] at h;refine Nat.le_trans ?_ h
    clear e h k1 h3 q hdb;generalize den*2 ^ (E - 1074 - 1)=X at *;omega
 ·have eE:(((E - 1074:Nat):Int) - ((1074 - E:Nat):Int)+1074).toNat=E:=jdg E
  have g:4503599627370496<=rnd (num*2 ^ (1074 - E)) (den*2 ^ (E - 1074))\/((E - 1074:Nat):Int) - ((1074 - E:Nat):Int) = -1074:=by
   rcases k2 with h | h
   ·subst h
    exact .inr rfl
   ·exact .inl (jeB hdb h)
  rw [XK q (jhi (jgL E)) g,eE];exact h3
theorem jbO (num den:Nat)(hd:0<den):∃E r,jeP num den E r:=by
 have h:∀E,num*T74<den*2 ^ E*9007199254740992->∃E r,jeP num den E r:=by
  intro E
  induction E with
  | zero=>intro h;exact⟨0,_,h,.inl rfl,rfl⟩
  | succ E ih=>
   intro h
   by_cases c:num*T74<den*2 ^ E*9007199254740992
   ·exact ih c
   ·refine⟨E+1,_,h,.inr ?_,rfl⟩
    rw [<-qB];generalize den*2 ^ E=X at *;generalize num*T74=Y at *;clear h ih;omega
 refine h (num*T74) ?_
 have h1:num*T74<2 ^ (num*T74):=Nat.lt_two_pow_self;generalize num*T74=Y at *;refine Nat.lt_of_lt_of_le h1 ?_
 rw [Nat.mul_comm den,Nat.mul_assoc];exact Nat.le_mul_of_pos_right _ (Nat.mul_pos hd (by omega))
theorem Xd (num den:Nat)(hd:0<den):∃r,Q7 num den r:=by
 obtain⟨E,r,h⟩:=jbO num den hd;exact⟨r,jhs hd h⟩
def jM (r:Nat):Nat:=if r<4503599627370496 then r else r % 4503599627370496+4503599627370496
def step (r:Nat):Nat:=2 ^ (r / 4503599627370496 - 1)
def JV (r:Nat):Nat:=4*jM r*step r
def mid (r:Nat):Nat:=(4*jM r+2)*step r
theorem Je (r:Nat):0<step r:=Nat.pow_pos (by omega)
theorem zw (r:Nat):JV (r+1)=JV r+4*step r:=by
 unfold JV jM step
 by_cases c:(r+1) % 4503599627370496=0
 ·by_cases c1:r<4503599627370496
  ·have e:r=4503599627370495:=by omega
   subst e;rfl
  ·rw [if_neg (by omega),if_neg c1,c,show(r+1) / 4503599627370496 - 1=(r / 4503599627370496 - 1)+1 by omega,Nat.pow_succ,show r % 4503599627370496=4503599627370495 by omega]
   generalize 2 ^ (r / 4503599627370496 - 1)=S;omega
 ·rw [show(r+1) / 4503599627370496=r / 4503599627370496 by omega]
  generalize 2 ^ (r / 4503599627370496 - 1)=S;have e:∀x:Nat,4*(x+1)*S=4*x*S+4*S:=fun x=>by rw [Nat.mul_add,Nat.add_mul]
  by_cases c1:r+1<4503599627370496
  ·rw [if_pos c1,if_pos (by omega),e]
  ·rw [if_neg c1,if_neg (by omega),<-e]
   congr 2
   omega
theorem Jz (r:Nat):mid r=JV r+2*step r:=by
 unfold mid JV;rw [Nat.add_mul]
theorem ZV {r s:Nat}(h:r<=s):JV r<=JV s:=by
 induction h with
 | refl=>exact Nat.le_refl _
 | step _ ih=>rw [zw];omega
theorem jkw {r s:Nat}(h:r<s):JV r<JV s:=by
 have h1:=ZV (show r+1<=s by omega);have h2:=zw r;have h3:=Je r;omega
theorem jda {r s:Nat}(h:r<=s):mid r<=mid s:=by
 by_cases c:r=s
 ·rw [c];exact Nat.le_refl _
 ·have h1:=ZV (show r+1<=s by omega)
  have h2:=zw r;rw [Jz,Jz];omega
theorem jjK {r s:Nat}(h:r<s):mid r<mid s:=by
 have h1:=ZV (show r+1<=s by omega);have h2:=zw r;have h3:=Je r;have h4:=Je s;rw [Jz,Jz];omega
def Over (num den r:Nat):Prop:=r=0\/mid (r - 1)*den<num*T76\/(mid (r - 1)*den=num*T76/\r % 2=0)
def Z1 (num den r:Nat):Prop:=num*T76<mid r*den\/(num*T76=mid r*den/\r % 2=0)
theorem jg2 (n d:Nat)(hd:0<d):(2*n<(2*rnd n d+1)*d\/(2*n=(2*rnd n d+1)*d/\rnd n d % 2=0))/\
  ((2*rnd n d)*d<2*n+d\/((2*rnd n d)*d=2*n+d/\rnd n d % 2=0)):=by
 have e1:=Nat.div_add_mod n d;have l1:=Nat.mod_lt n hd;unfold rnd;generalize n / d=Q at *;generalize n % d=c at *;split
 ·rename_i h
  have x1:(2*(Q+1)+1)*d=2*(d*Q)+3*d:=by rw [Nat.add_mul,Nat.mul_assoc,Nat.add_mul,Nat.mul_comm Q];omega
  have x2:2*(Q+1)*d=2*(d*Q)+2*d:=by rw [Nat.mul_assoc,Nat.add_mul,Nat.mul_comm Q];omega
  rw [x1,x2];generalize d*Q=Z at *;omega
 ·rename_i h
  have x1:(2*Q+1)*d=2*(d*Q)+d:=by rw [Nat.add_mul,Nat.mul_assoc,Nat.mul_comm Q];omega
  have x2:2*Q*d=2*(d*Q):=by rw [Nat.mul_assoc,Nat.mul_comm Q]
  rw [x1,x2];generalize d*Q=Z at *;omega
theorem jiR {E q:Nat}(h1:q<9007199254740992)(h2:E=0\/4503599627370496<=q):jM (E*4503599627370496+q)=q/\step (E*4503599627370496+q)=2 ^ E:=by
 unfold jM step
 by_cases c:q<4503599627370496
 ·have e:E=0:=by omega
  subst e;rw [if_pos (by omega)];refine⟨by omega,?_⟩
  congr 1
  omega
 ·rw [if_neg (by omega)]
  refine⟨by omega,?_⟩
  congr 1
  omega
theorem jbB {E q:Nat}(h1:q<9007199254740992)(h2:E=0\/4503599627370496<=q):mid (E*4503599627370496+q)=(4*q+2)*2 ^ E:=by
 obtain⟨e1,e2⟩:=jiR h1 h2;unfold mid;rw [e1,e2]
theorem jjB (n:Nat):n*T76=4*(n*T74):=by
 unfold T76;generalize T74=T;rw [Nat.mul_left_comm]
theorem jjD (E q:Nat):(E*4503599627370496+q) % 2=q % 2:=by omega
theorem jbi {D X:Nat}(hD:0<D+D)(h:(D+D)*4503599627370496<=X):(4*9007199254740991+2)*D<4*X:=by omega
theorem jbS {q X Y Z D:Nat}(e:Y+2*D=2*Z)(s:Z<2*X+D\/(Z=2*X+D/\q % 2=0)):Y<4*X\/(Y=4*X/\q % 2=0):=by omega
theorem Y0 {D X:Nat}(hD:0<D)(h:X<D*9007199254740992):4*X<(4*4503599627370496+2)*(D+D):=by omega
theorem Y4 {q X Y:Nat}(s:2*X<Y\/(2*X=Y/\q % 2=0)):4*X<2*Y\/(4*X=2*Y/\q % 2=0):=by omega
theorem QH (c E den:Nat):c*2 ^ E*den=c*(den*2 ^ E):=by rw [Nat.mul_assoc,Nat.mul_comm (2 ^ E)]
theorem jfo {X den E q:Nat}(hD:0<den*2 ^ E)(q1:q<=9007199254740992)(q2:E=0\/4503599627370496<=q)(h2:E=0\/den*2 ^ E*4503599627370496<=X)
  (s2:(2*q)*(den*2 ^ E)<2*X+den*2 ^ E\/((2*q)*(den*2 ^ E)=2*X+den*2 ^ E/\q % 2=0)) (z:E*4503599627370496+q≠0) :
  mid (E*4503599627370496+q - 1)*den<4*X\/(mid (E*4503599627370496+q - 1)*den=4*X/\q % 2=0):=by
 by_cases c:E≠0/\q=4503599627370496
 ·obtain⟨c1,c2⟩:=c
  subst c2;obtain⟨E',rfl⟩:∃E',E=E'+1:=⟨E - 1,(Nat.succ_pred c1).symm⟩
  have e0:(E'+1)*4503599627370496+4503599627370496 - 1=E'*4503599627370496+9007199254740991:=by clear hD q1 q2 h2 s2 z c1;omega
  rw [e0,jbB (by decide) (.inr (by decide)),QH]
  left
  rcases h2 with h | h
  ·exact absurd h c1
  ·rw [<-qB] at h hD
   exact jbi hD h
 ·clear h2
  have c3:1<=q:=by clear s2 hD;omega
  have e0:E*4503599627370496+q - 1=E*4503599627370496+(q - 1):=by clear hD q1 q2 s2 z c;omega
  have c4:E=0\/4503599627370496<=q - 1:=by clear hD s2 z e0;omega
  have c5:q - 1<9007199254740992:=by clear hD s2 z e0 c4 q2 c;omega
  rw [e0,jbB c5 c4,QH]
  have e:(4*(q - 1)+2)*(den*2 ^ E)+2*(den*2 ^ E)=2*(2*q*(den*2 ^ E)):=by
   have e1:4*(q - 1)+2+2=2*(2*q):=by clear s2 hD c4 c5 e0 z c q2;omega
   rw [<-Nat.add_mul,e1,Nat.mul_assoc]
  exact jbS e s2
theorem jdu {X den E q:Nat}(hD:0<den*2 ^ E)(q1:q<=9007199254740992)(q2:E=0\/4503599627370496<=q)(h1:X<den*2 ^ E*9007199254740992)
  (s1:2*X<(2*q+1)*(den*2 ^ E)\/(2*X=(2*q+1)*(den*2 ^ E)/\q % 2=0)) :
  4*X<mid (E*4503599627370496+q)*den\/(4*X=mid (E*4503599627370496+q)*den/\q % 2=0):=by
 by_cases c:q=9007199254740992
 ·subst c
  have e0:E*4503599627370496+9007199254740992=(E+1)*4503599627370496+4503599627370496:=by clear hD q1 q2 h1 s1;omega
  rw [e0,jbB (by decide) (.inr (Nat.le_refl _)),QH,<-qB]
  left
  exact Y0 hD h1
 ·have c5:q<9007199254740992:=Nat.lt_of_le_of_ne q1 c
  rw [jbB c5 q2,QH]
  have e:(4*q+2)*(den*2 ^ E)=2*((2*q+1)*(den*2 ^ E)):=by
   have e1:4*q+2=2*(2*q+1):=by clear hD q1 q2 h1 s1 c c5;omega
   rw [e1,Nat.mul_assoc]
  rw [e];exact Y4 s1
theorem jjd {num den E:Nat}(hd:0<den)(h1:num*T74<den*2 ^ E*9007199254740992)(h2:E=0\/den*2 ^ E*4503599627370496<=num*T74) :
  Over num den (E*4503599627370496+rnd (num*T74) (den*2 ^ E))/\Z1 num den (E*4503599627370496+rnd (num*T74) (den*2 ^ E)):=by
 have hD:0<den*2 ^ E:=Nat.mul_pos hd (Nat.pow_pos (by decide));have q1:=jdI h1
 have q2:E=0\/4503599627370496<=rnd (num*T74) (den*2 ^ E):=by
  rcases h2 with h | h
  ·exact .inl h
  ·exact .inr (jeB hD h)
 obtain⟨s1,s2⟩:=jg2 (num*T74) (den*2 ^ E) hD;unfold Over Z1;rw [jjB];generalize num*T74=X at *;generalize rnd X (den*2 ^ E)=q at *;rw [jjD]
 constructor
 ·by_cases z:E*4503599627370496+q=0
  ·exact .inl z
  ·exact .inr (jfo hD q1 q2 h2 s2 z)
 ·exact jdu hD q1 q2 h1 s1
theorem ja2 {num den r:Nat}(hd:0<den)(h:Q7 num den r):r<=9218868437227405312/\Over num den r/\(r<9218868437227405312->Z1 num den r):=by
 obtain⟨E,h1,h2,h3⟩:=jg4 hd h;obtain⟨s1,s2⟩:=jjd hd h1 h2;generalize E*4503599627370496+rnd (num*T74) (den*2 ^ E)=R at *;refine⟨by omega,?_,?_⟩
 ·by_cases c:R<=9218868437227405312
  ·rw [h3,Nat.min_eq_right c]
   exact s1
  ·have e:r=9218868437227405312:=by omega
   rw [e]
   right
   have m:=Nat.mul_le_mul_right den (jda (show 9218868437227405312 - 1<=R - 1 by omega))
   have m2:mid (R - 1)*den<=num*T76:=by
    rcases s1 with s | s | s
    ·omega
    ·omega
    ·omega
   generalize num*T76=X at *;generalize mid (9218868437227405312 - 1)*den=Y at *;generalize mid (R - 1)*den=Z at *;omega
 ·intro hr
  rw [h3,Nat.min_eq_right (by omega)];exact s2
theorem Yu {num den r s:Nat}(hd:0<den)(hu:Z1 num den r)(ho:Over num den s):s<=r:=by
 by_cases c:s<=r
 ·exact c
 ·exfalso
  have m:=Nat.mul_le_mul_right den (jda (show r<=s - 1 by omega));unfold Over Z1 at *
  by_cases c2:s=r+1
  ·subst c2
   rw [show r+1 - 1=r by omega] at ho;generalize num*T76=X at *;generalize mid r*den=Y at *;omega
  ·have m2:=Nat.mul_lt_mul_of_pos_right (jjK (show r<s - 1 by omega)) hd
   generalize num*T76=X at *;generalize mid r*den=Y at *;generalize mid (s - 1)*den=Z at *;omega
theorem jbX {num den r:Nat}(hd:0<den)(hr:r<9218868437227405312)(ho:Over num den r)(hu:Z1 num den r):Q7 num den r:=by
 obtain⟨s,h⟩:=Xd num den hd;obtain⟨h1,h2,h3⟩:=ja2 hd h;have l1:=Yu hd hu h2;have l2:=Yu hd (h3 (by omega)) ho;have e:s=r:=by omega
 rw [<-e];exact h
def c80:Nat:=1080
def wF:Nat:=16*5 ^ c80
def T10:Nat:=10 ^ c80
theorem jbw (n:Nat):(10:Nat) ^ n=2 ^ n*5 ^ n:=Nat.mul_pow 2 5 n
theorem jkd:2 ^ c80=T76*16:=by
 have e:c80=c74+6:=rfl;rw [e,Nat.pow_add];unfold T76 T74;generalize 2 ^ c74=T;omega
theorem jkk:T76*wF=T10:=by
 unfold wF T10;rw [jbw,jkd,Nat.mul_assoc]
theorem Yr:0<wF:=Nat.mul_pos (by decide) (Nat.pow_pos (by decide))
theorem jgs (x:Nat){b c:Nat}(h:1080=b+c):x*T10=x*10 ^ b*10 ^ c:=by
 have e:c80=b+c:=h;unfold T10;rw [e,Nat.pow_add,Nat.mul_assoc]
def fX (r:Nat):Nat:=JV r*wF
def fH (r:Nat):Nat:=mid r*wF
def fL (r:Nat):Nat:=mid (r - 1)*wF
def ze (r x:Nat):Prop:=(fL r<x/\x<fH r)\/(r % 2=0/\fL r<=x/\x<=fH r)
theorem jdd {m num den x:Nat}(hd:0<den)(hx:num*T10=x*den):(m*den<num*T76↔m*wF<x)/\(m*den=num*T76↔m*wF=x)/\(num*T76<m*den↔x<m*wF):=by
 rw [<-jkk,<-Nat.mul_assoc] at hx;have e:∀y,y*den*wF=y*wF*den:=fun y=>by rw [Nat.mul_assoc,Nat.mul_comm den,Nat.mul_assoc]
 have hw:=Yr;generalize num*T76=N at *
 have l1:m*den<N↔m*wF<x:=by
  rw [<-Nat.mul_lt_mul_right hw,hx,e];exact Nat.mul_lt_mul_right hd
 have l2:N<m*den↔x<m*wF:=by
  rw [<-Nat.mul_lt_mul_right hw,hx,e];exact Nat.mul_lt_mul_right hd
 exact⟨l1,by omega,l2⟩
theorem jgf {num den r x:Nat}(hd:0<den)(h0:0<r)(hr:r<9218868437227405312)(hx:num*T10=x*den):Q7 num den r↔ze r x:=by
 obtain⟨a1,a2,a3⟩:=jdd (m:=mid (r - 1)) hd hx;obtain⟨b1,b2,b3⟩:=jdd (m:=mid r) hd hx
 have key:Over num den r/\Z1 num den r↔ze r x:=by
  unfold Over Z1 ze fL fH;rw [a1,a2,b3,eq_comm (a:=num*T76),b2];generalize mid (r - 1)*wF=A;generalize mid r*wF=B;omega
 constructor
 ·intro h
  obtain⟨_,h2,h3⟩:=ja2 hd h;exact key.1 ⟨h2,h3 hr⟩
 ·intro h
  obtain⟨h2,h3⟩:=key.2 h;exact jbX hd hr h2 h3
theorem Jg (r:Nat)(h:0<r):fL r<fX r/\fX r<fH r:=by
 unfold fL fX fH;have h1:=zw (r - 1);rw [show r - 1+1=r by omega] at h1;have h2:=Jz (r - 1);have h3:=Jz r;have h4:=Je r;have h5:=Je (r - 1);exact⟨Nat.mul_lt_mul_of_pos_right (by omega) Yr,Nat.mul_lt_mul_of_pos_right (by omega) Yr⟩
theorem ZP (r:Nat)(h:0<r):ze r (fX r):=.inl (Jg r h)
def jw (X j:Nat):Nat:=X / 10 ^ j*10 ^ j
def jV (X j:Nat):Nat:=if jw X j=X then jw X j else jw X j+10 ^ j
def JH (X j:Nat):Prop:=jV X j - X<X - jw X j\/(jV X j - X=X - jw X j/\X / 10 ^ j % 2=1)
def Good (r j:Nat):Prop:=ze r (jw (fX r) j)\/ze r (jV (fX r) j)
def Jm (r j p:Nat):Prop :=
 (¬ze r (jw (fX r) j)/\ze r (jV (fX r) j)/\p=jV (fX r) j)\/
 (ze r (jw (fX r) j)/\¬ze r (jV (fX r) j)/\p=jw (fX r) j)\/
 (ze r (jw (fX r) j)/\ze r (jV (fX r) j)/\((JH (fX r) j/\p=jV (fX r) j)\/(¬JH (fX r) j/\p=jw (fX r) j)))
def Qf (r j p:Nat):Prop:=10 ^ j<=fX r/\Jm r j p/\∀i,j<i->10 ^ i<=fX r->¬Good r i
theorem ja1 {r j p:Nat}(h:Jm r j p):Good r j:=by unfold Jm Good at *;rcases h with h | h | h<;>simp_all
theorem jab {r j p:Nat}(h:Jm r j p):ze r p:=by
 unfold Jm at h
 rcases h with ⟨_,h,rfl⟩ | ⟨h,_,rfl⟩ | ⟨h1,h2,⟨_,rfl⟩ | ⟨_,rfl⟩⟩<;>assumption
theorem jcE {r j p q:Nat}(h:Jm r j p)(k:Jm r j q):p=q:=by
 unfold Jm at h k
 rcases h with ⟨a,b,rfl⟩ | ⟨a,b,rfl⟩ | ⟨a,b,⟨c,rfl⟩ | ⟨c,rfl⟩⟩<;>rcases k with ⟨a',b',rfl⟩ | ⟨a',b',rfl⟩ | ⟨a',b',⟨c',rfl⟩ | ⟨c',rfl⟩⟩<;>first | rfl | contradiction
theorem jc4 {r j p i q:Nat}(h:Qf r j p)(k:Qf r i q):p=q:=by
 obtain⟨h1,h2,h3⟩:=h;obtain⟨k1,k2,k3⟩:=k
 rcases Nat.lt_trichotomy i j with c | c | c
 ·exact absurd (ja1 h2) (k3 j c h1)
 ·subst c;exact jcE h2 k2
 ·exact absurd (ja1 k2) (h3 i c k1)
theorem zG (X j:Nat):jw X j<=X:=Nat.div_mul_le_self _ _
theorem Zh (X j:Nat):X<jw X j+10 ^ j:=by
 unfold jw;have:=Nat.div_add_mod X (10 ^ j);have h:=Nat.mod_lt X (show 0<10 ^ j from Nat.pow_pos (by omega));rw [Nat.mul_comm];omega
theorem QC (r:Nat):jM r<9007199254740992:=by unfold jM;split<;>omega
theorem jgj (r:Nat)(h:0<r):step (r - 1)=step r\/(step r=2*step (r - 1)/\jM r=4503599627370496):=by
 unfold step jM
 by_cases c:r % 4503599627370496=0
 ·by_cases c1:r / 4503599627370496=1
  ·left;rw [c1,show(r - 1) / 4503599627370496=0 by omega]
  ·right
   rw [if_neg (by omega),c,show r / 4503599627370496 - 1=((r - 1) / 4503599627370496 - 1)+1 by omega,Nat.pow_succ];exact⟨by rw [Nat.mul_comm],rfl⟩
 ·left
  congr 2
  omega
theorem wide {r:Nat}(h:0<r):fX r<(fH r - fL r)*10000000000000000:=by
 unfold fX fH fL;have hw:=Yr;rw [<-Nat.sub_mul,Nat.mul_assoc,Nat.mul_comm wF,<-Nat.mul_assoc];refine Nat.mul_lt_mul_of_pos_right ?_ hw
 have h1:=zw (r - 1);rw [show r - 1+1=r by omega] at h1;have h2:=Jz (r - 1);have h3:=Jz r;have e:mid r - mid (r - 1)=2*step r+2*step (r - 1):=by omega
 rw [e];have m:=QC r;have s:=Je r;have e2:JV r=4*(jM r*step r):=by unfold JV;rw [Nat.mul_assoc]
 rw [e2];clear e e2 h1 h2 h3
 rcases jgj r h with d | ⟨d1,d2⟩
 ·rw [d]
  have:=Nat.mul_lt_mul_of_pos_right m s;generalize jM r*step r=Z at *;omega
 ·rw [d2]
  omega
theorem jaz {r i:Nat}(h:0<r)(hi:10 ^ i*10000000000000000<=fX r):Good r i:=by
 by_cases g:Good r i
 ·exact g
 ·exfalso
  have w:=wide h;have b:=Jg r h;have l1:=zG (fX r) i;have l2:=Zh (fX r) i;unfold Good jV at g
  by_cases c:jw (fX r) i=fX r
  ·rw [c] at g
   exact g (.inl (ZP r h))
  ·rw [if_neg c] at g
   unfold ze at g;generalize 10 ^ i=T at *;generalize jw (fX r) i=A at *;generalize fX r=X at *;generalize fL r=L at *;generalize fH r=H at *;omega
theorem jD (j:Nat):0<(10:Nat) ^ j:=Nat.pow_pos (by omega)
theorem QZ {d t j m:Nat}(h:d*10 ^ t=m*10 ^ j)(hd:d % 10≠0):j<=t:=by
 by_cases c:j<=t
 ·exact c
 ·exfalso
  obtain⟨e,rfl⟩:∃e,j=t+(e+1):=⟨j - t - 1,by omega⟩
  rw [Nat.pow_add,<-Nat.mul_assoc,Nat.mul_comm m,Nat.mul_assoc,Nat.mul_comm (10 ^ t)] at h;have h1:=Nat.eq_of_mul_eq_mul_right (jD t) h;rw [Nat.pow_succ,<-Nat.mul_assoc] at h1;omega
theorem jec {d t e s:Nat}(h:d*10 ^ t=e*10 ^ s)(hd:d % 10≠0)(he:e % 10≠0):d=e/\t=s:=by
 have a:=QZ h hd;have b:=QZ h.symm he;have c:t=s:=by omega
 subst c;exact⟨Nat.eq_of_mul_eq_mul_right (jD t) h,rfl⟩
theorem Y7 {r j p:Nat}(h:Jm r j p):∃m,p=m*10 ^ j/\m<=fX r / 10 ^ j+1:=by
 have e1:∃m,jw (fX r) j=m*10 ^ j/\m<=fX r / 10 ^ j+1:=⟨_,rfl,by omega⟩
 have e2:∃m,jV (fX r) j=m*10 ^ j/\m<=fX r / 10 ^ j+1:=by
  unfold jV;split
  ·exact e1
  ·refine⟨fX r / 10 ^ j+1,?_,Nat.le_refl _⟩
   rw [Nat.add_mul,Nat.one_mul];rfl
 unfold Jm at h
 rcases h with ⟨_,h,rfl⟩ | ⟨h,_,rfl⟩ | ⟨h1,h2,⟨_,rfl⟩ | ⟨_,rfl⟩⟩<;>assumption
theorem Xv {r j p d t:Nat}(h0:0<r)(hb:Qf r j p)(hp:d*10 ^ t=p)(hd:d % 10≠0):d<100000000000000000:=by
 by_cases c:d<100000000000000000
 ·exact c
 ·exfalso
  obtain⟨h1,h2,h3⟩:=hb;obtain⟨m,rfl,hm⟩:=Y7 h2;have jt:=QZ hp hd
  have dm:d<=m:=by
   obtain⟨e,rfl⟩:∃e,t=j+e:=⟨t - j,by omega⟩
   rw [Nat.pow_add,Nat.mul_comm (10 ^ j),<-Nat.mul_assoc] at hp;have:=Nat.eq_of_mul_eq_mul_right (jD j) hp;rw [<-this];exact Nat.le_mul_of_pos_right _ (jD e)
  have cf:100000000000000000<=fX r / 10 ^ j:=by omega
  have big:=(Nat.le_div_iff_mul_le (jD j)).1 cf;have e10:(10:Nat) ^ (j+1)=10*10 ^ j:=by rw [Nat.pow_succ,Nat.mul_comm]
  have g:=jaz (i:=j+1) h0 (by rw [e10];generalize (10:Nat) ^ j=T at *;omega);exact h3 (j+1) (by omega) (by rw [e10];generalize (10:Nat) ^ j=T at *;omega) g
def Qa (N:Nat):Nat:=(N*1262611+3166228440) / 4194304
def jbE (N:Nat):Bool:=decide (10 ^ Qa N<=2 ^ N*5 ^ c80/\2 ^ N*5 ^ c80<10 ^ (Qa N+1))
def Zd (k:Nat):Nat->Bool
 | 0=>true
 | n+1=>jbE (k+n) && Zd k n
theorem JE {k:Nat}:∀n,Zd k n=true->∀i,i<n->jbE (k+i)=true
 | 0,_,i,hi=>by omega
 | n+1,h,i,hi=>by
  unfold Zd at h;rw [Bool.and_eq_true] at h
  by_cases c:i=n
  ·rw [c];exact h.1
  ·exact JE n h.2 i (by omega)
theorem fits1:Zd 6 500=true:=by decide +kernel
theorem fits2:Zd 506 500=true:=by decide +kernel
theorem jkj:Zd 1006 500=true:=by decide +kernel
theorem jke:Zd 1506 598=true:=by decide +kernel
theorem jha {N:Nat}(h1:6<=N)(h2:N<2104):10 ^ Qa N<=2 ^ N*5 ^ c80/\2 ^ N*5 ^ c80<10 ^ (Qa N+1):=by
 have h:jbE N=true:=by
  by_cases a:N<506
  ·have:=JE _ fits1 (N - 6) (by omega)
   rwa [show 6+(N - 6)=N by omega] at this
  ·by_cases b:N<1006
   ·have:=JE _ fits2 (N - 506) (by omega)
    rwa [show 506+(N - 506)=N by omega] at this
   ·by_cases c:N<1506
    ·have:=JE _ jkj (N - 1006) (by omega)
     rwa [show 1006+(N - 1006)=N by omega] at this
    ·have:=JE _ jke (N - 1506) (by omega)
     rwa [show 1506+(N - 1506)=N by omega] at this
 exact of_decide_eq_true h
theorem jj4 (r E:Nat)(hs:step r=2 ^ E):fX r=jM r*(2 ^ (E+6)*5 ^ c80):=by
 unfold fX JV wF;rw [hs,Nat.pow_add];generalize 2 ^ E=T;generalize 5 ^ c80=F;generalize jM r=m;have e:(2:Nat) ^ 6=64:=rfl;rw [e,Nat.mul_assoc 4 m T,Nat.mul_mul_mul_comm 4 (m*T) 16 F,Nat.mul_comm T 64,Nat.mul_assoc 64 T F,Nat.mul_left_comm m 64,Nat.mul_assoc m T F]
theorem jic {r E b:Nat}(hs:step r=2 ^ E)(hb1:2 ^ b<=jM r)(hb2:jM r<2 ^ (b+1))(hE:E<=2045)(hb:b<=52) :
  10 ^ (Qa (b+E+6))<=fX r/\fX r<2*10 ^ (Qa (b+E+6)+1):=by
 obtain⟨h1,h2⟩:=jha (N:=b+E+6) (by omega) (by omega);rw [jj4 r E hs];rw [Nat.add_assoc b,Nat.pow_add,Nat.mul_assoc] at h1 h2;rw [Nat.pow_succ] at hb2;generalize 2 ^ (E+6)*5 ^ c80=F at *;rw [Nat.add_assoc b]
 constructor
 ·exact Nat.le_trans h1 (Nat.mul_le_mul_right _ hb1)
 ·have a1:jM r*F<=2 ^ b*2*F:=Nat.mul_le_mul_right _ (by omega)
  have a2:2 ^ b*2*F=2*(2 ^ b*F):=by rw [Nat.mul_comm (2 ^ b),Nat.mul_assoc]
  omega
theorem jaS {N D Y P:Nat}(hD:0<D)(hP:0<P)(h:N*P=Y*D):N / D=Y / P/\(N % D=0↔Y % P=0):=by
 constructor
 ·rw [<-Nat.mul_div_mul_right N D hP,h,Nat.mul_comm D P,Nat.mul_div_mul_right _ _ hD]
 ·have e:N % D*P=Y % P*D:=by rw [<-Nat.mul_mod_mul_right,h,Nat.mul_comm D P,Nat.mul_mod_mul_right]
  constructor
  ·intro h0
   rw [h0,Nat.zero_mul] at e
   rcases Nat.mul_eq_zero.1 e.symm with k | k<;>omega
  ·intro h0
   rw [h0,Nat.zero_mul] at e
   rcases Nat.mul_eq_zero.1 e with k | k<;>omega
def Xs (r c:Nat):Nat:=fL r / 10 ^ c+(if r % 2=1\/fL r % 10 ^ c≠0 then 1 else 0)
def JJ (r c:Nat):Nat:=fH r / 10 ^ c - (if r % 2=1/\fH r % 10 ^ c=0 then 1 else 0)
theorem Z4 (Y P x:Nat)(hP:0<P):(x*P<Y↔x<Y / P\/(x=Y / P/\Y % P≠0))/\(x*P=Y↔x=Y / P/\Y % P=0):=by
 have e:=Nat.div_add_mod Y P;have l:=Nat.mod_lt Y hP;generalize Y / P=q at *;generalize Y % P=s at *
 rcases Nat.lt_trichotomy x q with c | c | c
 ·have h:=Nat.mul_le_mul_right P (show x+1<=q by omega)
  rw [Nat.add_mul,Nat.one_mul,Nat.mul_comm q] at h;omega
 ·subst c
  rw [Nat.mul_comm x];omega
 ·have h:=Nat.mul_le_mul_right P (show q+1<=x by omega)
  rw [Nat.add_mul,Nat.one_mul,Nat.mul_comm q] at h;omega
theorem XQ {r c x:Nat}(h0:0<r)(hx:x*10 ^ c<=fX r):x<Xs r c↔¬ze r (x*10 ^ c):=by
 obtain⟨a1,a2⟩:=Z4 (fL r) (10 ^ c) x (jD c);obtain⟨b1,b2⟩:=Jg r h0;unfold ze Xs;generalize x*10 ^ c=y at *;generalize fL r / 10 ^ c=q at *;generalize fL r % 10 ^ c=s at *;generalize fL r=L at *;generalize fH r=H at *;generalize fX r=X at *;split<;>omega
theorem ZK {r c x:Nat}(h0:0<r)(hx:fX r<=x*10 ^ c):x<=JJ r c↔ze r (x*10 ^ c):=by
 obtain⟨a1,a2⟩:=Z4 (fH r) (10 ^ c) x (jD c);obtain⟨b1,b2⟩:=Jg r h0;unfold ze JJ;have hx0:x≠0:=by intro e;subst e;rw [Nat.zero_mul] at hx;omega
 generalize x*10 ^ c=y at *;generalize fH r / 10 ^ c=q at *;generalize fH r % 10 ^ c=s at *;generalize fL r=L at *;generalize fH r=H at *;generalize fX r=X at *;split<;>omega
theorem X0 {X c u a:Nat}(ha:a=X / 10 ^ c):jw X (c+u)=a / 10 ^ u*10 ^ u*10 ^ c/\X / 10 ^ (c+u)=a / 10 ^ u:=by
 have e:X / 10 ^ (c+u)=a / 10 ^ u:=by rw [ha,Nat.pow_add,Nat.div_div_eq_div_mul]
 refine⟨?_,e⟩;unfold jw;rw [e,Nat.pow_add,Nat.mul_comm (10 ^ c),Nat.mul_assoc]
theorem jc5 {X c u a:Nat}(ha:a=X / 10 ^ c):X=jw X (c+u)+(a % 10 ^ u*10 ^ c+X % 10 ^ c)/\X % 10 ^ c<10 ^ c:=by
 have e1:=Nat.div_add_mod X (10 ^ c);have e2:=Nat.div_add_mod a (10 ^ u);refine⟨?_,Nat.mod_lt _ (jD c)⟩;rw [(X0 ha).1];rw [<-ha] at e1;have e3:a*10 ^ c=a / 10 ^ u*10 ^ u*10 ^ c+a % 10 ^ u*10 ^ c:=by rw [<-Nat.add_mul,Nat.mul_comm (a / 10 ^ u),e2]
 rw [Nat.mul_comm (10 ^ c)] at e1;omega
theorem jcC (u:Nat)(hu:1<=u):10 ^ u / 2*2=10 ^ u:=by
 obtain⟨v,rfl⟩:∃v,u=v+1:=⟨u - 1,by omega⟩
 rw [Nat.pow_succ];omega
theorem jfz {r c u a:Nat}(h0:0<r)(ha:a=fX r / 10 ^ c)(hu:1<=u)(hd:¬a / 10 ^ u*10 ^ u<Xs r c)
  (hc:JJ r c<a / 10 ^ u*10 ^ u+10 ^ u\/a % 10 ^ u<10 ^ u / 2\/(a % 10 ^ u=10 ^ u / 2/\fX r % 10 ^ c=0/\a / 10 ^ u % 2=0)) :
  Jm r (c+u) (a / 10 ^ u*10 ^ u*10 ^ c):=by
 obtain⟨e1,e2⟩:=X0 (u:=u) ha;obtain⟨e3,e4⟩:=jc5 (u:=u) ha;have le:=zG (fX r) (c+u);rw [XQ h0 (by rw [<-e1];exact le),<-e1,Classical.not_not] at hd;rw [<-e1];unfold Jm
 by_cases s:jw (fX r) (c+u)=fX r
 ·right;right
  have eu:jV (fX r) (c+u)=jw (fX r) (c+u):=by unfold jV;rw [if_pos s]
  rw [eu];refine⟨hd,hd,?_⟩
  by_cases t:JH (fX r) (c+u)
  ·exact .inl ⟨t,rfl⟩
  ·exact .inr ⟨t,rfl⟩
 ·have eu:jV (fX r) (c+u)=jw (fX r) (c+u)+10 ^ (c+u):=by unfold jV;rw [if_neg s]
  have eu2:jV (fX r) (c+u)=(a / 10 ^ u*10 ^ u+10 ^ u)*10 ^ c:=by rw [eu,e1,Nat.add_mul,Nat.pow_add,Nat.mul_comm (10 ^ c)]
  have lt:=Zh (fX r) (c+u);rw [<-eu] at lt
  by_cases t:ze r (jV (fX r) (c+u))
  ·right;right
   refine⟨hd,t,.inr ⟨?_,rfl⟩⟩;rw [eu2,<-ZK h0 (by rw [<-eu2];omega)] at t
   have hc':a % 10 ^ u<10 ^ u / 2\/(a % 10 ^ u=10 ^ u / 2/\fX r % 10 ^ c=0/\a / 10 ^ u % 2=0):=by
    rcases hc with k | k
    ·omega
    ·exact k
   have hh:=jcC u hu
   have ep:10 ^ (c+u)=2*(10 ^ u / 2*10 ^ c):=by
    rw [Nat.pow_add,Nat.mul_comm (10 ^ c)];rw [<-Nat.mul_assoc,Nat.mul_comm 2,hh]
   unfold JH;rw [e2]
   rcases hc' with k | ⟨k1,k2,k3⟩
   ·have k2:=Nat.mul_le_mul_right (10 ^ c) (show a % 10 ^ u+1<=10 ^ u / 2 by omega)
    rw [Nat.add_mul,Nat.one_mul] at k2;generalize a % 10 ^ u*10 ^ c=A at *;generalize 10 ^ u / 2*10 ^ c=B at *;generalize fX r % 10 ^ c=C at *;generalize jw (fX r) (c+u)=D at *;generalize jV (fX r) (c+u)=U at *;generalize fX r=X at *;clear hd ha e1 e2 eu2 hh t;generalize 10 ^ (c+u)=G at *;generalize 10 ^ c=K at *;omega
   ·rw [k1] at e3
    generalize 10 ^ u / 2*10 ^ c=B at *;generalize fX r % 10 ^ c=C at *;generalize jw (fX r) (c+u)=D at *;generalize jV (fX r) (c+u)=U at *;generalize fX r=X at *;clear hd ha e1 e2 eu2 hh t;generalize 10 ^ (c+u)=G at *;generalize 10 ^ c=K at *;omega
  ·right;left
   exact⟨hd,t,rfl⟩
theorem jjo {r c u a:Nat}(ha:a=fX r / 10 ^ c)(s:jw (fX r) (c+u)≠fX r):jV (fX r) (c+u)=(a / 10 ^ u*10 ^ u+10 ^ u)*10 ^ c:=by
 obtain⟨e1,e2⟩:=X0 (u:=u) ha;have eu:jV (fX r) (c+u)=jw (fX r) (c+u)+10 ^ (c+u):=by unfold jV;rw [if_neg s]
 rw [eu,e1,Nat.add_mul,Nat.pow_add,Nat.mul_comm (10 ^ c)]
theorem jjm {r c u:Nat}(s:jw (fX r) (c+u)≠fX r):fX r<=jV (fX r) (c+u):=by
 have lt:=Zh (fX r) (c+u);unfold jV;rw [if_neg s];omega
theorem jhL {r c u a:Nat}(h0:0<r)(ha:a=fX r / 10 ^ c)(hd:a / 10 ^ u*10 ^ u<Xs r c) :
  (a / 10 ^ u*10 ^ u+10 ^ u<=JJ r c->Jm r (c+u) ((a / 10 ^ u*10 ^ u+10 ^ u)*10 ^ c))/\(¬a / 10 ^ u*10 ^ u+10 ^ u<=JJ r c->¬Good r (c+u)):=by
 obtain⟨e1,e2⟩:=X0 (u:=u) ha;have le:=zG (fX r) (c+u);rw [XQ h0 (by rw [<-e1];exact le),<-e1] at hd;have s:jw (fX r) (c+u)≠fX r:=fun e=>hd (by rw [e];exact ZP r h0)
 have eu:=jjo ha s;have ge:=jjm s;rw [ZK h0 (by rw [<-eu];exact ge),<-eu]
 constructor
 ·intro t
  left
  exact⟨hd,t,rfl⟩
 ·intro t g
  exact g.elim hd t
theorem jiw {r c u a:Nat}(h0:0<r)(ha:a=fX r / 10 ^ c)(hu:1<=u)(hd:¬a / 10 ^ u*10 ^ u<Xs r c)(h1:a / 10 ^ u*10 ^ u+10 ^ u<=JJ r c)(h2:10 ^ u / 2<=a % 10 ^ u)
  (h3:¬(a % 10 ^ u=10 ^ u / 2/\fX r % 10 ^ c=0/\a / 10 ^ u % 2=0)):Jm r (c+u) ((a / 10 ^ u*10 ^ u+10 ^ u)*10 ^ c):=by
 obtain⟨e1,e2⟩:=X0 (u:=u) ha;obtain⟨e3,e4⟩:=jc5 (u:=u) ha;have le:=zG (fX r) (c+u);have hh:=jcC u hu;have hp:=jD u;have hc:=jD c
 have s:jw (fX r) (c+u)≠fX r:=by
  intro e;have:a % 10 ^ u*10 ^ c=0:=by omega
  rcases Nat.mul_eq_zero.1 this with k | k<;>omega
 rw [XQ h0 (by rw [<-e1];exact le),<-e1,Classical.not_not] at hd;have eu:=jjo ha s;have ge:=jjm s;rw [ZK h0 (by rw [<-eu];exact ge),<-eu] at h1;rw [<-eu]
 right;right
 refine⟨hd,h1,.inl ⟨?_,rfl⟩⟩;have ea:jV (fX r) (c+u)=jw (fX r) (c+u)+10 ^ (c+u):=by unfold jV;rw [if_neg s]
 have ep:10 ^ (c+u)=2*(10 ^ u / 2*10 ^ c):=by
  rw [Nat.pow_add,Nat.mul_comm (10 ^ c)];rw [<-Nat.mul_assoc,Nat.mul_comm 2,hh]
 unfold JH;rw [e2]
 by_cases k:a % 10 ^ u=10 ^ u / 2
 ·rw [k] at e3
  generalize 10 ^ u / 2*10 ^ c=B at *;generalize fX r % 10 ^ c=C at *;generalize jw (fX r) (c+u)=D at *;generalize jV (fX r) (c+u)=U at *;generalize fX r=X at *;clear hd ha e1 e2 eu hh h1;generalize 10 ^ (c+u)=G at *;generalize 10 ^ c=K at *;omega
 ·have k2:=Nat.mul_le_mul_right (10 ^ c) (show 10 ^ u / 2+1<=a % 10 ^ u by omega)
  rw [Nat.add_mul,Nat.one_mul] at k2;generalize a % 10 ^ u*10 ^ c=A at *;generalize 10 ^ u / 2*10 ^ c=B at *;generalize fX r % 10 ^ c=C at *;generalize jw (fX r) (c+u)=D at *;generalize jV (fX r) (c+u)=U at *;generalize fX r=X at *;clear hd ha e1 e2 eu hh h1;generalize 10 ^ (c+u)=G at *;generalize 10 ^ c=K at *;omega
open Go.RowKit
def WSl (w:World)(v:Value)(l:List Nat):Prop:=∃a cap,v=.slice a l.length cap/\l.length<=cap/\RowU w a l
def WBig (w:World)(v:Value)(n:Nat):Prop:=WSl w v (jh n)
theorem WSl.below {w w':World}{v:Value}{l:List Nat}(h:WSl w v l)(hb:Below w.heap.size w w'):WSl w' v l:=by
 obtain⟨a,cap,e,hc,hr⟩:=h;exact⟨a,cap,e,hc,hr.below hb⟩
theorem WBig.below {w w':World}{v:Value}{n:Nat}(h:WBig w v n)(hb:Below w.heap.size w w'):WBig w' v n:=WSl.below h hb
theorem jn (n:Nat):je (jh n):=by
 induction n using Nat.strongRecOn with
 | ind n ih=>
  by_cases h:n=0
  ·subst h;rw [jI];intro j hj;simp at hj
  ·rw [zB h];exact qi.2 ⟨by omega,ih _ (by omega)⟩
theorem YD (l:List Nat)(k:Nat)(h:k<l.length):l.take (k+1)=l.take k++[l.getD k 0]:=ZU l k h
open Go.RowKit
theorem JG:je []:=fun j h=>absurd h (by simp)
theorem zh {a b:List Nat}:je (a++b)↔je a/\je b:=by
 induction a with
 | nil=>simp [JG]
 | cons x a ih=>rw [List.cons_append,qi,qi,ih,and_assoc]
theorem q9 {d:Nat}(h:d<4294967296):je [d]:=qi.2 ⟨h,JG⟩
theorem qd (a b:List Nat):jc (a++b)=jc a+4294967296 ^ a.length*jc b:=by
 induction a with
 | nil=>simp [jc]
 | cons x a ih=>
  rw [List.cons_append,jc,jc,ih,List.length_cons,Nat.pow_succ];have:4294967296 ^ a.length*4294967296*jc b=4294967296*(4294967296 ^ a.length*jc b):=by rw [Nat.mul_comm (4294967296 ^ a.length),Nat.mul_assoc]
  rw [this];omega
theorem zf (d:Nat):jc [d]=d:=by simp [jc]
theorem Jb {l:List Nat}(h:je l)(k:Nat):je (l.take k):=by
 rw [<-List.take_append_drop k l,zh] at h;exact h.1
theorem jK (l:List Nat)(k:Nat):jc (l.take (k+1))=jc (l.take k)+4294967296 ^ k*l.getD k 0:=by
 by_cases h:k<l.length
 ·rw [YD l k h,qd,zf,List.length_take,Nat.min_eq_left (by omega)]
 ·have e:l.getD k 0=0:=by rw [List.getD,List.getElem?_eq_none (by omega)];rfl
  rw [e,List.take_of_length_le (by omega),List.take_of_length_le (by omega)];omega
theorem zV (l:List Nat)(d:Nat):∀j,j<l.length->jc (l.set j d)+4294967296 ^ j*l.getD j 0=jc l+4294967296 ^ j*d:=by
 induction l with
 | nil=>intro j h;simp at h
 | cons x l ih=>
  intro j h;cases j with
  | zero=>simp [jc];omega
  | succ j=>
   have:=ih j (by simpa using h);simp only [List.set_cons_succ,jc,List.getD_cons_succ,Nat.pow_succ];have e1:4294967296 ^ j*4294967296*l.getD j 0=4294967296*(4294967296 ^ j*l.getD j 0):=by rw [Nat.mul_comm (4294967296 ^ j),Nat.mul_assoc]
   have e2:4294967296 ^ j*4294967296*d=4294967296*(4294967296 ^ j*d):=by rw [Nat.mul_comm (4294967296 ^ j),Nat.mul_assoc]
   omega
theorem zc {l:List Nat}{j d:Nat}(h:je l)(hd:d<4294967296):je (l.set j d):=by
 intro i hi;rw [List.length_set] at hi
 by_cases e:i=j
 ·subst e;simp [List.getD,hi];exact hd
 ·rw [List.getD,List.getElem?_set_ne (by omega)];exact h i hi
theorem ZS (n:Nat):jc (List.replicate n 0)=0:=by
 induction n with
 | zero=>rfl
 | succ n ih=>rw [List.replicate_succ,jc,ih]
theorem J3 (n:Nat):je (List.replicate n 0):=by
 intro j hj;rw [List.length_replicate] at hj;simp [List.getD,hj]
theorem Yx {n:Nat}:jh n=[]↔n=0:=by
 constructor
 ·intro h;rw [<-ju n,h];rfl
 ·rintro rfl;exact jI
theorem zK {n:Nat}(h:n≠0):0<(jh n).length:=by
 cases e:jh n with
 | nil=>exact absurd (Yx.1 e) h
 | cons x r=>simp
theorem Zg:∀(l:List Nat),je l->l.take (jh (jc l)).length=jh (jc l)
 | [],_=>by show _=jh 0;rw [jI];simp
 | d :: r,h=>by
  obtain⟨h1,h2⟩:=qi.1 h;have ih:=Zg r h2
  by_cases h0:jc (d :: r)=0
  ·rw [h0,jI];simp
  ·rw [zB h0]
   have e1:jc (d :: r) % 4294967296=d:=by rw [jc];omega
   have e2:jc (d :: r) / 4294967296=jc r:=by rw [jc];omega
   rw [e1,e2,List.length_cons,List.take_succ_cons,ih]
theorem za {n k:Nat}(h:n<4294967296 ^ k):(jh n).length<=k:=by
 induction k generalizing n with
 | zero=>
  have:n=0:=by simpa using h
  subst this;rw [jI];simp
 | succ k ih=>
  by_cases h0:n=0
  ·subst h0;rw [jI];simp
  ·rw [zB h0,List.length_cons]
   have:n / 4294967296<4294967296 ^ k:=by
    rw [Nat.pow_succ] at h;exact Nat.div_lt_of_lt_mul (by omega)
   have:=ih this;omega
theorem JY (n:Nat):n<4294967296 ^ (jh n).length:=by have:=Jo (jn n);rwa [ju] at this
theorem Ya {n k:Nat}(h:4294967296 ^ k<=n):k<(jh n).length:=by
 have h1:=JY n
 by_cases e:k<(jh n).length
 ·exact e
 ·have:4294967296 ^ (jh n).length<=4294967296 ^ k:=Nat.pow_le_pow_right (by omega) (by omega)
  omega
theorem jp {l:List Nat}(h:je l):(jh (jc l)).length<=l.length:=za (Jo h)
theorem ZH {m n:Nat}(h:m<=n):(jh m).length<=(jh n).length:=za (Nat.lt_of_le_of_lt h (JY n))
theorem Qj {m n:Nat}(h:(jh m).length<(jh n).length):m<n:=by
 by_cases e:m<n
 ·exact e
 ·have:=ZH (show n<=m by omega)
  omega
theorem QF {n:Nat}(h:n≠0):(jh n).getD ((jh n).length - 1) 0≠0:=by
 induction n using Nat.strongRecOn with
 | ind n ih=>
  rw [zB h]
  by_cases e:n / 4294967296=0
  ·rw [e,jI]
   simp;omega
  ·have hp:=zK e
   have e1:(n % 4294967296 :: jh (n / 4294967296)).length - 1=((jh (n / 4294967296)).length - 1)+1:=by rw [List.length_cons];omega
   rw [e1,List.getD_cons_succ];exact ih _ (by omega) e
theorem jbg:∀{l:List Nat},je l->(l=[]\/l.getD (l.length - 1) 0≠0)->jh (jc l)=l
 | [],_,_=>jI
 | d :: r,h,hl=>by
  obtain⟨h1,h2⟩:=qi.1 h
  have hr:r=[]\/r.getD (r.length - 1) 0≠0:=by
   by_cases e:r=[]
   ·exact .inl e
   ·right
    rcases hl with hl | hl
    ·cases hl
    ·have hp:0<r.length:=List.length_pos_iff.2 e
     have e1:(d :: r).length - 1=(r.length - 1)+1:=by rw [List.length_cons];omega
     rw [e1,List.getD_cons_succ] at hl;exact hl
  have ih:=jbg h2 hr
  have hne:jc (d :: r)≠0:=by
   intro e;rw [jc] at e;have e0:jc r=0:=by omega
   rw [e0,jI] at ih;subst ih
   rcases hl with hl | hl
   ·cases hl
   ·simp at hl
    omega
  rw [zB hne];have e1:jc (d :: r) % 4294967296=d:=by rw [jc];omega
  have e2:jc (d :: r) / 4294967296=jc r:=by rw [jc];omega
  rw [e1,e2,ih]
theorem Jc (l:List Nat)(k:Nat)(hs:je l):∃t,jc l=t+4294967296 ^ k*jc (l.drop k)/\t<4294967296 ^ k:=by
 refine⟨jc (l.take k),?_,?_⟩
 ·by_cases h:k<=l.length
  ·have:=qd (l.take k) (l.drop k)
   rw [List.take_append_drop,List.length_take,Nat.min_eq_left h] at this;exact this
  ·rw [List.drop_of_length_le (by omega),List.take_of_length_le (by omega)]
   simp [jc]
 ·have h1:=Jo (Jb hs k)
  have h2:4294967296 ^ (l.take k).length<=4294967296 ^ k:=Nat.pow_le_pow_right (by omega) (List.length_take_le k l);omega
theorem QD (l:List Nat)(k:Nat)(hs:je l):jc (l.drop k)=jc l / 4294967296 ^ k:=by
 obtain⟨t,e,h⟩:=Jc l k hs;have hp:0<4294967296 ^ k:=Nat.pow_pos (by omega);rw [e,Nat.add_mul_div_left _ _ hp,Nat.div_eq_of_lt h];omega
theorem QW {a b:List Nat}{k:Nat}(ha:je a)(hb:je b)(h:jc (a.drop k)<jc (b.drop k)):jc a<jc b:=by
 obtain⟨t,e1,l1⟩:=Jc a k ha;obtain⟨u,e2,l2⟩:=Jc b k hb;have:4294967296 ^ k*(jc (a.drop k)+1)<=4294967296 ^ k*jc (b.drop k):=Nat.mul_le_mul_left _ h;rw [Nat.mul_add,Nat.mul_one] at this;omega
theorem RowU.take {w:World}{a:Option Addr}{l:List Nat}(h:RowU w a l)(k:Nat):RowU w a (l.take k):=by
 intro h0;have hl:l≠[]:=fun e=>h0 (by rw [e,List.take_nil])
 obtain⟨b,o,e,hlt,hc⟩:=h hl;refine⟨b,o,e,hlt,fun j hj=>?_⟩;rw [List.length_take] at hj;rw [hc j (by omega)];simp [List.getD,show j<k by omega]
theorem RowU.cut {w:World}{a:Option Addr}{l:List Nat}(h:RowU w a l)(hs:je l):RowU w a (jh (jc l)):=by
 rw [<-Zg l hs];exact h.take _
theorem RowU.kept {w w':World}{a:Option Addr}{l:List Nat}{g:Nat}(h:RowU w a l)(hg:w.grownBy w' (some g))(hne:∀b o s,a=some ⟨b,o,s⟩->b≠g):RowU w' a l:=by
 intro h0;obtain⟨b,o,rfl,hb,hc⟩:=h h0;have hbg:=hne b o none rfl;refine⟨b,o,rfl,Nat.lt_of_lt_of_le hb hg.size,fun j hj=>?_⟩;exact hg.cell (hc j hj) (fun e=>hbg (by simpa using e))
theorem qY (w:World)(row:Option Nat):w.grownBy w row:=⟨rfl,rfl,rfl,Nat.le_refl _,fun _ _ _=>rfl⟩
theorem Qp {a b c:World}{row:Option Nat}(h:a.grownBy b row)(k:b.grownBy c row):a.grownBy c row :=
 ⟨k.os.trans h.os,k.tape.trans h.tape,k.output.trans h.output,Nat.le_trans h.size k.size,fun i hi hn=>(k.block i (Nat.lt_of_lt_of_le hi h.size) hn).trans (h.block i hi hn)⟩
theorem JZ {a b:World}{g:Nat}(h:a.grownBy b (some g))(j:Nat)(u:Value):a.grownBy (b.setCell ⟨g,j,none⟩ u) (some g) :=
 Qp h ⟨rfl,rfl,rfl,by simp [World.setCell],fun k hk hn=>Below.heap_setCell _ _ _ _ (fun e=>hn (by rw [e]))⟩
theorem jee {a b:World}{row:Option Nat}(h:a.grownBy b row)(n:Nat):a.grownBy (b.drewN n) row:=⟨h.os,h.tape,h.output,h.size,h.block⟩
theorem Ql {a b:World}{g B:Nat}(h:a.grownBy b (some g))(hB:B<=g)(hB':B<=a.heap.size):Below B a b :=
 (Below.refl _ a).grown h hB' (fun k e=>by simp at e;omega)
def Own (w:World)(g c:Nat)(l:List Nat):Prop:=w.ownsRow 0 222 1 (.slice (some ⟨g,0,none⟩) l.length c) l.length (l.map wrd)
theorem Own.cell {w:World}{g c:Nat}{l:List Nat}(h:Own w g c l)(j:Nat)(hj:j<l.length):w.cell? ⟨g,j,none⟩=some (.int .u32 ((l.getD j 0:Nat):Int)):=by
 rw [World.ownsRow.cellAt h j (by omega)];simp [wrd,List.getD,hj]
theorem Own.froz {w:World}{g c:Nat}{l:List Nat}(h:Own w g c l)(j:Nat):w.frozen? ⟨g,j,none⟩=false:=World.ownsRow.frozenAt h j
theorem Own.set {w:World}{g c:Nat}{l:List Nat}(h:Own w g c l)(j d:Nat):Own (w.setCell ⟨g,j,none⟩ (.int .u32 (d:Int))) g c (l.set j d):=by
 have:=(World.ownsRow.stored h j (.int .u32 (d:Int))).1;unfold Own;rw [List.length_set,List.map_set];exact this
theorem Own.lt {w:World}{g c:Nat}{l:List Nat}(h:Own w g c l):g<w.heap.size:=(World.ownsRow.lt h g rfl).2
theorem Own.below {w w':World}{g c:Nat}{l:List Nat}(h:Own w g c l)(hb:Below w.heap.size w w'):Own w' g c l:=jgb h hb
theorem Own.kept {w w':World}{g c r:Nat}{l:List Nat}(h:Own w g c l)(hg:w.grownBy w' (some r))(hne:g≠r):Own w' g c l :=
 World.ownsRow.kept h hg (.inr (by simpa [Value.ownBlock] using hne))
theorem Own.row {w:World}{g c:Nat}{l:List Nat}(h:Own w g c l):RowU w (some ⟨g,0,none⟩) l:=fun _=>⟨g,0,rfl,h.lt,fun j hj=>by rw [Nat.zero_add];exact h.cell j hj⟩
theorem Own.cap {w:World}{g c:Nat}{l:List Nat}(h:Own w g c l):l.length<=c:=by
 obtain⟨a,cap,hv,hc,_⟩:=jc0 h;cases hv
 exact hc
theorem Own.mid {w:World}{g c:Nat}{P M S:List Nat}(h:Own w g c (P++(M++S))):RowU w (some ⟨g,P.length,none⟩) M:=fun _=>⟨g,P.length,rfl,h.lt,fun j hj=>by
 rw [h.cell (P.length+j) (by simp;omega)];simp [List.getD,List.getElem?_append_right,List.getElem?_append_left hj]⟩
theorem Own.cellMid {w:World}{g c:Nat}{P M S:List Nat}(h:Own w g c (P++(M++S)))(j:Nat)(hj:j<M.length):w.cell? ⟨g,P.length+j,none⟩=some (.int .u32 ((M.getD j 0:Nat):Int)):=by
 rw [h.cell (P.length+j) (by simp;omega)];simp [List.getD,List.getElem?_append_right,List.getElem?_append_left hj]
theorem Own.setMid {w:World}{g c:Nat}{P M S:List Nat}(h:Own w g c (P++(M++S)))(j d:Nat)(hj:j<M.length):Own (w.setCell ⟨g,P.length+j,none⟩ (.int .u32 (d:Int))) g c (P++(M.set j d++S)):=by
 have:=h.set (P.length+j) d;rwa [List.set_append_right _ _ (by omega),Nat.add_sub_cancel_left,List.set_append_left _ _ hj] at this
theorem jay {D M:List Nat}{k:Nat}(hD:D.length=k)(hk:k<M.length):(D++M.drop k).getD k 0=M.getD k 0:=by
 subst hD;simp [List.getD,List.getElem?_append_right]
theorem jbb {D M:List Nat}{k d:Nat}(hD:D.length=k)(hk:k<M.length):(D++M.drop k).set k d=(D++[d])++M.drop (k+1):=by
 subst hD;rw [List.set_append_right _ _ (Nat.le_refl _),Nat.sub_self,List.drop_eq_getElem_cons hk,List.set_cons_zero,List.append_assoc];rfl
theorem jaH {D M:List Nat}{k:Nat}(hD:D.length=k)(hk:k<=M.length):(D++M.drop k).length=M.length:=by
 rw [List.length_append,List.length_drop];omega
theorem Zl {w:World}{B g n:Nat}(h:w.ownsRow B 222 1 (.slice (some ⟨g,0,none⟩) n n) n (madeCells #[.int .u32 0] n).toList):Own w g n (List.replicate n 0):=by
 have e:(madeCells #[Value.int .u32 0] n).toList=(List.replicate n 0).map wrd:=by
  rw [toList_madeCells_one];simp [wrd]
 rw [e] at h;refine⟨by simp,?_⟩
 rcases h.2 with h' | ⟨g',cap,cur,e1,_,r⟩
 ·simp at h'
 ·right
  refine⟨g',cap,cur,by rw [List.length_replicate];exact e1,Nat.zero_le _,?_⟩;rw [List.length_replicate];exact r
open Go.RowKit
theorem Qt {n k:Nat}(h:n<4294967296 ^ k):(jh n).length<=k:=by
 induction k generalizing n with
 | zero=>
  have:n=0:=by simpa using h
  subst this;rw [jI];simp
 | succ k ih=>
  by_cases h0:n=0
  ·subst h0;rw [jI];simp
  ·rw [zB h0,List.length_cons]
   have:n / 4294967296<4294967296 ^ k:=by
    rw [Nat.pow_succ] at h;exact Nat.div_lt_of_lt_mul (by omega)
   have:=ih this;omega
theorem Z9 (n:Nat):n<4294967296 ^ (jh n).length:=by have:=Jo (jn n);rwa [ju] at this
theorem QR (m n:Nat):(jh (m*n)).length<=(jh m).length+(jh n).length:=by
 apply Qt
 rw [Nat.pow_add];exact Nat.mul_lt_mul'' (Z9 m) (Z9 n)
def Form (l:List UInt8):Prop:=l≠[]/\qp l/\(l.getD 0 0≠48\/l.length=1)
theorem Zq {b e:Nat}(hb:b<4294967296):(jh (b ^ e)).length<=e+1:=by
 apply Qt
 have h1:b ^ e<=4294967296 ^ e:=Nat.pow_le_pow_left (Nat.le_of_lt hb) _;have h2:4294967296 ^ e<4294967296 ^ (e+1):=Nat.pow_lt_pow_right (by omega) (by omega);omega
theorem jcj {n:Nat}(h:n≠0):Jd n≠[]:=by rw [j4 h];simp
theorem jds {n:Nat}(h:n≠0):(Jd n).getD 0 0≠48:=by
 induction n using Nat.strongRecOn with
 | ind n ih=>
  rw [j4 h]
  by_cases h1:n / 10=0
  ·rw [h1,j7]
   intro e
   have e2:(UInt8.ofNat (48+n % 10)).toNat=48:=by
    have e3:UInt8.ofNat (48+n % 10)=48:=by simpa using e
    rw [e3];rfl
   rw [qc _ (by omega)] at e2;omega
  ·have hne:=jcj h1
   have:=ih (n / 10) (by omega) h1;cases hc:Jd (n / 10) with
   | nil=>exact absurd hc hne
   | cons x r=>rw [hc] at this;simpa using this
theorem jJ (n:Nat):Form (js n):=by
 unfold js
 by_cases h:n=0
 ·rw [if_pos h]
  refine⟨by simp,fun b hb=>?_,.inr rfl⟩;rw [List.mem_singleton] at hb;subst hb
  decide
 ·rw [if_neg h]
  exact⟨jcj h,jgz n,.inl (jds h)⟩
theorem zg (n:Nat):dec (js n)=n:=by
 unfold js
 by_cases h:n=0
 ·rw [if_pos h,h];rfl
 ·rw [if_neg h,jgJ]
theorem Xp {n k:Nat}(h:n<10 ^ k):(Jd n).length<=k:=by
 induction k generalizing n with
 | zero=>
  have:n=0:=by simpa using h
  subst this;rw [j7];simp
 | succ k ih=>
  by_cases h0:n=0
  ·subst h0;rw [j7];simp
  ·rw [j4 h0,List.length_append,List.length_singleton]
   have:n / 10<10 ^ k:=by rw [Nat.pow_succ] at h;exact Nat.div_lt_of_lt_mul (by omega)
   have:=ih this;omega
theorem jO {n k:Nat}(h:n<10 ^ k)(hk:1<=k):(js n).length<=k:=by
 unfold js
 by_cases h0:n=0
 ·rw [if_pos h0];simpa using hk
 ·rw [if_neg h0];exact Xp h
open Go.RowKit
theorem zQ (w:World)(b:Nat)(hb:b<18446744073709551616) :
  Calls Tryz.prog 87 #[.int .u64 b] w fun e w'=>e=.returned (.tuple #[.int .u64 (jo b).1,.int .i64 (jo b).2.1,.int .i64 (jo b).2.2])/\w'=w:=by
 have n1:(b:Int) % 4503599627370496=((b % 4503599627370496:Nat):Int):=by omega
 have n2:(b:Int) / 4503599627370496 % 2048=((b / 4503599627370496 % 2048:Nat):Int):=by omega
 have h1:b % 4503599627370496<4503599627370496:=by omega
 have h2:b / 4503599627370496 % 2048<2048:=by omega
 unfold jo;generalize b % 4503599627370496=f at *;generalize b / 4503599627370496 % 2048=e at *
 by_cases c1:e=2047
 ·rw [if_pos c1]
  subst c1
  by_cases c2:f=0
  ·rw [if_pos c2]
   subst c2
   go_enter Tryz.func87,Tryz.ntmps87
   go_wp2
   go_ret3
   exact⟨rfl,rfl⟩
  ·rw [if_neg c2]
   have c3:((f:Int) == 0)=false:=beq_false_of_ne (by omega)
   go_enter Tryz.func87,Tryz.ntmps87
   go_wp2
   go_ret3
   exact⟨rfl,rfl⟩
 ·rw [if_neg c1]
  have c4:((e:Int) == 2047)=false:=beq_false_of_ne (by omega)
  by_cases c2:e=0
  ·rw [if_pos c2]
   subst c2
   go_enter Tryz.func87,Tryz.ntmps87
   go_wp2
   go_ret3
   refine⟨?_,rfl⟩;rw [<-n1];rfl
  ·rw [if_neg c2]
   have c3:((e:Int) == 0)=false:=beq_false_of_ne (by omega)
   go_enter Tryz.func87,Tryz.ntmps87
   go_wp2
   go_ret3
   refine⟨?_,rfl⟩
   first | rfl | (congr 3<;>omega)
open Go.RowKit
theorem jfx (u:World):Calls Tryz.prog 105 #[.int .u64 1] u fun e w'=>∃v,e=.returned v/\Lies w' v 1/\ja4 u.heap.size v/\Below u.heap.size u w':=QL 1 u (by decide)
def sc:Nat:=1080
theorem jd5 (u:World):Calls Tryz.prog 53 #[.int .u64 5,.int .i64 1080] u fun e w'=>∃v,e=.returned v/\Lies w' v (5 ^ sc)/\Below u.heap.size u w':=jaD u 5 sc (by decide) (by decide)
theorem jea (u:World)(N:Nat)(hN:N<=50000):Calls Tryz.prog 53 #[.int .u64 2,.int .i64 N] u fun e w'=>∃v,e=.returned v/\Lies w' v (2 ^ N)/\Below u.heap.size u w':=jaD u 2 N (by decide) hN
theorem jch:(dig (5 ^ sc)).length<=5401:=ZC (b:=5) (e:=sc) (by decide)
theorem zL (w:World)(m E:Nat)(e:Int)(hm:m<18446744073709551616)(hE:e+1080=(E:Int))(hE2:E<=3000) :
  Calls Tryz.prog 148 #[.int .u64 m,.int .i64 e] w fun r w'=>∃v,r=.returned v/\Lies w' v (m*5 ^ sc*2 ^ E)/\Below w.heap.size w w':=by
 have q0:(dig m).length<=5:=jN (Nat.lt_of_lt_of_le hm (by decide));have q1:=jch;have q2:=JB m (5 ^ sc);have q3:=ZC (b:=2) (e:=E) (by decide);generalize hF:5 ^ sc=F at *;have KF:∀u:World,Hid _:=fun u=>jb (jd5 u)
 rw [hF] at KF;clear hF
 go_enter Tryz.func148,Tryz.ntmps148
 go_wp2_with fail
 refine(QL m w hm).mono ?_
 rintro e w1 ⟨v1,rfl,hL1,_,b1⟩
 go_wp2_with fail
 refine(ja (KF w1)).mono ?_
 rintro e w2 ⟨v2,rfl,hL2,b2⟩
 go_wp2_with fail
 refine(jbV _ _ _ m F (by omega) (by omega) (hL1.below b2) hL2).mono ?_
 rintro e w3 ⟨v3,rfl,hL3,_,b3⟩
 have bw:=b1.trans ((b2.trans (b3.mono b2.size)).mono b1.size);clear hL1 hL2 b1 b2 b3 KF
 go_wp2_with fail
 refine(jea w3 E (by omega)).mono ?_
 rintro e w4 ⟨v4,rfl,hL4,b4⟩
 have hL3':=hL3.below b4;have bw4:=bw.trans (b4.mono bw.size);clear hL3 b4 bw
 go_wp2_with fail
 refine(jbV _ _ _ (m*F) (2 ^ E) (by omega) (by omega) hL3' hL4).mono ?_
 rintro e w5 ⟨v5,rfl,hL5,_,b5⟩
 go_wp2;go_ret;exact⟨_,rfl,hL5,bw4.trans (b5.mono bw4.size)⟩
open Go.RowKit
def qe (n:Nat):ByteArray:=⟨(List.replicate n 48).toArray⟩
theorem jdM (n:Nat):qe n++(⟨#[48]⟩:ByteArray)=qe (n+1):=by
 apply ByteArray.ext
 rw [ByteArray.data_append];apply Array.toList_inj.1
 simp [qe,List.replicate_succ']
theorem qG (n:Nat):(qe n).size=n:=by
 show(List.replicate n (48:UInt8)).toArray.size=n
 simp
theorem zE (w:World)(n:Nat)(hn:n<=100000) :
  Calls Tryz.prog 90 #[.int .i64 n] w fun e w'=>e=.returned (.string (qe n))/\Below w.heap.size w w':=by
 go_enter Tryz.func90,Tryz.ntmps90
 go_wp2
 go_loopw [3,5] (fun vs vk wr=>∃(k:Nat) (t:ByteArray),vs=.string t/\Hid (t=qe k)/\vk=.int .i64 k/\k<=n/\t.size=k/\Below w.heap.size w wr) (fun _ vk _=>n - (intOf vk).toNat)
 case atStart=>exact⟨0,⟨#[]⟩,rfl,rfl,rfl,Nat.zero_le _,rfl,Below.refl _ _⟩
 case round=>
  obtain⟨k,t,rfl,ht,rfl,hk,hts,hbw⟩:=hrel
  by_cases hlt:k<n
  ·have h2:Hid (t++(⟨#[48]⟩:ByteArray)=qe (k+1)):=by show _=_;rw [ht.out,jdM]
   have hs2:(t++(⟨#[48]⟩:ByteArray)).size=k+1:=by rw [h2.out,qG]
   have i1:(k:Int)<(n:Int):=by omega
   go_wp2;go_roundw
   case rel=>exact⟨k+1,t++(⟨#[48]⟩:ByteArray),rfl,h2,by go_num,by omega,hs2,hbw⟩
   case measure=>simp only [intOf];omega
  ·have hkn:k=n:=by omega
   have HE:Hid (t=qe n):=by show _=_;rw [ht.out,hkn]
   have i1:¬(k:Int)<(n:Int):=by omega
   clear hkn ht;go_wp2;go_ret;rw [HE.out];exact⟨rfl,hbw⟩
theorem jex (x:Nat)(w:World) :
  (convert 147 9 (.slice (some ⟨w.heap.size,0,none⟩) 1 1)).run Tryz.prog (w.alloc (.cells #[.int .u8 (48+(x:Int) % 10)] 5))=.ok (.string ⟨#[UInt8.ofNat (48+x % 10)]⟩) (w.alloc (.cells #[.int .u8 (48+(x:Int) % 10)] 5)):=jcf x w
theorem jgE {n:Nat}(h0:n≠0)(h:n<10):Jd n=[UInt8.ofNat (48+n % 10)]:=by
 rw [j4 h0,Nat.div_eq_of_lt h,j7];rfl
theorem jg7 {n:Nat}(h:n<10):(⟨#[UInt8.ofNat (48+n % 10)]⟩:ByteArray)=⟨(js n).toArray⟩:=by
 unfold js
 by_cases h0:n=0
 ·subst h0;rfl
 ·rw [if_neg h0,jgE h0 h]
theorem jf3 {n:Nat}(h:10<=n):(⟨(js (n / 10)).toArray⟩:ByteArray)++(⟨#[UInt8.ofNat (48+n % 10)]⟩:ByteArray)=⟨(js n).toArray⟩:=by
 have h1:n / 10≠0:=by omega
 have h2:n≠0:=by omega
 apply ByteArray.ext
 rw [ByteArray.data_append];apply Array.toList_inj.1
 unfold js;rw [if_neg h1,if_neg h2,j4 h2];simp
theorem jc1 (n:Nat):(Jd n).length<=n:=by
 induction n using Nat.strongRecOn with
 | ind n ih=>
  by_cases h0:n=0
  ·subst h0;rw [j7];simp
  ·rw [j4 h0,List.length_append,List.length_singleton]
   have:=ih (n / 10) (by omega);omega
theorem Yj {n:Nat}(h:n<=1000000):(⟨(js n).toArray⟩:ByteArray).size<=1000001:=by
 show(js n).toArray.size<=_
 rw [List.size_toArray];unfold js
 by_cases h0:n=0
 ·rw [if_pos h0];simp
 ·rw [if_neg h0]
  have:=jc1 n;omega
theorem ja3 (n:Nat):∀(w:World),n<=1000000->
  Calls Tryz.prog 152 #[.int .i64 (-(n:Int))] w fun e w'=>e=.returned (.string ⟨(js n).toArray⟩)/\Below w.heap.size w w':=by
 induction n using Nat.strongRecOn with
 | ind n ih=>
  intro w hn;have q1:Int.tmod (-(n:Int)) 10 = -((n % 10:Nat):Int):=by rw [Int.neg_tmod,Int.tmod_eq_emod_of_nonneg (by omega)];simp
  have q2:Int.tdiv (-(n:Int)) 10 = -((n / 10:Nat):Int):=by rw [Int.neg_tdiv];simp
  have hb:Below w.heap.size w (w.alloc (.cells #[.int .u8 (48+(n:Int) % 10)] 5)):=(Below.refl _ w).alloc (Nat.le_refl _) _;have hcv:=jex n w;have q3:((n % 10:Nat):Int)=(n:Int) % 10:=by omega
  by_cases h10:n<10
  ·have i1:(-10:Int) < -(n:Int):=by omega
   rw [jg7 h10] at hcv
   go_enter Tryz.func152,Tryz.ntmps152
   go_wp2;go_ret;exact⟨rfl,hb⟩
  ·have i1:¬(-10:Int) < -(n:Int):=by omega
   have K:=jb (ih (n / 10) (by omega) (w.alloc (.cells #[.int .u8 (48+(n:Int) % 10)] 5)) (by omega));have HE:=jb (jf3 (show 10<=n by omega));have hl1:=jb (Yj (show n / 10<=1000000 by omega));clear ih;have hs2:(⟨#[UInt8.ofNat (48+n % 10)]⟩:ByteArray).size=1:=rfl;generalize (⟨#[UInt8.ofNat (48+n % 10)]⟩:ByteArray)=t2 at *
   go_enter Tryz.func152,Tryz.ntmps152
   go_wp2_with fail
   refine(ja K).mono ?_
   rintro e w2 ⟨rfl,b2⟩
   have hl2:(⟨(js (n / 10)).toArray⟩:ByteArray).size<=1000001:=ja hl1;generalize (⟨(js (n / 10)).toArray⟩:ByteArray)=t1 at *;go_wp2;go_ret;rw [<-ja HE];exact⟨rfl,hb.trans (b2.mono hb.size)⟩
theorem jdF (w:World)(n:Nat)(hn:n<=1000000) :
  Calls Tryz.prog 91 #[.int .i64 n] w fun e w'=>e=.returned (.string ⟨(js n).toArray⟩)/\Below w.heap.size w w':=by
 have K:=jb (ja3 n w hn);have i1:¬(n:Int)<0:=by omega
 go_enter Tryz.func91,Tryz.ntmps91
 go_wp2_with fail
 refine(ja K).mono ?_
 rintro e w1 ⟨rfl,b1⟩
 go_wp2;go_ret;exact⟨rfl,b1⟩
theorem jbv (w:World)(n:Nat)(hn:n<=1000000)(hn1:1<=n) :
  Calls Tryz.prog 91 #[.int .i64 (-(n:Int))] w fun e w'=>e=.returned (.string ((⟨#[45]⟩:ByteArray)++⟨(js n).toArray⟩))/\Below w.heap.size w w':=by
 have K:=jb (ja3 n w hn);have i1 : -(n:Int)<0:=by omega
 have hl:=Yj hn;generalize (⟨(js n).toArray⟩:ByteArray)=t at *
 go_enter Tryz.func91,Tryz.ntmps91
 go_wp2_with fail
 refine(ja K).mono ?_
 rintro e w1 ⟨rfl,b1⟩
 go_wp2;go_ret;exact⟨rfl,b1⟩
end bigs
end Go.Proofs.YtnbfnjhbmeocfaaGreatDoor
