/- Of our texts, what this claim reaches. -/
import Derived.Test.YtnbfnjhbmeocfaaGreatDoorPstBC
import Derived.Test.YtnbfnjhbmeocfaaGreatDoorPstBI
set_option linter.unusedVariables false
namespace Go.Proofs.YtnbfnjhbmeocfaaGreatDoor
namespace bigs
open Go.RowKit
theorem jeJ (z:Nat)(l:List UInt8):dec (List.replicate z 48++l)=dec l:=by
 induction z with
 | zero=>rfl
 | succ z ih=>rw [List.replicate_succ,List.cons_append,JI,ih];simp
theorem je6 (z:Nat):qp (List.replicate z 48):=by
 intro b hb;rw [List.eq_of_mem_replicate hb]
 decide
theorem jbY (x:Int):Exp (Lib.itoa x) x:=by
 unfold Lib.itoa;split
 ·rename_i h
  refine .inl ⟨_,rfl,?_,?_⟩
  ·rw [jL];exact⟨(jJ _).1,(jJ _).2.1⟩
  ·rw [jL,zg];omega
 ·rename_i h
  refine .inr (.inr ⟨?_,?_⟩)
  ·rw [jL];exact⟨(jJ _).1,(jJ _).2.1⟩
  ·rw [jL,zg];omega
theorem jfc {l:List UInt8}{k:Nat}(h1:1<=k)(h2:l≠[]):l.take k≠[]:=by
 cases l with
 | nil=>exact absurd rfl h2
 | cons a r=>obtain⟨j,rfl⟩:∃j,k=j+1:=⟨k - 1,by omega⟩;simp
theorem jf4 {l:List UInt8}{k:Nat}(h1:1<=k):(l.take k).getD 0 0=l.getD 0 0:=by
 cases l with
 | nil=>simp
 | cons a r=>obtain⟨j,rfl⟩:∃j,k=j+1:=⟨k - 1,by omega⟩;simp
theorem jb7 {d:Nat}(hd:d≠0)(hn:(js d).length<=17)(ten:Int):∃(W P:List UInt8) (x:Int) (k:Nat),Num (qo (js d) (((js d).length:Int)+ten)) W P x/\dec (W++P)=d*10 ^ k/\x - (P.length:Int)=ten - (k:Int):=by
 obtain⟨f1,f2,f3⟩:=jJ d;have f4:=jel hd;have hv:=zg d;generalize js d=D at *;have n1:1<=D.length:=List.length_pos_iff.2 f1;obtain⟨p,hp⟩:∃p:Int,p=(D.length:Int)+ten:=⟨_,rfl⟩
 rw [<-hp];unfold qo
 by_cases cA:p < -3\/17<p
 ·rw [if_pos cA]
  unfold Qg
  by_cases one:D.drop 1=[]
  ·rw [if_pos one]
   have hl:D.length=1:=by
    have:=congrArg List.length one;rw [List.length_drop] at this;simp at this;omega
   have ht:D.take 1=D:=List.take_of_length_le (by omega);rw [ht,List.nil_append];refine⟨D,[],p - 1,0,⟨101 :: Lib.itoa (p - 1),rfl,⟨f1,f2⟩,.inl hl,.inr (.inr ⟨_,rfl,rfl,jbY _⟩)⟩,by rw [List.append_nil,hv];simp,?_⟩;simp;omega
  ·rw [if_neg one]
   have hl:(D.take 1).length=1:=by rw [List.length_take];omega
   refine⟨D.take 1,D.drop 1,p - 1,0,⟨46 :: (D.drop 1++101 :: Lib.itoa (p - 1)),by simp,⟨jfc (by decide) f1,Jf f2 1⟩,.inl hl,.inr (.inl ⟨_,rfl,⟨one,J4 f2 1⟩,jbY _⟩)⟩,by rw [List.take_append_drop,hv];simp,?_⟩;rw [List.length_drop];omega
 ·rw [if_neg cA]
  by_cases cB:p<=0
  ·rw [if_pos cB]
   refine⟨[48],List.replicate (-p).toNat 48++D,0,0,⟨46 :: (List.replicate (-p).toNat 48++D),rfl,⟨by simp,by intro b hb;simp at hb;rw [hb];decide⟩,.inl rfl,.inl ⟨rfl,⟨by simp [f1],qN.2 ⟨je6 _,f2⟩⟩,rfl⟩⟩,?_,?_⟩
   ·rw [List.singleton_append,JI,jeJ,hv];simp
   ·rw [List.length_append,List.length_replicate];omega
  ·rw [if_neg cB]
   by_cases cC:p<(D.length:Int)
   ·rw [if_pos cC]
    have hk:1<=p.toNat:=by omega
    refine⟨D.take p.toNat,D.drop p.toNat,0,0,⟨46 :: D.drop p.toNat,rfl,⟨jfc hk f1,Jf f2 _⟩,.inr (by rw [jf4 hk];exact f4),.inl ⟨rfl,⟨?_,J4 f2 _⟩,rfl⟩⟩,by rw [List.take_append_drop,hv];simp,?_⟩
    ·intro e
     have:=congrArg List.length e;rw [List.length_drop] at this;simp at this;omega
    ·rw [List.length_drop];omega
   ·rw [if_neg cC]
    obtain⟨z,hz⟩:∃z:Nat,z=(p - (D.length:Int)).toNat:=⟨_,rfl⟩
    rw [<-hz];refine⟨D++List.replicate z 48,[48],0,z+1,⟨[46,48],by simp,⟨by simp [f1],qN.2 ⟨f2,je6 _⟩⟩,.inr ?_,.inl ⟨rfl,⟨by simp,by intro b hb;simp at hb;rw [hb];decide⟩,rfl⟩⟩,?_,?_⟩
    ·cases D with
     | nil=>exact absurd rfl f1
     | cons a r=>exact f4
    ·rw [zv,zv,hv,List.length_replicate]
     have e1:dec (List.replicate z 48)=0:=by
      have:=jeJ z [];rw [List.append_nil] at this;rw [this];rfl
     rw [e1,show dec [48]=0 by rfl,Nat.pow_succ,<-Nat.mul_assoc];rfl
    ·simp
     omega
theorem jb4 {d:Nat}(ten:Int):∃c r,qo (js d) (((js d).length:Int)+ten)=c :: r/\48<=c.toNat/\c.toNat<=57:=by
 obtain⟨f1,f2,f3⟩:=jJ d;generalize js d=D at *;cases D with
 | nil=>exact absurd rfl f1
 | cons a r=>
  have ha:=f2 a (by simp);unfold qo;split
  ·unfold Qg
   exact⟨a,_,rfl,ha⟩
  ·split
   ·exact⟨48,_,rfl,by decide,by decide⟩
   ·split
    ·rename_i h1 h2 h3
     obtain⟨k,hk⟩:∃k,((((a :: r:List UInt8).length:Int))+ten).toNat=k+1:=⟨((((a :: r:List UInt8).length:Int))+ten).toNat - 1,by omega⟩
     rw [hk];exact⟨a,_,rfl,ha⟩
    ·exact⟨a,_,rfl,ha⟩
theorem jfq {d:Nat}{ten:Int}(hn:(js d).length<=17)(h1 : -1080<=ten)(h2:ten<=3000):(qo (js d) (((js d).length:Int)+ten)).length<=29:=by
 have n1:1<=(js d).length:=List.length_pos_iff.2 (jJ d).1;generalize js d=D at *;unfold qo;split
 ·have h:=Qs ((D.length:Int)+ten - 1) (by omega) (by omega)
  unfold Qg;rw [List.length_append,List.length_append,List.length_take,List.length_cons];split
  ·simp;omega
  ·rw [List.length_cons,List.length_drop];omega
 ·split
  ·rw [List.length_append,List.length_append,List.length_replicate];simp;omega
  ·split
   ·rw [List.length_append,List.length_take,List.length_cons,List.length_drop];omega
   ·rw [List.length_append,List.length_append,List.length_replicate];simp;omega
theorem jiL {b:Nat}(hb:b<18446744073709551616):((jo b).2.2=1->b % 9223372036854775808=9218868437227405312)/\((jo b).2.2=0->b % 9223372036854775808<9218868437227405312)/\((jo b).2.2=0->((jo b).1=0↔b % 9223372036854775808=0)):=by
 unfold jo
 by_cases c:b / 4503599627370496 % 2048=2047
 ·rw [if_pos c]
  by_cases c2:b % 4503599627370496=0
  ·rw [if_pos c2]
   exact⟨fun _=>by omega,fun h=>absurd h (by decide),fun h=>absurd h (by decide)⟩
  ·rw [if_neg c2]
   exact⟨fun h=>absurd h (by decide),fun h=>absurd h (by decide),fun h=>absurd h (by decide)⟩
 ·rw [if_neg c]
  by_cases c3:b / 4503599627370496 % 2048=0
  ·rw [if_pos c3]
   exact⟨(fun h=>by simp at h),fun _=>by omega,fun _=>by simp only;omega⟩
  ·rw [if_neg c3]
   exact⟨(fun h=>by simp at h),fun _=>by omega,fun _=>by simp only;omega⟩
theorem jbD {b:Nat}{t:List UInt8}(ht:∃c r,t=c :: r/\c≠45):∃sg,jjP (sgL b++t) t sg/\(b<18446744073709551616->b=sg+b % 9223372036854775808):=by
 unfold sgL jjP
 by_cases h:9223372036854775808<=b
 ·rw [if_pos h]
  exact⟨_,.inl ⟨rfl,rfl⟩,fun _=>by omega⟩
 ·rw [if_neg h]
  obtain⟨c,r,rfl,hc⟩:=ht;exact⟨0,.inr ⟨fun r' e=>by injection e with e1 _;exact hc e1,rfl,rfl⟩,fun _=>by omega⟩
theorem jjb (b:Nat):(sgL b).length<=1:=by unfold sgL;split<;>simp
theorem jhe:qp [48]:=by
 intro b hb;simp at hb;rw [hb]
 decide
theorem X5 {b:Nat}(hb:b<18446744073709551616){T:List UInt8}(h:jv b T):T.length<=30/\(((jo b).2.2=2/\T=[110,97,110]/\QE T 9221120237041090561 0)\/((jo b).2.2≠2/\QE T b 0)):=by
 obtain⟨k1,k2,k3⟩:=jiL hb;have sl:=jjb b
 rcases h with ⟨a,rfl⟩ | ⟨a,rfl⟩ | ⟨a,a2,rfl⟩ | ⟨a,a2,d,j,ten,h1,h2,h3,rfl⟩
 ·exact⟨by decide,.inl ⟨a,rfl,.inr (.inl ⟨by decide,rfl,rfl,rfl⟩)⟩⟩
 ·obtain⟨sg,s1,s2⟩:=jbD (b:=b) (t:=[105,110,102]) ⟨_,_,rfl,by decide⟩
  refine⟨by rw [List.length_append];simp;omega,.inr ⟨by rw [a];decide,.inr (.inr ⟨by rw [List.length_append];simp;omega,?_,_,sg,s1,.inl ⟨rfl,by rw [<-k1 a];exact s2 hb,rfl⟩⟩)⟩⟩;unfold sgL;split<;>decide
 ·obtain⟨sg,s1,s2⟩:=jbD (b:=b) (t:=[48,46,48]) ⟨_,_,rfl,by decide⟩
  have r0:=(k3 a).1 a2;refine⟨by rw [List.length_append];simp;omega,.inr ⟨by rw [a];decide,.inr (.inr ⟨by rw [List.length_append];simp;omega,?_,_,sg,s1,.inr ⟨by decide,.inl ⟨[48],[48],0,0,⟨[46,48],rfl,⟨by simp,jhe⟩,.inl rfl,.inl ⟨rfl,⟨by simp,jhe⟩,rfl⟩⟩,.inl ⟨rfl,rfl⟩,.inr ⟨by decide,?_,rfl⟩⟩⟩⟩)⟩⟩
  ·unfold sgL
   split<;>decide
  ·have:=s2 hb;omega
 ·have hi:=k2 a
  have hd:d≠0:=by omega
  have h0:0<b % 9223372036854775808:=Nat.pos_of_ne_zero (fun e=>a2 ((k3 a).2 e));have h17:=Xv h0 h3 rfl h1;have L17:(js d).length<=17:=jO h17 (by decide);have t2:ten<=3000:=by have:=XO hi h3 hd;omega
  have ll:=jfq (d:=d) (ten:=ten) L17 h2 t2;obtain⟨c,q,e,c1,c2⟩:=jb4 (d:=d) ten;have cne:c≠45:=by rintro rfl;exact absurd c1 (by decide)
  obtain⟨sg,s1,s2⟩:=jbD (b:=b) (t:=qo (js d) (((js d).length:Int)+ten)) ⟨c,q,e,cne⟩;have ND:jbf d ten (b % 9223372036854775808):=(jey h0 hi h2 hd).2 (jab h3.2.1);obtain⟨W,P,x,k,n1,n2,n3⟩:=jb7 hd L17 ten;refine⟨by rw [List.length_append];omega,.inr ⟨by rw [a];decide,.inr (.inr ⟨by rw [List.length_append];omega,?_,_,sg,s1,.inr ⟨?_,.inl ⟨W,P,x,b % 9223372036854775808,n1,?_,.inr ⟨by omega,s2 hb,rfl⟩⟩⟩⟩)⟩⟩
  ·rw [e]
   unfold sgL;split
   ·intro z
    injection z with z1 _;exact absurd z1 (by decide)
   ·intro z
    injection z with z1 _;rw [z1] at c2;exact absurd c2 (by decide)
  ·rw [e]
   intro z;injection z with z1 _;rw [z1] at c2;exact absurd c2 (by decide)
  ·rw [n2,n3]
   exact jcZ ND
end bigs
end Go.Proofs.YtnbfnjhbmeocfaaGreatDoor
