/- Of our texts, what this claim reaches. -/
import Derived.Test.YtnbfnjhbmeocfaaGreatDoorProg
import Derived.Test.YtnbfnjhbmeocfaaGreatDoorPstAA
import Derived.WalkKit
import Derived.WalkSmall
import Derived.OwnWalk
import Derived.BigCall
import Derived.Maps.AppendAt
import Derived.Laws.OwnMore
import Derived.Below
set_option linter.unusedVariables false
set_option maxHeartbeats 4000000
set_option maxRecDepth 100000
namespace Go.Proofs.YtnbfnjhbmeocfaaGreatDoor
namespace bigs
open Go.RowKit
theorem jb {p:Prop}(h:p):Hid p:=h
theorem ja {p:Prop}(h:Hid p):p:=h
theorem Zp:(Tryz.prog.info? 3).map (fun i=>(i.zero,i.size,i.bytes))=some (some (.int .i64 0),1,8):=by kernel_rfl
def num (n:Nat):Value:=.int .i64 (n:Int)
def Row (w:World)(a:Option Addr)(l:List Nat):Prop :=
 l≠[]->∃b o,a=some ⟨b,o,none⟩/\b<w.heap.size/\∀j,j<l.length->w.cell? ⟨b,o+j,none⟩=some (.int .i64 ((l.getD j 0:Nat):Int))
def Lies (w:World)(v:Value)(n:Nat):Prop:=∃a cap,v=.slice a (dig n).length cap/\(dig n).length<=cap/\Row w a (dig n)
theorem Row.below {w w':World}{a:Option Addr}{l:List Nat}(h:Row w a l)(hb:Below w.heap.size w w'):Row w' a l:=by
 intro h0;obtain⟨b,o,e,hlt,hc⟩:=h h0;refine⟨b,o,e,Nat.lt_of_lt_of_le hlt hb.size,fun j hj=>?_⟩;rw [hb.cell (p:=⟨b,o+j,none⟩) hlt];exact hc j hj
theorem Lies.below {w w':World}{v:Value}{n:Nat}(h:Lies w v n)(hb:Below w.heap.size w w'):Lies w' v n:=by
 obtain⟨a,cap,e,hc,hr⟩:=h;exact⟨a,cap,e,hc,hr.below hb⟩
theorem Row.take {w:World}{a:Option Addr}{l:List Nat}(h:Row w a l)(k:Nat):Row w a (l.take k):=by
 intro h0;have hl:l≠[]:=fun e=>h0 (by rw [e,List.take_nil])
 obtain⟨b,o,e,hlt,hc⟩:=h hl;refine⟨b,o,e,hlt,fun j hj=>?_⟩;rw [List.length_take] at hj;rw [hc j (by omega)];simp [List.getD,show j<k by omega]
theorem Zt {w:World}{base:Nat}{v:Value}{l:List Nat}(h:w.ownsRow base 3 1 v l.length (l.map num)) :
  ∃a cap,v=.slice a l.length cap/\l.length<=cap/\Row w a l:=by
 have h':=h
 rcases h.2 with ⟨rfl,h0⟩ | ⟨g,cap,cur,rfl,_,hg,hcap,_⟩
 ·have:l=[]:=List.eq_nil_of_length_eq_zero h0
  subst this;exact⟨none,0,rfl,by simp,fun h=>absurd rfl h⟩
 ·refine⟨_,cap,rfl,hcap,fun _=>⟨g,0,rfl,(Array.getElem?_eq_some_iff.1 hg).1,fun j hj=>?_⟩⟩
  rw [Nat.zero_add,h'.cellAt j (by omega)];simp [num,List.getD,List.getElem?_eq_getElem hj]
theorem JU {w:World}{base e n:Nat}{v:Value}{xs:List Value}(h:w.ownsRow base e 1 v n xs):∀g,v.ownBlock=some g->base<=g:=fun g hg=>(h.lt g hg).1
def ja4 (B:Nat)(v:Value):Prop:=∀g,v.ownBlock=some g->B<=g
def jkm:Value->Nat
 | .slice _ n _=>n
 | _=>0
theorem ZF (w:World)(a:Option Addr)(l:List Nat)(cap j:Nat)(hl:l.length<=1152921504606846975)(h:Row w a l) :
  Calls Tryz.prog 107 #[.slice a l.length cap,.int .i64 j] w fun e w'=>e=.returned (.int .i64 ((l.getD j 0:Nat):Int))/\w'=w:=by
 by_cases hj:j<l.length
 ·obtain⟨b,o,rfl,hb,hc⟩:=h (by intro e;rw [e] at hj;simp at hj)
  have c:=hc j hj;clear hc;generalize l.getD j 0=x at *
  go_enter Tryz.func107,Tryz.ntmps107
  go_wp2;go_ret;exact⟨rfl,rfl⟩
 ·have e:l.getD j 0=0:=by rw [List.getD,List.getElem?_eq_none (by omega)];rfl
  rw [e]
  go_enter Tryz.func107,Tryz.ntmps107
  go_wp2;go_ret;exact⟨rfl,rfl⟩
theorem XB (w:World)(a:Option Addr)(l:List Nat)(cap:Nat)(hl:l.length<=1152921504606846975)(hcap:l.length<=cap)(h:Row w a l)(hs:jH l) :
  Calls Tryz.prog 108 #[.slice a l.length cap] w fun e w'=>∃v,e=.returned v/\Lies w' v (val l)/\v.ownBlock=(Value.slice a l.length cap).ownBlock/\w'=w:=by
 go_enter Tryz.func108,Tryz.ntmps108
 go_wp2
 go_loopw [0] (fun v wr=>∃(k:Nat),k<=l.length/\v=.slice a k cap/\Hid (val (l.take k)=val l)/\wr=w) (fun v _=>jkm v)
 case atStart=>exact⟨l.length,Nat.le_refl _,rfl,by show val _=_;rw [List.take_length],rfl⟩
 case round=>
  obtain⟨k,hk,rfl,hv,rfl⟩:=hrel;cases k with
  | zero=>
   have hfin:Lies wr (.slice a 0 cap) (val l):=by
    have e:val l=0:=by rw [<-hv.out];rfl
    rw [e];refine⟨a,cap,by rw [qC];rfl,by rw [qC];simp,?_⟩;rw [qC];exact fun h=>absurd rfl h
   have HF:=jb hfin;clear hfin hv;go_wp2;go_ret;exact⟨_,rfl,HF.out,by cases a<;>rfl,rfl⟩
  | succ m=>
   obtain⟨b,o,rfl,hb,hc⟩:=h (by intro e;rw [e] at hk;simp at hk);have c:=hc m (by omega)
   by_cases h0:l.getD m 0=0
   ·have hv2:Hid (val (l.take m)=val l):=by
     have:=QU l m (by omega);rw [h0] at this
     show val (l.take m)=val l
     rw [<-hv.out,this];omega
    rw [h0] at c;clear hc hv h0;go_wp2;go_roundw
    case rel=>exact⟨m,by omega,rfl,hv2,by trivial⟩
    case measure=>simp only [jkm];omega
   ·have hfin:Lies wr (.slice (some ⟨b,o,none⟩) (m+1) cap) (val l):=by
     have e:dig (val l)=l.take (m+1):=by
      rw [<-hv.out];apply jcg
      ·intro j hj
       rw [List.length_take] at hj;have:(l.take (m+1)).getD j 0=l.getD j 0:=by simp [List.getD,show j<m+1 by omega]
       rw [this];exact hs j (by omega)
      ·right
       rw [List.length_take,Nat.min_eq_left (by omega)];have:(l.take (m+1)).getD (m+1 - 1) 0=l.getD m 0:=by simp [List.getD]
       rw [this];exact h0
     have e2:(l.take (m+1)).length=m+1:=by rw [List.length_take];omega
     refine⟨some ⟨b,o,none⟩,cap,by rw [e,e2],by rw [e,e2];omega,?_⟩;rw [e];exact h.take (m+1)
    have HF:=jb hfin;have h0':(((l.getD m 0:Nat):Int) == 0)=false:=beq_false_of_ne (by omega);clear hfin hv hc h0;generalize l.getD m 0=x at *;go_wp2;go_ret;exact⟨_,rfl,HF.out,rfl,rfl⟩
theorem QL (n:Nat)(w:World)(hn:n<18446744073709551616) :
  Calls Tryz.prog 105 #[.int .u64 n] w fun e w'=>∃v,e=.returned v/\Lies w' v n/\ja4 w.heap.size v/\Below w.heap.size w w':=by
 obtain⟨i0,hi,hz0,hz1,hz2⟩:=info_parts Zp
 go_enter Tryz.func105,Tryz.ntmps105
 go_wp2
 go_loopw [0,3] (fun m v wr=>∃(k:Nat) (l:List Nat),k<18446744073709551616/\m=.int .u64 k/\wr.ownsRow w.heap.size 3 1 v l.length (l.map num)/\Hid (l++dig k=dig n)/\l.length<=10/\Below w.heap.size w wr) (fun m _ _=>(intOf m).toNat)
 case atStart=>exact⟨n,[],hn,rfl,World.ownsRow_nil _ _ _ _,rfl,by simp,Below.refl _ _⟩
 case round=>
  obtain⟨k,l,hk,rfl,hown,hd,hl,hbw⟩:=hrel
  by_cases h0:k=0
  ·subst h0
   have e:l=dig n:=by rw [<-hd.out,qC,List.append_nil]
   have hfr:=jb (JU hown);obtain⟨a,cap,rfl,hc,hr⟩:=Zt hown;have HF:Hid (Lies wr (.slice a l.length cap) n):=⟨a,cap,by rw [e],by rw [<-e];exact hc,by rw [<-e];exact hr⟩
   clear hd hown hr e;go_wp2;go_ret;exact⟨_,rfl,HF.out,ja hfr,hbw⟩
  ·have hd2:Hid ((l++[k % 10000])++dig (k / 10000)=dig n):=by
    show _=_
    rw [<-hd.out,Jt h0,List.append_assoc];rfl
   have hl2:l.length+1<=10:=by
    have e1:(dig n).length<=5:=jN (Nat.lt_of_lt_of_le hn (by decide));have e2:=congrArg List.length hd2.out;rw [List.length_append,List.length_append,List.length_singleton] at e2;omega
   clear hd
   go_wp2_with (at_builtin;refine wpList_append_own _ rfl _ _ 99 rfl w.heap.size 3 i0 (.int .i64 0) 1 8 Tryz.underlying99 hi hz0 hz1 hz2 rfl (by decide) _ _ _ rfl (hown.alloc _) ⟨wr.heap.size,0,none⟩ 1 1 [.int .i64 ((k % 10000:Nat):Int)] rfl rfl ?c1 ?c2 ?c3 ?c4 ?c5 ?_)
   case c1=>exact cell_one_new _ _ _
   case c2=>intro u hu;simp at hu;subst hu;rfl
   case c3=>unfold maxLen;omega
   case c4=>omega
   case c5=>have:=hbw.size;simp;omega
   intro v' w2 hown' hgrow _;have hbw2:Below w.heap.size w w2:=(hbw.alloc hbw.size _).grown hgrow (by have:=hbw.size;simp;omega) (JU hown);clear hgrow hown;go_wp2;go_roundw
   case rel=>
    refine⟨k / 10000,l++[k % 10000],by omega,by go_num,?_,hd2,by simpa using hl2,hbw2⟩;simpa [num] using hown'
   case measure=>simp only [intOf];omega
open Go.RowKit
theorem qg (l:List Nat)(k:Nat):val (l.take (k+1))=val (l.take k)+10000 ^ k*l.getD k 0:=by
 by_cases h:k<l.length
 ·exact QU l k h
 ·have e:l.getD k 0=0:=by rw [List.getD,List.getElem?_eq_none (by omega)];rfl
  rw [e,List.take_of_length_le (by omega),List.take_of_length_le (by omega)];omega
theorem jeq {l a b:List Nat}{i c:Nat}(hi:l.length=i)(h:val l+10000 ^ i*c=val (a.take i)+val (b.take i)) :
  val (l++[(c+(a.getD i 0+b.getD i 0)) % 10000])+10000 ^ (i+1)*((c+(a.getD i 0+b.getD i 0)) / 10000)=val (a.take (i+1))+val (b.take (i+1)):=by
 rw [zu,Zw,hi,qg,qg];generalize a.getD i 0=x;generalize b.getD i 0=y;have e:10000 ^ (i+1)*((c+(x+y)) / 10000)=10000 ^ i*(10000*((c+(x+y)) / 10000)):=by rw [Nat.pow_succ,Nat.mul_assoc]
 have e2:10000 ^ i*((c+(x+y)) % 10000)+10000 ^ i*(10000*((c+(x+y)) / 10000))=10000 ^ i*c+(10000 ^ i*x+10000 ^ i*y):=by
  rw [<-Nat.mul_add,Nat.mod_add_div,Nat.mul_add,Nat.mul_add]
 omega
theorem jhY (w:World)(va vb:Value)(m n:Nat)(hm:(dig m).length<=1048576)(hn:(dig n).length<=1048576)(ha:Lies w va m)(hb:Lies w vb n) :
  Calls Tryz.prog 106 #[va,vb] w fun e w'=>∃v,e=.returned v/\Lies w' v (m+n)/\ja4 w.heap.size v/\Below w.heap.size w w':=by
 obtain⟨i0,hi,hz0,hz1,hz2⟩:=info_parts Zp;obtain⟨aa,ca,rfl,hca,ra⟩:=ha;obtain⟨ab,cb,rfl,hcb,rb⟩:=hb;have sa:=qn m;have sb:=qn n;have hv:Hid (val (dig m)+val (dig n)=m+n):=by show _=_;rw [zl,zl]
 generalize dig m=A at *;generalize dig n=B at *
 go_enter Tryz.func106,Tryz.ntmps106
 go_wp2
 go_loopw [5,6,7] (fun v c i wr=>∃(k q:Nat) (l:List Nat),i=.int .i64 k/\c=.int .i64 q/\l.length=k/\q<=1/\(k<=max A.length B.length\/q=0)/\k<=max A.length B.length+1/\Hid (jH l)/\
  Hid (val l+10000 ^ k*q=val (A.take k)+val (B.take k))/\wr.ownsRow w.heap.size 3 1 v k (l.map num)/\Below w.heap.size w wr) (fun _ _ i _=>max A.length B.length+1 - (intOf i).toNat)
 case atStart=>exact⟨0,0,[],rfl,rfl,rfl,by omega,by omega,by omega,zp,by show _=_;simp [val],World.ownsRow_nil _ _ _ _,Below.refl _ _⟩
 case round=>
  obtain⟨k,q,l,rfl,rfl,hlk,hq,hkq,hkM,hsm,hval,hown,hbw⟩:=hrel
  by_cases hgo:k<A.length\/k<B.length\/0<q
  ·have xa:=qD sa k
   have xb:=qD sb k;have ea:A.length<=k->A.getD k 0=0:=fun h=>by rw [List.getD,List.getElem?_eq_none h];rfl
   have eb:B.length<=k->B.getD k 0=0:=fun h=>by rw [List.getD,List.getElem?_eq_none h];rfl
   have hval2:Hid (val (l++[(q+(A.getD k 0+B.getD k 0)) % 10000])+10000 ^ (k+1)*((q+(A.getD k 0+B.getD k 0)) / 10000)=val (A.take (k+1))+val (B.take (k+1))):=jeq hlk hval.out;have hsm2:Hid (jH (l++[(q+(A.getD k 0+B.getD k 0)) % 10000])):=zN.2 ⟨hsm.out,qK.2 ⟨by omega,zp⟩⟩;have C1:∀w',Below w.heap.size w w'->Hid _:=fun w' h=>jb (ZF w' aa A ca k (by omega) (ra.below h))
   have C2:∀w',Below w.heap.size w w'->Hid _:=fun w' h=>jb (ZF w' ab B cb k (by omega) (rb.below h))
   have hk2:k+1<=max A.length B.length\/(q+(A.getD k 0+B.getD k 0)) / 10000=0:=by
    by_cases h:k+1<=max A.length B.length
    ·exact .inl h
    ·have:=ea (by omega)
     have:=eb (by omega)
     right
     omega
   clear hval hsm ea eb;generalize A.getD k 0=x at *;generalize B.getD k 0=y at *;have hgo':k<A.length\/(¬k<A.length/\k<B.length)\/(¬k<A.length/\¬k<B.length/\0<q):=by omega
   clear hgo
   rcases hgo' with h1 | ⟨h1,h2⟩ | ⟨h1,h2,h3⟩
   all_goals
    go_wp2_with fail
    refine(ja (C1 wr hbw)).mono ?_
    rintro e w1 ⟨rfl,rfl⟩
    go_wp2_with fail
    refine(ja (C2 _ hbw)).mono ?_
    rintro e w2 ⟨rfl,rfl⟩
    go_wp2_with (at_builtin;refine wpList_append_own _ rfl _ _ 99 rfl w.heap.size 3 i0 (.int .i64 0) 1 8 Tryz.underlying99 hi hz0 hz1 hz2 rfl (by decide) _ _ _ rfl (hown.alloc _) ⟨w2.heap.size,0,none⟩ 1 1 [.int .i64 (((q+(x+y)) % 10000:Nat):Int)] rfl rfl ?c1 ?c2 ?c3 ?c4 ?c5 ?_)
    case c1=>exact cell_one_new _ _ _
    case c2=>intro u hu;simp at hu;subst hu;rfl
    case c3=>unfold maxLen;omega
    case c4=>omega
    case c5=>have:=hbw.size;simp;omega
    intro v' w3 hown' hgrow _;have hbw2:Below w.heap.size w w3:=(hbw.alloc hbw.size _).grown hgrow (by have:=hbw.size;simp;omega) (JU hown);clear hgrow hown;go_wp2;go_roundw
    case rel=>
     refine⟨k+1,(q+(x+y)) / 10000,l++[(q+(x+y)) % 10000],by go_num,by go_num,by simp [hlk],by omega,hk2,by omega,hsm2,hval2,?_,hbw2⟩;simpa [num] using hown'
    case measure=>simp only [intOf];omega
  ·have h1:¬k<A.length:=by omega
   have h2:¬k<B.length:=by omega
   have h3:q=0:=by omega
   subst h3
   have e:val l=m+n:=by
    have:=hval.out;rw [List.take_of_length_le (by omega),List.take_of_length_le (by omega),hv.out] at this;omega
   subst hlk;have hfr:=jb (JU hown);obtain⟨a,cap,rfl,hc,hr⟩:=Zt hown;have C1:=jb (XB wr a l cap (by omega) hc hr hsm.out);rw [e] at C1;clear hval hown hr hsm e
   go_wp2_with fail
   refine(ja C1).mono ?_
   rintro e w1 ⟨v,rfl,hL,hob,rfl⟩
   have HO:=jb hob;clear hob;go_wp2;go_ret;exact⟨_,rfl,hL,fun g hg=>ja hfr g (by rw [<-ja HO];exact hg),hbw⟩
def sgn (m n:Nat):Int:=if m<n then -1 else if n<m then 1 else 0
theorem jcP (l:List Nat)(k:Nat):val (l.drop k)=l.getD k 0+10000*val (l.drop (k+1)):=by
 by_cases h:k<l.length
 ·rw [List.drop_eq_getElem_cons h,val]
  simp [List.getD,List.getElem?_eq_getElem h]
 ·have e:l.getD k 0=0:=by rw [List.getD,List.getElem?_eq_none (by omega)];rfl
  rw [e,List.drop_of_length_le (by omega),List.drop_of_length_le (by omega)];rfl
theorem jdq {l:List Nat}(h:jH l)(k:Nat):jH (l.take k):=by
 rw [<-List.take_append_drop k l,zN] at h;exact h.1
theorem jaG (l:List Nat)(k:Nat)(hs:jH l):∃t,val l=t+10000 ^ k*val (l.drop k)/\t<10000 ^ k:=by
 refine⟨val (l.take k),?_,?_⟩
 ·by_cases h:k<=l.length
  ·have:=zu (l.take k) (l.drop k)
   rw [List.take_append_drop,List.length_take,Nat.min_eq_left h] at this;exact this
  ·rw [List.drop_of_length_le (by omega),List.take_of_length_le (by omega)]
   simp [val]
 ·have h1:=jbk (jdq hs k)
  have h2:10000 ^ (l.take k).length<=10000 ^ k:=Nat.pow_le_pow_right (by omega) (List.length_take_le k l);omega
theorem Zo {a b:List Nat}{k:Nat}(ha:jH a)(hb:jH b)(h:val (a.drop k)<val (b.drop k)):val a<val b:=by
 obtain⟨t,e1,l1⟩:=jaG a k ha;obtain⟨u,e2,l2⟩:=jaG b k hb;have:10000 ^ k*(val (a.drop k)+1)<=10000 ^ k*val (b.drop k):=Nat.mul_le_mul_left _ h;rw [Nat.mul_add,Nat.mul_one] at this;omega
theorem ZJ {m n:Nat}(h:m<n):sgn m n = -1:=by unfold sgn;rw [if_pos h]
theorem jbr {m n:Nat}(h:n<m):sgn m n=1:=by unfold sgn;rw [if_neg (by omega),if_pos h]
theorem jbC {m n:Nat}(h:m=n):sgn m n=0:=by subst h;unfold sgn;rw [if_neg (by omega),if_neg (by omega)]
theorem Ju (w:World)(va vb:Value)(m n:Nat)(hm:(dig m).length<=1048576)(hn:(dig n).length<=1048576)(ha:Lies w va m)(hb:Lies w vb n) :
  Calls Tryz.prog 54 #[va,vb] w fun e w'=>e=.returned (.int .i64 (sgn m n))/\w'=w:=by
 obtain⟨aa,ca,rfl,hca,ra⟩:=ha;obtain⟨ab,cb,rfl,hcb,rb⟩:=hb;have sa:=qn m;have sb:=qn n;have va:=zl m;have vb:=zl n;have HE:Hid (val (dig m)=m/\val (dig n)=n):=⟨va,vb⟩
 clear va vb;generalize dig m=A at *;generalize dig n=B at *;have C1:∀k,Hid _:=fun k=>jb (ZF w aa A ca k (by omega) ra)
 have C2:∀k,Hid _:=fun k=>jb (ZF w ab B cb k (by omega) rb)
 go_enter Tryz.func54,Tryz.ntmps54
 go_wp2
 all_goals
  go_loopw [5] (fun i wr=>∃k:Nat,i=.int .i64 ((k:Int) - 1)/\k<=1048576/\Hid (val (A.drop k)=val (B.drop k))/\wr=w) (fun i _=>(intOf i+1).toNat)
  case atStart=>
   refine⟨max A.length B.length,?_,by omega,?_,rfl⟩
   ·congr 1
    omega
   ·show _=_
    rw [List.drop_of_length_le (by omega),List.drop_of_length_le (by omega)]
  case round=>
   obtain⟨k,rfl,hk,hd,rfl⟩:=hrel;cases k with
   | zero=>
    have e:sgn m n=0:=by
     apply jbC
     have:=hd.out;rw [List.drop_zero,List.drop_zero,HE.out.1,HE.out.2] at this;exact this
    have E:=jb e;clear e;clear hd;go_wp2;go_ret;rw [ja E];exact⟨rfl,rfl⟩
   | succ j=>
    have e0:((j+1:Nat):Int) - 1=(j:Int):=by omega
    rw [e0];have D1:=jcP A j;have D2:=jcP B j;rw [hd.out] at D1;have K1:=C1 j;have K2:=C2 j
    rcases Nat.lt_trichotomy (A.getD j 0) (B.getD j 0) with h | h | h
    ·have e:sgn m n = -1:=by
      apply ZJ
      rw [<-HE.out.1,<-HE.out.2];exact Zo (k:=j) sa sb (by omega)
     have E:=jb e;clear e;clear D1 D2 hd C1 C2;generalize A.getD j 0=x at *;generalize B.getD j 0=y at *
     go_wp2_with fail
     refine(ja K1).mono ?_
     rintro e w1 ⟨rfl,rfl⟩
     go_wp2_with fail
     refine(ja K2).mono ?_
     rintro e w1 ⟨rfl,rfl⟩
     go_wp2;go_ret;rw [ja E];exact⟨rfl,rfl⟩
    ·have hd2:Hid (val (A.drop j)=val (B.drop j)):=by show _=_;rw [D1,D2,h]
     rw [h] at K1;clear D1 D2 hd C1 C2 h;generalize B.getD j 0=y at *
     go_wp2_with fail
     refine(ja K1).mono ?_
     rintro e w1 ⟨rfl,rfl⟩
     go_wp2_with fail
     refine(ja K2).mono ?_
     rintro e w1 ⟨rfl,rfl⟩
     go_wp2_with fail
     refine(ja K1).mono ?_
     rintro e w1 ⟨rfl,rfl⟩
     go_wp2_with fail
     refine(ja K2).mono ?_
     rintro e w1 ⟨rfl,rfl⟩
     go_wp2;go_roundw
     case rel=>exact⟨j,rfl,by omega,hd2,by trivial⟩
     case measure=>simp only [intOf];omega
    ·have e:sgn m n=1:=by
      apply jbr
      rw [<-HE.out.1,<-HE.out.2];exact Zo (k:=j) sb sa (by omega)
     have E:=jb e;clear e;clear D1 D2 hd C1 C2;generalize A.getD j 0=x at *;generalize B.getD j 0=y at *
     go_wp2_with fail
     refine(ja K1).mono ?_
     rintro e w1 ⟨rfl,rfl⟩
     go_wp2_with fail
     refine(ja K2).mono ?_
     rintro e w1 ⟨rfl,rfl⟩
     go_wp2_with fail
     refine(ja K1).mono ?_
     rintro e w1 ⟨rfl,rfl⟩
     go_wp2_with fail
     refine(ja K2).mono ?_
     rintro e w1 ⟨rfl,rfl⟩
     go_wp2;go_ret;rw [ja E];exact⟨rfl,rfl⟩
end bigs
end Go.Proofs.YtnbfnjhbmeocfaaGreatDoor
