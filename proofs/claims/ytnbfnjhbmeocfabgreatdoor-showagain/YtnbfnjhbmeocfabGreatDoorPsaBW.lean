/- Of our texts, what this claim reaches. -/
import Derived.Test.YtnbfnjhbmeocfabGreatDoorPsaAQ
import Derived.Test.YtnbfnjhbmeocfabGreatDoorPsaBU
import Derived.Test.YtnbfnjhbmeocfabGreatDoorPsaBV
import Derived.Test.YtnbfnjhbmeocfabGreatDoorPsaAP
import Derived.Test.YtnbfnjhbmeocfabGreatDoorPsaBB
import Derived.Test.YtnbfnjhbmeocfabGreatDoorPsaAA
import Derived.Test.YtnbfnjhbmeocfabGreatDoorPsaBC
import Derived.Test.YtnbfnjhbmeocfabGreatDoorPsaBE
set_option linter.unusedVariables false
set_option maxHeartbeats 8000000
set_option maxRecDepth 100000
namespace Go.Proofs.YtnbfnjhbmeocfabGreatDoor
namespace valus
open toks (jE isB isW isM noL jZ jp)
open bigs (tellB jV qJ jX Jg XU sgL numRes zm)
def NoW (x:List UInt8):Prop:=∀c,x.head?=some c->isW c=false
def Sep (p:List UInt8):Prop:=∀x,NoW x->jL (p++x)=jL p++jL x
theorem Q8 {c:UInt8}{x:List UInt8}(h:isW c=false):NoW (c :: x):=fun d hd=>by
 injection hd with hd;rw [<-hd];exact h
theorem jiZ:NoW []:=fun d hd=>by cases hd
theorem jjR {c:UInt8}(h:isW c=true):isB c=false/\c≠10/\c≠35:=by
 refine⟨?_,?_,?_⟩
 ·unfold isB
  cases h1:(c == 32 || c == 9 || c == 13) with
  | false=>rfl
  | true=>
   simp only [Bool.or_eq_true,beq_iff_eq] at h1
   rcases h1 with (rfl | rfl) | rfl<;>exact absurd h (by decide)
 ·rintro rfl
  exact absurd h (by decide)
 ·rintro rfl
  exact absurd h (by decide)
theorem jgn {a x:List UInt8}(ha:a≠[])(hw:∀c∈a,isW c=true)(hx:NoW x):jL (a++x)=(4,a) :: jL x:=by
 have hr:jZ isW (a++x)=a.length:=by
  rw [jiE isW a x hw];cases x with
  | nil=>rfl
  | cons c y=>rw [XK isW c y (hx c rfl)];rfl
 cases a with
 | nil=>exact absurd rfl ha
 | cons c t=>
  have hc:=hw c (by simp);obtain⟨h1,h2,h3⟩:=jjR hc
  have e:jE (c :: t++x)=(4,(c :: t).length):=by
   rw [<-hr,List.cons_append];unfold jE;simp only;rw [if_neg (by rw [h1];decide),if_neg h2,if_neg h3,if_pos hc]
  rw [Zq (by simp),e]
  show([(4,(c :: t++x).take (c :: t).length)]:List zg)++jL ((c :: t++x).drop (c :: t).length)=_
  rw [List.take_left' rfl,List.drop_left' rfl];rfl
theorem jeV {a:List UInt8}(ha:a≠[])(hw:∀c∈a,isW c=true):jL a=[(4,a)]/\Sep a:=by
 have h0:jL a=[(4,a)]:=by
  have:=jgn ha hw jiZ;rw [List.append_nil] at this;rw [this];rfl
 exact⟨h0,fun x hx=>by rw [jgn ha hw hx,h0];rfl⟩
theorem jjY {c:UInt8}(h1:c≠34)(h2:c≠10)(h3:c≠92)(y:List UInt8):jp (c :: y)=if jp y=0 then 0 else jp y+1:=by
 cases y with
 | nil=>simp [jp,h1]
 | cons d l=>rw [jp,if_neg h1,if_neg h2,if_neg h3]
theorem jac {d:UInt8}(h:d≠10)(y:List UInt8):jp (92 :: d :: y)=if jp y=0 then 0 else jp y+2:=by
 rw [jp,if_neg (by decide),if_neg (by decide),if_pos rfl,if_neg h]
theorem jhc (y:List UInt8):jp (34 :: y)=1:=by
 cases y with
 | nil=>rfl
 | cons d l=>rw [jp,if_pos rfl]
theorem Z8:∀(l y:List UInt8),(∀c∈l,c≠34/\c≠10/\c≠92)->jp y≠0->jp (l++y)=l.length+jp y
 | [],y,_,_=>by simp
 | c :: l,y,h,hy=>by
  obtain⟨h1,h2,h3⟩:=h c (by simp);have ih:=Z8 l y (fun d hd=>h d (by simp [hd])) hy;rw [List.cons_append,jjY h1 h2 h3,ih,if_neg (by omega),List.length_cons];omega
theorem Xg {d:Nat}(h:d<16):bigs.hexc d≠34/\bigs.hexc d≠10/\bigs.hexc d≠92:=by
 have:∀k:Fin 16,bigs.hexc k≠34/\bigs.hexc k≠10/\bigs.hexc k≠92:=by decide
 exact this ⟨d,h⟩
theorem jn3 {r:Int}(hs:utfs.sc r=true){y:List UInt8}(hy:jp y≠0):jp (escs.qr r++y)=(escs.qr r).length+jp y:=by
 have h0:=utfs.qS hs
 rcases escs.Zp r hs with h | ⟨h,h34,h92,h10,h9,h13⟩ | ⟨h,h127,h34,h92⟩
 ·rcases h with rfl | rfl | rfl | rfl | rfl
  all_goals
   show jp (92 :: _ :: y)=2+jp y
   rw [jac (by decide),if_neg hy];omega
 ·rw [escs.jbP h h10 h9 h13]
  have hl:∀c∈(123 :: (bigs.digB 16 r.toNat++[125]):List UInt8),c≠34/\c≠10/\c≠92:=by
   rcases escs.Xy h0.1 h with ⟨d,hd,_,eg⟩ | ⟨a,d,ha,hd,_,eg⟩
   ·rw [eg]
    intro c hc;simp at hc
    rcases hc with rfl | rfl | rfl
    ·decide
    ·exact Xg hd
    ·decide
   ·rw [eg]
    intro c hc;simp at hc
    rcases hc with rfl | rfl | rfl | rfl
    ·decide
    ·exact Xg ha
    ·exact Xg hd
    ·decide
  have e:=Z8 _ y hl hy
  show jp (92 :: 117 :: ((123 :: (bigs.digB 16 r.toNat++[125]))++y))=_
  rw [jac (by decide),e,if_neg (by omega)];simp only [List.length_cons];omega
 ·rw [escs.Q9 h h127 h34 h92]
  refine Z8 _ y (fun c hc=>?_) hy
  have key:∀x:Int,0<=x->x<256->x≠34->x≠10->x≠92->(x.toNat.toUInt8≠34/\x.toNat.toUInt8≠10/\x.toNat.toUInt8≠92):=fun x a b q1 q2 q3=>by
   have e:=utfs.qd a b;refine⟨fun e'=>?_,fun e'=>?_,fun e'=>?_⟩<;>rw [e'] at e
   ·have t:(34:UInt8).toNat=34:=rfl
    omega
   ·have t:(10:UInt8).toNat=10:=rfl
    omega
   ·have t:(92:UInt8).toNat=92:=rfl
    omega
  rcases utfs.JI hs with ⟨a,e⟩ | ⟨a,b,e⟩ | ⟨a,b,e⟩ | ⟨a,e⟩<;>rw [e] at hc<;>simp only [List.mem_cons,List.not_mem_nil,or_false] at hc
  ·rw [hc]
   exact key _ (by omega) (by omega) (by omega) (by omega) (by omega)
  ·rcases hc with rfl | rfl
   all_goals exact key _ (by omega) (by omega) (by omega) (by omega) (by omega)
  ·rcases hc with rfl | rfl | rfl
   all_goals exact key _ (by omega) (by omega) (by omega) (by omega) (by omega)
  ·rcases hc with rfl | rfl | rfl | rfl
   all_goals exact key _ (by omega) (by omega) (by omega) (by omega) (by omega)
theorem jiM:∀(rs:List Int) (x:List UInt8),(∀r∈rs,utfs.sc r=true)->jp (escs.qs rs++34 :: x)=(escs.qs rs).length+1
 | [],x,_=>by rw [escs.joX];exact jhc x
 | r :: rs,x,h=>by
  have ih:=jiM rs x (fun q hq=>h q (by simp [hq]));rw [escs.XJ,List.append_assoc,jn3 (h r (by simp)) (by rw [ih];omega),ih,List.length_append];omega
theorem jdW {rs:List Int}(h:∀r∈rs,utfs.sc r=true)(x:List UInt8):jL (escs.jU rs++x)=(5,escs.jU rs) :: jL x:=by
 have e:jE (escs.jU rs++x)=(5,(escs.jU rs).length):=by
  have h1:=jiM rs x h;unfold escs.jU;have h2:(34 :: (escs.qs rs++[34]))++x=34 :: (escs.qs rs++34 :: x):=by simp
  rw [h2];unfold jE;simp only;rw [if_neg (by decide),if_neg (by decide),if_neg (by decide),if_neg (by decide),if_neg (by decide),h1,if_pos ⟨trivial,by omega⟩];simp
 rw [Zq (by unfold escs.jU;simp),e]
 show([(5,(escs.jU rs++x).take (escs.jU rs).length)]:List zg)++jL ((escs.jU rs++x).drop (escs.jU rs).length)=_
 rw [List.take_left' rfl,List.drop_left' rfl];rfl
theorem jdY {rs:List Int}(h:∀r∈rs,utfs.sc r=true):jL (escs.jU rs)=[(5,escs.jU rs)]/\Sep (escs.jU rs):=by
 have h0:jL (escs.jU rs)=[(5,escs.jU rs)]:=by
  have:=jdW h [];rw [List.append_nil] at this;rw [this];rfl
 exact⟨h0,fun x hx=>by rw [jdW h x,h0];rfl⟩
theorem jdP {rs:List Int}(h:∀r∈rs,utfs.sc r=true):escs.jcN (escs.unq (escs.jU rs))=0/\escs.XS (escs.unq (escs.jU rs))=utfs.enc rs:=by
 have:=escs.jnw rs [] h;rw [List.append_nil] at this;rw [this];exact⟨rfl,rfl⟩
def Ji (c:UInt8):Prop:=(48<=c.toNat/\c.toNat<=57)\/c=46\/c=101\/c=45
theorem jc1 {c:UInt8}(h:Ji c):isW c=true:=by
 rcases h with h | rfl | rfl | rfl
 ·unfold isW
  exact decide_eq_true (by omega)
 ·decide
 ·decide
 ·decide
theorem jei (n:Nat):∀c∈qJ n,Ji c:=fun c hc=>.inl ((bigs.qN n).2.1 c hc)
theorem jiQ (x:Int):∀c∈Lib.itoa x,Ji c:=by
 unfold Lib.itoa;split
 ·intro c hc
  rw [bigs.j8] at hc
  rcases List.mem_cons.1 hc with rfl | hc
  ·exact .inr (.inr (.inr rfl))
  ·exact jei _ c hc
 ·intro c hc
  rw [bigs.j8] at hc;exact jei _ c hc
theorem jo1 {D:List UInt8}(hD:∀c∈D,Ji c)(p:Int):(∀c∈Jg D p,Ji c)/\∃c∈Jg D p,c=46\/c=101:=by
 have ht:∀n,∀c∈D.take n,Ji c:=fun n c hc=>hD c (List.mem_of_mem_take hc)
 have hd:∀n,∀c∈D.drop n,Ji c:=fun n c hc=>hD c (List.mem_of_mem_drop hc)
 have hr:∀n,∀c∈List.replicate n (48:UInt8),Ji c:=fun n c hc=>by rw [List.eq_of_mem_replicate hc];exact .inl (by decide)
 have h46:Ji 46:=.inr (.inl rfl);have h48:Ji 48:=.inl (by decide);have h101:Ji 101:=.inr (.inr (.inl rfl));unfold Jg;split
 ·unfold XU
  constructor
  ·intro c hc
   rw [List.mem_append,List.mem_append,List.mem_cons] at hc
   rcases hc with hc | hc | rfl | hc
   ·exact ht _ c hc
   ·split at hc
    ·simp at hc
    ·rcases List.mem_cons.1 hc with rfl | hc
     ·exact h46
     ·exact hd _ c hc
   ·exact h101
   ·exact jiQ _ c hc
  ·exact⟨101,by simp,.inr rfl⟩
 ·split
  ·constructor
   ·intro c hc
    simp only [List.cons_append,List.nil_append,List.mem_cons,List.mem_append] at hc
    rcases hc with rfl | rfl | hc | hc
    ·exact h48
    ·exact h46
    ·exact hr _ c hc
    ·exact hD c hc
   ·exact⟨46,by simp,.inl rfl⟩
  ·split
   ·constructor
    ·intro c hc
     rw [List.mem_append,List.mem_cons] at hc
     rcases hc with hc | rfl | hc
     ·exact ht _ c hc
     ·exact h46
     ·exact hd _ c hc
    ·exact⟨46,by simp,.inl rfl⟩
   ·constructor
    ·intro c hc
     rw [List.mem_append,List.mem_append] at hc
     rcases hc with hc | hc | hc
     ·exact hD c hc
     ·exact hr _ c hc
     ·simp only [List.mem_cons,List.not_mem_nil,or_false] at hc
      rcases hc with rfl | rfl
      ·exact h46
      ·exact h48
    ·exact⟨46,by simp,.inl rfl⟩
theorem jca {c:UInt8}(h1:c≠95)(h2:10<=bigs.hexv c):∀(l:List UInt8) (q:Bool),c∈l->bigs.formG 10 q l=false
 | [],_,h=>by cases h
 | d :: l,q,h=>by
  rw [bigs.formG]
  rcases List.mem_cons.1 h with rfl | h
  ·rw [if_neg (fun e=>h1 e.1),if_pos h2]
  ·have ih:=jca h1 h2 l
   split
   ·exact ih _ h
   ·split
    ·rfl
    ·exact ih _ h
theorem jof:∀(l:List UInt8),(∀c∈l,Ji c)->bigs.baseCut l=(10,l)
 | [],_=>rfl
 | [c],_=>rfl
 | c :: d :: r,h=>by
  have hd:=h d (by simp);have n1:d≠98:=by rintro rfl;rcases hd with hd | hd | hd | hd<;>revert hd<;>decide
  have n2:d≠111:=by rintro rfl;rcases hd with hd | hd | hd | hd<;>revert hd<;>decide
  have n3:d≠120:=by rintro rfl;rcases hd with hd | hd | hd | hd<;>revert hd<;>decide
  rw [bigs.baseCut,if_neg n1,if_neg n2,if_neg n3];split<;>rfl
theorem jnd {l:List UInt8}(h:∀c∈l,Ji c)(hb:∃c∈l,c=46\/c=101)(q:Bool):bigs.bodyRes q (bigs.baseCut l).1 (bigs.baseCut l).2=(0,4):=by
 rw [jof l h];obtain⟨c,hc,h1⟩:=hb
 have hf:bigs.formG 10 false l=false:=by
  rcases h1 with rfl | rfl
  ·exact jca (by decide) (by decide) l false hc
  ·exact jca (by decide) (by decide) l false hc
 unfold bigs.bodyRes bigs.formedL;rw [hf,Bool.and_false,if_pos rfl]
theorem jjj {b:Nat}(hb:b<18446744073709551616)(hn:(bigs.jH b).2.2=2->b=9221120237041090561){T:List UInt8}(h:jV b T):T≠[]/\(∀c∈T,isW c=true)/\T.length<=30/\J7 T (3,0,b,[]) 0:=by
 obtain⟨hlen,hrd⟩:=bigs.jaW hb h
 have hr:zm T b 0:=by
  rcases hrd with ⟨a,_,c⟩ | ⟨_,c⟩
  ·rw [hn a]
   exact c
  ·exact c
 have fin:T≠[]->(∀c∈T,isW c=true)->(T≠[110,117,108,108]/\T≠[102,97,108,115,101]/\T≠[116,114,117,101])->(numRes T).2=4->(T≠[]/\(∀c∈T,isW c=true)/\T.length<=30/\J7 T (3,0,b,[]) 0) :=
  fun h1 h2 h3 h4=>⟨h1,h2,hlen,.inr (.inr (.inr ⟨h3,.inr ⟨h4,b,hr,by rw [if_pos rfl]⟩⟩))⟩
 have hsg:sgL b=[45]\/sgL b=[]:=by
  unfold sgL;split
  ·exact .inl rfl
  ·exact .inr rfl
 rcases h with ⟨_,rfl⟩ | ⟨_,rfl⟩ | ⟨_,_,rfl⟩ | ⟨_,_,d,j,ten,_,_,_,e⟩
 ·exact fin (by simp) (by decide) (by decide) (by decide)
 ·rcases hsg with e | e<;>rw [e] at fin ⊢<;>exact fin (by simp) (by decide) (by decide) (by decide)
 ·rcases hsg with e | e<;>rw [e] at fin ⊢<;>exact fin (by simp) (by decide) (by decide) (by decide)
 ·obtain⟨o1,o2⟩:=jo1 (jei d) (((qJ d).length:Int)+ten)
  obtain⟨c0,q,e0,c1,c2⟩:=bigs.jgm (d:=d) ten;generalize Jg (qJ d) (((qJ d).length:Int)+ten)=Y at *
  have hw:∀c∈T,Ji c:=by
   rw [e];intro c hc
   rcases List.mem_append.1 hc with hc | hc
   ·rcases hsg with e' | e'<;>rw [e'] at hc
    ·rw [List.mem_singleton.1 hc]
     exact .inr (.inr (.inr rfl))
    ·cases hc
   ·exact o1 c hc
  have hne:T≠[]:=by rw [e,e0];simp
  have n4:(numRes T).2=4:=by
   unfold numRes;rw [if_neg (by omega)]
   have hs:(bigs.signCut T).2=Y:=by
    rw [e]
    rcases hsg with e' | e'<;>rw [e']
    ·rfl
    ·rw [List.nil_append,e0]
     show(if c0=45 then (true,q) else (false,c0 :: q)).2=c0 :: q
     rw [if_neg (fun h=>by rw [h] at c1;exact absurd c1 (by decide))]
   rw [hs,jnd o1 o2]
  have hno:∀u:List UInt8,(∃c∈u,¬Ji c)->T≠u:=fun u ⟨c,hc,hn⟩ e'=>hn (hw c (by rw [e'];exact hc))
  refine fin hne (fun c hc=>jc1 (hw c hc)) ⟨hno _ ⟨110,by simp,?_⟩,hno _ ⟨102,by simp,?_⟩,hno _ ⟨116,by simp,?_⟩⟩ n4
  all_goals
   intro hd
   rcases hd with hd | hd | hd | hd<;>revert hd<;>decide
theorem jns {n:Int}(h0 : -9223372036854775808<=n)(h1:n<=9223372036854775807):tellB 10 n≠[]/\(∀c∈tellB 10 n,isW c=true)/\J7 (tellB 10 n) (2,n,0,[]) 0:=by
 have hw:∀c∈tellB 10 n,Ji c:=by
  rw [<-bigs.jdV];exact jiQ n
 have hr:=bigs.read_tell (b:=10) (.inr (.inr (.inl rfl))) n h0 h1;have hno:∀u:List UInt8,(∃c∈u,¬Ji c)->tellB 10 n≠u:=fun u ⟨c,hc,hn⟩ e'=>hn (hw c (by rw [e'];exact hc))
 have hne:tellB 10 n≠[]:=by
  intro e;rw [e] at hr;have h4:(numRes []).2=0:=by rw [hr]
  exact absurd h4 (by decide)
 refine⟨hne,fun c hc=>jc1 (hw c hc),.inr (.inr (.inr ⟨⟨hno _ ⟨110,by simp,?_⟩,hno _ ⟨102,by simp,?_⟩,hno _ ⟨116,by simp,?_⟩⟩,.inl ⟨by rw [hr];show(0:Int)≠4;decide,by rw [hr],by rw [if_pos rfl,hr]⟩⟩))⟩
 all_goals
  intro hd
  rcases hd with hd | hd | hd | hd<;>revert hd<;>decide
theorem jii {k:List UInt8}(hk:utfs.bad k<0):∃t:zg,(t.1=4\/t.1=5)/\Jk t.2 t.1 k 0/\jL (escs.jar k)=[t]/\Sep (escs.jar k)/\(10:UInt8)∉escs.jar k/\(escs.jar k).length<=6*k.length+2:=by
 by_cases hb:escs.zi k=true
 ·have e:escs.jar k=k:=by unfold escs.jar;rw [if_pos hb]
  have hb':=hb;unfold escs.zi at hb';simp only [Bool.and_eq_true,decide_eq_true_eq] at hb'
  have hw:∀c∈k,isW c=true:=fun c hc=>by
   have h2:=List.all_eq_true.1 hb'.1.2 c hc;unfold escs.inK escs.opK at h2;simp only [Bool.or_eq_true,decide_eq_true_eq] at h2;unfold isW;exact decide_eq_true (by omega)
  have hne:k≠[]:=by
   rintro rfl
   simp at hb'
  obtain⟨s1,s2⟩:=jeV hne hw;refine⟨(4,k),.inl rfl,?_,by rw [e];exact s1,by rw [e];exact s2,?_,by rw [e];omega⟩
  ·unfold Jk
   rw [if_pos rfl,if_pos hb];exact⟨rfl,rfl⟩
  ·rw [e]
   intro h10;exact absurd (hw 10 h10) (by decide)
 ·obtain⟨g1,g2⟩:=utfs.QI hk
  have e:escs.jar k=escs.jU (utfs.jbs k):=by
   unfold escs.jar;rw [if_neg hb,if_neg (by omega)]
  obtain⟨s1,s2⟩:=jdY g2;obtain⟨u1,u2⟩:=jdP g2;refine⟨(5,escs.jU (utfs.jbs k)),.inr rfl,?_,by rw [e];exact s1,by rw [e];exact s2,by rw [e];exact(escs.jgg g2).2,?_⟩
  ·unfold Jk
   rw [if_neg (show ¬(5:Nat)=4 by decide)];exact⟨by rw [u2];exact g1,u1.symm⟩
  ·rw [e]
   have:=escs.jbo g2;rw [<-g1] at this;exact this
open toks (jE isB isW isM noL jZ jp)
open bigs (tellB jV)
theorem Xk:∀(n:Nat) (x:List UInt8),jL (List.replicate n 32++x)=jL x
 | 0,x=>rfl
 | n+1,x=>by rw [List.replicate_succ,List.cons_append,Yw 32 _ (by decide),Xk n x]
def YE (many:Bool):List (List zg)->zg->List zg
 | [],c=>[c]
 | S :: r,c=>if many=false/\r=[] then S++[c] else S++(6,[44]) :: YE many r c
theorem jds (c:UInt8)(hc:isM c=true)(x:List UInt8):∀(ps:List (List UInt8)),(∀p∈ps,Sep p)->jL (jC ps++c :: x)=YE false (ps.map jL) (6,[c])++jL x
 | [],_=>by
  show jL (c :: x)=_
  rw [Jj c x hc];rfl
 | [p],h=>by
  have hw:isW c=false:=by
   unfold isM at hc;simp only [Bool.or_eq_true,beq_iff_eq] at hc
   rcases hc with ((((((h | h) | h) | h) | h) | h) | h)<;>(rw [show c=_ from h];decide)
  show jL (p++c :: x)=_
  rw [h p (by simp) _ (Q8 hw),Jj c x hc]
  show _=(if false=false/\([]:List (List zg))=[] then jL p++[(6,[c])] else _)++jL x
  rw [if_pos ⟨rfl,rfl⟩];simp
 | p :: q :: r,h=>by
  have ih:=jds c hc x (q :: r) (fun y hy=>h y (by simp [hy]))
  have e:jC (p :: q :: r)++c :: x=p++44 :: 32 :: (jC (q :: r)++c :: x):=by
   show(p++44 :: 32 :: jC (q :: r))++c :: x=_
   simp
  rw [e,h p (by simp) _ (Q8 (by decide)),Jj 44 _ (by decide),Yw 32 _ (by decide),ih]
  show _=(if false=false/\(q :: r).map jL=[] then _ else jL p++(6,[44]) :: YE false ((q :: r).map jL) (6,[c]))++jL x
  rw [if_neg (by simp)];simp
theorem jcS (c:UInt8)(hc:isM c=true)(d:Nat)(x:List UInt8):∀(ps:List (List UInt8)),(∀p∈ps,Sep p)->jL (jJ d ps++10 :: (inL d++c :: x))=YE true (ps.map jL) (6,[c])++jL x
 | [],_=>by
  show jL (10 :: (inL d++c :: x))=_
  rw [jb1,inL,Xk,Jj c x hc];rfl
 | p :: r,h=>by
  have ih:=jcS c hc d x r (fun y hy=>h y (by simp [hy]))
  have e:jJ d (p :: r)++10 :: (inL d++c :: x)=10 :: (inL (d+1)++(p++44 :: (jJ d r++10 :: (inL d++c :: x)))):=by
   unfold jJ ZU;simp
  rw [e,jb1,inL,Xk,h p (by simp) _ (Q8 (by decide)),Jj 44 _ (by decide)];rw [ih]
  show _=(if true=false/\_ then _ else jL p++(6,[44]) :: YE true (r.map jL) (6,[c]))++jL x
  rw [if_neg (fun h=>by cases h.1)];simp
theorem jln (many:Bool)(d:Nat)(c:UInt8)(hc:isM c=true)(x:List UInt8)(ps:List (List UInt8))(h:∀p∈ps,Sep p):jL (jS many d ps++c :: x)=YE many (ps.map jL) (6,[c])++jL x:=by
 unfold jS;cases many with
 | false=>rw [if_neg (by decide)];exact jds c hc x ps h
 | true=>
  rw [if_pos rfl]
  by_cases h0:ps=[]
  ·rw [if_pos h0,h0]
   show jL (c :: x)=_
   rw [Jj c x hc];rfl
  ·rw [if_neg h0]
   have e:(jJ d ps++10 :: inL d)++c :: x=jJ d ps++10 :: (inL d++c :: x):=by simp
   rw [e];exact jcS c hc d x ps h
theorem jgu (many:Bool)(d:Nat)(o c:UInt8)(ho:isM o=true)(hc:isM c=true)(ps:List (List UInt8))(h:∀p∈ps,Sep p):jL (o :: (jS many d ps++[c]))=(6,[o]) :: YE many (ps.map jL) (6,[c])/\Sep (o :: (jS many d ps++[c])):=by
 have h0:∀x,jL ((o :: (jS many d ps++[c]))++x)=(6,[o]) :: (YE many (ps.map jL) (6,[c])++jL x):=fun x=>by
  have e:(o :: (jS many d ps++[c]))++x=o :: (jS many d ps++c :: x):=by simp
  rw [e,Jj o _ ho,jln many d c hc x ps h]
 have h1:jL (o :: (jS many d ps++[c]))=(6,[o]) :: YE many (ps.map jL) (6,[c]):=by
  have:=h0 [];rw [List.append_nil] at this;rw [this]
  show(6,[o]) :: (_++[])=_
  rw [List.append_nil]
 exact⟨h1,fun x _=>by rw [h0,h1];rfl⟩
theorem jdB (many:Bool){G:List zg->V->Prop}(g:V->List UInt8):∀(vs:List V),(∀v∈vs,G (jL (g v)) v/\jL (g v)≠[])->jkB G vs (YE many ((vs.map g).map jL) (6,[93]))
 | [],_=>rfl
 | v :: vs,h=>by
  obtain⟨h1,h2⟩:=h v (by simp);have ih:=jdB many g vs (fun y hy=>h y (by simp [hy]))
  show jkB G (v :: vs) (if many=false/\(vs.map g).map jL=[] then jL (g v)++[(6,[93])] else jL (g v)++(6,[44]) :: YE many ((vs.map g).map jL) (6,[93]))
  by_cases hc:many=false/\(vs.map g).map jL=[]
  ·rw [if_pos hc]
   have hv:vs=[]:=by simpa using hc.2
   exact⟨_,_,[],h2,h1,rfl,.inr ⟨rfl,hv,rfl⟩⟩
  ·rw [if_neg hc]
   exact⟨_,_,_,h2,h1,rfl,.inl ⟨rfl,ih⟩⟩
theorem jdz (many:Bool){G:List zg->V->Prop}(g:V->List UInt8):∀(es:List V) (keys:List (List UInt8)),(keys++es.map (fun e=>(jG e).1)).Nodup->(∀e∈es,∃kt y,e=ent (jG e).1 y/\(kt.1=4\/kt.1=5)/\Jk kt.2 kt.1 (jG e).1 0/\∃sv,G sv y/\jL (g e)=kt :: (6,[58]) :: sv)->jla G keys es (YE many ((es.map g).map jL) (6,[125]))
 | [],_,_,_=>rfl
 | e :: es,keys,hn,h=>by
  obtain⟨kt,y,h1,h2,h3,sv,h4,h5⟩:=h e (by simp);have ih:=jdz many g es (keys++[(jG e).1]) (by rw [List.append_assoc];exact hn) (fun y hy=>h y (by simp [hy]))
  have hk:(jG e).1∉keys:=by
   rw [List.nodup_append] at hn;intro hm;exact hn.2.2 _ hm _ (by simp) rfl
  show jla G keys (e :: es) (if many=false/\(es.map g).map jL=[] then jL (g e)++[(6,[125])] else jL (g e)++(6,[44]) :: YE many ((es.map g).map jL) (6,[125]))
  by_cases hc:many=false/\(es.map g).map jL=[]
  ·rw [if_pos hc]
   have hv:es=[]:=by simpa using hc.2
   exact⟨kt,(6,[58]),sv,(6,[125]),[],(jG e).1,y,h2,h3,hk,.inl rfl,h4,h1,by rw [h5];rfl,.inr ⟨rfl,hv,rfl⟩⟩
  ·rw [if_neg hc]
   exact⟨kt,(6,[58]),sv,(6,[44]),_,(jG e).1,y,h2,h3,hk,.inl rfl,h4,h1,by rw [h5];rfl,.inl ⟨rfl,ih⟩⟩
theorem Xj:∀(l:List (List UInt8)) (p:Option (List UInt8)),zy p l=0->(∀k∈l,utfs.bad k<0)/\l.Pairwise (fun a b=>Jh a b=.lt)/\∀q,p=some q->∀k∈l,Jh q k=.lt
 | [],_,_=>⟨fun _ h=>by(cases h),List.Pairwise.nil,fun _ _ _ h=>by(cases h)⟩
 | x :: r,p,h=>by
  have h':(if JD p x=0 then zy (some x) r else JD p x)=0:=h
  by_cases h0:JD p x=0
  ·rw [if_pos h0] at h'
   obtain⟨i1,i2,i3⟩:=Xj r (some x) h';unfold JD at h0
   by_cases h1:100<x.length
   ·rw [if_pos h1] at h0
    cases h0
   ·rw [if_neg h1] at h0
    by_cases h2:0<=utfs.bad x
    ·rw [if_pos h2] at h0
     cases h0
    ·rw [if_neg h2] at h0
     refine⟨fun k hk=>?_,List.Pairwise.cons (i3 x rfl) i2,fun q hq k hk=>?_⟩
     ·rcases List.mem_cons.1 hk with rfl | hk
      ·omega
      ·exact i1 k hk
     ·subst hq
      have hl:Jh q x=.lt:=by
       unfold jhd at h0;simp only at h0
       by_cases hb:Op.bytesLess q x=true
       ·rw [Yn] at hb
        exact of_decide_eq_true hb
       ·rw [if_neg hb] at h0
        cases h0
      rcases List.mem_cons.1 hk with rfl | hk
      ·exact hl
      ·exact Xu hl (i3 x rfl k hk)
  ·rw [if_neg h0] at h'
   exact absurd h' h0
theorem jd6 {v:V}(h:qe v=0):((bigs.jH (opn v).1.2.2.1).2.2=2->(opn v).1.2.2.1=9221120237041090561)/\utfs.bad (opn v).1.2.2.2<0/\zy none (qX (opn v).2.2)=0:=by
 unfold qe at h
 by_cases hk:J9 (opn v).1.1 (opn v).1.2.1 (opn v).1.2.2.1 (opn v).1.2.2.2 (opn v).2.1.length (opn v).2.2.length
 ·rw [if_neg (fun h=>h hk)] at h
  split at h
  ·cases h
  ·split at h
   ·cases h
   ·rename_i hu
    exact⟨hk.2.2.2.2.2.2.2,by omega,h⟩
 ·rw [if_pos hk] at h
  cases h
theorem jaC {F:Nat->List UInt8}(hF:∀b,b<18446744073709551616->jV b (F b))(many:Bool):∀(f d:Nat) (v:V),IsV f v->Qy f v->jM qe v=0->Gr f (jL (jD F many f d v)) v/\Sep (jD F many f d v)
 | 0,_,_,h,_,_=>h.elim
 | f+1,d,v,hI,hG,h0=>by
  obtain⟨⟨k,n,b,s⟩,L,E,rfl,hb,hL,hE⟩:=hI;obtain⟨o,_,gL,gE⟩:=hG;obtain⟨p1,p2,p3⟩:=jd6 (Zu h0);rw [ze] at o gL gE p1 p2 p3;simp only at gL gE p1 p2 p3 hb;have o1:=o.k;have o2:=o.n;have o3:=o.b;have o4:=o.i;have o5:=o.f;have o6:=o.s;have o7:=o.l;have o8:=o.e;simp only at o1 o2 o3 o4 o5 o6 o7 o8;have hLg:∀y∈L,jM qe y=0:=fun y hy=>Jw h0 (by rw [qW];exact List.mem_append_left _ hy)
  have hEg:∀e∈E,jM qe (jG e).2=0:=fun e he=>Jw h0 (by rw [qW];exact List.mem_append_right _ (List.mem_map.2 ⟨e,he,rfl⟩))
  have hEI:∀e∈E,e=ent (jG e).1 (jG e).2/\IsV f (jG e).2:=fun e he=>by
   obtain⟨k',y,rfl,hy⟩:=hE e he;exact⟨by rw [zQ],by rw [zQ];exact hy⟩
  by_cases k5:k=5
  ·subst k5
   have e1:n=0:=by have:=mt o2 (by omega);omega
   have e2:b=0:=by have:=mt o5 (by omega);omega
   have e3:s=[]:=Classical.byContradiction fun e=>by have:=o6 e;omega
   have e4:E=[]:=Classical.byContradiction fun e=>by have:=o8 e;omega
   subst e1 e2 e3 e4
   have et:jD F many (f+1) d (mkV (5,0,0,[]) L [])=91 :: (jS many d (L.map (jD F many f (d+1)))++[93]):=by
    rw [jD,ze,if_pos rfl]
   have ih:=fun y (hy:y∈L)=>jaC hF many f (d+1) y (hL y hy) (gL y hy) (hLg y hy)
   obtain⟨s1,s2⟩:=jgu many d 91 93 (by decide) (by decide) (L.map (jD F many f (d+1))) (fun p hp=>by
    obtain⟨y,hy,rfl⟩:=List.mem_map.1 hp;exact(ih y hy).2)
   rw [et];exact⟨.inr (.inl ⟨_,L,s1,jdB many _ L (fun y hy=>⟨(ih y hy).1,joP (ih y hy).1⟩),rfl⟩),s2⟩
  ·by_cases k6:k=6
   ·subst k6
    have e1:n=0:=by have:=mt o2 (by omega);omega
    have e2:b=0:=by have:=mt o5 (by omega);omega
    have e3:s=[]:=Classical.byContradiction fun e=>by have:=o6 e;omega
    have e4:L=[]:=Classical.byContradiction fun e=>by have:=o7 e;omega
    subst e1 e2 e3 e4
    have et:jD F many (f+1) d (mkV (6,0,0,[]) [] E)=123 :: (jS many d (E.map (fun e=>JM (jG e).1 (jD F many f (d+1) (jG e).2)))++[125]):=by
     rw [jD,ze,if_neg (show ¬(6:Int)=5 by decide),if_pos rfl]
    have ih:=fun e (he:e∈E)=>jaC hF many f (d+1) (jG e).2 (hEI e he).2 (gE e he) (hEg e he)
    obtain⟨kg,ka,_⟩:=Xj _ _ p3
    have hone:∀e∈E,∃kt:zg,(kt.1=4\/kt.1=5)/\Jk kt.2 kt.1 (jG e).1 0/\jL (JM (jG e).1 (jD F many f (d+1) (jG e).2))=kt :: (6,[58]) :: jL (jD F many f (d+1) (jG e).2)/\Sep (JM (jG e).1 (jD F many f (d+1) (jG e).2)):=fun e he=>by
     obtain⟨t,t1,t2,t3,t4,_⟩:=jii (kg (jG e).1 (List.mem_map.2 ⟨e,he,rfl⟩))
     have all:∀x,NoW x->jL (JM (jG e).1 (jD F many f (d+1) (jG e).2)++x)=t :: (6,[58]) :: (jL (jD F many f (d+1) (jG e).2)++jL x):=fun x hx=>by
      unfold JM;rw [List.append_assoc,List.cons_append,List.cons_append,t4 _ (Q8 (by decide)),t3,Jj 58 _ (by decide),Yw 32 _ (by decide),(ih e he).2 x hx];rfl
     have h1:=all [] jiZ;rw [List.append_nil] at h1;have h2:jL ([]:List UInt8)=[]:=rfl;rw [h2,List.append_nil] at h1;exact⟨t,t1,t2,h1,fun x hx=>by rw [all x hx,h1];rfl⟩
    obtain⟨s1,s2⟩:=jgu many d 123 125 (by decide) (by decide) (E.map (fun e=>JM (jG e).1 (jD F many f (d+1) (jG e).2))) (fun p hp=>by
     obtain⟨e,he,rfl⟩:=List.mem_map.1 hp;obtain⟨_,_,_,_,h⟩:=hone e he;exact h)
    rw [et];refine⟨.inr (.inr ⟨_,E,E,s1,jdz many _ E [] ?_ (fun e he=>?_),.refl _,?_,rfl⟩),s2⟩
    ·rw [List.nil_append]
     exact ka.imp (fun {a b} h e=>by rw [e,jdx] at h;cases h)
    ·obtain⟨kt,h1,h2,h3,_⟩:=hone e he
     exact⟨kt,(jG e).2,(hEI e he).1,h1,h2,_,(ih e he).1,h3⟩
    ·unfold jfb
     unfold qX at ka;rw [List.pairwise_map] at ka;exact ka
   ·have e4:L=[]:=Classical.byContradiction fun e=>k5 (o7 e)
    have e5:E=[]:=Classical.byContradiction fun e=>k6 (o8 e)
    subst e4 e5
    have et:jD F many (f+1) d (mkV (k,n,b,s) [] [])=Qd F (k,n,b,s):=by
     rw [jD,ze,if_neg k5,if_neg k6]
    rw [et]
    have word:∀T:List UInt8,Qd F (k,n,b,s)=T->T≠[]->(∀c∈T,isW c=true)->J7 T (k,n,b,s) 0->Gr (f+1) (jL (Qd F (k,n,b,s))) (mkV (k,n,b,s) [] [])/\Sep (Qd F (k,n,b,s)):=fun T e h1 h2 h3=>by
     rw [e];obtain⟨s1,s2⟩:=jeV h1 h2;refine⟨.inl ⟨4,T,(k,n,b,s),s1,.inl rfl,?_,rfl⟩,s2⟩;unfold zO;rw [if_pos rfl];exact h3
    have hk:k=0\/k=1\/k=2\/k=3\/k=4:=by omega
    rcases hk with rfl | rfl | rfl | rfl | rfl
    ·have e1:n=0:=by have:=mt o2 (by omega);omega
     have e2:b=0:=by have:=mt o5 (by omega);omega
     have e3:s=[]:=Classical.byContradiction fun e=>by have:=o6 e;omega
     subst e1 e2 e3;exact word [110,117,108,108] rfl (by simp) (by decide) (.inl ⟨rfl,rfl,rfl⟩)
    ·have e2:b=0:=by have:=mt o5 (by omega);omega
     have e3:s=[]:=Classical.byContradiction fun e=>by have:=o6 e;omega
     subst e2 e3
     rcases o3 rfl with rfl | rfl
     ·exact word [102,97,108,115,101] rfl (by simp) (by decide) (.inr (.inl ⟨rfl,rfl,rfl⟩))
     ·exact word [116,114,117,101] rfl (by simp) (by decide) (.inr (.inr (.inl ⟨rfl,rfl,rfl⟩)))
    ·have e2:b=0:=by have:=mt o5 (by omega);omega
     have e3:s=[]:=Classical.byContradiction fun e=>by have:=o6 e;omega
     subst e2 e3;obtain⟨q1,q2,q3⟩:=jns o4.1 o4.2;exact word (tellB 10 n) rfl q1 q2 q3
    ·have e1:n=0:=by have:=mt o2 (by omega);omega
     have e3:s=[]:=Classical.byContradiction fun e=>by have:=o6 e;omega
     subst e1 e3;obtain⟨q1,q2,_,q3⟩:=jjj hb p1 (hF b hb);exact word (F b) rfl q1 q2 q3
    ·have e1:n=0:=by have:=mt o2 (by omega);omega
     have e2:b=0:=by have:=mt o5 (by omega);omega
     subst e1 e2;obtain⟨g1,g2⟩:=utfs.QI p2
     have e:Qd F (4,0,0,s)=escs.jU (utfs.jbs s):=by
      show escs.je1 s=_
      unfold escs.je1;rw [if_neg (by omega)]
     rw [e];obtain⟨s1,s2⟩:=jdY g2;obtain⟨u1,u2⟩:=jdP g2;refine⟨.inl ⟨5,_,(4,0,0,s),s1,.inr rfl,?_,rfl⟩,s2⟩;unfold zO;rw [if_neg (by decide)];refine⟨u1.symm,?_⟩;rw [if_pos rfl,u2,<-g1]
open bigs (tellB jV)
def Zg (K:Nat):List (List UInt8)->Nat
 | []=>0
 | p :: r=>p.length+K+Zg K r
theorem jdn (K:Nat)(hK:2<=K):∀ps:List (List UInt8),(jC ps).length<=Zg K ps
 | []=>Nat.le_refl _
 | [p]=>by show p.length<=p.length+K+0;omega
 | p :: q :: r=>by
  have ih:=jdn K hK (q :: r)
  show(p++44 :: 32 :: jC (q :: r)).length<=p.length+K+Zg K (q :: r)
  rw [List.length_append,List.length_cons,List.length_cons];omega
theorem jdl (d K:Nat)(hK:2*d+4<=K):∀ps:List (List UInt8),(jJ d ps).length<=Zg K ps
 | []=>Nat.le_refl _
 | p :: r=>by
  have ih:=jdl d K hK r;have e:jJ d (p :: r)=ZU d p++jJ d r:=rfl
  show(jJ d (p :: r)).length<=p.length+K+Zg K r
  rw [e,List.length_append,Yu];omega
theorem jfU (many:Bool)(d K:Nat)(hK:2*d+4<=K)(ps:List (List UInt8)):(jS many d ps).length<=Zg K ps+K:=by
 unfold jS;cases many with
 | false=>
  rw [if_neg (by decide)];have:=jdn K (by omega) ps;omega
 | true=>
  rw [if_pos rfl]
  by_cases h:ps=[]
  ·rw [if_pos h,List.length_nil]
   omega
  ·rw [if_neg h,List.length_append,List.length_cons,JZ]
   have:=jdl d K hK ps;omega
theorem jem (K:Nat)(g:V->List UInt8)(q:V->V)(c:V->Nat):∀vs:List V,(∀v∈vs,(g v).length+K<=30000*c (q v))->Zg K (vs.map g)<=30000*qj c (vs.map q)
 | [],_=>Nat.le_refl _
 | v :: vs,h=>by
  have ih:=jem K g q c vs (fun x hx=>h x (by simp [hx]));have h1:=h v (by simp);have e:qj c ((v :: vs).map q)=c (q v)+qj c (vs.map q):=rfl
  show(g v).length+K+Zg K (vs.map g)<=_
  rw [e];omega
theorem ZN {F:Nat->List UInt8}(hF:∀b,b<18446744073709551616->jV b (F b))(many:Bool):∀(f d:Nat) (v:V),IsV f v->Qy f v->jM qe v=0->d+f<=90->(jD F many f d v).length+1000<=30000*jW f v
 | 0,_,_,h,_,_,_=>h.elim
 | f+1,d,v,hI,hG,h0,hd=>by
  obtain⟨⟨k,n,b,s⟩,L,E,rfl,hb,hL,hE⟩:=hI;obtain⟨o,⟨ho1,ho2⟩,gL,gE⟩:=hG;obtain⟨p1,p2,p3⟩:=jd6 (Zu h0);rw [ze] at o ho1 ho2 gL gE p1 p2 p3;simp only at ho1 ho2 gL gE p1 p2 p3 hb;have en:jW (f+1) (mkV (k,n,b,s) L E)=qj (jW f) (L++E.map (fun e=>(jG e).2))+1:=rfl;rw [en,QP];have hLg:∀y∈L,jM qe y=0:=fun y hy=>Jw h0 (by rw [qW];exact List.mem_append_left _ hy)
  have hEg:∀e∈E,jM qe (jG e).2=0:=fun e he=>Jw h0 (by rw [qW];exact List.mem_append_right _ (List.mem_map.2 ⟨e,he,rfl⟩))
  have hEI:∀e∈E,IsV f (jG e).2:=fun e he=>by
   obtain⟨k',y,rfl,hy⟩:=hE e he;rw [zQ];exact hy
  rw [jD,ze];simp only
  by_cases k5:k=5
  ·rw [if_pos k5]
   have h1:=jfU many d 200 (by omega) (L.map (jD F many f (d+1)));have h2:=jem 200 (jD F many f (d+1)) id (jW f) L (fun y hy=>by have:=ZN hF many f (d+1) y (hL y hy) (gL y hy) (hLg y hy) (by omega);show _<=30000*jW f y;omega);rw [List.map_id] at h2;simp only [List.length_cons,List.length_append,List.length_nil];omega
  ·rw [if_neg k5]
   by_cases k6:k=6
   ·rw [if_pos k6]
    obtain⟨kg,_,_⟩:=Xj _ _ p3;have h1:=jfU many d 200 (by omega) (E.map (fun e=>JM (jG e).1 (jD F many f (d+1) (jG e).2)))
    have h2:=jem 200 (fun e=>JM (jG e).1 (jD F many f (d+1) (jG e).2)) (fun e=>(jG e).2) (jW f) E (fun e he=>by
     have:=ZN hF many f (d+1) (jG e).2 (hEI e he) (gE e he) (hEg e he) (by omega);obtain⟨_,_,_,_,_,_,hkl⟩:=jii (kg (jG e).1 (List.mem_map.2 ⟨e,he,rfl⟩));have:=ho2 e he;unfold JM;simp only [List.length_append,List.length_cons];omega)
    simp only [List.length_cons,List.length_append,List.length_nil];omega
   ·rw [if_neg k6]
    have hl:(Qd F (k,n,b,s)).length<=24002:=by
     unfold Qd;simp only;split
     ·split<;>simp
     ·split
      ·have:=bigs.tell_len (b:=10) (.inr (.inr (.inl rfl))) n o.i.1 o.i.2
       omega
      ·split
       ·have:=(bigs.jaW hb (hF b hb)).1
        omega
       ·split
        ·obtain⟨g1,g2⟩:=utfs.QI p2
         unfold escs.je1;rw [if_neg (by omega)];have:=escs.jbo g2;rw [<-g1] at this;omega
        ·simp
    omega
open Go.RowKit
open bigs (jV)
def Zd (F:Nat->List UInt8)(many:Bool)(f:Nat)(t:V):List UInt8:=jD F many f 0 t++(if many=true then [10] else [])
theorem QO (B R f:Nat){F:Nat->List UInt8}(hF:∀b,b<18446744073709551616->jV b (F b))(many:Bool)(fm:Int)(hfm:jho many fm)(w:World)(k n:Int)(b:Nat)(s:ByteArray)(pL:Option Addr)(nL cL:Nat)(pE:Option Addr)(nE cE:Nat)(t:V)
  (hg:Pg B R [] 0 fm w) (hT:Tb B w) (hBw:B<=w.heap.size) (hl:LiesB B f w [.int .i64 k,.int .i64 n,.int .u64 (b:Int),.string s,.slice pL nL cL,.slice pE nE cE] t) (hG:Qy f t) (hd:f<=1000) (hlen:(jD F many f 0 t).length<=140737488355327) :
  Calls Tryz.prog 22 #[.pointer (some ⟨R,0,none⟩),.agg #[.int .i64 k,.int .i64 n,.int .u64 (b:Int),.string s,.slice pL nL cL,.slice pE nE cE]] w fun e w'=>(∃v,e=.returned v)/\Pg B R (Zd F many f t) 0 fm w'/\Below B w w':=by
 have bV:Below w.heap.size w (w.alloc (.cells #[.int .i64 k,.int .i64 n,.int .u64 (b:Int),.string s,.slice pL nL cL,.slice pE nE cE] 26)):=(Below.refl _ w).alloc (Nat.le_refl _) _;have bB:=bV.mono hBw;have hX:=jf w #[.int .i64 k,.int .i64 n,.int .u64 (b:Int),.string s,.slice pL nL cL,.slice pE nE cE] 26;have x0:=hX.cell 0 _ rfl;have x1:=hX.cell 1 _ rfl;have x2:=hX.cell 2 _ rfl;have x3:=hX.cell 3 _ rfl;have x4:=hX.cell 4 _ rfl;have x5:=hX.cell 5 _ rfl;have KV:=jd (Qe B R hF many fm hfm f _ [] 0 k n b s pL nL cL pE nE cE t (hg.below bV) (hT.next bB) (by have:=bV.size;omega) (hl.next bB) hG (by omega) (by rw [List.length_nil];omega));have HB:=jd (And.intro bB hBw);have HL:=jd hlen;unfold Zd;clear hX hg hT hl hG hlen bB bV hBw
 rcases hfm with ⟨rfl,rfl⟩ | ⟨rfl,rfl⟩
 ·rw [if_pos rfl]
  go_enter Tryz.func22,Tryz.ntmps22
  go_wp2_with (go_at_call 35;refine(ja KV).mono ?_)
  rintro e w1 ⟨⟨v,rfl⟩,g1,b1,k1⟩
  have c3:=g1.c3;rw [List.nil_append] at g1;have b01:=HB.out.1.trans b1;have KE:=jd (joK B R (jD F true f 0 t) 0 1 w1 g1 (by have:=HL.out;omega) (by have:=b01.size;have:=HB.out.2;omega));have H1:=jd b01;clear g1 b1 k1 b01 KV HB
  go_wp2_with (go_at_call 36;refine(ja KE).mono ?_)
  rintro e w2 ⟨rfl,g2,b2,k2⟩
  have H2:=jd (And.intro g2 (H1.out.trans b2));clear g2 b2 k2;go_wp2;go_end0;exact⟨⟨_,rfl⟩,H2.out⟩
 ·rw [if_neg (by decide),List.append_nil]
  go_enter Tryz.func22,Tryz.ntmps22
  go_wp2_with (go_at_call 35;refine(ja KV).mono ?_)
  rintro e w1 ⟨⟨v,rfl⟩,g1,b1,k1⟩
  have c3:=g1.c3;rw [List.nil_append] at g1;have H1:=jd (And.intro g1 (HB.out.1.trans b1));clear g1 b1 k1 KV HB;go_wp2;go_end0;exact⟨⟨_,rfl⟩,H1.out⟩
theorem jlj (w:World)(fm:Int):Pg w.heap.size w.heap.size [] 0 fm (w.alloc (.cells #[.pointer none,.slice none 0 0,.int .i64 0,.int .i64 fm] 62)) :=
 .inl ⟨Nat.le_refl _,.slice none 0 0,jf w _ _,World.ownsRowF_nil _ _ _ _,by simp [Value.ownBlock]⟩
theorem jnX (F:Nat->List UInt8)(many:Bool)(f:Nat){t:V}(h:Gr f (jL (jD F many f 0 t)) t):jD F many f 0 t≠[]:=fun e=>by
 rw [e] at h;exact joP h rfl
theorem LiesV.shallow {ok:Nat->Prop}{w:World}:∀(f m:Nat) {vs:List Value} {t:V},LiesV ok f w vs t->zI f t<=m->LiesV ok m w vs t
 | 0,_,_,_,h,_=>h.elim
 | f+1,0,_,t,_,hd=>by
  have:zI (f+1) t=maxOf (zI f) (parts t)+1:=rfl;omega
 | f+1,m+1,_,t,h,hd=>by
  obtain⟨k,n,b,s,L,E,pL,pE,cL,cE,rfl,rfl,h1,h2,rL,rE⟩:=h
  have hd':maxOf (zI f) (parts (mkV (k,n,b,s.data.toList) L E))<=m:=by
   have:zI (f+1) (mkV (k,n,b,s.data.toList) L E)=maxOf (zI f) (parts (mkV (k,n,b,s.data.toList) L E))+1:=rfl;omega
  rw [qW] at hd';refine⟨k,n,b,s,L,E,pL,pE,cL,cE,rfl,rfl,h1,h2,rL.kept (fun _ h=>h) (Nat.le_refl _) (fun _ _ _=>rfl) (fun j us _ ⟨y,e1,e2⟩=>⟨y,e1,LiesV.shallow f m e2 (Nat.le_trans (jcf (List.mem_append_left _ (List.mem_iff_getElem?.2 ⟨j,e1⟩))) hd')⟩),rE.kept (fun _ h=>h) (Nat.le_refl _) (fun _ _ _=>rfl) (fun j us _ ⟨key,y,xs,e1,e2,e3,e4⟩=>⟨key,y,xs,e1,e2,e3,LiesV.shallow f m e4 (Nat.le_trans (jcf (List.mem_append_right _ (List.mem_map.2 ⟨_,List.mem_iff_getElem?.2 ⟨j,e1⟩,by rw [zQ]⟩))) hd')⟩)⟩
def Xh (F:Nat->List UInt8)(many:Bool)(t:V):List UInt8:=if jM qe t=0 then Zd F many 20 t else []
theorem jc9 (f:Nat){F:Nat->List UInt8}(hF:∀b,b<18446744073709551616->jV b (F b))(many:Bool)(fm:Int)(hfm:jho many fm)(w:World)(k n:Int)(b:Nat)(s:ByteArray)(pL:Option Addr)(nL cL:Nat)(pE:Option Addr)(nE cE:Nat)(t:V)
  (hT:ShowTabs w) (hl:LiesV (fun q=>q<w.heap.size) f w [.int .i64 k,.int .i64 n,.int .u64 (b:Int),.string s,.slice pL nL cL,.slice pE nE cE] t) (hno:jW f t<=10000000) :
  Calls Tryz.prog 14 #[.agg #[.int .i64 k,.int .i64 n,.int .u64 (b:Int),.string s,.slice pL nL cL,.slice pE nE cE],.int .i64 fm] w fun e w'=>e=.returned (.tuple #[.string ⟨(Xh F many t).toArray⟩,.int .i64 (jM qe t)])/\Below w.heap.size w w':=by
 have bV:Below w.heap.size w (w.alloc (.cells #[.int .i64 k,.int .i64 n,.int .u64 (b:Int),.string s,.slice pL nL cL,.slice pE nE cE] 26)):=(Below.refl _ w).alloc (Nat.le_refl _) _;have hX:=jf w #[.int .i64 k,.int .i64 n,.int .u64 (b:Int),.string s,.slice pL nL cL,.slice pE nE cE] 26;obtain⟨W,hW⟩:∃W,W=w.alloc (.cells #[.int .i64 k,.int .i64 n,.int .u64 (b:Int),.string s,.slice pL nL cL,.slice pE nE cE] 26):=⟨_,rfl⟩
 rw [<-hW] at bV hX;have x0:=hX.cell 0 _ rfl;have x1:=hX.cell 1 _ rfl;have x2:=hX.cell 2 _ rfl;have x3:=hX.cell 3 _ rfl;have x4:=hX.cell 4 _ rfl;have x5:=hX.cell 5 _ rfl;have hlW:LiesV (fun q=>q<W.heap.size) f W [.int .i64 k,.int .i64 n,.int .u64 (b:Int),.string s,.slice pL nL cL,.slice pE nE cE] t:=hl.kept (fun q hq=>Nat.lt_of_lt_of_le hq bV.size) bV.size (fun q hq _=>bV.block q hq);have hI:IsV f t:=hl.isV;have KC:=callsIn_wide.1 (jc7 f W t _ _ _ _ _ _ hlW hno (hT.below bV).utf);unfold Xh
 by_cases h0:jM qe t=0
 ·rw [h0] at KC
  rw [h0,if_pos rfl];have HKC:=jd KC;have hl:=LiesV.shallow f 20 hl (JO hI h0).1;have hI:=hl.isV;have hG:=ZH hl h0;have hlen:=ZN hF many 20 0 t hI hG h0 (by omega);have hnod:=(JO hI h0).2;have hgr:=(jaC hF many 20 0 t hI hG h0).1;have hne:Zd F many 20 t≠[]:=fun e=>jnX F many 20 hgr (by unfold Zd at e;exact(List.append_eq_nil_iff.1 e).1)
  have KD:Hid (∀w1,Below w.heap.size w w1->Calls Tryz.prog 22 #[.pointer (some ⟨w1.heap.size,0,none⟩),.agg #[.int .i64 k,.int .i64 n,.int .u64 (b:Int),.string s,.slice pL nL cL,.slice pE nE cE]] (w1.alloc (.cells #[.pointer none,.slice none 0 0,.int .i64 0,.int .i64 fm] 62)) fun e w'=>(∃v,e=.returned v)/\Pg w1.heap.size w1.heap.size (Zd F many 20 t) 0 fm w'/\Below w1.heap.size w1 w'):=jd fun w1 hb1=>by
   have bA:Below w1.heap.size w1 (w1.alloc (.cells #[.pointer none,.slice none 0 0,.int .i64 0,.int .i64 fm] 62)):=(Below.refl _ w1).alloc (Nat.le_refl _) _;have hl1:LiesB w1.heap.size 20 w1 [.int .i64 k,.int .i64 n,.int .u64 (b:Int),.string s,.slice pL nL cL,.slice pE nE cE] t:=hl.kept (fun q hq=>Nat.lt_of_lt_of_le hq hb1.size) hb1.size (fun q hq _=>hb1.block q hq);refine(QO w1.heap.size w1.heap.size 20 hF many fm hfm _ k n b s pL nL cL pE nE cE t (jlj w1 fm) ⟨w1,rfl,hT.below hb1,bA⟩ bA.size (hl1.next bA) hG (by omega) (by omega)).mono ?_
   rintro e w' ⟨h1,h2,h3⟩
   exact⟨h1,h2,bA.trans h3⟩
  have KS:Hid (∀(w1 w2:World),Pg w1.heap.size w1.heap.size (Zd F many 20 t) 0 fm w2->Calls Tryz.prog 23 #[.pointer (some ⟨w1.heap.size,0,none⟩)] w2 fun e w'=>e=.returned (.string ⟨(Zd F many 20 t).toArray⟩)/\Below w1.heap.size w2 w'):=jd fun w1 w2 hg=>jpa _ _ _ 0 fm w2 hg hne
  have HB:=jd bV;have HX:=jd hX;clear KC hl hlW hT hG hlen hgr hne hX hI h0 hno hF hfm
  go_enter Tryz.func14,Tryz.ntmps14
  go_upto_region 1 with fail
  rw [<-hW];clear hW bV
  go_upto_region 4 with (go_at_call 20;refine(ja HKC).mono ?_;rintro e w1 ⟨rfl,b1⟩)
  have b01:=HB.out.trans (b1.mono HB.out.size);have X1:Blk w1 w.heap.size #[.int .i64 k,.int .i64 n,.int .u64 (b:Int),.string s,.slice pL nL cL,.slice pE nE cE] 26:=HX.out.below b1;have X2:=X1.alloc (.cells #[.pointer none,.slice none 0 0,.int .i64 0,.int .i64 fm] 62);have y0:=X2.cell 0 _ rfl;have y1:=X2.cell 1 _ rfl;have y2:=X2.cell 2 _ rfl;have y3:=X2.cell 3 _ rfl;have y4:=X2.cell 4 _ rfl;have y5:=X2.cell 5 _ rfl;have KD1:=jd (KD.out w1 b01);have KS1:=KS.out w1;have HKS:=jd KS1;have H1:=jd b01;clear x0 x1 x2 x3 x4 x5 b1 b01 X1 X2 KD KS HKC HB HX KS1
  go_wp2_with (first
   | (go_at_call 22;refine(ja KD1).mono ?_;rintro e w2 ⟨⟨v,rfl⟩,g2,b2⟩;have KS2:=jd (HKS.out w2 g2);have H2:=jd b2;clear g2 b2)
   | (go_at_call 23;refine(ja KS2).mono ?_;rintro e w3 ⟨rfl,b3⟩))
  go_ret2;exact⟨rfl,H1.out.trans ((H2.out.trans b3).mono H1.out.size)⟩
 ·rw [if_neg h0]
  obtain⟨er,her⟩:∃er,er=jM qe t:=⟨_,rfl⟩
  rw [<-her] at KC h0 ⊢;have HKC:=jd KC;have g0:(er != 0)=true:=bne_iff_ne.2 h0;have HB:=jd bV;clear KC hl hlW hT hX hI hno hF hfm her
  go_enter Tryz.func14,Tryz.ntmps14
  go_upto_region 1 with fail
  rw [<-hW];clear hW bV
  go_wp2_with (go_at_call 20;refine(ja HKC).mono ?_;rintro e w1 ⟨rfl,b1⟩)
  go_ret2;exact⟨rfl,HB.out.trans (b1.mono HB.out.size)⟩
theorem jko (f:Nat){F:Nat->List UInt8}(hF:∀b,b<18446744073709551616->jV b (F b))(w:World)(k n:Int)(b:Nat)(s:ByteArray)(pL:Option Addr)(nL cL:Nat)(pE:Option Addr)(nE cE:Nat)(t:V)
  (hT:ShowTabs w) (hl:LiesV (fun q=>q<w.heap.size) f w [.int .i64 k,.int .i64 n,.int .u64 (b:Int),.string s,.slice pL nL cL,.slice pE nE cE] t) (hno:jW f t<=10000000) :
  Calls Tryz.prog 7 #[.agg #[.int .i64 k,.int .i64 n,.int .u64 (b:Int),.string s,.slice pL nL cL,.slice pE nE cE]] w fun e w'=>e=.returned (.tuple #[.string ⟨(Xh F false t).toArray⟩,.int .i64 (jM qe t)])/\Below w.heap.size w w':=by
 have bV:Below w.heap.size w (w.alloc (.cells #[.int .i64 k,.int .i64 n,.int .u64 (b:Int),.string s,.slice pL nL cL,.slice pE nE cE] 26)):=(Below.refl _ w).alloc (Nat.le_refl _) _;have hX:=jf w #[.int .i64 k,.int .i64 n,.int .u64 (b:Int),.string s,.slice pL nL cL,.slice pE nE cE] 26;have x0:=hX.cell 0 _ rfl;have x1:=hX.cell 1 _ rfl;have x2:=hX.cell 2 _ rfl;have x3:=hX.cell 3 _ rfl;have x4:=hX.cell 4 _ rfl;have x5:=hX.cell 5 _ rfl;have K:=jd (jc9 f hF false 0 (.inr ⟨rfl,rfl⟩) _ k n b s pL nL cL pE nE cE t (hT.below bV) (hl.kept (fun q hq=>Nat.lt_of_lt_of_le hq bV.size) bV.size (fun q hq _=>bV.block q hq)) hno);have HB:=jd bV;clear hX bV hT hl hno hF
 go_enter Tryz.func7,Tryz.ntmps7
 go_wp2_with (go_at_call 14;refine(ja K).mono ?_;rintro e w1 ⟨rfl,b1⟩)
 go_ret2;exact⟨rfl,HB.out.trans (b1.mono HB.out.size)⟩
theorem jdf (f:Nat){F:Nat->List UInt8}(hF:∀b,b<18446744073709551616->jV b (F b))(w:World)(k n:Int)(b:Nat)(s:ByteArray)(pL:Option Addr)(nL cL:Nat)(pE:Option Addr)(nE cE:Nat)(t:V)
  (hT:ShowTabs w) (hl:LiesV (fun q=>q<w.heap.size) f w [.int .i64 k,.int .i64 n,.int .u64 (b:Int),.string s,.slice pL nL cL,.slice pE nE cE] t) (hno:jW f t<=10000000) :
  Calls Tryz.prog 8 #[.agg #[.int .i64 k,.int .i64 n,.int .u64 (b:Int),.string s,.slice pL nL cL,.slice pE nE cE]] w fun e w'=>e=.returned (.tuple #[.string ⟨(Xh F true t).toArray⟩,.int .i64 (jM qe t)])/\Below w.heap.size w w':=by
 have bV:Below w.heap.size w (w.alloc (.cells #[.int .i64 k,.int .i64 n,.int .u64 (b:Int),.string s,.slice pL nL cL,.slice pE nE cE] 26)):=(Below.refl _ w).alloc (Nat.le_refl _) _;have hX:=jf w #[.int .i64 k,.int .i64 n,.int .u64 (b:Int),.string s,.slice pL nL cL,.slice pE nE cE] 26;have x0:=hX.cell 0 _ rfl;have x1:=hX.cell 1 _ rfl;have x2:=hX.cell 2 _ rfl;have x3:=hX.cell 3 _ rfl;have x4:=hX.cell 4 _ rfl;have x5:=hX.cell 5 _ rfl;have K:=jd (jc9 f hF true 1 (.inl ⟨rfl,rfl⟩) _ k n b s pL nL cL pE nE cE t (hT.below bV) (hl.kept (fun q hq=>Nat.lt_of_lt_of_le hq bV.size) bV.size (fun q hq _=>bV.block q hq)) hno);have HB:=jd bV;clear hX bV hT hl hno hF
 go_enter Tryz.func8,Tryz.ntmps8
 go_wp2_with (go_at_call 14;refine(ja K).mono ?_;rintro e w1 ⟨rfl,b1⟩)
 go_ret2;exact⟨rfl,HB.out.trans (b1.mono HB.out.size)⟩
open toks (isW)
open bigs (tellB jV)
structure Fit (t:V):Prop where
 i:IsV 20 t
 g:Qy 20 t
 z:jM qe t=0
theorem joT {ok:Nat->Prop}{w:World}{f:Nat}{vs:List Value}{t:V}(h:LiesV ok f w vs t)(h0:jM qe t=0):Fit t/\LiesV ok 20 w vs t:=by
 have hl:=LiesV.shallow f 20 h (JO h.isV h0).1;exact⟨⟨hl.isV,ZH hl h0,h0⟩,hl⟩
theorem jo9 {F:Nat->List UInt8}(hF:∀b,b<18446744073709551616->jV b (F b))(many:Bool){t:V}(h:Fit t):Gr 20 (jL (Zd F many 20 t)) t:=by
 obtain⟨h1,h2⟩:=jaC hF many 20 0 t h.i h.g h.z;unfold Zd;cases many with
 | false=>rw [if_neg (by decide),List.append_nil];exact h1
 | true=>
  rw [if_pos rfl,h2 [10] (Q8 (by decide)),jb1]
  show Gr 20 (_++[]) t
  rw [List.append_nil];exact h1
theorem jjE {F:Nat->List UInt8}(hF:∀b,b<18446744073709551616->jV b (F b))(many:Bool){t:V}(h:Fit t)(hs:(Zd F many 20 t).length<=20000):qB ⟨(Zd F many 20 t).toArray⟩ (.inl t):=by
 have hz:(⟨(Zd F many 20 t).toArray⟩:ByteArray).size<=20000:=by
  show(Zd F many 20 t).toArray.size<=20000
  rw [List.size_toArray];exact hs
 exact(jpf hz (jo9 hF many h)).1 h.z
theorem Xm (F:Nat->List UInt8)(many:Bool){t:V}(h:jM qe t=0):Xh F many t=Zd F many 20 t:=by unfold Xh;rw [if_pos h]
def jaf:V:=mkV (0,0,0,[]) [] []
theorem jj4:qe jaf=0:=by
 unfold qe jaf;rw [ze];have hk:J9 0 0 0 ([]:List UInt8) ([]:List V).length ([]:List V).length:=by unfold J9;simp;decide
 simp only;rw [if_neg (fun h=>h hk),if_neg (by simp),if_neg (by decide)];rfl
theorem jaP:jM qe jaf=0:=JR.2 ⟨1999,by
 show(if qe jaf=0 then Jo (Js qe 19) 1999 (parts jaf) else .inl (qe jaf))=.inr 1999
 rw [if_pos jj4];rfl⟩
theorem jhD (F:Nat->List UInt8):Xh F false jaf=[110,117,108,108]:=by
 rw [Xm F false jaP];rfl
end valus
end Go.Proofs.YtnbfnjhbmeocfabGreatDoor
