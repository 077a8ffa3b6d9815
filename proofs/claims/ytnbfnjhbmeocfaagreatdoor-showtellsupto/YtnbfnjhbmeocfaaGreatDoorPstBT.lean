/- Of our texts, what this claim reaches. -/
import Derived.Test.YtnbfnjhbmeocfaaGreatDoorPstAS
import Derived.Test.YtnbfnjhbmeocfaaGreatDoorPstBR
import Derived.Test.YtnbfnjhbmeocfaaGreatDoorPstBS
import Derived.Test.YtnbfnjhbmeocfaaGreatDoorPstAQ
import Derived.Test.YtnbfnjhbmeocfaaGreatDoorPstBF
import Derived.Test.YtnbfnjhbmeocfaaGreatDoorPstAA
set_option linter.unusedVariables false
namespace Go.Proofs.YtnbfnjhbmeocfaaGreatDoor
namespace valus
open toks (qx isB isW isM noL zA jW)
open bigs (tellB jv js qp qo Qg sgL numRes QE)
def NoW (x:List UInt8):Prop:=∀c,x.head?=some c->isW c=false
def Sep (p:List UInt8):Prop:=∀x,NoW x->jE (p++x)=jE p++jE x
theorem Zx {c:UInt8}{x:List UInt8}(h:isW c=false):NoW (c :: x):=fun d hd=>by
 injection hd with hd;rw [<-hd];exact h
theorem jeS:NoW []:=fun d hd=>by cases hd
theorem jgg {c:UInt8}(h:isW c=true):isB c=false/\c≠10/\c≠35:=by
 refine⟨?_,?_,?_⟩
 ·unfold isB
  cases h1:(c == 32 || c == 9 || c == 13) with
  | false=>rfl
  | true=>
   simp only [Bool.or_eq_true,beq_iff_eq] at h1
   rcases h1 with (rfl | rfl) | rfl<;>exact absurd h (by decide)
 ·rintro rfl
  exact absurd h (by decide)
 ·rintro rfl
  exact absurd h (by decide)
theorem jca {a x:List UInt8}(ha:a≠[])(hw:∀c∈a,isW c=true)(hx:NoW x):jE (a++x)=(4,a) :: jE x:=by
 have hr:zA isW (a++x)=a.length:=by
  rw [je4 isW a x hw];cases x with
  | nil=>rfl
  | cons c y=>rw [Yf isW c y (hx c rfl)];rfl
 cases a with
 | nil=>exact absurd rfl ha
 | cons c t=>
  have hc:=hw c (by simp);obtain⟨h1,h2,h3⟩:=jgg hc
  have e:qx (c :: t++x)=(4,(c :: t).length):=by
   rw [<-hr,List.cons_append];unfold qx;simp only;rw [if_neg (by rw [h1];decide),if_neg h2,if_neg h3,if_pos hc]
  rw [Qy (by simp),e]
  show([(4,(c :: t++x).take (c :: t).length)]:List zU)++jE ((c :: t++x).drop (c :: t).length)=_
  rw [List.take_left' rfl,List.drop_left' rfl];rfl
theorem jcp {a:List UInt8}(ha:a≠[])(hw:∀c∈a,isW c=true):jE a=[(4,a)]/\Sep a:=by
 have h0:jE a=[(4,a)]:=by
  have:=jca ha hw jeS;rw [List.append_nil] at this;rw [this];rfl
 exact⟨h0,fun x hx=>by rw [jca ha hw hx,h0];rfl⟩
theorem jgG {c:UInt8}(h1:c≠34)(h2:c≠10)(h3:c≠92)(y:List UInt8):jW (c :: y)=if jW y=0 then 0 else jW y+1:=by
 cases y with
 | nil=>simp [jW,h1]
 | cons d l=>rw [jW,if_neg h1,if_neg h2,if_neg h3]
theorem Xj {d:UInt8}(h:d≠10)(y:List UInt8):jW (92 :: d :: y)=if jW y=0 then 0 else jW y+2:=by
 rw [jW,if_neg (by decide),if_neg (by decide),if_pos rfl,if_neg h]
theorem jdh (y:List UInt8):jW (34 :: y)=1:=by
 cases y with
 | nil=>rfl
 | cons d l=>rw [jW,if_pos rfl]
theorem Q6:∀(l y:List UInt8),(∀c∈l,c≠34/\c≠10/\c≠92)->jW y≠0->jW (l++y)=l.length+jW y
 | [],y,_,_=>by simp
 | c :: l,y,h,hy=>by
  obtain⟨h1,h2,h3⟩:=h c (by simp);have ih:=Q6 l y (fun d hd=>h d (by simp [hd])) hy;rw [List.cons_append,jgG h1 h2 h3,ih,if_neg (by omega),List.length_cons];omega
theorem Zb {d:Nat}(h:d<16):bigs.hexc d≠34/\bigs.hexc d≠10/\bigs.hexc d≠92:=by
 have:∀k:Fin 16,bigs.hexc k≠34/\bigs.hexc k≠10/\bigs.hexc k≠92:=by decide
 exact this ⟨d,h⟩
theorem jiX {r:Int}(hs:utfs.sc r=true){y:List UInt8}(hy:jW y≠0):jW (escs.qr r++y)=(escs.qr r).length+jW y:=by
 have h0:=utfs.jQ hs
 rcases escs.Qr r hs with h | ⟨h,h34,h92,h10,h9,h13⟩ | ⟨h,h127,h34,h92⟩
 ·rcases h with rfl | rfl | rfl | rfl | rfl
  all_goals
   show jW (92 :: _ :: y)=2+jW y
   rw [Xj (by decide),if_neg hy];omega
 ·rw [escs.Qn h h10 h9 h13]
  have hl:∀c∈(123 :: (bigs.digB 16 r.toNat++[125]):List UInt8),c≠34/\c≠10/\c≠92:=by
   rcases escs.Ze h0.1 h with ⟨d,hd,_,eg⟩ | ⟨a,d,ha,hd,_,eg⟩
   ·rw [eg]
    intro c hc;simp at hc
    rcases hc with rfl | rfl | rfl
    ·decide
    ·exact Zb hd
    ·decide
   ·rw [eg]
    intro c hc;simp at hc
    rcases hc with rfl | rfl | rfl | rfl
    ·decide
    ·exact Zb ha
    ·exact Zb hd
    ·decide
  have e:=Q6 _ y hl hy
  show jW (92 :: 117 :: ((123 :: (bigs.digB 16 r.toNat++[125]))++y))=_
  rw [Xj (by decide),e,if_neg (by omega)];simp only [List.length_cons];omega
 ·rw [escs.JN h h127 h34 h92]
  refine Q6 _ y (fun c hc=>?_) hy
  have key:∀x:Int,0<=x->x<256->x≠34->x≠10->x≠92->(x.toNat.toUInt8≠34/\x.toNat.toUInt8≠10/\x.toNat.toUInt8≠92):=fun x a b q1 q2 q3=>by
   have e:=utfs.jT a b;refine⟨fun e'=>?_,fun e'=>?_,fun e'=>?_⟩<;>rw [e'] at e
   ·have t:(34:UInt8).toNat=34:=rfl
    omega
   ·have t:(10:UInt8).toNat=10:=rfl
    omega
   ·have t:(92:UInt8).toNat=92:=rfl
    omega
  rcases utfs.qX hs with ⟨a,e⟩ | ⟨a,b,e⟩ | ⟨a,b,e⟩ | ⟨a,e⟩<;>rw [e] at hc<;>simp only [List.mem_cons,List.not_mem_nil,or_false] at hc
  ·rw [hc]
   exact key _ (by omega) (by omega) (by omega) (by omega) (by omega)
  ·rcases hc with rfl | rfl
   all_goals exact key _ (by omega) (by omega) (by omega) (by omega) (by omega)
  ·rcases hc with rfl | rfl | rfl
   all_goals exact key _ (by omega) (by omega) (by omega) (by omega) (by omega)
  ·rcases hc with rfl | rfl | rfl | rfl
   all_goals exact key _ (by omega) (by omega) (by omega) (by omega) (by omega)
theorem jfd:∀(rs:List Int) (x:List UInt8),(∀r∈rs,utfs.sc r=true)->jW (escs.qs rs++34 :: x)=(escs.qs rs).length+1
 | [],x,_=>by rw [escs.jj2];exact jdh x
 | r :: rs,x,h=>by
  have ih:=jfd rs x (fun q hq=>h q (by simp [hq]));rw [escs.Zz,List.append_assoc,jiX (h r (by simp)) (by rw [ih];omega),ih,List.length_append];omega
theorem jam {rs:List Int}(h:∀r∈rs,utfs.sc r=true)(x:List UInt8):jE (escs.jF rs++x)=(5,escs.jF rs) :: jE x:=by
 have e:qx (escs.jF rs++x)=(5,(escs.jF rs).length):=by
  have h1:=jfd rs x h;unfold escs.jF;have h2:(34 :: (escs.qs rs++[34]))++x=34 :: (escs.qs rs++34 :: x):=by simp
  rw [h2];unfold qx;simp only;rw [if_neg (by decide),if_neg (by decide),if_neg (by decide),if_neg (by decide),if_neg (by decide),h1,if_pos ⟨trivial,by omega⟩];simp
 rw [Qy (by unfold escs.jF;simp),e]
 show([(5,(escs.jF rs++x).take (escs.jF rs).length)]:List zU)++jE ((escs.jF rs++x).drop (escs.jF rs).length)=_
 rw [List.take_left' rfl,List.drop_left' rfl];rfl
theorem jaU {rs:List Int}(h:∀r∈rs,utfs.sc r=true):jE (escs.jF rs)=[(5,escs.jF rs)]/\Sep (escs.jF rs):=by
 have h0:jE (escs.jF rs)=[(5,escs.jF rs)]:=by
  have:=jam h [];rw [List.append_nil] at this;rw [this];rfl
 exact⟨h0,fun x hx=>by rw [jam h x,h0];rfl⟩
theorem ja9 {rs:List Int}(h:∀r∈rs,utfs.sc r=true):escs.jj1 (escs.unq (escs.jF rs))=0/\escs.jjz (escs.unq (escs.jF rs))=utfs.enc rs:=by
 have:=escs.jig rs [] h;rw [List.append_nil] at this;rw [this];exact⟨rfl,rfl⟩
def zF (c:UInt8):Prop:=(48<=c.toNat/\c.toNat<=57)\/c=46\/c=101\/c=45
theorem jaJ {c:UInt8}(h:zF c):isW c=true:=by
 rcases h with h | rfl | rfl | rfl
 ·unfold isW
  exact decide_eq_true (by omega)
 ·decide
 ·decide
 ·decide
theorem jbs (n:Nat):∀c∈js n,zF c:=fun c hc=>.inl ((bigs.jJ n).2.1 c hc)
theorem je3 (x:Int):∀c∈Lib.itoa x,zF c:=by
 unfold Lib.itoa;split
 ·intro c hc
  rw [bigs.jL] at hc
  rcases List.mem_cons.1 hc with rfl | hc
  ·exact .inr (.inr (.inr rfl))
  ·exact jbs _ c hc
 ·intro c hc
  rw [bigs.jL] at hc;exact jbs _ c hc
theorem jjE {D:List UInt8}(hD:∀c∈D,zF c)(p:Int):(∀c∈qo D p,zF c)/\∃c∈qo D p,c=46\/c=101:=by
 have ht:∀n,∀c∈D.take n,zF c:=fun n c hc=>hD c (List.mem_of_mem_take hc)
 have hd:∀n,∀c∈D.drop n,zF c:=fun n c hc=>hD c (List.mem_of_mem_drop hc)
 have hr:∀n,∀c∈List.replicate n (48:UInt8),zF c:=fun n c hc=>by rw [List.eq_of_mem_replicate hc];exact .inl (by decide)
 have h46:zF 46:=.inr (.inl rfl);have h48:zF 48:=.inl (by decide);have h101:zF 101:=.inr (.inr (.inl rfl));unfold qo;split
 ·unfold Qg
  constructor
  ·intro c hc
   rw [List.mem_append,List.mem_append,List.mem_cons] at hc
   rcases hc with hc | hc | rfl | hc
   ·exact ht _ c hc
   ·split at hc
    ·simp at hc
    ·rcases List.mem_cons.1 hc with rfl | hc
     ·exact h46
     ·exact hd _ c hc
   ·exact h101
   ·exact je3 _ c hc
  ·exact⟨101,by simp,.inr rfl⟩
 ·split
  ·constructor
   ·intro c hc
    simp only [List.cons_append,List.nil_append,List.mem_cons,List.mem_append] at hc
    rcases hc with rfl | rfl | hc | hc
    ·exact h48
    ·exact h46
    ·exact hr _ c hc
    ·exact hD c hc
   ·exact⟨46,by simp,.inl rfl⟩
  ·split
   ·constructor
    ·intro c hc
     rw [List.mem_append,List.mem_cons] at hc
     rcases hc with hc | rfl | hc
     ·exact ht _ c hc
     ·exact h46
     ·exact hd _ c hc
    ·exact⟨46,by simp,.inl rfl⟩
   ·constructor
    ·intro c hc
     rw [List.mem_append,List.mem_append] at hc
     rcases hc with hc | hc | hc
     ·exact hD c hc
     ·exact hr _ c hc
     ·simp only [List.mem_cons,List.not_mem_nil,or_false] at hc
      rcases hc with rfl | rfl
      ·exact h46
      ·exact h48
    ·exact⟨46,by simp,.inl rfl⟩
theorem YC {c:UInt8}(h1:c≠95)(h2:10<=bigs.hexv c):∀(l:List UInt8) (q:Bool),c∈l->bigs.formG 10 q l=false
 | [],_,h=>by cases h
 | d :: l,q,h=>by
  rw [bigs.formG]
  rcases List.mem_cons.1 h with rfl | h
  ·rw [if_neg (fun e=>h1 e.1),if_pos h2]
  ·have ih:=YC h1 h2 l
   split
   ·exact ih _ h
   ·split
    ·rfl
    ·exact ih _ h
theorem jiz:∀(l:List UInt8),(∀c∈l,zF c)->bigs.baseCut l=(10,l)
 | [],_=>rfl
 | [c],_=>rfl
 | c :: d :: r,h=>by
  have hd:=h d (by simp);have n1:d≠98:=by rintro rfl;rcases hd with hd | hd | hd | hd<;>revert hd<;>decide
  have n2:d≠111:=by rintro rfl;rcases hd with hd | hd | hd | hd<;>revert hd<;>decide
  have n3:d≠120:=by rintro rfl;rcases hd with hd | hd | hd | hd<;>revert hd<;>decide
  rw [bigs.baseCut,if_neg n1,if_neg n2,if_neg n3];split<;>rfl
theorem jgY {l:List UInt8}(h:∀c∈l,zF c)(hb:∃c∈l,c=46\/c=101)(q:Bool):bigs.bodyRes q (bigs.baseCut l).1 (bigs.baseCut l).2=(0,4):=by
 rw [jiz l h];obtain⟨c,hc,h1⟩:=hb
 have hf:bigs.formG 10 false l=false:=by
  rcases h1 with rfl | rfl
  ·exact YC (by decide) (by decide) l false hc
  ·exact YC (by decide) (by decide) l false hc
 unfold bigs.bodyRes bigs.formedL;rw [hf,Bool.and_false,if_pos rfl]
theorem jgl {b:Nat}(hb:b<18446744073709551616)(hn:(bigs.jo b).2.2=2->b=9221120237041090561){T:List UInt8}(h:jv b T):T≠[]/\(∀c∈T,isW c=true)/\T.length<=30/\Yn T (3,0,b,[]) 0:=by
 obtain⟨hlen,hrd⟩:=bigs.X5 hb h
 have hr:QE T b 0:=by
  rcases hrd with ⟨a,_,c⟩ | ⟨_,c⟩
  ·rw [hn a]
   exact c
  ·exact c
 have fin:T≠[]->(∀c∈T,isW c=true)->(T≠[110,117,108,108]/\T≠[102,97,108,115,101]/\T≠[116,114,117,101])->(numRes T).2=4->(T≠[]/\(∀c∈T,isW c=true)/\T.length<=30/\Yn T (3,0,b,[]) 0) :=
  fun h1 h2 h3 h4=>⟨h1,h2,hlen,.inr (.inr (.inr ⟨h3,.inr ⟨h4,b,hr,by rw [if_pos rfl]⟩⟩))⟩
 have hsg:sgL b=[45]\/sgL b=[]:=by
  unfold sgL;split
  ·exact .inl rfl
  ·exact .inr rfl
 rcases h with ⟨_,rfl⟩ | ⟨_,rfl⟩ | ⟨_,_,rfl⟩ | ⟨_,_,d,j,ten,_,_,_,e⟩
 ·exact fin (by simp) (by decide) (by decide) (by decide)
 ·rcases hsg with e | e<;>rw [e] at fin ⊢<;>exact fin (by simp) (by decide) (by decide) (by decide)
 ·rcases hsg with e | e<;>rw [e] at fin ⊢<;>exact fin (by simp) (by decide) (by decide) (by decide)
 ·obtain⟨o1,o2⟩:=jjE (jbs d) (((js d).length:Int)+ten)
  obtain⟨c0,q,e0,c1,c2⟩:=bigs.jb4 (d:=d) ten;generalize qo (js d) (((js d).length:Int)+ten)=Y at *
  have hw:∀c∈T,zF c:=by
   rw [e];intro c hc
   rcases List.mem_append.1 hc with hc | hc
   ·rcases hsg with e' | e'<;>rw [e'] at hc
    ·rw [List.mem_singleton.1 hc]
     exact .inr (.inr (.inr rfl))
    ·cases hc
   ·exact o1 c hc
  have hne:T≠[]:=by rw [e,e0];simp
  have n4:(numRes T).2=4:=by
   unfold numRes;rw [if_neg (by omega)]
   have hs:(bigs.signCut T).2=Y:=by
    rw [e]
    rcases hsg with e' | e'<;>rw [e']
    ·rfl
    ·rw [List.nil_append,e0]
     show(if c0=45 then (true,q) else (false,c0 :: q)).2=c0 :: q
     rw [if_neg (fun h=>by rw [h] at c1;exact absurd c1 (by decide))]
   rw [hs,jgY o1 o2]
  have hno:∀u:List UInt8,(∃c∈u,¬zF c)->T≠u:=fun u ⟨c,hc,hn⟩ e'=>hn (hw c (by rw [e'];exact hc))
  refine fin hne (fun c hc=>jaJ (hw c hc)) ⟨hno _ ⟨110,by simp,?_⟩,hno _ ⟨102,by simp,?_⟩,hno _ ⟨116,by simp,?_⟩⟩ n4
  all_goals
   intro hd
   rcases hd with hd | hd | hd | hd<;>revert hd<;>decide
theorem jhQ {n:Int}(h0 : -9223372036854775808<=n)(h1:n<=9223372036854775807):tellB 10 n≠[]/\(∀c∈tellB 10 n,isW c=true)/\Yn (tellB 10 n) (2,n,0,[]) 0:=by
 have hw:∀c∈tellB 10 n,zF c:=by
  rw [<-bigs.jaa];exact je3 n
 have hr:=bigs.read_tell (b:=10) (.inr (.inr (.inl rfl))) n h0 h1;have hno:∀u:List UInt8,(∃c∈u,¬zF c)->tellB 10 n≠u:=fun u ⟨c,hc,hn⟩ e'=>hn (hw c (by rw [e'];exact hc))
 have hne:tellB 10 n≠[]:=by
  intro e;rw [e] at hr;have h4:(numRes []).2=0:=by rw [hr]
  exact absurd h4 (by decide)
 refine⟨hne,fun c hc=>jaJ (hw c hc),.inr (.inr (.inr ⟨⟨hno _ ⟨110,by simp,?_⟩,hno _ ⟨102,by simp,?_⟩,hno _ ⟨116,by simp,?_⟩⟩,.inl ⟨by rw [hr];show(0:Int)≠4;decide,by rw [hr],by rw [if_pos rfl,hr]⟩⟩))⟩
 all_goals
  intro hd
  rcases hd with hd | hd | hd | hd<;>revert hd<;>decide
theorem XA {k:List UInt8}(hk:utfs.bad k<0):∃t:zU,(t.1=4\/t.1=5)/\jaK t.2 t.1 k 0/\jE (escs.JC k)=[t]/\Sep (escs.JC k)/\(10:UInt8)∉escs.JC k/\(escs.JC k).length<=6*k.length+2:=by
 by_cases hb:escs.qA k=true
 ·have e:escs.JC k=k:=by unfold escs.JC;rw [if_pos hb]
  have hb':=hb;unfold escs.qA at hb';simp only [Bool.and_eq_true,decide_eq_true_eq] at hb'
  have hw:∀c∈k,isW c=true:=fun c hc=>by
   have h2:=List.all_eq_true.1 hb'.1.2 c hc;unfold escs.inK escs.opK at h2;simp only [Bool.or_eq_true,decide_eq_true_eq] at h2;unfold isW;exact decide_eq_true (by omega)
  have hne:k≠[]:=by
   rintro rfl
   simp at hb'
  obtain⟨s1,s2⟩:=jcp hne hw;refine⟨(4,k),.inl rfl,?_,by rw [e];exact s1,by rw [e];exact s2,?_,by rw [e];omega⟩
  ·unfold jaK
   rw [if_pos rfl,if_pos hb];exact⟨rfl,rfl⟩
  ·rw [e]
   intro h10;exact absurd (hw 10 h10) (by decide)
 ·obtain⟨g1,g2⟩:=utfs.zt hk
  have e:escs.JC k=escs.jF (utfs.QS k):=by
   unfold escs.JC;rw [if_neg hb,if_neg (by omega)]
  obtain⟨s1,s2⟩:=jaU g2;obtain⟨u1,u2⟩:=ja9 g2;refine⟨(5,escs.jF (utfs.QS k)),.inr rfl,?_,by rw [e];exact s1,by rw [e];exact s2,by rw [e];exact(escs.jcM g2).2,?_⟩
  ·unfold jaK
   rw [if_neg (show ¬(5:Nat)=4 by decide)];exact⟨by rw [u2];exact g1,u1.symm⟩
  ·rw [e]
   have:=escs.Yz g2;rw [<-g1] at this;exact this
open toks (qx isB isW isM noL zA jW)
open bigs (tellB jv)
theorem Yw:∀(n:Nat) (x:List UInt8),jE (List.replicate n 32++x)=jE x
 | 0,x=>rfl
 | n+1,x=>by rw [List.replicate_succ,List.cons_append,ZO 32 _ (by decide),Yw n x]
def ZR (many:Bool):List (List zU)->zU->List zU
 | [],c=>[c]
 | S :: r,c=>if many=false/\r=[] then S++[c] else S++(6,[44]) :: ZR many r c
theorem jbc (c:UInt8)(hc:isM c=true)(x:List UInt8):∀(ps:List (List UInt8)),(∀p∈ps,Sep p)->jE (jk ps++c :: x)=ZR false (ps.map jE) (6,[c])++jE x
 | [],_=>by
  show jE (c :: x)=_
  rw [zz c x hc];rfl
 | [p],h=>by
  have hw:isW c=false:=by
   unfold isM at hc;simp only [Bool.or_eq_true,beq_iff_eq] at hc
   rcases hc with ((((((h | h) | h) | h) | h) | h) | h)<;>(rw [show c=_ from h];decide)
  show jE (p++c :: x)=_
  rw [h p (by simp) _ (Zx hw),zz c x hc]
  show _=(if false=false/\([]:List (List zU))=[] then jE p++[(6,[c])] else _)++jE x
  rw [if_pos ⟨rfl,rfl⟩];simp
 | p :: q :: r,h=>by
  have ih:=jbc c hc x (q :: r) (fun y hy=>h y (by simp [hy]))
  have e:jk (p :: q :: r)++c :: x=p++44 :: 32 :: (jk (q :: r)++c :: x):=by
   show(p++44 :: 32 :: jk (q :: r))++c :: x=_
   simp
  rw [e,h p (by simp) _ (Zx (by decide)),zz 44 _ (by decide),ZO 32 _ (by decide),ih]
  show _=(if false=false/\(q :: r).map jE=[] then _ else jE p++(6,[44]) :: ZR false ((q :: r).map jE) (6,[c]))++jE x
  rw [if_neg (by simp)];simp
theorem ja7 (c:UInt8)(hc:isM c=true)(d:Nat)(x:List UInt8):∀(ps:List (List UInt8)),(∀p∈ps,Sep p)->jE (jr d ps++10 :: (inL d++c :: x))=ZR true (ps.map jE) (6,[c])++jE x
 | [],_=>by
  show jE (10 :: (inL d++c :: x))=_
  rw [jcI,inL,Yw,zz c x hc];rfl
 | p :: r,h=>by
  have ih:=ja7 c hc d x r (fun y hy=>h y (by simp [hy]))
  have e:jr d (p :: r)++10 :: (inL d++c :: x)=10 :: (inL (d+1)++(p++44 :: (jr d r++10 :: (inL d++c :: x)))):=by
   unfold jr Qd;simp
  rw [e,jcI,inL,Yw,h p (by simp) _ (Zx (by decide)),zz 44 _ (by decide)];rw [ih]
  show _=(if true=false/\_ then _ else jE p++(6,[44]) :: ZR true (r.map jE) (6,[c]))++jE x
  rw [if_neg (fun h=>by cases h.1)];simp
theorem jgN (many:Bool)(d:Nat)(c:UInt8)(hc:isM c=true)(x:List UInt8)(ps:List (List UInt8))(h:∀p∈ps,Sep p):jE (jq many d ps++c :: x)=ZR many (ps.map jE) (6,[c])++jE x:=by
 unfold jq;cases many with
 | false=>rw [if_neg (by decide)];exact jbc c hc x ps h
 | true=>
  rw [if_pos rfl]
  by_cases h0:ps=[]
  ·rw [if_pos h0,h0]
   show jE (c :: x)=_
   rw [zz c x hc];rfl
  ·rw [if_neg h0]
   have e:(jr d ps++10 :: inL d)++c :: x=jr d ps++10 :: (inL d++c :: x):=by simp
   rw [e];exact ja7 c hc d x ps h
theorem jcc (many:Bool)(d:Nat)(o c:UInt8)(ho:isM o=true)(hc:isM c=true)(ps:List (List UInt8))(h:∀p∈ps,Sep p):jE (o :: (jq many d ps++[c]))=(6,[o]) :: ZR many (ps.map jE) (6,[c])/\Sep (o :: (jq many d ps++[c])):=by
 have h0:∀x,jE ((o :: (jq many d ps++[c]))++x)=(6,[o]) :: (ZR many (ps.map jE) (6,[c])++jE x):=fun x=>by
  have e:(o :: (jq many d ps++[c]))++x=o :: (jq many d ps++c :: x):=by simp
  rw [e,zz o _ ho,jgN many d c hc x ps h]
 have h1:jE (o :: (jq many d ps++[c]))=(6,[o]) :: ZR many (ps.map jE) (6,[c]):=by
  have:=h0 [];rw [List.append_nil] at this;rw [this]
  show(6,[o]) :: (_++[])=_
  rw [List.append_nil]
 exact⟨h1,fun x _=>by rw [h0,h1];rfl⟩
theorem jag (many:Bool){G:List zU->V->Prop}(g:V->List UInt8):∀(vs:List V),(∀v∈vs,G (jE (g v)) v/\jE (g v)≠[])->ji9 G vs (ZR many ((vs.map g).map jE) (6,[93]))
 | [],_=>rfl
 | v :: vs,h=>by
  obtain⟨h1,h2⟩:=h v (by simp);have ih:=jag many g vs (fun y hy=>h y (by simp [hy]))
  show ji9 G (v :: vs) (if many=false/\(vs.map g).map jE=[] then jE (g v)++[(6,[93])] else jE (g v)++(6,[44]) :: ZR many ((vs.map g).map jE) (6,[93]))
  by_cases hc:many=false/\(vs.map g).map jE=[]
  ·rw [if_pos hc]
   have hv:vs=[]:=by simpa using hc.2
   exact⟨_,_,[],h2,h1,rfl,.inr ⟨rfl,hv,rfl⟩⟩
  ·rw [if_neg hc]
   exact⟨_,_,_,h2,h1,rfl,.inl ⟨rfl,ih⟩⟩
theorem jai (many:Bool){G:List zU->V->Prop}(g:V->List UInt8):∀(es:List V) (keys:List (List UInt8)),(keys++es.map (fun e=>(jz e).1)).Nodup->(∀e∈es,∃kt y,e=ent (jz e).1 y/\(kt.1=4\/kt.1=5)/\jaK kt.2 kt.1 (jz e).1 0/\∃sv,G sv y/\jE (g e)=kt :: (6,[58]) :: sv)->ji4 G keys es (ZR many ((es.map g).map jE) (6,[125]))
 | [],_,_,_=>rfl
 | e :: es,keys,hn,h=>by
  obtain⟨kt,y,h1,h2,h3,sv,h4,h5⟩:=h e (by simp);have ih:=jai many g es (keys++[(jz e).1]) (by rw [List.append_assoc];exact hn) (fun y hy=>h y (by simp [hy]))
  have hk:(jz e).1∉keys:=by
   rw [List.nodup_append] at hn;intro hm;exact hn.2.2 _ hm _ (by simp) rfl
  show ji4 G keys (e :: es) (if many=false/\(es.map g).map jE=[] then jE (g e)++[(6,[125])] else jE (g e)++(6,[44]) :: ZR many ((es.map g).map jE) (6,[125]))
  by_cases hc:many=false/\(es.map g).map jE=[]
  ·rw [if_pos hc]
   have hv:es=[]:=by simpa using hc.2
   exact⟨kt,(6,[58]),sv,(6,[125]),[],(jz e).1,y,h2,h3,hk,.inl rfl,h4,h1,by rw [h5];rfl,.inr ⟨rfl,hv,rfl⟩⟩
  ·rw [if_neg hc]
   exact⟨kt,(6,[58]),sv,(6,[44]),_,(jz e).1,y,h2,h3,hk,.inl rfl,h4,h1,by rw [h5];rfl,.inl ⟨rfl,ih⟩⟩
theorem J7:∀(l:List (List UInt8)) (p:Option (List UInt8)),qw p l=0->(∀k∈l,utfs.bad k<0)/\l.Pairwise (fun a b=>ZG a b=.lt)/\∀q,p=some q->∀k∈l,ZG q k=.lt
 | [],_,_=>⟨fun _ h=>by(cases h),List.Pairwise.nil,fun _ _ _ h=>by(cases h)⟩
 | x :: r,p,h=>by
  have h':(if qZ p x=0 then qw (some x) r else qZ p x)=0:=h
  by_cases h0:qZ p x=0
  ·rw [if_pos h0] at h'
   obtain⟨i1,i2,i3⟩:=J7 r (some x) h';unfold qZ at h0
   by_cases h1:100<x.length
   ·rw [if_pos h1] at h0
    cases h0
   ·rw [if_neg h1] at h0
    by_cases h2:0<=utfs.bad x
    ·rw [if_pos h2] at h0
     cases h0
    ·rw [if_neg h2] at h0
     refine⟨fun k hk=>?_,List.Pairwise.cons (i3 x rfl) i2,fun q hq k hk=>?_⟩
     ·rcases List.mem_cons.1 hk with rfl | hk
      ·omega
      ·exact i1 k hk
     ·subst hq
      have hl:ZG q x=.lt:=by
       unfold jbN at h0;simp only at h0
       by_cases hb:Op.bytesLess q x=true
       ·rw [Zv] at hb
        exact of_decide_eq_true hb
       ·rw [if_neg hb] at h0
        cases h0
      rcases List.mem_cons.1 hk with rfl | hk
      ·exact hl
      ·exact jdD hl (i3 x rfl k hk)
  ·rw [if_neg h0] at h'
   exact absurd h' h0
theorem ZQ {v:V}(h:jR v=0):((bigs.jo (opn v).1.2.2.1).2.2=2->(opn v).1.2.2.1=9221120237041090561)/\utfs.bad (opn v).1.2.2.2<0/\qw none (jS (opn v).2.2)=0:=by
 unfold jR at h
 by_cases hk:Ja (opn v).1.1 (opn v).1.2.1 (opn v).1.2.2.1 (opn v).1.2.2.2 (opn v).2.1.length (opn v).2.2.length
 ·rw [if_neg (fun h=>h hk)] at h
  split at h
  ·cases h
  ·split at h
   ·cases h
   ·rename_i hu
    exact⟨hk.2.2.2.2.2.2.2,by omega,h⟩
 ·rw [if_pos hk] at h
  cases h
theorem jbj {F:Nat->List UInt8}(hF:∀b,b<18446744073709551616->jv b (F b))(many:Bool):∀(f d:Nat) (v:V),IsV f v->Jq f v->jC jR v=0->Gr f (jE (ji F many f d v)) v/\Sep (ji F many f d v)
 | 0,_,_,h,_,_=>h.elim
 | f+1,d,v,hI,hG,h0=>by
  obtain⟨⟨k,n,b,s⟩,L,E,rfl,hb,hL,hE⟩:=hI;obtain⟨o,_,gL,gE⟩:=hG;obtain⟨p1,p2,p3⟩:=ZQ (Jk h0);rw [qJ] at o gL gE p1 p2 p3;simp only at gL gE p1 p2 p3 hb;have o1:=o.k;have o2:=o.n;have o3:=o.b;have o4:=o.i;have o5:=o.f;have o6:=o.s;have o7:=o.l;have o8:=o.e;simp only at o1 o2 o3 o4 o5 o6 o7 o8;have hLg:∀y∈L,jC jR y=0:=fun y hy=>zb h0 (by rw [j8];exact List.mem_append_left _ hy)
  have hEg:∀e∈E,jC jR (jz e).2=0:=fun e he=>zb h0 (by rw [j8];exact List.mem_append_right _ (List.mem_map.2 ⟨e,he,rfl⟩))
  have hEI:∀e∈E,e=ent (jz e).1 (jz e).2/\IsV f (jz e).2:=fun e he=>by
   obtain⟨k',y,rfl,hy⟩:=hE e he;exact⟨by rw [qk],by rw [qk];exact hy⟩
  by_cases k5:k=5
  ·subst k5
   have e1:n=0:=by have:=mt o2 (by omega);omega
   have e2:b=0:=by have:=mt o5 (by omega);omega
   have e3:s=[]:=Classical.byContradiction fun e=>by have:=o6 e;omega
   have e4:E=[]:=Classical.byContradiction fun e=>by have:=o8 e;omega
   subst e1 e2 e3 e4
   have et:ji F many (f+1) d (mkV (5,0,0,[]) L [])=91 :: (jq many d (L.map (ji F many f (d+1)))++[93]):=by
    rw [ji,qJ,if_pos rfl]
   have ih:=fun y (hy:y∈L)=>jbj hF many f (d+1) y (hL y hy) (gL y hy) (hLg y hy)
   obtain⟨s1,s2⟩:=jcc many d 91 93 (by decide) (by decide) (L.map (ji F many f (d+1))) (fun p hp=>by
    obtain⟨y,hy,rfl⟩:=List.mem_map.1 hp;exact(ih y hy).2)
   rw [et];exact⟨.inr (.inl ⟨_,L,s1,jag many _ L (fun y hy=>⟨(ih y hy).1,jjl (ih y hy).1⟩),rfl⟩),s2⟩
  ·by_cases k6:k=6
   ·subst k6
    have e1:n=0:=by have:=mt o2 (by omega);omega
    have e2:b=0:=by have:=mt o5 (by omega);omega
    have e3:s=[]:=Classical.byContradiction fun e=>by have:=o6 e;omega
    have e4:L=[]:=Classical.byContradiction fun e=>by have:=o7 e;omega
    subst e1 e2 e3 e4
    have et:ji F many (f+1) d (mkV (6,0,0,[]) [] E)=123 :: (jq many d (E.map (fun e=>qv (jz e).1 (ji F many f (d+1) (jz e).2)))++[125]):=by
     rw [ji,qJ,if_neg (show ¬(6:Int)=5 by decide),if_pos rfl]
    have ih:=fun e (he:e∈E)=>jbj hF many f (d+1) (jz e).2 (hEI e he).2 (gE e he) (hEg e he)
    obtain⟨kg,ka,_⟩:=J7 _ _ p3
    have hone:∀e∈E,∃kt:zU,(kt.1=4\/kt.1=5)/\jaK kt.2 kt.1 (jz e).1 0/\jE (qv (jz e).1 (ji F many f (d+1) (jz e).2))=kt :: (6,[58]) :: jE (ji F many f (d+1) (jz e).2)/\Sep (qv (jz e).1 (ji F many f (d+1) (jz e).2)):=fun e he=>by
     obtain⟨t,t1,t2,t3,t4,_⟩:=XA (kg (jz e).1 (List.mem_map.2 ⟨e,he,rfl⟩))
     have all:∀x,NoW x->jE (qv (jz e).1 (ji F many f (d+1) (jz e).2)++x)=t :: (6,[58]) :: (jE (ji F many f (d+1) (jz e).2)++jE x):=fun x hx=>by
      unfold qv;rw [List.append_assoc,List.cons_append,List.cons_append,t4 _ (Zx (by decide)),t3,zz 58 _ (by decide),ZO 32 _ (by decide),(ih e he).2 x hx];rfl
     have h1:=all [] jeS;rw [List.append_nil] at h1;have h2:jE ([]:List UInt8)=[]:=rfl;rw [h2,List.append_nil] at h1;exact⟨t,t1,t2,h1,fun x hx=>by rw [all x hx,h1];rfl⟩
    obtain⟨s1,s2⟩:=jcc many d 123 125 (by decide) (by decide) (E.map (fun e=>qv (jz e).1 (ji F many f (d+1) (jz e).2))) (fun p hp=>by
     obtain⟨e,he,rfl⟩:=List.mem_map.1 hp;obtain⟨_,_,_,_,h⟩:=hone e he;exact h)
    rw [et];refine⟨.inr (.inr ⟨_,E,E,s1,jai many _ E [] ?_ (fun e he=>?_),.refl _,?_,rfl⟩),s2⟩
    ·rw [List.nil_append]
     exact ka.imp (fun {a b} h e=>by rw [e,jaX] at h;cases h)
    ·obtain⟨kt,h1,h2,h3,_⟩:=hone e he
     exact⟨kt,(jz e).2,(hEI e he).1,h1,h2,_,(ih e he).1,h3⟩
    ·unfold jj7
     unfold jS at ka;rw [List.pairwise_map] at ka;exact ka
   ·have e4:L=[]:=Classical.byContradiction fun e=>k5 (o7 e)
    have e5:E=[]:=Classical.byContradiction fun e=>k6 (o8 e)
    subst e4 e5
    have et:ji F many (f+1) d (mkV (k,n,b,s) [] [])=z7 F (k,n,b,s):=by
     rw [ji,qJ,if_neg k5,if_neg k6]
    rw [et]
    have word:∀T:List UInt8,z7 F (k,n,b,s)=T->T≠[]->(∀c∈T,isW c=true)->Yn T (k,n,b,s) 0->Gr (f+1) (jE (z7 F (k,n,b,s))) (mkV (k,n,b,s) [] [])/\Sep (z7 F (k,n,b,s)):=fun T e h1 h2 h3=>by
     rw [e];obtain⟨s1,s2⟩:=jcp h1 h2;refine⟨.inl ⟨4,T,(k,n,b,s),s1,.inl rfl,?_,rfl⟩,s2⟩;unfold jeb;rw [if_pos rfl];exact h3
    have hk:k=0\/k=1\/k=2\/k=3\/k=4:=by omega
    rcases hk with rfl | rfl | rfl | rfl | rfl
    ·have e1:n=0:=by have:=mt o2 (by omega);omega
     have e2:b=0:=by have:=mt o5 (by omega);omega
     have e3:s=[]:=Classical.byContradiction fun e=>by have:=o6 e;omega
     subst e1 e2 e3;exact word [110,117,108,108] rfl (by simp) (by decide) (.inl ⟨rfl,rfl,rfl⟩)
    ·have e2:b=0:=by have:=mt o5 (by omega);omega
     have e3:s=[]:=Classical.byContradiction fun e=>by have:=o6 e;omega
     subst e2 e3
     rcases o3 rfl with rfl | rfl
     ·exact word [102,97,108,115,101] rfl (by simp) (by decide) (.inr (.inl ⟨rfl,rfl,rfl⟩))
     ·exact word [116,114,117,101] rfl (by simp) (by decide) (.inr (.inr (.inl ⟨rfl,rfl,rfl⟩)))
    ·have e2:b=0:=by have:=mt o5 (by omega);omega
     have e3:s=[]:=Classical.byContradiction fun e=>by have:=o6 e;omega
     subst e2 e3;obtain⟨q1,q2,q3⟩:=jhQ o4.1 o4.2;exact word (tellB 10 n) rfl q1 q2 q3
    ·have e1:n=0:=by have:=mt o2 (by omega);omega
     have e3:s=[]:=Classical.byContradiction fun e=>by have:=o6 e;omega
     subst e1 e3;obtain⟨q1,q2,_,q3⟩:=jgl hb p1 (hF b hb);exact word (F b) rfl q1 q2 q3
    ·have e1:n=0:=by have:=mt o2 (by omega);omega
     have e2:b=0:=by have:=mt o5 (by omega);omega
     subst e1 e2;obtain⟨g1,g2⟩:=utfs.zt p2
     have e:z7 F (4,0,0,s)=escs.jF (utfs.QS s):=by
      show escs.YV s=_
      unfold escs.YV;rw [if_neg (by omega)]
     rw [e];obtain⟨s1,s2⟩:=jaU g2;obtain⟨u1,u2⟩:=ja9 g2;refine⟨.inl ⟨5,_,(4,0,0,s),s1,.inr rfl,?_,rfl⟩,s2⟩;unfold jeb;rw [if_neg (by decide)];refine⟨u1.symm,?_⟩;rw [if_pos rfl,u2,<-g1]
open bigs (tellB jv)
def Qo (K:Nat):List (List UInt8)->Nat
 | []=>0
 | p :: r=>p.length+K+Qo K r
theorem jaR (K:Nat)(hK:2<=K):∀ps:List (List UInt8),(jk ps).length<=Qo K ps
 | []=>Nat.le_refl _
 | [p]=>by show p.length<=p.length+K+0;omega
 | p :: q :: r=>by
  have ih:=jaR K hK (q :: r)
  show(p++44 :: 32 :: jk (q :: r)).length<=p.length+K+Qo K (q :: r)
  rw [List.length_append,List.length_cons,List.length_cons];omega
theorem ja0 (d K:Nat)(hK:2*d+4<=K):∀ps:List (List UInt8),(jr d ps).length<=Qo K ps
 | []=>Nat.le_refl _
 | p :: r=>by
  have ih:=ja0 d K hK r;have e:jr d (p :: r)=Qd d p++jr d r:=rfl
  show(jr d (p :: r)).length<=p.length+K+Qo K r
  rw [e,List.length_append,JF];omega
theorem jcJ (many:Bool)(d K:Nat)(hK:2*d+4<=K)(ps:List (List UInt8)):(jq many d ps).length<=Qo K ps+K:=by
 unfold jq;cases many with
 | false=>
  rw [if_neg (by decide)];have:=jaR K (by omega) ps;omega
 | true=>
  rw [if_pos rfl]
  by_cases h:ps=[]
  ·rw [if_pos h,List.length_nil]
   omega
  ·rw [if_neg h,List.length_append,List.length_cons,qj]
   have:=ja0 d K hK ps;omega
theorem jbu (K:Nat)(g:V->List UInt8)(q:V->V)(c:V->Nat):∀vs:List V,(∀v∈vs,(g v).length+K<=30000*c (q v))->Qo K (vs.map g)<=30000*j3 c (vs.map q)
 | [],_=>Nat.le_refl _
 | v :: vs,h=>by
  have ih:=jbu K g q c vs (fun x hx=>h x (by simp [hx]));have h1:=h v (by simp);have e:j3 c ((v :: vs).map q)=c (q v)+j3 c (vs.map q):=rfl
  show(g v).length+K+Qo K (vs.map g)<=_
  rw [e];omega
theorem zx {F:Nat->List UInt8}(hF:∀b,b<18446744073709551616->jv b (F b))(many:Bool):∀(f d:Nat) (v:V),IsV f v->Jq f v->jC jR v=0->d+f<=90->(ji F many f d v).length+1000<=30000*jB f v
 | 0,_,_,h,_,_,_=>h.elim
 | f+1,d,v,hI,hG,h0,hd=>by
  obtain⟨⟨k,n,b,s⟩,L,E,rfl,hb,hL,hE⟩:=hI;obtain⟨o,⟨ho1,ho2⟩,gL,gE⟩:=hG;obtain⟨p1,p2,p3⟩:=ZQ (Jk h0);rw [qJ] at o ho1 ho2 gL gE p1 p2 p3;simp only at ho1 ho2 gL gE p1 p2 p3 hb;have en:jB (f+1) (mkV (k,n,b,s) L E)=j3 (jB f) (L++E.map (fun e=>(jz e).2))+1:=rfl;rw [en,zm];have hLg:∀y∈L,jC jR y=0:=fun y hy=>zb h0 (by rw [j8];exact List.mem_append_left _ hy)
  have hEg:∀e∈E,jC jR (jz e).2=0:=fun e he=>zb h0 (by rw [j8];exact List.mem_append_right _ (List.mem_map.2 ⟨e,he,rfl⟩))
  have hEI:∀e∈E,IsV f (jz e).2:=fun e he=>by
   obtain⟨k',y,rfl,hy⟩:=hE e he;rw [qk];exact hy
  rw [ji,qJ];simp only
  by_cases k5:k=5
  ·rw [if_pos k5]
   have h1:=jcJ many d 200 (by omega) (L.map (ji F many f (d+1)));have h2:=jbu 200 (ji F many f (d+1)) id (jB f) L (fun y hy=>by have:=zx hF many f (d+1) y (hL y hy) (gL y hy) (hLg y hy) (by omega);show _<=30000*jB f y;omega);rw [List.map_id] at h2;simp only [List.length_cons,List.length_append,List.length_nil];omega
  ·rw [if_neg k5]
   by_cases k6:k=6
   ·rw [if_pos k6]
    obtain⟨kg,_,_⟩:=J7 _ _ p3;have h1:=jcJ many d 200 (by omega) (E.map (fun e=>qv (jz e).1 (ji F many f (d+1) (jz e).2)))
    have h2:=jbu 200 (fun e=>qv (jz e).1 (ji F many f (d+1) (jz e).2)) (fun e=>(jz e).2) (jB f) E (fun e he=>by
     have:=zx hF many f (d+1) (jz e).2 (hEI e he) (gE e he) (hEg e he) (by omega);obtain⟨_,_,_,_,_,_,hkl⟩:=XA (kg (jz e).1 (List.mem_map.2 ⟨e,he,rfl⟩));have:=ho2 e he;unfold qv;simp only [List.length_append,List.length_cons];omega)
    simp only [List.length_cons,List.length_append,List.length_nil];omega
   ·rw [if_neg k6]
    have hl:(z7 F (k,n,b,s)).length<=24002:=by
     unfold z7;simp only;split
     ·split<;>simp
     ·split
      ·have:=bigs.tell_len (b:=10) (.inr (.inr (.inl rfl))) n o.i.1 o.i.2
       omega
      ·split
       ·have:=(bigs.X5 hb (hF b hb)).1
        omega
       ·split
        ·obtain⟨g1,g2⟩:=utfs.zt p2
         unfold escs.YV;rw [if_neg (by omega)];have:=escs.Yz g2;rw [<-g1] at this;omega
        ·simp
    omega
end valus
end Go.Proofs.YtnbfnjhbmeocfaaGreatDoor
