/- Of our texts, what this claim reaches. -/
import Derived.Test.YtnbfnjhbmeocfaaGreatDoorPmtAQ
import Derived.Test.YtnbfnjhbmeocfaaGreatDoorPmtAH
import Derived.Test.YtnbfnjhbmeocfaaGreatDoorPmtAA
import Derived.Test.YtnbfnjhbmeocfaaGreatDoorPmtBR
import Derived.Test.YtnbfnjhbmeocfaaGreatDoorPmtAW
import Derived.Deep.QuietTactic
import Derived.BigQuiet
import Derived.Test.YtnbfnjhbmeocfaaGreatDoorPmtBD
import Derived.Test.YtnbfnjhbmeocfaaGreatDoorPmtAP
import Derived.Test.YtnbfnjhbmeocfaaGreatDoorPmtBA
import Derived.Test.YtnbfnjhbmeocfaaGreatDoorPmtAB
set_option linter.unusedVariables false
namespace Go.Proofs.YtnbfnjhbmeocfaaGreatDoor
namespace valus
open toks (jB isB isW isM noL jF jk)
open bigs (jV numRes zI)
theorem jg8 {c:UInt8}(h1:c≠34)(h2:c≠10)(h3:c≠92)(y:List UInt8):jk (c :: y)=if jk y=0 then 0 else jk y+1:=by
 cases y with
 | nil=>simp [jk,h1]
 | cons d l=>rw [jk,if_neg h1,if_neg h2,if_neg h3]
theorem Xw {d:UInt8}(h:d≠10)(y:List UInt8):jk (92 :: d :: y)=if jk y=0 then 0 else jk y+2:=by
 rw [jk,if_neg (by decide),if_neg (by decide),if_pos rfl,if_neg h]
theorem jeA (y:List UInt8):jk (34 :: y)=1:=by
 cases y with
 | nil=>rfl
 | cons d l=>rw [jk,if_pos rfl]
theorem Q9:∀(l y:List UInt8),(∀c∈l,c≠34/\c≠10/\c≠92)->jk y≠0->jk (l++y)=l.length+jk y
 | [],y,_,_=>by simp
 | c :: l,y,h,hy=>by
  obtain⟨h1,h2,h3⟩:=h c (by simp);have ih:=Q9 l y (fun d hd=>h d (by simp [hd])) hy;rw [List.cons_append,jg8 h1 h2 h3,ih,if_neg (by omega),List.length_cons];omega
theorem Zi {d:Nat}(h:d<16):bigs.hexc d≠34/\bigs.hexc d≠10/\bigs.hexc d≠92:=by
 have:∀k:Fin 16,bigs.hexc k≠34/\bigs.hexc k≠10/\bigs.hexc k≠92:=by decide
 exact this ⟨d,h⟩
theorem jko {r:Int}(hs:utfs.sc r=true){y:List UInt8}(hy:jk y≠0):jk (escs.qr r++y)=(escs.qr r).length+jk y:=by
 have h0:=utfs.qH hs
 rcases escs.ZU r hs with h | ⟨h,h34,h92,h10,h9,h13⟩ | ⟨h,h127,h34,h92⟩
 ·rcases h with rfl | rfl | rfl | rfl | rfl
  all_goals
   show jk (92 :: _ :: y)=2+jk y
   rw [Xw (by decide),if_neg hy];omega
 ·rw [escs.jcu h h10 h9 h13]
  have hl:∀c∈(123 :: (bigs.digB 16 r.toNat++[125]):List UInt8),c≠34/\c≠10/\c≠92:=by
   rcases escs.X4 h0.1 h with ⟨d,hd,_,eg⟩ | ⟨a,d,ha,hd,_,eg⟩
   ·rw [eg]
    intro c hc;simp at hc
    rcases hc with rfl | rfl | rfl
    ·decide
    ·exact Zi hd
    ·decide
   ·rw [eg]
    intro c hc;simp at hc
    rcases hc with rfl | rfl | rfl | rfl
    ·decide
    ·exact Zi ha
    ·exact Zi hd
    ·decide
  have e:=Q9 _ y hl hy
  show jk (92 :: 117 :: ((123 :: (bigs.digB 16 r.toNat++[125]))++y))=_
  rw [Xw (by decide),e,if_neg (by omega)];simp only [List.length_cons];omega
 ·rw [escs.ZP h h127 h34 h92]
  refine Q9 _ y (fun c hc=>?_) hy
  have key:∀x:Int,0<=x->x<256->x≠34->x≠10->x≠92->(x.toNat.toUInt8≠34/\x.toNat.toUInt8≠10/\x.toNat.toUInt8≠92):=fun x a b q1 q2 q3=>by
   have e:=utfs.jX a b;refine⟨fun e'=>?_,fun e'=>?_,fun e'=>?_⟩<;>rw [e'] at e
   ·have t:(34:UInt8).toNat=34:=rfl
    omega
   ·have t:(10:UInt8).toNat=10:=rfl
    omega
   ·have t:(92:UInt8).toNat=92:=rfl
    omega
  rcases utfs.JR hs with ⟨a,e⟩ | ⟨a,b,e⟩ | ⟨a,b,e⟩ | ⟨a,e⟩<;>rw [e] at hc<;>simp only [List.mem_cons,List.not_mem_nil,or_false] at hc
  ·rw [hc]
   exact key _ (by omega) (by omega) (by omega) (by omega) (by omega)
  ·rcases hc with rfl | rfl
   all_goals exact key _ (by omega) (by omega) (by omega) (by omega) (by omega)
  ·rcases hc with rfl | rfl | rfl
   all_goals exact key _ (by omega) (by omega) (by omega) (by omega) (by omega)
  ·rcases hc with rfl | rfl | rfl | rfl
   all_goals exact key _ (by omega) (by omega) (by omega) (by omega) (by omega)
theorem jfH:∀(rs:List Int) (x:List UInt8),(∀r∈rs,utfs.sc r=true)->jk (escs.qs rs++34 :: x)=(escs.qs rs).length+1
 | [],x,_=>by rw [escs.jk7];exact jeA x
 | r :: rs,x,h=>by
  have ih:=jfH rs x (fun q hq=>h q (by simp [hq]));rw [escs.X7,List.append_assoc,jko (h r (by simp)) (by rw [ih];omega),ih,List.length_append];omega
theorem jhz {rs:List Int}(h:∀r∈rs,utfs.sc r=true):escs.jaL (escs.unq (escs.jJ rs))=0/\escs.ZR (escs.unq (escs.jJ rs))=utfs.enc rs:=by
 have:=escs.jih rs [] h;rw [List.append_nil] at this;rw [this];exact⟨rfl,rfl⟩
open trees (nd Sym pv pd q7 zA qF)
open toks (Tk jB jv J5 jN jF isB isW noL)
theorem jah:∀(n:Nat) (a x:List UInt8),a.length<=n->jkS a->qK (a++10 :: x)=qK a++qK (10 :: x)
 | 0,a,x,hn,_=>by
  obtain rfl:a=[]:=List.eq_nil_of_length_eq_zero (by omega);rfl
 | n+1,a,x,hn,hf=>by
  by_cases h0:a=[]
  ·subst h0
   rfl
  ·have hz:=jN h0
   have hlex:=zx h0;have hk7:(jB a).1≠7:=hf ((jB a).1,_) (by rw [hlex];exact List.mem_cons_self ..);have hfd:jkS (a.drop (jB a).2):=fun t ht=>hf t (by rw [hlex];exact List.mem_cons_of_mem _ ht)
   have e:jB (a++10 :: x)=jB a:=by
    rcases jiS (x:=10 :: x) h0 hk7 with he | ⟨hwhole,hc⟩
    ·exact he
    ·have r1:jF isB (10 :: x)=0:=Qq isB 10 x (by decide)
     have r2:jF isW (10 :: x)=0:=Qq isW 10 x (by decide);have r3:jF noL (10 :: x)=0:=Qq noL 10 x (by decide)
     rcases hc with ⟨hk,e⟩ | ⟨hk,e⟩ | ⟨hk,_,_,e⟩
     ·rw [e,r1];exact Prod.ext hk.symm hwhole.symm
     ·rw [e,r2];exact Prod.ext hk.symm hwhole.symm
     ·rw [e,r3];exact Prod.ext hk.symm hwhole.symm
   have ih:=jah n (a.drop (jB a).2) x (by rw [List.length_drop];omega) hfd;rw [zx (by simp [h0]),hlex,e,List.take_append_of_le_length hz.2.1,List.drop_append_of_le_length hz.2.1,ih];rfl
theorem Qi (c:UInt8)(x:List UInt8)(h:toks.isM c=true):qK (c :: x)=(6,[c]) :: qK x:=by
 have hb:isB c=false/\c≠10/\c≠35/\isW c=false:=by
  unfold toks.isM at h;simp only [Bool.or_eq_true,beq_iff_eq] at h
  rcases h with ((((((h | h) | h) | h) | h) | h) | h)<;>(rw [show c=_ from h];decide)
 have e:jB (c :: x)=(6,1):=by
  unfold jB;simp only;rw [if_neg (by rw [hb.1];decide),if_neg hb.2.1,if_neg hb.2.2.1,if_neg (by rw [hb.2.2.2];decide),if_pos h]
 rw [zx (by simp),e];rfl
theorem jd4 (x:List UInt8):qK (10 :: x)=(2,[10]) :: qK x:=by
 have e:jB (10 :: x)=(2,1):=by
  unfold jB;simp only;rw [if_neg (by decide),if_pos trivial]
 rw [zx (by simp),e];rfl
theorem jbC {rs:List Int}(h:∀r∈rs,utfs.sc r=true)(x:List UInt8):qK (escs.jJ rs++x)=(5,escs.jJ rs) :: qK x:=by
 have e:jB (escs.jJ rs++x)=(5,(escs.jJ rs).length):=by
  have h1:=jfH rs x h;unfold escs.jJ;have h2:(34 :: (escs.qs rs++[34]))++x=34 :: (escs.qs rs++34 :: x):=by simp
  rw [h2];unfold jB;simp only;rw [if_neg (by decide),if_neg (by decide),if_neg (by decide),if_neg (by decide),if_neg (by decide),h1,if_pos ⟨trivial,by omega⟩];simp
 exact jj4 (by unfold escs.jJ;simp) e
def Yz:List qy->Nat
 | []=>0
 | t :: r=>t.2.length+Yz r
theorem jcZ:∀(n:Nat) (l:List UInt8),l.length<=n->Yz (qK l)=l.length
 | 0,l,h=>by
  obtain rfl:l=[]:=List.eq_nil_of_length_eq_zero (by omega);rfl
 | n+1,l,h=>by
  by_cases h0:l=[]
  ·subst h0
   rfl
  ·have hz:=jN h0
   have ih:=jcZ n (l.drop (jB l).2) (by rw [List.length_drop];omega);rw [zx h0]
   show(l.take (jB l).2).length+Yz (qK (l.drop (jB l).2))=_
   rw [ih,List.length_take,List.length_drop];omega
theorem jfJ:∀(j p:Nat) (l:List UInt8) (t:Tk),(J5 p l)[j]?=some t->t.fro=p+Yz ((qK l).take j)
 | j,p,l,t,h=>by
  by_cases h0:l=[]
  ·subst h0
   exact absurd h (by simp [J5,toks.Yb])
  ·have hz:=jN h0
   rw [toks.zm h0] at h;cases j with
   | zero=>
    injection h with h;rw [<-h];rfl
   | succ j=>
    rw [List.getElem?_cons_succ] at h;have ih:=jfJ j _ _ t h;rw [ih,zx h0,List.take_succ_cons]
    show _=p+((l.take (jB l).2).length+_)
    rw [List.length_take];omega
theorem jcY (L:List UInt8):∀(A B:List Tk) (i:Nat),zA L i (A++B)=zA L i A++zA L (i+A.length) B
 | [],B,i=>rfl
 | t :: A,B,i=>by
  have ih:=jcY L A B (i+1);rw [List.cons_append,List.length_cons,show i+(A.length+1)=i+1+A.length by omega]
  by_cases hk:3<t.kind
  ·rw [trees.Jd hk,trees.Jd hk,ih]
   rfl
  ·rw [trees.Xp hk,trees.Xp hk,ih]
theorem jhl (X:ByteArray)(A B:List qy)(b:qy)(hx:qK X.data.toList=A++b :: B)(hb:3<b.1):∃(ts1 ts2:List Sym) (y:Sym),q7 X.data.toList=ts1++y :: ts2/\zh (JJ X (jv X.data.toList)) ts1=A.filter jct/\JJ X (jv X.data.toList) y.2=b/\zh (JJ X (jv X.data.toList)) ts2=B.filter jct/\y.2=A.length/\y.2<(jv X.data.toList).length/\Xf (jv X.data.toList) y.2=((Yz A:Nat):Int):=by
 have hl:=ja8 X.data.toList;rw [hx] at hl;obtain⟨TA,TB,e1,e2,e3⟩:=List.map_eq_append_iff.1 hl.symm;obtain⟨tb,TC,rfl,e4,e5⟩:=List.map_eq_cons_iff.1 e3;have hlen:TA.length=A.length:=by rw [<-e2,List.length_map]
 have hct:∀(k:Nat) (h:k<(jv X.data.toList).length),JJ X (jv X.data.toList) k=QW X.data.toList (jv X.data.toList)[k]:=fun k h=>jcE X k h
 have hkb:3<tb.kind:=by rw [<-e4] at hb;exact hb
 have hs:q7 X.data.toList=zA X.data.toList 0 TA++zA X.data.toList (0+TA.length) (tb :: TC):=by
  unfold q7;rw [e1];exact jcY _ TA (tb :: TC) 0
 rw [trees.Jd hkb,Nat.zero_add] at hs;have hsz:(jv X.data.toList).length=TA.length+(TC.length+1):=by rw [e1,List.length_append,List.length_cons]
 have hlt:TA.length<(jv X.data.toList).length:=by omega
 have hget:(jv X.data.toList)[TA.length]?=some tb:=by rw [e1,List.getElem?_append_right (Nat.le_refl _),Nat.sub_self];rfl
 have hget':(jv X.data.toList)[TA.length]=tb:=by
  rw [List.getElem?_eq_getElem hlt] at hget;injection hget
 refine⟨_,_,_,hs,?_,?_,?_,hlen,hlt,?_⟩
 ·rw [<-e2]
  refine QA _ _ TA 0 (fun k h=>?_);rw [Nat.zero_add,hct k (by omega)]
  congr 1
  have:(jv X.data.toList)[k]?=some TA[k]:=by rw [e1,List.getElem?_append_left h,List.getElem?_eq_getElem h]
  rw [List.getElem?_eq_getElem (by omega)] at this;injection this
 ·show JJ X (jv X.data.toList) TA.length=b
  rw [hct _ hlt,hget',e4]
 ·rw [<-e5]
  refine QA _ _ TC (TA.length+1) (fun k h=>?_);rw [hct (TA.length+1+k) (by omega)]
  congr 1
  have:(jv X.data.toList)[TA.length+1+k]?=some TC[k]:=by rw [e1,List.getElem?_append_right (by omega),show TA.length+1+k - TA.length=k+1 by omega,List.getElem?_cons_succ,List.getElem?_eq_getElem h]
  rw [List.getElem?_eq_getElem (by omega)] at this;injection this
 ·show Xf (jv X.data.toList) TA.length=_
  unfold Xf;rw [dif_pos hlt,hget'];have h:=jfJ TA.length 0 X.data.toList tb hget;rw [h,hx,hlen,List.take_left' rfl,Nat.zero_add]
def Jo (K s:List UInt8):List UInt8:=123 :: (K++58 :: (s++10 :: [44]))
def jcj (K s t:List UInt8):List UInt8:=Jo K s++(K++61 :: (t++10 :: [125]))
theorem jdM {rs:List Int}(hr:∀r∈rs,utfs.sc r=true){s t X:ByteArray}{v u:V}(hs:qx s (.inl v))(ht:qx t (.inl u))(dv:jO 40 v<=19)(du:jO 40 u<=19)(hX:X.data.toList=jcj (escs.jJ rs) s.data.toList t.data.toList)(hl:X.size<=20000):qx X (.inr (((Jo (escs.jJ rs) s.data.toList).length:Int),6)):=by
 obtain⟨_,gs,_⟩:=Qf hs;obtain⟨_,gt,_⟩:=Qf ht;have fs:=jfR gs;have ft:=jfR gt;have gs19:=jeR 20 40 19 _ _ (by omega) dv gs;have gt19:=jeR 20 40 19 _ _ (by omega) du gt
 have lF:∀x,qK (Jo (escs.jJ rs) s.data.toList++x)=((6,[123]) :: (5,escs.jJ rs) :: (6,[58]) :: (qK s.data.toList++[(2,[10]),(6,[44])]))++qK x:=fun x=>by
  have e:Jo (escs.jJ rs) s.data.toList++x=123 :: (escs.jJ rs++58 :: (s.data.toList++10 :: 44 :: x)):=by unfold Jo;simp
  rw [e,Qi 123 _ (by decide),jbC hr,Qi 58 _ (by decide),jah _ _ _ (Nat.le_refl _) fs,jd4,Qi 44 _ (by decide)];simp
 have lR:qK (escs.jJ rs++61 :: (t.data.toList++10 :: [125]))=(5,escs.jJ rs) :: ((6,[61]) :: (qK t.data.toList++[(2,[10]),(6,[125])])):=by
  rw [jbC hr,Qi 61 _ (by decide),jah _ _ _ (Nat.le_refl _) ft,jd4,Qi 125 _ (by decide)];rfl
 have lX:qK X.data.toList=((6,[123]) :: (5,escs.jJ rs) :: (6,[58]) :: (qK s.data.toList++[(2,[10]),(6,[44])]))++(5,escs.jJ rs) :: ((6,[61]) :: (qK t.data.toList++[(2,[10]),(6,[125])])):=by
  rw [hX];unfold jcj;rw [lF,lR]
 have lenF:Yz ((6,[123]) :: (5,escs.jJ rs) :: (6,[58]) :: (qK s.data.toList++[(2,[10]),(6,[44])]))=(Jo (escs.jJ rs) s.data.toList).length:=by
  have h1:=lF [];rw [List.append_nil] at h1;have h2:=jcZ _ (Jo (escs.jJ rs) s.data.toList) (Nat.le_refl _);rw [h1] at h2;rw [<-h2]
  show _=Yz (_++[])
  rw [List.append_nil]
 obtain⟨ts1,ts2,y,hsol,c1,cy,c2,hy,hylt,hpl⟩:=jhl X _ _ _ lX (show 3<5 by decide);rw [lenF] at hpl;have hf:=jbI X;rw [hsol] at hf
 have f1:(((6,[123]) :: (5,escs.jJ rs) :: (6,[58]) :: (qK s.data.toList++[(2,[10]),(6,[44])])).filter jct)=(6,[123]) :: (5,escs.jJ rs) :: (6,[58]) :: (jcc s.data.toList++[(6,[44])]):=by
  unfold jcc;simp [jct,List.filter_append]
 have f2:(((6,[61]) :: (qK t.data.toList++[(2,[10]),(6,[125])])).filter jct)=(6,[61]) :: (jcc t.data.toList++[(6,[125])]):=by
  unfold jcc;simp [jct,List.filter_append]
 rw [f1] at c1;rw [f2] at c2;generalize hct:JJ X (jv X.data.toList)=ct at *;generalize hplo:Xf (jv X.data.toList)=pl at *;obtain⟨x0,r1,rfl,a0,a1⟩:=List.map_eq_cons_iff.1 c1;obtain⟨k1,r2,rfl,a2,a3⟩:=List.map_eq_cons_iff.1 a1;obtain⟨m1,r3,rfl,a4,a5⟩:=List.map_eq_cons_iff.1 a3;obtain⟨sv1,r4,rfl,a6,a7⟩:=List.map_eq_append_iff.1 a5;obtain⟨z1,r5,rfl,a8,a9⟩:=List.map_eq_cons_iff.1 a7;rw [List.map_eq_nil_iff] at a9;subst a9;obtain⟨m2,q1,rfl,b1,b2⟩:=List.map_eq_cons_iff.1 c2;obtain⟨sv2,q2,rfl,b3,b4⟩:=List.map_eq_append_iff.1 b2;obtain⟨z2,q3,rfl,b5,b6⟩:=List.map_eq_cons_iff.1 b4;rw [List.map_eq_nil_iff] at b6;subst b6;have gs':Gr 19 (zh ct sv1) v:=by show Gr 19 (sv1.map _) v;rw [a6];exact gs19
 have gt':Gr 19 (zh ct sv2) u:=by show Gr 19 (sv2.map _) u;rw [b3];exact gt19
 obtain⟨t1,p1,p2⟩:=jeX (pl:=pl) 19 sv1 v (fun x hx=>hf x (by simp [hx])) gs';obtain⟨t2,p3,p4⟩:=jeX (pl:=pl) 19 sv2 u (fun x hx=>hf x (by simp [hx])) gt';have hx0:x0.1=123:=((hf x0 (by simp)).mark 123 (by decide) (by decide)).2 a0;have hk1:k1.1=120:=(hf k1 (by simp)).one.2 (by rw [a2];exact .inr rfl);have hm1:m1.1=58:=((hf m1 (by simp)).mark 58 (by decide) (by decide)).2 a4;have hz1:z1.1=44:=((hf z1 (by simp)).mark 44 (by decide) (by decide)).2 a8;have hyk:y.1=120:=(hf y (by simp)).one.2 (by rw [cy];exact .inr rfl);have hm2:m2.1=61:=((hf m2 (by simp)).mark 61 (by decide) (by decide)).2 b1;have hz2:z2.1=125:=((hf z2 (by simp)).mark 125 (by decide) (by decide)).2 b5
 have e2:qF (pv 19) (y :: m2 :: (sv2++z2 :: []))=.inr (nd 4 y.2 (trees.J7 t2) [nd 2 y.2 (y.2+1) [],t2],z2 :: []):=by
  rw [trees.qG,if_pos hyk,if_pos (.inr hm2),XZ (trees.qJ 19) p3 [z2]]
 have e1:qF (pv 19) (k1 :: m1 :: (sv1++z1 :: (y :: m2 :: (sv2++[z2]))))=.inr (nd 4 k1.2 (trees.J7 t1) [nd 2 k1.2 (k1.2+1) [],t1],z1 :: (y :: m2 :: (sv2++[z2]))):=by
  rw [trees.qG,if_pos hk1,if_pos (.inl hm1),XZ (trees.qJ 19) p1 _]
 have kids:trees.Kids (qF (pv 19)) 125 [nd 4 k1.2 (trees.J7 t1) [nd 2 k1.2 (k1.2+1) [],t1],nd 4 y.2 (trees.J7 t2) [nd 2 y.2 (y.2+1) [],t2]] (k1 :: m1 :: (sv1++z1 :: (y :: m2 :: (sv2++[z2])))) (z2.2+1) [] :=
  ⟨k1,_,z1,_,rfl,by rw [hk1];decide,e1,.inl ⟨hz1,y,_,z2,[],rfl,by rw [hyk];decide,e2,.inr ⟨by rw [hz2];decide,hz2,rfl,rfl,rfl⟩⟩⟩
 have hform:(x0 :: k1 :: m1 :: (sv1++[z1]))++y :: m2 :: (sv2++[z2])=x0 :: (k1 :: m1 :: (sv1++z1 :: (y :: m2 :: (sv2++[z2])))):=by simp
 have hpv:pv 20 (q7 X.data.toList)=.inr (nd 3 x0.2 (z2.2+1) [nd 4 k1.2 (trees.J7 t1) [nd 2 k1.2 (k1.2+1) [],t1],nd 4 y.2 (trees.J7 t2) [nd 2 y.2 (y.2+1) [],t2]],[]):=by
  rw [hsol,hform,pv,if_neg (by rw [hx0];decide),if_pos hx0];exact trees.zJ 3 x0.2 (by decide) _ _ [] _ (z2.2+1) [] kids (jb0 (trees.Qy (trees.qJ 19)) kids)
 obtain⟨u1,u2⟩:=jhz hr
 have kt:Jf (escs.jJ rs) 5 (utfs.enc rs) 0:=by
  unfold Jf;rw [if_neg (show ¬(5:Nat)=4 by decide)];exact⟨u2.symm,u1.symm⟩
 have kg1:Ja ct pl [] k1.2 (.inl (utfs.enc rs)):=⟨utfs.enc rs,0,by rw [a2];exact kt,.inl ⟨rfl,by simp,rfl⟩⟩
 have kg2:Ja ct pl [utfs.enc rs] y.2 (.inr (pl y.2,6)):=⟨utfs.enc rs,0,by rw [cy];exact kt,.inr (.inl ⟨rfl,by simp,rfl⟩)⟩
 have hM:qt (Ja ct pl) (zD ct pl) 20 (nd 3 x0.2 (z2.2+1) [nd 4 k1.2 (trees.J7 t1) [nd 2 k1.2 (k1.2+1) [],t1],nd 4 y.2 (trees.J7 t2) [nd 2 y.2 (y.2+1) [],t2]]) (.inr (pl y.2,6)) :=
  ⟨3,_,_,_,rfl,.inl ⟨rfl,_,_,_,_,_,_,t1,rfl,.inl ⟨utfs.enc rs,kg1,.inl ⟨v,p2,_,_,_,_,_,_,t2,rfl,.inr ⟨_,kg2,rfl⟩⟩⟩⟩⟩
 rw [hpl] at hM;have hM':=hM;rw [<-hct,<-hplo] at hM';have hM2:=(Z9 rfl 20 _ _ (jbu X hl hpv) 20).2 hM';have hp:pd (q7 X.data.toList)=.inr (nd 3 x0.2 (z2.2+1) [nd 4 k1.2 (trees.J7 t1) [nd 2 k1.2 (k1.2+1) [],t1],nd 4 y.2 (trees.J7 t2) [nd 2 y.2 (y.2+1) [],t2]],[]):=by unfold pd;rw [hpv]
 exact .inr ⟨hl,.inr ⟨_,hp,.inl ⟨_,hM2,rfl⟩⟩⟩
open toks (jB isB isW isM noL jF jk)
theorem jbm {v:V}(h:qi v=0):((bigs.Jm (opn v).1.2.2.1).2.2=2->(opn v).1.2.2.1=9221120237041090561)/\utfs.bad (opn v).1.2.2.2<0/\zR none (qN (opn v).2.2)=0:=by
 unfold qi at h
 by_cases hk:JS (opn v).1.1 (opn v).1.2.1 (opn v).1.2.2.1 (opn v).1.2.2.2 (opn v).2.1.length (opn v).2.2.length
 ·rw [if_neg (fun h=>h hk)] at h
  split at h
  ·cases h
  ·split at h
   ·cases h
   ·rename_i hu
    exact⟨hk.2.2.2.2.2.2.2,by omega,h⟩
 ·rw [if_pos hk] at h
  cases h
end valus
end Go.Proofs.YtnbfnjhbmeocfaaGreatDoor
