/- Of our texts, what this claim reaches. -/
import Derived.Test.YtnbfnjhbmeocfaaGreatDoorPmtBO
import Derived.Test.YtnbfnjhbmeocfaaGreatDoorPmtAH
import Derived.Laws.StructEq
import Derived.Test.YtnbfnjhbmeocfaaGreatDoorPmtBJ
import Derived.BigRegion
import Derived.Deep.CutRange
import Derived.Deep.RegionWith
set_option linter.unusedVariables false
set_option maxHeartbeats 4000000
set_option maxRecDepth 100000
namespace Go.Proofs.YtnbfnjhbmeocfaaGreatDoor
namespace toks
open Go.RowKit
theorem jhb (s:ByteArray)(a:Nat)(ha:a<=s.size) :
  (Lib.indexByte (s.extract a s.size).data.toList ((10:Int).toNat.toUInt8) = -1/\a+jF noL (s.data.toList.drop a)=s.size)\/
  (∃n:Nat,Lib.indexByte (s.extract a s.size).data.toList ((10:Int).toNat.toUInt8)=(n:Int)/\a+jF noL (s.data.toList.drop a)=a+n/\a+n<=s.size):=by
 rw [qB,show((10:Int).toNat.toUInt8)=10 from rfl];obtain⟨h1,h2⟩:=jau (s.data.toList.drop a);have hl:=QK noL (s.data.toList.drop a);have hlen:(s.data.toList.drop a).length=s.size - a:=by rw [List.length_drop,jp]
 by_cases h:Lib.indexByte (s.data.toList.drop a) 10 = -1
 ·exact .inl ⟨h,by rw [h1 h,hlen];omega⟩
 ·exact .inr ⟨jF noL (s.data.toList.drop a),(h2 h).symm,rfl,by omega⟩
theorem jjE (w:World)(B:Nat)(s:ByteArray)(m:Nat)(b:Bool)(a:Nat)(ha:a<=s.size)(hs:s.size<=20000)(hc:Ctr w B s m b) :
  Calls Tryz.prog 73 #[.pointer (some ⟨B,0,none⟩),.int .i64 (a:Int)] w fun e w'=>e=.returned (.int .i64 ((a+jF noL (s.data.toList.drop a):Nat):Int))/\w'=w:=by
 have c0:=hc.cell 0 _ rfl;clear hc;have K:=jd (Tryz.strings_IndexByte (s.extract a s.size) 10 w);have i1:(a:Int)<=(s.size:Int):=by omega
 rcases jhb s a ha with ⟨h1,h2⟩ | ⟨n,h1,h2,h3⟩
 ·rw [h1] at K
  have H2:=jd h2;clear h1 h2
  go_enter Tryz.func73,Tryz.ntmps73
  go_wp2_with fail
  refine(ja K).mono ?_
  rintro e w2 ⟨rfl,hw⟩
  rw [hw];clear hw K;go_wp2;go_ret;rw [ja H2];exact⟨rfl,rfl⟩
 ·rw [h1] at K
  have H2:=jd h2;clear h1 h2
  go_enter Tryz.func73,Tryz.ntmps73
  go_wp2_with fail
  refine(ja K).mono ?_
  rintro e w2 ⟨rfl,hw⟩
  rw [hw];clear hw K;go_wp2;go_ret;rw [ja H2];exact⟨by go_num,rfl⟩
def JP (l:List UInt8)(a:Nat):Prop:=l.getD a 0=47/\(l.drop (a+1)).head?=some 42/\jt (l.drop (a+2))≠0
def Yp (l:List UInt8)(a:Nat):Prop:=l.getD a 0=34/\jk (l.drop (a+1))≠0
theorem Xg (s:ByteArray)(a:Nat)(ha:a<s.size):s.data.toList.getD a 0=s[a]'ha:=getD_at (by rw [jp];exact ha)
theorem jgA (s:ByteArray)(a:Nat)(ha:a<s.size):Lib.hasPrefix (s.extract a s.size).data.toList (⟨#[47,42]⟩:ByteArray).data.toList=decide (s.data.toList.getD a 0=47/\(s.data.toList.drop (a+1)).head?=some 42):=by
 rw [qB,Xg s a ha,jS (by rw [jp];exact ha)]
 show([47,42]:List UInt8).isPrefixOf _=_
 have e:s.data.toList[a]'(by rw [jp];exact ha)=s[a]'ha:=rfl;rw [e];generalize s[a]'ha=c;generalize s.data.toList.drop (a+1)=t;cases t with
 | nil=>simp [List.isPrefixOf]
 | cons d r=>
  simp only [List.isPrefixOf,Bool.and_true,List.head?_cons,Option.some.injEq]
  by_cases q1:c=47
  ·by_cases q2:d=42
   ·subst q1 q2;rfl
   ·have:((42:UInt8) == d)=false:=by simpa using Ne.symm q2
    rw [this,Bool.and_false];simp [q2]
  ·have:((47:UInt8) == c)=false:=by simpa using Ne.symm q1
   rw [this,Bool.false_and];simp [q1]
theorem jdq {s:ByteArray}{a:Nat}(h:(s.data.toList.drop (a+1)).head?=some 42):a+2<=s.size:=by
 have:s.data.toList.drop (a+1)≠[]:=fun e=>by rw [e] at h;cases h
 have:=List.length_pos_iff.2 this;rw [List.length_drop,jp] at this;omega
theorem jjw (w:World)(B:Nat)(s:ByteArray)(m:Nat)(b:Bool)(a:Nat)(ha:a<s.size)(hs:s.size<=20000)(hc:Ctr w B s m b)(hN:NoNote s.data.toList a b)(hM:MaxOk w) :
  Calls Tryz.prog 76 #[.pointer (some ⟨B,0,none⟩),.int .i64 (a:Int)] w fun e w'=>
   (e=.returned (.tuple #[.int .i64 ((a+(jt (s.data.toList.drop (a+2))+2):Nat):Int),.bool true])/\JP s.data.toList a/\w'=w)\/
   (e=.returned (.tuple #[.int .i64 0,.bool false])/\¬JP s.data.toList a/\∃b',Ctr w' B s m b'/\NoNote s.data.toList a b'/\w.grownBy w' (some B)/\w'.heap.size=w.heap.size):=by
 have C:=jd hc;have c0:=hc.cell 0 _ rfl;have c2:=hc.cell 2 _ rfl;have f2:=hc.froz 2;clear hc;have i1:(a:Int)<=(s.size:Int):=by omega
 cases b with
 | true=>
  have E:Hid (¬JP s.data.toList a):=jd (fun h=>h.2.2 (hN rfl));have HN:=jd hN;clear hN hM
  go_enter Tryz.func76,Tryz.ntmps76
  go_wp2;go_ret2;exact .inr ⟨rfl,ja E,true,ja C,ja HN,jC _ _,rfl⟩
 | false=>
  have HN:=jd hN;clear hN;have K:=jd (Tryz.strings_HasPrefix (s.extract a s.size) ⟨#[47,42]⟩ w);rw [jgA s a ha] at K
  by_cases hp:s.data.toList.getD a 0=47/\(s.data.toList.drop (a+1)).head?=some 42
  ·have hr:=jdq hp.2
   rw [decide_eq_true hp] at K;obtain⟨x,hx⟩:=hM;have K2:=jd (Tryz.strings_Index (s.extract (a+2) s.size) ⟨#[42,47]⟩ x w (by rw [ByteArray.size_extract];omega) hx);clear hx;rw [qB] at K2;have IX:=XM (s.data.toList.drop (a+2));have i2:(0:Int)<=(a:Int)+2:=by omega
   have i3:(a:Int)+2<=(s.size:Int):=by omega
   by_cases h0:jt (s.data.toList.drop (a+2))=0
   ·have e1:=IX.1 h0
    have K3:Hid (Calls Tryz.prog 133 #[.string (s.extract (a+2) s.size),.string ⟨#[42,47]⟩] w fun e w'=>e=.returned (.int .i64 (-1))/\w'=w):=by rw [<-e1];exact K2
    have E:Hid (¬JP s.data.toList a/\NoNote s.data.toList a true):=jd ⟨fun h=>h.2.2 h0,fun _=>h0⟩;clear K2 IX h0 e1 hp HN
    go_enter Tryz.func76,Tryz.ntmps76
    go_wp2_with fail
    refine(ja K).mono ?_
    rintro e w2 ⟨rfl,hw⟩
    rw [hw];clear hw K
    go_wp2_with fail
    refine(ja K3).mono ?_
    rintro e w2 ⟨rfl,hw⟩
    rw [hw];clear hw K3;go_wp2;go_ret2;exact .inr ⟨rfl,(ja E).1,true,(ja C).note,(ja E).2,j7 _ _ _ _,by simp [World.setCell]⟩
   ·have e1:=IX.2 h0
    have g2:=Xo h0;have gl:=Xe (s.data.toList.drop (a+2));rw [List.length_drop,jp] at gl;have E:Hid (JP s.data.toList a):=jd ⟨hp.1,hp.2,h0⟩;generalize hk:jt (s.data.toList.drop (a+2))=k at *;obtain⟨j,rfl⟩:∃j,k=j+2:=⟨k - 2,by omega⟩
    have K3:Hid (Calls Tryz.prog 133 #[.string (s.extract (a+2) s.size),.string ⟨#[42,47]⟩] w fun e w'=>e=.returned (.int .i64 (j:Int))/\w'=w):=by
     have:Lib.index (s.data.toList.drop (a+2)) (⟨#[42,47]⟩:ByteArray).data.toList=(j:Int):=by
      show Lib.index (s.data.toList.drop (a+2)) [42,47]=_
      rw [e1];push_cast;omega
     rw [this] at K2;exact K2
    clear K2 IX h0 e1 hp HN hk g2
    go_enter Tryz.func76,Tryz.ntmps76
    go_wp2_with fail
    refine(ja K).mono ?_
    rintro e w2 ⟨rfl,hw⟩
    rw [hw];clear hw K
    go_wp2_with fail
    refine(ja K3).mono ?_
    rintro e w2 ⟨rfl,hw⟩
    rw [hw];clear hw K3;go_wp2;go_ret2;exact .inl ⟨by go_num,ja E,rfl⟩
  ·rw [decide_eq_false hp] at K
   have E:Hid (¬JP s.data.toList a):=jd (fun h=>hp ⟨h.1,h.2.1⟩);clear hp hM
   go_enter Tryz.func76,Tryz.ntmps76
   go_wp2_with fail
   refine(ja K).mono ?_
   rintro e w2 ⟨rfl,hw⟩
   rw [hw];clear hw K;go_wp2;go_ret2;exact .inr ⟨rfl,ja E,false,ja C,ja HN,jC _ _,rfl⟩
theorem jiT (w:World)(B:Nat)(s:ByteArray)(m:Nat)(b:Bool)(a:Nat)(ha:a<s.size)(hs:s.size<=20000)(hc:Ctr w B s m b)(hT:NoText s.data.toList a m)(hm:m<=s.size) :
  Calls Tryz.prog 77 #[.pointer (some ⟨B,0,none⟩),.int .i64 (a:Int)] w fun e w'=>
   (e=.returned (.tuple #[.int .i64 ((a+(jk (s.data.toList.drop (a+1))+1):Nat):Int),.bool true])/\Yp s.data.toList a/\w'=w)\/
   (e=.returned (.tuple #[.int .i64 0,.bool false])/\¬Yp s.data.toList a/\∃m':Nat,Ctr w' B s m' b/\NoText s.data.toList a m'/\m'<=s.size/\w.grownBy w' (some B)/\w'.heap.size=w.heap.size):=by
 by_cases h34:s[a]'ha=34
 ·by_cases hl:a<m
  ·refine(jem w B s m b a ha hs hc hl).mono ?_
   rintro e w' ⟨rfl,rfl⟩
   exact .inr ⟨rfl,fun h=>h.2 (hT a (Nat.le_refl _) hl h.1),m,hc,hT,hm,jC _ _,rfl⟩
  ·refine(jfu w B s m b a ha hs hc (by omega) h34).mono ?_
   rintro e w' (⟨rfl,h0,rfl⟩ | ⟨q,rfl,h0,hq,hq2,rfl⟩)
   ·refine .inl ⟨by rw [show a+1+jk (s.data.toList.drop (a+1))=a+(jk (s.data.toList.drop (a+1))+1) by omega],⟨by rw [Xg s a ha];exact h34,h0⟩,rfl⟩
   ·exact .inr ⟨rfl,fun h=>h.2 h0,q,hc.text q,hq,hq2,j7 _ _ _ _,by simp [World.setCell]⟩
 ·refine(jj8 w B s m b a ha hs hc h34).mono ?_
  rintro e w' ⟨rfl,rfl⟩
  exact .inr ⟨rfl,fun h=>h34 (by rw [<-Xg s a ha];exact h.1),m,hc,hT,hm,jC _ _,rfl⟩
theorem jf9 {l:List UInt8}{a:Nat}(h:a<l.length)(c1:isB l[a]=true):jB (l.drop a)=(1,jF isB (l.drop a)):=by
 rw [jS h];unfold jB;simp only;rw [if_pos c1]
theorem jjN {l:List UInt8}{a:Nat}(h:a<l.length)(c1:isB l[a]=false)(c2:l[a]=10):jB (l.drop a)=(2,1):=by
 rw [jS h];unfold jB;simp only;rw [if_neg (by rw [c1];decide),if_pos c2]
theorem jiZ {l:List UInt8}{a:Nat}(h:a<l.length)(c1:isB l[a]=false)(c2:l[a]≠10)(c3:l[a]=35):jB (l.drop a)=(3,jF noL (l.drop a)):=by
 rw [jS h];unfold jB;simp only;rw [if_neg (by rw [c1];decide),if_neg c2,if_pos c3]
theorem jjB {l:List UInt8}{a:Nat}(h:a<l.length)(c1:isB l[a]=false)(c2:l[a]≠10)(c3:l[a]≠35)(c4:isW l[a]=true):jB (l.drop a)=(4,jF isW (l.drop a)):=by
 rw [jS h];unfold jB;simp only;rw [if_neg (by rw [c1];decide),if_neg c2,if_neg c3,if_pos c4]
theorem jiz {l:List UInt8}{a:Nat}(h:a<l.length)(c1:isB l[a]=false)(c2:l[a]≠10)(c3:l[a]≠35)(c4:isW l[a]=false)(c5:isM l[a]=true):jB (l.drop a)=(6,1):=by
 rw [jS h];unfold jB;simp only;rw [if_neg (by rw [c1];decide),if_neg c2,if_neg c3,if_neg (by rw [c4];decide),if_pos c5]
theorem jjj {l:List UInt8}{a:Nat}(h:a<l.length)(c1:isB l[a]=false)(c2:l[a]≠10)(c3:l[a]≠35)(c4:isW l[a]=false)(c5:isM l[a]=false) :
  (JP l a->jB (l.drop a)=(3,jt (l.drop (a+2))+2))/\(Yp l a->jB (l.drop a)=(5,jk (l.drop (a+1))+1))/\(¬JP l a->¬Yp l a->jB (l.drop a)=(7,1)):=by
 have e:jB (l.drop a)=if l[a]=34/\jk (l.drop (a+1))≠0 then (5,jk (l.drop (a+1))+1) else if l[a]=47/\(l.drop (a+1)).head?=some 42/\jt (l.drop (a+2))≠0 then (3,jt (l.drop (a+2))+2) else (7,1):=by
  rw [jS h];unfold jB;simp only;rw [if_neg (by rw [c1];decide),if_neg c2,if_neg c3,if_neg (by rw [c4];decide),if_neg (by rw [c5];decide),List.drop_drop]
 have g:=getD_at h;rw [e];unfold JP Yp;rw [g];refine⟨fun q=>?_,fun q=>by rw [if_pos q],fun q1 q2=>by rw [if_neg q2,if_neg q1]⟩;rw [if_neg (fun q2=>by rw [q.1] at q2;exact absurd q2.1 (by decide)),if_pos q]
open Go.RowKit
def jk8 (w w':World)(B:Nat)(s:ByteArray)(a:Nat):Prop:=∃(m:Nat) (b:Bool),Ctr w' B s m b/\m<=s.size/\NoText s.data.toList a m/\NoNote s.data.toList a b/\w.grownBy w' (some B)
theorem ZQ (w:World)(B:Nat)(s:ByteArray)(m:Nat)(b:Bool)(a:Nat)(ha:a<s.size)(hs:s.size<=20000)(hc:Ctr w B s m b)(hm:m<=s.size)(hT:NoText s.data.toList a m)(hN:NoNote s.data.toList a b)(hM:MaxOk w) :
  Calls Tryz.prog 35 #[.pointer (some ⟨B,0,none⟩),.int .i64 (a:Int)] w fun e w'=>
   e=.returned (.tuple #[.int .i64 (((jB (s.data.toList.drop a)).1:Nat):Int),.int .i64 ((a+(jB (s.data.toList.drop a)).2:Nat):Int)])/\jk8 w w' B s a:=by
 have hl:a<s.data.toList.length:=by rw [jp];exact ha
 have G0:Hid (jk8 w w B s a):=jd ⟨m,b,hc,hm,hT,hN,jC _ _⟩;have c0:=hc.cell 0 _ rfl;have KB:=jd (Xz w (s[a]'ha))
 by_cases c1:isB (s[a]'ha)=true
 ·have E:=jd (jf9 hl c1)
  have KR:=jd (jip w B s m b a (Nat.le_of_lt ha) hs hc);rw [c1] at KB;clear hc hT hN hM c1
  go_enter Tryz.func35,Tryz.ntmps35
  go_wp2_with fail
  refine(ja KB).mono ?_
  rintro e w2 ⟨rfl,hw⟩
  rw [hw];clear hw KB
  go_wp2_with fail
  refine(ja KR).mono ?_
  rintro e w2 ⟨rfl,hw⟩
  rw [hw];clear hw KR;go_wp2;go_ret2;rw [ja E];exact⟨rfl,ja G0⟩
 have c1:isB (s[a]'ha)=false:=by simpa using c1
 rw [c1] at KB
 by_cases c2:s[a]'ha=10
 ·have E:=jd (jjN hl c1 c2)
  have i2:(((s[a]'ha).toNat:Int) == 10)=true:=jb4 10 c2;clear hc hT hN hM c1 c2
  go_enter Tryz.func35,Tryz.ntmps35
  go_wp2_with fail
  refine(ja KB).mono ?_
  rintro e w2 ⟨rfl,hw⟩
  rw [hw];clear hw KB;go_wp2;go_ret2;rw [ja E];exact⟨by go_num,ja G0⟩
 have i2:(((s[a]'ha).toNat:Int) == 10)=false:=jcB 10 c2
 by_cases c3:s[a]'ha=35
 ·have E:=jd (jiZ hl c1 c2 c3)
  have i3:(((s[a]'ha).toNat:Int) == 35)=true:=jb4 35 c3;have KL:=jd (jjE w B s m b a (Nat.le_of_lt ha) hs hc);clear hc hT hN hM c1 c2 c3
  go_enter Tryz.func35,Tryz.ntmps35
  go_wp2_with fail
  refine(ja KB).mono ?_
  rintro e w2 ⟨rfl,hw⟩
  rw [hw];clear hw KB
  go_wp2_with fail
  refine(ja KL).mono ?_
  rintro e w2 ⟨rfl,hw⟩
  rw [hw];clear hw KL;go_wp2;go_ret2;rw [ja E];exact⟨rfl,ja G0⟩
 have i3:(((s[a]'ha).toNat:Int) == 35)=false:=jcB 35 c3;have KW:=jd (jag w (s[a]'ha))
 by_cases c4:isW (s[a]'ha)=true
 ·have E:=jd (jjB hl c1 c2 c3 c4)
  have KR:=jd (jjt w B s m b a (Nat.le_of_lt ha) hs hc);rw [c4] at KW;clear hc hT hN hM c1 c2 c3 c4
  go_enter Tryz.func35,Tryz.ntmps35
  go_wp2_with fail
  refine(ja KB).mono ?_
  rintro e w2 ⟨rfl,hw⟩
  rw [hw];clear hw KB
  go_wp2_with fail
  refine(ja KW).mono ?_
  rintro e w2 ⟨rfl,hw⟩
  rw [hw];clear hw KW
  go_wp2_with fail
  refine(ja KR).mono ?_
  rintro e w2 ⟨rfl,hw⟩
  rw [hw];clear hw KR;go_wp2;go_ret2;rw [ja E];exact⟨rfl,ja G0⟩
 have c4:isW (s[a]'ha)=false:=by simpa using c4
 rw [c4] at KW;have KM:=jd (jeQ w (s[a]'ha))
 by_cases c5:isM (s[a]'ha)=true
 ·have E:=jd (jiz hl c1 c2 c3 c4 c5)
  rw [c5] at KM;clear hc hT hN hM c1 c2 c3 c4 c5
  go_enter Tryz.func35,Tryz.ntmps35
  go_wp2_with fail
  refine(ja KB).mono ?_
  rintro e w2 ⟨rfl,hw⟩
  rw [hw];clear hw KB
  go_wp2_with fail
  refine(ja KW).mono ?_
  rintro e w2 ⟨rfl,hw⟩
  rw [hw];clear hw KW
  go_wp2_with fail
  refine(ja KM).mono ?_
  rintro e w2 ⟨rfl,hw⟩
  rw [hw];clear hw KM;go_wp2;go_ret2;rw [ja E];exact⟨by go_num,ja G0⟩
 have c5:isM (s[a]'ha)=false:=by simpa using c5
 rw [c5] at KM;have E:=jd (jjj hl c1 c2 c3 c4 c5);have KN:=jd (jjw w B s m b a ha hs hc hN hM);have KT:Hid (∀w1 b',Ctr w1 B s m b'->_):=jd (fun w1 b' (h:Ctr w1 B s m b')=>jiT w1 B s m b' a ha hs h hT hm);have HT:=jd hT;clear hc hT hN hM c1 c2 c3 c4 c5
 go_enter Tryz.func35,Tryz.ntmps35
 go_wp2_with fail
 refine(ja KB).mono ?_
 rintro e w2 ⟨rfl,hw⟩
 rw [hw];clear hw KB
 go_wp2_with fail
 refine(ja KW).mono ?_
 rintro e w2 ⟨rfl,hw⟩
 rw [hw];clear hw KW
 go_wp2_with fail
 refine(ja KM).mono ?_
 rintro e w2 ⟨rfl,hw⟩
 rw [hw];clear hw KM
 go_wp2_with fail
 refine(ja KN).mono ?_
 rintro e w1 (⟨rfl,hn,hw⟩ | ⟨rfl,hn,b',hc1,hN1,hg1,hz1⟩)
 ·rw [hw]
  have E1:=jd ((ja E).1 hn);clear hw KN hn;go_wp2;go_ret2;rw [ja E1];exact⟨rfl,ja G0⟩
 ·have KT1:=jd (ja KT w1 b' hc1)
  have HN:=jd hn;have C1:=jd hc1;have N1:=jd hN1;have G1:=jd hg1;clear KN KT hn hc1 hN1 hg1 hz1 c0
  go_wp2_with fail
  refine(ja KT1).mono ?_
  rintro e w2 (⟨rfl,hn,hw⟩ | ⟨rfl,hn,m',hc2,hT2,hm2,hg2,hz2⟩)
  ·rw [hw]
   have E1:=jd ((ja E).2.1 hn);clear hw KT1 hn;go_wp2;go_ret2;rw [ja E1];exact⟨rfl,m,b',ja C1,hm,ja HT,ja N1,ja G1⟩
  ·have E1:=jd ((ja E).2.2 (ja HN) hn)
   have R:Hid (jk8 w w2 B s a):=jd ⟨m',b',hc2,hm2,hT2,ja N1,jj (ja G1) hg2⟩;clear KT1 hn hc2 hT2 hg2 hz2;go_wp2;go_ret2;rw [ja E1];exact⟨by go_num,ja R⟩
def tkC (t:Tk):List Value:=[.int .i64 (t.kind:Int),.int .i64 (t.fro:Int),.int .i64 (t.til:Int)]
def RowT (w:World)(a:Option Addr)(l:List Tk):Prop :=
 l≠[]->∃b o,a=some ⟨b,o,none⟩/\b<w.heap.size/\∀j (h:j<l.length),w.cell? ⟨b,o+j*3,none⟩=some (.int .i64 (l[j].kind:Int))/\w.cell? ⟨b,o+j*3+1,none⟩=some (.int .i64 (l[j].fro:Int))/\w.cell? ⟨b,o+j*3+2,none⟩=some (.int .i64 (l[j].til:Int))
def Toks (w:World)(v:Value)(l:List Tk):Prop:=∃a cap,v=.slice a l.length cap/\l.length<=cap/\RowT w a l
theorem RowT.below {w w':World}{a:Option Addr}{l:List Tk}(h:RowT w a l)(hb:Below w.heap.size w w'):RowT w' a l:=by
 intro h0;obtain⟨b,o,e,hlt,hc⟩:=h h0;refine⟨b,o,e,Nat.lt_of_lt_of_le hlt hb.size,fun j hj=>?_⟩;rw [hb.cell (p:=⟨b,o+j*3,none⟩) hlt,hb.cell (p:=⟨b,o+j*3+1,none⟩) hlt,hb.cell (p:=⟨b,o+j*3+2,none⟩) hlt];exact hc j hj
theorem Toks.below {w w':World}{v:Value}{l:List Tk}(h:Toks w v l)(hb:Below w.heap.size w w'):Toks w' v l:=by
 obtain⟨a,cap,e,hc,hr⟩:=h;exact⟨a,cap,e,hc,hr.below hb⟩
theorem RowT.take {w:World}{a:Option Addr}{l:List Tk}(h:RowT w a l)(k:Nat):RowT w a (l.take k):=by
 intro h0;have hl:l≠[]:=fun e=>h0 (by rw [e,List.take_nil])
 obtain⟨b,o,e,hlt,hc⟩:=h hl;refine⟨b,o,e,hlt,fun j hj=>?_⟩;have hj':j<l.length:=by rw [List.length_take] at hj;omega
 rw [List.getElem_take];exact hc j hj'
theorem qA:∀l:List Tk,(l.flatMap tkC).length=l.length*3
 | []=>rfl
 | t :: l=>by
  rw [List.flatMap_cons,List.length_append,qA l];simp [tkC];omega
theorem jdB:∀(l:List Tk) (j:Nat) (h:j<l.length),(l.flatMap tkC)[j*3]?=some (.int .i64 (l[j].kind:Int))/\(l.flatMap tkC)[j*3+1]?=some (.int .i64 (l[j].fro:Int))/\(l.flatMap tkC)[j*3+2]?=some (.int .i64 (l[j].til:Int))
 | [],j,h=>by simp at h
 | t :: l,0,h=>by simp [tkC]
 | t :: l,j+1,h=>by
  have ih:=jdB l j (by simpa using h)
  have e:∀r,((t :: l).flatMap tkC)[(j+1)*3+r]?=(l.flatMap tkC)[j*3+r]?:=fun r=>by
   rw [List.flatMap_cons,List.getElem?_append_right (by simp [tkC];omega)]
   congr 1
   simp [tkC];omega
  have e0:=e 0;rw [Nat.add_zero,Nat.add_zero] at e0;rw [e0,e 1,e 2];exact ih
theorem jjK {w:World}{base:Nat}{v:Value}{l:List Tk}(h:w.ownsRow base 39 3 v l.length (l.flatMap tkC)):Toks w v l:=by
 have h':=h
 rcases h.2 with ⟨rfl,h0⟩ | ⟨g,cap,cur,rfl,_,hg,hcap,_⟩
 ·have:l=[]:=List.eq_nil_of_length_eq_zero h0
  subst this;exact⟨none,0,rfl,by simp,fun h=>absurd rfl h⟩
 ·refine⟨_,cap,rfl,hcap,fun _=>⟨g,0,rfl,(Array.getElem?_eq_some_iff.1 hg).1,fun j hj=>?_⟩⟩
  rw [Nat.zero_add,h'.cellAt (j*3) (by omega),h'.cellAt (j*3+1) (by omega),h'.cellAt (j*3+2) (by omega)];exact jdB l j hj
theorem jcb {w:World}{base e n:Nat}{v:Value}{xs:List Value}(h:w.ownsRow base e 3 v n xs):∀g,v.ownBlock=some g->base<=g:=fun g hg=>(h.lt g hg).1
theorem jh8 {w w':World}{base e n B:Nat}{v:Value}{xs:List Value}(h:w.ownsRow base e 3 v n xs)(hg:w.grownBy w' (some B))(hB:B<base):w'.ownsRow base e 3 v n xs:=by
 refine h.kept hg ?_
 cases hv:v.ownBlock with
 | none=>exact .inl rfl
 | some g=>exact .inr (fun e=>by injection e with e;have:=jcb h g hv;omega)
theorem jjR {w:World}{base e n B:Nat}{v:Value}{xs:List Value}(h:w.ownsRow base e 3 v n xs)(hB:B<base):some B≠v.ownBlock:=fun e=>by
 have:=jcb h B e.symm;omega
theorem jkE:(Tryz.prog.info? 39).map (fun i=>(i.zero,i.size,i.bytes))=some (some (.agg #[.int .i64 0,.int .i64 0,.int .i64 0]),3,24):=by kernel_rfl
theorem jgG (s:ByteArray)(w:World)(hs:20000<s.size) :
  Calls Tryz.prog 15 #[.string s] w fun e w'=>e=.returned (.tuple #[.slice none 0 0,.int .i64 2])/\w'=w:=by
 have i1:(s.size:Int) > 20000:=by omega
 go_enter Tryz.func15,Tryz.ntmps15
 go_wp2;go_ret2;exact⟨rfl,rfl⟩
def jjM (l:List UInt8)(p:Nat)(d:List Tk):Prop:=jv l=d++J5 p (l.drop p)/\d.length<=p
theorem jhH (l:List UInt8):jjM l 0 []:=⟨rfl,Nat.le_refl _⟩
theorem jgH {l:List UInt8}{p k n:Nat}{d:List Tk}(h:jjM l p d)(hp:p<l.length)(hk:jB (l.drop p)=(k,n)):jjM l (p+n) (d++[⟨k,p,p+n⟩]):=by
 have hne:l.drop p≠[]:=fun e=>by
  have:=congrArg List.length e;rw [List.length_drop,List.length_nil] at this;omega
 have hz:=(jN hne).1;rw [hk] at hz;refine⟨?_,?_⟩
 ·rw [h.1,zm hne,hk,List.append_assoc,List.drop_drop]
  rfl
 ·have:=h.2
  simp only at hz;rw [List.length_append,List.length_singleton];omega
theorem jjH {l:List UInt8}{p:Nat}{d:List Tk}(h:jjM l p d)(hp:l.length<=p):d=jv l:=by
 rw [h.1,List.drop_of_length_le hp,ZX,List.append_nil]
theorem jjF {l:List UInt8}{p k n:Nat}(hp:p<l.length)(hk:jB (l.drop p)=(k,n)):1<=n/\p+n<=l.length/\1<=k/\k<=7:=by
 have hne:l.drop p≠[]:=fun e=>by
  have:=congrArg List.length e;rw [List.length_drop,List.length_nil] at this;omega
 have hz:=jN hne;rw [hk,List.length_drop] at hz;simp only at hz;omega
theorem jak (w:World)(x y z:Value)(t:TypeId):∀j u,[x,y,z][j]?=some u->(w.alloc (.cells #[x,y,z] t)).cell? ((⟨w.heap.size,0,none⟩:Addr).add j)=some u :=
 fun j u hu=>World.news_of_block (jf w #[x,y,z] t) j u hu
theorem jfQ (s:ByteArray)(w:World)(hs:s.size<=20000)(hM:MaxOk w) :
  Calls Tryz.prog 15 #[.string s] w fun e w'=>∃v,e=.returned (.tuple #[v,.int .i64 0])/\Toks w' v (jv s.data.toList)/\Below w.heap.size w w':=by
 obtain⟨i0,hi,hz0,hz1,hz2⟩:=info_parts jkE;have i1:¬(s.size:Int) > 20000:=by omega
 have d1:decide ((s.size:Int) > 20000)=false:=decide_eq_false i1;have HM:=jd hM;have hlt0:=hM.lt;clear hM
 go_enter Tryz.func15,Tryz.ntmps15
 go_wp2_with fail
 go_loopw [4,6] (fun v i wr=>∃(p m:Nat) (b:Bool) (D:List Tk),p<=s.size/\i=.int .i64 p/\m<=s.size/\Hid (jjM s.data.toList p D)/\Hid (Ctr wr w.heap.size s m b)/\Hid (NoText s.data.toList p m)/\Hid (NoNote s.data.toList p b)/\
   wr.ownsRow (w.heap.size+1) 39 3 v D.length (D.flatMap tkC)/\Hid (MaxOk wr)/\Below w.heap.size w wr/\w.heap.size<wr.heap.size) (fun _ i _=>s.size - (intOf i).toNat)
 case atStart=>
  refine⟨0,0,false,[],Nat.zero_le _,rfl,Nat.zero_le _,jd (jhH _),jd (jf w _ _),jd (jeb _ _),jd (jco _ _),World.ownsRow_nil _ _ _ _,jd ((ja HM).below (Nat.le_refl _) ((Below.refl _ w).alloc (Nat.le_refl _) _)),(Below.refl _ w).alloc (Nat.le_refl _) _,by simp⟩
 case round=>
  obtain⟨p,m,b,D,hp,rfl,hm,HD,HC,HT,HN,hown,HMr,hbw,hsz⟩:=hrel
  by_cases hlt:p<s.size
  ·have hpl:p<s.data.toList.length:=by rw [jp];exact hlt
   have KN:=jd (ZQ wr w.heap.size s m b p hlt hs (ja HC) hm (ja HT) (ja HN) (ja HMr));obtain⟨k,n,hk⟩:∃k n,jB (s.data.toList.drop p)=(k,n):=⟨_,_,rfl⟩
   obtain⟨hn1,hn2,hk1,hk7⟩:=jjF hpl hk;rw [jp] at hn2;have hD2:=(ja HD).2;have DN:=jgH (ja HD) hpl hk;rw [hk] at KN;clear hk HC HT HN HD hpl;simp only at KN;generalize hq:p+n=q at *;have DN:=jd DN;have hqp:p<q:=by omega
   clear hq
   go_wp2_with fail
   refine(ja KN).mono ?_
   rintro e w1 ⟨rfl,m',b',hc1,hm1,hT1,hN1,hg1⟩
   have hown1:=jh8 hown hg1 (Nat.lt_succ_self _);have hM1:=(ja HMr).grown hg1 hlt0;have hbw1:Below w.heap.size w w1:=hbw.grown hg1 hbw.size (fun k hk=>by injection hk with hk;omega);have hsz1:w.heap.size<w1.heap.size:=Nat.lt_of_lt_of_le hsz hg1.size;have C1:=jd hc1;have T1:=jd hT1;have N1:=jd hN1;have M1:=jd hM1;clear KN hc1 hT1 hN1 hM1 hg1 hown HMr hbw hsz
   go_wp2_with (at_builtin;refine wpList_append_lies _ rfl _ _ 35 rfl (w.heap.size+1) 39 i0 (.agg #[.int .i64 0,.int .i64 0,.int .i64 0]) 3 24 Tryz.underlying35 hi hz0 hz1 hz2 rfl (by decide) _ _ _ rfl (hown1.alloc _) ⟨w1.heap.size,0,none⟩ 1 1 [.int .i64 (k:Int),.int .i64 (p:Int),.int .i64 (q:Int)] rfl rfl ?c1 ?c2 ?c3 ?c4 ?c5 ?c6 (w1.heap.size+1) ?c7 ?_)
   case c1=>exact jak _ _ _ _ _
   case c2=>intro u hu;simp at hu;rcases hu with rfl | rfl | rfl<;>rfl
   case c3=>decide
   case c4=>unfold maxLen;omega
   case c5=>omega
   case c6=>have:=hbw1.size;simp;omega
   case c7=>simp
   intro g cap w2 hown2 hg2 hat hlt2;have hC2:Hid (Ctr w2 w.heap.size s m' b'):=jd (Blk.grown ((ja C1).alloc _) hg2 (jjR hown1 (Nat.lt_succ_self _)));have hbw2:Below w.heap.size w w2:=(hbw1.alloc hbw1.size _).grown hg2 (by have:=hbw1.size;simp;omega) (fun x hx=>by have:=jcb hown1 x hx;omega);have hM2:=jd ((ja HM).below (Nat.le_refl _) hbw2);have hsz2:w.heap.size<w2.heap.size:=by have:=hg2.size;simp at this;omega
   have T2:=jd ((ja T1).on (Nat.le_of_lt hqp));have N2:=jd ((ja N1).on (Nat.le_of_lt hqp));clear hg2 hown1 hat C1 T1 N1 M1 hbw1 hsz1;go_wp2;go_roundw
   case rel=>
    refine⟨q,m',b',D++[⟨k,p,q⟩],hn2,by rfl,hm1,DN,hC2,T2,N2,?_,hM2,hbw2,hsz2⟩;rw [List.flatMap_append,List.length_append];exact hown2
   case measure=>simp only [intOf];omega
  ·have DE:=jd (jjH (ja HD) (by rw [jp];omega))
   go_wp2;go_ret2;refine⟨_,rfl,?_,hbw⟩;rw [<-ja DE];exact jjK hown
open Go.RowKit
theorem jhO (w:World)(k:Int)(h0 : -9223372036854775808<=k)(h1:k<=9223372036854775807) :
  Calls Tryz.prog 167 #[.int .i64 k] w fun e w'=>e=.returned (.bool (decide (4<=k/\k<=7)))/\w'=w:=by
 by_cases a1:4<=k
 ·by_cases a2:k<=7
  ·rw [decide_eq_true ⟨a1,a2⟩]
   go_enter Tryz.func167,Tryz.ntmps167
   go_wp2;go_ret;exact⟨rfl,rfl⟩
  ·rw [decide_eq_false (fun h=>a2 h.2)]
   have d2:decide (k<=7)=false:=decide_eq_false a2
   go_enter Tryz.func167,Tryz.ntmps167
   go_wp2;go_ret;exact⟨rfl,rfl⟩
 ·rw [decide_eq_false (fun h=>a1 h.1)]
  have d1:decide (4<=k)=false:=decide_eq_false a1
  go_enter Tryz.func167,Tryz.ntmps167
  go_wp2;go_ret;exact⟨rfl,rfl⟩
end toks
namespace trees
open Go.RowKit
open toks
def Rd (w:World)(B:Nat)(s:ByteArray)(tv:Value)(i d:Nat)(pl er:Int):Prop:=Blk w B #[.string s,tv,.int .i64 (i:Int),.int .i64 (d:Int),.int .i64 pl,.int .i64 er] 113
def TkIn (w:World)(B:Nat)(a:Option Addr)(l:List Tk):Prop :=
 l≠[]->∃b o,a=some ⟨b,o,none⟩/\b<B/\∀j (h:j<l.length),w.cell? ⟨b,o+j*3,none⟩=some (.int .i64 (l[j].kind:Int))/\w.cell? ⟨b,o+j*3+1,none⟩=some (.int .i64 (l[j].fro:Int))/\w.cell? ⟨b,o+j*3+2,none⟩=some (.int .i64 (l[j].til:Int))
theorem TkIn.grown {w w':World}{B:Nat}{a:Option Addr}{l:List Tk}(h:TkIn w B a l)(hg:w.grownBy w' (some B)):TkIn w' B a l:=by
 intro h0;obtain⟨b,o,e,hb,hc⟩:=h h0;have hne:∀k,some (⟨b,k,none⟩:Addr).block≠some B:=fun k e=>by injection e with e;exact absurd e (Nat.ne_of_lt hb)
 refine⟨b,o,e,hb,fun j hj=>?_⟩;obtain⟨c1,c2,c3⟩:=hc j hj;exact⟨hg.cell c1 (hne _),hg.cell c2 (hne _),hg.cell c3 (hne _)⟩
theorem jI {w w':World}{r:Option Nat}(h:Below w.heap.size w w'):w.grownBy w' r:=⟨h.os,h.tape,h.output,h.size,fun k hk _=>h.block k hk⟩
theorem TkIn.below {w w':World}{B:Nat}{a:Option Addr}{l:List Tk}(h:TkIn w B a l)(hb:Below w.heap.size w w'):TkIn w' B a l:=h.grown (jI hb)
theorem Rd.below {w w':World}{B:Nat}{s:ByteArray}{tv:Value}{i d:Nat}{pl er:Int}(h:Rd w B s tv i d pl er)(hb:Below w.heap.size w w'):Rd w' B s tv i d pl er:=Blk.below h hb
theorem Rd.next {w:World}{B:Nat}{s:ByteArray}{tv:Value}{i d:Nat}{pl er:Int}(h:Rd w B s tv i d pl er)(j:Nat):Rd (w.setCell ⟨B,2,none⟩ (.int .i64 (j:Int))) B s tv j d pl er:=by
 have:=Blk.set h 2 (.int .i64 (j:Int));exact this
theorem Rd.level {w:World}{B:Nat}{s:ByteArray}{tv:Value}{i d:Nat}{pl er:Int}(h:Rd w B s tv i d pl er)(j:Nat):Rd (w.setCell ⟨B,3,none⟩ (.int .i64 (j:Int))) B s tv i j pl er:=by
 have:=Blk.set h 3 (.int .i64 (j:Int));exact this
theorem Rd.place {w:World}{B:Nat}{s:ByteArray}{tv:Value}{i d:Nat}{pl er:Int}(h:Rd w B s tv i d pl er)(j:Int):Rd (w.setCell ⟨B,4,none⟩ (.int .i64 j)) B s tv i d j er:=by
 have:=Blk.set h 4 (.int .i64 j);exact this
theorem Rd.err {w:World}{B:Nat}{s:ByteArray}{tv:Value}{i d:Nat}{pl er:Int}(h:Rd w B s tv i d pl er)(j:Int):Rd (w.setCell ⟨B,5,none⟩ (.int .i64 j)) B s tv i d pl j:=by
 have:=Blk.set h 5 (.int .i64 j);exact this
abbrev zH (w:World) (b:Nat) (u0 u1 u2 u3:Value):World:=(((w.setCell ⟨b,0,none⟩ u0).setCell ⟨b,1,none⟩ u1).setCell ⟨b,2,none⟩ u2).setCell ⟨b,3,none⟩ u3
theorem qC {w:World}{b:Nat}{x0 x1 x2 x3:Value}{t:Nat}(h:Blk w b #[x0,x1,x2,x3] t)(u0 u1 u2 u3:Value):Blk (zH w b u0 u1 u2 u3) b #[u0,u1,u2,u3] t:=by
 have:=(((h.set 0 u0).set 1 u1).set 2 u2).set 3 u3;simpa using this
theorem qR {w:World}{b c:Nat}{cs:Array Value}{t:Nat}(h:Blk w c cs t)(hne:c≠b)(u0 u1 u2 u3:Value):Blk (zH w b u0 u1 u2 u3) c cs t :=
 (((h.set_other _ _ hne).set_other _ _ hne).set_other _ _ hne).set_other _ _ hne
theorem QB (w:World)(b:Nat)(u0 u1 u2 u3:Value):(zH w b u0 u1 u2 u3).heap.size=w.heap.size:=by simp [zH,World.setCell]
theorem QI {w:World}{b c:Nat}(hne:c≠b)(u0 u1 u2 u3:Value):(zH w b u0 u1 u2 u3).heap[c]?=w.heap[c]?:=by
 unfold zH;rw [Below.heap_setCell _ _ _ _ hne,Below.heap_setCell _ _ _ _ hne,Below.heap_setCell _ _ _ _ hne,Below.heap_setCell _ _ _ _ hne]
theorem qQ {w w2:World}{r:Option Nat}{b:Nat}(h:w.grownBy w2 r)(hb:w.heap.size<=b)(u0 u1 u2 u3:Value):w.grownBy (zH w2 b u0 u1 u2 u3) r :=
 ⟨h.os,h.tape,h.output,by rw [QB];exact h.size,fun k hk hr=>by rw [QI (by omega)];exact h.block k hk hr⟩
structure Cells4 (w:World) (b:Nat) (u0 u1 u2 u3:Value):Prop where
 c0:w.cell? ⟨b,0,none⟩=some u0
 c1:w.cell? ⟨b,1,none⟩=some u1
 c2:w.cell? ⟨b,2,none⟩=some u2
 c3:w.cell? ⟨b,3,none⟩=some u3
theorem Blk.cells4 {w:World}{b:Nat}{u0 u1 u2 u3:Value}{t:Nat}(h:Blk w b #[u0,u1,u2,u3] t):Cells4 w b u0 u1 u2 u3:=⟨Blk.cell h 0 _ rfl,Blk.cell h 1 _ rfl,Blk.cell h 2 _ rfl,Blk.cell h 3 _ rfl⟩
structure Froz4 (w:World) (b:Nat):Prop where
 c0:w.frozen? ⟨b,0,none⟩=false
 c1:w.frozen? ⟨b,1,none⟩=false
 c2:w.frozen? ⟨b,2,none⟩=false
 c3:w.frozen? ⟨b,3,none⟩=false
theorem Blk.froz4 {w:World}{b:Nat}{cs:Array Value}{t:Nat}(h:Blk w b cs t):Froz4 w b:=⟨Blk.froz h 0,Blk.froz h 1,Blk.froz h 2,Blk.froz h 3⟩
theorem ju {w w':World}{r:Option Nat}(h:w.grownBy w' r)(o:Obj):w.grownBy (w'.alloc o) r :=
 ⟨h.os,h.tape,h.output,Nat.le_trans h.size (by simp),fun k hk hr=>by rw [Below.heap_alloc _ _ _ (Nat.lt_of_lt_of_le hk h.size)];exact h.block k hk hr⟩
theorem Qp {w w':World}{r:Option Nat}(h:w.grownBy w' r)(n:Nat):w.grownBy (w'.drewN n) r:=⟨h.os,h.tape,h.output,h.size,h.block⟩
theorem jdT (w:World)(B:Nat)(s:ByteArray)(a:Option Addr)(cap:Nat)(l:List Tk)(i d:Nat)(pl er:Int)(n:Nat)(hr:Rd w B s (.slice a l.length cap) i d pl er)(ht:TkIn w B a l)(g:Good s l)(hn:n<=l.length) :
  Calls Tryz.prog 110 #[.pointer (some ⟨B,0,none⟩),.int .i64 (n:Int)] w fun e w'=>∃j,e=.returned (.tuple #[])/\Nxt l n j/\Rd w' B s (.slice a l.length cap) j d pl er/\w.grownBy w' (some B):=by
 have c1:=hr.cell 1 _ rfl;have c2:=hr.cell 2 _ rfl;have z2:=hr.froz 2;have HR:=jd hr;have HT:=jd ht;have HG:=jd g;have hl:=g.len;clear hr ht g
 go_enter Tryz.func110,Tryz.ntmps110
 go_wp2_with fail
 go_loopw [1] (fun i wr=>wr=w/\∃k:Nat,n<=k/\k<=l.length/\i=.int .i64 k/\Hid (∀m (h:m<l.length),n<=m->m<k->¬3<l[m].kind)) (fun i _=>l.length - (intOf i).toNat)
 case atStart=>exact⟨rfl,n,Nat.le_refl _,hn,rfl,jd (fun m h h1 h2=>by omega)⟩
 case round=>
  obtain⟨rfl,k,hnk,hk,rfl,HN⟩:=hrel
  by_cases hlt:k<l.length
  ·have hne:l≠[]:=fun e=>by rw [e] at hlt;simp at hlt
   obtain⟨b,o,rfl,hb,q⟩:=(ja HT) hne;obtain⟨x1,_,_⟩:=q k hlt;have hk7:=(ja HG).kind k hlt;have KS:Hid _:=jd (jhO wr (l[k].kind:Int) (by omega) (by omega));have i1:(k:Int)<(l.length:Int):=by omega
   have d1:decide ((k:Int)<(l.length:Int))=true:=decide_eq_true i1
   by_cases h3:3<l[k].kind
   ·rw [decide_eq_true (show(4:Int)<=(l[k].kind:Int)/\(l[k].kind:Int)<=7 by omega)] at KS
    have J:Hid (Nxt l n k):=jd ⟨hnk,hk,ja HN,fun _=>h3⟩;clear q h3 hk7;generalize l[k].kind=z at *
    go_wp2_with fail
    refine(ja KS).mono ?_
    rintro e w2 ⟨rfl,hw⟩
    rw [hw];clear hw KS;go_wp2;go_end0;exact⟨k,rfl,ja J,(ja HR).next k,j7 _ _ _ _⟩
   ·rw [decide_eq_false (show ¬((4:Int)<=(l[k].kind:Int)/\(l[k].kind:Int)<=7) by omega)] at KS
    have J:Hid (∀m (h:m<l.length),n<=m->m<k+1->¬3<l[m].kind):=jd (fun m h h1 h2=>by
     by_cases e:m=k
     ·subst e;exact h3
     ·exact ja HN m h h1 (by omega))
    clear q h3 hk7;generalize l[k].kind=z at *
    go_wp2_with fail
    refine(ja KS).mono ?_
    rintro e w2 ⟨rfl,hw⟩
    rw [hw];clear hw KS;go_wp2;go_roundw
    case rel=>exact⟨by first | rfl | trivial,k+1,by omega,hlt,by go_num,J⟩
    case measure=>simp only [intOf];omega
  ·have hkl:k=l.length:=by omega
   have d1:decide ((k:Int)<(l.length:Int))=false:=decide_eq_false (by omega);have J:Hid (Nxt l n k):=jd ⟨hnk,hk,ja HN,fun h=>absurd h hlt⟩;clear hkl;go_wp2;go_end0;exact⟨k,rfl,ja J,(ja HR).next k,j7 _ _ _ _⟩
open Go.RowKit
open toks
theorem Good.byte {s:ByteArray}{l:List Tk}(g:Good s l)(i:Nat)(hi:i<l.length):s.data.toList.getD l[i].fro 0=s[l[i].fro]'(g.fro i hi):=by
 have h:=g.fro i hi;rw [List.getD_eq_getElem?_getD,List.getElem?_eq_getElem (by rw [jp];exact h)];rfl
theorem zc (w:World)(B:Nat)(s:ByteArray)(a:Option Addr)(cap:Nat)(l:List Tk)(i d:Nat)(pl er:Int)(hr:Rd w B s (.slice a l.length cap) i d pl er)(ht:TkIn w B a l)(g:Good s l)(hi:i<l.length) :
  Calls Tryz.prog 208 #[.pointer (some ⟨B,0,none⟩)] w fun e w'=>∃j,e=.returned (.int .i64 (i:Int))/\Nxt l (i+1) j/\Rd w' B s (.slice a l.length cap) j d pl er/\w.grownBy w' (some B):=by
 have K:=jd (jdT w B s a cap l i d pl er (i+1) hr ht g hi);have c2:=hr.cell 2 _ rfl;have hl:=g.len;clear hr ht g
 go_enter Tryz.func208,Tryz.ntmps208
 go_wp2_with fail
 refine(ja K).mono ?_
 rintro e w2 ⟨j,rfl,h1,h2,h3⟩
 have H1:=jd h1;have H2:=jd h2;have H3:=jd h3;clear K h1 h2 h3 c2;go_wp2;go_ret;exact⟨j,rfl,ja H1,ja H2,ja H3⟩
theorem Jg (w:World)(B:Nat)(s:ByteArray)(a:Option Addr)(cap:Nat)(l:List Tk)(i d:Nat)(pl er:Int)(ts:List Sym)(hr:Rd w B s (.slice a l.length cap) i d pl er)(ht:TkIn w B a l)(g:Good s l)(hat:At s.data.toList l i ts) :
  Calls Tryz.prog 169 #[.pointer (some ⟨B,0,none⟩)] w fun e w'=>e=.returned (.bool (jK ts 120))/\Below w.heap.size w w':=by
 have c1:=hr.cell 1 _ rfl;have c2:=hr.cell 2 _ rfl;have hl:=g.len;cases ts with
 | nil=>
  have hi:=jcg hat;have i1:(i:Int) ≥ (l.length:Int):=by omega
  have d1:decide ((i:Int) ≥ (l.length:Int))=true:=decide_eq_true i1;clear hr ht g hat hi
  go_enter Tryz.func169,Tryz.ntmps169
  go_wp2_with fail
  go_quiet (fail)
  go_wp2;go_ret;exact⟨rfl,below_drewN (Below.refl _ _) _⟩
 | cons x r=>
  obtain⟨hi,hx,hs,h3,_⟩:=QL hat;have hk:=jkf g hi h3;rw [<-hs] at hk;have E:Hid (jK (x :: r) 120=decide (l[i].kind=4\/l[i].kind=5)):=jd hk;have hne:l≠[]:=fun e=>by rw [e] at hi;simp at hi
  obtain⟨b,o,rfl,hb,q⟩:=ht hne;obtain⟨x1,_,_⟩:=q i hi;have hk7:=g.kind i hi;have i1:¬(i:Int) ≥ (l.length:Int):=by omega
  have d1:decide ((i:Int) ≥ (l.length:Int))=false:=decide_eq_false i1;have i2:(i:Int)<(l.length:Int):=by omega
  clear hr ht g hat q hs hx hk;generalize l[i].kind=z at *
  by_cases e4:z=4
  ·have f4:((z:Int) == 4)=true:=by rw [e4];rfl
   rw [decide_eq_true (by omega)] at E;clear e4
   go_enter Tryz.func169,Tryz.ntmps169
   go_wp2_with fail
   go_quiet (fail)
   go_wp2_with fail
   go_quiet (fail)
   go_wp2;go_ret;rw [ja E];exact⟨rfl,below_drewN (Below.refl _ _) _⟩
  ·have f4:((z:Int) == 4)=false:=beq_false_of_ne (by omega)
   by_cases e5:z=5
   ·have f5:((z:Int) == 5)=true:=by rw [e5];rfl
    rw [decide_eq_true (by omega)] at E;clear e4 e5
    go_enter Tryz.func169,Tryz.ntmps169
    go_wp2_with fail
    go_quiet (fail)
    go_wp2_with fail
    go_quiet (fail)
    go_wp2;go_ret;rw [ja E];exact⟨rfl,below_drewN (Below.refl _ _) _⟩
   ·have f5:((z:Int) == 5)=false:=beq_false_of_ne (by omega)
    rw [decide_eq_false (by omega)] at E;clear e4 e5
    go_enter Tryz.func169,Tryz.ntmps169
    go_wp2_with fail
    go_quiet (fail)
    go_wp2_with fail
    go_quiet (fail)
    go_wp2;go_ret;rw [ja E];exact⟨rfl,below_drewN (Below.refl _ _) _⟩
theorem jf2 (w:World)(B:Nat)(s:ByteArray)(a:Option Addr)(cap:Nat)(l:List Tk)(i d:Nat)(pl er:Int)(k:Nat)(hk:k<=6)(hr:Rd w B s (.slice a l.length cap) i d pl er)(ht:TkIn w B a l)(g:Good s l)(hi:i<l.length) :
  Calls Tryz.prog 174 #[.pointer (some ⟨B,0,none⟩),.int .i64 (k:Int)] w fun e w'=>∃j,e=.returned (.agg #[.int .i64 (k:Int),.int .i64 (i:Int),.int .i64 ((i+1:Nat):Int),.slice none 0 0])/\Nxt l (i+1) j/\Rd w' B s (.slice a l.length cap) j d pl er/\w.grownBy w' (some B):=by
 have hB:=hr.lt;have K:∀u,Below w.heap.size w u->Hid _:=fun u hu=>jd (zc u B s a cap l i d pl er (hr.below hu) (ht.below hu) g hi)
 have hl:=g.len;clear hr ht g;have K:=K _ ((Below.refl _ w).alloc (Nat.le_refl _) (.cells #[.int .i64 0,.int .i64 0,.int .i64 0,.slice none 0 0] 59));have cb:=jf w #[.int .i64 0,.int .i64 0,.int .i64 0,.slice none 0 0] 59
 go_enter Tryz.func174,Tryz.ntmps174
 go_wp2_with fail
 refine(ja K).mono ?_
 rintro e w2 ⟨j,rfl,h1,h2,h3⟩
 have H1:=jd h1;have H2:=jd h2;have H3:=jd h3;have cb2:=Blk.grown cb h3 (fun e=>by injection e with e;omega);obtain⟨z0,z1,z2,z3⟩:=Blk.cells4 cb2;obtain⟨y0,y1,y2,y3⟩:=Blk.froz4 cb2;have CB:=jd cb2;clear K h1 h2 h3 cb2 cb;go_wp2;have hF:=qC (ja CB) (.int .i64 (k:Int)) (.int .i64 (i:Int)) (.int .i64 ((i:Int)+1)) (.slice none 0 0);obtain⟨f0,f1,f2,f3⟩:=Blk.cells4 hF;have R1:Rd _ B s _ j d pl er:=qR (ja H2) (c:=B) (b:=w.heap.size) (by omega) (.int .i64 (k:Int)) (.int .i64 (i:Int)) (.int .i64 ((i:Int)+1)) (.slice none 0 0);have R2:w.grownBy _ (some B):=qQ (jj (ju (jC w (some B)) _) (ja H3)) (Nat.le_refl _) (.int .i64 (k:Int)) (.int .i64 (i:Int)) (.int .i64 ((i:Int)+1)) (.slice none 0 0)
 refine bodyPost_ret (v:=.agg #[.int .i64 (k:Int),.int .i64 (i:Int),.int .i64 ((i:Int)+1),.slice none 0 0]) (by simp [results,Tryz.results174,go_sem,f0,f1,f2,f3]) rfl ?_
 exact⟨j,by rw [show((i+1:Nat):Int)=(i:Int)+1 by omega],ja H1,R1,R2⟩
theorem jT (w:World)(B:Nat)(s:ByteArray)(a:Option Addr)(cap:Nat)(l:List Tk)(i d:Nat)(pl er:Int)(ts:List Sym)(k:Nat)(hk:k<=10)(hr:Rd w B s (.slice a l.length cap) i d pl er)(ht:TkIn w B a l)(g:Good s l)(hat:At s.data.toList l i ts) :
  Calls Tryz.prog 112 #[.pointer (some ⟨B,0,none⟩),.int .i64 (k:Int)] w fun e w'=>e=.returned (.tuple #[.agg #[.int .i64 0,.int .i64 0,.int .i64 0,.slice none 0 0],.bool false])/\Rd w' B s (.slice a l.length cap) i d (qP s l ts:Int) k/\w.grownBy w' (some B):=by
 have hB:=Blk.lt hr;have hl:=g.len;have hz:=g.size;have hr0:Rd ((World.alloc w (.cells #[.int .i64 0,.int .i64 0,.int .i64 0,.slice none 0 0] 59))) B s (.slice a l.length cap) i d pl er:=Blk.alloc hr _;have hr1:=(hr0.place (s.size:Int)).err (k:Int);have hcb:Blk ((((World.alloc w (.cells #[.int .i64 0,.int .i64 0,.int .i64 0,.slice none 0 0] 59))).setCell ⟨B,4,none⟩ (.int .i64 (s.size:Int))).setCell ⟨B,5,none⟩ (.int .i64 (k:Int))) w.heap.size #[.int .i64 0,.int .i64 0,.int .i64 0,.slice none 0 0] 59:=((jf w _ _).set_other _ _ (Nat.ne_of_gt hB)).set_other _ _ (Nat.ne_of_gt hB);have hgr:w.grownBy ((((World.alloc w (.cells #[.int .i64 0,.int .i64 0,.int .i64 0,.slice none 0 0] 59))).setCell ⟨B,4,none⟩ (.int .i64 (s.size:Int))).setCell ⟨B,5,none⟩ (.int .i64 (k:Int))) (some B):=jj (jj (ju (jC w (some B)) _) (j7 _ B 4 _)) (j7 _ B 5 _)
 have hrm:=hr0.place (s.size:Int);have u0:=hr0.cell 0 _ rfl;have u4:=hr0.cell 4 _ rfl;have v4:=hr0.froz 4;have u5:=hrm.cell 5 _ rfl;have v5:=hrm.froz 5;have HR1:=jd hr1;have HC:=jd hcb;have HG:=jd hgr;have HB:=jd hB;cases ts with
 | nil=>
  have hi:=jcg hat;have d1:decide ((i:Int)<(l.length:Int))=false:=decide_eq_false (by omega);have i1:¬(i:Int)<(l.length:Int):=by omega
  clear hr ht g hat hi hr0 hrm hr1 hcb hgr hB
  go_enter Tryz.func112,Tryz.ntmps112
  go_wp2_with fail
  clear u0 u4 u5 v4 v5;generalize hW:((((World.alloc w (.cells #[.int .i64 0,.int .i64 0,.int .i64 0,.slice none 0 0] 59))).setCell ⟨B,4,none⟩ (.int .i64 (s.size:Int))).setCell ⟨B,5,none⟩ (.int .i64 (k:Int)))=w1 at *;have u1:=Blk.cell (ja HR1) 1 _ rfl;have u2:=Blk.cell (ja HR1) 2 _ rfl;obtain⟨z0,z1,z2,z3⟩:=Blk.cells4 (ja HC);obtain⟨y0,y1,y2,y3⟩:=Blk.froz4 (ja HC);clear hW
  go_quiet (fail)
  go_wp2;clear z0 z1 z2 z3 y0 y1 y2 y3 u1 u2;have hF:=qC (w:=w1.drewN nq) (ja HC) (.int .i64 0) (.int .i64 0) (.int .i64 0) (.slice none 0 0);obtain⟨f0,f1,f2,f3⟩:=Blk.cells4 hF;have R1:Rd _ B s _ i d (qP s l []:Int) k:=qR (w:=w1.drewN nq) (ja HR1) (c:=B) (b:=w.heap.size) (Nat.ne_of_lt (ja HB)) (.int .i64 0) (.int .i64 0) (.int .i64 0) (.slice none 0 0);have R2:w.grownBy _ (some B):=qQ (Qp (ja HG) nq) (Nat.le_refl _) (.int .i64 0) (.int .i64 0) (.int .i64 0) (.slice none 0 0);refine bodyPost_ret (v:=.tuple #[.agg #[.int .i64 0,.int .i64 0,.int .i64 0,.slice none 0 0],.bool false]) (by simp [results,Tryz.results112,go_sem,f0,f1,f2,f3]) rfl ?_
  exact⟨rfl,R1,R2⟩
 | cons x r=>
  obtain⟨hi,hx,hs,h3,_⟩:=QL hat;have hne:l≠[]:=fun e=>by rw [e] at hi;simp at hi
  have EP:Hid (qP s l (x :: r)=l[i].fro):=jd (by
   show(l.getD x.2 ⟨0,0,0⟩).fro=_
   rw [hx,List.getD_eq_getElem?_getD,List.getElem?_eq_getElem hi];rfl)
  obtain⟨b,o,rfl,hb,q⟩:=ht.grown hgr hne;obtain⟨_,x2,_⟩:=q i hi;have i1:(i:Int)<(l.length:Int):=by omega
  have hfz:=g.fro i hi;clear hr ht g hat hr0 hrm hr1 hcb hgr q hs hx h3 hB;generalize l[i].fro=z at *
  go_enter Tryz.func112,Tryz.ntmps112
  go_wp2_with fail
  clear u0 u4 u5 v4 v5;generalize hW:((((World.alloc w (.cells #[.int .i64 0,.int .i64 0,.int .i64 0,.slice none 0 0] 59))).setCell ⟨B,4,none⟩ (.int .i64 (s.size:Int))).setCell ⟨B,5,none⟩ (.int .i64 (k:Int)))=w1 at *;have u1:=Blk.cell (ja HR1) 1 _ rfl;have u2:=Blk.cell (ja HR1) 2 _ rfl;have u4:=Blk.cell (ja HR1) 4 _ rfl;have v4:=Blk.froz (ja HR1) 4;clear hW
  go_quiet (fail)
  go_wp2_with fail
  go_region
  have hR3:Hid (Rd ((w1.drewN (nq+1)).setCell ⟨B,4,none⟩ (.int .i64 (z:Int))) B s (.slice (some ⟨b,o,none⟩) l.length cap) i d (z:Int) k):=jd (Rd.place (w:=w1.drewN (nq+1)) (ja HR1) (z:Int));have hC3:Hid (Blk ((w1.drewN (nq+1)).setCell ⟨B,4,none⟩ (.int .i64 (z:Int))) w.heap.size #[.int .i64 0,.int .i64 0,.int .i64 0,.slice none 0 0] 59):=jd (Blk.set_other (w:=w1.drewN (nq+1)) (ja HC) _ _ (Nat.ne_of_gt (ja HB)));have hG3:Hid (w.grownBy ((w1.drewN (nq+1)).setCell ⟨B,4,none⟩ (.int .i64 (z:Int))) (some B)):=jd (jj (Qp (ja HG) (nq+1)) (j7 _ B 4 _));generalize ((w1.drewN (nq+1)).setCell ⟨B,4,none⟩ (.int .i64 (z:Int)))=w3 at *;obtain⟨z0,z1,z2,z3⟩:=Blk.cells4 (ja hC3);obtain⟨y0,y1,y2,y3⟩:=Blk.froz4 (ja hC3);clear HR1 HC HG u1 u2 u4 v4 x2;go_wp2;clear z0 z1 z2 z3 y0 y1 y2 y3
  have hF:=qC (ja hC3) (.int .i64 0) (.int .i64 0) (.int .i64 0) (.slice none 0 0);obtain⟨f0,f1,f2,f3⟩:=Blk.cells4 hF;have R1:Rd _ B s _ i d (z:Int) k:=qR (ja hR3) (c:=B) (b:=w.heap.size) (Nat.ne_of_lt (ja HB)) (.int .i64 0) (.int .i64 0) (.int .i64 0) (.slice none 0 0);have R2:w.grownBy _ (some B):=qQ (ja hG3) (Nat.le_refl _) (.int .i64 0) (.int .i64 0) (.int .i64 0) (.slice none 0 0);refine bodyPost_ret (v:=.tuple #[.agg #[.int .i64 0,.int .i64 0,.int .i64 0,.slice none 0 0],.bool false]) (by simp [results,Tryz.results112,go_sem,f0,f1,f2,f3]) rfl ?_
  rw [ja EP];exact⟨rfl,R1,R2⟩
theorem jz (w:World)(B:Nat)(s:ByteArray)(a:Option Addr)(cap:Nat)(l:List Tk)(i d:Nat)(pl er:Int)(ts:List Sym)(m:UInt8)(m1:m≠63)(m2:m≠120)(hr:Rd w B s (.slice a l.length cap) i d pl er)(ht:TkIn w B a l)(g:Good s l)(hat:At s.data.toList l i ts) :
  Calls Tryz.prog 168 #[.pointer (some ⟨B,0,none⟩),.int .u8 (m.toNat:Int)] w fun e w'=>e=.returned (.bool (jK ts m))/\Below w.heap.size w w':=by
 have c1:=hr.cell 1 _ rfl;have c2:=hr.cell 2 _ rfl;have hl:=g.len;cases ts with
 | nil=>
  have hi:=jcg hat;have i1:(i:Int) ≥ (l.length:Int):=by omega
  have d1:decide ((i:Int) ≥ (l.length:Int))=true:=decide_eq_true i1;clear hr ht g hat hi
  go_enter Tryz.func168,Tryz.ntmps168
  go_wp2_with fail
  go_quiet (fail)
  go_wp2;go_ret;exact⟨rfl,below_drewN (Below.refl _ _) _⟩
 | cons x r=>
  obtain⟨hi,hx,hs,h3,_⟩:=QL hat;have hk:=ji3 g hi m1 m2;rw [<-hs,g.byte i hi] at hk;have hf:=g.fro i hi;have E:Hid (jK (x :: r) m=(decide (l[i].kind=6) && (s[l[i].fro]'hf == m))):=jd hk;have hne:l≠[]:=fun e=>by rw [e] at hi;simp at hi
  obtain⟨b,o,rfl,hb,q⟩:=ht hne;obtain⟨x1,x2,x3⟩:=q i hi;have hk7:=g.kind i hi;have hz:=g.size;have i1:¬(i:Int) ≥ (l.length:Int):=by omega
  have d1:decide ((i:Int) ≥ (l.length:Int))=false:=decide_eq_false i1;have i2:(i:Int)<(l.length:Int):=by omega
  have c0:=hr.cell 0 _ rfl;have HR:=jd hr;clear hr ht g hat q hs hx hk;generalize l[i].kind=z at *;generalize l[i].fro=y at *;generalize l[i].til=y3 at *
  have al:∀{p:Addr} {v:Value} (n:Nat),w.cell? p=some v->((w.drewN n).alloc (.cells #[.int .i64 0,.int .i64 0,.int .i64 0] 39)).cell? p=some v:=fun n h=>by
   rw [<-h];exact World.cell?_of_block (Below.heap_alloc _ _ _ (World.block_lt_of_cell? w _ h))
  have e1:∀n:Nat,((w.drewN n).alloc (.cells #[.int .i64 0,.int .i64 0,.int .i64 0] 39)).cell? ⟨B,1,none⟩=some (.slice (some ⟨b,o,none⟩) l.length cap):=fun n=>al n c1
  have e2:∀n:Nat,((w.drewN n).alloc (.cells #[.int .i64 0,.int .i64 0,.int .i64 0] 39)).cell? ⟨B,2,none⟩=some (.int .i64 (i:Int)):=fun n=>al n c2
  have e3:∀n:Nat,((w.drewN n).alloc (.cells #[.int .i64 0,.int .i64 0,.int .i64 0] 39)).cell? ⟨b,o+i*3,none⟩=some (.int .i64 (z:Int)):=fun n=>al n x1
  have e4:∀n:Nat,((w.drewN n).alloc (.cells #[.int .i64 0,.int .i64 0,.int .i64 0] 39)).cell? ⟨b,o+i*3+1,none⟩=some (.int .i64 (y:Int)):=fun n=>al n x2
  have e5:∀n:Nat,((w.drewN n).alloc (.cells #[.int .i64 0,.int .i64 0,.int .i64 0] 39)).cell? ⟨b,o+i*3+2,none⟩=some (.int .i64 (y3:Int)):=fun n=>al n x3
  clear al;have nb:∀n:Nat,Blk ((w.drewN n).alloc (.cells #[.int .i64 0,.int .i64 0,.int .i64 0] 39)) w.heap.size #[.int .i64 0,.int .i64 0,.int .i64 0] 39:=fun n=>jf (w.drewN n) _ _
  have n0:=fun n=>(nb n).cell 0 _ rfl
  have n1:=fun n=>(nb n).cell 1 _ rfl
  have n2:=fun n=>(nb n).cell 2 _ rfl
  have f0:=fun n=>(nb n).froz 0
  have f1:=fun n=>(nb n).froz 1
  have f2:=fun n=>(nb n).froz 2
  have NB:=fun n=>jd (nb n)
  clear nb
  go_enter Tryz.func168,Tryz.ntmps168
  go_wp2_with fail
  go_quiet (fail)
  go_wp2_with fail
  go_region
  have B3:Hid (Below w.heap.size w (((((w.drewN (nq+1)).alloc (.cells #[.int .i64 0,.int .i64 0,.int .i64 0] 39)).setCell ⟨w.heap.size,0,none⟩ (.int .i64 (z:Int))).setCell ⟨w.heap.size,1,none⟩ (.int .i64 (y:Int))).setCell ⟨w.heap.size,2,none⟩ (.int .i64 (y3:Int)))):=jd (((((below_drewN (Below.refl _ w) _).alloc (Nat.le_refl _) _).setCell (Nat.le_refl _) _).setCell (Nat.le_refl _) _).setCell (Nat.le_refl _) _)
  have K3:Hid (Blk (((((w.drewN (nq+1)).alloc (.cells #[.int .i64 0,.int .i64 0,.int .i64 0] 39)).setCell ⟨w.heap.size,0,none⟩ (.int .i64 (z:Int))).setCell ⟨w.heap.size,1,none⟩ (.int .i64 (y:Int))).setCell ⟨w.heap.size,2,none⟩ (.int .i64 (y3:Int))) w.heap.size #[.int .i64 (z:Int),.int .i64 (y:Int),.int .i64 (y3:Int)] 39):=jd (by
   have:=(((ja (NB (nq+1))).set 0 (.int .i64 (z:Int))).set 1 (.int .i64 (y:Int))).set 2 (.int .i64 (y3:Int));simpa using this)
  generalize (((((w.drewN (nq+1)).alloc (.cells #[.int .i64 0,.int .i64 0,.int .i64 0] 39)).setCell ⟨w.heap.size,0,none⟩ (.int .i64 (z:Int))).setCell ⟨w.heap.size,1,none⟩ (.int .i64 (y:Int))).setCell ⟨w.heap.size,2,none⟩ (.int .i64 (y3:Int)))=w3 at *;have g0:=(ja K3).cell 0 _ rfl;have g1:=(ja K3).cell 1 _ rfl;have r0:=Blk.cell ((ja HR).below (ja B3)) 0 _ rfl;clear n0 n1 n2 f0 f1 f2 NB e1 e2 e3 e4 e5 K3 x1 x2 x3 c0 c1 c2 HR;have i3:(y:Int)<(s.size:Int):=by omega
  by_cases e6:z=6
  ·have j6:((z:Int) == 6)=true:=by rw [e6];rfl
   rw [decide_eq_true e6,Bool.true_and] at E;clear e6
   by_cases em:s[y]'hf=m
   ·have jm:(((s[y]'hf).toNat:Int) == (m.toNat:Int))=true:=jb4 m em
    rw [show((s[y]'hf) == m)=true by rw [em];exact beq_self_eq_true _] at E;clear em
    go_wp2_with fail
    go_quiet (fail)
    go_wp2;go_ret;rw [ja E];exact⟨rfl,below_drewN (ja B3) _⟩
   ·have jm:(((s[y]'hf).toNat:Int) == (m.toNat:Int))=false:=jcB m em
    rw [show((s[y]'hf) == m)=false from beq_false_of_ne em] at E;clear em
    go_wp2_with fail
    go_quiet (fail)
    go_wp2;go_ret;rw [ja E];exact⟨rfl,below_drewN (ja B3) _⟩
  ·have j6:((z:Int) == 6)=false:=beq_false_of_ne (by omega)
   rw [decide_eq_false e6,Bool.false_and] at E;clear e6
   go_wp2_with fail
   go_quiet (fail)
   go_wp2;go_ret;rw [ja E];exact⟨rfl,below_drewN (ja B3) _⟩
open Go.RowKit
open toks
def Res (B:Nat)(s:ByteArray)(a:Option Addr)(cap:Nat)(l:List Tk)(d f:Nat)(w:World)(q:R)(e:Ending)(w':World):Prop :=
 w.grownBy w' (some B)/\
 match q with
 | .inl (c,ts)=>e=.returned (.tuple #[(.agg #[.int .i64 0,.int .i64 0,.int .i64 0,.slice none 0 0]),.bool false])/\∃i d',Rd w' B s (.slice a l.length cap) i d' (qP s l ts:Int) (c:Int)
 | .inr (t,ts)=>∃u0 u1 u2 u3,e=.returned (.tuple #[.agg #[u0,u1,u2,u3],.bool true])/\Lies (fun b=>w.heap.size<=b) f w' [u0,u1,u2,u3] t/\∃i pl er,Rd w' B s (.slice a l.length cap) i d pl er/\At s.data.toList l i ts
theorem JL {L:List UInt8}{l:List Tk}{i:Nat}{x:Sym}{r:List Sym}(h:At L l i (x :: r)):i<l.length/\x.2=i/\∀j,Nxt l (i+1) j->At L l j r:=by
 obtain⟨hi,hx,_,_,hr⟩:=QL h;exact⟨hi,hx,fun j hj=>by rw [hr];exact hj.at⟩
theorem jb5 (L:List UInt8):∀(l:List Tk) (i:Nat),(zA L i l).length<=l.length
 | [],i=>Nat.le_refl _
 | t :: l,i=>by
  have ih:=jb5 L l (i+1)
  by_cases h:3<t.kind
  ·rw [Jd h,List.length_cons,List.length_cons];omega
  ·rw [Xp h,List.length_cons];omega
theorem At.len {L:List UInt8}{l:List Tk}{i:Nat}{ts:List Sym}(h:At L l i ts):ts.length<=l.length:=by
 rw [h.eq];have:=jb5 L (l.drop i) i;rw [List.length_drop] at this;omega
theorem Rd.lev {w:World}{B:Nat}{s:ByteArray}{tv:Value}{i d:Nat}{pl er:Int}(h:Rd w B s tv i d pl er)(z:Int)(j:Nat)(hz:z=j):Rd (w.setCell ⟨B,3,none⟩ (.int .i64 z)) B s tv i j pl er:=by
 rw [hz];exact h.level j
theorem Lies.own {ok:Nat->Prop}{w:World}:∀{f:Nat} {vs:List Value} {t:T},Lies ok f w vs t->Lies (fun b=>ok b/\b<w.heap.size) f w vs t
 | 0,_,_,h=>h.elim
 | f+1,vs,t,h=>by
  obtain⟨k,a,e,l,p,cap,h1,h2,h3,h4⟩:=h;refine⟨k,a,e,l,p,cap,h1,h2,h3,fun hl=>?_⟩;obtain⟨b,o,hp,hok,hlt,hk⟩:=h4 hl;refine⟨b,o,hp,⟨hok,hlt⟩,hlt,fun j hj=>?_⟩;obtain⟨us,u1,u2,u3⟩:=hk j hj;exact⟨us,u1,u2,Lies.own u3⟩
theorem KidsIn.weaken {ok ok':Nat->Prop}{w:World}{f:Nat}{vss:List (List Value)}{l:List T}(ho:∀b,ok b->ok' b)(h:KidsIn ok f w vss l):KidsIn ok' f w vss l :=
 ⟨h.len,fun j hj hj'=>(h.each j hj hj').weaken ho⟩
theorem KidsIn.own {ok:Nat->Prop}{w:World}{f:Nat}{vss:List (List Value)}{l:List T}(h:KidsIn ok f w vss l):KidsIn (fun b=>ok b/\b<w.heap.size) f w vss l :=
 ⟨h.len,fun j hj hj'=>(h.each j hj hj').own⟩
theorem jcQ:(Tryz.prog.info? 59).map (fun i=>(i.zero,i.size,i.bytes))=some (some (.agg #[.int .i64 0,.int .i64 0,.int .i64 0,.slice none 0 0]),4,48):=by kernel_rfl
theorem XW {w:World}{base e n:Nat}{v:Value}{xs:List Value}(h:w.ownsRow base e 4 v n xs):∀g,v.ownBlock=some g->base<=g:=fun g hg=>(h.lt g hg).1
theorem QO {w w':World}{base e n B:Nat}{v:Value}{xs:List Value}(h:w.ownsRow base e 4 v n xs)(hg:w.grownBy w' (some B))(hB:B<base):w'.ownsRow base e 4 v n xs:=by
 refine h.kept hg ?_
 cases hv:v.ownBlock with
 | none=>exact .inl rfl
 | some g=>exact .inr (fun e=>by injection e with e;have:=XW h g hv;omega)
theorem Qd {w:World}{base e n B:Nat}{v:Value}{xs:List Value}(h:w.ownsRow base e 4 v n xs)(hB:B<base):some B≠v.ownBlock:=fun e=>by
 have:=XW h B e.symm;omega
theorem QY (w:World)(x y z u:Value)(t:TypeId):∀j r,[x,y,z,u][j]?=some r->(w.alloc (.cells #[x,y,z,u] t)).cell? ((⟨w.heap.size,0,none⟩:Addr).add j)=some r :=
 fun j r hu=>World.news_of_block (jf w #[x,y,z,u] t) j r hu
theorem jZ {ts:List Sym}{m:UInt8}(h:jK ts m=true):∃x r,ts=x :: r/\x.1=m:=by
 cases ts with
 | nil=>cases h
 | cons x r=>exact⟨x,r,rfl,by simpa [jK] using h⟩
theorem j9 {x:Sym}{r:List Sym}{m:UInt8}(h:jK (x :: r) m=false):x.1≠m:=by simpa [jK] using h
theorem Z1 {q:List Sym->R}{ec:UInt8}{kind i F:Nat}{acc:List T}{x:Sym}{r:List Sym}(hx:x.1=ec)(hF:(x :: r).length<F):jE q ec kind i F acc (x :: r)=.inr (nd kind i (x.2+1) acc,r):=by
 cases F with
 | zero=>omega
 | succ F=>rw [jE,if_pos hx]
theorem ZJ {q:List Sym->R}{ec:UInt8}{kind i F:Nat}{acc:List T}{ts:List Sym}{e:Nat×List Sym}(hs:jK ts ec=false)(hq0:q []=.inl (4,[]))(hq:q ts=.inl e)(hF:ts.length<F):jE q ec kind i F acc ts=.inl e:=by
 cases F with
 | zero=>omega
 | succ F=>
  cases ts with
  | nil=>rw [hq0] at hq;rw [jE];exact hq
  | cons x r=>rw [jE,if_neg (j9 hs),hq]
theorem YK {q:List Sym->R}{ec:UInt8}{kind i F:Nat}{acc:List T}{ts:List Sym}{t:T}{y:Sym}{r2:List Sym}(hs:jK ts ec=false)(hq0:q []=.inl (4,[]))(hq:q ts=.inr (t,y :: r2))(hy:y.1=44)(hF:ts.length<F):jE q ec kind i F acc ts=jE q ec kind i (F - 1) (acc++[t]) r2:=by
 cases F with
 | zero=>omega
 | succ F=>
  cases ts with
  | nil=>rw [hq0] at hq;cases hq
  | cons x r=>
   rw [jE,if_neg (j9 hs),hq];simp only;rw [if_pos hy];rfl
theorem jbL {q:List Sym->R}{ec:UInt8}{kind i F:Nat}{acc:List T}{ts:List Sym}{t:T}{y:Sym}{r2:List Sym}(hs:jK ts ec=false)(hq0:q []=.inl (4,[]))(hq:q ts=.inr (t,y :: r2))(hy:y.1≠44)(hy2:y.1=ec)(hF:ts.length<F):jE q ec kind i F acc ts=.inr (nd kind i (y.2+1) (acc++[t]),r2):=by
 cases F with
 | zero=>omega
 | succ F=>
  cases ts with
  | nil=>rw [hq0] at hq;cases hq
  | cons x r=>
   rw [jE,if_neg (j9 hs),hq];simp only;rw [if_neg hy,if_pos hy2]
theorem jbc {q:List Sym->R}{ec:UInt8}{kind i F:Nat}{acc:List T}{ts rest:List Sym}{t:T}(hs:jK ts ec=false)(hq0:q []=.inl (4,[]))(hq:q ts=.inr (t,rest))(h1:jK rest 44=false)(h2:jK rest ec=false)(hF:ts.length<F):jE q ec kind i F acc ts=.inl (4,rest):=by
 cases F with
 | zero=>omega
 | succ F=>
  cases ts with
  | nil=>rw [hq0] at hq;cases hq
  | cons x r=>
   rw [jE,if_neg (j9 hs),hq];cases rest with
   | nil=>rfl
   | cons y r2=>
    simp only;rw [if_neg (j9 h1),if_neg (j9 h2)]
def zv (w:World)(B:Nat):Nat:=match w.cell? ⟨B,2,none⟩ with | some (.int _ n)=>n.toNat | _=>0
def left (L:List UInt8)(l:List Tk)(B:Nat)(w:World):Nat:=(zA L (zv w B) (l.drop (zv w B))).length
theorem left_eq {w:World}{B:Nat}{s:ByteArray}{tv:Value}{i d:Nat}{pl er:Int}{l:List Tk}{ts:List Sym}(h:Rd w B s tv i d pl er)(ha:At s.data.toList l i ts):left s.data.toList l B w=ts.length:=by
 have e:zv w B=i:=by
  unfold zv;rw [Blk.cell h 2 (.int .i64 (i:Int)) rfl];simp
 unfold left;rw [e,<-ha.eq]
structure BInv (w:World) (B N:Nat) (s:ByteArray) (a:Option Addr) (cap:Nat) (l:List Tk) (d f kind i:Nat) (acc:List T) (vss:List (List Value)) (v:Value) (iC:Nat) (pl er:Int) (ts:List Sym) (wr:World):Prop where
 rd:Rd wr B s (.slice a l.length cap) iC (d+1) pl er
 at':At s.data.toList l iC ts
 nb:Blk wr N #[.int .i64 (kind:Int),.int .i64 (i:Int),.int .i64 0,v] 59
 zb:Blk wr w.heap.size #[.int .i64 0,.int .i64 0,.int .i64 0,.slice none 0 0] 59
 own:wr.ownsRow (N+1) 59 4 v acc.length vss.flatten
 kids:KidsIn (fun b=>N+1<=b/\some b≠v.ownBlock) f wr vss acc
 gr:w.grownBy wr (some B)
 lt:B<w.heap.size/\w.heap.size<N
theorem BInv.sz {w:World}{B N:Nat}{s:ByteArray}{a:Option Addr}{cap:Nat}{l:List Tk}{d f kind i:Nat}{acc:List T}{vss:List (List Value)}{v:Value}{iC:Nat}{pl er:Int}{ts:List Sym}{wr:World}(h:BInv w B N s a cap l d f kind i acc vss v iC pl er ts wr):N<wr.heap.size:=Blk.lt h.nb
theorem BInv.on {w:World}{B N:Nat}{s:ByteArray}{a:Option Addr}{cap:Nat}{l:List Tk}{d f kind i:Nat}{acc:List T}{vss:List (List Value)}{v:Value}{iC:Nat}{pl er:Int}{ts:List Sym}{wr wa:World}(h:BInv w B N s a cap l d f kind i acc vss v iC pl er ts wr)(hg:wr.grownBy wa (some B)){iC':Nat}{pl' er':Int}{ts':List Sym}(hr:Rd wa B s (.slice a l.length cap) iC' (d+1) pl' er')(ha:At s.data.toList l iC' ts') :
  BInv w B N s a cap l d f kind i acc vss v iC' pl' er' ts' wa:=by
 have h1:=h.lt;refine⟨hr,ha,Blk.grown h.nb hg (fun e=>by injection e with e;omega),Blk.grown h.zb hg (fun e=>by injection e with e;omega),QO h.own hg (by omega),?_,jj h.gr hg,h1⟩;exact h.kids.kept hg.size (fun b hb hlt=>hg.block b hlt (fun e=>by injection e with e;omega))
theorem BInv.below {w:World}{B N:Nat}{s:ByteArray}{a:Option Addr}{cap:Nat}{l:List Tk}{d f kind i:Nat}{acc:List T}{vss:List (List Value)}{v:Value}{iC:Nat}{pl er:Int}{ts:List Sym}{wr wa:World}(h:BInv w B N s a cap l d f kind i acc vss v iC pl er ts wr)(hb:Below wr.heap.size wr wa) :
  BInv w B N s a cap l d f kind i acc vss v iC pl er ts wa:=h.on (jI hb) (h.rd.below hb) h.at'
theorem BInv.more {w:World}{B N:Nat}{s:ByteArray}{a:Option Addr}{cap:Nat}{l:List Tk}{d f kind i:Nat}{acc:List T}{vss:List (List Value)}{v v':Value}{iC:Nat}{pl er:Int}{ts:List Sym}{wr wx:World}{t:T}{us:List Value}(h:BInv w B N s a cap l d f kind i acc vss v iC pl er ts wr)
  (hL:Lies (fun b=>N+1<=b/\some b≠v.ownBlock) f wr us t) (hown:wx.ownsRow (N+1) 59 4 v' (acc.length+1) (vss.flatten++us)) (hg:wr.grownBy wx v.ownBlock) (hat:v'.ownBlock=v.ownBlock\/∀g,v'.ownBlock=some g->wr.heap.size<=g) :
  BInv w B N s a cap l d f kind i (acc++[t]) (vss++[us]) v' iC pl er ts (wx.setCell ⟨N,3,none⟩ v'):=by
 have h1:=h.lt;have nB:=Qd h.own (show B<N+1 by omega);have nN:=Qd h.own (show N<N+1 by omega);have nW:=Qd h.own (show w.heap.size<N+1 by omega);have hx:wx.grownBy (wx.setCell ⟨N,3,none⟩ v') (some N):=j7 _ _ _ _;have hxh:∀b,b≠N->(wx.setCell ⟨N,3,none⟩ v').heap[b]?=wx.heap[b]?:=fun b hb=>Below.heap_setCell _ _ _ _ hb
 refine⟨Blk.set_other (Blk.grown h.rd hg nB) _ _ (show B≠N by omega),h.at',?_,Blk.set_other (Blk.grown h.zb hg nW) _ _ (show w.heap.size≠N by omega),?_,?_,?_,h1⟩
 ·have:=Blk.set (Blk.grown h.nb hg nN) 3 v'
  exact this
 ·have e:(acc++[t]).length=acc.length+1:=by simp
  have e2:(vss++[us]).flatten=vss.flatten++us:=by simp
  rw [e,e2];refine hown.kept hx ?_
  cases hv:v'.ownBlock with
  | none=>exact .inl rfl
  | some g=>exact .inr (fun e=>by injection e with e;have:=XW hown g hv;omega)
 ·have hk:KidsIn (fun b=>N+1<=b/\some b≠v.ownBlock) f wr (vss++[us]) (acc++[t]):=h.kids.snoc hL
  have hk2:=hk.own;have hk3:KidsIn (fun b=>(N+1<=b/\some b≠v.ownBlock)/\b<wr.heap.size) f (wx.setCell ⟨N,3,none⟩ v') (vss++[us]) (acc++[t]):=hk2.kept (Nat.le_trans hg.size hx.size) (fun b hb hlt=>by rw [hxh b (by omega)];exact hg.block b hlt hb.1.2);refine hk3.weaken fun b hb=>⟨hb.1.1,?_⟩
  rcases hat with e | e
  ·rw [e];exact hb.1.2
  ·intro e2
   have:=e b e2.symm;have:=hb.2;omega
 ·exact⟨(hg.os.trans h.gr.os),hg.tape.trans h.gr.tape,hg.output.trans h.gr.output,by simpa [World.setCell] using Nat.le_trans h.gr.size hg.size,fun k hk hr=>by
   rw [hxh k (by omega),hg.block k (Nat.lt_of_lt_of_le hk h.gr.size) (fun e=>by have:=XW h.own k e.symm;omega)];exact h.gr.block k hk hr⟩
theorem Jz {w:World}{base e n:Nat}{v:Value}{xs:List Value}(h:w.ownsRow base e 4 v n xs):∃p m c,v=.slice p m c:=by
 rcases h.2 with ⟨rfl,_⟩ | ⟨g,cap,cur,rfl,_⟩
 ·exact⟨_,_,_,rfl⟩
 ·exact⟨_,_,_,rfl⟩
theorem jdv (w:World)(p:Addr)(v:Value):(w.setCell p v).heap.size=w.heap.size:=by simp [World.setCell]
theorem jhf {w w':World}{r:Option Nat}(h:w.grownBy w' r)(b j:Nat)(v:Value)(hb:w.heap.size<=b):w.grownBy (w'.setCell ⟨b,j,none⟩ v) r :=
 ⟨h.os,h.tape,h.output,by rw [jdv];exact h.size,fun k hk hr=>by rw [Below.heap_setCell _ _ _ _ (show k≠b by omega)];exact h.block k hk hr⟩
theorem BInv.nb2 {w:World}{B N:Nat}{s:ByteArray}{a:Option Addr}{cap:Nat}{l:List Tk}{d f kind i:Nat}{acc:List T}{vss:List (List Value)}{v:Value}{iC:Nat}{pl er:Int}{ts:List Sym}{wa w4:World}(h:BInv w B N s a cap l d f kind i acc vss v iC pl er ts wa)(hg:wa.grownBy w4 (some B))(z:Value):Blk w4 N #[.int .i64 (kind:Int),.int .i64 (i:Int),.int .i64 0,v] 59/\Blk (w4.setCell ⟨N,2,none⟩ z) N #[.int .i64 (kind:Int),.int .i64 (i:Int),z,v] 59/\Blk (w4.setCell ⟨N,2,none⟩ z) w.heap.size #[.int .i64 0,.int .i64 0,.int .i64 0,.slice none 0 0] 59:=by
 have h1:=h.lt;have k1:=Blk.grown h.nb hg (fun e=>by injection e with e;omega);have k2:=Blk.grown h.zb hg (fun e=>by injection e with e;omega);refine⟨k1,?_,Blk.set_other k2 _ _ (show w.heap.size≠N by omega)⟩;have:=Blk.set k1 2 z;exact this
theorem BInv.fin {w:World}{B N:Nat}{s:ByteArray}{a:Option Addr}{cap:Nat}{l:List Tk}{d f kind i:Nat}{acc:List T}{vss:List (List Value)}{v:Value}{iC:Nat}{pl er:Int}{ts:List Sym}{wa w4:World}(h:BInv w B N s a cap l d f kind i acc vss v iC pl er ts wa)(hg:wa.grownBy w4 (some B)){i4:Nat}{pl4 er4:Int}{r1:List Sym}(hr:Rd w4 B s (.slice a l.length cap) i4 d pl4 er4)(ha:At s.data.toList l i4 r1)(e:Nat)(z:Int)(hz:z=e) :
  Res B s a cap l d (f+1) w (.inr (nd kind i e acc,r1)) (.returned (.tuple #[.agg #[.int .i64 (kind:Int),.int .i64 (i:Int),.int .i64 z,v],.bool true])) (zH (w4.setCell ⟨N,2,none⟩ (.int .i64 z)) w.heap.size (.int .i64 (kind:Int)) (.int .i64 (i:Int)) (.int .i64 z) v):=by
 subst hz;have h1:=h.lt;have hgr:=jj h.gr hg;have hx:w4.grownBy (w4.setCell ⟨N,2,none⟩ (.int .i64 (e:Int))) (some N):=j7 _ _ _ _
 have hb:∀b,N+1<=b->(zH (w4.setCell ⟨N,2,none⟩ (.int .i64 (e:Int))) w.heap.size (.int .i64 (kind:Int)) (.int .i64 (i:Int)) (.int .i64 (e:Int)) v).heap[b]?=w4.heap[b]?:=fun b hb=>by
  rw [QI (by omega),Below.heap_setCell _ _ _ _ (show b≠N by omega)]
 have hsz:(zH (w4.setCell ⟨N,2,none⟩ (.int .i64 (e:Int))) w.heap.size (.int .i64 (kind:Int)) (.int .i64 (i:Int)) (.int .i64 (e:Int)) v).heap.size=w4.heap.size:=by
  rw [QB,jdv]
 have hgF:w.grownBy (zH (w4.setCell ⟨N,2,none⟩ (.int .i64 (e:Int))) w.heap.size (.int .i64 (kind:Int)) (.int .i64 (i:Int)) (.int .i64 (e:Int)) v) (some B):=qQ (jhf hgr N 2 _ (by omega)) (Nat.le_refl _) _ _ _ _;refine⟨hgF,_,_,_,_,rfl,?_,i4,pl4,er4,qR (Blk.set_other hr _ _ (show B≠N by omega)) (show B≠w.heap.size by omega) _ _ _ _,ha⟩;have hk4:KidsIn (fun b=>N+1<=b/\some b≠v.ownBlock) f w4 vss acc:=h.kids.kept hg.size (fun b hb hlt=>hg.block b hlt (fun e=>by injection e with e;omega));have hkF:=(hk4.kept (w':=zH (w4.setCell ⟨N,2,none⟩ (.int .i64 (e:Int))) w.heap.size (.int .i64 (kind:Int)) (.int .i64 (i:Int)) (.int .i64 (e:Int)) v) (by rw [hsz];exact Nat.le_refl _) (fun b hb' hlt=>hb b hb'.1)).weaken (ok':=fun b=>w.heap.size<=b) (fun b hb=>by omega);refine jjx (base:=N+1) (ty:=59) hkF ?_ (fun b hb=>by omega)
 have ho4:=QO h.own hg (show B<N+1 by omega);have ho5:(w4.setCell ⟨N,2,none⟩ (.int .i64 (e:Int))).ownsRow (N+1) 59 4 v acc.length vss.flatten:=QO ho4 hx (by omega)
 have hput:(w4.setCell ⟨N,2,none⟩ (.int .i64 (e:Int))).grownBy (zH (w4.setCell ⟨N,2,none⟩ (.int .i64 (e:Int))) w.heap.size (.int .i64 (kind:Int)) (.int .i64 (i:Int)) (.int .i64 (e:Int)) v) (some w.heap.size) :=
  ⟨rfl,rfl,rfl,by rw [QB];exact Nat.le_refl _,fun k hk hr=>QI (fun e=>hr (by rw [e])) _ _ _ _⟩
 exact QO ho5 hput (by omega)
theorem ZV {w wx:World}{B:Nat}{s:ByteArray}{a:Option Addr}{cap:Nat}{l:List Tk}{d f c:Nat}{te:List Sym}{i d':Nat}(hB:B<w.heap.size)(hg:w.grownBy wx (some B))(hz:Blk wx w.heap.size #[.int .i64 0,.int .i64 0,.int .i64 0,.slice none 0 0] 59)(hr:Rd wx B s (.slice a l.length cap) i d' (qP s l te:Int) (c:Int)) :
  Res B s a cap l d f w (.inl (c,te)) (.returned (.tuple #[(.agg #[.int .i64 0,.int .i64 0,.int .i64 0,.slice none 0 0]),.bool false])) (zH wx w.heap.size (.int .i64 0) (.int .i64 0) (.int .i64 0) (.slice none 0 0))/\Cells4 (zH wx w.heap.size (.int .i64 0) (.int .i64 0) (.int .i64 0) (.slice none 0 0)) w.heap.size (.int .i64 0) (.int .i64 0) (.int .i64 0) (.slice none 0 0) :=
 ⟨⟨qQ hg (Nat.le_refl _) _ _ _ _,rfl,i,d',qR hr (show B≠w.heap.size by omega) _ _ _ _⟩,Blk.cells4 (qC hz _ _ _ _)⟩
theorem Lies.form {ok:Nat->Prop}{f:Nat}{w:World}{u0 u1 u2 u3:Value}{t:T}(h:Lies ok f w [u0,u1,u2,u3] t):∃(k a e:Nat) (p:Option Addr) (n c:Nat),u0=.int .i64 (k:Int)/\u1=.int .i64 (a:Int)/\u2=.int .i64 (e:Int)/\u3=.slice p n c:=by
 cases f with
 | zero=>exact h.elim
 | succ f=>
  obtain⟨k,a,e,l,p,cap,_,hv,_⟩:=h;injection hv with h0 hv;injection hv with h1 hv;injection hv with h2 hv;injection hv with h3 _;exact⟨k,a,e,p,_,cap,h0,h1,h2,h3⟩
theorem jdN {q:List Sym->R}(hq:Loc q){ts rest:List Sym}{t:T}(h:q ts=.inr (t,rest)):rest.length<ts.length:=by
 obtain⟨p,hp,e,_⟩:=hq.good _ _ _ h;have:=List.length_pos_iff.2 hp;rw [e,List.length_append];omega
open Go.RowKit
open toks
theorem jbQ {w:World}{R0:Nat}{ok:Nat->Prop}{f:Nat}{vs:List Value}{t:T}(h:Lies ok f w vs t)(ho:∀b,ok b->b≠R0)(u0 u1 u2 u3:Value):Lies ok f (zH w R0 u0 u1 u2 u3) vs t :=
 h.kept (by rw [QB];exact Nat.le_refl _) (fun b hb _=>QI (ho b hb) _ _ _ _)
theorem qW {u u1 w':World}{B R0:Nat}{s:ByteArray}{a:Option Addr}{cap:Nat}{l:List Tk}{d f i:Nat}{pl er:Int}{t:T}{ts:List Sym}{x0 x1 x2 x3 v0 v1 v2 v3:Value}(hB:B<u.heap.size)(h0:u.heap.size<=R0)(h1:R0<u1.heap.size)(hg:u.grownBy u1 (some B))(hg1:u1.grownBy w' (some B))(hz:Blk w' R0 #[x0,x1,x2,x3] 59)
  (hL:Lies (fun b=>u1.heap.size<=b) f w' [v0,v1,v2,v3] t) (hr:Rd w' B s (.slice a l.length cap) i d pl er) (ha:At s.data.toList l i ts) :
  Res B s a cap l d f u (.inr (t,ts)) (.returned (.tuple #[.agg #[v0,v1,v2,v3],.bool true])) (zH w' R0 v0 v1 v2 v3)/\Cells4 (zH w' R0 v0 v1 v2 v3) R0 v0 v1 v2 v3:=by
 refine⟨⟨qQ (jj hg hg1) h0 _ _ _ _,v0,v1,v2,v3,rfl,?_,i,pl,er,qR hr (show B≠R0 by omega) _ _ _ _,ha⟩,Blk.cells4 (qC hz _ _ _ _)⟩;exact(jbQ hL (fun b hb=>by omega) _ _ _ _).weaken (fun b hb=>by omega)
theorem qd {u u1 w':World}{B R0:Nat}{s:ByteArray}{a:Option Addr}{cap:Nat}{l:List Tk}{d f i d' c:Nat}{te:List Sym}{x0 x1 x2 x3:Value}(hB:B<u.heap.size)(h0:u.heap.size<=R0)(hg:u.grownBy u1 (some B))(hg1:u1.grownBy w' (some B))(hz:Blk w' R0 #[x0,x1,x2,x3] 59)
  (hr:Rd w' B s (.slice a l.length cap) i d' (qP s l te:Int) (c:Int)) :
  Res B s a cap l d f u (.inl (c,te)) (.returned (.tuple #[(.agg #[.int .i64 0,.int .i64 0,.int .i64 0,.slice none 0 0]),.bool false])) (zH w' R0 (.int .i64 0) (.int .i64 0) (.int .i64 0) (.slice none 0 0))/\Cells4 (zH w' R0 (.int .i64 0) (.int .i64 0) (.int .i64 0) (.slice none 0 0)) R0 (.int .i64 0) (.int .i64 0) (.int .i64 0) (.slice none 0 0) :=
 ⟨⟨qQ (jj hg hg1) h0 _ _ _ _,rfl,i,d',qR hr (show B≠R0 by omega) _ _ _ _⟩,Blk.cells4 (qC hz _ _ _ _)⟩
theorem jW {P:Program}{fn:Func}{Post:Ending->World->Prop}{a:Act}{w:World}{R0:Nat}{u0 u1 u2 u3 v:Value}(hc:Cells4 (zH w R0 u0 u1 u2 u3) R0 u0 u1 u2 u3)(hr:∀wF,Cells4 wF R0 u0 u1 u2 u3->(results fn a.tmps).run P wF=.ok v wF)(hd:a.defers=[])(hP:Post (.returned v) (zH w R0 u0 u1 u2 u3)):bodyPost P fn Post .ret a (zH w R0 u0 u1 u2 u3) :=
 bodyPost_ret (hr _ hc) hd hP
theorem Lies.form' {ok:Nat->Prop}{f:Nat}{w:World}{u0 u1 u2 u3:Value}{t:T}(h:Lies ok f w [u0,u1,u2,u3] t):∃(k a e:Nat) (p:Option Addr) (n c:Nat),u0=.int .i64 (k:Int)/\u1=.int .i64 (a:Int)/\u2=.int .i64 (e:Int)/\u3=.slice p n c/\J7 t=e/\∃f',f=f'+1:=by
 cases f with
 | zero=>exact h.elim
 | succ f=>
  obtain⟨k,a,e,l,p,cap,rfl,hv,_⟩:=h;injection hv with h0 hv;injection hv with h1 hv;injection hv with h2 hv;injection hv with h3 _;exact⟨k,a,e,p,_,cap,h0,h1,h2,h3,rfl,f,rfl⟩
structure EInv (w:World) (B K:Nat) (i:Nat) (wr:World):Prop where
 zb:Blk wr w.heap.size #[.int .i64 0,.int .i64 0,.int .i64 0,.slice none 0 0] 59
 kb:Blk wr K #[.int .i64 2,.int .i64 (i:Int),.int .i64 ((i:Int)+1),.slice none 0 0] 59
 gr:w.grownBy wr (some B)
 lt:B<w.heap.size/\w.heap.size<K
theorem EInv.on {w wr wa:World}{B K i:Nat}(h:EInv w B K i wr)(hg:wr.grownBy wa (some B)):EInv w B K i wa:=by
 have h1:=h.lt;exact⟨Blk.grown h.zb hg (fun e=>by injection e with e;omega),Blk.grown h.kb hg (fun e=>by injection e with e;omega),jj h.gr hg,h1⟩
theorem ja7 {ok:Nat->Prop}{f:Nat}{w:World}{S:Nat}{k a e:Nat}{i:Nat}{u0 u1 u2 u3:Value}{v:T}{t:TypeId}(hS:Blk w S #[.int .i64 2,.int .i64 (i:Int),.int .i64 ((i:Int)+1),.slice none 0 0,u0,u1,u2,u3] t)(hok:ok S)(hv:Lies ok (f+1) w [u0,u1,u2,u3] v) :
  Lies ok (f+2) w [.int .i64 (k:Int),.int .i64 (a:Int),.int .i64 (e:Int),.slice (some ⟨S,0,none⟩) 2 2] (nd k a e [nd 2 i (i+1) [],v]):=by
 refine⟨k,a,e,[nd 2 i (i+1) [],v],some ⟨S,0,none⟩,2,rfl,rfl,Nat.le_refl _,fun _=>⟨S,0,rfl,hok,Blk.lt hS,fun j hj=>?_⟩⟩
 match j,hj with
 | 0,_=>
  refine⟨[.int .i64 2,.int .i64 (i:Int),.int .i64 ((i:Int)+1),.slice none 0 0],rfl,fun m hm=>?_,?_⟩
  ·match m,hm with
   | 0,_=>exact Blk.cell hS 0 _ rfl
   | 1,_=>exact Blk.cell hS 1 _ rfl
   | 2,_=>exact Blk.cell hS 2 _ rfl
   | 3,_=>exact Blk.cell hS 3 _ rfl
  ·have:=jbE ok f w 2 i (i+1)
   rw [show((i+1:Nat):Int)=(i:Int)+1 by omega] at this;exact this
 | 1,_=>
  refine⟨[u0,u1,u2,u3],rfl,fun m hm=>?_,hv⟩
  match m,hm with
  | 0,_=>exact Blk.cell hS 4 _ rfl
  | 1,_=>exact Blk.cell hS 5 _ rfl
  | 2,_=>exact Blk.cell hS 6 _ rfl
  | 3,_=>exact Blk.cell hS 7 _ rfl
theorem jhR {q:List Sym->R}{ts:List Sym}(h:jK ts 120=false):qF q ts=.inl (4,ts):=by
 match ts with
 | []=>rfl
 | [x]=>rw [Jh,if_neg (j9 h)]
 | x :: m :: r=>rw [qG,if_neg (j9 h)]
theorem jkm {q:List Sym->R}{x:Sym}{r:List Sym}(hx:x.1=120)(h1:jK r 58=false)(h2:jK r 61=false):qF q (x :: r)=.inl (4,r):=by
 match r with
 | []=>rw [Jh,if_pos hx]
 | m :: r=>rw [qG,if_pos hx,if_neg (fun e=>e.elim (j9 h1) (j9 h2))]
theorem XJ {q:List Sym->R}{x m:Sym}{r:List Sym}{e:Nat×List Sym}(hx:x.1=120)(hm:m.1=58\/m.1=61)(h:q r=.inl e):qF q (x :: m :: r)=.inl e:=by
 rw [qG,if_pos hx,if_pos hm,h]
theorem ZL {q:List Sym->R}{x m:Sym}{r r2:List Sym}{v:T}(hx:x.1=120)(hm:m.1=58\/m.1=61)(h:q r=.inr (v,r2)):qF q (x :: m :: r)=.inr (nd 4 x.2 (J7 v) [nd 2 x.2 (x.2+1) [],v],r2):=by
 rw [qG,if_pos hx,if_pos hm,h]
open Go.RowKit
open toks
theorem jkR {lv:Nat}{ts:List Sym}(h1:jK ts 123=false)(h2:jK ts 91=false)(h3:jK ts 120=false):pv lv ts=.inl (4,ts):=by
 cases ts with
 | nil=>exact jb2 lv
 | cons x r=>
  have n1:=j9 h1;have n2:=j9 h2;have n3:=j9 h3;cases lv with
  | zero=>rw [pv,if_neg (by rintro(h | h | h)<;>contradiction)]
  | succ lv=>rw [pv,if_neg n3,if_neg n1,if_neg n2]
theorem jcF {ts:List Sym}(h:jK ts 123=true\/jK ts 91=true\/jK ts 120=true):pv 0 ts=.inl (5,ts):=by
 cases ts with
 | nil=>rcases h with h | h | h<;>cases h
 | cons x r=>
  rw [pv,if_pos]
  rcases h with h | h | h
  ·exact .inr (.inl (by simpa [jK] using h))
  ·exact .inr (.inr (by simpa [jK] using h))
  ·exact .inl (by simpa [jK] using h)
theorem jh3 {lv:Nat}{x:Sym}{r:List Sym}(h:x.1=123):pv (lv+1) (x :: r)=jE (qF (pv lv)) 125 3 x.2 (r.length+1) [] r:=by
 rw [pv,if_neg (by rw [h];decide),if_pos h]
theorem jkA {lv:Nat}{x:Sym}{r:List Sym}(h:x.1=91):pv (lv+1) (x :: r)=jE (pv lv) 93 5 x.2 (r.length+1) [] r:=by
 rw [pv,if_neg (by rw [h];decide),if_neg (by rw [h];decide),if_pos h]
theorem jjQ {lv:Nat}{x:Sym}{r:List Sym}(h:x.1=120):pv (lv+1) (x :: r)=.inr (nd 1 x.2 (x.2+1) [],r):=by
 rw [pv,if_pos h]
theorem qV {ts:List Sym}{a b:UInt8}(h:jK ts a=true)(hab:a≠b):jK ts b=false:=by
 obtain⟨x,r,rfl,hx⟩:=jZ h
 show(x.1 == b)=false
 rw [hx];exact beq_false_of_ne hab
theorem Res.to {B:Nat}{s:ByteArray}{a:Option Addr}{cap:Nat}{l:List Tk}{d f f':Nat}{w:World}{q:R}{e:Ending}{w':World}(hf:f<=f')(h:Res B s a cap l d f w q e w'):Res B s a cap l d f' w q e w':=by
 obtain⟨hg,h⟩:=h;refine⟨hg,?_⟩;cases q with
 | inl er=>exact h
 | inr tr=>
  obtain⟨u0,u1,u2,u3,he,hL,hr⟩:=h;exact⟨u0,u1,u2,u3,he,hL.to hf,hr⟩
structure VInv (w:World) (B:Nat) (s:ByteArray) (a:Option Addr) (cap:Nat) (l:List Tk) (i d:Nat) (pl er:Int) (wr:World):Prop where
 rd:Rd wr B s (.slice a l.length cap) i d pl er
 pb:Blk wr w.heap.size #[(.pointer (some ⟨B,0,none⟩))] 108
 zb:Blk wr (w.heap.size+1) #[.int .i64 0,.int .i64 0,.int .i64 0,.slice none 0 0] 59
 gr:w.grownBy wr (some B)
 lt:B<w.heap.size
theorem VInv.below {w:World}{B:Nat}{s:ByteArray}{a:Option Addr}{cap:Nat}{l:List Tk}{i d:Nat}{pl er:Int}{wr wa:World}(h:VInv w B s a cap l i d pl er wr)(hb:Below wr.heap.size wr wa):VInv w B s a cap l i d pl er wa :=
 ⟨h.rd.below hb,h.pb.below hb,h.zb.below hb,jj h.gr (jI hb),h.lt⟩
theorem qS {w:World}{B:Nat}{s:ByteArray}{a:Option Addr}{cap:Nat}{l:List Tk}{i d:Nat}{pl er:Int}(hr:Rd w B s (.slice a l.length cap) i d pl er):VInv w B s a cap l i d pl er ((w.alloc (.cells #[(.pointer (some ⟨B,0,none⟩))] 108)).alloc (.cells #[.int .i64 0,.int .i64 0,.int .i64 0,.slice none 0 0] 59)):=by
 have HZB:=jf (w.alloc (.cells #[(.pointer (some ⟨B,0,none⟩))] 108)) #[.int .i64 0,.int .i64 0,.int .i64 0,.slice none 0 0] 59;have e1:(w.alloc (.cells #[(.pointer (some ⟨B,0,none⟩))] 108)).heap.size=w.heap.size+1:=by simp
 rw [e1] at HZB;exact⟨Blk.alloc (Blk.alloc hr _) _,Blk.alloc (jf w _ _) _,HZB,ju (ju (jC w _) _) _,Blk.lt hr⟩
open Go.RowKit
open toks
theorem jiY (w:World)(B:Nat)(s:ByteArray)(a:Option Addr)(cap:Nat)(l:List Tk)(i f:Nat)(pl er:Int)(ts:List Sym) 
  (hr:Rd w B s (.slice a l.length cap) i 20 pl er) (ht:TkIn w B a l) (g:Good s l) (hat:At s.data.toList l i ts) (h1:jK ts 123=true) :
  Calls Tryz.prog 111 #[(.pointer (some ⟨B,0,none⟩))] w (Res B s a cap l 20 f w (pv 0 ts)):=by
 have HT:=jd ht;have HG:=jd g;have HA:=jd hat;have V0:=jd (qS hr);have h2:=qV h1 (b:=91) (by decide);have RES:=jd (jcF (.inl h1))
 have K1:∀u,Hid (VInv w B s a cap l i 20 pl er u)->Hid (Calls Tryz.prog 168 #[(.pointer (some ⟨B,0,none⟩)),.int .u8 123] u fun e w'=>e=.returned (.bool true)/\Below u.heap.size u w'):=fun u hu=>jd (by
  have:=jz u B s a cap l i 20 pl er ts 123 (by decide) (by decide) (ja hu).rd (ht.grown (ja hu).gr) g hat;rw [h1] at this;exact this)
 have K2:∀u,Hid (VInv w B s a cap l i 20 pl er u)->Hid (Calls Tryz.prog 168 #[(.pointer (some ⟨B,0,none⟩)),.int .u8 91] u fun e w'=>e=.returned (.bool false)/\Below u.heap.size u w'):=fun u hu=>jd (by
  have:=jz u B s a cap l i 20 pl er ts 91 (by decide) (by decide) (ja hu).rd (ht.grown (ja hu).gr) g hat;rw [h2] at this;exact this)
 clear hr ht g hat h1 h2
 suffices FIN:∀Post:Ending->World->Prop,Hid (∀e w',Res B s a cap l 20 f w (pv 0 ts) e w'->Post e w')->Calls Tryz.prog 111 #[(.pointer (some ⟨B,0,none⟩))] w Post from FIN _ (jd fun _ _ h=>h)
 intro Post HPost
 go_enter Tryz.func111,Tryz.ntmps111
 go_upto_region 1 with fail
 have p0:=Blk.cell (ja V0).pb 0 _ rfl;generalize (w.alloc (.cells #[(.pointer (some ⟨B,0,none⟩))] 108)).alloc (.cells #[.int .i64 0,.int .i64 0,.int .i64 0,.slice none 0 0] 59)=w0 at *
 go_cut [4,5] from 6 to 9 (fun s4 s5 wx=>s4=.bool true/\s5=.bool false/\Hid (VInv w B s a cap l i 20 pl er wx))
 case first=>
  go_region_with (first
   | (go_at_call_of 168 (Value.int IntKind.u8 123)
      refine(ja (K1 _ (by first | exact V0 | exact jd ((ja V0).below (below_drewN (Below.refl _ _) _)) | exact jd ((ja V0).below ((Below.refl _ _).drew))))).mono ?_
      rintro e w2 ⟨rfl,b2⟩
      have V2:=jd (((ja V0).below (below_drewN (Below.refl _ _) 1)).below b2);have p2:=Blk.cell (ja V2).pb 0 _ rfl;clear b2)
   | (go_at_call_of 168 (Value.int IntKind.u8 91)
      refine(ja (K2 _ V2)).mono ?_
      rintro e w3 ⟨rfl,b3⟩
      have V3:=jd ((ja V2).below b3);clear b3))
  all_goals
   go_wp2_with fail
   go_meet
   exact⟨rfl,rfl,V3⟩
 case rest=>
 obtain⟨rfl,rfl,V⟩:=hcut;clear K1 K2 V0 p0 w0;have p0:=Blk.cell (ja V).pb 0 _ rfl;have KR:=jd (jT wc B s a cap l i 20 pl er ts 5 (by decide) (ja V).rd ((ja HT).grown (ja V).gr) (ja HG) (ja HA));have c3:=Blk.cell (ja V).rd 3 (.int .i64 20) rfl
 go_wp2_with fail
 refine(ja KR).mono ?_
 rintro e w2 ⟨rfl,rd2,g2⟩
 dsimp only
 have hlt:=(ja V).lt;have zb:=Blk.grown (ja V).zb g2 (fun e=>by injection e with e;omega);obtain⟨z0,z1,z2,z3⟩:=Blk.cells4 zb;obtain⟨y0,y1,y2,y3⟩:=Blk.froz4 zb;have FE:=jd (qd (d:=20) (f:=f) hlt (Nat.le_succ _) (ja V).gr g2 zb rd2);clear KR rd2 g2 zb V p0 hlt;go_wp2;obtain⟨FE1,FC⟩:=ja FE;refine jW (v:=.tuple #[(.agg #[.int .i64 0,.int .i64 0,.int .i64 0,.slice none 0 0]),.bool false]) FC (fun wF hF=>by obtain⟨f0,f1,f2,f3⟩:=hF;simp [results,Tryz.results111,go_sem,f0,f1,f2,f3]) rfl ?_
 refine ja HPost _ _ ?_
 rw [ja RES];exact FE1
open Go.RowKit
open toks
theorem jiO (w:World)(B:Nat)(s:ByteArray)(a:Option Addr)(cap:Nat)(l:List Tk)(i f:Nat)(pl er:Int)(ts:List Sym) 
  (hr:Rd w B s (.slice a l.length cap) i 20 pl er) (ht:TkIn w B a l) (g:Good s l) (hat:At s.data.toList l i ts) (h2:jK ts 91=true) :
  Calls Tryz.prog 111 #[(.pointer (some ⟨B,0,none⟩))] w (Res B s a cap l 20 f w (pv 0 ts)):=by
 have HT:=jd ht;have HG:=jd g;have HA:=jd hat;have V0:=jd (qS hr);have h1:=qV h2 (b:=123) (by decide);have RES:=jd (jcF (.inr (.inl h2)))
 have K1:∀u,Hid (VInv w B s a cap l i 20 pl er u)->Hid (Calls Tryz.prog 168 #[(.pointer (some ⟨B,0,none⟩)),.int .u8 123] u fun e w'=>e=.returned (.bool false)/\Below u.heap.size u w'):=fun u hu=>jd (by
  have:=jz u B s a cap l i 20 pl er ts 123 (by decide) (by decide) (ja hu).rd (ht.grown (ja hu).gr) g hat;rw [h1] at this;exact this)
 have K2:∀u,Hid (VInv w B s a cap l i 20 pl er u)->Hid (Calls Tryz.prog 168 #[(.pointer (some ⟨B,0,none⟩)),.int .u8 91] u fun e w'=>e=.returned (.bool true)/\Below u.heap.size u w'):=fun u hu=>jd (by
  have:=jz u B s a cap l i 20 pl er ts 91 (by decide) (by decide) (ja hu).rd (ht.grown (ja hu).gr) g hat;rw [h2] at this;exact this)
 clear hr ht g hat h1 h2
 suffices FIN:∀Post:Ending->World->Prop,Hid (∀e w',Res B s a cap l 20 f w (pv 0 ts) e w'->Post e w')->Calls Tryz.prog 111 #[(.pointer (some ⟨B,0,none⟩))] w Post from FIN _ (jd fun _ _ h=>h)
 intro Post HPost
 go_enter Tryz.func111,Tryz.ntmps111
 go_upto_region 1 with fail
 have p0:=Blk.cell (ja V0).pb 0 _ rfl;generalize (w.alloc (.cells #[(.pointer (some ⟨B,0,none⟩))] 108)).alloc (.cells #[.int .i64 0,.int .i64 0,.int .i64 0,.slice none 0 0] 59)=w0 at *
 go_cut [4,5] from 6 to 9 (fun s4 s5 wx=>s4=.bool false/\s5=.bool true/\Hid (VInv w B s a cap l i 20 pl er wx))
 case first=>
  go_region_with (first
   | (go_at_call_of 168 (Value.int IntKind.u8 123)
      refine(ja (K1 _ (by first | exact V0 | exact jd ((ja V0).below (below_drewN (Below.refl _ _) _)) | exact jd ((ja V0).below ((Below.refl _ _).drew))))).mono ?_
      rintro e w2 ⟨rfl,b2⟩
      have V2:=jd (((ja V0).below (below_drewN (Below.refl _ _) 1)).below b2);have p2:=Blk.cell (ja V2).pb 0 _ rfl;clear b2)
   | (go_at_call_of 168 (Value.int IntKind.u8 91)
      refine(ja (K2 _ V2)).mono ?_
      rintro e w3 ⟨rfl,b3⟩
      have V3:=jd ((ja V2).below b3);clear b3))
  all_goals
   go_wp2_with fail
   go_meet
   exact⟨rfl,rfl,V3⟩
 case rest=>
 obtain⟨rfl,rfl,V⟩:=hcut;clear K1 K2 V0 p0 w0;have p0:=Blk.cell (ja V).pb 0 _ rfl;have KR:=jd (jT wc B s a cap l i 20 pl er ts 5 (by decide) (ja V).rd ((ja HT).grown (ja V).gr) (ja HG) (ja HA));have c3:=Blk.cell (ja V).rd 3 (.int .i64 20) rfl
 go_wp2_with fail
 refine(ja KR).mono ?_
 rintro e w2 ⟨rfl,rd2,g2⟩
 dsimp only
 have hlt:=(ja V).lt;have zb:=Blk.grown (ja V).zb g2 (fun e=>by injection e with e;omega);obtain⟨z0,z1,z2,z3⟩:=Blk.cells4 zb;obtain⟨y0,y1,y2,y3⟩:=Blk.froz4 zb;have FE:=jd (qd (d:=20) (f:=f) hlt (Nat.le_succ _) (ja V).gr g2 zb rd2);clear KR rd2 g2 zb V p0 hlt;go_wp2;obtain⟨FE1,FC⟩:=ja FE;refine jW (v:=.tuple #[(.agg #[.int .i64 0,.int .i64 0,.int .i64 0,.slice none 0 0]),.bool false]) FC (fun wF hF=>by obtain⟨f0,f1,f2,f3⟩:=hF;simp [results,Tryz.results111,go_sem,f0,f1,f2,f3]) rfl ?_
 refine ja HPost _ _ ?_
 rw [ja RES];exact FE1
open Go.RowKit
open toks
theorem jh1 (w:World)(B:Nat)(s:ByteArray)(a:Option Addr)(cap:Nat)(l:List Tk)(i f:Nat)(pl er:Int)(ts:List Sym) 
  (hr:Rd w B s (.slice a l.length cap) i 20 pl er) (ht:TkIn w B a l) (g:Good s l) (hat:At s.data.toList l i ts) (h3:jK ts 120=true) :
  Calls Tryz.prog 111 #[(.pointer (some ⟨B,0,none⟩))] w (Res B s a cap l 20 f w (pv 0 ts)):=by
 have HT:=jd ht;have HG:=jd g;have HA:=jd hat;have V0:=jd (qS hr);have h1:=qV h3 (b:=123) (by decide);have h2:=qV h3 (b:=91) (by decide);have H3:=jd h3;have RES:=jd (jcF (.inr (.inr h3)));clear h3
 have K1:∀u,Hid (VInv w B s a cap l i 20 pl er u)->Hid (Calls Tryz.prog 168 #[(.pointer (some ⟨B,0,none⟩)),.int .u8 123] u fun e w'=>e=.returned (.bool false)/\Below u.heap.size u w'):=fun u hu=>jd (by
  have:=jz u B s a cap l i 20 pl er ts 123 (by decide) (by decide) (ja hu).rd (ht.grown (ja hu).gr) g hat;rw [h1] at this;exact this)
 have K2:∀u,Hid (VInv w B s a cap l i 20 pl er u)->Hid (Calls Tryz.prog 168 #[(.pointer (some ⟨B,0,none⟩)),.int .u8 91] u fun e w'=>e=.returned (.bool false)/\Below u.heap.size u w'):=fun u hu=>jd (by
  have:=jz u B s a cap l i 20 pl er ts 91 (by decide) (by decide) (ja hu).rd (ht.grown (ja hu).gr) g hat;rw [h2] at this;exact this)
 clear hr ht g hat h1 h2
 suffices FIN:∀Post:Ending->World->Prop,Hid (∀e w',Res B s a cap l 20 f w (pv 0 ts) e w'->Post e w')->Calls Tryz.prog 111 #[(.pointer (some ⟨B,0,none⟩))] w Post from FIN _ (jd fun _ _ h=>h)
 intro Post HPost
 go_enter Tryz.func111,Tryz.ntmps111
 go_upto_region 1 with fail
 have p0:=Blk.cell (ja V0).pb 0 _ rfl;generalize (w.alloc (.cells #[(.pointer (some ⟨B,0,none⟩))] 108)).alloc (.cells #[.int .i64 0,.int .i64 0,.int .i64 0,.slice none 0 0] 59)=w0 at *
 go_cut [4,5] from 6 to 9 (fun s4 s5 wx=>s4=.bool false/\s5=.bool false/\Hid (VInv w B s a cap l i 20 pl er wx))
 case first=>
  go_region_with (first
   | (go_at_call_of 168 (Value.int IntKind.u8 123)
      refine(ja (K1 _ (by first | exact V0 | exact jd ((ja V0).below (below_drewN (Below.refl _ _) _)) | exact jd ((ja V0).below ((Below.refl _ _).drew))))).mono ?_
      rintro e w2 ⟨rfl,b2⟩
      have V2:=jd (((ja V0).below (below_drewN (Below.refl _ _) 1)).below b2);have p2:=Blk.cell (ja V2).pb 0 _ rfl;clear b2)
   | (go_at_call_of 168 (Value.int IntKind.u8 91)
      refine(ja (K2 _ V2)).mono ?_
      rintro e w3 ⟨rfl,b3⟩
      have V3:=jd ((ja V2).below b3);clear b3))
  all_goals
   go_wp2_with fail
   go_meet
   exact⟨rfl,rfl,V3⟩
 case rest=>
 obtain⟨rfl,rfl,V⟩:=hcut;clear K1 K2 V0 p0 w0;have p0:=Blk.cell (ja V).pb 0 _ rfl;have KO:=jd (Jg wc B s a cap l i 20 pl er ts (ja V).rd ((ja HT).grown (ja V).gr) (ja HG) (ja HA));rw [ja H3] at KO
 go_wp2_with fail
 refine(ja KO).mono ?_
 rintro e wd ⟨rfl,bd⟩
 dsimp only
 have Vd:=jd ((ja V).below bd);clear KO bd p0 V;have V:=Vd;clear Vd;have p0:=Blk.cell (ja V).pb 0 _ rfl;clear wc;generalize wd=wc at *;have KR:=jd (jT wc B s a cap l i 20 pl er ts 5 (by decide) (ja V).rd ((ja HT).grown (ja V).gr) (ja HG) (ja HA));have c3:=Blk.cell (ja V).rd 3 (.int .i64 20) rfl
 go_wp2_with fail
 refine(ja KR).mono ?_
 rintro e w2 ⟨rfl,rd2,g2⟩
 dsimp only
 have hlt:=(ja V).lt;have zb:=Blk.grown (ja V).zb g2 (fun e=>by injection e with e;omega);obtain⟨z0,z1,z2,z3⟩:=Blk.cells4 zb;obtain⟨y0,y1,y2,y3⟩:=Blk.froz4 zb;have FE:=jd (qd (d:=20) (f:=f) hlt (Nat.le_succ _) (ja V).gr g2 zb rd2);clear KR rd2 g2 zb V p0 hlt;go_wp2;obtain⟨FE1,FC⟩:=ja FE;refine jW (v:=.tuple #[(.agg #[.int .i64 0,.int .i64 0,.int .i64 0,.slice none 0 0]),.bool false]) FC (fun wF hF=>by obtain⟨f0,f1,f2,f3⟩:=hF;simp [results,Tryz.results111,go_sem,f0,f1,f2,f3]) rfl ?_
 refine ja HPost _ _ ?_
 rw [ja RES];exact FE1
open Go.RowKit
open toks
theorem jfY (w:World)(B:Nat)(s:ByteArray)(a:Option Addr)(cap:Nat)(l:List Tk)(i d lv f:Nat)(pl er:Int)(ts:List Sym) 
  (hr:Rd w B s (.slice a l.length cap) i d pl er) (ht:TkIn w B a l) (g:Good s l) (hat:At s.data.toList l i ts) (h1:jK ts 123=false) (h2:jK ts 91=false) (h3:jK ts 120=false) :
  Calls Tryz.prog 111 #[(.pointer (some ⟨B,0,none⟩))] w (Res B s a cap l d f w (pv lv ts)):=by
 have HT:=jd ht;have HG:=jd g;have HA:=jd hat;have V0:=jd (qS hr);have RES:=jd (jkR (lv:=lv) h1 h2 h3);have H3:=jd h3;clear h3
 have K1:∀u,Hid (VInv w B s a cap l i d pl er u)->Hid (Calls Tryz.prog 168 #[(.pointer (some ⟨B,0,none⟩)),.int .u8 123] u fun e w'=>e=.returned (.bool false)/\Below u.heap.size u w'):=fun u hu=>jd (by
  have:=jz u B s a cap l i d pl er ts 123 (by decide) (by decide) (ja hu).rd (ht.grown (ja hu).gr) g hat;rw [h1] at this;exact this)
 have K2:∀u,Hid (VInv w B s a cap l i d pl er u)->Hid (Calls Tryz.prog 168 #[(.pointer (some ⟨B,0,none⟩)),.int .u8 91] u fun e w'=>e=.returned (.bool false)/\Below u.heap.size u w'):=fun u hu=>jd (by
  have:=jz u B s a cap l i d pl er ts 91 (by decide) (by decide) (ja hu).rd (ht.grown (ja hu).gr) g hat;rw [h2] at this;exact this)
 clear hr ht g hat h1 h2
 suffices FIN:∀Post:Ending->World->Prop,Hid (∀e w',Res B s a cap l d f w (pv lv ts) e w'->Post e w')->Calls Tryz.prog 111 #[(.pointer (some ⟨B,0,none⟩))] w Post from FIN _ (jd fun _ _ h=>h)
 intro Post HPost
 go_enter Tryz.func111,Tryz.ntmps111
 go_upto_region 1 with fail
 have p0:=Blk.cell (ja V0).pb 0 _ rfl;generalize (w.alloc (.cells #[(.pointer (some ⟨B,0,none⟩))] 108)).alloc (.cells #[.int .i64 0,.int .i64 0,.int .i64 0,.slice none 0 0] 59)=w0 at *
 go_cut [4,5] from 6 to 9 (fun s4 s5 wx=>s4=.bool false/\s5=.bool false/\Hid (VInv w B s a cap l i d pl er wx))
 case first=>
  go_region_with (first
   | (go_at_call_of 168 (Value.int IntKind.u8 123)
      refine(ja (K1 _ (by first | exact V0 | exact jd ((ja V0).below (below_drewN (Below.refl _ _) _)) | exact jd ((ja V0).below ((Below.refl _ _).drew))))).mono ?_
      rintro e w2 ⟨rfl,b2⟩
      have V2:=jd (((ja V0).below (below_drewN (Below.refl _ _) 1)).below b2);have p2:=Blk.cell (ja V2).pb 0 _ rfl;clear b2)
   | (go_at_call_of 168 (Value.int IntKind.u8 91)
      refine(ja (K2 _ V2)).mono ?_
      rintro e w3 ⟨rfl,b3⟩
      have V3:=jd ((ja V2).below b3);clear b3))
  all_goals
   go_wp2_with fail
   go_meet
   exact⟨rfl,rfl,V3⟩
 case rest=>
 obtain⟨rfl,rfl,V⟩:=hcut;clear K1 K2 V0 p0 w0;have p0:=Blk.cell (ja V).pb 0 _ rfl;have KO:=jd (Jg wc B s a cap l i d pl er ts (ja V).rd ((ja HT).grown (ja V).gr) (ja HG) (ja HA));rw [ja H3] at KO
 go_wp2_with fail
 refine(ja KO).mono ?_
 rintro e wd ⟨rfl,bd⟩
 dsimp only
 have Vd:=jd ((ja V).below bd);clear KO bd p0 V;have V:=Vd;clear Vd;have p0:=Blk.cell (ja V).pb 0 _ rfl;clear wc;generalize wd=wc at *;have KR:=jd (jT wc B s a cap l i d pl er ts 4 (by decide) (ja V).rd ((ja HT).grown (ja V).gr) (ja HG) (ja HA))
 go_wp2_with fail
 refine(ja KR).mono ?_
 rintro e w2 ⟨rfl,rd2,g2⟩
 dsimp only
 have hlt:=(ja V).lt;have zb:=Blk.grown (ja V).zb g2 (fun e=>by injection e with e;omega);obtain⟨z0,z1,z2,z3⟩:=Blk.cells4 zb;obtain⟨y0,y1,y2,y3⟩:=Blk.froz4 zb;have FE:=jd (qd (d:=d) (f:=f) hlt (Nat.le_succ _) (ja V).gr g2 zb rd2);clear KR rd2 g2 zb V p0 hlt;go_wp2;obtain⟨FE1,FC⟩:=ja FE;refine jW (v:=.tuple #[(.agg #[.int .i64 0,.int .i64 0,.int .i64 0,.slice none 0 0]),.bool false]) FC (fun wF hF=>by obtain⟨f0,f1,f2,f3⟩:=hF;simp [results,Tryz.results111,go_sem,f0,f1,f2,f3]) rfl ?_
 refine ja HPost _ _ ?_
 rw [ja RES];exact FE1
open Go.RowKit
open toks
theorem jhr (w:World)(B P:Nat)(s:ByteArray)(a:Option Addr)(cap:Nat)(l:List Tk)(i d:Nat)(pl er:Int)(x:Sym)(r:List Sym)(q:List Sym->R)(kind f:Nat)(ec:UInt8)(m1:ec≠63)(m2:ec≠120)(m3:ec≠44)(hkind:kind<=6)(hd:d<=20)
  (hr:Rd w B s (.slice a l.length cap) i d pl er) (ht:TkIn w B a l) (g:Good s l) (hat:At s.data.toList l i (x :: r)) (hP:w.cell? ⟨P,0,none⟩=some ((.pointer (some ⟨B,0,none⟩)))) (hPB:P≠B) (hq0:q []=.inl (4,[])) (hql:Loc q)
  (KID:∀(u:World) (j:Nat) (pl er:Int) (ts:List Sym),Rd u B s (.slice a l.length cap) j (d+1) pl er->TkIn u B a l->At s.data.toList l j ts->u.cell? ⟨P,0,none⟩=some ((.pointer (some ⟨B,0,none⟩)))->Calls Tryz.prog 171 #[(.pointer (some ⟨P,0,none⟩))] u (Res B s a cap l (d+1) f u (q ts))) :
  Calls Tryz.prog 170 #[(.pointer (some ⟨B,0,none⟩)),.int .i64 (kind:Int),.int .u8 (ec.toNat:Int),.func (.func 171) #[] #[(.pointer (some ⟨P,0,none⟩))]] w (Res B s a cap l d (f+1) w (jE q ec kind x.2 (r.length+1) [] r)):=by
 obtain⟨hi,hx,hs,h3,hre⟩:=QL hat;have hB:=Blk.lt hr;have hlen:=hat.len;have K1:Hid _:=jd (zc ((World.alloc w (.cells #[.int .i64 0,.int .i64 0,.int .i64 0,.slice none 0 0] 59))) B s a cap l i d pl er (Blk.alloc hr _) (ht.below ((Below.refl _ w).alloc (Nat.le_refl _) _)) g hi);have HP:=jd hP;have HT:=jd ht;have HG:=jd g;have HK:=jd KID;have HL:=jd hql;have HB:=jd hB;have HRE:=jd hre;have hl:=g.len;rw [hx];clear hr ht g hat hP KID hql hB hs h3 hre hx
 suffices FIN:∀Post:Ending->World->Prop,Hid (∀e w',Res B s a cap l d (f+1) w (jE q ec kind i (r.length+1) [] r) e w'->Post e w')->Calls Tryz.prog 170 #[(.pointer (some ⟨B,0,none⟩)),.int .i64 (kind:Int),.int .u8 (ec.toNat:Int),.func (.func 171) #[] #[(.pointer (some ⟨P,0,none⟩))]] w Post from FIN _ (jd fun _ _ h=>h)
 intro Post HPost
 go_enter Tryz.func170,Tryz.ntmps170
 go_wp2_with fail
 refine(ja K1).mono ?_
 rintro e w1 ⟨j,rfl,h1,h2,h3⟩
 dsimp only
 have hB:=ja HB;have hs1:w.heap.size+1<=w1.heap.size:=by have:=h3.size;simpa using this
 have hzb:Blk w1 w.heap.size #[.int .i64 0,.int .i64 0,.int .i64 0,.slice none 0 0] 59:=Blk.grown (jf w _ _) h3 (fun e=>by injection e with e;omega);have hg1:w.grownBy w1 (some B):=jj (ju (jC w _) _) h3;have nb:=jf w1 #[.int .i64 (kind:Int),.int .i64 (i:Int),.int .i64 0,.slice none 0 0] 59;have rb:Rd (w1.alloc (.cells #[.int .i64 (kind:Int),.int .i64 (i:Int),.int .i64 0,.slice none 0 0] 59)) B s (.slice a l.length cap) j d pl er:=Blk.alloc h2 _;have rc:=Blk.cell rb 3 (.int .i64 (d:Int)) rfl;have rf:=Blk.froz rb 3;have NB:=jd (Blk.set_other nb ⟨B,3,none⟩ (.int .i64 ((d:Int)+1)) (show w1.heap.size≠B by omega));have RB:=jd (rb.lev ((d:Int)+1) (d+1) (by omega))
 have ZB:=jd (Blk.set_other (Blk.alloc hzb (.cells #[.int .i64 (kind:Int),.int .i64 (i:Int),.int .i64 0,.slice none 0 0] 59)) ⟨B,3,none⟩ (.int .i64 ((d:Int)+1)) (show w.heap.size≠B by omega));have G1:=jd (jj (ju hg1 (.cells #[.int .i64 (kind:Int),.int .i64 (i:Int),.int .i64 0,.slice none 0 0] 59)) (j7 _ B 3 (.int .i64 ((d:Int)+1))));have N1:=jd h1;clear K1 h1 h2 h3 hB hzb hg1 nb rb
 go_wp2_with fail
 clear rc rf;generalize hW:((w1.alloc (.cells #[.int .i64 (kind:Int),.int .i64 (i:Int),.int .i64 0,.slice none 0 0] 59)).setCell ⟨B,3,none⟩ (.int .i64 ((d:Int)+1)))=w2 at *;have hlt:B<w.heap.size/\w.heap.size<w1.heap.size:=⟨ja HB,by omega⟩
 have I0:Hid (BInv w B w1.heap.size s a cap l d f kind i [] [] (.slice none 0 0) j pl er r w2):=jd ⟨ja RB,by rw [ja HRE];exact(ja N1).at,ja NB,ja ZB,World.ownsRow_nil _ _ _ _,jat _ _ _,ja G1,hlt⟩;have hrl:r.length+1<=l.length:=hlen;clear hW NB RB ZB G1 N1 HRE HB hs1 hlen hlt hi;generalize w1.heap.size=N at *;clear w1
 go_loopw [11] (fun _ wr=>∃(acc:List T) (vss:List (List Value)) (v:Value) (iC:Nat) (pl er:Int) (ts:List Sym) (F:Nat),ts.length<F/\acc.length+ts.length<=l.length/\Hid (jE q ec kind i F acc ts=jE q ec kind i (r.length+1) [] r)/\Hid (BInv w B N s a cap l d f kind i acc vss v iC pl er ts wr)) (fun _ wr=>left s.data.toList l B wr)
 case atStart=>exact⟨[],[],_,j,pl,er,r,r.length+1,by omega,by simp;omega,jd rfl,I0⟩
 case round=>
  obtain⟨acc,vss,v,iC,pl1,er1,ts,F,hF,hA,HE,HI⟩:=hrel;obtain⟨pv0,nv0,cv0,rfl⟩:=Jz (ja HI).own;have HLW:Hid (left s.data.toList l B wr=ts.length):=jd (left_eq (ja HI).rd (ja HI).at');have KS:Hid _:=jd (jz wr B s a cap l iC (d+1) pl1 er1 ts ec m1 m2 (ja HI).rd ((ja HT).grown (ja HI).gr) (ja HG) (ja HI).at');cases hse:jK ts ec with
  | true=>
   obtain⟨x1,r1,rfl,hx1⟩:=jZ hse;have RES:Hid (jE q ec kind i (r.length+1) [] r=.inr (nd kind i (x1.2+1) acc,r1)):=jd (by rw [<-ja HE];exact Z1 hx1 hF);rw [hse] at KS;clear HE hse hx1 hF HK HL
   go_wp2_with fail
   refine(ja KS).mono ?_
   rintro e wa ⟨rfl,hba⟩
   dsimp only
   have I1:=(ja HI).below hba;have c3:=Blk.cell I1.rd 3 (.int .i64 ((d:Int)+1)) (by simp);have z3:=Blk.froz I1.rd 3;have hgs:=j7 wa B 3 (.int .i64 (d:Int));obtain⟨hi1,hx1,hre1⟩:=JL I1.at';have K2:=jd (zc _ B s a cap l iC d pl1 er1 (I1.rd.lev (d:Int) d rfl) (((ja HT).grown I1.gr).grown hgs) (ja HG) hi1);have HI1:=jd I1;have HR1:=jd hre1;have HX1:=jd hx1;have HGS:=jd hgs;clear KS hba I1 HI hx1 hre1 hgs
   go_wp2_with fail
   refine(ja K2).mono ?_
   rintro e w4 ⟨i4,rfl,n4,rd4,g4⟩
   dsimp only
   have g5:=jj (ja HGS) g4;obtain⟨k1,k2,k3⟩:=(ja HI1).nb2 g5 (.int .i64 ((iC:Int)+1));have p2:=Blk.cell k1 2 _ rfl;have y2:=Blk.froz k1 2;obtain⟨q0,q1,q2,q3⟩:=Blk.cells4 k2;obtain⟨z0,z1,z2,z3⟩:=Blk.cells4 k3;obtain⟨y0,y1,y2',y3⟩:=Blk.froz4 k3;have a4:At s.data.toList l i4 r1:=ja HR1 _ n4;have FIN:=jd ((ja HI1).fin g5 rd4 a4 (x1.2+1) ((iC:Int)+1) (by rw [ja HX1];omega));have FB:=jd (qC k3 (.int .i64 (kind:Int)) (.int .i64 (i:Int)) (.int .i64 ((iC:Int)+1)) (.slice pv0 nv0 cv0));clear K2 n4 rd4 g4 g5 k1 k2 k3 a4 HI1 HR1 HX1 HGS c3;go_wp2;have FN:=ja FIN;obtain⟨f0,f1,f2,f3⟩:=Blk.cells4 (ja FB);refine bodyPost_ret (v:=.tuple #[.agg #[.int .i64 (kind:Int),.int .i64 (i:Int),.int .i64 ((iC:Int)+1),.slice pv0 nv0 cv0],.bool true]) (by simp [results,Tryz.results170,go_sem,f0,f1,f2,f3]) rfl ?_
   refine ja HPost _ _ ?_
   rw [ja RES];exact FN
  | false=>
   rw [hse] at KS
   go_wp2_with fail
   refine(ja KS).mono ?_
   rintro e wa ⟨rfl,hba⟩
   dsimp only
   have I1:=(ja HI).below hba;have KK:=jd (ja HK wa iC pl1 er1 ts I1.rd ((ja HT).grown I1.gr) I1.at' (I1.gr.cell (ja HP) (fun e=>by injection e with e;exact hPB e)));have HI1:=jd I1;have HSE:=jd hse;clear KS hba I1 HI HK hse;cases hq:q ts with
   | inl er=>
    obtain⟨c,te⟩:=er;have RES:Hid (jE q ec kind i (r.length+1) [] r=.inl (c,te)):=jd (by rw [<-ja HE];exact ZJ (ja HSE) hq0 hq hF);rw [hq] at KK;clear hq HE HSE hF HL hq0
    go_wp2_with fail
    refine(ja KK).mono ?_
    rintro e wb ⟨hg,rfl,ib,db,rb⟩
    dsimp only
    have zb2:=Blk.alloc (Blk.grown (ja HI1).zb hg (fun e=>by injection e with e;have:=(ja HI1).lt;omega)) (.cells #[.int .i64 0,.int .i64 0,.int .i64 0,.slice none 0 0] 59);have rb2:Rd ((World.alloc wb (.cells #[.int .i64 0,.int .i64 0,.int .i64 0,.slice none 0 0] 59))) B s (.slice a l.length cap) ib db _ _:=Blk.alloc rb _;have G2:=jd (ju (jj (ja HI1).gr hg) (.cells #[.int .i64 0,.int .i64 0,.int .i64 0,.slice none 0 0] 59));obtain⟨z0,z1,z2,z3⟩:=Blk.cells4 zb2;obtain⟨y0,y1,y2,y3⟩:=Blk.froz4 zb2;have FE:=jd (ZV (d:=d) (f:=f+1) (ja HI1).lt.1 (ju (jj (ja HI1).gr hg) _) zb2 rb2);clear KK hg rb zb2 rb2 HI1 G2;go_wp2;obtain⟨FE1,f0,f1,f2,f3⟩:=ja FE;refine bodyPost_ret (v:=.tuple #[(.agg #[.int .i64 0,.int .i64 0,.int .i64 0,.slice none 0 0]),.bool false]) (by simp [results,Tryz.results170,go_sem,f0,f1,f2,f3]) rfl ?_
    refine ja HPost _ _ ?_
    rw [ja RES];exact FE1
   | inr tr=>
    obtain⟨t,rest⟩:=tr;have hless:=jdN (ja HL) hq;have EM:Hid (left s.data.toList l B wr=ts.length):=HLW;have HQ:=jd hq;rw [hq] at KK;clear hq HL
    go_wp2_with fail
    refine(ja KK).mono ?_
    rintro e wb ⟨hg,u0,u1,u2,u3,rfl,hL,ib,plb,erb,rb,ab⟩
    dsimp only
    obtain⟨k0,a0,e0,pk,nk,ck,rfl,rfl,rfl,rfl⟩:=hL.form;have I2:=(ja HI1).on hg rb ab;have bc:Below wb.heap.size wb (wb.alloc (.cells #[.int .i64 (k0:Int),.int .i64 (a0:Int),.int .i64 (e0:Int),.slice pk nk ck] 59)):=(Below.refl _ wb).alloc (Nat.le_refl _) _;have I3:=I2.below bc;have n3:=Blk.cell I3.nb 3 (.slice pv0 nv0 cv0) rfl;obtain⟨j0,j1,j2,j3⟩:=Blk.cells4 (jf wb #[.int .i64 (k0:Int),.int .i64 (a0:Int),.int .i64 (e0:Int),.slice pk nk ck] 59);have hL2:=jd (hL.weaken (ok':=fun b=>N+1<=b/\some b≠(Value.slice pv0 nv0 cv0).ownBlock) (fun b hb=>⟨by have:=(ja HI1).sz;omega,fun e=>by have:=((ja HI1).own.lt b e.symm).2;omega⟩));have HI2:=jd I2;have HI3:=jd I3;have hNs:=I3.sz;have hown3:=I3.own;clear KK hg rb ab hL I2 I3 bc HI1;obtain⟨i0,hinf,hz0,hz1,hz2⟩:=info_parts jcQ
    go_wp2_with (at_builtin;refine wpList_append_lies _ rfl _ _ 57 rfl (N+1) 59 i0 (.agg #[.int .i64 0,.int .i64 0,.int .i64 0,.slice none 0 0]) 4 48 Tryz.underlying57 hinf hz0 hz1 hz2 rfl (by decide) _ _ _ rfl (hown3.alloc _) ⟨wb.heap.size+1,0,none⟩ 1 1 [.int .i64 (k0:Int),.int .i64 (a0:Int),.int .i64 (e0:Int),.slice pk nk ck] rfl rfl ?c1 ?c2 ?c3 ?c4 ?c5 ?c6 (wb.heap.size+2) ?c7 ?_)
    case c1=>
     have:=QY (wb.alloc (.cells #[.int .i64 (k0:Int),.int .i64 (a0:Int),.int .i64 (e0:Int),.slice pk nk ck] 59)) (.int .i64 (k0:Int)) (.int .i64 (a0:Int)) (.int .i64 (e0:Int)) (.slice pk nk ck) 59;simpa using this
    case c2=>intro u hu;simp at hu;rcases hu with rfl | rfl | rfl | rfl<;>rfl
    case c3=>decide
    case c4=>unfold maxLen;omega
    case c5=>omega
    case c6=>simp at hNs ⊢;omega
    case c7=>simp
    intro g cap' wx hown2 hg2 hat hlt2;have I4:=(ja HI3).below ((Below.refl (wb.alloc (.cells #[.int .i64 (k0:Int),.int .i64 (a0:Int),.int .i64 (e0:Int),.slice pk nk ck] 59)).heap.size _).alloc (Nat.le_refl _) (.cells #[.int .i64 (k0:Int),.int .i64 (a0:Int),.int .i64 (e0:Int),.slice pk nk ck] 59));have hL4:=(((ja hL2).below ((Below.refl _ wb).alloc (Nat.le_refl _) (.cells #[.int .i64 (k0:Int),.int .i64 (a0:Int),.int .i64 (e0:Int),.slice pk nk ck] 59))).below ((Below.refl _ _).alloc (Nat.le_refl _) (.cells #[.int .i64 (k0:Int),.int .i64 (a0:Int),.int .i64 (e0:Int),.slice pk nk ck] 59)))
    have nx:=Blk.grown I4.nb hg2 (Qd I4.own (Nat.lt_succ_self N));have nx3:=Blk.cell nx 3 (.slice pv0 nv0 cv0) rfl;have nf3:=Blk.froz nx 3
    have I5:=jd (I4.more hL4 hown2 hg2 (by
     rcases hat with e | e
     ·exact .inl (by rw [e];rfl)
     ·refine .inr (fun g' hg'=>?_)
      have e2:some g=some g':=hg';injection e2 with e2;simp;omega))
    clear I4 hL4 nx hown2 hg2 hat hlt2 HI2 HI3 hL2 n3 j0 j1 j2 j3 hNs hown3 hinf hz0 hz1 hz2 i0;have hA2:(acc++[t]).length+rest.length<=l.length:=by simp;omega
    go_wp2_with fail
    clear nx3 nf3;generalize wx.setCell ⟨N,3,none⟩ (.slice (some ⟨g,0,none⟩) (acc.length+1) cap')=w5 at *;have KS2:=jd (jz w5 B s a cap l ib (d+1) plb erb rest 44 (by decide) (by decide) (ja I5).rd ((ja HT).grown (ja I5).gr) (ja HG) (ja I5).at');cases h44:jK rest 44 with
    | true=>
     obtain⟨y,r2,rfl,hy⟩:=jZ h44;have HE2:Hid (jE q ec kind i (F - 1) (acc++[t]) r2=jE q ec kind i (r.length+1) [] r):=jd (by rw [<-ja HE];exact(YK (ja HSE) hq0 (ja HQ) hy hF).symm);rw [h44] at KS2;clear h44 hy HE HSE HQ;refine(ja KS2).mono ?_
     rintro e w6 ⟨rfl,hb6⟩
     dsimp only
     have I6:=(ja I5).below hb6;obtain⟨hi6,hx6,hre6⟩:=JL I6.at';have K6:=jd (zc w6 B s a cap l ib (d+1) plb erb I6.rd ((ja HT).grown I6.gr) (ja HG) hi6);have HI6:=jd I6;have HR6:=jd hre6;clear KS2 hb6 I6 I5 hre6 hi6 hx6
     go_wp2_with fail
     refine(ja K6).mono ?_
     rintro e w7 ⟨i7,rfl,n7,rd7,g7⟩
     dsimp only
     have a7:At s.data.toList l i7 r2:=ja HR6 _ n7;have HI7:=jd ((ja HI6).on g7 rd7 a7);have hlen2:(y :: r2).length=r2.length+1:=rfl;have EM7:=jd (left_eq rd7 a7);clear K6 n7 rd7 g7 a7 HI6 HR6;go_wp2;go_roundw
     case rel=>exact⟨acc++[t],vss++[_],_,i7,plb,erb,r2,F - 1,by omega,by omega,HE2,HI7⟩
     case measure=>rw [ja EM,ja EM7];omega
    | false=>
     rw [h44] at KS2;refine(ja KS2).mono ?_
     rintro e w6 ⟨rfl,hb6⟩
     dsimp only
     have I6:=(ja I5).below hb6;have K6:=jd (jz w6 B s a cap l ib (d+1) plb erb rest ec m1 m2 I6.rd ((ja HT).grown I6.gr) (ja HG) I6.at');have HI6:=jd I6;have H44:=jd h44;clear KS2 hb6 I6 I5 h44;cases hec:jK rest ec with
     | true=>
      obtain⟨y,r2,rfl,hy⟩:=jZ hec;have HE2:Hid (jE q ec kind i ((y :: r2).length+1) (acc++[t]) (y :: r2)=jE q ec kind i (r.length+1) [] r):=jd (by rw [<-ja HE,jbL (ja HSE) hq0 (ja HQ) (j9 (ja H44)) hy hF];exact Z1 hy (Nat.lt_succ_self _));rw [hec] at K6;clear hec hy HE HSE HQ H44
      go_wp2_with fail
      refine(ja K6).mono ?_
      rintro e w7 ⟨rfl,hb7⟩
      dsimp only
      have HI7:=jd ((ja HI6).below hb7);have EM7:=jd (left_eq (ja HI7).rd (ja HI7).at');clear K6 hb7 HI6;go_wp2;go_roundw
      case rel=>exact⟨acc++[t],vss++[_],_,ib,plb,erb,y :: r2,(y :: r2).length+1,by omega,hA2,HE2,HI7⟩
      case measure=>rw [ja EM,ja EM7];omega
     | false=>
      have RES:Hid (jE q ec kind i (r.length+1) [] r=.inl (4,rest)):=jd (by rw [<-ja HE];exact jbc (ja HSE) hq0 (ja HQ) (ja H44) hec hF);rw [hec] at K6;clear hec HE HSE HQ H44
      go_wp2_with fail
      refine(ja K6).mono ?_
      rintro e w7 ⟨rfl,hb7⟩
      dsimp only
      have I7:=(ja HI6).below hb7;have K7:=jd (jT w7 B s a cap l ib (d+1) plb erb rest 4 (by decide) I7.rd ((ja HT).grown I7.gr) (ja HG) I7.at');have HI7:=jd I7;clear K6 hb7 I7 HI6
      go_wp2_with fail
      refine(ja K7).mono ?_
      rintro e w8 ⟨rfl,rd8,g8⟩
      dsimp only
      have zb8:=Blk.grown (ja HI7).zb g8 (fun e=>by injection e with e;have:=(ja HI7).lt;omega);obtain⟨z0,z1,z2,z3⟩:=Blk.cells4 zb8;obtain⟨y0,y1,y2,y3⟩:=Blk.froz4 zb8;have FE:=jd (ZV (d:=d) (f:=f+1) (ja HI7).lt.1 (jj (ja HI7).gr g8) zb8 rd8);clear K7 rd8 g8 zb8 HI7;go_wp2;obtain⟨FE1,f0,f1,f2,f3⟩:=ja FE;refine bodyPost_ret (v:=.tuple #[(.agg #[.int .i64 0,.int .i64 0,.int .i64 0,.slice none 0 0]),.bool false]) (by simp [results,Tryz.results170,go_sem,f0,f1,f2,f3]) rfl ?_
      refine ja HPost _ _ ?_
      rw [ja RES];exact FE1
open Go.RowKit
open toks
theorem jls (w:World)(B P:Nat)(s:ByteArray)(a:Option Addr)(cap:Nat)(l:List Tk)(i d:Nat)(pl er:Int)(ts:List Sym)(q:List Sym->R)(f:Nat)
  (hr:Rd w B s (.slice a l.length cap) i d pl er) (ht:TkIn w B a l) (hat:At s.data.toList l i ts) (hP:w.cell? ⟨P,0,none⟩=some ((.pointer (some ⟨B,0,none⟩))))
  (VAL:∀(u:World) (j:Nat) (pl er:Int) (ts:List Sym),Rd u B s (.slice a l.length cap) j d pl er->TkIn u B a l->At s.data.toList l j ts->Calls Tryz.prog 172 #[(.pointer (some ⟨B,0,none⟩))] u (Res B s a cap l d f u (q ts))) :
  Calls Tryz.prog 171 #[(.pointer (some ⟨P,0,none⟩))] w (Res B s a cap l d f w (q ts)):=by
 have hB:=Blk.lt hr;have bz:Below w.heap.size w ((World.alloc w (.cells #[.int .i64 0,.int .i64 0,.int .i64 0,.slice none 0 0] 59))):=(Below.refl _ w).alloc (Nat.le_refl _) _;have KV:=jd (VAL ((World.alloc w (.cells #[.int .i64 0,.int .i64 0,.int .i64 0,.slice none 0 0] 59))) i pl er ts (hr.below bz) (ht.below bz) hat)
 have cP:((World.alloc w (.cells #[.int .i64 0,.int .i64 0,.int .i64 0,.slice none 0 0] 59))).cell? ⟨P,0,none⟩=some ((.pointer (some ⟨B,0,none⟩))):=by
  rw [<-hP];exact World.cell?_of_block (Below.heap_alloc _ _ _ (World.block_lt_of_cell? w _ hP))
 have HZ:=jd (jf w #[.int .i64 0,.int .i64 0,.int .i64 0,.slice none 0 0] 59);have HGZ:=jd (ju (jC w (some B)) (.cells #[.int .i64 0,.int .i64 0,.int .i64 0,.slice none 0 0] 59));have hz0:((World.alloc w (.cells #[.int .i64 0,.int .i64 0,.int .i64 0,.slice none 0 0] 59))).heap.size=w.heap.size+1:=by simp
 have HB:=jd hB;clear hr ht hat VAL hB bz hP
 suffices FIN:∀Post:Ending->World->Prop,Hid (∀e w',Res B s a cap l d f w (q ts) e w'->Post e w')->Calls Tryz.prog 171 #[(.pointer (some ⟨P,0,none⟩))] w Post from FIN _ (jd fun _ _ h=>h)
 intro Post HPost
 go_enter Tryz.func171,Tryz.ntmps171
 go_wp2_with fail
 generalize (World.alloc w (.cells #[.int .i64 0,.int .i64 0,.int .i64 0,.slice none 0 0] 59))=w0 at *;clear cP;generalize q ts=qq at *;cases qq with
 | inl er1=>
  obtain⟨c,te⟩:=er1;refine(ja KV).mono ?_
  rintro e w7 ⟨g7,rfl,ib,db,rb⟩
  dsimp only
  have zb:=Blk.grown (ja HZ) g7 (fun e=>by injection e with e;have:=ja HB;omega);obtain⟨z0,z1,z2,z3⟩:=Blk.cells4 zb;obtain⟨y0,y1,y2,y3⟩:=Blk.froz4 zb;have FE:=jd (qd (d:=d) (f:=f) (ja HB) (Nat.le_refl _) (ja HGZ) g7 zb rb);clear KV g7 rb zb;go_wp2;obtain⟨FE1,FC⟩:=ja FE;refine jW (v:=.tuple #[(.agg #[.int .i64 0,.int .i64 0,.int .i64 0,.slice none 0 0]),.bool false]) FC (fun wF hF=>by obtain⟨f0,f1,f2,f3⟩:=hF;simp [results,Tryz.results171,go_sem,f0,f1,f2,f3]) rfl ?_
  exact ja HPost _ _ FE1
 | inr tr=>
  obtain⟨v,r2⟩:=tr;refine(ja KV).mono ?_
  rintro e w7 ⟨g7,u0,u1,u2,u3,rfl,hL,ib,plb,erb,rb,ab⟩
  dsimp only
  obtain⟨k0,a0,e0,pk,nk,ck,rfl,rfl,rfl,rfl,he0,f',rfl⟩:=hL.form';have zb:=Blk.grown (ja HZ) g7 (fun e=>by injection e with e;have:=ja HB;omega);obtain⟨z0,z1,z2,z3⟩:=Blk.cells4 zb;obtain⟨y0,y1,y2,y3⟩:=Blk.froz4 zb;have FE:=jd (qW (d:=d) (ja HB) (Nat.le_refl _) (by omega) (ja HGZ) g7 zb hL rb ab);clear KV g7 rb zb hL ab he0;go_wp2;obtain⟨FE1,FC⟩:=ja FE;refine jW (v:=.tuple #[.agg #[.int .i64 (k0:Int),.int .i64 (a0:Int),.int .i64 (e0:Int),.slice pk nk ck],.bool true]) FC (fun wF hF=>by obtain⟨f0,f1,f2,f3⟩:=hF;simp [results,Tryz.results171,go_sem,f0,f1,f2,f3]) rfl ?_
  exact ja HPost _ _ FE1
open Go.RowKit
open toks
theorem jgL (w:World)(B:Nat)(s:ByteArray)(a:Option Addr)(cap:Nat)(l:List Tk)(i d:Nat)(pl er:Int)(ts:List Sym)(q:List Sym->R)(f:Nat)
  (hr:Rd w B s (.slice a l.length cap) i d pl er) (ht:TkIn w B a l) (g:Good s l) (hat:At s.data.toList l i ts)
  (VAL:∀(u:World) (j:Nat) (pl er:Int) (ts:List Sym),Rd u B s (.slice a l.length cap) j d pl er->TkIn u B a l->At s.data.toList l j ts->Calls Tryz.prog 111 #[(.pointer (some ⟨B,0,none⟩))] u (Res B s a cap l d f u (q ts))) :
  Calls Tryz.prog 172 #[(.pointer (some ⟨B,0,none⟩))] w (Res B s a cap l d (f+1) w (qF q ts)):=by
 have hB:=Blk.lt hr;have bz:Below w.heap.size w ((World.alloc w (.cells #[.int .i64 0,.int .i64 0,.int .i64 0,.slice none 0 0] 59))):=(Below.refl _ w).alloc (Nat.le_refl _) _;have K1:Hid _:=jd (Jg ((World.alloc w (.cells #[.int .i64 0,.int .i64 0,.int .i64 0,.slice none 0 0] 59))) B s a cap l i d pl er ts (hr.below bz) (ht.below bz) g hat);have HT:=jd ht;have HG:=jd g;have HV:=jd VAL;have HB:=jd hB;have HR:=jd (hr.below bz);have HA:=jd hat;have HZ:=jd (jf w #[.int .i64 0,.int .i64 0,.int .i64 0,.slice none 0 0] 59);have HGZ:=jd (ju (jC w (some B)) (.cells #[.int .i64 0,.int .i64 0,.int .i64 0,.slice none 0 0] 59));have hl:=g.len;have hz0:((World.alloc w (.cells #[.int .i64 0,.int .i64 0,.int .i64 0,.slice none 0 0] 59))).heap.size=w.heap.size+1:=by simp
 clear hr ht g hat VAL hB bz
 suffices FIN:∀Post:Ending->World->Prop,Hid (∀e w',Res B s a cap l d (f+1) w (qF q ts) e w'->Post e w')->Calls Tryz.prog 172 #[(.pointer (some ⟨B,0,none⟩))] w Post from FIN _ (jd fun _ _ h=>h)
 intro Post HPost
 go_enter Tryz.func172,Tryz.ntmps172
 go_wp2_with fail
 generalize (World.alloc w (.cells #[.int .i64 0,.int .i64 0,.int .i64 0,.slice none 0 0] 59))=w0 at *;cases h1:jK ts 120 with
 | false=>
  have RES:Hid (qF q ts=.inl (4,ts)):=jd (jhR h1);rw [h1] at K1;refine(ja K1).mono ?_
  rintro e w1 ⟨rfl,b1⟩
  dsimp only
  have KR:=jd (jT w1 B s a cap l i d pl er ts 4 (by decide) ((ja HR).below b1) ((ja HT).grown (jj (ja HGZ) (jI b1))) (ja HG) (ja HA));have HB1:=jd b1;clear K1 b1 h1
  go_wp2_with fail
  refine(ja KR).mono ?_
  rintro e w2 ⟨rfl,rd2,g2⟩
  dsimp only
  have g2':=jj (jI (ja HB1)) g2;have zb:=Blk.grown (ja HZ) g2' (fun e=>by injection e with e;have:=ja HB;omega);obtain⟨z0,z1,z2,z3⟩:=Blk.cells4 zb;obtain⟨y0,y1,y2,y3⟩:=Blk.froz4 zb;have FE:=jd (qd (d:=d) (f:=f+1) (ja HB) (Nat.le_refl _) (ja HGZ) g2' zb rd2);clear KR rd2 g2 g2' zb;go_wp2;obtain⟨FE1,f0,f1,f2,f3⟩:=ja FE;refine bodyPost_ret (v:=.tuple #[(.agg #[.int .i64 0,.int .i64 0,.int .i64 0,.slice none 0 0]),.bool false]) (by simp [results,Tryz.results172,go_sem,f0,f1,f2,f3]) rfl ?_
  refine ja HPost _ _ ?_
  rw [ja RES];exact FE1
 | true=>
  obtain⟨x,r,rfl,hx⟩:=jZ h1;rw [h1] at K1;refine(ja K1).mono ?_
  rintro e w1 ⟨rfl,b1⟩
  dsimp only
  obtain⟨hi,hx2,hre⟩:=JL (ja HA);have KO:=jd (jf2 w1 B s a cap l i d pl er 2 (by decide) ((ja HR).below b1) ((ja HT).grown (jj (ja HGZ) (jI b1))) (ja HG) hi);have HB1:=jd b1;have HX:=jd hx;have HX2:=jd hx2;have HRE:=jd hre;clear K1 b1 h1 hx hx2 hre HA HR
  go_wp2_with fail
  refine(ja KO).mono ?_
  rintro e w2 ⟨i2,rfl,n2,rd2,g2⟩
  dsimp only
  have g2':=jj (ja HGZ) (jj (jI (ja HB1)) g2);have hz2:w.heap.size<w2.heap.size:=by have:=(jj (jI (r:=some B) (ja HB1)) g2).size;omega
  have zb:=Blk.grown (ja HZ) (jj (jI (ja HB1)) g2) (fun e=>by injection e with e;have:=ja HB;omega);have I3:EInv w B w2.heap.size i (w2.alloc (.cells #[.int .i64 2,.int .i64 (i:Int),.int .i64 ((i:Int)+1),.slice none 0 0] 59)):=⟨Blk.alloc zb _,jf _ _ _,ju g2' _,ja HB,hz2⟩
  have rd3:Rd (w2.alloc (.cells #[.int .i64 2,.int .i64 (i:Int),.int .i64 ((i:Int)+1),.slice none 0 0] 59)) B s (.slice a l.length cap) i2 d pl er:=Blk.alloc rd2 _;have a3:=ja HRE _ n2;have K3:=jd (jz _ B s a cap l i2 d pl er r 58 (by decide) (by decide) rd3 ((ja HT).grown I3.gr) (ja HG) a3);have HI3:=jd I3;have HRD3:=jd rd3;have HA3:=jd a3;clear KO n2 rd2 g2 g2' hz2 zb I3 rd3 a3 HRE HGZ HZ HB1
  go_wp2_with fail
  generalize w2.alloc (.cells #[.int .i64 2,.int .i64 (i:Int),.int .i64 ((i:Int)+1),.slice none 0 0] 59)=w3 at *;generalize w2.heap.size=K at *;cases h58:jK r 58 with
  | true=>
   obtain⟨m,r1,rfl,hm⟩:=jZ h58;have HM:Hid (m.1=58\/m.1=61):=jd (.inl hm);rw [h58] at K3;clear h58 hm;refine(ja K3).mono ?_
   rintro e wq ⟨rfl,b4⟩
   dsimp only
   have Iq:=jd ((ja HI3).on (jI b4));have Rq:=jd ((ja HRD3).below b4);clear K3 b4 HI3 HRD3;obtain⟨hi4,hx4,hn4⟩:=JL (ja HA3);have KT:=jd (zc wq B s a cap l i2 d pl er (ja Rq) ((ja HT).grown (ja Iq).gr) (ja HG) hi4);have HN4:=jd hn4;clear hx4 hn4 hi4 Rq HA3
   go_wp2_with fail
   refine(ja KT).mono ?_
   rintro e w6 ⟨i6,rfl,n6,rd6,g6⟩
   dsimp only
   have I6:=jd ((ja Iq).on g6);have KV:=jd (ja HV w6 i6 pl er r1 rd6 ((ja HT).grown (ja I6).gr) (ja HN4 _ n6));clear KT n6 rd6 g6 Iq HN4 HV;cases hq:q r1 with
   | inl er1=>
    obtain⟨c,te⟩:=er1;have RES:Hid (qF q (x :: m :: r1)=.inl (c,te)):=jd (XJ (ja HX) (ja HM) hq);rw [hq] at KV;clear hq
    go_wp2_with fail
    refine(ja KV).mono ?_
    rintro e w7 ⟨g7,rfl,ib,db,rb⟩
    dsimp only
    have I7:=(ja I6).on (ju g7 (.cells #[.int .i64 0,.int .i64 0,.int .i64 0,.slice none 0 0] 59));have rb7:Rd ((World.alloc w7 (.cells #[.int .i64 0,.int .i64 0,.int .i64 0,.slice none 0 0] 59))) B s (.slice a l.length cap) ib db _ _:=Blk.alloc rb _;obtain⟨z0,z1,z2,z3⟩:=Blk.cells4 I7.zb;obtain⟨y0,y1,y2,y3⟩:=Blk.froz4 I7.zb;have FE:=jd (qd (d:=d) (f:=f+1) (ja HB) (Nat.le_refl _) (ja I6).gr (ju g7 _) I7.zb rb7);clear KV g7 rb I7 rb7 I6;go_wp2;obtain⟨FE1,f0,f1,f2,f3⟩:=ja FE;refine bodyPost_ret (v:=.tuple #[(.agg #[.int .i64 0,.int .i64 0,.int .i64 0,.slice none 0 0]),.bool false]) (by simp [results,Tryz.results172,go_sem,f0,f1,f2,f3]) rfl ?_
    refine ja HPost _ _ ?_
    rw [ja RES];exact FE1
   | inr tr=>
    obtain⟨v,r2⟩:=tr;have RES:Hid (qF q (x :: m :: r1)=.inr (nd 4 x.2 (J7 v) [nd 2 x.2 (x.2+1) [],v],r2)):=jd (ZL (ja HX) (ja HM) hq);rw [hq] at KV;clear hq
    go_wp2_with fail
    refine(ja KV).mono ?_
    rintro e w7 ⟨g7,u0,u1,u2,u3,rfl,hL,ib,plb,erb,rb,ab⟩
    dsimp only
    obtain⟨k0,a0,e0,pk,nk,ck,rfl,rfl,rfl,rfl,he0,f',rfl⟩:=hL.form';have I7:=(ja I6).on (ju g7 (.cells #[.int .i64 (k0:Int),.int .i64 (a0:Int),.int .i64 (e0:Int),.slice pk nk ck] 59));obtain⟨j0,j1,j2,j3⟩:=Blk.cells4 (jf w7 #[.int .i64 (k0:Int),.int .i64 (a0:Int),.int .i64 (e0:Int),.slice pk nk ck] 59);obtain⟨l0,l1,l2,l3⟩:=Blk.cells4 I7.kb;have I9:=I7.on (jI ((Below.refl _ (w7.alloc (.cells #[.int .i64 (k0:Int),.int .i64 (a0:Int),.int .i64 (e0:Int),.slice pk nk ck] 59))).alloc (Nat.le_refl _) (.cells #[.int .i64 2,.int .i64 (i:Int),.int .i64 ((i:Int)+1),.slice none 0 0,.int .i64 (k0:Int),.int .i64 (a0:Int),.int .i64 (e0:Int),.slice pk nk ck] 59)));obtain⟨z0,z1,z2,z3⟩:=Blk.cells4 I9.zb;obtain⟨y0,y1,y2,y3⟩:=Blk.froz4 I9.zb
    have bS:=jf (w7.alloc (.cells #[.int .i64 (k0:Int),.int .i64 (a0:Int),.int .i64 (e0:Int),.slice pk nk ck] 59)) #[.int .i64 2,.int .i64 (i:Int),.int .i64 ((i:Int)+1),.slice none 0 0,.int .i64 (k0:Int),.int .i64 (a0:Int),.int .i64 (e0:Int),.slice pk nk ck] 59;have eS:(w7.alloc (.cells #[.int .i64 (k0:Int),.int .i64 (a0:Int),.int .i64 (e0:Int),.slice pk nk ck] 59)).heap.size=w7.heap.size+1:=by simp
    rw [eS] at bS;have hL9:=(hL.below ((Below.refl _ w7).alloc (Nat.le_refl _) (.cells #[.int .i64 (k0:Int),.int .i64 (a0:Int),.int .i64 (e0:Int),.slice pk nk ck] 59))).below ((Below.refl _ _).alloc (Nat.le_refl _) (.cells #[.int .i64 2,.int .i64 (i:Int),.int .i64 ((i:Int)+1),.slice none 0 0,.int .i64 (k0:Int),.int .i64 (a0:Int),.int .i64 (e0:Int),.slice pk nk ck] 59));have LP:=ja7 (k:=4) (a:=i) (e:=e0) bS (by have:=g7.size;omega) hL9;have FE:=jd (qW (d:=d) (ja HB) (Nat.le_refl _) (Blk.lt (ja I6).zb) (ja I6).gr (ju (ju g7 _) _) I9.zb LP (Blk.alloc (Blk.alloc rb _) _) ab);have HE0:=jd he0;clear KV g7 rb ab hL I7 he0 I9 bS eS hL9 LP I6;go_wp2;obtain⟨FE1,FC⟩:=ja FE
    refine jW (v:=.tuple #[.agg #[.int .i64 4,.int .i64 (i:Int),.int .i64 (e0:Int),.slice (some ⟨w7.heap.size+1,0,none⟩) 2 2],.bool true]) FC (fun wF hF=>by obtain⟨f0,f1,f2,f3⟩:=hF;simp [results,Tryz.results172,go_sem,f0,f1,f2,f3]) rfl ?_
    refine ja HPost _ _ ?_
    rw [ja RES,ja HX2,ja HE0];exact FE1
  | false=>
   rw [h58] at K3;refine(ja K3).mono ?_
   rintro e w4 ⟨rfl,b4⟩
   dsimp only
   have I4:=jd ((ja HI3).on (jI b4));have R4:=jd ((ja HRD3).below b4);have H58:=jd h58;have K4:=jd (jz _ B s a cap l i2 d pl er r 61 (by decide) (by decide) (ja R4) ((ja HT).grown (ja I4).gr) (ja HG) (ja HA3));clear K3 b4 HI3 HRD3 h58;cases h61:jK r 61 with
   | true=>
    obtain⟨m,r1,rfl,hm⟩:=jZ h61;have HM:Hid (m.1=58\/m.1=61):=jd (.inr hm);rw [h61] at K4;clear h61 hm
    go_wp2_with fail
    refine(ja K4).mono ?_
    rintro e wq ⟨rfl,b5⟩
    dsimp only
    have Iq:=jd ((ja I4).on (jI b5));have Rq:=jd ((ja R4).below b5);clear K4 b5 I4 R4;obtain⟨hi4,hx4,hn4⟩:=JL (ja HA3);have KT:=jd (zc wq B s a cap l i2 d pl er (ja Rq) ((ja HT).grown (ja Iq).gr) (ja HG) hi4);have HN4:=jd hn4;clear hx4 hn4 hi4 Rq HA3
    go_wp2_with fail
    refine(ja KT).mono ?_
    rintro e w6 ⟨i6,rfl,n6,rd6,g6⟩
    dsimp only
    have I6:=jd ((ja Iq).on g6);have KV:=jd (ja HV w6 i6 pl er r1 rd6 ((ja HT).grown (ja I6).gr) (ja HN4 _ n6));clear KT n6 rd6 g6 Iq HN4 HV;cases hq:q r1 with
    | inl er1=>
     obtain⟨c,te⟩:=er1;have RES:Hid (qF q (x :: m :: r1)=.inl (c,te)):=jd (XJ (ja HX) (ja HM) hq);rw [hq] at KV;clear hq
     go_wp2_with fail
     refine(ja KV).mono ?_
     rintro e w7 ⟨g7,rfl,ib,db,rb⟩
     dsimp only
     have I7:=(ja I6).on (ju g7 (.cells #[.int .i64 0,.int .i64 0,.int .i64 0,.slice none 0 0] 59));have rb7:Rd ((World.alloc w7 (.cells #[.int .i64 0,.int .i64 0,.int .i64 0,.slice none 0 0] 59))) B s (.slice a l.length cap) ib db _ _:=Blk.alloc rb _;obtain⟨z0,z1,z2,z3⟩:=Blk.cells4 I7.zb;obtain⟨y0,y1,y2,y3⟩:=Blk.froz4 I7.zb;have FE:=jd (qd (d:=d) (f:=f+1) (ja HB) (Nat.le_refl _) (ja I6).gr (ju g7 _) I7.zb rb7);clear KV g7 rb I7 rb7 I6;go_wp2;obtain⟨FE1,f0,f1,f2,f3⟩:=ja FE;refine bodyPost_ret (v:=.tuple #[(.agg #[.int .i64 0,.int .i64 0,.int .i64 0,.slice none 0 0]),.bool false]) (by simp [results,Tryz.results172,go_sem,f0,f1,f2,f3]) rfl ?_
     refine ja HPost _ _ ?_
     rw [ja RES];exact FE1
    | inr tr=>
     obtain⟨v,r2⟩:=tr;have RES:Hid (qF q (x :: m :: r1)=.inr (nd 4 x.2 (J7 v) [nd 2 x.2 (x.2+1) [],v],r2)):=jd (ZL (ja HX) (ja HM) hq);rw [hq] at KV;clear hq
     go_wp2_with fail
     refine(ja KV).mono ?_
     rintro e w7 ⟨g7,u0,u1,u2,u3,rfl,hL,ib,plb,erb,rb,ab⟩
     dsimp only
     obtain⟨k0,a0,e0,pk,nk,ck,rfl,rfl,rfl,rfl,he0,f',rfl⟩:=hL.form';have I7:=(ja I6).on (ju g7 (.cells #[.int .i64 (k0:Int),.int .i64 (a0:Int),.int .i64 (e0:Int),.slice pk nk ck] 59));obtain⟨j0,j1,j2,j3⟩:=Blk.cells4 (jf w7 #[.int .i64 (k0:Int),.int .i64 (a0:Int),.int .i64 (e0:Int),.slice pk nk ck] 59);obtain⟨l0,l1,l2,l3⟩:=Blk.cells4 I7.kb;have I9:=I7.on (jI ((Below.refl _ (w7.alloc (.cells #[.int .i64 (k0:Int),.int .i64 (a0:Int),.int .i64 (e0:Int),.slice pk nk ck] 59))).alloc (Nat.le_refl _) (.cells #[.int .i64 2,.int .i64 (i:Int),.int .i64 ((i:Int)+1),.slice none 0 0,.int .i64 (k0:Int),.int .i64 (a0:Int),.int .i64 (e0:Int),.slice pk nk ck] 59)));obtain⟨z0,z1,z2,z3⟩:=Blk.cells4 I9.zb;obtain⟨y0,y1,y2,y3⟩:=Blk.froz4 I9.zb
     have bS:=jf (w7.alloc (.cells #[.int .i64 (k0:Int),.int .i64 (a0:Int),.int .i64 (e0:Int),.slice pk nk ck] 59)) #[.int .i64 2,.int .i64 (i:Int),.int .i64 ((i:Int)+1),.slice none 0 0,.int .i64 (k0:Int),.int .i64 (a0:Int),.int .i64 (e0:Int),.slice pk nk ck] 59;have eS:(w7.alloc (.cells #[.int .i64 (k0:Int),.int .i64 (a0:Int),.int .i64 (e0:Int),.slice pk nk ck] 59)).heap.size=w7.heap.size+1:=by simp
     rw [eS] at bS;have hL9:=(hL.below ((Below.refl _ w7).alloc (Nat.le_refl _) (.cells #[.int .i64 (k0:Int),.int .i64 (a0:Int),.int .i64 (e0:Int),.slice pk nk ck] 59))).below ((Below.refl _ _).alloc (Nat.le_refl _) (.cells #[.int .i64 2,.int .i64 (i:Int),.int .i64 ((i:Int)+1),.slice none 0 0,.int .i64 (k0:Int),.int .i64 (a0:Int),.int .i64 (e0:Int),.slice pk nk ck] 59));have LP:=ja7 (k:=4) (a:=i) (e:=e0) bS (by have:=g7.size;omega) hL9;have FE:=jd (qW (d:=d) (ja HB) (Nat.le_refl _) (Blk.lt (ja I6).zb) (ja I6).gr (ju (ju g7 _) _) I9.zb LP (Blk.alloc (Blk.alloc rb _) _) ab);have HE0:=jd he0;clear KV g7 rb ab hL I7 he0 I9 bS eS hL9 LP I6;go_wp2;obtain⟨FE1,FC⟩:=ja FE
     refine jW (v:=.tuple #[.agg #[.int .i64 4,.int .i64 (i:Int),.int .i64 (e0:Int),.slice (some ⟨w7.heap.size+1,0,none⟩) 2 2],.bool true]) FC (fun wF hF=>by obtain⟨f0,f1,f2,f3⟩:=hF;simp [results,Tryz.results172,go_sem,f0,f1,f2,f3]) rfl ?_
     refine ja HPost _ _ ?_
     rw [ja RES,ja HX2,ja HE0];exact FE1
   | false=>
    have RES:Hid (qF q (x :: r)=.inl (4,r)):=jd (jkm (ja HX) (ja H58) h61);rw [h61] at K4;clear h61
    go_wp2_with fail
    refine(ja K4).mono ?_
    rintro e w5 ⟨rfl,b5⟩
    dsimp only
    have I5:=jd ((ja I4).on (jI b5));have R5:=(ja R4).below b5;have KR:=jd (jT w5 B s a cap l i2 d pl er r 4 (by decide) R5 ((ja HT).grown (ja I5).gr) (ja HG) (ja HA3));clear K4 b5 I4 R4 R5
    go_wp2_with fail
    refine(ja KR).mono ?_
    rintro e w6 ⟨rfl,rd6,g6⟩
    dsimp only
    have I6:=(ja I5).on g6;obtain⟨z0,z1,z2,z3⟩:=Blk.cells4 I6.zb;obtain⟨y0,y1,y2,y3⟩:=Blk.froz4 I6.zb;have FE:=jd (qd (d:=d) (f:=f+1) (ja HB) (Nat.le_refl _) (ja I5).gr g6 I6.zb rd6);clear KR rd6 g6 I6 I5;go_wp2;obtain⟨FE1,f0,f1,f2,f3⟩:=ja FE;refine bodyPost_ret (v:=.tuple #[(.agg #[.int .i64 0,.int .i64 0,.int .i64 0,.slice none 0 0]),.bool false]) (by simp [results,Tryz.results172,go_sem,f0,f1,f2,f3]) rfl ?_
    refine ja HPost _ _ ?_
    rw [ja RES];exact FE1
open Go.RowKit
open toks
theorem jjq (w:World)(B:Nat)(s:ByteArray)(a:Option Addr)(cap:Nat)(l:List Tk)(i d lv:Nat)(pl er:Int)(ts:List Sym)(hd:d<20)(VAL:∀(u:World) (j:Nat) (pl er:Int) (ts:List Sym),Rd u B s (.slice a l.length cap) j (d+1) pl er->TkIn u B a l->At s.data.toList l j ts->Calls Tryz.prog 111 #[(.pointer (some ⟨B,0,none⟩))] u (Res B s a cap l (d+1) (2*lv) u (pv lv ts)))
  (hr:Rd w B s (.slice a l.length cap) i d pl er) (ht:TkIn w B a l) (g:Good s l) (hat:At s.data.toList l i ts) (h1:jK ts 123=true) :
  Calls Tryz.prog 111 #[(.pointer (some ⟨B,0,none⟩))] w (Res B s a cap l d (2*lv+2) w (pv (lv+1) ts)):=by
 have HT:=jd ht;have HG:=jd g;have HA:=jd hat;have V0:=jd (qS hr);have h2:=qV h1 (b:=91) (by decide);have H3:=jd h1;have HVL:=jd VAL;clear VAL
 have K1:∀u,Hid (VInv w B s a cap l i d pl er u)->Hid (Calls Tryz.prog 168 #[(.pointer (some ⟨B,0,none⟩)),.int .u8 123] u fun e w'=>e=.returned (.bool true)/\Below u.heap.size u w'):=fun u hu=>jd (by
  have:=jz u B s a cap l i d pl er ts 123 (by decide) (by decide) (ja hu).rd (ht.grown (ja hu).gr) g hat;rw [h1] at this;exact this)
 have K2:∀u,Hid (VInv w B s a cap l i d pl er u)->Hid (Calls Tryz.prog 168 #[(.pointer (some ⟨B,0,none⟩)),.int .u8 91] u fun e w'=>e=.returned (.bool false)/\Below u.heap.size u w'):=fun u hu=>jd (by
  have:=jz u B s a cap l i d pl er ts 91 (by decide) (by decide) (ja hu).rd (ht.grown (ja hu).gr) g hat;rw [h2] at this;exact this)
 clear hr ht g hat h1 h2
 suffices FIN:∀Post:Ending->World->Prop,Hid (∀e w',Res B s a cap l d (2*lv+2) w (pv (lv+1) ts) e w'->Post e w')->Calls Tryz.prog 111 #[(.pointer (some ⟨B,0,none⟩))] w Post from FIN _ (jd fun _ _ h=>h)
 intro Post HPost
 go_enter Tryz.func111,Tryz.ntmps111
 go_upto_region 1 with fail
 have p0:=Blk.cell (ja V0).pb 0 _ rfl;generalize (w.alloc (.cells #[(.pointer (some ⟨B,0,none⟩))] 108)).alloc (.cells #[.int .i64 0,.int .i64 0,.int .i64 0,.slice none 0 0] 59)=w0 at *
 go_cut [4,5] from 6 to 9 (fun s4 s5 wx=>s4=.bool true/\s5=.bool false/\Hid (VInv w B s a cap l i d pl er wx))
 case first=>
  go_region_with (first
   | (go_at_call_of 168 (Value.int IntKind.u8 123)
      refine(ja (K1 _ (by first | exact V0 | exact jd ((ja V0).below (below_drewN (Below.refl _ _) _)) | exact jd ((ja V0).below ((Below.refl _ _).drew))))).mono ?_
      rintro e w2 ⟨rfl,b2⟩
      have V2:=jd (((ja V0).below (below_drewN (Below.refl _ _) 1)).below b2);have p2:=Blk.cell (ja V2).pb 0 _ rfl;clear b2)
   | (go_at_call_of 168 (Value.int IntKind.u8 91)
      refine(ja (K2 _ V2)).mono ?_
      rintro e w3 ⟨rfl,b3⟩
      have V3:=jd ((ja V2).below b3);clear b3))
  all_goals
   go_wp2_with fail
   go_meet
   exact⟨rfl,rfl,V3⟩
 case rest=>
 obtain⟨rfl,rfl,V⟩:=hcut;clear K1 K2 V0 p0 w0;have p0:=Blk.cell (ja V).pb 0 _ rfl;obtain⟨x,r,rfl,hx⟩:=jZ (ja H3);have RES:=jd (jh3 (lv:=lv) (r:=r) hx);have hlt:=(ja V).lt
 have KL:=jd (jhr wc B w.heap.size s a cap l i d pl er x r (qF (pv lv)) 3 (2*lv+1) 125 (by decide) (by decide) (by decide) (by decide) (by omega) (ja V).rd ((ja HT).grown (ja V).gr) (ja HG) (ja HA) p0 (by omega) rfl (Qy (qJ lv))
  (fun u j pl er ts h1 h2 h3 h4=>jls u B w.heap.size s a cap l j (d+1) pl er ts (qF (pv lv)) (2*lv+1) h1 h2 h3 h4 (fun u j pl er ts h1 h2 h3=>jgL u B s a cap l j (d+1) pl er ts (pv lv) (2*lv) h1 h2 (ja HG) h3 (ja HVL))))
 have c3:=Blk.cell (ja V).rd 3 (.int .i64 (d:Int)) rfl;have j3:((d:Int) == 20)=false:=beq_false_of_ne (by omega);clear hx hlt HVL;generalize jE (qF (pv lv)) 125 3 x.2 (r.length+1) [] r=qq at *
 go_wp2_with fail
 refine(ja KL).mono ?_
 cases qq with
 | inl er1=>
  obtain⟨c,te⟩:=er1
  rintro e w2 ⟨g2,rfl,ib,db,rd2⟩
  dsimp only
  have hlt:=(ja V).lt;have zb:=Blk.grown (ja V).zb g2 (fun e=>by injection e with e;omega);obtain⟨z0,z1,z2,z3⟩:=Blk.cells4 zb;obtain⟨y0,y1,y2,y3⟩:=Blk.froz4 zb;have FE:=jd (qd (d:=d) (f:=2*lv+2) hlt (Nat.le_succ _) (ja V).gr g2 zb rd2);clear KL rd2 g2 zb V p0 hlt c3;go_wp2;obtain⟨FE1,FC⟩:=ja FE;refine jW (v:=.tuple #[(.agg #[.int .i64 0,.int .i64 0,.int .i64 0,.slice none 0 0]),.bool false]) FC (fun wF hF=>by obtain⟨f0,f1,f2,f3⟩:=hF;simp [results,Tryz.results111,go_sem,f0,f1,f2,f3]) rfl ?_
  refine ja HPost _ _ ?_
  rw [ja RES];exact FE1
 | inr tr=>
  obtain⟨v,r2⟩:=tr
  rintro e w2 ⟨g2,u0,u1,u2,u3,rfl,hL,ib,plb,erb,rd2,a2⟩
  dsimp only
  obtain⟨k0,a0,e0,pk,nk,ck,rfl,rfl,rfl,rfl⟩:=hL.form;have hlt:=(ja V).lt;have zb:=Blk.grown (ja V).zb g2 (fun e=>by injection e with e;omega);obtain⟨z0,z1,z2,z3⟩:=Blk.cells4 zb;obtain⟨y0,y1,y2,y3⟩:=Blk.froz4 zb;have FE:=jd (qW (d:=d) (f:=2*lv+2) hlt (Nat.le_succ _) (Blk.lt (ja V).zb) (ja V).gr g2 zb hL rd2 a2);clear KL rd2 g2 zb V p0 hlt c3 hL a2;go_wp2;obtain⟨FE1,FC⟩:=ja FE;refine jW (v:=.tuple #[.agg #[.int .i64 (k0:Int),.int .i64 (a0:Int),.int .i64 (e0:Int),.slice pk nk ck],.bool true]) FC (fun wF hF=>by obtain⟨f0,f1,f2,f3⟩:=hF;simp [results,Tryz.results111,go_sem,f0,f1,f2,f3]) rfl ?_
  refine ja HPost _ _ ?_
  rw [ja RES];exact FE1
open Go.RowKit
open toks
theorem jhG (w:World)(B P:Nat)(s:ByteArray)(a:Option Addr)(cap:Nat)(l:List Tk)(i d:Nat)(pl er:Int)(x:Sym)(r:List Sym)(q:List Sym->R)(kind f:Nat)(ec:UInt8)(m1:ec≠63)(m2:ec≠120)(m3:ec≠44)(hkind:kind<=6)(hd:d<=20)
  (hr:Rd w B s (.slice a l.length cap) i d pl er) (ht:TkIn w B a l) (g:Good s l) (hat:At s.data.toList l i (x :: r)) (hP:w.cell? ⟨P,0,none⟩=some ((.pointer (some ⟨B,0,none⟩)))) (hPB:P≠B) (hq0:q []=.inl (4,[])) (hql:Loc q)
  (KID:∀(u:World) (j:Nat) (pl er:Int) (ts:List Sym),Rd u B s (.slice a l.length cap) j (d+1) pl er->TkIn u B a l->At s.data.toList l j ts->u.cell? ⟨P,0,none⟩=some ((.pointer (some ⟨B,0,none⟩)))->Calls Tryz.prog 173 #[(.pointer (some ⟨P,0,none⟩))] u (Res B s a cap l (d+1) f u (q ts))) :
  Calls Tryz.prog 170 #[(.pointer (some ⟨B,0,none⟩)),.int .i64 (kind:Int),.int .u8 (ec.toNat:Int),.func (.func 173) #[] #[(.pointer (some ⟨P,0,none⟩))]] w (Res B s a cap l d (f+1) w (jE q ec kind x.2 (r.length+1) [] r)):=by
 obtain⟨hi,hx,hs,h3,hre⟩:=QL hat;have hB:=Blk.lt hr;have hlen:=hat.len;have K1:Hid _:=jd (zc ((World.alloc w (.cells #[.int .i64 0,.int .i64 0,.int .i64 0,.slice none 0 0] 59))) B s a cap l i d pl er (Blk.alloc hr _) (ht.below ((Below.refl _ w).alloc (Nat.le_refl _) _)) g hi);have HP:=jd hP;have HT:=jd ht;have HG:=jd g;have HK:=jd KID;have HL:=jd hql;have HB:=jd hB;have HRE:=jd hre;have hl:=g.len;rw [hx];clear hr ht g hat hP KID hql hB hs h3 hre hx
 suffices FIN:∀Post:Ending->World->Prop,Hid (∀e w',Res B s a cap l d (f+1) w (jE q ec kind i (r.length+1) [] r) e w'->Post e w')->Calls Tryz.prog 170 #[(.pointer (some ⟨B,0,none⟩)),.int .i64 (kind:Int),.int .u8 (ec.toNat:Int),.func (.func 173) #[] #[(.pointer (some ⟨P,0,none⟩))]] w Post from FIN _ (jd fun _ _ h=>h)
 intro Post HPost
 go_enter Tryz.func170,Tryz.ntmps170
 go_wp2_with fail
 refine(ja K1).mono ?_
 rintro e w1 ⟨j,rfl,h1,h2,h3⟩
 dsimp only
 have hB:=ja HB;have hs1:w.heap.size+1<=w1.heap.size:=by have:=h3.size;simpa using this
 have hzb:Blk w1 w.heap.size #[.int .i64 0,.int .i64 0,.int .i64 0,.slice none 0 0] 59:=Blk.grown (jf w _ _) h3 (fun e=>by injection e with e;omega);have hg1:w.grownBy w1 (some B):=jj (ju (jC w _) _) h3;have nb:=jf w1 #[.int .i64 (kind:Int),.int .i64 (i:Int),.int .i64 0,.slice none 0 0] 59;have rb:Rd (w1.alloc (.cells #[.int .i64 (kind:Int),.int .i64 (i:Int),.int .i64 0,.slice none 0 0] 59)) B s (.slice a l.length cap) j d pl er:=Blk.alloc h2 _;have rc:=Blk.cell rb 3 (.int .i64 (d:Int)) rfl;have rf:=Blk.froz rb 3;have NB:=jd (Blk.set_other nb ⟨B,3,none⟩ (.int .i64 ((d:Int)+1)) (show w1.heap.size≠B by omega));have RB:=jd (rb.lev ((d:Int)+1) (d+1) (by omega))
 have ZB:=jd (Blk.set_other (Blk.alloc hzb (.cells #[.int .i64 (kind:Int),.int .i64 (i:Int),.int .i64 0,.slice none 0 0] 59)) ⟨B,3,none⟩ (.int .i64 ((d:Int)+1)) (show w.heap.size≠B by omega));have G1:=jd (jj (ju hg1 (.cells #[.int .i64 (kind:Int),.int .i64 (i:Int),.int .i64 0,.slice none 0 0] 59)) (j7 _ B 3 (.int .i64 ((d:Int)+1))));have N1:=jd h1;clear K1 h1 h2 h3 hB hzb hg1 nb rb
 go_wp2_with fail
 clear rc rf;generalize hW:((w1.alloc (.cells #[.int .i64 (kind:Int),.int .i64 (i:Int),.int .i64 0,.slice none 0 0] 59)).setCell ⟨B,3,none⟩ (.int .i64 ((d:Int)+1)))=w2 at *;have hlt:B<w.heap.size/\w.heap.size<w1.heap.size:=⟨ja HB,by omega⟩
 have I0:Hid (BInv w B w1.heap.size s a cap l d f kind i [] [] (.slice none 0 0) j pl er r w2):=jd ⟨ja RB,by rw [ja HRE];exact(ja N1).at,ja NB,ja ZB,World.ownsRow_nil _ _ _ _,jat _ _ _,ja G1,hlt⟩;have hrl:r.length+1<=l.length:=hlen;clear hW NB RB ZB G1 N1 HRE HB hs1 hlen hlt hi;generalize w1.heap.size=N at *;clear w1
 go_loopw [11] (fun _ wr=>∃(acc:List T) (vss:List (List Value)) (v:Value) (iC:Nat) (pl er:Int) (ts:List Sym) (F:Nat),ts.length<F/\acc.length+ts.length<=l.length/\Hid (jE q ec kind i F acc ts=jE q ec kind i (r.length+1) [] r)/\Hid (BInv w B N s a cap l d f kind i acc vss v iC pl er ts wr)) (fun _ wr=>left s.data.toList l B wr)
 case atStart=>exact⟨[],[],_,j,pl,er,r,r.length+1,by omega,by simp;omega,jd rfl,I0⟩
 case round=>
  obtain⟨acc,vss,v,iC,pl1,er1,ts,F,hF,hA,HE,HI⟩:=hrel;obtain⟨pv0,nv0,cv0,rfl⟩:=Jz (ja HI).own;have HLW:Hid (left s.data.toList l B wr=ts.length):=jd (left_eq (ja HI).rd (ja HI).at');have KS:Hid _:=jd (jz wr B s a cap l iC (d+1) pl1 er1 ts ec m1 m2 (ja HI).rd ((ja HT).grown (ja HI).gr) (ja HG) (ja HI).at');cases hse:jK ts ec with
  | true=>
   obtain⟨x1,r1,rfl,hx1⟩:=jZ hse;have RES:Hid (jE q ec kind i (r.length+1) [] r=.inr (nd kind i (x1.2+1) acc,r1)):=jd (by rw [<-ja HE];exact Z1 hx1 hF);rw [hse] at KS;clear HE hse hx1 hF HK HL
   go_wp2_with fail
   refine(ja KS).mono ?_
   rintro e wa ⟨rfl,hba⟩
   dsimp only
   have I1:=(ja HI).below hba;have c3:=Blk.cell I1.rd 3 (.int .i64 ((d:Int)+1)) (by simp);have z3:=Blk.froz I1.rd 3;have hgs:=j7 wa B 3 (.int .i64 (d:Int));obtain⟨hi1,hx1,hre1⟩:=JL I1.at';have K2:=jd (zc _ B s a cap l iC d pl1 er1 (I1.rd.lev (d:Int) d rfl) (((ja HT).grown I1.gr).grown hgs) (ja HG) hi1);have HI1:=jd I1;have HR1:=jd hre1;have HX1:=jd hx1;have HGS:=jd hgs;clear KS hba I1 HI hx1 hre1 hgs
   go_wp2_with fail
   refine(ja K2).mono ?_
   rintro e w4 ⟨i4,rfl,n4,rd4,g4⟩
   dsimp only
   have g5:=jj (ja HGS) g4;obtain⟨k1,k2,k3⟩:=(ja HI1).nb2 g5 (.int .i64 ((iC:Int)+1));have p2:=Blk.cell k1 2 _ rfl;have y2:=Blk.froz k1 2;obtain⟨q0,q1,q2,q3⟩:=Blk.cells4 k2;obtain⟨z0,z1,z2,z3⟩:=Blk.cells4 k3;obtain⟨y0,y1,y2',y3⟩:=Blk.froz4 k3;have a4:At s.data.toList l i4 r1:=ja HR1 _ n4;have FIN:=jd ((ja HI1).fin g5 rd4 a4 (x1.2+1) ((iC:Int)+1) (by rw [ja HX1];omega));have FB:=jd (qC k3 (.int .i64 (kind:Int)) (.int .i64 (i:Int)) (.int .i64 ((iC:Int)+1)) (.slice pv0 nv0 cv0));clear K2 n4 rd4 g4 g5 k1 k2 k3 a4 HI1 HR1 HX1 HGS c3;go_wp2;have FN:=ja FIN;obtain⟨f0,f1,f2,f3⟩:=Blk.cells4 (ja FB);refine bodyPost_ret (v:=.tuple #[.agg #[.int .i64 (kind:Int),.int .i64 (i:Int),.int .i64 ((iC:Int)+1),.slice pv0 nv0 cv0],.bool true]) (by simp [results,Tryz.results170,go_sem,f0,f1,f2,f3]) rfl ?_
   refine ja HPost _ _ ?_
   rw [ja RES];exact FN
  | false=>
   rw [hse] at KS
   go_wp2_with fail
   refine(ja KS).mono ?_
   rintro e wa ⟨rfl,hba⟩
   dsimp only
   have I1:=(ja HI).below hba;have KK:=jd (ja HK wa iC pl1 er1 ts I1.rd ((ja HT).grown I1.gr) I1.at' (I1.gr.cell (ja HP) (fun e=>by injection e with e;exact hPB e)));have HI1:=jd I1;have HSE:=jd hse;clear KS hba I1 HI HK hse;cases hq:q ts with
   | inl er=>
    obtain⟨c,te⟩:=er;have RES:Hid (jE q ec kind i (r.length+1) [] r=.inl (c,te)):=jd (by rw [<-ja HE];exact ZJ (ja HSE) hq0 hq hF);rw [hq] at KK;clear hq HE HSE hF HL hq0
    go_wp2_with fail
    refine(ja KK).mono ?_
    rintro e wb ⟨hg,rfl,ib,db,rb⟩
    dsimp only
    have zb2:=Blk.alloc (Blk.grown (ja HI1).zb hg (fun e=>by injection e with e;have:=(ja HI1).lt;omega)) (.cells #[.int .i64 0,.int .i64 0,.int .i64 0,.slice none 0 0] 59);have rb2:Rd ((World.alloc wb (.cells #[.int .i64 0,.int .i64 0,.int .i64 0,.slice none 0 0] 59))) B s (.slice a l.length cap) ib db _ _:=Blk.alloc rb _;have G2:=jd (ju (jj (ja HI1).gr hg) (.cells #[.int .i64 0,.int .i64 0,.int .i64 0,.slice none 0 0] 59));obtain⟨z0,z1,z2,z3⟩:=Blk.cells4 zb2;obtain⟨y0,y1,y2,y3⟩:=Blk.froz4 zb2;have FE:=jd (ZV (d:=d) (f:=f+1) (ja HI1).lt.1 (ju (jj (ja HI1).gr hg) _) zb2 rb2);clear KK hg rb zb2 rb2 HI1 G2;go_wp2;obtain⟨FE1,f0,f1,f2,f3⟩:=ja FE;refine bodyPost_ret (v:=.tuple #[(.agg #[.int .i64 0,.int .i64 0,.int .i64 0,.slice none 0 0]),.bool false]) (by simp [results,Tryz.results170,go_sem,f0,f1,f2,f3]) rfl ?_
    refine ja HPost _ _ ?_
    rw [ja RES];exact FE1
   | inr tr=>
    obtain⟨t,rest⟩:=tr;have hless:=jdN (ja HL) hq;have EM:Hid (left s.data.toList l B wr=ts.length):=HLW;have HQ:=jd hq;rw [hq] at KK;clear hq HL
    go_wp2_with fail
    refine(ja KK).mono ?_
    rintro e wb ⟨hg,u0,u1,u2,u3,rfl,hL,ib,plb,erb,rb,ab⟩
    dsimp only
    obtain⟨k0,a0,e0,pk,nk,ck,rfl,rfl,rfl,rfl⟩:=hL.form;have I2:=(ja HI1).on hg rb ab;have bc:Below wb.heap.size wb (wb.alloc (.cells #[.int .i64 (k0:Int),.int .i64 (a0:Int),.int .i64 (e0:Int),.slice pk nk ck] 59)):=(Below.refl _ wb).alloc (Nat.le_refl _) _;have I3:=I2.below bc;have n3:=Blk.cell I3.nb 3 (.slice pv0 nv0 cv0) rfl;obtain⟨j0,j1,j2,j3⟩:=Blk.cells4 (jf wb #[.int .i64 (k0:Int),.int .i64 (a0:Int),.int .i64 (e0:Int),.slice pk nk ck] 59);have hL2:=jd (hL.weaken (ok':=fun b=>N+1<=b/\some b≠(Value.slice pv0 nv0 cv0).ownBlock) (fun b hb=>⟨by have:=(ja HI1).sz;omega,fun e=>by have:=((ja HI1).own.lt b e.symm).2;omega⟩));have HI2:=jd I2;have HI3:=jd I3;have hNs:=I3.sz;have hown3:=I3.own;clear KK hg rb ab hL I2 I3 bc HI1;obtain⟨i0,hinf,hz0,hz1,hz2⟩:=info_parts jcQ
    go_wp2_with (at_builtin;refine wpList_append_lies _ rfl _ _ 57 rfl (N+1) 59 i0 (.agg #[.int .i64 0,.int .i64 0,.int .i64 0,.slice none 0 0]) 4 48 Tryz.underlying57 hinf hz0 hz1 hz2 rfl (by decide) _ _ _ rfl (hown3.alloc _) ⟨wb.heap.size+1,0,none⟩ 1 1 [.int .i64 (k0:Int),.int .i64 (a0:Int),.int .i64 (e0:Int),.slice pk nk ck] rfl rfl ?c1 ?c2 ?c3 ?c4 ?c5 ?c6 (wb.heap.size+2) ?c7 ?_)
    case c1=>
     have:=QY (wb.alloc (.cells #[.int .i64 (k0:Int),.int .i64 (a0:Int),.int .i64 (e0:Int),.slice pk nk ck] 59)) (.int .i64 (k0:Int)) (.int .i64 (a0:Int)) (.int .i64 (e0:Int)) (.slice pk nk ck) 59;simpa using this
    case c2=>intro u hu;simp at hu;rcases hu with rfl | rfl | rfl | rfl<;>rfl
    case c3=>decide
    case c4=>unfold maxLen;omega
    case c5=>omega
    case c6=>simp at hNs ⊢;omega
    case c7=>simp
    intro g cap' wx hown2 hg2 hat hlt2;have I4:=(ja HI3).below ((Below.refl (wb.alloc (.cells #[.int .i64 (k0:Int),.int .i64 (a0:Int),.int .i64 (e0:Int),.slice pk nk ck] 59)).heap.size _).alloc (Nat.le_refl _) (.cells #[.int .i64 (k0:Int),.int .i64 (a0:Int),.int .i64 (e0:Int),.slice pk nk ck] 59));have hL4:=(((ja hL2).below ((Below.refl _ wb).alloc (Nat.le_refl _) (.cells #[.int .i64 (k0:Int),.int .i64 (a0:Int),.int .i64 (e0:Int),.slice pk nk ck] 59))).below ((Below.refl _ _).alloc (Nat.le_refl _) (.cells #[.int .i64 (k0:Int),.int .i64 (a0:Int),.int .i64 (e0:Int),.slice pk nk ck] 59)))
    have nx:=Blk.grown I4.nb hg2 (Qd I4.own (Nat.lt_succ_self N));have nx3:=Blk.cell nx 3 (.slice pv0 nv0 cv0) rfl;have nf3:=Blk.froz nx 3
    have I5:=jd (I4.more hL4 hown2 hg2 (by
     rcases hat with e | e
     ·exact .inl (by rw [e];rfl)
     ·refine .inr (fun g' hg'=>?_)
      have e2:some g=some g':=hg';injection e2 with e2;simp;omega))
    clear I4 hL4 nx hown2 hg2 hat hlt2 HI2 HI3 hL2 n3 j0 j1 j2 j3 hNs hown3 hinf hz0 hz1 hz2 i0;have hA2:(acc++[t]).length+rest.length<=l.length:=by simp;omega
    go_wp2_with fail
    clear nx3 nf3;generalize wx.setCell ⟨N,3,none⟩ (.slice (some ⟨g,0,none⟩) (acc.length+1) cap')=w5 at *;have KS2:=jd (jz w5 B s a cap l ib (d+1) plb erb rest 44 (by decide) (by decide) (ja I5).rd ((ja HT).grown (ja I5).gr) (ja HG) (ja I5).at');cases h44:jK rest 44 with
    | true=>
     obtain⟨y,r2,rfl,hy⟩:=jZ h44;have HE2:Hid (jE q ec kind i (F - 1) (acc++[t]) r2=jE q ec kind i (r.length+1) [] r):=jd (by rw [<-ja HE];exact(YK (ja HSE) hq0 (ja HQ) hy hF).symm);rw [h44] at KS2;clear h44 hy HE HSE HQ;refine(ja KS2).mono ?_
     rintro e w6 ⟨rfl,hb6⟩
     dsimp only
     have I6:=(ja I5).below hb6;obtain⟨hi6,hx6,hre6⟩:=JL I6.at';have K6:=jd (zc w6 B s a cap l ib (d+1) plb erb I6.rd ((ja HT).grown I6.gr) (ja HG) hi6);have HI6:=jd I6;have HR6:=jd hre6;clear KS2 hb6 I6 I5 hre6 hi6 hx6
     go_wp2_with fail
     refine(ja K6).mono ?_
     rintro e w7 ⟨i7,rfl,n7,rd7,g7⟩
     dsimp only
     have a7:At s.data.toList l i7 r2:=ja HR6 _ n7;have HI7:=jd ((ja HI6).on g7 rd7 a7);have hlen2:(y :: r2).length=r2.length+1:=rfl;have EM7:=jd (left_eq rd7 a7);clear K6 n7 rd7 g7 a7 HI6 HR6;go_wp2;go_roundw
     case rel=>exact⟨acc++[t],vss++[_],_,i7,plb,erb,r2,F - 1,by omega,by omega,HE2,HI7⟩
     case measure=>rw [ja EM,ja EM7];omega
    | false=>
     rw [h44] at KS2;refine(ja KS2).mono ?_
     rintro e w6 ⟨rfl,hb6⟩
     dsimp only
     have I6:=(ja I5).below hb6;have K6:=jd (jz w6 B s a cap l ib (d+1) plb erb rest ec m1 m2 I6.rd ((ja HT).grown I6.gr) (ja HG) I6.at');have HI6:=jd I6;have H44:=jd h44;clear KS2 hb6 I6 I5 h44;cases hec:jK rest ec with
     | true=>
      obtain⟨y,r2,rfl,hy⟩:=jZ hec;have HE2:Hid (jE q ec kind i ((y :: r2).length+1) (acc++[t]) (y :: r2)=jE q ec kind i (r.length+1) [] r):=jd (by rw [<-ja HE,jbL (ja HSE) hq0 (ja HQ) (j9 (ja H44)) hy hF];exact Z1 hy (Nat.lt_succ_self _));rw [hec] at K6;clear hec hy HE HSE HQ H44
      go_wp2_with fail
      refine(ja K6).mono ?_
      rintro e w7 ⟨rfl,hb7⟩
      dsimp only
      have HI7:=jd ((ja HI6).below hb7);have EM7:=jd (left_eq (ja HI7).rd (ja HI7).at');clear K6 hb7 HI6;go_wp2;go_roundw
      case rel=>exact⟨acc++[t],vss++[_],_,ib,plb,erb,y :: r2,(y :: r2).length+1,by omega,hA2,HE2,HI7⟩
      case measure=>rw [ja EM,ja EM7];omega
     | false=>
      have RES:Hid (jE q ec kind i (r.length+1) [] r=.inl (4,rest)):=jd (by rw [<-ja HE];exact jbc (ja HSE) hq0 (ja HQ) (ja H44) hec hF);rw [hec] at K6;clear hec HE HSE HQ H44
      go_wp2_with fail
      refine(ja K6).mono ?_
      rintro e w7 ⟨rfl,hb7⟩
      dsimp only
      have I7:=(ja HI6).below hb7;have K7:=jd (jT w7 B s a cap l ib (d+1) plb erb rest 4 (by decide) I7.rd ((ja HT).grown I7.gr) (ja HG) I7.at');have HI7:=jd I7;clear K6 hb7 I7 HI6
      go_wp2_with fail
      refine(ja K7).mono ?_
      rintro e w8 ⟨rfl,rd8,g8⟩
      dsimp only
      have zb8:=Blk.grown (ja HI7).zb g8 (fun e=>by injection e with e;have:=(ja HI7).lt;omega);obtain⟨z0,z1,z2,z3⟩:=Blk.cells4 zb8;obtain⟨y0,y1,y2,y3⟩:=Blk.froz4 zb8;have FE:=jd (ZV (d:=d) (f:=f+1) (ja HI7).lt.1 (jj (ja HI7).gr g8) zb8 rd8);clear K7 rd8 g8 zb8 HI7;go_wp2;obtain⟨FE1,f0,f1,f2,f3⟩:=ja FE;refine bodyPost_ret (v:=.tuple #[(.agg #[.int .i64 0,.int .i64 0,.int .i64 0,.slice none 0 0]),.bool false]) (by simp [results,Tryz.results170,go_sem,f0,f1,f2,f3]) rfl ?_
      refine ja HPost _ _ ?_
      rw [ja RES];exact FE1
open Go.RowKit
open toks
theorem jlk (w:World)(B P:Nat)(s:ByteArray)(a:Option Addr)(cap:Nat)(l:List Tk)(i d:Nat)(pl er:Int)(ts:List Sym)(q:List Sym->R)(f:Nat)
  (hr:Rd w B s (.slice a l.length cap) i d pl er) (ht:TkIn w B a l) (hat:At s.data.toList l i ts) (hP:w.cell? ⟨P,0,none⟩=some ((.pointer (some ⟨B,0,none⟩))))
  (VAL:∀(u:World) (j:Nat) (pl er:Int) (ts:List Sym),Rd u B s (.slice a l.length cap) j d pl er->TkIn u B a l->At s.data.toList l j ts->Calls Tryz.prog 111 #[(.pointer (some ⟨B,0,none⟩))] u (Res B s a cap l d f u (q ts))) :
  Calls Tryz.prog 173 #[(.pointer (some ⟨P,0,none⟩))] w (Res B s a cap l d f w (q ts)):=by
 have hB:=Blk.lt hr;have bz:Below w.heap.size w ((World.alloc w (.cells #[.int .i64 0,.int .i64 0,.int .i64 0,.slice none 0 0] 59))):=(Below.refl _ w).alloc (Nat.le_refl _) _;have KV:=jd (VAL ((World.alloc w (.cells #[.int .i64 0,.int .i64 0,.int .i64 0,.slice none 0 0] 59))) i pl er ts (hr.below bz) (ht.below bz) hat)
 have cP:((World.alloc w (.cells #[.int .i64 0,.int .i64 0,.int .i64 0,.slice none 0 0] 59))).cell? ⟨P,0,none⟩=some ((.pointer (some ⟨B,0,none⟩))):=by
  rw [<-hP];exact World.cell?_of_block (Below.heap_alloc _ _ _ (World.block_lt_of_cell? w _ hP))
 have HZ:=jd (jf w #[.int .i64 0,.int .i64 0,.int .i64 0,.slice none 0 0] 59);have HGZ:=jd (ju (jC w (some B)) (.cells #[.int .i64 0,.int .i64 0,.int .i64 0,.slice none 0 0] 59));have hz0:((World.alloc w (.cells #[.int .i64 0,.int .i64 0,.int .i64 0,.slice none 0 0] 59))).heap.size=w.heap.size+1:=by simp
 have HB:=jd hB;clear hr ht hat VAL hB bz hP
 suffices FIN:∀Post:Ending->World->Prop,Hid (∀e w',Res B s a cap l d f w (q ts) e w'->Post e w')->Calls Tryz.prog 173 #[(.pointer (some ⟨P,0,none⟩))] w Post from FIN _ (jd fun _ _ h=>h)
 intro Post HPost
 go_enter Tryz.func173,Tryz.ntmps173
 go_wp2_with fail
 generalize (World.alloc w (.cells #[.int .i64 0,.int .i64 0,.int .i64 0,.slice none 0 0] 59))=w0 at *;clear cP;generalize q ts=qq at *;cases qq with
 | inl er1=>
  obtain⟨c,te⟩:=er1;refine(ja KV).mono ?_
  rintro e w7 ⟨g7,rfl,ib,db,rb⟩
  dsimp only
  have zb:=Blk.grown (ja HZ) g7 (fun e=>by injection e with e;have:=ja HB;omega);obtain⟨z0,z1,z2,z3⟩:=Blk.cells4 zb;obtain⟨y0,y1,y2,y3⟩:=Blk.froz4 zb;have FE:=jd (qd (d:=d) (f:=f) (ja HB) (Nat.le_refl _) (ja HGZ) g7 zb rb);clear KV g7 rb zb;go_wp2;obtain⟨FE1,FC⟩:=ja FE;refine jW (v:=.tuple #[(.agg #[.int .i64 0,.int .i64 0,.int .i64 0,.slice none 0 0]),.bool false]) FC (fun wF hF=>by obtain⟨f0,f1,f2,f3⟩:=hF;simp [results,Tryz.results173,go_sem,f0,f1,f2,f3]) rfl ?_
  exact ja HPost _ _ FE1
 | inr tr=>
  obtain⟨v,r2⟩:=tr;refine(ja KV).mono ?_
  rintro e w7 ⟨g7,u0,u1,u2,u3,rfl,hL,ib,plb,erb,rb,ab⟩
  dsimp only
  obtain⟨k0,a0,e0,pk,nk,ck,rfl,rfl,rfl,rfl,he0,f',rfl⟩:=hL.form';have zb:=Blk.grown (ja HZ) g7 (fun e=>by injection e with e;have:=ja HB;omega);obtain⟨z0,z1,z2,z3⟩:=Blk.cells4 zb;obtain⟨y0,y1,y2,y3⟩:=Blk.froz4 zb;have FE:=jd (qW (d:=d) (ja HB) (Nat.le_refl _) (by omega) (ja HGZ) g7 zb hL rb ab);clear KV g7 rb zb hL ab he0;go_wp2;obtain⟨FE1,FC⟩:=ja FE;refine jW (v:=.tuple #[.agg #[.int .i64 (k0:Int),.int .i64 (a0:Int),.int .i64 (e0:Int),.slice pk nk ck],.bool true]) FC (fun wF hF=>by obtain⟨f0,f1,f2,f3⟩:=hF;simp [results,Tryz.results173,go_sem,f0,f1,f2,f3]) rfl ?_
  exact ja HPost _ _ FE1
open Go.RowKit
open toks
theorem jh0 (w:World)(B:Nat)(s:ByteArray)(a:Option Addr)(cap:Nat)(l:List Tk)(i d lv:Nat)(pl er:Int)(ts:List Sym)(hd:d<20)(VAL:∀(u:World) (j:Nat) (pl er:Int) (ts:List Sym),Rd u B s (.slice a l.length cap) j (d+1) pl er->TkIn u B a l->At s.data.toList l j ts->Calls Tryz.prog 111 #[(.pointer (some ⟨B,0,none⟩))] u (Res B s a cap l (d+1) (2*lv) u (pv lv ts)))
  (hr:Rd w B s (.slice a l.length cap) i d pl er) (ht:TkIn w B a l) (g:Good s l) (hat:At s.data.toList l i ts) (h2:jK ts 91=true) :
  Calls Tryz.prog 111 #[(.pointer (some ⟨B,0,none⟩))] w (Res B s a cap l d (2*lv+2) w (pv (lv+1) ts)):=by
 have HT:=jd ht;have HG:=jd g;have HA:=jd hat;have V0:=jd (qS hr);have h1:=qV h2 (b:=123) (by decide);have H3:=jd h2;have HVL:=jd VAL;clear VAL
 have K1:∀u,Hid (VInv w B s a cap l i d pl er u)->Hid (Calls Tryz.prog 168 #[(.pointer (some ⟨B,0,none⟩)),.int .u8 123] u fun e w'=>e=.returned (.bool false)/\Below u.heap.size u w'):=fun u hu=>jd (by
  have:=jz u B s a cap l i d pl er ts 123 (by decide) (by decide) (ja hu).rd (ht.grown (ja hu).gr) g hat;rw [h1] at this;exact this)
 have K2:∀u,Hid (VInv w B s a cap l i d pl er u)->Hid (Calls Tryz.prog 168 #[(.pointer (some ⟨B,0,none⟩)),.int .u8 91] u fun e w'=>e=.returned (.bool true)/\Below u.heap.size u w'):=fun u hu=>jd (by
  have:=jz u B s a cap l i d pl er ts 91 (by decide) (by decide) (ja hu).rd (ht.grown (ja hu).gr) g hat;rw [h2] at this;exact this)
 clear hr ht g hat h1 h2
 suffices FIN:∀Post:Ending->World->Prop,Hid (∀e w',Res B s a cap l d (2*lv+2) w (pv (lv+1) ts) e w'->Post e w')->Calls Tryz.prog 111 #[(.pointer (some ⟨B,0,none⟩))] w Post from FIN _ (jd fun _ _ h=>h)
 intro Post HPost
 go_enter Tryz.func111,Tryz.ntmps111
 go_upto_region 1 with fail
 have p0:=Blk.cell (ja V0).pb 0 _ rfl;generalize (w.alloc (.cells #[(.pointer (some ⟨B,0,none⟩))] 108)).alloc (.cells #[.int .i64 0,.int .i64 0,.int .i64 0,.slice none 0 0] 59)=w0 at *
 go_cut [4,5] from 6 to 9 (fun s4 s5 wx=>s4=.bool false/\s5=.bool true/\Hid (VInv w B s a cap l i d pl er wx))
 case first=>
  go_region_with (first
   | (go_at_call_of 168 (Value.int IntKind.u8 123)
      refine(ja (K1 _ (by first | exact V0 | exact jd ((ja V0).below (below_drewN (Below.refl _ _) _)) | exact jd ((ja V0).below ((Below.refl _ _).drew))))).mono ?_
      rintro e w2 ⟨rfl,b2⟩
      have V2:=jd (((ja V0).below (below_drewN (Below.refl _ _) 1)).below b2);have p2:=Blk.cell (ja V2).pb 0 _ rfl;clear b2)
   | (go_at_call_of 168 (Value.int IntKind.u8 91)
      refine(ja (K2 _ V2)).mono ?_
      rintro e w3 ⟨rfl,b3⟩
      have V3:=jd ((ja V2).below b3);clear b3))
  all_goals
   go_wp2_with fail
   go_meet
   exact⟨rfl,rfl,V3⟩
 case rest=>
 obtain⟨rfl,rfl,V⟩:=hcut;clear K1 K2 V0 p0 w0;have p0:=Blk.cell (ja V).pb 0 _ rfl;obtain⟨x,r,rfl,hx⟩:=jZ (ja H3);have RES:=jd (jkA (lv:=lv) (r:=r) hx);have hlt:=(ja V).lt
 have KL:=jd (jhG wc B w.heap.size s a cap l i d pl er x r (pv lv) 5 (2*lv+1) 93 (by decide) (by decide) (by decide) (by decide) (by omega) (ja V).rd ((ja HT).grown (ja V).gr) (ja HG) (ja HA) p0 (by omega) (jb2 lv) (qJ lv)
  (fun u j pl er ts h1 h2 h3 h4=>jlk u B w.heap.size s a cap l j (d+1) pl er ts (pv lv) (2*lv+1) h1 h2 h3 h4 (fun u j pl er ts h1 h2 h3=>(ja HVL u j pl er ts h1 h2 h3).mono (fun e w' h=>h.to (Nat.le_succ _)))))
 have c3:=Blk.cell (ja V).rd 3 (.int .i64 (d:Int)) rfl;have j3:((d:Int) == 20)=false:=beq_false_of_ne (by omega);clear hx hlt HVL;generalize jE (pv lv) 93 5 x.2 (r.length+1) [] r=qq at *
 go_wp2_with fail
 refine(ja KL).mono ?_
 cases qq with
 | inl er1=>
  obtain⟨c,te⟩:=er1
  rintro e w2 ⟨g2,rfl,ib,db,rd2⟩
  dsimp only
  have hlt:=(ja V).lt;have zb:=Blk.grown (ja V).zb g2 (fun e=>by injection e with e;omega);obtain⟨z0,z1,z2,z3⟩:=Blk.cells4 zb;obtain⟨y0,y1,y2,y3⟩:=Blk.froz4 zb;have FE:=jd (qd (d:=d) (f:=2*lv+2) hlt (Nat.le_succ _) (ja V).gr g2 zb rd2);clear KL rd2 g2 zb V p0 hlt c3;go_wp2;obtain⟨FE1,FC⟩:=ja FE;refine jW (v:=.tuple #[(.agg #[.int .i64 0,.int .i64 0,.int .i64 0,.slice none 0 0]),.bool false]) FC (fun wF hF=>by obtain⟨f0,f1,f2,f3⟩:=hF;simp [results,Tryz.results111,go_sem,f0,f1,f2,f3]) rfl ?_
  refine ja HPost _ _ ?_
  rw [ja RES];exact FE1
 | inr tr=>
  obtain⟨v,r2⟩:=tr
  rintro e w2 ⟨g2,u0,u1,u2,u3,rfl,hL,ib,plb,erb,rd2,a2⟩
  dsimp only
  obtain⟨k0,a0,e0,pk,nk,ck,rfl,rfl,rfl,rfl⟩:=hL.form;have hlt:=(ja V).lt;have zb:=Blk.grown (ja V).zb g2 (fun e=>by injection e with e;omega);obtain⟨z0,z1,z2,z3⟩:=Blk.cells4 zb;obtain⟨y0,y1,y2,y3⟩:=Blk.froz4 zb;have FE:=jd (qW (d:=d) (f:=2*lv+2) hlt (Nat.le_succ _) (Blk.lt (ja V).zb) (ja V).gr g2 zb hL rd2 a2);clear KL rd2 g2 zb V p0 hlt c3 hL a2;go_wp2;obtain⟨FE1,FC⟩:=ja FE;refine jW (v:=.tuple #[.agg #[.int .i64 (k0:Int),.int .i64 (a0:Int),.int .i64 (e0:Int),.slice pk nk ck],.bool true]) FC (fun wF hF=>by obtain⟨f0,f1,f2,f3⟩:=hF;simp [results,Tryz.results111,go_sem,f0,f1,f2,f3]) rfl ?_
  refine ja HPost _ _ ?_
  rw [ja RES];exact FE1
open Go.RowKit
open toks
theorem jik (w:World)(B:Nat)(s:ByteArray)(a:Option Addr)(cap:Nat)(l:List Tk)(i d lv:Nat)(pl er:Int)(ts:List Sym)(hd:d<20)
  (hr:Rd w B s (.slice a l.length cap) i d pl er) (ht:TkIn w B a l) (g:Good s l) (hat:At s.data.toList l i ts) (h3:jK ts 120=true) :
  Calls Tryz.prog 111 #[(.pointer (some ⟨B,0,none⟩))] w (Res B s a cap l d (2*lv+2) w (pv (lv+1) ts)):=by
 have HT:=jd ht;have HG:=jd g;have HA:=jd hat;have V0:=jd (qS hr);have h1:=qV h3 (b:=123) (by decide);have h2:=qV h3 (b:=91) (by decide);have H3:=jd h3;clear h3
 have K1:∀u,Hid (VInv w B s a cap l i d pl er u)->Hid (Calls Tryz.prog 168 #[(.pointer (some ⟨B,0,none⟩)),.int .u8 123] u fun e w'=>e=.returned (.bool false)/\Below u.heap.size u w'):=fun u hu=>jd (by
  have:=jz u B s a cap l i d pl er ts 123 (by decide) (by decide) (ja hu).rd (ht.grown (ja hu).gr) g hat;rw [h1] at this;exact this)
 have K2:∀u,Hid (VInv w B s a cap l i d pl er u)->Hid (Calls Tryz.prog 168 #[(.pointer (some ⟨B,0,none⟩)),.int .u8 91] u fun e w'=>e=.returned (.bool false)/\Below u.heap.size u w'):=fun u hu=>jd (by
  have:=jz u B s a cap l i d pl er ts 91 (by decide) (by decide) (ja hu).rd (ht.grown (ja hu).gr) g hat;rw [h2] at this;exact this)
 clear hr ht g hat h1 h2
 suffices FIN:∀Post:Ending->World->Prop,Hid (∀e w',Res B s a cap l d (2*lv+2) w (pv (lv+1) ts) e w'->Post e w')->Calls Tryz.prog 111 #[(.pointer (some ⟨B,0,none⟩))] w Post from FIN _ (jd fun _ _ h=>h)
 intro Post HPost
 go_enter Tryz.func111,Tryz.ntmps111
 go_upto_region 1 with fail
 have p0:=Blk.cell (ja V0).pb 0 _ rfl;generalize (w.alloc (.cells #[(.pointer (some ⟨B,0,none⟩))] 108)).alloc (.cells #[.int .i64 0,.int .i64 0,.int .i64 0,.slice none 0 0] 59)=w0 at *
 go_cut [4,5] from 6 to 9 (fun s4 s5 wx=>s4=.bool false/\s5=.bool false/\Hid (VInv w B s a cap l i d pl er wx))
 case first=>
  go_region_with (first
   | (go_at_call_of 168 (Value.int IntKind.u8 123)
      refine(ja (K1 _ (by first | exact V0 | exact jd ((ja V0).below (below_drewN (Below.refl _ _) _)) | exact jd ((ja V0).below ((Below.refl _ _).drew))))).mono ?_
      rintro e w2 ⟨rfl,b2⟩
      have V2:=jd (((ja V0).below (below_drewN (Below.refl _ _) 1)).below b2);have p2:=Blk.cell (ja V2).pb 0 _ rfl;clear b2)
   | (go_at_call_of 168 (Value.int IntKind.u8 91)
      refine(ja (K2 _ V2)).mono ?_
      rintro e w3 ⟨rfl,b3⟩
      have V3:=jd ((ja V2).below b3);clear b3))
  all_goals
   go_wp2_with fail
   go_meet
   exact⟨rfl,rfl,V3⟩
 case rest=>
 obtain⟨rfl,rfl,V⟩:=hcut;clear K1 K2 V0 p0 w0;have p0:=Blk.cell (ja V).pb 0 _ rfl;have KO:=jd (Jg wc B s a cap l i d pl er ts (ja V).rd ((ja HT).grown (ja V).gr) (ja HG) (ja HA));rw [ja H3] at KO
 go_wp2_with fail
 refine(ja KO).mono ?_
 rintro e wd ⟨rfl,bd⟩
 dsimp only
 have Vd:=jd ((ja V).below bd);clear KO bd p0 V;have V:=Vd;clear Vd;have p0:=Blk.cell (ja V).pb 0 _ rfl;clear wc;generalize wd=wc at *;obtain⟨x,r,rfl,hx⟩:=jZ (ja H3);have RES:=jd (jjQ (lv:=lv) (r:=r) hx);obtain⟨hi,hx2,hn⟩:=JL (ja HA);have KL:=jd (jf2 wc B s a cap l i d pl er 1 (by decide) (ja V).rd ((ja HT).grown (ja V).gr) (ja HG) hi);have HX2:=jd hx2;have HN:=jd hn;have c3:=Blk.cell (ja V).rd 3 (.int .i64 (d:Int)) rfl;have j3:((d:Int) == 20)=false:=beq_false_of_ne (by omega);clear hx hx2 hn hi
 go_wp2_with fail
 refine(ja KL).mono ?_
 rintro e w2 ⟨i2,rfl,n2,rd2,g2⟩
 dsimp only
 have hlt:=(ja V).lt;have zb:=Blk.grown (ja V).zb g2 (fun e=>by injection e with e;omega);obtain⟨z0,z1,z2,z3⟩:=Blk.cells4 zb;obtain⟨y0,y1,y2,y3⟩:=Blk.froz4 zb;have FE:=jd (qW (d:=d) (f:=2*lv+2) hlt (Nat.le_succ _) (Blk.lt (ja V).zb) (ja V).gr g2 zb (jbE _ (2*lv+1) w2 1 i (i+1)) rd2 (ja HN _ n2));rw [show((i+1:Nat):Int)=(i:Int)+1 by omega] at FE;clear KL rd2 g2 zb V p0 hlt n2 c3;go_wp2;obtain⟨FE1,FC⟩:=ja FE;refine jW (v:=.tuple #[.agg #[.int .i64 1,.int .i64 (i:Int),.int .i64 ((i:Int)+1),.slice none 0 0],.bool true]) FC (fun wF hF=>by obtain⟨f0,f1,f2,f3⟩:=hF;simp [results,Tryz.results111,go_sem,f0,f1,f2,f3]) rfl ?_
 refine ja HPost _ _ ?_
 rw [ja RES,ja HX2];exact FE1
open Go.RowKit
open toks
theorem jbt (B:Nat)(s:ByteArray)(a:Option Addr)(cap:Nat)(l:List Tk)(g:Good s l):∀(lv d:Nat),d+lv=20->∀(u:World) (j:Nat) (pl er:Int) (ts:List Sym),Rd u B s (.slice a l.length cap) j d pl er->TkIn u B a l->At s.data.toList l j ts->Calls Tryz.prog 111 #[(.pointer (some ⟨B,0,none⟩))] u (Res B s a cap l d (2*lv) u (pv lv ts))
 | 0,d,hd,u,j,pl,er,ts,h1,h2,h3=>by
  obtain rfl:d=20:=by omega
  cases c1:jK ts 123 with
  | true=>exact jiY u B s a cap l j _ pl er ts h1 h2 g h3 c1
  | false=>
   cases c2:jK ts 91 with
   | true=>exact jiO u B s a cap l j _ pl er ts h1 h2 g h3 c2
   | false=>
    cases c3:jK ts 120 with
    | true=>exact jh1 u B s a cap l j _ pl er ts h1 h2 g h3 c3
    | false=>exact jfY u B s a cap l j 20 0 _ pl er ts h1 h2 g h3 c1 c2 c3
 | lv+1,d,hd,u,j,pl,er,ts,h1,h2,h3=>by
  have ih:=jbt B s a cap l g lv (d+1) (by omega);cases c1:jK ts 123 with
  | true=>exact jjq u B s a cap l j d lv pl er ts (by omega) ih h1 h2 g h3 c1
  | false=>
   cases c2:jK ts 91 with
   | true=>exact jh0 u B s a cap l j d lv pl er ts (by omega) ih h1 h2 g h3 c2
   | false=>
    cases c3:jK ts 120 with
    | true=>exact jik u B s a cap l j d lv pl er ts (by omega) h1 h2 g h3 c3
    | false=>exact jfY u B s a cap l j d (lv+1) _ pl er ts h1 h2 g h3 c1 c2 c3
open Go.RowKit
open toks
theorem jjV {w:World}{a:Option Addr}{l:List Tk}(h:RowT w a l)(o:Obj):TkIn (w.alloc o) w.heap.size a l:=by
 intro h0;have h':=h.below ((Below.refl _ w).alloc (Nat.le_refl _) o) h0;obtain⟨b,o',e,hb,hc⟩:=h h0;obtain⟨b2,o2,e2,_,hc2⟩:=h';rw [e] at e2;injection e2 with e2;injection e2 with e3 e4;subst e3 e4;exact⟨b,o',e,hb,hc2⟩
theorem jaJ (w:World)(s:ByteArray)(a:Option Addr)(cap:Nat)(l:List Tk)(hrow:RowT w a l)(g:Good s l) :
  Calls Tryz.prog 58 #[.string s,.slice a l.length cap] w fun e w'=>∃j,e=.returned (.pointer (some ⟨w.heap.size,0,none⟩))/\Nxt l 0 j/\Rd w' w.heap.size s (.slice a l.length cap) j 0 0 0/\TkIn w' w.heap.size a l/\Below w.heap.size w w':=by
 have rd0:Rd (w.alloc (.cells #[.string s,.slice a l.length cap,.int .i64 0,.int .i64 0,.int .i64 0,.int .i64 0] 113)) w.heap.size s (.slice a l.length cap) 0 0 0 0:=jf w _ _;have tk0:=jjV hrow (.cells #[.string s,.slice a l.length cap,.int .i64 0,.int .i64 0,.int .i64 0,.int .i64 0] 113);have K:=jd (jdT _ w.heap.size s a cap l 0 0 0 0 0 rd0 tk0 g (Nat.zero_le _));have TK:=jd tk0;have b0:=jd ((Below.refl _ w).alloc (Nat.le_refl _) (.cells #[.string s,.slice a l.length cap,.int .i64 0,.int .i64 0,.int .i64 0,.int .i64 0] 113));clear rd0 tk0 hrow g
 go_enter Tryz.func58,Tryz.ntmps58
 go_wp2_with fail
 refine(ja K).mono ?_
 rintro e w2 ⟨j,rfl,h1,h2,h3⟩
 dsimp only
 have R:Hid (Nxt l 0 j/\Rd w2 w.heap.size s (.slice a l.length cap) j 0 0 0/\TkIn w2 w.heap.size a l/\Below w.heap.size w w2):=jd ⟨h1,h2,(ja TK).grown h3,(ja b0).grown h3 (by simp) (fun k hk=>by injection hk with hk;omega)⟩;clear K h1 h2 h3 TK b0;go_wp2;go_ret;exact⟨j,rfl,ja R⟩
def QU (n:Nat)(ts:List Sym):R :=
 match pd ts with
 | .inl e=>.inl e
 | .inr (t,_)=>.inr (nd 6 0 n [t],[])
theorem jjl {n:Nat}{ts:List Sym}{e:Nat×List Sym}(h:pv 20 ts=.inl e):QU n ts=.inl e:=by
 unfold QU pd;rw [h]
theorem jgz {n:Nat}{ts r:List Sym}{t:T}{y:Sym}(h:pv 20 ts=.inr (t,y :: r)):QU n ts=.inl (4,y :: r):=by
 unfold QU pd;rw [h]
theorem jgj {n:Nat}{ts:List Sym}{t:T}(h:pv 20 ts=.inr (t,[])):QU n ts=.inr (nd 6 0 n [t],[]):=by
 unfold QU pd;rw [h]
theorem jjp {ok:Nat->Prop}{f:Nat}{w:World}{S:Nat}{k a e:Nat}{u0 u1 u2 u3:Value}{v:T}{t:TypeId}(hS:Blk w S #[u0,u1,u2,u3] t)(hok:ok S)(hv:Lies ok f w [u0,u1,u2,u3] v) :
  Lies ok (f+1) w [.int .i64 (k:Int),.int .i64 (a:Int),.int .i64 (e:Int),.slice (some ⟨S,0,none⟩) 1 1] (nd k a e [v]):=by
 refine⟨k,a,e,[v],some ⟨S,0,none⟩,1,rfl,rfl,Nat.le_refl _,fun _=>⟨S,0,rfl,hok,Blk.lt hS,fun j hj=>?_⟩⟩
 match j,hj with
 | 0,_=>
  refine⟨[u0,u1,u2,u3],rfl,fun m hm=>?_,hv⟩
  match m,hm with
  | 0,_=>exact Blk.cell hS 0 _ rfl
  | 1,_=>exact Blk.cell hS 1 _ rfl
  | 2,_=>exact Blk.cell hS 2 _ rfl
  | 3,_=>exact Blk.cell hS 3 _ rfl
theorem jca (w:World)(B:Nat)(s:ByteArray)(a:Option Addr)(cap:Nat)(l:List Tk)(i:Nat)(pl er:Int)(ts:List Sym)
  (hr:Rd w B s (.slice a l.length cap) i 0 pl er) (ht:TkIn w B a l) (g:Good s l) (hat:At s.data.toList l i ts) :
  Calls Tryz.prog 59 #[(.pointer (some ⟨B,0,none⟩))] w (Res B s a cap l 0 41 w (QU l.length ts)):=by
 have hB:=Blk.lt hr;have bz:Below w.heap.size w ((World.alloc w (.cells #[.int .i64 0,.int .i64 0,.int .i64 0,.slice none 0 0] 59))):=(Below.refl _ w).alloc (Nat.le_refl _) _;have KV:=jd (jbt B s a cap l g 20 0 rfl ((World.alloc w (.cells #[.int .i64 0,.int .i64 0,.int .i64 0,.slice none 0 0] 59))) i pl er ts (hr.below bz) (ht.below bz) hat);have HT:=jd ht;have HG:=jd g;have HZ:=jd (jf w #[.int .i64 0,.int .i64 0,.int .i64 0,.slice none 0 0] 59);have HGZ:=jd (ju (jC w (some B)) (.cells #[.int .i64 0,.int .i64 0,.int .i64 0,.slice none 0 0] 59));have hz0:((World.alloc w (.cells #[.int .i64 0,.int .i64 0,.int .i64 0,.slice none 0 0] 59))).heap.size=w.heap.size+1:=by simp
 have HB:=jd hB;have hl:=g.len;clear hr ht hat hB bz g
 suffices FIN:∀Post:Ending->World->Prop,Hid (∀e w',Res B s a cap l 0 41 w (QU l.length ts) e w'->Post e w')->Calls Tryz.prog 59 #[(.pointer (some ⟨B,0,none⟩))] w Post from FIN _ (jd fun _ _ h=>h)
 intro Post HPost
 go_enter Tryz.func59,Tryz.ntmps59
 go_wp2_with fail
 generalize (World.alloc w (.cells #[.int .i64 0,.int .i64 0,.int .i64 0,.slice none 0 0] 59))=w0 at *;cases hq:pv 20 ts with
 | inl er1=>
  obtain⟨c,te⟩:=er1;have RES:=jd (jjl (n:=l.length) hq);rw [hq] at KV;clear hq;refine(ja KV).mono ?_
  rintro e w7 ⟨g7,rfl,ib,db,rb⟩
  dsimp only
  have g8:=ju g7 (.cells #[.int .i64 0,.int .i64 0,.int .i64 0,.slice none 0 0] 59);have zb:=Blk.grown (ja HZ) g8 (fun e=>by injection e with e;have:=ja HB;omega);obtain⟨z0,z1,z2,z3⟩:=Blk.cells4 zb;obtain⟨y0,y1,y2,y3⟩:=Blk.froz4 zb;have FE:=jd (qd (d:=0) (f:=41) (ja HB) (Nat.le_refl _) (ja HGZ) g8 zb (Blk.alloc rb _));clear KV g7 g8 rb zb;go_wp2;obtain⟨FE1,FC⟩:=ja FE;refine jW (v:=.tuple #[(.agg #[.int .i64 0,.int .i64 0,.int .i64 0,.slice none 0 0]),.bool false]) FC (fun wF hF=>by obtain⟨f0,f1,f2,f3⟩:=hF;simp [results,Tryz.results59,go_sem,f0,f1,f2,f3]) rfl ?_
  refine ja HPost _ _ ?_
  rw [ja RES];exact FE1
 | inr tr=>
  obtain⟨t,rest⟩:=tr;have HQ:=jd hq;rw [hq] at KV;clear hq;refine(ja KV).mono ?_
  rintro e w7 ⟨g7,u0,u1,u2,u3,rfl,hL,ib,plb,erb,rb,ab⟩
  dsimp only
  obtain⟨k0,a0,e0,pk,nk,ck,rfl,rfl,rfl,rfl⟩:=hL.form;have b8:Below w7.heap.size w7 (w7.alloc (.cells #[.int .i64 (k0:Int),.int .i64 (a0:Int),.int .i64 (e0:Int),.slice pk nk ck] 59)):=(Below.refl _ w7).alloc (Nat.le_refl _) _;have rb8:=rb.below b8;have c1:=Blk.cell rb8 1 _ rfl;have c2:=Blk.cell rb8 2 _ rfl;have g8:=jj g7 (jI b8);have zb:=Blk.grown (ja HZ) g8 (fun e=>by injection e with e;have:=ja HB;omega);have vb:=jf w7 #[.int .i64 (k0:Int),.int .i64 (a0:Int),.int .i64 (e0:Int),.slice pk nk ck] 59;have hL8:=hL.below b8;have RB8:=jd rb8;have G8:=jd g8;have ZB8:=jd zb;have VB8:=jd vb;have HL8:=jd hL8;have hs8:w0.heap.size<=w7.heap.size:=g7.size;cases rest with
  | cons y r=>
   have RES:=jd (jgz (n:=l.length) (ja HQ));obtain⟨hi,_,_⟩:=JL ab;have i1:(ib:Int)<(l.length:Int):=by omega
   have KR:=fun n:Nat=>jd (jT ((w7.alloc (.cells #[.int .i64 (k0:Int),.int .i64 (a0:Int),.int .i64 (e0:Int),.slice pk nk ck] 59)).drewN n) B s a cap l ib 0 plb erb (y :: r) 4 (by decide) (rb8.below (below_drewN (Below.refl _ _) n)) (((ja HT).grown (jj (ja HGZ) g8)).below (below_drewN (Below.refl _ _) n)) (ja HG) ab)
   clear KV g7 rb ab hL rb8 g8 zb vb hL8 b8 HQ HL8 VB8
   go_wp2_with fail
   generalize hw8:w7.alloc (.cells #[.int .i64 (k0:Int),.int .i64 (a0:Int),.int .i64 (e0:Int),.slice pk nk ck] 59)=w8 at *;clear hw8
   go_quiet (fail)
   go_wp2_with fail
   refine(ja (KR nq)).mono ?_
   rintro e w9 ⟨rfl,rd9,g9⟩
   dsimp only
   have g9':w0.grownBy w9 (some B):=jj (jj (ja G8) (Qp (jC w8 _) nq)) g9;have zb:=Blk.grown (ja HZ) g9' (fun e=>by injection e with e;have:=ja HB;omega);obtain⟨z0,z1,z2,z3⟩:=Blk.cells4 zb;obtain⟨y0,y1,y2,y3⟩:=Blk.froz4 zb;have FE:=jd (qd (d:=0) (f:=41) (ja HB) (Nat.le_refl _) (ja HGZ) g9' zb rd9);clear KR rd9 g9 g9' zb;go_wp2;obtain⟨FE1,FC⟩:=ja FE;refine jW (v:=.tuple #[(.agg #[.int .i64 0,.int .i64 0,.int .i64 0,.slice none 0 0]),.bool false]) FC (fun wF hF=>by obtain⟨f0,f1,f2,f3⟩:=hF;simp [results,Tryz.results59,go_sem,f0,f1,f2,f3]) rfl ?_
   refine ja HPost _ _ ?_
   rw [ja RES];exact FE1
  | nil=>
   have RES:=jd (jgj (n:=l.length) (ja HQ));have hib:=jcg ab;have i1:¬(ib:Int)<(l.length:Int):=by omega
   have d1:decide ((ib:Int)<(l.length:Int))=false:=decide_eq_false i1;have AB:=jd ab;clear KV g7 rb ab hL rb8 g8 zb vb hL8 b8 HQ hib
   go_wp2_with fail
   generalize hw8:w7.alloc (.cells #[.int .i64 (k0:Int),.int .i64 (a0:Int),.int .i64 (e0:Int),.slice pk nk ck] 59)=w8 at *;clear hw8
   go_quiet (fail)
   obtain⟨j0,j1,j2,j3⟩:=Blk.cells4 (ja VB8);have ba:∀n:Nat,Below w8.heap.size w8 ((w8.drewN n).alloc (.cells #[.int .i64 (k0:Int),.int .i64 (a0:Int),.int .i64 (e0:Int),.slice pk nk ck] 59)):=fun n=>(below_drewN (Below.refl _ _) n).alloc (Nat.le_refl _) _
   have zn:=fun n=>Blk.below (ja ZB8) (ba n)
   have z0:=fun n=>Blk.cell (zn n) 0 _ rfl
   have z1:=fun n=>Blk.cell (zn n) 1 _ rfl
   have z2:=fun n=>Blk.cell (zn n) 2 _ rfl
   have z3:=fun n=>Blk.cell (zn n) 3 _ rfl
   have y0:=fun n=>Blk.froz (zn n) 0
   have y1:=fun n=>Blk.froz (zn n) 1
   have y2:=fun n=>Blk.froz (zn n) 2
   have y3:=fun n=>Blk.froz (zn n) 3
   have d1':=fun n=>Blk.cell ((ja RB8).below (ba n)) 1 (.slice a l.length cap) rfl
   have bS:=jf (w8.drewN (nq+1)) #[.int .i64 (k0:Int),.int .i64 (a0:Int),.int .i64 (e0:Int),.slice pk nk ck] 59;have LO:=jjp (k:=6) (a:=0) (e:=l.length) bS (show w0.heap.size<=w8.heap.size from (ja G8).size) ((ja HL8).below (ba (nq+1)));have FE:=jd (qW (d:=0) (f:=41) (ja HB) (Nat.le_refl _) (by omega) (ja HGZ) (jj (ja G8) (jI (ba (nq+1)))) (zn (nq+1)) LO ((ja RB8).below (ba (nq+1))) (ja AB));clear zn ba bS LO
   go_wp2_with fail
   go_region
   clear z0 z1 z2 z3 y0 y1 y2 y3 d1' j0 j1 j2 j3 c1 c2;go_wp2;obtain⟨FE1,FC⟩:=ja FE;refine jW (v:=.tuple #[.agg #[.int .i64 6,.int .i64 0,.int .i64 (l.length:Int),.slice (some ⟨w8.heap.size,0,none⟩) 1 1],.bool true]) FC (fun wF hF=>by obtain⟨f0,f1,f2,f3⟩:=hF;simp [results,Tryz.results59,go_sem,f0,f1,f2,f3]) rfl ?_
   refine ja HPost _ _ ?_
   rw [ja RES];exact FE1
open Go.RowKit
open toks
def PR (s:ByteArray)(l:List Tk)(q:R)(w:World)(e:Ending)(w':World):Prop :=
 Below w.heap.size w w'/\
 match q with
 | .inl (c,ts)=>e=.returned (.tuple #[(.agg #[.int .i64 0,.int .i64 0,.int .i64 0,.slice none 0 0]),.int .i64 (qP s l ts:Int),.int .i64 (c:Int)])
 | .inr (t,_)=>∃u0 u1 u2 u3,e=.returned (.tuple #[.agg #[u0,u1,u2,u3],.int .i64 0,.int .i64 0])/\Lies (fun b=>w.heap.size<=b) 41 w' [u0,u1,u2,u3] t
theorem Zl {n:Nat}{w w':World}{R0:Nat}(h:Below n w w')(hn:n<=R0)(u0 u1 u2 u3:Value):Below n w (zH w' R0 u0 u1 u2 u3) :=
 (((h.setCell (p:=⟨R0,0,none⟩) hn u0).setCell (p:=⟨R0,1,none⟩) hn u1).setCell (p:=⟨R0,2,none⟩) hn u2).setCell (p:=⟨R0,3,none⟩) hn u3
theorem jkg (s:ByteArray){j:Nat}(h:Nxt (jv s.data.toList) 0 j):At s.data.toList (jv s.data.toList) j (q7 s.data.toList):=by
 have:=h.at (L:=s.data.toList);rw [List.drop_zero] at this;exact this
theorem jdC {w:World}{b:Nat}{u0 u1 u2 u3:Value}(h:Cells4 w b u0 u1 u2 u3):Cells4 w.drew b u0 u1 u2 u3:=⟨h.c0,h.c1,h.c2,h.c3⟩
theorem jgZ {P:Program}{fn:Func}{Post:Ending->World->Prop}{a:Act}{w:World}{R0:Nat}{u0 u1 u2 u3 v:Value}(hc:Cells4 w R0 u0 u1 u2 u3)(hr:∀wF,Cells4 wF R0 u0 u1 u2 u3->(results fn a.tmps).run P wF=.ok v wF)(hd:a.defers=[])(hP:Post (.returned v) w):bodyPost P fn Post .ret a w :=
 bodyPost_ret (hr _ hc) hd hP
theorem jdj (w:World)(s:ByteArray)(hs:20000<s.size) :
  Calls Tryz.prog 29 #[.string s] w fun e w'=>e=.returned (.tuple #[(.agg #[.int .i64 0,.int .i64 0,.int .i64 0,.slice none 0 0]),.int .i64 0,.int .i64 2])/\Below w.heap.size w w':=by
 have K1:=jd (jgG s ((World.alloc w (.cells #[.int .i64 0,.int .i64 0,.int .i64 0,.slice none 0 0] 59))) hs);have zb:=jf w #[.int .i64 0,.int .i64 0,.int .i64 0,.slice none 0 0] 59;have bz:Below w.heap.size w ((World.alloc w (.cells #[.int .i64 0,.int .i64 0,.int .i64 0,.slice none 0 0] 59))):=(Below.refl _ w).alloc (Nat.le_refl _) _;obtain⟨z0,z1,z2,z3⟩:=Blk.cells4 zb;obtain⟨y0,y1,y2,y3⟩:=Blk.froz4 zb;have FC:=jd (Blk.cells4 (qC zb (.int .i64 0) (.int .i64 0) (.int .i64 0) (.slice none 0 0)));have FB:=jd (Zl bz (Nat.le_refl _) (.int .i64 0) (.int .i64 0) (.int .i64 0) (.slice none 0 0));clear hs zb bz
 go_enter Tryz.func29,Tryz.ntmps29
 go_wp2_with fail
 generalize (World.alloc w (.cells #[.int .i64 0,.int .i64 0,.int .i64 0,.slice none 0 0] 59))=w0 at *;refine(ja K1).mono ?_
 rintro e w1 ⟨rfl,hw⟩
 rw [hw]
 dsimp only
 clear hw K1;go_wp2;refine jW (v:=.tuple #[(.agg #[.int .i64 0,.int .i64 0,.int .i64 0,.slice none 0 0]),.int .i64 0,.int .i64 2]) (ja FC) (fun wF hF=>by obtain⟨f0,f1,f2,f3⟩:=hF;simp [results,Tryz.results29,go_sem,f0,f1,f2,f3]) rfl ?_
 exact⟨rfl,ja FB⟩
theorem jbA (w:World)(s:ByteArray)(hs:s.size<=20000)(hM:MaxOk w) :
  Calls Tryz.prog 29 #[.string s] w (PR s (jv s.data.toList) (QU (jv s.data.toList).length (q7 s.data.toList)) w):=by
 have bz:Below w.heap.size w ((World.alloc w (.cells #[.int .i64 0,.int .i64 0,.int .i64 0,.slice none 0 0] 59))):=(Below.refl _ w).alloc (Nat.le_refl _) _;have K1:=jd (jfQ s ((World.alloc w (.cells #[.int .i64 0,.int .i64 0,.int .i64 0,.slice none 0 0] 59))) hs (hM.below (Nat.le_refl _) bz));have zb:=jd (jf w #[.int .i64 0,.int .i64 0,.int .i64 0,.slice none 0 0] 59);have BZ:=jd bz;have hz0:((World.alloc w (.cells #[.int .i64 0,.int .i64 0,.int .i64 0,.slice none 0 0] 59))).heap.size=w.heap.size+1:=by simp
 have g:=jd (good s hs);have AT:=jd (fun j=>jkg s (j:=j));clear hM bz;generalize q7 s.data.toList=ts at *;generalize jv s.data.toList=l at *
 suffices FIN:∀Post:Ending->World->Prop,Hid (∀e w',PR s l (QU l.length ts) w e w'->Post e w')->Calls Tryz.prog 29 #[.string s] w Post from FIN _ (jd fun _ _ h=>h)
 intro Post HPost
 go_enter Tryz.func29,Tryz.ntmps29
 go_wp2_with fail
 generalize (World.alloc w (.cells #[.int .i64 0,.int .i64 0,.int .i64 0,.slice none 0 0] 59))=w0 at *;refine(ja K1).mono ?_
 rintro e w1 ⟨v,rfl,⟨a,cap,rfl,hcap,row⟩,b1⟩
 dsimp only
 have K2:=jd (jaJ w1 s a cap l row (ja g));have B1:=jd ((ja BZ).trans (b1.mono (ja BZ).size));have zb1:=jd (Blk.below (ja zb) b1);have hs1:w0.heap.size<=w1.heap.size:=b1.size;clear K1 row b1 zb BZ
 go_wp2_with fail
 refine(ja K2).mono ?_
 rintro e w2 ⟨j,rfl,nx,rd,tk,b2⟩
 dsimp only
 have K3:=jd (jca w2 w1.heap.size s a cap l j 0 0 ts rd tk (ja g) (ja AT j nx));have B2:=jd ((ja B1).trans (b2.mono (ja B1).size));have zb2:=jd (Blk.below (ja zb1) b2);have hs2:w1.heap.size<=w2.heap.size:=b2.size;clear K2 rd tk nx b2 B1 zb1 AT
 go_wp2_with fail
 refine(ja K3).mono ?_
 generalize QU l.length ts=qq at *;cases qq with
 | inl er1=>
  obtain⟨c,te⟩:=er1
  rintro e w3 ⟨g3,rfl,ib,db,rb⟩
  dsimp only
  have B3:=((ja B2).grown g3 (ja B2).size (fun k hk=>by injection hk with hk;omega)).alloc (Nat.le_trans (ja B2).size g3.size) (.cells #[.int .i64 0,.int .i64 0,.int .i64 0,.slice none 0 0] 59);have zb3:=Blk.alloc (Blk.grown (ja zb2) g3 (fun e=>by injection e with e;omega)) (.cells #[.int .i64 0,.int .i64 0,.int .i64 0,.slice none 0 0] 59);have rb3:Rd ((World.alloc w3 (.cells #[.int .i64 0,.int .i64 0,.int .i64 0,.slice none 0 0] 59))) w1.heap.size s (.slice a l.length cap) ib db _ _:=Blk.alloc rb _;have c4:=Blk.cell rb3 4 _ rfl;have c5:=Blk.cell rb3 5 _ rfl;have HB3:=jd B3;have HZ3:=jd zb3;clear K3 g3 rb B3 zb3 rb3 B2 zb2
  go_wp2_with fail
  generalize (World.alloc w3 (.cells #[.int .i64 0,.int .i64 0,.int .i64 0,.slice none 0 0] 59))=w4 at *;obtain⟨z0,z1,z2,z3⟩:=Blk.cells4 (ja HZ3);obtain⟨y0,y1,y2,y3⟩:=Blk.froz4 (ja HZ3);have FC:=jd (Blk.cells4 (qC (ja HZ3) (.int .i64 0) (.int .i64 0) (.int .i64 0) (.slice none 0 0)));have FB:=jd (Zl (ja HB3) (Nat.le_refl _) (.int .i64 0) (.int .i64 0) (.int .i64 0) (.slice none 0 0))
  go_region
  clear z0 z1 z2 z3 y0 y1 y2 y3 c4 c5;go_wp2;refine jgZ (v:=.tuple #[(.agg #[.int .i64 0,.int .i64 0,.int .i64 0,.slice none 0 0]),.int .i64 (qP s l te:Int),.int .i64 (c:Int)]) (jdC (ja FC)) (fun wF hF=>by obtain⟨f0,f1,f2,f3⟩:=hF;simp [results,Tryz.results29,go_sem,f0,f1,f2,f3]) rfl ?_
  exact ja HPost _ _ ⟨(ja FB).drew,rfl⟩
 | inr tr=>
  obtain⟨t,rest⟩:=tr
  rintro e w3 ⟨g3,u0,u1,u2,u3,rfl,hL,ib,plb,erb,rb,ab⟩
  dsimp only
  obtain⟨k0,a0,e0,pk,nk,ck,rfl,rfl,rfl,rfl⟩:=hL.form;have b8:Below w3.heap.size w3 (w3.alloc (.cells #[.int .i64 (k0:Int),.int .i64 (a0:Int),.int .i64 (e0:Int),.slice pk nk ck] 59)):=(Below.refl _ w3).alloc (Nat.le_refl _) _;have B3:=((ja B2).grown g3 (ja B2).size (fun k hk=>by injection hk with hk;omega)).alloc (Nat.le_trans (ja B2).size g3.size) (.cells #[.int .i64 (k0:Int),.int .i64 (a0:Int),.int .i64 (e0:Int),.slice pk nk ck] 59);have zb3:=Blk.alloc (Blk.grown (ja zb2) g3 (fun e=>by injection e with e;omega)) (.cells #[.int .i64 (k0:Int),.int .i64 (a0:Int),.int .i64 (e0:Int),.slice pk nk ck] 59);obtain⟨j0,j1,j2,j3⟩:=Blk.cells4 (jf w3 #[.int .i64 (k0:Int),.int .i64 (a0:Int),.int .i64 (e0:Int),.slice pk nk ck] 59);obtain⟨z0,z1,z2,z3⟩:=Blk.cells4 zb3;obtain⟨y0,y1,y2,y3⟩:=Blk.froz4 zb3
  have FC:=jd (Blk.cells4 (qC zb3 (.int .i64 (k0:Int)) (.int .i64 (a0:Int)) (.int .i64 (e0:Int)) (.slice pk nk ck)));have FB:=jd (Zl B3 (Nat.le_refl _) (.int .i64 (k0:Int)) (.int .i64 (a0:Int)) (.int .i64 (e0:Int)) (.slice pk nk ck));have FL:=jd ((jbQ (R0:=w.heap.size) (hL.below b8) (fun b hb=>by omega) (.int .i64 (k0:Int)) (.int .i64 (a0:Int)) (.int .i64 (e0:Int)) (.slice pk nk ck)).weaken (ok':=fun b=>w.heap.size<=b) (fun b hb=>by omega));clear K3 g3 rb B3 zb3 B2 zb2 b8 hL ab;go_wp2;refine jW (v:=.tuple #[.agg #[.int .i64 (k0:Int),.int .i64 (a0:Int),.int .i64 (e0:Int),.slice pk nk ck],.int .i64 0,.int .i64 0]) (ja FC) (fun wF hF=>by obtain⟨f0,f1,f2,f3⟩:=hF;simp [results,Tryz.results29,go_sem,f0,f1,f2,f3]) rfl ?_
  exact ja HPost _ _ ⟨ja FB,_,_,_,_,rfl,ja FL⟩
open Go.RowKit
open toks
theorem jef (s:ByteArray)(hs:s.size<=20000):(q7 s.data.toList).length<=20000:=by
 have h1:=jb5 s.data.toList (jv s.data.toList) 0;have h2:=(good s hs).len;exact Nat.le_trans h1 h2
end trees
end Go.Proofs.YtnbfnjhbmeocfaaGreatDoor
