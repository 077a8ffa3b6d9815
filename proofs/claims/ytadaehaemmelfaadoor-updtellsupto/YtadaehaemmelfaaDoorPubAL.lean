/- Of our texts, what this claim reaches. -/
import Derived.Test.YtadaehaemmelfaaDoorPubAK
import Derived.Lib.ItoaNum
import Derived.Test.YtadaehaemmelfaaDoorPubAE
import Derived.Test.YtadaehaemmelfaaDoorPubAI
import Derived.Lib.AppendIntMem
import Derived.Lib.Walk
import Derived.BigCall
import Derived.BigGuard
import Derived.WalkSmall
import Derived.OwnWalk
set_option linter.unusedVariables false
set_option maxHeartbeats 2000000
set_option maxRecDepth 100000
namespace Go.Proofs.YtadaehaemmelfaaDoor
namespace escs
open Go.RowKit
open utfs
def Kept (b:Nat)(w w':World):Prop:=Lib.OthersKept 5 (some b) w w'
theorem Kept.trans {b:Nat}{w1 w2 w3:World}(h1:Kept b w1 w2)(h2:Kept b w2 w3):Kept b w1 w3:=Lib.OthersKept.trans h1 h2
end escs
namespace utfs
open Go.RowKit
theorem qK (n:Int)(w:World):Calls Tryd.prog 67 #[.int .i64 n] w fun e w'=>e=.returned (.bool (sc n))/\w'=w:=by
 have key:∀b:Bool,sc n=b->Calls Tryd.prog 67 #[.int .i64 n] w (fun e w'=>e=.returned (.bool b)/\w'=w)->Calls Tryd.prog 67 #[.int .i64 n] w (fun e w'=>e=.returned (.bool (sc n))/\w'=w):=fun b e h=>by rw [e];exact h
 by_cases h0:0<=n
 ·have t0:decide (0<=n)=true:=decide_eq_true h0
  by_cases h1:n<=1114111
  ·have t1:decide (n<=1114111)=true:=decide_eq_true h1
   by_cases h2:n<55296
   ·have t2:decide (n<55296)=true:=decide_eq_true h2
    refine key true (decide_eq_true (by omega)) ?_
    clear key
    go_enter Tryd.func67,Tryd.ntmps67
    go_wp2;go_ret;exact⟨rfl,rfl⟩
   ·have t2:decide (n<55296)=false:=decide_eq_false h2
    by_cases h3:57343<n
    ·refine key true (decide_eq_true (by omega)) ?_
     have t3:decide (57343<n)=true:=decide_eq_true h3;clear key
     go_enter Tryd.func67,Tryd.ntmps67
     go_wp2;go_ret;exact⟨rfl,rfl⟩
    ·refine key false (decide_eq_false (by omega)) ?_
     have t3:decide (57343<n)=false:=decide_eq_false h3;clear key
     go_enter Tryd.func67,Tryd.ntmps67
     go_wp2;go_ret;exact⟨rfl,rfl⟩
  ·have t1:decide (n<=1114111)=false:=decide_eq_false h1
   refine key false (decide_eq_false (by omega)) ?_
   clear key
   go_enter Tryd.func67,Tryd.ntmps67
   go_wp2;go_ret;exact⟨rfl,rfl⟩
 ·have t0:decide (0<=n)=false:=decide_eq_false h0
  refine key false (decide_eq_false (by omega)) ?_
  clear key
  go_enter Tryd.func67,Tryd.ntmps67
  go_wp2;go_ret;exact⟨rfl,rfl⟩
open Go.RowKit
theorem za {l:List UInt8}(h0:l≠[])(h:Lib.decodeL l=(65533,1)):jJ l = -1/\jO l=1:=by
 have hb:Jy l=true:=decide_eq_true (by rw [h];exact⟨rfl,rfl⟩);exact⟨by simp [jJ,h0,hb],by simp [jO,h0,h]⟩
theorem Jn {l:List UInt8}{v:Int}{n:Nat}(h0:l≠[])(h:Lib.decodeL l=(v.toNat,n))(hv:0<=v)(hn:n=1->v<128):jJ l=v/\jO l=n:=by
 have hb:Jy l=false:=decide_eq_false (by rw [h];simp only;omega);refine⟨?_,by simp [jO,h0,h]⟩;simp only [jJ,h0,if_false,hb];rw [h];simp only [Bool.false_eq_true,if_false];omega
def byt (l:List UInt8)(i:Nat):Nat:=(l.getD i 0).toNat
theorem zC (l:List UInt8)(i:Nat):byt l i<256:=UInt8.toNat_lt _
theorem ze (l:List UInt8):Lib.decodeL l=Lib.decodeN l.length (byt l 0) (byt l 1) (byt l 2) (byt l 3):=Lib.decodeL_N l
def val (l:List UInt8)(lead:Int):Nat->Int
 | 0=>0
 | 1=>(byt l 0:Int) - lead
 | k+2=>val l lead (k+1)*64+(byt l (k+1):Int) - 128
def qn (l:List UInt8)(j:Nat):Prop:=128<=byt l j/\byt l j<192
theorem YQ (l:List UInt8)(a:Int):val l a 2=(((byt l 0:Nat):Int) - a)*64+(byt l 1:Int) - 128:=rfl
theorem Zs (l:List UInt8)(a:Int):val l a 3=((((byt l 0:Nat):Int) - a)*64+(byt l 1:Int) - 128)*64+(byt l 2:Int) - 128:=rfl
theorem Xo (l:List UInt8)(a:Int):val l a 4=(((((byt l 0:Nat):Int) - a)*64+(byt l 1:Int) - 128)*64+(byt l 2:Int) - 128)*64+(byt l 3:Int) - 128:=rfl
theorem jbJ (l:List UInt8)(h0:l≠[])(h:byt l 0<128):jJ l=(byt l 0:Int)/\jO l=1:=by
 refine Jn h0 ?_ (by omega) (fun _=>by omega)
 rw [ze];unfold Lib.decodeN;rw [if_pos h];simp
theorem jaA (l:List UInt8)(h0:l≠[])(h:(128<=byt l 0/\byt l 0<192)\/248<=byt l 0):jJ l = -1/\jO l=1:=by
 have hb:=zC l 0;refine za h0 ?_
 rw [ze];unfold Lib.decodeN;rw [if_neg (by omega),if_neg (by omega),if_neg (by omega),if_neg (by omega)]
theorem QU (l:List UInt8)(h0:l≠[])(h:192<=byt l 0/\byt l 0<224)(hx:l.length<2\/¬qn l 1):jJ l = -1/\jO l=1:=by
 have hb:=zC l 1;unfold qn at hx;refine za h0 ?_
 rw [ze];unfold Lib.decodeN;rw [if_neg (by omega),if_neg (by omega),if_neg (by omega),if_neg (by omega)]
theorem QO (l:List UInt8)(h0:l≠[])(h:224<=byt l 0/\byt l 0<240)(hx:l.length<3\/¬qn l 1\/¬qn l 2):jJ l = -1/\jO l=1:=by
 have hb:=zC l 1;have hb2:=zC l 2;unfold qn at hx;refine za h0 ?_
 rw [ze];unfold Lib.decodeN;rw [if_neg (by omega),if_neg (by omega),if_neg (by omega),if_neg (by omega)]
theorem QG (l:List UInt8)(h0:l≠[])(h:240<=byt l 0/\byt l 0<248)(hx:l.length<4\/¬qn l 1\/¬qn l 2\/¬qn l 3):jJ l = -1/\jO l=1:=by
 have hb:=zC l 1;have hb2:=zC l 2;have hb3:=zC l 3;unfold qn at hx;refine za h0 ?_
 rw [ze];unfold Lib.decodeN;rw [if_neg (by omega),if_neg (by omega),if_neg (by omega),if_neg (by omega)]
theorem jbM (l:List UInt8)(h0:l≠[])(h:192<=byt l 0/\byt l 0<224)(hl:2<=l.length)(c1:qn l 1) :
  (128<=val l 192 2/\sc (val l 192 2)=true->jJ l=val l 192 2/\jO l=2)/\((val l 192 2<128\/sc (val l 192 2)=false)->jJ l = -1/\jO l=1):=by
 unfold qn at c1;rw [YQ];refine⟨fun⟨a,b⟩=>?_,fun a=>?_⟩
 ·have s:=qF b
  refine Jn h0 ?_ (by omega) (fun h=>by cases h)
  rw [ze];unfold Lib.decodeN;rw [if_neg (by omega),if_pos (by omega),if_pos (by omega)];apply Prod.ext<;>simp only<;>omega
 ·refine za h0 ?_
  have s:((((byt l 0:Nat):Int) - 192)*64+(byt l 1:Int) - 128)<128:=by
   rcases a with a | a
   ·exact a
   ·have:=QJ a;omega
  rw [ze];unfold Lib.decodeN;rw [if_neg (by omega),if_pos (by omega),if_neg (by omega)]
theorem jbX (l:List UInt8)(h0:l≠[])(h:224<=byt l 0/\byt l 0<240)(hl:3<=l.length)(c1:qn l 1)(c2:qn l 2) :
  (2048<=val l 224 3/\sc (val l 224 3)=true->jJ l=val l 224 3/\jO l=3)/\((val l 224 3<2048\/sc (val l 224 3)=false)->jJ l = -1/\jO l=1):=by
 unfold qn at c1 c2;rw [Zs];refine⟨fun⟨a,b⟩=>?_,fun a=>?_⟩
 ·have s:=qF b
  refine Jn h0 ?_ (by omega) (fun h=>by cases h)
  rw [ze];unfold Lib.decodeN;rw [if_neg (by omega),if_neg (by omega),if_pos (by omega),if_pos (by omega)];apply Prod.ext<;>simp only<;>omega
 ·refine za h0 ?_
  have s:(((((byt l 0:Nat):Int) - 224)*64+(byt l 1:Int) - 128)*64+(byt l 2:Int) - 128)<2048\/(55296<=(((((byt l 0:Nat):Int) - 224)*64+(byt l 1:Int) - 128)*64+(byt l 2:Int) - 128)/\(((((byt l 0:Nat):Int) - 224)*64+(byt l 1:Int) - 128)*64+(byt l 2:Int) - 128)<=57343):=by
   rcases a with a | a
   ·exact .inl a
   ·have:=QJ a;omega
  rw [ze];unfold Lib.decodeN;rw [if_neg (by omega),if_neg (by omega),if_pos (by omega),if_neg (by omega)]
theorem jbN (l:List UInt8)(h0:l≠[])(h:240<=byt l 0/\byt l 0<248)(hl:4<=l.length)(c1:qn l 1)(c2:qn l 2)(c3:qn l 3) :
  (65536<=val l 240 4/\sc (val l 240 4)=true->jJ l=val l 240 4/\jO l=4)/\((val l 240 4<65536\/sc (val l 240 4)=false)->jJ l = -1/\jO l=1):=by
 unfold qn at c1 c2 c3;rw [Xo];refine⟨fun⟨a,b⟩=>?_,fun a=>?_⟩
 ·have s:=qF b
  refine Jn h0 ?_ (by omega) (fun h=>by cases h)
  rw [ze];unfold Lib.decodeN;rw [if_neg (by omega),if_neg (by omega),if_neg (by omega),if_pos (by omega),if_pos (by omega)];apply Prod.ext<;>simp only<;>omega
 ·refine za h0 ?_
  have s:((((((byt l 0:Nat):Int) - 240)*64+(byt l 1:Int) - 128)*64+(byt l 2:Int) - 128)*64+(byt l 3:Int) - 128)<65536\/1114111<((((((byt l 0:Nat):Int) - 240)*64+(byt l 1:Int) - 128)*64+(byt l 2:Int) - 128)*64+(byt l 3:Int) - 128):=by
   rcases a with a | a
   ·exact .inl a
   ·have:=QJ a;omega
  rw [ze];unfold Lib.decodeN;rw [if_neg (by omega),if_neg (by omega),if_neg (by omega),if_pos (by omega),if_neg (by omega)]
theorem zS (s:ByteArray)(i:Nat)(h:i<s.size):byt s.data.toList i=(s[i]'h).toNat:=by
 unfold byt
 have:s.data.toList.getD i 0=s[i]'h:=by
  have h':i<s.data.toList.length:=by rw [jn];exact h
  rw [List.getD_eq_getElem?_getD,List.getElem?_eq_getElem h'];simp;rfl
 rw [this]
theorem qZ (s:ByteArray)(h:0<s.size):s.toList.isEmpty=false:=by
 rw [ByteArray.toList_eq,List.isEmpty_eq_false_iff];intro e;have:=congrArg List.length e;rw [jn] at this;simp only [List.length_nil] at this;omega
theorem jaO (s:ByteArray)(h:s.size=0):s.toList.isEmpty=true:=by
 rw [ByteArray.toList_eq,List.isEmpty_iff];apply List.eq_nil_of_length_eq_zero
 rw [jn];exact h
theorem Ql (s:ByteArray)(h:0<s.size):s.data.toList≠[]:=by
 intro e;have:=congrArg List.length e;rw [jn] at this;simp only [List.length_nil] at this;omega
theorem Qm (l:List UInt8)(a:Int)(k:Nat)(hk:1<=k):val l a (k+1)=val l a k*64+(byt l k:Int) - 128:=by
 obtain⟨m,rfl⟩:∃m,k=m+1:=⟨k - 1,by omega⟩
 rfl
theorem JV (l:List UInt8)(a:Int)(h0:a<=(byt l 0:Int))(h1:(byt l 0:Int)<a+32):∀k,1<=k->k<=4->(∀j,1<=j->j<k->qn l j)->0<=val l a k/\val l a k<=8388607:=by
 intro k hk h4 hc;have v1:val l a 1=(byt l 0:Int) - a:=rfl
 match k,hk,h4,hc with
 | 1,_,_,_=>rw [v1];omega
 | 2,_,_,hc=>have c1:=hc 1 (by omega) (by omega);unfold qn at c1;rw [YQ];omega
 | 3,_,_,hc=>have c1:=hc 1 (by omega) (by omega);have c2:=hc 2 (by omega) (by omega);unfold qn at c1 c2;rw [Zs];omega
 | 4,_,_,hc=>have c1:=hc 1 (by omega) (by omega);have c2:=hc 2 (by omega) (by omega);have c3:=hc 3 (by omega) (by omega);unfold qn at c1 c2 c3;rw [Xo];omega
theorem ja4 (s:ByteArray)(w:World)(hs:s.size<=9223372036854775807)(h0:0<s.size)(hb:byt s.data.toList 0<128) :
  Calls Tryd.prog 49 #[.string s] w fun e w'=>e=.returned (.tuple #[.int .i32 (byt s.data.toList 0),.int .i64 1])/\Below w.heap.size w w':=by
 have h255:=zC s.data.toList 0;rw [zS s 0 h0] at *;have hne:s.toList.isEmpty=false:=qZ s h0
 go_enter Tryd.func49,Tryd.ntmps49
 go_wp2
 go_region
 go_wp2;go_ret2;exact⟨rfl,(Below.refl _ w).drew⟩
theorem Xm (s:ByteArray)(w:World)(hs:s.size<=9223372036854775807)(h0:0<s.size)(hb:128<=byt s.data.toList 0/\byt s.data.toList 0<192) :
  Calls Tryd.prog 49 #[.string s] w fun e w'=>e=.returned (.tuple #[.int .i32 (-1),.int .i64 1])/\Below w.heap.size w w':=by
 have h255:=zC s.data.toList 0;rw [zS s 0 h0] at *;have hne:s.toList.isEmpty=false:=qZ s h0
 go_enter Tryd.func49,Tryd.ntmps49
 go_wp2
 go_region
 go_wp2;go_ret2;exact⟨rfl,(Below.refl _ w).drew⟩
theorem ZH (s:ByteArray)(w:World)(hs:s.size<=9223372036854775807)(h0:0<s.size)(hb:248<=byt s.data.toList 0) :
  Calls Tryd.prog 49 #[.string s] w fun e w'=>e=.returned (.tuple #[.int .i32 (-1),.int .i64 1])/\Below w.heap.size w w':=by
 have h255:=zC s.data.toList 0;rw [zS s 0 h0] at *;have hne:s.toList.isEmpty=false:=qZ s h0
 go_enter Tryd.func49,Tryd.ntmps49
 go_wp2
 go_region
 go_wp2;go_ret2;exact⟨rfl,(Below.refl _ w).drew⟩
theorem Yb (s:ByteArray)(w:World)(h0:s.size=0) :
  Calls Tryd.prog 49 #[.string s] w fun e w'=>e=.returned (.tuple #[.int .i32 (-1),.int .i64 0])/\Below w.heap.size w w':=by
 have hne:s.toList.isEmpty=true:=jaO s h0;clear h0
 go_enter Tryd.func49,Tryd.ntmps49
 go_wp2;go_ret2;exact⟨rfl,Below.refl _ w⟩
open Go.RowKit
theorem jbS {P:Nat->Prop}{k:Nat}(h1:1<=k)(h2:k<3)(h:¬P k):¬P 1\/¬P 2:=by
 rcases(show k=1\/k=2 by omega) with e | e
 ·subst e;exact .inl h
 ·subst e;exact .inr h
theorem jaE {P:Nat->Prop}{k:Nat}(h1:1<=k)(h2:k<4)(h:¬P k):¬P 1\/¬P 2\/¬P 3:=by
 rcases(show k=1\/k=2\/k=3 by omega) with e | e | e
 ·subst e;exact .inl h
 ·subst e;exact .inr (.inl h)
 ·subst e;exact .inr (.inr h)
theorem jbQ (s:ByteArray)(w:World)(hs:s.size<=9223372036854775807)(h0:0<s.size)(hb:192<=byt s.data.toList 0/\byt s.data.toList 0<224) :
  Calls Tryd.prog 49 #[.string s] w fun e w'=>e=.returned (.tuple #[.int .i32 (jJ s.data.toList),.int .i64 (jO s.data.toList)])/\Below w.heap.size w w':=by
 have hl:=Ql s h0;have hne:s.toList.isEmpty=false:=qZ s h0;have g0:=zS s 0 h0;have b0:192<=s[0].toNat/\s[0].toNat<224:=by rw [<-g0];exact hb
 have G0:=ja g0;have HB:=ja hb;have HLN:=ja (jn s);clear g0 hb
 by_cases hlen:s.size<2
 ·have hbad:=QU s.data.toList hl HB.out (.inl (by rw [jn];omega))
  rw [hbad.1,hbad.2];clear hbad hl
  go_enter Tryd.func49,Tryd.ntmps49
  go_wp2
  go_region
  go_wp2;go_ret2;exact⟨rfl,(Below.refl _ w).drew⟩
 ·have ta128:decide ((s[0].toNat:Int)<128)=false:=decide_eq_false (by omega)
  have tb192:decide (192<=(s[0].toNat:Int))=true:=decide_eq_true (by omega);have ta224:decide ((s[0].toNat:Int)<224)=true:=decide_eq_true (by omega)
  go_enter Tryd.func49,Tryd.ntmps49
  go_wp2
  go_region
  go_wp2
  go_loopw [6,7] (fun r i wr=>∃k:Nat,Below w.heap.size w wr/\1<=k/\k<=2/\i=.int .i64 k/\r=.int .i64 (val s.data.toList 192 k)/\Hid (∀j,1<=j->j<k->qn s.data.toList j)) (fun _ i _=>2 - (intOf i).toNat)
  case atStart=>
   refine⟨1,(Below.refl _ w).drew,by omega,by omega,rfl,?_,fun j h1 h2=>by omega⟩;have v1:val s.data.toList 192 1=(byt s.data.toList 0:Int) - 192:=rfl;rw [v1,G0.out]
  case round=>
   obtain⟨k,hbw,hk1,hk2,rfl,rfl,hcon⟩:=hrel;have hvb:=JV s.data.toList 192 (by have:=HB.out;omega) (by have:=HB.out;omega) k hk1 (by omega) hcon.out;have hvs:=ja (Qm s.data.toList 192 k hk1)
   by_cases hlt:k<2
   ·have hks:k<s.size:=by omega
    have gk:=zS s k hks;have hk255:=zC s.data.toList k;have GK:=ja gk
    by_cases hct:qn s.data.toList k
    ·have hct':128<=s[k].toNat/\s[k].toNat<192:=by rw [<-GK.out];exact hct
     have hcon2:Hid (∀j,1<=j->j<k+1->qn s.data.toList j):=fun j h1 h2=>by
      by_cases e:j=k
      ·subst e;exact hct
      ·exact hcon.out j h1 (by omega)
     clear hct gk;generalize val s.data.toList 192 k=v at *;go_wp2;go_roundw
     case rel=>exact⟨k+1,hbw,by omega,by omega,by go_num,by rw [hvs.out,GK.out],hcon2⟩
     case measure=>simp [intOf];omega
    ·have hbad:=QU s.data.toList hl HB.out (.inr (by rwa [show k=1 by omega] at hct))
     have hct':s[k].toNat<128\/192<=s[k].toNat:=by
      have:¬(128<=byt s.data.toList k/\byt s.data.toList k<192):=hct;rw [GK.out] at this;omega
     have HBAD:=ja hbad;clear hct gk hbad;generalize val s.data.toList 192 k=v at *
     rcases hct' with hct' | hct'
     ·go_wp2
      go_ret2;rw [HBAD.out.1,HBAD.out.2];exact⟨rfl,hbw⟩
     ·go_wp2
      go_ret2;rw [HBAD.out.1,HBAD.out.2];exact⟨rfl,hbw⟩
   ·obtain rfl:k=2:=by omega
    have hc:=hcon.out;obtain⟨q1,q2⟩:=jbM s.data.toList hl HB.out (by rw [jn];omega) (hc 1 (by omega) (by omega));clear hc hvs;generalize val s.data.toList 192 2=v at *
    by_cases hle:v<128
    ·have hbad:=ja (q2 (.inl hle))
     clear q1 q2;go_wp2;go_ret2;rw [hbad.out.1,hbad.out.2];exact⟨rfl,hbw⟩
    ·cases hsc:sc v with
     | true=>
      have hgood:=ja (q1 ⟨by omega,hsc⟩);have hsv:=qF hsc;have hc:=qK v wr;rw [hsc] at hc;have HC:=ja hc;clear q1 q2 hc hsc
      go_wp2_with fail
      refine(jc HC).mono ?_
      rintro e w1 ⟨rfl,rfl⟩
      go_wp2_with fail
      go_ret2;rw [hgood.out.1,hgood.out.2];exact⟨rfl,hbw⟩
     | false=>
      have hbad:=ja (q2 (.inr hsc));have hc:=qK v wr;rw [hsc] at hc;have HC:=ja hc;clear q1 q2 hc hsc
      go_wp2_with fail
      refine(jc HC).mono ?_
      rintro e w1 ⟨rfl,rfl⟩
      go_wp2_with fail
      go_ret2;rw [hbad.out.1,hbad.out.2];exact⟨rfl,hbw⟩
theorem jbW (s:ByteArray)(w:World)(hs:s.size<=9223372036854775807)(h0:0<s.size)(hb:224<=byt s.data.toList 0/\byt s.data.toList 0<240) :
  Calls Tryd.prog 49 #[.string s] w fun e w'=>e=.returned (.tuple #[.int .i32 (jJ s.data.toList),.int .i64 (jO s.data.toList)])/\Below w.heap.size w w':=by
 have hl:=Ql s h0;have hne:s.toList.isEmpty=false:=qZ s h0;have g0:=zS s 0 h0;have b0:224<=s[0].toNat/\s[0].toNat<240:=by rw [<-g0];exact hb
 have G0:=ja g0;have HB:=ja hb;have HLN:=ja (jn s);clear g0 hb
 by_cases hlen:s.size<3
 ·have hbad:=QO s.data.toList hl HB.out (.inl (by rw [jn];omega))
  rw [hbad.1,hbad.2];clear hbad hl
  go_enter Tryd.func49,Tryd.ntmps49
  go_wp2
  go_region
  go_wp2;go_ret2;exact⟨rfl,(Below.refl _ w).drew⟩
 ·have ta128:decide ((s[0].toNat:Int)<128)=false:=decide_eq_false (by omega)
  have tb192:decide (192<=(s[0].toNat:Int))=true:=decide_eq_true (by omega);have ta224:decide ((s[0].toNat:Int)<224)=false:=decide_eq_false (by omega);have tb224:decide (224<=(s[0].toNat:Int))=true:=decide_eq_true (by omega);have ta240:decide ((s[0].toNat:Int)<240)=true:=decide_eq_true (by omega)
  go_enter Tryd.func49,Tryd.ntmps49
  go_wp2
  go_region
  go_wp2
  go_loopw [6,7] (fun r i wr=>∃k:Nat,Below w.heap.size w wr/\1<=k/\k<=3/\i=.int .i64 k/\r=.int .i64 (val s.data.toList 224 k)/\Hid (∀j,1<=j->j<k->qn s.data.toList j)) (fun _ i _=>3 - (intOf i).toNat)
  case atStart=>
   refine⟨1,(Below.refl _ w).drew,by omega,by omega,rfl,?_,fun j h1 h2=>by omega⟩;have v1:val s.data.toList 224 1=(byt s.data.toList 0:Int) - 224:=rfl;rw [v1,G0.out]
  case round=>
   obtain⟨k,hbw,hk1,hk2,rfl,rfl,hcon⟩:=hrel;have hvb:=JV s.data.toList 224 (by have:=HB.out;omega) (by have:=HB.out;omega) k hk1 (by omega) hcon.out;have hvs:=ja (Qm s.data.toList 224 k hk1)
   by_cases hlt:k<3
   ·have hks:k<s.size:=by omega
    have gk:=zS s k hks;have hk255:=zC s.data.toList k;have GK:=ja gk
    by_cases hct:qn s.data.toList k
    ·have hct':128<=s[k].toNat/\s[k].toNat<192:=by rw [<-GK.out];exact hct
     have hcon2:Hid (∀j,1<=j->j<k+1->qn s.data.toList j):=fun j h1 h2=>by
      by_cases e:j=k
      ·subst e;exact hct
      ·exact hcon.out j h1 (by omega)
     clear hct gk;generalize val s.data.toList 224 k=v at *;go_wp2;go_roundw
     case rel=>exact⟨k+1,hbw,by omega,by omega,by go_num,by rw [hvs.out,GK.out],hcon2⟩
     case measure=>simp [intOf];omega
    ·have hbad:=QO s.data.toList hl HB.out (.inr (jbS hk1 hlt hct))
     have hct':s[k].toNat<128\/192<=s[k].toNat:=by
      have:¬(128<=byt s.data.toList k/\byt s.data.toList k<192):=hct;rw [GK.out] at this;omega
     have HBAD:=ja hbad;clear hct gk hbad;generalize val s.data.toList 224 k=v at *
     rcases hct' with hct' | hct'
     ·go_wp2
      go_ret2;rw [HBAD.out.1,HBAD.out.2];exact⟨rfl,hbw⟩
     ·go_wp2
      go_ret2;rw [HBAD.out.1,HBAD.out.2];exact⟨rfl,hbw⟩
   ·obtain rfl:k=3:=by omega
    have hc:=hcon.out;obtain⟨q1,q2⟩:=jbX s.data.toList hl HB.out (by rw [jn];omega) (hc 1 (by omega) (by omega)) (hc 2 (by omega) (by omega));clear hc hvs;generalize val s.data.toList 224 3=v at *
    by_cases hle:v<2048
    ·have hbad:=ja (q2 (.inl hle))
     clear q1 q2;go_wp2;go_ret2;rw [hbad.out.1,hbad.out.2];exact⟨rfl,hbw⟩
    ·cases hsc:sc v with
     | true=>
      have hgood:=ja (q1 ⟨by omega,hsc⟩);have hsv:=qF hsc;have hc:=qK v wr;rw [hsc] at hc;have HC:=ja hc;clear q1 q2 hc hsc
      go_wp2_with fail
      refine(jc HC).mono ?_
      rintro e w1 ⟨rfl,rfl⟩
      go_wp2_with fail
      go_ret2;rw [hgood.out.1,hgood.out.2];exact⟨rfl,hbw⟩
     | false=>
      have hbad:=ja (q2 (.inr hsc));have hc:=qK v wr;rw [hsc] at hc;have HC:=ja hc;clear q1 q2 hc hsc
      go_wp2_with fail
      refine(jc HC).mono ?_
      rintro e w1 ⟨rfl,rfl⟩
      go_wp2_with fail
      go_ret2;rw [hbad.out.1,hbad.out.2];exact⟨rfl,hbw⟩
theorem jbT (s:ByteArray)(w:World)(hs:s.size<=9223372036854775807)(h0:0<s.size)(hb:240<=byt s.data.toList 0/\byt s.data.toList 0<248) :
  Calls Tryd.prog 49 #[.string s] w fun e w'=>e=.returned (.tuple #[.int .i32 (jJ s.data.toList),.int .i64 (jO s.data.toList)])/\Below w.heap.size w w':=by
 have hl:=Ql s h0;have hne:s.toList.isEmpty=false:=qZ s h0;have g0:=zS s 0 h0;have b0:240<=s[0].toNat/\s[0].toNat<248:=by rw [<-g0];exact hb
 have G0:=ja g0;have HB:=ja hb;have HLN:=ja (jn s);clear g0 hb
 by_cases hlen:s.size<4
 ·have hbad:=QG s.data.toList hl HB.out (.inl (by rw [jn];omega))
  rw [hbad.1,hbad.2];clear hbad hl
  go_enter Tryd.func49,Tryd.ntmps49
  go_wp2
  go_region
  go_wp2;go_ret2;exact⟨rfl,(Below.refl _ w).drew⟩
 ·have ta128:decide ((s[0].toNat:Int)<128)=false:=decide_eq_false (by omega)
  have tb192:decide (192<=(s[0].toNat:Int))=true:=decide_eq_true (by omega);have ta224:decide ((s[0].toNat:Int)<224)=false:=decide_eq_false (by omega);have tb224:decide (224<=(s[0].toNat:Int))=true:=decide_eq_true (by omega);have ta240:decide ((s[0].toNat:Int)<240)=false:=decide_eq_false (by omega);have tb240:decide (240<=(s[0].toNat:Int))=true:=decide_eq_true (by omega);have ta248:decide ((s[0].toNat:Int)<248)=true:=decide_eq_true (by omega)
  go_enter Tryd.func49,Tryd.ntmps49
  go_wp2
  go_region
  go_wp2
  go_loopw [6,7] (fun r i wr=>∃k:Nat,Below w.heap.size w wr/\1<=k/\k<=4/\i=.int .i64 k/\r=.int .i64 (val s.data.toList 240 k)/\Hid (∀j,1<=j->j<k->qn s.data.toList j)) (fun _ i _=>4 - (intOf i).toNat)
  case atStart=>
   refine⟨1,(Below.refl _ w).drew,by omega,by omega,rfl,?_,fun j h1 h2=>by omega⟩;have v1:val s.data.toList 240 1=(byt s.data.toList 0:Int) - 240:=rfl;rw [v1,G0.out]
  case round=>
   obtain⟨k,hbw,hk1,hk2,rfl,rfl,hcon⟩:=hrel;have hvb:=JV s.data.toList 240 (by have:=HB.out;omega) (by have:=HB.out;omega) k hk1 (by omega) hcon.out;have hvs:=ja (Qm s.data.toList 240 k hk1)
   by_cases hlt:k<4
   ·have hks:k<s.size:=by omega
    have gk:=zS s k hks;have hk255:=zC s.data.toList k;have GK:=ja gk
    by_cases hct:qn s.data.toList k
    ·have hct':128<=s[k].toNat/\s[k].toNat<192:=by rw [<-GK.out];exact hct
     have hcon2:Hid (∀j,1<=j->j<k+1->qn s.data.toList j):=fun j h1 h2=>by
      by_cases e:j=k
      ·subst e;exact hct
      ·exact hcon.out j h1 (by omega)
     clear hct gk;generalize val s.data.toList 240 k=v at *;go_wp2;go_roundw
     case rel=>exact⟨k+1,hbw,by omega,by omega,by go_num,by rw [hvs.out,GK.out],hcon2⟩
     case measure=>simp [intOf];omega
    ·have hbad:=QG s.data.toList hl HB.out (.inr (jaE hk1 hlt hct))
     have hct':s[k].toNat<128\/192<=s[k].toNat:=by
      have:¬(128<=byt s.data.toList k/\byt s.data.toList k<192):=hct;rw [GK.out] at this;omega
     have HBAD:=ja hbad;clear hct gk hbad;generalize val s.data.toList 240 k=v at *
     rcases hct' with hct' | hct'
     ·go_wp2
      go_ret2;rw [HBAD.out.1,HBAD.out.2];exact⟨rfl,hbw⟩
     ·go_wp2
      go_ret2;rw [HBAD.out.1,HBAD.out.2];exact⟨rfl,hbw⟩
   ·obtain rfl:k=4:=by omega
    have hc:=hcon.out;obtain⟨q1,q2⟩:=jbN s.data.toList hl HB.out (by rw [jn];omega) (hc 1 (by omega) (by omega)) (hc 2 (by omega) (by omega)) (hc 3 (by omega) (by omega));clear hc hvs;generalize val s.data.toList 240 4=v at *
    by_cases hle:v<65536
    ·have hbad:=ja (q2 (.inl hle))
     clear q1 q2;go_wp2;go_ret2;rw [hbad.out.1,hbad.out.2];exact⟨rfl,hbw⟩
    ·cases hsc:sc v with
     | true=>
      have hgood:=ja (q1 ⟨by omega,hsc⟩);have hsv:=qF hsc;have hc:=qK v wr;rw [hsc] at hc;have HC:=ja hc;clear q1 q2 hc hsc
      go_wp2_with fail
      refine(jc HC).mono ?_
      rintro e w1 ⟨rfl,rfl⟩
      go_wp2_with fail
      go_ret2;rw [hgood.out.1,hgood.out.2];exact⟨rfl,hbw⟩
     | false=>
      have hbad:=ja (q2 (.inr hsc));have hc:=qK v wr;rw [hsc] at hc;have HC:=ja hc;clear q1 q2 hc hsc
      go_wp2_with fail
      refine(jc HC).mono ?_
      rintro e w1 ⟨rfl,rfl⟩
      go_wp2_with fail
      go_ret2;rw [hbad.out.1,hbad.out.2];exact⟨rfl,hbw⟩
theorem ja8 (s:ByteArray)(w:World)(hs:s.size<=9223372036854775807) :
  Calls Tryd.prog 49 #[.string s] w fun e w'=>e=.returned (.tuple #[.int .i32 (jJ s.data.toList),.int .i64 (jO s.data.toList)])/\Below w.heap.size w w':=by
 by_cases h0:0<s.size
 ·have hl:=Ql s h0
  by_cases h1:byt s.data.toList 0<128
  ·have h:=ja4 s w hs h0 h1
   obtain⟨e1,e2⟩:=jbJ s.data.toList hl h1;rw [e1,e2];exact h
  ·by_cases h2:byt s.data.toList 0<192
   ·have h:=Xm s w hs h0 ⟨by omega,h2⟩
    obtain⟨e1,e2⟩:=jaA s.data.toList hl (.inl ⟨by omega,h2⟩);rw [e1,e2];exact h
   ·by_cases h3:byt s.data.toList 0<224
    ·exact jbQ s w hs h0 ⟨by omega,h3⟩
    ·by_cases h4:byt s.data.toList 0<240
     ·exact jbW s w hs h0 ⟨by omega,h4⟩
     ·by_cases h5:byt s.data.toList 0<248
      ·exact jbT s w hs h0 ⟨by omega,h5⟩
      ·have h:=ZH s w hs h0 (by omega)
       obtain⟨e1,e2⟩:=jaA s.data.toList hl (.inr (by omega));rw [e1,e2];exact h
 ·have hz:s.size=0:=by omega
  have h:=Yb s w hz;have e:s.data.toList=[]:=List.eq_nil_of_length_eq_zero (by rw [jn];exact hz);have e1:jJ s.data.toList = -1:=by simp [jJ,e]
  have e2:jO s.data.toList=0:=by simp [jO,e]
  rw [e1,e2];exact h
open Go.RowKit
theorem jaW {l:List UInt8}(h:l≠[]):(Lib.decodeL l).2<=l.length:=by
 rcases Xa l h with ⟨e,_⟩ | ⟨r,rest,hs,hl,e⟩
 ·rw [e]
  cases l with
  | nil=>exact absurd rfl h
  | cons a b=>simp
 ·rw [e,hl,List.length_append];simp only;omega
theorem jas {l:List UInt8}(h:l≠[]):jO l=(Lib.decodeL l).2:=by simp [jO,h]
theorem jbt (s:ByteArray)(pos:Nat)(hp:pos<s.size):s.data.toList.drop pos≠[]:=by
 intro e;have:=congrArg List.length e;rw [List.length_drop,jn] at this;simp only [List.length_nil] at this;omega
theorem qW (s:ByteArray)(w:World)(hs:s.size<=140737488355328) :
  Calls Tryd.prog 33 #[.string s] w fun e w'=>e=.returned (.int .i64 (bad s.data.toList))/\Below w.heap.size w w':=by
 go_enter Tryd.func33,Tryd.ntmps33
 go_wp2
 go_loopw [3] (fun i wr=>∃(pos fuel:Nat),i=.int .i64 pos/\pos<=s.size/\Below w.heap.size w wr/\Hid (Qg fuel pos (s.data.toList.drop pos)=bad s.data.toList)/\s.size<=pos+fuel) (fun i _=>s.size - (intOf i).toNat)
 case atStart=>exact⟨0,s.size,rfl,Nat.zero_le _,Below.refl _ _,rfl,by omega⟩
 case round=>
  obtain⟨pos,fuel,rfl,hle,hbw,hacc,hfu⟩:=hrel
  by_cases hp:pos<s.size
  ·have hl:=jbt s pos hp
   have hwl:=jaW hl;rw [List.length_drop,jn] at hwl;have hwd:=Q1 (s.data.toList.drop pos);obtain⟨f,rfl⟩:∃f,fuel=f+1:=⟨fuel - 1,by omega⟩
   have hc:=ja8 (s.extract pos s.size) wr (by rw [ByteArray.size_extract];omega);rw [JM,jas hl] at hc;have hneg:=Ze hl
   have hstep:Qg (f+1) pos (s.data.toList.drop pos)=if Jy (s.data.toList.drop pos)=true then (pos:Int) else Qg f (pos+(Lib.decodeL (s.data.toList.drop pos)).2) (s.data.toList.drop (pos+(Lib.decodeL (s.data.toList.drop pos)).2)):=by
    simp only [Qg];rw [if_neg hl,List.drop_drop]
   have h2:=hacc.out;rw [hstep] at h2;have HA:=ja h2;have HC:=ja hc;clear hc h2 hstep hacc;generalize jJ (s.data.toList.drop pos)=r at *;generalize (Lib.decodeL (s.data.toList.drop pos)).2=n at *;cases hbb:Jy (s.data.toList.drop pos) with
   | true=>
    rw [hbb] at HA hneg;rw [if_pos rfl] at HA;have hr:r<0:=hneg.2 rfl;clear hbb hneg
    go_wp2_with fail
    refine(jc HC).mono ?_
    rintro e w1 ⟨rfl,b1⟩
    go_wp2_with fail
    go_ret;rw [<-HA.out];exact⟨rfl,hbw.trans (b1.mono hbw.size)⟩
   | false=>
    rw [hbb] at HA hneg;rw [if_neg (by simp)] at HA;have hr:¬r<0:=fun h=>by have:=hneg.1 h;cases this
    clear hbb hneg
    go_wp2_with fail
    refine(jc HC).mono ?_
    rintro e w1 ⟨rfl,b1⟩
    go_wp2_with fail
    go_roundw
    case rel=>exact⟨pos+n,f,by go_num,by omega,hbw.trans (b1.mono hbw.size),HA,by omega⟩
    case measure=>simp [intOf];omega
  ·have hl:s.data.toList.drop pos=[]:=List.drop_of_length_le (by rw [jn];omega)
   have h2:=hacc.out;rw [hl,Xy] at h2;have HA:=ja h2;clear h2 hl hacc;go_wp2;go_ret;rw [<-HA.out];exact⟨rfl,hbw⟩
end utfs
end Go.Proofs.YtadaehaemmelfaaDoor
