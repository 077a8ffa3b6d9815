/- Of our texts, what this claim reaches. -/
import Derived.Test.YtnbfnjhbmeocfaaGreatDoorPstBD
import Derived.Test.YtnbfnjhbmeocfaaGreatDoorPstBF
set_option linter.unusedVariables false
set_option maxHeartbeats 8000000
set_option maxRecDepth 100000
namespace Go.Proofs.YtnbfnjhbmeocfaaGreatDoor
namespace valus
open Go.RowKit
def Tb (B:Nat)(w:World):Prop:=∃w0,w0.heap.size=B/\ShowTabs w0/\Below B w0 w
theorem Tb.next {B:Nat}{w w':World}(h:Tb B w)(hb:Below B w w'):Tb B w':=by
 obtain⟨w0,h1,h2,h3⟩:=h;exact⟨w0,h1,h2,h3.trans hb⟩
theorem Tb.tabs {B:Nat}{w:World}(h:Tb B w):ShowTabs w:=by
 obtain⟨w0,h1,h2,h3⟩:=h;subst h1;exact h2.below h3
def jen (many:Bool)(fm:Int):Prop:=(many=true/\fm=1)\/(many=false/\fm=0)
def LiesB (B f:Nat)(w:World)(us:List Value)(t:V):Prop:=LiesV (fun q=>q<B) f w us t
theorem LiesB.next {B f:Nat}{w w':World}{us:List Value}{t:V}(h:LiesB B f w us t)(hb:Below B w w'):LiesB B f w' us t:=LiesV.kept (fun _ h=>h) hb.size (fun q hq _=>hb.block q hq) h
def jf8 (B R:Nat)(F:Nat->List UInt8)(many:Bool)(fm:Int)(f:Nat):Prop :=
 ∀(w:World) (l:List UInt8) (d:Nat) (k n:Int) (b:Nat) (s:ByteArray) (pL:Option Addr) (nL cL:Nat) (pE:Option Addr) (nE cE:Nat) (t:V),Pg B R l (d:Int) fm w->Tb B w->B<=w.heap.size->
  LiesB B f w [.int .i64 k,.int .i64 n,.int .u64 (b:Int),.string s,.slice pL nL cL,.slice pE nE cE] t->Jq f t->d+f<=1000->l.length+(ji F many f d t).length<=140737488355328->
  Calls Tryz.prog 146 #[.pointer (some ⟨R,0,none⟩),.agg #[.int .i64 k,.int .i64 n,.int .u64 (b:Int),.string s,.slice pL nL cL,.slice pE nE cE]] w fun e w'=>(∃v,e=.returned v)/\Pg B R (l++ji F many f d t) (d:Int) fm w'/\Below B w w'/\KeptR R w w'
theorem ja8 (F:Nat->List UInt8):∀(f d d':Nat) (v:V),ji F false f d v=ji F false f d' v
 | 0,_,_,_=>rfl
 | f+1,d,d',v=>by
  have ih:∀x,ji F false f (d+1) x=ji F false f (d'+1) x:=fun x=>ja8 F f _ _ x
  rw [ji,ji];have e1:(opn v).2.1.map (ji F false f (d+1))=(opn v).2.1.map (ji F false f (d'+1)):=List.map_congr_left (fun x _=>ih x);have e2:(opn v).2.2.map (fun e=>qv (jz e).1 (ji F false f (d+1) (jz e).2))=(opn v).2.2.map (fun e=>qv (jz e).1 (ji F false f (d'+1) (jz e).2)):=List.map_congr_left (fun x _=>by rw [ih]);rw [e1,e2];unfold jq;simp only [Bool.false_eq_true,if_false]
def Qc (many:Bool)(d:Nat):Nat:=if many=true then d+1 else d
theorem Yp (F:Nat->List UInt8)(many:Bool)(f d:Nat)(v:V):ji F many f (Qc many d) v=ji F many f (d+1) v:=by
 unfold Qc;cases many with
 | true=>rfl
 | false=>exact ja8 F f _ _ v
def Boxes (B R b2 b3:Nat)(cs:Array Value)(w:World):Prop:=(R<b2/\R<b3)/\Blk w b2 #[.pointer (some ⟨R,0,none⟩)] 207/\Blk w b3 cs 26
theorem Boxes.next {B R b2 b3:Nat}{cs:Array Value}{w w':World}(h:Boxes B R b2 b3 cs w)(hk:KeptR R w w'):Boxes B R b2 b3 cs w':=by
 obtain⟨⟨h1,h2⟩,h3,h4⟩:=h;have n1:(207:Nat)≠5:=by decide
 have n2:(26:Nat)≠5:=by decide
 refine⟨⟨h1,h2⟩,hk b2 _ h3 (fun e=>by have:=Option.some.inj e;omega) (fun c fz e=>?_),hk b3 _ h4 (fun e=>by have:=Option.some.inj e;omega) (fun c fz e=>?_)⟩
 ·injection e with _ e _
  exact n1 e
 ·injection e with _ e _
  exact n2 e
open Go.RowKit
theorem jhq (B R b2 b3:Nat)(many:Bool)(fm:Int)(hfm:jen many fm)(d:Nat)(hd:d<=100000)(ps:List (List UInt8))(P:World->Prop)(hP:∀w w',P w->Below B w w'->KeptR R w w'->P w')(hT:jb0 B R 194 #[.pointer (some ⟨b2,0,none⟩),.pointer (some ⟨b3,0,none⟩)] fm (Qc many d) ps P)
  (w:World) (l:List UInt8) (oc cc:UInt8) (h:Pg B R l (d:Int) fm w) (hw:P w) (hBw:B<=w.heap.size) (hlen:l.length+(oc :: (jq many d ps++[cc])).length<=140737488355328) (hps:ps.length<=9223372036854775807) :
  Calls Tryz.prog 193 #[.pointer (some ⟨R,0,none⟩),.string ⟨#[oc]⟩,.string ⟨#[cc]⟩,.int .i64 (ps.length:Int),.func (.func 194) #[] #[.pointer (some ⟨b2,0,none⟩),.pointer (some ⟨b3,0,none⟩)]] w fun e w'=>(∃v,e=.returned v)/\Pg B R (l++oc :: (jq many d ps++[cc])) (d:Int) fm w'/\Below B w w'/\KeptR R w w':=by
 simp only [List.length_cons,List.length_append,List.length_nil] at hlen;have K1:=jb (qM B R l [oc] d fm w h (by simp only [List.length_cons,List.length_nil];omega) hBw)
 have K2:Hid (∀w1,Pg B R (l++[oc]) (d:Int) fm w1->Below B w w1->KeptR R w w1->Calls Tryz.prog (if many=true then 226 else 227) #[.pointer (some ⟨R,0,none⟩),.int .i64 (ps.length:Int),.func (.func 194) #[] #[.pointer (some ⟨b2,0,none⟩),.pointer (some ⟨b3,0,none⟩)]] w1 fun e w'=>(∃v,e=.returned v)/\Pg B R ((l++[oc])++jq many d ps) (d:Int) fm w'/\Below B w1 w'/\KeptR R w1 w'):=jb fun w1 g1 b1 k1=>by
  have hs:=b1.size;have hl2:(l++[oc]).length+(jq many d ps).length<=140737488355328:=by simp only [List.length_append,List.length_cons,List.length_nil];omega
  cases many with
  | true=>
   rw [if_pos rfl];exact jho B R b2 b3 fm d hd ps P hP hT w1 _ g1 (hP _ _ hw b1 k1) (by omega) hl2 hps
  | false=>
   rw [if_neg (by decide)];have eb:jq false d ps=jk ps:=by unfold jq;rw [if_neg (by decide)]
   rw [eb] at hl2 ⊢;exact jiN B R b2 b3 fm d ps P hP hT w1 _ g1 (hP _ _ hw b1 k1) (by omega) hl2 hps
 have K3:Hid (∀w1,B<=w1.heap.size->Pg B R ((l++[oc])++jq many d ps) (d:Int) fm w1->Calls Tryz.prog 197 #[.pointer (some ⟨R,0,none⟩),.string ⟨#[cc]⟩] w1 fun e w'=>e=.returned (.tuple #[])/\Pg B R (((l++[oc])++jq many d ps)++[cc]) (d:Int) fm w'/\Below B w1 w'/\KeptR R w1 w'):=jb fun w1 hb g1=>qM B R _ [cc] d fm w1 g1 (by simp only [List.length_append,List.length_cons,List.length_nil];omega) hb
 have HE:Hid (∀w',Pg B R (((l++[oc])++jq many d ps)++[cc]) (d:Int) fm w'->Pg B R (l++oc :: (jq many d ps++[cc])) (d:Int) fm w'):=jb fun w' g=>by
  have e:l++oc :: (jq many d ps++[cc])=((l++[oc])++jq many d ps)++[cc]:=by simp
  rw [e];exact g
 have HB:=jb hBw;obtain⟨N,hN⟩:∃N:Nat,N=ps.length:=⟨_,rfl⟩
 rw [<-hN] at K2 hps ⊢;clear h hw hBw hlen hT hP hN
 rcases hfm with ⟨rfl,rfl⟩ | ⟨rfl,rfl⟩
 ·rw [if_pos rfl] at K2
  go_enter Tryz.func193,Tryz.ntmps193
  go_wp2_with (go_at_call 197;refine(ja K1).mono ?_)
  rintro e w1 ⟨rfl,g1,b1,k1⟩
  have c3:=g1.c3;have K2':=jb (K2.out w1 g1 b1 k1);have H1:=jb (And.intro b1 k1);clear g1 b1 k1 K1 K2
  go_wp2_with (go_at_call 226;refine(ja K2').mono ?_)
  rintro e w2 ⟨⟨v,rfl⟩,g2,b2',k2⟩
  have b02:=H1.out.1.trans b2';have hs:=b02.size;have K3':=jb (K3.out w2 (by have:=HB.out;omega) g2);have H2:=jb (And.intro b02 (H1.out.2.trans k2));clear g2 b2' k2 K3 K2' H1 b02 hs
  go_wp2_with (go_at_call 197;refine(ja K3').mono ?_)
  rintro e w3 ⟨rfl,g3,b3',k3⟩
  have H3:=jb (And.intro (HE.out _ g3) (And.intro (H2.out.1.trans b3') (H2.out.2.trans k3)));clear g3 b3' k3;go_wp2;go_end0;exact⟨⟨_,rfl⟩,H3.out⟩
 ·rw [if_neg (by decide)] at K2
  go_enter Tryz.func193,Tryz.ntmps193
  go_wp2_with (go_at_call 197;refine(ja K1).mono ?_)
  rintro e w1 ⟨rfl,g1,b1,k1⟩
  have c3:=g1.c3;have K2':=jb (K2.out w1 g1 b1 k1);have H1:=jb (And.intro b1 k1);clear g1 b1 k1 K1 K2
  go_wp2_with (go_at_call 227;refine(ja K2').mono ?_)
  rintro e w2 ⟨⟨v,rfl⟩,g2,b2',k2⟩
  have b02:=H1.out.1.trans b2';have hs:=b02.size;have K3':=jb (K3.out w2 (by have:=HB.out;omega) g2);have H2:=jb (And.intro b02 (H1.out.2.trans k2));clear g2 b2' k2 K3 K2' H1 b02 hs
  go_wp2_with (go_at_call 197;refine(ja K3').mono ?_)
  rintro e w3 ⟨rfl,g3,b3',k3⟩
  have H3:=jb (And.intro (HE.out _ g3) (And.intro (H2.out.1.trans b3') (H2.out.2.trans k3)));clear g3 b3' k3;go_wp2;go_end0;exact⟨⟨_,rfl⟩,H3.out⟩
open Go.RowKit
theorem jhD (B R b2 b3:Nat)(many:Bool)(fm:Int)(hfm:jen many fm)(d:Nat)(hd:d<=100000)(ps:List (List UInt8))(P:World->Prop)(hP:∀w w',P w->Below B w w'->KeptR R w w'->P w')(hT:jb0 B R 195 #[.pointer (some ⟨b2,0,none⟩),.pointer (some ⟨b3,0,none⟩)] fm (Qc many d) ps P)
  (w:World) (l:List UInt8) (oc cc:UInt8) (h:Pg B R l (d:Int) fm w) (hw:P w) (hBw:B<=w.heap.size) (hlen:l.length+(oc :: (jq many d ps++[cc])).length<=140737488355328) (hps:ps.length<=9223372036854775807) :
  Calls Tryz.prog 193 #[.pointer (some ⟨R,0,none⟩),.string ⟨#[oc]⟩,.string ⟨#[cc]⟩,.int .i64 (ps.length:Int),.func (.func 195) #[] #[.pointer (some ⟨b2,0,none⟩),.pointer (some ⟨b3,0,none⟩)]] w fun e w'=>(∃v,e=.returned v)/\Pg B R (l++oc :: (jq many d ps++[cc])) (d:Int) fm w'/\Below B w w'/\KeptR R w w':=by
 simp only [List.length_cons,List.length_append,List.length_nil] at hlen;have K1:=jb (qM B R l [oc] d fm w h (by simp only [List.length_cons,List.length_nil];omega) hBw)
 have K2:Hid (∀w1,Pg B R (l++[oc]) (d:Int) fm w1->Below B w w1->KeptR R w w1->Calls Tryz.prog (if many=true then 226 else 227) #[.pointer (some ⟨R,0,none⟩),.int .i64 (ps.length:Int),.func (.func 195) #[] #[.pointer (some ⟨b2,0,none⟩),.pointer (some ⟨b3,0,none⟩)]] w1 fun e w'=>(∃v,e=.returned v)/\Pg B R ((l++[oc])++jq many d ps) (d:Int) fm w'/\Below B w1 w'/\KeptR R w1 w'):=jb fun w1 g1 b1 k1=>by
  have hs:=b1.size;have hl2:(l++[oc]).length+(jq many d ps).length<=140737488355328:=by simp only [List.length_append,List.length_cons,List.length_nil];omega
  cases many with
  | true=>
   rw [if_pos rfl];exact jhx B R b2 b3 fm d hd ps P hP hT w1 _ g1 (hP _ _ hw b1 k1) (by omega) hl2 hps
  | false=>
   rw [if_neg (by decide)];have eb:jq false d ps=jk ps:=by unfold jq;rw [if_neg (by decide)]
   rw [eb] at hl2 ⊢;exact jij B R b2 b3 fm d ps P hP hT w1 _ g1 (hP _ _ hw b1 k1) (by omega) hl2 hps
 have K3:Hid (∀w1,B<=w1.heap.size->Pg B R ((l++[oc])++jq many d ps) (d:Int) fm w1->Calls Tryz.prog 197 #[.pointer (some ⟨R,0,none⟩),.string ⟨#[cc]⟩] w1 fun e w'=>e=.returned (.tuple #[])/\Pg B R (((l++[oc])++jq many d ps)++[cc]) (d:Int) fm w'/\Below B w1 w'/\KeptR R w1 w'):=jb fun w1 hb g1=>qM B R _ [cc] d fm w1 g1 (by simp only [List.length_append,List.length_cons,List.length_nil];omega) hb
 have HE:Hid (∀w',Pg B R (((l++[oc])++jq many d ps)++[cc]) (d:Int) fm w'->Pg B R (l++oc :: (jq many d ps++[cc])) (d:Int) fm w'):=jb fun w' g=>by
  have e:l++oc :: (jq many d ps++[cc])=((l++[oc])++jq many d ps)++[cc]:=by simp
  rw [e];exact g
 have HB:=jb hBw;obtain⟨N,hN⟩:∃N:Nat,N=ps.length:=⟨_,rfl⟩
 rw [<-hN] at K2 hps ⊢;clear h hw hBw hlen hT hP hN
 rcases hfm with ⟨rfl,rfl⟩ | ⟨rfl,rfl⟩
 ·rw [if_pos rfl] at K2
  go_enter Tryz.func193,Tryz.ntmps193
  go_wp2_with (go_at_call 197;refine(ja K1).mono ?_)
  rintro e w1 ⟨rfl,g1,b1,k1⟩
  have c3:=g1.c3;have K2':=jb (K2.out w1 g1 b1 k1);have H1:=jb (And.intro b1 k1);clear g1 b1 k1 K1 K2
  go_wp2_with (go_at_call 226;refine(ja K2').mono ?_)
  rintro e w2 ⟨⟨v,rfl⟩,g2,b2',k2⟩
  have b02:=H1.out.1.trans b2';have hs:=b02.size;have K3':=jb (K3.out w2 (by have:=HB.out;omega) g2);have H2:=jb (And.intro b02 (H1.out.2.trans k2));clear g2 b2' k2 K3 K2' H1 b02 hs
  go_wp2_with (go_at_call 197;refine(ja K3').mono ?_)
  rintro e w3 ⟨rfl,g3,b3',k3⟩
  have H3:=jb (And.intro (HE.out _ g3) (And.intro (H2.out.1.trans b3') (H2.out.2.trans k3)));clear g3 b3' k3;go_wp2;go_end0;exact⟨⟨_,rfl⟩,H3.out⟩
 ·rw [if_neg (by decide)] at K2
  go_enter Tryz.func193,Tryz.ntmps193
  go_wp2_with (go_at_call 197;refine(ja K1).mono ?_)
  rintro e w1 ⟨rfl,g1,b1,k1⟩
  have c3:=g1.c3;have K2':=jb (K2.out w1 g1 b1 k1);have H1:=jb (And.intro b1 k1);clear g1 b1 k1 K1 K2
  go_wp2_with (go_at_call 227;refine(ja K2').mono ?_)
  rintro e w2 ⟨⟨v,rfl⟩,g2,b2',k2⟩
  have b02:=H1.out.1.trans b2';have hs:=b02.size;have K3':=jb (K3.out w2 (by have:=HB.out;omega) g2);have H2:=jb (And.intro b02 (H1.out.2.trans k2));clear g2 b2' k2 K3 K2' H1 b02 hs
  go_wp2_with (go_at_call 197;refine(ja K3').mono ?_)
  rintro e w3 ⟨rfl,g3,b3',k3⟩
  have H3:=jb (And.intro (HE.out _ g3) (And.intro (H2.out.1.trans b3') (H2.out.2.trans k3)));clear g3 b3' k3;go_wp2;go_end0;exact⟨⟨_,rfl⟩,H3.out⟩
open Go.RowKit
/-- value$1 tells an element. -/
theorem jkC (B R b2 b3 f:Nat)(F:Nat->List UInt8)(many:Bool)(fm:Int)(d:Nat)(hv:jf8 B R F many fm f)(hd:d+f<=1000)(L:List V)(hG:∀y∈L,Jq f y)(x0 x1 x2 x3 x5:Value)(pL:Option Addr)(cL:Nat)(hcl:L.length<=cL/\cL<=maxLen) :
  jb0 B R 194 #[.pointer (some ⟨b2,0,none⟩),.pointer (some ⟨b3,0,none⟩)] fm d (L.map (ji F many f d)) (fun w=>Boxes B R b2 b3 #[x0,x1,x2,x3,.slice pL L.length cL,x5] w/\Tb B w/\RowIn (fun q=>q<B) w pL 6 L.length (fun j us=>∃y,L[j]?=some y/\LiesB B f w us y)):=by
 intro w i l hi hg ⟨hX,hT,hR⟩ hBw hlen;have hi':i<L.length:=by simpa using hi
 obtain⟨Bk,o,rfl,hBok,hBl,u0,u1,u2,u3,u4,u5,⟨y,hy,hly⟩,k0,k1,k2,k3,k4,k5⟩:=hR.six hi';have hyL:y∈L:=List.mem_iff_getElem?.2 ⟨i,hy⟩
 obtain⟨yk,yn,yb,ys,ypL,ynL,ycL,ypE,ynE,ycE,rfl,rfl,rfl,rfl,rfl,rfl⟩:=LiesV.form hly
 have et:(L.map (ji F many f d))[i]=ji F many f d y:=by
  rw [List.getElem_map];rw [List.getElem?_eq_getElem hi'] at hy;injection hy with hy;rw [hy]
 rw [et] at hlen ⊢;have KV:=jb (hv w.drew l d yk yn yb ys ypL ynL ycL ypE ynE ycE y hg (hT.next (Below.drew (Below.refl B w))) hBw (hly.next (Below.drew (Below.refl B w))) (hG y hyL) hd hlen);obtain⟨_,q2,q3⟩:=hX;have c2:=q2.cell 0 _ rfl;have c3:=q3.cell 4 _ rfl;have mixed:Tryz.prog.follows Departure.mixedOrders=true:=by kernel_rfl
 have hn63:L.length<=9223372036854775807:=by have:=hcl.2;unfold maxLen at this;omega
 have D0:w.drew.cell? ⟨b2,0,none⟩=some (.pointer (some ⟨R,0,none⟩)):=c2
 have D1:w.drew.cell? ⟨b3,4,none⟩=_:=c3
 have E0:w.drew.cell? ⟨Bk,o+i*6,none⟩=_:=k0
 have E1:w.drew.cell? ⟨Bk,o+i*6+1,none⟩=_:=k1
 have E2:w.drew.cell? ⟨Bk,o+i*6+2,none⟩=_:=k2
 have E3:w.drew.cell? ⟨Bk,o+i*6+3,none⟩=_:=k3
 have E4:w.drew.cell? ⟨Bk,o+i*6+4,none⟩=_:=k4
 have E5:w.drew.cell? ⟨Bk,o+i*6+5,none⟩=_:=k5
 have HDR:Hid (∀w',Below B w.drew w'->KeptR R w.drew w'->Below B w w'/\KeptR R w w'):=jb fun w' p q=>⟨(Below.drew (Below.refl B w)).trans p,fun k o hk a b=>q k o hk a b⟩
 clear hg hT hR hly q2 q3 hv hG hy et hlen hi
 show Calls Tryz.prog 194 #[.int .i64 (i:Int),.pointer (some ⟨b2,0,none⟩),.pointer (some ⟨b3,0,none⟩)] w _
 go_enter Tryz.func194,Tryz.ntmps194
 go_region_with (go_at_call 146;refine(ja KV).mono ?_;rintro e w1 ⟨⟨v,rfl⟩,g1,b1,k1'⟩)
 all_goals
  have H1:=jb (And.intro g1 (HDR.out _ b1 k1'));clear g1 b1 k1';go_wp2;go_end0;exact⟨⟨_,rfl⟩,H1.out.1,H1.out.2.1,H1.out.2.2⟩
open Go.RowKit
theorem jjY (B R f:Nat)(F:Nat->List UInt8)(many:Bool)(fm:Int)(hv:jf8 B R F many fm f)(w:World)(l:List UInt8)(d:Nat)(key:ByteArray)(k n:Int)(b:Nat)(s:ByteArray)(pL:Option Addr)(nL cL:Nat)(pE:Option Addr)(nE cE:Nat)(t:V)
  (hg:Pg B R l (d:Int) fm w) (hT:Tb B w) (hBw:B<=w.heap.size) (hl:LiesB B f w [.int .i64 k,.int .i64 n,.int .u64 (b:Int),.string s,.slice pL nL cL,.slice pE nE cE] t) (hG:Jq f t) (hd:d+f<=1000) (hks:key.size<=1073741824) (hlen:l.length+(qv key.data.toList (ji F many f d t)).length<=140737488355328) :
  Calls Tryz.prog 196 #[.pointer (some ⟨R,0,none⟩),.agg #[.string key,.int .i64 k,.int .i64 n,.int .u64 (b:Int),.string s,.slice pL nL cL,.slice pE nE cE]] w fun e w'=>(∃v,e=.returned v)/\Pg B R (l++qv key.data.toList (ji F many f d t)) (d:Int) fm w'/\Below B w w'/\KeptR R w w':=by
 have bV:Below w.heap.size w (w.alloc (.cells #[.string key,.int .i64 k,.int .i64 n,.int .u64 (b:Int),.string s,.slice pL nL cL,.slice pE nE cE] 44)):=(Below.refl _ w).alloc (Nat.le_refl _) _;have hX:=jd w #[.string key,.int .i64 k,.int .i64 n,.int .u64 (b:Int),.string s,.slice pL nL cL,.slice pE nE cE] 44;have hRl:=hg.lt;unfold qv at hlen ⊢;simp only [List.length_append,List.length_cons] at hlen;obtain⟨KT,hKT⟩:∃KT:List UInt8,KT=escs.JC key.data.toList:=⟨_,rfl⟩
 obtain⟨TT,hTT⟩:∃TT:List UInt8,TT=ji F many f d t:=⟨_,rfl⟩
 have K1:=escs.jiy _ key hks (hT.next (bV.mono hBw)).tabs.esc;rw [<-hKT] at hlen K1 ⊢;rw [<-hTT] at hlen ⊢;have HK1:=jb K1;have KW1:Hid (∀w1,Below w.heap.size w w1->Calls Tryz.prog 197 #[.pointer (some ⟨R,0,none⟩),.string ⟨KT.toArray⟩] w1 fun e w'=>e=.returned (.tuple #[])/\Pg B R (l++KT) (d:Int) fm w'/\Below B w1 w'/\KeptR R w1 w'):=jb fun w1 hb=>qM B R l KT d fm w1 (hg.below hb) (by omega) (by have:=hb.size;omega)
 have KW2:Hid (∀w1,B<=w1.heap.size->Pg B R (l++KT) (d:Int) fm w1->Calls Tryz.prog 197 #[.pointer (some ⟨R,0,none⟩),.string ⟨#[58,32]⟩] w1 fun e w'=>e=.returned (.tuple #[])/\Pg B R ((l++KT)++[58,32]) (d:Int) fm w'/\Below B w1 w'/\KeptR R w1 w'):=jb fun w1 hb h1=>qM B R (l++KT) [58,32] d fm w1 h1 (by simp only [List.length_append,List.length_cons,List.length_nil];omega) hb
 have KV:Hid (∀w1,B<=w1.heap.size->Below B w w1->Pg B R ((l++KT)++[58,32]) (d:Int) fm w1->Calls Tryz.prog 146 #[.pointer (some ⟨R,0,none⟩),.agg #[.int .i64 k,.int .i64 n,.int .u64 (b:Int),.string s,.slice pL nL cL,.slice pE nE cE]] w1 fun e w'=>(∃v,e=.returned v)/\Pg B R (((l++KT)++[58,32])++TT) (d:Int) fm w'/\Below B w1 w'/\KeptR R w1 w'):=jb fun w1 hb hb2 h1=>by
  rw [hTT];exact hv w1 _ d k n b s pL nL cL pE nE cE t h1 (hT.next hb2) hb (hl.next hb2) hG hd (by rw [<-hTT];simp only [List.length_append,List.length_cons,List.length_nil];omega)
 have e0:=hX.cell 0 _ rfl;have HB:Hid (Below w.heap.size w (w.alloc (.cells #[.string key,.int .i64 k,.int .i64 n,.int .u64 (b:Int),.string s,.slice pL nL cL,.slice pE nE cE] 44))/\B<=w.heap.size/\R<w.heap.size/\Blk (w.alloc (.cells #[.string key,.int .i64 k,.int .i64 n,.int .u64 (b:Int),.string s,.slice pL nL cL,.slice pE nE cE] 44)) w.heap.size #[.string key,.int .i64 k,.int .i64 n,.int .u64 (b:Int),.string s,.slice pL nL cL,.slice pE nE cE] 44):=jb ⟨bV,hBw,hRl,hX⟩;clear bV hX hg hT hl hv hlen hKT hTT hBw hRl K1;generalize hWA:w.alloc (.cells #[.string key,.int .i64 k,.int .i64 n,.int .u64 (b:Int),.string s,.slice pL nL cL,.slice pE nE cE] 44)=WA at HB HK1 e0
 go_enter Tryz.func196,Tryz.ntmps196
 go_upto_region 2 with (go_at_call 228;refine(ja HK1).mono ?_;rintro e w1 ⟨rfl,b1⟩)
 obtain⟨bV,hBw,hRl,hX⟩:=HB.out;have b01:=bV.trans (b1.mono bV.size);have KW1':=jb (KW1.out w1 b01);have s1:=b01.size;have X1:Blk w1 w.heap.size #[.string key,.int .i64 k,.int .i64 n,.int .u64 (b:Int),.string s,.slice pL nL cL,.slice pE nE cE] 44:=hX.below b1;have H1:=jb (And.intro b01 (And.intro hBw (And.intro hRl X1)));clear KW1 HK1 e0 b1 bV hX b01 hBw hRl X1 HB hWA s1
 go_upto_region 3 with (go_at_call 197;refine(ja KW1').mono ?_;rintro e w2 ⟨rfl,g2,b2,k2⟩)
 obtain⟨b01,hBw,hRl,X1⟩:=H1.out;have n2:(44:Nat)≠5:=by decide
 have s2:=b2.size;have s1:=b01.size;have b02:=(b01.mono hBw).trans b2;have kk2:=(KeptR.below (R:=R) b01).trans k2;have X2:Blk w2 w.heap.size #[.string key,.int .i64 k,.int .i64 n,.int .u64 (b:Int),.string s,.slice pL nL cL,.slice pE nE cE] 44:=k2 _ _ X1 (fun e=>by have:=Option.some.inj e;omega) (fun c fz e=>by injection e with _ e _;exact n2 e);have KW2':=jb (KW2.out w2 (by omega) g2);have H2:=jb (And.intro b02 (And.intro kk2 (And.intro hBw (And.intro hRl X2))));clear KW1' KW2 g2 b2 k2 H1 b01 hBw hRl X1 s2 s1 b02 kk2 X2
 go_upto_region 4 with (go_at_call 197;refine(ja KW2').mono ?_;rintro e w3 ⟨rfl,g3,b3,k3⟩)
 obtain⟨b02,kk2,hBw,hRl,X2⟩:=H2.out;have s3:=b3.size;have s2:=b02.size;have X3:Blk w3 w.heap.size #[.string key,.int .i64 k,.int .i64 n,.int .u64 (b:Int),.string s,.slice pL nL cL,.slice pE nE cE] 44:=k3 _ _ X2 (fun e=>by have:=Option.some.inj e;omega) (fun c fz e=>by injection e with _ e _;exact n2 e);have c1:=X3.cell 1 _ rfl;have c2:=X3.cell 2 _ rfl;have c3:=X3.cell 3 _ rfl;have c4:=X3.cell 4 _ rfl;have c5:=X3.cell 5 _ rfl;have c6:=X3.cell 6 _ rfl;have KV':=jb (KV.out w3 (by omega) (b02.trans b3) g3);have H3:=jb (And.intro (b02.trans b3) (kk2.trans k3));clear KW2' KV g3 b3 k3 H2 b02 hBw hRl X2 s3 s2 kk2 X3 n2
 go_wp2_with (go_at_call 146;refine(ja KV').mono ?_;rintro e w4 ⟨⟨v,rfl⟩,g4,b4,k4⟩)
 go_end0;refine⟨⟨_,rfl⟩,?_,H3.out.1.trans b4,H3.out.2.trans k4⟩;have e:l++(KT++58 :: 32 :: TT)=((l++KT)++[58,32])++TT:=by simp
 rw [e];exact g4
/-- value$2 tells an entry. -/
theorem jkA (B R b2 b3 f:Nat)(F:Nat->List UInt8)(many:Bool)(fm:Int)(d:Nat)(hv:jf8 B R F many fm f)(hd:d+f<=1000)(E:List V)(hG:∀e∈E,Jq f (jz e).2)(hk:∀e∈E,(jz e).1.length<=100)(x0 x1 x2 x3 x4:Value)(pE:Option Addr)(cE:Nat)(hcl:E.length<=cE/\cE<=maxLen) :
  jb0 B R 195 #[.pointer (some ⟨b2,0,none⟩),.pointer (some ⟨b3,0,none⟩)] fm d (E.map (fun e=>qv (jz e).1 (ji F many f d (jz e).2))) (fun w=>Boxes B R b2 b3 #[x0,x1,x2,x3,x4,.slice pE E.length cE] w/\Tb B w/\RowIn (fun q=>q<B) w pE 7 E.length (fun j us=>∃(key:ByteArray) (y:V) (xs:List Value),E[j]?=some (ent key.data.toList y)/\us=.string key :: xs/\key.size<=maxLen/\LiesB B f w xs y)):=by
 intro w i l hi hg ⟨hX,hT,hR⟩ hBw hlen;have hi':i<E.length:=by simpa using hi
 obtain⟨Bk,o,rfl,hBok,hBl,u0,u1,u2,u3,u4,u5,u6,⟨key,y,xs,hy,hus,hks,hly⟩,k0,k1,k2,k3,k4,k5,k6⟩:=hR.seven hi';injection hus with hu0 hus;subst hu0;subst hus;have hyE:ent key.data.toList y∈E:=List.mem_iff_getElem?.2 ⟨i,hy⟩
 obtain⟨yk,yn,yb,ys,ypL,ynL,ycL,ypE,ynE,ycE,rfl,rfl,rfl,rfl,rfl,rfl⟩:=LiesV.form hly
 have et:(E.map (fun e=>qv (jz e).1 (ji F many f d (jz e).2)))[i]=qv key.data.toList (ji F many f d y):=by
  rw [List.getElem_map];rw [List.getElem?_eq_getElem hi'] at hy;injection hy with hy;rw [hy,qk]
 rw [et] at hlen ⊢;have hGy:=hG _ hyE;have hky:=hk _ hyE;rw [qk] at hGy hky
 have hkz:key.size<=1073741824:=by
  have e:key.data.toList.length=key.size:=by rw [Array.length_toList];rfl
  simp only at hky;omega
 have KV:=jb (jjY B R f F many fm hv w.drew l d key yk yn yb ys ypL ynL ycL ypE ynE ycE y hg (hT.next (Below.drew (Below.refl B w))) hBw (hly.next (Below.drew (Below.refl B w))) hGy hd hkz hlen);obtain⟨_,q2,q3⟩:=hX;have c2:=q2.cell 0 _ rfl;have c3:=q3.cell 5 _ rfl;have mixed:Tryz.prog.follows Departure.mixedOrders=true:=by kernel_rfl
 have hn63:E.length<=9223372036854775807:=by have:=hcl.2;unfold maxLen at this;omega
 have D0:w.drew.cell? ⟨b2,0,none⟩=some (.pointer (some ⟨R,0,none⟩)):=c2
 have D1:w.drew.cell? ⟨b3,5,none⟩=_:=c3
 have E0:w.drew.cell? ⟨Bk,o+i*7,none⟩=_:=k0
 have E1:w.drew.cell? ⟨Bk,o+i*7+1,none⟩=_:=k1
 have E2:w.drew.cell? ⟨Bk,o+i*7+2,none⟩=_:=k2
 have E3:w.drew.cell? ⟨Bk,o+i*7+3,none⟩=_:=k3
 have E4:w.drew.cell? ⟨Bk,o+i*7+4,none⟩=_:=k4
 have E5:w.drew.cell? ⟨Bk,o+i*7+5,none⟩=_:=k5
 have E6:w.drew.cell? ⟨Bk,o+i*7+6,none⟩=_:=k6
 have HDR:Hid (∀w',Below B w.drew w'->KeptR R w.drew w'->Below B w w'/\KeptR R w w'):=jb fun w' p q=>⟨(Below.drew (Below.refl B w)).trans p,fun k o hk a b=>q k o hk a b⟩
 clear hg hT hR hly q2 q3 hv hG hy et hlen hi hGy hky hk hkz hks
 show Calls Tryz.prog 195 #[.int .i64 (i:Int),.pointer (some ⟨b2,0,none⟩),.pointer (some ⟨b3,0,none⟩)] w _
 go_enter Tryz.func195,Tryz.ntmps195
 go_region_with (go_at_call 196;refine(ja KV).mono ?_;rintro e w1 ⟨⟨v,rfl⟩,g1,b1,k1'⟩)
 all_goals
  have H1:=jb (And.intro g1 (HDR.out _ b1 k1'));clear g1 b1 k1';go_wp2;go_end0;exact⟨⟨_,rfl⟩,H1.out.1,H1.out.2.1,H1.out.2.2⟩
open Go.RowKit
open bigs (jv)
theorem ZT (B R:Nat)(w:World)(cs:Array Value)(hR:R<w.heap.size) :
  Boxes B R w.heap.size (w.heap.size+1) cs ((w.alloc (.cells #[.pointer (some ⟨R,0,none⟩)] 207)).alloc (.cells cs 26))/\Below w.heap.size w ((w.alloc (.cells #[.pointer (some ⟨R,0,none⟩)] 207)).alloc (.cells cs 26)):=by
 refine⟨⟨⟨hR,by omega⟩,(jd w _ _).alloc _,?_⟩,((Below.refl _ w).alloc (Nat.le_refl _) _).alloc (by simp) _⟩;have h:=jd (w.alloc (.cells #[.pointer (some ⟨R,0,none⟩)] 207)) cs 26;rwa [World.size_alloc] at h
section
variable (B R f : Nat) (F : Nat → List UInt8) (many : Bool) (fm : Int) (w : World) (l : List UInt8) (d : Nat) (n : Int) (b : Nat) (s : ByteArray)
theorem jfA (hfm:jen many fm)(ih:jf8 B R F many fm f)(pL:Option Addr)(L:List V)(cL:Nat)(pE:Option Addr)(nE cE:Nat)(hg:Pg B R l (d:Int) fm w)(hT:Tb B w)(hBw:B<=w.heap.size)(hcl:L.length<=cL/\cL<=maxLen)(hps:L.length<=9223372036854775807)(rL:RowIn (fun q=>q<B) w pL 6 L.length (fun j us=>∃y,L[j]?=some y/\LiesB B f w us y))(hG:∀y∈L,Jq f y)(hd:d+f<=999)(hlen:l.length+(91 :: (jq many d (L.map (ji F many f (d+1)))++[93])).length<=140737488355328) :
  Calls Tryz.prog 146 #[.pointer (some ⟨R,0,none⟩),.agg #[.int .i64 5,.int .i64 n,.int .u64 (b:Int),.string s,.slice pL L.length cL,.slice pE nE cE]] w fun e w'=>(∃v,e=.returned v)/\Pg B R (l++91 :: (jq many d (L.map (ji F many f (d+1)))++[93])) (d:Int) fm w'/\Below B w w'/\KeptR R w w':=by
 obtain⟨hX,bX⟩:=ZT B R w #[.int .i64 5,.int .i64 n,.int .u64 (b:Int),.string s,.slice pL L.length cL,.slice pE nE cE] hg.lt;have hdi:Qc many d+f<=1000:=by unfold Qc;split<;>omega
 have em:L.map (ji F many f (Qc many d))=L.map (ji F many f (d+1)):=List.map_congr_left (fun x _=>Yp F many f d x);have hTell:=jkC B R w.heap.size (w.heap.size+1) f F many fm (Qc many d) ih hdi L hG (.int .i64 5) (.int .i64 n) (.int .u64 (b:Int)) (.string s) (.slice pE nE cE) pL cL hcl;rw [em] at hTell;have jP:∀w w',Below B w w'->RowIn (fun q=>q<B) w pL 6 L.length (fun j us=>∃y,L[j]?=some y/\LiesB B f w us y)->RowIn (fun q=>q<B) w' pL 6 L.length (fun j us=>∃y,L[j]?=some y/\LiesB B f w' us y):=fun w w' hb h=>h.kept (fun _ h=>h) hb.size (fun q hq _=>hb.block q hq) (fun j us _ ⟨y,h1,h2⟩=>⟨y,h1,h2.next hb⟩)
 have bXB:=bX.mono hBw;have KB:=jhq B R w.heap.size (w.heap.size+1) many fm hfm d (by omega) (L.map (ji F many f (d+1))) _ (fun w w' ⟨h1,h2,h3⟩ hb hk=>⟨h1.next hk,h2.next hb,jP w w' hb h3⟩) hTell _ l 91 93 (hg.below bX) ⟨hX,hT.next bXB,jP _ _ bXB rL⟩ (by have:=bX.size;omega) hlen (by rw [List.length_map];exact hps);rw [List.length_map] at KB;have HK:=jb KB;obtain⟨_,q2,q3⟩:=hX;have c2:=q2.cell 0 _ rfl;have c30:=q3.cell 0 _ rfl;have c34:=q3.cell 4 _ rfl
 have FIN:Hid (∀w',Below B ((w.alloc (.cells #[.pointer (some ⟨R,0,none⟩)] 207)).alloc (.cells #[.int .i64 5,.int .i64 n,.int .u64 (b:Int),.string s,.slice pL L.length cL,.slice pE nE cE] 26)) w'->KeptR R ((w.alloc (.cells #[.pointer (some ⟨R,0,none⟩)] 207)).alloc (.cells #[.int .i64 5,.int .i64 n,.int .u64 (b:Int),.string s,.slice pL L.length cL,.slice pE nE cE] 26)) w'->Below B w w'/\KeptR R w w'):=jb fun w' h1 h2=>⟨bXB.trans h1,(KeptR.below bX).trans h2⟩
 clear KB q2 q3 hTell jP bX bXB hg hT rL hG ih em hlen
 go_enter Tryz.func146,Tryz.ntmps146
 go_wp2_with (go_at_call 193;refine(ja HK).mono ?_;rintro e w1 ⟨⟨v,rfl⟩,g1,b1,k1⟩)
 go_end0;exact⟨⟨_,rfl⟩,g1,FIN.out _ b1 k1⟩
theorem jer (hfm:jen many fm)(ih:jf8 B R F many fm f)(pL:Option Addr)(nL cL:Nat)(pE:Option Addr)(E:List V)(cE:Nat)(hg:Pg B R l (d:Int) fm w)(hT:Tb B w)(hBw:B<=w.heap.size)(hcl:E.length<=cE/\cE<=maxLen)(hps:E.length<=9223372036854775807)(rE:RowIn (fun q=>q<B) w pE 7 E.length (fun j us=>∃(key:ByteArray) (y:V) (xs:List Value),E[j]?=some (ent key.data.toList y)/\us=.string key :: xs/\key.size<=maxLen/\LiesB B f w xs y))(hG:∀e∈E,Jq f (jz e).2)(hk:∀e∈E,(jz e).1.length<=100)(hd:d+f<=999)(hlen:l.length+(123 :: (jq many d (E.map (fun e=>qv (jz e).1 (ji F many f (d+1) (jz e).2)))++[125])).length<=140737488355328) :
  Calls Tryz.prog 146 #[.pointer (some ⟨R,0,none⟩),.agg #[.int .i64 6,.int .i64 n,.int .u64 (b:Int),.string s,.slice pL nL cL,.slice pE E.length cE]] w fun e w'=>(∃v,e=.returned v)/\Pg B R (l++123 :: (jq many d (E.map (fun e=>qv (jz e).1 (ji F many f (d+1) (jz e).2)))++[125])) (d:Int) fm w'/\Below B w w'/\KeptR R w w':=by
 obtain⟨hX,bX⟩:=ZT B R w #[.int .i64 6,.int .i64 n,.int .u64 (b:Int),.string s,.slice pL nL cL,.slice pE E.length cE] hg.lt;have hdi:Qc many d+f<=1000:=by unfold Qc;split<;>omega
 have em:E.map (fun e=>qv (jz e).1 (ji F many f (Qc many d) (jz e).2))=E.map (fun e=>qv (jz e).1 (ji F many f (d+1) (jz e).2)):=List.map_congr_left (fun x _=>by rw [Yp]);have hTell:=jkA B R w.heap.size (w.heap.size+1) f F many fm (Qc many d) ih hdi E hG hk (.int .i64 6) (.int .i64 n) (.int .u64 (b:Int)) (.string s) (.slice pL nL cL) pE cE hcl;rw [em] at hTell
 have jP:∀w w',Below B w w'->RowIn (fun q=>q<B) w pE 7 E.length (fun j us=>∃(key:ByteArray) (y:V) (xs:List Value),E[j]?=some (ent key.data.toList y)/\us=.string key :: xs/\key.size<=maxLen/\LiesB B f w xs y)->RowIn (fun q=>q<B) w' pE 7 E.length (fun j us=>∃(key:ByteArray) (y:V) (xs:List Value),E[j]?=some (ent key.data.toList y)/\us=.string key :: xs/\key.size<=maxLen/\LiesB B f w' xs y):=fun w w' hb h=>h.kept (fun _ h=>h) hb.size (fun q hq _=>hb.block q hq) (fun j us _ ⟨key,y,xs,h1,h2,h3,h4⟩=>⟨key,y,xs,h1,h2,h3,h4.next hb⟩)
 have bXB:=bX.mono hBw;have KB:=jhD B R w.heap.size (w.heap.size+1) many fm hfm d (by omega) (E.map (fun e=>qv (jz e).1 (ji F many f (d+1) (jz e).2))) _ (fun w w' ⟨h1,h2,h3⟩ hb hk=>⟨h1.next hk,h2.next hb,jP w w' hb h3⟩) hTell _ l 123 125 (hg.below bX) ⟨hX,hT.next bXB,jP _ _ bXB rE⟩ (by have:=bX.size;omega) hlen (by rw [List.length_map];exact hps);rw [List.length_map] at KB;have HK:=jb KB;obtain⟨_,q2,q3⟩:=hX;have c2:=q2.cell 0 _ rfl;have c30:=q3.cell 0 _ rfl;have c35:=q3.cell 5 _ rfl
 have FIN:Hid (∀w',Below B ((w.alloc (.cells #[.pointer (some ⟨R,0,none⟩)] 207)).alloc (.cells #[.int .i64 6,.int .i64 n,.int .u64 (b:Int),.string s,.slice pL nL cL,.slice pE E.length cE] 26)) w'->KeptR R ((w.alloc (.cells #[.pointer (some ⟨R,0,none⟩)] 207)).alloc (.cells #[.int .i64 6,.int .i64 n,.int .u64 (b:Int),.string s,.slice pL nL cL,.slice pE E.length cE] 26)) w'->Below B w w'/\KeptR R w w'):=jb fun w' h1 h2=>⟨bXB.trans h1,(KeptR.below bX).trans h2⟩
 clear KB q2 q3 hTell jP bX bXB hg hT rE hG ih em hlen hk
 go_enter Tryz.func146,Tryz.ntmps146
 go_wp2_with (go_at_call 193;refine(ja HK).mono ?_;rintro e w1 ⟨⟨v,rfl⟩,g1,b1,k1⟩)
 go_end0;exact⟨⟨_,rfl⟩,g1,FIN.out _ b1 k1⟩
theorem jfn (hF:∀b,b<18446744073709551616->jv b (F b))(k:Int)(k5:(k == 5)=false)(k6:(k == 6)=false)(hn : -9223372036854775808<=n/\n<=9223372036854775807)(hb:b<18446744073709551616)(hs:s.size<=1073741824)(pL:Option Addr)(nL cL:Nat)(pE:Option Addr)(nE cE:Nat)(hg:Pg B R l (d:Int) fm w)(hT:Tb B w)(hBw:B<=w.heap.size)(hlen:l.length+(z7 F (k,n,b,s.data.toList)).length<=140737488355328) :
  Calls Tryz.prog 146 #[.pointer (some ⟨R,0,none⟩),.agg #[.int .i64 k,.int .i64 n,.int .u64 (b:Int),.string s,.slice pL nL cL,.slice pE nE cE]] w fun e w'=>(∃v,e=.returned v)/\Pg B R (l++z7 F (k,n,b,s.data.toList)) (d:Int) fm w'/\Below B w w'/\KeptR R w w':=by
 have e5:¬k=5:=ne_of_beq_false k5;have e6:¬k=6:=ne_of_beq_false k6;obtain⟨hX,bX⟩:=ZT B R w #[.int .i64 k,.int .i64 n,.int .u64 (b:Int),.string s,.slice pL nL cL,.slice pE nE cE] hg.lt;have bXB:=bX.mono hBw;obtain⟨T,hTT⟩:∃T,T=z7 F (k,n,b,s.data.toList):=⟨_,rfl⟩
 obtain⟨W,hW⟩:∃W,W=(w.alloc (.cells #[.pointer (some ⟨R,0,none⟩)] 207)).alloc (.cells #[.int .i64 k,.int .i64 n,.int .u64 (b:Int),.string s,.slice pL nL cL,.slice pE nE cE] 26):=⟨_,rfl⟩
 have hsz:W.heap.size=w.heap.size+2:=by rw [hW];simp
 rw [<-hW] at hX bX bXB;have KL:=jf2 hF W.drew k n b s pL pE nL cL nE cE hn hb hs ((hT.next bXB).tabs.below (Below.drew (Below.refl _ W)));rw [<-hTT] at KL hlen ⊢;have HKL:=jb KL
 have KW:Hid (∀w1,Below W.drew.heap.size W.drew w1->Calls Tryz.prog 197 #[.pointer (some ⟨R,0,none⟩),.string ⟨T.toArray⟩] w1 fun e w'=>e=.returned (.tuple #[])/\Pg B R (l++T) (d:Int) fm w'/\Below B w w'/\KeptR R w w'):=jb fun w1 hb1=>by
  have b01:Below w.heap.size w w1:=(bX.trans (Below.drew (Below.refl _ W))).trans (hb1.mono (by show w.heap.size<=W.heap.size;omega));refine(qM B R l T d fm w1 (hg.below b01) hlen (by have:=b01.size;omega)).mono ?_
  rintro e w' ⟨h1,h2,h3,h4⟩
  exact⟨h1,h2,(b01.mono hBw).trans h3,(KeptR.below b01).trans h4⟩
 obtain⟨_,q2,q3⟩:=hX;have D0:W.drew.cell? ⟨w.heap.size,0,none⟩=some (.pointer (some ⟨R,0,none⟩)):=q2.cell 0 _ rfl
 have D1:∀w1,Hid (Below W.drew.heap.size W.drew w1->w1.cell? ⟨w.heap.size,0,none⟩=some (.pointer (some ⟨R,0,none⟩))):=fun w1=>jb fun hb1=>(hb1.cell (p:=⟨w.heap.size,0,none⟩) (by show w.heap.size<W.heap.size;omega)).trans D0
 have C0:W.cell? ⟨w.heap.size+1,0,none⟩=_:=q3.cell 0 _ rfl
 have E0:W.drew.cell? ⟨w.heap.size+1,0,none⟩=_:=q3.cell 0 _ rfl
 have E1:W.drew.cell? ⟨w.heap.size+1,1,none⟩=_:=q3.cell 1 _ rfl
 have E2:W.drew.cell? ⟨w.heap.size+1,2,none⟩=_:=q3.cell 2 _ rfl
 have E3:W.drew.cell? ⟨w.heap.size+1,3,none⟩=_:=q3.cell 3 _ rfl
 have E4:W.drew.cell? ⟨w.heap.size+1,4,none⟩=_:=q3.cell 4 _ rfl
 have E5:W.drew.cell? ⟨w.heap.size+1,5,none⟩=_:=q3.cell 5 _ rfl
 have mixed:Tryz.prog.follows Departure.mixedOrders=true:=by kernel_rfl
 clear q2 q3 KL hg hT hlen bX bXB hsz hTT hF
 go_enter Tryz.func146,Tryz.ntmps146
 go_upto_region 1 with fail
 rw [<-hW];clear hW;go_wp2
 go_region_with (first
  | (go_at_call 198;refine(ja HKL).mono ?_;rintro e w1 ⟨rfl,b1⟩;have D2:=ja (D1 w1) b1;have KW1:=jb (KW.out w1 b1);clear b1)
  | (go_at_call 197;refine(ja KW1).mono ?_;rintro e w2 ⟨rfl,g2⟩))
 all_goals
  have H2:=jb g2;clear g2;go_wp2;go_end0;exact⟨⟨_,rfl⟩,H2.out⟩
end
theorem jaw (B R:Nat){F:Nat->List UInt8}(hF:∀b,b<18446744073709551616->jv b (F b))(many:Bool)(fm:Int)(hfm:jen many fm):∀f,jf8 B R F many fm f
 | 0=>fun w l d k n b s pL nL cL pE nE cE t _ _ _ hl=>hl.elim
 | f+1=>fun w l d k n b s pL nL cL pE nE cE t hg hT hBw hl hG hd hlen=>by
  have ih:=jaw B R hF many fm hfm f;obtain⟨k',n',b',s',L,E,pL',pE',cL',cE',rfl,e2,⟨h1,h2,h3,h4⟩,⟨h5,h6,h7,h8⟩,rL,rE⟩:=hl;injection e2 with e0 e2;injection e0 with _ e0;injection e2 with e1 e2;injection e1 with _ e1;injection e2 with eb e2;injection eb with _ eb;injection e2 with es e2;injection es with es;injection e2 with eL e2;injection eL with eL1 eL2 eL3;injection e2 with eE _;injection eE with eE1 eE2 eE3;have eb':b=b':=by omega
  subst e0 e1 eb' es eL1 eL2 eL3 eE1 eE2 eE3;obtain⟨o,⟨ho1,ho2⟩,gL,gE⟩:=hG;rw [qJ] at o ho1 ho2 gL gE;simp only at ho1 ho2 gL gE
  have hsz:s.size<=1073741824:=by
   have e:s.data.toList.length=s.size:=by rw [Array.length_toList];rfl
   omega
  rw [ji,qJ] at hlen ⊢;simp only at hlen ⊢;have hfewL:L.length<=9223372036854775807:=by unfold maxLen at h6;omega
  have hfewE:E.length<=9223372036854775807:=by unfold maxLen at h8;omega
  by_cases k5:k=5
  ·subst k5
   rw [if_pos rfl] at hlen ⊢;exact jfA B R f F many fm w l d n b s hfm ih pL L cL pE E.length cE hg hT hBw ⟨h5,h6⟩ hfewL rL gL (by omega) hlen
  ·rw [if_neg k5] at hlen ⊢
   by_cases k6:k=6
   ·subst k6
    rw [if_pos rfl] at hlen ⊢;exact jer B R f F many fm w l d n b s hfm ih pL L.length cL pE E cE hg hT hBw ⟨h7,h8⟩ hfewE rE gE ho2 (by omega) hlen
   ·rw [if_neg k6] at hlen ⊢
    exact jfn B R F fm w l d n b s hF k (beq_false_of_ne k5) (beq_false_of_ne k6) h2 h3 hsz pL L.length cL pE E.length cE hg hT hBw hlen
end valus
end Go.Proofs.YtnbfnjhbmeocfaaGreatDoor
