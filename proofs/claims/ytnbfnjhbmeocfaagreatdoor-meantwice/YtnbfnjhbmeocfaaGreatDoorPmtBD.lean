/- Of our texts, what this claim reaches. -/
import Derived.Test.YtnbfnjhbmeocfaaGreatDoorPmtAV
import Derived.Test.YtnbfnjhbmeocfaaGreatDoorPmtAH
import Derived.BigQuiet
import Derived.Deep.CutRange
import Derived.Test.YtnbfnjhbmeocfaaGreatDoorPmtAU
set_option linter.unusedVariables false
set_option maxHeartbeats 8000000
set_option maxRecDepth 100000
namespace Go.Proofs.YtnbfnjhbmeocfaaGreatDoor
namespace bigs
open Go.RowKit
theorem Zx (s:ByteArray)(k:Nat)(h:k<s.size):s.data.toList[k]?=some (s[k]'h):=by
 rw [List.getElem?_eq_getElem (by rw [jq];exact h)];rfl
theorem jiu {l:List UInt8}{k:Nat}{b:UInt8}(h:jV (l.take k))(hb:l[k]?=some b)(hd:48<=b.toNat/\b.toNat<=57):jV (l.take (k+1)):=by
 rw [List.take_add_one,hb];intro x hx
 rcases List.mem_append.1 hx with h1 | h1
 ·exact h x h1
 ·simp at h1;rw [h1];exact hd
theorem jfI {l:List UInt8}{k:Nat}{b:UInt8}(hb:l[k]?=some b)(hd:¬(48<=b.toNat/\b.toNat<=57)):¬zP l:=by
 intro h;exact hd (h.2 b (List.mem_of_getElem? hb))
theorem Jp (w:World)(s:ByteArray)(f:Bool)(hs:s.size<=80)(hf:Hid (f=true↔zP s.data.toList)) :
  Calls Tryz.prog 98 #[.string s] w fun e w'=>e=.returned (.bool f)/\w'=w:=by
 go_enter Tryz.func98,Tryz.ntmps98
 go_wp2
 go_loopw [3] (fun i wr=>∃k:Nat,k<=s.size/\i=.int .i64 k/\jV (s.data.toList.take k)/\wr=w) (fun i _=>s.size - (intOf i).toNat)
 case atStart=>exact⟨0,Nat.zero_le _,rfl,(fun b hb=>by simp at hb),rfl⟩
 case round=>
  obtain⟨k,hk,rfl,hd,rfl⟩:=hrel
  by_cases hlt:k<s.size
  ·have hb:=Zx s k hlt
   have HB:=jd hb;have HDG:=jd hd;have lt':(k:Int)<(s.size:Int):=by omega
   have u:=UInt8.toNat_lt (s[k]'hlt);clear hb hd
   by_cases c1:(s[k]'hlt).toNat<48
   ·have c1':((s[k]'hlt).toNat:Int)<48:=by omega
    have F:Hid (f=false):=jd (by cases hfe:f with | false=>rfl | true=>exact absurd ((ja hf).1 hfe) (jfI (ja HB) (by omega)));clear hf HB HDG;go_wp2;go_ret;rw [ja F];exact⟨rfl,rfl⟩
   ·have c1':¬((s[k]'hlt).toNat:Int)<48:=by omega
    by_cases c2:57<(s[k]'hlt).toNat
    ·have c2':(57:Int)<((s[k]'hlt).toNat:Int):=by omega
     have F:Hid (f=false):=jd (by cases hfe:f with | false=>rfl | true=>exact absurd ((ja hf).1 hfe) (jfI (ja HB) (by omega)));clear hf HB HDG;go_wp2;go_ret;rw [ja F];exact⟨rfl,rfl⟩
    ·have c2':¬(57:Int)<((s[k]'hlt).toNat:Int):=by omega
     have HN:=jd (jiu (ja HDG) (ja HB) (by omega));clear HB HDG;go_wp2;go_roundw
     case rel=>exact⟨k+1,by omega,by go_num,ja HN,by trivial⟩
     case measure=>simp [intOf];omega
  ·have hkl:k=s.size:=by omega
   have nl:¬(k:Int)<(s.size:Int):=by omega
   subst hkl;have HDG:=jd hd
   have F:Hid (f = !s.toList.isEmpty):=jd (by
    have e:s.data.toList.take s.size=s.data.toList:=by rw [<-jq,List.take_length]
    rw [e] at hd;have e2:s.toList=s.data.toList:=ByteArray.toList_eq s;rw [e2];cases hl:s.data.toList with
    | nil=>
     cases hfe:f with
     | false=>rfl
     | true=>exact absurd hl ((ja hf).1 hfe).1
    | cons b r=>
     have:f=true:=(ja hf).2 ⟨by rw [hl];simp,hd⟩;rw [this];rfl)
   clear hf hd HDG;go_wp2;go_ret;rw [ja F];exact⟨rfl,rfl⟩
def Cap (x y:Int):Prop:=x=y\/(1080<=x/\y=1080)\/(x<=-1080/\y = -1080)
theorem jfC (n:Nat):Cap (n:Int) ((min n 1080:Nat):Int):=by unfold Cap;omega
theorem jj5 {x y:Int}(h:Cap x y):Cap (-x) (-y):=by unfold Cap at *;omega
theorem jcV {l:List UInt8}{k:Nat}{b:UInt8}(hb:l[k]?=some b):dec (l.take (k+1))=dec (l.take k)*10+(b.toNat - 48):=by
 rw [List.take_add_one,hb];exact jde _ _
/-- The loop of exponentOf, behind the signs. -/
theorem Qw (w:World)(z c1 X:ByteArray)(neg f:Bool)(hX:X.size<=80)
  (K1:Hid (Calls Tryz.prog 46 #[.string z,.string ⟨#[45]⟩] w fun e w'=>e=.returned (.tuple #[.string c1,.bool neg])/\w'=w))
  (K2:Hid (neg=false->Calls Tryz.prog 156 #[.string c1,.string ⟨#[43]⟩] w fun e w'=>e=.returned (.string X)/\w'=w)) (hc:Hid (neg=true->c1=X)) (hf:Hid (f=true↔zP X.data.toList)) :
  Calls Tryz.prog 99 #[.string z] w fun e w'=>e=.returned (if f then .tuple #[.int .i64 (if neg then -((min (dec X.data.toList) 1080:Nat):Int) else ((min (dec X.data.toList) 1080:Nat):Int)),.bool true] else .tuple #[.int .i64 0,.bool false])/\w'=w:=by
 have K3:=jd (Jp w X f hX hf);cases hn:neg with
 | true=>
  subst hn;have e1:=ja hc rfl;subst e1;cases hfe:f with
  | false=>
   subst hfe;clear K2 hc hf
   go_enter Tryz.func99,Tryz.ntmps99
   go_wp2_with fail
   refine(ja K1).mono ?_
   rintro e w1 ⟨rfl,rfl⟩
   go_wp2_with fail
   refine(ja K3).mono ?_
   rintro e w2 ⟨rfl,rfl⟩
   go_wp2;go_ret2;exact⟨rfl,rfl⟩
  | true=>
   subst hfe;have HD:=jd ((ja hf).1 rfl).2;clear K2 hc hf
   go_enter Tryz.func99,Tryz.ntmps99
   go_wp2_with fail
   refine(ja K1).mono ?_
   rintro e w1 ⟨rfl,rfl⟩
   go_wp2_with fail
   refine(ja K3).mono ?_
   rintro e w2 ⟨rfl,rfl⟩
   clear K1 K3;go_wp2
   go_loopw [6,5] (fun i a wr=>∃k:Nat,k<=c1.size/\i=.int .i64 k/\a=.int .i64 ((min (dec (c1.data.toList.take k)) 1080:Nat):Int)/\wr=w2) (fun i _ _=>c1.size - (intOf i).toNat)
   case atStart=>exact⟨0,Nat.zero_le _,rfl,rfl,rfl⟩
   case round=>
    obtain⟨k,hk,rfl,rfl,rfl⟩:=hrel
    by_cases hlt:k<c1.size
    ·have hb:=Zx c1 k hlt
     have dg:=ja HD _ (List.mem_of_getElem? hb);have HN:=jd (jcV hb);have lt':(k:Int)<(c1.size:Int):=by omega
     have g1:(48:Int)<=((c1[k]'hlt).toNat:Int):=by omega
     have g2:((c1[k]'hlt).toNat:Int)<=57:=by omega
     clear hb dg;generalize hm:min (dec (c1.data.toList.take k)) 1080=m at *;have m2:m<=1080:=by omega
     have HM:=jd hm;clear hm;go_wp2;go_roundw
     case rel=>exact⟨k+1,by omega,by go_num,by have h1:=ja HN;have h2:=ja HM;rw [h1];congr 1;omega,by trivial⟩
     case measure=>simp [intOf];omega
    ·have hkl:k=c1.size:=by omega
     have nl:¬(k:Int)<(c1.size:Int):=by omega
     subst hkl;have e2:c1.data.toList.take c1.size=c1.data.toList:=by rw [<-jq,List.take_length]
     rw [e2];have m2:min (dec c1.data.toList) 1080<=1080:=by omega
     generalize hm:min (dec c1.data.toList) 1080=m at *;have HM:=jd hm;clear hm;go_wp2;go_ret2;refine⟨?_,rfl⟩;rw [ja HM];rfl
 | false=>
  subst hn;have K2':=jd (ja K2 rfl);cases hfe:f with
  | false=>
   subst hfe;clear K2 hc hf
   go_enter Tryz.func99,Tryz.ntmps99
   go_wp2_with fail
   refine(ja K1).mono ?_
   rintro e w1 ⟨rfl,rfl⟩
   go_wp2_with fail
   refine(ja K2').mono ?_
   rintro e w1b ⟨rfl,rfl⟩
   go_wp2_with fail
   refine(ja K3).mono ?_
   rintro e w2 ⟨rfl,rfl⟩
   go_wp2;go_ret2;exact⟨rfl,rfl⟩
  | true=>
   subst hfe;have HD:=jd ((ja hf).1 rfl).2;clear K2 hc hf
   go_enter Tryz.func99,Tryz.ntmps99
   go_wp2_with fail
   refine(ja K1).mono ?_
   rintro e w1 ⟨rfl,rfl⟩
   go_wp2_with fail
   refine(ja K2').mono ?_
   rintro e w1b ⟨rfl,rfl⟩
   go_wp2_with fail
   refine(ja K3).mono ?_
   rintro e w2 ⟨rfl,rfl⟩
   clear K1 K3 K2';go_wp2
   go_loopw [6,5] (fun i a wr=>∃k:Nat,k<=X.size/\i=.int .i64 k/\a=.int .i64 ((min (dec (X.data.toList.take k)) 1080:Nat):Int)/\wr=w2) (fun i _ _=>X.size - (intOf i).toNat)
   case atStart=>exact⟨0,Nat.zero_le _,rfl,rfl,rfl⟩
   case round=>
    obtain⟨k,hk,rfl,rfl,rfl⟩:=hrel
    by_cases hlt:k<X.size
    ·have hb:=Zx X k hlt
     have dg:=ja HD _ (List.mem_of_getElem? hb);have HN:=jd (jcV hb);have lt':(k:Int)<(X.size:Int):=by omega
     have g1:(48:Int)<=((X[k]'hlt).toNat:Int):=by omega
     have g2:((X[k]'hlt).toNat:Int)<=57:=by omega
     clear hb dg;generalize hm:min (dec (X.data.toList.take k)) 1080=m at *;have m2:m<=1080:=by omega
     have HM:=jd hm;clear hm;go_wp2;go_roundw
     case rel=>exact⟨k+1,by omega,by go_num,by have h1:=ja HN;have h2:=ja HM;rw [h1];congr 1;omega,by trivial⟩
     case measure=>simp [intOf];omega
    ·have hkl:k=X.size:=by omega
     have nl:¬(k:Int)<(X.size:Int):=by omega
     subst hkl;have e2:X.data.toList.take X.size=X.data.toList:=by rw [<-jq,List.take_length]
     rw [e2];have m2:min (dec X.data.toList) 1080<=1080:=by omega
     generalize hm:min (dec X.data.toList) 1080=m at *;have HM:=jd hm;clear hm;go_wp2;go_ret2;refine⟨?_,rfl⟩;rw [ja HM];rfl
open Go.RowKit
theorem XX (c:UInt8)(r:List UInt8):Lib.hasPrefix (c :: r) [c]=true/\Lib.trimPrefix (c :: r) [c]=r:=by
 have h:Lib.hasPrefix (c :: r) [c]=true:=by simp [Lib.hasPrefix]
 exact⟨h,by unfold Lib.trimPrefix;rw [if_pos h];rfl⟩
theorem jci {c:UInt8}{l:List UInt8}(hn:∀r,l≠c :: r):Lib.hasPrefix l [c]=false/\Lib.trimPrefix l [c]=l:=by
 have h:Lib.hasPrefix l [c]=false:=by
  cases l with
  | nil=>rfl
  | cons b r=>
   have:b≠c:=fun e=>hn r (by rw [e])
   simp [Lib.hasPrefix,List.isPrefixOf,Ne.symm this]
 exact⟨h,by unfold Lib.trimPrefix;rw [if_neg (by rw [h];decide)]⟩
theorem jj7 {l:List UInt8}{c:UInt8}:(Lib.trimPrefix l [c]).length<=l.length:=by
 unfold Lib.trimPrefix;split
 ·rw [List.length_drop];omega
 ·exact Nat.le_refl _
theorem ZY (l:List UInt8):(⟨l.toArray⟩:ByteArray).size=l.length:=by simp [ByteArray.size]
theorem Q5 (w:World)(z:ByteArray)(hz:z.size<=80) :
  Calls Tryz.prog 99 #[.string z] w fun e w'=>w'=w/\((∃x y,Exp z.data.toList x/\Cap x y/\-1080<=y/\y<=1080/\e=.returned (.tuple #[.int .i64 y,.bool true]))\/((¬∃x,Exp z.data.toList x)/\e=.returned (.tuple #[.int .i64 0,.bool false]))):=by
 have K1:=Tryz.strings_CutPrefix z ⟨#[45]⟩ w;have e45:(⟨#[45]⟩:ByteArray).data.toList=[45]:=rfl;have e43:(⟨#[43]⟩:ByteArray).data.toList=[43]:=rfl;rw [e45] at K1;have zl:=jq z
 classical
 by_cases c1:∃r,z.data.toList=45 :: r
 ·obtain⟨r,hr⟩:=c1
  obtain⟨p1,p2⟩:=XX 45 r;rw [hr,p1,p2] at K1;have hX:(⟨r.toArray⟩:ByteArray).size<=80:=by rw [ZY];rw [hr,List.length_cons] at zl;omega
  refine(Qw w z ⟨r.toArray⟩ ⟨r.toArray⟩ true (decide (zP r)) hX (jd K1) (jd (fun h=>by cases h)) (jd (fun _=>rfl)) (jd (by simp))).mono ?_
  rintro e w' ⟨rfl,rfl⟩
  refine⟨rfl,?_⟩
  by_cases h:zP r
  ·left
   refine⟨-((dec r:Nat):Int),_,by rw [hr];exact .inl ⟨r,rfl,h,rfl⟩,jj5 (jfC (dec r)),by omega,by omega,?_⟩;simp [h]
  ·right
   refine⟨?_,by simp [h]⟩
   rintro⟨x,hx⟩
   rw [hr] at hx;exact h (Xn hx).1
 ·have n45:∀r,z.data.toList≠45 :: r:=fun r e=>c1 ⟨r,e⟩
  obtain⟨p1,p2⟩:=jci n45;rw [p1,p2] at K1;have ez:(⟨z.data.toList.toArray⟩:ByteArray)=z:=by simp
  rw [ez] at K1;have K2:=Tryz.strings_TrimPrefix z ⟨#[43]⟩ w;rw [e43] at K2;have hX:(⟨(Lib.trimPrefix z.data.toList [43]).toArray⟩:ByteArray).size<=80:=by rw [ZY];have:=jj7 (l:=z.data.toList) (c:=43);omega
  have main:∀x,Exp z.data.toList x↔zP (Lib.trimPrefix z.data.toList [43])/\x=((dec (Lib.trimPrefix z.data.toList [43]):Nat):Int):=by
   intro x
   by_cases c2:∃r,z.data.toList=43 :: r
   ·obtain⟨r,hr⟩:=c2
    rw [hr,(XX 43 r).2];exact⟨YV,fun h=>.inr (.inl ⟨r,rfl,h⟩)⟩
   ·have n43:∀r,z.data.toList≠43 :: r:=fun r e=>c2 ⟨r,e⟩
    rw [(jci n43).2];exact⟨fun h=>Zb h (fun X=>⟨n45 X,n43 X⟩),fun h=>.inr (.inr h)⟩
  generalize Lib.trimPrefix z.data.toList [43]=X at *;refine(Qw w z z ⟨X.toArray⟩ false (decide (zP X)) hX (jd K1) (jd (fun _=>K2)) (jd (fun h=>by cases h)) (jd (by simp))).mono ?_
  rintro e w' ⟨rfl,rfl⟩
  refine⟨rfl,?_⟩
  by_cases h:zP X
  ·left
   refine⟨_,_,(main _).2 ⟨h,rfl⟩,jfC (dec X),by omega,by omega,?_⟩;simp [h]
  ·right
   refine⟨?_,by simp [h]⟩
   rintro⟨x,hx⟩
   exact h ((main x).1 hx).1
def XA (l:List UInt8)(c:UInt8)(A B:List UInt8)(f:Bool):Prop:=(f=true/\l=A++c :: B/\c∉A)\/(f=false/\A=l/\B=[]/\c∉l)
theorem jdJ:∀{A B A' B':List UInt8} {c:UInt8},A++c :: B=A'++c :: B'->c∉A->c∉A'->A=A'/\B=B':=by
 intro A
 induction A with
 | nil=>
  intro B A' B' c h _ n';cases A' with
  | nil=>injection h with _ h2;exact⟨rfl,h2⟩
  | cons b r=>
   injection h with h1 _;exact absurd (by rw [h1];simp) n'
 | cons a A ih=>
  intro B A' B' c h n n';cases A' with
  | nil=>
   injection h with h1 _;exact absurd (by rw [h1];simp) n
  | cons b r=>
   injection h with h1 h2;obtain⟨e1,e2⟩:=ih h2 (fun m=>n (List.mem_cons_of_mem _ m)) (fun m=>n' (List.mem_cons_of_mem _ m));exact⟨by rw [h1,e1],e2⟩
theorem X9 {l A B A' B':List UInt8}{c:UInt8}{f:Bool}(h:XA l c A B f)(e:l=A'++c :: B')(n:c∉A'):f=true/\A=A'/\B=B':=by
 rcases h with ⟨h1,h2,h3⟩ | ⟨h1,h2,h3,h4⟩
 ·obtain⟨e1,e2⟩:=jdJ (h2.symm.trans e) h3 n
  exact⟨h1,e1,e2⟩
 ·exact absurd (by rw [e];simp) h4
theorem jf6 {l A B:List UInt8}{c:UInt8}{f:Bool}(h:XA l c A B f)(n:c∉l):f=false/\A=l/\B=[]:=by
 rcases h with ⟨h1,h2,h3⟩ | ⟨h1,h2,h3,h4⟩
 ·exact absurd (by rw [h2];simp) n
 ·exact⟨h1,h2,h3⟩
theorem XV {l:List UInt8}{c:UInt8}(h:jV l)(hc:¬(48<=c.toNat/\c.toNat<=57)):c∉l:=fun m=>hc (h c m)
theorem jkz {t M T W P W' P':List UInt8}{fe fp:Bool}{x:Int}(h1:XA t 101 M T fe)(h2:XA M 46 W P fp) :
  Num t W' P' x↔W'=W/\P'=P/\zP W/\(W.length=1\/W.getD 0 0≠48)/\(fp=true->zP P)/\((fe=false/\fp=true/\x=0)\/(fe=true/\Exp T x)):=by
 constructor
 ·rintro⟨R,e,a,z,r⟩
  have nW1:=XV (c:=101) a.2 (by decide);have nW2:=XV (c:=46) a.2 (by decide)
  rcases r with ⟨rfl,p,rfl⟩ | ⟨Z,rfl,p,ex⟩ | ⟨Z,rfl,rfl,ex⟩
  ·have nP1:=XV (c:=101) p.2 (by decide)
   have n:(101:UInt8)∉t:=by
    rw [e];simp only [List.mem_append,List.mem_cons]
    rintro(m | m | m)
    ·exact nW1 m
    ·exact absurd m (by decide)
    ·exact nP1 m
   obtain⟨f1,m1,_⟩:=jf6 h1 n;obtain⟨f2,w1,p1⟩:=X9 h2 (m1.trans e) nW2;subst w1 p1;exact⟨rfl,rfl,a,z,fun _=>p,.inl ⟨f1,f2,rfl⟩⟩
  ·have nP1:=XV (c:=101) p.2 (by decide)
   have e':t=(W'++46 :: P')++101 :: Z:=by rw [e];simp
   have n:(101:UInt8)∉W'++46 :: P':=by
    simp only [List.mem_append,List.mem_cons]
    rintro(m | m | m)
    ·exact nW1 m
    ·exact absurd m (by decide)
    ·exact nP1 m
   obtain⟨f1,m1,t1⟩:=X9 h1 e' n;obtain⟨f2,w1,p1⟩:=X9 h2 m1 nW2;subst w1 p1 t1;exact⟨rfl,rfl,a,z,fun _=>p,.inr ⟨f1,ex⟩⟩
  ·obtain⟨f1,m1,t1⟩:=X9 h1 e nW1
   obtain⟨f2,w1,p1⟩:=jf6 h2 (by rw [m1];exact nW2);subst t1;refine⟨by rw [w1,m1],p1.symm,by rw [w1,m1];exact a,by rw [w1,m1];exact z,(fun h=>(by rw [f2] at h;cases h)),.inr ⟨f1,ex⟩⟩
 ·rintro⟨rfl,rfl,a,z,p,r⟩
  rcases h1 with ⟨f1,e1,n1⟩ | ⟨f1,e1,e2,n1⟩
  ·rcases r with ⟨g,_⟩ | ⟨_,ex⟩
   ·rw [f1] at g;cases g
   ·rcases h2 with ⟨f2,e3,n2⟩ | ⟨f2,e3,e4,n2⟩
    ·refine⟨46 :: (P'++101 :: T),by rw [e1,e3];simp,a,z,.inr (.inl ⟨T,rfl,p f2,ex⟩)⟩
    ·refine⟨101 :: T,by rw [e1,<-e3],a,z,.inr (.inr ⟨T,rfl,e4,ex⟩)⟩
  ·rcases r with ⟨_,g2,g3⟩ | ⟨g,_⟩
   ·rcases h2 with ⟨f2,e3,n2⟩ | ⟨f2,e3,e4,n2⟩
    ·exact⟨46 :: P',by rw [<-e1,e3],a,z,.inl ⟨rfl,p f2,g3⟩⟩
    ·rw [f2] at g2;cases g2
   ·rw [f1] at g;cases g
theorem JM (s:ByteArray)(a b:Nat):(s.extract a b).data.toList=(s.data.toList.take b).drop a:=by
 rw [ByteArray.data_extract,Array.toList_extract];simp [List.extract,List.drop_take]
theorem jgk {l:List UInt8}{c:UInt8}{i:Nat}(h:Lib.indexByte l c=(i:Int)):i<l.length/\l=l.take i++c :: l.drop (i+1)/\c∉l.take i:=by
 obtain⟨h1,h2⟩:=Lib.indexByte_some h;have hl:i<l.length:=(List.getElem?_eq_some_iff.1 h1).1;refine⟨hl,?_,?_⟩
 ·have e:=(List.getElem?_eq_some_iff.1 h1).2
  rw [<-e,List.getElem_cons_drop,List.take_append_drop]
 ·intro m
  obtain⟨k,hk,e⟩:=List.mem_iff_getElem.1 m;rw [List.length_take] at hk;refine h2 k (by omega) ?_
  rw [List.getElem_take] at e;rw [<-e];exact List.getElem?_eq_getElem (by omega)
theorem jc9 (w:World)(s:ByteArray)(c:UInt8)(hs:s.size<=80) :
  Calls Tryz.prog 155 #[.string s,.string ⟨#[c]⟩] w fun e w'=>∃(A B:ByteArray) (f:Bool),e=.returned (.tuple #[.string A,.string B,.bool f])/\XA s.data.toList c A.data.toList B.data.toList f/\A.size<=s.size/\B.size<=s.size/\Below w.heap.size w w':=by
 have K1:=Tryz.stringslite_Index_one s c w
 by_cases hx:Lib.indexByte s.data.toList c = -1
 ·rw [hx] at K1
  have K:=jd K1
  have n:c∉s.data.toList:=by
   intro m;obtain⟨k,hk,e⟩:=List.mem_iff_getElem.1 m;exact Lib.indexByte_none hx k (by rw [<-e];exact List.getElem?_eq_getElem hk)
  have N:=jd n;clear K1 hx n
  go_enter Tryz.func155,Tryz.ntmps155
  go_wp2_with fail
  refine(ja K).mono ?_
  rintro e w1 ⟨rfl,rfl⟩
  go_wp2
  go_ret3
  exact⟨s,⟨#[]⟩,false,rfl,.inr ⟨rfl,rfl,rfl,ja N⟩,Nat.le_refl _,(Nat.zero_le _:(0:Nat)<=s.size),Below.refl _ _⟩
 ·obtain⟨i,hi⟩:∃i:Nat,Lib.indexByte s.data.toList c=(i:Int):=⟨(Lib.indexByte s.data.toList c).toNat,by have:=Lib.indexByte_ge s.data.toList c;omega⟩
  rw [hi] at K1;have K:=jd K1;obtain⟨hl,e1,n1⟩:=jgk hi;rw [jq] at hl
  have C:Hid (XA s.data.toList c (s.extract 0 i).data.toList (s.extract (i+1) s.size).data.toList true):=jd (by
   rw [JM,JM,List.drop_zero,<-jq,List.take_length];exact .inl ⟨rfl,e1,n1⟩)
  have A1:Hid ((s.extract 0 i).size<=s.size):=jd (by rw [<-jq,JM,<-jq,List.length_drop,List.length_take];omega);have A2:Hid ((s.extract (i+1) s.size).size<=s.size):=jd (by rw [<-jq,JM,List.length_drop,List.length_take,<-jq];omega);clear K1 hx hi e1 n1;have t1:(0:Int)<=(i:Int):=by omega
  have t2:(i:Int)<=(s.size:Int):=by omega
  have t3:(i:Int)+1<=(s.size:Int):=by omega
  have t4:(0:Int)<=(i:Int)+1:=by omega
  go_enter Tryz.func155,Tryz.ntmps155
  go_wp2_with fail
  refine(ja K).mono ?_
  rintro e w1 ⟨rfl,rfl⟩
  go_wp2_with fail
  go_quiet (fail)
  go_wp2
  go_ret3
  exact⟨_,_,true,rfl,ja C,ja A1,ja A2,below_drewN (Below.refl _ _) _⟩
theorem jdi (w:World)(s:ByteArray)(c:UInt8)(hs:s.size<=80) :
  Calls Tryz.prog 97 #[.string s,.string ⟨#[c]⟩] w fun e w'=>∃(A B:ByteArray) (f:Bool),e=.returned (.tuple #[.string A,.string B,.bool f])/\XA s.data.toList c A.data.toList B.data.toList f/\A.size<=s.size/\B.size<=s.size/\Below w.heap.size w w':=by
 have K:=jd (jc9 w s c hs)
 go_enter Tryz.func97,Tryz.ntmps97
 go_wp2_with fail
 refine(ja K).mono ?_
 rintro e w1 ⟨A,B,f,rfl,h1,h2,h3,h4⟩
 have H:=jd h1;clear h1 K;go_wp2
 go_ret3
 exact⟨A,B,f,rfl,ja H,h2,h3,h4⟩
open Go.RowKit
theorem Blk.set2 {w:World}{b:Nat}{x y:Value}{t:Nat}(h:Blk w b #[x,y] t)(u1 u2:Value):Blk ((w.setCell ⟨b,0,none⟩ u1).setCell ⟨b,1,none⟩ u2) b #[u1,u2] t:=by
 have:=(h.set 0 u1).set 1 u2;simpa using this
theorem qo {B:Nat}{a w:World}{b:Nat}(h:Below B a w)(hb:B<=b)(u1 u2:Value):Below B a ((w.setCell ⟨b,0,none⟩ u1).setCell ⟨b,1,none⟩ u2) :=
 (h.setCell (p:=⟨b,0,none⟩) hb u1).setCell (p:=⟨b,1,none⟩) hb u2
theorem Yr (a b:ByteArray):(a++b).data.toList=a.data.toList++b.data.toList:=by
 rw [ByteArray.data_append,Array.toList_append]
def Jl (t:List UInt8)(D:List UInt8)(y:Int)(f:Bool):Prop:=(f=true/\∃W P x z,Num t W P x/\D=W++P/\Cap x z/\y=z - (P.length:Int))\/(f=false/\¬∃W P x,Num t W P x)
theorem jaQ (w:World)(t:ByteArray)(ht:t.size<=80)
  (K1:Hid (∀w,Calls Tryz.prog 97 #[.string t,.string ⟨#[101]⟩] w fun e w'=>∃(A B:ByteArray) (f:Bool),e=.returned (.tuple #[.string A,.string B,.bool f])/\XA t.data.toList 101 A.data.toList B.data.toList f/\A.size<=t.size/\B.size<=t.size/\Below w.heap.size w w')) :
  Calls Tryz.prog 50 #[.string t] w fun e w'=>∃(D:ByteArray) (y:Int) (f:Bool),e=.returned (.tuple #[.agg #[.string D,.int .i64 y],.bool f])/\Jl t.data.toList D.data.toList y f/\Below w.heap.size w w':=by
 have b0:Below w.heap.size w (w.alloc (.cells #[.string ⟨#[]⟩,.int .i64 0] 95)):=(Below.refl _ _).alloc (Nat.le_refl _) _;have bk0:=jf w #[.string ⟨#[]⟩,.int .i64 0] 95
 go_enter Tryz.func50,Tryz.ntmps50
 go_wp2_with fail
 generalize w.alloc (.cells #[.string ⟨#[]⟩,.int .i64 0] 95)=w0 at *;refine(ja K1 w0).mono ?_
 rintro e w1 ⟨M,T,fe,rfl,c1,m1,m2,b1⟩
 have C1:=jd c1;have bw1:=b0.trans (b1.mono b0.size);have bk1:=bk0.below b1;have K2:=jd (jdi w1 M 46 (by omega));clear K1 b0 bk0 b1 c1
 go_wp2_with fail
 refine(ja K2).mono ?_
 rintro e w2 ⟨W,P,fp,rfl,c2,m3,m4,b2⟩
 have bw2:=bw1.trans (b2.mono bw1.size);have bk2:=bk1.below b2;have NC:∀W' P' x,Hid _:=fun W' P' x=>jd (jkz (W':=W') (P':=P') (x:=x) (ja C1) c2)
 have C2:=jd c2;clear K2 bk1 b2 bw1 c2 C1
 classical
 have K3:=jd (Jp w2 W (decide (zP W.data.toList)) (by omega) (jd (by simp)));have q0:=bk2.cell 0 _ rfl;have q1:=bk2.cell 1 _ rfl;have z0:=bk2.froz 0;have z1:=bk2.froz 1
 by_cases h1:zP W.data.toList
 ·rw [decide_eq_true h1] at K3
  have lw:0<W.size:=by
   rcases Nat.eq_zero_or_pos W.size with e | e
   ·exact absurd (List.eq_nil_of_length_eq_zero (by rw [jq];exact e)) h1.1
   ·exact e
  have li:(0:Int)<(W.size:Int):=by omega
  have g0:W.data.toList.getD 0 0=(W[0]'lw):=by
   have:=Zx W 0 lw;rw [List.getD,this];rfl
  have gl:W.data.toList.length=W.size:=jq W
  by_cases lead:(W[0]'lw).toNat=48/\1<W.size
  ·have FR:Hid (Jl t.data.toList (⟨#[]⟩:ByteArray).data.toList 0 false):=jd (.inr ⟨rfl,fun⟨W',P',x,h⟩=>by
    have k:=((ja (NC W' P' x)).1 h).2.2.2.1;rw [g0,gl] at k
    rcases k with k | k
    ·omega
    ·exact k (UInt8.toNat_inj.1 lead.1)⟩)
   have l1:((W[0]'lw).toNat:Int)=48:=by omega
   have l2:(1:Int)<(W.size:Int):=by omega
   have F:=bk2.set2 (.string ⟨#[]⟩) (.int .i64 0);have FC:=jd (And.intro (F.cell 0 _ rfl) (F.cell 1 _ rfl));have BB:=jd (qo bw2 (Nat.le_refl _) (.string ⟨#[]⟩) (.int .i64 0));clear F;clear NC bk2 h1 g0 gl lead
   go_wp2_with fail
   refine(ja K3).mono ?_
   rintro e w3 ⟨rfl,rfl⟩
   go_wp2;obtain⟨f0,f1⟩:=ja FC;have BBu:=ja BB;clear q0 q1 z0 z1 FC BB;generalize ((w3.setCell ⟨w.heap.size,0,none⟩ (.string ⟨#[]⟩)).setCell ⟨w.heap.size,1,none⟩ (.int .i64 0))=wF at *;refine bodyPost_ret (v:=.tuple #[.agg #[.string ⟨#[]⟩,.int .i64 0],.bool false]) (by simp [results,Tryz.results50,go_sem,f0,f1]) rfl ?_
   exact⟨_,_,_,rfl,ja FR,BBu⟩
  ·have hlead:W.data.toList.length=1\/W.data.toList.getD 0 0≠48:=by
    rw [g0,gl]
    by_cases k:(W[0]'lw).toNat=48
    ·left;omega
    ·right;intro e;exact k (by rw [e];rfl)
   have HL:=jd hlead;have H1:=jd h1;have ld:((W[0]'lw).toNat:Int)≠48\/¬(1:Int)<(W.size:Int):=by omega
   clear hlead h1 g0 gl lead
   go_wp2_with fail
   refine(ja K3).mono ?_
   rintro e w3 ⟨rfl,rfl⟩
   clear K3
   go_upto_region 5 with fail
   all_goals
    cases hfp:fp with
    | false=>
     subst hfp;cases hfe:fe with
     | false=>
      subst hfe
      have FR:Hid (Jl t.data.toList (W++P).data.toList (-(P.size:Int)) false):=jd (.inr ⟨rfl,fun⟨W',P',x,h⟩=>by
       rcases((ja (NC W' P' x)).1 h).2.2.2.2.2 with ⟨_,k,_⟩ | ⟨k,_⟩
       ·cases k
       ·cases k⟩)
      have F:=bk2.set2 (.string (W++P)) (.int .i64 (-(P.size:Int)));have FC:=jd (And.intro (F.cell 0 _ rfl) (F.cell 1 _ rfl));have BB:=jd (qo bw2 (Nat.le_refl _) (.string (W++P)) (.int .i64 (-(P.size:Int))));clear F;clear NC bk2;go_wp2;obtain⟨f0,f1⟩:=ja FC;have BBu:=ja BB;clear q0 q1 z0 z1 FC BB;generalize ((w3.setCell ⟨w.heap.size,0,none⟩ (.string (W++P))).setCell ⟨w.heap.size,1,none⟩ (.int .i64 (-(P.size:Int))))=wF at *;refine bodyPost_ret (v:=.tuple #[.agg #[.string (W++P),.int .i64 (-(P.size:Int))],.bool false]) (by simp [results,Tryz.results50,go_sem,f0,f1]) rfl ?_
      exact⟨_,_,_,rfl,ja FR,BBu⟩
     | true=>
      subst hfe;have K5:=jd (Q5 w3 T (by omega))
      go_wp2_with fail
      refine(ja K5).mono ?_
      rintro e w4 ⟨rfl,hh⟩
      rcases hh with ⟨x,y,hx,hcap,y1,y2,rfl⟩ | ⟨hno,rfl⟩
      ·have FR:Hid (Jl t.data.toList (W++P).data.toList (y - (P.size:Int)) true):=jd (.inl ⟨rfl,W.data.toList,P.data.toList,x,y,(ja (NC _ _ x)).2 ⟨rfl,rfl,ja H1,ja HL,(fun h=>by cases h),.inr ⟨by first | rfl | trivial,hx⟩⟩,Yr W P,hcap,by rw [jq]⟩)
       have F:=bk2.set2 (.string (W++P)) (.int .i64 (y - (P.size:Int)));have FC:=jd (And.intro (F.cell 0 _ rfl) (F.cell 1 _ rfl));have BB:=jd (qo bw2 (Nat.le_refl _) (.string (W++P)) (.int .i64 (y - (P.size:Int))));clear F;clear NC bk2 K5 hx hcap;go_wp2;obtain⟨f0,f1⟩:=ja FC;have BBu:=ja BB;clear q0 q1 z0 z1 FC BB;generalize ((w4.setCell ⟨w.heap.size,0,none⟩ (.string (W++P))).setCell ⟨w.heap.size,1,none⟩ (.int .i64 (y - (P.size:Int))))=wF at *;refine bodyPost_ret (v:=.tuple #[.agg #[.string (W++P),.int .i64 (y - (P.size:Int))],.bool true]) (by simp [results,Tryz.results50,go_sem,f0,f1]) rfl ?_
       exact⟨_,_,_,rfl,ja FR,BBu⟩
      ·have FR:Hid (Jl t.data.toList (W++P).data.toList (-(P.size:Int)) false):=jd (.inr ⟨rfl,fun⟨W',P',x,h⟩=>by
        rcases((ja (NC W' P' x)).1 h).2.2.2.2.2 with ⟨k,_⟩ | ⟨_,k⟩
        ·cases k
        ·exact hno ⟨x,k⟩⟩)
       have F:=bk2.set2 (.string (W++P)) (.int .i64 (-(P.size:Int)));have FC:=jd (And.intro (F.cell 0 _ rfl) (F.cell 1 _ rfl));have BB:=jd (qo bw2 (Nat.le_refl _) (.string (W++P)) (.int .i64 (-(P.size:Int))));clear F;clear NC bk2 K5 hno;go_wp2;obtain⟨f0,f1⟩:=ja FC;have BBu:=ja BB;clear q0 q1 z0 z1 FC BB;generalize ((w4.setCell ⟨w.heap.size,0,none⟩ (.string (W++P))).setCell ⟨w.heap.size,1,none⟩ (.int .i64 (-(P.size:Int))))=wF at *;refine bodyPost_ret (v:=.tuple #[.agg #[.string (W++P),.int .i64 (-(P.size:Int))],.bool false]) (by simp [results,Tryz.results50,go_sem,f0,f1]) rfl ?_
       exact⟨_,_,_,rfl,ja FR,BBu⟩
    | true=>
     subst hfp;have K4:=jd (Jp w3 P (decide (zP P.data.toList)) (by omega) (jd (by simp)))
     by_cases h2:zP P.data.toList
     ·rw [decide_eq_true h2] at K4
      have H2:=jd h2;clear h2;cases hfe:fe with
      | false=>
       subst hfe;have FR:Hid (Jl t.data.toList (W++P).data.toList (-(P.size:Int)) true):=jd (.inl ⟨rfl,W.data.toList,P.data.toList,0,0,(ja (NC _ _ 0)).2 ⟨rfl,rfl,ja H1,ja HL,(fun _=>ja H2),.inl ⟨rfl,rfl,rfl⟩⟩,Yr W P,.inl rfl,by rw [jq];omega⟩);have F:=bk2.set2 (.string (W++P)) (.int .i64 (-(P.size:Int)));have FC:=jd (And.intro (F.cell 0 _ rfl) (F.cell 1 _ rfl));have BB:=jd (qo bw2 (Nat.le_refl _) (.string (W++P)) (.int .i64 (-(P.size:Int))));clear F;clear NC bk2
       go_wp2_with fail
       refine(ja K4).mono ?_
       rintro e w5 ⟨rfl,rfl⟩
       go_wp2;obtain⟨f0,f1⟩:=ja FC;have BBu:=ja BB;clear q0 q1 z0 z1 FC BB;generalize ((w5.setCell ⟨w.heap.size,0,none⟩ (.string (W++P))).setCell ⟨w.heap.size,1,none⟩ (.int .i64 (-(P.size:Int))))=wF at *;refine bodyPost_ret (v:=.tuple #[.agg #[.string (W++P),.int .i64 (-(P.size:Int))],.bool true]) (by simp [results,Tryz.results50,go_sem,f0,f1]) rfl ?_
       exact⟨_,_,_,rfl,ja FR,BBu⟩
      | true=>
       subst hfe
       go_wp2_with fail
       refine(ja K4).mono ?_
       rintro e w5 ⟨rfl,rfl⟩
       clear K4;have K5:=jd (Q5 w5 T (by omega))
       go_wp2_with fail
       refine(ja K5).mono ?_
       rintro e w4 ⟨rfl,hh⟩
       rcases hh with ⟨x,y,hx,hcap,y1,y2,rfl⟩ | ⟨hno,rfl⟩
       ·have FR:Hid (Jl t.data.toList (W++P).data.toList (y - (P.size:Int)) true):=jd (.inl ⟨rfl,W.data.toList,P.data.toList,x,y,(ja (NC _ _ x)).2 ⟨rfl,rfl,ja H1,ja HL,(fun _=>ja H2),.inr ⟨by first | rfl | trivial,hx⟩⟩,Yr W P,hcap,by rw [jq]⟩)
        have F:=bk2.set2 (.string (W++P)) (.int .i64 (y - (P.size:Int)));have FC:=jd (And.intro (F.cell 0 _ rfl) (F.cell 1 _ rfl));have BB:=jd (qo bw2 (Nat.le_refl _) (.string (W++P)) (.int .i64 (y - (P.size:Int))));clear F;clear NC bk2 K5 hx hcap;go_wp2;obtain⟨f0,f1⟩:=ja FC;have BBu:=ja BB;clear q0 q1 z0 z1 FC BB;generalize ((w4.setCell ⟨w.heap.size,0,none⟩ (.string (W++P))).setCell ⟨w.heap.size,1,none⟩ (.int .i64 (y - (P.size:Int))))=wF at *;refine bodyPost_ret (v:=.tuple #[.agg #[.string (W++P),.int .i64 (y - (P.size:Int))],.bool true]) (by simp [results,Tryz.results50,go_sem,f0,f1]) rfl ?_
        exact⟨_,_,_,rfl,ja FR,BBu⟩
       ·have FR:Hid (Jl t.data.toList (W++P).data.toList (-(P.size:Int)) false):=jd (.inr ⟨rfl,fun⟨W',P',x,h⟩=>by
         rcases((ja (NC W' P' x)).1 h).2.2.2.2.2 with ⟨k,_⟩ | ⟨_,k⟩
         ·cases k
         ·exact hno ⟨x,k⟩⟩)
        have F:=bk2.set2 (.string (W++P)) (.int .i64 (-(P.size:Int)));have FC:=jd (And.intro (F.cell 0 _ rfl) (F.cell 1 _ rfl));have BB:=jd (qo bw2 (Nat.le_refl _) (.string (W++P)) (.int .i64 (-(P.size:Int))));clear F;clear NC bk2 K5 hno;go_wp2;obtain⟨f0,f1⟩:=ja FC;have BBu:=ja BB;clear q0 q1 z0 z1 FC BB;generalize ((w4.setCell ⟨w.heap.size,0,none⟩ (.string (W++P))).setCell ⟨w.heap.size,1,none⟩ (.int .i64 (-(P.size:Int))))=wF at *;refine bodyPost_ret (v:=.tuple #[.agg #[.string (W++P),.int .i64 (-(P.size:Int))],.bool false]) (by simp [results,Tryz.results50,go_sem,f0,f1]) rfl ?_
        exact⟨_,_,_,rfl,ja FR,BBu⟩
     ·rw [decide_eq_false h2] at K4
      have FR:Hid (Jl t.data.toList (⟨#[]⟩:ByteArray).data.toList 0 false):=jd (.inr ⟨rfl,fun⟨W',P',x,h⟩=>h2 (((ja (NC W' P' x)).1 h).2.2.2.2.1 rfl)⟩);have F:=bk2.set2 (.string ⟨#[]⟩) (.int .i64 0);have FC:=jd (And.intro (F.cell 0 _ rfl) (F.cell 1 _ rfl));have BB:=jd (qo bw2 (Nat.le_refl _) (.string ⟨#[]⟩) (.int .i64 0));clear F;clear NC bk2 h2
      go_wp2_with fail
      refine(ja K4).mono ?_
      rintro e w5 ⟨rfl,rfl⟩
      go_wp2;obtain⟨f0,f1⟩:=ja FC;have BBu:=ja BB;clear q0 q1 z0 z1 FC BB;generalize ((w5.setCell ⟨w.heap.size,0,none⟩ (.string ⟨#[]⟩)).setCell ⟨w.heap.size,1,none⟩ (.int .i64 0))=wF at *;refine bodyPost_ret (v:=.tuple #[.agg #[.string ⟨#[]⟩,.int .i64 0],.bool false]) (by simp [results,Tryz.results50,go_sem,f0,f1]) rfl ?_
      exact⟨_,_,_,rfl,ja FR,BBu⟩
 ·rw [decide_eq_false h1] at K3
  have FR:Hid (Jl t.data.toList (⟨#[]⟩:ByteArray).data.toList 0 false):=jd (.inr ⟨rfl,fun⟨W',P',x,h⟩=>h1 ((ja (NC W' P' x)).1 h).2.2.1⟩);have F:=bk2.set2 (.string ⟨#[]⟩) (.int .i64 0);have FC:=jd (And.intro (F.cell 0 _ rfl) (F.cell 1 _ rfl));have BB:=jd (qo bw2 (Nat.le_refl _) (.string ⟨#[]⟩) (.int .i64 0));clear F;clear NC bk2 h1
  go_wp2_with fail
  refine(ja K3).mono ?_
  rintro e w3 ⟨rfl,rfl⟩
  go_wp2;obtain⟨f0,f1⟩:=ja FC;have BBu:=ja BB;clear q0 q1 z0 z1 FC BB;generalize ((w3.setCell ⟨w.heap.size,0,none⟩ (.string ⟨#[]⟩)).setCell ⟨w.heap.size,1,none⟩ (.int .i64 0))=wF at *;refine bodyPost_ret (v:=.tuple #[.agg #[.string ⟨#[]⟩,.int .i64 0],.bool false]) (by simp [results,Tryz.results50,go_sem,f0,f1]) rfl ?_
  exact⟨_,_,_,rfl,ja FR,BBu⟩
open Go.RowKit
theorem jis:∀l:List UInt8,dec (Lib.trimLeftB l 48)=dec l:=by
 intro l
 induction l with
 | nil=>rfl
 | cons b r ih=>
  unfold Lib.trimLeftB;rw [List.dropWhile_cons];split
  ·rename_i h
   have e:b=48:=by simpa using h
   have ih':dec (r.dropWhile (· == 48))=dec r:=ih;rw [ih',e,jek];simp
  ·rfl
theorem jiG {l:List UInt8}(h:jV l):jV (Lib.trimLeftB l 48):=fun b hb=>h b ((List.dropWhile_sublist _).subset hb)
theorem jia (l:List UInt8):(Lib.trimLeftB l 48).length<=l.length:=(List.dropWhile_sublist _).length_le
theorem jhB (l:List UInt8):Lib.trimLeftB l 48=[]\/(Lib.trimLeftB l 48).getD 0 0≠48:=by
 induction l with
 | nil=>exact .inl rfl
 | cons b r ih=>
  unfold Lib.trimLeftB at *;rw [List.dropWhile_cons];split
  ·exact ih
  ·rename_i h
   right
   simpa using h
theorem jgc (w:World)(S:ByteArray)(hs:S.size<=80)(d:jV S.data.toList)(h:S.data.toList=[]\/S.data.toList.getD 0 0≠48) :
  Calls Tryz.prog 100 #[.string S] w fun e w'=>∃v' x,e=.returned (.tuple #[v',.int .i64 x])/\WBig w' v' (dec S.data.toList)/\Below w.heap.size w w':=by
 rcases h with h | h
 ·refine(ZH w S (by omega) (fun f=>f.1 h)).mono ?_
  rintro e w' ⟨a,cap,rfl,b⟩
  refine⟨_,_,rfl,?_,b⟩;rw [h,jck];exact⟨a,cap,by rw [jy];rfl,by rw [jy];simp,by rw [jy];exact fun h=>absurd rfl h⟩
 ·by_cases c:S.data.toList=[]
  ·rw [c] at h
   refine(ZH w S (by omega) (fun f=>f.1 c)).mono ?_
   rintro e w' ⟨a,cap,rfl,b⟩
   refine⟨_,_,rfl,?_,b⟩;rw [c,jck];exact⟨a,cap,by rw [jy];rfl,by rw [jy];simp,by rw [jy];exact fun h=>absurd rfl h⟩
  ·refine(jjz w S (by omega) ⟨c,d,.inl h⟩).mono ?_
   rintro e w' ⟨v,rfl,hv,b⟩
   exact⟨_,_,rfl,hv,b⟩
theorem je6 {l:List UInt8}(d:jV l)(h:l.length<=80):(jh (dec l)).length<=9:=by
 have h1:=jcy d;have h2:10 ^ l.length<=10 ^ 80:=Nat.pow_le_pow_right (by decide) h;refine qm (Nat.lt_of_lt_of_le h1 (Nat.le_trans h2 ?_))
 decide
theorem jbg (w:World)(D:ByteArray)(y cl:Int)(hD:D.size<=80)(d:jV D.data.toList)(hc:max (-1000) (min y 1000)=cl) :
  Calls Tryz.prog 51 #[.agg #[.string D,.int .i64 y]] w fun e w'=>∃r:Nat,e=.returned (.int .u64 r)/\zO (dec D.data.toList) cl r/\Below w.heap.size w w':=by
 have e48:(⟨#[48]⟩:ByteArray).data.toList=[48]:=rfl;have K1:∀w,Hid _:=fun w=>jd (Tryz.strings_TrimLeft_one D 48 (by decide) w)
 have hl:=jia D.data.toList;rw [jq] at hl
 have K2:∀w,Hid (Calls Tryz.prog 100 #[.string ⟨(Lib.trimLeftB D.data.toList 48).toArray⟩] w fun e w'=>∃v' x,e=.returned (.tuple #[v',.int .i64 x])/\WBig w' v' (dec D.data.toList)/\Below w.heap.size w w'):=fun w=>by
  have h:=jgc w ⟨(Lib.trimLeftB D.data.toList 48).toArray⟩ (by rw [ZY];omega) (jiG d) (jhB _);have e:(⟨(Lib.trimLeftB D.data.toList 48).toArray⟩:ByteArray).data.toList=Lib.trimLeftB D.data.toList 48:=rfl;rw [e,jis] at h;exact jd h
 have hw:=je6 d (by rw [jq];exact hD)
 have K3:∀w v,WBig w v (dec D.data.toList)->Hid (Calls Tryz.prog 102 #[v,.int .i64 cl] w fun e w'=>∃r:Nat,e=.returned (.tuple #[.int .u64 r,.int .i64 0])/\zO (dec D.data.toList) cl r/\Below w.heap.size w w'):=fun w v hv=>by
  have h:=jgy w v (jh (dec D.data.toList)) cl hv (jl _) (by omega) (by rw [jo];have:=qO (dec D.data.toList);omega) (by omega) (by omega);rw [jo] at h;exact jd h
 clear hl hw;generalize dec D.data.toList=m at *;have b0:Below w.heap.size w (w.alloc (.cells #[.string D,.int .i64 y] 95)):=(Below.refl _ _).alloc (Nat.le_refl _) _;have bk0:=jf w #[.string D,.int .i64 y] 95
 go_enter Tryz.func51,Tryz.ntmps51
 go_wp2_with fail
 generalize w.alloc (.cells #[.string D,.int .i64 y] 95)=w0 at *;refine(ja (K1 w0)).mono ?_
 rintro e w1 ⟨rfl,rfl⟩
 clear K1
 go_wp2_with fail
 refine(ja (K2 w1)).mono ?_
 rintro e w2 ⟨v2,x2,rfl,h2,b2⟩
 have bw2:=b0.trans (b2.mono b0.size);have r1:=(bk0.below b2).cell 1 _ rfl;have K4:=K3 w2 v2 h2;clear K2 K3 h2 b2 b0 bk0
 go_wp2_with fail
 refine(ja K4).mono ?_
 rintro e w3 ⟨r,rfl,hr,b3⟩
 have HR:=jd hr;have bw3:=bw2.trans (b3.mono bw2.size);clear hr b3 bw2 K4;go_wp2;go_ret;exact⟨r,rfl,ja HR,bw3⟩
theorem jki (r:Nat)(hr:r<9223372036854775808):Go.bits .or .u64 9223372036854775808 (r:Int)=((9223372036854775808+r:Nat):Int):=by
 have h:=bits_join .u64 64 (by decide) JV 63 9223372036854775808 (r:Int) (by omega) (by omega) (by omega) (by omega) (by omega) (by omega);rw [h];omega
theorem jj9 (r:Nat)(hr:r<9223372036854775808):Go.bits .or .u64 0 (r:Int)=((0+r:Nat):Int):=by
 have h:=bits_join .u64 64 (by decide) JV 63 0 (r:Int) (by omega) (by omega) (by omega) (by omega) (by omega) (by omega);rw [h];omega
theorem jfP {t W P:List UInt8}{x:Int}(h:Num t W P x):(W++P).length<=t.length/\jV (W++P):=by
 obtain⟨R,e,a,_,r⟩:=h
 have d:∀P,jV P->jV (W++P):=fun P hp b hb=>by
  rcases List.mem_append.1 hb with h | h
  ·exact a.2 b h
  ·exact hp b h
 rcases r with ⟨rfl,p,_⟩ | ⟨Z,rfl,p,_⟩ | ⟨Z,rfl,rfl,_⟩
 ·exact⟨by rw [e];simp,d P p.2⟩
 ·exact⟨by rw [e];simp;omega,d P p.2⟩
 ·exact⟨by rw [e];simp,d [] (fun b hb=>by cases hb)⟩
theorem jby {x z cl:Int}{p:Nat}(h:Cap x z)(hp:p<=80)(hc:max (-1000) (min (z - (p:Int)) 1000)=cl):Alike cl (x - (p:Int)):=by
 unfold Cap at h;unfold Alike;omega
theorem jeS (w:World)(s t:ByteArray)(neg:Bool)(sg:Nat)(hs:s.size<=80)(ht:t.size<=80)(hnan:(s.toList == [110,97,110])=false)(hinf:(t.toList == [105,110,102])=false)
  (K1:Hid (Calls Tryz.prog 46 #[.string s,.string ⟨#[45]⟩] w fun e w'=>e=.returned (.tuple #[.string t,.bool neg])/\w'=w)) (hsg:sg=if neg then 9223372036854775808 else 0) :
  Calls Tryz.prog 26 #[.string s] w fun e w'=>∃(v:Nat) (x:Int),e=.returned (.tuple #[.int .u64 v,.int .i64 x])/\Res t.data.toList sg v x/\Below w.heap.size w w':=by
 have K2:∀w,Hid _:=fun w=>jd (jaQ w t ht (jd (fun w=>jdi w t 101 ht)))
 have i1:¬(80:Int)<(s.size:Int):=by omega
 have HS:=jd hsg;clear hsg;cases hn:neg with
 | false=>
  subst hn;have es:sg=0:=ja HS;subst es;clear HS
  go_enter Tryz.func26,Tryz.ntmps26
  go_wp2_with fail
  refine(ja K1).mono ?_
  rintro e w1 ⟨rfl,rfl⟩
  go_wp2_with fail
  refine(ja (K2 w1)).mono ?_
  rintro e w2 ⟨D,y,f,rfl,hres,b2⟩
  clear K1 K2
  rcases hres with ⟨rfl,W,P,x,z,hnum,hD,hcap,hy⟩ | ⟨rfl,hno⟩
  ·obtain⟨l1,l2⟩:=jfP hnum
   have hDl:D.size<=80:=by rw [<-jq,hD];rw [jq] at l1;omega
   have hP:P.length<=80:=by rw [List.length_append,jq] at l1;omega
   have b3:Below w2.heap.size w2 (w2.alloc (.cells #[.string D,.int .i64 y] 95)):=(Below.refl _ _).alloc (Nat.le_refl _) _;have K3:=jd (jbg (w2.alloc (.cells #[.string D,.int .i64 y] 95)) D y _ hDl (by rw [hD];exact l2) rfl);have al:=jby hcap hP (by rw [<-hy])
   have FN:∀r,zO (dec D.data.toList) (max (-1000) (min y 1000)) r->Hid (zO (dec (W++P)) (x - (P.length:Int)) r):=fun r h=>jd (YU (by
    have:=jcy l2;refine Nat.lt_of_lt_of_le this (Nat.pow_le_pow_right (by decide) ?_);rw [jq] at l1;omega) al (by rw [<-hD];exact h))
   have HNUM:=jd hnum;have bw3:=b2.trans (b3.mono b2.size);clear hnum hD hcap hy l1 l2 hP al b2 b3
   go_wp2_with fail
   refine(ja K3).mono ?_
   rintro e w4 ⟨r,rfl,hr,b4⟩
   have hrr:=Qt hr;have HN:=FN r hr;have bw4:=bw3.trans (b4.mono bw3.size);clear FN hr K3 b4 bw3
   by_cases hi:r=9218868437227405312
   ·subst hi
    have FR:Hid (Res t.data.toList 0 0 7):=jd (.inl ⟨W,P,x,_,ja HNUM,ja HN,.inl ⟨rfl,rfl,rfl⟩⟩);clear HNUM HN;go_wp2;go_ret2;exact⟨0,7,rfl,ja FR,bw4⟩
   ·have FR:Hid (Res t.data.toList 0 (0+r) 0):=jd (.inl ⟨W,P,x,r,ja HNUM,ja HN,.inr ⟨hi,rfl,rfl⟩⟩)
    have ho:=jj9 r (by omega);have hne:((r:Int) == 9218868437227405312)=false:=beq_false_of_ne (by omega);have hz:(((0+r:Nat)):Int)=(r:Int):=by omega
    rw [hz] at ho;clear HNUM HN hi hrr hz;generalize hRI:(r:Int)=rI at *;have HRI:=jd hRI;clear hRI;go_wp2;go_ret2;refine⟨0+r,0,?_,ja FR,bw4⟩;rw [Nat.zero_add,ja HRI];rfl
  ·have FR:Hid (Res t.data.toList 0 0 4):=jd (.inr ⟨hno,rfl,rfl⟩)
   have b3:Below w2.heap.size w2 (w2.alloc (.cells #[.string D,.int .i64 y] 95)):=(Below.refl _ _).alloc (Nat.le_refl _) _;have bw3:=b2.trans (b3.mono b2.size);clear hno b2 b3;go_wp2;go_ret2;exact⟨0,4,rfl,ja FR,bw3⟩
 | true=>
  subst hn;have es:sg=9223372036854775808:=ja HS;subst es;clear HS
  go_enter Tryz.func26,Tryz.ntmps26
  go_wp2_with fail
  refine(ja K1).mono ?_
  rintro e w1 ⟨rfl,rfl⟩
  go_wp2_with fail
  refine(ja (K2 w1)).mono ?_
  rintro e w2 ⟨D,y,f,rfl,hres,b2⟩
  clear K1 K2
  rcases hres with ⟨rfl,W,P,x,z,hnum,hD,hcap,hy⟩ | ⟨rfl,hno⟩
  ·obtain⟨l1,l2⟩:=jfP hnum
   have hDl:D.size<=80:=by rw [<-jq,hD];rw [jq] at l1;omega
   have hP:P.length<=80:=by rw [List.length_append,jq] at l1;omega
   have b3:Below w2.heap.size w2 (w2.alloc (.cells #[.string D,.int .i64 y] 95)):=(Below.refl _ _).alloc (Nat.le_refl _) _;have K3:=jd (jbg (w2.alloc (.cells #[.string D,.int .i64 y] 95)) D y _ hDl (by rw [hD];exact l2) rfl);have al:=jby hcap hP (by rw [<-hy])
   have FN:∀r,zO (dec D.data.toList) (max (-1000) (min y 1000)) r->Hid (zO (dec (W++P)) (x - (P.length:Int)) r):=fun r h=>jd (YU (by
    have:=jcy l2;refine Nat.lt_of_lt_of_le this (Nat.pow_le_pow_right (by decide) ?_);rw [jq] at l1;omega) al (by rw [<-hD];exact h))
   have HNUM:=jd hnum;have bw3:=b2.trans (b3.mono b2.size);clear hnum hD hcap hy l1 l2 hP al b2 b3
   go_wp2_with fail
   refine(ja K3).mono ?_
   rintro e w4 ⟨r,rfl,hr,b4⟩
   have hrr:=Qt hr;have HN:=FN r hr;have bw4:=bw3.trans (b4.mono bw3.size);clear FN hr K3 b4 bw3
   by_cases hi:r=9218868437227405312
   ·subst hi
    have FR:Hid (Res t.data.toList 9223372036854775808 0 7):=jd (.inl ⟨W,P,x,_,ja HNUM,ja HN,.inl ⟨rfl,rfl,rfl⟩⟩);clear HNUM HN;go_wp2;go_ret2;exact⟨0,7,rfl,ja FR,bw4⟩
   ·have FR:Hid (Res t.data.toList 9223372036854775808 (9223372036854775808+r) 0):=jd (.inl ⟨W,P,x,r,ja HNUM,ja HN,.inr ⟨hi,rfl,rfl⟩⟩)
    have ho:=jki r (by omega);have hne:((r:Int) == 9218868437227405312)=false:=beq_false_of_ne (by omega);clear HNUM HN hi hrr;generalize hRI:(r:Int)=rI at *;generalize hQI:(((9223372036854775808+r:Nat)):Int)=qI at *;have HQI:=jd hQI;clear hRI hQI;go_wp2;go_ret2;refine⟨9223372036854775808+r,0,?_,ja FR,bw4⟩;rw [ja HQI];rfl
  ·have FR:Hid (Res t.data.toList 9223372036854775808 0 4):=jd (.inr ⟨hno,rfl,rfl⟩)
   have b3:Below w2.heap.size w2 (w2.alloc (.cells #[.string D,.int .i64 y] 95)):=(Below.refl _ _).alloc (Nat.le_refl _) _;have bw3:=b2.trans (b3.mono b2.size);clear hno b2 b3;go_wp2;go_ret2;exact⟨0,4,rfl,ja FR,bw3⟩
open Go.RowKit
def jkx (l t:List UInt8)(sg:Nat):Prop:=(l=45 :: t/\sg=9223372036854775808)\/((∀r,l≠45 :: r)/\t=l/\sg=0)
def zI (l:List UInt8)(v:Nat)(x:Int):Prop :=
 (80<l.length/\v=0/\x=2)\/(l.length<=80/\l=[110,97,110]/\v=9221120237041090561/\x=0)\/
 (l.length<=80/\l≠[110,97,110]/\∃t sg,jkx l t sg/\((t=[105,110,102]/\v=sg+9218868437227405312/\x=0)\/(t≠[105,110,102]/\Res t sg v x)))
theorem jcN {l t t':List UInt8}{sg sg':Nat}(h:jkx l t sg)(k:jkx l t' sg'):t=t'/\sg=sg':=by
 rcases h with ⟨a,b⟩ | ⟨a,b,c⟩<;>rcases k with ⟨a',b'⟩ | ⟨a',b',c'⟩
 ·rw [a] at a';injection a' with _ e;exact⟨e,by rw [b,b']⟩
 ·exact absurd a (a' t)
 ·exact absurd a' (a t')
 ·exact⟨by rw [b,b'],by rw [c,c']⟩
theorem jcn {l:List UInt8}{v v':Nat}{x x':Int}(h:zI l v x)(k:zI l v' x'):v=v'/\x=x':=by
 rcases h with ⟨a,b,c⟩ | ⟨a,b,c,d⟩ | ⟨a,b,t,sg,s,r⟩<;>rcases k with ⟨a',b',c'⟩ | ⟨a',b',c',d'⟩ | ⟨a',b',t',sg',s',r'⟩
 ·exact⟨by rw [b,b'],by rw [c,c']⟩
 ·omega
 ·omega
 ·omega
 ·exact⟨by rw [c,c'],by rw [d,d']⟩
 ·exact absurd b b'
 ·omega
 ·exact absurd b' b
 ·obtain⟨e1,e2⟩:=jcN s s'
  subst e1 e2
  rcases r with ⟨r1,r2,r3⟩ | ⟨r1,r2⟩<;>rcases r' with ⟨q1,q2,q3⟩ | ⟨q1,q2⟩
  ·exact⟨by rw [r2,q2],by rw [r3,q3]⟩
  ·exact absurd r1 q1
  ·exact absurd q1 r1
  ·exact jfr r2 q2
theorem ZM {s:ByteArray}{l:List UInt8}:(s.toList == l)=decide (s.data.toList=l):=by
 rw [ByteArray.toList_eq]
 by_cases h:s.data.toList=l
 ·rw [decide_eq_true h,h];simp
 ·rw [decide_eq_false h];simp [h]
theorem jcR (l:List UInt8):∃t sg,jkx l t sg/\t.length<=l.length/\((Lib.hasPrefix l [45]=true/\Lib.trimPrefix l [45]=t/\sg=9223372036854775808)\/(Lib.hasPrefix l [45]=false/\Lib.trimPrefix l [45]=t/\sg=0)):=by
 by_cases h:∃r,l=45 :: r
 ·obtain⟨r,rfl⟩:=h
  exact⟨r,_,.inl ⟨rfl,rfl⟩,by simp,.inl ⟨(XX 45 r).1,(XX 45 r).2,rfl⟩⟩
 ·have n:∀r,l≠45 :: r:=fun r e=>h ⟨r,e⟩
  exact⟨l,_,.inr ⟨n,rfl,rfl⟩,Nat.le_refl _,.inr ⟨(jci n).1,(jci n).2,rfl⟩⟩
theorem jdn (w:World)(s:ByteArray)(hs:80<s.size)(hs2:s.size<=140737488355328) :
  Calls Tryz.prog 26 #[.string s] w fun e w'=>e=.returned (.tuple #[.int .u64 0,.int .i64 2])/\Below w.heap.size w w':=by
 have i1:(80:Int)<(s.size:Int):=by omega
 go_enter Tryz.func26,Tryz.ntmps26
 go_wp2;go_ret2;exact⟨rfl,Below.refl _ _⟩
theorem jhv (w:World)(s:ByteArray)(hs:s.size<=80)(hn:(s.toList == [110,97,110])=true) :
  Calls Tryz.prog 26 #[.string s] w fun e w'=>e=.returned (.tuple #[.int .u64 9221120237041090561,.int .i64 0])/\Below w.heap.size w w':=by
 have i1:¬(80:Int)<(s.size:Int):=by omega
 go_enter Tryz.func26,Tryz.ntmps26
 go_wp2;go_ret2;exact⟨rfl,Below.refl _ _⟩
theorem jg4 (w:World)(s t:ByteArray)(neg:Bool)(hs:s.size<=80)(hn:(s.toList == [110,97,110])=false)(hi:(t.toList == [105,110,102])=true)
  (K1:Hid (Calls Tryz.prog 46 #[.string s,.string ⟨#[45]⟩] w fun e w'=>e=.returned (.tuple #[.string t,.bool neg])/\w'=w)) :
  Calls Tryz.prog 26 #[.string s] w fun e w'=>e=.returned (.tuple #[.int .u64 (if neg then 18442240474082181120 else 9218868437227405312),.int .i64 0])/\Below w.heap.size w w':=by
 have i1:¬(80:Int)<(s.size:Int):=by omega
 have o1:Go.bits .or .u64 0 9218868437227405312=9218868437227405312:=by decide
 have o2:Go.bits .or .u64 9223372036854775808 9218868437227405312=18442240474082181120:=by decide
 cases neg with
 | false=>
  go_enter Tryz.func26,Tryz.ntmps26
  go_wp2_with fail
  refine(ja K1).mono ?_
  rintro e w1 ⟨rfl,rfl⟩
  go_wp2;go_ret2;exact⟨rfl,Below.refl _ _⟩
 | true=>
  go_enter Tryz.func26,Tryz.ntmps26
  go_wp2_with fail
  refine(ja K1).mono ?_
  rintro e w1 ⟨rfl,rfl⟩
  go_wp2;go_ret2;exact⟨rfl,Below.refl _ _⟩
theorem jba (w:World)(s:ByteArray)(hs2:s.size<=140737488355328) :
  Calls Tryz.prog 26 #[.string s] w fun e w'=>∃(v:Nat) (x:Int),e=.returned (.tuple #[.int .u64 v,.int .i64 x])/\zI s.data.toList v x/\Below w.heap.size w w':=by
 have sl:=jq s
 by_cases h1:80<s.size
 ·refine(jdn w s h1 hs2).mono ?_
  rintro e w' ⟨rfl,b⟩
  exact⟨0,2,rfl,.inl ⟨by omega,rfl,rfl⟩,b⟩
 ·by_cases h2:s.data.toList=[110,97,110]
  ·refine(jhv w s (by omega) (by rw [ZM];exact decide_eq_true h2)).mono ?_
   rintro e w' ⟨rfl,b⟩
   exact⟨9221120237041090561,0,rfl,.inr (.inl ⟨by omega,h2,rfl,rfl⟩),b⟩
  ·have n2:(s.toList == [110,97,110])=false:=by rw [ZM];exact decide_eq_false h2
   obtain⟨t,sg,S,tl,pq⟩:=jcR s.data.toList;have K1:=Tryz.strings_CutPrefix s ⟨#[45]⟩ w;have e45:(⟨#[45]⟩:ByteArray).data.toList=[45]:=rfl;rw [e45] at K1;have tsz:(⟨t.toArray⟩:ByteArray).size<=80:=by rw [ZY];omega
   have td:(⟨t.toArray⟩:ByteArray).data.toList=t:=rfl
   obtain⟨neg,hneg,KK,hsg⟩:∃neg,Lib.hasPrefix s.data.toList [45]=neg/\Lib.trimPrefix s.data.toList [45]=t/\sg=if neg then 9223372036854775808 else 0:=by
    rcases pq with ⟨a,b,c⟩ | ⟨a,b,c⟩
    ·exact⟨true,a,b,c⟩
    ·exact⟨false,a,b,c⟩
   rw [hneg,KK] at K1
   by_cases h3:t=[105,110,102]
   ·refine(jg4 w s ⟨t.toArray⟩ neg (by omega) n2 (by rw [ZM];exact decide_eq_true h3) (jd K1)).mono ?_
    rintro e w' ⟨rfl,b⟩
    refine⟨sg+9218868437227405312,0,?_,.inr (.inr ⟨by omega,h2,t,sg,S,.inl ⟨h3,rfl,rfl⟩⟩),b⟩;rw [hsg];cases neg<;>rfl
   ·refine(jeS w s ⟨t.toArray⟩ neg sg (by omega) tsz n2 (by rw [ZM];exact decide_eq_false h3) (jd K1) hsg).mono ?_
    rintro e w' ⟨v,x,rfl,r,b⟩
    exact⟨v,x,rfl,.inr (.inr ⟨by omega,h2,t,sg,S,.inr ⟨h3,r⟩⟩),b⟩
end bigs
end Go.Proofs.YtnbfnjhbmeocfaaGreatDoor
