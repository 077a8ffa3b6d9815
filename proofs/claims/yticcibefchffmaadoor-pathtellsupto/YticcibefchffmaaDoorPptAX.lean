/- Of our texts, what this claim reaches. -/
import Derived.Test.YticcibefchffmaaDoorPptAS
import Derived.Test.YticcibefchffmaaDoorPptAP
set_option linter.unusedVariables false
set_option maxHeartbeats 4000000
set_option maxRecDepth 100000
namespace Go.Proofs.YticcibefchffmaaDoor
namespace escs
open Go.RowKit
open utfs
open bigs (hexc digB digB_low digB_high)
theorem jz (S:ByteArray)(x:List UInt8)(h:S.size+x.length<=9223372036854775807) :
  ∃T:ByteArray,T.data.toList=S.data.toList++x/\T.size=S.size+x.length/\∀u:World,(Op.stringOp .add S ⟨x.toArray⟩).run Tryd.prog u=.ok (.string T) u:=by
 refine⟨⟨(S.data.toList++x).toArray⟩,rfl,by rw [Je,List.length_append,jc],fun u=>?_⟩;have:=qD S.data.toList x (by rw [jc];exact h) u;rwa [qQ (s:=S) rfl] at this
def Y4:ByteArray:=⟨#[48,49,50,51,52,53,54,55,56,57,97,98,99,100,101,102]⟩
theorem Za (d:Nat)(h:d<16):Y4.extract d (d+1)=⟨#[hexc d]⟩:=by
 have:∀k:Fin 16,(Y4.extract k.1 (k.1+1)).data=#[hexc k.1]:=by decide +kernel
 exact ByteArray.ext (this ⟨d,h⟩)
theorem Yb {rs:List Int}{k:Nat}(h:k<rs.length)(S T:List UInt8)(x:List UInt8)(hS:S=34 :: qs (rs.take k))(hx:qr (rs.getD k 0)=x)(hT:T=S++x):T=34 :: qs (rs.take (k+1)):=by
 have e:rs.take (k+1)=rs.take k++[rs.getD k 0]:=by
  rw [List.take_succ_eq_append_getElem h];simp [List.getD,List.getElem?_eq_getElem h]
 rw [e,Jp,Z7,hx,hT,hS];rfl
theorem Q3 (x:Int)(h0 : -2147483648<=x)(h1:x<=2147483647):IntKind.i32.wrap x=x:=by
 simp [IntKind.wrap,IntKind.bits,IntKind.signed];omega
theorem Q4 (w:World)(s:ByteArray)(rs:List Int)(hs:s.size<=1048576)(hl:s.data.toList=enc rs)(hsc:∀r∈rs,sc r=true) :
  Calls Tryd.prog 57 #[.string s] w fun e w'=>e=.returned (.string ⟨(jm rs).toArray⟩)/\Below w.heap.size w w':=by
 have KS:=jb (Qu s rs w (by omega) hl hsc)
 have hrl:rs.length<=1048576:=by
  have h1:=congrArg List.length hl;rw [jc] at h1
  have h2:rs.length<=(enc rs).length:=by
   clear h1 hl KS
   induction rs with
   | nil=>simp
   | cons r rs ih=>
    have:=ih (fun q hq=>hsc q (List.mem_cons_of_mem _ hq));have h4:=jd r;rw [jG,List.length_append,List.length_cons];omega
  omega
 have HSC:=jb hsc;clear hl hsc
 go_enter Tryd.func57,Tryd.ntmps57
 go_wp2_with fail
 refine(ja KS).mono ?_
 rintro _ w1 ⟨a,cap,rfl,hE,hcap,b1⟩
 have B1:=jb b1;have HE:=jb hE;clear b1 hE KS
 go_wp2_with fail
 go_loopw [3,9] (fun out i wr=>∃(S:ByteArray) (k:Nat),out=.string S/\i=.int .i64 (k:Int)/\k<=rs.length/\S.size<=6*k+1/\Hid (S.data.toList=34 :: qs (rs.take k))/\Hid (Below w1.heap.size w1 wr)) (fun _ i _=>rs.length - (intOf i).toNat)
 case atStart=>exact⟨⟨#[34]⟩,0,rfl,rfl,Nat.zero_le _,by decide,jb rfl,jb (Below.refl _ _)⟩
 case round=>
  obtain⟨S,k,rfl,rfl,hk,hz,hS,hB⟩:=hrel
  by_cases hlt:k<rs.length
  ·obtain⟨b,of,rfl,hb,hc⟩:=(ja HE) (by omega)
   have hcell:wr.cell? ⟨b,of+k,none⟩=some (.int .i32 (rs.getD k 0)):=by
    rw [(ja hB).cell (p:=⟨b,of+k,none⟩) hb];exact hc k hlt
   have hr:sc (rs.getD k 0)=true:=(ja HSC) _ (by simp [List.getD,List.getElem?_eq_getElem hlt]);have h0:=jh hr;have QT:=fun T x=>jb (Yb hlt S.data.toList T x (ja hS))
   have i1:(k:Int)<(rs.length:Int):=by omega
   clear hc hb HE HSC hS;generalize rs.getD k 0=r at *
   by_cases c34:r=34
   ·have HX:qr r=[92,34]:=by rw [c34];rfl
    obtain⟨T,tl,tz,ta⟩:=jz S [92,34] (by simp;omega);have zT:T.size<=6*(k+1)+1:=by rw [tz];simp;omega
    have HT:Hid (T.data.toList=34 :: qs (rs.take (k+1))):=jb (ja (QT T.data.toList [92,34]) HX tl);have b34:(r == 34)=true:=by rw [c34];rfl
    clear QT HX tl tz c34 h0 hr;go_wp2;go_roundw
    case rel=>exact⟨T,k+1,by first | rfl | simp,by go_num,by omega,zT,HT,hB⟩
    case measure=>simp [intOf];omega
   ·have b34:(r == 34)=false:=beq_false_of_ne c34
    by_cases c92:r=92
    ·have HX:qr r=[92,92]:=by rw [c92];rfl
     obtain⟨T,tl,tz,ta⟩:=jz S [92,92] (by simp;omega);have zT:T.size<=6*(k+1)+1:=by rw [tz];simp;omega
     have HT:Hid (T.data.toList=34 :: qs (rs.take (k+1))):=jb (ja (QT T.data.toList [92,92]) HX tl);have b92:(r == 92)=true:=by rw [c92];rfl
     clear QT HX tl tz c92 h0 hr;go_wp2;go_roundw
     case rel=>exact⟨T,k+1,by first | rfl | simp,by go_num,by omega,zT,HT,hB⟩
     case measure=>simp [intOf];omega
    ·have b92:(r == 92)=false:=beq_false_of_ne c92
     by_cases c10:r=10
     ·have HX:qr r=[92,110]:=by rw [c10];rfl
      obtain⟨T,tl,tz,ta⟩:=jz S [92,110] (by simp;omega);have zT:T.size<=6*(k+1)+1:=by rw [tz];simp;omega
      have HT:Hid (T.data.toList=34 :: qs (rs.take (k+1))):=jb (ja (QT T.data.toList [92,110]) HX tl);have b10:(r == 10)=true:=by rw [c10];rfl
      clear QT HX tl tz c10 h0 hr;go_wp2;go_roundw
      case rel=>exact⟨T,k+1,by first | rfl | simp,by go_num,by omega,zT,HT,hB⟩
      case measure=>simp [intOf];omega
     ·have b10:(r == 10)=false:=beq_false_of_ne c10
      by_cases c9:r=9
      ·have HX:qr r=[92,116]:=by rw [c9];rfl
       obtain⟨T,tl,tz,ta⟩:=jz S [92,116] (by simp;omega);have zT:T.size<=6*(k+1)+1:=by rw [tz];simp;omega
       have HT:Hid (T.data.toList=34 :: qs (rs.take (k+1))):=jb (ja (QT T.data.toList [92,116]) HX tl);have b9:(r == 9)=true:=by rw [c9];rfl
       clear QT HX tl tz c9 h0 hr;go_wp2;go_roundw
       case rel=>exact⟨T,k+1,by first | rfl | simp,by go_num,by omega,zT,HT,hB⟩
       case measure=>simp [intOf];omega
      ·have b9:(r == 9)=false:=beq_false_of_ne c9
       by_cases c13:r=13
       ·have HX:qr r=[92,114]:=by rw [c13];rfl
        obtain⟨T,tl,tz,ta⟩:=jz S [92,114] (by simp;omega);have zT:T.size<=6*(k+1)+1:=by rw [tz];simp;omega
        have HT:Hid (T.data.toList=34 :: qs (rs.take (k+1))):=jb (ja (QT T.data.toList [92,114]) HX tl);have b13:(r == 13)=true:=by rw [c13];rfl
        clear QT HX tl tz c13 h0 hr;go_wp2;go_roundw
        case rel=>exact⟨T,k+1,by first | rfl | simp,by go_num,by omega,zT,HT,hB⟩
        case measure=>simp [intOf];omega
       ·have b13:(r == 13)=false:=beq_false_of_ne c13
        by_cases c16:r<16
        ·obtain⟨d,rfl⟩:∃d:Nat,r=d:=⟨r.toNat,by omega⟩
         have hd:d<16:=by omega
         have hext:(⟨#[48,49,50,51,52,53,54,55,56,57,97,98,99,100,101,102]⟩:ByteArray).extract d (d+1)=⟨#[hexc d]⟩:=Za d hd;have z1:IntKind.i32.wrap ((d:Int)+1)=((d+1:Nat):Int):=by rw [Q3 _ (by omega) (by omega)];omega
         have p0:(0:Int)<=(d:Int):=by omega
         have p1:(d:Int)<=((d+1:Nat):Int):=by omega
         have p2:((d+1:Nat):Int)<=16:=by omega
         have HX:qr (d:Int)=[92,117,123]++[hexc d]++[125]:=by rw [zu (.inl (by omega)) c10 c9 c13,Int.toNat_natCast,digB_low hd];rfl
         have a1:=qD [92,117,123] [hexc d] (by simp);have a2:=qD ([92,117,123]++[hexc d]) [125] (by simp);obtain⟨T,tl,tz,ta⟩:=jz S ([92,117,123]++[hexc d]++[125]) (by simp;omega);have zT:T.size<=6*(k+1)+1:=by rw [tz];simp;omega
         have HT:Hid (T.data.toList=34 :: qs (rs.take (k+1))):=jb (ja (QT T.data.toList ([92,117,123]++[hexc d]++[125])) HX tl);clear QT HX tl tz h0 hr c10 c9 c13 c34 c92;generalize [92,117,123]++[hexc d]++[125]=X2 at *;generalize [92,117,123]++[hexc d]=X1 at *;generalize hexc d=ch at *;generalize hdd:d+1=d1 at *;clear hdd;go_wp2;go_roundw
         case rel=>exact⟨T,k+1,by first | rfl | simp,by go_num,by omega,zT,HT,hB⟩
         case measure=>simp [intOf];omega
        ·by_cases c32:r<32
         ·obtain⟨d,rfl⟩:∃d:Nat,r=((d+16:Nat):Int):=⟨r.toNat - 16,by omega⟩
          have hd:d<16:=by omega
          have hext:(⟨#[48,49,50,51,52,53,54,55,56,57,97,98,99,100,101,102]⟩:ByteArray).extract d (d+1)=⟨#[hexc d]⟩:=Za d hd;have z1:IntKind.i32.wrap (((d+16:Nat):Int) - 16)=(d:Int):=by rw [Q3 _ (by omega) (by omega)];omega
          have z2:IntKind.i32.wrap (((d+16:Nat):Int) - 15)=((d+1:Nat):Int):=by rw [Q3 _ (by omega) (by omega)];omega
          have p0:(0:Int)<=(d:Int):=by omega
          have p1:(d:Int)<=((d+1:Nat):Int):=by omega
          have p2:((d+1:Nat):Int)<=16:=by omega
          have HX:qr ((d+16:Nat):Int)=[92,117,123,49]++[hexc d]++[125]:=by
           rw [zu (.inl (by omega)) c10 c9 c13,Int.toNat_natCast,digB_high (by decide) (by omega),digB_low (b:=16) (n:=(d+16) / 16) (by omega),show(d+16) / 16=1 by omega,show(d+16) % 16=d by omega];rfl
          have a1:=qD [92,117,123,49] [hexc d] (by simp);have a2:=qD ([92,117,123,49]++[hexc d]) [125] (by simp);obtain⟨T,tl,tz,ta⟩:=jz S ([92,117,123,49]++[hexc d]++[125]) (by simp;omega);have zT:T.size<=6*(k+1)+1:=by rw [tz];simp;omega
          have HT:Hid (T.data.toList=34 :: qs (rs.take (k+1))):=jb (ja (QT T.data.toList ([92,117,123,49]++[hexc d]++[125])) HX tl);clear QT HX tl tz h0 hr c10 c9 c13 c34 c92;generalize [92,117,123,49]++[hexc d]++[125]=X2 at *;generalize [92,117,123,49]++[hexc d]=X1 at *;generalize hexc d=ch at *;generalize ((d+16:Nat):Int)=r at *;generalize hdd:d+1=d1 at *;clear hdd;go_wp2;go_roundw
          case rel=>exact⟨T,k+1,by first | rfl | simp,by go_num,by omega,zT,HT,hB⟩
          case measure=>simp [intOf];omega
         ·by_cases c127:r=127
          ·have HX:qr r=[92,117,123,55,102,125]:=by rw [c127,zu (.inr rfl) (by decide) (by decide) (by decide)];decide +kernel
           obtain⟨T,tl,tz,ta⟩:=jz S [92,117,123,55,102,125] (by simp;omega);have zT:T.size<=6*(k+1)+1:=by rw [tz];simp;omega
           have HT:Hid (T.data.toList=34 :: qs (rs.take (k+1))):=jb (ja (QT T.data.toList [92,117,123,55,102,125]) HX tl);have b127:(r == 127)=true:=by rw [c127];rfl
           clear QT HX tl tz c127 h0 hr c10 c9 c13 c34 c92;go_wp2;go_roundw
           case rel=>exact⟨T,k+1,by first | rfl | simp,by go_num,by omega,zT,HT,hB⟩
           case measure=>simp [intOf];omega
          ·have b127:(r == 127)=false:=beq_false_of_ne c127
           have HX:qr r=Lib.encodeRune r:=q8 (by omega) c127 c34 c92;have h4:=jd r;have KC:=jb (zF r wr hr);have i3:32<=r:=by omega
           have i4:r<=1114111:=by omega
           obtain⟨T,tl,tz,ta⟩:=jz S (Lib.encodeRune r) (by omega);have zT:T.size<=6*(k+1)+1:=by rw [tz];omega
           have HT:Hid (T.data.toList=34 :: qs (rs.take (k+1))):=jb (ja (QT T.data.toList (Lib.encodeRune r)) HX tl);clear QT HX tl tz c127 h0 hr c10 c9 c13 c34 c92 h4;generalize Lib.encodeRune r=X at *
           go_wp2_with fail
           refine(ja KC).mono ?_
           rintro _ w2 ⟨rfl,b2⟩
           have B2:=jb ((ja hB).trans (b2.mono (ja hB).size));clear b2 KC hB;go_wp2;go_roundw
           case rel=>exact⟨T,k+1,by first | rfl | simp,by go_num,by omega,zT,HT,B2⟩
           case measure=>simp [intOf];omega
  ·have hkl:k=rs.length:=by omega
   have hS2:=ja hS;rw [hkl,List.take_length] at hS2;obtain⟨T,tl,tz,ta⟩:=jz S [34] (by simp;omega);have HT:Hid ((⟨(jm rs).toArray⟩:ByteArray)=T):=jb (qQ (by rw [tl,hS2];rfl));have i1:¬(k:Int)<(rs.length:Int):=by omega
   clear hS hS2 tl tz hkl;go_wp2;go_ret;rw [ja HT];exact⟨rfl,(ja B1).trans ((ja hB).mono (ja B1).size)⟩
open Go.RowKit
open utfs
def isL (n:Nat):Bool:=decide ((97<=n/\n<=122)\/(65<=n/\n<=90))
def isD (n:Nat):Bool:=decide (48<=n/\n<=57)
theorem QN (w:World)(n:Nat)(hn:n<256) :
  Calls Tryd.prog 77 #[.int .u8 (n:Int)] w fun e w'=>e=.returned (.bool (isL n))/\w'=w:=by
 have key:∀b:Bool,isL n=b->Calls Tryd.prog 77 #[.int .u8 (n:Int)] w (fun e w'=>e=.returned (.bool b)/\w'=w)->Calls Tryd.prog 77 #[.int .u8 (n:Int)] w (fun e w'=>e=.returned (.bool (isL n))/\w'=w):=fun b e h=>by rw [e];exact h
 by_cases i1:(n:Int) ≥ 97
 ·by_cases i2:(n:Int)<=122
  ·refine key true (decide_eq_true (by omega)) ?_
   clear key
   go_enter Tryd.func77,Tryd.ntmps77
   go_wp2;go_ret;exact⟨rfl,rfl⟩
  ·refine key false (decide_eq_false (by omega)) ?_
   clear key;have i3:(n:Int) ≥ 65:=by omega
   have i4:¬(n:Int)<=90:=by omega
   have t4:decide ((n:Int)<=90)=false:=decide_eq_false i4
   go_enter Tryd.func77,Tryd.ntmps77
   go_wp2;go_ret;exact⟨rfl,rfl⟩
 ·by_cases i3:(n:Int) ≥ 65
  ·by_cases i4:(n:Int)<=90
   ·refine key true (decide_eq_true (by omega)) ?_
    clear key;have t4:decide ((n:Int)<=90)=true:=decide_eq_true i4
    go_enter Tryd.func77,Tryd.ntmps77
    go_wp2;go_ret;exact⟨rfl,rfl⟩
   ·refine key false (decide_eq_false (by omega)) ?_
    clear key;have t4:decide ((n:Int)<=90)=false:=decide_eq_false i4
    go_enter Tryd.func77,Tryd.ntmps77
    go_wp2;go_ret;exact⟨rfl,rfl⟩
  ·refine key false (decide_eq_false (by omega)) ?_
   clear key
   go_enter Tryd.func77,Tryd.ntmps77
   go_wp2;go_ret;exact⟨rfl,rfl⟩
theorem Xz (w:World)(s:ByteArray)(i:Nat)(h:i<s.size)(hs:s.size<=1073741824) :
  Calls Tryd.prog 33 #[.string s,.int .i64 i] w fun e w'=>e=.returned (.bool (isD (s[i]'h).toNat))/\w'=w:=by
 have key:∀b:Bool,isD (s[i]'h).toNat=b->Calls Tryd.prog 33 #[.string s,.int .i64 i] w (fun e w'=>e=.returned (.bool b)/\w'=w)->Calls Tryd.prog 33 #[.string s,.int .i64 i] w (fun e w'=>e=.returned (.bool (isD (s[i]'h).toNat))/\w'=w):=fun b e h=>by rw [e];exact h
 have t:(i:Int)<(s.size:Int):=by omega
 have t0:(0:Int)<=(i:Int):=by omega
 by_cases h1:48<=(s[i]'h).toNat
 ·by_cases h2:(s[i]'h).toNat<=57
  ·refine key true (decide_eq_true ⟨h1,h2⟩) ?_
   clear key;have t3:decide ((((s[i]'h).toNat:Nat):Int)<=57)=true:=decide_eq_true (by omega)
   go_enter Tryd.func33,Tryd.ntmps33
   go_wp2;go_ret;exact⟨rfl,rfl⟩
  ·refine key false (decide_eq_false (by omega)) ?_
   clear key;have t3:decide ((((s[i]'h).toNat:Nat):Int)<=57)=false:=decide_eq_false (by omega)
   go_enter Tryd.func33,Tryd.ntmps33
   go_wp2;go_ret;exact⟨rfl,rfl⟩
 ·refine key false (decide_eq_false (by omega)) ?_
  clear key
  go_enter Tryd.func33,Tryd.ntmps33
  go_wp2;go_ret;exact⟨rfl,rfl⟩
theorem Xv (n:Nat):opK n=(isL n || decide (n=95)):=by
 unfold opK isL;rw [<-Bool.decide_or];exact decide_eq_decide.2 (by omega)
theorem YF (n:Nat):inK n=(isL n || decide (n=95) || decide (n=45) || isD n):=by
 unfold inK;rw [Xv];cases isL n<;>cases h95:decide (n=95)<;>simp [isD]
 rw [Bool.or_comm]
theorem qI {s:ByteArray}(h:isV s.data.toList=true):js s.data.toList=false:=by
 unfold js;rw [h];simp
theorem ZP (w:World)(s:ByteArray)(hs:s.size<=1073741824) :
  Calls Tryd.prog 56 #[.string s] w fun e w'=>e=.returned (.bool (js s.data.toList))/\w'=w:=by
 by_cases h0:s.size=0
 ·rw [qR (.inl h0)]
  have i1:(s.size:Int)<1:=by omega
  clear h0
  go_enter Tryd.func56,Tryd.ntmps56
  go_wp2;go_ret;exact⟨rfl,rfl⟩
 ·have i1:¬(s.size:Int)<1:=by omega
  have hp:0<s.size:=by omega
  clear h0
  by_cases h1:100<s.size
  ·rw [qR (.inr h1)]
   have i2:(s.size:Int) > 100:=by omega
   go_enter Tryd.func56,Tryd.ntmps56
   go_wp2;go_ret;exact⟨rfl,rfl⟩
  ·have i2:¬(s.size:Int) > 100:=by omega
   have hs100:s.size<=100:=by omega
   clear h1;have hv:isV s.data.toList=isV s.toList:=by rw [ByteArray.toList_eq]
   cases v0:s.toList == [110,117,108,108] with
   | true=>
    rw [qI (by rw [hv];unfold isV;rw [v0];rfl)];clear hv
    go_enter Tryd.func56,Tryd.ntmps56
    go_wp2;go_ret;exact⟨rfl,rfl⟩
   | false=>
    cases v1:s.toList == [116,114,117,101] with
    | true=>
     rw [qI (by rw [hv];unfold isV;rw [v0,v1];rfl)];clear hv
     go_enter Tryd.func56,Tryd.ntmps56
     go_wp2;go_ret;exact⟨rfl,rfl⟩
    | false=>
     cases v2:s.toList == [102,97,108,115,101] with
     | true=>
      rw [qI (by rw [hv];unfold isV;rw [v0,v1,v2];rfl)];clear hv
      go_enter Tryd.func56,Tryd.ntmps56
      go_wp2;go_ret;exact⟨rfl,rfl⟩
     | false=>
      cases v3:s.toList == [110,97,110] with
      | true=>
       rw [qI (by rw [hv];unfold isV;rw [v0,v1,v2,v3];rfl)];clear hv
       go_enter Tryd.func56,Tryd.ntmps56
       go_wp2;go_ret;exact⟨rfl,rfl⟩
      | false=>
       cases v4:s.toList == [105,110,102] with
       | true=>
        rw [qI (by rw [hv];unfold isV;rw [v0,v1,v2,v3,v4];rfl)];clear hv
        go_enter Tryd.func56,Tryd.ntmps56
        go_wp2;go_ret;exact⟨rfl,rfl⟩
       | false=>
        have nv:isV s.data.toList=false:=by rw [hv];unfold isV;rw [v0,v1,v2,v3,v4];rfl
        have BY:=jb (Qs hp hs100);rw [nv] at BY;clear hv nv
        go_enter Tryd.func56,Tryd.ntmps56
        go_wp2_with fail
        go_loopw [3] (fun i wr=>∃k:Nat,k<=s.size/\i=.int .i64 k/\Hid ((s.data.toList.take k).all (fun c=>inK c.toNat)=true)/\Hid (0<k->opK (s[0]'hp).toNat=true)/\wr=w) (fun i _=>s.size - (intOf i).toNat)
        case atStart=>exact⟨0,Nat.zero_le _,rfl,rfl,fun h=>absurd h (by omega),rfl⟩
        case round=>
         obtain⟨k,hk,rfl,hall,hop,hw⟩:=hrel;subst hw
         by_cases hlt:k<s.size
         ·have i3:(k:Int)<(s.size:Int):=by omega
          have j0:(0:Int)<=(k:Int):=by omega
          have KL:=jb (QN wr (s[k]'hlt).toNat (UInt8.toNat_lt _));have KD:=jb (Xz wr s k hlt hs);have BI:=jb (Q7 hlt);have AM:=jb (Qm hlt (ja hall));have eo:=Xv (s[k]'hlt).toNat;have ei:=YF (s[k]'hlt).toNat
          have OP:Hid (opK (s[k]'hlt).toNat=true->0<k+1->opK (s[0]'hp).toNat=true):=jb (fun h _=>by
           by_cases k0:k=0
           ·subst k0;exact h
           ·exact ja hop (by omega))
          have BO:Hid (k=0->opK (s[k]'hlt).toNat=false->js s.data.toList=false):=jb (fun k0 h=>by
           subst k0;exact Jr hp h)
          have u:=UInt8.toNat_lt (s[k]'hlt);generalize opK (s[k]'hlt).toNat=ok at *;generalize inK (s[k]'hlt).toNat=ik at *;generalize isL (s[k]'hlt).toNat=lk at *;generalize isD (s[k]'hlt).toNat=dk at *;cases lk with
          | true=>
           rw [Bool.true_or] at eo;rw [Bool.true_or,Bool.true_or,Bool.true_or] at ei;have A2:=jb (ja AM ei);have O2:=jb (ja OP eo);clear BI AM BO OP hall hop eo ei KD BY
           go_wp2_with fail
           refine(ja KL).mono ?_
           rintro _ w2 ⟨rfl,hw⟩
           rw [hw];clear hw KL;go_wp2;go_roundw
           case rel=>exact⟨k+1,by omega,by go_num,A2,O2,by first | rfl | trivial⟩
           case measure=>simp [intOf];omega
          | false=>
           rw [Bool.false_or] at eo;rw [Bool.false_or] at ei
           by_cases c95:(s[k]'hlt).toNat=95
           ·rw [decide_eq_true c95] at eo ei
            rw [Bool.true_or,Bool.true_or] at ei;have A2:=jb (ja AM ei);have O2:=jb (ja OP eo);have b95:(((s[k]'hlt).toNat:Int) == 95)=true:=by rw [show((s[k]'hlt).toNat:Int)=95 by omega];rfl
            clear BI AM BO OP hall hop eo ei KD BY c95
            go_wp2_with fail
            refine(ja KL).mono ?_
            rintro _ w2 ⟨rfl,hw⟩
            rw [hw];clear hw KL;go_wp2;go_roundw
            case rel=>exact⟨k+1,by omega,by go_num,A2,O2,by first | rfl | trivial⟩
            case measure=>simp [intOf];omega
           ·rw [decide_eq_false c95] at eo ei
            rw [Bool.false_or] at ei;have b95:(((s[k]'hlt).toNat:Int) == 95)=false:=beq_false_of_ne (by omega)
            by_cases k0:k=0
            ·have F:=jb (ja BO k0 eo)
             have bk:((k:Int) == 0)=true:=by rw [k0];rfl
             clear BI AM BO OP hall hop eo ei KD BY c95 k0
             go_wp2_with fail
             refine(ja KL).mono ?_
             rintro _ w2 ⟨rfl,hw⟩
             rw [hw];clear hw KL;go_wp2;go_ret;rw [ja F];exact⟨rfl,rfl⟩
            ·have bk:((k:Int) == 0)=false:=beq_false_of_ne (by omega)
             have O2:Hid (0<k+1->opK (s[0]'hp).toNat=true):=jb (fun _=>ja hop (by omega))
             by_cases c45:(s[k]'hlt).toNat=45
             ·rw [decide_eq_true c45,Bool.true_or] at ei
              have A2:=jb (ja AM ei);have b45:(((s[k]'hlt).toNat:Int) != 45)=false:=by rw [show((s[k]'hlt).toNat:Int)=45 by omega];rfl
              clear BI AM BO OP hall hop eo ei KD BY c95 k0 c45
              go_wp2_with fail
              refine(ja KL).mono ?_
              rintro _ w2 ⟨rfl,hw⟩
              rw [hw];clear hw KL;go_wp2;go_roundw
              case rel=>exact⟨k+1,by omega,by go_num,A2,O2,by first | rfl | trivial⟩
              case measure=>simp [intOf];omega
             ·rw [decide_eq_false c45,Bool.false_or] at ei
              have b45:(((s[k]'hlt).toNat:Int) != 45)=true:=by simp only [bne_iff_ne];omega
              cases dk with
              | true=>
               have A2:=jb (ja AM ei);clear BI AM BO OP hall hop eo ei BY c95 k0 c45
               go_wp2_with fail
               refine(ja KL).mono ?_
               rintro _ w2 ⟨rfl,hw⟩
               rw [hw];clear hw KL
               go_wp2_with fail
               refine(ja KD).mono ?_
               rintro _ w2 ⟨rfl,hw⟩
               rw [hw];clear hw KD;go_wp2;go_roundw
               case rel=>exact⟨k+1,by omega,by go_num,A2,O2,by first | rfl | trivial⟩
               case measure=>simp [intOf];omega
              | false=>
               have F:=jb (ja BI ei);clear BI AM BO OP hall hop eo ei BY c95 k0 c45
               go_wp2_with fail
               refine(ja KL).mono ?_
               rintro _ w2 ⟨rfl,hw⟩
               rw [hw];clear hw KL
               go_wp2_with fail
               refine(ja KD).mono ?_
               rintro _ w2 ⟨rfl,hw⟩
               rw [hw];clear hw KD;go_wp2;go_ret;rw [ja F];exact⟨rfl,rfl⟩
         ·have hkl:k=s.size:=by omega
          have hall2:=ja hall;rw [hkl,<-jc,List.take_length] at hall2;have F:=jb (ja BY (ja hop (by omega)) hall2);have i3:¬(k:Int)<(s.size:Int):=by omega
          clear hall hall2 BY hkl hop;go_wp2;go_ret;rw [ja F];exact⟨rfl,rfl⟩
theorem Qh (w:World)(s:ByteArray)(hs:s.size<=1048576)(hb:bad s.data.toList<0) :
  Calls Tryd.prog 35 #[.string s] w fun e w'=>e=.returned (.string ⟨(ju s.data.toList).toArray⟩)/\Below w.heap.size w w':=by
 have KB:=jb (ZP w s (by omega));obtain⟨hl,hsc⟩:=jW hb;have KQ:=jb (Q4 w s _ hs hl hsc)
 have e1:ju s.data.toList=if js s.data.toList=true then s.data.toList else jm (jD s.data.toList):=by
  unfold ju;rw [if_neg (show ¬0<=bad s.data.toList by omega)]
 rw [e1];have et:(⟨s.data.toList.toArray⟩:ByteArray)=s:=qQ rfl;clear e1 hl hsc hb;generalize js s.data.toList=b at *;generalize jm (jD s.data.toList)=T at *;cases b with
 | true=>
  rw [if_pos rfl,et];clear et KQ
  go_enter Tryd.func35,Tryd.ntmps35
  go_wp2_with fail
  refine(ja KB).mono ?_
  rintro _ w1 ⟨rfl,hw⟩
  rw [hw];clear hw;go_wp2;go_ret;exact⟨rfl,Below.refl _ _⟩
 | false=>
  rw [if_neg (by decide)];clear et
  go_enter Tryd.func35,Tryd.ntmps35
  go_wp2_with fail
  refine(ja KB).mono ?_
  rintro _ w1 ⟨rfl,hw⟩
  rw [hw];clear hw
  go_wp2_with fail
  refine(ja KQ).mono ?_
  rintro _ w1 ⟨rfl,b1⟩
  have B1:=jb b1;clear b1 KQ KB;go_wp2;go_ret;exact⟨rfl,ja B1⟩
end escs
end Go.Proofs.YticcibefchffmaaDoor
