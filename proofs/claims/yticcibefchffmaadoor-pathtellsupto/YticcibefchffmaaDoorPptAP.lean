/- Of our texts, what this claim reaches. -/
import Derived.Test.YticcibefchffmaaDoorPptAM
import Derived.Test.YticcibefchffmaaDoorPptAO
import Derived.Deep.QuietTactic
import Derived.BigQuiet
import Derived.Test.YticcibefchffmaaDoorPptAI
import Derived.Test.YticcibefchffmaaDoorPptAK
import Derived.WalkSmall
import Derived.OwnWalk
set_option linter.unusedVariables false
set_option maxHeartbeats 8000000
set_option maxRecDepth 100000
namespace Go.Proofs.YticcibefchffmaaDoor
namespace escs
open Go.RowKit
open utfs
open bigs (hexv hexv_le zd qq qp qP jo qh JJ)
def zS:Ji->Int
 | .inl _=>0
 | .inr (r,_)=>r
def zL:Ji->Nat
 | .inl _=>0
 | .inr (_,n)=>n
def zC:Ji->Int
 | .inl e=>e
 | .inr (_,_)=>0
def Jk (c:UInt8):Int:=if hexv c<16 then (hexv c:Int) else -1
theorem QC (w:World)(c:UInt8) :
  Calls Tryd.prog 137 #[.int .u8 (c.toNat:Int)] w fun e w'=>e=.returned (.int .i32 (Jk c))/\w'=w:=by
 have u:=UInt8.toNat_lt c;have D:=@zd c;have S:=@qq c;have G:=@qp c;have N:=@qP c;have HD:Jk c=if hexv c<16 then (hexv c:Int) else -1:=rfl
 have key:∀b:Int,Jk c=b->Calls Tryd.prog 137 #[.int .u8 (c.toNat:Int)] w (fun e w'=>e=.returned (.int .i32 b)/\w'=w)->Calls Tryd.prog 137 #[.int .u8 (c.toNat:Int)] w (fun e w'=>e=.returned (.int .i32 (Jk c))/\w'=w):=fun b e h=>by rw [e];exact h
 generalize Jk c=o at *;generalize hexv c=v at *;generalize c.toNat=n at *
 by_cases a1:48<=n/\n<=57
 ·have V:=D a1.1 a1.2
  refine key ((n:Int) - 48) (by rw [HD,V,if_pos (by omega)];omega) ?_
  obtain⟨b1,b2⟩:=a1;have i1:(48:Int)<=(n:Int):=by omega
  have i2:(n:Int)<=57:=by omega
  clear D S G N V HD key
  go_enter Tryd.func137,Tryd.ntmps137
  go_wp2;go_ret;refine⟨?_,rfl⟩
  go_num
 ·by_cases a2:97<=n/\n<=102
  ·have V:=S a2.1 a2.2
   refine key ((n:Int) - 97+10) (by rw [HD,V,if_pos (by omega)];omega) ?_
   obtain⟨b1,b2⟩:=a2;have i1:(48:Int)<=(n:Int):=by omega
   have i2:¬(n:Int)<=57:=by omega
   have i3:(97:Int)<=(n:Int):=by omega
   have i4:(n:Int)<=102:=by omega
   clear D S G N a1 V HD key
   go_enter Tryd.func137,Tryd.ntmps137
   go_wp2;go_ret;refine⟨?_,rfl⟩
   go_num
  ·by_cases a3:65<=n/\n<=70
   ·have V:=G a3.1 a3.2
    refine key ((n:Int) - 65+10) (by rw [HD,V,if_pos (by omega)];omega) ?_
    obtain⟨b1,b2⟩:=a3;have i1:(48:Int)<=(n:Int):=by omega
    have i2:¬(n:Int)<=57:=by omega
    have i3:¬(97:Int)<=(n:Int):=by omega
    have i5:(65:Int)<=(n:Int):=by omega
    have i6:(n:Int)<=70:=by omega
    clear D S G N a1 a2 V HD key
    go_enter Tryd.func137,Tryd.ntmps137
    go_wp2;go_ret;refine⟨?_,rfl⟩
    go_num
   ·have V:=N a1 a2 a3
    refine key (-1) (by rw [HD,V,if_neg (by omega)]) ?_
    clear D S G N V HD key
    by_cases b1:n<48
    ·have i1:¬(48:Int)<=(n:Int):=by omega
     have i3:¬(97:Int)<=(n:Int):=by omega
     have i5:¬(65:Int)<=(n:Int):=by omega
     clear a1 a2 a3
     go_enter Tryd.func137,Tryd.ntmps137
     go_wp2;go_ret;exact⟨rfl,rfl⟩
    ·have i1:(48:Int)<=(n:Int):=by omega
     have i2:¬(n:Int)<=57:=by omega
     by_cases b2:n<65
     ·have i3:¬(97:Int)<=(n:Int):=by omega
      have i5:¬(65:Int)<=(n:Int):=by omega
      clear a1 a2 a3
      go_enter Tryd.func137,Tryd.ntmps137
      go_wp2;go_ret;exact⟨rfl,rfl⟩
     ·have i5:(65:Int)<=(n:Int):=by omega
      have i6:¬(n:Int)<=70:=by omega
      by_cases b3:n<97
      ·have i3:¬(97:Int)<=(n:Int):=by omega
       clear a1 a2 a3
       go_enter Tryd.func137,Tryd.ntmps137
       go_wp2;go_ret;exact⟨rfl,rfl⟩
      ·have i3:(97:Int)<=(n:Int):=by omega
       have i4:¬(n:Int)<=102:=by omega
       clear a1 a2 a3
       go_enter Tryd.func137,Tryd.ntmps137
       go_wp2;go_ret;exact⟨rfl,rfl⟩
theorem qS (v:Nat)(l:List UInt8):je 0 v l=(v,0):=rfl
theorem J8 (f v:Nat):je f v []=(v,0):=by cases f<;>rfl
theorem jO {f v:Nat}{c:UInt8}{l:List UInt8}(h:hexv c<16):je (f+1) v (c :: l)=((je f (v*16+hexv c) l).1,(je f (v*16+hexv c) l).2+1):=by rw [je,if_pos h]
theorem qt {f v:Nat}{c:UInt8}{l:List UInt8}(h:¬hexv c<16):je (f+1) v (c :: l)=(v,0):=by rw [je,if_neg h]
def QM (L:List UInt8)(v k:Nat):Prop:=je 6 0 L=((je (6 - k) v (L.drop k)).1,k+(je (6 - k) v (L.drop k)).2)
theorem ZI {s:ByteArray}{v k:Nat}(hk:k<s.size)(h6:k<6)(h:QM s.data.toList v k)(hx:hexv (s[k]'hk)<16):QM s.data.toList (v*16+hexv (s[k]'hk)) (k+1):=by
 unfold QM at *;rw [h,jo s k hk,show 6 - k=(6 - (k+1))+1 by omega,jO hx];simp only;apply Prod.ext
 ·rfl
 ·simp only;omega
theorem zm {s:ByteArray}{v k:Nat}(h:QM s.data.toList v k)(hx:¬k<s.size\/¬k<6\/∃hk:k<s.size,¬hexv (s[k]'hk)<16):je 6 0 s.data.toList=(v,k):=by
 unfold QM at h;rw [h]
 have key:je (6 - k) v (s.data.toList.drop k)=(v,0):=by
  rcases hx with hx | hx | ⟨hk,hx⟩
  ·rw [List.drop_of_length_le (by rw [jc];omega),J8]
  ·rw [show 6 - k=0 by omega,qS]
  ·rw [jo s k hk]
   rcases Nat.lt_or_ge k 6 with q | q
   ·rw [show 6 - k=(6 - (k+1))+1 by omega,qt hx]
   ·rw [show 6 - k=0 by omega,qS]
 rw [key];simp
theorem qF (l:List UInt8)(c:UInt8):Lib.hasPrefix l [c]=decide (l.head?=some c):=by
 cases l with
 | nil=>rfl
 | cons a r=>
  by_cases e:a=c
  ·subst e;simp [Lib.hasPrefix]
  ·simp [Lib.hasPrefix,List.isPrefixOf,Ne.symm e,e]
theorem qL {L:List UInt8}{v:Nat}(h:je 6 0 L=(v,0)):j2 L=.inl 4:=by
 unfold j2;rw [h,if_pos (.inl rfl)]
theorem qd {L:List UInt8}{v k:Nat}(h:je 6 0 L=(v,k))(hh:(L.drop k).head?≠some 125):j2 L=.inl 4:=by
 unfold j2;rw [h,if_pos (.inr hh)]
theorem qT {L:List UInt8}{v k:Nat}(h:je 6 0 L=(v,k))(hk:k≠0)(hh:(L.drop k).head?=some 125):j2 L=if sc (v:Int)=true then .inr ((v:Int),(k+4)) else .inl 3:=by
 unfold j2;rw [h,if_neg (by rw [hh];simp [hk])]
theorem XF (v:Nat)(h:v<1048576):IntKind.i32.wrap ((v:Int)*16)=((v*16:Nat):Int):=by
 simp [IntKind.wrap,IntKind.bits,IntKind.signed];omega
theorem Xp (w:World)(s:ByteArray)(hs:s.size<=1073741824)(Q:Ji)(hQ:Hid (Q=j2 s.data.toList)) :
  Calls Tryd.prog 134 #[.string s] w fun e w'=>e=.returned (.tuple #[.int .i32 (zS Q),.int .i64 (zL Q:Int),.int .i64 (zC Q)])/\Below w.heap.size w w':=by
 have KD:∀(c:UInt8) (W:World),Hid (Calls Tryd.prog 137 #[.int .u8 (c.toNat:Int)] W fun e w'=>e=.returned (.int .i32 (Jk c))/\w'=W):=fun c W=>jb (QC W c)
 go_enter Tryd.func134,Tryd.ntmps134
 go_wp2_with fail
 go_loopw [5,6] (fun r n wr=>∃v k:Nat,r=.int .i32 (v:Int)/\n=.int .i64 (k:Int)/\k<=6/\k<=s.size/\Hid (v<16 ^ k)/\Hid (QM s.data.toList v k)/\Hid (Below w.heap.size w wr)) (fun _ n _=>s.size - (intOf n).toNat)
 case atStart=>exact⟨0,0,rfl,rfl,by omega,by omega,jb (by decide),jb (by unfold QM;simp),jb (Below.refl _ _)⟩
 case round=>
  obtain⟨v,k,rfl,rfl,k6,hks,hv,hU,hB⟩:=hrel
  by_cases c1:k<s.size
  ·have i1:(k:Int)<(s.size:Int):=by omega
   by_cases c2:k<6
   ·have i2:(k:Int)<6:=by omega
    have v20:v<1048576:=Nat.lt_of_lt_of_le (ja hv) (Nat.pow_le_pow_right (by decide) (show k<=5 by omega));have KC:=KD (s[k]'c1);have UM:=jb (ZI c1 c2 (ja hU))
    by_cases c3:hexv (s[k]'c1)<16
    ·have hD:Jk (s[k]'c1)=(hexv (s[k]'c1):Int):=by unfold Jk;rw [if_pos c3]
     rw [hD] at KC;have UM2:=jb (ja UM c3);have hv2:Hid (v*16+hexv (s[k]'c1)<16 ^ (k+1)):=jb (by have:=ja hv;rw [Nat.pow_succ];omega);have y1:=XF v v20
     have y2:IntKind.i32.wrap (((v*16:Nat):Int)+(hexv (s[k]'c1):Int))=((v*16+hexv (s[k]'c1):Nat):Int):=by
      simp [IntKind.wrap,IntKind.bits,IntKind.signed];omega
     have i3:(hexv (s[k]'c1):Int) ≥ 0:=by omega
     clear hD UM hv hU hQ KD;generalize hexv (s[k]'c1)=d at *
     go_wp2_with fail
     refine(ja (KC wr)).mono ?_
     rintro _ w1 ⟨rfl,hw⟩
     rw [hw];clear hw
     go_wp2_with fail
     refine(ja (KC wr)).mono ?_
     rintro _ w1 ⟨rfl,hw⟩
     rw [hw];clear hw;go_wp2;go_roundw
     case rel=>exact⟨v*16+d,k+1,by go_num,by go_num,by omega,by omega,hv2,UM2,hB⟩
     case measure=>simp [intOf];omega
    ·have hD:Jk (s[k]'c1) = -1:=by unfold Jk;rw [if_neg c3]
     rw [hD] at KC;clear UM v20 hD
     go_wp2_with fail
     refine(ja (KC wr)).mono ?_
     rintro _ W0 ⟨rfl,hw⟩
     have BB:Hid (Below w.heap.size w W0):=jb (by rw [hw];exact ja hB);clear hw hB KC KD;have hF:=zm (ja hU) (.inr (.inr ⟨c1,c3⟩));have v24:v<16777216:=Nat.lt_of_lt_of_le (ja hv) (Nat.pow_le_pow_right (by decide) k6);have s0:(0:Int)<=(k:Int):=by omega
     have s1:(k:Int)<=(s.size:Int):=by omega
     have KP:=jb (Tryd.strings_HasPrefix (s.extract k s.size) ⟨#[125]⟩ W0);rw [jj] at KP;have KP:Hid (Calls Tryd.prog 93 #[.string (s.extract k s.size),.string ⟨#[125]⟩] W0 fun e w'=>e=.returned (.bool (decide ((s.data.toList.drop k).head?=some 125)))/\w'=W0):=jb (by rw [<-qF];exact ja KP)
     by_cases k0:k=0
     ·have F:Hid (Q=.inl 4):=jb (by rw [ja hQ];exact qL (by rw [hF,k0]))
      have i0:((k:Int) == 0)=true:=by rw [k0];rfl
      clear hF hv hU hQ KP k0;go_wp2;refine bodyPost_ret (v:=.tuple #[.int .i32 0,.int .i64 0,.int .i64 4]) (by simp [results,Tryd.results134,go_sem]) rfl ?_
      rw [ja F];exact⟨rfl,ja BB⟩
     ·have i0:((k:Int) == 0)=false:=beq_false_of_ne (by omega)
      by_cases hh:(s.data.toList.drop k).head?=some 125
      ·rw [decide_eq_true hh] at KP
       have F:=qT hF k0 hh;have KS:=jb (Jc (v:Int) W0);have hz:=qZ (v:Int);generalize jT (v:Int)=z at *;cases hsc:sc (v:Int) with
       | true=>
        rw [hsc,if_pos rfl] at F;have F:Hid (Q=.inr ((v:Int),(k+4))):=jb (by rw [ja hQ];exact F);rw [hsc] at hz;have hz:(z == 0)=false:=hz;have y:((3:Int)+(k:Int)+1)=((k+4:Nat):Int):=by omega
        clear hF hv hU hQ k0 hh hsc
        go_wp2_with fail
        refine(ja KP).mono ?_
        rintro _ w1 ⟨rfl,rfl⟩
        go_wp2_with fail
        refine(ja KS).mono ?_
        rintro _ w1 ⟨rfl,rfl⟩
        go_wp2;refine bodyPost_ret (v:=.tuple #[.int .i32 (v:Int),.int .i64 ((k+4:Nat):Int),.int .i64 0]) (by simp [results,Tryd.results134,go_sem]<;>omega) rfl ?_
        rw [ja F];exact⟨rfl,ja BB⟩
       | false=>
        rw [hsc,if_neg (by decide)] at F;have F:Hid (Q=.inl 3):=jb (by rw [ja hQ];exact F);rw [hsc] at hz;have hz:(z == 0)=true:=hz;clear hF hv hU hQ k0 hh hsc
        go_wp2_with fail
        refine(ja KP).mono ?_
        rintro _ w1 ⟨rfl,rfl⟩
        go_wp2_with fail
        refine(ja KS).mono ?_
        rintro _ w1 ⟨rfl,rfl⟩
        go_wp2;refine bodyPost_ret (v:=.tuple #[.int .i32 0,.int .i64 0,.int .i64 3]) (by simp [results,Tryd.results134,go_sem]) rfl ?_
        rw [ja F];exact⟨rfl,ja BB⟩
      ·rw [decide_eq_false hh] at KP
       have F:Hid (Q=.inl 4):=jb (by rw [ja hQ];exact qd hF hh);clear hF hv hU hQ k0 hh
       go_wp2_with fail
       refine(ja KP).mono ?_
       rintro _ w1 ⟨rfl,rfl⟩
       go_wp2;refine bodyPost_ret (v:=.tuple #[.int .i32 0,.int .i64 0,.int .i64 4]) (by simp [results,Tryd.results134,go_sem]) rfl ?_
       rw [ja F];exact⟨rfl,ja BB⟩
   ·have i2:¬(k:Int)<6:=by omega
    have t2:decide ((k:Int)<6)=false:=decide_eq_false i2;have BB:=hB;clear KD hB;generalize wr=W0 at *;have hF:=zm (ja hU) (.inr (.inl c2));have v24:v<16777216:=Nat.lt_of_lt_of_le (ja hv) (Nat.pow_le_pow_right (by decide) k6);have s0:(0:Int)<=(k:Int):=by omega
    have s1:(k:Int)<=(s.size:Int):=by omega
    have KP:=jb (Tryd.strings_HasPrefix (s.extract k s.size) ⟨#[125]⟩ W0);rw [jj] at KP;have KP:Hid (Calls Tryd.prog 93 #[.string (s.extract k s.size),.string ⟨#[125]⟩] W0 fun e w'=>e=.returned (.bool (decide ((s.data.toList.drop k).head?=some 125)))/\w'=W0):=jb (by rw [<-qF];exact ja KP)
    by_cases k0:k=0
    ·have F:Hid (Q=.inl 4):=jb (by rw [ja hQ];exact qL (by rw [hF,k0]))
     have i0:((k:Int) == 0)=true:=by rw [k0];rfl
     clear hF hv hU hQ KP k0;go_wp2;refine bodyPost_ret (v:=.tuple #[.int .i32 0,.int .i64 0,.int .i64 4]) (by simp [results,Tryd.results134,go_sem]) rfl ?_
     rw [ja F];exact⟨rfl,ja BB⟩
    ·have i0:((k:Int) == 0)=false:=beq_false_of_ne (by omega)
     by_cases hh:(s.data.toList.drop k).head?=some 125
     ·rw [decide_eq_true hh] at KP
      have F:=qT hF k0 hh;have KS:=jb (Jc (v:Int) W0);have hz:=qZ (v:Int);generalize jT (v:Int)=z at *;cases hsc:sc (v:Int) with
      | true=>
       rw [hsc,if_pos rfl] at F;have F:Hid (Q=.inr ((v:Int),(k+4))):=jb (by rw [ja hQ];exact F);rw [hsc] at hz;have hz:(z == 0)=false:=hz;have y:((3:Int)+(k:Int)+1)=((k+4:Nat):Int):=by omega
       clear hF hv hU hQ k0 hh hsc
       go_wp2_with fail
       refine(ja KP).mono ?_
       rintro _ w1 ⟨rfl,rfl⟩
       go_wp2_with fail
       refine(ja KS).mono ?_
       rintro _ w1 ⟨rfl,rfl⟩
       go_wp2;refine bodyPost_ret (v:=.tuple #[.int .i32 (v:Int),.int .i64 ((k+4:Nat):Int),.int .i64 0]) (by simp [results,Tryd.results134,go_sem]<;>omega) rfl ?_
       rw [ja F];exact⟨rfl,ja BB⟩
      | false=>
       rw [hsc,if_neg (by decide)] at F;have F:Hid (Q=.inl 3):=jb (by rw [ja hQ];exact F);rw [hsc] at hz;have hz:(z == 0)=true:=hz;clear hF hv hU hQ k0 hh hsc
       go_wp2_with fail
       refine(ja KP).mono ?_
       rintro _ w1 ⟨rfl,rfl⟩
       go_wp2_with fail
       refine(ja KS).mono ?_
       rintro _ w1 ⟨rfl,rfl⟩
       go_wp2;refine bodyPost_ret (v:=.tuple #[.int .i32 0,.int .i64 0,.int .i64 3]) (by simp [results,Tryd.results134,go_sem]) rfl ?_
       rw [ja F];exact⟨rfl,ja BB⟩
     ·rw [decide_eq_false hh] at KP
      have F:Hid (Q=.inl 4):=jb (by rw [ja hQ];exact qd hF hh);clear hF hv hU hQ k0 hh
      go_wp2_with fail
      refine(ja KP).mono ?_
      rintro _ w1 ⟨rfl,rfl⟩
      go_wp2;refine bodyPost_ret (v:=.tuple #[.int .i32 0,.int .i64 0,.int .i64 4]) (by simp [results,Tryd.results134,go_sem]) rfl ?_
      rw [ja F];exact⟨rfl,ja BB⟩
  ·have i1:¬(k:Int)<(s.size:Int):=by omega
   have t1:decide ((k:Int)<(s.size:Int))=false:=decide_eq_false i1;have BB:=hB;clear KD hB;generalize wr=W0 at *;have hF:=zm (ja hU) (.inl c1);have v24:v<16777216:=Nat.lt_of_lt_of_le (ja hv) (Nat.pow_le_pow_right (by decide) k6);have s0:(0:Int)<=(k:Int):=by omega
   have s1:(k:Int)<=(s.size:Int):=by omega
   have KP:=jb (Tryd.strings_HasPrefix (s.extract k s.size) ⟨#[125]⟩ W0);rw [jj] at KP;have KP:Hid (Calls Tryd.prog 93 #[.string (s.extract k s.size),.string ⟨#[125]⟩] W0 fun e w'=>e=.returned (.bool (decide ((s.data.toList.drop k).head?=some 125)))/\w'=W0):=jb (by rw [<-qF];exact ja KP)
   by_cases k0:k=0
   ·have F:Hid (Q=.inl 4):=jb (by rw [ja hQ];exact qL (by rw [hF,k0]))
    have i0:((k:Int) == 0)=true:=by rw [k0];rfl
    clear hF hv hU hQ KP k0;go_wp2;refine bodyPost_ret (v:=.tuple #[.int .i32 0,.int .i64 0,.int .i64 4]) (by simp [results,Tryd.results134,go_sem]) rfl ?_
    rw [ja F];exact⟨rfl,ja BB⟩
   ·have i0:((k:Int) == 0)=false:=beq_false_of_ne (by omega)
    by_cases hh:(s.data.toList.drop k).head?=some 125
    ·rw [decide_eq_true hh] at KP
     have F:=qT hF k0 hh;have KS:=jb (Jc (v:Int) W0);have hz:=qZ (v:Int);generalize jT (v:Int)=z at *;cases hsc:sc (v:Int) with
     | true=>
      rw [hsc,if_pos rfl] at F;have F:Hid (Q=.inr ((v:Int),(k+4))):=jb (by rw [ja hQ];exact F);rw [hsc] at hz;have hz:(z == 0)=false:=hz;have y:((3:Int)+(k:Int)+1)=((k+4:Nat):Int):=by omega
      clear hF hv hU hQ k0 hh hsc
      go_wp2_with fail
      refine(ja KP).mono ?_
      rintro _ w1 ⟨rfl,rfl⟩
      go_wp2_with fail
      refine(ja KS).mono ?_
      rintro _ w1 ⟨rfl,rfl⟩
      go_wp2;refine bodyPost_ret (v:=.tuple #[.int .i32 (v:Int),.int .i64 ((k+4:Nat):Int),.int .i64 0]) (by simp [results,Tryd.results134,go_sem]<;>omega) rfl ?_
      rw [ja F];exact⟨rfl,ja BB⟩
     | false=>
      rw [hsc,if_neg (by decide)] at F;have F:Hid (Q=.inl 3):=jb (by rw [ja hQ];exact F);rw [hsc] at hz;have hz:(z == 0)=true:=hz;clear hF hv hU hQ k0 hh hsc
      go_wp2_with fail
      refine(ja KP).mono ?_
      rintro _ w1 ⟨rfl,rfl⟩
      go_wp2_with fail
      refine(ja KS).mono ?_
      rintro _ w1 ⟨rfl,rfl⟩
      go_wp2;refine bodyPost_ret (v:=.tuple #[.int .i32 0,.int .i64 0,.int .i64 3]) (by simp [results,Tryd.results134,go_sem]) rfl ?_
      rw [ja F];exact⟨rfl,ja BB⟩
    ·rw [decide_eq_false hh] at KP
     have F:Hid (Q=.inl 4):=jb (by rw [ja hQ];exact qd hF hh);clear hF hv hU hQ k0 hh
     go_wp2_with fail
     refine(ja KP).mono ?_
     rintro _ w1 ⟨rfl,rfl⟩
     go_wp2;refine bodyPost_ret (v:=.tuple #[.int .i32 0,.int .i64 0,.int .i64 4]) (by simp [results,Tryd.results134,go_sem]) rfl ?_
     rw [ja F];exact⟨rfl,ja BB⟩
end escs
namespace bigs
open Go.RowKit
theorem qu (w:World)(b:Nat)(hb:GoodB b) :
  Calls Tryd.prog 128 #[.int .i64 (b:Int)] w fun e w'=>e=.returned (.tuple #[.string ⟨(preB b).toArray⟩,.bool true])/\w'=w:=by
 rcases hb with rfl | rfl | rfl | rfl
 all_goals
  go_enter Tryd.func128,Tryd.ntmps128
  go_wp2;go_ret2;exact⟨rfl,rfl⟩
theorem qi (c:UInt8)(r:List UInt8):Lib.hasPrefix (48 :: c :: r) [48,c]=true/\Lib.trimPrefix (48 :: c :: r) [48,c]=r:=by
 have h:Lib.hasPrefix (48 :: c :: r) [48,c]=true:=by simp [Lib.hasPrefix]
 exact⟨h,by unfold Lib.trimPrefix;rw [if_pos h];rfl⟩
theorem zA {c:UInt8}{l:List UInt8}(hn:∀r,l≠48 :: c :: r):Lib.hasPrefix l [48,c]=false:=by
 cases l with
 | nil=>rfl
 | cons b r=>
  cases r with
  | nil=>simp [Lib.hasPrefix,List.isPrefixOf]
  | cons d r=>
   by_cases e1:b=48
   ·have:d≠c:=fun e=>hn r (by rw [e1,e])
    simp [Lib.hasPrefix,List.isPrefixOf,Ne.symm this]
   ·simp [Lib.hasPrefix,List.isPrefixOf,Ne.symm e1]
theorem jae (l:List UInt8):Lib.hasPrefix l [45]=(signCut l).1/\Lib.trimPrefix l [45]=(signCut l).2:=by
 cases l with
 | nil=>exact⟨rfl,rfl⟩
 | cons b r=>
  by_cases e:b=45
  ·subst e
   have h:Lib.hasPrefix (45 :: r) [45]=true:=by simp [Lib.hasPrefix]
   refine⟨by rw [h];rfl,?_⟩;unfold Lib.trimPrefix;rw [if_pos h];rfl
  ·have h:Lib.hasPrefix (b :: r) [45]=false:=by simp [Lib.hasPrefix,List.isPrefixOf,Ne.symm e]
   refine⟨by rw [h,signCut,if_neg e],?_⟩;unfold Lib.trimPrefix;rw [if_neg (by rw [h];decide),signCut,if_neg e]
theorem za {l:List UInt8}(h2:∀r,l≠48 :: 98 :: r)(h8:∀r,l≠48 :: 111 :: r)(h16:∀r,l≠48 :: 120 :: r):baseCut l=(10,l):=by
 cases l with
 | nil=>rfl
 | cons c r=>
  cases r with
  | nil=>rfl
  | cons d r=>
   simp only [baseCut]
   by_cases e:c=48
   ·subst e
    rw [if_pos rfl,if_neg (fun e=>h2 r (by rw [e])),if_neg (fun e=>h8 r (by rw [e])),if_neg (fun e=>h16 r (by rw [e]))]
   ·rw [if_neg e]
theorem JV (l:List UInt8):GoodB (baseCut l).1/\(baseCut l).2.length<=l.length:=by
 unfold GoodB
 by_cases h2:∃r,l=48 :: 98 :: r
 ·obtain⟨r,rfl⟩:=h2
  exact⟨.inl rfl,by simp [baseCut];omega⟩
 ·by_cases h8:∃r,l=48 :: 111 :: r
  ·obtain⟨r,rfl⟩:=h8
   exact⟨.inr (.inl rfl),by simp [baseCut];omega⟩
  ·by_cases h16:∃r,l=48 :: 120 :: r
   ·obtain⟨r,rfl⟩:=h16
    exact⟨.inr (.inr (.inr rfl)),by simp [baseCut];omega⟩
   ·rw [za (fun r e=>h2 ⟨r,e⟩) (fun r e=>h8 ⟨r,e⟩) (fun r e=>h16 ⟨r,e⟩)]
    exact⟨.inr (.inr (.inl rfl)),Nat.le_refl _⟩
theorem Qg (l:List UInt8):(signCut l).2.length<=l.length:=by
 cases l with
 | nil=>exact Nat.le_refl _
 | cons c r=>simp only [signCut];split<;>simp
theorem Jh (w:World)(s r2 r8 r16 out:ByteArray)(f2 f8 f16:Bool)(base:Nat)
  (K2:Hid (Calls Tryd.prog 51 #[.string s,.string ⟨#[48,98]⟩] w fun e w'=>e=.returned (.tuple #[.string r2,.bool f2])/\w'=w))
  (K8:Hid (Calls Tryd.prog 51 #[.string s,.string ⟨#[48,111]⟩] w fun e w'=>e=.returned (.tuple #[.string r8,.bool f8])/\w'=w))
  (K16:Hid (Calls Tryd.prog 51 #[.string s,.string ⟨#[48,120]⟩] w fun e w'=>e=.returned (.tuple #[.string r16,.bool f16])/\w'=w))
  (h2:Hid (f2=true->out=r2/\base=2)) (h8:Hid (f2=false->f8=true->out=r8/\base=8)) (h16:Hid (f2=false->f8=false->f16=true->out=r16/\base=16)) (h10:Hid (f2=false->f8=false->f16=false->out=s/\base=10)) :
  Calls Tryd.prog 112 #[.string s] w fun e w'=>e=.returned (.tuple #[.string out,.int .u64 (base:Int)])/\w'=w:=by
 have p2:=qu w 2 (.inl rfl);have p8:=qu w 8 (.inr (.inl rfl));have p16:=qu w 16 (.inr (.inr (.inr rfl)));rw [show((2:Nat):Int)=2 by rfl,show(preB 2).toArray=#[48,98] by rfl] at p2;rw [show((8:Nat):Int)=8 by rfl,show(preB 8).toArray=#[48,111] by rfl] at p8;rw [show((16:Nat):Int)=16 by rfl,show(preB 16).toArray=#[48,120] by rfl] at p16;have P2:=jb p2;have P8:=jb p8;have P16:=jb p16;clear p2 p8 p16;have x0:∀W,(Instr.index 166 (.agg #[.int .i64 2,.int .i64 8,.int .i64 16]) (.int .i64 0)).run Tryd.prog W=.ok (.int .i64 2) W:=fun W=>by simp [Instr.index,run_underlying Tryd.underlying166,asIntOf,go_sem]
 have x1:∀W,(Instr.index 166 (.agg #[.int .i64 2,.int .i64 8,.int .i64 16]) (.int .i64 1)).run Tryd.prog W=.ok (.int .i64 8) W:=fun W=>by simp [Instr.index,run_underlying Tryd.underlying166,asIntOf,go_sem]
 have x2:∀W,(Instr.index 166 (.agg #[.int .i64 2,.int .i64 8,.int .i64 16]) (.int .i64 2)).run Tryd.prog W=.ok (.int .i64 16) W:=fun W=>by simp [Instr.index,run_underlying Tryd.underlying166,asIntOf,go_sem]
 go_enter Tryd.func112,Tryd.ntmps112
 go_wp2
 go_loopw [11] (fun i wr=>∃k:Nat,k<=3/\i=.int .i64 k/\Hid (1<=k->f2=false)/\Hid (2<=k->f8=false)/\Hid (3<=k->f16=false)/\wr=w) (fun i _=>3 - (intOf i).toNat)
 case atStart=>exact⟨0,by omega,rfl,jb (by omega),jb (by omega),jb (by omega),rfl⟩
 case round=>
  obtain⟨k,hk,rfl,g2,g8,g16,rfl⟩:=hrel;have hk4:k=0\/k=1\/k=2\/k=3:=by omega
  rcases hk4 with rfl | rfl | rfl | rfl
  ·clear P8 P16 K8 K16 g2 g8 g16
   cases f2 with
   | true=>
    have E:=jb (ja h2 rfl);clear h2 h8 h16 h10
    go_wp2_with fail
    refine(ja P2).mono ?_
    rintro _ w2 ⟨rfl,rfl⟩
    go_wp2_with fail
    refine(ja K2).mono ?_
    rintro _ w3 ⟨rfl,rfl⟩
    clear P2 K2;go_wp2;go_ret2;rw [(ja E).1,(ja E).2];exact⟨rfl,rfl⟩
   | false=>
    clear h2 h8 h16 h10
    go_wp2_with fail
    refine(ja P2).mono ?_
    rintro _ w2 ⟨rfl,rfl⟩
    go_wp2_with fail
    refine(ja K2).mono ?_
    rintro _ w3 ⟨rfl,rfl⟩
    clear P2 K2;go_wp2;go_roundw
    case rel=>exact⟨1,by omega,by go_num,by first | exact jb (fun _=>rfl) | exact jb (by omega) | simp [Hid],by first | exact jb (fun _=>rfl) | exact jb (by omega) | simp [Hid],by first | exact jb (fun _=>rfl) | exact jb (by omega) | simp [Hid],by trivial⟩
    case measure=>simp [intOf]
  ·have z2:=ja g2 (by omega)
   subst z2;clear P2 P16 K2 K16 g2 g8 g16;cases f8 with
   | true=>
    have E:=jb (ja h8 rfl rfl);clear h2 h8 h16 h10
    go_wp2_with fail
    refine(ja P8).mono ?_
    rintro _ w2 ⟨rfl,rfl⟩
    go_wp2_with fail
    refine(ja K8).mono ?_
    rintro _ w3 ⟨rfl,rfl⟩
    clear P8 K8;go_wp2;go_ret2;rw [(ja E).1,(ja E).2];exact⟨rfl,rfl⟩
   | false=>
    clear h2 h8 h16 h10
    go_wp2_with fail
    refine(ja P8).mono ?_
    rintro _ w2 ⟨rfl,rfl⟩
    go_wp2_with fail
    refine(ja K8).mono ?_
    rintro _ w3 ⟨rfl,rfl⟩
    clear P8 K8;go_wp2;go_roundw
    case rel=>exact⟨2,by omega,by go_num,by first | exact jb (fun _=>rfl) | exact jb (by omega) | simp [Hid],by first | exact jb (fun _=>rfl) | exact jb (by omega) | simp [Hid],by first | exact jb (fun _=>rfl) | exact jb (by omega) | simp [Hid],by trivial⟩
    case measure=>simp [intOf]
  ·have z2:=ja g2 (by omega)
   have z8:=ja g8 (by omega);subst z2 z8;clear P2 P8 K2 K8 g2 g8 g16;cases f16 with
   | true=>
    have E:=jb (ja h16 rfl rfl rfl);clear h2 h8 h16 h10
    go_wp2_with fail
    refine(ja P16).mono ?_
    rintro _ w2 ⟨rfl,rfl⟩
    go_wp2_with fail
    refine(ja K16).mono ?_
    rintro _ w3 ⟨rfl,rfl⟩
    clear P16 K16;go_wp2;go_ret2;rw [(ja E).1,(ja E).2];exact⟨rfl,rfl⟩
   | false=>
    clear h2 h8 h16 h10
    go_wp2_with fail
    refine(ja P16).mono ?_
    rintro _ w2 ⟨rfl,rfl⟩
    go_wp2_with fail
    refine(ja K16).mono ?_
    rintro _ w3 ⟨rfl,rfl⟩
    clear P16 K16;go_wp2;go_roundw
    case rel=>exact⟨3,by omega,by go_num,by first | exact jb (fun _=>rfl) | exact jb (by omega) | simp [Hid],by first | exact jb (fun _=>rfl) | exact jb (by omega) | simp [Hid],by first | exact jb (fun _=>rfl) | exact jb (by omega) | simp [Hid],by trivial⟩
    case measure=>simp [intOf]
  ·have E:=jb (ja h10 (ja g2 (by omega)) (ja g8 (by omega)) (ja g16 (by omega)))
   clear P2 P8 P16 K2 K8 K16 g2 g8 g16 h2 h8 h16 h10;go_wp2;go_ret2;rw [(ja E).1,(ja E).2];exact⟨rfl,rfl⟩
theorem JL (w:World)(s:ByteArray) :
  Calls Tryd.prog 112 #[.string s] w fun e w'=>e=.returned (.tuple #[.string ⟨(baseCut s.data.toList).2.toArray⟩,.int .u64 (((baseCut s.data.toList).1:Nat):Int)])/\w'=w:=by
 have K2:=Tryd.strings_CutPrefix s ⟨#[48,98]⟩ w;have K8:=Tryd.strings_CutPrefix s ⟨#[48,111]⟩ w;have K16:=Tryd.strings_CutPrefix s ⟨#[48,120]⟩ w;rw [show(⟨#[48,98]⟩:ByteArray).data.toList=[48,98] by rfl] at K2;rw [show(⟨#[48,111]⟩:ByteArray).data.toList=[48,111] by rfl] at K8;rw [show(⟨#[48,120]⟩:ByteArray).data.toList=[48,120] by rfl] at K16;refine Jh w s _ _ _ _ _ _ _ _ (jb K2) (jb K8) (jb K16) ?_ ?_ ?_ ?_
 all_goals clear K2 K8 K16
 all_goals unfold Hid
 all_goals
  by_cases h2:∃r,s.data.toList=48 :: 98 :: r
  ·obtain⟨r,e⟩:=h2
   rw [e,(qi 98 r).1];simp [(qi 98 r).2,baseCut]
  ·have n2:∀r,s.data.toList≠48 :: 98 :: r:=fun r e=>h2 ⟨r,e⟩
   rw [zA n2]
   by_cases h8:∃r,s.data.toList=48 :: 111 :: r
   ·obtain⟨r,e⟩:=h8
    rw [e];simp [(qi 111 r).1,(qi 111 r).2,baseCut]
   ·have n8:∀r,s.data.toList≠48 :: 111 :: r:=fun r e=>h8 ⟨r,e⟩
    by_cases h16:∃r,s.data.toList=48 :: 120 :: r
    ·obtain⟨r,e⟩:=h16
     try simp only [zA n8]
     rw [e];simp [(qi 120 r).1,(qi 120 r).2,baseCut]
    ·have n16:∀r,s.data.toList≠48 :: 120 :: r:=fun r e=>h16 ⟨r,e⟩
     simp [zA n8,zA n16,za n2 n8 n16]
theorem X6 (X:Nat)(h:X<=9223372036854775808):IntKind.i64.wrap (IntKind.u64.wrap (-(X:Int))) = -(X:Int):=by
 simp [IntKind.wrap,IntKind.bits,IntKind.signed];omega
theorem Yr (X:Nat)(h:X<=9223372036854775807):IntKind.i64.wrap (X:Int)=(X:Int):=by
 simp [IntKind.wrap,IntKind.bits,IntKind.signed];omega
theorem Jg (w:World)(s c1 ds:ByteArray)(below f g:Bool)(base lim X:Nat)(R:Int×Int)(hs:s.size<=80)(hl:lim=limitOf below)(hX:g=true->X<=lim)
  (K1:Hid (Calls Tryd.prog 51 #[.string s,.string ⟨#[45]⟩] w fun e w'=>e=.returned (.tuple #[.string c1,.bool below])/\w'=w))
  (K2:Hid (Calls Tryd.prog 112 #[.string c1] w fun e w'=>e=.returned (.tuple #[.string ds,.int .u64 (base:Int)])/\w'=w))
  (K3:Hid (Calls Tryd.prog 113 #[.string ds,.int .u64 (base:Int)] w fun e w'=>e=.returned (.bool f)/\w'=w))
  (K4:Hid (Calls Tryd.prog 114 #[.string ds,.int .u64 (base:Int),.int .u64 (lim:Int)] w fun e w'=>e=.returned (.tuple #[.int .u64 (X:Int),.bool g])/\w'=w))
  (hR:Hid (R=if f=false then (0,4) else if g=false then (0,7) else (if below then -(X:Int) else (X:Int),0))) :
  Calls Tryd.prog 97 #[.string s] w fun e w'=>e=.returned (.tuple #[.int .i64 R.1,.int .i64 R.2])/\w'=w:=by
 have i0:¬(s.size:Int) > 80:=by omega
 have i00:¬(80:Int)<(s.size:Int):=by omega
 cases f with
 | false=>
  have E:R=(0,4):=by rw [ja hR];rfl
  subst E;clear hR K4 hX hl
  go_enter Tryd.func97,Tryd.ntmps97
  go_wp2_with fail
  refine(ja K1).mono ?_
  rintro _ w1 ⟨rfl,rfl⟩
  go_wp2_with fail
  refine(ja K2).mono ?_
  rintro _ w2 ⟨rfl,rfl⟩
  go_wp2_with fail
  refine(ja K3).mono ?_
  rintro _ w3 ⟨rfl,rfl⟩
  clear K1 K2 K3;go_wp2;go_ret2;exact⟨rfl,rfl⟩
 | true=>
  cases below with
  | false=>
   have hl':lim=9223372036854775807:=hl;subst hl';cases g with
   | false=>
    have E:R=(0,7):=by rw [ja hR];rfl
    subst E;clear hR hX hl
    go_enter Tryd.func97,Tryd.ntmps97
    go_wp2_with fail
    refine(ja K1).mono ?_
    rintro _ w1 ⟨rfl,rfl⟩
    go_wp2_with fail
    refine(ja K2).mono ?_
    rintro _ w2 ⟨rfl,rfl⟩
    go_wp2_with fail
    refine(ja K3).mono ?_
    rintro _ w3 ⟨rfl,rfl⟩
    go_wp2_with fail
    refine(ja K4).mono ?_
    rintro _ w4 ⟨rfl,rfl⟩
    clear K1 K2 K3 K4;go_wp2;go_ret2;exact⟨rfl,rfl⟩
   | true=>
    have E:R=((X:Int),0):=by rw [ja hR];rfl
    subst E;have y:=Yr X (hX rfl);clear hR hX hl
    go_enter Tryd.func97,Tryd.ntmps97
    go_wp2_with fail
    refine(ja K1).mono ?_
    rintro _ w1 ⟨rfl,rfl⟩
    go_wp2_with fail
    refine(ja K2).mono ?_
    rintro _ w2 ⟨rfl,rfl⟩
    go_wp2_with fail
    refine(ja K3).mono ?_
    rintro _ w3 ⟨rfl,rfl⟩
    go_wp2_with fail
    refine(ja K4).mono ?_
    rintro _ w4 ⟨rfl,rfl⟩
    clear K1 K2 K3 K4;go_wp2;go_ret2;exact⟨rfl,rfl⟩
  | true=>
   have hl':lim=9223372036854775808:=hl;subst hl';cases g with
   | false=>
    have E:R=(0,7):=by rw [ja hR];rfl
    subst E;clear hR hX hl
    go_enter Tryd.func97,Tryd.ntmps97
    go_wp2_with fail
    refine(ja K1).mono ?_
    rintro _ w1 ⟨rfl,rfl⟩
    go_wp2_with fail
    refine(ja K2).mono ?_
    rintro _ w2 ⟨rfl,rfl⟩
    go_wp2_with fail
    refine(ja K3).mono ?_
    rintro _ w3 ⟨rfl,rfl⟩
    go_wp2_with fail
    refine(ja K4).mono ?_
    rintro _ w4 ⟨rfl,rfl⟩
    clear K1 K2 K3 K4;go_wp2;go_ret2;exact⟨rfl,rfl⟩
   | true=>
    have E:R=(-(X:Int),0):=by rw [ja hR];rfl
    subst E;have y:=X6 X (hX rfl);clear hR hX hl
    go_enter Tryd.func97,Tryd.ntmps97
    go_wp2_with fail
    refine(ja K1).mono ?_
    rintro _ w1 ⟨rfl,rfl⟩
    go_wp2_with fail
    refine(ja K2).mono ?_
    rintro _ w2 ⟨rfl,rfl⟩
    go_wp2_with fail
    refine(ja K3).mono ?_
    rintro _ w3 ⟨rfl,rfl⟩
    go_wp2_with fail
    refine(ja K4).mono ?_
    rintro _ w4 ⟨rfl,rfl⟩
    clear K1 K2 K3 K4;go_wp2;go_ret2;exact⟨rfl,rfl⟩
theorem Y3 (l:List UInt8):(⟨l.toArray⟩:ByteArray).size=l.length:=by simp [ByteArray.size]
theorem ZS (w:World)(s:ByteArray) :
  Calls Tryd.prog 97 #[.string s] w fun e w'=>e=.returned (.tuple #[.int .i64 (numRes s.data.toList).1,.int .i64 (numRes s.data.toList).2])/\w'=w:=by
 by_cases h:80<s.size
 ·have E:numRes s.data.toList=(0,2):=by unfold numRes;rw [JJ,if_pos h]
  rw [E];have i0:(s.size:Int) > 80:=by omega
  have i00:(80:Int)<(s.size:Int):=by omega
  clear E
  go_enter Tryd.func97,Tryd.ntmps97
  go_wp2;go_ret2;exact⟨rfl,rfl⟩
 ·have K1:=Tryd.strings_CutPrefix s ⟨#[45]⟩ w
  rw [show(⟨#[45]⟩:ByteArray).data.toList=[45] by rfl,(jae s.data.toList).1,(jae s.data.toList).2] at K1;have E:numRes s.data.toList=bodyRes (signCut s.data.toList).1 (baseCut (signCut s.data.toList).2).1 (baseCut (signCut s.data.toList).2).2:=by unfold numRes;rw [JJ,if_neg h]
  have L1:=Qg s.data.toList;rw [E];clear E;generalize signCut s.data.toList=sg at *;obtain⟨below,t⟩:=sg;simp only at *;have K2:=JL w ⟨t.toArray⟩;obtain⟨G,L2⟩:=JV t;simp only at K2;generalize baseCut t=bc at *;obtain⟨base,d⟩:=bc;simp only at *;rw [JJ] at L1;have hd:(⟨d.toArray⟩:ByteArray).size<=80:=by rw [Y3];omega
  have b16:base<=16:=by unfold GoodB at G;omega
  have b2:2<=base:=by unfold GoodB at G;omega
  have K3:=Qd w ⟨d.toArray⟩ base (formedL base d) hd b16 rfl;have lim1:16<=limitOf below:=by unfold limitOf;split<;>omega
  have lim2:limitOf below<18446744073709551616:=by unfold limitOf;split<;>omega
  by_cases c:valG base 0 d<=limitOf below
  ·have K4:=Jw w ⟨d.toArray⟩ base (limitOf below) (valG base 0 d) (valG base 0 d) true hd b16 b2 lim1 lim2 rfl (jb (.inl ⟨rfl,rfl,c⟩))
   refine Jg w s ⟨t.toArray⟩ ⟨d.toArray⟩ below (formedL base d) true base (limitOf below) (valG base 0 d) _ (by omega) rfl (fun _=>c) (jb K1) (jb K2) (jb K3) (jb K4) (jb ?_);unfold bodyRes;rw [if_neg (show ¬limitOf below<valG base 0 d by omega)];simp
  ·have K4:=Jw w ⟨d.toArray⟩ base (limitOf below) (valG base 0 d) 0 false hd b16 b2 lim1 lim2 rfl (jb (.inr ⟨rfl,rfl,by omega⟩))
   refine Jg w s ⟨t.toArray⟩ ⟨d.toArray⟩ below (formedL base d) false base (limitOf below) 0 _ (by omega) rfl (fun h=>by cases h) (jb K1) (jb K2) (jb K3) (jb K4) (jb ?_);unfold bodyRes;rw [if_pos (show limitOf below<valG base 0 d by omega)];simp
open Go.RowKit
theorem ZN (l:List UInt8):(numRes l).2=0\/((numRes l).1=0/\((numRes l).2=2\/(numRes l).2=4\/(numRes l).2=7)):=by
 unfold numRes;split
 ·exact .inr ⟨rfl,.inl rfl⟩
 ·unfold bodyRes
  split
  ·exact .inr ⟨rfl,.inr (.inl rfl)⟩
  ·split
   ·exact .inr ⟨rfl,.inr (.inr rfl)⟩
   ·exact .inl rfl
theorem Xl {l:List UInt8}(h:(numRes l).2=0):l.length<=80/\formedL (baseCut (signCut l).2).1 (baseCut (signCut l).2).2=true/\valG (baseCut (signCut l).2).1 0 (baseCut (signCut l).2).2<=limitOf (signCut l).1/\(numRes l).1=if (signCut l).1 then -((valG (baseCut (signCut l).2).1 0 (baseCut (signCut l).2).2:Nat):Int) else ((valG (baseCut (signCut l).2).1 0 (baseCut (signCut l).2).2:Nat):Int):=by
 unfold numRes at *
 by_cases c:80<l.length
 ·rw [if_pos c] at h;exact absurd h (by decide)
 ·rw [if_neg c] at h ⊢
  unfold bodyRes at *;generalize (signCut l).1=below at *;generalize baseCut (signCut l).2=bd at *
  by_cases c1:formedL bd.1 bd.2=false
  ·rw [if_pos c1] at h;exact absurd h (by decide)
  ·rw [if_neg c1] at h ⊢
   by_cases c2:limitOf below<valG bd.1 0 bd.2
   ·rw [if_pos c2] at h;exact absurd h (by decide)
   ·rw [if_neg c2] at h ⊢
    exact⟨by omega,by simpa using c1,by omega,rfl⟩
theorem Jy (l:List UInt8) : -9223372036854775808<=(numRes l).1/\(numRes l).1<=9223372036854775807:=by
 rcases ZN l with h | ⟨h,_⟩
 ·obtain⟨_,_,h3,h4⟩:=Xl h
  rw [h4];generalize valG (baseCut (signCut l).2).1 0 (baseCut (signCut l).2).2=V at *;cases hb:(signCut l).1 with
  | true=>rw [hb] at h3;simp only [limitOf,if_true] at h3 ⊢;omega
  | false=>rw [hb] at h3;simp only [limitOf,Bool.false_eq_true,if_false] at h3 ⊢;omega
 ·rw [h];omega
end bigs
namespace utfs
open Go.RowKit
theorem jA (n:Int)(w:World):Calls Tryd.prog 54 #[.int .i64 n] w fun e w'=>e=.returned (.bool (sc n))/\w'=w:=by
 have key:∀b:Bool,sc n=b->Calls Tryd.prog 54 #[.int .i64 n] w (fun e w'=>e=.returned (.bool b)/\w'=w)->Calls Tryd.prog 54 #[.int .i64 n] w (fun e w'=>e=.returned (.bool (sc n))/\w'=w):=fun b e h=>by rw [e];exact h
 by_cases h0:0<=n
 ·have t0:decide (0<=n)=true:=decide_eq_true h0
  by_cases h1:n<=1114111
  ·have t1:decide (n<=1114111)=true:=decide_eq_true h1
   by_cases h2:n<55296
   ·have t2:decide (n<55296)=true:=decide_eq_true h2
    refine key true (decide_eq_true (by omega)) ?_
    clear key
    go_enter Tryd.func54,Tryd.ntmps54
    go_wp2;go_ret;exact⟨rfl,rfl⟩
   ·have t2:decide (n<55296)=false:=decide_eq_false h2
    by_cases h3:57343<n
    ·refine key true (decide_eq_true (by omega)) ?_
     have t3:decide (57343<n)=true:=decide_eq_true h3;clear key
     go_enter Tryd.func54,Tryd.ntmps54
     go_wp2;go_ret;exact⟨rfl,rfl⟩
    ·refine key false (decide_eq_false (by omega)) ?_
     have t3:decide (57343<n)=false:=decide_eq_false h3;clear key
     go_enter Tryd.func54,Tryd.ntmps54
     go_wp2;go_ret;exact⟨rfl,rfl⟩
  ·have t1:decide (n<=1114111)=false:=decide_eq_false h1
   refine key false (decide_eq_false (by omega)) ?_
   clear key
   go_enter Tryd.func54,Tryd.ntmps54
   go_wp2;go_ret;exact⟨rfl,rfl⟩
 ·have t0:decide (0<=n)=false:=decide_eq_false h0
  refine key false (decide_eq_false (by omega)) ?_
  clear key
  go_enter Tryd.func54,Tryd.ntmps54
  go_wp2;go_ret;exact⟨rfl,rfl⟩
theorem Yc (x:Int)(w:World):(convert 58 9 (.slice (some ⟨w.heap.size,0,none⟩) 1 1)).run Tryd.prog (w.alloc (.cells #[.int .u8 x] 5))=.ok (.string ⟨#[x.toNat.toUInt8]⟩) (w.alloc (.cells #[.int .u8 x] 5)):=by
 rw [run_convert_bytes_string _ 58 9 5 _ _ _ Tryd.underlying58 Tryd.underlying5 Tryd.underlying9]
 have hl:(loadCells ⟨w.heap.size,0,none⟩ 1).run Tryd.prog (w.alloc (.cells #[.int .u8 x] 5))=.ok (([x].map (Value.int .u8)).toArray) (w.alloc (.cells #[.int .u8 x] 5)) :=
  run_loadCells_list _ _ [.int .u8 x] (by intro j u hj;match j,hj with | 0,hj=>simp at hj;subst hj;simp [Addr.add])
 rw [run_bytesToString _ _ _ _ [x] hl];rfl
theorem jL (x:Int)(w:World)(h0:0<=x)(h1:x<=255):Calls Tryd.prog 76 #[.int .i64 x] w fun e w'=>e=.returned (.string ⟨#[x.toNat.toUInt8]⟩)/\Below w.heap.size w w':=by
 have hcv:=Yc x w
 go_enter Tryd.func76,Tryd.ntmps76
 go_wp2;go_ret;exact⟨rfl,(Below.refl _ w).alloc (Nat.le_refl _) _⟩
theorem J3 {a b:ByteArray}(h:a=b):Ending.returned (.string a)=.returned (.string b):=by rw [h]
theorem two_bytes (a b:UInt8):(⟨#[a]⟩:ByteArray)++⟨#[b]⟩=⟨#[a,b]⟩:=by apply ByteArray.ext;rw [ByteArray.data_append];rfl
theorem zw (a b c:UInt8):(⟨#[a]⟩:ByteArray)++⟨#[b]⟩++⟨#[c]⟩=⟨#[a,b,c]⟩:=by rw [two_bytes];apply ByteArray.ext;rw [ByteArray.data_append];rfl
theorem QF (a b c d:UInt8):(⟨#[a]⟩:ByteArray)++⟨#[b]⟩++⟨#[c]⟩++⟨#[d]⟩=⟨#[a,b,c,d]⟩:=by rw [zw];apply ByteArray.ext;rw [ByteArray.data_append];rfl
theorem zF (n:Int)(w:World)(hs:sc n=true):Calls Tryd.prog 55 #[.int .i64 n] w fun e w'=>e=.returned (.string ⟨(Lib.encodeRune n).toArray⟩)/\Below w.heap.size w w':=by
 have h:=jh hs
 rcases jX hs with ⟨a,e⟩ | ⟨a,b,e⟩ | ⟨a,b,e⟩ | ⟨a,e⟩
 ·rw [e]
  clear e hs
  go_enter Tryd.func55,Tryd.ntmps55
  go_wp2_with fail
  refine(jL _ _ (by omega) (by omega)).mono ?_
  rintro e w1 ⟨rfl,b1⟩
  go_wp2_with fail
  go_ret;exact⟨rfl,b1⟩
 ·rw [e]
  clear e hs
  go_enter Tryd.func55,Tryd.ntmps55
  go_wp2_with fail
  refine(jL _ _ (by omega) (by omega)).mono ?_
  rintro e w1 ⟨rfl,b1⟩
  go_wp2_with fail
  refine(jL _ _ (by omega) (by omega)).mono ?_
  rintro e w2 ⟨rfl,b2⟩
  go_wp2_with fail
  go_ret;exact⟨J3 (two_bytes _ _),b1.trans (b2.mono b1.size)⟩
 ·rw [e]
  clear e hs
  go_enter Tryd.func55,Tryd.ntmps55
  go_wp2_with fail
  refine(jL _ _ (by omega) (by omega)).mono ?_
  rintro e w1 ⟨rfl,c1⟩
  have b1:=c1
  go_wp2_with fail
  refine(jL _ _ (by omega) (by omega)).mono ?_
  rintro e w2 ⟨rfl,c2⟩
  have b2:=b1.trans (c2.mono b1.size)
  go_wp2_with fail
  refine(jL _ _ (by omega) (by omega)).mono ?_
  rintro e w3 ⟨rfl,c3⟩
  have b3:=b2.trans (c3.mono b2.size)
  go_wp2_with fail
  go_ret;exact⟨J3 (zw _ _ _),b3⟩
 ·rw [e]
  clear e hs
  go_enter Tryd.func55,Tryd.ntmps55
  go_wp2_with fail
  refine(jL _ _ (by omega) (by omega)).mono ?_
  rintro e w1 ⟨rfl,c1⟩
  have b1:=c1
  go_wp2_with fail
  refine(jL _ _ (by omega) (by omega)).mono ?_
  rintro e w2 ⟨rfl,c2⟩
  have b2:=b1.trans (c2.mono b1.size)
  go_wp2_with fail
  refine(jL _ _ (by omega) (by omega)).mono ?_
  rintro e w3 ⟨rfl,c3⟩
  have b3:=b2.trans (c3.mono b2.size)
  go_wp2_with fail
  refine(jL _ _ (by omega) (by omega)).mono ?_
  rintro e w4 ⟨rfl,c4⟩
  have b4:=b3.trans (c4.mono b3.size)
  go_wp2_with fail
  go_ret;exact⟨J3 (QF _ _ _ _),b4⟩
open Go.RowKit
theorem j6 {l:List UInt8}(h0:l≠[])(h:Lib.decodeL l=(65533,1)):jf l = -1/\jg l=1:=by
 have hb:jI l=true:=decide_eq_true (by rw [h];exact⟨rfl,rfl⟩);exact⟨by simp [jf,h0,hb],by simp [jg,h0,h]⟩
theorem qf {l:List UInt8}{v:Int}{n:Nat}(h0:l≠[])(h:Lib.decodeL l=(v.toNat,n))(hv:0<=v)(hn:n=1->v<128):jf l=v/\jg l=n:=by
 have hb:jI l=false:=decide_eq_false (by rw [h];simp only;omega);refine⟨?_,by simp [jg,h0,h]⟩;simp only [jf,h0,if_false,hb];rw [h];simp only [Bool.false_eq_true,if_false];omega
def byt (l:List UInt8)(i:Nat):Nat:=(l.getD i 0).toNat
theorem qc (l:List UInt8)(i:Nat):byt l i<256:=UInt8.toNat_lt _
theorem jZ (l:List UInt8):Lib.decodeL l=Lib.decodeN l.length (byt l 0) (byt l 1) (byt l 2) (byt l 3):=Lib.decodeL_N l
def val (l:List UInt8)(lead:Int):Nat->Int
 | 0=>0
 | 1=>(byt l 0:Int) - lead
 | k+2=>val l lead (k+1)*64+(byt l (k+1):Int) - 128
def jC (l:List UInt8)(j:Nat):Prop:=128<=byt l j/\byt l j<192
theorem Zb (l:List UInt8)(a:Int):val l a 2=(((byt l 0:Nat):Int) - a)*64+(byt l 1:Int) - 128:=rfl
theorem JE (l:List UInt8)(a:Int):val l a 3=((((byt l 0:Nat):Int) - a)*64+(byt l 1:Int) - 128)*64+(byt l 2:Int) - 128:=rfl
theorem Ql (l:List UInt8)(a:Int):val l a 4=(((((byt l 0:Nat):Int) - a)*64+(byt l 1:Int) - 128)*64+(byt l 2:Int) - 128)*64+(byt l 3:Int) - 128:=rfl
theorem YZ (l:List UInt8)(h0:l≠[])(h:byt l 0<128):jf l=(byt l 0:Int)/\jg l=1:=by
 refine qf h0 ?_ (by omega) (fun _=>by omega)
 rw [jZ];unfold Lib.decodeN;rw [if_pos h];simp
theorem XY (l:List UInt8)(h0:l≠[])(h:(128<=byt l 0/\byt l 0<192)\/248<=byt l 0):jf l = -1/\jg l=1:=by
 have hb:=qc l 0;refine j6 h0 ?_
 rw [jZ];unfold Lib.decodeN;rw [if_neg (by omega),if_neg (by omega),if_neg (by omega),if_neg (by omega)]
theorem z6 (l:List UInt8)(h0:l≠[])(h:192<=byt l 0/\byt l 0<224)(hx:l.length<2\/¬jC l 1):jf l = -1/\jg l=1:=by
 have hb:=qc l 1;unfold jC at hx;refine j6 h0 ?_
 rw [jZ];unfold Lib.decodeN;rw [if_neg (by omega),if_neg (by omega),if_neg (by omega),if_neg (by omega)]
theorem zU (l:List UInt8)(h0:l≠[])(h:224<=byt l 0/\byt l 0<240)(hx:l.length<3\/¬jC l 1\/¬jC l 2):jf l = -1/\jg l=1:=by
 have hb:=qc l 1;have hb2:=qc l 2;unfold jC at hx;refine j6 h0 ?_
 rw [jZ];unfold Lib.decodeN;rw [if_neg (by omega),if_neg (by omega),if_neg (by omega),if_neg (by omega)]
theorem zP (l:List UInt8)(h0:l≠[])(h:240<=byt l 0/\byt l 0<248)(hx:l.length<4\/¬jC l 1\/¬jC l 2\/¬jC l 3):jf l = -1/\jg l=1:=by
 have hb:=qc l 1;have hb2:=qc l 2;have hb3:=qc l 3;unfold jC at hx;refine j6 h0 ?_
 rw [jZ];unfold Lib.decodeN;rw [if_neg (by omega),if_neg (by omega),if_neg (by omega),if_neg (by omega)]
theorem YU (l:List UInt8)(h0:l≠[])(h:192<=byt l 0/\byt l 0<224)(hl:2<=l.length)(c1:jC l 1) :
  (128<=val l 192 2/\sc (val l 192 2)=true->jf l=val l 192 2/\jg l=2)/\((val l 192 2<128\/sc (val l 192 2)=false)->jf l = -1/\jg l=1):=by
 unfold jC at c1;rw [Zb];refine⟨fun⟨a,b⟩=>?_,fun a=>?_⟩
 ·have s:=jh b
  refine qf h0 ?_ (by omega) (fun h=>by cases h)
  rw [jZ];unfold Lib.decodeN;rw [if_neg (by omega),if_pos (by omega),if_pos (by omega)];apply Prod.ext<;>simp only<;>omega
 ·refine j6 h0 ?_
  have s:((((byt l 0:Nat):Int) - 192)*64+(byt l 1:Int) - 128)<128:=by
   rcases a with a | a
   ·exact a
   ·have:=zZ a;omega
  rw [jZ];unfold Lib.decodeN;rw [if_neg (by omega),if_pos (by omega),if_neg (by omega)]
theorem YB (l:List UInt8)(h0:l≠[])(h:224<=byt l 0/\byt l 0<240)(hl:3<=l.length)(c1:jC l 1)(c2:jC l 2) :
  (2048<=val l 224 3/\sc (val l 224 3)=true->jf l=val l 224 3/\jg l=3)/\((val l 224 3<2048\/sc (val l 224 3)=false)->jf l = -1/\jg l=1):=by
 unfold jC at c1 c2;rw [JE];refine⟨fun⟨a,b⟩=>?_,fun a=>?_⟩
 ·have s:=jh b
  refine qf h0 ?_ (by omega) (fun h=>by cases h)
  rw [jZ];unfold Lib.decodeN;rw [if_neg (by omega),if_neg (by omega),if_pos (by omega),if_pos (by omega)];apply Prod.ext<;>simp only<;>omega
 ·refine j6 h0 ?_
  have s:(((((byt l 0:Nat):Int) - 224)*64+(byt l 1:Int) - 128)*64+(byt l 2:Int) - 128)<2048\/(55296<=(((((byt l 0:Nat):Int) - 224)*64+(byt l 1:Int) - 128)*64+(byt l 2:Int) - 128)/\(((((byt l 0:Nat):Int) - 224)*64+(byt l 1:Int) - 128)*64+(byt l 2:Int) - 128)<=57343):=by
   rcases a with a | a
   ·exact .inl a
   ·have:=zZ a;omega
  rw [jZ];unfold Lib.decodeN;rw [if_neg (by omega),if_neg (by omega),if_pos (by omega),if_neg (by omega)]
theorem YA (l:List UInt8)(h0:l≠[])(h:240<=byt l 0/\byt l 0<248)(hl:4<=l.length)(c1:jC l 1)(c2:jC l 2)(c3:jC l 3) :
  (65536<=val l 240 4/\sc (val l 240 4)=true->jf l=val l 240 4/\jg l=4)/\((val l 240 4<65536\/sc (val l 240 4)=false)->jf l = -1/\jg l=1):=by
 unfold jC at c1 c2 c3;rw [Ql];refine⟨fun⟨a,b⟩=>?_,fun a=>?_⟩
 ·have s:=jh b
  refine qf h0 ?_ (by omega) (fun h=>by cases h)
  rw [jZ];unfold Lib.decodeN;rw [if_neg (by omega),if_neg (by omega),if_neg (by omega),if_pos (by omega),if_pos (by omega)];apply Prod.ext<;>simp only<;>omega
 ·refine j6 h0 ?_
  have s:((((((byt l 0:Nat):Int) - 240)*64+(byt l 1:Int) - 128)*64+(byt l 2:Int) - 128)*64+(byt l 3:Int) - 128)<65536\/1114111<((((((byt l 0:Nat):Int) - 240)*64+(byt l 1:Int) - 128)*64+(byt l 2:Int) - 128)*64+(byt l 3:Int) - 128):=by
   rcases a with a | a
   ·exact .inl a
   ·have:=zZ a;omega
  rw [jZ];unfold Lib.decodeN;rw [if_neg (by omega),if_neg (by omega),if_neg (by omega),if_pos (by omega),if_neg (by omega)]
theorem qx (s:ByteArray)(i:Nat)(h:i<s.size):byt s.data.toList i=(s[i]'h).toNat:=by
 unfold byt
 have:s.data.toList.getD i 0=s[i]'h:=by
  have h':i<s.data.toList.length:=by rw [jc];exact h
  rw [List.getD_eq_getElem?_getD,List.getElem?_eq_getElem h'];simp;rfl
 rw [this]
theorem jV (s:ByteArray)(h:0<s.size):s.toList.isEmpty=false:=by
 rw [ByteArray.toList_eq,List.isEmpty_eq_false_iff];intro e;have:=congrArg List.length e;rw [jc] at this;simp only [List.length_nil] at this;omega
theorem XE (s:ByteArray)(h:s.size=0):s.toList.isEmpty=true:=by
 rw [ByteArray.toList_eq,List.isEmpty_iff];apply List.eq_nil_of_length_eq_zero
 rw [jc];exact h
theorem zz (s:ByteArray)(h:0<s.size):s.data.toList≠[]:=by
 intro e;have:=congrArg List.length e;rw [jc] at this;simp only [List.length_nil] at this;omega
theorem zK (l:List UInt8)(a:Int)(k:Nat)(hk:1<=k):val l a (k+1)=val l a k*64+(byt l k:Int) - 128:=by
 obtain⟨m,rfl⟩:∃m,k=m+1:=⟨k - 1,by omega⟩
 rfl
theorem zo (l:List UInt8)(a:Int)(h0:a<=(byt l 0:Int))(h1:(byt l 0:Int)<a+32):∀k,1<=k->k<=4->(∀j,1<=j->j<k->jC l j)->0<=val l a k/\val l a k<=8388607:=by
 intro k hk h4 hc;have v1:val l a 1=(byt l 0:Int) - a:=rfl
 match k,hk,h4,hc with
 | 1,_,_,_=>rw [v1];omega
 | 2,_,_,hc=>have c1:=hc 1 (by omega) (by omega);unfold jC at c1;rw [Zb];omega
 | 3,_,_,hc=>have c1:=hc 1 (by omega) (by omega);have c2:=hc 2 (by omega) (by omega);unfold jC at c1 c2;rw [JE];omega
 | 4,_,_,hc=>have c1:=hc 1 (by omega) (by omega);have c2:=hc 2 (by omega) (by omega);have c3:=hc 3 (by omega) (by omega);unfold jC at c1 c2 c3;rw [Ql];omega
theorem Xe (s:ByteArray)(w:World)(hs:s.size<=9223372036854775807)(h0:0<s.size)(hb:byt s.data.toList 0<128) :
  Calls Tryd.prog 47 #[.string s] w fun e w'=>e=.returned (.tuple #[.int .i32 (byt s.data.toList 0),.int .i64 1])/\Below w.heap.size w w':=by
 have h255:=qc s.data.toList 0;rw [qx s 0 h0] at *;have hne:s.toList.isEmpty=false:=jV s h0
 go_enter Tryd.func47,Tryd.ntmps47
 go_wp2
 go_region
 go_wp2;go_ret2;exact⟨rfl,(Below.refl _ w).drew⟩
theorem Qy (s:ByteArray)(w:World)(hs:s.size<=9223372036854775807)(h0:0<s.size)(hb:128<=byt s.data.toList 0/\byt s.data.toList 0<192) :
  Calls Tryd.prog 47 #[.string s] w fun e w'=>e=.returned (.tuple #[.int .i32 (-1),.int .i64 1])/\Below w.heap.size w w':=by
 have h255:=qc s.data.toList 0;rw [qx s 0 h0] at *;have hne:s.toList.isEmpty=false:=jV s h0
 go_enter Tryd.func47,Tryd.ntmps47
 go_wp2
 go_region
 go_wp2;go_ret2;exact⟨rfl,(Below.refl _ w).drew⟩
theorem J4 (s:ByteArray)(w:World)(hs:s.size<=9223372036854775807)(h0:0<s.size)(hb:248<=byt s.data.toList 0) :
  Calls Tryd.prog 47 #[.string s] w fun e w'=>e=.returned (.tuple #[.int .i32 (-1),.int .i64 1])/\Below w.heap.size w w':=by
 have h255:=qc s.data.toList 0;rw [qx s 0 h0] at *;have hne:s.toList.isEmpty=false:=jV s h0
 go_enter Tryd.func47,Tryd.ntmps47
 go_wp2
 go_region
 go_wp2;go_ret2;exact⟨rfl,(Below.refl _ w).drew⟩
theorem QD (s:ByteArray)(w:World)(h0:s.size=0) :
  Calls Tryd.prog 47 #[.string s] w fun e w'=>e=.returned (.tuple #[.int .i32 (-1),.int .i64 0])/\Below w.heap.size w w':=by
 have hne:s.toList.isEmpty=true:=XE s h0;clear h0
 go_enter Tryd.func47,Tryd.ntmps47
 go_wp2;go_ret2;exact⟨rfl,Below.refl _ w⟩
open Go.RowKit
theorem YX {P:Nat->Prop}{k:Nat}(h1:1<=k)(h2:k<3)(h:¬P k):¬P 1\/¬P 2:=by
 rcases(show k=1\/k=2 by omega) with e | e
 ·subst e;exact .inl h
 ·subst e;exact .inr h
theorem Xq {P:Nat->Prop}{k:Nat}(h1:1<=k)(h2:k<4)(h:¬P k):¬P 1\/¬P 2\/¬P 3:=by
 rcases(show k=1\/k=2\/k=3 by omega) with e | e | e
 ·subst e;exact .inl h
 ·subst e;exact .inr (.inl h)
 ·subst e;exact .inr (.inr h)
theorem YW (s:ByteArray)(w:World)(hs:s.size<=9223372036854775807)(h0:0<s.size)(hb:192<=byt s.data.toList 0/\byt s.data.toList 0<224) :
  Calls Tryd.prog 47 #[.string s] w fun e w'=>e=.returned (.tuple #[.int .i32 (jf s.data.toList),.int .i64 (jg s.data.toList)])/\Below w.heap.size w w':=by
 have hl:=zz s h0;have hne:s.toList.isEmpty=false:=jV s h0;have g0:=qx s 0 h0;have b0:192<=s[0].toNat/\s[0].toNat<224:=by rw [<-g0];exact hb
 have G0:=jb g0;have HB:=jb hb;have HLN:=jb (jc s);clear g0 hb
 by_cases hlen:s.size<2
 ·have hbad:=z6 s.data.toList hl HB.out (.inl (by rw [jc];omega))
  rw [hbad.1,hbad.2];clear hbad hl
  go_enter Tryd.func47,Tryd.ntmps47
  go_wp2
  go_region
  go_wp2;go_ret2;exact⟨rfl,(Below.refl _ w).drew⟩
 ·have ta128:decide ((s[0].toNat:Int)<128)=false:=decide_eq_false (by omega)
  have tb192:decide (192<=(s[0].toNat:Int))=true:=decide_eq_true (by omega);have ta224:decide ((s[0].toNat:Int)<224)=true:=decide_eq_true (by omega)
  go_enter Tryd.func47,Tryd.ntmps47
  go_wp2
  go_region
  go_wp2
  go_loopw [6,7] (fun r i wr=>∃k:Nat,Below w.heap.size w wr/\1<=k/\k<=2/\i=.int .i64 k/\r=.int .i64 (val s.data.toList 192 k)/\Hid (∀j,1<=j->j<k->jC s.data.toList j)) (fun _ i _=>2 - (intOf i).toNat)
  case atStart=>
   refine⟨1,(Below.refl _ w).drew,by omega,by omega,rfl,?_,fun j h1 h2=>by omega⟩;have v1:val s.data.toList 192 1=(byt s.data.toList 0:Int) - 192:=rfl;rw [v1,G0.out]
  case round=>
   obtain⟨k,hbw,hk1,hk2,rfl,rfl,hcon⟩:=hrel;have hvb:=zo s.data.toList 192 (by have:=HB.out;omega) (by have:=HB.out;omega) k hk1 (by omega) hcon.out;have hvs:=jb (zK s.data.toList 192 k hk1)
   by_cases hlt:k<2
   ·have hks:k<s.size:=by omega
    have gk:=qx s k hks;have hk255:=qc s.data.toList k;have GK:=jb gk
    by_cases hct:jC s.data.toList k
    ·have hct':128<=s[k].toNat/\s[k].toNat<192:=by rw [<-GK.out];exact hct
     have hcon2:Hid (∀j,1<=j->j<k+1->jC s.data.toList j):=fun j h1 h2=>by
      by_cases e:j=k
      ·subst e;exact hct
      ·exact hcon.out j h1 (by omega)
     clear hct gk;generalize val s.data.toList 192 k=v at *;go_wp2;go_roundw
     case rel=>exact⟨k+1,hbw,by omega,by omega,by go_num,by rw [hvs.out,GK.out],hcon2⟩
     case measure=>simp [intOf];omega
    ·have hbad:=z6 s.data.toList hl HB.out (.inr (by rwa [show k=1 by omega] at hct))
     have hct':s[k].toNat<128\/192<=s[k].toNat:=by
      have:¬(128<=byt s.data.toList k/\byt s.data.toList k<192):=hct;rw [GK.out] at this;omega
     have HBAD:=jb hbad;clear hct gk hbad;generalize val s.data.toList 192 k=v at *
     rcases hct' with hct' | hct'
     ·go_wp2
      go_ret2;rw [HBAD.out.1,HBAD.out.2];exact⟨rfl,hbw⟩
     ·go_wp2
      go_ret2;rw [HBAD.out.1,HBAD.out.2];exact⟨rfl,hbw⟩
   ·obtain rfl:k=2:=by omega
    have hc:=hcon.out;obtain⟨q1,q2⟩:=YU s.data.toList hl HB.out (by rw [jc];omega) (hc 1 (by omega) (by omega));clear hc hvs;generalize val s.data.toList 192 2=v at *
    by_cases hle:v<128
    ·have hbad:=jb (q2 (.inl hle))
     clear q1 q2;go_wp2;go_ret2;rw [hbad.out.1,hbad.out.2];exact⟨rfl,hbw⟩
    ·cases hsc:sc v with
     | true=>
      have hgood:=jb (q1 ⟨by omega,hsc⟩);have hsv:=jh hsc;have hc:=jA v wr;rw [hsc] at hc;have HC:=jb hc;clear q1 q2 hc hsc
      go_wp2_with fail
      refine(ja HC).mono ?_
      rintro e w1 ⟨rfl,rfl⟩
      go_wp2_with fail
      go_ret2;rw [hgood.out.1,hgood.out.2];exact⟨rfl,hbw⟩
     | false=>
      have hbad:=jb (q2 (.inr hsc));have hc:=jA v wr;rw [hsc] at hc;have HC:=jb hc;clear q1 q2 hc hsc
      go_wp2_with fail
      refine(ja HC).mono ?_
      rintro e w1 ⟨rfl,rfl⟩
      go_wp2_with fail
      go_ret2;rw [hbad.out.1,hbad.out.2];exact⟨rfl,hbw⟩
theorem YM (s:ByteArray)(w:World)(hs:s.size<=9223372036854775807)(h0:0<s.size)(hb:224<=byt s.data.toList 0/\byt s.data.toList 0<240) :
  Calls Tryd.prog 47 #[.string s] w fun e w'=>e=.returned (.tuple #[.int .i32 (jf s.data.toList),.int .i64 (jg s.data.toList)])/\Below w.heap.size w w':=by
 have hl:=zz s h0;have hne:s.toList.isEmpty=false:=jV s h0;have g0:=qx s 0 h0;have b0:224<=s[0].toNat/\s[0].toNat<240:=by rw [<-g0];exact hb
 have G0:=jb g0;have HB:=jb hb;have HLN:=jb (jc s);clear g0 hb
 by_cases hlen:s.size<3
 ·have hbad:=zU s.data.toList hl HB.out (.inl (by rw [jc];omega))
  rw [hbad.1,hbad.2];clear hbad hl
  go_enter Tryd.func47,Tryd.ntmps47
  go_wp2
  go_region
  go_wp2;go_ret2;exact⟨rfl,(Below.refl _ w).drew⟩
 ·have ta128:decide ((s[0].toNat:Int)<128)=false:=decide_eq_false (by omega)
  have tb192:decide (192<=(s[0].toNat:Int))=true:=decide_eq_true (by omega);have ta224:decide ((s[0].toNat:Int)<224)=false:=decide_eq_false (by omega);have tb224:decide (224<=(s[0].toNat:Int))=true:=decide_eq_true (by omega);have ta240:decide ((s[0].toNat:Int)<240)=true:=decide_eq_true (by omega)
  go_enter Tryd.func47,Tryd.ntmps47
  go_wp2
  go_region
  go_wp2
  go_loopw [6,7] (fun r i wr=>∃k:Nat,Below w.heap.size w wr/\1<=k/\k<=3/\i=.int .i64 k/\r=.int .i64 (val s.data.toList 224 k)/\Hid (∀j,1<=j->j<k->jC s.data.toList j)) (fun _ i _=>3 - (intOf i).toNat)
  case atStart=>
   refine⟨1,(Below.refl _ w).drew,by omega,by omega,rfl,?_,fun j h1 h2=>by omega⟩;have v1:val s.data.toList 224 1=(byt s.data.toList 0:Int) - 224:=rfl;rw [v1,G0.out]
  case round=>
   obtain⟨k,hbw,hk1,hk2,rfl,rfl,hcon⟩:=hrel;have hvb:=zo s.data.toList 224 (by have:=HB.out;omega) (by have:=HB.out;omega) k hk1 (by omega) hcon.out;have hvs:=jb (zK s.data.toList 224 k hk1)
   by_cases hlt:k<3
   ·have hks:k<s.size:=by omega
    have gk:=qx s k hks;have hk255:=qc s.data.toList k;have GK:=jb gk
    by_cases hct:jC s.data.toList k
    ·have hct':128<=s[k].toNat/\s[k].toNat<192:=by rw [<-GK.out];exact hct
     have hcon2:Hid (∀j,1<=j->j<k+1->jC s.data.toList j):=fun j h1 h2=>by
      by_cases e:j=k
      ·subst e;exact hct
      ·exact hcon.out j h1 (by omega)
     clear hct gk;generalize val s.data.toList 224 k=v at *;go_wp2;go_roundw
     case rel=>exact⟨k+1,hbw,by omega,by omega,by go_num,by rw [hvs.out,GK.out],hcon2⟩
     case measure=>simp [intOf];omega
    ·have hbad:=zU s.data.toList hl HB.out (.inr (YX hk1 hlt hct))
     have hct':s[k].toNat<128\/192<=s[k].toNat:=by
      have:¬(128<=byt s.data.toList k/\byt s.data.toList k<192):=hct;rw [GK.out] at this;omega
     have HBAD:=jb hbad;clear hct gk hbad;generalize val s.data.toList 224 k=v at *
     rcases hct' with hct' | hct'
     ·go_wp2
      go_ret2;rw [HBAD.out.1,HBAD.out.2];exact⟨rfl,hbw⟩
     ·go_wp2
      go_ret2;rw [HBAD.out.1,HBAD.out.2];exact⟨rfl,hbw⟩
   ·obtain rfl:k=3:=by omega
    have hc:=hcon.out;obtain⟨q1,q2⟩:=YB s.data.toList hl HB.out (by rw [jc];omega) (hc 1 (by omega) (by omega)) (hc 2 (by omega) (by omega));clear hc hvs;generalize val s.data.toList 224 3=v at *
    by_cases hle:v<2048
    ·have hbad:=jb (q2 (.inl hle))
     clear q1 q2;go_wp2;go_ret2;rw [hbad.out.1,hbad.out.2];exact⟨rfl,hbw⟩
    ·cases hsc:sc v with
     | true=>
      have hgood:=jb (q1 ⟨by omega,hsc⟩);have hsv:=jh hsc;have hc:=jA v wr;rw [hsc] at hc;have HC:=jb hc;clear q1 q2 hc hsc
      go_wp2_with fail
      refine(ja HC).mono ?_
      rintro e w1 ⟨rfl,rfl⟩
      go_wp2_with fail
      go_ret2;rw [hgood.out.1,hgood.out.2];exact⟨rfl,hbw⟩
     | false=>
      have hbad:=jb (q2 (.inr hsc));have hc:=jA v wr;rw [hsc] at hc;have HC:=jb hc;clear q1 q2 hc hsc
      go_wp2_with fail
      refine(ja HC).mono ?_
      rintro e w1 ⟨rfl,rfl⟩
      go_wp2_with fail
      go_ret2;rw [hbad.out.1,hbad.out.2];exact⟨rfl,hbw⟩
theorem Y2 (s:ByteArray)(w:World)(hs:s.size<=9223372036854775807)(h0:0<s.size)(hb:240<=byt s.data.toList 0/\byt s.data.toList 0<248) :
  Calls Tryd.prog 47 #[.string s] w fun e w'=>e=.returned (.tuple #[.int .i32 (jf s.data.toList),.int .i64 (jg s.data.toList)])/\Below w.heap.size w w':=by
 have hl:=zz s h0;have hne:s.toList.isEmpty=false:=jV s h0;have g0:=qx s 0 h0;have b0:240<=s[0].toNat/\s[0].toNat<248:=by rw [<-g0];exact hb
 have G0:=jb g0;have HB:=jb hb;have HLN:=jb (jc s);clear g0 hb
 by_cases hlen:s.size<4
 ·have hbad:=zP s.data.toList hl HB.out (.inl (by rw [jc];omega))
  rw [hbad.1,hbad.2];clear hbad hl
  go_enter Tryd.func47,Tryd.ntmps47
  go_wp2
  go_region
  go_wp2;go_ret2;exact⟨rfl,(Below.refl _ w).drew⟩
 ·have ta128:decide ((s[0].toNat:Int)<128)=false:=decide_eq_false (by omega)
  have tb192:decide (192<=(s[0].toNat:Int))=true:=decide_eq_true (by omega);have ta224:decide ((s[0].toNat:Int)<224)=false:=decide_eq_false (by omega);have tb224:decide (224<=(s[0].toNat:Int))=true:=decide_eq_true (by omega);have ta240:decide ((s[0].toNat:Int)<240)=false:=decide_eq_false (by omega);have tb240:decide (240<=(s[0].toNat:Int))=true:=decide_eq_true (by omega);have ta248:decide ((s[0].toNat:Int)<248)=true:=decide_eq_true (by omega)
  go_enter Tryd.func47,Tryd.ntmps47
  go_wp2
  go_region
  go_wp2
  go_loopw [6,7] (fun r i wr=>∃k:Nat,Below w.heap.size w wr/\1<=k/\k<=4/\i=.int .i64 k/\r=.int .i64 (val s.data.toList 240 k)/\Hid (∀j,1<=j->j<k->jC s.data.toList j)) (fun _ i _=>4 - (intOf i).toNat)
  case atStart=>
   refine⟨1,(Below.refl _ w).drew,by omega,by omega,rfl,?_,fun j h1 h2=>by omega⟩;have v1:val s.data.toList 240 1=(byt s.data.toList 0:Int) - 240:=rfl;rw [v1,G0.out]
  case round=>
   obtain⟨k,hbw,hk1,hk2,rfl,rfl,hcon⟩:=hrel;have hvb:=zo s.data.toList 240 (by have:=HB.out;omega) (by have:=HB.out;omega) k hk1 (by omega) hcon.out;have hvs:=jb (zK s.data.toList 240 k hk1)
   by_cases hlt:k<4
   ·have hks:k<s.size:=by omega
    have gk:=qx s k hks;have hk255:=qc s.data.toList k;have GK:=jb gk
    by_cases hct:jC s.data.toList k
    ·have hct':128<=s[k].toNat/\s[k].toNat<192:=by rw [<-GK.out];exact hct
     have hcon2:Hid (∀j,1<=j->j<k+1->jC s.data.toList j):=fun j h1 h2=>by
      by_cases e:j=k
      ·subst e;exact hct
      ·exact hcon.out j h1 (by omega)
     clear hct gk;generalize val s.data.toList 240 k=v at *;go_wp2;go_roundw
     case rel=>exact⟨k+1,hbw,by omega,by omega,by go_num,by rw [hvs.out,GK.out],hcon2⟩
     case measure=>simp [intOf];omega
    ·have hbad:=zP s.data.toList hl HB.out (.inr (Xq hk1 hlt hct))
     have hct':s[k].toNat<128\/192<=s[k].toNat:=by
      have:¬(128<=byt s.data.toList k/\byt s.data.toList k<192):=hct;rw [GK.out] at this;omega
     have HBAD:=jb hbad;clear hct gk hbad;generalize val s.data.toList 240 k=v at *
     rcases hct' with hct' | hct'
     ·go_wp2
      go_ret2;rw [HBAD.out.1,HBAD.out.2];exact⟨rfl,hbw⟩
     ·go_wp2
      go_ret2;rw [HBAD.out.1,HBAD.out.2];exact⟨rfl,hbw⟩
   ·obtain rfl:k=4:=by omega
    have hc:=hcon.out;obtain⟨q1,q2⟩:=YA s.data.toList hl HB.out (by rw [jc];omega) (hc 1 (by omega) (by omega)) (hc 2 (by omega) (by omega)) (hc 3 (by omega) (by omega));clear hc hvs;generalize val s.data.toList 240 4=v at *
    by_cases hle:v<65536
    ·have hbad:=jb (q2 (.inl hle))
     clear q1 q2;go_wp2;go_ret2;rw [hbad.out.1,hbad.out.2];exact⟨rfl,hbw⟩
    ·cases hsc:sc v with
     | true=>
      have hgood:=jb (q1 ⟨by omega,hsc⟩);have hsv:=jh hsc;have hc:=jA v wr;rw [hsc] at hc;have HC:=jb hc;clear q1 q2 hc hsc
      go_wp2_with fail
      refine(ja HC).mono ?_
      rintro e w1 ⟨rfl,rfl⟩
      go_wp2_with fail
      go_ret2;rw [hgood.out.1,hgood.out.2];exact⟨rfl,hbw⟩
     | false=>
      have hbad:=jb (q2 (.inr hsc));have hc:=jA v wr;rw [hsc] at hc;have HC:=jb hc;clear q1 q2 hc hsc
      go_wp2_with fail
      refine(ja HC).mono ?_
      rintro e w1 ⟨rfl,rfl⟩
      go_wp2_with fail
      go_ret2;rw [hbad.out.1,hbad.out.2];exact⟨rfl,hbw⟩
theorem zY (s:ByteArray)(w:World)(hs:s.size<=9223372036854775807) :
  Calls Tryd.prog 47 #[.string s] w fun e w'=>e=.returned (.tuple #[.int .i32 (jf s.data.toList),.int .i64 (jg s.data.toList)])/\Below w.heap.size w w':=by
 by_cases h0:0<s.size
 ·have hl:=zz s h0
  by_cases h1:byt s.data.toList 0<128
  ·have h:=Xe s w hs h0 h1
   obtain⟨e1,e2⟩:=YZ s.data.toList hl h1;rw [e1,e2];exact h
  ·by_cases h2:byt s.data.toList 0<192
   ·have h:=Qy s w hs h0 ⟨by omega,h2⟩
    obtain⟨e1,e2⟩:=XY s.data.toList hl (.inl ⟨by omega,h2⟩);rw [e1,e2];exact h
   ·by_cases h3:byt s.data.toList 0<224
    ·exact YW s w hs h0 ⟨by omega,h3⟩
    ·by_cases h4:byt s.data.toList 0<240
     ·exact YM s w hs h0 ⟨by omega,h4⟩
     ·by_cases h5:byt s.data.toList 0<248
      ·exact Y2 s w hs h0 ⟨by omega,h5⟩
      ·have h:=J4 s w hs h0 (by omega)
       obtain⟨e1,e2⟩:=XY s.data.toList hl (.inr (by omega));rw [e1,e2];exact h
 ·have hz:s.size=0:=by omega
  have h:=QD s w hz;have e:s.data.toList=[]:=List.eq_nil_of_length_eq_zero (by rw [jc];exact hz);have e1:jf s.data.toList = -1:=by simp [jf,e]
  have e2:jg s.data.toList=0:=by simp [jg,e]
  rw [e1,e2];exact h
open Go.RowKit
theorem YJ:(Tryd.prog.info? 21).map (fun i=>(i.zero,i.size,i.bytes))=some (some (.int .i32 0),1,4):=by kernel_rfl
def Elems (w:World)(a:Option Addr)(l:List Int):Prop :=
 0<l.length->∃b o,a=some ⟨b,o,none⟩/\b<w.heap.size/\∀j,j<l.length->w.cell? ⟨b,o+j,none⟩=some (.int .i32 (l.getD j 0))
theorem Elems.below {w w':World}{a:Option Addr}{l:List Int}(h:Elems w a l)(hb:Below w.heap.size w w'):Elems w' a l:=by
 intro h0;obtain⟨b,o,e,hlt,hc⟩:=h h0;refine⟨b,o,e,Nat.lt_of_lt_of_le hlt hb.size,fun j hj=>?_⟩;rw [hb.cell (p:=⟨b,o+j,none⟩) hlt];exact hc j hj
theorem ZG {w:World}{base:Nat}{v:Value}{l:List Int}(h:w.ownsRow base 21 1 v l.length (l.map (Value.int .i32))) :
  ∃a cap,v=.slice a l.length cap/\Elems w a l/\l.length<=cap:=by
 have h':=h
 rcases h.2 with ⟨rfl,h0⟩ | ⟨g,cap,cur,rfl,_,hg,hcap,_⟩
 ·have:l=[]:=List.eq_nil_of_length_eq_zero h0
  subst this;exact⟨none,0,rfl,fun h=>absurd h (by simp),by simp⟩
 ·refine⟨_,cap,rfl,fun _=>⟨g,0,rfl,(Array.getElem?_eq_some_iff.1 hg).1,fun j hj=>?_⟩,hcap⟩
  rw [Nat.zero_add,h'.cellAt j (by omega)];simp [List.getD,List.getElem?_eq_getElem hj]
theorem X7 {w:World}{base e n:Nat}{v:Value}{xs:List Value}(h:w.ownsRow base e 1 v n xs):∀g,v.ownBlock=some g->base<=g:=by
 intro g hg
 rcases h.2 with ⟨rfl,_⟩ | ⟨g',cap,cur,rfl,hb,_⟩
 ·simp [Value.ownBlock] at hg
 ·simp only [Value.ownBlock,Option.some.injEq] at hg
  omega
open Go.RowKit
theorem Xx {l:List UInt8}(h:l≠[]):(Lib.decodeL l).2<=l.length:=by
 rcases zO l h with ⟨e,_⟩ | ⟨r,rest,hs,hl,e⟩
 ·rw [e]
  cases l with
  | nil=>exact absurd rfl h
  | cons a b=>simp
 ·rw [e,hl,List.length_append];simp only;omega
theorem ZQ {l:List UInt8}(h:l≠[]):jg l=(Lib.decodeL l).2:=by simp [jg,h]
theorem X8 (s:ByteArray)(pos:Nat)(hp:pos<s.size):s.data.toList.drop pos≠[]:=by
 intro e;have:=congrArg List.length e;rw [List.length_drop,jc] at this;simp only [List.length_nil] at this;omega
theorem J2 (s:ByteArray)(w:World)(hs:s.size<=140737488355328) :
  Calls Tryd.prog 28 #[.string s] w fun e w'=>e=.returned (.int .i64 (bad s.data.toList))/\Below w.heap.size w w':=by
 go_enter Tryd.func28,Tryd.ntmps28
 go_wp2
 go_loopw [3] (fun i wr=>∃(pos fuel:Nat),i=.int .i64 pos/\pos<=s.size/\Below w.heap.size w wr/\Hid (qU fuel pos (s.data.toList.drop pos)=bad s.data.toList)/\s.size<=pos+fuel) (fun i _=>s.size - (intOf i).toNat)
 case atStart=>exact⟨0,s.size,rfl,Nat.zero_le _,Below.refl _ _,rfl,by omega⟩
 case round=>
  obtain⟨pos,fuel,rfl,hle,hbw,hacc,hfu⟩:=hrel
  by_cases hp:pos<s.size
  ·have hl:=X8 s pos hp
   have hwl:=Xx hl;rw [List.length_drop,jc] at hwl;have hwd:=zI (s.data.toList.drop pos);obtain⟨f,rfl⟩:∃f,fuel=f+1:=⟨fuel - 1,by omega⟩
   have hc:=zY (s.extract pos s.size) wr (by rw [ByteArray.size_extract];omega);rw [jj,ZQ hl] at hc;have hneg:=qK hl
   have hstep:qU (f+1) pos (s.data.toList.drop pos)=if jI (s.data.toList.drop pos)=true then (pos:Int) else qU f (pos+(Lib.decodeL (s.data.toList.drop pos)).2) (s.data.toList.drop (pos+(Lib.decodeL (s.data.toList.drop pos)).2)):=by
    simp only [qU];rw [if_neg hl,List.drop_drop]
   have h2:=hacc.out;rw [hstep] at h2;have HA:=jb h2;have HC:=jb hc;clear hc h2 hstep hacc;generalize jf (s.data.toList.drop pos)=r at *;generalize (Lib.decodeL (s.data.toList.drop pos)).2=n at *;cases hbb:jI (s.data.toList.drop pos) with
   | true=>
    rw [hbb] at HA hneg;rw [if_pos rfl] at HA;have hr:r<0:=hneg.2 rfl;clear hbb hneg
    go_wp2_with fail
    refine(ja HC).mono ?_
    rintro e w1 ⟨rfl,b1⟩
    go_wp2_with fail
    go_ret;rw [<-HA.out];exact⟨rfl,hbw.trans (b1.mono hbw.size)⟩
   | false=>
    rw [hbb] at HA hneg;rw [if_neg (by simp)] at HA;have hr:¬r<0:=fun h=>by have:=hneg.1 h;cases this
    clear hbb hneg
    go_wp2_with fail
    refine(ja HC).mono ?_
    rintro e w1 ⟨rfl,b1⟩
    go_wp2_with fail
    go_roundw
    case rel=>exact⟨pos+n,f,by go_num,by omega,hbw.trans (b1.mono hbw.size),HA,by omega⟩
    case measure=>simp [intOf];omega
  ·have hl:s.data.toList.drop pos=[]:=List.drop_of_length_le (by rw [jc];omega)
   have h2:=hacc.out;rw [hl,zN] at h2;have HA:=jb h2;clear h2 hl hacc;go_wp2;go_ret;rw [<-HA.out];exact⟨rfl,hbw⟩
theorem Qx {r:Int}(hs:sc r=true)(rest:List UInt8):jf (Lib.encodeRune r++rest)=r/\jg (Lib.encodeRune r++rest)=(Lib.encodeRune r).length:=by
 have h:=jh hs;refine qf (QH r rest) (qv hs rest) h.1 (fun h1=>?_)
 rcases jX hs with ⟨a,e⟩ | ⟨a,b,e⟩ | ⟨a,b,e⟩ | ⟨a,e⟩
 ·omega
 ·rw [e] at h1;simp at h1
 ·rw [e] at h1;simp at h1
 ·rw [e] at h1;simp at h1
def XP:Value->Nat
 | .string s=>s.size
 | _=>0
theorem QJ {w w':World}{base:Nat}{e:TypeId}{v:Value}{n:Nat}{xs:List Value}(h:w.ownsRow base e 1 v n xs)(hb:Below w.heap.size w w'):w'.ownsRow base e 1 v n xs:=by
 refine⟨h.1,?_⟩
 rcases h.2 with h2 | ⟨g,cap,cur,e1,e2,hg,e3⟩
 ·exact .inl h2
 ·exact .inr ⟨g,cap,cur,e1,e2,by rw [hb.block g (Array.getElem?_eq_some_iff.1 hg).1];exact hg,e3⟩
theorem Qu (s:ByteArray)(rs:List Int)(w:World)(hs:s.size<=1073741824)(hl:s.data.toList=enc rs)(hsc:∀r∈rs,sc r=true) :
  Calls Tryd.prog 78 #[.string s] w fun e w'=>∃a cap,e=.returned (.slice a rs.length cap)/\Elems w' a rs/\rs.length<=cap/\Below w.heap.size w w':=by
 obtain⟨i0,hi,hz0,hz1,hz2⟩:=info_parts YJ;have HSC:=jb hsc;have HL:=jb hl;clear hsc hl
 go_enter Tryd.func78,Tryd.ntmps78
 go_wp2
 go_loopw [0,3] (fun sv v wr=>∃(t:ByteArray) (acc rest:List Int),sv=.string t/\Hid (t.data.toList=enc rest)/\Hid (acc++rest=rs)/\wr.ownsRow w.heap.size 21 1 v acc.length (acc.map (Value.int .i32))/\Below w.heap.size w wr/\acc.length+t.size<=s.size) (fun sv _ _=>XP sv)
 case atStart=>
  exact⟨s,[],rs,rfl,HL,rfl,World.ownsRow_nil _ _ _ _,Below.refl _ _,by simp⟩
 case round=>
  obtain⟨t,acc,rest,rfl,ht,hacc,hown,hbw,hal⟩:=hrel
  by_cases hp:0<t.size
  ·cases rest with
   | nil=>
    have h1:=congrArg List.length ht.out;rw [jc] at h1;simp only [Yk,List.length_nil] at h1;omega
   | cons r rest=>
    have hr:sc r=true:=HSC.out r (by rw [<-hacc.out];simp);have hrb:=jh hr;have ht':=ht.out;rw [jG] at ht';have h4:=jd r;have hlen:(Lib.encodeRune r).length+(enc rest).length=t.size:=by rw [<-jc,ht',List.length_append]
    have hc:=zY t wr (by omega);rw [ht',(Qx hr _).1,(Qx hr _).2] at hc
    have htd:Hid ((t.extract (Lib.encodeRune r).length t.size).data.toList=enc rest):=by
     show(t.extract (Lib.encodeRune r).length t.size).data.toList=enc rest
     rw [jj,ht',zM]
    have hts:(t.extract (Lib.encodeRune r).length t.size).size=t.size - (Lib.encodeRune r).length:=by rw [ByteArray.size_extract];omega
    have HTS:=jb hts;have HC:=jb hc;have hacc':Hid ((acc++[r])++rest=rs):=by show(acc++[r])++rest=rs;rw [<-hacc.out];simp
    clear hc hts ht' ht hacc;generalize (Lib.encodeRune r).length=n at *
    go_wp2_with fail
    refine(ja HC).mono ?_
    rintro e w1 ⟨rfl,b1⟩
    have hown1:=QJ hown b1;have hbw1:=hbw.trans (b1.mono hbw.size)
    go_wp2_with (at_builtin;refine wpList_append_own _ rfl _ _ 121 rfl w.heap.size 21 i0 (.int .i32 0) 1 4 Tryd.underlying121 hi hz0 hz1 hz2 rfl (by decide) _ _ _ rfl (hown1.alloc _) ⟨w1.heap.size,0,none⟩ 1 1 [.int .i32 r] rfl rfl ?c1 ?c2 ?c3 ?c4 ?c5 ?_)
    case c1=>
     intro j u hj
     match j,hj with
     | 0,hj=>simp at hj;subst hj;simp [Addr.add]
    case c2=>intro u hu;simp at hu;subst hu;rfl
    case c3=>unfold maxLen;omega
    case c4=>omega
    case c5=>have:=hbw1.size;simp;omega
    intro v' w2 hown' hgrow _;have hge:=X7 hown1;have hbw3:Below w.heap.size w w2:=(hbw1.alloc hbw1.size _).grown hgrow (by have:=hbw1.size;simp;omega) (fun k hk=>hge k hk);clear hgrow hge hown hown1;go_wp2;go_roundw
    case rel=>
     refine⟨_,acc++[r],rest,rfl,htd,hacc',?_,hbw3,?_⟩
     ·simpa using hown'
     ·rw [HTS.out];simp;omega
    case measure=>
     simp only [XP];rw [HTS.out];omega
  ·have hr:rest=[]:=by
    cases rest with
    | nil=>rfl
    | cons r rest=>
     have h1:=congrArg List.length ht.out;rw [jc,jG,List.length_append] at h1;have:=jd r;omega
   have h2:=hacc.out;rw [hr,List.append_nil] at h2;rw [h2] at hown;obtain⟨a,cap,rfl,hE,hcap⟩:=ZG hown;clear h2 hr hacc ht hown;go_wp2;go_ret;exact⟨a,cap,rfl,hE,hcap,hbw⟩
end utfs
end Go.Proofs.YticcibefchffmaaDoor
