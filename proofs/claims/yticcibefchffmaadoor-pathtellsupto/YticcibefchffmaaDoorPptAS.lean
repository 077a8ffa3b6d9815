/- Of our texts, what this claim reaches. -/
import Derived.Test.YticcibefchffmaaDoorPptAP
import Derived.Test.YticcibefchffmaaDoorPptAR
import Derived.Test.YticcibefchffmaaDoorPptAI
import Derived.Lib.IndexAny
import Derived.Lib.IndexMore
set_option linter.unusedVariables false
set_option maxHeartbeats 4000000
set_option maxRecDepth 100000
namespace Go.Proofs.YticcibefchffmaaDoor
namespace escs
open Go.RowKit
open utfs
open bigs (jo qh JJ jt)
theorem Qb (r:List UInt8):Lib.hasPrefix (92 :: 117 :: 123 :: r) [92,117,123]=true/\Lib.trimPrefix (92 :: 117 :: 123 :: r) [92,117,123]=r:=by
 have h:Lib.hasPrefix (92 :: 117 :: 123 :: r) [92,117,123]=true:=by simp [Lib.hasPrefix]
 exact⟨h,by unfold Lib.trimPrefix;rw [if_pos h];rfl⟩
theorem Yl {t:List UInt8}(hn:t.take 2≠[117,123]):Lib.hasPrefix (92 :: t) [92,117,123]=false:=by
 match t,hn with
 | [],_=>rfl
 | [a],_=>simp [Lib.hasPrefix,List.isPrefixOf]
 | a :: b :: r,hn=>
  by_cases e1:a=117
  ·have:b≠123:=fun e=>hn (by rw [e1,e];simp)
   simp [Lib.hasPrefix,List.isPrefixOf,Ne.symm this]
  ·simp [Lib.hasPrefix,List.isPrefixOf,Ne.symm e1]
theorem qJ {s:ByteArray}(h:0<s.size):s.data.toList=(s[0]'h) :: s.data.toList.drop 1:=by
 have:=jo s 0 h;rwa [List.drop_zero] at this
theorem Jz {t:List UInt8}(ht:t=[]):jv t=.inl 4:=by rw [ht];rfl
theorem zi {c:UInt8}{t:List UInt8}(h:(c :: t).take 2≠[117,123]):jv (c :: t)=if c=34\/c=92\/c=47 then .inr ((c.toNat:Int),2) else if c=110 then .inr (10,2) else if c=116 then .inr (9,2) else if c=114 then .inr (13,2) else .inl 4:=by
 unfold jv;rw [if_neg h]
theorem Je (l:List UInt8):(⟨l.toArray⟩:ByteArray).size=l.length:=by show l.toArray.size=_;rw [List.size_toArray]
theorem J9 (w:World)(s:ByteArray)(hs:s.size<=1073741824)(h0:0<s.size)(h92:s[0]'h0=92)(Q:Ji)(hQ:Hid (Q=jv (s.data.toList.drop 1))) :
  Calls Tryd.prog 122 #[.string s] w fun e w'=>e=.returned (.tuple #[.int .i32 (zS Q),.int .i64 (zL Q:Int),.int .i64 (zC Q)])/\Below w.heap.size w w':=by
 have KC:=Tryd.strings_CutPrefix s ⟨#[92,117,123]⟩ w;rw [qJ h0,h92] at KC
 by_cases h2:(s.data.toList.drop 1).take 2=[117,123]
 ·obtain⟨r,hr⟩:=zt h2
  have hl:=congrArg List.length hr;rw [List.length_drop,jc] at hl;simp only [List.length_cons] at hl
  have q:Hid (Q=j2 (⟨r.toArray⟩:ByteArray).data.toList):=jb (by
   rw [ja hQ,hr];unfold jv;rw [if_pos (by simp)];rfl)
  have KN:=jb (Xp w ⟨r.toArray⟩ (by rw [Je];omega) Q q);have e3:(⟨#[92,117,123]⟩:ByteArray).data.toList=[92,117,123]:=rfl;rw [hr,e3,(Qb r).1,(Qb r).2] at KC;have KC:=jb KC;clear hQ q hr h2 hl e3;generalize zS Q=a1 at *;generalize zL Q=a2 at *;generalize zC Q=a3 at *
  go_enter Tryd.func122,Tryd.ntmps122
  go_wp2_with fail
  refine(ja KC).mono ?_
  rintro _ w1 ⟨rfl,hw⟩
  rw [hw];clear hw
  go_wp2_with fail
  refine(ja KN).mono ?_
  rintro _ w1 ⟨rfl,b1⟩
  have B1:=jb b1;clear b1 KN KC;go_wp2;refine bodyPost_ret (v:=.tuple #[.int .i32 a1,.int .i64 (a2:Int),.int .i64 a3]) (by simp [results,Tryd.results122,go_sem]) rfl ?_
  exact⟨rfl,ja B1⟩
 ·have e3:(⟨#[92,117,123]⟩:ByteArray).data.toList=[92,117,123]:=rfl
  rw [e3,Yl h2] at KC;generalize Lib.trimPrefix (92 :: s.data.toList.drop 1) [92,117,123]=R at *;have KC:=jb KC;clear e3
  by_cases h1:s.size<2
  ·have F:Hid (Q=.inl 4):=jb (by
    rw [ja hQ];exact Jz (List.drop_of_length_le (by rw [jc];omega)))
   have i1:(s.size:Int)<2:=by omega
   clear hQ h2 h92
   go_enter Tryd.func122,Tryd.ntmps122
   go_wp2_with fail
   refine(ja KC).mono ?_
   rintro _ w1 ⟨rfl,hw⟩
   rw [hw];clear hw;go_wp2;refine bodyPost_ret (v:=.tuple #[.int .i32 0,.int .i64 0,.int .i64 4]) (by simp [results,Tryd.results122,go_sem]) rfl ?_
   rw [ja F];exact⟨rfl,Below.refl _ _⟩
  ·have i1:¬(s.size:Int)<2:=by omega
   have g1:1<s.size:=by omega
   have j1:(1:Int)<(s.size:Int):=by omega
   have hc:=jo s 1 g1;rw [hc] at h2;have q:=ja hQ;rw [hc,zi h2] at q;have eqv:∀n:Nat,n<256->(s[1]'g1=UInt8.ofNat n↔(s[1]'g1).toNat=n):=fun n hn=>jt _ n hn
   have e34:s[1]'g1=34↔(s[1]'g1).toNat=34:=eqv 34 (by decide);have e92:s[1]'g1=92↔(s[1]'g1).toNat=92:=eqv 92 (by decide);have e47:s[1]'g1=47↔(s[1]'g1).toNat=47:=eqv 47 (by decide);have e110:s[1]'g1=110↔(s[1]'g1).toNat=110:=eqv 110 (by decide);have e116:s[1]'g1=116↔(s[1]'g1).toNat=116:=eqv 116 (by decide);have e114:s[1]'g1=114↔(s[1]'g1).toNat=114:=eqv 114 (by decide);have u:=UInt8.toNat_lt (s[1]'g1);clear hQ h2 h92 hc eqv
   by_cases c0:(s[1]'g1).toNat=34
   ·have F:Hid (Q=.inr (((s[1]'g1).toNat:Int),2)):=jb (by
     rw [q];rw [if_pos (by exact .inl (e34.2 c0))])
    have b34:(((s[1]'g1).toNat:Int) == 34)=true:=by rw [show((s[1]'g1).toNat:Int)=34 by omega];rfl
    clear q e34 e92 e47 e110 e116 e114 c0
    go_enter Tryd.func122,Tryd.ntmps122
    go_wp2_with fail
    refine(ja KC).mono ?_
    rintro _ w1 ⟨rfl,hw⟩
    rw [hw];clear hw;go_wp2;refine bodyPost_ret (v:=.tuple #[.int .i32 ((s[1]'g1).toNat:Int),.int .i64 2,.int .i64 0]) (by simp [results,Tryd.results122,go_sem]) rfl ?_
    rw [ja F];exact⟨rfl,Below.refl _ _⟩
   ·skip
    by_cases c1:(s[1]'g1).toNat=92
    ·have F:Hid (Q=.inr (((s[1]'g1).toNat:Int),2)):=jb (by
      rw [q];rw [if_pos (by exact .inr (.inl (e92.2 c1)))])
     have b34:(((s[1]'g1).toNat:Int) == 34)=false:=beq_false_of_ne (by omega);have b92:(((s[1]'g1).toNat:Int) == 92)=true:=by rw [show((s[1]'g1).toNat:Int)=92 by omega];rfl
     clear q e34 e92 e47 e110 e116 e114 c0 c1
     go_enter Tryd.func122,Tryd.ntmps122
     go_wp2_with fail
     refine(ja KC).mono ?_
     rintro _ w1 ⟨rfl,hw⟩
     rw [hw];clear hw;go_wp2;refine bodyPost_ret (v:=.tuple #[.int .i32 ((s[1]'g1).toNat:Int),.int .i64 2,.int .i64 0]) (by simp [results,Tryd.results122,go_sem]) rfl ?_
     rw [ja F];exact⟨rfl,Below.refl _ _⟩
    ·skip
     by_cases c2:(s[1]'g1).toNat=47
     ·have F:Hid (Q=.inr (((s[1]'g1).toNat:Int),2)):=jb (by
       rw [q];rw [if_pos (by exact .inr (.inr (e47.2 c2)))])
      have b34:(((s[1]'g1).toNat:Int) == 34)=false:=beq_false_of_ne (by omega);have b92:(((s[1]'g1).toNat:Int) == 92)=false:=beq_false_of_ne (by omega);have b47:(((s[1]'g1).toNat:Int) == 47)=true:=by rw [show((s[1]'g1).toNat:Int)=47 by omega];rfl
      clear q e34 e92 e47 e110 e116 e114 c0 c1 c2
      go_enter Tryd.func122,Tryd.ntmps122
      go_wp2_with fail
      refine(ja KC).mono ?_
      rintro _ w1 ⟨rfl,hw⟩
      rw [hw];clear hw;go_wp2;refine bodyPost_ret (v:=.tuple #[.int .i32 ((s[1]'g1).toNat:Int),.int .i64 2,.int .i64 0]) (by simp [results,Tryd.results122,go_sem]) rfl ?_
      rw [ja F];exact⟨rfl,Below.refl _ _⟩
     ·skip
      by_cases c3:(s[1]'g1).toNat=110
      ·have F:Hid (Q=.inr (10,2)):=jb (by
        rw [q];rw [if_neg (by rintro(h | h | h);exact c0 (e34.1 h);exact c1 (e92.1 h);exact c2 (e47.1 h))];rw [if_pos (e110.2 c3)])
       have b34:(((s[1]'g1).toNat:Int) == 34)=false:=beq_false_of_ne (by omega);have b92:(((s[1]'g1).toNat:Int) == 92)=false:=beq_false_of_ne (by omega);have b47:(((s[1]'g1).toNat:Int) == 47)=false:=beq_false_of_ne (by omega);have b110:(((s[1]'g1).toNat:Int) == 110)=true:=by rw [show((s[1]'g1).toNat:Int)=110 by omega];rfl
       clear q e34 e92 e47 e110 e116 e114 c0 c1 c2 c3
       go_enter Tryd.func122,Tryd.ntmps122
       go_wp2_with fail
       refine(ja KC).mono ?_
       rintro _ w1 ⟨rfl,hw⟩
       rw [hw];clear hw;go_wp2;refine bodyPost_ret (v:=.tuple #[.int .i32 10,.int .i64 2,.int .i64 0]) (by simp [results,Tryd.results122,go_sem]) rfl ?_
       rw [ja F];exact⟨rfl,Below.refl _ _⟩
      ·skip
       by_cases c4:(s[1]'g1).toNat=116
       ·have F:Hid (Q=.inr (9,2)):=jb (by
         rw [q];rw [if_neg (by rintro(h | h | h);exact c0 (e34.1 h);exact c1 (e92.1 h);exact c2 (e47.1 h))];rw [if_neg (fun h=>c3 (e110.1 h))];rw [if_pos (e116.2 c4)])
        have b34:(((s[1]'g1).toNat:Int) == 34)=false:=beq_false_of_ne (by omega);have b92:(((s[1]'g1).toNat:Int) == 92)=false:=beq_false_of_ne (by omega);have b47:(((s[1]'g1).toNat:Int) == 47)=false:=beq_false_of_ne (by omega);have b110:(((s[1]'g1).toNat:Int) == 110)=false:=beq_false_of_ne (by omega);have b116:(((s[1]'g1).toNat:Int) == 116)=true:=by rw [show((s[1]'g1).toNat:Int)=116 by omega];rfl
        clear q e34 e92 e47 e110 e116 e114 c0 c1 c2 c3 c4
        go_enter Tryd.func122,Tryd.ntmps122
        go_wp2_with fail
        refine(ja KC).mono ?_
        rintro _ w1 ⟨rfl,hw⟩
        rw [hw];clear hw;go_wp2;refine bodyPost_ret (v:=.tuple #[.int .i32 9,.int .i64 2,.int .i64 0]) (by simp [results,Tryd.results122,go_sem]) rfl ?_
        rw [ja F];exact⟨rfl,Below.refl _ _⟩
       ·skip
        by_cases c5:(s[1]'g1).toNat=114
        ·have F:Hid (Q=.inr (13,2)):=jb (by
          rw [q];rw [if_neg (by rintro(h | h | h);exact c0 (e34.1 h);exact c1 (e92.1 h);exact c2 (e47.1 h))];rw [if_neg (fun h=>c3 (e110.1 h))];rw [if_neg (fun h=>c4 (e116.1 h))];rw [if_pos (e114.2 c5)])
         have b34:(((s[1]'g1).toNat:Int) == 34)=false:=beq_false_of_ne (by omega);have b92:(((s[1]'g1).toNat:Int) == 92)=false:=beq_false_of_ne (by omega);have b47:(((s[1]'g1).toNat:Int) == 47)=false:=beq_false_of_ne (by omega);have b110:(((s[1]'g1).toNat:Int) == 110)=false:=beq_false_of_ne (by omega);have b116:(((s[1]'g1).toNat:Int) == 116)=false:=beq_false_of_ne (by omega);have b114:(((s[1]'g1).toNat:Int) == 114)=true:=by rw [show((s[1]'g1).toNat:Int)=114 by omega];rfl
         clear q e34 e92 e47 e110 e116 e114 c0 c1 c2 c3 c4 c5
         go_enter Tryd.func122,Tryd.ntmps122
         go_wp2_with fail
         refine(ja KC).mono ?_
         rintro _ w1 ⟨rfl,hw⟩
         rw [hw];clear hw;go_wp2;refine bodyPost_ret (v:=.tuple #[.int .i32 13,.int .i64 2,.int .i64 0]) (by simp [results,Tryd.results122,go_sem]) rfl ?_
         rw [ja F];exact⟨rfl,Below.refl _ _⟩
        ·have F:Hid (Q=.inl 4):=jb (by
          rw [q];rw [if_neg (by rintro(h | h | h);exact c0 (e34.1 h);exact c1 (e92.1 h);exact c2 (e47.1 h))];rw [if_neg (fun h=>c3 (e110.1 h))];rw [if_neg (fun h=>c4 (e116.1 h))];rw [if_neg (fun h=>c5 (e114.1 h))])
         have b34:(((s[1]'g1).toNat:Int) == 34)=false:=beq_false_of_ne (by omega);have b92:(((s[1]'g1).toNat:Int) == 92)=false:=beq_false_of_ne (by omega);have b47:(((s[1]'g1).toNat:Int) == 47)=false:=beq_false_of_ne (by omega);have b110:(((s[1]'g1).toNat:Int) == 110)=false:=beq_false_of_ne (by omega);have b116:(((s[1]'g1).toNat:Int) == 116)=false:=beq_false_of_ne (by omega);have b114:(((s[1]'g1).toNat:Int) == 114)=false:=beq_false_of_ne (by omega);clear q e34 e92 e47 e110 e116 e114 c0 c1 c2 c3 c4 c5
         go_enter Tryd.func122,Tryd.ntmps122
         go_wp2_with fail
         refine(ja KC).mono ?_
         rintro _ w1 ⟨rfl,hw⟩
         rw [hw];clear hw;go_wp2;refine bodyPost_ret (v:=.tuple #[.int .i32 0,.int .i64 0,.int .i64 4]) (by simp [results,Tryd.results122,go_sem]) rfl ?_
         rw [ja F];exact⟨rfl,Below.refl _ _⟩
theorem Ja {c:UInt8}{t:List UInt8}(h:c=10):jp (c :: t)=.inl 4:=by unfold jp;rw [List.headD_cons,if_pos h]
theorem q9 {c:UInt8}{t:List UInt8}(h:c=92):jp (c :: t)=jv t:=by
 subst h;unfold jp;rw [List.headD_cons,if_neg (by decide),if_pos rfl];rfl
theorem zQ {c:UInt8}{t:List UInt8}(h1:c≠10)(h2:c≠92):jp (c :: t)=if jI (c :: t)=true then .inl 3 else .inr (((Lib.decodeL (c :: t)).1:Int),(Lib.decodeL (c :: t)).2):=by
 unfold jp;rw [List.headD_cons,if_neg h1,if_neg h2]
theorem ZW (w:World)(s:ByteArray)(hs:s.size<=1073741824)(h0:0<s.size)(hT:Lib.Utf8Tabs 2 3 w)(Q:Ji)(hQ:Hid (Q=jp s.data.toList)) :
  Calls Tryd.prog 106 #[.string s] w fun e w'=>e=.returned (.tuple #[.int .i32 (zS Q),.int .i64 (zL Q:Int),.int .i64 (zC Q)])/\Below w.heap.size w w':=by
 have hc:=qJ h0;have e10:s[0]'h0=10↔(s[0]'h0).toNat=10:=jt (s[0]'h0) 10 (by decide);have e92:s[0]'h0=92↔(s[0]'h0).toNat=92:=jt (s[0]'h0) 92 (by decide);have j0:(0:Int)<(s.size:Int):=by omega
 by_cases c1:(s[0]'h0).toNat=10
 ·have F:Hid (Q=.inl 4):=jb (by rw [ja hQ,hc,Ja (e10.2 c1)])
  have b10:(((s[0]'h0).toNat:Int) == 10)=true:=by rw [show((s[0]'h0).toNat:Int)=10 by omega];rfl
  clear hQ hc e10 e92 c1 hT
  go_enter Tryd.func106,Tryd.ntmps106
  go_wp2;refine bodyPost_ret (v:=.tuple #[.int .i32 0,.int .i64 0,.int .i64 4]) (by simp [results,Tryd.results106,go_sem]) rfl ?_
  rw [ja F];exact⟨rfl,Below.refl _ _⟩
 ·have b10:(((s[0]'h0).toNat:Int) == 10)=false:=beq_false_of_ne (by omega)
  by_cases c2:(s[0]'h0).toNat=92
  ·have q:Hid (Q=jv (s.data.toList.drop 1)):=jb (by rw [ja hQ,hc,q9 (e92.2 c2)];rfl)
   have K:=jb (J9 w s hs h0 (e92.2 c2) Q q);have b92:(((s[0]'h0).toNat:Int) == 92)=true:=by rw [show((s[0]'h0).toNat:Int)=92 by omega];rfl
   clear hQ hc e10 e92 c1 c2 hT q;generalize zS Q=a1 at *;generalize zL Q=a2 at *;generalize zC Q=a3 at *
   go_enter Tryd.func106,Tryd.ntmps106
   go_wp2_with fail
   refine(ja K).mono ?_
   rintro _ w1 ⟨rfl,b1⟩
   have B1:=jb b1;clear b1 K;go_wp2;refine bodyPost_ret (v:=.tuple #[.int .i32 a1,.int .i64 (a2:Int),.int .i64 a3]) (by simp [results,Tryd.results106,go_sem]) rfl ?_
   exact⟨rfl,ja B1⟩
  ·have b92:(((s[0]'h0).toNat:Int) == 92)=false:=beq_false_of_ne (by omega)
   have q:=ja hQ;have hne:s.data.toList≠[]:=by rw [hc];simp
   rw [hc,zQ (fun h=>c1 (e10.1 h)) (fun h=>c2 (e92.1 h)),<-hc] at q;have K:=jb (Qi s w hT);have hneg:=qK hne;have hR:jf s.data.toList=if jI s.data.toList=true then -1 else ((Lib.decodeL s.data.toList).1:Int):=by unfold jf;rw [if_neg hne]
   have hN:jg s.data.toList=(Lib.decodeL s.data.toList).2:=by unfold jg;rw [if_neg hne]
   clear hQ hc e10 e92 c1 c2 hT hne;cases hb:jI s.data.toList with
   | true=>
    rw [hb,if_pos rfl] at q;have F:=jb q;rw [hb] at hneg;have i1:jf s.data.toList<0:=hneg.2 rfl;clear q hneg hR hN hb;generalize jf s.data.toList=r at *;generalize jg s.data.toList=n at *
    go_enter Tryd.func106,Tryd.ntmps106
    go_wp2_with fail
    refine(ja K).mono ?_
    rintro _ w1 ⟨rfl,b1⟩
    have B1:=jb b1;clear b1 K;go_wp2;refine bodyPost_ret (v:=.tuple #[.int .i32 0,.int .i64 0,.int .i64 3]) (by simp [results,Tryd.results106,go_sem]) rfl ?_
    rw [ja F];exact⟨rfl,ja B1⟩
   | false=>
    rw [hb,if_neg (by decide)] at q hR;rw [<-hR,<-hN] at q;have F:=jb q;rw [hb] at hneg;have i1:¬jf s.data.toList<0:=fun h=>by have:=hneg.1 h;cases this
    clear q hneg hR hN hb;generalize jf s.data.toList=r at *;generalize jg s.data.toList=n at *
    go_enter Tryd.func106,Tryd.ntmps106
    go_wp2_with fail
    refine(ja K).mono ?_
    rintro _ w1 ⟨rfl,b1⟩
    have B1:=jb b1;clear b1 K;go_wp2;refine bodyPost_ret (v:=.tuple #[.int .i32 r,.int .i64 (n:Int),.int .i64 0]) (by simp [results,Tryd.results106,go_sem]) rfl ?_
    rw [ja F];exact⟨rfl,ja B1⟩
open Go.RowKit
open utfs
open bigs (jo qh JJ jt)
def qX:Res->List UInt8
 | .inl _=>[]
 | .inr (rs,_)=>enc rs
def qV:Res->Nat
 | .inl _=>0
 | .inr (_,n)=>n
def zg:Res->Int
 | .inl e=>e
 | .inr (_,_)=>0
def qk (acc:List Int)(k:Nat):Res->Res
 | .inl e=>.inl e
 | .inr (rs,n)=>.inr ((acc++rs),(k+n))
theorem QV (acc:List Int)(k:Nat)(r:Int)(n:Nat)(R:Res):qk acc k (qN r n R)=qk (acc++[r]) (k+n) R:=by
 cases R with
 | inl e=>rfl
 | inr p=>
  obtain⟨rs,m⟩:=p;simp only [qN,qk,Sum.inr.injEq,Prod.mk.injEq];exact⟨by simp,by omega⟩
def At (L:List UInt8)(acc:List Int)(k f:Nat):Prop:=unq L=qk acc k (j8 f (L.drop k))
theorem Qj {s:ByteArray}(h0:0<s.size)(h:s[0]'h0=34):At s.data.toList [] 1 s.size:=by
 have e:=qJ h0;have hl:(s.data.toList.drop 1).length+1=s.size:=by rw [List.length_drop,jc];omega
 unfold At
 have e2:unq s.data.toList=unq (34 :: s.data.toList.drop 1):=by
  conv=>lhs;rw [e]
  rw [h]
 rw [e2,unq,if_pos rfl,hl];cases j8 s.size (s.data.toList.drop 1) with
 | inl e=>rfl
 | inr p=>
  obtain⟨rs,k⟩:=p;simp only [qk,Sum.inr.injEq,Prod.mk.injEq];exact⟨rfl,by omega⟩
theorem Zr {s:ByteArray}{acc:List Int}{k f:Nat}{r:Int}{n:Nat}(hk:k<s.size)(h:At s.data.toList acc k (f+1))(h34:s[k]'hk≠34)(hn:jp (s.data.toList.drop k)=.inr (r,n)):At s.data.toList (acc++[r]) (k+n) f:=by
 unfold At at *;have hd:=jo s k hk;rw [h];rw [hd] at hn
 have:j8 (f+1) (s.data.toList.drop k)=qN r n (j8 f ((s.data.toList.drop k).drop n)):=by
  rw [hd,j8,if_neg h34,hn]
 rw [this,QV,List.drop_drop]
theorem zH {s:ByteArray}{acc:List Int}{k f:Nat}{e:Int}(hk:k<s.size)(h:At s.data.toList acc k (f+1))(h34:s[k]'hk≠34)(hn:jp (s.data.toList.drop k)=.inl e):unq s.data.toList=.inl e:=by
 unfold At at *;have hd:=jo s k hk;rw [h];rw [hd] at hn;rw [hd,j8,if_neg h34,hn];rfl
theorem Zl {s:ByteArray}{acc:List Int}{k f:Nat}(hk:k<s.size)(h:At s.data.toList acc k (f+1))(h34:s[k]'hk=34):unq s.data.toList=.inr (acc,(k+1)):=by
 unfold At at *;rw [h,jo s k hk,j8,if_pos h34];simp [qk]
theorem XM {s:ByteArray}{acc:List Int}{k f:Nat}(hk:s.size<=k)(h:At s.data.toList acc k (f+1)):unq s.data.toList=.inl 4:=by
 unfold At at *;rw [h,List.drop_of_length_le (by rw [jc];omega),j8];rfl
theorem qM {s:ByteArray}(h:s.size=0\/∃h0:0<s.size,s[0]'h0≠34):unq s.data.toList=.inl 4:=by
 rcases h with h | ⟨h0,h⟩
 ·have:s.data.toList=[]:=List.eq_nil_of_length_eq_zero (by rw [jc];exact h)
  rw [this];rfl
 ·rw [qJ h0,unq,if_neg h]
theorem J6 (w:World)(s:ByteArray)(hs:s.size<=1073741824)(hT:Lib.Utf8Tabs 2 3 w)(R:Res)(hR:Hid (R=unq s.data.toList)) :
  Calls Tryd.prog 94 #[.string s] w fun e w'=>e=.returned (.tuple #[.string ⟨(qX R).toArray⟩,.int .i64 (qV R:Int),.int .i64 (zg R)])/\Below w.heap.size w w':=by
 by_cases h0:s.size=0
 ·have F:Hid (R=.inl 4):=jb (by rw [ja hR];exact qM (.inl h0))
  have e0:=ql s h0;clear hR hT h0
  go_enter Tryd.func94,Tryd.ntmps94
  go_wp2;refine bodyPost_ret (v:=.tuple #[.string ⟨#[]⟩,.int .i64 0,.int .i64 4]) (by simp [results,Tryd.results94,go_sem]) rfl ?_
  rw [ja F];exact⟨rfl,Below.refl _ _⟩
 ·have hp:0<s.size:=by omega
  have e0:=qO s hp;have j0:(0:Int)<(s.size:Int):=by omega
  have e34:s[0]'hp=34↔(s[0]'hp).toNat=34:=jt (s[0]'hp) 34 (by decide);clear h0
  by_cases c:(s[0]'hp).toNat=34
  ·have hA:=Qj hp (e34.2 c)
   have b34:(((s[0]'hp).toNat:Int) != 34)=false:=by rw [show((s[0]'hp).toNat:Int)=34 by omega];rfl
   have HA:=jb hA;have HT:=jb hT;have I0:Hid (Bld w.heap.size w.heap.size (enc []) (w.alloc (.cells #[.pointer none,.slice none 0 0] 60))):=jb (Lib.IsBuilderF.of (Lib.fresh_isBuilder 60 5 w));have B0:Hid (Below w.heap.size w (w.alloc (.cells #[.pointer none,.slice none 0 0] 60))):=jb ((Below.refl _ w).alloc (Nat.le_refl _) _);clear e34 c hA hT
   go_enter Tryd.func94,Tryd.ntmps94
   go_wp2_with fail
   go_loopw [6] (fun a wr=>∃(k f:Nat) (acc:List Int),a=.int .i64 (k:Int)/\1<=k/\k<=s.size/\s.size+1<=k+f/\Hid (At s.data.toList acc k f)/\Hid ((enc acc).length<=k)/\Hid (Bld w.heap.size w.heap.size (enc acc) wr)/\Hid (Below w.heap.size w wr)) (fun a _=>s.size - (intOf a).toNat)
   case atStart=>exact⟨1,s.size,[],rfl,by omega,by omega,by omega,HA,jb (by simp [enc]),I0,B0⟩
   case round=>
    obtain⟨k,f',acc,rfl,k1,ks,kf,hAt,hle,hI,hB⟩:=hrel;obtain⟨f,rfl⟩:∃f,f'=f+1:=⟨f' - 1,by omega⟩
    clear HA I0 B0;have hsz:=(ja hB).size
    by_cases ck:k<s.size
    ·have i1:(k:Int)<(s.size:Int):=by omega
     have s0:(0:Int)<=(k:Int):=by omega
     have s1:(k:Int)<=(s.size:Int):=by omega
     have e34:s[k]'ck=34↔(s[k]'ck).toNat=34:=jt (s[k]'ck) 34 (by decide)
     by_cases c:(s[k]'ck).toNat=34
     ·have F:Hid (R=.inr (acc,(k+1))):=jb (by rw [ja hR];exact Zl ck (ja hAt) (e34.2 c))
      have b34k:(((s[k]'ck).toNat:Int) != 34)=false:=by rw [show((s[k]'ck).toNat:Int)=34 by omega];rfl
      have ne1:((k:Int) == (s.size:Int))=false:=beq_false_of_ne (by omega);clear hR hAt e34 c
      go_wp2_with fail
      refine(Q5 w.heap.size w.heap.size (enc acc) wr (ja hI) hsz).mono ?_
      rintro _ w2 ⟨rfl,b2⟩
      have B2:=jb ((ja hB).trans b2);clear b2 hB hI;go_wp2;refine bodyPost_ret (v:=.tuple #[.string ⟨(enc acc).toArray⟩,.int .i64 ((k+1:Nat):Int),.int .i64 0]) (by simp [results,Tryd.results94,go_sem]<;>omega) rfl ?_
      rw [ja F];exact⟨rfl,ja B2⟩
     ·have b34k:(((s[k]'ck).toNat:Int) != 34)=true:=by simp only [bne_iff_ne];omega
      have n34:s[k]'ck≠34:=fun h=>c (e34.1 h)
      have hxs:(s.extract k s.size).size=s.size - k:=by rw [ByteArray.size_extract];omega
      have K:=ZW wr (s.extract k s.size) (by rw [hxs];omega) (by rw [hxs];omega) (Utf8Tabs_below (ja HT) (ja hB)) (jp (s.data.toList.drop k)) (jb (by rw [jj]));have hne:s.data.toList.drop k≠[]:=by rw [jo s k ck];simp
      cases hn:jp (s.data.toList.drop k) with
      | inl e=>
       have F:Hid (R=.inl e):=jb (by rw [ja hR];exact zH ck (ja hAt) n34 hn);have he:=Qk hn;have ie:(e != 0)=true:=by simp only [bne_iff_ne];omega
       rw [hn] at K;simp only [zS,zL,zC] at K;have K:=jb K;clear hn hR hAt e34 c n34 hne he hI hxs
       go_wp2_with fail
       refine(ja K).mono ?_
       rintro _ w2 ⟨rfl,b2⟩
       have B2:=jb ((ja hB).trans (b2.mono hsz));clear b2 hB K;go_wp2;refine bodyPost_ret (v:=.tuple #[.string ⟨#[]⟩,.int .i64 0,.int .i64 e]) (by simp [results,Tryd.results94,go_sem]) rfl ?_
       rw [ja F];exact⟨rfl,ja B2⟩
      | inr p=>
       obtain⟨r,n⟩:=p;obtain⟨n1,n2,hsc,n4,_⟩:=qy hne hn;rw [List.length_drop,jc] at n2;have A2:Hid (At s.data.toList (acc++[r]) (k+n) f):=jb (Zr ck (ja hAt) n34 hn);have L2:Hid ((enc (acc++[r])).length<=k+n):=jb (by rw [jJ,zy,List.length_append];have:=ja hle;omega);have E2:Hid (enc (acc++[r])=enc acc++Lib.encodeRune r):=jb (by rw [jJ,zy]);rw [hn] at K;simp only [zS,zL,zC] at K;have K:=jb K;have hlen:(enc acc).length<=1073741824:=by have:=ja hle;omega
       clear hn hAt e34 c n34 hne hxs n4 hle;generalize enc acc=X at *
       go_wp2_with fail
       refine(ja K).mono ?_
       rintro _ w2 ⟨rfl,b2⟩
       have I2:=jb ((ja hI).below b2);have B2:=jb ((ja hB).trans (b2.mono hsz));have s2:=b2.size;clear b2 hB hI K
       go_wp2_with fail
       refine(JW w.heap.size w.heap.size X r hsc w2 (ja I2) (by omega) (by omega)).mono ?_
       rintro _ w3 ⟨⟨m,rfl⟩,i3,b3,_⟩
       have I3:=jb i3;have B3:=jb ((ja B2).trans b3);clear i3 b3 I2 B2;go_wp2;go_roundw
       case rel=>exact⟨k+n,f,acc++[r],by go_num,by omega,by omega,by omega,A2,L2,jb (by rw [ja E2];exact ja I3),B3⟩
       case measure=>simp [intOf];omega
    ·have F:Hid (R=.inl 4):=jb (by rw [ja hR];exact XM (by omega) (ja hAt))
     have i1:¬(k:Int)<(s.size:Int):=by omega
     have t1:decide ((k:Int)<(s.size:Int))=false:=decide_eq_false i1;have eq1:((k:Int) == (s.size:Int))=true:=by rw [show(k:Int)=(s.size:Int) by omega];simp
     clear hR hAt hle hI;go_wp2;refine bodyPost_ret (v:=.tuple #[.string ⟨#[]⟩,.int .i64 0,.int .i64 4]) (by simp [results,Tryd.results94,go_sem]) rfl ?_
     rw [ja F];exact⟨rfl,ja hB⟩
  ·have F:Hid (R=.inl 4):=jb (by rw [ja hR];exact qM (.inr ⟨hp,fun h=>c (e34.1 h)⟩))
   have b34:(((s[0]'hp).toNat:Int) != 34)=true:=by simp only [bne_iff_ne];omega
   clear hR hT e34 c
   go_enter Tryd.func94,Tryd.ntmps94
   go_wp2;refine bodyPost_ret (v:=.tuple #[.string ⟨#[]⟩,.int .i64 0,.int .i64 4]) (by simp [results,Tryd.results94,go_sem]) rfl ?_
   rw [ja F];exact⟨rfl,Below.refl _ _⟩
open Go.RowKit
open utfs
open bigs (hexc digB jS j9)
theorem Q6 {rs:List Int}(h:∀r∈rs,sc r=true):(jm rs).length<=6*(enc rs).length+2:=by
 have:=Q9 rs h;unfold jm;simp only [List.length_cons,List.length_append,List.length_nil];omega
structure EscTabs (w:World):Prop where
 utf:Lib.Utf8Tabs 2 3 w
 bru:Lib.TabIs Tryd.prog w "math/bits.deBruijn64tab" .u8 jS
theorem EscTabs.below {w w':World}(h:EscTabs w)(hb:Below w.heap.size w w'):EscTabs w':=⟨Utf8Tabs_below h.utf hb,j9 h.bru hb⟩
theorem qQ {s:ByteArray}{l:List UInt8}(h:s.data.toList=l):(⟨l.toArray⟩:ByteArray)=s:=by
 rw [<-h]
def ju (l:List UInt8):List UInt8:=if js l=true then l else if 0<=bad l then [] else jm (jD l)
def Yi (l:List UInt8):Int:=if js l=true then 0 else if 0<=bad l then 3 else 0
def Yo (l:List UInt8):List UInt8:=if 0<=bad l then [] else jm (jD l)
def Yf (l:List UInt8):Int:=if 0<=bad l then 3 else 0
theorem ZB (w:World)(s:ByteArray)(hs:s.size<=1073741824)(hT:EscTabs w) :
  Calls Tryd.prog 71 #[.string s] w fun e w'=>e=.returned (.tuple #[.string ⟨(Yo s.data.toList).toArray⟩,.int .i64 (Yf s.data.toList)])/\Below w.heap.size w w':=by
 unfold Yo Yf
 by_cases h:0<=bad s.data.toList
 ·rw [if_pos h,if_pos h]
  exact ZJ s w (by omega) hT.utf h
 ·rw [if_neg h,if_neg h]
  obtain⟨a,b⟩:=jW (l:=s.data.toList) (by omega);exact QZ s _ w hs hT.utf hT.bru a b
theorem X3 (w:World)(s:ByteArray)(hs:s.size<=1073741824)(hT:EscTabs w) :
  Calls Tryd.prog 49 #[.string s] w fun e w'=>e=.returned (.tuple #[.string ⟨(ju s.data.toList).toArray⟩,.int .i64 (Yi s.data.toList)])/\Below w.heap.size w w':=by
 have KB:=jb (XD w s);have KQ:=jb (ZB w s hs hT);have e1:ju s.data.toList=if js s.data.toList=true then s.data.toList else Yo s.data.toList:=rfl
 have e2:Yi s.data.toList=if js s.data.toList=true then 0 else Yf s.data.toList:=rfl
 rw [e1,e2];have et:(⟨s.data.toList.toArray⟩:ByteArray)=s:=qQ rfl;clear hT e1 e2;generalize js s.data.toList=b at *;generalize Yo s.data.toList=T at *;generalize Yf s.data.toList=E at *;cases b with
 | true=>
  rw [if_pos rfl,if_pos rfl,et];clear et KQ
  go_enter Tryd.func49,Tryd.ntmps49
  go_wp2_with fail
  refine(ja KB).mono ?_
  rintro _ w1 ⟨rfl,hw⟩
  rw [hw];clear hw;go_wp2;go_ret2;exact⟨rfl,Below.refl _ _⟩
 | false=>
  rw [if_neg (by decide),if_neg (by decide)];clear et
  go_enter Tryd.func49,Tryd.ntmps49
  go_wp2_with fail
  refine(ja KB).mono ?_
  rintro _ w1 ⟨rfl,hw⟩
  rw [hw];clear hw
  go_wp2_with fail
  refine(ja KQ).mono ?_
  rintro _ w1 ⟨rfl,b1⟩
  have B1:=jb b1;clear b1 KQ KB;go_wp2;go_ret2;exact⟨rfl,ja B1⟩
end escs
namespace paths
open utfs (bad enc jD sc)
open escs (ju js jm unq qX qV zg)
open bigs (tellB numRes digB hexc)
abbrev St:Type:=List UInt8×Int
def jE (x:St):Int:=if x.2 < -1\/(-1<x.2/\x.1≠[]) then 1 else if 100<x.1.length then 2 else if 0<=bad x.1 then 3 else 0
def qo:List St->Int
 | []=>0
 | x :: l=>if jE x=0 then qo l else jE x
def jk (p:List St):Int:=if 20<p.length then 5 else qo p
def stT (x:St):List UInt8:=if x.2 = -1 then 46 :: ju x.1 else 91 :: (tellB 10 x.2++[93])
def ji:List St->List UInt8
 | []=>[]
 | x :: l=>stT x++ji l
def jn (p:List St):List UInt8:=36 :: ji p
theorem zq:∀(p q:List St),ji (p++q)=ji p++ji q
 | [],q=>rfl
 | x :: p,q=>by show stT x++ji (p++q)=_;rw [zq p q,<-List.append_assoc];rfl
theorem j4 {x:St}(h:jE x=0) : -1<=x.2/\(x.2 = -1\/(0<=x.2/\x.1=[]))/\x.1.length<=100/\bad x.1<0:=by
 unfold jE at h;split at h
 ·omega
 ·rename_i h1
  split at h
  ·omega
  ·split at h
   ·omega
   ·refine⟨by omega,?_,by omega,by omega⟩
    by_cases e:x.2 = -1
    ·exact .inl e
    ·exact .inr ⟨by omega,Classical.byContradiction fun hn=>h1 (.inr ⟨by omega,hn⟩)⟩
theorem J5:∀{p:List St},qo p=0->∀x∈p,jE x=0
 | [],_,x,hx=>absurd hx (List.not_mem_nil)
 | y :: l,h,x,hx=>by
  unfold qo at h;split at h
  ·rename_i h1
   rcases List.mem_cons.1 hx with rfl | hx
   ·exact h1
   ·exact J5 h x hx
  ·rename_i h1
   exact absurd h h1
theorem jH {p:List St}(h:jk p=0):p.length<=20/\∀x∈p,jE x=0:=by
 unfold jk at h;split at h
 ·omega
 ·exact⟨by omega,J5 h⟩
def jY (l:List UInt8):St×List UInt8×Bool :=
 if l.head?=some 34 then ((qX (unq l),-1),l.drop (qV (unq l)),decide (zg (unq l)=0))
 else if Lib.indexAny l [46,91]<0 then ((l,-1),[],true) else ((l.take (Lib.indexAny l [46,91]).toNat,-1),l.drop (Lib.indexAny l [46,91]).toNat,true)
def qE (l:List UInt8):St×List UInt8×Bool :=
 (([],(numRes (Lib.cut l [93]).1).1),(Lib.cut l [93]).2.1,(Lib.cut l [93]).2.2 && decide ((numRes (Lib.cut l [93]).1).2=0/\0<=(numRes (Lib.cut l [93]).1).1/\(numRes (Lib.cut l [93]).1).1<=4611686018427387904))
def jy:List UInt8->St×List UInt8×Bool
 | 46 :: l=>jY l
 | 91 :: l=>qE l
 | _=>(([],0),[],false)
def rdF:Nat->List St->List UInt8->Bool->List St×Bool
 | 0,p,_,ok=>(p,ok)
 | n+1,p,l,ok=>if ok=true/\l≠[] then rdF n (p++[(jy l).1]) (jy l).2.1 (jy l).2.2 else (p,ok)
def rdP (l:List UInt8):List St×Bool :=
 match l with
 | 36 :: t=>rdF 21 [] t true
 | _=>rdF 21 [] l false
def jB (l:List UInt8)(x:List St⊕Unit):Prop :=
 (x=.inl (rdP l).1/\(rdP l).2=true/\jk (rdP l).1=0/\jn (rdP l).1=l)\/(x=.inr ()/\((rdP l).2=false\/jk (rdP l).1≠0\/jn (rdP l).1≠l))
theorem JD {p:List St}:ji p=[]\/∃c r,ji p=c :: r/\(c=46\/c=91):=by
 cases p with
 | nil=>exact .inl rfl
 | cons x p=>
  right
  show ∃c r,stT x++ji p=c :: r/\_
  unfold stT;split
  ·exact⟨46,_,rfl,.inl rfl⟩
  ·exact⟨91,_,rfl,.inr rfl⟩
theorem Yg {k:List UInt8}{c:UInt8}{r:List UInt8}(h:∀b∈k,b≠46/\b≠91)(hc:c=46\/c=91):Lib.indexAny (k++c :: r) [46,91]=k.length:=by
 refine Lib.indexAny_hit (x:=c) ?_ ?_ ?_
 ·intro j b hj hb
  rw [List.getElem?_append_left hj] at hb;have:=h b (List.mem_of_getElem? hb);simp [this.1,this.2]
 ·rw [List.getElem?_append_right (Nat.le_refl _),Nat.sub_self]
  rfl
 ·rcases hc with rfl | rfl<;>decide
theorem XJ {k:List UInt8}(h:∀b∈k,b≠46/\b≠91):Lib.indexAny k [46,91] = -1:=by
 refine Lib.indexAny_none ?_
 intro j b _ hb;have:=h b (List.mem_of_getElem? hb);simp [this.1,this.2]
theorem index_hit {k r:List UInt8}{c:UInt8}(h:c∉k):Lib.index (k++c :: r) [c]=k.length:=by
 induction k with
 | nil=>simp [Lib.index]
 | cons b k ih=>
  have h1:c≠b:=fun e=>h (by rw [e];exact List.mem_cons_self)
  have ih:=ih (fun m=>h (List.mem_cons_of_mem _ m));rw [List.cons_append,Lib.index,ih]
  have e1:([c]:List UInt8).isPrefixOf (b :: (k++c :: r))=false:=by
   simp [List.isPrefixOf,h1]
  rw [e1];have e2:((k.length:Int) == -1)=false:=beq_false_of_ne (by omega);rw [e2];simp
theorem X4 {k r:List UInt8}(h:(93:UInt8)∉k):Lib.cut (k++93 :: r) [93]=(k,r,true):=by
 unfold Lib.cut;rw [index_hit h,if_pos (by omega)];simp
theorem Qp {d:Nat}(h:d<10):(48<=(hexc d).toNat/\(hexc d).toNat<=57):=by
 have:∀k:Fin 10,48<=(hexc k).toNat/\(hexc k).toNat<=57:=by decide
 exact this ⟨d,h⟩
theorem Yn:∀(n:Nat),∀c∈digB 10 n,48<=c.toNat/\c.toNat<=57:=by
 intro n
 induction n using Nat.strongRecOn with
 | ind n ih=>
  intro c hc
  by_cases h:n<10
  ·rw [bigs.digB_low h] at hc
   obtain rfl:=List.mem_singleton.1 hc;exact Qp h
  ·rw [bigs.digB_high (by omega) (by omega)] at hc
   rcases List.mem_append.1 hc with hc | hc
   ·exact ih (n / 10) (by omega) c hc
   ·obtain rfl:=List.mem_singleton.1 hc
    exact Qp (by omega)
theorem zX {n:Int}(h:0<=n):tellB 10 n=digB 10 n.natAbs:=by
 unfold tellB;rw [if_neg (by omega)];rfl
theorem zB {k:List UInt8}(h:js k=true):k≠[]/\(∀b∈k,b≠46/\b≠91/\b≠34):=by
 unfold js at h;simp only [Bool.and_eq_true,decide_eq_true_eq] at h;refine⟨fun e=>by rw [e] at h;simp at h,fun b hb=>?_⟩;have h2:=List.all_eq_true.1 h.1.2 b hb;refine⟨?_,?_,?_⟩<;>rintro rfl<;>exact absurd h2 (by decide)
theorem ZH (x:St)(r:List UInt8)(h:jE x=0)(hi:x.2<=4611686018427387904)(hr:r=[]\/∃c t,r=c :: t/\(c=46\/c=91)):jy (stT x++r)=(x,r,true):=by
 obtain⟨h1,h2,h3,h4⟩:=j4 h;obtain⟨k,i⟩:=x
 dsimp only at h1 h2 h3 h4 hi
 by_cases e:i = -1
 ·subst e
  unfold stT;rw [if_pos rfl]
  show jY (ju k++r)=_
  by_cases hb:js k=true
  ·have ek:ju k=k:=by unfold ju;rw [if_pos hb]
   rw [ek];obtain⟨hne,hno⟩:=zB hb
   have hh:¬(k++r).head?=some 34:=by
    cases k with
    | nil=>exact absurd rfl hne
    | cons b k=>
     intro e;rw [List.cons_append,List.head?_cons] at e;injection e with e;exact(hno b List.mem_cons_self).2.2 e
   have hn2:∀b∈k,b≠46/\b≠91:=fun b hb=>⟨(hno b hb).1,(hno b hb).2.1⟩
   unfold jY;rw [if_neg hh]
   rcases hr with rfl | ⟨c,t,rfl,hc⟩
   ·rw [List.append_nil,XJ hn2,if_pos (by omega)]
   ·rw [Yg hn2 hc,if_neg (by omega)]
    simp
  ·obtain⟨he,hs⟩:=utfs.jW h4
   have ek:ju k=jm (jD k):=by unfold ju;rw [if_neg hb,if_neg (by omega)]
   rw [ek];have hu:=escs.Qn (jD k) r hs;have hh:(jm (jD k)++r).head?=some 34:=by unfold jm;rfl
   unfold jY;rw [if_pos hh,hu]
   show((enc (jD k),(-1:Int)),(jm (jD k)++r).drop (jm (jD k)).length,decide ((0:Int)=0))=_
   rw [<-he];simp
 ·have h5:0<=i/\k=[]:=by rcases h2 with h2 | h2;exact absurd h2 e;exact h2
  obtain⟨h5,rfl⟩:=h5;unfold stT;rw [if_neg e]
  show qE (tellB 10 i++[93]++r)=_
  rw [List.append_assoc]
  show qE (tellB 10 i++93 :: r)=_
  have hn:(93:UInt8)∉tellB 10 i:=by
   rw [zX h5];intro hm;have:=Yn _ _ hm
   revert this
   decide
  unfold qE;rw [X4 hn];have hrd:=bigs.read_tell (b:=10) (.inr (.inr (.inl rfl))) i (by omega) (by omega)
  dsimp only
  rw [hrd];simp [h5,hi]
theorem QQ (x:St):stT x≠[]:=by unfold stT;split<;>simp
theorem Qr:∀(p:List St) (n:Nat) (acc:List St),p.length<n->(∀x∈p,jE x=0/\x.2<=4611686018427387904)->rdF n acc (ji p) true=(acc++p,true)
 | [],n,acc,hn,_=>by
  cases n with
  | zero=>exact absurd hn (Nat.not_lt_zero _)
  | succ n=>
   unfold rdF ji;rw [if_neg (fun h=>h.2 rfl),List.append_nil]
 | x :: p,n,acc,hn,h=>by
  cases n with
  | zero=>exact absurd hn (Nat.not_lt_zero _)
  | succ n=>
   have hx:=h x List.mem_cons_self;have hb:=ZH x (ji p) hx.1 hx.2 JD
   have hne:ji (x :: p)≠[]:=by
    show stT x++ji p≠[]
    intro e;exact QQ x (List.append_eq_nil_iff.1 e).1
   unfold rdF;rw [if_pos ⟨rfl,hne⟩]
   show rdF n (acc++[(jy (stT x++ji p)).1]) (jy (stT x++ji p)).2.1 (jy (stT x++ji p)).2.2=_
   rw [hb]
   dsimp only
   rw [Qr p n (acc++[x]) (by simp only [List.length_cons] at hn;omega) (fun y hy=>h y (List.mem_cons_of_mem _ hy)),List.append_assoc];rfl
theorem ZV {p:List St}(h:jk p=0)(hi:∀x∈p,x.2<=4611686018427387904){x:List St⊕Unit}(hR:jB (jn p) x):x=.inl p:=by
 obtain⟨h1,h2⟩:=jH h
 have e:rdP (jn p)=(p,true):=by
  show rdF 21 [] (ji p) true=_
  rw [Qr p 21 [] (by omega) (fun x hx=>⟨h2 x hx,hi x hx⟩)];rfl
 rcases hR with ⟨rfl,_⟩ | ⟨rfl,h⟩
 ·rw [e]
 ·rw [e] at h
  rcases h with h | h | h
  ·cases h
  ·exact absurd (by assumption) h
  ·exact absurd rfl h
open utfs (bad enc jD sc)
open escs (ju js jm unq qX qV zg)
open bigs (tellB numRes digB hexc)
def qA:Nat->List UInt8->Option (Nat×List UInt8)
 | x,[]=>some (x,[])
 | x,c :: l=>if 48<=c.toNat/\c.toNat<=57 then (if 576460752303423488<x then none else qA (x*10+(c.toNat - 48)) l) else some (x,c :: l)
def qj (c:UInt8):Bool:=c != 46 && c != 91
def jQ (t:List UInt8):Option (St×List UInt8) :=
 match qA 0 t with
 | none=>none
 | some (x,r)=>if 4611686018427387904<x then none else some (([],(x:Int)),r.drop 1)
def zk (t:List UInt8):Option (St×List UInt8) :=
 if t.head?=some 34 then (if zg (unq t)=0 then some ((qX (unq t),-1),t.drop (qV (unq t))) else none)
 else some ((t.takeWhile qj,-1),t.dropWhile qj)
def Jt:List UInt8->Option (St×List UInt8)
 | []=>none
 | c :: t=>if c=91 then jQ t else zk t
def gR:Nat->List St->List UInt8->Option (List St)
 | 0,acc,_=>some acc
 | n+1,acc,l=>if l=[] then some acc else match Jt l with
  | none=>none
  | some (x,r)=>gR n (acc++[x]) r
def qa (l:List UInt8)(x:List St⊕Unit):Prop :=
 (∃P,gR l.length [] (l.drop 1)=some P/\jk P=0/\jn P=l/\x=.inl P)\/(x=.inr ()/\∀P,gR l.length [] (l.drop 1)=some P->jk P≠0\/jn P≠l)
theorem XK (n:Nat)(acc:List St):gR n acc []=some acc:=by cases n<;>simp [gR]
theorem Qz {n:Nat}{acc:List St}{l:List UInt8}(h:l≠[]):gR (n+1) acc l=(match Jt l with | none=>none | some (x,r)=>gR n (acc++[x]) r):=by
 conv=>lhs;unfold gR
 rw [if_neg h]
theorem Yq:∀(m:Nat),m<=4611686018427387904->∀t,qA 0 (digB 10 m++t)=qA m t:=by
 intro m
 induction m using Nat.strongRecOn with
 | ind m ih=>
  intro hm t
  have hx:∀d,d<10->(48<=(hexc d).toNat/\(hexc d).toNat<=57)/\(hexc d).toNat - 48=d:=by
   intro d hd;have:∀k:Fin 10,(48<=(hexc k).toNat/\(hexc k).toNat<=57)/\(hexc k).toNat - 48=k:=by decide
   exact this ⟨d,hd⟩
  by_cases h:m<10
  ·rw [bigs.digB_low h]
   show qA 0 (hexc m :: t)=_
   obtain⟨h1,h2⟩:=hx m h
   conv=>lhs;unfold qA
   rw [if_pos h1,if_neg (by omega),h2]
   congr 1
   omega
  ·rw [bigs.digB_high (by omega) (by omega),List.append_assoc,ih (m / 10) (by omega) (by omega)]
   show qA (m / 10) (hexc (m % 10) :: t)=_
   obtain⟨h1,h2⟩:=hx (m % 10) (by omega)
   conv=>lhs;unfold qA
   rw [if_pos h1,if_neg (by omega),h2]
   congr 1
   omega
theorem Ze {k:List UInt8}{r:List UInt8}(h:∀b∈k,qj b=true)(hr:r=[]\/∃c t,r=c :: t/\qj c=false):(k++r).takeWhile qj=k/\(k++r).dropWhile qj=r:=by
 induction k with
 | nil=>
  rcases hr with rfl | ⟨c,t,rfl,hc⟩
  ·exact⟨rfl,rfl⟩
  ·exact⟨by simp [hc],by simp [hc]⟩
 | cons b k ih=>
  have ih:=ih (fun x hx=>h x (List.mem_cons_of_mem _ hx));have hb:=h b List.mem_cons_self;exact⟨by simp [hb,ih.1],by simp [hb,ih.2]⟩
theorem QK (x:St)(r:List UInt8)(h:jE x=0)(hi:x.2<=4611686018427387904)(hr:r=[]\/∃c t,r=c :: t/\(c=46\/c=91)):Jt (stT x++r)=some (x,r):=by
 obtain⟨h1,h2,h3,h4⟩:=j4 h
 have hr':r=[]\/∃c t,r=c :: t/\qj c=false:=by
  rcases hr with hr | ⟨c,t,e,hc⟩
  ·exact .inl hr
  ·exact .inr ⟨c,t,e,by rcases hc with rfl | rfl<;>rfl⟩
 obtain⟨k,i⟩:=x
 dsimp only at h1 h2 h3 h4 hi
 by_cases e:i = -1
 ·subst e
  unfold stT;rw [if_pos rfl]
  show(if (46:UInt8)=91 then jQ (ju k++r) else zk (ju k++r))=_
  rw [if_neg (by decide)]
  by_cases hb:js k=true
  ·have ek:ju k=k:=by unfold ju;rw [if_pos hb]
   rw [ek];obtain⟨hne,hno⟩:=zB hb
   have hh:¬(k++r).head?=some 34:=by
    cases k with
    | nil=>exact absurd rfl hne
    | cons b k=>
     intro e;rw [List.cons_append,List.head?_cons] at e;injection e with e;exact(hno b List.mem_cons_self).2.2 e
   obtain⟨t1,t2⟩:=Ze (k:=k) (r:=r) (fun b hb=>by have:=hno b hb;simp [qj,this.1,this.2.1]) hr';unfold zk;rw [if_neg hh,t1,t2]
  ·obtain⟨he,hs⟩:=utfs.jW h4
   have ek:ju k=jm (jD k):=by unfold ju;rw [if_neg hb,if_neg (by omega)]
   rw [ek];have hu:=escs.Qn (jD k) r hs;have hh:(jm (jD k)++r).head?=some 34:=by unfold jm;rfl
   unfold zk;rw [if_pos hh,hu]
   show(if (0:Int)=0 then some ((enc (jD k),(-1:Int)),(jm (jD k)++r).drop (jm (jD k)).length) else none)=_
   rw [if_pos rfl,<-he];simp
 ·have h5:0<=i/\k=[]:=by rcases h2 with h2 | h2;exact absurd h2 e;exact h2
  obtain⟨h5,rfl⟩:=h5;unfold stT;rw [if_neg e]
  show jQ (tellB 10 i++[93]++r)=_
  rw [List.append_assoc,zX h5];unfold jQ;rw [Yq i.natAbs (by omega)]
  have hd:qA i.natAbs ([93]++r)=some (i.natAbs,93 :: r):=by
   show qA i.natAbs (93 :: r)=_
   unfold qA;rw [if_neg (by decide)]
  rw [hd]
  dsimp only
  rw [if_neg (by omega),show((i.natAbs:Nat):Int)=i by omega];rfl
theorem Zf:∀(p:List St) (n:Nat) (acc:List St),p.length<=n->(∀x∈p,jE x=0/\x.2<=4611686018427387904)->gR n acc (ji p)=some (acc++p)
 | [],n,acc,hn,_=>by
  show gR n acc []=_
  rw [XK,List.append_nil]
 | x :: p,n,acc,hn,h=>by
  cases n with
  | zero=>exact absurd hn (by simp)
  | succ n=>
   have hx:=h x List.mem_cons_self;have hb:=QK x (ji p) hx.1 hx.2 JD
   have hne:ji (x :: p)≠[]:=by
    show stT x++ji p≠[]
    intro e;exact QQ x (List.append_eq_nil_iff.1 e).1
   rw [Qz hne]
   show(match Jt (stT x++ji p) with | none=>none | some (x,r)=>gR n (acc++[x]) r)=_
   rw [hb]
   dsimp only
   rw [Zf p n (acc++[x]) (by simp only [List.length_cons] at hn;omega) (fun y hy=>h y (List.mem_cons_of_mem _ hy)),List.append_assoc];rfl
theorem Zn:∀(p:List St),p.length<=(ji p).length
 | []=>Nat.le_refl _
 | x :: p=>by
  have h1:=Zn p;have h2:=List.length_pos_iff.2 (QQ x)
  show p.length+1<=(stT x++ji p).length
  rw [List.length_append];omega
theorem XI {p:List St}(h:jk p=0)(hi:∀x∈p,x.2<=4611686018427387904){x:List St⊕Unit}(hR:qa (jn p) x):x=.inl p:=by
 obtain⟨h1,h2⟩:=jH h;have hl:=Zn p
 have e:gR (jn p).length [] ((jn p).drop 1)=some p:=by
  show gR (36 :: ji p).length [] (ji p)=_
  rw [Zf p _ [] (by simp;omega) (fun x hx=>⟨h2 x hx,hi x hx⟩)];rfl
 rcases hR with ⟨P,g,_,_,rfl⟩ | ⟨rfl,g⟩
 ·rw [e] at g
  injection g with g;rw [g]
 ·rcases g p e with g | g
  ·exact absurd h g
  ·exact absurd rfl g
theorem Zs {l:List UInt8}{x:St}{r:List UInt8}(h:Jt l=some (x,r)):x.2<=4611686018427387904:=by
 cases l with
 | nil=>cases h
 | cons c t=>
  change (if c=91 then jQ t else zk t)=some (x,r) at h
  split at h
  ·unfold jQ at h
   split at h
   ·cases h
   ·split at h
    ·cases h
    ·injection h with h
     injection h with h _;rw [<-h]
     dsimp only
     omega
  ·unfold zk at h
   split at h
   ·split at h
    ·injection h with h
     injection h with h _;rw [<-h]
     show(-1:Int)<=_
     omega
    ·cases h
   ·injection h with h
    injection h with h _;rw [<-h]
    show(-1:Int)<=_
    omega
theorem XC:∀(n:Nat) (acc:List St) (l:List UInt8) (P:List St),(∀x∈acc,x.2<=4611686018427387904)->gR n acc l=some P->∀x∈P,x.2<=4611686018427387904
 | 0,acc,l,P,ha,h=>by injection h with h;rw [<-h];exact ha
 | n+1,acc,l,P,ha,h=>by
  unfold gR at h;split at h
  ·injection h with h;rw [<-h];exact ha
  ·split at h
   ·cases h
   ·rename_i x r hx
    refine XC n _ r P (fun y hy=>?_) h
    rcases List.mem_append.1 hy with hy | hy
    ·exact ha y hy
    ·obtain rfl:=List.mem_singleton.1 hy
     exact Zs hx
theorem Xm {l:List UInt8}(h:(jy l).2.2=true):(jy l).1.2<=4611686018427387904:=by
 have hk:∀l,(jY l).1.2 = -1:=by
  intro l;unfold jY;split
  ·rfl
  ·split<;>rfl
 unfold jy at h ⊢;split
 ·rw [hk];omega
 ·rename_i t
  unfold qE at h ⊢
  dsimp only at h ⊢
  have h2:∀a b:Bool,(a && b)=true->b=true:=by decide
  have h3:=h2 _ _ h;exact(of_decide_eq_true h3).2.2
 ·show(0:Int)<=_
  omega
theorem JN:∀(n:Nat) (acc:List St) (l:List UInt8) (ok:Bool),(∀x∈acc,x.2<=4611686018427387904)->(rdF n acc l ok).2=true->∀x∈(rdF n acc l ok).1,x.2<=4611686018427387904
 | 0,acc,l,ok,ha,h=>ha
 | n+1,acc,l,ok,ha,h=>by
  unfold rdF at h ⊢;split at h
  ·rename_i hc
   rw [if_pos hc]
   by_cases hb:(jy l).2.2=true
   ·refine JN n _ _ _ (fun y hy=>?_) h
    rcases List.mem_append.1 hy with hy | hy
    ·exact ha y hy
    ·obtain rfl:=List.mem_singleton.1 hy
     exact Xm hb
   ·have e:(jy l).2.2=false:=by simpa using hb
    rw [e] at h
    have:∀m D r,(rdF m D r false).2=false:=by
     intro m D r;cases m with
     | zero=>rfl
     | succ m=>unfold rdF;rw [if_neg (fun h=>by cases h.1)]
    rw [this] at h;cases h
  ·rename_i hc
   rw [if_neg hc];exact ha
theorem Yd {l:List UInt8}(h:(rdP l).2=true):∀x∈(rdP l).1,x.2<=4611686018427387904:=by
 unfold rdP at h ⊢;split at h
 ·exact JN 21 [] _ true (fun x hx=>absurd hx (List.not_mem_nil)) h
 ·exact JN 21 [] _ false (fun x hx=>absurd hx (List.not_mem_nil)) h
theorem zV {l:List UInt8}{x y:List St⊕Unit}(h1:jB l x)(h2:qa l y):x=y:=by
 rcases h2 with ⟨P,g1,g2,g3,rfl⟩ | ⟨rfl,g⟩
 ·have hlow:=XC _ [] _ P (fun x hx=>absurd hx (List.not_mem_nil)) g1
  rw [<-g3] at h1;exact ZV g2 hlow h1
 ·rcases h1 with ⟨rfl,a1,a2,a3⟩ | ⟨rfl,_⟩
  ·have hb:qa (jn (rdP l).1) (.inr ()):=by rw [a3];exact .inr ⟨rfl,g⟩
   exact(XI a2 (Yd a1) hb).symm
  ·rfl
end paths
end Go.Proofs.YticcibefchffmaaDoor
