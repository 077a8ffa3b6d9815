/- Of our texts, what this claim reaches. -/
import Derived.Test.YticcibefchffmaaDoorPptAI
import Derived.Test.YticcibefchffmaaDoorPptAN
set_option linter.unusedVariables false
set_option maxHeartbeats 8000000
set_option maxRecDepth 100000
namespace Go.Proofs.YticcibefchffmaaDoor
namespace bigs
open Go.RowKit
theorem JJ (s:ByteArray):s.data.toList.length=s.size:=by rw [Array.length_toList];rfl
theorem jo (s:ByteArray)(k:Nat)(h:k<s.size):s.data.toList.drop k=(s[k]'h) :: s.data.toList.drop (k+1):=by
 rw [List.drop_eq_getElem_cons (by rw [JJ];exact h)];rfl
theorem qh (s:ByteArray):s.data.toList.drop s.size=[]:=by rw [<-JJ,List.drop_length]
theorem zd {c:UInt8}(h1:48<=c.toNat)(h2:c.toNat<=57):hexv c=c.toNat - 48:=by unfold hexv;rw [if_pos ⟨h1,h2⟩]
theorem qq {c:UInt8}(h1:97<=c.toNat)(h2:c.toNat<=102):hexv c=c.toNat - 97+10:=by unfold hexv;rw [if_neg (by omega),if_pos ⟨h1,h2⟩]
theorem qp {c:UInt8}(h1:65<=c.toNat)(h2:c.toNat<=70):hexv c=c.toNat - 65+10:=by unfold hexv;rw [if_neg (by omega),if_neg (by omega),if_pos ⟨h1,h2⟩]
theorem qP {c:UInt8}(h1:¬(48<=c.toNat/\c.toNat<=57))(h2:¬(97<=c.toNat/\c.toNat<=102))(h3:¬(65<=c.toNat/\c.toNat<=70)):hexv c=16:=by unfold hexv;rw [if_neg h1,if_neg h2,if_neg h3]
theorem Jd (w:World)(c:UInt8) :
  Calls Tryd.prog 129 #[.int .u8 (c.toNat:Int)] w fun e w'=>e=.returned (.int .u64 ((hexv c:Nat):Int))/\w'=w:=by
 have u:=UInt8.toNat_lt c;have D:=@zd c;have S:=@qq c;have G:=@qp c;have N:=@qP c;generalize hexv c=v at *;generalize c.toNat=n at *
 by_cases a1:48<=n/\n<=57
 ·have V:=jb (D a1.1 a1.2)
  obtain⟨b1,b2⟩:=a1;have i1:(48:Int)<=(n:Int):=by omega
  have i2:(n:Int)<=57:=by omega
  clear D S G N
  go_enter Tryd.func129,Tryd.ntmps129
  go_wp2;go_ret;refine⟨?_,rfl⟩;rw [ja V]
  go_num
 ·by_cases a2:97<=n/\n<=102
  ·have V:=jb (S a2.1 a2.2)
   obtain⟨b1,b2⟩:=a2;have i1:(48:Int)<=(n:Int):=by omega
   have i2:¬(n:Int)<=57:=by omega
   have i3:(97:Int)<=(n:Int):=by omega
   have i4:(n:Int)<=102:=by omega
   clear D S G N a1
   go_enter Tryd.func129,Tryd.ntmps129
   go_wp2;go_ret;refine⟨?_,rfl⟩;rw [ja V]
   go_num
  ·by_cases a3:65<=n/\n<=70
   ·have V:=jb (G a3.1 a3.2)
    obtain⟨b1,b2⟩:=a3;have i1:(48:Int)<=(n:Int):=by omega
    have i2:¬(n:Int)<=57:=by omega
    have i3:¬(97:Int)<=(n:Int):=by omega
    have i5:(65:Int)<=(n:Int):=by omega
    have i6:(n:Int)<=70:=by omega
    clear D S G N a1 a2
    go_enter Tryd.func129,Tryd.ntmps129
    go_wp2;go_ret;refine⟨?_,rfl⟩;rw [ja V]
    go_num
   ·have V:=jb (N a1 a2 a3)
    clear D S G N;rw [ja V];clear V
    by_cases b1:n<48
    ·have i1:¬(48:Int)<=(n:Int):=by omega
     have i3:¬(97:Int)<=(n:Int):=by omega
     have i5:¬(65:Int)<=(n:Int):=by omega
     clear a1 a2 a3
     go_enter Tryd.func129,Tryd.ntmps129
     go_wp2;go_ret;exact⟨rfl,rfl⟩
    ·have i1:(48:Int)<=(n:Int):=by omega
     have i2:¬(n:Int)<=57:=by omega
     by_cases b2:n<65
     ·have i3:¬(97:Int)<=(n:Int):=by omega
      have i5:¬(65:Int)<=(n:Int):=by omega
      clear a1 a2 a3
      go_enter Tryd.func129,Tryd.ntmps129
      go_wp2;go_ret;exact⟨rfl,rfl⟩
     ·have i5:(65:Int)<=(n:Int):=by omega
      have i6:¬(n:Int)<=70:=by omega
      by_cases b3:n<97
      ·have i3:¬(97:Int)<=(n:Int):=by omega
       clear a1 a2 a3
       go_enter Tryd.func129,Tryd.ntmps129
       go_wp2;go_ret;exact⟨rfl,rfl⟩
      ·have i3:(97:Int)<=(n:Int):=by omega
       have i4:¬(n:Int)<=102:=by omega
       clear a1 a2 a3
       go_enter Tryd.func129,Tryd.ntmps129
       go_wp2;go_ret;exact⟨rfl,rfl⟩
theorem Zx (b:Nat)(q:Bool)(s:ByteArray)(k:Nat)(h:k<s.size):formG b q (s.data.toList.drop k)=if (s[k]'h)=95/\q=true then formG b false (s.data.toList.drop (k+1)) else if b<=hexv (s[k]'h) then false else formG b true (s.data.toList.drop (k+1)):=by
 rw [jo s k h,formG]
theorem jt (a:UInt8)(n:Nat)(hn:n<256):a=UInt8.ofNat n↔a.toNat=n:=by
 constructor
 ·intro h;rw [h];simp [UInt8.toNat_ofNat'];omega
 ·intro h;rw [<-h];simp
theorem Qd (w:World)(s:ByteArray)(b:Nat)(f:Bool)(hs:s.size<=80)(hb:b<=16)(hf:Hid (f=formedL b s.data.toList)) :
  Calls Tryd.prog 113 #[.string s,.int .u64 (b:Int)] w fun e w'=>e=.returned (.bool f)/\w'=w:=by
 have KD:∀c,Hid (Calls Tryd.prog 129 #[.int .u8 (UInt8.toNat c:Int)] w fun e w'=>e=.returned (.int .u64 ((hexv c:Nat):Int))/\w'=w):=fun c=>jb (Jd w c)
 have hl:=JJ s
 have hd:∀h:0<s.size,s.data.toList.headD 0=s[0]'h:=fun h=>by
  have:=jo s 0 h;rw [List.drop_zero] at this;rw [this];rfl
 by_cases c:b=10/\1<s.size/\∃h:0<s.size,(s[0]'h).toNat=48
 ·obtain⟨c1,c2,c3,c4⟩:=c
  have F:Hid (f=false):=jb (by
   rw [ja hf];unfold formedL;rw [hl,hd c3,(jt (s[0]'c3) 48 (by decide)).2 c4,c1];simp [c2])
  rw [ja F];have i1:((b:Int) == 10)=true:=by rw [c1];rfl
  have i2:(1:Int)<(s.size:Int):=by omega
  have i3:(((s[0]'c3).toNat:Int) == 48)=true:=by rw [c4];rfl
  have i4:((s[0]'c3).toNat:Int)=48:=by rw [c4];rfl
  clear hf F KD hd c1 c4
  go_enter Tryd.func113,Tryd.ntmps113
  go_wp2;go_ret;exact⟨rfl,rfl⟩
 ·have F:Hid (f=formG b false s.data.toList):=jb (by
   rw [ja hf];unfold formedL;rw [hl]
   have:(b == 10 && decide (1<s.size) && s.data.toList.headD 0 == 48)=false:=by
    by_cases c1:b=10
    ·by_cases c2:1<s.size
     ·have c3:0<s.size:=by omega
      have c4:(s[0]'c3).toNat≠48:=fun e=>c ⟨c1,c2,c3,e⟩
      have c5:(s[0]'c3)≠48:=fun e=>c4 (by rw [e];rfl)
      rw [hd c3];simp [c5]
     ·simp [c2]
    ·simp [c1]
   rw [this];rfl)
  have cases3:((b:Int) == 10)=false\/(((b:Int) == 10)=true/\¬(1:Int)<(s.size:Int))\/(((b:Int) == 10)=true/\(1:Int)<(s.size:Int)/\∃h:0<s.size,(((s[0]'h).toNat:Int) == 48)=false):=by
   by_cases c1:b=10
   ·right
    have j:((b:Int) == 10)=true:=by rw [c1];rfl
    by_cases c2:1<s.size
    ·right
     have c3:0<s.size:=by omega
     refine⟨j,by omega,c3,beq_false_of_ne (fun e=>c ⟨c1,c2,c3,by omega⟩)⟩
    ·exact .inl ⟨j,by omega⟩
   ·exact .inl (beq_false_of_ne (by omega))
  clear hf hd c
  rcases cases3 with i1 | ⟨i1,i2⟩ | ⟨i1,i2,c3,i3⟩
  all_goals
   go_enter Tryd.func113,Tryd.ntmps113
   go_wp2
   go_loopw [21,5] (fun i q wr=>∃(k:Nat) (x:Bool),k<=s.size/\i=.int .i64 k/\q=.bool x/\Hid (f=formG b x (s.data.toList.drop k))/\wr=w) (fun i _ _=>s.size - (intOf i).toNat)
   case atStart=>exact⟨0,false,Nat.zero_le _,rfl,rfl,jb (by rw [List.drop_zero];exact ja F),rfl⟩
   case round=>
    obtain⟨k,x,hk,rfl,rfl,HF,rfl⟩:=hrel;clear F
    by_cases hlt:k<s.size
    ·have lt':(k:Int)<(s.size:Int):=by omega
     have st:=Zx b x s k hlt
     by_cases d1:(s[k]'hlt).toNat=95
     ·have j1:(((s[k]'hlt).toNat:Int) == 95)=true:=by rw [d1];rfl
      have d2:(s[k]'hlt)=95:=(jt _ 95 (by decide)).2 d1;cases x with
      | true=>
       have HN:Hid (f=formG b false (s.data.toList.drop (k+1))):=jb (by rw [ja HF,st,if_pos ⟨d2,rfl⟩]);clear HF st d1 d2 KD;go_wp2;go_roundw
       case rel=>exact⟨k+1,false,by omega,by go_num,rfl,HN,by trivial⟩
       case measure=>simp [intOf];omega
      | false=>
       have HN:Hid (f=false):=jb (by rw [ja HF,st,if_neg (by simp),d2,if_pos (by rw [hexv_low];exact hb)]);have K:=KD (s[k]'hlt);have v16:hexv (s[k]'hlt)=16:=by rw [d2,hexv_low]
       rw [v16] at K;have g:((16:Nat):Int) ≥ (b:Int):=by omega
       clear HF st d1 d2 KD v16
       go_wp2_with fail
       refine(ja K).mono ?_
       rintro _ w2 ⟨rfl,rfl⟩
       clear K;go_wp2;go_ret;rw [ja HN];exact⟨rfl,rfl⟩
     ·have j1:(((s[k]'hlt).toNat:Int) == 95)=false:=beq_false_of_ne (by omega)
      have d2:(s[k]'hlt)≠95:=fun e=>d1 (by rw [e];rfl)
      rw [if_neg (fun h=>d2 h.1)] at st;have K:=KD (s[k]'hlt)
      by_cases d3:b<=hexv (s[k]'hlt)
      ·have HN:Hid (f=false):=jb (by rw [ja HF,st,if_pos d3])
       have v16:=hexv_le (s[k]'hlt);generalize hexv (s[k]'hlt)=v at *;have g:(v:Int) ≥ (b:Int):=by omega
       clear HF st d1 d2 KD d3
       go_wp2_with fail
       refine(ja K).mono ?_
       rintro _ w2 ⟨rfl,rfl⟩
       clear K;go_wp2;go_ret;rw [ja HN];exact⟨rfl,rfl⟩
      ·have HN:Hid (f=formG b true (s.data.toList.drop (k+1))):=jb (by rw [ja HF,st,if_neg d3])
       have v16:=hexv_le (s[k]'hlt);generalize hexv (s[k]'hlt)=v at *;have g:¬(v:Int) ≥ (b:Int):=by omega
       clear HF st d1 d2 KD d3
       go_wp2_with fail
       refine(ja K).mono ?_
       rintro _ w2 ⟨rfl,rfl⟩
       clear K;go_wp2;go_roundw
       case rel=>exact⟨k+1,true,by omega,by go_num,rfl,HN,by trivial⟩
       case measure=>simp [intOf];omega
    ·have hkl:k=s.size:=by omega
     have nl:¬(k:Int)<(s.size:Int):=by omega
     subst hkl;have HN:Hid (f=x):=jb (by rw [ja HF,qh,formG]);clear HF KD;go_wp2;go_ret;rw [ja HN];exact⟨rfl,rfl⟩
theorem ZY (b n:Nat)(s:ByteArray)(k:Nat)(h:k<s.size):valG b n (s.data.toList.drop k)=if (s[k]'h)=95 then valG b n (s.data.toList.drop (k+1)) else valG b (n*b+hexv (s[k]'h)) (s.data.toList.drop (k+1)):=by
 rw [jo s k h,valG]
theorem qC (x:Int)(h0:0<=x)(h1:x<18446744073709551616):IntKind.u64.wrap x=x:=by
 simp [IntKind.wrap,IntKind.bits,IntKind.signed];omega
theorem jah {lim d b n:Nat}(hb:0<b)(hd:d<=lim):n<=(lim - d) / b↔n*b+d<=lim:=by
 rw [Nat.le_div_iff_mul_le hb];omega
theorem Jw (w:World)(s:ByteArray)(b lim V X:Nat)(g:Bool)(hs:s.size<=80)(hb:b<=16)(hb2:2<=b)(l1:16<=lim)(l2:lim<18446744073709551616)(hV:Hid (V=valG b 0 s.data.toList))(hX:Hid ((g=true/\X=V/\V<=lim)\/(g=false/\X=0/\lim<V))) :
  Calls Tryd.prog 114 #[.string s,.int .u64 (b:Int),.int .u64 (lim:Int)] w fun e w'=>e=.returned (.tuple #[.int .u64 (X:Int),.bool g])/\w'=w:=by
 have KD:∀c,Hid (Calls Tryd.prog 129 #[.int .u8 (UInt8.toNat c:Int)] w fun e w'=>e=.returned (.int .u64 ((hexv c:Nat):Int))/\w'=w):=fun c=>jb (Jd w c)
 go_enter Tryd.func114,Tryd.ntmps114
 go_wp2
 go_loopw [13,8] (fun i q wr=>∃(k n:Nat),k<=s.size/\i=.int .i64 k/\q=.int .u64 (n:Int)/\n<=lim/\Hid (V=valG b n (s.data.toList.drop k))/\wr=w) (fun i _ _=>s.size - (intOf i).toNat)
 case atStart=>exact⟨0,0,Nat.zero_le _,rfl,rfl,Nat.zero_le _,jb (by rw [List.drop_zero];exact ja hV),rfl⟩
 case round=>
  obtain⟨k,n,hk,rfl,rfl,hn,HF,rfl⟩:=hrel;clear hV
  by_cases hlt:k<s.size
  ·have lt':(k:Int)<(s.size:Int):=by omega
   have st:=ZY b n s k hlt
   by_cases d1:(s[k]'hlt).toNat=95
   ·have j1:(((s[k]'hlt).toNat:Int) == 95)=true:=by rw [d1];rfl
    have d2:(s[k]'hlt)=95:=(jt _ 95 (by decide)).2 d1;have HN:Hid (V=valG b n (s.data.toList.drop (k+1))):=jb (by rw [ja HF,st,if_pos d2]);clear HF st d1 d2 KD hX;go_wp2;go_roundw
    case rel=>exact⟨k+1,n,by omega,by go_num,rfl,hn,HN,by trivial⟩
    case measure=>simp [intOf];omega
   ·have j1:(((s[k]'hlt).toNat:Int) == 95)=false:=beq_false_of_ne (by omega)
    have d2:(s[k]'hlt)≠95:=fun e=>d1 (by rw [e];rfl)
    rw [if_neg d2] at st;have K:=KD (s[k]'hlt);have v16:=hexv_le (s[k]'hlt);generalize hexv (s[k]'hlt)=v at *;have y1:IntKind.u64.wrap ((lim:Int) - (v:Int))=((lim - v:Nat):Int):=by rw [qC _ (by omega) (by omega)];omega
    have y0:(lim - v) / b<=lim - v:=Nat.div_le_self _ _;have rm:=jah (lim:=lim) (d:=v) (n:=n) (b:=b) (by omega) (by omega);obtain⟨m,hm⟩:∃m,m=lim - v:=⟨_,rfl⟩
    rw [<-hm] at y0 rm y1;obtain⟨r,hr⟩:∃r,r=m / b:=⟨_,rfl⟩
    rw [<-hr] at y0 rm
    have y2:IntKind.u64.wrap ((m:Int).tdiv (b:Int))=(r:Int):=by
     rw [Int.tdiv_eq_ediv_of_nonneg (by omega),<-Int.natCast_ediv,<-hr,qC _ (by omega) (by omega)]
    have y3:IntKind.u64.wrap ((m:Int) / (b:Int))=(r:Int):=by
     rw [<-Int.natCast_ediv,<-hr,qC _ (by omega) (by omega)]
    clear hm hr;have bn:((b:Int) == 0)=false:=beq_false_of_ne (by omega)
    by_cases d3:n<=r
    ·have d4:=rm.1 d3
     have HN:Hid (V=valG b (n*b+v) (s.data.toList.drop (k+1))):=jb (by rw [ja HF,st]);obtain⟨p,hp⟩:∃p,p=n*b:=⟨_,rfl⟩
     rw [<-hp] at d4 HN
     have z1:IntKind.u64.wrap ((n:Int)*(b:Int))=(p:Int):=by
      rw [<-Int.natCast_mul,<-hp,qC _ (by omega) (by omega)]
     have z2:IntKind.u64.wrap ((p:Int)+(v:Int))=((p+v:Nat):Int):=by
      rw [<-Int.natCast_add,qC _ (by omega) (by omega)]
     have D4:=jb d4;have g1:¬(n:Int) > (r:Int):=by omega
     have g2:¬(r:Int)<(n:Int):=by omega
     clear HF st d1 d2 KD hX d4 rm d3 hp;generalize hpv:p+v=q at *
     go_wp2_with fail
     refine(ja K).mono ?_
     rintro _ w2 ⟨rfl,rfl⟩
     clear K;go_wp2;go_roundw
     case rel=>exact⟨k+1,q,by omega,by go_num,rfl,ja D4,HN,by trivial⟩
     case measure=>simp [intOf];omega
    ·have d4:lim<n*b+v:=by
      rcases Nat.lt_or_ge lim (n*b+v) with h | h
      ·exact h
      ·exact absurd (rm.2 h) d3
     have HX:Hid (g=false/\X=0):=jb (by
      have:=valG_ge (b:=b) (by omega) (s.data.toList.drop (k+1)) (n*b+v);rw [<-st,<-ja HF] at this
      rcases ja hX with ⟨_,_,h⟩ | ⟨h1,h2,_⟩
      ·omega
      ·exact⟨h1,h2⟩)
     have g1:(n:Int) > (r:Int):=by omega
     have g2:(r:Int)<(n:Int):=by omega
     clear HF st d1 d2 KD hX d4 rm d3
     go_wp2_with fail
     refine(ja K).mono ?_
     rintro _ w2 ⟨rfl,rfl⟩
     clear K;go_wp2;go_ret2;rw [(ja HX).1,(ja HX).2];exact⟨rfl,rfl⟩
  ·have hkl:k=s.size:=by omega
   have nl:¬(k:Int)<(s.size:Int):=by omega
   subst hkl
   have HX:Hid (g=true/\X=n):=jb (by
    have h:=ja HF;rw [qh,valG] at h
    rcases ja hX with ⟨h1,h2,_⟩ | ⟨_,_,h3⟩
    ·exact⟨h1,by rw [h2,h]⟩
    ·omega)
   clear HF KD hX;go_wp2;go_ret2;rw [(ja HX).1,(ja HX).2];exact⟨rfl,rfl⟩
open Go.RowKit
def JO (c:UInt8):Nat:=if hexv c=16 then 99 else hexv c
theorem YQ (w:World)(n:Nat)(h1:48<=n)(h2:n<=57):Calls Tryd.prog 53 #[.int .u8 (n:Int)] w fun e w'=>e=.returned (.int .i64 ((n - 48:Nat):Int))/\w'=w:=by
 have f0:(n:Int) ≥ 48:=by omega
 have f1:(n:Int)<=57:=by omega
 go_enter Tryd.func53,Tryd.ntmps53
 go_wp2;go_ret;refine⟨?_,rfl⟩
 first | rfl | go_num
theorem YG (w:World)(n:Nat)(h1:97<=n)(h2:n<=102):Calls Tryd.prog 53 #[.int .u8 (n:Int)] w fun e w'=>e=.returned (.int .i64 ((n - 97+10:Nat):Int))/\w'=w:=by
 have f0:(n:Int) ≥ 48:=by omega
 have f1:¬(n:Int)<=57:=by omega
 have f2:(n:Int) ≥ 97:=by omega
 have f3:(n:Int)<=102:=by omega
 go_enter Tryd.func53,Tryd.ntmps53
 go_wp2;go_ret;refine⟨?_,rfl⟩
 first | rfl | go_num
theorem YT (w:World)(n:Nat)(h1:65<=n)(h2:n<=70):Calls Tryd.prog 53 #[.int .u8 (n:Int)] w fun e w'=>e=.returned (.int .i64 ((n - 65+10:Nat):Int))/\w'=w:=by
 have f0:(n:Int) ≥ 48:=by omega
 have f1:¬(n:Int)<=57:=by omega
 have f2:¬(n:Int) ≥ 97:=by omega
 have f3:(n:Int) ≥ 65:=by omega
 have f4:(n:Int)<=70:=by omega
 go_enter Tryd.func53,Tryd.ntmps53
 go_wp2;go_ret;refine⟨?_,rfl⟩
 first | rfl | go_num
theorem YN (w:World)(n:Nat)(h1:n<48):Calls Tryd.prog 53 #[.int .u8 (n:Int)] w fun e w'=>e=.returned (.int .i64 ((99:Nat):Int))/\w'=w:=by
 have f0:¬(n:Int) ≥ 48:=by omega
 have f1:¬(n:Int) ≥ 97:=by omega
 have f2:¬(n:Int) ≥ 65:=by omega
 go_enter Tryd.func53,Tryd.ntmps53
 go_wp2;go_ret;refine⟨?_,rfl⟩
 first | rfl | go_num
theorem YK (w:World)(n:Nat)(h1:57<n)(h2:n<65):Calls Tryd.prog 53 #[.int .u8 (n:Int)] w fun e w'=>e=.returned (.int .i64 ((99:Nat):Int))/\w'=w:=by
 have f0:(n:Int) ≥ 48:=by omega
 have f1:¬(n:Int)<=57:=by omega
 have f2:¬(n:Int) ≥ 97:=by omega
 have f3:¬(n:Int) ≥ 65:=by omega
 go_enter Tryd.func53,Tryd.ntmps53
 go_wp2;go_ret;refine⟨?_,rfl⟩
 first | rfl | go_num
theorem Yz (w:World)(n:Nat)(h1:70<n)(h2:n<97):Calls Tryd.prog 53 #[.int .u8 (n:Int)] w fun e w'=>e=.returned (.int .i64 ((99:Nat):Int))/\w'=w:=by
 have f0:(n:Int) ≥ 48:=by omega
 have f1:¬(n:Int)<=57:=by omega
 have f2:¬(n:Int) ≥ 97:=by omega
 have f3:(n:Int) ≥ 65:=by omega
 have f4:¬(n:Int)<=70:=by omega
 go_enter Tryd.func53,Tryd.ntmps53
 go_wp2;go_ret;refine⟨?_,rfl⟩
 first | rfl | go_num
theorem YS (w:World)(n:Nat)(h1:102<n)(h2:n<256):Calls Tryd.prog 53 #[.int .u8 (n:Int)] w fun e w'=>e=.returned (.int .i64 ((99:Nat):Int))/\w'=w:=by
 have f0:(n:Int) ≥ 48:=by omega
 have f1:¬(n:Int)<=57:=by omega
 have f2:(n:Int) ≥ 97:=by omega
 have f3:¬(n:Int)<=102:=by omega
 have f4:(n:Int) ≥ 65:=by omega
 have f5:¬(n:Int)<=70:=by omega
 go_enter Tryd.func53,Tryd.ntmps53
 go_wp2;go_ret;refine⟨?_,rfl⟩
 first | rfl | go_num
theorem Qf (w:World)(c:UInt8):Calls Tryd.prog 53 #[.int .u8 (c.toNat:Int)] w fun e w'=>e=.returned (.int .i64 ((JO c:Nat):Int))/\w'=w:=by
 have u:=UInt8.toNat_lt c;unfold JO
 by_cases a1:48<=c.toNat/\c.toNat<=57
 ·rw [zd a1.1 a1.2,if_neg (by omega)];exact YQ w _ a1.1 a1.2
 ·by_cases a2:97<=c.toNat/\c.toNat<=102
  ·rw [qq a2.1 a2.2,if_neg (by omega)];exact YG w _ a2.1 a2.2
  ·by_cases a3:65<=c.toNat/\c.toNat<=70
   ·rw [qp a3.1 a3.2,if_neg (by omega)];exact YT w _ a3.1 a3.2
   ·rw [qP a1 a2 a3,if_pos rfl]
    by_cases h1:c.toNat<48
    ·exact YN w _ h1
    ·by_cases h2:c.toNat<65
     ·exact YK w _ (by omega) h2
     ·by_cases h3:c.toNat<97
      ·exact Yz w _ (by omega) h3
      ·exact YS w _ (by omega) u
end bigs
end Go.Proofs.YticcibefchffmaaDoor
