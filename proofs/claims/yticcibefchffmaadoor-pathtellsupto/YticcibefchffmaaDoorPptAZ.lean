/- Of our texts, what this claim reaches. -/
import Derived.Test.YticcibefchffmaaDoorPptAX
import Derived.Test.YticcibefchffmaaDoorPptAO
set_option linter.unusedVariables false
set_option maxHeartbeats 8000000
set_option maxRecDepth 100000
namespace Go.Proofs.YticcibefchffmaaDoor
namespace escs
open Go.RowKit
open utfs
open bigs (jo hexv JO jt)
theorem q7:∀(f v:Nat) (l:List UInt8),(je (f+1) v l).2<=f->je f v l=je (f+1) v l
 | 0,v,[],_=>rfl
 | 0,v,c :: l,h=>by
  by_cases hc:hexv c<16
  ·rw [jO hc] at h;simp at h
  ·rw [qt hc];rfl
 | f+1,v,[],_=>rfl
 | f+1,v,c :: l,h=>by
  by_cases hc:hexv c<16
  ·rw [jO hc] at h
   simp only at h;rw [jO hc,jO hc,q7 f (v*16+hexv c) l (by omega)]
  ·rw [qt hc,qt hc]
theorem Ju:∀(f v:Nat) (l:List UInt8),(je (f+1) v l).2=f+1->(je f v l).2=f/\∃c,(l.drop f).head?=some c/\hexv c<16
 | 0,v,[],h=>by simp [je] at h
 | 0,v,c :: l,h=>by
  by_cases hc:hexv c<16
  ·exact⟨rfl,c,rfl,hc⟩
  ·rw [qt hc] at h;simp at h
 | f+1,v,[],h=>by simp [je] at h
 | f+1,v,c :: l,h=>by
  by_cases hc:hexv c<16
  ·rw [jO hc] at h
   simp only at h;obtain⟨a,d,b1,b2⟩:=Ju f (v*16+hexv c) l (by omega);rw [jO hc];exact⟨by simp only;omega,d,b1,b2⟩
  ·rw [qt hc] at h;simp at h
theorem Jo {l:List UInt8}{v:Nat}(h:je 7 0 l=(v,0)):j2 l=.inl 4:=qL (v:=v) (by rw [q7 6 0 l (by rw [h];simp),h])
theorem zl {l:List UInt8}{v m:Nat}(h:je 7 0 l=(v,m))(hm:6<m):j2 l=.inl 4:=by
 have hl:=(Zj 7 0 l).1;rw [h] at hl;simp only at hl;obtain⟨a,c,b1,b2⟩:=Ju 6 0 l (by rw [h];simp only;omega);refine qd (v:=(je 6 0 l).1) (k:=(je 6 0 l).2) rfl ?_
 rw [a,b1];intro e;injection e with e;rw [e,qY] at b2;omega
theorem JF {l:List UInt8}{v m:Nat}(h:je 7 0 l=(v,m))(hm:m<=6)(hh:(l.drop m).head?≠some 125):j2 l=.inl 4:=qd (v:=v) (k:=m) (by rw [q7 6 0 l (by rw [h];exact hm),h]) hh
theorem Zu {l:List UInt8}{v m:Nat}(h:je 7 0 l=(v,m))(h0:m≠0)(hm:m<=6)(hh:(l.drop m).head?=some 125):j2 l=if sc (v:Int)=true then .inr ((v:Int),(m+4)) else .inl 3:=qT (v:=v) (k:=m) (by rw [q7 6 0 l (by rw [h];exact hm),h]) h0 hh
def Up7 (L:List UInt8)(p v j:Nat):Prop:=je 7 0 (L.drop p)=((je (7 - j) v (L.drop (p+j))).1,j+(je (7 - j) v (L.drop (p+j))).2)
theorem ZU (L:List UInt8)(p:Nat):Up7 L p 0 0:=by unfold Up7;simp
theorem XA {s:ByteArray}{p v j:Nat}(hk:p+j<s.size)(h7:j<7)(h:Up7 s.data.toList p v j)(hx:hexv (s[p+j]'hk)<16):Up7 s.data.toList p (v*16+hexv (s[p+j]'hk)) (j+1):=by
 unfold Up7 at *;rw [h,jo s (p+j) hk,show 7 - j=(7 - (j+1))+1 by omega,jO hx];simp only;apply Prod.ext
 ·rfl
 ·simp only [Nat.add_assoc];omega
theorem XT {s:ByteArray}{p v j:Nat}(h:Up7 s.data.toList p v j)(hx:¬p+j<s.size\/¬j<7\/∃hk:p+j<s.size,¬hexv (s[p+j]'hk)<16):je 7 0 (s.data.toList.drop p)=(v,j):=by
 unfold Up7 at h;rw [h]
 have key:je (7 - j) v (s.data.toList.drop (p+j))=(v,0):=by
  rcases hx with hx | hx | ⟨hk,hx⟩
  ·rw [List.drop_of_length_le (by rw [jc];omega),J8]
  ·rw [show 7 - j=0 by omega,qS]
  ·rw [jo s (p+j) hk]
   rcases Nat.lt_or_ge j 7 with q | q
   ·rw [show 7 - j=(7 - (j+1))+1 by omega,qt hx]
   ·rw [show 7 - j=0 by omega,qS]
 rw [key];simp
theorem JA {s:ByteArray}{i:Nat}(h:i<s.size):(s.data.toList.drop i).head?=some (s[i]'h):=by rw [jo s i h];rfl
theorem Jn {s:ByteArray}{i:Nat}(h:¬i<s.size):(s.data.toList.drop i).head?=none:=by rw [List.drop_of_length_le (by rw [jc];omega)];rfl
theorem Z3 {s:ByteArray}{k:Nat}(h:k<s.size)(h92:s[k]'h=92):jp (s.data.toList.drop k)=jv (s.data.toList.drop (k+1)):=by
 rw [jo s k h,q9 h92]
theorem XH {s:ByteArray}{k:Nat}(h:¬k<s.size):jv (s.data.toList.drop k)=.inl 4:=Jz (List.drop_of_length_le (by rw [jc];omega))
theorem zx {c:UInt8}{t:List UInt8}(h:c≠117):(c :: t).take 2≠[117,123]:=fun e=>by
 rw [List.take_succ_cons] at e;injection e with e1 e2;exact h e1
theorem zp {s:ByteArray}{k:Nat}(h:k<s.size)(hc:s[k]'h=34\/s[k]'h=92\/s[k]'h=47):jv (s.data.toList.drop k)=.inr (((s[k]'h).toNat:Int),2):=by
 rw [jo s k h,zi (zx (by rcases hc with e | e | e<;>rw [e]<;>decide)),if_pos hc]
theorem YD {s:ByteArray}{k:Nat}(h:k<s.size)(hc:s[k]'h=110):jv (s.data.toList.drop k)=.inr (10,2):=by
 rw [jo s k h,hc];simp [jv]
theorem Yy {s:ByteArray}{k:Nat}(h:k<s.size)(hc:s[k]'h=116):jv (s.data.toList.drop k)=.inr (9,2):=by
 rw [jo s k h,hc];simp [jv]
theorem Yx {s:ByteArray}{k:Nat}(h:k<s.size)(hc:s[k]'h=114):jv (s.data.toList.drop k)=.inr (13,2):=by
 rw [jo s k h,hc];simp [jv]
theorem Z1 {s:ByteArray}{k:Nat}(h:k<s.size)(h0:s[k]'h≠34)(h1:s[k]'h≠92)(h2:s[k]'h≠47)(h3:s[k]'h≠110)(h4:s[k]'h≠116)(h5:s[k]'h≠114)(h6:s[k]'h≠117):jv (s.data.toList.drop k)=.inl 4:=by
 rw [jo s k h,zi (zx h6),if_neg (by rintro(e | e | e);exact h0 e;exact h1 e;exact h2 e),if_neg h3,if_neg h4,if_neg h5]
theorem Xh {s:ByteArray}{k:Nat}(h:k<s.size)(hc:s[k]'h=117)(hn:(s.data.toList.drop (k+1)).head?≠some 123):jv (s.data.toList.drop k)=.inl 4:=by
 rw [jo s k h,hc]
 have:(117 :: s.data.toList.drop (k+1)).take 2≠[117,123]:=fun e=>by
  obtain⟨r,hr⟩:=zt e;injection hr with _ e2;rw [e2] at hn;exact hn rfl
 rw [zi this,if_neg (by decide),if_neg (by decide),if_neg (by decide),if_neg (by decide)]
theorem Xi {s:ByteArray}{k:Nat}(h:k<s.size)(hc:s[k]'h=117)(h2:k+1<s.size)(hn:s[k+1]'h2=123):jv (s.data.toList.drop k)=j2 (s.data.toList.drop (k+2)):=by
 rw [jo s k h,hc,jo s (k+1) h2,hn];unfold jv;rw [if_pos (by simp)];rfl
theorem JT (S X:ByteArray)(h:S.size+X.size<=9223372036854775807) :
  ∃T:ByteArray,T.data.toList=S.data.toList++X.data.toList/\T.size=S.size+X.size/\∀u:World,(Op.stringOp .add S X).run Tryd.prog u=.ok (.string T) u:=by
 obtain⟨T,a,b,c⟩:=jz S X.data.toList (by rw [jc];exact h);rw [jc] at b;rw [qQ (s:=X) rfl] at c;exact⟨T,a,b,c⟩
theorem Zq (s:ByteArray)(a b:Nat):(s.extract a b).data.toList=(s.data.toList.drop a).take (b - a):=by
 rw [ByteArray.data_extract,Array.toList_extract,List.extract_eq_take_drop]
theorem JM {s:ByteArray}{k:Nat}(h:k<s.size):(s.extract k (k+1)).data.toList=[s[k]'h]:=by
 rw [Zq,jo s k h,show k+1 - k=1 by omega];rfl
theorem jF (s:ByteArray){a b:Nat}(h:b<=s.size):(s.extract a b).size=b - a:=by
 rw [ByteArray.size_extract];omega
theorem jP {S T:List UInt8}{acc:List Int}{r:Int}{x:List UInt8}(hS:S=enc acc)(hT:T=S++x)(hx:x=Lib.encodeRune r):T=enc (acc++[r]):=by
 rw [jJ,zy,hT,hS,hx]
theorem Jf {c:UInt8}(h:c.toNat<128):[c]=Lib.encodeRune (c.toNat:Int):=by
 rw [Zi (by omega) (by omega)];simp
theorem zh (s:ByteArray)(a b:Nat)(x y:Int)(hx:x=(a:Int))(hy:y=(b:Int))(h1:a<=b)(h2:b<=s.size)(W:World):(Instr.slice 9 (.string s) (some (.int .i64 x)) (some (.int .i64 y)) none).run Tryd.prog W=.ok (.string (s.extract a b)) W:=by
 subst hx;subst hy;rw [run_slice_string W 9 s .i64 .i64 (a:Int) (b:Int) Tryd.underlying9 (by omega) (by omega) (by omega)];simp
theorem Xs {s:ByteArray}{p v j i:Nat}(hi:i=p+j)(hk:i<s.size)(h7:j<7)(h:Up7 s.data.toList p v j)(hx:hexv (s[i]'hk)<16):Up7 s.data.toList p (v*16+hexv (s[i]'hk)) (j+1):=by
 subst hi;exact XA hk h7 h hx
theorem JZ {s:ByteArray}{p v j i:Nat}(hi:i=p+j)(h:Up7 s.data.toList p v j)(hx:¬i<s.size\/¬j<7\/∃hk:i<s.size,¬hexv (s[i]'hk)<16):je 7 0 (s.data.toList.drop p)=(v,j):=by
 subst hi;exact XT h hx
theorem QB {c:UInt8}(h:hexv c<16):JO c=hexv c:=by unfold JO;rw [if_neg (by omega)]
theorem ZM {c:UInt8}(h:¬hexv c<16):JO c=99:=by
 have:=bigs.hexv_le c;unfold JO;rw [if_pos (by omega)]
open Go.RowKit
open utfs
open bigs (jo hexv JO Qf jt)
theorem JP (w:World)(s:ByteArray)(hs:s.size<=1073741824)(R:Res)(hR:Hid (R=unq s.data.toList)) :
  Calls Tryd.prog 34 #[.string s] w fun e w'=>e=.returned (.tuple #[.string ⟨(qX R).toArray⟩,.int .i64 (qV R:Int),.int .i64 (zg R)])/\Below w.heap.size w w':=by
 by_cases h0:s.size=0
 ·have F:Hid (R=.inl 4):=jb (by rw [ja hR];exact qM (.inl h0))
  have e0:=ql s h0;clear hR h0
  go_enter Tryd.func34,Tryd.ntmps34
  go_wp2;refine bodyPost_ret (v:=.tuple #[.string ⟨#[]⟩,.int .i64 0,.int .i64 4]) (by simp [results,Tryd.results34,go_sem]) rfl ?_
  rw [ja F];exact⟨rfl,Below.refl _ _⟩
 ·have hp:0<s.size:=by omega
  have e0:=qO s hp;have j0:(0:Int)<(s.size:Int):=by omega
  have e34:s[0]'hp=34↔(s[0]'hp).toNat=34:=jt (s[0]'hp) 34 (by decide);clear h0
  by_cases c:(s[0]'hp).toNat=34
  ·have HA:=jb (Qj hp (e34.2 c))
   have b34:(((s[0]'hp).toNat:Int) != 34)=false:=by rw [show((s[0]'hp).toNat:Int)=34 by omega];rfl
   clear e34 c
   go_enter Tryd.func34,Tryd.ntmps34
   go_wp2_with fail
   go_loopw [5,6] (fun a b wr=>∃(S:ByteArray) (k f:Nat) (acc:List Int),a=.string S/\b=.int .i64 (k:Int)/\1<=k/\k<=s.size/\s.size+1<=k+f/\S.size<=k/\Hid (S.data.toList=enc acc)/\Hid (At s.data.toList acc k f)/\Hid (Below w.heap.size w wr)) (fun _ b _=>s.size - (intOf b).toNat)
   case atStart=>exact⟨⟨#[]⟩,1,s.size,[],rfl,rfl,by omega,by omega,by omega,Nat.zero_le _,jb rfl,HA,jb (Below.refl _ _)⟩
   case round=>
    obtain⟨S,k,f',acc,rfl,rfl,k1,ks,kf,hz,hS,hAt,hB⟩:=hrel;obtain⟨f,rfl⟩:∃f,f'=f+1:=⟨f' - 1,by omega⟩
    clear HA b34 j0 e0;have hsz:=(ja hB).size
    by_cases ck:k<s.size
    ·have i1:¬(k:Int) ≥ (s.size:Int):=by omega
     have s0:(0:Int)<=(k:Int):=by omega
     have s1:(k:Int)<=(s.size:Int):=by omega
     have s2:(k:Int)<(s.size:Int):=by omega
     have u:=UInt8.toNat_lt (s[k]'ck);have e10:s[k]'ck=10↔(s[k]'ck).toNat=10:=jt (s[k]'ck) 10 (by decide);have e34:s[k]'ck=34↔(s[k]'ck).toNat=34:=jt (s[k]'ck) 34 (by decide);have e92:s[k]'ck=92↔(s[k]'ck).toNat=92:=jt (s[k]'ck) 92 (by decide)
     by_cases c10:(s[k]'ck).toNat=10
     ·have F:Hid (R=.inl 4):=jb (by rw [ja hR];exact zH ck (ja hAt) (fun h=>by have:=e34.1 h;omega) (by rw [jo s k ck,Ja (e10.2 c10)]))
      have b10:(((s[k]'ck).toNat:Int) == 10)=true:=by rw [show((s[k]'ck).toNat:Int)=10 by omega];rfl
      clear hR hAt hS e10 e34 e92 c10;go_wp2;refine bodyPost_ret (v:=.tuple #[.string ⟨#[]⟩,.int .i64 0,.int .i64 4]) (by simp [results,Tryd.results34,go_sem]) rfl ?_
      rw [ja F];exact⟨rfl,ja hB⟩
     ·have b10:(((s[k]'ck).toNat:Int) == 10)=false:=beq_false_of_ne (by omega)
      by_cases c34:(s[k]'ck).toNat=34
      ·have F:Hid (R=.inr (acc,(k+1))):=jb (by rw [ja hR];exact Zl ck (ja hAt) (e34.2 c34))
       have b34:(((s[k]'ck).toNat:Int) == 34)=true:=by rw [show((s[k]'ck).toNat:Int)=34 by omega];rfl
       have ES:Hid ((⟨(enc acc).toArray⟩:ByteArray)=S):=jb (qQ (ja hS));clear hR hAt hS e10 e34 e92 c10 c34;go_wp2;refine bodyPost_ret (v:=.tuple #[.string S,.int .i64 ((k+1:Nat):Int),.int .i64 0]) (by simp [results,Tryd.results34,go_sem]<;>omega) rfl ?_
       rw [ja F];simp only [qX,qV,zg];rw [ja ES];exact⟨rfl,ja hB⟩
      ·have b34:(((s[k]'ck).toNat:Int) == 34)=false:=beq_false_of_ne (by omega)
       have n34:s[k]'ck≠34:=fun h=>c34 (e34.1 h)
       have AM:=fun r n=>jb (Zr (r:=r) (n:=n) ck (ja hAt) n34)
       have AF:=fun e=>jb (zH (e:=e) ck (ja hAt) n34)
       have hne:s.data.toList.drop k≠[]:=by rw [jo s k ck];simp
       have SF:=fun r n=>jb (qy (r:=r) (m:=n) hne)
       by_cases c92:(s[k]'ck).toNat=92
       ·have b92:(((s[k]'ck).toNat:Int) != 92)=false:=by rw [show((s[k]'ck).toNat:Int)=92 by omega];rfl
        have NE:=Z3 ck (e92.2 c92);rw [NE] at AM AF SF;clear NE e10 e34 e92 c10 c34 c92 n34 hne hAt;have y1:IntKind.i64.wrap ((k:Int)+1)=((k+1:Nat):Int):=by simp [IntKind.wrap,IntKind.bits,IntKind.signed];omega
        have y2:IntKind.i64.wrap (((k+1:Nat):Int)+1)=((k+2:Nat):Int):=by simp [IntKind.wrap,IntKind.bits,IntKind.signed];omega
        by_cases cl:k+1<s.size
        ·have i2:¬((k+1:Nat):Int) ≥ (s.size:Int):=by omega
         have q0:(0:Int)<=((k+1:Nat):Int):=by omega
         have q1:((k+1:Nat):Int)<=((k+2:Nat):Int):=by omega
         have q2:((k+2:Nat):Int)<=(s.size:Int):=by omega
         have q3:((k+1:Nat):Int)<(s.size:Int):=by omega
         have e34:s[k+1]'cl=34↔(s[k+1]'cl).toNat=34:=jt (s[k+1]'cl) 34 (by decide);have e92:s[k+1]'cl=92↔(s[k+1]'cl).toNat=92:=jt (s[k+1]'cl) 92 (by decide);have e47:s[k+1]'cl=47↔(s[k+1]'cl).toNat=47:=jt (s[k+1]'cl) 47 (by decide);have e110:s[k+1]'cl=110↔(s[k+1]'cl).toNat=110:=jt (s[k+1]'cl) 110 (by decide);have e116:s[k+1]'cl=116↔(s[k+1]'cl).toNat=116:=jt (s[k+1]'cl) 116 (by decide);have e114:s[k+1]'cl=114↔(s[k+1]'cl).toNat=114:=jt (s[k+1]'cl) 114 (by decide);have e117:s[k+1]'cl=117↔(s[k+1]'cl).toNat=117:=jt (s[k+1]'cl) 117 (by decide)
         by_cases d34:(s[k+1]'cl).toNat=34
         ·have hn:=zp cl (.inl (e34.2 d34))
          obtain⟨T,tl,tz,ta⟩:=JT S (s.extract (k+1) (k+2)) (by rw [jF s (by omega)];omega);rw [jF s (by omega)] at tz;have sl:=zh s (k+1) (k+2) ((k:Int)+1) ((k:Int)+1+1) (by omega) (by omega) (by omega) (by omega);have HT:Hid (T.data.toList=enc (acc++[((s[k+1]'cl).toNat:Int)])):=jb (jP (ja hS) (by rw [tl,JM cl]) (Jf (by omega)));have A2:=jb (ja (AM _ _) hn);have zT:T.size<=k+2:=by omega
          have b34':(((s[k+1]'cl).toNat:Int) == 34)=true:=by rw [show((s[k+1]'cl).toNat:Int)=34 by omega];rfl
          clear AM AF SF hn hS hR tl tz e34 e92 e47 e110 e116 e114 e117 d34;go_wp2;go_roundw
          case rel=>exact⟨T,k+2,f,acc++[((s[k+1]'cl).toNat:Int)],by first | rfl | simp,by first | rfl | go_num,by omega,by omega,by omega,zT,HT,A2,hB⟩
          case measure=>simp [intOf];omega
         ·skip
          by_cases d92:(s[k+1]'cl).toNat=92
          ·have hn:=zp cl (.inr (.inl (e92.2 d92)))
           obtain⟨T,tl,tz,ta⟩:=JT S (s.extract (k+1) (k+2)) (by rw [jF s (by omega)];omega);rw [jF s (by omega)] at tz;have sl:=zh s (k+1) (k+2) ((k:Int)+1) ((k:Int)+1+1) (by omega) (by omega) (by omega) (by omega);have HT:Hid (T.data.toList=enc (acc++[((s[k+1]'cl).toNat:Int)])):=jb (jP (ja hS) (by rw [tl,JM cl]) (Jf (by omega)));have A2:=jb (ja (AM _ _) hn);have zT:T.size<=k+2:=by omega
           have b34':(((s[k+1]'cl).toNat:Int) == 34)=false:=beq_false_of_ne (by omega);have b92':(((s[k+1]'cl).toNat:Int) == 92)=true:=by rw [show((s[k+1]'cl).toNat:Int)=92 by omega];rfl
           clear AM AF SF hn hS hR tl tz e34 e92 e47 e110 e116 e114 e117 d34 d92;go_wp2;go_roundw
           case rel=>exact⟨T,k+2,f,acc++[((s[k+1]'cl).toNat:Int)],by first | rfl | simp,by first | rfl | go_num,by omega,by omega,by omega,zT,HT,A2,hB⟩
           case measure=>simp [intOf];omega
          ·skip
           by_cases d47:(s[k+1]'cl).toNat=47
           ·have hn:=zp cl (.inr (.inr (e47.2 d47)))
            obtain⟨T,tl,tz,ta⟩:=JT S (s.extract (k+1) (k+2)) (by rw [jF s (by omega)];omega);rw [jF s (by omega)] at tz;have sl:=zh s (k+1) (k+2) ((k:Int)+1) ((k:Int)+1+1) (by omega) (by omega) (by omega) (by omega);have HT:Hid (T.data.toList=enc (acc++[((s[k+1]'cl).toNat:Int)])):=jb (jP (ja hS) (by rw [tl,JM cl]) (Jf (by omega)));have A2:=jb (ja (AM _ _) hn);have zT:T.size<=k+2:=by omega
            have b34':(((s[k+1]'cl).toNat:Int) == 34)=false:=beq_false_of_ne (by omega);have b92':(((s[k+1]'cl).toNat:Int) == 92)=false:=beq_false_of_ne (by omega);have b47':(((s[k+1]'cl).toNat:Int) == 47)=true:=by rw [show((s[k+1]'cl).toNat:Int)=47 by omega];rfl
            clear AM AF SF hn hS hR tl tz e34 e92 e47 e110 e116 e114 e117 d34 d92 d47;go_wp2;go_roundw
            case rel=>exact⟨T,k+2,f,acc++[((s[k+1]'cl).toNat:Int)],by first | rfl | simp,by first | rfl | go_num,by omega,by omega,by omega,zT,HT,A2,hB⟩
            case measure=>simp [intOf];omega
           ·skip
            by_cases d110:(s[k+1]'cl).toNat=110
            ·have hn:=YD cl (e110.2 d110)
             obtain⟨T,tl,tz,ta⟩:=jz S [10] (by simp;omega);rw [show([10]:List UInt8).length=1 from rfl] at tz;have HT:Hid (T.data.toList=enc (acc++[10])):=jb (jP (ja hS) tl rfl);have A2:=jb (ja (AM _ _) hn);have zT:T.size<=k+2:=by omega
             have b34':(((s[k+1]'cl).toNat:Int) == 34)=false:=beq_false_of_ne (by omega);have b92':(((s[k+1]'cl).toNat:Int) == 92)=false:=beq_false_of_ne (by omega);have b47':(((s[k+1]'cl).toNat:Int) == 47)=false:=beq_false_of_ne (by omega);have b110':(((s[k+1]'cl).toNat:Int) == 110)=true:=by rw [show((s[k+1]'cl).toNat:Int)=110 by omega];rfl
             clear AM AF SF hn hS hR tl tz e34 e92 e47 e110 e116 e114 e117 d34 d92 d47 d110;go_wp2;go_roundw
             case rel=>exact⟨T,k+2,f,acc++[10],by first | rfl | simp,by first | rfl | go_num,by omega,by omega,by omega,zT,HT,A2,hB⟩
             case measure=>simp [intOf];omega
            ·skip
             by_cases d116:(s[k+1]'cl).toNat=116
             ·have hn:=Yy cl (e116.2 d116)
              obtain⟨T,tl,tz,ta⟩:=jz S [9] (by simp;omega);rw [show([9]:List UInt8).length=1 from rfl] at tz;have HT:Hid (T.data.toList=enc (acc++[9])):=jb (jP (ja hS) tl rfl);have A2:=jb (ja (AM _ _) hn);have zT:T.size<=k+2:=by omega
              have b34':(((s[k+1]'cl).toNat:Int) == 34)=false:=beq_false_of_ne (by omega);have b92':(((s[k+1]'cl).toNat:Int) == 92)=false:=beq_false_of_ne (by omega);have b47':(((s[k+1]'cl).toNat:Int) == 47)=false:=beq_false_of_ne (by omega);have b110':(((s[k+1]'cl).toNat:Int) == 110)=false:=beq_false_of_ne (by omega);have b116':(((s[k+1]'cl).toNat:Int) == 116)=true:=by rw [show((s[k+1]'cl).toNat:Int)=116 by omega];rfl
              clear AM AF SF hn hS hR tl tz e34 e92 e47 e110 e116 e114 e117 d34 d92 d47 d110 d116;go_wp2;go_roundw
              case rel=>exact⟨T,k+2,f,acc++[9],by first | rfl | simp,by first | rfl | go_num,by omega,by omega,by omega,zT,HT,A2,hB⟩
              case measure=>simp [intOf];omega
             ·skip
              by_cases d114:(s[k+1]'cl).toNat=114
              ·have hn:=Yx cl (e114.2 d114)
               obtain⟨T,tl,tz,ta⟩:=jz S [13] (by simp;omega);rw [show([13]:List UInt8).length=1 from rfl] at tz;have HT:Hid (T.data.toList=enc (acc++[13])):=jb (jP (ja hS) tl rfl);have A2:=jb (ja (AM _ _) hn);have zT:T.size<=k+2:=by omega
               have b34':(((s[k+1]'cl).toNat:Int) == 34)=false:=beq_false_of_ne (by omega);have b92':(((s[k+1]'cl).toNat:Int) == 92)=false:=beq_false_of_ne (by omega);have b47':(((s[k+1]'cl).toNat:Int) == 47)=false:=beq_false_of_ne (by omega);have b110':(((s[k+1]'cl).toNat:Int) == 110)=false:=beq_false_of_ne (by omega);have b116':(((s[k+1]'cl).toNat:Int) == 116)=false:=beq_false_of_ne (by omega);have b114':(((s[k+1]'cl).toNat:Int) == 114)=true:=by rw [show((s[k+1]'cl).toNat:Int)=114 by omega];rfl
               clear AM AF SF hn hS hR tl tz e34 e92 e47 e110 e116 e114 e117 d34 d92 d47 d110 d116 d114;go_wp2;go_roundw
               case rel=>exact⟨T,k+2,f,acc++[13],by first | rfl | simp,by first | rfl | go_num,by omega,by omega,by omega,zT,HT,A2,hB⟩
               case measure=>simp [intOf];omega
              ·skip
               by_cases d117:(s[k+1]'cl).toNat=117
               ·have y3:IntKind.i64.wrap (((k+2:Nat):Int)+1)=((k+3:Nat):Int):=by simp [IntKind.wrap,IntKind.bits,IntKind.signed];omega
                have b34':(((s[k+1]'cl).toNat:Int) == 34)=false:=beq_false_of_ne (by omega);have b92':(((s[k+1]'cl).toNat:Int) == 92)=false:=beq_false_of_ne (by omega);have b47':(((s[k+1]'cl).toNat:Int) == 47)=false:=beq_false_of_ne (by omega);have b110':(((s[k+1]'cl).toNat:Int) == 110)=false:=beq_false_of_ne (by omega);have b116':(((s[k+1]'cl).toNat:Int) == 116)=false:=beq_false_of_ne (by omega);have b114':(((s[k+1]'cl).toNat:Int) == 114)=false:=beq_false_of_ne (by omega);have b117':(((s[k+1]'cl).toNat:Int) == 117)=true:=by rw [show((s[k+1]'cl).toNat:Int)=117 by omega];rfl
                have c117:=e117.2 d117;clear e34 e92 e47 e110 e116 e114 e117 d34 d92 d47 d110 d116 d114 d117
                by_cases cm:k+2<s.size
                ·have i3:¬((k+2:Nat):Int) ≥ (s.size:Int):=by omega
                 have q4:(0:Int)<=((k+2:Nat):Int):=by omega
                 have q5:((k+2:Nat):Int)<(s.size:Int):=by omega
                 have e123:s[k+2]'cm=123↔(s[k+2]'cm).toNat=123:=jt (s[k+2]'cm) 123 (by decide)
                 by_cases d123:(s[k+2]'cm).toNat=123
                 ·have b123:(((s[k+2]'cm).toNat:Int) != 123)=false:=by rw [show((s[k+2]'cm).toNat:Int)=123 by omega];rfl
                  have NQ:=Xi cl c117 cm (e123.2 d123);rw [NQ] at AM AF SF;clear NQ c117 e123 d123;have KD:∀(c:UInt8) (W:World),Hid (Calls Tryd.prog 53 #[.int .u8 (c.toNat:Int)] W fun e w'=>e=.returned (.int .i64 ((JO c:Nat):Int))/\w'=W):=fun c W=>jb (Qf W c)
                  go_wp2_with fail
                  clear b10 b34 b92 y1 y2 y3 u
                  go_loopw [6,9,10] (fun i n m wr2=>∃v j p:Nat,i=.int .i64 (p:Int)/\n=.int .i64 (v:Int)/\m=.int .i64 (j:Int)/\Hid (p=k+3+j)/\k+3<=p/\j<=7/\p<=s.size/\Hid (v<16 ^ j)/\Hid (Up7 s.data.toList (k+3) v j)/\Hid (Below w.heap.size w wr2)) (fun i _ _ _=>s.size - (intOf i).toNat)
                  case atStart=>exact⟨0,0,k+3,by first | rfl | (simp;omega) | go_num,by first | rfl | simp,by first | rfl | simp,jb rfl,by omega,by omega,by omega,jb (by decide),jb (ZU _ _),hB⟩
                  case round=>
                   obtain⟨v,j,p,rfl,rfl,rfl,hp3,kp,j7,ps,hv,hU,hB2⟩:=hrel;clear hB;have hsz2:=(ja hB2).size;have vb:v<268435456:=Nat.lt_of_lt_of_le (ja hv) (Nat.pow_le_pow_right (by decide) j7)
                   by_cases cp:p<s.size
                   ·have i1:(p:Int)<(s.size:Int):=by omega
                    have s0:(0:Int)<=(p:Int):=by omega
                    have KC:=KD (s[p]'cp)
                    by_cases cx:hexv (s[p]'cp)<16
                    ·have hd:=QB cx
                     rw [hd] at KC;have i2:((hexv (s[p]'cp):Nat):Int)<16:=by omega
                     by_cases c7:j<7
                     ·have i3:(j:Int)<7:=by omega
                      have U2:=jb (Xs (ja hp3) cp c7 (ja hU) cx);have V2:Hid (v*16+hexv (s[p]'cp)<16 ^ (j+1)):=jb (by have:=ja hv;rw [Nat.pow_succ];omega);have P2:Hid (p+1=k+3+(j+1)):=jb (by have:=ja hp3;omega);have MJ:Hid (p<s.size):=jb cp;clear hd AM AF SF hS hR hU hv KD;generalize hexv (s[p]'cp)=d at *
                      go_wp2_with fail
                      refine(ja (KC _)).mono ?_
                      rintro _ w2 ⟨rfl,hw⟩
                      rw [hw];clear hw
                      go_wp2_with fail
                      refine(ja (KC _)).mono ?_
                      rintro _ w2 ⟨rfl,hw⟩
                      rw [hw];clear hw;go_wp2;go_roundw
                      case rel=>exact⟨v*16+d,j+1,p+1,by first | rfl | go_num,by first | rfl | go_num,by first | rfl | go_num,P2,by omega,by omega,by omega,V2,U2,hB2⟩
                      case measure=>have:=ja MJ;simp [intOf];omega
                     ·have i3:¬(j:Int)<7:=by omega
                      have t3:decide ((j:Int)<7)=false:=decide_eq_false i3;have F:Hid (R=.inl 4):=jb (by rw [ja hR];exact ja (AF _) (zl (JZ (ja hp3) (ja hU) (.inr (.inl c7))) (by omega)));have g1:¬(j:Int)<1:=by omega
                      have g2:(j:Int) > 6:=by omega
                      clear hd AM AF SF hS hR hU hv KD;generalize hexv (s[p]'cp)=d at *
                      go_wp2_with fail
                      refine(ja (KC _)).mono ?_
                      rintro _ w2 ⟨rfl,hw⟩
                      rw [hw];clear hw KC
                      skip
                      go_wp2;refine bodyPost_ret (v:=.tuple #[.string ⟨#[]⟩,.int .i64 0,.int .i64 4]) (by simp [results,Tryd.results34,go_sem]) rfl ?_
                      rw [ja F];exact⟨rfl,ja hB2⟩
                    ·have hd:=ZM cx
                     rw [hd] at KC;have hF:=JZ (ja hp3) (ja hU) (.inr (.inr ⟨cp,cx⟩));clear hd KD hU hv
                     by_cases cj:j<1
                     ·have g1:(j:Int)<1:=by omega
                      have F:Hid (R=.inl 4):=jb (by rw [ja hR];exact ja (AF _) (Jo (v:=v) (by rw [hF,show j=0 by omega])));clear AM AF SF hS hR hF
                      go_wp2_with fail
                      refine(ja (KC _)).mono ?_
                      rintro _ w2 ⟨rfl,hw⟩
                      rw [hw];clear hw KC
                      skip
                      go_wp2;refine bodyPost_ret (v:=.tuple #[.string ⟨#[]⟩,.int .i64 0,.int .i64 4]) (by simp [results,Tryd.results34,go_sem]) rfl ?_
                      rw [ja F];exact⟨rfl,ja hB2⟩
                     ·have g1:¬(j:Int)<1:=by omega
                      by_cases cg:6<j
                      ·have g2:(j:Int) > 6:=by omega
                       have F:Hid (R=.inl 4):=jb (by rw [ja hR];exact ja (AF _) (zl hF cg));clear AM AF SF hS hR hF
                       go_wp2_with fail
                       refine(ja (KC _)).mono ?_
                       rintro _ w2 ⟨rfl,hw⟩
                       rw [hw];clear hw KC
                       skip
                       go_wp2;refine bodyPost_ret (v:=.tuple #[.string ⟨#[]⟩,.int .i64 0,.int .i64 4]) (by simp [results,Tryd.results34,go_sem]) rfl ?_
                       rw [ja F];exact⟨rfl,ja hB2⟩
                      ·have g2:¬(j:Int) > 6:=by omega
                       have g3:¬(p:Int) ≥ (s.size:Int):=by omega
                       have hh:=JA cp;have hdd:(s.data.toList.drop (k+3)).drop j=s.data.toList.drop p:=by rw [List.drop_drop,ja hp3]
                       have e125:s[p]'cp=125↔(s[p]'cp).toNat=125:=jt (s[p]'cp) 125 (by decide)
                       by_cases c125:(s[p]'cp).toNat=125
                       ·have b125:(((s[p]'cp).toNat:Int) != 125)=false:=by rw [show((s[p]'cp).toNat:Int)=125 by omega];rfl
                        have NQ:=Zu hF (by omega) (by omega) (by rw [hdd,hh,e125.2 c125]);have KS:=fun W=>jb (jA (v:Int) W)
                        have i5:((v:Nat):Int)<=268435456:=by omega
                        cases hsc:sc (v:Int) with
                        | true=>
                         rw [hsc,if_pos rfl] at NQ;rw [hsc] at KS;have A2:=ja (AM _ _) NQ;rw [show k+(j+4)=p+1 by have:=ja hp3;omega] at A2;have A2:=jb A2;have KO:=fun W=>jb (zF (v:Int) W hsc)
                         have h4:=jd (v:Int);obtain⟨T,tl,tz,ta⟩:=jz S (Lib.encodeRune (v:Int)) (by omega);have HT:Hid (T.data.toList=enc (acc++[(v:Int)])):=jb (jP (ja hS) tl rfl);have zT:T.size<=p+1:=by have:=ja hp3;omega
                         clear AM AF SF hS hR hF NQ hsc tl tz h4 e125 c125 hh hdd;generalize Lib.encodeRune (v:Int)=X at *
                         go_wp2_with fail
                         refine(ja (KC _)).mono ?_
                         rintro _ w2 ⟨rfl,hw⟩
                         rw [hw];clear hw KC
                         go_wp2_with fail
                         refine(ja (KS _)).mono ?_
                         rintro _ w2 ⟨rfl,hw⟩
                         rw [hw];clear hw KS
                         go_wp2_with fail
                         refine(ja (KO _)).mono ?_
                         rintro _ w2 ⟨rfl,b2⟩
                         have B2:=jb ((ja hB2).trans (b2.mono hsz2));clear b2 KO hB2;go_wp2;go_roundw
                         case rel=>exact⟨T,p+1,f,acc++[(v:Int)],by first | rfl | simp,by first | rfl | go_num,by omega,by omega,by omega,zT,HT,A2,B2⟩
                         case measure=>simp [intOf];omega
                        | false=>
                         rw [hsc,if_neg (by decide)] at NQ;rw [hsc] at KS;have F:Hid (R=.inl 3):=jb (by rw [ja hR];exact ja (AF _) NQ);clear AM AF SF hS hR hF NQ hsc e125 c125 hh hdd
                         go_wp2_with fail
                         refine(ja (KC _)).mono ?_
                         rintro _ w2 ⟨rfl,hw⟩
                         rw [hw];clear hw KC
                         go_wp2_with fail
                         refine(ja (KS _)).mono ?_
                         rintro _ w2 ⟨rfl,hw⟩
                         rw [hw];clear hw KS
                         skip
                         go_wp2;refine bodyPost_ret (v:=.tuple #[.string ⟨#[]⟩,.int .i64 0,.int .i64 3]) (by simp [results,Tryd.results34,go_sem]) rfl ?_
                         rw [ja F];exact⟨rfl,ja hB2⟩
                       ·have b125:(((s[p]'cp).toNat:Int) != 125)=true:=by simp only [bne_iff_ne];omega
                        have F:Hid (R=.inl 4):=jb (by rw [ja hR];exact ja (AF _) (JF hF (by omega) (by rw [hdd,hh];intro h;injection h with h;exact c125 (e125.1 h))));clear AM AF SF hS hR hF e125 c125 hh hdd
                        go_wp2_with fail
                        refine(ja (KC _)).mono ?_
                        rintro _ w2 ⟨rfl,hw⟩
                        rw [hw];clear hw KC
                        skip
                        go_wp2;refine bodyPost_ret (v:=.tuple #[.string ⟨#[]⟩,.int .i64 0,.int .i64 4]) (by simp [results,Tryd.results34,go_sem]) rfl ?_
                        rw [ja F];exact⟨rfl,ja hB2⟩
                   ·have i1:¬(p:Int)<(s.size:Int):=by omega
                    have t1:decide ((p:Int)<(s.size:Int))=false:=decide_eq_false i1;have hF:=JZ (ja hp3) (ja hU) (.inl cp);have hdd:(s.data.toList.drop (k+3)).drop j=s.data.toList.drop p:=by rw [List.drop_drop,ja hp3]
                    have F:Hid (R=.inl 4):=jb (by
                     rw [ja hR]
                     by_cases cj:j=0
                     ·exact ja (AF _) (Jo (v:=v) (by rw [hF,cj]))
                     ·by_cases cg:6<j
                      ·exact ja (AF _) (zl hF cg)
                      ·exact ja (AF _) (JF hF (by omega) (by rw [hdd,Jn cp];simp)))
                    clear AM AF SF hS hR hF hU hv KD hdd
                    by_cases cj:j<1
                    ·have g1:(j:Int)<1:=by omega
                     skip
                     go_wp2;refine bodyPost_ret (v:=.tuple #[.string ⟨#[]⟩,.int .i64 0,.int .i64 4]) (by simp [results,Tryd.results34,go_sem]) rfl ?_
                     rw [ja F];exact⟨rfl,ja hB2⟩
                    ·have g1:¬(j:Int)<1:=by omega
                     by_cases cg:6<j
                     ·have g2:(j:Int) > 6:=by omega
                      skip
                      go_wp2;refine bodyPost_ret (v:=.tuple #[.string ⟨#[]⟩,.int .i64 0,.int .i64 4]) (by simp [results,Tryd.results34,go_sem]) rfl ?_
                      rw [ja F];exact⟨rfl,ja hB2⟩
                     ·have g2:¬(j:Int) > 6:=by omega
                      have g3:(p:Int) ≥ (s.size:Int):=by omega
                      skip
                      go_wp2;refine bodyPost_ret (v:=.tuple #[.string ⟨#[]⟩,.int .i64 0,.int .i64 4]) (by simp [results,Tryd.results34,go_sem]) rfl ?_
                      rw [ja F];exact⟨rfl,ja hB2⟩
                 ·have b123:(((s[k+2]'cm).toNat:Int) != 123)=true:=by simp only [bne_iff_ne];omega
                  have F:Hid (R=.inl 4):=jb (by rw [ja hR];exact ja (AF _) (Xh cl c117 (by rw [JA cm];intro h;injection h with h;exact d123 (e123.1 h))));clear AM AF SF hR hS e123 d123 c117;go_wp2;refine bodyPost_ret (v:=.tuple #[.string ⟨#[]⟩,.int .i64 0,.int .i64 4]) (by simp [results,Tryd.results34,go_sem]) rfl ?_
                  rw [ja F];exact⟨rfl,ja hB⟩
                ·have i3:((k+2:Nat):Int) ≥ (s.size:Int):=by omega
                 have F:Hid (R=.inl 4):=jb (by rw [ja hR];exact ja (AF _) (Xh cl c117 (by rw [Jn cm];simp)));clear AM AF SF hR hS c117;go_wp2;refine bodyPost_ret (v:=.tuple #[.string ⟨#[]⟩,.int .i64 0,.int .i64 4]) (by simp [results,Tryd.results34,go_sem]) rfl ?_
                 rw [ja F];exact⟨rfl,ja hB⟩
               ·have F:Hid (R=.inl 4):=jb (by rw [ja hR];exact ja (AF _) (Z1 cl (fun h=>d34 (e34.1 h)) (fun h=>d92 (e92.1 h)) (fun h=>d47 (e47.1 h)) (fun h=>d110 (e110.1 h)) (fun h=>d116 (e116.1 h)) (fun h=>d114 (e114.1 h)) (fun h=>d117 (e117.1 h))))
                have b34':(((s[k+1]'cl).toNat:Int) == 34)=false:=beq_false_of_ne (by omega);have b92':(((s[k+1]'cl).toNat:Int) == 92)=false:=beq_false_of_ne (by omega);have b47':(((s[k+1]'cl).toNat:Int) == 47)=false:=beq_false_of_ne (by omega);have b110':(((s[k+1]'cl).toNat:Int) == 110)=false:=beq_false_of_ne (by omega);have b116':(((s[k+1]'cl).toNat:Int) == 116)=false:=beq_false_of_ne (by omega);have b114':(((s[k+1]'cl).toNat:Int) == 114)=false:=beq_false_of_ne (by omega);have b117':(((s[k+1]'cl).toNat:Int) == 117)=false:=beq_false_of_ne (by omega);clear AM AF SF hR hS e34 e92 e47 e110 e116 e114 e117 d34 d92 d47 d110 d116 d114 d117;go_wp2;refine bodyPost_ret (v:=.tuple #[.string ⟨#[]⟩,.int .i64 0,.int .i64 4]) (by simp [results,Tryd.results34,go_sem]) rfl ?_
                rw [ja F];exact⟨rfl,ja hB⟩
        ·have i2:((k+1:Nat):Int) ≥ (s.size:Int):=by omega
         have F:Hid (R=.inl 4):=jb (by rw [ja hR];exact ja (AF _) (XH cl));clear AM AF SF hR hS;go_wp2;refine bodyPost_ret (v:=.tuple #[.string ⟨#[]⟩,.int .i64 0,.int .i64 4]) (by simp [results,Tryd.results34,go_sem]) rfl ?_
         rw [ja F];exact⟨rfl,ja hB⟩
       ·have b92:(((s[k]'ck).toNat:Int) != 92)=true:=by simp only [bne_iff_ne];omega
        have NE:=zQ (c:=s[k]'ck) (t:=s.data.toList.drop (k+1)) (fun h=>c10 (e10.1 h)) (fun h=>c92 (e92.1 h));rw [<-jo s k ck] at NE;have KC:=zY (s.extract k s.size) wr (by rw [jF s (Nat.le_refl _)];omega);rw [jj] at KC;have KC:=jb KC;have hneg:=qK hne;have hRR:jf (s.data.toList.drop k)=if jI (s.data.toList.drop k)=true then -1 else ((Lib.decodeL (s.data.toList.drop k)).1:Int):=by unfold jf;rw [if_neg hne]
        have hNN:jg (s.data.toList.drop k)=(Lib.decodeL (s.data.toList.drop k)).2:=by unfold jg;rw [if_neg hne]
        cases hb:jI (s.data.toList.drop k) with
        | true=>
         rw [hb,if_pos rfl] at NE;have F:Hid (R=.inl 3):=jb (by rw [ja hR];exact ja (AF _) NE);rw [hb] at hneg;have r0:jf (s.data.toList.drop k)<0:=hneg.2 rfl;clear hneg hRR hNN NE AM AF SF hb hR hS e10 e34 e92 c10 c34 c92 n34 hne hAt;generalize jf (s.data.toList.drop k)=r at *;generalize jg (s.data.toList.drop k)=n at *
         go_wp2_with fail
         refine(ja KC).mono ?_
         rintro _ w2 ⟨rfl,b2⟩
         have B2:=jb ((ja hB).trans (b2.mono hsz));clear b2 KC hB
         skip
         go_wp2;refine bodyPost_ret (v:=.tuple #[.string ⟨#[]⟩,.int .i64 0,.int .i64 3]) (by simp [results,Tryd.results34,go_sem]) rfl ?_
         rw [ja F];exact⟨rfl,ja B2⟩
        | false=>
         rw [hb,if_neg (by decide)] at NE hRR;rw [<-hRR,<-hNN] at NE;have A2:=ja (AM _ _) NE;obtain⟨n1,n2,hsc,n4,_⟩:=ja (SF _ _) NE;rw [List.length_drop,jc] at n2;rw [hb] at hneg;have r0:¬jf (s.data.toList.drop k)<0:=fun h=>by have:=hneg.1 h;cases this
         have hx:(s.extract k (k+jg (s.data.toList.drop k))).data.toList=Lib.encodeRune (jf (s.data.toList.drop k)):=by
          obtain⟨q,rest,hq,eq,ed⟩:=q6 hne hb;have hq0:=jh hq;rw [hRR,hNN,ed,Zq,eq];simp only;rw [show((q.toNat:Nat):Int)=q by omega,show k+(Lib.encodeRune q).length - k=(Lib.encodeRune q).length by omega,List.take_left' rfl]
         have A2:=jb A2;clear hneg hRR hNN NE AM AF SF hb hR e10 e34 e92 c10 c34 c92 n34 hne hAt n4 hsc;generalize jf (s.data.toList.drop k)=r at *;generalize jg (s.data.toList.drop k)=n at *;obtain⟨T,tl,tz,ta⟩:=JT S (s.extract k (k+n)) (by rw [jF s (by omega)];omega);rw [jF s (by omega)] at tz;have HT:Hid (T.data.toList=enc (acc++[r])):=jb (jP (ja hS) (by rw [tl,hx]) rfl);have zT:T.size<=k+n:=by omega
         have sl:=zh s k (k+n) (k:Int) ((k:Int)+(n:Int)) rfl (by omega) (by omega) (by omega);have yn:IntKind.i64.wrap ((k:Int)+(n:Int))=((k+n:Nat):Int):=by simp [IntKind.wrap,IntKind.bits,IntKind.signed];omega
         have q1:(k:Int)<=((k+n:Nat):Int):=by omega
         have q2:((k+n:Nat):Int)<=(s.size:Int):=by omega
         clear tl tz hx hS
         go_wp2_with fail
         refine(ja KC).mono ?_
         rintro _ w2 ⟨rfl,b2⟩
         have B2:=jb ((ja hB).trans (b2.mono hsz));clear b2 KC hB;go_wp2;go_roundw
         case rel=>exact⟨T,k+n,f,acc++[r],by first | rfl | simp,by first | rfl | go_num,by omega,by omega,by omega,zT,HT,A2,B2⟩
         case measure=>simp [intOf];omega
    ·have i1:(k:Int) ≥ (s.size:Int):=by omega
     have F:Hid (R=.inl 4):=jb (by rw [ja hR];exact XM (by omega) (ja hAt));clear hR hAt hS;go_wp2;refine bodyPost_ret (v:=.tuple #[.string ⟨#[]⟩,.int .i64 0,.int .i64 4]) (by simp [results,Tryd.results34,go_sem]) rfl ?_
     rw [ja F];exact⟨rfl,ja hB⟩
  ·have F:Hid (R=.inl 4):=jb (by rw [ja hR];exact qM (.inr ⟨hp,fun h=>c (e34.1 h)⟩))
   have b34:(((s[0]'hp).toNat:Int) != 34)=true:=by simp only [bne_iff_ne];omega
   clear hR e34 c
   go_enter Tryd.func34,Tryd.ntmps34
   go_wp2;refine bodyPost_ret (v:=.tuple #[.string ⟨#[]⟩,.int .i64 0,.int .i64 4]) (by simp [results,Tryd.results34,go_sem]) rfl ?_
   rw [ja F];exact⟨rfl,Below.refl _ _⟩
end escs
end Go.Proofs.YticcibefchffmaaDoor
