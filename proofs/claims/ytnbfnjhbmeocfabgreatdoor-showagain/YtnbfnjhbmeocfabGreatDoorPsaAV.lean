/- Of our texts, what this claim reaches. -/
import Derived.Test.YtnbfnjhbmeocfabGreatDoorPsaAU
import Derived.Deep.CutRange
set_option linter.unusedVariables false
set_option maxHeartbeats 8000000
set_option maxRecDepth 100000
namespace Go.Proofs.YtnbfnjhbmeocfabGreatDoor
namespace bigs
open Go.RowKit
theorem jnA (n x:Nat)(hn:n<4294967296)(hx:x<4294967296):Go.bits .or .u64 (n:Int) ((x:Int)*4294967296)=((n+x*4294967296:Nat):Int):=by
 have h:=jaD x n hx hn
 have c:Go.bits .or .u64 (n:Int) ((x:Int)*4294967296)=Go.bits .or .u64 ((x:Int)*4294967296) (n:Int):=by
  unfold Go.bits;simp only [BitVec.or_comm]
 rw [c,h,Nat.add_comm]
theorem joy (x:Nat)(hx:x<4294967296):Go.bits .or .u64 0 (x:Int)=(x:Int):=by
 have h:=jaD 0 x (by omega) hx;simpa using h
theorem jhb (w:World)(v:Value)(l:List Nat)(hv:WSl w v l)(sl:jg l)(hl:l.length<=2) :
  Calls Tryz.prog 190 #[v] w fun e w'=>e=.returned (.int .u64 (je l))/\w'=w:=by
 obtain⟨a,ca,rfl,hca,ra⟩:=hv
 go_enter Tryz.func190,Tryz.ntmps190
 go_wp2
 go_loopw [8,3] (fun i n wr=>∃k:Nat,k<=l.length/\i=.int .i64 k/\n=.int .u64 (je (l.take k))/\wr=w) (fun i _ _=>l.length - (intOf i).toNat)
 case atStart=>exact⟨0,Nat.zero_le _,rfl,rfl,rfl⟩
 case round=>
  obtain⟨k,hk,rfl,rfl,rfl⟩:=hrel
  by_cases hlt:k<l.length
  ·obtain⟨ba,oa,rfl,hba,hca⟩:=ra (by intro e;rw [e] at hlt;simp at hlt)
   have c1:=hca k hlt;have x1:l.getD k 0<4294967296:=sl k hlt;have hs:=jN l k;have H:Hid (je (l.take (k+1))=je (l.take k)+4294967296 ^ k*l.getD k 0):=jd hs;clear hs hca ra;have hk2:k=0\/k=1:=by omega
   rcases hk2 with rfl | rfl
   ·have z:je (l.take 0)=0:=rfl
    rw [Nat.add_zero] at c1;have o:=joy _ x1;rw [z];generalize l.getD 0 0=x at *;go_wp2;go_roundw
    case rel=>exact⟨1,by omega,by go_num,by rw [ja H,z];simp,by trivial⟩
    case measure=>simp [intOf];omega
   ·have z:je (l.take 1)<4294967296:=by
     have:=zG (zS sl 1);have e:(l.take 1).length=1:=by rw [List.length_take];omega
     rw [e] at this;simpa using this
    have o:=jnA (je (l.take 1)) _ z x1;generalize je (l.take 1)=y at *;generalize l.getD 1 0=x at *;go_wp2;go_roundw
    case rel=>exact⟨2,by omega,by go_num,by rw [ja H];simp [Nat.mul_comm],by trivial⟩
    case measure=>simp [intOf];omega
  ·have hkl:k=l.length:=by omega
   subst hkl;rw [List.take_length];go_wp2;go_ret;exact⟨rfl,rfl⟩
theorem jdo (w:World)(v:Value)(n:Nat)(hv:WBig w v n)(hn:n<18446744073709551616) :
  Calls Tryz.prog 190 #[v] w fun e w'=>e=.returned (.int .u64 n)/\w'=w:=by
 have h:=jhb w v (jh n) hv (jj n) (qC (by simpa using hn));rwa [jl] at h
theorem jdU (w:World)(n:Nat)(hn:n<18446744073709551616) :
  Calls Tryz.prog 217 #[.int .u64 n] w fun e w'=>∃v l,e=.returned v/\WSl w' v l/\jg l/\l.length=2/\je l=n/\Below w.heap.size w w':=by
 obtain⟨hi,h1⟩:∃hi,hi=n / 4294967296:=⟨_,rfl⟩
 obtain⟨lo,h2⟩:∃lo,lo=n % 4294967296:=⟨_,rfl⟩
 have n1:(n:Int) / 4294967296=(hi:Int):=by omega
 have n2:(n:Int) % 4294967296=(lo:Int):=by omega
 have n3:(hi:Int) % 4294967296=(hi:Int):=by omega
 have hh:hi<4294967296:=by omega
 have hl:lo<4294967296:=by omega
 have hs:n=lo+4294967296*hi:=by omega
 have HS:=jd hs;clear h1 h2 hs
 go_enter Tryz.func217,Tryz.ntmps217
 go_wp2;go_ret;exact⟨_,[lo,hi],rfl,⟨_,_,rfl,by simp,jnJ w lo hi⟩,qK.2 ⟨hl,qA hh⟩,rfl,by rw [ja HS];simp [je],(Below.refl _ _).alloc (Nat.le_refl _) _⟩
theorem JA (w:World)(n:Nat)(hn:n<=1000) :
  Calls Tryz.prog 205 #[.int .i64 n] w fun e w'=>∃v,e=.returned v/\WBig w' v (10 ^ n)/\Below w.heap.size w w':=by
 have K1:=jd (joo w 10 n (by omega) hn);generalize 10 ^ n=T at *
 go_enter Tryz.func205,Tryz.ntmps205
 go_wp2_with fail
 refine(ja K1).mono ?_
 rintro e w1 ⟨v1,rfl,h1,b1⟩
 have H1:=jd h1;clear h1 K1;go_wp2;go_ret;exact⟨_,rfl,ja H1,b1⟩
theorem no3:Xa #[.slice none 0 0,.slice none 0 0,.slice none 0 0]:=Z1 _ _ _ (fun _ h=>by cases h) (fun _ h=>by cases h) (fun _ h=>by cases h)
theorem JL {m N:Nat}:(jh (m*2 ^ N)).length<=(jh m).length+N+1:=by
 have h:=Jb m (2 ^ N);have h2:=XI (b:=2) (e:=N) (by decide);omega
theorem jbG {w:World}{v:Value}{l:List Nat}(h:WSl w v l):∀q,v≠.int .u32 q:=by
 obtain⟨a,c,rfl,_⟩:=h;intro q e;cases e
theorem jbj {w2:World}{v1 v2 v3:Value}{n1 n2:Nat}(b:Nat)(bk:Blk w2 b #[.slice none 0 0,.slice none 0 0,.slice none 0 0] 235){k3:List Nat}(h1:WBig w2 v1 n1)(h2:WBig w2 v2 n2)(h3:WSl w2 v3 k3) :
  (((w2.setCell ⟨b,0,none⟩ v1).setCell ⟨b,1,none⟩ v2).setCell ⟨b,2,none⟩ v3).cell? ⟨b,0,none⟩=some v1/\(((w2.setCell ⟨b,0,none⟩ v1).setCell ⟨b,1,none⟩ v2).setCell ⟨b,2,none⟩ v3).cell? ⟨b,1,none⟩=some v2/\
  (((w2.setCell ⟨b,0,none⟩ v1).setCell ⟨b,1,none⟩ v2).setCell ⟨b,2,none⟩ v3).cell? ⟨b,2,none⟩=some v3/\WBig (((w2.setCell ⟨b,0,none⟩ v1).setCell ⟨b,1,none⟩ v2).setCell ⟨b,2,none⟩ v3) v1 n1/\
  WBig (((w2.setCell ⟨b,0,none⟩ v1).setCell ⟨b,1,none⟩ v2).setCell ⟨b,2,none⟩ v3) v2 n2/\WSl (((w2.setCell ⟨b,0,none⟩ v1).setCell ⟨b,1,none⟩ v2).setCell ⟨b,2,none⟩ v3) v3 k3:=by
 have F:=bk.set3 v1 v2 v3;have m1:=jbG h1;have m2:=jbG h2;exact⟨F.cell 0 _ rfl,F.cell 1 _ rfl,F.cell 2 _ rfl,WSl.set3 h1 bk no3 _ _ _ m1 m2,WSl.set3 h2 bk no3 _ _ _ m1 m2,WSl.set3 h3 bk no3 _ _ _ m1 m2⟩
theorem jjP (w:World)(v u:Value)(l k:List Nat)(N B:Nat)(hv:WSl w v l)(hu:WSl w u k)(sl:jg l)(sk:jg k)(ll:l.length<=2000)(lk:k.length<=2000)(hN:N<=4000)(h0:je k≠0)(hB:B=je k*2 ^ N) :
  Calls Tryz.prog 216 #[v,u,.int .i64 N] w fun e w'=>∃v1 v2 v3,e=.returned (.agg #[v1,v2,v3])/\WBig w' v1 (je l / B)/\WBig w' v2 (je l % B)/\WBig w' v3 B/\Below w.heap.size w w':=by
 have hB0:B≠0:=by rw [hB];exact Nat.mul_ne_zero h0 (Nat.ne_of_gt (Nat.pow_pos (by decide)))
 have hBl:(jh B).length<=300000:=by rw [hB];have:=JL (m:=je k) (N:=N);have:=ji sk;omega
 have K1:∀w,WSl w u k->Hid (Calls Tryz.prog 228 #[u,.int .i64 N] w fun e w'=>∃v',e=.returned (.tuple #[v',.int .i64 0])/\WBig w' v' B/\Below w.heap.size w w'):=fun w hu=>by rw [hB];exact jd (jai w u k N hu sk (by omega) hN)
 have K2:∀w u,WSl w v l->WBig w u B->Hid (Calls Tryz.prog 229 #[v,u] w fun e w'=>∃v1 v2,e=.returned (.tuple #[v1,v2,.int .i64 0])/\WBig w' v1 (je l / B)/\WBig w' v2 (je l % B)/\Below w.heap.size w w'):=fun w u hv hu=>by
  have h:=jiN w v u l (jh B) hv hu sl (jj _) (by omega) hBl (by rw [jl];exact hB0);rw [jl] at h;exact jd h
 clear hB hBl hB0;have i1:¬((N:Int)<0):=by omega
 go_enter Tryz.func216,Tryz.ntmps216
 go_wp2_with fail
 have b0:Below w.heap.size w (w.alloc (.cells #[.slice none 0 0,.slice none 0 0,.slice none 0 0] 235)):=(Below.refl _ _).alloc (Nat.le_refl _) _;have bk0:=jf w #[.slice none 0 0,.slice none 0 0,.slice none 0 0] 235;generalize w.alloc (.cells #[.slice none 0 0,.slice none 0 0,.slice none 0 0] 235)=w0 at *;refine(ja (K1 w0 (hu.below b0))).mono ?_
 rintro e w1 ⟨v1,rfl,h1,b1⟩
 have hv1:=(hv.below b0).below b1;have H1:=jd h1;have K3:=K2 w1 v1 hv1 h1;obtain⟨a1,q1,rfl,_,_⟩:=h1;clear hv1 K1 K2
 go_wp2_with fail
 refine(ja K3).mono ?_
 rintro e w2 ⟨v2,v3,rfl,h2,h3,b2⟩
 have bk2:=(bk0.below b1).below b2;have bw:=b0.trans (b1.mono b0.size |>.trans (b2.mono (Nat.le_trans b0.size b1.size)));have FIN:=jd (jbj w.heap.size bk2 h2 h3 ((ja H1).below b2));have BF:∀u1 u2 u3,Hid _:=fun u1 u2 u3=>jd (zZ (b:=w.heap.size) bw (Nat.le_refl _) u1 u2 u3)
 obtain⟨a2,q2,rfl,_,_⟩:=h2;obtain⟨a3,q3,rfl,_,_⟩:=h3;have c0:=bk2.cell 0 _ rfl;have c1:=bk2.cell 1 _ rfl;have c2:=bk2.cell 2 _ rfl;have z0:=bk2.froz 0;have z1:=bk2.froz 1;have z2:=bk2.froz 2;clear K3 bk0 bk2 b0 b1 b2 H1 bw;generalize (jh B).length=n1 at *;generalize (jh (je l / B)).length=n2 at *;generalize (jh (je l % B)).length=n3 at *;go_wp2;have FI:=ja FIN;have BB:=ja (BF (.slice a2 n2 q2) (.slice a3 n3 q3) (.slice a1 n1 q1));clear FIN BF c0 c1 c2 z0 z1 z2;generalize (((w2.setCell ⟨w.heap.size,0,none⟩ (.slice a2 n2 q2)).setCell ⟨w.heap.size,1,none⟩ (.slice a3 n3 q3)).setCell ⟨w.heap.size,2,none⟩ (.slice a1 n1 q1))=wF at *;obtain⟨f0,f1,f2,F1,F2,F3⟩:=FI;refine bodyPost_ret (v:=.agg #[.slice a2 n2 q2,.slice a3 n3 q3,.slice a1 n1 q1]) (by simp [results,Tryz.results216,go_sem,f0,f1,f2]) rfl ?_
 exact⟨_,_,_,rfl,F1,F2,F3,BB⟩
theorem jfV (w:World)(v u:Value)(l k:List Nat)(N A:Nat)(hv:WSl w v l)(hu:WSl w u k)(sl:jg l)(sk:jg k)(ll:l.length<=2000)(lk:k.length<=2000)(hN:N<=4000)(hN1:1<=N)(h0:je k≠0)(hA:A=je l*2 ^ N) :
  Calls Tryz.prog 216 #[v,u,.int .i64 (-(N:Int))] w fun e w'=>∃v1 v2 v3,e=.returned (.agg #[v1,v2,v3])/\WBig w' v1 (A / je k)/\WBig w' v2 (A % je k)/\WSl w' v3 k/\Below w.heap.size w w':=by
 have hAl:(jh A).length<=300000:=by rw [hA];have:=JL (m:=je l) (N:=N);have:=ji sl;omega
 have K1:∀w,WSl w v l->Hid (Calls Tryz.prog 228 #[v,.int .i64 N] w fun e w'=>∃v',e=.returned (.tuple #[v',.int .i64 0])/\WBig w' v' A/\Below w.heap.size w w'):=fun w hu=>by rw [hA];exact jd (jai w v l N hu sl (by omega) hN)
 have K2:∀w v,WBig w v A->WSl w u k->Hid (Calls Tryz.prog 229 #[v,u] w fun e w'=>∃v1 v2,e=.returned (.tuple #[v1,v2,.int .i64 0])/\WBig w' v1 (A / je k)/\WBig w' v2 (A % je k)/\Below w.heap.size w w'):=fun w v hv hu=>by
  have h:=jiN w v u (jh A) k hv hu (jj _) sk hAl (by omega) h0;rw [jl] at h;exact jd h
 clear hA hAl h0;have i1 : -(N:Int)<0:=by omega
 go_enter Tryz.func216,Tryz.ntmps216
 go_wp2_with fail
 have b0:Below w.heap.size w (w.alloc (.cells #[.slice none 0 0,.slice none 0 0,.slice none 0 0] 235)):=(Below.refl _ _).alloc (Nat.le_refl _) _;have bk0:=jf w #[.slice none 0 0,.slice none 0 0,.slice none 0 0] 235;generalize w.alloc (.cells #[.slice none 0 0,.slice none 0 0,.slice none 0 0] 235)=w0 at *;refine(ja (K1 w0 (hv.below b0))).mono ?_
 rintro e w1 ⟨v1,rfl,h1,b1⟩
 have hu1:=(hu.below b0).below b1;have HU:=jd hu1;have K3:=K2 w1 v1 h1 hu1;obtain⟨a1,q1,rfl,_,_⟩:=h1;clear hu1 K1 K2
 go_wp2_with fail
 refine(ja K3).mono ?_
 rintro e w2 ⟨v2,v3,rfl,h2,h3,b2⟩
 have bk2:=(bk0.below b1).below b2;have bw:=b0.trans (b1.mono b0.size |>.trans (b2.mono (Nat.le_trans b0.size b1.size)));have FIN:=jd (jbj w.heap.size bk2 h2 h3 ((ja HU).below b2));have BF:∀u1 u2 u3,Hid _:=fun u1 u2 u3=>jd (zZ (b:=w.heap.size) bw (Nat.le_refl _) u1 u2 u3)
 obtain⟨a2,q2,rfl,_,_⟩:=h2;obtain⟨a3,q3,rfl,_,_⟩:=h3;obtain⟨a4,q4,rfl,_,_⟩:=hu;have c0:=bk2.cell 0 _ rfl;have c1:=bk2.cell 1 _ rfl;have c2:=bk2.cell 2 _ rfl;have z0:=bk2.froz 0;have z1:=bk2.froz 1;have z2:=bk2.froz 2;clear K3 bk0 bk2 b0 b1 b2 HU bw;generalize (jh A).length=n1 at *;generalize (jh (A / je k)).length=n2 at *;generalize (jh (A % je k)).length=n3 at *;go_wp2;have FI:=ja FIN;have BB:=ja (BF (.slice a2 n2 q2) (.slice a3 n3 q3) (.slice a4 k.length q4));clear FIN BF c0 c1 c2 z0 z1 z2;generalize (((w2.setCell ⟨w.heap.size,0,none⟩ (.slice a2 n2 q2)).setCell ⟨w.heap.size,1,none⟩ (.slice a3 n3 q3)).setCell ⟨w.heap.size,2,none⟩ (.slice a4 k.length q4))=wF at *;obtain⟨f0,f1,f2,F1,F2,F3⟩:=FI;refine bodyPost_ret (v:=.agg #[.slice a2 n2 q2,.slice a3 n3 q3,.slice a4 k.length q4]) (by simp [results,Tryz.results216,go_sem,f0,f1,f2]) rfl ?_
 exact⟨_,_,_,rfl,F1,F2,F3,BB⟩
def DivOf (w:World)(v:Value)(A B:Nat):Prop:=∃a1 n1 c1 a2 n2 c2 a3 n3 c3,v=.agg #[.slice a1 n1 c1,.slice a2 n2 c2,.slice a3 n3 c3]/\WBig w (.slice a1 n1 c1) (A / B)/\WBig w (.slice a2 n2 c2) (A % B)/\∃k:List Nat,WSl w (.slice a3 n3 c3) k/\jg k/\k.length<=10000/\je k=B
theorem joG {w:World}{v1 v2 v3:Value}{A B:Nat}{k:List Nat}(h1:WBig w v1 (A / B))(h2:WBig w v2 (A % B))(h3:WSl w v3 k)(sk:jg k)(lk:k.length<=10000)(hk:je k=B):DivOf w (.agg #[v1,v2,v3]) A B:=by
 have m1:=h1;have m2:=h2;have m3:=h3;obtain⟨a1,c1,rfl,_⟩:=h1;obtain⟨a2,c2,rfl,_⟩:=h2;obtain⟨a3,c3,rfl,_⟩:=h3;exact⟨_,_,_,_,_,_,_,_,_,rfl,m1,m2,k,m3,sk,lk,hk⟩
theorem DivOf.below {w w':World}{v:Value}{A B:Nat}(h:DivOf w v A B)(hb:Below w.heap.size w w'):DivOf w' v A B:=by
 obtain⟨a1,n1,c1,a2,n2,c2,a3,n3,c3,e,h1,h2,k,h3,h4⟩:=h;exact⟨a1,n1,c1,a2,n2,c2,a3,n3,c3,e,h1.below hb,h2.below hb,k,h3.below hb,h4⟩
theorem QX (w:World)(v u:Value)(l k:List Nat)(x:Int)(hv:WSl w v l)(hu:WSl w u k)(sl:jg l)(sk:jg k)(ll:l.length<=2000)(lk:k.length<=2000)(hx1 : -4000<=x)(hx2:x<=4000)(h0:je k≠0) :
  Calls Tryz.prog 216 #[v,u,.int .i64 x] w fun e w'=>∃d,e=.returned d/\DivOf w' d (je l*2 ^ (-x).toNat) (je k*2 ^ x.toNat)/\Below w.heap.size w w':=by
 by_cases c:0<=x
 ·obtain⟨N,rfl⟩:∃N:Nat,x=N:=⟨x.toNat,by omega⟩
  rw [show(-(N:Int)).toNat=0 by omega,show((N:Int)).toNat=N by omega,Nat.pow_zero,Nat.mul_one];refine(jjP w v u l k N _ hv hu sl sk ll lk (by omega) h0 rfl).mono ?_
  rintro e w' ⟨v1,v2,v3,rfl,h1,h2,h3,b⟩
  refine⟨_,rfl,joG h1 h2 h3 (jj _) ?_ (jl _),b⟩;have:=JL (m:=je k) (N:=N);have:=ji sk;omega
 ·obtain⟨N,rfl⟩:∃N:Nat,x = -(N:Int):=⟨(-x).toNat,by omega⟩
  rw [show(-(-(N:Int))).toNat=N by omega,show(-(N:Int)).toNat=0 by omega,Nat.pow_zero,Nat.mul_one];refine(jfV w v u l k N _ hv hu sl sk ll lk (by omega) (by omega) h0 rfl).mono ?_
  rintro e w' ⟨v1,v2,v3,rfl,h1,h2,h3,b⟩
  exact⟨_,rfl,joG h1 h2 h3 sk (by omega) rfl,b⟩
open Go.RowKit
theorem jao (w:World)(d:Value)(A B:Nat)(h:DivOf w d A B)(hq:A / B<18446744073709551615)(h0:0<B) :
  Calls Tryz.prog 223 #[d] w fun e w'=>e=.returned (.int .u64 (rnd A B))/\Below w.heap.size w w':=by
 obtain⟨a1,n1,c1,a2,n2,c2,a3,n3,c3,rfl,h1,h2,k,h3,sk,lk,hk⟩:=h;have hbl:(jh B).length<=10000:=by rw [<-hk];exact Nat.le_trans (ji sk) lk
 have hml:(jh (A % B)).length<=900000:=Nat.le_trans (Qk (Nat.le_of_lt (Nat.mod_lt A h0))) (by omega)
 have hsl:(jh (A % B+A % B)).length<=1000000:=by
  have:=jel (A % B) (A % B);have:=Qk (Nat.le_of_lt (Nat.mod_lt A h0));omega
 have KA:∀w',Below w.heap.size w w'->Hid (Calls Tryz.prog 232 #[.slice a2 n2 c2,.slice a2 n2 c2] w' fun e w''=>∃v',e=.returned v'/\WBig w'' v' (A % B+A % B)/\Below w'.heap.size w' w''):=fun w' hb=>by
  have h:=joC w' _ _ (jh (A % B)) (jh (A % B)) (h2.below hb) (h2.below hb) (jj _) (jj _) hml hml;rw [jl] at h;exact jd h
 have KC:∀w' v',Below w.heap.size w w'->WBig w' v' (A % B+A % B)->Hid (Calls Tryz.prog 231 #[v',.slice a3 n3 c3] w' fun e w''=>e=.returned (.int .i64 (sgn (A % B+A % B) B))/\Below w'.heap.size w' w''):=fun w' v' hb hv=>by
  have h:=ji2 w' v' _ (jh (A % B+A % B)) k hv (h3.below hb) (jj _) sk hsl (by omega);rw [jl,hk] at h;exact jd h
 have KS:∀w',Below w.heap.size w w'->Hid (Calls Tryz.prog 190 #[.slice a1 n1 c1] w' fun e w''=>e=.returned (.int .u64 (A / B:Nat))/\w''=w'):=fun w' hb=>jd (jdo w' _ _ (h1.below hb) (by omega))
 go_enter Tryz.func223,Tryz.ntmps223
 go_wp2_with fail
 have b0:Below w.heap.size w (w.alloc (.cells #[.slice a1 n1 c1,.slice a2 n2 c2,.slice a3 n3 c3] 235)):=(Below.refl _ _).alloc (Nat.le_refl _) _;have bk0:=jf w #[.slice a1 n1 c1,.slice a2 n2 c2,.slice a3 n3 c3] 235;generalize w.alloc (.cells #[.slice a1 n1 c1,.slice a2 n2 c2,.slice a3 n3 c3] 235)=w0 at *;refine(ja (KS w0 b0)).mono ?_
 rintro e w1 ⟨rfl,rfl⟩
 have r1:=bk0.cell 1 _ rfl;have r2:=bk0.cell 2 _ rfl;have HR:=jmP A B h0;generalize (A / B:Nat)=q at *;clear h1 h2 h3 KS
 go_upto_region 2 with fail
 go_cut [4] from 8 to 15 (fun s4 wx=>s4=.int .i64 (sgn (A % B+A % B) B)/\Below w.heap.size w wx)
 case first=>
  go_region_with (first
   | (go_at_call 232
      refine(ja (KA _ ?_)).mono ?_
      exact b0.drew
      rintro e w2 ⟨v2,rfl,hv2,b2⟩
      have bw2:=b0.drew.trans (b2.mono b0.size);have bk2:Blk w2 w.heap.size _ _:=(show Blk w1.drew _ _ _ from bk0).below b2;have r2':=bk2.cell 2 _ rfl;have KC2:=KC w2 v2 bw2 hv2;clear bk2 b2 hv2)
   | (go_at_call 231
      refine(ja KC2).mono ?_
      rintro e w3 ⟨rfl,b3⟩
      have bw3:=bw2.trans (b3.mono bw2.size);clear b3 bw2 KC2))
  all_goals (go_wp2_with fail;go_meet;exact⟨rfl,bw3⟩)
 case rest=>
 obtain⟨rfl,bw⟩:=hcut;clear KA KC r1 r2 bk0 b0 hk lk sk
 rcases Nat.lt_trichotomy B (A % B+A % B) with g | g | g
 ·rw [if_pos (.inl g)] at HR
  have es:sgn (A % B+A % B) B=1:=jhr g;rw [es];have HH:=jd HR;clear HR es g;go_wp2;go_ret;rw [ja HH];exact⟨by go_num,bw⟩
 ·have es:sgn (A % B+A % B) B=0:=jna g.symm
  rw [es]
  by_cases o:q % 2=1
  ·rw [if_pos (.inr ⟨g.symm,o⟩)] at HR
   have HH:=jd HR;have o':((q:Int) % 2 == 1)=true:=by simp;omega
   clear HR es g o;go_wp2;go_ret;rw [ja HH];exact⟨by go_num,bw⟩
  ·rw [if_neg (by omega)] at HR
   have HH:=jd HR;have o':((q:Int) % 2 == 1)=false:=beq_false_of_ne (by omega);clear HR es g o;go_wp2;go_ret;rw [ja HH];exact⟨by go_num,bw⟩
 ·rw [if_neg (by omega)] at HR
  have es:sgn (A % B+A % B) B = -1:=jeL g;rw [es];have HH:=jd HR;clear HR es g;go_wp2;go_ret;rw [ja HH];exact⟨by go_num,bw⟩
open Go.RowKit
theorem jkQ (x k:Nat):(k<bits x↔2 ^ k<=x):=by
 by_cases h:x=0
 ·subst h
  rw [qy];have:=Nat.pow_pos (n:=k) (show 0<2 by omega);omega
 ·have h1:=JW x
  have h2:=QG h
  constructor
  ·intro c
   have:=Nat.pow_le_pow_right (n:=2) (by omega) (show k+1<=bits x by omega);rw [Nat.pow_succ] at this;omega
  ·intro c
   by_cases d:k<bits x
   ·exact d
   ·have:=Nat.pow_le_pow_right (n:=2) (by omega) (show bits x<=k by omega)
    omega
theorem jfT (E R:Nat):((min 9218868437227405312 (E*4503599627370496+R):Nat):Int)=min ((E:Int)*4503599627370496+(R:Int)) 9218868437227405312:=by omega
theorem jio (a b:Int)(h:a=b):Ending.returned (.int .u64 a)=Ending.returned (.int .u64 b):=by rw [h]
theorem YD {w:World}{d:Value}{A B b:Nat}{a1 a2 a3:Option Addr}{n1 c1 n2 c2 n3 c3:Nat}(hd:DivOf w d A B)(bk:Blk w b #[.slice a1 n1 c1,.slice a2 n2 c2,.slice a3 n3 c3] 235) :
  ∀a4 n4 c4 a5 n5 c5 a6 n6 c6,d=.agg #[.slice a4 n4 c4,.slice a5 n5 c5,.slice a6 n6 c6]->DivOf (((w.setCell ⟨b,0,none⟩ (.slice a4 n4 c4)).setCell ⟨b,1,none⟩ (.slice a5 n5 c5)).setCell ⟨b,2,none⟩ (.slice a6 n6 c6)) d A B:=by
 intro a4 n4 c4 a5 n5 c5 a6 n6 c6 e;obtain⟨x1,m1,y1,x2,m2,y2,x3,m3,y3,e2,h1,h2,k,h3,h4⟩:=hd;have no:Xa #[.slice a1 n1 c1,.slice a2 n2 c2,.slice a3 n3 c3]:=Z1 _ _ _ (fun _ h=>by cases h) (fun _ h=>by cases h) (fun _ h=>by cases h);refine⟨x1,m1,y1,x2,m2,y2,x3,m3,y3,e2,?_,?_,k,?_,h4⟩
 ·exact WSl.set3 h1 bk no _ _ _ (fun _ h=>by cases h) (fun _ h=>by cases h)
 ·exact WSl.set3 h2 bk no _ _ _ (fun _ h=>by cases h) (fun _ h=>by cases h)
 ·exact WSl.set3 h3 bk no _ _ _ (fun _ h=>by cases h) (fun _ h=>by cases h)
theorem Ya (w:World)(v u:Value)(l:List Nat)(hv:WSl w v l)(sl:jg l)(ll:l.length<=2000)(h0:je l=0) :
  Calls Tryz.prog 204 #[v,u] w fun e w'=>e=.returned (.int .u64 0)/\Below w.heap.size w w':=by
 have k1:=zJ w v l hv sl (by omega);rw [h0,qy] at k1;have K1:=jd k1;clear k1
 go_enter Tryz.func204,Tryz.ntmps204
 go_wp2_with fail
 refine(ja K1).mono ?_
 rintro e w1 ⟨rfl,b1⟩
 go_wp2;go_ret;exact⟨rfl,b1⟩
theorem jcF (w:World)(v u:Value)(l k:List Nat)(hv:WSl w v l)(hu:WSl w u k)(sl:jg l)(sk:jg k)(ll:l.length<=2000)(lk:k.length<=2000)(h0:je l≠0)(hk:bits (je k)+1024<bits (je l)) :
  Calls Tryz.prog 204 #[v,u] w fun e w'=>e=.returned (.int .u64 9218868437227405312)/\Below w.heap.size w w':=by
 have K1:∀w,WSl w v l->Hid _:=fun w hv=>jd (zJ w v l hv sl (by omega))
 have K2:∀w,WSl w u k->Hid _:=fun w hu=>jd (zJ w u k hu sk (by omega))
 have m1:=Zt h0;have m2:=zh (je l);have m3:=ji sl;have m4:=zh (je k);have m5:=ji sk;have hb:bits (je l)<=64000:=by omega
 clear m2 m3 m4 m5 h0;generalize bits (je l)=p at *;generalize bits (je k)=q at *;have t1:((p:Int) == 0)=false:=beq_false_of_ne (by omega);have t2:(1024:Int)<(p:Int) - (q:Int):=by omega
 go_enter Tryz.func204,Tryz.ntmps204
 go_wp2_with fail
 refine(ja (K1 w hv)).mono ?_
 rintro e w1 ⟨rfl,b1⟩
 go_wp2_with fail
 refine(ja (K1 w1 (hv.below b1))).mono ?_
 rintro e w2 ⟨rfl,b2⟩
 go_wp2_with fail
 refine(ja (K2 w2 ((hu.below b1).below b2))).mono ?_
 rintro e w3 ⟨rfl,b3⟩
 have bw:=b1.trans ((b2.trans (b3.mono b2.size)).mono b1.size);clear b1 b2 b3 hv hu K1 K2;go_wp2;go_ret;exact⟨rfl,bw⟩
theorem jeo (w:World)(v u:Value)(l k:List Nat)(E:Nat)(hv:WSl w v l)(hu:WSl w u k)(sl:jg l)(sk:jg k)(ll:l.length<=2000)(lk:k.length<=2000)(h0:je l≠0)(hk0:je k≠0)(hk:¬bits (je k)+1024<bits (je l))
  (hE:E=bits (je l)+1021 - bits (je k)) (hq:je l*2 ^ (1074 - E) / (je k*2 ^ (E - 1074))<18014398509481984) :
  Calls Tryz.prog 204 #[v,u] w fun e w'=>∃r:Nat,e=.returned (.int .u64 r)/\JE (je l) (je k) r/\Below w.heap.size w w':=by
 have K1:∀w,WSl w v l->Hid (Calls Tryz.prog 203 #[v] w fun e w'=>e=.returned (.int .i64 (bits (je l)))/\Below w.heap.size w w'):=fun w hv=>jd (zJ w v l hv sl (by omega))
 have K2:∀w,WSl w u k->Hid (Calls Tryz.prog 203 #[u] w fun e w'=>e=.returned (.int .i64 (bits (je k)))/\Below w.heap.size w w'):=fun w hu=>jd (zJ w u k hu sk (by omega))
 have K3:∀w,WSl w v l->WSl w u k->Hid (Calls Tryz.prog 216 #[v,u,.int .i64 ((E:Int) - 1074)] w fun e w'=>∃d,e=.returned d/\DivOf w' d (je l*2 ^ (1074 - E)) (je k*2 ^ (E - 1074))/\Below w.heap.size w w'):=fun w hv hu=>by
  have h:=QX w v u l k ((E:Int) - 1074) hv hu sl sk ll lk (by omega) (by omega) hk0;rw [show(-((E:Int) - 1074)).toNat=1074 - E by omega,show((E:Int) - 1074).toNat=E - 1074 by omega] at h;exact jd h
 have K4:∀w,WSl w v l->WSl w u k->Hid (Calls Tryz.prog 216 #[v,u,.int .i64 ((E:Int) - 1074+1)] w fun e w'=>∃d,e=.returned d/\DivOf w' d (je l*2 ^ (1074 - (E+1))) (je k*2 ^ (E+1 - 1074))/\Below w.heap.size w w'):=fun w hv hu=>by
  have h:=QX w v u l k ((E:Int) - 1074+1) hv hu sl sk ll lk (by omega) (by omega) hk0;rw [show(-((E:Int) - 1074+1)).toNat=1074 - (E+1) by omega,show((E:Int) - 1074+1).toNat=E+1 - 1074 by omega] at h;exact jd h
 obtain⟨P1,P2⟩:=jdO (Nat.pos_of_ne_zero hk0) (JW (je l)) (QG h0) (JW (je k)) (QG hk0);rw [<-hE] at P1 P2;have hp1:=Zt h0;have hB:0<je k*2 ^ (E - 1074):=Nat.mul_pos (Nat.pos_of_ne_zero hk0) (Nat.pow_pos (by decide));have hB2:0<je k*2 ^ (E+1 - 1074):=Nat.mul_pos (Nat.pos_of_ne_zero hk0) (Nat.pow_pos (by decide));obtain⟨D1,D2⟩:=jfE (m:=je l) (E:=E) (Nat.pos_of_ne_zero hk0);obtain⟨D3,D4⟩:=jfE (m:=je l) (E:=E+1) (Nat.pos_of_ne_zero hk0);have hbb:bits (je l)<=64000:=by have:=zh (je l);have:=ji sl;omega
 have hbk:bits (je k)<=64000:=by have:=zh (je k);have:=ji sk;omega
 have hm:max ((bits (je l):Int) - (bits (je k):Int) - 53) (-1074)=(E:Int) - 1074:=by omega
 have t1:((bits (je l):Int) == 0)=false:=beq_false_of_ne (by omega);have t2:¬(1024:Int)<(bits (je l):Int) - (bits (je k):Int):=by omega
 have hEb:E<=2045:=by omega
 have HP1:=jd P1;have HP2:=jd P2;have HD1:=jd D1;have HD2:=jd D2;have HD3:=jd D3;have HD4:=jd D4;clear P1 P2 D1 D2 D3 D4 hE;generalize bits (je l)=p at *;generalize bits (je k)=q at *
 go_enter Tryz.func204,Tryz.ntmps204
 go_wp2_with fail
 refine(ja (K1 w hv)).mono ?_
 rintro e w1 ⟨rfl,b1⟩
 go_wp2_with fail
 refine(ja (K1 w1 (hv.below b1))).mono ?_
 rintro e w2 ⟨rfl,b2⟩
 go_wp2_with fail
 refine(ja (K2 w2 ((hu.below b1).below b2))).mono ?_
 rintro e w3 ⟨rfl,b3⟩
 have bw:=b1.trans ((b2.trans (b3.mono b2.size)).mono b1.size);have hv3:=hv.below bw;have hu3:=hu.below bw;have K3':=K3 w3 hv3 hu3;clear b1 b2 b3 K1 K2 K3
 go_wp2_with fail
 refine(ja K3').mono ?_
 rintro e w4 ⟨d,rfl,hd,b4⟩
 have HD:=jd hd;obtain⟨a1,n1,c1,a2,n2,c2,a3,n3,c3,rfl,f1,f2,kk,f3,_⟩:=hd;clear f2 f3 K3'
 go_wp2_with fail
 have bw4:=bw.trans (b4.mono bw.size);have b5:Below w4.heap.size w4 (w4.alloc (.cells #[.slice a1 n1 c1,.slice a2 n2 c2,.slice a3 n3 c3] 235)):=(Below.refl _ _).alloc (Nat.le_refl _) _;have h4:w.heap.size<=w4.heap.size:=bw4.size;have bk5:=jf w4 #[.slice a1 n1 c1,.slice a2 n2 c2,.slice a3 n3 c3] 235;generalize w4.alloc (.cells #[.slice a1 n1 c1,.slice a2 n2 c2,.slice a3 n3 c3] 235)=w5 at *;have k6:=zJ w5 _ _ (f1.below b5) (jj _) (by have:=qC (n:=je l*2 ^ (1074 - E) / (je k*2 ^ (E - 1074))) (k:=2) (Nat.lt_trans hq (by decide));omega);rw [jl] at k6;have K6:=jd k6;clear k6 f1;have bo:=jkQ (je l*2 ^ (1074 - E) / (je k*2 ^ (E - 1074))) 53;have bu:=Jt (n:=je l*2 ^ (1074 - E) / (je k*2 ^ (E - 1074))) (k:=54) hq;refine(ja K6).mono ?_
 rintro e w6 ⟨rfl,b6⟩
 have bw5:=bw4.trans (b5.mono bw4.size);have bw6:=bw5.trans (b6.mono bw5.size);have bk6:=bk5.below b6;have r0:=bk6.cell 0 _ rfl;have r1:=bk6.cell 1 _ rfl;have r2:=bk6.cell 2 _ rfl;have HD6:=jd ((((ja HD).below b5).below b6));have hv6:=hv.below bw6;have hu6:=hu.below bw6;have K7:=jd (jao w6 _ _ _ (ja HD6) (Nat.lt_trans hq (by decide)) hB);clear b4 b5 b6 bk5 bw bw4 bw5 hv3 hu3 HD K6 hv hu
 by_cases g:53<bits (je l*2 ^ (1074 - E) / (je k*2 ^ (E - 1074)))
 ·have g0:=bo.1 g
  have g1:¬je l*2 ^ (1074 - E) / (je k*2 ^ (E - 1074))<9007199254740992:=fun c=>Nat.lt_irrefl _ (Nat.lt_of_lt_of_le c g0)
  have N0:=(ja HP2) (fun c=>g1 ((ja HD1).2 c))
  have N1:=N0;rw [ja HD4] at N1;have q1:=jbT N0.1;rw [ja HD4] at q1;have hq2:=(ja HD3).2 N0.1;have NN:=jd (Zh (Nat.pos_of_ne_zero hk0) N1);have t3:(53:Int)<((bits (je l*2 ^ (1074 - E) / (je k*2 ^ (E - 1074))):Nat):Int):=by omega
  have K8:=K4 w6 hv6 hu6;have K9:∀w d,DivOf w d (je l*2 ^ (1074 - (E+1))) (je k*2 ^ (E+1 - 1074))->Hid (Calls Tryz.prog 223 #[d] w fun e w'=>e=.returned (.int .u64 (rnd (je l*2 ^ (1074 - (E+1))) (je k*2 ^ (E+1 - 1074))))/\Below w.heap.size w w'):=fun w d hd=>jd (jao w d _ _ hd (Nat.lt_trans hq2 (by decide)) hB2)
  clear HP1 HP2 HD1 HD2 HD3 HD4 g g0 g1 N0 N1 bo hq hq2 hB hB2 K4 K7;generalize rnd (je l*2 ^ (1074 - (E+1))) (je k*2 ^ (E+1 - 1074))=R at *;generalize bits (je l*2 ^ (1074 - E) / (je k*2 ^ (E - 1074)))=bq at *
  go_wp2_with fail
  refine(ja K8).mono ?_
  rintro e w7 ⟨d,rfl,hd,b7⟩
  have bk7:=bk6.below b7;have bw7:=bw6.trans (b7.mono bw6.size);have hd8:=jd (YD (b:=w4.heap.size) hd bk7);have bw8:∀x y z,Hid _:=fun x y z=>jd (zZ (b:=w4.heap.size) bw7 h4 x y z)
  obtain⟨a4,n4,c4,a5,n5,c5,a6,n6,c6,rfl,f4,_⟩:=hd;have s0:=bk7.cell 0 _ rfl;have s1:=bk7.cell 1 _ rfl;have s2:=bk7.cell 2 _ rfl;have z0:=bk7.froz 0;have z1:=bk7.froz 1;have z2:=bk7.froz 2;have F:=bk7.set3 (.slice a4 n4 c4) (.slice a5 n5 c5) (.slice a6 n6 c6);have F0:=F.cell 0 _ rfl;have F1:=F.cell 1 _ rfl;have F2:=F.cell 2 _ rfl;clear r0 r1 r2 b7 bw6 bk6 bk7 K8 f4 F
  go_wp2_with fail
  have BB:=ja (bw8 (.slice a4 n4 c4) (.slice a5 n5 c5) (.slice a6 n6 c6));have hd9:=ja hd8 _ _ _ _ _ _ _ _ _ rfl;refine(ja (K9 _ _ hd9)).mono ?_
  rintro e w9 ⟨rfl,b9⟩
  have bw9:=BB.trans (b9.mono BB.size);clear b9 BB hd9 hd8 bw8 F0 F1 F2 s0 s1 s2 z0 z1 z2 K9 bw7;go_wp2;go_ret;refine⟨_,?_,ja NN,bw9⟩;exact jio _ _ (by rw [jfT,Int.natCast_add,show(E:Int) - 1074+1+1074=(E:Int)+((1:Nat):Int) by omega])
 ·have g1:je l*2 ^ (1074 - E) / (je k*2 ^ (E - 1074))<9007199254740992:=Nat.lt_of_not_le (fun c=>g (bo.2 c))
  have N1:=(ja HP1) ((ja HD1).1 g1)
  rw [ja HD2] at N1;have q1:=jbT ((ja HD1).1 g1);rw [ja HD2] at q1;have NN:=jd (Zh (Nat.pos_of_ne_zero hk0) N1);have t3:¬(53:Int)<((bits (je l*2 ^ (1074 - E) / (je k*2 ^ (E - 1074))):Nat):Int):=by omega
  clear HP1 HP2 HD1 HD2 HD3 HD4 g g1 N1 bo hq hB hB2;generalize rnd (je l*2 ^ (1074 - E)) (je k*2 ^ (E - 1074))=R at *;generalize bits (je l*2 ^ (1074 - E) / (je k*2 ^ (E - 1074)))=bq at *
  go_wp2_with fail
  refine(ja K7).mono ?_
  rintro e w7 ⟨rfl,b7⟩
  have bw7:=bw6.trans (b7.mono bw6.size);clear r0 r1 r2 b7 bw6;go_wp2;go_ret;refine⟨_,?_,ja NN,bw7⟩;exact jio _ _ (by rw [jfT])
theorem jjy {m n E:Nat}(hn:0<n)(h:m*T74<n*2 ^ E*18014398509481984):m*2 ^ (1074 - E) / (n*2 ^ (E - 1074))<18014398509481984:=by
 obtain⟨T,hT,e1,e2⟩:=jbN (m:=m) (n:=n) (E:=E);have hB:0<n*2 ^ (E - 1074):=Nat.mul_pos hn (Nat.pow_pos (by decide));rw [e1,e2,Nat.mul_assoc (n*2 ^ (E - 1074)) T,Nat.mul_comm T,<-Nat.mul_assoc,Nat.mul_lt_mul_right hT] at h;rw [Nat.div_lt_iff_lt_mul hB,Nat.mul_comm 18014398509481984];exact h
theorem XP (w:World)(v u:Value)(l k:List Nat)(hv:WSl w v l)(hu:WSl w u k)(sl:jg l)(sk:jg k)(ll:l.length<=2000)(lk:k.length<=2000)(h0:je l≠0)(hk0:je k≠0) :
  Calls Tryz.prog 204 #[v,u] w fun e w'=>∃r:Nat,e=.returned (.int .u64 r)/\JE (je l) (je k) r/\Below w.heap.size w w':=by
 by_cases c:bits (je k)+1024<bits (je l)
 ·refine(jcF w v u l k hv hu sl sk ll lk h0 c).mono ?_
  rintro e w' ⟨rfl,b⟩
  exact⟨9218868437227405312,rfl,jhf (Nat.pos_of_ne_zero hk0) (JW _) (QG h0) (JW _) (QG hk0) c,b⟩
 ·exact jeo w v u l k _ hv hu sl sk ll lk h0 hk0 c rfl (jjy (Nat.pos_of_ne_zero hk0) (jdM (JW _) (QG hk0)))
theorem Jf {n:Nat}(h:n<=1000):(jh (10 ^ n)).length<=1001:=by have:=XI (b:=10) (e:=n) (by decide);omega
theorem jhH (w:World)(v:Value)(l:List Nat)(N:Nat)(hv:WSl w v l)(sl:jg l)(ll:l.length<=45)(h0:je l≠0)(hb:bits (je l)<=1280)(hN1:1<=N)(hN:N<=1000) :
  Calls Tryz.prog 176 #[v,.int .i64 (-(N:Int))] w fun e w'=>∃r:Nat,e=.returned (.tuple #[.int .u64 r,.int .i64 0])/\JE (je l) (10 ^ N) r/\Below w.heap.size w w':=by
 have K1:=jd (zJ w v l hv sl (by omega));have K2:∀w,Hid _:=fun w=>jd (JA w N hN)
 have K3:∀w u,WSl w v l->WBig w u (10 ^ N)->Hid (Calls Tryz.prog 204 #[v,u] w fun e w'=>∃r:Nat,e=.returned (.int .u64 r)/\JE (je l) (10 ^ N) r/\Below w.heap.size w w'):=fun w u hv hu=>by
  have h:=XP w v u l (jh (10 ^ N)) hv hu sl (jj _) (by omega) (by have:=Jf hN;omega) h0 (by rw [jl];exact Nat.ne_of_gt (Nat.pow_pos (by decide)));rw [jl] at h;exact jd h
 generalize 10 ^ N=T at *;have i1:¬(1280:Int)<(bits (je l):Int):=by omega
 have i2:¬-(N:Int) < -1000:=by omega
 have i3:¬(1000:Int) < -(N:Int):=by omega
 have i4 : -(N:Int)<0:=by omega
 generalize bits (je l)=m at *
 go_enter Tryz.func176,Tryz.ntmps176
 go_wp2_with fail
 refine(ja K1).mono ?_
 rintro e w1 ⟨rfl,b1⟩
 go_wp2_with fail
 refine(ja (K2 w1)).mono ?_
 rintro e w2 ⟨v2,rfl,h2,b2⟩
 have bw2:=b1.trans (b2.mono b1.size);have K4:=K3 w2 v2 (hv.below bw2) h2;clear K1 K2 K3 b1 b2 hv h2
 go_wp2_with fail
 refine(ja K4).mono ?_
 rintro e w3 ⟨r,rfl,hr,b3⟩
 have HR:=jd hr;have bw3:=bw2.trans (b3.mono bw2.size);clear hr b3 bw2 K4;go_wp2;go_ret2;exact⟨r,rfl,ja HR,bw3⟩
theorem jnc (w:World)(v:Value)(l:List Nat)(N:Nat)(hv:WSl w v l)(sl:jg l)(ll:l.length<=45)(h0:je l≠0)(hb:bits (je l)<=1280)(hN:N<=1000) :
  Calls Tryz.prog 176 #[v,.int .i64 N] w fun e w'=>∃r:Nat,e=.returned (.tuple #[.int .u64 r,.int .i64 0])/\JE (je l*10 ^ N) 1 r/\Below w.heap.size w w':=by
 have K1:=jd (zJ w v l hv sl (by omega));have K2:∀w,Hid _:=fun w=>jd (JA w N hN)
 have hT:10 ^ N≠0:=Nat.ne_of_gt (Nat.pow_pos (by decide));have hTl:=Jf hN;have hPl:(jh (je l*10 ^ N)).length<=2000:=by have:=Jb (je l) (10 ^ N);have:=ji sl;omega
 have K3:∀w u,WSl w v l->WBig w u (10 ^ N)->Hid (Calls Tryz.prog 206 #[v,u] w fun e w'=>∃v',e=.returned v'/\WBig w' v' (je l*10 ^ N)/\Below w.heap.size w w'):=fun w u hv hu=>by
  have h:=Ye w v u l (jh (10 ^ N)) hv hu sl (jj _) (by omega) (by omega);rw [jl] at h;exact jd h
 have K5:∀w v u,WBig w v (je l*10 ^ N)->WSl w u [1]->Hid (Calls Tryz.prog 204 #[v,u] w fun e w'=>∃r:Nat,e=.returned (.int .u64 r)/\JE (je l*10 ^ N) 1 r/\Below w.heap.size w w'):=fun w v u hv hu=>by
  have h:=XP w v u (jh (je l*10 ^ N)) [1] hv hu (jj _) (qA (by decide)) hPl (by simp) (by rw [jl];exact Nat.mul_ne_zero h0 hT) (by rw [qG];decide);rw [jl,qG] at h;exact jd h
 clear hT hTl hPl;generalize hP:je l*10 ^ N=P at *;clear hP;generalize 10 ^ N=T at *;have i1:¬(1280:Int)<(bits (je l):Int):=by omega
 have i2:¬(N:Int) < -1000:=by omega
 have i3:¬(1000:Int)<(N:Int):=by omega
 have i4:¬(N:Int)<0:=by omega
 generalize bits (je l)=m at *
 go_enter Tryz.func176,Tryz.ntmps176
 go_wp2_with fail
 refine(ja K1).mono ?_
 rintro e w1 ⟨rfl,b1⟩
 go_wp2_with fail
 refine(ja (K2 w1)).mono ?_
 rintro e w2 ⟨v2,rfl,h2,b2⟩
 have bw2:=b1.trans (b2.mono b1.size);have K4:=K3 w2 v2 (hv.below bw2) h2;clear K1 K2 K3 b1 b2 hv h2
 go_wp2_with fail
 refine(ja K4).mono ?_
 rintro e w3 ⟨v3,rfl,h3,b3⟩
 have bw3:=bw2.trans (b3.mono bw2.size);have b4:Below w3.heap.size w3 (w3.alloc (.cells #[.int .u32 1] 130)):=(Below.refl _ _).alloc (Nat.le_refl _) _;have K6:=K5 _ _ _ (h3.below b4) ⟨_,1,rfl,by simp,QN w3 1⟩;have bw4:=bw3.trans (b4.mono bw3.size);clear K4 K5 b3 bw2 h3 b4 bw3
 go_wp2_with fail
 refine(ja K6).mono ?_
 rintro e w5 ⟨r,rfl,hr,b5⟩
 have HR:=jd hr;have bw5:=bw4.trans (b5.mono bw4.size);clear hr b5 bw4 K6;go_wp2;go_ret2;exact⟨r,rfl,ja HR,bw5⟩
theorem jcv (w:World)(v:Value)(l:List Nat)(N:Nat)(hv:WSl w v l)(sl:jg l)(ll:l.length<=45)(h0:je l=0)(hN1:1<=N)(hN:N<=1000) :
  Calls Tryz.prog 176 #[v,.int .i64 (-(N:Int))] w fun e w'=>e=.returned (.tuple #[.int .u64 0,.int .i64 0])/\Below w.heap.size w w':=by
 have K1:=jd (zJ w v l hv sl (by omega));have K2:∀w,Hid _:=fun w=>jd (JA w N hN)
 have K3:∀w u,WSl w v l->WBig w u (10 ^ N)->Hid (Calls Tryz.prog 204 #[v,u] w fun e w'=>e=.returned (.int .u64 0)/\Below w.heap.size w w'):=fun w u hv hu=>jd (Ya w v u l hv sl (by omega) h0)
 have hb:bits (je l)<=1280:=by rw [h0,qy];omega
 generalize 10 ^ N=T at *;have i1:¬(1280:Int)<(bits (je l):Int):=by omega
 have i2:¬-(N:Int) < -1000:=by omega
 have i3:¬(1000:Int) < -(N:Int):=by omega
 have i4 : -(N:Int)<0:=by omega
 generalize bits (je l)=m at *
 go_enter Tryz.func176,Tryz.ntmps176
 go_wp2_with fail
 refine(ja K1).mono ?_
 rintro e w1 ⟨rfl,b1⟩
 go_wp2_with fail
 refine(ja (K2 w1)).mono ?_
 rintro e w2 ⟨v2,rfl,h2,b2⟩
 have bw2:=b1.trans (b2.mono b1.size);have K4:=K3 w2 v2 (hv.below bw2) h2;clear K1 K2 K3 b1 b2 hv h2
 go_wp2_with fail
 refine(ja K4).mono ?_
 rintro e w3 ⟨rfl,b3⟩
 have bw3:=bw2.trans (b3.mono bw2.size);clear b3 bw2 K4;go_wp2;go_ret2;exact⟨rfl,bw3⟩
theorem jfa (w:World)(v:Value)(l:List Nat)(N:Nat)(hv:WSl w v l)(sl:jg l)(ll:l.length<=45)(h0:je l=0)(hN:N<=1000) :
  Calls Tryz.prog 176 #[v,.int .i64 N] w fun e w'=>e=.returned (.tuple #[.int .u64 0,.int .i64 0])/\Below w.heap.size w w':=by
 have K1:=jd (zJ w v l hv sl (by omega));have K2:∀w,Hid _:=fun w=>jd (JA w N hN)
 have hT:10 ^ N≠0:=Nat.ne_of_gt (Nat.pow_pos (by decide));have hTl:=Jf hN;have hPl:(jh (je l*10 ^ N)).length<=2000:=by have:=Jb (je l) (10 ^ N);have:=ji sl;omega
 have K3:∀w u,WSl w v l->WBig w u (10 ^ N)->Hid (Calls Tryz.prog 206 #[v,u] w fun e w'=>∃v',e=.returned v'/\WBig w' v' (je l*10 ^ N)/\Below w.heap.size w w'):=fun w u hv hu=>by
  have h:=Ye w v u l (jh (10 ^ N)) hv hu sl (jj _) (by omega) (by omega);rw [jl] at h;exact jd h
 have K5:∀w v u,WBig w v (je l*10 ^ N)->WSl w u [1]->Hid (Calls Tryz.prog 204 #[v,u] w fun e w'=>e=.returned (.int .u64 0)/\Below w.heap.size w w'):=fun w v u hv hu=>jd (Ya w v u (jh (je l*10 ^ N)) hv (jj _) hPl (by rw [jl,h0,Nat.zero_mul]))
 have hb:bits (je l)<=1280:=by rw [h0,qy];omega
 clear hT hTl hPl;generalize hP:je l*10 ^ N=P at *;clear hP;generalize 10 ^ N=T at *;have i1:¬(1280:Int)<(bits (je l):Int):=by omega
 have i2:¬(N:Int) < -1000:=by omega
 have i3:¬(1000:Int)<(N:Int):=by omega
 have i4:¬(N:Int)<0:=by omega
 generalize bits (je l)=m at *
 go_enter Tryz.func176,Tryz.ntmps176
 go_wp2_with fail
 refine(ja K1).mono ?_
 rintro e w1 ⟨rfl,b1⟩
 go_wp2_with fail
 refine(ja (K2 w1)).mono ?_
 rintro e w2 ⟨v2,rfl,h2,b2⟩
 have bw2:=b1.trans (b2.mono b1.size);have K4:=K3 w2 v2 (hv.below bw2) h2;clear K1 K2 K3 b1 b2 hv h2
 go_wp2_with fail
 refine(ja K4).mono ?_
 rintro e w3 ⟨v3,rfl,h3,b3⟩
 have bw3:=bw2.trans (b3.mono bw2.size);have b4:Below w3.heap.size w3 (w3.alloc (.cells #[.int .u32 1] 130)):=(Below.refl _ _).alloc (Nat.le_refl _) _;have K6:=K5 _ _ _ (h3.below b4) ⟨_,1,rfl,by simp,QN w3 1⟩;have bw4:=bw3.trans (b4.mono bw3.size);clear K4 K5 b3 bw2 h3 b4 bw3
 go_wp2_with fail
 refine(ja K6).mono ?_
 rintro e w5 ⟨rfl,b5⟩
 have bw5:=bw4.trans (b5.mono bw4.size);clear b5 bw4 K6;go_wp2;go_ret2;exact⟨rfl,bw5⟩
theorem jkD (w:World)(v:Value)(l:List Nat)(x:Int)(hv:WSl w v l)(sl:jg l)(ll:l.length<=45)(h0:je l=0)(hx1 : -1000<=x)(hx2:x<=1000) :
  Calls Tryz.prog 176 #[v,.int .i64 x] w fun e w'=>e=.returned (.tuple #[.int .u64 0,.int .i64 0])/\Below w.heap.size w w':=by
 by_cases c:0<=x
 ·obtain⟨N,rfl⟩:∃N:Nat,x=N:=⟨x.toNat,by omega⟩
  exact jfa w v l N hv sl ll h0 (by omega)
 ·obtain⟨N,rfl⟩:∃N:Nat,x = -(N:Int):=⟨(-x).toNat,by omega⟩
  exact jcv w v l N hv sl ll h0 (by omega) (by omega)
open Go.RowKit
theorem jbU (x:Nat)(hx:x<18446744073709551616):Go.bits .and .u64 (x:Int) 2047=((x % 2048:Nat):Int):=by
 have h:=bits_mask .u64 64 (by decide) Jc 11 (by decide) (x:Int) (by omega) (by omega);have e:((2:Int) ^ 11 - 1)=2047:=by decide
 rw [e] at h;rw [h];omega
theorem jbl (x:Nat)(hx:x<18446744073709551616):Go.bits .and .u64 (x:Int) 4503599627370495=((x % 4503599627370496:Nat):Int):=by
 have h:=bits_mask .u64 64 (by decide) Jc 52 (by decide) (x:Int) (by omega) (by omega);have e:((2:Int) ^ 52 - 1)=4503599627370495:=by decide
 rw [e] at h;rw [h];omega
theorem YG (x:Nat)(hx:x<4503599627370496):Go.bits .or .u64 4503599627370496 (x:Int)=((x+4503599627370496:Nat):Int):=by
 have h:=bits_join .u64 64 (by decide) Jc 52 4503599627370496 (x:Int) (by omega) (by omega) (by omega) (by omega) (by omega) (by omega);rw [h];omega
theorem jer (x y:Value)(a b:Int)(h:a=b):Ending.returned (.tuple #[x,.int .i64 a,y])=Ending.returned (.tuple #[x,.int .i64 b,y]):=by rw [h]
theorem JJ (w:World)(b:Nat)(hb:b<18446744073709551616) :
  Calls Tryz.prog 99 #[.int .u64 b] w fun e w'=>e=.returned (.tuple #[.int .u64 (jH b).1,.int .i64 (jH b).2.1,.int .i64 (jH b).2.2])/\w'=w:=by
 obtain⟨s,hs⟩:∃s,s=b / 4503599627370496:=⟨_,rfl⟩
 have n0:(b:Int) / 4503599627370496=(s:Int):=by omega
 have hs2:s<18446744073709551616:=by omega
 have n1:=jbl b hb;have n2:=jbU s hs2;have h1:b % 4503599627370496<4503599627370496:=by omega
 have h2:s % 2048<2048:=by omega
 have n3:=YG _ h1;unfold jH;rw [<-hs];clear hs hs2;generalize b % 4503599627370496=f at *;generalize s % 2048=e at *
 by_cases c1:e=2047
 ·rw [if_pos c1]
  subst c1
  by_cases c2:f=0
  ·rw [if_pos c2]
   subst c2
   go_enter Tryz.func99,Tryz.ntmps99
   go_wp2
   go_ret3
   exact⟨rfl,rfl⟩
  ·rw [if_neg c2]
   have c3:((f:Int) == 0)=false:=beq_false_of_ne (by omega)
   go_enter Tryz.func99,Tryz.ntmps99
   go_wp2
   go_ret3
   exact⟨rfl,rfl⟩
 ·rw [if_neg c1]
  have c4:((e:Int) == 2047)=false:=beq_false_of_ne (by omega)
  by_cases c2:e=0
  ·rw [if_pos c2]
   subst c2
   go_enter Tryz.func99,Tryz.ntmps99
   go_wp2
   go_ret3
   exact⟨rfl,rfl⟩
  ·rw [if_neg c2]
   have c3:((e:Int) == 0)=false:=beq_false_of_ne (by omega)
   go_enter Tryz.func99,Tryz.ntmps99
   go_wp2
   go_ret3
   refine⟨?_,rfl⟩;exact jer _ _ _ _ (by omega)
open Go.RowKit
def zA (m:Nat)(x:Int)(r:Nat):Prop:=(m=0/\r=0)\/(m≠0/\JE (m*10 ^ x.toNat) (10 ^ (-x).toNat) r)
theorem jeq {a b c r:Nat}(hb:0<b)(hc:0<c)(h:JE (a*c) (b*c) r):JE a b r:=by
 obtain⟨s,hs⟩:=Q5 a b hb;have e:=jae h (jbI hc hs);rw [e];exact hs
theorem jg4 {a b c d r:Nat}(hb:0<b)(hd:0<d)(e:a*d=c*b)(h:JE a b r):JE c d r:=by
 have h1:=jbI hd h;rw [e,Nat.mul_comm b d] at h1;exact jeq hd hb h1
theorem p10 (n:Nat):0<(10:Nat) ^ n:=Nat.pow_pos (by decide)
theorem QC {m r s:Nat}{x:Int}(h:zA m x r)(k:zA m x s):r=s:=by
 rcases h with ⟨a,b⟩ | ⟨a,b⟩<;>rcases k with ⟨c,d⟩ | ⟨c,d⟩
 ·rw [b,d]
 ·exact absurd a c
 ·exact absurd c a
 ·exact jae b d
theorem jft {m r k:Nat}{x:Int}(h:zA m x r):zA (m*10 ^ k) (x - k) r:=by
 rcases h with ⟨a,b⟩ | ⟨a,b⟩
 ·exact .inl ⟨by rw [a,Nat.zero_mul],b⟩
 ·refine .inr ⟨Nat.mul_ne_zero a (Nat.ne_of_gt (p10 k)),jg4 (p10 _) (p10 _) ?_ b⟩
  rw [Nat.mul_assoc,<-Nat.pow_add,Nat.mul_assoc,<-Nat.pow_add,Nat.mul_assoc,<-Nat.pow_add]
  congr 2
  omega
theorem Zx {m r:Nat}{x:Int}(h:zA m x r):r<=9218868437227405312:=by
 rcases h with ⟨a,b⟩ | ⟨a,b⟩
 ·omega
 ·exact(ZJ (p10 _) b).1
theorem jkM (w:World)(v:Value)(l:List Nat)(x:Int)(hv:WSl w v l)(sl:jg l)(ll:l.length<=45)(hb:bits (je l)<=1280)(hx1 : -1000<=x)(hx2:x<=1000) :
  Calls Tryz.prog 176 #[v,.int .i64 x] w fun e w'=>∃r:Nat,e=.returned (.tuple #[.int .u64 r,.int .i64 0])/\zA (je l) x r/\Below w.heap.size w w':=by
 by_cases h0:je l=0
 ·refine(jkD w v l x hv sl ll h0 hx1 hx2).mono ?_
  rintro e w' ⟨rfl,b⟩
  exact⟨0,rfl,.inl ⟨h0,rfl⟩,b⟩
 ·by_cases c:0<=x
  ·obtain⟨N,rfl⟩:∃N:Nat,x=N:=⟨x.toNat,by omega⟩
   refine(jnc w v l N hv sl ll h0 hb (by omega)).mono ?_
   rintro e w' ⟨r,rfl,hr,b⟩
   refine⟨r,rfl,.inr ⟨h0,?_⟩,b⟩;rw [show((N:Int)).toNat=N by omega,show(-(N:Int)).toNat=0 by omega,Nat.pow_zero];exact hr
  ·obtain⟨N,rfl⟩:∃N:Nat,x = -(N:Int):=⟨(-x).toNat,by omega⟩
   refine(jhH w v l N hv sl ll h0 hb (by omega) (by omega)).mono ?_
   rintro e w' ⟨r,rfl,hr,b⟩
   refine⟨r,rfl,.inr ⟨h0,?_⟩,b⟩;rw [show(-(N:Int)).toNat=0 by omega,show(-(-(N:Int))).toNat=N by omega,Nat.pow_zero,Nat.mul_one];exact hr
open Go.RowKit
def jkY:Nat:=970
theorem jmw:mid 9218868437227405311=(18014398509481983)*2 ^ jkY*T76:=by
 unfold mid qh step;rw [if_neg (by decide)];have e1:4*(9218868437227405311 % 4503599627370496+4503599627370496)+2=2*18014398509481983:=by decide
 have e2:9218868437227405311 / 4503599627370496 - 1=2045:=by decide
 have e3:(2045:Nat)=jkY+(c74+1):=rfl;rw [e1,e2,e3,Nat.pow_add,Nat.pow_succ];unfold T76 T74;generalize 2 ^ jkY=A;generalize 2 ^ c74=B;rw [Nat.mul_comm 2 18014398509481983,Nat.mul_assoc,Nat.mul_assoc,Nat.mul_left_comm 2 A,Nat.mul_comm B 2,<-Nat.mul_assoc 2 2 B]
theorem jpb:T76=4*2 ^ c74:=by unfold T76 T74;exact Eq.refl _
open Go.RowKit
def jgt (l:List UInt8):Prop:=∀b r,l=b :: r->¬(48<=b.toNat/\b.toNat<=57)
def JT (l:List UInt8):Prop:=l≠[]/\jX l
theorem jfl:jgt []:=fun _ _ h=>by cases h
theorem YA {b:UInt8}{r:List UInt8}(h:¬(48<=b.toNat/\b.toNat<=57)):jgt (b :: r):=fun b' r' e=>by
 injection e with e1 e2;rw [<-e1];exact h
theorem zp {b:UInt8}{l:List UInt8}:jX (b :: l)↔(48<=b.toNat/\b.toNat<=57)/\jX l:=by
 unfold jX
 constructor
 ·intro h;exact⟨h b (by simp),fun x hx=>h x (by simp [hx])⟩
 ·rintro⟨h1,h2⟩ x hx
  rcases List.mem_cons.1 hx with rfl | h
  ·exact h1
  ·exact h2 x h
theorem QR:∀{W R W' R':List UInt8},W++R=W'++R'->jX W->jX W'->jgt R->jgt R'->W=W'/\R=R':=by
 intro W
 induction W with
 | nil=>
  intro R W' R' h _ d' n _;cases W' with
  | nil=>exact⟨rfl,h⟩
  | cons b r=>exact absurd (zp.1 d').1 (n b (r++R') h)
 | cons a W ih=>
  intro R W' R' h d d' n n';cases W' with
  | nil=>exact absurd (zp.1 d).1 (n' a (W++R) h.symm)
  | cons b r=>
   injection h with h1 h2;subst h1;obtain⟨e1,e2⟩:=ih h2 (zp.1 d).2 (zp.1 d').2 n n';exact⟨by rw [e1],e2⟩
def Exp (Z:List UInt8)(x:Int):Prop:=(∃X,Z=45 :: X/\JT X/\x = -((dec X:Nat):Int))\/(∃X,Z=43 :: X/\JT X/\x=((dec X:Nat):Int))\/(JT Z/\x=((dec Z:Nat):Int))
def Rest (R P:List UInt8)(x:Int):Prop:=(R=46 :: P/\JT P/\x=0)\/(∃Z,R=46 :: (P++101 :: Z)/\JT P/\Exp Z x)\/(∃Z,R=101 :: Z/\P=[]/\Exp Z x)
def Num (t W P:List UInt8)(x:Int):Prop:=∃R,t=W++R/\JT W/\(W.length=1\/W.getD 0 0≠48)/\Rest R P x
theorem jde {R P:List UInt8}{x:Int}(h:Rest R P x):jgt R:=by
 rcases h with ⟨rfl,_⟩ | ⟨Z,rfl,_⟩ | ⟨Z,rfl,_⟩<;>exact YA (by decide)
theorem jj7 {t W R W' P:List UInt8}{x:Int}(e:t=W++R)(d:jX W)(n:jgt R)(h:Num t W' P x):W'=W/\Rest R P x:=by
 obtain⟨R',e',a,_,r⟩:=h;obtain⟨h1,h2⟩:=QR (e.symm.trans e') d a.2 n (jde r);subst h1 h2;exact⟨rfl,r⟩
theorem Xf {Z:List UInt8}{x:Int}(h:Exp Z x)(c:∀X,Z≠45 :: X/\Z≠43 :: X):JT Z/\x=((dec Z:Nat):Int):=by
 rcases h with ⟨X,e,_⟩ | ⟨X,e,_⟩ | h
 ·exact absurd e (c X).1
 ·exact absurd e (c X).2
 ·exact h
theorem Yt {X:List UInt8}{x:Int}(h:Exp (45 :: X) x):JT X/\x = -((dec X:Nat):Int):=by
 rcases h with ⟨Y,e,h⟩ | ⟨Y,e,_⟩ | ⟨h,_⟩
 ·injection e with _ e2;subst e2;exact h
 ·injection e with e1 _;exact absurd e1 (by decide)
 ·exact absurd (zp.1 h.2).1 (by decide)
theorem jbr {X:List UInt8}{x:Int}(h:Exp (43 :: X) x):JT X/\x=((dec X:Nat):Int):=by
 rcases h with ⟨Y,e,_⟩ | ⟨Y,e,h⟩ | ⟨h,_⟩
 ·injection e with e1 _;exact absurd e1 (by decide)
 ·injection e with _ e2;subst e2;exact h
 ·exact absurd (zp.1 h.2).1 (by decide)
theorem jbX {Z:List UInt8}{x y:Int}(h:Exp Z x)(k:Exp Z y):x=y:=by
 by_cases c1:∃X,Z=45 :: X
 ·obtain⟨X,rfl⟩:=c1
  rw [(Yt h).2,(Yt k).2]
 ·by_cases c2:∃X,Z=43 :: X
  ·obtain⟨X,rfl⟩:=c2
   rw [(jbr h).2,(jbr k).2]
  ·have c:∀X,Z≠45 :: X/\Z≠43 :: X:=fun X=>⟨fun e=>c1 ⟨X,e⟩,fun e=>c2 ⟨X,e⟩⟩
   rw [(Xf h c).2,(Xf k c).2]
theorem jb7 {P R P':List UInt8}{x:Int}(d:jX P)(n:jgt R)(h:Rest (46 :: (P++R)) P' x):P'=P/\P≠[]/\((R=[]/\x=0)\/(∃Z,R=101 :: Z/\Exp Z x)):=by
 rcases h with ⟨e,a,rfl⟩ | ⟨Z,e,a,ex⟩ | ⟨Z,e,_⟩
 ·injection e with _ e2
  have e3:P++R=P'++[]:=by rw [e2,List.append_nil]
  obtain⟨h1,h2⟩:=QR e3 d a.2 n jfl;subst h1;exact⟨rfl,a.1,.inl ⟨h2,rfl⟩⟩
 ·injection e with _ e2
  obtain⟨h1,h2⟩:=QR e2 d a.2 n (YA (by decide));subst h1;exact⟨rfl,a.1,.inr ⟨Z,h2,ex⟩⟩
 ·injection e with e1 _;exact absurd e1 (by decide)
theorem jfW {Z P:List UInt8}{x:Int}(h:Rest (101 :: Z) P x):P=[]/\Exp Z x:=by
 rcases h with ⟨e,_⟩ | ⟨Z',e,_⟩ | ⟨Z',e,p,ex⟩
 ·injection e with e1 _;exact absurd e1 (by decide)
 ·injection e with e1 _;exact absurd e1 (by decide)
 ·injection e with _ e2;subst e2;exact⟨p,ex⟩
theorem jhT {b:UInt8}{r P:List UInt8}{x:Int}(h1:b≠46)(h2:b≠101)(h:Rest (b :: r) P x):False:=by
 rcases h with ⟨e,_⟩ | ⟨Z',e,_⟩ | ⟨Z',e,_⟩
 ·injection e with e1 _;exact h1 e1
 ·injection e with e1 _;exact h1 e1
 ·injection e with e1 _;exact h2 e1
theorem jmc {P:List UInt8}{x:Int}(h:Rest [] P x):False:=by
 rcases h with ⟨e,_⟩ | ⟨Z',e,_⟩ | ⟨Z',e,_⟩<;>cases e
theorem jjv:∀(R:List UInt8),∃P S,R=P++S/\jX P/\jgt S:=by
 intro R
 induction R with
 | nil=>exact⟨[],[],rfl,fun b hb=>(by cases hb),jfl⟩
 | cons b r ih=>
  by_cases c:48<=b.toNat/\b.toNat<=57
  ·obtain⟨P,S,e,d,n⟩:=ih
   exact⟨b :: P,S,by rw [e];rfl,zp.2 ⟨c,d⟩,n⟩
  ·exact⟨[],b :: r,rfl,fun b hb=>(by cases hb),YA c⟩
theorem jf2 {R P P':List UInt8}{x y:Int}(h:Rest R P x)(k:Rest R P' y):P=P'/\x=y:=by
 cases R with
 | nil=>exact absurd h jmc
 | cons b r=>
  by_cases c1:b=46
  ·subst c1
   obtain⟨Q,S,rfl,d,n⟩:=jjv r;obtain⟨a1,_,a2⟩:=jb7 d n h;obtain⟨b1,_,b2⟩:=jb7 d n k;refine⟨by rw [a1,b1],?_⟩
   rcases a2 with ⟨s,e⟩ | ⟨Z,s,e⟩<;>rcases b2 with ⟨s',e'⟩ | ⟨Z',s',e'⟩
   ·rw [e,e']
   ·rw [s] at s';cases s'
   ·rw [s'] at s;cases s
   ·rw [s] at s'
    injection s' with _ s2;subst s2;exact jbX e e'
  ·by_cases c2:b=101
   ·subst c2
    obtain⟨a1,a2⟩:=jfW h;obtain⟨b1,b2⟩:=jfW k;exact⟨by rw [a1,b1],jbX a2 b2⟩
   ·exact absurd h (jhT c1 c2)
theorem jhg {t W P W' P':List UInt8}{x y:Int}(h:Num t W P x)(k:Num t W' P' y):W=W'/\P=P'/\x=y:=by
 obtain⟨R,e,a,_,r⟩:=h;obtain⟨h1,h2⟩:=jj7 e a.2 (jde r) k;obtain⟨h3,h4⟩:=jf2 r h2;exact⟨h1.symm,h3,h4⟩
def Res (t:List UInt8)(sg v:Nat)(e:Int):Prop :=
 (∃W P x r,Num t W P x/\zA (dec (W++P)) (x - (P.length:Int)) r/\((r=9218868437227405312/\v=0/\e=7)\/(r≠9218868437227405312/\v=sg+r/\e=0)))\/((¬∃W P x,Num t W P x)/\v=0/\e=4)
theorem jh6 {t:List UInt8}{sg v v':Nat}{e e':Int}(h:Res t sg v e)(k:Res t sg v' e'):v=v'/\e=e':=by
 rcases h with ⟨W,P,x,r,n,d,c⟩ | ⟨n,a,b⟩<;>rcases k with ⟨W',P',x',r',n',d',c'⟩ | ⟨n',a',b'⟩
 ·obtain⟨h1,h2,h3⟩:=jhg n n'
  subst h1 h2 h3;have hr:=QC d d';subst hr
  rcases c with ⟨c1,c2,c3⟩ | ⟨c1,c2,c3⟩<;>rcases c' with ⟨d1,d2,d3⟩ | ⟨d1,d2,d3⟩
  ·exact⟨by rw [c2,d2],by rw [c3,d3]⟩
  ·exact absurd c1 d1
  ·exact absurd d1 c1
  ·exact⟨by rw [c2,d2],by rw [c3,d3]⟩
 ·exact absurd ⟨W,P,x,n⟩ n'
 ·exact absurd ⟨W',P',x',n'⟩ n
 ·exact⟨by rw [a,a'],by rw [b,b']⟩
theorem ji5 (k:Nat):(2:Nat) ^ (3*k)<=10 ^ k:=by
 rw [Nat.pow_mul];exact Nat.pow_le_pow_left (by decide) k
theorem jmd:mid 0=2:=by unfold mid qh step;rw [if_pos (by decide)]
theorem jbL {m:Nat}{x:Int}(hm:m<10 ^ 80)(hx:x < -500):zA m x 0:=by
 by_cases h:m=0
 ·exact .inl ⟨h,rfl⟩
 ·refine .inr ⟨h,XA (p10 _) (by decide) (.inl rfl) (.inl ?_)⟩
  rw [jmd,show x.toNat=0 by omega,Nat.pow_zero,Nat.mul_one];obtain⟨k,hk⟩:∃k,(-x).toNat=80+k:=⟨(-x).toNat - 80,by omega⟩
  have hk2:420<k:=by omega
  rw [hk,Nat.pow_add]
  have h1:T76<=10 ^ k:=by
   refine Nat.le_trans ?_ (ji5 k)
   have e:T76=2 ^ (c74+2):=by rw [jpb,Nat.pow_add,Nat.mul_comm]
   rw [e];refine Nat.pow_le_pow_right (by decide) ?_
   show 1074+2<=3*k
   omega
  have h2:m*T76<10 ^ 80*T76:=Nat.mul_lt_mul_of_pos_right hm (Nat.mul_pos (by decide) (Nat.pow_pos (by decide)));have h3:10 ^ 80*T76<=10 ^ 80*10 ^ k:=Nat.mul_le_mul_left _ h1;generalize 10 ^ 80*10 ^ k=A at *;omega
theorem jdS {m:Nat}{x:Int}(hm:m≠0)(hx:400<x):zA m x 9218868437227405312:=by
 refine .inr ⟨hm,jfo (p10 _) (.inr (.inl ?_))⟩;rw [show 9218868437227405312 - 1=9218868437227405311 from rfl,jmw,show(-x).toNat=0 by omega,Nat.pow_zero,Nat.mul_one];refine Nat.mul_lt_mul_of_pos_right ?_ (Nat.mul_pos (by decide) (Nat.pow_pos (by decide)))
 have h1:18014398509481983*2 ^ jkY<2 ^ 54*2 ^ jkY:=Nat.mul_lt_mul_of_pos_right (by decide) (Nat.pow_pos (by decide));refine Nat.lt_of_lt_of_le h1 ?_
 have h2:2 ^ 54*2 ^ jkY<=2 ^ (3*x.toNat):=by
  rw [<-Nat.pow_add];refine Nat.pow_le_pow_right (by decide) ?_
  show 54+970<=_
  omega
 refine Nat.le_trans h2 (Nat.le_trans (ji5 _) ?_);exact Nat.le_mul_of_pos_left _ (Nat.pos_of_ne_zero hm)
def Alike (x y:Int):Prop:=x=y\/(400<x/\400<y)\/(x < -500/\y < -500)
theorem jby {m r:Nat}{x y:Int}(hm:m<10 ^ 80)(h:Alike x y)(k:zA m x r):zA m y r:=by
 rcases h with rfl | ⟨h1,h2⟩ | ⟨h1,h2⟩
 ·exact k
 ·by_cases z:m=0
  ·rcases k with ⟨_,b⟩ | ⟨a,_⟩
   ·exact .inl ⟨z,b⟩
   ·exact absurd z a
  ·rw [QC k (jdS z h1)]
   exact jdS z h2
 ·rw [QC k (jbL hm h1)]
  exact jbL hm h2
end bigs
end Go.Proofs.YtnbfnjhbmeocfabGreatDoor
