/- Of our texts, what this claim reaches. -/
import Derived.Test.YtnbfnjhbmeocfaaGreatDoorPmtAU
import Derived.Deep.CutRange
set_option linter.unusedVariables false
set_option maxHeartbeats 8000000
set_option maxRecDepth 100000
namespace Go.Proofs.YtnbfnjhbmeocfaaGreatDoor
namespace bigs
open Go.RowKit
theorem jky (n x:Nat)(hn:n<4294967296)(hx:x<4294967296):Go.bits .or .u64 (n:Int) ((x:Int)*4294967296)=((n+x*4294967296:Nat):Int):=by
 have h:=X8 x n hx hn
 have c:Go.bits .or .u64 (n:Int) ((x:Int)*4294967296)=Go.bits .or .u64 ((x:Int)*4294967296) (n:Int):=by
  unfold Go.bits;simp only [BitVec.or_comm]
 rw [c,h,Nat.add_comm]
theorem jj2 (x:Nat)(hx:x<4294967296):Go.bits .or .u64 0 (x:Int)=(x:Int):=by
 have h:=X8 0 x (by omega) hx;simpa using h
theorem jey (w:World)(v:Value)(l:List Nat)(hv:WSl w v l)(sl:jg l)(hl:l.length<=2) :
  Calls Tryz.prog 237 #[v] w fun e w'=>e=.returned (.int .u64 (je l))/\w'=w:=by
 obtain⟨a,ca,rfl,hca,ra⟩:=hv
 go_enter Tryz.func237,Tryz.ntmps237
 go_wp2
 go_loopw [8,3] (fun i n wr=>∃k:Nat,k<=l.length/\i=.int .i64 k/\n=.int .u64 (je (l.take k))/\wr=w) (fun i _ _=>l.length - (intOf i).toNat)
 case atStart=>exact⟨0,Nat.zero_le _,rfl,rfl,rfl⟩
 case round=>
  obtain⟨k,hk,rfl,rfl,rfl⟩:=hrel
  by_cases hlt:k<l.length
  ·obtain⟨ba,oa,rfl,hba,hca⟩:=ra (by intro e;rw [e] at hlt;simp at hlt)
   have c1:=hca k hlt;have x1:l.getD k 0<4294967296:=sl k hlt;have hs:=jG l k;have H:Hid (je (l.take (k+1))=je (l.take k)+4294967296 ^ k*l.getD k 0):=jd hs;clear hs hca ra;have hk2:k=0\/k=1:=by omega
   rcases hk2 with rfl | rfl
   ·have z:je (l.take 0)=0:=rfl
    rw [Nat.add_zero] at c1;have o:=jj2 _ x1;rw [z];generalize l.getD 0 0=x at *;go_wp2;go_roundw
    case rel=>exact⟨1,by omega,by go_num,by rw [ja H,z];simp,by trivial⟩
    case measure=>simp [intOf];omega
   ·have z:je (l.take 1)<4294967296:=by
     have:=ze (zj sl 1);have e:(l.take 1).length=1:=by rw [List.length_take];omega
     rw [e] at this;simpa using this
    have o:=jky (je (l.take 1)) _ z x1;generalize je (l.take 1)=y at *;generalize l.getD 1 0=x at *;go_wp2;go_roundw
    case rel=>exact⟨2,by omega,by go_num,by rw [ja H];simp [Nat.mul_comm],by trivial⟩
    case measure=>simp [intOf];omega
  ·have hkl:k=l.length:=by omega
   subst hkl;rw [List.take_length];go_wp2;go_ret;exact⟨rfl,rfl⟩
theorem jhh (w:World)(v:Value)(n:Nat)(hv:WBig w v n)(hn:n<18446744073709551616) :
  Calls Tryz.prog 237 #[v] w fun e w'=>e=.returned (.int .u64 n)/\w'=w:=by
 have h:=jey w v (jh n) hv (jl n) (qm (by simpa using hn));rwa [jo] at h
theorem QN (w:World)(n:Nat)(hn:n<=1000) :
  Calls Tryz.prog 165 #[.int .i64 n] w fun e w'=>∃v,e=.returned v/\WBig w' v (10 ^ n)/\Below w.heap.size w w':=by
 have K1:=jd (jj3 w 10 n (by omega) hn);generalize 10 ^ n=T at *
 go_enter Tryz.func165,Tryz.ntmps165
 go_wp2_with fail
 refine(ja K1).mono ?_
 rintro e w1 ⟨v1,rfl,h1,b1⟩
 have H1:=jd h1;clear h1 K1;go_wp2;go_ret;exact⟨_,rfl,ja H1,b1⟩
theorem no3:Ze #[.slice none 0 0,.slice none 0 0,.slice none 0 0]:=Q0 _ _ _ (fun _ h=>by cases h) (fun _ h=>by cases h) (fun _ h=>by cases h)
theorem zW {m N:Nat}:(jh (m*2 ^ N)).length<=(jh m).length+N+1:=by
 have h:=Jr m (2 ^ N);have h2:=ZC (b:=2) (e:=N) (by decide);omega
theorem Y6 {w:World}{v:Value}{l:List Nat}(h:WSl w v l):∀q,v≠.int .u32 q:=by
 obtain⟨a,c,rfl,_⟩:=h;intro q e;cases e
theorem Y0 {w2:World}{v1 v2 v3:Value}{n1 n2:Nat}(b:Nat)(bk:Blk w2 b #[.slice none 0 0,.slice none 0 0,.slice none 0 0] 246){k3:List Nat}(h1:WBig w2 v1 n1)(h2:WBig w2 v2 n2)(h3:WSl w2 v3 k3) :
  (((w2.setCell ⟨b,0,none⟩ v1).setCell ⟨b,1,none⟩ v2).setCell ⟨b,2,none⟩ v3).cell? ⟨b,0,none⟩=some v1/\(((w2.setCell ⟨b,0,none⟩ v1).setCell ⟨b,1,none⟩ v2).setCell ⟨b,2,none⟩ v3).cell? ⟨b,1,none⟩=some v2/\
  (((w2.setCell ⟨b,0,none⟩ v1).setCell ⟨b,1,none⟩ v2).setCell ⟨b,2,none⟩ v3).cell? ⟨b,2,none⟩=some v3/\WBig (((w2.setCell ⟨b,0,none⟩ v1).setCell ⟨b,1,none⟩ v2).setCell ⟨b,2,none⟩ v3) v1 n1/\
  WBig (((w2.setCell ⟨b,0,none⟩ v1).setCell ⟨b,1,none⟩ v2).setCell ⟨b,2,none⟩ v3) v2 n2/\WSl (((w2.setCell ⟨b,0,none⟩ v1).setCell ⟨b,1,none⟩ v2).setCell ⟨b,2,none⟩ v3) v3 k3:=by
 have F:=bk.set3 v1 v2 v3;have m1:=Y6 h1;have m2:=Y6 h2;exact⟨F.cell 0 _ rfl,F.cell 1 _ rfl,F.cell 2 _ rfl,WSl.set3 h1 bk no3 _ _ _ m1 m2,WSl.set3 h2 bk no3 _ _ _ m1 m2,WSl.set3 h3 bk no3 _ _ _ m1 m2⟩
theorem jhM (w:World)(v u:Value)(l k:List Nat)(N B:Nat)(hv:WSl w v l)(hu:WSl w u k)(sl:jg l)(sk:jg k)(ll:l.length<=2000)(lk:k.length<=2000)(hN:N<=4000)(h0:je k≠0)(hB:B=je k*2 ^ N) :
  Calls Tryz.prog 205 #[v,u,.int .i64 N] w fun e w'=>∃v1 v2 v3,e=.returned (.agg #[v1,v2,v3])/\WBig w' v1 (je l / B)/\WBig w' v2 (je l % B)/\WBig w' v3 B/\Below w.heap.size w w':=by
 have hB0:B≠0:=by rw [hB];exact Nat.mul_ne_zero h0 (Nat.ne_of_gt (Nat.pow_pos (by decide)))
 have hBl:(jh B).length<=300000:=by rw [hB];have:=zW (m:=je k) (N:=N);have:=ji sk;omega
 have K1:∀w,WSl w u k->Hid (Calls Tryz.prog 235 #[u,.int .i64 N] w fun e w'=>∃v',e=.returned (.tuple #[v',.int .i64 0])/\WBig w' v' B/\Below w.heap.size w w'):=fun w hu=>by rw [hB];exact jd (XR w u k N hu sk (by omega) hN)
 have K2:∀w u,WSl w v l->WBig w u B->Hid (Calls Tryz.prog 236 #[v,u] w fun e w'=>∃v1 v2,e=.returned (.tuple #[v1,v2,.int .i64 0])/\WBig w' v1 (je l / B)/\WBig w' v2 (je l % B)/\Below w.heap.size w w'):=fun w u hv hu=>by
  have h:=jf3 w v u l (jh B) hv hu sl (jl _) (by omega) hBl (by rw [jo];exact hB0);rw [jo] at h;exact jd h
 clear hB hBl hB0;have i1:¬((N:Int)<0):=by omega
 go_enter Tryz.func205,Tryz.ntmps205
 go_wp2_with fail
 have b0:Below w.heap.size w (w.alloc (.cells #[.slice none 0 0,.slice none 0 0,.slice none 0 0] 246)):=(Below.refl _ _).alloc (Nat.le_refl _) _;have bk0:=jf w #[.slice none 0 0,.slice none 0 0,.slice none 0 0] 246;generalize w.alloc (.cells #[.slice none 0 0,.slice none 0 0,.slice none 0 0] 246)=w0 at *;refine(ja (K1 w0 (hu.below b0))).mono ?_
 rintro e w1 ⟨v1,rfl,h1,b1⟩
 have hv1:=(hv.below b0).below b1;have H1:=jd h1;have K3:=K2 w1 v1 hv1 h1;obtain⟨a1,q1,rfl,_,_⟩:=h1;clear hv1 K1 K2
 go_wp2_with fail
 refine(ja K3).mono ?_
 rintro e w2 ⟨v2,v3,rfl,h2,h3,b2⟩
 have bk2:=(bk0.below b1).below b2;have bw:=b0.trans (b1.mono b0.size |>.trans (b2.mono (Nat.le_trans b0.size b1.size)));have FIN:=jd (Y0 w.heap.size bk2 h2 h3 ((ja H1).below b2));have BF:∀u1 u2 u3,Hid _:=fun u1 u2 u3=>jd (Zm (b:=w.heap.size) bw (Nat.le_refl _) u1 u2 u3)
 obtain⟨a2,q2,rfl,_,_⟩:=h2;obtain⟨a3,q3,rfl,_,_⟩:=h3;have c0:=bk2.cell 0 _ rfl;have c1:=bk2.cell 1 _ rfl;have c2:=bk2.cell 2 _ rfl;have z0:=bk2.froz 0;have z1:=bk2.froz 1;have z2:=bk2.froz 2;clear K3 bk0 bk2 b0 b1 b2 H1 bw;generalize (jh B).length=n1 at *;generalize (jh (je l / B)).length=n2 at *;generalize (jh (je l % B)).length=n3 at *;go_wp2;have FI:=ja FIN;have BB:=ja (BF (.slice a2 n2 q2) (.slice a3 n3 q3) (.slice a1 n1 q1));clear FIN BF c0 c1 c2 z0 z1 z2;generalize (((w2.setCell ⟨w.heap.size,0,none⟩ (.slice a2 n2 q2)).setCell ⟨w.heap.size,1,none⟩ (.slice a3 n3 q3)).setCell ⟨w.heap.size,2,none⟩ (.slice a1 n1 q1))=wF at *;obtain⟨f0,f1,f2,F1,F2,F3⟩:=FI;refine bodyPost_ret (v:=.agg #[.slice a2 n2 q2,.slice a3 n3 q3,.slice a1 n1 q1]) (by simp [results,Tryz.results205,go_sem,f0,f1,f2]) rfl ?_
 exact⟨_,_,_,rfl,F1,F2,F3,BB⟩
theorem jeg (w:World)(v u:Value)(l k:List Nat)(N A:Nat)(hv:WSl w v l)(hu:WSl w u k)(sl:jg l)(sk:jg k)(ll:l.length<=2000)(lk:k.length<=2000)(hN:N<=4000)(hN1:1<=N)(h0:je k≠0)(hA:A=je l*2 ^ N) :
  Calls Tryz.prog 205 #[v,u,.int .i64 (-(N:Int))] w fun e w'=>∃v1 v2 v3,e=.returned (.agg #[v1,v2,v3])/\WBig w' v1 (A / je k)/\WBig w' v2 (A % je k)/\WSl w' v3 k/\Below w.heap.size w w':=by
 have hAl:(jh A).length<=300000:=by rw [hA];have:=zW (m:=je l) (N:=N);have:=ji sl;omega
 have K1:∀w,WSl w v l->Hid (Calls Tryz.prog 235 #[v,.int .i64 N] w fun e w'=>∃v',e=.returned (.tuple #[v',.int .i64 0])/\WBig w' v' A/\Below w.heap.size w w'):=fun w hu=>by rw [hA];exact jd (XR w v l N hu sl (by omega) hN)
 have K2:∀w v,WBig w v A->WSl w u k->Hid (Calls Tryz.prog 236 #[v,u] w fun e w'=>∃v1 v2,e=.returned (.tuple #[v1,v2,.int .i64 0])/\WBig w' v1 (A / je k)/\WBig w' v2 (A % je k)/\Below w.heap.size w w'):=fun w v hv hu=>by
  have h:=jf3 w v u (jh A) k hv hu (jl _) sk hAl (by omega) h0;rw [jo] at h;exact jd h
 clear hA hAl h0;have i1 : -(N:Int)<0:=by omega
 go_enter Tryz.func205,Tryz.ntmps205
 go_wp2_with fail
 have b0:Below w.heap.size w (w.alloc (.cells #[.slice none 0 0,.slice none 0 0,.slice none 0 0] 246)):=(Below.refl _ _).alloc (Nat.le_refl _) _;have bk0:=jf w #[.slice none 0 0,.slice none 0 0,.slice none 0 0] 246;generalize w.alloc (.cells #[.slice none 0 0,.slice none 0 0,.slice none 0 0] 246)=w0 at *;refine(ja (K1 w0 (hv.below b0))).mono ?_
 rintro e w1 ⟨v1,rfl,h1,b1⟩
 have hu1:=(hu.below b0).below b1;have HU:=jd hu1;have K3:=K2 w1 v1 h1 hu1;obtain⟨a1,q1,rfl,_,_⟩:=h1;clear hu1 K1 K2
 go_wp2_with fail
 refine(ja K3).mono ?_
 rintro e w2 ⟨v2,v3,rfl,h2,h3,b2⟩
 have bk2:=(bk0.below b1).below b2;have bw:=b0.trans (b1.mono b0.size |>.trans (b2.mono (Nat.le_trans b0.size b1.size)));have FIN:=jd (Y0 w.heap.size bk2 h2 h3 ((ja HU).below b2));have BF:∀u1 u2 u3,Hid _:=fun u1 u2 u3=>jd (Zm (b:=w.heap.size) bw (Nat.le_refl _) u1 u2 u3)
 obtain⟨a2,q2,rfl,_,_⟩:=h2;obtain⟨a3,q3,rfl,_,_⟩:=h3;obtain⟨a4,q4,rfl,_,_⟩:=hu;have c0:=bk2.cell 0 _ rfl;have c1:=bk2.cell 1 _ rfl;have c2:=bk2.cell 2 _ rfl;have z0:=bk2.froz 0;have z1:=bk2.froz 1;have z2:=bk2.froz 2;clear K3 bk0 bk2 b0 b1 b2 HU bw;generalize (jh A).length=n1 at *;generalize (jh (A / je k)).length=n2 at *;generalize (jh (A % je k)).length=n3 at *;go_wp2;have FI:=ja FIN;have BB:=ja (BF (.slice a2 n2 q2) (.slice a3 n3 q3) (.slice a4 k.length q4));clear FIN BF c0 c1 c2 z0 z1 z2;generalize (((w2.setCell ⟨w.heap.size,0,none⟩ (.slice a2 n2 q2)).setCell ⟨w.heap.size,1,none⟩ (.slice a3 n3 q3)).setCell ⟨w.heap.size,2,none⟩ (.slice a4 k.length q4))=wF at *;obtain⟨f0,f1,f2,F1,F2,F3⟩:=FI;refine bodyPost_ret (v:=.agg #[.slice a2 n2 q2,.slice a3 n3 q3,.slice a4 k.length q4]) (by simp [results,Tryz.results205,go_sem,f0,f1,f2]) rfl ?_
 exact⟨_,_,_,rfl,F1,F2,F3,BB⟩
def DivOf (w:World)(v:Value)(A B:Nat):Prop:=∃a1 n1 c1 a2 n2 c2 a3 n3 c3,v=.agg #[.slice a1 n1 c1,.slice a2 n2 c2,.slice a3 n3 c3]/\WBig w (.slice a1 n1 c1) (A / B)/\WBig w (.slice a2 n2 c2) (A % B)/\∃k:List Nat,WSl w (.slice a3 n3 c3) k/\jg k/\k.length<=10000/\je k=B
theorem jkO {w:World}{v1 v2 v3:Value}{A B:Nat}{k:List Nat}(h1:WBig w v1 (A / B))(h2:WBig w v2 (A % B))(h3:WSl w v3 k)(sk:jg k)(lk:k.length<=10000)(hk:je k=B):DivOf w (.agg #[v1,v2,v3]) A B:=by
 have m1:=h1;have m2:=h2;have m3:=h3;obtain⟨a1,c1,rfl,_⟩:=h1;obtain⟨a2,c2,rfl,_⟩:=h2;obtain⟨a3,c3,rfl,_⟩:=h3;exact⟨_,_,_,_,_,_,_,_,_,rfl,m1,m2,k,m3,sk,lk,hk⟩
theorem DivOf.below {w w':World}{v:Value}{A B:Nat}(h:DivOf w v A B)(hb:Below w.heap.size w w'):DivOf w' v A B:=by
 obtain⟨a1,n1,c1,a2,n2,c2,a3,n3,c3,e,h1,h2,k,h3,h4⟩:=h;exact⟨a1,n1,c1,a2,n2,c2,a3,n3,c3,e,h1.below hb,h2.below hb,k,h3.below hb,h4⟩
theorem Yt (w:World)(v u:Value)(l k:List Nat)(x:Int)(hv:WSl w v l)(hu:WSl w u k)(sl:jg l)(sk:jg k)(ll:l.length<=2000)(lk:k.length<=2000)(hx1 : -4000<=x)(hx2:x<=4000)(h0:je k≠0) :
  Calls Tryz.prog 205 #[v,u,.int .i64 x] w fun e w'=>∃d,e=.returned d/\DivOf w' d (je l*2 ^ (-x).toNat) (je k*2 ^ x.toNat)/\Below w.heap.size w w':=by
 by_cases c:0<=x
 ·obtain⟨N,rfl⟩:∃N:Nat,x=N:=⟨x.toNat,by omega⟩
  rw [show(-(N:Int)).toNat=0 by omega,show((N:Int)).toNat=N by omega,Nat.pow_zero,Nat.mul_one];refine(jhM w v u l k N _ hv hu sl sk ll lk (by omega) h0 rfl).mono ?_
  rintro e w' ⟨v1,v2,v3,rfl,h1,h2,h3,b⟩
  refine⟨_,rfl,jkO h1 h2 h3 (jl _) ?_ (jo _),b⟩;have:=zW (m:=je k) (N:=N);have:=ji sk;omega
 ·obtain⟨N,rfl⟩:∃N:Nat,x = -(N:Int):=⟨(-x).toNat,by omega⟩
  rw [show(-(-(N:Int))).toNat=N by omega,show(-(N:Int)).toNat=0 by omega,Nat.pow_zero,Nat.mul_one];refine(jeg w v u l k N _ hv hu sl sk ll lk (by omega) (by omega) h0 rfl).mono ?_
  rintro e w' ⟨v1,v2,v3,rfl,h1,h2,h3,b⟩
  exact⟨_,rfl,jkO h1 h2 h3 sk (by omega) rfl,b⟩
open Go.RowKit
theorem XB (w:World)(d:Value)(A B:Nat)(h:DivOf w d A B)(hq:A / B<18446744073709551615)(h0:0<B) :
  Calls Tryz.prog 206 #[d] w fun e w'=>e=.returned (.int .u64 (rnd A B))/\Below w.heap.size w w':=by
 obtain⟨a1,n1,c1,a2,n2,c2,a3,n3,c3,rfl,h1,h2,k,h3,sk,lk,hk⟩:=h;have hbl:(jh B).length<=10000:=by rw [<-hk];exact Nat.le_trans (ji sk) lk
 have hml:(jh (A % B)).length<=900000:=Nat.le_trans (QR (Nat.le_of_lt (Nat.mod_lt A h0))) (by omega)
 have hsl:(jh (A % B+A % B)).length<=1000000:=by
  have:=jcx (A % B) (A % B);have:=QR (Nat.le_of_lt (Nat.mod_lt A h0));omega
 have KA:∀w',Below w.heap.size w w'->Hid (Calls Tryz.prog 239 #[.slice a2 n2 c2,.slice a2 n2 c2] w' fun e w''=>∃v',e=.returned v'/\WBig w'' v' (A % B+A % B)/\Below w'.heap.size w' w''):=fun w' hb=>by
  have h:=jkq w' _ _ (jh (A % B)) (jh (A % B)) (h2.below hb) (h2.below hb) (jl _) (jl _) hml hml;rw [jo] at h;exact jd h
 have KC:∀w' v',Below w.heap.size w w'->WBig w' v' (A % B+A % B)->Hid (Calls Tryz.prog 238 #[v',.slice a3 n3 c3] w' fun e w''=>e=.returned (.int .i64 (sgn (A % B+A % B) B))/\Below w'.heap.size w' w''):=fun w' v' hb hv=>by
  have h:=jf1 w' v' _ (jh (A % B+A % B)) k hv (h3.below hb) (jl _) sk hsl (by omega);rw [jo,hk] at h;exact jd h
 have KS:∀w',Below w.heap.size w w'->Hid (Calls Tryz.prog 237 #[.slice a1 n1 c1] w' fun e w''=>e=.returned (.int .u64 (A / B:Nat))/\w''=w'):=fun w' hb=>jd (jhh w' _ _ (h1.below hb) (by omega))
 go_enter Tryz.func206,Tryz.ntmps206
 go_wp2_with fail
 have b0:Below w.heap.size w (w.alloc (.cells #[.slice a1 n1 c1,.slice a2 n2 c2,.slice a3 n3 c3] 246)):=(Below.refl _ _).alloc (Nat.le_refl _) _;have bk0:=jf w #[.slice a1 n1 c1,.slice a2 n2 c2,.slice a3 n3 c3] 246;generalize w.alloc (.cells #[.slice a1 n1 c1,.slice a2 n2 c2,.slice a3 n3 c3] 246)=w0 at *;refine(ja (KS w0 b0)).mono ?_
 rintro e w1 ⟨rfl,rfl⟩
 have r1:=bk0.cell 1 _ rfl;have r2:=bk0.cell 2 _ rfl;have HR:=jiE A B h0;generalize (A / B:Nat)=q at *;clear h1 h2 h3 KS
 go_upto_region 2 with fail
 go_cut [4] from 8 to 15 (fun s4 wx=>s4=.int .i64 (sgn (A % B+A % B) B)/\Below w.heap.size w wx)
 case first=>
  go_region_with (first
   | (go_at_call 239
      refine(ja (KA _ ?_)).mono ?_
      exact b0.drew
      rintro e w2 ⟨v2,rfl,hv2,b2⟩
      have bw2:=b0.drew.trans (b2.mono b0.size);have bk2:Blk w2 w.heap.size _ _:=(show Blk w1.drew _ _ _ from bk0).below b2;have r2':=bk2.cell 2 _ rfl;have KC2:=KC w2 v2 bw2 hv2;clear bk2 b2 hv2)
   | (go_at_call 238
      refine(ja KC2).mono ?_
      rintro e w3 ⟨rfl,b3⟩
      have bw3:=bw2.trans (b3.mono bw2.size);clear b3 bw2 KC2))
  all_goals (go_wp2_with fail;go_meet;exact⟨rfl,bw3⟩)
 case rest=>
 obtain⟨rfl,bw⟩:=hcut;clear KA KC r1 r2 bk0 b0 hk lk sk
 rcases Nat.lt_trichotomy B (A % B+A % B) with g | g | g
 ·rw [if_pos (.inl g)] at HR
  have es:sgn (A % B+A % B) B=1:=jfo g;rw [es];have HH:=jd HR;clear HR es g;go_wp2;go_ret;rw [ja HH];exact⟨by go_num,bw⟩
 ·have es:sgn (A % B+A % B) B=0:=jjk g.symm
  rw [es]
  by_cases o:q % 2=1
  ·rw [if_pos (.inr ⟨g.symm,o⟩)] at HR
   have HH:=jd HR;have o':((q:Int) % 2 == 1)=true:=by simp;omega
   clear HR es g o;go_wp2;go_ret;rw [ja HH];exact⟨by go_num,bw⟩
  ·rw [if_neg (by omega)] at HR
   have HH:=jd HR;have o':((q:Int) % 2 == 1)=false:=beq_false_of_ne (by omega);clear HR es g o;go_wp2;go_ret;rw [ja HH];exact⟨by go_num,bw⟩
 ·rw [if_neg (by omega)] at HR
  have es:sgn (A % B+A % B) B = -1:=jcD g;rw [es];have HH:=jd HR;clear HR es g;go_wp2;go_ret;rw [ja HH];exact⟨by go_num,bw⟩
open Go.RowKit
theorem jg7 (x k:Nat):(k<bits x↔2 ^ k<=x):=by
 by_cases h:x=0
 ·subst h
  rw [qv];have:=Nat.pow_pos (n:=k) (show 0<2 by omega);omega
 ·have h1:=Jc x
  have h2:=JI h
  constructor
  ·intro c
   have:=Nat.pow_le_pow_right (n:=2) (by omega) (show k+1<=bits x by omega);rw [Nat.pow_succ] at this;omega
  ·intro c
   by_cases d:k<bits x
   ·exact d
   ·have:=Nat.pow_le_pow_right (n:=2) (by omega) (show bits x<=k by omega)
    omega
theorem jdU (E R:Nat):((min 9218868437227405312 (E*4503599627370496+R):Nat):Int)=min ((E:Int)*4503599627370496+(R:Int)) 9218868437227405312:=by omega
theorem jfV (a b:Int)(h:a=b):Ending.returned (.int .u64 a)=Ending.returned (.int .u64 b):=by rw [h]
theorem jhP {w:World}{d:Value}{A B b:Nat}{a1 a2 a3:Option Addr}{n1 c1 n2 c2 n3 c3:Nat}(hd:DivOf w d A B)(bk:Blk w b #[.slice a1 n1 c1,.slice a2 n2 c2,.slice a3 n3 c3] 246) :
  ∀a4 n4 c4 a5 n5 c5 a6 n6 c6,d=.agg #[.slice a4 n4 c4,.slice a5 n5 c5,.slice a6 n6 c6]->DivOf (((w.setCell ⟨b,0,none⟩ (.slice a4 n4 c4)).setCell ⟨b,1,none⟩ (.slice a5 n5 c5)).setCell ⟨b,2,none⟩ (.slice a6 n6 c6)) d A B:=by
 intro a4 n4 c4 a5 n5 c5 a6 n6 c6 e;obtain⟨x1,m1,y1,x2,m2,y2,x3,m3,y3,e2,h1,h2,k,h3,h4⟩:=hd;have no:Ze #[.slice a1 n1 c1,.slice a2 n2 c2,.slice a3 n3 c3]:=Q0 _ _ _ (fun _ h=>by cases h) (fun _ h=>by cases h) (fun _ h=>by cases h);refine⟨x1,m1,y1,x2,m2,y2,x3,m3,y3,e2,?_,?_,k,?_,h4⟩
 ·exact WSl.set3 h1 bk no _ _ _ (fun _ h=>by cases h) (fun _ h=>by cases h)
 ·exact WSl.set3 h2 bk no _ _ _ (fun _ h=>by cases h) (fun _ h=>by cases h)
 ·exact WSl.set3 h3 bk no _ _ _ (fun _ h=>by cases h) (fun _ h=>by cases h)
theorem ZD (w:World)(v u:Value)(l:List Nat)(hv:WSl w v l)(sl:jg l)(ll:l.length<=2000)(h0:je l=0) :
  Calls Tryz.prog 164 #[v,u] w fun e w'=>e=.returned (.int .u64 0)/\Below w.heap.size w w':=by
 have k1:=zr w v l hv sl (by omega);rw [h0,qv] at k1;have K1:=jd k1;clear k1
 go_enter Tryz.func164,Tryz.ntmps164
 go_wp2_with fail
 refine(ja K1).mono ?_
 rintro e w1 ⟨rfl,b1⟩
 go_wp2;go_ret;exact⟨rfl,b1⟩
theorem jaM (w:World)(v u:Value)(l k:List Nat)(hv:WSl w v l)(hu:WSl w u k)(sl:jg l)(sk:jg k)(ll:l.length<=2000)(lk:k.length<=2000)(h0:je l≠0)(hk:bits (je k)+1024<bits (je l)) :
  Calls Tryz.prog 164 #[v,u] w fun e w'=>e=.returned (.int .u64 9218868437227405312)/\Below w.heap.size w w':=by
 have K1:∀w,WSl w v l->Hid _:=fun w hv=>jd (zr w v l hv sl (by omega))
 have K2:∀w,WSl w u k->Hid _:=fun w hu=>jd (zr w u k hu sk (by omega))
 have m1:=jac h0;have m2:=qO (je l);have m3:=ji sl;have m4:=qO (je k);have m5:=ji sk;have hb:bits (je l)<=64000:=by omega
 clear m2 m3 m4 m5 h0;generalize bits (je l)=p at *;generalize bits (je k)=q at *;have t1:((p:Int) == 0)=false:=beq_false_of_ne (by omega);have t2:(1024:Int)<(p:Int) - (q:Int):=by omega
 go_enter Tryz.func164,Tryz.ntmps164
 go_wp2_with fail
 refine(ja (K1 w hv)).mono ?_
 rintro e w1 ⟨rfl,b1⟩
 go_wp2_with fail
 refine(ja (K1 w1 (hv.below b1))).mono ?_
 rintro e w2 ⟨rfl,b2⟩
 go_wp2_with fail
 refine(ja (K2 w2 ((hu.below b1).below b2))).mono ?_
 rintro e w3 ⟨rfl,b3⟩
 have bw:=b1.trans ((b2.trans (b3.mono b2.size)).mono b1.size);clear b1 b2 b3 hv hu K1 K2;go_wp2;go_ret;exact⟨rfl,bw⟩
theorem jcw (w:World)(v u:Value)(l k:List Nat)(E:Nat)(hv:WSl w v l)(hu:WSl w u k)(sl:jg l)(sk:jg k)(ll:l.length<=2000)(lk:k.length<=2000)(h0:je l≠0)(hk0:je k≠0)(hk:¬bits (je k)+1024<bits (je l))
  (hE:E=bits (je l)+1021 - bits (je k)) (hq:je l*2 ^ (1074 - E) / (je k*2 ^ (E - 1074))<18014398509481984) :
  Calls Tryz.prog 164 #[v,u] w fun e w'=>∃r:Nat,e=.returned (.int .u64 r)/\QS (je l) (je k) r/\Below w.heap.size w w':=by
 have K1:∀w,WSl w v l->Hid (Calls Tryz.prog 163 #[v] w fun e w'=>e=.returned (.int .i64 (bits (je l)))/\Below w.heap.size w w'):=fun w hv=>jd (zr w v l hv sl (by omega))
 have K2:∀w,WSl w u k->Hid (Calls Tryz.prog 163 #[u] w fun e w'=>e=.returned (.int .i64 (bits (je k)))/\Below w.heap.size w w'):=fun w hu=>jd (zr w u k hu sk (by omega))
 have K3:∀w,WSl w v l->WSl w u k->Hid (Calls Tryz.prog 205 #[v,u,.int .i64 ((E:Int) - 1074)] w fun e w'=>∃d,e=.returned d/\DivOf w' d (je l*2 ^ (1074 - E)) (je k*2 ^ (E - 1074))/\Below w.heap.size w w'):=fun w hv hu=>by
  have h:=Yt w v u l k ((E:Int) - 1074) hv hu sl sk ll lk (by omega) (by omega) hk0;rw [show(-((E:Int) - 1074)).toNat=1074 - E by omega,show((E:Int) - 1074).toNat=E - 1074 by omega] at h;exact jd h
 have K4:∀w,WSl w v l->WSl w u k->Hid (Calls Tryz.prog 205 #[v,u,.int .i64 ((E:Int) - 1074+1)] w fun e w'=>∃d,e=.returned d/\DivOf w' d (je l*2 ^ (1074 - (E+1))) (je k*2 ^ (E+1 - 1074))/\Below w.heap.size w w'):=fun w hv hu=>by
  have h:=Yt w v u l k ((E:Int) - 1074+1) hv hu sl sk ll lk (by omega) (by omega) hk0;rw [show(-((E:Int) - 1074+1)).toNat=1074 - (E+1) by omega,show((E:Int) - 1074+1).toNat=E+1 - 1074 by omega] at h;exact jd h
 obtain⟨P1,P2⟩:=jbU (Nat.pos_of_ne_zero hk0) (Jc (je l)) (JI h0) (Jc (je k)) (JI hk0);rw [<-hE] at P1 P2;have hp1:=jac h0;have hB:0<je k*2 ^ (E - 1074):=Nat.mul_pos (Nat.pos_of_ne_zero hk0) (Nat.pow_pos (by decide));have hB2:0<je k*2 ^ (E+1 - 1074):=Nat.mul_pos (Nat.pos_of_ne_zero hk0) (Nat.pow_pos (by decide));obtain⟨D1,D2⟩:=jdY (m:=je l) (E:=E) (Nat.pos_of_ne_zero hk0);obtain⟨D3,D4⟩:=jdY (m:=je l) (E:=E+1) (Nat.pos_of_ne_zero hk0);have hbb:bits (je l)<=64000:=by have:=qO (je l);have:=ji sl;omega
 have hbk:bits (je k)<=64000:=by have:=qO (je k);have:=ji sk;omega
 have hm:max ((bits (je l):Int) - (bits (je k):Int) - 53) (-1074)=(E:Int) - 1074:=by omega
 have t1:((bits (je l):Int) == 0)=false:=beq_false_of_ne (by omega);have t2:¬(1024:Int)<(bits (je l):Int) - (bits (je k):Int):=by omega
 have hEb:E<=2045:=by omega
 have HP1:=jd P1;have HP2:=jd P2;have HD1:=jd D1;have HD2:=jd D2;have HD3:=jd D3;have HD4:=jd D4;clear P1 P2 D1 D2 D3 D4 hE;generalize bits (je l)=p at *;generalize bits (je k)=q at *
 go_enter Tryz.func164,Tryz.ntmps164
 go_wp2_with fail
 refine(ja (K1 w hv)).mono ?_
 rintro e w1 ⟨rfl,b1⟩
 go_wp2_with fail
 refine(ja (K1 w1 (hv.below b1))).mono ?_
 rintro e w2 ⟨rfl,b2⟩
 go_wp2_with fail
 refine(ja (K2 w2 ((hu.below b1).below b2))).mono ?_
 rintro e w3 ⟨rfl,b3⟩
 have bw:=b1.trans ((b2.trans (b3.mono b2.size)).mono b1.size);have hv3:=hv.below bw;have hu3:=hu.below bw;have K3':=K3 w3 hv3 hu3;clear b1 b2 b3 K1 K2 K3
 go_wp2_with fail
 refine(ja K3').mono ?_
 rintro e w4 ⟨d,rfl,hd,b4⟩
 have HD:=jd hd;obtain⟨a1,n1,c1,a2,n2,c2,a3,n3,c3,rfl,f1,f2,kk,f3,_⟩:=hd;clear f2 f3 K3'
 go_wp2_with fail
 have bw4:=bw.trans (b4.mono bw.size);have b5:Below w4.heap.size w4 (w4.alloc (.cells #[.slice a1 n1 c1,.slice a2 n2 c2,.slice a3 n3 c3] 246)):=(Below.refl _ _).alloc (Nat.le_refl _) _;have h4:w.heap.size<=w4.heap.size:=bw4.size;have bk5:=jf w4 #[.slice a1 n1 c1,.slice a2 n2 c2,.slice a3 n3 c3] 246;generalize w4.alloc (.cells #[.slice a1 n1 c1,.slice a2 n2 c2,.slice a3 n3 c3] 246)=w5 at *;have k6:=zr w5 _ _ (f1.below b5) (jl _) (by have:=qm (n:=je l*2 ^ (1074 - E) / (je k*2 ^ (E - 1074))) (k:=2) (Nat.lt_trans hq (by decide));omega);rw [jo] at k6;have K6:=jd k6;clear k6 f1;have bo:=jg7 (je l*2 ^ (1074 - E) / (je k*2 ^ (E - 1074))) 53;have bu:=QC (n:=je l*2 ^ (1074 - E) / (je k*2 ^ (E - 1074))) (k:=54) hq;refine(ja K6).mono ?_
 rintro e w6 ⟨rfl,b6⟩
 have bw5:=bw4.trans (b5.mono bw4.size);have bw6:=bw5.trans (b6.mono bw5.size);have bk6:=bk5.below b6;have r0:=bk6.cell 0 _ rfl;have r1:=bk6.cell 1 _ rfl;have r2:=bk6.cell 2 _ rfl;have HD6:=jd ((((ja HD).below b5).below b6));have hv6:=hv.below bw6;have hu6:=hu.below bw6;have K7:=jd (XB w6 _ _ _ (ja HD6) (Nat.lt_trans hq (by decide)) hB);clear b4 b5 b6 bk5 bw bw4 bw5 hv3 hu3 HD K6 hv hu
 by_cases g:53<bits (je l*2 ^ (1074 - E) / (je k*2 ^ (E - 1074)))
 ·have g0:=bo.1 g
  have g1:¬je l*2 ^ (1074 - E) / (je k*2 ^ (E - 1074))<9007199254740992:=fun c=>Nat.lt_irrefl _ (Nat.lt_of_lt_of_le c g0)
  have N0:=(ja HP2) (fun c=>g1 ((ja HD1).2 c))
  have N1:=N0;rw [ja HD4] at N1;have q1:=jab N0.1;rw [ja HD4] at q1;have hq2:=(ja HD3).2 N0.1;have NN:=jd (Qe (Nat.pos_of_ne_zero hk0) N1);have t3:(53:Int)<((bits (je l*2 ^ (1074 - E) / (je k*2 ^ (E - 1074))):Nat):Int):=by omega
  have K8:=K4 w6 hv6 hu6;have K9:∀w d,DivOf w d (je l*2 ^ (1074 - (E+1))) (je k*2 ^ (E+1 - 1074))->Hid (Calls Tryz.prog 206 #[d] w fun e w'=>e=.returned (.int .u64 (rnd (je l*2 ^ (1074 - (E+1))) (je k*2 ^ (E+1 - 1074))))/\Below w.heap.size w w'):=fun w d hd=>jd (XB w d _ _ hd (Nat.lt_trans hq2 (by decide)) hB2)
  clear HP1 HP2 HD1 HD2 HD3 HD4 g g0 g1 N0 N1 bo hq hq2 hB hB2 K4 K7;generalize rnd (je l*2 ^ (1074 - (E+1))) (je k*2 ^ (E+1 - 1074))=R at *;generalize bits (je l*2 ^ (1074 - E) / (je k*2 ^ (E - 1074)))=bq at *
  go_wp2_with fail
  refine(ja K8).mono ?_
  rintro e w7 ⟨d,rfl,hd,b7⟩
  have bk7:=bk6.below b7;have bw7:=bw6.trans (b7.mono bw6.size);have hd8:=jd (jhP (b:=w4.heap.size) hd bk7);have bw8:∀x y z,Hid _:=fun x y z=>jd (Zm (b:=w4.heap.size) bw7 h4 x y z)
  obtain⟨a4,n4,c4,a5,n5,c5,a6,n6,c6,rfl,f4,_⟩:=hd;have s0:=bk7.cell 0 _ rfl;have s1:=bk7.cell 1 _ rfl;have s2:=bk7.cell 2 _ rfl;have z0:=bk7.froz 0;have z1:=bk7.froz 1;have z2:=bk7.froz 2;have F:=bk7.set3 (.slice a4 n4 c4) (.slice a5 n5 c5) (.slice a6 n6 c6);have F0:=F.cell 0 _ rfl;have F1:=F.cell 1 _ rfl;have F2:=F.cell 2 _ rfl;clear r0 r1 r2 b7 bw6 bk6 bk7 K8 f4 F
  go_wp2_with fail
  have BB:=ja (bw8 (.slice a4 n4 c4) (.slice a5 n5 c5) (.slice a6 n6 c6));have hd9:=ja hd8 _ _ _ _ _ _ _ _ _ rfl;refine(ja (K9 _ _ hd9)).mono ?_
  rintro e w9 ⟨rfl,b9⟩
  have bw9:=BB.trans (b9.mono BB.size);clear b9 BB hd9 hd8 bw8 F0 F1 F2 s0 s1 s2 z0 z1 z2 K9 bw7;go_wp2;go_ret;refine⟨_,?_,ja NN,bw9⟩;exact jfV _ _ (by rw [jdU,Int.natCast_add,show(E:Int) - 1074+1+1074=(E:Int)+((1:Nat):Int) by omega])
 ·have g1:je l*2 ^ (1074 - E) / (je k*2 ^ (E - 1074))<9007199254740992:=Nat.lt_of_not_le (fun c=>g (bo.2 c))
  have N1:=(ja HP1) ((ja HD1).1 g1)
  rw [ja HD2] at N1;have q1:=jab ((ja HD1).1 g1);rw [ja HD2] at q1;have NN:=jd (Qe (Nat.pos_of_ne_zero hk0) N1);have t3:¬(53:Int)<((bits (je l*2 ^ (1074 - E) / (je k*2 ^ (E - 1074))):Nat):Int):=by omega
  clear HP1 HP2 HD1 HD2 HD3 HD4 g g1 N1 bo hq hB hB2;generalize rnd (je l*2 ^ (1074 - E)) (je k*2 ^ (E - 1074))=R at *;generalize bits (je l*2 ^ (1074 - E) / (je k*2 ^ (E - 1074)))=bq at *
  go_wp2_with fail
  refine(ja K7).mono ?_
  rintro e w7 ⟨rfl,b7⟩
  have bw7:=bw6.trans (b7.mono bw6.size);clear r0 r1 r2 b7 bw6;go_wp2;go_ret;refine⟨_,?_,ja NN,bw7⟩;exact jfV _ _ (by rw [jdU])
theorem jgf {m n E:Nat}(hn:0<n)(h:m*T74<n*2 ^ E*18014398509481984):m*2 ^ (1074 - E) / (n*2 ^ (E - 1074))<18014398509481984:=by
 obtain⟨T,hT,e1,e2⟩:=Y2 (m:=m) (n:=n) (E:=E);have hB:0<n*2 ^ (E - 1074):=Nat.mul_pos hn (Nat.pow_pos (by decide));rw [e1,e2,Nat.mul_assoc (n*2 ^ (E - 1074)) T,Nat.mul_comm T,<-Nat.mul_assoc,Nat.mul_lt_mul_right hT] at h;rw [Nat.div_lt_iff_lt_mul hB,Nat.mul_comm 18014398509481984];exact h
theorem Zz (w:World)(v u:Value)(l k:List Nat)(hv:WSl w v l)(hu:WSl w u k)(sl:jg l)(sk:jg k)(ll:l.length<=2000)(lk:k.length<=2000)(h0:je l≠0)(hk0:je k≠0) :
  Calls Tryz.prog 164 #[v,u] w fun e w'=>∃r:Nat,e=.returned (.int .u64 r)/\QS (je l) (je k) r/\Below w.heap.size w w':=by
 by_cases c:bits (je k)+1024<bits (je l)
 ·refine(jaM w v u l k hv hu sl sk ll lk h0 c).mono ?_
  rintro e w' ⟨rfl,b⟩
  exact⟨9218868437227405312,rfl,jeH (Nat.pos_of_ne_zero hk0) (Jc _) (JI h0) (Jc _) (JI hk0) c,b⟩
 ·exact jcw w v u l k _ hv hu sl sk ll lk h0 hk0 c rfl (jgf (Nat.pos_of_ne_zero hk0) (jbp (Jc _) (JI hk0)))
theorem Ql {n:Nat}(h:n<=1000):(jh (10 ^ n)).length<=1001:=by have:=ZC (b:=10) (e:=n) (by decide);omega
theorem je0 (w:World)(v:Value)(l:List Nat)(N:Nat)(hv:WSl w v l)(sl:jg l)(ll:l.length<=45)(h0:je l≠0)(hb:bits (je l)<=1280)(hN1:1<=N)(hN:N<=1000) :
  Calls Tryz.prog 102 #[v,.int .i64 (-(N:Int))] w fun e w'=>∃r:Nat,e=.returned (.tuple #[.int .u64 r,.int .i64 0])/\QS (je l) (10 ^ N) r/\Below w.heap.size w w':=by
 have K1:=jd (zr w v l hv sl (by omega));have K2:∀w,Hid _:=fun w=>jd (QN w N hN)
 have K3:∀w u,WSl w v l->WBig w u (10 ^ N)->Hid (Calls Tryz.prog 164 #[v,u] w fun e w'=>∃r:Nat,e=.returned (.int .u64 r)/\QS (je l) (10 ^ N) r/\Below w.heap.size w w'):=fun w u hv hu=>by
  have h:=Zz w v u l (jh (10 ^ N)) hv hu sl (jl _) (by omega) (by have:=Ql hN;omega) h0 (by rw [jo];exact Nat.ne_of_gt (Nat.pow_pos (by decide)));rw [jo] at h;exact jd h
 generalize 10 ^ N=T at *;have i1:¬(1280:Int)<(bits (je l):Int):=by omega
 have i2:¬-(N:Int) < -1000:=by omega
 have i3:¬(1000:Int) < -(N:Int):=by omega
 have i4 : -(N:Int)<0:=by omega
 generalize bits (je l)=m at *
 go_enter Tryz.func102,Tryz.ntmps102
 go_wp2_with fail
 refine(ja K1).mono ?_
 rintro e w1 ⟨rfl,b1⟩
 go_wp2_with fail
 refine(ja (K2 w1)).mono ?_
 rintro e w2 ⟨v2,rfl,h2,b2⟩
 have bw2:=b1.trans (b2.mono b1.size);have K4:=K3 w2 v2 (hv.below bw2) h2;clear K1 K2 K3 b1 b2 hv h2
 go_wp2_with fail
 refine(ja K4).mono ?_
 rintro e w3 ⟨r,rfl,hr,b3⟩
 have HR:=jd hr;have bw3:=bw2.trans (b3.mono bw2.size);clear hr b3 bw2 K4;go_wp2;go_ret2;exact⟨r,rfl,ja HR,bw3⟩
theorem jjD (w:World)(v:Value)(l:List Nat)(N:Nat)(hv:WSl w v l)(sl:jg l)(ll:l.length<=45)(h0:je l≠0)(hb:bits (je l)<=1280)(hN:N<=1000) :
  Calls Tryz.prog 102 #[v,.int .i64 N] w fun e w'=>∃r:Nat,e=.returned (.tuple #[.int .u64 r,.int .i64 0])/\QS (je l*10 ^ N) 1 r/\Below w.heap.size w w':=by
 have K1:=jd (zr w v l hv sl (by omega));have K2:∀w,Hid _:=fun w=>jd (QN w N hN)
 have hT:10 ^ N≠0:=Nat.ne_of_gt (Nat.pow_pos (by decide));have hTl:=Ql hN;have hPl:(jh (je l*10 ^ N)).length<=2000:=by have:=Jr (je l) (10 ^ N);have:=ji sl;omega
 have K3:∀w u,WSl w v l->WBig w u (10 ^ N)->Hid (Calls Tryz.prog 166 #[v,u] w fun e w'=>∃v',e=.returned v'/\WBig w' v' (je l*10 ^ N)/\Below w.heap.size w w'):=fun w u hv hu=>by
  have h:=XY w v u l (jh (10 ^ N)) hv hu sl (jl _) (by omega) (by omega);rw [jo] at h;exact jd h
 have K5:∀w v u,WBig w v (je l*10 ^ N)->WSl w u [1]->Hid (Calls Tryz.prog 164 #[v,u] w fun e w'=>∃r:Nat,e=.returned (.int .u64 r)/\QS (je l*10 ^ N) 1 r/\Below w.heap.size w w'):=fun w v u hv hu=>by
  have h:=Zz w v u (jh (je l*10 ^ N)) [1] hv hu (jl _) (qw (by decide)) hPl (by simp) (by rw [jo];exact Nat.mul_ne_zero h0 hT) (by rw [qu];decide);rw [jo,qu] at h;exact jd h
 clear hT hTl hPl;generalize hP:je l*10 ^ N=P at *;clear hP;generalize 10 ^ N=T at *;have i1:¬(1280:Int)<(bits (je l):Int):=by omega
 have i2:¬(N:Int) < -1000:=by omega
 have i3:¬(1000:Int)<(N:Int):=by omega
 have i4:¬(N:Int)<0:=by omega
 generalize bits (je l)=m at *
 go_enter Tryz.func102,Tryz.ntmps102
 go_wp2_with fail
 refine(ja K1).mono ?_
 rintro e w1 ⟨rfl,b1⟩
 go_wp2_with fail
 refine(ja (K2 w1)).mono ?_
 rintro e w2 ⟨v2,rfl,h2,b2⟩
 have bw2:=b1.trans (b2.mono b1.size);have K4:=K3 w2 v2 (hv.below bw2) h2;clear K1 K2 K3 b1 b2 hv h2
 go_wp2_with fail
 refine(ja K4).mono ?_
 rintro e w3 ⟨v3,rfl,h3,b3⟩
 have bw3:=bw2.trans (b3.mono bw2.size);have b4:Below w3.heap.size w3 (w3.alloc (.cells #[.int .u32 1] 222)):=(Below.refl _ _).alloc (Nat.le_refl _) _;have K6:=K5 _ _ _ (h3.below b4) ⟨_,1,rfl,by simp,Qx w3 1⟩;have bw4:=bw3.trans (b4.mono bw3.size);clear K4 K5 b3 bw2 h3 b4 bw3
 go_wp2_with fail
 refine(ja K6).mono ?_
 rintro e w5 ⟨r,rfl,hr,b5⟩
 have HR:=jd hr;have bw5:=bw4.trans (b5.mono bw4.size);clear hr b5 bw4 K6;go_wp2;go_ret2;exact⟨r,rfl,ja HR,bw5⟩
theorem jaP (w:World)(v:Value)(l:List Nat)(N:Nat)(hv:WSl w v l)(sl:jg l)(ll:l.length<=45)(h0:je l=0)(hN1:1<=N)(hN:N<=1000) :
  Calls Tryz.prog 102 #[v,.int .i64 (-(N:Int))] w fun e w'=>e=.returned (.tuple #[.int .u64 0,.int .i64 0])/\Below w.heap.size w w':=by
 have K1:=jd (zr w v l hv sl (by omega));have K2:∀w,Hid _:=fun w=>jd (QN w N hN)
 have K3:∀w u,WSl w v l->WBig w u (10 ^ N)->Hid (Calls Tryz.prog 164 #[v,u] w fun e w'=>e=.returned (.int .u64 0)/\Below w.heap.size w w'):=fun w u hv hu=>jd (ZD w v u l hv sl (by omega) h0)
 have hb:bits (je l)<=1280:=by rw [h0,qv];omega
 generalize 10 ^ N=T at *;have i1:¬(1280:Int)<(bits (je l):Int):=by omega
 have i2:¬-(N:Int) < -1000:=by omega
 have i3:¬(1000:Int) < -(N:Int):=by omega
 have i4 : -(N:Int)<0:=by omega
 generalize bits (je l)=m at *
 go_enter Tryz.func102,Tryz.ntmps102
 go_wp2_with fail
 refine(ja K1).mono ?_
 rintro e w1 ⟨rfl,b1⟩
 go_wp2_with fail
 refine(ja (K2 w1)).mono ?_
 rintro e w2 ⟨v2,rfl,h2,b2⟩
 have bw2:=b1.trans (b2.mono b1.size);have K4:=K3 w2 v2 (hv.below bw2) h2;clear K1 K2 K3 b1 b2 hv h2
 go_wp2_with fail
 refine(ja K4).mono ?_
 rintro e w3 ⟨rfl,b3⟩
 have bw3:=bw2.trans (b3.mono bw2.size);clear b3 bw2 K4;go_wp2;go_ret2;exact⟨rfl,bw3⟩
theorem jdo (w:World)(v:Value)(l:List Nat)(N:Nat)(hv:WSl w v l)(sl:jg l)(ll:l.length<=45)(h0:je l=0)(hN:N<=1000) :
  Calls Tryz.prog 102 #[v,.int .i64 N] w fun e w'=>e=.returned (.tuple #[.int .u64 0,.int .i64 0])/\Below w.heap.size w w':=by
 have K1:=jd (zr w v l hv sl (by omega));have K2:∀w,Hid _:=fun w=>jd (QN w N hN)
 have hT:10 ^ N≠0:=Nat.ne_of_gt (Nat.pow_pos (by decide));have hTl:=Ql hN;have hPl:(jh (je l*10 ^ N)).length<=2000:=by have:=Jr (je l) (10 ^ N);have:=ji sl;omega
 have K3:∀w u,WSl w v l->WBig w u (10 ^ N)->Hid (Calls Tryz.prog 166 #[v,u] w fun e w'=>∃v',e=.returned v'/\WBig w' v' (je l*10 ^ N)/\Below w.heap.size w w'):=fun w u hv hu=>by
  have h:=XY w v u l (jh (10 ^ N)) hv hu sl (jl _) (by omega) (by omega);rw [jo] at h;exact jd h
 have K5:∀w v u,WBig w v (je l*10 ^ N)->WSl w u [1]->Hid (Calls Tryz.prog 164 #[v,u] w fun e w'=>e=.returned (.int .u64 0)/\Below w.heap.size w w'):=fun w v u hv hu=>jd (ZD w v u (jh (je l*10 ^ N)) hv (jl _) hPl (by rw [jo,h0,Nat.zero_mul]))
 have hb:bits (je l)<=1280:=by rw [h0,qv];omega
 clear hT hTl hPl;generalize hP:je l*10 ^ N=P at *;clear hP;generalize 10 ^ N=T at *;have i1:¬(1280:Int)<(bits (je l):Int):=by omega
 have i2:¬(N:Int) < -1000:=by omega
 have i3:¬(1000:Int)<(N:Int):=by omega
 have i4:¬(N:Int)<0:=by omega
 generalize bits (je l)=m at *
 go_enter Tryz.func102,Tryz.ntmps102
 go_wp2_with fail
 refine(ja K1).mono ?_
 rintro e w1 ⟨rfl,b1⟩
 go_wp2_with fail
 refine(ja (K2 w1)).mono ?_
 rintro e w2 ⟨v2,rfl,h2,b2⟩
 have bw2:=b1.trans (b2.mono b1.size);have K4:=K3 w2 v2 (hv.below bw2) h2;clear K1 K2 K3 b1 b2 hv h2
 go_wp2_with fail
 refine(ja K4).mono ?_
 rintro e w3 ⟨v3,rfl,h3,b3⟩
 have bw3:=bw2.trans (b3.mono bw2.size);have b4:Below w3.heap.size w3 (w3.alloc (.cells #[.int .u32 1] 222)):=(Below.refl _ _).alloc (Nat.le_refl _) _;have K6:=K5 _ _ _ (h3.below b4) ⟨_,1,rfl,by simp,Qx w3 1⟩;have bw4:=bw3.trans (b4.mono bw3.size);clear K4 K5 b3 bw2 h3 b4 bw3
 go_wp2_with fail
 refine(ja K6).mono ?_
 rintro e w5 ⟨rfl,b5⟩
 have bw5:=bw4.trans (b5.mono bw4.size);clear b5 bw4 K6;go_wp2;go_ret2;exact⟨rfl,bw5⟩
theorem jg9 (w:World)(v:Value)(l:List Nat)(x:Int)(hv:WSl w v l)(sl:jg l)(ll:l.length<=45)(h0:je l=0)(hx1 : -1000<=x)(hx2:x<=1000) :
  Calls Tryz.prog 102 #[v,.int .i64 x] w fun e w'=>e=.returned (.tuple #[.int .u64 0,.int .i64 0])/\Below w.heap.size w w':=by
 by_cases c:0<=x
 ·obtain⟨N,rfl⟩:∃N:Nat,x=N:=⟨x.toNat,by omega⟩
  exact jdo w v l N hv sl ll h0 (by omega)
 ·obtain⟨N,rfl⟩:∃N:Nat,x = -(N:Int):=⟨(-x).toNat,by omega⟩
  exact jaP w v l N hv sl ll h0 (by omega) (by omega)
open Go.RowKit
def zO (m:Nat)(x:Int)(r:Nat):Prop:=(m=0/\r=0)\/(m≠0/\QS (m*10 ^ x.toNat) (10 ^ (-x).toNat) r)
theorem p10 (n:Nat):0<(10:Nat) ^ n:=Nat.pow_pos (by decide)
theorem JY {m r s:Nat}{x:Int}(h:zO m x r)(k:zO m x s):r=s:=by
 rcases h with ⟨a,b⟩ | ⟨a,b⟩<;>rcases k with ⟨c,d⟩ | ⟨c,d⟩
 ·rw [b,d]
 ·exact absurd a c
 ·exact absurd c a
 ·exact jdy b d
theorem Qt {m r:Nat}{x:Int}(h:zO m x r):r<=9218868437227405312:=by
 rcases h with ⟨a,b⟩ | ⟨a,b⟩
 ·omega
 ·exact(Xb (p10 _) b).1
theorem jgy (w:World)(v:Value)(l:List Nat)(x:Int)(hv:WSl w v l)(sl:jg l)(ll:l.length<=45)(hb:bits (je l)<=1280)(hx1 : -1000<=x)(hx2:x<=1000) :
  Calls Tryz.prog 102 #[v,.int .i64 x] w fun e w'=>∃r:Nat,e=.returned (.tuple #[.int .u64 r,.int .i64 0])/\zO (je l) x r/\Below w.heap.size w w':=by
 by_cases h0:je l=0
 ·refine(jg9 w v l x hv sl ll h0 hx1 hx2).mono ?_
  rintro e w' ⟨rfl,b⟩
  exact⟨0,rfl,.inl ⟨h0,rfl⟩,b⟩
 ·by_cases c:0<=x
  ·obtain⟨N,rfl⟩:∃N:Nat,x=N:=⟨x.toNat,by omega⟩
   refine(jjD w v l N hv sl ll h0 hb (by omega)).mono ?_
   rintro e w' ⟨r,rfl,hr,b⟩
   refine⟨r,rfl,.inr ⟨h0,?_⟩,b⟩;rw [show((N:Int)).toNat=N by omega,show(-(N:Int)).toNat=0 by omega,Nat.pow_zero];exact hr
  ·obtain⟨N,rfl⟩:∃N:Nat,x = -(N:Int):=⟨(-x).toNat,by omega⟩
   refine(je0 w v l N hv sl ll h0 hb (by omega) (by omega)).mono ?_
   rintro e w' ⟨r,rfl,hr,b⟩
   refine⟨r,rfl,.inr ⟨h0,?_⟩,b⟩;rw [show(-(N:Int)).toNat=0 by omega,show(-(-(N:Int))).toNat=N by omega,Nat.pow_zero,Nat.mul_one];exact hr
open Go.RowKit
def jgY:Nat:=970
theorem jjJ:mid 9218868437227405311=(18014398509481983)*2 ^ jgY*T76:=by
 unfold mid jeq step;rw [if_neg (by decide)];have e1:4*(9218868437227405311 % 4503599627370496+4503599627370496)+2=2*18014398509481983:=by decide
 have e2:9218868437227405311 / 4503599627370496 - 1=2045:=by decide
 have e3:(2045:Nat)=jgY+(c74+1):=rfl;rw [e1,e2,e3,Nat.pow_add,Nat.pow_succ];unfold T76 T74;generalize 2 ^ jgY=A;generalize 2 ^ c74=B;rw [Nat.mul_comm 2 18014398509481983,Nat.mul_assoc,Nat.mul_assoc,Nat.mul_left_comm 2 A,Nat.mul_comm B 2,<-Nat.mul_assoc 2 2 B]
theorem jk1:T76=4*2 ^ c74:=by unfold T76 T74;exact Eq.refl _
open Go.RowKit
def jd9 (l:List UInt8):Prop:=∀b r,l=b :: r->¬(48<=b.toNat/\b.toNat<=57)
def zP (l:List UInt8):Prop:=l≠[]/\jV l
theorem jcT:jd9 []:=fun _ _ h=>by cases h
theorem Xj {b:UInt8}{r:List UInt8}(h:¬(48<=b.toNat/\b.toNat<=57)):jd9 (b :: r):=fun b' r' e=>by
 injection e with e1 e2;rw [<-e1];exact h
theorem qT {b:UInt8}{l:List UInt8}:jV (b :: l)↔(48<=b.toNat/\b.toNat<=57)/\jV l:=by
 unfold jV
 constructor
 ·intro h;exact⟨h b (by simp),fun x hx=>h x (by simp [hx])⟩
 ·rintro⟨h1,h2⟩ x hx
  rcases List.mem_cons.1 hx with rfl | h
  ·exact h1
  ·exact h2 x h
theorem JN:∀{W R W' R':List UInt8},W++R=W'++R'->jV W->jV W'->jd9 R->jd9 R'->W=W'/\R=R':=by
 intro W
 induction W with
 | nil=>
  intro R W' R' h _ d' n _;cases W' with
  | nil=>exact⟨rfl,h⟩
  | cons b r=>exact absurd (qT.1 d').1 (n b (r++R') h)
 | cons a W ih=>
  intro R W' R' h d d' n n';cases W' with
  | nil=>exact absurd (qT.1 d).1 (n' a (W++R) h.symm)
  | cons b r=>
   injection h with h1 h2;subst h1;obtain⟨e1,e2⟩:=ih h2 (qT.1 d).2 (qT.1 d').2 n n';exact⟨by rw [e1],e2⟩
def Exp (Z:List UInt8)(x:Int):Prop:=(∃X,Z=45 :: X/\zP X/\x = -((dec X:Nat):Int))\/(∃X,Z=43 :: X/\zP X/\x=((dec X:Nat):Int))\/(zP Z/\x=((dec Z:Nat):Int))
def Rest (R P:List UInt8)(x:Int):Prop:=(R=46 :: P/\zP P/\x=0)\/(∃Z,R=46 :: (P++101 :: Z)/\zP P/\Exp Z x)\/(∃Z,R=101 :: Z/\P=[]/\Exp Z x)
def Num (t W P:List UInt8)(x:Int):Prop:=∃R,t=W++R/\zP W/\(W.length=1\/W.getD 0 0≠48)/\Rest R P x
theorem jbM {R P:List UInt8}{x:Int}(h:Rest R P x):jd9 R:=by
 rcases h with ⟨rfl,_⟩ | ⟨Z,rfl,_⟩ | ⟨Z,rfl,_⟩<;>exact Xj (by decide)
theorem jgK {t W R W' P:List UInt8}{x:Int}(e:t=W++R)(d:jV W)(n:jd9 R)(h:Num t W' P x):W'=W/\Rest R P x:=by
 obtain⟨R',e',a,_,r⟩:=h;obtain⟨h1,h2⟩:=JN (e.symm.trans e') d a.2 n (jbM r);subst h1 h2;exact⟨rfl,r⟩
theorem Zb {Z:List UInt8}{x:Int}(h:Exp Z x)(c:∀X,Z≠45 :: X/\Z≠43 :: X):zP Z/\x=((dec Z:Nat):Int):=by
 rcases h with ⟨X,e,_⟩ | ⟨X,e,_⟩ | h
 ·exact absurd e (c X).1
 ·exact absurd e (c X).2
 ·exact h
theorem Xn {X:List UInt8}{x:Int}(h:Exp (45 :: X) x):zP X/\x = -((dec X:Nat):Int):=by
 rcases h with ⟨Y,e,h⟩ | ⟨Y,e,_⟩ | ⟨h,_⟩
 ·injection e with _ e2;subst e2;exact h
 ·injection e with e1 _;exact absurd e1 (by decide)
 ·exact absurd (qT.1 h.2).1 (by decide)
theorem YV {X:List UInt8}{x:Int}(h:Exp (43 :: X) x):zP X/\x=((dec X:Nat):Int):=by
 rcases h with ⟨Y,e,_⟩ | ⟨Y,e,h⟩ | ⟨h,_⟩
 ·injection e with e1 _;exact absurd e1 (by decide)
 ·injection e with _ e2;subst e2;exact h
 ·exact absurd (qT.1 h.2).1 (by decide)
theorem Yn {Z:List UInt8}{x y:Int}(h:Exp Z x)(k:Exp Z y):x=y:=by
 by_cases c1:∃X,Z=45 :: X
 ·obtain⟨X,rfl⟩:=c1
  rw [(Xn h).2,(Xn k).2]
 ·by_cases c2:∃X,Z=43 :: X
  ·obtain⟨X,rfl⟩:=c2
   rw [(YV h).2,(YV k).2]
  ·have c:∀X,Z≠45 :: X/\Z≠43 :: X:=fun X=>⟨fun e=>c1 ⟨X,e⟩,fun e=>c2 ⟨X,e⟩⟩
   rw [(Zb h c).2,(Zb k c).2]
theorem jap {P R P':List UInt8}{x:Int}(d:jV P)(n:jd9 R)(h:Rest (46 :: (P++R)) P' x):P'=P/\P≠[]/\((R=[]/\x=0)\/(∃Z,R=101 :: Z/\Exp Z x)):=by
 rcases h with ⟨e,a,rfl⟩ | ⟨Z,e,a,ex⟩ | ⟨Z,e,_⟩
 ·injection e with _ e2
  have e3:P++R=P'++[]:=by rw [e2,List.append_nil]
  obtain⟨h1,h2⟩:=JN e3 d a.2 n jcT;subst h1;exact⟨rfl,a.1,.inl ⟨h2,rfl⟩⟩
 ·injection e with _ e2
  obtain⟨h1,h2⟩:=JN e2 d a.2 n (Xj (by decide));subst h1;exact⟨rfl,a.1,.inr ⟨Z,h2,ex⟩⟩
 ·injection e with e1 _;exact absurd e1 (by decide)
theorem jd3 {Z P:List UInt8}{x:Int}(h:Rest (101 :: Z) P x):P=[]/\Exp Z x:=by
 rcases h with ⟨e,_⟩ | ⟨Z',e,_⟩ | ⟨Z',e,p,ex⟩
 ·injection e with e1 _;exact absurd e1 (by decide)
 ·injection e with e1 _;exact absurd e1 (by decide)
 ·injection e with _ e2;subst e2;exact⟨p,ex⟩
theorem jfe {b:UInt8}{r P:List UInt8}{x:Int}(h1:b≠46)(h2:b≠101)(h:Rest (b :: r) P x):False:=by
 rcases h with ⟨e,_⟩ | ⟨Z',e,_⟩ | ⟨Z',e,_⟩
 ·injection e with e1 _;exact h1 e1
 ·injection e with e1 _;exact h1 e1
 ·injection e with e1 _;exact h2 e1
theorem jiL {P:List UInt8}{x:Int}(h:Rest [] P x):False:=by
 rcases h with ⟨e,_⟩ | ⟨Z',e,_⟩ | ⟨Z',e,_⟩<;>cases e
theorem jgw:∀(R:List UInt8),∃P S,R=P++S/\jV P/\jd9 S:=by
 intro R
 induction R with
 | nil=>exact⟨[],[],rfl,fun b hb=>(by cases hb),jcT⟩
 | cons b r ih=>
  by_cases c:48<=b.toNat/\b.toNat<=57
  ·obtain⟨P,S,e,d,n⟩:=ih
   exact⟨b :: P,S,by rw [e];rfl,qT.2 ⟨c,d⟩,n⟩
  ·exact⟨[],b :: r,rfl,fun b hb=>(by cases hb),Xj c⟩
theorem jcU {R P P':List UInt8}{x y:Int}(h:Rest R P x)(k:Rest R P' y):P=P'/\x=y:=by
 cases R with
 | nil=>exact absurd h jiL
 | cons b r=>
  by_cases c1:b=46
  ·subst c1
   obtain⟨Q,S,rfl,d,n⟩:=jgw r;obtain⟨a1,_,a2⟩:=jap d n h;obtain⟨b1,_,b2⟩:=jap d n k;refine⟨by rw [a1,b1],?_⟩
   rcases a2 with ⟨s,e⟩ | ⟨Z,s,e⟩<;>rcases b2 with ⟨s',e'⟩ | ⟨Z',s',e'⟩
   ·rw [e,e']
   ·rw [s] at s';cases s'
   ·rw [s'] at s;cases s
   ·rw [s] at s'
    injection s' with _ s2;subst s2;exact Yn e e'
  ·by_cases c2:b=101
   ·subst c2
    obtain⟨a1,a2⟩:=jd3 h;obtain⟨b1,b2⟩:=jd3 k;exact⟨by rw [a1,b1],Yn a2 b2⟩
   ·exact absurd h (jfe c1 c2)
theorem jff {t W P W' P':List UInt8}{x y:Int}(h:Num t W P x)(k:Num t W' P' y):W=W'/\P=P'/\x=y:=by
 obtain⟨R,e,a,_,r⟩:=h;obtain⟨h1,h2⟩:=jgK e a.2 (jbM r) k;obtain⟨h3,h4⟩:=jcU r h2;exact⟨h1.symm,h3,h4⟩
def Res (t:List UInt8)(sg v:Nat)(e:Int):Prop :=
 (∃W P x r,Num t W P x/\zO (dec (W++P)) (x - (P.length:Int)) r/\((r=9218868437227405312/\v=0/\e=7)\/(r≠9218868437227405312/\v=sg+r/\e=0)))\/((¬∃W P x,Num t W P x)/\v=0/\e=4)
theorem jfr {t:List UInt8}{sg v v':Nat}{e e':Int}(h:Res t sg v e)(k:Res t sg v' e'):v=v'/\e=e':=by
 rcases h with ⟨W,P,x,r,n,d,c⟩ | ⟨n,a,b⟩<;>rcases k with ⟨W',P',x',r',n',d',c'⟩ | ⟨n',a',b'⟩
 ·obtain⟨h1,h2,h3⟩:=jff n n'
  subst h1 h2 h3;have hr:=JY d d';subst hr
  rcases c with ⟨c1,c2,c3⟩ | ⟨c1,c2,c3⟩<;>rcases c' with ⟨d1,d2,d3⟩ | ⟨d1,d2,d3⟩
  ·exact⟨by rw [c2,d2],by rw [c3,d3]⟩
  ·exact absurd c1 d1
  ·exact absurd d1 c1
  ·exact⟨by rw [c2,d2],by rw [c3,d3]⟩
 ·exact absurd ⟨W,P,x,n⟩ n'
 ·exact absurd ⟨W',P',x',n'⟩ n
 ·exact⟨by rw [a,a'],by rw [b,b']⟩
theorem jf0 (k:Nat):(2:Nat) ^ (3*k)<=10 ^ k:=by
 rw [Nat.pow_mul];exact Nat.pow_le_pow_left (by decide) k
theorem jjb:mid 0=2:=by unfold mid jeq step;rw [if_pos (by decide)]
theorem Yo {m:Nat}{x:Int}(hm:m<10 ^ 80)(hx:x < -500):zO m x 0:=by
 by_cases h:m=0
 ·exact .inl ⟨h,rfl⟩
 ·refine .inr ⟨h,jcH (p10 _) (by decide) (.inl rfl) (.inl ?_)⟩
  rw [jjb,show x.toNat=0 by omega,Nat.pow_zero,Nat.mul_one];obtain⟨k,hk⟩:∃k,(-x).toNat=80+k:=⟨(-x).toNat - 80,by omega⟩
  have hk2:420<k:=by omega
  rw [hk,Nat.pow_add]
  have h1:T76<=10 ^ k:=by
   refine Nat.le_trans ?_ (jf0 k)
   have e:T76=2 ^ (c74+2):=by rw [jk1,Nat.pow_add,Nat.mul_comm]
   rw [e];refine Nat.pow_le_pow_right (by decide) ?_
   show 1074+2<=3*k
   omega
  have h2:m*T76<10 ^ 80*T76:=Nat.mul_lt_mul_of_pos_right hm (Nat.mul_pos (by decide) (Nat.pow_pos (by decide)));have h3:10 ^ 80*T76<=10 ^ 80*10 ^ k:=Nat.mul_le_mul_left _ h1;generalize 10 ^ 80*10 ^ k=A at *;omega
theorem jbV {m:Nat}{x:Int}(hm:m≠0)(hx:400<x):zO m x 9218868437227405312:=by
 refine .inr ⟨hm,jec (p10 _) (.inr (.inl ?_))⟩;rw [show 9218868437227405312 - 1=9218868437227405311 from rfl,jjJ,show(-x).toNat=0 by omega,Nat.pow_zero,Nat.mul_one];refine Nat.mul_lt_mul_of_pos_right ?_ (Nat.mul_pos (by decide) (Nat.pow_pos (by decide)))
 have h1:18014398509481983*2 ^ jgY<2 ^ 54*2 ^ jgY:=Nat.mul_lt_mul_of_pos_right (by decide) (Nat.pow_pos (by decide));refine Nat.lt_of_lt_of_le h1 ?_
 have h2:2 ^ 54*2 ^ jgY<=2 ^ (3*x.toNat):=by
  rw [<-Nat.pow_add];refine Nat.pow_le_pow_right (by decide) ?_
  show 54+970<=_
  omega
 refine Nat.le_trans h2 (Nat.le_trans (jf0 _) ?_);exact Nat.le_mul_of_pos_left _ (Nat.pos_of_ne_zero hm)
def Alike (x y:Int):Prop:=x=y\/(400<x/\400<y)\/(x < -500/\y < -500)
theorem YU {m r:Nat}{x y:Int}(hm:m<10 ^ 80)(h:Alike x y)(k:zO m x r):zO m y r:=by
 rcases h with rfl | ⟨h1,h2⟩ | ⟨h1,h2⟩
 ·exact k
 ·by_cases z:m=0
  ·rcases k with ⟨_,b⟩ | ⟨a,_⟩
   ·exact .inl ⟨z,b⟩
   ·exact absurd z a
  ·rw [JY k (jbV z h1)]
   exact jbV z h2
 ·rw [JY k (Yo hm h1)]
  exact Yo hm h2
end bigs
end Go.Proofs.YtnbfnjhbmeocfaaGreatDoor
