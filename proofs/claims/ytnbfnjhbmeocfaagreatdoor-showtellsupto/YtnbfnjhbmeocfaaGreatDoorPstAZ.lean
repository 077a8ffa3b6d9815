/- Of our texts, what this claim reaches. -/
import Derived.Test.YtnbfnjhbmeocfaaGreatDoorPstAY
import Derived.Deep.CutRange
set_option linter.unusedVariables false
set_option maxHeartbeats 4000000
set_option maxRecDepth 100000
namespace Go.Proofs.YtnbfnjhbmeocfaaGreatDoor
namespace bigs
open Go.RowKit
theorem jiF (n x:Nat)(hn:n<4294967296)(hx:x<4294967296):Go.bits .or .u64 (n:Int) ((x:Int)*4294967296)=((n+x*4294967296:Nat):Int):=by
 have h:=Xz x n hx hn
 have c:Go.bits .or .u64 (n:Int) ((x:Int)*4294967296)=Go.bits .or .u64 ((x:Int)*4294967296) (n:Int):=by
  unfold Go.bits;simp only [BitVec.or_comm]
 rw [c,h,Nat.add_comm]
theorem jiv (x:Nat)(hx:x<4294967296):Go.bits .or .u64 0 (x:Int)=(x:Int):=by
 have h:=Xz 0 x (by omega) hx;simpa using h
theorem jet (w:World)(v:Value)(l:List Nat)(hv:WSl w v l)(sl:je l)(hl:l.length<=2) :
  Calls Tryz.prog 237 #[v] w fun e w'=>e=.returned (.int .u64 (jc l))/\w'=w:=by
 obtain⟨a,ca,rfl,hca,ra⟩:=hv
 go_enter Tryz.func237,Tryz.ntmps237
 go_wp2
 go_loopw [8,3] (fun i n wr=>∃k:Nat,k<=l.length/\i=.int .i64 k/\n=.int .u64 (jc (l.take k))/\wr=w) (fun i _ _=>l.length - (intOf i).toNat)
 case atStart=>exact⟨0,Nat.zero_le _,rfl,rfl,rfl⟩
 case round=>
  obtain⟨k,hk,rfl,rfl,rfl⟩:=hrel
  by_cases hlt:k<l.length
  ·obtain⟨ba,oa,rfl,hba,hca⟩:=ra (by intro e;rw [e] at hlt;simp at hlt)
   have c1:=hca k hlt;have x1:l.getD k 0<4294967296:=sl k hlt;have hs:=jK l k;have H:Hid (jc (l.take (k+1))=jc (l.take k)+4294967296 ^ k*l.getD k 0):=jb hs;clear hs hca ra;have hk2:k=0\/k=1:=by omega
   rcases hk2 with rfl | rfl
   ·have z:jc (l.take 0)=0:=rfl
    rw [Nat.add_zero] at c1;have o:=jiv _ x1;rw [z];generalize l.getD 0 0=x at *;go_wp2;go_roundw
    case rel=>exact⟨1,by omega,by go_num,by rw [ja H,z];simp,by trivial⟩
    case measure=>simp [intOf];omega
   ·have z:jc (l.take 1)<4294967296:=by
     have:=Jo (Jb sl 1);have e:(l.take 1).length=1:=by rw [List.length_take];omega
     rw [e] at this;simpa using this
    have o:=jiF (jc (l.take 1)) _ z x1;generalize jc (l.take 1)=y at *;generalize l.getD 1 0=x at *;go_wp2;go_roundw
    case rel=>exact⟨2,by omega,by go_num,by rw [ja H];simp [Nat.mul_comm],by trivial⟩
    case measure=>simp [intOf];omega
  ·have hkl:k=l.length:=by omega
   subst hkl;rw [List.take_length];go_wp2;go_ret;exact⟨rfl,rfl⟩
theorem jfT (w:World)(v:Value)(n:Nat)(hv:WBig w v n)(hn:n<18446744073709551616) :
  Calls Tryz.prog 237 #[v] w fun e w'=>e=.returned (.int .u64 n)/\w'=w:=by
 have h:=jet w v (jh n) hv (jn n) (za (by simpa using hn));rwa [ju] at h
theorem ja6 (w:World)(n:Nat)(hn:n<18446744073709551616) :
  Calls Tryz.prog 303 #[.int .u64 n] w fun e w'=>∃v l,e=.returned v/\WSl w' v l/\je l/\l.length=2/\jc l=n/\Below w.heap.size w w':=by
 obtain⟨hi,h1⟩:∃hi,hi=n / 4294967296:=⟨_,rfl⟩
 obtain⟨lo,h2⟩:∃lo,lo=n % 4294967296:=⟨_,rfl⟩
 have n1:(n:Int) / 4294967296=(hi:Int):=by omega
 have n2:(n:Int) % 4294967296=(lo:Int):=by omega
 have n3:(hi:Int) % 4294967296=(hi:Int):=by omega
 have hh:hi<4294967296:=by omega
 have hl:lo<4294967296:=by omega
 have hs:n=lo+4294967296*hi:=by omega
 have HS:=jb hs;clear h1 h2 hs
 go_enter Tryz.func303,Tryz.ntmps303
 go_wp2;go_ret;exact⟨_,[lo,hi],rfl,⟨_,_,rfl,by simp,jjf w lo hi⟩,qi.2 ⟨hl,q9 hh⟩,rfl,by rw [ja HS];simp [jc],(Below.refl _ _).alloc (Nat.le_refl _) _⟩
theorem jaA (w:World)(n:Nat)(hn:n<=1000) :
  Calls Tryz.prog 165 #[.int .i64 n] w fun e w'=>∃v,e=.returned v/\WBig w' v (10 ^ n)/\Below w.heap.size w w':=by
 have K1:=jb (jiI w 10 n (by omega) hn);generalize 10 ^ n=T at *
 go_enter Tryz.func165,Tryz.ntmps165
 go_wp2_with fail
 refine(ja K1).mono ?_
 rintro e w1 ⟨v1,rfl,h1,b1⟩
 have H1:=jb h1;clear h1 K1;go_wp2;go_ret;exact⟨_,rfl,ja H1,b1⟩
theorem no3:Zc #[.slice none 0 0,.slice none 0 0,.slice none 0 0]:=QP _ _ _ (fun _ h=>by cases h) (fun _ h=>by cases h) (fun _ h=>by cases h)
theorem zZ {m N:Nat}:(jh (m*2 ^ N)).length<=(jh m).length+N+1:=by
 have h:=QR m (2 ^ N);have h2:=Zq (b:=2) (e:=N) (by decide);omega
theorem YS {w:World}{v:Value}{l:List Nat}(h:WSl w v l):∀q,v≠.int .u32 q:=by
 obtain⟨a,c,rfl,_⟩:=h;intro q e;cases e
theorem Yt {w2:World}{v1 v2 v3:Value}{n1 n2:Nat}(b:Nat)(bk:Blk w2 b #[.slice none 0 0,.slice none 0 0,.slice none 0 0] 246){k3:List Nat}(h1:WBig w2 v1 n1)(h2:WBig w2 v2 n2)(h3:WSl w2 v3 k3) :
  (((w2.setCell ⟨b,0,none⟩ v1).setCell ⟨b,1,none⟩ v2).setCell ⟨b,2,none⟩ v3).cell? ⟨b,0,none⟩=some v1/\(((w2.setCell ⟨b,0,none⟩ v1).setCell ⟨b,1,none⟩ v2).setCell ⟨b,2,none⟩ v3).cell? ⟨b,1,none⟩=some v2/\
  (((w2.setCell ⟨b,0,none⟩ v1).setCell ⟨b,1,none⟩ v2).setCell ⟨b,2,none⟩ v3).cell? ⟨b,2,none⟩=some v3/\WBig (((w2.setCell ⟨b,0,none⟩ v1).setCell ⟨b,1,none⟩ v2).setCell ⟨b,2,none⟩ v3) v1 n1/\
  WBig (((w2.setCell ⟨b,0,none⟩ v1).setCell ⟨b,1,none⟩ v2).setCell ⟨b,2,none⟩ v3) v2 n2/\WSl (((w2.setCell ⟨b,0,none⟩ v1).setCell ⟨b,1,none⟩ v2).setCell ⟨b,2,none⟩ v3) v3 k3:=by
 have F:=bk.set3 v1 v2 v3;have m1:=YS h1;have m2:=YS h2;exact⟨F.cell 0 _ rfl,F.cell 1 _ rfl,F.cell 2 _ rfl,WSl.set3 h1 bk no3 _ _ _ m1 m2,WSl.set3 h2 bk no3 _ _ _ m1 m2,WSl.set3 h3 bk no3 _ _ _ m1 m2⟩
theorem jgi (w:World)(v u:Value)(l k:List Nat)(N B:Nat)(hv:WSl w v l)(hu:WSl w u k)(sl:je l)(sk:je k)(ll:l.length<=2000)(lk:k.length<=2000)(hN:N<=4000)(h0:jc k≠0)(hB:B=jc k*2 ^ N) :
  Calls Tryz.prog 205 #[v,u,.int .i64 N] w fun e w'=>∃v1 v2 v3,e=.returned (.agg #[v1,v2,v3])/\WBig w' v1 (jc l / B)/\WBig w' v2 (jc l % B)/\WBig w' v3 B/\Below w.heap.size w w':=by
 have hB0:B≠0:=by rw [hB];exact Nat.mul_ne_zero h0 (Nat.ne_of_gt (Nat.pow_pos (by decide)))
 have hBl:(jh B).length<=300000:=by rw [hB];have:=zZ (m:=jc k) (N:=N);have:=jp sk;omega
 have K1:∀w,WSl w u k->Hid (Calls Tryz.prog 235 #[u,.int .i64 N] w fun e w'=>∃v',e=.returned (.tuple #[v',.int .i64 0])/\WBig w' v' B/\Below w.heap.size w w'):=fun w hu=>by rw [hB];exact jb (Xb w u k N hu sk (by omega) hN)
 have K2:∀w u,WSl w v l->WBig w u B->Hid (Calls Tryz.prog 236 #[v,u] w fun e w'=>∃v1 v2,e=.returned (.tuple #[v1,v2,.int .i64 0])/\WBig w' v1 (jc l / B)/\WBig w' v2 (jc l % B)/\Below w.heap.size w w'):=fun w u hv hu=>by
  have h:=jfa w v u l (jh B) hv hu sl (jn _) (by omega) hBl (by rw [ju];exact hB0);rw [ju] at h;exact jb h
 clear hB hBl hB0;have i1:¬((N:Int)<0):=by omega
 go_enter Tryz.func205,Tryz.ntmps205
 go_wp2_with fail
 have b0:Below w.heap.size w (w.alloc (.cells #[.slice none 0 0,.slice none 0 0,.slice none 0 0] 246)):=(Below.refl _ _).alloc (Nat.le_refl _) _;have bk0:=jd w #[.slice none 0 0,.slice none 0 0,.slice none 0 0] 246;generalize w.alloc (.cells #[.slice none 0 0,.slice none 0 0,.slice none 0 0] 246)=w0 at *;refine(ja (K1 w0 (hu.below b0))).mono ?_
 rintro e w1 ⟨v1,rfl,h1,b1⟩
 have hv1:=(hv.below b0).below b1;have H1:=jb h1;have K3:=K2 w1 v1 hv1 h1;obtain⟨a1,q1,rfl,_,_⟩:=h1;clear hv1 K1 K2
 go_wp2_with fail
 refine(ja K3).mono ?_
 rintro e w2 ⟨v2,v3,rfl,h2,h3,b2⟩
 have bk2:=(bk0.below b1).below b2;have bw:=b0.trans (b1.mono b0.size |>.trans (b2.mono (Nat.le_trans b0.size b1.size)));have FIN:=jb (Yt w.heap.size bk2 h2 h3 ((ja H1).below b2));have BF:∀u1 u2 u3,Hid _:=fun u1 u2 u3=>jb (Jh (b:=w.heap.size) bw (Nat.le_refl _) u1 u2 u3)
 obtain⟨a2,q2,rfl,_,_⟩:=h2;obtain⟨a3,q3,rfl,_,_⟩:=h3;have c0:=bk2.cell 0 _ rfl;have c1:=bk2.cell 1 _ rfl;have c2:=bk2.cell 2 _ rfl;have z0:=bk2.froz 0;have z1:=bk2.froz 1;have z2:=bk2.froz 2;clear K3 bk0 bk2 b0 b1 b2 H1 bw;generalize (jh B).length=n1 at *;generalize (jh (jc l / B)).length=n2 at *;generalize (jh (jc l % B)).length=n3 at *;go_wp2;have FI:=ja FIN;have BB:=ja (BF (.slice a2 n2 q2) (.slice a3 n3 q3) (.slice a1 n1 q1));clear FIN BF c0 c1 c2 z0 z1 z2;generalize (((w2.setCell ⟨w.heap.size,0,none⟩ (.slice a2 n2 q2)).setCell ⟨w.heap.size,1,none⟩ (.slice a3 n3 q3)).setCell ⟨w.heap.size,2,none⟩ (.slice a1 n1 q1))=wF at *;obtain⟨f0,f1,f2,F1,F2,F3⟩:=FI;refine bodyPost_ret (v:=.agg #[.slice a2 n2 q2,.slice a3 n3 q3,.slice a1 n1 q1]) (by simp [results,Tryz.results205,go_sem,f0,f1,f2]) rfl ?_
 exact⟨_,_,_,rfl,F1,F2,F3,BB⟩
theorem jcT (w:World)(v u:Value)(l k:List Nat)(N A:Nat)(hv:WSl w v l)(hu:WSl w u k)(sl:je l)(sk:je k)(ll:l.length<=2000)(lk:k.length<=2000)(hN:N<=4000)(hN1:1<=N)(h0:jc k≠0)(hA:A=jc l*2 ^ N) :
  Calls Tryz.prog 205 #[v,u,.int .i64 (-(N:Int))] w fun e w'=>∃v1 v2 v3,e=.returned (.agg #[v1,v2,v3])/\WBig w' v1 (A / jc k)/\WBig w' v2 (A % jc k)/\WSl w' v3 k/\Below w.heap.size w w':=by
 have hAl:(jh A).length<=300000:=by rw [hA];have:=zZ (m:=jc l) (N:=N);have:=jp sl;omega
 have K1:∀w,WSl w v l->Hid (Calls Tryz.prog 235 #[v,.int .i64 N] w fun e w'=>∃v',e=.returned (.tuple #[v',.int .i64 0])/\WBig w' v' A/\Below w.heap.size w w'):=fun w hu=>by rw [hA];exact jb (Xb w v l N hu sl (by omega) hN)
 have K2:∀w v,WBig w v A->WSl w u k->Hid (Calls Tryz.prog 236 #[v,u] w fun e w'=>∃v1 v2,e=.returned (.tuple #[v1,v2,.int .i64 0])/\WBig w' v1 (A / jc k)/\WBig w' v2 (A % jc k)/\Below w.heap.size w w'):=fun w v hv hu=>by
  have h:=jfa w v u (jh A) k hv hu (jn _) sk hAl (by omega) h0;rw [ju] at h;exact jb h
 clear hA hAl h0;have i1 : -(N:Int)<0:=by omega
 go_enter Tryz.func205,Tryz.ntmps205
 go_wp2_with fail
 have b0:Below w.heap.size w (w.alloc (.cells #[.slice none 0 0,.slice none 0 0,.slice none 0 0] 246)):=(Below.refl _ _).alloc (Nat.le_refl _) _;have bk0:=jd w #[.slice none 0 0,.slice none 0 0,.slice none 0 0] 246;generalize w.alloc (.cells #[.slice none 0 0,.slice none 0 0,.slice none 0 0] 246)=w0 at *;refine(ja (K1 w0 (hv.below b0))).mono ?_
 rintro e w1 ⟨v1,rfl,h1,b1⟩
 have hu1:=(hu.below b0).below b1;have HU:=jb hu1;have K3:=K2 w1 v1 h1 hu1;obtain⟨a1,q1,rfl,_,_⟩:=h1;clear hu1 K1 K2
 go_wp2_with fail
 refine(ja K3).mono ?_
 rintro e w2 ⟨v2,v3,rfl,h2,h3,b2⟩
 have bk2:=(bk0.below b1).below b2;have bw:=b0.trans (b1.mono b0.size |>.trans (b2.mono (Nat.le_trans b0.size b1.size)));have FIN:=jb (Yt w.heap.size bk2 h2 h3 ((ja HU).below b2));have BF:∀u1 u2 u3,Hid _:=fun u1 u2 u3=>jb (Jh (b:=w.heap.size) bw (Nat.le_refl _) u1 u2 u3)
 obtain⟨a2,q2,rfl,_,_⟩:=h2;obtain⟨a3,q3,rfl,_,_⟩:=h3;obtain⟨a4,q4,rfl,_,_⟩:=hu;have c0:=bk2.cell 0 _ rfl;have c1:=bk2.cell 1 _ rfl;have c2:=bk2.cell 2 _ rfl;have z0:=bk2.froz 0;have z1:=bk2.froz 1;have z2:=bk2.froz 2;clear K3 bk0 bk2 b0 b1 b2 HU bw;generalize (jh A).length=n1 at *;generalize (jh (A / jc k)).length=n2 at *;generalize (jh (A % jc k)).length=n3 at *;go_wp2;have FI:=ja FIN;have BB:=ja (BF (.slice a2 n2 q2) (.slice a3 n3 q3) (.slice a4 k.length q4));clear FIN BF c0 c1 c2 z0 z1 z2;generalize (((w2.setCell ⟨w.heap.size,0,none⟩ (.slice a2 n2 q2)).setCell ⟨w.heap.size,1,none⟩ (.slice a3 n3 q3)).setCell ⟨w.heap.size,2,none⟩ (.slice a4 k.length q4))=wF at *;obtain⟨f0,f1,f2,F1,F2,F3⟩:=FI;refine bodyPost_ret (v:=.agg #[.slice a2 n2 q2,.slice a3 n3 q3,.slice a4 k.length q4]) (by simp [results,Tryz.results205,go_sem,f0,f1,f2]) rfl ?_
 exact⟨_,_,_,rfl,F1,F2,F3,BB⟩
def DivOf (w:World)(v:Value)(A B:Nat):Prop:=∃a1 n1 c1 a2 n2 c2 a3 n3 c3,v=.agg #[.slice a1 n1 c1,.slice a2 n2 c2,.slice a3 n3 c3]/\WBig w (.slice a1 n1 c1) (A / B)/\WBig w (.slice a2 n2 c2) (A % B)/\∃k:List Nat,WSl w (.slice a3 n3 c3) k/\je k/\k.length<=10000/\jc k=B
theorem jjk {w:World}{v1 v2 v3:Value}{A B:Nat}{k:List Nat}(h1:WBig w v1 (A / B))(h2:WBig w v2 (A % B))(h3:WSl w v3 k)(sk:je k)(lk:k.length<=10000)(hk:jc k=B):DivOf w (.agg #[v1,v2,v3]) A B:=by
 have m1:=h1;have m2:=h2;have m3:=h3;obtain⟨a1,c1,rfl,_⟩:=h1;obtain⟨a2,c2,rfl,_⟩:=h2;obtain⟨a3,c3,rfl,_⟩:=h3;exact⟨_,_,_,_,_,_,_,_,_,rfl,m1,m2,k,m3,sk,lk,hk⟩
theorem DivOf.below {w w':World}{v:Value}{A B:Nat}(h:DivOf w v A B)(hb:Below w.heap.size w w'):DivOf w' v A B:=by
 obtain⟨a1,n1,c1,a2,n2,c2,a3,n3,c3,e,h1,h2,k,h3,h4⟩:=h;exact⟨a1,n1,c1,a2,n2,c2,a3,n3,c3,e,h1.below hb,h2.below hb,k,h3.below hb,h4⟩
theorem Yy (w:World)(v u:Value)(l k:List Nat)(x:Int)(hv:WSl w v l)(hu:WSl w u k)(sl:je l)(sk:je k)(ll:l.length<=2000)(lk:k.length<=2000)(hx1 : -4000<=x)(hx2:x<=4000)(h0:jc k≠0) :
  Calls Tryz.prog 205 #[v,u,.int .i64 x] w fun e w'=>∃d,e=.returned d/\DivOf w' d (jc l*2 ^ (-x).toNat) (jc k*2 ^ x.toNat)/\Below w.heap.size w w':=by
 by_cases c:0<=x
 ·obtain⟨N,rfl⟩:∃N:Nat,x=N:=⟨x.toNat,by omega⟩
  rw [show(-(N:Int)).toNat=0 by omega,show((N:Int)).toNat=N by omega,Nat.pow_zero,Nat.mul_one];refine(jgi w v u l k N _ hv hu sl sk ll lk (by omega) h0 rfl).mono ?_
  rintro e w' ⟨v1,v2,v3,rfl,h1,h2,h3,b⟩
  refine⟨_,rfl,jjk h1 h2 h3 (jn _) ?_ (ju _),b⟩;have:=zZ (m:=jc k) (N:=N);have:=jp sk;omega
 ·obtain⟨N,rfl⟩:∃N:Nat,x = -(N:Int):=⟨(-x).toNat,by omega⟩
  rw [show(-(-(N:Int))).toNat=N by omega,show(-(N:Int)).toNat=0 by omega,Nat.pow_zero,Nat.mul_one];refine(jcT w v u l k N _ hv hu sl sk ll lk (by omega) (by omega) h0 rfl).mono ?_
  rintro e w' ⟨v1,v2,v3,rfl,h1,h2,h3,b⟩
  exact⟨_,rfl,jjk h1 h2 h3 sk (by omega) rfl,b⟩
open Go.RowKit
theorem jaE {w:World}{d:Value}{A B b:Nat}{a1 a2 a3:Option Addr}{n1 c1 n2 c2 n3 c3:Nat}(hd:DivOf w d A B)(bk:Blk w b #[.slice a1 n1 c1,.slice a2 n2 c2,.slice a3 n3 c3] 246) :
  ∀a4 n4 c4 a5 n5 c5 a6 n6 c6,d=.agg #[.slice a4 n4 c4,.slice a5 n5 c5,.slice a6 n6 c6]->DivOf (((w.setCell ⟨b,0,none⟩ (.slice a4 n4 c4)).setCell ⟨b,1,none⟩ (.slice a5 n5 c5)).setCell ⟨b,2,none⟩ (.slice a6 n6 c6)) d A B:=by
 intro a4 n4 c4 a5 n5 c5 a6 n6 c6 e;obtain⟨x1,m1,y1,x2,m2,y2,x3,m3,y3,e2,h1,h2,k,h3,h4⟩:=hd;have no:Zc #[.slice a1 n1 c1,.slice a2 n2 c2,.slice a3 n3 c3]:=QP _ _ _ (fun _ h=>by cases h) (fun _ h=>by cases h) (fun _ h=>by cases h);refine⟨x1,m1,y1,x2,m2,y2,x3,m3,y3,e2,?_,?_,k,?_,h4⟩
 ·exact WSl.set3 h1 bk no _ _ _ (fun _ h=>by cases h) (fun _ h=>by cases h)
 ·exact WSl.set3 h2 bk no _ _ _ (fun _ h=>by cases h) (fun _ h=>by cases h)
 ·exact WSl.set3 h3 bk no _ _ _ (fun _ h=>by cases h) (fun _ h=>by cases h)
theorem Z0 {n:Nat}(h:n<=1000):(jh (10 ^ n)).length<=1001:=by have:=Zq (b:=10) (e:=n) (by decide);omega
open Go.RowKit
theorem XP (x:Nat)(hx:x<18446744073709551616):Go.bits .and .u64 (x:Int) 2047=((x % 2048:Nat):Int):=by
 have h:=bits_mask .u64 64 (by decide) Jp 11 (by decide) (x:Int) (by omega) (by omega);have e:((2:Int) ^ 11 - 1)=2047:=by decide
 rw [e] at h;rw [h];omega
theorem YG (x:Nat)(hx:x<18446744073709551616):Go.bits .and .u64 (x:Int) 4503599627370495=((x % 4503599627370496:Nat):Int):=by
 have h:=bits_mask .u64 64 (by decide) Jp 52 (by decide) (x:Int) (by omega) (by omega);have e:((2:Int) ^ 52 - 1)=4503599627370495:=by decide
 rw [e] at h;rw [h];omega
theorem ZL (x:Nat)(hx:x<4503599627370496):Go.bits .or .u64 4503599627370496 (x:Int)=((x+4503599627370496:Nat):Int):=by
 have h:=bits_join .u64 64 (by decide) Jp 52 4503599627370496 (x:Int) (by omega) (by omega) (by omega) (by omega) (by omega) (by omega);rw [h];omega
theorem jbI (x y:Value)(a b:Int)(h:a=b):Ending.returned (.tuple #[x,.int .i64 a,y])=Ending.returned (.tuple #[x,.int .i64 b,y]):=by rw [h]
theorem zW (w:World)(b:Nat)(hb:b<18446744073709551616) :
  Calls Tryz.prog 144 #[.int .u64 b] w fun e w'=>e=.returned (.tuple #[.int .u64 (jo b).1,.int .i64 (jo b).2.1,.int .i64 (jo b).2.2])/\w'=w:=by
 obtain⟨s,hs⟩:∃s,s=b / 4503599627370496:=⟨_,rfl⟩
 have n0:(b:Int) / 4503599627370496=(s:Int):=by omega
 have hs2:s<18446744073709551616:=by omega
 have n1:=YG b hb;have n2:=XP s hs2;have h1:b % 4503599627370496<4503599627370496:=by omega
 have h2:s % 2048<2048:=by omega
 have n3:=ZL _ h1;unfold jo;rw [<-hs];clear hs hs2;generalize b % 4503599627370496=f at *;generalize s % 2048=e at *
 by_cases c1:e=2047
 ·rw [if_pos c1]
  subst c1
  by_cases c2:f=0
  ·rw [if_pos c2]
   subst c2
   go_enter Tryz.func144,Tryz.ntmps144
   go_wp2
   go_ret3
   exact⟨rfl,rfl⟩
  ·rw [if_neg c2]
   have c3:((f:Int) == 0)=false:=beq_false_of_ne (by omega)
   go_enter Tryz.func144,Tryz.ntmps144
   go_wp2
   go_ret3
   exact⟨rfl,rfl⟩
 ·rw [if_neg c1]
  have c4:((e:Int) == 2047)=false:=beq_false_of_ne (by omega)
  by_cases c2:e=0
  ·rw [if_pos c2]
   subst c2
   go_enter Tryz.func144,Tryz.ntmps144
   go_wp2
   go_ret3
   exact⟨rfl,rfl⟩
  ·rw [if_neg c2]
   have c3:((e:Int) == 0)=false:=beq_false_of_ne (by omega)
   go_enter Tryz.func144,Tryz.ntmps144
   go_wp2
   go_ret3
   refine⟨?_,rfl⟩;exact jbI _ _ _ _ (by omega)
open Go.RowKit
def jbf (m:Nat)(x:Int)(r:Nat):Prop:=(m=0/\r=0)\/(m≠0/\Q7 (m*10 ^ x.toNat) (10 ^ (-x).toNat) r)
theorem jbM {a b c r:Nat}(hb:0<b)(hc:0<c)(h:Q7 (a*c) (b*c) r):Q7 a b r:=by
 obtain⟨s,hs⟩:=Xd a b hb;have e:=jb8 h (YK hc hs);rw [e];exact hs
theorem jdo {a b c d r:Nat}(hb:0<b)(hd:0<d)(e:a*d=c*b)(h:Q7 a b r):Q7 c d r:=by
 have h1:=YK hd h;rw [e,Nat.mul_comm b d] at h1;exact jbM hd hb h1
theorem p10 (n:Nat):0<(10:Nat) ^ n:=Nat.pow_pos (by decide)
theorem jcZ {m r k:Nat}{x:Int}(h:jbf m x r):jbf (m*10 ^ k) (x - k) r:=by
 rcases h with ⟨a,b⟩ | ⟨a,b⟩
 ·exact .inl ⟨by rw [a,Nat.zero_mul],b⟩
 ·refine .inr ⟨Nat.mul_ne_zero a (Nat.ne_of_gt (p10 k)),jdo (p10 _) (p10 _) ?_ b⟩
  rw [Nat.mul_assoc,<-Nat.pow_add,Nat.mul_assoc,<-Nat.pow_add,Nat.mul_assoc,<-Nat.pow_add]
  congr 2
  omega
open Go.RowKit
def jgn (l:List UInt8):Prop:=l≠[]/\qp l
def Exp (Z:List UInt8)(x:Int):Prop:=(∃X,Z=45 :: X/\jgn X/\x = -((dec X:Nat):Int))\/(∃X,Z=43 :: X/\jgn X/\x=((dec X:Nat):Int))\/(jgn Z/\x=((dec Z:Nat):Int))
def Rest (R P:List UInt8)(x:Int):Prop:=(R=46 :: P/\jgn P/\x=0)\/(∃Z,R=46 :: (P++101 :: Z)/\jgn P/\Exp Z x)\/(∃Z,R=101 :: Z/\P=[]/\Exp Z x)
def Num (t W P:List UInt8)(x:Int):Prop:=∃R,t=W++R/\jgn W/\(W.length=1\/W.getD 0 0≠48)/\Rest R P x
def Res (t:List UInt8)(sg v:Nat)(e:Int):Prop :=
 (∃W P x r,Num t W P x/\jbf (dec (W++P)) (x - (P.length:Int)) r/\((r=9218868437227405312/\v=0/\e=7)\/(r≠9218868437227405312/\v=sg+r/\e=0)))\/((¬∃W P x,Num t W P x)/\v=0/\e=4)
end bigs
end Go.Proofs.YtnbfnjhbmeocfaaGreatDoor
