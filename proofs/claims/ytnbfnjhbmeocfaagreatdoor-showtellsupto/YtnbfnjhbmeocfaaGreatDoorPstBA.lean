/- Of our texts, what this claim reaches. -/
import Derived.Test.YtnbfnjhbmeocfaaGreatDoorPstAZ
import Derived.StillTail
import Derived.Deep.QuietTactic
set_option linter.unusedVariables false
set_option maxHeartbeats 8000000
set_option maxRecDepth 100000
namespace Go.Proofs.YtnbfnjhbmeocfaaGreatDoor
namespace bigs
open Go.RowKit
theorem Y8 (n:Nat):bits n=0↔n=0:=by
 constructor
 ·intro h
  by_cases c:n=0
  ·exact c
  ·have:=Yl c;omega
 ·intro h;rw [h,zd]
theorem jdT (w:World)(d:Value)(A B:Nat)(h:DivOf w d A B)(h0:0<B) :
  Calls Tryz.prog 291 #[d] w fun e w'=>e=.returned (.bool (decide (A % B=0)))/\Below w.heap.size w w':=by
 obtain⟨a1,n1,c1,a2,n2,c2,a3,n3,c3,rfl,h1,h2,k,h3,sk,lk,hk⟩:=h;have hbl:(jh B).length<=10000:=by rw [<-hk];exact Nat.le_trans (jp sk) lk
 have hml:(jh (A % B)).length<=900000:=Nat.le_trans (ZH (Nat.le_of_lt (Nat.mod_lt A h0))) (by omega)
 have KL:∀w',Below w.heap.size w w'->Hid (Calls Tryz.prog 163 #[.slice a2 n2 c2] w' fun e w''=>e=.returned (.int .i64 (bits (A % B)))/\Below w'.heap.size w' w''):=fun w' hb=>by
  have h:=jit w' _ (jh (A % B)) (h2.below hb) (jn _) (by omega);rw [ju] at h;exact jb h
 have HD:Hid (decide ((bits (A % B):Int)=0)=decide (A % B=0)):=jb (by have:=Y8 (A % B);simp;omega);have b0:Below w.heap.size w (w.alloc (.cells #[.slice a1 n1 c1,.slice a2 n2 c2,.slice a3 n3 c3] 246)):=(Below.refl _ _).alloc (Nat.le_refl _) _;have K:=KL _ b0;clear KL h1 h2 h3 hbl hml;generalize bits (A % B)=q at *
 go_enter Tryz.func291,Tryz.ntmps291
 go_wp2_with fail
 refine(ja K).mono ?_
 rintro e w1 ⟨rfl,b1⟩
 have bw:=b0.trans (b1.mono b0.size);clear K b0 b1;go_wp2;go_ret;refine⟨?_,bw⟩;rw [<-ja HD];rfl
theorem jbl (w:World)(n:Int)(h1 : -2000<=n)(h2:n<=2000) :
  Calls Tryz.prog 288 #[.int .i64 n] w fun e w'=>e=.returned (.int .i64 (n*1262611 / 4194304))/\w'=w:=by
 go_enter Tryz.func288,Tryz.ntmps288
 go_wp2;go_ret;exact⟨rfl,rfl⟩
theorem XT {w:World}{d:Value}{A B b:Nat}(hd:DivOf w d A B)(bk:Blk w b #[.slice none 0 0,.slice none 0 0,.slice none 0 0] 246) :
  ∀a4 n4 c4 a5 n5 c5 a6 n6 c6,d=.agg #[.slice a4 n4 c4,.slice a5 n5 c5,.slice a6 n6 c6]->DivOf (((w.setCell ⟨b,0,none⟩ (.slice a4 n4 c4)).setCell ⟨b,1,none⟩ (.slice a5 n5 c5)).setCell ⟨b,2,none⟩ (.slice a6 n6 c6)) d A B:=jaE hd bk
theorem jdH (w:World)(q N:Nat)(x:Int)(hq:q<18446744073709551616)(hx1 : -1100<=x)(hx2:x<=1100)(hN:N<=1000) :
  Calls Tryz.prog 290 #[.int .u64 q,.int .i64 x,.int .i64 N] w fun e w'=>∃d,e=.returned d/\DivOf w' d (q*2 ^ x.toNat) (10 ^ N*2 ^ (-x).toNat)/\Below w.heap.size w w':=by
 have K1:∀w,Hid _:=fun w=>jb (ja6 w q hq)
 have K2:∀w,Hid (Calls Tryz.prog 165 #[.int .i64 N] w fun e w'=>∃v,e=.returned v/\WBig w' v (10 ^ N)/\Below w.heap.size w w'):=fun w=>jb (jaA w N hN)
 have K3:∀w v u l,WSl w v l->je l->l.length=2->jc l=q->WBig w u (10 ^ N)->Hid (Calls Tryz.prog 205 #[v,u,.int .i64 (-x)] w fun e w'=>∃d,e=.returned d/\DivOf w' d (q*2 ^ x.toNat) (10 ^ N*2 ^ (-x).toNat)/\Below w.heap.size w w'):=fun w v u l hv sl hl hq hu=>by
  have h:=Yy w v u l (jh (10 ^ N)) (-x) hv hu sl (jn _) (by omega) (by have:=Z0 hN;omega) (by omega) (by omega) (by rw [ju];exact Nat.ne_of_gt (Nat.pow_pos (by decide)));rw [ju,hq,Int.neg_neg] at h;exact jb h
 have i1:¬(N:Int)<0:=by omega
 generalize q*2 ^ x.toNat=A at *;generalize 10 ^ N*2 ^ (-x).toNat=B at *;generalize 10 ^ N=T at *
 go_enter Tryz.func290,Tryz.ntmps290
 go_wp2_with fail
 have b0:Below w.heap.size w (w.alloc (.cells #[.slice none 0 0,.slice none 0 0,.slice none 0 0] 246)):=(Below.refl _ _).alloc (Nat.le_refl _) _;have bk0:=jd w #[.slice none 0 0,.slice none 0 0,.slice none 0 0] 246;generalize w.alloc (.cells #[.slice none 0 0,.slice none 0 0,.slice none 0 0] 246)=w0 at *;refine(ja (K1 w0)).mono ?_
 rintro e w1 ⟨v1,l1,rfl,h1,s1,n1,e1,b1⟩
 have bw1:=b0.trans (b1.mono b0.size);have bk1:=bk0.below b1;clear K1 b0 b1 bk0
 go_wp2_with fail
 refine(ja (K2 w1)).mono ?_
 rintro e w2 ⟨v2,rfl,h2,b2⟩
 have bw2:=bw1.trans (b2.mono bw1.size);have bk2:=bk1.below b2;have K3':=K3 w2 v1 v2 l1 (h1.below b2) s1 n1 e1 h2;clear K2 K3 h1 s1 n1 e1 h2 b2 bw1 bk1
 go_wp2_with fail
 refine(ja K3').mono ?_
 rintro e w3 ⟨d,rfl,hd,b3⟩
 have bw3:=bw2.trans (b3.mono bw2.size);have bk3:=bk2.below b3;have FD:=jb (XT (b:=w.heap.size) hd bk3);have BF:∀u1 u2 u3,Hid _:=fun u1 u2 u3=>jb (Jh (b:=w.heap.size) bw3 (Nat.le_refl _) u1 u2 u3)
 obtain⟨a4,n4,c4,a5,n5,c5,a6,n6,c6,rfl,_⟩:=hd;have c0:=bk3.cell 0 _ rfl;have c1:=bk3.cell 1 _ rfl;have c2:=bk3.cell 2 _ rfl;have z0:=bk3.froz 0;have z1:=bk3.froz 1;have z2:=bk3.froz 2;have F:=bk3.set3 (.slice a4 n4 c4) (.slice a5 n5 c5) (.slice a6 n6 c6);have FC:=jb (And.intro (F.cell 0 _ rfl) (And.intro (F.cell 1 _ rfl) (F.cell 2 _ rfl)));clear K3' b3 bw2 bk2 bk3 F bw3;go_wp2;have FI:=ja FD _ _ _ _ _ _ _ _ _ rfl;have BB:=ja (BF (.slice a4 n4 c4) (.slice a5 n5 c5) (.slice a6 n6 c6));obtain⟨f0,f1,f2⟩:=ja FC;clear FD BF FC c0 c1 c2 z0 z1 z2;generalize (((w3.setCell ⟨w.heap.size,0,none⟩ (.slice a4 n4 c4)).setCell ⟨w.heap.size,1,none⟩ (.slice a5 n5 c5)).setCell ⟨w.heap.size,2,none⟩ (.slice a6 n6 c6))=wF at *;refine bodyPost_ret (v:=.agg #[.slice a4 n4 c4,.slice a5 n5 c5,.slice a6 n6 c6]) (by simp [results,Tryz.results290,go_sem,f0,f1,f2]) rfl ?_
 exact⟨_,rfl,FI,BB⟩
theorem jbA (w:World)(q N:Nat)(x:Int)(hq:q<18446744073709551616)(hx1 : -1100<=x)(hx2:x<=1100)(hN:N<=1000)(hN1:1<=N) :
  Calls Tryz.prog 290 #[.int .u64 q,.int .i64 x,.int .i64 (-(N:Int))] w fun e w'=>∃d,e=.returned d/\DivOf w' d (q*10 ^ N*2 ^ x.toNat) (1*2 ^ (-x).toNat)/\Below w.heap.size w w':=by
 have K1:∀w,Hid _:=fun w=>jb (ja6 w q hq)
 have K2:∀w,Hid (Calls Tryz.prog 165 #[.int .i64 N] w fun e w'=>∃v,e=.returned v/\WBig w' v (10 ^ N)/\Below w.heap.size w w'):=fun w=>jb (jaA w N hN)
 have hTl:=Z0 hN
 have K4:∀w v u l,WSl w v l->je l->l.length=2->jc l=q->WBig w u (10 ^ N)->Hid (Calls Tryz.prog 166 #[v,u] w fun e w'=>∃v',e=.returned v'/\WBig w' v' (q*10 ^ N)/\Below w.heap.size w w'):=fun w v u l hv sl hl hq hu=>by
  have h:=jbT w v u l (jh (10 ^ N)) hv hu sl (jn _) (by omega) (by omega);rw [ju,hq] at h;exact jb h
 have hPl:(jh (q*10 ^ N)).length<=1003:=by
  have h1:=QR q (10 ^ N);have h2:=za (n:=q) (k:=2) (by simpa using hq);omega
 have K3:∀w v u,WBig w v (q*10 ^ N)->WSl w u [1]->Hid (Calls Tryz.prog 205 #[v,u,.int .i64 (-x)] w fun e w'=>∃d,e=.returned d/\DivOf w' d (q*10 ^ N*2 ^ x.toNat) (1*2 ^ (-x).toNat)/\Below w.heap.size w w'):=fun w v u hv hu=>by
  have h:=Yy w v u (jh (q*10 ^ N)) [1] (-x) hv hu (jn _) (q9 (by decide)) (by omega) (by simp) (by omega) (by omega) (by rw [zf];decide);rw [ju,zf,Int.neg_neg] at h;exact jb h
 have i1 : -(N:Int)<0:=by omega
 clear hPl hTl;generalize q*10 ^ N*2 ^ x.toNat=A at *;generalize 1*2 ^ (-x).toNat=B at *;generalize q*10 ^ N=M at *;generalize 10 ^ N=T at *
 go_enter Tryz.func290,Tryz.ntmps290
 go_wp2_with fail
 have b0:Below w.heap.size w (w.alloc (.cells #[.slice none 0 0,.slice none 0 0,.slice none 0 0] 246)):=(Below.refl _ _).alloc (Nat.le_refl _) _;have bk0:=jd w #[.slice none 0 0,.slice none 0 0,.slice none 0 0] 246;generalize w.alloc (.cells #[.slice none 0 0,.slice none 0 0,.slice none 0 0] 246)=w0 at *;refine(ja (K1 w0)).mono ?_
 rintro e w1 ⟨v1,l1,rfl,h1,s1,n1,e1,b1⟩
 have bw1:=b0.trans (b1.mono b0.size);have bk1:=bk0.below b1;clear K1 b0 b1 bk0
 go_wp2_with fail
 refine(ja (K2 w1)).mono ?_
 rintro e w2 ⟨v2,rfl,h2,b2⟩
 have bw2:=bw1.trans (b2.mono bw1.size);have bk2:=bk1.below b2;have K4':=K4 w2 v1 v2 l1 (h1.below b2) s1 n1 e1 h2;clear K2 K4 h1 s1 n1 e1 h2 b2 bw1 bk1
 go_wp2_with fail
 refine(ja K4').mono ?_
 rintro e w4 ⟨v4,rfl,h4,b4⟩
 have bw4:=bw2.trans (b4.mono bw2.size);have bk4:=(bk2.below b4).alloc (.cells #[.int .u32 1] 222);have b5:Below w4.heap.size w4 (w4.alloc (.cells #[.int .u32 1] 222)):=(Below.refl _ _).alloc (Nat.le_refl _) _;have bw5:=bw4.trans (b5.mono bw4.size);have K3':=K3 _ _ _ (h4.below b5) ⟨_,1,rfl,by simp,Zu w4 1⟩;clear K4' K3 h4 b4 b5 bw2 bw4 bk2
 go_wp2_with fail
 refine(ja K3').mono ?_
 rintro e w3 ⟨d,rfl,hd,b3⟩
 have bw3:=bw5.trans (b3.mono bw5.size);have bk3:=bk4.below b3;have FD:=jb (XT (b:=w.heap.size) hd bk3);have BF:∀u1 u2 u3,Hid _:=fun u1 u2 u3=>jb (Jh (b:=w.heap.size) bw3 (Nat.le_refl _) u1 u2 u3)
 obtain⟨a4,n4,c4,a5,n5,c5,a6,n6,c6,rfl,_⟩:=hd;have c0:=bk3.cell 0 _ rfl;have c1:=bk3.cell 1 _ rfl;have c2:=bk3.cell 2 _ rfl;have z0:=bk3.froz 0;have z1:=bk3.froz 1;have z2:=bk3.froz 2;have F:=bk3.set3 (.slice a4 n4 c4) (.slice a5 n5 c5) (.slice a6 n6 c6);have FC:=jb (And.intro (F.cell 0 _ rfl) (And.intro (F.cell 1 _ rfl) (F.cell 2 _ rfl)));clear K3' b3 bw5 bk4 bk3 F bw3;go_wp2;have FI:=ja FD _ _ _ _ _ _ _ _ _ rfl;have BB:=ja (BF (.slice a4 n4 c4) (.slice a5 n5 c5) (.slice a6 n6 c6));obtain⟨f0,f1,f2⟩:=ja FC;clear FD BF FC c0 c1 c2 z0 z1 z2;generalize (((w3.setCell ⟨w.heap.size,0,none⟩ (.slice a4 n4 c4)).setCell ⟨w.heap.size,1,none⟩ (.slice a5 n5 c5)).setCell ⟨w.heap.size,2,none⟩ (.slice a6 n6 c6))=wF at *;refine bodyPost_ret (v:=.agg #[.slice a4 n4 c4,.slice a5 n5 c5,.slice a6 n6 c6]) (by simp [results,Tryz.results290,go_sem,f0,f1,f2]) rfl ?_
 exact⟨_,rfl,FI,BB⟩
end bigs
end Go.Proofs.YtnbfnjhbmeocfaaGreatDoor
