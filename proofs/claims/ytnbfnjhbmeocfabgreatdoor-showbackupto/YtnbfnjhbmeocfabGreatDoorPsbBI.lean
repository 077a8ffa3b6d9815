/- Of our texts, what this claim reaches. -/
import Derived.Test.YtnbfnjhbmeocfabGreatDoorPsbBE
import Derived.Test.YtnbfnjhbmeocfabGreatDoorPsbBG
import Derived.Test.YtnbfnjhbmeocfabGreatDoorPsbAP
import Derived.Test.YtnbfnjhbmeocfabGreatDoorPsbBH
import Derived.Test.YtnbfnjhbmeocfabGreatDoorPsbAR
import Derived.Test.YtnbfnjhbmeocfabGreatDoorPsbAM
set_option linter.unusedVariables false
set_option maxHeartbeats 8000000
set_option maxRecDepth 100000
namespace Go.Proofs.YtnbfnjhbmeocfabGreatDoor
namespace valus
open Go.RowKit Go.Shelf
open bigs (numRes ZI jdf zm)
theorem jbR {w:World}{B:Nat}{u0 u1 u2 u3 u4 u5:Value}{x:Int}(tmps:Array Value)(h:Blk w B #[u0,u1,u2,u3,u4,u5] 26)(ht:tmps[4]?=some (.pointer (some ⟨B,0,none⟩)):=by rfl)(hx:tmps[5]?=some (.int .i64 x):=by rfl):(results Tryz.f95 tmps).run Tryz.prog w=.ok (.tuple #[.agg #[u0,u1,u2,u3,u4,u5],.int .i64 x]) w:=by
 obtain⟨c0,c1,c2,c3,c4,c5⟩:=h.cells6;simp [results,Tryz.f95,ht,hx,go_sem,c0,c1,c2,c3,c4,c5]
theorem qQ {w:World}{B:Nat}{u0 u1 u2 u3 u4 u5:Value}{x:Int}(tmps:Array Value)(h:Blk w B #[u0,u1,u2,u3,u4,u5] 26)(ht:tmps[2]?=some (.pointer (some ⟨B,0,none⟩)):=by rfl)(hx:tmps[3]?=some (.int .i64 x):=by rfl):(results Tryz.f92 tmps).run Tryz.prog w=.ok (.tuple #[.agg #[u0,u1,u2,u3,u4,u5],.int .i64 x]) w:=by
 obtain⟨c0,c1,c2,c3,c4,c5⟩:=h.cells6;simp [results,Tryz.f92,ht,hx,go_sem,c0,c1,c2,c3,c4,c5]
theorem jmi (w:World)(k n:Int)(b:Nat)(z:ByteArray):Calls Tryz.prog 95 #[.agg #[.int .i64 k,.int .i64 n,.int .u64 (b:Int),.string z,.slice none 0 0,.slice none 0 0],.int .i64 0] w fun e w'=>e=.returned (.tuple #[.agg #[.int .i64 k,.int .i64 n,.int .u64 (b:Int),.string z,.slice none 0 0,.slice none 0 0],.int .i64 0])/\Below w.heap.size w w':=by
 have bP:Below w.heap.size w ((w.alloc (.cells #[.int .i64 k,.int .i64 n,.int .u64 (b:Int),.string z,.slice none 0 0,.slice none 0 0] 26)).alloc (.cells #[.int .i64 0,.int .i64 0,.int .u64 0,.string ⟨#[]⟩,.slice none 0 0,.slice none 0 0] 26)):=((Below.refl _ w).alloc (Nat.le_refl _) _).alloc (by simp) _;have hv:Blk ((w.alloc (.cells #[.int .i64 k,.int .i64 n,.int .u64 (b:Int),.string z,.slice none 0 0,.slice none 0 0] 26)).alloc (.cells #[.int .i64 0,.int .i64 0,.int .u64 0,.string ⟨#[]⟩,.slice none 0 0,.slice none 0 0] 26)) w.heap.size #[.int .i64 k,.int .i64 n,.int .u64 (b:Int),.string z,.slice none 0 0,.slice none 0 0] 26:=(jf w _ _).alloc _
 have hr:Blk ((w.alloc (.cells #[.int .i64 k,.int .i64 n,.int .u64 (b:Int),.string z,.slice none 0 0,.slice none 0 0] 26)).alloc (.cells #[.int .i64 0,.int .i64 0,.int .u64 0,.string ⟨#[]⟩,.slice none 0 0,.slice none 0 0] 26)) (w.heap.size+1) #[.int .i64 0,.int .i64 0,.int .u64 0,.string ⟨#[]⟩,.slice none 0 0,.slice none 0 0] 26:=by
  have h:=jf (w.alloc (.cells #[.int .i64 k,.int .i64 n,.int .u64 (b:Int),.string z,.slice none 0 0,.slice none 0 0] 26)) #[.int .i64 0,.int .i64 0,.int .u64 0,.string ⟨#[]⟩,.slice none 0 0,.slice none 0 0] 26;rwa [World.size_alloc] at h
 go_enter Tryz.func95,Tryz.ntmps95
 go_upto_region 3 with fail
 generalize (w.alloc (.cells #[.int .i64 k,.int .i64 n,.int .u64 (b:Int),.string z,.slice none 0 0,.slice none 0 0] 26)).alloc (.cells #[.int .i64 0,.int .i64 0,.int .u64 0,.string ⟨#[]⟩,.slice none 0 0,.slice none 0 0] 26)=P at *;have hY:=jI hr (.int .i64 k) (.int .i64 n) (.int .u64 (b:Int)) (.string z) (.slice none 0 0) (.slice none 0 0);have HY:=jd hY;have HF:=jd (jv bP (b:=w.heap.size+1) (Nat.le_succ _) (.int .i64 k) (.int .i64 n) (.int .u64 (b:Int)) (.string z) (.slice none 0 0) (.slice none 0 0));have x0:=hr.cell 0 _ rfl;have x1:=hr.cell 1 _ rfl;have x2:=hr.cell 2 _ rfl;have x3:=hr.cell 3 _ rfl;have x4:=hr.cell 4 _ rfl;have x5:=hr.cell 5 _ rfl;have z0:=Blk.froz hr 0;have z1:=Blk.froz hr 1;have z2:=Blk.froz hr 2;have z3:=Blk.froz hr 3;have z4:=Blk.froz hr 4;have z5:=Blk.froz hr 5;have q0:=hv.cell 0 _ rfl;have q1:=hv.cell 1 _ rfl;have q2:=hv.cell 2 _ rfl
 have q3:=hv.cell 3 _ rfl;have q4:=hv.cell 4 _ rfl;have q5:=hv.cell 5 _ rfl;clear hY;go_wp2;have hY:=HY.out;have hF:=HF.out;clear HY HF x0 x1 x2 x3 x4 x5 z0 z1 z2 z3 z4 z5 q0 q1 q2 q3 q4 q5;generalize hXX:jY P (w.heap.size+1) (.int .i64 k) (.int .i64 n) (.int .u64 (b:Int)) (.string z) (.slice none 0 0) (.slice none 0 0)=Y at hY hF;simp only [jY] at hXX;rw [hXX];clear hXX;exact bodyPost_ret (jbR _ hY) rfl ⟨rfl,hF⟩
theorem jh2 (w:World)(k n:Int)(b:Nat)(z:ByteArray)(er:Int)(he:(er != 0)=true):Calls Tryz.prog 95 #[.agg #[.int .i64 k,.int .i64 n,.int .u64 (b:Int),.string z,.slice none 0 0,.slice none 0 0],.int .i64 er] w fun e w'=>e=.returned (.tuple #[.agg #[.int .i64 0,.int .i64 0,.int .u64 0,.string ⟨#[]⟩,.slice none 0 0,.slice none 0 0],.int .i64 er])/\Below w.heap.size w w':=by
 have bP:Below w.heap.size w ((w.alloc (.cells #[.int .i64 k,.int .i64 n,.int .u64 (b:Int),.string z,.slice none 0 0,.slice none 0 0] 26)).alloc (.cells #[.int .i64 0,.int .i64 0,.int .u64 0,.string ⟨#[]⟩,.slice none 0 0,.slice none 0 0] 26)):=((Below.refl _ w).alloc (Nat.le_refl _) _).alloc (by simp) _;have hv:Blk ((w.alloc (.cells #[.int .i64 k,.int .i64 n,.int .u64 (b:Int),.string z,.slice none 0 0,.slice none 0 0] 26)).alloc (.cells #[.int .i64 0,.int .i64 0,.int .u64 0,.string ⟨#[]⟩,.slice none 0 0,.slice none 0 0] 26)) w.heap.size #[.int .i64 k,.int .i64 n,.int .u64 (b:Int),.string z,.slice none 0 0,.slice none 0 0] 26:=(jf w _ _).alloc _
 have hr:Blk ((w.alloc (.cells #[.int .i64 k,.int .i64 n,.int .u64 (b:Int),.string z,.slice none 0 0,.slice none 0 0] 26)).alloc (.cells #[.int .i64 0,.int .i64 0,.int .u64 0,.string ⟨#[]⟩,.slice none 0 0,.slice none 0 0] 26)) (w.heap.size+1) #[.int .i64 0,.int .i64 0,.int .u64 0,.string ⟨#[]⟩,.slice none 0 0,.slice none 0 0] 26:=by
  have h:=jf (w.alloc (.cells #[.int .i64 k,.int .i64 n,.int .u64 (b:Int),.string z,.slice none 0 0,.slice none 0 0] 26)) #[.int .i64 0,.int .i64 0,.int .u64 0,.string ⟨#[]⟩,.slice none 0 0,.slice none 0 0] 26;rwa [World.size_alloc] at h
 clear hv
 go_enter Tryz.func95,Tryz.ntmps95
 go_upto_region 2 with fail
 generalize (w.alloc (.cells #[.int .i64 k,.int .i64 n,.int .u64 (b:Int),.string z,.slice none 0 0,.slice none 0 0] 26)).alloc (.cells #[.int .i64 0,.int .i64 0,.int .u64 0,.string ⟨#[]⟩,.slice none 0 0,.slice none 0 0] 26)=P at *;have hY:=jI hr (.int .i64 0) (.int .i64 0) (.int .u64 0) (.string ⟨#[]⟩) (.slice none 0 0) (.slice none 0 0);have HY:=jd hY;have HF:=jd (jv bP (b:=w.heap.size+1) (Nat.le_succ _) (.int .i64 0) (.int .i64 0) (.int .u64 0) (.string ⟨#[]⟩) (.slice none 0 0) (.slice none 0 0));have x0:=hr.cell 0 _ rfl;have x1:=hr.cell 1 _ rfl;have x2:=hr.cell 2 _ rfl;have x3:=hr.cell 3 _ rfl;have x4:=hr.cell 4 _ rfl;have x5:=hr.cell 5 _ rfl;have z0:=Blk.froz hr 0;have z1:=Blk.froz hr 1;have z2:=Blk.froz hr 2;have z3:=Blk.froz hr 3;have z4:=Blk.froz hr 4;have z5:=Blk.froz hr 5;clear hY;go_wp2;have hY:=HY.out;have hF:=HF.out
 clear HY HF x0 x1 x2 x3 x4 x5 z0 z1 z2 z3 z4 z5 ;generalize hXX:jY P (w.heap.size+1) (.int .i64 0) (.int .i64 0) (.int .u64 0) (.string ⟨#[]⟩) (.slice none 0 0) (.slice none 0 0)=Y at hY hF;simp only [jY] at hXX;rw [hXX];clear hXX;exact bodyPost_ret (jbR _ hY) rfl ⟨rfl,hF⟩
theorem jjK (w:World)(s:ByteArray)(t1:(s.toList == [110,117,108,108])=true):Calls Tryz.prog 92 #[.string s] w fun e w'=>e=.returned (.tuple #[.agg #[.int .i64 0,.int .i64 0,.int .u64 0,.string ⟨#[]⟩,.slice none 0 0,.slice none 0 0],.int .i64 0])/\Below w.heap.size w w':=by
 have bP:Below w.heap.size w (w.alloc (.cells #[.int .i64 0,.int .i64 0,.int .u64 0,.string ⟨#[]⟩,.slice none 0 0,.slice none 0 0] 26)):=(Below.refl _ w).alloc (Nat.le_refl _) _;have hr:=jf w #[.int .i64 0,.int .i64 0,.int .u64 0,.string ⟨#[]⟩,.slice none 0 0,.slice none 0 0] 26
 go_enter Tryz.func92,Tryz.ntmps92
 go_upto_region 3 with fail
 generalize w.alloc (.cells #[.int .i64 0,.int .i64 0,.int .u64 0,.string ⟨#[]⟩,.slice none 0 0,.slice none 0 0] 26)=P at *;have hY:=jI hr (.int .i64 0) (.int .i64 0) (.int .u64 0) (.string ⟨#[]⟩) (.slice none 0 0) (.slice none 0 0);have HY:=jd hY;have HF:=jd (jv bP (b:=w.heap.size) (Nat.le_refl _) (.int .i64 0) (.int .i64 0) (.int .u64 0) (.string ⟨#[]⟩) (.slice none 0 0) (.slice none 0 0));have x0:=hr.cell 0 _ rfl;have x1:=hr.cell 1 _ rfl;have x2:=hr.cell 2 _ rfl;have x3:=hr.cell 3 _ rfl;have x4:=hr.cell 4 _ rfl;have x5:=hr.cell 5 _ rfl;have z0:=Blk.froz hr 0;have z1:=Blk.froz hr 1;have z2:=Blk.froz hr 2;have z3:=Blk.froz hr 3;have z4:=Blk.froz hr 4;have z5:=Blk.froz hr 5;clear hY;go_wp2;have hY:=HY.out;have hF:=HF.out;clear HY HF x0 x1 x2 x3 x4 x5 z0 z1 z2 z3 z4 z5 
 generalize hXX:jY P w.heap.size (.int .i64 0) (.int .i64 0) (.int .u64 0) (.string ⟨#[]⟩) (.slice none 0 0) (.slice none 0 0)=Y at hY hF;simp only [jY] at hXX;rw [hXX];clear hXX;exact bodyPost_ret (qQ _ hY) rfl ⟨rfl,hF⟩
theorem jg0 (w:World)(s:ByteArray)(t1:(s.toList == [110,117,108,108])=false)(t2:(s.toList == [102,97,108,115,101])=true):Calls Tryz.prog 92 #[.string s] w fun e w'=>e=.returned (.tuple #[.agg #[.int .i64 1,.int .i64 0,.int .u64 0,.string ⟨#[]⟩,.slice none 0 0,.slice none 0 0],.int .i64 0])/\Below w.heap.size w w':=by
 have bP:Below w.heap.size w (w.alloc (.cells #[.int .i64 0,.int .i64 0,.int .u64 0,.string ⟨#[]⟩,.slice none 0 0,.slice none 0 0] 26)):=(Below.refl _ w).alloc (Nat.le_refl _) _;have hr:=jf w #[.int .i64 0,.int .i64 0,.int .u64 0,.string ⟨#[]⟩,.slice none 0 0,.slice none 0 0] 26
 go_enter Tryz.func92,Tryz.ntmps92
 go_upto_region 5 with fail
 generalize w.alloc (.cells #[.int .i64 0,.int .i64 0,.int .u64 0,.string ⟨#[]⟩,.slice none 0 0,.slice none 0 0] 26)=P at *;have hY:=jI hr (.int .i64 1) (.int .i64 0) (.int .u64 0) (.string ⟨#[]⟩) (.slice none 0 0) (.slice none 0 0);have HY:=jd hY;have HF:=jd (jv bP (b:=w.heap.size) (Nat.le_refl _) (.int .i64 1) (.int .i64 0) (.int .u64 0) (.string ⟨#[]⟩) (.slice none 0 0) (.slice none 0 0));have x0:=hr.cell 0 _ rfl;have x1:=hr.cell 1 _ rfl;have x2:=hr.cell 2 _ rfl;have x3:=hr.cell 3 _ rfl;have x4:=hr.cell 4 _ rfl;have x5:=hr.cell 5 _ rfl;have z0:=Blk.froz hr 0;have z1:=Blk.froz hr 1;have z2:=Blk.froz hr 2;have z3:=Blk.froz hr 3;have z4:=Blk.froz hr 4;have z5:=Blk.froz hr 5;clear hY;go_wp2;have hY:=HY.out;have hF:=HF.out;clear HY HF x0 x1 x2 x3 x4 x5 z0 z1 z2 z3 z4 z5 
 generalize hXX:jY P w.heap.size (.int .i64 1) (.int .i64 0) (.int .u64 0) (.string ⟨#[]⟩) (.slice none 0 0) (.slice none 0 0)=Y at hY hF;simp only [jY] at hXX;rw [hXX];clear hXX;exact bodyPost_ret (qQ _ hY) rfl ⟨rfl,hF⟩
theorem jk4 (w:World)(s:ByteArray)(t1:(s.toList == [110,117,108,108])=false)(t2:(s.toList == [102,97,108,115,101])=false)(t3:(s.toList == [116,114,117,101])=true):Calls Tryz.prog 92 #[.string s] w fun e w'=>e=.returned (.tuple #[.agg #[.int .i64 1,.int .i64 1,.int .u64 0,.string ⟨#[]⟩,.slice none 0 0,.slice none 0 0],.int .i64 0])/\Below w.heap.size w w':=by
 have bP:Below w.heap.size w (w.alloc (.cells #[.int .i64 0,.int .i64 0,.int .u64 0,.string ⟨#[]⟩,.slice none 0 0,.slice none 0 0] 26)):=(Below.refl _ w).alloc (Nat.le_refl _) _;have hr:=jf w #[.int .i64 0,.int .i64 0,.int .u64 0,.string ⟨#[]⟩,.slice none 0 0,.slice none 0 0] 26
 go_enter Tryz.func92,Tryz.ntmps92
 go_upto_region 7 with fail
 generalize w.alloc (.cells #[.int .i64 0,.int .i64 0,.int .u64 0,.string ⟨#[]⟩,.slice none 0 0,.slice none 0 0] 26)=P at *;have hY:=jI hr (.int .i64 1) (.int .i64 1) (.int .u64 0) (.string ⟨#[]⟩) (.slice none 0 0) (.slice none 0 0);have HY:=jd hY;have HF:=jd (jv bP (b:=w.heap.size) (Nat.le_refl _) (.int .i64 1) (.int .i64 1) (.int .u64 0) (.string ⟨#[]⟩) (.slice none 0 0) (.slice none 0 0));have x0:=hr.cell 0 _ rfl;have x1:=hr.cell 1 _ rfl;have x2:=hr.cell 2 _ rfl;have x3:=hr.cell 3 _ rfl;have x4:=hr.cell 4 _ rfl;have x5:=hr.cell 5 _ rfl;have z0:=Blk.froz hr 0;have z1:=Blk.froz hr 1;have z2:=Blk.froz hr 2;have z3:=Blk.froz hr 3;have z4:=Blk.froz hr 4;have z5:=Blk.froz hr 5;clear hY;go_wp2;have hY:=HY.out;have hF:=HF.out;clear HY HF x0 x1 x2 x3 x4 x5 z0 z1 z2 z3 z4 z5 
 generalize hXX:jY P w.heap.size (.int .i64 1) (.int .i64 1) (.int .u64 0) (.string ⟨#[]⟩) (.slice none 0 0) (.slice none 0 0)=Y at hY hF;simp only [jY] at hXX;rw [hXX];clear hXX;exact bodyPost_ret (qQ _ hY) rfl ⟨rfl,hF⟩
theorem jnq (w:World)(s:ByteArray)(t1:(s.toList == [110,117,108,108])=false)(t2:(s.toList == [102,97,108,115,101])=false)(t3:(s.toList == [116,114,117,101])=false)(n:Int)(hnum:numRes s.data.toList=(n,0)):Calls Tryz.prog 92 #[.string s] w fun e w'=>e=.returned (.tuple #[.agg #[.int .i64 2,.int .i64 n,.int .u64 0,.string ⟨#[]⟩,.slice none 0 0,.slice none 0 0],.int .i64 0])/\Below w.heap.size w w':=by
 have bP:Below w.heap.size w (w.alloc (.cells #[.int .i64 0,.int .i64 0,.int .u64 0,.string ⟨#[]⟩,.slice none 0 0,.slice none 0 0] 26)):=(Below.refl _ w).alloc (Nat.le_refl _) _;have hr:=jf w #[.int .i64 0,.int .i64 0,.int .u64 0,.string ⟨#[]⟩,.slice none 0 0,.slice none 0 0] 26;have sP:(w.alloc (.cells #[.int .i64 0,.int .i64 0,.int .u64 0,.string ⟨#[]⟩,.slice none 0 0,.slice none 0 0] 26)).heap.size=w.heap.size+1:=by simp
 have HN:=jd (ZI (w.alloc (.cells #[.int .i64 0,.int .i64 0,.int .u64 0,.string ⟨#[]⟩,.slice none 0 0,.slice none 0 0] 26)) s);rw [hnum] at HN;have HB:=jd (And.intro bP (And.intro hr sP));clear bP hr sP
 go_enter Tryz.func92,Tryz.ntmps92
 go_upto_region 9 with (go_at_call 130;refine(ja HN).mono ?_;rintro e w2 ⟨rfl,h2⟩;rw [h2];clear h2)
 obtain⟨bP,hr,sP⟩:=HB.out;generalize w.alloc (.cells #[.int .i64 0,.int .i64 0,.int .u64 0,.string ⟨#[]⟩,.slice none 0 0,.slice none 0 0] 26)=P at *;have HU:=jd (jmi P 2 n 0 ⟨#[]⟩);have HB2:=jd (And.intro bP hr);clear bP hr sP HB
 go_wp2_with (fail)
 go_at_call 95
 refine(ja HU).mono ?_
 rintro e w3 ⟨rfl,b3⟩
 obtain⟨bP,hr⟩:=HB2.out;have hr3:=hr.below b3;have bP3:=bP.trans (b3.mono bP.size);clear bP hr HB2 HU b3;have hY:=jI hr3 (.int .i64 2) (.int .i64 n) (.int .u64 0) (.string ⟨#[]⟩) (.slice none 0 0) (.slice none 0 0);have HY:=jd hY;have HF:=jd (jv bP3 (b:=w.heap.size) (Nat.le_refl _) (.int .i64 2) (.int .i64 n) (.int .u64 0) (.string ⟨#[]⟩) (.slice none 0 0) (.slice none 0 0));have x0:=hr3.cell 0 _ rfl;have x1:=hr3.cell 1 _ rfl;have x2:=hr3.cell 2 _ rfl;have x3:=hr3.cell 3 _ rfl;have x4:=hr3.cell 4 _ rfl;have x5:=hr3.cell 5 _ rfl;have z0:=Blk.froz hr3 0;have z1:=Blk.froz hr3 1;have z2:=Blk.froz hr3 2;have z3:=Blk.froz hr3 3;have z4:=Blk.froz hr3 4;have z5:=Blk.froz hr3 5;clear hY;go_wp2;have hY:=HY.out;have hF:=HF.out;clear HY HF x0 x1 x2 x3 x4 x5 z0 z1 z2 z3 z4 z5 
 generalize hXX:jY w3 w.heap.size (.int .i64 2) (.int .i64 n) (.int .u64 0) (.string ⟨#[]⟩) (.slice none 0 0) (.slice none 0 0)=Y at hY hF;simp only [jY] at hXX;rw [hXX];clear hXX;exact bodyPost_ret (qQ _ hY) rfl ⟨rfl,hF⟩
theorem jfq (w:World)(s:ByteArray)(t1:(s.toList == [110,117,108,108])=false)(t2:(s.toList == [102,97,108,115,101])=false)(t3:(s.toList == [116,114,117,101])=false)(n er:Int)(he:(er != 0)=true)(he4:(er != 4)=true)(hnum:numRes s.data.toList=(n,er)):Calls Tryz.prog 92 #[.string s] w fun e w'=>e=.returned (.tuple #[.agg #[.int .i64 0,.int .i64 0,.int .u64 0,.string ⟨#[]⟩,.slice none 0 0,.slice none 0 0],.int .i64 er])/\Below w.heap.size w w':=by
 have bP:Below w.heap.size w (w.alloc (.cells #[.int .i64 0,.int .i64 0,.int .u64 0,.string ⟨#[]⟩,.slice none 0 0,.slice none 0 0] 26)):=(Below.refl _ w).alloc (Nat.le_refl _) _;have hr:=jf w #[.int .i64 0,.int .i64 0,.int .u64 0,.string ⟨#[]⟩,.slice none 0 0,.slice none 0 0] 26;have sP:(w.alloc (.cells #[.int .i64 0,.int .i64 0,.int .u64 0,.string ⟨#[]⟩,.slice none 0 0,.slice none 0 0] 26)).heap.size=w.heap.size+1:=by simp
 have HN:=jd (ZI (w.alloc (.cells #[.int .i64 0,.int .i64 0,.int .u64 0,.string ⟨#[]⟩,.slice none 0 0,.slice none 0 0] 26)) s);rw [hnum] at HN;have HB:=jd (And.intro bP (And.intro hr sP));clear bP hr sP
 go_enter Tryz.func92,Tryz.ntmps92
 go_upto_region 9 with (go_at_call 130;refine(ja HN).mono ?_;rintro e w2 ⟨rfl,h2⟩;rw [h2];clear h2)
 obtain⟨bP,hr,sP⟩:=HB.out;generalize w.alloc (.cells #[.int .i64 0,.int .i64 0,.int .u64 0,.string ⟨#[]⟩,.slice none 0 0,.slice none 0 0] 26)=P at *;have HU:=jd (jh2 P 2 n 0 ⟨#[]⟩ er he);have HB2:=jd (And.intro bP hr);clear bP hr sP HB
 go_wp2_with (fail)
 go_at_call 95
 refine(ja HU).mono ?_
 rintro e w3 ⟨rfl,b3⟩
 obtain⟨bP,hr⟩:=HB2.out;have hr3:=hr.below b3;have bP3:=bP.trans (b3.mono bP.size);clear bP hr HB2 HU b3;have hY:=jI hr3 (.int .i64 0) (.int .i64 0) (.int .u64 0) (.string ⟨#[]⟩) (.slice none 0 0) (.slice none 0 0);have HY:=jd hY;have HF:=jd (jv bP3 (b:=w.heap.size) (Nat.le_refl _) (.int .i64 0) (.int .i64 0) (.int .u64 0) (.string ⟨#[]⟩) (.slice none 0 0) (.slice none 0 0));have x0:=hr3.cell 0 _ rfl;have x1:=hr3.cell 1 _ rfl;have x2:=hr3.cell 2 _ rfl;have x3:=hr3.cell 3 _ rfl;have x4:=hr3.cell 4 _ rfl;have x5:=hr3.cell 5 _ rfl;have z0:=Blk.froz hr3 0;have z1:=Blk.froz hr3 1;have z2:=Blk.froz hr3 2;have z3:=Blk.froz hr3 3;have z4:=Blk.froz hr3 4;have z5:=Blk.froz hr3 5;clear hY;go_wp2;have hY:=HY.out;have hF:=HF.out;clear HY HF x0 x1 x2 x3 x4 x5 z0 z1 z2 z3 z4 z5 
 generalize hXX:jY w3 w.heap.size (.int .i64 0) (.int .i64 0) (.int .u64 0) (.string ⟨#[]⟩) (.slice none 0 0) (.slice none 0 0)=Y at hY hF;simp only [jY] at hXX;rw [hXX];clear hXX;exact bodyPost_ret (qQ _ hY) rfl ⟨rfl,hF⟩
theorem jhi (w:World)(s:ByteArray)(t1:(s.toList == [110,117,108,108])=false)(t2:(s.toList == [102,97,108,115,101])=false)(t3:(s.toList == [116,114,117,101])=false)(hs2:s.size<=140737488355328)(n:Int)(hnum:numRes s.data.toList=(n,4)):Calls Tryz.prog 92 #[.string s] w fun e w'=>(∃(v:Nat) (x:Int),zm s.data.toList v x/\((x=0/\e=.returned (.tuple #[.agg #[.int .i64 3,.int .i64 0,.int .u64 (v:Int),.string ⟨#[]⟩,.slice none 0 0,.slice none 0 0],.int .i64 0]))\/(x≠0/\e=.returned (.tuple #[.agg #[.int .i64 0,.int .i64 0,.int .u64 0,.string ⟨#[]⟩,.slice none 0 0,.slice none 0 0],.int .i64 x]))))/\Below w.heap.size w w':=by
 have bP:Below w.heap.size w (w.alloc (.cells #[.int .i64 0,.int .i64 0,.int .u64 0,.string ⟨#[]⟩,.slice none 0 0,.slice none 0 0] 26)):=(Below.refl _ w).alloc (Nat.le_refl _) _;have hr:=jf w #[.int .i64 0,.int .i64 0,.int .u64 0,.string ⟨#[]⟩,.slice none 0 0,.slice none 0 0] 26;have sP:(w.alloc (.cells #[.int .i64 0,.int .i64 0,.int .u64 0,.string ⟨#[]⟩,.slice none 0 0,.slice none 0 0] 26)).heap.size=w.heap.size+1:=by simp
 have HN:=jd (ZI (w.alloc (.cells #[.int .i64 0,.int .i64 0,.int .u64 0,.string ⟨#[]⟩,.slice none 0 0,.slice none 0 0] 26)) s);rw [hnum] at HN;have HR:=jd (jdf (w.alloc (.cells #[.int .i64 0,.int .i64 0,.int .u64 0,.string ⟨#[]⟩,.slice none 0 0,.slice none 0 0] 26)) s hs2);have HB:=jd (And.intro bP (And.intro hr sP));clear bP hr sP
 go_enter Tryz.func92,Tryz.ntmps92
 go_upto_region 12 with (first | (go_at_call 130;refine(ja HN).mono ?_;rintro e w2 ⟨rfl,h2⟩;rw [h2];clear h2) | (go_at_call 131;refine(ja HR).mono ?_;rintro e w2 ⟨v,x,rfl,hrd,b2⟩))
 obtain⟨bP,hr,sP⟩:=HB.out;have HB2:=jd (And.intro (bP.trans (b2.mono (by omega))) (hr.below b2));have HRD:=jd hrd;clear b2 sP HB bP hr HN HR hrd
 by_cases hx:x=0
 ·subst hx
  have HU:=jd (jmi w2 3 0 v ⟨#[]⟩)
  go_wp2_with (fail)
  go_at_call 95
  refine(ja HU).mono ?_
  rintro e w3 ⟨rfl,b3⟩
  obtain⟨bP,hr⟩:=HB2.out;have hr3:=hr.below b3;have bP3:=bP.trans (b3.mono bP.size);clear bP hr HB2 HU b3;have hY:=jI hr3 (.int .i64 3) (.int .i64 0) (.int .u64 (v:Int)) (.string ⟨#[]⟩) (.slice none 0 0) (.slice none 0 0);have HY:=jd hY;have HF:=jd (jv bP3 (b:=w.heap.size) (Nat.le_refl _) (.int .i64 3) (.int .i64 0) (.int .u64 (v:Int)) (.string ⟨#[]⟩) (.slice none 0 0) (.slice none 0 0));have x0:=hr3.cell 0 _ rfl;have x1:=hr3.cell 1 _ rfl;have x2:=hr3.cell 2 _ rfl;have x3:=hr3.cell 3 _ rfl;have x4:=hr3.cell 4 _ rfl;have x5:=hr3.cell 5 _ rfl;have z0:=Blk.froz hr3 0;have z1:=Blk.froz hr3 1;have z2:=Blk.froz hr3 2;have z3:=Blk.froz hr3 3;have z4:=Blk.froz hr3 4;have z5:=Blk.froz hr3 5;clear hY;go_wp2;have hY:=HY.out;have hF:=HF.out;clear HY HF x0 x1 x2 x3 x4 x5 z0 z1 z2 z3 z4 z5 
  generalize hXX:jY w3 w.heap.size (.int .i64 3) (.int .i64 0) (.int .u64 (v:Int)) (.string ⟨#[]⟩) (.slice none 0 0) (.slice none 0 0)=Y at hY hF;simp only [jY] at hXX;rw [hXX];clear hXX;exact bodyPost_ret (qQ _ hY) rfl ⟨⟨v,0,HRD.out,.inl ⟨rfl,rfl⟩⟩,hF⟩
 ·have he:(x != 0)=true:=bne_iff_ne.2 hx
  have HX:=jd hx;have HU:=jd (jh2 w2 3 0 v ⟨#[]⟩ x he)
  go_wp2_with (fail)
  go_at_call 95
  refine(ja HU).mono ?_
  rintro e w3 ⟨rfl,b3⟩
  obtain⟨bP,hr⟩:=HB2.out;have hr3:=hr.below b3;have bP3:=bP.trans (b3.mono bP.size);clear bP hr HB2 HU b3;have hY:=jI hr3 (.int .i64 0) (.int .i64 0) (.int .u64 0) (.string ⟨#[]⟩) (.slice none 0 0) (.slice none 0 0);have HY:=jd hY;have HF:=jd (jv bP3 (b:=w.heap.size) (Nat.le_refl _) (.int .i64 0) (.int .i64 0) (.int .u64 0) (.string ⟨#[]⟩) (.slice none 0 0) (.slice none 0 0));have x0:=hr3.cell 0 _ rfl;have x1:=hr3.cell 1 _ rfl;have x2:=hr3.cell 2 _ rfl;have x3:=hr3.cell 3 _ rfl;have x4:=hr3.cell 4 _ rfl;have x5:=hr3.cell 5 _ rfl;have z0:=Blk.froz hr3 0;have z1:=Blk.froz hr3 1;have z2:=Blk.froz hr3 2;have z3:=Blk.froz hr3 3;have z4:=Blk.froz hr3 4;have z5:=Blk.froz hr3 5;clear hY;go_wp2;have hY:=HY.out;have hF:=HF.out;clear HY HF x0 x1 x2 x3 x4 x5 z0 z1 z2 z3 z4 z5 
  generalize hXX:jY w3 w.heap.size (.int .i64 0) (.int .i64 0) (.int .u64 0) (.string ⟨#[]⟩) (.slice none 0 0) (.slice none 0 0)=Y at hY hF;simp only [jY] at hXX;rw [hXX];clear hXX;exact bodyPost_ret (qQ _ hY) rfl ⟨⟨v,x,HRD.out,.inr ⟨HX.out,rfl⟩⟩,hF⟩
open Go.RowKit Go.Shelf
theorem qd (w:World)(R:Nat)(s:ByteArray)(l:List toks.Tk)(pl er:Int)(h:MRd w R s l pl er)(k e:Int)(j:Nat)(hj:j<l.length)(p:Option Addr)(n c:Nat)(er':Int) :
  Calls Tryz.prog 56 #[.pointer (some ⟨R,0,none⟩),.agg #[.int .i64 k,.int .i64 (j:Int),.int .i64 e,.slice p n c],.int .i64 er'] w fun e w'=>(∃v,e=.returned v)/\MRd w' R s l (l[j].fro:Int) er'/\Only R w w':=by
 have b1:Below w.heap.size w (w.alloc (.cells #[.int .i64 k,.int .i64 (j:Int),.int .i64 e,.slice p n c] 41)):=(Below.refl _ w).alloc (Nat.le_refl _) _;have hn:=jf w #[.int .i64 k,.int .i64 (j:Int),.int .i64 e,.slice p n c] 41;have hRw:=h.lt;have h1:=h.later b1;obtain⟨a,cap,g1,g2,g3,g4⟩:=h1;have hta:=g4;obtain⟨b,o,rfl,e2,e3⟩:=g4 (fun e=>by rw [e] at hj;cases hj);obtain⟨t0,t1,t2⟩:=e3 j hj;obtain⟨A,hA⟩:∃A:Int,A=(l[j].fro:Int):=⟨_,rfl⟩
 rw [<-hA] at t1 ⊢;obtain⟨W,hW⟩:∃W,W=w.alloc (.cells #[.int .i64 k,.int .i64 (j:Int),.int .i64 e,.slice p n c] 41):=⟨_,rfl⟩
 rw [<-hW] at g1 t1 hn b1 hta;have r1:=g1.cell 1 _ rfl;have r2:=g1.cell 2 _ rfl;have r3:=g1.cell 3 _ rfl;have f2:=Blk.froz g1 2;have f3:=Blk.froz g1 3;have gA:Blk (W.setCell ⟨R,2,none⟩ (.int .i64 A)) R #[.string s,.slice (some ⟨b,o,none⟩) l.length cap,.int .i64 A,.int .i64 er] 48:=g1.set 2 (.int .i64 A);have s3:=gA.cell 3 _ rfl;have z3:=Blk.froz gA 3;have gB:Blk ((W.setCell ⟨R,2,none⟩ (.int .i64 A)).setCell ⟨R,3,none⟩ (.int .i64 er')) R #[.string s,.slice (some ⟨b,o,none⟩) l.length cap,.int .i64 A,.int .i64 er'] 48:=gA.set 3 (.int .i64 er');have n1:=hn.cell 1 _ rfl;have hjI:(j:Int)<(l.length:Int):=by omega
 have hl63:(l.length:Int)<=1000000:=by omega
 have FIN:Hid (∀X:World,X.heap=((W.setCell ⟨R,2,none⟩ (.int .i64 A)).setCell ⟨R,3,none⟩ (.int .i64 er')).heap->X.os=W.os->X.tape=W.tape->X.output=W.output->MRd X R s l A er'/\Only R w X):=jd fun X x1 x2 x3 x4=>by
  have hoth:∀q,q≠R->X.heap[q]?=W.heap[q]?:=fun q hq=>by
   rw [x1];exact(Below.heap_setCell _ _ _ _ hq).trans (Below.heap_setCell _ _ _ _ hq)
  refine⟨⟨some ⟨b,o,none⟩,cap,by show X.heap[R]?=_;rw [x1];exact gB,g2,g3,hta.kept (fun q hq=>hoth q (by omega))⟩,?_⟩;refine⟨x2.trans b1.os,x3.trans b1.tape,x4.trans b1.output,?_,fun q hq hne=>(hoth q (fun e=>hne (by rw [e]))).trans (b1.block q hq)⟩;rw [x1];have:=b1.size;simp [World.setCell];omega
 simp only [List.getElem_toArray,List.getElem_cons_zero,List.getElem_cons_succ] at r1 r2 r3 s3 n1;clear g1 g2 g3 g4 e3 e2 hn h b1 hA gA gB hta t0 t2 hRw
 go_enter Tryz.func56,Tryz.ntmps56
 go_upto_region 1 with fail
 rw [<-hW];clear hW
 go_region
 go_wp2;go_end0;exact⟨⟨_,rfl⟩,FIN.out _ rfl rfl rfl rfl⟩
open Go.RowKit Go.Shelf
open bigs (numRes zm)
def Qd (l:List UInt8)(x:Lab)(er:Int):Prop :=
 (l=[110,117,108,108]/\x=(0,0,0,[])/\er=0)\/(l=[102,97,108,115,101]/\x=(1,0,0,[])/\er=0)\/(l=[116,114,117,101]/\x=(1,1,0,[])/\er=0)\/
 ((l≠[110,117,108,108]/\l≠[102,97,108,115,101]/\l≠[116,114,117,101])/\
  (((numRes l).2≠4/\er=(numRes l).2/\x=if er=0 then (2,(numRes l).1,0,[]) else (0,0,0,[]))\/
   ((numRes l).2=4/\∃v,zm l v er/\x=if er=0 then (3,0,v,[]) else (0,0,0,[]))))
theorem Jy (s:ByteArray)(l:List UInt8):((s.toList == l)=true->s.data.toList=l)/\((s.toList == l)=false->s.data.toList≠l):=by
 have e:s.toList=s.data.toList:=Lib.toList_data s;rw [e];exact⟨fun h=>eq_of_beq h,fun h=>ne_of_beq_false h⟩
theorem jnE (w:World)(s:ByteArray)(hs:s.size<=140737488355328):Calls Tryz.prog 92 #[.string s] w fun e w'=>(∃(k n:Int) (b:Nat) (er:Int),e=.returned (.tuple #[.agg #[.int .i64 k,.int .i64 n,.int .u64 (b:Int),.string ⟨#[]⟩,.slice none 0 0,.slice none 0 0],.int .i64 er])/\Qd s.data.toList (k,n,b,[]) er)/\Below w.heap.size w w':=by
 cases h1:s.toList == [110,117,108,108] with
 | true=>exact(jjK w s h1).mono fun e w' ⟨e1,e2⟩=>⟨⟨0,0,0,0,e1,.inl ⟨(Jy s _).1 h1,rfl,rfl⟩⟩,e2⟩
 | false=>
  cases h2:s.toList == [102,97,108,115,101] with
  | true=>exact(jg0 w s h1 h2).mono fun e w' ⟨e1,e2⟩=>⟨⟨1,0,0,0,e1,.inr (.inl ⟨(Jy s _).1 h2,rfl,rfl⟩)⟩,e2⟩
  | false=>
   cases h3:s.toList == [116,114,117,101] with
   | true=>exact(jk4 w s h1 h2 h3).mono fun e w' ⟨e1,e2⟩=>⟨⟨1,1,0,0,e1,.inr (.inr (.inl ⟨(Jy s _).1 h3,rfl,rfl⟩))⟩,e2⟩
   | false=>
    have hno:s.data.toList≠[110,117,108,108]/\s.data.toList≠[102,97,108,115,101]/\s.data.toList≠[116,114,117,101]:=⟨(Jy s _).2 h1,(Jy s _).2 h2,(Jy s _).2 h3⟩
    by_cases h4:(numRes s.data.toList).2=4
    ·refine(jhi w s h1 h2 h3 hs (numRes s.data.toList).1 (by rw [<-h4])).mono fun e w' ⟨⟨v,x,e1,e2⟩,e3⟩=>⟨?_,e3⟩
     rcases e2 with ⟨rfl,e4⟩ | ⟨hx,e4⟩
     ·exact⟨3,0,v,0,e4,.inr (.inr (.inr ⟨hno,.inr ⟨h4,v,e1,by rw [if_pos rfl]⟩⟩))⟩
     ·exact⟨0,0,0,x,e4,.inr (.inr (.inr ⟨hno,.inr ⟨h4,v,e1,by rw [if_neg hx]⟩⟩))⟩
    ·by_cases h0:(numRes s.data.toList).2=0
     ·refine(jnq w s h1 h2 h3 (numRes s.data.toList).1 (by rw [<-h0])).mono fun e w' ⟨e1,e2⟩=>⟨⟨2,(numRes s.data.toList).1,0,0,e1,.inr (.inr (.inr ⟨hno,.inl ⟨h4,h0.symm,by rw [if_pos rfl]⟩⟩))⟩,e2⟩
     ·refine(jfq w s h1 h2 h3 (numRes s.data.toList).1 (numRes s.data.toList).2 (bne_iff_ne.2 h0) (bne_iff_ne.2 h4) rfl).mono fun e w' ⟨e1,e2⟩=>⟨⟨0,0,0,(numRes s.data.toList).2,e1,.inr (.inr (.inr ⟨hno,.inl ⟨h4,rfl,by rw [if_neg h0]⟩⟩))⟩,e2⟩
end valus
end Go.Proofs.YtnbfnjhbmeocfabGreatDoor
