/- Of our texts, what this claim reaches. -/
import Derived.Test.YtnbfnjhbmeocfaaGreatDoorPmtBF
import Derived.Test.YtnbfnjhbmeocfaaGreatDoorPmtBH
import Derived.Test.YtnbfnjhbmeocfaaGreatDoorPmtBC
set_option linter.unusedVariables false
set_option maxHeartbeats 8000000
set_option maxRecDepth 100000
namespace Go.Proofs.YtnbfnjhbmeocfaaGreatDoor
namespace valus
open Go.RowKit Go.Shelf
theorem Zg {w:World}{B:Nat}{u0 u1 u2 u3 u4 u5:Value}{x:Int}(tmps:Array Value)(h:Blk w B #[u0,u1,u2,u3,u4,u5] 26)(ht:tmps[4]?=some (.pointer (some ⟨B,0,none⟩)):=by rfl)(hx:tmps[5]?=some (.int .i64 x):=by rfl):(results Tryz.f117 tmps).run Tryz.prog w=.ok (.tuple #[.agg #[u0,u1,u2,u3,u4,u5],.int .i64 x]) w:=by
 obtain⟨c0,c1,c2,c3,c4,c5⟩:=h.cells6;simp [results,Tryz.f117,ht,hx,go_sem,c0,c1,c2,c3,c4,c5]
theorem Yg (w:World)(R:Nat)(s:ByteArray)(l:List toks.Tk)(pl er:Int)(h:MRd w R s l pl er)(k e:Int)(j:Nat)(hj:j<l.length)(hft:l[j].fro<=l[j].til/\l[j].til<=s.size)(hs:s.size<=100000)(p:Option Addr)(n c:Nat)(hk:l[j].kind=4) :
  Calls Tryz.prog 117 #[.pointer (some ⟨R,0,none⟩),.agg #[.int .i64 k,.int .i64 (j:Int),.int .i64 e,.slice p n c]] w fun e w'=>(∃(vk vn:Int) (vb:Nat) (ve:Int),e=.returned (.tuple #[.agg #[.int .i64 vk,.int .i64 vn,.int .u64 (vb:Int),.string ⟨#[]⟩,.slice none 0 0,.slice none 0 0],.int .i64 ve])/\Zk (s.extract l[j].fro l[j].til).data.toList (vk,vn,vb,[]) ve)/\Below w.heap.size w w':=by
 have b0:Below w.heap.size w ((w.alloc (.cells #[.int .i64 k,.int .i64 (j:Int),.int .i64 e,.slice p n c] 59)).alloc (.cells #[.int .i64 0,.int .i64 0,.int .u64 0,.string ⟨#[]⟩,.slice none 0 0,.slice none 0 0] 26)):=((Below.refl _ w).alloc (Nat.le_refl _) _).alloc (by simp) _;have s0:((w.alloc (.cells #[.int .i64 k,.int .i64 (j:Int),.int .i64 e,.slice p n c] 59)).alloc (.cells #[.int .i64 0,.int .i64 0,.int .u64 0,.string ⟨#[]⟩,.slice none 0 0,.slice none 0 0] 26)).heap.size=w.heap.size+2:=by simp
 have hn0:Blk ((w.alloc (.cells #[.int .i64 k,.int .i64 (j:Int),.int .i64 e,.slice p n c] 59)).alloc (.cells #[.int .i64 0,.int .i64 0,.int .u64 0,.string ⟨#[]⟩,.slice none 0 0,.slice none 0 0] 26)) w.heap.size #[.int .i64 k,.int .i64 (j:Int),.int .i64 e,.slice p n c] 59:=(jf w _ _).alloc _
 have hr0:Blk ((w.alloc (.cells #[.int .i64 k,.int .i64 (j:Int),.int .i64 e,.slice p n c] 59)).alloc (.cells #[.int .i64 0,.int .i64 0,.int .u64 0,.string ⟨#[]⟩,.slice none 0 0,.slice none 0 0] 26)) (w.heap.size+1) #[.int .i64 0,.int .i64 0,.int .u64 0,.string ⟨#[]⟩,.slice none 0 0,.slice none 0 0] 26:=by
  have h:=jf (w.alloc (.cells #[.int .i64 k,.int .i64 (j:Int),.int .i64 e,.slice p n c] 59)) #[.int .i64 0,.int .i64 0,.int .u64 0,.string ⟨#[]⟩,.slice none 0 0,.slice none 0 0] 26;rwa [World.size_alloc] at h
 obtain⟨J,hJ⟩:∃J:World->Prop,J=Below (w.heap.size+2) ((w.alloc (.cells #[.int .i64 k,.int .i64 (j:Int),.int .i64 e,.slice p n c] 59)).alloc (.cells #[.int .i64 0,.int .i64 0,.int .u64 0,.string ⟨#[]⟩,.slice none 0 0,.slice none 0 0] 26)):=⟨_,rfl⟩
 have jn:∀v v',J v->Below v.heap.size v v'->J v':=fun v v' h hb=>by rw [hJ] at h ⊢;exact h.trans (hb.mono (by have:=h.size;omega))
 have jb:∀v,J v->Below w.heap.size w v:=fun v h=>by rw [hJ] at h;exact b0.trans (h.mono (by omega))
 have jr:∀v,J v->Blk v (w.heap.size+1) #[.int .i64 0,.int .i64 0,.int .u64 0,.string ⟨#[]⟩,.slice none 0 0,.slice none 0 0] 26:=fun v h=>by rw [hJ] at h;exact(h.block (w.heap.size+1) (by omega)).trans hr0
 have jm:∀v,J v->MRd v R s l pl er:=fun v hv=>h.later (jb v hv)
 have jc:∀v,Hid (J v->v.cell? ⟨w.heap.size,0,none⟩=some (.int .i64 k)/\v.cell? ⟨w.heap.size,1,none⟩=some (.int .i64 (j:Int))/\v.cell? ⟨w.heap.size,2,none⟩=some (.int .i64 e)/\v.cell? ⟨w.heap.size,3,none⟩=some (.slice p n c)):=fun v h=>by
  rw [hJ] at h;have hv:Blk v w.heap.size _ _:=(h.block w.heap.size (by omega)).trans hn0;exact⟨hv.cell 0 _ rfl,hv.cell 1 _ rfl,hv.cell 2 _ rfl,hv.cell 3 _ rfl⟩
 have J2:J ((w.alloc (.cells #[.int .i64 k,.int .i64 (j:Int),.int .i64 e,.slice p n c] 59)).alloc (.cells #[.int .i64 0,.int .i64 0,.int .u64 0,.string ⟨#[]⟩,.slice none 0 0,.slice none 0 0] 26)):=by rw [hJ];exact Below.refl _ _
 have KW:∀v,Hid (J v->Calls Tryz.prog 179 #[.pointer (some ⟨R,0,none⟩),.agg #[.int .i64 k,.int .i64 (j:Int),.int .i64 e,.slice p n c]] v fun e w'=>e=.returned (.bool (decide (l[j].kind=4)))/\J w'):=fun v hv=>(zq v R s l pl er (jm v hv) k e j hj p n c).mono fun e w' ⟨e1,e2⟩=>⟨e1,jn v w' hv e2⟩
 have KS:∀v,Hid (J v->Calls Tryz.prog 180 #[.pointer (some ⟨R,0,none⟩),.agg #[.int .i64 k,.int .i64 (j:Int),.int .i64 e,.slice p n c]] v fun e w'=>e=.returned (.string (s.extract l[j].fro l[j].til))/\J w'):=fun v hv=>(zo v R s l pl er (jm v hv) k e j hj hft p n c).mono fun e w' ⟨e1,e2⟩=>⟨e1,jn v w' hv e2⟩
 have hxs:(s.extract l[j].fro l[j].til).size<=100000:=by
  have:(s.extract l[j].fro l[j].til).size=min l[j].til s.size - l[j].fro:=by simp
  omega
 have KD:∀v,Hid (J v->Calls Tryz.prog 9 #[.string (s.extract l[j].fro l[j].til)] v fun e w'=>(∃(vk vn:Int) (vb:Nat) (ve:Int),e=.returned (.tuple #[.agg #[.int .i64 vk,.int .i64 vn,.int .u64 (vb:Int),.string ⟨#[]⟩,.slice none 0 0,.slice none 0 0],.int .i64 ve])/\Zk (s.extract l[j].fro l[j].til).data.toList (vk,vn,vb,[]) ve)/\J w'):=fun v hv=>(jh2 v _ (by omega)).mono fun e w' ⟨e1,e2⟩=>⟨e1,jn v w' hv e2⟩
 rw [decide_eq_true hk] at KW;have HJR:=jd jr;have HJB:=jd jb;obtain⟨sx,hsx⟩:∃sx,sx=s.extract l[j].fro l[j].til:=⟨_,rfl⟩
 rw [<-hsx] at KS KD ⊢;obtain⟨a0,a1,a2,a3⟩:=ja (jc _) J2;clear jn jb jr jm hJ b0 s0 hn0 hr0 h hxs hsx hk hft
 go_enter Tryz.func117,Tryz.ntmps117
 go_wp2_with (first
  | (go_at_call 179;refine(ja (KW _) J2).mono ?_;rintro e1 w3 ⟨rfl,G3⟩;obtain⟨c0,c1,c2,c3⟩:=ja (jc _) G3)
  | (go_at_call 180;refine(ja (KS _) G3).mono ?_;rintro e1 w4 ⟨rfl,G4⟩))
 go_at_call 9
 refine(ja (KD _) G4).mono ?_
 rintro e1 w5 ⟨⟨vk,vn,vb,ve,rfl,hw⟩,G5⟩
 have HW:=jd hw;have hr5:=HJR.out _ G5;have hb5:=HJB.out _ G5;clear hw a0 a1 a2 a3 c0 c1 c2 c3 G3 G4 G5 J2;have hY:=jD hr5 (.int .i64 vk) (.int .i64 vn) (.int .u64 (vb:Int)) (.string ⟨#[]⟩) (.slice none 0 0) (.slice none 0 0);have HY:=jd hY;have HF:=jd (jw hb5 (b:=w.heap.size+1) (Nat.le_succ _) (.int .i64 vk) (.int .i64 vn) (.int .u64 (vb:Int)) (.string ⟨#[]⟩) (.slice none 0 0) (.slice none 0 0));have x0:=hr5.cell 0 _ rfl;have x1:=hr5.cell 1 _ rfl;have x2:=hr5.cell 2 _ rfl;have x3:=hr5.cell 3 _ rfl;have x4:=hr5.cell 4 _ rfl;have x5:=hr5.cell 5 _ rfl;have z0:=Blk.froz hr5 0;have z1:=Blk.froz hr5 1;have z2:=Blk.froz hr5 2;have z3:=Blk.froz hr5 3;have z4:=Blk.froz hr5 4;have z5:=Blk.froz hr5 5;clear hY;go_wp2;have hY:=HY.out;have hF:=HF.out;clear HY HF x0 x1 x2 x3 x4 x5 z0 z1 z2 z3 z4 z5 
 generalize hXX:jM w5 (w.heap.size+1) (.int .i64 vk) (.int .i64 vn) (.int .u64 (vb:Int)) (.string ⟨#[]⟩) (.slice none 0 0) (.slice none 0 0)=Y at hY hF;simp only [jM] at hXX;rw [hXX];clear hXX;exact bodyPost_ret (Zg _ hY) rfl ⟨⟨vk,vn,vb,ve,rfl,HW.out⟩,hF⟩
theorem Yh (w:World)(R:Nat)(s:ByteArray)(l:List toks.Tk)(pl er:Int)(h:MRd w R s l pl er)(k e:Int)(j:Nat)(hj:j<l.length)(hft:l[j].fro<=l[j].til/\l[j].til<=s.size)(hs:s.size<=100000)(p:Option Addr)(n c:Nat)(hk:l[j].kind≠4)(zz:ByteArray)(hzz:zz=⟨(escs.ZR (escs.unq (s.extract l[j].fro l[j].til).data.toList)).toArray⟩)(hT:Lib.Utf8Tabs 1 2 w)(hE:escs.jaL (escs.unq (s.extract l[j].fro l[j].til).data.toList)=0) :
  Calls Tryz.prog 117 #[.pointer (some ⟨R,0,none⟩),.agg #[.int .i64 k,.int .i64 (j:Int),.int .i64 e,.slice p n c]] w fun e w'=>e=.returned (.tuple #[.agg #[.int .i64 4,.int .i64 0,.int .u64 0,.string zz,.slice none 0 0,.slice none 0 0],.int .i64 0])/\Below w.heap.size w w':=by
 have b0:Below w.heap.size w ((w.alloc (.cells #[.int .i64 k,.int .i64 (j:Int),.int .i64 e,.slice p n c] 59)).alloc (.cells #[.int .i64 0,.int .i64 0,.int .u64 0,.string ⟨#[]⟩,.slice none 0 0,.slice none 0 0] 26)):=((Below.refl _ w).alloc (Nat.le_refl _) _).alloc (by simp) _;have s0:((w.alloc (.cells #[.int .i64 k,.int .i64 (j:Int),.int .i64 e,.slice p n c] 59)).alloc (.cells #[.int .i64 0,.int .i64 0,.int .u64 0,.string ⟨#[]⟩,.slice none 0 0,.slice none 0 0] 26)).heap.size=w.heap.size+2:=by simp
 have hn0:Blk ((w.alloc (.cells #[.int .i64 k,.int .i64 (j:Int),.int .i64 e,.slice p n c] 59)).alloc (.cells #[.int .i64 0,.int .i64 0,.int .u64 0,.string ⟨#[]⟩,.slice none 0 0,.slice none 0 0] 26)) w.heap.size #[.int .i64 k,.int .i64 (j:Int),.int .i64 e,.slice p n c] 59:=(jf w _ _).alloc _
 have hr0:Blk ((w.alloc (.cells #[.int .i64 k,.int .i64 (j:Int),.int .i64 e,.slice p n c] 59)).alloc (.cells #[.int .i64 0,.int .i64 0,.int .u64 0,.string ⟨#[]⟩,.slice none 0 0,.slice none 0 0] 26)) (w.heap.size+1) #[.int .i64 0,.int .i64 0,.int .u64 0,.string ⟨#[]⟩,.slice none 0 0,.slice none 0 0] 26:=by
  have h:=jf (w.alloc (.cells #[.int .i64 k,.int .i64 (j:Int),.int .i64 e,.slice p n c] 59)) #[.int .i64 0,.int .i64 0,.int .u64 0,.string ⟨#[]⟩,.slice none 0 0,.slice none 0 0] 26;rwa [World.size_alloc] at h
 obtain⟨J,hJ⟩:∃J:World->Prop,J=Below (w.heap.size+2) ((w.alloc (.cells #[.int .i64 k,.int .i64 (j:Int),.int .i64 e,.slice p n c] 59)).alloc (.cells #[.int .i64 0,.int .i64 0,.int .u64 0,.string ⟨#[]⟩,.slice none 0 0,.slice none 0 0] 26)):=⟨_,rfl⟩
 have jn:∀v v',J v->Below v.heap.size v v'->J v':=fun v v' h hb=>by rw [hJ] at h ⊢;exact h.trans (hb.mono (by have:=h.size;omega))
 have jb:∀v,J v->Below w.heap.size w v:=fun v h=>by rw [hJ] at h;exact b0.trans (h.mono (by omega))
 have jr:∀v,J v->Blk v (w.heap.size+1) #[.int .i64 0,.int .i64 0,.int .u64 0,.string ⟨#[]⟩,.slice none 0 0,.slice none 0 0] 26:=fun v h=>by rw [hJ] at h;exact(h.block (w.heap.size+1) (by omega)).trans hr0
 have jm:∀v,J v->MRd v R s l pl er:=fun v hv=>h.later (jb v hv)
 have jc:∀v,Hid (J v->v.cell? ⟨w.heap.size,0,none⟩=some (.int .i64 k)/\v.cell? ⟨w.heap.size,1,none⟩=some (.int .i64 (j:Int))/\v.cell? ⟨w.heap.size,2,none⟩=some (.int .i64 e)/\v.cell? ⟨w.heap.size,3,none⟩=some (.slice p n c)):=fun v h=>by
  rw [hJ] at h;have hv:Blk v w.heap.size _ _:=(h.block w.heap.size (by omega)).trans hn0;exact⟨hv.cell 0 _ rfl,hv.cell 1 _ rfl,hv.cell 2 _ rfl,hv.cell 3 _ rfl⟩
 have J2:J ((w.alloc (.cells #[.int .i64 k,.int .i64 (j:Int),.int .i64 e,.slice p n c] 59)).alloc (.cells #[.int .i64 0,.int .i64 0,.int .u64 0,.string ⟨#[]⟩,.slice none 0 0,.slice none 0 0] 26)):=by rw [hJ];exact Below.refl _ _
 have KW:∀v,Hid (J v->Calls Tryz.prog 179 #[.pointer (some ⟨R,0,none⟩),.agg #[.int .i64 k,.int .i64 (j:Int),.int .i64 e,.slice p n c]] v fun e w'=>e=.returned (.bool (decide (l[j].kind=4)))/\J w'):=fun v hv=>(zq v R s l pl er (jm v hv) k e j hj p n c).mono fun e w' ⟨e1,e2⟩=>⟨e1,jn v w' hv e2⟩
 have KS:∀v,Hid (J v->Calls Tryz.prog 180 #[.pointer (some ⟨R,0,none⟩),.agg #[.int .i64 k,.int .i64 (j:Int),.int .i64 e,.slice p n c]] v fun e w'=>e=.returned (.string (s.extract l[j].fro l[j].til))/\J w'):=fun v hv=>(zo v R s l pl er (jm v hv) k e j hj hft p n c).mono fun e w' ⟨e1,e2⟩=>⟨e1,jn v w' hv e2⟩
 have hxs:(s.extract l[j].fro l[j].til).size<=100000:=by
  have:(s.extract l[j].fro l[j].til).size=min l[j].til s.size - l[j].fro:=by simp
  omega
 have KD:∀v,Hid (J v->Calls Tryz.prog 181 #[.string (s.extract l[j].fro l[j].til)] v fun e w'=>(∃m:Int,e=.returned (.tuple #[.string zz,.int .i64 m,.int .i64 0]))/\J w'):=fun v hv=>by
  rw [hzz];have K:=escs.Qm v (s.extract l[j].fro l[j].til) (by omega) (Utf8Tabs_below hT (jb v hv)) _ (jd rfl);rw [hE] at K;exact K.mono fun e w' ⟨e1,e2⟩=>⟨⟨_,e1⟩,jn v w' hv e2⟩
 have KU:∀P,Hid (J P->Calls Tryz.prog 25 #[.agg #[.int .i64 4,.int .i64 0,.int .u64 0,.string zz,.slice none 0 0,.slice none 0 0],.int .i64 0] P fun e w'=>e=.returned (.tuple #[.agg #[.int .i64 4,.int .i64 0,.int .u64 0,.string zz,.slice none 0 0,.slice none 0 0],.int .i64 0])/\J w'):=fun P hv=>(jiP P 4 0 0 zz).mono fun e w' ⟨e1,e2⟩=>⟨e1,jn P w' hv e2⟩
 rw [decide_eq_false hk] at KW;have HJR:=jd jr;have HJB:=jd jb;obtain⟨sx,hsx⟩:∃sx,sx=s.extract l[j].fro l[j].til:=⟨_,rfl⟩
 rw [<-hsx] at KS KD;obtain⟨a0,a1,a2,a3⟩:=ja (jc _) J2;clear jn jb jr jm hJ b0 s0 hn0 hr0 h hxs hsx hk hft hzz hE hT
 go_enter Tryz.func117,Tryz.ntmps117
 go_wp2_with (first
  | (go_at_call 179;refine(ja (KW _) J2).mono ?_;rintro e1 w3 ⟨rfl,G3⟩;obtain⟨c0,c1,c2,c3⟩:=ja (jc _) G3)
  | (go_at_call 180;refine(ja (KS _) G3).mono ?_;rintro e1 w4 ⟨rfl,G4⟩)
  | (go_at_call 181;refine(ja (KD _) G4).mono ?_;rintro e1 w5 ⟨⟨m,rfl⟩,G5⟩))
 go_at_call 25
 refine(ja (KU _) G5).mono ?_
 rintro e1 w6 ⟨rfl,G6⟩
 have hr5:=HJR.out _ G6;have hb5:=HJB.out _ G6;clear a0 a1 a2 a3 c0 c1 c2 c3 G3 G4 G5 G6 J2;have hY:=jD hr5 (.int .i64 4) (.int .i64 0) (.int .u64 0) (.string zz) (.slice none 0 0) (.slice none 0 0);have HY:=jd hY;have HF:=jd (jw hb5 (b:=w.heap.size+1) (Nat.le_succ _) (.int .i64 4) (.int .i64 0) (.int .u64 0) (.string zz) (.slice none 0 0) (.slice none 0 0));have x0:=hr5.cell 0 _ rfl;have x1:=hr5.cell 1 _ rfl;have x2:=hr5.cell 2 _ rfl;have x3:=hr5.cell 3 _ rfl;have x4:=hr5.cell 4 _ rfl;have x5:=hr5.cell 5 _ rfl;have z0:=Blk.froz hr5 0;have z1:=Blk.froz hr5 1;have z2:=Blk.froz hr5 2;have z3:=Blk.froz hr5 3;have z4:=Blk.froz hr5 4;have z5:=Blk.froz hr5 5;clear hY;go_wp2;have hY:=HY.out;have hF:=HF.out;clear HY HF x0 x1 x2 x3 x4 x5 z0 z1 z2 z3 z4 z5 
 generalize hXX:jM w6 (w.heap.size+1) (.int .i64 4) (.int .i64 0) (.int .u64 0) (.string zz) (.slice none 0 0) (.slice none 0 0)=Y at hY hF;simp only [jM] at hXX;rw [hXX];clear hXX;exact bodyPost_ret (Zg _ hY) rfl ⟨rfl,hF⟩
theorem jaY (w:World)(R:Nat)(s:ByteArray)(l:List toks.Tk)(pl er:Int)(h:MRd w R s l pl er)(k e:Int)(j:Nat)(hj:j<l.length)(hft:l[j].fro<=l[j].til/\l[j].til<=s.size)(hs:s.size<=100000)(p:Option Addr)(n c:Nat)(hk:l[j].kind≠4)(zz:ByteArray)(hzz:zz=⟨(escs.ZR (escs.unq (s.extract l[j].fro l[j].til).data.toList)).toArray⟩)(hT:Lib.Utf8Tabs 1 2 w)(xe:Int)(hxe:(xe != 0)=true)(hE:escs.jaL (escs.unq (s.extract l[j].fro l[j].til).data.toList)=xe) :
  Calls Tryz.prog 117 #[.pointer (some ⟨R,0,none⟩),.agg #[.int .i64 k,.int .i64 (j:Int),.int .i64 e,.slice p n c]] w fun e w'=>e=.returned (.tuple #[.agg #[.int .i64 0,.int .i64 0,.int .u64 0,.string ⟨#[]⟩,.slice none 0 0,.slice none 0 0],.int .i64 xe])/\Below w.heap.size w w':=by
 have b0:Below w.heap.size w ((w.alloc (.cells #[.int .i64 k,.int .i64 (j:Int),.int .i64 e,.slice p n c] 59)).alloc (.cells #[.int .i64 0,.int .i64 0,.int .u64 0,.string ⟨#[]⟩,.slice none 0 0,.slice none 0 0] 26)):=((Below.refl _ w).alloc (Nat.le_refl _) _).alloc (by simp) _;have s0:((w.alloc (.cells #[.int .i64 k,.int .i64 (j:Int),.int .i64 e,.slice p n c] 59)).alloc (.cells #[.int .i64 0,.int .i64 0,.int .u64 0,.string ⟨#[]⟩,.slice none 0 0,.slice none 0 0] 26)).heap.size=w.heap.size+2:=by simp
 have hn0:Blk ((w.alloc (.cells #[.int .i64 k,.int .i64 (j:Int),.int .i64 e,.slice p n c] 59)).alloc (.cells #[.int .i64 0,.int .i64 0,.int .u64 0,.string ⟨#[]⟩,.slice none 0 0,.slice none 0 0] 26)) w.heap.size #[.int .i64 k,.int .i64 (j:Int),.int .i64 e,.slice p n c] 59:=(jf w _ _).alloc _
 have hr0:Blk ((w.alloc (.cells #[.int .i64 k,.int .i64 (j:Int),.int .i64 e,.slice p n c] 59)).alloc (.cells #[.int .i64 0,.int .i64 0,.int .u64 0,.string ⟨#[]⟩,.slice none 0 0,.slice none 0 0] 26)) (w.heap.size+1) #[.int .i64 0,.int .i64 0,.int .u64 0,.string ⟨#[]⟩,.slice none 0 0,.slice none 0 0] 26:=by
  have h:=jf (w.alloc (.cells #[.int .i64 k,.int .i64 (j:Int),.int .i64 e,.slice p n c] 59)) #[.int .i64 0,.int .i64 0,.int .u64 0,.string ⟨#[]⟩,.slice none 0 0,.slice none 0 0] 26;rwa [World.size_alloc] at h
 obtain⟨J,hJ⟩:∃J:World->Prop,J=Below (w.heap.size+2) ((w.alloc (.cells #[.int .i64 k,.int .i64 (j:Int),.int .i64 e,.slice p n c] 59)).alloc (.cells #[.int .i64 0,.int .i64 0,.int .u64 0,.string ⟨#[]⟩,.slice none 0 0,.slice none 0 0] 26)):=⟨_,rfl⟩
 have jn:∀v v',J v->Below v.heap.size v v'->J v':=fun v v' h hb=>by rw [hJ] at h ⊢;exact h.trans (hb.mono (by have:=h.size;omega))
 have jb:∀v,J v->Below w.heap.size w v:=fun v h=>by rw [hJ] at h;exact b0.trans (h.mono (by omega))
 have jr:∀v,J v->Blk v (w.heap.size+1) #[.int .i64 0,.int .i64 0,.int .u64 0,.string ⟨#[]⟩,.slice none 0 0,.slice none 0 0] 26:=fun v h=>by rw [hJ] at h;exact(h.block (w.heap.size+1) (by omega)).trans hr0
 have jm:∀v,J v->MRd v R s l pl er:=fun v hv=>h.later (jb v hv)
 have jc:∀v,Hid (J v->v.cell? ⟨w.heap.size,0,none⟩=some (.int .i64 k)/\v.cell? ⟨w.heap.size,1,none⟩=some (.int .i64 (j:Int))/\v.cell? ⟨w.heap.size,2,none⟩=some (.int .i64 e)/\v.cell? ⟨w.heap.size,3,none⟩=some (.slice p n c)):=fun v h=>by
  rw [hJ] at h;have hv:Blk v w.heap.size _ _:=(h.block w.heap.size (by omega)).trans hn0;exact⟨hv.cell 0 _ rfl,hv.cell 1 _ rfl,hv.cell 2 _ rfl,hv.cell 3 _ rfl⟩
 have J2:J ((w.alloc (.cells #[.int .i64 k,.int .i64 (j:Int),.int .i64 e,.slice p n c] 59)).alloc (.cells #[.int .i64 0,.int .i64 0,.int .u64 0,.string ⟨#[]⟩,.slice none 0 0,.slice none 0 0] 26)):=by rw [hJ];exact Below.refl _ _
 have KW:∀v,Hid (J v->Calls Tryz.prog 179 #[.pointer (some ⟨R,0,none⟩),.agg #[.int .i64 k,.int .i64 (j:Int),.int .i64 e,.slice p n c]] v fun e w'=>e=.returned (.bool (decide (l[j].kind=4)))/\J w'):=fun v hv=>(zq v R s l pl er (jm v hv) k e j hj p n c).mono fun e w' ⟨e1,e2⟩=>⟨e1,jn v w' hv e2⟩
 have KS:∀v,Hid (J v->Calls Tryz.prog 180 #[.pointer (some ⟨R,0,none⟩),.agg #[.int .i64 k,.int .i64 (j:Int),.int .i64 e,.slice p n c]] v fun e w'=>e=.returned (.string (s.extract l[j].fro l[j].til))/\J w'):=fun v hv=>(zo v R s l pl er (jm v hv) k e j hj hft p n c).mono fun e w' ⟨e1,e2⟩=>⟨e1,jn v w' hv e2⟩
 have hxs:(s.extract l[j].fro l[j].til).size<=100000:=by
  have:(s.extract l[j].fro l[j].til).size=min l[j].til s.size - l[j].fro:=by simp
  omega
 have KD:∀v,Hid (J v->Calls Tryz.prog 181 #[.string (s.extract l[j].fro l[j].til)] v fun e w'=>(∃m:Int,e=.returned (.tuple #[.string zz,.int .i64 m,.int .i64 xe]))/\J w'):=fun v hv=>by
  rw [hzz];have K:=escs.Qm v (s.extract l[j].fro l[j].til) (by omega) (Utf8Tabs_below hT (jb v hv)) _ (jd rfl);rw [hE] at K;exact K.mono fun e w' ⟨e1,e2⟩=>⟨⟨_,e1⟩,jn v w' hv e2⟩
 have KU:∀P,Hid (J P->Calls Tryz.prog 25 #[.agg #[.int .i64 4,.int .i64 0,.int .u64 0,.string zz,.slice none 0 0,.slice none 0 0],.int .i64 xe] P fun e w'=>e=.returned (.tuple #[.agg #[.int .i64 0,.int .i64 0,.int .u64 0,.string ⟨#[]⟩,.slice none 0 0,.slice none 0 0],.int .i64 xe])/\J w'):=fun P hv=>(jeB P 4 0 0 zz xe hxe).mono fun e w' ⟨e1,e2⟩=>⟨e1,jn P w' hv e2⟩
 rw [decide_eq_false hk] at KW;have HJR:=jd jr;have HJB:=jd jb;obtain⟨sx,hsx⟩:∃sx,sx=s.extract l[j].fro l[j].til:=⟨_,rfl⟩
 rw [<-hsx] at KS KD;obtain⟨a0,a1,a2,a3⟩:=ja (jc _) J2;clear jn jb jr jm hJ b0 s0 hn0 hr0 h hxs hsx hk hft hzz hE hT
 go_enter Tryz.func117,Tryz.ntmps117
 go_wp2_with (first
  | (go_at_call 179;refine(ja (KW _) J2).mono ?_;rintro e1 w3 ⟨rfl,G3⟩;obtain⟨c0,c1,c2,c3⟩:=ja (jc _) G3)
  | (go_at_call 180;refine(ja (KS _) G3).mono ?_;rintro e1 w4 ⟨rfl,G4⟩)
  | (go_at_call 181;refine(ja (KD _) G4).mono ?_;rintro e1 w5 ⟨⟨m,rfl⟩,G5⟩))
 go_at_call 25
 refine(ja (KU _) G5).mono ?_
 rintro e1 w6 ⟨rfl,G6⟩
 have hr5:=HJR.out _ G6;have hb5:=HJB.out _ G6;clear a0 a1 a2 a3 c0 c1 c2 c3 G3 G4 G5 G6 J2;have hY:=jD hr5 (.int .i64 0) (.int .i64 0) (.int .u64 0) (.string ⟨#[]⟩) (.slice none 0 0) (.slice none 0 0);have HY:=jd hY;have HF:=jd (jw hb5 (b:=w.heap.size+1) (Nat.le_succ _) (.int .i64 0) (.int .i64 0) (.int .u64 0) (.string ⟨#[]⟩) (.slice none 0 0) (.slice none 0 0));have x0:=hr5.cell 0 _ rfl;have x1:=hr5.cell 1 _ rfl;have x2:=hr5.cell 2 _ rfl;have x3:=hr5.cell 3 _ rfl;have x4:=hr5.cell 4 _ rfl;have x5:=hr5.cell 5 _ rfl;have z0:=Blk.froz hr5 0;have z1:=Blk.froz hr5 1;have z2:=Blk.froz hr5 2;have z3:=Blk.froz hr5 3;have z4:=Blk.froz hr5 4;have z5:=Blk.froz hr5 5;clear hY;go_wp2;have hY:=HY.out;have hF:=HF.out;clear HY HF x0 x1 x2 x3 x4 x5 z0 z1 z2 z3 z4 z5 
 generalize hXX:jM w6 (w.heap.size+1) (.int .i64 0) (.int .i64 0) (.int .u64 0) (.string ⟨#[]⟩) (.slice none 0 0) (.slice none 0 0)=Y at hY hF;simp only [jM] at hXX;rw [hXX];clear hXX;exact bodyPost_ret (Zg _ hY) rfl ⟨rfl,hF⟩
open Go.RowKit Go.Shelf
def zB (src:List UInt8)(kind:Nat)(x:Lab)(er:Int):Prop :=
 if kind=4 then Zk src x er else er=escs.jaL (escs.unq src)/\x=if er=0 then (4,0,0,escs.ZR (escs.unq src)) else (0,0,0,[])
theorem ja5 (w:World)(R:Nat)(s:ByteArray)(l:List toks.Tk)(pl er:Int)(h:MRd w R s l pl er)(k e:Int)(j:Nat)(hj:j<l.length)(hft:l[j].fro<=l[j].til/\l[j].til<=s.size)(hs:s.size<=100000)(p:Option Addr)(n c:Nat)(hT:Lib.Utf8Tabs 1 2 w) :
  Calls Tryz.prog 117 #[.pointer (some ⟨R,0,none⟩),.agg #[.int .i64 k,.int .i64 (j:Int),.int .i64 e,.slice p n c]] w fun e w'=>(∃(vk vn:Int) (vb:Nat) (vz:ByteArray) (ve:Int),e=.returned (.tuple #[.agg #[.int .i64 vk,.int .i64 vn,.int .u64 (vb:Int),.string vz,.slice none 0 0,.slice none 0 0],.int .i64 ve])/\zB (s.extract l[j].fro l[j].til).data.toList l[j].kind (vk,vn,vb,vz.data.toList) ve)/\Below w.heap.size w w':=by
 unfold zB
 by_cases hk:l[j].kind=4
 ·exact(Yg w R s l pl er h k e j hj hft hs p n c hk).mono fun e w' ⟨⟨vk,vn,vb,ve,e1,e2⟩,e3⟩=>⟨⟨vk,vn,vb,⟨#[]⟩,ve,e1,by rw [if_pos hk];exact e2⟩,e3⟩
 ·by_cases hE:escs.jaL (escs.unq (s.extract l[j].fro l[j].til).data.toList)=0
  ·exact(Yh w R s l pl er h k e j hj hft hs p n c hk _ rfl hT hE).mono fun e w' ⟨e1,e2⟩=>⟨⟨4,0,0,_,0,e1,by rw [if_neg hk];exact⟨hE.symm,by rw [if_pos rfl]⟩⟩,e2⟩
  ·exact(jaY w R s l pl er h k e j hj hft hs p n c hk _ rfl hT _ (bne_iff_ne.2 hE) rfl).mono fun e w' ⟨e1,e2⟩=>⟨⟨0,0,0,⟨#[]⟩,_,e1,by rw [if_neg hk];exact⟨rfl,by rw [if_neg hE]⟩⟩,e2⟩
theorem js {R:Nat}{w w':World}(hb:Below w.heap.size w w'):Only R w w':=⟨hb.os,hb.tape,hb.output,hb.size,fun q hq _=>hb.block q hq⟩
theorem ZN {w:World}{B:Nat}{u0 u1 u2 u3 u4 u5:Value}{x:Bool}(tmps:Array Value)(h:Blk w B #[u0,u1,u2,u3,u4,u5] 26)(ht:tmps[4]?=some (.pointer (some ⟨B,0,none⟩)):=by rfl)(hx:tmps[5]?=some (.bool x):=by rfl):(results Tryz.f62 tmps).run Tryz.prog w=.ok (.tuple #[.agg #[u0,u1,u2,u3,u4,u5],.bool x]) w:=by
 obtain⟨c0,c1,c2,c3,c4,c5⟩:=h.cells6;simp [results,Tryz.f62,ht,hx,go_sem,c0,c1,c2,c3,c4,c5]
theorem jim (w:World)(R:Nat)(s:ByteArray)(l:List toks.Tk)(pl er:Int)(h:MRd w R s l pl er)(k e:Int)(j:Nat)(hj:j<l.length)(hft:l[j].fro<=l[j].til/\l[j].til<=s.size)(hs:s.size<=100000)(p:Option Addr)(n c:Nat)(hT:Lib.Utf8Tabs 1 2 w) :
  Calls Tryz.prog 62 #[.pointer (some ⟨R,0,none⟩),.agg #[.int .i64 k,.int .i64 (j:Int),.int .i64 e,.slice p n c]] w fun e w'=>((∃(vk vn:Int) (vb:Nat) (vz:ByteArray),e=.returned (.tuple #[.agg #[.int .i64 vk,.int .i64 vn,.int .u64 (vb:Int),.string vz,.slice none 0 0,.slice none 0 0],.bool true])/\zB (s.extract l[j].fro l[j].til).data.toList l[j].kind (vk,vn,vb,vz.data.toList) 0/\MRd w' R s l pl er)\/(∃(x:Lab) (ve:Int),e=.returned (.tuple #[.agg #[.int .i64 0,.int .i64 0,.int .u64 0,.string ⟨#[]⟩,.slice none 0 0,.slice none 0 0],.bool false])/\ve≠0/\zB (s.extract l[j].fro l[j].til).data.toList l[j].kind x ve/\MRd w' R s l (l[j].fro:Int) ve))/\Only R w w':=by
 have hRw:=h.lt;have b0:Below w.heap.size w ((w.alloc (.cells #[.int .i64 k,.int .i64 (j:Int),.int .i64 e,.slice p n c] 59)).alloc (.cells #[.int .i64 0,.int .i64 0,.int .u64 0,.string ⟨#[]⟩,.slice none 0 0,.slice none 0 0] 26)):=((Below.refl _ w).alloc (Nat.le_refl _) _).alloc (by simp) _;have s0:((w.alloc (.cells #[.int .i64 k,.int .i64 (j:Int),.int .i64 e,.slice p n c] 59)).alloc (.cells #[.int .i64 0,.int .i64 0,.int .u64 0,.string ⟨#[]⟩,.slice none 0 0,.slice none 0 0] 26)).heap.size=w.heap.size+2:=by simp
 have hn0:Blk ((w.alloc (.cells #[.int .i64 k,.int .i64 (j:Int),.int .i64 e,.slice p n c] 59)).alloc (.cells #[.int .i64 0,.int .i64 0,.int .u64 0,.string ⟨#[]⟩,.slice none 0 0,.slice none 0 0] 26)) w.heap.size #[.int .i64 k,.int .i64 (j:Int),.int .i64 e,.slice p n c] 59:=(jf w _ _).alloc _
 have hr0:Blk ((w.alloc (.cells #[.int .i64 k,.int .i64 (j:Int),.int .i64 e,.slice p n c] 59)).alloc (.cells #[.int .i64 0,.int .i64 0,.int .u64 0,.string ⟨#[]⟩,.slice none 0 0,.slice none 0 0] 26)) (w.heap.size+1) #[.int .i64 0,.int .i64 0,.int .u64 0,.string ⟨#[]⟩,.slice none 0 0,.slice none 0 0] 26:=by
  have h:=jf (w.alloc (.cells #[.int .i64 k,.int .i64 (j:Int),.int .i64 e,.slice p n c] 59)) #[.int .i64 0,.int .i64 0,.int .u64 0,.string ⟨#[]⟩,.slice none 0 0,.slice none 0 0] 26;rwa [World.size_alloc] at h
 have KL:=jd (ja5 ((w.alloc (.cells #[.int .i64 k,.int .i64 (j:Int),.int .i64 e,.slice p n c] 59)).alloc (.cells #[.int .i64 0,.int .i64 0,.int .u64 0,.string ⟨#[]⟩,.slice none 0 0,.slice none 0 0] 26)) R s l pl er (h.later b0) k e j hj hft hs p n c (Utf8Tabs_below hT b0));have a0:=hn0.cell 0 _ rfl;have a1:=hn0.cell 1 _ rfl;have a2:=hn0.cell 2 _ rfl;have a3:=hn0.cell 3 _ rfl;have KR:Hid (∀(v:World) (ve:Int),MRd v R s l pl er->Calls Tryz.prog 118 #[.pointer (some ⟨R,0,none⟩),.agg #[.int .i64 k,.int .i64 (j:Int),.int .i64 e,.slice p n c],.int .i64 ve] v fun e w'=>(∃v,e=.returned v)/\MRd w' R s l (l[j].fro:Int) ve/\Only R v w'):=jd fun v ve hv=>jT v R s l pl er hv k e j hj p n c ve
 have HH:=jd (And.intro h (And.intro b0 (And.intro s0 (And.intro hn0 (And.intro hr0 hRw)))));obtain⟨src,hsrc⟩:∃src,src=(s.extract l[j].fro l[j].til).data.toList:=⟨_,rfl⟩
 obtain⟨kd,hkd⟩:∃kd,kd=l[j].kind:=⟨_,rfl⟩
 obtain⟨fr,hfr⟩:∃fr:Int,fr=(l[j].fro:Int):=⟨_,rfl⟩
 rw [<-hsrc,<-hkd] at KL;rw [<-hfr] at KR;rw [<-hsrc,<-hkd,<-hfr];clear h b0 s0 hn0 hr0 hT hft hRw hsrc hkd hfr
 go_enter Tryz.func62,Tryz.ntmps62
 go_upto_region 2 with (go_at_call 117;refine(ja KL).mono ?_;rintro e1 w3 ⟨⟨vk,vn,vb,vz,ve,rfl,hlf⟩,b3⟩)
 obtain⟨h,b0,s0,hn0,hr0,hRw⟩:=HH.out;have bA:Below w3.heap.size w3 (w3.alloc (.cells #[.int .i64 vk,.int .i64 vn,.int .u64 (vb:Int),.string vz,.slice none 0 0,.slice none 0 0] 26)):=(Below.refl _ w3).alloc (Nat.le_refl _) _;have b35:=b3.trans (bA.mono b3.size);have hD:=jf w3 #[.int .i64 vk,.int .i64 vn,.int .u64 (vb:Int),.string vz,.slice none 0 0,.slice none 0 0] 26;have hn5:=hn0.below b35;have hr5:=hr0.below b35;have bP:Below w.heap.size w (w3.alloc (.cells #[.int .i64 vk,.int .i64 vn,.int .u64 (vb:Int),.string vz,.slice none 0 0,.slice none 0 0] 26)):=b0.trans (b35.mono (by omega));have hm5:=h.later bP;have hs5:=b35.size;have hd3:w.heap.size+2<=w3.heap.size:=by have:=b3.size;omega
 clear a0 a1 a2 a3 bA b3 b35 hn0 hr0 b0 KL HH h;generalize w3.alloc (.cells #[.int .i64 vk,.int .i64 vn,.int .u64 (vb:Int),.string vz,.slice none 0 0,.slice none 0 0] 26)=P at *;obtain⟨D,hDD⟩:∃D,D=w3.heap.size:=⟨_,rfl⟩
 rw [<-hDD] at hD hd3 ⊢;clear hDD
 by_cases hve:ve=0
 ·subst hve
  have FIN:=jd (And.intro hlf (And.intro hm5 (And.intro bP hRw)));clear hlf hm5 hn5 hs5 hd3 s0 KR hRw
  go_upto_region 5 with fail
  have hY:=jD hr5 (.int .i64 vk) (.int .i64 vn) (.int .u64 (vb:Int)) (.string vz) (.slice none 0 0) (.slice none 0 0);have HY:=jd hY;have HF:=jd (jw (Below.refl (w.heap.size+1) P) (b:=w.heap.size+1) (Nat.le_refl _) (.int .i64 vk) (.int .i64 vn) (.int .u64 (vb:Int)) (.string vz) (.slice none 0 0) (.slice none 0 0));have x0:=hr5.cell 0 _ rfl;have x1:=hr5.cell 1 _ rfl;have x2:=hr5.cell 2 _ rfl;have x3:=hr5.cell 3 _ rfl;have x4:=hr5.cell 4 _ rfl;have x5:=hr5.cell 5 _ rfl;have z0:=Blk.froz hr5 0;have z1:=Blk.froz hr5 1;have z2:=Blk.froz hr5 2;have z3:=Blk.froz hr5 3;have z4:=Blk.froz hr5 4;have z5:=Blk.froz hr5 5;have q0:=hD.cell 0 _ rfl;have q1:=hD.cell 1 _ rfl;have q2:=hD.cell 2 _ rfl;have q3:=hD.cell 3 _ rfl;have q4:=hD.cell 4 _ rfl;have q5:=hD.cell 5 _ rfl;clear hY;go_wp2;have hY:=HY.out;have hF:=HF.out;clear HY HF x0 x1 x2 x3 x4 x5 z0 z1 z2 z3 z4 z5 q0 q1 q2 q3 q4 q5
  generalize hXX:jM P (w.heap.size+1) (.int .i64 vk) (.int .i64 vn) (.int .u64 (vb:Int)) (.string vz) (.slice none 0 0) (.slice none 0 0)=Y at hY hF;simp only [jM] at hXX;rw [hXX];clear hXX;refine bodyPost_ret (ZN _ hY) rfl ?_
  obtain⟨hlf,hm5,bP2,hRw⟩:=FIN.out;have hB:Below w.heap.size w Y:=bP2.trans (hF.mono (by omega));obtain⟨a,cap,g1,g2,g3,g4⟩:=hm5;refine⟨.inl ⟨vk,vn,vb,vz,rfl,hlf,⟨a,cap,(hF.block R (by omega)).trans g1,g2,g3,g4.kept (fun q hq=>hF.block q (by omega))⟩⟩,js hB⟩
 ·have g0:(ve != 0)=true:=bne_iff_ne.2 hve
  have HV:=jd hve;have HL:=jd hlf;have HRM:=jd (KR.out P ve hm5);have a0:=hn5.cell 0 _ rfl;have a1:=hn5.cell 1 _ rfl;have a2:=hn5.cell 2 _ rfl;have a3:=hn5.cell 3 _ rfl;have HH:=jd (And.intro hr5 (And.intro bP (And.intro hRw (And.intro hs5 s0))));clear hlf hm5 hn5 hs5 hd3 s0 KR hRw hr5 bP hD hve
  go_upto_region 4 with (go_at_call 118;refine(ja HRM).mono ?_;rintro e1 w6 ⟨⟨vv,rfl⟩,hm6,o6⟩)
  obtain⟨hr5,bP,hRw,hs5,s0⟩:=HH.out;have hr6:Blk w6 (w.heap.size+1) _ _:=(o6.block (w.heap.size+1) hr5.lt (fun e=>by have:=Option.some.inj e;omega)).trans hr5;have o7:Only R w w6:=(js bP).trans o6;have FIN:=jd (And.intro hm6 (And.intro o7 hRw));clear hm6 o6 o7 hr5 bP hRw hs5 s0 a0 a1 a2 a3 HH HRM;have hY:=jD hr6 (.int .i64 0) (.int .i64 0) (.int .u64 0) (.string ⟨#[]⟩) (.slice none 0 0) (.slice none 0 0);have HY:=jd hY;have HF:=jd (jw (Below.refl (w.heap.size+1) w6) (b:=w.heap.size+1) (Nat.le_refl _) (.int .i64 0) (.int .i64 0) (.int .u64 0) (.string ⟨#[]⟩) (.slice none 0 0) (.slice none 0 0));have x0:=hr6.cell 0 _ rfl;have x1:=hr6.cell 1 _ rfl;have x2:=hr6.cell 2 _ rfl;have x3:=hr6.cell 3 _ rfl;have x4:=hr6.cell 4 _ rfl;have x5:=hr6.cell 5 _ rfl;have z0:=Blk.froz hr6 0;have z1:=Blk.froz hr6 1;have z2:=Blk.froz hr6 2;have z3:=Blk.froz hr6 3
  have z4:=Blk.froz hr6 4;have z5:=Blk.froz hr6 5;clear hY;go_wp2;have hY:=HY.out;have hF:=HF.out;clear HY HF x0 x1 x2 x3 x4 x5 z0 z1 z2 z3 z4 z5 ;generalize hXX:jM w6 (w.heap.size+1) (.int .i64 0) (.int .i64 0) (.int .u64 0) (.string ⟨#[]⟩) (.slice none 0 0) (.slice none 0 0)=Y at hY hF;simp only [jM] at hXX;rw [hXX];clear hXX;refine bodyPost_ret (ZN _ hY) rfl ?_
  obtain⟨hm6,o7,hRw⟩:=FIN.out;obtain⟨a,cap,g1,g2,g3,g4⟩:=hm6;refine⟨.inr ⟨_,ve,rfl,HV.out,HL.out,⟨a,cap,(hF.block R (by omega)).trans g1,g2,g3,g4.kept (fun q hq=>hF.block q (by omega))⟩⟩,?_⟩;exact⟨hF.os.trans o7.os,hF.tape.trans o7.tape,hF.output.trans o7.output,Nat.le_trans o7.size hF.size,fun q hq hne=>(hF.block q (by omega)).trans (o7.block q hq hne)⟩
open Go.RowKit Go.Shelf
theorem jjr (w:World)(R:Nat)(s:ByteArray)(l:List toks.Tk)(pl er:Int)(h:MRd w R s l pl er)(k e:Int)(j:Nat)(hj:j<l.length)(hft:l[j].fro<=l[j].til/\l[j].til<=s.size)(hs:s.size<=100000)(p:Option Addr)(n c:Nat)(hk:l[j].kind=4)(hB:escs.Ji (s.extract l[j].fro l[j].til).data.toList=true) :
  Calls Tryz.prog 175 #[.pointer (some ⟨R,0,none⟩),.agg #[.int .i64 k,.int .i64 (j:Int),.int .i64 e,.slice p n c]] w fun e w'=>e=.returned (.tuple #[.string (s.extract l[j].fro l[j].til),.int .i64 0])/\Below w.heap.size w w':=by
 have b0:Below w.heap.size w (w.alloc (.cells #[.int .i64 k,.int .i64 (j:Int),.int .i64 e,.slice p n c] 59)):=(Below.refl _ w).alloc (Nat.le_refl _) _;have s0:(w.alloc (.cells #[.int .i64 k,.int .i64 (j:Int),.int .i64 e,.slice p n c] 59)).heap.size=w.heap.size+1:=by simp
 have hn0:=jf w #[.int .i64 k,.int .i64 (j:Int),.int .i64 e,.slice p n c] 59;obtain⟨J,hJ⟩:∃J:World->Prop,J=Below (w.heap.size+1) (w.alloc (.cells #[.int .i64 k,.int .i64 (j:Int),.int .i64 e,.slice p n c] 59)):=⟨_,rfl⟩
 have jn:∀v v',J v->Below v.heap.size v v'->J v':=fun v v' h hb=>by rw [hJ] at h ⊢;exact h.trans (hb.mono (by have:=h.size;omega))
 have jb:∀v,J v->Below w.heap.size w v:=fun v h=>by rw [hJ] at h;exact b0.trans (h.mono (by omega))
 have jm:∀v,J v->MRd v R s l pl er:=fun v hv=>h.later (jb v hv)
 have jc:∀v,Hid (J v->v.cell? ⟨w.heap.size,0,none⟩=some (.int .i64 k)/\v.cell? ⟨w.heap.size,1,none⟩=some (.int .i64 (j:Int))/\v.cell? ⟨w.heap.size,2,none⟩=some (.int .i64 e)/\v.cell? ⟨w.heap.size,3,none⟩=some (.slice p n c)):=fun v h=>by
  rw [hJ] at h;have hv:Blk v w.heap.size _ _:=(h.block w.heap.size (by omega)).trans hn0;exact⟨hv.cell 0 _ rfl,hv.cell 1 _ rfl,hv.cell 2 _ rfl,hv.cell 3 _ rfl⟩
 have J2:J (w.alloc (.cells #[.int .i64 k,.int .i64 (j:Int),.int .i64 e,.slice p n c] 59)):=by rw [hJ];exact Below.refl _ _
 have KW:∀v,Hid (J v->Calls Tryz.prog 179 #[.pointer (some ⟨R,0,none⟩),.agg #[.int .i64 k,.int .i64 (j:Int),.int .i64 e,.slice p n c]] v fun e w'=>e=.returned (.bool (decide (l[j].kind=4)))/\J w'):=fun v hv=>(zq v R s l pl er (jm v hv) k e j hj p n c).mono fun e w' ⟨e1,e2⟩=>⟨e1,jn v w' hv e2⟩
 have KS:∀v,Hid (J v->Calls Tryz.prog 180 #[.pointer (some ⟨R,0,none⟩),.agg #[.int .i64 k,.int .i64 (j:Int),.int .i64 e,.slice p n c]] v fun e w'=>e=.returned (.string (s.extract l[j].fro l[j].til))/\J w'):=fun v hv=>(zo v R s l pl er (jm v hv) k e j hj hft p n c).mono fun e w' ⟨e1,e2⟩=>⟨e1,jn v w' hv e2⟩
 have hxs:(s.extract l[j].fro l[j].til).size<=100000:=by
  have:(s.extract l[j].fro l[j].til).size=min l[j].til s.size - l[j].fro:=by simp
  omega
 have KD:∀v,Hid (J v->Calls Tryz.prog 209 #[.string (s.extract l[j].fro l[j].til)] v fun e w'=>e=.returned (.bool true)/\J w'):=fun v hv=>by
  have K:=escs.jdd v (s.extract l[j].fro l[j].til);rw [hB] at K;exact K.mono fun e w' ⟨e1,e2⟩=>⟨e1,by rw [e2];exact hv⟩
 rw [decide_eq_true hk] at KW;have HJB:=jd jb;obtain⟨sx,hsx⟩:∃sx,sx=s.extract l[j].fro l[j].til:=⟨_,rfl⟩
 rw [<-hsx] at KS KD;rw [<-hsx];obtain⟨a0,a1,a2,a3⟩:=ja (jc _) J2;clear jn jb jm hJ b0 s0 hn0 h hxs hsx hft hk hB
 go_enter Tryz.func175,Tryz.ntmps175
 go_wp2_with (first
  | (go_at_call 180;refine(ja (KS _) J2).mono ?_;rintro e1 w3 ⟨rfl,G3⟩;obtain⟨c0,c1,c2,c3⟩:=ja (jc _) G3)
  | (go_at_call 179;refine(ja (KW _) G3).mono ?_;rintro e1 w4 ⟨rfl,G4⟩)
  | (go_at_call 209;refine(ja (KD _) G4).mono ?_;rintro e1 w5 ⟨rfl,G5⟩))
 refine bodyPost_ret (v:=.tuple #[.string (sx),.int .i64 0]) (by simp [results,Tryz.f175,go_sem]) rfl ⟨rfl,HJB.out _ G5⟩
theorem jcS (w:World)(R:Nat)(s:ByteArray)(l:List toks.Tk)(pl er:Int)(h:MRd w R s l pl er)(k e:Int)(j:Nat)(hj:j<l.length)(hft:l[j].fro<=l[j].til/\l[j].til<=s.size)(hs:s.size<=100000)(p:Option Addr)(n c:Nat)(hk:l[j].kind=4)(hB:escs.Ji (s.extract l[j].fro l[j].til).data.toList=false) :
  Calls Tryz.prog 175 #[.pointer (some ⟨R,0,none⟩),.agg #[.int .i64 k,.int .i64 (j:Int),.int .i64 e,.slice p n c]] w fun e w'=>e=.returned (.tuple #[.string ⟨#[]⟩,.int .i64 4])/\Below w.heap.size w w':=by
 have b0:Below w.heap.size w (w.alloc (.cells #[.int .i64 k,.int .i64 (j:Int),.int .i64 e,.slice p n c] 59)):=(Below.refl _ w).alloc (Nat.le_refl _) _;have s0:(w.alloc (.cells #[.int .i64 k,.int .i64 (j:Int),.int .i64 e,.slice p n c] 59)).heap.size=w.heap.size+1:=by simp
 have hn0:=jf w #[.int .i64 k,.int .i64 (j:Int),.int .i64 e,.slice p n c] 59;obtain⟨J,hJ⟩:∃J:World->Prop,J=Below (w.heap.size+1) (w.alloc (.cells #[.int .i64 k,.int .i64 (j:Int),.int .i64 e,.slice p n c] 59)):=⟨_,rfl⟩
 have jn:∀v v',J v->Below v.heap.size v v'->J v':=fun v v' h hb=>by rw [hJ] at h ⊢;exact h.trans (hb.mono (by have:=h.size;omega))
 have jb:∀v,J v->Below w.heap.size w v:=fun v h=>by rw [hJ] at h;exact b0.trans (h.mono (by omega))
 have jm:∀v,J v->MRd v R s l pl er:=fun v hv=>h.later (jb v hv)
 have jc:∀v,Hid (J v->v.cell? ⟨w.heap.size,0,none⟩=some (.int .i64 k)/\v.cell? ⟨w.heap.size,1,none⟩=some (.int .i64 (j:Int))/\v.cell? ⟨w.heap.size,2,none⟩=some (.int .i64 e)/\v.cell? ⟨w.heap.size,3,none⟩=some (.slice p n c)):=fun v h=>by
  rw [hJ] at h;have hv:Blk v w.heap.size _ _:=(h.block w.heap.size (by omega)).trans hn0;exact⟨hv.cell 0 _ rfl,hv.cell 1 _ rfl,hv.cell 2 _ rfl,hv.cell 3 _ rfl⟩
 have J2:J (w.alloc (.cells #[.int .i64 k,.int .i64 (j:Int),.int .i64 e,.slice p n c] 59)):=by rw [hJ];exact Below.refl _ _
 have KW:∀v,Hid (J v->Calls Tryz.prog 179 #[.pointer (some ⟨R,0,none⟩),.agg #[.int .i64 k,.int .i64 (j:Int),.int .i64 e,.slice p n c]] v fun e w'=>e=.returned (.bool (decide (l[j].kind=4)))/\J w'):=fun v hv=>(zq v R s l pl er (jm v hv) k e j hj p n c).mono fun e w' ⟨e1,e2⟩=>⟨e1,jn v w' hv e2⟩
 have KS:∀v,Hid (J v->Calls Tryz.prog 180 #[.pointer (some ⟨R,0,none⟩),.agg #[.int .i64 k,.int .i64 (j:Int),.int .i64 e,.slice p n c]] v fun e w'=>e=.returned (.string (s.extract l[j].fro l[j].til))/\J w'):=fun v hv=>(zo v R s l pl er (jm v hv) k e j hj hft p n c).mono fun e w' ⟨e1,e2⟩=>⟨e1,jn v w' hv e2⟩
 have hxs:(s.extract l[j].fro l[j].til).size<=100000:=by
  have:(s.extract l[j].fro l[j].til).size=min l[j].til s.size - l[j].fro:=by simp
  omega
 have KD:∀v,Hid (J v->Calls Tryz.prog 209 #[.string (s.extract l[j].fro l[j].til)] v fun e w'=>e=.returned (.bool false)/\J w'):=fun v hv=>by
  have K:=escs.jdd v (s.extract l[j].fro l[j].til);rw [hB] at K;exact K.mono fun e w' ⟨e1,e2⟩=>⟨e1,by rw [e2];exact hv⟩
 rw [decide_eq_true hk] at KW;have HJB:=jd jb;obtain⟨sx,hsx⟩:∃sx,sx=s.extract l[j].fro l[j].til:=⟨_,rfl⟩
 rw [<-hsx] at KS KD;obtain⟨a0,a1,a2,a3⟩:=ja (jc _) J2;clear jn jb jm hJ b0 s0 hn0 h hxs hsx hft hk hB
 go_enter Tryz.func175,Tryz.ntmps175
 go_wp2_with (first
  | (go_at_call 180;refine(ja (KS _) J2).mono ?_;rintro e1 w3 ⟨rfl,G3⟩;obtain⟨c0,c1,c2,c3⟩:=ja (jc _) G3)
  | (go_at_call 179;refine(ja (KW _) G3).mono ?_;rintro e1 w4 ⟨rfl,G4⟩)
  | (go_at_call 209;refine(ja (KD _) G4).mono ?_;rintro e1 w5 ⟨rfl,G5⟩))
 refine bodyPost_ret (v:=.tuple #[.string ⟨#[]⟩,.int .i64 4]) (by simp [results,Tryz.f175,go_sem]) rfl ⟨rfl,HJB.out _ G5⟩
theorem jhV (w:World)(R:Nat)(s:ByteArray)(l:List toks.Tk)(pl er:Int)(h:MRd w R s l pl er)(k e:Int)(j:Nat)(hj:j<l.length)(hft:l[j].fro<=l[j].til/\l[j].til<=s.size)(hs:s.size<=100000)(p:Option Addr)(n c:Nat)(hk:l[j].kind≠4)(zz:ByteArray)(ke:Int)(hzz:zz=⟨(escs.ZR (escs.unq (s.extract l[j].fro l[j].til).data.toList)).toArray⟩)(hke:escs.jaL (escs.unq (s.extract l[j].fro l[j].til).data.toList)=ke)(hT:Lib.Utf8Tabs 1 2 w) :
  Calls Tryz.prog 175 #[.pointer (some ⟨R,0,none⟩),.agg #[.int .i64 k,.int .i64 (j:Int),.int .i64 e,.slice p n c]] w fun e w'=>e=.returned (.tuple #[.string zz,.int .i64 ke])/\Below w.heap.size w w':=by
 have b0:Below w.heap.size w (w.alloc (.cells #[.int .i64 k,.int .i64 (j:Int),.int .i64 e,.slice p n c] 59)):=(Below.refl _ w).alloc (Nat.le_refl _) _;have s0:(w.alloc (.cells #[.int .i64 k,.int .i64 (j:Int),.int .i64 e,.slice p n c] 59)).heap.size=w.heap.size+1:=by simp
 have hn0:=jf w #[.int .i64 k,.int .i64 (j:Int),.int .i64 e,.slice p n c] 59;obtain⟨J,hJ⟩:∃J:World->Prop,J=Below (w.heap.size+1) (w.alloc (.cells #[.int .i64 k,.int .i64 (j:Int),.int .i64 e,.slice p n c] 59)):=⟨_,rfl⟩
 have jn:∀v v',J v->Below v.heap.size v v'->J v':=fun v v' h hb=>by rw [hJ] at h ⊢;exact h.trans (hb.mono (by have:=h.size;omega))
 have jb:∀v,J v->Below w.heap.size w v:=fun v h=>by rw [hJ] at h;exact b0.trans (h.mono (by omega))
 have jm:∀v,J v->MRd v R s l pl er:=fun v hv=>h.later (jb v hv)
 have jc:∀v,Hid (J v->v.cell? ⟨w.heap.size,0,none⟩=some (.int .i64 k)/\v.cell? ⟨w.heap.size,1,none⟩=some (.int .i64 (j:Int))/\v.cell? ⟨w.heap.size,2,none⟩=some (.int .i64 e)/\v.cell? ⟨w.heap.size,3,none⟩=some (.slice p n c)):=fun v h=>by
  rw [hJ] at h;have hv:Blk v w.heap.size _ _:=(h.block w.heap.size (by omega)).trans hn0;exact⟨hv.cell 0 _ rfl,hv.cell 1 _ rfl,hv.cell 2 _ rfl,hv.cell 3 _ rfl⟩
 have J2:J (w.alloc (.cells #[.int .i64 k,.int .i64 (j:Int),.int .i64 e,.slice p n c] 59)):=by rw [hJ];exact Below.refl _ _
 have KW:∀v,Hid (J v->Calls Tryz.prog 179 #[.pointer (some ⟨R,0,none⟩),.agg #[.int .i64 k,.int .i64 (j:Int),.int .i64 e,.slice p n c]] v fun e w'=>e=.returned (.bool (decide (l[j].kind=4)))/\J w'):=fun v hv=>(zq v R s l pl er (jm v hv) k e j hj p n c).mono fun e w' ⟨e1,e2⟩=>⟨e1,jn v w' hv e2⟩
 have KS:∀v,Hid (J v->Calls Tryz.prog 180 #[.pointer (some ⟨R,0,none⟩),.agg #[.int .i64 k,.int .i64 (j:Int),.int .i64 e,.slice p n c]] v fun e w'=>e=.returned (.string (s.extract l[j].fro l[j].til))/\J w'):=fun v hv=>(zo v R s l pl er (jm v hv) k e j hj hft p n c).mono fun e w' ⟨e1,e2⟩=>⟨e1,jn v w' hv e2⟩
 have hxs:(s.extract l[j].fro l[j].til).size<=100000:=by
  have:(s.extract l[j].fro l[j].til).size=min l[j].til s.size - l[j].fro:=by simp
  omega
 have KD:∀v,Hid (J v->Calls Tryz.prog 181 #[.string (s.extract l[j].fro l[j].til)] v fun e w'=>(∃m:Int,e=.returned (.tuple #[.string zz,.int .i64 m,.int .i64 ke]))/\J w'):=fun v hv=>by
  rw [hzz];have K:=escs.Qm v (s.extract l[j].fro l[j].til) (by omega) (Utf8Tabs_below hT (jb v hv)) _ (jd rfl);rw [hke] at K;exact K.mono fun e w' ⟨e1,e2⟩=>⟨⟨_,e1⟩,jn v w' hv e2⟩
 rw [decide_eq_false hk] at KW;have HJB:=jd jb;obtain⟨sx,hsx⟩:∃sx,sx=s.extract l[j].fro l[j].til:=⟨_,rfl⟩
 rw [<-hsx] at KS KD;obtain⟨a0,a1,a2,a3⟩:=ja (jc _) J2;clear jn jb jm hJ b0 s0 hn0 h hxs hsx hft hk hzz hke hT
 go_enter Tryz.func175,Tryz.ntmps175
 go_wp2_with (first
  | (go_at_call 180;refine(ja (KS _) J2).mono ?_;rintro e1 w3 ⟨rfl,G3⟩;obtain⟨c0,c1,c2,c3⟩:=ja (jc _) G3)
  | (go_at_call 179;refine(ja (KW _) G3).mono ?_;rintro e1 w4 ⟨rfl,G4⟩)
  | (go_at_call 181;refine(ja (KD _) G4).mono ?_;rintro e1 w5 ⟨⟨m,rfl⟩,G5⟩))
 refine bodyPost_ret (v:=.tuple #[.string zz,.int .i64 ke]) (by simp [results,Tryz.f175,go_sem]) rfl ⟨rfl,HJB.out _ G5⟩
def Jf (src:List UInt8)(kind:Nat)(key:List UInt8)(er:Int):Prop :=
 if kind=4 then (if escs.Ji src=true then key=src/\er=0 else key=[]/\er=4) else key=escs.ZR (escs.unq src)/\er=escs.jaL (escs.unq src)
open Go.RowKit Go.Shelf
theorem jhW:(Tryz.prog.info? 26).map (fun i=>(i.zero,i.size,i.bytes))=some (some (.agg #[.int .i64 0,.int .i64 0,.int .u64 0,.string ⟨#[]⟩,.slice none 0 0,.slice none 0 0]),6,88):=by kernel_rfl
theorem jlm {ok:Nat->Prop}{w:World}{f:Nat}{us:List Value}{t:V}(h:LiesV ok f w us t):∀u∈us,u.oneCell'=true:=by
 cases f with
 | zero=>exact h.elim
 | succ f=>
  obtain⟨k,n,b,s,L,E,pL,pE,cL,cE,_,rfl,_⟩:=h;intro u hu;simp only [List.mem_cons,List.not_mem_nil,or_false] at hu
  rcases hu with rfl | rfl | rfl | rfl | rfl | rfl<;>rfl
structure ML (R:Nat) (w wr:World) (n:Nat) (nk na ne:Int) (np:Option Addr) (nl nc:Nat) (acc:List V) (p:Option Addr) (cp:Nat):Prop where
 d:Blk wr (w.heap.size+2) #[.int .i64 5,.int .i64 0,.int .u64 0,.string ⟨#[]⟩,.slice p acc.length cp,.slice none 0 0] 26
 o:OwnR 26 6 (QV n) (w.heap.size+3) wr (.slice p acc.length cp) acc
 nd:Blk wr w.heap.size #[.int .i64 nk,.int .i64 na,.int .i64 ne,.slice np nl nc] 59
 r:Blk wr (w.heap.size+1) #[.int .i64 0,.int .i64 0,.int .u64 0,.string ⟨#[]⟩,.slice none 0 0,.slice none 0 0] 26
 b:Only R w wr
 s:w.heap.size+3<=wr.heap.size
 lt:R<w.heap.size
theorem ML.later {R:Nat}{w wr w2:World}{n:Nat}{nk na ne:Int}{np:Option Addr}{nl nc:Nat}{acc:List V}{p:Option Addr}{cp:Nat}(h:ML R w wr n nk na ne np nl nc acc p cp)(ho:Only R wr w2):ML R w w2 n nk na ne np nl nc acc p cp:=by
 have hs:=h.s;have hl:=h.lt;have nb:∀q,R<q->q<wr.heap.size->w2.heap[q]?=wr.heap[q]?:=fun q h1 h2=>ho.block q h2 (fun e=>by have:=Option.some.inj e;omega)
 exact⟨(nb _ (by omega) (by omega)).trans h.d,h.o.only (Zv n) (by omega) ho,(nb _ (by omega) (by omega)).trans h.nd,(nb _ (by omega) (by omega)).trans h.r,h.b.trans ho,Nat.le_trans hs ho.size,hl⟩
theorem ML.value {R:Nat}{w wr:World}{n:Nat}{nk na ne:Int}{np:Option Addr}{nl nc:Nat}{acc:List V}{p:Option Addr}{cp:Nat}(h:ML R w wr n nk na ne np nl nc acc p cp):LiesV (fun q=>w.heap.size+3<=q/\q<wr.heap.size) (n+1) wr [.int .i64 5,.int .i64 0,.int .u64 ((0:Nat):Int),.string ⟨#[]⟩,.slice p acc.length cp,.slice none 0 0] (mkV (5,0,0,[]) acc []):=by
 obtain⟨p',cp',e,hc1,hc2,hrow⟩:=h.o.row (Zv n);injection e with e1 e2 e3;subst e1;subst e3;exact⟨5,0,0,⟨#[]⟩,acc,[],p,none,cp,0,rfl,rfl,⟨by decide,by decide,by decide,Nat.zero_le _⟩,⟨hc1,hc2,Nat.le_refl _,Nat.zero_le _⟩,hrow,fun h=>absurd h (by simp)⟩
theorem ML.push {R:Nat}{w wr w2:World}{n:Nat}{nk na ne:Int}{np:Option Addr}{nl nc:Nat}{acc:List V}{p:Option Addr}{cp:Nat}(h0:ML R w wr n nk na ne np nl nc acc p cp)(hb:Only R wr w2)(k nn:Int)(b:Nat)(z:ByteArray)(pL:Option Addr)(nL cL:Nat)(pE:Option Addr)(nE cE:Nat)(y:V)(hl:LiesV (fun b=>wr.heap.size<=b/\b<w2.heap.size) n w2 [.int .i64 k,.int .i64 nn,.int .u64 (b:Int),.string z,.slice pL nL cL,.slice pE nE cE] y)(hal:acc.length<=3000000) :
  ∃(p':Option Addr) (cp':Nat) (W':World),(Builtin.append_ #[23,23] 23 #[.slice p acc.length cp,.slice (some ⟨w2.heap.size+1,0,none⟩) 1 1]).run Tryz.prog ((w2.alloc (.cells #[.int .i64 k,.int .i64 nn,.int .u64 (b:Int),.string z,.slice pL nL cL,.slice pE nE cE] 26)).alloc (.cells #[.int .i64 k,.int .i64 nn,.int .u64 (b:Int),.string z,.slice pL nL cL,.slice pE nE cE] 26))=.ok (.slice p' (acc.length+1) cp') W'/\
   Blk W' (w.heap.size+2) #[.int .i64 5,.int .i64 0,.int .u64 0,.string ⟨#[]⟩,.slice p acc.length cp,.slice none 0 0] 26/\ML R w (W'.setCell ⟨w.heap.size+2,4,none⟩ (.slice p' (acc.length+1) cp')) n nk na ne np nl nc (acc++[y]) p' cp'/\(∀q,q<=R->(W'.setCell ⟨w.heap.size+2,4,none⟩ (.slice p' (acc.length+1) cp')).heap[q]?=w2.heap[q]?):=by
 obtain⟨i0,hi,hz0,hz1,hz2⟩:=info_parts jhW;have h2:=h0.o;have bA:Below w2.heap.size w2 (w2.alloc (.cells #[.int .i64 k,.int .i64 nn,.int .u64 (b:Int),.string z,.slice pL nL cL,.slice pE nE cE] 26)):=(Below.refl _ w2).alloc (Nat.le_refl _) _;have hA:=(h0.later hb).later (js bA);have s0:=h0.s;have s1:=hb.size;have hRl:=h0.lt;have hq:QV n (okR (w.heap.size+3) (w2.alloc (.cells #[.int .i64 k,.int .i64 nn,.int .u64 (b:Int),.string z,.slice pL nL cL,.slice pE nE cE] 26)) (.slice p acc.length cp)) (w2.alloc (.cells #[.int .i64 k,.int .i64 nn,.int .u64 (b:Int),.string z,.slice pL nL cL,.slice pE nE cE] 26)) [.int .i64 k,.int .i64 nn,.int .u64 (b:Int),.string z,.slice pL nL cL,.slice pE nE cE] y:=LiesV.kept (fun b hb=>⟨by have:=hb.1;omega,by have:=hb.2;simp;omega,fun e=>by have:=(h2.lt b e.symm).2;have:=hb.1;omega⟩) bA.size (fun b _ hlt'=>bA.block b hlt') hl
 obtain⟨v',W',hrun,hO',hg⟩:=OwnR.push (tS:=23) (Zv n) Tryz.underlying23 hi hz0 hz1 hz2 rfl (by decide) (by decide) hA.o hA.s [.int .i64 k,.int .i64 nn,.int .u64 (b:Int),.string z,.slice pL nL cL,.slice pE nE cE] y rfl (jlm hl) hq (by omega) 23;rw [World.size_alloc] at hrun;have hv:=fun g hg'=>(hA.o.lt g hg').1
 have hbl:∀q,q<w.heap.size+3->W'.heap[q]?=(w2.alloc (.cells #[.int .i64 k,.int .i64 nn,.int .u64 (b:Int),.string z,.slice pL nL cL,.slice pE nE cE] 26)).heap[q]?:=fun q hq'=>(hg.block (by have:=hA.s;omega) (fun e=>by have:=hv q e.symm;omega)).1
 obtain⟨p',cp',rfl,_,_,_⟩:=hO'.row (Zv n);have hlen:(acc++[y]).length=acc.length+1:=by simp
 rw [hlen] at hrun hO';have hd:Blk W' (w.heap.size+2) #[.int .i64 5,.int .i64 0,.int .u64 0,.string ⟨#[]⟩,.slice p acc.length cp,.slice none 0 0] 26:=(hbl _ (by omega)).trans hA.d;have hsz:=hg.by'.size
 have hsA:=hA.s;refine⟨p',cp',W',hrun,hd,⟨?_,?_,?_,?_,?_,?_,hRl⟩,?_⟩
 ·rw [hlen]
  exact hd.set 4 (.slice p' (acc.length+1) cp')
 ·rw [hlen]
  exact hO'.only (Zv n) (by omega) (YH (w.heap.size+2) W' 4 (.slice p' (acc.length+1) cp'))
 ·exact Blk.set_other (((hbl _ (by omega)).trans hA.nd:Blk W' _ _ _)) ⟨w.heap.size+2,4,none⟩ _ (by show w.heap.size≠w.heap.size+2;omega)
 ·exact Blk.set_other (((hbl _ (by omega)).trans hA.r:Blk W' _ _ _)) ⟨w.heap.size+2,4,none⟩ _ (by show w.heap.size+1≠w.heap.size+2;omega)
 ·have b1:Only R (w2.alloc (.cells #[.int .i64 k,.int .i64 nn,.int .u64 (b:Int),.string z,.slice pL nL cL,.slice pE nE cE] 26)) (W'.setCell ⟨w.heap.size+2,4,none⟩ (.slice p' (acc.length+1) cp'))\/True:=.inr trivial
  have o1:=hA.b;refine⟨hg.by'.os.trans o1.os,hg.by'.tape.trans o1.tape,hg.by'.output.trans o1.output,?_,fun q hq hne=>?_⟩
  ·simp only [World.setCell,Array.size_modify]
   have:=o1.size;omega
  ·exact((Below.heap_setCell _ _ _ _ (by show q≠w.heap.size+2;omega)).trans (hbl q (by omega))).trans (o1.block q hq hne)
 ·simp only [World.setCell,Array.size_modify]
  omega
 ·intro q hq
  exact((Below.heap_setCell _ _ _ _ (by show q≠w.heap.size+2;omega)).trans (hbl q (by omega))).trans (bA.block q (by omega))
end valus
end Go.Proofs.YtnbfnjhbmeocfaaGreatDoor
