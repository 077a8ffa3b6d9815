/- Of our texts, what this claim reaches. -/
import Derived.Test.YtadaehaemmelfaaDoorPubBM
import Derived.Test.YtadaehaemmelfaaDoorPubAN
import Derived.Lib.ItoaNum
import Derived.Test.YtadaehaemmelfaaDoorPubAE
import Derived.Test.YtadaehaemmelfaaDoorPubAI
import Derived.Lib.AppendIntMem
import Derived.Lib.Walk
import Derived.BigCall
import Derived.BigGuard
import Derived.Test.YtadaehaemmelfaaDoorPubAK
import Derived.Deep.QuietTactic
import Derived.BigQuiet
import Derived.Test.YtadaehaemmelfaaDoorPubAL
import Derived.Laws.BytesString
import Derived.Test.YtadaehaemmelfaaDoorPubBG
import Derived.Test.YtadaehaemmelfaaDoorPubBL
import Derived.Test.YtadaehaemmelfaaDoorPubAR
set_option linter.unusedVariables false
set_option maxHeartbeats 16000000
set_option maxRecDepth 100000
namespace Go.Proofs.YtadaehaemmelfaaDoor
namespace upds
open Go.RowKit
open valus
open paths (St LiesP jf)
theorem step_append_run {P:Program}{w:World}{ops:Array Oper}{o:Oper}{a:Act}{K:Act->World->Prop}{Q:Exit->Act->World->Prop}{E:Prop}(hgd:o.guard=none)(s x:Operand)(t tn:TypeId)
  (ho:o.op=.call { callee:=.builtin .append,args:=#[s,x],argTypes:=#[t,tn] }) (vs vx:Value) (hs:a.eval s=vs) (hx:a.eval x=vx)
  (v':Value) (w':World) (hr:(Builtin.append_ #[t,tn] o.type #[vs,vx]).run P w=.ok v' w') (h:K (a.put o.dst v') w'):if Region.wanted o (yielded ops a.tmps)=true then Oper.wp P o a w K Q else E:=by
 have hw:Region.wanted o (yielded ops a.tmps)=true:=by simp [Region.wanted,hgd]
 rw [if_pos hw];exact Lib.wp_append_run w s x t tn ho vs vx hs hx v' w' hr h
theorem part_ten {t:V}{x:St}(h:jf t x=.inr 10):(x.2 = -1/\(opn t).1.1≠6)\/(x.2≠-1/\(opn t).1.1≠5):=by
 unfold jf at h;split at h
 ·rename_i hx
  split at h
  ·rename_i hk
   exact .inl ⟨hx,hk⟩
  ·split at h
   ·injection h with h
    omega
   ·cases h
 ·rename_i hx
  split at h
  ·rename_i hk
   exact .inr ⟨hx,hk⟩
  ·split at h
   ·injection h with h
    omega
   ·cases h
theorem part_kind {t:V}{x:St}(h:jf t x≠.inr 10):(x.2 = -1->(opn t).1.1=6)/\(x.2≠-1->(opn t).1.1=5):=by
 unfold jf at h;refine⟨fun hx=>Classical.byContradiction fun hk=>h ?_,fun hx=>Classical.byContradiction fun hk=>h ?_⟩
 ·rw [if_pos hx,if_pos hk]
 ·rw [if_neg hx,if_pos hk]
theorem add_ten {t y:V}{x:St}(h:jf t x=.inr 10):ZA x y t=(10,t):=by
 unfold ZA Q7 Q8
 rcases part_ten h with ⟨h1,h2⟩ | ⟨h1,h2⟩
 ·rw [if_pos h1,if_pos h2]
 ·rw [if_neg h1,if_pos h2]
theorem add_there {t y u:V}{x:St}(hx:x.2 = -1)(h:jf t x=.inl u):ZA x y t=(9,t):=by
 have hk:=(part_kind (by rw [h];intro e;cases e)).1 hx;unfold ZA Q7;rw [if_pos hx,if_neg (by simpa using hk)];unfold jf at h;rw [if_pos hx,if_neg (by simpa using hk)] at h;split at h
 ·cases h
 ·rename_i hi
  rw [if_pos (by omega)]
theorem add_key {t y:V}{x:St}{e:Int}(hx:x.2 = -1)(h:jf t x=.inr e)(he:e≠10):ZA x y t=(0,mkV (opn t).1 (opn t).2.1 (qx x.1 y (jD x.1 (opn t).2.2))):=by
 have hk:=(part_kind (by rw [h];intro e';injection e' with e';exact he e')).1 hx;unfold ZA Q7;rw [if_pos hx,if_neg (by simpa using hk)];unfold jf at h;rw [if_pos hx,if_neg (by simpa using hk)] at h;split at h
 ·rw [if_neg (by omega)]
 ·cases h
theorem add_place {t y:V}{x:St}(hx:x.2≠-1)(h:jf t x≠.inr 10):ZA x y t=if ((opn t).2.1.length:Int)<x.2 then (8,t) else (0,mkV (opn t).1 ((opn t).2.1.take x.2.toNat++y :: (opn t).2.1.drop x.2.toNat) (opn t).2.2):=by
 have hk:=(part_kind h).2 hx;unfold ZA Q8;rw [if_neg hx,if_neg (by simpa using hk)]
theorem upd_last {kind:Int}{y t:V}{key:List UInt8}{x:St}(hk:kind≠1):Xs kind y key t [x]=jaG kind y key t x:=by
 show(if kind=1\/([]:List St)≠[] then _ else _:Int×V)=_
 rw [if_neg (by simp [hk])]
def UpdCI (kind:Int)(y:V)(key:ByteArray)(P:List St)(Pr:V->Nat->Prop):Prop:=∀(ok:Nat->Prop) (f:Nat) (w:World) (t:V) (k n:Int) (b:Nat) (s:ByteArray) (pL:Option Addr) (nL cL:Nat) (pE:Option Addr) (nE cE:Nat) (p:Option Addr) (c:Nat) (po:Option Addr) (no co:Nat) (g:Nat) (vk vn:Int) (vb:Nat) (vs:ByteArray) (vpL:Option Addr) (vnL vcL:Nat) (vpE:Option Addr) (vnE vcE:Nat),
 (∀q,ok q->q<w.heap.size)->LiesV ok f w [.int .i64 k,.int .i64 n,.int .u64 (b:Int),.string s,.slice pL nL cL,.slice pE nE cE] t->jd f t<=1000000->LiesP w p P->P.length<=c->c<=maxLen->(∀x∈P,-1<=x.2)->LiesV ok g w [.int .i64 vk,.int .i64 vn,.int .u64 (vb:Int),.string vs,.slice vpL vnL vcL,.slice vpE vnE vcE] y->Pr t cL->
 Calls Tryd.prog 42 #[.agg #[.int .i64 k,.int .i64 n,.int .u64 (b:Int),.string s,.slice pL nL cL,.slice pE nE cE],.slice p P.length c,.agg #[.int .i64 kind,.slice po no co,.int .i64 vk,.int .i64 vn,.int .u64 (vb:Int),.string vs,.slice vpL vnL vcL,.slice vpE vnE vcE,.string key]] w (jbz ok (Xs kind y key.data.toList t P) w)
def UpdCJ (kind:Int)(y:V)(key:ByteArray)(P:List St)(pL:Option Addr)(Pr:V->Nat->Prop):Prop:=∀(ok:Nat->Prop) (f:Nat) (w:World) (t:V) (k n:Int) (b:Nat) (s:ByteArray) (nL cL:Nat) (pE:Option Addr) (nE cE:Nat) (p:Option Addr) (c:Nat) (po:Option Addr) (no co:Nat) (g:Nat) (vk vn:Int) (vb:Nat) (vs:ByteArray) (vpL:Option Addr) (vnL vcL:Nat) (vpE:Option Addr) (vnE vcE:Nat),
 (∀q,ok q->q<w.heap.size)->LiesV ok f w [.int .i64 k,.int .i64 n,.int .u64 (b:Int),.string s,.slice pL nL cL,.slice pE nE cE] t->jd f t<=1000000->LiesP w p P->P.length<=c->c<=maxLen->(∀x∈P,-1<=x.2)->LiesV ok g w [.int .i64 vk,.int .i64 vn,.int .u64 (vb:Int),.string vs,.slice vpL vnL vcL,.slice vpE vnE vcE] y->Pr t cL->
 Calls Tryd.prog 42 #[.agg #[.int .i64 k,.int .i64 n,.int .u64 (b:Int),.string s,.slice pL nL cL,.slice pE nE cE],.slice p P.length c,.agg #[.int .i64 kind,.slice po no co,.int .i64 vk,.int .i64 vn,.int .u64 (vb:Int),.string vs,.slice vpL vnL vcL,.slice vpE vnE vcE,.string key]] w (jbz ok (Xs kind y key.data.toList t P) w)
def Ins (x:St)(t:V):Prop:=x.2≠-1/\jf t x≠.inr 10/\x.2<=((opn t).2.1.length:Int)
end upds
set_option linter.unusedSimpArgs false
namespace upds
open Go.RowKit Go.Shelf
open valus
open paths (St LiesP jf je jq)
theorem upd_drop (y:V)(key:ByteArray)(hkm:key.size<=maxLen)(x:St):jcm 3 y key [x]:=by
 intro ok f w t k n b s pL nL cL pE nE cE p c po no co g vk vn vb vs vpL vnL vcL vpE vnE vcE hok hl hn hP hc hm hi hy;obtain⟨B,o,xk,rfl,hB,e1,e2,e3,e4,e5⟩:=hP.at (j:=0) (by simp);simp only [List.getElem_cons_zero,Nat.zero_mul,Nat.add_zero] at e1 e3 e4 e5;obtain⟨W0,hW0⟩:∃W0,W0=Zk w #[.int .i64 k,.int .i64 n,.int .u64 (b:Int),.string s,.slice pL nL cL,.slice pE nE cE] #[.int .i64 3,.slice po no co,.int .i64 vk,.int .i64 vn,.int .u64 (vb:Int),.string vs,.slice vpL vnL vcL,.slice vpE vnE vcE,.string key] qv:=⟨_,rfl⟩
 obtain⟨W1,hW1⟩:∃W1,W1=W0.alloc (.cells #[.string xk,.int .i64 x.2] 60):=⟨_,rfl⟩
 have h4:Four w W1 #[.int .i64 k,.int .i64 n,.int .u64 (b:Int),.string s,.slice pL nL cL,.slice pE nE cE] #[.int .i64 3,.slice po no co,.int .i64 vk,.int .i64 vn,.int .u64 (vb:Int),.string vs,.slice vpL vnL vcL,.slice vpE vnE vcE,.string key] xk x.2:=by rw [hW1,hW0];exact four_base w _ _ xk x.2
 have h3:=QQ w #[.int .i64 k,.int .i64 n,.int .u64 (b:Int),.string s,.slice pL nL cL,.slice pE nE cE] #[.int .i64 3,.slice po no co,.int .i64 vk,.int .i64 vn,.int .u64 (vb:Int),.string vs,.slice vpL vnL vcL,.slice vpE vnE vcE,.string key] qv;rw [<-hW0] at h3
 have KP:Hid (∀u,Below W1.heap.size W1 u->Calls Tryd.prog 35 #[.agg #[.int .i64 k,.int .i64 n,.int .u64 (b:Int),.string s,.slice pL nL cL,.slice pE nE cE],.agg #[.string xk,.int .i64 x.2]] u (paths.PartTK ok (jd f t) (jf t x) u)):=ja fun u hu=>by
  refine Calls.mono ?_ (fun e w' h=>paths.part_tupleK h)
  have hbu:=h4.h.b.trans (hu.mono h4.h.b.size);have:=paths.partK_any ok (jd f t) u (fun q h=>Nat.lt_of_lt_of_le (hok q h) hbu.size) f t _ _ _ _ _ _ (hl.kept (fun q h=>h) hbu.size (fun q h _=>hbu.block q (hok q h))) (Nat.le_refl _) xk x.2 (hi x List.mem_cons_self);rw [e1] at this;exact this
 have p0:=(h3.b.cell (p:=⟨B,o,none⟩) hB).trans e4;have p1:=(h3.b.cell (p:=⟨B,o+1,none⟩) hB).trans e5;obtain⟨a0,a1,a2,a3,a4,a5⟩:=h4.h.a.cells6;have o0:=h3.o.cell 0 _ rfl;have o10:=h4.h.o.cell 0 _ rfl;have c0:=h4.c.cell 0 _ rfl;have c1:=h4.c.cell 1 _ rfl;have HE1:=ja e1;have H4:=ja h4;have HL:=ja (And.intro hl (And.intro hy (And.intro hok (And.intro hP (And.intro hn hi)))));unfold Zk qv at hW0;rw [hW1,hW0] at o10;rw [hW0] at o0 p0 p1;rw [hW0] at hW1;have HW1:=ja hW1;clear h3 h4 hW0 hW1 hl hy hP hn hi e1 e4 e5 a0 a1 a2 a3 a4 a5 c0 c1
 show Calls Tryd.prog 42 #[.agg #[.int .i64 k,.int .i64 n,.int .u64 (b:Int),.string s,.slice pL nL cL,.slice pE nE cE],.slice (some ⟨B,o,none⟩) 1 c,.agg #[.int .i64 3,.slice po no co,.int .i64 vk,.int .i64 vn,.int .u64 (vb:Int),.string vs,.slice vpL vnL vcL,.slice vpE vnE vcE,.string key]] w (jbz ok (Xs 3 y key.data.toList t [x]) w)
 go_enter Tryd.func42,Tryd.ntmps42
 go_upto_region 17 with fail
 rw [<-HW1.out];clear o0 o10 p0 p1 HW1;have a0:=H4.out.h.a.cell 0 _ rfl;have a1:=H4.out.h.a.cell 1 _ rfl;have a2:=H4.out.h.a.cell 2 _ rfl;have a3:=H4.out.h.a.cell 3 _ rfl;have a4:=H4.out.h.a.cell 4 _ rfl;have a5:=H4.out.h.a.cell 5 _ rfl;have c0:=H4.out.c.cell 0 _ rfl;have c1:=H4.out.c.cell 1 _ rfl;simp only [List.getElem_toArray,List.getElem_cons_zero,List.getElem_cons_succ] at a0 a1 a2 a3 a4 a5 c0 c1
 go_upto_region 18 with (go_at_call 35
                         refine(KP.out _ (Below.refl _ _)).mono ?_
                         rintro e w2 ⟨k8,n8,b8,s8,pL8,nL8,cL8,pE8,nE8,cE8,er,rfl,hres,b2⟩
                         have HR:=ja hres.out;have B2:=ja b2;clear hres b2)
 clear KP a0 a1 a2 a3 a4 a5 c0 c1;obtain⟨W3,hW3⟩:∃W3,W3=w2.alloc (.cells #[.int .i64 k8,.int .i64 n8,.int .u64 (b8:Int),.string s8,.slice pL8 nL8 cL8,.slice pE8 nE8 cE8] 26):=⟨_,rfl⟩
 have b3:Below W1.heap.size W1 W3:=by rw [hW3];exact B2.out.alloc B2.out.size _
 have k3:=H4.out.below b3;have dD:Blk W3 w2.heap.size #[.int .i64 k8,.int .i64 n8,.int .u64 (b8:Int),.string s8,.slice pL8 nL8 cL8,.slice pE8 nE8 cE8] 26:=by rw [hW3];exact jb _ _ _
 have hD:w.heap.size+4<=w2.heap.size:=Nat.le_trans H4.out.s B2.out.size;rw [<-hW3];have b03:Below w.heap.size w W3:=k3.h.b;have b23:Below w2.heap.size w2 W3:=by rw [hW3];exact(Below.refl _ _).alloc (Nat.le_refl _) _
 have hWlt:w2.heap.size<W3.heap.size:=by rw [hW3,World.size_alloc];omega
 have hU:=upd_last (kind:=3) (y:=y) (t:=t) (key:=key.data.toList) (x:=x) (by decide);have hl0:=Qi (N:=w2.heap.size+1) HL.out.1 hok b03;have hy0:=Qi (N:=w2.heap.size+1) HL.out.2.1 hok b03;have T6:=k3.h;have hl6:=Jo (M:=w.heap.size+3) hl0 (by omega) (Below.refl _ _);have c0:=k3.c.cell 0 _ rfl;have c1:=k3.c.cell 1 _ rfl;have o0:=k3.h.o.cell 0 _ rfl;have o1:=k3.h.o.cell 1 _ rfl;have o2:=k3.h.o.cell 2 _ rfl;have o3:=k3.h.o.cell 3 _ rfl;have o4:=k3.h.o.cell 4 _ rfl;have o5:=k3.h.o.cell 5 _ rfl;have o6:=k3.h.o.cell 6 _ rfl;have o7:=k3.h.o.cell 7 _ rfl;have o8:=k3.h.o.cell 8 _ rfl;have A0:=k3.h.a.cell 0 _ rfl;have A1:=k3.h.a.cell 1 _ rfl;have A2:=k3.h.a.cell 2 _ rfl;have A3:=k3.h.a.cell 3 _ rfl;have A4:=k3.h.a.cell 4 _ rfl;have A5:=k3.h.a.cell 5 _ rfl;have d0:=dD.cell 0 _ rfl;have d1:=dD.cell 1 _ rfl;have d2:=dD.cell 2 _ rfl;have d3:=dD.cell 3 _ rfl;have d4:=dD.cell 4 _ rfl
 have d5:=dD.cell 5 _ rfl;simp only [List.getElem_toArray,List.getElem_cons_zero,List.getElem_cons_succ] at c0 c1 o0 o1 o2 o3 o4 o5 o6 o7 o8 A0 A1 A2 A3 A4 A5 d0 d1 d2 d3 d4 d5;have hx1:=HL.out.2.2.2.2.2 x List.mem_cons_self;have HB3:=ja b3;clear hW3 H4 B2 b3
 rcases HR.out with ⟨u,fu,hz,rfl,hlu,hnu⟩ | ⟨hz,hne⟩
 ·have hU2:Xs 3 y key.data.toList t [x]=JN x t:=by rw [hU];unfold jaG;rw [if_neg (by decide),hz];rfl
  have HJ:Hid (x.2≠-1->∃j:Nat,x.2=(j:Int)/\j<(opn t).2.1.length):=ja fun hx=>by
   rcases qX HL.out.1.isV hz with ⟨h,_⟩ | ⟨_,h⟩
   ·exact absurd h hx
   ·have h2:=(h (by omega)).2
    exact⟨x.2.toNat,by omega,by omega⟩
  obtain⟨L,E,rfl,rfl,rfl,⟨q1,q2,q3,q4⟩,rL,rE⟩:=Y0 hl0;have hLE:=Few.len ⟨_,HL.out.1.isV,HL.out.2.2.2.2.1⟩
  by_cases hx:x.2 = -1
  ·have hU3:Xs 3 y key.data.toList (mkV (k,n,b,s.data.toList) L E) [x]=(0,mkV (k,n,b,s.data.toList) L (jD xk.data.toList E)):=by
    rw [hU2];unfold JN Zm;rw [if_pos hx,<-HE1.out,jQ]
   rw [hx] at c1;have KW:=ja (without_any (At ok (w2.heap.size+1) W3) f W3 E pE cE xk rE q3 q4 (fun q h=>h.2) (by omega));have H4d:=ja k3;have HL2:=ja hl0;have HU2:=ja hU3;have zA:=k3.h.a;clear k3 hl0 hy0 rL rE HR hU hU2 hU3 T6 hl6 hz hlu hnu dD b03 b23 HJ
   go_upto_region 37 with (go_at_call 62;refine(jc KW).mono ?_;rintro e w5 ⟨v5,rfl,how,b5⟩;obtain⟨p5,c5,rfl,hi1,hi2,hrow⟩:=how.row3;have zA5:=(zA.below b5).froz 5;have zC5:=(zA.below b5).cell 5 _ rfl;have HRW0:=ja hrow;have B5:=ja b5;clear hrow how b5)
   have F:=f;have H4c:=ja (H4d.out.below B5.out);have hsz:=H4d.out.s;have HL5:=ja (Jo HL2.out (M:=w.heap.size+3) (by omega) B5.out);have HRW:Hid (JO (At ok (w.heap.size+3) w5) f w5 p5 (jD xk.data.toList E)):=ja (HRW0.out.kept (fun q h=>⟨by rcases h.1 with h | h;exact h.1.imp id (fun h=>by omega);exact .inr (by omega),h.2⟩) (Nat.le_refl _) (fun _ _ _=>rfl) (fun j us _ ⟨key,z,xs,g1,g2,g3,g4⟩=>⟨key,z,xs,g1,g2,g3,g4.weaken (fun q h=>⟨by rcases h.1 with h | h;exact h.1.imp id (fun h=>by omega);exact .inr (by omega),h.2⟩)⟩));obtain⟨W6,hW6⟩:∃W6,W6=w5.setCell ⟨w.heap.size,5,none⟩ (.slice p5 (jD xk.data.toList E).length c5):=⟨_,rfl⟩
   rw [<-hW6];have T6:Three w W6 #[.int .i64 k,.int .i64 n,.int .u64 (b:Int),.string s,.slice pL L.length cL,.slice p5 (jD xk.data.toList E).length c5] #[.int .i64 3,.slice po no co,.int .i64 vk,.int .i64 vn,.int .u64 (vb:Int),.string vs,.slice vpL vnL vcL,.slice vpE vnE vcE,.string key] qv:=by rw [hW6];exact three_set H4c.out.h 5 _
   have hlE:=lies_setE (okA:=At ok (w.heap.size+3) w5) (E':=jD xk.data.toList E) (p':=p5) (c':=c5) HL5.out.up HRW.out hi1 hi2
   have hl6:LiesV (At ok (w.heap.size+3) W6) (max f f+1) W6 [.int .i64 k,.int .i64 n,.int .u64 (b:Int),.string s,.slice pL L.length cL,.slice p5 (jD xk.data.toList E).length c5] (mkV (k,n,b,s.data.toList) L (jD xk.data.toList E)):=by
    rw [hW6];exact lies_past1 (B:=w.heap.size) (j:=5) hlE (fun h=>by have:=hok _ h;omega) (by omega) _
   clear hW6;have HY:=ja (jk T6.r (.int .i64 k) (.int .i64 n) (.int .u64 (b:Int)) (.string s) (.slice pL L.length cL) (.slice p5 (jD xk.data.toList E).length c5));have HB:=ja (jg T6.b (b:=w.heap.size+2) (by omega) (.int .i64 k) (.int .i64 n) (.int .u64 (b:Int)) (.string s) (.slice pL L.length cL) (.slice p5 (jD xk.data.toList E).length c5));have HV:=ja (JY (B:=w.heap.size+2) hl6 (fun h=>by have:=hok _ h;omega) (by omega) (.int .i64 k) (.int .i64 n) (.int .u64 (b:Int)) (.string s) (.slice pL L.length cL) (.slice p5 (jD xk.data.toList E).length c5));have a0:=T6.a.cell 0 _ rfl;have a1:=T6.a.cell 1 _ rfl;have a2:=T6.a.cell 2 _ rfl;have a3:=T6.a.cell 3 _ rfl;have a4:=T6.a.cell 4 _ rfl;have a5:=T6.a.cell 5 _ rfl;have r0:=T6.r.cell 0 _ rfl;have r1:=T6.r.cell 1 _ rfl;have r2:=T6.r.cell 2 _ rfl;have r3:=T6.r.cell 3 _ rfl;have r4:=T6.r.cell 4 _ rfl
   have r5:=T6.r.cell 5 _ rfl;have f0:=T6.r.froz 0;have f1:=T6.r.froz 1;have f2:=T6.r.froz 2;have f3:=T6.r.froz 3;have f4:=T6.r.froz 4;have f5:=T6.r.froz 5;simp only [List.getElem_toArray,List.getElem_cons_zero,List.getElem_cons_succ] at a0 a1 a2 a3 a4 a5 r0 r1 r2 r3 r4 r5
   go_wp2_with fail
   obtain⟨Y,hYe⟩:∃Y,Y=jp W6 (w.heap.size+2) (.int .i64 k) (.int .i64 n) (.int .u64 (b:Int)) (.string s) (.slice pL L.length cL) (.slice p5 (jD xk.data.toList E).length c5):=⟨_,rfl⟩
   rw [<-hYe] at HY HB HV;simp only [jp] at hYe;rw [<-hYe];clear hYe;refine bodyPost_ret (results_updated _ HY.out) rfl ?_
   rw [HU2.out];exact jbz.mk (r:=(0,mkV (k,n,b,s.data.toList) L (jD xk.data.toList E))) HB.out (Jo HV.out (by omega) (Below.refl _ _))
  ·obtain⟨j,hj,hjL⟩:=HJ.out hx
   have hjL:j<L.length:=hjL
   have hU3:Xs 3 y key.data.toList (mkV (k,n,b,s.data.toList) L E) [x]=(0,mkV (k,n,b,s.data.toList) (L.take j++L.drop (j+1)) E):=by
    rw [hU2];unfold JN Zj;rw [if_neg hx,jQ,hj,Int.toNat_natCast]
   rw [hj] at c1;have hjb:((j:Int) == -1)=false:=beq_false_of_ne (by omega);have hjn:¬((j:Int) = -1):=by omega
   have hj0:(0:Int)<=(j:Int):=by omega
   have hjc:(j:Int)<=(cL:Int):=by omega
   have hjc':j<=cL:=by omega
   obtain⟨M,hM⟩:∃M,M=L.take j++L.drop (j+1):=⟨_,rfl⟩
   rw [<-hM] at hU3;have HU2:=ja hU3;have HMM:=ja hM;clear hU hU2 hU3 HR hz hlu hnu hM;obtain⟨Bl,ol,_,hpl,_,hbl,_,_⟩:=rowsL_of rL (by omega);subst hpl;have hcz:¬cL=0:=by omega
   have hjs:IntKind.i64.wrap ((j:Int)+1)=(j:Int)+1:=by
    have h:=e3.2;unfold maxLen at q2;simp [IntKind.wrap,IntKind.bits,IntKind.signed];omega
   have hj1:(0:Int)<=(j:Int)+1:=by omega
   have hj2:(j:Int)+1<=(L.length:Int):=by omega
   have hj3:j+1<=L.length:=by omega
   obtain⟨v1,X1,hrun1,ho1,bx1⟩:=takeL (j:=j) (ps:=some ⟨Bl,ol,none⟩) rL (by omega) cL (fun _=>rfl) (fun q h=>h.2) (by omega) 23;have K1:=k3.below bx1;have u4:=K1.h.a.cell 4 _ rfl;have u1:=K1.c.cell 1 _ rfl;rw [hj] at u1;simp only [List.getElem_toArray,List.getElem_cons_zero,List.getElem_cons_succ] at u4 u1;have H4d:=ja k3;have HL2:=ja hl0;have HRL:=ja rL;have HO1:=ja ho1;have HBX1:=ja bx1;clear k3 hl0 hy0 rL rE T6 hl6 dD b03 b23 HJ ho1 bx1 K1 hj hjL o1 o2 o3 o4 o5 o6 o7 o8 d0 d1 d2 d3 d4 d5
   by_cases hcj:cL=j+1
   ·have hl1:L.length - (j+1)=0:=by omega
    obtain⟨v2,X2,hrun2,ho2,bx2⟩:=restL (j:=j+1) (ps:=some ⟨Bl,ol,none⟩) HRL.out hj3 (0) (fun h=>absurd h (by omega)) (fun q h=>h.2) HBX1.out HO1.out (by rw [List.length_take];omega) 23;rw [hl1] at hrun2;rw [<-HMM.out] at ho2;obtain⟨p5,c5,rfl,hi1,hi2,hrow⟩:=ho2.row3;have K2:=H4d.out.below bx2;have z4:=K2.h.a.froz 4;have y4:=K2.h.a.cell 4 _ rfl;simp only [List.getElem_toArray,List.getElem_cons_zero,List.getElem_cons_succ] at y4;have HSZ:=H4d.out.s;have HRW:Hid (RowL (At ok (w.heap.size+3) X2) f X2 p5 M):=ja (hrow.kept (fun q h=>⟨by rcases h.1 with h | h;exact h.1.imp id (fun h=>by omega);exact .inr (by omega),h.2⟩) (Nat.le_refl _) (fun _ _ _=>rfl) (fun j us _ ⟨z,g1,g2⟩=>⟨z,g1,g2.weaken (fun q h=>⟨by rcases h.1 with h | h;exact h.1.imp id (fun h=>by omega);exact .inr (by omega),h.2⟩)⟩));have HK2:=ja K2;have HL5:=ja (Jo HL2.out (M:=w.heap.size+3) (by omega) bx2)
    clear hrow K2 bx2 ho2
    go_upto_region 39 with (at_builtin;refine Lib.wpList_append_run _ rfl _ _ _ _ rfl _ _ rfl rfl _ _ hrun1 ?_)
    go_upto_region 40 with (at_builtin;refine Lib.wpList_append_run _ rfl _ _ _ _ rfl _ _ rfl rfl _ _ hrun2 ?_)
    obtain⟨W6,hW6⟩:∃W6,W6=X2.setCell ⟨w.heap.size,4,none⟩ (.slice p5 M.length c5):=⟨_,rfl⟩
    rw [<-hW6];have T6:Three w W6 #[.int .i64 k,.int .i64 n,.int .u64 (b:Int),.string s,.slice p5 M.length c5,.slice pE E.length cE] #[.int .i64 3,.slice po no co,.int .i64 vk,.int .i64 vn,.int .u64 (vb:Int),.string vs,.slice vpL vnL vcL,.slice vpE vnE vcE,.string key] qv:=by rw [hW6];exact three_set HK2.out.h 4 _
    have hlE:=lies_setL (okA:=At ok (w.heap.size+3) X2) (L':=M) (p':=p5) (c':=c5) HL5.out.up HRW.out hi1 hi2
    have hl6:LiesV (At ok (w.heap.size+3) W6) (max f f+1) W6 [.int .i64 k,.int .i64 n,.int .u64 (b:Int),.string s,.slice p5 M.length c5,.slice pE E.length cE] (mkV (k,n,b,s.data.toList) M E):=by
     rw [hW6];exact lies_past1 (B:=w.heap.size) (j:=4) hlE (fun h=>by have:=hok _ h;omega) (by omega) _
    clear hW6;have HY:=ja (jk T6.r (.int .i64 k) (.int .i64 n) (.int .u64 (b:Int)) (.string s) (.slice p5 M.length c5) (.slice pE E.length cE));have HB:=ja (jg T6.b (b:=w.heap.size+2) (by omega) (.int .i64 k) (.int .i64 n) (.int .u64 (b:Int)) (.string s) (.slice p5 M.length c5) (.slice pE E.length cE));have HV:=ja (JY (B:=w.heap.size+2) hl6 (fun h=>by have:=hok _ h;omega) (by omega) (.int .i64 k) (.int .i64 n) (.int .u64 (b:Int)) (.string s) (.slice p5 M.length c5) (.slice pE E.length cE));have a0:=T6.a.cell 0 _ rfl;have a1:=T6.a.cell 1 _ rfl;have a2:=T6.a.cell 2 _ rfl;have a3:=T6.a.cell 3 _ rfl;have a4:=T6.a.cell 4 _ rfl;have a5:=T6.a.cell 5 _ rfl;have r0:=T6.r.cell 0 _ rfl;have r1:=T6.r.cell 1 _ rfl;have r2:=T6.r.cell 2 _ rfl;have r3:=T6.r.cell 3 _ rfl;have r4:=T6.r.cell 4 _ rfl;have r5:=T6.r.cell 5 _ rfl;have f0:=T6.r.froz 0;have f1:=T6.r.froz 1
    have f2:=T6.r.froz 2;have f3:=T6.r.froz 3;have f4:=T6.r.froz 4;have f5:=T6.r.froz 5;simp only [List.getElem_toArray,List.getElem_cons_zero,List.getElem_cons_succ] at a0 a1 a2 a3 a4 a5 r0 r1 r2 r3 r4 r5
    go_wp2_with fail
    obtain⟨Y,hYe⟩:∃Y,Y=jp W6 (w.heap.size+2) (.int .i64 k) (.int .i64 n) (.int .u64 (b:Int)) (.string s) (.slice p5 M.length c5) (.slice pE E.length cE):=⟨_,rfl⟩
    rw [<-hYe] at HY HB HV;simp only [jp] at hYe;rw [<-hYe];clear hYe;refine bodyPost_ret (results_updated _ HY.out) rfl ?_
    rw [HU2.out];exact jbz.mk (r:=(0,mkV (k,n,b,s.data.toList) M E)) HB.out (Jo HV.out (by omega) (Below.refl _ _))
   ·obtain⟨v2,X2,hrun2,ho2,bx2⟩:=restL (j:=j+1) (ps:=some ⟨Bl,ol+(j+1)*6,none⟩) HRL.out hj3 (cL - (j+1)) (fun h=>⟨Bl,ol,rfl,rfl⟩) (fun q h=>h.2) HBX1.out HO1.out (by rw [List.length_take];omega) 23
    rw [<-HMM.out] at ho2;obtain⟨p5,c5,rfl,hi1,hi2,hrow⟩:=ho2.row3;have K2:=H4d.out.below bx2;have z4:=K2.h.a.froz 4;have y4:=K2.h.a.cell 4 _ rfl;simp only [List.getElem_toArray,List.getElem_cons_zero,List.getElem_cons_succ] at y4;have HSZ:=H4d.out.s;have HRW:Hid (RowL (At ok (w.heap.size+3) X2) f X2 p5 M):=ja (hrow.kept (fun q h=>⟨by rcases h.1 with h | h;exact h.1.imp id (fun h=>by omega);exact .inr (by omega),h.2⟩) (Nat.le_refl _) (fun _ _ _=>rfl) (fun j us _ ⟨z,g1,g2⟩=>⟨z,g1,g2.weaken (fun q h=>⟨by rcases h.1 with h | h;exact h.1.imp id (fun h=>by omega);exact .inr (by omega),h.2⟩)⟩));have HK2:=ja K2;have HL5:=ja (Jo HL2.out (M:=w.heap.size+3) (by omega) bx2);clear hrow K2 bx2 ho2
    go_upto_region 39 with (at_builtin;refine Lib.wpList_append_run _ rfl _ _ _ _ rfl _ _ rfl rfl _ _ hrun1 ?_)
    go_upto_region 40 with (at_builtin;refine Lib.wpList_append_run _ rfl _ _ _ _ rfl _ _ rfl rfl _ _ hrun2 ?_)
    obtain⟨W6,hW6⟩:∃W6,W6=X2.setCell ⟨w.heap.size,4,none⟩ (.slice p5 M.length c5):=⟨_,rfl⟩
    rw [<-hW6];have T6:Three w W6 #[.int .i64 k,.int .i64 n,.int .u64 (b:Int),.string s,.slice p5 M.length c5,.slice pE E.length cE] #[.int .i64 3,.slice po no co,.int .i64 vk,.int .i64 vn,.int .u64 (vb:Int),.string vs,.slice vpL vnL vcL,.slice vpE vnE vcE,.string key] qv:=by rw [hW6];exact three_set HK2.out.h 4 _
    have hlE:=lies_setL (okA:=At ok (w.heap.size+3) X2) (L':=M) (p':=p5) (c':=c5) HL5.out.up HRW.out hi1 hi2
    have hl6:LiesV (At ok (w.heap.size+3) W6) (max f f+1) W6 [.int .i64 k,.int .i64 n,.int .u64 (b:Int),.string s,.slice p5 M.length c5,.slice pE E.length cE] (mkV (k,n,b,s.data.toList) M E):=by
     rw [hW6];exact lies_past1 (B:=w.heap.size) (j:=4) hlE (fun h=>by have:=hok _ h;omega) (by omega) _
    clear hW6;have HY:=ja (jk T6.r (.int .i64 k) (.int .i64 n) (.int .u64 (b:Int)) (.string s) (.slice p5 M.length c5) (.slice pE E.length cE));have HB:=ja (jg T6.b (b:=w.heap.size+2) (by omega) (.int .i64 k) (.int .i64 n) (.int .u64 (b:Int)) (.string s) (.slice p5 M.length c5) (.slice pE E.length cE));have HV:=ja (JY (B:=w.heap.size+2) hl6 (fun h=>by have:=hok _ h;omega) (by omega) (.int .i64 k) (.int .i64 n) (.int .u64 (b:Int)) (.string s) (.slice p5 M.length c5) (.slice pE E.length cE));have a0:=T6.a.cell 0 _ rfl;have a1:=T6.a.cell 1 _ rfl;have a2:=T6.a.cell 2 _ rfl;have a3:=T6.a.cell 3 _ rfl;have a4:=T6.a.cell 4 _ rfl;have a5:=T6.a.cell 5 _ rfl;have r0:=T6.r.cell 0 _ rfl;have r1:=T6.r.cell 1 _ rfl;have r2:=T6.r.cell 2 _ rfl;have r3:=T6.r.cell 3 _ rfl;have r4:=T6.r.cell 4 _ rfl;have r5:=T6.r.cell 5 _ rfl;have f0:=T6.r.froz 0;have f1:=T6.r.froz 1
    have f2:=T6.r.froz 2;have f3:=T6.r.froz 3;have f4:=T6.r.froz 4;have f5:=T6.r.froz 5;simp only [List.getElem_toArray,List.getElem_cons_zero,List.getElem_cons_succ] at a0 a1 a2 a3 a4 a5 r0 r1 r2 r3 r4 r5
    go_wp2_with fail
    obtain⟨Y,hYe⟩:∃Y,Y=jp W6 (w.heap.size+2) (.int .i64 k) (.int .i64 n) (.int .u64 (b:Int)) (.string s) (.slice p5 M.length c5) (.slice pE E.length cE):=⟨_,rfl⟩
    rw [<-hYe] at HY HB HV;simp only [jp] at hYe;rw [<-hYe];clear hYe;refine bodyPost_ret (results_updated _ HY.out) rfl ?_
    rw [HU2.out];exact jbz.mk (r:=(0,mkV (k,n,b,s.data.toList) M E)) HB.out (Jo HV.out (by omega) (Below.refl _ _))
 ·have hU3:Xs 3 y key.data.toList t [x]=(er,t):=by rw [hU];unfold jaG;rw [if_neg (by decide),hz]
  have hneb:(er != 0)=true:=bne_iff_ne.2 hne;have HU2:=ja hU3;clear hU3 hz hne hU hl0 hy0 HR k3 dD b03 b23 A0 A1 A2 A3 A4 A5;have HY:=ja (jk T6.r (.int .i64 k) (.int .i64 n) (.int .u64 (b:Int)) (.string s) (.slice pL nL cL) (.slice pE nE cE));have HB:=ja (jg T6.b (b:=w.heap.size+2) (by omega) (.int .i64 k) (.int .i64 n) (.int .u64 (b:Int)) (.string s) (.slice pL nL cL) (.slice pE nE cE));have HV:=ja (JY (B:=w.heap.size+2) hl6 (fun h=>by have:=hok _ h;omega) (by omega) (.int .i64 k) (.int .i64 n) (.int .u64 (b:Int)) (.string s) (.slice pL nL cL) (.slice pE nE cE));have a0:=T6.a.cell 0 _ rfl;have a1:=T6.a.cell 1 _ rfl;have a2:=T6.a.cell 2 _ rfl;have a3:=T6.a.cell 3 _ rfl;have a4:=T6.a.cell 4 _ rfl;have a5:=T6.a.cell 5 _ rfl;have r0:=T6.r.cell 0 _ rfl;have r1:=T6.r.cell 1 _ rfl;have r2:=T6.r.cell 2 _ rfl;have r3:=T6.r.cell 3 _ rfl;have r4:=T6.r.cell 4 _ rfl
  have r5:=T6.r.cell 5 _ rfl;have f0:=T6.r.froz 0;have f1:=T6.r.froz 1;have f2:=T6.r.froz 2;have f3:=T6.r.froz 3;have f4:=T6.r.froz 4;have f5:=T6.r.froz 5;simp only [List.getElem_toArray,List.getElem_cons_zero,List.getElem_cons_succ] at a0 a1 a2 a3 a4 a5 r0 r1 r2 r3 r4 r5
  go_wp2_with fail
  obtain⟨Y,hYe⟩:∃Y,Y=jp W3 (w.heap.size+2) (.int .i64 k) (.int .i64 n) (.int .u64 (b:Int)) (.string s) (.slice pL nL cL) (.slice pE nE cE):=⟨_,rfl⟩
  rw [<-hYe] at HY HB HV;simp only [jp] at hYe;rw [<-hYe];clear hYe;refine bodyPost_ret (results_updated _ HY.out) rfl ?_
  rw [HU2.out];exact jbz.mk (r:=(er,t)) HB.out (Jo HV.out (by omega) (Below.refl _ _))
end upds
namespace paths
open Go.RowKit
open utfs (bad ja jc)
theorem X7 (w:World)(p:Option Addr)(c:Nat)(P:List St)(hP:LiesP w p P)(hl:P.length<=9223372036854775807) :
  Calls Tryd.prog 12 #[.slice p P.length c] w fun e w'=>e=.returned (.int .i64 (jq P))/\Below w.heap.size w w':=by
 by_cases i1:(P.length:Int) > 20
 ·have E:Hid (jq P=5):=ja (by unfold jq;rw [if_pos (by omega)])
  go_enter Tryd.func12,Tryd.ntmps12
  go_wp2_with fail
  go_ret;exact⟨by rw [E.out];rfl,Below.refl _ _⟩
 ·have E:Hid (jq P=zn P):=ja (by unfold jq;rw [if_neg (by omega)])
  have HP:=ja hP;clear hP
  go_enter Tryd.func12,Tryd.ntmps12
  go_wp2_with fail
  go_loopw [10] (fun i wr=>∃j:Nat,i=.int .i64 j/\j<=P.length/\Hid (zn (P.drop j)=zn P)/\Below w.heap.size w wr) (fun i _=>P.length - (intOf i).toNat)
  case atStart=>exact⟨0,rfl,Nat.zero_le _,rfl,Below.refl _ _⟩
  case round=>
   obtain⟨j,rfl,hj,hacc,hbw⟩:=hrel
   by_cases hlt:j<P.length
   ·obtain⟨B,o,key,rfl,hB,hk1,hk2,hk3,c0,c1⟩:=HP.out.at hlt
    have hst:=YD hlt;rw [hacc.out] at hst;have q0:=(hbw.cell (p:=⟨B,o+j*2,none⟩) hB).trans c0;have q1:=(hbw.cell (p:=⟨B,o+j*2+1,none⟩) hB).trans c1;have hbA:Below w.heap.size w (wr.alloc (.cells #[.string key,.int .i64 (P[j]).2] 60)):=hbw.alloc (by have:=hbw.size;omega) _;have hks:key.size=(P[j]).1.length:=by rw [<-hk1];rfl
    have KB:=fun(h:key.size<=140737488355328)=>ja (utfs.qW key (wr.alloc (.cells #[.string key,.int .i64 (P[j]).2] 60)) h)
    rw [hk1] at KB;have hch:qI P[j]=if (P[j]).2 < -1\/(-1<(P[j]).2/\(P[j]).1≠[]) then 1 else if 100<(P[j]).1.length then 2 else if 0<=bad (P[j]).1 then 3 else 0:=rfl
    rw [<-hks] at hch;have hemp:(P[j]).1≠[]↔0<key.size:=by rw [hks];exact List.length_pos_iff.symm
    generalize qI P[j]=er at *;generalize (P[j]).2=xi at *;have HB:=ja hbA;clear hbA c0 c1 hk1 hacc hks
    by_cases a1:xi < -1
    ·rw [if_pos (.inl a1)] at hch
     subst hch;have H3:Hid (zn P=1):=ja hst;clear hst KB hemp;go_wp2;go_ret;exact⟨by rw [E.out,H3.out];rfl,HB.out⟩
    ·by_cases a2 : -1<xi/\0<key.size
     ·rw [if_pos (.inr ⟨a2.1,hemp.2 a2.2⟩)] at hch
      subst hch;have H3:Hid (zn P=1):=ja hst;have n1:(xi != -1)=true:=bne_iff_ne.2 (by omega);have he:=escs.YY key a2.2;clear hst KB hemp;go_wp2;go_ret;exact⟨by rw [E.out,H3.out];rfl,HB.out⟩
     ·rw [if_neg (by rintro(h | ⟨h1,h2⟩);exact a1 h;exact a2 ⟨h1,hemp.1 h2⟩)] at hch
      have hcond:((xi != -1)=false)\/((xi != -1)=true/\key.toList.isEmpty=true):=by
       by_cases h:xi = -1
       ·exact .inl (by rw [h];rfl)
       ·exact .inr ⟨bne_iff_ne.2 h,escs.Xk key (by omega)⟩
      clear hemp
      by_cases a3:(key.size:Int) > 100
      ·rw [if_pos (by omega)] at hch
       subst hch;have H3:Hid (zn P=2):=ja hst;clear hst KB
       rcases hcond with n1 | ⟨n1,n2⟩
       all_goals
        go_wp2;go_ret;exact⟨by rw [E.out,H3.out];rfl,HB.out⟩
      ·rw [if_neg (by omega)] at hch
       have KB':=KB (by omega);clear KB;generalize bad (P[j]).1=bd at *
       by_cases a4:bd ≥ 0
       ·rw [if_pos a4] at hch
        subst hch;have H3:Hid (zn P=3):=ja hst;clear hst
        rcases hcond with n1 | ⟨n1,n2⟩
        all_goals
         go_wp2_with fail
         refine(jc KB').mono ?_
         rintro e w2 ⟨rfl,b2⟩
         have hb2:=ja (HB.out.trans (b2.mono HB.out.size));clear b2;go_wp2;go_ret;exact⟨by rw [E.out,H3.out];rfl,hb2.out⟩
       ·rw [if_neg a4] at hch
        subst hch;rw [if_pos rfl] at hst;have H3:=ja hst.symm;clear hst
        rcases hcond with n1 | ⟨n1,n2⟩
        all_goals
         go_wp2_with fail
         refine(jc KB').mono ?_
         rintro e w2 ⟨rfl,b2⟩
         have hb2:=HB.out.trans (b2.mono HB.out.size);clear b2;go_wp2;refine⟨⟨j+1,?_,by omega,H3,hb2⟩,?_⟩
         ·congr 1
         ·simp only [intOf]
          omega
   ·have H3:Hid (zn P=0):=ja (by rw [<-hacc.out,List.drop_of_length_le (by omega)];rfl)
    have g0:¬(j:Int)<(P.length:Int):=by omega
    clear hacc;go_wp2;go_ret;exact⟨by rw [E.out,H3.out];rfl,hbw⟩
end paths
set_option linter.unusedSimpArgs false
namespace upds
open Go.RowKit Go.Shelf
open valus
open paths (St LiesP jq)
theorem Z5 (w:World)(kind:Int)(hki : -9223372036854775808<=kind/\kind<=9223372036854775807)(p:Option Addr)(c:Nat)(P:List St)(hP:LiesP w p P)(hPl:P.length<=9223372036854775807)(g:Nat)(y:V)(k n:Int)(b:Nat)(s:ByteArray)(pL:Option Addr)(nL cL:Nat)(pE:Option Addr)(nE cE:Nat)(hl:LiesV (fun q=>q<w.heap.size) g w [.int .i64 k,.int .i64 n,.int .u64 (b:Int),.string s,.slice pL nL cL,.slice pE nE cE] y)(hn:jd g y<=10000000)(key:ByteArray)(hT:True) :
  Calls Tryd.prog 41 #[.agg #[.int .i64 kind,.slice p P.length c,.int .i64 k,.int .i64 n,.int .u64 (b:Int),.string s,.slice pL nL cL,.slice pE nE cE,.string key]] w fun e w'=>e=.returned (.int .i64 (qf kind P y key.data.toList))/\Below w.heap.size w w':=by
 obtain⟨W0,hW0⟩:∃W0,W0=w.alloc (.cells #[.int .i64 kind,.slice p P.length c,.int .i64 k,.int .i64 n,.int .u64 (b:Int),.string s,.slice pL nL cL,.slice pE nE cE,.string key] 45):=⟨_,rfl⟩
 have b0:Below w.heap.size w W0:=by rw [hW0];exact(Below.refl _ w).alloc (Nat.le_refl _) _
 have hZ:Blk W0 w.heap.size #[.int .i64 kind,.slice p P.length c,.int .i64 k,.int .i64 n,.int .u64 (b:Int),.string s,.slice pL nL cL,.slice pE nE cE,.string key] 45:=by rw [hW0];exact jb w _ _
 have z0:=hZ.cell 0 _ rfl;have z1:=hZ.cell 1 _ rfl;rw [hW0] at z0 z1;have HZ:=ja hZ;have B0:=ja b0;have HW0:=ja hW0;have hkl:=jn key
 by_cases hr:kind<1\/4<kind
 ·have E:Hid (qf kind P y key.data.toList=1):=ja (by unfold qf;rw [if_pos hr])
  by_cases h1:kind<1
  ·
   clear hT hl b0 hZ hW0 hP hn
   go_enter Tryd.func41,Tryd.ntmps41
   go_wp2_with fail
   go_ret;exact⟨by rw [E.out];rfl,by rw [<-HW0.out];exact B0.out⟩
  ·have h4:kind > 4:=by omega
   clear hT hl b0 hZ hW0 hP hn
   go_enter Tryd.func41,Tryd.ntmps41
   go_wp2_with fail
   go_ret;exact⟨by rw [E.out];rfl,by rw [<-HW0.out];exact B0.out⟩
 ·have h1:¬kind<1:=by omega
  have h4:¬kind > 4:=by omega
  have KP:=ja (paths.X7 W0 p c P (hP.keep b0) hPl);rw [hW0] at KP
  by_cases hc:jq P=0
  ·rw [hc] at KP
   have KV:Hid (∀w1,Below W0.heap.size W0 w1->Calls Tryd.prog 40 #[.agg #[.int .i64 k,.int .i64 n,.int .u64 (b:Int),.string s,.slice pL nL cL,.slice pE nE cE]] w1 fun e w'=>e=.returned (.int .i64 (jh jr y))/\Below w1.heap.size w1 w'):=ja fun w1 h=>by
    have b1:Below w.heap.size w w1:=b0.trans (h.mono b0.size);exact zE g w1 y _ _ _ _ _ _ ((hl.below b1).kept (fun q h=>Nat.lt_of_lt_of_le h b1.size) (Nat.le_refl _) (fun _ _ _=>rfl)) hn
   have hlast:∀er:Int,er=0->qs kind y key.data.toList=er->qf kind P y key.data.toList=if kind≠1/\P=[] then 1 else 0:=fun er h0 h=>by
    unfold qf;rw [if_neg hr,if_neg (by simpa using hc),h,h0,if_neg (by simp)]
   have hbad:qs kind y key.data.toList≠0->qf kind P y key.data.toList=qs kind y key.data.toList:=fun h=>by
    unfold qf;rw [if_neg hr,if_neg (by simpa using hc),if_pos h]
   have hP0:P=[]\/(P≠[]/\¬(P.length:Int)=0/\((P.length:Int) == 0)=false):=by
    rcases P with _ | ⟨x,P⟩
    ·exact .inl rfl
    ·exact .inr ⟨by simp,by simp only [List.length_cons];omega,beq_false_of_ne (by simp only [List.length_cons];omega)⟩
   rcases(show kind=1\/kind=2\/kind=3\/kind=4 by omega) with rfl | rfl | rfl | rfl
   ·by_cases hf:jh jr y=0
    ·have hl0:=hlast _ hf (by unfold qs;rw [if_pos (by decide)])
     rw [hf] at KV;rw [if_neg (by simp)] at hl0;have E:=ja hl0;clear hlast hbad hf hl0 hP0;clear hT hl b0 hZ hW0 hP hn
     go_enter Tryd.func41,Tryd.ntmps41
     go_wp2_with (first
      | (go_at_call 12;refine(jc KP).mono ?_;rintro e w1 ⟨rfl,b1⟩;rw [<-HW0.out] at b1;have B1:=ja b1;have hz:=HZ.out.below b1;have y0:=hz.cell 0 _ rfl;have y1:=hz.cell 1 _ rfl;have y2:=hz.cell 2 _ rfl;have y3:=hz.cell 3 _ rfl;have y4:=hz.cell 4 _ rfl;have y5:=hz.cell 5 _ rfl;have y6:=hz.cell 6 _ rfl;have y7:=hz.cell 7 _ rfl;have y8:=hz.cell 8 _ rfl;clear b1 hz)
      | (go_at_call 40;refine(KV.out _ B1.out).mono ?_;rintro e w2 ⟨rfl,b2⟩;have B2:=ja (B1.out.trans (b2.mono B1.out.size));have hz:=HZ.out.below B2.out;have x0:=hz.cell 0 _ rfl;have x1:=hz.cell 1 _ rfl;have x2:=hz.cell 2 _ rfl;have x3:=hz.cell 3 _ rfl;have x4:=hz.cell 4 _ rfl;have x5:=hz.cell 5 _ rfl;have x6:=hz.cell 6 _ rfl;have x7:=hz.cell 7 _ rfl;have x8:=hz.cell 8 _ rfl;clear b2 hz))
     go_ret;exact⟨by rw [E.out];rfl,B0.out.trans (B2.out.mono B0.out.size)⟩
    ·have hE:=hbad (by unfold qs;rw [if_pos (by decide)];exact hf)
     have hE2:qf 1 P y key.data.toList=jh jr y:=by rw [hE];unfold qs;rw [if_pos (by decide)]
     obtain⟨er,her⟩:∃er,er=jh jr y:=⟨_,rfl⟩
     rw [<-her] at KV hE2 hf;have hne:(er != 0)=true:=bne_iff_ne.2 hf;have E:=ja hE2;clear hlast hbad hE hE2 her hP0;clear hT hl b0 hZ hW0 hP hn
     go_enter Tryd.func41,Tryd.ntmps41
     go_wp2_with (first
      | (go_at_call 12;refine(jc KP).mono ?_;rintro e w1 ⟨rfl,b1⟩;rw [<-HW0.out] at b1;have B1:=ja b1;have hz:=HZ.out.below b1;have y0:=hz.cell 0 _ rfl;have y1:=hz.cell 1 _ rfl;have y2:=hz.cell 2 _ rfl;have y3:=hz.cell 3 _ rfl;have y4:=hz.cell 4 _ rfl;have y5:=hz.cell 5 _ rfl;have y6:=hz.cell 6 _ rfl;have y7:=hz.cell 7 _ rfl;have y8:=hz.cell 8 _ rfl;clear b1 hz)
      | (go_at_call 40;refine(KV.out _ B1.out).mono ?_;rintro e w2 ⟨rfl,b2⟩;have B2:=ja (B1.out.trans (b2.mono B1.out.size));have hz:=HZ.out.below B2.out;have x0:=hz.cell 0 _ rfl;have x1:=hz.cell 1 _ rfl;have x2:=hz.cell 2 _ rfl;have x3:=hz.cell 3 _ rfl;have x4:=hz.cell 4 _ rfl;have x5:=hz.cell 5 _ rfl;have x6:=hz.cell 6 _ rfl;have x7:=hz.cell 7 _ rfl;have x8:=hz.cell 8 _ rfl;clear b2 hz))
     go_ret;exact⟨by rw [E.out];rfl,B0.out.trans (B2.out.mono B0.out.size)⟩
   ·by_cases hf:jh jr y=0
    ·have hl0:=hlast _ hf (by unfold qs;rw [if_pos (by decide)])
     rw [hf] at KV
     rcases hP0 with rfl | ⟨hP1,hP2,hP3⟩
     ·rw [if_pos ⟨by decide,rfl⟩] at hl0
      have E:=ja hl0;clear hlast hbad hf hl0;clear hT hl b0 hZ hW0 hP hn
      go_enter Tryd.func41,Tryd.ntmps41
      go_wp2_with (first
       | (go_at_call 12;refine(jc KP).mono ?_;rintro e w1 ⟨rfl,b1⟩;rw [<-HW0.out] at b1;have B1:=ja b1;have hz:=HZ.out.below b1;have y0:=hz.cell 0 _ rfl;have y1:=hz.cell 1 _ rfl;have y2:=hz.cell 2 _ rfl;have y3:=hz.cell 3 _ rfl;have y4:=hz.cell 4 _ rfl;have y5:=hz.cell 5 _ rfl;have y6:=hz.cell 6 _ rfl;have y7:=hz.cell 7 _ rfl;have y8:=hz.cell 8 _ rfl;clear b1 hz)
       | (go_at_call 40;refine(KV.out _ B1.out).mono ?_;rintro e w2 ⟨rfl,b2⟩;have B2:=ja (B1.out.trans (b2.mono B1.out.size));have hz:=HZ.out.below B2.out;have x0:=hz.cell 0 _ rfl;have x1:=hz.cell 1 _ rfl;have x2:=hz.cell 2 _ rfl;have x3:=hz.cell 3 _ rfl;have x4:=hz.cell 4 _ rfl;have x5:=hz.cell 5 _ rfl;have x6:=hz.cell 6 _ rfl;have x7:=hz.cell 7 _ rfl;have x8:=hz.cell 8 _ rfl;clear b2 hz))
      go_ret;exact⟨by rw [E.out];rfl,B0.out.trans (B2.out.mono B0.out.size)⟩
     ·rw [if_neg (fun h=>hP1 h.2)] at hl0
      have E:=ja hl0;clear hlast hbad hf hl0;clear hT hl b0 hZ hW0 hP hn
      go_enter Tryd.func41,Tryd.ntmps41
      go_wp2_with (first
       | (go_at_call 12;refine(jc KP).mono ?_;rintro e w1 ⟨rfl,b1⟩;rw [<-HW0.out] at b1;have B1:=ja b1;have hz:=HZ.out.below b1;have y0:=hz.cell 0 _ rfl;have y1:=hz.cell 1 _ rfl;have y2:=hz.cell 2 _ rfl;have y3:=hz.cell 3 _ rfl;have y4:=hz.cell 4 _ rfl;have y5:=hz.cell 5 _ rfl;have y6:=hz.cell 6 _ rfl;have y7:=hz.cell 7 _ rfl;have y8:=hz.cell 8 _ rfl;clear b1 hz)
       | (go_at_call 40;refine(KV.out _ B1.out).mono ?_;rintro e w2 ⟨rfl,b2⟩;have B2:=ja (B1.out.trans (b2.mono B1.out.size));have hz:=HZ.out.below B2.out;have x0:=hz.cell 0 _ rfl;have x1:=hz.cell 1 _ rfl;have x2:=hz.cell 2 _ rfl;have x3:=hz.cell 3 _ rfl;have x4:=hz.cell 4 _ rfl;have x5:=hz.cell 5 _ rfl;have x6:=hz.cell 6 _ rfl;have x7:=hz.cell 7 _ rfl;have x8:=hz.cell 8 _ rfl;clear b2 hz))
      go_ret;exact⟨by rw [E.out];rfl,B0.out.trans (B2.out.mono B0.out.size)⟩
    ·have hE:=hbad (by unfold qs;rw [if_pos (by decide)];exact hf)
     have hE2:qf 2 P y key.data.toList=jh jr y:=by rw [hE];unfold qs;rw [if_pos (by decide)]
     obtain⟨er,her⟩:∃er,er=jh jr y:=⟨_,rfl⟩
     rw [<-her] at KV hE2 hf;have hne:(er != 0)=true:=bne_iff_ne.2 hf;have E:=ja hE2;clear hlast hbad hE hE2 her hP0;clear hT hl b0 hZ hW0 hP hn
     go_enter Tryd.func41,Tryd.ntmps41
     go_wp2_with (first
      | (go_at_call 12;refine(jc KP).mono ?_;rintro e w1 ⟨rfl,b1⟩;rw [<-HW0.out] at b1;have B1:=ja b1;have hz:=HZ.out.below b1;have y0:=hz.cell 0 _ rfl;have y1:=hz.cell 1 _ rfl;have y2:=hz.cell 2 _ rfl;have y3:=hz.cell 3 _ rfl;have y4:=hz.cell 4 _ rfl;have y5:=hz.cell 5 _ rfl;have y6:=hz.cell 6 _ rfl;have y7:=hz.cell 7 _ rfl;have y8:=hz.cell 8 _ rfl;clear b1 hz)
      | (go_at_call 40;refine(KV.out _ B1.out).mono ?_;rintro e w2 ⟨rfl,b2⟩;have B2:=ja (B1.out.trans (b2.mono B1.out.size));have hz:=HZ.out.below B2.out;have x0:=hz.cell 0 _ rfl;have x1:=hz.cell 1 _ rfl;have x2:=hz.cell 2 _ rfl;have x3:=hz.cell 3 _ rfl;have x4:=hz.cell 4 _ rfl;have x5:=hz.cell 5 _ rfl;have x6:=hz.cell 6 _ rfl;have x7:=hz.cell 7 _ rfl;have x8:=hz.cell 8 _ rfl;clear b2 hz))
     go_ret;exact⟨by rw [E.out];rfl,B0.out.trans (B2.out.mono B0.out.size)⟩
   ·have hl0:=hlast 0 rfl (by unfold qs;rw [if_neg (by decide),if_neg (by decide)])
    rcases hP0 with rfl | ⟨hP1,hP2,hP3⟩
    ·rw [if_pos ⟨by decide,rfl⟩] at hl0
     have E:=ja hl0;clear hlast hbad hl0 KV;clear hT hl b0 hZ hW0 hP hn
     go_enter Tryd.func41,Tryd.ntmps41
     go_wp2_with (go_at_call 12;refine(jc KP).mono ?_;rintro e w1 ⟨rfl,b1⟩;rw [<-HW0.out] at b1;have B1:=ja b1;have hz:=HZ.out.below b1;have y0:=hz.cell 0 _ rfl;have y1:=hz.cell 1 _ rfl;have y2:=hz.cell 2 _ rfl;have y3:=hz.cell 3 _ rfl;have y4:=hz.cell 4 _ rfl;have y5:=hz.cell 5 _ rfl;have y6:=hz.cell 6 _ rfl;have y7:=hz.cell 7 _ rfl;have y8:=hz.cell 8 _ rfl;clear b1 hz)
     go_ret;exact⟨by rw [E.out];rfl,B0.out.trans (B1.out.mono B0.out.size)⟩
    ·rw [if_neg (fun h=>hP1 h.2)] at hl0
     have E:=ja hl0;clear hlast hbad hl0 KV;clear hT hl b0 hZ hW0 hP hn
     go_enter Tryd.func41,Tryd.ntmps41
     go_wp2_with (go_at_call 12;refine(jc KP).mono ?_;rintro e w1 ⟨rfl,b1⟩;rw [<-HW0.out] at b1;have B1:=ja b1;have hz:=HZ.out.below b1;have y0:=hz.cell 0 _ rfl;have y1:=hz.cell 1 _ rfl;have y2:=hz.cell 2 _ rfl;have y3:=hz.cell 3 _ rfl;have y4:=hz.cell 4 _ rfl;have y5:=hz.cell 5 _ rfl;have y6:=hz.cell 6 _ rfl;have y7:=hz.cell 7 _ rfl;have y8:=hz.cell 8 _ rfl;clear b1 hz)
     go_ret;exact⟨by rw [E.out];rfl,B0.out.trans (B1.out.mono B0.out.size)⟩
   ·have hnf:qs 4 y key.data.toList=jW key.data.toList:=by unfold qs;rw [if_neg (by decide),if_pos rfl]
    by_cases hk1:(key.size:Int) > 100
    ·have hE:=hbad (by rw [hnf];unfold jW;rw [if_pos (by omega)];decide)
     rw [hnf] at hE;have E:Hid (qf 4 P y key.data.toList=2):=ja (by rw [hE];unfold jW;rw [if_pos (by omega)]);clear hlast hbad hE hnf KV hP0;clear hT hl b0 hZ hW0 hP hn
     go_enter Tryd.func41,Tryd.ntmps41
     go_wp2_with (go_at_call 12;refine(jc KP).mono ?_;rintro e w1 ⟨rfl,b1⟩;rw [<-HW0.out] at b1;have B1:=ja b1;have hz:=HZ.out.below b1;have y0:=hz.cell 0 _ rfl;have y1:=hz.cell 1 _ rfl;have y2:=hz.cell 2 _ rfl;have y3:=hz.cell 3 _ rfl;have y4:=hz.cell 4 _ rfl;have y5:=hz.cell 5 _ rfl;have y6:=hz.cell 6 _ rfl;have y7:=hz.cell 7 _ rfl;have y8:=hz.cell 8 _ rfl;clear b1 hz)
     go_ret;exact⟨by rw [E.out];rfl,B0.out.trans (B1.out.mono B0.out.size)⟩
    ·have KB:Hid (∀w1,Calls Tryd.prog 33 #[.string key] w1 fun e w'=>e=.returned (.int .i64 (utfs.bad key.data.toList))/\Below w1.heap.size w1 w'):=ja fun w1=>utfs.qW key w1 (by omega)
     by_cases hk2:utfs.bad key.data.toList ≥ 0
     ·have hE:=hbad (by rw [hnf];unfold jW;rw [if_neg (by omega),if_pos hk2];decide)
      rw [hnf] at hE;have E:Hid (qf 4 P y key.data.toList=3):=ja (by rw [hE];unfold jW;rw [if_neg (by omega),if_pos hk2]);clear hlast hbad hE hnf KV hP0;clear hT hl b0 hZ hW0 hP hn
      go_enter Tryd.func41,Tryd.ntmps41
      go_wp2_with (first
       | (go_at_call 12;refine(jc KP).mono ?_;rintro e w1 ⟨rfl,b1⟩;rw [<-HW0.out] at b1;have B1:=ja b1;have hz:=HZ.out.below b1;have y0:=hz.cell 0 _ rfl;have y1:=hz.cell 1 _ rfl;have y2:=hz.cell 2 _ rfl;have y3:=hz.cell 3 _ rfl;have y4:=hz.cell 4 _ rfl;have y5:=hz.cell 5 _ rfl;have y6:=hz.cell 6 _ rfl;have y7:=hz.cell 7 _ rfl;have y8:=hz.cell 8 _ rfl;clear b1 hz)
       | (go_at_call 33;refine(KB.out _).mono ?_;rintro e w2 ⟨rfl,b2⟩;have B2:=ja (B1.out.trans (b2.mono B1.out.size));have hz:=HZ.out.below B2.out;have x0:=hz.cell 0 _ rfl;have x1:=hz.cell 1 _ rfl;have x2:=hz.cell 2 _ rfl;have x3:=hz.cell 3 _ rfl;have x4:=hz.cell 4 _ rfl;have x5:=hz.cell 5 _ rfl;have x6:=hz.cell 6 _ rfl;have x7:=hz.cell 7 _ rfl;have x8:=hz.cell 8 _ rfl;clear b2 hz))
      go_ret;exact⟨by rw [E.out];rfl,B0.out.trans (B2.out.mono B0.out.size)⟩
     ·have hl0:=hlast 0 rfl (by rw [hnf];unfold jW;rw [if_neg (by omega),if_neg hk2])
      rcases hP0 with rfl | ⟨hP1,hP2,hP3⟩
      ·rw [if_pos ⟨by decide,rfl⟩] at hl0
       have E:=ja hl0;clear hlast hbad hl0 hnf KV;clear hT hl b0 hZ hW0 hP hn
       go_enter Tryd.func41,Tryd.ntmps41
       go_wp2_with (first
        | (go_at_call 12;refine(jc KP).mono ?_;rintro e w1 ⟨rfl,b1⟩;rw [<-HW0.out] at b1;have B1:=ja b1;have hz:=HZ.out.below b1;have y0:=hz.cell 0 _ rfl;have y1:=hz.cell 1 _ rfl;have y2:=hz.cell 2 _ rfl;have y3:=hz.cell 3 _ rfl;have y4:=hz.cell 4 _ rfl;have y5:=hz.cell 5 _ rfl;have y6:=hz.cell 6 _ rfl;have y7:=hz.cell 7 _ rfl;have y8:=hz.cell 8 _ rfl;clear b1 hz)
        | (go_at_call 33;refine(KB.out _).mono ?_;rintro e w2 ⟨rfl,b2⟩;have B2:=ja (B1.out.trans (b2.mono B1.out.size));have hz:=HZ.out.below B2.out;have x0:=hz.cell 0 _ rfl;have x1:=hz.cell 1 _ rfl;have x2:=hz.cell 2 _ rfl;have x3:=hz.cell 3 _ rfl;have x4:=hz.cell 4 _ rfl;have x5:=hz.cell 5 _ rfl;have x6:=hz.cell 6 _ rfl;have x7:=hz.cell 7 _ rfl;have x8:=hz.cell 8 _ rfl;clear b2 hz))
       go_ret;exact⟨by rw [E.out];rfl,B0.out.trans (B2.out.mono B0.out.size)⟩
      ·rw [if_neg (fun h=>hP1 h.2)] at hl0
       have E:=ja hl0;clear hlast hbad hl0 hnf KV;clear hT hl b0 hZ hW0 hP hn
       go_enter Tryd.func41,Tryd.ntmps41
       go_wp2_with (first
        | (go_at_call 12;refine(jc KP).mono ?_;rintro e w1 ⟨rfl,b1⟩;rw [<-HW0.out] at b1;have B1:=ja b1;have hz:=HZ.out.below b1;have y0:=hz.cell 0 _ rfl;have y1:=hz.cell 1 _ rfl;have y2:=hz.cell 2 _ rfl;have y3:=hz.cell 3 _ rfl;have y4:=hz.cell 4 _ rfl;have y5:=hz.cell 5 _ rfl;have y6:=hz.cell 6 _ rfl;have y7:=hz.cell 7 _ rfl;have y8:=hz.cell 8 _ rfl;clear b1 hz)
        | (go_at_call 33;refine(KB.out _).mono ?_;rintro e w2 ⟨rfl,b2⟩;have B2:=ja (B1.out.trans (b2.mono B1.out.size));have hz:=HZ.out.below B2.out;have x0:=hz.cell 0 _ rfl;have x1:=hz.cell 1 _ rfl;have x2:=hz.cell 2 _ rfl;have x3:=hz.cell 3 _ rfl;have x4:=hz.cell 4 _ rfl;have x5:=hz.cell 5 _ rfl;have x6:=hz.cell 6 _ rfl;have x7:=hz.cell 7 _ rfl;have x8:=hz.cell 8 _ rfl;clear b2 hz))
       go_ret;exact⟨by rw [E.out];rfl,B0.out.trans (B2.out.mono B0.out.size)⟩
  ·have E:Hid (qf kind P y key.data.toList=jq P):=ja (by unfold qf;rw [if_neg hr,if_pos hc])
   obtain⟨er,her⟩:∃er,er=jq P:=⟨_,rfl⟩
   rw [<-her] at KP E hc;have hne:(er != 0)=true:=bne_iff_ne.2 hc;clear her;clear hT hl b0 hZ hW0 hP hn
   go_enter Tryd.func41,Tryd.ntmps41
   go_wp2_with (go_at_call 12;refine(jc KP).mono ?_;rintro e w1 ⟨rfl,b1⟩;rw [<-HW0.out] at b1;have B1:=ja b1;have hz:=HZ.out.below b1;have y0:=hz.cell 0 _ rfl;have y1:=hz.cell 1 _ rfl;have y2:=hz.cell 2 _ rfl;have y3:=hz.cell 3 _ rfl;have y4:=hz.cell 4 _ rfl;have y5:=hz.cell 5 _ rfl;have y6:=hz.cell 6 _ rfl;have y7:=hz.cell 7 _ rfl;have y8:=hz.cell 8 _ rfl;clear b1 hz)
   go_ret;exact⟨by rw [E.out];rfl,B0.out.trans (B1.out.mono B0.out.size)⟩
end upds
end Go.Proofs.YtadaehaemmelfaaDoor
