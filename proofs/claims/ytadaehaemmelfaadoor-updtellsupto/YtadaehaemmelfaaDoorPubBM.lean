/- Of our texts, what this claim reaches. -/
import Derived.Test.YtadaehaemmelfaaDoorPubBI
import Derived.Test.YtadaehaemmelfaaDoorPubBJ
import Derived.Test.YtadaehaemmelfaaDoorPubAR
import Derived.Test.YtadaehaemmelfaaDoorPubBL
set_option linter.unusedVariables false
set_option maxHeartbeats 16000000
set_option maxRecDepth 100000
set_option linter.unusedSimpArgs false
namespace Go.Proofs.YtadaehaemmelfaaDoor
namespace upds
open Go.RowKit Go.Shelf
open valus
open paths (St LiesP jf je jq)
def jcm (kind:Int)(y:V)(key:ByteArray)(P:List St):Prop:=∀(ok:Nat->Prop) (f:Nat) (w:World) (t:V) (k n:Int) (b:Nat) (s:ByteArray) (pL:Option Addr) (nL cL:Nat) (pE:Option Addr) (nE cE:Nat) (p:Option Addr) (c:Nat) (po:Option Addr) (no co:Nat) (g:Nat) (vk vn:Int) (vb:Nat) (vs:ByteArray) (vpL:Option Addr) (vnL vcL:Nat) (vpE:Option Addr) (vnE vcE:Nat),
 (∀q,ok q->q<w.heap.size)->LiesV ok f w [.int .i64 k,.int .i64 n,.int .u64 (b:Int),.string s,.slice pL nL cL,.slice pE nE cE] t->jd f t<=1000000->LiesP w p P->P.length<=c->c<=maxLen->(∀x∈P,-1<=x.2)->LiesV ok g w [.int .i64 vk,.int .i64 vn,.int .u64 (vb:Int),.string vs,.slice vpL vnL vcL,.slice vpE vnE vcE] y->
 Calls Tryd.prog 42 #[.agg #[.int .i64 k,.int .i64 n,.int .u64 (b:Int),.string s,.slice pL nL cL,.slice pE nE cE],.slice p P.length c,.agg #[.int .i64 kind,.slice po no co,.int .i64 vk,.int .i64 vn,.int .u64 (vb:Int),.string vs,.slice vpL vnL vcL,.slice vpE vnE vcE,.string key]] w (jbz ok (Xs kind y key.data.toList t P) w)
def Deep (ok:Nat->Prop)(w W:World)(VA OP:Array Value)(key:ByteArray)(i:Int)(D:Nat)(u:V)(k n:Int)(b:Nat)(s:ByteArray)(pL:Option Addr)(nL cL:Nat)(pE:Option Addr)(nE cE:Nat):Prop :=
 Four w W VA OP key i/\Blk W D #[.int .i64 k,.int .i64 n,.int .u64 (b:Int),.string s,.slice pL nL cL,.slice pE nE cE] 26/\w.heap.size+4<=D/\∃f,LiesV (At ok (D+1) W) f W [.int .i64 k,.int .i64 n,.int .u64 (b:Int),.string s,.slice pL nL cL,.slice pE nE cE] u
theorem four_put6 {w W:World}{VA OP:Array Value}{key:ByteArray}{i:Int}(h:Four w W VA OP key i){D:Nat}(hD:w.heap.size+4<=D)(u0 u1 u2 u3 u4 u5:Value):Four w (jp W D u0 u1 u2 u3 u4 u5) VA OP key i :=
 ⟨⟨QT h.h.a (by omega) _ _ _ _ _ _,QT h.h.o (by omega) _ _ _ _ _ _,QT h.h.r (by omega) _ _ _ _ _ _,jg h.h.b (by omega) _ _ _ _ _ _,by rw [qq];exact h.h.s⟩,QT h.c (by omega) _ _ _ _ _ _,by rw [qq];exact h.s⟩
theorem four_put6o {w W:World}{VA OP:Array Value}{key:ByteArray}{i:Int}(h:Four w W VA OP key i){g:Nat}(hg:w.heap.size+4<=g)(o:Nat)(u0 u1 u2 u3 u4 u5:Value):Four w (Jh W g o u0 u1 u2 u3 u4 u5) VA OP key i:=by
 have ht:=zp W g o u0 u1 u2 u3 u4 u5;have hb:∀(b:Nat) (cs:Array Value) (t:Nat),Blk W b cs t->b<g->Blk (Jh W g o u0 u1 u2 u3 u4 u5) b cs t:=fun b cs t hk hlt=>(ht.block b hk.lt (by omega)).trans hk
 refine⟨⟨hb _ _ _ h.h.a (by omega),hb _ _ _ h.h.o (by omega),hb _ _ _ h.h.r (by omega),?_,Nat.le_trans h.h.s ht.size⟩,hb _ _ _ h.c (by omega),Nat.le_trans h.s ht.size⟩;unfold Jh;exact(((((h.h.b.setCell (by show _<=g;omega) _).setCell (by show _<=g;omega) _).setCell (by show _<=g;omega) _).setCell (by show _<=g;omega) _).setCell (by show _<=g;omega) _).setCell (by show _<=g;omega) _
theorem three_set {w W:World}{VA OP RA:Array Value}(h:Three w W VA OP RA)(j:Nat)(v:Value):Three w (W.setCell ⟨w.heap.size,j,none⟩ v) (VA.setIfInBounds j v) OP RA :=
 ⟨h.a.set j v,h.o.set_other _ _ (by simp),h.r.set_other _ _ (by simp),h.b.setCell (Nat.le_refl _) _,by simpa [World.setCell] using h.s⟩
theorem deep_put {ok:Nat->Prop}{w W3 w9:World}{VA OP:Array Value}{key:ByteArray}{i:Int}{D f:Nat}{u:V}{x0 x1 x2 x3 x4 x5:Value}{k n:Int}{b:Nat}{s:ByteArray}{pL:Option Addr}{nL cL:Nat}{pE:Option Addr}{nE cE:Nat}(h4:Four w W3 VA OP key i)(d3:Blk W3 D #[x0,x1,x2,x3,x4,x5] 26)(hD:w.heap.size+4<=D)(hDl:D<W3.heap.size)(hok:∀q,ok q->q<w.heap.size)(b9:Below W3.heap.size W3 w9)(hl:LiesV (fun q=>(ok q\/W3.heap.size<=q)/\q<w9.heap.size) f w9 [.int .i64 k,.int .i64 n,.int .u64 (b:Int),.string s,.slice pL nL cL,.slice pE nE cE] u) :
  Deep ok w (jp w9 D (.int .i64 k) (.int .i64 n) (.int .u64 (b:Int)) (.string s) (.slice pL nL cL) (.slice pE nE cE)) VA OP key i D u k n b s pL nL cL pE nE cE :=
 ⟨four_put6 (h4.below b9) hD _ _ _ _ _ _,jk (d3.below b9) _ _ _ _ _ _,hD,f,Jo (JY (ok:=ok) (N:=W3.heap.size) hl (fun h=>by have:=hok _ h;omega) hDl _ _ _ _ _ _) (by omega) (Below.refl _ _)⟩
theorem upd_deep (kind:Int)(y:V)(key:ByteArray)(hkm:key.size<=maxLen)(x:St)(P:List St)(ih:jcm kind y key P)(hor:kind=1\/P≠[]):jcm kind y key (x :: P):=by
 intro ok f w t k n b s pL nL cL pE nE cE p c po no co g vk vn vb vs vpL vnL vcL vpE vnE vcE hok hl hn hP hc hm hi hy;obtain⟨B,o,xk,rfl,hB,e1,e2,e3,e4,e5⟩:=hP.at (j:=0) (by simp);simp only [List.getElem_cons_zero,Nat.zero_mul,Nat.add_zero] at e1 e3 e4 e5;obtain⟨W0,hW0⟩:∃W0,W0=Zk w #[.int .i64 k,.int .i64 n,.int .u64 (b:Int),.string s,.slice pL nL cL,.slice pE nE cE] #[.int .i64 kind,.slice po no co,.int .i64 vk,.int .i64 vn,.int .u64 (vb:Int),.string vs,.slice vpL vnL vcL,.slice vpE vnE vcE,.string key] qv:=⟨_,rfl⟩
 obtain⟨W1,hW1⟩:∃W1,W1=W0.alloc (.cells #[.string xk,.int .i64 x.2] 60):=⟨_,rfl⟩
 have h4:Four w W1 #[.int .i64 k,.int .i64 n,.int .u64 (b:Int),.string s,.slice pL nL cL,.slice pE nE cE] #[.int .i64 kind,.slice po no co,.int .i64 vk,.int .i64 vn,.int .u64 (vb:Int),.string vs,.slice vpL vnL vcL,.slice vpE vnE vcE,.string key] xk x.2:=by rw [hW1,hW0];exact four_base w _ _ xk x.2
 have h3:=QQ w #[.int .i64 k,.int .i64 n,.int .u64 (b:Int),.string s,.slice pL nL cL,.slice pE nE cE] #[.int .i64 kind,.slice po no co,.int .i64 vk,.int .i64 vn,.int .u64 (vb:Int),.string vs,.slice vpL vnL vcL,.slice vpE vnE vcE,.string key] qv;rw [<-hW0] at h3
 have KP:Hid (∀u,Below W1.heap.size W1 u->Calls Tryd.prog 35 #[.agg #[.int .i64 k,.int .i64 n,.int .u64 (b:Int),.string s,.slice pL nL cL,.slice pE nE cE],.agg #[.string xk,.int .i64 x.2]] u (paths.PartTK ok (jd f t) (jf t x) u)):=ja fun u hu=>by
  refine Calls.mono ?_ (fun e w' h=>paths.part_tupleK h)
  have hbu:=h4.h.b.trans (hu.mono h4.h.b.size);have:=paths.partK_any ok (jd f t) u (fun q h=>Nat.lt_of_lt_of_le (hok q h) hbu.size) f t _ _ _ _ _ _ (hl.kept (fun q h=>h) hbu.size (fun q h _=>hbu.block q (hok q h))) (Nat.le_refl _) xk x.2 (hi x List.mem_cons_self);rw [e1] at this;exact this
 have p0:=(h3.b.cell (p:=⟨B,o,none⟩) hB).trans e4;have p1:=(h3.b.cell (p:=⟨B,o+1,none⟩) hB).trans e5;obtain⟨a0,a1,a2,a3,a4,a5⟩:=h4.h.a.cells6;have o0:=h3.o.cell 0 _ rfl;have o10:=h4.h.o.cell 0 _ rfl;have c0:=h4.c.cell 0 _ rfl;have c1:=h4.c.cell 1 _ rfl
 have hcase:(kind == 1)=true\/((kind == 1)=false/\(1:Int)<(P.length:Int)+1):=by
  by_cases hk1:kind=1
  ·exact .inl (by simp [hk1])
  ·exact .inr ⟨by simp [hk1],by have:=List.length_pos_iff.2 (hor.resolve_left hk1);omega⟩
 have i1:¬((P.length:Int)+1=0):=by omega
 have i2:((P.length:Int)+1 == 0)=false:=beq_false_of_ne i1;have i3:(((P.length+1:Nat):Int) == 0)=false:=beq_false_of_ne (by omega);have HE1:=ja e1;have H4:=ja h4;have HI:=ja ih;have HL:=ja (And.intro hl (And.intro hy (And.intro hok (And.intro hP (And.intro hn hi)))));unfold Zk qv at hW0;rw [hW1,hW0] at o10;rw [hW0] at o0 p0 p1;rw [hW0] at hW1;have HW1:=ja hW1;clear h3 h4 hW0 hW1 hl hy hP hn hi e1 e4 e5 ih a0 a1 a2 a3 a4 a5 c0 c1
 go_enter Tryd.func42,Tryd.ntmps42
 go_upto_region 4 with fail
 rw [<-HW1.out]
 go_cut [31] from 24 to 30 (fun s31 wx=>s31=.bool true/\W1=wx)
 case first=>
  rw [HW1.out]
  rcases hcase with hb1 | ⟨hb1,hPl⟩
  ·go_wp2_with fail
   go_meet
   exact⟨by first | rfl | simp [hb1],HW1.out⟩
  ·go_wp2_with fail
   go_meet
   exact⟨by first | rfl | simp [hb1,hPl],HW1.out⟩
 case rest=>
 obtain⟨rfl,rfl⟩:=hcut;clear o0 o10 p0 p1 hcase HW1;have a0:=H4.out.h.a.cell 0 _ rfl;have a1:=H4.out.h.a.cell 1 _ rfl;have a2:=H4.out.h.a.cell 2 _ rfl;have a3:=H4.out.h.a.cell 3 _ rfl;have a4:=H4.out.h.a.cell 4 _ rfl;have a5:=H4.out.h.a.cell 5 _ rfl;have c0:=H4.out.c.cell 0 _ rfl;have c1:=H4.out.c.cell 1 _ rfl;simp only [List.getElem_toArray,List.getElem_cons_zero,List.getElem_cons_succ] at a0 a1 a2 a3 a4 a5 c0 c1
 go_upto_region 6 with (go_at_call 35
                        refine(KP.out _ (Below.refl _ _)).mono ?_
                        rintro e w2 ⟨k8,n8,b8,s8,pL8,nL8,cL8,pE8,nE8,cE8,er,rfl,hres,b2⟩
                        have HR:=ja hres.out;have B2:=ja b2;clear hres b2)
 clear KP a0 a1 a2 a3 a4 a5 c0 c1;obtain⟨W3,hW3⟩:∃W3,W3=w2.alloc (.cells #[.int .i64 k8,.int .i64 n8,.int .u64 (b8:Int),.string s8,.slice pL8 nL8 cL8,.slice pE8 nE8 cE8] 26):=⟨_,rfl⟩
 have b3:Below W1.heap.size W1 W3:=by rw [hW3];exact B2.out.alloc B2.out.size _
 have k3:=H4.out.below b3;have dD:Blk W3 w2.heap.size #[.int .i64 k8,.int .i64 n8,.int .u64 (b8:Int),.string s8,.slice pL8 nL8 cL8,.slice pE8 nE8 cE8] 26:=by rw [hW3];exact jb _ _ _
 have hD:w.heap.size+4<=w2.heap.size:=Nat.le_trans H4.out.s B2.out.size;rw [<-hW3];have b03:Below w.heap.size w W3:=k3.h.b;have b23:Below w2.heap.size w2 W3:=by rw [hW3];exact(Below.refl _ _).alloc (Nat.le_refl _) _
 have hWlt:w2.heap.size<W3.heap.size:=by rw [hW3,World.size_alloc];omega
 rcases HR.out with ⟨u,fu,hz,rfl,hlu,hnu⟩ | ⟨hz,hne⟩
 ·have hP3:=HL.out.2.2.2.1.keep b03
  have hr:∃r,r=Xs kind y key.data.toList u P:=⟨_,rfl⟩
  obtain⟨r,hr⟩:=hr
  have hU:Xs kind y key.data.toList t (x :: P)=if r.1≠0 then (r.1,t) else (0,jbY t x r.2):=by
   show(if kind=1\/P≠[] then _ else _:Int×V)=_
   rw [if_pos hor,hz,hr]
  have KI:Hid (∀u',Below W3.heap.size W3 u'->Calls Tryd.prog 42 #[.agg #[.int .i64 k8,.int .i64 n8,.int .u64 (b8:Int),.string s8,.slice pL8 nL8 cL8,.slice pE8 nE8 cE8],.slice (if c=1 then some ⟨B,o,none⟩ else some ⟨B,o+2,none⟩) P.length (c - 1),.agg #[.int .i64 kind,.slice po no co,.int .i64 vk,.int .i64 vn,.int .u64 (vb:Int),.string vs,.slice vpL vnL vcL,.slice vpE vnE vcE,.string key]] u' (jbz ok r u')):=ja fun u' hu'=>by
   rw [hr];have hbu:=b03.trans (hu'.mono b03.size);refine HI.out ok fu u' u k8 n8 b8 s8 pL8 nL8 cL8 pE8 nE8 cE8 _ _ po no co g vk vn vb vs vpL vnL vcL vpE vnE vcE (fun q h=>Nat.lt_of_lt_of_le (hok q h) hbu.size) (hlu.kept (fun q h=>h) (b23.trans (hu'.mono b23.size)).size (fun q h _=>(b23.trans (hu'.mono b23.size)).block q (by have:=hok q h;omega))) (by have:=HL.out.2.2.2.2.1;omega) ?_ (by rw [List.length_cons] at hc;omega) (by unfold maxLen at hm ⊢;omega) (fun z hz=>HL.out.2.2.2.2.2 z (List.mem_cons_of_mem _ hz)) (HL.out.2.1.kept (fun q h=>h) hbu.size (fun q h _=>hbu.block q (hok q h)))
   by_cases hc1:c=1
   ·intro hz
    rw [List.length_cons] at hc;omega
   ·rw [if_neg hc1]
    exact paths.Yh (hP3.keep hu')
  have HJ:Hid (x.2≠-1->∃j:Nat,x.2=(j:Int)/\j<(opn t).2.1.length):=ja fun hx=>by
   have hx1:=HL.out.2.2.2.2.2 x List.mem_cons_self
   rcases qX HL.out.1.isV hz with ⟨h,_⟩ | ⟨_,h⟩
   ·exact absurd h hx
   ·have h2:=(h (by omega)).2
    exact⟨x.2.toNat,by omega,by omega⟩
  have HU:=ja hU;have HD:=ja dD;have K4:=ja k3;have d0:=dD.cell 0 _ rfl;have d1:=dD.cell 1 _ rfl;have d2:=dD.cell 2 _ rfl;have d3:=dD.cell 3 _ rfl;have d4:=dD.cell 4 _ rfl;have d5:=dD.cell 5 _ rfl;have o0:=k3.h.o.cell 0 _ rfl;have o1:=k3.h.o.cell 1 _ rfl;have o2:=k3.h.o.cell 2 _ rfl;have o3:=k3.h.o.cell 3 _ rfl;have o4:=k3.h.o.cell 4 _ rfl;have o5:=k3.h.o.cell 5 _ rfl;have o6:=k3.h.o.cell 6 _ rfl;have o7:=k3.h.o.cell 7 _ rfl;have o8:=k3.h.o.cell 8 _ rfl;simp only [List.getElem_toArray,List.getElem_cons_zero,List.getElem_cons_succ] at d0 d1 d2 d3 d4 d5 o0 o1 o2 o3 o4 o5 o6 o7 o8;have hcl:P.length+1<=c:=by rw [List.length_cons] at hc;exact hc
  have i4:(1:Int)<=(P.length:Int)+1:=by omega
  have i5:1<=P.length+1:=by omega
  have i6:c<=9223372036854775807:=by unfold maxLen at hm;omega
  clear hU hr hz HR hP3 k3 b3 hW3 HI hlu hc
  go_upto_region 8 with fail
  go_cut [10] from 42 to 49 (fun s10 wx=>∃(k9 n9:Int) (b9:Nat) (s9:ByteArray) (pL9:Option Addr) (nL9 cL9:Nat) (pE9:Option Addr) (nE9 cE9:Nat),s10=.int .i64 r.1/\Hid (Deep ok w wx #[.int .i64 k,.int .i64 n,.int .u64 (b:Int),.string s,.slice pL nL cL,.slice pE nE cE] #[.int .i64 kind,.slice po no co,.int .i64 vk,.int .i64 vn,.int .u64 (vb:Int),.string vs,.slice vpL vnL vcL,.slice vpE vnE vcE,.string key] xk x.2 w2.heap.size r.2 k9 n9 b9 s9 pL9 nL9 cL9 pE9 nE9 cE9))
  case first=>
   by_cases hc1:c=1
   ·have hp0:P=[]:=List.eq_nil_of_length_eq_zero (by omega)
    have KI2:Hid (∀u',Below W3.heap.size W3 u'->Calls Tryd.prog 42 #[.agg #[.int .i64 k8,.int .i64 n8,.int .u64 (b8:Int),.string s8,.slice pL8 nL8 cL8,.slice pE8 nE8 cE8],.slice (some ⟨B,o,none⟩) 0 0,.agg #[.int .i64 kind,.slice po no co,.int .i64 vk,.int .i64 vn,.int .u64 (vb:Int),.string vs,.slice vpL vnL vcL,.slice vpE vnE vcE,.string key]] u' (jbz ok r u')):=by
     have h:=KI;rw [if_pos hc1,hc1,hp0] at h;exact h
    subst hc1 hp0;rw [List.length_nil,Nat.zero_add];clear KI hcl i1 i2 i3 i4 i5 i6 hm
    go_region_with (go_at_call 42;refine(KI2.out _ (_root_.Go.below_drewN (Below.refl _ W3) 1)).mono ?_;rintro e w9 ⟨b9',k9,n9,b9,s9,pL9,nL9,cL9,pE9,nE9,cE9,rfl,f9,hl9⟩;have zb:Blk w9 w2.heap.size #[.int .i64 k8,.int .i64 n8,.int .u64 (b8:Int),.string s8,.slice pL8 nL8 cL8,.slice pE8 nE8 cE8] 26:=Blk.below (w:=W3.drew) HD.out b9';obtain⟨z0,z1,z2,z3,z4,z5⟩:=zb.cells6;have g0:=Blk.froz zb 0;have g1:=Blk.froz zb 1;have g2:=Blk.froz zb 2;have g3:=Blk.froz zb 3;have g4:=Blk.froz zb 4;have g5:=Blk.froz zb 5;have HM:=ja (deep_put (W3:=W3) K4.out HD.out hD hWlt hok ((_root_.Go.below_drewN (Below.refl _ W3) 1).trans b9') hl9);clear hl9 b9' zb)
    all_goals
        go_wp2_with fail
        go_meet
        exact⟨_,_,_,_,_,_,_,_,_,_,rfl,HM⟩
   ·have KI2:=KI
    rw [if_neg hc1] at KI2;clear KI
    go_region_with (go_at_call 42;refine(KI2.out _ (_root_.Go.below_drewN (Below.refl _ W3) 1)).mono ?_;rintro e w9 ⟨b9',k9,n9,b9,s9,pL9,nL9,cL9,pE9,nE9,cE9,rfl,f9,hl9⟩;have zb:Blk w9 w2.heap.size #[.int .i64 k8,.int .i64 n8,.int .u64 (b8:Int),.string s8,.slice pL8 nL8 cL8,.slice pE8 nE8 cE8] 26:=Blk.below (w:=W3.drew) HD.out b9';obtain⟨z0,z1,z2,z3,z4,z5⟩:=zb.cells6;have g0:=Blk.froz zb 0;have g1:=Blk.froz zb 1;have g2:=Blk.froz zb 2;have g3:=Blk.froz zb 3;have g4:=Blk.froz zb 4;have g5:=Blk.froz zb 5;have HM:=ja (deep_put (W3:=W3) K4.out HD.out hD hWlt hok ((_root_.Go.below_drewN (Below.refl _ W3) 1).trans b9') hl9);clear hl9 b9' zb)
    all_goals
        go_wp2_with fail
        go_meet
        exact⟨_,_,_,_,_,_,_,_,_,_,rfl,HM⟩
  case rest=>
  obtain⟨k9,n9,b9,s9,pL9,nL9,cL9,pE9,nE9,cE9,rfl,HM⟩:=hcut;clear d0 d1 d2 d3 d4 d5 o0 o1 o2 o3 o4 o5 o6 o7 o8 dD HD K4 KI b03 b23 hnu i1 i2 i3 i4 i5 i6 hcl hm B2;have hu:=HU.out;obtain⟨m4,mD,_,f9,ml⟩:=HM.out;have hl0:=Qi (N:=w2.heap.size+1) HL.out.1 hok m4.h.b
  by_cases hr0:r.1=0
  ·rw [if_neg (by simpa using hr0)] at hu
   have HU2:=ja hu;rw [hr0];have hl2:=LiesV.to (Nat.le_max_left f f9) hl0;have ml2:=LiesV.to (Nat.le_max_right f f9) ml;generalize max f f9=F at hl2 ml2;obtain⟨L,E,rfl,rfl,rfl,⟨q1,q2,q3,q4⟩,rL,rE⟩:=Y0 hl2;have hLE:=Few.len ⟨_,HL.out.1.isV,HL.out.2.2.2.2.1⟩;clear hu HU;have c0:=m4.c.cell 0 _ rfl;have c1:=m4.c.cell 1 _ rfl;have a0:=m4.h.a.cell 0 _ rfl;have a1:=m4.h.a.cell 1 _ rfl;have a2:=m4.h.a.cell 2 _ rfl;have a3:=m4.h.a.cell 3 _ rfl;have a4:=m4.h.a.cell 4 _ rfl;have a5:=m4.h.a.cell 5 _ rfl;have d0:=mD.cell 0 _ rfl;have d1:=mD.cell 1 _ rfl;have d2:=mD.cell 2 _ rfl;have d3:=mD.cell 3 _ rfl;have d4:=mD.cell 4 _ rfl;have d5:=mD.cell 5 _ rfl;simp only [List.getElem_toArray,List.getElem_cons_zero,List.getElem_cons_succ] at a0 a1 a2 a3 a4 a5 c0 c1 d0 d1 d2 d3 d4 d5
   by_cases hx:x.2 = -1
   ·rw [hx] at c1
    have KW:=ja (with_at (At ok (w2.heap.size+1) wc) F wc E pE cE xk r.2 k9 n9 b9 s9 pL9 nL9 cL9 pE9 nE9 cE9 rE q3 q4 (fun q h=>h.2) (by omega) (by unfold maxLen;omega) ml2);have H4c:=ja m4;have HL2:=ja hl2;have zA:=m4.h.a;clear m4 mD ml hl0 hl2 ml2 rL rE HM
    go_upto_region 16 with (go_at_call 61;refine(jc KW).mono ?_;rintro e w5 ⟨⟨p5,c5,rfl,hi1,hi2,hrow⟩,b5⟩;have zA5:=(zA.below b5).froz 5;have zC5:=(zA.below b5).cell 5 _ rfl;have HRW:=ja hrow;have B5:=ja b5;clear hrow b5)
    obtain⟨W6,hW6⟩:∃W6,W6=w5.setCell ⟨w.heap.size,5,none⟩ (.slice p5 (qx xk.data.toList r.2 (jD xk.data.toList E)).length c5):=⟨_,rfl⟩
    rw [<-hW6];have T6:Three w W6 #[.int .i64 k,.int .i64 n,.int .u64 (b:Int),.string s,.slice pL L.length cL,.slice p5 (qx xk.data.toList r.2 (jD xk.data.toList E)).length c5] #[.int .i64 kind,.slice po no co,.int .i64 vk,.int .i64 vn,.int .u64 (vb:Int),.string vs,.slice vpL vnL vcL,.slice vpE vnE vcE,.string key] qv:=by rw [hW6];exact three_set (H4c.out.below B5.out).h 5 _
    have hsz:=H4c.out.s;have hlE:=lies_setE (okA:=At ok (w.heap.size+3) w5) (E':=qx xk.data.toList r.2 (jD xk.data.toList E)) (p':=p5) (c':=c5) ((Jo HL2.out (M:=w.heap.size+3) (by omega) B5.out).up) (HRW.out.kept (fun q h=>⟨by rcases h.1 with h | h;exact h.1.imp id (fun h=>by omega);exact .inr (by omega),h.2⟩) (Nat.le_refl _) (fun _ _ _=>rfl) (fun j us _ ⟨key,z,xs,g1,g2,g3,g4⟩=>⟨key,z,xs,g1,g2,g3,g4.weaken (fun q h=>⟨by rcases h.1 with h | h;exact h.1.imp id (fun h=>by omega);exact .inr (by omega),h.2⟩)⟩)) hi1 hi2
    have hl6:LiesV (At ok (w.heap.size+3) W6) (max F F+1) W6 [.int .i64 k,.int .i64 n,.int .u64 (b:Int),.string s,.slice pL L.length cL,.slice p5 (qx xk.data.toList r.2 (jD xk.data.toList E)).length c5] (jbY (mkV (k,n,b,s.data.toList) L E) x r.2):=by
     rw [hW6];have h:=lies_past1 (B:=w.heap.size) (j:=5) hlE (fun h=>by have:=hok _ h;omega) (by omega) (.slice p5 (qx xk.data.toList r.2 (jD xk.data.toList E)).length c5);unfold jbY;rw [if_pos hx,<-HE1.out];exact h
    clear a0 a1 a2 a3 a4 a5 hW6;have HY:=ja (jk T6.r (.int .i64 k) (.int .i64 n) (.int .u64 (b:Int)) (.string s) (.slice pL L.length cL) (.slice p5 (qx xk.data.toList r.2 (jD xk.data.toList E)).length c5));have HB:=ja (jg T6.b (b:=w.heap.size+2) (by omega) (.int .i64 k) (.int .i64 n) (.int .u64 (b:Int)) (.string s) (.slice pL L.length cL) (.slice p5 (qx xk.data.toList r.2 (jD xk.data.toList E)).length c5));have HV:=ja (JY (B:=w.heap.size+2) hl6 (fun h=>by have:=hok _ h;omega) (by omega) (.int .i64 k) (.int .i64 n) (.int .u64 (b:Int)) (.string s) (.slice pL L.length cL) (.slice p5 (qx xk.data.toList r.2 (jD xk.data.toList E)).length c5));have a0:=T6.a.cell 0 _ rfl;have a1:=T6.a.cell 1 _ rfl;have a2:=T6.a.cell 2 _ rfl;have a3:=T6.a.cell 3 _ rfl;have a4:=T6.a.cell 4 _ rfl;have a5:=T6.a.cell 5 _ rfl;have r0:=T6.r.cell 0 _ rfl
    have r1:=T6.r.cell 1 _ rfl;have r2:=T6.r.cell 2 _ rfl;have r3:=T6.r.cell 3 _ rfl;have r4:=T6.r.cell 4 _ rfl;have r5:=T6.r.cell 5 _ rfl;have f0:=T6.r.froz 0;have f1:=T6.r.froz 1;have f2:=T6.r.froz 2;have f3:=T6.r.froz 3;have f4:=T6.r.froz 4;have f5:=T6.r.froz 5;simp only [List.getElem_toArray,List.getElem_cons_zero,List.getElem_cons_succ] at a0 a1 a2 a3 a4 a5 r0 r1 r2 r3 r4 r5
    go_wp2_with fail
    obtain⟨Y,hYe⟩:∃Y,Y=jp W6 (w.heap.size+2) (.int .i64 k) (.int .i64 n) (.int .u64 (b:Int)) (.string s) (.slice pL L.length cL) (.slice p5 (qx xk.data.toList r.2 (jD xk.data.toList E)).length c5):=⟨_,rfl⟩
    rw [<-hYe] at HY HB HV;simp only [jp] at hYe;rw [<-hYe];clear hYe;refine bodyPost_ret (results_updated _ HY.out) rfl ?_
    rw [HU2.out];exact jbz.mk (r:=(0,jbY (mkV (k,n,b,s.data.toList) L E) x r.2)) HB.out (Jo HV.out (by omega) (Below.refl _ _))
   ·obtain⟨j,hj,hjL⟩:=HJ.out hx
    rw [jQ] at hjL;have hjL:j<L.length:=hjL;rw [hj] at c1;have hjb:((j:Int) == -1)=false:=beq_false_of_ne (by omega);have hjn:¬((j:Int) = -1):=by omega
    have hj0:(0:Int)<=(j:Int):=by omega
    have hjl:(j:Int)<(L.length:Int):=by omega
    obtain⟨v',W5,hrun,hown,b5⟩:=jbD rL cL (fun q h=>h.2) (by omega) 23;have ml5:LiesV (okE (At ok (w2.heap.size+1) wc) wc.heap.size W5 v') F W5 [.int .i64 k9,.int .i64 n9,.int .u64 (b9:Int),.string s9,.slice pL9 nL9 cL9,.slice pE9 nE9 cE9] r.2:=ml2.kept (fun q h=>⟨Nat.lt_of_lt_of_le h.2 b5.size,fun e=>by obtain⟨rows,ho,_⟩:=hown;have:=(ho.lt q e.symm).1;have:=h.2;omega,.inl h⟩) b5.size (fun q h hq=>b5.block q hq);obtain⟨g0,cap,rfl,hg0,hgl,hcp1,hcp2,hcell,hown6⟩:=OwnL.put hown hjL ml5;obtain⟨W6,hW6⟩:∃W6,W6=Jh W5 g0 (j*6) (.int .i64 k9) (.int .i64 n9) (.int .u64 (b9:Int)) (.string s9) (.slice pL9 nL9 cL9) (.slice pE9 nE9 cE9):=⟨_,rfl⟩
    have h46:Four w W6 #[.int .i64 k,.int .i64 n,.int .u64 (b:Int),.string s,.slice pL L.length cL,.slice pE E.length cE] #[.int .i64 kind,.slice po no co,.int .i64 vk,.int .i64 vn,.int .u64 (vb:Int),.string vs,.slice vpL vnL vcL,.slice vpE vnE vcE,.string key] xk x.2:=by rw [hW6];exact four_put6o (m4.below b5) (Nat.le_trans m4.s hg0) _ _ _ _ _ _ _
    have ht6:=zp W5 g0 (j*6) (.int .i64 k9) (.int .i64 n9) (.int .u64 (b9:Int)) (.string s9) (.slice pL9 nL9 cL9) (.slice pE9 nE9 cE9);rw [<-hW6] at ht6 hown6;have hl6:LiesV (At ok (w.heap.size+3) W6) F W6 [.int .i64 k,.int .i64 n,.int .u64 (b:Int),.string s,.slice pL L.length cL,.slice pE E.length cE] (mkV (k,n,b,s.data.toList) L E):=hl2.kept (fun q h=>⟨h.1.imp id (fun h=>by omega),Nat.lt_of_lt_of_le h.2 (Nat.le_trans b5.size ht6.size)⟩) (Nat.le_trans b5.size ht6.size) (fun q h hq=>(ht6.block q (Nat.lt_of_lt_of_le hq b5.size) (by omega)).trans (b5.block q hq));obtain⟨p6,c6,hv6,hr1,hr2,hrow⟩:=hown6.row3;rw [List.length_set] at hv6;injection hv6 with hv61 hv62 hv63;subst hv61 hv63
    have hlL:=lies_setL (okA:=At ok (w.heap.size+3) W6) (L':=L.set j r.2) hl6.up (hrow.kept (fun q h=>⟨by rcases h.1 with h | h;exact h.1.imp id (fun h=>by omega);exact .inr (by have:=m4.s;omega),h.2⟩) (Nat.le_refl _) (fun _ _ _=>rfl) (fun j us _ ⟨z,g1,g2⟩=>⟨z,g1,g2.weaken (fun q h=>⟨by rcases h.1 with h | h;exact h.1.imp id (fun h=>by omega);exact .inr (by have:=m4.s;omega),h.2⟩)⟩)) hr1 hr2;rw [List.length_set] at hlL;have H46:=ja h46;have HLL:=ja hlL;have e0:=(m4.below b5).c.cell 1 _ rfl;rw [hj] at e0;obtain⟨d0',d1',d2',d3',d4',d5'⟩:=(mD.below b5).cells6;have zA4:=h46.h.a.froz 4;have yA4:=h46.h.a.cell 4 _ rfl;have hC:=ja hcell;have HW6:=ja hW6;have HJ2:=ja hj;simp only [List.getElem_toArray,List.getElem_cons_zero,List.getElem_cons_succ] at e0 yA4;clear hv62 hown hown6 ml5 hl6 hlL hrow h46 hcell hW6 m4 mD ml hl0 hl2 ml2 rL rE HM HL H4 hjL hj ht6
    obtain⟨⟨v0,t0⟩,s0⟩:=hC.out 0 (by omega);obtain⟨⟨v1,t1⟩,s1⟩:=hC.out 1 (by omega);obtain⟨⟨v2,t2⟩,s2⟩:=hC.out 2 (by omega);obtain⟨⟨v3,t3⟩,s3⟩:=hC.out 3 (by omega);obtain⟨⟨v4,t4⟩,s4⟩:=hC.out 4 (by omega);obtain⟨⟨v5,t5⟩,s5⟩:=hC.out 5 (by omega);rw [Nat.add_zero] at t0 s0
    go_upto_region 15 with (at_builtin;refine Lib.wpList_append_run _ rfl _ _ _ _ rfl _ _ rfl rfl _ _ hrun ?_)
    have hW:=HW6.out;simp only [Jh] at hW;rw [<-hW];clear hW t0 t1 t2 t3 t4 t5 s0 s1 s2 s3 s4 s5 d0 d1 d2 d3 d4 d5 d0' d1' d2' d3' d4' d5' c0 c1 e0 a0 a1 a2 a3 a4 a5
    go_upto_region 16 with fail
    obtain⟨W7,hW7⟩:∃W7,W7=W6.setCell ⟨w.heap.size,4,none⟩ (.slice (some ⟨g0,0,none⟩) L.length cap):=⟨_,rfl⟩
    rw [<-hW7];have T6:Three w W7 #[.int .i64 k,.int .i64 n,.int .u64 (b:Int),.string s,.slice (some ⟨g0,0,none⟩) L.length cap,.slice pE E.length cE] #[.int .i64 kind,.slice po no co,.int .i64 vk,.int .i64 vn,.int .u64 (vb:Int),.string vs,.slice vpL vnL vcL,.slice vpE vnE vcE,.string key] qv:=by rw [hW7];exact three_set H46.out.h 4 _
    have hl7:LiesV (At ok (w.heap.size+3) W7) (max F F+1) W7 [.int .i64 k,.int .i64 n,.int .u64 (b:Int),.string s,.slice (some ⟨g0,0,none⟩) L.length cap,.slice pE E.length cE] (jbY (mkV (k,n,b,s.data.toList) L E) x r.2):=by
     rw [hW7];have h:=lies_past1 (B:=w.heap.size) (j:=4) HLL.out (fun h=>by have:=hok _ h;omega) (by omega) (.slice (some ⟨g0,0,none⟩) L.length cap);unfold jbY;rw [if_neg hx,HJ2.out,Int.toNat_natCast];exact h
    clear yA4 zA4 hW7;have HY:=ja (jk T6.r (.int .i64 k) (.int .i64 n) (.int .u64 (b:Int)) (.string s) (.slice (some ⟨g0,0,none⟩) L.length cap) (.slice pE E.length cE));have HB:=ja (jg T6.b (b:=w.heap.size+2) (by omega) (.int .i64 k) (.int .i64 n) (.int .u64 (b:Int)) (.string s) (.slice (some ⟨g0,0,none⟩) L.length cap) (.slice pE E.length cE));have HV:=ja (JY (B:=w.heap.size+2) hl7 (fun h=>by have:=hok _ h;omega) (by omega) (.int .i64 k) (.int .i64 n) (.int .u64 (b:Int)) (.string s) (.slice (some ⟨g0,0,none⟩) L.length cap) (.slice pE E.length cE));have a0:=T6.a.cell 0 _ rfl;have a1:=T6.a.cell 1 _ rfl;have a2:=T6.a.cell 2 _ rfl;have a3:=T6.a.cell 3 _ rfl;have a4:=T6.a.cell 4 _ rfl;have a5:=T6.a.cell 5 _ rfl;have r0:=T6.r.cell 0 _ rfl;have r1:=T6.r.cell 1 _ rfl;have r2:=T6.r.cell 2 _ rfl;have r3:=T6.r.cell 3 _ rfl;have r4:=T6.r.cell 4 _ rfl
    have r5:=T6.r.cell 5 _ rfl;have f0:=T6.r.froz 0;have f1:=T6.r.froz 1;have f2:=T6.r.froz 2;have f3:=T6.r.froz 3;have f4:=T6.r.froz 4;have f5:=T6.r.froz 5;simp only [List.getElem_toArray,List.getElem_cons_zero,List.getElem_cons_succ] at a0 a1 a2 a3 a4 a5 r0 r1 r2 r3 r4 r5
    go_wp2_with fail
    obtain⟨Y,hYe⟩:∃Y,Y=jp W7 (w.heap.size+2) (.int .i64 k) (.int .i64 n) (.int .u64 (b:Int)) (.string s) (.slice (some ⟨g0,0,none⟩) L.length cap) (.slice pE E.length cE):=⟨_,rfl⟩
    rw [<-hYe] at HY HB HV;simp only [jp] at hYe;rw [<-hYe];clear hYe;refine bodyPost_ret (results_updated _ HY.out) rfl ?_
    rw [HU2.out];exact jbz.mk (r:=(0,jbY (mkV (k,n,b,s.data.toList) L E) x r.2)) HB.out (Jo HV.out (by omega) (Below.refl _ _))
  ·rw [if_pos hr0] at hu
   have HU2:=ja hu;have hneb:(r.1 != 0)=true:=bne_iff_ne.2 hr0;have T6:=m4.h;have hl6:=Jo (M:=w.heap.size+3) hl0 (by omega) (Below.refl _ _);clear hu HU m4 mD ml hl0 HM HL H4 HJ;have HY:=ja (jk T6.r (.int .i64 k) (.int .i64 n) (.int .u64 (b:Int)) (.string s) (.slice pL nL cL) (.slice pE nE cE));have HB:=ja (jg T6.b (b:=w.heap.size+2) (by omega) (.int .i64 k) (.int .i64 n) (.int .u64 (b:Int)) (.string s) (.slice pL nL cL) (.slice pE nE cE));have HV:=ja (JY (B:=w.heap.size+2) hl6 (fun h=>by have:=hok _ h;omega) (by omega) (.int .i64 k) (.int .i64 n) (.int .u64 (b:Int)) (.string s) (.slice pL nL cL) (.slice pE nE cE));have a0:=T6.a.cell 0 _ rfl;have a1:=T6.a.cell 1 _ rfl;have a2:=T6.a.cell 2 _ rfl;have a3:=T6.a.cell 3 _ rfl;have a4:=T6.a.cell 4 _ rfl;have a5:=T6.a.cell 5 _ rfl;have r0:=T6.r.cell 0 _ rfl;have r1:=T6.r.cell 1 _ rfl
   have r2:=T6.r.cell 2 _ rfl;have r3:=T6.r.cell 3 _ rfl;have r4:=T6.r.cell 4 _ rfl;have r5:=T6.r.cell 5 _ rfl;have f0:=T6.r.froz 0;have f1:=T6.r.froz 1;have f2:=T6.r.froz 2;have f3:=T6.r.froz 3;have f4:=T6.r.froz 4;have f5:=T6.r.froz 5;simp only [List.getElem_toArray,List.getElem_cons_zero,List.getElem_cons_succ] at a0 a1 a2 a3 a4 a5 r0 r1 r2 r3 r4 r5
   go_wp2_with fail
   obtain⟨Y,hYe⟩:∃Y,Y=jp wc (w.heap.size+2) (.int .i64 k) (.int .i64 n) (.int .u64 (b:Int)) (.string s) (.slice pL nL cL) (.slice pE nE cE):=⟨_,rfl⟩
   rw [<-hYe] at HY HB HV;simp only [jp] at hYe;rw [<-hYe];clear hYe;refine bodyPost_ret (results_updated _ HY.out) rfl ?_
   rw [HU2.out];exact jbz.mk (r:=(r.1,t)) HB.out (Jo HV.out (by omega) (Below.refl _ _))
 ·have hU:Xs kind y key.data.toList t (x :: P)=(er,t):=by
   show(if kind=1\/P≠[] then _ else _:Int×V)=_
   rw [if_pos hor,hz]
  have HU:=ja hU;have hneb:(er != 0)=true:=bne_iff_ne.2 hne;have a0:=k3.h.a.cell 0 _ rfl;have a1:=k3.h.a.cell 1 _ rfl;have a2:=k3.h.a.cell 2 _ rfl;have a3:=k3.h.a.cell 3 _ rfl;have a4:=k3.h.a.cell 4 _ rfl;have a5:=k3.h.a.cell 5 _ rfl;have r0:=k3.h.r.cell 0 _ rfl;have r1:=k3.h.r.cell 1 _ rfl;have r2:=k3.h.r.cell 2 _ rfl;have r3:=k3.h.r.cell 3 _ rfl;have r4:=k3.h.r.cell 4 _ rfl;have r5:=k3.h.r.cell 5 _ rfl;have f0:=k3.h.r.froz 0;have f1:=k3.h.r.froz 1;have f2:=k3.h.r.froz 2;have f3:=k3.h.r.froz 3;have f4:=k3.h.r.froz 4;have f5:=k3.h.r.froz 5;simp only [List.getElem_toArray,List.getElem_cons_zero,List.getElem_cons_succ] at a0 a1 a2 a3 a4 a5 r0 r1 r2 r3 r4 r5;have HY:=ja (jk k3.h.r (.int .i64 k) (.int .i64 n) (.int .u64 (b:Int)) (.string s) (.slice pL nL cL) (.slice pE nE cE))
  have HB:=ja (jg k3.h.b (b:=w.heap.size+2) (by omega) (.int .i64 k) (.int .i64 n) (.int .u64 (b:Int)) (.string s) (.slice pL nL cL) (.slice pE nE cE));have HV:=ja (JY (B:=w.heap.size+2) (Qi (N:=W3.heap.size) HL.out.1 hok k3.h.b) (fun h=>by have:=hok _ h;omega) (by omega) (.int .i64 k) (.int .i64 n) (.int .u64 (b:Int)) (.string s) (.slice pL nL cL) (.slice pE nE cE));clear hU hz HR k3 dD b03 hW3 HI hne
  go_wp2_with fail
  obtain⟨Y,hYe⟩:∃Y,Y=jp W3 (w.heap.size+2) (.int .i64 k) (.int .i64 n) (.int .u64 (b:Int)) (.string s) (.slice pL nL cL) (.slice pE nE cE):=⟨_,rfl⟩
  rw [<-hYe] at HY HB HV;simp only [jp] at hYe;rw [<-hYe];clear hYe;refine bodyPost_ret (results_updated _ HY.out) rfl ?_
  rw [HU.out];exact jbz.mk (r:=(er,t)) HB.out (Jo HV.out (by omega) (Below.refl _ _))
end upds
end Go.Proofs.YtadaehaemmelfaaDoor
