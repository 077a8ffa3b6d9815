/- Of our texts, what this claim reaches. -/
import Derived.Test.YtadaehaemmelfaaDoorPubAT
import Derived.Test.YtadaehaemmelfaaDoorPubAX
import Derived.Test.YtadaehaemmelfaaDoorPubAV
import Derived.Test.YtadaehaemmelfaaDoorPubAS
set_option linter.unusedVariables false
set_option maxHeartbeats 16000000
set_option maxRecDepth 100000
namespace Go.Proofs.YtadaehaemmelfaaDoor
namespace upds
open Go.RowKit Go.Shelf
open valus
open paths (St)
theorem Here.apart {n0 B o f:Nat}{W:World}{S:Nat->Prop}{t:V}(h:Here n0 W B o S f t):∃(k n:Int) (b:Nat) (s:ByteArray) (L E:List V) (pL pE:Option Addr) (cL cE:Nat) (SL SE:Nat->Prop) (cur:Array Value) (ty f':Nat),f=f'+1/\t=mkV (k,n,b,s.data.toList) L E/\W.heap[B]?=some (.cells cur ty (0,0))/\(∀i,i<6->cur[o+i]?=[Value.int .i64 k,.int .i64 n,.int .u64 (b:Int),.string s,.slice pL L.length cL,.slice pE E.length cE][i]?)/\
  ((-9223372036854775808<=k/\k<=9223372036854775807)/\(-9223372036854775808<=n/\n<=9223372036854775807)/\b<18446744073709551616/\s.size<=maxLen)/\(L.length<=cL/\cL<=maxLen/\E.length<=cE/\cE<=maxLen)/\
  RowD 6 26 W (.slice pL L.length cL) L.length SL (QL f' W L)/\RowD 7 57 W (.slice pE E.length cE) E.length SE (QE f' W E)/\(∀b,SL b->¬SE b)/\(∀b,SL b\/SE b->S b)/\n0<=B/\¬S B/\∀b,S b->n0<=b/\b<W.heap.size:=by
 obtain⟨us,cur,ty,g1,g2,g3,hl,g5,g6,g7⟩:=h;cases f with
 | zero=>exact hl.elim
 | succ f=>
  obtain⟨k,n,b,s,L,E,vL,vE,SL,SE,rfl,rfl,h3,h4,h5,h6,h7⟩:=hl;obtain⟨pL,cL,rfl,a1,a2⟩:=h4.slice;obtain⟨pE,cE,rfl,b1,b2⟩:=h5.slice;exact⟨k,n,b,s,L,E,pL,pE,cL,cE,SL,SE,cur,ty,f,rfl,rfl,g1,g3,h3,⟨a1,a2,b1,b2⟩,h4,h5,h6,h7,g5,g6,g7⟩
theorem ji {W:World}{B i:Nat}{cur:Array Value}{ty:Nat}{v:Value}(h:W.heap[B]?=some (.cells cur ty (0,0)))(hi:cur[i]?=some v):W.cell? ⟨B,i,none⟩=some v:=by
 simp only [World.cell?,h];exact hi
theorem js {W:World}{B i:Nat}{cur:Array Value}{ty:Nat}(h:W.heap[B]?=some (.cells cur ty (0,0))):W.frozen? ⟨B,i,none⟩=false:=by
 simp [World.frozen?,h]
theorem jaV {B o f' f2:Nat}{W W':World}{S SL' SE:Nat->Prop}{k n:Int}{b:Nat}{s:ByteArray}{L' E:List V}{v4 vL' vE:Value}{cur:Array Value}{ty:Nat}(hB:W.heap[B]?=some (.cells cur ty (0,0)))(hc:∀i,i<6->cur[o+i]?=[Value.int .i64 k,.int .i64 n,.int .u64 (b:Int),.string s,v4,vE][i]?)(hB':W'.heap[B]?=some (.cells (cur.setIfInBounds (o+4) vL') ty (0,0)))
  (h3:(-9223372036854775808<=k/\k<=9223372036854775807)/\(-9223372036854775808<=n/\n<=9223372036854775807)/\b<18446744073709551616/\s.size<=maxLen) (hL:RowD 6 26 W' vL' L'.length SL' (QL f2 W' L')) (hE:RowD 7 57 W vE E.length SE (QE f' W E)) (hbE:∀b,SE b->b<W.heap.size->W'.heap[b]?=W.heap[b]?) (hd:∀b,SL' b->¬SE b) (hi:∀b,SL' b->(S b\/W.heap.size<=b)/\b<W'.heap.size) (hE2:∀b,SE b->S b) (hS:∀b,S b->b<W.heap.size) (hs:W.heap.size<=W'.heap.size):XC W W' B o S (mkV (k,n,b,s.data.toList) L' E):=by
 have hlt:o+4<cur.size:=by
  have:=hc 4 (by omega);exact(Array.getElem?_eq_some_iff.1 this).1
 refine⟨max f' f2+1,fun b=>SL' b\/SE b,[Value.int .i64 k,.int .i64 n,.int .u64 (b:Int),.string s,vL',vE],rfl,⟨cur,_,ty,hB,hB',by simp,fun i hi=>?_,fun i hi=>?_⟩,?_,fun b hb=>?_⟩
 ·rw [Array.getElem?_setIfInBounds]
  by_cases h4:i=4
  ·subst h4
   rw [if_pos rfl,if_pos hlt];rfl
  ·rw [if_neg (by omega)]
   have hi6:i<6:=hi;have:=hc i hi6;rw [this];have hi7:i=0\/i=1\/i=2\/i=3\/i=5:=by omega
   rcases hi7 with rfl | rfl | rfl | rfl | rfl<;>rfl
 ·rw [Array.getElem?_setIfInBounds,if_neg (by simp only [List.length_cons,List.length_nil] at hi;omega)]
 ·refine⟨k,n,b,s,L',E,vL',vE,SL',SE,rfl,rfl,h3,hL.kept (fun _ h=>h) (fun _ _ _=>rfl) ?_,hE.kept (fun _ h=>h) hbE ?_,hd,fun _ h=>h⟩
  ·rintro i T us _ hT ⟨y,a,c⟩
   exact⟨y,a,c.to (Nat.le_max_right _ _)⟩
  ·rintro i T us _ hT ⟨key,y,xs,a,c,e,g⟩
   exact⟨key,y,xs,a,c,e,(g.same fun b h=>hbE b (hT b h)).to (Nat.le_max_left _ _)⟩
 ·rcases hb with hb | hb
  ·exact hi b hb
  ·exact⟨.inl (hE2 b hb),Nat.lt_of_lt_of_le (hS b (hE2 b hb)) hs⟩
theorem XQ {B o f' f2:Nat}{W W':World}{S SL SE':Nat->Prop}{k n:Int}{b:Nat}{s:ByteArray}{L E':List V}{v5 vL vE':Value}{cur:Array Value}{ty:Nat}(hB:W.heap[B]?=some (.cells cur ty (0,0)))(hc:∀i,i<6->cur[o+i]?=[Value.int .i64 k,.int .i64 n,.int .u64 (b:Int),.string s,vL,v5][i]?)(hB':W'.heap[B]?=some (.cells (cur.setIfInBounds (o+5) vE') ty (0,0)))
  (h3:(-9223372036854775808<=k/\k<=9223372036854775807)/\(-9223372036854775808<=n/\n<=9223372036854775807)/\b<18446744073709551616/\s.size<=maxLen) (hL:RowD 6 26 W vL L.length SL (QL f' W L)) (hE:RowD 7 57 W' vE' E'.length SE' (QE f2 W' E')) (hbL:∀b,SL b->b<W.heap.size->W'.heap[b]?=W.heap[b]?) (hd:∀b,SL b->¬SE' b) (hi:∀b,SE' b->(S b\/W.heap.size<=b)/\b<W'.heap.size) (hL2:∀b,SL b->S b) (hS:∀b,S b->b<W.heap.size) (hs:W.heap.size<=W'.heap.size):XC W W' B o S (mkV (k,n,b,s.data.toList) L E'):=by
 have hlt:o+5<cur.size:=by
  have:=hc 5 (by omega);exact(Array.getElem?_eq_some_iff.1 this).1
 refine⟨max f' f2+1,fun b=>SL b\/SE' b,[Value.int .i64 k,.int .i64 n,.int .u64 (b:Int),.string s,vL,vE'],rfl,⟨cur,_,ty,hB,hB',by simp,fun i hi=>?_,fun i hi=>?_⟩,?_,fun b hb=>?_⟩
 ·rw [Array.getElem?_setIfInBounds]
  by_cases h4:i=5
  ·subst h4
   rw [if_pos rfl,if_pos hlt];rfl
  ·rw [if_neg (by omega)]
   have hi6:i<6:=hi;have:=hc i hi6;rw [this];have hi7:i=0\/i=1\/i=2\/i=3\/i=4:=by omega
   rcases hi7 with rfl | rfl | rfl | rfl | rfl<;>rfl
 ·rw [Array.getElem?_setIfInBounds,if_neg (by simp only [List.length_cons,List.length_nil] at hi;omega)]
 ·refine⟨k,n,b,s,L,E',vL,vE',SL,SE',rfl,rfl,h3,hL.kept (fun _ h=>h) hbL ?_,hE.kept (fun _ h=>h) (fun _ _ _=>rfl) ?_,hd,fun _ h=>h⟩
  ·rintro i T us _ hT ⟨y,a,c⟩
   exact⟨y,a,(c.same fun b h=>hbL b (hT b h)).to (Nat.le_max_left _ _)⟩
  ·rintro i T us _ hT ⟨key,y,xs,a,c,e,g⟩
   exact⟨key,y,xs,a,c,e,g.to (Nat.le_max_right _ _)⟩
 ·rcases hb with hb | hb
  ·exact⟨.inl (hL2 b hb),Nat.lt_of_lt_of_le (hS b (hL2 b hb)) hs⟩
  ·exact hi b hb
def Jh (W:World)(B o:Nat)(u0 u1 u2 u3 u4 u5:Value):World:=(((((W.setCell ⟨B,o,none⟩ u0).setCell ⟨B,o+1,none⟩ u1).setCell ⟨B,o+2,none⟩ u2).setCell ⟨B,o+3,none⟩ u3).setCell ⟨B,o+4,none⟩ u4).setCell ⟨B,o+5,none⟩ u5
theorem Z7 {W:World}{B o:Nat}{cur:Array Value}{ty:Nat}(h:W.heap[B]?=some (.cells cur ty (0,0)))(u0 u1 u2 u3 u4 u5:Value):(Jh W B o u0 u1 u2 u3 u4 u5).heap[B]?=some (.cells ((((((cur.setIfInBounds o u0).setIfInBounds (o+1) u1).setIfInBounds (o+2) u2).setIfInBounds (o+3) u3).setIfInBounds (o+4) u4).setIfInBounds (o+5) u5) ty (0,0)) :=
 jL (jL (jL (jL (jL (jL h _) _) _) _) _) _
theorem zp (W:World)(B o:Nat)(u0 u1 u2 u3 u4 u5:Value):Turns (fun b=>b=B) W (Jh W B o u0 u1 u2 u3 u4 u5):=by
 have h:=fun(X:World) (i:Nat) (v:Value)=>Turns.setCell (M:=fun b=>b=B) X ⟨B,i,none⟩ v rfl
 exact(((((h W o u0).trans (h _ (o+1) u1) (fun _ _ h=>h)).trans (h _ (o+2) u2) (fun _ _ h=>h)).trans (h _ (o+3) u3) (fun _ _ h=>h)).trans (h _ (o+4) u4) (fun _ _ h=>h)).trans (h _ (o+5) u5) (fun _ _ h=>h)
theorem jaS {B o f:Nat}{W w1:World}{S S':Nat->Prop}{t':V}{x0 x1 x2 x3 x4 x5:Value}{cur:Array Value}{ty:Nat}(hB:W.heap[B]?=some (.cells cur ty (0,0)))(ho:o+5<cur.size)(hb:Below W.heap.size W w1)(hl:LiesD f S' w1 [x0,x1,x2,x3,x4,x5] t')(hS':∀b,S' b->W.heap.size<=b/\b<w1.heap.size):XC W (Jh w1 B o x0 x1 x2 x3 x4 x5) B o S t':=by
 have hlt:=(Array.getElem?_eq_some_iff.1 hB).1;have h1:w1.heap[B]?=some (.cells cur ty (0,0)):=(hb.block B hlt).trans hB
 have ht:=zp w1 B o x0 x1 x2 x3 x4 x5;refine⟨f,S',[x0,x1,x2,x3,x4,x5],rfl,⟨cur,_,ty,hB,Z7 h1 _ _ _ _ _ _,by simp,fun i hi=>?_,fun i hi=>?_⟩,hl.same fun b hb' hltb=>ht.block b hltb (fun e=>?_),fun b hb'=>⟨.inr (hS' b hb').1,Nat.lt_of_lt_of_le (hS' b hb').2 ht.size⟩⟩
 ·have hi6:i<6:=hi
  simp only [Array.getElem?_setIfInBounds,Array.size_setIfInBounds]
  match i,hi6 with
  | 0,_=>simp;omega
  | 1,_=>simp;omega
  | 2,_=>simp;omega
  | 3,_=>simp;omega
  | 4,_=>simp;omega
  | 5,_=>simp;omega
 ·simp only [List.length_cons,List.length_nil] at hi
  simp only [Array.getElem?_setIfInBounds,Array.size_setIfInBounds];rw [if_neg (by omega),if_neg (by omega),if_neg (by omega),if_neg (by omega),if_neg (by omega),if_neg (by omega)]
 ·subst e
  have:=(hS' b hb').1;omega
def ByP (W:World)(B o:Nat)(S:Nat->Prop)(r:Int×V)(e:Ending)(W':World):Prop:=e=.returned (.int .i64 r.1)/\Turns (fun b=>b=B\/S b) W W'/\(r.1=0->XC W W' B o S r.2)
end upds
set_option linter.unusedSimpArgs false
namespace upds
open Go.RowKit Go.Shelf
open valus
open paths (St)
theorem jT {W w1 w2:World}{M:Nat->Prop}(hb:Below W.heap.size W w1)(ht:Turns M w1 w2):Turns M W w2 :=
 ((Turns.of_below (M:=fun b=>M b\/W.heap.size<=b) hb (fun b h=>.inr h)).trans ht (fun b _ h=>.inl h)).mono (fun b hlt h=>h.elim id (fun h=>by omega))
theorem Ya {n0 B o f:Nat}{W:World}{S:Nat->Prop}{t:V}(h:Here n0 W B o S f t)(Bv g:Nat)(y:V)(a0 a1 a2 a3 a4 a5:Value)(hv:Blk W Bv #[a0,a1,a2,a3,a4,a5] 26)(hl:LiesV (fun b=>b<W.heap.size) g W [a0,a1,a2,a3,a4,a5] y)(hn:jd g y<=10000000) :
  Calls Tryd.prog 93 #[.pointer (some ⟨B,o,none⟩),.pointer (some ⟨Bv,0,none⟩)] W (ByP W B o S (0,y)):=by
 obtain⟨k,n,b,s,L,E,pL,pE,cL,cE,SL,SE,cur,ty,f',rfl,rfl,hB,hc,h3,h4,hL,hE,hd,hi,g5,g6,g7⟩:=Here.apart h
 have ho:o+5<cur.size:=by
  have:=hc 5 (by omega);exact(Array.getElem?_eq_some_iff.1 this).1
 have hlt:=(Array.getElem?_eq_some_iff.1 hB).1;have c0:=hv.cell 0 _ rfl;have c1:=hv.cell 1 _ rfl;have c2:=hv.cell 2 _ rfl;have c3:=hv.cell 3 _ rfl;have c4:=hv.cell 4 _ rfl;have c5:=hv.cell 5 _ rfl;have C:=callsIn_wide.1 (zk (fun b=>b<W.heap.size) g W y a0 a1 a2 a3 a4 a5 (fun b h=>h) hl hn);have KC:Hid (Calls Tryd.prog 29 #[.agg #[a0,a1,a2,a3,a4,a5]] W fun e w'=>∃x0 x1 x2 x3 x4 x5,e=.returned (.agg #[x0,x1,x2,x3,x4,x5])/\LiesD g (fun b=>W.heap.size<=b/\b<w'.heap.size) w' [x0,x1,x2,x3,x4,x5] y/\Below W.heap.size W w'):=ja (C.mono fun e w' ⟨⟨x0,x1,x2,x3,x4,x5,he,hx⟩,hb⟩=>⟨x0,x1,x2,x3,x4,x5,he,hx,hb⟩);have HC:=ja hc;clear C hc hL hE hd hi g7 g6 g5 h4 h3 h hv hl
 go_enter Tryd.func93,Tryd.ntmps93
 go_wp2_with (go_at_call 29;refine(jc KC).mono ?_;rintro e w1 ⟨x0,x1,x2,x3,x4,x5,rfl,hx,hb⟩;obtain⟨vk,vn,vb,vs,vpL,vnL,vcL,vpE,vnE,vcE,rfl,rfl,rfl,rfl,rfl,rfl⟩:=hx.lies.form;have e1:w1.heap[B]?=some (.cells cur ty (0,0)):=(hb.block B hlt).trans hB;have d0:=ji e1 (Array.getElem?_eq_getElem (show o<cur.size by omega));have d1:=ji e1 (Array.getElem?_eq_getElem (show o+1<cur.size by omega));have d2:=ji e1 (Array.getElem?_eq_getElem (show o+2<cur.size by omega));have d3:=ji e1 (Array.getElem?_eq_getElem (show o+3<cur.size by omega));have d4:=ji e1 (Array.getElem?_eq_getElem (show o+4<cur.size by omega));have d5:=ji e1 (Array.getElem?_eq_getElem (show o+5<cur.size by omega));have z0:=js (i:=o) e1;have z1:=js (i:=o+1) e1;have z2:=js (i:=o+2) e1;have z3:=js (i:=o+3) e1;have z4:=js (i:=o+4) e1;have z5:=js (i:=o+5) e1;have HX:=ja hx;clear hx)
 go_ret;have ht:=zp w1 B o (.int .i64 vk) (.int .i64 vn) (.int .u64 (vb:Int)) (.string vs) (.slice vpL vnL vcL) (.slice vpE vnE vcE);exact⟨rfl,jT hb (ht.mono fun b _ h=>.inl h),fun _=>jaS hB ho hb HX.out (fun b h=>h)⟩
def Q7 (key:List UInt8)(y:V)(t:V):Int×V:=if (opn t).1.1≠6 then (10,t) else if 0<=idx (fun x=>decide (x=key)) 0 (opn t).2.2 then (9,t) else (0,mkV (opn t).1 (opn t).2.1 (qx key y (jD key (opn t).2.2)))
def Q8 (i:Int)(y:V)(t:V):Int×V:=if (opn t).1.1≠5 then (10,t) else if ((opn t).2.1.length:Int)<i then (8,t) else (0,mkV (opn t).1 ((opn t).2.1.take i.toNat++y :: (opn t).2.1.drop i.toNat) (opn t).2.2)
theorem qO {f:Nat}{W:World}{E:List V}{p:Option Addr}{c:Nat}{S:Nat->Prop}(h:RowD 7 57 W (.slice p E.length c) E.length S (QE f W E)):JO (fun b=>b<W.heap.size) f W p E:=by
 refine RowIn.kept (h.rowIn (Q':=fun j us=>∃(key:ByteArray) (y:V) (xs:List Value),E[j]?=some (ent key.data.toList y)/\us=.string key :: xs/\key.size<=maxLen/\LiesV (fun b=>b<W.heap.size) f W xs y) ?_) (fun b h=>h.2) (Nat.le_refl _) (fun _ _ _=>rfl) (fun _ _ _ h=>h)
 rintro i T us _ hT ⟨key,y,xs,a,c,e,g⟩
 exact⟨key,y,xs,a,c,e,g.lies.weaken fun b h=>h.2⟩
def Few (N:Nat)(t:V):Prop:=∃f,IsV f t/\jd f t<=N
theorem Few.at {N f:Nat}{t:V}(h:Few N t)(hf:IsV f t):jd f t<=N:=by
 obtain⟨g,h1,h2⟩:=h;have e1:=jS h1 (Nat.le_max_left g f);have e2:=jS hf (Nat.le_max_right g f);omega
theorem Few.part {N:Nat}{t y:V}(h:Few N t)(hy:y∈parts t):Few N y:=by
 obtain⟨f,h1,h2⟩:=h;cases f with
 | zero=>exact h1.elim
 | succ f=>
  have h3:jd (f+1) t=jo (jd f) (parts t)+1:=rfl;have:=zI (q:=jd f) hy;exact⟨f,h1.part hy,by omega⟩
theorem Few.len {N:Nat}{x:Lab}{L E:List V}(h:Few N (mkV x L E)):L.length+E.length<=N:=by
 obtain⟨f,h1,h2⟩:=h;have h3:=qt h1;rw [jB] at h3
 have hp:∀y,y∈L++E.map (fun e=>(jE e).2)->1<=jd f y:=fun y hy=>by
  cases f with
  | zero=>exact h1.elim
  | succ f=>exact qY (h1.part (by rw [jB];exact hy)).more
 have:=ZE hp;rw [List.length_append,List.length_map] at this;omega
theorem XF {n0 B o f:Nat}{W:World}{S:Nat->Prop}{t:V}(h:Here n0 W B o S f t)(hnt:Few 1000000 t)(key:ByteArray)(hk:key.size<=maxLen)(g:Nat)(y:V)(ak an:Int)(ab:Nat)(az:ByteArray)(apL:Option Addr)(anL acL:Nat)(apE:Option Addr)(anE acE:Nat)(hl:LiesV (fun b=>b<W.heap.size) g W [.int .i64 ak,.int .i64 an,.int .u64 (ab:Int),.string az,.slice apL anL acL,.slice apE anE acE] y)(hn:Few 1000000 y) :
  Calls Tryd.prog 95 #[.pointer (some ⟨B,o,none⟩),.string key,.agg #[.int .i64 ak,.int .i64 an,.int .u64 (ab:Int),.string az,.slice apL anL acL,.slice apE anE acE]] W (ByP W B o S (Q7 key.data.toList y t)):=by
 obtain⟨k,n,b,s,L,E,pL,pE,cL,cE,SL,SE,cur,ty,f',rfl,rfl,hB,hc,h3,h4,hL,hE,hd,hi,g5,g6,g7⟩:=Here.apart h;have hlt:=(Array.getElem?_eq_some_iff.1 hB).1;have c0:=ji hB (hc 0 (by omega));have c5:=ji hB (hc 5 (by omega));simp only [Nat.add_zero,List.getElem?_cons_zero,List.getElem?_cons_succ] at c0 c5;obtain⟨WA,hWA⟩:∃WA,WA=W.alloc (.cells #[.int .i64 ak,.int .i64 an,.int .u64 (ab:Int),.string az,.slice apL anL acL,.slice apE anE acE] 26):=⟨_,rfl⟩
 have bA:Below W.heap.size W WA:=by rw [hWA];exact(Below.refl _ W).alloc (Nat.le_refl _) _
 have sA:WA.heap.size=W.heap.size+1:=by rw [hWA];simp
 have hZ:Blk WA W.heap.size #[.int .i64 ak,.int .i64 an,.int .u64 (ab:Int),.string az,.slice apL anL acL,.slice apE anE acE] 26:=by rw [hWA];exact jb W _ _
 have d0:WA.cell? ⟨B,o,none⟩=_:=(bA.cell (p:=⟨B,o,none⟩) hlt).trans c0
 have d5:WA.cell? ⟨B,o+5,none⟩=_:=(bA.cell (p:=⟨B,o+5,none⟩) hlt).trans c5
 have ea:Q7 key.data.toList y (mkV (k,n,b,s.data.toList) L E)=if k≠6 then (10,mkV (k,n,b,s.data.toList) L E) else if 0<=idx (fun x=>decide (x=key.data.toList)) 0 E then (9,mkV (k,n,b,s.data.toList) L E) else (0,mkV (k,n,b,s.data.toList) L (qx key.data.toList y (jD key.data.toList E))):=rfl
 have hbelow:∀w',Below WA.heap.size WA w'->Turns (fun b=>b=B\/S b) W w':=fun w' hw=>jT bA (Turns.of_below (M:=fun b=>WA.heap.size<=b) hw (fun b h=>h) |>.mono fun b hlt h=>by omega)
 by_cases k6:k=6
 ·subst k6
  rw [if_neg (by simp)] at ea;have hEA:JO (fun b=>b<W.heap.size) f' WA pE E:=(qO hE).kept (fun _ h=>h) bA.size (fun b hb _=>bA.block b hb) (fun i us _ ⟨ky,z,xs,a1,a2,a3,a4⟩=>⟨ky,z,xs,a1,a2,a3,a4.below bA⟩);have C:=zY (fun b=>b<W.heap.size) f' WA E pE cE key hEA h4.2.2.1 h4.2.2.2;obtain⟨z,hz⟩:∃z,z=idx (fun x=>decide (x=key.data.toList)) 0 E:=⟨_,rfl⟩
  rw [<-hz] at C ea
  by_cases hz0:0<=z
  ·rw [if_pos hz0] at ea
   have KC:=ja C;have HE:=ja ea;have HB:=ja hbelow;have HWA:=ja hWA;have d0':=d0;have d5':=d5;rw [hWA] at KC d0' d5';clear C ea hz hEA hc hL hE hd hi g7 g6 g5 h4 h3 h hl hbelow bA d0 d5 hZ
   go_enter Tryd.func95,Tryd.ntmps95
   go_wp2_with (go_at_call 65;refine(jc KC).mono ?_;rintro e w1 ⟨rfl,hb⟩)
   go_ret;rw [HE.out];exact⟨rfl,HB.out _ (by rw [HWA.out];exact hb),fun h=>by cases h⟩
  ·rw [if_neg hz0] at ea
   have hz1:z<0:=by omega
   obtain⟨F,hF⟩:∃F,F=qx key.data.toList y (jD key.data.toList E):=⟨_,rfl⟩
   rw [<-hF] at ea
   have hB5:o+5<cur.size:=by
    have:=hc 5 (by omega);exact(Array.getElem?_eq_some_iff.1 this).1
   have K2:Hid (∀w1,Below WA.heap.size WA w1->Calls Tryd.prog 102 #[.slice pE E.length cE,.string key,.agg #[.int .i64 ak,.int .i64 an,.int .u64 (ab:Int),.string az,.slice apL anL acL,.slice apE anE acE]] w1 fun e w2=>∃p c,e=.returned (.slice p F.length c)/\RowD 7 57 w2 (.slice p F.length c) F.length (fun b=>w1.heap.size<=b/\b<w2.heap.size) (QE (max f' g) w2 F)/\Below WA.heap.size WA w2/\w2.cell? ⟨B,o+5,none⟩=some (.slice pE E.length cE)/\w2.frozen? ⟨B,o+5,none⟩=false/\Blk w2 W.heap.size #[.int .i64 ak,.int .i64 an,.int .u64 (ab:Int),.string az,.slice apL anL acL,.slice apE anE acE] 26):=ja fun w1 hw1=>by
    have b1:Below W.heap.size W w1:=bA.trans (hw1.mono bA.size);have hE2:RowD 7 57 W (.slice pE E.length cE) E.length SE (QE (max f' g) W E):=hE.kept (fun _ h=>h) (fun _ _ _=>rfl) (fun i T us _ _ ⟨ky,z,xs,a1,a2,a3,a4⟩=>⟨ky,z,xs,a1,a2,a3,a4.to (Nat.le_max_left _ _)⟩);have hEA:JO (fun b=>b<W.heap.size) (max f' g) w1 pE E:=(qO hE2).kept (fun _ h=>h) b1.size (fun b hb _=>b1.block b hb) (fun i us _ ⟨ky,z,xs,a1,a2,a3,a4⟩=>⟨ky,z,xs,a1,a2,a3,a4.below b1⟩);have hlen:=hnt.len
    have P:=YG (fun b=>b<W.heap.size) (max f' g) w1 E pE cE key y ak an ab az apL anL acL apE anE acE hEA h4.2.2.1 h4.2.2.2 (fun b hb=>Nat.lt_of_lt_of_le hb b1.size) (by omega) (fun e he=>by
     have hy:(jE e).2∈parts (mkV (6,n,b,s.data.toList) L E):=by rw [jB];exact List.mem_append_right _ (List.mem_map.2 ⟨e,he,rfl⟩)
     obtain⟨i,hi⟩:=List.mem_iff_getElem?.1 he
     obtain⟨_,_,_,_,_,hk⟩:=qO hE2 (by have:=(List.getElem?_eq_some_iff.1 hi).1;omega);obtain⟨_,_,_,ky,z,xs,a1,_,_,a4⟩:=hk i (List.getElem?_eq_some_iff.1 hi).1;rw [hi] at a1;cases a1
     rw [jv] at hy ⊢;have:=(hnt.part hy).at a4.isV;omega) hk ((hl.below b1).to (Nat.le_max_right _ _)) (by have:=hn.at ((hl.to (Nat.le_max_right f' g)).isV);omega)
    rw [<-hF] at P;refine P.mono ?_
    rintro e w2 ⟨⟨v,rfl,hv⟩,hb⟩
    obtain⟨p,c,rfl,_,_⟩:=hv.slice;have b2:Below W.heap.size W w2:=b1.trans (hb.mono b1.size);have e2:w2.heap[B]?=some (.cells cur ty (0,0)):=(b2.block B hlt).trans hB
    exact⟨p,c,rfl,hv,hw1.trans (hb.mono hw1.size),ji e2 (hc 5 (by omega)),js e2,hZ.below (hw1.trans (hb.mono hw1.size))⟩
   have FIN:Hid (∀w1 w2 p c,Below WA.heap.size WA w1->RowD 7 57 w2 (.slice p F.length c) F.length (fun b=>w1.heap.size<=b/\b<w2.heap.size) (QE (max f' g) w2 F)->Below WA.heap.size WA w2->ByP W B o S (0,mkV (6,n,b,s.data.toList) L F) (.returned (.int .i64 0)) (w2.setCell ⟨B,o+5,none⟩ (.slice p F.length c))):=ja fun w1 w2 p c hw1 hR hw2=>by
    have b2:Below W.heap.size W w2:=bA.trans (hw2.mono bA.size);have e2:w2.heap[B]?=some (.cells cur ty (0,0)):=(b2.block B hlt).trans hB
    have ht:Turns (fun b=>b=B) w2 (w2.setCell ⟨B,o+5,none⟩ (.slice p F.length c)):=Turns.setCell _ _ _ rfl;have h1:=hw1.size;refine⟨rfl,jT b2 (ht.mono fun b _ h=>.inl h),fun _=>?_⟩;refine XQ (f2:=max f' g) (vE':=.slice p F.length c) (SE':=fun b=>w1.heap.size<=b/\b<w2.heap.size) hB hc (jL e2 _) h3 hL ?_ (fun b hb hlt'=>(ht.block b (Nat.lt_of_lt_of_le hlt' b2.size) (fun e=>g6 (by rw [<-e];exact hi b (.inl hb)))).trans (b2.block b hlt')) (fun b hb hx=>?_) (fun b hb=>⟨.inr (by omega),Nat.lt_of_lt_of_le hb.2 ht.size⟩) (fun b hb=>hi b (.inl hb)) (fun b hb=>(g7 b hb).2) (Nat.le_trans b2.size ht.size)
    ·exact hR.kept (fun _ h=>h) (fun b hb hlt'=>ht.block b hlt' (fun e=>by omega)) (fun i T us _ hT hq=>QE.same (fun b hb hlt'=>ht.block b hlt' (fun e=>by have:=hT b hb;omega)) i T us (fun _ h=>h) hq)
    ·have:=(g7 b (hi b (.inl hb))).2
     omega
   have KC:=ja C;have HE:=ja ea;have HWA:=ja hWA;have HBA:=ja bA;have HZ:=ja hZ;have d0':=d0;have d5':=d5;rw [hWA] at KC d0' d5';clear C ea hz hEA hc hL hE hd hi g7 g6 g5 h4 h3 h hl hbelow bA d0 d5 hZ hF hWA
   go_enter Tryd.func95,Tryd.ntmps95
   go_upto_region 5 with (go_at_call 65;refine(jc KC).mono ?_;rintro e w1 ⟨rfl,hb⟩)
   rw [<-HWA.out] at hb;have hbd:Below WA.heap.size WA w1.drew:=hb.drew;have q5:w1.drew.cell? ⟨B,o+5,none⟩=some (.slice pE E.length cE):=(hbd.cell (p:=⟨B,o+5,none⟩) (by simp only;omega)).trans (by rw [HWA.out];exact d5')
   have r0:w1.drew.cell? ⟨W.heap.size,0,none⟩=some (.int .i64 ak):=(hbd.cell (p:=⟨W.heap.size,0,none⟩) (by simp only;omega)).trans (HZ.out.cell 0 _ rfl)
   have r1:w1.drew.cell? ⟨W.heap.size,1,none⟩=some (.int .i64 an):=(hbd.cell (p:=⟨W.heap.size,1,none⟩) (by simp only;omega)).trans (HZ.out.cell 1 _ rfl)
   have r2:w1.drew.cell? ⟨W.heap.size,2,none⟩=some (.int .u64 (ab:Int)):=(hbd.cell (p:=⟨W.heap.size,2,none⟩) (by simp only;omega)).trans (HZ.out.cell 2 _ rfl)
   have r3:w1.drew.cell? ⟨W.heap.size,3,none⟩=some (.string az):=(hbd.cell (p:=⟨W.heap.size,3,none⟩) (by simp only;omega)).trans (HZ.out.cell 3 _ rfl)
   have r4:w1.drew.cell? ⟨W.heap.size,4,none⟩=some (.slice apL anL acL):=(hbd.cell (p:=⟨W.heap.size,4,none⟩) (by simp only;omega)).trans (HZ.out.cell 4 _ rfl)
   have r5:w1.drew.cell? ⟨W.heap.size,5,none⟩=some (.slice apE anE acE):=(hbd.cell (p:=⟨W.heap.size,5,none⟩) (by simp only;omega)).trans (HZ.out.cell 5 _ rfl)
   have KP:=ja (K2.out w1.drew hbd);have HBD:=ja hbd;have hBW:¬B=W.heap.size:=by omega
   have hBW':¬W.heap.size=B:=by omega
   clear d0' d5' c0 c5 hb hbd HZ K2 KC
   go_region_with (first
    | (go_at_call 102;refine(jc KP).mono ?_;rintro e w2 ⟨p,c,rfl,hR,hb2,G0,G1,hZ2⟩;have HR:=ja hR;have HB2:=ja hb2;have G2:=hZ2.cell 0 _ rfl;have G3:=hZ2.cell 1 _ rfl;have G4:=hZ2.cell 2 _ rfl;have G5:=hZ2.cell 3 _ rfl;have G6:=hZ2.cell 4 _ rfl;have G7:=hZ2.cell 5 _ rfl;clear hR hb2 hZ2))
   all_goals
    go_wp2;go_ret;rw [HE.out];exact FIN.out _ _ _ _ HBD.out HR.out HB2.out
 ·rw [if_pos (by simpa using k6)] at ea
  have HE:=ja ea;have HB:=ja hbelow;have HWA:=ja hWA;have d0':=d0;rw [hWA] at d0';clear ea hc hL hE hd hi g7 g6 g5 h4 h3 h hl hbelow bA d0 d5 hZ
  go_enter Tryd.func95,Tryd.ntmps95
  go_wp2;go_ret;rw [HE.out];exact⟨rfl,HB.out _ (by rw [HWA.out];exact Below.refl _ _),fun h=>by cases h⟩
end upds
set_option linter.unusedSimpArgs false
namespace upds
open Go.RowKit Go.Shelf
open valus
open paths (St)
theorem Zq {n0:Nat}{W X:World}{f:Nat}{v:Value}{L:List V}{SL:Nat->Prop}(hL:RowD 6 26 W v L.length SL (QL f W L))(hX:Below W.heap.size W X):∃rows,X.ownsRow 0 26 6 v L.length rows.flatten/\RowsD 6 (fun b=>SL b/\some b≠v.ownBlock) (QL f X L) L.length rows/\(∀g,v.ownBlock=some g->SL g/\g<W.heap.size):=by
 obtain⟨rows,h1,h2,h3⟩:=hL.to;exact⟨rows,qA h1 (fun g hg=>hX.block g (h1.lt g hg).2),h2.kept (fun _ h=>h) (QL.same fun b _ hlt=>hX.block b hlt),fun g hg=>⟨h3 g hg,(h1.lt g hg).2⟩⟩
theorem jaL {B o f' g i:Nat}{W X X':World}{S SL SE S2:Nat->Prop}{k n:Int}{b:Nat}{s:ByteArray}{L E:List V}{v v' vE:Value}{y:V}{vs:List Value}{rows:List (List Value)}{cur:Array Value}{ty n0:Nat}(hB:W.heap[B]?=some (.cells cur ty (0,0)))(hc:∀i,i<6->cur[o+i]?=[Value.int .i64 k,.int .i64 n,.int .u64 (b:Int),.string s,v,vE][i]?)
  (h3:(-9223372036854775808<=k/\k<=9223372036854775807)/\(-9223372036854775808<=n/\n<=9223372036854775807)/\b<18446744073709551616/\s.size<=maxLen) (hE:RowD 7 57 W vE E.length SE (QE f' W E)) (hd:∀b,SL b->¬SE b) (hi:∀b,SL b\/SE b->S b) (g6:¬S B) (g7:∀b,S b->n0<=b/\b<W.heap.size)
  (hX:Below W.heap.size W X) (hr:RowsD 6 (fun b=>SL b/\some b≠v.ownBlock) (QL f' X L) L.length rows) (hv:∀g,v.ownBlock=some g->SL g/\g<W.heap.size) (hy:LiesD g S2 X vs y) (hS2:∀b,S2 b->W.heap.size<=b/\b<X.heap.size) (hil:i<=L.length)
  (ho:X'.ownsRow 0 26 6 v' (L.length+1) ((rows.take i).flatten++(vs++(rows.drop i).flatten))) (hg:X.grownBy X' v.ownBlock) (hat:v'.ownBlock=v.ownBlock\/v'.ownBlock=some X.heap.size) :
  Turns (fun b=>b=B\/S b) W (X'.setCell ⟨B,o+4,none⟩ v')/\XC W (X'.setCell ⟨B,o+4,none⟩ v') B o S (mkV (k,n,b,s.data.toList) (L.take i++y :: L.drop i) E):=by
 have hlt:=(Array.getElem?_eq_some_iff.1 hB).1;have sX:=hX.size;have sX':=hg.size;have tX:Turns (fun b=>some b=v.ownBlock) X X':=⟨hg.os,hg.tape,hg.output,hg.size,fun b hb h=>hg.block b hb (fun e=>h e)⟩
 have tS:Turns (fun b=>b=B) X' (X'.setCell ⟨B,o+4,none⟩ v'):=Turns.setCell _ _ _ rfl;have hBv:¬some B=v.ownBlock:=fun e=>g6 (hi B (.inl (hv B e.symm).1))
 have eX':X'.heap[B]?=some (.cells cur ty (0,0)):=(hg.block B (by omega) hBv).trans ((hX.block B hlt).trans hB)
 have hkl:(L.take i).length=i:=by rw [List.length_take,Nat.min_eq_left hil]
 have el:(L.take i++y :: L.drop i).length=L.length+1:=by simp;omega
 have tXS:Turns (fun b=>some b=v.ownBlock\/b=B) X (X'.setCell ⟨B,o+4,none⟩ v'):=(tX.mono (N:=fun b=>some b=v.ownBlock\/b=B) fun b _ h=>.inl h).trans tS (fun b _ h=>.inr h);have hvS:∀b,some b=v.ownBlock->SL b/\b<W.heap.size:=fun b e=>hv b e.symm
 have off:∀b,(SL b/\some b≠v.ownBlock)\/S2 b->¬(some b=v.ownBlock\/b=B):=fun b hb hx=>by
  rcases hb with hb | hb
  ·exact hx.elim hb.2 (fun e=>g6 (by rw [<-e];exact hi b (.inl hb.1)))
  ·have:=(hS2 b hb).1
   rcases hx with hx | hx
   ·have:=(hvS b hx).2
    omega
   ·omega
 refine⟨jT hX (tXS.mono fun b _ h=>h.elim (fun e=>.inr (hi b (.inl (hvS b e).1))) .inl),?_⟩
 have hR:RowsD 6 (fun b=>(SL b/\some b≠v.ownBlock)\/S2 b) (QL (max f' g) (X'.setCell ⟨B,o+4,none⟩ v') (L.take i++y :: L.drop i)) (L.length+1) (rows.take i++vs :: rows.drop i):=by
  refine(hr.ins (S:=S2) (Q':=QL (max f' g) X (L.take i++y :: L.drop i)) hil hy.len (fun b hb hp=>by have:=(hS2 b hb).1;have:=(g7 b (hi b (.inl hp.1))).2;omega) ?_ ⟨y,by rw [List.getElem?_append_right (by omega),hkl,Nat.sub_self];rfl,hy.to (Nat.le_max_right _ _)⟩ ?_).kept (fun _ h=>h) (QL.same fun b hb hlt'=>tXS.block b hlt' (off b hb))
  ·rintro j T us hj ⟨z,a,c⟩
   exact⟨z,by rw [List.getElem?_append_left (by omega),List.getElem?_take_of_lt hj];exact a,c.to (Nat.le_max_left _ _)⟩
  ·rintro j T us hj ⟨z,a,c⟩
   exact⟨z,by rw [List.getElem?_append_right (by omega),hkl,show j+1 - i=(j - i)+1 by omega,List.getElem?_cons_succ,List.getElem?_drop,show i+(j - i)=j by omega];exact a,c.to (Nat.le_max_left _ _)⟩
 have hv':∀q,v'.ownBlock=some q->SL q\/(W.heap.size<=q/\q<X'.heap.size):=fun q hq=>by
  rcases hat with e | e
  ·exact .inl (hvS q (hq.symm.trans e)).1
  ·have:=ho.lt q hq
   rw [hq] at e;injection e with e;exact .inr ⟨by omega,this.2⟩
 have hoS:(X'.setCell ⟨B,o+4,none⟩ v').ownsRow 0 26 6 v' (L.length+1) (rows.take i++vs :: rows.drop i).flatten:=by
  have:(rows.take i++vs :: rows.drop i).flatten=(rows.take i).flatten++(vs++(rows.drop i).flatten):=by simp
  rw [this]
  exact qA ho (fun q hq=>tS.block q (ho.lt q hq).2 (fun e=>by
   subst e
   rcases hv' _ hq with h | h
   ·exact g6 (hi _ (.inl h))
   ·omega))
 refine jaV (f2:=max f' g) (SL':=fun b=>SL b\/(W.heap.size<=b/\b<X'.heap.size)) hB hc (jL eX' v') h3 ?_ hE (fun b hb hlt'=>?_) (fun b hb hx=>?_) (fun b hb=>?_) (fun b hb=>hi b (.inr hb)) (fun b hb=>(g7 b hb).2) (by have:=tS.size;omega)
 ·rw [el]
  refine RowD.of hoS hR (fun b hb=>⟨?_,fun e=>?_⟩) hv'
  ·rcases hb with hb | hb
   ·exact .inl hb.1
   ·exact .inr ⟨(hS2 b hb).1,by have:=(hS2 b hb).2;omega⟩
  ·rcases hat with h | h
   ·exact off b hb (.inl (e.trans h))
   ·have:=e.trans h
    injection this with this
    rcases hb with hb | hb
    ·have:=(g7 b (hi b (.inl hb.1))).2
     omega
    ·have:=(hS2 b hb).2
     omega
 ·refine(tXS.block b (by omega) (fun hx=>?_)).trans (hX.block b hlt')
  rcases hx with hx | hx
  ·exact hd b (hvS b hx).1 hb
  ·exact g6 (by rw [<-hx];exact hi b (.inr hb))
 ·rcases hb with hb | hb
  ·exact hd b hb hx
  ·have:=(g7 b (hi b (.inr hx))).2
   omega
 ·have:=tS.size
  rcases hb with hb | hb
  ·have:=(g7 b (hi b (.inl hb))).2
   exact⟨.inl (hi b (.inl hb)),by omega⟩
  ·exact⟨.inr hb.1,by omega⟩
theorem ja1 {B o f' i:Nat}{W X X':World}{S SL SE:Nat->Prop}{k n:Int}{b:Nat}{s:ByteArray}{L E:List V}{v v' vE:Value}{rows:List (List Value)}{cur:Array Value}{ty n0:Nat}(hB:W.heap[B]?=some (.cells cur ty (0,0)))(hc:∀i,i<6->cur[o+i]?=[Value.int .i64 k,.int .i64 n,.int .u64 (b:Int),.string s,v,vE][i]?)
  (h3:(-9223372036854775808<=k/\k<=9223372036854775807)/\(-9223372036854775808<=n/\n<=9223372036854775807)/\b<18446744073709551616/\s.size<=maxLen) (hE:RowD 7 57 W vE E.length SE (QE f' W E)) (hd:∀b,SL b->¬SE b) (hi:∀b,SL b\/SE b->S b) (g6:¬S B) (g7:∀b,S b->n0<=b/\b<W.heap.size)
  (hX:Below W.heap.size W X) (hr:RowsD 6 (fun b=>SL b/\some b≠v.ownBlock) (QL f' X L) L.length rows) (hv:∀g,v.ownBlock=some g->SL g/\g<W.heap.size) (hil:i<L.length)
  (ho:X'.ownsRow 0 26 6 v' (L.length - 1) ((rows.take i).flatten++(rows.drop (i+1)).flatten)) (hg:X.grownBy X' v.ownBlock) (hat:v'.ownBlock=v.ownBlock) :
  Turns (fun b=>b=B\/S b) W (X'.setCell ⟨B,o+4,none⟩ v')/\XC W (X'.setCell ⟨B,o+4,none⟩ v') B o S (mkV (k,n,b,s.data.toList) (L.take i++L.drop (i+1)) E):=by
 have hlt:=(Array.getElem?_eq_some_iff.1 hB).1;have sX:=hX.size;have sX':=hg.size;have tX:Turns (fun b=>some b=v.ownBlock) X X':=⟨hg.os,hg.tape,hg.output,hg.size,fun b hb h=>hg.block b hb (fun e=>h e)⟩
 have tS:Turns (fun b=>b=B) X' (X'.setCell ⟨B,o+4,none⟩ v'):=Turns.setCell _ _ _ rfl;have hBv:¬some B=v.ownBlock:=fun e=>g6 (hi B (.inl (hv B e.symm).1))
 have eX':X'.heap[B]?=some (.cells cur ty (0,0)):=(hg.block B (by omega) hBv).trans ((hX.block B hlt).trans hB)
 have hkl:(L.take i).length=i:=by rw [List.length_take,Nat.min_eq_left (by omega)]
 obtain⟨m,hm⟩:∃m,L.length=m+1:=⟨L.length - 1,by omega⟩
 have el:(L.take i++L.drop (i+1)).length=m:=by simp;omega
 have tXS:Turns (fun b=>some b=v.ownBlock\/b=B) X (X'.setCell ⟨B,o+4,none⟩ v'):=(tX.mono (N:=fun b=>some b=v.ownBlock\/b=B) fun b _ h=>.inl h).trans tS (fun b _ h=>.inr h);have hvS:∀b,some b=v.ownBlock->SL b/\b<W.heap.size:=fun b e=>hv b e.symm
 have off:∀b,(SL b/\some b≠v.ownBlock)->¬(some b=v.ownBlock\/b=B):=fun b hb hx=>hx.elim hb.2 (fun e=>g6 (by rw [<-e];exact hi b (.inl hb.1)))
 refine⟨jT hX (tXS.mono fun b _ h=>h.elim (fun e=>.inr (hi b (.inl (hvS b e).1))) .inl),?_⟩
 have hR:RowsD 6 (fun b=>SL b/\some b≠v.ownBlock) (QL f' (X'.setCell ⟨B,o+4,none⟩ v') (L.take i++L.drop (i+1))) m (rows.take i++rows.drop (i+1)):=by
  rw [hm] at hr;refine(hr.del (Q':=QL f' X (L.take i++L.drop (i+1))) (k:=i) (by omega) ?_ ?_).kept (fun _ h=>h) (QL.same fun b hb hlt'=>tXS.block b hlt' (off b hb))
  ·rintro j T us hj ⟨z,a,c⟩
   exact⟨z,by rw [List.getElem?_append_left (by omega),List.getElem?_take_of_lt hj];exact a,c⟩
  ·rintro j T us hj ⟨z,a,c⟩
   exact⟨z,by rw [List.getElem?_append_right (by omega),hkl,List.getElem?_drop,show i+1+(j - i)=j+1 by omega];exact a,c⟩
 have hoS:(X'.setCell ⟨B,o+4,none⟩ v').ownsRow 0 26 6 v' m (rows.take i++rows.drop (i+1)).flatten:=by
  rw [List.flatten_append,show m=L.length - 1 by omega]
  exact qA ho (fun q hq=>tS.block q (ho.lt q hq).2 (fun e=>by
   subst e;exact hBv (hq.symm.trans hat)))
 refine jaV (f2:=f') (SL':=SL) hB hc (jL eX' v') h3 ?_ hE (fun b hb hlt'=>?_) hd (fun b hb=>?_) (fun b hb=>hi b (.inr hb)) (fun b hb=>(g7 b hb).2) (by have:=tS.size;omega)
 ·rw [el]
  exact RowD.of hoS hR (fun b hb=>⟨hb.1,fun e=>hb.2 (e.trans hat)⟩) (fun q hq=>(hv q (hat.symm.trans hq)).1)
 ·refine(tXS.block b (by omega) (fun hx=>?_)).trans (hX.block b hlt')
  rcases hx with hx | hx
  ·exact hd b (hvS b hx).1 hb
  ·exact g6 (by rw [<-hx];exact hi b (.inr hb))
 ·have:=tS.size
  have:=(g7 b (hi b (.inl hb))).2;exact⟨.inl (hi b (.inl hb)),by omega⟩
end upds
set_option linter.unusedSimpArgs false
namespace upds
open Go.RowKit Go.Shelf
open valus
open paths (St)
theorem Q4 {n0 B o f:Nat}{W:World}{S:Nat->Prop}{t:V}(h:Here n0 W B o S f t)(hnt:Few 1000000 t)(i:Nat)(hi63:i<=9223372036854775807)(g:Nat)(y:V)(ak an:Int)(ab:Nat)(az:ByteArray)(apL:Option Addr)(anL acL:Nat)(apE:Option Addr)(anE acE:Nat)(hl:LiesV (fun b=>b<W.heap.size) g W [.int .i64 ak,.int .i64 an,.int .u64 (ab:Int),.string az,.slice apL anL acL,.slice apE anE acE] y)(hn:Few 1000000 y) :
  Calls Tryd.prog 97 #[.pointer (some ⟨B,o,none⟩),.int .i64 (i:Int),.agg #[.int .i64 ak,.int .i64 an,.int .u64 (ab:Int),.string az,.slice apL anL acL,.slice apE anE acE]] W (ByP W B o S (Q8 (i:Int) y t)):=by
 obtain⟨k,n,b,s,L,E,pL,pE,cL,cE,SL,SE,cur,ty,f',rfl,rfl,hB,hc,h3,h4,hL,hE,hd,hi,g5,g6,g7⟩:=Here.apart h;have hlt:=(Array.getElem?_eq_some_iff.1 hB).1;have c0:=ji hB (hc 0 (by omega));have c4:=ji hB (hc 4 (by omega));simp only [Nat.add_zero,List.getElem?_cons_zero,List.getElem?_cons_succ] at c0 c4;obtain⟨WA,hWA⟩:∃WA,WA=W.alloc (.cells #[.int .i64 ak,.int .i64 an,.int .u64 (ab:Int),.string az,.slice apL anL acL,.slice apE anE acE] 26):=⟨_,rfl⟩
 have bA:Below W.heap.size W WA:=by rw [hWA];exact(Below.refl _ W).alloc (Nat.le_refl _) _
 have sA:WA.heap.size=W.heap.size+1:=by rw [hWA];simp
 have hZ:Blk WA W.heap.size #[.int .i64 ak,.int .i64 an,.int .u64 (ab:Int),.string az,.slice apL anL acL,.slice apE anE acE] 26:=by rw [hWA];exact jb W _ _
 have d0:WA.cell? ⟨B,o,none⟩=_:=(bA.cell (p:=⟨B,o,none⟩) hlt).trans c0
 have d4:WA.cell? ⟨B,o+4,none⟩=_:=(bA.cell (p:=⟨B,o+4,none⟩) hlt).trans c4
 have ea:Q8 (i:Int) y (mkV (k,n,b,s.data.toList) L E)=if k≠5 then (10,mkV (k,n,b,s.data.toList) L E) else if (L.length:Int)<(i:Int) then (8,mkV (k,n,b,s.data.toList) L E) else (0,mkV (k,n,b,s.data.toList) (L.take i++y :: L.drop i) E):=rfl
 have hbelow:∀w',Below WA.heap.size WA w'->Turns (fun b=>b=B\/S b) W w':=fun w' hw=>jT bA (Turns.of_below (M:=fun b=>WA.heap.size<=b) hw (fun b h=>h) |>.mono fun b hlt h=>by omega)
 have hll:=hnt.len
 by_cases k5:k=5
 ·subst k5
  rw [if_neg (by simp)] at ea
  by_cases hz0:(L.length:Int)<(i:Int)
  ·rw [if_pos hz0] at ea
   have HE:=ja ea;have HB:=ja hbelow;have HWA:=ja hWA;have d0':=d0;have d4':=d4;rw [hWA] at d0' d4';have hgt:(i:Int) > (L.length:Int):=hz0;clear ea hc hL hE hd hi g7 g6 g5 h4 h3 h hl hbelow bA d0 d4 hZ
   go_enter Tryd.func97,Tryd.ntmps97
   go_wp2;go_ret;rw [HE.out];exact⟨rfl,HB.out _ (by rw [HWA.out];exact Below.refl _ _),fun h=>by cases h⟩
  ·rw [if_neg hz0] at ea
   have hil:i<=L.length:=by omega
   have hngt:¬((i:Int) > (L.length:Int)):=hz0
   have hB5:o+4<cur.size:=by
    have:=hc 4 (by omega);exact(Array.getElem?_eq_some_iff.1 this).1
   have bD:Below WA.heap.size WA WA.drew:=Below.drew (Below.refl _ _);have bWD:Below W.heap.size W WA.drew:=bA.drew;have C:=callsIn_wide.1 (zk (fun b=>b<W.heap.size) g WA.drew y _ _ _ _ _ _ (fun b hb=>Nat.lt_of_lt_of_le hb bWD.size) (hl.below bWD) (by have:=hn.at hl.isV;omega))
   have KC:Hid (Calls Tryd.prog 29 #[.agg #[.int .i64 ak,.int .i64 an,.int .u64 (ab:Int),.string az,.slice apL anL acL,.slice apE anE acE]] WA.drew fun e w2=>∃(xk xn:Int) (xb:Nat) (xs:ByteArray) (xpL:Option Addr) (xnL xcL:Nat) (xpE:Option Addr) (xnE xcE:Nat),e=.returned (.agg #[.int .i64 xk,.int .i64 xn,.int .u64 (xb:Int),.string xs,.slice xpL xnL xcL,.slice xpE xnE xcE])/\LiesD g (fun b=>WA.heap.size<=b/\b<w2.heap.size) w2 [.int .i64 xk,.int .i64 xn,.int .u64 (xb:Int),.string xs,.slice xpL xnL xcL,.slice xpE xnE xcE] y/\Below WA.heap.size WA w2/\w2.cell? ⟨B,o+4,none⟩=some (.slice pL L.length cL)):=ja (C.mono fun e w' ⟨⟨x0,x1,x2,x3,x4,x5,he,hx⟩,hb⟩=>by
    obtain⟨xk,xn,xb,xs,xpL,xnL,xcL,xpE,xnE,xcE,rfl,rfl,rfl,rfl,rfl,rfl⟩:=hx.lies.form;exact⟨xk,xn,xb,xs,xpL,xnL,xcL,xpE,xnE,xcE,he,hx,bD.trans (hb.mono bD.size),(hb.cell (p:=⟨B,o+4,none⟩) (by simp only;show B<WA.heap.size;omega)).trans d4⟩)
   have KI:Hid (∀(w2:World) (xk xn:Int) (xb:Nat) (xs:ByteArray) (xpL:Option Addr) (xnL xcL:Nat) (xpE:Option Addr) (xnE xcE:Nat),LiesD g (fun b=>WA.heap.size<=b/\b<w2.heap.size) w2 [.int .i64 xk,.int .i64 xn,.int .u64 (xb:Int),.string xs,.slice xpL xnL xcL,.slice xpE xnE xcE] y->Below WA.heap.size WA w2->Calls Tryd.prog 110 #[.slice pL L.length cL,.int .i64 (i:Int),.slice (some ⟨w2.heap.size,0,none⟩) 1 1] (w2.alloc (.cells #[.int .i64 xk,.int .i64 xn,.int .u64 (xb:Int),.string xs,.slice xpL xnL xcL,.slice xpE xnE xcE] 26)) fun e w3=>∃p c,e=.returned (.slice p (L.length+1) c)/\w3.cell? ⟨B,o+4,none⟩=some (.slice pL L.length cL)/\w3.frozen? ⟨B,o+4,none⟩=false/\Turns (fun b=>b=B\/S b) W (w3.setCell ⟨B,o+4,none⟩ (.slice p (L.length+1) c))/\XC W (w3.setCell ⟨B,o+4,none⟩ (.slice p (L.length+1) c)) B o S (mkV (5,n,b,s.data.toList) (L.take i++y :: L.drop i) E)):=ja fun w2 xk xn xb xs xpL xnL xcL xpE xnE xcE hx hw2=>by
    obtain⟨X,hX⟩:∃X,X=w2.alloc (.cells #[.int .i64 xk,.int .i64 xn,.int .u64 (xb:Int),.string xs,.slice xpL xnL xcL,.slice xpE xnE xcE] 26):=⟨_,rfl⟩
    rw [<-hX];have sX:X.heap.size=w2.heap.size+1:=by rw [hX];simp
    have bX2:Below w2.heap.size w2 X:=by rw [hX];exact(Below.refl _ w2).alloc (Nat.le_refl _) _
    have hvb:X.heap[w2.heap.size]?=some (.cells [Value.int .i64 xk,.int .i64 xn,.int .u64 (xb:Int),.string xs,.slice xpL xnL xcL,.slice xpE xnE xcE].toArray 26 (0,0)):=by rw [hX];exact jb w2 _ _
    have b2:=hw2.size;have bX:Below W.heap.size W X:=bA.trans ((hw2.trans (bX2.mono b2)).mono bA.size);obtain⟨rows,how,hr,hv⟩:=Zq (n0:=n0) hL bX;have hxX:LiesD g (fun b=>WA.heap.size<=b/\b<w2.heap.size) X [.int .i64 xk,.int .i64 xn,.int .u64 (xb:Int),.string xs,.slice xpL xnL xcL,.slice xpE xnE xcE] y:=hx.same fun b _ hlt'=>bX2.block b hlt'
    have I:=ZI X (.slice pL L.length cL) L.length rows how hr.1 hr.flat hr.onesL i hil (Nat.zero_le _) (by omega) w2.heap.size _ hvb (fun e=>by have:=(hv _ e.symm).2;omega) rfl hx.ones;refine I.mono ?_
    rintro e X' ⟨v',rfl,ho,hg,hat⟩
    have hh:=jaL hB hc h3 hE hd hi g6 g7 bX hr hv hxX (fun b hb=>⟨by omega,by omega⟩) hil ho hg hat
    have hv':∃p c,v'=.slice p (L.length+1) c:=by
     rcases ho.2 with ⟨_,h0⟩ | ⟨q,c,_,h0,_⟩
     ·omega
     ·exact⟨_,c,h0⟩
    obtain⟨p,c,rfl⟩:=hv';have hBv:¬some B=(Value.slice pL L.length cL).ownBlock:=fun e=>g6 (hi B (.inl (hv B e.symm).1))
    have eX':X'.heap[B]?=some (.cells cur ty (0,0)):=(hg.block B (by omega) hBv).trans ((bX.block B hlt).trans hB)
    exact⟨p,c,rfl,ji eX' (hc 4 (by omega)),js eX',hh.1,hh.2⟩
   have HE:=ja ea;have HWA:=ja hWA;have q4:WA.drew.cell? ⟨B,o+4,none⟩=some (.slice pL L.length cL):=d4
   have r0:WA.drew.cell? ⟨W.heap.size,0,none⟩=some (.int .i64 ak):=hZ.cell 0 _ rfl
   have r1:WA.drew.cell? ⟨W.heap.size,1,none⟩=some (.int .i64 an):=hZ.cell 1 _ rfl
   have r2:WA.drew.cell? ⟨W.heap.size,2,none⟩=some (.int .u64 (ab:Int)):=hZ.cell 2 _ rfl
   have r3:WA.drew.cell? ⟨W.heap.size,3,none⟩=some (.string az):=hZ.cell 3 _ rfl
   have r4:WA.drew.cell? ⟨W.heap.size,4,none⟩=some (.slice apL anL acL):=hZ.cell 4 _ rfl
   have r5:WA.drew.cell? ⟨W.heap.size,5,none⟩=some (.slice apE anE acE):=hZ.cell 5 _ rfl
   have d0':=d0;have d4':=d4;rw [hWA] at d0' d4';clear C ea hc hL hE hd hi g7 g6 g5 h4 h3 h hl hbelow bA bD bWD d0 d4 hZ hWA
   go_enter Tryd.func97,Tryd.ntmps97
   go_upto_region 5 with fail
   rw [<-HWA.out];clear d0' d4' c0 c4 HWA
   go_region_with (first
    | (go_at_call 29;refine(jc KC).mono ?_;rintro e w2 ⟨xk,xn,xb,xs,xpL,xnL,xcL,xpE,xnE,xcE,rfl,hx,hb2,G0⟩;have KI2:=ja (KI.out w2 _ _ _ _ _ _ _ _ _ _ hx hb2);have G1:=(World.cell?_alloc_lt w2 (.cells #[.int .i64 xk,.int .i64 xn,.int .u64 (xb:Int),.string xs,.slice xpL xnL xcL,.slice xpE xnE xcE] 26) ⟨B,o+4,none⟩ (World.block_lt_of_cell? w2 _ G0)).trans G0;clear hx hb2)
    | (go_at_call 110;refine(jc KI2).mono ?_;rintro e w3 ⟨p,c,rfl,G2,G3,hT,hD⟩;have HT:=ja hT;have HD:=ja hD;clear hT hD))
   all_goals
    go_wp2;go_ret;rw [HE.out];exact⟨rfl,HT.out,fun _=>HD.out⟩
 ·rw [if_pos (by simpa using k5)] at ea
  have HE:=ja ea;have HB:=ja hbelow;have HWA:=ja hWA;have d0':=d0;rw [hWA] at d0';clear ea hc hL hE hd hi g7 g6 g5 h4 h3 h hl hbelow bA d0 d4 hZ
  go_enter Tryd.func97,Tryd.ntmps97
  go_wp2;go_ret;rw [HE.out];exact⟨rfl,HB.out _ (by rw [HWA.out];exact Below.refl _ _),fun h=>by cases h⟩
end upds
set_option linter.unusedSimpArgs false
namespace upds
open Go.RowKit Go.Shelf
open valus
open paths (St)
theorem XV {n0 B o f:Nat}{W:World}{S:Nat->Prop}{t:V}(h:Here n0 W B o S f t)(hnt:Few 1000000 t)(Bs:Nat)(key:ByteArray)(I:Int)(hs:Blk W Bs #[.string key,.int .i64 I] 60)(hk:key.size<=maxLen)(Bv g:Nat)(y:V)(a0 a1 a2 a3 a4 a5:Value)(hv:Blk W Bv #[a0,a1,a2,a3,a4,a5] 26)(hl:LiesV (fun b=>b<W.heap.size) g W [a0,a1,a2,a3,a4,a5] y)(hn:Few 1000000 y) :
  Calls Tryd.prog 94 #[.pointer (some ⟨B,o,none⟩),.pointer (some ⟨Bs,0,none⟩),.pointer (some ⟨Bv,0,none⟩)] W (ByP W B o S (Q7 key.data.toList y t)):=by
 obtain⟨ak,an,ab,az,apL,anL,acL,apE,anE,acE,rfl,rfl,rfl,rfl,rfl,rfl⟩:=hl.form;have K:=ja (XF h hnt key hk g y ak an ab az apL anL acL apE anE acE hl hn);have c0:=hv.cell 0 _ rfl;have c1:=hv.cell 1 _ rfl;have c2:=hv.cell 2 _ rfl;have c3:=hv.cell 3 _ rfl;have c4:=hv.cell 4 _ rfl;have c5:=hv.cell 5 _ rfl;have s0:=hs.cell 0 _ rfl;clear h hv hs hl hn hnt
 go_enter Tryd.func94,Tryd.ntmps94
 go_wp2_with (go_at_call 95;refine(jc K).mono ?_;rintro e w1 ⟨rfl,hT,hD⟩;have HT:=ja hT;have HD:=ja hD;clear hT hD)
 go_ret;exact⟨rfl,HT.out,HD.out⟩
theorem Yf {n0 B o f:Nat}{W:World}{S:Nat->Prop}{t:V}(h:Here n0 W B o S f t)(hnt:Few 1000000 t)(Bs:Nat)(key:ByteArray)(i:Nat)(hi:i<=9223372036854775807)(hs:Blk W Bs #[.string key,.int .i64 (i:Int)] 60)(Bv g:Nat)(y:V)(a0 a1 a2 a3 a4 a5:Value)(hv:Blk W Bv #[a0,a1,a2,a3,a4,a5] 26)(hl:LiesV (fun b=>b<W.heap.size) g W [a0,a1,a2,a3,a4,a5] y)(hn:Few 1000000 y) :
  Calls Tryd.prog 96 #[.pointer (some ⟨B,o,none⟩),.pointer (some ⟨Bs,0,none⟩),.pointer (some ⟨Bv,0,none⟩)] W (ByP W B o S (Q8 (i:Int) y t)):=by
 obtain⟨ak,an,ab,az,apL,anL,acL,apE,anE,acE,rfl,rfl,rfl,rfl,rfl,rfl⟩:=hl.form;have K:=ja (Q4 h hnt i hi g y ak an ab az apL anL acL apE anE acE hl hn);have c0:=hv.cell 0 _ rfl;have c1:=hv.cell 1 _ rfl;have c2:=hv.cell 2 _ rfl;have c3:=hv.cell 3 _ rfl;have c4:=hv.cell 4 _ rfl;have c5:=hv.cell 5 _ rfl;have s0:=hs.cell 1 _ rfl;clear h hv hs hl hn hnt
 go_enter Tryd.func96,Tryd.ntmps96
 go_wp2_with (go_at_call 97;refine(jc K).mono ?_;rintro e w1 ⟨rfl,hT,hD⟩;have HT:=ja hT;have HD:=ja hD;clear hT hD)
 go_ret;exact⟨rfl,HT.out,HD.out⟩
end upds
set_option linter.unusedSimpArgs false
namespace upds
open Go.RowKit Go.Shelf
open valus
open paths (St)
def Zm (key:List UInt8)(t:V):Int×V:=(0,mkV (opn t).1 (opn t).2.1 (jD key (opn t).2.2))
def Zj (i:Nat)(t:V):Int×V:=(0,mkV (opn t).1 ((opn t).2.1.take i++(opn t).2.1.drop (i+1)) (opn t).2.2)
theorem ZC {n0 B o f:Nat}{W:World}{S:Nat->Prop}{t:V}(h:Here n0 W B o S f t)(hnt:Few 1000000 t)(Bs:Nat)(key:ByteArray)(hs:Blk W Bs #[.string key,.int .i64 (-1)] 60) :
  Calls Tryd.prog 98 #[.pointer (some ⟨B,o,none⟩),.pointer (some ⟨Bs,0,none⟩)] W (ByP W B o S (Zm key.data.toList t)):=by
 obtain⟨k,n,b,s,L,E,pL,pE,cL,cE,SL,SE,cur,ty,f',rfl,rfl,hB,hc,h3,h4,hL,hE,hd,hi,g5,g6,g7⟩:=Here.apart h;have hlt:=(Array.getElem?_eq_some_iff.1 hB).1;have c5:=ji hB (hc 5 (by omega));have hll:=hnt.len;have hsl:=hs.lt;have s0:W.drew.cell? ⟨Bs,0,none⟩=some (.string key):=hs.cell 0 _ rfl
 have s1:=hs.cell 1 _ rfl;have c5':W.drew.cell? ⟨B,o+5,none⟩=some (.slice pE E.length cE):=c5
 have ea:Zm key.data.toList (mkV (k,n,b,s.data.toList) L E)=(0,mkV (k,n,b,s.data.toList) L (jD key.data.toList E)):=rfl;have bD:Below W.heap.size W W.drew:=Below.drew (Below.refl _ _)
 have D:=QR (fun b=>b<W.heap.size) f' W.drew E pE cE key ((qO hE).kept (fun _ h=>h) bD.size (fun b hb _=>bD.block b hb) (fun i us _ ⟨ky,z,xs,a1,a2,a3,a4⟩=>⟨ky,z,xs,a1,a2,a3,a4.below bD⟩)) h4.2.2.1 h4.2.2.2 (fun b hb=>Nat.lt_of_lt_of_le hb bD.size) (by omega) (fun e he=>by
  have hy:(jE e).2∈parts (mkV (k,n,b,s.data.toList) L E):=by rw [jB];exact List.mem_append_right _ (List.mem_map.2 ⟨e,he,rfl⟩)
  obtain⟨i,hi⟩:=List.mem_iff_getElem?.1 he
  obtain⟨_,_,_,_,_,hk⟩:=qO hE (by have:=(List.getElem?_eq_some_iff.1 hi).1;omega);obtain⟨_,_,_,ky,z,xs,a1,_,_,a4⟩:=hk i (List.getElem?_eq_some_iff.1 hi).1;rw [hi] at a1;cases a1
  rw [jv] at hy ⊢;have:=(hnt.part hy).at a4.isV;omega)
 obtain⟨F,hF⟩:∃F,F=jD key.data.toList E:=⟨_,rfl⟩
 rw [<-hF] at D ea
 have KD:Hid (Calls Tryd.prog 99 #[.slice pE E.length cE,.string key] W.drew fun e w2=>∃p c,e=.returned (.slice p F.length c)/\w2.cell? ⟨B,o+5,none⟩=some (.slice pE E.length cE)/\w2.frozen? ⟨B,o+5,none⟩=false/\ByP W B o S (0,mkV (k,n,b,s.data.toList) L F) (.returned (.int .i64 0)) (w2.setCell ⟨B,o+5,none⟩ (.slice p F.length c))):=ja (D.mono fun e w2 ⟨v,he,⟨P,hO⟩,hb⟩=>by
  have hR:=hO.row;obtain⟨p,c,rfl,_,_⟩:=hR.slice;have b2:Below W.heap.size W w2:=bD.trans (hb.mono bD.size);have e2:w2.heap[B]?=some (.cells cur ty (0,0)):=(b2.block B hlt).trans hB
  have ht:Turns (fun b=>b=B) w2 (w2.setCell ⟨B,o+5,none⟩ (.slice p F.length c)):=Turns.setCell _ _ _ rfl;have hsz:W.drew.heap.size=W.heap.size:=rfl;refine⟨p,c,he,ji e2 (hc 5 (by omega)),js e2,rfl,jT b2 (ht.mono fun b _ h=>.inl h),fun _=>?_⟩;refine XQ (f2:=f') (vE':=.slice p F.length c) (SE':=fun b=>W.heap.size<=b/\b<w2.heap.size) hB hc (jL e2 _) h3 hL ?_ (fun b hb hlt'=>(ht.block b (Nat.lt_of_lt_of_le hlt' b2.size) (fun e=>g6 (by rw [<-e];exact hi b (.inl hb)))).trans (b2.block b hlt')) (fun b hb hx=>?_) (fun b hb=>⟨.inr (by omega),Nat.lt_of_lt_of_le hb.2 ht.size⟩) (fun b hb=>hi b (.inl hb)) (fun b hb=>(g7 b hb).2) (Nat.le_trans b2.size ht.size)
  ·exact hR.kept (fun b h=>h) (fun b hb hlt'=>ht.block b hlt' (fun e=>by have:=hb.1;omega)) (fun i T us _ hT hq=>QE.same (fun b hb hlt'=>ht.block b hlt' (fun e=>by have:=(hT b hb).1;omega)) i T us (fun _ h=>h) hq)
  ·have:=(g7 b (hi b (.inl hb))).2
   omega)
 have HE:=ja ea;clear D ea hF hc hL hE hd hi g7 g6 g5 h4 h3 h hs bD
 go_enter Tryd.func98,Tryd.ntmps98
 go_upto_region 2 with fail
 clear s1
 go_region_with (first
  | (go_at_call 99;refine(jc KD).mono ?_;rintro e w2 ⟨p,c,rfl,G0,G1,hF⟩;have HF:=ja hF;clear hF))
 all_goals
  go_wp2;go_ret;rw [HE.out];exact HF.out
end upds
set_option linter.unusedSimpArgs false
namespace upds
open Go.RowKit Go.Shelf
open valus
open paths (St)
theorem Q0 {n0 B o f:Nat}{W:World}{S:Nat->Prop}{t:V}(h:Here n0 W B o S f t)(hnt:Few 1000000 t)(Bs:Nat)(key:ByteArray)(i:Nat)(hil:i<(opn t).2.1.length)(hs:Blk W Bs #[.string key,.int .i64 (i:Int)] 60) :
  Calls Tryd.prog 98 #[.pointer (some ⟨B,o,none⟩),.pointer (some ⟨Bs,0,none⟩)] W (ByP W B o S (Zj i t)):=by
 obtain⟨k,n,b,s,L,E,pL,pE,cL,cE,SL,SE,cur,ty,f',rfl,rfl,hB,hc,h3,h4,hL,hE,hd,hi,g5,g6,g7⟩:=Here.apart h;have hlt:=(Array.getElem?_eq_some_iff.1 hB).1;have c4:=ji hB (hc 4 (by omega));rw [jQ] at hil
 dsimp only at hil
 have hll:=hnt.len;have s1:W.drew.cell? ⟨Bs,1,none⟩=some (.int .i64 (i:Int)):=hs.cell 1 _ rfl
 have s1':=hs.cell 1 _ rfl;have c4':W.drew.cell? ⟨B,o+4,none⟩=some (.slice pL L.length cL):=c4
 have ea:Zj i (mkV (k,n,b,s.data.toList) L E)=(0,mkV (k,n,b,s.data.toList) (L.take i++L.drop (i+1)) E):=rfl;have bD:Below W.heap.size W W.drew:=Below.drew (Below.refl _ _);obtain⟨rows,how,hr,hv⟩:=Zq (n0:=n0) hL bD;obtain⟨m,hm⟩:∃m,L.length=i+m+1:=⟨L.length - i - 1,by omega⟩
 have hne:¬((i:Int) = -1):=by omega
 have hwr:IntKind.i64.wrap ((i:Int)+1)=(i:Int)+1:=by rw [IntKind.wrap_i64];omega
 have D:=ZL W.drew (.slice pL L.length cL) i m rows (by rw [<-hm];exact how) (by rw [<-hm];exact hr.1) hr.flat hr.onesL (by omega)
 have KD:Hid (Calls Tryd.prog 100 #[.slice pL L.length cL,.int .i64 (i:Int),.int .i64 ((i:Int)+1)] W.drew fun e w2=>∃p c nn,e=.returned (.slice p nn c)/\w2.cell? ⟨B,o+4,none⟩=some (.slice pL L.length cL)/\w2.frozen? ⟨B,o+4,none⟩=false/\ByP W B o S (0,mkV (k,n,b,s.data.toList) (L.take i++L.drop (i+1)) E) (.returned (.int .i64 0)) (w2.setCell ⟨B,o+4,none⟩ (.slice p nn c))):=ja (D.mono fun e w2 ⟨v',he,ho,hg,hat⟩=>by
  have hh:=ja1 (v':=v') hB hc h3 hE hd hi g6 g7 bD hr hv hil (by rw [hm];exact ho) hg hat
  have hv':∃p c nn,v'=.slice p nn c:=by
   rcases ho.2 with ⟨h0,_⟩ | ⟨q,c,_,h0,_⟩
   ·exact⟨_,_,_,h0⟩
   ·exact⟨_,c,_,h0⟩
  obtain⟨p,c,nn,rfl⟩:=hv';have hBv:¬some B=(Value.slice pL L.length cL).ownBlock:=fun e=>g6 (hi B (.inl (hv B e.symm).1))
  have eX':w2.heap[B]?=some (.cells cur ty (0,0)):=(hg.block B hlt hBv).trans hB
  exact⟨p,c,nn,he,ji eX' (hc 4 (by omega)),js eX',rfl,hh.1,fun _=>hh.2⟩)
 have HE:=ja ea;clear D ea hc hL hE hd hi g7 g6 g5 h4 h3 h hs bD how hr hv hm
 go_enter Tryd.func98,Tryd.ntmps98
 go_upto_region 3 with fail
 clear s1'
 go_region_with (first
  | (go_at_call 100;refine(jc KD).mono ?_;rintro e w2 ⟨p,c,nn,rfl,G0,G1,hF⟩;have HF:=ja hF;clear hF))
 all_goals
  go_wp2;go_ret;rw [HE.out];exact HF.out
end upds
set_option linter.unusedSimpArgs false
namespace upds
open Go.RowKit Go.Shelf
open valus
open paths (St)
def zo (xk key:List UInt8)(y:V)(t:V):Int×V:=if key≠xk/\0<=idx (fun x=>decide (x=key)) 0 (opn t).2.2 then (9,t) else (0,mkV (opn t).1 (opn t).2.1 (qx key y (jD key (jD xk (opn t).2.2))))
theorem ZW {B o:Nat}{W:World}{S:Nat->Prop}{t:V}(Bs Bk Bw:Nat)(xk:ByteArray)(I:Int)(hI:¬I = -1)(hs:Blk W Bs #[.string xk,.int .i64 I] 60) :
  Calls Tryd.prog 101 #[.pointer (some ⟨B,o,none⟩),.pointer (some ⟨Bs,0,none⟩),.pointer (some ⟨Bk,0,none⟩),.pointer (some ⟨Bw,0,none⟩)] W (ByP W B o S (10,t)):=by
 have s1:=hs.cell 1 _ rfl
 go_enter Tryd.func101,Tryd.ntmps101
 go_wp2;go_ret;exact⟨rfl,Turns.refl _ _,fun h=>by cases h⟩
structure DropP (W WD:World) (B o Bk Bw f:Nat) (pE:Option Addr) (nE cE:Nat) (F:List V) (key:ByteArray) (a0 a1 a2 a3 a4 a5:Value) (p:Option Addr) (c:Nat) (w1:World):Prop where
 below:Below WD.heap.size WD w1
 row:JO (fun b=>b<w1.heap.size) f w1 p F
 cap:F.length<=c/\c<=maxLen
 k:w1.cell? ⟨Bk,0,none⟩=some (.string key)
 v0:w1.cell? ⟨Bw,0,none⟩=some a0
 v1:w1.cell? ⟨Bw,1,none⟩=some a1
 v2:w1.cell? ⟨Bw,2,none⟩=some a2
 v3:w1.cell? ⟨Bw,3,none⟩=some a3
 v4:w1.cell? ⟨Bw,4,none⟩=some a4
 v5:w1.cell? ⟨Bw,5,none⟩=some a5
 e5:w1.cell? ⟨B,o+5,none⟩=some (.slice pE nE cE)
theorem ja5 {N:Nat}{x:Lab}{L E:List V}{k:List UInt8}{e:V}(h:Few N (mkV x L E))(he:e∈jD k E):Few N (jE e).2 :=
 h.part (by rw [jB];exact List.mem_append_right _ (List.mem_map.2 ⟨e,(List.mem_filter.1 he).1,rfl⟩))
theorem QA {n0 B o f' g:Nat}{W:World}{S:Nat->Prop}{k n:Int}{b:Nat}{s:ByteArray}{L E:List V}{pL pE:Option Addr}{cL cE:Nat}{SL SE:Nat->Prop}{cur:Array Value}{ty:Nat}(hB:W.heap[B]?=some (.cells cur ty (0,0)))(hc:∀i,i<6->cur[o+i]?=[Value.int .i64 k,.int .i64 n,.int .u64 (b:Int),.string s,.slice pL L.length cL,.slice pE E.length cE][i]?)
  (h3:(-9223372036854775808<=k/\k<=9223372036854775807)/\(-9223372036854775808<=n/\n<=9223372036854775807)/\b<18446744073709551616/\s.size<=maxLen) (h4:L.length<=cL/\cL<=maxLen/\E.length<=cE/\cE<=maxLen) (hL:RowD 6 26 W (.slice pL L.length cL) L.length SL (QL f' W L)) (hE:RowD 7 57 W (.slice pE E.length cE) E.length SE (QE f' W E)) (hi:∀b,SL b\/SE b->S b) (g6:¬S B) (g7:∀b,S b->n0<=b/\b<W.heap.size) (hnt:Few 1000000 (mkV (k,n,b,s.data.toList) L E))
  (xk key:ByteArray) (hk:key.size<=maxLen) (y:V) (ak an:Int) (ab:Nat) (az:ByteArray) (apL:Option Addr) (anL acL:Nat) (apE:Option Addr) (anE acE:Nat) (Bk Bw:Nat) (hkb:Blk W Bk #[.string key] 9) (hwb:Blk W Bw #[.int .i64 ak,.int .i64 an,.int .u64 (ab:Int),.string az,.slice apL anL acL,.slice apE anE acE] 26) (hl:LiesV (fun b=>b<W.heap.size) g W [.int .i64 ak,.int .i64 an,.int .u64 (ab:Int),.string az,.slice apL anL acL,.slice apE anE acE] y) (hn:Few 1000000 y) (WD:World) (bD:Below W.heap.size W WD) :
  (Calls Tryd.prog 99 #[.slice pE E.length cE,.string xk] WD fun e w1=>∃p c,e=.returned (.slice p (jD xk.data.toList E).length c)/\DropP W WD B o Bk Bw (max f' g) pE E.length cE (jD xk.data.toList E) key (.int .i64 ak) (.int .i64 an) (.int .u64 (ab:Int)) (.string az) (.slice apL anL acL) (.slice apE anE acE) p c w1)/\
  ∀p c w1,DropP W WD B o Bk Bw (max f' g) pE E.length cE (jD xk.data.toList E) key (.int .i64 ak) (.int .i64 an) (.int .u64 (ab:Int)) (.string az) (.slice apL anL acL) (.slice apE anE acE) p c w1->Calls Tryd.prog 102 #[.slice p (jD xk.data.toList E).length c,.string key,.agg #[.int .i64 ak,.int .i64 an,.int .u64 (ab:Int),.string az,.slice apL anL acL,.slice apE anE acE]] w1 fun e w2=>∃p2 c2 nn,e=.returned (.slice p2 nn c2)/\w2.cell? ⟨B,o+5,none⟩=some (.slice pE E.length cE)/\w2.frozen? ⟨B,o+5,none⟩=false/\ByP W B o S (0,mkV (k,n,b,s.data.toList) L (qx key.data.toList y (jD key.data.toList (jD xk.data.toList E)))) (.returned (.int .i64 0)) (w2.setCell ⟨B,o+5,none⟩ (.slice p2 nn c2)):=by
 have hlt:=(Array.getElem?_eq_some_iff.1 hB).1;have hll:=hnt.len;have sD:=bD.size;have hE2:RowD 7 57 W (.slice pE E.length cE) E.length SE (QE (max f' g) W E):=hE.kept (fun _ h=>h) (fun _ _ _=>rfl) (fun i T us _ _ ⟨ky,z,xs,a1,a2,a3,a4⟩=>⟨ky,z,xs,a1,a2,a3,a4.to (Nat.le_max_left _ _)⟩)
 have isV:∀e,e∈E->IsV (max f' g) (jE e).2:=fun e he=>by
  obtain⟨i,hi⟩:=List.mem_iff_getElem?.1 he
  obtain⟨_,_,_,_,_,hk⟩:=qO hE2 (by have:=(List.getElem?_eq_some_iff.1 hi).1;omega);obtain⟨_,_,_,ky,z,xs,a1,_,_,a4⟩:=hk i (List.getElem?_eq_some_iff.1 hi).1;rw [hi] at a1;cases a1
  rw [jv];exact a4.isV
 constructor
 ·have D:=QR (fun b=>b<W.heap.size) (max f' g) WD E pE cE xk ((qO hE2).kept (fun _ h=>h) sD (fun b hb _=>bD.block b hb) (fun i us _ ⟨ky,z,xs,a1,a2,a3,a4⟩=>⟨ky,z,xs,a1,a2,a3,a4.below bD⟩)) h4.2.2.1 h4.2.2.2 (fun b hb=>Nat.lt_of_lt_of_le hb sD) (by omega) (fun e he=>by
   have:=(hnt.part (y:=(jE e).2) (by rw [jB];exact List.mem_append_right _ (List.mem_map.2 ⟨e,he,rfl⟩))).at (isV e he);omega)
  refine D.mono ?_
  rintro e w1 ⟨v,he,⟨P,hO⟩,hb⟩
  obtain⟨p,c,rfl,m1,m2,hR⟩:=hO.row2;have b1:Below W.heap.size W w1:=bD.trans (hb.mono sD);have e1:w1.heap[B]?=some (.cells cur ty (0,0)):=(b1.block B hlt).trans hB
  have hk1:=hkb.below b1;have hw1:=hwb.below b1;exact⟨p,c,he,hb,hR,⟨m1,m2⟩,hk1.cell 0 _ rfl,hw1.cell 0 _ rfl,hw1.cell 1 _ rfl,hw1.cell 2 _ rfl,hw1.cell 3 _ rfl,hw1.cell 4 _ rfl,hw1.cell 5 _ rfl,ji e1 (hc 5 (by omega))⟩
 ·intro p c w1 hD
  have hb:=hD.below;have b1:Below W.heap.size W w1:=bD.trans (hb.mono sD);have hdl:=QI xk.data.toList E
  have P:=YG (fun b=>b<w1.heap.size) (max f' g) w1 (jD xk.data.toList E) p c key y ak an ab az apL anL acL apE anE acE hD.row hD.cap.1 hD.cap.2 (fun b hb=>hb) (by omega) (fun e he=>by
   have:=(ja5 hnt he).at (isV e (List.mem_filter.1 he).1);omega) hk (((hl.below b1).to (Nat.le_max_right _ _)).weaken fun b hb=>Nat.lt_of_lt_of_le hb b1.size) (by have:=hn.at ((hl.to (Nat.le_max_right f' g)).isV);omega)
  refine P.mono ?_
  rintro e w2 ⟨⟨v,he,hv⟩,hb2⟩
  obtain⟨F,hF⟩:∃F,F=qx key.data.toList y (jD key.data.toList (jD xk.data.toList E)):=⟨_,rfl⟩
  rw [<-hF] at hv ⊢;obtain⟨p2,c2,rfl,_,_⟩:=hv.slice;have b2:Below W.heap.size W w2:=b1.trans (hb2.mono b1.size);have e2:w2.heap[B]?=some (.cells cur ty (0,0)):=(b2.block B hlt).trans hB
  have ht:Turns (fun b=>b=B) w2 (w2.setCell ⟨B,o+5,none⟩ (.slice p2 F.length c2)):=Turns.setCell _ _ _ rfl;have h1:=b1.size;refine⟨p2,c2,F.length,he,ji e2 (hc 5 (by omega)),js e2,rfl,jT b2 (ht.mono fun b _ h=>.inl h),fun _=>?_⟩;refine XQ (f2:=max f' g) (vE':=.slice p2 F.length c2) (SE':=fun b=>w1.heap.size<=b/\b<w2.heap.size) hB hc (jL e2 _) h3 hL ?_ (fun b hb hlt'=>(ht.block b (Nat.lt_of_lt_of_le hlt' b2.size) (fun e=>g6 (by rw [<-e];exact hi b (.inl hb)))).trans (b2.block b hlt')) (fun b hb hx=>?_) (fun b hb=>⟨.inr (by omega),Nat.lt_of_lt_of_le hb.2 ht.size⟩) (fun b hb=>hi b (.inl hb)) (fun b hb=>(g7 b hb).2) (Nat.le_trans b2.size ht.size)
  ·exact hv.kept (fun _ h=>h) (fun b hb hlt'=>ht.block b hlt' (fun e=>by omega)) (fun i T us _ hT hq=>QE.same (fun b hb hlt'=>ht.block b hlt' (fun e=>by have:=hT b hb;omega)) i T us (fun _ h=>h) hq)
  ·have:=(g7 b (hi b (.inl hb))).2
   omega
end upds
set_option linter.unusedSimpArgs false
namespace upds
open Go.RowKit Go.Shelf
open valus
open paths (St)
theorem ZO {n0 B o f:Nat}{W:World}{S:Nat->Prop}{t:V}(h:Here n0 W B o S f t)(hnt:Few 1000000 t)(Bs Bk Bw:Nat)(xk key:ByteArray)(hk:key.size<=maxLen)(hs:Blk W Bs #[.string xk,.int .i64 (-1)] 60)(hkb:Blk W Bk #[.string key] 9)(g:Nat)(y:V)(a0 a1 a2 a3 a4 a5:Value)(hwb:Blk W Bw #[a0,a1,a2,a3,a4,a5] 26)(hl:LiesV (fun b=>b<W.heap.size) g W [a0,a1,a2,a3,a4,a5] y)(hn:Few 1000000 y)(heq:key.data.toList≠xk.data.toList)(hidx:0<=idx (fun x=>decide (x=key.data.toList)) 0 (opn t).2.2) :
  Calls Tryd.prog 101 #[.pointer (some ⟨B,o,none⟩),.pointer (some ⟨Bs,0,none⟩),.pointer (some ⟨Bk,0,none⟩),.pointer (some ⟨Bw,0,none⟩)] W (ByP W B o S (zo xk.data.toList key.data.toList y t)):=by
 obtain⟨ak,an,ab,az,apL,anL,acL,apE,anE,acE,rfl,rfl,rfl,rfl,rfl,rfl⟩:=hl.form;obtain⟨k,n,b,s,L,E,pL,pE,cL,cE,SL,SE,cur,ty,f',rfl,rfl,hB,hc,h3,h4,hL,hE,hd,hi,g5,g6,g7⟩:=Here.apart h;have hlt:=(Array.getElem?_eq_some_iff.1 hB).1;have c5:W.cell? ⟨B,o+5,none⟩=some (.slice pE E.length cE):=ji hB (hc 5 (by omega))
 have s0:W.cell? ⟨Bs,0,none⟩=some (.string xk):=hs.cell 0 _ rfl
 have s1:W.cell? ⟨Bs,1,none⟩=some (.int .i64 (-1)):=hs.cell 1 _ rfl
 have k0:W.cell? ⟨Bk,0,none⟩=some (.string key):=hkb.cell 0 _ rfl
 have ea:zo xk.data.toList key.data.toList y (mkV (k,n,b,s.data.toList) L E)=(9,mkV (k,n,b,s.data.toList) L E):=by
  unfold zo;rw [if_pos ⟨heq,hidx⟩]
 have hs2:(key.toList == xk.toList)=false:=by rw [ByteArray.toList_eq,ByteArray.toList_eq];exact beq_eq_false_iff_ne.2 heq
 have HE:=ja ea;have w0:W.cell? ⟨Bw,0,none⟩=some (.int .i64 ak):=hwb.cell 0 _ rfl
 have w1:W.cell? ⟨Bw,1,none⟩=some (.int .i64 an):=hwb.cell 1 _ rfl
 have w2:W.cell? ⟨Bw,2,none⟩=some (.int .u64 (ab:Int)):=hwb.cell 2 _ rfl
 have w3:W.cell? ⟨Bw,3,none⟩=some (.string az):=hwb.cell 3 _ rfl
 have w4:W.cell? ⟨Bw,4,none⟩=some (.slice apL anL acL):=hwb.cell 4 _ rfl
 have w5:W.cell? ⟨Bw,5,none⟩=some (.slice apE anE acE):=hwb.cell 5 _ rfl
 have q0:W.drew.cell? ⟨Bs,0,none⟩=some (.string xk):=s0
 have q1:W.drew.cell? ⟨Bk,0,none⟩=some (.string key):=k0
 have q5:W.drew.cell? ⟨B,o+5,none⟩=some (.slice pE E.length cE):=c5
 rw [jQ] at hidx
 dsimp only at hidx
 have bD0:Below W.heap.size W W.drew:=(Below.refl _ _).drew;have C:=zY (fun b=>b<W.heap.size) f' W.drew E pE cE key ((qO hE).kept (fun _ h=>h) bD0.size (fun b hb _=>bD0.block b hb) (fun i us _ ⟨ky,z,xs,a1,a2,a3,a4⟩=>⟨ky,z,xs,a1,a2,a3,a4.below bD0⟩)) h4.2.2.1 h4.2.2.2;obtain⟨z,hz⟩:∃z,z=idx (fun x=>decide (x=key.data.toList)) 0 E:=⟨_,rfl⟩
 rw [<-hz] at C hidx;have hBs:=hs.lt;have hBk:=hkb.lt;have hBw:=hwb.lt
 have KF:Hid (Calls Tryd.prog 65 #[.slice pE E.length cE,.string key] W.drew fun e wf=>e=.returned (.int .i64 z)/\Below W.heap.size W wf/\wf.cell? ⟨Bs,0,none⟩=some (.string xk)/\wf.cell? ⟨Bk,0,none⟩=some (.string key)/\wf.cell? ⟨B,o+5,none⟩=some (.slice pE E.length cE)/\wf.cell? ⟨Bw,0,none⟩=some (.int .i64 ak)/\wf.cell? ⟨Bw,1,none⟩=some (.int .i64 an)/\wf.cell? ⟨Bw,2,none⟩=some (.int .u64 (ab:Int))/\wf.cell? ⟨Bw,3,none⟩=some (.string az)/\wf.cell? ⟨Bw,4,none⟩=some (.slice apL anL acL)/\wf.cell? ⟨Bw,5,none⟩=some (.slice apE anE acE)):=ja (C.mono fun e wf ⟨he,hb⟩=>by
  have b1:Below W.heap.size W _:=bD0.trans (hb.mono bD0.size);exact⟨he,b1,(b1.cell (p:=⟨Bs,0,none⟩) hBs).trans s0,(b1.cell (p:=⟨Bk,0,none⟩) hBk).trans k0,(b1.cell (p:=⟨B,o+5,none⟩) hlt).trans c5,(b1.cell (p:=⟨Bw,0,none⟩) hBw).trans w0,(b1.cell (p:=⟨Bw,1,none⟩) hBw).trans w1,(b1.cell (p:=⟨Bw,2,none⟩) hBw).trans w2,(b1.cell (p:=⟨Bw,3,none⟩) hBw).trans w3,(b1.cell (p:=⟨Bw,4,none⟩) hBw).trans w4,(b1.cell (p:=⟨Bw,5,none⟩) hBw).trans w5⟩)
 clear ea hc hL hE hd hi g7 g6 g5 h4 h3 h hl hs hkb hwb w0 w1 w2 w3 w4 w5 hn hnt hk hB hlt heq C hz bD0 hBs hBk hBw
 go_enter Tryd.func101,Tryd.ntmps101
 go_upto_region 3 with fail
 go_region_held3 (fun w'=>w'.cell? ⟨Bs,0,none⟩=some (.string xk)/\w'.cell? ⟨Bk,0,none⟩=some (.string key)/\w'.cell? ⟨B,o+5,none⟩=some (.slice pE E.length cE)) (go_keep) (first
  | (go_at_call 65;refine(jc KF).mono ?_;rintro e wf ⟨rfl,hb,i0,i1,i2,i3,i4,i5,i6,i7,i8⟩;have HBF:=ja hb;clear hb))
 all_goals
  go_wp2;go_ret;rw [HE.out];exact⟨rfl,jT HBF.out (Turns.refl _ _),fun h=>by cases h⟩
end upds
set_option linter.unusedSimpArgs false
namespace upds
open Go.RowKit Go.Shelf
open valus
open paths (St jf je qT LiesP jt jq jY zP jl jm)
def ChW (n0 R:Nat)(W:World)(r:Int×V)(e:Ending)(W':World):Prop:=e=.returned (.int .i64 r.1)/\Below n0 W W'/\(r.1=0->RootD n0 R W' r.2)
theorem Here.few {n0 B o f:Nat}{W:World}{S:Nat->Prop}{t:V}(h:Here n0 W B o S f t):IsV f t:=by
 obtain⟨us,cur,ty,_,_,_,hl,_⟩:=h;exact hl.lies.isV
theorem qr {N:Nat}:∀(P:List St) {f:Nat} {t y:V},(∀x,x∈P->x.2 = -1\/0<=x.2)->IsV f t->Few N t->je t P=.inl y->Few N y
 | [],f,t,y,_,_,h,e=>by
  have e':(Sum.inl t:V⊕Int)=.inl y:=e;injection e' with e';rw [<-e'];exact h
 | x :: P,f,t,y,hI,ht,h,e=>by
  have hI0:=hI x (by simp);have e':qT (jf t x) P=.inl y:=e;cases hp:jf t x with
  | inr er=>rw [hp] at e';exact absurd (show(Sum.inr er:V⊕Int)=.inl y from e') (by simp)
  | inl z=>
   rw [hp] at e'
   have hz:z∈parts t:=by
    cases f with
    | zero=>exact ht.elim
    | succ f=>
     obtain⟨lab,L,E,rfl,_⟩:=ht;rw [jB];unfold jf at hp;rw [jQ] at hp
     dsimp only at hp
     split at hp
     ·split at hp
      ·cases hp
      ·split at hp
       ·cases hp
       ·rename_i h1 h2
        injection hp with hp;rw [<-hp];have:=paths.ZQ (fun k=>decide (k=x.1)) E 0;have hl:(idx (fun k=>decide (k=x.1)) 0 E).toNat<E.length:=by omega
        rw [List.getD_eq_getElem?_getD,List.getElem?_eq_getElem hl];exact List.mem_append_right _ (List.mem_map.2 ⟨_,List.getElem_mem hl,rfl⟩)
     ·split at hp
      ·cases hp
      ·split at hp
       ·cases hp
       ·rename_i h0 h1 h2
        injection hp with hp;rw [<-hp]
        by_cases hl:x.2.toNat<L.length
        ·rw [List.getD_eq_getElem?_getD,List.getElem?_eq_getElem hl]
         exact List.mem_append_left _ (List.getElem_mem hl)
        ·rcases hI0 with hI0 | hI0
         ·exact absurd hI0 h0
         ·exact absurd hl (by omega)
   have hiz:∃g,IsV g z:=by
    cases f with
    | zero=>exact ht.elim
    | succ f=>exact⟨f,ht.part hz⟩
   obtain⟨g,hg⟩:=hiz;exact qr P (fun x hx=>hI x (by simp [hx])) hg (h.part hz) e'
theorem zJ {n0 R B o f:Nat}{W:World}{S:Nat->Prop}{t u y:V}{Q:List St}{x:St}(h:Here n0 W B o S f u)(hH:Hole n0 R W B o S (j6 t Q))(hQ:je t Q=.inl u)(hx:jf u x=.inl y)(hI:x.2 = -1\/0<=x.2):∃B2 o2 f2 S2 c,Here n0 W B2 o2 S2 f2 y/\Hole n0 R W B2 o2 S2 (j6 t (Q++[x]))/\
  ((x.2 = -1/\∃j:Nat,o2=j*7+1/\j<(opn u).2.2.length/\idx (fun k=>decide (k=x.1)) 0 (opn u).2.2=(j:Int)/\W.cell? ⟨B,o+5,none⟩=some (.slice (some ⟨B2,0,none⟩) (opn u).2.2.length c)/\∃g,JO (fun b=>b<W.heap.size) g W (some ⟨B2,0,none⟩) (opn u).2.2/\(opn u).2.2.length<=c/\c<=maxLen)\/
   (∃j:Nat,x.2=(j:Int)/\o2=j*6/\j<(opn u).2.1.length/\W.cell? ⟨B,o+4,none⟩=some (.slice (some ⟨B2,0,none⟩) (opn u).2.1.length c))):=by
 have eS:∀z,j6 t (Q++[x]) z=j6 t Q (zl u x z):=fun z=>by
  rw [XG Q t [x] u z hQ]
  show j6 t Q (match jf u x with | .inl w=>zl u x (j6 w [] z) | .inr _=>u)=_
  rw [hx];rfl
 rcases qX (Here.few h) hx with ⟨h1,j,h2,h3⟩ | ⟨h1,h2⟩
 ·obtain⟨B2,c,f2,S2,k1,k2,k3⟩:=h.entry hH h2
  refine⟨B2,j*7+1,f2,S2,c,k2,?_,.inl ⟨h1,j,rfl,(List.getElem?_eq_some_iff.1 h2).1,h3,k1,?_⟩⟩
  ·have:j6 t (Q++[x])=fun z=>j6 t Q (mkV (opn u).1 (opn u).2.1 ((opn u).2.2.set j (ent x.1 z))):=funext fun z=>by
    rw [eS,zl,if_pos h1,h3,Int.toNat_natCast]
   rw [this];exact k3
  ·obtain⟨k,n,b,s,L,E,pL,pE,cL,cE,SL,SE,cur,ty,f',rfl,rfl,hB,hc,_,h4,hL,hE,_⟩:=Here.apart h
   have e5:W.cell? ⟨B,o+5,none⟩=some (.slice pE E.length cE):=ji hB (hc 5 (by omega))
   rw [e5] at k1;rw [jQ] at k1 ⊢;cases k1
   exact⟨f',qO hE,h4.2.2.1,h4.2.2.2⟩
 ·obtain⟨j,hj⟩:∃j:Nat,x.2=(j:Int):=⟨x.2.toNat,by rcases hI with h | h<;>omega⟩
  obtain⟨h3,h4⟩:=h2 (by omega);rw [hj,Int.toNat_natCast] at h3;obtain⟨B2,c,f2,S2,k1,k2,k3⟩:=h.elem hH h3;refine⟨B2,j*6,f2,S2,c,k2,?_,.inr ⟨j,hj,rfl,by omega,k1⟩⟩
  have:j6 t (Q++[x])=fun z=>j6 t Q (mkV (opn u).1 ((opn u).2.1.set j z) (opn u).2.2):=funext fun z=>by
   rw [eS,zl,if_neg h1,hj,Int.toNat_natCast]
  rw [this];exact k3
theorem XW {n0 R:Nat}{W:World}{t:V}(h:RootD n0 R W t)(hn0:n0<=W.heap.size)(hnt:Few 1000000 t)(p:Option Addr)(c:Nat)(P:List St)(hP:LiesP W p P)(hPl:P.length<=20)(hck:jq P=0)(hT:jt W)(c0:Nat)(G:V->Int×V)(hBy:∀W1 B o S f y,Below W.heap.size W W1->Here n0 W1 B o S f y->je t P=.inl y->Calls Tryd.prog 93 #[.pointer (some ⟨B,o,none⟩),.pointer (some ⟨c0,0,none⟩)] W1 (ByP W1 B o S (G y))) :
  Calls Tryd.prog 78 #[.pointer (some ⟨R,0,none⟩),.slice p P.length c,.func (.func 93) #[] #[.pointer (some ⟨c0,0,none⟩)]] W (ChW n0 R W (jj G t P)):=by
 obtain⟨fr,Sr,x0,x1,x2,x3,x4,x5,hRB,hRl,hR0,hRS⟩:=h;have hroot:RootD n0 R W t:=⟨fr,Sr,x0,x1,x2,x3,x4,x5,hRB,hRl,hR0,hRS⟩
 obtain⟨vk,vn,vb,vs,vpL,vnL,vcL,vpE,vnE,vcE,rfl,rfl,rfl,rfl,rfl,rfl⟩:=hRl.lies.form;have r0:=hRB.cell 0 _ rfl;have r1:=hRB.cell 1 _ rfl;have r2:=hRB.cell 2 _ rfl;have r3:=hRB.cell 3 _ rfl;have r4:=hRB.cell 4 _ rfl;have r5:=hRB.cell 5 _ rfl;have KG:=ja (zP 10000000 (Nat.le_refl _) W fr t _ _ _ _ _ _ (hRl.lies.weaken fun b h=>h.2) (by have:=hnt.at hRl.lies.isV;omega) p c P hP (by omega) hT);have hlp:jY t P=je t P:=by unfold jY;rw [if_pos hck]
 rw [hlp] at KG;have HALL:=ja (jl hck).2;have HP:=ja hP;have HB:=ja hBy;have HRT:=ja hroot;clear hRl hRS hroot hBy hP hlp hRB hT
 go_enter Tryd.func78,Tryd.ntmps78
 go_wp2_with fail
 refine(jc KG).mono ?_
 rintro e w1 ⟨h1,b1⟩
 rcases h1 with ⟨y0,g0,x0,x1,x2,x3,x4,x5,hy0,rfl,hl0,hn0'⟩ | ⟨er,her,hne,rfl⟩
 ·have HY0:=ja hy0
  have B1:=ja b1;obtain⟨f1,S1,hH1,hO1⟩:=(HRT.out.below b1).here;have HH1:=ja hH1;have HO1:=ja hO1;obtain⟨yk,yn,yb,ys,ypL,ynL,ycL,ypE,ynE,ycE,rfl,rfl,rfl,rfl,rfl,rfl⟩:=hl0.form;clear hH1 hO1 b1 hl0 hn0' hy0 KG r0 r1 r2 r3 r4 r5;go_wp2
  go_loopw [9,26] (fun h i wr=>∃(j B o f:Nat) (S:Nat->Prop) (y:V),i=.int .i64 j/\j<=P.length/\h=.pointer (some ⟨B,o,none⟩)/\Hid (Here n0 wr B o S f y)/\Hid (Hole n0 R wr B o S (j6 t (P.take j)))/\Hid (je t (P.take j)=.inl y)/\Below W.heap.size W wr) (fun _ i _=>P.length - (intOf i).toNat)
  case atStart=>exact⟨0,R,0,f1,S1,t,rfl,Nat.zero_le _,rfl,ja (HH1.out.below ((Below.refl _ _).alloc (Nat.le_refl _) _)),ja (HO1.out.below ((Below.refl _ _).alloc (Nat.le_refl _) _) (by obtain⟨_,_,_,hh,_⟩:=HH1.out;exact(Array.getElem?_eq_some_iff.1 hh).1)),ja rfl,B1.out.alloc B1.out.size _⟩
  case round=>
   obtain⟨j,B,o,f,S,y,rfl,hj,rfl,HH,HO,HQ,hbw⟩:=hrel;have hws:=hbw.size
   by_cases hlt:j<P.length
   ·obtain⟨Bp,op,key,rfl,hBp,hk1,hk2,hk3,e0,e1⟩:=HP.out.at hlt
    have q0:=(hbw.cell (p:=⟨Bp,op+j*2,none⟩) hBp).trans e0;have q1:=(hbw.cell (p:=⟨Bp,op+j*2+1,none⟩) hBp).trans e1;have hIj:=(jm (HALL.out _ (List.getElem_mem hlt))).2.1;have hsp:je t P=qT (je t (P.take j)) (P[j] :: P.drop (j+1)):=by rw [<-List.drop_eq_getElem_cons hlt,<-paths.jR,List.take_append_drop]
    rw [HQ.out,HY0.out] at hsp
    obtain⟨z,hz⟩:∃z,jf y P[j]=.inl z:=by
     have hsp':(Sum.inl y0:V⊕Int)=qT (jf y P[j]) (P.drop (j+1)):=hsp;cases hp:jf y P[j] with
     | inl z=>exact⟨z,rfl⟩
     | inr er=>rw [hp] at hsp';exact absurd (show(Sum.inl y0:V⊕Int)=.inr er from hsp') (by simp)
    have hlz:je t (P.take (j+1))=.inl z:=by
     rw [List.take_succ_eq_append_getElem hlt,paths.jR,HQ.out]
     show qT (jf y P[j]) []=_
     rw [hz];rfl
    obtain⟨wS,hwS⟩:∃wS,wS=wr.alloc (.cells #[.string key,.int .i64 (P[j]).2] 60):=⟨_,rfl⟩
    have bS:Below wr.heap.size wr wS:=by rw [hwS];exact(Below.refl _ wr).alloc (Nat.le_refl _) _
    have hBlt:B<wr.heap.size:=by obtain⟨_,_,_,hh,_⟩:=HH.out;exact(Array.getElem?_eq_some_iff.1 hh).1
    obtain⟨B2,o2,f2,S2,cc,hH2,hO2,hcase⟩:=zJ (HH.out.below bS) (HO.out.below bS hBlt) HQ.out hz (hIj.imp id And.left);rw [<-List.take_succ_eq_append_getElem hlt] at hO2
    have KP:Hid (Calls Tryd.prog 92 #[.pointer (some ⟨B,o,none⟩),.agg #[.string key,.int .i64 (P[j]).2]] wS fun e w'=>e=.returned (.pointer (some ⟨B2,o2,none⟩))/\Below wS.heap.size wS w'):=ja (by
     rcases hcase with ⟨g1,i,rfl,g2,g3,g4,g,g5,g6,g7⟩ | ⟨i,g1,rfl,g2,g3⟩
     ·rw [g1]
      rw [<-hk1] at g3;exact zd wS B o B2 g cc _ key i g4 g5 g6 g7 g2 g3
     ·rw [g1]
      exact zL wS B o B2 _ cc key i g3 g2)
    have HH2:=ja hH2;have HO2:=ja hO2;have HL2:=ja hlz;have HBS:=ja (hbw.trans (bS.mono hws));have hB2:Hid (B2<wS.heap.size):=ja (by obtain⟨_,_,_,hh,_⟩:=hH2;exact(Array.getElem?_eq_some_iff.1 hh).1);have HWS:=ja hwS;rw [hwS] at KP;clear hcase hH2 hO2 hlz hz hsp hIj hk1 hk2 hk3 e0 e1 bS hBlt HH HO HQ hws hwS;generalize (P[j]).2=xi at *
    go_wp2_with fail
    refine(jc KP).mono ?_
    rintro _ w2 ⟨rfl,b2⟩
    rw [<-HWS.out] at b2;have HH3:=ja (HH2.out.below b2);have HO3:=ja (HO2.out.below b2 hB2.out);have B3:=ja (HBS.out.trans (b2.mono HBS.out.size));clear b2 HH2 HO2 HBS KP HWS hB2;go_wp2;go_roundw
    case rel=>exact⟨j+1,B2,o2,f2,S2,z,by go_num,by omega,rfl,HH3,HO3,HL2,B3.out⟩
    case measure=>simp only [intOf];omega
   ·have hjP:j=P.length:=by omega
    have hQ:=HQ.out;rw [hjP,List.take_length] at hQ;have KB:=ja (HB.out wr B o S f y hbw HH.out hQ);have hO:=HO.out;rw [hjP,List.take_length] at hO;have HO4:=ja hO;have HE:Hid (jj G t P=((G y).1,j6 t P (G y).2)):=ja (by unfold jj;rw [hQ]);have HBW:=ja hbw
    have HNB:Hid (n0<=B/\∀b,S b->n0<=b):=ja (by
     obtain⟨_,_,_,_,_,_,_,k1,_,k2⟩:=HH.out;exact⟨k1,fun b hb=>(k2 b hb).1⟩)
    clear hQ hO HO HH HQ hbw hws
    go_wp2_with (go_at_call 93;refine(jc KB).mono ?_;rintro e w2 ⟨rfl,hT2,hD2⟩;have HT2:=ja hT2;have HD2:=ja hD2;clear hT2 hD2)
    go_ret;rw [HE.out];refine⟨rfl,?_,fun h=>HO4.out _ _ HT2.out (HD2.out h)⟩;exact(HBW.out.mono hn0).trans (HT2.out.below (n:=n0) (Nat.le_trans hn0 HBW.out.size) (fun b hb=>hb.elim (fun e=>by rw [e];exact HNB.out.1) (HNB.out.2 b)))
 ·have HE:Hid (jj G t P=(er,t)):=ja (by unfold jj;rw [her])
  have hne2:(er != 0)=true:=bne_iff_ne.2 hne;have B1:=ja b1;clear her b1 KG r0 r1 r2 r3 r4 r5;go_wp2;go_ret;rw [HE.out];exact⟨rfl,((B1.out.alloc B1.out.size _).mono hn0),fun h=>absurd h hne⟩
theorem XZ {n0 R:Nat}{W:World}{t:V}(h:RootD n0 R W t)(hn0:n0<=W.heap.size)(hnt:Few 1000000 t)(p:Option Addr)(c:Nat)(P:List St)(hP:LiesP W p P)(hPl:P.length<=20)(hck:jq P=0)(hT:jt W)(c0 c1:Nat)(G:V->Int×V)(hBy:∀W1 B o S f y,Below W.heap.size W W1->Here n0 W1 B o S f y->je t P=.inl y->Calls Tryd.prog 94 #[.pointer (some ⟨B,o,none⟩),.pointer (some ⟨c0,0,none⟩),.pointer (some ⟨c1,0,none⟩)] W1 (ByP W1 B o S (G y))) :
  Calls Tryd.prog 78 #[.pointer (some ⟨R,0,none⟩),.slice p P.length c,.func (.func 94) #[] #[.pointer (some ⟨c0,0,none⟩),.pointer (some ⟨c1,0,none⟩)]] W (ChW n0 R W (jj G t P)):=by
 obtain⟨fr,Sr,x0,x1,x2,x3,x4,x5,hRB,hRl,hR0,hRS⟩:=h;have hroot:RootD n0 R W t:=⟨fr,Sr,x0,x1,x2,x3,x4,x5,hRB,hRl,hR0,hRS⟩
 obtain⟨vk,vn,vb,vs,vpL,vnL,vcL,vpE,vnE,vcE,rfl,rfl,rfl,rfl,rfl,rfl⟩:=hRl.lies.form;have r0:=hRB.cell 0 _ rfl;have r1:=hRB.cell 1 _ rfl;have r2:=hRB.cell 2 _ rfl;have r3:=hRB.cell 3 _ rfl;have r4:=hRB.cell 4 _ rfl;have r5:=hRB.cell 5 _ rfl;have KG:=ja (zP 10000000 (Nat.le_refl _) W fr t _ _ _ _ _ _ (hRl.lies.weaken fun b h=>h.2) (by have:=hnt.at hRl.lies.isV;omega) p c P hP (by omega) hT);have hlp:jY t P=je t P:=by unfold jY;rw [if_pos hck]
 rw [hlp] at KG;have HALL:=ja (jl hck).2;have HP:=ja hP;have HB:=ja hBy;have HRT:=ja hroot;clear hRl hRS hroot hBy hP hlp hRB hT
 go_enter Tryd.func78,Tryd.ntmps78
 go_wp2_with fail
 refine(jc KG).mono ?_
 rintro e w1 ⟨h1,b1⟩
 rcases h1 with ⟨y0,g0,x0,x1,x2,x3,x4,x5,hy0,rfl,hl0,hn0'⟩ | ⟨er,her,hne,rfl⟩
 ·have HY0:=ja hy0
  have B1:=ja b1;obtain⟨f1,S1,hH1,hO1⟩:=(HRT.out.below b1).here;have HH1:=ja hH1;have HO1:=ja hO1;obtain⟨yk,yn,yb,ys,ypL,ynL,ycL,ypE,ynE,ycE,rfl,rfl,rfl,rfl,rfl,rfl⟩:=hl0.form;clear hH1 hO1 b1 hl0 hn0' hy0 KG r0 r1 r2 r3 r4 r5;go_wp2
  go_loopw [9,26] (fun h i wr=>∃(j B o f:Nat) (S:Nat->Prop) (y:V),i=.int .i64 j/\j<=P.length/\h=.pointer (some ⟨B,o,none⟩)/\Hid (Here n0 wr B o S f y)/\Hid (Hole n0 R wr B o S (j6 t (P.take j)))/\Hid (je t (P.take j)=.inl y)/\Below W.heap.size W wr) (fun _ i _=>P.length - (intOf i).toNat)
  case atStart=>exact⟨0,R,0,f1,S1,t,rfl,Nat.zero_le _,rfl,ja (HH1.out.below ((Below.refl _ _).alloc (Nat.le_refl _) _)),ja (HO1.out.below ((Below.refl _ _).alloc (Nat.le_refl _) _) (by obtain⟨_,_,_,hh,_⟩:=HH1.out;exact(Array.getElem?_eq_some_iff.1 hh).1)),ja rfl,B1.out.alloc B1.out.size _⟩
  case round=>
   obtain⟨j,B,o,f,S,y,rfl,hj,rfl,HH,HO,HQ,hbw⟩:=hrel;have hws:=hbw.size
   by_cases hlt:j<P.length
   ·obtain⟨Bp,op,key,rfl,hBp,hk1,hk2,hk3,e0,e1⟩:=HP.out.at hlt
    have q0:=(hbw.cell (p:=⟨Bp,op+j*2,none⟩) hBp).trans e0;have q1:=(hbw.cell (p:=⟨Bp,op+j*2+1,none⟩) hBp).trans e1;have hIj:=(jm (HALL.out _ (List.getElem_mem hlt))).2.1;have hsp:je t P=qT (je t (P.take j)) (P[j] :: P.drop (j+1)):=by rw [<-List.drop_eq_getElem_cons hlt,<-paths.jR,List.take_append_drop]
    rw [HQ.out,HY0.out] at hsp
    obtain⟨z,hz⟩:∃z,jf y P[j]=.inl z:=by
     have hsp':(Sum.inl y0:V⊕Int)=qT (jf y P[j]) (P.drop (j+1)):=hsp;cases hp:jf y P[j] with
     | inl z=>exact⟨z,rfl⟩
     | inr er=>rw [hp] at hsp';exact absurd (show(Sum.inl y0:V⊕Int)=.inr er from hsp') (by simp)
    have hlz:je t (P.take (j+1))=.inl z:=by
     rw [List.take_succ_eq_append_getElem hlt,paths.jR,HQ.out]
     show qT (jf y P[j]) []=_
     rw [hz];rfl
    obtain⟨wS,hwS⟩:∃wS,wS=wr.alloc (.cells #[.string key,.int .i64 (P[j]).2] 60):=⟨_,rfl⟩
    have bS:Below wr.heap.size wr wS:=by rw [hwS];exact(Below.refl _ wr).alloc (Nat.le_refl _) _
    have hBlt:B<wr.heap.size:=by obtain⟨_,_,_,hh,_⟩:=HH.out;exact(Array.getElem?_eq_some_iff.1 hh).1
    obtain⟨B2,o2,f2,S2,cc,hH2,hO2,hcase⟩:=zJ (HH.out.below bS) (HO.out.below bS hBlt) HQ.out hz (hIj.imp id And.left);rw [<-List.take_succ_eq_append_getElem hlt] at hO2
    have KP:Hid (Calls Tryd.prog 92 #[.pointer (some ⟨B,o,none⟩),.agg #[.string key,.int .i64 (P[j]).2]] wS fun e w'=>e=.returned (.pointer (some ⟨B2,o2,none⟩))/\Below wS.heap.size wS w'):=ja (by
     rcases hcase with ⟨g1,i,rfl,g2,g3,g4,g,g5,g6,g7⟩ | ⟨i,g1,rfl,g2,g3⟩
     ·rw [g1]
      rw [<-hk1] at g3;exact zd wS B o B2 g cc _ key i g4 g5 g6 g7 g2 g3
     ·rw [g1]
      exact zL wS B o B2 _ cc key i g3 g2)
    have HH2:=ja hH2;have HO2:=ja hO2;have HL2:=ja hlz;have HBS:=ja (hbw.trans (bS.mono hws));have hB2:Hid (B2<wS.heap.size):=ja (by obtain⟨_,_,_,hh,_⟩:=hH2;exact(Array.getElem?_eq_some_iff.1 hh).1);have HWS:=ja hwS;rw [hwS] at KP;clear hcase hH2 hO2 hlz hz hsp hIj hk1 hk2 hk3 e0 e1 bS hBlt HH HO HQ hws hwS;generalize (P[j]).2=xi at *
    go_wp2_with fail
    refine(jc KP).mono ?_
    rintro _ w2 ⟨rfl,b2⟩
    rw [<-HWS.out] at b2;have HH3:=ja (HH2.out.below b2);have HO3:=ja (HO2.out.below b2 hB2.out);have B3:=ja (HBS.out.trans (b2.mono HBS.out.size));clear b2 HH2 HO2 HBS KP HWS hB2;go_wp2;go_roundw
    case rel=>exact⟨j+1,B2,o2,f2,S2,z,by go_num,by omega,rfl,HH3,HO3,HL2,B3.out⟩
    case measure=>simp only [intOf];omega
   ·have hjP:j=P.length:=by omega
    have hQ:=HQ.out;rw [hjP,List.take_length] at hQ;have KB:=ja (HB.out wr B o S f y hbw HH.out hQ);have hO:=HO.out;rw [hjP,List.take_length] at hO;have HO4:=ja hO;have HE:Hid (jj G t P=((G y).1,j6 t P (G y).2)):=ja (by unfold jj;rw [hQ]);have HBW:=ja hbw
    have HNB:Hid (n0<=B/\∀b,S b->n0<=b):=ja (by
     obtain⟨_,_,_,_,_,_,_,k1,_,k2⟩:=HH.out;exact⟨k1,fun b hb=>(k2 b hb).1⟩)
    clear hQ hO HO HH HQ hbw hws
    go_wp2_with (go_at_call 94;refine(jc KB).mono ?_;rintro e w2 ⟨rfl,hT2,hD2⟩;have HT2:=ja hT2;have HD2:=ja hD2;clear hT2 hD2)
    go_ret;rw [HE.out];refine⟨rfl,?_,fun h=>HO4.out _ _ HT2.out (HD2.out h)⟩;exact(HBW.out.mono hn0).trans (HT2.out.below (n:=n0) (Nat.le_trans hn0 HBW.out.size) (fun b hb=>hb.elim (fun e=>by rw [e];exact HNB.out.1) (HNB.out.2 b)))
 ·have HE:Hid (jj G t P=(er,t)):=ja (by unfold jj;rw [her])
  have hne2:(er != 0)=true:=bne_iff_ne.2 hne;have B1:=ja b1;clear her b1 KG r0 r1 r2 r3 r4 r5;go_wp2;go_ret;rw [HE.out];exact⟨rfl,((B1.out.alloc B1.out.size _).mono hn0),fun h=>absurd h hne⟩
theorem XR {n0 R:Nat}{W:World}{t:V}(h:RootD n0 R W t)(hn0:n0<=W.heap.size)(hnt:Few 1000000 t)(p:Option Addr)(c:Nat)(P:List St)(hP:LiesP W p P)(hPl:P.length<=20)(hck:jq P=0)(hT:jt W)(c0 c1:Nat)(G:V->Int×V)(hBy:∀W1 B o S f y,Below W.heap.size W W1->Here n0 W1 B o S f y->je t P=.inl y->Calls Tryd.prog 96 #[.pointer (some ⟨B,o,none⟩),.pointer (some ⟨c0,0,none⟩),.pointer (some ⟨c1,0,none⟩)] W1 (ByP W1 B o S (G y))) :
  Calls Tryd.prog 78 #[.pointer (some ⟨R,0,none⟩),.slice p P.length c,.func (.func 96) #[] #[.pointer (some ⟨c0,0,none⟩),.pointer (some ⟨c1,0,none⟩)]] W (ChW n0 R W (jj G t P)):=by
 obtain⟨fr,Sr,x0,x1,x2,x3,x4,x5,hRB,hRl,hR0,hRS⟩:=h;have hroot:RootD n0 R W t:=⟨fr,Sr,x0,x1,x2,x3,x4,x5,hRB,hRl,hR0,hRS⟩
 obtain⟨vk,vn,vb,vs,vpL,vnL,vcL,vpE,vnE,vcE,rfl,rfl,rfl,rfl,rfl,rfl⟩:=hRl.lies.form;have r0:=hRB.cell 0 _ rfl;have r1:=hRB.cell 1 _ rfl;have r2:=hRB.cell 2 _ rfl;have r3:=hRB.cell 3 _ rfl;have r4:=hRB.cell 4 _ rfl;have r5:=hRB.cell 5 _ rfl;have KG:=ja (zP 10000000 (Nat.le_refl _) W fr t _ _ _ _ _ _ (hRl.lies.weaken fun b h=>h.2) (by have:=hnt.at hRl.lies.isV;omega) p c P hP (by omega) hT);have hlp:jY t P=je t P:=by unfold jY;rw [if_pos hck]
 rw [hlp] at KG;have HALL:=ja (jl hck).2;have HP:=ja hP;have HB:=ja hBy;have HRT:=ja hroot;clear hRl hRS hroot hBy hP hlp hRB hT
 go_enter Tryd.func78,Tryd.ntmps78
 go_wp2_with fail
 refine(jc KG).mono ?_
 rintro e w1 ⟨h1,b1⟩
 rcases h1 with ⟨y0,g0,x0,x1,x2,x3,x4,x5,hy0,rfl,hl0,hn0'⟩ | ⟨er,her,hne,rfl⟩
 ·have HY0:=ja hy0
  have B1:=ja b1;obtain⟨f1,S1,hH1,hO1⟩:=(HRT.out.below b1).here;have HH1:=ja hH1;have HO1:=ja hO1;obtain⟨yk,yn,yb,ys,ypL,ynL,ycL,ypE,ynE,ycE,rfl,rfl,rfl,rfl,rfl,rfl⟩:=hl0.form;clear hH1 hO1 b1 hl0 hn0' hy0 KG r0 r1 r2 r3 r4 r5;go_wp2
  go_loopw [9,26] (fun h i wr=>∃(j B o f:Nat) (S:Nat->Prop) (y:V),i=.int .i64 j/\j<=P.length/\h=.pointer (some ⟨B,o,none⟩)/\Hid (Here n0 wr B o S f y)/\Hid (Hole n0 R wr B o S (j6 t (P.take j)))/\Hid (je t (P.take j)=.inl y)/\Below W.heap.size W wr) (fun _ i _=>P.length - (intOf i).toNat)
  case atStart=>exact⟨0,R,0,f1,S1,t,rfl,Nat.zero_le _,rfl,ja (HH1.out.below ((Below.refl _ _).alloc (Nat.le_refl _) _)),ja (HO1.out.below ((Below.refl _ _).alloc (Nat.le_refl _) _) (by obtain⟨_,_,_,hh,_⟩:=HH1.out;exact(Array.getElem?_eq_some_iff.1 hh).1)),ja rfl,B1.out.alloc B1.out.size _⟩
  case round=>
   obtain⟨j,B,o,f,S,y,rfl,hj,rfl,HH,HO,HQ,hbw⟩:=hrel;have hws:=hbw.size
   by_cases hlt:j<P.length
   ·obtain⟨Bp,op,key,rfl,hBp,hk1,hk2,hk3,e0,e1⟩:=HP.out.at hlt
    have q0:=(hbw.cell (p:=⟨Bp,op+j*2,none⟩) hBp).trans e0;have q1:=(hbw.cell (p:=⟨Bp,op+j*2+1,none⟩) hBp).trans e1;have hIj:=(jm (HALL.out _ (List.getElem_mem hlt))).2.1;have hsp:je t P=qT (je t (P.take j)) (P[j] :: P.drop (j+1)):=by rw [<-List.drop_eq_getElem_cons hlt,<-paths.jR,List.take_append_drop]
    rw [HQ.out,HY0.out] at hsp
    obtain⟨z,hz⟩:∃z,jf y P[j]=.inl z:=by
     have hsp':(Sum.inl y0:V⊕Int)=qT (jf y P[j]) (P.drop (j+1)):=hsp;cases hp:jf y P[j] with
     | inl z=>exact⟨z,rfl⟩
     | inr er=>rw [hp] at hsp';exact absurd (show(Sum.inl y0:V⊕Int)=.inr er from hsp') (by simp)
    have hlz:je t (P.take (j+1))=.inl z:=by
     rw [List.take_succ_eq_append_getElem hlt,paths.jR,HQ.out]
     show qT (jf y P[j]) []=_
     rw [hz];rfl
    obtain⟨wS,hwS⟩:∃wS,wS=wr.alloc (.cells #[.string key,.int .i64 (P[j]).2] 60):=⟨_,rfl⟩
    have bS:Below wr.heap.size wr wS:=by rw [hwS];exact(Below.refl _ wr).alloc (Nat.le_refl _) _
    have hBlt:B<wr.heap.size:=by obtain⟨_,_,_,hh,_⟩:=HH.out;exact(Array.getElem?_eq_some_iff.1 hh).1
    obtain⟨B2,o2,f2,S2,cc,hH2,hO2,hcase⟩:=zJ (HH.out.below bS) (HO.out.below bS hBlt) HQ.out hz (hIj.imp id And.left);rw [<-List.take_succ_eq_append_getElem hlt] at hO2
    have KP:Hid (Calls Tryd.prog 92 #[.pointer (some ⟨B,o,none⟩),.agg #[.string key,.int .i64 (P[j]).2]] wS fun e w'=>e=.returned (.pointer (some ⟨B2,o2,none⟩))/\Below wS.heap.size wS w'):=ja (by
     rcases hcase with ⟨g1,i,rfl,g2,g3,g4,g,g5,g6,g7⟩ | ⟨i,g1,rfl,g2,g3⟩
     ·rw [g1]
      rw [<-hk1] at g3;exact zd wS B o B2 g cc _ key i g4 g5 g6 g7 g2 g3
     ·rw [g1]
      exact zL wS B o B2 _ cc key i g3 g2)
    have HH2:=ja hH2;have HO2:=ja hO2;have HL2:=ja hlz;have HBS:=ja (hbw.trans (bS.mono hws));have hB2:Hid (B2<wS.heap.size):=ja (by obtain⟨_,_,_,hh,_⟩:=hH2;exact(Array.getElem?_eq_some_iff.1 hh).1);have HWS:=ja hwS;rw [hwS] at KP;clear hcase hH2 hO2 hlz hz hsp hIj hk1 hk2 hk3 e0 e1 bS hBlt HH HO HQ hws hwS;generalize (P[j]).2=xi at *
    go_wp2_with fail
    refine(jc KP).mono ?_
    rintro _ w2 ⟨rfl,b2⟩
    rw [<-HWS.out] at b2;have HH3:=ja (HH2.out.below b2);have HO3:=ja (HO2.out.below b2 hB2.out);have B3:=ja (HBS.out.trans (b2.mono HBS.out.size));clear b2 HH2 HO2 HBS KP HWS hB2;go_wp2;go_roundw
    case rel=>exact⟨j+1,B2,o2,f2,S2,z,by go_num,by omega,rfl,HH3,HO3,HL2,B3.out⟩
    case measure=>simp only [intOf];omega
   ·have hjP:j=P.length:=by omega
    have hQ:=HQ.out;rw [hjP,List.take_length] at hQ;have KB:=ja (HB.out wr B o S f y hbw HH.out hQ);have hO:=HO.out;rw [hjP,List.take_length] at hO;have HO4:=ja hO;have HE:Hid (jj G t P=((G y).1,j6 t P (G y).2)):=ja (by unfold jj;rw [hQ]);have HBW:=ja hbw
    have HNB:Hid (n0<=B/\∀b,S b->n0<=b):=ja (by
     obtain⟨_,_,_,_,_,_,_,k1,_,k2⟩:=HH.out;exact⟨k1,fun b hb=>(k2 b hb).1⟩)
    clear hQ hO HO HH HQ hbw hws
    go_wp2_with (go_at_call 96;refine(jc KB).mono ?_;rintro e w2 ⟨rfl,hT2,hD2⟩;have HT2:=ja hT2;have HD2:=ja hD2;clear hT2 hD2)
    go_ret;rw [HE.out];refine⟨rfl,?_,fun h=>HO4.out _ _ HT2.out (HD2.out h)⟩;exact(HBW.out.mono hn0).trans (HT2.out.below (n:=n0) (Nat.le_trans hn0 HBW.out.size) (fun b hb=>hb.elim (fun e=>by rw [e];exact HNB.out.1) (HNB.out.2 b)))
 ·have HE:Hid (jj G t P=(er,t)):=ja (by unfold jj;rw [her])
  have hne2:(er != 0)=true:=bne_iff_ne.2 hne;have B1:=ja b1;clear her b1 KG r0 r1 r2 r3 r4 r5;go_wp2;go_ret;rw [HE.out];exact⟨rfl,((B1.out.alloc B1.out.size _).mono hn0),fun h=>absurd h hne⟩
theorem Xe {n0 R:Nat}{W:World}{t:V}(h:RootD n0 R W t)(hn0:n0<=W.heap.size)(hnt:Few 1000000 t)(p:Option Addr)(c:Nat)(P:List St)(hP:LiesP W p P)(hPl:P.length<=20)(hck:jq P=0)(hT:jt W)(c0:Nat)(G:V->Int×V)(hBy:∀W1 B o S f y,Below W.heap.size W W1->Here n0 W1 B o S f y->je t P=.inl y->Calls Tryd.prog 98 #[.pointer (some ⟨B,o,none⟩),.pointer (some ⟨c0,0,none⟩)] W1 (ByP W1 B o S (G y))) :
  Calls Tryd.prog 78 #[.pointer (some ⟨R,0,none⟩),.slice p P.length c,.func (.func 98) #[] #[.pointer (some ⟨c0,0,none⟩)]] W (ChW n0 R W (jj G t P)):=by
 obtain⟨fr,Sr,x0,x1,x2,x3,x4,x5,hRB,hRl,hR0,hRS⟩:=h;have hroot:RootD n0 R W t:=⟨fr,Sr,x0,x1,x2,x3,x4,x5,hRB,hRl,hR0,hRS⟩
 obtain⟨vk,vn,vb,vs,vpL,vnL,vcL,vpE,vnE,vcE,rfl,rfl,rfl,rfl,rfl,rfl⟩:=hRl.lies.form;have r0:=hRB.cell 0 _ rfl;have r1:=hRB.cell 1 _ rfl;have r2:=hRB.cell 2 _ rfl;have r3:=hRB.cell 3 _ rfl;have r4:=hRB.cell 4 _ rfl;have r5:=hRB.cell 5 _ rfl;have KG:=ja (zP 10000000 (Nat.le_refl _) W fr t _ _ _ _ _ _ (hRl.lies.weaken fun b h=>h.2) (by have:=hnt.at hRl.lies.isV;omega) p c P hP (by omega) hT);have hlp:jY t P=je t P:=by unfold jY;rw [if_pos hck]
 rw [hlp] at KG;have HALL:=ja (jl hck).2;have HP:=ja hP;have HB:=ja hBy;have HRT:=ja hroot;clear hRl hRS hroot hBy hP hlp hRB hT
 go_enter Tryd.func78,Tryd.ntmps78
 go_wp2_with fail
 refine(jc KG).mono ?_
 rintro e w1 ⟨h1,b1⟩
 rcases h1 with ⟨y0,g0,x0,x1,x2,x3,x4,x5,hy0,rfl,hl0,hn0'⟩ | ⟨er,her,hne,rfl⟩
 ·have HY0:=ja hy0
  have B1:=ja b1;obtain⟨f1,S1,hH1,hO1⟩:=(HRT.out.below b1).here;have HH1:=ja hH1;have HO1:=ja hO1;obtain⟨yk,yn,yb,ys,ypL,ynL,ycL,ypE,ynE,ycE,rfl,rfl,rfl,rfl,rfl,rfl⟩:=hl0.form;clear hH1 hO1 b1 hl0 hn0' hy0 KG r0 r1 r2 r3 r4 r5;go_wp2
  go_loopw [9,26] (fun h i wr=>∃(j B o f:Nat) (S:Nat->Prop) (y:V),i=.int .i64 j/\j<=P.length/\h=.pointer (some ⟨B,o,none⟩)/\Hid (Here n0 wr B o S f y)/\Hid (Hole n0 R wr B o S (j6 t (P.take j)))/\Hid (je t (P.take j)=.inl y)/\Below W.heap.size W wr) (fun _ i _=>P.length - (intOf i).toNat)
  case atStart=>exact⟨0,R,0,f1,S1,t,rfl,Nat.zero_le _,rfl,ja (HH1.out.below ((Below.refl _ _).alloc (Nat.le_refl _) _)),ja (HO1.out.below ((Below.refl _ _).alloc (Nat.le_refl _) _) (by obtain⟨_,_,_,hh,_⟩:=HH1.out;exact(Array.getElem?_eq_some_iff.1 hh).1)),ja rfl,B1.out.alloc B1.out.size _⟩
  case round=>
   obtain⟨j,B,o,f,S,y,rfl,hj,rfl,HH,HO,HQ,hbw⟩:=hrel;have hws:=hbw.size
   by_cases hlt:j<P.length
   ·obtain⟨Bp,op,key,rfl,hBp,hk1,hk2,hk3,e0,e1⟩:=HP.out.at hlt
    have q0:=(hbw.cell (p:=⟨Bp,op+j*2,none⟩) hBp).trans e0;have q1:=(hbw.cell (p:=⟨Bp,op+j*2+1,none⟩) hBp).trans e1;have hIj:=(jm (HALL.out _ (List.getElem_mem hlt))).2.1;have hsp:je t P=qT (je t (P.take j)) (P[j] :: P.drop (j+1)):=by rw [<-List.drop_eq_getElem_cons hlt,<-paths.jR,List.take_append_drop]
    rw [HQ.out,HY0.out] at hsp
    obtain⟨z,hz⟩:∃z,jf y P[j]=.inl z:=by
     have hsp':(Sum.inl y0:V⊕Int)=qT (jf y P[j]) (P.drop (j+1)):=hsp;cases hp:jf y P[j] with
     | inl z=>exact⟨z,rfl⟩
     | inr er=>rw [hp] at hsp';exact absurd (show(Sum.inl y0:V⊕Int)=.inr er from hsp') (by simp)
    have hlz:je t (P.take (j+1))=.inl z:=by
     rw [List.take_succ_eq_append_getElem hlt,paths.jR,HQ.out]
     show qT (jf y P[j]) []=_
     rw [hz];rfl
    obtain⟨wS,hwS⟩:∃wS,wS=wr.alloc (.cells #[.string key,.int .i64 (P[j]).2] 60):=⟨_,rfl⟩
    have bS:Below wr.heap.size wr wS:=by rw [hwS];exact(Below.refl _ wr).alloc (Nat.le_refl _) _
    have hBlt:B<wr.heap.size:=by obtain⟨_,_,_,hh,_⟩:=HH.out;exact(Array.getElem?_eq_some_iff.1 hh).1
    obtain⟨B2,o2,f2,S2,cc,hH2,hO2,hcase⟩:=zJ (HH.out.below bS) (HO.out.below bS hBlt) HQ.out hz (hIj.imp id And.left);rw [<-List.take_succ_eq_append_getElem hlt] at hO2
    have KP:Hid (Calls Tryd.prog 92 #[.pointer (some ⟨B,o,none⟩),.agg #[.string key,.int .i64 (P[j]).2]] wS fun e w'=>e=.returned (.pointer (some ⟨B2,o2,none⟩))/\Below wS.heap.size wS w'):=ja (by
     rcases hcase with ⟨g1,i,rfl,g2,g3,g4,g,g5,g6,g7⟩ | ⟨i,g1,rfl,g2,g3⟩
     ·rw [g1]
      rw [<-hk1] at g3;exact zd wS B o B2 g cc _ key i g4 g5 g6 g7 g2 g3
     ·rw [g1]
      exact zL wS B o B2 _ cc key i g3 g2)
    have HH2:=ja hH2;have HO2:=ja hO2;have HL2:=ja hlz;have HBS:=ja (hbw.trans (bS.mono hws));have hB2:Hid (B2<wS.heap.size):=ja (by obtain⟨_,_,_,hh,_⟩:=hH2;exact(Array.getElem?_eq_some_iff.1 hh).1);have HWS:=ja hwS;rw [hwS] at KP;clear hcase hH2 hO2 hlz hz hsp hIj hk1 hk2 hk3 e0 e1 bS hBlt HH HO HQ hws hwS;generalize (P[j]).2=xi at *
    go_wp2_with fail
    refine(jc KP).mono ?_
    rintro _ w2 ⟨rfl,b2⟩
    rw [<-HWS.out] at b2;have HH3:=ja (HH2.out.below b2);have HO3:=ja (HO2.out.below b2 hB2.out);have B3:=ja (HBS.out.trans (b2.mono HBS.out.size));clear b2 HH2 HO2 HBS KP HWS hB2;go_wp2;go_roundw
    case rel=>exact⟨j+1,B2,o2,f2,S2,z,by go_num,by omega,rfl,HH3,HO3,HL2,B3.out⟩
    case measure=>simp only [intOf];omega
   ·have hjP:j=P.length:=by omega
    have hQ:=HQ.out;rw [hjP,List.take_length] at hQ;have KB:=ja (HB.out wr B o S f y hbw HH.out hQ);have hO:=HO.out;rw [hjP,List.take_length] at hO;have HO4:=ja hO;have HE:Hid (jj G t P=((G y).1,j6 t P (G y).2)):=ja (by unfold jj;rw [hQ]);have HBW:=ja hbw
    have HNB:Hid (n0<=B/\∀b,S b->n0<=b):=ja (by
     obtain⟨_,_,_,_,_,_,_,k1,_,k2⟩:=HH.out;exact⟨k1,fun b hb=>(k2 b hb).1⟩)
    clear hQ hO HO HH HQ hbw hws
    go_wp2_with (go_at_call 98;refine(jc KB).mono ?_;rintro e w2 ⟨rfl,hT2,hD2⟩;have HT2:=ja hT2;have HD2:=ja hD2;clear hT2 hD2)
    go_ret;rw [HE.out];refine⟨rfl,?_,fun h=>HO4.out _ _ HT2.out (HD2.out h)⟩;exact(HBW.out.mono hn0).trans (HT2.out.below (n:=n0) (Nat.le_trans hn0 HBW.out.size) (fun b hb=>hb.elim (fun e=>by rw [e];exact HNB.out.1) (HNB.out.2 b)))
 ·have HE:Hid (jj G t P=(er,t)):=ja (by unfold jj;rw [her])
  have hne2:(er != 0)=true:=bne_iff_ne.2 hne;have B1:=ja b1;clear her b1 KG r0 r1 r2 r3 r4 r5;go_wp2;go_ret;rw [HE.out];exact⟨rfl,((B1.out.alloc B1.out.size _).mono hn0),fun h=>absurd h hne⟩
theorem jaf {n0 R:Nat}{W:World}{t:V}(h:RootD n0 R W t)(hn0:n0<=W.heap.size)(hnt:Few 1000000 t)(p:Option Addr)(c:Nat)(P:List St)(hP:LiesP W p P)(hPl:P.length<=20)(hck:jq P=0)(hT:jt W)(c0 c1 c2:Nat)(G:V->Int×V)(hBy:∀W1 B o S f y,Below W.heap.size W W1->Here n0 W1 B o S f y->je t P=.inl y->Calls Tryd.prog 101 #[.pointer (some ⟨B,o,none⟩),.pointer (some ⟨c0,0,none⟩),.pointer (some ⟨c1,0,none⟩),.pointer (some ⟨c2,0,none⟩)] W1 (ByP W1 B o S (G y))) :
  Calls Tryd.prog 78 #[.pointer (some ⟨R,0,none⟩),.slice p P.length c,.func (.func 101) #[] #[.pointer (some ⟨c0,0,none⟩),.pointer (some ⟨c1,0,none⟩),.pointer (some ⟨c2,0,none⟩)]] W (ChW n0 R W (jj G t P)):=by
 obtain⟨fr,Sr,x0,x1,x2,x3,x4,x5,hRB,hRl,hR0,hRS⟩:=h;have hroot:RootD n0 R W t:=⟨fr,Sr,x0,x1,x2,x3,x4,x5,hRB,hRl,hR0,hRS⟩
 obtain⟨vk,vn,vb,vs,vpL,vnL,vcL,vpE,vnE,vcE,rfl,rfl,rfl,rfl,rfl,rfl⟩:=hRl.lies.form;have r0:=hRB.cell 0 _ rfl;have r1:=hRB.cell 1 _ rfl;have r2:=hRB.cell 2 _ rfl;have r3:=hRB.cell 3 _ rfl;have r4:=hRB.cell 4 _ rfl;have r5:=hRB.cell 5 _ rfl;have KG:=ja (zP 10000000 (Nat.le_refl _) W fr t _ _ _ _ _ _ (hRl.lies.weaken fun b h=>h.2) (by have:=hnt.at hRl.lies.isV;omega) p c P hP (by omega) hT);have hlp:jY t P=je t P:=by unfold jY;rw [if_pos hck]
 rw [hlp] at KG;have HALL:=ja (jl hck).2;have HP:=ja hP;have HB:=ja hBy;have HRT:=ja hroot;clear hRl hRS hroot hBy hP hlp hRB hT
 go_enter Tryd.func78,Tryd.ntmps78
 go_wp2_with fail
 refine(jc KG).mono ?_
 rintro e w1 ⟨h1,b1⟩
 rcases h1 with ⟨y0,g0,x0,x1,x2,x3,x4,x5,hy0,rfl,hl0,hn0'⟩ | ⟨er,her,hne,rfl⟩
 ·have HY0:=ja hy0
  have B1:=ja b1;obtain⟨f1,S1,hH1,hO1⟩:=(HRT.out.below b1).here;have HH1:=ja hH1;have HO1:=ja hO1;obtain⟨yk,yn,yb,ys,ypL,ynL,ycL,ypE,ynE,ycE,rfl,rfl,rfl,rfl,rfl,rfl⟩:=hl0.form;clear hH1 hO1 b1 hl0 hn0' hy0 KG r0 r1 r2 r3 r4 r5;go_wp2
  go_loopw [9,26] (fun h i wr=>∃(j B o f:Nat) (S:Nat->Prop) (y:V),i=.int .i64 j/\j<=P.length/\h=.pointer (some ⟨B,o,none⟩)/\Hid (Here n0 wr B o S f y)/\Hid (Hole n0 R wr B o S (j6 t (P.take j)))/\Hid (je t (P.take j)=.inl y)/\Below W.heap.size W wr) (fun _ i _=>P.length - (intOf i).toNat)
  case atStart=>exact⟨0,R,0,f1,S1,t,rfl,Nat.zero_le _,rfl,ja (HH1.out.below ((Below.refl _ _).alloc (Nat.le_refl _) _)),ja (HO1.out.below ((Below.refl _ _).alloc (Nat.le_refl _) _) (by obtain⟨_,_,_,hh,_⟩:=HH1.out;exact(Array.getElem?_eq_some_iff.1 hh).1)),ja rfl,B1.out.alloc B1.out.size _⟩
  case round=>
   obtain⟨j,B,o,f,S,y,rfl,hj,rfl,HH,HO,HQ,hbw⟩:=hrel;have hws:=hbw.size
   by_cases hlt:j<P.length
   ·obtain⟨Bp,op,key,rfl,hBp,hk1,hk2,hk3,e0,e1⟩:=HP.out.at hlt
    have q0:=(hbw.cell (p:=⟨Bp,op+j*2,none⟩) hBp).trans e0;have q1:=(hbw.cell (p:=⟨Bp,op+j*2+1,none⟩) hBp).trans e1;have hIj:=(jm (HALL.out _ (List.getElem_mem hlt))).2.1;have hsp:je t P=qT (je t (P.take j)) (P[j] :: P.drop (j+1)):=by rw [<-List.drop_eq_getElem_cons hlt,<-paths.jR,List.take_append_drop]
    rw [HQ.out,HY0.out] at hsp
    obtain⟨z,hz⟩:∃z,jf y P[j]=.inl z:=by
     have hsp':(Sum.inl y0:V⊕Int)=qT (jf y P[j]) (P.drop (j+1)):=hsp;cases hp:jf y P[j] with
     | inl z=>exact⟨z,rfl⟩
     | inr er=>rw [hp] at hsp';exact absurd (show(Sum.inl y0:V⊕Int)=.inr er from hsp') (by simp)
    have hlz:je t (P.take (j+1))=.inl z:=by
     rw [List.take_succ_eq_append_getElem hlt,paths.jR,HQ.out]
     show qT (jf y P[j]) []=_
     rw [hz];rfl
    obtain⟨wS,hwS⟩:∃wS,wS=wr.alloc (.cells #[.string key,.int .i64 (P[j]).2] 60):=⟨_,rfl⟩
    have bS:Below wr.heap.size wr wS:=by rw [hwS];exact(Below.refl _ wr).alloc (Nat.le_refl _) _
    have hBlt:B<wr.heap.size:=by obtain⟨_,_,_,hh,_⟩:=HH.out;exact(Array.getElem?_eq_some_iff.1 hh).1
    obtain⟨B2,o2,f2,S2,cc,hH2,hO2,hcase⟩:=zJ (HH.out.below bS) (HO.out.below bS hBlt) HQ.out hz (hIj.imp id And.left);rw [<-List.take_succ_eq_append_getElem hlt] at hO2
    have KP:Hid (Calls Tryd.prog 92 #[.pointer (some ⟨B,o,none⟩),.agg #[.string key,.int .i64 (P[j]).2]] wS fun e w'=>e=.returned (.pointer (some ⟨B2,o2,none⟩))/\Below wS.heap.size wS w'):=ja (by
     rcases hcase with ⟨g1,i,rfl,g2,g3,g4,g,g5,g6,g7⟩ | ⟨i,g1,rfl,g2,g3⟩
     ·rw [g1]
      rw [<-hk1] at g3;exact zd wS B o B2 g cc _ key i g4 g5 g6 g7 g2 g3
     ·rw [g1]
      exact zL wS B o B2 _ cc key i g3 g2)
    have HH2:=ja hH2;have HO2:=ja hO2;have HL2:=ja hlz;have HBS:=ja (hbw.trans (bS.mono hws));have hB2:Hid (B2<wS.heap.size):=ja (by obtain⟨_,_,_,hh,_⟩:=hH2;exact(Array.getElem?_eq_some_iff.1 hh).1);have HWS:=ja hwS;rw [hwS] at KP;clear hcase hH2 hO2 hlz hz hsp hIj hk1 hk2 hk3 e0 e1 bS hBlt HH HO HQ hws hwS;generalize (P[j]).2=xi at *
    go_wp2_with fail
    refine(jc KP).mono ?_
    rintro _ w2 ⟨rfl,b2⟩
    rw [<-HWS.out] at b2;have HH3:=ja (HH2.out.below b2);have HO3:=ja (HO2.out.below b2 hB2.out);have B3:=ja (HBS.out.trans (b2.mono HBS.out.size));clear b2 HH2 HO2 HBS KP HWS hB2;go_wp2;go_roundw
    case rel=>exact⟨j+1,B2,o2,f2,S2,z,by go_num,by omega,rfl,HH3,HO3,HL2,B3.out⟩
    case measure=>simp only [intOf];omega
   ·have hjP:j=P.length:=by omega
    have hQ:=HQ.out;rw [hjP,List.take_length] at hQ;have KB:=ja (HB.out wr B o S f y hbw HH.out hQ);have hO:=HO.out;rw [hjP,List.take_length] at hO;have HO4:=ja hO;have HE:Hid (jj G t P=((G y).1,j6 t P (G y).2)):=ja (by unfold jj;rw [hQ]);have HBW:=ja hbw
    have HNB:Hid (n0<=B/\∀b,S b->n0<=b):=ja (by
     obtain⟨_,_,_,_,_,_,_,k1,_,k2⟩:=HH.out;exact⟨k1,fun b hb=>(k2 b hb).1⟩)
    clear hQ hO HO HH HQ hbw hws
    go_wp2_with (go_at_call 101;refine(jc KB).mono ?_;rintro e w2 ⟨rfl,hT2,hD2⟩;have HT2:=ja hT2;have HD2:=ja hD2;clear hT2 hD2)
    go_ret;rw [HE.out];refine⟨rfl,?_,fun h=>HO4.out _ _ HT2.out (HD2.out h)⟩;exact(HBW.out.mono hn0).trans (HT2.out.below (n:=n0) (Nat.le_trans hn0 HBW.out.size) (fun b hb=>hb.elim (fun e=>by rw [e];exact HNB.out.1) (HNB.out.2 b)))
 ·have HE:Hid (jj G t P=(er,t)):=ja (by unfold jj;rw [her])
  have hne2:(er != 0)=true:=bne_iff_ne.2 hne;have B1:=ja b1;clear her b1 KG r0 r1 r2 r3 r4 r5;go_wp2;go_ret;rw [HE.out];exact⟨rfl,((B1.out.alloc B1.out.size _).mono hn0),fun h=>absurd h hne⟩
end upds
set_option linter.unusedSimpArgs false
namespace upds
open Go.RowKit Go.Shelf
open valus
open paths (St LiesP)
theorem Xu (w:World)(k n:Int)(b:Nat)(s:ByteArray)(pL:Option Addr)(nL cL:Nat)(pE:Option Addr)(nE cE:Nat) :
  Calls Tryd.prog 79 #[.agg #[.int .i64 k,.int .i64 n,.int .u64 (b:Int),.string s,.slice pL nL cL,.slice pE nE cE]] w fun e w'=>e=.returned (.func (.func 93) #[] #[.pointer (some ⟨w.heap.size,0,none⟩)])/\w'=w.alloc (.cells #[.int .i64 k,.int .i64 n,.int .u64 (b:Int),.string s,.slice pL nL cL,.slice pE nE cE] 26):=by
 have hmf:∀(fn:Fn) (first cap:Array Value) (w:World),(Instr.makeFunc fn first cap).run Tryd.prog w=.ok (.func fn first cap) w:=fun _ _ _ _=>rfl
 go_enter Tryd.func79,Tryd.ntmps79
 go_wp2;go_ret;exact⟨rfl,rfl⟩
theorem Yi (w:World)(key:ByteArray)(k n:Int)(b:Nat)(s:ByteArray)(pL:Option Addr)(nL cL:Nat)(pE:Option Addr)(nE cE:Nat) :
  Calls Tryd.prog 81 #[.agg #[.string key,.int .i64 (-1)],.agg #[.int .i64 k,.int .i64 n,.int .u64 (b:Int),.string s,.slice pL nL cL,.slice pE nE cE]] w fun e w'=>e=.returned (.func (.func 94) #[] #[.pointer (some ⟨w.heap.size,0,none⟩),.pointer (some ⟨w.heap.size+1,0,none⟩)])/\w'=(w.alloc (.cells #[.string key,.int .i64 (-1)] 60)).alloc (.cells #[.int .i64 k,.int .i64 n,.int .u64 (b:Int),.string s,.slice pL nL cL,.slice pE nE cE] 26):=by
 have hmf:∀(fn:Fn) (first cap:Array Value) (w:World),(Instr.makeFunc fn first cap).run Tryd.prog w=.ok (.func fn first cap) w:=fun _ _ _ _=>rfl
 have c1:((w.alloc (.cells #[.string key,.int .i64 (-1)] 60)).alloc (.cells #[.int .i64 k,.int .i64 n,.int .u64 (b:Int),.string s,.slice pL nL cL,.slice pE nE cE] 26)).cell? ⟨w.heap.size,1,none⟩=some (.int .i64 (-1)):=((jb w #[.string key,.int .i64 (-1)] 60).alloc _).cell 1 _ rfl
 go_enter Tryd.func81,Tryd.ntmps81
 go_wp2;go_ret;exact⟨rfl,rfl⟩
theorem ZJ (w:World)(key:ByteArray)(I:Int)(hI:¬I = -1)(k n:Int)(b:Nat)(s:ByteArray)(pL:Option Addr)(nL cL:Nat)(pE:Option Addr)(nE cE:Nat) :
  Calls Tryd.prog 81 #[.agg #[.string key,.int .i64 I],.agg #[.int .i64 k,.int .i64 n,.int .u64 (b:Int),.string s,.slice pL nL cL,.slice pE nE cE]] w fun e w'=>e=.returned (.func (.func 96) #[] #[.pointer (some ⟨w.heap.size,0,none⟩),.pointer (some ⟨w.heap.size+1,0,none⟩)])/\w'=(w.alloc (.cells #[.string key,.int .i64 I] 60)).alloc (.cells #[.int .i64 k,.int .i64 n,.int .u64 (b:Int),.string s,.slice pL nL cL,.slice pE nE cE] 26):=by
 have hmf:∀(fn:Fn) (first cap:Array Value) (w:World),(Instr.makeFunc fn first cap).run Tryd.prog w=.ok (.func fn first cap) w:=fun _ _ _ _=>rfl
 have c1:((w.alloc (.cells #[.string key,.int .i64 I] 60)).alloc (.cells #[.int .i64 k,.int .i64 n,.int .u64 (b:Int),.string s,.slice pL nL cL,.slice pE nE cE] 26)).cell? ⟨w.heap.size,1,none⟩=some (.int .i64 I):=((jb w #[.string key,.int .i64 I] 60).alloc _).cell 1 _ rfl
 go_enter Tryd.func81,Tryd.ntmps81
 go_wp2;go_ret;exact⟨rfl,rfl⟩
theorem ZF (w:World)(key:ByteArray)(I:Int) :
  Calls Tryd.prog 82 #[.agg #[.string key,.int .i64 I]] w fun e w'=>e=.returned (.func (.func 98) #[] #[.pointer (some ⟨w.heap.size,0,none⟩)])/\w'=w.alloc (.cells #[.string key,.int .i64 I] 60):=by
 have hmf:∀(fn:Fn) (first cap:Array Value) (w:World),(Instr.makeFunc fn first cap).run Tryd.prog w=.ok (.func fn first cap) w:=fun _ _ _ _=>rfl
 go_enter Tryd.func82,Tryd.ntmps82
 go_wp2;go_ret;exact⟨rfl,rfl⟩
theorem Yq (w:World)(xk key:ByteArray)(I:Int)(k n:Int)(b:Nat)(s:ByteArray)(pL:Option Addr)(nL cL:Nat)(pE:Option Addr)(nE cE:Nat) :
  Calls Tryd.prog 83 #[.agg #[.string xk,.int .i64 I],.string key,.agg #[.int .i64 k,.int .i64 n,.int .u64 (b:Int),.string s,.slice pL nL cL,.slice pE nE cE]] w fun e w'=>e=.returned (.func (.func 101) #[] #[.pointer (some ⟨w.heap.size,0,none⟩),.pointer (some ⟨w.heap.size+1,0,none⟩),.pointer (some ⟨w.heap.size+2,0,none⟩)])/\w'=((w.alloc (.cells #[.string xk,.int .i64 I] 60)).alloc (.cells #[.string key] 9)).alloc (.cells #[.int .i64 k,.int .i64 n,.int .u64 (b:Int),.string s,.slice pL nL cL,.slice pE nE cE] 26):=by
 have hmf:∀(fn:Fn) (first cap:Array Value) (w:World),(Instr.makeFunc fn first cap).run Tryd.prog w=.ok (.func fn first cap) w:=fun _ _ _ _=>rfl
 go_enter Tryd.func83,Tryd.ntmps83
 go_wp2;go_ret;exact⟨rfl,rfl⟩
theorem LiesP.less {w:World}{p:Option Addr}{P:List St}(h:LiesP w p P):LiesP w p P.dropLast:=by
 intro hn;have hl:P.dropLast.length=P.length - 1:=List.length_dropLast;obtain⟨B,o,e,hB,hc⟩:=h (by omega);refine⟨B,o,e,hB,fun j x hx=>hc j x ?_⟩;have hj:=(List.getElem?_eq_some_iff.1 hx).1;rw [List.getElem?_dropLast] at hx;split at hx
 ·exact hx
 ·cases hx
theorem Blk.drew {w:World}{b:Nat}{cs:Array Value}{t:Nat}(h:Blk w b cs t):Blk w.drew b cs t:=h
theorem zU {w:World}{B:Nat}{s:Value}{key:ByteArray}{I:Int}(tmps:Array Value)(h:Blk w B #[.string key,.int .i64 I] 60)(h2:tmps[2]?=some s:=by rfl)(h3:tmps[3]?=some (.pointer (some ⟨B,0,none⟩)):=by rfl):(results Tryd.f80 tmps).run Tryd.prog w=.ok (.tuple #[s,.agg #[.string key,.int .i64 I]]) w:=by
 have c0:=h.cell 0 _ rfl;have c1:=h.cell 1 _ rfl;simp [results,Tryd.f80,h2,h3,go_sem,c0,c1]
theorem zt (w:World)(Bp op c:Nat)(m:Nat)(key:ByteArray)(I:Int)(hc1:m+1<=c)(hc2:c<=9223372036854775807)(h0:w.cell? ⟨Bp,op+m*2,none⟩=some (.string key))(h1:w.cell? ⟨Bp,op+m*2+1,none⟩=some (.int .i64 I)) :
  Calls Tryd.prog 80 #[.slice (some ⟨Bp,op,none⟩) (m+1) c] w fun e w'=>e=.returned (.tuple #[.slice (some ⟨Bp,op,none⟩) m c,.agg #[.string key,.int .i64 I]])/\Below w.heap.size w w':=by
 obtain⟨W,hW⟩:∃W,W=w.alloc (.cells #[.string ⟨#[]⟩,.int .i64 0] 60):=⟨_,rfl⟩
 have bW:Below w.heap.size w W:=by rw [hW];exact(Below.refl _ w).alloc (Nat.le_refl _) _
 have hZ:Blk W w.heap.size #[.string ⟨#[]⟩,.int .i64 0] 60:=by rw [hW];exact jb w _ _
 have hlt:=World.block_lt_of_cell? w _ h0
 have q0:W.drew.cell? ⟨Bp,op+m*2,none⟩=some (.string key):=(bW.cell (p:=⟨Bp,op+m*2,none⟩) hlt).trans h0
 have q1:W.drew.cell? ⟨Bp,op+m*2+1,none⟩=some (.int .i64 I):=(bW.cell (p:=⟨Bp,op+m*2+1,none⟩) hlt).trans h1
 have z0:W.drew.cell? ⟨w.heap.size,0,none⟩=some (.string ⟨#[]⟩):=hZ.cell 0 _ rfl
 have z1:W.drew.cell? ⟨w.heap.size,1,none⟩=some (.int .i64 0):=hZ.cell 1 _ rfl
 have y0:W.drew.frozen? ⟨w.heap.size,0,none⟩=false:=Blk.froz hZ 0
 have y1:W.drew.frozen? ⟨w.heap.size,1,none⟩=false:=Blk.froz hZ 1
 have q0':W.cell? ⟨Bp,op+m*2,none⟩=some (.string key):=q0
 have q1':W.cell? ⟨Bp,op+m*2+1,none⟩=some (.int .i64 I):=q1
 have z0':W.cell? ⟨w.heap.size,0,none⟩=some (.string ⟨#[]⟩):=z0
 have z1':W.cell? ⟨w.heap.size,1,none⟩=some (.int .i64 0):=z1
 have y0':W.frozen? ⟨w.heap.size,0,none⟩=false:=y0
 have y1':W.frozen? ⟨w.heap.size,1,none⟩=false:=y1
 have hne:¬w.heap.size=Bp:=fun e=>by simp only at hlt;omega
 have mixed:(Tryd.prog).follows .mixedOrders=true:=by kernel_rfl
 have hw1:IntKind.i64.wrap ((m:Int)+1 - 1)=(m:Int):=by rw [IntKind.wrap_i64];omega
 have hmc:(m:Int)<=(c:Int):=by omega
 have hm1:(m:Int)<(m:Int)+1:=by omega
 have hm2:m<=c:=by omega
 have hcm:¬c=m:=by omega
 have HX:Hid (Blk ((W.setCell ⟨w.heap.size,0,none⟩ (.string key)).setCell ⟨w.heap.size,1,none⟩ (.int .i64 I)) w.heap.size #[.string key,.int .i64 I] 60):=ja ((hZ.set 0 _).set 1 _);have HW:=ja hW;have HB:=ja bW;clear hW bW hZ
 go_enter Tryd.func80,Tryd.ntmps80
 go_upto_region 2 with fail
 rw [<-HW.out];clear h0 h1
 go_region
 all_goals
  go_wp2
  first
   | exact bodyPost_ret (zU _ (Blk.drew HX.out)) rfl ⟨rfl,(((HB.out.setCell (p:=⟨w.heap.size,0,none⟩) (Nat.le_refl _) _).setCell (p:=⟨w.heap.size,1,none⟩) (Nat.le_refl _) _).drew)⟩
   | exact bodyPost_ret (zU _ HX.out) rfl ⟨rfl,(((HB.out.setCell (p:=⟨w.heap.size,0,none⟩) (Nat.le_refl _) _).setCell (p:=⟨w.heap.size,1,none⟩) (Nat.le_refl _) _).drew)⟩
end upds
set_option linter.unusedSimpArgs false
namespace upds
open Go.RowKit Go.Shelf
open valus
open paths (St LiesP jt jq jf je)
def ZA (x:St)(y h:V):Int×V:=if x.2 = -1 then Q7 x.1 y h else Q8 x.2 y h
def JN (x:St)(h:V):Int×V:=if x.2 = -1 then Zm x.1 h else Zj x.2.toNat h
def ju (P:List St):St:=P.getLast?.getD ([],0)
theorem ChW.from {n0 R:Nat}{W W2:World}{r:Int×V}{e:Ending}{W':World}(h:ChW n0 R W2 r e W')(hb:Below W.heap.size W W2)(hn:n0<=W.heap.size):ChW n0 R W r e W':=⟨h.1,(hb.mono hn).trans h.2.1,h.2.2⟩
theorem X0 {n0 R:Nat}{W:World}{t:V}(h:RootD n0 R W t)(hn0:n0<=W.heap.size)(hnt:Few 1000000 t)(p:Option Addr)(c:Nat)(P:List St)(hP:LiesP W p P)(hPl:P.length<=20)(hck:jq P=0)(hT:jt W)(g:Nat)(y:V)(k n:Int)(b:Nat)(s:ByteArray)(pL:Option Addr)(nL cL:Nat)(pE:Option Addr)(nE cE:Nat)(hl:LiesV (fun q=>q<W.heap.size) g W [.int .i64 k,.int .i64 n,.int .u64 (b:Int),.string s,.slice pL nL cL,.slice pE nE cE] y)(hn:Few 1000000 y)(key:ByteArray) :
  Calls Tryd.prog 64 #[.pointer (some ⟨R,0,none⟩),.agg #[.int .i64 1,.slice p P.length c,.int .i64 k,.int .i64 n,.int .u64 (b:Int),.string s,.slice pL nL cL,.slice pE nE cE,.string key]] W (ChW n0 R W (jj (fun _=>(0,y)) t P)):=by
 obtain⟨W0,hW0⟩:∃W0,W0=W.alloc (.cells #[.int .i64 1,.slice p P.length c,.int .i64 k,.int .i64 n,.int .u64 (b:Int),.string s,.slice pL nL cL,.slice pE nE cE,.string key] 45):=⟨_,rfl⟩
 have b0:Below W.heap.size W W0:=by rw [hW0];exact(Below.refl _ W).alloc (Nat.le_refl _) _
 have hZ:Blk W0 W.heap.size #[.int .i64 1,.slice p P.length c,.int .i64 k,.int .i64 n,.int .u64 (b:Int),.string s,.slice pL nL cL,.slice pE nE cE,.string key] 45:=by rw [hW0];exact jb W _ _
 have z0:=hZ.cell 0 _ rfl;rw [hW0] at z0;have q1:W0.drew.cell? ⟨W.heap.size,1,none⟩=some (.slice p P.length c):=hZ.cell 1 _ rfl
 have q2:W0.drew.cell? ⟨W.heap.size,2,none⟩=some (.int .i64 k):=hZ.cell 2 _ rfl
 have q3:W0.drew.cell? ⟨W.heap.size,3,none⟩=some (.int .i64 n):=hZ.cell 3 _ rfl
 have q4:W0.drew.cell? ⟨W.heap.size,4,none⟩=some (.int .u64 (b:Int)):=hZ.cell 4 _ rfl
 have q5:W0.drew.cell? ⟨W.heap.size,5,none⟩=some (.string s):=hZ.cell 5 _ rfl
 have q6:W0.drew.cell? ⟨W.heap.size,6,none⟩=some (.slice pL nL cL):=hZ.cell 6 _ rfl
 have q7:W0.drew.cell? ⟨W.heap.size,7,none⟩=some (.slice pE nE cE):=hZ.cell 7 _ rfl
 obtain⟨W2,hW2⟩:∃W2,W2=W0.drew.alloc (.cells #[.int .i64 k,.int .i64 n,.int .u64 (b:Int),.string s,.slice pL nL cL,.slice pE nE cE] 26):=⟨_,rfl⟩
 have bD:Below W.heap.size W W0.drew:=b0.drew;have b2:Below W.heap.size W W2:=by rw [hW2];exact bD.alloc bD.size _
 have hV:Blk W2 W0.drew.heap.size #[.int .i64 k,.int .i64 n,.int .u64 (b:Int),.string s,.slice pL nL cL,.slice pE nE cE] 26:=by rw [hW2];exact jb W0.drew _ _
 have hZ2:Blk W2 W.heap.size #[.int .i64 1,.slice p P.length c,.int .i64 k,.int .i64 n,.int .u64 (b:Int),.string s,.slice pL nL cL,.slice pE nE cE,.string key] 45:=by rw [hW2];exact Blk.alloc (Blk.drew hZ) _
 have KA:Hid (Calls Tryd.prog 78 #[.pointer (some ⟨R,0,none⟩),.slice p P.length c,.func (.func 93) #[] #[.pointer (some ⟨W0.drew.heap.size,0,none⟩)]] W2 (ChW n0 R W2 (jj (fun _=>(0,y)) t P))):=ja (XW (h.below b2) (Nat.le_trans hn0 b2.size) hnt p c P (hP.keep b2) hPl hck (Utf8Tabs_below hT b2) W0.drew.heap.size (fun _=>(0,y)) (fun W1 B o S f z hb hh _=>Ya hh _ g y _ _ _ _ _ _ (hV.below hb) ((hl.below b2).kept (fun q h=>Nat.lt_of_lt_of_le h (Nat.le_trans b2.size hb.size)) hb.size (fun q _ hq=>hb.block q hq)) (by have:=hn.at hl.isV;omega)))
 have KS:Hid (Calls Tryd.prog 79 #[.agg #[.int .i64 k,.int .i64 n,.int .u64 (b:Int),.string s,.slice pL nL cL,.slice pE nE cE]] W0.drew fun e w'=>e=.returned (.func (.func 93) #[] #[.pointer (some ⟨W0.drew.heap.size,0,none⟩)])/\w'=W2):=ja ((Xu W0.drew k n b s pL nL cL pE nE cE).mono fun e w' ⟨h1,h2⟩=>⟨h1,h2.trans hW2.symm⟩);have p1:=hZ2.cell 1 _ rfl;have p2:=hZ2.cell 2 _ rfl;have p3:=hZ2.cell 3 _ rfl;have p4:=hZ2.cell 4 _ rfl;have p5:=hZ2.cell 5 _ rfl;have p6:=hZ2.cell 6 _ rfl;have p7:=hZ2.cell 7 _ rfl;have HW0:=ja hW0;have HB2:=ja b2;clear b0 hZ hW0 hW2 bD b2 hV hZ2 hl hP h hT
 go_enter Tryd.func64,Tryd.ntmps64
 go_upto_region 3 with fail
 rw [<-HW0.out];clear HW0 z0
 go_region_with (first
  | (go_at_call 79;refine(jc KS).mono ?_;rintro e w' ⟨rfl,rfl⟩)
  | (go_at_call 78;refine(jc KA).mono ?_;rintro e w' hch;have he:=hch.1;subst he;have HC:=ja hch;clear hch))
 all_goals
  go_wp2;go_ret;exact ChW.from HC.out HB2.out hn0
end upds
set_option linter.unusedSimpArgs false
namespace upds
open Go.RowKit Go.Shelf
open valus
open paths (St LiesP jt jq jf je jl jm)
theorem Ju {P:List St}(h:jq P=0):jq P.dropLast=0:=by
 have h1:=jl h;unfold jq;rw [if_neg (by rw [List.length_dropLast];omega)]
 have:∀l:List St,(∀x∈l,paths.qI x=0)->paths.zn l=0:=fun l=>by
  induction l with
  | nil=>exact fun _=>rfl
  | cons x l ih=>
   intro hx
   show(if paths.qI x=0 then paths.zn l else paths.qI x)=0
   rw [if_pos (hx x (by simp))];exact ih (fun z hz=>hx z (by simp [hz]))
 exact this _ (fun x hx=>h1.2 x (List.dropLast_subset _ hx))
theorem QD {n0 R:Nat}{W:World}{t:V}(h:RootD n0 R W t)(hn0:n0<=W.heap.size)(hnt:Few 1000000 t)(p:Option Addr)(c:Nat)(P:List St)(hP:LiesP W p P)(hPl:P.length<=20)(hPc:P.length<=c)(hcm:c<=9223372036854775807)(hP0:P≠[])(hck:jq P=0)(hT:jt W)(g:Nat)(y:V)(k n:Int)(b:Nat)(s:ByteArray)(pL:Option Addr)(nL cL:Nat)(pE:Option Addr)(nE cE:Nat)(hl:LiesV (fun q=>q<W.heap.size) g W [.int .i64 k,.int .i64 n,.int .u64 (b:Int),.string s,.slice pL nL cL,.slice pE nE cE] y)(hn:Few 1000000 y)(key:ByteArray)(hx:(ju P).2 = -1) :
  Calls Tryd.prog 64 #[.pointer (some ⟨R,0,none⟩),.agg #[.int .i64 2,.slice p P.length c,.int .i64 k,.int .i64 n,.int .u64 (b:Int),.string s,.slice pL nL cL,.slice pE nE cE,.string key]] W (ChW n0 R W (jj (ZA (ju P) y) t P.dropLast)):=by
 obtain⟨m,hm⟩:∃m,P.length=m+1:=⟨P.length - 1,by have:=List.length_pos_iff.2 hP0;omega⟩
 have hlt:m<P.length:=by omega
 obtain⟨Bp,op,xk,rfl,hBp,hk1,hk2,hk3,e0,e1⟩:=hP.at hlt
 have hlast:ju P=P[m]:=by
  unfold ju;rw [List.getLast?_eq_getElem?,hm,Nat.add_sub_cancel,List.getElem?_eq_getElem hlt];rfl
 have hxk:(ju P).1=xk.data.toList:=by rw [hlast,<-hk1]
 have hdl:P.dropLast.length=m:=by rw [List.length_dropLast,hm,Nat.add_sub_cancel]
 have hckD:jq P.dropLast=0:=Ju hck;have hxs:=(jm ((jl hck).2 _ (List.getElem_mem hlt)))
 have hxl:xk.size<=maxLen:=by
  have:=hxs.2.2.1;rw [<-hk1,jn] at this;unfold maxLen;omega
 obtain⟨W0,hW0⟩:∃W0,W0=W.alloc (.cells #[.int .i64 2,.slice (some ⟨Bp,op,none⟩) (m+1) c,.int .i64 k,.int .i64 n,.int .u64 (b:Int),.string s,.slice pL nL cL,.slice pE nE cE,.string key] 45):=⟨_,rfl⟩
 have b0:Below W.heap.size W W0:=by rw [hW0];exact(Below.refl _ W).alloc (Nat.le_refl _) _
 have s0:W0.heap.size=W.heap.size+1:=by rw [hW0];simp
 have hZ:Blk W0 W.heap.size #[.int .i64 2,.slice (some ⟨Bp,op,none⟩) (m+1) c,.int .i64 k,.int .i64 n,.int .u64 (b:Int),.string s,.slice pL nL cL,.slice pE nE cE,.string key] 45:=by rw [hW0];exact jb W _ _
 have hG:ZA (ju P) y=Q7 xk.data.toList y:=by
  funext h
  unfold ZA;rw [if_pos hx,hxk]
 rw [hG];rw [hlast] at hx;rw [hx] at e1;have hIx:∀x∈P.dropLast,x.2 = -1\/0<=x.2:=fun x hx=>(jm ((jl hckD).2 x hx)).2.1.imp id And.left
 have KA:Hid (∀w1,Below W0.heap.size W0 w1->Calls Tryd.prog 78 #[.pointer (some ⟨R,0,none⟩),.slice (some ⟨Bp,op,none⟩) m c,.func (.func 94) #[] #[.pointer (some ⟨w1.heap.size+1,0,none⟩),.pointer (some ⟨w1.heap.size+1+1,0,none⟩)]] (((w1.alloc (.cells #[.string xk,.int .i64 (-1)] 60)).alloc (.cells #[.string xk,.int .i64 (-1)] 60)).alloc (.cells #[.int .i64 k,.int .i64 n,.int .u64 (b:Int),.string s,.slice pL nL cL,.slice pE nE cE] 26)) (ChW n0 R W (jj (Q7 xk.data.toList y) t P.dropLast))):=ja fun w1 hw1=>by
  obtain⟨W2,hW2⟩:∃W2,W2=((w1.alloc (.cells #[.string xk,.int .i64 (-1)] 60)).alloc (.cells #[.string xk,.int .i64 (-1)] 60)).alloc (.cells #[.int .i64 k,.int .i64 n,.int .u64 (b:Int),.string s,.slice pL nL cL,.slice pE nE cE] 26):=⟨_,rfl⟩
  rw [<-hW2];have b1:Below W.heap.size W w1:=b0.trans (hw1.mono b0.size);have b2:Below W.heap.size W W2:=by rw [hW2];exact((b1.alloc b1.size _).alloc (by have:=b1.size;simp;omega) _).alloc (by have:=b1.size;simp;omega) _
  have hS:Blk W2 (w1.heap.size+1) #[.string xk,.int .i64 (-1)] 60:=by
   rw [hW2];refine Blk.alloc ?_ _
   have:=jb (w1.alloc (.cells #[.string xk,.int .i64 (-1)] 60)) #[.string xk,.int .i64 (-1)] 60;rwa [World.size_alloc] at this
  have hV:Blk W2 (w1.heap.size+1+1) #[.int .i64 k,.int .i64 n,.int .u64 (b:Int),.string s,.slice pL nL cL,.slice pE nE cE] 26:=by
   rw [hW2];have:=jb ((w1.alloc (.cells #[.string xk,.int .i64 (-1)] 60)).alloc (.cells #[.string xk,.int .i64 (-1)] 60)) #[.int .i64 k,.int .i64 n,.int .u64 (b:Int),.string s,.slice pL nL cL,.slice pE nE cE] 26;rwa [World.size_alloc,World.size_alloc] at this
  have leadV_few_at:∀{W1:World} {B o f:Nat} {S:Nat->Prop} {z:V},Below W2.heap.size W2 W1->Here n0 W1 B o S f z->je t P.dropLast=.inl z->Few 1000000 z:=fun _ _ hz=>by
   obtain⟨fr,_,_,_,_,_,_,_,_,hRl,_⟩:=h;exact qr P.dropLast hIx hRl.lies.isV hnt hz
  have A:=XZ (h.below b2) (Nat.le_trans hn0 b2.size) hnt (some ⟨Bp,op,none⟩) c P.dropLast ((LiesP.less hP).keep b2) (by rw [hdl];omega) hckD (Utf8Tabs_below hT b2) (w1.heap.size+1) (w1.heap.size+1+1) (Q7 xk.data.toList y) (fun W1 B o S f z hb hh hz=>XV hh (leadV_few_at hb hh hz) _ xk (-1) ((hS.below hb)) hxl _ g y _ _ _ _ _ _ (hV.below hb) ((hl.below b2).kept (fun q h=>Nat.lt_of_lt_of_le h (Nat.le_trans b2.size hb.size)) hb.size (fun q _ hq=>hb.block q hq)) hn);rw [hdl] at A;exact A.mono fun e w' hc=>ChW.from hc b2 hn0
 have KC:Hid (Calls Tryd.prog 80 #[.slice (some ⟨Bp,op,none⟩) (m+1) c] W0 fun e w'=>e=.returned (.tuple #[.slice (some ⟨Bp,op,none⟩) m c,.agg #[.string xk,.int .i64 (-1)]])/\Below W0.heap.size W0 w'):=ja (zt W0 Bp op c m xk _ (by omega) hcm ((b0.cell (p:=⟨Bp,op+m*2,none⟩) hBp).trans e0) ((b0.cell (p:=⟨Bp,op+m*2+1,none⟩) hBp).trans e1));have z0:=hZ.cell 0 _ rfl;have z1:W0.cell? ⟨W.heap.size,1,none⟩=some (.slice (some ⟨Bp,op,none⟩) (m+1) c):=hZ.cell 1 _ rfl
 rw [hW0] at z0 z1 KC;have HZ:=ja hZ;have HW0:=ja hW0;rw [hm];have HN0:=ja hn0;clear hxk hxs hckD hdl hlast hP hZ hW0 b0 s0 hG hIx h hT hl hn hnt hk1 hk2 hk3 e0 e1 hBp hPc hPl hck hP0 hlt hxl hx hn0 hm
 go_enter Tryd.func64,Tryd.ntmps64
 go_wp2_with (first
  | (go_at_call 80;refine(jc KC).mono ?_;rintro e w1 ⟨rfl,hb⟩;rw [<-HW0.out] at hb;have hz2:=Blk.alloc (HZ.out.below hb) (.cells #[.string xk,.int .i64 (-1)] 60);have v2:=hz2.cell 2 _ rfl;have v3:=hz2.cell 3 _ rfl;have v4:=hz2.cell 4 _ rfl;have v5:=hz2.cell 5 _ rfl;have v6:=hz2.cell 6 _ rfl;have v7:=hz2.cell 7 _ rfl;have KA1:=ja (KA.out w1 hb);clear hb hz2)
  | (go_at_call 81;refine(Yi _ _ _ _ _ _ _ _ _ _ _ _).mono ?_;rintro e w' ⟨rfl,rfl⟩)
  | (go_at_call 78;refine(jc KA1).mono ?_;rintro e w' hch;have he:=hch.1;subst he;have HC:=ja hch;clear hch))
 go_ret;exact HC.out
theorem JX {n0 R:Nat}{W:World}{t:V}(h:RootD n0 R W t)(hn0:n0<=W.heap.size)(hnt:Few 1000000 t)(p:Option Addr)(c:Nat)(P:List St)(hP:LiesP W p P)(hPl:P.length<=20)(hPc:P.length<=c)(hcm:c<=9223372036854775807)(hP0:P≠[])(hck:jq P=0)(hT:jt W)(g:Nat)(y:V)(k n:Int)(b:Nat)(s:ByteArray)(pL:Option Addr)(nL cL:Nat)(pE:Option Addr)(nE cE:Nat)(hl:LiesV (fun q=>q<W.heap.size) g W [.int .i64 k,.int .i64 n,.int .u64 (b:Int),.string s,.slice pL nL cL,.slice pE nE cE] y)(hn:Few 1000000 y)(key:ByteArray)(i:Nat)(hx:(ju P).2=(i:Int)) :
  Calls Tryd.prog 64 #[.pointer (some ⟨R,0,none⟩),.agg #[.int .i64 2,.slice p P.length c,.int .i64 k,.int .i64 n,.int .u64 (b:Int),.string s,.slice pL nL cL,.slice pE nE cE,.string key]] W (ChW n0 R W (jj (ZA (ju P) y) t P.dropLast)):=by
 obtain⟨m,hm⟩:∃m,P.length=m+1:=⟨P.length - 1,by have:=List.length_pos_iff.2 hP0;omega⟩
 have hlt:m<P.length:=by omega
 obtain⟨Bp,op,xk,rfl,hBp,hk1,hk2,hk3,e0,e1⟩:=hP.at hlt
 have hlast:ju P=P[m]:=by
  unfold ju;rw [List.getLast?_eq_getElem?,hm,Nat.add_sub_cancel,List.getElem?_eq_getElem hlt];rfl
 have hxk:(ju P).1=xk.data.toList:=by rw [hlast,<-hk1]
 have hdl:P.dropLast.length=m:=by rw [List.length_dropLast,hm,Nat.add_sub_cancel]
 have hckD:jq P.dropLast=0:=Ju hck;have hxs:=(jm ((jl hck).2 _ (List.getElem_mem hlt)))
 have hxl:xk.size<=maxLen:=by
  have:=hxs.2.2.1;rw [<-hk1,jn] at this;unfold maxLen;omega
 obtain⟨W0,hW0⟩:∃W0,W0=W.alloc (.cells #[.int .i64 2,.slice (some ⟨Bp,op,none⟩) (m+1) c,.int .i64 k,.int .i64 n,.int .u64 (b:Int),.string s,.slice pL nL cL,.slice pE nE cE,.string key] 45):=⟨_,rfl⟩
 have b0:Below W.heap.size W W0:=by rw [hW0];exact(Below.refl _ W).alloc (Nat.le_refl _) _
 have s0:W0.heap.size=W.heap.size+1:=by rw [hW0];simp
 have hZ:Blk W0 W.heap.size #[.int .i64 2,.slice (some ⟨Bp,op,none⟩) (m+1) c,.int .i64 k,.int .i64 n,.int .u64 (b:Int),.string s,.slice pL nL cL,.slice pE nE cE,.string key] 45:=by rw [hW0];exact jb W _ _
 have hG:ZA (ju P) y=Q8 (i:Int) y:=by
  funext h
  unfold ZA;rw [if_neg (by omega),hx]
 rw [hG];rw [hlast] at hx;rw [hx] at e1;have hNI:¬(i:Int) = -1:=by omega
 have hi63:i<=9223372036854775807:=by omega
 have hIx:∀x∈P.dropLast,x.2 = -1\/0<=x.2:=fun x hx=>(jm ((jl hckD).2 x hx)).2.1.imp id And.left
 have KA:Hid (∀w1,Below W0.heap.size W0 w1->Calls Tryd.prog 78 #[.pointer (some ⟨R,0,none⟩),.slice (some ⟨Bp,op,none⟩) m c,.func (.func 96) #[] #[.pointer (some ⟨w1.heap.size+1,0,none⟩),.pointer (some ⟨w1.heap.size+1+1,0,none⟩)]] (((w1.alloc (.cells #[.string xk,.int .i64 (i:Int)] 60)).alloc (.cells #[.string xk,.int .i64 (i:Int)] 60)).alloc (.cells #[.int .i64 k,.int .i64 n,.int .u64 (b:Int),.string s,.slice pL nL cL,.slice pE nE cE] 26)) (ChW n0 R W (jj (Q8 (i:Int) y) t P.dropLast))):=ja fun w1 hw1=>by
  obtain⟨W2,hW2⟩:∃W2,W2=((w1.alloc (.cells #[.string xk,.int .i64 (i:Int)] 60)).alloc (.cells #[.string xk,.int .i64 (i:Int)] 60)).alloc (.cells #[.int .i64 k,.int .i64 n,.int .u64 (b:Int),.string s,.slice pL nL cL,.slice pE nE cE] 26):=⟨_,rfl⟩
  rw [<-hW2];have b1:Below W.heap.size W w1:=b0.trans (hw1.mono b0.size);have b2:Below W.heap.size W W2:=by rw [hW2];exact((b1.alloc b1.size _).alloc (by have:=b1.size;simp;omega) _).alloc (by have:=b1.size;simp;omega) _
  have hS:Blk W2 (w1.heap.size+1) #[.string xk,.int .i64 (i:Int)] 60:=by
   rw [hW2];refine Blk.alloc ?_ _
   have:=jb (w1.alloc (.cells #[.string xk,.int .i64 (i:Int)] 60)) #[.string xk,.int .i64 (i:Int)] 60;rwa [World.size_alloc] at this
  have hV:Blk W2 (w1.heap.size+1+1) #[.int .i64 k,.int .i64 n,.int .u64 (b:Int),.string s,.slice pL nL cL,.slice pE nE cE] 26:=by
   rw [hW2];have:=jb ((w1.alloc (.cells #[.string xk,.int .i64 (i:Int)] 60)).alloc (.cells #[.string xk,.int .i64 (i:Int)] 60)) #[.int .i64 k,.int .i64 n,.int .u64 (b:Int),.string s,.slice pL nL cL,.slice pE nE cE] 26;rwa [World.size_alloc,World.size_alloc] at this
  have leadV_few_at:∀{W1:World} {B o f:Nat} {S:Nat->Prop} {z:V},Below W2.heap.size W2 W1->Here n0 W1 B o S f z->je t P.dropLast=.inl z->Few 1000000 z:=fun _ _ hz=>by
   obtain⟨fr,_,_,_,_,_,_,_,_,hRl,_⟩:=h;exact qr P.dropLast hIx hRl.lies.isV hnt hz
  have A:=XR (h.below b2) (Nat.le_trans hn0 b2.size) hnt (some ⟨Bp,op,none⟩) c P.dropLast ((LiesP.less hP).keep b2) (by rw [hdl];omega) hckD (Utf8Tabs_below hT b2) (w1.heap.size+1) (w1.heap.size+1+1) (Q8 (i:Int) y) (fun W1 B o S f z hb hh hz=>Yf hh (leadV_few_at hb hh hz) _ xk i (by omega) ((hS.below hb)) _ g y _ _ _ _ _ _ (hV.below hb) ((hl.below b2).kept (fun q h=>Nat.lt_of_lt_of_le h (Nat.le_trans b2.size hb.size)) hb.size (fun q _ hq=>hb.block q hq)) hn);rw [hdl] at A;exact A.mono fun e w' hc=>ChW.from hc b2 hn0
 have KC:Hid (Calls Tryd.prog 80 #[.slice (some ⟨Bp,op,none⟩) (m+1) c] W0 fun e w'=>e=.returned (.tuple #[.slice (some ⟨Bp,op,none⟩) m c,.agg #[.string xk,.int .i64 (i:Int)]])/\Below W0.heap.size W0 w'):=ja (zt W0 Bp op c m xk _ (by omega) hcm ((b0.cell (p:=⟨Bp,op+m*2,none⟩) hBp).trans e0) ((b0.cell (p:=⟨Bp,op+m*2+1,none⟩) hBp).trans e1));have z0:=hZ.cell 0 _ rfl;have z1:W0.cell? ⟨W.heap.size,1,none⟩=some (.slice (some ⟨Bp,op,none⟩) (m+1) c):=hZ.cell 1 _ rfl
 rw [hW0] at z0 z1 KC;have HZ:=ja hZ;have HW0:=ja hW0;have HNI:=ja hNI;rw [hm];have HN0:=ja hn0;clear hxk hxs hckD hdl hlast hP hZ hW0 b0 s0 hG hIx h hT hl hn hnt hk1 hk2 hk3 e0 e1 hBp hPc hPl hck hP0 hlt hxl hx hn0 hm
 go_enter Tryd.func64,Tryd.ntmps64
 go_wp2_with (first
  | (go_at_call 80;refine(jc KC).mono ?_;rintro e w1 ⟨rfl,hb⟩;rw [<-HW0.out] at hb;have hz2:=Blk.alloc (HZ.out.below hb) (.cells #[.string xk,.int .i64 (i:Int)] 60);have v2:=hz2.cell 2 _ rfl;have v3:=hz2.cell 3 _ rfl;have v4:=hz2.cell 4 _ rfl;have v5:=hz2.cell 5 _ rfl;have v6:=hz2.cell 6 _ rfl;have v7:=hz2.cell 7 _ rfl;have KA1:=ja (KA.out w1 hb);clear hb hz2)
  | (go_at_call 81;refine(ZJ _ _ _ HNI.out _ _ _ _ _ _ _ _ _ _).mono ?_;rintro e w' ⟨rfl,rfl⟩)
  | (go_at_call 78;refine(jc KA1).mono ?_;rintro e w' hch;have he:=hch.1;subst he;have HC:=ja hch;clear hch))
 go_ret;exact HC.out
end upds
end Go.Proofs.YtadaehaemmelfaaDoor
