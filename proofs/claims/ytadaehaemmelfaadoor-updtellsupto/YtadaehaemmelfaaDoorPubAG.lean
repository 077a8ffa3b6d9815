/- Of our texts, what this claim reaches. -/
import Derived.Test.YtadaehaemmelfaaDoorPubAF
import Derived.Maps.OwnIn
import Derived.Test.YtadaehaemmelfaaDoorPubAA
import Derived.Test.YtadaehaemmelfaaDoorPubAC
import Derived.Test.YtadaehaemmelfaaDoorPubAE
set_option linter.unusedVariables false
set_option maxHeartbeats 4000000
set_option maxRecDepth 100000
namespace Go.Proofs.YtadaehaemmelfaaDoor
namespace valus
open Go.RowKit Go.Shelf
attribute [local go_sem] Oper.semAt_some
def KidsN (M:Nat->Prop)(W:World)(x:Nd)(kids:List Nd):Prop :=
 ∃(pL pE:Option Addr) (nL cL nE cE:Nat),¬M x.1/\x.1<W.heap.size/\W.cell? ⟨x.1,x.2.1+4,none⟩=some (.slice pL nL cL)/\W.cell? ⟨x.1,x.2.1+5,none⟩=some (.slice pE nE cE)/\
  (nL≠0->∃b q,pL=some ⟨b,q,none⟩)/\(nE≠0->∃b q,pE=some ⟨b,q,none⟩)/\kids=jC pL 6 0 (IntKind.i64.wrap (x.2.2+1)) nL++jC pE 7 1 (IntKind.i64.wrap (x.2.2+1)) nE
theorem Y4 (x:Nd)(w:World) :
  CallsIn Fence.wide 8 Tryd.prog 56 #[Jw x] w fun e w'=>e=.returned (.func (.func 73) #[] #[.pointer (some ⟨w.heap.size,0,none⟩)])/\w'=w.alloc (.cells #[.pointer (some ⟨x.1,x.2.1,none⟩),.int .i64 x.2.2] 77):=by
 unfold Jw;refine callsIn_of_wp Tryd.func56 rfl trivial ?_ rfl
 simp only [Tryd.ntmps56,List.size_toArray,List.length_cons,List.length_nil,Nat.reduceAdd,Nat.reduceSub,Array.replicate_succ,Array.replicate_zero,List.push_toArray,List.append_toArray,List.nil_append,List.cons_append]
 gi_wp2
 go_ret;exact⟨rfl,rfl⟩
theorem Q9 (w:World)(x y:Value)(t:TypeId):∀j u,[x,y][j]?=some u->(w.alloc (.cells #[x,y] t)).cell? ((⟨w.heap.size,0,none⟩:Addr).add j)=some u :=
 fun j u hu=>by
  have hb:=jb w #[x,y] t
  match j,hu with
  | 0,hu=>exact hb.cell 0 u hu
  | 1,hu=>exact hb.cell 1 u hu
theorem jb3:(Tryd.prog.info? 77).map (fun i=>(i.zero,i.size,i.bytes))=some (some (.agg #[.pointer none,.int .i64 0]),2,16):=by kernel_rfl
theorem Ym {F:Fence}{n:Nat}{P:Program}{c:Code}{Q:Exit->Act->World->Prop}{a:Act}{w:World}(Inv:Nat->Act->World->Prop)(m0:Nat)(h0:Inv m0 a w)
  (hs:∀m a w,Inv m a w->c.wpIn F n P (Exit.then (fun a' w'=>∃m',m'<m/\Inv m' a' w') Q) a w):(Code.loop c).wpIn F n P Q a w:=by
 refine wpIn_loop_rounds (m0+1) ?_
 have key:∀k m a w,m<k->Inv m a w->Code.roundsIn F n P c Q k a w:=by
  intro k
  induction k with
  | zero=>intro m a w h;omega
  | succ k ih=>
   intro m a w hm hi;rw [roundsIn_succ];refine wpIn_mono (hs m a w hi) ?_
   intro e a' w' hq;cases e with
   | normal=>obtain⟨m',hlt,hi'⟩:=hq;exact ih m' a' w' (by omega) hi'
   | ret=>exact hq
   | exit id=>exact hq
   | goto t=>exact hq
   | panic ch=>exact hq
   | outgrown=>exact hq
 exact key (m0+1) m0 a w (by omega) h0
structure Wait (w:World) (Bw g cap:Nat) (st:List Nd):Prop where
 box:Boxed w Bw 122 (.slice (some ⟨g,0,none⟩) st.length cap)
 own:w.ownsRow 0 77 2 (.slice (some ⟨g,0,none⟩) st.length cap) st.length (st.flatMap qh)
theorem Wait.kept {w w':World}{Bw g cap:Nat}{st:List Nd}(h:Wait w Bw g cap st)(hb:w'.heap[Bw]?=w.heap[Bw]?)(hg:w'.heap[g]?=w.heap[g]?):Wait w' Bw g cap st:=by
 refine⟨by unfold Boxed;rw [hb];exact h.box,?_⟩;obtain⟨hl,h2 | ⟨g',cap',cur,e,hb,r1,r2⟩⟩:=h.own
 ·obtain⟨h2,_⟩:=h2
  cases h2
 ·cases e
  exact⟨hl,.inr ⟨g,cap,cur,rfl,hb,hg.trans r1,r2⟩⟩
theorem Wait.lt {w:World}{Bw g cap:Nat}{st:List Nd}(h:Wait w Bw g cap st):g<w.heap.size:=(World.ownsRow.lt h.own g rfl).2
theorem Wait.cap {w:World}{Bw g cap:Nat}{st:List Nd}(h:Wait w Bw g cap st):st.length<=cap:=by
 obtain⟨hl,h2 | ⟨g',cap',cur,e,hb,r1,r2,r3⟩⟩:=h.own
 ·obtain⟨h2,_⟩:=h2
  cases h2
 ·cases e
  exact r2
theorem Wait.last {w:World}{Bw g cap:Nat}{st:List Nd}{x:Nd}(h:Wait w Bw g cap (st++[x])):w.cell? ⟨g,st.length*2,none⟩=some (.pointer (some ⟨x.1,x.2.1,none⟩))/\w.cell? ⟨g,st.length*2+1,none⟩=some (.int .i64 x.2.2):=by
 have l:=qz qh 2 (fun _=>rfl) st
 constructor
 ·rw [World.ownsRow.cellAt h.own _ (by simp),List.flatMap_append,List.getElem?_append_right (by omega),l]
  simp [qh]
 ·rw [World.ownsRow.cellAt h.own _ (by simp;omega),List.flatMap_append,List.getElem?_append_right (by omega),l]
  simp [qh]
theorem Wait.pop {w:World}{Bw g cap:Nat}{st:List Nd}{x:Nd}(h:Wait w Bw g cap (st++[x])):Wait (w.setCell ⟨Bw,0,none⟩ (.slice (some ⟨g,0,none⟩) st.length cap)) Bw g cap st:=by
 have l:=qz qh 2 (fun _=>rfl) st;refine⟨h.box.set _,?_⟩;have hne:some g≠some Bw:=fun e=>h.box.not_row (by decide) h.own (by rw [<-e];rfl)
 have o2:=World.ownsRow.kept h.own (grownBy_setCell' w Bw (.slice (some ⟨g,0,none⟩) st.length cap)) (.inr hne);obtain⟨hl,h2 | ⟨g',cap',cur,e,hb,r1,r2,r3,r4,r5⟩⟩:=o2
 ·obtain⟨h2,_⟩:=h2
  cases h2
 ·cases e
  simp only [List.length_append,List.length_cons,List.length_nil,Nat.zero_add] at r2 r5;refine⟨l,.inr ⟨g,cap,cur,rfl,hb,r1,by omega,r3,r4,?_⟩⟩;have e5:=congrArg (List.take (st.length*2)) r5;rw [List.take_take,Nat.min_eq_left (by omega),List.flatMap_append,<-l,List.take_left] at e5;rw [<-l];exact e5
def jcn {σ:Type}(J:(Nat->Prop)->σ->World->Prop)(todo:σ->List Nd)(mu:σ->Nat)(l b1 b2 Bw:Nat)(m:Nat)(a:Act)(X:World):Prop :=
 ∃(ds:List Nat) (M:Nat->Prop) (s:σ) (g cap:Nat),(∃u5 u6 u7 u8 u9 u10 u11 u12 u13 u14 u15 u16 u17 u18 u19 u20 u21 u22 u23 u24 u25 u26 u27 u28 u29 u30 u31 u32 u33 u34 u35 u36 u37 u38:Value,a={ tmps:=#[Value.func (Fn.yield l) #[] #[],Value.pointer (some ⟨b1,0,none⟩),Value.pointer (some ⟨b2,0,none⟩),undef,Value.pointer (some ⟨Bw,0,none⟩),u5,u6,u7,u8,u9,u10,u11,u12,u13,u14,u15,u16,u17,u18,u19,u20,u21,u22,u23,u24,u25,u26,u27,u28,u29,u30,u31,u32,u33,u34,u35,u36,u37,u38],defers:=jbB ds })/\
  m=mu s/\J M s X/\(∀b,M b->b<X.heap.size)/\(M Bw/\M g/\M b2)/\(∀D,D∈ds->M D/\X.heap[D]?=some (.deferred (some [])))/\ds.Nodup/\X.heap[b2]?=some (.cells #[.func (.func 56) #[] #[]] 107)/\Wait X Bw g cap (todo s).reverse
theorem Qu (b1 b2:Nat)(first:Nd){σ:Type}(todo:σ->List Nd)(mu:σ->Nat)(w:World)
  (h1:w.heap[b1]?=some (.cells #[.pointer (some ⟨first.1,first.2.1,none⟩),.int .i64 first.2.2] 77)) (h2:w.heap[b2]?=some (.cells #[.func (.func 56) #[] #[]] 107)) :
  jbC Tryd.prog 71 #[.pointer (some ⟨b1,0,none⟩),.pointer (some ⟨b2,0,none⟩)] Jw todo mu KidsN first (fun b=>b=b1\/b=b2) w:=by
 intro l J Jx s0 W hJ hJx hY hlen hW hs0 h0;have lt1:b1<w.heap.size:=(Array.getElem?_eq_some_iff.1 h1).1;have lt2:b2<w.heap.size:=(Array.getElem?_eq_some_iff.1 h2).1;have g1:=(hW.block b1 lt1).trans h1;have g2:=(hW.block b2 lt2).trans h2;have c10:W.cell? ⟨b1,0,none⟩=some (.pointer (some ⟨first.1,first.2.1,none⟩)):=Blk.cell (t:=77) g1 0 _ rfl
 have c11:W.cell? ⟨b1,1,none⟩=some (.int .i64 first.2.2):=Blk.cell (t:=77) g1 1 _ rfl
 refine callsIn_of_wp_marks Tryd.func71 rfl trivial ?_ rfl
 simp only [Tryd.ntmps71,List.size_toArray,List.length_cons,List.length_nil,Nat.reduceAdd,Nat.reduceSub,Array.replicate_succ,Array.replicate_zero,List.push_toArray,List.append_toArray,List.nil_append,List.cons_append]
 gi_wp2
 refine Ym (jcn J todo mu l b1 b2 (W.heap.size+1)) (mu s0) ?start ?step
 case start=>
  have hn1:Boxed ((W.alloc (.cells #[.pointer (some ⟨first.1,first.2.1,none⟩),.int .i64 first.2.2] 77)).alloc (.cells #[.slice (some ⟨W.heap.size,0,none⟩) 1 1] 122)) (W.heap.size+1) 122 (.slice (some ⟨W.heap.size,0,none⟩) 1 1):=by
   have:=Boxed.new (W.alloc (.cells #[.pointer (some ⟨first.1,first.2.1,none⟩),.int .i64 first.2.2] 77)) 122 (.slice (some ⟨W.heap.size,0,none⟩) 1 1);rwa [World.size_alloc] at this
  have hn2:Blk ((W.alloc (.cells #[.pointer (some ⟨first.1,first.2.1,none⟩),.int .i64 first.2.2] 77)).alloc (.cells #[.slice (some ⟨W.heap.size,0,none⟩) 1 1] 122)) W.heap.size #[.pointer (some ⟨first.1,first.2.1,none⟩),.int .i64 first.2.2] 77:=(jb W _ _).alloc _;refine⟨[],fun b=>(b=b1\/b=b2)\/(W.heap.size<=b/\b<W.heap.size+2),s0,W.heap.size,1,⟨_,_,_,_,_,_,_,_,_,_,_,_,_,_,_,_,_,_,_,_,_,_,_,_,_,_,_,_,_,_,_,_,_,_,rfl⟩,rfl,?_,?_,⟨.inr ⟨by omega,by omega⟩,.inr ⟨by omega,by omega⟩,.inl (.inr rfl)⟩,by simp,by simp,?_,?_⟩
  ·exact hJ _ _ s0 W _ h0 ((Turns.alloc _ _ _).trans (Turns.alloc (fun _=>False) _ _) (fun b _ h=>h.elim)) (fun b h=>h.elim .inl (fun h=>.inr h.1))
  ·intro b hb
   have:=hW.size;simp only [World.size_alloc];omega
  ·exact(Below.heap_alloc _ _ _ (by have:=hW.size;simp only [World.size_alloc];omega)).trans ((Below.heap_alloc _ _ _ (by have:=hW.size;omega)).trans g2)
  ·rw [hs0]
   exact⟨hn1,rfl,.inr ⟨_,_,_,rfl,Nat.zero_le _,hn2,Nat.le_refl _,by unfold maxLen;decide,rfl,rfl⟩⟩
 case step=>
  rintro m a X ⟨ds,M,s,g,cap,⟨u5,u6,u7,u8,u9,u10,u11,u12,u13,u14,u15,u16,u17,u18,u19,u20,u21,u22,u23,u24,u25,u26,u27,u28,u29,u30,u31,u32,u33,u34,u35,u36,u37,u38,rfl⟩,rfl,hj,hM,⟨m1,m2,m3⟩,hds,hnd,hb2,hw⟩
  have cw:=hw.box.cell;have fw:=hw.box.frozen;have hl:=hlen M s X hj;cases ht:todo s with
  | nil=>
   rw [ht] at cw;simp only [List.reverse_nil,List.length_nil] at cw
   gi_wp2
   exact Jd rfl ds X hnd (fun D hD=>(hds D hD).2) (fun W' ht'=>⟨⟨_,rfl⟩,M,.inl ⟨s,ht,hJ M M s X W' hj (ht'.mono fun b _ hb=>(hds b hb).1) (fun b h=>.inl h)⟩⟩)
  | cons x rest=>
   rw [ht] at cw hw hl;simp only [List.reverse_cons,List.length_append,List.length_reverse,List.length_cons,List.length_nil,Nat.zero_add] at cw hw hl;obtain⟨k0,k1⟩:=hw.last;rw [List.length_reverse] at k0 k1;have hcap:rest.length+1<=cap:=by have:=hw.cap;simpa using this
   obtain⟨A1,hA1⟩:∃A1,A1=X.alloc (.cells #[.pointer (some ⟨x.1,x.2.1,none⟩),.int .i64 x.2.2] 77):=⟨_,rfl⟩
   obtain⟨Wa,hWa⟩:∃Wa,Wa=A1.setCell ⟨W.heap.size+1,0,none⟩ (.slice (some ⟨g,0,none⟩) rest.length cap):=⟨_,rfl⟩
   have bw1:Boxed A1 (W.heap.size+1) 122 (.slice (some ⟨g,0,none⟩) (rest.length+1) cap):=by rw [hA1];have:=hw.box.alloc (.cells #[.pointer (some ⟨x.1,x.2.1,none⟩),.int .i64 x.2.2] 77);simpa using this
   have cw1:=bw1.cell;have fw1:=bw1.frozen
   have nb:Blk Wa X.heap.size #[.pointer (some ⟨x.1,x.2.1,none⟩),.int .i64 x.2.2] 77:=by
    rw [hWa,hA1];exact(jb X _ _).set_other _ _ (fun e=>by have:=hw.box.lt;simp only at e;omega)
   have n0:=nb.cell 0 _ rfl;have n1:=nb.cell 1 _ rfl
   have tA:Turns M X Wa:=by
    rw [hWa,hA1];exact(Turns.alloc M X _).trans (Turns.setCell (M:=M) _ _ _ m1) (fun b _ h=>h)
   have sA:Wa.heap.size=X.heap.size+1:=by rw [hWa,hA1];simp [World.setCell]
   obtain⟨M1,hM1⟩:∃M1:Nat->Prop,M1=fun b=>M b\/b=X.heap.size:=⟨_,rfl⟩
   have jA:J M1 s Wa:=hJ M M1 s X Wa hj tA (fun b h=>by rw [hM1] at h;exact h.elim .inl (fun e=>.inr (by omega)))
   have hM1lt:∀b,M1 b->b<Wa.heap.size:=fun b h=>by
    rw [hM1] at h
    rcases h with h | h
    ·have:=hM b h
     omega
    ·omega
   obtain⟨fn,tmps,assign,body,hy,hR⟩:=YieldAt.any 8 (YieldAt.oneWay (hY M1 s x rest Wa jA hM1lt ht));simp only [Jw] at hy
   have wA:Wait Wa (W.heap.size+1) g cap rest.reverse:=by
    have h:=(hw.kept (w':=A1) (by rw [hA1];exact Below.heap_alloc _ _ _ hw.box.lt) (by rw [hA1];exact Below.heap_alloc _ _ _ hw.lt)).pop;rw [List.length_reverse] at h;rw [hWa];exact h
   have ne2:b2≠W.heap.size+1:=fun e=>by have:=hW.size;omega
   have a2:Wa.heap[b2]?=some (.cells #[.func (.func 56) #[] #[]] 107):=by
    rw [hWa,hA1,Below.heap_setCell _ _ _ _ ne2];exact(Below.heap_alloc _ _ _ (hM b2 m3)).trans hb2
   have dA:∀D,D∈ds->Wa.heap[D]?=some (.deferred (some [])):=fun D hD=>by
    have h:=(hds D hD).2
    rw [hWa,hA1,Below.heap_setCell _ _ _ _ (fun e=>by
     simp only at e;rw [e,show X.heap[W.heap.size+1]?=_ from hw.box] at h;cases h)]
    exact(Below.heap_alloc _ _ _ (hM D (hds D hD).1)).trans h
   rw [hA1] at cw1 fw1;have hWa':=hWa;rw [hA1] at hWa';rw [hWa'] at n0 n1 hy hR
   gi_wp2
   refine hR.mono ?_
   rintro e X2 ⟨bb,rfl,⟨rfl,tY,s',kids,j2,ht2,hmu,hK⟩ | ⟨rfl,tY,jx⟩⟩
   ·rw [<-hWa'] at tY
    have kp:∀b,M1 b->X2.heap[b]?=Wa.heap[b]?:=fun b hb=>tY.block b (hM1lt b hb) (fun h=>h hb)
    have q0:M1 (W.heap.size+1):=by rw [hM1];exact .inl m1
    have q1:M1 g:=by rw [hM1];exact .inl m2
    have q2:M1 b2:=by rw [hM1];exact .inl m3
    have q3:M1 X.heap.size:=by rw [hM1];exact .inr rfl
    have w2:=wA.kept (kp _ q0) (kp _ q1);have nb2:Blk X2 X.heap.size #[.pointer (some ⟨x.1,x.2.1,none⟩),.int .i64 x.2.2] 77:=(kp _ q3).trans nb;have f2:Blk X2 b2 #[.func (.func 56) #[] #[]] 107:=(kp _ q2).trans a2;have e0:=nb2.cell 0 _ rfl;have e1:=nb2.cell 1 _ rfl;have e2:=f2.cell 0 _ rfl
    -- REST
    gi_wp2
    refine⟨trivial,(Y4 x X2).mono ?_⟩
    rintro e w' ⟨rfl,rfl⟩
    gi_wp2
    obtain⟨pL,pE,nL,cL,nE,cE,nx1,lx1,v4,v5,hL,hE,hkids⟩:=hK;obtain⟨X3,hX3⟩:∃X3,X3=X2.alloc (.cells #[.pointer (some ⟨x.1,x.2.1,none⟩),.int .i64 x.2.2] 77):=⟨_,rfl⟩
    rw [<-hX3];have s3:X3.heap.size=X2.heap.size+1:=by rw [hX3];simp
    have t3:Turns (fun _=>False) X2 X3:=by rw [hX3];exact Turns.alloc _ _ _
    have l2:=tY.size;have hl2:=hlen M1 s' X2 j2;rw [ht2,hkids] at hl2;simp only [List.length_append,jy] at hl2;have nb3:Blk X3 X2.heap.size #[.pointer (some ⟨x.1,x.2.1,none⟩),.int .i64 x.2.2] 77:=by rw [hX3];exact jb _ _ _
    have w3:Wait X3 (W.heap.size+1) g cap rest.reverse:=w2.kept (t3.block _ w2.box.lt (fun h=>h)) (t3.block _ w2.lt (fun h=>h));have xne:x.1≠W.heap.size+1/\x.1≠g:=⟨fun e=>nx1 (e ▸ q0),fun e=>nx1 (e ▸ q1)⟩
    have gne:=w2.lt;have bne:=w2.box.lt
    refine wpIn_rangeFunc_ownH rfl (by decide) (gf:=73) (lb:=#[.pointer (some ⟨X2.heap.size,0,none⟩)]) rfl trivial (enters_of Tryd.func73 (by kernel_rfl) rfl)
     (XI X2.heap.size x.1 x.2.1 x.2.2 pL pE nL cL nE cE hL hE (by omega) (by omega)
      (fun A B=>∀b,b<X3.heap.size->b≠W.heap.size+1->b≠g->B.heap[b]?=A.heap[b]?)
      (fun A B h=>⟨h _ (by omega) (by omega) (by omega),h _ (by omega) xne.1 xne.2⟩) X3 (by omega) (by omega)
      (nb3.cell 0 _ rfl) (nb3.cell 1 _ rfl) ((t3.cell (p:=⟨x.1,x.2.1+4,none⟩) lx1 (fun h=>h)).trans v4) ((t3.cell (p:=⟨x.1,x.2.1+5,none⟩) lx1 (fun h=>h)).trans v5))
     (fun h k b b1 b2 b3=>(k b b1 b2 b3).trans (h b b1 b2 b3))
     (fun A l o o' hl _ _ _ b hb _ _=>World.putObj_heap_other (by omega))
     (Below.refl _ _) (fun _=>rfl)
     (fun pre Y=>∃g' cap',(g'=g\/X3.heap.size<=g')/\Wait Y (W.heap.size+1) g' cap' (rest.reverse++pre)/\Turns (fun b=>b=W.heap.size+1\/b=g) X3 Y)
     (fun _ _ _=>False)
     ?own (fun _ _ _ _ _ h _ _=>h) ⟨g,cap,.inl rfl,by rw [List.append_nil];exact w3,Turns.refl _ _⟩
     (fun y a' Y=>∃Bx,X3.heap.size<=Bx/\Blk Y Bx #[.pointer (some ⟨y.1,y.2.1,none⟩),.int .i64 y.2.2] 77/\a'={ tmps:=#[Value.func (Fn.yield l) #[] #[],Value.pointer (some ⟨b1,0,none⟩),Value.pointer (some ⟨b2,0,none⟩),undef,Value.pointer (some ⟨W.heap.size+1,0,none⟩),Value.int IntKind.i64 (rest.length:Int),Value.pointer (some ⟨X.heap.size,0,none⟩),Value.pointer (some ⟨Bx,0,none⟩),u8,u9,Value.slice (some ⟨g,0,none⟩) (rest.length+1) cap,Value.int IntKind.i64 ((rest.length:Int)+1),Value.bool true,Value.slice (some ⟨g,0,none⟩) (rest.length+1) cap,Value.int IntKind.i64 ((rest.length:Int)+1),Value.int IntKind.i64 (rest.length:Int),Value.slice (some ⟨g,0,none⟩) (rest.length+1) cap,Value.int IntKind.i64 (rest.length:Int),Value.pointer (some ⟨g,rest.length*2,none⟩),Value.agg #[Value.pointer (some ⟨x.1,x.2.1,none⟩),Value.int IntKind.i64 x.2.2],Value.slice (some ⟨g,0,none⟩) (rest.length+1) cap,Value.int IntKind.i64 (rest.length:Int),Value.slice (some ⟨g,0,none⟩) rest.length cap,Value.func (Fn.yield l) #[] #[],Value.agg #[Value.pointer (some ⟨x.1,x.2.1,none⟩),Value.int IntKind.i64 x.2.2],Value.bool true,Value.bool false,Value.func (Fn.func 56) #[] #[],Value.agg #[Value.pointer (some ⟨x.1,x.2.1,none⟩),Value.int IntKind.i64 x.2.2],Value.func (Fn.func 73) #[] #[Value.pointer (some ⟨X2.heap.size,0,none⟩)],Jw y,u31,u32,u33,u34,u35,u36,u37,u38],defers:=[] })
     ?ax ?assign ?body ?done ?stop
    case own=>
     rintro pre A B row ⟨g',cap',hg',hwt,htn⟩ hgr hrow
     refine⟨g',cap',hg',hwt.kept (hgr.block _ hwt.box.lt ?_) (hgr.block _ hwt.lt ?_),htn.trans (Turns.grown (M:=fun b=>X3.heap.size<=b) hgr (fun b e=>(hrow b e).1)) (fun b hb h=>absurd hb (by omega))⟩
     ·intro e
      obtain⟨_,o,ho,hc⟩:=hrow _ e.symm;rw [show A.heap[W.heap.size+1]?=_ from hwt.box] at ho;cases ho
      cases hc
     ·intro e
      obtain⟨_,o,ho,hc⟩:=hrow _ e.symm;obtain⟨_,h2 | ⟨g2,cap2,cur,e2,_,r1,_⟩⟩:=hwt.own
      ·cases h2.1
      ·cases e2
       rw [r1] at ho;cases ho
       cases hc
    case ax=>
     rintro y a' _ A B row ⟨Bx,hBx,hb,ha⟩ hgr hrow
     refine⟨Bx,hBx,hb.grown hgr ?_,ha⟩;intro e;obtain⟨_,o,ho,hc⟩:=hrow _ e.symm;rw [show A.heap[Bx]?=_ from hb] at ho;cases ho
     cases hc
    case assign=>
     rintro l' pre y Y K ⟨g',cap',hg',hwt,htn⟩ hK
     simp only [Jw]
     gi_wp2
     have hsz:=htn.size;exact hK _ _ ((KeepsOthers.alloc _ _).from _) (fun b hb _ _=>Below.heap_alloc _ _ _ (by omega)) ⟨g',cap',hg',hwt.kept (Below.heap_alloc _ _ _ hwt.box.lt) (Below.heap_alloc _ _ _ hwt.lt),htn.trans (Turns.alloc (fun _=>False) _ _) (fun _ _ h=>h.elim)⟩ ⟨Y.heap.size,hsz,jb _ _ _,rfl⟩
    case body=>
     rintro l' pre y a' Y hl' ⟨r,hr⟩ ⟨g',cap',hg',hwt,htn⟩ ⟨Bx,hBx,hb,rfl⟩ hlt
     have y0:=hb.cell 0 _ rfl;have y1:=hb.cell 1 _ rfl;have cy:=hwt.box.cell;have fy:=hwt.box.frozen;have hbo:=hwt.box;have how:=hwt.own;simp only [List.length_append,List.length_reverse] at cy fy hbo how;obtain⟨i0,hi,hz0,hz1,hz2⟩:=info_parts jb3
     gi_wp2_with (gi_at_builtin;refine wpListIn_append_own_at _ rfl _ _ 122 rfl 0 77 i0 _ 2 16 Tryd.underlying122 hi hz0 hz1 hz2 rfl (by decide) _ _ _ rfl (how.alloc _) ⟨Y.heap.size,0,none⟩ 1 1 (qh y) rfl rfl (Q9 _ _ _ _) (QX y) (by unfold maxLen;omega) (by omega) (Nat.zero_le _) ?_;intro v' w1 hown' hgrow _ hat;obtain⟨g2,cap2,rfl⟩:=ownsRow_succ hown';obtain⟨bx1,bx2,ow2,ko2,_⟩:=hbo.appended (n₀:=0) (by decide) how (Nat.zero_le _) (Nat.zero_le _) hown' hgrow;have hc1:=bx1.cell;have hf1:=bx1.frozen)
     have hsz:=htn.size
     have tS:Turns (fun b=>b=W.heap.size+1\/b=g') Y (w1.setCell ⟨W.heap.size+1,0,none⟩ (.slice (some ⟨g2,0,none⟩) (rest.length+pre.length+1) cap2)) :=
      ((Turns.alloc (fun b=>b=W.heap.size+1\/b=g') Y _).trans (Turns.grown (M:=fun b=>b=g') hgrow (fun b e=>by cases e;rfl)) (fun b _ h=>.inr h)).trans (Turns.setCell (M:=fun b=>b=W.heap.size+1) _ _ _ rfl) (fun b _ h=>.inl h)
     refine⟨ko2.from _,fun b hb h1 h2=>tS.block b (by omega) (fun h=>h.elim h1 (fun e=>?_)),g2,cap2,?_,⟨?_,?_⟩,htn.trans tS (fun b hb h=>h.elim .inl (fun e=>?_))⟩
     ·rcases hg' with h | h
      ·exact h2 (e.trans h)
      ·omega
     ·rcases hat with h | h
      ·cases h
       exact hg'
      ·have e3:g2=(Y.alloc (.cells #[.pointer (some ⟨y.1,y.2.1,none⟩),.int .i64 y.2.2] 77)).heap.size:=by cases h;rfl
       rw [World.size_alloc] at e3;omega
     ·simpa [<-List.append_assoc] using bx2
     ·have e1:(rest.reverse++(pre++[y])).flatMap qh=(rest.reverse++pre).flatMap qh++qh y:=by simp
      have e2:(rest.reverse++(pre++[y])).length=rest.length+pre.length+1:=by simp;omega
      rw [e1,e2];exact ow2
     ·rcases hg' with h | h
      ·exact .inr (e.trans h)
      ·omega
    case done=>
     rintro D ys Y hD hys ⟨g',cap',hg',hwt,htn⟩ hdf
     rw [<-hkids] at hys;rw [hys] at hwt;have cy:=hwt.box.cell;have fy:=hwt.box.frozen;have how:=hwt.own;have hcp:=hwt.cap;have hlk:kids.length<=10000000:=by rw [hkids];simp only [List.length_append,jy];omega
     simp only [List.length_append,List.length_reverse] at cy fy how hcp;have HK:=ja hkids;clear hkids
     have fin:∀W5,W5.ownsRow 0 77 2 (.slice (some ⟨g',0,none⟩) (rest.length+kids.length) cap') (rest.length+kids.length) ((rest.reverse++kids.reverse).flatMap qh)->Y.grownBy W5 (some g')->
       ∃M3:Nat->Prop,J M3 s' W5/\(∀b,M3 b->b<W5.heap.size)/\(M3 (W.heap.size+1)/\M3 g'/\M3 b2)/\(∀D',D'∈D :: ds->M3 D'/\W5.heap[D']?=some (.deferred (some [])))/\(D :: ds).Nodup/\W5.heap[b2]?=some (.cells #[.func (.func 56) #[] #[]] 107)/\Wait W5 (W.heap.size+1) g' cap' (todo s').reverse:=by
      intro W5 ho5 hg5;have z3:=htn.size;have z5:=hg5.size;have hgY:=hwt.lt;have hDlt:D<Y.heap.size:=(Array.getElem?_eq_some_iff.1 hdf).1
      have nD:D≠g':=fun e=>by
       obtain⟨_,h2 | ⟨g2,cap2,cur,e2,_,r1,_⟩⟩:=hwt.own
       ·cases h2.1
       ·cases e2
        rw [e,r1] at hdf;cases hdf
      have nBg:W.heap.size+1≠g':=fun e=>hwt.box.not_row (by decide) hwt.own (by rw [<-e];rfl)
      have t5:Turns M1 X2 W5:=by
       refine((t3.mono (N:=M1) fun b _ h=>h.elim).trans htn (fun b hb h=>h.elim (fun e=>e ▸ q0) (fun e=>e ▸ q1))).trans (Turns.grown (M:=fun b=>b=g') hg5 (fun b e=>by cases e;rfl)) (fun b hb h=>?_)
       rcases hg' with e | e
       ·rw [h,e]
        exact q1
       ·omega
      have cut:∀b,M1 b->b≠W.heap.size+1->b≠g->W5.heap[b]?=Wa.heap[b]?:=fun b hb n1 n2=>by
       have hlt:=hM1lt b hb
       have n3:b≠g':=fun e=>by
        rcases hg' with h | h
        ·exact n2 (e.trans h)
        ·omega
       rw [hg5.block b (by omega) (fun e=>n3 (by cases e;rfl)),htn.block b (by omega) (fun h=>h.elim n1 n2),t3.block b (by omega) (fun h=>h)];exact kp b hb
      refine⟨fun b=>M1 b\/(X2.heap.size<=b/\b<W5.heap.size),hJ M1 _ s' X2 W5 j2 t5 (fun b h=>h.elim .inl (fun h=>.inr h.1)),fun b h=>?_,⟨.inl q0,?_,.inl q2⟩,fun D' hD'=>?_,?_,?_,?_⟩
      ·rcases h with h | h
       ·have:=hM1lt b h
        omega
       ·exact h.2
      ·rcases hg' with e | e
       ·rw [e]
        exact .inl q1
       ·exact .inr ⟨by omega,by omega⟩
      ·rcases List.mem_cons.1 hD' with rfl | hD'
       ·exact⟨.inr ⟨by omega,by omega⟩,(hg5.block _ hDlt (fun e=>nD (by cases e;rfl))).trans hdf⟩
       ·have hm:M1 D':=by rw [hM1];exact .inl (hds D' hD').1
        have hd:=dA D' hD';refine⟨.inl hm,(cut D' hm (fun e=>?_) (fun e=>?_)).trans hd⟩
        ·rw [e,show Wa.heap[W.heap.size+1]?=_ from wA.box] at hd
         cases hd
        ·obtain⟨_,h2 | ⟨g2,cap2,cur,e2,_,r1,_⟩⟩:=wA.own
         ·cases h2.1
         ·cases e2
          rw [e,r1] at hd;cases hd
      ·refine List.nodup_cons.2 ⟨fun h=>?_,hnd⟩
       have:=hM1lt D (by rw [hM1];exact .inl (hds D h).1);omega
      ·refine(cut b2 q2 ne2 (fun e=>?_)).trans a2
       obtain⟨_,h2 | ⟨g2,cap2,cur,e2,_,r1,_⟩⟩:=wA.own
       ·cases h2.1
       ·cases e2
        rw [e,r1] at a2;injection a2 with a2;injection a2 with _ a2;exact absurd a2 (by decide)
      ·have e1:(todo s').reverse=rest.reverse++kids.reverse:=by rw [ht2,List.reverse_append]
       rw [e1];refine⟨?_,?_⟩
       ·have:=hwt.box
        simp only [List.length_append,List.length_reverse] at this ⊢;exact this.kept hg5 (fun e=>nBg (by cases e;rfl))
       ·simp only [List.length_append,List.length_reverse]
        exact ho5
     by_cases hk0:kids.length=0
     ·obtain rfl:kids=[]:=List.eq_nil_of_length_eq_zero hk0
      simp only [List.length_nil,Nat.add_zero,List.append_nil] at cy how;have hr0:∀a ca,Calls Tryd.prog 72 #[Value.slice a 0 ca] Y fun e w'=>e=.returned (.tuple #[])/\w'=Y:=fun a ca=>AnyQ.slices_Reverse_empty Zh a ca Y
      obtain⟨M3,r3⟩:=fin Y (by simpa using how) (Yj _ _);have R3:=ja r3;clear fin r3
      dsimp only
      gi_wp2
      all_goals
       refine⟨trivial,(callsIn_wide.2 (hr0 _ _)).mono ?_⟩
       rintro e W5 ⟨rfl,rfl⟩
       gi_wp2
       exact⟨mu s',hmu,D :: ds,M3,s',g',_,⟨_,_,_,_,_,_,_,_,_,_,_,_,_,_,_,_,_,_,_,_,_,_,_,_,_,_,_,_,_,_,_,_,_,_,rfl⟩,rfl,R3.out⟩
     ·have hrev:=jaQ Y g' cap' (cap' - rest.length) rest.reverse kids (by omega) (by rw [List.length_reverse];exact how)
      rw [List.length_reverse] at hrev
      dsimp only
      gi_wp2
      refine⟨trivial,(callsIn_wide.2 hrev).mono ?_⟩
      rintro e W5 ⟨rfl,ho5,hg5⟩
      obtain⟨M3,r3⟩:=fin W5 ho5 hg5;have R3:=ja r3;clear fin r3
      gi_wp2
      exact⟨mu s',hmu,D :: ds,M3,s',g',cap',⟨_,_,_,_,_,_,_,_,_,_,_,_,_,_,_,_,_,_,_,_,_,_,_,_,_,_,_,_,_,_,_,_,_,_,rfl⟩,rfl,R3.out⟩
    case stop=>
     rintro D c pre Y _ _ h _
     exact h.elim
   ·rw [<-hWa'] at tY
    gi_wp2
    refine Jd rfl ds X2 hnd (fun D hD=>?_) (fun W' ht'=>⟨⟨_,rfl⟩,M1,.inr (hJx M1 M1 () X2 W' jx (ht'.mono fun b _ hb=>by rw [hM1];exact .inl (hds b hb).1) (fun b h=>.inl h))⟩);exact(tY.block D (hM1lt D (by rw [hM1];exact .inl (hds D hD).1)) (fun h=>h (by rw [hM1];exact .inl (hds D hD).1))).trans (dA D hD)
open Go.RowKit
def At (ok:Nat->Prop)(f:Nat)(W:World)(x:Nd)(t:V):Prop:=ok x.1/\x.1<W.heap.size/\∃us:List Value,(∀i,i<6->W.cell? ⟨x.1,x.2.1+i,none⟩=us[i]?)/\LiesV ok f W us t
theorem At.isV {ok:Nat->Prop}{f:Nat}{W:World}{x:Nd}{t:V}(h:At ok f W x t):IsV f t:=by
 obtain⟨_,_,us,_,h⟩:=h;exact h.isV
theorem zQ (p:Option Addr)(d k:Nat)(a:Int)(n i:Nat)(h:i<(jC p d k a n).length):(jC p d k a n)[i]=Qa p d k a i:=by simp [jC]
theorem At.kids {ok:Nat->Prop}{f:Nat}{W:World}{x:Nd}{t:V}(h:At ok f W x t)(a:Int):∃(pL pE:Option Addr) (nL cL nE cE:Nat) (ks:List (Nd×V)),W.cell? ⟨x.1,x.2.1+4,none⟩=some (.slice pL nL cL)/\W.cell? ⟨x.1,x.2.1+5,none⟩=some (.slice pE nE cE)/\
  (nL≠0->∃b q,pL=some ⟨b,q,none⟩)/\(nE≠0->∃b q,pE=some ⟨b,q,none⟩)/\ks.map Prod.fst=jC pL 6 0 a nL++jC pE 7 1 a nE/\ks.map Prod.snd=parts t/\∀k,k∈ks->At ok f W k.1 k.2/\k.1.2.2=a:=by
 obtain⟨hok,hlt,us,hus,hl⟩:=h;cases f with
 | zero=>exact hl.elim
 | succ f=>
  obtain⟨k,n,b,s,L,E,pL,pE,cL,cE,rfl,rfl,h3,h4,hL,hE⟩:=hl;refine⟨pL,pE,L.length,cL,E.length,cE,(jC pL 6 0 a L.length).zip L++(jC pE 7 1 a E.length).zip (E.map fun e=>(jE e).2),hus 4 (by omega),hus 5 (by omega),fun hn=>?_,fun hn=>?_,?_,?_,fun q hq=>?_⟩
  ·obtain⟨B,o,hp,_⟩:=hL hn
   exact⟨B,o,hp⟩
  ·obtain⟨B,o,hp,_⟩:=hE hn
   exact⟨B,o,hp⟩
  ·rw [List.map_append,List.map_fst_zip (by rw [jy];exact Nat.le_refl _),List.map_fst_zip (by rw [jy,List.length_map];exact Nat.le_refl _)]
  ·rw [List.map_append,List.map_snd_zip (by rw [jy];exact Nat.le_refl _),List.map_snd_zip (by rw [jy,List.length_map];exact Nat.le_refl _),jB]
  ·rcases List.mem_append.1 hq with hq | hq
   ·obtain⟨j,hj,e⟩:=List.getElem_of_mem hq
    have hj0:=hj;rw [List.length_zip,jy,Nat.min_self] at hj0;rw [List.getElem_zip,zQ] at e;obtain⟨B,o,rfl,hb,hbl,hk⟩:=hL (by omega);obtain⟨vs,v1,v2,y,hy,hly⟩:=hk j hj0;rw [List.getElem?_eq_getElem hj0] at hy;injection hy with hy;rw [<-e];refine⟨⟨hb,hbl,vs,fun i hi=>?_,?_⟩,rfl⟩
    ·exact v2 i hi
    ·rw [hy]
     exact hly.up
   ·obtain⟨j,hj,e⟩:=List.getElem_of_mem hq
    have hj0:=hj;rw [List.length_zip,jy,List.length_map,Nat.min_self] at hj0;rw [List.getElem_zip,zQ,List.getElem_map] at e;obtain⟨B,o,rfl,hb,hbl,hk⟩:=hE (by omega);obtain⟨vs,v1,v2,key,y,xs,hy,rfl,_,hly⟩:=hk j hj0;rw [List.getElem?_eq_getElem hj0] at hy;injection hy with hy;rw [<-e];refine⟨⟨hb,hbl,xs,fun i hi=>?_,?_⟩,rfl⟩
    ·have:=v2 (i+1) (by omega)
     rw [List.getElem?_cons_succ] at this;rw [<-this]
     show W.cell? ⟨B,o+j*7+1+i,none⟩=_
     congr 2
     omega
    ·rw [hy,jv]
     exact hly.up
def zh (s:List (Nd×V)):List Nd:=s.map Prod.fst
def jM (f:Nat)(s:List (Nd×V)):Nat:=jo (jd f) (s.map Prod.snd)
theorem j8 (f:Nat)(p:Nd×V)(s:List (Nd×V)):jM f (p :: s)=jd f p.2+jM f s:=rfl
theorem JG (f:Nat)(a b:List (Nd×V)):jM f (a++b)=jM f a+jM f b:=by
 unfold jM;rw [List.map_append,jH]
theorem qt {f:Nat}{t:V}(h:IsV f t):jd f t=jo (jd f) (parts t)+1:=by
 rw [<-jI h];rfl
theorem qY {f:Nat}{t:V}(h:IsV f t):1<=jd f t:=by
 rw [qt h];omega
structure Still (n1:Nat) (C:Nat->Prop) (f:Nat) (Wb:World) (M:Nat->Prop) (s:List (Nd×V)) (W:World):Prop where
 mine:∀b,M b->n1<=b
 base:n1<=Wb.heap.size
 turn:Turns (fun b=>C b\/n1<=b) Wb W
 lies:∀p,p∈s->At (fun b=>b<n1/\¬C b) f Wb p.1 p.2
theorem Still.abides {n1:Nat}{C:Nat->Prop}{f:Nat}{Wb:World}{M M':Nat->Prop}{s:List (Nd×V)}{W W':World}(h:Still n1 C f Wb M s W)(ht:Turns (fun b=>M b\/(n1<=b/\∃o:Obj,W.heap[b]?=some o/\o.isCells=false)) W W')(hm:∀b,M' b->M b\/W.heap.size<=b):Still n1 C f Wb M' s W':=by
 have hs:=h.turn.size;have hb:=h.base;refine⟨fun b hb'=>(hm b hb').elim (h.mine b) (fun h=>by omega),hb,h.turn.trans ht (fun b _ hb=>hb.elim (fun h'=>.inr (h.mine b h')) (fun h'=>.inr h'.1)),h.lies⟩
theorem Still.box {n1:Nat}{C:Nat->Prop}{f:Nat}{Wb:World}{M:Nat->Prop}{s:List (Nd×V)}{W W':World}{B:Nat}{t:TypeId}{v:Value}(h:Still n1 C f Wb M s W)(hB:B<n1)(hb:Boxed W B t v)(ht:Turns (fun b=>M b\/(n1<=b/\∃o:Obj,W.heap[b]?=some o/\o.isCells=false)) W W'):Boxed W' B t v:=by
 refine(ht.block B hb.lt (fun hx=>?_)).trans hb
 rcases hx with hx | hx
 ·have:=h.mine B hx
  omega
 ·omega
theorem Still.round {n1:Nat}{C:Nat->Prop}{f:Nat}{Wb:World}{M:Nat->Prop}{s:List (Nd×V)}{W W':World}(h:Still n1 C f Wb M s W)(ht:Turns (fun b=>C b\/n1<=b) W W'):Still n1 C f Wb M s W' :=
 ⟨h.mine,h.base,h.turn.trans ht (fun b _ h=>h),h.lies⟩
theorem Still.next {n1:Nat}{C:Nat->Prop}{f:Nat}{Wb:World}{M:Nat->Prop}{p:Nd×V}{s:List (Nd×V)}{W:World}(h:Still n1 C f Wb M (p :: s) W):∃ks:List (Nd×V),KidsN M W p.1 (ks.map Prod.fst)/\ks.map Prod.snd=parts p.2/\Still n1 C f Wb M (ks++s) W/\(∀k,k∈ks->k.1.2.2=IntKind.i64.wrap (p.1.2.2+1))/\jM f (ks++s)+1=jM f (p :: s):=by
 have hp:=h.lies p (by simp);obtain⟨pL,pE,nL,cL,nE,cE,ks,c4,c5,hL,hE,hf,hsnd,hk⟩:=hp.kids (IntKind.i64.wrap (p.1.2.2+1));have hx:=hp.1;have hlt:=hp.2.1;have hs:=h.turn.size;refine⟨ks,⟨pL,pE,nL,cL,nE,cE,fun hm=>?_,by omega,?_,?_,hL,hE,hf⟩,hsnd,⟨h.mine,h.base,h.turn,fun q hq=>?_⟩,fun k hk'=>(hk k hk').2,?_⟩
 ·have:=h.mine _ hm
  omega
 ·exact(h.turn.cell (p:=⟨p.1.1,p.1.2.1+4,none⟩) hlt (fun hx'=>hx'.elim hx.2 (fun h'=>by simp only at h';omega))).trans c4
 ·exact(h.turn.cell (p:=⟨p.1.1,p.1.2.1+5,none⟩) hlt (fun hx'=>hx'.elim hx.2 (fun h'=>by simp only at h';omega))).trans c5
 ·rcases List.mem_append.1 hq with hq | hq
  ·exact(hk q hq).1
  ·exact h.lies q (by simp [hq])
 ·rw [JG,j8,qt hp.isV,jM,hsnd]
  omega
theorem Xi {n1:Nat}{C M:Nat->Prop}{f B:Nat}{w Wb W2:World}{us:List Value}{t:V}(hl:LiesV (fun b=>b<w.heap.size) f w us t)(hb:Below w.heap.size w Wb)(hB:∀i,i<6->Wb.cell? ⟨B,0+i,none⟩=us[i]?)(hBn:B<n1)(hCB:¬C B)(hw:w.heap.size<=n1)(hC:∀b,b<w.heap.size->¬C b)(hn1:n1<=Wb.heap.size)(hM:∀b,M b->n1<=b)
  (ht:Turns (fun b=>C b\/n1<=b) Wb W2):Still n1 C f Wb M [((B,0,0),t)] W2 :=
 ⟨hM,hn1,ht,fun p hp=>by
  rw [List.mem_singleton.1 hp];exact⟨⟨hBn,hCB⟩,by simp only;omega,us,hB,hl.kept (fun b h=>⟨by omega,hC b h⟩) hb.size (fun b h _=>hb.block b h)⟩⟩
theorem KidsN.put {M:Nat->Prop}{W:World}{x:Nd}{kids:List Nd}{l:Nat}{o:Obj}(o':Obj)(h:KidsN M W x kids)(hl:W.heap[l]?=some o)(ho:o.isCells=false):KidsN M (W.putObj l o') x kids:=by
 obtain⟨pL,pE,nL,cL,nE,cE,nx1,lx1,v4,v5,r⟩:=h
 have hne:x.1≠l:=fun e=>by
  obtain⟨o2,h2,h3⟩:=cells_of_cell v4;simp only at h2;rw [e,hl] at h2;cases h2
  rw [ho] at h3;cases h3
 refine⟨pL,pE,nL,cL,nE,cE,nx1,by rw [World.putObj_size];exact lx1,?_,?_,r⟩
 ·exact(World.cell?_of_block (World.putObj_heap_other hne)).trans v4
 ·exact(World.cell?_of_block (World.putObj_heap_other hne)).trans v5
theorem Z4 {f n1:Nat}{C M:Nat->Prop}{Wb W:World}:∀{s:List (Nd×V)},Still n1 C f Wb M s W->(zh s).length<=jM f s
 | [],_=>Nat.zero_le _
 | p :: s,h=>by
  have:=Z4 (s:=s) ⟨h.mine,h.base,h.turn,fun q hq=>h.lies q (by simp [hq])⟩;have:=qY (h.lies p (by simp)).isV;rw [j8];simp only [zh,List.map_cons,List.length_cons] at *;omega
open Go.RowKit Go.ChangeShapes Go.WideShapes
def zx {H:Type}(bk:DataW H->Nat):List (DataW H)->Nat
 | []=>0
 | d :: r=>bk d+zx bk r
theorem Yl {H:Type}{bk:DataW H->Nat}{q:V->Nat}:∀{L:List V} {es:List (DataW H×List MemPlace)},L.length=es.length->(∀(j:Nat) (y:V) (e:DataW H×List MemPlace),L[j]?=some y->es[j]?=some e->q y<=bk e.1)->jo q L<=zx bk (es.map (·.1))
 | [],[],_,_=>Nat.le_refl _
 | y :: L,e :: es,hl,h=>by
  have h0:=h 0 y e rfl rfl;have h1:=Yl (L:=L) (es:=es) (by simpa using hl) (fun j z e' hz he=>h (j+1) z e' (by simpa using hz) (by simpa using he))
  show q y+jo q L<=bk e.1+zx bk (es.map (·.1))
  omega
theorem Zx (q:V->Nat)(g:V->V):∀E:List V,jo q (E.map g)=jo (fun e=>q (g e)) E
 | []=>rfl
 | e :: E=>by
  show q (g e)+jo q (E.map g)=q (g e)+jo (fun e=>q (g e)) E
  rw [Zx q g E]
theorem ZV {H:Type}{bk:DataW H->Nat}:∀{l:List (DataW H)} {d:DataW H},d∈l->bk d<=zx bk l
 | x :: l,d,h=>by
  show bk d<=bk x+zx bk l
  rcases List.mem_cons.1 h with rfl | h
  ·omega
  ·have:=ZV (bk:=bk) h
   omega
theorem jbj {H:Type}{bk:DataW H->Nat}{l:List (DataW H)}{i j:Nat}{a b:DataW H}(hij:i<j)(ha:l[i]?=some a)(hb:l[j]?=some b):bk a+bk b<=zx bk l:=by
 induction l generalizing i j with
 | nil=>simp at ha
 | cons x l ih=>
  show bk a+bk b<=bk x+zx bk l
  cases j with
  | zero=>omega
  | succ j=>
   rw [List.getElem?_cons_succ] at hb;cases i with
   | zero=>
    simp only [List.getElem?_cons_zero,Option.some.injEq] at ha;subst ha;have:=ZV (bk:=bk) (List.mem_of_getElem? hb);omega
   | succ i=>
    rw [List.getElem?_cons_succ] at ha;have:=ih (by omega) ha hb;omega
section
variable {H : Type} {enc : TypeId × Value → H} {P : Program} {w : World} {spare : Nat → Bool} {held : Bool} {bk : DataW H → Nat}
theorem qc {fs:Array Field}{cs:List Value}{n:Nat}{xs:List (DataW H×List MemPlace)}{i off:Nat}{t:TypeId}(hx:xs.length=fs.size)
  (h:∀(i:Nat) (f:Field),fs[i]?=some f->DataW.trod enc P w 0 spare held n f.type ((cs.drop f.offset).take (P.cellsOf f.type))=xs[i]?) (hf:∃f,fs[i]?=some f/\f.offset=off/\f.type=t) :
  ∃x,xs[i]?=some x/\DataW.trod enc P w 0 spare held n t ((cs.drop off).take (P.cellsOf t))=some x:=by
 obtain⟨f,h1,rfl,rfl⟩:=hf
 have hi:i<xs.length:=by
  rw [hx];exact(Array.getElem?_eq_some_iff.1 h1).1
 exact⟨xs[i],List.getElem?_eq_getElem hi,by rw [h i f h1,List.getElem?_eq_getElem hi]⟩
theorem jbl (hs:∀es sp,zx bk es<=bk (.slice es sp)){t e:TypeId}{d fuel:Nat}{cs:List Value}{x:DataW H×List MemPlace}(hd:0<d)(ht:P.underlying t=some (.slice e))(hc:P.cellsOf e=d)(h:DataW.trod enc P w 0 spare held fuel t cs=some x) :
  ∃(p:Option Addr) (len cap n:Nat) (es:List (DataW H×List MemPlace)),cs=[.slice p len cap]/\len<=cap/\cap<=maxLen/\n<=fuel/\(len≠0->n<fuel)/\es.length=len/\zx bk (es.map (·.1))<=bk x.1/\RowIn (fun _=>True) w p d len (fun j us=>∃y,es[j]?=some y/\DataW.trod enc P w 0 spare held n e us=some y):=by
 rcases DataW.trod_slice ht h with ⟨rfl,_⟩ | ⟨a,len,cap,elems,rest,n,rfl,rfl,rfl,hb,hl,hm,hlen,hel,hsp,hns⟩
 ·exact⟨none,0,0,0,[],rfl,Nat.le_refl _,Nat.zero_le _,Nat.zero_le _,fun h=>absurd rfl h,rfl,Nat.zero_le _,fun h=>absurd rfl h⟩
 ·refine⟨some a,len,cap,n,elems,rfl,hl,hm,Nat.le_succ _,fun _=>Nat.lt_succ_self _,hlen,hs _ _,fun h0=>?_⟩
  have each:∀j,j<len->∃us:List Value,us.length=d/\(∀i,i<d->w.cell? ((a.add (j*d)).add i)=us[i]?)/\∃y,elems[j]?=some y/\DataW.trod enc P w 0 spare held n e us=some y:=by
   intro j hj;have h1:=hel j hj;rw [List.getElem?_eq_getElem (by omega),hc,Option.bind_eq_some_iff] at h1;obtain⟨us,g1,g2⟩:=h1;obtain⟨_,g3,g4⟩:=World.cells?_some g1
   exact⟨us,g3,g4,elems[j]'(by omega),List.getElem?_eq_getElem (by omega),g2⟩
  have hz:∃v,w.cell? a=some v:=by
   obtain⟨us,g1,g2,_⟩:=each 0 (by omega);have g3:=g2 0 hd;rw [List.getElem?_eq_getElem (by omega)] at g3;refine⟨us[0],?_⟩;rw [<-g3];simp [Addr.add]
  obtain⟨v,hv⟩:=hz;have hspot:=World.cell?_spot hv
  obtain⟨b,off,spot⟩:=a;have hs:spot=none:=hspot;subst hs;have hlt:b<w.heap.size:=DataW.trod_lt _ _ _ _ h (.cell b off) (List.mem_append_left _ (MemPlace.mem_row.2 ⟨0,by rw [hc];exact Nat.mul_pos (by omega) hd,by simp⟩));refine⟨b,off,rfl,trivial,hlt,fun j hj=>?_⟩;obtain⟨us,g1,g2,g3⟩:=each j hj;refine⟨us,g1,fun i hi=>?_,g3⟩;have g4:=g2 i hi;rw [add_plain,add_plain] at g4;exact g4
variable {tV tE tL tM tI tN tU tS : TypeId} {fV fE : Array Field}
theorem QV (ha:∀ps,zx bk ps+1<=bk (.agg ps))(hs:∀es sp,zx bk es<=bk (.slice es sp))(T:Typed P tV tE tL tM tI tN tU tS fV fE):∀(k fuel:Nat) (cs:List Value) (x:DataW H×List MemPlace),fuel<=k->DataW.trod enc P w 0 spare held fuel tV cs=some x->∃t,LiesV (fun _=>True) k w cs t/\jd k t<=bk x.1
 | 0,0,cs,x,_,h=>by simp [DataW.trod] at h
 | k+1,fuel,cs,x,hk,h=>by
  obtain⟨xs,n,rfl,hx,hlen,hxs,hf⟩:=DataW.trod_struct T.v h;rw [T.cv] at hlen
  match cs,hlen with
  | [c0,c1,c2,c3,c4,c5],_=>
   obtain⟨x0,i0,h0⟩:=qc hxs hf T.v0;obtain⟨x1,i1,h1⟩:=qc hxs hf T.v1;obtain⟨x2,i2,h2⟩:=qc hxs hf T.v2;obtain⟨x3,i3,h3⟩:=qc hxs hf T.v3;obtain⟨x4,i4,h4⟩:=qc hxs hf T.v4;obtain⟨x5,i5,h5⟩:=qc hxs hf T.v5;rw [T.ci] at h0;rw [T.cn] at h1;rw [T.cu] at h2;rw [T.cs] at h3;rw [T.cl] at h4;rw [T.cm] at h5;obtain⟨z0,e0,_,w0⟩:=DataW.trod_int T.i h0;obtain⟨z1,e1,_,w1⟩:=DataW.trod_int T.n h1;obtain⟨z2,e2,_,w2⟩:=DataW.trod_int T.u h2;obtain⟨z3,e3,_,w3⟩:=DataW.trod_string T.s h3;obtain⟨p4,l4,a4,n4,es4,e4,b4,m4,k4,q4,el4,sm4,r4⟩:=jbl (bk:=bk) hs (by omega) T.l T.cv h4;obtain⟨p5,l5,a5,n5,es5,e5,b5,m5,k5,q5,el5,sm5,r5⟩:=jbl (bk:=bk) hs (by omega) T.m T.ce h5;simp only [List.drop,List.take] at e0 e1 e2 e3 e4 e5;injection e0 with e0;injection e1 with e1;injection e2 with e2;injection e3 with e3;injection e4 with e4;injection e5 with e5;subst e0 e1 e2 e3 e4 e5
   have j0:=bounds_i64 w0;have j1:=bounds_i64 w1;have j2:=bounds_u64 w2
   have hL:∃L:List V,L.length=l4/\jo (jd k) L<=bk x4.1/\RowIn (fun _=>True) w p4 6 l4 (fun j us=>∃y,L[j]?=some y/\LiesV (fun _=>True) k w us y):=by
    by_cases hz:l4=0
    ·exact⟨[],hz.symm,Nat.zero_le _,fun h=>absurd hz h⟩
    ·obtain⟨B,o,hp,hok,hlt,hr⟩:=r4 hz
     obtain⟨L,hL,hq⟩:=jaF (Q:=fun j y=>∃us:List Value,us.length=6/\(∀i,i<6->w.cell? ⟨B,o+j*6+i,none⟩=us[i]?)/\LiesV (fun _=>True) k w us y/\∃e,es4[j]?=some e/\jd k y<=bk e.1) l4 (fun j hj=>by
      obtain⟨us,u1,u2,y,u5,u3⟩:=hr j hj;obtain⟨t,ht,hb⟩:=QV ha hs T k n4 us y (by omega) u3;exact⟨t,us,u1,u2,ht,y,u5,hb⟩)
     refine⟨L,hL,Nat.le_trans (Yl (es:=es4) (by omega) (fun j y e hy he=>by
      obtain⟨_,_,_,_,e',he',hb⟩:=hq j y hy;rw [he] at he';injection he' with he';rw [he'];exact hb)) sm4,fun _=>⟨B,o,hp,hok,hlt,fun j hj=>?_⟩⟩
     have hj':j<L.length:=by omega
     obtain⟨us,u1,u2,u3,_⟩:=hq j L[j] (List.getElem?_eq_getElem hj');exact⟨us,u1,u2,L[j],List.getElem?_eq_getElem hj',u3⟩
   have hE:∃E:List V,E.length=l5/\jo (fun e=>jd k (jE e).2) E<=bk x5.1/\RowIn (fun _=>True) w p5 7 l5 (fun j us=>∃(key:ByteArray) (y:V) (xs:List Value),E[j]?=some (ent key.data.toList y)/\us=.string key :: xs/\key.size<=maxLen/\LiesV (fun _=>True) k w xs y):=by
    by_cases hz:l5=0
    ·exact⟨[],hz.symm,Nat.zero_le _,fun h=>absurd hz h⟩
    ·obtain⟨B,o,hp,hok,hlt,hr⟩:=r5 hz
     obtain⟨E,hE,hq⟩:=jaF (Q:=fun j y=>∃us:List Value,us.length=7/\(∀i,i<7->w.cell? ⟨B,o+j*7+i,none⟩=us[i]?)/\∃(key:ByteArray) (z:V) (xs:List Value),y=ent key.data.toList z/\us=.string key :: xs/\key.size<=maxLen/\LiesV (fun _=>True) k w xs z/\∃e,es5[j]?=some e/\jd k z<=bk e.1) l5 (fun j hj=>by
      obtain⟨us,u1,u2,y,u7,u3⟩:=hr j hj;obtain⟨ys,n',hn',hy',_,hys,hg⟩:=DataW.trod_struct T.e u3;obtain⟨y0,_,g0⟩:=qc hys hg T.e0;obtain⟨y1,iy,g1⟩:=qc hys hg T.e1;rw [T.cs] at g0;rw [T.cv] at g1
      match us,u1 with
      | [d0,d1,d2,d3,d4,d5,d6],u1=>
       obtain⟨key,ek,_,wk⟩:=DataW.trod_string T.s g0;simp only [List.drop,List.take] at ek g1;injection ek with ek;subst ek;obtain⟨t,ht,hb⟩:=QV ha hs T k n' _ y1 (by omega) g1
       exact⟨ent key.data.toList t,_,u1,u2,key,t,_,rfl,rfl,wk,ht,y,u7,by
        rw [hy'];have h1:=ha (ys.map (·.1));have h2:bk y1.1<=zx bk (ys.map (·.1)):=ZV (List.mem_map.2 ⟨y1,List.mem_of_getElem? iy,rfl⟩)
        show jd k t<=bk (.agg (ys.map (·.1)))
        omega⟩)
     refine⟨E,hE,Nat.le_trans (Yl (es:=es5) (by omega) (fun j y e hy he=>by
      obtain⟨_,_,_,key,z,xs,rfl,_,_,_,e',he',hb⟩:=hq j y hy;rw [he] at he';injection he' with he';rw [he',jv];exact hb)) sm5,fun _=>⟨B,o,hp,hok,hlt,fun j hj=>?_⟩⟩
     have hj':j<E.length:=by omega
     obtain⟨us,u1,u2,key,z,xs,u3,u4,u5,u6,_⟩:=hq j E[j] (List.getElem?_eq_getElem hj');exact⟨us,u1,u2,key,z,xs,by rw [List.getElem?_eq_getElem hj',u3],u4,u5,u6⟩
   obtain⟨L,hL1,hL3,hL2⟩:=hL;obtain⟨E,hE1,hE3,hE2⟩:=hE;subst hL1 hE1;refine⟨mkV (z0,z1,z2.toNat,z3.data.toList) L E,⟨z0,z1,z2.toNat,z3,L,E,p4,p5,a4,a5,rfl,?_,⟨j0,j1,by omega,w3⟩,⟨b4,m4,b5,m5⟩,hL2,hE2⟩,?_⟩
   ·rw [Int.toNat_of_nonneg j2.1]
   ·have h1:=ha (xs.map (·.1))
    have h2:bk x4.1+bk x5.1<=zx bk (xs.map (·.1)):=jbj (i:=4) (j:=5) (by omega) (by rw [List.getElem?_map,i4];rfl) (by rw [List.getElem?_map,i5];rfl);have h3:jd (k+1) (mkV (z0,z1,z2.toNat,z3.data.toList) L E)=jo (jd k) (L++E.map (fun e=>(jE e).2))+1:=rfl;have h4:=Zx (jd k) (fun e=>(jE e).2) E;rw [hx,h3,jH,h4]
    show _<=bk (.agg (xs.map (·.1)))
    omega
end
open Go.RowKit Go.Shelf
attribute [local go_sem] Oper.semAt_some
theorem jab (B o:Nat)(w:World) :
  CallsIn Fence.wide 7 Tryd.prog 55 #[.agg #[.pointer (some ⟨B,o,none⟩),.int .i64 0],.func (.func 56) #[] #[]] w fun e w'=>e=.returned (.func (.func 71) #[] #[.pointer (some ⟨w.heap.size,0,none⟩),.pointer (some ⟨w.heap.size+1,0,none⟩)])/\
   w'=(w.alloc (.cells #[.pointer (some ⟨B,o,none⟩),.int .i64 0] 77)).alloc (.cells #[.func (.func 56) #[] #[]] 107):=by
 refine callsIn_of_wp Tryd.func55 rfl trivial ?_ rfl
 simp only [Tryd.ntmps55,List.size_toArray,List.length_cons,List.length_nil,Nat.reduceAdd,Nat.reduceSub,Array.replicate_succ,Array.replicate_zero,List.push_toArray,List.append_toArray,List.nil_append,List.cons_append]
 gi_wp2
 go_ret;exact⟨rfl,rfl⟩
theorem JC (B o:Nat)(w:World) :
  CallsIn Fence.wide 8 Tryd.prog 37 #[.pointer (some ⟨B,o,none⟩)] w fun e w'=>e=.returned (.func (.func 71) #[] #[.pointer (some ⟨w.heap.size,0,none⟩),.pointer (some ⟨w.heap.size+1,0,none⟩)])/\
   w'=(w.alloc (.cells #[.pointer (some ⟨B,o,none⟩),.int .i64 0] 77)).alloc (.cells #[.func (.func 56) #[] #[]] 107):=by
 refine callsIn_of_wp Tryd.func37 rfl trivial ?_ rfl
 simp only [Tryd.ntmps37,List.size_toArray,List.length_cons,List.length_nil,Nat.reduceAdd,Nat.reduceSub,Array.replicate_succ,Array.replicate_zero,List.push_toArray,List.append_toArray,List.nil_append,List.cons_append]
 gi_wp2_with (refine⟨trivial,?_⟩;gi_at_call 55;refine(jab B o w).mono ?_;rintro e w' ⟨rfl,rfl⟩)
 go_ret;exact⟨rfl,rfl⟩
end valus
end Go.Proofs.YtadaehaemmelfaaDoor
