/- Of our texts, what this claim reaches. -/
import Derived.Test.YtnbfnjhbmeocfaaGreatDoorPmtAE
import Derived.Maps.OwnIn
import Derived.Test.YtnbfnjhbmeocfaaGreatDoorPmtAA
import Derived.Test.YtnbfnjhbmeocfaaGreatDoorPmtAD
set_option linter.unusedVariables false
set_option maxHeartbeats 4000000
set_option maxRecDepth 100000
namespace Go.Proofs.YtnbfnjhbmeocfaaGreatDoor
namespace valus
open Go.RowKit Go.Shelf
attribute [local go_sem] Oper.semAt_some
def KidsN (M:Nat->Prop)(W:World)(x:Nd)(kids:List Nd):Prop :=
 ∃(pL pE:Option Addr) (nL cL nE cE:Nat),¬M x.1/\x.1<W.heap.size/\W.cell? ⟨x.1,x.2.1+4,none⟩=some (.slice pL nL cL)/\W.cell? ⟨x.1,x.2.1+5,none⟩=some (.slice pE nE cE)/\
  (nL≠0->∃b q,pL=some ⟨b,q,none⟩)/\(nE≠0->∃b q,pE=some ⟨b,q,none⟩)/\kids=qc pL 6 0 (IntKind.i64.wrap (x.2.2+1)) nL++qc pE 7 1 (IntKind.i64.wrap (x.2.2+1)) nE
theorem jhx (x:Nd)(w:World) :
  CallsIn Fence.wide 8 Tryz.prog 81 #[ZO x] w fun e w'=>e=.returned (.func (.func 143) #[] #[.pointer (some ⟨w.heap.size,0,none⟩)])/\w'=w.alloc (.cells #[.pointer (some ⟨x.1,x.2.1,none⟩),.int .i64 x.2.2] 77):=by
 unfold ZO;refine callsIn_of_wp Tryz.func81 rfl trivial ?_ rfl
 simp only [Tryz.ntmps81,List.size_toArray,List.length_cons,List.length_nil,Nat.reduceAdd,Nat.reduceSub,Array.replicate_succ,Array.replicate_zero,List.push_toArray,List.append_toArray,List.nil_append,List.cons_append]
 gi_wp2
 go_ret;exact⟨rfl,rfl⟩
theorem jaS (w:World)(x y:Value)(t:TypeId):∀j u,[x,y][j]?=some u->(w.alloc (.cells #[x,y] t)).cell? ((⟨w.heap.size,0,none⟩:Addr).add j)=some u :=
 fun j u hu=>by
  have hb:=jf w #[x,y] t
  match j,hu with
  | 0,hu=>exact hb.cell 0 u hu
  | 1,hu=>exact hb.cell 1 u hu
theorem jlp:(Tryz.prog.info? 77).map (fun i=>(i.zero,i.size,i.bytes))=some (some (.agg #[.pointer none,.int .i64 0]),2,16):=by kernel_rfl
theorem jfm {F:Fence}{n:Nat}{P:Program}{c:Code}{Q:Exit->Act->World->Prop}{a:Act}{w:World}(Inv:Nat->Act->World->Prop)(m0:Nat)(h0:Inv m0 a w)
  (hs:∀m a w,Inv m a w->c.wpIn F n P (Exit.then (fun a' w'=>∃m',m'<m/\Inv m' a' w') Q) a w):(Code.loop c).wpIn F n P Q a w:=by
 refine wpIn_loop_rounds (m0+1) ?_
 have key:∀k m a w,m<k->Inv m a w->Code.roundsIn F n P c Q k a w:=by
  intro k
  induction k with
  | zero=>intro m a w h;omega
  | succ k ih=>
   intro m a w hm hi;rw [roundsIn_succ];refine wpIn_mono (hs m a w hi) ?_
   intro e a' w' hq;cases e with
   | normal=>obtain⟨m',hlt,hi'⟩:=hq;exact ih m' a' w' (by omega) hi'
   | ret=>exact hq
   | exit id=>exact hq
   | goto t=>exact hq
   | panic ch=>exact hq
   | outgrown=>exact hq
 exact key (m0+1) m0 a w (by omega) h0
structure Wait (w:World) (Bw g cap:Nat) (st:List Nd):Prop where
 box:Boxed w Bw 205 (.slice (some ⟨g,0,none⟩) st.length cap)
 own:w.ownsRow 0 77 2 (.slice (some ⟨g,0,none⟩) st.length cap) st.length (st.flatMap qM)
theorem Wait.kept {w w':World}{Bw g cap:Nat}{st:List Nd}(h:Wait w Bw g cap st)(hb:w'.heap[Bw]?=w.heap[Bw]?)(hg:w'.heap[g]?=w.heap[g]?):Wait w' Bw g cap st:=by
 refine⟨by unfold Boxed;rw [hb];exact h.box,?_⟩;obtain⟨hl,h2 | ⟨g',cap',cur,e,hb,r1,r2⟩⟩:=h.own
 ·obtain⟨h2,_⟩:=h2
  cases h2
 ·cases e
  exact⟨hl,.inr ⟨g,cap,cur,rfl,hb,hg.trans r1,r2⟩⟩
theorem Wait.lt {w:World}{Bw g cap:Nat}{st:List Nd}(h:Wait w Bw g cap st):g<w.heap.size:=(World.ownsRow.lt h.own g rfl).2
theorem Wait.cap {w:World}{Bw g cap:Nat}{st:List Nd}(h:Wait w Bw g cap st):st.length<=cap:=by
 obtain⟨hl,h2 | ⟨g',cap',cur,e,hb,r1,r2,r3⟩⟩:=h.own
 ·obtain⟨h2,_⟩:=h2
  cases h2
 ·cases e
  exact r2
theorem Wait.last {w:World}{Bw g cap:Nat}{st:List Nd}{x:Nd}(h:Wait w Bw g cap (st++[x])):w.cell? ⟨g,st.length*2,none⟩=some (.pointer (some ⟨x.1,x.2.1,none⟩))/\w.cell? ⟨g,st.length*2+1,none⟩=some (.int .i64 x.2.2):=by
 have l:=qA qM 2 (fun _=>rfl) st
 constructor
 ·rw [World.ownsRow.cellAt h.own _ (by simp),List.flatMap_append,List.getElem?_append_right (by omega),l]
  simp [qM]
 ·rw [World.ownsRow.cellAt h.own _ (by simp;omega),List.flatMap_append,List.getElem?_append_right (by omega),l]
  simp [qM]
theorem Wait.pop {w:World}{Bw g cap:Nat}{st:List Nd}{x:Nd}(h:Wait w Bw g cap (st++[x])):Wait (w.setCell ⟨Bw,0,none⟩ (.slice (some ⟨g,0,none⟩) st.length cap)) Bw g cap st:=by
 have l:=qA qM 2 (fun _=>rfl) st;refine⟨h.box.set _,?_⟩;have hne:some g≠some Bw:=fun e=>h.box.not_row (by decide) h.own (by rw [<-e];rfl)
 have o2:=World.ownsRow.kept h.own (grownBy_setCell' w Bw (.slice (some ⟨g,0,none⟩) st.length cap)) (.inr hne);obtain⟨hl,h2 | ⟨g',cap',cur,e,hb,r1,r2,r3,r4,r5⟩⟩:=o2
 ·obtain⟨h2,_⟩:=h2
  cases h2
 ·cases e
  simp only [List.length_append,List.length_cons,List.length_nil,Nat.zero_add] at r2 r5;refine⟨l,.inr ⟨g,cap,cur,rfl,hb,r1,by omega,r3,r4,?_⟩⟩;have e5:=congrArg (List.take (st.length*2)) r5;rw [List.take_take,Nat.min_eq_left (by omega),List.flatMap_append,<-l,List.take_left] at e5;rw [<-l];exact e5
def jlF {σ:Type}(J:(Nat->Prop)->σ->World->Prop)(todo:σ->List Nd)(mu:σ->Nat)(l b1 b2 Bw:Nat)(m:Nat)(a:Act)(X:World):Prop :=
 ∃(ds:List Nat) (M:Nat->Prop) (s:σ) (g cap:Nat),(∃u5 u6 u7 u8 u9 u10 u11 u12 u13 u14 u15 u16 u17 u18 u19 u20 u21 u22 u23 u24 u25 u26 u27 u28 u29 u30 u31 u32 u33 u34 u35 u36 u37 u38:Value,a={ tmps:=#[Value.func (Fn.yield l) #[] #[],Value.pointer (some ⟨b1,0,none⟩),Value.pointer (some ⟨b2,0,none⟩),undef,Value.pointer (some ⟨Bw,0,none⟩),u5,u6,u7,u8,u9,u10,u11,u12,u13,u14,u15,u16,u17,u18,u19,u20,u21,u22,u23,u24,u25,u26,u27,u28,u29,u30,u31,u32,u33,u34,u35,u36,u37,u38],defers:=jkM ds })/\
  m=mu s/\J M s X/\(∀b,M b->b<X.heap.size)/\(M Bw/\M g/\M b2)/\(∀D,D∈ds->M D/\X.heap[D]?=some (.deferred (some [])))/\ds.Nodup/\X.heap[b2]?=some (.cells #[.func (.func 81) #[] #[]] 141)/\Wait X Bw g cap (todo s).reverse
theorem jdS (b1 b2:Nat)(first:Nd){σ:Type}(todo:σ->List Nd)(mu:σ->Nat)(w:World)
  (h1:w.heap[b1]?=some (.cells #[.pointer (some ⟨first.1,first.2.1,none⟩),.int .i64 first.2.2] 77)) (h2:w.heap[b2]?=some (.cells #[.func (.func 81) #[] #[]] 141)) :
  jkJ Tryz.prog 141 #[.pointer (some ⟨b1,0,none⟩),.pointer (some ⟨b2,0,none⟩)] ZO todo mu KidsN first (fun b=>b=b1\/b=b2) w:=by
 intro l J Jx s0 W hJ hJx hY hlen hW hs0 h0;have lt1:b1<w.heap.size:=(Array.getElem?_eq_some_iff.1 h1).1;have lt2:b2<w.heap.size:=(Array.getElem?_eq_some_iff.1 h2).1;have g1:=(hW.block b1 lt1).trans h1;have g2:=(hW.block b2 lt2).trans h2;have c10:W.cell? ⟨b1,0,none⟩=some (.pointer (some ⟨first.1,first.2.1,none⟩)):=Blk.cell (t:=77) g1 0 _ rfl
 have c11:W.cell? ⟨b1,1,none⟩=some (.int .i64 first.2.2):=Blk.cell (t:=77) g1 1 _ rfl
 refine callsIn_of_wp_marks Tryz.func141 rfl trivial ?_ rfl
 simp only [Tryz.ntmps141,List.size_toArray,List.length_cons,List.length_nil,Nat.reduceAdd,Nat.reduceSub,Array.replicate_succ,Array.replicate_zero,List.push_toArray,List.append_toArray,List.nil_append,List.cons_append]
 gi_wp2
 refine jfm (jlF J todo mu l b1 b2 (W.heap.size+1)) (mu s0) ?start ?step
 case start=>
  have hn1:Boxed ((W.alloc (.cells #[.pointer (some ⟨first.1,first.2.1,none⟩),.int .i64 first.2.2] 77)).alloc (.cells #[.slice (some ⟨W.heap.size,0,none⟩) 1 1] 205)) (W.heap.size+1) 205 (.slice (some ⟨W.heap.size,0,none⟩) 1 1):=by
   have:=Boxed.new (W.alloc (.cells #[.pointer (some ⟨first.1,first.2.1,none⟩),.int .i64 first.2.2] 77)) 205 (.slice (some ⟨W.heap.size,0,none⟩) 1 1);rwa [World.size_alloc] at this
  have hn2:Blk ((W.alloc (.cells #[.pointer (some ⟨first.1,first.2.1,none⟩),.int .i64 first.2.2] 77)).alloc (.cells #[.slice (some ⟨W.heap.size,0,none⟩) 1 1] 205)) W.heap.size #[.pointer (some ⟨first.1,first.2.1,none⟩),.int .i64 first.2.2] 77:=(jf W _ _).alloc _;refine⟨[],fun b=>(b=b1\/b=b2)\/(W.heap.size<=b/\b<W.heap.size+2),s0,W.heap.size,1,⟨_,_,_,_,_,_,_,_,_,_,_,_,_,_,_,_,_,_,_,_,_,_,_,_,_,_,_,_,_,_,_,_,_,_,rfl⟩,rfl,?_,?_,⟨.inr ⟨by omega,by omega⟩,.inr ⟨by omega,by omega⟩,.inl (.inr rfl)⟩,by simp,by simp,?_,?_⟩
  ·exact hJ _ _ s0 W _ h0 ((Turns.alloc _ _ _).trans (Turns.alloc (fun _=>False) _ _) (fun b _ h=>h.elim)) (fun b h=>h.elim .inl (fun h=>.inr h.1))
  ·intro b hb
   have:=hW.size;simp only [World.size_alloc];omega
  ·exact(Below.heap_alloc _ _ _ (by have:=hW.size;simp only [World.size_alloc];omega)).trans ((Below.heap_alloc _ _ _ (by have:=hW.size;omega)).trans g2)
  ·rw [hs0]
   exact⟨hn1,rfl,.inr ⟨_,_,_,rfl,Nat.zero_le _,hn2,Nat.le_refl _,by unfold maxLen;decide,rfl,rfl⟩⟩
 case step=>
  rintro m a X ⟨ds,M,s,g,cap,⟨u5,u6,u7,u8,u9,u10,u11,u12,u13,u14,u15,u16,u17,u18,u19,u20,u21,u22,u23,u24,u25,u26,u27,u28,u29,u30,u31,u32,u33,u34,u35,u36,u37,u38,rfl⟩,rfl,hj,hM,⟨m1,m2,m3⟩,hds,hnd,hb2,hw⟩
  have cw:=hw.box.cell;have fw:=hw.box.frozen;have hl:=hlen M s X hj;cases ht:todo s with
  | nil=>
   rw [ht] at cw;simp only [List.reverse_nil,List.length_nil] at cw
   gi_wp2
   exact Qs rfl ds X hnd (fun D hD=>(hds D hD).2) (fun W' ht'=>⟨⟨_,rfl⟩,M,.inl ⟨s,ht,hJ M M s X W' hj (ht'.mono fun b _ hb=>(hds b hb).1) (fun b h=>.inl h)⟩⟩)
  | cons x rest=>
   rw [ht] at cw hw hl;simp only [List.reverse_cons,List.length_append,List.length_reverse,List.length_cons,List.length_nil,Nat.zero_add] at cw hw hl;obtain⟨k0,k1⟩:=hw.last;rw [List.length_reverse] at k0 k1;have hcap:rest.length+1<=cap:=by have:=hw.cap;simpa using this
   obtain⟨A1,hA1⟩:∃A1,A1=X.alloc (.cells #[.pointer (some ⟨x.1,x.2.1,none⟩),.int .i64 x.2.2] 77):=⟨_,rfl⟩
   obtain⟨Wa,hWa⟩:∃Wa,Wa=A1.setCell ⟨W.heap.size+1,0,none⟩ (.slice (some ⟨g,0,none⟩) rest.length cap):=⟨_,rfl⟩
   have bw1:Boxed A1 (W.heap.size+1) 205 (.slice (some ⟨g,0,none⟩) (rest.length+1) cap):=by rw [hA1];have:=hw.box.alloc (.cells #[.pointer (some ⟨x.1,x.2.1,none⟩),.int .i64 x.2.2] 77);simpa using this
   have cw1:=bw1.cell;have fw1:=bw1.frozen
   have nb:Blk Wa X.heap.size #[.pointer (some ⟨x.1,x.2.1,none⟩),.int .i64 x.2.2] 77:=by
    rw [hWa,hA1];exact(jf X _ _).set_other _ _ (fun e=>by have:=hw.box.lt;simp only at e;omega)
   have n0:=nb.cell 0 _ rfl;have n1:=nb.cell 1 _ rfl
   have tA:Turns M X Wa:=by
    rw [hWa,hA1];exact(Turns.alloc M X _).trans (Turns.setCell (M:=M) _ _ _ m1) (fun b _ h=>h)
   have sA:Wa.heap.size=X.heap.size+1:=by rw [hWa,hA1];simp [World.setCell]
   obtain⟨M1,hM1⟩:∃M1:Nat->Prop,M1=fun b=>M b\/b=X.heap.size:=⟨_,rfl⟩
   have jA:J M1 s Wa:=hJ M M1 s X Wa hj tA (fun b h=>by rw [hM1] at h;exact h.elim .inl (fun e=>.inr (by omega)))
   have hM1lt:∀b,M1 b->b<Wa.heap.size:=fun b h=>by
    rw [hM1] at h
    rcases h with h | h
    ·have:=hM b h
     omega
    ·omega
   obtain⟨fn,tmps,assign,body,hy,hR⟩:=YieldAt.any 8 (YieldAt.oneWay (hY M1 s x rest Wa jA hM1lt ht));simp only [ZO] at hy
   have wA:Wait Wa (W.heap.size+1) g cap rest.reverse:=by
    have h:=(hw.kept (w':=A1) (by rw [hA1];exact Below.heap_alloc _ _ _ hw.box.lt) (by rw [hA1];exact Below.heap_alloc _ _ _ hw.lt)).pop;rw [List.length_reverse] at h;rw [hWa];exact h
   have ne2:b2≠W.heap.size+1:=fun e=>by have:=hW.size;omega
   have a2:Wa.heap[b2]?=some (.cells #[.func (.func 81) #[] #[]] 141):=by
    rw [hWa,hA1,Below.heap_setCell _ _ _ _ ne2];exact(Below.heap_alloc _ _ _ (hM b2 m3)).trans hb2
   have dA:∀D,D∈ds->Wa.heap[D]?=some (.deferred (some [])):=fun D hD=>by
    have h:=(hds D hD).2
    rw [hWa,hA1,Below.heap_setCell _ _ _ _ (fun e=>by
     simp only at e;rw [e,show X.heap[W.heap.size+1]?=_ from hw.box] at h;cases h)]
    exact(Below.heap_alloc _ _ _ (hM D (hds D hD).1)).trans h
   rw [hA1] at cw1 fw1;have hWa':=hWa;rw [hA1] at hWa';rw [hWa'] at n0 n1 hy hR
   gi_wp2
   refine hR.mono ?_
   rintro e X2 ⟨bb,rfl,⟨rfl,tY,s',kids,j2,ht2,hmu,hK⟩ | ⟨rfl,tY,jx⟩⟩
   ·rw [<-hWa'] at tY
    have kp:∀b,M1 b->X2.heap[b]?=Wa.heap[b]?:=fun b hb=>tY.block b (hM1lt b hb) (fun h=>h hb)
    have q0:M1 (W.heap.size+1):=by rw [hM1];exact .inl m1
    have q1:M1 g:=by rw [hM1];exact .inl m2
    have q2:M1 b2:=by rw [hM1];exact .inl m3
    have q3:M1 X.heap.size:=by rw [hM1];exact .inr rfl
    have w2:=wA.kept (kp _ q0) (kp _ q1);have nb2:Blk X2 X.heap.size #[.pointer (some ⟨x.1,x.2.1,none⟩),.int .i64 x.2.2] 77:=(kp _ q3).trans nb;have f2:Blk X2 b2 #[.func (.func 81) #[] #[]] 141:=(kp _ q2).trans a2;have e0:=nb2.cell 0 _ rfl;have e1:=nb2.cell 1 _ rfl;have e2:=f2.cell 0 _ rfl
    -- REST
    gi_wp2
    refine⟨trivial,(jhx x X2).mono ?_⟩
    rintro e w' ⟨rfl,rfl⟩
    gi_wp2
    obtain⟨pL,pE,nL,cL,nE,cE,nx1,lx1,v4,v5,hL,hE,hkids⟩:=hK;obtain⟨X3,hX3⟩:∃X3,X3=X2.alloc (.cells #[.pointer (some ⟨x.1,x.2.1,none⟩),.int .i64 x.2.2] 77):=⟨_,rfl⟩
    rw [<-hX3];have s3:X3.heap.size=X2.heap.size+1:=by rw [hX3];simp
    have t3:Turns (fun _=>False) X2 X3:=by rw [hX3];exact Turns.alloc _ _ _
    have l2:=tY.size;have hl2:=hlen M1 s' X2 j2;rw [ht2,hkids] at hl2;simp only [List.length_append,j8] at hl2;have nb3:Blk X3 X2.heap.size #[.pointer (some ⟨x.1,x.2.1,none⟩),.int .i64 x.2.2] 77:=by rw [hX3];exact jf _ _ _
    have w3:Wait X3 (W.heap.size+1) g cap rest.reverse:=w2.kept (t3.block _ w2.box.lt (fun h=>h)) (t3.block _ w2.lt (fun h=>h));have xne:x.1≠W.heap.size+1/\x.1≠g:=⟨fun e=>nx1 (e ▸ q0),fun e=>nx1 (e ▸ q1)⟩
    have gne:=w2.lt;have bne:=w2.box.lt
    refine wpIn_rangeFunc_ownH rfl (by decide) (gf:=143) (lb:=#[.pointer (some ⟨X2.heap.size,0,none⟩)]) rfl trivial (enters_of Tryz.func143 (by kernel_rfl) rfl)
     (jdO X2.heap.size x.1 x.2.1 x.2.2 pL pE nL cL nE cE hL hE (by omega) (by omega)
      (fun A B=>∀b,b<X3.heap.size->b≠W.heap.size+1->b≠g->B.heap[b]?=A.heap[b]?)
      (fun A B h=>⟨h _ (by omega) (by omega) (by omega),h _ (by omega) xne.1 xne.2⟩) X3 (by omega) (by omega)
      (nb3.cell 0 _ rfl) (nb3.cell 1 _ rfl) ((t3.cell (p:=⟨x.1,x.2.1+4,none⟩) lx1 (fun h=>h)).trans v4) ((t3.cell (p:=⟨x.1,x.2.1+5,none⟩) lx1 (fun h=>h)).trans v5))
     (fun h k b b1 b2 b3=>(k b b1 b2 b3).trans (h b b1 b2 b3))
     (fun A l o o' hl _ _ _ b hb _ _=>World.putObj_heap_other (by omega))
     (Below.refl _ _) (fun _=>rfl)
     (fun pre Y=>∃g' cap',(g'=g\/X3.heap.size<=g')/\Wait Y (W.heap.size+1) g' cap' (rest.reverse++pre)/\Turns (fun b=>b=W.heap.size+1\/b=g) X3 Y)
     (fun _ _ _=>False)
     ?own (fun _ _ _ _ _ h _ _=>h) ⟨g,cap,.inl rfl,by rw [List.append_nil];exact w3,Turns.refl _ _⟩
     (fun y a' Y=>∃Bx,X3.heap.size<=Bx/\Blk Y Bx #[.pointer (some ⟨y.1,y.2.1,none⟩),.int .i64 y.2.2] 77/\a'={ tmps:=#[Value.func (Fn.yield l) #[] #[],Value.pointer (some ⟨b1,0,none⟩),Value.pointer (some ⟨b2,0,none⟩),undef,Value.pointer (some ⟨W.heap.size+1,0,none⟩),Value.int IntKind.i64 (rest.length:Int),Value.pointer (some ⟨X.heap.size,0,none⟩),Value.pointer (some ⟨Bx,0,none⟩),u8,u9,Value.slice (some ⟨g,0,none⟩) (rest.length+1) cap,Value.int IntKind.i64 ((rest.length:Int)+1),Value.bool true,Value.slice (some ⟨g,0,none⟩) (rest.length+1) cap,Value.int IntKind.i64 ((rest.length:Int)+1),Value.int IntKind.i64 (rest.length:Int),Value.slice (some ⟨g,0,none⟩) (rest.length+1) cap,Value.int IntKind.i64 (rest.length:Int),Value.pointer (some ⟨g,rest.length*2,none⟩),Value.agg #[Value.pointer (some ⟨x.1,x.2.1,none⟩),Value.int IntKind.i64 x.2.2],Value.slice (some ⟨g,0,none⟩) (rest.length+1) cap,Value.int IntKind.i64 (rest.length:Int),Value.slice (some ⟨g,0,none⟩) rest.length cap,Value.func (Fn.yield l) #[] #[],Value.agg #[Value.pointer (some ⟨x.1,x.2.1,none⟩),Value.int IntKind.i64 x.2.2],Value.bool true,Value.bool false,Value.func (Fn.func 81) #[] #[],Value.agg #[Value.pointer (some ⟨x.1,x.2.1,none⟩),Value.int IntKind.i64 x.2.2],Value.func (Fn.func 143) #[] #[Value.pointer (some ⟨X2.heap.size,0,none⟩)],ZO y,u31,u32,u33,u34,u35,u36,u37,u38],defers:=[] })
     ?ax ?assign ?body ?done ?stop
    case own=>
     rintro pre A B row ⟨g',cap',hg',hwt,htn⟩ hgr hrow
     refine⟨g',cap',hg',hwt.kept (hgr.block _ hwt.box.lt ?_) (hgr.block _ hwt.lt ?_),htn.trans (Turns.grown (M:=fun b=>X3.heap.size<=b) hgr (fun b e=>(hrow b e).1)) (fun b hb h=>absurd hb (by omega))⟩
     ·intro e
      obtain⟨_,o,ho,hc⟩:=hrow _ e.symm;rw [show A.heap[W.heap.size+1]?=_ from hwt.box] at ho;cases ho
      cases hc
     ·intro e
      obtain⟨_,o,ho,hc⟩:=hrow _ e.symm;obtain⟨_,h2 | ⟨g2,cap2,cur,e2,_,r1,_⟩⟩:=hwt.own
      ·cases h2.1
      ·cases e2
       rw [r1] at ho;cases ho
       cases hc
    case ax=>
     rintro y a' _ A B row ⟨Bx,hBx,hb,ha⟩ hgr hrow
     refine⟨Bx,hBx,hb.grown hgr ?_,ha⟩;intro e;obtain⟨_,o,ho,hc⟩:=hrow _ e.symm;rw [show A.heap[Bx]?=_ from hb] at ho;cases ho
     cases hc
    case assign=>
     rintro l' pre y Y K ⟨g',cap',hg',hwt,htn⟩ hK
     simp only [ZO]
     gi_wp2
     have hsz:=htn.size;exact hK _ _ ((KeepsOthers.alloc _ _).from _) (fun b hb _ _=>Below.heap_alloc _ _ _ (by omega)) ⟨g',cap',hg',hwt.kept (Below.heap_alloc _ _ _ hwt.box.lt) (Below.heap_alloc _ _ _ hwt.lt),htn.trans (Turns.alloc (fun _=>False) _ _) (fun _ _ h=>h.elim)⟩ ⟨Y.heap.size,hsz,jf _ _ _,rfl⟩
    case body=>
     rintro l' pre y a' Y hl' ⟨r,hr⟩ ⟨g',cap',hg',hwt,htn⟩ ⟨Bx,hBx,hb,rfl⟩ hlt
     have y0:=hb.cell 0 _ rfl;have y1:=hb.cell 1 _ rfl;have cy:=hwt.box.cell;have fy:=hwt.box.frozen;have hbo:=hwt.box;have how:=hwt.own;simp only [List.length_append,List.length_reverse] at cy fy hbo how;obtain⟨i0,hi,hz0,hz1,hz2⟩:=info_parts jlp
     gi_wp2_with (gi_at_builtin;refine wpListIn_append_own_at _ rfl _ _ 205 rfl 0 77 i0 _ 2 16 Tryz.underlying205 hi hz0 hz1 hz2 rfl (by decide) _ _ _ rfl (how.alloc _) ⟨Y.heap.size,0,none⟩ 1 1 (qM y) rfl rfl (jaS _ _ _ _) (Y7 y) (by unfold maxLen;omega) (by omega) (Nat.zero_le _) ?_;intro v' w1 hown' hgrow _ hat;obtain⟨g2,cap2,rfl⟩:=ownsRow_succ hown';obtain⟨bx1,bx2,ow2,ko2,_⟩:=hbo.appended (n₀:=0) (by decide) how (Nat.zero_le _) (Nat.zero_le _) hown' hgrow;have hc1:=bx1.cell;have hf1:=bx1.frozen)
     have hsz:=htn.size
     have tS:Turns (fun b=>b=W.heap.size+1\/b=g') Y (w1.setCell ⟨W.heap.size+1,0,none⟩ (.slice (some ⟨g2,0,none⟩) (rest.length+pre.length+1) cap2)) :=
      ((Turns.alloc (fun b=>b=W.heap.size+1\/b=g') Y _).trans (Turns.grown (M:=fun b=>b=g') hgrow (fun b e=>by cases e;rfl)) (fun b _ h=>.inr h)).trans (Turns.setCell (M:=fun b=>b=W.heap.size+1) _ _ _ rfl) (fun b _ h=>.inl h)
     refine⟨ko2.from _,fun b hb h1 h2=>tS.block b (by omega) (fun h=>h.elim h1 (fun e=>?_)),g2,cap2,?_,⟨?_,?_⟩,htn.trans tS (fun b hb h=>h.elim .inl (fun e=>?_))⟩
     ·rcases hg' with h | h
      ·exact h2 (e.trans h)
      ·omega
     ·rcases hat with h | h
      ·cases h
       exact hg'
      ·have e3:g2=(Y.alloc (.cells #[.pointer (some ⟨y.1,y.2.1,none⟩),.int .i64 y.2.2] 77)).heap.size:=by cases h;rfl
       rw [World.size_alloc] at e3;omega
     ·simpa [<-List.append_assoc] using bx2
     ·have e1:(rest.reverse++(pre++[y])).flatMap qM=(rest.reverse++pre).flatMap qM++qM y:=by simp
      have e2:(rest.reverse++(pre++[y])).length=rest.length+pre.length+1:=by simp;omega
      rw [e1,e2];exact ow2
     ·rcases hg' with h | h
      ·exact .inr (e.trans h)
      ·omega
    case done=>
     rintro D ys Y hD hys ⟨g',cap',hg',hwt,htn⟩ hdf
     rw [<-hkids] at hys;rw [hys] at hwt;have cy:=hwt.box.cell;have fy:=hwt.box.frozen;have how:=hwt.own;have hcp:=hwt.cap;have hlk:kids.length<=10000000:=by rw [hkids];simp only [List.length_append,j8];omega
     simp only [List.length_append,List.length_reverse] at cy fy how hcp;have HK:=jd hkids;clear hkids
     have fin:∀W5,W5.ownsRow 0 77 2 (.slice (some ⟨g',0,none⟩) (rest.length+kids.length) cap') (rest.length+kids.length) ((rest.reverse++kids.reverse).flatMap qM)->Y.grownBy W5 (some g')->
       ∃M3:Nat->Prop,J M3 s' W5/\(∀b,M3 b->b<W5.heap.size)/\(M3 (W.heap.size+1)/\M3 g'/\M3 b2)/\(∀D',D'∈D :: ds->M3 D'/\W5.heap[D']?=some (.deferred (some [])))/\(D :: ds).Nodup/\W5.heap[b2]?=some (.cells #[.func (.func 81) #[] #[]] 141)/\Wait W5 (W.heap.size+1) g' cap' (todo s').reverse:=by
      intro W5 ho5 hg5;have z3:=htn.size;have z5:=hg5.size;have hgY:=hwt.lt;have hDlt:D<Y.heap.size:=(Array.getElem?_eq_some_iff.1 hdf).1
      have nD:D≠g':=fun e=>by
       obtain⟨_,h2 | ⟨g2,cap2,cur,e2,_,r1,_⟩⟩:=hwt.own
       ·cases h2.1
       ·cases e2
        rw [e,r1] at hdf;cases hdf
      have nBg:W.heap.size+1≠g':=fun e=>hwt.box.not_row (by decide) hwt.own (by rw [<-e];rfl)
      have t5:Turns M1 X2 W5:=by
       refine((t3.mono (N:=M1) fun b _ h=>h.elim).trans htn (fun b hb h=>h.elim (fun e=>e ▸ q0) (fun e=>e ▸ q1))).trans (Turns.grown (M:=fun b=>b=g') hg5 (fun b e=>by cases e;rfl)) (fun b hb h=>?_)
       rcases hg' with e | e
       ·rw [h,e]
        exact q1
       ·omega
      have cut:∀b,M1 b->b≠W.heap.size+1->b≠g->W5.heap[b]?=Wa.heap[b]?:=fun b hb n1 n2=>by
       have hlt:=hM1lt b hb
       have n3:b≠g':=fun e=>by
        rcases hg' with h | h
        ·exact n2 (e.trans h)
        ·omega
       rw [hg5.block b (by omega) (fun e=>n3 (by cases e;rfl)),htn.block b (by omega) (fun h=>h.elim n1 n2),t3.block b (by omega) (fun h=>h)];exact kp b hb
      refine⟨fun b=>M1 b\/(X2.heap.size<=b/\b<W5.heap.size),hJ M1 _ s' X2 W5 j2 t5 (fun b h=>h.elim .inl (fun h=>.inr h.1)),fun b h=>?_,⟨.inl q0,?_,.inl q2⟩,fun D' hD'=>?_,?_,?_,?_⟩
      ·rcases h with h | h
       ·have:=hM1lt b h
        omega
       ·exact h.2
      ·rcases hg' with e | e
       ·rw [e]
        exact .inl q1
       ·exact .inr ⟨by omega,by omega⟩
      ·rcases List.mem_cons.1 hD' with rfl | hD'
       ·exact⟨.inr ⟨by omega,by omega⟩,(hg5.block _ hDlt (fun e=>nD (by cases e;rfl))).trans hdf⟩
       ·have hm:M1 D':=by rw [hM1];exact .inl (hds D' hD').1
        have hd:=dA D' hD';refine⟨.inl hm,(cut D' hm (fun e=>?_) (fun e=>?_)).trans hd⟩
        ·rw [e,show Wa.heap[W.heap.size+1]?=_ from wA.box] at hd
         cases hd
        ·obtain⟨_,h2 | ⟨g2,cap2,cur,e2,_,r1,_⟩⟩:=wA.own
         ·cases h2.1
         ·cases e2
          rw [e,r1] at hd;cases hd
      ·refine List.nodup_cons.2 ⟨fun h=>?_,hnd⟩
       have:=hM1lt D (by rw [hM1];exact .inl (hds D h).1);omega
      ·refine(cut b2 q2 ne2 (fun e=>?_)).trans a2
       obtain⟨_,h2 | ⟨g2,cap2,cur,e2,_,r1,_⟩⟩:=wA.own
       ·cases h2.1
       ·cases e2
        rw [e,r1] at a2;injection a2 with a2;injection a2 with _ a2;exact absurd a2 (by decide)
      ·have e1:(todo s').reverse=rest.reverse++kids.reverse:=by rw [ht2,List.reverse_append]
       rw [e1];refine⟨?_,?_⟩
       ·have:=hwt.box
        simp only [List.length_append,List.length_reverse] at this ⊢;exact this.kept hg5 (fun e=>nBg (by cases e;rfl))
       ·simp only [List.length_append,List.length_reverse]
        exact ho5
     by_cases hk0:kids.length=0
     ·obtain rfl:kids=[]:=List.eq_nil_of_length_eq_zero hk0
      simp only [List.length_nil,Nat.add_zero,List.append_nil] at cy how;have hr0:∀a ca,Calls Tryz.prog 142 #[Value.slice a 0 ca] Y fun e w'=>e=.returned (.tuple #[])/\w'=Y:=fun a ca=>AnyQ.slices_Reverse_empty jbN a ca Y
      obtain⟨M3,r3⟩:=fin Y (by simpa using how) (jC _ _);have R3:=jd r3;clear fin r3
      dsimp only
      gi_wp2
      all_goals
       refine⟨trivial,(callsIn_wide.2 (hr0 _ _)).mono ?_⟩
       rintro e W5 ⟨rfl,rfl⟩
       gi_wp2
       exact⟨mu s',hmu,D :: ds,M3,s',g',_,⟨_,_,_,_,_,_,_,_,_,_,_,_,_,_,_,_,_,_,_,_,_,_,_,_,_,_,_,_,_,_,_,_,_,_,rfl⟩,rfl,R3.out⟩
     ·have hrev:=jjh Y g' cap' (cap' - rest.length) rest.reverse kids (by omega) (by rw [List.length_reverse];exact how)
      rw [List.length_reverse] at hrev
      dsimp only
      gi_wp2
      refine⟨trivial,(callsIn_wide.2 hrev).mono ?_⟩
      rintro e W5 ⟨rfl,ho5,hg5⟩
      obtain⟨M3,r3⟩:=fin W5 ho5 hg5;have R3:=jd r3;clear fin r3
      gi_wp2
      exact⟨mu s',hmu,D :: ds,M3,s',g',cap',⟨_,_,_,_,_,_,_,_,_,_,_,_,_,_,_,_,_,_,_,_,_,_,_,_,_,_,_,_,_,_,_,_,_,_,rfl⟩,rfl,R3.out⟩
    case stop=>
     rintro D c pre Y _ _ h _
     exact h.elim
   ·rw [<-hWa'] at tY
    gi_wp2
    refine Qs rfl ds X2 hnd (fun D hD=>?_) (fun W' ht'=>⟨⟨_,rfl⟩,M1,.inr (hJx M1 M1 () X2 W' jx (ht'.mono fun b _ hb=>by rw [hM1];exact .inl (hds b hb).1) (fun b h=>.inl h))⟩);exact(tY.block D (hM1lt D (by rw [hM1];exact .inl (hds D hD).1)) (fun h=>h (by rw [hM1];exact .inl (hds D hD).1))).trans (dA D hD)
open Go.RowKit
def At (ok:Nat->Prop)(f:Nat)(W:World)(x:Nd)(t:V):Prop:=ok x.1/\x.1<W.heap.size/\∃us:List Value,(∀i,i<6->W.cell? ⟨x.1,x.2.1+i,none⟩=us[i]?)/\LiesV ok f W us t
theorem At.isV {ok:Nat->Prop}{f:Nat}{W:World}{x:Nd}{t:V}(h:At ok f W x t):IsV f t:=by
 obtain⟨_,_,us,_,h⟩:=h;exact h.isV
theorem jai (p:Option Addr)(d k:Nat)(a:Int)(n i:Nat)(h:i<(qc p d k a n).length):(qc p d k a n)[i]=Yu p d k a i:=by simp [qc]
theorem At.kids {ok:Nat->Prop}{f:Nat}{W:World}{x:Nd}{t:V}(h:At ok f W x t)(a:Int):∃(pL pE:Option Addr) (nL cL nE cE:Nat) (ks:List (Nd×V)),W.cell? ⟨x.1,x.2.1+4,none⟩=some (.slice pL nL cL)/\W.cell? ⟨x.1,x.2.1+5,none⟩=some (.slice pE nE cE)/\
  (nL≠0->∃b q,pL=some ⟨b,q,none⟩)/\(nE≠0->∃b q,pE=some ⟨b,q,none⟩)/\ks.map Prod.fst=qc pL 6 0 a nL++qc pE 7 1 a nE/\ks.map Prod.snd=parts t/\∀k,k∈ks->At ok f W k.1 k.2/\k.1.2.2=a:=by
 obtain⟨hok,hlt,us,hus,hl⟩:=h;cases f with
 | zero=>exact hl.elim
 | succ f=>
  obtain⟨k,n,b,s,L,E,pL,pE,cL,cE,rfl,rfl,h3,h4,hL,hE⟩:=hl;refine⟨pL,pE,L.length,cL,E.length,cE,(qc pL 6 0 a L.length).zip L++(qc pE 7 1 a E.length).zip (E.map fun e=>(zf e).2),hus 4 (by omega),hus 5 (by omega),fun hn=>?_,fun hn=>?_,?_,?_,fun q hq=>?_⟩
  ·obtain⟨B,o,hp,_⟩:=hL hn
   exact⟨B,o,hp⟩
  ·obtain⟨B,o,hp,_⟩:=hE hn
   exact⟨B,o,hp⟩
  ·rw [List.map_append,List.map_fst_zip (by rw [j8];exact Nat.le_refl _),List.map_fst_zip (by rw [j8,List.length_map];exact Nat.le_refl _)]
  ·rw [List.map_append,List.map_snd_zip (by rw [j8];exact Nat.le_refl _),List.map_snd_zip (by rw [j8,List.length_map];exact Nat.le_refl _),JH]
  ·rcases List.mem_append.1 hq with hq | hq
   ·obtain⟨j,hj,e⟩:=List.getElem_of_mem hq
    have hj0:=hj;rw [List.length_zip,j8,Nat.min_self] at hj0;rw [List.getElem_zip,jai] at e;obtain⟨B,o,rfl,hb,hbl,hk⟩:=hL (by omega);obtain⟨vs,v1,v2,y,hy,hly⟩:=hk j hj0;rw [List.getElem?_eq_getElem hj0] at hy;injection hy with hy;rw [<-e];refine⟨⟨hb,hbl,vs,fun i hi=>?_,?_⟩,rfl⟩
    ·exact v2 i hi
    ·rw [hy]
     exact hly.up
   ·obtain⟨j,hj,e⟩:=List.getElem_of_mem hq
    have hj0:=hj;rw [List.length_zip,j8,List.length_map,Nat.min_self] at hj0;rw [List.getElem_zip,jai,List.getElem_map] at e;obtain⟨B,o,rfl,hb,hbl,hk⟩:=hE (by omega);obtain⟨vs,v1,v2,key,y,xs,hy,rfl,_,hly⟩:=hk j hj0;rw [List.getElem?_eq_getElem hj0] at hy;injection hy with hy;rw [<-e];refine⟨⟨hb,hbl,xs,fun i hi=>?_,?_⟩,rfl⟩
    ·have:=v2 (i+1) (by omega)
     rw [List.getElem?_cons_succ] at this;rw [<-this]
     show W.cell? ⟨B,o+j*7+1+i,none⟩=_
     congr 2
     omega
    ·rw [hy,ZT]
     exact hly.up
def XH (s:List (Nd×V)):List Nd:=s.map Prod.fst
def zE (f:Nat)(s:List (Nd×V)):Nat:=qf (jP f) (s.map Prod.snd)
theorem JW (f:Nat)(p:Nd×V)(s:List (Nd×V)):zE f (p :: s)=jP f p.2+zE f s:=rfl
theorem jcp (f:Nat)(a b:List (Nd×V)):zE f (a++b)=zE f a+zE f b:=by
 unfold zE;rw [List.map_append,ZA]
theorem XP {f:Nat}{t:V}(h:IsV f t):jP f t=qf (jP f) (parts t)+1:=by
 rw [<-XG h];rfl
theorem jhc {f:Nat}{t:V}(h:IsV f t):1<=jP f t:=by
 rw [XP h];omega
structure Still (n1:Nat) (C:Nat->Prop) (f:Nat) (Wb:World) (M:Nat->Prop) (s:List (Nd×V)) (W:World):Prop where
 mine:∀b,M b->n1<=b
 base:n1<=Wb.heap.size
 turn:Turns (fun b=>C b\/n1<=b) Wb W
 lies:∀p,p∈s->At (fun b=>b<n1/\¬C b) f Wb p.1 p.2
theorem Still.abides {n1:Nat}{C:Nat->Prop}{f:Nat}{Wb:World}{M M':Nat->Prop}{s:List (Nd×V)}{W W':World}(h:Still n1 C f Wb M s W)(ht:Turns (fun b=>M b\/(n1<=b/\∃o:Obj,W.heap[b]?=some o/\o.isCells=false)) W W')(hm:∀b,M' b->M b\/W.heap.size<=b):Still n1 C f Wb M' s W':=by
 have hs:=h.turn.size;have hb:=h.base;refine⟨fun b hb'=>(hm b hb').elim (h.mine b) (fun h=>by omega),hb,h.turn.trans ht (fun b _ hb=>hb.elim (fun h'=>.inr (h.mine b h')) (fun h'=>.inr h'.1)),h.lies⟩
theorem Still.box {n1:Nat}{C:Nat->Prop}{f:Nat}{Wb:World}{M:Nat->Prop}{s:List (Nd×V)}{W W':World}{B:Nat}{t:TypeId}{v:Value}(h:Still n1 C f Wb M s W)(hB:B<n1)(hb:Boxed W B t v)(ht:Turns (fun b=>M b\/(n1<=b/\∃o:Obj,W.heap[b]?=some o/\o.isCells=false)) W W'):Boxed W' B t v:=by
 refine(ht.block B hb.lt (fun hx=>?_)).trans hb
 rcases hx with hx | hx
 ·have:=h.mine B hx
  omega
 ·omega
theorem Still.round {n1:Nat}{C:Nat->Prop}{f:Nat}{Wb:World}{M:Nat->Prop}{s:List (Nd×V)}{W W':World}(h:Still n1 C f Wb M s W)(ht:Turns (fun b=>C b\/n1<=b) W W'):Still n1 C f Wb M s W' :=
 ⟨h.mine,h.base,h.turn.trans ht (fun b _ h=>h),h.lies⟩
theorem Still.next {n1:Nat}{C:Nat->Prop}{f:Nat}{Wb:World}{M:Nat->Prop}{p:Nd×V}{s:List (Nd×V)}{W:World}(h:Still n1 C f Wb M (p :: s) W):∃ks:List (Nd×V),KidsN M W p.1 (ks.map Prod.fst)/\ks.map Prod.snd=parts p.2/\Still n1 C f Wb M (ks++s) W/\(∀k,k∈ks->k.1.2.2=IntKind.i64.wrap (p.1.2.2+1))/\zE f (ks++s)+1=zE f (p :: s):=by
 have hp:=h.lies p (by simp);obtain⟨pL,pE,nL,cL,nE,cE,ks,c4,c5,hL,hE,hf,hsnd,hk⟩:=hp.kids (IntKind.i64.wrap (p.1.2.2+1));have hx:=hp.1;have hlt:=hp.2.1;have hs:=h.turn.size;refine⟨ks,⟨pL,pE,nL,cL,nE,cE,fun hm=>?_,by omega,?_,?_,hL,hE,hf⟩,hsnd,⟨h.mine,h.base,h.turn,fun q hq=>?_⟩,fun k hk'=>(hk k hk').2,?_⟩
 ·have:=h.mine _ hm
  omega
 ·exact(h.turn.cell (p:=⟨p.1.1,p.1.2.1+4,none⟩) hlt (fun hx'=>hx'.elim hx.2 (fun h'=>by simp only at h';omega))).trans c4
 ·exact(h.turn.cell (p:=⟨p.1.1,p.1.2.1+5,none⟩) hlt (fun hx'=>hx'.elim hx.2 (fun h'=>by simp only at h';omega))).trans c5
 ·rcases List.mem_append.1 hq with hq | hq
  ·exact(hk q hq).1
  ·exact h.lies q (by simp [hq])
 ·rw [jcp,JW,XP hp.isV,zE,hsnd]
  omega
theorem XN {n1:Nat}{C M:Nat->Prop}{f B:Nat}{w Wb W2:World}{us:List Value}{t:V}(hl:LiesV (fun b=>b<w.heap.size) f w us t)(hb:Below w.heap.size w Wb)(hB:∀i,i<6->Wb.cell? ⟨B,0+i,none⟩=us[i]?)(hBn:B<n1)(hCB:¬C B)(hw:w.heap.size<=n1)(hC:∀b,b<w.heap.size->¬C b)(hn1:n1<=Wb.heap.size)(hM:∀b,M b->n1<=b)
  (ht:Turns (fun b=>C b\/n1<=b) Wb W2):Still n1 C f Wb M [((B,0,0),t)] W2 :=
 ⟨hM,hn1,ht,fun p hp=>by
  rw [List.mem_singleton.1 hp];exact⟨⟨hBn,hCB⟩,by simp only;omega,us,hB,hl.kept (fun b h=>⟨by omega,hC b h⟩) hb.size (fun b h _=>hb.block b h)⟩⟩
theorem KidsN.put {M:Nat->Prop}{W:World}{x:Nd}{kids:List Nd}{l:Nat}{o:Obj}(o':Obj)(h:KidsN M W x kids)(hl:W.heap[l]?=some o)(ho:o.isCells=false):KidsN M (W.putObj l o') x kids:=by
 obtain⟨pL,pE,nL,cL,nE,cE,nx1,lx1,v4,v5,r⟩:=h
 have hne:x.1≠l:=fun e=>by
  obtain⟨o2,h2,h3⟩:=cells_of_cell v4;simp only at h2;rw [e,hl] at h2;cases h2
  rw [ho] at h3;cases h3
 refine⟨pL,pE,nL,cL,nE,cE,nx1,by rw [World.putObj_size];exact lx1,?_,?_,r⟩
 ·exact(World.cell?_of_block (World.putObj_heap_other hne)).trans v4
 ·exact(World.cell?_of_block (World.putObj_heap_other hne)).trans v5
theorem Y3 {f n1:Nat}{C M:Nat->Prop}{Wb W:World}:∀{s:List (Nd×V)},Still n1 C f Wb M s W->(XH s).length<=zE f s
 | [],_=>Nat.zero_le _
 | p :: s,h=>by
  have:=Y3 (s:=s) ⟨h.mine,h.base,h.turn,fun q hq=>h.lies q (by simp [hq])⟩;have:=jhc (h.lies p (by simp)).isV;rw [JW];simp only [XH,List.map_cons,List.length_cons] at *;omega
open Go.RowKit Go.Shelf
attribute [local go_sem] Oper.semAt_some
theorem jhE (B o:Nat)(w:World) :
  CallsIn Fence.wide 7 Tryz.prog 80 #[.agg #[.pointer (some ⟨B,o,none⟩),.int .i64 0],.func (.func 81) #[] #[]] w fun e w'=>e=.returned (.func (.func 141) #[] #[.pointer (some ⟨w.heap.size,0,none⟩),.pointer (some ⟨w.heap.size+1,0,none⟩)])/\
   w'=(w.alloc (.cells #[.pointer (some ⟨B,o,none⟩),.int .i64 0] 77)).alloc (.cells #[.func (.func 81) #[] #[]] 141):=by
 refine callsIn_of_wp Tryz.func80 rfl trivial ?_ rfl
 simp only [Tryz.ntmps80,List.size_toArray,List.length_cons,List.length_nil,Nat.reduceAdd,Nat.reduceSub,Array.replicate_succ,Array.replicate_zero,List.push_toArray,List.append_toArray,List.nil_append,List.cons_append]
 gi_wp2
 go_ret;exact⟨rfl,rfl⟩
theorem Yk (B o:Nat)(w:World) :
  CallsIn Fence.wide 8 Tryz.prog 37 #[.pointer (some ⟨B,o,none⟩)] w fun e w'=>e=.returned (.func (.func 141) #[] #[.pointer (some ⟨w.heap.size,0,none⟩),.pointer (some ⟨w.heap.size+1,0,none⟩)])/\
   w'=(w.alloc (.cells #[.pointer (some ⟨B,o,none⟩),.int .i64 0] 77)).alloc (.cells #[.func (.func 81) #[] #[]] 141):=by
 refine callsIn_of_wp Tryz.func37 rfl trivial ?_ rfl
 simp only [Tryz.ntmps37,List.size_toArray,List.length_cons,List.length_nil,Nat.reduceAdd,Nat.reduceSub,Array.replicate_succ,Array.replicate_zero,List.push_toArray,List.append_toArray,List.nil_append,List.cons_append]
 gi_wp2_with (refine⟨trivial,?_⟩;gi_at_call 80;refine(jhE B o w).mono ?_;rintro e w' ⟨rfl,rfl⟩)
 go_ret;exact⟨rfl,rfl⟩
open Go.RowKit Go.Shelf
attribute [local go_sem] Oper.semAt_some
def zu (f:Nat):List (Nd×V)->Nat
 | []=>0
 | p :: s=>max (p.1.2.2.toNat+jO f p.2) (zu f s)
theorem Z0 (f:Nat):∀a b:List (Nd×V),zu f (a++b)=max (zu f a) (zu f b)
 | [],b=>by simp [zu]
 | p :: a,b=>by rw [List.cons_append,zu,zu,Z0 f a b];omega
theorem jdX {f:Nat}{t:V}(h:IsV f t):jO f t=maxOf (jO f) (parts t)+1:=by
 rw [<-XC h];rfl
theorem Yq (f:Nat)(a:Nat):∀ks:List (Nd×V),(∀k,k∈ks->k.1.2.2=(a:Int))->max a (zu f ks)=a+maxOf (jO f) (ks.map Prod.snd)
 | [],_=>by simp [zu,maxOf]
 | k :: ks,h=>by
  have h1:=h k (by simp);have h2:=Yq f a ks (fun q hq=>h q (by simp [hq]));simp only [zu,List.map_cons,maxOf];rw [h1];simp only [Int.toNat_natCast];omega
theorem jeN {f:Nat}{p:Nd×V}{ks s:List (Nd×V)}{cur a:Nat}(hp:IsV f p.2)(ha:p.1.2.2=(a:Int))(hk:∀k,k∈ks->k.1.2.2=((a+1:Nat):Int))(hs:ks.map Prod.snd=parts p.2) :
  max (max cur a+1) (zu f (ks++s))=max (cur+1) (zu f (p :: s)):=by
 have h1:=Yq f (a+1) ks hk;rw [hs] at h1;have h2:=jdX hp;rw [Z0];simp only [zu];rw [ha,h2];simp only [Int.toNat_natCast];omega
theorem jbJ (f:Nat)(w:World)(t:V)(a0 a1 a2 a3 a4 a5:Value)(hl:LiesV (fun b=>b<w.heap.size) f w [a0,a1,a2,a3,a4,a5] t)(hn:jP f t<=10000000) :
  CallsIn Fence.wide 9 Tryz.prog 19 #[.agg #[a0,a1,a2,a3,a4,a5]] w fun e w'=>e=.returned (.int .i64 (jO f t:Int))/\Below w.heap.size w w':=by
 obtain⟨k,n,b,s,pL,nL,cL,pE,nE,cE,rfl,rfl,rfl,rfl,rfl,rfl⟩:=hl.form;refine callsIn_of_wp_marks Tryz.func19 rfl trivial ?_ rfl
 simp only [Tryz.ntmps19,List.size_toArray,List.length_cons,List.length_nil,Nat.reduceAdd,Nat.reduceSub,Array.replicate_succ,Array.replicate_zero,List.push_toArray,List.append_toArray,List.nil_append,List.cons_append]
 gi_wp2
 obtain⟨Wb,hWb⟩:∃Wb,Wb=(w.alloc (.cells #[.int .i64 k,.int .i64 n,.int .u64 (b:Int),.string s,.slice pL nL cL,.slice pE nE cE] 26)).alloc (.cells #[.int .i64 0] 3):=⟨_,rfl⟩
 rw [<-hWb];have sb:Wb.heap.size=w.heap.size+2:=by rw [hWb];simp
 have tb:Below w.heap.size w Wb:=by rw [hWb];exact((Below.refl _ w).alloc (Nat.le_refl _) _).alloc (by simp) _
 have vb:Blk Wb w.heap.size #[.int .i64 k,.int .i64 n,.int .u64 (b:Int),.string s,.slice pL nL cL,.slice pE nE cE] 26:=by rw [hWb];exact(jf w _ _).alloc _
 have cb:Boxed Wb (w.heap.size+1) 3 (.int .i64 0):=by
  rw [hWb];have:=Boxed.new (w.alloc (.cells #[.int .i64 k,.int .i64 n,.int .u64 (b:Int),.string s,.slice pL nL cL,.slice pE nE cE] 26)) 3 (.int .i64 0);rwa [World.size_alloc] at this
 clear hWb;refine⟨trivial,(Yk _ _ _).mono ?_⟩
 rintro e w' ⟨rfl,rfl⟩
 gi_wp2
 obtain⟨W2,hW2⟩:∃W2,W2=(Wb.alloc (.cells #[.pointer (some ⟨w.heap.size,0,none⟩),.int .i64 0] 77)).alloc (.cells #[.func (.func 81) #[] #[]] 141):=⟨_,rfl⟩
 rw [<-hW2];have s2:W2.heap.size=Wb.heap.size+2:=by rw [hW2];simp
 have t2:Turns (fun _=>False) Wb W2:=by rw [hW2];exact(Turns.alloc _ _ _).trans (Turns.alloc (fun _=>False) _ _) (fun _ _ h=>h)
 have x1:W2.heap[w.heap.size+2]?=some (.cells #[.pointer (some ⟨w.heap.size,0,none⟩),.int .i64 0] 77):=by rw [<-sb,hW2];exact(jf Wb _ _).alloc _
 have x2:W2.heap[w.heap.size+2+1]?=some (.cells #[.func (.func 81) #[] #[]] 141):=by
  rw [<-sb,hW2];have:=jf (Wb.alloc (.cells #[.pointer (some ⟨w.heap.size,0,none⟩),.int .i64 0] 77)) #[.func (.func 81) #[] #[]] 141;rwa [World.size_alloc] at this
 clear hW2
 refine J1 (lb:=#[.pointer (some ⟨w.heap.size+2,0,none⟩),.pointer (some ⟨w.heap.size+2+1,0,none⟩)]) rfl (enters_of Tryz.func141 (by kernel_rfl) rfl)
  (jdS (w.heap.size+2) (w.heap.size+2+1) (w.heap.size,0,0) XH (zE f) W2 x1 x2) (Below.refl _ _) rfl (fun M W x kids l o o' h _ h2 h3=>h.put o' h2 h3)
  (w.heap.size+2) (by omega)
  (fun M st W=>Still (w.heap.size+2) (fun b=>b=w.heap.size+1) f Wb M st W/\zE f st<=jP f t/\(∀p,p∈st->0<=p.1.2.2)/\∃cur:Nat,max (cur+1) (zu f st)=jO f t/\Boxed W (w.heap.size+1) 3 (.int .i64 (cur:Int)))
  (fun _ _ _ _=>False) ?ab (fun c M M' s W W' h _ _=>h) [((w.heap.size,0,0),t)] rfl (fun b h=>by omega) ?start (fun M st X h=>by have:=Y3 h.1;omega)
  (fun x a' W=>∃Bx,Blk W Bx #[.pointer (some ⟨x.1,x.2.1,none⟩),.int .i64 x.2.2] 77/\a'={ tmps:=#[.agg #[.int .i64 k,.int .i64 n,.int .u64 (b:Int),.string s,.slice pL nL cL,.slice pE nE cE],.pointer (some ⟨w.heap.size,0,none⟩),.int .i64 0,.pointer (some ⟨w.heap.size+1,0,none⟩),.pointer (some ⟨Bx,0,none⟩),.func (.func 141) #[] #[.pointer (some ⟨w.heap.size+2,0,none⟩),.pointer (some ⟨w.heap.size+2+1,0,none⟩)],ZO x,undef,undef,undef,undef,undef,undef],defers:=[] })
  ?ax ?assign ?body ?done (fun D c M W _ h _=>h.elim)
 case ab=>
  rintro M M' st A B ⟨hS,hle,hab,cur,hcur,hbx⟩ ht hm
  exact⟨hS.abides ht hm,hle,hab,cur,hcur,hS.box (by omega) hbx ht⟩
 case start=>
  have e0:zE f [((w.heap.size,0,0),t)]=jP f t:=by rw [JW];rfl
  refine⟨XN hl tb (fun i hi=>?_) (by omega) (by omega) (by omega) (fun b hb=>by omega) (by omega) (fun b hb=>by omega) (t2.mono fun _ _ h=>h.elim),by rw [e0];exact Nat.le_refl _,by simp,0,?_,?_⟩
  ·rw [Nat.zero_add]
   match i,hi with
   | 0,_=>exact vb.cell 0 _ rfl
   | 1,_=>exact vb.cell 1 _ rfl
   | 2,_=>exact vb.cell 2 _ rfl
   | 3,_=>exact vb.cell 3 _ rfl
   | 4,_=>exact vb.cell 4 _ rfl
   | 5,_=>exact vb.cell 5 _ rfl
  ·have:=jhd hl.isV
   simp only [zu,Int.toNat_zero];omega
  ·exact(t2.block _ cb.lt (fun h=>h)).trans cb
 case ax=>
  rintro x a' W l o o' ⟨Bx,hb,ha⟩ h1 h2
  refine⟨Bx,(World.putObj_heap_other (fun e=>?_)).trans hb,ha⟩;rw [<-e,show W.heap[Bx]?=_ from hb] at h1;cases h1
  cases h2
 case assign=>
  intro l x W K hK;simp only [ZO] at *
  gi_wp2
  exact hK _ _ (Turns.alloc _ _ _) ⟨W.heap.size,jf _ _ _,by simp⟩
 case body=>
  rintro l M st x rest a' W hlw ⟨r,hr⟩ ⟨Bx,hbB,rfl⟩ ⟨hS,hle,hab,cur,hcur,hbx⟩ hM ht
  cases st with
  | nil=>cases ht
  | cons p st=>
   simp only [XH,List.map_cons,List.cons.injEq] at ht;obtain⟨rfl,rfl⟩:=ht;have c1:=hbx.cell;have f1:=hbx.frozen;have d1:=hbB.cell 1 _ rfl;obtain⟨a,ha⟩:∃a:Nat,p.1.2.2=(a:Int):=⟨p.1.2.2.toNat,by have:=hab p (by simp);omega⟩
   rw [ha] at d1;have hd1:=Qj (n:=f) (v:=t)
   have hreach:a<=jO f t/\cur<=jO f t:=by
    have:=hcur;simp only [zu,ha,Int.toNat_natCast] at this;omega
   gi_wp2
   obtain⟨c,hc⟩:∃c:Nat,c=max cur a:=⟨_,rfl⟩
   have ec:max (cur:Int) (a:Int)=(c:Int):=by omega
   rw [ec];have hS1:=hS.round (W':=W.setCell ⟨w.heap.size+1,0,none⟩ (.int .i64 (c:Int))) (Turns.setCell _ _ _ (.inl rfl));obtain⟨ks,hkd,hks,hS2,hka,hleft⟩:=hS1.next
   have hw:IntKind.i64.wrap (p.1.2.2+1)=((a+1:Nat):Int):=by
    rw [ha,IntWalk.i64_left,IntWalk.wrap64_in _ (by omega)];omega
   refine⟨⟨(KeepsOthers.setCell _ _ _).from _,Turns.setCell (M:=fun b=>¬M b) _ _ _ (fun hm=>by have:w.heap.size+2<=w.heap.size+1:=hS.mine _ hm;omega)⟩,ks++st,ks.map Prod.fst,⟨hS2,by omega,?_,c,?_,hbx.set _⟩,by simp [XH],by omega,hkd⟩
   ·intro q hq
    rcases List.mem_append.1 hq with hq | hq
    ·rw [hka q hq,hw]
     omega
    ·exact hab q (by simp [hq])
   ·rw [hc,<-hcur]
    exact jeN (hS.lies p (by simp)).isV ha (fun k hk=>(hka k hk).trans hw) hks
 case done=>
  rintro D M st W hD ht ⟨hS,hle,hab,cur,hcur,hbx⟩ hdf
  obtain rfl:st=[]:=List.map_eq_nil_iff.1 ht;have c1:=hbx.cell;have hd1:=Qj (n:=f) (v:=t)
  have e0:(cur:Int)+1=(jO f t:Int):=by
   simp only [zu] at hcur;omega
  have hcl:(cur:Int)<10000000:=by omega
  gi_wp2
  refine⟨by simp,.inl ⟨_,_,rfl,run_takeDeferred hdf,?_⟩⟩;refine⟨_,results_tmp rfl _ _ _,rfl,?_⟩;exact tb.trans (((hS.turn.trans (Turns.putObj (M:=fun b=>w.heap.size+2<=b) _ _ _ (by omega)) (fun b _ h=>.inr h)).below (n:=w.heap.size) (by omega) (fun b h=>by omega)))
end valus
end Go.Proofs.YtnbfnjhbmeocfaaGreatDoor
