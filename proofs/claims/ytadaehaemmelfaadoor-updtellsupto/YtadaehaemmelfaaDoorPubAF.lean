/- Of our texts, what this claim reaches. -/
import Derived.Test.YtadaehaemmelfaaDoorPubAD
import Derived.Test.YtadaehaemmelfaaDoorPubAE
import Derived.Shelf.SlicesQ.Reverse
set_option linter.unusedVariables false
namespace Go.Proofs.YtadaehaemmelfaaDoor
namespace valus
open Go.RowKit Go.Shelf Go.Sort
theorem YH {α:Type}(enc:α->List Value)(k:Nat)(h0:0<k)(hk:∀x,(enc x).length=k):∀(L:List α) (t:Nat),(L.flatMap enc)[t]?=(L[t / k]?).bind fun x=>(enc x)[t % k]?
 | [],t=>by simp
 | x :: L,t=>by
  rw [List.flatMap_cons]
  by_cases h:t<k
  ·rw [List.getElem?_append_left (by rw [hk];exact h),Nat.div_eq_of_lt h,Nat.mod_eq_of_lt h]
   rfl
  ·rw [List.getElem?_append_right (by rw [hk];omega),hk,YH enc k h0 hk L (t - k)]
   have e1:t / k=(t - k) / k+1:=by rw [<-Nat.add_div_right _ h0,Nat.sub_add_cancel (by omega)]
   have e2:t % k=(t - k) % k:=by rw [<-Nat.add_mod_right (t - k) k,Nat.sub_add_cancel (by omega)]
   rw [e1,e2,List.getElem?_cons_succ]
theorem qz {α:Type}(enc:α->List Value)(k:Nat)(hk:∀x,(enc x).length=k):∀L:List α,(L.flatMap enc).length=L.length*k
 | []=>by simp
 | x :: L=>by rw [List.flatMap_cons,List.length_append,hk,qz enc k hk L,List.length_cons,Nat.add_mul];omega
theorem Qv {α:Type} [Inhabited α] (enc:α->List Value)(k:Nat)(h0:0<k)(hk:∀x,(enc x).length=k)(L:List α):flatK enc k L.toArray=(L.flatMap enc).toArray:=by
 apply Array.ext
 ·simp [qz enc k hk L]
 ·intro t h1 h2
  have ht:t<L.length*k:=by simpa [flatK] using h1
  have hd:t / k<L.length:=(Nat.div_lt_iff_lt_mul h0).2 ht;have e:=YH enc k h0 hk L t;have g:=get_flatK enc k L.toArray t (by simpa using ht);rw [getElem!_pos _ t h1] at g;rw [g];have h3:t<(L.flatMap enc).length:=by rw [qz enc k hk];exact ht
  rw [List.getElem?_eq_getElem h3,List.getElem?_eq_getElem hd,Option.bind_some,List.getElem?_eq_getElem (by rw [hk];exact Nat.mod_lt _ h0)] at e;injection e with e;rw [List.getElem_toArray,e];have e4:L.toArray[t / k]! = L[t / k]:=by rw [getElem!_pos _ _ (by simpa using hd)];simp
  rw [e4,getElem!_pos _ _ (by rw [hk];exact Nat.mod_lt _ h0)]
theorem jaZ {α:Type} [Inhabited α] (enc:α->List Value)(k:Nat)(h0:0<k)(hk:∀x,(enc x).length=k){w:World}{E g cap:Nat}(A B C:List α)(hC:C.length=B.length)
  (h:w.ownsRow 0 E k (.slice (some ⟨g,0,none⟩) (A.length+B.length) cap) (A.length+B.length) ((A++B).flatMap enc)) :
  HoldsK enc k w g (A.length*k) B.toArray/\∀n,(putRowK enc k (Sort.ahead w n) g (A.length*k) C.toArray).ownsRow 0 E k (.slice (some ⟨g,0,none⟩) (A.length+B.length) cap) (A.length+B.length) ((A++C).flatMap enc)/\w.grownBy (putRowK enc k (Sort.ahead w n) g (A.length*k) C.toArray) (some g):=by
 obtain⟨hl,h2 | ⟨g',cap',cur,e,_,hb,hc,hm,hcs,ht⟩⟩:=h
 ·obtain⟨h2,_⟩:=h2
  cases h2
 ·cases e
  have lA:=qz enc k hk A;have lB:=qz enc k hk B;have lC:=qz enc k hk C;have hcap:(A.length+B.length)*k<=cap*k:=Nat.mul_le_mul_right k hc;rw [Nat.add_mul] at hcap;rw [Nat.add_mul,List.flatMap_append] at ht;refine⟨?_,fun n=>⟨⟨by rw [qz enc k hk,List.length_append,hC],.inr ⟨g,cap,putCells id (A.length*k) (flatK enc k C.toArray) cur,rfl,Nat.zero_le _,?_,hc,hm,by simp [putCells,hcs],?_⟩⟩,?_⟩⟩
  ·unfold HoldsK
   rw [Qv enc k h0 hk];intro j hj;have hj':j<(B.flatMap enc).length:=by simpa using hj
   refine⟨?_,by simp [World.frozen?,hb]⟩
   have e:(cur.toList.take (A.length*k+B.length*k))[A.length*k+j]?=(B.flatMap enc)[j]?:=by
    rw [ht,List.getElem?_append_right (by omega),lA,Nat.add_sub_cancel_left]
   rw [List.getElem?_take,if_pos (by omega),List.getElem?_eq_getElem hj',Array.getElem?_toList] at e;simp only [World.cell?,hb];rw [e];simp [List.getElem?_eq_getElem hj']
  ·show(w.heap.modify g _)[g]?=_
   rw [Array.getElem?_modify,if_pos rfl,hb];rfl
  ·rw [Qv enc k h0 hk,Nat.add_mul,List.flatMap_append]
   apply List.ext_getElem?
   intro t;rw [List.getElem?_take]
   by_cases c1:t<A.length*k+B.length*k
   ·rw [if_pos c1]
    have e:(cur.toList.take (A.length*k+B.length*k))[t]?=(A.flatMap enc++B.flatMap enc)[t]?:=by rw [ht]
    rw [List.getElem?_take,if_pos c1,Array.getElem?_toList] at e;have hlt:t<cur.size:=by omega
    rw [Array.getElem?_toList];simp only [putCells,Array.getElem?_mapIdx,Array.getElem?_eq_getElem hlt,Option.map_some,id]
    by_cases c2:t<A.length*k
    ·rw [if_neg (by omega),List.getElem?_append_left (by omega),<-Array.getElem?_eq_getElem hlt,e,List.getElem?_append_left (by omega)]
    ·have c3:t - A.length*k<(C.flatMap enc).length:=by rw [lC,hC];omega
     rw [if_pos ⟨by omega,by simp only [List.size_toArray,lC,hC];omega⟩,List.getElem?_append_right (by omega),lA,List.getElem?_eq_getElem c3];simp [List.getElem?_eq_getElem c3]
   ·rw [if_neg c1,List.getElem?_eq_none (by rw [List.length_append,lA,lC,hC];omega)]
  ·refine⟨rfl,rfl,rfl,by simp [putRowK,Sort.ahead],fun b hb hne=>?_⟩
   show(w.heap.modify g _)[b]?=_
   rw [Array.getElem?_modify,if_neg (fun e=>hne (by rw [e]))]
def jaR:Ren:=⟨fun | 35=>72 | n=>n,fun | 22=>122 | 23=>77 | n=>n,fun n=>n⟩
theorem Zh:SlLaysE0.n35 Tryd.prog jaR:={
 mixed:=by kernel_rfl
 f35:=⟨Tryd.f72.name,by kernel_rfl,Tryd.func72.trans (congrArg some (by kernel_rfl))⟩
 t0:=Tryd.underlying0
 a0:=Tryd.isAgg0
 z0:=Tryd.sizeOf0
 v0:=Tryd.zeroValue0
 t3:=Tryd.underlying3
 a3:=Tryd.isAgg3
 z3:=Tryd.sizeOf3
 v3:=Tryd.zeroValue3
 t4:=Tryd.underlying4
 a4:=Tryd.isAgg4
 z4:=Tryd.sizeOf4
 v4:=Tryd.zeroValue4
 t22:=Tryd.underlying122
 a22:=Tryd.isAgg122
 z22:=Tryd.sizeOf122
 v22:=Tryd.zeroValue122 }
def qh (x:Nd):List Value:=[.pointer (some ⟨x.1,x.2.1,none⟩),.int .i64 x.2.2]
theorem QX (x:Nd):∀v∈qh x,Value.oneCell' v=true:=fun v hv=>by simp [qh] at hv;rcases hv with rfl | rfl<;>rfl
theorem jaQ (w:World)(g cap ca:Nat)(A B:List Nd)(hn:B.length<=9223372036854775807)(h:w.ownsRow 0 77 2 (.slice (some ⟨g,0,none⟩) (A.length+B.length) cap) (A.length+B.length) ((A++B).flatMap qh)) :
  Calls Tryd.prog 72 #[.slice (some ⟨g,A.length*2,none⟩) B.length ca] w fun e w'=>e=.returned (.tuple #[])/\w'.ownsRow 0 77 2 (.slice (some ⟨g,0,none⟩) (A.length+B.length) cap) (A.length+B.length) ((A++B.reverse).flatMap qh)/\w.grownBy w' (some g):=by
 obtain⟨hH,hp⟩:=jaZ qh 2 (by decide) (fun _=>rfl) A B B.reverse (by simp) h;have:=AnyQ.slices_Reverse Zh 2 Tryd.isAgg77 Tryd.sizeOf77 qh (fun _=>rfl) QX g (A.length*2) ca B.toArray w hH (by simpa using hn);simp only [List.size_toArray] at this;refine this.mono ?_
 rintro e w' ⟨he,n,rfl⟩
 refine⟨he,?_⟩;have e2:B.toArray.reverse=B.reverse.toArray:=by simp
 rw [e2];exact hp n
open Go.RowKit
structure Turns (M:Nat->Prop) (W W':World):Prop where
 os:W'.os=W.os
 tape:W'.tape=W.tape
 output:W'.output=W.output
 size:W.heap.size<=W'.heap.size
 block:∀b,b<W.heap.size->¬M b->W'.heap[b]?=W.heap[b]?
theorem Turns.refl (M:Nat->Prop)(W:World):Turns M W W:=⟨rfl,rfl,rfl,Nat.le_refl _,fun _ _ _=>rfl⟩
theorem Turns.trans {M N:Nat->Prop}{A B C:World}(h:Turns M A B)(k:Turns N B C)(hN:∀b,b<A.heap.size->N b->M b):Turns M A C :=
 ⟨k.os.trans h.os,k.tape.trans h.tape,k.output.trans h.output,Nat.le_trans h.size k.size,fun b hb hm=>(k.block b (Nat.lt_of_lt_of_le hb h.size) (fun hn=>hm (hN b hb hn))).trans (h.block b hb hm)⟩
theorem Turns.mono {M N:Nat->Prop}{A B:World}(h:Turns M A B)(hM:∀b,b<A.heap.size->M b->N b):Turns N A B :=
 ⟨h.os,h.tape,h.output,h.size,fun b hb hn=>h.block b hb (fun hm=>hn (hM b hb hm))⟩
theorem Turns.grown {M:Nat->Prop}{A B:World}{row:Option Nat}(hg:A.grownBy B row)(hr:∀b,row=some b->M b):Turns M A B :=
 ⟨hg.os,hg.tape,hg.output,hg.size,fun b hb hm=>hg.block b hb (fun e=>hm (hr b e.symm))⟩
theorem Turns.alloc (M:Nat->Prop)(W:World)(o:Obj):Turns M W (W.alloc o):=Turns.grown (World.grownBy_alloc W o none) (fun b e=>by cases e)
theorem Turns.setCell {M:Nat->Prop}(W:World)(p:Addr)(v:Value)(hp:M p.block):Turns M W (W.setCell p v) :=
 ⟨rfl,rfl,rfl,by simp [World.setCell],fun b _ hm=>Below.heap_setCell _ _ _ _ (fun e=>hm (by rw [e];exact hp))⟩
theorem Turns.putObj {M:Nat->Prop}(W:World)(l:Nat)(o:Obj)(hl:M l):Turns M W (W.putObj l o) :=
 Turns.grown (grownBy_putObj' W l o) (fun b e=>by cases e;exact hl)
theorem Turns.below {M:Nat->Prop}{A B:World}{n:Nat}(h:Turns M A B)(hn:n<=A.heap.size)(hM:∀b,M b->n<=b):Below n A B :=
 ⟨h.os,h.tape,h.output,h.size,fun k hk=>h.block k (by omega) (fun hm=>by have:=hM k hm;omega)⟩
theorem Turns.of_below {M:Nat->Prop}{A B:World}{n:Nat}(h:Below n A B)(hM:∀b,n<=b->M b):Turns M A B :=
 ⟨h.os,h.tape,h.output,h.size,fun b _ hm=>h.block b (Decidable.byContradiction fun e=>hm (hM b (by omega)))⟩
theorem Turns.cell {M:Nat->Prop}{A B:World}(h:Turns M A B){p:Addr}(hp:p.block<A.heap.size)(hm:¬M p.block):B.cell? p=A.cell? p:=World.cell?_of_block (h.block _ hp hm)
def Xf {β:Type}(J:(Nat->Prop)->β->World->Prop):Prop :=
 ∀M M' s W W',J M s W->Turns M W W'->(∀b,M' b->M b\/W.heap.size<=b)->J M' s W'
def Abides2 {β:Type}(n:Nat)(J:(Nat->Prop)->β->World->Prop):Prop :=
 ∀M M' s W W',J M s W->Turns (fun b=>M b\/(n<=b/\∃o:Obj,W.heap[b]?=some o/\o.isCells=false)) W W'->(∀b,M' b->M b\/W.heap.size<=b)->J M' s W'
theorem Abides2.one {β:Type}{n:Nat}{J:(Nat->Prop)->β->World->Prop}(h:Abides2 n J):Xf J:=fun M M' s W W' hj ht hm=>h M M' s W W' hj (ht.mono fun _ _ h=>.inl h) hm
theorem Abides2.put {β:Type}{n:Nat}{J:(Nat->Prop)->β->World->Prop}(h:Abides2 n J){M:Nat->Prop}{s:β}{W:World}{l:Nat}{o:Obj}(o':Obj)(hs:J M s W)(hn:n<=l)(hl:W.heap[l]?=some o)(ho:o.isCells=false):J M s (W.putObj l o') :=
 h M M s W _ hs (Turns.putObj W l o' (.inr ⟨hn,o,hl,ho⟩)) (fun _ h=>.inl h)
def jbB (ds:List Nat):List Deferred:=ds.map fun D=>{ target:=.collected D,args:=#[] }
theorem Jd {P:Program}{fn:Func}{tmps:Array Value}{n:Nat}{R:Ending->World->Prop}(hr:fn.results=#[]):∀(ds:List Nat) (W:World),ds.Nodup->(∀D,D∈ds->W.heap[D]?=some (.deferred (some [])))->
  (∀W',Turns (fun b=>b∈ds) W W'->R (.returned (.tuple #[])) W')->LeavesInM Fence.wide n P fn tmps R (jbB ds) .returning W
 | [],W,_,_,h=>⟨_,results_none hr _ _ _,h W (Turns.refl _ _)⟩
 | D :: ds,W,hn,hd,h=>by
  refine⟨by simp,.inl ⟨D,_,rfl,run_takeDeferred (hd D (by simp)),?_⟩⟩;have hnn:=List.nodup_cons.1 hn;refine Jd hr ds _ hnn.2 (fun D' hD'=>?_) (fun W' ht=>h W' ?_)
  ·exact(World.putObj_heap_other (fun e=>hnn.1 (by rw [<-e];exact hD'))).trans (hd D' (by simp [hD']))
  ·exact(Turns.putObj W D (.deferred none) (M:=fun b=>b∈D :: ds) (by simp)).trans ht (fun b _ hb=>by simp [hb])
def jbC (P:Program)(gf:Nat)(lb:Array Value){α σ:Type}(enc:α->Value)(todo:σ->List α)(mu:σ->Nat)(Kd:(Nat->Prop)->World->α->List α->Prop)(first:α)(M0:Nat->Prop)(w:World):Prop :=
 ∀(l:Nat) (J:(Nat->Prop)->σ->World->Prop) (Jx:(Nat->Prop)->Unit->World->Prop) (s0:σ) (W:World),Xf J->Xf Jx->
  (∀M s x rest X,J M s X->(∀b,M b->b<X.heap.size)->todo s=x :: rest->YieldAt Fence.wide 9 P l #[enc x] X fun e X'=>
   (e=.returned (.bool true)/\Turns (fun b=>¬M b) X X'/\∃s' kids,J M s' X'/\todo s'=kids++rest/\mu s'<mu s/\Kd M X' x kids)\/(e=.returned (.bool false)/\Turns (fun b=>¬M b) X X'/\Jx M () X'))->
  (∀M s X,J M s X->(todo s).length<=10000000)->
  Below w.heap.size w W->todo s0=[first]->J M0 s0 W->
  CallsIn Fence.wide 9 P gf (#[.func (.yield l) #[] #[]]++lb) W fun e W'=>(∃v,e=.returned v)/\∃M,((∃s,todo s=[]/\J M s W')\/Jx M () W')
open Go.RowKit
def QZ {α σ:Type}(B:Nat)(I:(Nat->Prop)->σ->World->Prop)(Ix:Code->(Nat->Prop)->Unit->World->Prop)(todo:σ->List α)(mu:σ->Nat)(Kd:(Nat->Prop)->World->α->List α->Prop)(M:Nat->Prop)(s:σ)(x:α)(rest:List α)(W:World):Exit->Act->World->Prop
 | .normal,_,W'=>(KeepsFrom B W W'/\Turns (fun b=>¬M b) W W')/\∃s' kids,I M s' W'/\todo s'=kids++rest/\mu s'<mu s/\Kd M W' x kids
 | .ret,_,W'=>(KeepsFrom B W W'/\Turns (fun b=>¬M b) W W')/\Ix .ret M () W'
 | .exit id,_,W'=>(KeepsFrom B W W'/\Turns (fun b=>¬M b) W W')/\Ix (.exit id) M () W'
 | .goto t,_,W'=>(KeepsFrom B W W'/\Turns (fun b=>¬M b) W W')/\Ix (.goto t) M () W'
 | .panic _,_,_=>False
 | .outgrown,_,_=>False
theorem qS {P:Program}{α σ:Type}{g:Operand}{ps:Array Tmp}{assign body:Code}{Q:Exit->Act->World->Prop}{a:Act}{w:World}
  {gf:Nat} {lb:Array Value} (hg:a.eval g=.func (.func gf) #[] lb) (eg:∀args w,(callFunc gf args).run P w=.ok (.enter gf args) w)
  {enc:α->Value} {todo:σ->List α} {mu:σ->Nat} {Kd:(Nat->Prop)->World->α->List α->Prop} {first:α} {M0:Nat->Prop} {w0:World} (hseq:jbC P gf lb enc todo mu Kd first M0 w0) (hb0:Below w0.heap.size w0 w) (hps:ps.size=1)
  (hKd:∀M W x kids l o o',Kd M W x kids->¬M l->W.heap[l]?=some o->o.isCells=false->Kd M (W.putObj l o') x kids)
  (N:Nat) (hN:N<=w.heap.size) (I:(Nat->Prop)->σ->World->Prop) (Ix:Code->(Nat->Prop)->Unit->World->Prop) (hI:Abides2 N I) (hIx:∀c,Abides2 N (Ix c)) (s0:σ) (hs0:todo s0=[first]) (hM0:∀b,M0 b->b<w.heap.size) (h0:I M0 s0 w)
  (hlen:∀M s X,I M s X->(todo s).length<=10000000) (Ax:α->Act->World->Prop) (hAx:∀x a' W l o o',Ax x a' W->W.heap[l]?=some o->o.isCells=false->Ax x a' (W.putObj l o'))
  (hassign:∀(l:Nat) (x:α) (W:World) (K:Act->World->Prop),(∀a' W',Turns (fun _=>False) W W'->Ax x a' W'->K a' W')->
   assign.wpIn (Fence.wide.inRound l) 9 P (Exit.then K (fun _ _ _=>False)) { tmps:=(ps.zip #[enc x]).foldl (fun t (p,v)=>t.setIfInBounds p v) a.tmps,defers:=[] } W)
  (hbody:∀(l:Nat) (M:Nat->Prop) (s:σ) (x:α) (rest:List α) (a':Act) (W:World),w.heap.size<=l->(∃r,W.heap[l]?=some (.loop r))->Ax x a' W->I M s W->(∀b,M b->b<W.heap.size)->todo s=x :: rest->body.wpIn (Fence.wide.inRound l) 9 P (QZ w.heap.size I Ix todo mu Kd M s x rest W) a' W)
  (hdone:∀(D:Nat) (M:Nat->Prop) (s:σ) (W:World),w.heap.size<=D->todo s=[]->I M s W->W.heap[D]?=some (.deferred (some []))->Q .normal { a with defers:={ target:=.collected D,args:=#[] } :: a.defers } W)
  (hstop:∀(D:Nat) (c:Code) (M:Nat->Prop) (W:World),w.heap.size<=D->Ix c M () W->W.heap[D]?=some (.deferred (some []))->c.wpIn Fence.wide 9 P Q { a with defers:={ target:=.collected D,args:=#[] } :: a.defers } W) :
  (Code.rangeFunc g ps assign body).wpIn Fence.wide 9 P Q a w:=by
 refine wpIn_rangeFunc ?_
 intro fn hfn;obtain⟨rec,hrec⟩:∃rec:LoopState->Option Code->Loop,rec=fun st pe=>{ state:=st,pending:=pe,fn,tmps:=a.tmps,params:=ps,assign,body,defers:=w.heap.size }:=⟨_,rfl⟩
 obtain⟨W1,hW1⟩:∃W1,(w.alloc (.deferred (some []))).alloc (.loop (rec .ready none))=W1:=⟨_,rfl⟩
 have hL1:W1.heap[w.heap.size+1]?=some (.loop (rec .ready none)):=by
  rw [<-hW1];have:=World.alloc_heap_new (w.alloc (.deferred (some []))) (.loop (rec .ready none));rwa [World.size_alloc] at this
 have hK1:W1.heap[w.heap.size]?=some (.deferred (some [])):=by
  rw [<-hW1];exact(Below.heap_alloc _ _ _ (by simp)).trans (World.alloc_heap_new w _)
 have t1:Turns (fun _=>False) w W1:=by rw [<-hW1];exact(Turns.alloc _ _ _).trans (Turns.alloc (fun _=>False) _ _) (fun _ _ h=>h)
 have hI1:I M0 s0 W1:=hI M0 M0 s0 w W1 h0 (t1.mono fun _ _ h=>h.elim) (fun _ h=>.inl h);have hb1:Below w0.heap.size w0 W1:=hb0.trans ((t1.below (Nat.le_refl _) (fun _ h=>h.elim)).mono hb0.size)
 refine⟨w.heap.size+1,[{ target:=.collected w.heap.size,args:=#[] }],W1,{ target:=.fn (.func gf) lb,args:=#[.func (.yield (w.heap.size+1)) #[] #[]] },W1,gf,
  #[.func (.yield (w.heap.size+1)) #[] #[]]++lb,W1,?_,?_,fun _ _=>trivial,?_,(fun h=>by cases h),?_⟩
 ·rw [<-hW1,hrec];exact run_enterLoop_outer _ _ _ _ _
 ·simp only [resolve,hg]
  simp [go_sem]
 ·simp [invoke,go_sem,eg]
 ·refine CallsIn.mono (callsIn_wide.2 (callsIn_wide.1 (hseq (w.heap.size+1)
   (fun M s W=>I M s W/\(W.heap[w.heap.size+1]?=some (.loop (rec .ready none))/\¬M (w.heap.size+1))/\(W.heap[w.heap.size]?=some (.deferred (some []))/\¬M w.heap.size))
   (fun M _ W=>∃c,Ix c M () W/\(W.heap[w.heap.size+1]?=some (.loop (rec .done (some c)))/\¬M (w.heap.size+1))/\(W.heap[w.heap.size]?=some (.deferred (some []))/\¬M w.heap.size))
   s0 W1 ?ab ?abx ?round (fun M s X h=>hlen M s X h.1) hb1 hs0 ⟨hI1,⟨hL1,fun h=>by have:=hM0 _ h;omega⟩,⟨hK1,fun h=>by have:=hM0 _ h;omega⟩⟩))) ?behind
  case ab=>
   rintro M M' s A B ⟨hi,⟨hl,nl⟩,⟨hd,nd⟩⟩ ht hm
   have l1:=(Array.getElem?_eq_some_iff.1 hl).1;have l2:=(Array.getElem?_eq_some_iff.1 hd).1;exact⟨hI.one M M' s A B hi ht hm,⟨(ht.block _ l1 nl).trans hl,fun h=>(hm _ h).elim nl (fun h=>by omega)⟩,⟨(ht.block _ l2 nd).trans hd,fun h=>(hm _ h).elim nd (fun h=>by omega)⟩⟩
  case abx=>
   rintro M M' s A B ⟨c,hi,⟨hl,nl⟩,⟨hd,nd⟩⟩ ht hm
   have l1:=(Array.getElem?_eq_some_iff.1 hl).1;have l2:=(Array.getElem?_eq_some_iff.1 hd).1;exact⟨c,(hIx c).one M M' () A B hi ht hm,⟨(ht.block _ l1 nl).trans hl,fun h=>(hm _ h).elim nl (fun h=>by omega)⟩,⟨(ht.block _ l2 nd).trans hd,fun h=>(hm _ h).elim nd (fun h=>by omega)⟩⟩
  case round=>
   rintro M s x rest W ⟨hi,⟨hl,nl⟩,⟨hk,nd⟩⟩ hM ht
   have hlt:w.heap.size+1<W.heap.size:=(Array.getElem?_eq_some_iff.1 hl).1;have hy:=run_yield (P:=P) (args:=#[enc x]) hl (by rw [hrec];exact hps.symm);rw [hrec] at hy;refine⟨fn,_,assign,body,hy,roundIn_of_wpIn hfn (hassign _ x W _ ?_)⟩;clear hy;intro a' Wb tA hax;have hM':∀b,M b->b<Wb.heap.size:=fun b hb=>Nat.lt_of_lt_of_le (hM b hb) tA.size
   have tA':Turns (fun b=>¬M b) W Wb:=tA.mono fun _ _ h=>h.elim
   replace hi:I M s Wb:=hI M M s W Wb hi (tA.mono fun _ _ h=>h.elim) (fun _ h=>.inl h);replace hk:=(tA.block _ (Array.getElem?_eq_some_iff.1 hk).1 (fun h=>h)).trans hk;replace hl:=(tA.block _ hlt (fun h=>h)).trans hl;replace hlt:w.heap.size+1<Wb.heap.size:=(Array.getElem?_eq_some_iff.1 hl).1;refine⟨_,run_beginRound hl (by rw [hrec]),?_⟩;have hl2:(Wb.putObj (w.heap.size+1) (.loop { rec .ready none with state:=.busy })).heap[w.heap.size+1]?=some (.loop { rec .ready none with state:=.busy }):=World.putObj_heap_same hlt
   have hk2:(Wb.putObj (w.heap.size+1) (.loop { rec .ready none with state:=.busy })).heap[w.heap.size]?=some (.deferred (some [])):=(World.putObj_heap_other (by omega)).trans hk
   have hi2:I M s (Wb.putObj (w.heap.size+1) (.loop { rec .ready none with state:=.busy })):=hI.put _ hi (by omega) hl rfl;have tb:Turns (fun b=>¬M b) W (Wb.putObj (w.heap.size+1) (.loop { rec .ready none with state:=.busy })):=tA'.trans (Turns.putObj (M:=fun b=>¬M b) _ _ _ nl) (fun _ _ h=>h);refine wpIn_mono (hbody _ M s x rest a' _ (by omega) ⟨_,hl2⟩ (hAx x a' Wb _ _ _ hax hl rfl) hi2 (fun b hb=>by rw [World.putObj_size];exact hM' b hb) ht) ?_
   have fin:∀(jump:Option Code) (W3:World),KeepsFrom w.heap.size (Wb.putObj (w.heap.size+1) (.loop { rec .ready none with state:=.busy })) W3->Turns (fun b=>¬M b) (Wb.putObj (w.heap.size+1) (.loop { rec .ready none with state:=.busy })) W3->
     (Instr.endRound (w.heap.size+1) jump).run P W3=.ok (.bool jump.isNone) (W3.putObj (w.heap.size+1) (.loop (rec (if jump.isNone then .ready else .done) jump)))/\
     W3.heap[w.heap.size+1]?=some (.loop { rec .ready none with state:=.busy })/\
     (W3.putObj (w.heap.size+1) (.loop (rec (if jump.isNone then .ready else .done) jump))).heap[w.heap.size+1]?=some (.loop (rec (if jump.isNone then .ready else .done) jump))/\
     (W3.putObj (w.heap.size+1) (.loop (rec (if jump.isNone then .ready else .done) jump))).heap[w.heap.size]?=some (.deferred (some []))/\
     Turns (fun b=>¬M b) W (W3.putObj (w.heap.size+1) (.loop (rec (if jump.isNone then .ready else .done) jump))):=fun jump W3 hk3 ht3=>by
    have hl3:=hk3.same _ _ (by omega) hl2 rfl;have:=run_endRound (P:=P) jump hl3;rw [hrec] at this ⊢;exact⟨this,by rw [hrec] at hl3;exact hl3,World.putObj_heap_same (Array.getElem?_eq_some_iff.1 hl3).1,(World.putObj_heap_other (by omega)).trans (hk3.same _ _ (Nat.le_refl _) hk2 rfl),(tb.trans (by rw [hrec] at ht3 ⊢;exact ht3) (fun _ _ h=>h)).trans (Turns.putObj (M:=fun b=>¬M b) _ _ _ nl) (fun _ _ h=>h)⟩
   rintro e a3 W3 hp
   cases e with
   | normal=>
    obtain⟨⟨hk3,ht3⟩,s',kids,hi3,hs3,hmu,hkd⟩:=hp;obtain⟨hr,hl3,hl4,hk4,ht4⟩:=fin none W3 hk3 ht3;exact⟨_,_,hr,.inl ⟨rfl,ht4,s',kids,⟨hI.put _ hi3 (by omega) hl3 rfl,⟨hl4,nl⟩,hk4,nd⟩,hs3,hmu,hKd _ _ _ _ _ _ _ hkd nl hl3 rfl⟩⟩
   | ret=>
    obtain⟨⟨hk3,ht3⟩,hi3⟩:=hp;obtain⟨hr,hl3,hl4,hk4,ht4⟩:=fin (some .ret) W3 hk3 ht3;exact⟨_,_,hr,.inr ⟨rfl,ht4,.ret,(hIx _).put _ hi3 (by omega) hl3 rfl,⟨hl4,nl⟩,hk4,nd⟩⟩
   | exit id=>
    obtain⟨⟨hk3,ht3⟩,hi3⟩:=hp;obtain⟨hr,hl3,hl4,hk4,ht4⟩:=fin (some (.exit id)) W3 hk3 ht3;exact⟨_,_,hr,.inr ⟨rfl,ht4,.exit id,(hIx _).put _ hi3 (by omega) hl3 rfl,⟨hl4,nl⟩,hk4,nd⟩⟩
   | goto t=>
    obtain⟨⟨hk3,ht3⟩,hi3⟩:=hp;obtain⟨hr,hl3,hl4,hk4,ht4⟩:=fin (some (.goto t)) W3 hk3 ht3;exact⟨_,_,hr,.inr ⟨rfl,ht4,.goto t,(hIx _).put _ hi3 (by omega) hl3 rfl,⟨hl4,nl⟩,hk4,nd⟩⟩
   | panic ch=>exact hp.elim
   | outgrown=>exact hp.elim
  case behind=>
   rintro e W2 ⟨⟨v,rfl⟩,M,(⟨s,hs,hi,⟨hl,nl⟩,⟨hk,nd⟩⟩ | ⟨c,hi,⟨hl,nl⟩,⟨hk,nd⟩⟩)⟩
   ·exact⟨none,_,by have:=run_endLoop (P:=P) hl (by rw [hrec];simp);rw [hrec] at this;exact this,hdone _ M s _ (Nat.le_refl _) hs (hI.put _ hi (by omega) hl rfl) ((World.putObj_heap_other (by omega)).trans hk)⟩
   ·exact⟨some c,_,by have:=run_endLoop (P:=P) hl (by rw [hrec];simp);rw [hrec] at this;exact this,hstop _ c M _ (Nat.le_refl _) ((hIx c).put _ hi (by omega) hl rfl) ((World.putObj_heap_other (by omega)).trans hk)⟩
end valus
end Go.Proofs.YtadaehaemmelfaaDoor
