/- Of our texts, what this claim reaches. -/
import Derived.Test.YtnbfnjhbmeocfaaGreatDoorPstBG
import Derived.Test.YtnbfnjhbmeocfaaGreatDoorPstBF
import Derived.Test.YtnbfnjhbmeocfaaGreatDoorPstAF
import Derived.Test.YtnbfnjhbmeocfaaGreatDoorPstAB
set_option linter.unusedVariables false
namespace Go.Proofs.YtnbfnjhbmeocfaaGreatDoor
namespace valus
open Go.RowKit Go.Shelf
abbrev Only (R:Nat) (w w':World):Prop:=w.grownBy w' (some R)
theorem Only.trans {R:Nat}{a b c:World}(h:Only R a b)(k:Only R b c):Only R a c :=
 ⟨k.os.trans h.os,k.tape.trans h.tape,k.output.trans h.output,Nat.le_trans h.size k.size,fun q hq hn=>(k.block q (Nat.lt_of_lt_of_le hq h.size) hn).trans (h.block q hq hn)⟩
open Go.RowKit Go.Shelf
def jfe (Q:(Nat->Prop)->World->List Value->V->Prop):Prop :=
 ∀(ok ok':Nat->Prop) (w w':World) (us:List Value) (y:V),Q ok w us y->(∀b,ok b->ok' b)->w.heap.size<=w'.heap.size->(∀b,ok b->b<w.heap.size->w'.heap[b]?=w.heap[b]?)->Q ok' w' us y
def okR (n0:Nat)(W:World)(v:Value)(b:Nat):Prop:=n0<=b/\b<W.heap.size/\some b≠v.ownBlock
def OwnR (T:TypeId)(k:Nat)(Q:(Nat->Prop)->World->List Value->V->Prop)(n0:Nat)(W:World)(v:Value)(F:List V):Prop :=
 ∃rows:List (List Value),W.ownsRow n0 T k v F.length rows.flatten/\rows.length=F.length/\∀(i:Nat) (us:List Value),rows[i]?=some us->us.length=k/\∃y,F[i]?=some y/\Q (okR n0 W v) W us y
theorem OwnR.nil (T:TypeId)(k:Nat)(Q:(Nat->Prop)->World->List Value->V->Prop)(n0:Nat)(W:World):OwnR T k Q n0 W (.slice none 0 0) []:=⟨[],World.ownsRow_nil _ _ _ _,rfl,fun i us h=>by simp at h⟩
theorem OwnR.lt {T:TypeId}{k:Nat}{Q:(Nat->Prop)->World->List Value->V->Prop}{n0:Nat}{W:World}{v:Value}{F:List V}(h:OwnR T k Q n0 W v F):∀g,v.ownBlock=some g->n0<=g/\g<W.heap.size:=fun g hg=>by
 obtain⟨rows,ho,_⟩:=h;exact World.ownsRow.lt ho g hg
theorem OwnR.only {T:TypeId}{k:Nat}{Q:(Nat->Prop)->World->List Value->V->Prop}(hQ:jfe Q){n0 R:Nat}{W W':World}{v:Value}{F:List V}(h:OwnR T k Q n0 W v F)(hR:R<n0)(ho:Only R W W'):OwnR T k Q n0 W' v F:=by
 have hlt:=h.lt;obtain⟨rows,hw,hl,hr⟩:=h;refine⟨rows,World.ownsRow.kept hw (row:=some R) ho ?_,hl,fun i us hi=>?_⟩
 ·exact Classical.byCases (fun e:v.ownBlock=none=>.inl e) (fun e=>.inr (fun e2=>by have:=hlt R e2;omega))
 ·obtain⟨h1,y,h2,h3⟩:=hr i us hi
  exact⟨h1,y,h2,hQ _ _ _ _ _ _ h3 (fun b hb=>⟨hb.1,Nat.lt_of_lt_of_le hb.2.1 ho.size,hb.2.2⟩) ho.size (fun b hb hlt'=>ho.block b hlt' (fun e=>by injection e with e;have:=hb.1;omega))⟩
theorem OwnR.push {T tS:TypeId}{k by':Nat}{Q:(Nat->Prop)->World->List Value->V->Prop}(hQ:jfe Q){i:TypeInfo}{z:Value}(ht:Tryz.prog.underlying tS=some (.slice T))(hi:Tryz.prog.info? T=some i)(hz:i.zero=some z)(hsize:i.size=k)(hby:i.bytes=by')(hzs:z.cells.size=k)(hk:0<k)(hb200:by'<=200)
  {n0:Nat} {W:World} {v:Value} {F:List V} (h:OwnR T k Q n0 W v F) (hn:n0<=W.heap.size) (us:List Value) (y:V) (hus:us.length=k) (h1:∀u∈us,u.oneCell'=true) (hq:Q (okR n0 W v) W us y) (hlen:F.length<=100000000) (ty:TypeId) :
  ∃v' W',(Builtin.append_ #[tS,tS] ty #[v,.slice (some ⟨W.heap.size,0,none⟩) 1 1]).run Tryz.prog (W.alloc (.cells us.toArray T))=.ok v' W'/\OwnR T k Q n0 W' v' (F++[y])/\Grew W W' v v':=by
 have hlt:=h.lt;obtain⟨rows,hw,hl,hr⟩:=h;have hb:Below W.heap.size W (W.alloc (.cells us.toArray T)):=(Below.refl _ W).alloc (Nat.le_refl _) _
 have hw1:(W.alloc (.cells us.toArray T)).ownsRow n0 T k v F.length rows.flatten:=by
  refine World.ownsRow.kept hw (row:=none) ⟨hb.os,hb.tape,hb.output,hb.size,fun b hlt _=>hb.block b hlt⟩ ?_
  cases hv:v.ownBlock with
  | none=>exact .inl rfl
  | some g=>exact .inr (by simp)
 have hbytes:(F.length+1)*by'<=140737488355328:=by
  have:=Nat.mul_le_mul (by omega:F.length+1<=100000001) hb200;omega
 obtain⟨v',W',hrun,hown',hgrow,_,hat⟩:=run_append_own_at (P:=Tryz.prog) (W.alloc (.cells us.toArray T)) n0 tS ty T i z k by' ht hi hz hsize hby hzs hk v _ _ hw1 ⟨W.heap.size,0,none⟩ 1 1 us (by omega) (fun j u hj=>by
  rw [Addr.add_lit,Nat.zero_add];exact Blk.cell (jd W us.toArray T) j u (by simpa using hj)) h1 (by unfold maxLen;omega) hbytes (by simp;omega)
 have hg:Grew W W' v v':=(Grew.below hb v).trans ⟨hgrow,hat.imp id (fun h=>⟨_,h,Nat.le_refl _⟩)⟩;have hs:=hg.by'.size
 have okk:∀b,okR n0 W v b->okR n0 W' v' b:=fun b hb'=>⟨hb'.1,by have:=hb'.2.1;omega,(hg.block hb'.2.1 hb'.2.2).2⟩
 have blk:∀b,okR n0 W v b->b<W.heap.size->W'.heap[b]?=W.heap[b]?:=fun b hb' hlt'=>(hg.block hlt' hb'.2.2).1
 refine⟨v',W',hrun,⟨rows++[us],?_,by simp [hl],fun j xs hj=>?_⟩,hg⟩
 ·rw [List.length_append]
  simpa using hown'
 ·rcases Nat.lt_or_ge j rows.length with hlt' | hge
  ·rw [List.getElem?_append_left hlt'] at hj
   obtain⟨a1,y',a2,a3⟩:=hr j xs hj;exact⟨a1,y',by rw [List.getElem?_append_left (by rw [<-hl];exact hlt')];exact a2,hQ _ _ _ _ _ _ a3 okk hs blk⟩
  ·rw [List.getElem?_append_right hge] at hj
   have hj0:j - rows.length=0:=by
    rcases Nat.eq_zero_or_pos (j - rows.length) with h0 | h0
    ·exact h0
    ·rw [List.getElem?_eq_none (by simp;omega)] at hj
     cases hj
   rw [hj0] at hj;simp only [List.getElem?_cons_zero,Option.some.injEq] at hj;subst hj;refine⟨hus,y,?_,hQ _ _ _ _ _ _ hq okk hs blk⟩;rw [List.getElem?_append_right (by rw [<-hl];exact hge),<-hl,hj0];rfl
theorem jcn {d:Nat}:∀{rows:List (List Value)} {i r:Nat} {us:List Value},(∀(i:Nat) (us:List Value),rows[i]?=some us->us.length=d)->rows[i]?=some us->r<d->rows.flatten[i*d+r]?=us[r]?
 | [],i,r,us,_,h,_=>by simp at h
 | a :: rows,0,r,us,hd,h,hr=>by
  simp only [List.getElem?_cons_zero,Option.some.injEq] at h;subst h;have:=hd 0 a rfl;rw [List.flatten_cons,Nat.zero_mul,Nat.zero_add,List.getElem?_append_left (by omega)]
 | a :: rows,i+1,r,us,hd,h,hr=>by
  have ha:=hd 0 a rfl;rw [List.getElem?_cons_succ] at h;have:=jcn (fun i us hi=>hd (i+1) us (by simpa using hi)) h hr;rw [List.flatten_cons,List.getElem?_append_right (by rw [ha,Nat.add_mul];omega),ha,<-this]
  congr 1
  rw [Nat.add_mul];omega
theorem OwnR.row {T:TypeId}{k:Nat}{Q:(Nat->Prop)->World->List Value->V->Prop}(hQ:jfe Q){n0:Nat}{W:World}{v:Value}{F:List V}(h:OwnR T k Q n0 W v F):∃p c,v=.slice p F.length c/\F.length<=c/\c<=maxLen/\RowIn (fun b=>n0<=b/\b<W.heap.size) W p k F.length (fun j us=>∃y,F[j]?=some y/\Q (fun b=>n0<=b/\b<W.heap.size) W us y):=by
 obtain⟨rows,⟨hl,ho⟩,hrl,hr⟩:=h
 rcases ho with ⟨rfl,h0⟩ | ⟨g,cap,cur,rfl,hg0,hg,h1,h2,h3,h4⟩
 ·exact⟨none,0,by rw [h0],by omega,Nat.zero_le _,fun hn=>absurd h0 hn⟩
 ·have hgl:=(Array.getElem?_eq_some_iff.1 hg).1
  refine⟨_,cap,rfl,h1,h2,fun hn=>⟨g,0,rfl,⟨hg0,hgl⟩,hgl,fun j hj=>?_⟩⟩;obtain⟨us,hus⟩:∃us,rows[j]?=some us:=⟨_,List.getElem?_eq_getElem (by rw [hrl];exact hj)⟩
  obtain⟨u1,y,u2,u3⟩:=hr j us hus;refine⟨us,u1,fun i hi=>?_,y,u2,hQ _ _ _ _ _ _ u3 (fun b hb=>⟨hb.1,hb.2.1⟩) (Nat.le_refl _) (fun _ _ _=>rfl)⟩;have e:=jcn (fun i us hi=>(hr i us hi).1) hus hi
  have hlt:j*k+i<F.length*k:=by
   have:(j+1)*k<=F.length*k:=Nat.mul_le_mul_right _ (by omega);rw [Nat.add_mul] at this;omega
  rw [<-h4,List.getElem?_take_of_lt hlt,Array.getElem?_toList] at e;rw [<-e,Nat.zero_add];simp [World.cell?,hg]
end valus
end Go.Proofs.YtnbfnjhbmeocfaaGreatDoor
