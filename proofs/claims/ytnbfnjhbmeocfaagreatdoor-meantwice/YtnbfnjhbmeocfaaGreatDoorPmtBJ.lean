/- Of our texts, what this claim reaches. -/
import Derived.Test.YtnbfnjhbmeocfaaGreatDoorPmtAA
import Derived.Below
import Derived.Laws.AppendOwn
import Derived.Laws.OwnMore
set_option linter.unusedVariables false
namespace Go.Proofs.YtnbfnjhbmeocfaaGreatDoor
namespace trees
open Go.RowKit
def Lies (ok:Nat->Prop):Nat->World->List Value->T->Prop
 | 0,_,_,_=>False
 | f + 1, w, vs, t => ∃ (k a e : Nat) (l : List T) (p : Option Addr) (cap : Nat), t = nd k a e l ∧ vs = [.int .i64 (k : Int), .int .i64 (a : Int), .int .i64 (e : Int), .slice p l.length cap] ∧ l.length ≤ cap ∧
   (l≠[]->∃b o,p=some ⟨b,o,none⟩/\ok b/\b<w.heap.size/\∀(j:Nat) (h:j<l.length),∃us:List Value,us.length=4/\(∀i,i<4->w.cell? ⟨b,o+j*4+i,none⟩=us[i]?)/\Lies ok f w us l[j])
theorem Lies.kept {ok:Nat->Prop}{w w':World}(hs:w.heap.size<=w'.heap.size)(hb:∀b,ok b->b<w.heap.size->w'.heap[b]?=w.heap[b]?):∀{f:Nat} {vs:List Value} {t:T},Lies ok f w vs t->Lies ok f w' vs t
 | 0,_,_,h=>h.elim
 | f+1,vs,t,h=>by
  obtain⟨k,a,e,l,p,cap,h1,h2,h3,h4⟩:=h;refine⟨k,a,e,l,p,cap,h1,h2,h3,fun hl=>?_⟩;obtain⟨b,o,hp,hok,hlt,hk⟩:=h4 hl;refine⟨b,o,hp,hok,Nat.lt_of_lt_of_le hlt hs,fun j hj=>?_⟩;obtain⟨us,u1,u2,u3⟩:=hk j hj;refine⟨us,u1,fun i hi=>?_,Lies.kept hs hb u3⟩;rw [World.cell?_of_block (w:=w) (w':=w') (a:=⟨b,o+j*4+i,none⟩) (hb b hok hlt)];exact u2 i hi
theorem Lies.below {ok:Nat->Prop}{w w':World}{f:Nat}{vs:List Value}{t:T}(h:Lies ok f w vs t)(hb:Below w.heap.size w w'):Lies ok f w' vs t :=
 h.kept hb.size (fun b _ hlt=>hb.block b hlt)
theorem Lies.weaken {ok ok':Nat->Prop}{w:World}(ho:∀b,ok b->ok' b):∀{f:Nat} {vs:List Value} {t:T},Lies ok f w vs t->Lies ok' f w vs t
 | 0,_,_,h=>h.elim
 | f+1,vs,t,h=>by
  obtain⟨k,a,e,l,p,cap,h1,h2,h3,h4⟩:=h;refine⟨k,a,e,l,p,cap,h1,h2,h3,fun hl=>?_⟩;obtain⟨b,o,hp,hok,hlt,hk⟩:=h4 hl;refine⟨b,o,hp,ho b hok,hlt,fun j hj=>?_⟩;obtain⟨us,u1,u2,u3⟩:=hk j hj;exact⟨us,u1,u2,Lies.weaken ho u3⟩
theorem Lies.up {ok:Nat->Prop}{w:World}:∀{f:Nat} {vs:List Value} {t:T},Lies ok f w vs t->Lies ok (f+1) w vs t
 | 0,_,_,h=>h.elim
 | f+1,vs,t,h=>by
  obtain⟨k,a,e,l,p,cap,h1,h2,h3,h4⟩:=h;refine⟨k,a,e,l,p,cap,h1,h2,h3,fun hl=>?_⟩;obtain⟨b,o,hp,hok,hlt,hk⟩:=h4 hl;refine⟨b,o,hp,hok,hlt,fun j hj=>?_⟩;obtain⟨us,u1,u2,u3⟩:=hk j hj;exact⟨us,u1,u2,Lies.up u3⟩
theorem Lies.to {ok:Nat->Prop}{w:World}{f g:Nat}{vs:List Value}{t:T}(hfg:f<=g)(h:Lies ok f w vs t):Lies ok g w vs t:=by
 induction g with
 | zero=>
  have:f=0:=by omega
  subst this;exact h
 | succ g ih=>
  by_cases e:f=g+1
  ·subst e;exact h
  ·exact(ih (by omega)).up
theorem Lies.len {ok:Nat->Prop}{w:World}{f:Nat}{vs:List Value}{t:T}(h:Lies ok f w vs t):vs.length=4:=by
 cases f with
 | zero=>exact h.elim
 | succ f=>
  obtain⟨k,a,e,l,p,cap,_,rfl,_⟩:=h;rfl
theorem jbE (ok:Nat->Prop)(f:Nat)(w:World)(k a e:Nat):Lies ok (f+1) w [.int .i64 (k:Int),.int .i64 (a:Int),.int .i64 (e:Int),.slice none 0 0] (nd k a e []) :=
 ⟨k,a,e,[],none,0,rfl,rfl,Nat.le_refl _,fun h=>absurd rfl h⟩
structure KidsIn (ok:Nat->Prop) (f:Nat) (w:World) (vss:List (List Value)) (l:List T):Prop where
 len:vss.length=l.length
 each:∀(j:Nat) (h:j<vss.length) (h':j<l.length),Lies ok f w vss[j] l[j]
theorem jat (ok:Nat->Prop)(f:Nat)(w:World):KidsIn ok f w [] []:=⟨rfl,fun j h=>by simp at h⟩
theorem KidsIn.snoc {ok:Nat->Prop}{f:Nat}{w:World}{vss:List (List Value)}{l:List T}{vs:List Value}{t:T}(h:KidsIn ok f w vss l)(ht:Lies ok f w vs t):KidsIn ok f w (vss++[vs]) (l++[t]):=by
 have e:=h.len;refine⟨by simp [e],fun j hj hj'=>?_⟩
 by_cases hl:j<vss.length
 ·rw [List.getElem_append_left hl,List.getElem_append_left (by omega)]
  exact h.each j hl (by omega)
 ·rw [List.getElem_append_right (by omega),List.getElem_append_right (by omega)]
  simp only [List.getElem_singleton];exact ht
theorem KidsIn.kept {ok:Nat->Prop}{f:Nat}{w w':World}{vss:List (List Value)}{l:List T}(hs:w.heap.size<=w'.heap.size)(hb:∀b,ok b->b<w.heap.size->w'.heap[b]?=w.heap[b]?)(h:KidsIn ok f w vss l):KidsIn ok f w' vss l :=
 ⟨h.len,fun j hj hj'=>(h.each j hj hj').kept hs hb⟩
theorem KidsIn.lens {ok:Nat->Prop}{f:Nat}{w:World}{vss:List (List Value)}{l:List T}(h:KidsIn ok f w vss l):∀vs∈vss,vs.length=4:=fun vs hv=>by
 obtain⟨j,hj,e⟩:=List.getElem_of_mem hv;rw [<-e];exact(h.each j hj (by rw [<-h.len];exact hj)).len
theorem jbz:∀(vss:List (List Value)),(∀vs∈vss,vs.length=4)->∀(j i:Nat) (h:j<vss.length),i<4->vss.flatten[j*4+i]?=vss[j][i]?
 | [],_,j,i,h,_=>by simp at h
 | vs :: r,hv,0,i,h,hi=>by
  rw [List.flatten_cons,List.getElem?_append_left (by rw [hv vs (by simp)];omega)];simp
 | vs :: r,hv,j+1,i,h,hi=>by
  have hl:=hv vs (by simp);rw [List.flatten_cons,List.getElem?_append_right (by rw [hl];omega),hl,show(j+1)*4+i - 4=j*4+i by omega,jbz r (fun x hx=>hv x (by simp [hx])) j i (by simpa using h) hi];simp
theorem jjx {ok:Nat->Prop}{f:Nat}{w:World}{base ty:Nat}{v:Value}{vss:List (List Value)}{l:List T}{k a e:Nat}(hk:KidsIn ok f w vss l)(hown:w.ownsRow base ty 4 v l.length vss.flatten)(hok:∀b,base<=b->ok b) :
  Lies ok (f+1) w [.int .i64 (k:Int),.int .i64 (a:Int),.int .i64 (e:Int),v] (nd k a e l):=by
 have hl:=hk.lens;have h':=hown
 rcases hown.2 with ⟨rfl,h0⟩ | ⟨g,cap,cur,rfl,hb,hg,hcap,_⟩
 ·have:l=[]:=List.eq_nil_of_length_eq_zero h0
  subst this;exact⟨k,a,e,[],none,0,rfl,rfl,Nat.le_refl _,fun h=>absurd rfl h⟩
 ·refine⟨k,a,e,l,_,cap,rfl,rfl,hcap,fun _=>⟨g,0,rfl,hok g hb,(Array.getElem?_eq_some_iff.1 hg).1,fun j hj=>?_⟩⟩
  have hj':j<vss.length:=by rw [hk.len];exact hj
  refine⟨vss[j],(hk.each j hj' hj).len,fun i hi=>?_,hk.each j hj' hj⟩;rw [show 0+j*4+i=j*4+i by omega,h'.cellAt (j*4+i) (by omega),jbz vss hl j i hj' hi]
end trees
end Go.Proofs.YtnbfnjhbmeocfaaGreatDoor
