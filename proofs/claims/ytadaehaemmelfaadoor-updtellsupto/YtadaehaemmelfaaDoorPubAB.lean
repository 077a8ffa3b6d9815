/- Of our texts, what this claim reaches. -/
import Derived.Test.YtadaehaemmelfaaDoorPubAA
import Derived.Below
import Derived.Laws.AppendOwn
import Derived.Laws.OwnMore
set_option linter.unusedVariables false
namespace Go.Proofs.YtadaehaemmelfaaDoor
namespace valus
open Go.RowKit
def RowIn (ok:Nat->Prop)(w:World)(p:Option Addr)(d n:Nat)(Q:Nat->List Value->Prop):Prop :=
 n≠0->∃B o,p=some ⟨B,o,none⟩/\ok B/\B<w.heap.size/\∀j,j<n->∃us:List Value,us.length=d/\(∀i,i<d->w.cell? ⟨B,o+j*d+i,none⟩=us[i]?)/\Q j us
theorem RowIn.kept {ok ok':Nat->Prop}{w w':World}{p:Option Addr}{d n:Nat}{Q Q':Nat->List Value->Prop}(h:RowIn ok w p d n Q)(ho:∀b,ok b->ok' b)(hs:w.heap.size<=w'.heap.size)(hb:∀b,ok b->b<w.heap.size->w'.heap[b]?=w.heap[b]?)(hq:∀j us,j<n->Q j us->Q' j us):RowIn ok' w' p d n Q':=by
 intro hn;obtain⟨B,o,hp,hok,hlt,hk⟩:=h hn;refine⟨B,o,hp,ho B hok,Nat.lt_of_lt_of_le hlt hs,fun j hj=>?_⟩;obtain⟨us,u1,u2,u3⟩:=hk j hj;refine⟨us,u1,fun i hi=>?_,hq j us hj u3⟩;rw [World.cell?_of_block (w:=w) (w':=w') (a:=⟨B,o+j*d+i,none⟩) (hb B hok hlt)];exact u2 i hi
def LiesV (ok:Nat->Prop):Nat->World->List Value->V->Prop
 | 0,_,_,_=>False
 | f + 1, w, vs, t => ∃ (k n : Int) (b : Nat) (s : ByteArray) (L E : List V) (pL pE : Option Addr) (cL cE : Nat),
   t=mkV (k,n,b,s.data.toList) L E/\vs=[.int .i64 k,.int .i64 n,.int .u64 (b:Int),.string s,.slice pL L.length cL,.slice pE E.length cE]/\
   ((-9223372036854775808<=k/\k<=9223372036854775807)/\(-9223372036854775808<=n/\n<=9223372036854775807)/\b<18446744073709551616/\s.size<=maxLen)/\
   (L.length<=cL/\cL<=maxLen/\E.length<=cE/\cE<=maxLen)/\
   RowIn ok w pL 6 L.length (fun j us=>∃y,L[j]?=some y/\LiesV ok f w us y)/\
   RowIn ok w pE 7 E.length (fun j us=>∃(key:ByteArray) (y:V) (xs:List Value),E[j]?=some (ent key.data.toList y)/\us=.string key :: xs/\key.size<=maxLen/\LiesV ok f w xs y)
theorem LiesV.kept {ok ok':Nat->Prop}{w w':World}(ho:∀b,ok b->ok' b)(hs:w.heap.size<=w'.heap.size)(hb:∀b,ok b->b<w.heap.size->w'.heap[b]?=w.heap[b]?):∀{f:Nat} {vs:List Value} {t:V},LiesV ok f w vs t->LiesV ok' f w' vs t
 | 0,_,_,h=>h.elim
 | f+1,vs,t,h=>by
  obtain⟨k,n,b,s,L,E,pL,pE,cL,cE,h1,h2,h3,h4,h5,h6⟩:=h;refine⟨k,n,b,s,L,E,pL,pE,cL,cE,h1,h2,h3,h4,h5.kept ho hs hb ?_,h6.kept ho hs hb ?_⟩
  ·rintro j us _ ⟨y,a,c⟩
   exact⟨y,a,c.kept ho hs hb⟩
  ·rintro j us _ ⟨key,y,xs,a,c,e,g⟩
   exact⟨key,y,xs,a,c,e,g.kept ho hs hb⟩
theorem LiesV.below {ok:Nat->Prop}{w w':World}{f:Nat}{vs:List Value}{t:V}(h:LiesV ok f w vs t)(hb:Below w.heap.size w w'):LiesV ok f w' vs t :=
 h.kept (fun _ h=>h) hb.size (fun b _ hlt=>hb.block b hlt)
theorem LiesV.weaken {ok ok':Nat->Prop}{w:World}(ho:∀b,ok b->ok' b){f:Nat}{vs:List Value}{t:V}(h:LiesV ok f w vs t):LiesV ok' f w vs t :=
 h.kept ho (Nat.le_refl _) (fun _ _ _=>rfl)
theorem LiesV.up {ok:Nat->Prop}{w:World}:∀{f:Nat} {vs:List Value} {t:V},LiesV ok f w vs t->LiesV ok (f+1) w vs t
 | 0,_,_,h=>h.elim
 | f+1,vs,t,h=>by
  obtain⟨k,n,b,s,L,E,pL,pE,cL,cE,h1,h2,h3,h4,h5,h6⟩:=h;refine⟨k,n,b,s,L,E,pL,pE,cL,cE,h1,h2,h3,h4,h5.kept (fun _ h=>h) (Nat.le_refl _) (fun _ _ _=>rfl) ?_,h6.kept (fun _ h=>h) (Nat.le_refl _) (fun _ _ _=>rfl) ?_⟩
  ·rintro j us _ ⟨y,a,c⟩
   exact⟨y,a,c.up⟩
  ·rintro j us _ ⟨key,y,xs,a,c,e,g⟩
   exact⟨key,y,xs,a,c,e,g.up⟩
theorem LiesV.to {ok:Nat->Prop}{w:World}{f g:Nat}{vs:List Value}{t:V}(hfg:f<=g)(h:LiesV ok f w vs t):LiesV ok g w vs t:=by
 obtain⟨d,rfl⟩:=Nat.le.dest hfg
 induction d with
 | zero=>exact h
 | succ d ih=>exact(ih (by omega)).up
theorem LiesV.len {ok:Nat->Prop}{w:World}{f:Nat}{vs:List Value}{t:V}(h:LiesV ok f w vs t):vs.length=6:=by
 cases f with
 | zero=>exact h.elim
 | succ f=>
  obtain⟨k,n,b,s,L,E,pL,pE,cL,cE,h1,rfl,_⟩:=h;rfl
theorem LiesV.form {ok:Nat->Prop}{w:World}{f:Nat}{x0 x1 x2 x3 x4 x5:Value}{t:V}(h:LiesV ok f w [x0,x1,x2,x3,x4,x5] t):∃(k n:Int) (b:Nat) (s:ByteArray) (pL:Option Addr) (nL cL:Nat) (pE:Option Addr) (nE cE:Nat),x0=.int .i64 k/\x1=.int .i64 n/\x2=.int .u64 (b:Int)/\x3=.string s/\x4=.slice pL nL cL/\x5=.slice pE nE cE:=by
 cases f with
 | zero=>exact h.elim
 | succ f=>
  obtain⟨k,n,b,s,L,E,pL,pE,cL,cE,h1,h2,_⟩:=h;simp only [List.cons.injEq,and_true] at h2;obtain⟨rfl,rfl,rfl,rfl,rfl,rfl⟩:=h2;exact⟨k,n,b,s,pL,_,cL,pE,_,cE,rfl,rfl,rfl,rfl,rfl,rfl⟩
theorem LiesV.isV {ok:Nat->Prop}{w:World}:∀{f:Nat} {vs:List Value} {t:V},LiesV ok f w vs t->IsV f t
 | 0,_,_,h=>h.elim
 | f+1,vs,t,h=>by
  obtain⟨k,n,b,s,L,E,pL,pE,cL,cE,rfl,h2,h3,h4,h5,h6⟩:=h;refine IsV.mk.2 ⟨h3.2.2.1,fun y hy=>?_,fun e he=>?_⟩
  ·obtain⟨j,hj,e⟩:=List.getElem_of_mem hy
   obtain⟨B,o,_,_,_,hk⟩:=h5 (by omega);obtain⟨us,_,_,z,a,c⟩:=hk j hj;rw [List.getElem?_eq_getElem hj,e] at a;injection a with a;rw [a];exact c.isV
  ·obtain⟨j,hj,e'⟩:=List.getElem_of_mem he
   obtain⟨B,o,_,_,_,hk⟩:=h6 (by omega);obtain⟨us,_,_,key,z,xs,a,_,_,c⟩:=hk j hj;rw [List.getElem?_eq_getElem hj,e'] at a;injection a with a;exact⟨key.data.toList,z,a,c.isV⟩
theorem RowIn.six {ok:Nat->Prop}{w:World}{p:Option Addr}{n:Nat}{Q:Nat->List Value->Prop}(h:RowIn ok w p 6 n Q){j:Nat}(hj:j<n):∃B o,p=some ⟨B,o,none⟩/\ok B/\B<w.heap.size/\∃x0 x1 x2 x3 x4 x5,Q j [x0,x1,x2,x3,x4,x5]/\
  w.cell? ⟨B,o+j*6,none⟩=some x0/\w.cell? ⟨B,o+j*6+1,none⟩=some x1/\w.cell? ⟨B,o+j*6+2,none⟩=some x2/\w.cell? ⟨B,o+j*6+3,none⟩=some x3/\w.cell? ⟨B,o+j*6+4,none⟩=some x4/\w.cell? ⟨B,o+j*6+5,none⟩=some x5:=by
 obtain⟨B,o,hp,hok,hlt,hk⟩:=h (by omega);obtain⟨us,u1,u2,u3⟩:=hk j hj
 match us,u1 with
 | [x0,x1,x2,x3,x4,x5],_=>exact⟨B,o,hp,hok,hlt,x0,x1,x2,x3,x4,x5,u3,u2 0 (by omega),u2 1 (by omega),u2 2 (by omega),u2 3 (by omega),u2 4 (by omega),u2 5 (by omega)⟩
theorem RowIn.seven {ok:Nat->Prop}{w:World}{p:Option Addr}{n:Nat}{Q:Nat->List Value->Prop}(h:RowIn ok w p 7 n Q){j:Nat}(hj:j<n):∃B o,p=some ⟨B,o,none⟩/\ok B/\B<w.heap.size/\∃x0 x1 x2 x3 x4 x5 x6,Q j [x0,x1,x2,x3,x4,x5,x6]/\
  w.cell? ⟨B,o+j*7,none⟩=some x0/\w.cell? ⟨B,o+j*7+1,none⟩=some x1/\w.cell? ⟨B,o+j*7+2,none⟩=some x2/\w.cell? ⟨B,o+j*7+3,none⟩=some x3/\w.cell? ⟨B,o+j*7+4,none⟩=some x4/\w.cell? ⟨B,o+j*7+5,none⟩=some x5/\w.cell? ⟨B,o+j*7+6,none⟩=some x6:=by
 obtain⟨B,o,hp,hok,hlt,hk⟩:=h (by omega);obtain⟨us,u1,u2,u3⟩:=hk j hj
 match us,u1 with
 | [x0,x1,x2,x3,x4,x5,x6],_=>exact⟨B,o,hp,hok,hlt,x0,x1,x2,x3,x4,x5,x6,u3,u2 0 (by omega),u2 1 (by omega),u2 2 (by omega),u2 3 (by omega),u2 4 (by omega),u2 5 (by omega),u2 6 (by omega)⟩
open Go.RowKit
structure NewRow (ok ok':Nat->Prop) (W W':World) (B o k:Nat):Prop where
 size:W.heap.size<=W'.heap.size
 weak:∀b,ok b->ok' b
 kind:k=4\/k=5
 txt:∃s,W.cell? ⟨B,o+3,none⟩=some (.string s)
 l4:∃p n c,W.cell? ⟨B,o+4,none⟩=some (.slice p n c)
 l5:∃p n c,W.cell? ⟨B,o+5,none⟩=some (.slice p n c)
 same:∀b i,ok b->b<W.heap.size->¬(b=B/\i=o+k)->W'.cell? ⟨b,i,none⟩=W.cell? ⟨b,i,none⟩
 row:∃p n c p' c',W.cell? ⟨B,o+k,none⟩=some (.slice p n c)/\W'.cell? ⟨B,o+k,none⟩=some (.slice p' n c')/\n<=c'/\c'<=maxLen/\
  (n≠0->∃b q b' q',p=some ⟨b,q,none⟩/\p'=some ⟨b',q',none⟩/\ok' b'/\b'<W'.heap.size/\∀i,i<n*(if k=4 then 6 else 7)->W'.cell? ⟨b',q'+i,none⟩=W'.cell? ⟨b,q+i,none⟩)
section
variable {ok ok' : Nat → Prop} {W W' : World} {B o k : Nat}
theorem NewRow.swap (h:NewRow ok ok' W W' B o k){f:Nat}{us:List Value}{t:V}(hl:LiesV ok' f W' us t)(h4:us[k]?=W.cell? ⟨B,o+k,none⟩):∃u,W'.cell? ⟨B,o+k,none⟩=some u/\LiesV ok' f W' (us.set k u) t:=by
 obtain⟨p,n,c,p',c',r1,r2,r3,r4,r5⟩:=h.row;refine⟨_,r2,?_⟩;rw [r1] at h4;cases f with
 | zero=>exact hl.elim
 | succ f=>
  obtain⟨vk,vn,vb,vs,L,E,pL,pE,cL,cE,rfl,rfl,h3,hc,hL,hE⟩:=hl
  have turn:∀{d m:Nat} {Q:Nat->List Value->Prop},m=n->d=(if k=4 then 6 else 7)->RowIn ok' W' p d m Q->RowIn ok' W' p' d m Q:=by
   intro d m Q hm hd hR hne;obtain⟨b,q,b',q',e1,e2,e3,e4,e5⟩:=r5 (by omega);obtain⟨b2,q2,e6,_,_,hk⟩:=hR hne;rw [e1] at e6;cases e6
   refine⟨b',q',e2,e3,e4,fun j hj=>?_⟩;obtain⟨vs,v1,v2,v3⟩:=hk j hj;refine⟨vs,v1,fun i hi=>?_,v3⟩;rw [<-v2 i hi]
   have hlt:j*d+i<n*(if k=4 then 6 else 7):=by
    rw [<-hd,<-hm];have h6:(j+1)*d<=m*d:=Nat.mul_le_mul_right d hj;rw [Nat.add_mul,Nat.one_mul] at h6;omega
   have:=e5 (j*d+i) hlt;rw [<-Nat.add_assoc,<-Nat.add_assoc] at this;exact this
  rcases h.kind with rfl | rfl
  ·have e:(Value.slice pL L.length cL)=.slice p n c:=by simpa using h4
   cases e
   exact⟨vk,vn,vb,vs,L,E,p',pE,c',cE,rfl,rfl,h3,⟨r3,r4,hc.2.2.1,hc.2.2.2⟩,turn rfl rfl hL,hE⟩
  ·have e:(Value.slice pE E.length cE)=.slice p n c:=by simpa using h4
   cases e
   exact⟨vk,vn,vb,vs,L,E,pL,p',cL,c',rfl,rfl,h3,⟨hc.1,hc.2.1,r3,r4⟩,hL,turn rfl rfl hE⟩
theorem NewRow.hit (h:NewRow ok ok' W W' B o k){f q i:Nat}{xs:List Value}{z:V}(hl:LiesV ok f W xs z)(hx:∀i,i<6->W.cell? ⟨B,q+i,none⟩=xs[i]?)(hi:i<6)(e:q+i=o+k):i=k/\q=o:=by
 have hlen:=hl.len
 match xs,hlen with
 | [x0,x1,x2,x3,x4,x5],_=>
  obtain⟨vk,vn,vb,vs,vpL,vnL,vcL,vpE,vnE,vcE,rfl,rfl,rfl,rfl,rfl,rfl⟩:=hl.form;obtain⟨s,h3⟩:=h.txt;obtain⟨p4,n4,c4,h4⟩:=h.l4;obtain⟨p5,n5,c5,h5⟩:=h.l5;have hc:=hx i hi;rw [e] at hc
  rcases h.kind with rfl | rfl
  ·rw [h4] at hc
   match i,hi with
   | 0,_=>cases hc
   | 1,_=>cases hc
   | 2,_=>cases hc
   | 3,_=>cases hc
   | 4,_=>exact⟨rfl,by omega⟩
   | 5,_=>
    have:=hx 4 (by omega);rw [show q+4=o+3 by omega,h3] at this;cases this
  ·rw [h5] at hc
   match i,hi with
   | 0,_=>cases hc
   | 1,_=>cases hc
   | 2,_=>cases hc
   | 3,_=>cases hc
   | 4,_=>
    have:=hx 3 (by omega);rw [show q+3=o+4 by omega,h4] at this;cases this
   | 5,_=>exact⟨rfl,by omega⟩
theorem NewRow.elem (h:NewRow ok ok' W W' B o k){f b q:Nat}{xs:List Value}{z:V}(hok:ok b)(hb:b<W.heap.size)(hl:LiesV ok f W xs z)(hl':LiesV ok' f W' xs z)(hx:∀i,i<6->W.cell? ⟨b,q+i,none⟩=xs[i]?) :
  ∃ys:List Value,(∀i,i<6->W'.cell? ⟨b,q+i,none⟩=ys[i]?)/\LiesV ok' f W' ys z:=by
 by_cases hh:b=B/\∃i,i<6/\q+i=o+k
 ·obtain⟨rfl,i,hi,e⟩:=hh
  obtain⟨rfl,rfl⟩:=h.hit hl hx hi e;obtain⟨u,hu,hs⟩:=h.swap hl' (hx i hi).symm;refine⟨xs.set i u,fun j hj=>?_,hs⟩;have hlen:=hl.len
  by_cases ej:j=i
  ·subst ej
   rw [hu,List.getElem?_set_self (by omega)]
  ·rw [List.getElem?_set_ne (by omega),<-hx j hj]
   exact h.same _ _ hok hb (fun hx=>by omega)
 ·refine⟨xs,fun j hj=>?_,hl'⟩
  rw [<-hx j hj];exact h.same _ _ hok hb (fun hx=>hh ⟨hx.1,j,hj,hx.2⟩)
theorem NewRow.value (h:NewRow ok ok' W W' B o k):∀{f:Nat} {us:List Value} {t:V},LiesV ok f W us t->LiesV ok' f W' us t
 | 0,_,_,hl=>hl.elim
 | f+1,us,t,hl=>by
  obtain⟨vk,vn,vb,vs,L,E,pL,pE,cL,cE,rfl,rfl,h3,hc,hL,hE⟩:=hl;refine⟨vk,vn,vb,vs,L,E,pL,pE,cL,cE,rfl,rfl,h3,hc,fun hne=>?_,fun hne=>?_⟩
  ·obtain⟨b,q,hp,hok,hb,hk⟩:=hL hne
   refine⟨b,q,hp,h.weak b hok,Nat.lt_of_lt_of_le hb h.size,fun j hj=>?_⟩;obtain⟨xs,v1,v2,z,hz,hlz⟩:=hk j hj;obtain⟨ys,hy,hly⟩:=h.elem hok hb hlz (NewRow.value h hlz) v2;exact⟨ys,hly.len,hy,z,hz,hly⟩
  ·obtain⟨b,q,hp,hok,hb,hk⟩:=hE hne
   refine⟨b,q,hp,h.weak b hok,Nat.lt_of_lt_of_le hb h.size,fun j hj=>?_⟩;obtain⟨us,v1,v2,key,z,xs,hz,rfl,hks,hlz⟩:=hk j hj
   have hx:∀i,i<6->W.cell? ⟨b,q+j*7+1+i,none⟩=xs[i]?:=fun i hi=>by
    have:=v2 (i+1) (by omega);rw [List.getElem?_cons_succ] at this;rw [<-this]
    congr 2
    omega
   obtain⟨ys,hy,hly⟩:=h.elem hok hb hlz (NewRow.value h hlz) hx
   have hkey:W'.cell? ⟨b,q+j*7,none⟩=some (.string key):=by
    have h0:=v2 0 (by omega);rw [Nat.add_zero] at h0;rw [h.same b _ hok hb,h0]
    ·rfl
    ·rintro⟨rfl,e⟩
     rw [e] at h0;obtain⟨p,n,c,p',c',r1,_⟩:=h.row;rw [r1] at h0;cases h0
   refine⟨.string key :: ys,by rw [List.length_cons,hly.len],fun i hi=>?_,key,z,ys,hz,rfl,hks,hly⟩;cases i with
   | zero=>exact hkey
   | succ i=>
    rw [List.getElem?_cons_succ,<-hy i (by omega)]
    congr 2
    omega
end
end valus
end Go.Proofs.YtadaehaemmelfaaDoor
