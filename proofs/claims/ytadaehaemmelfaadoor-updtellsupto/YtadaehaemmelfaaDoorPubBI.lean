/- Of our texts, what this claim reaches. -/
import Derived.Test.YtadaehaemmelfaaDoorPubCA
import Derived.Test.YtadaehaemmelfaaDoorPubBG
import Derived.Test.YtadaehaemmelfaaDoorPubAA
import Derived.Test.YtadaehaemmelfaaDoorPubAR
import Derived.Test.YtadaehaemmelfaaDoorPubAY
import Derived.Test.YtadaehaemmelfaaDoorPubAS
set_option linter.unusedVariables false
set_option maxHeartbeats 8000000
set_option maxRecDepth 100000
namespace Go.Proofs.YtadaehaemmelfaaDoor
namespace upds
open valus
open paths (St jf je qT)
theorem XT {a b c:List UInt8}(h:Op.bytesLess a b=true)(g:Op.bytesLess b c=true):Op.bytesLess a c=true:=by
 rw [zm,decide_eq_true_iff] at *;exact Yg h g
theorem Zw {a b:List UInt8}(h:Op.bytesLess a b=true):Op.bytesLess b a=false:=by
 rw [zm,decide_eq_true_iff] at h;rw [zm,decide_eq_false_iff_not];exact jac h
theorem ZX {a b:List UInt8}(h:Op.bytesLess a b=true):a≠b:=by
 rintro rfl
 rw [Zw h] at h;cases h
theorem QN:∀(l:List (List UInt8)) (p:Option (List UInt8)),valus.qp p l=0->l.Pairwise (fun a b=>Op.bytesLess a b=true)/\∀q,p=some q->∀a∈l,Op.bytesLess q a=true
 | [],p,_=>⟨List.Pairwise.nil,fun _ _ a ha=>by cases ha⟩
 | k :: r,p,h=>by
  have h':(if valus.jW p k=0 then valus.qp (some k) r else valus.jW p k)=0:=h
  by_cases hk:valus.jW p k=0
  ·rw [if_pos hk] at h'
   obtain⟨h1,h2⟩:=QN r (some k) h';refine⟨List.pairwise_cons.2 ⟨h2 k rfl,h1⟩,fun q hq a ha=>?_⟩;subst hq
   have hqk:Op.bytesLess q k=true:=by
    unfold valus.jW ZU at hk;split at hk
    ·omega
    ·split at hk
     ·omega
     ·dsimp only at hk
      split at hk
      ·assumption
      ·omega
   rcases List.mem_cons.1 ha with rfl | ha
   ·exact hqk
   ·exact XT hqk (h2 k rfl a ha)
  ·rw [if_neg hk] at h'
   exact absurd h' hk
def jb2 (E:List V):Prop:=(jF E).Pairwise (fun a b=>Op.bytesLess a b=true)
theorem Y8 {t:V}(h:jh jr t=0):jb2 (opn t).2.2:=by
 have h1:=ja3 h;unfold jr at h1;split at h1
 ·omega
 ·split at h1
  ·omega
  ·split at h1
   ·omega
   ·exact(QN _ _ h1).1
theorem Yy (g:List UInt8->Bool):∀(F:List V) (n:Nat),idx g (n+1) F=if idx g n F<0 then -1 else idx g n F+1
 | [],n=>rfl
 | e :: F,n=>by
  unfold idx;split
  ·rw [if_neg (by omega)]
   omega
  ·exact Yy g F (n+1)
theorem jaY {kk:List UInt8}{y e:V}{F:List V}(h:gtr kk (jE e).1=false):qx kk y (e :: F)=e :: qx kk y F:=by
 have hi:idx (gtr kk) 0 (e :: F)=if idx (gtr kk) 0 F<0 then -1 else idx (gtr kk) 0 F+1:=by
  rw [<-Yy]
  show(if gtr kk (jE e).1=true then ((0:Nat):Int) else idx (gtr kk) (0+1) F)=_
  rw [if_neg (by rw [h];decide)]
 have hc:JA kk (e :: F)=JA kk F+1:=by
  unfold JA;rw [hi]
  by_cases h0:idx (gtr kk) 0 F<0
  ·rw [if_pos h0,if_pos h0,if_pos (by decide)]
   rfl
  ·rw [if_neg h0,if_neg h0,if_neg (by omega)]
   omega
 unfold qx;rw [hc];rfl
theorem jaM {kk:List UInt8}{y:V}:∀{F:List V},(∀e∈F,gtr kk (jE e).1=true)->qx kk y F=ent kk y :: F
 | [],_=>rfl
 | e :: F,h=>by
  have hi:idx (gtr kk) 0 (e :: F)=0:=by
   show(if gtr kk (jE e).1=true then ((0:Nat):Int) else idx (gtr kk) (0+1) F)=0
   rw [if_pos (h e (by simp))];rfl
  unfold qx JA;rw [hi];rfl
theorem Zf {k:List UInt8}{u w:V}:∀{E:List V} {j:Nat},jb2 E->E[j]?=some (ent k u)->qx k w (jD k E)=E.set j (ent k w)
 | [],j,_,h=>by simp at h
 | e :: E,0,hr,h=>by
  simp only [List.getElem?_cons_zero,Option.some.injEq] at h;subst h;obtain⟨h1,h2⟩:=List.pairwise_cons.1 (show((jE (ent k u)).1 :: jF E).Pairwise _ from hr);rw [jv] at h1
  have hd:jD k (ent k u :: E)=E:=by
   unfold jD;rw [List.filter_cons,if_neg (by rw [jv];simp)];refine List.filter_eq_self.2 fun x hx=>?_
   have:=ZX (h1 _ (List.mem_map.2 ⟨x,hx,rfl⟩));simp [Ne.symm this]
  rw [hd,jaM (fun x hx=>?_)]
  ·rfl
  ·have h3:=h1 _ (List.mem_map.2 ⟨x,hx,rfl⟩)
   unfold gtr;rw [Zw h3];have:=ZX h3;simp [Ne.symm this]
 | e :: E,j+1,hr,h=>by
  obtain⟨h1,h2⟩:=List.pairwise_cons.1 (show((jE e).1 :: jF E).Pairwise _ from hr);rw [List.getElem?_cons_succ] at h;have h3:=h1 k (List.mem_map.2 ⟨_,List.mem_of_getElem? h,by rw [jv]⟩)
  have hd:jD k (e :: E)=e :: jD k E:=by
   unfold jD;rw [List.filter_cons,if_pos (by have:=ZX h3;simp [this])]
  rw [hd,jaY (by unfold gtr;rw [h3];rfl),Zf h2 h];rfl
def jbY (t:V)(x:St)(w:V):V:=if x.2 = -1 then mkV (opn t).1 (opn t).2.1 (qx x.1 w (jD x.1 (opn t).2.2)) else mkV (opn t).1 ((opn t).2.1.set x.2.toNat w) (opn t).2.2
theorem jaj {f:Nat}{t u w:V}{x:St}(ht:IsV f t)(hg:jh jr t=0)(h:jf t x=.inl u):jbY t x w=zl t x w:=by
 unfold jbY zl
 by_cases hx:x.2 = -1
 ·rw [if_pos hx,if_pos hx]
  rcases qX ht h with ⟨_,j,h1,h2⟩ | ⟨h1,_⟩
  ·rw [Zf (Y8 hg) h1,h2,Int.toNat_natCast]
  ·exact absurd hx h1
 ·rw [if_neg hx,if_neg hx]
def jaG (kind:Int)(y:V)(key:List UInt8)(t:V)(x:St):Int×V:=if kind=2 then ZA x y t else match jf t x with
 | .inr e=>(e,t)
 | .inl w=>if kind=3 then JN x t else JH x key w t
def Xs (kind:Int)(y:V)(key:List UInt8):V->List St->Int×V
 | _,[]=>(0,y)
 | t, x :: P => if kind = 1 ∨ P ≠ [] then match jf t x with
   | .inr e=>(e,t)
   | .inl u=>if (Xs kind y key u P).1≠0 then ((Xs kind y key u P).1,t) else (0,jbY t x (Xs kind y key u P).2)
  else jaG kind y key t x
theorem jal {t:V}{x:St}{e:Int}(h:jf t x=.inr e):e=8\/e=10:=by
 unfold jf at h;split at h
 ·split at h
  ·injection h with h;omega
  ·split at h
   ·injection h with h;omega
   ·cases h
 ·split at h
  ·injection h with h;omega
  ·split at h
   ·injection h with h;omega
   ·cases h
theorem Jj:∀{P:List St} {t:V} {e:Int},je t P=.inr e->e≠0
 | [],t,e,h=>by
  have h':(Sum.inl t:V⊕Int)=.inr e:=h;cases h'
 | x :: P,t,e,h=>by
  rw [paths.jU] at h;cases hp:jf t x with
  | inl u=>
   rw [hp] at h;exact Jj (P:=P) h
  | inr e'=>
   rw [hp] at h;have h':(Sum.inr e':V⊕Int)=.inr e:=h;injection h' with h';have:=jal hp;omega
theorem Ja {G:V->Int×V}{t:V}{x:St}{P:List St}{e:Int}(h:jf t x=.inr e):jj G t (x :: P)=(e,t):=by
 unfold jj;rw [paths.jU,h];rfl
theorem qU {G:V->Int×V}{t u:V}{x:St}{P:List St}(h:jf t x=.inl u):(jj G t (x :: P)).1=(jj G u P).1/\((jj G u P).1=0->(jj G t (x :: P)).2=zl t x (jj G u P).2):=by
 have hl:je t (x :: P)=je u P:=by rw [paths.jU,h];rfl
 unfold jj;rw [hl];cases hz:je u P with
 | inl z=>
  refine⟨rfl,fun _=>?_⟩
  show j6 t (x :: P) (G z).2=zl t x (j6 u P (G z).2)
  show(match jf t x with | .inl y=>zl t x (j6 y P (G z).2) | .inr _=>t)=_
  rw [h]
 | inr e=>exact⟨rfl,fun h0=>absurd h0 (Jj hz)⟩
theorem XY {x x':St}{P:List St}:ju (x :: x' :: P)=ju (x' :: P):=by unfold ju;rw [List.getLast?_cons_cons]
theorem zX {x x':St}{P:List St}:(x :: x' :: P).dropLast=x :: (x' :: P).dropLast:=rfl
theorem jbo {kind:Int}{y:V}{key:List UInt8}{t:V}{x:St}(hk:kind=2\/kind=3\/kind=4):chM kind [x] y key t=jaG kind y key t x:=by
 have hlead:je t [x]=jf t x:=by
  rw [paths.jU];cases jf t x<;>rfl
 have hch:∀G,jj G t []=G t:=fun G=>rfl
 unfold chM jaG
 rcases hk with rfl | rfl | rfl
 ·rfl
 ·rw [if_neg (by decide),if_neg (by decide),if_pos rfl,if_neg (by decide)]
  unfold Jg;rw [hlead];cases jf t x with
  | inl u=>exact hch _
  | inr e=>rfl
 ·rw [if_neg (by decide),if_neg (by decide),if_neg (by decide),if_neg (by decide)]
  unfold zV;rw [hlead];cases jf t x with
  | inl u=>exact hch _
  | inr e=>rfl
theorem jbv {kind:Int}{y:V}{key:List UInt8}{t:V}{x:St}{P:List St}{e:Int}(hP:kind=1\/P≠[])(h:jf t x=.inr e):chM kind (x :: P) y key t=(e,t):=by
 have hlead:je t (x :: P)=.inr e:=by rw [paths.jU,h];rfl
 unfold chM Jg zV;rw [hlead]
 rcases hP with rfl | hP
 ·exact Ja h
 ·obtain⟨x',P',rfl⟩:∃x' P',P=x' :: P':=by cases P with | nil=>exact absurd rfl hP | cons a b=>exact⟨a,b,rfl⟩
  split
  ·exact Ja h
  ·split
   ·rw [zX]
    exact Ja h
   ·split<;>rfl
theorem jbb {kind:Int}{y:V}{key:List UInt8}{t u:V}{x:St}{P:List St}(hP:kind=1\/P≠[])(h:jf t x=.inl u):(chM kind (x :: P) y key t).1=(chM kind P y key u).1/\((chM kind P y key u).1=0->(chM kind (x :: P) y key t).2=zl t x (chM kind P y key u).2):=by
 have hlead:je t (x :: P)=je u P:=by rw [paths.jU,h];rfl
 unfold chM Jg zV;rw [hlead]
 by_cases k1:kind=1
 ·rw [if_pos k1,if_pos k1]
  exact qU h
 ·obtain⟨x',P',rfl⟩:∃x' P',P=x' :: P':=by cases P with | nil=>exact absurd rfl (hP.resolve_left k1) | cons a b=>exact⟨a,b,rfl⟩
  rw [if_neg k1,if_neg k1,XY,zX]
  by_cases k2:kind=2
  ·rw [if_pos k2,if_pos k2]
   exact qU h
  ·rw [if_neg k2,if_neg k2]
   by_cases k3:kind=3
   ·rw [if_pos k3,if_pos k3]
    cases hz:je u (x' :: P') with
    | inl z=>exact qU h
    | inr e=>exact⟨rfl,fun h0=>absurd h0 (Jj hz)⟩
   ·rw [if_neg k3,if_neg k3]
    cases hz:je u (x' :: P') with
    | inl z=>exact qU h
    | inr e=>exact⟨rfl,fun h0=>absurd h0 (Jj hz)⟩
theorem jbr {f:Nat}{t u:V}{x:St}(ht:IsV f t)(hx : -1<=x.2)(h:jf t x=.inl u):u∈parts t:=by
 cases f with
 | zero=>exact ht.elim
 | succ f=>
  rcases qX ht h with ⟨_,j,h1,h2⟩ | ⟨h1,h2⟩
  ·obtain⟨lab,L,E,rfl,_,_,hE⟩:=ht
   rw [jQ] at h1;rw [jB];exact List.mem_append_right _ (List.mem_map.2 ⟨_,List.mem_of_getElem? h1,by rw [jv]⟩)
  ·obtain⟨lab,L,E,rfl,_,_,hE⟩:=ht
   have:=(h2 (by omega)).1;rw [jQ] at this;rw [jB];exact List.mem_append_left _ (List.mem_of_getElem? this)
theorem Xc {kind:Int}{y:V}{key:List UInt8}(hk:1<=kind/\kind<=4):∀(P:List St) (f:Nat) (t:V),IsV f t->jh jr t=0->(∀x∈P,-1<=x.2)->(kind≠1->P≠[])->(Xs kind y key t P).1=(chM kind P y key t).1/\((chM kind P y key t).1=0->(Xs kind y key t P).2=(chM kind P y key t).2)
 | [],f,t,ht,hg,hx,hP=>by
  have k1:kind=1:=Classical.byContradiction fun h=>hP h rfl
  unfold chM;rw [if_pos k1];exact⟨rfl,fun _=>rfl⟩
 | x :: P,f,t,ht,hg,hx,hP=>by
  show(if kind=1\/P≠[] then _ else _:Int×V).1=_/\(_->(if kind=1\/P≠[] then _ else _:Int×V).2=_)
  by_cases hc:kind=1\/P≠[]
  ·rw [if_pos hc]
   cases hp:jf t x with
   | inr e=>
    rw [jbv hc hp];exact⟨rfl,fun _=>rfl⟩
   | inl u=>
    have hu:=jbr ht (hx x (by simp)) hp;cases f with
    | zero=>exact ht.elim
    | succ f=>
     obtain⟨i1,i2⟩:=Xc hk P f u (ht.part hu) (jar hg hu) (fun x hx'=>hx x (by simp [hx'])) (fun h=>hc.resolve_left h);obtain⟨j1,j2⟩:=jbb (y:=y) (key:=key) hc hp;rw [j1]
     dsimp only
     by_cases h0:(Xs kind y key u P).1=0
     ·rw [if_neg (by simpa using h0)]
      have h0':(chM kind P y key u).1=0:=by rw [<-i1];exact h0
      exact⟨h0'.symm,fun _=>by rw [j2 h0',i2 h0'];exact jaj ht hg hp⟩
     ·rw [if_pos h0]
      exact⟨i1,fun h=>absurd (i1.trans h) h0⟩
  ·rw [if_neg hc]
   have hP0:P=[]:=Classical.byContradiction fun h=>hc (.inr h)
   subst hP0;rw [jbo (by omega)];exact⟨rfl,fun _=>rfl⟩
end upds
set_option linter.unusedSimpArgs false
namespace upds
open Go.RowKit Go.Shelf
open valus
open paths (St LiesP jf je jq)
theorem results_updated {w:World}{B:Nat}{u0 u1 u2 u3 u4 u5 y:Value}(tmps:Array Value)(h:Blk w B #[u0,u1,u2,u3,u4,u5] 26)(ht:tmps[6]?=some (.pointer (some ⟨B,0,none⟩)):=by rfl)(hy:tmps[7]?=some y:=by rfl):(results Tryd.f42 tmps).run Tryd.prog w=.ok (.tuple #[.agg #[u0,u1,u2,u3,u4,u5],y]) w:=by
 obtain⟨c0,c1,c2,c3,c4,c5⟩:=h.cells6;simp [results,Tryd.f42,ht,hy,go_sem,c0,c1,c2,c3,c4,c5]
def jbz (ok:Nat->Prop)(r:Int×V)(w:World)(e:Ending)(w':World):Prop:=Below w.heap.size w w'/\∃(k n:Int) (b:Nat) (s:ByteArray) (pL:Option Addr) (nL cL:Nat) (pE:Option Addr) (nE cE:Nat),e=.returned (.tuple #[.agg #[.int .i64 k,.int .i64 n,.int .u64 (b:Int),.string s,.slice pL nL cL,.slice pE nE cE],.int .i64 r.1])/\∃f,LiesV (fun q=>(ok q\/w.heap.size<=q)/\q<w'.heap.size) f w' [.int .i64 k,.int .i64 n,.int .u64 (b:Int),.string s,.slice pL nL cL,.slice pE nE cE] r.2
theorem jbz.mk {ok:Nat->Prop}{r:Int×V}{w w':World}{f:Nat}{k n:Int}{b:Nat}{s:ByteArray}{pL:Option Addr}{nL cL:Nat}{pE:Option Addr}{nE cE:Nat}(hb:Below w.heap.size w w')(hl:LiesV (fun q=>(ok q\/w.heap.size<=q)/\q<w'.heap.size) f w' [.int .i64 k,.int .i64 n,.int .u64 (b:Int),.string s,.slice pL nL cL,.slice pE nE cE] r.2):jbz ok r w (.returned (.tuple #[.agg #[.int .i64 k,.int .i64 n,.int .u64 (b:Int),.string s,.slice pL nL cL,.slice pE nE cE],.int .i64 r.1])) w':=⟨hb,_,_,_,_,_,_,_,_,_,_,rfl,f,hl⟩
abbrev At (ok:Nat->Prop) (N:Nat) (w:World) (q:Nat):Prop:=(ok q\/N<=q)/\q<w.heap.size
theorem Qi {ok:Nat->Prop}{N f:Nat}{w0 w:World}{us:List Value}{t:V}(h:LiesV ok f w0 us t)(hok:∀q,ok q->q<w0.heap.size)(hb:Below w0.heap.size w0 w):LiesV (At ok N w) f w us t:=h.kept (fun q h=>⟨.inl h,Nat.lt_of_lt_of_le (hok q h) hb.size⟩) hb.size (fun q _ hq=>hb.block q hq)
theorem Jo {ok:Nat->Prop}{N M f:Nat}{w w':World}{us:List Value}{t:V}(h:LiesV (At ok N w) f w us t)(hM:M<=N)(hb:Below w.heap.size w w'):LiesV (At ok M w') f w' us t:=h.kept (fun q h=>⟨h.1.imp id (Nat.le_trans hM),Nat.lt_of_lt_of_le h.2 hb.size⟩) hb.size (fun q _ hq=>hb.block q hq)
theorem JY {ok:Nat->Prop}{N B f:Nat}{w:World}{us:List Value}{t:V}(h:LiesV (At ok N w) f w us t)(hB:¬ok B)(hN:B<N)(v0 v1 v2 v3 v4 v5:Value):LiesV (At ok N (jp w B v0 v1 v2 v3 v4 v5)) f (jp w B v0 v1 v2 v3 v4 v5) us t:=by
 refine h.kept (fun q h=>⟨h.1,by rw [qq];exact h.2⟩) (by rw [qq];exact Nat.le_refl _) (fun q hq _=>?_)
 have hne:q≠B:=by
  rintro rfl
  rcases hq.1 with h | h
  ·exact hB h
  ·omega
 simp only [jp];rw [Below.heap_setCell _ _ _ _ hne,Below.heap_setCell _ _ _ _ hne,Below.heap_setCell _ _ _ _ hne,Below.heap_setCell _ _ _ _ hne,Below.heap_setCell _ _ _ _ hne,Below.heap_setCell _ _ _ _ hne]
theorem lies_past1 {ok:Nat->Prop}{N B j f:Nat}{w:World}{us:List Value}{t:V}(h:LiesV (At ok N w) f w us t)(hB:¬ok B)(hN:B<N)(v:Value):LiesV (At ok N (w.setCell ⟨B,j,none⟩ v)) f (w.setCell ⟨B,j,none⟩ v) us t:=by
 have hs:(w.setCell ⟨B,j,none⟩ v).heap.size=w.heap.size:=by simp [World.setCell]
 refine h.kept (fun q h=>⟨h.1,by rw [hs];exact h.2⟩) (by rw [hs];exact Nat.le_refl _) (fun q hq _=>?_)
 have hne:q≠B:=by
  rintro rfl
  rcases hq.1 with h | h
  ·exact hB h
  ·omega
 rw [Below.heap_setCell _ _ _ _ hne]
theorem lies_setE {okA:Nat->Prop}{w:World}{f g:Nat}{k n:Int}{b:Nat}{s:ByteArray}{pL:Option Addr}{nL cL:Nat}{pE:Option Addr}{nE cE:Nat}{t:V}(h:LiesV okA (f+1) w [.int .i64 k,.int .i64 n,.int .u64 (b:Int),.string s,.slice pL nL cL,.slice pE nE cE] t){E':List V}{p':Option Addr}{c':Nat}(hr:JO okA g w p' E')(h1:E'.length<=c')(h2:c'<=maxLen) :
  LiesV okA (max f g+1) w [.int .i64 k,.int .i64 n,.int .u64 (b:Int),.string s,.slice pL nL cL,.slice p' E'.length c'] (mkV (opn t).1 (opn t).2.1 E'):=by
 obtain⟨k',n',b',s',L,E,pL',pE',cL',cE',rfl,hx,h3,⟨a1,a2,a3,a4⟩,rL,rE⟩:=h;simp only [List.cons.injEq,and_true,Value.int.injEq,Value.string.injEq,Value.slice.injEq,true_and] at hx;obtain⟨rfl,rfl,hbb,rfl,⟨rfl,rfl,rfl⟩,rfl,rfl,rfl⟩:=hx;obtain rfl:b=b':=by omega
 rw [jQ];refine⟨k,n,b,s,L,E',pL,p',cL,c',rfl,rfl,h3,⟨a1,a2,h1,h2⟩,?_,?_⟩
 ·intro hn
  obtain⟨B,o,e1,e2,e3,e4⟩:=rL hn
  exact⟨B,o,e1,e2,e3,fun j hj=>by
   obtain⟨us,u1,u2,y,u3,u4⟩:=e4 j hj;exact⟨us,u1,u2,y,u3,u4.to (Nat.le_max_left _ _)⟩⟩
 ·intro hn
  obtain⟨B,o,e1,e2,e3,e4⟩:=hr hn
  exact⟨B,o,e1,e2,e3,fun j hj=>by
   obtain⟨us,u1,u2,key,y,xs,u3,u4,u5,u6⟩:=e4 j hj;exact⟨us,u1,u2,key,y,xs,u3,u4,u5,u6.to (Nat.le_max_right _ _)⟩⟩
theorem lies_setL {okA:Nat->Prop}{w:World}{f g:Nat}{k n:Int}{b:Nat}{s:ByteArray}{pL:Option Addr}{nL cL:Nat}{pE:Option Addr}{nE cE:Nat}{t:V}(h:LiesV okA (f+1) w [.int .i64 k,.int .i64 n,.int .u64 (b:Int),.string s,.slice pL nL cL,.slice pE nE cE] t){L':List V}{p':Option Addr}{c':Nat}(hr:RowL okA g w p' L')(h1:L'.length<=c')(h2:c'<=maxLen) :
  LiesV okA (max f g+1) w [.int .i64 k,.int .i64 n,.int .u64 (b:Int),.string s,.slice p' L'.length c',.slice pE nE cE] (mkV (opn t).1 L' (opn t).2.2):=by
 obtain⟨k',n',b',s',L,E,pL',pE',cL',cE',rfl,hx,h3,⟨a1,a2,a3,a4⟩,rL,rE⟩:=h;simp only [List.cons.injEq,and_true,Value.int.injEq,Value.string.injEq,Value.slice.injEq,true_and] at hx;obtain⟨rfl,rfl,hbb,rfl,⟨rfl,rfl,rfl⟩,rfl,rfl,rfl⟩:=hx;obtain rfl:b=b':=by omega
 rw [jQ];refine⟨k,n,b,s,L',E,p',pE,c',cE,rfl,rfl,h3,⟨h1,h2,a3,a4⟩,?_,?_⟩
 ·intro hn
  obtain⟨B,o,e1,e2,e3,e4⟩:=hr hn
  exact⟨B,o,e1,e2,e3,fun j hj=>by
   obtain⟨us,u1,u2,y,u3,u4⟩:=e4 j hj;exact⟨us,u1,u2,y,u3,u4.to (Nat.le_max_right _ _)⟩⟩
 ·intro hn
  obtain⟨B,o,e1,e2,e3,e4⟩:=rE hn
  exact⟨B,o,e1,e2,e3,fun j hj=>by
   obtain⟨us,u1,u2,key,y,xs,u3,u4,u5,u6⟩:=e4 j hj;exact⟨us,u1,u2,key,y,xs,u3,u4,u5,u6.to (Nat.le_max_left _ _)⟩⟩
abbrev qv:Array Value:=#[.int .i64 0,.int .i64 0,.int .u64 0,.string ⟨#[]⟩,.slice none 0 0,.slice none 0 0]
def Zk (w:World)(VA OP RA:Array Value):World:=((w.alloc (.cells VA 26)).alloc (.cells OP 45)).alloc (.cells RA 26)
structure Three (w W:World) (VA OP RA:Array Value):Prop where
 a:Blk W w.heap.size VA 26
 o:Blk W (w.heap.size+1) OP 45
 r:Blk W (w.heap.size+2) RA 26
 b:Below w.heap.size w W
 s:w.heap.size+3<=W.heap.size
theorem QQ (w:World)(VA OP RA:Array Value):Three w (Zk w VA OP RA) VA OP RA:=by
 have bA:Below w.heap.size w (w.alloc (.cells VA 26)):=(Below.refl _ w).alloc (Nat.le_refl _) _;have bB:Below w.heap.size w ((w.alloc (.cells VA 26)).alloc (.cells OP 45)):=bA.alloc bA.size _;refine⟨((jb w VA 26).alloc _).alloc _,?_,?_,bB.alloc bB.size _,by unfold Zk;simp⟩
 ·have h:=jb (w.alloc (.cells VA 26)) OP 45
  rw [World.size_alloc] at h;exact h.alloc _
 ·have h:=jb ((w.alloc (.cells VA 26)).alloc (.cells OP 45)) RA 26
  rw [World.size_alloc,World.size_alloc] at h;exact h
theorem Three.below {w W W':World}{VA OP RA:Array Value}(h:Three w W VA OP RA)(hb:Below W.heap.size W W'):Three w W' VA OP RA :=
 ⟨h.a.below hb,h.o.below hb,h.r.below hb,h.b.trans (hb.mono h.b.size),Nat.le_trans h.s hb.size⟩
structure Four (w W:World) (VA OP:Array Value) (key:ByteArray) (i:Int):Prop where
 h:Three w W VA OP qv
 c:Blk W (w.heap.size+3) #[.string key,.int .i64 i] 60
 s:w.heap.size+4<=W.heap.size
theorem four_base (w:World)(VA OP:Array Value)(key:ByteArray)(i:Int):Four w ((Zk w VA OP qv).alloc (.cells #[.string key,.int .i64 i] 60)) VA OP key i:=by
 have h3:=QQ w VA OP qv;have hs:(Zk w VA OP qv).heap.size=w.heap.size+3:=by unfold Zk;simp
 refine⟨h3.below ((Below.refl _ _).alloc (Nat.le_refl _) _),?_,by rw [World.size_alloc,hs];exact Nat.le_refl _⟩;have h:=jb (Zk w VA OP qv) #[.string key,.int .i64 i] 60;rw [hs] at h;exact h
theorem Four.below {w W W':World}{VA OP:Array Value}{key:ByteArray}{i:Int}(h:Four w W VA OP key i)(hb:Below W.heap.size W W'):Four w W' VA OP key i :=
 ⟨h.h.below hb,h.c.below hb,Nat.le_trans h.s hb.size⟩
theorem upd_nil (f:Nat)(w:World)(t:V)(k n:Int)(b:Nat)(s:ByteArray)(pL:Option Addr)(nL cL:Nat)(pE:Option Addr)(nE cE:Nat)(p:Option Addr)(c:Nat)(kind:Int)(po:Option Addr)(no co:Nat)(g:Nat)(y:V)(vk vn:Int)(vb:Nat)(vs:ByteArray)(vpL:Option Addr)(vnL vcL:Nat)(vpE:Option Addr)(vnE vcE:Nat)(key:ByteArray)
  (ok:Nat->Prop) (hok:∀q,ok q->q<w.heap.size) (hy:LiesV ok g w [.int .i64 vk,.int .i64 vn,.int .u64 (vb:Int),.string vs,.slice vpL vnL vcL,.slice vpE vnE vcE] y) :
  Calls Tryd.prog 42 #[.agg #[.int .i64 k,.int .i64 n,.int .u64 (b:Int),.string s,.slice pL nL cL,.slice pE nE cE],.slice p 0 c,.agg #[.int .i64 kind,.slice po no co,.int .i64 vk,.int .i64 vn,.int .u64 (vb:Int),.string vs,.slice vpL vnL vcL,.slice vpE vnE vcE,.string key]] w (jbz ok (Xs kind y key.data.toList t []) w):=by
 obtain⟨W0,hW0⟩:∃W0,W0=Zk w #[.int .i64 k,.int .i64 n,.int .u64 (b:Int),.string s,.slice pL nL cL,.slice pE nE cE] #[.int .i64 kind,.slice po no co,.int .i64 vk,.int .i64 vn,.int .u64 (vb:Int),.string vs,.slice vpL vnL vcL,.slice vpE vnE vcE,.string key] qv:=⟨_,rfl⟩
 have h3:=QQ w #[.int .i64 k,.int .i64 n,.int .u64 (b:Int),.string s,.slice pL nL cL,.slice pE nE cE] #[.int .i64 kind,.slice po no co,.int .i64 vk,.int .i64 vn,.int .u64 (vb:Int),.string vs,.slice vpL vnL vcL,.slice vpE vnE vcE,.string key] qv;rw [<-hW0] at h3;obtain⟨W9,hW9⟩:∃W9,W9=Zk w #[.int .i64 k,.int .i64 n,.int .u64 (b:Int),.string s,.slice pL nL cL,.slice pE nE cE] #[.int .i64 kind,.slice po no co,.int .i64 vk,.int .i64 vn,.int .u64 (vb:Int),.string vs,.slice vpL vnL vcL,.slice vpE vnE vcE,.string key] #[.int .i64 vk,.int .i64 vn,.int .u64 (vb:Int),.string vs,.slice vpL vnL vcL,.slice vpE vnE vcE]:=⟨_,rfl⟩
 have h9:=QQ w #[.int .i64 k,.int .i64 n,.int .u64 (b:Int),.string s,.slice pL nL cL,.slice pE nE cE] #[.int .i64 kind,.slice po no co,.int .i64 vk,.int .i64 vn,.int .u64 (vb:Int),.string vs,.slice vpL vnL vcL,.slice vpE vnE vcE,.string key] #[.int .i64 vk,.int .i64 vn,.int .u64 (vb:Int),.string vs,.slice vpL vnL vcL,.slice vpE vnE vcE];rw [<-hW9] at h9;have o2:=h3.o.cell 2 _ rfl;have o3:=h3.o.cell 3 _ rfl;have o4:=h3.o.cell 4 _ rfl;have o5:=h3.o.cell 5 _ rfl;have o6:=h3.o.cell 6 _ rfl;have o7:=h3.o.cell 7 _ rfl;have H9:=ja h9;have HV:=ja (Qi (N:=w.heap.size) hy hok h9.b);unfold Zk qv at hW0;unfold Zk at hW9;rw [hW0] at o2 o3 o4 o5 o6 o7;clear h3 h9 hy hW0
 go_enter Tryd.func42,Tryd.ntmps42
 go_wp2_with fail
 rw [<-hW9];refine bodyPost_ret (results_updated _ H9.out.r) rfl ?_
 exact jbz.mk (r:=(0,y)) H9.out.b HV.out
open Go.RowKit Go.Shelf
open valus
theorem jbD {OK:Nat->Prop}{f:Nat}{W:World}{p:Option Addr}{F:List V}(h:RowL OK f W p F)(c:Nat)(hok:∀b,OK b->b<W.heap.size)(hn:F.length<=10000000)(ty:TypeId) :
  ∃v' W',(Builtin.append_ #[23,23] ty #[.slice none 0 0,.slice p F.length c]).run Tryd.prog W=.ok v' W'/\OwnL OK W.heap.size f W' v' F/\Below W.heap.size W W':=by
 obtain⟨r,hr,hsrc⟩:∃r,RowsL OK f W F r/\(F.length≠0->∃b q,p=some ⟨b,q,none⟩/\∀i u,r.flatten[i]?=some u->W.cell? ⟨b,q+i,none⟩=some u):=by
  by_cases h0:F.length=0
  ·obtain rfl:F=[]:=List.eq_nil_of_length_eq_zero h0
   exact⟨[],⟨rfl,fun i us hi=>by simp at hi⟩,fun hn=>by simp at hn⟩
  ·obtain⟨b,q,r,hp,_,_,hr,hcell⟩:=rowsL_of h h0
   exact⟨r,hr,fun _=>⟨b,q,hp,hcell⟩⟩
 obtain⟨v',W',e1,e2,e3,e4⟩:=appendL_from (cs:=c) ty (OwnL.nil OK W.heap.size f W) hr hok (Nat.le_refl _) hsrc (by rw [List.length_nil];omega);exact⟨v',W',e1,by simpa using e2,⟨e3.os,e3.tape,e3.output,e3.size,fun k hk=>e3.block k hk (by simp [Value.ownBlock])⟩⟩
theorem nilL (ps:Option Addr)(c:Nat)(X:World)(ty:TypeId):(Builtin.append_ #[23,23] ty #[.slice none 0 0,.slice ps 0 c]).run Tryd.prog X=.ok (.slice none 0 0) X:=by
 obtain⟨i0,hi,hz0,hz1,hz2⟩:=info_parts infoValU;cases ps<;>simp [Builtin.append_,run_underlying Tryd.underlying23,sizeOf,typeInfo,hi,Builtin.lenOf,Builtin.firstCells,loadCells,loadCellsFrom]
theorem zeroL {ok:Nat->Prop}{n0 f:Nat}{X:World}{v:Value}{F:List V}(h:OwnL ok n0 f X v F)(ps:Option Addr)(c:Nat)(ty:TypeId):(Builtin.append_ #[23,23] ty #[v,.slice ps 0 c]).run Tryd.prog X=.ok v X:=by
 obtain⟨i0,hi,hz0,hz1,hz2⟩:=info_parts infoValU;obtain⟨rows,how,_⟩:=h
 rcases how.2 with ⟨rfl,e0⟩ | ⟨g,cap,cur,rfl,_,hg,k1,k2,k3,k4⟩
 ·exact nilL ps c X ty
 ·cases ps<;>simp [Builtin.append_,run_underlying Tryd.underlying23,sizeOf,typeInfo,hi,Builtin.lenOf,Builtin.firstCells,k1,storeCells,loadCells,loadCellsFrom]
theorem takeL {OK:Nat->Prop}{f:Nat}{W:World}{p ps:Option Addr}{F:List V}(h:RowL OK f W p F){j:Nat}(hj:j<=F.length)(c:Nat)(hps:j≠0->ps=p)(hok:∀b,OK b->b<W.heap.size)(hn:F.length<=10000000)(ty:TypeId) :
  ∃v' W',(Builtin.append_ #[23,23] ty #[.slice none 0 0,.slice ps j c]).run Tryd.prog W=.ok v' W'/\OwnL OK W.heap.size f W' v' (F.take j)/\Below W.heap.size W W':=by
 have hlj:(F.take j).length=j:=by rw [List.length_take,Nat.min_eq_left hj]
 obtain⟨r,hr,hsrc⟩:∃r,RowsL OK f W (F.take j) r/\((F.take j).length≠0->∃b q,ps=some ⟨b,q,none⟩/\∀i u,r.flatten[i]?=some u->W.cell? ⟨b,q+i,none⟩=some u):=by
  by_cases h0:j=0
  ·subst h0
   exact⟨[],⟨rfl,fun i us hi=>by simp at hi⟩,fun hn=>by simp at hn⟩
  ·obtain⟨b,q,r,hp,_,_,hr,hcell⟩:=rowsL_of h (by omega)
   exact⟨r.take j,hr.take j,fun _=>⟨b,q,by rw [hps h0];exact hp,fun i u hi=>hcell i u ((hr.cut j hj).1 i u hi)⟩⟩
 obtain⟨v',W',e1,e2,e3,e4⟩:=appendL_from (cs:=c) ty (OwnL.nil OK W.heap.size f W) hr hok (Nat.le_refl _) hsrc (by rw [List.length_nil,hlj];omega);rw [hlj] at e1;exact⟨v',W',e1,by simpa using e2,⟨e3.os,e3.tape,e3.output,e3.size,fun k hk=>e3.block k hk (by simp [Value.ownBlock])⟩⟩
theorem restL {OK:Nat->Prop}{f:Nat}{W X:World}{p ps:Option Addr}{v:Value}{F G:List V}(h:RowL OK f W p F){j:Nat}(hj:j<=F.length)(c:Nat)(hps:j<F.length->∃b q,p=some ⟨b,q,none⟩/\ps=some ⟨b,q+j*6,none⟩)(hok:∀b,OK b->b<W.heap.size)(hX:Below W.heap.size W X)(hO:OwnL OK W.heap.size f X v G)(hn:G.length+F.length<=10000000)(ty:TypeId) :
  ∃v' X',(Builtin.append_ #[23,23] ty #[v,.slice ps (F.length - j) c]).run Tryd.prog X=.ok v' X'/\OwnL OK W.heap.size f X' v' (G++F.drop j)/\Below W.heap.size W X':=by
 have hlj:(F.drop j).length=F.length - j:=List.length_drop
 obtain⟨r,hr,hsrc⟩:∃r,RowsL OK f X (F.drop j) r/\((F.drop j).length≠0->∃b q,ps=some ⟨b,q,none⟩/\∀i u,r.flatten[i]?=some u->X.cell? ⟨b,q+i,none⟩=some u):=by
  by_cases h0:j=F.length
  ·subst h0
   rw [List.drop_length];exact⟨[],⟨rfl,fun i us hi=>by simp at hi⟩,fun hn=>by simp at hn⟩
  ·obtain⟨b,q,r,hp,hb,hbl,hr,hcell⟩:=rowsL_of h (by omega)
   obtain⟨b',q',e1,e2⟩:=hps (by omega);rw [hp] at e1;injection e1 with e1;injection e1 with e1 e1';subst e1 e1';exact⟨r.drop j,(hr.drop j).kept (fun _ h=>h) hX.size (fun b hb _=>hX.block b (hok b hb)),fun _=>⟨b,q+j*6,e2,fun i u hi=>(hX.cell (p:=⟨b,q+j*6+i,none⟩) hbl).trans (by rw [Nat.add_assoc];exact hcell _ u ((hr.cut j hj).2 i u hi))⟩⟩
 obtain⟨v',X',e1,e2,e3,e4⟩:=appendL_from (cs:=c) ty hO hr hok hX.size hsrc (by rw [hlj];omega);rw [hlj] at e1;exact⟨v',X',e1,e2,hX.grown e3 hX.size e4⟩
theorem oneL {OK:Nat->Prop}{f:Nat}{W X:World}{v:Value}{G:List V}(hok:∀b,OK b->b<W.heap.size)(hX:Below W.heap.size W X)(hO:OwnL OK W.heap.size f X v G){g:Nat}{x0 x1 x2 x3 x4 x5:Value}{y:V}(hB:Blk X g #[x0,x1,x2,x3,x4,x5] 26)(hy:LiesV OK f X [x0,x1,x2,x3,x4,x5] y)(hn:G.length+1<=10000000)(ty:TypeId) :
  ∃v' X',(Builtin.append_ #[23,23] ty #[v,.slice (some ⟨g,0,none⟩) 1 1]).run Tryd.prog X=.ok v' X'/\OwnL OK W.heap.size f X' v' (G++[y])/\Below W.heap.size W X':=by
 obtain⟨v',X',e1,e2,e3,e4⟩:=appendL_from (cs:=1) (G:=[y]) (r:=[[x0,x1,x2,x3,x4,x5]]) (ps:=some ⟨g,0,none⟩) ty hO ⟨rfl,fun i us hi=>by
  cases i with
  | zero=>
   simp only [List.getElem?_cons_zero,Option.some.injEq] at hi;subst hi;exact⟨y,rfl,hy⟩
  | succ i=>simp at hi⟩ hok hX.size (fun _=>⟨g,0,rfl,fun i u hi=>by
   rw [Nat.zero_add];exact hB.cell i u (by simpa using hi)⟩) (by simpa using hn)
 exact⟨v',X',e1,e2,hX.grown e3 hX.size e4⟩
theorem put6o_at {cur:Array Value}{o:Nat}{u0 u1 u2 u3 u4 u5:Value}(h:o+5<cur.size)(i:Nat):(((((((cur.setIfInBounds o u0).setIfInBounds (o+1) u1).setIfInBounds (o+2) u2).setIfInBounds (o+3) u3).setIfInBounds (o+4) u4).setIfInBounds (o+5) u5)[i]?=if o<=i/\i<o+6 then [u0,u1,u2,u3,u4,u5][i - o]? else cur[i]?):=by
 simp only [Array.getElem?_setIfInBounds,Array.size_setIfInBounds]
 by_cases hi:o<=i/\i<o+6
 ·rw [if_pos hi]
  obtain⟨d,rfl⟩:∃d,i=o+d:=⟨i - o,by omega⟩
  have hd:d<6:=by omega
  rw [show o+d - o=d by omega]
  match d,hd with
  | 0,_=>simp;omega
  | 1,_=>simp;omega
  | 2,_=>simp;omega
  | 3,_=>simp;omega
  | 4,_=>simp;omega
  | 5,_=>simp;omega
 ·rw [if_neg hi,if_neg (by omega),if_neg (by omega),if_neg (by omega),if_neg (by omega),if_neg (by omega),if_neg (by omega)]
theorem flat_len6 {R:List (List Value)}(hu:∀(i:Nat) (us:List Value),R[i]?=some us->us.length=6):R.flatten.length=R.length*6:=by
 rw [List.length_flatten]
 have:R.map List.length=List.replicate R.length 6:=by
  refine List.ext_getElem? fun k=>?_
  rw [List.getElem?_map,List.getElem?_replicate];split
  ·rename_i hk
   rw [List.getElem?_eq_getElem hk];have:=hu k _ (List.getElem?_eq_getElem hk);simp [this]
  ·rename_i hk
   rw [List.getElem?_eq_none (by omega)];rfl
 rw [this];simp
theorem set_rows {α β:Type}{Q:α->β->Prop}{rows:List α}{F:List β}(h:rows.length=F.length)(hr:∀(i:Nat) (u:α),rows[i]?=some u->∃z,F[i]?=some z/\Q u z){j:Nat}(hj:j<F.length){u0:α}{y0:β}(h0:Q u0 y0)(i:Nat)(u:α)(hi:(rows.set j u0)[i]?=some u):∃z,(F.set j y0)[i]?=some z/\Q u z:=by
 by_cases hji:j=i
 ·subst hji
  rw [List.getElem?_set_self (by omega)] at hi;rw [List.getElem?_set_self hj];obtain rfl:=Option.some.inj hi;exact⟨y0,rfl,h0⟩
 ·rw [List.getElem?_set_ne hji] at hi
  rw [List.getElem?_set_ne hji];exact hr i u hi
theorem set_len6 {us:List Value}(hus:us.length=6){rows:List (List Value)}{j:Nat}(hlen:∀(i:Nat) (us:List Value),rows[i]?=some us->us.length=6)(hjr:j<rows.length):∀(i:Nat) (vs:List Value),(rows.set j us)[i]?=some vs->vs.length=6:=fun i vs hi=>by
 by_cases hji:j=i
 ·subst hji
  rw [List.getElem?_set_self hjr] at hi;obtain rfl:=Option.some.inj hi;exact hus
 ·rw [List.getElem?_set_ne hji] at hi
  exact hlen i vs hi
theorem flat_set6 {us:List Value}(hus:us.length=6){rows:List (List Value)}{j:Nat}(hlen:∀(i:Nat) (us:List Value),rows[i]?=some us->us.length=6)(hjr:j<rows.length)(i:Nat):(rows.set j us).flatten[i]?=if j*6<=i/\i<j*6+6 then us[i - j*6]? else rows.flatten[i]?:=by
 have hlen':=set_len6 hus hlen hjr
 rcases Nat.lt_or_ge (i / 6) rows.length with hlt | hge
 ·have hlt':i / 6<(rows.set j us).length:=by rw [List.length_set];exact hlt
  have e1:=flatten_at (r:=i % 6) hlen' (List.getElem?_eq_getElem hlt') (by omega);have e2:=flatten_at (r:=i % 6) hlen (List.getElem?_eq_getElem hlt) (by omega);rw [show i / 6*6+i % 6=i by omega] at e1 e2;rw [e1,e2,List.getElem_set]
  by_cases hij:j=i / 6
  ·rw [if_pos hij,if_pos (by omega),show i - j*6=i % 6 by omega]
  ·rw [if_neg hij,if_neg (by omega)]
 ·rw [List.getElem?_eq_none (by rw [flat_len6 hlen',List.length_set];omega),if_neg (by omega),List.getElem?_eq_none (by rw [flat_len6 hlen];omega)]
/-- One of a row that is being made is set. -/
theorem OwnL.put {ok:Nat->Prop}{n0 f:Nat}{W:World}{v:Value}{F:List V}(h:OwnL ok n0 f W v F){j:Nat}(hj:j<F.length){x0 x1 x2 x3 x4 x5:Value}{y:V}(hy:LiesV (okE ok n0 W v) f W [x0,x1,x2,x3,x4,x5] y) :
  ∃g cap,v=.slice (some ⟨g,0,none⟩) F.length cap/\n0<=g/\g<W.heap.size/\F.length<=cap/\cap<=maxLen/\(∀i,i<6->(∃u,W.cell? ⟨g,j*6+i,none⟩=some u)/\W.frozen? ⟨g,j*6+i,none⟩=false)/\OwnL ok n0 f (Jh W g (j*6) x0 x1 x2 x3 x4 x5) v (F.set j y):=by
 obtain⟨rows,⟨hl,ho⟩,hr⟩:=h;have hlen:∀(i:Nat) (us:List Value),rows[i]?=some us->us.length=6:=fun i us hi=>by obtain⟨y,_,h⟩:=hr.2 i us hi;exact h.len
 rcases ho with ⟨rfl,h0⟩ | ⟨g,cap,cur,rfl,hg0,hg,h1,h2,h3,h4⟩
 ·omega
 ·have hgl:=(Array.getElem?_eq_some_iff.1 hg).1
  have hin:j*6+5<cur.size:=by
   rw [h3];have:(j+1)*6<=cap*6:=Nat.mul_le_mul_right _ (by omega);omega
  have ht:=zp W g (j*6) x0 x1 x2 x3 x4 x5;have hg':=Z7 hg (o:=j*6) x0 x1 x2 x3 x4 x5;have okk:∀b,okE ok n0 W (.slice (some ⟨g,0,none⟩) F.length cap) b->okE ok n0 (Jh W g (j*6) x0 x1 x2 x3 x4 x5) (.slice (some ⟨g,0,none⟩) F.length cap) b:=fun b hb=>⟨Nat.lt_of_lt_of_le hb.1 ht.size,hb.2⟩
  have blk:∀b,okE ok n0 W (.slice (some ⟨g,0,none⟩) F.length cap) b->b<W.heap.size->(Jh W g (j*6) x0 x1 x2 x3 x4 x5).heap[b]?=W.heap[b]?:=fun b hb hlt=>ht.block b hlt (fun e=>hb.2.1 (by rw [e];rfl))
  refine⟨g,cap,rfl,hg0,hgl,h1,h2,fun i hi=>⟨?_,?_⟩,rows.set j [x0,x1,x2,x3,x4,x5],⟨?_,.inr ⟨g,cap,_,?_,hg0,hg',?_,h2,?_,?_⟩⟩,by rw [List.length_set,List.length_set];exact hr.1,fun i us hi=>?_⟩
  ·have:j*6+i<cur.size:=by omega
   exact⟨cur[j*6+i],by simp [World.cell?,hg,this]⟩
  ·simp [World.frozen?,hg]
  ·rw [flat_len6 (set_len6 rfl hlen (show j<rows.length by have:=hr.1;omega)),List.length_set,List.length_set,hr.1]
  ·rw [List.length_set]
  ·rw [List.length_set];exact h1
  ·simp only [Array.size_setIfInBounds];exact h3
  ·rw [List.length_set]
   refine List.ext_getElem? fun i=>?_
   have hfl:=flat_set6 (us:=[x0,x1,x2,x3,x4,x5]) rfl hlen (show j<rows.length by have:=hr.1;omega) i;rw [hfl];have hold:rows.flatten[i]?=(cur.toList.take (F.length*6))[i]?:=by rw [h4]
   rcases Nat.lt_or_ge i (F.length*6) with hlt | hge
   ·rw [List.getElem?_take_of_lt hlt,Array.getElem?_toList,put6o_at hin,hold,List.getElem?_take_of_lt hlt,show cur.toList[i]?=cur[i]? from Array.getElem?_toList]
   ·rw [List.getElem?_eq_none (by rw [List.length_take];omega),if_neg (by omega),hold,List.getElem?_eq_none (by rw [List.length_take];omega)]
  ·exact set_rows (Q:=fun us z=>LiesV (okE ok n0 (Jh W g (j*6) x0 x1 x2 x3 x4 x5) (.slice (some ⟨g,0,none⟩) F.length cap)) f (Jh W g (j*6) x0 x1 x2 x3 x4 x5) us z) hr.1 (fun i us hi=>by obtain⟨z,z1,z2⟩:=hr.2 i us hi;exact⟨z,z1,z2.kept okk ht.size blk⟩) hj (hy.kept okk ht.size blk) i us hi
end upds
end Go.Proofs.YtadaehaemmelfaaDoor
