/- Of our texts, what this claim reaches. -/
import Derived.Test.YtadaehaemmelfaaDoorPubAR
import Derived.Test.YtadaehaemmelfaaDoorPubAO
import Derived.Test.YtadaehaemmelfaaDoorPubAQ
import Derived.WalkLawsBesides
set_option linter.unusedVariables false
set_option maxHeartbeats 4000000
set_option maxRecDepth 100000
namespace Go.Proofs.YtadaehaemmelfaaDoor
namespace valus
open Go.RowKit Go.Shelf
def okE (ok:Nat->Prop)(n0:Nat)(W:World)(v:Value)(b:Nat):Prop:=b<W.heap.size/\some b≠v.ownBlock/\(ok b\/n0<=b)
def OwnE (ok:Nat->Prop)(n0 f:Nat)(W:World)(v:Value)(F:List V):Prop:=∃rows:List (List Value),W.ownsRow n0 57 7 v F.length rows.flatten/\RowsE (okE ok n0 W v) f W F rows
theorem OwnE.nil (ok:Nat->Prop)(n0 f:Nat)(W:World):OwnE ok n0 f W (.slice none 0 0) []:=⟨[],World.ownsRow_nil _ _ _ _,rfl,fun i us h=>by simp at h⟩
theorem OwnE.still {ok:Nat->Prop}{n0 f:Nat}{W W':World}{v:Value}{F:List V}(h:OwnE ok n0 f W v F)(hb:Below W.heap.size W W'):OwnE ok n0 f W' v F:=by
 obtain⟨rows,ho,hr⟩:=h;refine⟨rows,ho.kept (row:=none) ⟨hb.os,hb.tape,hb.output,hb.size,fun b hlt _=>hb.block b hlt⟩ ?_,hr.1,fun i us hi=>?_⟩
 ·cases hv:v.ownBlock with
  | none=>exact .inl rfl
  | some g=>exact .inr (by simp)
 ·obtain⟨h1,key,y,xs,h2,h3,h4,h5⟩:=hr.2 i us hi
  exact⟨h1,key,y,xs,h2,h3,h4,h5.kept (fun b hb'=>⟨Nat.lt_of_lt_of_le hb'.1 hb.size,hb'.2⟩) hb.size (fun b _ hlt=>hb.block b hlt)⟩
theorem OwnE.push {ok:Nat->Prop}{n0 f:Nat}{W w1:World}{v v':Value}{F:List V}{rows:List (List Value)}{key:ByteArray}{xs:List Value}{y:V}(hr:RowsE (okE ok n0 W v) f W F rows)(hl:LiesV (okE ok n0 W v) f W xs y)(hk:key.size<=maxLen)
  (ho:w1.ownsRow n0 57 7 v' (F.length+1) (rows.flatten++(.string key :: xs))) (hg:W.grownBy w1 v.ownBlock) (hat:v'.ownBlock=v.ownBlock\/v'.ownBlock=some W.heap.size):OwnE ok n0 f w1 v' (F++[ent key.data.toList y]):=by
 have okk:∀b,okE ok n0 W v b->okE ok n0 w1 v' b:=fun b hb=>⟨Nat.lt_of_lt_of_le hb.1 hg.size,fun e=>hat.elim (fun h=>hb.2.1 (e.trans h)) (fun h=>by
  have:=e.trans h;injection this with this;have:=hb.1;omega),hb.2.2⟩
 have blk:∀b,okE ok n0 W v b->b<W.heap.size->w1.heap[b]?=W.heap[b]?:=fun b hb hlt=>hg.block b hlt hb.2.1
 refine⟨rows++[.string key :: xs],by simpa using ho,by simp [hr.1],fun i us hi=>?_⟩
 rcases Nat.lt_or_ge i rows.length with hlt | hge
 ·rw [List.getElem?_append_left hlt] at hi
  obtain⟨h1,k',y',xs',h2,h3,h4,h5⟩:=hr.2 i us hi;exact⟨h1,k',y',xs',by rw [List.getElem?_append_left (by rw [<-hr.1];exact hlt)];exact h2,h3,h4,h5.kept okk hg.size blk⟩
 ·rw [List.getElem?_append_right hge] at hi
  have hi0:i - rows.length=0:=by
   rcases Nat.eq_zero_or_pos (i - rows.length) with h | h
   ·exact h
   ·rw [List.getElem?_eq_none (by simp;omega)] at hi
    cases hi
  rw [hi0] at hi;simp only [List.getElem?_cons_zero,Option.some.injEq] at hi;subst hi;refine⟨by simp [hl.len],key,y,xs,?_,rfl,hk,hl.kept okk hg.size blk⟩;rw [List.getElem?_append_right (by rw [<-hr.1];exact hge),<-hr.1,hi0];rfl
theorem flatten_at {d:Nat}:∀{rows:List (List Value)} {i r:Nat} {us:List Value},(∀(i:Nat) (us:List Value),rows[i]?=some us->us.length=d)->rows[i]?=some us->r<d->rows.flatten[i*d+r]?=us[r]?
 | [],i,r,us,_,h,_=>by simp at h
 | a :: rows,0,r,us,hd,h,hr=>by
  simp only [List.getElem?_cons_zero,Option.some.injEq] at h;subst h;have:=hd 0 a rfl;rw [List.flatten_cons,Nat.zero_mul,Nat.zero_add,List.getElem?_append_left (by omega)]
 | a :: rows,i+1,r,us,hd,h,hr=>by
  have ha:=hd 0 a rfl;rw [List.getElem?_cons_succ] at h;have:=flatten_at (fun i us hi=>hd (i+1) us (by simpa using hi)) h hr;rw [List.flatten_cons,List.getElem?_append_right (by rw [ha,Nat.add_mul];omega),ha,<-this]
  congr 1
  rw [Nat.add_mul];omega
open Go.RowKit Go.Shelf
theorem without_any (ok:Nat->Prop)(f:Nat)(w:World)(E:List V)(pE:Option Addr)(cE:Nat)(kk:ByteArray)(hE:JO ok f w pE E)(h1:E.length<=cE)(h2:cE<=maxLen)(hok:∀b,ok b->b<w.heap.size)(hn:E.length<=10000000) :
  Calls Tryd.prog 62 #[.slice pE E.length cE,.string kk] w fun e w'=>∃v,e=.returned v/\OwnE ok w.heap.size f w' v (jD kk.data.toList E)/\Below w.heap.size w w':=by
 obtain⟨i0,hi,hz0,hz1,hz2⟩:=info_parts JK
 go_enter Tryd.func62,Tryd.ntmps62
 go_wp2
 go_loopw [10,5] (fun i v wr=>∃j:Nat,i=.int .i64 j/\j<=E.length/\Hid (OwnE ok w.heap.size f wr v (jD kk.data.toList (E.take j)))/\Below w.heap.size w wr) (fun i _ _=>E.length - (intOf i).toNat)
 case atStart=>exact⟨0,rfl,Nat.zero_le _,OwnE.nil _ _ _ _,Below.refl _ _⟩
 case round=>
  obtain⟨j,rfl,hj,hacc,hbw⟩:=hrel
  by_cases hlt:j<E.length
  ·obtain⟨B,o,rfl,_,hBl,x0,x1,x2,x3,x4,x5,x6,⟨key,y,xs,hy,hus,hks,hly⟩,k0,k1,k2,k3,k4,k5,k6⟩:=hE.seven hlt
   cases hus
   obtain⟨vk,vn,vb,vs,vpL,vnL,vcL,vpE,vnE,vcE,rfl,rfl,rfl,rfl,rfl,rfl⟩:=hly.form;have q0:=(hbw.cell (p:=⟨B,o+j*7,none⟩) hBl).trans k0;have q1:=(hbw.cell (p:=⟨B,o+j*7+1,none⟩) hBl).trans k1;have q2:=(hbw.cell (p:=⟨B,o+j*7+2,none⟩) hBl).trans k2;have q3:=(hbw.cell (p:=⟨B,o+j*7+3,none⟩) hBl).trans k3;have q4:=(hbw.cell (p:=⟨B,o+j*7+4,none⟩) hBl).trans k4;have q5:=(hbw.cell (p:=⟨B,o+j*7+5,none⟩) hBl).trans k5;have q6:=(hbw.cell (p:=⟨B,o+j*7+6,none⟩) hBl).trans k6;have hstep:=jae (k:=kk.data.toList) hy;clear k0 k1 k2 k3 k4 k5 k6;have sw:=hbw.size;have hbA:Below w.heap.size w (wr.alloc (.cells #[.string key,.int .i64 vk,.int .i64 vn,.int .u64 (vb:Int),.string vs,.slice vpL vnL vcL,.slice vpE vnE vcE] 57)):=hbw.alloc sw _
   by_cases hk:key.data.toList=kk.data.toList
   ·have hs2:(key.toList == kk.toList)=true:=by rw [ByteArray.toList_eq,ByteArray.toList_eq];exact beq_iff_eq.2 hk
    rw [if_pos hk,List.append_nil] at hstep;have HA:Hid (OwnE ok w.heap.size f (wr.alloc (.cells #[.string key,.int .i64 vk,.int .i64 vn,.int .u64 (vb:Int),.string vs,.slice vpL vnL vcL,.slice vpE vnE vcE] 57)) u5 (jD kk.data.toList (E.take (j+1)))):=ja (by rw [hstep];exact hacc.out.still ((Below.refl _ wr).alloc (Nat.le_refl _) _));clear hstep hk hacc;go_wp2;go_roundw
    case rel=>exact⟨j+1,by congr 1,by omega,HA,hbA⟩
    case measure=>simp only [intOf];omega
   ·have hs2:(key.toList == kk.toList)=false:=by rw [ByteArray.toList_eq,ByteArray.toList_eq];exact beq_eq_false_iff_ne.2 hk
    rw [if_neg hk] at hstep
    have hlen:(jD kk.data.toList (E.take j)).length<=10000000:=by
     have:=QI kk.data.toList (E.take j);rw [List.length_take] at this;omega
    obtain⟨A,hA⟩:∃A,A=wr.alloc (.cells #[.string key,.int .i64 vk,.int .i64 vn,.int .u64 (vb:Int),.string vs,.slice vpL vnL vcL,.slice vpE vnE vcE] 57):=⟨_,rfl⟩
    have bA:Below wr.heap.size wr (A.alloc (.cells #[.string key,.int .i64 vk,.int .i64 vn,.int .u64 (vb:Int),.string vs,.slice vpL vnL vcL,.slice vpE vnE vcE] 57)):=by rw [hA];exact((Below.refl _ wr).alloc (Nat.le_refl _) _).alloc (by simp) _
    obtain⟨rows,how,hrows⟩:=hacc.out.still bA;have a0:=Blk.cell (jb wr #[.string key,.int .i64 vk,.int .i64 vn,.int .u64 (vb:Int),.string vs,.slice vpL vnL vcL,.slice vpE vnE vcE] 57) 0 _ rfl;have a1:=Blk.cell (jb wr #[.string key,.int .i64 vk,.int .i64 vn,.int .u64 (vb:Int),.string vs,.slice vpL vnL vcL,.slice vpE vnE vcE] 57) 1 _ rfl;have a2:=Blk.cell (jb wr #[.string key,.int .i64 vk,.int .i64 vn,.int .u64 (vb:Int),.string vs,.slice vpL vnL vcL,.slice vpE vnE vcE] 57) 2 _ rfl;have a3:=Blk.cell (jb wr #[.string key,.int .i64 vk,.int .i64 vn,.int .u64 (vb:Int),.string vs,.slice vpL vnL vcL,.slice vpE vnE vcE] 57) 3 _ rfl;have a4:=Blk.cell (jb wr #[.string key,.int .i64 vk,.int .i64 vn,.int .u64 (vb:Int),.string vs,.slice vpL vnL vcL,.slice vpE vnE vcE] 57) 4 _ rfl
    have a5:=Blk.cell (jb wr #[.string key,.int .i64 vk,.int .i64 vn,.int .u64 (vb:Int),.string vs,.slice vpL vnL vcL,.slice vpE vnE vcE] 57) 5 _ rfl;have a6:=Blk.cell (jb wr #[.string key,.int .i64 vk,.int .i64 vn,.int .u64 (vb:Int),.string vs,.slice vpL vnL vcL,.slice vpE vnE vcE] 57) 6 _ rfl;have HR:=ja hrows;have HS:=ja hstep;have HL:=ja hly;rw [hA] at how;have HA:=ja hA;have HBA:=ja bA;clear hstep hk hacc hrows hly bA hA
    go_wp2_with (at_builtin;refine wpList_append_own_at _ rfl _ _ 24 rfl w.heap.size 57 i0 _ 7 104 Tryd.underlying24 hi hz0 hz1 hz2 rfl (by decide) _ _ _ rfl how ⟨wr.heap.size+1,0,none⟩ 1 1 [.string key,.int .i64 vk,.int .i64 vn,.int .u64 (vb:Int),.string vs,.slice vpL vnL vcL,.slice vpE vnE vcE] rfl rfl ?c1 ?c2 ?c3 ?c4 ?c5 ?_)
    case c1=>
     have h:=Qt (wr.alloc (.cells #[.string key,.int .i64 vk,.int .i64 vn,.int .u64 (vb:Int),.string vs,.slice vpL vnL vcL,.slice vpE vnE vcE] 57)) 57 (.string key) (.int .i64 vk) (.int .i64 vn) (.int .u64 (vb:Int)) (.string vs) (.slice vpL vnL vcL) (.slice vpE vnE vcE);rwa [World.size_alloc] at h
    case c2=>exact jbd HL.out.ones
    case c3=>unfold maxLen;omega
    case c4=>omega
    case c5=>simp;omega
    intro v' w1 hown' hgrow _ hat;have hR:=HR.out;have hB:=HBA.out;rw [HA.out] at hR hB;have hb2:=hbw.trans (hB.mono sw);have hL:=HL.out.kept (ok':=okE ok w.heap.size ((wr.alloc (.cells #[.string key,.int .i64 vk,.int .i64 vn,.int .u64 (vb:Int),.string vs,.slice vpL vnL vcL,.slice vpE vnE vcE] 57)).alloc (.cells #[.string key,.int .i64 vk,.int .i64 vn,.int .u64 (vb:Int),.string vs,.slice vpL vnL vcL,.slice vpE vnE vcE] 57)) u5) (fun b hb=>⟨Nat.lt_of_lt_of_le (hok b hb) hb2.size,fun e=>by have:=(how.lt b e.symm).1;have:=hok b hb;omega,.inl hb⟩) hb2.size (fun b _ hlt=>hb2.block b hlt);have OW:=OwnE.push hR hL hks hown' hgrow (by rw [World.size_alloc,World.size_alloc];exact hat);rw [<-HS.out] at OW;have hb3:Below w.heap.size w w1:=hb2.grown hgrow hb2.size (fun k hk=>(how.lt k hk).1);have HO:=ja OW;clear OW hL hR hgrow hown' how hat hB hb2;go_wp2;go_roundw
    case rel=>exact⟨j+1,by congr 1,by omega,HO,hb3⟩
    case measure=>simp only [intOf];omega
  ·have g0:¬(j:Int)<(E.length:Int):=by omega
   have hjE:j=E.length:=by omega
   have HA:Hid (OwnE ok w.heap.size f wr u5 (jD kk.data.toList E)):=ja (by have:=hacc.out;rwa [hjE,List.take_length] at this);clear hacc hjE;go_wp2;go_ret;exact⟨_,rfl,HA.out,hbw⟩
open Go.RowKit Go.Shelf
attribute [local go_sem] Oper.semAt_some
open Go.RowKit Go.Shelf
theorem RowsE.append {ok:Nat->Prop}{f:Nat}{W:World}{F G:List V}{r s:List (List Value)}(h:RowsE ok f W F r)(k:RowsE ok f W G s):RowsE ok f W (F++G) (r++s):=by
 refine⟨by simp [h.1,k.1],fun i us hi=>?_⟩
 rcases Nat.lt_or_ge i r.length with hlt | hge
 ·rw [List.getElem?_append_left hlt] at hi
  obtain⟨h1,key,y,xs,h2,h3⟩:=h.2 i us hi;exact⟨h1,key,y,xs,by rw [List.getElem?_append_left (by rw [<-h.1];exact hlt)];exact h2,h3⟩
 ·rw [List.getElem?_append_right hge] at hi
  obtain⟨h1,key,y,xs,h2,h3⟩:=k.2 _ us hi;exact⟨h1,key,y,xs,by rw [List.getElem?_append_right (by rw [<-h.1];exact hge),<-h.1];exact h2,h3⟩
theorem RowsE.take {ok:Nat->Prop}{f:Nat}{W:World}{F:List V}{r:List (List Value)}(h:RowsE ok f W F r)(n:Nat):RowsE ok f W (F.take n) (r.take n) :=
 ⟨by simp [h.1],fun i us hi=>by
  rw [List.getElem?_take] at hi;split at hi
  ·rename_i hn
   obtain⟨h1,key,y,xs,h2,h3⟩:=h.2 i us hi;exact⟨h1,key,y,xs,by rw [List.getElem?_take,if_pos hn];exact h2,h3⟩
  ·cases hi⟩
theorem RowsE.drop {ok:Nat->Prop}{f:Nat}{W:World}{F:List V}{r:List (List Value)}(h:RowsE ok f W F r)(n:Nat):RowsE ok f W (F.drop n) (r.drop n) :=
 ⟨by simp [h.1],fun i us hi=>by
  rw [List.getElem?_drop] at hi;obtain⟨h1,key,y,xs,h2,h3⟩:=h.2 _ us hi;exact⟨h1,key,y,xs,by rw [List.getElem?_drop];exact h2,h3⟩⟩
theorem RowsE.flat {ok:Nat->Prop}{f:Nat}{W:World}:∀{F:List V} {r:List (List Value)},RowsE ok f W F r->r.flatten.length=F.length*7
 | [],[],_=>rfl
 | [],_ :: _,h=>by have:=h.1;simp at this
 | _ :: _,[],h=>by have:=h.1;simp at this
 | x :: F,a :: r,h=>by
  have h1:=(h.2 0 a rfl).1
  have h2:RowsE ok f W F r:=⟨by have:=h.1;simpa using this,fun i us hi=>by
   obtain⟨k1,key,y,xs,k2,k3⟩:=h.2 (i+1) us (by simpa using hi);exact⟨k1,key,y,xs,by simpa using k2,k3⟩⟩
  have h3:=RowsE.flat h2;rw [List.flatten_cons,List.length_append,h1,h3,List.length_cons,Nat.add_mul];omega
theorem RowsE.ones {ok:Nat->Prop}{f:Nat}{W:World}{F:List V}{r:List (List Value)}(h:RowsE ok f W F r):∀u∈r.flatten,u.oneCell'=true:=fun u hu=>by
 obtain⟨us,hus,hm⟩:=List.mem_flatten.1 hu;obtain⟨i,hi⟩:=List.mem_iff_getElem?.1 hus
 obtain⟨_,key,y,xs,_,rfl,_,hl⟩:=h.2 i us hi;exact jbd hl.ones u hm
theorem rows_of {ok:Nat->Prop}{f:Nat}{W:World}{p:Option Addr}{F:List V}(h:JO ok f W p F)(hn:F.length≠0):∃b q r,p=some ⟨b,q,none⟩/\ok b/\b<W.heap.size/\RowsE ok f W F r/\∀i u,r.flatten[i]?=some u->W.cell? ⟨b,q+i,none⟩=some u:=by
 obtain⟨b,q,hp,hok,hlt,hk⟩:=h hn
 obtain⟨g,hg⟩:∃g:Nat->List Value,∀j,j<F.length->(g j).length=7/\(∀i,i<7->W.cell? ⟨b,q+j*7+i,none⟩=(g j)[i]?)/\∃(key:ByteArray) (y:V) (xs:List Value),F[j]?=some (ent key.data.toList y)/\(g j)=.string key :: xs/\key.size<=maxLen/\LiesV ok f W xs y :=
  ⟨fun j=>if hj:j<F.length then Classical.choose (hk j hj) else [],fun j hj=>by
   have:=Classical.choose_spec (hk j hj);simp only [dif_pos hj];exact this⟩
 have hr:RowsE ok f W F ((List.range F.length).map g):=⟨by simp,fun i us hi=>by
  rw [List.getElem?_map] at hi
  rcases Nat.lt_or_ge i F.length with hlt | hge
  ·rw [List.getElem?_range hlt] at hi
   simp only [Option.map_some,Option.some.injEq] at hi;rw [<-hi];exact⟨(hg i hlt).1,(hg i hlt).2.2⟩
  ·rw [List.getElem?_eq_none (by simpa using hge)] at hi
   cases hi⟩
 refine⟨b,q,_,hp,hok,hlt,hr,fun i u hi=>?_⟩
 have hi7:i<F.length*7:=by
  rw [<-hr.flat];exact(List.getElem?_eq_some_iff.1 hi).1
 have hj:i / 7<F.length:=by omega
 have e:=flatten_at (r:=i % 7) (fun i us hi=>(hr.2 i us hi).1) (show((List.range F.length).map g)[i / 7]?=some (g (i / 7)) by rw [List.getElem?_map,List.getElem?_range hj];rfl) (by omega);rw [show i / 7*7+i % 7=i by omega,hi] at e;have h2:=(hg _ hj).2.1 (i % 7) (by omega);rw [show q+i / 7*7+i % 7=q+i by omega,<-e] at h2;exact h2
theorem OwnE.pushes {ok:Nat->Prop}{n0 f:Nat}{W w1:World}{v v':Value}{F G:List V}{r s:List (List Value)}(hr:RowsE (okE ok n0 W v) f W F r)(hs:RowsE (okE ok n0 W v) f W G s)
  (ho:w1.ownsRow n0 57 7 v' (F.length+G.length) (r.flatten++s.flatten)) (hg:W.grownBy w1 v.ownBlock) (hat:v'.ownBlock=v.ownBlock\/v'.ownBlock=some W.heap.size):OwnE ok n0 f w1 v' (F++G):=by
 have okk:∀b,okE ok n0 W v b->okE ok n0 w1 v' b:=fun b hb=>⟨Nat.lt_of_lt_of_le hb.1 hg.size,fun e=>hat.elim (fun h=>hb.2.1 (e.trans h)) (fun h=>by
  have:=e.trans h;injection this with this;have:=hb.1;omega),hb.2.2⟩
 exact⟨r++s,by rw [List.length_append,List.flatten_append];exact ho,(hr.append hs).kept okk hg.size (fun b hb hlt=>hg.block b hlt hb.2.1)⟩
open Go.RowKit Go.Shelf
attribute [local go_sem] Oper.semAt_some
theorem opWide_value {n:Nat}{P:Program}{ops:Array Oper}{o:Oper}{a:Act}{w w':World}{K:Act->World->Prop}{Q:Exit->Act->World->Prop}{v:Value}(hg:o.guard=none)(hnd:∀c,o.op≠.defer c)
  (hr:(execOp a.eval o).run P w=.ok (.value v) w') (hK:K (a.put o.dst v) w') :
  if Region.wanted o (yielded ops a.tmps)=true then Oper.wpIn Fence.wide n P o a w K Q else (∀f,o.about P w a.eval=some f->Fence.wide.fn f)/\K (a.put o.dst undef) w:=by
 rw [if_pos (by simp [Region.wanted,hg])];unfold Oper.wpIn;refine⟨fun _ _=>trivial,?_⟩;rw [Oper.semAt_plain _ _ _ hnd,hr];exact hK
theorem withR {Q:Exit->Act->World->Prop}{ops:Array Oper}{D:List Deferred}{t2 t3 t4 t6 t8 t9 t10 t11 t12 t13 t14 t15 t16 t17 t18 t19 t20 t21 t22 t23 t24 t25 t26 t27 t28 t29 t30 t31 t32 t33 t34 t35 t36 t37 t38:Value}{W:World}{Bx m c i:Nat}{p:Option Addr}{key:ByteArray}{k n:Int}{b:Nat}{s:ByteArray}{pL:Option Addr}{nL cL:Nat}{pE:Option Addr}{nE cE:Nat}{v28 v37:Value}{q0 q1 q2 q3 q4 q5 q6 q7 q8 q9 q10 q11 q12 q13:String}{f0 f1 f2 f3 f4 f5 f6 f7 f8 f9 f10 f11 f12 f13:_}
  (H3:World->Value->Prop) (H37:World->Value->Nat->Prop) (H8:World->Value->Prop)
  (h0:ops[0]?=some { dst:=some 26,op:=.move (.tmp 0),type:=24,pos:=q0,after:=f0,guard:=none })
  (h1:ops[1]?=some { dst:=some 27,op:=.move (.tmp 7),type:=3,pos:=q1,after:=f1,guard:=none })
  (h2:ops[2]?=some { dst:=some 28,op:=.slice 24 (.tmp 26) none (some (.tmp 27)) none,type:=24,pos:=q2,after:=f2,guard:=none })
  (h3:ops[3]?=some { dst:=some 29,op:=.call { callee:=.builtin .append,args:=#[.const (.slice none 0 0),.tmp 28],argTypes:=#[24,24] },type:=24,pos:=q3,after:=f3,guard:=none })
  (h4:ops[4]?=some { dst:=some 30,op:=.move (.tmp 1),type:=9,pos:=q4,after:=f4,guard:=none })
  (h5:ops[5]?=some { dst:=some 31,op:=.load 26 (.tmp 5),type:=26,pos:=q5,after:=f5,guard:=none })
  (h6:ops[6]?=some { dst:=some 32,op:=.build 57 #[(0,.tmp 30),(1,.tmp 31)],type:=57,pos:=q6,after:=f6,guard:=none })
  (h7:ops[7]?=some { dst:=some 33,op:=.buildSlice 24 1 #[(0,.tmp 32)],type:=24,pos:=q7,after:=f7,guard:=none })
  (h8:ops[8]?=some { dst:=some 34,op:=.call { callee:=.builtin .append,args:=#[.tmp 29,.tmp 33],argTypes:=#[24,24] },type:=24,pos:=q8,after:=f8,guard:=none })
  (h9:ops[9]?=some { dst:=some 35,op:=.move (.tmp 0),type:=24,pos:=q9,after:=f9,guard:=none })
  (h10:ops[10]?=some { dst:=some 36,op:=.move (.tmp 7),type:=3,pos:=q10,after:=f10,guard:=none })
  (h11:ops[11]?=some { dst:=some 37,op:=.slice 24 (.tmp 35) (some (.tmp 36)) none none,type:=24,pos:=q11,after:=f11,guard:=none })
  (h12:ops[12]?=some { dst:=some 38,op:=.call { callee:=.builtin .append,args:=#[.tmp 34,.tmp 37],argTypes:=#[24,24] },type:=24,pos:=q12,after:=f12,guard:=none })
  (h13:ops[13]?=some { dst:=some 6,op:=.assign (.tmp 38),type:=24,pos:=q13,after:=f13,guard:=none })
  (rabcdefghijklmn:Region.ready .any ops #[true,true,true,true,true,true,true,true,true,true,true,true,true,true]=[])
  (rabcdefghijklm:Region.ready .any ops #[true,true,true,true,true,true,true,true,true,true,true,true,true,false]=[13])
  (rabcdefghijkl:Region.ready .any ops #[true,true,true,true,true,true,true,true,true,true,true,true,false,false]=[12])
  (rabcdefghijk:Region.ready .any ops #[true,true,true,true,true,true,true,true,true,true,true,false,false,false]=[11])
  (rabcdefghjkl:Region.ready .any ops #[true,true,true,true,true,true,true,true,false,true,true,true,false,false]=[8])
  (rabcdefghjk:Region.ready .any ops #[true,true,true,true,true,true,true,true,false,true,true,false,false,false]=[8,11])
  (rabcdefgjkl:Region.ready .any ops #[true,true,true,true,true,true,true,false,false,true,true,true,false,false]=[7])
  (rabcefghjkl:Region.ready .any ops #[true,true,true,false,true,true,true,true,false,true,true,true,false,false]=[3])
  (rabcdefgjk:Region.ready .any ops #[true,true,true,true,true,true,true,false,false,true,true,false,false,false]=[7,11])
  (rabcdefjkl:Region.ready .any ops #[true,true,true,true,true,true,false,false,false,true,true,true,false,false]=[6])
  (rabcefghjk:Region.ready .any ops #[true,true,true,false,true,true,true,true,false,true,true,false,false,false]=[3,11])
  (rabcefgjkl:Region.ready .any ops #[true,true,true,false,true,true,true,false,false,true,true,true,false,false]=[3,7])
  (rabefghjkl:Region.ready .any ops #[true,true,false,false,true,true,true,true,false,true,true,true,false,false]=[2])
  (rabcdefjk:Region.ready .any ops #[true,true,true,true,true,true,false,false,false,true,true,false,false,false]=[6,11])
  (rabcdejkl:Region.ready .any ops #[true,true,true,true,true,false,false,false,false,true,true,true,false,false]=[5])
  (rabcefgjk:Region.ready .any ops #[true,true,true,false,true,true,true,false,false,true,true,false,false,false]=[3,7,11])
  (rabcefjkl:Region.ready .any ops #[true,true,true,false,true,true,false,false,false,true,true,true,false,false]=[3,6])
  (rabefghjk:Region.ready .any ops #[true,true,false,false,true,true,true,true,false,true,true,false,false,false]=[2,11])
  (rabefgjkl:Region.ready .any ops #[true,true,false,false,true,true,true,false,false,true,true,true,false,false]=[2,7])
  (rabcdejk:Region.ready .any ops #[true,true,true,true,true,false,false,false,false,true,true,false,false,false]=[5,11])
  (rabcefjk:Region.ready .any ops #[true,true,true,false,true,true,false,false,false,true,true,false,false,false]=[3,6,11])
  (rabcejkl:Region.ready .any ops #[true,true,true,false,true,false,false,false,false,true,true,true,false,false]=[3,5])
  (rabefgjk:Region.ready .any ops #[true,true,false,false,true,true,true,false,false,true,true,false,false,false]=[2,7,11])
  (rabefjkl:Region.ready .any ops #[true,true,false,false,true,true,false,false,false,true,true,true,false,false]=[2,6])
  (rabcejk:Region.ready .any ops #[true,true,true,false,true,false,false,false,false,true,true,false,false,false]=[3,5,11])
  (rabefjk:Region.ready .any ops #[true,true,false,false,true,true,false,false,false,true,true,false,false,false]=[2,6,11])
  (rabejkl:Region.ready .any ops #[true,true,false,false,true,false,false,false,false,true,true,true,false,false]=[2,5])
  (rabejk:Region.ready .any ops #[true,true,false,false,true,false,false,false,false,true,true,false,false,false]=[2,5,11])
  (c0:W.cell? ⟨Bx,0,none⟩=some (.int .i64 k))
  (c1:W.cell? ⟨Bx,1,none⟩=some (.int .i64 n))
  (c2:W.cell? ⟨Bx,2,none⟩=some (.int .u64 (b:Int)))
  (c3:W.cell? ⟨Bx,3,none⟩=some (.string s))
  (c4:W.cell? ⟨Bx,4,none⟩=some (.slice pL nL cL))
  (c5:W.cell? ⟨Bx,5,none⟩=some (.slice pE nE cE))
  (d0:∀X v29,H3 X v29->X.cell? ⟨Bx,0,none⟩=some (.int .i64 k))
  (d1:∀X v29,H3 X v29->X.cell? ⟨Bx,1,none⟩=some (.int .i64 n))
  (d2:∀X v29,H3 X v29->X.cell? ⟨Bx,2,none⟩=some (.int .u64 (b:Int)))
  (d3:∀X v29,H3 X v29->X.cell? ⟨Bx,3,none⟩=some (.string s))
  (d4:∀X v29,H3 X v29->X.cell? ⟨Bx,4,none⟩=some (.slice pL nL cL))
  (d5:∀X v29,H3 X v29->X.cell? ⟨Bx,5,none⟩=some (.slice pE nE cE))
  (sl2:∀(a:Act) X,a.eval (.tmp 26)=.slice p m c->a.eval (.tmp 27)=.int .i64 (i:Int)->(execOp a.eval { dst:=some 28,op:=.slice 24 (.tmp 26) none (some (.tmp 27)) none,type:=24,pos:=q2,after:=f2,guard:=none }).run Tryd.prog X=.ok (.value v28) X)
  (sl11:∀(a:Act) X,a.eval (.tmp 35)=.slice p m c->a.eval (.tmp 36)=.int .i64 (i:Int)->(execOp a.eval { dst:=some 37,op:=.slice 24 (.tmp 35) (some (.tmp 36)) none none,type:=24,pos:=q11,after:=f11,guard:=none }).run Tryd.prog X=.ok (.value v37) X)
  (ha:∃v29 X,(Builtin.append_ #[24,24] 24 #[.slice none 0 0,v28]).run Tryd.prog W=.ok v29 X/\H3 X v29)
  (hb:∃v29 X,(Builtin.append_ #[24,24] 24 #[.slice none 0 0,v28]).run Tryd.prog (W.alloc (.cells #[.string key,.int .i64 k,.int .i64 n,.int .u64 (b:Int),.string s,.slice pL nL cL,.slice pE nE cE] 57))=.ok v29 X/\H37 X v29 W.heap.size)
  (hc:∀X v29,H3 X v29->H37 (X.alloc (.cells #[.string key,.int .i64 k,.int .i64 n,.int .u64 (b:Int),.string s,.slice pL nL cL,.slice pE nE cE] 57)) v29 X.heap.size)
  (he:∀X v29 g,H37 X v29 g->∃v34 X2,(Builtin.append_ #[24,24] 24 #[v29,.slice (some ⟨g,0,none⟩) 1 1]).run Tryd.prog X=.ok v34 X2/\H8 X2 v34)
  (hf:∀X v29 v34 g,H8 X v34->∃v38 X3,(Builtin.append_ #[24,24] 24 #[v34,v37]).run Tryd.prog X=.ok v38 X3/\Q .normal { tmps:=#[(.slice p m c),(.string key),t2,t3,t4,(.pointer (some ⟨Bx,0,none⟩)),v38,(.int .i64 (i:Int)),t8,t9,t10,t11,t12,t13,t14,t15,t16,t17,t18,t19,t20,t21,t22,t23,t24,t25,(.slice p m c),(.int .i64 (i:Int)),v28,v29,(.string key),(.agg #[.int .i64 k,.int .i64 n,.int .u64 (b:Int),.string s,.slice pL nL cL,.slice pE nE cE]),(.agg #[.string key,.int .i64 k,.int .i64 n,.int .u64 (b:Int),.string s,.slice pL nL cL,.slice pE nE cE]),(.slice (some ⟨g,0,none⟩) 1 1),v34,(.slice p m c),(.int .i64 (i:Int)),v37,v38],defers:=D } X3) :
  wpAnyIn Fence.wide 9 Tryd.prog .any ops Q 9 #[true,true,false,false,true,false,false,false,false,true,true,false,false,false] { tmps:=#[(.slice p m c),(.string key),t2,t3,t4,(.pointer (some ⟨Bx,0,none⟩)),t6,(.int .i64 (i:Int)),t8,t9,t10,t11,t12,t13,t14,t15,t16,t17,t18,t19,t20,t21,t22,t23,t24,t25,(.slice p m c),(.int .i64 (i:Int)),t28,t29,(.string key),t31,t32,t33,t34,(.slice p m c),(.int .i64 (i:Int)),t37,t38],defers:=D } W:=by
 have sabcdefghijkl:∀(X:World) (v29 v34:Value) (g:Nat),H8 X v34->wpAnyIn Fence.wide 9 Tryd.prog .any ops Q 2 #[true,true,true,true,true,true,true,true,true,true,true,true,false,false] { tmps:=#[(.slice p m c),(.string key),t2,t3,t4,(.pointer (some ⟨Bx,0,none⟩)),t6,(.int .i64 (i:Int)),t8,t9,t10,t11,t12,t13,t14,t15,t16,t17,t18,t19,t20,t21,t22,t23,t24,t25,(.slice p m c),(.int .i64 (i:Int)),v28,v29,(.string key),(.agg #[.int .i64 k,.int .i64 n,.int .u64 (b:Int),.string s,.slice pL nL cL,.slice pE nE cE]),(.agg #[.string key,.int .i64 k,.int .i64 n,.int .u64 (b:Int),.string s,.slice pL nL cL,.slice pE nE cE]),(.slice (some ⟨g,0,none⟩) 1 1),v34,(.slice p m c),(.int .i64 (i:Int)),v37,t38],defers:=D } X:=by
  intro X v29 v34 g hH;obtain⟨v38,X3,hrun,hq⟩:=hf X v29 v34 g hH;refine wpAnyIn_ready rabcdefghijkl (by simp) (AllReadyIn.cons h12 (fun K hK=>?_) AllReadyIn.nil);refine Q2 _ _ _ rfl rfl rfl rfl hrun (hK _ _ ?_);refine wpAnyIn_ready rabcdefghijklm (by simp) (AllReadyIn.cons h13 (fun K hK=>?_) AllReadyIn.nil)
  go_simp
  exact hK _ _ (wpAnyIn_done rabcdefghijklmn hq _)
 have sabcdefghijk:∀(X:World) (v29 v34:Value) (g:Nat),H8 X v34->wpAnyIn Fence.wide 9 Tryd.prog .any ops Q 3 #[true,true,true,true,true,true,true,true,true,true,true,false,false,false] { tmps:=#[(.slice p m c),(.string key),t2,t3,t4,(.pointer (some ⟨Bx,0,none⟩)),t6,(.int .i64 (i:Int)),t8,t9,t10,t11,t12,t13,t14,t15,t16,t17,t18,t19,t20,t21,t22,t23,t24,t25,(.slice p m c),(.int .i64 (i:Int)),v28,v29,(.string key),(.agg #[.int .i64 k,.int .i64 n,.int .u64 (b:Int),.string s,.slice pL nL cL,.slice pE nE cE]),(.agg #[.string key,.int .i64 k,.int .i64 n,.int .u64 (b:Int),.string s,.slice pL nL cL,.slice pE nE cE]),(.slice (some ⟨g,0,none⟩) 1 1),v34,(.slice p m c),(.int .i64 (i:Int)),t37,t38],defers:=D } X:=by
  intro X v29 v34 g hH;refine wpAnyIn_ready rabcdefghijk (by simp) ?_
  refine AllReadyIn.cons h11 (fun K hK=>?_) ?_
  ·exact opWide_value rfl (by intro c h;cases h) (sl11 _ _ rfl rfl) (hK _ _ (sabcdefghijkl X v29 v34 g hH))
  exact AllReadyIn.nil
 have sabcdefghjkl:∀(X:World) (v29:Value) (g:Nat),H37 X v29 g->wpAnyIn Fence.wide 9 Tryd.prog .any ops Q 3 #[true,true,true,true,true,true,true,true,false,true,true,true,false,false] { tmps:=#[(.slice p m c),(.string key),t2,t3,t4,(.pointer (some ⟨Bx,0,none⟩)),t6,(.int .i64 (i:Int)),t8,t9,t10,t11,t12,t13,t14,t15,t16,t17,t18,t19,t20,t21,t22,t23,t24,t25,(.slice p m c),(.int .i64 (i:Int)),v28,v29,(.string key),(.agg #[.int .i64 k,.int .i64 n,.int .u64 (b:Int),.string s,.slice pL nL cL,.slice pE nE cE]),(.agg #[.string key,.int .i64 k,.int .i64 n,.int .u64 (b:Int),.string s,.slice pL nL cL,.slice pE nE cE]),(.slice (some ⟨g,0,none⟩) 1 1),t34,(.slice p m c),(.int .i64 (i:Int)),v37,t38],defers:=D } X:=by
  intro X v29 g hH;refine wpAnyIn_ready rabcdefghjkl (by simp) ?_
  refine AllReadyIn.cons h8 (fun K hK=>?_) ?_
  ·obtain⟨v34,X2,hrun,h8'⟩:=he X v29 g hH
   refine Q2 _ _ _ rfl rfl rfl rfl hrun (hK _ _ (sabcdefghijkl X2 v29 v34 g h8'))
  exact AllReadyIn.nil
 have sabcdefghjk:∀(X:World) (v29:Value) (g:Nat),H37 X v29 g->wpAnyIn Fence.wide 9 Tryd.prog .any ops Q 4 #[true,true,true,true,true,true,true,true,false,true,true,false,false,false] { tmps:=#[(.slice p m c),(.string key),t2,t3,t4,(.pointer (some ⟨Bx,0,none⟩)),t6,(.int .i64 (i:Int)),t8,t9,t10,t11,t12,t13,t14,t15,t16,t17,t18,t19,t20,t21,t22,t23,t24,t25,(.slice p m c),(.int .i64 (i:Int)),v28,v29,(.string key),(.agg #[.int .i64 k,.int .i64 n,.int .u64 (b:Int),.string s,.slice pL nL cL,.slice pE nE cE]),(.agg #[.string key,.int .i64 k,.int .i64 n,.int .u64 (b:Int),.string s,.slice pL nL cL,.slice pE nE cE]),(.slice (some ⟨g,0,none⟩) 1 1),t34,(.slice p m c),(.int .i64 (i:Int)),t37,t38],defers:=D } X:=by
  intro X v29 g hH;refine wpAnyIn_ready rabcdefghjk (by simp) ?_
  refine AllReadyIn.cons h8 (fun K hK=>?_) ?_
  ·obtain⟨v34,X2,hrun,h8'⟩:=he X v29 g hH
   refine Q2 _ _ _ rfl rfl rfl rfl hrun (hK _ _ (sabcdefghijk X2 v29 v34 g h8'))
  refine AllReadyIn.cons h11 (fun K hK=>?_) ?_
  ·exact opWide_value rfl (by intro c h;cases h) (sl11 _ _ rfl rfl) (hK _ _ (sabcdefghjkl X v29 g hH))
  exact AllReadyIn.nil
 have sabcdefgjkl:∀(X:World) (v29:Value),H3 X v29->wpAnyIn Fence.wide 9 Tryd.prog .any ops Q 4 #[true,true,true,true,true,true,true,false,false,true,true,true,false,false] { tmps:=#[(.slice p m c),(.string key),t2,t3,t4,(.pointer (some ⟨Bx,0,none⟩)),t6,(.int .i64 (i:Int)),t8,t9,t10,t11,t12,t13,t14,t15,t16,t17,t18,t19,t20,t21,t22,t23,t24,t25,(.slice p m c),(.int .i64 (i:Int)),v28,v29,(.string key),(.agg #[.int .i64 k,.int .i64 n,.int .u64 (b:Int),.string s,.slice pL nL cL,.slice pE nE cE]),(.agg #[.string key,.int .i64 k,.int .i64 n,.int .u64 (b:Int),.string s,.slice pL nL cL,.slice pE nE cE]),t33,t34,(.slice p m c),(.int .i64 (i:Int)),v37,t38],defers:=D } X:=by
  intro X v29 hH;have e0:=d0 X v29 hH;have e1:=d1 X v29 hH;have e2:=d2 X v29 hH;have e3:=d3 X v29 hH;have e4:=d4 X v29 hH;have e5:=d5 X v29 hH;refine wpAnyIn_ready rabcdefgjkl (by simp) ?_
  refine AllReadyIn.cons h7 (fun K hK=>?_) ?_
  ·go_simp
   exact hK _ _ (sabcdefghjkl _ v29 X.heap.size (hc X v29 hH))
  exact AllReadyIn.nil
 have sabcefghjkl:∀(g:Nat),g=W.heap.size->wpAnyIn Fence.wide 9 Tryd.prog .any ops Q 4 #[true,true,true,false,true,true,true,true,false,true,true,true,false,false] { tmps:=#[(.slice p m c),(.string key),t2,t3,t4,(.pointer (some ⟨Bx,0,none⟩)),t6,(.int .i64 (i:Int)),t8,t9,t10,t11,t12,t13,t14,t15,t16,t17,t18,t19,t20,t21,t22,t23,t24,t25,(.slice p m c),(.int .i64 (i:Int)),v28,t29,(.string key),(.agg #[.int .i64 k,.int .i64 n,.int .u64 (b:Int),.string s,.slice pL nL cL,.slice pE nE cE]),(.agg #[.string key,.int .i64 k,.int .i64 n,.int .u64 (b:Int),.string s,.slice pL nL cL,.slice pE nE cE]),(.slice (some ⟨g,0,none⟩) 1 1),t34,(.slice p m c),(.int .i64 (i:Int)),v37,t38],defers:=D } (W.alloc (.cells #[.string key,.int .i64 k,.int .i64 n,.int .u64 (b:Int),.string s,.slice pL nL cL,.slice pE nE cE] 57)):=by
  intro g hH;refine wpAnyIn_ready rabcefghjkl (by simp) ?_
  refine AllReadyIn.cons h3 (fun K hK=>?_) ?_
  ·obtain⟨v29,X,hrun,h3⟩:=hb
   refine Q2 _ _ _ rfl rfl rfl rfl hrun (hK _ _ (sabcdefghjkl X v29 g (by rw [hH];exact h3)))
  exact AllReadyIn.nil
 have sabcdefgjk:∀(X:World) (v29:Value),H3 X v29->wpAnyIn Fence.wide 9 Tryd.prog .any ops Q 5 #[true,true,true,true,true,true,true,false,false,true,true,false,false,false] { tmps:=#[(.slice p m c),(.string key),t2,t3,t4,(.pointer (some ⟨Bx,0,none⟩)),t6,(.int .i64 (i:Int)),t8,t9,t10,t11,t12,t13,t14,t15,t16,t17,t18,t19,t20,t21,t22,t23,t24,t25,(.slice p m c),(.int .i64 (i:Int)),v28,v29,(.string key),(.agg #[.int .i64 k,.int .i64 n,.int .u64 (b:Int),.string s,.slice pL nL cL,.slice pE nE cE]),(.agg #[.string key,.int .i64 k,.int .i64 n,.int .u64 (b:Int),.string s,.slice pL nL cL,.slice pE nE cE]),t33,t34,(.slice p m c),(.int .i64 (i:Int)),t37,t38],defers:=D } X:=by
  intro X v29 hH;have e0:=d0 X v29 hH;have e1:=d1 X v29 hH;have e2:=d2 X v29 hH;have e3:=d3 X v29 hH;have e4:=d4 X v29 hH;have e5:=d5 X v29 hH;refine wpAnyIn_ready rabcdefgjk (by simp) ?_
  refine AllReadyIn.cons h7 (fun K hK=>?_) ?_
  ·go_simp
   exact hK _ _ (sabcdefghjk _ v29 X.heap.size (hc X v29 hH))
  refine AllReadyIn.cons h11 (fun K hK=>?_) ?_
  ·exact opWide_value rfl (by intro c h;cases h) (sl11 _ _ rfl rfl) (hK _ _ (sabcdefgjkl X v29 hH))
  exact AllReadyIn.nil
 have sabcdefjkl:∀(X:World) (v29:Value),H3 X v29->wpAnyIn Fence.wide 9 Tryd.prog .any ops Q 5 #[true,true,true,true,true,true,false,false,false,true,true,true,false,false] { tmps:=#[(.slice p m c),(.string key),t2,t3,t4,(.pointer (some ⟨Bx,0,none⟩)),t6,(.int .i64 (i:Int)),t8,t9,t10,t11,t12,t13,t14,t15,t16,t17,t18,t19,t20,t21,t22,t23,t24,t25,(.slice p m c),(.int .i64 (i:Int)),v28,v29,(.string key),(.agg #[.int .i64 k,.int .i64 n,.int .u64 (b:Int),.string s,.slice pL nL cL,.slice pE nE cE]),t32,t33,t34,(.slice p m c),(.int .i64 (i:Int)),v37,t38],defers:=D } X:=by
  intro X v29 hH;have e0:=d0 X v29 hH;have e1:=d1 X v29 hH;have e2:=d2 X v29 hH;have e3:=d3 X v29 hH;have e4:=d4 X v29 hH;have e5:=d5 X v29 hH;refine wpAnyIn_ready rabcdefjkl (by simp) ?_
  refine AllReadyIn.cons h6 (fun K hK=>?_) ?_
  ·go_simp
   exact hK _ _ (sabcdefgjkl X v29 hH)
  exact AllReadyIn.nil
 have sabcefghjk:∀(g:Nat),g=W.heap.size->wpAnyIn Fence.wide 9 Tryd.prog .any ops Q 5 #[true,true,true,false,true,true,true,true,false,true,true,false,false,false] { tmps:=#[(.slice p m c),(.string key),t2,t3,t4,(.pointer (some ⟨Bx,0,none⟩)),t6,(.int .i64 (i:Int)),t8,t9,t10,t11,t12,t13,t14,t15,t16,t17,t18,t19,t20,t21,t22,t23,t24,t25,(.slice p m c),(.int .i64 (i:Int)),v28,t29,(.string key),(.agg #[.int .i64 k,.int .i64 n,.int .u64 (b:Int),.string s,.slice pL nL cL,.slice pE nE cE]),(.agg #[.string key,.int .i64 k,.int .i64 n,.int .u64 (b:Int),.string s,.slice pL nL cL,.slice pE nE cE]),(.slice (some ⟨g,0,none⟩) 1 1),t34,(.slice p m c),(.int .i64 (i:Int)),t37,t38],defers:=D } (W.alloc (.cells #[.string key,.int .i64 k,.int .i64 n,.int .u64 (b:Int),.string s,.slice pL nL cL,.slice pE nE cE] 57)):=by
  intro g hH;refine wpAnyIn_ready rabcefghjk (by simp) ?_
  refine AllReadyIn.cons h3 (fun K hK=>?_) ?_
  ·obtain⟨v29,X,hrun,h3⟩:=hb
   refine Q2 _ _ _ rfl rfl rfl rfl hrun (hK _ _ (sabcdefghjk X v29 g (by rw [hH];exact h3)))
  refine AllReadyIn.cons h11 (fun K hK=>?_) ?_
  ·exact opWide_value rfl (by intro c h;cases h) (sl11 _ _ rfl rfl) (hK _ _ (sabcefghjkl g hH))
  exact AllReadyIn.nil
 have sabcefgjkl:wpAnyIn Fence.wide 9 Tryd.prog .any ops Q 5 #[true,true,true,false,true,true,true,false,false,true,true,true,false,false] { tmps:=#[(.slice p m c),(.string key),t2,t3,t4,(.pointer (some ⟨Bx,0,none⟩)),t6,(.int .i64 (i:Int)),t8,t9,t10,t11,t12,t13,t14,t15,t16,t17,t18,t19,t20,t21,t22,t23,t24,t25,(.slice p m c),(.int .i64 (i:Int)),v28,t29,(.string key),(.agg #[.int .i64 k,.int .i64 n,.int .u64 (b:Int),.string s,.slice pL nL cL,.slice pE nE cE]),(.agg #[.string key,.int .i64 k,.int .i64 n,.int .u64 (b:Int),.string s,.slice pL nL cL,.slice pE nE cE]),t33,t34,(.slice p m c),(.int .i64 (i:Int)),v37,t38],defers:=D } W:=by
  refine wpAnyIn_ready rabcefgjkl (by simp) ?_
  refine AllReadyIn.cons h3 (fun K hK=>?_) ?_
  ·obtain⟨v29,X,hrun,h3⟩:=ha
   refine Q2 _ _ _ rfl rfl rfl rfl hrun (hK _ _ (sabcdefgjkl X v29 h3))
  refine AllReadyIn.cons h7 (fun K hK=>?_) ?_
  ·go_simp
   exact hK _ _ (sabcefghjkl W.heap.size rfl)
  exact AllReadyIn.nil
 have sabefghjkl:∀(g:Nat),g=W.heap.size->wpAnyIn Fence.wide 9 Tryd.prog .any ops Q 5 #[true,true,false,false,true,true,true,true,false,true,true,true,false,false] { tmps:=#[(.slice p m c),(.string key),t2,t3,t4,(.pointer (some ⟨Bx,0,none⟩)),t6,(.int .i64 (i:Int)),t8,t9,t10,t11,t12,t13,t14,t15,t16,t17,t18,t19,t20,t21,t22,t23,t24,t25,(.slice p m c),(.int .i64 (i:Int)),t28,t29,(.string key),(.agg #[.int .i64 k,.int .i64 n,.int .u64 (b:Int),.string s,.slice pL nL cL,.slice pE nE cE]),(.agg #[.string key,.int .i64 k,.int .i64 n,.int .u64 (b:Int),.string s,.slice pL nL cL,.slice pE nE cE]),(.slice (some ⟨g,0,none⟩) 1 1),t34,(.slice p m c),(.int .i64 (i:Int)),v37,t38],defers:=D } (W.alloc (.cells #[.string key,.int .i64 k,.int .i64 n,.int .u64 (b:Int),.string s,.slice pL nL cL,.slice pE nE cE] 57)):=by
  intro g hH;refine wpAnyIn_ready rabefghjkl (by simp) ?_
  refine AllReadyIn.cons h2 (fun K hK=>?_) ?_
  ·exact opWide_value rfl (by intro c h;cases h) (sl2 _ _ rfl rfl) (hK _ _ (sabcefghjkl g hH))
  exact AllReadyIn.nil
 have sabcdefjk:∀(X:World) (v29:Value),H3 X v29->wpAnyIn Fence.wide 9 Tryd.prog .any ops Q 6 #[true,true,true,true,true,true,false,false,false,true,true,false,false,false] { tmps:=#[(.slice p m c),(.string key),t2,t3,t4,(.pointer (some ⟨Bx,0,none⟩)),t6,(.int .i64 (i:Int)),t8,t9,t10,t11,t12,t13,t14,t15,t16,t17,t18,t19,t20,t21,t22,t23,t24,t25,(.slice p m c),(.int .i64 (i:Int)),v28,v29,(.string key),(.agg #[.int .i64 k,.int .i64 n,.int .u64 (b:Int),.string s,.slice pL nL cL,.slice pE nE cE]),t32,t33,t34,(.slice p m c),(.int .i64 (i:Int)),t37,t38],defers:=D } X:=by
  intro X v29 hH;have e0:=d0 X v29 hH;have e1:=d1 X v29 hH;have e2:=d2 X v29 hH;have e3:=d3 X v29 hH;have e4:=d4 X v29 hH;have e5:=d5 X v29 hH;refine wpAnyIn_ready rabcdefjk (by simp) ?_
  refine AllReadyIn.cons h6 (fun K hK=>?_) ?_
  ·go_simp
   exact hK _ _ (sabcdefgjk X v29 hH)
  refine AllReadyIn.cons h11 (fun K hK=>?_) ?_
  ·exact opWide_value rfl (by intro c h;cases h) (sl11 _ _ rfl rfl) (hK _ _ (sabcdefjkl X v29 hH))
  exact AllReadyIn.nil
 have sabcdejkl:∀(X:World) (v29:Value),H3 X v29->wpAnyIn Fence.wide 9 Tryd.prog .any ops Q 6 #[true,true,true,true,true,false,false,false,false,true,true,true,false,false] { tmps:=#[(.slice p m c),(.string key),t2,t3,t4,(.pointer (some ⟨Bx,0,none⟩)),t6,(.int .i64 (i:Int)),t8,t9,t10,t11,t12,t13,t14,t15,t16,t17,t18,t19,t20,t21,t22,t23,t24,t25,(.slice p m c),(.int .i64 (i:Int)),v28,v29,(.string key),t31,t32,t33,t34,(.slice p m c),(.int .i64 (i:Int)),v37,t38],defers:=D } X:=by
  intro X v29 hH;have e0:=d0 X v29 hH;have e1:=d1 X v29 hH;have e2:=d2 X v29 hH;have e3:=d3 X v29 hH;have e4:=d4 X v29 hH;have e5:=d5 X v29 hH;refine wpAnyIn_ready rabcdejkl (by simp) ?_
  refine AllReadyIn.cons h5 (fun K hK=>?_) ?_
  ·go_simp
   exact hK _ _ (sabcdefjkl X v29 hH)
  exact AllReadyIn.nil
 have sabcefgjk:wpAnyIn Fence.wide 9 Tryd.prog .any ops Q 6 #[true,true,true,false,true,true,true,false,false,true,true,false,false,false] { tmps:=#[(.slice p m c),(.string key),t2,t3,t4,(.pointer (some ⟨Bx,0,none⟩)),t6,(.int .i64 (i:Int)),t8,t9,t10,t11,t12,t13,t14,t15,t16,t17,t18,t19,t20,t21,t22,t23,t24,t25,(.slice p m c),(.int .i64 (i:Int)),v28,t29,(.string key),(.agg #[.int .i64 k,.int .i64 n,.int .u64 (b:Int),.string s,.slice pL nL cL,.slice pE nE cE]),(.agg #[.string key,.int .i64 k,.int .i64 n,.int .u64 (b:Int),.string s,.slice pL nL cL,.slice pE nE cE]),t33,t34,(.slice p m c),(.int .i64 (i:Int)),t37,t38],defers:=D } W:=by
  refine wpAnyIn_ready rabcefgjk (by simp) ?_
  refine AllReadyIn.cons h3 (fun K hK=>?_) ?_
  ·obtain⟨v29,X,hrun,h3⟩:=ha
   refine Q2 _ _ _ rfl rfl rfl rfl hrun (hK _ _ (sabcdefgjk X v29 h3))
  refine AllReadyIn.cons h7 (fun K hK=>?_) ?_
  ·go_simp
   exact hK _ _ (sabcefghjk W.heap.size rfl)
  refine AllReadyIn.cons h11 (fun K hK=>?_) ?_
  ·exact opWide_value rfl (by intro c h;cases h) (sl11 _ _ rfl rfl) (hK _ _ (sabcefgjkl))
  exact AllReadyIn.nil
 have sabcefjkl:wpAnyIn Fence.wide 9 Tryd.prog .any ops Q 6 #[true,true,true,false,true,true,false,false,false,true,true,true,false,false] { tmps:=#[(.slice p m c),(.string key),t2,t3,t4,(.pointer (some ⟨Bx,0,none⟩)),t6,(.int .i64 (i:Int)),t8,t9,t10,t11,t12,t13,t14,t15,t16,t17,t18,t19,t20,t21,t22,t23,t24,t25,(.slice p m c),(.int .i64 (i:Int)),v28,t29,(.string key),(.agg #[.int .i64 k,.int .i64 n,.int .u64 (b:Int),.string s,.slice pL nL cL,.slice pE nE cE]),t32,t33,t34,(.slice p m c),(.int .i64 (i:Int)),v37,t38],defers:=D } W:=by
  refine wpAnyIn_ready rabcefjkl (by simp) ?_
  refine AllReadyIn.cons h3 (fun K hK=>?_) ?_
  ·obtain⟨v29,X,hrun,h3⟩:=ha
   refine Q2 _ _ _ rfl rfl rfl rfl hrun (hK _ _ (sabcdefjkl X v29 h3))
  refine AllReadyIn.cons h6 (fun K hK=>?_) ?_
  ·go_simp
   exact hK _ _ (sabcefgjkl)
  exact AllReadyIn.nil
 have sabefghjk:∀(g:Nat),g=W.heap.size->wpAnyIn Fence.wide 9 Tryd.prog .any ops Q 6 #[true,true,false,false,true,true,true,true,false,true,true,false,false,false] { tmps:=#[(.slice p m c),(.string key),t2,t3,t4,(.pointer (some ⟨Bx,0,none⟩)),t6,(.int .i64 (i:Int)),t8,t9,t10,t11,t12,t13,t14,t15,t16,t17,t18,t19,t20,t21,t22,t23,t24,t25,(.slice p m c),(.int .i64 (i:Int)),t28,t29,(.string key),(.agg #[.int .i64 k,.int .i64 n,.int .u64 (b:Int),.string s,.slice pL nL cL,.slice pE nE cE]),(.agg #[.string key,.int .i64 k,.int .i64 n,.int .u64 (b:Int),.string s,.slice pL nL cL,.slice pE nE cE]),(.slice (some ⟨g,0,none⟩) 1 1),t34,(.slice p m c),(.int .i64 (i:Int)),t37,t38],defers:=D } (W.alloc (.cells #[.string key,.int .i64 k,.int .i64 n,.int .u64 (b:Int),.string s,.slice pL nL cL,.slice pE nE cE] 57)):=by
  intro g hH;refine wpAnyIn_ready rabefghjk (by simp) ?_
  refine AllReadyIn.cons h2 (fun K hK=>?_) ?_
  ·exact opWide_value rfl (by intro c h;cases h) (sl2 _ _ rfl rfl) (hK _ _ (sabcefghjk g hH))
  refine AllReadyIn.cons h11 (fun K hK=>?_) ?_
  ·exact opWide_value rfl (by intro c h;cases h) (sl11 _ _ rfl rfl) (hK _ _ (sabefghjkl g hH))
  exact AllReadyIn.nil
 have sabefgjkl:wpAnyIn Fence.wide 9 Tryd.prog .any ops Q 6 #[true,true,false,false,true,true,true,false,false,true,true,true,false,false] { tmps:=#[(.slice p m c),(.string key),t2,t3,t4,(.pointer (some ⟨Bx,0,none⟩)),t6,(.int .i64 (i:Int)),t8,t9,t10,t11,t12,t13,t14,t15,t16,t17,t18,t19,t20,t21,t22,t23,t24,t25,(.slice p m c),(.int .i64 (i:Int)),t28,t29,(.string key),(.agg #[.int .i64 k,.int .i64 n,.int .u64 (b:Int),.string s,.slice pL nL cL,.slice pE nE cE]),(.agg #[.string key,.int .i64 k,.int .i64 n,.int .u64 (b:Int),.string s,.slice pL nL cL,.slice pE nE cE]),t33,t34,(.slice p m c),(.int .i64 (i:Int)),v37,t38],defers:=D } W:=by
  refine wpAnyIn_ready rabefgjkl (by simp) ?_
  refine AllReadyIn.cons h2 (fun K hK=>?_) ?_
  ·exact opWide_value rfl (by intro c h;cases h) (sl2 _ _ rfl rfl) (hK _ _ (sabcefgjkl))
  refine AllReadyIn.cons h7 (fun K hK=>?_) ?_
  ·go_simp
   exact hK _ _ (sabefghjkl W.heap.size rfl)
  exact AllReadyIn.nil
 have sabcdejk:∀(X:World) (v29:Value),H3 X v29->wpAnyIn Fence.wide 9 Tryd.prog .any ops Q 7 #[true,true,true,true,true,false,false,false,false,true,true,false,false,false] { tmps:=#[(.slice p m c),(.string key),t2,t3,t4,(.pointer (some ⟨Bx,0,none⟩)),t6,(.int .i64 (i:Int)),t8,t9,t10,t11,t12,t13,t14,t15,t16,t17,t18,t19,t20,t21,t22,t23,t24,t25,(.slice p m c),(.int .i64 (i:Int)),v28,v29,(.string key),t31,t32,t33,t34,(.slice p m c),(.int .i64 (i:Int)),t37,t38],defers:=D } X:=by
  intro X v29 hH;have e0:=d0 X v29 hH;have e1:=d1 X v29 hH;have e2:=d2 X v29 hH;have e3:=d3 X v29 hH;have e4:=d4 X v29 hH;have e5:=d5 X v29 hH;refine wpAnyIn_ready rabcdejk (by simp) ?_
  refine AllReadyIn.cons h5 (fun K hK=>?_) ?_
  ·go_simp
   exact hK _ _ (sabcdefjk X v29 hH)
  refine AllReadyIn.cons h11 (fun K hK=>?_) ?_
  ·exact opWide_value rfl (by intro c h;cases h) (sl11 _ _ rfl rfl) (hK _ _ (sabcdejkl X v29 hH))
  exact AllReadyIn.nil
 have sabcefjk:wpAnyIn Fence.wide 9 Tryd.prog .any ops Q 7 #[true,true,true,false,true,true,false,false,false,true,true,false,false,false] { tmps:=#[(.slice p m c),(.string key),t2,t3,t4,(.pointer (some ⟨Bx,0,none⟩)),t6,(.int .i64 (i:Int)),t8,t9,t10,t11,t12,t13,t14,t15,t16,t17,t18,t19,t20,t21,t22,t23,t24,t25,(.slice p m c),(.int .i64 (i:Int)),v28,t29,(.string key),(.agg #[.int .i64 k,.int .i64 n,.int .u64 (b:Int),.string s,.slice pL nL cL,.slice pE nE cE]),t32,t33,t34,(.slice p m c),(.int .i64 (i:Int)),t37,t38],defers:=D } W:=by
  refine wpAnyIn_ready rabcefjk (by simp) ?_
  refine AllReadyIn.cons h3 (fun K hK=>?_) ?_
  ·obtain⟨v29,X,hrun,h3⟩:=ha
   refine Q2 _ _ _ rfl rfl rfl rfl hrun (hK _ _ (sabcdefjk X v29 h3))
  refine AllReadyIn.cons h6 (fun K hK=>?_) ?_
  ·go_simp
   exact hK _ _ (sabcefgjk)
  refine AllReadyIn.cons h11 (fun K hK=>?_) ?_
  ·exact opWide_value rfl (by intro c h;cases h) (sl11 _ _ rfl rfl) (hK _ _ (sabcefjkl))
  exact AllReadyIn.nil
 have sabcejkl:wpAnyIn Fence.wide 9 Tryd.prog .any ops Q 7 #[true,true,true,false,true,false,false,false,false,true,true,true,false,false] { tmps:=#[(.slice p m c),(.string key),t2,t3,t4,(.pointer (some ⟨Bx,0,none⟩)),t6,(.int .i64 (i:Int)),t8,t9,t10,t11,t12,t13,t14,t15,t16,t17,t18,t19,t20,t21,t22,t23,t24,t25,(.slice p m c),(.int .i64 (i:Int)),v28,t29,(.string key),t31,t32,t33,t34,(.slice p m c),(.int .i64 (i:Int)),v37,t38],defers:=D } W:=by
  refine wpAnyIn_ready rabcejkl (by simp) ?_
  refine AllReadyIn.cons h3 (fun K hK=>?_) ?_
  ·obtain⟨v29,X,hrun,h3⟩:=ha
   refine Q2 _ _ _ rfl rfl rfl rfl hrun (hK _ _ (sabcdejkl X v29 h3))
  refine AllReadyIn.cons h5 (fun K hK=>?_) ?_
  ·go_simp
   exact hK _ _ (sabcefjkl)
  exact AllReadyIn.nil
 have sabefgjk:wpAnyIn Fence.wide 9 Tryd.prog .any ops Q 7 #[true,true,false,false,true,true,true,false,false,true,true,false,false,false] { tmps:=#[(.slice p m c),(.string key),t2,t3,t4,(.pointer (some ⟨Bx,0,none⟩)),t6,(.int .i64 (i:Int)),t8,t9,t10,t11,t12,t13,t14,t15,t16,t17,t18,t19,t20,t21,t22,t23,t24,t25,(.slice p m c),(.int .i64 (i:Int)),t28,t29,(.string key),(.agg #[.int .i64 k,.int .i64 n,.int .u64 (b:Int),.string s,.slice pL nL cL,.slice pE nE cE]),(.agg #[.string key,.int .i64 k,.int .i64 n,.int .u64 (b:Int),.string s,.slice pL nL cL,.slice pE nE cE]),t33,t34,(.slice p m c),(.int .i64 (i:Int)),t37,t38],defers:=D } W:=by
  refine wpAnyIn_ready rabefgjk (by simp) ?_
  refine AllReadyIn.cons h2 (fun K hK=>?_) ?_
  ·exact opWide_value rfl (by intro c h;cases h) (sl2 _ _ rfl rfl) (hK _ _ (sabcefgjk))
  refine AllReadyIn.cons h7 (fun K hK=>?_) ?_
  ·go_simp
   exact hK _ _ (sabefghjk W.heap.size rfl)
  refine AllReadyIn.cons h11 (fun K hK=>?_) ?_
  ·exact opWide_value rfl (by intro c h;cases h) (sl11 _ _ rfl rfl) (hK _ _ (sabefgjkl))
  exact AllReadyIn.nil
 have sabefjkl:wpAnyIn Fence.wide 9 Tryd.prog .any ops Q 7 #[true,true,false,false,true,true,false,false,false,true,true,true,false,false] { tmps:=#[(.slice p m c),(.string key),t2,t3,t4,(.pointer (some ⟨Bx,0,none⟩)),t6,(.int .i64 (i:Int)),t8,t9,t10,t11,t12,t13,t14,t15,t16,t17,t18,t19,t20,t21,t22,t23,t24,t25,(.slice p m c),(.int .i64 (i:Int)),t28,t29,(.string key),(.agg #[.int .i64 k,.int .i64 n,.int .u64 (b:Int),.string s,.slice pL nL cL,.slice pE nE cE]),t32,t33,t34,(.slice p m c),(.int .i64 (i:Int)),v37,t38],defers:=D } W:=by
  refine wpAnyIn_ready rabefjkl (by simp) ?_
  refine AllReadyIn.cons h2 (fun K hK=>?_) ?_
  ·exact opWide_value rfl (by intro c h;cases h) (sl2 _ _ rfl rfl) (hK _ _ (sabcefjkl))
  refine AllReadyIn.cons h6 (fun K hK=>?_) ?_
  ·go_simp
   exact hK _ _ (sabefgjkl)
  exact AllReadyIn.nil
 have sabcejk:wpAnyIn Fence.wide 9 Tryd.prog .any ops Q 8 #[true,true,true,false,true,false,false,false,false,true,true,false,false,false] { tmps:=#[(.slice p m c),(.string key),t2,t3,t4,(.pointer (some ⟨Bx,0,none⟩)),t6,(.int .i64 (i:Int)),t8,t9,t10,t11,t12,t13,t14,t15,t16,t17,t18,t19,t20,t21,t22,t23,t24,t25,(.slice p m c),(.int .i64 (i:Int)),v28,t29,(.string key),t31,t32,t33,t34,(.slice p m c),(.int .i64 (i:Int)),t37,t38],defers:=D } W:=by
  refine wpAnyIn_ready rabcejk (by simp) ?_
  refine AllReadyIn.cons h3 (fun K hK=>?_) ?_
  ·obtain⟨v29,X,hrun,h3⟩:=ha
   refine Q2 _ _ _ rfl rfl rfl rfl hrun (hK _ _ (sabcdejk X v29 h3))
  refine AllReadyIn.cons h5 (fun K hK=>?_) ?_
  ·go_simp
   exact hK _ _ (sabcefjk)
  refine AllReadyIn.cons h11 (fun K hK=>?_) ?_
  ·exact opWide_value rfl (by intro c h;cases h) (sl11 _ _ rfl rfl) (hK _ _ (sabcejkl))
  exact AllReadyIn.nil
 have sabefjk:wpAnyIn Fence.wide 9 Tryd.prog .any ops Q 8 #[true,true,false,false,true,true,false,false,false,true,true,false,false,false] { tmps:=#[(.slice p m c),(.string key),t2,t3,t4,(.pointer (some ⟨Bx,0,none⟩)),t6,(.int .i64 (i:Int)),t8,t9,t10,t11,t12,t13,t14,t15,t16,t17,t18,t19,t20,t21,t22,t23,t24,t25,(.slice p m c),(.int .i64 (i:Int)),t28,t29,(.string key),(.agg #[.int .i64 k,.int .i64 n,.int .u64 (b:Int),.string s,.slice pL nL cL,.slice pE nE cE]),t32,t33,t34,(.slice p m c),(.int .i64 (i:Int)),t37,t38],defers:=D } W:=by
  refine wpAnyIn_ready rabefjk (by simp) ?_
  refine AllReadyIn.cons h2 (fun K hK=>?_) ?_
  ·exact opWide_value rfl (by intro c h;cases h) (sl2 _ _ rfl rfl) (hK _ _ (sabcefjk))
  refine AllReadyIn.cons h6 (fun K hK=>?_) ?_
  ·go_simp
   exact hK _ _ (sabefgjk)
  refine AllReadyIn.cons h11 (fun K hK=>?_) ?_
  ·exact opWide_value rfl (by intro c h;cases h) (sl11 _ _ rfl rfl) (hK _ _ (sabefjkl))
  exact AllReadyIn.nil
 have sabejkl:wpAnyIn Fence.wide 9 Tryd.prog .any ops Q 8 #[true,true,false,false,true,false,false,false,false,true,true,true,false,false] { tmps:=#[(.slice p m c),(.string key),t2,t3,t4,(.pointer (some ⟨Bx,0,none⟩)),t6,(.int .i64 (i:Int)),t8,t9,t10,t11,t12,t13,t14,t15,t16,t17,t18,t19,t20,t21,t22,t23,t24,t25,(.slice p m c),(.int .i64 (i:Int)),t28,t29,(.string key),t31,t32,t33,t34,(.slice p m c),(.int .i64 (i:Int)),v37,t38],defers:=D } W:=by
  refine wpAnyIn_ready rabejkl (by simp) ?_
  refine AllReadyIn.cons h2 (fun K hK=>?_) ?_
  ·exact opWide_value rfl (by intro c h;cases h) (sl2 _ _ rfl rfl) (hK _ _ (sabcejkl))
  refine AllReadyIn.cons h5 (fun K hK=>?_) ?_
  ·go_simp
   exact hK _ _ (sabefjkl)
  exact AllReadyIn.nil
 have sabejk:wpAnyIn Fence.wide 9 Tryd.prog .any ops Q 9 #[true,true,false,false,true,false,false,false,false,true,true,false,false,false] { tmps:=#[(.slice p m c),(.string key),t2,t3,t4,(.pointer (some ⟨Bx,0,none⟩)),t6,(.int .i64 (i:Int)),t8,t9,t10,t11,t12,t13,t14,t15,t16,t17,t18,t19,t20,t21,t22,t23,t24,t25,(.slice p m c),(.int .i64 (i:Int)),t28,t29,(.string key),t31,t32,t33,t34,(.slice p m c),(.int .i64 (i:Int)),t37,t38],defers:=D } W:=by
  refine wpAnyIn_ready rabejk (by simp) ?_
  refine AllReadyIn.cons h2 (fun K hK=>?_) ?_
  ·exact opWide_value rfl (by intro c h;cases h) (sl2 _ _ rfl rfl) (hK _ _ (sabcejk))
  refine AllReadyIn.cons h5 (fun K hK=>?_) ?_
  ·go_simp
   exact hK _ _ (sabefjk)
  refine AllReadyIn.cons h11 (fun K hK=>?_) ?_
  ·exact opWide_value rfl (by intro c h;cases h) (sl11 _ _ rfl rfl) (hK _ _ (sabejkl))
  exact AllReadyIn.nil
 exact sabejk
open Go.RowKit Go.Shelf
theorem append_from {ok:Nat->Prop}{n0 f:Nat}{X:World}{v:Value}{F G:List V}{r:List (List Value)}{ps:Option Addr}{cs:Nat}(ty:TypeId)(hO:OwnE ok n0 f X v F)(hG:RowsE ok f X G r)(hok:∀b,ok b->b<n0)(hn0:n0<=X.heap.size)
  (src:G.length≠0->∃b q,ps=some ⟨b,q,none⟩/\∀i u,r.flatten[i]?=some u->X.cell? ⟨b,q+i,none⟩=some u) (hlen:F.length+G.length<=10000000) :
  ∃v' X',(Builtin.append_ #[24,24] ty #[v,.slice ps G.length cs]).run Tryd.prog X=.ok v' X'/\OwnE ok n0 f X' v' (F++G)/\X.grownBy X' v.ownBlock/\∀k,v.ownBlock=some k->n0<=k:=by
 obtain⟨i0,hi,hz0,hz1,hz2⟩:=info_parts JK;obtain⟨rows,how,hrows⟩:=hO;have hge:∀k,v.ownBlock=some k->n0<=k:=fun k hk=>(how.lt k hk).1
 have hG':RowsE (okE ok n0 X v) f X G r:=hG.kept (fun b hb=>⟨Nat.lt_of_lt_of_le (hok b hb) hn0,fun e=>by have:=hge b e.symm;have:=hok b hb;omega,.inl hb⟩) (Nat.le_refl _) (fun _ _ _=>rfl)
 have fin:∀ad:Addr,ps=some ad->(∀j u,r.flatten[j]?=some u->X.cell? (ad.add j)=some u)->∃v' X',(Builtin.append_ #[24,24] ty #[v,.slice ps G.length cs]).run Tryd.prog X=.ok v' X'/\OwnE ok n0 f X' v' (F++G)/\X.grownBy X' v.ownBlock/\∀k,v.ownBlock=some k->n0<=k:=fun ad hp hc=>by
  obtain⟨v',X',hrun,hown',hgrow,_,hat⟩:=run_append_own_at (P:=Tryd.prog) X n0 24 ty 57 i0 _ 7 104 Tryd.underlying24 hi hz0 hz1 hz2 rfl (by decide) v _ _ how ad G.length cs r.flatten hG.flat hc hG.ones (by unfold maxLen;omega) (by omega) hn0;rw [hp];exact⟨v',X',hrun,OwnE.pushes hrows hG' hown' hgrow hat,hgrow,hge⟩
 by_cases h0:G.length=0
 ·obtain rfl:G=[]:=List.eq_nil_of_length_eq_zero h0
  have hr0:r=[]:=List.eq_nil_of_length_eq_zero hG.1;subst hr0;cases ps with
  | some ad=>exact fin ad rfl (fun j u h=>by simp at h)
  | none=>
   refine⟨v,X,?_,by rw [List.append_nil];exact⟨rows,how,hrows⟩,⟨rfl,rfl,rfl,Nat.le_refl _,fun _ _ _=>rfl⟩,hge⟩
   rcases how.2 with ⟨rfl,e0⟩ | ⟨g,cap,cur,rfl,_,hg,k1,k2,k3,k4⟩
   ·simp [Builtin.append_,run_underlying Tryd.underlying24,sizeOf,typeInfo,hi,Builtin.lenOf,Builtin.firstCells]
   ·simp [Builtin.append_,run_underlying Tryd.underlying24,sizeOf,typeInfo,hi,Builtin.lenOf,Builtin.firstCells,k1,storeCells]
 ·obtain⟨b,q,hp,hc⟩:=src h0
  exact fin ⟨b,q,none⟩ hp (fun j u h=>by rw [Addr.add_lit];exact hc j u h)
open Go.RowKit Go.Shelf
theorem slice_hi (ρ:Operand->Value)(X:World)(o:Oper)(x y:Operand)(ho:o.op=.slice 24 x none (some y) none){p:Option Addr}{m c j:Nat}(e1:ρ x=.slice p m c)(e2:ρ y=.int .i64 (j:Int))(hj:j<=c) :
  (execOp ρ o).run Tryd.prog X=.ok (.value (.slice (if c=0 then p else p.map (·.add (0*7))) j c)) X:=by
 have h0:(0:Int)<=(j:Int):=by omega
 have h1:(j:Int)<=(c:Int):=by omega
 simp [execOp,ho,e1,e2,go_sem,h0,h1]
theorem slice_lo (ρ:Operand->Value)(X:World)(o:Oper)(x y:Operand)(ho:o.op=.slice 24 x (some y) none none){p:Option Addr}{m c j:Nat}(e1:ρ x=.slice p m c)(e2:ρ y=.int .i64 (j:Int))(hj:j<=m)(hm:m<=c) :
  (execOp ρ o).run Tryd.prog X=.ok (.value (.slice (if c=j then p else p.map (·.add (j*7))) (m - j) (c - j))) X:=by
 have h0:(0:Int)<=(j:Int):=by omega
 have h1:(j:Int)<=(m:Int):=by omega
 simp [execOp,ho,e1,e2,go_sem,h0,h1]
theorem RowsE.cut {ok:Nat->Prop}{f:Nat}{W:World}{F:List V}{r:List (List Value)}(h:RowsE ok f W F r)(j:Nat)(hj:j<=F.length):(∀(i:Nat) (u:Value),(r.take j).flatten[i]?=some u->r.flatten[i]?=some u)/\∀(i:Nat) (u:Value),(r.drop j).flatten[i]?=some u->r.flatten[j*7+i]?=some u:=by
 have e:r.flatten=(r.take j).flatten++(r.drop j).flatten:=by rw [<-List.flatten_append,List.take_append_drop]
 have hl:(r.take j).flatten.length=j*7:=by
  rw [(h.take j).flat,List.length_take,Nat.min_eq_left hj]
 refine⟨fun i u hi=>?_,fun i u hi=>?_⟩
 ·rw [e,List.getElem?_append_left (List.getElem?_eq_some_iff.1 hi).1]
  exact hi
 ·rw [e,List.getElem?_append_right (by omega),hl,Nat.add_sub_cancel_left]
  exact hi
theorem cut_src {ok:Nat->Prop}{f:Nat}{W:World}{p:Option Addr}{c:Nat}{F:List V}(h:JO ok f W p F)(hc:F.length<=c)(j:Nat)(hj:j<=F.length):∃r,RowsE ok f W F r/\
  ((F.take j).length≠0->∃b q,(if c=0 then p else p.map (·.add (0*7)))=some ⟨b,q,none⟩/\b<W.heap.size/\∀(i:Nat) (u:Value),(r.take j).flatten[i]?=some u->W.cell? ⟨b,q+i,none⟩=some u)/\
  ((F.drop j).length≠0->∃b q,(if c=j then p else p.map (·.add (j*7)))=some ⟨b,q,none⟩/\b<W.heap.size/\∀(i:Nat) (u:Value),(r.drop j).flatten[i]?=some u->W.cell? ⟨b,q+i,none⟩=some u):=by
 by_cases h0:F.length=0
 ·obtain rfl:F=[]:=List.eq_nil_of_length_eq_zero h0
  exact⟨[],⟨rfl,fun i us hi=>by simp at hi⟩,fun hn=>by simp at hn,fun hn=>by simp at hn⟩
 ·obtain⟨b,q,r,rfl,hok,hlt,hr,hcell⟩:=rows_of h h0
  obtain⟨k1,k2⟩:=hr.cut j hj;refine⟨r,hr,fun hn=>⟨b,q,?_,hlt,fun i u hi=>hcell i u (k1 i u hi)⟩,fun hn=>⟨b,q+j*7,?_,hlt,fun i u hi=>?_⟩⟩
  ·rw [if_neg (by omega),Option.map_some,Addr.add_lit]
   rfl
  ·rw [List.length_drop] at hn
   rw [if_neg (by omega),Option.map_some,Addr.add_lit]
  ·rw [Nat.add_assoc]
   exact hcell _ u (k2 i u hi)
open Go.RowKit Go.Shelf
open Go.RowKit Go.Shelf
theorem infoValU:(Tryd.prog.info? 26).map (fun i=>(i.zero,i.size,i.bytes))=some (some (.agg #[.int .i64 0,.int .i64 0,.int .u64 0,.string ⟨#[]⟩,.slice none 0 0,.slice none 0 0]),6,88):=by kernel_rfl
abbrev RowL (ok:Nat->Prop) (f:Nat) (W:World) (p:Option Addr) (F:List V):Prop:=RowIn ok W p 6 F.length (fun j us=>∃y,F[j]?=some y/\LiesV ok f W us y)
theorem RowsL.append {ok:Nat->Prop}{f:Nat}{W:World}{F G:List V}{r s:List (List Value)}(h:RowsL ok f W F r)(k:RowsL ok f W G s):RowsL ok f W (F++G) (r++s):=by
 refine⟨by simp [h.1,k.1],fun i us hi=>?_⟩
 rcases Nat.lt_or_ge i r.length with hlt | hge
 ·rw [List.getElem?_append_left hlt] at hi
  obtain⟨y,h2,h3⟩:=h.2 i us hi;exact⟨y,by rw [List.getElem?_append_left (by rw [<-h.1];exact hlt)];exact h2,h3⟩
 ·rw [List.getElem?_append_right hge] at hi
  obtain⟨y,h2,h3⟩:=k.2 _ us hi;exact⟨y,by rw [List.getElem?_append_right (by rw [<-h.1];exact hge),<-h.1];exact h2,h3⟩
theorem RowsL.take {ok:Nat->Prop}{f:Nat}{W:World}{F:List V}{r:List (List Value)}(h:RowsL ok f W F r)(n:Nat):RowsL ok f W (F.take n) (r.take n) :=
 ⟨by simp [h.1],fun i us hi=>by
  rw [List.getElem?_take] at hi;split at hi
  ·rename_i hn
   obtain⟨y,h2,h3⟩:=h.2 i us hi;exact⟨y,by rw [List.getElem?_take,if_pos hn];exact h2,h3⟩
  ·cases hi⟩
theorem RowsL.drop {ok:Nat->Prop}{f:Nat}{W:World}{F:List V}{r:List (List Value)}(h:RowsL ok f W F r)(n:Nat):RowsL ok f W (F.drop n) (r.drop n) :=
 ⟨by simp [h.1],fun i us hi=>by
  rw [List.getElem?_drop] at hi;obtain⟨y,h2,h3⟩:=h.2 _ us hi;exact⟨y,by rw [List.getElem?_drop];exact h2,h3⟩⟩
theorem RowsL.flat {ok:Nat->Prop}{f:Nat}{W:World}:∀{F:List V} {r:List (List Value)},RowsL ok f W F r->r.flatten.length=F.length*6
 | [],[],_=>rfl
 | [],_ :: _,h=>by have:=h.1;simp at this
 | _ :: _,[],h=>by have:=h.1;simp at this
 | x :: F,a :: r,h=>by
  obtain⟨y,_,h1⟩:=h.2 0 a rfl
  have h2:RowsL ok f W F r:=⟨by have:=h.1;simpa using this,fun i us hi=>by
   obtain⟨y,k2,k3⟩:=h.2 (i+1) us (by simpa using hi);exact⟨y,by simpa using k2,k3⟩⟩
  have h3:=RowsL.flat h2;rw [List.flatten_cons,List.length_append,h1.len,h3,List.length_cons,Nat.add_mul];omega
theorem RowsL.ones {ok:Nat->Prop}{f:Nat}{W:World}{F:List V}{r:List (List Value)}(h:RowsL ok f W F r):∀u∈r.flatten,u.oneCell'=true:=fun u hu=>by
 obtain⟨us,hus,hm⟩:=List.mem_flatten.1 hu;obtain⟨i,hi⟩:=List.mem_iff_getElem?.1 hus
 obtain⟨y,_,hl⟩:=h.2 i us hi;exact hl.ones u hm
theorem rowsL_of {ok:Nat->Prop}{f:Nat}{W:World}{p:Option Addr}{F:List V}(h:RowL ok f W p F)(hn:F.length≠0):∃b q r,p=some ⟨b,q,none⟩/\ok b/\b<W.heap.size/\RowsL ok f W F r/\∀i u,r.flatten[i]?=some u->W.cell? ⟨b,q+i,none⟩=some u:=by
 obtain⟨b,q,hp,hok,hlt,hk⟩:=h hn
 obtain⟨g,hg⟩:∃g:Nat->List Value,∀j,j<F.length->(g j).length=6/\(∀i,i<6->W.cell? ⟨b,q+j*6+i,none⟩=(g j)[i]?)/\∃y,F[j]?=some y/\LiesV ok f W (g j) y :=
  ⟨fun j=>if hj:j<F.length then Classical.choose (hk j hj) else [],fun j hj=>by
   have:=Classical.choose_spec (hk j hj);simp only [dif_pos hj];exact this⟩
 have hr:RowsL ok f W F ((List.range F.length).map g):=⟨by simp,fun i us hi=>by
  rw [List.getElem?_map] at hi
  rcases Nat.lt_or_ge i F.length with hlt | hge
  ·rw [List.getElem?_range hlt] at hi
   simp only [Option.map_some,Option.some.injEq] at hi;rw [<-hi];exact(hg i hlt).2.2
  ·rw [List.getElem?_eq_none (by simpa using hge)] at hi
   cases hi⟩
 refine⟨b,q,_,hp,hok,hlt,hr,fun i u hi=>?_⟩
 have hi6:i<F.length*6:=by
  rw [<-hr.flat];exact(List.getElem?_eq_some_iff.1 hi).1
 have hj:i / 6<F.length:=by omega
 have e:=flatten_at (r:=i % 6) (fun i us hi=>by obtain⟨y,_,h⟩:=hr.2 i us hi;exact h.len) (show((List.range F.length).map g)[i / 6]?=some (g (i / 6)) by rw [List.getElem?_map,List.getElem?_range hj];rfl) (by omega);rw [show i / 6*6+i % 6=i by omega,hi] at e;have h2:=(hg _ hj).2.1 (i % 6) (by omega);rw [show q+i / 6*6+i % 6=q+i by omega,<-e] at h2;exact h2
def OwnL (ok:Nat->Prop)(n0 f:Nat)(W:World)(v:Value)(F:List V):Prop:=∃rows:List (List Value),W.ownsRow n0 26 6 v F.length rows.flatten/\RowsL (okE ok n0 W v) f W F rows
theorem OwnL.nil (ok:Nat->Prop)(n0 f:Nat)(W:World):OwnL ok n0 f W (.slice none 0 0) []:=⟨[],World.ownsRow_nil _ _ _ _,rfl,fun i us h=>by simp at h⟩
theorem OwnL.still {ok:Nat->Prop}{n0 f:Nat}{W W':World}{v:Value}{F:List V}(h:OwnL ok n0 f W v F)(hb:Below W.heap.size W W'):OwnL ok n0 f W' v F:=by
 obtain⟨rows,ho,hr⟩:=h;refine⟨rows,ho.kept (row:=none) ⟨hb.os,hb.tape,hb.output,hb.size,fun b hlt _=>hb.block b hlt⟩ ?_,hr.1,fun i us hi=>?_⟩
 ·cases hv:v.ownBlock with
  | none=>exact .inl rfl
  | some g=>exact .inr (by simp)
 ·obtain⟨y,h2,h5⟩:=hr.2 i us hi
  exact⟨y,h2,h5.kept (fun b hb'=>⟨Nat.lt_of_lt_of_le hb'.1 hb.size,hb'.2⟩) hb.size (fun b _ hlt=>hb.block b hlt)⟩
theorem OwnL.pushes {ok:Nat->Prop}{n0 f:Nat}{W w1:World}{v v':Value}{F G:List V}{r s:List (List Value)}(hr:RowsL (okE ok n0 W v) f W F r)(hs:RowsL (okE ok n0 W v) f W G s)
  (ho:w1.ownsRow n0 26 6 v' (F.length+G.length) (r.flatten++s.flatten)) (hg:W.grownBy w1 v.ownBlock) (hat:v'.ownBlock=v.ownBlock\/v'.ownBlock=some W.heap.size):OwnL ok n0 f w1 v' (F++G):=by
 have okk:∀b,okE ok n0 W v b->okE ok n0 w1 v' b:=fun b hb=>⟨Nat.lt_of_lt_of_le hb.1 hg.size,fun e=>hat.elim (fun h=>hb.2.1 (e.trans h)) (fun h=>by
  have:=e.trans h;injection this with this;have:=hb.1;omega),hb.2.2⟩
 exact⟨r++s,by rw [List.length_append,List.flatten_append];exact ho,(hr.append hs).kept okk hg.size (fun b hb hlt=>hg.block b hlt hb.2.1)⟩
theorem OwnL.row3 {ok:Nat->Prop}{n0 f:Nat}{W:World}{v:Value}{F:List V}(h:OwnL ok n0 f W v F):∃p c,v=.slice p F.length c/\F.length<=c/\c<=maxLen/\RowL (fun b=>(ok b\/n0<=b)/\b<W.heap.size) f W p F:=by
 obtain⟨rows,⟨hl,ho⟩,hr⟩:=h
 rcases ho with ⟨rfl,h0⟩ | ⟨g,cap,cur,rfl,hg0,hg,h1,h2,h3,h4⟩
 ·exact⟨none,0,by rw [h0],by omega,Nat.zero_le _,fun hn=>absurd h0 hn⟩
 ·have hgl:=(Array.getElem?_eq_some_iff.1 hg).1
  refine⟨_,cap,rfl,h1,h2,fun hn=>⟨g,0,rfl,⟨.inr hg0,hgl⟩,hgl,fun j hj=>?_⟩⟩;obtain⟨us,hus⟩:∃us,rows[j]?=some us:=⟨_,List.getElem?_eq_getElem (by rw [hr.1];exact hj)⟩
  obtain⟨y,u2,u5⟩:=hr.2 j us hus;refine⟨us,u5.len,fun i hi=>?_,y,u2,u5.weaken (fun b hb=>⟨hb.2.2,hb.1⟩)⟩;have e:=flatten_at (fun i us hi=>by obtain⟨y,_,h⟩:=hr.2 i us hi;exact h.len) hus hi;have hlt:j*6+i<F.length*6:=by omega
  rw [<-h4,List.getElem?_take_of_lt hlt,Array.getElem?_toList] at e;rw [<-e,Nat.zero_add];simp [World.cell?,hg]
theorem OwnE.row3 {ok:Nat->Prop}{n0 f:Nat}{W:World}{v:Value}{F:List V}(h:OwnE ok n0 f W v F):∃p c,v=.slice p F.length c/\F.length<=c/\c<=maxLen/\JO (fun b=>(ok b\/n0<=b)/\b<W.heap.size) f W p F:=by
 obtain⟨rows,⟨hl,ho⟩,hr⟩:=h
 rcases ho with ⟨rfl,h0⟩ | ⟨g,cap,cur,rfl,hg0,hg,h1,h2,h3,h4⟩
 ·exact⟨none,0,by rw [h0],by omega,Nat.zero_le _,fun hn=>absurd h0 hn⟩
 ·have hgl:=(Array.getElem?_eq_some_iff.1 hg).1
  refine⟨_,cap,rfl,h1,h2,fun hn=>⟨g,0,rfl,⟨.inr hg0,hgl⟩,hgl,fun j hj=>?_⟩⟩;obtain⟨us,hus⟩:∃us,rows[j]?=some us:=⟨_,List.getElem?_eq_getElem (by rw [hr.1];exact hj)⟩
  obtain⟨u1,key,y,xs,u2,u3,u4,u5⟩:=hr.2 j us hus;refine⟨us,u1,fun i hi=>?_,key,y,xs,u2,u3,u4,u5.weaken (fun b hb=>⟨hb.2.2,hb.1⟩)⟩;have e:=flatten_at (fun i us hi=>(hr.2 i us hi).1) hus hi;have hlt:j*7+i<F.length*7:=by omega
  rw [<-h4,List.getElem?_take_of_lt hlt,Array.getElem?_toList] at e;rw [<-e,Nat.zero_add];simp [World.cell?,hg]
theorem appendL_from {ok:Nat->Prop}{n0 f:Nat}{X:World}{v:Value}{F G:List V}{r:List (List Value)}{ps:Option Addr}{cs:Nat}(ty:TypeId)(hO:OwnL ok n0 f X v F)(hG:RowsL ok f X G r)(hok:∀b,ok b->b<n0)(hn0:n0<=X.heap.size)
  (src:G.length≠0->∃b q,ps=some ⟨b,q,none⟩/\∀i u,r.flatten[i]?=some u->X.cell? ⟨b,q+i,none⟩=some u) (hlen:F.length+G.length<=10000000) :
  ∃v' X',(Builtin.append_ #[23,23] ty #[v,.slice ps G.length cs]).run Tryd.prog X=.ok v' X'/\OwnL ok n0 f X' v' (F++G)/\X.grownBy X' v.ownBlock/\∀k,v.ownBlock=some k->n0<=k:=by
 obtain⟨i0,hi,hz0,hz1,hz2⟩:=info_parts infoValU;obtain⟨rows,how,hrows⟩:=hO;have hge:∀k,v.ownBlock=some k->n0<=k:=fun k hk=>(how.lt k hk).1
 have hG':RowsL (okE ok n0 X v) f X G r:=hG.kept (fun b hb=>⟨Nat.lt_of_lt_of_le (hok b hb) hn0,fun e=>by have:=hge b e.symm;have:=hok b hb;omega,.inl hb⟩) (Nat.le_refl _) (fun _ _ _=>rfl)
 have fin:∀ad:Addr,ps=some ad->(∀j u,r.flatten[j]?=some u->X.cell? (ad.add j)=some u)->∃v' X',(Builtin.append_ #[23,23] ty #[v,.slice ps G.length cs]).run Tryd.prog X=.ok v' X'/\OwnL ok n0 f X' v' (F++G)/\X.grownBy X' v.ownBlock/\∀k,v.ownBlock=some k->n0<=k:=fun ad hp hc=>by
  obtain⟨v',X',hrun,hown',hgrow,_,hat⟩:=run_append_own_at (P:=Tryd.prog) X n0 23 ty 26 i0 _ 6 88 Tryd.underlying23 hi hz0 hz1 hz2 rfl (by decide) v _ _ how ad G.length cs r.flatten hG.flat hc hG.ones (by unfold maxLen;omega) (by omega) hn0;rw [hp];exact⟨v',X',hrun,OwnL.pushes hrows hG' hown' hgrow hat,hgrow,hge⟩
 by_cases h0:G.length=0
 ·obtain rfl:G=[]:=List.eq_nil_of_length_eq_zero h0
  have hr0:r=[]:=List.eq_nil_of_length_eq_zero hG.1;subst hr0;cases ps with
  | some ad=>exact fin ad rfl (fun j u h=>by simp at h)
  | none=>
   refine⟨v,X,?_,by rw [List.append_nil];exact⟨rows,how,hrows⟩,⟨rfl,rfl,rfl,Nat.le_refl _,fun _ _ _=>rfl⟩,hge⟩
   rcases how.2 with ⟨rfl,e0⟩ | ⟨g,cap,cur,rfl,_,hg,k1,k2,k3,k4⟩
   ·simp [Builtin.append_,run_underlying Tryd.underlying23,sizeOf,typeInfo,hi,Builtin.lenOf,Builtin.firstCells]
   ·simp [Builtin.append_,run_underlying Tryd.underlying23,sizeOf,typeInfo,hi,Builtin.lenOf,Builtin.firstCells,k1,storeCells]
 ·obtain⟨b,q,hp,hc⟩:=src h0
  exact fin ⟨b,q,none⟩ hp (fun j u h=>by rw [Addr.add_lit];exact hc j u h)
theorem RowsL.cut {ok:Nat->Prop}{f:Nat}{W:World}{F:List V}{r:List (List Value)}(h:RowsL ok f W F r)(j:Nat)(hj:j<=F.length):(∀(i:Nat) (u:Value),(r.take j).flatten[i]?=some u->r.flatten[i]?=some u)/\∀(i:Nat) (u:Value),(r.drop j).flatten[i]?=some u->r.flatten[j*6+i]?=some u:=by
 have e:r.flatten=(r.take j).flatten++(r.drop j).flatten:=by rw [<-List.flatten_append,List.take_append_drop]
 have hl:(r.take j).flatten.length=j*6:=by
  rw [(h.take j).flat,List.length_take,Nat.min_eq_left hj]
 refine⟨fun i u hi=>?_,fun i u hi=>?_⟩
 ·rw [e,List.getElem?_append_left (List.getElem?_eq_some_iff.1 hi).1]
  exact hi
 ·rw [e,List.getElem?_append_right (by omega),hl,Nat.add_sub_cancel_left]
  exact hi
open Go.RowKit Go.Shelf
theorem with_at (ok:Nat->Prop)(f:Nat)(w:World)(E:List V)(pE:Option Addr)(cE:Nat)(kk:ByteArray)(y:V)(k n:Int)(b:Nat)(s:ByteArray)(pL:Option Addr)(nL cL:Nat)(pV:Option Addr)(nV cV:Nat)(hE:JO ok f w pE E)(h1:E.length<=cE)(h2:cE<=maxLen)(hok:∀b,ok b->b<w.heap.size)(hn:E.length<=2000000)(hkk:kk.size<=maxLen)
  (hl:LiesV ok f w [.int .i64 k,.int .i64 n,.int .u64 (b:Int),.string s,.slice pL nL cL,.slice pV nV cV] y) :
  Calls Tryd.prog 61 #[.slice pE E.length cE,.string kk,.agg #[.int .i64 k,.int .i64 n,.int .u64 (b:Int),.string s,.slice pL nL cL,.slice pV nV cV]] w fun e w'=>(∃p c,e=.returned (.slice p (qx kk.data.toList y (jD kk.data.toList E)).length c)/\(qx kk.data.toList y (jD kk.data.toList E)).length<=c/\c<=maxLen/\JO (fun b=>(ok b\/w.heap.size<=b)/\b<w'.heap.size) f w' p (qx kk.data.toList y (jD kk.data.toList E)))/\Below w.heap.size w w':=by
 obtain⟨i0,hi,hz0,hz1,hz2⟩:=info_parts JK;obtain⟨Wa,hWa⟩:∃Wa,Wa=w.alloc (.cells #[.int .i64 k,.int .i64 n,.int .u64 (b:Int),.string s,.slice pL nL cL,.slice pV nV cV] 26):=⟨_,rfl⟩
 have sWa:Wa.heap.size=w.heap.size+1:=by rw [hWa];simp
 have ba:Below w.heap.size w Wa:=by rw [hWa];exact(Below.refl _ w).alloc (Nat.le_refl _) _
 have hvb:Blk Wa w.heap.size #[.int .i64 k,.int .i64 n,.int .u64 (b:Int),.string s,.slice pL nL cL,.slice pV nV cV] 26:=by rw [hWa];exact jb _ _ _
 have HWO:=ja (without_any ok f Wa E pE cE kk (hE.kept (fun _ h=>h) ba.size (fun b _ h=>ba.block b h) (fun j us _ ⟨key,y,xs,a1,a2,a3,a4⟩=>⟨key,y,xs,a1,a2,a3,a4.below ba⟩)) h1 h2 (fun b h=>by have:=hok b h;omega) (by omega));have HA:=ja hWa;rw [hWa] at HWO;clear hWa hE
 go_enter Tryd.func61,Tryd.ntmps61
 go_wp2_with (go_at_call 62;refine(jc HWO).mono ?_;rintro e w1 ⟨v,rfl,hO,hb1⟩)
 rw [<-HA.out] at hO hb1;obtain⟨p,c,rfl,m1,m2,hR⟩:=hO.row3;obtain⟨F,hF⟩:∃F,F=jD kk.data.toList E:=⟨_,rfl⟩
 have hFl:F.length<=2000000:=by rw [hF];have:=QI kk.data.toList E;omega
 rw [<-hF] at hR m1;rw [<-hF];have HF:=ja hF;have HO:=ja hO;clear hF hO;go_wp2
 go_loopw [7] (fun i wr=>∃j:Nat,i=.int .i64 j/\j<=F.length/\Hid (idx (gtr kk.data.toList) j (F.drop j)=idx (gtr kk.data.toList) 0 F)/\wr=w1) (fun i _=>F.length - (intOf i).toNat)
 case atStart=>exact⟨0,rfl,Nat.zero_le _,rfl,rfl⟩
 case round=>
  obtain⟨j,rfl,hj,hacc,rfl⟩:=hrel
  by_cases hlt:j<F.length
  ·obtain⟨B,o,rfl,_,hBl,x0,x1,x2,x3,x4,x5,x6,⟨key,y',xs,hy,hus,hks,hly⟩,k0,k1,k2,k3,k4,k5,k6⟩:=hR.seven hlt
   cases hus
   have hstep:=Yr (g:=gtr kk.data.toList) hy;rw [hacc.out] at hstep;clear k1 k2 k3 k4 k5 k6 hacc;cases hless:Op.bytesLess key.toList kk.toList with
   | true=>
    have hg:gtr kk.data.toList key.data.toList=false:=by rw [ByteArray.toList_eq,ByteArray.toList_eq] at hless;simp [gtr,hless]
    rw [if_neg (by rw [hg];decide)] at hstep;have HS:=ja hstep.symm;clear hstep;go_wp2;exact⟨⟨j+1,by congr 1,by omega,HS,trivial⟩,by simp only [intOf];omega⟩
   | false=>
    cases heq:key.toList == kk.toList with
    | true=>
     have hg:gtr kk.data.toList key.data.toList=false:=by rw [ByteArray.toList_eq,ByteArray.toList_eq] at heq;simp only [gtr,heq];simp
     rw [if_neg (by rw [hg];decide)] at hstep;have HS:=ja hstep.symm;clear hstep;go_wp2;exact⟨⟨j+1,by congr 1,by omega,HS,trivial⟩,by simp only [intOf];omega⟩
    | false=>
     have hg:gtr kk.data.toList key.data.toList=true:=by rw [ByteArray.toList_eq,ByteArray.toList_eq] at heq hless;simp [gtr,heq,hless]
     rw [if_pos hg] at hstep;have hcut:Hid (JA kk.data.toList F=j):=ja (by rw [JA,hstep,if_neg (by omega)];omega);clear hstep hg;go_wp2;obtain⟨r,hr,src1,src2⟩:=cut_src hR m1 j hj;have s1:=hb1.size;have hvb1:Blk wr w.heap.size #[.int .i64 k,.int .i64 n,.int .u64 (b:Int),.string s,.slice pL nL cL,.slice pV nV cV] 26:=(hb1.block _ (by omega)).trans hvb;have bwr:Below w.heap.size w wr:=ba.trans (hb1.mono (by omega));have hlw:LiesV (fun b=>(ok b\/Wa.heap.size<=b)/\b<wr.heap.size) f wr [.int .i64 k,.int .i64 n,.int .u64 (b:Int),.string s,.slice pL nL cL,.slice pV nV cV] y:=hl.kept (fun b hb=>⟨.inl hb,by have:=hok b hb;omega⟩) bwr.size (fun b _ h=>bwr.block b h);have lift:∀X:World,Below wr.heap.size wr X->RowsE (fun b=>(ok b\/Wa.heap.size<=b)/\b<wr.heap.size) f X F r:=fun X hX=>hr.kept (fun _ h=>h) hX.size (fun b hb _=>hX.block b hb.2)
     have hlj:(F.take j).length=j:=by rw [List.length_take,Nat.min_eq_left hj]
     have hld:(F.drop j).length=F.length - j:=List.length_drop
     have app1:∀X:World,Below wr.heap.size wr X->∃v29 X',(Builtin.append_ #[24,24] 24 #[.slice none 0 0,.slice (if c=0 then (some ⟨B,o,none⟩:Option Addr) else (some ⟨B,o,none⟩:Option Addr).map (·.add (0*7))) j c]).run Tryd.prog X=.ok v29 X'/\(OwnE (fun b=>(ok b\/Wa.heap.size<=b)/\b<wr.heap.size) wr.heap.size f X' v29 (F.take j)/\Below wr.heap.size wr X')/\Below X.heap.size X X':=fun X hX=>by
      obtain⟨v',X',e1,e2,e3,_⟩:=append_from (cs:=c) (ps:=if c=0 then (some ⟨B,o,none⟩:Option Addr) else (some ⟨B,o,none⟩:Option Addr).map (·.add (0*7))) 24 (OwnE.nil (fun b=>(ok b\/Wa.heap.size<=b)/\b<wr.heap.size) wr.heap.size f X) ((lift X hX).take j) (fun _ h=>h.2) hX.size (fun hn=>by
       obtain⟨b0,q0,p1,p2,p3⟩:=src1 hn;exact⟨b0,q0,p1,fun i u hi=>(hX.cell (p:=⟨b0,q0+i,none⟩) p2).trans (p3 i u hi)⟩) (by rw [hlj,List.length_nil];omega)
      rw [hlj] at e1;have bX:Below X.heap.size X X':=⟨e3.os,e3.tape,e3.output,e3.size,fun k hk=>e3.block k hk (by simp [Value.ownBlock])⟩
      exact⟨v',X',e1,⟨by simpa using e2,hX.trans (bX.mono hX.size)⟩,bX⟩
     have bC:∀X:World,Below wr.heap.size wr X->Below wr.heap.size wr (X.alloc (.cells #[.string kk,.int .i64 k,.int .i64 n,.int .u64 (b:Int),.string s,.slice pL nL cL,.slice pV nV cV] 57)):=fun X hX=>hX.alloc hX.size _
     refine wpIn_wide.1 (wpIn_region_any (n:=9) (by kernel_rfl) ?_);refine wpAnyIn_take (i:=0) (v:=.slice (some ⟨B,o,none⟩:Option Addr) F.length c) rfl rfl (by kernel_rfl) (by kernel_rfl) (by kernel_rfl) (fun _ _ _ h=>h) ⟨Or.inl ⟨by rfl,by intro w;go_simp⟩,fun _=>rfl⟩ ?_
     refine wpAnyIn_take (i:=1) (v:=.int .i64 (j:Int)) rfl rfl (by kernel_rfl) (by kernel_rfl) (by kernel_rfl) (fun _ _ _ h=>h) ⟨Or.inl ⟨by rfl,by intro w;go_simp⟩,fun _=>rfl⟩ ?_
     refine wpAnyIn_take (i:=4) (v:=.string kk) rfl rfl (by kernel_rfl) (by kernel_rfl) (by kernel_rfl) (fun _ _ _ h=>h) ⟨Or.inl ⟨by rfl,by intro w;go_simp⟩,fun _=>rfl⟩ ?_
     refine wpAnyIn_take (i:=9) (v:=.slice (some ⟨B,o,none⟩:Option Addr) F.length c) rfl rfl (by kernel_rfl) (by kernel_rfl) (by kernel_rfl) (fun _ _ _ h=>h) ⟨Or.inl ⟨by rfl,by intro w;go_simp⟩,fun _=>rfl⟩ ?_
     refine wpAnyIn_take (i:=10) (v:=.int .i64 (j:Int)) rfl rfl (by kernel_rfl) (by kernel_rfl) (by kernel_rfl) (fun _ _ _ h=>h) ⟨Or.inl ⟨by rfl,by intro w;go_simp⟩,fun _=>rfl⟩ ?_
     have bD:Below wr.heap.size wr wr.drew:=⟨rfl,rfl,rfl,Nat.le_refl _,fun _ _=>rfl⟩
     have lbx:w.heap.size<wr.heap.size:=by omega
     refine withR (t26:=undef) (t27:=undef) (t30:=undef) (t35:=undef) (t36:=undef) (W:=wr.drew) (Bx:=w.heap.size) (fun X v29=>OwnE (fun b=>(ok b\/Wa.heap.size<=b)/\b<wr.heap.size) wr.heap.size f X v29 (F.take j)/\Below wr.heap.size wr X) (fun X v29 g=>(OwnE (fun b=>(ok b\/Wa.heap.size<=b)/\b<wr.heap.size) wr.heap.size f X v29 (F.take j)/\Below wr.heap.size wr X)/\Blk X g #[.string kk,.int .i64 k,.int .i64 n,.int .u64 (b:Int),.string s,.slice pL nL cL,.slice pV nV cV] 57/\wr.heap.size<=g) (fun X v34=>OwnE (fun b=>(ok b\/Wa.heap.size<=b)/\b<wr.heap.size) wr.heap.size f X v34 (F.take j++[ent kk.data.toList y])/\Below wr.heap.size wr X)
      rfl rfl rfl rfl rfl rfl rfl rfl rfl rfl rfl rfl rfl rfl (by kernel_rfl) (by kernel_rfl) (by kernel_rfl) (by kernel_rfl) (by kernel_rfl) (by kernel_rfl) (by kernel_rfl) (by kernel_rfl) (by kernel_rfl) (by kernel_rfl) (by kernel_rfl) (by kernel_rfl) (by kernel_rfl) (by kernel_rfl) (by kernel_rfl) (by kernel_rfl) (by kernel_rfl) (by kernel_rfl) (by kernel_rfl) (by kernel_rfl) (by kernel_rfl) (by kernel_rfl) (by kernel_rfl) (by kernel_rfl) (by kernel_rfl) (by kernel_rfl) (by kernel_rfl) (by kernel_rfl)
      (hvb1.cell 0 _ rfl) (hvb1.cell 1 _ rfl) (hvb1.cell 2 _ rfl) (hvb1.cell 3 _ rfl) (hvb1.cell 4 _ rfl) (hvb1.cell 5 _ rfl)
      (fun X _ h=>(h.2.cell (p:=⟨w.heap.size,0,none⟩) lbx).trans (hvb1.cell 0 _ rfl)) (fun X _ h=>(h.2.cell (p:=⟨w.heap.size,1,none⟩) lbx).trans (hvb1.cell 1 _ rfl)) (fun X _ h=>(h.2.cell (p:=⟨w.heap.size,2,none⟩) lbx).trans (hvb1.cell 2 _ rfl)) (fun X _ h=>(h.2.cell (p:=⟨w.heap.size,3,none⟩) lbx).trans (hvb1.cell 3 _ rfl)) (fun X _ h=>(h.2.cell (p:=⟨w.heap.size,4,none⟩) lbx).trans (hvb1.cell 4 _ rfl)) (fun X _ h=>(h.2.cell (p:=⟨w.heap.size,5,none⟩) lbx).trans (hvb1.cell 5 _ rfl))
      (fun a X e1 e2=>slice_hi a.eval X _ _ _ rfl e1 e2 (by omega)) (fun a X e1 e2=>slice_lo a.eval X _ _ _ rfl e1 e2 hj m1) ?hola ?holb ?holc ?hole ?holf
     case hola=>
      obtain⟨v29,X,e1,e2,_⟩:=app1 wr.drew bD;exact⟨v29,X,e1,e2⟩
     case holb=>
      obtain⟨v29,X,e1,e2,e3⟩:=app1 _ (bC wr.drew bD);exact⟨v29,X,e1,e2,(e3.block _ (by simp)).trans (jb wr.drew _ _),Nat.le_refl _⟩
     case holc=>exact fun X v29 h=>⟨⟨h.1.still ((Below.refl _ X).alloc (Nat.le_refl _) _),bC X h.2⟩,jb _ _ _,h.2.size⟩
     case hole=>
      rintro X v29 g ⟨⟨h1,h2⟩,h3,h4⟩
      obtain⟨v',X',e1,e2,e3,e4⟩:=append_from (cs:=1) (ps:=some ⟨g,0,none⟩) (G:=[ent kk.data.toList y]) (r:=[[.string kk,.int .i64 k,.int .i64 n,.int .u64 (b:Int),.string s,.slice pL nL cL,.slice pV nV cV]]) 24 h1 ⟨rfl,fun i us hi=>by
       cases i with
       | zero=>
        simp only [List.getElem?_cons_zero,Option.some.injEq] at hi;subst hi;exact⟨rfl,kk,y,_,rfl,rfl,hkk,hlw.kept (fun _ h=>h) h2.size (fun b hb _=>h2.block b hb.2)⟩
       | succ i=>simp at hi⟩ (fun _ h=>h.2) h2.size (fun _=>⟨g,0,rfl,fun i u hi=>by
        rw [Nat.zero_add];exact h3.cell i u (by simpa using hi)⟩) (by rw [hlj];simp;omega)
      exact⟨v',X',e1,e2,h2.grown e3 h2.size e4⟩
     case holf=>
      rintro X v29 v34 g ⟨h1,h2⟩
      obtain⟨v',X',e1,e2,e3,e4⟩:=append_from (cs:=c - j) (ps:=if c=j then (some ⟨B,o,none⟩:Option Addr) else (some ⟨B,o,none⟩:Option Addr).map (·.add (j*7))) 24 h1 ((lift X h2).drop j) (fun _ h=>h.2) h2.size (fun hn=>by
       obtain⟨b0,q0,p1,p2,p3⟩:=src2 hn;exact⟨b0,q0,p1,fun i u hi=>(h2.cell (p:=⟨b0,q0+i,none⟩) p2).trans (p3 i u hi)⟩) (by rw [hld];simp;omega)
      rw [hld] at e1;refine⟨v',X',e1,?_⟩;have b3:Below w.heap.size w X':=bwr.trans ((h2.grown e3 h2.size e4).mono bwr.size);have e5:F.take j++[ent kk.data.toList y]++F.drop j=qx kk.data.toList y F:=by rw [qx,hcut.out,List.append_assoc];rfl
      rw [e5] at e2;obtain⟨p9,c9,rfl,n1,n2,n3⟩:=e2.row3;go_wp2;go_ret;have hF:=HF.out;subst hF;exact⟨⟨p9,c9,rfl,n1,n2,n3.kept (fun b hb=>⟨hb.1.elim (fun h=>h.1.imp id (fun h=>by omega)) (fun h=>.inr (by omega)),hb.2⟩) (Nat.le_refl _) (fun _ _ _=>rfl) (fun j us _ ⟨key,y,xs,a1,a2,a3,a4⟩=>⟨key,y,xs,a1,a2,a3,a4.weaken (fun b hb=>⟨hb.1.elim (fun h=>h.1.imp id (fun h=>by omega)) (fun h=>.inr (by omega)),hb.2⟩)⟩)⟩,b3⟩
  ·have g0:¬(j:Int)<(F.length:Int):=by omega
   have hcut:Hid (JA kk.data.toList F=j):=ja (by rw [JA,<-hacc.out,ZM (by omega),if_pos (by decide)];omega);clear hacc;go_wp2;obtain⟨r,hr,src1,src2⟩:=cut_src hR m1 j hj;have s1:=hb1.size;have hvb1:Blk wr w.heap.size #[.int .i64 k,.int .i64 n,.int .u64 (b:Int),.string s,.slice pL nL cL,.slice pV nV cV] 26:=(hb1.block _ (by omega)).trans hvb;have bwr:Below w.heap.size w wr:=ba.trans (hb1.mono (by omega));have hlw:LiesV (fun b=>(ok b\/Wa.heap.size<=b)/\b<wr.heap.size) f wr [.int .i64 k,.int .i64 n,.int .u64 (b:Int),.string s,.slice pL nL cL,.slice pV nV cV] y:=hl.kept (fun b hb=>⟨.inl hb,by have:=hok b hb;omega⟩) bwr.size (fun b _ h=>bwr.block b h);have lift:∀X:World,Below wr.heap.size wr X->RowsE (fun b=>(ok b\/Wa.heap.size<=b)/\b<wr.heap.size) f X F r:=fun X hX=>hr.kept (fun _ h=>h) hX.size (fun b hb _=>hX.block b hb.2)
   have hlj:(F.take j).length=j:=by rw [List.length_take,Nat.min_eq_left hj]
   have hld:(F.drop j).length=F.length - j:=List.length_drop
   have app1:∀X:World,Below wr.heap.size wr X->∃v29 X',(Builtin.append_ #[24,24] 24 #[.slice none 0 0,.slice (if c=0 then p else p.map (·.add (0*7))) j c]).run Tryd.prog X=.ok v29 X'/\(OwnE (fun b=>(ok b\/Wa.heap.size<=b)/\b<wr.heap.size) wr.heap.size f X' v29 (F.take j)/\Below wr.heap.size wr X')/\Below X.heap.size X X':=fun X hX=>by
    obtain⟨v',X',e1,e2,e3,_⟩:=append_from (cs:=c) (ps:=if c=0 then p else p.map (·.add (0*7))) 24 (OwnE.nil (fun b=>(ok b\/Wa.heap.size<=b)/\b<wr.heap.size) wr.heap.size f X) ((lift X hX).take j) (fun _ h=>h.2) hX.size (fun hn=>by
     obtain⟨b0,q0,p1,p2,p3⟩:=src1 hn;exact⟨b0,q0,p1,fun i u hi=>(hX.cell (p:=⟨b0,q0+i,none⟩) p2).trans (p3 i u hi)⟩) (by rw [hlj,List.length_nil];omega)
    rw [hlj] at e1;have bX:Below X.heap.size X X':=⟨e3.os,e3.tape,e3.output,e3.size,fun k hk=>e3.block k hk (by simp [Value.ownBlock])⟩
    exact⟨v',X',e1,⟨by simpa using e2,hX.trans (bX.mono hX.size)⟩,bX⟩
   have bC:∀X:World,Below wr.heap.size wr X->Below wr.heap.size wr (X.alloc (.cells #[.string kk,.int .i64 k,.int .i64 n,.int .u64 (b:Int),.string s,.slice pL nL cL,.slice pV nV cV] 57)):=fun X hX=>hX.alloc hX.size _
   refine wpIn_wide.1 (wpIn_region_any (n:=9) (by kernel_rfl) ?_);refine wpAnyIn_take (i:=0) (v:=.slice p F.length c) rfl rfl (by kernel_rfl) (by kernel_rfl) (by kernel_rfl) (fun _ _ _ h=>h) ⟨Or.inl ⟨by rfl,by intro w;go_simp⟩,fun _=>rfl⟩ ?_
   refine wpAnyIn_take (i:=1) (v:=.int .i64 (j:Int)) rfl rfl (by kernel_rfl) (by kernel_rfl) (by kernel_rfl) (fun _ _ _ h=>h) ⟨Or.inl ⟨by rfl,by intro w;go_simp⟩,fun _=>rfl⟩ ?_
   refine wpAnyIn_take (i:=4) (v:=.string kk) rfl rfl (by kernel_rfl) (by kernel_rfl) (by kernel_rfl) (fun _ _ _ h=>h) ⟨Or.inl ⟨by rfl,by intro w;go_simp⟩,fun _=>rfl⟩ ?_
   refine wpAnyIn_take (i:=9) (v:=.slice p F.length c) rfl rfl (by kernel_rfl) (by kernel_rfl) (by kernel_rfl) (fun _ _ _ h=>h) ⟨Or.inl ⟨by rfl,by intro w;go_simp⟩,fun _=>rfl⟩ ?_
   refine wpAnyIn_take (i:=10) (v:=.int .i64 (j:Int)) rfl rfl (by kernel_rfl) (by kernel_rfl) (by kernel_rfl) (fun _ _ _ h=>h) ⟨Or.inl ⟨by rfl,by intro w;go_simp⟩,fun _=>rfl⟩ ?_
   have bD:Below wr.heap.size wr wr.drew:=⟨rfl,rfl,rfl,Nat.le_refl _,fun _ _=>rfl⟩
   have lbx:w.heap.size<wr.heap.size:=by omega
   refine withR (t26:=undef) (t27:=undef) (t30:=undef) (t35:=undef) (t36:=undef) (W:=wr.drew) (Bx:=w.heap.size) (fun X v29=>OwnE (fun b=>(ok b\/Wa.heap.size<=b)/\b<wr.heap.size) wr.heap.size f X v29 (F.take j)/\Below wr.heap.size wr X) (fun X v29 g=>(OwnE (fun b=>(ok b\/Wa.heap.size<=b)/\b<wr.heap.size) wr.heap.size f X v29 (F.take j)/\Below wr.heap.size wr X)/\Blk X g #[.string kk,.int .i64 k,.int .i64 n,.int .u64 (b:Int),.string s,.slice pL nL cL,.slice pV nV cV] 57/\wr.heap.size<=g) (fun X v34=>OwnE (fun b=>(ok b\/Wa.heap.size<=b)/\b<wr.heap.size) wr.heap.size f X v34 (F.take j++[ent kk.data.toList y])/\Below wr.heap.size wr X)
    rfl rfl rfl rfl rfl rfl rfl rfl rfl rfl rfl rfl rfl rfl (by kernel_rfl) (by kernel_rfl) (by kernel_rfl) (by kernel_rfl) (by kernel_rfl) (by kernel_rfl) (by kernel_rfl) (by kernel_rfl) (by kernel_rfl) (by kernel_rfl) (by kernel_rfl) (by kernel_rfl) (by kernel_rfl) (by kernel_rfl) (by kernel_rfl) (by kernel_rfl) (by kernel_rfl) (by kernel_rfl) (by kernel_rfl) (by kernel_rfl) (by kernel_rfl) (by kernel_rfl) (by kernel_rfl) (by kernel_rfl) (by kernel_rfl) (by kernel_rfl) (by kernel_rfl) (by kernel_rfl)
    (hvb1.cell 0 _ rfl) (hvb1.cell 1 _ rfl) (hvb1.cell 2 _ rfl) (hvb1.cell 3 _ rfl) (hvb1.cell 4 _ rfl) (hvb1.cell 5 _ rfl)
    (fun X _ h=>(h.2.cell (p:=⟨w.heap.size,0,none⟩) lbx).trans (hvb1.cell 0 _ rfl)) (fun X _ h=>(h.2.cell (p:=⟨w.heap.size,1,none⟩) lbx).trans (hvb1.cell 1 _ rfl)) (fun X _ h=>(h.2.cell (p:=⟨w.heap.size,2,none⟩) lbx).trans (hvb1.cell 2 _ rfl)) (fun X _ h=>(h.2.cell (p:=⟨w.heap.size,3,none⟩) lbx).trans (hvb1.cell 3 _ rfl)) (fun X _ h=>(h.2.cell (p:=⟨w.heap.size,4,none⟩) lbx).trans (hvb1.cell 4 _ rfl)) (fun X _ h=>(h.2.cell (p:=⟨w.heap.size,5,none⟩) lbx).trans (hvb1.cell 5 _ rfl))
    (fun a X e1 e2=>slice_hi a.eval X _ _ _ rfl e1 e2 (by omega)) (fun a X e1 e2=>slice_lo a.eval X _ _ _ rfl e1 e2 hj m1) ?zola ?zolb ?zolc ?zole ?zolf
   case zola=>
    obtain⟨v29,X,e1,e2,_⟩:=app1 wr.drew bD;exact⟨v29,X,e1,e2⟩
   case zolb=>
    obtain⟨v29,X,e1,e2,e3⟩:=app1 _ (bC wr.drew bD);exact⟨v29,X,e1,e2,(e3.block _ (by simp)).trans (jb wr.drew _ _),Nat.le_refl _⟩
   case zolc=>exact fun X v29 h=>⟨⟨h.1.still ((Below.refl _ X).alloc (Nat.le_refl _) _),bC X h.2⟩,jb _ _ _,h.2.size⟩
   case zole=>
    rintro X v29 g ⟨⟨h1,h2⟩,h3,h4⟩
    obtain⟨v',X',e1,e2,e3,e4⟩:=append_from (cs:=1) (ps:=some ⟨g,0,none⟩) (G:=[ent kk.data.toList y]) (r:=[[.string kk,.int .i64 k,.int .i64 n,.int .u64 (b:Int),.string s,.slice pL nL cL,.slice pV nV cV]]) 24 h1 ⟨rfl,fun i us hi=>by
     cases i with
     | zero=>
      simp only [List.getElem?_cons_zero,Option.some.injEq] at hi;subst hi;exact⟨rfl,kk,y,_,rfl,rfl,hkk,hlw.kept (fun _ h=>h) h2.size (fun b hb _=>h2.block b hb.2)⟩
     | succ i=>simp at hi⟩ (fun _ h=>h.2) h2.size (fun _=>⟨g,0,rfl,fun i u hi=>by
      rw [Nat.zero_add];exact h3.cell i u (by simpa using hi)⟩) (by rw [hlj];simp;omega)
    exact⟨v',X',e1,e2,h2.grown e3 h2.size e4⟩
   case zolf=>
    rintro X v29 v34 g ⟨h1,h2⟩
    obtain⟨v',X',e1,e2,e3,e4⟩:=append_from (cs:=c - j) (ps:=if c=j then p else p.map (·.add (j*7))) 24 h1 ((lift X h2).drop j) (fun _ h=>h.2) h2.size (fun hn=>by
     obtain⟨b0,q0,p1,p2,p3⟩:=src2 hn;exact⟨b0,q0,p1,fun i u hi=>(h2.cell (p:=⟨b0,q0+i,none⟩) p2).trans (p3 i u hi)⟩) (by rw [hld];simp;omega)
    rw [hld] at e1;refine⟨v',X',e1,?_⟩;have b3:Below w.heap.size w X':=bwr.trans ((h2.grown e3 h2.size e4).mono bwr.size);have e5:F.take j++[ent kk.data.toList y]++F.drop j=qx kk.data.toList y F:=by rw [qx,hcut.out,List.append_assoc];rfl
    rw [e5] at e2;obtain⟨p9,c9,rfl,n1,n2,n3⟩:=e2.row3;go_wp2
    all_goals
     go_ret;have hF:=HF.out;subst hF;exact⟨⟨p9,c9,rfl,n1,n2,n3.kept (fun b hb=>⟨hb.1.elim (fun h=>h.1.imp id (fun h=>by omega)) (fun h=>.inr (by omega)),hb.2⟩) (Nat.le_refl _) (fun _ _ _=>rfl) (fun j us _ ⟨key,y,xs,a1,a2,a3,a4⟩=>⟨key,y,xs,a1,a2,a3,a4.weaken (fun b hb=>⟨hb.1.elim (fun h=>h.1.imp id (fun h=>by omega)) (fun h=>.inr (by omega)),hb.2⟩)⟩)⟩,b3⟩
open Go.RowKit Go.Shelf
open Go.RowKit Go.Shelf
end valus
end Go.Proofs.YtadaehaemmelfaaDoor
