/- Of our texts, what this claim reaches. -/
import Derived.Test.YtnbfnjhbmeocfaaGreatDoorPmtBK
import Derived.Test.YtnbfnjhbmeocfaaGreatDoorPmtBL
import Derived.Test.YtnbfnjhbmeocfaaGreatDoorPmtAA
import Derived.Test.YtnbfnjhbmeocfaaGreatDoorPmtAE
import Derived.Shelf.SlSortCmp.NoneTotal
import Derived.Test.YtnbfnjhbmeocfaaGreatDoorPmtAO
set_option linter.unusedVariables false
set_option maxHeartbeats 8000000
set_option maxRecDepth 100000
namespace Go.Proofs.YtnbfnjhbmeocfaaGreatDoor
namespace valus
open Go.RowKit Go.Shelf Go.Sort
theorem ZE {x y:UInt8}:x<y↔(x.toNat:Int)<(y.toNat:Int):=by rw [UInt8.lt_iff_toNat_lt];omega
theorem jbO:∀a b:List UInt8,Lib.compareBytes a b=jlE (zT a b)
 | [],[]=>rfl
 | [],_ :: _=>rfl
 | _ :: _,[]=>rfl
 | x :: r,y :: t=>by
  have ih:=jbO r t;have d:Lib.compareBytes (x :: r) (y :: t)=if x<y then -1 else if y<x then 1 else Lib.compareBytes r t:=rfl
  have e:zT (x :: r) (y :: t)=Jy (QT (x.toNat:Int) (y.toNat:Int)) (zT r t):=rfl;rw [d,e,ih];unfold QT
  by_cases h1:x<y
  ·rw [if_pos h1,if_pos (ZE.1 h1)]
   rfl
  ·rw [if_neg h1]
   by_cases h2:y<x
   ·have:=ZE.1 h2
    rw [if_pos h2,if_neg (by omega),if_neg (by omega)];rfl
   ·have a1:¬(x.toNat:Int)<(y.toNat:Int):=fun h=>h1 (ZE.2 h)
    have a2:¬(y.toNat:Int)<(x.toNat:Int):=fun h=>h2 (ZE.2 h)
    rw [if_neg h2,if_neg a1,if_pos (by omega)];rfl
abbrev Cel:=ByteArray×(Int×Int×Nat×ByteArray)×(Option Addr×Nat×Nat)×(Option Addr×Nat×Nat)
def J6 (x:Cel):List Value:=[.string x.1,.int .i64 x.2.1.1,.int .i64 x.2.1.2.1,.int .u64 (x.2.1.2.2.1:Int),.string x.2.1.2.2.2,.slice x.2.2.1.1 x.2.2.1.2.1 x.2.2.1.2.2,.slice x.2.2.2.1 x.2.2.2.2.1 x.2.2.2.2.2]
theorem jdg (x:Cel):∀v∈J6 x,Value.oneCell' v=true:=fun v hv=>by
 simp only [J6,List.mem_cons,List.not_mem_nil,or_false] at hv
 rcases hv with rfl | rfl | rfl | rfl | rfl | rfl | rfl<;>rfl
def cfC (x y:Cel):Int:=Lib.compareBytes x.1.data.toList y.1.data.toList
theorem ltC (x y:Cel):ltOf cfC x y=decide (zT x.1.data.toList y.1.data.toList=.lt):=by
 unfold ltOf cfC;rw [jbO];cases zT x.1.data.toList y.1.data.toList<;>rfl
theorem jlA:SWO (ltOf cfC):=by
 refine⟨fun x=>?_,fun x y z h1 h2=>?_,fun x y z h1 h2=>?_⟩
 ·rw [ltC]
  exact decide_eq_false (jjo _)
 ·rw [ltC] at h1 h2 ⊢
  exact decide_eq_true (Y8 (of_decide_eq_true h1) (of_decide_eq_true h2))
 ·rw [ltC] at h1 h2 ⊢
  refine decide_eq_false fun h=>?_
  have n1:=of_decide_eq_false h1;have n2:=of_decide_eq_false h2
  by_cases e1:y.1.data.toList=x.1.data.toList
  ·rw [e1] at n2
   exact n2 h
  ·exact n2 (Y8 (jfU n1 e1) h)
theorem jgr (w:World)(blk off size:Nat):CmpLays Tryz.prog 115 #[] J6 7 cfC blk off size w:=by
 intro m os dk hs x y;obtain⟨k1,⟨a1,a2,a3,a4⟩,⟨a5,a6,a7⟩,⟨a8,a9,a10⟩⟩:=x;obtain⟨k2,⟨b1,b2,b3,b4⟩,⟨b5,b6,b7⟩,⟨b8,b9,b10⟩⟩:=y;refine(jgq (sortWorldK J6 7 w blk off m dk os) k1 a1 a2 (a3:Int) a4 a5 a6 a7 a8 a9 a10 k2 b1 b2 (b3:Int) b4 b5 b6 b7 b8 b9 b10).mono ?_
 rintro e w' ⟨rfl,rfl⟩
 exact⟨rfl,0,_,by rw [alloc_eq_grow,alloc_eq_grow,grow_grow];rfl⟩
theorem jfx {α β:Type}{l l':List α}(h:l'.Perm l):∀L:List (α×β),L.map Prod.fst=l->∃L':List (α×β),L'.Perm L/\L'.map Prod.fst=l':=by
 induction h with
 | nil=>exact fun L hL=>⟨[],by rw [List.map_eq_nil_iff.1 hL],rfl⟩
 | cons x h ih=>
  intro L hL;cases L with
  | nil=>simp at hL
  | cons p L=>
   rw [List.map_cons] at hL;injection hL with h1 h2;obtain⟨L',p1,p2⟩:=ih L h2;exact⟨p :: L',p1.cons p,by rw [List.map_cons,h1,p2]⟩
 | swap x y l=>
  intro L hL
  match L,hL with
  | [],hL=>simp at hL
  | [_],hL=>simp at hL
  | p :: q :: L,hL=>
   rw [List.map_cons,List.map_cons] at hL;injection hL with h1 h2;injection h2 with h2 h3;exact⟨q :: p :: L,.swap p q L,by rw [List.map_cons,List.map_cons,h1,h2,h3]⟩
 | trans a b iha ihb=>
  intro L hL;obtain⟨L1,p1,e1⟩:=ihb L hL;obtain⟨L2,p2,e2⟩:=iha L1 e1;exact⟨L2,p2.trans p1,e2⟩
theorem jda {f:Nat}{ok:Nat->Prop}{w:World}{us:List Value}{y:V}(h:QE f ok w us y):∃c:Cel,us=J6 c/\(zf y).1=c.1.data.toList:=by
 obtain⟨key,y',xs,rfl,rfl,_,hl⟩:=h;cases f with
 | zero=>exact hl.elim
 | succ f=>
  obtain⟨k,n,b,s,L,E,pL,pE,cL,cE,_,rfl,_⟩:=hl;exact⟨(key,(k,n,b,s),(pL,L.length,cL),(pE,E.length,cE)),rfl,rfl⟩
theorem jaz {Q:List Value->V->Prop}(hQ:∀us y,Q us y->∃c:Cel,us=J6 c/\(zf y).1=c.1.data.toList):∀(rows:List (List Value)) (F:List V),rows.length=F.length->(∀(i:Nat) (us:List Value),rows[i]?=some us->∃y,F[i]?=some y/\Q us y)->
  ∃L:List (Cel×V),rows=L.map (fun p=>J6 p.1)/\F=L.map Prod.snd/\∀p∈L,Q (J6 p.1) p.2/\(zf p.2).1=p.1.1.data.toList
 | [],[],_,_=>⟨[],rfl,rfl,fun p hp=>by simp at hp⟩
 | [],_ :: _,h,_=>by simp at h
 | _ :: _,[],h,_=>by simp at h
 | us :: rows,y :: F,hl,h=>by
  obtain⟨L,e1,e2,e3⟩:=jaz hQ rows F (by simpa using hl) (fun i us hi=>by
   obtain⟨y,a,b⟩:=h (i+1) us (by simpa using hi);exact⟨y,by simpa using a,b⟩)
  obtain⟨y',a,b⟩:=h 0 us rfl;simp only [List.getElem?_cons_zero,Option.some.injEq] at a;subst a;obtain⟨c,c1,c2⟩:=hQ us y b;subst c1;refine⟨(c,y) :: L,by rw [List.map_cons,<-e1],by rw [List.map_cons,<-e2],fun p hp=>?_⟩
  rcases List.mem_cons.1 hp with rfl | hp
  ·exact⟨b,c2⟩
  ·exact e3 p hp
theorem jg3 (f n0:Nat)(W:World)(p:Option Addr)(cp:Nat)(acc:List V)(h:OwnR 44 7 (QE f) n0 W (.slice p acc.length cp) acc)(hal:acc.length<=3000000) :
  Calls Tryz.prog 114 #[.slice p acc.length cp,.func (.func 115) #[] #[]] W fun e w'=>e=.returned (.tuple #[])/\∃acc',acc'.Perm acc/\acc'.Pairwise (fun a b=>¬zT (zf b).1 (zf a).1=.lt)/\OwnR 44 7 (QE f) n0 w' (.slice p acc.length cp) acc'/\W.grownBy w' (Value.slice p acc.length cp).ownBlock:=by
 by_cases h0:acc=[]
 ·subst h0
  have c:=AnyF.slices_SortFunc_none Tryz.sortE p cp (.func (.func 115) #[] #[]) W;refine c.mono ?_
  rintro e w' ⟨rfl,rfl⟩
  exact⟨rfl,[],.nil,.nil,h,rfl,rfl,rfl,Nat.le_refl _,fun _ _ _=>rfl⟩
 ·have hlt:=h.lt
  obtain⟨rows,⟨hrl,hin⟩,hrn,hr⟩:=h
  rcases hin with ⟨_,hz⟩ | ⟨g,cap,cur,e,hg0,hgb,hc1,hc2,hc3,hc4⟩
  ·exact absurd (List.length_eq_zero_iff.1 hz) h0
  ·injection e with e1 _ e3
   subst e1;subst e3;obtain⟨L,l1,l2,l3⟩:=jaz (Q:=QE f (okR n0 W (.slice (some ⟨g,0,none⟩) acc.length cp)) W) (fun us y hq=>jda hq) rows acc hrn (fun i us hi=>(hr i us hi).2);have hLl:L.length=acc.length:=by rw [l2,List.length_map]
   have hfl:rows.flatten=(L.map Prod.fst).flatMap J6:=by rw [l1,List.flatMap_def,List.map_map];rfl
   have hcl:(L.map Prod.fst).length=acc.length:=by rw [List.length_map,hLl]
   have hown:W.ownsRow 0 44 7 (.slice (some ⟨g,0,none⟩) (([]:List Cel).length+(L.map Prod.fst).length) cp) (([]:List Cel).length+(L.map Prod.fst).length) ((([]:List Cel)++L.map Prod.fst).flatMap J6):=by
    rw [List.length_nil,Nat.zero_add,List.nil_append,hcl,<-hfl];exact⟨hrl,.inr ⟨g,cp,cur,rfl,Nat.zero_le _,hgb,hc1,hc2,hc3,hc4⟩⟩
   have hblk:g<W.heap.size:=(hlt g rfl).2;have hH:=(jaD J6 7 (by decide) (fun _=>rfl) [] (L.map Prod.fst) (L.map Prod.fst) rfl hown).1;rw [List.length_nil,Nat.zero_mul] at hH;have c:=AnyQ.slices_SortFunc Tryz.sortE 7 Tryz.isAgg44 Tryz.sizeOf44 J6 (fun _=>rfl) jdg cfC jlA 115 #[] g 0 cp (L.map Prod.fst).toArray W (enters_of Tryz.func115 (by kernel_rfl) rfl) (jgr _ _ _ _) hH hblk (by simp;omega);rw [List.size_toArray,hcl] at c;refine c.mono ?_
   rintro e w' ⟨rfl,d',n,os,hperm,hsort,rfl⟩
   have hds:d'.size=acc.length:=by rw [hperm.1,List.size_toArray,hcl]
   have hpl:d'.toList.Perm (L.map Prod.fst):=by
    have:=hperm.2.2;have x1:d'.extract 0 acc.length=d':=by rw [<-hds];simp
    have x2:(L.map Prod.fst).toArray.extract 0 acc.length=(L.map Prod.fst).toArray:=by
     have:acc.length=(L.map Prod.fst).toArray.size:=by rw [List.size_toArray,hcl]
     rw [this,Array.extract_size]
    rw [x1,x2] at this;simpa using this
   obtain⟨L',hLp,hLf⟩:=jfx hpl L rfl;have hL'l:L'.length=acc.length:=by rw [hLp.length_eq,hLl]
   obtain⟨hO2,hG2⟩:=(jaD J6 7 (by decide) (fun _=>rfl) [] (L.map Prod.fst) (L'.map Prod.fst) (by rw [List.length_map,hL'l,hcl]) hown).2 n;rw [List.length_nil,Nat.zero_mul,Nat.zero_add,List.nil_append,hcl] at hO2;rw [List.length_nil,Nat.zero_mul] at hG2;have hd':d'=(L'.map Prod.fst).toArray:=by rw [hLf]
   rw [<-hd'] at hO2 hG2;have hgrow:∀X:World,X.grownBy (grow X os) none:=fun X=>⟨rfl,rfl,rfl,by rw [size_grow];omega,fun q hq _=>heap_grow_old X os hq⟩
   have hgw:W.grownBy (sortWorldK J6 7 W g 0 n d' os) (some g):=by
    have k:=hgrow (putRowK J6 7 (Sort.ahead W n) g 0 d');exact⟨k.os.trans hG2.os,k.tape.trans hG2.tape,k.output.trans hG2.output,Nat.le_trans hG2.size k.size,fun q hq hn=>(k.block q (Nat.lt_of_lt_of_le hq hG2.size) (by simp)).trans (hG2.block q hq hn)⟩
   have hO3:=World.ownsRow.kept hO2 (hgrow _) (.inr (by simp [Value.ownBlock]));refine⟨rfl,L'.map Prod.snd,?_,?_,⟨L'.map (fun p=>J6 p.1),?_,by simp,fun i us hi=>?_⟩,hgw⟩
   ·rw [l2]
    exact hLp.map _
   ·rw [List.pairwise_iff_getElem]
    intro i j hi hj hij;have hi':i<L'.length:=by simpa using hi
    have hj':j<L'.length:=by simpa using hj
    have hs:=hsort i j (Nat.zero_le _) hij (by omega);rw [ltC] at hs;have hs:=of_decide_eq_false hs;rw [getElem!_pos d' i (by omega),getElem!_pos d' j (by omega)] at hs;have q1:d'[i]'(by omega)=L'[i].1:=by simp only [hd',List.getElem_toArray,List.getElem_map]
    have q2:d'[j]'(by omega)=L'[j].1:=by simp only [hd',List.getElem_toArray,List.getElem_map]
    rw [q1,q2] at hs;rw [List.getElem_map,List.getElem_map,(l3 _ (hLp.mem_iff.1 (List.getElem_mem hi'))).2,(l3 _ (hLp.mem_iff.1 (List.getElem_mem hj'))).2];exact hs
   ·rw [List.length_map,hL'l]
    obtain⟨q1,q2⟩:=hO3;have hfl':(L'.map (fun p=>J6 p.1)).flatten=(L'.map Prod.fst).flatMap J6:=by rw [List.flatMap_def,List.map_map];rfl
    rw [hfl'];refine⟨q1,?_⟩
    rcases q2 with ⟨q3,_⟩ | ⟨g',cap',cur',e',_,r1,r2,r3,r4,r5⟩
    ·cases q3
    ·injection e' with e1 _ e3
     injection e1 with e1;injection e1 with e1;subst e1;subst e3;exact .inr ⟨g,cp,cur',rfl,hg0,r1,r2,r3,r4,r5⟩
   ·rw [List.getElem?_map] at hi
    cases hx:L'[i]? with
    | none=>rw [hx] at hi;simp at hi
    | some q=>
     rw [hx,Option.map_some,Option.some.injEq] at hi;subst hi;have hm:=l3 q (hLp.mem_iff.1 (List.mem_of_getElem? hx));refine⟨rfl,q.2,by rw [List.getElem?_map,hx];rfl,JO f _ _ _ _ _ _ hm.1 (fun b hb=>⟨hb.1,Nat.lt_of_lt_of_le hb.2.1 hgw.size,hb.2.2⟩) hgw.size (fun b hb hlt'=>hgw.block b hlt' hb.2.2)⟩
open Go.RowKit Go.Shelf
theorem jh9:(Tryz.prog.info? 44).map (fun i=>(i.zero,i.size,i.bytes))=some (some (.agg #[.string ⟨#[]⟩,.int .i64 0,.int .i64 0,.int .u64 0,.string ⟨#[]⟩,.slice none 0 0,.slice none 0 0]),7,104):=by kernel_rfl
theorem jly {f:Nat}{ok:Nat->Prop}{w:World}{us:List Value}{y:V}(h:QE f ok w us y):∀u∈us,u.oneCell'=true:=by
 obtain⟨c,rfl,_⟩:=jda h;exact jdg c
structure MT (R:Nat) (w wr:World) (n:Nat) (nk na ne:Int) (np:Option Addr) (nl nc:Nat) (acc:List V) (p:Option Addr) (cp m:Nat) (D:DataW Unit):Prop where
 d:Blk wr (w.heap.size+2) #[.int .i64 6,.int .i64 0,.int .u64 0,.string ⟨#[]⟩,.slice none 0 0,.slice p acc.length cp] 26
 o:OwnR 44 7 (QE n) (w.heap.size+4) wr (.slice p acc.length cp) acc
 nd:Blk wr w.heap.size #[.int .i64 nk,.int .i64 na,.int .i64 ne,.slice np nl nc] 59
 r:Blk wr (w.heap.size+1) #[.int .i64 0,.int .i64 0,.int .u64 0,.string ⟨#[]⟩,.slice none 0 0,.slice none 0 0] 26
 mp:Z2 wr (w.heap.size+3) m D
 b:Only R w wr
 s:w.heap.size+4<=wr.heap.size
 lt:R<w.heap.size
theorem MT.later {R:Nat}{w wr w2:World}{n:Nat}{nk na ne:Int}{np:Option Addr}{nl nc:Nat}{acc:List V}{p:Option Addr}{cp m:Nat}{D:DataW Unit}(h:MT R w wr n nk na ne np nl nc acc p cp m D)(ho:Only R wr w2):MT R w w2 n nk na ne np nl nc acc p cp m D:=by
 have hs:=h.s;have hl:=h.lt;have nb:∀q,R<q->q<wr.heap.size->w2.heap[q]?=wr.heap[q]?:=fun q h1 h2=>ho.block q h2 (fun e=>by have:=Option.some.inj e;omega)
 exact⟨(nb _ (by omega) (by omega)).trans h.d,h.o.only (JO n) (by omega) ho,(nb _ (by omega) (by omega)).trans h.nd,(nb _ (by omega) (by omega)).trans h.r,h.mp.kept ho (fun e=>by have:=Option.some.inj e;omega),h.b.trans ho,Nat.le_trans hs ho.size,hl⟩
theorem MT.key {R:Nat}{w wr w2:World}{n:Nat}{nk na ne:Int}{np:Option Addr}{nl nc:Nat}{acc:List V}{p:Option Addr}{cp m:Nat}{D:DataW Unit}(h:MT R w wr n nk na ne np nl nc acc p cp m D)(ho:But2 R (w.heap.size+3) wr w2){m':Nat}{D':DataW Unit}(hM:Z2 w2 (w.heap.size+3) m' D'):MT R w w2 n nk na ne np nl nc acc p cp m' D':=by
 have hs:=h.s;have hl:=h.lt;have nb:∀q,R<q->q<wr.heap.size->q≠w.heap.size+3->w2.heap[q]?=wr.heap[q]?:=fun q h1 h2 h3=>ho.block q h2 (by omega) h3
 have hlt:=h.o.lt;refine⟨(nb _ (by omega) (by omega) (by omega)).trans h.d,?_,(nb _ (by omega) (by omega) (by omega)).trans h.nd,(nb _ (by omega) (by omega) (by omega)).trans h.r,hM,⟨ho.os.trans h.b.os,ho.tape.trans h.b.tape,ho.output.trans h.b.output,Nat.le_trans h.b.size ho.size,fun q hq hn=>(ho.block q (Nat.lt_of_lt_of_le hq h.b.size) (fun e=>hn (by rw [e])) (by omega)).trans (h.b.block q hq hn)⟩,Nat.le_trans hs ho.size,hl⟩;obtain⟨rows,hw,hl',hr⟩:=h.o;refine⟨rows,⟨hw.1,?_⟩,hl',fun i us hi=>?_⟩
 ·rcases hw.2 with hz | ⟨g,cap,cur,e,hg0,hgb,rest⟩
  ·exact .inl hz
  ·have hg:=hlt g (by rw [e];rfl)
   exact .inr ⟨g,cap,cur,e,hg0,(nb g (by omega) hg.2 (by omega)).trans hgb,rest⟩
 ·obtain⟨h1,y,h2,h3⟩:=hr i us hi
  exact⟨h1,y,h2,JO n _ _ _ _ _ _ h3 (fun b hb=>⟨hb.1,Nat.lt_of_lt_of_le hb.2.1 ho.size,hb.2.2⟩) ho.size (fun b hb hlt'=>nb b (by have:=hb.1;omega) hlt' (by have:=hb.1;omega))⟩
theorem MT.value {R:Nat}{w wr:World}{n:Nat}{nk na ne:Int}{np:Option Addr}{nl nc:Nat}{acc:List V}{p:Option Addr}{cp m:Nat}{D:DataW Unit}(h:MT R w wr n nk na ne np nl nc acc p cp m D):LiesV (fun q=>w.heap.size+4<=q/\q<wr.heap.size) (n+1) wr [.int .i64 6,.int .i64 0,.int .u64 ((0:Nat):Int),.string ⟨#[]⟩,.slice none 0 0,.slice p acc.length cp] (mkV (6,0,0,[]) [] acc):=by
 obtain⟨p',cp',e,hc1,hc2,hrow⟩:=h.o.row (JO n);injection e with e1 e2 e3;subst e1;subst e3;refine⟨6,0,0,⟨#[]⟩,[],acc,none,p,0,cp,rfl,rfl,⟨by decide,by decide,by decide,Nat.zero_le _⟩,⟨Nat.le_refl _,Nat.zero_le _,hc1,hc2⟩,fun h=>absurd h (by simp),fun hn=>?_⟩;obtain⟨g,o,e1,e2,e3,e4⟩:=hrow hn;refine⟨g,o,e1,e2,e3,fun j hj=>?_⟩;obtain⟨us,u1,u2,y,y1,key,y',xs,q1,q2,q3,q4⟩:=e4 j hj;exact⟨us,u1,u2,key,y',xs,by rw [y1,q1],q2,q3,q4⟩
theorem MT.sorted {R:Nat}{w wr w2:World}{n:Nat}{nk na ne:Int}{np:Option Addr}{nl nc:Nat}{acc acc':List V}{p:Option Addr}{cp m:Nat}{D:DataW Unit}(h:MT R w wr n nk na ne np nl nc acc p cp m D)(hl:acc'.length=acc.length)(ho:OwnR 44 7 (QE n) (w.heap.size+4) w2 (.slice p acc.length cp) acc')(hg:wr.grownBy w2 (Value.slice p acc.length cp).ownBlock):MT R w w2 n nk na ne np nl nc acc' p cp m D:=by
 have hs:=h.s;have hlw:=h.lt;have hlt:=h.o.lt;have nb:∀q,q<w.heap.size+4->w2.heap[q]?=wr.heap[q]?:=fun q hq=>hg.block q (by omega) (fun e=>by have:=(hlt q e.symm).1;omega)
 refine⟨by rw [hl];exact(nb _ (by omega)).trans h.d,by rw [hl];exact ho,(nb _ (by omega)).trans h.nd,(nb _ (by omega)).trans h.r,h.mp.kept hg (fun e=>by have:=(hlt _ e.symm).1;omega),⟨hg.os.trans h.b.os,hg.tape.trans h.b.tape,hg.output.trans h.b.output,Nat.le_trans h.b.size hg.size,fun q hq hn=>(nb q (by omega)).trans (h.b.block q hq hn)⟩,Nat.le_trans hs hg.size,hlw⟩
theorem MT.push {R:Nat}{w wr w2:World}{n:Nat}{nk na ne:Int}{np:Option Addr}{nl nc:Nat}{acc:List V}{p:Option Addr}{cp m:Nat}{D:DataW Unit}(h0:MT R w wr n nk na ne np nl nc acc p cp m D)(hb:Only R wr w2)(key:ByteArray)(k nn:Int)(b:Nat)(z:ByteArray)(pL:Option Addr)(nL cL:Nat)(pE:Option Addr)(nE cE:Nat)(y:V)(hkey:key.size<=maxLen)(hl:LiesV (fun b=>wr.heap.size<=b/\b<w2.heap.size) n w2 [.int .i64 k,.int .i64 nn,.int .u64 (b:Int),.string z,.slice pL nL cL,.slice pE nE cE] y)(hal:acc.length<=3000000) :
  ∃(p':Option Addr) (cp':Nat) (W':World),(Builtin.append_ #[24,24] 24 #[.slice p acc.length cp,.slice (some ⟨w2.heap.size+1,0,none⟩) 1 1]).run Tryz.prog ((w2.alloc (.cells #[.int .i64 k,.int .i64 nn,.int .u64 (b:Int),.string z,.slice pL nL cL,.slice pE nE cE] 26)).alloc (.cells #[.string key,.int .i64 k,.int .i64 nn,.int .u64 (b:Int),.string z,.slice pL nL cL,.slice pE nE cE] 44))=.ok (.slice p' (acc.length+1) cp') W'/\
   Blk W' (w.heap.size+2) #[.int .i64 6,.int .i64 0,.int .u64 0,.string ⟨#[]⟩,.slice none 0 0,.slice p acc.length cp] 26/\MT R w (W'.setCell ⟨w.heap.size+2,5,none⟩ (.slice p' (acc.length+1) cp')) n nk na ne np nl nc (acc++[ent key.data.toList y]) p' cp' m D/\(∀q,q<=R->(W'.setCell ⟨w.heap.size+2,5,none⟩ (.slice p' (acc.length+1) cp')).heap[q]?=w2.heap[q]?):=by
 obtain⟨i0,hi,hz0,hz1,hz2⟩:=info_parts jh9;have h2:=h0.o;have bA:Below w2.heap.size w2 (w2.alloc (.cells #[.int .i64 k,.int .i64 nn,.int .u64 (b:Int),.string z,.slice pL nL cL,.slice pE nE cE] 26)):=(Below.refl _ w2).alloc (Nat.le_refl _) _;have hA:=(h0.later hb).later (js bA);have s0:=h0.s;have s1:=hb.size;have hRl:=h0.lt
 have hq:QE n (okR (w.heap.size+4) (w2.alloc (.cells #[.int .i64 k,.int .i64 nn,.int .u64 (b:Int),.string z,.slice pL nL cL,.slice pE nE cE] 26)) (.slice p acc.length cp)) (w2.alloc (.cells #[.int .i64 k,.int .i64 nn,.int .u64 (b:Int),.string z,.slice pL nL cL,.slice pE nE cE] 26)) [.string key,.int .i64 k,.int .i64 nn,.int .u64 (b:Int),.string z,.slice pL nL cL,.slice pE nE cE] (ent key.data.toList y):=⟨key,y,_,rfl,rfl,hkey,LiesV.kept (fun b hb=>⟨by have:=hb.1;omega,by have:=hb.2;simp;omega,fun e=>by have:=(h2.lt b e.symm).2;have:=hb.1;omega⟩) bA.size (fun b _ hlt'=>bA.block b hlt') hl⟩
 obtain⟨v',W',hrun,hO',hg⟩:=OwnR.push (tS:=24) (JO n) Tryz.underlying24 hi hz0 hz1 hz2 rfl (by decide) (by decide) hA.o hA.s [.string key,.int .i64 k,.int .i64 nn,.int .u64 (b:Int),.string z,.slice pL nL cL,.slice pE nE cE] (ent key.data.toList y) rfl (jly hq) hq (by omega) 24;rw [World.size_alloc] at hrun;have hv:=fun g hg'=>(hA.o.lt g hg').1
 have hbl:∀q,q<w.heap.size+4->W'.heap[q]?=(w2.alloc (.cells #[.int .i64 k,.int .i64 nn,.int .u64 (b:Int),.string z,.slice pL nL cL,.slice pE nE cE] 26)).heap[q]?:=fun q hq'=>(hg.block (by have:=hA.s;omega) (fun e=>by have:=hv q e.symm;omega)).1
 obtain⟨p',cp',rfl,_,_,_⟩:=hO'.row (JO n);have hlen:(acc++[ent key.data.toList y]).length=acc.length+1:=by simp
 rw [hlen] at hrun hO';have hd:Blk W' (w.heap.size+2) #[.int .i64 6,.int .i64 0,.int .u64 0,.string ⟨#[]⟩,.slice none 0 0,.slice p acc.length cp] 26:=(hbl _ (by omega)).trans hA.d;have hsz:=hg.by'.size
 have hsA:=hA.s;have hmp:Z2 W' (w.heap.size+3) m D:=hA.mp.kept (row:=(Value.slice p acc.length cp).ownBlock) hg.by' (fun e=>by have:=hv _ e.symm;omega)
 refine⟨p',cp',W',hrun,hd,⟨?_,?_,?_,?_,?_,?_,?_,hRl⟩,?_⟩
 ·rw [hlen]
  exact hd.set 5 (.slice p' (acc.length+1) cp')
 ·rw [hlen]
  exact hO'.only (JO n) (by omega) (YH (w.heap.size+2) W' 5 (.slice p' (acc.length+1) cp'))
 ·exact Blk.set_other (((hbl _ (by omega)).trans hA.nd:Blk W' _ _ _)) ⟨w.heap.size+2,5,none⟩ _ (by show w.heap.size≠w.heap.size+2;omega)
 ·exact Blk.set_other (((hbl _ (by omega)).trans hA.r:Blk W' _ _ _)) ⟨w.heap.size+2,5,none⟩ _ (by show w.heap.size+1≠w.heap.size+2;omega)
 ·exact hmp.kept (YH (w.heap.size+2) W' 5 (.slice p' (acc.length+1) cp')) (fun e=>by have:=Option.some.inj e;omega)
 ·have o1:=hA.b
  refine⟨hg.by'.os.trans o1.os,hg.by'.tape.trans o1.tape,hg.by'.output.trans o1.output,?_,fun q hq hne=>?_⟩
  ·simp only [World.setCell,Array.size_modify]
   have:=o1.size;omega
  ·exact((Below.heap_setCell _ _ _ _ (by show q≠w.heap.size+2;omega)).trans (hbl q (by omega))).trans (o1.block q hq hne)
 ·simp only [World.setCell,Array.size_modify]
  omega
 ·intro q hq
  exact((Below.heap_setCell _ _ _ _ (by show q≠w.heap.size+2;omega)).trans (hbl q (by omega))).trans (bA.block q (by omega))
open Go.RowKit Go.Shelf
def zY (s:ByteArray)(l:List toks.Tk)(keys:List (List UInt8))(j:Nat)(x:List UInt8⊕(Int×Int)):Prop :=
 ∃(h:j<l.length) (key:List UInt8) (ke:Int),Jf (s.extract l[j].fro l[j].til).data.toList l[j].kind key ke/\
  ((ke=0/\key∉keys/\x=.inl key)\/(ke=0/\key∈keys/\x=.inr ((l[j].fro:Int),6))\/(ke≠0/\x=.inr ((l[j].fro:Int),ke)))
def Holds1 (D:DataW Unit)(keys:List (List UInt8)):Prop:=Maps.IsMap D/\∀k,Maps.has D (.string k)=decide (k∈keys)
theorem jfy:Holds1 (.map []) []:=⟨Maps.isMap_empty,fun k=>by rw [Maps.has_eq];rfl⟩
theorem Holds1.put {D:DataW Unit}{keys:List (List UInt8)}(h:Holds1 D keys)(key:List UInt8):Holds1 (D.put (.string key) (.agg [])) (keys++[key]):=by
 refine⟨h.1.put _ _,fun k=>?_⟩
 by_cases e:k=key
 ·subst e
  rw [Maps.has_put_same (k:=.string k) h.1 trivial];exact(decide_eq_true (by simp)).symm
 ·rw [Maps.has_put_other (fun h:(Lit.string k)=Lit.string key=>e (by injection h)),h.2 k]
  simp [e]
theorem jc8 (q:List UInt8):(escs.ZR (escs.unq q)).length<=q.length:=by
 cases hu:escs.unq q with
 | inl e=>simp [escs.ZR]
 | inr p=>
  obtain⟨rs,k⟩:=p;obtain⟨_,a,_,b,_⟩:=escs.jkd hu;simp only [escs.ZR];omega
theorem jeW (w:World)(R:Nat)(s:ByteArray)(l:List toks.Tk)(pl er:Int)(h:MRd w R s l pl er)(k e:Int)(j:Nat)(hj:j<l.length)(hft:l[j].fro<=l[j].til/\l[j].til<=s.size)(hs:s.size<=100000)(p:Option Addr)(n c:Nat)(M m:Nat)(D:DataW Unit)(hM:Z2 w M m D)(hMR:R<M)(hm:m<1000000)(hT:Tabs R w)(keys:List (List UInt8))(hD:Holds1 D keys) :
  Calls Tryz.prog 113 #[.pointer (some ⟨R,0,none⟩),.agg #[.int .i64 k,.int .i64 (j:Int),.int .i64 e,.slice p n c],.map (some M)] w fun e w'=>(∃kz:ByteArray,e=.returned (.tuple #[.string kz,.bool true])/\zY s l keys j (.inl kz.data.toList)/\kz.size<=maxLen/\Z2 w' M (m+1) (D.put (.string kz.data.toList) (.agg []))/\MRd w' R s l pl er/\But2 R M w w')\/
   (∃pq:Int×Int,e=.returned (.tuple #[.string ⟨#[]⟩,.bool false])/\zY s l keys j (.inr pq)/\MRd w' R s l pq.1 pq.2/\Only R w w'):=by
 have hRw:=h.lt
 have hxs:(s.extract l[j].fro l[j].til).size<=100000:=by
  have:(s.extract l[j].fro l[j].til).size=min l[j].til s.size - l[j].fro:=by simp
  omega
 have key0:∀kz:ByteArray,kz.size<=100000->Jf (s.extract l[j].fro l[j].til).data.toList l[j].kind kz.data.toList 0->(∀v,Below w.heap.size w v->Calls Tryz.prog 175 #[.pointer (some ⟨R,0,none⟩),.agg #[.int .i64 k,.int .i64 (j:Int),.int .i64 e,.slice p n c]] v fun e w'=>e=.returned (.tuple #[.string kz,.int .i64 0])/\Below v.heap.size v w')->
   Calls Tryz.prog 113 #[.pointer (some ⟨R,0,none⟩),.agg #[.int .i64 k,.int .i64 (j:Int),.int .i64 e,.slice p n c],.map (some M)] w fun e w'=>(∃kz:ByteArray,e=.returned (.tuple #[.string kz,.bool true])/\zY s l keys j (.inl kz.data.toList)/\kz.size<=maxLen/\Z2 w' M (m+1) (D.put (.string kz.data.toList) (.agg []))/\MRd w' R s l pl er/\But2 R M w w')\/
   (∃pq:Int×Int,e=.returned (.tuple #[.string ⟨#[]⟩,.bool false])/\zY s l keys j (.inr pq)/\MRd w' R s l pq.1 pq.2/\Only R w w'):=by
  intro kz hz hkt HKA;have hz':kz.size<=maxLen:=by unfold maxLen;omega
  by_cases hin:kz.data.toList∈keys
  ·exact(jb7 w R s l pl er h k e j hj p n c M m D hM kz hz' HKA (by rw [hD.2];exact decide_eq_true hin)).mono fun e w' ⟨e1,e2,e3⟩=>.inr ⟨_,e1,⟨hj,_,0,hkt,.inr (.inl ⟨rfl,hin,rfl⟩)⟩,e2,e3⟩
  ·exact(jht w R s l pl er h k e j p n c M m D hM hMR hm kz hz' HKA (by rw [hD.2];exact decide_eq_false hin)).mono fun e w' ⟨e1,e2,e3,e4⟩=>.inl ⟨kz,e1,⟨hj,_,0,hkt,.inl ⟨rfl,hin,rfl⟩⟩,hz',e2,e3,e4⟩
 have keyX:∀(kz:ByteArray) (ke:Int),ke≠0->Jf (s.extract l[j].fro l[j].til).data.toList l[j].kind kz.data.toList ke->(∀v,Below w.heap.size w v->Calls Tryz.prog 175 #[.pointer (some ⟨R,0,none⟩),.agg #[.int .i64 k,.int .i64 (j:Int),.int .i64 e,.slice p n c]] v fun e w'=>e=.returned (.tuple #[.string kz,.int .i64 ke])/\Below v.heap.size v w')->
   Calls Tryz.prog 113 #[.pointer (some ⟨R,0,none⟩),.agg #[.int .i64 k,.int .i64 (j:Int),.int .i64 e,.slice p n c],.map (some M)] w fun e w'=>(∃kz:ByteArray,e=.returned (.tuple #[.string kz,.bool true])/\zY s l keys j (.inl kz.data.toList)/\kz.size<=maxLen/\Z2 w' M (m+1) (D.put (.string kz.data.toList) (.agg []))/\MRd w' R s l pl er/\But2 R M w w')\/
   (∃pq:Int×Int,e=.returned (.tuple #[.string ⟨#[]⟩,.bool false])/\zY s l keys j (.inr pq)/\MRd w' R s l pq.1 pq.2/\Only R w w'):=by
  intro kz ke hke hkt HKA;exact(jeK w R s l pl er h k e j hj p n c M kz ke hke HKA).mono fun e w' ⟨e1,e2,e3⟩=>.inr ⟨_,e1,⟨hj,_,ke,hkt,.inr (.inr ⟨hke,rfl⟩)⟩,e2,e3⟩
 by_cases hk:l[j].kind=4
 ·cases hB:escs.Ji (s.extract l[j].fro l[j].til).data.toList with
  | true=>exact key0 _ hxs (by unfold Jf;rw [if_pos hk,if_pos hB];exact⟨rfl,rfl⟩) (fun v hv=>jjr v R s l pl er (h.later hv) k e j hj hft hs p n c hk hB)
  | false=>exact keyX ⟨#[]⟩ 4 (by decide) (by unfold Jf;rw [if_pos hk,if_neg (by rw [hB];exact Bool.false_ne_true)];exact⟨rfl,rfl⟩) (fun v hv=>jcS v R s l pl er (h.later hv) k e j hj hft hs p n c hk hB)
 ·have HT:∀(zz:ByteArray) (ke:Int),zz=⟨(escs.ZR (escs.unq (s.extract l[j].fro l[j].til).data.toList)).toArray⟩->escs.jaL (escs.unq (s.extract l[j].fro l[j].til).data.toList)=ke->∀v,Below w.heap.size w v->Calls Tryz.prog 175 #[.pointer (some ⟨R,0,none⟩),.agg #[.int .i64 k,.int .i64 (j:Int),.int .i64 e,.slice p n c]] v fun e w'=>e=.returned (.tuple #[.string zz,.int .i64 ke])/\Below v.heap.size v w':=fun zz ke h1 h2 v hv=>jhV v R s l pl er (h.later hv) k e j hj hft hs p n c hk zz ke h1 h2 ((hT.only hRw (js hv)).1)
  by_cases hE:escs.jaL (escs.unq (s.extract l[j].fro l[j].til).data.toList)=0
  ·refine key0 ⟨(escs.ZR (escs.unq (s.extract l[j].fro l[j].til).data.toList)).toArray⟩ ?_ (by unfold Jf;rw [if_neg hk];exact⟨rfl,hE.symm⟩) (HT _ _ rfl hE)
   have:=jc8 (s.extract l[j].fro l[j].til).data.toList;have e2:(s.extract l[j].fro l[j].til).data.toList.length=(s.extract l[j].fro l[j].til).size:=rfl
   show(escs.ZR _).toArray.size<=100000
   rw [List.size_toArray];omega
  ·exact keyX ⟨(escs.ZR (escs.unq (s.extract l[j].fro l[j].til).data.toList)).toArray⟩ _ hE (by unfold Jf;rw [if_neg hk];exact⟨rfl,rfl⟩) (HT _ _ rfl rfl)
open Go.RowKit Go.Shelf
open trees (nd Lies)
def je5 (E:List V):Prop:=E.Pairwise (fun a b=>zT (zf a).1 (zf b).1=.lt)
def Jt (kr:List (List UInt8)->Nat->List UInt8⊕(Int×Int)->Prop)(Rl:trees.T->V⊕(Int×Int)->Prop):List trees.T->List V->V⊕(Int×Int)->Prop
 | [],acc,x=>∃E,E.Perm acc/\je5 E/\x=.inl (mkV (6,0,0,[]) [] E)
 | t :: r, acc, x => ∃ ek ea ee kk ka ke v, t = nd ek ea ee [nd kk ka ke [], v] ∧
   ((∃key,kr (acc.map (fun e=>(zf e).1)) ka (.inl key)/\((∃y,Rl v (.inl y)/\Jt kr Rl r (acc++[ent key y]) x)\/∃pq,Rl v (.inr pq)/\x=.inr pq))\/∃pq,kr (acc.map (fun e=>(zf e).1)) ka (.inr pq)/\x=.inr pq)
theorem jkV {E:List V}(h:E.Pairwise (fun a b=>¬zT (zf b).1 (zf a).1=.lt))(hn:(E.map (fun e=>(zf e).1)).Nodup):je5 E:=by
 unfold je5;rw [List.pairwise_iff_getElem] at h ⊢;intro i j hi hj hij;refine jfU (h i j hi hj hij) (fun e=>?_);have h2:=(List.nodup_iff_pairwise_ne.1 hn)
 rw [List.pairwise_iff_getElem] at h2;have:=h2 i j (by simpa using hi) (by simpa using hj) hij;simp only [List.getElem_map] at this;exact this e
theorem Qn {w:World}{B:Nat}{u0 u1 u2 u3 u4 u5:Value}{x:Bool}(tmps:Array Value)(h:Blk w B #[u0,u1,u2,u3,u4,u5] 26)(ht:tmps[4]?=some (.pointer (some ⟨B,0,none⟩)):=by rfl)(hx:tmps[5]?=some (.bool x):=by rfl):(results Tryz.f60 tmps).run Tryz.prog w=.ok (.tuple #[.agg #[u0,u1,u2,u3,u4,u5],.bool x]) w:=by
 obtain⟨c0,c1,c2,c3,c4,c5⟩:=h.cells6;simp [results,Tryz.f60,ht,hx,go_sem,c0,c1,c2,c3,c4,c5]
theorem jge (n R:Nat)(s:ByteArray)(l:List toks.Tk)(pl er:Int)(Rl:trees.T->V⊕(Int×Int)->Prop)(w:World)(hm:MRd w R s l pl er)(hT:Tabs R w)(hs:s.size<=100000)(hgd:∀(j:Nat) (h:j<l.length),l[j].fro<=l[j].til/\l[j].til<=s.size)(na ne:Int)(np:Option Addr)(nc:Nat)(T:List trees.T)(hTl:T.length<=nc/\T.length<=900000)
  (hrow:T≠[]->∃b o,np=some ⟨b,o,none⟩/\b<R/\∀(j:Nat) (h:j<T.length),∃us:List Value,us.length=4/\(∀i,i<4->w.cell? ⟨b,o+j*4+i,none⟩=us[i]?)/\Lies (fun b=>b<R) (n+1) w us T[j]) (hk:∀t∈T,∃ek ea ee kk ka ke v,t=nd ek ea ee [nd kk ka ke [],v]/\ka<l.length/\jjC n R s l v (Rl v)) :
  Calls Tryz.prog 60 #[.pointer (some ⟨R,0,none⟩),.agg #[.int .i64 3,.int .i64 na,.int .i64 ne,.slice np T.length nc]] w (YE (n+1) R s l pl er (Jt (zY s l) Rl T []) w):=by
 have hRw:=hm.lt;have b0:Below w.heap.size w ((((w.alloc (.cells #[.int .i64 3,.int .i64 na,.int .i64 ne,.slice np T.length nc] 59)).alloc (.cells #[.int .i64 0,.int .i64 0,.int .u64 0,.string ⟨#[]⟩,.slice none 0 0,.slice none 0 0] 26)).alloc (.cells #[.int .i64 6,.int .i64 0,.int .u64 0,.string ⟨#[]⟩,.slice none 0 0,.slice none 0 0] 26)).alloc (.map #[] 0)):=((((Below.refl _ w).alloc (Nat.le_refl _) _).alloc (by simp) _).alloc (by simp;omega) _).alloc (by simp;omega) _;have s0:((((w.alloc (.cells #[.int .i64 3,.int .i64 na,.int .i64 ne,.slice np T.length nc] 59)).alloc (.cells #[.int .i64 0,.int .i64 0,.int .u64 0,.string ⟨#[]⟩,.slice none 0 0,.slice none 0 0] 26)).alloc (.cells #[.int .i64 6,.int .i64 0,.int .u64 0,.string ⟨#[]⟩,.slice none 0 0,.slice none 0 0] 26)).alloc (.map #[] 0)).heap.size=w.heap.size+4:=by simp
 have hn0:Blk ((((w.alloc (.cells #[.int .i64 3,.int .i64 na,.int .i64 ne,.slice np T.length nc] 59)).alloc (.cells #[.int .i64 0,.int .i64 0,.int .u64 0,.string ⟨#[]⟩,.slice none 0 0,.slice none 0 0] 26)).alloc (.cells #[.int .i64 6,.int .i64 0,.int .u64 0,.string ⟨#[]⟩,.slice none 0 0,.slice none 0 0] 26)).alloc (.map #[] 0)) w.heap.size #[.int .i64 3,.int .i64 na,.int .i64 ne,.slice np T.length nc] 59:=(((jf w _ _).alloc _).alloc _).alloc _
 have hr0:Blk ((((w.alloc (.cells #[.int .i64 3,.int .i64 na,.int .i64 ne,.slice np T.length nc] 59)).alloc (.cells #[.int .i64 0,.int .i64 0,.int .u64 0,.string ⟨#[]⟩,.slice none 0 0,.slice none 0 0] 26)).alloc (.cells #[.int .i64 6,.int .i64 0,.int .u64 0,.string ⟨#[]⟩,.slice none 0 0,.slice none 0 0] 26)).alloc (.map #[] 0)) (w.heap.size+1) #[.int .i64 0,.int .i64 0,.int .u64 0,.string ⟨#[]⟩,.slice none 0 0,.slice none 0 0] 26:=by
  have h:=((jf (w.alloc (.cells #[.int .i64 3,.int .i64 na,.int .i64 ne,.slice np T.length nc] 59)) #[.int .i64 0,.int .i64 0,.int .u64 0,.string ⟨#[]⟩,.slice none 0 0,.slice none 0 0] 26).alloc (.cells #[.int .i64 6,.int .i64 0,.int .u64 0,.string ⟨#[]⟩,.slice none 0 0,.slice none 0 0] 26)).alloc (.map #[] 0);rwa [World.size_alloc] at h
 have hd0:Blk ((((w.alloc (.cells #[.int .i64 3,.int .i64 na,.int .i64 ne,.slice np T.length nc] 59)).alloc (.cells #[.int .i64 0,.int .i64 0,.int .u64 0,.string ⟨#[]⟩,.slice none 0 0,.slice none 0 0] 26)).alloc (.cells #[.int .i64 6,.int .i64 0,.int .u64 0,.string ⟨#[]⟩,.slice none 0 0,.slice none 0 0] 26)).alloc (.map #[] 0)) (w.heap.size+2) #[.int .i64 6,.int .i64 0,.int .u64 0,.string ⟨#[]⟩,.slice none 0 0,.slice none 0 0] 26:=by
  have h:=(jf ((w.alloc (.cells #[.int .i64 3,.int .i64 na,.int .i64 ne,.slice np T.length nc] 59)).alloc (.cells #[.int .i64 0,.int .i64 0,.int .u64 0,.string ⟨#[]⟩,.slice none 0 0,.slice none 0 0] 26)) #[.int .i64 6,.int .i64 0,.int .u64 0,.string ⟨#[]⟩,.slice none 0 0,.slice none 0 0] 26).alloc (.map #[] 0);rwa [World.size_alloc,World.size_alloc] at h
 have hM0:Z2 ((((w.alloc (.cells #[.int .i64 3,.int .i64 na,.int .i64 ne,.slice np T.length nc] 59)).alloc (.cells #[.int .i64 0,.int .i64 0,.int .u64 0,.string ⟨#[]⟩,.slice none 0 0,.slice none 0 0] 26)).alloc (.cells #[.int .i64 6,.int .i64 0,.int .u64 0,.string ⟨#[]⟩,.slice none 0 0,.slice none 0 0] 26)).alloc (.map #[] 0)) (w.heap.size+3) 0 (.map []):=by
  have h:=World.ownsMap_made (((w.alloc (.cells #[.int .i64 3,.int .i64 na,.int .i64 ne,.slice np T.length nc] 59)).alloc (.cells #[.int .i64 0,.int .i64 0,.int .u64 0,.string ⟨#[]⟩,.slice none 0 0,.slice none 0 0] 26)).alloc (.cells #[.int .i64 6,.int .i64 0,.int .u64 0,.string ⟨#[]⟩,.slice none 0 0,.slice none 0 0] 26)) Tryz.prog 9 (unitElem (H:=Unit));rwa [World.size_alloc,World.size_alloc,World.size_alloc] at h
 have ST:Hid (MT R w ((((w.alloc (.cells #[.int .i64 3,.int .i64 na,.int .i64 ne,.slice np T.length nc] 59)).alloc (.cells #[.int .i64 0,.int .i64 0,.int .u64 0,.string ⟨#[]⟩,.slice none 0 0,.slice none 0 0] 26)).alloc (.cells #[.int .i64 6,.int .i64 0,.int .u64 0,.string ⟨#[]⟩,.slice none 0 0,.slice none 0 0] 26)).alloc (.map #[] 0)) n 3 na ne np T.length nc [] none 0 0 (.map [])/\MRd ((((w.alloc (.cells #[.int .i64 3,.int .i64 na,.int .i64 ne,.slice np T.length nc] 59)).alloc (.cells #[.int .i64 0,.int .i64 0,.int .u64 0,.string ⟨#[]⟩,.slice none 0 0,.slice none 0 0] 26)).alloc (.cells #[.int .i64 6,.int .i64 0,.int .u64 0,.string ⟨#[]⟩,.slice none 0 0,.slice none 0 0] 26)).alloc (.map #[] 0)) R s l pl er):=jd ⟨⟨hd0,OwnR.nil _ _ _ _ _,hn0,hr0,hM0,js b0,by omega,hRw⟩,hm.later b0⟩;have a3:=hn0.cell 3 _ rfl
 simp only [List.getElem_toArray,List.getElem_cons_zero,List.getElem_cons_succ] at a3;have HROW:=jd hrow;have HK:=jd hk;have HT:=jd (And.intro hT (And.intro hm (And.intro hRw (And.intro hs hgd))));have hn63:T.length<=900000:=hTl.2;clear b0 s0 hn0 hr0 hd0 hM0 hrow hk hT hm hRw hTl hs hgd;have hmk:∀W:World,(Instr.makeMap 180 none).run Tryz.prog W=.ok (.map (some W.heap.size)) (W.alloc (.map #[] 0)):=fun W=>rfl
 go_enter Tryz.func60,Tryz.ntmps60
 go_wp2;clear a3 hmk
 go_loopw [18] (fun a wr=>∃(j:Nat) (acc:List V) (p:Option Addr) (cp:Nat) (D:DataW Unit),a=.int .i64 j/\j<=T.length/\Hid (acc.length=j/\(∀x,Jt (zY s l) Rl (T.drop j) acc x->Jt (zY s l) Rl T [] x)/\(acc.map (fun e=>(zf e).1)).Nodup/\Holds1 D (acc.map (fun e=>(zf e).1))/\MT R w wr n 3 na ne np T.length nc acc p cp j D/\MRd wr R s l pl er)) (fun a _=>T.length - (intOf a).toNat)
 case atStart=>exact⟨0,[],none,0,.map [],rfl,Nat.zero_le _,jd ⟨rfl,fun x h=>h,List.nodup_nil,jfy,ST.out.1,ST.out.2⟩⟩
 case round=>
  obtain⟨j,acc,p,cp,D,rfl,hj,hh⟩:=hrel;obtain⟨hal,hup,hnd,hD,hst,hmr⟩:=hh.out;obtain⟨hT0,hm0,hRw,hs,hgd⟩:=HT.out;clear hh ST
  by_cases hlt:j<T.length
  ·have hltI:(j:Int)<(T.length:Int):=by omega
   obtain⟨bk,o,rfl,hbR,hcell⟩:=HROW.out (fun e=>by rw [e] at hlt;cases hlt);obtain⟨us,hus,hce,hly⟩:=hcell j hlt;have hlw:Lies (fun b=>b<R) (n+1) wr us T[j]:=hly.kept hst.b.size (fun q hq hq2=>hst.b.block q hq2 (fun e=>by have:=Option.some.inj e;omega));obtain⟨ek,ea,ee,kk',ka,ke',v,hTj,hka,hRK⟩:=HK.out T[j] (List.getElem_mem hlt)
   have hfrm:∃(tk ta te:Int) (kb ko tc:Nat) (kk ke:Int) (kp:Option Addr) (kn kc:Nat) (vk va ve:Int) (vp:Option Addr) (vl vc:Nat),us=[.int .i64 tk,.int .i64 ta,.int .i64 te,.slice (some ⟨kb,ko,none⟩) 2 tc]/\kb<R/\Lies (fun b=>b<R) n wr [.int .i64 vk,.int .i64 va,.int .i64 ve,.slice vp vl vc] v/\(∀i,i<4->wr.cell? ⟨kb,ko+i,none⟩=[Value.int .i64 kk,.int .i64 (ka:Int),.int .i64 ke,.slice kp kn kc][i]?)/\(∀i,i<4->wr.cell? ⟨kb,ko+4+i,none⟩=[Value.int .i64 vk,.int .i64 va,.int .i64 ve,.slice vp vl vc][i]?):=by
    obtain⟨a1,a2,a3,a4,a5,a6,b1,rfl,_,b4⟩:=hlw;rw [hTj] at b1;obtain⟨_,_,_,rfl⟩:=trees.qh b1;obtain⟨kb,ko,rfl,hkb,hklt,hkc⟩:=b4 (by simp);obtain⟨u0,_,u2,u3⟩:=hkc 0 (by simp);obtain⟨v0,_,v2,v3⟩:=hkc 1 (by simp);simp only [List.getElem_cons_zero,List.getElem_cons_succ] at u3 v3;cases n with
    | zero=>exact u3.elim
    | succ n=>
     have v3':=v3;obtain⟨c1,c2,c3,c4,c5,c6,d1,rfl,_,_⟩:=u3;obtain⟨e1,e2,e3,e4,e5,e6,f1,rfl,_,_⟩:=v3;obtain⟨_,rfl,_,_⟩:=trees.qh d1;refine⟨_,_,_,kb,ko,_,(c1:Int),(c3:Int),c5,c4.length,c6,(e1:Int),(e2:Int),(e3:Int),e5,e4.length,e6,rfl,hkb,v3',fun i hi=>?_,fun i hi=>?_⟩
     ·have:=u2 i hi
      rwa [Nat.zero_mul,Nat.add_zero] at this
     ·have:=v2 i hi
      rwa [Nat.one_mul] at this
   obtain⟨tk,ta,te,kb,ko,tc,kk,ke,kp,kn,kc,vk,va,ve,vp,vl,vc,rfl,hkb,hlv0,hkey,hval⟩:=hfrm;have hcw:∀i,i<4->wr.cell? ⟨bk,o+j*4+i,none⟩=[Value.int .i64 tk,.int .i64 ta,.int .i64 te,.slice (some ⟨kb,ko,none⟩) 2 tc][i]?:=fun i hi=>(World.cell?_of_block (a:=⟨bk,o+j*4+i,none⟩) (hst.b.block bk (by omega) (fun e=>by have:=Option.some.inj e;omega))).trans (hce i hi)
   have k0:wr.cell? ⟨bk,o+j*4,none⟩=some (.int .i64 tk):=hcw 0 (by omega)
   have k1:wr.cell? ⟨bk,o+j*4+1,none⟩=some (.int .i64 ta):=hcw 1 (by omega)
   have k2:wr.cell? ⟨bk,o+j*4+2,none⟩=some (.int .i64 te):=hcw 2 (by omega)
   have k3:wr.cell? ⟨bk,o+j*4+3,none⟩=some (.slice (some ⟨kb,ko,none⟩) 2 tc):=hcw 3 (by omega)
   have hRr:=hmr.lt;have bA:Below wr.heap.size wr (wr.alloc (.cells #[.int .i64 tk,.int .i64 ta,.int .i64 te,.slice (some ⟨kb,ko,none⟩) 2 tc] 59)):=(Below.refl _ wr).alloc (Nat.le_refl _) _;have hB5:=jf wr #[.int .i64 tk,.int .i64 ta,.int .i64 te,.slice (some ⟨kb,ko,none⟩) 2 tc] 59;have hst4:=hst.later (js bA);have hmr4:=hmr.later bA;have hT4:=(hT0.only hRw hst.b).only hRr (js bA);have hlv4:Lies (fun b=>b<R) n (wr.alloc (.cells #[.int .i64 tk,.int .i64 ta,.int .i64 te,.slice (some ⟨kb,ko,none⟩) 2 tc] 59)) [.int .i64 vk,.int .i64 va,.int .i64 ve,.slice vp vl vc] v:=hlv0.kept bA.size (fun q hq hq2=>bA.block q hq2);have hkR:kb<wr.heap.size:=by omega
   have hkey4:∀i,i<4->(wr.alloc (.cells #[.int .i64 tk,.int .i64 ta,.int .i64 te,.slice (some ⟨kb,ko,none⟩) 2 tc] 59)).cell? ⟨kb,ko+i,none⟩=[Value.int .i64 kk,.int .i64 (ka:Int),.int .i64 ke,.slice kp kn kc][i]?:=fun i hi=>(bA.cell (p:=⟨kb,ko+i,none⟩) hkR).trans (hkey i hi)
   have hval4:∀i,i<4->(wr.alloc (.cells #[.int .i64 tk,.int .i64 ta,.int .i64 te,.slice (some ⟨kb,ko,none⟩) 2 tc] 59)).cell? ⟨kb,ko+4+i,none⟩=[Value.int .i64 vk,.int .i64 va,.int .i64 ve,.slice vp vl vc][i]?:=fun i hi=>(bA.cell (p:=⟨kb,ko+4+i,none⟩) hkR).trans (hval i hi)
   have hWs:(wr.alloc (.cells #[.int .i64 tk,.int .i64 ta,.int .i64 te,.slice (some ⟨kb,ko,none⟩) 2 tc] 59)).heap.size=wr.heap.size+1:=by simp
   have hs4:=hst.s;have C:=jeW (wr.alloc (.cells #[.int .i64 tk,.int .i64 ta,.int .i64 te,.slice (some ⟨kb,ko,none⟩) 2 tc] 59)) R s l pl er hmr4 kk ke ka hka (hgd ka hka) hs kp kn kc (w.heap.size+3) j D hst4.mp (by omega) (by omega) hT4 (acc.map (fun e=>(zf e).1)) hD;have HC:=jd C;have HDR:=jd (List.drop_eq_getElem_cons hlt)
   have HB:Hid (MT R w (wr.alloc (.cells #[.int .i64 tk,.int .i64 ta,.int .i64 te,.slice (some ⟨kb,ko,none⟩) 2 tc] 59)) n 3 na ne (some ⟨bk,o,none⟩) T.length nc acc p cp j D/\Lies (fun b=>b<R) n (wr.alloc (.cells #[.int .i64 tk,.int .i64 ta,.int .i64 te,.slice (some ⟨kb,ko,none⟩) 2 tc] 59)) [.int .i64 vk,.int .i64 va,.int .i64 ve,.slice vp vl vc] v/\Tabs R (wr.alloc (.cells #[.int .i64 tk,.int .i64 ta,.int .i64 te,.slice (some ⟨kb,ko,none⟩) 2 tc] 59))/\Blk (wr.alloc (.cells #[.int .i64 tk,.int .i64 ta,.int .i64 te,.slice (some ⟨kb,ko,none⟩) 2 tc] 59)) wr.heap.size #[.int .i64 tk,.int .i64 ta,.int .i64 te,.slice (some ⟨kb,ko,none⟩) 2 tc] 59/\(∀i,i<4->(wr.alloc (.cells #[.int .i64 tk,.int .i64 ta,.int .i64 te,.slice (some ⟨kb,ko,none⟩) 2 tc] 59)).cell? ⟨kb,ko+4+i,none⟩=[Value.int .i64 vk,.int .i64 va,.int .i64 ve,.slice vp vl vc][i]?)/\kb<R/\R<w.heap.size/\w.heap.size+4<=wr.heap.size/\(wr.alloc (.cells #[.int .i64 tk,.int .i64 ta,.int .i64 te,.slice (some ⟨kb,ko,none⟩) 2 tc] 59)).heap.size=wr.heap.size+1):=jd ⟨hst4,hlv4,hT4,hB5,hval4,hkb,hRw,hs4,hWs⟩
   have HP:=jd (And.intro hTj (And.intro hRK (And.intro hal (And.intro hup (And.intro hnd hD)))));have n3:=hB5.cell 3 _ rfl;simp only [List.getElem_toArray,List.getElem_cons_zero,List.getElem_cons_succ] at n3;have q0:(wr.alloc (.cells #[.int .i64 tk,.int .i64 ta,.int .i64 te,.slice (some ⟨kb,ko,none⟩) 2 tc] 59)).cell? ⟨kb,ko,none⟩=some (.int .i64 kk):=hkey4 0 (by omega)
   have q1:(wr.alloc (.cells #[.int .i64 tk,.int .i64 ta,.int .i64 te,.slice (some ⟨kb,ko,none⟩) 2 tc] 59)).cell? ⟨kb,ko+1,none⟩=some (.int .i64 (ka:Int)):=hkey4 1 (by omega)
   have q2:(wr.alloc (.cells #[.int .i64 tk,.int .i64 ta,.int .i64 te,.slice (some ⟨kb,ko,none⟩) 2 tc] 59)).cell? ⟨kb,ko+2,none⟩=some (.int .i64 ke):=hkey4 2 (by omega)
   have q3:(wr.alloc (.cells #[.int .i64 tk,.int .i64 ta,.int .i64 te,.slice (some ⟨kb,ko,none⟩) 2 tc] 59)).cell? ⟨kb,ko+3,none⟩=some (.slice kp kn kc):=hkey4 3 (by omega)
   clear C hst4 hst hup hmr hmr4 hlw hly hcell hce hcw hus hbR hal hT0 hm0 hRw bA hRr hlv0 hlv4 hkey hval hkey4 hval4 hkR hkb hB5 hT4 hs4 hWs hs hgd hD hnd hTj hRK hka
   go_upto_region 7 with (go_at_call 113;refine(ja HC).mono ?_;rintro e1 w2 (⟨kz,rfl,hKR,hkz,hM2,hm2,o2⟩ | ⟨pq,rfl,hKR,hm2,o2⟩))
   ·obtain⟨hst4,hlv4,hT4,hB5,hval4,hkb,hRw,hs4,hWs⟩:=HB.out
    have hst2:=hst4.key o2 hM2;have nb:∀q,q<wr.heap.size+1->q≠R->q≠w.heap.size+3->w2.heap[q]?=(wr.alloc (.cells #[.int .i64 tk,.int .i64 ta,.int .i64 te,.slice (some ⟨kb,ko,none⟩) 2 tc] 59)).heap[q]?:=fun q h1 h2 h3=>o2.block q (by omega) h2 h3
    have hB2:Blk w2 wr.heap.size #[.int .i64 tk,.int .i64 ta,.int .i64 te,.slice (some ⟨kb,ko,none⟩) 2 tc] 59:=(nb _ (by omega) (by omega) (by omega)).trans hB5;have hval2:∀i,i<4->w2.cell? ⟨kb,ko+4+i,none⟩=[Value.int .i64 vk,.int .i64 va,.int .i64 ve,.slice vp vl vc][i]?:=fun i hi=>(World.cell?_of_block (a:=⟨kb,ko+4+i,none⟩) (nb kb (by omega) (by omega) (by omega))).trans (hval4 i hi)
    have hlv2:Lies (fun b=>b<R) n w2 [.int .i64 vk,.int .i64 va,.int .i64 ve,.slice vp vl vc] v:=hlv4.kept o2.size (fun q hq hq2=>nb q (by omega) (by omega) (by omega))
    have hT2:Tabs R w2:=by
     obtain⟨⟨h1,h2⟩,h3,h4⟩:=hT4;have hb:∀q,q<R->w2.heap[q]?=(wr.alloc (.cells #[.int .i64 tk,.int .i64 ta,.int .i64 te,.slice (some ⟨kb,ko,none⟩) 2 tc] 59)).heap[q]?:=fun q hq=>nb q (by omega) (by omega) (by omega)
     refine⟨⟨fun c hc=>(World.cell?_of_block (a:=⟨1,c,none⟩) (hb _ h3)).trans (h1 c hc),fun i hi=>?_⟩,h3,h4⟩;obtain⟨a1,a2⟩:=h2 i hi;exact⟨(World.cell?_of_block (a:=⟨2,2*i,none⟩) (hb _ h4)).trans a1,(World.cell?_of_block (a:=⟨2,2*i+1,none⟩) (hb _ h4)).trans a2⟩
    have C:=HP.out.2.1 w2 pl er _ _ _ _ hm2 hlv2 hT2;have HC2:=jd C;have HS2:=jd hst2;have m3:=hB2.cell 3 _ rfl;simp only [List.getElem_toArray,List.getElem_cons_zero,List.getElem_cons_succ] at m3;have v0:w2.cell? ⟨kb,ko+4,none⟩=some (.int .i64 vk):=hval2 0 (by omega)
    have v1:w2.cell? ⟨kb,ko+5,none⟩=some (.int .i64 va):=hval2 1 (by omega)
    have v2:w2.cell? ⟨kb,ko+6,none⟩=some (.int .i64 ve):=hval2 2 (by omega)
    have v3:w2.cell? ⟨kb,ko+7,none⟩=some (.slice vp vl vc):=hval2 3 (by omega)
    have HRW:=jd hRw;have v1':w2.cell? ⟨kb,ko+4+1,none⟩=some (.int .i64 va):=v1
    have v2':w2.cell? ⟨kb,ko+4+2,none⟩=some (.int .i64 ve):=v2
    have v3':w2.cell? ⟨kb,ko+4+3,none⟩=some (.slice vp vl vc):=v3
    have HKZ:=jd (And.intro hKR hkz);clear C hst2 hst4 hlv4 hT4 hB5 hval4 hkb hRw hs4 hWs nb hB2 hval2 hlv2 hT2 o2 hM2 hm2 HC HB hKR hkz n3 q0 q1 q2 q3 k0 k1 k2 k3
    go_upto_region 10 with (go_at_call 30;refine(ja HC2).mono ?_;rintro e1 w3 ⟨hres,o3⟩;rcases hres with ⟨yk,nn,b,z,pL,nL,cL,pE,nE,cE,y,rfl,hRel,hly,hm3⟩ | ⟨pq,rfl,hRel,hm3⟩)
    ·obtain⟨hTj,hRK,hal,hup,hnd,hD⟩:=HP.out
     obtain⟨hKR,hkz⟩:=HKZ.out;obtain⟨p',cp',W',hrun,hdW,hnx,hkp⟩:=HS2.out.push o3 kz yk nn b z pL nL cL pE nE cE y hkz hly (by omega);have hA:=(HS2.out.later o3).later (js ((Below.refl _ w3).alloc (Nat.le_refl _) (.cells #[.int .i64 yk,.int .i64 nn,.int .u64 (b:Int),.string z,.slice pL nL cL,.slice pE nE cE] 26)));have d4:=hA.d.cell 5 _ rfl;have hX:=jf w3 #[.int .i64 yk,.int .i64 nn,.int .u64 (b:Int),.string z,.slice pL nL cL,.slice pE nE cE] 26;have x0:=hX.cell 0 _ rfl;have x1:=hX.cell 1 _ rfl;have x2:=hX.cell 2 _ rfl;have x3:=hX.cell 3 _ rfl;have x4:=hX.cell 4 _ rfl;have x5:=hX.cell 5 _ rfl;have hA2:=hA.d.alloc (.cells #[.string kz,.int .i64 yk,.int .i64 nn,.int .u64 (b:Int),.string z,.slice pL nL cL,.slice pE nE cE] 44);have f4:=hA2.cell 5 _ rfl;have w4:=hdW.cell 5 _ rfl;have w4':=Blk.froz hdW 5
     simp only [List.getElem_toArray,List.getElem_cons_zero,List.getElem_cons_succ] at d4 f4 w4;have hmap:(acc++[ent kz.data.toList y]).map (fun e=>(zf e).1)=acc.map (fun e=>(zf e).1)++[kz.data.toList]:=by rw [List.map_append];rfl
     have hnd2:((acc++[ent kz.data.toList y]).map (fun e=>(zf e).1)).Nodup:=by
      rw [hmap,List.nodup_append];refine⟨hnd,by simp,?_⟩;obtain⟨_,key,ke,_,hh⟩:=hKR;intro a ha c hc e;rw [List.mem_singleton] at hc
      rcases hh with ⟨_,hno,e2⟩ | ⟨_,_,e2⟩ | ⟨_,e2⟩
      ·injection e2 with e2
       rw [<-e2,<-hc,<-e] at hno;exact hno ha
      ·cases e2
      ·cases e2
     have NX:Hid ((acc++[ent kz.data.toList y]).length=j+1/\(∀x,Jt (zY s l) Rl (T.drop (j+1)) (acc++[ent kz.data.toList y]) x->Jt (zY s l) Rl T [] x)/\((acc++[ent kz.data.toList y]).map (fun e=>(zf e).1)).Nodup/\Holds1 (D.put (.string kz.data.toList) (.agg [])) ((acc++[ent kz.data.toList y]).map (fun e=>(zf e).1))/\MT R w (W'.setCell ⟨w.heap.size+2,5,none⟩ (.slice p' (acc.length+1) cp')) n 3 na ne (some ⟨bk,o,none⟩) T.length nc (acc++[ent kz.data.toList y]) p' cp' (j+1) (D.put (.string kz.data.toList) (.agg []))/\MRd (W'.setCell ⟨w.heap.size+2,5,none⟩ (.slice p' (acc.length+1) cp')) R s l pl er):=jd ⟨by simp;omega,fun x hx=>hup x (by rw [HDR.out];exact⟨_,_,_,_,_,_,_,hTj,.inl ⟨_,hKR,.inl ⟨y,hRel,hx⟩⟩⟩),hnd2,by rw [hmap];exact hD.put _,hnx,by
      obtain⟨a,cap,g1,g2,g3,g4⟩:=hm3;exact⟨a,cap,(hkp R (Nat.le_refl R)).trans g1,g2,g3,g4.kept (fun q hq=>hkp q (Nat.le_of_lt hq))⟩⟩
     clear hnx hkp hA hA2 hdW hX HC2 HS2 hly hm3 o3 hRel HDR v0 v1 v2 v3 v1' v2' v3' m3 hKR hkz hmap hTj hRK hup hnd hnd2 hD HKZ HP hal
     go_wp2_with (at_builtin;refine Lib.wpList_append_run _ rfl _ _ _ _ rfl _ _ rfl rfl _ _ hrun ?_)
     go_roundw
     case rel=>exact⟨j+1,acc++[ent kz.data.toList y],p',cp',D.put (.string kz.data.toList) (.agg []),by go_num,hlt,NX⟩
     case measure=>simp only [intOf];omega
    ·obtain⟨hTj,hRK,hal,hup,hnd,hD⟩:=HP.out
     obtain⟨hKR,hkz⟩:=HKZ.out;have bB:Below w3.heap.size w3 (w3.alloc (.cells #[.int .i64 0,.int .i64 0,.int .u64 0,.string ⟨#[]⟩,.slice none 0 0,.slice none 0 0] 26)):=(Below.refl _ w3).alloc (Nat.le_refl _) _;have hA:=(HS2.out.later o3).later (js bB);have hr5:=hA.r;have hsA:=hA.s;have FIN:=jd (And.intro (hup (.inr pq) (by rw [HDR.out];exact⟨_,_,_,_,_,_,_,hTj,.inl ⟨_,hKR,.inr ⟨pq,hRel,rfl⟩⟩⟩)) (And.intro (hm3.later bB) (And.intro hA.b (And.intro HRW.out hsA))));clear hA hsA bB HC2 HS2 o3 hRel hm3 HDR v0 v1 v2 v3 v1' v2' v3' m3 hKR hkz hTj hRK hup hnd hD HKZ HP hal;generalize w3.alloc (.cells #[.int .i64 0,.int .i64 0,.int .u64 0,.string ⟨#[]⟩,.slice none 0 0,.slice none 0 0] 26)=X at *
     go_upto_region 11 with fail
     have hY:=jD hr5 (.int .i64 0) (.int .i64 0) (.int .u64 0) (.string ⟨#[]⟩) (.slice none 0 0) (.slice none 0 0);have HY:=jd hY;have HF:=jd (jw (Below.refl (w.heap.size+1) X) (b:=w.heap.size+1) (Nat.le_refl _) (.int .i64 0) (.int .i64 0) (.int .u64 0) (.string ⟨#[]⟩) (.slice none 0 0) (.slice none 0 0));have x0:=hr5.cell 0 _ rfl;have x1:=hr5.cell 1 _ rfl;have x2:=hr5.cell 2 _ rfl;have x3:=hr5.cell 3 _ rfl;have x4:=hr5.cell 4 _ rfl;have x5:=hr5.cell 5 _ rfl;have z0:=Blk.froz hr5 0;have z1:=Blk.froz hr5 1;have z2:=Blk.froz hr5 2;have z3:=Blk.froz hr5 3;have z4:=Blk.froz hr5 4;have z5:=Blk.froz hr5 5;clear hY;go_wp2;have hY:=HY.out;have hF:=HF.out;clear HY HF x0 x1 x2 x3 x4 x5 z0 z1 z2 z3 z4 z5 ;generalize hXX:jM X (w.heap.size+1) (.int .i64 0) (.int .i64 0) (.int .u64 0) (.string ⟨#[]⟩) (.slice none 0 0) (.slice none 0 0)=Y at hY hF;simp only [jM] at hXX
     rw [hXX];clear hXX;refine bodyPost_ret (Qn _ hY) rfl ?_
     obtain⟨hLT,hmX,oX,hRw,hsX⟩:=FIN.out;obtain⟨a,cap,g1,g2,g3,g4⟩:=hmX;refine⟨.inr ⟨pq,rfl,hLT,⟨a,cap,(hF.block R (by omega)).trans g1,g2,g3,g4.kept (fun q hq=>hF.block q (by omega))⟩⟩,?_⟩;exact⟨hF.os.trans oX.os,hF.tape.trans oX.tape,hF.output.trans oX.output,Nat.le_trans oX.size hF.size,fun q hq hne=>(hF.block q (by omega)).trans (oX.block q hq hne)⟩
   ·obtain⟨hst4,hlv4,hT4,hB5,hval4,hkb,hRw,hs4,hWs⟩:=HB.out
    obtain⟨hTj,hRK,hal,hup,hnd,hD⟩:=HP.out;have hA:=hst4.later o2;have hr5:=hA.r;have hsA:=hA.s;have FIN:=jd (And.intro (hup (.inr pq) (by rw [HDR.out];exact⟨_,_,_,_,_,_,_,hTj,.inr ⟨pq,hKR,rfl⟩⟩)) (And.intro hm2 (And.intro hA.b (And.intro hRw hsA))));clear hA hsA hst4 hlv4 hT4 hB5 hval4 hkb hRw hs4 hWs HC HB o2 hm2 hKR HDR n3 q0 q1 q2 q3 k0 k1 k2 k3 hTj hRK hup hnd hD HP hal;have eX:∃X,X=w2:=⟨_,rfl⟩
    obtain⟨X,hXw⟩:=eX;rw [<-hXw] at hr5 FIN ⊢;clear hXw
    go_upto_region 8 with fail
    have hY:=jD hr5 (.int .i64 0) (.int .i64 0) (.int .u64 0) (.string ⟨#[]⟩) (.slice none 0 0) (.slice none 0 0);have HY:=jd hY;have HF:=jd (jw (Below.refl (w.heap.size+1) X) (b:=w.heap.size+1) (Nat.le_refl _) (.int .i64 0) (.int .i64 0) (.int .u64 0) (.string ⟨#[]⟩) (.slice none 0 0) (.slice none 0 0));have x0:=hr5.cell 0 _ rfl;have x1:=hr5.cell 1 _ rfl;have x2:=hr5.cell 2 _ rfl;have x3:=hr5.cell 3 _ rfl;have x4:=hr5.cell 4 _ rfl;have x5:=hr5.cell 5 _ rfl;have z0:=Blk.froz hr5 0;have z1:=Blk.froz hr5 1;have z2:=Blk.froz hr5 2;have z3:=Blk.froz hr5 3;have z4:=Blk.froz hr5 4;have z5:=Blk.froz hr5 5;clear hY;go_wp2;have hY:=HY.out;have hF:=HF.out;clear HY HF x0 x1 x2 x3 x4 x5 z0 z1 z2 z3 z4 z5 ;generalize hXX:jM X (w.heap.size+1) (.int .i64 0) (.int .i64 0) (.int .u64 0) (.string ⟨#[]⟩) (.slice none 0 0) (.slice none 0 0)=Y at hY hF;simp only [jM] at hXX;rw [hXX]
    clear hXX;refine bodyPost_ret (Qn _ hY) rfl ?_
    obtain⟨hLT,hmX,oX,hRw,hsX⟩:=FIN.out;obtain⟨a,cap,g1,g2,g3,g4⟩:=hmX;refine⟨.inr ⟨pq,rfl,hLT,⟨a,cap,(hF.block R (by omega)).trans g1,g2,g3,g4.kept (fun q hq=>hF.block q (by omega))⟩⟩,?_⟩;exact⟨hF.os.trans oX.os,hF.tape.trans oX.tape,hF.output.trans oX.output,Nat.le_trans oX.size hF.size,fun q hq hne=>(hF.block q (by omega)).trans (oX.block q hq hne)⟩
  ·obtain rfl:j=T.length:=by omega
   have hls:acc.length<=3000000:=by omega
   have C:=jg3 n (w.heap.size+4) wr p cp acc hst.o hls;have HC:=jd C;have hd5:=hst.d.cell 5 _ rfl;simp only [List.getElem_toArray,List.getElem_cons_zero,List.getElem_cons_succ] at hd5;have HST:=jd (And.intro hst (And.intro hmr (And.intro hup (And.intro hnd hRw))));obtain⟨al,hall⟩:∃al,al=acc.length:=⟨_,rfl⟩
   have HAL:=jd hall;rw [<-hall] at hd5 HC;clear C hup hmr hst hal hT0 hm0 hRw hlt hj HROW HK HT hnd hD hs hgd hls hall
   go_upto_region 15 with (go_at_call 114;refine(ja HC).mono ?_;rintro e1 w5 ⟨rfl,E,hE1,hE2,hE3,hE4⟩)
   obtain⟨hst,hmr,hup,hnd,hRw⟩:=HST.out;have hall:=HAL.out;subst hall;have hEl:=hE1.length_eq;have hst5:=hst.sorted hEl hE3 hE4;have hr5:=hst5.r;have hD5:=hst5.d;rw [hEl] at hD5;have hv5:=hst5.value;rw [hEl] at hv5
   have hmr5:MRd w5 R s l pl er:=by
    obtain⟨a,cap,g1,g2,g3,g4⟩:=hmr;have hlt5:=hst.o.lt;have hss:=hst.s;have nb:∀q,q<w.heap.size->w5.heap[q]?=wr.heap[q]?:=fun q hq=>hE4.block q (by omega) (fun e=>by have:=(hlt5 q e.symm).1;omega)
    exact⟨a,cap,(nb R hRw).trans g1,g2,g3,g4.kept (fun q hq=>nb q (by omega))⟩
   have FIN:=jd (And.intro (hup (.inl (mkV (6,0,0,[]) [] E)) (by rw [List.drop_length];exact⟨E,hE1,jkV hE2 ((hE1.map _).nodup_iff.2 hnd),rfl⟩)) (And.intro hmr5 (And.intro hst5.b (And.intro hRw (And.intro hst5.s hv5)))));obtain⟨al,hall⟩:∃al,al=acc.length:=⟨_,rfl⟩
   rw [<-hall] at hD5 FIN;clear hst hmr hup hnd hRw hE1 hE2 hE3 hE4 hst5 hmr5 hd5 HC HST HAL hEl hv5 hall;have hY:=jD hr5 (.int .i64 6) (.int .i64 0) (.int .u64 0) (.string ⟨#[]⟩) (.slice none 0 0) (.slice p al cp);have HY:=jd hY;have HF:=jd (jw (Below.refl (w.heap.size+1) w5) (b:=w.heap.size+1) (Nat.le_refl _) (.int .i64 6) (.int .i64 0) (.int .u64 0) (.string ⟨#[]⟩) (.slice none 0 0) (.slice p al cp));have x0:=hr5.cell 0 _ rfl;have x1:=hr5.cell 1 _ rfl;have x2:=hr5.cell 2 _ rfl;have x3:=hr5.cell 3 _ rfl;have x4:=hr5.cell 4 _ rfl;have x5:=hr5.cell 5 _ rfl;have z0:=Blk.froz hr5 0;have z1:=Blk.froz hr5 1;have z2:=Blk.froz hr5 2;have z3:=Blk.froz hr5 3;have z4:=Blk.froz hr5 4;have z5:=Blk.froz hr5 5;have q0:=hD5.cell 0 _ rfl;have q1:=hD5.cell 1 _ rfl;have q2:=hD5.cell 2 _ rfl;have q3:=hD5.cell 3 _ rfl;have q4:=hD5.cell 4 _ rfl;have q5:=hD5.cell 5 _ rfl;clear hY;go_wp2
   have hY:=HY.out;have hF:=HF.out;clear HY HF x0 x1 x2 x3 x4 x5 z0 z1 z2 z3 z4 z5 q0 q1 q2 q3 q4 q5;have HOT:=jd (fun q (hq:w.heap.size+4<=q)=>qk w5 (w.heap.size+1) q (by omega) (.int .i64 6) (.int .i64 0) (.int .u64 0) (.string ⟨#[]⟩) (.slice none 0 0) (.slice p al cp));generalize hXX:jM w5 (w.heap.size+1) (.int .i64 6) (.int .i64 0) (.int .u64 0) (.string ⟨#[]⟩) (.slice none 0 0) (.slice p al cp)=Y at hY hF HOT;simp only [jM] at hXX;rw [hXX];clear hXX;refine bodyPost_ret (Qn _ hY) rfl ?_
   obtain⟨hLT,hmX,oX,hRw,hsX,hV⟩:=FIN.out;obtain⟨a,cap,g1,g2,g3,g4⟩:=hmX;have hsz:=hF.size;refine⟨.inl ⟨6,0,0,⟨#[]⟩,none,0,0,p,al,cp,_,rfl,hLT,?_,⟨a,cap,(hF.block R (by omega)).trans g1,g2,g3,g4.kept (fun q hq=>hF.block q (by omega))⟩⟩,?_⟩
   ·exact hV.kept (fun q hq=>⟨by omega,by omega⟩) hsz (fun q hq _=>HOT.out q (by omega))
   ·exact⟨hF.os.trans oX.os,hF.tape.trans oX.tape,hF.output.trans oX.output,Nat.le_trans oX.size hF.size,fun q hq hne=>(hF.block q (by omega)).trans (oX.block q hq hne)⟩
open trees (nd Sym pv qF Xt)
def J8 (s:ByteArray)(l:List toks.Tk)(j:Nat)(x:V⊕(Int×Int)):Prop :=
 ∃(h:j<l.length) (lab:Lab) (er:Int),zB (s.extract l[j].fro l[j].til).data.toList l[j].kind lab er/\((er=0/\x=.inl (mkV lab [] []))\/(er≠0/\x=.inr ((l[j].fro:Int),er)))
def qt (kr:List (List UInt8)->Nat->List UInt8⊕(Int×Int)->Prop)(lf:Nat->V⊕(Int×Int)->Prop):Nat->trees.T->V⊕(Int×Int)->Prop
 | 0,_,_=>False
 | f+1,t,x=>∃k a e l,t=nd k a e l/\((k=3/\Jt kr (qt kr lf f) l [] x)\/(k=5/\zp (qt kr lf f) l [] x)\/(k≠3/\k≠5/\lf a x))
theorem Qb {R R':trees.T->V⊕(Int×Int)->Prop}:∀(l:List trees.T) (acc:List V) (x:V⊕(Int×Int)),(∀t∈l,∀x,R t x->R' t x)->zp R l acc x->zp R' l acc x
 | [],_,_,_,h=>h
 | t :: r,acc,x,hm,h=>by
  rcases h with ⟨v,h1,h2⟩ | ⟨pq,h1,h2⟩
  ·exact .inl ⟨v,hm t (List.mem_cons_self ..) _ h1,Qb r _ _ (fun t ht=>hm t (List.mem_cons_of_mem _ ht)) h2⟩
  ·exact .inr ⟨pq,hm t (List.mem_cons_self ..) _ h1,h2⟩
def Xx (N:Nat):Nat->trees.T->Prop
 | 0,_=>False
 | n+1,t=>∃k a e l,t=nd k a e l/\l.length<=20000/\((k=1/\a<N)\/(k=5/\∀y∈l,Xx N n y)\/(k=3/\∀y∈l,∃ek ea ee kk ka ke v,y=nd ek ea ee [nd kk ka ke [],v]/\ka<N/\Xx N n v))
theorem jaG {q:List Sym->trees.R}{ec:UInt8}:∀(l:List trees.T) (ts:List Sym) (e:Nat),Xt q ec l ts e->l.length<=ts.length
 | [],_,_,_=>Nat.zero_le _
 | t :: l,ts,e,h=>by
  obtain⟨seg,y,rest,h1,h2,rfl,h3⟩:=h;have:=List.length_pos_iff.2 h1
  rcases h3 with ⟨_,h4⟩ | ⟨_,rfl,_⟩
  ·have:=jaG l rest e h4
   simp only [List.length_cons,List.length_append];omega
  ·simp only [List.length_cons,List.length_append,List.length_nil]
   omega
theorem jcf (N:Nat):∀(lv:Nat) (seg:List Sym) (t:trees.T),(∀x∈seg,x.2<N)->seg.length<=20000->pv lv seg=.inr (t,[])->Xx N lv t
 | 0,seg,t,_,_,h=>by
  obtain⟨lv',e,_⟩:=trees.JX h;omega
 | lv+1,seg,t,hx,hl,h=>by
  have ih:=jcf N lv;obtain⟨lv',e,hf⟩:=trees.JX h;have e':lv'=lv:=by omega
  subst e'
  have in_part:∀(ts pre sg post:List Sym) (x:Sym),seg=x :: ts->ts=pre++(sg++post)->(∀z∈sg,z.2<N)/\sg.length<=20000:=fun ts pre sg post x e1 e2=>by
   subst e1;subst e2;refine⟨fun z hz=>hx z (by simp [hz]),?_⟩;simp only [List.length_cons,List.length_append] at hl;omega
  rcases hf with ⟨x,rfl,_,rfl⟩ | ⟨x,ts,l,e,hsg,_,rfl,hk⟩ | ⟨x,ts,l,e,hsg,_,rfl,hk⟩
  ·exact⟨1,x.2,x.2+1,[],rfl,by simp,.inl ⟨rfl,hx x (by simp)⟩⟩
  ·have hll:=jaG l ts e hk
   refine⟨3,x.2,e,l,rfl,by rw [hsg] at hl;simp only [List.length_cons] at hl;omega,.inr (.inr ⟨rfl,fun y hy=>?_⟩)⟩;obtain⟨j,hj,rfl⟩:=List.getElem_of_mem hy;obtain⟨pre,sg,post,e1,_,h3⟩:=trees.YC l ts e hk j hj;obtain⟨hz,hsl⟩:=in_part ts pre sg post x hsg e1;obtain⟨y,m,sv,v,rfl,_,_,hv,e4⟩:=trees.YW h3;refine⟨_,_,_,_,_,_,v,e4,hz y (by simp),ih sv v (fun z hz'=>hz z (by simp [hz'])) ?_ hv⟩;simp only [List.length_cons] at hsl;omega
  ·have hll:=jaG l ts e hk
   refine⟨5,x.2,e,l,rfl,by rw [hsg] at hl;simp only [List.length_cons] at hl;omega,.inr (.inl ⟨rfl,fun y hy=>?_⟩)⟩;obtain⟨j,hj,rfl⟩:=List.getElem_of_mem hy;obtain⟨pre,sg,post,e1,_,h3⟩:=trees.YC l ts e hk j hj;obtain⟨hz,hsl⟩:=in_part ts pre sg post x hsg e1;exact ih sg _ hz hsl h3
open trees (nd Sym pv qF Xt)
abbrev KR:=List (List UInt8)->Nat->List UInt8⊕(Int×Int)->Prop
abbrev LR:=Nat->V⊕(Int×Int)->Prop
def jfA (E:List V):List (List UInt8):=E.map (fun e=>(zf e).1)
def Each (R:trees.T->V⊕(Int×Int)->Prop):List trees.T->List V->Prop
 | [],[]=>True
 | t :: l,v :: vs=>R t (.inl v)/\Each R l vs
 | _,_=>False
theorem zy {R:trees.T->V⊕(Int×Int)->Prop}:∀(l:List trees.T) (acc:List V) (v:V),zp R l acc (.inl v)↔∃vs,Each R l vs/\v=mkV (5,0,0,[]) (acc++vs) []
 | [],acc,v=>by
  constructor
  ·intro h
   injection h with h;exact⟨[],trivial,by rw [h,List.append_nil]⟩
  ·rintro⟨vs,h1,h2⟩
   cases vs with
   | nil=>rw [h2,List.append_nil];rfl
   | cons a b=>exact h1.elim
 | t :: l,acc,v=>by
  constructor
  ·intro h
   rcases h with ⟨y,h1,h2⟩ | ⟨pq,_,h2⟩
   ·obtain⟨vs,h3,h4⟩:=(zy l _ v).1 h2
    exact⟨y :: vs,⟨h1,h3⟩,by rw [h4,List.append_assoc];rfl⟩
   ·cases h2
  ·rintro⟨vs,h1,h2⟩
   cases vs with
   | nil=>exact h1.elim
   | cons y vs=>exact .inl ⟨y,h1.1,(zy l _ v).2 ⟨vs,h1.2,by rw [h2,List.append_assoc];rfl⟩⟩
def jds (kr:KR)(R:trees.T->V⊕(Int×Int)->Prop):List (List UInt8)->List trees.T->List V->Prop
 | _,[],[]=>True
 | keys,t :: l,e :: es=>∃ek ea ee kk ka ke v key y,t=nd ek ea ee [nd kk ka ke [],v]/\kr keys ka (.inl key)/\R v (.inl y)/\e=ent key y/\jds kr R (keys++[key]) l es
 | _,_,_=>False
theorem YG (acc:List V)(key:List UInt8)(y:V):jfA (acc++[ent key y])=jfA acc++[key]:=by
 unfold jfA;rw [List.map_append];rfl
theorem zM {kr:KR}{R:trees.T->V⊕(Int×Int)->Prop}:∀(l:List trees.T) (acc:List V) (v:V),Jt kr R l acc (.inl v)↔∃es,jds kr R (jfA acc) l es/\∃E,E.Perm (acc++es)/\je5 E/\v=mkV (6,0,0,[]) [] E
 | [],acc,v=>by
  constructor
  ·rintro⟨E,h1,h2,h3⟩
   injection h3 with h3;exact⟨[],trivial,E,by rw [List.append_nil];exact h1,h2,h3⟩
  ·rintro⟨es,h1,E,h2,h3,h4⟩
   cases es with
   | nil=>exact⟨E,by rw [List.append_nil] at h2;exact h2,h3,by rw [h4]⟩
   | cons a b=>exact h1.elim
 | t :: l,acc,v=>by
  constructor
  ·rintro⟨ek,ea,ee,kk,ka,ke,y,h0,h⟩
   rcases h with ⟨key,h1,h2⟩ | ⟨pq,_,h2⟩
   ·rcases h2 with ⟨z,h3,h4⟩ | ⟨pq,_,h4⟩
    ·obtain⟨es,h5,E,h6,h7,h8⟩:=(zM l _ v).1 h4
     rw [YG] at h5;exact⟨ent key z :: es,⟨ek,ea,ee,kk,ka,ke,y,key,z,h0,h1,h3,rfl,h5⟩,E,by rw [List.append_assoc] at h6;exact h6,h7,h8⟩
    ·cases h4
   ·cases h2
  ·rintro⟨es,h1,E,h6,h7,h8⟩
   cases es with
   | nil=>exact h1.elim
   | cons e es=>
    obtain⟨ek,ea,ee,kk,ka,ke,y,key,z,h0,h1,h3,rfl,h5⟩:=h1;refine⟨ek,ea,ee,kk,ka,ke,y,h0,.inl ⟨key,h1,.inl ⟨z,h3,(zM l _ v).2 ⟨es,?_,E,?_,h7,h8⟩⟩⟩⟩
    ·rw [YG]
     exact h5
    ·rw [List.append_assoc]
     exact h6
theorem jeP {N:V->Nat}{l m:List V}(h:l.Perm m):qf N l=qf N m:=by
 induction h with
 | nil=>rfl
 | cons x _ ih=>show N x+_=N x+_;rw [ih]
 | swap x y l=>show N y+(N x+_)=N x+(N y+_);omega
 | trans _ _ a b=>exact a.trans b
theorem Yc (N:V->Nat)(f:V->V):∀E:List V,qf N (E.map f)=qf (fun x=>N (f x)) E
 | []=>rfl
 | a :: b=>by show _+_=_+_;rw [Yc N f b]
theorem jcP {q:List Sym->trees.R}{ec:UInt8}{R:trees.T->V⊕(Int×Int)->Prop}{N:V->Nat}(hN:∀seg t v,q seg=.inr (t,[])->R t (.inl v)->N v<=seg.length):∀(l:List trees.T) (ts:List Sym) (e:Nat) (vs:List V),Xt q ec l ts e->Each R l vs->qf N vs<=ts.length
 | [],_,_,[],_,_=>Nat.zero_le _
 | [],_,_,_ :: _,_,h=>h.elim
 | _ :: _,_,_,[],_,h=>h.elim
 | t :: l,ts,e,v :: vs,h,hv=>by
  obtain⟨seg,y,rest,h1,h2,rfl,h3⟩:=h;have n1:=hN seg t v h2 hv.1
  show N v+qf N vs<=_
  rw [List.length_append,List.length_cons]
  rcases h3 with ⟨_,h4⟩ | ⟨_,rfl,rfl,_⟩
  ·have:=jcP hN l rest e vs h4 hv.2
   omega
  ·have:vs=[]:=by
    cases vs with
    | nil=>rfl
    | cons a b=>exact hv.2.elim
   subst this;simp only [qf];omega
theorem jbs {q:List Sym->trees.R}{ec:UInt8}{kr:KR}{R:trees.T->V⊕(Int×Int)->Prop}{N:V->Nat}(hN:∀seg t v,q seg=.inr (t,[])->R t (.inl v)->N v<=seg.length):∀(l:List trees.T) (ts:List Sym) (e:Nat) (keys:List (List UInt8)) (es:List V),Xt (qF q) ec l ts e->jds kr R keys l es->qf (fun x=>N (zf x).2) es<=ts.length
 | [],_,_,_,[],_,_=>Nat.zero_le _
 | [],_,_,_,_ :: _,_,h=>h.elim
 | _ :: _,_,_,_,[],_,h=>h.elim
 | t :: l,ts,e,keys,x :: es,h,hv=>by
  obtain⟨seg,y,rest,h1,h2,rfl,h3⟩:=h;obtain⟨ek,ea,ee,kk,ka,ke,v,key,z,h0,_,hz,rfl,h5⟩:=hv;obtain⟨x,m,sv,v',rfl,_,_,hv',e2⟩:=trees.YW h2;rw [e2] at h0;obtain⟨_,_,_,h0⟩:=trees.qh h0;injection h0 with _ h0;injection h0 with h0 _;subst h0;have n1:=hN sv v' z hv' hz
  show N z+qf _ es<=_
  rw [List.length_append,List.length_cons,List.length_cons,List.length_cons]
  rcases h3 with ⟨_,h4⟩ | ⟨_,rfl,rfl,_⟩
  ·have:=jbs hN l rest e _ es h4 h5
   omega
  ·have:es=[]:=by
    cases es with
    | nil=>rfl
    | cons a b=>exact h5.elim
   subst this;simp only [qf];omega
theorem jaF {kr:KR}{lf:LR}(hlf:∀a v,lf a (.inl v)->∃lab,v=mkV lab [] [])(g:Nat):∀(lv f:Nat) (seg:List Sym) (t:trees.T) (v:V),pv lv seg=.inr (t,[])->qt kr lf f t (.inl v)->∀g,jP g v<=seg.length
 | 0,_,seg,t,v,h,_=>by
  obtain⟨lv',e,_⟩:=trees.JX h;omega
 | lv+1,0,_,_,_,_,h=>h.elim
 | lv+1,f+1,seg,t,v,h,hm=>by
  intro g;have ih:=jaF (kr:=kr) hlf g lv f;obtain⟨k,a,e,l,rfl,hm⟩:=hm;obtain⟨lv',e',hf⟩:=trees.JX h;have e2:lv'=lv:=by omega
  subst e2;cases g with
  | zero=>exact Nat.zero_le _
  | succ g=>
   rcases hf with ⟨x,rfl,_,h1⟩ | ⟨x,ts,l',e',rfl,_,h1,hk⟩ | ⟨x,ts,l',e',rfl,_,h1,hk⟩
   ·obtain⟨rfl,_,_,_⟩:=trees.qh h1
    rcases hm with ⟨h2,_⟩ | ⟨h2,_⟩ | ⟨_,_,h2⟩
    ·omega
    ·omega
    ·obtain⟨lab,rfl⟩:=hlf _ _ h2
     exact Nat.le_refl 1
   ·obtain⟨rfl,_,_,rfl⟩:=trees.qh h1
    rcases hm with ⟨_,h2⟩ | ⟨h2,_⟩ | ⟨h2,_⟩
    ·obtain⟨es,h3,E,h4,_,rfl⟩:=(zM _ _ _).1 h2
     have:=jbs (N:=jP g) (fun seg t v a b=>ih seg t v a b g) l ts e' _ es hk h3
     show qf (jP g) (parts _)+1<=_
     rw [JH,List.nil_append,List.length_cons];rw [Yc,jeP h4,List.nil_append];omega
    ·omega
    ·omega
   ·obtain⟨rfl,_,_,rfl⟩:=trees.qh h1
    rcases hm with ⟨h2,_⟩ | ⟨_,h2⟩ | ⟨_,h2,_⟩
    ·omega
    ·obtain⟨vs,h3,rfl⟩:=(zy _ _ _).1 h2
     have:=jcP (N:=jP g) (fun seg t v a b=>ih seg t v a b g) l ts e' vs hk h3
     show qf (jP g) (parts _)+1<=_
     rw [JH,List.map_nil,List.append_nil,List.nil_append,List.length_cons];omega
    ·omega
open trees (nd)
def ja3 {α β:Type}(R:α->β->Prop):Prop:=∀a x y,R a x->R a y->x=y
theorem Q2 {R:trees.T->V⊕(Int×Int)->Prop}(hR:ja3 R):∀(l:List trees.T) (acc:List V) (x y:V⊕(Int×Int)),zp R l acc x->zp R l acc y->x=y
 | [],_,_,_,h,k=>by rw [h,k]
 | t :: l,acc,x,y,h,k=>by
  rcases h with ⟨v,h1,h2⟩ | ⟨pq,h1,h2⟩<;>rcases k with ⟨u,k1,k2⟩ | ⟨rs,k1,k2⟩
  ·have e:=hR _ _ _ h1 k1
   injection e with e;subst e;exact Q2 hR l _ _ _ h2 k2
  ·have e:=hR _ _ _ h1 k1
   cases e
  ·have e:=hR _ _ _ h1 k1
   cases e
  ·have e:=hR _ _ _ h1 k1
   rw [h2,k2,e]
theorem jfl {E F acc:List V}(h:E.Perm acc)(h2:je5 E)(k:F.Perm acc)(k2:je5 F):E=F :=
 List.Perm.eq_of_pairwise (fun a b _ _ h1 h2=>absurd h2 (jhj h1)) h2 k2 (h.trans k.symm)
theorem ZZ {kr:KR}{R:trees.T->V⊕(Int×Int)->Prop}(hk:∀keys,ja3 (kr keys))(hR:ja3 R):∀(l:List trees.T) (acc:List V) (x y:V⊕(Int×Int)),Jt kr R l acc x->Jt kr R l acc y->x=y
 | [],_,_,_,⟨E,h1,h2,h3⟩,⟨F,k1,k2,k3⟩=>by rw [h3,k3,jfl h1 h2 k1 k2]
 | t :: l,acc,x,y,h,k=>by
  obtain⟨ek,ea,ee,kk,ka,ke,v,e,h⟩:=h;obtain⟨ek',ea',ee',kk',ka',ke',v',e',k⟩:=k;rw [e] at e';obtain⟨_,_,_,e2⟩:=trees.qh e';injection e2 with e3 e4;injection e4 with e4 _;obtain⟨_,rfl,_,_⟩:=trees.qh e3;subst e4
  rcases h with ⟨key,h1,h2⟩ | ⟨pq,h1,h2⟩<;>rcases k with ⟨key',k1,k2⟩ | ⟨rs,k1,k2⟩
  ·have q:=hk _ _ _ _ h1 k1
   injection q with q;subst q
   rcases h2 with ⟨z,h3,h4⟩ | ⟨pq,h3,h4⟩<;>rcases k2 with ⟨z',k3,k4⟩ | ⟨rs,k3,k4⟩
   ·have q:=hR _ _ _ h3 k3
    injection q with q;subst q;exact ZZ hk hR l _ _ _ h4 k4
   ·have q:=hR _ _ _ h3 k3
    cases q
   ·have q:=hR _ _ _ h3 k3
    cases q
   ·rw [h4,k4,hR _ _ _ h3 k3]
  ·have q:=hk _ _ _ _ h1 k1
   cases q
  ·have q:=hk _ _ _ _ h1 k1
   cases q
  ·have q:=hk _ _ _ _ h1 k1
   injection q with q;rw [h2,k2,q]
theorem Zy {kr:KR}{lf:LR}(hk:∀keys,ja3 (kr keys))(hl:ja3 lf):∀(f:Nat),ja3 (qt kr lf f)
 | 0=>fun _ _ _ h=>h.elim
 | f+1=>fun t x y h k=>by
  have ih:=Zy hk hl f;obtain⟨k1,a,e,l,rfl,h⟩:=h;obtain⟨k2,a',e',l',e2,k⟩:=k;obtain⟨rfl,rfl,rfl,rfl⟩:=trees.qh e2
  rcases h with ⟨h1,h2⟩ | ⟨h1,h2⟩ | ⟨h1,h2,h3⟩<;>rcases k with ⟨k1,k2⟩ | ⟨k1,k2⟩ | ⟨k1,k2,k3⟩
  ·exact ZZ hk ih _ _ _ _ h2 k2
  ·omega
  ·exact absurd h1 k1
  ·omega
  ·exact Q2 ih _ _ _ _ h2 k2
  ·exact absurd h1 k2
  ·exact absurd k1 h1
  ·exact absurd k1 h2
  ·exact hl _ _ _ h3 k3
theorem jaT {l:List UInt8}{x y:Lab}{e f:Int}(h:Zk l x e)(k:Zk l y f):x=y/\e=f:=by
 rcases h with ⟨h1,h2,h3⟩ | ⟨h1,h2,h3⟩ | ⟨h1,h2,h3⟩ | ⟨⟨n1,n2,n3⟩,h⟩<;>rcases k with ⟨k1,k2,k3⟩ | ⟨k1,k2,k3⟩ | ⟨k1,k2,k3⟩ | ⟨⟨m1,m2,m3⟩,k⟩
 ·exact⟨by rw [h2,k2],by rw [h3,k3]⟩
 ·rw [h1] at k1;cases k1
 ·rw [h1] at k1;cases k1
 ·exact absurd h1 m1
 ·rw [h1] at k1;cases k1
 ·exact⟨by rw [h2,k2],by rw [h3,k3]⟩
 ·rw [h1] at k1;cases k1
 ·exact absurd h1 m2
 ·rw [h1] at k1;cases k1
 ·rw [h1] at k1;cases k1
 ·exact⟨by rw [h2,k2],by rw [h3,k3]⟩
 ·exact absurd h1 m3
 ·exact absurd k1 n1
 ·exact absurd k1 n2
 ·exact absurd k1 n3
 ·rcases h with ⟨h1,h2,h3⟩ | ⟨h1,v,h2,h3⟩<;>rcases k with ⟨k1,k2,k3⟩ | ⟨k1,u,k2,k3⟩
  ·subst h2 k2
   exact⟨by rw [h3,k3],rfl⟩
  ·exact absurd k1 h1
  ·exact absurd h1 k1
  ·obtain⟨q1,q2⟩:=bigs.jcn h2 k2
   subst q1 q2;exact⟨by rw [h3,k3],rfl⟩
theorem jaN {src:List UInt8}{k:Nat}{x y:Lab}{e f:Int}(h:zB src k x e)(g:zB src k y f):x=y/\e=f:=by
 unfold zB at h g
 by_cases hk:k=4
 ·rw [if_pos hk] at h g
  exact jaT h g
 ·rw [if_neg hk] at h g
  obtain⟨h1,h2⟩:=h;obtain⟨g1,g2⟩:=g;subst h1 g1;exact⟨by rw [h2,g2],rfl⟩
theorem jcv {src:List UInt8}{k:Nat}{x y:List UInt8}{e f:Int}(h:Jf src k x e)(g:Jf src k y f):x=y/\e=f:=by
 unfold Jf at h g
 by_cases hk:k=4
 ·rw [if_pos hk] at h g
  by_cases hb:escs.Ji src=true
  ·rw [if_pos hb] at h g
   exact⟨by rw [h.1,g.1],by rw [h.2,g.2]⟩
  ·rw [if_neg hb] at h g
   exact⟨by rw [h.1,g.1],by rw [h.2,g.2]⟩
 ·rw [if_neg hk] at h g
  exact⟨by rw [h.1,g.1],by rw [h.2,g.2]⟩
abbrev qy:=Nat×List UInt8
def zD (ct:Nat->qy)(pl:Nat->Int)(j:Nat)(x:V⊕(Int×Int)):Prop :=
 ∃(lab:Lab) (er:Int),zB (ct j).2 (ct j).1 lab er/\((er=0/\x=.inl (mkV lab [] []))\/(er≠0/\x=.inr (pl j,er)))
def Ja (ct:Nat->qy)(pl:Nat->Int)(keys:List (List UInt8))(j:Nat)(x:List UInt8⊕(Int×Int)):Prop :=
 ∃(key:List UInt8) (ke:Int),Jf (ct j).2 (ct j).1 key ke/\((ke=0/\key∉keys/\x=.inl key)\/(ke=0/\key∈keys/\x=.inr (pl j,6))\/(ke≠0/\x=.inr (pl j,ke)))
theorem jga (ct:Nat->qy)(pl:Nat->Int):ja3 (zD ct pl):=fun j x y h k=>by
 obtain⟨lab,er,h1,h2⟩:=h;obtain⟨lab',er',k1,k2⟩:=k;obtain⟨rfl,rfl⟩:=jaN h1 k1
 rcases h2 with ⟨a,b⟩ | ⟨a,b⟩<;>rcases k2 with ⟨c,d⟩ | ⟨c,d⟩
 ·rw [b,d]
 ·exact absurd a c
 ·exact absurd c a
 ·rw [b,d]
theorem jjL (ct:Nat->qy)(pl:Nat->Int)(keys:List (List UInt8)):ja3 (Ja ct pl keys):=fun j x y h k=>by
 obtain⟨key,ke,h1,h2⟩:=h;obtain⟨key',ke',k1,k2⟩:=k;obtain⟨rfl,rfl⟩:=jcv h1 k1
 rcases h2 with ⟨a,b,c⟩ | ⟨a,b,c⟩ | ⟨a,c⟩<;>rcases k2 with ⟨a',b',c'⟩ | ⟨a',b',c'⟩ | ⟨a',c'⟩
 ·rw [c,c']
 ·exact absurd b' b
 ·exact absurd a a'
 ·exact absurd b b'
 ·rw [c,c']
 ·exact absurd a a'
 ·exact absurd a' a
 ·exact absurd a' a
 ·rw [c,c']
def JJ (s:ByteArray)(l:List toks.Tk)(j:Nat):qy:=if h:j<l.length then (l[j].kind,(s.extract l[j].fro l[j].til).data.toList) else (0,[])
def Xf (l:List toks.Tk)(j:Nat):Int:=if h:j<l.length then (l[j].fro:Int) else 0
theorem QQ {s:ByteArray}{l:List toks.Tk}{j:Nat}{x:V⊕(Int×Int)}(hj:j<l.length):J8 s l j x↔zD (JJ s l) (Xf l) j x:=by
 unfold J8 zD JJ Xf;simp only [dif_pos hj]
 constructor
 ·rintro⟨_,lab,er,h⟩
  exact⟨lab,er,h⟩
 ·rintro⟨lab,er,h⟩
  exact⟨hj,lab,er,h⟩
theorem JB {s:ByteArray}{l:List toks.Tk}{keys:List (List UInt8)}{j:Nat}{x:List UInt8⊕(Int×Int)}(hj:j<l.length):zY s l keys j x↔Ja (JJ s l) (Xf l) keys j x:=by
 unfold zY Ja JJ Xf;simp only [dif_pos hj]
 constructor
 ·rintro⟨_,lab,er,h⟩
  exact⟨lab,er,h⟩
 ·rintro⟨lab,er,h⟩
  exact⟨hj,lab,er,h⟩
theorem jg2 (s:ByteArray)(l:List toks.Tk):ja3 (J8 s l):=fun j x y h k=>by
 have hj:=h.1;exact jga _ _ j x y ((QQ hj).1 h) ((QQ hj).1 k)
theorem jjv (s:ByteArray)(l:List toks.Tk)(keys:List (List UInt8)):ja3 (zY s l keys):=fun j x y h k=>by
 have hj:=h.1;exact jjL _ _ keys j x y ((JB hj).1 h) ((JB hj).1 k)
open trees (nd Sym pv qF Xt)
def jes (G:List qy->V->Prop):List V->List qy->Prop
 | [],B=>B=[(6,[93])]
 | v :: vs,B=>∃seg c rest,seg≠[]/\G seg v/\B=seg++c :: rest/\((c=(6,[44])/\jes G vs rest)\/(c=(6,[93])/\vs=[]/\rest=[]))
def jfv (G:List qy->V->Prop):List (List UInt8)->List V->List qy->Prop
 | _,[],B=>B=[(6,[125])]
 | keys,e :: es,B=>∃kt m sv c rest key y,(kt.1=4\/kt.1=5)/\Jf kt.2 kt.1 key 0/\key∉keys/\(m=(6,[58])\/m=(6,[61]))/\G sv y/\e=ent key y/\B=kt :: m :: (sv++c :: rest)/\((c=(6,[44])/\jfv G (keys++[key]) es rest)\/(c=(6,[125])/\es=[]/\rest=[]))
def Gr:Nat->List qy->V->Prop
 | 0,_,_=>False
 | lv + 1, S, v => (∃ k src lab, S = [(k, src)] ∧ (k = 4 ∨ k = 5) ∧ zB src k lab 0 ∧ v = mkV lab [] []) ∨
   (∃B vs,S=(6,[91]) :: B/\jes (Gr lv) vs B/\v=mkV (5,0,0,[]) vs [])\/
   (∃B es E,S=(6,[123]) :: B/\jfv (Gr lv) [] es B/\E.Perm es/\je5 E/\v=mkV (6,0,0,[]) [] E)
structure Fits (ct:Nat->qy) (x:Sym):Prop where
 one:x.1=120↔((ct x.2).1=4\/(ct x.2).1=5)
 mark:∀m:UInt8,m≠120->m≠63->(x.1=m↔ct x.2=(6,[m]))
def zh (ct:Nat->qy)(ts:List Sym):List qy:=ts.map (fun x=>ct x.2)
theorem jcO (ct:Nat->qy)(a b:List Sym):zh ct (a++b)=zh ct a++zh ct b:=List.map_append
theorem JA (ct:Nat->qy)(x:Sym)(b:List Sym):zh ct (x :: b)=ct x.2 :: zh ct b:=rfl
section
variable {ct : Nat → qy} {pl : Nat → Int}
theorem jdw {lv f:Nat}(ih:∀(ts:List Sym) (t:trees.T) (v:V),(∀x∈ts,Fits ct x)->pv lv ts=.inr (t,[])->qt (Ja ct pl) (zD ct pl) f t (.inl v)->Gr lv (zh ct ts) v):∀(l:List trees.T) (ts:List Sym) (e:Nat) (vs:List V),(∀x∈ts,Fits ct x)->Xt (pv lv) 93 l ts e->Each (qt (Ja ct pl) (zD ct pl) f) l vs->jes (Gr lv) vs (zh ct ts)
 | [],ts,e,[],hf,h,_=>by
  obtain⟨y,h1,rfl,_⟩:=h
  show [ct y.2]=[(6,[93])]
  rw [((hf y (by simp)).mark 93 (by decide) (by decide)).1 h1]
 | [],_,_,_ :: _,_,_,h=>h.elim
 | _ :: _,_,_,[],_,_,h=>h.elim
 | t :: l,ts,e,v :: vs,hf,h,hv=>by
  obtain⟨seg,y,rest,h1,h2,rfl,h3⟩:=h;have hy:=hf y (by simp);refine⟨zh ct seg,ct y.2,zh ct rest,fun e=>h1 (by simpa [zh] using e),ih seg t v (fun x hx=>hf x (by simp [hx])) h2 hv.1,by rw [jcO];rfl,?_⟩
  rcases h3 with ⟨h4,h5⟩ | ⟨h4,rfl,rfl,_⟩
  ·exact .inl ⟨(hy.mark 44 (by decide) (by decide)).1 h4,jdw ih l rest e vs (fun x hx=>hf x (by simp [hx])) h5 hv.2⟩
  ·refine .inr ⟨(hy.mark 93 (by decide) (by decide)).1 h4,?_,rfl⟩
   cases vs with
   | nil=>rfl
   | cons a b=>exact hv.2.elim
theorem jd5 {lv f:Nat}(ih:∀(ts:List Sym) (t:trees.T) (v:V),(∀x∈ts,Fits ct x)->pv lv ts=.inr (t,[])->qt (Ja ct pl) (zD ct pl) f t (.inl v)->Gr lv (zh ct ts) v):∀(l:List trees.T) (ts:List Sym) (e:Nat) (keys:List (List UInt8)) (es:List V),(∀x∈ts,Fits ct x)->Xt (qF (pv lv)) 125 l ts e->jds (Ja ct pl) (qt (Ja ct pl) (zD ct pl) f) keys l es->jfv (Gr lv) keys es (zh ct ts)
 | [],ts,e,keys,[],hf,h,_=>by
  obtain⟨y,h1,rfl,_⟩:=h
  show [ct y.2]=[(6,[125])]
  rw [((hf y (by simp)).mark 125 (by decide) (by decide)).1 h1]
 | [],_,_,_,_ :: _,_,_,h=>h.elim
 | _ :: _,_,_,_,[],_,_,h=>h.elim
 | t :: l,ts,e,keys,x :: es,hf,h,hv=>by
  obtain⟨seg,y,rest,h1,h2,rfl,h3⟩:=h;obtain⟨ek,ea,ee,kk,ka,ke,v,key,z,h0,hkr,hz,rfl,h5⟩:=hv;obtain⟨x,m,sv,v',rfl,hx1,hm,hv',e2⟩:=trees.YW h2;rw [e2] at h0;obtain⟨_,_,_,h0⟩:=trees.qh h0;injection h0 with h01 h0;injection h0 with h0 _;subst h0;obtain⟨_,hka,_,_⟩:=trees.qh h01;subst hka;have hy:=hf y (by simp);obtain⟨key',ke',hk1,hk2⟩:=hkr
  have hk3:ke'=0/\key'=key/\key∉keys:=by
   rcases hk2 with ⟨a,b,c⟩ | ⟨_,_,c⟩ | ⟨_,c⟩
   ·injection c with c
    rw [c];exact⟨a,rfl,b⟩
   ·cases c
   ·cases c
  obtain⟨rfl,rfl,hnk⟩:=hk3;refine⟨ct x.2,ct m.2,zh ct sv,ct y.2,zh ct rest,key',z,(hf x (by simp)).one.1 hx1,hk1,hnk,?_,ih sv v' z (fun q hq=>hf q (by simp [hq])) hv' hz,rfl,by rw [List.cons_append,List.cons_append,JA,JA,jcO];rfl,?_⟩
  ·rcases hm with hm | hm
   ·exact .inl (((hf m (by simp)).mark 58 (by decide) (by decide)).1 hm)
   ·exact .inr (((hf m (by simp)).mark 61 (by decide) (by decide)).1 hm)
  ·rcases h3 with ⟨h4,h6⟩ | ⟨h4,rfl,rfl,_⟩
   ·exact .inl ⟨(hy.mark 44 (by decide) (by decide)).1 h4,jd5 ih l rest e _ es (fun x hx=>hf x (by simp [hx])) h6 h5⟩
   ·refine .inr ⟨(hy.mark 125 (by decide) (by decide)).1 h4,?_,rfl⟩
    cases es with
    | nil=>rfl
    | cons a b=>exact h5.elim
theorem ji5:∀(lv f:Nat) (ts:List Sym) (t:trees.T) (v:V),(∀x∈ts,Fits ct x)->pv lv ts=.inr (t,[])->qt (Ja ct pl) (zD ct pl) f t (.inl v)->Gr lv (zh ct ts) v
 | 0,_,ts,t,v,_,h,_=>by
  obtain⟨lv',e,_⟩:=trees.JX h;omega
 | lv+1,0,_,_,_,_,_,h=>h.elim
 | lv+1,f+1,ts,t,v,hf,h,hm=>by
  have ih:=ji5 lv f;obtain⟨k,a,e,l,rfl,hm⟩:=hm;obtain⟨lv',e',hfm⟩:=trees.JX h;have e2:lv'=lv:=by omega
  subst e2
  rcases hfm with ⟨x,rfl,hx,h1⟩ | ⟨x,ts,l',e',rfl,hx,h1,hk⟩ | ⟨x,ts,l',e',rfl,hx,h1,hk⟩
  ·obtain⟨rfl,rfl,_,_⟩:=trees.qh h1
   rcases hm with ⟨h2,_⟩ | ⟨h2,_⟩ | ⟨_,_,lab,er,h2,h3⟩
   ·omega
   ·omega
   ·rcases h3 with ⟨rfl,h3⟩ | ⟨_,h3⟩
    ·injection h3 with h3
     exact .inl ⟨_,_,lab,rfl,(hf x (by simp)).one.1 hx,h2,h3⟩
    ·cases h3
  ·obtain⟨rfl,_,_,rfl⟩:=trees.qh h1
   rcases hm with ⟨_,h2⟩ | ⟨h2,_⟩ | ⟨h2,_⟩
   ·obtain⟨es,h3,E,h4,h5,rfl⟩:=(zM _ _ _).1 h2
    exact .inr (.inr ⟨zh ct ts,es,E,by rw [JA,((hf x (by simp)).mark 123 (by decide) (by decide)).1 hx],jd5 ih l ts e' [] es (fun y hy=>hf y (by simp [hy])) hk h3,by rw [List.nil_append] at h4;exact h4,h5,rfl⟩)
   ·omega
   ·omega
  ·obtain⟨rfl,_,_,rfl⟩:=trees.qh h1
   rcases hm with ⟨h2,_⟩ | ⟨_,h2⟩ | ⟨_,h2,_⟩
   ·omega
   ·obtain⟨vs,h3,rfl⟩:=(zy _ _ _).1 h2
    exact .inr (.inl ⟨zh ct ts,vs,by rw [JA,((hf x (by simp)).mark 91 (by decide) (by decide)).1 hx],jdw ih l ts e' vs (fun y hy=>hf y (by simp [hy])) hk h3,by rw [List.nil_append]⟩)
   ·omega
theorem jkb {lv:Nat}{ts:List Sym}{t:trees.T}(h:pv lv ts=.inr (t,[])):∃x r,ts=x :: r/\(x.1=120\/x.1=123\/x.1=91):=by
 obtain⟨lv',_,hfm⟩:=trees.JX h
 rcases hfm with ⟨x,rfl,hx,_⟩ | ⟨x,ts,_,_,rfl,hx,_⟩ | ⟨x,ts,_,_,rfl,hx,_⟩
 ·exact⟨x,[],rfl,.inl hx⟩
 ·exact⟨x,ts,rfl,.inr (.inl hx)⟩
 ·exact⟨x,ts,rfl,.inr (.inr hx)⟩
theorem XZ {q:List Sym->trees.R}(hq:trees.Loc q){seg:List Sym}{t:trees.T}(h:q seg=.inr (t,[]))(r:List Sym):q (seg++r)=.inr (t,r):=by
 obtain⟨p,_,e,h2⟩:=hq.good _ _ _ h;rw [List.append_nil] at e;rw [e];exact h2 r
theorem jf4 {lv:Nat}(ih:∀(ts:List Sym) (v:V),(∀x∈ts,Fits ct x)->Gr lv (zh ct ts) v->∃t,pv lv ts=.inr (t,[])/\qt (Ja ct pl) (zD ct pl) lv t (.inl v)):∀(vs:List V) (ts:List Sym),(∀x∈ts,Fits ct x)->jes (Gr lv) vs (zh ct ts)->∃l e,trees.Kids (pv lv) 93 l ts e []/\Each (qt (Ja ct pl) (zD ct pl) lv) l vs
 | [],ts,hf,h=>by
  obtain⟨y,r,rfl,h1,h2⟩:=List.map_eq_cons_iff.1 h;rw [List.map_eq_nil_iff] at h2;subst h2;exact⟨[],y.2+1,⟨y,((hf y (by simp)).mark 93 (by decide) (by decide)).2 h1,rfl,rfl⟩,trivial⟩
 | v :: vs,ts,hf,h=>by
  obtain⟨seg,c,rest,h1,h2,h3,h4⟩:=h;obtain⟨ts1,ts2,rfl,e1,e2⟩:=List.map_eq_append_iff.1 h3;obtain⟨y,ts3,rfl,e3,e4⟩:=List.map_eq_cons_iff.1 e2;subst e1;have hy:=hf y (by simp);obtain⟨t,p1,p2⟩:=ih ts1 v (fun x hx=>hf x (by simp [hx])) h2;obtain⟨x,r,hxr,hx⟩:=jkb p1;have hq:=XZ (trees.qJ lv) p1 (y :: ts3)
  rcases h4 with ⟨rfl,h5⟩ | ⟨rfl,rfl,h5⟩
  ·subst e4
   obtain⟨l,e,q1,q2⟩:=jf4 ih vs ts3 (fun x hx=>hf x (by simp [hx])) h5;refine⟨t :: l,e,⟨x,r++y :: ts3,y,ts3,by rw [hxr];rfl,?_,hq,.inl ⟨(hy.mark 44 (by decide) (by decide)).2 e3,q1⟩⟩,p2,q2⟩
   rcases hx with hx | hx | hx<;>rw [hx]<;>decide
  ·subst h5
   rw [List.map_eq_nil_iff] at e4;subst e4;have hy3:=(hy.mark 93 (by decide) (by decide)).2 e3;refine⟨[t],y.2+1,⟨x,r++[y],y,[],by rw [hxr];rfl,?_,hq,.inr ⟨by rw [hy3];decide,hy3,rfl,rfl,rfl⟩⟩,p2,trivial⟩
   rcases hx with hx | hx | hx<;>rw [hx]<;>decide
theorem jfK {lv:Nat}(ih:∀(ts:List Sym) (v:V),(∀x∈ts,Fits ct x)->Gr lv (zh ct ts) v->∃t,pv lv ts=.inr (t,[])/\qt (Ja ct pl) (zD ct pl) lv t (.inl v)):∀(es:List V) (keys:List (List UInt8)) (ts:List Sym),(∀x∈ts,Fits ct x)->jfv (Gr lv) keys es (zh ct ts)->∃l e,trees.Kids (qF (pv lv)) 125 l ts e []/\jds (Ja ct pl) (qt (Ja ct pl) (zD ct pl) lv) keys l es
 | [],keys,ts,hf,h=>by
  obtain⟨y,r,rfl,h1,h2⟩:=List.map_eq_cons_iff.1 h;rw [List.map_eq_nil_iff] at h2;subst h2;exact⟨[],y.2+1,⟨y,((hf y (by simp)).mark 125 (by decide) (by decide)).2 h1,rfl,rfl⟩,trivial⟩
 | e :: es,keys,ts,hf,h=>by
  obtain⟨kt,m,sv,c,rest,key,z,h1,h2,h3,h4,h5,rfl,h7,h8⟩:=h;obtain⟨x,r1,rfl,a1,a2⟩:=List.map_eq_cons_iff.1 h7;obtain⟨mm,r2,rfl,a3,a4⟩:=List.map_eq_cons_iff.1 a2;obtain⟨ts1,ts2,rfl,e1,e2⟩:=List.map_eq_append_iff.1 a4;obtain⟨y,ts3,rfl,e3,e4⟩:=List.map_eq_cons_iff.1 e2;subst e1;have hy:=hf y (by simp);obtain⟨t,p1,p2⟩:=ih ts1 z (fun x hx=>hf x (by simp [hx])) h5;have hx:x.1=120:=(hf x (by simp)).one.2 (by rw [a1];exact h1)
  have hm:mm.1=58\/mm.1=61:=by
   rcases h4 with h4 | h4
   ·exact .inl (((hf mm (by simp)).mark 58 (by decide) (by decide)).2 (a3.trans h4))
   ·exact .inr (((hf mm (by simp)).mark 61 (by decide) (by decide)).2 (a3.trans h4))
  have hq:qF (pv lv) (x :: mm :: (ts1++y :: ts3))=.inr (nd 4 x.2 (trees.J7 t) [nd 2 x.2 (x.2+1) [],t],y :: ts3):=by
   rw [trees.qG,if_pos hx,if_pos hm,XZ (trees.qJ lv) p1 (y :: ts3)]
  have hkg:Ja ct pl keys x.2 (.inl key):=⟨key,0,by rw [a1];exact h2,.inl ⟨rfl,h3,rfl⟩⟩
  rcases h8 with ⟨rfl,h9⟩ | ⟨rfl,rfl,h9⟩
  ·subst e4
   obtain⟨l,e,q1,q2⟩:=jfK ih es _ ts3 (fun x hx=>hf x (by simp [hx])) h9;exact⟨_ :: l,e,⟨x,_,y,ts3,rfl,by rw [hx];decide,hq,.inl ⟨(hy.mark 44 (by decide) (by decide)).2 e3,q1⟩⟩,_,_,_,_,_,_,t,key,z,rfl,hkg,p2,rfl,q2⟩
  ·subst h9
   rw [List.map_eq_nil_iff] at e4;subst e4;have hy3:=(hy.mark 125 (by decide) (by decide)).2 e3;exact⟨[_],y.2+1,⟨x,_,y,[],rfl,by rw [hx];decide,hq,.inr ⟨by rw [hy3];decide,hy3,rfl,rfl,rfl⟩⟩,_,_,_,_,_,_,t,key,z,rfl,hkg,p2,rfl,trivial⟩
theorem jb0 {q:List Sym->trees.R}{ec:UInt8}(hq:trees.Loc q){l:List trees.T}{ts:List Sym}{e:Nat}{r:List Sym}(h:trees.Kids q ec l ts e r):l.length<ts.length+1:=by
 obtain⟨p,_,e1,h2,_⟩:=trees.ZW hq l ts e r h;rw [e1,List.length_append];omega
theorem jeX:∀(lv:Nat) (ts:List Sym) (v:V),(∀x∈ts,Fits ct x)->Gr lv (zh ct ts) v->∃t,pv lv ts=.inr (t,[])/\qt (Ja ct pl) (zD ct pl) lv t (.inl v)
 | 0,_,_,_,h=>h.elim
 | lv+1,ts,v,hf,h=>by
  have ih:=jeX lv
  rcases h with ⟨k,src,lab,h1,h2,h3,rfl⟩ | ⟨B,vs,h1,h2,rfl⟩ | ⟨B,es,E,h1,h2,h3,h4,rfl⟩
  ·obtain⟨x,r,rfl,a1,a2⟩:=List.map_eq_cons_iff.1 h1
   rw [List.map_eq_nil_iff] at a2;subst a2;have hx:x.1=120:=(hf x (by simp)).one.2 (by rw [a1];exact h2);refine⟨nd 1 x.2 (x.2+1) [],by rw [pv,if_pos hx],1,x.2,x.2+1,[],rfl,.inr (.inr ⟨by decide,by decide,lab,0,?_,.inl ⟨rfl,rfl⟩⟩)⟩;rw [a1];exact h3
  ·obtain⟨x,r,rfl,a1,rfl⟩:=List.map_eq_cons_iff.1 h1
   obtain⟨l,e,q1,q2⟩:=jf4 ih vs r (fun y hy=>hf y (by simp [hy])) h2;have hx:=((hf x (by simp)).mark 91 (by decide) (by decide)).2 a1;refine⟨nd 5 x.2 e l,?_,5,x.2,e,l,rfl,.inr (.inl ⟨rfl,(zy _ _ _).2 ⟨vs,q2,by rw [List.nil_append]⟩⟩)⟩;rw [pv,if_neg (by rw [hx];decide),if_neg (by rw [hx];decide),if_pos hx];exact trees.zJ 5 x.2 (by decide) l _ [] r e [] q1 (jb0 (trees.qJ lv) q1)
  ·obtain⟨x,r,rfl,a1,rfl⟩:=List.map_eq_cons_iff.1 h1
   obtain⟨l,e,q1,q2⟩:=jfK ih es [] r (fun y hy=>hf y (by simp [hy])) h2;have hx:=((hf x (by simp)).mark 123 (by decide) (by decide)).2 a1;refine⟨nd 3 x.2 e l,?_,3,x.2,e,l,rfl,.inl ⟨rfl,(zM _ _ _).2 ⟨es,q2,E,by rw [List.nil_append];exact h3,h4,rfl⟩⟩⟩;rw [pv,if_neg (by rw [hx];decide),if_pos hx];exact trees.zJ 3 x.2 (by decide) l _ [] r e [] q1 (jb0 (trees.Qy (trees.qJ lv)) q1)
end
open Go.RowKit Go.Shelf
open trees (nd Lies)
theorem jfZ {n m R:Nat}{s:ByteArray}{l:List toks.Tk}{pl er:Int}{Rel Rel':V⊕(Int×Int)->Prop}{w:World}{e:Ending}{w':World}(hnm:n<=m)(hR:∀x,Rel x->Rel' x)(h:YE n R s l pl er Rel w e w'):YE m R s l pl er Rel' w e w':=by
 obtain⟨h,ho⟩:=h;refine⟨?_,ho⟩
 rcases h with ⟨k,nn,b,z,pL,nL,cL,pE,nE,cE,v,h1,h2,h3,h4⟩ | ⟨pq,h1,h2,h3⟩
 ·exact .inl ⟨k,nn,b,z,pL,nL,cL,pE,nE,cE,v,h1,hR _ h2,h3.to hnm,h4⟩
 ·exact .inr ⟨pq,h1,hR _ h2,h3⟩
theorem jg5 (ok:Nat->Prop)(n:Nat)(w:World)(k nn:Int)(b:Nat)(z:ByteArray)(hn : -9223372036854775808<=nn/\nn<=9223372036854775807)(hb:b<18446744073709551616)(hz:z.size<=maxLen)(hk : -9223372036854775808<=k/\k<=9223372036854775807):LiesV ok (n+1) w [.int .i64 k,.int .i64 nn,.int .u64 (b:Int),.string z,.slice none 0 0,.slice none 0 0] (mkV (k,nn,b,z.data.toList) [] []) :=
 ⟨k,nn,b,z,[],[],none,none,0,0,rfl,rfl,⟨hk,hn,hb,hz⟩,⟨Nat.le_refl _,Nat.zero_le _,Nat.le_refl _,Nat.zero_le _⟩,fun h=>absurd rfl h,fun h=>absurd rfl h⟩
theorem jhg {t:List UInt8}{sg v:Nat}{e:Int}(hs:sg<=9223372036854775808)(h:bigs.Res t sg v e):v<18446744073709551616:=by
 rcases h with ⟨W,P,x,r,_,h2,h3⟩ | ⟨_,h2,_⟩
 ·have:=bigs.Qt h2
  rcases h3 with ⟨_,h4,_⟩ | ⟨_,h4,_⟩<;>omega
 ·omega
theorem jeE {l:List UInt8}{v:Nat}{x:Int}(h:bigs.zI l v x):v<18446744073709551616:=by
 rcases h with ⟨_,h,_⟩ | ⟨_,_,h,_⟩ | ⟨_,_,t,sg,h1,h2⟩
 ·omega
 ·omega
 ·have hs:sg<=9223372036854775808:=by rcases h1 with ⟨_,h⟩ | ⟨_,_,h⟩<;>omega
  rcases h2 with ⟨_,h,_⟩ | ⟨_,h⟩
  ·omega
  ·exact jhg hs h
theorem jed {src:List UInt8}{kind:Nat}{lab:Lab}{er:Int}(h:zB src kind lab er):(0<=lab.1/\lab.1<=4)/\(-9223372036854775808<=lab.2.1/\lab.2.1<=9223372036854775807)/\lab.2.2.1<18446744073709551616/\lab.2.2.2.length<=src.length:=by
 unfold zB at h
 by_cases hk:kind=4
 ·rw [if_pos hk] at h
  have hr:=bigs.jhy src
  rcases h with ⟨_,rfl,_⟩ | ⟨_,rfl,_⟩ | ⟨_,rfl,_⟩ | ⟨_,⟨_,_,rfl⟩ | ⟨_,v,hv,rfl⟩⟩
  ·exact⟨by decide,by decide,by decide,Nat.zero_le _⟩
  ·exact⟨by decide,by decide,by decide,Nat.zero_le _⟩
  ·exact⟨by decide,by decide,by decide,Nat.zero_le _⟩
  ·split
   ·exact⟨by simp,hr,by simp,Nat.zero_le _⟩
   ·exact⟨by decide,by decide,by decide,Nat.zero_le _⟩
  ·have:=jeE hv
   split
   ·exact⟨by simp,by simp,this,Nat.zero_le _⟩
   ·exact⟨by decide,by decide,by decide,Nat.zero_le _⟩
 ·rw [if_neg hk] at h
  obtain⟨_,rfl⟩:=h;split
  ·exact⟨by simp,by simp,by simp,jc8 src⟩
  ·exact⟨by decide,by decide,by decide,Nat.zero_le _⟩
theorem jdG (R:Nat)(s:ByteArray)(l:List toks.Tk)(hs:s.size<=100000)(hgd:∀(j:Nat) (h:j<l.length),l[j].fro<=l[j].til/\l[j].til<=s.size):∀(n:Nat) (t:trees.T),Xx l.length n t->∀m,2*n<=m->jjC m R s l t (qt (zY s l) (J8 s l) n t)
 | 0,t,h,_,_=>h.elim
 | n+1,t,hf,0,hm=>by omega
 | n+1,t,hf,1,hm=>by omega
 | n+1,t,hf,m'+2,hmn=>by
  have ih:=jdG R s l hs hgd n;obtain⟨m,hmm⟩:∃m,m=m'+1:=⟨_,rfl⟩
  have e0:m'+2=m+1:=by omega
  rw [e0];obtain⟨k,a,e,T,rfl,hTl,hf⟩:=hf;intro w pl er u0 u1 u2 u3 hm hlies hT;have hRw:=hm.lt
  have frm:∀v,Below w.heap.size w v->∃(p:Option Addr) (cap:Nat),[u0,u1,u2,u3]=[Value.int .i64 (k:Int),.int .i64 (a:Int),.int .i64 (e:Int),.slice p T.length cap]/\T.length<=cap/\(T≠[]->∃b o,p=some ⟨b,o,none⟩/\b<R/\∀(j:Nat) (h:j<T.length),∃us:List Value,us.length=4/\(∀i,i<4->v.cell? ⟨b,o+j*4+i,none⟩=us[i]?)/\Lies (fun b=>b<R) m v us T[j]):=fun v hv=>by
   obtain⟨k',a',e',l',p,cap,h1,h2,h3,h4⟩:=hlies.below hv;obtain⟨rfl,rfl,rfl,rfl⟩:=trees.qh h1;refine⟨p,cap,h2,h3,fun hT=>?_⟩;obtain⟨b,o,q1,q2,q3,q4⟩:=h4 hT;exact⟨b,o,q1,q2,q4⟩
  obtain⟨p,cap,h2,h3,_⟩:=frm w (Below.refl _ w);injection h2 with e0 h2;injection h2 with e1 h2;injection h2 with e2 h2;injection h2 with e3 _;subst e0 e1 e2 e3
  have row:∀v,Below w.heap.size w v->(T≠[]->∃b o,p=some ⟨b,o,none⟩/\b<R/\∀(j:Nat) (h:j<T.length),∃us:List Value,us.length=4/\(∀i,i<4->v.cell? ⟨b,o+j*4+i,none⟩=us[i]?)/\Lies (fun b=>b<R) m v us T[j]):=fun v hv=>by
   obtain⟨p',cap',q1,_,q3⟩:=frm v hv;injection q1 with _ q1;injection q1 with _ q1;injection q1 with _ q1;injection q1 with q1 _;injection q1 with q1 _ _;subst q1;exact q3
  have tab:∀v,Below w.heap.size w v->Tabs R v:=fun v hv=>hT.only hRw (js hv)
  rcases hf with ⟨rfl,ha⟩ | ⟨rfl,hk⟩ | ⟨rfl,hk⟩
  ·refine jiq (m+1) R s l pl er _ w hRw _ _ _ _ _ _ (by decide) (by decide) (fun v hv=>?_)
   refine(jim v R s l pl er (hm.later hv) ((1:Nat):Int) (e:Int) a ha (hgd a ha) hs p T.length cap (tab v hv).1).mono ?_
   rintro e1 w' ⟨h,ho⟩
   refine⟨?_,ho⟩
   rcases h with ⟨vk,vn,vb,vz,rfl,hL,hm'⟩ | ⟨x,ve,rfl,hne,hL,hm'⟩
   ·obtain⟨f1,f2,f3,f4⟩:=jed hL
    have hxs:(s.extract l[a].fro l[a].til).data.toList.length<=100000:=by
     have:(s.extract l[a].fro l[a].til).data.toList.length=(s.extract l[a].fro l[a].til).size:=rfl;have:(s.extract l[a].fro l[a].til).size=min l[a].til s.size - l[a].fro:=by simp
     have:=(hgd a ha).2;omega
    have hz:vz.size<=maxLen:=by
     have:vz.data.toList.length=vz.size:=rfl;simp only at f4;unfold maxLen;omega
    simp only at f1 f2 f3;exact .inl ⟨vk,vn,vb,vz,none,0,0,none,0,0,_,rfl,⟨1,a,e,T,rfl,.inr (.inr ⟨by decide,by decide,ha,_,0,hL,.inl ⟨rfl,rfl⟩⟩)⟩,jg5 _ m _ vk vn vb vz f2 f3 hz ⟨by omega,by omega⟩,hm'⟩
   ·exact .inr ⟨((l[a].fro:Int),ve),rfl,⟨1,a,e,T,rfl,.inr (.inr ⟨by decide,by decide,ha,x,ve,hL,.inr ⟨hne,rfl⟩⟩)⟩,hm'⟩
  ·refine jiw (m+1) R s l pl er _ w hRw _ _ _ _ _ _ rfl (fun v hv=>?_)
   refine(jin m R s l pl er (qt (zY s l) (J8 s l) n) v (hm.later hv) (tab v hv) (a:Int) (e:Int) p cap T ⟨h3,by omega⟩ (row v hv) (fun t ht=>ih t (hk t ht) m (by omega))).mono ?_
   intro e1 w' h;exact jfZ (Nat.le_refl _) (fun x hx=>⟨5,a,e,T,rfl,.inr (.inl ⟨rfl,hx⟩)⟩) h
  ·subst hmm
   refine jhe (m'+1+1) R s l pl er _ w hRw _ _ _ _ _ _ rfl (fun v hv=>?_);refine(jge m' R s l pl er (qt (zY s l) (J8 s l) n) v (hm.later hv) (tab v hv) hs hgd (a:Int) (e:Int) p cap T ⟨h3,by omega⟩ (row v hv) (fun t ht=>?_)).mono ?_
   ·obtain⟨ek,ea,ee,kk,ka,ke,y,q1,q2,q3⟩:=hk t ht
    exact⟨ek,ea,ee,kk,ka,ke,y,q1,q2,ih y q3 m' (by omega)⟩
   ·intro e1 w' h
    exact jfZ (by omega) (fun x hx=>⟨3,a,e,T,rfl,.inl ⟨rfl,hx⟩⟩) h
end valus
end Go.Proofs.YtnbfnjhbmeocfaaGreatDoor
