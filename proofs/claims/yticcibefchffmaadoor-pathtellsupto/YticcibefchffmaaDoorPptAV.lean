/- Of our texts, what this claim reaches. -/
import Derived.Test.YticcibefchffmaaDoorPptAU
import Derived.Test.YticcibefchffmaaDoorPptAT
import Derived.Test.YticcibefchffmaaDoorPptAS
import Derived.Test.YticcibefchffmaaDoorPptAP
import Derived.Test.YticcibefchffmaaDoorPptAE
import Derived.BigRegion
import Derived.OwnWalk
import Derived.BigCall
import Derived.Maps.AppendAt
import Derived.Deep.AppendLies
import Derived.Laws.OwnMore
set_option linter.unusedVariables false
set_option maxHeartbeats 8000000
set_option maxRecDepth 100000
namespace Go.Proofs.YticcibefchffmaaDoor
namespace paths
open Go.RowKit
open utfs (bad jb ja)
open bigs (numRes)
open escs (unq qX qV zg)
open valus (Blk jl jc jj zf qw)
def MaxP (w:World):Prop:=∃x:Int,w.cell? ⟨1,0,none⟩=some (.int .i64 x)
theorem MaxP.below {w w':World}(h:MaxP w)(hb:Below w.heap.size w w'):MaxP w':=by
 obtain⟨x,hx⟩:=h;have:=World.block_lt_of_cell? w _ hx
 exact⟨x,by rw [hb.cell (p:=⟨1,0,none⟩) this];exact hx⟩
theorem zr {w:World}{b:Nat}{cs:Array Value}{t:Nat}(h:Blk w b cs t):Blk w.drew b cs t:=h
abbrev jN (w:World) (b:Nat) (u0 u1:Value):World:=(w.setCell ⟨b,0,none⟩ u0).setCell ⟨b,1,none⟩ u1
theorem jw {w:World}{b:Nat}{x0 x1:Value}{t:Nat}(h:Blk w b #[x0,x1] t)(u0 u1:Value):Blk (jN w b u0 u1) b #[u0,u1] t:=by
 have:=(h.set 0 u0).set 1 u1;simpa using this
theorem jr {B:Nat}{a w:World}(h:Below B a w){b:Nat}(hb:B<=b)(u0 u1:Value):Below B a (jN w b u0 u1) :=
 (h.setCell (p:=⟨b,0,none⟩) hb u0).setCell (p:=⟨b,1,none⟩) hb u1
abbrev JS (x:St×List UInt8×Bool) (w:World) (e:Ending) (w':World):Prop :=
 (∃key rest:ByteArray,key.data.toList=x.1.1/\rest.data.toList=x.2.1/\e=.returned (.tuple #[.agg #[.string key,.int .i64 x.1.2],.string rest,.bool x.2.2]))/\Below w.heap.size w w'
theorem jx {w:World}{B:Nat}{u0 u1 x y:Value}(tmps:Array Value)(h:Blk w B #[u0,u1] 50)(ht:tmps[2]?=some (.pointer (some ⟨B,0,none⟩)):=by rfl)(hx:tmps[3]?=some x:=by rfl)(hy:tmps[4]?=some y:=by rfl):(results Tryd.f75 tmps).run Tryd.prog w=.ok (.tuple #[.agg #[u0,u1],x,y]) w:=by
 have c0:=h.cell 0 _ rfl;have c1:=h.cell 1 _ rfl;simp only [List.getElem_toArray,List.getElem_cons_zero,List.getElem_cons_succ] at c0 c1;simp [results,Tryd.f75,ht,hx,hy,go_sem,c0,c1]
theorem j5 {w:World}{B:Nat}{u0 u1 x y:Value}(tmps:Array Value)(h:Blk w B #[u0,u1] 50)(ht:tmps[2]?=some (.pointer (some ⟨B,0,none⟩)):=by rfl)(hx:tmps[3]?=some x:=by rfl)(hy:tmps[4]?=some y:=by rfl):(results Tryd.f74 tmps).run Tryd.prog w=.ok (.tuple #[.agg #[u0,u1],x,y]) w:=by
 have c0:=h.cell 0 _ rfl;have c1:=h.cell 1 _ rfl;simp only [List.getElem_toArray,List.getElem_cons_zero,List.getElem_cons_succ] at c0 c1;simp [results,Tryd.f74,ht,hx,hy,go_sem,c0,c1]
theorem jR {w:World}{B:Nat}{u0 u1 x y:Value}(tmps:Array Value)(h:Blk w B #[u0,u1] 50)(ht:tmps[2]?=some (.pointer (some ⟨B,0,none⟩)):=by rfl)(hx:tmps[3]?=some x:=by rfl)(hy:tmps[4]?=some y:=by rfl):(results Tryd.f52 tmps).run Tryd.prog w=.ok (.tuple #[.agg #[u0,u1],x,y]) w:=by
 have c0:=h.cell 0 _ rfl;have c1:=h.cell 1 _ rfl;simp only [List.getElem_toArray,List.getElem_cons_zero,List.getElem_cons_succ] at c0 c1;simp [results,Tryd.f52,ht,hx,hy,go_sem,c0,c1]
theorem Xr (w:World)(s:ByteArray)(hs:s.size<=1073741824)(hM:MaxP w):Calls Tryd.prog 75 #[.string s] w (JS (qE s.data.toList) w):=by
 have b0:Below w.heap.size w (w.alloc (.cells #[.string ⟨#[]⟩,.int .i64 0] 50)):=(Below.refl _ w).alloc (Nat.le_refl _) _;have hr0:=jl w #[.string ⟨#[]⟩,.int .i64 0] 50;obtain⟨m,hm⟩:=hM.below b0;have KC:=jb (Tryd.strings_Cut s ⟨#[93]⟩ m (w.alloc (.cells #[.string ⟨#[]⟩,.int .i64 0] 50)) (by omega) hm);have hd:(⟨#[93]⟩:ByteArray).data.toList=[93]:=rfl;rw [hd] at KC;have EE:Hid (qE s.data.toList=(([],(numRes (Lib.cut s.data.toList [93]).1).1),(Lib.cut s.data.toList [93]).2.1,(Lib.cut s.data.toList [93]).2.2 && decide ((numRes (Lib.cut s.data.toList [93]).1).2=0/\0<=(numRes (Lib.cut s.data.toList [93]).1).1/\(numRes (Lib.cut s.data.toList [93]).1).1<=4611686018427387904))):=jb rfl;generalize Lib.cut s.data.toList [93]=C at *;obtain⟨dg,rs,cl⟩:=C
 dsimp only at *
 have KN:∀u,Hid (Calls Tryd.prog 97 #[.string ⟨dg.toArray⟩] u fun e w'=>e=.returned (.tuple #[.int .i64 (numRes dg).1,.int .i64 (numRes dg).2])/\w'=u):=fun u=>jb (bigs.ZS u ⟨dg.toArray⟩)
 generalize numRes dg=q at *;obtain⟨qn,qe⟩:=q
 dsimp only at *
 have HB0:=jb b0;have HR0:=jb hr0;clear b0 hr0 hm hM hd;cases cl with
 | false=>
  have E2:Hid (qE s.data.toList=(([],qn),rs,false)):=jb (by rw [EE.out];rfl);clear EE
  go_enter Tryd.func75,Tryd.ntmps75
  go_wp2_with fail
  refine(ja KC).mono ?_
  rintro _ w1 ⟨rfl,n,rfl⟩
  have hb1:Hid (Below w.heap.size w ((w.alloc (.cells #[.string ⟨#[]⟩,.int .i64 0] 50)).drewN n)):=jb (below_drewN HB0.out n);have hr1:Hid (Blk ((w.alloc (.cells #[.string ⟨#[]⟩,.int .i64 0] 50)).drewN n) w.heap.size #[.string ⟨#[]⟩,.int .i64 0] 50):=jb HR0.out;clear KC HB0 HR0;generalize (w.alloc (.cells #[.string ⟨#[]⟩,.int .i64 0] 50)).drewN n=W at *
  go_wp2_with fail
  refine(ja (KN _)).mono ?_
  rintro _ w2 ⟨rfl,rfl⟩
  clear KN;have hr:=hr1.out;have x0:=hr.cell 0 _ rfl;have x1:=hr.cell 1 _ rfl;simp only [List.getElem_toArray,List.getElem_cons_zero,List.getElem_cons_succ] at x0 x1;have z0:=Blk.froz hr 0;have z1:=Blk.froz hr 1;have HY:=jb (jw hr (.string ⟨#[]⟩) (.int .i64 qn));have HF:=jb (jr hb1.out (b:=w.heap.size) (Nat.le_refl _) (.string ⟨#[]⟩) (.int .i64 qn));clear hr hr1 hb1;go_wp2;obtain⟨Y,hYe⟩:∃Y,Y=jN w2 w.heap.size (.string ⟨#[]⟩) (.int .i64 qn):=⟨_,rfl⟩
  rw [<-hYe] at HY HF;simp only [jN] at hYe;rw [<-hYe];clear hYe x0 x1 z0 z1;refine bodyPost_ret (jx _ HY.out) rfl ?_
  rw [E2.out];exact⟨⟨⟨#[]⟩,⟨rs.toArray⟩,rfl,rfl,rfl⟩,HF.out⟩
 | true=>
  by_cases i1:qe=0
  ·subst i1
   by_cases i2:0<=qn
   ·have E2:Hid (qE s.data.toList=(([],qn),rs,decide (qn<=4611686018427387904))):=jb (by rw [EE.out];simp [i2])
    clear EE
    go_enter Tryd.func75,Tryd.ntmps75
    go_wp2_with fail
    refine(ja KC).mono ?_
    rintro _ w1 ⟨rfl,n,rfl⟩
    have hb1:Hid (Below w.heap.size w ((w.alloc (.cells #[.string ⟨#[]⟩,.int .i64 0] 50)).drewN n)):=jb (below_drewN HB0.out n);have hr1:Hid (Blk ((w.alloc (.cells #[.string ⟨#[]⟩,.int .i64 0] 50)).drewN n) w.heap.size #[.string ⟨#[]⟩,.int .i64 0] 50):=jb HR0.out;clear KC HB0 HR0;generalize (w.alloc (.cells #[.string ⟨#[]⟩,.int .i64 0] 50)).drewN n=W at *
    go_wp2_with fail
    refine(ja (KN _)).mono ?_
    rintro _ w2 ⟨rfl,rfl⟩
    clear KN;have hr:=hr1.out;have x0:=hr.cell 0 _ rfl;have x1:=hr.cell 1 _ rfl;simp only [List.getElem_toArray,List.getElem_cons_zero,List.getElem_cons_succ] at x0 x1;have z0:=Blk.froz hr 0;have z1:=Blk.froz hr 1;have HY:=jb (jw hr (.string ⟨#[]⟩) (.int .i64 qn));have HF:=jb (jr hb1.out (b:=w.heap.size) (Nat.le_refl _) (.string ⟨#[]⟩) (.int .i64 qn));clear hr hr1 hb1;go_wp2;obtain⟨Y,hYe⟩:∃Y,Y=jN w2 w.heap.size (.string ⟨#[]⟩) (.int .i64 qn):=⟨_,rfl⟩
    rw [<-hYe] at HY HF;simp only [jN] at hYe;rw [<-hYe];clear hYe x0 x1 z0 z1;refine bodyPost_ret (jx _ HY.out) rfl ?_
    rw [E2.out];exact⟨⟨⟨#[]⟩,⟨rs.toArray⟩,rfl,rfl,rfl⟩,HF.out⟩
   ·have E2:Hid (qE s.data.toList=(([],qn),rs,false)):=jb (by rw [EE.out];rw [decide_eq_false (fun h=>i2 h.2.1)];rfl)
    clear EE
    go_enter Tryd.func75,Tryd.ntmps75
    go_wp2_with fail
    refine(ja KC).mono ?_
    rintro _ w1 ⟨rfl,n,rfl⟩
    have hb1:Hid (Below w.heap.size w ((w.alloc (.cells #[.string ⟨#[]⟩,.int .i64 0] 50)).drewN n)):=jb (below_drewN HB0.out n);have hr1:Hid (Blk ((w.alloc (.cells #[.string ⟨#[]⟩,.int .i64 0] 50)).drewN n) w.heap.size #[.string ⟨#[]⟩,.int .i64 0] 50):=jb HR0.out;clear KC HB0 HR0;generalize (w.alloc (.cells #[.string ⟨#[]⟩,.int .i64 0] 50)).drewN n=W at *
    go_wp2_with fail
    refine(ja (KN _)).mono ?_
    rintro _ w2 ⟨rfl,rfl⟩
    clear KN;have hr:=hr1.out;have x0:=hr.cell 0 _ rfl;have x1:=hr.cell 1 _ rfl;simp only [List.getElem_toArray,List.getElem_cons_zero,List.getElem_cons_succ] at x0 x1;have z0:=Blk.froz hr 0;have z1:=Blk.froz hr 1;have HY:=jb (jw hr (.string ⟨#[]⟩) (.int .i64 qn));have HF:=jb (jr hb1.out (b:=w.heap.size) (Nat.le_refl _) (.string ⟨#[]⟩) (.int .i64 qn));clear hr hr1 hb1;go_wp2;obtain⟨Y,hYe⟩:∃Y,Y=jN w2 w.heap.size (.string ⟨#[]⟩) (.int .i64 qn):=⟨_,rfl⟩
    rw [<-hYe] at HY HF;simp only [jN] at hYe;rw [<-hYe];clear hYe x0 x1 z0 z1;refine bodyPost_ret (jx _ HY.out) rfl ?_
    rw [E2.out];exact⟨⟨⟨#[]⟩,⟨rs.toArray⟩,rfl,rfl,rfl⟩,HF.out⟩
  ·have i4:(qe == 0)=false:=beq_false_of_ne i1
   have E2:Hid (qE s.data.toList=(([],qn),rs,false)):=jb (by rw [EE.out];rw [decide_eq_false (fun h=>i1 h.1)];rfl);clear EE
   go_enter Tryd.func75,Tryd.ntmps75
   go_wp2_with fail
   refine(ja KC).mono ?_
   rintro _ w1 ⟨rfl,n,rfl⟩
   have hb1:Hid (Below w.heap.size w ((w.alloc (.cells #[.string ⟨#[]⟩,.int .i64 0] 50)).drewN n)):=jb (below_drewN HB0.out n);have hr1:Hid (Blk ((w.alloc (.cells #[.string ⟨#[]⟩,.int .i64 0] 50)).drewN n) w.heap.size #[.string ⟨#[]⟩,.int .i64 0] 50):=jb HR0.out;clear KC HB0 HR0;generalize (w.alloc (.cells #[.string ⟨#[]⟩,.int .i64 0] 50)).drewN n=W at *
   go_wp2_with fail
   refine(ja (KN _)).mono ?_
   rintro _ w2 ⟨rfl,rfl⟩
   clear KN;have hr:=hr1.out;have x0:=hr.cell 0 _ rfl;have x1:=hr.cell 1 _ rfl;simp only [List.getElem_toArray,List.getElem_cons_zero,List.getElem_cons_succ] at x0 x1;have z0:=Blk.froz hr 0;have z1:=Blk.froz hr 1;have HY:=jb (jw hr (.string ⟨#[]⟩) (.int .i64 qn));have HF:=jb (jr hb1.out (b:=w.heap.size) (Nat.le_refl _) (.string ⟨#[]⟩) (.int .i64 qn));clear hr hr1 hb1;go_wp2;obtain⟨Y,hYe⟩:∃Y,Y=jN w2 w.heap.size (.string ⟨#[]⟩) (.int .i64 qn):=⟨_,rfl⟩
   rw [<-hYe] at HY HF;simp only [jN] at hYe;rw [<-hYe];clear hYe x0 x1 z0 z1;refine bodyPost_ret (jx _ HY.out) rfl ?_
   rw [E2.out];exact⟨⟨⟨#[]⟩,⟨rs.toArray⟩,rfl,rfl,rfl⟩,HF.out⟩
theorem Xc (s:ByteArray):Lib.hasPrefix s.data.toList [34]=decide (s.data.toList.head?=some 34):=by
 cases h:s.data.toList with
 | nil=>rfl
 | cons b l=>
  by_cases e:b=34
  ·subst e;rfl
  ·have:¬(34:UInt8)=b:=fun x=>e x.symm
   simp [Lib.hasPrefix,List.isPrefixOf,e,this]
theorem QY (w:World)(s:ByteArray)(hs:s.size<=1073741824)(hT:zc w)(hq:s.data.toList.head?=some 34):Calls Tryd.prog 74 #[.string s] w (JS (jY s.data.toList) w):=by
 have b0:Below w.heap.size w (w.alloc (.cells #[.string ⟨#[]⟩,.int .i64 0] 50)):=(Below.refl _ w).alloc (Nat.le_refl _) _;have hr0:=jl w #[.string ⟨#[]⟩,.int .i64 0] 50;have hp:=Xc s;rw [hq,decide_eq_true rfl] at hp;have EE:Hid (jY s.data.toList=((qX (unq s.data.toList),-1),s.data.toList.drop (qV (unq s.data.toList)),decide (zg (unq s.data.toList)=0))):=jb (by unfold jY;rw [if_pos hq])
 have hsz:qV (unq s.data.toList)<=s.size:=by
  cases h:unq s.data.toList with
  | inl e=>exact Nat.zero_le _
  | inr q=>
   obtain⟨r1,k⟩:=q;have:=(escs.JQ h).2.1;rw [jc] at this;exact this
 have KU:=jb (escs.J6 (w.alloc (.cells #[.string ⟨#[]⟩,.int .i64 0] 50)) s hs (Utf8Tabs_below hT b0) _ (jb rfl));generalize unq s.data.toList=R at *;generalize qX R=rt at *;generalize qV R=k at *;generalize zg R=er at *;have HB0:=jb b0;have HR0:=jb hr0;clear b0 hr0 hT hq
 go_enter Tryd.func74,Tryd.ntmps74
 go_wp2_with fail
 refine(Tryd.strings_HasPrefix s ⟨#[34]⟩ _).mono ?_
 rintro _ w1 ⟨rfl,rfl⟩
 rw [show(⟨#[34]⟩:ByteArray).data.toList=[34] from rfl,hp];clear hp
 go_upto_region 2 with fail
 go_wp2_with fail
 refine(ja KU).mono ?_
 rintro _ w2 ⟨rfl,b2⟩
 have hr2:=jb (HR0.out.below b2);have hb2:=jb (HB0.out.trans (b2.mono HB0.out.size));clear KU HB0 HR0 b2;have hr:=hr2.out;have x0:=hr.cell 0 _ rfl;have x1:=hr.cell 1 _ rfl;simp only [List.getElem_toArray,List.getElem_cons_zero,List.getElem_cons_succ] at x0 x1;have z0:=Blk.froz hr 0;have z1:=Blk.froz hr 1;have HY:=jb (jw hr (.string ⟨rt.toArray⟩) (.int .i64 (-1)));have HF:=jb (jr hb2.out (b:=w.heap.size) (Nat.le_refl _) (.string ⟨rt.toArray⟩) (.int .i64 (-1)));clear hr
 go_upto_region 3 with fail
 go_region
 clear x0 x1 z0 z1;go_wp2;obtain⟨Y,hYe⟩:∃Y,Y=(jN w2 w.heap.size (.string ⟨rt.toArray⟩) (.int .i64 (-1))).drew:=⟨_,rfl⟩
 have hY2:Blk Y w.heap.size #[.string ⟨rt.toArray⟩,.int .i64 (-1)] 50:=by rw [hYe];exact zr HY.out
 have hF2:Below w.heap.size w Y:=by rw [hYe];exact HF.out.drew
 simp only [jN] at hYe;rw [<-hYe];clear hYe HY HF;refine bodyPost_ret (j5 _ hY2) rfl ?_
 rw [EE.out];exact⟨⟨⟨rt.toArray⟩,s.extract k s.size,rfl,jj s k,rfl⟩,hF2⟩
theorem XX:∀l:List UInt8,Lib.indexAny l [46,91]<(l.length:Int)\/l=[] 
 | []=>.inr rfl
 | b :: l=>by
  left
  have ih:=XX l;unfold Lib.indexAny;split
  ·simp only [List.length_cons];omega
  ·rcases ih with ih | rfl
   ·split
    ·simp only [List.length_cons];omega
    ·simp only [List.length_cons];omega
   ·simp [Lib.indexAny]
theorem YP (l:List UInt8):Lib.indexAny l [46,91]<=(l.length:Int):=by
 rcases XX l with h | rfl
 ·omega
 ·decide
theorem Z5 (w:World)(s:ByteArray)(hs:s.size<=1073741824)(hq:¬s.data.toList.head?=some 34)(hn:Lib.indexAny s.data.toList [46,91]<0):Calls Tryd.prog 74 #[.string s] w (JS (jY s.data.toList) w):=by
 have b0:Below w.heap.size w (w.alloc (.cells #[.string ⟨#[]⟩,.int .i64 0] 50)):=(Below.refl _ w).alloc (Nat.le_refl _) _;have hr0:=jl w #[.string ⟨#[]⟩,.int .i64 0] 50;have hp:=Xc s;rw [decide_eq_false hq] at hp;have EE:Hid (jY s.data.toList=((s.data.toList,-1),[],true)):=jb (by unfold jY;rw [if_neg hq,if_pos hn]);have KA:=jb (Q8 (w.alloc (.cells #[.string ⟨#[]⟩,.int .i64 0] 50)) s (by omega));generalize Lib.indexAny s.data.toList [46,91]=ix at *;have HB0:=jb b0;have HR0:=jb hr0;clear b0 hr0 hq
 go_enter Tryd.func74,Tryd.ntmps74
 go_wp2_with fail
 refine(Tryd.strings_HasPrefix s ⟨#[34]⟩ _).mono ?_
 rintro _ w1 ⟨rfl,rfl⟩
 rw [show(⟨#[34]⟩:ByteArray).data.toList=[34] from rfl,hp];clear hp
 go_upto_region 4 with fail
 go_wp2_with fail
 refine(ja KA).mono ?_
 rintro _ w2 ⟨rfl,b2⟩
 have hr2:=jb (HR0.out.below b2);have hb2:=jb (HB0.out.trans (b2.mono HB0.out.size));clear KA HB0 HR0 b2;have hr:=hr2.out;have x0:=hr.cell 0 _ rfl;have x1:=hr.cell 1 _ rfl;simp only [List.getElem_toArray,List.getElem_cons_zero,List.getElem_cons_succ] at x0 x1;have z0:=Blk.froz hr 0;have z1:=Blk.froz hr 1;have HY:=jb (jw hr (.string s) (.int .i64 (-1)));have HF:=jb (jr hb2.out (b:=w.heap.size) (Nat.le_refl _) (.string s) (.int .i64 (-1)));clear hr
 go_upto_region 7 with fail
 go_region
 clear x0 x1 z0 z1;go_wp2;obtain⟨Y,hYe⟩:∃Y,Y=(jN w2 w.heap.size (.string s) (.int .i64 (-1))).drew:=⟨_,rfl⟩
 have hY2:Blk Y w.heap.size #[.string s,.int .i64 (-1)] 50:=by rw [hYe];exact zr HY.out
 have hF2:Below w.heap.size w Y:=by rw [hYe];exact HF.out.drew
 simp only [jN] at hYe;rw [<-hYe];clear hYe HY HF;refine bodyPost_ret (j5 _ hY2) rfl ?_
 rw [EE.out];exact⟨⟨s,ByteArray.empty,rfl,rfl,rfl⟩,hF2⟩
theorem Zv (w:World)(s:ByteArray)(hs:s.size<=1073741824)(hq:¬s.data.toList.head?=some 34)(hn:¬Lib.indexAny s.data.toList [46,91]<0):Calls Tryd.prog 74 #[.string s] w (JS (jY s.data.toList) w):=by
 have b0:Below w.heap.size w (w.alloc (.cells #[.string ⟨#[]⟩,.int .i64 0] 50)):=(Below.refl _ w).alloc (Nat.le_refl _) _;have hr0:=jl w #[.string ⟨#[]⟩,.int .i64 0] 50;have hp:=Xc s;rw [decide_eq_false hq] at hp;have hle:=YP s.data.toList;rw [jc] at hle;have EE:Hid (jY s.data.toList=((s.data.toList.take (Lib.indexAny s.data.toList [46,91]).toNat,-1),s.data.toList.drop (Lib.indexAny s.data.toList [46,91]).toNat,true)):=jb (by unfold jY;rw [if_neg hq,if_neg hn]);have KA:=jb (Q8 (w.alloc (.cells #[.string ⟨#[]⟩,.int .i64 0] 50)) s (by omega));generalize Lib.indexAny s.data.toList [46,91]=ix at *;obtain⟨k,rfl⟩:∃k:Nat,ix=(k:Int):=⟨ix.toNat,by omega⟩
 rw [Int.toNat_natCast] at EE;have HB0:=jb b0;have HR0:=jb hr0;clear b0 hr0 hq
 go_enter Tryd.func74,Tryd.ntmps74
 go_wp2_with fail
 refine(Tryd.strings_HasPrefix s ⟨#[34]⟩ _).mono ?_
 rintro _ w1 ⟨rfl,rfl⟩
 rw [show(⟨#[34]⟩:ByteArray).data.toList=[34] from rfl,hp];clear hp
 go_upto_region 4 with fail
 go_wp2_with fail
 refine(ja KA).mono ?_
 rintro _ w2 ⟨rfl,b2⟩
 have hr2:=jb (HR0.out.below b2);have hb2:=jb (HB0.out.trans (b2.mono HB0.out.size));clear KA HB0 HR0 b2;have hkn:¬(k:Int)<0:=by omega
 have hks:k<=s.size:=by omega
 have hr:=hr2.out;have x0:=hr.cell 0 _ rfl;have x1:=hr.cell 1 _ rfl;simp only [List.getElem_toArray,List.getElem_cons_zero,List.getElem_cons_succ] at x0 x1;have z0:=Blk.froz hr 0;have z1:=Blk.froz hr 1;have HY:=jb (jw hr (.string (s.extract 0 k)) (.int .i64 (-1)));have HF:=jb (jr hb2.out (b:=w.heap.size) (Nat.le_refl _) (.string (s.extract 0 k)) (.int .i64 (-1)));clear hr
 go_upto_region 7 with fail
 go_region
 clear x0 x1 z0 z1;go_wp2;obtain⟨Y,hYe⟩:∃Y,Y=(jN w2 w.heap.size (.string (s.extract 0 k)) (.int .i64 (-1))).drew:=⟨_,rfl⟩
 have hY2:Blk Y w.heap.size #[.string (s.extract 0 k),.int .i64 (-1)] 50:=by rw [hYe];exact zr HY.out
 have hF2:Below w.heap.size w Y:=by rw [hYe];exact HF.out.drew
 simp only [jN] at hYe;rw [<-hYe];clear hYe HY HF;refine bodyPost_ret (j5 _ hY2) rfl ?_
 rw [EE.out];exact⟨⟨s.extract 0 k,s.extract k s.size,zf s k,jj s k,rfl⟩,hF2⟩
theorem XB (w:World)(s:ByteArray)(hs:s.size<=1073741824)(hT:zc w):Calls Tryd.prog 74 #[.string s] w (JS (jY s.data.toList) w):=by
 by_cases hq:s.data.toList.head?=some 34
 ·exact QY w s hs hT hq
 ·by_cases hn:Lib.indexAny s.data.toList [46,91]<0
  ·exact Z5 w s hs hq hn
  ·exact Zv w s hs hq hn
theorem XR (w:World)(s:ByteArray)(l:List UInt8)(hs:s.size<=1073741824)(hl:s.data.toList=46 :: l)(hT:zc w)(hM:MaxP w):Calls Tryd.prog 52 #[.string s] w (JS (jy s.data.toList) w):=by
 have b0:Below w.heap.size w (w.alloc (.cells #[.string ⟨#[]⟩,.int .i64 0] 50)):=(Below.refl _ w).alloc (Nat.le_refl _) _;have hr0:=jl w #[.string ⟨#[]⟩,.int .i64 0] 50;have hll:l.length<1073741824:=by have:=jc s;rw [hl] at this;simp only [List.length_cons] at this;omega
 have KK:=jb (XB (w.alloc (.cells #[.string ⟨#[]⟩,.int .i64 0] 50)) ⟨l.toArray⟩ (by rw [qw];omega) (Utf8Tabs_below hT b0));have EE:Hid (jy s.data.toList=jY l):=jb (by rw [hl];rfl);have h1:Lib.trimPrefix s.data.toList [46]=l:=by rw [hl];simp [Lib.trimPrefix,Lib.hasPrefix,List.isPrefixOf]
 have h2:Lib.hasPrefix s.data.toList [46]=true:=by rw [hl];simp [Lib.hasPrefix,List.isPrefixOf]
 have HB0:=jb b0;have HR0:=jb hr0;clear b0 hr0 hT hM hl hll
 go_enter Tryd.func52,Tryd.ntmps52
 go_wp2_with fail
 refine(Tryd.strings_CutPrefix s ⟨#[46]⟩ _).mono ?_
 rintro _ w1 ⟨rfl,rfl⟩
 rw [show(⟨#[46]⟩:ByteArray).data.toList=[46] from rfl,h1,h2];clear h1 h2
 go_wp2_with fail
 refine(ja KK).mono ?_
 rintro _ w2 ⟨⟨key,rest,k1,k2,rfl⟩,b2⟩
 have hr2:=HR0.out.below b2;have hb2:=HB0.out.trans (b2.mono HB0.out.size);have HK:=jb (And.intro k1 k2);clear KK HB0 HR0 b2 k1 k2;have hr:=hr2;have x0:=hr.cell 0 _ rfl;have x1:=hr.cell 1 _ rfl;simp only [List.getElem_toArray,List.getElem_cons_zero,List.getElem_cons_succ] at x0 x1;have z0:=Blk.froz hr 0;have z1:=Blk.froz hr 1;generalize jY l=C at *;obtain⟨⟨ck,ci⟩,cr,cb⟩:=C
 dsimp only at *
 have HY:=jb (jw hr (.string key) (.int .i64 ci));have HF:=jb (jr hb2 (b:=w.heap.size) (Nat.le_refl _) (.string key) (.int .i64 ci));clear hr hr2 hb2;go_wp2;obtain⟨Y,hYe⟩:∃Y,Y=jN w2 w.heap.size (.string key) (.int .i64 ci):=⟨_,rfl⟩
 rw [<-hYe] at HY HF;simp only [jN] at hYe;rw [<-hYe];clear hYe x0 x1 z0 z1;refine bodyPost_ret (jR _ HY.out) rfl ?_
 rw [EE.out];exact⟨⟨key,rest,HK.out.1,HK.out.2,rfl⟩,HF.out⟩
theorem QS (w:World)(s:ByteArray)(l:List UInt8)(hs:s.size<=1073741824)(hl:s.data.toList=91 :: l)(hT:zc w)(hM:MaxP w):Calls Tryd.prog 52 #[.string s] w (JS (jy s.data.toList) w):=by
 have b0:Below w.heap.size w (w.alloc (.cells #[.string ⟨#[]⟩,.int .i64 0] 50)):=(Below.refl _ w).alloc (Nat.le_refl _) _;have hr0:=jl w #[.string ⟨#[]⟩,.int .i64 0] 50;have hll:l.length<1073741824:=by have:=jc s;rw [hl] at this;simp only [List.length_cons] at this;omega
 have KK:=jb (Xr (w.alloc (.cells #[.string ⟨#[]⟩,.int .i64 0] 50)) ⟨l.toArray⟩ (by rw [qw];omega) (hM.below b0));have EE:Hid (jy s.data.toList=qE l):=jb (by rw [hl];rfl);have h2:Lib.hasPrefix s.data.toList [46]=false:=by rw [hl];simp [Lib.hasPrefix,List.isPrefixOf]
 have h3:Lib.trimPrefix s.data.toList [91]=l:=by rw [hl];simp [Lib.trimPrefix,Lib.hasPrefix,List.isPrefixOf]
 have h4:Lib.hasPrefix s.data.toList [91]=true:=by rw [hl];simp [Lib.hasPrefix,List.isPrefixOf]
 have HB0:=jb b0;have HR0:=jb hr0;clear b0 hr0 hT hM hl hll
 go_enter Tryd.func52,Tryd.ntmps52
 go_wp2_with fail
 refine(Tryd.strings_CutPrefix s ⟨#[46]⟩ _).mono ?_
 rintro _ w1 ⟨rfl,rfl⟩
 rw [show(⟨#[46]⟩:ByteArray).data.toList=[46] from rfl,h2];clear h2;generalize Lib.trimPrefix s.data.toList [46]=t46
 go_wp2_with fail
 refine(Tryd.strings_CutPrefix s ⟨#[91]⟩ _).mono ?_
 rintro _ w1 ⟨rfl,rfl⟩
 rw [show(⟨#[91]⟩:ByteArray).data.toList=[91] from rfl,h3,h4];clear h3 h4
 go_wp2_with fail
 refine(ja KK).mono ?_
 rintro _ w2 ⟨⟨key,rest,k1,k2,rfl⟩,b2⟩
 have hr2:=HR0.out.below b2;have hb2:=HB0.out.trans (b2.mono HB0.out.size);have HK:=jb (And.intro k1 k2);clear KK HB0 HR0 b2 k1 k2;have hr:=hr2;have x0:=hr.cell 0 _ rfl;have x1:=hr.cell 1 _ rfl;simp only [List.getElem_toArray,List.getElem_cons_zero,List.getElem_cons_succ] at x0 x1;have z0:=Blk.froz hr 0;have z1:=Blk.froz hr 1;generalize qE l=C at *;obtain⟨⟨ck,ci⟩,cr,cb⟩:=C
 dsimp only at *
 have HY:=jb (jw hr (.string key) (.int .i64 ci));have HF:=jb (jr hb2 (b:=w.heap.size) (Nat.le_refl _) (.string key) (.int .i64 ci));clear hr hr2 hb2;go_wp2;obtain⟨Y,hYe⟩:∃Y,Y=jN w2 w.heap.size (.string key) (.int .i64 ci):=⟨_,rfl⟩
 rw [<-hYe] at HY HF;simp only [jN] at hYe;rw [<-hYe];clear hYe x0 x1 z0 z1;refine bodyPost_ret (jR _ HY.out) rfl ?_
 rw [EE.out];exact⟨⟨key,rest,HK.out.1,HK.out.2,rfl⟩,HF.out⟩
theorem JG (w:World)(s:ByteArray)(h2:Lib.hasPrefix s.data.toList [46]=false)(h4:Lib.hasPrefix s.data.toList [91]=false)(hc:jy s.data.toList=(([],0),[],false)):Calls Tryd.prog 52 #[.string s] w (JS (jy s.data.toList) w):=by
 have b0:Below w.heap.size w (w.alloc (.cells #[.string ⟨#[]⟩,.int .i64 0] 50)):=(Below.refl _ w).alloc (Nat.le_refl _) _;have hr0:=jl w #[.string ⟨#[]⟩,.int .i64 0] 50;have EE:=jb hc;have HB0:=jb b0;have HR0:=jb hr0;clear b0 hr0 hc
 go_enter Tryd.func52,Tryd.ntmps52
 go_wp2_with fail
 refine(Tryd.strings_CutPrefix s ⟨#[46]⟩ _).mono ?_
 rintro _ w1 ⟨rfl,rfl⟩
 rw [show(⟨#[46]⟩:ByteArray).data.toList=[46] from rfl,h2];clear h2;generalize Lib.trimPrefix s.data.toList [46]=t46
 go_wp2_with fail
 refine(Tryd.strings_CutPrefix s ⟨#[91]⟩ _).mono ?_
 rintro _ w1 ⟨rfl,rfl⟩
 rw [show(⟨#[91]⟩:ByteArray).data.toList=[91] from rfl,h4];clear h4;generalize Lib.trimPrefix s.data.toList [91]=t91;generalize hW:w.alloc (.cells #[.string ⟨#[]⟩,.int .i64 0] 50)=W at *;have hr:=HR0.out;have x0:=hr.cell 0 _ rfl;have x1:=hr.cell 1 _ rfl;simp only [List.getElem_toArray,List.getElem_cons_zero,List.getElem_cons_succ] at x0 x1;have z0:=Blk.froz hr 0;have z1:=Blk.froz hr 1;have HY:=jb (jw hr (.string ⟨#[]⟩) (.int .i64 0));have HF:=jb (jr HB0.out (b:=w.heap.size) (Nat.le_refl _) (.string ⟨#[]⟩) (.int .i64 0));clear hr HR0 HB0 hW;go_wp2;obtain⟨Y,hYe⟩:∃Y,Y=jN W w.heap.size (.string ⟨#[]⟩) (.int .i64 0):=⟨_,rfl⟩
 rw [<-hYe] at HY HF;simp only [jN] at hYe;rw [<-hYe];clear hYe x0 x1 z0 z1;refine bodyPost_ret (jR _ HY.out) rfl ?_
 rw [EE.out];exact⟨⟨⟨#[]⟩,⟨#[]⟩,rfl,rfl,rfl⟩,HF.out⟩
theorem XV (w:World)(s:ByteArray)(hs:s.size<=1073741824)(hT:zc w)(hM:MaxP w):Calls Tryd.prog 52 #[.string s] w (JS (jy s.data.toList) w):=by
 cases h:s.data.toList with
 | nil=>
  have:=JG w s (by rw [h];rfl) (by rw [h];rfl) (by rw [h];rfl);rw [h] at this;exact this
 | cons b l=>
  by_cases e1:b=46
  ·subst e1
   have:=XR w s l hs h hT hM;rw [h] at this;exact this
  ·by_cases e2:b=91
   ·subst e2
    have:=QS w s l hs h hT hM;rw [h] at this;exact this
   ·have n1:¬(46:UInt8)=b:=fun x=>e1 x.symm
    have n2:¬(91:UInt8)=b:=fun x=>e2 x.symm
    have:=JG w s (by rw [h];simp [Lib.hasPrefix,List.isPrefixOf,n1]) (by rw [h];simp [Lib.hasPrefix,List.isPrefixOf,n2]) (by
     rw [h];unfold jy;split
     ·rename_i q;injection q with q _;exact absurd q e1
     ·rename_i q;injection q with q _;exact absurd q e2
     ·rfl)
    rw [h] at this;exact this
open Go.RowKit
open utfs (bad jb ja)
open bigs (numRes)
open escs (unq qX qV zg)
open valus (Blk jl jc jj zf qw qb qH)
theorem ZR (l:List UInt8):(jy l).1.1.length<=l.length/\(jy l).2.1.length<=l.length/\-9223372036854775808<=(jy l).1.2/\(jy l).1.2<=9223372036854775807:=by
 have hK:∀l,(jY l).1.1.length<=l.length/\(jY l).2.1.length<=l.length/\-9223372036854775808<=(jY l).1.2/\(jY l).1.2<=9223372036854775807:=by
  intro l;unfold jY;split
  ·refine⟨?_,by simp,(by show(-9223372036854775808:Int)<=-1;decide),(by show(-1:Int)<=9223372036854775807;decide)⟩
   dsimp only
   cases h:unq l with
   | inl e=>exact Nat.zero_le _
   | inr q=>
    obtain⟨r,k⟩:=q;have:=escs.JQ h
    show(utfs.enc r).length<=_
    omega
  ·split
   ·exact⟨Nat.le_refl _,Nat.zero_le _,(by show(-9223372036854775808:Int)<=-1;decide),(by show(-1:Int)<=9223372036854775807;decide)⟩
   ·exact⟨by simp;omega,by simp,(by show(-9223372036854775808:Int)<=-1;decide),(by show(-1:Int)<=9223372036854775807;decide)⟩
 have hD:∀l,(qE l).1.1.length<=l.length/\(qE l).2.1.length<=l.length/\-9223372036854775808<=(qE l).1.2/\(qE l).1.2<=9223372036854775807:=by
  intro l;refine⟨Nat.zero_le _,?_,(bigs.Jy _).1,(bigs.Jy _).2⟩
  show(Lib.cut l [93]).2.1.length<=_
  unfold Lib.cut;split
  ·simp
  ·simp
 unfold jy;split
 ·have:=hK ‹_›;simp only [List.length_cons];omega
 ·have:=hD ‹_›;simp only [List.length_cons];omega
 ·exact⟨Nat.zero_le _,Nat.zero_le _,(by show(-9223372036854775808:Int)<=0;decide),(by show(0:Int)<=9223372036854775807;decide)⟩
abbrev SK:Type:=ByteArray×Int
def stC (x:SK):List Value:=[.string x.1,.int .i64 x.2]
def stL (x:SK):St:=(x.1.data.toList,x.2)
theorem Qt:(Tryd.prog.info? 50).map (fun i=>(i.zero,i.size,i.bytes))=some (some (.agg #[.string ⟨#[]⟩,.int .i64 0]),2,24):=by kernel_rfl
theorem XW:∀(l:List SK) (j:Nat) (h:j<l.length),(l.flatMap stC)[j*2]?=some (.string l[j].1)/\(l.flatMap stC)[j*2+1]?=some (.int .i64 l[j].2)
 | [],j,h=>absurd h (Nat.not_lt_zero _)
 | t :: l,0,h=>by simp [stC]
 | t :: l,j+1,h=>by
  have ih:=XW l j (by simpa using h)
  have e:∀r,((t :: l).flatMap stC)[(j+1)*2+r]?=(l.flatMap stC)[j*2+r]?:=fun r=>by
   rw [List.flatMap_cons,List.getElem?_append_right (by simp [stC];omega)]
   congr 1
   simp [stC];omega
  have e0:=e 0;rw [Nat.add_zero,Nat.add_zero] at e0;rw [e0,e 1];exact ih
theorem jU {w:World}{base:Nat}{v:Value}{K:List SK}(h:w.ownsRow base 50 2 v K.length (K.flatMap stC))(hk:∀x∈K,x.1.size<=9223372036854775807/\-9223372036854775808<=x.2/\x.2<=9223372036854775807):∃p c,v=.slice p K.length c/\K.length<=c/\LiesP w p (K.map stL)/\(∀B o,p=some ⟨B,o,none⟩->base<=B):=by
 have h':=h
 rcases h.2 with ⟨rfl,h0⟩ | ⟨g,cap,cur,rfl,hb,hg,hcap,_⟩
 ·have:K=[]:=List.eq_nil_of_length_eq_zero h0
  subst this;exact⟨none,0,rfl,by simp,fun h=>absurd rfl h,fun B o e=>by cases e⟩
 ·refine⟨_,cap,rfl,hcap,fun _=>⟨g,0,rfl,(Array.getElem?_eq_some_iff.1 hg).1,fun j x hx=>?_⟩,fun B o e=>by injection e with e;injection e with e;omega⟩
  obtain⟨hj,hx⟩:=List.getElem?_eq_some_iff.1 hx
  rw [List.length_map] at hj;rw [List.getElem_map] at hx;subst hx;obtain⟨g0,g1⟩:=XW K j hj;have hm:=hk K[j] (List.getElem_mem hj);refine⟨K[j].1,rfl,hm.1,hm.2,?_,?_⟩
  ·rw [Nat.zero_add,h'.cellAt (j*2) (by omega)]
   exact g0
  ·rw [Nat.zero_add,h'.cellAt (j*2+1) (by omega)]
   exact g1
theorem cell_two_new (w:World)(x y:Value)(t:TypeId):∀j u,[x,y][j]?=some u->(w.alloc (.cells #[x,y] t)).cell? ((⟨w.heap.size,0,none⟩:Addr).add j)=some u :=
 fun j u hu=>World.news_of_block (jl w #[x,y] t) j u hu
theorem Y9 {n:Nat}{D:List St}{l:List UInt8}(h:l≠[]):rdF (n+1) D l true=rdF n (D++[(jy l).1]) (jy l).2.1 (jy l).2.2:=by
 conv=>lhs;unfold rdF
 rw [if_pos ⟨rfl,h⟩]
theorem YH (n:Nat)(D:List St)(l:List UInt8):rdF n D l false=(D,false):=by
 cases n with
 | zero=>rfl
 | succ n=>unfold rdF;rw [if_neg (fun h=>by cases h.1)]
theorem Y1 (n:Nat)(D:List St)(ok:Bool):rdF n D [] ok=(D,ok):=by
 cases n with
 | zero=>rfl
 | succ n=>unfold rdF;rw [if_neg (fun h=>h.2 rfl)]
def jaf:Value->Nat
 | .slice _ n _=>n
 | _=>0
theorem JI:∀(n:Nat) (D:List St) (l:List UInt8) (ok:Bool),(rdF n D l ok).1.length<=D.length+n
 | 0,D,l,ok=>Nat.le_refl _
 | n+1,D,l,ok=>by
  unfold rdF;split
  ·have:=JI n (D++[(jy l).1]) (jy l).2.1 (jy l).2.2
   simp only [List.length_append,List.length_cons,List.length_nil] at this;omega
  ·dsimp only
   omega
theorem YI (l:List UInt8):(rdP l).1.length<=21:=by
 unfold rdP;split
 ·exact JI 21 [] _ true
 ·exact JI 21 [] _ false
abbrev XO (x:List St×Bool) (w:World) (e:Ending) (w':World):Prop :=
 ∃p c,e=.returned (.tuple #[.slice p x.1.length c,.bool x.2])/\x.1.length<=c/\LiesP w' p x.1/\Below w.heap.size w w'
theorem zW (w:World)(s:ByteArray)(t:ByteArray)(ok:Bool)(hs:t.size<=1073741824)(hp1:Lib.trimPrefix s.data.toList [36]=t.data.toList)(hp2:Lib.hasPrefix s.data.toList [36]=ok)(hT:zc w)(hM:MaxP w) :
  Calls Tryd.prog 32 #[.string s] w (XO (rdF 21 [] t.data.toList ok) w):=by
 obtain⟨i0,hi,hz0,hz1,hz2⟩:=info_parts Qt;have HT:=jb hT;have HM:=jb hM;clear hT hM
 go_enter Tryd.func32,Tryd.ntmps32
 go_wp2_with fail
 refine(Tryd.strings_CutPrefix s ⟨#[36]⟩ _).mono ?_
 rintro _ w0 ⟨rfl,rfl⟩
 rw [show(⟨#[36]⟩:ByteArray).data.toList=[36] from rfl,hp1,hp2,show(⟨t.data.toList.toArray⟩:ByteArray)=t from by simp];clear hp1 hp2;obtain⟨X,hX⟩:∃X,X=rdF 21 [] t.data.toList ok:=⟨_,rfl⟩
 rw [<-hX];have HX:=jb hX;clear hX
 go_wp2_with fail
 go_loopw [4,5,6] (fun r o v wr=>∃(rest:ByteArray) (okb:Bool) (K:List SK) (n:Nat),r=.string rest/\o=.bool okb/\rest.size<=1073741824/\K.length+n=21/\Hid (rdF n (K.map stL) rest.data.toList okb=X)/\Hid (∀x∈K,x.1.size<=9223372036854775807/\-9223372036854775808<=x.2/\x.2<=9223372036854775807)/\wr.ownsRow w0.heap.size 50 2 v K.length (K.flatMap stC)/\Below w0.heap.size w0 wr) (fun _ _ v _=>21 - jaf v)
 case atStart=>exact⟨t,ok,[],21,rfl,rfl,hs,rfl,jb HX.out.symm,jb (fun x hx=>absurd hx (List.not_mem_nil)),World.ownsRow_nil _ _ _ _,Below.refl _ _⟩
 case round=>
  obtain⟨rest,okb,K,n,rfl,rfl,hrs,hKn,HE,HK,hown,hbw⟩:=hrel;have hlen:=jc rest;cases okb with
  | false=>
   have HF:Hid (X=(K.map stL,false)):=jb (by rw [<-HE.out,YH]);obtain⟨p,c,rfl,hc,hL,_⟩:=jU hown HK.out;have HL:=jb hL;clear HE HK hown hL;go_wp2;go_ret2;rw [<-HX.out,HF.out];exact⟨p,c,by simp only [List.length_map];rfl,by simp only [List.length_map];exact hc,HL.out,hbw⟩
  | true=>
   by_cases hz:rest.size=0
   ·have hzl:rest.data.toList=[]:=List.eq_nil_of_length_eq_zero (by omega)
    have HF:Hid (X=(K.map stL,true)):=jb (by rw [<-HE.out,hzl,Y1]);have he:=escs.ql rest hz;obtain⟨p,c,rfl,hc,hL,_⟩:=jU hown HK.out;have HL:=jb hL;clear HE HK hown hL hzl;go_wp2;go_ret2;rw [<-HX.out,HF.out];exact⟨p,c,by simp only [List.length_map];rfl,by simp only [List.length_map];exact hc,HL.out,hbw⟩
   ·have he:=escs.qO rest (by omega)
    have hne:rest.data.toList≠[]:=fun e=>hz (by rw [<-hlen,e];rfl)
    cases n with
    | zero=>
     have HF:Hid (X=(K.map stL,true)):=jb HE.out.symm;obtain⟨p,c,rfl,hc,hL,_⟩:=jU hown HK.out;have HL:=jb hL;have g0:¬(K.length:Int)<=20:=by omega
     clear HE HK hown hL hne;go_wp2;go_ret2;rw [<-HX.out,HF.out];exact⟨p,c,by simp only [List.length_map];rfl,by simp only [List.length_map];exact hc,HL.out,hbw⟩
    | succ n=>
     have hE2:=HE.out;rw [Y9 hne] at hE2;obtain⟨r1,r2,r3,r4⟩:=ZR rest.data.toList;have bA:Below w0.heap.size w0 (wr.alloc (.cells #[.string ⟨#[]⟩,.int .i64 0] 50)):=hbw.alloc hbw.size _;have KS:=jb (XV (wr.alloc (.cells #[.string ⟨#[]⟩,.int .i64 0] 50)) rest hrs (Utf8Tabs_below HT.out bA) (HM.out.below bA));have hbT:=jl wr #[.string ⟨#[]⟩,.int .i64 0] 50;have hownA:=hown.alloc (.cells #[.string ⟨#[]⟩,.int .i64 0] 50);obtain⟨p,c,rfl,hc,_,_⟩:=jU hown HK.out;have g0:(K.length:Int)<=20:=by omega
     have hownb:∀g,(Value.slice p K.length c).ownBlock=some g->w0.heap.size<=g/\g<wr.heap.size:=hown.lt;have hTw:w0.heap.size<=wr.heap.size:=hbw.size;generalize hC:jy rest.data.toList=C at *;obtain⟨⟨ck,ci⟩,cr,cb⟩:=C
     dsimp only at *
     have HE2:=jb hE2;have HBT:=jb hbT;have HOA:=jb hownA;have HBA:=jb bA;have HOB:=jb hownb;clear hE2 hbT hownA bA hC HE hne hown hownb
     go_wp2_with fail
     refine(ja KS).mono ?_
     rintro _ w1 ⟨⟨key,rs,k1,k2,rfl⟩,b1⟩
     have hr:=HBT.out.below b1;have hB1:=HBA.out.trans (b1.mono HBA.out.size);have hO1:=HOA.out.kept (row:=none) ⟨b1.os,b1.tape,b1.output,b1.size,fun k hk _=>b1.block k hk⟩ (Classical.em _);have hsz1:wr.heap.size<w1.heap.size:=by have:=b1.size;simp at this;omega
     have x0:=hr.cell 0 _ rfl;have x1:=hr.cell 1 _ rfl;simp only [List.getElem_toArray,List.getElem_cons_zero,List.getElem_cons_succ] at x0 x1;have z0:=Blk.froz hr 0;have z1:=Blk.froz hr 1;have hY:=jw hr (.string key) (.int .i64 ci);have hF:=jr hB1 (b:=wr.heap.size) hTw (.string key) (.int .i64 ci)
     have hO2:(jN w1 wr.heap.size (.string key) (.int .i64 ci)).ownsRow w0.heap.size 50 2 (.slice p K.length c) K.length (K.flatMap stC):=by
      refine hO1.kept (qH (qb w1 wr.heap.size 0 (.string key)) (qb _ wr.heap.size 1 (.int .i64 ci))) ?_
      cases hv:(Value.slice p K.length c).ownBlock with
      | none=>exact .inl rfl
      | some g=>exact .inr (fun e=>by injection e with e;have:=HOB.out g hv;omega)
     have hS2:(jN w1 wr.heap.size (.string key) (.int .i64 ci)).heap.size=w1.heap.size:=by simp [jN,World.setCell]
     have HH:=jb (And.intro hY (And.intro hF (And.intro hO2 (And.intro hS2 (And.intro k1 (And.intro k2 hsz1))))));clear hr hB1 hO1 hY hF hO2 hS2 k1 k2 b1 HBT HOA HBA KS
     go_upto_region 6 with fail
     generalize hW2:(w1.setCell ⟨wr.heap.size,0,none⟩ (.string key)).setCell ⟨wr.heap.size,1,none⟩ (.int .i64 ci)=W2;obtain⟨hY,hF,hO2,hS2,k1,k2,_⟩:=HH.out;simp only [jN] at hY hF hO2 hS2;rw [hW2] at hY hF hO2 hS2;clear HH hW2 x0 x1 z0 z1;have y0:=hY.cell 0 _ rfl;have y1:=hY.cell 1 _ rfl;simp only [List.getElem_toArray,List.getElem_cons_zero,List.getElem_cons_succ] at y0 y1;have hkl:=jc key;have hrl:=jc rs;have HKK:Hid (key.data.toList=ck/\rs.data.toList=cr):=jb ⟨k1,k2⟩;have hk3:key.size<=1073741824:=by rw [<-hkl,k1];omega
     have hk4:rs.size<=1073741824:=by rw [<-hrl,k2];omega
     have HFF:=jb hF;have HS2:=jb hS2;clear hY k1 k2 hkl hrl hF hS2
     go_wp2_with (at_builtin;refine wpList_append_lies _ rfl _ _ 22 rfl w0.heap.size 50 i0 (.agg #[.string ⟨#[]⟩,.int .i64 0]) 2 24 Tryd.underlying22 hi hz0 hz1 hz2 rfl (by decide) _ _ _ rfl (hO2.alloc _) ⟨W2.heap.size,0,none⟩ 1 1 [.string key,.int .i64 ci] rfl rfl ?c1 ?c2 ?c3 ?c4 ?c5 ?c6 (W2.heap.size+1) ?c7 ?_)
     case c1=>exact cell_two_new _ _ _ _
     case c2=>intro u hu;simp at hu;rcases hu with rfl | rfl<;>rfl
     case c3=>decide
     case c4=>unfold maxLen;omega
     case c5=>omega
     case c6=>have:=HFF.out.size;simp;omega
     case c7=>simp
     intro g cap w2 hown2 hg2 hat hlt2;have hbw2:Below w0.heap.size w0 w2:=(HFF.out.alloc HFF.out.size _).grown hg2 (by have:=HFF.out.size;simp;omega) (fun x hx=>by have:=HOB.out x hx;omega);clear hg2 hat hO2 HFF y0 y1;go_wp2;go_roundw
     case rel=>
      refine⟨rs,cb,K++[(key,ci)],n,rfl,rfl,hk4,by simp;omega,jb ?_,jb ?_,?_,hbw2⟩
      ·rw [List.map_append,HKK.out.2]
       show rdF n (K.map stL++[(key.data.toList,ci)]) cr cb=X
       rw [HKK.out.1];exact HE2.out
      ·intro x hx
       rcases List.mem_append.1 hx with hx | hx
       ·exact HK.out x hx
       ·obtain rfl:=List.mem_singleton.1 hx
        exact⟨by show key.size<=_;omega,r3,r4⟩
      ·rw [List.flatMap_append,List.length_append]
       exact hown2
     case measure=>simp only [jaf];omega
theorem YV (s:ByteArray):Lib.trimPrefix s.data.toList [36]=(if s.data.toList.head?=some 36 then s.data.toList.drop 1 else s.data.toList)/\Lib.hasPrefix s.data.toList [36]=decide (s.data.toList.head?=some 36):=by
 cases h:s.data.toList with
 | nil=>exact⟨rfl,rfl⟩
 | cons b l=>
  by_cases e:b=36
  ·subst e;exact⟨rfl,rfl⟩
  ·have:¬(36:UInt8)=b:=fun x=>e x.symm
   have n2:¬some b=some (36:UInt8):=fun x=>e (by injection x)
   simp [Lib.trimPrefix,Lib.hasPrefix,List.isPrefixOf,e,this]
theorem Zz (w:World)(s:ByteArray)(hs:s.size<=1073741824)(hT:zc w)(hM:MaxP w) :
  Calls Tryd.prog 32 #[.string s] w (XO (rdP s.data.toList) w):=by
 obtain⟨t1,t2⟩:=YV s
 by_cases h:s.data.toList.head?=some 36
 ·rw [if_pos h] at t1
  rw [decide_eq_true h] at t2
  have e:rdP s.data.toList=rdF 21 [] (s.data.toList.drop 1) true:=by
   cases h2:s.data.toList with
   | nil=>rw [h2] at h;cases h
   | cons b l=>
    rw [h2] at h;injection h with h;subst h;rfl
  have hk:=jj s 1;have:=zW w s (s.extract 1 s.size) true (by rw [ByteArray.size_extract];omega) (by rw [t1,hk]) t2 hT hM;rw [hk] at this;rw [e];exact this
 ·rw [if_neg h] at t1
  rw [decide_eq_false h] at t2
  have e:rdP s.data.toList=rdF 21 [] s.data.toList false:=by
   unfold rdP;split
   ·rename_i q
    rw [q] at h;exact absurd rfl h
   ·rfl
  rw [e];exact zW w s s false hs t1 t2 hT hM
theorem Yt {l:List UInt8}{P:List St}(h:rdP l=(P,true))(h1:jk P=0)(h2:jn P=l):jB l (.inl P):=by
 unfold jB;rw [h];exact .inl ⟨rfl,rfl,h1,h2⟩
theorem QG {l:List UInt8}{P:List St}{ok:Bool}(h:rdP l=(P,ok))(h1:ok=false\/jk P≠0\/jn P≠l):jB l (.inr ()):=by
 unfold jB;rw [h];exact .inr ⟨rfl,h1⟩
abbrev ReadW (l:List UInt8) (w:World) (e:Ending) (w':World):Prop :=
 ((∃P p c,e=.returned (.tuple #[.slice p P.length c,.int .i64 0])/\P.length<=c/\LiesP w' p P/\jB l (.inl P))\/(e=.returned (.tuple #[.slice none 0 0,.int .i64 4])/\jB l (.inr ())))/\Below w.heap.size w w'
theorem zb (w:World)(s:ByteArray)(hs:s.size<=1073741824)(hT:PTabs w)(hM:MaxP w) :
  Calls Tryd.prog 10 #[.string s] w (ReadW s.data.toList w):=by
 have KS:=jb (Zz w s hs hT.esc.utf hM);have hl21:(rdP s.data.toList).1.length<=21:=YI _;obtain⟨D,hD⟩:∃D,rdP s.data.toList=D:=⟨_,rfl⟩
 rw [hD] at KS hl21;obtain⟨P,ok⟩:=D
 dsimp only at *
 have HD:=jb hD;clear hD;have HT:=jb hT;clear hT hM
 go_enter Tryd.func10,Tryd.ntmps10
 go_wp2_with fail
 refine(ja KS).mono ?_
 rintro _ w1 ⟨p,c,rfl,hc,hL,b1⟩
 clear KS;cases ok with
 | false=>
  have B1:=jb b1;clear b1 hL;go_wp2;go_ret2;exact⟨.inr ⟨rfl,QG HD.out (.inl rfl)⟩,B1.out⟩
 | true=>
  have KT:=jb (qG w1 p c P hL (by omega) (HT.out.below b1));have HL:=jb hL;have B1:=jb b1;clear b1 hL
  go_wp2_with fail
  refine(ja KT).mono ?_
  rintro _ w2 ⟨rfl,b2⟩
  have B2:=jb (B1.out.trans (b2.mono B1.out.size));have L2:=jb (HL.out.keep b2);clear KT b2 HL B1
  by_cases e:jk P=0
  ·have ht:qm P=jn P:=by unfold qm;rw [if_pos e]
   rw [ht,e]
   by_cases hq:jn P=s.data.toList
   ·have hs2:(jn P == s.toList)=true:=by rw [ByteArray.toList_eq];exact beq_iff_eq.2 hq
    have HQ:=jb (And.intro e hq);clear ht hq e;go_wp2;go_ret2;exact⟨.inl ⟨P,p,c,rfl,hc,L2.out,Yt HD.out HQ.out.1 HQ.out.2⟩,B2.out⟩
   ·have hs2:(jn P == s.toList)=false:=by rw [ByteArray.toList_eq];exact beq_eq_false_iff_ne.2 hq
    have HQ:=jb hq;clear ht hq e;go_wp2;go_ret2;exact⟨.inr ⟨rfl,QG HD.out (.inr (.inr HQ.out))⟩,B2.out⟩
  ·have e1:(jk P != 0)=true:=bne_iff_ne.2 e
   have HQ:=jb e;clear e;generalize qm P=tx;go_wp2;go_ret2;exact⟨.inr ⟨rfl,QG HD.out (.inr (.inl HQ.out))⟩,B2.out⟩
end paths
end Go.Proofs.YticcibefchffmaaDoor
