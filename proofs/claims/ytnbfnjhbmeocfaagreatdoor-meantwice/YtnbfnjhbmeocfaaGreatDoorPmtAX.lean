/- Of our texts, what this claim reaches. -/
import Derived.Test.YtnbfnjhbmeocfaaGreatDoorPmtAQ
import Derived.Test.YtnbfnjhbmeocfaaGreatDoorPmtAH
import Derived.Test.YtnbfnjhbmeocfaaGreatDoorPmtAA
import Derived.Test.YtnbfnjhbmeocfaaGreatDoorPmtAP
import Derived.Test.YtnbfnjhbmeocfaaGreatDoorPmtAW
import Derived.Deep.QuietTactic
import Derived.BigQuiet
import Derived.Test.YtnbfnjhbmeocfaaGreatDoorPmtAD
import Derived.Lib.FrozenHead2
import Derived.Lib.OthersKept
import Derived.Shelf.Strings.BuilderX
set_option linter.unusedVariables false
set_option maxHeartbeats 2000000
set_option maxRecDepth 100000
namespace Go.Proofs.YtnbfnjhbmeocfaaGreatDoor
namespace valus
open Go.RowKit
open bigs (zi zd)
structure ShowTabs (w:World):Prop where
 utf:Lib.Utf8Tabs 1 2 w
 bru:Lib.TabIs Tryz.prog w "math/bits.deBruijn64tab" .u8 zi
 pow:Lib.TabIs Tryz.prog w "internal/strconv.uint64pow10" .u64 Lib.pow10Tab
theorem ShowTabs.below {w w':World}(h:ShowTabs w)(hb:Below w.heap.size w w'):ShowTabs w':=⟨Utf8Tabs_below h.utf hb,zd h.bru hb,zd h.pow hb⟩
theorem ShowTabs.esc {w:World}(h:ShowTabs w):escs.EscTabs w:=⟨h.utf,h.bru⟩
section
variable (w : World) (k n : Int) (b : Nat) (s : ByteArray) (pL pE : Option Addr) (nL cL nE cE : Nat)
theorem jfa (hk:k=4)(T:ByteArray)(er:Int)(K:Hid (∀w1,Below w.heap.size w w1->Calls Tryz.prog 232 #[.string s] w1 fun e w'=>e=.returned (.tuple #[.string T,.int .i64 er])/\Below w1.heap.size w1 w')) :
  Calls Tryz.prog 198 #[.agg #[.int .i64 k,.int .i64 n,.int .u64 (b:Int),.string s,.slice pL nL cL,.slice pE nE cE]] w fun e w'=>e=.returned (.string T)/\Below w.heap.size w w':=by
 subst hk;have bV:Below w.heap.size w (w.alloc (.cells #[.int .i64 4,.int .i64 n,.int .u64 (b:Int),.string s,.slice pL nL cL,.slice pE nE cE] 26)):=(Below.refl _ w).alloc (Nat.le_refl _) _;have K1:=jd (ja K _ bV);have FIN:=jd bV;have hX:=jf w #[.int .i64 4,.int .i64 n,.int .u64 (b:Int),.string s,.slice pL nL cL,.slice pE nE cE] 26;have x0:=hX.cell 0 _ rfl;have x3:=hX.cell 3 _ rfl;clear hX bV K
 go_enter Tryz.func198,Tryz.ntmps198
 go_wp2_with (go_at_call 232;refine(ja K1).mono ?_;rintro e w1 ⟨rfl,b1⟩)
 go_ret;exact⟨rfl,FIN.out.trans (b1.mono FIN.out.size)⟩
end
open Go.RowKit
def PgAt (B R:Nat)(p:Value)(l:List UInt8)(d fm:Int)(w:World):Prop :=
 B<=R/\∃v,w.heap[R]?=some (.cells #[p,v,.int .i64 d,.int .i64 fm] 153 (0,0))/\w.ownsRowF B 5 1 v l.length (Lib.byteCells l)/\v.ownBlock≠some R
def Pg (B R:Nat)(l:List UInt8)(d fm:Int)(w:World):Prop:=PgAt B R (.pointer none) l d fm w\/PgAt B R (.pointer (some ⟨R,0,none⟩)) l d fm w
def KeptR (R:Nat)(w w':World):Prop:=Lib.OthersKept 5 (some R) w w'
theorem PgAt.lt {B R:Nat}{p:Value}{l:List UInt8}{d fm:Int}{w:World}(h:PgAt B R p l d fm w):R<w.heap.size:=by
 obtain⟨_,v,h,_⟩:=h;exact(Array.getElem?_eq_some_iff.1 h).1
theorem Pg.lt {B R:Nat}{l:List UInt8}{d fm:Int}{w:World}(h:Pg B R l d fm w):R<w.heap.size:=h.elim (·.lt) (·.lt)
theorem Pg.below {B R:Nat}{l:List UInt8}{d fm:Int}{w w':World}(h:Pg B R l d fm w)(hb:Below w.heap.size w w'):Pg B R l d fm w':=by
 have at_:∀p,PgAt B R p l d fm w->PgAt B R p l d fm w':=fun p h=>by
  have hlt:=h.lt;obtain⟨hB,v,hv,hown,hne⟩:=h;exact⟨hB,v,(hb.block R hlt).trans hv,hown.kept (row:=none) ⟨hb.os,hb.tape,hb.output,hb.size,fun k hk _=>hb.block k hk⟩ (Classical.em _),hne⟩
 exact h.elim (fun x=>.inl (at_ _ x)) (fun x=>.inr (at_ _ x))
theorem KeptR.below {R:Nat}{w w':World}(hb:Below w.heap.size w w'):KeptR R w w':=fun k o hk _ _=>(hb.block k (Array.getElem?_eq_some_iff.1 hk).1).trans hk
theorem KeptR.trans {R:Nat}{w1 w2 w3:World}(h1:KeptR R w1 w2)(h2:KeptR R w2 w3):KeptR R w1 w3:=Lib.OthersKept.trans h1 h2
theorem KeptR.refl (R:Nat)(w:World):KeptR R w w:=Lib.OthersKept.refl _ _ w
theorem YN (w:World)(a:Addr)(u:Value):w.grownBy (w.setCell a u) (some a.block) :=
 ⟨rfl,rfl,rfl,by simp [World.setCell],fun k hk h=>Below.heap_setCell _ _ _ _ (fun e=>h (by rw [e]))⟩
theorem JF {B R:Nat}{p:Value}{l:List UInt8}{d fm:Int}{w:World}(h:PgAt B R p l d fm w):w.cell? ⟨R,0,none⟩=some p/\w.cell? ⟨R,2,none⟩=some (.int .i64 d)/\w.cell? ⟨R,3,none⟩=some (.int .i64 fm)/\w.shape? R=some (153,4)/\∀k,w.frozen? ⟨R,k,none⟩=false:=by
 obtain⟨_,v,h,_⟩:=h;refine⟨by rw [Lib.cell_of_heap h];rfl,by rw [Lib.cell_of_heap h];rfl,by rw [Lib.cell_of_heap h];rfl,?_,fun k=>Lib.frozen_of_heap h k⟩;unfold World.shape?
 rw [h];rfl
theorem jcr (R:Nat)(w:World)(h0:w.cell? ⟨R,0,none⟩=some (.pointer (some ⟨R,0,none⟩))) :
  Calls Tryz.prog 249 #[.pointer (some ⟨R,0,none⟩)] w fun e w'=>e=.returned (.tuple #[])/\w'=w:=by
 obtain⟨j,hj,hjs⟩:=Option.map_eq_some_iff.1 (show(Tryz.prog.info? 149).map (·.size)=some 2 by kernel_rfl);have hj0:j.size≠0:=by rw [hjs];decide
 have t70:Tryz.prog.underlying 146=some (.pointer 149):=by kernel_rfl
 go_enter Tryz.func249,Tryz.ntmps249
 go_wp2;rw [Lib.run_neq_ptr_same w _ t70 hj];go_wp2;go_end0;exact⟨rfl,rfl⟩
theorem jaR (R:Nat)(w:World)(h0:w.cell? ⟨R,0,none⟩=some (.pointer none))(hsh:w.shape? R=some (153,4))(hfz:w.frozen? ⟨R,0,none⟩=false) :
  Calls Tryz.prog 249 #[.pointer (some ⟨R,0,none⟩)] w fun e w'=>e=.returned (.tuple #[])/\w'=w.setCell ⟨R,0,none⟩ (.pointer (some ⟨R,0,none⟩)):=by
 obtain⟨j,hj,hjs⟩:=Option.map_eq_some_iff.1 (show(Tryz.prog.info? 149).map (·.size)=some 2 by kernel_rfl);have hj0:j.size≠0:=by rw [hjs];decide
 have t70:Tryz.prog.underlying 146=some (.pointer 149):=by kernel_rfl
 have t164:Tryz.prog.underlying 298=some .unsafePointer:=by kernel_rfl
 have hl:liesAt Tryz.prog Tryz.prog.depth 153 (4 / Tryz.prog.cellsOf 153) 0 149 1=true:=by kernel_rfl
 go_enter Tryz.func249,Tryz.ntmps249
 go_wp2;rw [Lib.run_to_unsafe w ⟨R,0,none⟩ t70 t164 hj hj0 hsh (Nat.zero_lt_succ 3)];simp only [Result.andThen];rw [Oper.upon_value];go_wp2;rw [run_callFunc_extern Tryz.func268 (by kernel_rfl) (by kernel_rfl) (by kernel_rfl) (e:=Extern.AbiNoEscape.same) (by kernel_rfl)];rw [Lib.run_noEscape];simp only [Result.andThen];rw [Oper.upon_value];go_wp2;rw [Lib.run_from_unsafe w ⟨R,0,none⟩ t164 t70 hj hsh hl];simp only [Result.andThen];rw [Oper.upon_value];go_wp2;go_end0;exact⟨rfl,rfl⟩
theorem jkv (B R:Nat)(l:List UInt8)(d fm:Int)(w:World)(h:Pg B R l d fm w) :
  Calls Tryz.prog 249 #[.pointer (some ⟨R,0,none⟩)] w fun e w'=>e=.returned (.tuple #[])/\PgAt B R (.pointer (some ⟨R,0,none⟩)) l d fm w'/\Below B w w'/\KeptR R w w':=by
 rcases h with h | h
 ·obtain⟨c0,c2,c3,sh,fz⟩:=JF h
  refine(jaR R w c0 sh (fz 0)).mono ?_
  rintro e w' ⟨rfl,rfl⟩
  have hlt:=h.lt;obtain⟨hB,v,hv,hown,hne⟩:=h;refine⟨rfl,⟨hB,v,?_,?_,hne⟩,(Below.refl B w).setCell (p:=⟨R,0,none⟩) hB _,(Lib.OthersKept.refl _ _ w).setCell ⟨R,0,none⟩ rfl _⟩
  ·exact Blk.set (cs:=#[.pointer none,v,.int .i64 d,.int .i64 fm]) (t:=153) hv 0 (.pointer (some ⟨R,0,none⟩))
  ·exact hown.kept (row:=some R) (YN w ⟨R,0,none⟩ _) (.inr hne)
 ·obtain⟨c0,c2,c3,sh,fz⟩:=JF h
  refine(jcr R w c0).mono ?_
  rintro e w' ⟨rfl,rfl⟩
  exact⟨rfl,h,Below.refl B _,KeptR.refl R _⟩
theorem jlB (m:List UInt8):Lib.strCells ⟨m.toArray⟩=Lib.byteCells m:=rfl
/-- WriteString on a page. -/
theorem jiR (B R:Nat)(l m:List UInt8)(d fm:Int)(w:World)(h:Pg B R l d fm w)(hlen:l.length+m.length<=140737488355328)(hBw:B<=w.heap.size) :
  Calls Tryz.prog 229 #[.pointer (some ⟨R,0,none⟩),.string ⟨m.toArray⟩] w fun e w'=>(∃n:Int,e=.returned (.tuple #[.int .i64 n,.nilIface]))/\Pg B R (l++m) d fm w'/\Below B w w'/\KeptR R w w':=by
 obtain⟨i0,hi,hz0,hz1,hz2⟩:=info_parts (show(Tryz.prog.info? 5).map (fun i=>(i.zero,i.size,i.bytes))=some (some (.int .u8 0),1,1) by kernel_rfl);have t37:Tryz.prog.underlying 147=some (.slice 5):=by kernel_rfl
 have t9:Tryz.prog.underlying 9=some .string:=by kernel_rfl
 have K:=jd (jkv B R l d fm w h);have hms:(⟨m.toArray⟩:ByteArray).size=m.length:=by simp [ByteArray.size]
 go_enter Tryz.func229,Tryz.ntmps229
 go_wp2_with (go_at_call 249;refine(ja K).mono ?_)
 rintro e w1 ⟨rfl,h1,hb1,hk1⟩
 obtain⟨hB,v,hbk,hown,hne⟩:=h1;have c0:w1.cell? ⟨R,0,none⟩=some (.pointer (some ⟨R,0,none⟩)):=by rw [Lib.cell_of_heap hbk];rfl
 have c1:w1.cell? ⟨R,1,none⟩=some v:=by rw [Lib.cell_of_heap hbk];rfl
 go_wp2_with (at_builtin;refine Lib.wpList_append_own_stringF _ rfl _ _ 147 9 rfl B 5 i0 t37 t9 hi hz0 hz1 hz2 _ _ _ rfl hown ⟨m.toArray⟩ rfl ?c3 ?c4 ?c5 ?_)
 case c3=>unfold maxLen;rw [hms];omega
 case c4=>rw [hms];omega
 case c5=>have:=hb1.size;omega
 intro v' w2 hown' hgrow _;have hlt:R<w1.heap.size:=(Array.getElem?_eq_some_iff.1 hbk).1
 have hb2:w2.heap[R]?=some (.cells #[.pointer (some ⟨R,0,none⟩),v,.int .i64 d,.int .i64 fm] 153 (0,0)):=by
  rw [hgrow.block R hlt (fun e=>hne e.symm)];exact hbk
 have d0:w2.cell? ⟨R,0,none⟩=some (.pointer (some ⟨R,0,none⟩)):=by rw [Lib.cell_of_heap hb2];rfl
 have d1:w2.cell? ⟨R,1,none⟩=some v:=by rw [Lib.cell_of_heap hb2];rfl
 have f1:w2.frozen? ⟨R,1,none⟩=false:=Lib.frozen_of_heap hb2 1
 obtain⟨ao,n',cap,rfl⟩:∃ao n' cap,v'=.slice ao n' cap:=by
  rcases hown'.2 with ⟨hv,_⟩ | ⟨g,cap,cur,fz,hv,_⟩
  ·exact⟨_,_,_,hv⟩
  ·exact⟨_,_,_,hv⟩
 go_wp2;go_ret2;refine⟨⟨_,rfl⟩,.inr ?_,?_,(hk1.grown hgrow (Lib.ownsRowF_kind hown)).setCell ⟨R,1,none⟩ rfl _⟩
 ·have hne2:(Value.slice ao n' cap).ownBlock≠some R:=Lib.ownBlock_neF hown' hb2 (by decide)
  rw [jlB,<-Lib.byteCells_append] at hown';have e2:l.length+(⟨m.toArray⟩:ByteArray).size=(l++m).length:=by rw [hms,List.length_append]
  replace hown':w2.ownsRowF B 5 1 (.slice ao n' cap) (l++m).length (Lib.byteCells (l++m)):=by rw [<-e2];exact hown'
  refine⟨hB,.slice ao n' cap,?_,hown'.kept (row:=some R) (YN w2 ⟨R,1,none⟩ _) (.inr hne2),hne2⟩;exact Blk.set (cs:=#[.pointer (some ⟨R,0,none⟩),v,.int .i64 d,.int .i64 fm]) (t:=153) hb2 1 (.slice ao n' cap)
 ·exact(hb1.grown hgrow (by have:=hb1.size;omega) (fun k hk=>(hown.lt k hk).1)).setCell (p:=⟨R,1,none⟩) hB _
theorem jkI (B R:Nat)(l m:List UInt8)(d fm:Int)(w:World)(h:Pg B R l d fm w)(hlen:l.length+m.length<=140737488355328)(hBw:B<=w.heap.size) :
  Calls Tryz.prog 197 #[.pointer (some ⟨R,0,none⟩),.string ⟨m.toArray⟩] w fun e w'=>e=.returned (.tuple #[])/\Pg B R (l++m) d fm w'/\Below B w w'/\KeptR R w w':=by
 have K:=jd (jiR B R l m d fm w h hlen hBw);clear h
 go_enter Tryz.func197,Tryz.ntmps197
 go_wp2_with (go_at_call 229;refine(ja K).mono ?_)
 rintro e w1 ⟨⟨n,rfl⟩,h1⟩
 have H:=jd h1;clear h1 K;go_wp2;go_end0;exact⟨rfl,H.out⟩
open Go.RowKit
/-- The text of a page on which something stands. -/
theorem jkW (B R:Nat)(l:List UInt8)(d fm:Int)(w:World)(h:Pg B R l d fm w)(h0:l≠[]) :
  Calls Tryz.prog 86 #[.pointer (some ⟨R,0,none⟩)] w fun e w'=>e=.returned (.string ⟨l.toArray⟩)/\Below B w w':=by
 obtain⟨p,hAt⟩:∃p,PgAt B R p l d fm w:=h.elim (fun x=>⟨_,x⟩) (fun x=>⟨_,x⟩);obtain⟨hB,v,hbk,hown,hne⟩:=hAt;have hl0:l.length≠0:=by simpa using h0
 obtain⟨g,cap,cur,fz,rfl,hbg,hg,hfz,hnc,hcm,hcs,htake⟩:∃g cap cur fz,v=.slice (some ⟨g,0,none⟩) l.length cap/\B<=g/\w.heap[g]?=some (.cells cur 5 fz)/\fz.2<=l.length*1/\l.length<=cap/\cap<=maxLen/\cur.size=cap*1/\cur.toList.take (l.length*1)=Lib.byteCells l:=by
  rcases hown.2 with ⟨_,hz⟩ | ⟨g,cap,cur,fz,hv,r⟩
  ·exact absurd hz hl0
  ·exact⟨g,cap,cur,fz,hv,r⟩
 have c1:w.drew.cell? ⟨R,1,none⟩=some (.slice (some ⟨g,0,none⟩) l.length cap):=by
  have:w.drew.heap[R]?=some (.cells #[p,.slice (some ⟨g,0,none⟩) l.length cap,.int .i64 d,.int .i64 fm] 153 (0,0)):=hbk
  rw [Lib.cell_of_heap this];rfl
 have t127:Tryz.prog.underlying 208=some (.pointer 5):=by kernel_rfl
 have mixed:Tryz.prog.follows Departure.mixedOrders=true:=by kernel_rfl
 have hcb:Tryz.prog.cellsOf 5=1:=by kernel_rfl
 have hSD:(Builtin.unsafeSliceData_ #[147] 208 #[.slice (some ⟨g,0,none⟩) l.length cap]).run Tryz.prog w.drew=.ok (.pointer (some ⟨g,0,none⟩)) w.drew :=
  Lib.run_unsafeSliceData_row _ _ _ _ _ _ (by omega)
 have hUS:(Builtin.unsafeString_ #[208,3] 9 #[.pointer (some ⟨g,0,none⟩),.int .i64 l.length]).run Tryz.prog w.drew=.ok (.string ⟨l.toArray⟩) (w.drew.freeze ⟨g,0,none⟩ l.length):=by
  refine Lib.run_unsafeString_row w.drew 208 3 9 5 t127 hcb g cur.size (by have hg':w.drew.heap[g]?=some (.cells cur 5 fz):=hg;simp [World.shape?,hg']) l h0 (by omega) (by unfold maxLen at hcm;omega) ?_
  intro j x hx;have:=hown.cells (g:=g) rfl j (.int .u8 x.toNat) (by simp [Lib.byteCells,hx]);exact this
 have FIN:=jd (Lib.below_freeze (Below.drew (Below.refl B w)) (p:=⟨g,0,none⟩) hbg l.length);clear hown htake hcs hfz hnc hcm hg hbk h
 go_enter Tryz.func86,Tryz.ntmps86
 go_wp2
 go_region_o
 all_goals (go_wp2;go_ret;exact⟨rfl,FIN.out⟩)
open Go.RowKit
theorem Pg.c2 {B R:Nat}{l:List UInt8}{d fm:Int}{w:World}(h:Pg B R l d fm w):w.cell? ⟨R,2,none⟩=some (.int .i64 d):=h.elim (fun x=>(JF x).2.1) (fun x=>(JF x).2.1)
theorem Pg.c3 {B R:Nat}{l:List UInt8}{d fm:Int}{w:World}(h:Pg B R l d fm w):w.cell? ⟨R,3,none⟩=some (.int .i64 fm):=h.elim (fun x=>(JF x).2.2.1) (fun x=>(JF x).2.2.1)
end valus
end Go.Proofs.YtnbfnjhbmeocfaaGreatDoor
