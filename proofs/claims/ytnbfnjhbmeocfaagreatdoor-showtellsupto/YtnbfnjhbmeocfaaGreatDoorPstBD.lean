/- Of our texts, what this claim reaches. -/
import Derived.Test.YtnbfnjhbmeocfaaGreatDoorPstAS
import Derived.Test.YtnbfnjhbmeocfaaGreatDoorPstAQ
import Derived.Test.YtnbfnjhbmeocfaaGreatDoorPstBC
import Derived.Test.YtnbfnjhbmeocfaaGreatDoorPstAE
import Derived.Lib.FrozenHead2
import Derived.Lib.OthersKept
import Derived.Shelf.Strings.BuilderX
import Derived.Test.YtnbfnjhbmeocfaaGreatDoorPstAI
set_option linter.unusedVariables false
set_option maxHeartbeats 4000000
set_option maxRecDepth 100000
namespace Go.Proofs.YtnbfnjhbmeocfaaGreatDoor
namespace valus
open Go.RowKit
open bigs (jv tellB zn Jr)
structure ShowTabs (w:World):Prop where
 utf:Lib.Utf8Tabs 1 2 w
 bru:Lib.TabIs Tryz.prog w "math/bits.deBruijn64tab" .u8 zn
 pow:Lib.TabIs Tryz.prog w "internal/strconv.uint64pow10" .u64 Lib.pow10Tab
theorem ShowTabs.below {w w':World}(h:ShowTabs w)(hb:Below w.heap.size w w'):ShowTabs w':=⟨Utf8Tabs_below h.utf hb,Jr h.bru hb,Jr h.pow hb⟩
theorem ShowTabs.esc {w:World}(h:ShowTabs w):escs.EscTabs w:=⟨h.utf,h.bru⟩
theorem ShowTabs.num {w:World}(h:ShowTabs w):bigs.NumTabs w:=⟨h.pow,h.bru⟩
theorem jeE (w:World)(h:ShowTabs w):∃F:Nat->List UInt8,∀b,b<18446744073709551616->jv b (F b):=by
 have each:∀b:Nat,∃T:List UInt8,b<18446744073709551616->jv b T:=fun b=>by
  by_cases hb:b<18446744073709551616
  ·obtain⟨e,w',fr,⟨⟨R,_,hR⟩,_⟩,_⟩:=bigs.jad w b hb h.pow []
   exact⟨_,fun _=>hR⟩
  ·exact⟨[],fun h=>absurd h hb⟩
 exact⟨fun b=>Classical.choose (each b),fun b=>Classical.choose_spec (each b)⟩
section
variable (w : World) (k n : Int) (b : Nat) (s : ByteArray) (pL pE : Option Addr) (nL cL nE cE : Nat)
theorem jdB (hk:k=1)(hn:n=1) :
  Calls Tryz.prog 198 #[.agg #[.int .i64 k,.int .i64 n,.int .u64 (b:Int),.string s,.slice pL nL cL,.slice pE nE cE]] w fun e w'=>e=.returned (.string ⟨#[116,114,117,101]⟩)/\Below w.heap.size w w':=by
 subst hk hn;have bV:Below w.heap.size w (w.alloc (.cells #[.int .i64 1,.int .i64 1,.int .u64 (b:Int),.string s,.slice pL nL cL,.slice pE nE cE] 26)):=(Below.refl _ w).alloc (Nat.le_refl _) _;have FIN:=jb bV;have hX:=jd w #[.int .i64 1,.int .i64 1,.int .u64 (b:Int),.string s,.slice pL nL cL,.slice pE nE cE] 26;have x0:=hX.cell 0 _ rfl;have x1:=hX.cell 1 _ rfl;clear hX bV
 go_enter Tryz.func198,Tryz.ntmps198
 go_wp2;go_ret;exact⟨rfl,FIN.out⟩
theorem jcD (hk:k=1)(hn:(n == 1)=false)(hn':¬n=1) :
  Calls Tryz.prog 198 #[.agg #[.int .i64 k,.int .i64 n,.int .u64 (b:Int),.string s,.slice pL nL cL,.slice pE nE cE]] w fun e w'=>e=.returned (.string ⟨#[102,97,108,115,101]⟩)/\Below w.heap.size w w':=by
 subst hk;have bV:Below w.heap.size w (w.alloc (.cells #[.int .i64 1,.int .i64 n,.int .u64 (b:Int),.string s,.slice pL nL cL,.slice pE nE cE] 26)):=(Below.refl _ w).alloc (Nat.le_refl _) _;have FIN:=jb bV;have hX:=jd w #[.int .i64 1,.int .i64 n,.int .u64 (b:Int),.string s,.slice pL nL cL,.slice pE nE cE] 26;have x0:=hX.cell 0 _ rfl;have x1:=hX.cell 1 _ rfl;clear hX bV
 go_enter Tryz.func198,Tryz.ntmps198
 go_wp2;go_ret;exact⟨rfl,FIN.out⟩
theorem jfW (hk:k=2)(T:ByteArray)(K:Hid (∀w1,Below w.heap.size w w1->Calls Tryz.prog 230 #[.int .i64 n] w1 fun e w'=>e=.returned (.string T)/\Below w1.heap.size w1 w')) :
  Calls Tryz.prog 198 #[.agg #[.int .i64 k,.int .i64 n,.int .u64 (b:Int),.string s,.slice pL nL cL,.slice pE nE cE]] w fun e w'=>e=.returned (.string T)/\Below w.heap.size w w':=by
 subst hk;have bV:Below w.heap.size w (w.alloc (.cells #[.int .i64 2,.int .i64 n,.int .u64 (b:Int),.string s,.slice pL nL cL,.slice pE nE cE] 26)):=(Below.refl _ w).alloc (Nat.le_refl _) _;have K1:=jb (ja K _ bV);have FIN:=jb bV;have hX:=jd w #[.int .i64 2,.int .i64 n,.int .u64 (b:Int),.string s,.slice pL nL cL,.slice pE nE cE] 26;have x0:=hX.cell 0 _ rfl;have x1:=hX.cell 1 _ rfl;clear hX bV K
 go_enter Tryz.func198,Tryz.ntmps198
 go_wp2_with (go_at_call 230;refine(ja K1).mono ?_;rintro e w1 ⟨rfl,b1⟩)
 go_ret;exact⟨rfl,FIN.out.trans (b1.mono FIN.out.size)⟩
theorem jej (hk:k=3)(T:ByteArray)(K:Hid (∀w1,Below w.heap.size w w1->Calls Tryz.prog 231 #[.int .u64 (b:Int)] w1 fun e w'=>e=.returned (.string T)/\Below w1.heap.size w1 w')) :
  Calls Tryz.prog 198 #[.agg #[.int .i64 k,.int .i64 n,.int .u64 (b:Int),.string s,.slice pL nL cL,.slice pE nE cE]] w fun e w'=>e=.returned (.string T)/\Below w.heap.size w w':=by
 subst hk;have bV:Below w.heap.size w (w.alloc (.cells #[.int .i64 3,.int .i64 n,.int .u64 (b:Int),.string s,.slice pL nL cL,.slice pE nE cE] 26)):=(Below.refl _ w).alloc (Nat.le_refl _) _;have K1:=jb (ja K _ bV);have FIN:=jb bV;have hX:=jd w #[.int .i64 3,.int .i64 n,.int .u64 (b:Int),.string s,.slice pL nL cL,.slice pE nE cE] 26;have x0:=hX.cell 0 _ rfl;have x2:=hX.cell 2 _ rfl;clear hX bV K
 go_enter Tryz.func198,Tryz.ntmps198
 go_wp2_with (go_at_call 231;refine(ja K1).mono ?_;rintro e w1 ⟨rfl,b1⟩)
 go_ret;exact⟨rfl,FIN.out.trans (b1.mono FIN.out.size)⟩
theorem jep (hk:k=4)(T:ByteArray)(er:Int)(K:Hid (∀w1,Below w.heap.size w w1->Calls Tryz.prog 232 #[.string s] w1 fun e w'=>e=.returned (.tuple #[.string T,.int .i64 er])/\Below w1.heap.size w1 w')) :
  Calls Tryz.prog 198 #[.agg #[.int .i64 k,.int .i64 n,.int .u64 (b:Int),.string s,.slice pL nL cL,.slice pE nE cE]] w fun e w'=>e=.returned (.string T)/\Below w.heap.size w w':=by
 subst hk;have bV:Below w.heap.size w (w.alloc (.cells #[.int .i64 4,.int .i64 n,.int .u64 (b:Int),.string s,.slice pL nL cL,.slice pE nE cE] 26)):=(Below.refl _ w).alloc (Nat.le_refl _) _;have K1:=jb (ja K _ bV);have FIN:=jb bV;have hX:=jd w #[.int .i64 4,.int .i64 n,.int .u64 (b:Int),.string s,.slice pL nL cL,.slice pE nE cE] 26;have x0:=hX.cell 0 _ rfl;have x3:=hX.cell 3 _ rfl;clear hX bV K
 go_enter Tryz.func198,Tryz.ntmps198
 go_wp2_with (go_at_call 232;refine(ja K1).mono ?_;rintro e w1 ⟨rfl,b1⟩)
 go_ret;exact⟨rfl,FIN.out.trans (b1.mono FIN.out.size)⟩
theorem jeD (g1:(k == 1)=false)(g2:(k == 2)=false)(g3:(k == 3)=false)(g4:(k == 4)=false) :
  Calls Tryz.prog 198 #[.agg #[.int .i64 k,.int .i64 n,.int .u64 (b:Int),.string s,.slice pL nL cL,.slice pE nE cE]] w fun e w'=>e=.returned (.string ⟨#[110,117,108,108]⟩)/\Below w.heap.size w w':=by
 have e1:¬k=1:=ne_of_beq_false g1;have e2:¬k=2:=ne_of_beq_false g2;have e3:¬k=3:=ne_of_beq_false g3;have e4:¬k=4:=ne_of_beq_false g4;have bV:Below w.heap.size w (w.alloc (.cells #[.int .i64 k,.int .i64 n,.int .u64 (b:Int),.string s,.slice pL nL cL,.slice pE nE cE] 26)):=(Below.refl _ w).alloc (Nat.le_refl _) _;have FIN:=jb bV;have hX:=jd w #[.int .i64 k,.int .i64 n,.int .u64 (b:Int),.string s,.slice pL nL cL,.slice pE nE cE] 26;have x0:=hX.cell 0 _ rfl;clear hX bV
 go_enter Tryz.func198,Tryz.ntmps198
 go_wp2;go_ret;exact⟨rfl,FIN.out⟩
end
theorem jf2 {F:Nat->List UInt8}(hF:∀b,b<18446744073709551616->jv b (F b))(w:World)(k n:Int)(b:Nat)(s:ByteArray)(pL pE:Option Addr)(nL cL nE cE:Nat)(hn : -9223372036854775808<=n/\n<=9223372036854775807)(hb:b<18446744073709551616)(hs:s.size<=1073741824)(hT:ShowTabs w) :
  Calls Tryz.prog 198 #[.agg #[.int .i64 k,.int .i64 n,.int .u64 (b:Int),.string s,.slice pL nL cL,.slice pE nE cE]] w fun e w'=>e=.returned (.string ⟨(z7 F (k,n,b,s.data.toList)).toArray⟩)/\Below w.heap.size w w':=by
 unfold z7;simp only
 by_cases h1:k=1
 ·rw [if_pos h1]
  by_cases h:n=1
  ·rw [if_pos h]
   exact jdB w k n b s pL pE nL cL nE cE h1 h
  ·rw [if_neg h]
   exact jcD w k n b s pL pE nL cL nE cE h1 (beq_false_of_ne h) h
 ·rw [if_neg h1]
  by_cases h2:k=2
  ·rw [if_pos h2]
   exact jfW w k n b s pL pE nL cL nE cE h2 _ (jb fun w1 hw=>bigs.jfj w1 n hn.1 hn.2 (hT.below hw).num)
  ·rw [if_neg h2]
   by_cases h3:k=3
   ·rw [if_pos h3]
    refine jej w k n b s pL pE nL cL nE cE h3 _ (jb fun w1 hw=>(bigs.jad w1 b hb (hT.below hw).pow).mono ?_)
    rintro e w' ⟨⟨R,rfl,hR⟩,hb'⟩
    have e2:=bigs.QV hR (hF b hb);refine⟨?_,hb'⟩;rw [<-e2,escs.QM rfl]
   ·rw [if_neg h3]
    by_cases h4:k=4
    ·rw [if_pos h4]
     exact jep w k n b s pL pE nL cL nE cE h4 _ _ (jb fun w1 hw=>escs.jap w1 s hs (hT.below hw).esc)
    ·rw [if_neg h4]
     exact jeD w k n b s pL pE nL cL nE cE (beq_false_of_ne h1) (beq_false_of_ne h2) (beq_false_of_ne h3) (beq_false_of_ne h4)
open Go.RowKit
def PgAt (B R:Nat)(p:Value)(l:List UInt8)(d fm:Int)(w:World):Prop :=
 B<=R/\∃v,w.heap[R]?=some (.cells #[p,v,.int .i64 d,.int .i64 fm] 153 (0,0))/\w.ownsRowF B 5 1 v l.length (Lib.byteCells l)/\v.ownBlock≠some R
def Pg (B R:Nat)(l:List UInt8)(d fm:Int)(w:World):Prop:=PgAt B R (.pointer none) l d fm w\/PgAt B R (.pointer (some ⟨R,0,none⟩)) l d fm w
def KeptR (R:Nat)(w w':World):Prop:=Lib.OthersKept 5 (some R) w w'
theorem PgAt.lt {B R:Nat}{p:Value}{l:List UInt8}{d fm:Int}{w:World}(h:PgAt B R p l d fm w):R<w.heap.size:=by
 obtain⟨_,v,h,_⟩:=h;exact(Array.getElem?_eq_some_iff.1 h).1
theorem Pg.lt {B R:Nat}{l:List UInt8}{d fm:Int}{w:World}(h:Pg B R l d fm w):R<w.heap.size:=h.elim (·.lt) (·.lt)
theorem Pg.ge {B R:Nat}{l:List UInt8}{d fm:Int}{w:World}(h:Pg B R l d fm w):B<=R:=h.elim (·.1) (·.1)
theorem Pg.below {B R:Nat}{l:List UInt8}{d fm:Int}{w w':World}(h:Pg B R l d fm w)(hb:Below w.heap.size w w'):Pg B R l d fm w':=by
 have at_:∀p,PgAt B R p l d fm w->PgAt B R p l d fm w':=fun p h=>by
  have hlt:=h.lt;obtain⟨hB,v,hv,hown,hne⟩:=h;exact⟨hB,v,(hb.block R hlt).trans hv,hown.kept (row:=none) ⟨hb.os,hb.tape,hb.output,hb.size,fun k hk _=>hb.block k hk⟩ (Classical.em _),hne⟩
 exact h.elim (fun x=>.inl (at_ _ x)) (fun x=>.inr (at_ _ x))
theorem KeptR.below {R:Nat}{w w':World}(hb:Below w.heap.size w w'):KeptR R w w':=fun k o hk _ _=>(hb.block k (Array.getElem?_eq_some_iff.1 hk).1).trans hk
theorem KeptR.trans {R:Nat}{w1 w2 w3:World}(h1:KeptR R w1 w2)(h2:KeptR R w2 w3):KeptR R w1 w3:=Lib.OthersKept.trans h1 h2
theorem KeptR.refl (R:Nat)(w:World):KeptR R w w:=Lib.OthersKept.refl _ _ w
theorem Q4 (w:World)(a:Addr)(u:Value):w.grownBy (w.setCell a u) (some a.block) :=
 ⟨rfl,rfl,rfl,by simp [World.setCell],fun k hk h=>Below.heap_setCell _ _ _ _ (fun e=>h (by rw [e]))⟩
theorem qT {B R:Nat}{p:Value}{l:List UInt8}{d fm:Int}{w:World}(h:PgAt B R p l d fm w):w.cell? ⟨R,0,none⟩=some p/\w.cell? ⟨R,2,none⟩=some (.int .i64 d)/\w.cell? ⟨R,3,none⟩=some (.int .i64 fm)/\w.shape? R=some (153,4)/\∀k,w.frozen? ⟨R,k,none⟩=false:=by
 obtain⟨_,v,h,_⟩:=h;refine⟨by rw [Lib.cell_of_heap h];rfl,by rw [Lib.cell_of_heap h];rfl,by rw [Lib.cell_of_heap h];rfl,?_,fun k=>Lib.frozen_of_heap h k⟩;unfold World.shape?
 rw [h];rfl
theorem jbF (R:Nat)(w:World)(h0:w.cell? ⟨R,0,none⟩=some (.pointer (some ⟨R,0,none⟩))) :
  Calls Tryz.prog 249 #[.pointer (some ⟨R,0,none⟩)] w fun e w'=>e=.returned (.tuple #[])/\w'=w:=by
 obtain⟨j,hj,hjs⟩:=Option.map_eq_some_iff.1 (show(Tryz.prog.info? 149).map (·.size)=some 2 by kernel_rfl);have hj0:j.size≠0:=by rw [hjs];decide
 have t70:Tryz.prog.underlying 146=some (.pointer 149):=by kernel_rfl
 go_enter Tryz.func249,Tryz.ntmps249
 go_wp2;rw [Lib.run_neq_ptr_same w _ t70 hj];go_wp2;go_end0;exact⟨rfl,rfl⟩
theorem Y5 (R:Nat)(w:World)(h0:w.cell? ⟨R,0,none⟩=some (.pointer none))(hsh:w.shape? R=some (153,4))(hfz:w.frozen? ⟨R,0,none⟩=false) :
  Calls Tryz.prog 249 #[.pointer (some ⟨R,0,none⟩)] w fun e w'=>e=.returned (.tuple #[])/\w'=w.setCell ⟨R,0,none⟩ (.pointer (some ⟨R,0,none⟩)):=by
 obtain⟨j,hj,hjs⟩:=Option.map_eq_some_iff.1 (show(Tryz.prog.info? 149).map (·.size)=some 2 by kernel_rfl);have hj0:j.size≠0:=by rw [hjs];decide
 have t70:Tryz.prog.underlying 146=some (.pointer 149):=by kernel_rfl
 have t164:Tryz.prog.underlying 298=some .unsafePointer:=by kernel_rfl
 have hl:liesAt Tryz.prog Tryz.prog.depth 153 (4 / Tryz.prog.cellsOf 153) 0 149 1=true:=by kernel_rfl
 go_enter Tryz.func249,Tryz.ntmps249
 go_wp2;rw [Lib.run_to_unsafe w ⟨R,0,none⟩ t70 t164 hj hj0 hsh (Nat.zero_lt_succ 3)];simp only [Result.andThen];rw [Oper.upon_value];go_wp2;rw [run_callFunc_extern Tryz.func268 (by kernel_rfl) (by kernel_rfl) (by kernel_rfl) (e:=Extern.AbiNoEscape.same) (by kernel_rfl)];rw [Lib.run_noEscape];simp only [Result.andThen];rw [Oper.upon_value];go_wp2;rw [Lib.run_from_unsafe w ⟨R,0,none⟩ t164 t70 hj hsh hl];simp only [Result.andThen];rw [Oper.upon_value];go_wp2;go_end0;exact⟨rfl,rfl⟩
theorem jir (B R:Nat)(l:List UInt8)(d fm:Int)(w:World)(h:Pg B R l d fm w) :
  Calls Tryz.prog 249 #[.pointer (some ⟨R,0,none⟩)] w fun e w'=>e=.returned (.tuple #[])/\PgAt B R (.pointer (some ⟨R,0,none⟩)) l d fm w'/\Below B w w'/\KeptR R w w':=by
 rcases h with h | h
 ·obtain⟨c0,c2,c3,sh,fz⟩:=qT h
  refine(Y5 R w c0 sh (fz 0)).mono ?_
  rintro e w' ⟨rfl,rfl⟩
  have hlt:=h.lt;obtain⟨hB,v,hv,hown,hne⟩:=h;refine⟨rfl,⟨hB,v,?_,?_,hne⟩,(Below.refl B w).setCell (p:=⟨R,0,none⟩) hB _,(Lib.OthersKept.refl _ _ w).setCell ⟨R,0,none⟩ rfl _⟩
  ·exact Blk.set (cs:=#[.pointer none,v,.int .i64 d,.int .i64 fm]) (t:=153) hv 0 (.pointer (some ⟨R,0,none⟩))
  ·exact hown.kept (row:=some R) (Q4 w ⟨R,0,none⟩ _) (.inr hne)
 ·obtain⟨c0,c2,c3,sh,fz⟩:=qT h
  refine(jbF R w c0).mono ?_
  rintro e w' ⟨rfl,rfl⟩
  exact⟨rfl,h,Below.refl B _,KeptR.refl R _⟩
theorem jkB (m:List UInt8):Lib.strCells ⟨m.toArray⟩=Lib.byteCells m:=rfl
/-- WriteString on a page. -/
theorem jhP (B R:Nat)(l m:List UInt8)(d fm:Int)(w:World)(h:Pg B R l d fm w)(hlen:l.length+m.length<=140737488355328)(hBw:B<=w.heap.size) :
  Calls Tryz.prog 229 #[.pointer (some ⟨R,0,none⟩),.string ⟨m.toArray⟩] w fun e w'=>(∃n:Int,e=.returned (.tuple #[.int .i64 n,.nilIface]))/\Pg B R (l++m) d fm w'/\Below B w w'/\KeptR R w w':=by
 obtain⟨i0,hi,hz0,hz1,hz2⟩:=info_parts (show(Tryz.prog.info? 5).map (fun i=>(i.zero,i.size,i.bytes))=some (some (.int .u8 0),1,1) by kernel_rfl);have t37:Tryz.prog.underlying 147=some (.slice 5):=by kernel_rfl
 have t9:Tryz.prog.underlying 9=some .string:=by kernel_rfl
 have K:=jb (jir B R l d fm w h);have hms:(⟨m.toArray⟩:ByteArray).size=m.length:=by simp [ByteArray.size]
 go_enter Tryz.func229,Tryz.ntmps229
 go_wp2_with (go_at_call 249;refine(ja K).mono ?_)
 rintro e w1 ⟨rfl,h1,hb1,hk1⟩
 obtain⟨hB,v,hbk,hown,hne⟩:=h1;have c0:w1.cell? ⟨R,0,none⟩=some (.pointer (some ⟨R,0,none⟩)):=by rw [Lib.cell_of_heap hbk];rfl
 have c1:w1.cell? ⟨R,1,none⟩=some v:=by rw [Lib.cell_of_heap hbk];rfl
 go_wp2_with (at_builtin;refine Lib.wpList_append_own_stringF _ rfl _ _ 147 9 rfl B 5 i0 t37 t9 hi hz0 hz1 hz2 _ _ _ rfl hown ⟨m.toArray⟩ rfl ?c3 ?c4 ?c5 ?_)
 case c3=>unfold maxLen;rw [hms];omega
 case c4=>rw [hms];omega
 case c5=>have:=hb1.size;omega
 intro v' w2 hown' hgrow _;have hlt:R<w1.heap.size:=(Array.getElem?_eq_some_iff.1 hbk).1
 have hb2:w2.heap[R]?=some (.cells #[.pointer (some ⟨R,0,none⟩),v,.int .i64 d,.int .i64 fm] 153 (0,0)):=by
  rw [hgrow.block R hlt (fun e=>hne e.symm)];exact hbk
 have d0:w2.cell? ⟨R,0,none⟩=some (.pointer (some ⟨R,0,none⟩)):=by rw [Lib.cell_of_heap hb2];rfl
 have d1:w2.cell? ⟨R,1,none⟩=some v:=by rw [Lib.cell_of_heap hb2];rfl
 have f1:w2.frozen? ⟨R,1,none⟩=false:=Lib.frozen_of_heap hb2 1
 obtain⟨ao,n',cap,rfl⟩:∃ao n' cap,v'=.slice ao n' cap:=by
  rcases hown'.2 with ⟨hv,_⟩ | ⟨g,cap,cur,fz,hv,_⟩
  ·exact⟨_,_,_,hv⟩
  ·exact⟨_,_,_,hv⟩
 go_wp2;go_ret2;refine⟨⟨_,rfl⟩,.inr ?_,?_,(hk1.grown hgrow (Lib.ownsRowF_kind hown)).setCell ⟨R,1,none⟩ rfl _⟩
 ·have hne2:(Value.slice ao n' cap).ownBlock≠some R:=Lib.ownBlock_neF hown' hb2 (by decide)
  rw [jkB,<-Lib.byteCells_append] at hown';have e2:l.length+(⟨m.toArray⟩:ByteArray).size=(l++m).length:=by rw [hms,List.length_append]
  replace hown':w2.ownsRowF B 5 1 (.slice ao n' cap) (l++m).length (Lib.byteCells (l++m)):=by rw [<-e2];exact hown'
  refine⟨hB,.slice ao n' cap,?_,hown'.kept (row:=some R) (Q4 w2 ⟨R,1,none⟩ _) (.inr hne2),hne2⟩;exact Blk.set (cs:=#[.pointer (some ⟨R,0,none⟩),v,.int .i64 d,.int .i64 fm]) (t:=153) hb2 1 (.slice ao n' cap)
 ·exact(hb1.grown hgrow (by have:=hb1.size;omega) (fun k hk=>(hown.lt k hk).1)).setCell (p:=⟨R,1,none⟩) hB _
theorem qM (B R:Nat)(l m:List UInt8)(d fm:Int)(w:World)(h:Pg B R l d fm w)(hlen:l.length+m.length<=140737488355328)(hBw:B<=w.heap.size) :
  Calls Tryz.prog 197 #[.pointer (some ⟨R,0,none⟩),.string ⟨m.toArray⟩] w fun e w'=>e=.returned (.tuple #[])/\Pg B R (l++m) d fm w'/\Below B w w'/\KeptR R w w':=by
 have K:=jb (jhP B R l m d fm w h hlen hBw);clear h
 go_enter Tryz.func197,Tryz.ntmps197
 go_wp2_with (go_at_call 229;refine(ja K).mono ?_)
 rintro e w1 ⟨⟨n,rfl⟩,h1⟩
 have H:=jb h1;clear h1 K;go_wp2;go_end0;exact⟨rfl,H.out⟩
open Go.RowKit
theorem jfg (d:Nat):Lib.repeatL [32,32] d=inL d:=by
 have h:=Lib.repeatL_replicate 32 2 d;unfold inL;rw [Nat.mul_comm];exact h
theorem jdP (w:World)(d:Nat)(hd:d<=1000000) :
  Calls Tryz.prog 270 #[.string ⟨#[32,32]⟩,.int .i64 (d:Int)] w fun e w'=>e=.returned (.string ⟨(inL d).toArray⟩)/\Below w.heap.size w w':=by
 rw [<-jfg]
 match d,hd with
 | 0,_=>exact(Tryz.strings_Repeat_zero ⟨#[32,32]⟩ w).mono fun e w' ⟨he,hw⟩=>⟨he,hw ▸ Below.refl _ _⟩
 | 1,_=>exact(Tryz.strings_Repeat_one ⟨#[32,32]⟩ w).mono fun e w' ⟨he,hw⟩=>⟨he,hw ▸ Below.refl _ _⟩
 | d+2,hd=>exact Tryz.strings_Repeat_main ⟨#[32,32]⟩ (d+2) w (by omega) (by omega) (by show 2*(d+2)<=_;omega) (by decide)
theorem jjt (B R:Nat)(l:List UInt8)(d fm:Int)(w:World)(h:Pg B R l d fm w)(hlen:l.length+1<=140737488355328)(hBw:B<=w.heap.size) :
  Calls Tryz.prog 147 #[.pointer (some ⟨R,0,none⟩)] w fun e w'=>e=.returned (.tuple #[])/\Pg B R (l++[10]) d fm w'/\Below B w w'/\KeptR R w w':=by
 have K:=jb (qM B R l [10] d fm w h hlen hBw);clear h
 go_enter Tryz.func147,Tryz.ntmps147
 go_wp2_with (go_at_call 197;refine(ja K).mono ?_)
 rintro e w1 ⟨rfl,h1⟩
 have H:=jb h1;clear h1 K;go_wp2;go_end0;exact⟨rfl,H.out⟩
theorem jeF (B R:Nat)(l:List UInt8)(d:Nat)(fm:Int)(w:World)(h:Pg B R l (d:Int) fm w)(hd:d<=1000000)(hlen:l.length+1+(2*d)<=140737488355328)(hBw:B<=w.heap.size) :
  Calls Tryz.prog 252 #[.pointer (some ⟨R,0,none⟩)] w fun e w'=>e=.returned (.tuple #[])/\Pg B R (l++10 :: inL d) (d:Int) fm w'/\Below B w w'/\KeptR R w w':=by
 have K:=jb (jjt B R l d fm w h (by omega) hBw);have HL:=jb hlen;have HD:=jb hd;clear h hlen hd
 go_enter Tryz.func252,Tryz.ntmps252
 go_wp2_with (go_at_call 147;refine(ja K).mono ?_)
 rintro e w1 ⟨rfl,h1,hb1,hk1⟩
 have c2:w1.cell? ⟨R,2,none⟩=some (.int .i64 (d:Int)):=h1.elim (fun x=>(qT x).2.1) (fun x=>(qT x).2.1)
 have KR:=jb (jdP w1 d HD.out);have KW:Hid (∀w2,Below w1.heap.size w1 w2->Calls Tryz.prog 197 #[.pointer (some ⟨R,0,none⟩),.string ⟨(inL d).toArray⟩] w2 fun e w'=>e=.returned (.tuple #[])/\Pg B R ((l++[10])++inL d) (d:Int) fm w'/\Below B w2 w'/\KeptR R w2 w'):=jb (fun w2 hb=>qM B R (l++[10]) (inL d) d fm w2 (h1.below hb) (by have:=HL.out;unfold inL;simp;omega) (by have:=hb.size;have:=hb1.size;omega));have H1:=jb (And.intro hb1 hk1);have HB:=jb hBw;clear h1 hb1 hk1 K hBw
 go_wp2_with (go_at_call 270;refine(ja KR).mono ?_)
 rintro e w2 ⟨rfl,hb2⟩
 have KW2:=jb (ja KW w2 hb2);have H2:=jb hb2;clear hb2 KW KR
 go_wp2_with (go_at_call 197;refine(ja KW2).mono ?_)
 rintro e w3 ⟨rfl,h3,hb3,hk3⟩
 have H3:=jb (And.intro h3 (And.intro hb3 hk3));clear h3 hb3 hk3 KW2;go_wp2;go_end0;obtain⟨h3,hb3,hk3⟩:=H3.out;obtain⟨hb1,hk1⟩:=H1.out;have hb2:=H2.out;have hBw:=HB.out;have s1:=hb1.size;refine⟨rfl,by rw [List.append_assoc] at h3;exact h3,(hb1.trans (hb2.mono (by omega))).trans hb3,(hk1.trans (KeptR.below hb2)).trans hk3⟩
/-- The text of a page on which something stands. -/
theorem jjJ (B R:Nat)(l:List UInt8)(d fm:Int)(w:World)(h:Pg B R l d fm w)(h0:l≠[]) :
  Calls Tryz.prog 86 #[.pointer (some ⟨R,0,none⟩)] w fun e w'=>e=.returned (.string ⟨l.toArray⟩)/\Below B w w':=by
 obtain⟨p,hAt⟩:∃p,PgAt B R p l d fm w:=h.elim (fun x=>⟨_,x⟩) (fun x=>⟨_,x⟩);obtain⟨hB,v,hbk,hown,hne⟩:=hAt;have hl0:l.length≠0:=by simpa using h0
 obtain⟨g,cap,cur,fz,rfl,hbg,hg,hfz,hnc,hcm,hcs,htake⟩:∃g cap cur fz,v=.slice (some ⟨g,0,none⟩) l.length cap/\B<=g/\w.heap[g]?=some (.cells cur 5 fz)/\fz.2<=l.length*1/\l.length<=cap/\cap<=maxLen/\cur.size=cap*1/\cur.toList.take (l.length*1)=Lib.byteCells l:=by
  rcases hown.2 with ⟨_,hz⟩ | ⟨g,cap,cur,fz,hv,r⟩
  ·exact absurd hz hl0
  ·exact⟨g,cap,cur,fz,hv,r⟩
 have c1:w.drew.cell? ⟨R,1,none⟩=some (.slice (some ⟨g,0,none⟩) l.length cap):=by
  have:w.drew.heap[R]?=some (.cells #[p,.slice (some ⟨g,0,none⟩) l.length cap,.int .i64 d,.int .i64 fm] 153 (0,0)):=hbk
  rw [Lib.cell_of_heap this];rfl
 have t127:Tryz.prog.underlying 208=some (.pointer 5):=by kernel_rfl
 have mixed:Tryz.prog.follows Departure.mixedOrders=true:=by kernel_rfl
 have hcb:Tryz.prog.cellsOf 5=1:=by kernel_rfl
 have hSD:(Builtin.unsafeSliceData_ #[147] 208 #[.slice (some ⟨g,0,none⟩) l.length cap]).run Tryz.prog w.drew=.ok (.pointer (some ⟨g,0,none⟩)) w.drew :=
  Lib.run_unsafeSliceData_row _ _ _ _ _ _ (by omega)
 have hUS:(Builtin.unsafeString_ #[208,3] 9 #[.pointer (some ⟨g,0,none⟩),.int .i64 l.length]).run Tryz.prog w.drew=.ok (.string ⟨l.toArray⟩) (w.drew.freeze ⟨g,0,none⟩ l.length):=by
  refine Lib.run_unsafeString_row w.drew 208 3 9 5 t127 hcb g cur.size (by have hg':w.drew.heap[g]?=some (.cells cur 5 fz):=hg;simp [World.shape?,hg']) l h0 (by omega) (by unfold maxLen at hcm;omega) ?_
  intro j x hx;have:=hown.cells (g:=g) rfl j (.int .u8 x.toNat) (by simp [Lib.byteCells,hx]);exact this
 have FIN:=jb (Lib.below_freeze (Below.drew (Below.refl B w)) (p:=⟨g,0,none⟩) hbg l.length);clear hown htake hcs hfz hnc hcm hg hbk h
 go_enter Tryz.func86,Tryz.ntmps86
 go_wp2
 go_region_o
 all_goals (go_wp2;go_ret;exact⟨rfl,FIN.out⟩)
open Go.RowKit
def jb0 (B R fk:Nat)(caps:Array Value)(fm:Int)(d:Nat)(ps:List (List UInt8))(P:World->Prop):Prop :=
 ∀(w:World) (i:Nat) (l:List UInt8) (h:i<ps.length),Pg B R l (d:Int) fm w->P w->B<=w.heap.size->l.length+ps[i].length<=140737488355328->
  Calls Tryz.prog fk (#[.int .i64 (i:Int)]++caps) w fun e w'=>(∃v,e=.returned v)/\Pg B R (l++ps[i]) (d:Int) fm w'/\Below B w w'/\KeptR R w w'
theorem Pg.c2 {B R:Nat}{l:List UInt8}{d fm:Int}{w:World}(h:Pg B R l d fm w):w.cell? ⟨R,2,none⟩=some (.int .i64 d):=h.elim (fun x=>(qT x).2.1) (fun x=>(qT x).2.1)
theorem Pg.c3 {B R:Nat}{l:List UInt8}{d fm:Int}{w:World}(h:Pg B R l d fm w):w.cell? ⟨R,3,none⟩=some (.int .i64 fm):=h.elim (fun x=>(qT x).2.2.1) (fun x=>(qT x).2.2.1)
theorem Pg.fz {B R:Nat}{l:List UInt8}{d fm:Int}{w:World}(h:Pg B R l d fm w)(k:Nat):w.frozen? ⟨R,k,none⟩=false:=h.elim (fun x=>(qT x).2.2.2.2 k) (fun x=>(qT x).2.2.2.2 k)
theorem Pg.setD {B R:Nat}{l:List UInt8}{d fm:Int}{w:World}(h:Pg B R l d fm w)(d':Int):Pg B R l d' fm (w.setCell ⟨R,2,none⟩ (.int .i64 d'))/\Below B w (w.setCell ⟨R,2,none⟩ (.int .i64 d'))/\KeptR R w (w.setCell ⟨R,2,none⟩ (.int .i64 d')):=by
 have at_:∀p,PgAt B R p l d fm w->PgAt B R p l d' fm (w.setCell ⟨R,2,none⟩ (.int .i64 d')):=fun p h=>by
  obtain⟨hB,v,hv,hown,hne⟩:=h;exact⟨hB,v,Blk.set (cs:=#[p,v,.int .i64 d,.int .i64 fm]) (t:=153) hv 2 (.int .i64 d'),hown.kept (row:=some R) (Q4 w ⟨R,2,none⟩ _) (.inr hne),hne⟩
 exact⟨h.elim (fun x=>.inl (at_ _ x)) (fun x=>.inr (at_ _ x)),(Below.refl B w).setCell (p:=⟨R,2,none⟩) h.ge _,(Lib.OthersKept.refl _ _ w).setCell ⟨R,2,none⟩ rfl _⟩
open Go.RowKit
theorem jiN (B R b2 b3:Nat)(fm:Int)(d:Nat)(ps:List (List UInt8))(P:World->Prop)(hP:∀w w',P w->Below B w w'->KeptR R w w'->P w')(hT:jb0 B R 194 #[.pointer (some ⟨b2,0,none⟩),.pointer (some ⟨b3,0,none⟩)] fm d ps P)
  (w:World) (l:List UInt8) (h:Pg B R l (d:Int) fm w) (hw:P w) (hBw:B<=w.heap.size) (hlen:l.length+(jk ps).length<=140737488355328) (hps:ps.length<=9223372036854775807) :
  Calls Tryz.prog 227 #[.pointer (some ⟨R,0,none⟩),.int .i64 (ps.length:Int),.func (.func 194) #[] #[.pointer (some ⟨b2,0,none⟩),.pointer (some ⟨b3,0,none⟩)]] w fun e w'=>(∃v,e=.returned v)/\Pg B R (l++jk ps) (d:Int) fm w'/\Below B w w'/\KeptR R w w':=by
 obtain⟨N,hN⟩:∃N:Nat,N=ps.length:=⟨_,rfl⟩
 rw [<-hN] at hps ⊢;have HN:=jb hN;have HT:=jb hT;have HP:=jb hP;have H0:=jb (And.intro h (And.intro hw (And.intro hBw hlen)));clear h hw hBw hlen hT hP hN
 go_enter Tryz.func227,Tryz.ntmps227
 go_wp2
 go_loopw [8] (fun i wr=>∃k:Nat,k<=N/\i=.int .i64 (k:Int)/\Hid (Pg B R (l++jk (ps.take k)) (d:Int) fm wr/\P wr/\Below B w wr/\KeptR R w wr)) (fun i _=>N - (intOf i).toNat)
 case atStart=>
  obtain⟨h,hw,_,_⟩:=H0.out;exact⟨0,Nat.zero_le _,rfl,jb ⟨by rw [List.take_zero];show Pg B R (l++[]) _ _ _;rw [List.append_nil];exact h,hw,Below.refl _ _,KeptR.refl _ _⟩⟩
 case round=>
  obtain⟨k,hk,rfl,hh⟩:=hrel
  by_cases hlt:k<N
  ·have hkp:k<ps.length:=by rw [<-HN.out];exact hlt
   obtain⟨hg,hp,hb,hkk⟩:=hh.out;obtain⟨_,_,hBw,hlen⟩:=H0.out;have hsz:=hb.size;have etk:ps.take (k+1)=ps.take k++[ps[k]]:=List.take_succ_eq_append_getElem hkp;have hle:=Qx ps (k+1);rw [etk,jU] at hle
   by_cases h0:k=0
   ·subst h0
    rw [List.take_zero,if_pos rfl] at hle;have e1:l++jk (ps.take 0)=l:=by rw [List.take_zero];exact List.append_nil l
    rw [e1] at hg;have KT:=jb (HT.out wr 0 l hkp hg hp (by omega) (by have:(jk ([]:List (List UInt8))).length=0:=rfl;rw [List.length_append] at hle;omega));have HZ:Hid (∀w1,Pg B R (l++ps[0]) (d:Int) fm w1->Below B wr w1->KeptR R wr w1->Pg B R (l++jk (ps.take (0+1))) (d:Int) fm w1/\P w1/\Below B w w1/\KeptR R w w1):=jb fun w1 q1 q2 q3=>⟨by rw [etk,jU,List.take_zero,if_pos rfl];exact q1,HP.out wr w1 hp q2 q3,hb.trans q2,hkk.trans q3⟩
    clear hh hg hp hb hkk hlen hBw hle etk e1 hsz
    go_wp2_with (go_at_call 194;refine(ja KT).mono ?_;rintro e w1 ⟨⟨rv,rfl⟩,g1,b1,k1⟩;have HZ1:=jb (HZ.out w1 g1 b1 k1);clear g1 b1 k1)
    go_roundw
    case rel=>exact⟨0+1,by omega,rfl,HZ1⟩
    case measure=>simp only [intOf];omega
   ·have hpos:(k:Int) > 0:=by omega
    have hne:ps.take k≠[]:=fun e=>by
     have:=congrArg List.length e;rw [List.length_take,List.length_nil] at this;omega
    rw [if_neg hne] at hle;simp only [List.length_append,List.length_cons] at hle;have KW:=jb (qM B R (l++jk (ps.take k)) [44,32] d fm wr hg (by simp only [List.length_append,List.length_cons,List.length_nil];omega) (by omega));have KT:Hid (∀w1,Pg B R ((l++jk (ps.take k))++[44,32]) (d:Int) fm w1->Below B wr w1->KeptR R wr w1->Calls Tryz.prog 194 #[.int .i64 (k:Int),.pointer (some ⟨b2,0,none⟩),.pointer (some ⟨b3,0,none⟩)] w1 fun e w'=>(∃v,e=.returned v)/\Pg B R (((l++jk (ps.take k))++[44,32])++ps[k]) (d:Int) fm w'/\Below B w1 w'/\KeptR R w1 w'):=jb fun w1 q1 q2 q3=>HT.out w1 k _ hkp q1 (HP.out wr w1 hp q2 q3) (by have:=q2.size;omega) (by simp only [List.length_append,List.length_cons,List.length_nil];omega)
    have HZ:Hid (∀w1,Pg B R (((l++jk (ps.take k))++[44,32])++ps[k]) (d:Int) fm w1->Below B wr w1->KeptR R wr w1->Pg B R (l++jk (ps.take (k+1))) (d:Int) fm w1/\P w1/\Below B w w1/\KeptR R w w1):=jb fun w1 q1 q2 q3=>⟨by
     have e:l++(jk (ps.take k)++44 :: 32 :: ps[k])=((l++jk (ps.take k))++[44,32])++ps[k]:=by simp
     rw [etk,jU,if_neg hne,e];exact q1,HP.out wr w1 hp q2 q3,hb.trans q2,hkk.trans q3⟩
    clear hh hg hp hb hkk hlen hBw hle etk hne hsz
    go_wp2_with (first
     | (go_at_call 197;refine(ja KW).mono ?_;rintro e w1 ⟨rfl,g1,b1,k1⟩;have KT1:=jb (KT.out w1 g1 b1 k1);have HB1:=jb (And.intro b1 k1);clear g1 b1 k1)
     | (go_at_call 194;refine(ja KT1).mono ?_;rintro e w2 ⟨⟨rv,rfl⟩,g2,b2',k2⟩;have HZ1:=jb (HZ.out w2 g2 (HB1.out.1.trans b2') (HB1.out.2.trans k2));clear g2 b2' k2))
    go_roundw
    case rel=>exact⟨k+1,by omega,rfl,HZ1⟩
    case measure=>simp only [intOf];omega
  ·have hkN:k=N:=by omega
   have HE:Hid (Pg B R (l++jk ps) (d:Int) fm wr/\Below B w wr/\KeptR R w wr):=jb (by
    obtain⟨hg,_,hb,hkk⟩:=hh.out;rw [hkN,HN.out,List.take_length] at hg;exact⟨hg,hb,hkk⟩)
   have hge:¬(k:Int)<(N:Int):=by omega
   clear hh hkN;go_wp2;go_end0;exact⟨⟨_,rfl⟩,HE.out⟩
theorem jho (B R b2 b3:Nat)(fm:Int)(d:Nat)(hd:d<=100000)(ps:List (List UInt8))(P:World->Prop)(hP:∀w w',P w->Below B w w'->KeptR R w w'->P w')(hT:jb0 B R 194 #[.pointer (some ⟨b2,0,none⟩),.pointer (some ⟨b3,0,none⟩)] fm (d+1) ps P)
  (w:World) (l:List UInt8) (h:Pg B R l (d:Int) fm w) (hw:P w) (hBw:B<=w.heap.size) (hlen:l.length+(jq true d ps).length<=140737488355328) (hps:ps.length<=9223372036854775807) :
  Calls Tryz.prog 226 #[.pointer (some ⟨R,0,none⟩),.int .i64 (ps.length:Int),.func (.func 194) #[] #[.pointer (some ⟨b2,0,none⟩),.pointer (some ⟨b3,0,none⟩)]] w fun e w'=>(∃v,e=.returned v)/\Pg B R (l++jq true d ps) (d:Int) fm w'/\Below B w w'/\KeptR R w w':=by
 obtain⟨N,hN⟩:∃N:Nat,N=ps.length:=⟨_,rfl⟩
 rw [<-hN] at hps ⊢
 by_cases hz:N=0
 ·have hp0:ps=[]:=List.eq_nil_of_length_eq_zero (by omega)
  subst hp0;subst hz;have FIN:=jb h;clear h hw hBw hlen hT hP hN
  go_enter Tryz.func226,Tryz.ntmps226
  go_wp2;refine bodyPost_ret (results_none rfl _ _ _) rfl ?_
  exact⟨⟨_,rfl⟩,by show Pg B R (l++[]) _ _ _;rw [List.append_nil];exact FIN.out,Below.refl _ _,KeptR.refl _ _⟩
 ·have hne0:ps≠[]:=fun e=>hz (by rw [hN,e];rfl)
  have eb:jq true d ps=jr d ps++10 :: inL d:=by unfold jq;rw [if_pos rfl,if_neg hne0]
  rw [eb] at hlen ⊢;simp only [List.length_append,List.length_cons,qj] at hlen;have nz:((N:Int) == 0)=false:=beq_false_of_ne (by omega);have nz':¬(N:Int)=0:=by omega
  have c2:=h.c2;have f2:=h.fz 2;obtain⟨h1,hb1,hk1⟩:=h.setD (((d+1:Nat)):Int);obtain⟨D,hD⟩:∃D:Int,D=(d:Int):=⟨_,rfl⟩
  have eD:(((d+1:Nat)):Int)=D+1:=by rw [hD];omega
  rw [eD] at h1 hb1 hk1;rw [<-hD] at c2;have hD1:0<=D:=by omega
  have hD2:D<=100000:=by omega
  have HN:=jb hN;have HT:=jb hT;have HP:=jb hP;have H0:=jb (And.intro hBw (And.intro hlen (And.intro hd hD)));have H1:=jb (And.intro h1 (And.intro (hP _ _ hw hb1 hk1) (And.intro hb1 hk1)));clear h hw hBw hlen hT hP hN h1 hb1 hk1 eD hd hD hz hne0 eb
  go_enter Tryz.func226,Tryz.ntmps226
  go_wp2;generalize w.setCell ⟨R,2,none⟩ (.int .i64 (D+1))=W1 at *
  go_loopw [19] (fun i wr=>∃k:Nat,k<=N/\i=.int .i64 (k:Int)/\Hid (Pg B R (l++jr d (ps.take k)) (D+1) fm wr/\P wr/\Below B w wr/\KeptR R w wr)) (fun i _=>N - (intOf i).toNat)
  case atStart=>
   obtain⟨h,hw,q1,q2⟩:=H1.out;exact⟨0,Nat.zero_le _,rfl,jb ⟨by rw [List.take_zero];show Pg B R (l++[]) _ _ _;rw [List.append_nil];exact h,hw,q1,q2⟩⟩
  case round=>
   obtain⟨k,hk,rfl,hh⟩:=hrel
   by_cases hlt:k<N
   ·have hkp:k<ps.length:=by rw [<-HN.out];exact hlt
    obtain⟨hg,hp,hb,hkk⟩:=hh.out;obtain⟨hBw,hlen,hd,hD⟩:=H0.out;have hsz:=hb.size;have etk:ps.take (k+1)=ps.take k++[ps[k]]:=List.take_succ_eq_append_getElem hkp;have hle:=Qm d ps (k+1);rw [etk,qH,List.length_append,JF] at hle;have eD:D+1=((d+1:Nat):Int):=by rw [hD];omega
    rw [eD] at hg;have KN:=jb (jeF B R (l++jr d (ps.take k)) (d+1) fm wr hg (by omega) (by simp only [List.length_append];omega) (by omega));have KT:Hid (∀w1,Pg B R ((l++jr d (ps.take k))++10 :: inL (d+1)) ((d+1:Nat):Int) fm w1->Below B wr w1->KeptR R wr w1->Calls Tryz.prog 194 #[.int .i64 (k:Int),.pointer (some ⟨b2,0,none⟩),.pointer (some ⟨b3,0,none⟩)] w1 fun e w'=>(∃v,e=.returned v)/\Pg B R (((l++jr d (ps.take k))++10 :: inL (d+1))++ps[k]) ((d+1:Nat):Int) fm w'/\Below B w1 w'/\KeptR R w1 w'):=jb fun w1 q1 q2 q3=>HT.out w1 k _ hkp q1 (HP.out wr w1 hp q2 q3) (by have:=q2.size;omega) (by simp only [List.length_append,List.length_cons,qj];omega)
    have KW:Hid (∀w1,Pg B R (((l++jr d (ps.take k))++10 :: inL (d+1))++ps[k]) ((d+1:Nat):Int) fm w1->Below B wr w1->Calls Tryz.prog 197 #[.pointer (some ⟨R,0,none⟩),.string ⟨#[44]⟩] w1 fun e w'=>e=.returned (.tuple #[])/\Pg B R ((((l++jr d (ps.take k))++10 :: inL (d+1))++ps[k])++[44]) ((d+1:Nat):Int) fm w'/\Below B w1 w'/\KeptR R w1 w'):=jb fun w1 q1 q2=>qM B R _ [44] _ fm w1 q1 (by simp only [List.length_append,List.length_cons,List.length_nil,qj];omega) (by have:=q2.size;omega)
    have HZ:Hid (∀w1,Pg B R ((((l++jr d (ps.take k))++10 :: inL (d+1))++ps[k])++[44]) ((d+1:Nat):Int) fm w1->Below B wr w1->KeptR R wr w1->Pg B R (l++jr d (ps.take (k+1))) (D+1) fm w1/\P w1/\Below B w w1/\KeptR R w w1):=jb fun w1 q1 q2 q3=>⟨by
     have e:l++(jr d (ps.take k)++Qd d ps[k])=(((l++jr d (ps.take k))++10 :: inL (d+1))++ps[k])++[44]:=by unfold Qd;simp
     rw [etk,qH,eD,e];exact q1,HP.out wr w1 hp q2 q3,hb.trans q2,hkk.trans q3⟩
    clear hh hg hp hb hkk hlen hBw hle etk hsz hd hD eD
    go_wp2_with (first
     | (go_at_call 252;refine(ja KN).mono ?_;rintro e w1 ⟨rfl,g1,b1,k1⟩;have KT1:=jb (KT.out w1 g1 b1 k1);have HB1:=jb (And.intro b1 k1);clear g1 b1 k1)
     | (go_at_call 194;refine(ja KT1).mono ?_;rintro e w2 ⟨⟨rv,rfl⟩,g2,b2',k2⟩;have KW1:=jb (KW.out w2 g2 (HB1.out.1.trans b2'));have HB2:=jb (And.intro (HB1.out.1.trans b2') (HB1.out.2.trans k2));clear g2 b2' k2)
     | (go_at_call 197;refine(ja KW1).mono ?_;rintro e w3 ⟨rfl,g3,b3',k3⟩;have HZ1:=jb (HZ.out w3 g3 (HB2.out.1.trans b3') (HB2.out.2.trans k3));clear g3 b3' k3))
    go_roundw
    case rel=>exact⟨k+1,by omega,rfl,HZ1⟩
    case measure=>simp only [intOf];omega
   ·have hkN:k=N:=by omega
    obtain⟨hg,_,hb,hkk⟩:=hh.out;obtain⟨hBw,hlen,hd,hD⟩:=H0.out;rw [hkN,HN.out,List.take_length] at hg;have c2:=hg.c2;have f2:=hg.fz 2;have hsz:=hb.size;obtain⟨h1,hb1,hk1⟩:=hg.setD D;have hsz1:=hb1.size
    have KN:Hid (Calls Tryz.prog 252 #[.pointer (some ⟨R,0,none⟩)] (wr.setCell ⟨R,2,none⟩ (.int .i64 D)) fun e w'=>e=.returned (.tuple #[])/\Pg B R ((l++jr d ps)++10 :: inL d) (d:Int) fm w'/\Below B (wr.setCell ⟨R,2,none⟩ (.int .i64 D)) w'/\KeptR R (wr.setCell ⟨R,2,none⟩ (.int .i64 D)) w'):=jb (by
     rw [hD] at h1 ⊢;exact jeF B R (l++jr d ps) d fm _ h1 (by omega) (by simp only [List.length_append];omega) (by rw [hD] at hsz1;omega))
    have HE:Hid (Below B w (wr.setCell ⟨R,2,none⟩ (.int .i64 D))/\KeptR R w (wr.setCell ⟨R,2,none⟩ (.int .i64 D))):=jb ⟨hb.trans hb1,hkk.trans hk1⟩;have hge:¬(k:Int)<(N:Int):=by omega
    clear hh hkN hg hb hkk h1 hb1 hk1 hlen hBw hd hD hsz hsz1
    go_wp2_with (go_at_call 252;refine(ja KN).mono ?_;rintro e w2 ⟨rfl,g2,b2',k2⟩)
    go_end0;refine⟨⟨_,rfl⟩,?_,HE.out.1.trans b2',HE.out.2.trans k2⟩;rw [<-List.append_assoc];exact g2
open Go.RowKit
theorem jij (B R b2 b3:Nat)(fm:Int)(d:Nat)(ps:List (List UInt8))(P:World->Prop)(hP:∀w w',P w->Below B w w'->KeptR R w w'->P w')(hT:jb0 B R 195 #[.pointer (some ⟨b2,0,none⟩),.pointer (some ⟨b3,0,none⟩)] fm d ps P)
  (w:World) (l:List UInt8) (h:Pg B R l (d:Int) fm w) (hw:P w) (hBw:B<=w.heap.size) (hlen:l.length+(jk ps).length<=140737488355328) (hps:ps.length<=9223372036854775807) :
  Calls Tryz.prog 227 #[.pointer (some ⟨R,0,none⟩),.int .i64 (ps.length:Int),.func (.func 195) #[] #[.pointer (some ⟨b2,0,none⟩),.pointer (some ⟨b3,0,none⟩)]] w fun e w'=>(∃v,e=.returned v)/\Pg B R (l++jk ps) (d:Int) fm w'/\Below B w w'/\KeptR R w w':=by
 obtain⟨N,hN⟩:∃N:Nat,N=ps.length:=⟨_,rfl⟩
 rw [<-hN] at hps ⊢;have HN:=jb hN;have HT:=jb hT;have HP:=jb hP;have H0:=jb (And.intro h (And.intro hw (And.intro hBw hlen)));clear h hw hBw hlen hT hP hN
 go_enter Tryz.func227,Tryz.ntmps227
 go_wp2
 go_loopw [8] (fun i wr=>∃k:Nat,k<=N/\i=.int .i64 (k:Int)/\Hid (Pg B R (l++jk (ps.take k)) (d:Int) fm wr/\P wr/\Below B w wr/\KeptR R w wr)) (fun i _=>N - (intOf i).toNat)
 case atStart=>
  obtain⟨h,hw,_,_⟩:=H0.out;exact⟨0,Nat.zero_le _,rfl,jb ⟨by rw [List.take_zero];show Pg B R (l++[]) _ _ _;rw [List.append_nil];exact h,hw,Below.refl _ _,KeptR.refl _ _⟩⟩
 case round=>
  obtain⟨k,hk,rfl,hh⟩:=hrel
  by_cases hlt:k<N
  ·have hkp:k<ps.length:=by rw [<-HN.out];exact hlt
   obtain⟨hg,hp,hb,hkk⟩:=hh.out;obtain⟨_,_,hBw,hlen⟩:=H0.out;have hsz:=hb.size;have etk:ps.take (k+1)=ps.take k++[ps[k]]:=List.take_succ_eq_append_getElem hkp;have hle:=Qx ps (k+1);rw [etk,jU] at hle
   by_cases h0:k=0
   ·subst h0
    rw [List.take_zero,if_pos rfl] at hle;have e1:l++jk (ps.take 0)=l:=by rw [List.take_zero];exact List.append_nil l
    rw [e1] at hg;have KT:=jb (HT.out wr 0 l hkp hg hp (by omega) (by have:(jk ([]:List (List UInt8))).length=0:=rfl;rw [List.length_append] at hle;omega));have HZ:Hid (∀w1,Pg B R (l++ps[0]) (d:Int) fm w1->Below B wr w1->KeptR R wr w1->Pg B R (l++jk (ps.take (0+1))) (d:Int) fm w1/\P w1/\Below B w w1/\KeptR R w w1):=jb fun w1 q1 q2 q3=>⟨by rw [etk,jU,List.take_zero,if_pos rfl];exact q1,HP.out wr w1 hp q2 q3,hb.trans q2,hkk.trans q3⟩
    clear hh hg hp hb hkk hlen hBw hle etk e1 hsz
    go_wp2_with (go_at_call 195;refine(ja KT).mono ?_;rintro e w1 ⟨⟨rv,rfl⟩,g1,b1,k1⟩;have HZ1:=jb (HZ.out w1 g1 b1 k1);clear g1 b1 k1)
    go_roundw
    case rel=>exact⟨0+1,by omega,rfl,HZ1⟩
    case measure=>simp only [intOf];omega
   ·have hpos:(k:Int) > 0:=by omega
    have hne:ps.take k≠[]:=fun e=>by
     have:=congrArg List.length e;rw [List.length_take,List.length_nil] at this;omega
    rw [if_neg hne] at hle;simp only [List.length_append,List.length_cons] at hle;have KW:=jb (qM B R (l++jk (ps.take k)) [44,32] d fm wr hg (by simp only [List.length_append,List.length_cons,List.length_nil];omega) (by omega));have KT:Hid (∀w1,Pg B R ((l++jk (ps.take k))++[44,32]) (d:Int) fm w1->Below B wr w1->KeptR R wr w1->Calls Tryz.prog 195 #[.int .i64 (k:Int),.pointer (some ⟨b2,0,none⟩),.pointer (some ⟨b3,0,none⟩)] w1 fun e w'=>(∃v,e=.returned v)/\Pg B R (((l++jk (ps.take k))++[44,32])++ps[k]) (d:Int) fm w'/\Below B w1 w'/\KeptR R w1 w'):=jb fun w1 q1 q2 q3=>HT.out w1 k _ hkp q1 (HP.out wr w1 hp q2 q3) (by have:=q2.size;omega) (by simp only [List.length_append,List.length_cons,List.length_nil];omega)
    have HZ:Hid (∀w1,Pg B R (((l++jk (ps.take k))++[44,32])++ps[k]) (d:Int) fm w1->Below B wr w1->KeptR R wr w1->Pg B R (l++jk (ps.take (k+1))) (d:Int) fm w1/\P w1/\Below B w w1/\KeptR R w w1):=jb fun w1 q1 q2 q3=>⟨by
     have e:l++(jk (ps.take k)++44 :: 32 :: ps[k])=((l++jk (ps.take k))++[44,32])++ps[k]:=by simp
     rw [etk,jU,if_neg hne,e];exact q1,HP.out wr w1 hp q2 q3,hb.trans q2,hkk.trans q3⟩
    clear hh hg hp hb hkk hlen hBw hle etk hne hsz
    go_wp2_with (first
     | (go_at_call 197;refine(ja KW).mono ?_;rintro e w1 ⟨rfl,g1,b1,k1⟩;have KT1:=jb (KT.out w1 g1 b1 k1);have HB1:=jb (And.intro b1 k1);clear g1 b1 k1)
     | (go_at_call 195;refine(ja KT1).mono ?_;rintro e w2 ⟨⟨rv,rfl⟩,g2,b2',k2⟩;have HZ1:=jb (HZ.out w2 g2 (HB1.out.1.trans b2') (HB1.out.2.trans k2));clear g2 b2' k2))
    go_roundw
    case rel=>exact⟨k+1,by omega,rfl,HZ1⟩
    case measure=>simp only [intOf];omega
  ·have hkN:k=N:=by omega
   have HE:Hid (Pg B R (l++jk ps) (d:Int) fm wr/\Below B w wr/\KeptR R w wr):=jb (by
    obtain⟨hg,_,hb,hkk⟩:=hh.out;rw [hkN,HN.out,List.take_length] at hg;exact⟨hg,hb,hkk⟩)
   have hge:¬(k:Int)<(N:Int):=by omega
   clear hh hkN;go_wp2;go_end0;exact⟨⟨_,rfl⟩,HE.out⟩
theorem jhx (B R b2 b3:Nat)(fm:Int)(d:Nat)(hd:d<=100000)(ps:List (List UInt8))(P:World->Prop)(hP:∀w w',P w->Below B w w'->KeptR R w w'->P w')(hT:jb0 B R 195 #[.pointer (some ⟨b2,0,none⟩),.pointer (some ⟨b3,0,none⟩)] fm (d+1) ps P)
  (w:World) (l:List UInt8) (h:Pg B R l (d:Int) fm w) (hw:P w) (hBw:B<=w.heap.size) (hlen:l.length+(jq true d ps).length<=140737488355328) (hps:ps.length<=9223372036854775807) :
  Calls Tryz.prog 226 #[.pointer (some ⟨R,0,none⟩),.int .i64 (ps.length:Int),.func (.func 195) #[] #[.pointer (some ⟨b2,0,none⟩),.pointer (some ⟨b3,0,none⟩)]] w fun e w'=>(∃v,e=.returned v)/\Pg B R (l++jq true d ps) (d:Int) fm w'/\Below B w w'/\KeptR R w w':=by
 obtain⟨N,hN⟩:∃N:Nat,N=ps.length:=⟨_,rfl⟩
 rw [<-hN] at hps ⊢
 by_cases hz:N=0
 ·have hp0:ps=[]:=List.eq_nil_of_length_eq_zero (by omega)
  subst hp0;subst hz;have FIN:=jb h;clear h hw hBw hlen hT hP hN
  go_enter Tryz.func226,Tryz.ntmps226
  go_wp2;refine bodyPost_ret (results_none rfl _ _ _) rfl ?_
  exact⟨⟨_,rfl⟩,by show Pg B R (l++[]) _ _ _;rw [List.append_nil];exact FIN.out,Below.refl _ _,KeptR.refl _ _⟩
 ·have hne0:ps≠[]:=fun e=>hz (by rw [hN,e];rfl)
  have eb:jq true d ps=jr d ps++10 :: inL d:=by unfold jq;rw [if_pos rfl,if_neg hne0]
  rw [eb] at hlen ⊢;simp only [List.length_append,List.length_cons,qj] at hlen;have nz:((N:Int) == 0)=false:=beq_false_of_ne (by omega);have nz':¬(N:Int)=0:=by omega
  have c2:=h.c2;have f2:=h.fz 2;obtain⟨h1,hb1,hk1⟩:=h.setD (((d+1:Nat)):Int);obtain⟨D,hD⟩:∃D:Int,D=(d:Int):=⟨_,rfl⟩
  have eD:(((d+1:Nat)):Int)=D+1:=by rw [hD];omega
  rw [eD] at h1 hb1 hk1;rw [<-hD] at c2;have hD1:0<=D:=by omega
  have hD2:D<=100000:=by omega
  have HN:=jb hN;have HT:=jb hT;have HP:=jb hP;have H0:=jb (And.intro hBw (And.intro hlen (And.intro hd hD)));have H1:=jb (And.intro h1 (And.intro (hP _ _ hw hb1 hk1) (And.intro hb1 hk1)));clear h hw hBw hlen hT hP hN h1 hb1 hk1 eD hd hD hz hne0 eb
  go_enter Tryz.func226,Tryz.ntmps226
  go_wp2;generalize w.setCell ⟨R,2,none⟩ (.int .i64 (D+1))=W1 at *
  go_loopw [19] (fun i wr=>∃k:Nat,k<=N/\i=.int .i64 (k:Int)/\Hid (Pg B R (l++jr d (ps.take k)) (D+1) fm wr/\P wr/\Below B w wr/\KeptR R w wr)) (fun i _=>N - (intOf i).toNat)
  case atStart=>
   obtain⟨h,hw,q1,q2⟩:=H1.out;exact⟨0,Nat.zero_le _,rfl,jb ⟨by rw [List.take_zero];show Pg B R (l++[]) _ _ _;rw [List.append_nil];exact h,hw,q1,q2⟩⟩
  case round=>
   obtain⟨k,hk,rfl,hh⟩:=hrel
   by_cases hlt:k<N
   ·have hkp:k<ps.length:=by rw [<-HN.out];exact hlt
    obtain⟨hg,hp,hb,hkk⟩:=hh.out;obtain⟨hBw,hlen,hd,hD⟩:=H0.out;have hsz:=hb.size;have etk:ps.take (k+1)=ps.take k++[ps[k]]:=List.take_succ_eq_append_getElem hkp;have hle:=Qm d ps (k+1);rw [etk,qH,List.length_append,JF] at hle;have eD:D+1=((d+1:Nat):Int):=by rw [hD];omega
    rw [eD] at hg;have KN:=jb (jeF B R (l++jr d (ps.take k)) (d+1) fm wr hg (by omega) (by simp only [List.length_append];omega) (by omega));have KT:Hid (∀w1,Pg B R ((l++jr d (ps.take k))++10 :: inL (d+1)) ((d+1:Nat):Int) fm w1->Below B wr w1->KeptR R wr w1->Calls Tryz.prog 195 #[.int .i64 (k:Int),.pointer (some ⟨b2,0,none⟩),.pointer (some ⟨b3,0,none⟩)] w1 fun e w'=>(∃v,e=.returned v)/\Pg B R (((l++jr d (ps.take k))++10 :: inL (d+1))++ps[k]) ((d+1:Nat):Int) fm w'/\Below B w1 w'/\KeptR R w1 w'):=jb fun w1 q1 q2 q3=>HT.out w1 k _ hkp q1 (HP.out wr w1 hp q2 q3) (by have:=q2.size;omega) (by simp only [List.length_append,List.length_cons,qj];omega)
    have KW:Hid (∀w1,Pg B R (((l++jr d (ps.take k))++10 :: inL (d+1))++ps[k]) ((d+1:Nat):Int) fm w1->Below B wr w1->Calls Tryz.prog 197 #[.pointer (some ⟨R,0,none⟩),.string ⟨#[44]⟩] w1 fun e w'=>e=.returned (.tuple #[])/\Pg B R ((((l++jr d (ps.take k))++10 :: inL (d+1))++ps[k])++[44]) ((d+1:Nat):Int) fm w'/\Below B w1 w'/\KeptR R w1 w'):=jb fun w1 q1 q2=>qM B R _ [44] _ fm w1 q1 (by simp only [List.length_append,List.length_cons,List.length_nil,qj];omega) (by have:=q2.size;omega)
    have HZ:Hid (∀w1,Pg B R ((((l++jr d (ps.take k))++10 :: inL (d+1))++ps[k])++[44]) ((d+1:Nat):Int) fm w1->Below B wr w1->KeptR R wr w1->Pg B R (l++jr d (ps.take (k+1))) (D+1) fm w1/\P w1/\Below B w w1/\KeptR R w w1):=jb fun w1 q1 q2 q3=>⟨by
     have e:l++(jr d (ps.take k)++Qd d ps[k])=(((l++jr d (ps.take k))++10 :: inL (d+1))++ps[k])++[44]:=by unfold Qd;simp
     rw [etk,qH,eD,e];exact q1,HP.out wr w1 hp q2 q3,hb.trans q2,hkk.trans q3⟩
    clear hh hg hp hb hkk hlen hBw hle etk hsz hd hD eD
    go_wp2_with (first
     | (go_at_call 252;refine(ja KN).mono ?_;rintro e w1 ⟨rfl,g1,b1,k1⟩;have KT1:=jb (KT.out w1 g1 b1 k1);have HB1:=jb (And.intro b1 k1);clear g1 b1 k1)
     | (go_at_call 195;refine(ja KT1).mono ?_;rintro e w2 ⟨⟨rv,rfl⟩,g2,b2',k2⟩;have KW1:=jb (KW.out w2 g2 (HB1.out.1.trans b2'));have HB2:=jb (And.intro (HB1.out.1.trans b2') (HB1.out.2.trans k2));clear g2 b2' k2)
     | (go_at_call 197;refine(ja KW1).mono ?_;rintro e w3 ⟨rfl,g3,b3',k3⟩;have HZ1:=jb (HZ.out w3 g3 (HB2.out.1.trans b3') (HB2.out.2.trans k3));clear g3 b3' k3))
    go_roundw
    case rel=>exact⟨k+1,by omega,rfl,HZ1⟩
    case measure=>simp only [intOf];omega
   ·have hkN:k=N:=by omega
    obtain⟨hg,_,hb,hkk⟩:=hh.out;obtain⟨hBw,hlen,hd,hD⟩:=H0.out;rw [hkN,HN.out,List.take_length] at hg;have c2:=hg.c2;have f2:=hg.fz 2;have hsz:=hb.size;obtain⟨h1,hb1,hk1⟩:=hg.setD D;have hsz1:=hb1.size
    have KN:Hid (Calls Tryz.prog 252 #[.pointer (some ⟨R,0,none⟩)] (wr.setCell ⟨R,2,none⟩ (.int .i64 D)) fun e w'=>e=.returned (.tuple #[])/\Pg B R ((l++jr d ps)++10 :: inL d) (d:Int) fm w'/\Below B (wr.setCell ⟨R,2,none⟩ (.int .i64 D)) w'/\KeptR R (wr.setCell ⟨R,2,none⟩ (.int .i64 D)) w'):=jb (by
     rw [hD] at h1 ⊢;exact jeF B R (l++jr d ps) d fm _ h1 (by omega) (by simp only [List.length_append];omega) (by rw [hD] at hsz1;omega))
    have HE:Hid (Below B w (wr.setCell ⟨R,2,none⟩ (.int .i64 D))/\KeptR R w (wr.setCell ⟨R,2,none⟩ (.int .i64 D))):=jb ⟨hb.trans hb1,hkk.trans hk1⟩;have hge:¬(k:Int)<(N:Int):=by omega
    clear hh hkN hg hb hkk h1 hb1 hk1 hlen hBw hd hD hsz hsz1
    go_wp2_with (go_at_call 252;refine(ja KN).mono ?_;rintro e w2 ⟨rfl,g2,b2',k2⟩)
    go_end0;refine⟨⟨_,rfl⟩,?_,HE.out.1.trans b2',HE.out.2.trans k2⟩;rw [<-List.append_assoc];exact g2
end valus
end Go.Proofs.YtnbfnjhbmeocfaaGreatDoor
