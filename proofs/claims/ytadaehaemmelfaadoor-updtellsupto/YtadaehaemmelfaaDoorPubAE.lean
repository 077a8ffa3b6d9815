/- Of our texts, what this claim reaches. -/
import Derived.Test.YtadaehaemmelfaaDoorProg
import Derived.Test.YtadaehaemmelfaaDoorPubAC
import Derived.WalkKit
import Derived.WalkSmall
import Derived.OwnWalk
import Derived.BigCall
import Derived.Maps.AppendAt
import Derived.Deep.AppendLies
import Derived.Laws.OwnMore
import Derived.Below
import Derived.Deep.QuietTactic
import Derived.BigQuiet
import Derived.BigRegion
import Derived.Deep.CutRange
import Derived.Deep.RegionWith
import Derived.KernelRfl
set_option linter.unusedVariables false
set_option maxHeartbeats 4000000
set_option maxRecDepth 100000
namespace Go.Proofs.YtadaehaemmelfaaDoor
namespace valus
open Go.RowKit
theorem ja {p:Prop}(h:p):Hid p:=h
theorem jc {p:Prop}(h:Hid p):p:=h
theorem jn (s:ByteArray):s.data.toList.length=s.size:=by rw [Array.length_toList];rfl
theorem jaK (s:ByteArray)(a b:Nat):(s.extract a b).data.toList=(s.data.toList.take b).drop a:=by
 rw [ByteArray.data_extract,Array.toList_extract,List.extract_eq_take_drop,List.drop_take]
theorem JM (s:ByteArray)(k:Nat):(s.extract k s.size).data.toList=s.data.toList.drop k:=by
 rw [jaK,<-jn s,List.take_length]
def Blk (w:World)(b:Nat)(cs:Array Value)(t:Nat):Prop:=w.heap[b]?=some (.cells cs t)
theorem Blk.lt {w:World}{b:Nat}{cs:Array Value}{t:Nat}(h:Blk w b cs t):b<w.heap.size:=by
 unfold Blk at h;exact(Array.getElem?_eq_some_iff.1 h).1
theorem Blk.below {w w':World}{b:Nat}{cs:Array Value}{t:Nat}(h:Blk w b cs t)(hb:Below w.heap.size w w'):Blk w' b cs t:=by
 have:=hb.block b h.lt;unfold Blk at *;rw [this,h]
theorem jb (w:World)(cs:Array Value)(t:Nat):Blk (w.alloc (.cells cs t)) w.heap.size cs t:=by
 show(w.heap.push _)[w.heap.size]?=_
 simp
theorem Blk.cell {w:World}{b:Nat}{cs:Array Value}{t:Nat}(h:Blk w b cs t)(j:Nat)(v:Value)(hj:cs[j]?=some v):w.cell? ⟨b,j,none⟩=some v:=by
 unfold Blk at h;simp only [World.cell?,h];exact hj
theorem Blk.froz {w:World}{b:Nat}{cs:Array Value}{t:Nat}(h:Blk w b cs t)(j:Nat):w.frozen? ⟨b,j,none⟩=false:=by
 unfold Blk at h;simp [World.frozen?,h]
theorem Blk.set {w:World}{b:Nat}{cs:Array Value}{t:Nat}(h:Blk w b cs t)(j:Nat)(v:Value):Blk (w.setCell ⟨b,j,none⟩ v) b (cs.setIfInBounds j v) t:=by
 unfold Blk at *;simp only [World.setCell,Array.getElem?_modify,h];simp
theorem Blk.set_other {w:World}{b:Nat}{cs:Array Value}{t:Nat}(h:Blk w b cs t)(p:Addr)(v:Value)(hp:b≠p.block):Blk (w.setCell p v) b cs t:=by
 unfold Blk at *;rw [Below.heap_setCell _ _ _ _ hp,h]
theorem Blk.alloc {w:World}{b:Nat}{cs:Array Value}{t:Nat}(h:Blk w b cs t)(o:Obj):Blk (w.alloc o) b cs t:=by
 unfold Blk at *;rw [Below.heap_alloc _ _ _ (Blk.lt h),h]
theorem Blk.grown {w w':World}{b:Nat}{cs:Array Value}{t:Nat}{r:Option Nat}(h:Blk w b cs t)(hg:w.grownBy w' r)(hr:some b≠r):Blk w' b cs t:=by
 have:=hg.block b h.lt hr;unfold Blk at *;rw [this,h]
theorem Yj (w:World)(r:Option Nat):w.grownBy w r:=⟨rfl,rfl,rfl,Nat.le_refl _,fun _ _ _=>rfl⟩
abbrev jp (w:World) (b:Nat) (u0 u1 u2 u3 u4 u5:Value):World:=(((((w.setCell ⟨b,0,none⟩ u0).setCell ⟨b,1,none⟩ u1).setCell ⟨b,2,none⟩ u2).setCell ⟨b,3,none⟩ u3).setCell ⟨b,4,none⟩ u4).setCell ⟨b,5,none⟩ u5
theorem jk {w:World}{b:Nat}{x0 x1 x2 x3 x4 x5:Value}{t:Nat}(h:Blk w b #[x0,x1,x2,x3,x4,x5] t)(u0 u1 u2 u3 u4 u5:Value):Blk (jp w b u0 u1 u2 u3 u4 u5) b #[u0,u1,u2,u3,u4,u5] t:=by
 have:=((((((h.set 0 u0).set 1 u1).set 2 u2).set 3 u3).set 4 u4).set 5 u5)
 simpa using this
theorem QT {w:World}{b c:Nat}{cs:Array Value}{t:Nat}(h:Blk w c cs t)(hne:c≠b)(u0 u1 u2 u3 u4 u5:Value):Blk (jp w b u0 u1 u2 u3 u4 u5) c cs t :=
 ((((((h.set_other _ _ hne).set_other _ _ hne).set_other _ _ hne).set_other _ _ hne).set_other _ _ hne).set_other _ _ hne)
theorem qq (w:World)(b:Nat)(u0 u1 u2 u3 u4 u5:Value):(jp w b u0 u1 u2 u3 u4 u5).heap.size=w.heap.size:=by simp [jp,World.setCell]
structure Cells6 (w:World) (b:Nat) (u0 u1 u2 u3 u4 u5:Value):Prop where
 c0:w.cell? ⟨b,0,none⟩=some u0
 c1:w.cell? ⟨b,1,none⟩=some u1
 c2:w.cell? ⟨b,2,none⟩=some u2
 c3:w.cell? ⟨b,3,none⟩=some u3
 c4:w.cell? ⟨b,4,none⟩=some u4
 c5:w.cell? ⟨b,5,none⟩=some u5
theorem Blk.cells6 {w:World}{b:Nat}{u0 u1 u2 u3 u4 u5:Value}{t:Nat}(h:Blk w b #[u0,u1,u2,u3,u4,u5] t):Cells6 w b u0 u1 u2 u3 u4 u5:=⟨Blk.cell h 0 _ rfl,Blk.cell h 1 _ rfl,Blk.cell h 2 _ rfl,Blk.cell h 3 _ rfl,Blk.cell h 4 _ rfl,Blk.cell h 5 _ rfl⟩
theorem jg {B:Nat}{a w:World}(h:Below B a w){b:Nat}(hb:B<=b)(u0 u1 u2 u3 u4 u5:Value):Below B a (jp w b u0 u1 u2 u3 u4 u5) :=
 ((((((h.setCell (p:=⟨b,0,none⟩) hb u0).setCell (p:=⟨b,1,none⟩) hb u1).setCell (p:=⟨b,2,none⟩) hb u2).setCell (p:=⟨b,3,none⟩) hb u3).setCell (p:=⟨b,4,none⟩) hb u4).setCell (p:=⟨b,5,none⟩) hb u5)
theorem jaz:∃fV fE,Typed Tryd.prog 26 57 23 24 3 2 22 9 fV fE :=
 ⟨_,_,⟨Tryd.underlying26,Tryd.underlying57,Tryd.underlying23,Tryd.underlying24,Tryd.underlying3,Tryd.underlying2,Tryd.underlying22,Tryd.underlying9,
  by kernel_rfl,by kernel_rfl,by kernel_rfl,by kernel_rfl,by kernel_rfl,by kernel_rfl,by kernel_rfl,by kernel_rfl,
  ⟨_,rfl,rfl,rfl⟩,⟨_,rfl,rfl,rfl⟩,⟨_,rfl,rfl,rfl⟩,⟨_,rfl,rfl,rfl⟩,⟨_,rfl,rfl,rfl⟩,⟨_,rfl,rfl,rfl⟩,⟨_,rfl,rfl,rfl⟩,⟨_,rfl,rfl,rfl⟩⟩⟩
end valus
namespace bigs
open Go.RowKit
theorem jc {p:Prop}(h:Hid p):p:=h
end bigs
namespace valus
open Go.RowKit
theorem qP (w:World)(b:Bool):Calls Tryd.prog 50 #[.bool b] w fun e w'=>e=.returned (.int .i64 (if b then -1 else 1))/\w'=w:=by
 cases b
 ·go_enter Tryd.func50,Tryd.ntmps50
  go_wp2;go_ret;exact⟨rfl,rfl⟩
 ·go_enter Tryd.func50,Tryd.ntmps50
  go_wp2;go_ret;exact⟨rfl,rfl⟩
theorem Jv {a b:Int}(h:a≠b):qw (qb a b)=if decide (a<b)=true then -1 else 1:=by
 unfold qb
 by_cases c:a<b
 ·rw [if_pos c,if_pos (by simp [c])];rfl
 ·rw [if_neg c,if_neg h,if_neg (by simp [c])];rfl
theorem jN {x y:Ordering}(h:x≠.eq):jw x y=x:=by cases x<;>first | rfl | exact absurd rfl h
theorem zq {a b:Int}(h:a≠b):qb a b≠.eq:=fun e=>h ((zK.same a b trivial trivial).1 e)
theorem jK (a:Int):qb a a=.eq:=zK.refl trivial
theorem qe (y:Ordering):jw .eq y=y:=rfl
theorem Jr {a b:Nat}(ha:a<18446744073709551616)(hb:b<18446744073709551616)(h:a≠b):qi a≠qi b:=fun e=>h ((XD.same a b ha hb).1 (by rw [e];exact jK _))
theorem Jq (b:Nat):((b:Int) / 9223372036854775808 == 0)=decide (b<9223372036854775808):=by
 by_cases h:b<9223372036854775808
 ·have e:(b:Int) / 9223372036854775808=0:=by omega
  rw [e];simp [h]
 ·have e:(b:Int) / 9223372036854775808≠0:=by omega
  simp [h,e]
theorem jbI {a b:Nat}(ha:a<18446744073709551616)(hb:b<18446744073709551616)(hne:a≠b)(h:(!((a:Int) / 9223372036854775808 == 0) == ((b:Int) / 9223372036854775808 == 0))=true) :
  qw (qb (qi a) (qi b))=if ((b:Int) / 9223372036854775808 == 0)=true then -1 else 1:=by
 rw [Jv (Jr ha hb hne)];rw [Jq,Jq] at h;rw [Jq]
 by_cases h1:a<9223372036854775808
 ·by_cases h2:b<9223372036854775808
  ·simp [h1,h2] at h
  ·have:¬qi a<qi b:=by unfold qi;rw [if_pos h1,if_neg h2];omega
   simp [this,h2]
 ·by_cases h2:b<9223372036854775808
  ·have:qi a<qi b:=by unfold qi;rw [if_neg h1,if_pos h2];omega
   simp [this,h2]
  ·simp [h1,h2] at h
theorem jbP {a b:Nat}(ha:a<18446744073709551616)(hb:b<18446744073709551616)(hne:a≠b)(h:(!((a:Int) / 9223372036854775808 == 0) == ((b:Int) / 9223372036854775808 == 0))=false) :
  qw (qb (qi a) (qi b))=if (decide (a<b) == ((a:Int) / 9223372036854775808 == 0))=true then -1 else 1:=by
 rw [Jv (Jr ha hb hne)];rw [Jq,Jq] at h;rw [Jq]
 by_cases h1:a<9223372036854775808
 ·by_cases h2:b<9223372036854775808
  ·have e:(qi a<qi b)=(a<b):=by unfold qi;rw [if_pos h1,if_pos h2];exact propext ⟨fun h=>by omega,fun h=>by omega⟩
   by_cases h3:a<b<;>simp [e,h1,h3]
  ·simp [h1,h2] at h
 ·by_cases h2:b<9223372036854775808
  ·simp [h1,h2] at h
  ·have e:(qi a<qi b)=(b<a):=by unfold qi;rw [if_neg h1,if_neg h2];exact propext ⟨fun h=>by omega,fun h=>by omega⟩
   by_cases h3:a<b
   ·have h4:¬b<a:=by omega
    simp [e,h1,h3,h4]
   ·have h4:b<a:=by omega
    simp [e,h1,h3,h4]
theorem zm:∀(l m:List UInt8),Op.bytesLess l m=decide (zH l m=.lt)
 | [],[]=>rfl
 | [],_ :: _=>rfl
 | _ :: _,[]=>rfl
 | x :: r,y :: t=>by
  have ih:=zm r t;have e:zH (x :: r) (y :: t)=jw (qb (x.toNat:Int) (y.toNat:Int)) (zH r t):=rfl;rw [e]
  by_cases h1:x.toNat<y.toNat
  ·have c:qb (x.toNat:Int) (y.toNat:Int)=.lt:=by unfold qb;rw [if_pos (by omega)]
   have h2:x<y:=UInt8.lt_iff_toNat_lt.2 h1;rw [c];simp [Op.bytesLess,h2,jw]
  ·by_cases h3:x=y
   ·subst h3
    rw [jK];have e3:Op.bytesLess (x :: r) (x :: t)=Op.bytesLess r t:=by simp [Op.bytesLess]
    rw [e3,ih];rfl
   ·have h4:x.toNat≠y.toNat:=fun h=>h3 (UInt8.toNat_inj.1 h)
    have c:qb (x.toNat:Int) (y.toNat:Int)=.gt:=by unfold qb;rw [if_neg (by omega),if_neg (by omega)]
    have h2:¬x<y:=fun h=>h1 (UInt8.lt_iff_toNat_lt.1 h)
    rw [c];simp [Op.bytesLess,h2,h3,jw]
theorem Zg {l m:List UInt8}(h:l≠m):qw (zH l m)=if Op.bytesLess l m=true then -1 else 1:=by
 rw [zm];cases e:zH l m with
 | lt=>rfl
 | eq=>exact absurd ((qC.same l m trivial trivial).1 e) h
 | gt=>rfl
theorem Jp (l:List UInt8):zH l l=.eq:=qC.refl trivial
theorem ZR {l m:List UInt8}(h:l≠m):zH l m≠.eq:=fun e=>h ((qC.same l m trivial trivial).1 e)
open Go.RowKit
theorem ja6 (f:Nat)(w:World)(k n:Int)(b:Nat)(s:ByteArray)(L E:List V)(pL pE:Option Addr)(cL cE:Nat)(k':Int)(n':Int)(b':Nat)(s':ByteArray)(L' E':List V)(pL' pE':Option Addr)(cL' cE':Nat)(hk:k≠k') :
  Calls Tryd.prog 34 #[.agg #[.int .i64 k,.int .i64 n,.int .u64 (b:Int),.string s,.slice pL L.length cL,.slice pE E.length cE],.agg #[.int .i64 k',.int .i64 n',.int .u64 (b':Int),.string s',.slice pL' L'.length cL',.slice pE' E'.length cE']] w fun e w'=>e=.returned (.int .i64 (qw (jG (f+1) (mkV (k,n,b,s.data.toList) L E) (mkV (k',n',b',s'.data.toList) L' E'))))/\Below w.heap.size w w':=by
 have b0:Below w.heap.size w ((w.alloc (.cells #[.int .i64 k,.int .i64 n,.int .u64 (b:Int),.string s,.slice pL L.length cL,.slice pE E.length cE] 26)).alloc (.cells #[.int .i64 k',.int .i64 n',.int .u64 (b':Int),.string s',.slice pL' L'.length cL',.slice pE' E'.length cE'] 26)):=((Below.refl _ w).alloc (Nat.le_refl _) _).alloc (by simp) _;have na:=Blk.alloc (jb w #[.int .i64 k,.int .i64 n,.int .u64 (b:Int),.string s,.slice pL L.length cL,.slice pE E.length cE] 26) (.cells #[.int .i64 k',.int .i64 n',.int .u64 (b':Int),.string s',.slice pL' L'.length cL',.slice pE' E'.length cE'] 26);have nb:=jb (w.alloc (.cells #[.int .i64 k,.int .i64 n,.int .u64 (b:Int),.string s,.slice pL L.length cL,.slice pE E.length cE] 26)) #[.int .i64 k',.int .i64 n',.int .u64 (b':Int),.string s',.slice pL' L'.length cL',.slice pE' E'.length cE'] 26
 have e1:(w.alloc (.cells #[.int .i64 k,.int .i64 n,.int .u64 (b:Int),.string s,.slice pL L.length cL,.slice pE E.length cE] 26)).heap.size=w.heap.size+1:=by simp
 rw [e1] at nb;have B0:=ja b0;have NA:=ja na;have NB:=ja nb;clear na nb e1 b0
 go_enter Tryd.func34,Tryd.ntmps34
 go_upto_region 1 with fail
 generalize (w.alloc (.cells #[.int .i64 k,.int .i64 n,.int .u64 (b:Int),.string s,.slice pL L.length cL,.slice pE E.length cE] 26)).alloc (.cells #[.int .i64 k',.int .i64 n',.int .u64 (b':Int),.string s',.slice pL' L'.length cL',.slice pE' E'.length cE'] 26)=w0 at *;obtain⟨c0,c1,c2,c3,c4,c5⟩:=Blk.cells6 (jc NA);obtain⟨d0,d1,d2,d3,d4,d5⟩:=Blk.cells6 (jc NB);have S:Hid _:=ja (qP w0 (decide (k<k')))
 go_wp2_with fail
 refine(jc S).mono ?_
 rintro e w3 ⟨rfl,rfl⟩
 generalize hr:(if decide (k<k')=true then (-1:Int) else 1)=r;have HR:=ja hr;clear hr
 go_wp2_with fail
 go_ret;refine⟨?_,jc B0⟩
 show _=Ending.returned (.int .i64 (qw (jw (jw (qb k k') _) _)))
 rw [jN (zq hk),jN (zq hk),Jv hk,jc HR];rfl
theorem jbs (f:Nat)(w:World)(k n:Int)(b:Nat)(s:ByteArray)(L E:List V)(pL pE:Option Addr)(cL cE:Nat)(n':Int)(b':Nat)(s':ByteArray)(L' E':List V)(pL' pE':Option Addr)(cL' cE':Nat)(hn:n≠n') :
  Calls Tryd.prog 34 #[.agg #[.int .i64 k,.int .i64 n,.int .u64 (b:Int),.string s,.slice pL L.length cL,.slice pE E.length cE],.agg #[.int .i64 k,.int .i64 n',.int .u64 (b':Int),.string s',.slice pL' L'.length cL',.slice pE' E'.length cE']] w fun e w'=>e=.returned (.int .i64 (qw (jG (f+1) (mkV (k,n,b,s.data.toList) L E) (mkV (k,n',b',s'.data.toList) L' E'))))/\Below w.heap.size w w':=by
 have b0:Below w.heap.size w ((w.alloc (.cells #[.int .i64 k,.int .i64 n,.int .u64 (b:Int),.string s,.slice pL L.length cL,.slice pE E.length cE] 26)).alloc (.cells #[.int .i64 k,.int .i64 n',.int .u64 (b':Int),.string s',.slice pL' L'.length cL',.slice pE' E'.length cE'] 26)):=((Below.refl _ w).alloc (Nat.le_refl _) _).alloc (by simp) _;have na:=Blk.alloc (jb w #[.int .i64 k,.int .i64 n,.int .u64 (b:Int),.string s,.slice pL L.length cL,.slice pE E.length cE] 26) (.cells #[.int .i64 k,.int .i64 n',.int .u64 (b':Int),.string s',.slice pL' L'.length cL',.slice pE' E'.length cE'] 26);have nb:=jb (w.alloc (.cells #[.int .i64 k,.int .i64 n,.int .u64 (b:Int),.string s,.slice pL L.length cL,.slice pE E.length cE] 26)) #[.int .i64 k,.int .i64 n',.int .u64 (b':Int),.string s',.slice pL' L'.length cL',.slice pE' E'.length cE'] 26
 have e1:(w.alloc (.cells #[.int .i64 k,.int .i64 n,.int .u64 (b:Int),.string s,.slice pL L.length cL,.slice pE E.length cE] 26)).heap.size=w.heap.size+1:=by simp
 rw [e1] at nb;have B0:=ja b0;have NA:=ja na;have NB:=ja nb;clear na nb e1 b0
 go_enter Tryd.func34,Tryd.ntmps34
 go_upto_region 1 with fail
 generalize (w.alloc (.cells #[.int .i64 k,.int .i64 n,.int .u64 (b:Int),.string s,.slice pL L.length cL,.slice pE E.length cE] 26)).alloc (.cells #[.int .i64 k,.int .i64 n',.int .u64 (b':Int),.string s',.slice pL' L'.length cL',.slice pE' E'.length cE'] 26)=w0 at *;obtain⟨c0,c1,c2,c3,c4,c5⟩:=Blk.cells6 (jc NA);obtain⟨d0,d1,d2,d3,d4,d5⟩:=Blk.cells6 (jc NB);have S:Hid _:=ja (qP w0 (decide (n<n')))
 go_wp2_with fail
 refine(jc S).mono ?_
 rintro e w3 ⟨rfl,rfl⟩
 generalize hr:(if decide (n<n')=true then (-1:Int) else 1)=r;have HR:=ja hr;clear hr
 go_wp2_with fail
 go_ret;refine⟨?_,jc B0⟩
 show _=Ending.returned (.int .i64 (qw (jw (jw (qb k k) (jw (qb n n') _)) _)))
 rw [jK,qe,jN (zq hn),jN (zq hn),Jv hn,jc HR];rfl
theorem jaJ (f:Nat)(w:World)(k n:Int)(b:Nat)(s:ByteArray)(L E:List V)(pL pE:Option Addr)(cL cE:Nat)(s':ByteArray)(L' E':List V)(pL' pE':Option Addr)(cL' cE':Nat)(hs:s≠s') :
  Calls Tryd.prog 34 #[.agg #[.int .i64 k,.int .i64 n,.int .u64 (b:Int),.string s,.slice pL L.length cL,.slice pE E.length cE],.agg #[.int .i64 k,.int .i64 n,.int .u64 (b:Int),.string s',.slice pL' L'.length cL',.slice pE' E'.length cE']] w fun e w'=>e=.returned (.int .i64 (qw (jG (f+1) (mkV (k,n,b,s.data.toList) L E) (mkV (k,n,b,s'.data.toList) L' E'))))/\Below w.heap.size w w':=by
 have b0:Below w.heap.size w ((w.alloc (.cells #[.int .i64 k,.int .i64 n,.int .u64 (b:Int),.string s,.slice pL L.length cL,.slice pE E.length cE] 26)).alloc (.cells #[.int .i64 k,.int .i64 n,.int .u64 (b:Int),.string s',.slice pL' L'.length cL',.slice pE' E'.length cE'] 26)):=((Below.refl _ w).alloc (Nat.le_refl _) _).alloc (by simp) _;have na:=Blk.alloc (jb w #[.int .i64 k,.int .i64 n,.int .u64 (b:Int),.string s,.slice pL L.length cL,.slice pE E.length cE] 26) (.cells #[.int .i64 k,.int .i64 n,.int .u64 (b:Int),.string s',.slice pL' L'.length cL',.slice pE' E'.length cE'] 26);have nb:=jb (w.alloc (.cells #[.int .i64 k,.int .i64 n,.int .u64 (b:Int),.string s,.slice pL L.length cL,.slice pE E.length cE] 26)) #[.int .i64 k,.int .i64 n,.int .u64 (b:Int),.string s',.slice pL' L'.length cL',.slice pE' E'.length cE'] 26
 have e1:(w.alloc (.cells #[.int .i64 k,.int .i64 n,.int .u64 (b:Int),.string s,.slice pL L.length cL,.slice pE E.length cE] 26)).heap.size=w.heap.size+1:=by simp
 rw [e1] at nb;have B0:=ja b0;have NA:=ja na;have NB:=ja nb;clear na nb e1 b0
 go_enter Tryd.func34,Tryd.ntmps34
 go_upto_region 1 with fail
 generalize (w.alloc (.cells #[.int .i64 k,.int .i64 n,.int .u64 (b:Int),.string s,.slice pL L.length cL,.slice pE E.length cE] 26)).alloc (.cells #[.int .i64 k,.int .i64 n,.int .u64 (b:Int),.string s',.slice pL' L'.length cL',.slice pE' E'.length cE'] 26)=w0 at *;obtain⟨c0,c1,c2,c3,c4,c5⟩:=Blk.cells6 (jc NA);obtain⟨d0,d1,d2,d3,d4,d5⟩:=Blk.cells6 (jc NB)
 have hsl:s.data.toList≠s'.data.toList:=fun e=>hs (by
  obtain⟨⟨x⟩⟩:=s;obtain⟨⟨y⟩⟩:=s';exact congrArg (fun l=>(⟨⟨l⟩⟩:ByteArray)) e)
 have hs2:(s.toList == s'.toList)=false:=by rw [ByteArray.toList_eq,ByteArray.toList_eq];exact beq_eq_false_iff_ne.2 hsl
 have S:Hid _:=ja (qP w0 (Op.bytesLess s.toList s'.toList))
 go_wp2_with fail
 refine(jc S).mono ?_
 rintro e w3 ⟨rfl,rfl⟩
 generalize hr:(if Op.bytesLess s.toList s'.toList=true then (-1:Int) else 1)=r;have HR:=ja hr;clear hr
 go_wp2_with fail
 go_ret;refine⟨?_,jc B0⟩
 show _=Ending.returned (.int .i64 (qw (jw (jw (qb k k) (jw (qb n n) (jw (qb (qi b) (qi b)) (zH s.data.toList s'.data.toList)))) _)))
 rw [jK,jK,jK,qe,qe,qe,jN (ZR hsl),Zg hsl];have HR2:=jc HR;rw [ByteArray.toList_eq,ByteArray.toList_eq] at HR2;rw [HR2];rfl
open Go.RowKit
theorem jaD (f:Nat)(w:World)(k n:Int)(b:Nat)(s:ByteArray)(L E:List V)(pL pE:Option Addr)(cL cE:Nat)(b':Nat)(s':ByteArray)(L' E':List V)(pL' pE':Option Addr)(cL' cE':Nat)(hf:b<18446744073709551616)(hf':b'<18446744073709551616)(hbb:b≠b') :
  Calls Tryd.prog 34 #[.agg #[.int .i64 k,.int .i64 n,.int .u64 (b:Int),.string s,.slice pL L.length cL,.slice pE E.length cE],.agg #[.int .i64 k,.int .i64 n,.int .u64 (b':Int),.string s',.slice pL' L'.length cL',.slice pE' E'.length cE']] w fun e w'=>e=.returned (.int .i64 (qw (jG (f+1) (mkV (k,n,b,s.data.toList) L E) (mkV (k,n,b',s'.data.toList) L' E'))))/\Below w.heap.size w w':=by
 have b0:Below w.heap.size w ((w.alloc (.cells #[.int .i64 k,.int .i64 n,.int .u64 (b:Int),.string s,.slice pL L.length cL,.slice pE E.length cE] 26)).alloc (.cells #[.int .i64 k,.int .i64 n,.int .u64 (b':Int),.string s',.slice pL' L'.length cL',.slice pE' E'.length cE'] 26)):=((Below.refl _ w).alloc (Nat.le_refl _) _).alloc (by simp) _;have na:=Blk.alloc (jb w #[.int .i64 k,.int .i64 n,.int .u64 (b:Int),.string s,.slice pL L.length cL,.slice pE E.length cE] 26) (.cells #[.int .i64 k,.int .i64 n,.int .u64 (b':Int),.string s',.slice pL' L'.length cL',.slice pE' E'.length cE'] 26);have nb:=jb (w.alloc (.cells #[.int .i64 k,.int .i64 n,.int .u64 (b:Int),.string s,.slice pL L.length cL,.slice pE E.length cE] 26)) #[.int .i64 k,.int .i64 n,.int .u64 (b':Int),.string s',.slice pL' L'.length cL',.slice pE' E'.length cE'] 26
 have e1:(w.alloc (.cells #[.int .i64 k,.int .i64 n,.int .u64 (b:Int),.string s,.slice pL L.length cL,.slice pE E.length cE] 26)).heap.size=w.heap.size+1:=by simp
 rw [e1] at nb;have B0:=ja b0;have NA:=ja na;have NB:=ja nb;clear na nb e1 b0
 go_enter Tryd.func34,Tryd.ntmps34
 go_upto_region 1 with fail
 generalize (w.alloc (.cells #[.int .i64 k,.int .i64 n,.int .u64 (b:Int),.string s,.slice pL L.length cL,.slice pE E.length cE] 26)).alloc (.cells #[.int .i64 k,.int .i64 n,.int .u64 (b':Int),.string s',.slice pL' L'.length cL',.slice pE' E'.length cE'] 26)=w0 at *;obtain⟨c0,c1,c2,c3,c4,c5⟩:=Blk.cells6 (jc NA);obtain⟨d0,d1,d2,d3,d4,d5⟩:=Blk.cells6 (jc NB);have hbi:¬(b:Int)=(b':Int):=by omega
 have SA:Hid _:=ja (qP w0.drew ((b':Int) / 9223372036854775808 == 0));have SB:Hid _:=ja (qP w0.drew (decide (b<b') == ((b:Int) / 9223372036854775808 == 0)))
 go_upto_region 6 with fail
 go_region
 clear c0 c1 c3 c4 c5 d0 d1 d3 d4 d5
 by_cases hab:(!((b:Int) / 9223372036854775808 == 0) == ((b':Int) / 9223372036854775808 == 0))=true
 ·go_wp2_with fail
  refine(jc SA).mono ?_
  rintro e w3 ⟨rfl,rfl⟩
  generalize hr:(if ((b':Int) / 9223372036854775808 == 0)=true then (-1:Int) else 1)=r;have HR:=ja hr;clear hr
  go_wp2_with fail
  go_ret;refine⟨?_,(jc B0).drew⟩
  show _=Ending.returned (.int .i64 (qw (jw (jw (qb k k) (jw (qb n n) (jw (qb (qi b) (qi b')) _))) _)))
  rw [jK,jK,qe,qe,jN (zq (Jr hf hf' hbb)),jN (zq (Jr hf hf' hbb)),jbI hf hf' hbb hab,jc HR];rfl
 ·have hab2:(!((b:Int) / 9223372036854775808 == 0) == ((b':Int) / 9223372036854775808 == 0))=false:=by simpa using hab
  go_wp2_with fail
  refine(jc SB).mono ?_
  rintro e w3 ⟨rfl,rfl⟩
  generalize hr:(if (decide (b<b') == ((b:Int) / 9223372036854775808 == 0))=true then (-1:Int) else 1)=r;have HR:=ja hr;clear hr
  go_wp2_with fail
  go_ret;refine⟨?_,(jc B0).drew⟩
  show _=Ending.returned (.int .i64 (qw (jw (jw (qb k k) (jw (qb n n) (jw (qb (qi b) (qi b')) _))) _)))
  rw [jK,jK,qe,qe,jN (zq (Jr hf hf' hbb)),jN (zq (Jr hf hf' hbb)),jbP hf hf' hbb hab2,jc HR];rfl
open Go.RowKit
theorem Xb {α:Type}{c:α->α->Ordering}{l m:List α}{j:Nat}(h:¬(j<l.length/\j<m.length))(h1:j<=l.length)(h2:j<=m.length):cmpL c (l.drop j) (m.drop j)=if l.length=m.length then .eq else if l.length<m.length then .lt else .gt:=by
 by_cases a:j<l.length
 ·have b:m.length<=j:=by omega
  rw [List.drop_eq_getElem_cons a,List.drop_of_length_le b,if_neg (by omega),if_neg (by omega)];rfl
 ·rw [List.drop_of_length_le (by omega:l.length<=j)]
  by_cases b:j<m.length
  ·rw [List.drop_eq_getElem_cons b,if_neg (by omega),if_pos (by omega)]
   rfl
  ·rw [List.drop_of_length_le (by omega:m.length<=j),if_pos (by omega)]
   rfl
theorem Xt {n m:Nat}(h:n≠m):qw (if n=m then .eq else if n<m then .lt else .gt)=if decide (n<m)=true then -1 else 1:=by
 rw [if_neg h]
 by_cases c:n<m
 ·rw [if_pos c,if_pos (by simp [c])];rfl
 ·rw [if_neg c,if_neg (by simp [c])];rfl
theorem jbL {n m:Nat}(h:n≠m):(if n=m then Ordering.eq else if n<m then .lt else .gt)≠.eq:=by
 rw [if_neg h]
 by_cases c:n<m
 ·rw [if_pos c];decide
 ·rw [if_neg c];decide
theorem Y1 (f:Nat)(w:World)(k n:Int)(b:Nat)(s:ByteArray)(L E:List V)(pL pE:Option Addr)(cL cE:Nat)(L' E':List V)(pL' pE':Option Addr)(cL' cE':Nat)(ih:∀(ok oq:Nat->Prop) (w:World) (t u:V) (a0 a1 a2 a3 a4 a5 b0 b1 b2 b3 b4 b5:Value),LiesV ok f w [a0,a1,a2,a3,a4,a5] t->LiesV oq f w [b0,b1,b2,b3,b4,b5] u->Calls Tryd.prog 34 #[.agg #[a0,a1,a2,a3,a4,a5],.agg #[b0,b1,b2,b3,b4,b5]] w fun e w'=>e=.returned (.int .i64 (qw (jG f t u)))/\Below w.heap.size w w')(ok oq:Nat->Prop)(h5:RowIn ok w pL 6 L.length (fun j us=>∃y,L[j]?=some y/\LiesV ok f w us y))(h5':RowIn oq w pL' 6 L'.length (fun j us=>∃y,L'[j]?=some y/\LiesV oq f w us y))(h6:RowIn ok w pE 7 E.length (fun j us=>∃(key:ByteArray) (y:V) (xs:List Value),E[j]?=some (ent key.data.toList y)/\us=.string key :: xs/\key.size<=maxLen/\LiesV ok f w xs y))(h6':RowIn oq w pE' 7 E'.length (fun j us=>∃(key:ByteArray) (y:V) (xs:List Value),E'[j]?=some (ent key.data.toList y)/\us=.string key :: xs/\key.size<=maxLen/\LiesV oq f w xs y))(m1:L.length<=9223372036854775807)(m2:L'.length<=9223372036854775807)(m3:E.length<=9223372036854775807)(m4:E'.length<=9223372036854775807) :
  Calls Tryd.prog 34 #[.agg #[.int .i64 k,.int .i64 n,.int .u64 (b:Int),.string s,.slice pL L.length cL,.slice pE E.length cE],.agg #[.int .i64 k,.int .i64 n,.int .u64 (b:Int),.string s,.slice pL' L'.length cL',.slice pE' E'.length cE']] w fun e w'=>e=.returned (.int .i64 (qw (jG (f+1) (mkV (k,n,b,s.data.toList) L E) (mkV (k,n,b,s.data.toList) L' E'))))/\Below w.heap.size w w':=by
 have IH:=ja ih;have H5:=ja h5;have H6:=ja h6;have H5':=ja h5';have H6':=ja h6';clear ih h5 h6 h5' h6';have b0:Below w.heap.size w ((w.alloc (.cells #[.int .i64 k,.int .i64 n,.int .u64 (b:Int),.string s,.slice pL L.length cL,.slice pE E.length cE] 26)).alloc (.cells #[.int .i64 k,.int .i64 n,.int .u64 (b:Int),.string s,.slice pL' L'.length cL',.slice pE' E'.length cE'] 26)):=((Below.refl _ w).alloc (Nat.le_refl _) _).alloc (by simp) _;have na:=Blk.alloc (jb w #[.int .i64 k,.int .i64 n,.int .u64 (b:Int),.string s,.slice pL L.length cL,.slice pE E.length cE] 26) (.cells #[.int .i64 k,.int .i64 n,.int .u64 (b:Int),.string s,.slice pL' L'.length cL',.slice pE' E'.length cE'] 26)
 have nb:=jb (w.alloc (.cells #[.int .i64 k,.int .i64 n,.int .u64 (b:Int),.string s,.slice pL L.length cL,.slice pE E.length cE] 26)) #[.int .i64 k,.int .i64 n,.int .u64 (b:Int),.string s,.slice pL' L'.length cL',.slice pE' E'.length cE'] 26;have e1:(w.alloc (.cells #[.int .i64 k,.int .i64 n,.int .u64 (b:Int),.string s,.slice pL L.length cL,.slice pE E.length cE] 26)).heap.size=w.heap.size+1:=by simp
 rw [e1] at nb;have B0:=ja b0;have NA:=ja na;have NB:=ja nb;clear na nb e1 b0
 go_enter Tryd.func34,Tryd.ntmps34
 go_upto_region 1 with fail
 generalize (w.alloc (.cells #[.int .i64 k,.int .i64 n,.int .u64 (b:Int),.string s,.slice pL L.length cL,.slice pE E.length cE] 26)).alloc (.cells #[.int .i64 k,.int .i64 n,.int .u64 (b:Int),.string s,.slice pL' L'.length cL',.slice pE' E'.length cE'] 26)=w0 at *;obtain⟨c0,c1,c2,c3,c4,c5⟩:=Blk.cells6 (jc NA);obtain⟨d0,d1,d2,d3,d4,d5⟩:=Blk.cells6 (jc NB)
 have HC:Hid (jG (f+1) (mkV (k,n,b,s.data.toList) L E) (mkV (k,n,b,s.data.toList) L' E')=jw (cmpL (jG f) L L') (cmpL (JE (jG f)) E E')):=ja (by
  show jw (jw (qb k k) (jw (qb n n) (jw (qb (qi b) (qi b)) (zH s.data.toList s.data.toList)))) _=_
  rw [jK,jK,jK,Jp];rfl)
 have hs2:(s.toList == s.toList)=true:=beq_self_eq_true _
 go_wp2_with fail
 clear c0 c1 c2 c3 c4 c5 d0 d1 d2 d3 d4 d5 hs2
 go_loopw [7] (fun i wr=>∃j:Nat,j<=L.length/\j<=L'.length/\i=.int .i64 j/\Hid (cmpL (jG f) L L'=cmpL (jG f) (L.drop j) (L'.drop j))/\Hid (Below w0.heap.size w0 wr)) (fun i _=>L.length - (intOf i).toNat)
 case atStart=>exact⟨0,Nat.zero_le _,Nat.zero_le _,rfl,ja rfl,ja (Below.refl _ _)⟩
 case round=>
  obtain⟨j,hj,hj',rfl,HE,HW⟩:=hrel;have q4:=Blk.cell (Blk.below (jc NA) (jc HW)) 4 _ rfl;have r4:=Blk.cell (Blk.below (jc NB) (jc HW)) 4 _ rfl
  by_cases hlt:j<L.length/\j<L'.length
  ·obtain⟨hl1,hl2⟩:=hlt
   have bw:=(jc B0).trans ((jc HW).mono (jc B0).size)
   have h5:=(jc H5).kept (ok':=ok) (w':=wr) (Q':=fun j us=>∃y,L[j]?=some y/\LiesV ok f wr us y) (fun _ h=>h) bw.size (fun b _ hl=>bw.block b hl) (fun j us _ q=>by
    obtain⟨y,q1,q2⟩:=q;exact⟨y,q1,q2.below bw⟩)
   have h5':=(jc H5').kept (ok':=oq) (w':=wr) (Q':=fun j us=>∃y,L'[j]?=some y/\LiesV oq f wr us y) (fun _ h=>h) bw.size (fun b _ hl=>bw.block b hl) (fun j us _ q=>by
    obtain⟨y,q1,q2⟩:=q;exact⟨y,q1,q2.below bw⟩)
   obtain⟨B,o,rfl,hok,hB,x0,x1,x2,x3,x4,x5,⟨y,hy,hLy⟩,g0,g1,g2,g3,g4,g5⟩:=h5.six hl1;obtain⟨B',o',rfl,hoq,hB',y0,y1,y2,y3,y4,y5,⟨y',hy',hLy'⟩,g0',g1',g2',g3',g4',g5'⟩:=h5'.six hl2;have KK:∀n,Hid _:=fun n=>ja (jc IH ok oq (wr.drewN n) y y' x0 x1 x2 x3 x4 x5 y0 y1 y2 y3 y4 y5 (hLy.below (below_drewN (Below.refl _ _) n)) (hLy'.below (below_drewN (Below.refl _ _) n)))
   obtain⟨k1,n1,b1,s1,pL1,nL1,cL1,pE1,nE1,cE1,rfl,rfl,rfl,rfl,rfl,rfl⟩:=hLy.form;obtain⟨k2,n2,b2,s2,pL2,nL2,cL2,pE2,nE2,cE2,rfl,rfl,rfl,rfl,rfl,rfl⟩:=hLy'.form;have i1:(j:Int)<(L.length:Int):=by omega
   have i2:(j:Int)<(L'.length:Int):=by omega
   have HD:Hid (cmpL (jG f) L L'=jw (jG f y y') (cmpL (jG f) (L.drop (j+1)) (L'.drop (j+1)))):=ja (by
    rw [jc HE,List.drop_eq_getElem_cons hl1,List.drop_eq_getElem_cons hl2];rw [List.getElem?_eq_getElem hl1] at hy;rw [List.getElem?_eq_getElem hl2] at hy';injection hy with hy;injection hy' with hy';rw [hy,hy'];rfl)
   clear hLy hLy' h5 h5' bw hy hy'
   go_upto_region 15 with fail
   go_cut [8] from 84 to 94 (fun s8 wx=>s8=.int .i64 (qw (jG f y y'))/\Hid (Below w0.heap.size w0 wx))
   case first=>
    go_region_with (go_at_call 34
                    refine(jc (KK 1)).mono ?_
                    rintro e w3 ⟨rfl,b3⟩
                    have B3:Hid (Below w0.heap.size w0 w3):=ja ((below_drewN (jc HW) 1).trans (b3.mono (jc HW).size));clear b3)
    all_goals
     go_wp2_with fail
     go_meet
     exact⟨rfl,B3⟩
   case rest=>
   obtain⟨rfl,HX⟩:=hcut;clear KK q4 r4 g0 g1 g2 g3 g4 g5 g0' g1' g2' g3' g4' g5'
   by_cases hc:jG f y y'=.eq
   ·have hz:qw (jG f y y')=0:=Js.2 hc
    have HF:Hid (cmpL (jG f) L L'=cmpL (jG f) (L.drop (j+1)) (L'.drop (j+1))):=ja (by rw [jc HD,hc];rfl);clear HD HE hc;go_wp2;go_roundw
    case rel=>exact⟨j+1,hl1,hl2,by simp,HF,HX⟩
    case measure=>simp [intOf];omega
   ·have hz:qw (jG f y y')≠0:=fun e=>hc (Js.1 e)
    have HF:Hid (jw (cmpL (jG f) L L') (cmpL (JE (jG f)) E E')=jG f y y'):=ja (by rw [jc HD,jN hc,jN hc]);clear HD HE hc;generalize hr:qw (jG f y y')=r at *;have HR:=ja hr;clear hr;go_wp2;go_ret;refine⟨?_,(jc B0).trans ((jc HX).mono (jc B0).size)⟩;rw [jc HC,jc HF,jc HR];rfl
  ·have hnot:(j:Int)<(L.length:Int)->¬(j:Int)<(L'.length:Int):=fun h h'=>hlt ⟨by omega,by omega⟩
   have HN:Hid (cmpL (jG f) L L'=if L.length=L'.length then .eq else if L.length<L'.length then .lt else .gt):=ja ((jc HE).trans (Xb hlt hj hj'));clear HE;have SS:Hid _:=ja (qP wr (decide (L.length<L'.length)))
   by_cases hll:L.length=L'.length
   case neg=>
    have hli:¬(L.length:Int)=(L'.length:Int):=by omega
    by_cases hj1:j<L.length
    all_goals
     go_wp2_with fail
     refine(jc SS).mono ?_
     rintro e w3 ⟨rfl,rfl⟩
     generalize hr:(if decide (L.length<L'.length)=true then (-1:Int) else 1)=r;have HR:=ja hr;clear hr
     go_wp2_with fail
     go_ret;refine⟨?_,(jc B0).trans ((jc HW).mono (jc B0).size)⟩;rw [jc HC,jc HN,jN (jbL hll),Xt hll,jc HR];rfl
   have HM:Hid (jG (f+1) (mkV (k,n,b,s.data.toList) L E) (mkV (k,n,b,s.data.toList) L' E')=cmpL (JE (jG f)) E E'):=ja (by
    rw [jc HC,jc HN,if_pos hll];rfl)
   have hli:(L.length:Int)=(L'.length:Int):=by omega
   have hj1:j=L.length:=by omega
   clear HN HC SS hnot;subst hj1;have i9:¬(L.length:Int)<(L.length:Int):=by omega
   go_wp2_with fail
   clear q4 r4 i9
   go_loopw [9] (fun i wz=>∃j:Nat,j<=E.length/\j<=E'.length/\i=.int .i64 j/\Hid (cmpL (JE (jG f)) E E'=cmpL (JE (jG f)) (E.drop j) (E'.drop j))/\Hid (Below w0.heap.size w0 wz)) (fun i _=>E.length - (intOf i).toNat)
   case atStart=>exact⟨0,Nat.zero_le _,Nat.zero_le _,rfl,ja rfl,HW⟩
   case round=>
    obtain⟨j,hj,hj',rfl,HE,HW⟩:=hrel;have q5:=Blk.cell (Blk.below (jc NA) (jc HW)) 5 _ rfl;have r5:=Blk.cell (Blk.below (jc NB) (jc HW)) 5 _ rfl
    by_cases hlt:j<E.length/\j<E'.length
    ·obtain⟨hl1,hl2⟩:=hlt
     have bw:=(jc B0).trans ((jc HW).mono (jc B0).size);have h6:=(jc H6).kept (ok':=ok) (w':=wr) (Q':=fun j us=>∃(key:ByteArray) (y:V) (xs:List Value),E[j]?=some (ent key.data.toList y)/\us=.string key :: xs/\key.size<=maxLen/\LiesV ok f wr xs y) (fun _ h=>h) bw.size (fun b _ hl=>bw.block b hl) (fun j us _ ⟨key,y,xs,q1,q2,q3,q4⟩=>⟨key,y,xs,q1,q2,q3,q4.below bw⟩);have h6':=(jc H6').kept (ok':=oq) (w':=wr) (Q':=fun j us=>∃(key:ByteArray) (y:V) (xs:List Value),E'[j]?=some (ent key.data.toList y)/\us=.string key :: xs/\key.size<=maxLen/\LiesV oq f wr xs y) (fun _ h=>h) bw.size (fun b _ hl=>bw.block b hl) (fun j us _ ⟨key,y,xs,q1,q2,q3,q4⟩=>⟨key,y,xs,q1,q2,q3,q4.below bw⟩);obtain⟨B,o,rfl,hok,hB,x0,x1,x2,x3,x4,x5,x6,⟨key,y,xs,hy,hus,_,hLy⟩,g0,g1,g2,g3,g4,g5,g6⟩:=h6.seven hl1
     obtain⟨B',o',rfl,hoq,hB',y0,y1,y2,y3,y4,y5,y6,⟨key',y',xs',hy',hus',_,hLy'⟩,g0',g1',g2',g3',g4',g5',g6'⟩:=h6'.seven hl2;cases hus
     cases hus'
     have KE:∀u,Below wr.heap.size wr u->Hid _:=fun u hu=>ja (jc IH ok oq u y y' _ _ _ _ _ _ _ _ _ _ _ _ (hLy.below hu) (hLy'.below hu))
     obtain⟨k1,n1,b1,s1,pL1,nL1,cL1,pE1,nE1,cE1,rfl,rfl,rfl,rfl,rfl,rfl⟩:=hLy.form;obtain⟨k2,n2,b2,s2,pL2,nL2,cL2,pE2,nE2,cE2,rfl,rfl,rfl,rfl,rfl,rfl⟩:=hLy'.form;have i1:(j:Int)<(E.length:Int):=by omega
     have i2:(j:Int)<(E'.length:Int):=by omega
     have HD:Hid (cmpL (JE (jG f)) E E'=jw (jw (zH key.data.toList key'.data.toList) (jG f y y')) (cmpL (JE (jG f)) (E.drop (j+1)) (E'.drop (j+1)))):=ja (by
      rw [jc HE,List.drop_eq_getElem_cons hl1,List.drop_eq_getElem_cons hl2];rw [List.getElem?_eq_getElem hl1] at hy;rw [List.getElem?_eq_getElem hl2] at hy';injection hy with hy;injection hy' with hy';rw [hy,hy'];rfl)
     clear hLy hLy' h6 h6' bw hy hy'
     by_cases hs:key=key'
     ·subst hs
      have hs2:(key.toList == key.toList)=true:=beq_self_eq_true _
      go_upto_region 23 with fail
      go_quiet (fail)
      go_upto_region 25 with fail
      go_cut [10] from 154 to 166 (fun s10 wx=>s10=.int .i64 (qw (jG f y y'))/\Hid (Below w0.heap.size w0 wx))
      case first=>
       go_region_with (go_at_call 34
                       refine(jc (KE _ (below_drewN (below_drewN (Below.refl _ _) _) 1))).mono ?_
                       rintro e w3 ⟨rfl,b3⟩
                       have B3:Hid (Below w0.heap.size w0 w3):=ja ((below_drewN (below_drewN (jc HW) _) 1).trans (b3.mono (jc HW).size));clear b3)
       all_goals
        go_wp2_with fail
        go_meet
        exact⟨rfl,B3⟩
      case rest=>
      obtain⟨rfl,HX⟩:=hcut;clear KE q5 r5 g0 g1 g2 g3 g4 g5 g6 g0' g1' g2' g3' g4' g5' g6'
      by_cases hc:jG f y y'=.eq
      ·have hz:qw (jG f y y')=0:=Js.2 hc
       have HF:Hid (cmpL (JE (jG f)) E E'=cmpL (JE (jG f)) (E.drop (j+1)) (E'.drop (j+1))):=ja (by rw [jc HD,Jp,hc];rfl);clear HD HE hc;go_wp2;go_roundw
       case rel=>exact⟨j+1,hl1,hl2,by simp,HF,HX⟩
       case measure=>simp [intOf];omega
      ·have hz:qw (jG f y y')≠0:=fun e=>hc (Js.1 e)
       have HF:Hid (cmpL (JE (jG f)) E E'=jG f y y'):=ja (by
        rw [jc HD,Jp]
        show jw (jG f y y') _=_
        rw [jN hc])
       clear HD HE hc;generalize hr:qw (jG f y y')=r at *;have HR:=ja hr;clear hr;go_wp2;go_ret;refine⟨?_,(jc B0).trans ((jc HX).mono (jc B0).size)⟩;rw [jc HM,jc HF,jc HR];rfl
     ·have hsl:key.data.toList≠key'.data.toList:=fun e=>hs (by
       obtain⟨⟨x⟩⟩:=key;obtain⟨⟨y⟩⟩:=key';exact congrArg (fun l=>(⟨⟨l⟩⟩:ByteArray)) e)
      have hs2:(key.toList == key'.toList)=false:=by rw [ByteArray.toList_eq,ByteArray.toList_eq];exact beq_eq_false_iff_ne.2 hsl
      have HF:Hid (cmpL (JE (jG f)) E E'=zH key.data.toList key'.data.toList):=ja (by rw [jc HD,jN (ZR hsl),jN (ZR hsl)]);obtain⟨r,hr⟩:∃r:Int,(if Op.bytesLess key.toList key'.toList=true then (-1:Int) else 1)=r:=⟨_,rfl⟩
      have SS:∀u,Hid (Calls Tryd.prog 50 #[.bool (Op.bytesLess key.toList key'.toList)] u fun e w'=>e=.returned (.int .i64 r)/\w'=u):=fun u=>ja (by rw [<-hr];exact qP u (Op.bytesLess key.toList key'.toList))
      have HR:=ja hr;clear HD HE KE hs hr
      go_upto_region 23 with fail
      go_quiet (fail)
      go_upto_region 24 with fail
      go_region_with (go_at_call 50
                      refine(jc (SS _)).mono ?_
                      rintro e w3 ⟨rfl,hw3⟩
                      have B3:Hid (Below w0.heap.size w0 w3):=ja (by rw [hw3];exact below_drewN (below_drewN (jc HW) _) 1);clear hw3)
      all_goals
       go_wp2_with fail
       go_ret;refine⟨?_,(jc B0).trans ((jc B3).mono (jc B0).size)⟩;rw [jc HM,jc HF,Zg hsl];have HR2:=jc HR;rw [ByteArray.toList_eq,ByteArray.toList_eq] at HR2;rw [HR2];rfl
    ·have HN:Hid (cmpL (JE (jG f)) E E'=if E.length=E'.length then .eq else if E.length<E'.length then .lt else .gt):=ja ((jc HE).trans (Xb hlt hj hj'))
     clear HE;have SS:Hid _:=ja (qP wr (decide (E.length<E'.length)));have hnot:(j:Int)<(E.length:Int)->¬(j:Int)<(E'.length:Int):=fun h h'=>hlt ⟨by omega,by omega⟩
     by_cases hll:E.length=E'.length
     case neg=>
      have hli:¬(E.length:Int)=(E'.length:Int):=by omega
      by_cases hj1:j<E.length
      all_goals
       go_wp2_with fail
       refine(jc SS).mono ?_
       rintro e w3 ⟨rfl,rfl⟩
       generalize hr:(if decide (E.length<E'.length)=true then (-1:Int) else 1)=r;have HR:=ja hr;clear hr
       go_wp2_with fail
       go_ret;refine⟨?_,(jc B0).trans ((jc HW).mono (jc B0).size)⟩;rw [jc HM,jc HN,Xt hll,jc HR];rfl
     have hj1:j=E.length:=by omega
     have hli:(E.length:Int)=(E'.length:Int):=by omega
     clear SS hnot;subst hj1;have i9:¬(E.length:Int)<(E.length:Int):=by omega
     have HZ:Hid (cmpL (JE (jG f)) E E'=.eq):=ja (by rw [jc HN,if_pos hll])
     go_wp2_with fail
     go_ret;refine⟨?_,(jc B0).trans ((jc HW).mono (jc B0).size)⟩;rw [jc HM,jc HZ];rfl
open Go.RowKit
theorem QC:∀(f:Nat) (ok oq:Nat->Prop) (w:World) (t u:V) (a0 a1 a2 a3 a4 a5 b0 b1 b2 b3 b4 b5:Value),LiesV ok f w [a0,a1,a2,a3,a4,a5] t->LiesV oq f w [b0,b1,b2,b3,b4,b5] u->
  Calls Tryd.prog 34 #[.agg #[a0,a1,a2,a3,a4,a5],.agg #[b0,b1,b2,b3,b4,b5]] w fun e w'=>e=.returned (.int .i64 (qw (jG f t u)))/\Below w.heap.size w w'
 | 0,ok,oq,w,t,u,a0,a1,a2,a3,a4,a5,b0,b1,b2,b3,b4,b5,ha,_=>ha.elim
 | f+1,ok,oq,w,t,u,a0,a1,a2,a3,a4,a5,b0,b1,b2,b3,b4,b5,ha,hb=>by
  obtain⟨k,n,b,s,L,E,pL,pE,cL,cE,rfl,h2,h3,h4,h5,h6⟩:=ha;obtain⟨k',n',b',s',L',E',pL',pE',cL',cE',rfl,h2',h3',h4',h5',h6'⟩:=hb;simp only [List.cons.injEq,and_true] at h2 h2';obtain⟨rfl,rfl,rfl,rfl,rfl,rfl⟩:=h2;obtain⟨rfl,rfl,rfl,rfl,rfl,rfl⟩:=h2';have hm:maxLen=9223372036854775807:=rfl
  by_cases hk:k=k'
  ·subst hk
   by_cases hn:n=n'
   ·subst hn
    by_cases hbb:b=b'
    ·subst hbb
     by_cases hs:s=s'
     ·subst hs
      exact Y1 f w k n b s L E pL pE cL cE L' E' pL' pE' cL' cE' (QC f) ok oq h5 h5' h6 h6' (by omega) (by omega) (by omega) (by omega)
     ·exact jaJ f w k n b s L E pL pE cL cE s' L' E' pL' pE' cL' cE' hs
    ·exact jaD f w k n b s L E pL pE cL cE b' s' L' E' pL' pE' cL' cE' h3.2.2.1 h3'.2.2.1 hbb
   ·exact jbs f w k n b s L E pL pE cL cE n' b' s' L' E' pL' pE' cL' cE' hn
  ·exact ja6 f w k n b s L E pL pE cL cE k' n' b' s' L' E' pL' pE' cL' cE' hk
theorem jaB (f:Nat)(ok oq:Nat->Prop)(w:World)(t u:V)(a0 a1 a2 a3 a4 a5 b0 b1 b2 b3 b4 b5:Value)(ha:LiesV ok f w [a0,a1,a2,a3,a4,a5] t)(hb:LiesV oq f w [b0,b1,b2,b3,b4,b5] u) :
  Calls Tryd.prog 13 #[.agg #[a0,a1,a2,a3,a4,a5],.agg #[b0,b1,b2,b3,b4,b5]] w fun e w'=>e=.returned (.bool (decide (jG f t u=.eq)))/\Below w.heap.size w w':=by
 have K:∀u',Below w.heap.size w u'->Hid (Calls Tryd.prog 34 #[.agg #[a0,a1,a2,a3,a4,a5],.agg #[b0,b1,b2,b3,b4,b5]] u' fun e w'=>e=.returned (.int .i64 (qw (jG f t u)))/\Below u'.heap.size u' w'):=fun u' h=>QC f ok oq u' t u a0 a1 a2 a3 a4 a5 b0 b1 b2 b3 b4 b5 (ha.below h) (hb.below h)
 obtain⟨k,n,b,s,pL,nL,cL,pE,nE,cE,rfl,rfl,rfl,rfl,rfl,rfl⟩:=ha.form;obtain⟨k',n',b',s',pL',nL',cL',pE',nE',cE',rfl,rfl,rfl,rfl,rfl,rfl⟩:=hb.form;have hz:(qw (jG f t u) == 0)=decide (jG f t u=.eq):=by cases jG f t u<;>rfl
 rw [<-hz];clear hz ha hb;generalize qw (jG f t u)=r at *;obtain⟨W,hW⟩:∃W,W=(w.alloc (.cells #[.int .i64 k,.int .i64 n,.int .u64 (b:Int),.string s,.slice pL nL cL,.slice pE nE cE] 26)).alloc (.cells #[.int .i64 k',.int .i64 n',.int .u64 (b':Int),.string s',.slice pL' nL' cL',.slice pE' nE' cE'] 26):=⟨_,rfl⟩
 have hbW:Below w.heap.size w W:=by rw [hW];exact((Below.refl _ w).alloc (Nat.le_refl _) _).alloc (by simp) _
 have na:Blk W w.heap.size #[.int .i64 k,.int .i64 n,.int .u64 (b:Int),.string s,.slice pL nL cL,.slice pE nE cE] 26:=by rw [hW];exact(jb _ _ _).alloc _
 have nb:Blk W (w.heap.size+1) #[.int .i64 k',.int .i64 n',.int .u64 (b':Int),.string s',.slice pL' nL' cL',.slice pE' nE' cE'] 26:=by
  rw [hW];have:=jb (w.alloc (.cells #[.int .i64 k,.int .i64 n,.int .u64 (b:Int),.string s,.slice pL nL cL,.slice pE nE cE] 26)) #[.int .i64 k',.int .i64 n',.int .u64 (b':Int),.string s',.slice pL' nL' cL',.slice pE' nE' cE'] 26;rwa [World.size_alloc] at this
 obtain⟨c0,c1,c2,c3,c4,c5⟩:=na.cells6;obtain⟨d0,d1,d2,d3,d4,d5⟩:=nb.cells6;have KW:=K W hbW;clear K
 go_enter Tryd.func13,Tryd.ntmps13
 go_upto_region 1 with fail
 rw [<-hW];clear hW na nb
 go_wp2_with (go_at_call 34;refine(jc KW).mono ?_;rintro e w1 ⟨rfl,h1⟩)
 go_ret;exact⟨rfl,hbW.trans (h1.mono hbW.size)⟩
end valus
end Go.Proofs.YtadaehaemmelfaaDoor
