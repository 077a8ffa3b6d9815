/- Of our texts, what this claim reaches. -/
import Derived.Test.YtnbfnjhbmeocfaaGreatDoorPmtAV
import Derived.StillTail
import Derived.Deep.QuietTactic
import Derived.Test.YtnbfnjhbmeocfaaGreatDoorPmtAH
import Derived.Deep.CutRange
import Derived.BigQuiet
import Derived.Lib.AppendIntMem
import Derived.Lib.Walk
import Derived.BigCall
import Derived.BigGuard
import Derived.Test.YtnbfnjhbmeocfaaGreatDoorPmtAU
import Derived.Laws.BytesString
import Derived.Laws.Cells
import Derived.Laws.BitsAllLaws
import Derived.Test.YtnbfnjhbmeocfaaGreatDoorPmtAR
import Derived.Deep.RegionWith
set_option linter.unusedVariables false
set_option linter.unusedSimpArgs false
namespace Go.Proofs.YtnbfnjhbmeocfaaGreatDoor
namespace bigs
open Go.RowKit
def UnitOf (w:World)(d:Value)(Y c:Nat):Prop:=∃A B,DivOf w d A B/\0<B/\A / B=Y / 10 ^ c/\(A % B=0↔Y % 10 ^ c=0)
theorem UnitOf.below {w w':World}{d:Value}{Y c:Nat}(h:UnitOf w d Y c)(hb:Below w.heap.size w w'):UnitOf w' d Y c:=by
 obtain⟨A,B,h1,h2⟩:=h;exact⟨A,B,h1.below hb,h2⟩
open Go.RowKit
structure Sof (w1 wx:World) (bm bh bl:Nat) (v7 v8 v9:Value) (r m lo:Nat):Prop where
 l7:Lies wx v7 (fX r)
 l8:Lies wx v8 (fH r)
 l9:Lies wx v9 lo
 km:Blk wx bm #[.int .u64 (m:Int)] 22
 kh:Blk wx bh #[v8] 100
 kl:Blk wx bl #[v9] 100
 be:Below w1.heap.size w1 wx
 ne:bh≠bl
 ge:w1.heap.size<=bl
theorem Sof.below {w1 wx wy:World}{bm bh bl:Nat}{v7 v8 v9:Value}{r m lo:Nat}(h:Sof w1 wx bm bh bl v7 v8 v9 r m lo)(hb:Below wx.heap.size wx wy):Sof w1 wy bm bh bl v7 v8 v9 r m lo :=
 ⟨h.l7.below hb,h.l8.below hb,h.l9.below hb,h.km.below hb,h.kh.below hb,h.kl.below hb,h.be.trans (hb.mono h.be.size),h.ne,h.ge⟩
end bigs
end Go.Proofs.YtnbfnjhbmeocfaaGreatDoor
