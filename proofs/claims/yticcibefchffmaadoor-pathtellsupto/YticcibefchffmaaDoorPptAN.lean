/- Of our texts, what this claim reaches. -/
import Derived.Test.YticcibefchffmaaDoorProg
import Derived.Test.YticcibefchffmaaDoorPptAA
import Derived.WalkKit
import Derived.WalkSmall
import Derived.OwnWalk
import Derived.BigCall
import Derived.Maps.AppendAt
import Derived.Laws.OwnMore
import Derived.Below
set_option linter.unusedVariables false
namespace Go.Proofs.YticcibefchffmaaDoor
namespace bigs
open Go.RowKit
theorem jb {p:Prop}(h:p):Hid p:=h
theorem ja {p:Prop}(h:Hid p):p:=h
def Row (w:World)(a:Option Addr)(l:List Nat):Prop :=
 l≠[]->∃b o,a=some ⟨b,o,none⟩/\b<w.heap.size/\∀j,j<l.length->w.cell? ⟨b,o+j,none⟩=some (.int .i64 ((l.getD j 0:Nat):Int))
def Lies (w:World)(v:Value)(n:Nat):Prop:=∃a cap,v=.slice a (dig n).length cap/\(dig n).length<=cap/\Row w a (dig n)
theorem Row.below {w w':World}{a:Option Addr}{l:List Nat}(h:Row w a l)(hb:Below w.heap.size w w'):Row w' a l:=by
 intro h0;obtain⟨b,o,e,hlt,hc⟩:=h h0;refine⟨b,o,e,Nat.lt_of_lt_of_le hlt hb.size,fun j hj=>?_⟩;rw [hb.cell (p:=⟨b,o+j,none⟩) hlt];exact hc j hj
theorem Lies.below {w w':World}{v:Value}{n:Nat}(h:Lies w v n)(hb:Below w.heap.size w w'):Lies w' v n:=by
 obtain⟨a,cap,e,hc,hr⟩:=h;exact⟨a,cap,e,hc,hr.below hb⟩
end bigs
end Go.Proofs.YticcibefchffmaaDoor
