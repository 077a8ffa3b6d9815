/- Of our texts, what this claim reaches. -/
import Derived.Test.YtnbfnjhbmeocfaaGreatDoorProg
import Derived.Test.YtnbfnjhbmeocfaaGreatDoorPmtAA
import Derived.WalkKit
import Derived.WalkSmall
import Derived.OwnWalk
import Derived.BigCall
import Derived.Maps.AppendAt
import Derived.Laws.OwnMore
import Derived.Below
set_option linter.unusedVariables false
namespace Go.Proofs.YtnbfnjhbmeocfaaGreatDoor
namespace bigs
open Go.RowKit
theorem jd {p:Prop}(h:p):Hid p:=h
theorem ja {p:Prop}(h:Hid p):p:=h
def Row (w:World)(a:Option Addr)(l:List Nat):Prop :=
 l≠[]->∃b o,a=some ⟨b,o,none⟩/\b<w.heap.size/\∀j,j<l.length->w.cell? ⟨b,o+j,none⟩=some (.int .i64 ((l.getD j 0:Nat):Int))
def Lies (w:World)(v:Value)(n:Nat):Prop:=∃a cap,v=.slice a (dig n).length cap/\(dig n).length<=cap/\Row w a (dig n)
theorem Row.below {w w':World}{a:Option Addr}{l:List Nat}(h:Row w a l)(hb:Below w.heap.size w w'):Row w' a l:=by
 intro h0;obtain⟨b,o,e,hlt,hc⟩:=h h0;refine⟨b,o,e,Nat.lt_of_lt_of_le hlt hb.size,fun j hj=>?_⟩;rw [hb.cell (p:=⟨b,o+j,none⟩) hlt];exact hc j hj
theorem Lies.below {w w':World}{v:Value}{n:Nat}(h:Lies w v n)(hb:Below w.heap.size w w'):Lies w' v n:=by
 obtain⟨a,cap,e,hc,hr⟩:=h;exact⟨a,cap,e,hc,hr.below hb⟩
theorem Row.take {w:World}{a:Option Addr}{l:List Nat}(h:Row w a l)(k:Nat):Row w a (l.take k):=by
 intro h0;have hl:l≠[]:=fun e=>h0 (by rw [e,List.take_nil])
 obtain⟨b,o,e,hlt,hc⟩:=h hl;refine⟨b,o,e,hlt,fun j hj=>?_⟩;rw [List.length_take] at hj;rw [hc j (by omega)];simp [List.getD,show j<k by omega]
theorem jjm {w:World}{base e n:Nat}{v:Value}{xs:List Value}(h:w.ownsRow base e 1 v n xs):∀g,v.ownBlock=some g->base<=g:=fun g hg=>(h.lt g hg).1
open Go.RowKit
def sgn (m n:Nat):Int:=if m<n then -1 else if n<m then 1 else 0
theorem jcD {m n:Nat}(h:m<n):sgn m n = -1:=by unfold sgn;rw [if_pos h]
theorem jfo {m n:Nat}(h:n<m):sgn m n=1:=by unfold sgn;rw [if_neg (by omega),if_pos h]
theorem jjk {m n:Nat}(h:m=n):sgn m n=0:=by subst h;unfold sgn;rw [if_neg (by omega),if_neg (by omega)]
end bigs
end Go.Proofs.YtnbfnjhbmeocfaaGreatDoor
