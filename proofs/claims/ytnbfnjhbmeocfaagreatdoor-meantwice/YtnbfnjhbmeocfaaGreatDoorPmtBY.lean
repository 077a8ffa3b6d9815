/- Of our texts, what this claim reaches. -/
import Derived.Test.YtnbfnjhbmeocfaaGreatDoorPmtBX
import Derived.Test.YtnbfnjhbmeocfaaGreatDoorPmtAF
import Derived.Maps.OwnIn
import Derived.Test.YtnbfnjhbmeocfaaGreatDoorPmtAD
import Derived.Test.YtnbfnjhbmeocfaaGreatDoorPmtAH
import Derived.Laws.BitsLemmas
import Derived.Deep.RegionHeld3
import Derived.RangeFuncCalls
import Derived.Deep.QuietTactic
import Derived.BigQuiet
set_option linter.unusedVariables false
namespace Go.Proofs.YtnbfnjhbmeocfaaGreatDoor
namespace valus
open Go.RowKit Go.Shelf
attribute [local go_sem] Oper.semAt_some
open Go.RowKit Go.Shelf
attribute [local go_sem] Oper.semAt_some
open Go.RowKit Go.Shelf
structure HoldM (w:World) (N:Nat) (x0 x1 x2 x3 x4 x5 y0 y1 y2 y3 y4 y5:Value) (u:World):Prop where
 bel:Below N w u
 lt:N+1<u.heap.size
 c0:u.cell? ⟨N,0,none⟩=some x0
 c1:u.cell? ⟨N,1,none⟩=some x1
 c2:u.cell? ⟨N,2,none⟩=some x2
 c3:u.cell? ⟨N,3,none⟩=some x3
 c4:u.cell? ⟨N,4,none⟩=some x4
 c5:u.cell? ⟨N,5,none⟩=some x5
 d0:u.cell? ⟨N+1,0,none⟩=some y0
 d1:u.cell? ⟨N+1,1,none⟩=some y1
 d2:u.cell? ⟨N+1,2,none⟩=some y2
 d3:u.cell? ⟨N+1,3,none⟩=some y3
 d4:u.cell? ⟨N+1,4,none⟩=some y4
 d5:u.cell? ⟨N+1,5,none⟩=some y5
theorem HoldM.below {w:World}{N:Nat}{x0 x1 x2 x3 x4 x5 y0 y1 y2 y3 y4 y5:Value}{u u':World}(h:HoldM w N x0 x1 x2 x3 x4 x5 y0 y1 y2 y3 y4 y5 u)(hb:Below u.heap.size u u'):HoldM w N x0 x1 x2 x3 x4 x5 y0 y1 y2 y3 y4 y5 u':=by
 have l1:=h.lt;have k:∀j,u'.cell? ⟨N,j,none⟩=u.cell? ⟨N,j,none⟩:=fun j=>hb.cell (p:=⟨N,j,none⟩) (by simp only;omega)
 have k':∀j,u'.cell? ⟨N+1,j,none⟩=u.cell? ⟨N+1,j,none⟩:=fun j=>hb.cell (p:=⟨N+1,j,none⟩) (by simp only;omega)
 exact⟨h.bel.trans (hb.mono (by omega)),Nat.lt_of_lt_of_le h.lt hb.size,(k 0).trans h.c0,(k 1).trans h.c1,(k 2).trans h.c2,(k 3).trans h.c3,(k 4).trans h.c4,(k 5).trans h.c5,(k' 0).trans h.d0,(k' 1).trans h.d1,(k' 2).trans h.d2,(k' 3).trans h.d3,(k' 4).trans h.d4,(k' 5).trans h.d5⟩
end valus
end Go.Proofs.YtnbfnjhbmeocfaaGreatDoor
