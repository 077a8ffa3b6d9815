/- Of our texts, what this claim reaches. -/
import Derived.Test.YtnbfnjhbmeocfabGreatDoorProg
import Derived.Test.YtnbfnjhbmeocfabGreatDoorPssAA
import Derived.WalkKit
import Derived.WalkSmall
import Derived.OwnWalk
import Derived.BigCall
import Derived.Maps.AppendAt
import Derived.Laws.OwnMore
import Derived.Below
set_option linter.unusedVariables false
namespace Go.Proofs.YtnbfnjhbmeocfabGreatDoor.bigs
open Go.RowKit
theorem hide {p : Prop} (h : p) : Hid p := h
theorem unhide {p : Prop} (h : Hid p) : p := h
def num (n : Nat) : Value := .int .i64 (n : Int)
end Go.Proofs.YtnbfnjhbmeocfabGreatDoor.bigs
namespace Go.Proofs.YtnbfnjhbmeocfabGreatDoor.bigs
open Go.RowKit
def sgn (m n : Nat) : Int := if m < n then -1 else if n < m then 1 else 0
theorem sgn_lt {m n : Nat} (h : m < n) : sgn m n = -1 := by unfold sgn; rw [if_pos h]
theorem sgn_gt {m n : Nat} (h : n < m) : sgn m n = 1 := by unfold sgn; rw [if_neg (by omega), if_pos h]
theorem sgn_eq {m n : Nat} (h : m = n) : sgn m n = 0 := by subst h; unfold sgn; rw [if_neg (by omega), if_neg (by omega)]
end Go.Proofs.YtnbfnjhbmeocfabGreatDoor.bigs
