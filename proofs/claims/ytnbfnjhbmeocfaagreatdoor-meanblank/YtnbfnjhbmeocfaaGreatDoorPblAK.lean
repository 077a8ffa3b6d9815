/- Of our texts, what this claim reaches. -/
import Derived.Test.YtnbfnjhbmeocfaaGreatDoorPblAJ
import Derived.WalkSmall
import Derived.OwnWalk
set_option linter.unusedVariables false
set_option linter.unusedVariables false
namespace Go.Proofs.YtnbfnjhbmeocfaaGreatDoor.utfs
open Go.RowKit
def byt (l : List UInt8) (i : Nat) : Nat := (l.getD i 0).toNat
def cont (l : List UInt8) (j : Nat) : Prop := 128 ≤ byt l j ∧ byt l j < 192
end Go.Proofs.YtnbfnjhbmeocfaaGreatDoor.utfs
namespace Go.Proofs.YtnbfnjhbmeocfaaGreatDoor.utfs
open Go.RowKit
def Elems (w : World) (a : Option Addr) (l : List Int) : Prop :=
 0 < l.length → ∃ b o, a = some ⟨b, o, none⟩ ∧ b < w.heap.size ∧ ∀ j, j < l.length → w.cell? ⟨b, o + j, none⟩ = some (.int .i32 (l.getD j 0))
theorem Elems.below {w w' : World} {a : Option Addr} {l : List Int} (h : Elems w a l) (hb : Below w.heap.size w w') : Elems w' a l := by
 intro h0
 obtain ⟨b, o, e, hlt, hc⟩ := h h0
 refine ⟨b, o, e, Nat.lt_of_lt_of_le hlt hb.size, fun j hj => ?_⟩
 rw [hb.cell (p := ⟨b, o + j, none⟩) hlt]
 exact hc j hj
end Go.Proofs.YtnbfnjhbmeocfaaGreatDoor.utfs
