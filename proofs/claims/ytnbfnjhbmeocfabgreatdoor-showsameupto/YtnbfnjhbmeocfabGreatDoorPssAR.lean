/- Of our texts, what this claim reaches. -/
import Derived.Test.YtnbfnjhbmeocfabGreatDoorPssAN
import Derived.Deep.QuietTactic
import Derived.BigQuiet
set_option linter.unusedVariables false
namespace Go.Proofs.YtnbfnjhbmeocfabGreatDoor.bigs
open Go.RowKit
def Nought (l : List Nat) (k : Nat) : Prop := ∀ j, k ≤ j → l.getD j 0 = 0
theorem nought_set {l : List Nat} {k j d : Nat} (h : Nought l k) (hj : j < k) : Nought (l.set j d) k := by
 intro i hi
 rw [List.getD, List.getElem?_set_ne (by omega)]
 exact h i hi
theorem nought_set' {l : List Nat} {k d : Nat} (h : Nought l k) : Nought (l.set k d) (k + 1) := by
 intro i hi
 rw [List.getD, List.getElem?_set_ne (by omega)]
 exact h i (by omega)
theorem nought_zero (n : Nat) : Nought (List.replicate n 0) 0 := by
 intro j _
 by_cases h : j < n
 ·simp [List.getD, h]
 ·rw [List.getD, List.getElem?_eq_none (by simp; omega)]; rfl
end Go.Proofs.YtnbfnjhbmeocfabGreatDoor.bigs
namespace Go.Proofs.YtnbfnjhbmeocfabGreatDoor.bigs
open Go.RowKit
theorem own_slice {w : World} {base e n : Nat} {v : Value} {xs : List Value} (h : w.ownsRow base e 1 v n xs) : ∃ b c, v = .slice b n c := by
 rcases h.2 with ⟨rfl, rfl⟩ | ⟨g, cap, cur, rfl, _⟩
 ·exact ⟨_, _, rfl⟩
 ·exact ⟨_, _, rfl⟩
theorem own_below {w w' : World} {base e n : Nat} {v : Value} {xs : List Value} (h : w.ownsRow base e 1 v n xs) (hb : Below w.heap.size w w') : w'.ownsRow base e 1 v n xs := by
 refine ⟨h.1, ?_⟩
 rcases h.2 with hn | ⟨g, cap, cur, e, h1, hg, rest⟩
 ·exact .inl hn
 ·refine .inr ⟨g, cap, cur, e, h1, ?_, rest⟩
  rw [hb.block g (Array.getElem?_eq_some_iff.1 hg).1]
  exact hg
end Go.Proofs.YtnbfnjhbmeocfabGreatDoor.bigs
