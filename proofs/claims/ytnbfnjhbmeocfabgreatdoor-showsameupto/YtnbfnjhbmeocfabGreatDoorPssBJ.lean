/- Of our texts, what this claim reaches. -/
import Derived.Test.YtnbfnjhbmeocfabGreatDoorPssAX
import Derived.Test.YtnbfnjhbmeocfabGreatDoorPssAI
import Derived.BigQuiet
import Derived.Deep.CutRange
import Derived.Test.YtnbfnjhbmeocfabGreatDoorPssAW
set_option linter.unusedVariables false
namespace Go.Proofs.YtnbfnjhbmeocfabGreatDoor.bigs
open Go.RowKit
def Sign (l t : List UInt8) (sg : Nat) : Prop := (l = 45 :: t ∧ sg = 9223372036854775808) ∨ ((∀ r, l ≠ 45 :: r) ∧ t = l ∧ sg = 0)
def ReadsTo (l : List UInt8) (v : Nat) (x : Int) : Prop :=
 (80 < l.length ∧ v = 0 ∧ x = 2) ∨ (l.length ≤ 80 ∧ l = [110, 97, 110] ∧ v = 9221120237041090561 ∧ x = 0) ∨
 (l.length ≤ 80 ∧ l ≠ [110, 97, 110] ∧ ∃ t sg, Sign l t sg ∧ ((t = [105, 110, 102] ∧ v = sg + 9218868437227405312 ∧ x = 0) ∨ (t ≠ [105, 110, 102] ∧ Res t sg v x)))
theorem sign_unique {l t t' : List UInt8} {sg sg' : Nat} (h : Sign l t sg) (k : Sign l t' sg') : t = t' ∧ sg = sg' := by
 rcases h with ⟨a, b⟩ | ⟨a, b, c⟩ <;> rcases k with ⟨a', b'⟩ | ⟨a', b', c'⟩
 ·rw [a] at a'; injection a' with _ e; exact ⟨e, by rw [b, b']⟩
 ·exact absurd a (a' t)
 ·exact absurd a' (a t')
 ·exact ⟨by rw [b, b'], by rw [c, c']⟩
theorem reads_unique {l : List UInt8} {v v' : Nat} {x x' : Int} (h : ReadsTo l v x) (k : ReadsTo l v' x') : v = v' ∧ x = x' := by
 rcases h with ⟨a, b, c⟩ | ⟨a, b, c, d⟩ | ⟨a, b, t, sg, s, r⟩ <;> rcases k with ⟨a', b', c'⟩ | ⟨a', b', c', d'⟩ | ⟨a', b', t', sg', s', r'⟩
 ·exact ⟨by rw [b, b'], by rw [c, c']⟩
 ·omega
 ·omega
 ·omega
 ·exact ⟨by rw [c, c'], by rw [d, d']⟩
 ·exact absurd b b'
 ·omega
 ·exact absurd b' b
 ·obtain ⟨e1, e2⟩ := sign_unique s s'
  subst e1 e2
  rcases r with ⟨r1, r2, r3⟩ | ⟨r1, r2⟩ <;> rcases r' with ⟨q1, q2, q3⟩ | ⟨q1, q2⟩
  ·exact ⟨by rw [r2, q2], by rw [r3, q3]⟩
  ·exact absurd r1 q1
  ·exact absurd q1 r1
  ·exact res_unique r2 q2
end Go.Proofs.YtnbfnjhbmeocfabGreatDoor.bigs
