/- Of our texts, what this claim reaches. -/
import Derived.Test.YtadaehaemmelfaaDoorPaaAD
import Derived.Test.YtadaehaemmelfaaDoorPaaAE
import Derived.Test.YtadaehaemmelfaaDoorPaaAK
set_option linter.unusedVariables false
namespace Go.Proofs.YtadaehaemmelfaaDoor.valus
open Go.RowKit
abbrev KindOk (k n : Int) (b : Nat) (s : List UInt8) (nl ne : Nat) : Prop :=
 (0 ≤ k ∧ k ≤ 6) ∧ (n = 0 ∨ k = 1 ∨ k = 2) ∧ (k = 1 → n = 0 ∨ n = 1) ∧ (b = 0 ∨ k = 3) ∧ (s = [] ∨ k = 4) ∧ (nl = 0 ∨ k = 5) ∧ (ne = 0 ∨ k = 6) ∧ ((fparts b).2.2 = 2 → b = 9221120237041090561)
def aheadF : Option (List UInt8) → List UInt8 → Int
 | none, _ => 0
 | some q, k => if Op.bytesLess q k = true then 0 else 14
def keyF (p : Option (List UInt8)) (k : List UInt8) : Int :=
 if 100 < k.length then 2 else if 0 ≤ utfs.bad k then 3 else aheadF p k
def keysF : Option (List UInt8) → List (List UInt8) → Int
 | _, [] => 0
 | p, k :: r => if keyF p k = 0 then keysF (some k) r else keyF p k
def keysV (E : List V) : List (List UInt8) := E.map fun e => (opnE e).1
def oneV (t : V) : Int :=
 if ¬ KindOk (opn t).1.1 (opn t).1.2.1 (opn t).1.2.2.1 (opn t).1.2.2.2 (opn t).2.1.length (opn t).2.2.length then 10
 else if 4000 < (opn t).1.2.2.2.length ∨ 200 < (opn t).2.1.length ∨ 200 < (opn t).2.2.length then 2
 else if 0 ≤ utfs.bad (opn t).1.2.2.2 then 3
 else keysF none (keysV (opn t).2.2)
theorem keysF_at {p : Option (List UInt8)} {l : List (List UInt8)} {j : Nat} {k : List UInt8} (h : l[j]? = some k) : keysF p (l.drop j) = if keyF p k = 0 then keysF (some k) (l.drop (j + 1)) else keyF p k := by
 obtain ⟨hlt, e⟩ := List.getElem?_eq_some_iff.1 h
 rw [List.drop_eq_getElem_cons hlt, e]
 rfl
theorem le_less (a b : List UInt8) : (Op.bytesLess a b || a == b) = !Op.bytesLess b a := by
 rw [less_cmp, less_cmp, cmpB_ord.swap b a trivial trivial]
 by_cases e : a = b
 ·subst e
  rw [cmpB_refl]
  simp [Ordering.swap]
 ·have h1 : (a == b) = false := beq_false_of_ne e
  rw [h1, Bool.or_false]
  cases c : cmpB b a with
  | lt => rfl
  | eq => exact absurd ((cmpB_ord.same b a trivial trivial).1 c).symm e
  | gt => rfl
theorem keyF_range (p : Option (List UInt8)) (k : List UInt8) : 0 ≤ keyF p k ∧ keyF p k ≤ 14 := by
 unfold keyF
 split
 ·decide
 ·split
  ·decide
  ·cases p with
   | none => exact ⟨Int.le_refl 0, by show (0 : Int) ≤ 14; decide⟩
   | some q =>
    show 0 ≤ (if Op.bytesLess q k = true then (0 : Int) else 14) ∧ (if Op.bytesLess q k = true then (0 : Int) else 14) ≤ 14
    split <;> decide
theorem keysF_range : ∀ (l : List (List UInt8)) (p : Option (List UInt8)), 0 ≤ keysF p l ∧ keysF p l ≤ 14
 | [], p => by simp [keysF]
 | k :: l, p => by
  unfold keysF
  split
  ·exact keysF_range l _
  ·exact keyF_range p k
theorem oneV_range (t : V) : 0 ≤ oneV t ∧ oneV t ≤ 14 := by
 unfold oneV
 split
 ·decide
 ·split
  ·decide
  ·split
   ·decide
   ·exact keysF_range _ _
end Go.Proofs.YtadaehaemmelfaaDoor.valus
