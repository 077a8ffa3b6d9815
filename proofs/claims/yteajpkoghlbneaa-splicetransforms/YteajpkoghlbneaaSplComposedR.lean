/- The document's Composed, SameChange, match. -/
import Derived.Test.YteajpkoghlbneaaSplNormalR
import Derived.Test.YteajpkoghlbneaaSplAtomsR
import Derived.Test.YteajpkoghlbneaaSplFaultR
import Derived.Test.YteajpkoghlbneaaSplEqW
set_option linter.unusedVariables false
namespace Go.Proofs.Yteajpkoghlbneaa.spls
open Go.RowKit

theorem act_mem : ∀ (x : List M) (l : List At) (a : At), a ∈ act ptA x l → a ∈ l ∨ a.1 = -1
  | [], l, a, h => by simp [act] at h
  | none :: x, [], a, h => by simp [act] at h
  | none :: x, b :: l, a, h => by
    rcases List.mem_cons.1 h with rfl | h
    · exact .inl List.mem_cons_self
    · exact (act_mem x l a h).imp (List.mem_cons_of_mem _) id
  | some none :: x, l, a, h => (act_mem x l.tail a h).imp List.mem_of_mem_tail id
  | some (some b) :: x, l, a, h => by
    rcases List.mem_cons.1 h with rfl | h
    · exact .inr rfl
    · exact act_mem x l a h
theorem whole_mem : ∀ (n i : Nat) (a : At), a ∈ whole i n → 0 ≤ a.1 ∧ a.1 < ((i + n : Nat) : Int)
  | 0, i, a, h => by simp [whole] at h
  | n + 1, i, a, h => by
    rcases List.mem_cons.1 h with rfl | h
    · show (0 : Int) ≤ (i : Int) ∧ (i : Int) < _; omega
    · have := whole_mem n (i + 1) a h
      omega
end Go.Proofs.Yteajpkoghlbneaa.spls
