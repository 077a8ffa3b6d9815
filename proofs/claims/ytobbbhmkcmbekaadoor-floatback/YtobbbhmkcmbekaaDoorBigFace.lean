/- What the calls of package big answer, as the document says it, in the words of the walks; and slices.Equal over words. -/
import Derived.Test.YtobbbhmkcmbekaaDoorBigText
set_option linter.unusedVariables false
namespace Go.Proofs.YtobbbhmkcmbekaaDoor.bigs
open Go.RowKit

/-- A slice of words. -/
def WSl (w : World) (v : Value) (l : List Nat) : Prop := ∃ a cap, v = .slice a l.length cap ∧ l.length ≤ cap ∧ RowU w a l
/-- The words of a number. -/
def WBig (w : World) (v : Value) (n : Nat) : Prop := WSl w v (wdig n)
theorem WSl.below {w w' : World} {v : Value} {l : List Nat} (h : WSl w v l) (hb : Below w.heap.size w w') : WSl w' v l := by
  obtain ⟨a, cap, e, hc, hr⟩ := h
  exact ⟨a, cap, e, hc, hr.below hb⟩
theorem WBig.below {w w' : World} {v : Value} {n : Nat} (h : WBig w v n) (hb : Below w.heap.size w w') : WBig w' v n := WSl.below h hb
theorem words_wdig (n : Nat) : Words32 (wdig n) := by
  induction n using Nat.strongRecOn with
  | ind n ih =>
    by_cases h : n = 0
    · subst h; rw [wdig_zero]; intro j hj; simp at hj
    · rw [wdig_pos h]; exact words_cons.2 ⟨by omega, ih _ (by omega)⟩

theorem utake_succ (l : List Nat) (k : Nat) (h : k < l.length) : l.take (k + 1) = l.take k ++ [l.getD k 0] := take_succ l k h

end Go.Proofs.YtobbbhmkcmbekaaDoor.bigs
