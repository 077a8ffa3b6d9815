/- What the calls of package big answer, as the document says it, in the words of the walks; and slices.Equal over words. -/
import Derived.Test.YtobbbhmkcmbekabDoorBigText
set_option linter.unusedVariables false
namespace Go.Proofs.YtobbbhmkcmbekabDoor.bigs
open Go.RowKit

/-- A slice of words. -/
def WSl (w : World) (v : Value) (l : List Nat) : Prop := ∃ a cap, v = .slice a l.length cap ∧ l.length ≤ cap ∧ RowU w a l
/-- The words of a number. -/
def WBig (w : World) (v : Value) (n : Nat) : Prop := WSl w v (wdig n)
theorem WSl.below {w w' : World} {v : Value} {l : List Nat} (h : WSl w v l) (hb : Below w.heap.size w w') : WSl w' v l := by
  obtain ⟨a, cap, e, hc, hr⟩ := h
  exact ⟨a, cap, e, hc, hr.below hb⟩
theorem WBig.below {w w' : World} {v : Value} {n : Nat} (h : WBig w v n) (hb : Below w.heap.size w w') : WBig w' v n := WSl.below h hb
theorem words_wdig (n : Nat) : Words32 (wdig n) := by
  induction n using Nat.strongRecOn with
  | ind n ih =>
    by_cases h : n = 0
    · subst h; rw [wdig_zero]; intro j hj; simp at hj
    · rw [wdig_pos h]; exact words_cons.2 ⟨by omega, ih _ (by omega)⟩

theorem utake_succ (l : List Nat) (k : Nat) (h : k < l.length) : l.take (k + 1) = l.take k ++ [l.getD k 0] := take_succ l k h

/-- The calls that a law over two numbers makes. -/
structure Face1 : Prop where
  trim : ∀ (w : World) (v : Value) (l : List Nat), WSl w v l → Words32 l → l.length ≤ 2000 → Calls Tryd.prog 30 #[v] w fun e w' => ∃ v', e = .returned v' ∧ WBig w' v' (wval l) ∧ Below w.heap.size w w'
  cmp : ∀ (w : World) (v u : Value) (l k : List Nat), WSl w v l → WSl w u k → Words32 l → Words32 k → l.length ≤ 2000 → k.length ≤ 2000 → Calls Tryd.prog 9 #[v, u] w fun e w' => e = .returned (.int .i64 (sgn (wval l) (wval k))) ∧ Below w.heap.size w w'
  len : ∀ (w : World) (v : Value) (l : List Nat), WSl w v l → Words32 l → l.length ≤ 2000 → Calls Tryd.prog 14 #[v] w fun e w' => e = .returned (.int .i64 (bits (wval l))) ∧ Below w.heap.size w w'
  add : ∀ (w : World) (v u : Value) (l k : List Nat), WSl w v l → WSl w u k → Words32 l → Words32 k → l.length ≤ 2000 → k.length ≤ 2000 → Calls Tryd.prog 39 #[v, u] w fun e w' => ∃ v', e = .returned v' ∧ WBig w' v' (wval l + wval k) ∧ Below w.heap.size w w'
  mul : ∀ (w : World) (v u : Value) (l k : List Nat), WSl w v l → WSl w u k → Words32 l → Words32 k → l.length ≤ 2000 → k.length ≤ 2000 → Calls Tryd.prog 10 #[v, u] w fun e w' => ∃ v', e = .returned v' ∧ WBig w' v' (wval l * wval k) ∧ Below w.heap.size w w'
  sub : ∀ (w : World) (v u : Value) (l k : List Nat), WSl w v l → WSl w u k → Words32 l → Words32 k → l.length ≤ 2000 → k.length ≤ 2000 → wval k ≤ wval l → Calls Tryd.prog 23 #[v, u] w fun e w' => ∃ v', e = .returned (.tuple #[v', .int .i64 0]) ∧ WBig w' v' (wval l - wval k) ∧ Below w.heap.size w w'
  subLess : ∀ (w : World) (v u : Value) (l k : List Nat), WSl w v l → WSl w u k → Words32 l → Words32 k → l.length ≤ 2000 → k.length ≤ 2000 → wval l < wval k → Calls Tryd.prog 23 #[v, u] w fun e w' => ∃ a cap, e = .returned (.tuple #[.slice a 0 cap, .int .i64 1]) ∧ Below w.heap.size w w'
  div : ∀ (w : World) (v u : Value) (l k : List Nat), WSl w v l → WSl w u k → Words32 l → Words32 k → l.length ≤ 2000 → k.length ≤ 2000 → wval k ≠ 0 → Calls Tryd.prog 37 #[v, u] w fun e w' => ∃ v1 v2, e = .returned (.tuple #[v1, v2, .int .i64 0]) ∧ WBig w' v1 (wval l / wval k) ∧ WBig w' v2 (wval l % wval k) ∧ Below w.heap.size w w'
  divNone : ∀ (w : World) (v u : Value) (l k : List Nat), WSl w v l → WSl w u k → Words32 l → Words32 k → l.length ≤ 2000 → k.length ≤ 2000 → wval k = 0 → Calls Tryd.prog 37 #[v, u] w fun e w' => ∃ a c a' c', e = .returned (.tuple #[.slice a 0 c, .slice a' 0 c', .int .i64 1]) ∧ Below w.heap.size w w'
end Go.Proofs.YtobbbhmkcmbekabDoor.bigs
