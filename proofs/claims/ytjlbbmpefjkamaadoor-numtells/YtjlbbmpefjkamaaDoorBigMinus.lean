/- The walks of the document's answer: Minus. -/
import Derived.Test.YtjlbbmpefjkamaaDoorBigPlus
import Derived.Deep.QuietTactic
import Derived.BigQuiet
set_option linter.unusedVariables false
namespace Go.Proofs.YtjlbbmpefjkamaaDoor.bigs
open Go.RowKit

theorem made_zero (n : Nat) : (madeCells #[Value.int .i64 0] n).toList = (List.replicate n 0).map num := by
  rw [toList_madeCells_one]
  simp [num]
theorem small_zero (n : Nat) : Small10 (List.replicate n 0) := by
  intro j hj
  rw [List.length_replicate] at hj
  simp [List.getD, hj]
theorem take_set_next (l : List Nat) (k d : Nat) (h : k < l.length) : (l.set k d).take (k + 1) = l.take k ++ [d] := by
  rw [take_succ _ _ (by simpa using h), List.take_set_of_le (by omega)]
  simp [List.getD, h]
theorem small_set {l : List Nat} {k d : Nat} (hs : Small10 l) (hd : d < 10000) : Small10 (l.set k d) := by
  intro j hj
  rw [List.length_set] at hj
  by_cases e : k = j
  · subst e
    simp [List.getD, hj, hd]
  · rw [List.getD, List.getElem?_set_ne e]
    exact hs j hj
/-- A round of the difference: d is what is told, and p what is borrowed. -/
theorem minus_round {l a b : List Nat} {k q d p : Nat} (hk : k < l.length) (h : val (l.take k) + val (b.take k) = val (a.take k) + 10000 ^ k * q) (hd : d + b.getD k 0 + q = a.getD k 0 + 10000 * p) :
    val ((l.set k d).take (k + 1)) + val (b.take (k + 1)) = val (a.take (k + 1)) + 10000 ^ (k + 1) * p := by
  rw [take_set_next l k d hk, val_append, val_one, List.length_take, Nat.min_eq_left (by omega), val_take_next, val_take_next]
  generalize a.getD k 0 = x at *
  generalize b.getD k 0 = y at *
  have e : 10000 ^ (k + 1) * p = 10000 ^ k * (10000 * p) := by rw [Nat.pow_succ, Nat.mul_assoc]
  have e2 : 10000 ^ k * d + 10000 ^ k * y + 10000 ^ k * q = 10000 ^ k * x + 10000 ^ k * (10000 * p) := by
    rw [← Nat.mul_add, ← Nat.mul_add, ← Nat.mul_add, hd]
  omega
theorem dig_len_mono {m n : Nat} (h : m ≤ n) : (dig m).length ≤ (dig n).length := dig_length_le (Nat.lt_of_le_of_lt h (lt_pow_dig n))
theorem minus_end {l : List Nat} {m n q : Nat} (hnm : n ≤ m) (hl : l.length = (dig m).length) (hs : Small10 l) (h : val l + val ((dig n).take (dig m).length) = m + 10000 ^ (dig m).length * q) : val l = m - n := by
  have h1 := val_lt hs
  rw [hl] at h1
  rw [List.take_of_length_le (dig_len_mono hnm), val_dig] at h
  cases q with
  | zero => omega
  | succ q =>
    have : 10000 ^ (dig m).length * (q + 1) = 10000 ^ (dig m).length * q + 10000 ^ (dig m).length := by rw [Nat.mul_add, Nat.mul_one]
    omega

end Go.Proofs.YtjlbbmpefjkamaaDoor.bigs
