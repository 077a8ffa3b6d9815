/- The walks of the document's answer: By. -/
import Derived.Test.YtobbbhmkcmbekabDoorBigMinus
set_option linter.unusedVariables false
namespace Go.Proofs.YtobbbhmkcmbekabDoor.bigs
open Go.RowKit

theorem val_set (l : List Nat) (d : Nat) : ∀ j, j < l.length → val (l.set j d) + 10000 ^ j * l.getD j 0 = val l + 10000 ^ j * d := by
  induction l with
  | nil => intro j h; simp at h
  | cons x l ih =>
    intro j h
    cases j with
    | zero => simp [val]; omega
    | succ j =>
      have := ih j (by simpa using h)
      simp only [List.set_cons_succ, val, List.getD_cons_succ, Nat.pow_succ]
      have e1 : 10000 ^ j * 10000 * l.getD j 0 = 10000 * (10000 ^ j * l.getD j 0) := by rw [Nat.mul_comm (10000 ^ j), Nat.mul_assoc]
      have e2 : 10000 ^ j * 10000 * d = 10000 * (10000 ^ j * d) := by rw [Nat.mul_comm (10000 ^ j), Nat.mul_assoc]
      omega
/-- Nothing stands from place k on. -/
def Nought (l : List Nat) (k : Nat) : Prop := ∀ j, k ≤ j → l.getD j 0 = 0
theorem nought_set {l : List Nat} {k j d : Nat} (h : Nought l k) (hj : j < k) : Nought (l.set j d) k := by
  intro i hi
  rw [List.getD, List.getElem?_set_ne (by omega)]
  exact h i hi
theorem nought_set' {l : List Nat} {k d : Nat} (h : Nought l k) : Nought (l.set k d) (k + 1) := by
  intro i hi
  rw [List.getD, List.getElem?_set_ne (by omega)]
  exact h i (by omega)
theorem nought_zero (n : Nat) : Nought (List.replicate n 0) 0 := by
  intro j _
  by_cases h : j < n
  · simp [List.getD, h]
  · rw [List.getD, List.getElem?_eq_none (by simp; omega)]; rfl
theorem val_zero (n : Nat) : val (List.replicate n 0) = 0 := by
  induction n with
  | zero => rfl
  | succ n ih => rw [List.replicate_succ, val, ih]
/-- A round of the product. -/
theorem by_round {l b : List Nat} {i k q a X : Nat} (hj : i + k < l.length) (h : val l + 10000 ^ (i + k) * q = X + 10000 ^ i * a * val (b.take k)) :
    val (l.set (i + k) ((q + (l.getD (i + k) 0 + a * b.getD k 0)) % 10000)) + 10000 ^ (i + (k + 1)) * ((q + (l.getD (i + k) 0 + a * b.getD k 0)) / 10000) = X + 10000 ^ i * a * val (b.take (k + 1)) := by
  have h1 := val_set l ((q + (l.getD (i + k) 0 + a * b.getD k 0)) % 10000) (i + k) hj
  rw [val_take_next]
  generalize l.getD (i + k) 0 = z at *
  generalize b.getD k 0 = y at *
  have e1 : 10000 ^ (i + (k + 1)) * ((q + (z + a * y)) / 10000) = 10000 ^ (i + k) * (10000 * ((q + (z + a * y)) / 10000)) := by rw [← Nat.add_assoc, Nat.pow_succ, Nat.mul_assoc]
  have e2 : 10000 ^ (i + k) * ((q + (z + a * y)) % 10000) + 10000 ^ (i + k) * (10000 * ((q + (z + a * y)) / 10000)) = 10000 ^ (i + k) * q + (10000 ^ (i + k) * z + 10000 ^ (i + k) * (a * y)) := by
    rw [← Nat.mul_add, Nat.mod_add_div, Nat.mul_add, Nat.mul_add]
  have e3 : 10000 ^ i * a * (val (b.take k) + 10000 ^ k * y) = 10000 ^ i * a * val (b.take k) + 10000 ^ (i + k) * (a * y) := by
    rw [Nat.mul_add, Nat.pow_add, Nat.mul_assoc, Nat.mul_assoc, Nat.mul_assoc, Nat.mul_left_comm a]
  omega
theorem by_next {l a b : List Nat} {i q : Nat} (h : val l = val (a.take i) * val b + 10000 ^ i * a.getD i 0 * val b) : val l = val (a.take (i + 1)) * val b := by
  rw [h, val_take_next, Nat.add_mul]

end Go.Proofs.YtobbbhmkcmbekabDoor.bigs
