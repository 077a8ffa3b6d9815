/- The walks of the document's answer: Power, Halvings. -/
import Derived.Test.YtobbbhmkcmbekabDoorBigTold
set_option linter.unusedVariables false
namespace Go.Proofs.YtobbbhmkcmbekabDoor.bigs
open Go.RowKit

theorem pow_len {b e : Nat} (hb : b < 18446744073709551616) : (dig (b ^ e)).length ≤ 5 * e + 1 := by
  apply dig_length_le
  have h1 : b ^ e ≤ (10000 ^ 5) ^ e := Nat.pow_le_pow_left (Nat.le_trans (Nat.le_of_lt hb) (by decide)) _
  rw [← Nat.pow_mul] at h1
  have h2 : 10000 ^ (5 * e) < 10000 ^ (5 * e + 1) := Nat.pow_lt_pow_right (by omega) (by omega)
  omega
/-- How many bits a number needs. -/
def bits (n : Nat) : Nat := if h : n = 0 then 0 else bits (n / 2) + 1
  termination_by n
  decreasing_by omega
theorem bits_zero : bits 0 = 0 := by rw [bits]; simp
theorem bits_pos {n : Nat} (h : n ≠ 0) : bits n = bits (n / 2) + 1 := by rw [bits, dif_neg h]
theorem bits_le {n k : Nat} (h : n < 2 ^ k) : bits n ≤ k := by
  induction k generalizing n with
  | zero =>
    have : n = 0 := by simpa using h
    subst this
    rw [bits_zero]
    exact Nat.le_refl _
  | succ k ih =>
    by_cases h0 : n = 0
    · subst h0; rw [bits_zero]; omega
    · rw [bits_pos h0]
      have : n / 2 < 2 ^ k := by rw [Nat.pow_succ] at h; omega
      have := ih this
      omega
theorem bits_len (n : Nat) : bits n ≤ 14 * (dig n).length := by
  apply bits_le
  have h1 := lt_pow_dig n
  have h2 : 10000 ^ (dig n).length ≤ (2 ^ 14) ^ (dig n).length := Nat.pow_le_pow_left (by decide) _
  rw [← Nat.pow_mul] at h2
  omega

end Go.Proofs.YtobbbhmkcmbekabDoor.bigs
