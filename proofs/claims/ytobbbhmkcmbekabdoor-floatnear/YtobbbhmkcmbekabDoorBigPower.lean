/- The walks of the document's answer: Power, Halvings. -/
import Derived.Test.YtobbbhmkcmbekabDoorBigTold
set_option linter.unusedVariables false
namespace Go.Proofs.YtobbbhmkcmbekabDoor.bigs
open Go.RowKit

theorem pow_len {b e : Nat} (hb : b < 18446744073709551616) : (dig (b ^ e)).length ≤ 5 * e + 1 := by
  apply dig_length_le
  have h1 : b ^ e ≤ (10000 ^ 5) ^ e := Nat.pow_le_pow_left (Nat.le_trans (Nat.le_of_lt hb) (by decide)) _
  rw [← Nat.pow_mul] at h1
  have h2 : 10000 ^ (5 * e) < 10000 ^ (5 * e + 1) := Nat.pow_lt_pow_right (by omega) (by omega)
  omega
/-- How many bits a number needs. -/
def bitsG : Nat → Nat → Nat
  | 0, _ => 0
  | f + 1, n => if n = 0 then 0 else bitsG f (n / 2) + 1
theorem bitsG_zero (f : Nat) : bitsG f 0 = 0 := by cases f <;> rfl
theorem bitsG_same (n : Nat) : ∀ (f g : Nat), n ≤ f → n ≤ g → bitsG f n = bitsG g n := by
  induction n using Nat.strongRecOn with
  | ind n ih =>
    intro f g hf hg
    by_cases h : n = 0
    · rw [h, bitsG_zero, bitsG_zero]
    · obtain ⟨f', rfl⟩ : ∃ f', f = f' + 1 := ⟨f - 1, by omega⟩
      obtain ⟨g', rfl⟩ : ∃ g', g = g' + 1 := ⟨g - 1, by omega⟩
      rw [bitsG, bitsG, if_neg h, if_neg h, ih (n / 2) (by omega) f' g' (by omega) (by omega)]
def bits (n : Nat) : Nat := bitsG n n
theorem bits_zero : bits 0 = 0 := rfl
theorem bits_pos {n : Nat} (h : n ≠ 0) : bits n = bits (n / 2) + 1 := by
  obtain ⟨m, rfl⟩ : ∃ m, n = m + 1 := ⟨n - 1, by omega⟩
  unfold bits
  rw [bitsG, if_neg h, bitsG_same ((m + 1) / 2) m ((m + 1) / 2) (by omega) (Nat.le_refl _)]
theorem bits_le {n k : Nat} (h : n < 2 ^ k) : bits n ≤ k := by
  induction k generalizing n with
  | zero =>
    have : n = 0 := by simpa using h
    subst this
    rw [bits_zero]
    exact Nat.le_refl _
  | succ k ih =>
    by_cases h0 : n = 0
    · subst h0; rw [bits_zero]; omega
    · rw [bits_pos h0]
      have : n / 2 < 2 ^ k := by rw [Nat.pow_succ] at h; omega
      have := ih this
      omega
theorem bits_len (n : Nat) : bits n ≤ 14 * (dig n).length := by
  apply bits_le
  have h1 := lt_pow_dig n
  have h2 : 10000 ^ (dig n).length ≤ (2 ^ 14) ^ (dig n).length := Nat.pow_le_pow_left (by decide) _
  rw [← Nat.pow_mul] at h2
  omega

end Go.Proofs.YtobbbhmkcmbekabDoor.bigs
