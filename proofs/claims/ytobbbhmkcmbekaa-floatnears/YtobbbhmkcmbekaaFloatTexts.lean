/- The walks of the document's answer: isDigit, noughts, below, Decimal. -/
import Derived.Test.YtobbbhmkcmbekaaFloatMore
set_option linter.unusedVariables false
namespace Go.Proofs.Ytobbbhmkcmbekaa.bigs
open Go.RowKit

/-- A text of noughts. -/
def zeros (n : Nat) : ByteArray := ⟨(List.replicate n 48).toArray⟩
theorem zeros_next (n : Nat) : zeros n ++ (⟨#[48]⟩ : ByteArray) = zeros (n + 1) := by
  apply ByteArray.ext
  rw [ByteArray.data_append]
  apply Array.toList_inj.1
  simp [zeros, List.replicate_succ']
theorem zeros_size (n : Nat) : (zeros n).size = n := by
  show (List.replicate n (48 : UInt8)).toArray.size = n
  simp

theorem toDec_one {n : Nat} (h0 : n ≠ 0) (h : n < 10) : toDec n = [UInt8.ofNat (48 + n % 10)] := by
  rw [toDec_pos h0, Nat.div_eq_of_lt h, toDec_zero]
  rfl
theorem decs_one {n : Nat} (h : n < 10) : (⟨#[UInt8.ofNat (48 + n % 10)]⟩ : ByteArray) = ⟨(decs n).toArray⟩ := by
  unfold decs
  by_cases h0 : n = 0
  · subst h0; rfl
  · rw [if_neg h0, toDec_one h0 h]
theorem decs_more {n : Nat} (h : 10 ≤ n) : (⟨(decs (n / 10)).toArray⟩ : ByteArray) ++ (⟨#[UInt8.ofNat (48 + n % 10)]⟩ : ByteArray) = ⟨(decs n).toArray⟩ := by
  have h1 : n / 10 ≠ 0 := by omega
  have h2 : n ≠ 0 := by omega
  apply ByteArray.ext
  rw [ByteArray.data_append]
  apply Array.toList_inj.1
  unfold decs
  rw [if_neg h1, if_neg h2, toDec_pos h2]
  simp

theorem toDec_small (n : Nat) : (toDec n).length ≤ n := by
  induction n using Nat.strongRecOn with
  | ind n ih =>
    by_cases h0 : n = 0
    · subst h0; rw [toDec_zero]; simp
    · rw [toDec_pos h0, List.length_append, List.length_singleton]
      have := ih (n / 10) (by omega)
      omega
theorem decs_small {n : Nat} (h : n ≤ 1000000) : (⟨(decs n).toArray⟩ : ByteArray).size ≤ 1000001 := by
  show (decs n).toArray.size ≤ _
  rw [List.size_toArray]
  unfold decs
  by_cases h0 : n = 0
  · rw [if_pos h0]; simp
  · rw [if_neg h0]
    have := toDec_small n
    omega

end Go.Proofs.Ytobbbhmkcmbekaa.bigs
