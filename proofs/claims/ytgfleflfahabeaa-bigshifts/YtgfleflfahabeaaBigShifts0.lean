/- The walk of the law that Shift, Pow, Text and Read answer what the document says, by what each call answers: plain. -/
import Derived.Test.YtgfleflfahabeaaBigDigits
set_option linter.unusedVariables false
namespace Go.Proofs.Ytgfleflfahabeaa.bigs
open Go.RowKit

theorem dig_prod_lenS (m n : Nat) : (dig (m * n)).length ≤ (dig m).length + (dig n).length := by
  apply dig_length_le
  rw [Nat.pow_add]
  exact Nat.mul_lt_mul'' (lt_pow_dig m) (lt_pow_dig n)
theorem power_two (u : World) (N : Nat) (hN : N ≤ 50000) : Calls Try.prog 26 #[.int .u64 2, .int .i64 N] u fun e w' => ∃ v, e = .returned v ∧ Lies w' v (2 ^ N) ∧ Below u.heap.size u w' := power_any u 2 N (by decide) hN
theorem empty_text {s : ByteArray} (h : s.size = 0) : s = ⟨#[]⟩ := by
  apply ByteArray.ext
  exact Array.eq_empty_of_size_eq_zero h
theorem some_text {s : ByteArray} (h : 0 < s.size) : s.toList.isEmpty = false ∧ ¬ s.toList = [] := by
  have e : s.toList ≠ [] := by
    rw [ByteArray.toList_eq]
    intro e
    have h2 := blen_list s
    rw [e] at h2
    simp at h2
    omega
  exact ⟨List.isEmpty_eq_false_iff.2 e, e⟩
theorem dig_at {s : ByteArray} (h : Dig10 s.data.toList) : ∀ k (hk : k < s.size), 48 ≤ (s[k]'hk).toNat ∧ (s[k]'hk).toNat ≤ 57 := fun k hk => by
  have hm : s[k]'hk ∈ s.data.toList := by rw [← bget s k hk, List.getD, List.getElem?_eq_getElem (by rw [blen_list]; exact hk)]; simp
  exact h _ hm
theorem dig_all {s : ByteArray} (h : ∀ k (hk : k < s.size), 48 ≤ (s[k]'hk).toNat ∧ (s[k]'hk).toNat ≤ 57) : Dig10 s.data.toList := fun b hb => by
  obtain ⟨k, hk, rfl⟩ := List.mem_iff_getElem.1 hb
  rw [blen_list] at hk
  have h1 := h k hk
  have e := bget s k hk
  rw [List.getD, List.getElem?_eq_getElem (by rw [blen_list]; exact hk)] at e
  simp only [Option.getD_some] at e
  rw [e]
  exact h1
theorem far_zero {l : List Nat} {N : Nat} (hs : Words32 l) (hl : l.length ≤ 40) (hN : 1300 ≤ N) : wval l / 2 ^ N = 0 := by
  apply Nat.div_eq_of_lt
  have h1 := wval_lt hs
  have h2 : 4294967296 ^ l.length = 2 ^ (32 * l.length) := by rw [show (4294967296 : Nat) = 2 ^ 32 from rfl, ← Nat.pow_mul]
  have h4 : 2 ^ (32 * l.length) ≤ 2 ^ N := Nat.pow_le_pow_right (by omega) (by omega)
  omega
theorem top_word {n t : Nat} (h : (wdig n).length = t + 1) : (wdig n).getD t 0 ≠ 0 := by
  induction n using Nat.strongRecOn generalizing t with
  | ind n ih =>
    by_cases h0 : n = 0
    · rw [h0, wdig_zero] at h; simp at h
    · rw [wdig_pos h0] at h ⊢
      rw [List.length_cons] at h
      by_cases h1 : n / 4294967296 = 0
      · rw [h1, wdig_zero] at h ⊢
        have : t = 0 := by simp at h; omega
        subst this
        simp
        omega
      · cases t with
        | zero =>
          have : wdig (n / 4294967296) = [] := List.eq_nil_of_length_eq_zero (by omega)
          exact absurd (by rw [← wval_wdig (n / 4294967296), this]; rfl) h1
        | succ t =>
          rw [List.getD_cons_succ]
          exact ih _ (by omega) (by omega)
end Go.Proofs.Ytgfleflfahabeaa.bigs
