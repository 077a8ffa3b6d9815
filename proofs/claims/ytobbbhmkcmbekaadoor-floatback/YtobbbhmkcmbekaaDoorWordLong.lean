/- The walks of package big: divideLong. -/
import Derived.Test.YtobbbhmkcmbekaaDoorWordShift
set_option linter.unusedVariables false
namespace Go.Proofs.YtobbbhmkcmbekaaDoor.bigs
open Go.RowKit

theorem bits_lt (x : Nat) : x < 2 ^ bits x := by
  induction x using Nat.strongRecOn with
  | ind x ih =>
    by_cases h : x = 0
    · subst h; rw [bits_zero]; simp
    · rw [bits_pos h, Nat.pow_succ]
      have := ih (x / 2) (by omega)
      omega
theorem bits_ge {x : Nat} : x ≠ 0 → 2 ^ bits x ≤ 2 * x := by
  induction x using Nat.strongRecOn with
  | ind x ih =>
    intro h
    rw [bits_pos h, Nat.pow_succ]
    by_cases h2 : x / 2 = 0
    · rw [h2, bits_zero]; omega
    · have := ih (x / 2) (by omega) h2
      omega
theorem bits_one {x : Nat} (h : x ≠ 0) : 1 ≤ bits x := by rw [bits_pos h]; omega
/-- The divisor, its top bit set. -/
theorem norm_len {n t : Nat} (h : (wdig n).length = t + 1) : ∀ s, s = 32 - bits ((wdig n).getD t 0) → 2147483648 * 4294967296 ^ t ≤ n * 2 ^ s ∧ n * 2 ^ s < 4294967296 ^ (t + 1) ∧ s ≤ 31 := by
  intro s hs
  have h0 : n ≠ 0 := by intro e; rw [e, wdig_zero] at h; simp at h
  have hl := wdig_last h0
  rw [h, Nat.add_sub_cancel] at hl
  have hw := words_getD (words_wdig n) t
  obtain ⟨x, e, hx⟩ := wsplit_val (wdig n) t (words_wdig n)
  rw [wval_wdig, wdrop_val, List.drop_of_length_le (by omega), show wval [] = 0 from rfl, Nat.mul_zero, Nat.add_zero] at e
  generalize (wdig n).getD t 0 = b at *
  have b1 := bits_lt b
  have b2 := bits_ge hl
  have b3 := bits_one hl
  have b4 : bits b ≤ 32 := bits_le (k := 32) hw
  have e2 : 2 ^ bits b * 2 ^ s = 4294967296 := by rw [← Nat.pow_add, show bits b + s = 32 by omega]
  have hp : 0 < 2 ^ s := Nat.pow_pos (by omega)
  have u1 : 4294967296 ≤ 2 * b * 2 ^ s := by rw [← e2]; exact Nat.mul_le_mul_right _ b2
  have u2 : (b + 1) * 2 ^ s ≤ 4294967296 := by rw [← e2]; exact Nat.mul_le_mul_right _ b1
  have u3 : 2147483648 ≤ b * 2 ^ s := by rw [Nat.mul_assoc] at u1; omega
  refine ⟨?_, ?_, by omega⟩
  · have v1 : 4294967296 ^ t * b * 2 ^ s ≤ n * 2 ^ s := Nat.mul_le_mul_right _ (by omega)
    have v2 : 4294967296 ^ t * 2147483648 ≤ 4294967296 ^ t * (b * 2 ^ s) := Nat.mul_le_mul_left _ u3
    rw [← Nat.mul_assoc] at v2
    rw [Nat.mul_comm]
    omega
  · have v1 : n * 2 ^ s < (4294967296 ^ t * (b + 1)) * 2 ^ s := Nat.mul_lt_mul_of_pos_right (by rw [Nat.mul_add, Nat.mul_one]; omega) hp
    have v2 : 4294967296 ^ t * ((b + 1) * 2 ^ s) ≤ 4294967296 ^ t * 4294967296 := Nat.mul_le_mul_left _ u2
    rw [← Nat.mul_assoc] at v2
    rw [Nat.pow_succ]
    omega
theorem mid_split {R : List Nat} {i t d : Nat} (sR : Words32 R) (hl : i + t + 2 ≤ R.length) (hd : d < 4294967296 ^ (t + 1)) (hlt : wval (R.drop (i + 1)) < d) :
    R = R.take i ++ ((R.drop i).take (t + 2) ++ (R.drop i).drop (t + 2)) ∧ (R.take i).length = i ∧ ((R.drop i).take (t + 2)).length = t + 2 ∧ Words32 ((R.drop i).take (t + 2)) ∧ wval ((R.drop i).drop (t + 2)) = 0 ∧ wval ((R.drop i).take (t + 2)) < d * 4294967296 := by
  have e1 : (R.drop i).drop (t + 2) = (R.drop (i + 1)).drop (t + 1) := by rw [List.drop_drop, List.drop_drop]; congr 1; omega
  have h0 : wval ((R.drop i).drop (t + 2)) = 0 := by
    rw [e1, wdrop_div _ _ (words_drop sR _)]
    exact Nat.div_eq_of_lt (by omega)
  have hv := wval_append ((R.drop i).take (t + 2)) ((R.drop i).drop (t + 2))
  rw [List.take_append_drop, h0, Nat.mul_zero, Nat.add_zero] at hv
  refine ⟨by rw [List.take_append_drop, List.take_append_drop], by rw [List.length_take]; omega, by rw [List.length_take, List.length_drop]; omega, words_take (words_drop sR _) _, h0, ?_⟩
  rw [← hv, wdrop_val]
  have := words_getD sR i
  omega
theorem long_next {R M' : List Nat} {i t d q X m : Nat} (sR : Words32 R) (hl : i + t + 2 ≤ R.length) (h0 : wval ((R.drop i).drop (t + 2)) = 0) (hM : M'.length = t + 2) (hd0 : 0 < d)
    (hm : wval M' = wval ((R.drop i).take (t + 2)) % d) (hq : q = wval ((R.drop i).take (t + 2)) / d) (h : wval R + d * 4294967296 ^ (i + 1) * X = m) :
    wval (R.take i ++ (M' ++ (R.drop i).drop (t + 2))) + d * 4294967296 ^ i * (q + 4294967296 * X) = m ∧ wval ((R.take i ++ (M' ++ (R.drop i).drop (t + 2))).drop i) < d := by
  have hi : (R.take i).length = i := by rw [List.length_take]; omega
  have e1 : wval (M' ++ (R.drop i).drop (t + 2)) = wval M' := by rw [wval_append, h0, Nat.mul_zero, Nat.add_zero]
  have e2 : (R.take i ++ (M' ++ (R.drop i).drop (t + 2))).drop i = M' ++ (R.drop i).drop (t + 2) := by rw [List.drop_append_of_le_length (by omega), List.drop_of_length_le (by omega), List.nil_append]
  rw [e2, e1]
  refine ⟨?_, by rw [hm]; exact Nat.mod_lt _ hd0⟩
  have hR : wval R = wval (R.take i) + 4294967296 ^ i * wval ((R.drop i).take (t + 2)) := by
    have h1 := wval_append (R.take i) (R.drop i)
    rw [List.take_append_drop, hi] at h1
    have h2 := wval_append ((R.drop i).take (t + 2)) ((R.drop i).drop (t + 2))
    rw [List.take_append_drop, h0, Nat.mul_zero, Nat.add_zero] at h2
    rw [h1, h2]
  rw [wval_append, hi, e1, hm, ← h, hR]
  generalize wval ((R.drop i).take (t + 2)) = y at *
  have hdm := Nat.div_add_mod y d
  rw [← hq] at hdm
  have a1 : d * 4294967296 ^ i * (q + 4294967296 * X) = 4294967296 ^ i * (d * q) + d * 4294967296 ^ (i + 1) * X := by
    rw [Nat.mul_add, Nat.pow_succ]
    congr 1
    · rw [Nat.mul_comm d, Nat.mul_assoc]
    · rw [Nat.mul_assoc, Nat.mul_assoc, Nat.mul_assoc]
  have a2 : 4294967296 ^ i * (y % d) + 4294967296 ^ i * (d * q) = 4294967296 ^ i * y := by rw [← Nat.mul_add, Nat.add_comm, hdm]
  omega
theorem quo_next {Q : List Nat} {i q : Nat} (hi : i < Q.length) : wval ((Q.set i q).drop i) = q + 4294967296 * wval (Q.drop (i + 1)) := by
  rw [wdrop_val]
  congr 1
  · rw [List.getD, List.getElem?_set_self hi]; rfl
  · rw [List.drop_set, if_pos (by omega)]
theorem long_start {m n s t a : Nat} (h : 2147483648 * 4294967296 ^ t ≤ n * 2 ^ s) (hs : s ≤ 31) (hm : m < 4294967296 ^ (a + t)) : m * 2 ^ s / 4294967296 ^ a < n * 2 ^ s := by
  have h31 : 2 ^ s ≤ 2147483648 := Nat.pow_le_pow_right (n := 2) (by omega) hs
  have hp : 0 < 2 ^ s := Nat.pow_pos (by omega)
  have h1 : m * 2 ^ s < 4294967296 ^ (a + t) * 2 ^ s := Nat.mul_lt_mul_of_pos_right hm hp
  have h2 : 4294967296 ^ (a + t) * 2 ^ s ≤ 4294967296 ^ (a + t) * 2147483648 := Nat.mul_le_mul_left _ h31
  have h3 : m * 2 ^ s / 4294967296 ^ a < 4294967296 ^ t * 2147483648 := by
    apply Nat.div_lt_of_lt_mul
    rw [← Nat.mul_assoc, ← Nat.pow_add]
    omega
  rw [Nat.mul_comm] at h
  omega
theorem long_end {m n s r q : Nat} (h : r + n * 2 ^ s * q = m * 2 ^ s) (hr : r < n * 2 ^ s) : q = m / n ∧ r / 2 ^ s = m % n := by
  have hp : 0 < 2 ^ s := Nat.pow_pos (by omega)
  have h1 : m * 2 ^ s / (n * 2 ^ s) = q := by rw [← h, Nat.add_comm, Nat.mul_add_div (by omega), Nat.div_eq_of_lt hr]; omega
  have h2 : m * 2 ^ s % (n * 2 ^ s) = r := by rw [← h, Nat.add_comm, Nat.mul_add_mod, Nat.mod_eq_of_lt hr]
  rw [Nat.mul_div_mul_right _ _ hp] at h1
  rw [Nat.mul_mod_mul_right] at h2
  refine ⟨h1.symm, ?_⟩
  rw [← h2, Nat.mul_div_cancel _ hp]
end Go.Proofs.YtobbbhmkcmbekaaDoor.bigs
