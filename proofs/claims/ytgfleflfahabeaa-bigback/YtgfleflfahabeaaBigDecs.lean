/- Decimal digits and words, plain: what the walks of texts and shifts need. -/
import Derived.Test.YtgfleflfahabeaaBigFace
set_option linter.unusedVariables false
namespace Go.Proofs.Ytgfleflfahabeaa.bigs
open Go.RowKit

theorem wdig_length_le {n k : Nat} (h : n < 4294967296 ^ k) : (wdig n).length ≤ k := by
  induction k generalizing n with
  | zero =>
    have : n = 0 := by simpa using h
    subst this
    rw [wdig_zero]; simp
  | succ k ih =>
    by_cases h0 : n = 0
    · subst h0; rw [wdig_zero]; simp
    · rw [wdig_pos h0, List.length_cons]
      have : n / 4294967296 < 4294967296 ^ k := by
        rw [Nat.pow_succ] at h
        exact Nat.div_lt_of_lt_mul (by omega)
      have := ih this
      omega
theorem lt_pow_wdig (n : Nat) : n < 4294967296 ^ (wdig n).length := by have := wval_lt (words_wdig n); rwa [wval_wdig] at this
theorem wdig_add_len (m n : Nat) : (wdig (m + n)).length ≤ (wdig m).length + (wdig n).length + 1 := by
  apply wdig_length_le
  have h1 := lt_pow_wdig m
  have h2 := lt_pow_wdig n
  have h3 : 4294967296 ^ (wdig m).length ≤ 4294967296 ^ ((wdig m).length + (wdig n).length) := Nat.pow_le_pow_right (by omega) (by omega)
  have h4 : 4294967296 ^ (wdig n).length ≤ 4294967296 ^ ((wdig m).length + (wdig n).length) := Nat.pow_le_pow_right (by omega) (by omega)
  rw [Nat.pow_succ]
  omega
theorem wdig_prod_len (m n : Nat) : (wdig (m * n)).length ≤ (wdig m).length + (wdig n).length := by
  apply wdig_length_le
  rw [Nat.pow_add]
  exact Nat.mul_lt_mul'' (lt_pow_wdig m) (lt_pow_wdig n)
theorem wdig_mono_len {m n : Nat} (h : m ≤ n) : (wdig m).length ≤ (wdig n).length := wdig_length_le (Nat.lt_of_le_of_lt h (lt_pow_wdig n))
theorem wdig_wval_len {l : List Nat} (h : Words32 l) : (wdig (wval l)).length ≤ l.length := wdig_length_le (wval_lt h)
def Form (l : List UInt8) : Prop := l ≠ [] ∧ Dig10 l ∧ (l.getD 0 0 ≠ 48 ∨ l.length = 1)
theorem wdig_pow_len {b e : Nat} (hb : b < 4294967296) : (wdig (b ^ e)).length ≤ e + 1 := by
  apply wdig_length_le
  have h1 : b ^ e ≤ 4294967296 ^ e := Nat.pow_le_pow_left (Nat.le_of_lt hb) _
  have h2 : 4294967296 ^ e < 4294967296 ^ (e + 1) := Nat.pow_lt_pow_right (by omega) (by omega)
  omega
theorem bits_shift {x : Nat} (h : x ≠ 0) : ∀ n, bits (x * 2 ^ n) = bits x + n
  | 0 => by simp
  | n + 1 => by
    have hp : 0 < 2 ^ n := Nat.pow_pos (by omega)
    have hne : x * 2 ^ (n + 1) ≠ 0 := Nat.mul_ne_zero h (by rw [Nat.pow_succ]; omega)
    rw [bits_pos hne]
    have e : x * 2 ^ (n + 1) / 2 = x * 2 ^ n := by rw [Nat.pow_succ, ← Nat.mul_assoc, Nat.mul_div_cancel _ (by omega)]
    rw [e, bits_shift h n]
    omega
theorem bits_le_words (n : Nat) : bits n ≤ 32 * (wdig n).length := by
  apply bits_le
  have h1 := lt_pow_wdig n
  have h2 : (4294967296 : Nat) = 2 ^ 32 := by decide
  rw [h2, ← Nat.pow_mul] at h1
  exact h1


theorem toDec_ne {n : Nat} (h : n ≠ 0) : toDec n ≠ [] := by rw [toDec_pos h]; simp
theorem toDec_head {n : Nat} (h : n ≠ 0) : (toDec n).getD 0 0 ≠ 48 := by
  induction n using Nat.strongRecOn with
  | ind n ih =>
    rw [toDec_pos h]
    by_cases h1 : n / 10 = 0
    · rw [h1, toDec_zero]
      intro e
      have e2 : (UInt8.ofNat (48 + n % 10)).toNat = 48 := by
        have e3 : UInt8.ofNat (48 + n % 10) = 48 := by simpa using e
        rw [e3]; rfl
      rw [byte_of _ (by omega)] at e2
      omega
    · have hne := toDec_ne h1
      have := ih (n / 10) (by omega) h1
      cases hc : toDec (n / 10) with
      | nil => exact absurd hc hne
      | cons x r => rw [hc] at this; simpa using this
theorem decs_form (n : Nat) : Form (decs n) := by
  unfold decs
  by_cases h : n = 0
  · rw [if_pos h]
    refine ⟨by simp, fun b hb => ?_, .inr rfl⟩
    rw [List.mem_singleton] at hb
    subst hb
    decide
  · rw [if_neg h]
    exact ⟨toDec_ne h, toDec_dig n, .inl (toDec_head h)⟩
theorem dec_decs (n : Nat) : dec (decs n) = n := by
  unfold decs
  by_cases h : n = 0
  · rw [if_pos h, h]; rfl
  · rw [if_neg h, dec_toDec]
theorem decs_dec {l : List UInt8} (h : Form l) : decs (dec l) = l := by
  obtain ⟨h1, h2, h3⟩ := h
  by_cases h48 : l.getD 0 0 = 48
  · have hl : l.length = 1 := by rcases h3 with h | h; (· exact absurd h48 h); exact h
    cases l with
    | nil => exact absurd rfl h1
    | cons x r =>
      have hr : r = [] := List.eq_nil_of_length_eq_zero (by simpa using hl)
      subst hr
      have hx : x = 48 := by simpa using h48
      subst hx
      unfold decs
      rw [if_pos (show dec [48] = 0 from rfl)]
  · have e := toDec_uniq _ l rfl h2 (.inr h48)
    unfold decs
    rw [if_neg (fun e0 => by rw [e0, toDec_zero] at e; exact h1 e.symm), e]
theorem toDec_length_le {n k : Nat} (h : n < 10 ^ k) : (toDec n).length ≤ k := by
  induction k generalizing n with
  | zero =>
    have : n = 0 := by simpa using h
    subst this
    rw [toDec_zero]; simp
  | succ k ih =>
    by_cases h0 : n = 0
    · subst h0; rw [toDec_zero]; simp
    · rw [toDec_pos h0, List.length_append, List.length_singleton]
      have : n / 10 < 10 ^ k := by rw [Nat.pow_succ] at h; exact Nat.div_lt_of_lt_mul (by omega)
      have := ih this
      omega
theorem decs_length_le {n k : Nat} (h : n < 10 ^ k) (hk : 1 ≤ k) : (decs n).length ≤ k := by
  unfold decs
  by_cases h0 : n = 0
  · rw [if_pos h0]; simpa using hk
  · rw [if_neg h0]; exact toDec_length_le h
theorem decs_mono {m n : Nat} (h : m ≤ n) : (decs m).length ≤ (decs n).length := by
  have h1 := dec_lt (decs_form n).2.1
  rw [dec_decs] at h1
  exact decs_length_le (Nat.lt_of_le_of_lt h h1) (List.length_pos_iff.2 (decs_form n).1)
theorem less_of_dec : ∀ (l m : List UInt8), l.length = m.length → Dig10 l → Dig10 m → dec l < dec m → Op.bytesLess l m = true
  | [], [], _, _, _, h => by simp [dec] at h
  | a :: l, b :: m, hl, h1, h2, h => by
    have hlm : l.length = m.length := by simpa using hl
    have d1 : Dig10 l := fun x hx => h1 x (List.mem_cons_of_mem _ hx)
    have d2 : Dig10 m := fun x hx => h2 x (List.mem_cons_of_mem _ hx)
    have a1 := h1 a List.mem_cons_self
    have b1 := h2 b List.mem_cons_self
    have l2 := dec_lt d2
    rw [dec_cons, dec_cons, hlm] at h
    rcases Nat.lt_trichotomy a.toNat b.toNat with c | c | c
    · have : a < b := UInt8.lt_iff_toNat_lt.2 c
      simp [Op.bytesLess, this]
    · have e : a = b := UInt8.toNat_inj.1 c
      subst e
      have := less_of_dec l m hlm d1 d2 (by omega)
      simp [Op.bytesLess, this]
    · exfalso
      have : (b.toNat - 48 + 1) * 10 ^ m.length ≤ (a.toNat - 48) * 10 ^ m.length := Nat.mul_le_mul_right _ (by omega)
      rw [Nat.add_mul, Nat.one_mul] at this
      omega
  | [], _ :: _, h, _, _, _ => by simp at h
  | _ :: _, [], h, _, _, _ => by simp at h
theorem decs_words {x : Nat} (h : (wdig x).length ≤ 100) : (decs x).length ≤ 1000 := by
  have h1 := lt_pow_wdig x
  generalize (wdig x).length = k at *
  by_cases h0 : k = 0
  · subst h0
    have : x = 0 := by simpa using h1
    subst this
    unfold decs
    rw [if_pos rfl]
    simp
  · have h3 : 4294967296 ^ k ≤ (10 ^ 10) ^ k := Nat.pow_le_pow_left (by decide) _
    rw [← Nat.pow_mul] at h3
    have := decs_length_le (n := x) (k := 10 * k) (Nat.lt_of_lt_of_le h1 h3) (by omega)
    omega
theorem wdig_dec_len {v s : Nat} (h : v < 10 ^ s) (hs : s ≤ 1000) : (wdig v).length ≤ 2000 := by
  have := wdig_length_le (n := v) (k := s) (Nat.lt_of_lt_of_le h (Nat.pow_le_pow_left (by decide) _))
  omega
end Go.Proofs.Ytgfleflfahabeaa.bigs
