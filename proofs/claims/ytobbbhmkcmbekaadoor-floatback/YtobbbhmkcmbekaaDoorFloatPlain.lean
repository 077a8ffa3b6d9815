/- The nearest fraction, plain. -/
import Derived.Test.YtobbbhmkcmbekaaDoorBigText
set_option linter.unusedVariables false
namespace Go.Proofs.YtobbbhmkcmbekaaDoor.bigs
open Go.RowKit

/-- The nearest whole number, of two as near the even one. -/
def rnd (n d : Nat) : Nat := if d < 2 * (n % d) ∨ (2 * (n % d) = d ∧ n / d % 2 = 1) then n / d + 1 else n / d
/-- The bits of q * 2^e. -/
def packed (q : Nat) (e : Int) : Nat :=
  if q = 9007199254740992 then (if 971 < e + 1 then 9218868437227405312 else (e + 1 + 1074).toNat * 4503599627370496 + 4503599627370496)
  else if 971 < e then 9218868437227405312 else if q < 4503599627370496 then q else (e + 1074).toNat * 4503599627370496 + q
/-- The bits r are those of the fraction that is nearest to num / den. -/
def Near (num den r : Nat) : Prop := ∃ a b : Nat, a ≤ 1074 ∧ (a = 0 ∨ num * 2 ^ (a - 1) < den * 4503599627370496) ∧ (a = 1074 ∨ den * 4503599627370496 ≤ num * 2 ^ a) ∧
  (b = 0 ∨ den * 2 ^ (b - 1) * 9007199254740992 ≤ num * 2 ^ a) ∧ num * 2 ^ a < den * 2 ^ b * 9007199254740992 ∧ r = packed (rnd (num * 2 ^ a) (den * 2 ^ b)) ((b : Int) - (a : Int))
theorem shift_mono (x : Nat) {a b : Nat} (h : a ≤ b) : x * 2 ^ a ≤ x * 2 ^ b := Nat.mul_le_mul_left _ (Nat.pow_le_pow_right (by omega) h)
theorem near_unique {num den r r' : Nat} (h : Near num den r) (h' : Near num den r') : r = r' := by
  obtain ⟨a, b, h1, h2, h3, h4, h5, h6⟩ := h
  obtain ⟨a', b', k1, k2, k3, k4, k5, k6⟩ := h'
  have ea : a = a' := by
    rcases Nat.lt_trichotomy a a' with hlt | he | hgt
    · have m := shift_mono num (show a ≤ a' - 1 by omega)
      rcases k2 with e | e
      · omega
      · rcases h3 with e3 | e3 <;> omega
    · exact he
    · have m := shift_mono num (show a' ≤ a - 1 by omega)
      rcases h2 with e | e
      · omega
      · rcases k3 with e3 | e3 <;> omega
  subst ea
  have eb : b = b' := by
    rcases Nat.lt_trichotomy b b' with hlt | he | hgt
    · have m := Nat.mul_le_mul_right 9007199254740992 (shift_mono den (show b ≤ b' - 1 by omega))
      rcases k4 with e | e <;> omega
    · exact he
    · have m := Nat.mul_le_mul_right 9007199254740992 (shift_mono den (show b' ≤ b - 1 by omega))
      rcases h4 with e | e <;> omega
  subst eb
  rw [h6, k6]
theorem dig_prod_lenF (m n : Nat) : (dig (m * n)).length ≤ (dig m).length + (dig n).length := by
  apply dig_length_le
  rw [Nat.pow_add]
  exact Nat.mul_lt_mul'' (lt_pow_dig m) (lt_pow_dig n)
theorem log_len {b N : Nat} (h : 2 ^ b ≤ N) : b < 14 * (dig N).length := by
  have h1 := lt_pow_dig N
  have h2 : 10000 ^ (dig N).length ≤ (2 ^ 14) ^ (dig N).length := Nat.pow_le_pow_left (by decide) _
  rw [← Nat.pow_mul] at h2
  have h3 : 2 ^ b < 2 ^ (14 * (dig N).length) := by omega
  exact (Nat.pow_lt_pow_iff_right (by omega)).1 h3
theorem double_next (x a : Nat) : x * 2 ^ a + x * 2 ^ a = x * 2 ^ (a + 1) := by rw [Nat.pow_succ, ← Nat.mul_assoc]; omega
theorem quo_less {c q d N X : Nat} (h : c + q * d = N) (hN : N < d * X) (hd : 0 < d) : q < X := by
  have h1 : q * d < X * d := by rw [Nat.mul_comm X]; omega
  exact Nat.lt_of_mul_lt_mul_right h1
theorem long_rnd {c q d N : Nat} (h : c + q * d = N) (hc : c < d) : N / d = q ∧ N % d = c := by
  have hd : 0 < d := by omega
  rw [← h, Nat.add_comm, Nat.mul_comm]
  exact ⟨by rw [Nat.mul_add_div hd, Nat.div_eq_of_lt hc]; omega, by rw [Nat.mul_add_mod, Nat.mod_eq_of_lt hc]⟩
theorem rnd_up {c q d N : Nat} (h : c + q * d = N) (hc : c < d) (hu : d < c + c ∨ (c + c = d ∧ q % 2 = 1)) : rnd N d = q + 1 := by
  obtain ⟨e1, e2⟩ := long_rnd h hc
  unfold rnd
  rw [e1, e2, if_pos (by omega)]
theorem rnd_down {c q d N : Nat} (h : c + q * d = N) (hc : c < d) (hu : ¬ (d < c + c ∨ (c + c = d ∧ q % 2 = 1))) : rnd N d = q := by
  obtain ⟨e1, e2⟩ := long_rnd h hc
  unfold rnd
  rw [e1, e2, if_neg (by omega)]
theorem bit_take {c q d N P : Nat} (h : c + q * d = N) (hc : d * P ≤ c) : c - d * P + (q + P) * d = N := by
  rw [Nat.add_mul, Nat.mul_comm P]
  omega
/-- What FloatParts tells. -/
def fparts (b : Nat) : Nat × Int × Int :=
  if b / 4503599627370496 % 2048 = 2047 then (if b % 4503599627370496 = 0 then (0, 0, 1) else (0, 0, 2))
  else if b / 4503599627370496 % 2048 = 0 then (b % 4503599627370496, -1074, 0) else (b % 4503599627370496 + 4503599627370496, ((b / 4503599627370496 % 2048 : Nat) : Int) - 1075, 0)
end Go.Proofs.YtobbbhmkcmbekaaDoor.bigs
