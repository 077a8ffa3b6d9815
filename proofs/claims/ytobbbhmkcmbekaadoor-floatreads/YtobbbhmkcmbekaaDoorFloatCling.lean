/- Clinger's law, plain: no other fraction is nearer. -/
import Derived.Test.YtobbbhmkcmbekaaDoorFloatAlive
set_option linter.unusedVariables false
namespace Go.Proofs.YtobbbhmkcmbekaaDoor.bigs
open Go.RowKit

def distOf (a b : Nat) : Nat := if a < b then b - a else a - b
theorem dist_mul (a b c : Nat) : distOf (a * c) (b * c) = distOf a b * c := by
  unfold distOf
  by_cases hc : c = 0
  · subst hc; simp
  · by_cases h : a < b
    · rw [if_pos h, if_pos (Nat.mul_lt_mul_of_pos_right h (by omega)), Nat.sub_mul]
    · rw [if_neg h, if_neg (Nat.not_lt.2 (Nat.mul_le_mul_right _ (by omega))), Nat.sub_mul]
/-- How far r is from num / den, in units of 2^-1076 / den. -/
def farOf (num den r : Nat) : Nat := distOf (num * T76) (fval r * den)
theorem far_least {num den r s : Nat} (hd : 0 < den) (ho : Over num den r) (hu : Under num den r) (hs : s ≠ r) : farOf num den r < farOf num den s ∨ (farOf num den r = farOf num den s ∧ r % 2 = 0) := by
  unfold farOf distOf
  rcases Nat.lt_or_gt_of_ne hs with c | c
  · have f1 := fval_mono (show s ≤ r - 1 by omega)
    have f2 := fval_succ (r - 1)
    rw [show r - 1 + 1 = r by omega] at f2
    have f3 := mid_eq (r - 1)
    have f4 := step_pos (r - 1)
    have g1 := Nat.mul_le_mul_right den f1
    have g2 : fval r * den + fval (r - 1) * den = 2 * (mid (r - 1) * den) := by
      have e : fval r + fval (r - 1) = 2 * mid (r - 1) := by omega
      rw [← Nat.add_mul, e, Nat.mul_assoc]
    have g3 : fval (r - 1) * den < fval r * den := Nat.mul_lt_mul_of_pos_right (by omega) hd
    have g4 : mid (r - 1) * den ≤ num * T76 := by
      unfold Over at ho
      generalize num * T76 = X at *
      generalize mid (r - 1) * den = Y at *
      omega
    unfold Over at ho
    clear f1 f2 f3 f4
    generalize num * T76 = X at *
    generalize mid (r - 1) * den = M at *
    generalize fval r * den = R at *
    generalize fval (r - 1) * den = Q at *
    generalize fval s * den = S at *
    split <;> split <;> omega
  · have f1 := fval_mono (show r + 1 ≤ s by omega)
    have f2 := fval_succ r
    have f3 := mid_eq r
    have f4 := step_pos r
    have g1 := Nat.mul_le_mul_right den f1
    have g2 : fval r * den + fval (r + 1) * den = 2 * (mid r * den) := by
      have e : fval r + fval (r + 1) = 2 * mid r := by omega
      rw [← Nat.add_mul, e, Nat.mul_assoc]
    have g3 : fval r * den < fval (r + 1) * den := Nat.mul_lt_mul_of_pos_right (by omega) hd
    unfold Under at hu
    clear f1 f2 f3 f4
    generalize num * T76 = X at *
    generalize mid r * den = M at *
    generalize fval r * den = R at *
    generalize fval (r + 1) * den = Q at *
    generalize fval s * den = S at *
    split <;> split <;> omega
theorem fval_zero : fval 0 = 0 := by unfold fval mant; rw [if_pos (by decide)]; simp
theorem far_zero {den s : Nat} (hd : 0 < den) (hs : s ≠ 0) : farOf 0 den 0 < farOf 0 den s := by
  unfold farOf distOf
  have h := fval_lt (show 0 < s by omega)
  rw [fval_zero] at *
  have := Nat.mul_pos h hd
  rw [Nat.zero_mul, Nat.zero_mul, if_neg (Nat.lt_irrefl 0), if_pos this]
  omega
/-- The nearest one, in the words of the law. -/
theorem nearD_far {m r s : Nat} {x : Int} (h : NearD m x r) (hr : r < 9218868437227405312) (hs : s ≠ r) :
    farOf (m * 10 ^ x.toNat) (10 ^ (-x).toNat) r < farOf (m * 10 ^ x.toNat) (10 ^ (-x).toNat) s ∨ (farOf (m * 10 ^ x.toNat) (10 ^ (-x).toNat) r = farOf (m * 10 ^ x.toNat) (10 ^ (-x).toNat) s ∧ r % 2 = 0) := by
  rcases h with ⟨a, b⟩ | ⟨a, b⟩
  · subst a b
    rw [Nat.zero_mul]
    exact .inl (far_zero (p10 _) hs)
  · obtain ⟨h1, h2, h3⟩ := near_span (p10 _) b
    exact far_least (p10 _) h2 (h3 hr) hs
/-- What is infinite is 2^1024 - 2^970 or more. -/
def c970 : Nat := 970
def c1024 : Nat := 1024
theorem mid_last : mid 9218868437227405311 = (18014398509481983) * 2 ^ c970 * T76 := by
  unfold mid mant step
  rw [if_neg (by decide)]
  have e1 : 4 * (9218868437227405311 % 4503599627370496 + 4503599627370496) + 2 = 2 * 18014398509481983 := by decide
  have e2 : 9218868437227405311 / 4503599627370496 - 1 = 2045 := by decide
  have e3 : (2045 : Nat) = c970 + (c74 + 1) := rfl
  rw [e1, e2, e3, Nat.pow_add, Nat.pow_succ]
  unfold T76 T74
  generalize 2 ^ c970 = A
  generalize 2 ^ c74 = B
  rw [Nat.mul_comm 2 18014398509481983, Nat.mul_assoc, Nat.mul_assoc, Nat.mul_left_comm 2 A, Nat.mul_comm B 2, ← Nat.mul_assoc 2 2 B]
theorem nearD_inf {m : Nat} {x : Int} (h : NearD m x 9218868437227405312) : 18014398509481983 * 2 ^ c970 * 10 ^ (-x).toNat ≤ m * 10 ^ x.toNat := by
  rcases h with ⟨a, b⟩ | ⟨a, b⟩
  · omega
  · obtain ⟨h1, h2, h3⟩ := near_span (p10 _) b
    unfold Over at h2
    rw [show 9218868437227405312 - 1 = 9218868437227405311 from rfl, mid_last] at h2
    have hT : 0 < T76 := Nat.mul_pos (by decide) (Nat.pow_pos (by decide))
    have h4 : 18014398509481983 * 2 ^ c970 * T76 * 10 ^ (-x).toNat ≤ m * 10 ^ x.toNat * T76 := by
      rcases h2 with c | c | c
      · omega
      · exact Nat.le_of_lt c
      · exact Nat.le_of_eq c.1
    rw [Nat.mul_assoc (18014398509481983 * 2 ^ c970), Nat.mul_comm T76, ← Nat.mul_assoc] at h4
    exact Nat.le_of_mul_le_mul_right h4 hT
/-- A fraction as two whole numbers. -/
theorem parts_frac (r : Nat) (hr : r < 9218868437227405312) : (fparts r).2.2 = 0 ∧ (fparts r).1 = mant r ∧ -1074 ≤ (fparts r).2.1 ∧ (fparts r).2.1 ≤ 971 ∧ step r = 2 ^ ((fparts r).2.1 + 1074).toNat ∧ (fparts r).1 < 9007199254740992 := by
  unfold fparts mant step
  have h2 : r / 4503599627370496 < 2047 := by omega
  have h3 : r / 4503599627370496 % 2048 = r / 4503599627370496 := by omega
  rw [h3, if_neg (by omega)]
  by_cases c : r / 4503599627370496 = 0
  · have h4 : r < 4503599627370496 := by omega
    rw [if_pos c, if_pos h4]
    refine ⟨rfl, by show r % 4503599627370496 = r; omega, by show (-1074 : Int) ≤ -1074; omega, by show (-1074 : Int) ≤ 971; omega, ?_, by show r % 4503599627370496 < _; omega⟩
    rw [c]
    rfl
  · have h4 : ¬ r < 4503599627370496 := by omega
    rw [if_neg c, if_neg h4]
    refine ⟨rfl, rfl, by show (-1074 : Int) ≤ ((r / 4503599627370496 : Nat) : Int) - 1075; omega, by show ((r / 4503599627370496 : Nat) : Int) - 1075 ≤ 971; omega, ?_, by show r % 4503599627370496 + 4503599627370496 < _; omega⟩
    congr 1
    show _ = (((r / 4503599627370496 : Nat) : Int) - 1075 + 1074).toNat
    omega
theorem c74_eq : c74 = 1074 := rfl
theorem T76_eq : T76 = 4 * 2 ^ c74 := by unfold T76 T74; exact Eq.refl _
theorem frac_eq (r : Nat) (hr : r < 9218868437227405312) : (fparts r).1 * 2 ^ ((fparts r).2.1).toNat * T76 = fval r * 2 ^ (-(fparts r).2.1).toNat := by
  obtain ⟨_, h1, h2, h3, h4, _⟩ := parts_frac r hr
  unfold fval
  rw [h1, h4]
  generalize mant r = m
  generalize (fparts r).2.1 = e at *
  rw [T76_eq]
  have ee : e.toNat + 1074 = (e + 1074).toNat + (-e).toNat := by omega
  have ep : 2 ^ e.toNat * 2 ^ c74 = 2 ^ (e + 1074).toNat * 2 ^ (-e).toNat := by
    rw [← Nat.pow_add, ← Nat.pow_add, ← ee]
    exact congrArg (fun z => 2 ^ (e.toNat + z)) c74_eq
  rw [Nat.mul_assoc m, Nat.mul_left_comm _ 4, ep, Nat.mul_comm 4 m, Nat.mul_assoc, Nat.mul_assoc]
/-- The law's comparison is the one of the distances. -/
theorem law_far {num den r s a b c d : Nat} (hb : 0 < b) (hd : 0 < d) (hden : 0 < den) (ha : a * T76 = fval r * b) (hc : c * T76 = fval s * d) :
    (distOf (num * b) (a * den) * (den * d) < distOf (num * d) (c * den) * (den * b) ↔ farOf num den r < farOf num den s) ∧
    (distOf (num * b) (a * den) * (den * d) = distOf (num * d) (c * den) * (den * b) ↔ farOf num den r = farOf num den s) := by
  have hT : 0 < T76 := Nat.mul_pos (by decide) (Nat.pow_pos (by decide))
  have e1 : distOf (num * b) (a * den) * T76 = farOf num den r * b := by
    unfold farOf
    rw [← dist_mul, ← dist_mul, Nat.mul_right_comm num b, Nat.mul_right_comm a den, ha, Nat.mul_right_comm (fval r) b]
  have e2 : distOf (num * d) (c * den) * T76 = farOf num den s * d := by
    unfold farOf
    rw [← dist_mul, ← dist_mul, Nat.mul_right_comm num d, Nat.mul_right_comm c den, hc, Nat.mul_right_comm (fval s) d]
  generalize distOf (num * b) (a * den) = x at *
  generalize distOf (num * d) (c * den) = u at *
  generalize farOf num den r = f at *
  generalize farOf num den s = g at *
  have k1 : x * (den * d) * T76 = f * (b * d * den) := by
    rw [Nat.mul_right_comm, e1, Nat.mul_assoc f b, Nat.mul_comm den d, ← Nat.mul_assoc b d den]
  have k2 : u * (den * b) * T76 = g * (b * d * den) := by
    rw [Nat.mul_right_comm, e2, Nat.mul_assoc g d, Nat.mul_comm den b, ← Nat.mul_assoc d b den, Nat.mul_comm d b]
  have hp : 0 < b * d * den := Nat.mul_pos (Nat.mul_pos hb hd) hden
  constructor
  · rw [← Nat.mul_lt_mul_right hT, k1, k2, Nat.mul_lt_mul_right hp]
  · constructor
    · intro h
      rw [h, k2] at k1
      exact (Nat.eq_of_mul_eq_mul_right hp k1).symm
    · intro h
      rw [h, ← k2] at k1
      exact Nat.eq_of_mul_eq_mul_right hT k1
end Go.Proofs.YtobbbhmkcmbekaaDoor.bigs
