/- The program's way to the nearest fraction, plain. -/
import Derived.Test.YtobbbhmkcmbekaaDoorFloatUnits
set_option linter.unusedVariables false
namespace Go.Proofs.YtobbbhmkcmbekaaDoor.bigs

theorem prog_shift {m n E : Nat} : ∃ T, 0 < T ∧ m * T74 = m * 2 ^ (1074 - E) * T ∧ n * 2 ^ E = n * 2 ^ (E - 1074) * T :=
  ⟨2 ^ (1074 - (1074 - E)), Nat.pow_pos (by decide), T74_split _ (by omega), pow_split _ (by omega)⟩
theorem prog_over {m n Lu Lb : Nat} (hm : m < 2 ^ Lu) (hn : 2 ^ Lb ≤ 2 * n) : m * T74 < n * 2 ^ (Lu + 1021 - Lb) * 18014398509481984 := by
  have h1 : m * T74 < 2 ^ Lu * T74 := Nat.mul_lt_mul_of_pos_right hm (Nat.pow_pos (by decide))
  refine Nat.lt_of_lt_of_le h1 ?_
  have e : 2 ^ Lu * T74 = 2 ^ (Lu + c74) := by unfold T74; rw [Nat.pow_add]
  have e2 : n * 2 ^ (Lu + 1021 - Lb) * 18014398509481984 = 2 * n * 2 ^ (Lu + 1021 - Lb) * 2 ^ 53 := by
    rw [show (2 : Nat) ^ 53 = 9007199254740992 from rfl, Nat.mul_assoc 2]
    generalize n * 2 ^ (Lu + 1021 - Lb) = X
    omega
  rw [e, e2]
  have h2 : 2 ^ Lb * 2 ^ (Lu + 1021 - Lb) * 2 ^ 53 ≤ 2 * n * 2 ^ (Lu + 1021 - Lb) * 2 ^ 53 := Nat.mul_le_mul_right _ (Nat.mul_le_mul_right _ hn)
  refine Nat.le_trans ?_ h2
  rw [← Nat.pow_add, ← Nat.pow_add]
  refine Nat.pow_le_pow_right (by decide) ?_
  show Lu + 1074 ≤ _
  omega
theorem prog_under {m n Lu Lb : Nat} (hm : 2 ^ Lu ≤ 2 * m) (hn : n < 2 ^ Lb) (h : Lb < Lu + 1021) : n * 2 ^ (Lu + 1021 - Lb) * 4503599627370496 ≤ m * T74 := by
  have h1 : n * 2 ^ (Lu + 1021 - Lb) * 2 ^ 52 ≤ 2 ^ Lb * 2 ^ (Lu + 1021 - Lb) * 2 ^ 52 := Nat.mul_le_mul_right _ (Nat.mul_le_mul_right _ (Nat.le_of_lt hn))
  rw [show (2 : Nat) ^ 52 = 4503599627370496 from rfl] at h1
  refine Nat.le_trans h1 ?_
  rw [show (4503599627370496 : Nat) = 2 ^ 52 from rfl, ← Nat.pow_add, ← Nat.pow_add]
  have h2 : 2 ^ Lu * T74 ≤ 2 * m * T74 := Nat.mul_le_mul_right _ hm
  have e : 2 ^ Lu * T74 = 2 ^ (Lu + c74) := by unfold T74; rw [Nat.pow_add]
  have ex : Lu + c74 = (Lb + (Lu + 1021 - Lb) + 52) + 1 := by
    show Lu + 1074 = _
    clear h1 h2 e hm hn
    omega
  have e2 : 2 ^ (Lu + c74) = 2 * 2 ^ (Lb + (Lu + 1021 - Lb) + 52) := by rw [ex, Nat.pow_succ, Nat.mul_comm]
  rw [e, e2, Nat.mul_assoc] at h2
  omega
theorem twice_lt {X Y : Nat} (o : Y < X * 18014398509481984) : Y < (X + X) * 9007199254740992 := by
  have e : (X + X) * 9007199254740992 = X * 18014398509481984 := by rw [← Nat.two_mul, Nat.mul_comm 2 X, Nat.mul_assoc]
  rw [e]
  exact o
theorem twice_le {X Y : Nat} (h : ¬ Y < X * 9007199254740992) : (X + X) * 4503599627370496 ≤ Y := by omega
/-- The exponent is right at once, or by one more. -/
theorem prog_near {m n Lu Lb : Nat} (h0 : 0 < n) (hm1 : m < 2 ^ Lu) (hm2 : 2 ^ Lu ≤ 2 * m) (hn1 : n < 2 ^ Lb) (hn2 : 2 ^ Lb ≤ 2 * n) :
    (m * T74 < n * 2 ^ (Lu + 1021 - Lb) * 9007199254740992 → NearE m n (Lu + 1021 - Lb) (min 9218868437227405312 ((Lu + 1021 - Lb) * 4503599627370496 + rnd (m * T74) (n * 2 ^ (Lu + 1021 - Lb))))) ∧
    (¬ m * T74 < n * 2 ^ (Lu + 1021 - Lb) * 9007199254740992 → NearE m n (Lu + 1021 - Lb + 1) (min 9218868437227405312 ((Lu + 1021 - Lb + 1) * 4503599627370496 + rnd (m * T74) (n * 2 ^ (Lu + 1021 - Lb + 1))))) := by
  constructor
  · intro h
    refine ⟨h, ?_, rfl⟩
    by_cases c : Lu + 1021 - Lb = 0
    · exact .inl c
    · exact .inr (prog_under hm2 hn1 (by omega))
  · intro h
    have o := prog_over hm1 hn2
    refine ⟨?_, .inr ?_, rfl⟩
    · rw [← double_next]
      exact twice_lt o
    · rw [← double_next]
      exact twice_le h
theorem nearE_large {m n E r : Nat} (hn : 0 < n) (h : NearE m n E r) (hE : 2046 ≤ E) : r = 9218868437227405312 := by
  obtain ⟨h1, h2, h3⟩ := h
  have q : 4503599627370496 ≤ rnd (m * T74) (n * 2 ^ E) := by
    rcases h2 with h | h
    · omega
    · exact rnd_ge (Nat.mul_pos hn (Nat.pow_pos (by decide))) h
  rw [h3, Nat.min_eq_left]
  clear h1 h2 h3
  omega
theorem prog_large {m n Lu Lb : Nat} (h0 : 0 < n) (hm1 : m < 2 ^ Lu) (hm2 : 2 ^ Lu ≤ 2 * m) (hn1 : n < 2 ^ Lb) (hn2 : 2 ^ Lb ≤ 2 * n) (h : Lb + 1024 < Lu) : Near m n 9218868437227405312 := by
  obtain ⟨p1, p2⟩ := prog_near h0 hm1 hm2 hn1 hn2
  by_cases c : m * T74 < n * 2 ^ (Lu + 1021 - Lb) * 9007199254740992
  · have e := nearE_large h0 (p1 c) (by omega)
    have := near_ofE h0 (p1 c)
    rwa [e] at this
  · have e := nearE_large h0 (p2 c) (by omega)
    have := near_ofE h0 (p2 c)
    rwa [e] at this
/-- In the words of the division: A / B, A = m * 2^(1074 - E), B = n * 2^(E - 1074). -/
theorem prog_div {m n E : Nat} (hn : 0 < n) : (m * 2 ^ (1074 - E) / (n * 2 ^ (E - 1074)) < 9007199254740992 ↔ m * T74 < n * 2 ^ E * 9007199254740992) ∧ rnd (m * T74) (n * 2 ^ E) = rnd (m * 2 ^ (1074 - E)) (n * 2 ^ (E - 1074)) := by
  obtain ⟨T, hT, e1, e2⟩ := prog_shift (m := m) (n := n) (E := E)
  have hB : 0 < n * 2 ^ (E - 1074) := Nat.mul_pos hn (Nat.pow_pos (by decide))
  constructor
  · rw [Nat.div_lt_iff_lt_mul hB, e1, e2, Nat.mul_comm 9007199254740992, Nat.mul_assoc (n * 2 ^ (E - 1074)) T, Nat.mul_comm T, ← Nat.mul_assoc, Nat.mul_lt_mul_right hT]
  · rw [e1, e2, rnd_scale _ _ _ hT]
theorem rnd_next (A B : Nat) (hB : 0 < B) : rnd A B = A / B + (if B < A % B + A % B ∨ (A % B + A % B = B ∧ A / B % 2 = 1) then 1 else 0) := by
  unfold rnd
  by_cases h : B < A % B + A % B ∨ (A % B + A % B = B ∧ A / B % 2 = 1)
  · rw [if_pos h, if_pos (by omega)]
  · rw [if_neg h, if_neg (by omega)]
    rfl
end Go.Proofs.YtobbbhmkcmbekaaDoor.bigs
