/- The nearest fraction, as the span of the numbers that it is nearest to; plain. -/
import Derived.Test.YtobbbhmkcmbekaaDoorFloatMath
set_option linter.unusedVariables false
namespace Go.Proofs.YtobbbhmkcmbekaaDoor.bigs

theorem pow_split (x : Nat) {a b c : Nat} (h : a = b + c) : x * 2 ^ a = x * 2 ^ b * 2 ^ c := by rw [h, Nat.pow_add, Nat.mul_assoc]
/-- The powers, under names. -/
def c74 : Nat := 1074
def T74 : Nat := 2 ^ c74
def T76 : Nat := 4 * T74
theorem T74_split (x : Nat) {b c : Nat} (h : 1074 = b + c) : x * T74 = x * 2 ^ b * 2 ^ c := by
  have e : c74 = b + c := h
  unfold T74
  rw [e, Nat.pow_add, Nat.mul_assoc]
/-- Near, by one exponent. -/
def NearE (num den E r : Nat) : Prop := num * T74 < den * 2 ^ E * 9007199254740992 ∧ (E = 0 ∨ den * 2 ^ E * 4503599627370496 ≤ num * T74) ∧
  r = min 9218868437227405312 (E * 4503599627370496 + rnd (num * T74) (den * 2 ^ E))
theorem nearE_of {num den r : Nat} (hd : 0 < den) (h : Near num den r) : ∃ E, NearE num den E r := by
  obtain ⟨a, b, h1, h2, h3, h4, h5, h6⟩ := h
  have s := near_side h2 h4
  have n := near_norm h3 h4 s
  have hdb : 0 < den * 2 ^ b := Nat.mul_pos hd (Nat.pow_pos (by omega))
  have q := rnd_le h5
  have g : 4503599627370496 ≤ rnd (num * 2 ^ a) (den * 2 ^ b) ∨ (b : Int) - (a : Int) = -1074 := by
    rcases n with e | e
    · exact .inl (rnd_ge hdb e)
    · exact .inr e
  rw [packed_min q (exp_ge h1) g] at h6
  have eE : ((b : Int) - (a : Int) + 1074).toNat = b + 1074 - a := by omega
  rw [eE] at h6
  clear eE
  obtain ⟨T, hT, e1, e2⟩ : ∃ T, 0 < T ∧ num * T74 = num * 2 ^ a * T ∧ den * 2 ^ (b + 1074 - a) = den * 2 ^ b * T := by
    refine ⟨2 ^ (1074 - a), Nat.pow_pos (by decide), T74_split _ (by omega), pow_split _ (by omega)⟩
  refine ⟨b + 1074 - a, ?_, ?_, ?_⟩
  · rw [e1, e2, Nat.mul_assoc (den * 2 ^ b), Nat.mul_comm T, ← Nat.mul_assoc]
    exact Nat.mul_lt_mul_of_pos_right h5 hT
  · rcases n with e | e
    · right
      rw [e1, e2, Nat.mul_assoc (den * 2 ^ b), Nat.mul_comm T, ← Nat.mul_assoc]
      exact Nat.mul_le_mul_right _ e
    · left
      omega
  · rw [e1, e2, rnd_scale _ _ _ hT]
    exact h6
theorem shift_back (E : Nat) : (((E - 1074 : Nat) : Int) - ((1074 - E : Nat) : Int) + 1074).toNat = E := by omega
theorem shift_le (E : Nat) : 1074 - E ≤ 1074 := by omega
theorem near_ofE {num den E r : Nat} (hd : 0 < den) (h : NearE num den E r) : Near num den r := by
  obtain ⟨h1, h2, h3⟩ := h
  obtain ⟨T, hT, e1, e2⟩ : ∃ T, 0 < T ∧ num * T74 = num * 2 ^ (1074 - E) * T ∧ den * 2 ^ E = den * 2 ^ (E - 1074) * T := by
    refine ⟨2 ^ (1074 - (1074 - E)), Nat.pow_pos (by decide), T74_split _ (by omega), pow_split _ (by omega)⟩
  have hdb : 0 < den * 2 ^ (E - 1074) := Nat.mul_pos hd (Nat.pow_pos (by omega))
  have k1 : num * 2 ^ (1074 - E) < den * 2 ^ (E - 1074) * 9007199254740992 := by
    rw [e1, e2, Nat.mul_assoc (den * 2 ^ (E - 1074)), Nat.mul_comm T, ← Nat.mul_assoc] at h1
    exact Nat.lt_of_mul_lt_mul_right h1
  have k2 : E = 0 ∨ den * 2 ^ (E - 1074) * 4503599627370496 ≤ num * 2 ^ (1074 - E) := by
    rcases h2 with h | h
    · exact .inl h
    · right
      rw [e1, e2, Nat.mul_assoc (den * 2 ^ (E - 1074)), Nat.mul_comm T, ← Nat.mul_assoc] at h
      exact Nat.le_of_mul_le_mul_right h hT
  have q := rnd_le k1
  rw [e1, e2, rnd_scale _ _ _ hT] at h3
  clear e1 e2 h1 h2
  refine ⟨1074 - E, E - 1074, by omega, ?_, ?_, ?_, k1, ?_⟩
  · by_cases c : 1074 - E = 0
    · exact .inl c
    · right
      rw [show E - 1074 = 0 by omega, Nat.pow_zero, Nat.mul_one] at k1
      have e := double_next num (1074 - E - 1)
      rw [show 1074 - E - 1 + 1 = 1074 - E by omega] at e
      rw [← e] at k1
      clear e k2 h3 q hdb
      generalize num * 2 ^ (1074 - E - 1) = X at *
      omega
  · rcases k2 with h | h
    · left; omega
    · right
      refine Nat.le_trans (Nat.mul_le_mul_right _ ?_) h
      exact Nat.le_mul_of_pos_right _ (Nat.pow_pos (by omega))
  · by_cases c : E - 1074 = 0
    · exact .inl c
    · right
      rcases k2 with h | h
      · omega
      · have e := double_next den (E - 1074 - 1)
        rw [show E - 1074 - 1 + 1 = E - 1074 by omega] at e
        rw [← e] at h
        refine Nat.le_trans ?_ h
        clear e h k1 h3 q hdb
        generalize den * 2 ^ (E - 1074 - 1) = X at *
        omega
  · have eE : (((E - 1074 : Nat) : Int) - ((1074 - E : Nat) : Int) + 1074).toNat = E := shift_back E
    have g : 4503599627370496 ≤ rnd (num * 2 ^ (1074 - E)) (den * 2 ^ (E - 1074)) ∨ ((E - 1074 : Nat) : Int) - ((1074 - E : Nat) : Int) = -1074 := by
      rcases k2 with h | h
      · subst h
        exact .inr rfl
      · exact .inl (rnd_ge hdb h)
    rw [packed_min q (exp_ge (shift_le E)) g, eE]
    exact h3
theorem nearE_exists (num den : Nat) (hd : 0 < den) : ∃ E r, NearE num den E r := by
  have h : ∀ E, num * T74 < den * 2 ^ E * 9007199254740992 → ∃ E r, NearE num den E r := by
    intro E
    induction E with
    | zero => intro h; exact ⟨0, _, h, .inl rfl, rfl⟩
    | succ E ih =>
      intro h
      by_cases c : num * T74 < den * 2 ^ E * 9007199254740992
      · exact ih c
      · refine ⟨E + 1, _, h, .inr ?_, rfl⟩
        rw [← double_next]
        generalize den * 2 ^ E = X at *
        generalize num * T74 = Y at *
        clear h ih
        omega
  refine h (num * T74) ?_
  have h1 : num * T74 < 2 ^ (num * T74) := Nat.lt_two_pow_self
  generalize num * T74 = Y at *
  refine Nat.lt_of_lt_of_le h1 ?_
  rw [Nat.mul_comm den, Nat.mul_assoc]
  exact Nat.le_mul_of_pos_right _ (Nat.mul_pos hd (by omega))
theorem near_exists (num den : Nat) (hd : 0 < den) : ∃ r, Near num den r := by
  obtain ⟨E, r, h⟩ := nearE_exists num den hd
  exact ⟨r, near_ofE hd h⟩
/-- The whole number of a fraction's bits, and its unit. -/
def mant (r : Nat) : Nat := if r < 4503599627370496 then r else r % 4503599627370496 + 4503599627370496
def step (r : Nat) : Nat := 2 ^ (r / 4503599627370496 - 1)
/-- A fraction in units of 2^-1076, and the place half way to the next. -/
def fval (r : Nat) : Nat := 4 * mant r * step r
def mid (r : Nat) : Nat := (4 * mant r + 2) * step r
theorem step_pos (r : Nat) : 0 < step r := Nat.pow_pos (by omega)
theorem fval_succ (r : Nat) : fval (r + 1) = fval r + 4 * step r := by
  unfold fval mant step
  by_cases c : (r + 1) % 4503599627370496 = 0
  · by_cases c1 : r < 4503599627370496
    · have e : r = 4503599627370495 := by omega
      subst e
      rfl
    · rw [if_neg (by omega), if_neg c1, c, show (r + 1) / 4503599627370496 - 1 = (r / 4503599627370496 - 1) + 1 by omega, Nat.pow_succ, show r % 4503599627370496 = 4503599627370495 by omega]
      generalize 2 ^ (r / 4503599627370496 - 1) = S
      omega
  · rw [show (r + 1) / 4503599627370496 = r / 4503599627370496 by omega]
    generalize 2 ^ (r / 4503599627370496 - 1) = S
    have e : ∀ x : Nat, 4 * (x + 1) * S = 4 * x * S + 4 * S := fun x => by rw [Nat.mul_add, Nat.add_mul]
    by_cases c1 : r + 1 < 4503599627370496
    · rw [if_pos c1, if_pos (by omega), e]
    · rw [if_neg c1, if_neg (by omega), ← e]
      congr 2
      omega
theorem mid_eq (r : Nat) : mid r = fval r + 2 * step r := by
  unfold mid fval
  rw [Nat.add_mul]
theorem fval_mono {r s : Nat} (h : r ≤ s) : fval r ≤ fval s := by
  induction h with
  | refl => exact Nat.le_refl _
  | step _ ih => rw [fval_succ]; omega
theorem fval_lt {r s : Nat} (h : r < s) : fval r < fval s := by
  have h1 := fval_mono (show r + 1 ≤ s by omega)
  have h2 := fval_succ r
  have h3 := step_pos r
  omega
theorem mid_mono {r s : Nat} (h : r ≤ s) : mid r ≤ mid s := by
  by_cases c : r = s
  · rw [c]; exact Nat.le_refl _
  · have h1 := fval_mono (show r + 1 ≤ s by omega)
    have h2 := fval_succ r
    rw [mid_eq, mid_eq]
    omega
theorem mid_lt {r s : Nat} (h : r < s) : mid r < mid s := by
  have h1 := fval_mono (show r + 1 ≤ s by omega)
  have h2 := fval_succ r
  have h3 := step_pos r
  have h4 := step_pos s
  rw [mid_eq, mid_eq]
  omega
/-- num / den lies above (below) the half way place under (over) r, or on it, if r is even. -/
def Over (num den r : Nat) : Prop := r = 0 ∨ mid (r - 1) * den < num * T76 ∨ (mid (r - 1) * den = num * T76 ∧ r % 2 = 0)
def Under (num den r : Nat) : Prop := num * T76 < mid r * den ∨ (num * T76 = mid r * den ∧ r % 2 = 0)
theorem rnd_span (n d : Nat) (hd : 0 < d) : (2 * n < (2 * rnd n d + 1) * d ∨ (2 * n = (2 * rnd n d + 1) * d ∧ rnd n d % 2 = 0)) ∧
    ((2 * rnd n d) * d < 2 * n + d ∨ ((2 * rnd n d) * d = 2 * n + d ∧ rnd n d % 2 = 0)) := by
  have e1 := Nat.div_add_mod n d
  have l1 := Nat.mod_lt n hd
  unfold rnd
  generalize n / d = Q at *
  generalize n % d = c at *
  split
  · rename_i h
    have x1 : (2 * (Q + 1) + 1) * d = 2 * (d * Q) + 3 * d := by rw [Nat.add_mul, Nat.mul_assoc, Nat.add_mul, Nat.mul_comm Q]; omega
    have x2 : 2 * (Q + 1) * d = 2 * (d * Q) + 2 * d := by rw [Nat.mul_assoc, Nat.add_mul, Nat.mul_comm Q]; omega
    rw [x1, x2]
    generalize d * Q = Z at *
    omega
  · rename_i h
    have x1 : (2 * Q + 1) * d = 2 * (d * Q) + d := by rw [Nat.add_mul, Nat.mul_assoc, Nat.mul_comm Q]; omega
    have x2 : 2 * Q * d = 2 * (d * Q) := by rw [Nat.mul_assoc, Nat.mul_comm Q]
    rw [x1, x2]
    generalize d * Q = Z at *
    omega
theorem mant_of {E q : Nat} (h1 : q < 9007199254740992) (h2 : E = 0 ∨ 4503599627370496 ≤ q) : mant (E * 4503599627370496 + q) = q ∧ step (E * 4503599627370496 + q) = 2 ^ E := by
  unfold mant step
  by_cases c : q < 4503599627370496
  · have e : E = 0 := by omega
    subst e
    rw [if_pos (by omega)]
    refine ⟨by omega, ?_⟩
    congr 1
    omega
  · rw [if_neg (by omega)]
    refine ⟨by omega, ?_⟩
    congr 1
    omega
theorem mid_of {E q : Nat} (h1 : q < 9007199254740992) (h2 : E = 0 ∨ 4503599627370496 ≤ q) : mid (E * 4503599627370496 + q) = (4 * q + 2) * 2 ^ E := by
  obtain ⟨e1, e2⟩ := mant_of h1 h2
  unfold mid
  rw [e1, e2]
theorem four_X (n : Nat) : n * T76 = 4 * (n * T74) := by
  unfold T76
  generalize T74 = T
  rw [Nat.mul_left_comm]
theorem par_of (E q : Nat) : (E * 4503599627370496 + q) % 2 = q % 2 := by omega
theorem spanOver_pow {D X : Nat} (hD : 0 < D + D) (h : (D + D) * 4503599627370496 ≤ X) : (4 * 9007199254740991 + 2) * D < 4 * X := by omega
theorem spanOver_any {q X Y Z D : Nat} (e : Y + 2 * D = 2 * Z) (s : Z < 2 * X + D ∨ (Z = 2 * X + D ∧ q % 2 = 0)) : Y < 4 * X ∨ (Y = 4 * X ∧ q % 2 = 0) := by omega
theorem spanUnder_pow {D X : Nat} (hD : 0 < D) (h : X < D * 9007199254740992) : 4 * X < (4 * 4503599627370496 + 2) * (D + D) := by omega
theorem spanUnder_any {q X Y : Nat} (s : 2 * X < Y ∨ (2 * X = Y ∧ q % 2 = 0)) : 4 * X < 2 * Y ∨ (4 * X = 2 * Y ∧ q % 2 = 0) := by omega
theorem times_pow (c E den : Nat) : c * 2 ^ E * den = c * (den * 2 ^ E) := by rw [Nat.mul_assoc, Nat.mul_comm (2 ^ E)]
theorem span_over {X den E q : Nat} (hD : 0 < den * 2 ^ E) (q1 : q ≤ 9007199254740992) (q2 : E = 0 ∨ 4503599627370496 ≤ q) (h2 : E = 0 ∨ den * 2 ^ E * 4503599627370496 ≤ X)
    (s2 : (2 * q) * (den * 2 ^ E) < 2 * X + den * 2 ^ E ∨ ((2 * q) * (den * 2 ^ E) = 2 * X + den * 2 ^ E ∧ q % 2 = 0)) (z : E * 4503599627370496 + q ≠ 0) :
    mid (E * 4503599627370496 + q - 1) * den < 4 * X ∨ (mid (E * 4503599627370496 + q - 1) * den = 4 * X ∧ q % 2 = 0) := by
  by_cases c : E ≠ 0 ∧ q = 4503599627370496
  · obtain ⟨c1, c2⟩ := c
    subst c2
    obtain ⟨E', rfl⟩ : ∃ E', E = E' + 1 := ⟨E - 1, (Nat.succ_pred c1).symm⟩
    have e0 : (E' + 1) * 4503599627370496 + 4503599627370496 - 1 = E' * 4503599627370496 + 9007199254740991 := by clear hD q1 q2 h2 s2 z c1; omega
    rw [e0, mid_of (by decide) (.inr (by decide)), times_pow]
    left
    rcases h2 with h | h
    · exact absurd h c1
    · rw [← double_next] at h hD
      exact spanOver_pow hD h
  · clear h2
    have c3 : 1 ≤ q := by clear s2 hD; omega
    have e0 : E * 4503599627370496 + q - 1 = E * 4503599627370496 + (q - 1) := by clear hD q1 q2 s2 z c; omega
    have c4 : E = 0 ∨ 4503599627370496 ≤ q - 1 := by clear hD s2 z e0; omega
    have c5 : q - 1 < 9007199254740992 := by clear hD s2 z e0 c4 q2 c; omega
    rw [e0, mid_of c5 c4, times_pow]
    have e : (4 * (q - 1) + 2) * (den * 2 ^ E) + 2 * (den * 2 ^ E) = 2 * (2 * q * (den * 2 ^ E)) := by
      have e1 : 4 * (q - 1) + 2 + 2 = 2 * (2 * q) := by clear s2 hD c4 c5 e0 z c q2; omega
      rw [← Nat.add_mul, e1, Nat.mul_assoc]
    exact spanOver_any e s2
theorem span_under {X den E q : Nat} (hD : 0 < den * 2 ^ E) (q1 : q ≤ 9007199254740992) (q2 : E = 0 ∨ 4503599627370496 ≤ q) (h1 : X < den * 2 ^ E * 9007199254740992)
    (s1 : 2 * X < (2 * q + 1) * (den * 2 ^ E) ∨ (2 * X = (2 * q + 1) * (den * 2 ^ E) ∧ q % 2 = 0)) :
    4 * X < mid (E * 4503599627370496 + q) * den ∨ (4 * X = mid (E * 4503599627370496 + q) * den ∧ q % 2 = 0) := by
  by_cases c : q = 9007199254740992
  · subst c
    have e0 : E * 4503599627370496 + 9007199254740992 = (E + 1) * 4503599627370496 + 4503599627370496 := by clear hD q1 q2 h1 s1; omega
    rw [e0, mid_of (by decide) (.inr (Nat.le_refl _)), times_pow, ← double_next]
    left
    exact spanUnder_pow hD h1
  · have c5 : q < 9007199254740992 := Nat.lt_of_le_of_ne q1 c
    rw [mid_of c5 q2, times_pow]
    have e : (4 * q + 2) * (den * 2 ^ E) = 2 * ((2 * q + 1) * (den * 2 ^ E)) := by
      have e1 : 4 * q + 2 = 2 * (2 * q + 1) := by clear hD q1 q2 h1 s1 c c5; omega
      rw [e1, Nat.mul_assoc]
    rw [e]
    exact spanUnder_any s1
theorem span_of {num den E : Nat} (hd : 0 < den) (h1 : num * T74 < den * 2 ^ E * 9007199254740992) (h2 : E = 0 ∨ den * 2 ^ E * 4503599627370496 ≤ num * T74) :
    Over num den (E * 4503599627370496 + rnd (num * T74) (den * 2 ^ E)) ∧ Under num den (E * 4503599627370496 + rnd (num * T74) (den * 2 ^ E)) := by
  have hD : 0 < den * 2 ^ E := Nat.mul_pos hd (Nat.pow_pos (by decide))
  have q1 := rnd_le h1
  have q2 : E = 0 ∨ 4503599627370496 ≤ rnd (num * T74) (den * 2 ^ E) := by
    rcases h2 with h | h
    · exact .inl h
    · exact .inr (rnd_ge hD h)
  obtain ⟨s1, s2⟩ := rnd_span (num * T74) (den * 2 ^ E) hD
  unfold Over Under
  rw [four_X]
  generalize num * T74 = X at *
  generalize rnd X (den * 2 ^ E) = q at *
  rw [par_of]
  constructor
  · by_cases z : E * 4503599627370496 + q = 0
    · exact .inl z
    · exact .inr (span_over hD q1 q2 h2 s2 z)
  · exact span_under hD q1 q2 h1 s1
/-- What Near tells. -/
theorem near_span {num den r : Nat} (hd : 0 < den) (h : Near num den r) : r ≤ 9218868437227405312 ∧ Over num den r ∧ (r < 9218868437227405312 → Under num den r) := by
  obtain ⟨E, h1, h2, h3⟩ := nearE_of hd h
  obtain ⟨s1, s2⟩ := span_of hd h1 h2
  generalize E * 4503599627370496 + rnd (num * T74) (den * 2 ^ E) = R at *
  refine ⟨by omega, ?_, ?_⟩
  · by_cases c : R ≤ 9218868437227405312
    · rw [h3, Nat.min_eq_right c]
      exact s1
    · have e : r = 9218868437227405312 := by omega
      rw [e]
      right
      have m := Nat.mul_le_mul_right den (mid_mono (show 9218868437227405312 - 1 ≤ R - 1 by omega))
      have m2 : mid (R - 1) * den ≤ num * T76 := by
        rcases s1 with s | s | s
        · omega
        · omega
        · omega
      generalize num * T76 = X at *
      generalize mid (9218868437227405312 - 1) * den = Y at *
      generalize mid (R - 1) * den = Z at *
      omega
  · intro hr
    rw [h3, Nat.min_eq_right (by omega)]
    exact s2
theorem over_under {num den r s : Nat} (hd : 0 < den) (hu : Under num den r) (ho : Over num den s) : s ≤ r := by
  by_cases c : s ≤ r
  · exact c
  · exfalso
    have m := Nat.mul_le_mul_right den (mid_mono (show r ≤ s - 1 by omega))
    unfold Over Under at *
    by_cases c2 : s = r + 1
    · subst c2
      rw [show r + 1 - 1 = r by omega] at ho
      generalize num * T76 = X at *
      generalize mid r * den = Y at *
      omega
    · have m2 := Nat.mul_lt_mul_of_pos_right (mid_lt (show r < s - 1 by omega)) hd
      generalize num * T76 = X at *
      generalize mid r * den = Y at *
      generalize mid (s - 1) * den = Z at *
      omega
/-- And it is told by that. -/
theorem near_of_span {num den r : Nat} (hd : 0 < den) (hr : r < 9218868437227405312) (ho : Over num den r) (hu : Under num den r) : Near num den r := by
  obtain ⟨s, h⟩ := near_exists num den hd
  obtain ⟨h1, h2, h3⟩ := near_span hd h
  have l1 := over_under hd hu h2
  have l2 := over_under hd (h3 (by omega)) ho
  have e : s = r := by omega
  rw [← e]
  exact h
theorem near_of_inf {num den : Nat} (hd : 0 < den) (ho : Over num den 9218868437227405312) : Near num den 9218868437227405312 := by
  obtain ⟨s, h⟩ := near_exists num den hd
  obtain ⟨h1, h2, h3⟩ := near_span hd h
  by_cases c : s = 9218868437227405312
  · rw [← c]; exact h
  · have l2 := over_under hd (h3 (by omega)) ho
    omega
end Go.Proofs.YtobbbhmkcmbekaaDoor.bigs
