/- The program's units of a fraction, plain: floorLog10, and the ladder of units. -/
import Derived.Test.YtobbbhmkcmbekaaDoorFloatLevel
set_option linter.unusedVariables false
namespace Go.Proofs.YtobbbhmkcmbekaaDoor.bigs

/-- The power of ten under 2^N * 5^1080. -/
def logOf (N : Nat) : Nat := (N * 1262611 + 3166228440) / 4194304
def logFits (N : Nat) : Bool := decide (10 ^ logOf N ≤ 2 ^ N * 5 ^ c80 ∧ 2 ^ N * 5 ^ c80 < 10 ^ (logOf N + 1))
def allFit (k : Nat) : Nat → Bool
  | 0 => true
  | n + 1 => logFits (k + n) && allFit k n
theorem allFit_at {k : Nat} : ∀ n, allFit k n = true → ∀ i, i < n → logFits (k + i) = true
  | 0, _, i, hi => by omega
  | n + 1, h, i, hi => by
    unfold allFit at h
    rw [Bool.and_eq_true] at h
    by_cases c : i = n
    · rw [c]; exact h.1
    · exact allFit_at n h.2 i (by omega)
theorem fits1 : allFit 6 500 = true := by decide +kernel
theorem fits2 : allFit 506 500 = true := by decide +kernel
theorem fits3 : allFit 1006 500 = true := by decide +kernel
theorem fits4 : allFit 1506 598 = true := by decide +kernel
theorem log_fits {N : Nat} (h1 : 6 ≤ N) (h2 : N < 2104) : 10 ^ logOf N ≤ 2 ^ N * 5 ^ c80 ∧ 2 ^ N * 5 ^ c80 < 10 ^ (logOf N + 1) := by
  have h : logFits N = true := by
    by_cases a : N < 506
    · have := allFit_at _ fits1 (N - 6) (by omega)
      rwa [show 6 + (N - 6) = N by omega] at this
    · by_cases b : N < 1006
      · have := allFit_at _ fits2 (N - 506) (by omega)
        rwa [show 506 + (N - 506) = N by omega] at this
      · by_cases c : N < 1506
        · have := allFit_at _ fits3 (N - 1006) (by omega)
          rwa [show 1006 + (N - 1006) = N by omega] at this
        · have := allFit_at _ fits4 (N - 1506) (by omega)
          rwa [show 1506 + (N - 1506) = N by omega] at this
  exact of_decide_eq_true h
theorem fX_eq (r E : Nat) (hs : step r = 2 ^ E) : fX r = mant r * (2 ^ (E + 6) * 5 ^ c80) := by
  unfold fX fval wF
  rw [hs, Nat.pow_add]
  generalize 2 ^ E = T
  generalize 5 ^ c80 = F
  generalize mant r = m
  have e : (2 : Nat) ^ 6 = 64 := rfl
  rw [e, Nat.mul_assoc 4 m T, Nat.mul_mul_mul_comm 4 (m * T) 16 F, Nat.mul_comm T 64, Nat.mul_assoc 64 T F, Nat.mul_left_comm m 64, Nat.mul_assoc m T F]
/-- The fraction has 18 or 19 digits in the program's unit. -/
theorem at_range {r E b : Nat} (hs : step r = 2 ^ E) (hb1 : 2 ^ b ≤ mant r) (hb2 : mant r < 2 ^ (b + 1)) (hE : E ≤ 2045) (hb : b ≤ 52) :
    10 ^ (logOf (b + E + 6)) ≤ fX r ∧ fX r < 2 * 10 ^ (logOf (b + E + 6) + 1) := by
  obtain ⟨h1, h2⟩ := log_fits (N := b + E + 6) (by omega) (by omega)
  rw [fX_eq r E hs]
  rw [Nat.add_assoc b, Nat.pow_add, Nat.mul_assoc] at h1 h2
  rw [Nat.pow_succ] at hb2
  generalize 2 ^ (E + 6) * 5 ^ c80 = F at *
  rw [Nat.add_assoc b]
  constructor
  · exact Nat.le_trans h1 (Nat.mul_le_mul_right _ hb1)
  · have a1 : mant r * F ≤ 2 ^ b * 2 * F := Nat.mul_le_mul_right _ (by omega)
    have a2 : 2 ^ b * 2 * F = 2 * (2 ^ b * F) := by rw [Nat.mul_comm (2 ^ b), Nat.mul_assoc]
    omega
theorem div_cross {N D Y P : Nat} (hD : 0 < D) (hP : 0 < P) (h : N * P = Y * D) : N / D = Y / P ∧ (N % D = 0 ↔ Y % P = 0) := by
  constructor
  · rw [← Nat.mul_div_mul_right N D hP, h, Nat.mul_comm D P, Nat.mul_div_mul_right _ _ hD]
  · have e : N % D * P = Y % P * D := by rw [← Nat.mul_mod_mul_right, h, Nat.mul_comm D P, Nat.mul_mod_mul_right]
    constructor
    · intro h0
      rw [h0, Nat.zero_mul] at e
      rcases Nat.mul_eq_zero.1 e.symm with k | k <;> omega
    · intro h0
      rw [h0, Nat.zero_mul] at e
      rcases Nat.mul_eq_zero.1 e with k | k <;> omega
/-- The span in units of 10^c: low and high as the program has them. -/
def sLow (r c : Nat) : Nat := fL r / 10 ^ c + (if r % 2 = 1 ∨ fL r % 10 ^ c ≠ 0 then 1 else 0)
def sHigh (r c : Nat) : Nat := fH r / 10 ^ c - (if r % 2 = 1 ∧ fH r % 10 ^ c = 0 then 1 else 0)
theorem times_split (Y P x : Nat) (hP : 0 < P) : (x * P < Y ↔ x < Y / P ∨ (x = Y / P ∧ Y % P ≠ 0)) ∧ (x * P = Y ↔ x = Y / P ∧ Y % P = 0) := by
  have e := Nat.div_add_mod Y P
  have l := Nat.mod_lt Y hP
  generalize Y / P = q at *
  generalize Y % P = s at *
  rcases Nat.lt_trichotomy x q with c | c | c
  · have h := Nat.mul_le_mul_right P (show x + 1 ≤ q by omega)
    rw [Nat.add_mul, Nat.one_mul, Nat.mul_comm q] at h
    omega
  · subst c
    rw [Nat.mul_comm x]
    omega
  · have h := Nat.mul_le_mul_right P (show q + 1 ≤ x by omega)
    rw [Nat.add_mul, Nat.one_mul, Nat.mul_comm q] at h
    omega
theorem low_okay {r c x : Nat} (h0 : 0 < r) (hx : x * 10 ^ c ≤ fX r) : x < sLow r c ↔ ¬ Okay r (x * 10 ^ c) := by
  obtain ⟨a1, a2⟩ := times_split (fL r) (10 ^ c) x (pow10_pos c)
  obtain ⟨b1, b2⟩ := below_of r h0
  unfold Okay sLow
  generalize x * 10 ^ c = y at *
  generalize fL r / 10 ^ c = q at *
  generalize fL r % 10 ^ c = s at *
  generalize fL r = L at *
  generalize fH r = H at *
  generalize fX r = X at *
  split <;> omega
theorem high_okay {r c x : Nat} (h0 : 0 < r) (hx : fX r ≤ x * 10 ^ c) : x ≤ sHigh r c ↔ Okay r (x * 10 ^ c) := by
  obtain ⟨a1, a2⟩ := times_split (fH r) (10 ^ c) x (pow10_pos c)
  obtain ⟨b1, b2⟩ := below_of r h0
  unfold Okay sHigh
  have hx0 : x ≠ 0 := by intro e; subst e; rw [Nat.zero_mul] at hx; omega
  generalize x * 10 ^ c = y at *
  generalize fH r / 10 ^ c = q at *
  generalize fH r % 10 ^ c = s at *
  generalize fL r = L at *
  generalize fH r = H at *
  generalize fX r = X at *
  split <;> omega
/-- What nearestOf sees at a unit of 10^u, at being fX / 10^c. -/
theorem at_low {X c u a : Nat} (ha : a = X / 10 ^ c) : lowOf X (c + u) = a / 10 ^ u * 10 ^ u * 10 ^ c ∧ X / 10 ^ (c + u) = a / 10 ^ u := by
  have e : X / 10 ^ (c + u) = a / 10 ^ u := by rw [ha, Nat.pow_add, Nat.div_div_eq_div_mul]
  refine ⟨?_, e⟩
  unfold lowOf
  rw [e, Nat.pow_add, Nat.mul_comm (10 ^ c), Nat.mul_assoc]
theorem at_parts {X c u a : Nat} (ha : a = X / 10 ^ c) : X = lowOf X (c + u) + (a % 10 ^ u * 10 ^ c + X % 10 ^ c) ∧ X % 10 ^ c < 10 ^ c := by
  have e1 := Nat.div_add_mod X (10 ^ c)
  have e2 := Nat.div_add_mod a (10 ^ u)
  refine ⟨?_, Nat.mod_lt _ (pow10_pos c)⟩
  rw [(at_low ha).1]
  rw [← ha] at e1
  have e3 : a * 10 ^ c = a / 10 ^ u * 10 ^ u * 10 ^ c + a % 10 ^ u * 10 ^ c := by rw [← Nat.add_mul, Nat.mul_comm (a / 10 ^ u), e2]
  rw [Nat.mul_comm (10 ^ c)] at e1
  omega
theorem half_ten (u : Nat) (hu : 1 ≤ u) : 10 ^ u / 2 * 2 = 10 ^ u := by
  obtain ⟨v, rfl⟩ : ∃ v, u = v + 1 := ⟨u - 1, by omega⟩
  rw [Nat.pow_succ]
  omega
/-- Its answers: the number that is picked, or that there is none. -/
theorem near_down {r c u a : Nat} (h0 : 0 < r) (ha : a = fX r / 10 ^ c) (hu : 1 ≤ u) (hd : ¬ a / 10 ^ u * 10 ^ u < sLow r c)
    (hc : sHigh r c < a / 10 ^ u * 10 ^ u + 10 ^ u ∨ a % 10 ^ u < 10 ^ u / 2 ∨ (a % 10 ^ u = 10 ^ u / 2 ∧ fX r % 10 ^ c = 0 ∧ a / 10 ^ u % 2 = 0)) :
    Pick r (c + u) (a / 10 ^ u * 10 ^ u * 10 ^ c) := by
  obtain ⟨e1, e2⟩ := at_low (u := u) ha
  obtain ⟨e3, e4⟩ := at_parts (u := u) ha
  have le := lowOf_le (fX r) (c + u)
  rw [low_okay h0 (by rw [← e1]; exact le), ← e1, Classical.not_not] at hd
  rw [← e1]
  unfold Pick
  by_cases s : lowOf (fX r) (c + u) = fX r
  · right; right
    have eu : upOf (fX r) (c + u) = lowOf (fX r) (c + u) := by unfold upOf; rw [if_pos s]
    rw [eu]
    refine ⟨hd, hd, ?_⟩
    by_cases t : Upper (fX r) (c + u)
    · exact .inl ⟨t, rfl⟩
    · exact .inr ⟨t, rfl⟩
  · have eu : upOf (fX r) (c + u) = lowOf (fX r) (c + u) + 10 ^ (c + u) := by unfold upOf; rw [if_neg s]
    have eu2 : upOf (fX r) (c + u) = (a / 10 ^ u * 10 ^ u + 10 ^ u) * 10 ^ c := by rw [eu, e1, Nat.add_mul, Nat.pow_add, Nat.mul_comm (10 ^ c)]
    have lt := lt_lowOf (fX r) (c + u)
    rw [← eu] at lt
    by_cases t : Okay r (upOf (fX r) (c + u))
    · right; right
      refine ⟨hd, t, .inr ⟨?_, rfl⟩⟩
      rw [eu2, ← high_okay h0 (by rw [← eu2]; omega)] at t
      have hc' : a % 10 ^ u < 10 ^ u / 2 ∨ (a % 10 ^ u = 10 ^ u / 2 ∧ fX r % 10 ^ c = 0 ∧ a / 10 ^ u % 2 = 0) := by
        rcases hc with k | k
        · omega
        · exact k
      have hh := half_ten u hu
      have ep : 10 ^ (c + u) = 2 * (10 ^ u / 2 * 10 ^ c) := by
        rw [Nat.pow_add, Nat.mul_comm (10 ^ c)]
        rw [← Nat.mul_assoc, Nat.mul_comm 2, hh]
      unfold Upper
      rw [e2]
      rcases hc' with k | ⟨k1, k2, k3⟩
      · have k2 := Nat.mul_le_mul_right (10 ^ c) (show a % 10 ^ u + 1 ≤ 10 ^ u / 2 by omega)
        rw [Nat.add_mul, Nat.one_mul] at k2
        generalize a % 10 ^ u * 10 ^ c = A at *
        generalize 10 ^ u / 2 * 10 ^ c = B at *
        generalize fX r % 10 ^ c = C at *
        generalize lowOf (fX r) (c + u) = D at *
        generalize upOf (fX r) (c + u) = U at *
        generalize fX r = X at *
        clear hd ha e1 e2 eu2 hh t
        generalize 10 ^ (c + u) = G at *
        generalize 10 ^ c = K at *
        omega
      · rw [k1] at e3
        generalize 10 ^ u / 2 * 10 ^ c = B at *
        generalize fX r % 10 ^ c = C at *
        generalize lowOf (fX r) (c + u) = D at *
        generalize upOf (fX r) (c + u) = U at *
        generalize fX r = X at *
        clear hd ha e1 e2 eu2 hh t
        generalize 10 ^ (c + u) = G at *
        generalize 10 ^ c = K at *
        omega
    · right; left
      exact ⟨hd, t, rfl⟩
theorem up_eq {r c u a : Nat} (ha : a = fX r / 10 ^ c) (s : lowOf (fX r) (c + u) ≠ fX r) : upOf (fX r) (c + u) = (a / 10 ^ u * 10 ^ u + 10 ^ u) * 10 ^ c := by
  obtain ⟨e1, e2⟩ := at_low (u := u) ha
  have eu : upOf (fX r) (c + u) = lowOf (fX r) (c + u) + 10 ^ (c + u) := by unfold upOf; rw [if_neg s]
  rw [eu, e1, Nat.add_mul, Nat.pow_add, Nat.mul_comm (10 ^ c)]
theorem up_ge {r c u : Nat} (s : lowOf (fX r) (c + u) ≠ fX r) : fX r ≤ upOf (fX r) (c + u) := by
  have lt := lt_lowOf (fX r) (c + u)
  unfold upOf
  rw [if_neg s]
  omega
/-- down is too low. -/
theorem near_low {r c u a : Nat} (h0 : 0 < r) (ha : a = fX r / 10 ^ c) (hd : a / 10 ^ u * 10 ^ u < sLow r c) :
    (a / 10 ^ u * 10 ^ u + 10 ^ u ≤ sHigh r c → Pick r (c + u) ((a / 10 ^ u * 10 ^ u + 10 ^ u) * 10 ^ c)) ∧ (¬ a / 10 ^ u * 10 ^ u + 10 ^ u ≤ sHigh r c → ¬ Good r (c + u)) := by
  obtain ⟨e1, e2⟩ := at_low (u := u) ha
  have le := lowOf_le (fX r) (c + u)
  rw [low_okay h0 (by rw [← e1]; exact le), ← e1] at hd
  have s : lowOf (fX r) (c + u) ≠ fX r := fun e => hd (by rw [e]; exact okay_self r h0)
  have eu := up_eq ha s
  have ge := up_ge s
  rw [high_okay h0 (by rw [← eu]; exact ge), ← eu]
  constructor
  · intro t
    left
    exact ⟨hd, t, rfl⟩
  · intro t g
    exact g.elim hd t
theorem near_up {r c u a : Nat} (h0 : 0 < r) (ha : a = fX r / 10 ^ c) (hu : 1 ≤ u) (hd : ¬ a / 10 ^ u * 10 ^ u < sLow r c) (h1 : a / 10 ^ u * 10 ^ u + 10 ^ u ≤ sHigh r c) (h2 : 10 ^ u / 2 ≤ a % 10 ^ u)
    (h3 : ¬ (a % 10 ^ u = 10 ^ u / 2 ∧ fX r % 10 ^ c = 0 ∧ a / 10 ^ u % 2 = 0)) : Pick r (c + u) ((a / 10 ^ u * 10 ^ u + 10 ^ u) * 10 ^ c) := by
  obtain ⟨e1, e2⟩ := at_low (u := u) ha
  obtain ⟨e3, e4⟩ := at_parts (u := u) ha
  have le := lowOf_le (fX r) (c + u)
  have hh := half_ten u hu
  have hp := pow10_pos u
  have hc := pow10_pos c
  have s : lowOf (fX r) (c + u) ≠ fX r := by
    intro e
    have : a % 10 ^ u * 10 ^ c = 0 := by omega
    rcases Nat.mul_eq_zero.1 this with k | k <;> omega
  rw [low_okay h0 (by rw [← e1]; exact le), ← e1, Classical.not_not] at hd
  have eu := up_eq ha s
  have ge := up_ge s
  rw [high_okay h0 (by rw [← eu]; exact ge), ← eu] at h1
  rw [← eu]
  right; right
  refine ⟨hd, h1, .inl ⟨?_, rfl⟩⟩
  have ea : upOf (fX r) (c + u) = lowOf (fX r) (c + u) + 10 ^ (c + u) := by unfold upOf; rw [if_neg s]
  have ep : 10 ^ (c + u) = 2 * (10 ^ u / 2 * 10 ^ c) := by
    rw [Nat.pow_add, Nat.mul_comm (10 ^ c)]
    rw [← Nat.mul_assoc, Nat.mul_comm 2, hh]
  unfold Upper
  rw [e2]
  by_cases k : a % 10 ^ u = 10 ^ u / 2
  · rw [k] at e3
    generalize 10 ^ u / 2 * 10 ^ c = B at *
    generalize fX r % 10 ^ c = C at *
    generalize lowOf (fX r) (c + u) = D at *
    generalize upOf (fX r) (c + u) = U at *
    generalize fX r = X at *
    clear hd ha e1 e2 eu hh h1
    generalize 10 ^ (c + u) = G at *
    generalize 10 ^ c = K at *
    omega
  · have k2 := Nat.mul_le_mul_right (10 ^ c) (show 10 ^ u / 2 + 1 ≤ a % 10 ^ u by omega)
    rw [Nat.add_mul, Nat.one_mul] at k2
    generalize a % 10 ^ u * 10 ^ c = A at *
    generalize 10 ^ u / 2 * 10 ^ c = B at *
    generalize fX r % 10 ^ c = C at *
    generalize lowOf (fX r) (c + u) = D at *
    generalize upOf (fX r) (c + u) = U at *
    generalize fX r = X at *
    clear hd ha e1 e2 eu hh h1
    generalize 10 ^ (c + u) = G at *
    generalize 10 ^ c = K at *
    omega
end Go.Proofs.YtobbbhmkcmbekaaDoor.bigs
