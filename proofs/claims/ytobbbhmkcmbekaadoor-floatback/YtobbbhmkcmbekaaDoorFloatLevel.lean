/- The shortest digits of a fraction, plain: the levels at which a number of few digits lies beside it. -/
import Derived.Test.YtobbbhmkcmbekaaDoorFloatSpan
set_option linter.unusedVariables false
namespace Go.Proofs.YtobbbhmkcmbekaaDoor.bigs

/-- 10^1080 / 2^1076. -/
def c80 : Nat := 1080
def wF : Nat := 16 * 5 ^ c80
def T10 : Nat := 10 ^ c80
theorem pow_ten (n : Nat) : (10 : Nat) ^ n = 2 ^ n * 5 ^ n := Nat.mul_pow 2 5 n
theorem two80 : 2 ^ c80 = T76 * 16 := by
  have e : c80 = c74 + 6 := rfl
  rw [e, Nat.pow_add]
  unfold T76 T74
  generalize 2 ^ c74 = T
  omega
theorem wF_eq : T76 * wF = T10 := by
  unfold wF T10
  rw [pow_ten, two80, Nat.mul_assoc]
theorem wF_pos : 0 < wF := Nat.mul_pos (by decide) (Nat.pow_pos (by decide))
theorem T10_split (x : Nat) {b c : Nat} (h : 1080 = b + c) : x * T10 = x * 10 ^ b * 10 ^ c := by
  have e : c80 = b + c := h
  unfold T10
  rw [e, Nat.pow_add, Nat.mul_assoc]
/-- A fraction, and the half way places beside it, in units of 10^-1080. -/
def fX (r : Nat) : Nat := fval r * wF
def fH (r : Nat) : Nat := mid r * wF
def fL (r : Nat) : Nat := mid (r - 1) * wF
def Okay (r x : Nat) : Prop := (fL r < x ∧ x < fH r) ∨ (r % 2 = 0 ∧ fL r ≤ x ∧ x ≤ fH r)
theorem scale_lt {m num den x : Nat} (hd : 0 < den) (hx : num * T10 = x * den) : (m * den < num * T76 ↔ m * wF < x) ∧ (m * den = num * T76 ↔ m * wF = x) ∧ (num * T76 < m * den ↔ x < m * wF) := by
  rw [← wF_eq, ← Nat.mul_assoc] at hx
  have e : ∀ y, y * den * wF = y * wF * den := fun y => by rw [Nat.mul_assoc, Nat.mul_comm den, Nat.mul_assoc]
  have hw := wF_pos
  generalize num * T76 = N at *
  have l1 : m * den < N ↔ m * wF < x := by
    rw [← Nat.mul_lt_mul_right hw, hx, e]
    exact Nat.mul_lt_mul_right hd
  have l2 : N < m * den ↔ x < m * wF := by
    rw [← Nat.mul_lt_mul_right hw, hx, e]
    exact Nat.mul_lt_mul_right hd
  exact ⟨l1, by omega, l2⟩
theorem near_okay {num den r x : Nat} (hd : 0 < den) (h0 : 0 < r) (hr : r < 9218868437227405312) (hx : num * T10 = x * den) : Near num den r ↔ Okay r x := by
  obtain ⟨a1, a2, a3⟩ := scale_lt (m := mid (r - 1)) hd hx
  obtain ⟨b1, b2, b3⟩ := scale_lt (m := mid r) hd hx
  have key : Over num den r ∧ Under num den r ↔ Okay r x := by
    unfold Over Under Okay fL fH
    rw [a1, a2, b3, eq_comm (a := num * T76), b2]
    generalize mid (r - 1) * wF = A
    generalize mid r * wF = B
    omega
  constructor
  · intro h
    obtain ⟨_, h2, h3⟩ := near_span hd h
    exact key.1 ⟨h2, h3 hr⟩
  · intro h
    obtain ⟨h2, h3⟩ := key.2 h
    exact near_of_span hd hr h2 h3
theorem below_of (r : Nat) (h : 0 < r) : fL r < fX r ∧ fX r < fH r := by
  unfold fL fX fH
  have h1 := fval_succ (r - 1)
  rw [show r - 1 + 1 = r by omega] at h1
  have h2 := mid_eq (r - 1)
  have h3 := mid_eq r
  have h4 := step_pos r
  have h5 := step_pos (r - 1)
  exact ⟨Nat.mul_lt_mul_of_pos_right (by omega) wF_pos, Nat.mul_lt_mul_of_pos_right (by omega) wF_pos⟩
theorem okay_self (r : Nat) (h : 0 < r) : Okay r (fX r) := .inl (below_of r h)
theorem okay_between {r x y z : Nat} (h1 : Okay r x) (h2 : Okay r z) (h3 : x ≤ y) (h4 : y ≤ z) : Okay r y := by unfold Okay at *; omega
/-- The numbers beside X at a level. -/
def lowOf (X j : Nat) : Nat := X / 10 ^ j * 10 ^ j
def upOf (X j : Nat) : Nat := if lowOf X j = X then lowOf X j else lowOf X j + 10 ^ j
def Upper (X j : Nat) : Prop := upOf X j - X < X - lowOf X j ∨ (upOf X j - X = X - lowOf X j ∧ X / 10 ^ j % 2 = 1)
def Good (r j : Nat) : Prop := Okay r (lowOf (fX r) j) ∨ Okay r (upOf (fX r) j)
def Pick (r j p : Nat) : Prop :=
  (¬ Okay r (lowOf (fX r) j) ∧ Okay r (upOf (fX r) j) ∧ p = upOf (fX r) j) ∨
  (Okay r (lowOf (fX r) j) ∧ ¬ Okay r (upOf (fX r) j) ∧ p = lowOf (fX r) j) ∨
  (Okay r (lowOf (fX r) j) ∧ Okay r (upOf (fX r) j) ∧ ((Upper (fX r) j ∧ p = upOf (fX r) j) ∨ (¬ Upper (fX r) j ∧ p = lowOf (fX r) j)))
def Best (r j p : Nat) : Prop := 10 ^ j ≤ fX r ∧ Pick r j p ∧ ∀ i, j < i → 10 ^ i ≤ fX r → ¬ Good r i
theorem pick_good {r j p : Nat} (h : Pick r j p) : Good r j := by unfold Pick Good at *; rcases h with h | h | h <;> simp_all
theorem pick_okay {r j p : Nat} (h : Pick r j p) : Okay r p := by
  unfold Pick at h
  rcases h with ⟨_, h, rfl⟩ | ⟨h, _, rfl⟩ | ⟨h1, h2, ⟨_, rfl⟩ | ⟨_, rfl⟩⟩ <;> assumption
theorem pick_unique {r j p q : Nat} (h : Pick r j p) (k : Pick r j q) : p = q := by
  unfold Pick at h k
  rcases h with ⟨a, b, rfl⟩ | ⟨a, b, rfl⟩ | ⟨a, b, ⟨c, rfl⟩ | ⟨c, rfl⟩⟩ <;> rcases k with ⟨a', b', rfl⟩ | ⟨a', b', rfl⟩ | ⟨a', b', ⟨c', rfl⟩ | ⟨c', rfl⟩⟩ <;> first | rfl | contradiction
theorem best_unique {r j p i q : Nat} (h : Best r j p) (k : Best r i q) : p = q := by
  obtain ⟨h1, h2, h3⟩ := h
  obtain ⟨k1, k2, k3⟩ := k
  rcases Nat.lt_trichotomy i j with c | c | c
  · exact absurd (pick_good h2) (k3 j c h1)
  · subst c; exact pick_unique h2 k2
  · exact absurd (pick_good k2) (h3 i c k1)
theorem lowOf_le (X j : Nat) : lowOf X j ≤ X := Nat.div_mul_le_self _ _
theorem lt_lowOf (X j : Nat) : X < lowOf X j + 10 ^ j := by
  unfold lowOf
  have := Nat.div_add_mod X (10 ^ j)
  have h := Nat.mod_lt X (show 0 < 10 ^ j from Nat.pow_pos (by omega))
  rw [Nat.mul_comm]
  omega
theorem mant_lt (r : Nat) : mant r < 9007199254740992 := by unfold mant; split <;> omega
theorem step_down (r : Nat) (h : 0 < r) : step (r - 1) = step r ∨ (step r = 2 * step (r - 1) ∧ mant r = 4503599627370496) := by
  unfold step mant
  by_cases c : r % 4503599627370496 = 0
  · by_cases c1 : r / 4503599627370496 = 1
    · left; rw [c1, show (r - 1) / 4503599627370496 = 0 by omega]
    · right
      rw [if_neg (by omega), c, show r / 4503599627370496 - 1 = ((r - 1) / 4503599627370496 - 1) + 1 by omega, Nat.pow_succ]
      exact ⟨by rw [Nat.mul_comm], rfl⟩
  · left
    congr 2
    omega
/-- The span is wider than a unit of the 17th digit. -/
theorem wide {r : Nat} (h : 0 < r) : fX r < (fH r - fL r) * 10000000000000000 := by
  unfold fX fH fL
  have hw := wF_pos
  rw [← Nat.sub_mul, Nat.mul_assoc, Nat.mul_comm wF, ← Nat.mul_assoc]
  refine Nat.mul_lt_mul_of_pos_right ?_ hw
  have h1 := fval_succ (r - 1)
  rw [show r - 1 + 1 = r by omega] at h1
  have h2 := mid_eq (r - 1)
  have h3 := mid_eq r
  have e : mid r - mid (r - 1) = 2 * step r + 2 * step (r - 1) := by omega
  rw [e]
  have m := mant_lt r
  have s := step_pos r
  have e2 : fval r = 4 * (mant r * step r) := by unfold fval; rw [Nat.mul_assoc]
  rw [e2]
  clear e e2 h1 h2 h3
  rcases step_down r h with d | ⟨d1, d2⟩
  · rw [d]
    have := Nat.mul_lt_mul_of_pos_right m s
    generalize mant r * step r = Z at *
    omega
  · rw [d2]
    omega
theorem good_fine {r i : Nat} (h : 0 < r) (hi : 10 ^ i * 10000000000000000 ≤ fX r) : Good r i := by
  by_cases g : Good r i
  · exact g
  · exfalso
    have w := wide h
    have b := below_of r h
    have l1 := lowOf_le (fX r) i
    have l2 := lt_lowOf (fX r) i
    unfold Good upOf at g
    by_cases c : lowOf (fX r) i = fX r
    · rw [c] at g
      exact g (.inl (okay_self r h))
    · rw [if_neg c] at g
      unfold Okay at g
      generalize 10 ^ i = T at *
      generalize lowOf (fX r) i = A at *
      generalize fX r = X at *
      generalize fL r = L at *
      generalize fH r = H at *
      omega
theorem pow10_pos (j : Nat) : 0 < (10 : Nat) ^ j := Nat.pow_pos (by omega)
/-- A number with few digits in the span: then the level of as many is good. -/
theorem good_of_few {r n c i j : Nat} (h0 : 0 < r) (hn : n < 10 ^ c) (ho : Okay r (n * 10 ^ i)) (hX : 10 ^ (c + j) ≤ fX r * 10) : Good r j := by
  by_cases hc : c = 0
  · exfalso
    subst hc
    have hz : n = 0 := by rw [Nat.pow_zero] at hn; omega
    subst hz
    have p : 0 < mid (r - 1) := by rw [mid_eq]; have := step_pos (r - 1); omega
    have q : 0 < fL r := Nat.mul_pos p wF_pos
    unfold Okay at ho
    omega
  have P := pow10_pos j
  have front : 10 ^ (c - 1) * 10 ^ j ≤ lowOf (fX r) j := by
    unfold lowOf
    refine Nat.mul_le_mul_right _ ((Nat.le_div_iff_mul_le P).2 ?_)
    rw [show c + j = (c - 1 + j) + 1 by omega, Nat.pow_succ] at hX
    rw [← Nat.pow_add]
    omega
  have l1 := lowOf_le (fX r) j
  have l2 := lt_lowOf (fX r) j
  by_cases ci : i < j
  · have small : n * 10 ^ i ≤ lowOf (fX r) j := by
      refine Nat.le_trans ?_ front
      have h1 : n * 10 ^ i ≤ 10 ^ c * 10 ^ i := Nat.mul_le_mul_right _ (by omega)
      refine Nat.le_trans h1 ?_
      rw [← Nat.pow_add, ← Nat.pow_add]
      exact Nat.pow_le_pow_right (by omega) (by omega)
    exact .inl (okay_between ho (okay_self r h0) small l1)
  · obtain ⟨d, rfl⟩ : ∃ d, i = j + d := ⟨i - j, by omega⟩
    have em : n * 10 ^ (j + d) = n * 10 ^ d * 10 ^ j := by rw [Nat.pow_add, Nat.mul_comm (10 ^ j), Nat.mul_assoc]
    rw [em] at ho
    generalize n * 10 ^ d = m at *
    by_cases cm : m * 10 ^ j ≤ fX r
    · left
      refine okay_between ho (okay_self r h0) ?_ l1
      unfold lowOf
      exact Nat.mul_le_mul_right _ ((Nat.le_div_iff_mul_le P).2 cm)
    · right
      unfold upOf
      split
      · rename_i e
        rw [e]
        exact okay_self r h0
      · refine okay_between (okay_self r h0) ho (by omega) ?_
        have : fX r / 10 ^ j < m := Nat.div_lt_of_lt_mul (by rw [Nat.mul_comm]; omega)
        unfold lowOf
        have e : fX r / 10 ^ j * 10 ^ j + 10 ^ j = (fX r / 10 ^ j + 1) * 10 ^ j := by rw [Nat.add_mul, Nat.one_mul]
        rw [e]
        exact Nat.mul_le_mul_right _ (by omega)
theorem dvd_ten_le {d t j m : Nat} (h : d * 10 ^ t = m * 10 ^ j) (hd : d % 10 ≠ 0) : j ≤ t := by
  by_cases c : j ≤ t
  · exact c
  · exfalso
    obtain ⟨e, rfl⟩ : ∃ e, j = t + (e + 1) := ⟨j - t - 1, by omega⟩
    rw [Nat.pow_add, ← Nat.mul_assoc, Nat.mul_comm m, Nat.mul_assoc, Nat.mul_comm (10 ^ t)] at h
    have h1 := Nat.eq_of_mul_eq_mul_right (pow10_pos t) h
    rw [Nat.pow_succ, ← Nat.mul_assoc] at h1
    omega
theorem ten_unique {d t e s : Nat} (h : d * 10 ^ t = e * 10 ^ s) (hd : d % 10 ≠ 0) (he : e % 10 ≠ 0) : d = e ∧ t = s := by
  have a := dvd_ten_le h hd
  have b := dvd_ten_le h.symm he
  have c : t = s := by omega
  subst c
  exact ⟨Nat.eq_of_mul_eq_mul_right (pow10_pos t) h, rfl⟩
theorem best_multiple {r j p : Nat} (h : Pick r j p) : ∃ m, p = m * 10 ^ j ∧ m ≤ fX r / 10 ^ j + 1 := by
  have e1 : ∃ m, lowOf (fX r) j = m * 10 ^ j ∧ m ≤ fX r / 10 ^ j + 1 := ⟨_, rfl, by omega⟩
  have e2 : ∃ m, upOf (fX r) j = m * 10 ^ j ∧ m ≤ fX r / 10 ^ j + 1 := by
    unfold upOf
    split
    · exact e1
    · refine ⟨fX r / 10 ^ j + 1, ?_, Nat.le_refl _⟩
      rw [Nat.add_mul, Nat.one_mul]
      rfl
  unfold Pick at h
  rcases h with ⟨_, h, rfl⟩ | ⟨h, _, rfl⟩ | ⟨h1, h2, ⟨_, rfl⟩ | ⟨_, rfl⟩⟩ <;> assumption
/-- No digits are told that are more than needed. -/
theorem best_least {r j p d t n c i : Nat} (h0 : 0 < r) (hb : Best r j p) (hp : d * 10 ^ t = p) (hd : d % 10 ≠ 0) (hn : n < 10 ^ c) (hc : 10 ^ c ≤ d) (ho : Okay r (n * 10 ^ i)) : False := by
  obtain ⟨h1, h2, h3⟩ := hb
  obtain ⟨m, rfl, hm⟩ := best_multiple h2
  have jt := dvd_ten_le hp hd
  have dm : d ≤ m := by
    obtain ⟨e, rfl⟩ : ∃ e, t = j + e := ⟨t - j, by omega⟩
    rw [Nat.pow_add, Nat.mul_comm (10 ^ j), ← Nat.mul_assoc] at hp
    have := Nat.eq_of_mul_eq_mul_right (pow10_pos j) hp
    rw [← this]
    exact Nat.le_mul_of_pos_right _ (pow10_pos e)
  -- 10^c ≤ d ≤ front + 1, and d is no multiple of ten: so 10^c ≤ front, or c = 0
  by_cases c0 : c = 0
  · subst c0
    have hz : n = 0 := by rw [Nat.pow_zero] at hn; omega
    subst hz
    have p : 0 < mid (r - 1) := by rw [mid_eq]; have := step_pos (r - 1); omega
    have q : 0 < fL r := Nat.mul_pos p wF_pos
    unfold Okay at ho
    omega
  have cf : 10 ^ c ≤ fX r / 10 ^ j := by
    by_cases z : 10 ^ c = fX r / 10 ^ j + 1
    · exfalso
      have e : d = 10 ^ c := by omega
      rw [show c = (c - 1) + 1 by omega, Nat.pow_succ] at e
      omega
    · omega
  have big : 10 ^ (c + j) ≤ fX r := by
    rw [Nat.pow_add]
    exact (Nat.le_div_iff_mul_le (pow10_pos j)).1 cf
  have g := good_of_few (j := j + 1) h0 hn ho (by rw [← Nat.add_assoc, Nat.pow_succ]; omega)
  exact h3 (j + 1) (by omega) (Nat.le_trans (Nat.pow_le_pow_right (by omega) (by omega)) big) g
/-- At most 17 digits. -/
theorem best_17 {r j p d t : Nat} (h0 : 0 < r) (hb : Best r j p) (hp : d * 10 ^ t = p) (hd : d % 10 ≠ 0) : d < 100000000000000000 := by
  by_cases c : d < 100000000000000000
  · exact c
  · exfalso
    obtain ⟨h1, h2, h3⟩ := hb
    obtain ⟨m, rfl, hm⟩ := best_multiple h2
    have jt := dvd_ten_le hp hd
    have dm : d ≤ m := by
      obtain ⟨e, rfl⟩ : ∃ e, t = j + e := ⟨t - j, by omega⟩
      rw [Nat.pow_add, Nat.mul_comm (10 ^ j), ← Nat.mul_assoc] at hp
      have := Nat.eq_of_mul_eq_mul_right (pow10_pos j) hp
      rw [← this]
      exact Nat.le_mul_of_pos_right _ (pow10_pos e)
    have cf : 100000000000000000 ≤ fX r / 10 ^ j := by omega
    have big := (Nat.le_div_iff_mul_le (pow10_pos j)).1 cf
    have e10 : (10 : Nat) ^ (j + 1) = 10 * 10 ^ j := by rw [Nat.pow_succ, Nat.mul_comm]
    have g := good_fine (i := j + 1) h0 (by rw [e10]; generalize (10 : Nat) ^ j = T at *; omega)
    exact h3 (j + 1) (by omega) (by rw [e10]; generalize (10 : Nat) ^ j = T at *; omega) g
end Go.Proofs.YtobbbhmkcmbekaaDoor.bigs
