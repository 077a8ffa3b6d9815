/- The nearest fraction: scale and order, plain. -/
import Derived.Test.YtobbbhmkcmbekaaDoorFloatPlain
set_option linter.unusedVariables false
namespace Go.Proofs.YtobbbhmkcmbekaaDoor.bigs

theorem rnd_scale (x y c : Nat) (hc : 0 < c) : rnd (x * c) (y * c) = rnd x y := by
  unfold rnd
  rw [Nat.mul_div_mul_right _ _ hc, Nat.mul_mod_mul_right, ← Nat.mul_assoc]
  have e1 : (y * c < 2 * (x % y) * c) ↔ y < 2 * (x % y) := Nat.mul_lt_mul_right hc
  have e2 : (2 * (x % y) * c = y * c) ↔ 2 * (x % y) = y := ⟨fun h => Nat.eq_of_mul_eq_mul_right hc h, fun h => by rw [h]⟩
  simp only [e1, e2]
theorem near_scale {num den r c : Nat} (hc : 0 < c) (h : Near num den r) : Near (num * c) (den * c) r := by
  obtain ⟨a, b, h1, h2, h3, h4, h5, h6⟩ := h
  have s : ∀ x y z : Nat, x * c * y = x * y * c := fun x y z => by rw [Nat.mul_assoc, Nat.mul_comm c, Nat.mul_assoc]
  refine ⟨a, b, h1, ?_, ?_, ?_, ?_, ?_⟩
  · rcases h2 with h | h
    · exact .inl h
    · right
      rw [s _ _ 0, s _ _ 0]
      exact Nat.mul_lt_mul_of_pos_right h hc
  · rcases h3 with h | h
    · exact .inl h
    · right
      rw [s _ _ 0, s _ _ 0]
      exact Nat.mul_le_mul_right _ h
  · rcases h4 with h | h
    · exact .inl h
    · right
      rw [s _ _ 0, s _ _ 0, s _ _ 0]
      exact Nat.mul_le_mul_right _ h
  · rw [s _ _ 0, s _ _ 0, s _ _ 0]
    exact Nat.mul_lt_mul_of_pos_right h5 hc
  · rw [s _ _ 0, s den _ 0, rnd_scale _ _ _ hc]
    exact h6
theorem rnd_le {N d M : Nat} (h : N < d * M) : rnd N d ≤ M := by
  have h1 : N / d < M := Nat.div_lt_of_lt_mul h
  unfold rnd
  split <;> omega
theorem rnd_ge {N d M : Nat} (hd : 0 < d) (h : d * M ≤ N) : M ≤ rnd N d := by
  have h1 : M ≤ N / d := (Nat.le_div_iff_mul_le hd).2 (by rw [Nat.mul_comm]; exact h)
  unfold rnd
  split <;> omega
theorem rnd_mono {N N' d : Nat} (h : N ≤ N') (hd : 0 < d) : rnd N d ≤ rnd N' d := by
  have h1 : N / d ≤ N' / d := Nat.div_le_div_right h
  have e1 := Nat.div_add_mod N d
  have e2 := Nat.div_add_mod N' d
  have l1 := Nat.mod_lt N hd
  have l2 := Nat.mod_lt N' hd
  unfold rnd
  by_cases he : N / d = N' / d
  · rw [he] at e1
    have hm : N % d ≤ N' % d := by omega
    rw [he]
    split <;> split <;> omega
  · split <;> split <;> omega
/-- The bits, in one form. -/
theorem packed_min {q : Nat} {e : Int} (hq : q ≤ 9007199254740992) (he : -1074 ≤ e) (hn : 4503599627370496 ≤ q ∨ e = -1074) : packed q e = min 9218868437227405312 ((e + 1074).toNat * 4503599627370496 + q) := by
  unfold packed
  obtain ⟨E, hE⟩ : ∃ E : Nat, e + 1074 = (E : Int) := ⟨(e + 1074).toNat, by omega⟩
  have e1 : (e + 1074).toNat = E := by omega
  have e2 : (e + 1 + 1074).toNat = E + 1 := by omega
  rw [e1, e2]
  by_cases h1 : q = 9007199254740992
  · rw [if_pos h1]
    subst h1
    by_cases h2 : 971 < e + 1
    · rw [if_pos h2, Nat.min_eq_left (by omega)]
    · rw [if_neg h2, Nat.min_eq_right (by omega)]
      omega
  · rw [if_neg h1]
    by_cases h2 : 971 < e
    · rw [if_pos h2, Nat.min_eq_left (by omega)]
    · rw [if_neg h2]
      by_cases h3 : q < 4503599627370496
      · rw [if_pos h3, Nat.min_eq_right (by omega)]
        omega
      · rw [if_neg h3, Nat.min_eq_right (by omega)]
theorem near_side {num den a b : Nat} (h2 : a = 0 ∨ num * 2 ^ (a - 1) < den * 4503599627370496) (h4 : b = 0 ∨ den * 2 ^ (b - 1) * 9007199254740992 ≤ num * 2 ^ a) : a = 0 ∨ b = 0 := by
  rcases h2 with h | h
  · exact .inl h
  · rcases h4 with k | k
    · exact .inr k
    · by_cases ha : a = 0
      · exact .inl ha
      · exfalso
        have e := double_next num (a - 1)
        rw [show a - 1 + 1 = a by omega] at e
        have hY : den * 1 ≤ den * 2 ^ (b - 1) := Nat.mul_le_mul_left _ (Nat.pow_pos (by omega))
        rw [← e] at k
        generalize num * 2 ^ (a - 1) = X at *
        generalize den * 2 ^ (b - 1) = Y at *
        omega
theorem near_norm {num den a b : Nat} (h3 : a = 1074 ∨ den * 4503599627370496 ≤ num * 2 ^ a) (h4 : b = 0 ∨ den * 2 ^ (b - 1) * 9007199254740992 ≤ num * 2 ^ a) (hs : a = 0 ∨ b = 0) :
    den * 2 ^ b * 4503599627370496 ≤ num * 2 ^ a ∨ (b : Int) - (a : Int) = -1074 := by
  by_cases hb : b = 0
  · rcases h3 with h | h
    · right; omega
    · left; rw [hb, Nat.pow_zero, Nat.mul_one]; exact h
  · left
    rcases h4 with k | k
    · exact absurd k hb
    · have e := double_next den (b - 1)
      rw [show b - 1 + 1 = b by omega] at e
      rw [← e]
      have e2 : ∀ Y : Nat, (Y + Y) * 4503599627370496 = Y * 9007199254740992 := fun Y => by omega
      rw [e2]
      exact k
theorem exp_ge {a b : Nat} (h : a ≤ 1074) : -1074 ≤ (b : Int) - (a : Int) := by omega
/-- A greater number has no lesser fraction. -/
theorem near_mono {num num' den r r' : Nat} (hd : 0 < den) (hle : num ≤ num') (h : Near num den r) (h' : Near num' den r') : r ≤ r' := by
  obtain ⟨a, b, h1, h2, h3, h4, h5, h6⟩ := h
  obtain ⟨a', b', k1, k2, k3, k4, k5, k6⟩ := h'
  have s := near_side h2 h4
  have s' := near_side k2 k4
  have n := near_norm h3 h4 s
  have n' := near_norm k3 k4 s'
  have ha : a' ≤ a := by
    by_cases c : a' ≤ a
    · exact c
    · exfalso
      rcases k2 with e | e
      · exact c (by rw [e]; exact Nat.zero_le _)
      · have m1 := shift_mono num (Nat.le_sub_one_of_lt (Nat.lt_of_not_le c))
        have m2 : num * 2 ^ (a' - 1) ≤ num' * 2 ^ (a' - 1) := Nat.mul_le_mul_right _ hle
        rcases h3 with e3 | e3
        · exact c (by rw [e3]; exact k1)
        · have m3 := Nat.le_trans e3 (Nat.le_trans m1 m2)
          exact Nat.lt_irrefl _ (Nat.lt_of_le_of_lt m3 e)
  have hb : b ≤ b' := by
    by_cases c : b ≤ b'
    · exact c
    · exfalso
      have a0 : a = 0 := by
        rcases s with z | z
        · exact z
        · exact absurd (by rw [z]; exact Nat.zero_le _) c
      rcases h4 with e | e
      · exact c (by rw [e]; exact Nat.zero_le _)
      · rw [a0, Nat.pow_zero, Nat.mul_one] at e
        have m1 : den * 2 ^ b' * 9007199254740992 ≤ den * 2 ^ (b - 1) * 9007199254740992 := Nat.mul_le_mul_right _ (shift_mono den (Nat.le_sub_one_of_lt (Nat.lt_of_not_le c)))
        have m2 : num' * 1 ≤ num' * 2 ^ a' := Nat.mul_le_mul_left _ (Nat.pow_pos (by omega))
        rw [Nat.mul_one] at m2
        exact Nat.lt_irrefl _ (Nat.lt_of_le_of_lt (Nat.le_trans m1 (Nat.le_trans e (Nat.le_trans hle m2))) k5)
  have hdb : 0 < den * 2 ^ b := Nat.mul_pos hd (Nat.pow_pos (by omega))
  have hdb' : 0 < den * 2 ^ b' := Nat.mul_pos hd (Nat.pow_pos (by omega))
  have q := rnd_le h5
  have q' := rnd_le k5
  have g : 4503599627370496 ≤ rnd (num * 2 ^ a) (den * 2 ^ b) ∨ (b : Int) - (a : Int) = -1074 := by
    rcases n with e | e
    · exact .inl (rnd_ge hdb e)
    · exact .inr e
  have g' : 4503599627370496 ≤ rnd (num' * 2 ^ a') (den * 2 ^ b') ∨ (b' : Int) - (a' : Int) = -1074 := by
    rcases n' with e | e
    · exact .inl (rnd_ge hdb' e)
    · exact .inr e
  rw [h6, k6, packed_min q (exp_ge h1) g, packed_min q' (exp_ge k1) g']
  by_cases he : a = a' ∧ b = b'
  · obtain ⟨rfl, rfl⟩ := he
    have m := rnd_mono (Nat.mul_le_mul_right (2 ^ a) hle) hdb
    clear h2 h3 h4 h5 h6 k2 k3 k4 k5 k6 n n' hdb hdb' hd hle
    generalize rnd (num * 2 ^ a) (den * 2 ^ b) = x at *
    generalize rnd (num' * 2 ^ a) (den * 2 ^ b) = y at *
    omega
  · clear h2 h3 h4 h5 h6 k2 k3 k4 k5 k6 n n' hdb hdb' hd hle
    generalize rnd (num * 2 ^ a) (den * 2 ^ b) = x at *
    generalize rnd (num' * 2 ^ a') (den * 2 ^ b') = y at *
    omega
end Go.Proofs.YtobbbhmkcmbekaaDoor.bigs
