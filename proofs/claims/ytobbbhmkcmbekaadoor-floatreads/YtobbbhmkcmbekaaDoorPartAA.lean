/- Numbers as digits to base 10000, with no program in it. -/

set_option linter.unusedVariables false
namespace Go.Proofs.YtobbbhmkcmbekaaDoor.bigs

/-- What a list of digits tells, the least first. -/
def val : List Nat → Nat
  | [] => 0
  | d :: r => d + 10000 * val r
/-- The digits of a number, the least first, none of them 0 at the end. -/
def digG : Nat → Nat → List Nat
  | 0, _ => []
  | f + 1, n => if n = 0 then [] else n % 10000 :: digG f (n / 10000)
theorem digG_zero (f : Nat) : digG f 0 = [] := by cases f <;> rfl
theorem digG_same (n : Nat) : ∀ (f g : Nat), n ≤ f → n ≤ g → digG f n = digG g n := by
  induction n using Nat.strongRecOn with
  | ind n ih =>
    intro f g hf hg
    by_cases h : n = 0
    · rw [h, digG_zero, digG_zero]
    · obtain ⟨f', rfl⟩ : ∃ f', f = f' + 1 := ⟨f - 1, by omega⟩
      obtain ⟨g', rfl⟩ : ∃ g', g = g' + 1 := ⟨g - 1, by omega⟩
      rw [digG, digG, if_neg h, if_neg h, ih (n / 10000) (by omega) f' g' (by omega) (by omega)]
def dig (n : Nat) : List Nat := digG n n

theorem dig_zero : dig 0 = [] := rfl
theorem dig_pos {n : Nat} (h : n ≠ 0) : dig n = n % 10000 :: dig (n / 10000) := by
  obtain ⟨m, rfl⟩ : ∃ m, n = m + 1 := ⟨n - 1, by omega⟩
  unfold dig
  rw [digG, if_neg h, digG_same ((m + 1) / 10000) m ((m + 1) / 10000) (by omega) (Nat.le_refl _)]
theorem val_dig (n : Nat) : val (dig n) = n := by
  induction n using Nat.strongRecOn with
  | ind n ih =>
    by_cases h : n = 0
    · subst h; rw [dig_zero]; rfl
    · rw [dig_pos h, val, ih _ (by omega)]; omega
/-- All are digits. -/
def Small10 (l : List Nat) : Prop := ∀ j, j < l.length → l.getD j 0 < 10000
theorem small_cons {d : Nat} {r : List Nat} : Small10 (d :: r) ↔ d < 10000 ∧ Small10 r := by
  constructor
  · intro h
    exact ⟨h 0 (by simp), fun j hj => h (j + 1) (by simpa using hj)⟩
  · rintro ⟨h1, h2⟩ j hj
    cases j with
    | zero => exact h1
    | succ j => exact h2 j (by simpa using hj)
theorem small_nil : Small10 [] := fun j h => absurd h (by simp)
theorem small_dig (n : Nat) : Small10 (dig n) := by
  induction n using Nat.strongRecOn with
  | ind n ih =>
    by_cases h : n = 0
    · subst h; rw [dig_zero]; exact small_nil
    · rw [dig_pos h]; exact small_cons.2 ⟨by omega, ih _ (by omega)⟩
theorem small_getD {l : List Nat} (h : Small10 l) (j : Nat) : l.getD j 0 < 10000 := by
  by_cases hj : j < l.length
  · exact h j hj
  · rw [List.getD, List.getElem?_eq_none (by omega)]; simp
theorem small_append {a b : List Nat} : Small10 (a ++ b) ↔ Small10 a ∧ Small10 b := by
  induction a with
  | nil => simp [small_nil]
  | cons x a ih => rw [List.cons_append, small_cons, small_cons, ih, and_assoc]
theorem val_append (a b : List Nat) : val (a ++ b) = val a + 10000 ^ a.length * val b := by
  induction a with
  | nil => simp [val]
  | cons x a ih =>
    rw [List.cons_append, val, val, ih, List.length_cons, Nat.pow_succ]
    have : 10000 ^ a.length * 10000 * val b = 10000 * (10000 ^ a.length * val b) := by rw [Nat.mul_comm (10000 ^ a.length), Nat.mul_assoc]
    rw [this]
    omega
theorem val_lt {l : List Nat} (h : Small10 l) : val l < 10000 ^ l.length := by
  induction l with
  | nil => simp [val]
  | cons d r ih =>
    have h' := small_cons.1 h
    have := ih h'.2
    rw [val, List.length_cons, Nat.pow_succ]
    omega
/-- A list of digits whose last is not 0 is the digits of what it tells. -/
theorem dig_uniq : ∀ {l : List Nat}, Small10 l → (l = [] ∨ l.getD (l.length - 1) 0 ≠ 0) → dig (val l) = l
  | [], _, _ => dig_zero
  | d :: r, h, hl => by
    obtain ⟨h1, h2⟩ := small_cons.1 h
    have hr : r = [] ∨ r.getD (r.length - 1) 0 ≠ 0 := by
      by_cases e : r = []
      · exact .inl e
      · right
        rcases hl with hl | hl
        · cases hl
        · have hp : 0 < r.length := List.length_pos_iff.2 e
          have e1 : (d :: r).length - 1 = (r.length - 1) + 1 := by rw [List.length_cons]; omega
          rw [e1, List.getD_cons_succ] at hl
          exact hl
    have ih := dig_uniq h2 hr
    have hne : val (d :: r) ≠ 0 := by
      intro e
      rw [val] at e
      have e0 : val r = 0 := by omega
      rw [e0, dig_zero] at ih
      subst ih
      rcases hl with hl | hl
      · cases hl
      · simp at hl
        omega
    rw [dig_pos hne]
    have e1 : val (d :: r) % 10000 = d := by rw [val]; omega
    have e2 : val (d :: r) / 10000 = val r := by rw [val]; omega
    rw [e1, e2, ih]
theorem dig_last (n : Nat) : dig n = [] ∨ (dig n).getD ((dig n).length - 1) 0 ≠ 0 := by
  induction n using Nat.strongRecOn with
  | ind n ih =>
    by_cases h : n = 0
    · subst h; exact .inl dig_zero
    · right
      rw [dig_pos h]
      rcases ih (n / 10000) (by omega) with e | e
      · have : n / 10000 = 0 := by rw [← val_dig (n / 10000), e]; rfl
        rw [e]
        simp
        omega
      · have hp : 0 < (dig (n / 10000)).length := by
          cases hd : dig (n / 10000) with
          | nil => rw [hd] at e; simp at e
          | cons x r => simp
        have e1 : (n % 10000 :: dig (n / 10000)).length - 1 = ((dig (n / 10000)).length - 1) + 1 := by rw [List.length_cons]; omega
        rw [e1, List.getD_cons_succ]
        exact e
theorem dig_nil {n : Nat} : dig n = [] ↔ n = 0 := by
  constructor
  · intro h; rw [← val_dig n, h]; rfl
  · rintro rfl; exact dig_zero
theorem take_succ (l : List Nat) (k : Nat) (h : k < l.length) : l.take (k + 1) = l.take k ++ [l.getD k 0] := by
  rw [List.take_succ_eq_append_getElem h]
  simp [List.getD, List.getElem?_eq_getElem h]
theorem val_one (d : Nat) : val [d] = d := by simp [val]
theorem val_take_succ (l : List Nat) (k : Nat) (h : k < l.length) : val (l.take (k + 1)) = val (l.take k) + 10000 ^ k * l.getD k 0 := by
  rw [take_succ l k h, val_append, val_one, List.length_take, Nat.min_eq_left (by omega)]
/-- A number with the digits of another behind it is not less. -/
theorem val_take_le (l : List Nat) (k : Nat) : val (l.take k) ≤ val l := by
  have := val_append (l.take k) (l.drop k)
  rw [List.take_append_drop] at this
  omega
theorem dig_length_le {n k : Nat} (h : n < 10000 ^ k) : (dig n).length ≤ k := by
  induction k generalizing n with
  | zero =>
    have : n = 0 := by simpa using h
    subst this
    rw [dig_zero]; simp
  | succ k ih =>
    by_cases h0 : n = 0
    · subst h0; rw [dig_zero]; simp
    · rw [dig_pos h0, List.length_cons]
      have : n / 10000 < 10000 ^ k := by
        rw [Nat.pow_succ] at h
        exact Nat.div_lt_of_lt_mul (by omega)
      have := ih this
      omega
theorem dig_length_ge {n k : Nat} (h : 10000 ^ k ≤ n) : k < (dig n).length := by
  have h1 := val_lt (small_dig n)
  rw [val_dig] at h1
  by_cases e : k < (dig n).length
  · exact e
  · have : 10000 ^ (dig n).length ≤ 10000 ^ k := Nat.pow_le_pow_right (by omega) (by omega)
    omega
theorem lt_pow_dig (n : Nat) : n < 10000 ^ (dig n).length := by have := val_lt (small_dig n); rwa [val_dig] at this
end Go.Proofs.YtobbbhmkcmbekaaDoor.bigs
