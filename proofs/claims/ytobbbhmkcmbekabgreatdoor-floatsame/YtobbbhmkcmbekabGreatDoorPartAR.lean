/- The document's ShortOf: plain mathematics, and the walk of its closure. -/
import Derived.Test.YtobbbhmkcmbekabGreatDoorPartAQ
import Derived.Test.YtobbbhmkcmbekabGreatDoorPartAE
import Derived.Deep.QuietTactic
import Derived.BigQuiet
import Derived.Deep.CutRange
import Derived.Deep.RegionWith
set_option linter.unusedVariables false
namespace Go.Proofs.YtobbbhmkcmbekabGreatDoor.bigs
open Go.RowKit

theorem units (q E : Nat) : q * 2 ^ E * wF = q * 5 ^ sc * 2 ^ (E + 4) := by
  have e : c80 = sc := rfl
  rw [wF_eq2, e, Nat.pow_add]
  have e2 : (2 : Nat) ^ 4 = 16 := rfl
  rw [e2]
  generalize 5 ^ sc = z
  generalize 2 ^ E = y
  simp only [Nat.mul_assoc, Nat.mul_comm, Nat.mul_left_comm]
theorem fX_told (r : Nat) : fX r = mant r * 5 ^ sc * 2 ^ (r / 4503599627370496 - 1 + 6) := by
  unfold fX fval step
  rw [units, Nat.pow_add, Nat.pow_add]
  generalize 5 ^ sc = z
  generalize 2 ^ (r / 4503599627370496 - 1) = y
  generalize mant r = m
  have e2 : (2 : Nat) ^ 4 = 16 := rfl
  have e3 : (2 : Nat) ^ 6 = 16 * 4 := rfl
  rw [e2, e3]
  simp only [Nat.mul_assoc, Nat.mul_comm, Nat.mul_left_comm]
theorem fH_told (r : Nat) : fH r = (2 * mant r + 1) * 5 ^ sc * 2 ^ (r / 4503599627370496 - 1 + 5) := by
  unfold fH mid step
  rw [units, Nat.pow_add, Nat.pow_add]
  generalize 5 ^ sc = z
  generalize 2 ^ (r / 4503599627370496 - 1) = y
  generalize mant r = m
  have e2 : (2 : Nat) ^ 4 = 16 := rfl
  have e3 : (2 : Nat) ^ 5 = 16 * 2 := rfl
  have e4 : 4 * m + 2 = (2 * m + 1) * 2 := by omega
  rw [e2, e3, e4]
  simp only [Nat.mul_assoc, Nat.mul_comm, Nat.mul_left_comm]
theorem fL_told (r : Nat) (h : 0 < r) : (mant r = 4503599627370496 ∧ 0 < r / 4503599627370496 - 1 → fL r = (4 * mant r - 1) * 5 ^ sc * 2 ^ (r / 4503599627370496 - 1 + 4)) ∧ (¬ (mant r = 4503599627370496 ∧ 0 < r / 4503599627370496 - 1) → fL r = (2 * mant r - 1) * 5 ^ sc * 2 ^ (r / 4503599627370496 - 1 + 5)) := by
  obtain ⟨bel, hb, e⟩ := fL_eq r h
  unfold step at e
  rw [units] at e
  constructor
  · intro c
    rcases hb with ⟨_, _, hb⟩ | ⟨hb, _⟩
    · rw [e, hb]
    · exact absurd c hb
  · intro c
    rcases hb with ⟨h1, h2, _⟩ | ⟨_, hb⟩
    · exact absurd ⟨h1, h2⟩ c
    · rw [e, hb, Nat.pow_add, Nat.pow_add]
      generalize 5 ^ sc = z
      generalize 2 ^ (r / 4503599627370496 - 1) = y
      generalize mant r = m
      have e2 : (2 : Nat) ^ 4 = 16 := rfl
      have e3 : (2 : Nat) ^ 5 = 16 * 2 := rfl
      have e4 : 4 * m - 2 = (2 * m - 1) * 2 := by omega
      rw [e2, e3, e4]
      simp only [Nat.mul_assoc, Nat.mul_comm, Nat.mul_left_comm]
theorem dec_zeros (l : List UInt8) (j : Nat) : dec (l ++ (zeros j).data.toList) = dec l * 10 ^ j := by
  have e : (zeros j).data.toList = List.replicate j 48 := by unfold zeros; simp
  rw [e, dec_append, List.length_replicate]
  have : ∀ j, dec (List.replicate j 48) = 0 := by
    intro j
    induction j with
    | zero => rfl
    | succ j ih =>
      rw [List.replicate_succ, dec_cons, ih]
      simp
  rw [this]
  rfl
theorem front_dec {X n : Nat} (hn : n ≤ (decs X).length) : dec ((decs X).take n) = X / 10 ^ ((decs X).length - n) := by
  have h := dec_part (l := decs X) hn (Nat.le_refl _)
  have h2 := dec_part_lt (decs_form X).2.1 hn (Nat.le_refl _)
  rw [List.take_length, dec_decs] at h
  rw [List.take_length] at h2
  generalize dec ((decs X).drop n) = t at *
  generalize dec ((decs X).take n) = D at *
  generalize 10 ^ ((decs X).length - n) = P at *
  rw [h, Nat.mul_comm, Nat.mul_add_div (by omega), Nat.div_eq_of_lt h2]
  rfl
theorem level_lt {X i : Nat} (h : 10 ^ i ≤ X) : i < (decs X).length := by
  have h1 := dec_lt (decs_form X).2.1
  rw [dec_decs] at h1
  exact (Nat.pow_lt_pow_iff_right (by decide)).1 (Nat.lt_of_le_of_lt h h1)
theorem up_plain {X j : Nat} : upOf X j = if lowOf X j = X then lowOf X j else (X / 10 ^ j + 1) * 10 ^ j := by
  unfold upOf
  split
  · rfl
  · unfold lowOf
    rw [Nat.add_mul, Nat.one_mul]
theorem up_le (X j : Nat) : X ≤ upOf X j := by
  unfold upOf
  have := lt_lowOf X j
  split
  · omega
  · omega
/-- Which of the two is picked. -/
theorem pick_of {r j : Nat} {x y b : Bool} (hx : x = true ↔ Okay r (lowOf (fX r) j)) (hy : y = true ↔ Okay r (upOf (fX r) j)) (hxy : ¬ (x = false ∧ y = false)) (hb : b = true ↔ (x = false ∨ (y = true ∧ Upper (fX r) j))) : Pick r j (if b then upOf (fX r) j else lowOf (fX r) j) := by
  unfold Pick
  cases x with
  | false =>
    cases y with
    | false => exact absurd ⟨rfl, rfl⟩ hxy
    | true =>
      left
      have : b = true := hb.2 (.inl rfl)
      rw [if_pos this]
      exact ⟨(fun h => by have := hx.2 h; cases this), hy.1 rfl, rfl⟩
  | true =>
    cases y with
    | false =>
      right; left
      have : ¬ b = true := fun h => by rcases hb.1 h with h | ⟨h, _⟩ <;> cases h
      rw [if_neg this]
      exact ⟨hx.1 rfl, (fun h => by have := hy.2 h; cases this), rfl⟩
    | true =>
      right; right
      refine ⟨hx.1 rfl, hy.1 rfl, ?_⟩
      by_cases u : Upper (fX r) j
      · left
        rw [if_pos (hb.2 (.inr ⟨rfl, u⟩))]
        exact ⟨u, rfl⟩
      · right
        have : ¬ b = true := fun h => by
          rcases hb.1 h with h | ⟨_, h⟩
          · cases h
          · exact u h
        rw [if_neg this]
        exact ⟨u, rfl⟩
theorem okay_flag {r : Nat} {n : Nat} : Okay r n ↔ ((fL r < n ∧ n < fH r) ∨ (mant r % 2 = 0 ∧ fL r ≤ n ∧ n ≤ fH r)) := by
  unfold Okay
  rw [mant_par]
end Go.Proofs.YtobbbhmkcmbekabGreatDoor.bigs
/- The document's ShortOf: the walk of its closure. -/
set_option linter.unusedVariables false
namespace Go.Proofs.YtobbbhmkcmbekabGreatDoor.bigs
open Go.RowKit
end Go.Proofs.YtobbbhmkcmbekabGreatDoor.bigs
