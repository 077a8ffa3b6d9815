/- The law FloatBack: the short digits of a fraction tell it. -/
import Derived.Test.YtobbbhmkcmbekabGreatDoorPartAP
import Derived.Test.YtobbbhmkcmbekabGreatDoorPartAM
import Derived.Test.YtobbbhmkcmbekabGreatDoorPartAK
import Derived.Laws.BitsAllLaws
set_option linter.unusedVariables false
namespace Go.Proofs.YtobbbhmkcmbekabGreatDoor.bigs
open Go.RowKit

theorem andNot_top (x : Nat) (hx : x < 18446744073709551616) : Go.bits .andNot .u64 (x : Int) 9223372036854775808 = ((x % 9223372036854775808 : Nat) : Int) := by
  have h := u64_andNot_nat x 9223372036854775808 hx (by decide)
  have e : (18446744073709551615 - 9223372036854775808 : Nat) = 2 ^ 63 - 1 := by decide
  rw [e, Nat.and_two_pow_sub_one_eq_mod] at h
  exact h
theorem decDigits_decs (n : Nat) : Lib.decDigits n = decs n := by
  induction n using Nat.strongRecOn with
  | ind n ih =>
    by_cases h : n < 10
    · rw [Lib.decDigits, dif_pos h]
      unfold decs
      by_cases z : n = 0
      · rw [if_pos z, z]; rfl
      · rw [if_neg z, toDec_pos z, show n / 10 = 0 by omega, toDec_zero, Nat.mod_eq_of_lt h]; rfl
    · rw [Lib.decDigits, dif_neg h, ih _ (by omega)]
      unfold decs
      rw [if_neg (by omega), if_neg (by omega), toDec_pos (n := n) (by omega)]
/-- What is the pick of its level is near. -/
theorem ten_cross (d : Nat) (x : Int) (h1 : -1080 ≤ x) : d * 10 ^ x.toNat * T10 = d * 10 ^ (x + 1080).toNat * 10 ^ (-x).toNat := by
  rcases Int.le_total 0 x with h | h
  · have e1 : (x + 1080).toNat = x.toNat + c80 := by unfold c80; omega
    have e2 : (-x).toNat = 0 := by omega
    rw [e1, e2, Nat.pow_add, Nat.pow_zero, Nat.mul_one, Nat.mul_assoc]
    rfl
  · have e1 : x.toNat = 0 := by omega
    have e2 : 1080 = (x + 1080).toNat + (-x).toNat := by omega
    rw [e1, Nat.pow_zero, Nat.mul_one]
    exact T10_split d e2
theorem okay_nearD {r d : Nat} {x : Int} (h0 : 0 < r) (hi : r < 9218868437227405312) (h1 : -1080 ≤ x) (hd : d ≠ 0) : NearD d x r ↔ Okay r (d * 10 ^ (x + 1080).toNat) := by
  have h := near_okay (pow10_pos (-x).toNat) h0 hi (ten_cross d x h1)
  unfold NearD
  constructor
  · rintro (⟨e, _⟩ | ⟨_, k⟩)
    · exact absurd e hd
    · exact h.1 k
  · intro k
    exact .inr ⟨hd, h.2 k⟩
theorem decs_front {d : Nat} (hd : d ≠ 0) : (decs d).getD 0 0 ≠ 48 := by
  obtain ⟨h1, h2, h3⟩ := decs_form d
  rcases h3 with h | h
  · exact h
  · intro e
    have : decs d = [48] := by
      cases hl : decs d with
      | nil => exact absurd hl h1
      | cons a r =>
        rw [hl] at h e
        cases r with
        | nil => simp at e; rw [e]
        | cons x y => simp at h
    have v := dec_decs d
    rw [this] at v
    exact hd (by rw [← v]; rfl)
theorem decs_rear {d : Nat} (hd : d % 10 ≠ 0) : ∃ l c, decs d = l ++ [c] ∧ c ≠ 48 := by
  unfold decs
  rw [if_neg (by omega), toDec_pos (by omega)]
  refine ⟨_, _, rfl, ?_⟩
  have : ∀ k : Fin 10, k.1 ≠ 0 → UInt8.ofNat (48 + k.1) ≠ 48 := by decide
  exact this ⟨d % 10, by omega⟩ hd
theorem bytes_len (l : List UInt8) : (⟨l.toArray⟩ : ByteArray).size = l.length := by simp [ByteArray.size]
theorem back_none_plain {b r : Nat} (hr : r = b % 9223372036854775808) (hb : b < 18446744073709551616) (h0 : r = 0 ∨ 9218868437227405312 ≤ r) : (fparts b).2.2 = 1 ∨ (fparts b).2.2 = 2 ∨ ((fparts b).2.2 = 0 ∧ (fparts b).1 = 0) := by
  unfold fparts
  by_cases c : b / 4503599627370496 % 2048 = 2047
  · rw [if_pos c]
    by_cases c2 : b % 4503599627370496 = 0
    · rw [if_pos c2]; exact .inl rfl
    · rw [if_neg c2]; exact .inr (.inl rfl)
  · rw [if_neg c, if_pos (by omega)]
    exact .inr (.inr ⟨rfl, by simp only; omega⟩)
end Go.Proofs.YtobbbhmkcmbekabGreatDoor.bigs
/- The law FloatShort: no number of fewer digits tells a fraction. -/
set_option linter.unusedVariables false
namespace Go.Proofs.YtobbbhmkcmbekabGreatDoor.bigs
open Go.RowKit

theorem decs_ge {d : Nat} (hd : d ≠ 0) : 10 ^ ((decs d).length - 1) ≤ d := by
  rcases Nat.lt_or_ge d (10 ^ ((decs d).length - 1)) with h | h
  · exfalso
    have hl := List.length_pos_iff.2 (decs_form d).1
    by_cases c : (decs d).length - 1 = 0
    · rw [c, Nat.pow_zero] at h; omega
    · have := decs_length_le h (by omega)
      omega
  · exact h
theorem decs_less {n d : Nat} (h : (decs n).length < (decs d).length) : n < 10 ^ ((decs d).length - 1) := by
  have h1 := dec_lt (decs_form n).2.1
  rw [dec_decs] at h1
  exact Nat.lt_of_lt_of_le h1 (Nat.pow_le_pow_right (by decide) (by omega))
theorem short_least {r j d n : Nat} {ten k : Int} (h0 : 0 < r) (hi : r < 9218868437227405312) (hB : Best r j (d * 10 ^ (ten + 1080).toNat)) (hd : d % 10 ≠ 0) (h : (decs n).length < (decs d).length) (hk : -1000 ≤ k) (hn : NearD n k r) : False := by
  by_cases z : n = 0
  · rcases hn with ⟨_, e⟩ | ⟨e, _⟩
    · omega
    · exact e z
  · exact best_least h0 hB rfl hd (decs_less h) (decs_ge (by omega)) ((okay_nearD h0 hi (by omega) z).1 hn)
theorem two_words (n : Nat) (hn : n < 18446744073709551616) : Words32 [n % 4294967296, n / 4294967296] ∧ wval [n % 4294967296, n / 4294967296] = n := by
  refine ⟨words_cons.2 ⟨by omega, words_one (by omega)⟩, ?_⟩
  simp only [wval]
  omega
theorem lit_parts (w : World) (n : Nat) : WSl (w.alloc (.cells #[.int .u32 ((n : Int) % 4294967296), .int .u32 ((n : Int) / 4294967296)] 79)) (.slice (some ⟨w.heap.size, 0, none⟩) 2 2) [n % 4294967296, n / 4294967296] := by
  have e1 : (n : Int) % 4294967296 = ((n % 4294967296 : Nat) : Int) := by omega
  have e2 : (n : Int) / 4294967296 = ((n / 4294967296 : Nat) : Int) := by omega
  rw [e1, e2]
  exact ⟨_, _, rfl, by simp, lit_two w _ _⟩
end Go.Proofs.YtobbbhmkcmbekabGreatDoor.bigs
