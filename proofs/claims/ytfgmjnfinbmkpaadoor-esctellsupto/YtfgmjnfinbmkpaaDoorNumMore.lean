/- Numerals of 64 bits: the laws of signs and strokes, plain. -/
import Derived.Test.YtfgmjnfinbmkpaaDoorNumReadW
set_option linter.unusedVariables false
namespace Go.Proofs.YtfgmjnfinbmkpaaDoor.bigs
open Go.RowKit

theorem res_kinds (l : List UInt8) : (numRes l).2 = 0 ∨ ((numRes l).1 = 0 ∧ ((numRes l).2 = 2 ∨ (numRes l).2 = 4 ∨ (numRes l).2 = 7)) := by
  unfold numRes
  split
  · exact .inr ⟨rfl, .inl rfl⟩
  · unfold bodyRes
    split
    · exact .inr ⟨rfl, .inr (.inl rfl)⟩
    · split
      · exact .inr ⟨rfl, .inr (.inr rfl)⟩
      · exact .inl rfl
theorem res_good {l : List UInt8} (h : (numRes l).2 = 0) : l.length ≤ 80 ∧ formedL (baseCut (signCut l).2).1 (baseCut (signCut l).2).2 = true ∧ valG (baseCut (signCut l).2).1 0 (baseCut (signCut l).2).2 ≤ limitOf (signCut l).1 ∧ (numRes l).1 = if (signCut l).1 then -((valG (baseCut (signCut l).2).1 0 (baseCut (signCut l).2).2 : Nat) : Int) else ((valG (baseCut (signCut l).2).1 0 (baseCut (signCut l).2).2 : Nat) : Int) := by
  unfold numRes at *
  by_cases c : 80 < l.length
  · rw [if_pos c] at h; exact absurd h (by decide)
  · rw [if_neg c] at h ⊢
    unfold bodyRes at *
    generalize (signCut l).1 = below at *
    generalize baseCut (signCut l).2 = bd at *
    by_cases c1 : formedL bd.1 bd.2 = false
    · rw [if_pos c1] at h; exact absurd h (by decide)
    · rw [if_neg c1] at h ⊢
      by_cases c2 : limitOf below < valG bd.1 0 bd.2
      · rw [if_pos c2] at h; exact absurd h (by decide)
      · rw [if_neg c2] at h ⊢
        exact ⟨by omega, by simpa using c1, by omega, rfl⟩
theorem formed_form {b : Nat} {l : List UInt8} (h : formedL b l = true) : formG b false l = true ∧ l ≠ [] := by
  unfold formedL at h
  rw [Bool.and_eq_true] at h
  refine ⟨h.2, ?_⟩
  rintro rfl
  exact absurd h.2 (by simp [formG])
theorem res_some {l : List UInt8} (h : (numRes l).2 = 0) : l ≠ [] := by
  rintro rfl
  exact absurd h (by decide)
theorem res_range (l : List UInt8) : -9223372036854775808 ≤ (numRes l).1 ∧ (numRes l).1 ≤ 9223372036854775807 := by
  rcases res_kinds l with h | ⟨h, _⟩
  · obtain ⟨_, _, h3, h4⟩ := res_good h
    rw [h4]
    generalize valG (baseCut (signCut l).2).1 0 (baseCut (signCut l).2).2 = V at *
    cases hb : (signCut l).1 with
    | true => rw [hb] at h3; simp only [limitOf, if_true] at h3 ⊢; omega
    | false => rw [hb] at h3; simp only [limitOf, Bool.false_eq_true, if_false] at h3 ⊢; omega
  · rw [h]; omega
theorem sign_law {l : List UInt8} (h : (numRes l).2 = 0) (hc : l.headD 0 ≠ 45) (hl : l.length < 80) : numRes (45 :: l) = (-(numRes l).1, 0) ∧ 0 ≤ (numRes l).1 := by
  obtain ⟨_, h2, h3, h4⟩ := res_good h
  have hs : signCut l = (false, l) := by
    cases l with
    | nil => rfl
    | cons c r =>
      have hc2 : c ≠ 45 := hc
      rw [signCut, if_neg hc2]
  rw [hs] at h2 h3 h4
  simp only [limitOf, Bool.false_eq_true, if_false] at h2 h3 h4
  have e : numRes (45 :: l) = bodyRes true (baseCut l).1 (baseCut l).2 := by
    unfold numRes
    rw [if_neg (by simp; omega), signCut, if_pos rfl]
  rw [e, h4]
  unfold bodyRes
  rw [h2, if_neg (by decide), if_neg (by simp only [limitOf, if_true]; omega)]
  exact ⟨rfl, by omega⟩
theorem list_add (a b : ByteArray) : (a ++ b).data.toList = a.data.toList ++ b.data.toList := by
  rw [ByteArray.data_append, Array.toList_append]
end Go.Proofs.YtfgmjnfinbmkpaaDoor.bigs
