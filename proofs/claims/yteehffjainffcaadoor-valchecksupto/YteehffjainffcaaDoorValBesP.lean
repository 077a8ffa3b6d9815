/- What the walk of the document's Beside needs: plain mathematics, and sign. -/
import Derived.Test.YteehffjainffcaaDoorValSizeW
set_option linter.unusedVariables false
namespace Go.Proofs.YteehffjainffcaaDoor.valus
open Go.RowKit

theorem cmpI_sign {a b : Int} (h : a ≠ b) : ordI (cmpI a b) = if decide (a < b) = true then -1 else 1 := by
  unfold cmpI
  by_cases c : a < b
  · rw [if_pos c, if_pos (by simp [c])]; rfl
  · rw [if_neg c, if_neg h, if_neg (by simp [c])]; rfl
theorem thenC_ne {x y : Ordering} (h : x ≠ .eq) : thenC x y = x := by cases x <;> first | rfl | exact absurd rfl h
theorem cmpI_ne {a b : Int} (h : a ≠ b) : cmpI a b ≠ .eq := fun e => h ((cmpI_ord.same a b trivial trivial).1 e)
theorem cmpI_refl (a : Int) : cmpI a a = .eq := cmpI_ord.refl trivial
theorem thenC_refl (y : Ordering) : thenC .eq y = y := rfl
theorem fkey_ne {a b : Nat} (ha : a < 18446744073709551616) (hb : b < 18446744073709551616) (h : a ≠ b) : fkey a ≠ fkey b := fun e => h ((fkey_ord.same a b ha hb).1 (by rw [e]; exact cmpI_refl _))
theorem top_bit (b : Nat) : ((b : Int) / 9223372036854775808 == 0) = decide (b < 9223372036854775808) := by
  by_cases h : b < 9223372036854775808
  · have e : (b : Int) / 9223372036854775808 = 0 := by omega
    rw [e]
    simp [h]
  · have e : (b : Int) / 9223372036854775808 ≠ 0 := by omega
    simp [h, e]
theorem fkey_A {a b : Nat} (ha : a < 18446744073709551616) (hb : b < 18446744073709551616) (hne : a ≠ b) (h : (!((a : Int) / 9223372036854775808 == 0) == ((b : Int) / 9223372036854775808 == 0)) = true) :
    ordI (cmpI (fkey a) (fkey b)) = if ((b : Int) / 9223372036854775808 == 0) = true then -1 else 1 := by
  rw [cmpI_sign (fkey_ne ha hb hne)]
  rw [top_bit, top_bit] at h
  rw [top_bit]
  by_cases h1 : a < 9223372036854775808
  · by_cases h2 : b < 9223372036854775808
    · simp [h1, h2] at h
    · have : ¬ fkey a < fkey b := by unfold fkey; rw [if_pos h1, if_neg h2]; omega
      simp [this, h2]
  · by_cases h2 : b < 9223372036854775808
    · have : fkey a < fkey b := by unfold fkey; rw [if_neg h1, if_pos h2]; omega
      simp [this, h2]
    · simp [h1, h2] at h
theorem fkey_B {a b : Nat} (ha : a < 18446744073709551616) (hb : b < 18446744073709551616) (hne : a ≠ b) (h : (!((a : Int) / 9223372036854775808 == 0) == ((b : Int) / 9223372036854775808 == 0)) = false) :
    ordI (cmpI (fkey a) (fkey b)) = if (decide (a < b) == ((a : Int) / 9223372036854775808 == 0)) = true then -1 else 1 := by
  rw [cmpI_sign (fkey_ne ha hb hne)]
  rw [top_bit, top_bit] at h
  rw [top_bit]
  by_cases h1 : a < 9223372036854775808
  · by_cases h2 : b < 9223372036854775808
    · have e : (fkey a < fkey b) = (a < b) := by unfold fkey; rw [if_pos h1, if_pos h2]; exact propext ⟨fun h => by omega, fun h => by omega⟩
      by_cases h3 : a < b <;> simp [e, h1, h3]
    · simp [h1, h2] at h
  · by_cases h2 : b < 9223372036854775808
    · simp [h1, h2] at h
    · have e : (fkey a < fkey b) = (b < a) := by unfold fkey; rw [if_neg h1, if_neg h2]; exact propext ⟨fun h => by omega, fun h => by omega⟩
      by_cases h3 : a < b
      · have h4 : ¬ b < a := by omega
        simp [e, h1, h3, h4]
      · have h4 : b < a := by omega
        simp [e, h1, h3, h4]
theorem less_cmp : ∀ (l m : List UInt8), Op.bytesLess l m = decide (cmpB l m = .lt)
  | [], [] => rfl
  | [], _ :: _ => rfl
  | _ :: _, [] => rfl
  | x :: r, y :: t => by
    have ih := less_cmp r t
    have e : cmpB (x :: r) (y :: t) = thenC (cmpI (x.toNat : Int) (y.toNat : Int)) (cmpB r t) := rfl
    rw [e]
    by_cases h1 : x.toNat < y.toNat
    · have c : cmpI (x.toNat : Int) (y.toNat : Int) = .lt := by unfold cmpI; rw [if_pos (by omega)]
      have h2 : x < y := UInt8.lt_iff_toNat_lt.2 h1
      rw [c]
      simp [Op.bytesLess, h2, thenC]
    · by_cases h3 : x = y
      · subst h3
        rw [cmpI_refl]
        have e3 : Op.bytesLess (x :: r) (x :: t) = Op.bytesLess r t := by simp [Op.bytesLess]
        rw [e3, ih]
        rfl
      · have h4 : x.toNat ≠ y.toNat := fun h => h3 (UInt8.toNat_inj.1 h)
        have c : cmpI (x.toNat : Int) (y.toNat : Int) = .gt := by unfold cmpI; rw [if_neg (by omega), if_neg (by omega)]
        have h2 : ¬ x < y := fun h => h1 (UInt8.lt_iff_toNat_lt.1 h)
        rw [c]
        simp [Op.bytesLess, h2, h3, thenC]
theorem less_sign {l m : List UInt8} (h : l ≠ m) : ordI (cmpB l m) = if Op.bytesLess l m = true then -1 else 1 := by
  rw [less_cmp]
  cases e : cmpB l m with
  | lt => rfl
  | eq => exact absurd ((cmpB_ord.same l m trivial trivial).1 e) h
  | gt => rfl
theorem cmpB_refl (l : List UInt8) : cmpB l l = .eq := cmpB_ord.refl trivial
theorem cmpB_ne {l m : List UInt8} (h : l ≠ m) : cmpB l m ≠ .eq := fun e => h ((cmpB_ord.same l m trivial trivial).1 e)
end Go.Proofs.YteehffjainffcaaDoor.valus
