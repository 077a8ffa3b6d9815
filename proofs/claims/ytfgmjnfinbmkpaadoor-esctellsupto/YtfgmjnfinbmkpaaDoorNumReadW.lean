/- The walks of package num: prefixOf, cutBase, Read. -/
import Derived.Test.YtfgmjnfinbmkpaaDoorNumW
import Derived.Test.YtfgmjnfinbmkpaaDoorShelf
set_option linter.unusedVariables false
namespace Go.Proofs.YtfgmjnfinbmkpaaDoor.bigs
open Go.RowKit

theorem cut2_yes (c : UInt8) (r : List UInt8) : Lib.hasPrefix (48 :: c :: r) [48, c] = true ∧ Lib.trimPrefix (48 :: c :: r) [48, c] = r := by
  have h : Lib.hasPrefix (48 :: c :: r) [48, c] = true := by simp [Lib.hasPrefix]
  exact ⟨h, by unfold Lib.trimPrefix; rw [if_pos h]; rfl⟩
theorem cut2_no {c : UInt8} {l : List UInt8} (hn : ∀ r, l ≠ 48 :: c :: r) : Lib.hasPrefix l [48, c] = false := by
  cases l with
  | nil => rfl
  | cons b r =>
    cases r with
    | nil => simp [Lib.hasPrefix, List.isPrefixOf]
    | cons d r =>
      by_cases e1 : b = 48
      · have : d ≠ c := fun e => hn r (by rw [e1, e])
        simp [Lib.hasPrefix, List.isPrefixOf, Ne.symm this]
      · simp [Lib.hasPrefix, List.isPrefixOf, Ne.symm e1]
theorem cut1 (l : List UInt8) : Lib.hasPrefix l [45] = (signCut l).1 ∧ Lib.trimPrefix l [45] = (signCut l).2 := by
  cases l with
  | nil => exact ⟨rfl, rfl⟩
  | cons b r =>
    by_cases e : b = 45
    · subst e
      have h : Lib.hasPrefix (45 :: r) [45] = true := by simp [Lib.hasPrefix]
      refine ⟨by rw [h]; rfl, ?_⟩
      unfold Lib.trimPrefix
      rw [if_pos h]
      rfl
    · have h : Lib.hasPrefix (b :: r) [45] = false := by simp [Lib.hasPrefix, List.isPrefixOf, Ne.symm e]
      refine ⟨by rw [h, signCut, if_neg e], ?_⟩
      unfold Lib.trimPrefix
      rw [if_neg (by rw [h]; decide), signCut, if_neg e]
theorem baseCut_none {l : List UInt8} (h2 : ∀ r, l ≠ 48 :: 98 :: r) (h8 : ∀ r, l ≠ 48 :: 111 :: r) (h16 : ∀ r, l ≠ 48 :: 120 :: r) : baseCut l = (10, l) := by
  cases l with
  | nil => rfl
  | cons c r =>
    cases r with
    | nil => rfl
    | cons d r =>
      simp only [baseCut]
      by_cases e : c = 48
      · subst e
        rw [if_pos rfl, if_neg (fun e => h2 r (by rw [e])), if_neg (fun e => h8 r (by rw [e])), if_neg (fun e => h16 r (by rw [e]))]
      · rw [if_neg e]
theorem baseCut_good (l : List UInt8) : GoodB (baseCut l).1 ∧ (baseCut l).2.length ≤ l.length := by
  unfold GoodB
  by_cases h2 : ∃ r, l = 48 :: 98 :: r
  · obtain ⟨r, rfl⟩ := h2
    exact ⟨.inl rfl, by simp [baseCut]; omega⟩
  · by_cases h8 : ∃ r, l = 48 :: 111 :: r
    · obtain ⟨r, rfl⟩ := h8
      exact ⟨.inr (.inl rfl), by simp [baseCut]; omega⟩
    · by_cases h16 : ∃ r, l = 48 :: 120 :: r
      · obtain ⟨r, rfl⟩ := h16
        exact ⟨.inr (.inr (.inr rfl)), by simp [baseCut]; omega⟩
      · rw [baseCut_none (fun r e => h2 ⟨r, e⟩) (fun r e => h8 ⟨r, e⟩) (fun r e => h16 ⟨r, e⟩)]
        exact ⟨.inr (.inr (.inl rfl)), Nat.le_refl _⟩
theorem signCut_len (l : List UInt8) : (signCut l).2.length ≤ l.length := by
  cases l with
  | nil => exact Nat.le_refl _
  | cons c r => simp only [signCut]; split <;> simp
theorem back_list (s : ByteArray) : (⟨s.data.toList.toArray⟩ : ByteArray) = s := by simp
theorem i64_neg (X : Nat) (h : X ≤ 9223372036854775808) : IntKind.i64.wrap (IntKind.u64.wrap (-(X : Int))) = -(X : Int) := by
  simp [IntKind.wrap, IntKind.bits, IntKind.signed]
  omega
theorem i64_pos (X : Nat) (h : X ≤ 9223372036854775807) : IntKind.i64.wrap (X : Int) = (X : Int) := by
  simp [IntKind.wrap, IntKind.bits, IntKind.signed]
  omega
theorem nsize (l : List UInt8) : (⟨l.toArray⟩ : ByteArray).size = l.length := by simp [ByteArray.size]
end Go.Proofs.YtfgmjnfinbmkpaaDoor.bigs
