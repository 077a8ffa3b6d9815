/- The parts of a fraction: the program's and the document's. -/
import Derived.Test.YteehffjainffcaaDoorChecked
import Derived.WalkKit
import Derived.Laws.BitsLemmas
import Derived.BigCall
set_option linter.unusedVariables false
namespace Go.Proofs.YteehffjainffcaaDoor.valus
open Go.RowKit

theorem wraps64 : ∀ n : Int, 0 ≤ n → n < 2 ^ 64 → IntKind.u64.wrap n = n := fun n h1 h2 => by
  simp [IntKind.wrap, IntKind.bits, IntKind.signed]
  omega
/-- What FloatParts tells. -/
def fparts (b : Nat) : Nat × Int × Int :=
  if b / 4503599627370496 % 2048 = 2047 then (if b % 4503599627370496 = 0 then (0, 0, 1) else (0, 0, 2))
  else if b / 4503599627370496 % 2048 = 0 then (b % 4503599627370496, -1074, 0) else (b % 4503599627370496 + 4503599627370496, ((b / 4503599627370496 % 2048 : Nat) : Int) - 1075, 0)
theorem and_2047 (x : Nat) (hx : x < 18446744073709551616) : Go.bits .and .u64 (x : Int) 2047 = ((x % 2048 : Nat) : Int) := by
  have h := bits_mask .u64 64 (by decide) wraps64 11 (by decide) (x : Int) (by omega) (by omega)
  have e : ((2 : Int) ^ 11 - 1) = 2047 := by decide
  rw [e] at h
  rw [h]
  omega
theorem and_frac (x : Nat) (hx : x < 18446744073709551616) : Go.bits .and .u64 (x : Int) 4503599627370495 = ((x % 4503599627370496 : Nat) : Int) := by
  have h := bits_mask .u64 64 (by decide) wraps64 52 (by decide) (x : Int) (by omega) (by omega)
  have e : ((2 : Int) ^ 52 - 1) = 4503599627370495 := by decide
  rw [e] at h
  rw [h]
  omega
theorem or_hidden (x : Nat) (hx : x < 4503599627370496) : Go.bits .or .u64 4503599627370496 (x : Int) = ((x + 4503599627370496 : Nat) : Int) := by
  have h := bits_join .u64 64 (by decide) wraps64 52 4503599627370496 (x : Int) (by omega) (by omega) (by omega) (by omega) (by omega) (by omega)
  rw [h]
  omega
theorem ret_mid (x y : Value) (a b : Int) (h : a = b) : Ending.returned (.tuple #[x, .int .i64 a, y]) = Ending.returned (.tuple #[x, .int .i64 b, y]) := by rw [h]
set_option maxHeartbeats 4000000 in
set_option maxRecDepth 100000 in
theorem partsW_any (w : World) (b : Nat) (hb : b < 18446744073709551616) :
    Calls Tryd.prog 22 #[.int .u64 b] w fun e w' => e = .returned (.tuple #[.int .u64 (fparts b).1, .int .i64 (fparts b).2.1, .int .i64 (fparts b).2.2]) ∧ w' = w := by
  obtain ⟨s, hs⟩ : ∃ s, s = b / 4503599627370496 := ⟨_, rfl⟩
  have n0 : (b : Int) / 4503599627370496 = (s : Int) := by omega
  have hs2 : s < 18446744073709551616 := by omega
  have n1 := and_frac b hb
  have n2 := and_2047 s hs2
  have h1 : b % 4503599627370496 < 4503599627370496 := by omega
  have h2 : s % 2048 < 2048 := by omega
  have n3 := or_hidden _ h1
  unfold fparts
  rw [← hs]
  clear hs hs2
  generalize b % 4503599627370496 = f at *
  generalize s % 2048 = e at *
  by_cases c1 : e = 2047
  · rw [if_pos c1]
    subst c1
    by_cases c2 : f = 0
    · rw [if_pos c2]
      subst c2
      go_enter Tryd.func22, Tryd.ntmps22
      go_wp2
      go_ret3
      exact ⟨rfl, rfl⟩
    · rw [if_neg c2]
      have c3 : ((f : Int) == 0) = false := beq_false_of_ne (by omega)
      go_enter Tryd.func22, Tryd.ntmps22
      go_wp2
      go_ret3
      exact ⟨rfl, rfl⟩
  · rw [if_neg c1]
    have c4 : ((e : Int) == 2047) = false := beq_false_of_ne (by omega)
    by_cases c2 : e = 0
    · rw [if_pos c2]
      subst c2
      go_enter Tryd.func22, Tryd.ntmps22
      go_wp2
      go_ret3
      exact ⟨rfl, rfl⟩
    · rw [if_neg c2]
      have c3 : ((e : Int) == 0) = false := beq_false_of_ne (by omega)
      go_enter Tryd.func22, Tryd.ntmps22
      go_wp2
      go_ret3
      refine ⟨?_, rfl⟩
      exact ret_mid _ _ _ _ (by omega)
set_option maxHeartbeats 2000000 in
set_option maxRecDepth 100000 in
theorem parts_any (w : World) (b : Nat) (hb : b < 18446744073709551616) :
    Calls Tryd.prog 17 #[.int .u64 b] w fun e w' => e = .returned (.tuple #[.int .u64 (fparts b).1, .int .i64 (fparts b).2.1, .int .i64 (fparts b).2.2]) ∧ w' = w := by
  have n1 : (b : Int) % 4503599627370496 = ((b % 4503599627370496 : Nat) : Int) := by omega
  have n2 : (b : Int) / 4503599627370496 % 2048 = ((b / 4503599627370496 % 2048 : Nat) : Int) := by omega
  have h1 : b % 4503599627370496 < 4503599627370496 := by omega
  have h2 : b / 4503599627370496 % 2048 < 2048 := by omega
  unfold fparts
  generalize b % 4503599627370496 = f at *
  generalize b / 4503599627370496 % 2048 = e at *
  by_cases c1 : e = 2047
  · rw [if_pos c1]
    subst c1
    by_cases c2 : f = 0
    · rw [if_pos c2]
      subst c2
      go_enter Tryd.func17, Tryd.ntmps17
      go_wp2
      go_ret3
      exact ⟨rfl, rfl⟩
    · rw [if_neg c2]
      have c3 : ((f : Int) == 0) = false := beq_false_of_ne (by omega)
      go_enter Tryd.func17, Tryd.ntmps17
      go_wp2
      go_ret3
      exact ⟨rfl, rfl⟩
  · rw [if_neg c1]
    have c4 : ((e : Int) == 2047) = false := beq_false_of_ne (by omega)
    by_cases c2 : e = 0
    · rw [if_pos c2]
      subst c2
      go_enter Tryd.func17, Tryd.ntmps17
      go_wp2
      go_ret3
      refine ⟨?_, rfl⟩
      rw [← n1]
      rfl
    · rw [if_neg c2]
      have c3 : ((e : Int) == 0) = false := beq_false_of_ne (by omega)
      go_enter Tryd.func17, Tryd.ntmps17
      go_wp2
      go_ret3
      refine ⟨?_, rfl⟩
      first | rfl | (congr 3 <;> omega)
end Go.Proofs.YteehffjainffcaaDoor.valus
