/- The walks of the document's Scalar, CodeOf. -/
import Derived.Test.YteehffjainffcaaDoorUtfNext
import Derived.WalkSmall
set_option linter.unusedVariables false
namespace Go.Proofs.YteehffjainffcaaDoor.utfs
open Go.RowKit

set_option maxHeartbeats 400000 in
theorem scalar_any (n : Int) (w : World) : Calls Tryd.prog 26 #[.int .i64 n] w fun e w' => e = .returned (.bool (sc n)) ∧ w' = w := by
  have key : ∀ b : Bool, sc n = b → Calls Tryd.prog 26 #[.int .i64 n] w (fun e w' => e = .returned (.bool b) ∧ w' = w) → Calls Tryd.prog 26 #[.int .i64 n] w (fun e w' => e = .returned (.bool (sc n)) ∧ w' = w) := fun b e h => by rw [e]; exact h
  by_cases h0 : 0 ≤ n
  · have t0 : decide (0 ≤ n) = true := decide_eq_true h0
    by_cases h1 : n ≤ 1114111
    · have t1 : decide (n ≤ 1114111) = true := decide_eq_true h1
      by_cases h2 : n < 55296
      · have t2 : decide (n < 55296) = true := decide_eq_true h2
        refine key true (decide_eq_true (by omega)) ?_
        clear key
        go_enter Tryd.func26, Tryd.ntmps26
        go_wp2
        go_ret
        exact ⟨rfl, rfl⟩
      · have t2 : decide (n < 55296) = false := decide_eq_false h2
        by_cases h3 : 57343 < n
        · refine key true (decide_eq_true (by omega)) ?_
          have t3 : decide (57343 < n) = true := decide_eq_true h3
          clear key
          go_enter Tryd.func26, Tryd.ntmps26
          go_wp2
          go_ret
          exact ⟨rfl, rfl⟩
        · refine key false (decide_eq_false (by omega)) ?_
          have t3 : decide (57343 < n) = false := decide_eq_false h3
          clear key
          go_enter Tryd.func26, Tryd.ntmps26
          go_wp2
          go_ret
          exact ⟨rfl, rfl⟩
    · have t1 : decide (n ≤ 1114111) = false := decide_eq_false h1
      refine key false (decide_eq_false (by omega)) ?_
      clear key
      go_enter Tryd.func26, Tryd.ntmps26
      go_wp2
      go_ret
      exact ⟨rfl, rfl⟩
  · have t0 : decide (0 ≤ n) = false := decide_eq_false h0
    refine key false (decide_eq_false (by omega)) ?_
    clear key
    go_enter Tryd.func26, Tryd.ntmps26
    go_wp2
    go_ret
    exact ⟨rfl, rfl⟩

theorem ret_str {a b : ByteArray} (h : a = b) : Ending.returned (.string a) = .returned (.string b) := by rw [h]
theorem two_bytes (a b : UInt8) : (⟨#[a]⟩ : ByteArray) ++ ⟨#[b]⟩ = ⟨#[a, b]⟩ := by apply ByteArray.ext; rw [ByteArray.data_append]; rfl
theorem three_bytes (a b c : UInt8) : (⟨#[a]⟩ : ByteArray) ++ ⟨#[b]⟩ ++ ⟨#[c]⟩ = ⟨#[a, b, c]⟩ := by rw [two_bytes]; apply ByteArray.ext; rw [ByteArray.data_append]; rfl
theorem four_bytes (a b c d : UInt8) : (⟨#[a]⟩ : ByteArray) ++ ⟨#[b]⟩ ++ ⟨#[c]⟩ ++ ⟨#[d]⟩ = ⟨#[a, b, c, d]⟩ := by rw [three_bytes]; apply ByteArray.ext; rw [ByteArray.data_append]; rfl

end Go.Proofs.YteehffjainffcaaDoor.utfs
