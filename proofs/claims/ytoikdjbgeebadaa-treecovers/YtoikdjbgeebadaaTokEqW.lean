/- The walks of what the laws of tokens share: Solid, what is alive, lists of tokens that are the same. -/
import Derived.Test.YtoikdjbgeebadaaTokCutW
import Derived.Laws.StructEq
set_option linter.unusedVariables false
namespace Go.Proofs.Ytoikdjbgeebadaa.toks
open Go.RowKit

set_option maxHeartbeats 400000 in
theorem eqTok (a b c : Int) (w : World) : (Op.equalIn 10000 34 (.agg #[.int .i64 a, .int .i64 b, .int .i64 c]) (.agg #[.int .i64 a, .int .i64 b, .int .i64 c])).run Try.prog w = .ok true w := by
  have u3 := Try.underlying3
  have hS : Try.prog.underlying 34 = some (.struct (Try.prog.fieldsOf 34)) := by kernel_rfl
  have hp : Try.prog.stoodInHeld 34 = false := by kernel_rfl
  rw [show (10000 : Nat) = 9999 + 1 from rfl, run_equalIn_agg w 9999 34 _ _ hS hp]
  simp only [Program.fieldsOf, Try.underlying34]
  go_simp
set_option maxHeartbeats 400000 in
theorem solid_any (w : World) (k : Int) (h0 : -9223372036854775808 ≤ k) (h1 : k ≤ 9223372036854775807) :
    Calls Try.prog 43 #[.int .i64 k] w fun e w' => e = .returned (.bool (decide (4 ≤ k ∧ k ≤ 7))) ∧ w' = w := by
  by_cases a1 : 4 ≤ k
  · by_cases a2 : k ≤ 7
    · rw [decide_eq_true ⟨a1, a2⟩]
      go_enter Try.func43, Try.ntmps43
      go_wp2
      go_ret
      exact ⟨rfl, rfl⟩
    · rw [decide_eq_false (fun h => a2 h.2)]
      have d2 : decide (k ≤ 7) = false := decide_eq_false a2
      go_enter Try.func43, Try.ntmps43
      go_wp2
      go_ret
      exact ⟨rfl, rfl⟩
  · rw [decide_eq_false (fun h => a1 h.1)]
    have d1 : decide (4 ≤ k) = false := decide_eq_false a1
    go_enter Try.func43, Try.ntmps43
    go_wp2
    go_ret
    exact ⟨rfl, rfl⟩
end Go.Proofs.Ytoikdjbgeebadaa.toks
