/- The walks of package big: Sub. -/
import Derived.Test.YtobbbhmkcmbekaaDoorWordAdd
set_option linter.unusedVariables false
namespace Go.Proofs.YtobbbhmkcmbekaaDoor.bigs
open Go.RowKit

theorem sgn_ge {m n : Nat} (h : n ≤ m) : 0 ≤ sgn m n := by unfold sgn; rw [if_neg (by omega)]; split <;> omega
theorem take_fits {M D B : List Nat} {q : Nat} (sM : Words32 M) (hl : M.length = D.length) (hle : wval B ≤ wval D) (h : wval M + 1 * wval B = wval D + 4294967296 ^ D.length * q) : wval M = wval D - wval B := by
  have l1 := wval_lt sM
  rw [hl] at l1
  by_cases h0 : q = 0
  · subst h0; omega
  · have : 4294967296 ^ D.length * 1 ≤ 4294967296 ^ D.length * q := Nat.mul_le_mul_left _ (by omega)
    omega

end Go.Proofs.YtobbbhmkcmbekaaDoor.bigs
