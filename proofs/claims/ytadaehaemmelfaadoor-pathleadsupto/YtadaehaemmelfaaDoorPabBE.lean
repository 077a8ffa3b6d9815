/- Of our texts, what this claim reaches. -/
import Derived.Test.YtadaehaemmelfaaDoorPabBD
import Derived.Test.YtadaehaemmelfaaDoorPabAZ
import Derived.Test.YtadaehaemmelfaaDoorPabAE
set_option linter.unusedVariables false
namespace Go.Proofs.YtadaehaemmelfaaDoor.paths
open Go.RowKit
open valus (V LiesV nodesV sizeW_eq)
theorem lawPathLeadsV (f : Nat) (W : World) (t : V) (a0 a1 a2 a3 a4 a5 : Value) (hl : LiesV (fun q => q < W.heap.size) f W [a0, a1, a2, a3, a4, a5] t) (hn : nodesV f t ≤ 1048576) (p : Option Addr) (c : Nat) (P : List St) (hP : LiesP W p P) (hPc : P.length ≤ c) (hcm : c ≤ maxLen) (hT : Utf8W W) :
  Calls Tryd.prog 3 #[.agg #[a0, a1, a2, a3, a4, a5], .slice p P.length c] W fun e W' => e = .returned (.bool true) ∧ Below W.heap.size W W' := by
 obtain ⟨k, n, b, s, pL, nL, cL, pE, nE, cE, rfl, rfl, rfl, rfl, rfl, rfl⟩ := hl.form
 exact lawPathLeads led_any (fun f t h => by rw [sizeW_eq f t h]) f W t _ _ _ _ _ _ _ _ _ _ hl hn p c P hP hPc hcm hT
end Go.Proofs.YtadaehaemmelfaaDoor.paths
