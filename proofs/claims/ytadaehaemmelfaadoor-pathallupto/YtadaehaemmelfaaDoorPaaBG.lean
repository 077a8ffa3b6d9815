/- Of our texts, what this claim reaches. -/
import Derived.Test.YtadaehaemmelfaaDoorPaaAU
import Derived.Test.YtadaehaemmelfaaDoorPaaAS
set_option linter.unusedVariables false
set_option maxHeartbeats 4000000
set_option maxRecDepth 100000
namespace Go.Proofs.YtadaehaemmelfaaDoor.paths
open Go.RowKit
open utfs (hide unhide)
theorem paths_yes (w : World) (hT : PTabs w) : Calls Tryd.prog 15 #[] w fun e w' => e = .returned (.bool true) ∧ Below w.heap.size w w' := by
 have KT := hide (text_any w none 0 [] (fun h => absurd rfl h) (by decide) hT)
 have e1 : txtT [] = [36] := rfl
 have e2 : chkP [] = 0 := rfl
 rw [e1, e2] at KT
 clear hT e1 e2
 go_enter Tryd.func15, Tryd.ntmps15
 go_wp2_with fail
 refine (unhide KT).mono ?_
 rintro _ w1 ⟨rfl, b1⟩
 have B1 := hide b1
 clear KT b1
 go_wp2
 go_ret
 exact ⟨rfl, B1.out⟩
theorem samePath_any (w : World) (p q : Option Addr) (c d : Nat) (P Q : List St) (h1 : LiesP w p P) (h2 : LiesP w q Q) (l1 : P.length ≤ 9223372036854775807) (l2 : Q.length ≤ 9223372036854775807) :
  Calls Tryd.prog 19 #[.slice p P.length c, .slice q Q.length d] w fun e w' => e = .returned (.bool (decide (P = Q))) ∧ Below w.heap.size w w' := by
 have K := hide (equalP_any w p q c d P Q h1 h2 l1 l2)
 clear h1 h2
 go_enter Tryd.func19, Tryd.ntmps19
 go_wp2_with fail
 refine (unhide K).mono ?_
 rintro _ w1 ⟨rfl, b1⟩
 have B1 := hide b1
 clear K b1
 go_wp2
 go_ret
 exact ⟨rfl, B1.out⟩
end Go.Proofs.YtadaehaemmelfaaDoor.paths
