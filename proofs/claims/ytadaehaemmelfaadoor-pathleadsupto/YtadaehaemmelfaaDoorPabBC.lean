/- Of our texts, what this claim reaches. -/
import Derived.Test.YtadaehaemmelfaaDoorPabAN
import Derived.Lib.ItoaNum
import Derived.Test.YtadaehaemmelfaaDoorPabAE
import Derived.Test.YtadaehaemmelfaaDoorPabAJ
import Derived.Lib.AppendIntMem
import Derived.Lib.Walk
import Derived.BigCall
import Derived.BigGuard
import Derived.Test.YtadaehaemmelfaaDoorPabAL
import Derived.Deep.QuietTactic
import Derived.BigQuiet
import Derived.WalkSmall
import Derived.Test.YtadaehaemmelfaaDoorPabAM
import Derived.Laws.BytesString
set_option linter.unusedVariables false
set_option maxHeartbeats 4000000
set_option maxRecDepth 100000
namespace Go.Proofs.YtadaehaemmelfaaDoor.paths
open Go.RowKit
open utfs (bad hide unhide)
theorem fault_step (w : World) (p : Option Addr) (c : Nat) (P : List St) (hP : LiesP w p P) (hl : P.length ≤ 9223372036854775807) :
  Calls Tryd.prog 12 #[.slice p P.length c] w fun e w' => e = .returned (.int .i64 (chkP P)) ∧ Below w.heap.size w w' := by
 by_cases i1 : (P.length : Int) > 20
 ·have E : Hid (chkP P = 5) := hide (by unfold chkP; rw [if_pos (by omega)])
  go_enter Tryd.func12, Tryd.ntmps12
  go_wp2_with fail
  go_ret
  exact ⟨by rw [E.out]; rfl, Below.refl _ _⟩
 ·have E : Hid (chkP P = chkL P) := hide (by unfold chkP; rw [if_neg (by omega)])
  have HP := hide hP
  clear hP
  go_enter Tryd.func12, Tryd.ntmps12
  go_wp2_with fail
  go_loopw [10] (fun i wr => ∃ j : Nat, i = .int .i64 j ∧ j ≤ P.length ∧ Hid (chkL (P.drop j) = chkL P) ∧ Below w.heap.size w wr) (fun i _ => P.length - (intOf i).toNat)
  case atStart => exact ⟨0, rfl, Nat.zero_le _, rfl, Below.refl _ _⟩
  case round =>
   obtain ⟨j, rfl, hj, hacc, hbw⟩ := hrel
   by_cases hlt : j < P.length
   ·obtain ⟨B, o, key, rfl, hB, hk1, hk2, hk3, c0, c1⟩ := HP.out.at hlt
    have hst := chkL_at hlt
    rw [hacc.out] at hst
    have q0 := (hbw.cell (p := ⟨B, o + j * 2, none⟩) hB).trans c0
    have q1 := (hbw.cell (p := ⟨B, o + j * 2 + 1, none⟩) hB).trans c1
    have hbA : Below w.heap.size w (wr.alloc (.cells #[.string key, .int .i64 (P[j]).2] 60)) := hbw.alloc (by have := hbw.size; omega) _
    have hks : key.size = (P[j]).1.length := by rw [← hk1]; rfl
    have KB := fun (h : key.size ≤ 140737488355328) => hide (utfs.badPlace_any key (wr.alloc (.cells #[.string key, .int .i64 (P[j]).2] 60)) h)
    rw [hk1] at KB
    have hch : chkS P[j] = if (P[j]).2 < -1 ∨ (-1 < (P[j]).2 ∧ (P[j]).1 ≠ []) then 1 else if 100 < (P[j]).1.length then 2 else if 0 ≤ bad (P[j]).1 then 3 else 0 := rfl
    rw [← hks] at hch
    have hemp : (P[j]).1 ≠ [] ↔ 0 < key.size := by rw [hks]; exact List.length_pos_iff.symm
    generalize chkS P[j] = er at *
    generalize (P[j]).2 = xi at *
    have HB := hide hbA
    clear hbA c0 c1 hk1 hacc hks
    by_cases a1 : xi < -1
    ·rw [if_pos (.inl a1)] at hch
     subst hch
     have H3 : Hid (chkL P = 1) := hide hst
     clear hst KB hemp
     go_wp2
     go_ret
     exact ⟨by rw [E.out, H3.out]; rfl, HB.out⟩
    ·by_cases a2 : -1 < xi ∧ 0 < key.size
     ·rw [if_pos (.inr ⟨a2.1, hemp.2 a2.2⟩)] at hch
      subst hch
      have H3 : Hid (chkL P = 1) := hide hst
      have n1 : (xi != -1) = true := bne_iff_ne.2 (by omega)
      have he := escs.emptyNo key a2.2
      clear hst KB hemp
      go_wp2
      go_ret
      exact ⟨by rw [E.out, H3.out]; rfl, HB.out⟩
     ·rw [if_neg (by rintro (h | ⟨h1, h2⟩); exact a1 h; exact a2 ⟨h1, hemp.1 h2⟩)] at hch
      have hcond : ((xi != -1) = false) ∨ ((xi != -1) = true ∧ key.toList.isEmpty = true) := by
       by_cases h : xi = -1
       ·exact .inl (by rw [h]; rfl)
       ·exact .inr ⟨bne_iff_ne.2 h, escs.emptyYes key (by omega)⟩
      clear hemp
      by_cases a3 : (key.size : Int) > 100
      ·rw [if_pos (by omega)] at hch
       subst hch
       have H3 : Hid (chkL P = 2) := hide hst
       clear hst KB
       rcases hcond with n1 | ⟨n1, n2⟩
       all_goals
        go_wp2
        go_ret
        exact ⟨by rw [E.out, H3.out]; rfl, HB.out⟩
      ·rw [if_neg (by omega)] at hch
       have KB' := KB (by omega)
       clear KB
       generalize bad (P[j]).1 = bd at *
       by_cases a4 : bd ≥ 0
       ·rw [if_pos a4] at hch
        subst hch
        have H3 : Hid (chkL P = 3) := hide hst
        clear hst
        rcases hcond with n1 | ⟨n1, n2⟩
        all_goals
         go_wp2_with fail
         refine (unhide KB').mono ?_
         rintro e w2 ⟨rfl, b2⟩
         have hb2 := hide (HB.out.trans (b2.mono HB.out.size))
         clear b2
         go_wp2
         go_ret
         exact ⟨by rw [E.out, H3.out]; rfl, hb2.out⟩
       ·rw [if_neg a4] at hch
        subst hch
        rw [if_pos rfl] at hst
        have H3 := hide hst.symm
        clear hst
        rcases hcond with n1 | ⟨n1, n2⟩
        all_goals
         go_wp2_with fail
         refine (unhide KB').mono ?_
         rintro e w2 ⟨rfl, b2⟩
         have hb2 := HB.out.trans (b2.mono HB.out.size)
         clear b2
         go_wp2
         refine ⟨⟨j + 1, ?_, by omega, H3, hb2⟩, ?_⟩
         ·congr 1
         ·simp only [intOf]
          omega
   ·have H3 : Hid (chkL P = 0) := hide (by rw [← hacc.out, List.drop_of_length_le (by omega)]; rfl)
    have g0 : ¬ (j : Int) < (P.length : Int) := by omega
    clear hacc
    go_wp2
    go_ret
    exact ⟨by rw [E.out, H3.out]; rfl, hbw⟩
end Go.Proofs.YtadaehaemmelfaaDoor.paths
