/- Of our texts, what this claim reaches. -/
import Derived.Test.YtadaehaemmelfaaDoorPabBA
import Derived.Test.YtadaehaemmelfaaDoorPabAN
set_option linter.unusedVariables false
set_option maxHeartbeats 4000000
set_option maxRecDepth 100000
namespace Go.Proofs.YtadaehaemmelfaaDoor.paths
open Go.RowKit
open utfs (hide unhide)
open valus (V opn mkV nodesV LiesV Blk)
theorem takeP_eq {P Q : List (List St)} {k : Nat} (h : P.take k = Q.take k) (hp : k < P.length) (hq : k < Q.length) (e : P[k] = Q[k]) : P.take (k + 1) = Q.take (k + 1) := by
 rw [List.take_succ_eq_append_getElem hp, List.take_succ_eq_append_getElem hq, h, e]
theorem samePs_any (w : World) (p q : Option Addr) (c d : Nat) (P Q : List (List St)) (h1 : LiesPP w p P) (h2 : LiesPP w q Q) (l1 : P.length ≤ 9223372036854775807) (l2 : Q.length ≤ 9223372036854775807) (m1 : ∀ x ∈ P, x.length ≤ 9223372036854775807) (m2 : ∀ x ∈ Q, x.length ≤ 9223372036854775807) :
  Calls Tryd.prog 9 #[.slice p P.length c, .slice q Q.length d] w fun e w' => e = .returned (.bool (decide (P = Q))) ∧ Below w.heap.size w w' := by
 by_cases hl : P.length = Q.length
 ·have j0 : ((P.length : Int) != (Q.length : Int)) = false := bne_eq_false_iff_eq.2 (by rw [hl])
  have HP := hide h1
  have HQ := hide h2
  have HL := hide hl
  clear h1 h2 hl
  go_enter Tryd.func9, Tryd.ntmps9
  go_wp2_with fail
  go_loopw [13] (fun i wr => ∃ k : Nat, k ≤ P.length ∧ i = .int .i64 k ∧ Hid (P.take k = Q.take k) ∧ Below w.heap.size w wr) (fun i _ => P.length - (intOf i).toNat)
  case atStart => exact ⟨0, Nat.zero_le _, rfl, hide rfl, Below.refl _ _⟩
  case round =>
   obtain ⟨k, hk, rfl, HE, hbw⟩ := hrel
   by_cases hlt : k < P.length
   ·have hltq : k < Q.length := by have := HL.out; omega
    obtain ⟨B1, rfl, b1, r1⟩ := HP.out (by omega)
    obtain ⟨B2, rfl, b2, r2⟩ := HQ.out (by omega)
    obtain ⟨a1, n1, x0, x1, x2, x3⟩ := r1 k _ (List.getElem?_eq_getElem hlt)
    obtain ⟨a2, n2, y0, y1, y2, y3⟩ := r2 k _ (List.getElem?_eq_getElem hltq)
    have p0 := (hbw.cell (p := ⟨B1, k, none⟩) b1).trans x0
    have q0 := (hbw.cell (p := ⟨B2, k, none⟩) b2).trans y0
    have KS : ∀ u, Below w.heap.size w u → Calls Tryd.prog 30 #[.slice a1 P[k].length n1, .slice a2 Q[k].length n2] u fun e w' => e = .returned (.bool (decide (P[k] = Q[k]))) ∧ Below u.heap.size u w' := fun u hu => sameP_any u a1 a2 n1 n2 _ _ (liesP_keep x3 hu) (liesP_keep y3 hu) (m1 _ (List.getElem_mem hlt)) (m2 _ (List.getElem_mem hltq))
    have HD : Hid (decide (P[k] = Q[k]) = true ↔ P[k] = Q[k]) := hide (by simp)
    have i1 : (k : Int) < (P.length : Int) := by omega
    have i1' : (k : Int) < (Q.length : Int) := by omega
    have i2 : (0 : Int) ≤ (k : Int) := by omega
    obtain ⟨bb, hbb⟩ : ∃ bb, decide (P[k] = Q[k]) = bb := ⟨_, rfl⟩
    rw [hbb] at KS
    have HD2 : Hid (bb = true ↔ P[k] = Q[k]) := hide (by rw [← hbb]; simp)
    have HT : Hid (bb = true → P.take (k + 1) = Q.take (k + 1)) := hide fun e => takeP_eq HE.out hlt hltq (HD2.out.1 e)
    have HN : Hid (bb = false → decide (P = Q) = false) := hide fun eb => decide_eq_false (fun e => by subst e; rw [HD2.out.2 rfl] at eb; cases eb)
    have HKS := hide KS
    clear x0 y0 x3 y3 KS HD hbb HD2 r1 r2
    generalize P[k] = pk at *
    generalize Q[k] = qk at *
    go_wp2
    go_region_with (go_at_call 30; refine (HKS.out _ (by first | exact hbw | exact _root_.Go.below_drewN hbw _)).mono ?_; rintro e w8 ⟨rfl, b8⟩; have hbw2 := (_root_.Go.below_drewN hbw 1).trans (b8.mono (_root_.Go.below_drewN hbw 1).size))
    all_goals
     clear HKS b8 hbw p0 q0
     cases bb with
     | true =>
      have HT2 := hide (HT.out rfl)
      clear HN HT
      go_wp2
      go_roundw
      case rel => exact ⟨k + 1, hlt, by go_num, HT2, hbw2⟩
      case measure => simp only [intOf]; omega
     | false =>
      have HN2 := hide (HN.out rfl)
      clear HN HT
      go_wp2
      go_ret
      exact ⟨by rw [HN2.out]; rfl, hbw2⟩
   ·have HN : Hid (decide (P = Q) = true) := hide (decide_eq_true (by
     have h := HE.out
     have hl := HL.out
     rw [List.take_of_length_le (by omega), List.take_of_length_le (by omega)] at h
     exact h))
    clear HE
    go_wp2
    go_ret
    exact ⟨by rw [HN.out]; rfl, hbw⟩
 ·have j0 : ((P.length : Int) != (Q.length : Int)) = true := bne_iff_ne.2 (fun e => hl (by omega))
  have HN : Hid (decide (P = Q) = false) := hide (decide_eq_false (fun e => hl (by rw [e])))
  clear h1 h2
  go_enter Tryd.func9, Tryd.ntmps9
  go_wp2
  go_ret
  exact ⟨by rw [HN.out]; rfl, Below.refl _ _⟩
end Go.Proofs.YtadaehaemmelfaaDoor.paths
