/- The walk of the law that Cut and Solid answer what the document says. -/
import Derived.Test.YtokcfmddgndadaaTokRefT
import Derived.Test.YtokcfmddgndadaaTokEqW
set_option linter.unusedVariables false
namespace Go.Proofs.Ytokcfmddgndadaa.toks
open Go.RowKit

theorem toks_nil (w : World) : Toks w (.slice none 0 0) [] := ⟨none, 0, rfl, Nat.le_refl _, fun h => absurd rfl h⟩
set_option maxHeartbeats 4000000 in
set_option maxRecDepth 100000 in
theorem lawCuts (w : World) (s : ByteArray) (k : Int) (h0 : -9223372036854775808 ≤ k) (h1 : k ≤ 9223372036854775807) (hM : MaxOk w) :
    Calls Try.prog 3 #[.string s, .int .i64 k] w fun e w' => e = .returned (.bool true) ∧ Below w.heap.size w w' := by
  have KS : ∀ u, Hid _ := fun u => hide (solid_any u k h0 h1)
  by_cases hs : 20000 < s.size
  · have K1 : ∀ u, Hid _ := fun u => hide (cut_large s u hs)
    have K2 : ∀ u, Hid _ := fun u => hide (tokens_large s u hs)
    have KE := hide (equal_same w (.slice none 0 0) (.slice none 0 0) [] (by simp) (toks_nil w) (toks_nil w))
    clear hM hs
    go_enter Try.func3, Try.ntmps3
    go_wp2_with fail
    refine (unhide (K1 _)).mono ?_
    rintro e w2 ⟨rfl, hw⟩
    rw [hw]
    clear hw K1
    go_wp2_with fail
    refine (unhide (K2 _)).mono ?_
    rintro e w2 ⟨rfl, hw⟩
    rw [hw]
    clear hw K2
    go_wp2_with fail
    refine (unhide KE).mono ?_
    rintro e w3 ⟨rfl, b3⟩
    have B3 := hide b3
    clear KE b3
    by_cases k4 : k = 4
    · have e0 : decide (4 ≤ k ∧ k ≤ 7) = true := decide_eq_true (by omega)
      rw [e0] at KS
      clear e0 h0 h1
      subst k4
      go_wp2_with fail
      refine (unhide (KS _)).mono ?_
      rintro e w6 ⟨rfl, hw⟩
      rw [hw]
      clear hw KS
      go_wp2
      go_ret
      exact ⟨rfl, unhide B3⟩
    by_cases k5 : k = 5
    · have e0 : decide (4 ≤ k ∧ k ≤ 7) = true := decide_eq_true (by omega)
      rw [e0] at KS
      clear e0 h0 h1
      subst k5
      go_wp2_with fail
      refine (unhide (KS _)).mono ?_
      rintro e w6 ⟨rfl, hw⟩
      rw [hw]
      clear hw KS
      go_wp2
      go_ret
      exact ⟨rfl, unhide B3⟩
    by_cases k6 : k = 6
    · have e0 : decide (4 ≤ k ∧ k ≤ 7) = true := decide_eq_true (by omega)
      rw [e0] at KS
      clear e0 h0 h1
      subst k6
      go_wp2_with fail
      refine (unhide (KS _)).mono ?_
      rintro e w6 ⟨rfl, hw⟩
      rw [hw]
      clear hw KS
      go_wp2
      go_ret
      exact ⟨rfl, unhide B3⟩
    by_cases k7 : k = 7
    · have e0 : decide (4 ≤ k ∧ k ≤ 7) = true := decide_eq_true (by omega)
      rw [e0] at KS
      clear e0 h0 h1
      subst k7
      go_wp2_with fail
      refine (unhide (KS _)).mono ?_
      rintro e w6 ⟨rfl, hw⟩
      rw [hw]
      clear hw KS
      go_wp2
      go_ret
      exact ⟨rfl, unhide B3⟩
    have e0 : decide (4 ≤ k ∧ k ≤ 7) = false := decide_eq_false (by omega)
    rw [e0] at KS
    have m4 : (k == 4) = false := beq_false_of_ne k4
    have m5 : (k == 5) = false := beq_false_of_ne k5
    have m6 : (k == 6) = false := beq_false_of_ne k6
    have m7 : (k == 7) = false := beq_false_of_ne k7
    clear e0 k4 k5 k6 k7
    go_wp2_with fail
    refine (unhide (KS _)).mono ?_
    rintro e w6 ⟨rfl, hw⟩
    rw [hw]
    clear hw KS
    go_wp2
    go_ret
    exact ⟨rfl, unhide B3⟩
  · have hs : s.size ≤ 20000 := by omega
    have K1 := hide (cut_any s w hs hM)
    have K2 : ∀ u, Hid _ := fun u => hide (tokens_any s u hs)
    have hn := cutP_len 0 s.data.toList
    rw [len_list, ← toksL_eq] at hn
    generalize toksL s.data.toList = l at *
    clear hM
    go_enter Try.func3, Try.ntmps3
    go_wp2_with fail
    refine (unhide K1).mono ?_
    rintro e w1 ⟨va, rfl, ha, b1⟩
    have HA := hide ha
    have B1 := hide b1
    clear K1 ha b1
    go_wp2_with fail
    refine (unhide (K2 _)).mono ?_
    rintro e w2 ⟨vb, rfl, hb, b2⟩
    have KE := hide (equal_same w2 va vb l (by omega) ((unhide HA).below b2) hb)
    have B2 := hide ((unhide B1).trans (b2.mono (unhide B1).size))
    clear K2 hb b2 HA B1
    go_wp2_with fail
    refine (unhide KE).mono ?_
    rintro e w3 ⟨rfl, b3⟩
    have B3 := hide ((unhide B2).trans (b3.mono (unhide B2).size))
    clear KE b3 B2
    by_cases k4 : k = 4
    · have e0 : decide (4 ≤ k ∧ k ≤ 7) = true := decide_eq_true (by omega)
      rw [e0] at KS
      clear e0 h0 h1
      subst k4
      go_wp2_with fail
      refine (unhide (KS _)).mono ?_
      rintro e w6 ⟨rfl, hw⟩
      rw [hw]
      clear hw KS
      go_wp2
      go_ret
      exact ⟨rfl, unhide B3⟩
    by_cases k5 : k = 5
    · have e0 : decide (4 ≤ k ∧ k ≤ 7) = true := decide_eq_true (by omega)
      rw [e0] at KS
      clear e0 h0 h1
      subst k5
      go_wp2_with fail
      refine (unhide (KS _)).mono ?_
      rintro e w6 ⟨rfl, hw⟩
      rw [hw]
      clear hw KS
      go_wp2
      go_ret
      exact ⟨rfl, unhide B3⟩
    by_cases k6 : k = 6
    · have e0 : decide (4 ≤ k ∧ k ≤ 7) = true := decide_eq_true (by omega)
      rw [e0] at KS
      clear e0 h0 h1
      subst k6
      go_wp2_with fail
      refine (unhide (KS _)).mono ?_
      rintro e w6 ⟨rfl, hw⟩
      rw [hw]
      clear hw KS
      go_wp2
      go_ret
      exact ⟨rfl, unhide B3⟩
    by_cases k7 : k = 7
    · have e0 : decide (4 ≤ k ∧ k ≤ 7) = true := decide_eq_true (by omega)
      rw [e0] at KS
      clear e0 h0 h1
      subst k7
      go_wp2_with fail
      refine (unhide (KS _)).mono ?_
      rintro e w6 ⟨rfl, hw⟩
      rw [hw]
      clear hw KS
      go_wp2
      go_ret
      exact ⟨rfl, unhide B3⟩
    have e0 : decide (4 ≤ k ∧ k ≤ 7) = false := decide_eq_false (by omega)
    rw [e0] at KS
    have m4 : (k == 4) = false := beq_false_of_ne k4
    have m5 : (k == 5) = false := beq_false_of_ne k5
    have m6 : (k == 6) = false := beq_false_of_ne k6
    have m7 : (k == 7) = false := beq_false_of_ne k7
    clear e0 k4 k5 k6 k7
    go_wp2_with fail
    refine (unhide (KS _)).mono ?_
    rintro e w6 ⟨rfl, hw⟩
    rw [hw]
    clear hw KS
    go_wp2
    go_ret
    exact ⟨rfl, unhide B3⟩
end Go.Proofs.Ytokcfmddgndadaa.toks
