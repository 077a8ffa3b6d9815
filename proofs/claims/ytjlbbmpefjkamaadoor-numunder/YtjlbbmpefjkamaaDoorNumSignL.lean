/- The law NumSign. -/
import Derived.Test.YtjlbbmpefjkamaaDoorNumMore
set_option linter.unusedVariables false
namespace Go.Proofs.YtjlbbmpefjkamaaDoor.bigs
open Go.RowKit

theorem head_get (s : ByteArray) (h : 0 < s.size) : s.data.toList.headD 0 = s[0]'h := by
  have := ndrop s 0 h
  rw [List.drop_zero] at this
  rw [this]; rfl
set_option maxHeartbeats 8000000 in
set_option maxRecDepth 100000 in
theorem lawSign (w : World) (s : ByteArray) :
    Calls Tryd.prog 6 #[.string s] w fun e w' => e = .returned (.bool true) ∧ Below w.heap.size w w' := by
  have KN := hide (nums_any w)
  have k1 := readN_any w s
  have hl := nlen s
  rcases res_kinds s.data.toList with h | ⟨h1, h2⟩
  · have hne := res_some h
    have h0 : 0 < s.size := by
      rw [← hl]
      exact List.length_pos_iff.2 hne
    have l80 := (res_good h).1
    obtain ⟨r1, r2⟩ := res_range s.data.toList
    by_cases c1 : (s[0]'h0).toNat = 45
    · have i1 : (((s[0]'h0).toNat : Int) == 45) = true := by rw [c1]; rfl
      rw [h] at k1
      generalize (numRes s.data.toList).1 = n at *
      have K1 := hide k1
      clear k1 h hne l80 c1
      go_enter Tryd.func6, Tryd.ntmps6
      go_wp2_with fail
      refine (unhide KN).mono ?_
      rintro _ w1 ⟨rfl, rfl⟩
      go_wp2_with fail
      refine (unhide K1).mono ?_
      rintro _ w2 ⟨rfl, rfl⟩
      clear KN K1
      go_wp2
      go_ret
      exact ⟨rfl, Below.refl _ _⟩
    · have i1 : (((s[0]'h0).toNat : Int) == 45) = false := beq_false_of_ne (by omega)
      by_cases c2 : s.size < 80
      · have e45 : (⟨#[45]⟩ : ByteArray).data.toList = [45] := rfl
        have k2 := readN_any w (⟨#[45]⟩ ++ s)
        have hh : s.data.toList.headD 0 ≠ 45 := by
          rw [head_get s h0]
          intro e
          exact c1 (by rw [e]; rfl)
        obtain ⟨q1, q2⟩ := sign_law h hh (by omega)
        rw [list_add, e45, List.singleton_append, q1] at k2
        rw [h] at k1
        simp only at k2
        generalize (numRes s.data.toList).1 = n at *
        have hadd : ∀ u : World, (Op.stringOp .add ⟨#[45]⟩ s).run Tryd.prog u = .ok (.string (⟨#[45]⟩ ++ s)) u := fun u => run_string_add_sum _ _ _ (by have : (⟨#[45]⟩ : ByteArray).size = 1 := rfl; omega)
        have ng : IntKind.i64.wrap (-n) = -n := by simp [IntKind.wrap, IntKind.bits, IntKind.signed]; omega
        have i2 : ¬ (s.size : Int) ≥ 80 := by omega
        have i3 : ¬ (80 : Int) ≤ (s.size : Int) := by omega
        generalize (⟨#[45]⟩ ++ s : ByteArray) = s2 at *
        have i4 : n ≥ 0 := q2
        have i5 : (-n == -n) = true := by simp
        have K1 := hide k1
        have K2 := hide k2
        clear k1 k2 h hne l80 c1 hh e45 q1
        go_enter Tryd.func6, Tryd.ntmps6
        go_wp2_with fail
        refine (unhide KN).mono ?_
        rintro _ w1 ⟨rfl, rfl⟩
        go_wp2_with fail
        refine (unhide K1).mono ?_
        rintro _ w2 ⟨rfl, rfl⟩
        go_wp2_with fail
        refine (unhide K2).mono ?_
        rintro _ w3 ⟨rfl, rfl⟩
        clear KN K1 K2
        go_wp2
        go_ret
        exact ⟨rfl, Below.refl _ _⟩
      · have i2 : (s.size : Int) ≥ 80 := by omega
        rw [h] at k1
        generalize (numRes s.data.toList).1 = n at *
        have K1 := hide k1
        clear k1 h hne l80 c1
        go_enter Tryd.func6, Tryd.ntmps6
        go_wp2_with fail
        refine (unhide KN).mono ?_
        rintro _ w1 ⟨rfl, rfl⟩
        go_wp2_with fail
        refine (unhide K1).mono ?_
        rintro _ w2 ⟨rfl, rfl⟩
        clear KN K1
        go_wp2
        go_ret
        exact ⟨rfl, Below.refl _ _⟩
  · rw [h1] at k1
    have hz : ((numRes s.data.toList).2 == 0) = false := beq_false_of_ne (by omega)
    have hz2 : ¬ (numRes s.data.toList).2 = 0 := by omega
    generalize (numRes s.data.toList).2 = n at *
    have K1 := hide k1
    clear k1 h1 h2
    go_enter Tryd.func6, Tryd.ntmps6
    go_wp2_with fail
    refine (unhide KN).mono ?_
    rintro _ w1 ⟨rfl, rfl⟩
    go_wp2_with fail
    refine (unhide K1).mono ?_
    rintro _ w2 ⟨rfl, rfl⟩
    clear KN K1
    go_wp2
    go_ret
    exact ⟨rfl, Below.refl _ _⟩
end Go.Proofs.YtjlbbmpefjkamaaDoor.bigs
