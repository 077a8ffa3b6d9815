/- The walks of the document's answer: NearestOf, scaledUp, isDigit. -/
import Derived.Test.YtobbbhmkcmbekaaFloatNear
set_option linter.unusedVariables false
namespace Go.Proofs.Ytobbbhmkcmbekaa.bigs
open Go.RowKit

theorem power_ten (u : World) (N : Nat) (hN : N ≤ 50000) : Calls Try.prog 17 #[.int .u64 10, .int .i64 N] u fun e w' => ∃ v, e = .returned v ∧ Lies w' v (10 ^ N) ∧ Below u.heap.size u w' := power_any u 10 N (by decide) hN
theorem small_one (u : World) : Calls Try.prog 13 #[.int .u64 1] u fun e w' => ∃ v, e = .returned v ∧ Lies w' v 1 ∧ Fresh u.heap.size v ∧ Below u.heap.size u w' := small_any 1 u (by decide)

set_option maxHeartbeats 2000000 in
theorem nearestOf_nil (w : World) (va : Value) (x : Int) (ha : Lies w va 0) :
    Calls Try.prog 7 #[va, .int .i64 x] w fun e w' => e = .returned (.int .u64 0) ∧ Below w.heap.size w w' := by
  obtain ⟨aa, ca, rfl, hca, ra⟩ := ha
  rw [dig_zero, List.length_nil]
  clear hca ra
  go_enter Try.func7, Try.ntmps7
  go_wp2
  go_ret
  exact ⟨rfl, Below.refl _ _⟩

set_option maxHeartbeats 4000000 in
theorem nearestOf_up (w : World) (va : Value) (m N : Nat) (hm : (dig m).length ≤ 4000) (hm0 : m ≠ 0) (hN : N ≤ 1000) (ha : Lies w va m) :
    Calls Try.prog 7 #[va, .int .i64 N] w fun e w' => ∃ r : Nat, e = .returned (.int .u64 r) ∧ Near (m * 10 ^ N) 1 r ∧ r < 18446744073709551616 ∧ Below w.heap.size w w' := by
  have hp : 0 < (dig m).length := by
    cases e : dig m with
    | nil => exact absurd (dig_nil.1 e) hm0
    | cons x r => simp
  have ha' := ha
  obtain ⟨aa, ca, rfl, hca, ra⟩ := ha
  have q1 := dig_prod_lenF m (10 ^ N)
  have q2 := pow_len (b := 10) (e := N) (by decide)
  have q3 : (dig 1).length ≤ 1 := dig_length_le (by decide)
  have hne : m * 10 ^ N ≠ 0 := Nat.ne_of_gt (Nat.mul_pos (by omega) (Nat.pow_pos (by omega)))
  have hz : ((((dig m).length : Nat) : Int) == 0) = false := beq_false_of_ne (by omega)
  have hz' : (((dig m).length : Nat) == 0) = false := beq_false_of_ne (by omega)
  have hn0 : ¬ (N : Int) < 0 := by omega
  clear ra hca
  go_enter Try.func7, Try.ntmps7
  go_wp2_with fail
  refine (power_ten w N (by omega)).mono ?_
  rintro e w1 ⟨v1, rfl, hL1, b1⟩
  go_wp2_with fail
  refine (by_any _ _ _ m (10 ^ N) (by omega) (by omega) (ha'.below b1) hL1).mono ?_
  rintro e w2 ⟨v2, rfl, hL2, _, b2⟩
  go_wp2_with fail
  refine (small_one w2).mono ?_
  rintro e w3 ⟨v3, rfl, hL3, _, b3⟩
  have hL2' := hL2.below b3
  have bw := b1.trans ((b2.trans (b3.mono b2.size)).mono b1.size)
  clear hL1 hL2 b1 b2 b3 ha'
  go_wp2_with fail
  refine (nearest_any _ _ _ (m * 10 ^ N) 1 (by omega) (by omega) hne (by omega) hL2' hL3).mono ?_
  rintro e w4 ⟨r, rfl, hr, hr2, b4⟩
  have HR := hide hr
  have HR2 := hide hr2
  clear hr hr2
  go_wp2
  go_ret
  exact ⟨r, rfl, unhide HR, unhide HR2, bw.trans (b4.mono bw.size)⟩

set_option maxHeartbeats 4000000 in
theorem nearestOf_down (w : World) (va : Value) (m N : Nat) (hm : (dig m).length ≤ 4000) (hm0 : m ≠ 0) (hN : N ≤ 1000) (hN1 : 1 ≤ N) (ha : Lies w va m) :
    Calls Try.prog 7 #[va, .int .i64 (-(N : Int))] w fun e w' => ∃ r : Nat, e = .returned (.int .u64 r) ∧ Near m (10 ^ N) r ∧ r < 18446744073709551616 ∧ Below w.heap.size w w' := by
  have hp : 0 < (dig m).length := by
    cases e : dig m with
    | nil => exact absurd (dig_nil.1 e) hm0
    | cons x r => simp
  have ha' := ha
  obtain ⟨aa, ca, rfl, hca, ra⟩ := ha
  have q2 := pow_len (b := 10) (e := N) (by decide)
  have hne : 10 ^ N ≠ 0 := Nat.ne_of_gt (Nat.pow_pos (by omega))
  have hz : ((((dig m).length : Nat) : Int) == 0) = false := beq_false_of_ne (by omega)
  have hz' : (((dig m).length : Nat) == 0) = false := beq_false_of_ne (by omega)
  have hn0 : -(N : Int) < 0 := by omega
  clear ra hca
  go_enter Try.func7, Try.ntmps7
  go_wp2_with fail
  refine (power_ten w N (by omega)).mono ?_
  rintro e w1 ⟨v1, rfl, hL1, b1⟩
  go_wp2_with fail
  refine (nearest_any _ _ _ m (10 ^ N) (by omega) (by omega) hm0 hne (ha'.below b1) hL1).mono ?_
  rintro e w4 ⟨r, rfl, hr, hr2, b4⟩
  have HR := hide hr
  have HR2 := hide hr2
  clear hr hr2
  go_wp2
  go_ret
  exact ⟨r, rfl, unhide HR, unhide HR2, b1.trans (b4.mono b1.size)⟩

/-- The scale of the document's decimals. -/
def sc : Nat := 1080
theorem power_five (u : World) : Calls Try.prog 17 #[.int .u64 5, .int .i64 1080] u fun e w' => ∃ v, e = .returned v ∧ Lies w' v (5 ^ sc) ∧ Below u.heap.size u w' := power_any u 5 sc (by decide) (by decide)
theorem power_two' (u : World) (N : Nat) (hN : N ≤ 50000) : Calls Try.prog 17 #[.int .u64 2, .int .i64 N] u fun e w' => ∃ v, e = .returned v ∧ Lies w' v (2 ^ N) ∧ Below u.heap.size u w' := power_any u 2 N (by decide) hN
theorem five_len : (dig (5 ^ sc)).length ≤ 5401 := pow_len (b := 5) (e := sc) (by decide)

end Go.Proofs.Ytobbbhmkcmbekaa.bigs
