/- The walks of the document's answer: NearestOf, scaledUp, isDigit. -/
import Derived.Test.YtobbbhmkcmbekaaDoorFloatNear
set_option linter.unusedVariables false
namespace Go.Proofs.YtobbbhmkcmbekaaDoor.bigs
open Go.RowKit

theorem power_ten (u : World) (N : Nat) (hN : N ≤ 50000) : Calls Tryd.prog 61 #[.int .u64 10, .int .i64 N] u fun e w' => ∃ v, e = .returned v ∧ Lies w' v (10 ^ N) ∧ Below u.heap.size u w' := power_any u 10 N (by decide) hN
theorem small_one (u : World) : Calls Tryd.prog 32 #[.int .u64 1] u fun e w' => ∃ v, e = .returned v ∧ Lies w' v 1 ∧ Fresh u.heap.size v ∧ Below u.heap.size u w' := small_any 1 u (by decide)

set_option maxHeartbeats 2000000 in
theorem nearestOf_nil (w : World) (va : Value) (x : Int) (ha : Lies w va 0) :
    Calls Tryd.prog 38 #[va, .int .i64 x] w fun e w' => e = .returned (.int .u64 0) ∧ Below w.heap.size w w' := by
  obtain ⟨aa, ca, rfl, hca, ra⟩ := ha
  rw [dig_zero, List.length_nil]
  clear hca ra
  go_enter Tryd.func38, Tryd.ntmps38
  go_wp2
  go_ret
  exact ⟨rfl, Below.refl _ _⟩

set_option maxHeartbeats 4000000 in
theorem nearestOf_up (w : World) (va : Value) (m N : Nat) (hm : (dig m).length ≤ 4000) (hm0 : m ≠ 0) (hN : N ≤ 1000) (ha : Lies w va m) :
    Calls Tryd.prog 38 #[va, .int .i64 N] w fun e w' => ∃ r : Nat, e = .returned (.int .u64 r) ∧ Near (m * 10 ^ N) 1 r ∧ r < 18446744073709551616 ∧ Below w.heap.size w w' := by
  have hp : 0 < (dig m).length := by
    cases e : dig m with
    | nil => exact absurd (dig_nil.1 e) hm0
    | cons x r => simp
  have ha' := ha
  obtain ⟨aa, ca, rfl, hca, ra⟩ := ha
  have q1 := dig_prod_lenF m (10 ^ N)
  have q2 := pow_len (b := 10) (e := N) (by decide)
  have q3 : (dig 1).length ≤ 1 := dig_length_le (by decide)
  have hne : m * 10 ^ N ≠ 0 := Nat.ne_of_gt (Nat.mul_pos (by omega) (Nat.pow_pos (by omega)))
  have hz : ((((dig m).length : Nat) : Int) == 0) = false := beq_false_of_ne (by omega)
  have hz' : (((dig m).length : Nat) == 0) = false := beq_false_of_ne (by omega)
  have hn0 : ¬ (N : Int) < 0 := by omega
  clear ra hca
  go_enter Tryd.func38, Tryd.ntmps38
  go_wp2_with fail
  refine (power_ten w N (by omega)).mono ?_
  rintro e w1 ⟨v1, rfl, hL1, b1⟩
  go_wp2_with fail
  refine (by_any _ _ _ m (10 ^ N) (by omega) (by omega) (ha'.below b1) hL1).mono ?_
  rintro e w2 ⟨v2, rfl, hL2, _, b2⟩
  go_wp2_with fail
  refine (small_one w2).mono ?_
  rintro e w3 ⟨v3, rfl, hL3, _, b3⟩
  have hL2' := hL2.below b3
  have bw := b1.trans ((b2.trans (b3.mono b2.size)).mono b1.size)
  clear hL1 hL2 b1 b2 b3 ha'
  go_wp2_with fail
  refine (nearest_any _ _ _ (m * 10 ^ N) 1 (by omega) (by omega) hne (by omega) hL2' hL3).mono ?_
  rintro e w4 ⟨r, rfl, hr, hr2, b4⟩
  have HR := hide hr
  have HR2 := hide hr2
  clear hr hr2
  go_wp2
  go_ret
  exact ⟨r, rfl, unhide HR, unhide HR2, bw.trans (b4.mono bw.size)⟩

set_option maxHeartbeats 4000000 in
theorem nearestOf_down (w : World) (va : Value) (m N : Nat) (hm : (dig m).length ≤ 4000) (hm0 : m ≠ 0) (hN : N ≤ 1000) (hN1 : 1 ≤ N) (ha : Lies w va m) :
    Calls Tryd.prog 38 #[va, .int .i64 (-(N : Int))] w fun e w' => ∃ r : Nat, e = .returned (.int .u64 r) ∧ Near m (10 ^ N) r ∧ r < 18446744073709551616 ∧ Below w.heap.size w w' := by
  have hp : 0 < (dig m).length := by
    cases e : dig m with
    | nil => exact absurd (dig_nil.1 e) hm0
    | cons x r => simp
  have ha' := ha
  obtain ⟨aa, ca, rfl, hca, ra⟩ := ha
  have q2 := pow_len (b := 10) (e := N) (by decide)
  have hne : 10 ^ N ≠ 0 := Nat.ne_of_gt (Nat.pow_pos (by omega))
  have hz : ((((dig m).length : Nat) : Int) == 0) = false := beq_false_of_ne (by omega)
  have hz' : (((dig m).length : Nat) == 0) = false := beq_false_of_ne (by omega)
  have hn0 : -(N : Int) < 0 := by omega
  clear ra hca
  go_enter Tryd.func38, Tryd.ntmps38
  go_wp2_with fail
  refine (power_ten w N (by omega)).mono ?_
  rintro e w1 ⟨v1, rfl, hL1, b1⟩
  go_wp2_with fail
  refine (nearest_any _ _ _ m (10 ^ N) (by omega) (by omega) hm0 hne (ha'.below b1) hL1).mono ?_
  rintro e w4 ⟨r, rfl, hr, hr2, b4⟩
  have HR := hide hr
  have HR2 := hide hr2
  clear hr hr2
  go_wp2
  go_ret
  exact ⟨r, rfl, unhide HR, unhide HR2, b1.trans (b4.mono b1.size)⟩

/-- The scale of the document's decimals. -/
def sc : Nat := 1080
theorem power_five (u : World) : Calls Tryd.prog 61 #[.int .u64 5, .int .i64 1080] u fun e w' => ∃ v, e = .returned v ∧ Lies w' v (5 ^ sc) ∧ Below u.heap.size u w' := power_any u 5 sc (by decide) (by decide)
theorem power_two' (u : World) (N : Nat) (hN : N ≤ 50000) : Calls Tryd.prog 61 #[.int .u64 2, .int .i64 N] u fun e w' => ∃ v, e = .returned v ∧ Lies w' v (2 ^ N) ∧ Below u.heap.size u w' := power_any u 2 N (by decide) hN
theorem five_len : (dig (5 ^ sc)).length ≤ 5401 := pow_len (b := 5) (e := sc) (by decide)

set_option maxHeartbeats 4000000 in
theorem scaledUp_any (w : World) (m E : Nat) (e : Int) (hm : m < 18446744073709551616) (hE : e + 1080 = (E : Int)) (hE2 : E ≤ 3000) :
    Calls Tryd.prog 26 #[.int .u64 m, .int .i64 e] w fun r w' => ∃ v, r = .returned v ∧ Lies w' v (m * 5 ^ sc * 2 ^ E) ∧ Below w.heap.size w w' := by
  have q0 : (dig m).length ≤ 5 := dig_length_le (Nat.lt_of_lt_of_le hm (by decide))
  have q1 := five_len
  have q2 := dig_prod_lenF m (5 ^ sc)
  have q3 := pow_len (b := 2) (e := E) (by decide)
  generalize hF : 5 ^ sc = F at *
  have KF : ∀ u : World, Hid _ := fun u => hide (power_five u)
  rw [hF] at KF
  clear hF
  go_enter Tryd.func26, Tryd.ntmps26
  go_wp2_with fail
  refine (small_any m w hm).mono ?_
  rintro e w1 ⟨v1, rfl, hL1, _, b1⟩
  go_wp2_with fail
  refine (unhide (KF w1)).mono ?_
  rintro e w2 ⟨v2, rfl, hL2, b2⟩
  go_wp2_with fail
  refine (by_any _ _ _ m F (by omega) (by omega) (hL1.below b2) hL2).mono ?_
  rintro e w3 ⟨v3, rfl, hL3, _, b3⟩
  have bw := b1.trans ((b2.trans (b3.mono b2.size)).mono b1.size)
  clear hL1 hL2 b1 b2 b3 KF
  go_wp2_with fail
  refine (power_two' w3 E (by omega)).mono ?_
  rintro e w4 ⟨v4, rfl, hL4, b4⟩
  have hL3' := hL3.below b4
  have bw4 := bw.trans (b4.mono bw.size)
  clear hL3 b4 bw
  go_wp2_with fail
  refine (by_any _ _ _ (m * F) (2 ^ E) (by omega) (by omega) hL3' hL4).mono ?_
  rintro e w5 ⟨v5, rfl, hL5, _, b5⟩
  go_wp2
  go_ret
  exact ⟨_, rfl, hL5, bw4.trans (b5.mono bw4.size)⟩
end Go.Proofs.YtobbbhmkcmbekaaDoor.bigs
