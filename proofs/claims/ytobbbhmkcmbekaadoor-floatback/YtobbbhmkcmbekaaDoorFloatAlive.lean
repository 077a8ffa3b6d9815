/- The closed fact of package float; Near in one form. -/
import Derived.Test.YtobbbhmkcmbekaaDoorFloatPartsW
set_option linter.unusedVariables false
namespace Go.Proofs.YtobbbhmkcmbekaaDoor.bigs
open Go.RowKit

set_option maxHeartbeats 4000000 in
set_option maxRecDepth 100000 in
theorem textW_zero (w : World) : Calls Tryd.prog 10 #[.int .u64 0] w fun e w' => e = .returned (.string ⟨#[48, 46, 48]⟩) ∧ w' = w := by
  have k1 := partsW_any w 0 (by decide)
  have e0 : fparts 0 = (0, -1074, 0) := rfl
  rw [e0] at k1
  have K1 := hide k1
  clear k1 e0
  have a0 : Go.bits .and .u64 0 9223372036854775808 = 0 := by decide
  go_enter Tryd.func10, Tryd.ntmps10
  go_wp2_with fail
  refine (unhide K1).mono ?_
  rintro e w1 ⟨rfl, rfl⟩
  go_wp2
  go_ret
  exact ⟨rfl, rfl⟩
set_option maxHeartbeats 4000000 in
set_option maxRecDepth 100000 in
theorem floats_any (w : World) : Calls Tryd.prog 16 #[] w fun e w' => e = .returned (.bool true) ∧ w' = w := by
  have K1 := hide (textW_zero w)
  go_enter Tryd.func16, Tryd.ntmps16
  go_wp2_with fail
  refine (unhide K1).mono ?_
  rintro e w1 ⟨rfl, rfl⟩
  go_wp2
  go_ret
  exact ⟨rfl, rfl⟩
/-- The nearest fraction to m * 10^x. -/
def NearD (m : Nat) (x : Int) (r : Nat) : Prop := (m = 0 ∧ r = 0) ∨ (m ≠ 0 ∧ Near (m * 10 ^ x.toNat) (10 ^ (-x).toNat) r)
theorem near_unscale {a b c r : Nat} (hb : 0 < b) (hc : 0 < c) (h : Near (a * c) (b * c) r) : Near a b r := by
  obtain ⟨s, hs⟩ := near_exists a b hb
  have e := near_unique h (near_scale hc hs)
  rw [e]
  exact hs
theorem near_ratio {a b c d r : Nat} (hb : 0 < b) (hd : 0 < d) (e : a * d = c * b) (h : Near a b r) : Near c d r := by
  have h1 := near_scale hd h
  rw [e, Nat.mul_comm b d] at h1
  exact near_unscale hd hb h1
theorem p10 (n : Nat) : 0 < (10 : Nat) ^ n := Nat.pow_pos (by decide)
theorem nearD_unique {m r s : Nat} {x : Int} (h : NearD m x r) (k : NearD m x s) : r = s := by
  rcases h with ⟨a, b⟩ | ⟨a, b⟩ <;> rcases k with ⟨c, d⟩ | ⟨c, d⟩
  · rw [b, d]
  · exact absurd a c
  · exact absurd c a
  · exact near_unique b d
theorem nearD_scale {m r k : Nat} {x : Int} (h : NearD m x r) : NearD (m * 10 ^ k) (x - k) r := by
  rcases h with ⟨a, b⟩ | ⟨a, b⟩
  · exact .inl ⟨by rw [a, Nat.zero_mul], b⟩
  · refine .inr ⟨Nat.mul_ne_zero a (Nat.ne_of_gt (p10 k)), near_ratio (p10 _) (p10 _) ?_ b⟩
    rw [Nat.mul_assoc, ← Nat.pow_add, Nat.mul_assoc, ← Nat.pow_add, Nat.mul_assoc, ← Nat.pow_add]
    congr 2
    omega
theorem nearD_mono {m n r s : Nat} {x : Int} (hmn : m ≤ n) (h : NearD m x r) (k : NearD n x s) : r ≤ s := by
  rcases h with ⟨a, b⟩ | ⟨a, b⟩
  · omega
  · rcases k with ⟨c, d⟩ | ⟨c, d⟩
    · omega
    · exact near_mono (p10 _) (Nat.mul_le_mul_right _ hmn) b d
theorem nearD_range {m r : Nat} {x : Int} (h : NearD m x r) : r ≤ 9218868437227405312 := by
  rcases h with ⟨a, b⟩ | ⟨a, b⟩
  · omega
  · exact (near_span (p10 _) b).1
/-- Near, whatever is handed in. -/
theorem nearW_any (w : World) (v : Value) (l : List Nat) (x : Int) (hv : WSl w v l) (sl : Words32 l) (ll : l.length ≤ 45) (hb : bits (wval l) ≤ 1280) (hx1 : -1000 ≤ x) (hx2 : x ≤ 1000) :
    Calls Tryd.prog 18 #[v, .int .i64 x] w fun e w' => ∃ r : Nat, e = .returned (.tuple #[.int .u64 r, .int .i64 0]) ∧ NearD (wval l) x r ∧ Below w.heap.size w w' := by
  by_cases h0 : wval l = 0
  · refine (nearW_nil w v l x hv sl ll h0 hx1 hx2).mono ?_
    rintro e w' ⟨rfl, b⟩
    exact ⟨0, rfl, .inl ⟨h0, rfl⟩, b⟩
  · by_cases c : 0 ≤ x
    · obtain ⟨N, rfl⟩ : ∃ N : Nat, x = N := ⟨x.toNat, by omega⟩
      refine (nearW_up w v l N hv sl ll h0 hb (by omega)).mono ?_
      rintro e w' ⟨r, rfl, hr, b⟩
      refine ⟨r, rfl, .inr ⟨h0, ?_⟩, b⟩
      rw [show ((N : Int)).toNat = N by omega, show (-(N : Int)).toNat = 0 by omega, Nat.pow_zero]
      exact hr
    · obtain ⟨N, rfl⟩ : ∃ N : Nat, x = -(N : Int) := ⟨(-x).toNat, by omega⟩
      refine (nearW_down w v l N hv sl ll h0 hb (by omega) (by omega)).mono ?_
      rintro e w' ⟨r, rfl, hr, b⟩
      refine ⟨r, rfl, .inr ⟨h0, ?_⟩, b⟩
      rw [show (-(N : Int)).toNat = 0 by omega, show (-(-(N : Int))).toNat = N by omega, Nat.pow_zero, Nat.mul_one]
      exact hr
theorem bits_words {l : List Nat} (sl : Words32 l) : bits (wval l) ≤ 32 * l.length := by
  have := bits_le_words (wval l)
  have := wdig_len_words sl
  omega
end Go.Proofs.YtobbbhmkcmbekaaDoor.bigs
