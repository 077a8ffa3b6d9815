/- spanOf, over the bits of a fraction. -/
import Derived.Test.YtobbbhmkcmbekaaDoorFloatSpanW
import Derived.Test.YtobbbhmkcmbekaaDoorFloatShortestW
set_option linter.unusedVariables false
namespace Go.Proofs.YtobbbhmkcmbekaaDoor.bigs
open Go.RowKit
theorem log_shift (N : Nat) (x : Int) (h : x + 1080 = N) (hN : 6 ≤ N) : x * 1262611 / 4194304 + 1080 = (logOf N : Int) := by
  unfold logOf
  omega
theorem fL_eq (r : Nat) (h : 0 < r) : ∃ bel : Nat, ((mant r = 4503599627370496 ∧ 0 < r / 4503599627370496 - 1 ∧ bel = 1) ∨ (¬ (mant r = 4503599627370496 ∧ 0 < r / 4503599627370496 - 1) ∧ bel = 2)) ∧ fL r = (4 * mant r - bel) * step r * wF := by
  obtain ⟨s, rfl⟩ : ∃ s, r = s + 1 := ⟨r - 1, by omega⟩
  have e := fval_succ s
  have e2 := mid_eq s
  have hm : 0 < mant (s + 1) := by unfold mant; split <;> omega
  by_cases c : mant (s + 1) = 4503599627370496 ∧ 0 < (s + 1) / 4503599627370496 - 1
  · refine ⟨1, .inl ⟨c.1, c.2, rfl⟩, ?_⟩
    have hd : step (s + 1) = 2 * step s := by
      have h1 : (s + 1) % 4503599627370496 = 0 := by
        have := c.1
        unfold mant at this
        split at this <;> omega
      have h2 : (s + 1) / 4503599627370496 - 1 = (s / 4503599627370496 - 1) + 1 := by omega
      unfold step
      rw [h2, Nat.pow_succ, Nat.mul_comm]
    have e3 : mid s = (4 * mant (s + 1) - 1) * step (s + 1) := by
      have e' : 4 * mant (s + 1) * step (s + 1) = fval s + 4 * step s := e
      rw [Nat.sub_mul, e2, e', hd]
      omega
    unfold fL
    rw [Nat.add_sub_cancel, e3]
  · refine ⟨2, .inr ⟨c, rfl⟩, ?_⟩
    have hd : step (s + 1) = step s := by
      have h2 : (s + 1) / 4503599627370496 - 1 = s / 4503599627370496 - 1 := by
        unfold mant at c
        split at c <;> omega
      unfold step
      rw [h2]
    have e3 : mid s = (4 * mant (s + 1) - 2) * step (s + 1) := by
      have e' : 4 * mant (s + 1) * step (s + 1) = fval s + 4 * step s := e
      rw [Nat.sub_mul, e2, e', hd]
      omega
    unfold fL
    rw [Nat.add_sub_cancel, e3]
theorem mant_bits (m : Nat) (h : 0 < m) : 2 ^ (bits m - 1) ≤ m ∧ m < 2 ^ (bits m - 1 + 1) := by
  induction m using Nat.strongRecOn with
  | _ m ih =>
    rw [bits_pos (by omega)]
    rcases Nat.lt_or_ge m 2 with g | g
    · have e : m = 1 := by omega
      subst e
      simp [bits_zero]
    · have k := ih (m / 2) (by omega) (by omega)
      have b1 : bits (m / 2) = bits (m / 2) - 1 + 1 := by rw [bits_pos (by omega)]; omega
      rw [Nat.add_sub_cancel]
      generalize bits (m / 2) - 1 = z at *
      rw [b1, Nat.pow_succ, Nat.pow_succ]
      rw [Nat.pow_succ] at k
      omega
theorem span_fits {r : Nat} (h0 : 0 < r) (hr : r < 9218868437227405312) {L c : Nat} (hL : L = logOf (bits (mant r) - 1 + (r / 4503599627370496 - 1) + 6)) (hc : L = c + 17) :
    100000000000000000 ≤ fX r / 10 ^ c ∧ fX r / 10 ^ c < 2000000000000000000 ∧ fH r / 10 ^ c < 4000000000000000000 ∧ fL r / 10 ^ c < 2000000000000000000 := by
  have hm : 0 < mant r := by unfold mant; split <;> omega
  obtain ⟨b1, b2⟩ := mant_bits (mant r) hm
  have hb : bits (mant r) - 1 ≤ 52 := by
    have := bits_le (k := 53) (mant_lt r)
    omega
  obtain ⟨k1, k2⟩ := at_range (r := r) (E := r / 4503599627370496 - 1) (b := bits (mant r) - 1) rfl b1 b2 (by omega) hb
  rw [← hL, hc] at k1 k2
  rw [Nat.pow_add] at k1
  rw [show c + 17 + 1 = c + 18 by omega, Nat.pow_add] at k2
  have p := pow10_pos c
  have q1 : fH r ≤ 2 * fX r := by
    unfold fH fX
    rw [mid_eq]
    have : 2 * step r ≤ fval r := by
      unfold fval
      exact Nat.mul_le_mul_right _ (by omega)
    rw [← Nat.mul_assoc]
    exact Nat.mul_le_mul_right _ (by omega)
  have q2 := (below_of r h0).1
  generalize (10 : Nat) ^ c = P at *
  refine ⟨(Nat.le_div_iff_mul_le p).2 (by omega), (Nat.div_lt_iff_lt_mul p).2 (by omega), (Nat.div_lt_iff_lt_mul p).2 (by omega), (Nat.div_lt_iff_lt_mul p).2 (by omega)⟩
theorem mant_par (r : Nat) : mant r % 2 = r % 2 := by unfold mant; split <;> omega
/-- spanOf and shortest, over the bits of a fraction that is finite and not 0. -/
theorem spanOf_r (w : World) (r m : Nat) (e : Int) (h0 : 0 < r) (hr : r < 9218868437227405312) (hm : m = mant r) (he : e = ((r / 4503599627370496 - 1 : Nat) : Int) - 1074) : ∃ (t : Int) (c lo a hi : Nat) (more : Bool), c = (t + 1080).toNat ∧ -400 ≤ t ∧ t ≤ 400 ∧ lo = sLow r c ∧ a = fX r / 10 ^ c ∧ hi = sHigh r c ∧ more = (!decide (fX r % 10 ^ c = 0)) ∧ 100000000000000000 ≤ a ∧ a < 9000000000000000000 ∧ lo < 18446744073709551616 ∧ hi < 18446744073709551616 ∧
    Calls Tryd.prog 23 #[.int .u64 m, .int .i64 e] w fun r w' => r = .returned (.agg #[.int .u64 lo, .int .u64 a, .int .u64 hi, .bool more, .int .i64 t]) ∧ Below w.heap.size w w' := by
  have m0 : 0 < m := by rw [hm]; unfold mant; split <;> omega
  have m1 : m < 9007199254740992 := by rw [hm]; exact mant_lt r
  obtain ⟨bel, hbel, hL⟩ := fL_eq r h0
  rw [← hm] at hbel hL
  have hb1 : 1 ≤ bits m := by rw [bits_pos (by omega)]; omega
  have hb2 : bits m ≤ 53 := bits_le (k := 53) m1
  have hE : r / 4503599627370496 - 1 ≤ 2045 := by omega
  have ls := log_shift (bits m - 1 + (r / 4503599627370496 - 1) + 6) ((bits m : Int) - 1 + e) (by omega) (by omega)
  have hLg : 700 ≤ logOf (bits m - 1 + (r / 4503599627370496 - 1) + 6) := by unfold logOf; omega
  obtain ⟨c, hc⟩ : ∃ c, logOf (bits m - 1 + (r / 4503599627370496 - 1) + 6) = c + 17 := ⟨_ - 17, (Nat.sub_add_cancel (by omega)).symm⟩
  obtain ⟨f1, f2, f3, f4⟩ := span_fits h0 hr (c := c) rfl (by rw [← hm]; exact hc)
  obtain ⟨t, ht⟩ : ∃ t : Int, t = ((bits m : Int) - 1 + e) * 1262611 / 4194304 - 17 := ⟨_, rfl⟩
  have hct : c = (t + 1080).toNat := by omega
  have t1 : -400 ≤ t := by omega
  have t2 : t ≤ 400 := by omega
  have hEe : (e + 1074).toNat = r / 4503599627370496 - 1 := by omega
  have hs : step r = 2 ^ (e + 1074).toNat := by rw [hEe]; rfl
  have hX : fX r = 4 * m * 2 ^ (e + 1074).toNat * wF := by unfold fX fval; rw [hm, hs]
  have hH : fH r = (4 * m + 2) * 2 ^ (e + 1074).toNat * wF := by unfold fH mid; rw [hm, hs]
  rw [hs] at hL
  have hpar : m % 2 = r % 2 := by rw [hm]; exact mant_par r
  have HC := spanOf_any w m (bits m) e t rfl ht m1 m0 (by omega) (by omega) bel (by omega) (fL r) (fX r) (fH r) c hL hX hH hct (by omega) (by omega) (by omega) (by have := (below_of r h0).2; have : fX r / 10 ^ c ≤ fH r / 10 ^ c := Nat.div_le_div_right (by omega); omega)
  rw [hpar] at HC
  refine ⟨t, c, sLow r c, fX r / 10 ^ c, sHigh r c, _, hct, t1, t2, rfl, rfl, rfl, rfl, f1, by omega, ?_, ?_, HC⟩
  · unfold sLow
    split <;> omega
  · unfold sHigh
    omega
end Go.Proofs.YtobbbhmkcmbekaaDoor.bigs
