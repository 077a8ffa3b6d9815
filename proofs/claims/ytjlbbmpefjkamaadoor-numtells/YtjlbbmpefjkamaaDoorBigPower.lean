/- The walks of the document's answer: Power, Halvings. -/
import Derived.Test.YtjlbbmpefjkamaaDoorBigTold
set_option linter.unusedVariables false
namespace Go.Proofs.YtjlbbmpefjkamaaDoor.bigs
open Go.RowKit

theorem pow_len {b e : Nat} (hb : b < 18446744073709551616) : (dig (b ^ e)).length ≤ 5 * e + 1 := by
  apply dig_length_le
  have h1 : b ^ e ≤ (10000 ^ 5) ^ e := Nat.pow_le_pow_left (Nat.le_trans (Nat.le_of_lt hb) (by decide)) _
  rw [← Nat.pow_mul] at h1
  have h2 : 10000 ^ (5 * e) < 10000 ^ (5 * e + 1) := Nat.pow_lt_pow_right (by omega) (by omega)
  omega
theorem small_c1 (w : World) : Calls Tryd.prog 30 #[.int .u64 1] w fun e w' => ∃ v, e = .returned v ∧ Lies w' v 1 ∧ Fresh w.heap.size v ∧ Below w.heap.size w w' := small_any 1 w (by decide)

set_option maxHeartbeats 8000000 in
set_option maxRecDepth 100000 in
theorem power_any (w : World) (b N : Nat) (hb : b < 18446744073709551616) (hN : N ≤ 50000) :
    Calls Tryd.prog 20 #[.int .u64 b, .int .i64 N] w fun e w' => ∃ v, e = .returned v ∧ Lies w' v (b ^ N) ∧ Below w.heap.size w w' := by
  go_enter Tryd.func20, Tryd.ntmps20
  go_wp2_with fail
  refine (small_c1 w).mono ?_
  rintro e w1 ⟨v1, rfl, hL1, _, b1⟩
  go_wp2_with fail
  refine (small_any b w1 hb).mono ?_
  rintro e w2 ⟨v2, rfl, hL2, _, b2⟩
  have b12 := b1.trans (b2.mono b1.size)
  have hL1' := hL1.below b2
  clear hL1 b1 b2
  go_wp2_with fail
  go_loopw [1, 5, 6] (fun nn vo vx wr => ∃ (k f e : Nat), nn = .int .i64 k ∧ Hid (f + e * k = N) ∧ k ≤ N ∧ e ≤ 100001 ∧ f ≤ N ∧ Lies wr vo (b ^ f) ∧ Lies wr vx (b ^ e) ∧ Below w.heap.size w wr) (fun nn _ _ _ => (intOf nn).toNat)
  case atStart => exact ⟨N, 0, 1, rfl, by show _ = _; omega, by omega, by omega, by omega, by rw [Nat.pow_zero]; exact hL1', by rw [Nat.pow_one]; exact hL2, b12⟩
  case round =>
    clear hL1' hL2 b12
    obtain ⟨k, f, e, rfl, hfe, hk, he, hf, hLo, hLx, hbw⟩ := hrel
    by_cases h0 : k = 0
    · subst h0
      have e1 : f = N := by have := hfe.out; omega
      subst e1
      clear hfe
      go_wp2
      go_ret
      exact ⟨_, rfl, hLo, hbw⟩
    · have hek : e ≤ N := by
        have h1 := hfe.out
        have h2 : e * 1 ≤ e * k := Nat.mul_le_mul_left _ (by omega)
        omega
      have l1 := pow_len (e := f) hb
      have l2 := pow_len (e := e) hb
      have KX : ∀ (u : World), Lies u u6 (b ^ e) → Hid _ := fun u h => hide (by_any u u6 u6 (b ^ e) (b ^ e) (by omega) (by omega) h h)
      rw [← Nat.pow_add] at KX
      by_cases hodd : k % 2 = 1
      · have KO := hide (by_any wr u5 u6 (b ^ f) (b ^ e) (by omega) (by omega) hLo hLx)
        rw [← Nat.pow_add] at KO
        have hfe2 : Hid ((f + e) + (e + e) * (k / 2) = N) := by
          show _ = _
          have h1 := hfe.out
          have h2 : k = 2 * (k / 2) + 1 := by omega
          rw [h2, Nat.mul_add, Nat.mul_one, ← Nat.mul_assoc, Nat.mul_comm e 2, Nat.two_mul] at h1
          omega
        have hf2 : f + e ≤ N := by have := hfe2.out; omega
        have t1 : ((k : Int) % 2 == 1) = true := by simp; omega
        clear hfe
        go_wp2_with fail
        refine (unhide KO).mono ?_
        rintro e' w3 ⟨v3, rfl, hL3, _, b3⟩
        go_wp2_with fail
        refine (unhide (KX w3 (hLx.below b3))).mono ?_
        rintro e' w4 ⟨v4, rfl, hL4, _, b4⟩
        have b34 := b3.trans (b4.mono b3.size)
        have hL3' := hL3.below b4
        have hbw4 := hbw.trans (b34.mono hbw.size)
        clear KX KO hL3 b3 b4 b34 hbw hLo hLx
        go_wp2
        go_roundw
        case rel => exact ⟨k / 2, f + e, e + e, by go_num, hfe2, by omega, by omega, hf2, hL3', hL4, hbw4⟩
        case measure => simp only [intOf]; omega
      · have hfe2 : Hid (f + (e + e) * (k / 2) = N) := by
          show _ = _
          have h1 := hfe.out
          have h2 : k = 2 * (k / 2) := by omega
          rw [h2, ← Nat.mul_assoc, Nat.mul_comm e 2, Nat.two_mul] at h1
          omega
        have t1 : ((k : Int) % 2 == 1) = false := by simp; omega
        clear hfe
        go_wp2_with fail
        refine (unhide (KX wr hLx)).mono ?_
        rintro e' w4 ⟨v4, rfl, hL4, _, b4⟩
        have hLo' := hLo.below b4
        have hbw4 := hbw.trans (b4.mono hbw.size)
        clear KX b4 hbw hLo hLx
        go_wp2
        go_roundw
        case rel => exact ⟨k / 2, f, e + e, by go_num, hfe2, by omega, by omega, hf, hLo', hL4, hbw4⟩
        case measure => simp only [intOf]; omega

/-- How many bits a number needs. -/
def bitsG : Nat → Nat → Nat
  | 0, _ => 0
  | f + 1, n => if n = 0 then 0 else bitsG f (n / 2) + 1
theorem bitsG_zero (f : Nat) : bitsG f 0 = 0 := by cases f <;> rfl
theorem bitsG_same (n : Nat) : ∀ (f g : Nat), n ≤ f → n ≤ g → bitsG f n = bitsG g n := by
  induction n using Nat.strongRecOn with
  | ind n ih =>
    intro f g hf hg
    by_cases h : n = 0
    · rw [h, bitsG_zero, bitsG_zero]
    · obtain ⟨f', rfl⟩ : ∃ f', f = f' + 1 := ⟨f - 1, by omega⟩
      obtain ⟨g', rfl⟩ : ∃ g', g = g' + 1 := ⟨g - 1, by omega⟩
      rw [bitsG, bitsG, if_neg h, if_neg h, ih (n / 2) (by omega) f' g' (by omega) (by omega)]
def bits (n : Nat) : Nat := bitsG n n
theorem bits_zero : bits 0 = 0 := rfl
theorem bits_pos {n : Nat} (h : n ≠ 0) : bits n = bits (n / 2) + 1 := by
  obtain ⟨m, rfl⟩ : ∃ m, n = m + 1 := ⟨n - 1, by omega⟩
  unfold bits
  rw [bitsG, if_neg h, bitsG_same ((m + 1) / 2) m ((m + 1) / 2) (by omega) (Nat.le_refl _)]
theorem bits_le {n k : Nat} (h : n < 2 ^ k) : bits n ≤ k := by
  induction k generalizing n with
  | zero =>
    have : n = 0 := by simpa using h
    subst this
    rw [bits_zero]
    exact Nat.le_refl _
  | succ k ih =>
    by_cases h0 : n = 0
    · subst h0; rw [bits_zero]; omega
    · rw [bits_pos h0]
      have : n / 2 < 2 ^ k := by rw [Nat.pow_succ] at h; omega
      have := ih this
      omega
theorem bits_len (n : Nat) : bits n ≤ 14 * (dig n).length := by
  apply bits_le
  have h1 := lt_pow_dig n
  have h2 : 10000 ^ (dig n).length ≤ (2 ^ 14) ^ (dig n).length := Nat.pow_le_pow_left (by decide) _
  rw [← Nat.pow_mul] at h2
  omega

end Go.Proofs.YtjlbbmpefjkamaaDoor.bigs
