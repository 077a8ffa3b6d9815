/- The walks of package big: Shift, Pow. -/
import Derived.Test.YtgfleflfahabeaaWordMod
import Derived.Test.YtgfleflfahabeaaBigDecs
set_option linter.unusedVariables false
namespace Go.Proofs.Ytgfleflfahabeaa.bigs
open Go.RowKit

set_option maxHeartbeats 4000000 in
theorem shiftUp_any (w : World) (v : Value) (l : List Nat) (n : Nat) (hv : WSl w v l) (sl : Words32 l) (ll : l.length ≤ 300000) (hn : n ≤ 4000) :
    Calls Try.prog 25 #[v, .int .i64 n] w fun e w' => ∃ v', e = .returned (.tuple #[v', .int .i64 0]) ∧ WBig w' v' (wval l * 2 ^ n) ∧ Below w.heap.size w w' := by
  have K1 := hide (wcut_big w v l (by omega) hv sl)
  have hl1 : (wdig (wval l)).length ≤ 300000 := Nat.le_trans (wdig_len_words sl) ll
  have hn1 : ¬ (4000 < (n : Int)) := by omega
  have hn2 : (0 : Int) ≤ (n : Int) := by omega
  generalize hT : wval l * 2 ^ n = T at *
  have HT := hide hT
  clear hT
  go_enter Try.func25, Try.ntmps25
  go_wp2_with fail
  refine (unhide K1).mono ?_
  rintro e w1 ⟨v1, rfl, hv1, _, rfl⟩
  have k2 := shiftLeft_any w1 v1 (wdig (wval l)) n hv1 (words_wdig _) (by omega) (by omega)
  rw [wval_wdig, unhide HT] at k2
  have K2 := hide k2
  clear k2 K1 hv1 hv
  go_wp2_with fail
  refine (unhide K2).mono ?_
  rintro e w2 ⟨L, rfl, hL, sL, hvL, own2, b2⟩
  have K3 := hide (wcut_big w2 _ L (by omega) ⟨_, _, rfl, Nat.le_refl _, own2.row⟩ sL)
  rw [hvL] at K3
  clear K2 hL hvL sL own2
  go_wp2_with fail
  refine (unhide K3).mono ?_
  rintro e w3 ⟨v3, rfl, hv3, _, rfl⟩
  have H3 := hide hv3
  clear hv3 K3
  go_wp2
  go_ret2
  exact ⟨_, rfl, unhide H3, b2⟩
theorem shiftLarge_any (w : World) (v : Value) (n : Int) (hn : 4000 < n) :
    Calls Try.prog 25 #[v, .int .i64 n] w fun e w' => ∃ a cap, e = .returned (.tuple #[.slice a 0 cap, .int .i64 2]) ∧ Below w.heap.size w w' := by
  go_enter Try.func25, Try.ntmps25
  go_wp2
  go_ret2
  exact ⟨_, _, rfl, Below.refl _ _⟩
theorem down_parts (l n : Nat) : l / 2 ^ n = l / 4294967296 ^ (n / 32) / 2 ^ (n % 32) := by
  rw [Nat.div_div_eq_div_mul, show (4294967296 : Nat) = 2 ^ 32 from rfl, ← Nat.pow_mul, ← Nat.pow_add, Nat.div_add_mod]
theorem RowU.drop {w : World} {b o : Nat} {l : List Nat} (h : RowU w (some ⟨b, o, none⟩) l) (k : Nat) (hk : k < l.length) : RowU w (some ⟨b, o + k, none⟩) (l.drop k) := by
  intro h0
  obtain ⟨b', o', e, hlt, hc⟩ := h (by intro e; rw [e] at hk; simp at hk)
  cases e
  refine ⟨b, o + k, rfl, hlt, fun j hj => ?_⟩
  rw [List.length_drop] at hj
  have h1 := hc (k + j) (by omega)
  rw [Nat.add_assoc, h1]
  simp [List.getD]

set_option maxHeartbeats 4000000 in
theorem shiftDown_any (w : World) (v : Value) (l : List Nat) (n : Nat) (hv : WSl w v l) (sl : Words32 l) (ll : l.length ≤ 300000) (hn : n ≤ 9223372036854775808) (hpos : 0 < n) :
    Calls Try.prog 25 #[v, .int .i64 (-(n : Int))] w fun e w' => ∃ v', e = .returned (.tuple #[v', .int .i64 0]) ∧ WBig w' v' (wval l / 2 ^ n) ∧ Below w.heap.size w w' := by
  obtain ⟨aa, ca, rfl, hca, ra⟩ := hv
  have K1 := hide (wcut_any w aa l ca (by omega) hca ra sl)
  have rA := ra.cut sl
  have hl1 : (wdig (wval l)).length ≤ 300000 := Nat.le_trans (wdig_len_words sl) ll
  have hc1 : (wdig (wval l)).length ≤ ca := Nat.le_trans (wdig_len_words sl) hca
  have HT := hide (down_parts (wval l) n)
  generalize wval l / 2 ^ n = T at *
  have hn1 : ¬ (4000 < -(n : Int)) := by omega
  have hn2 : ¬ ((0 : Int) ≤ -(n : Int)) := by omega
  have q1 : Int.tdiv (-(n : Int)) 32 = -((n / 32 : Nat) : Int) := by rw [Int.neg_tdiv]; simp
  have q2 : Int.tmod (-(n : Int)) 32 = -((n % 32 : Nat) : Int) := by rw [Int.neg_tmod, Int.tmod_eq_emod_of_nonneg (by omega)]; simp
  have hm : n / 32 ≤ 288230376151711744 := by omega
  have hs : n % 32 < 32 := by omega
  have sD := words_wdig (wval l)
  have hD := wdrop_div (wdig (wval l)) (n / 32) sD
  rw [wval_wdig] at hD
  clear sl ra
  generalize n % 32 = s at *
  generalize n / 32 = m at *
  go_enter Try.func25, Try.ntmps25
  go_wp2_with fail
  refine (unhide K1).mono ?_
  rintro e w1 ⟨rfl, rfl⟩
  clear K1
  by_cases hge : (wdig (wval l)).length ≤ m
  · have hT0 : Hid (T = 0) := by
      show T = 0
      rw [unhide HT, ← hD, List.drop_of_length_le hge]
      exact Nat.zero_div _
    clear hD
    go_wp2
    go_ret2
    exact ⟨_, rfl, big_nil _ _ hT0.out, Below.refl _ _⟩
  · obtain ⟨b, o, rfl, hb, hc⟩ := rA (by intro e; rw [e] at hge; simp at hge)
    have rD := rA.drop m (by omega)
    have k2 := shiftRight_any w1 (.slice (some ⟨b, o + m, none⟩) ((wdig (wval l)).drop m).length (ca - m)) ((wdig (wval l)).drop m) s ⟨_, _, rfl, by rw [List.length_drop]; omega, rD⟩ (words_drop sD _) (by rw [List.length_drop]; omega) hs
    rw [hD, ← unhide HT] at k2
    have K2 := hide k2
    have hln : ((wdig (wval l)).drop m).length = (wdig (wval l)).length - m := List.length_drop
    rw [hln] at K2
    have hls : ((wdig (wval l)).drop m).length ≤ 300000 := by rw [List.length_drop]; omega
    clear k2 rD rA hc hD
    go_wp2_with fail
    refine (unhide K2).mono ?_
    rintro e w2 ⟨L, rfl, hL, sL, hvL, own2, b2⟩
    have K3 := hide (wcut_big w2 _ L (by omega) ⟨_, _, rfl, Nat.le_refl _, own2.row⟩ sL)
    rw [hvL] at K3
    clear K2 hL hvL sL own2
    go_wp2_with fail
    refine (unhide K3).mono ?_
    rintro e w3 ⟨v3, rfl, hv3, _, rfl⟩
    have H3 := hide hv3
    clear hv3 K3
    go_wp2
    go_ret2
    exact ⟨_, rfl, unhide H3, b2⟩

theorem mul_big (w : World) (v u : Value) (x y : Nat) (hv : WBig w v x) (hu : WBig w u y) (lx : (wdig x).length ≤ 400000) (ly : (wdig y).length ≤ 400000) :
    Calls Try.prog 19 #[v, u] w fun e w' => ∃ v', e = .returned v' ∧ WBig w' v' (x * y) ∧ Below w.heap.size w w' := by
  have h := mul_any w v u (wdig x) (wdig y) hv hu (words_wdig x) (words_wdig y) lx ly
  rwa [wval_wdig, wval_wdig] at h
theorem mul_word (w : World) (v u : Value) (x y : Nat) (hv : WBig w v x) (hu : WSl w u [y]) (hy : y < 4294967296) (lx : (wdig x).length ≤ 400000) :
    Calls Try.prog 19 #[v, u] w fun e w' => ∃ v', e = .returned v' ∧ WBig w' v' (x * y) ∧ Below w.heap.size w w' := by
  have h := mul_any w v u (wdig x) [y] hv hu (words_wdig x) (words_one hy) lx (by simp)
  rwa [wval_wdig, wval_one] at h
theorem pow_words {b k : Nat} (hb : b < 4294967296) : (wdig (b ^ k)).length ≤ k + 1 := by
  apply wdig_len_lt
  have h1 : b ^ k ≤ 4294967296 ^ k := Nat.pow_le_pow_left (by omega) _
  have h2 : 4294967296 ^ k < 4294967296 ^ (k + 1) := Nat.pow_lt_pow_right (by omega) (by omega)
  omega
theorem half_next (n i : Nat) : n / 2 ^ i = 2 * (n / 2 ^ (i + 1)) + n / 2 ^ i % 2 := by
  have e : n / 2 ^ (i + 1) = n / 2 ^ i / 2 := by rw [Nat.div_div_eq_div_mul, Nat.pow_succ]
  rw [e]
  omega
theorem and_one (x : Nat) (hx : x ≤ 1000) : Go.bits .and .i64 (x : Int) 1 = ((x % 2 : Nat) : Int) := by
  have h := bits_mask .i64 62 (by decide) (fun n h1 h2 => by simp [IntKind.wrap, IntKind.bits, IntKind.signed]; omega) 1 (by decide) (x : Int) (by omega) (by omega)
  have e : ((2 : Int) ^ 1 - 1) = 1 := by decide
  rw [e] at h
  rw [h]
  omega
theorem one_big (w : World) : WBig (w.alloc (.cells #[.int .u32 1] 27)) (.slice (some ⟨w.heap.size, 0, none⟩) 1 1) 1 := by
  have e : wdig 1 = [1] := by rw [wdig_pos (by omega)]; simp [wdig_zero]
  refine ⟨_, 1, by rw [e]; rfl, by rw [e]; simp, ?_⟩
  rw [e]
  exact lit_row w 1

set_option maxHeartbeats 4000000 in
set_option maxRecDepth 100000 in
theorem pow_any (w : World) (b n : Nat) (hb : b < 4294967296) (hn : n ≤ 1000) :
    Calls Try.prog 27 #[.int .u32 b, .int .i64 n] w fun e w' => ∃ v', e = .returned (.tuple #[v', .int .i64 0]) ∧ WBig w' v' (b ^ n) ∧ Below w.heap.size w w' := by
  have hn1 : ¬ ((n : Int) < 0) := by omega
  have hn2 : ¬ (1000 < (n : Int)) := by omega
  have KL : ∀ wz : World, Hid _ := fun wz => hide (lenU_small n wz (by omega))
  have hbits : bits n ≤ 10 := bits_le (k := 10) (by omega)
  have H0 : Hid (n / 2 ^ bits n = 0) := Nat.div_eq_of_lt (bits_lt n)
  generalize bits n = B at *
  have hb1 : Below w.heap.size w (w.alloc (.cells #[.int .u32 (b : Int)] 27)) := (Below.refl _ w).alloc (Nat.le_refl _) _
  have hb2 : Below w.heap.size w ((w.alloc (.cells #[.int .u32 (b : Int)] 27)).alloc (.cells #[.int .u32 1] 27)) := hb1.alloc hb1.size _
  have hbase : WSl ((w.alloc (.cells #[.int .u32 (b : Int)] 27)).alloc (.cells #[.int .u32 1] 27)) (.slice (some ⟨w.heap.size, 0, none⟩) 1 1) [b] := ⟨_, 1, rfl, by simp, (lit_row w b).below ((Below.refl _ _).alloc (Nat.le_refl _) _)⟩
  have hone := one_big (w.alloc (.cells #[.int .u32 (b : Int)] 27))
  have hsz : (w.alloc (.cells #[.int .u32 (b : Int)] 27)).heap.size = w.heap.size + 1 := by simp
  rw [hsz] at hone
  have HBASE := hide hbase
  have HONE := hide hone
  have HB2 := hide hb2
  have KZ := KL ((w.alloc (.cells #[.int .u32 (b : Int)] 27)).alloc (.cells #[.int .u32 1] 27))
  clear hbase hone hb2 hb1 hsz KL
  go_enter Try.func27, Try.ntmps27
  go_wp2_with fail
  refine (unhide KZ).mono ?_
  rintro e w1 ⟨rfl, hw1⟩
  subst hw1
  clear KZ
  go_wp2_with fail
  go_loopw [7, 8] (fun pv bit wr => ∃ j : Nat, bit = .int .i64 ((j : Int) - 1) ∧ j ≤ B ∧ Hid (WBig wr pv (b ^ (n / 2 ^ j))) ∧ Hid (WSl wr (.slice (some ⟨w.heap.size, 0, none⟩) 1 1) [b]) ∧ Below w.heap.size w wr) (fun _ bit _ => (intOf bit + 1).toNat)
  case atStart => exact ⟨B, rfl, Nat.le_refl _, by show WBig _ _ _; rw [H0.out]; exact unhide HONE, HBASE, unhide HB2⟩
  case round =>
    clear HONE HBASE HB2
    obtain ⟨j, rfl, hjB, hP, hBa, hbw⟩ := hrel
    cases j with
    | zero =>
      have HF : Hid (WBig wr u7 (b ^ n)) := by have h := hP.out; rwa [Nat.pow_zero, Nat.div_one] at h
      clear hP hBa
      go_wp2
      go_ret2
      exact ⟨_, rfl, unhide HF, hbw⟩
    | succ i =>
      have e0 : ((i + 1 : Nat) : Int) - 1 = (i : Int) := by omega
      rw [e0]
      have hm1 : n / 2 ^ (i + 1) ≤ n := Nat.div_le_self _ _
      have hl1 := pow_words (k := n / 2 ^ (i + 1)) hb
      have KM := hide (mul_big wr u7 u7 _ _ hP.out hP.out (by omega) (by omega))
      have hx := half_next n i
      have hx1 : n / 2 ^ i ≤ n := Nat.div_le_self _ _
      have hsh : (n : Int) / 2 ^ i = ((n / 2 ^ i : Nat) : Int) := by simp
      have hand := and_one (n / 2 ^ i) (by omega)
      have hpar : n / 2 ^ i % 2 = 0 ∨ n / 2 ^ i % 2 = 1 := by omega
      have hlp := pow_words (k := 2 * (n / 2 ^ (i + 1))) hb
      generalize n / 2 ^ (i + 1) = m at *
      rw [← Nat.pow_add, ← Nat.two_mul] at KM
      generalize hq : n / 2 ^ i = x at *
      have HQ := hide hq
      clear hq
      rcases hpar with h2 | h2
      · have HX : Hid (b ^ (2 * m) = b ^ (n / 2 ^ i)) := by show _ = _; rw [unhide HQ]; congr 1; omega
        rw [h2] at hand
        clear hP h2 hx
        go_wp2_with fail
        refine (unhide KM).mono ?_
        rintro e w2 ⟨v2, rfl, hv2, b2⟩
        have HV : Hid (WBig w2 v2 (b ^ (n / 2 ^ i))) := by show WBig _ _ _; rw [← HX.out]; exact hv2
        have HBa2 := hide ((unhide hBa).below b2)
        have hbw2 := hbw.trans (b2.mono hbw.size)
        clear hv2 KM b2
        go_wp2
        go_roundw
        case rel => exact ⟨i, by go_num, by omega, HV, HBa2, hbw2⟩
        case measure => simp only [intOf]; omega
      · have HX : Hid (b ^ (2 * m) * b = b ^ (n / 2 ^ i)) := by show _ = _; rw [unhide HQ, ← Nat.pow_succ]; congr 1; omega
        rw [h2] at hand
        clear hP h2
        go_wp2_with fail
        refine (unhide KM).mono ?_
        rintro e w2 ⟨v2, rfl, hv2, b2⟩
        have HBa2 := (unhide hBa).below b2
        have hbw2 := hbw.trans (b2.mono hbw.size)
        have k3 := mul_word w2 v2 _ _ b hv2 HBa2 hb (by omega)
        rw [HX.out] at k3
        have K3 := hide k3
        clear hv2 KM b2 k3 hx
        go_wp2_with fail
        refine (unhide K3).mono ?_
        rintro e w3 ⟨v3, rfl, hv3, b3⟩
        have HV := hide hv3
        have HBa3 := hide (HBa2.below b3)
        have hbw3 := hbw2.trans (b3.mono hbw2.size)
        clear hv3 K3 b3 HBa2
        go_wp2
        go_roundw
        case rel => exact ⟨i, by go_num, by omega, HV, HBa3, hbw3⟩
        case measure => simp only [intOf]; omega
theorem powNeg_any (w : World) (b : Nat) (n : Int) (hn : n < 0) :
    Calls Try.prog 27 #[.int .u32 b, .int .i64 n] w fun e w' => ∃ a cap, e = .returned (.tuple #[.slice a 0 cap, .int .i64 1]) ∧ Below w.heap.size w w' := by
  go_enter Try.func27, Try.ntmps27
  go_wp2
  go_ret2
  exact ⟨_, _, rfl, Below.refl _ _⟩
theorem powLarge_any (w : World) (b : Nat) (n : Int) (hn : 1000 < n) :
    Calls Try.prog 27 #[.int .u32 b, .int .i64 n] w fun e w' => ∃ a cap, e = .returned (.tuple #[.slice a 0 cap, .int .i64 2]) ∧ Below w.heap.size w w' := by
  have t0 : decide (n < 0) = false := decide_eq_false (by omega)
  have t1 : decide (1000 < n) = true := decide_eq_true hn
  go_enter Try.func27, Try.ntmps27
  go_wp2
  go_ret2
  exact ⟨_, _, rfl, Below.refl _ _⟩
end Go.Proofs.Ytgfleflfahabeaa.bigs
