/- The walks of the document's answer: Power, Halvings. -/
import Derived.Test.YtobbbhmkcmbekaaBigTold
set_option linter.unusedVariables false
namespace Go.Proofs.Ytobbbhmkcmbekaa.bigs
open Go.RowKit

theorem pow_len {b e : Nat} (hb : b < 18446744073709551616) : (dig (b ^ e)).length ≤ 5 * e + 1 := by
  apply dig_length_le
  have h1 : b ^ e ≤ (10000 ^ 5) ^ e := Nat.pow_le_pow_left (Nat.le_trans (Nat.le_of_lt hb) (by decide)) _
  rw [← Nat.pow_mul] at h1
  have h2 : 10000 ^ (5 * e) < 10000 ^ (5 * e + 1) := Nat.pow_lt_pow_right (by omega) (by omega)
  omega
theorem small_c1 (w : World) : Calls Try.prog 13 #[.int .u64 1] w fun e w' => ∃ v, e = .returned v ∧ Lies w' v 1 ∧ Fresh w.heap.size v ∧ Below w.heap.size w w' := small_any 1 w (by decide)

set_option maxHeartbeats 8000000 in
set_option maxRecDepth 100000 in
theorem power_any (w : World) (b N : Nat) (hb : b < 18446744073709551616) (hN : N ≤ 50000) :
    Calls Try.prog 17 #[.int .u64 b, .int .i64 N] w fun e w' => ∃ v, e = .returned v ∧ Lies w' v (b ^ N) ∧ Below w.heap.size w w' := by
  go_enter Try.func17, Try.ntmps17
  go_wp2_with fail
  refine (small_c1 w).mono ?_
  rintro e w1 ⟨v1, rfl, hL1, _, b1⟩
  go_wp2_with fail
  refine (small_any b w1 hb).mono ?_
  rintro e w2 ⟨v2, rfl, hL2, _, b2⟩
  have b12 := b1.trans (b2.mono b1.size)
  have hL1' := hL1.below b2
  clear hL1 b1 b2
  go_wp2_with fail
  go_loopw [1, 5, 6] (fun nn vo vx wr => ∃ (k f e : Nat), nn = .int .i64 k ∧ Hid (f + e * k = N) ∧ k ≤ N ∧ e ≤ 100001 ∧ f ≤ N ∧ Lies wr vo (b ^ f) ∧ Lies wr vx (b ^ e) ∧ Below w.heap.size w wr) (fun nn _ _ _ => (intOf nn).toNat)
  case atStart => exact ⟨N, 0, 1, rfl, by show _ = _; omega, by omega, by omega, by omega, by rw [Nat.pow_zero]; exact hL1', by rw [Nat.pow_one]; exact hL2, b12⟩
  case round =>
    clear hL1' hL2 b12
    obtain ⟨k, f, e, rfl, hfe, hk, he, hf, hLo, hLx, hbw⟩ := hrel
    by_cases h0 : k = 0
    · subst h0
      have e1 : f = N := by have := hfe.out; omega
      subst e1
      clear hfe
      go_wp2
      go_ret
      exact ⟨_, rfl, hLo, hbw⟩
    · have hek : e ≤ N := by
        have h1 := hfe.out
        have h2 : e * 1 ≤ e * k := Nat.mul_le_mul_left _ (by omega)
        omega
      have l1 := pow_len (e := f) hb
      have l2 := pow_len (e := e) hb
      have KX : ∀ (u : World), Lies u u6 (b ^ e) → Hid _ := fun u h => hide (by_any u u6 u6 (b ^ e) (b ^ e) (by omega) (by omega) h h)
      rw [← Nat.pow_add] at KX
      by_cases hodd : k % 2 = 1
      · have KO := hide (by_any wr u5 u6 (b ^ f) (b ^ e) (by omega) (by omega) hLo hLx)
        rw [← Nat.pow_add] at KO
        have hfe2 : Hid ((f + e) + (e + e) * (k / 2) = N) := by
          show _ = _
          have h1 := hfe.out
          have h2 : k = 2 * (k / 2) + 1 := by omega
          rw [h2, Nat.mul_add, Nat.mul_one, ← Nat.mul_assoc, Nat.mul_comm e 2, Nat.two_mul] at h1
          omega
        have hf2 : f + e ≤ N := by have := hfe2.out; omega
        have t1 : ((k : Int) % 2 == 1) = true := by simp; omega
        clear hfe
        go_wp2_with fail
        refine (unhide KO).mono ?_
        rintro e' w3 ⟨v3, rfl, hL3, _, b3⟩
        go_wp2_with fail
        refine (unhide (KX w3 (hLx.below b3))).mono ?_
        rintro e' w4 ⟨v4, rfl, hL4, _, b4⟩
        have b34 := b3.trans (b4.mono b3.size)
        have hL3' := hL3.below b4
        have hbw4 := hbw.trans (b34.mono hbw.size)
        clear KX KO hL3 b3 b4 b34 hbw hLo hLx
        go_wp2
        go_roundw
        case rel => exact ⟨k / 2, f + e, e + e, by go_num, hfe2, by omega, by omega, hf2, hL3', hL4, hbw4⟩
        case measure => simp only [intOf]; omega
      · have hfe2 : Hid (f + (e + e) * (k / 2) = N) := by
          show _ = _
          have h1 := hfe.out
          have h2 : k = 2 * (k / 2) := by omega
          rw [h2, ← Nat.mul_assoc, Nat.mul_comm e 2, Nat.two_mul] at h1
          omega
        have t1 : ((k : Int) % 2 == 1) = false := by simp; omega
        clear hfe
        go_wp2_with fail
        refine (unhide (KX wr hLx)).mono ?_
        rintro e' w4 ⟨v4, rfl, hL4, _, b4⟩
        have hLo' := hLo.below b4
        have hbw4 := hbw.trans (b4.mono hbw.size)
        clear KX b4 hbw hLo hLx
        go_wp2
        go_roundw
        case rel => exact ⟨k / 2, f, e + e, by go_num, hfe2, by omega, by omega, hf, hLo', hL4, hbw4⟩
        case measure => simp only [intOf]; omega

/-- How many bits a number needs. -/
def bitsG : Nat → Nat → Nat
  | 0, _ => 0
  | f + 1, n => if n = 0 then 0 else bitsG f (n / 2) + 1
theorem bitsG_zero (f : Nat) : bitsG f 0 = 0 := by cases f <;> rfl
theorem bitsG_same (n : Nat) : ∀ (f g : Nat), n ≤ f → n ≤ g → bitsG f n = bitsG g n := by
  induction n using Nat.strongRecOn with
  | ind n ih =>
    intro f g hf hg
    by_cases h : n = 0
    · rw [h, bitsG_zero, bitsG_zero]
    · obtain ⟨f', rfl⟩ : ∃ f', f = f' + 1 := ⟨f - 1, by omega⟩
      obtain ⟨g', rfl⟩ : ∃ g', g = g' + 1 := ⟨g - 1, by omega⟩
      rw [bitsG, bitsG, if_neg h, if_neg h, ih (n / 2) (by omega) f' g' (by omega) (by omega)]
def bits (n : Nat) : Nat := bitsG n n
theorem bits_zero : bits 0 = 0 := rfl
theorem bits_pos {n : Nat} (h : n ≠ 0) : bits n = bits (n / 2) + 1 := by
  obtain ⟨m, rfl⟩ : ∃ m, n = m + 1 := ⟨n - 1, by omega⟩
  unfold bits
  rw [bitsG, if_neg h, bitsG_same ((m + 1) / 2) m ((m + 1) / 2) (by omega) (Nat.le_refl _)]
theorem bits_le {n k : Nat} (h : n < 2 ^ k) : bits n ≤ k := by
  induction k generalizing n with
  | zero =>
    have : n = 0 := by simpa using h
    subst this
    rw [bits_zero]
    exact Nat.le_refl _
  | succ k ih =>
    by_cases h0 : n = 0
    · subst h0; rw [bits_zero]; omega
    · rw [bits_pos h0]
      have : n / 2 < 2 ^ k := by rw [Nat.pow_succ] at h; omega
      have := ih this
      omega
theorem bits_len (n : Nat) : bits n ≤ 14 * (dig n).length := by
  apply bits_le
  have h1 := lt_pow_dig n
  have h2 : 10000 ^ (dig n).length ≤ (2 ^ 14) ^ (dig n).length := Nat.pow_le_pow_left (by decide) _
  rw [← Nat.pow_mul] at h2
  omega

set_option maxHeartbeats 8000000 in
set_option maxRecDepth 100000 in
theorem halvings_any (w : World) (va : Value) (n : Nat) (hn : (dig n).length ≤ 1000000) (ha : Lies w va n) :
    Calls Try.prog 6 #[va] w fun e w' => e = .returned (.int .i64 (bits n)) ∧ Below w.heap.size w w' := by
  obtain ⟨i0, hi, hz0, hz1, hz2⟩ := info_parts infoInt
  have hbl := bits_len n
  go_enter Try.func6, Try.ntmps6
  go_wp2
  go_loopw [0, 3] (fun va v wr => ∃ (k c : Nat), Lies wr va k ∧ k ≤ n ∧ v = .int .i64 c ∧ Hid (c + bits k = bits n) ∧ Below w.heap.size w wr ∧ slen va = (dig k).length) (fun _ v _ => bits n + 1 - (intOf v).toNat)
  case atStart => exact ⟨n, 0, ha, Nat.le_refl _, rfl, by show _ = _; omega, Below.refl _ _, by obtain ⟨a, c, rfl, _⟩ := ha; rfl⟩
  case round =>
    obtain ⟨k, c, hL, hkn, rfl, hc, hbw, _⟩ := hrel
    obtain ⟨aa, ca, rfl, hca, ra⟩ := hL
    by_cases h0 : k = 0
    · subst h0
      have e : c = bits n := by have := hc.out; rw [bits_zero] at this; omega
      subst e
      rw [dig_zero]
      clear hc ra hca
      go_wp2
      go_ret
      exact ⟨rfl, hbw⟩
    · have hcb : Hid (c + 1 + bits (k / 2) = bits n) := by have := hc.out; rw [bits_pos h0] at this; show _ = _; omega
      have hcn : c + 1 ≤ bits n := by have := hcb.out; omega
      have hkl : (dig k).length ≤ 1000000 := Nat.le_trans (dig_len_mono hkn) hn
      have hpos : 0 < (dig k).length := by
        cases e : dig k with
        | nil => exact absurd (dig_nil.1 e) h0
        | cons x r => simp
      have sa := small_dig k
      have HV : Hid (val ((dig k).drop 0) = k) := by show _ = _; rw [List.drop_zero, val_dig]
      clear hc
      generalize dig k = A at *
      go_wp2_with (at_make; refine wpList_make_full _ rfl _ _ 27 rfl wr.heap.size 3 i0 (.int .i64 0) 1 Try.underlying27 hi hz0 hz1 _ _ _ _ A.length rfl rfl (by omega) (by omega) ?b2 ?b3 ?b4 ?_)
      case b2 => rw [hz2]; omega
      case b3 => unfold maxLen; omega
      case b4 => exact Nat.le_refl _
      intro w1 hown1 hgrow1
      rw [made_zero] at hown1
      have hb1 : Below wr.heap.size wr w1 := (Below.refl _ wr).grown hgrow1 (Nat.le_refl _) (fun k h => by cases h)
      clear hgrow1
      have RB : Hid (∀ wq, Below wr.heap.size wr wq → Row wq aa A) := fun wq h => ra.below h
      have WB : Hid (∀ wq, Below wr.heap.size wr wq → Below w.heap.size w wq) := fun wq h => hbw.trans (h.mono hbw.size)
      clear ra hbw
      go_wp2_with fail
      generalize wr.heap.size = g0 at *
      go_loopw [5, 6] (fun q i wq => ∃ (j p : Nat) (l : List Nat), i = .int .i64 ((j : Int) - 1) ∧ q = .int .i64 p ∧ p ≤ 1 ∧ j ≤ A.length ∧ l.length = A.length ∧ Hid (Small10 l) ∧ Hid (val (A.drop j) = 2 * val (l.drop j) + p) ∧
        wq.ownsRow g0 3 1 (.slice (some ⟨g0, 0, none⟩) A.length A.length) A.length (l.map num) ∧ Below g0 wr wq) (fun _ i _ => (intOf i + 1).toNat)
      case atStart =>
        refine ⟨A.length, 0, List.replicate A.length 0, rfl, rfl, by omega, Nat.le_refl _, by simp, small_zero _, ?_, hown1, hb1⟩
        show _ = _
        rw [List.drop_of_length_le (Nat.le_refl _), List.drop_of_length_le (by simp)]
        simp [val]
      case round =>
        clear hown1 hb1
        obtain ⟨j, p, l, rfl, rfl, hp, hj, hll, hsm, hval, hown, hb⟩ := hrel
        cases j with
        | zero =>
          have e : val l = k / 2 := by
            have h := hval.out
            rw [HV.out, List.drop_zero] at h
            omega
          obtain ⟨g, cap, hv, hc, hr⟩ := row_own (l := l) (w := wr) (base := g0) (v := .slice (some ⟨g0, 0, none⟩) A.length A.length) (by rw [hll]; exact hown)
          have k1 := cut_any wr g l cap (by omega) hc hr hsm.out
          rw [← hv, e] at k1
          have K1 := hide k1
          have hbw := WB.out _ hb
          clear k1 hval hown hr hsm hv hc e HV RB WB hb
          go_wp2_with fail
          refine (unhide K1).mono ?_
          rintro e w2 ⟨v, rfl, hL, _, rfl⟩
          obtain ⟨a2, c2, rfl, hc2, r2⟩ := hL
          go_wp2
          go_roundw
          case rel => exact ⟨k / 2, c + 1, ⟨a2, c2, rfl, hc2, r2⟩, by omega, by go_num, hcb, hbw, rfl⟩
          case measure => simp only [intOf]; omega
        | succ j =>
          have e0 : ((j + 1 : Nat) : Int) - 1 = (j : Int) := by omega
          rw [e0]
          obtain ⟨b, o, rfl, hbb, hc⟩ := RB.out _ hb (by intro e; rw [e] at hj; simp at hj)
          have c1 := hc j (by omega)
          have hx := small_getD sa j
          have c2 : wr.cell? ⟨g0, j, none⟩ = some (.int .i64 ((l.getD j 0 : Nat) : Int)) := by
            rw [hown.cellAt j (by omega)]
            simp [num, List.getD, show j < l.length by omega]
          have f2 := hown.frozenAt j
          have hval2 : Hid (val (A.drop j) = 2 * val ((l.set j ((p * 10000 + A.getD j 0) / 2)).drop j) + (p * 10000 + A.getD j 0) % 2) := by
            show _ = _
            rw [drop_set_val l j _ (by omega), drop_val A j, hval.out]
            omega
          have hsm2 : Hid (∀ d, d < 10000 → Small10 (l.set j d)) := fun d h => small_set hsm.out h
          clear hc hval hsm HV
          generalize A.getD j 0 = x at *
          go_wp2
          go_roundw
          case rel =>
            have hst := hown.stored j (num ((p * 10000 + x) / 2))
            refine ⟨j, (p * 10000 + x) % 2, l.set j ((p * 10000 + x) / 2), rfl, by go_num, by omega, by omega, by simp [hll], hsm2.out _ (by omega), hval2, ?_, ?_⟩
            · have ed : (((p : Int) * 10000 + (x : Int)) / 2) = (((p * 10000 + x) / 2 : Nat) : Int) := by omega
              rw [ed, List.map_set]
              exact hst.1
            · exact hb.setCell (Nat.le_refl _) _
          case measure => simp only [intOf]; omega
end Go.Proofs.Ytobbbhmkcmbekaa.bigs
