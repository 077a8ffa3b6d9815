/- The walks of the document's answer: FloatParts, Nearest, NearestOf. -/
import Derived.Test.YtobbbhmkcmbekaaDoorFloatPlain
set_option linter.unusedVariables false
namespace Go.Proofs.YtobbbhmkcmbekaaDoor.bigs
open Go.RowKit

set_option maxHeartbeats 2000000 in
set_option maxRecDepth 100000 in
theorem parts_any (w : World) (b : Nat) (hb : b < 18446744073709551616) :
    Calls Tryd.prog 9 #[.int .u64 b] w fun e w' => e = .returned (.tuple #[.int .u64 (fparts b).1, .int .i64 (fparts b).2.1, .int .i64 (fparts b).2.2]) ∧ w' = w := by
  have n1 : (b : Int) % 4503599627370496 = ((b % 4503599627370496 : Nat) : Int) := by omega
  have n2 : (b : Int) / 4503599627370496 % 2048 = ((b / 4503599627370496 % 2048 : Nat) : Int) := by omega
  have h1 : b % 4503599627370496 < 4503599627370496 := by omega
  have h2 : b / 4503599627370496 % 2048 < 2048 := by omega
  unfold fparts
  generalize b % 4503599627370496 = f at *
  generalize b / 4503599627370496 % 2048 = e at *
  by_cases c1 : e = 2047
  · rw [if_pos c1]
    subst c1
    by_cases c2 : f = 0
    · rw [if_pos c2]
      subst c2
      go_enter Tryd.func9, Tryd.ntmps9
      go_wp2
      go_ret3
      exact ⟨rfl, rfl⟩
    · rw [if_neg c2]
      have c3 : ((f : Int) == 0) = false := beq_false_of_ne (by omega)
      go_enter Tryd.func9, Tryd.ntmps9
      go_wp2
      go_ret3
      exact ⟨rfl, rfl⟩
  · rw [if_neg c1]
    have c4 : ((e : Int) == 2047) = false := beq_false_of_ne (by omega)
    by_cases c2 : e = 0
    · rw [if_pos c2]
      subst c2
      go_enter Tryd.func9, Tryd.ntmps9
      go_wp2
      go_ret3
      refine ⟨?_, rfl⟩
      rw [← n1]
      rfl
    · rw [if_neg c2]
      have c3 : ((e : Int) == 0) = false := beq_false_of_ne (by omega)
      go_enter Tryd.func9, Tryd.ntmps9
      go_wp2
      go_ret3
      refine ⟨?_, rfl⟩
      first | rfl | (congr 3 <;> omega)

theorem sgn_ge' {m n : Nat} (h : n ≤ m) : ¬ sgn m n < 0 := by unfold sgn; rw [if_neg (by omega)]; split <;> omega
theorem x54 {N d : Nat} (h : N < d * 9007199254740992) : N < d * 2 ^ 54 :=
  Nat.lt_of_lt_of_le h (Nat.mul_le_mul_left d (by decide))
theorem small_num (n : Nat) (i : Int) (w : World) (h : i = (n : Int)) (hn : n < 18446744073709551616) : Calls Tryd.prog 32 #[.int .u64 i] w fun e w' => ∃ v, e = .returned v ∧ Lies w' v n ∧ Fresh w.heap.size v ∧ Below w.heap.size w w' := by
  subst h
  exact small_any n w hn

set_option maxHeartbeats 16000000 in
set_option maxRecDepth 100000 in
theorem nearest_any (w : World) (va vb : Value) (num den : Nat) (hm : (dig num).length ≤ 10000) (hn : (dig den).length ≤ 10000) (hn0 : num ≠ 0) (hd0 : den ≠ 0) (ha : Lies w va num) (hb : Lies w vb den) :
    Calls Tryd.prog 69 #[va, vb] w fun e w' => ∃ r : Nat, e = .returned (.int .u64 r) ∧ Near num den r ∧ r < 18446744073709551616 ∧ Below w.heap.size w w' := by
  have l52 : (dig 4503599627370496).length ≤ 5 := dig_length_le (by decide)
  have l53 : (dig 9007199254740992).length ≤ 5 := dig_length_le (by decide)
  have q1 := dig_prod_lenF den 4503599627370496
  have HL : Hid (∀ a, a ≤ 1074 → (dig (num * 2 ^ a)).length ≤ 16000) := fun a h => by
    have h1 := dig_prod_lenF num (2 ^ a)
    have h2 := pow_len (b := 2) (e := a) (by decide)
    omega
  go_enter Tryd.func69, Tryd.ntmps69
  go_wp2_with fail
  go_loopw [0, 5] (fun vn ve wr => ∃ a : Nat, ve = .int .i64 (-(a : Int)) ∧ a ≤ 1074 ∧ Hid (Lies wr vn (num * 2 ^ a)) ∧ Hid (Lies wr vb den) ∧ Hid (a = 0 ∨ num * 2 ^ (a - 1) < den * 4503599627370496) ∧ Below w.heap.size w wr) (fun _ ve _ => (1074 + intOf ve).toNat)
  case atStart => exact ⟨0, rfl, by omega, by show Lies _ _ _; rw [Nat.pow_zero, Nat.mul_one]; exact ha, hb, .inl rfl, Below.refl _ _⟩
  case round =>
    clear ha hb
    obtain ⟨a, rfl, haM, hLn, hLd, hcond, hbw⟩ := hrel
    have hla := HL.out a haM
    go_wp2_with fail
    refine (small_num 4503599627370496 _ wr rfl (by decide)).mono ?_
    rintro e w2 ⟨v2, rfl, hL2, _, b2⟩
    have hLn2 := (unhide hLn).below b2
    have hLd2 := (unhide hLd).below b2
    have hbw2 := hbw.trans (b2.mono hbw.size)
    clear hLn hLd hbw b2
    go_wp2_with fail
    refine (by_any _ _ _ den 4503599627370496 (by omega) (by omega) hLd2 hL2).mono ?_
    rintro e w3 ⟨v3, rfl, hL3, _, b3⟩
    have hLn3 := hLn2.below b3
    have hLd3 := hLd2.below b3
    have hbw3 := hbw2.trans (b3.mono hbw2.size)
    clear hLn2 hLd2 hbw2 b3 hL2
    by_cases hlt : num * 2 ^ a < den * 4503599627370496
    · go_wp2_with fail
      refine (against_any _ _ _ (num * 2 ^ a) (den * 4503599627370496) (by omega) (by omega) hLn3 hL3).mono ?_
      rintro e w4 ⟨rfl, rfl⟩
      rw [sgn_lt hlt]
      by_cases ha2 : a < 1074
      · have HC := hide hlt
        have i1 : (-1074 : Int) < -(a : Int) := by omega
        clear hlt hL3 hcond
        go_wp2_with fail
        refine (plus_any _ _ _ (num * 2 ^ a) (num * 2 ^ a) (by omega) (by omega) hLn3 hLn3).mono ?_
        rintro e w5 ⟨v5, rfl, hL5, _, b5⟩
        rw [double_next] at hL5
        have HN := hide hL5
        have HD := hide (hLd3.below b5)
        have hbw5 := hbw3.trans (b5.mono hbw3.size)
        clear hL5 hLn3 hLd3 hbw3 b5
        go_wp2
        go_roundw
        case rel => exact ⟨a + 1, by congr 1; omega, by omega, HN, HD, .inr (by rw [Nat.add_sub_cancel]; exact unhide HC), hbw5⟩
        case measure => simp only [intOf]; omega
      · have HA : Hid (a = 1074 ∨ den * 4503599627370496 ≤ num * 2 ^ a) := .inl (by omega)
        have i1 : ¬ (-1074 : Int) < -(a : Int) := by omega
        clear hlt ha2
        have hNl : (dig (num * 2 ^ a)).length ≤ 16000 := hla
        have HNE : Hid (∀ (b r : Nat), (b = 0 ∨ den * 2 ^ (b - 1) * 9007199254740992 ≤ num * 2 ^ a) → num * 2 ^ a < den * 2 ^ b * 9007199254740992 → r = packed (rnd (num * 2 ^ a) (den * 2 ^ b)) ((b : Int) - (a : Int)) → Near num den r) := fun b r h1 h2 h3 => ⟨a, b, haM, hcond.out, HA.out, h1, h2, h3⟩
        have HN := hide hLn3
        have HD := hide hLd3
        clear hLn3 hLd3 hL3 HA hcond HL hla q1 l52
        have hNp : 0 < num * 2 ^ a := Nat.mul_pos (by omega) (Nat.pow_pos (by omega))
        generalize num * 2 ^ a = N at *
        go_wp2_with fail
        go_loopw [1, 5] (fun vd ve wr => ∃ b d : Nat, ve = .int .i64 ((b : Int) - (a : Int)) ∧ Hid (d = den * 2 ^ b) ∧ Hid (Lies wr vd d) ∧ Hid (Lies wr u0 N) ∧ Hid (b = 0 ∨ den * 2 ^ (b - 1) * 9007199254740992 ≤ N) ∧ Hid (d ≤ N ∨ b = 0) ∧ b ≤ 300000 ∧ 0 < d ∧ Below w.heap.size w wr) (fun _ ve _ => (300001 - (a : Int) - intOf ve).toNat)
        case atStart => exact ⟨0, den, by congr 1; omega, by show _ = _; rw [Nat.pow_zero, Nat.mul_one], HD, HN, .inl rfl, .inr rfl, by omega, by omega, hbw3⟩
        case round =>
          clear HD HN hbw3
          obtain ⟨b, d, rfl, hdd, hLd, hLn, hcb, hdb, hb3, hdp, hbw⟩ := hrel
          have hdl : (dig d).length ≤ 16000 := by
            rcases hdb.out with h | h
            · exact Nat.le_trans (dig_len_mono h) hNl
            · have h2 := hdd.out
              rw [h, Nat.pow_zero, Nat.mul_one] at h2
              rw [h2]; omega
          have hpl := dig_prod_lenF d 9007199254740992
          go_wp2_with fail
          refine (small_num 9007199254740992 _ wr rfl (by decide)).mono ?_
          rintro e w12 ⟨v2, rfl, hL2, _, b2⟩
          have hLn2 := (unhide hLn).below b2
          have hLd2 := (unhide hLd).below b2
          have hbw2 := hbw.trans (b2.mono hbw.size)
          clear hLn hLd hbw b2
          go_wp2_with fail
          refine (by_any _ _ _ d 9007199254740992 (by omega) (by omega) hLd2 hL2).mono ?_
          rintro e w13 ⟨v3, rfl, hL3, _, b3⟩
          have hLn3 := hLn2.below b3
          have hLd3 := hLd2.below b3
          have hbw3 := hbw2.trans (b3.mono hbw2.size)
          clear hLn2 hLd2 hbw2 b3 hL2
          by_cases hge : d * 9007199254740992 ≤ N
          · have hs := sgn_ge' hge
            go_wp2_with fail
            refine (against_any _ _ _ N (d * 9007199254740992) (by omega) (by omega) hLn3 hL3).mono ?_
            rintro e w14 ⟨rfl, rfl⟩
            generalize sgn N (d * 9007199254740992) = sg at *
            have HC := hide hge
            have hb4 : b + 1 ≤ 300000 := by
              have h1 : 2 ^ b ≤ N := by
                have h2 : 1 * 2 ^ b ≤ den * 2 ^ b := Nat.mul_le_mul_right _ (by omega)
                rw [← hdd.out] at h2
                omega
              have h3 := log_len h1
              omega
            have hdb2 : Hid (d + d ≤ N ∨ b + 1 = 0) := .inl (by omega)
            have hdd2 : Hid (d + d = den * 2 ^ (b + 1)) := by show _ = _; rw [← double_next, ← hdd.out]
            have HCC : Hid (b + 1 = 0 ∨ den * 2 ^ (b + 1 - 1) * 9007199254740992 ≤ N) := .inr (by rw [Nat.add_sub_cancel, ← hdd.out]; exact hge)
            clear hge hL3 hcb hdb hdd HC
            go_wp2_with fail
            refine (plus_any _ _ _ d d (by omega) (by omega) hLd3 hLd3).mono ?_
            rintro e w15 ⟨v5, rfl, hL5, _, b5⟩
            have HD := hide hL5
            have HN := hide (hLn3.below b5)
            have hbw5 := hbw3.trans (b5.mono hbw3.size)
            clear hL5 hLn3 hLd3 hbw3 b5
            go_wp2
            go_roundw
            case rel => exact ⟨b + 1, d + d, by congr 1; omega, hdd2, HD, HN, HCC, hdb2, hb4, by omega, hbw5⟩
            case measure => simp only [intOf]; omega
          · have hlt2 : N < d * 9007199254740992 := by omega
            go_wp2_with fail
            refine (against_any _ _ _ N (d * 9007199254740992) (by omega) (by omega) hLn3 hL3).mono ?_
            rintro e w14 ⟨rfl, rfl⟩
            rw [sgn_lt hlt2]
            have HNB : Hid (∀ r : Nat, r = packed (rnd N d) ((b : Int) - (a : Int)) → Near num den r) := fun r h => HNE.out b r hcb.out (by rw [← hdd.out]; exact hlt2) (by rw [← hdd.out]; exact h)
            have HN := hide hLn3
            have HD := hide hLd3
            have HX := hide hlt2
            clear hcb hdb hL3 hge hlt2 HNE hLn3 hLd3 hpl hdd
            have hNd := hNl
            go_wp2_with fail
            go_loopw [0, 6, 7] (fun vn vq vi wr => ∃ (j q c : Nat), vi = .int .i64 ((j : Int) - 1) ∧ vq = .int .u64 q ∧ j ≤ 54 ∧ Hid (Lies wr vn c) ∧ Hid (Lies wr u1 d) ∧ Hid (c + q * d = N) ∧ Hid (c < d * 2 ^ j) ∧ q < 9007199254740992 ∧ Below w.heap.size w wr) (fun _ _ vi _ => (intOf vi + 1).toNat)
            case atStart => exact ⟨54, 0, N, rfl, rfl, by omega, HN, HD, by show _ = _; rw [Nat.zero_mul, Nat.add_zero], x54 (unhide HX), by omega, hbw3⟩
            case round =>
              clear HN HD hbw3
              obtain ⟨j, q, c, rfl, rfl, hj, hLc, hLd, hsum, hcl, hq, hbw⟩ := hrel
              have hcN : c ≤ N := by have h := hsum.out; omega
              have hcl2 : (dig c).length ≤ 16000 := Nat.le_trans (dig_len_mono hcN) hNd
              cases j with
              | zero =>
                have hc0 : c < d := by have h := hcl.out; rwa [Nat.pow_zero, Nat.mul_one] at h
                have hc2 : (dig (c + c)).length ≤ 32001 := by
                  have h := dig_prod_lenF 2 c
                  rw [Nat.two_mul] at h
                  have h2 : (dig 2).length ≤ 1 := dig_length_le (by decide)
                  omega
                clear hcl
                go_wp2_with fail
                refine (plus_any _ _ _ c c (by omega) (by omega) (unhide hLc) (unhide hLc)).mono ?_
                rintro e w21 ⟨v21, rfl, hL21, _, b21⟩
                have hLd21 := (unhide hLd).below b21
                have hbw21 := hbw.trans (b21.mono hbw.size)
                clear hLc hLd hbw b21
                go_wp2_with fail
                refine (against_any _ _ _ (c + c) d (by omega) (by omega) hL21 hLd21).mono ?_
                rintro e w22 ⟨rfl, rfl⟩
                have hsumo := hsum.out
                clear hL21 hLd21
                rcases Nat.lt_trichotomy (c + c) d with hl | he | hg
                · rw [sgn_lt hl]
                  have HR : Hid (rnd N d = q) := rnd_down hsumo hc0 (by omega)
                  clear hsumo hl hsum
                  have hQ : q ≤ 9007199254740992 := by omega
                  by_cases k1 : q = 9007199254740992
                  · have t1 : (((q : Int)) == (9007199254740992 : Int)) = true := by simp only [beq_iff_eq]; omega
                    have t1n : (q == 9007199254740992) = true := by simp only [beq_iff_eq]; exact k1
                    have K1 := hide k1
                    clear k1
                    by_cases k2 : 971 < (b : Int) - (a : Int) + 1
                    · have HF : Hid (Near num den 9218868437227405312) := HNB.out _ (by rw [HR.out]; unfold packed; rw [if_pos (unhide K1), if_pos k2])
                      go_wp2
                      go_ret
                      exact ⟨9218868437227405312, rfl, unhide HF, by omega, hbw21⟩
                    · have HF : Hid (Near num den (((b : Int) - (a : Int) + 1 + 1074).toNat * 4503599627370496 + 4503599627370496)) := HNB.out _ (by rw [HR.out]; unfold packed; rw [if_pos (unhide K1), if_neg k2])
                      obtain ⟨E, hE⟩ : ∃ E : Nat, (b : Int) - (a : Int) + 1 + 1074 = (E : Int) := ⟨((b : Int) - (a : Int) + 1 + 1074).toNat, by omega⟩
                      have hEl : E ≤ 2045 := by omega
                      rw [hE, Int.toNat_natCast] at HF
                      go_wp2
                      go_ret
                      exact ⟨E * 4503599627370496 + 4503599627370496, by congr 2, unhide HF, by omega, hbw21⟩
                  · have t1 : (((q : Int)) == (9007199254740992 : Int)) = false := beq_false_of_ne (by omega)
                    have t1n : (q == 9007199254740992) = false := beq_false_of_ne k1
                    by_cases k2 : 971 < (b : Int) - (a : Int)
                    · have HF : Hid (Near num den 9218868437227405312) := HNB.out _ (by rw [HR.out]; unfold packed; rw [if_neg k1, if_pos k2])
                      go_wp2
                      go_ret
                      exact ⟨9218868437227405312, rfl, unhide HF, by omega, hbw21⟩
                    · by_cases k3 : q < 4503599627370496
                      · have HF : Hid (Near num den (q)) := HNB.out _ (by rw [HR.out]; unfold packed; rw [if_neg k1, if_neg k2, if_pos k3])
                        have z0 : (0 : Int) ≤ (q : Int) := by omega
                        have z1 : ((q : Int) < (4503599627370496 : Int)) := by omega
                        have z2 : (q : Int) ≤ 9007199254740992 := by omega
                        have hr64 : q < 18446744073709551616 := by omega
                        have HR64 := hide hr64
                        clear k1 k3 hQ hr64 hq t1n
                        generalize hz : (q : Int) = Z at *
                        have HZ := hide hz
                        clear hz
                        go_wp2
                        go_ret
                        exact ⟨q, by rw [← unhide HZ]; congr 2, unhide HF, unhide HR64, hbw21⟩
                      · have HF : Hid (Near num den (((b : Int) - (a : Int) + 1074).toNat * 4503599627370496 + (q))) := HNB.out _ (by rw [HR.out]; unfold packed; rw [if_neg k1, if_neg k2, if_neg k3])
                        obtain ⟨E, hE⟩ : ∃ E : Nat, (b : Int) - (a : Int) + 1074 = (E : Int) := ⟨((b : Int) - (a : Int) + 1074).toNat, by omega⟩
                        have hEl : E ≤ 2045 := by omega
                        rw [hE, Int.toNat_natCast] at HF
                        have z0 : (0 : Int) ≤ (q : Int) := by omega
                        have z1 : ¬ ((q : Int) < (4503599627370496 : Int)) := by omega
                        have z2 : (q : Int) ≤ 9007199254740992 := by omega
                        have hr64 : E * 4503599627370496 + (q) < 18446744073709551616 := by omega
                        have HR64 := hide hr64
                        clear k1 k3 hQ hr64 hq t1n
                        generalize hz : (q : Int) = Z at *
                        have HZ := hide hz
                        clear hz
                        go_wp2
                        go_ret
                        exact ⟨E * 4503599627370496 + (q), by rw [← unhide HZ]; congr 2, unhide HF, unhide HR64, hbw21⟩
                · rw [sgn_eq he]
                  by_cases ho : q % 2 = 1
                  · have HR : Hid (rnd N d = q + 1) := rnd_up hsumo hc0 (.inr ⟨he, ho⟩)
                    have to : (((q : Int) % 2) == 1) = true := by simp only [beq_iff_eq]; omega
                    clear hsumo he hsum ho
                    have hQ : q + 1 ≤ 9007199254740992 := by omega
                    by_cases k1 : q + 1 = 9007199254740992
                    · have t1 : (((q : Int) + 1) == (9007199254740992 : Int)) = true := by simp only [beq_iff_eq]; omega
                      have t1n : (q + 1 == 9007199254740992) = true := by simp only [beq_iff_eq]; exact k1
                      have K1 := hide k1
                      clear k1
                      by_cases k2 : 971 < (b : Int) - (a : Int) + 1
                      · have HF : Hid (Near num den 9218868437227405312) := HNB.out _ (by rw [HR.out]; unfold packed; rw [if_pos (unhide K1), if_pos k2])
                        go_wp2
                        go_ret
                        exact ⟨9218868437227405312, rfl, unhide HF, by omega, hbw21⟩
                      · have HF : Hid (Near num den (((b : Int) - (a : Int) + 1 + 1074).toNat * 4503599627370496 + 4503599627370496)) := HNB.out _ (by rw [HR.out]; unfold packed; rw [if_pos (unhide K1), if_neg k2])
                        obtain ⟨E, hE⟩ : ∃ E : Nat, (b : Int) - (a : Int) + 1 + 1074 = (E : Int) := ⟨((b : Int) - (a : Int) + 1 + 1074).toNat, by omega⟩
                        have hEl : E ≤ 2045 := by omega
                        rw [hE, Int.toNat_natCast] at HF
                        go_wp2
                        go_ret
                        exact ⟨E * 4503599627370496 + 4503599627370496, by congr 2, unhide HF, by omega, hbw21⟩
                    · have t1 : (((q : Int) + 1) == (9007199254740992 : Int)) = false := beq_false_of_ne (by omega)
                      have t1n : (q + 1 == 9007199254740992) = false := beq_false_of_ne k1
                      by_cases k2 : 971 < (b : Int) - (a : Int)
                      · have HF : Hid (Near num den 9218868437227405312) := HNB.out _ (by rw [HR.out]; unfold packed; rw [if_neg k1, if_pos k2])
                        go_wp2
                        go_ret
                        exact ⟨9218868437227405312, rfl, unhide HF, by omega, hbw21⟩
                      · by_cases k3 : q + 1 < 4503599627370496
                        · have HF : Hid (Near num den (q + 1)) := HNB.out _ (by rw [HR.out]; unfold packed; rw [if_neg k1, if_neg k2, if_pos k3])
                          have z0 : (0 : Int) ≤ (q : Int) := by omega
                          have z1 : ((q : Int) + 1 < (4503599627370496 : Int)) := by omega
                          have z2 : (q : Int) ≤ 9007199254740992 := by omega
                          have hr64 : q + 1 < 18446744073709551616 := by omega
                          have HR64 := hide hr64
                          clear k1 k3 hQ hr64 hq t1n
                          generalize hz : (q : Int) = Z at *
                          have HZ := hide hz
                          clear hz
                          go_wp2
                          go_ret
                          exact ⟨q + 1, by rw [← unhide HZ]; congr 2, unhide HF, unhide HR64, hbw21⟩
                        · have HF : Hid (Near num den (((b : Int) - (a : Int) + 1074).toNat * 4503599627370496 + (q + 1))) := HNB.out _ (by rw [HR.out]; unfold packed; rw [if_neg k1, if_neg k2, if_neg k3])
                          obtain ⟨E, hE⟩ : ∃ E : Nat, (b : Int) - (a : Int) + 1074 = (E : Int) := ⟨((b : Int) - (a : Int) + 1074).toNat, by omega⟩
                          have hEl : E ≤ 2045 := by omega
                          rw [hE, Int.toNat_natCast] at HF
                          have z0 : (0 : Int) ≤ (q : Int) := by omega
                          have z1 : ¬ ((q : Int) + 1 < (4503599627370496 : Int)) := by omega
                          have z2 : (q : Int) ≤ 9007199254740992 := by omega
                          have hr64 : E * 4503599627370496 + (q + 1) < 18446744073709551616 := by omega
                          have HR64 := hide hr64
                          clear k1 k3 hQ hr64 hq t1n
                          generalize hz : (q : Int) = Z at *
                          have HZ := hide hz
                          clear hz
                          go_wp2
                          go_ret
                          exact ⟨E * 4503599627370496 + (q + 1), by rw [← unhide HZ]; congr 2, unhide HF, unhide HR64, hbw21⟩
                  · have HR : Hid (rnd N d = q) := rnd_down hsumo hc0 (by omega)
                    have to : (((q : Int) % 2) == 1) = false := beq_false_of_ne (by omega)
                    clear hsumo he hsum
                    have hQ : q ≤ 9007199254740992 := by omega
                    by_cases k1 : q = 9007199254740992
                    · have t1 : (((q : Int)) == (9007199254740992 : Int)) = true := by simp only [beq_iff_eq]; omega
                      have t1n : (q == 9007199254740992) = true := by simp only [beq_iff_eq]; exact k1
                      have K1 := hide k1
                      clear k1
                      by_cases k2 : 971 < (b : Int) - (a : Int) + 1
                      · have HF : Hid (Near num den 9218868437227405312) := HNB.out _ (by rw [HR.out]; unfold packed; rw [if_pos (unhide K1), if_pos k2])
                        go_wp2
                        go_ret
                        exact ⟨9218868437227405312, rfl, unhide HF, by omega, hbw21⟩
                      · have HF : Hid (Near num den (((b : Int) - (a : Int) + 1 + 1074).toNat * 4503599627370496 + 4503599627370496)) := HNB.out _ (by rw [HR.out]; unfold packed; rw [if_pos (unhide K1), if_neg k2])
                        obtain ⟨E, hE⟩ : ∃ E : Nat, (b : Int) - (a : Int) + 1 + 1074 = (E : Int) := ⟨((b : Int) - (a : Int) + 1 + 1074).toNat, by omega⟩
                        have hEl : E ≤ 2045 := by omega
                        rw [hE, Int.toNat_natCast] at HF
                        go_wp2
                        go_ret
                        exact ⟨E * 4503599627370496 + 4503599627370496, by congr 2, unhide HF, by omega, hbw21⟩
                    · have t1 : (((q : Int)) == (9007199254740992 : Int)) = false := beq_false_of_ne (by omega)
                      have t1n : (q == 9007199254740992) = false := beq_false_of_ne k1
                      by_cases k2 : 971 < (b : Int) - (a : Int)
                      · have HF : Hid (Near num den 9218868437227405312) := HNB.out _ (by rw [HR.out]; unfold packed; rw [if_neg k1, if_pos k2])
                        go_wp2
                        go_ret
                        exact ⟨9218868437227405312, rfl, unhide HF, by omega, hbw21⟩
                      · by_cases k3 : q < 4503599627370496
                        · have HF : Hid (Near num den (q)) := HNB.out _ (by rw [HR.out]; unfold packed; rw [if_neg k1, if_neg k2, if_pos k3])
                          have z0 : (0 : Int) ≤ (q : Int) := by omega
                          have z1 : ((q : Int) < (4503599627370496 : Int)) := by omega
                          have z2 : (q : Int) ≤ 9007199254740992 := by omega
                          have hr64 : q < 18446744073709551616 := by omega
                          have HR64 := hide hr64
                          clear k1 k3 hQ hr64 hq t1n
                          generalize hz : (q : Int) = Z at *
                          have HZ := hide hz
                          clear hz
                          go_wp2
                          go_ret
                          exact ⟨q, by rw [← unhide HZ]; congr 2, unhide HF, unhide HR64, hbw21⟩
                        · have HF : Hid (Near num den (((b : Int) - (a : Int) + 1074).toNat * 4503599627370496 + (q))) := HNB.out _ (by rw [HR.out]; unfold packed; rw [if_neg k1, if_neg k2, if_neg k3])
                          obtain ⟨E, hE⟩ : ∃ E : Nat, (b : Int) - (a : Int) + 1074 = (E : Int) := ⟨((b : Int) - (a : Int) + 1074).toNat, by omega⟩
                          have hEl : E ≤ 2045 := by omega
                          rw [hE, Int.toNat_natCast] at HF
                          have z0 : (0 : Int) ≤ (q : Int) := by omega
                          have z1 : ¬ ((q : Int) < (4503599627370496 : Int)) := by omega
                          have z2 : (q : Int) ≤ 9007199254740992 := by omega
                          have hr64 : E * 4503599627370496 + (q) < 18446744073709551616 := by omega
                          have HR64 := hide hr64
                          clear k1 k3 hQ hr64 hq t1n
                          generalize hz : (q : Int) = Z at *
                          have HZ := hide hz
                          clear hz
                          go_wp2
                          go_ret
                          exact ⟨E * 4503599627370496 + (q), by rw [← unhide HZ]; congr 2, unhide HF, unhide HR64, hbw21⟩
                · rw [sgn_gt hg]
                  have HR : Hid (rnd N d = q + 1) := rnd_up hsumo hc0 (.inl hg)
                  clear hsumo hg hsum
                  have hQ : q + 1 ≤ 9007199254740992 := by omega
                  by_cases k1 : q + 1 = 9007199254740992
                  · have t1 : (((q : Int) + 1) == (9007199254740992 : Int)) = true := by simp only [beq_iff_eq]; omega
                    have t1n : (q + 1 == 9007199254740992) = true := by simp only [beq_iff_eq]; exact k1
                    have K1 := hide k1
                    clear k1
                    by_cases k2 : 971 < (b : Int) - (a : Int) + 1
                    · have HF : Hid (Near num den 9218868437227405312) := HNB.out _ (by rw [HR.out]; unfold packed; rw [if_pos (unhide K1), if_pos k2])
                      go_wp2
                      go_ret
                      exact ⟨9218868437227405312, rfl, unhide HF, by omega, hbw21⟩
                    · have HF : Hid (Near num den (((b : Int) - (a : Int) + 1 + 1074).toNat * 4503599627370496 + 4503599627370496)) := HNB.out _ (by rw [HR.out]; unfold packed; rw [if_pos (unhide K1), if_neg k2])
                      obtain ⟨E, hE⟩ : ∃ E : Nat, (b : Int) - (a : Int) + 1 + 1074 = (E : Int) := ⟨((b : Int) - (a : Int) + 1 + 1074).toNat, by omega⟩
                      have hEl : E ≤ 2045 := by omega
                      rw [hE, Int.toNat_natCast] at HF
                      go_wp2
                      go_ret
                      exact ⟨E * 4503599627370496 + 4503599627370496, by congr 2, unhide HF, by omega, hbw21⟩
                  · have t1 : (((q : Int) + 1) == (9007199254740992 : Int)) = false := beq_false_of_ne (by omega)
                    have t1n : (q + 1 == 9007199254740992) = false := beq_false_of_ne k1
                    by_cases k2 : 971 < (b : Int) - (a : Int)
                    · have HF : Hid (Near num den 9218868437227405312) := HNB.out _ (by rw [HR.out]; unfold packed; rw [if_neg k1, if_pos k2])
                      go_wp2
                      go_ret
                      exact ⟨9218868437227405312, rfl, unhide HF, by omega, hbw21⟩
                    · by_cases k3 : q + 1 < 4503599627370496
                      · have HF : Hid (Near num den (q + 1)) := HNB.out _ (by rw [HR.out]; unfold packed; rw [if_neg k1, if_neg k2, if_pos k3])
                        have z0 : (0 : Int) ≤ (q : Int) := by omega
                        have z1 : ((q : Int) + 1 < (4503599627370496 : Int)) := by omega
                        have z2 : (q : Int) ≤ 9007199254740992 := by omega
                        have hr64 : q + 1 < 18446744073709551616 := by omega
                        have HR64 := hide hr64
                        clear k1 k3 hQ hr64 hq t1n
                        generalize hz : (q : Int) = Z at *
                        have HZ := hide hz
                        clear hz
                        go_wp2
                        go_ret
                        exact ⟨q + 1, by rw [← unhide HZ]; congr 2, unhide HF, unhide HR64, hbw21⟩
                      · have HF : Hid (Near num den (((b : Int) - (a : Int) + 1074).toNat * 4503599627370496 + (q + 1))) := HNB.out _ (by rw [HR.out]; unfold packed; rw [if_neg k1, if_neg k2, if_neg k3])
                        obtain ⟨E, hE⟩ : ∃ E : Nat, (b : Int) - (a : Int) + 1074 = (E : Int) := ⟨((b : Int) - (a : Int) + 1074).toNat, by omega⟩
                        have hEl : E ≤ 2045 := by omega
                        rw [hE, Int.toNat_natCast] at HF
                        have z0 : (0 : Int) ≤ (q : Int) := by omega
                        have z1 : ¬ ((q : Int) + 1 < (4503599627370496 : Int)) := by omega
                        have z2 : (q : Int) ≤ 9007199254740992 := by omega
                        have hr64 : E * 4503599627370496 + (q + 1) < 18446744073709551616 := by omega
                        have HR64 := hide hr64
                        clear k1 k3 hQ hr64 hq t1n
                        generalize hz : (q : Int) = Z at *
                        have HZ := hide hz
                        clear hz
                        go_wp2
                        go_ret
                        exact ⟨E * 4503599627370496 + (q + 1), by rw [← unhide HZ]; congr 2, unhide HF, unhide HR64, hbw21⟩
              | succ i =>
                have e0 : ((i + 1 : Nat) : Int) - 1 = (i : Int) := by omega
                rw [e0]
                have hP : 2 ^ i ≤ 9007199254740992 := Nat.pow_le_pow_right (n := 2) (by omega) (show i ≤ 53 by omega)
                have hPl := pow_len (b := 2) (e := i) (by decide)
                have hpr := dig_prod_lenF d (2 ^ i)
                have hsh : (2 : Int) ^ i = ((2 ^ i : Nat) : Int) := by simp
                have hcl3 : Hid (c < d * 2 ^ i + d * 2 ^ i) := by show _ < _; rw [double_next]; exact hcl.out
                clear hcl
                generalize hPI : 2 ^ i = P at *
                go_wp2_with fail
                refine (small_num P _ wr rfl (by omega)).mono ?_
                rintro e w31 ⟨v31, rfl, hL31, _, b31⟩
                have hLc1 := (unhide hLc).below b31
                have hLd1 := (unhide hLd).below b31
                have hbw1 := hbw.trans (b31.mono hbw.size)
                clear hLc hLd hbw b31
                go_wp2_with fail
                refine (by_any _ _ _ d P (by omega) (by omega) hLd1 hL31).mono ?_
                rintro e w32 ⟨v32, rfl, hL32, _, b32⟩
                have hLc2 := hLc1.below b32
                have hLd2 := hLd1.below b32
                have hbw2 := hbw1.trans (b32.mono hbw1.size)
                clear hLc1 hLd1 hbw1 b32 hL31
                by_cases hge3 : d * P ≤ c
                · have hs3 := sgn_ge' hge3
                  have hsum2 : Hid (c - d * P + (q + P) * d = N) := bit_take hsum.out hge3
                  have hq2 : q + P < 9007199254740992 := quo_less hsum2.out (unhide HX) hdp
                  have hcl4 : Hid (c - d * P < d * P) := by show _ < _; have h := hcl3.out; omega
                  go_wp2_with fail
                  refine (against_any _ _ _ c (d * P) (by omega) (by omega) hLc2 hL32).mono ?_
                  rintro e w33 ⟨rfl, rfl⟩
                  generalize sgn c (d * P) = sg3 at *
                  go_wp2_with fail
                  refine (minus_any _ _ _ c (d * P) (by omega) hge3 hLc2 hL32).mono ?_
                  rintro e w34 ⟨v34, rfl, hL34, _, b34⟩
                  have HC := hide hL34
                  have HD := hide (hLd2.below b34)
                  have hbw4 := hbw2.trans (b34.mono hbw2.size)
                  have HPI := hide hPI
                  clear hL34 hLc2 hLd2 hbw2 b34 hL32 hge3 hcl3 hsum hPI
                  go_wp2
                  go_roundw
                  case rel => exact ⟨i, q + P, c - d * P, by go_num, by go_num, by omega, HC, HD, hsum2, by show _ < _; rw [unhide HPI]; exact hcl4.out, hq2, hbw4⟩
                  case measure => simp only [intOf]; omega
                · have hlt3 : c < d * P := Nat.lt_of_not_le hge3
                  go_wp2_with fail
                  refine (against_any _ _ _ c (d * P) (by omega) (by omega) hLc2 hL32).mono ?_
                  rintro e w33 ⟨rfl, rfl⟩
                  rw [sgn_lt hlt3]
                  have HC := hide hLc2
                  have HD := hide hLd2
                  have HL3 := hide hlt3
                  have HPI := hide hPI
                  clear hLc2 hLd2 hL32 hge3 hcl3 hlt3 hPI
                  go_wp2
                  go_roundw
                  case rel => exact ⟨i, q, c, by go_num, rfl, by omega, HC, HD, hsum, by show _ < _; rw [unhide HPI]; exact unhide HL3, hq, hbw2⟩
                  case measure => simp only [intOf]; omega
    · have HA : Hid (a = 1074 ∨ den * 4503599627370496 ≤ num * 2 ^ a) := .inr (Nat.le_of_not_lt hlt)
      obtain ⟨sg0, hsg0, hs⟩ : ∃ sg, sgn (num * 2 ^ a) (den * 4503599627370496) = sg ∧ ¬ sg < 0 := ⟨_, rfl, sgn_ge' (Nat.le_of_not_lt hlt)⟩
      have HSG := hide hsg0
      clear hsg0
      go_wp2_with fail
      refine (against_any _ _ _ (num * 2 ^ a) (den * 4503599627370496) (by omega) (by omega) hLn3 hL3).mono ?_
      rintro e w4 ⟨rfl, rfl⟩
      rw [unhide HSG]
      clear hlt HSG
      have hNl : (dig (num * 2 ^ a)).length ≤ 16000 := hla
      have HNE : Hid (∀ (b r : Nat), (b = 0 ∨ den * 2 ^ (b - 1) * 9007199254740992 ≤ num * 2 ^ a) → num * 2 ^ a < den * 2 ^ b * 9007199254740992 → r = packed (rnd (num * 2 ^ a) (den * 2 ^ b)) ((b : Int) - (a : Int)) → Near num den r) := fun b r h1 h2 h3 => ⟨a, b, haM, hcond.out, HA.out, h1, h2, h3⟩
      have HN := hide hLn3
      have HD := hide hLd3
      clear hLn3 hLd3 hL3 HA hcond HL hla q1 l52
      have hNp : 0 < num * 2 ^ a := Nat.mul_pos (by omega) (Nat.pow_pos (by omega))
      generalize num * 2 ^ a = N at *
      go_wp2_with fail
      go_loopw [1, 5] (fun vd ve wr => ∃ b d : Nat, ve = .int .i64 ((b : Int) - (a : Int)) ∧ Hid (d = den * 2 ^ b) ∧ Hid (Lies wr vd d) ∧ Hid (Lies wr u0 N) ∧ Hid (b = 0 ∨ den * 2 ^ (b - 1) * 9007199254740992 ≤ N) ∧ Hid (d ≤ N ∨ b = 0) ∧ b ≤ 300000 ∧ 0 < d ∧ Below w.heap.size w wr) (fun _ ve _ => (300001 - (a : Int) - intOf ve).toNat)
      case atStart => exact ⟨0, den, by congr 1; omega, by show _ = _; rw [Nat.pow_zero, Nat.mul_one], HD, HN, .inl rfl, .inr rfl, by omega, by omega, hbw3⟩
      case round =>
        clear HD HN hbw3
        obtain ⟨b, d, rfl, hdd, hLd, hLn, hcb, hdb, hb3, hdp, hbw⟩ := hrel
        have hdl : (dig d).length ≤ 16000 := by
          rcases hdb.out with h | h
          · exact Nat.le_trans (dig_len_mono h) hNl
          · have h2 := hdd.out
            rw [h, Nat.pow_zero, Nat.mul_one] at h2
            rw [h2]; omega
        have hpl := dig_prod_lenF d 9007199254740992
        go_wp2_with fail
        refine (small_num 9007199254740992 _ wr rfl (by decide)).mono ?_
        rintro e w12 ⟨v2, rfl, hL2, _, b2⟩
        have hLn2 := (unhide hLn).below b2
        have hLd2 := (unhide hLd).below b2
        have hbw2 := hbw.trans (b2.mono hbw.size)
        clear hLn hLd hbw b2
        go_wp2_with fail
        refine (by_any _ _ _ d 9007199254740992 (by omega) (by omega) hLd2 hL2).mono ?_
        rintro e w13 ⟨v3, rfl, hL3, _, b3⟩
        have hLn3 := hLn2.below b3
        have hLd3 := hLd2.below b3
        have hbw3 := hbw2.trans (b3.mono hbw2.size)
        clear hLn2 hLd2 hbw2 b3 hL2
        by_cases hge : d * 9007199254740992 ≤ N
        · have hs := sgn_ge' hge
          go_wp2_with fail
          refine (against_any _ _ _ N (d * 9007199254740992) (by omega) (by omega) hLn3 hL3).mono ?_
          rintro e w14 ⟨rfl, rfl⟩
          generalize sgn N (d * 9007199254740992) = sg at *
          have HC := hide hge
          have hb4 : b + 1 ≤ 300000 := by
            have h1 : 2 ^ b ≤ N := by
              have h2 : 1 * 2 ^ b ≤ den * 2 ^ b := Nat.mul_le_mul_right _ (by omega)
              rw [← hdd.out] at h2
              omega
            have h3 := log_len h1
            omega
          have hdb2 : Hid (d + d ≤ N ∨ b + 1 = 0) := .inl (by omega)
          have hdd2 : Hid (d + d = den * 2 ^ (b + 1)) := by show _ = _; rw [← double_next, ← hdd.out]
          have HCC : Hid (b + 1 = 0 ∨ den * 2 ^ (b + 1 - 1) * 9007199254740992 ≤ N) := .inr (by rw [Nat.add_sub_cancel, ← hdd.out]; exact hge)
          clear hge hL3 hcb hdb hdd HC
          go_wp2_with fail
          refine (plus_any _ _ _ d d (by omega) (by omega) hLd3 hLd3).mono ?_
          rintro e w15 ⟨v5, rfl, hL5, _, b5⟩
          have HD := hide hL5
          have HN := hide (hLn3.below b5)
          have hbw5 := hbw3.trans (b5.mono hbw3.size)
          clear hL5 hLn3 hLd3 hbw3 b5
          go_wp2
          go_roundw
          case rel => exact ⟨b + 1, d + d, by congr 1; omega, hdd2, HD, HN, HCC, hdb2, hb4, by omega, hbw5⟩
          case measure => simp only [intOf]; omega
        · have hlt2 : N < d * 9007199254740992 := by omega
          go_wp2_with fail
          refine (against_any _ _ _ N (d * 9007199254740992) (by omega) (by omega) hLn3 hL3).mono ?_
          rintro e w14 ⟨rfl, rfl⟩
          rw [sgn_lt hlt2]
          have HNB : Hid (∀ r : Nat, r = packed (rnd N d) ((b : Int) - (a : Int)) → Near num den r) := fun r h => HNE.out b r hcb.out (by rw [← hdd.out]; exact hlt2) (by rw [← hdd.out]; exact h)
          have HN := hide hLn3
          have HD := hide hLd3
          have HX := hide hlt2
          clear hcb hdb hL3 hge hlt2 HNE hLn3 hLd3 hpl hdd
          have hNd := hNl
          go_wp2_with fail
          go_loopw [0, 6, 7] (fun vn vq vi wr => ∃ (j q c : Nat), vi = .int .i64 ((j : Int) - 1) ∧ vq = .int .u64 q ∧ j ≤ 54 ∧ Hid (Lies wr vn c) ∧ Hid (Lies wr u1 d) ∧ Hid (c + q * d = N) ∧ Hid (c < d * 2 ^ j) ∧ q < 9007199254740992 ∧ Below w.heap.size w wr) (fun _ _ vi _ => (intOf vi + 1).toNat)
          case atStart => exact ⟨54, 0, N, rfl, rfl, by omega, HN, HD, by show _ = _; rw [Nat.zero_mul, Nat.add_zero], x54 (unhide HX), by omega, hbw3⟩
          case round =>
            clear HN HD hbw3
            obtain ⟨j, q, c, rfl, rfl, hj, hLc, hLd, hsum, hcl, hq, hbw⟩ := hrel
            have hcN : c ≤ N := by have h := hsum.out; omega
            have hcl2 : (dig c).length ≤ 16000 := Nat.le_trans (dig_len_mono hcN) hNd
            cases j with
            | zero =>
              have hc0 : c < d := by have h := hcl.out; rwa [Nat.pow_zero, Nat.mul_one] at h
              have hc2 : (dig (c + c)).length ≤ 32001 := by
                have h := dig_prod_lenF 2 c
                rw [Nat.two_mul] at h
                have h2 : (dig 2).length ≤ 1 := dig_length_le (by decide)
                omega
              clear hcl
              go_wp2_with fail
              refine (plus_any _ _ _ c c (by omega) (by omega) (unhide hLc) (unhide hLc)).mono ?_
              rintro e w21 ⟨v21, rfl, hL21, _, b21⟩
              have hLd21 := (unhide hLd).below b21
              have hbw21 := hbw.trans (b21.mono hbw.size)
              clear hLc hLd hbw b21
              go_wp2_with fail
              refine (against_any _ _ _ (c + c) d (by omega) (by omega) hL21 hLd21).mono ?_
              rintro e w22 ⟨rfl, rfl⟩
              have hsumo := hsum.out
              clear hL21 hLd21
              rcases Nat.lt_trichotomy (c + c) d with hl | he | hg
              · rw [sgn_lt hl]
                have HR : Hid (rnd N d = q) := rnd_down hsumo hc0 (by omega)
                clear hsumo hl hsum
                have hQ : q ≤ 9007199254740992 := by omega
                by_cases k1 : q = 9007199254740992
                · have t1 : (((q : Int)) == (9007199254740992 : Int)) = true := by simp only [beq_iff_eq]; omega
                  have t1n : (q == 9007199254740992) = true := by simp only [beq_iff_eq]; exact k1
                  have K1 := hide k1
                  clear k1
                  by_cases k2 : 971 < (b : Int) - (a : Int) + 1
                  · have HF : Hid (Near num den 9218868437227405312) := HNB.out _ (by rw [HR.out]; unfold packed; rw [if_pos (unhide K1), if_pos k2])
                    go_wp2
                    go_ret
                    exact ⟨9218868437227405312, rfl, unhide HF, by omega, hbw21⟩
                  · have HF : Hid (Near num den (((b : Int) - (a : Int) + 1 + 1074).toNat * 4503599627370496 + 4503599627370496)) := HNB.out _ (by rw [HR.out]; unfold packed; rw [if_pos (unhide K1), if_neg k2])
                    obtain ⟨E, hE⟩ : ∃ E : Nat, (b : Int) - (a : Int) + 1 + 1074 = (E : Int) := ⟨((b : Int) - (a : Int) + 1 + 1074).toNat, by omega⟩
                    have hEl : E ≤ 2045 := by omega
                    rw [hE, Int.toNat_natCast] at HF
                    go_wp2
                    go_ret
                    exact ⟨E * 4503599627370496 + 4503599627370496, by congr 2, unhide HF, by omega, hbw21⟩
                · have t1 : (((q : Int)) == (9007199254740992 : Int)) = false := beq_false_of_ne (by omega)
                  have t1n : (q == 9007199254740992) = false := beq_false_of_ne k1
                  by_cases k2 : 971 < (b : Int) - (a : Int)
                  · have HF : Hid (Near num den 9218868437227405312) := HNB.out _ (by rw [HR.out]; unfold packed; rw [if_neg k1, if_pos k2])
                    go_wp2
                    go_ret
                    exact ⟨9218868437227405312, rfl, unhide HF, by omega, hbw21⟩
                  · by_cases k3 : q < 4503599627370496
                    · have HF : Hid (Near num den (q)) := HNB.out _ (by rw [HR.out]; unfold packed; rw [if_neg k1, if_neg k2, if_pos k3])
                      have z0 : (0 : Int) ≤ (q : Int) := by omega
                      have z1 : ((q : Int) < (4503599627370496 : Int)) := by omega
                      have z2 : (q : Int) ≤ 9007199254740992 := by omega
                      have hr64 : q < 18446744073709551616 := by omega
                      have HR64 := hide hr64
                      clear k1 k3 hQ hr64 hq t1n
                      generalize hz : (q : Int) = Z at *
                      have HZ := hide hz
                      clear hz
                      go_wp2
                      go_ret
                      exact ⟨q, by rw [← unhide HZ]; congr 2, unhide HF, unhide HR64, hbw21⟩
                    · have HF : Hid (Near num den (((b : Int) - (a : Int) + 1074).toNat * 4503599627370496 + (q))) := HNB.out _ (by rw [HR.out]; unfold packed; rw [if_neg k1, if_neg k2, if_neg k3])
                      obtain ⟨E, hE⟩ : ∃ E : Nat, (b : Int) - (a : Int) + 1074 = (E : Int) := ⟨((b : Int) - (a : Int) + 1074).toNat, by omega⟩
                      have hEl : E ≤ 2045 := by omega
                      rw [hE, Int.toNat_natCast] at HF
                      have z0 : (0 : Int) ≤ (q : Int) := by omega
                      have z1 : ¬ ((q : Int) < (4503599627370496 : Int)) := by omega
                      have z2 : (q : Int) ≤ 9007199254740992 := by omega
                      have hr64 : E * 4503599627370496 + (q) < 18446744073709551616 := by omega
                      have HR64 := hide hr64
                      clear k1 k3 hQ hr64 hq t1n
                      generalize hz : (q : Int) = Z at *
                      have HZ := hide hz
                      clear hz
                      go_wp2
                      go_ret
                      exact ⟨E * 4503599627370496 + (q), by rw [← unhide HZ]; congr 2, unhide HF, unhide HR64, hbw21⟩
              · rw [sgn_eq he]
                by_cases ho : q % 2 = 1
                · have HR : Hid (rnd N d = q + 1) := rnd_up hsumo hc0 (.inr ⟨he, ho⟩)
                  have to : (((q : Int) % 2) == 1) = true := by simp only [beq_iff_eq]; omega
                  clear hsumo he hsum ho
                  have hQ : q + 1 ≤ 9007199254740992 := by omega
                  by_cases k1 : q + 1 = 9007199254740992
                  · have t1 : (((q : Int) + 1) == (9007199254740992 : Int)) = true := by simp only [beq_iff_eq]; omega
                    have t1n : (q + 1 == 9007199254740992) = true := by simp only [beq_iff_eq]; exact k1
                    have K1 := hide k1
                    clear k1
                    by_cases k2 : 971 < (b : Int) - (a : Int) + 1
                    · have HF : Hid (Near num den 9218868437227405312) := HNB.out _ (by rw [HR.out]; unfold packed; rw [if_pos (unhide K1), if_pos k2])
                      go_wp2
                      go_ret
                      exact ⟨9218868437227405312, rfl, unhide HF, by omega, hbw21⟩
                    · have HF : Hid (Near num den (((b : Int) - (a : Int) + 1 + 1074).toNat * 4503599627370496 + 4503599627370496)) := HNB.out _ (by rw [HR.out]; unfold packed; rw [if_pos (unhide K1), if_neg k2])
                      obtain ⟨E, hE⟩ : ∃ E : Nat, (b : Int) - (a : Int) + 1 + 1074 = (E : Int) := ⟨((b : Int) - (a : Int) + 1 + 1074).toNat, by omega⟩
                      have hEl : E ≤ 2045 := by omega
                      rw [hE, Int.toNat_natCast] at HF
                      go_wp2
                      go_ret
                      exact ⟨E * 4503599627370496 + 4503599627370496, by congr 2, unhide HF, by omega, hbw21⟩
                  · have t1 : (((q : Int) + 1) == (9007199254740992 : Int)) = false := beq_false_of_ne (by omega)
                    have t1n : (q + 1 == 9007199254740992) = false := beq_false_of_ne k1
                    by_cases k2 : 971 < (b : Int) - (a : Int)
                    · have HF : Hid (Near num den 9218868437227405312) := HNB.out _ (by rw [HR.out]; unfold packed; rw [if_neg k1, if_pos k2])
                      go_wp2
                      go_ret
                      exact ⟨9218868437227405312, rfl, unhide HF, by omega, hbw21⟩
                    · by_cases k3 : q + 1 < 4503599627370496
                      · have HF : Hid (Near num den (q + 1)) := HNB.out _ (by rw [HR.out]; unfold packed; rw [if_neg k1, if_neg k2, if_pos k3])
                        have z0 : (0 : Int) ≤ (q : Int) := by omega
                        have z1 : ((q : Int) + 1 < (4503599627370496 : Int)) := by omega
                        have z2 : (q : Int) ≤ 9007199254740992 := by omega
                        have hr64 : q + 1 < 18446744073709551616 := by omega
                        have HR64 := hide hr64
                        clear k1 k3 hQ hr64 hq t1n
                        generalize hz : (q : Int) = Z at *
                        have HZ := hide hz
                        clear hz
                        go_wp2
                        go_ret
                        exact ⟨q + 1, by rw [← unhide HZ]; congr 2, unhide HF, unhide HR64, hbw21⟩
                      · have HF : Hid (Near num den (((b : Int) - (a : Int) + 1074).toNat * 4503599627370496 + (q + 1))) := HNB.out _ (by rw [HR.out]; unfold packed; rw [if_neg k1, if_neg k2, if_neg k3])
                        obtain ⟨E, hE⟩ : ∃ E : Nat, (b : Int) - (a : Int) + 1074 = (E : Int) := ⟨((b : Int) - (a : Int) + 1074).toNat, by omega⟩
                        have hEl : E ≤ 2045 := by omega
                        rw [hE, Int.toNat_natCast] at HF
                        have z0 : (0 : Int) ≤ (q : Int) := by omega
                        have z1 : ¬ ((q : Int) + 1 < (4503599627370496 : Int)) := by omega
                        have z2 : (q : Int) ≤ 9007199254740992 := by omega
                        have hr64 : E * 4503599627370496 + (q + 1) < 18446744073709551616 := by omega
                        have HR64 := hide hr64
                        clear k1 k3 hQ hr64 hq t1n
                        generalize hz : (q : Int) = Z at *
                        have HZ := hide hz
                        clear hz
                        go_wp2
                        go_ret
                        exact ⟨E * 4503599627370496 + (q + 1), by rw [← unhide HZ]; congr 2, unhide HF, unhide HR64, hbw21⟩
                · have HR : Hid (rnd N d = q) := rnd_down hsumo hc0 (by omega)
                  have to : (((q : Int) % 2) == 1) = false := beq_false_of_ne (by omega)
                  clear hsumo he hsum
                  have hQ : q ≤ 9007199254740992 := by omega
                  by_cases k1 : q = 9007199254740992
                  · have t1 : (((q : Int)) == (9007199254740992 : Int)) = true := by simp only [beq_iff_eq]; omega
                    have t1n : (q == 9007199254740992) = true := by simp only [beq_iff_eq]; exact k1
                    have K1 := hide k1
                    clear k1
                    by_cases k2 : 971 < (b : Int) - (a : Int) + 1
                    · have HF : Hid (Near num den 9218868437227405312) := HNB.out _ (by rw [HR.out]; unfold packed; rw [if_pos (unhide K1), if_pos k2])
                      go_wp2
                      go_ret
                      exact ⟨9218868437227405312, rfl, unhide HF, by omega, hbw21⟩
                    · have HF : Hid (Near num den (((b : Int) - (a : Int) + 1 + 1074).toNat * 4503599627370496 + 4503599627370496)) := HNB.out _ (by rw [HR.out]; unfold packed; rw [if_pos (unhide K1), if_neg k2])
                      obtain ⟨E, hE⟩ : ∃ E : Nat, (b : Int) - (a : Int) + 1 + 1074 = (E : Int) := ⟨((b : Int) - (a : Int) + 1 + 1074).toNat, by omega⟩
                      have hEl : E ≤ 2045 := by omega
                      rw [hE, Int.toNat_natCast] at HF
                      go_wp2
                      go_ret
                      exact ⟨E * 4503599627370496 + 4503599627370496, by congr 2, unhide HF, by omega, hbw21⟩
                  · have t1 : (((q : Int)) == (9007199254740992 : Int)) = false := beq_false_of_ne (by omega)
                    have t1n : (q == 9007199254740992) = false := beq_false_of_ne k1
                    by_cases k2 : 971 < (b : Int) - (a : Int)
                    · have HF : Hid (Near num den 9218868437227405312) := HNB.out _ (by rw [HR.out]; unfold packed; rw [if_neg k1, if_pos k2])
                      go_wp2
                      go_ret
                      exact ⟨9218868437227405312, rfl, unhide HF, by omega, hbw21⟩
                    · by_cases k3 : q < 4503599627370496
                      · have HF : Hid (Near num den (q)) := HNB.out _ (by rw [HR.out]; unfold packed; rw [if_neg k1, if_neg k2, if_pos k3])
                        have z0 : (0 : Int) ≤ (q : Int) := by omega
                        have z1 : ((q : Int) < (4503599627370496 : Int)) := by omega
                        have z2 : (q : Int) ≤ 9007199254740992 := by omega
                        have hr64 : q < 18446744073709551616 := by omega
                        have HR64 := hide hr64
                        clear k1 k3 hQ hr64 hq t1n
                        generalize hz : (q : Int) = Z at *
                        have HZ := hide hz
                        clear hz
                        go_wp2
                        go_ret
                        exact ⟨q, by rw [← unhide HZ]; congr 2, unhide HF, unhide HR64, hbw21⟩
                      · have HF : Hid (Near num den (((b : Int) - (a : Int) + 1074).toNat * 4503599627370496 + (q))) := HNB.out _ (by rw [HR.out]; unfold packed; rw [if_neg k1, if_neg k2, if_neg k3])
                        obtain ⟨E, hE⟩ : ∃ E : Nat, (b : Int) - (a : Int) + 1074 = (E : Int) := ⟨((b : Int) - (a : Int) + 1074).toNat, by omega⟩
                        have hEl : E ≤ 2045 := by omega
                        rw [hE, Int.toNat_natCast] at HF
                        have z0 : (0 : Int) ≤ (q : Int) := by omega
                        have z1 : ¬ ((q : Int) < (4503599627370496 : Int)) := by omega
                        have z2 : (q : Int) ≤ 9007199254740992 := by omega
                        have hr64 : E * 4503599627370496 + (q) < 18446744073709551616 := by omega
                        have HR64 := hide hr64
                        clear k1 k3 hQ hr64 hq t1n
                        generalize hz : (q : Int) = Z at *
                        have HZ := hide hz
                        clear hz
                        go_wp2
                        go_ret
                        exact ⟨E * 4503599627370496 + (q), by rw [← unhide HZ]; congr 2, unhide HF, unhide HR64, hbw21⟩
              · rw [sgn_gt hg]
                have HR : Hid (rnd N d = q + 1) := rnd_up hsumo hc0 (.inl hg)
                clear hsumo hg hsum
                have hQ : q + 1 ≤ 9007199254740992 := by omega
                by_cases k1 : q + 1 = 9007199254740992
                · have t1 : (((q : Int) + 1) == (9007199254740992 : Int)) = true := by simp only [beq_iff_eq]; omega
                  have t1n : (q + 1 == 9007199254740992) = true := by simp only [beq_iff_eq]; exact k1
                  have K1 := hide k1
                  clear k1
                  by_cases k2 : 971 < (b : Int) - (a : Int) + 1
                  · have HF : Hid (Near num den 9218868437227405312) := HNB.out _ (by rw [HR.out]; unfold packed; rw [if_pos (unhide K1), if_pos k2])
                    go_wp2
                    go_ret
                    exact ⟨9218868437227405312, rfl, unhide HF, by omega, hbw21⟩
                  · have HF : Hid (Near num den (((b : Int) - (a : Int) + 1 + 1074).toNat * 4503599627370496 + 4503599627370496)) := HNB.out _ (by rw [HR.out]; unfold packed; rw [if_pos (unhide K1), if_neg k2])
                    obtain ⟨E, hE⟩ : ∃ E : Nat, (b : Int) - (a : Int) + 1 + 1074 = (E : Int) := ⟨((b : Int) - (a : Int) + 1 + 1074).toNat, by omega⟩
                    have hEl : E ≤ 2045 := by omega
                    rw [hE, Int.toNat_natCast] at HF
                    go_wp2
                    go_ret
                    exact ⟨E * 4503599627370496 + 4503599627370496, by congr 2, unhide HF, by omega, hbw21⟩
                · have t1 : (((q : Int) + 1) == (9007199254740992 : Int)) = false := beq_false_of_ne (by omega)
                  have t1n : (q + 1 == 9007199254740992) = false := beq_false_of_ne k1
                  by_cases k2 : 971 < (b : Int) - (a : Int)
                  · have HF : Hid (Near num den 9218868437227405312) := HNB.out _ (by rw [HR.out]; unfold packed; rw [if_neg k1, if_pos k2])
                    go_wp2
                    go_ret
                    exact ⟨9218868437227405312, rfl, unhide HF, by omega, hbw21⟩
                  · by_cases k3 : q + 1 < 4503599627370496
                    · have HF : Hid (Near num den (q + 1)) := HNB.out _ (by rw [HR.out]; unfold packed; rw [if_neg k1, if_neg k2, if_pos k3])
                      have z0 : (0 : Int) ≤ (q : Int) := by omega
                      have z1 : ((q : Int) + 1 < (4503599627370496 : Int)) := by omega
                      have z2 : (q : Int) ≤ 9007199254740992 := by omega
                      have hr64 : q + 1 < 18446744073709551616 := by omega
                      have HR64 := hide hr64
                      clear k1 k3 hQ hr64 hq t1n
                      generalize hz : (q : Int) = Z at *
                      have HZ := hide hz
                      clear hz
                      go_wp2
                      go_ret
                      exact ⟨q + 1, by rw [← unhide HZ]; congr 2, unhide HF, unhide HR64, hbw21⟩
                    · have HF : Hid (Near num den (((b : Int) - (a : Int) + 1074).toNat * 4503599627370496 + (q + 1))) := HNB.out _ (by rw [HR.out]; unfold packed; rw [if_neg k1, if_neg k2, if_neg k3])
                      obtain ⟨E, hE⟩ : ∃ E : Nat, (b : Int) - (a : Int) + 1074 = (E : Int) := ⟨((b : Int) - (a : Int) + 1074).toNat, by omega⟩
                      have hEl : E ≤ 2045 := by omega
                      rw [hE, Int.toNat_natCast] at HF
                      have z0 : (0 : Int) ≤ (q : Int) := by omega
                      have z1 : ¬ ((q : Int) + 1 < (4503599627370496 : Int)) := by omega
                      have z2 : (q : Int) ≤ 9007199254740992 := by omega
                      have hr64 : E * 4503599627370496 + (q + 1) < 18446744073709551616 := by omega
                      have HR64 := hide hr64
                      clear k1 k3 hQ hr64 hq t1n
                      generalize hz : (q : Int) = Z at *
                      have HZ := hide hz
                      clear hz
                      go_wp2
                      go_ret
                      exact ⟨E * 4503599627370496 + (q + 1), by rw [← unhide HZ]; congr 2, unhide HF, unhide HR64, hbw21⟩
            | succ i =>
              have e0 : ((i + 1 : Nat) : Int) - 1 = (i : Int) := by omega
              rw [e0]
              have hP : 2 ^ i ≤ 9007199254740992 := Nat.pow_le_pow_right (n := 2) (by omega) (show i ≤ 53 by omega)
              have hPl := pow_len (b := 2) (e := i) (by decide)
              have hpr := dig_prod_lenF d (2 ^ i)
              have hsh : (2 : Int) ^ i = ((2 ^ i : Nat) : Int) := by simp
              have hcl3 : Hid (c < d * 2 ^ i + d * 2 ^ i) := by show _ < _; rw [double_next]; exact hcl.out
              clear hcl
              generalize hPI : 2 ^ i = P at *
              go_wp2_with fail
              refine (small_num P _ wr rfl (by omega)).mono ?_
              rintro e w31 ⟨v31, rfl, hL31, _, b31⟩
              have hLc1 := (unhide hLc).below b31
              have hLd1 := (unhide hLd).below b31
              have hbw1 := hbw.trans (b31.mono hbw.size)
              clear hLc hLd hbw b31
              go_wp2_with fail
              refine (by_any _ _ _ d P (by omega) (by omega) hLd1 hL31).mono ?_
              rintro e w32 ⟨v32, rfl, hL32, _, b32⟩
              have hLc2 := hLc1.below b32
              have hLd2 := hLd1.below b32
              have hbw2 := hbw1.trans (b32.mono hbw1.size)
              clear hLc1 hLd1 hbw1 b32 hL31
              by_cases hge3 : d * P ≤ c
              · have hs3 := sgn_ge' hge3
                have hsum2 : Hid (c - d * P + (q + P) * d = N) := bit_take hsum.out hge3
                have hq2 : q + P < 9007199254740992 := quo_less hsum2.out (unhide HX) hdp
                have hcl4 : Hid (c - d * P < d * P) := by show _ < _; have h := hcl3.out; omega
                go_wp2_with fail
                refine (against_any _ _ _ c (d * P) (by omega) (by omega) hLc2 hL32).mono ?_
                rintro e w33 ⟨rfl, rfl⟩
                generalize sgn c (d * P) = sg3 at *
                go_wp2_with fail
                refine (minus_any _ _ _ c (d * P) (by omega) hge3 hLc2 hL32).mono ?_
                rintro e w34 ⟨v34, rfl, hL34, _, b34⟩
                have HC := hide hL34
                have HD := hide (hLd2.below b34)
                have hbw4 := hbw2.trans (b34.mono hbw2.size)
                have HPI := hide hPI
                clear hL34 hLc2 hLd2 hbw2 b34 hL32 hge3 hcl3 hsum hPI
                go_wp2
                go_roundw
                case rel => exact ⟨i, q + P, c - d * P, by go_num, by go_num, by omega, HC, HD, hsum2, by show _ < _; rw [unhide HPI]; exact hcl4.out, hq2, hbw4⟩
                case measure => simp only [intOf]; omega
              · have hlt3 : c < d * P := Nat.lt_of_not_le hge3
                go_wp2_with fail
                refine (against_any _ _ _ c (d * P) (by omega) (by omega) hLc2 hL32).mono ?_
                rintro e w33 ⟨rfl, rfl⟩
                rw [sgn_lt hlt3]
                have HC := hide hLc2
                have HD := hide hLd2
                have HL3 := hide hlt3
                have HPI := hide hPI
                clear hLc2 hLd2 hL32 hge3 hcl3 hlt3 hPI
                go_wp2
                go_roundw
                case rel => exact ⟨i, q, c, by go_num, rfl, by omega, HC, HD, hsum, by show _ < _; rw [unhide HPI]; exact unhide HL3, hq, hbw2⟩
                case measure => simp only [intOf]; omega
end Go.Proofs.YtobbbhmkcmbekaaDoor.bigs
