/- The law FloatBack: the short digits of a fraction tell it. -/
import Derived.Test.YtobbbhmkcmbekaaDoorPartAP
import Derived.Test.YtobbbhmkcmbekaaDoorPartAM
import Derived.Test.YtobbbhmkcmbekaaDoorPartAK
import Derived.Laws.BitsAllLaws
set_option linter.unusedVariables false
namespace Go.Proofs.YtobbbhmkcmbekaaDoor.bigs
open Go.RowKit

theorem andNot_top (x : Nat) (hx : x < 18446744073709551616) : Go.bits .andNot .u64 (x : Int) 9223372036854775808 = ((x % 9223372036854775808 : Nat) : Int) := by
  have h := u64_andNot_nat x 9223372036854775808 hx (by decide)
  have e : (18446744073709551615 - 9223372036854775808 : Nat) = 2 ^ 63 - 1 := by decide
  rw [e, Nat.and_two_pow_sub_one_eq_mod] at h
  exact h
theorem decDigits_decs (n : Nat) : Lib.decDigits n = decs n := by
  induction n using Nat.strongRecOn with
  | ind n ih =>
    by_cases h : n < 10
    · rw [Lib.decDigits, dif_pos h]
      unfold decs
      by_cases z : n = 0
      · rw [if_pos z, z]; rfl
      · rw [if_neg z, toDec_pos z, show n / 10 = 0 by omega, toDec_zero, Nat.mod_eq_of_lt h]; rfl
    · rw [Lib.decDigits, dif_neg h, ih _ (by omega)]
      unfold decs
      rw [if_neg (by omega), if_neg (by omega), toDec_pos (n := n) (by omega)]
/-- What is the pick of its level is near. -/
theorem ten_cross (d : Nat) (x : Int) (h1 : -1080 ≤ x) : d * 10 ^ x.toNat * T10 = d * 10 ^ (x + 1080).toNat * 10 ^ (-x).toNat := by
  rcases Int.le_total 0 x with h | h
  · have e1 : (x + 1080).toNat = x.toNat + c80 := by unfold c80; omega
    have e2 : (-x).toNat = 0 := by omega
    rw [e1, e2, Nat.pow_add, Nat.pow_zero, Nat.mul_one, Nat.mul_assoc]
    rfl
  · have e1 : x.toNat = 0 := by omega
    have e2 : 1080 = (x + 1080).toNat + (-x).toNat := by omega
    rw [e1, Nat.pow_zero, Nat.mul_one]
    exact T10_split d e2
theorem okay_nearD {r d : Nat} {x : Int} (h0 : 0 < r) (hi : r < 9218868437227405312) (h1 : -1080 ≤ x) (hd : d ≠ 0) : NearD d x r ↔ Okay r (d * 10 ^ (x + 1080).toNat) := by
  have h := near_okay (pow10_pos (-x).toNat) h0 hi (ten_cross d x h1)
  unfold NearD
  constructor
  · rintro (⟨e, _⟩ | ⟨_, k⟩)
    · exact absurd e hd
    · exact h.1 k
  · intro k
    exact .inr ⟨hd, h.2 k⟩
theorem decs_front {d : Nat} (hd : d ≠ 0) : (decs d).getD 0 0 ≠ 48 := by
  obtain ⟨h1, h2, h3⟩ := decs_form d
  rcases h3 with h | h
  · exact h
  · intro e
    have : decs d = [48] := by
      cases hl : decs d with
      | nil => exact absurd hl h1
      | cons a r =>
        rw [hl] at h e
        cases r with
        | nil => simp at e; rw [e]
        | cons x y => simp at h
    have v := dec_decs d
    rw [this] at v
    exact hd (by rw [← v]; rfl)
theorem decs_rear {d : Nat} (hd : d % 10 ≠ 0) : ∃ l c, decs d = l ++ [c] ∧ c ≠ 48 := by
  unfold decs
  rw [if_neg (by omega), toDec_pos (by omega)]
  refine ⟨_, _, rfl, ?_⟩
  have : ∀ k : Fin 10, k.1 ≠ 0 → UInt8.ofNat (48 + k.1) ≠ 48 := by decide
  exact this ⟨d % 10, by omega⟩ hd
theorem bytes_len (l : List UInt8) : (⟨l.toArray⟩ : ByteArray).size = l.length := by simp [ByteArray.size]
theorem back_none_plain {b r : Nat} (hr : r = b % 9223372036854775808) (hb : b < 18446744073709551616) (h0 : r = 0 ∨ 9218868437227405312 ≤ r) : (fparts b).2.2 = 1 ∨ (fparts b).2.2 = 2 ∨ ((fparts b).2.2 = 0 ∧ (fparts b).1 = 0) := by
  unfold fparts
  by_cases c : b / 4503599627370496 % 2048 = 2047
  · rw [if_pos c]
    by_cases c2 : b % 4503599627370496 = 0
    · rw [if_pos c2]; exact .inl rfl
    · rw [if_neg c2]; exact .inr (.inl rfl)
  · rw [if_neg c, if_pos (by omega)]
    exact .inr (.inr ⟨rfl, by simp only; omega⟩)
set_option maxHeartbeats 8000000 in
set_option maxRecDepth 100000 in
theorem backNone (w : World) (b r : Nat) (hb : b < 18446744073709551616) (hr : r = b % 9223372036854775808) (h0 : r = 0 ∨ 9218868437227405312 ≤ r) :
    Calls Tryd.prog 6 #[.int .u64 (b : Int)] w fun e w' => e = .returned (.bool true) ∧ Below w.heap.size w w' := by
  have K0 := hide (floats_any w)
  have KS := hide (short_none w b r hb hr h0)
  have kp := partsW_any w b hb
  have hf := back_none_plain hr hb h0
  generalize (fparts b).2.2 = kd at *
  generalize (fparts b).2.1 = ex at *
  generalize (fparts b).1 = mt at *
  have KP := hide kp
  clear kp hr h0
  rcases hf with rfl | rfl | ⟨rfl, rfl⟩
  all_goals
    go_enter Tryd.func6, Tryd.ntmps6
    go_wp2_with fail
    refine (unhide K0).mono ?_
    rintro _ w1 ⟨rfl, rfl⟩
    go_wp2_with fail
    refine (unhide KS).mono ?_
    rintro _ w2 ⟨rfl, rfl⟩
    go_wp2_with fail
    refine (unhide KP).mono ?_
    rintro _ w3 ⟨rfl, rfl⟩
    clear K0 KS KP
    go_wp2
    go_ret
    exact ⟨rfl, Below.refl _ _⟩
set_option maxHeartbeats 8000000 in
set_option maxRecDepth 100000 in
theorem backSome (w : World) (b r : Nat) (hb : b < 18446744073709551616) (hr : r = b % 9223372036854775808) (h0 : 0 < r) (hi : r < 9218868437227405312) (htab : Lib.TabIs Tryd.prog w "internal/strconv.uint64pow10" .u64 Lib.pow10Tab) :
    Calls Tryd.prog 6 #[.int .u64 (b : Int)] w fun e w' => e = .returned (.bool true) ∧ Below w.heap.size w w' := by
  have K0 := hide (floats_any w)
  have KS := hide (short_any w b r hb hr h0 hi htab)
  have an := andNot_top b hb
  rw [← hr] at an
  have HI := hide (And.intro h0 hi)
  clear htab hr h0 hi
  go_enter Tryd.func6, Tryd.ntmps6
  go_wp2_with fail
  refine (unhide K0).mono ?_
  rintro _ w1 ⟨rfl, rfl⟩
  go_wp2_with fail
  refine (unhide KS).mono ?_
  rintro _ w2 ⟨⟨d, ten, rfl, hd10, hd64, t1, t2, j, hB⟩, b2⟩
  clear K0 KS
  have hd0 : d ≠ 0 := by omega
  have h17 := best_17 (unhide HI).1 hB rfl hd10
  have ND : NearD d ten r := (okay_nearD (unhide HI).1 (unhide HI).2 (by omega) hd0).2 (pick_okay hB.2.1)
  have L17 : (decs d).length ≤ 17 := decs_length_le h17 (by decide)
  have HN := hide ND
  have B2 := hide b2
  have fr := decs_front hd0
  obtain ⟨pl, pc, hpl, hpc⟩ := decs_rear hd10
  rw [decDigits_decs]
  obtain ⟨S, hS⟩ : ∃ S : ByteArray, S = ⟨(decs d).toArray⟩ := ⟨_, rfl⟩
  rw [← hS]
  have hSl : S.data.toList = decs d := by rw [hS]
  have hSs : S.size = (decs d).length := by rw [hS, bytes_len]
  have KR := hide (read_any w2 S (by omega) (by rw [hSl]; exact decs_form d))
  rw [hSl, dec_decs] at KR
  have s0 : 0 < S.size := by rw [hSs, hpl]; simp
  obtain ⟨m, hm⟩ : ∃ m, S.size = m + 1 := ⟨S.size - 1, by omega⟩
  have mS : m < S.size := by omega
  have e0 : (S[0]'s0) = (decs d).getD 0 0 := by
    have : S.data.toList[0]? = some (S[0]'s0) := List.getElem?_eq_getElem (by rw [blen_list]; exact s0)
    rw [hSl] at this
    rw [List.getD_eq_getElem?_getD, this]
    rfl
  have e1 : (S[m]'mS) = pc := by
    have : S.data.toList[m]? = some (S[m]'mS) := List.getElem?_eq_getElem (by rw [blen_list]; exact mS)
    rw [hSl, hpl] at this
    have hlen : pl.length = m := by
      rw [hSs, hpl, List.length_append] at hm
      simp at hm
      exact hm
    have g : (pl ++ [pc])[m]? = some pc := by
      rw [List.getElem?_append_right (by omega), hlen, Nat.sub_self]
      rfl
    rw [g] at this
    exact (Option.some.inj this).symm
  have n0 : ((S[0]'s0).toNat : Int) ≠ 48 := by
    intro e
    apply fr
    rw [← e0]
    exact UInt8.toNat_inj.1 (by show (S[0]'s0).toNat = 48; omega)
  have n1 : ((S[m]'mS).toNat : Int) ≠ 48 := by
    intro e
    apply hpc
    rw [← e1]
    exact UInt8.toNat_inj.1 (by show (S[m]'mS).toNat = 48; omega)
  have q0 : (((S[0]'s0).toNat : Int) != 48) = true := bne_iff_ne.2 n0
  have q1 : (((S[m]'mS).toNat : Int) != 48) = true := bne_iff_ne.2 n1
  have y1 : IntKind.i64.wrap ((S.size : Int) - 1) = (m : Int) := by
    simp [IntKind.wrap, IntKind.bits, IntKind.signed]
    omega
  have l17 : (S.size : Int) ≤ 17 := by omega
  have l0 : (0 : Int) < (S.size : Int) := by omega
  have lm : (m : Int) < (S.size : Int) := by omega
  clear hpl hpc fr e0 e1 hS hSl hSs hB ND b2 n0 n1 hm
  go_wp2_with fail
  refine (unhide KR).mono ?_
  rintro _ w3 ⟨v3, rfl, hv3, b3⟩
  have B3 := hide ((unhide B2).trans (b3.mono (unhide B2).size))
  have KN := hide (nearW_any w3 v3 (wdig d) ten hv3 (words_wdig d) (Nat.le_trans (wdig_length_le (k := 2) (Nat.lt_of_lt_of_le hd64 (by decide))) (by decide)) (by rw [wval_wdig]; exact Nat.le_trans (bits_le (k := 64) (Nat.lt_of_lt_of_le hd64 (by decide))) (by decide)) (by omega) (by omega))
  rw [wval_wdig] at KN
  clear KR B2 b3
  go_wp2_with fail
  refine (unhide KN).mono ?_
  rintro _ w4 ⟨r', rfl, hr', b4⟩
  have er : r' = r := nearD_unique hr' (unhide HN)
  subst er
  have B4 := hide ((unhide B3).trans (b4.mono (unhide B3).size))
  clear KN B3 b4 hr' HN HI hv3
  go_wp2
  go_ret
  exact ⟨rfl, unhide B4⟩
theorem lawBackF (w : World) (b : Nat) (hb : b < 18446744073709551616) (htab : Lib.TabIs Tryd.prog w "internal/strconv.uint64pow10" .u64 Lib.pow10Tab) :
    Calls Tryd.prog 6 #[.int .u64 (b : Int)] w fun e w' => e = .returned (.bool true) ∧ Below w.heap.size w w' := by
  by_cases h : b % 9223372036854775808 = 0 ∨ 9218868437227405312 ≤ b % 9223372036854775808
  · exact backNone w b _ hb rfl h
  · exact backSome w b _ hb rfl (by omega) (by omega) htab
end Go.Proofs.YtobbbhmkcmbekaaDoor.bigs
/- The law FloatShort: no number of fewer digits tells a fraction. -/
set_option linter.unusedVariables false
namespace Go.Proofs.YtobbbhmkcmbekaaDoor.bigs
open Go.RowKit

theorem decs_ge {d : Nat} (hd : d ≠ 0) : 10 ^ ((decs d).length - 1) ≤ d := by
  rcases Nat.lt_or_ge d (10 ^ ((decs d).length - 1)) with h | h
  · exfalso
    have hl := List.length_pos_iff.2 (decs_form d).1
    by_cases c : (decs d).length - 1 = 0
    · rw [c, Nat.pow_zero] at h; omega
    · have := decs_length_le h (by omega)
      omega
  · exact h
theorem decs_less {n d : Nat} (h : (decs n).length < (decs d).length) : n < 10 ^ ((decs d).length - 1) := by
  have h1 := dec_lt (decs_form n).2.1
  rw [dec_decs] at h1
  exact Nat.lt_of_lt_of_le h1 (Nat.pow_le_pow_right (by decide) (by omega))
theorem short_least {r j d n : Nat} {ten k : Int} (h0 : 0 < r) (hi : r < 9218868437227405312) (hB : Best r j (d * 10 ^ (ten + 1080).toNat)) (hd : d % 10 ≠ 0) (h : (decs n).length < (decs d).length) (hk : -1000 ≤ k) (hn : NearD n k r) : False := by
  by_cases z : n = 0
  · rcases hn with ⟨_, e⟩ | ⟨e, _⟩
    · omega
    · exact e z
  · exact best_least h0 hB rfl hd (decs_less h) (decs_ge (by omega)) ((okay_nearD h0 hi (by omega) z).1 hn)
theorem two_words (n : Nat) (hn : n < 18446744073709551616) : Words32 [n % 4294967296, n / 4294967296] ∧ wval [n % 4294967296, n / 4294967296] = n := by
  refine ⟨words_cons.2 ⟨by omega, words_one (by omega)⟩, ?_⟩
  simp only [wval]
  omega
set_option maxHeartbeats 8000000 in
set_option maxRecDepth 100000 in
theorem shortNone (w : World) (b r n : Nat) (k : Int) (hb : b < 18446744073709551616) (hr : r = b % 9223372036854775808) (h0 : r = 0 ∨ 9218868437227405312 ≤ r) (hn : n < 18446744073709551616) :
    Calls Tryd.prog 7 #[.int .u64 (b : Int), .int .u64 (n : Int), .int .i64 k] w fun e w' => e = .returned (.bool true) ∧ Below w.heap.size w w' := by
  have K0 := hide (floats_any w)
  have KS := hide (short_none w b r hb hr h0)
  clear hr h0
  go_enter Tryd.func7, Tryd.ntmps7
  go_wp2_with fail
  refine (unhide K0).mono ?_
  rintro _ w1 ⟨rfl, rfl⟩
  go_wp2_with fail
  refine (unhide KS).mono ?_
  rintro _ w2 ⟨rfl, rfl⟩
  clear K0 KS
  go_wp2
  go_ret
  exact ⟨rfl, (Below.refl _ _).alloc (Nat.le_refl _) _⟩
theorem lit_parts (w : World) (n : Nat) : WSl (w.alloc (.cells #[.int .u32 ((n : Int) % 4294967296), .int .u32 ((n : Int) / 4294967296)] 40)) (.slice (some ⟨w.heap.size, 0, none⟩) 2 2) [n % 4294967296, n / 4294967296] := by
  have e1 : (n : Int) % 4294967296 = ((n % 4294967296 : Nat) : Int) := by omega
  have e2 : (n : Int) / 4294967296 = ((n / 4294967296 : Nat) : Int) := by omega
  rw [e1, e2]
  exact ⟨_, _, rfl, by simp, lit_two w _ _⟩
set_option maxHeartbeats 8000000 in
set_option maxRecDepth 100000 in
theorem shortSome (w : World) (b r n : Nat) (k : Int) (hb : b < 18446744073709551616) (hr : r = b % 9223372036854775808) (h0 : 0 < r) (hi : r < 9218868437227405312) (hn : n < 18446744073709551616) (htab : Lib.TabIs Tryd.prog w "internal/strconv.uint64pow10" .u64 Lib.pow10Tab) :
    Calls Tryd.prog 7 #[.int .u64 (b : Int), .int .u64 (n : Int), .int .i64 k] w fun e w' => e = .returned (.bool true) ∧ Below w.heap.size w w' := by
  have K0 := hide (floats_any w)
  have KS := hide (short_any w b r hb hr h0 hi htab)
  have an := andNot_top b hb
  rw [← hr] at an
  have HI := hide (And.intro h0 hi)
  obtain ⟨tw1, tw2⟩ := two_words n hn
  have TW := hide (And.intro tw1 tw2)
  clear htab hr h0 hi tw1 tw2
  go_enter Tryd.func7, Tryd.ntmps7
  go_wp2_with fail
  refine (unhide K0).mono ?_
  rintro _ w1 ⟨rfl, rfl⟩
  go_wp2_with fail
  refine (unhide KS).mono ?_
  rintro _ w2 ⟨⟨d, ten, rfl, hd10, hd64, t1, t2, j, hB⟩, b2⟩
  clear K0 KS
  rw [decDigits_decs]
  have SL := hide (fun (h : (decs n).length < (decs d).length) (hk : -1000 ≤ k) (hn : NearD n k r) => short_least (unhide HI).1 (unhide HI).2 hB hd10 h hk hn)
  have B3 : Hid (Below w1.heap.size w1 (w2.alloc (.cells #[.int .u32 ((n : Int) % 4294967296), .int .u32 ((n : Int) / 4294967296)] 40))) := hide (b2.alloc b2.size _)
  have W3 := hide (lit_parts w2 n)
  obtain ⟨S, hS⟩ : ∃ S : ByteArray, S = ⟨(decs d).toArray⟩ := ⟨_, rfl⟩
  have hSs : S.size = (decs d).length := by rw [hS, bytes_len]
  rw [← hS]
  obtain ⟨N, hN⟩ : ∃ N : ByteArray, N = ⟨(decs n).toArray⟩ := ⟨_, rfl⟩
  have hNs : N.size = (decs n).length := by rw [hN, bytes_len]
  have D20 : (decs d).length ≤ 20 := decs_length_le (k := 20) (Nat.lt_of_lt_of_le hd64 (by decide)) (by decide)
  have N20 : (decs n).length ≤ 20 := decs_length_le (k := 20) (Nat.lt_of_lt_of_le hn (by decide)) (by decide)
  have KT : ∀ (W : World), WSl W (.slice (some ⟨w2.heap.size, 0, none⟩) 2 2) [n % 4294967296, n / 4294967296] → Hid (Calls Tryd.prog 19 #[.slice (some ⟨w2.heap.size, 0, none⟩) 2 2] W fun e w' => e = .returned (.string N) ∧ Below W.heap.size W w') := fun W h => hide (by
    have := text_any W _ _ h (unhide TW).1 (by simp)
    rw [(unhide TW).2, ← hN] at this
    exact this)
  have KNL : ∀ (W : World), (k < -1000 ∨ 1000 < k) → WSl W (.slice (some ⟨w2.heap.size, 0, none⟩) 2 2) [n % 4294967296, n / 4294967296] → Hid (Calls Tryd.prog 18 #[.slice (some ⟨w2.heap.size, 0, none⟩) 2 2, .int .i64 k] W fun e w' => e = .returned (.tuple #[.int .u64 0, .int .i64 2]) ∧ Below W.heap.size W w') := fun W hk h => hide (nearW_large W _ _ k h (unhide TW).1 (by simp) (.inr hk))
  have KNR : ∀ (W : World), -1000 ≤ k → k ≤ 1000 → WSl W (.slice (some ⟨w2.heap.size, 0, none⟩) 2 2) [n % 4294967296, n / 4294967296] → Hid (Calls Tryd.prog 18 #[.slice (some ⟨w2.heap.size, 0, none⟩) 2 2, .int .i64 k] W fun e w' => ∃ r : Nat, e = .returned (.tuple #[.int .u64 r, .int .i64 0]) ∧ NearD n k r ∧ Below W.heap.size W w') := fun W h1 h2 h => hide (by
    have := nearW_any W _ _ k h (unhide TW).1 (by simp) (by rw [(unhide TW).2]; exact Nat.le_trans (bits_le (k := 64) (Nat.lt_of_lt_of_le hn (by decide))) (by decide)) h1 h2
    rw [(unhide TW).2] at this
    exact this)
  clear hB b2 hS hN TW
  go_upto_region 5 with fail
  generalize w2.heap.size = g2 at *
  generalize w2.alloc (.cells #[.int .u32 ((n : Int) % 4294967296), .int .u32 ((n : Int) / 4294967296)] 40) = w3 at *
  by_cases c1 : (decs n).length < (decs d).length
  · have i1 : ¬ (N.size : Int) ≥ (S.size : Int) := by omega
    go_wp2_with fail
    refine (unhide (KT _ (unhide W3))).mono ?_
    rintro _ w4 ⟨rfl, b4⟩
    have B4 := hide ((unhide B3).trans (b4.mono (unhide B3).size))
    have W4 := hide ((unhide W3).below b4)
    clear KT B3 W3 b4
    by_cases c2 : k < -1000 ∨ 1000 < k
    · go_wp2_with fail
      refine (unhide (KNL _ c2 (unhide W4))).mono ?_
      rintro _ w5 ⟨rfl, b5⟩
      have B5 := hide ((unhide B4).trans (b5.mono (unhide B4).size))
      clear KNL KNR B4 W4 b5 SL
      go_wp2
      go_ret
      exact ⟨rfl, unhide B5⟩
    · go_wp2_with fail
      refine (unhide (KNR _ (by omega) (by omega) (unhide W4))).mono ?_
      rintro _ w5 ⟨r', rfl, hr', b5⟩
      have ne : r' ≠ r := by
        rintro rfl
        exact unhide SL c1 (by omega) hr'
      have i2 : ((r' : Int) != (r : Int)) = true := bne_iff_ne.2 (by omega)
      have i3 : ¬ (r' : Int) = (r : Int) := by omega
      have B5 := hide ((unhide B4).trans (b5.mono (unhide B4).size))
      clear KNL KNR B4 W4 b5 SL hr' ne
      go_wp2
      go_ret
      exact ⟨rfl, unhide B5⟩
  · have i1 : (N.size : Int) ≥ (S.size : Int) := by omega
    go_wp2_with fail
    refine (unhide (KT _ (unhide W3))).mono ?_
    rintro _ w4 ⟨rfl, b4⟩
    have B4 := hide ((unhide B3).trans (b4.mono (unhide B3).size))
    clear KT B3 W3 b4 KNL KNR SL
    go_wp2
    go_ret
    exact ⟨rfl, unhide B4⟩
theorem lawShortF (w : World) (b n : Nat) (k : Int) (hb : b < 18446744073709551616) (hn : n < 18446744073709551616) (htab : Lib.TabIs Tryd.prog w "internal/strconv.uint64pow10" .u64 Lib.pow10Tab) :
    Calls Tryd.prog 7 #[.int .u64 (b : Int), .int .u64 (n : Int), .int .i64 k] w fun e w' => e = .returned (.bool true) ∧ Below w.heap.size w w' := by
  by_cases h : b % 9223372036854775808 = 0 ∨ 9218868437227405312 ≤ b % 9223372036854775808
  · exact shortNone w b _ n k hb rfl h hn
  · exact shortSome w b _ n k hb rfl (by omega) (by omega) hn htab
end Go.Proofs.YtobbbhmkcmbekaaDoor.bigs
