/- The law FloatBack: the short digits of a fraction tell it. -/
import Derived.Test.YtobbbhmkcmbekaaDoorFloatShortW
import Derived.Test.YtobbbhmkcmbekaaDoorFloatAlive
import Derived.Test.YtobbbhmkcmbekaaDoorWordRead
import Derived.Test.YtobbbhmkcmbekaaDoorWordText
import Derived.Laws.BitsAllLaws
set_option linter.unusedVariables false
namespace Go.Proofs.YtobbbhmkcmbekaaDoor.bigs
open Go.RowKit

theorem andNot_top (x : Nat) (hx : x < 18446744073709551616) : Go.bits .andNot .u64 (x : Int) 9223372036854775808 = ((x % 9223372036854775808 : Nat) : Int) := by
  have h := u64_andNot_nat x 9223372036854775808 hx (by decide)
  have e : (18446744073709551615 - 9223372036854775808 : Nat) = 2 ^ 63 - 1 := by decide
  rw [e, Nat.and_two_pow_sub_one_eq_mod] at h
  exact h
theorem decDigits_decs (n : Nat) : Lib.decDigits n = decs n := by
  induction n using Nat.strongRecOn with
  | ind n ih =>
    by_cases h : n < 10
    · rw [Lib.decDigits, dif_pos h]
      unfold decs
      by_cases z : n = 0
      · rw [if_pos z, z]; rfl
      · rw [if_neg z, toDec_pos z, show n / 10 = 0 by omega, toDec_zero, Nat.mod_eq_of_lt h]; rfl
    · rw [Lib.decDigits, dif_neg h, ih _ (by omega)]
      unfold decs
      rw [if_neg (by omega), if_neg (by omega), toDec_pos (n := n) (by omega)]
/-- What is the pick of its level is near. -/
theorem ten_cross (d : Nat) (x : Int) (h1 : -1080 ≤ x) : d * 10 ^ x.toNat * T10 = d * 10 ^ (x + 1080).toNat * 10 ^ (-x).toNat := by
  rcases Int.le_total 0 x with h | h
  · have e1 : (x + 1080).toNat = x.toNat + c80 := by unfold c80; omega
    have e2 : (-x).toNat = 0 := by omega
    rw [e1, e2, Nat.pow_add, Nat.pow_zero, Nat.mul_one, Nat.mul_assoc]
    rfl
  · have e1 : x.toNat = 0 := by omega
    have e2 : 1080 = (x + 1080).toNat + (-x).toNat := by omega
    rw [e1, Nat.pow_zero, Nat.mul_one]
    exact T10_split d e2
theorem okay_nearD {r d : Nat} {x : Int} (h0 : 0 < r) (hi : r < 9218868437227405312) (h1 : -1080 ≤ x) (hd : d ≠ 0) : NearD d x r ↔ Okay r (d * 10 ^ (x + 1080).toNat) := by
  have h := near_okay (pow10_pos (-x).toNat) h0 hi (ten_cross d x h1)
  unfold NearD
  constructor
  · rintro (⟨e, _⟩ | ⟨_, k⟩)
    · exact absurd e hd
    · exact h.1 k
  · intro k
    exact .inr ⟨hd, h.2 k⟩
theorem decs_front {d : Nat} (hd : d ≠ 0) : (decs d).getD 0 0 ≠ 48 := by
  obtain ⟨h1, h2, h3⟩ := decs_form d
  rcases h3 with h | h
  · exact h
  · intro e
    have : decs d = [48] := by
      cases hl : decs d with
      | nil => exact absurd hl h1
      | cons a r =>
        rw [hl] at h e
        cases r with
        | nil => simp at e; rw [e]
        | cons x y => simp at h
    have v := dec_decs d
    rw [this] at v
    exact hd (by rw [← v]; rfl)
theorem decs_rear {d : Nat} (hd : d % 10 ≠ 0) : ∃ l c, decs d = l ++ [c] ∧ c ≠ 48 := by
  unfold decs
  rw [if_neg (by omega), toDec_pos (by omega)]
  refine ⟨_, _, rfl, ?_⟩
  have : ∀ k : Fin 10, k.1 ≠ 0 → UInt8.ofNat (48 + k.1) ≠ 48 := by decide
  exact this ⟨d % 10, by omega⟩ hd
theorem bytes_len (l : List UInt8) : (⟨l.toArray⟩ : ByteArray).size = l.length := by simp [ByteArray.size]
theorem back_none_plain {b r : Nat} (hr : r = b % 9223372036854775808) (hb : b < 18446744073709551616) (h0 : r = 0 ∨ 9218868437227405312 ≤ r) : (fparts b).2.2 = 1 ∨ (fparts b).2.2 = 2 ∨ ((fparts b).2.2 = 0 ∧ (fparts b).1 = 0) := by
  unfold fparts
  by_cases c : b / 4503599627370496 % 2048 = 2047
  · rw [if_pos c]
    by_cases c2 : b % 4503599627370496 = 0
    · rw [if_pos c2]; exact .inl rfl
    · rw [if_neg c2]; exact .inr (.inl rfl)
  · rw [if_neg c, if_pos (by omega)]
    exact .inr (.inr ⟨rfl, by simp only; omega⟩)
set_option maxHeartbeats 8000000 in
set_option maxRecDepth 100000 in
theorem backNone (w : World) (b r : Nat) (hb : b < 18446744073709551616) (hr : r = b % 9223372036854775808) (h0 : r = 0 ∨ 9218868437227405312 ≤ r) :
    Calls Tryd.prog 6 #[.int .u64 (b : Int)] w fun e w' => e = .returned (.bool true) ∧ Below w.heap.size w w' := by
  have K0 := hide (floats_any w)
  have KS := hide (short_none w b r hb hr h0)
  have kp := partsW_any w b hb
  have hf := back_none_plain hr hb h0
  generalize (fparts b).2.2 = kd at *
  generalize (fparts b).2.1 = ex at *
  generalize (fparts b).1 = mt at *
  have KP := hide kp
  clear kp hr h0
  rcases hf with rfl | rfl | ⟨rfl, rfl⟩
  all_goals
    go_enter Tryd.func6, Tryd.ntmps6
    go_wp2_with fail
    refine (unhide K0).mono ?_
    rintro _ w1 ⟨rfl, rfl⟩
    go_wp2_with fail
    refine (unhide KS).mono ?_
    rintro _ w2 ⟨rfl, rfl⟩
    go_wp2_with fail
    refine (unhide KP).mono ?_
    rintro _ w3 ⟨rfl, rfl⟩
    clear K0 KS KP
    go_wp2
    go_ret
    exact ⟨rfl, Below.refl _ _⟩
set_option maxHeartbeats 8000000 in
set_option maxRecDepth 100000 in
theorem backSome (w : World) (b r : Nat) (hb : b < 18446744073709551616) (hr : r = b % 9223372036854775808) (h0 : 0 < r) (hi : r < 9218868437227405312) (htab : Lib.TabIs Tryd.prog w "internal/strconv.uint64pow10" .u64 Lib.pow10Tab) :
    Calls Tryd.prog 6 #[.int .u64 (b : Int)] w fun e w' => e = .returned (.bool true) ∧ Below w.heap.size w w' := by
  have K0 := hide (floats_any w)
  have KS := hide (short_any w b r hb hr h0 hi htab)
  have an := andNot_top b hb
  rw [← hr] at an
  have HI := hide (And.intro h0 hi)
  clear htab hr h0 hi
  go_enter Tryd.func6, Tryd.ntmps6
  go_wp2_with fail
  refine (unhide K0).mono ?_
  rintro _ w1 ⟨rfl, rfl⟩
  go_wp2_with fail
  refine (unhide KS).mono ?_
  rintro _ w2 ⟨⟨d, ten, rfl, hd10, hd64, t1, t2, j, hB⟩, b2⟩
  clear K0 KS
  have hd0 : d ≠ 0 := by omega
  have h17 := best_17 (unhide HI).1 hB rfl hd10
  have ND : NearD d ten r := (okay_nearD (unhide HI).1 (unhide HI).2 (by omega) hd0).2 (pick_okay hB.2.1)
  have L17 : (decs d).length ≤ 17 := decs_length_le h17 (by decide)
  have HN := hide ND
  have B2 := hide b2
  have fr := decs_front hd0
  obtain ⟨pl, pc, hpl, hpc⟩ := decs_rear hd10
  rw [decDigits_decs]
  obtain ⟨S, hS⟩ : ∃ S : ByteArray, S = ⟨(decs d).toArray⟩ := ⟨_, rfl⟩
  rw [← hS]
  have hSl : S.data.toList = decs d := by rw [hS]
  have hSs : S.size = (decs d).length := by rw [hS, bytes_len]
  have KR := hide (read_any w2 S (by omega) (by rw [hSl]; exact decs_form d))
  rw [hSl, dec_decs] at KR
  have s0 : 0 < S.size := by rw [hSs, hpl]; simp
  obtain ⟨m, hm⟩ : ∃ m, S.size = m + 1 := ⟨S.size - 1, by omega⟩
  have mS : m < S.size := by omega
  have e0 : (S[0]'s0) = (decs d).getD 0 0 := by
    have : S.data.toList[0]? = some (S[0]'s0) := List.getElem?_eq_getElem (by rw [blen_list]; exact s0)
    rw [hSl] at this
    rw [List.getD_eq_getElem?_getD, this]
    rfl
  have e1 : (S[m]'mS) = pc := by
    have : S.data.toList[m]? = some (S[m]'mS) := List.getElem?_eq_getElem (by rw [blen_list]; exact mS)
    rw [hSl, hpl] at this
    have hlen : pl.length = m := by
      rw [hSs, hpl, List.length_append] at hm
      simp at hm
      exact hm
    have g : (pl ++ [pc])[m]? = some pc := by
      rw [List.getElem?_append_right (by omega), hlen, Nat.sub_self]
      rfl
    rw [g] at this
    exact (Option.some.inj this).symm
  have n0 : ((S[0]'s0).toNat : Int) ≠ 48 := by
    intro e
    apply fr
    rw [← e0]
    exact UInt8.toNat_inj.1 (by show (S[0]'s0).toNat = 48; omega)
  have n1 : ((S[m]'mS).toNat : Int) ≠ 48 := by
    intro e
    apply hpc
    rw [← e1]
    exact UInt8.toNat_inj.1 (by show (S[m]'mS).toNat = 48; omega)
  have q0 : (((S[0]'s0).toNat : Int) != 48) = true := bne_iff_ne.2 n0
  have q1 : (((S[m]'mS).toNat : Int) != 48) = true := bne_iff_ne.2 n1
  have y1 : IntKind.i64.wrap ((S.size : Int) - 1) = (m : Int) := by
    simp [IntKind.wrap, IntKind.bits, IntKind.signed]
    omega
  have l17 : (S.size : Int) ≤ 17 := by omega
  have l0 : (0 : Int) < (S.size : Int) := by omega
  have lm : (m : Int) < (S.size : Int) := by omega
  clear hpl hpc fr e0 e1 hS hSl hSs hB ND b2 n0 n1 hm
  go_wp2_with fail
  refine (unhide KR).mono ?_
  rintro _ w3 ⟨v3, rfl, hv3, b3⟩
  have B3 := hide ((unhide B2).trans (b3.mono (unhide B2).size))
  have KN := hide (nearW_any w3 v3 (wdig d) ten hv3 (words_wdig d) (Nat.le_trans (wdig_length_le (k := 2) (Nat.lt_of_lt_of_le hd64 (by decide))) (by decide)) (by rw [wval_wdig]; exact Nat.le_trans (bits_le (k := 64) (Nat.lt_of_lt_of_le hd64 (by decide))) (by decide)) (by omega) (by omega))
  rw [wval_wdig] at KN
  clear KR B2 b3
  go_wp2_with fail
  refine (unhide KN).mono ?_
  rintro _ w4 ⟨r', rfl, hr', b4⟩
  have er : r' = r := nearD_unique hr' (unhide HN)
  subst er
  have B4 := hide ((unhide B3).trans (b4.mono (unhide B3).size))
  clear KN B3 b4 hr' HN HI hv3
  go_wp2
  go_ret
  exact ⟨rfl, unhide B4⟩
theorem lawBackF (w : World) (b : Nat) (hb : b < 18446744073709551616) (htab : Lib.TabIs Tryd.prog w "internal/strconv.uint64pow10" .u64 Lib.pow10Tab) :
    Calls Tryd.prog 6 #[.int .u64 (b : Int)] w fun e w' => e = .returned (.bool true) ∧ Below w.heap.size w w' := by
  by_cases h : b % 9223372036854775808 = 0 ∨ 9218868437227405312 ≤ b % 9223372036854775808
  · exact backNone w b _ hb rfl h
  · exact backSome w b _ hb rfl (by omega) (by omega) htab
end Go.Proofs.YtobbbhmkcmbekaaDoor.bigs
