/- The document's ReadNum. -/
import Derived.Test.YtjlbbmpefjkamaaDoorNumRefN
set_option linter.unusedVariables false
namespace Go.Proofs.YtjlbbmpefjkamaaDoor.bigs
open Go.RowKit
theorem val_small_from {b : Nat} (hb : b ≤ 16) : ∀ (l : List UInt8) (q : Bool) (n k : Nat), formG b q l = true → n < 10000 ^ k → valG b n l < 10000 ^ (k + l.length) := by
  intro l
  induction l with
  | nil => intro q n k _ h; exact h
  | cons c r ih =>
    intro q n k hf h
    rw [formG] at hf
    rw [valG, List.length_cons, show k + (r.length + 1) = (k + 1) + r.length by omega]
    split at hf
    · rename_i hc
      rw [if_pos hc.1]
      refine ih false n (k + 1) hf ?_
      exact Nat.lt_of_lt_of_le h (Nat.pow_le_pow_right (by decide) (by omega))
    · split at hf
      · cases hf
      · rename_i hd
        have c95 : c ≠ 95 := by
          rintro rfl
          rw [hexv_low] at hd
          omega
        rw [if_neg c95]
        exact ih true _ (k + 1) hf (round_len hb (by omega) h)
theorem val_small {b : Nat} {l : List UInt8} (hb : b ≤ 16) (hf : formG b false l = true) : valG b 0 l < 10000 ^ l.length := by
  have := val_small_from hb l false 0 0 hf (by decide)
  rwa [Nat.zero_add] at this
theorem get0 {s : ByteArray} {c : UInt8} {r : List UInt8} (h : s.data.toList = c :: r) : ∃ h0 : 0 < s.size, (s[0]'h0) = c := by
  have h0 : 0 < s.size := by rw [← nlen, h]; simp
  refine ⟨h0, ?_⟩
  have := ndrop s 0 h0
  rw [List.drop_zero, h] at this
  injection this with e _
  exact e.symm
theorem get1 {s : ByteArray} {c d : UInt8} {r : List UInt8} (h : s.data.toList = c :: d :: r) : ∃ h1 : 1 < s.size, (s[1]'h1) = d := by
  have h1 : 1 < s.size := by rw [← nlen, h]; simp
  refine ⟨h1, ?_⟩
  have := ndrop s 1 h1
  rw [h] at this
  injection this with e _
  exact e.symm
theorem ext_rest {s : ByteArray} {k : Nat} : s.extract k s.size = ⟨(s.data.toList.drop k).toArray⟩ := by
  apply ByteArray.ext
  apply Array.toList_inj.1
  have e : (s.extract k s.size).data.toList = (s.data.toList.take s.size).drop k := by
    rw [ByteArray.data_extract, Array.toList_extract]
    simp [List.extract, List.drop_take]
  rw [e, List.take_of_length_le (by rw [nlen]; exact Nat.le_refl _)]
theorem list_mk (l : List UInt8) : (⟨l.toArray⟩ : ByteArray).data.toList = l := by simp
set_option maxHeartbeats 1000000 in
theorem refNum_any (w : World) (s : ByteArray) (hs : s.size ≤ 80) :
    Calls Tryd.prog 19 #[.string s] w fun e w' => ∃ v, e = .returned (.tuple #[.bool (signCut s.data.toList).1, v, .bool (formedL (baseCut (signCut s.data.toList).2).1 (baseCut (signCut s.data.toList).2).2)]) ∧ (formedL (baseCut (signCut s.data.toList).2).1 (baseCut (signCut s.data.toList).2).2 = true → Lies w' v (valG (baseCut (signCut s.data.toList).2).1 0 (baseCut (signCut s.data.toList).2).2)) ∧ Below w.heap.size w w' := by
  have L1 := signCut_len s.data.toList
  rw [nlen] at L1
  obtain ⟨t, ht⟩ : ∃ t : ByteArray, t = ⟨(signCut s.data.toList).2.toArray⟩ := ⟨_, rfl⟩
  have htl : t.data.toList = (signCut s.data.toList).2 := by rw [ht, list_mk]
  have hts : t.size ≤ 80 := by rw [← nlen, htl]; omega
  obtain ⟨G, L2⟩ := baseCut_good (signCut s.data.toList).2
  rw [← htl] at G L2 ⊢
  obtain ⟨D, hD⟩ : ∃ D : ByteArray, D = ⟨(baseCut t.data.toList).2.toArray⟩ := ⟨_, rfl⟩
  have hDl : D.data.toList = (baseCut t.data.toList).2 := by rw [hD, list_mk]
  have hDs : D.size ≤ 80 := by rw [← nlen, hDl]; rw [nlen] at L2; omega
  have b16 : (baseCut t.data.toList).1 ≤ 16 := by unfold GoodB at G; omega
  have b2 : 2 ≤ (baseCut t.data.toList).1 := by unfold GoodB at G; omega
  rw [← hDl]
  obtain ⟨b, hb⟩ : ∃ b, b = (baseCut t.data.toList).1 := ⟨_, rfl⟩
  rw [← hb] at b16 b2 ⊢
  have sgn : ((signCut s.data.toList).1 = true ∧ ∃ h : 0 < s.size, (s[0]'h).toNat = 45 ∧ s.extract 1 s.size = t) ∨ ((signCut s.data.toList).1 = false ∧ t = s ∧ ∀ h : 0 < s.size, (s[0]'h).toNat ≠ 45) := by
    cases hl : s.data.toList with
    | nil =>
      right
      rw [hl] at ht
      refine ⟨rfl, ?_, fun h => by rw [← nlen, hl] at h; simp at h⟩
      rw [ht, ← back_list s, hl]
      rfl
    | cons c r =>
      obtain ⟨h0, e0⟩ := get0 hl
      rw [hl] at ht
      by_cases e : c = 45
      · left
        refine ⟨by rw [signCut, if_pos e], h0, by rw [e0, e]; rfl, ?_⟩
        rw [ht, ext_rest, hl, signCut, if_pos e]
        rfl
      · right
        refine ⟨by rw [signCut, if_neg e], ?_, fun h h45 => e ?_⟩
        · rw [ht, signCut, if_neg e]
          rw [← back_list s, hl]
        · rw [← e0]
          exact (u8_eq _ 45 (by decide)).2 h45
  have way : (∃ r, t.data.toList = 48 :: 98 :: r ∧ b = 2 ∧ D.data.toList = r) ∨ (∃ r, t.data.toList = 48 :: 111 :: r ∧ b = 8 ∧ D.data.toList = r) ∨ (∃ r, t.data.toList = 48 :: 120 :: r ∧ b = 16 ∧ D.data.toList = r) ∨ (b = 10 ∧ D = t ∧ (∀ r, t.data.toList ≠ 48 :: 98 :: r) ∧ (∀ r, t.data.toList ≠ 48 :: 111 :: r) ∧ (∀ r, t.data.toList ≠ 48 :: 120 :: r)) := by
    by_cases h2 : ∃ r, t.data.toList = 48 :: 98 :: r
    · obtain ⟨r, e⟩ := h2
      exact .inl ⟨r, e, by rw [hb, e]; rfl, by rw [hDl, e]; rfl⟩
    · by_cases h8 : ∃ r, t.data.toList = 48 :: 111 :: r
      · obtain ⟨r, e⟩ := h8
        exact .inr (.inl ⟨r, e, by rw [hb, e]; rfl, by rw [hDl, e]; rfl⟩)
      · by_cases h16 : ∃ r, t.data.toList = 48 :: 120 :: r
        · obtain ⟨r, e⟩ := h16
          exact .inr (.inr (.inl ⟨r, e, by rw [hb, e]; rfl, by rw [hDl, e]; rfl⟩))
        · have e := baseCut_none (fun r e => h2 ⟨r, e⟩) (fun r e => h8 ⟨r, e⟩) (fun r e => h16 ⟨r, e⟩)
          refine .inr (.inr (.inr ⟨by rw [hb, e], by rw [hD, e, back_list], fun r e => h2 ⟨r, e⟩, fun r e => h8 ⟨r, e⟩, fun r e => h16 ⟨r, e⟩⟩))
  obtain ⟨z, hz⟩ : ∃ z : Bool, z = true ↔ ∃ d r, t.data.toList = 48 :: d :: r := by
    classical
    exact ⟨decide (∃ d r, t.data.toList = 48 :: d :: r), by simp⟩
  obtain ⟨bad, hbad⟩ : ∃ bad : Bool, bad = true ↔ (D.size = 0 ∨ D.data.toList[0]? = some 95 ∨ D.data.toList[D.size - 1]? = some 95) := by
    classical
    exact ⟨decide (D.size = 0 ∨ D.data.toList[0]? = some 95 ∨ D.data.toList[D.size - 1]? = some 95), by simp⟩
  have ext2 : ∀ {c d : UInt8} {r : List UInt8}, t.data.toList = c :: d :: r → D.data.toList = r → t.extract 2 t.size = D := fun e1 e2 => by
    rw [ext_rest, e1, ← back_list D, e2]
    rfl
  refine refNum_core w s t D _ z bad (formedL b D.data.toList) b hs hts hDs b16 b2 (hide sgn) (hide ?_) (hide hbad) (hide ?_)
  · rcases way with ⟨r, e, e2, e3⟩ | ⟨r, e, e2, e3⟩ | ⟨r, e, e2, e3⟩ | ⟨e2, e3, n2, n8, n16⟩
    · obtain ⟨h0, g0⟩ := get0 e
      obtain ⟨h1, g1⟩ := get1 e
      exact .inl ⟨hz.2 ⟨_, _, e⟩, h0, h1, by rw [g0]; rfl, .inr (.inr (.inl ⟨by rw [g1]; rfl, e2, ext2 e e3⟩))⟩
    · obtain ⟨h0, g0⟩ := get0 e
      obtain ⟨h1, g1⟩ := get1 e
      exact .inl ⟨hz.2 ⟨_, _, e⟩, h0, h1, by rw [g0]; rfl, .inr (.inl ⟨by rw [g1]; rfl, e2, ext2 e e3⟩)⟩
    · obtain ⟨h0, g0⟩ := get0 e
      obtain ⟨h1, g1⟩ := get1 e
      exact .inl ⟨hz.2 ⟨_, _, e⟩, h0, h1, by rw [g0]; rfl, .inl ⟨by rw [g1]; rfl, e2, ext2 e e3⟩⟩
    · by_cases c : ∃ d r, t.data.toList = 48 :: d :: r
      · obtain ⟨d, r, e⟩ := c
        obtain ⟨h0, g0⟩ := get0 e
        obtain ⟨h1, g1⟩ := get1 e
        refine .inl ⟨hz.2 ⟨_, _, e⟩, h0, h1, by rw [g0]; rfl, .inr (.inr (.inr ⟨?_, ?_, ?_, ?_⟩))⟩
        · intro x; rw [g1] at x; exact n16 r (by rw [e, (u8_eq d 120 (by decide)).2 x]; rfl)
        · intro x; rw [g1] at x; exact n8 r (by rw [e, (u8_eq d 111 (by decide)).2 x]; rfl)
        · intro x; rw [g1] at x; exact n2 r (by rw [e, (u8_eq d 98 (by decide)).2 x]; rfl)
        · rw [e2, e3, e]
          simp [formedL]
      · refine .inr ⟨?_, e2, e3, fun h0 h1 x => c ?_⟩
        · cases hzz : z with
          | false => rfl
          | true => exact absurd (hz.1 hzz) c
        · have d0 := ndrop t 0 h0
          rw [List.drop_zero, (u8_eq _ 48 (by decide)).2 x, ndrop t 1 h1] at d0
          exact ⟨_, _, d0⟩
  · rcases way with ⟨r, e, e2, e3⟩ | ⟨r, e, e2, e3⟩ | ⟨r, e, e2, e3⟩ | ⟨e2, e3, n2, n8, n16⟩
    · left; unfold formedL; rw [e2]; simp
    · left; unfold formedL; rw [e2]; simp
    · left; unfold formedL; rw [e2]; simp
    · by_cases c : ∃ d r, t.data.toList = 48 :: d :: r
      · obtain ⟨d, r, e⟩ := c
        obtain ⟨h1, g1⟩ := get1 e
        right
        refine ⟨hz.2 ⟨_, _, e⟩, by rw [e2, e3, e]; simp [formedL], h1, ?_, ?_, ?_⟩
        · intro x; rw [g1] at x; exact n16 r (by rw [e, (u8_eq d 120 (by decide)).2 x]; rfl)
        · intro x; rw [g1] at x; exact n8 r (by rw [e, (u8_eq d 111 (by decide)).2 x]; rfl)
        · intro x; rw [g1] at x; exact n2 r (by rw [e, (u8_eq d 98 (by decide)).2 x]; rfl)
      · left
        unfold formedL
        rw [e3]
        cases ht2 : t.data.toList with
        | nil => simp
        | cons a r =>
          cases r with
          | nil => simp
          | cons d r =>
            have : a ≠ 48 := fun x => c ⟨d, r, by rw [ht2, x]⟩
            simp [this]
theorem i64_ten (y : Nat) (h : y * 10000 ≤ 9223372036854775808) : IntKind.i64.wrap (-(y : Int) * 10000) = -((y * 10000 : Nat) : Int) := by
  rw [i64_id _ (by omega) (by omega)]
  omega
theorem i64_sub (y d : Nat) (h : y * 10000 + d ≤ 9223372036854775808) : IntKind.i64.wrap (-((y * 10000 : Nat) : Int) - (d : Int)) = -((y * 10000 + d : Nat) : Int) := by
  rw [i64_id _ (by omega) (by omega)]
  omega
theorem power_63 (w : World) : Calls Tryd.prog 20 #[.int .u64 2, .int .i64 63] w fun e w' => ∃ v, e = .returned v ∧ Lies w' v 9223372036854775808 ∧ Below w.heap.size w w' := power_any w 2 63 (by decide) (by decide)
theorem val_part {V k : Nat} : val ((dig V).drop k) ≤ V := by
  obtain ⟨t, e, _⟩ := split_val (dig V) k (small_dig V)
  rw [val_dig] at e
  have : 1 * val ((dig V).drop k) ≤ 10000 ^ k * val ((dig V).drop k) := Nat.mul_le_mul_right _ (Nat.pow_pos (by decide))
  omega
set_option maxHeartbeats 16000000 in
set_option maxRecDepth 100000 in
theorem refRead_good (w : World) (s : ByteArray) (below : Bool) (V : Nat) (R : Int × Int) (hs : s.size ≤ 80)
    (KN : Hid (Calls Tryd.prog 19 #[.string s] w fun e w' => ∃ v, e = .returned (.tuple #[.bool below, v, .bool true]) ∧ Lies w' v V ∧ Below w.heap.size w w'))
    (hV : Hid ((dig V).length ≤ 1048576)) (hR : Hid (R = if limitOf below < V then (0, 7) else (if below then -(V : Int) else (V : Int), 0))) :
    Calls Tryd.prog 8 #[.string s] w fun e w' => e = .returned (.tuple #[.int .i64 R.1, .int .i64 R.2]) ∧ Below w.heap.size w w' := by
  have i0 : ¬ (80 : Int) < (s.size : Int) := by omega
  have DP : Hid ((dig 9223372036854775808).length ≤ 1048576) := hide (by have : (dig 9223372036854775808).length ≤ 5 := dig_length_le (by decide); omega)
  go_enter Tryd.func8, Tryd.ntmps8
  go_wp2_with fail
  refine (unhide KN).mono ?_
  rintro _ w1 ⟨v1, rfl, L1, b1⟩
  clear KN
  go_wp2_with fail
  refine (power_63 w1).mono ?_
  rintro _ w2 ⟨v2, rfl, L2, b2⟩
  have L12 := L1.below b2
  have B2 := hide (b1.trans (b2.mono b1.size))
  clear L1 b1 b2
  go_wp2_with fail
  refine (against_any w2 v1 v2 V 9223372036854775808 (unhide hV) (unhide DP) L12 L2).mono ?_
  rintro _ w3 ⟨rfl, rfl⟩
  clear L2 DP hV
  by_cases c1 : 9223372036854775808 < V
  · have E : Hid (R = (0, 7)) := hide (by rw [unhide hR, if_pos (by unfold limitOf; split <;> omega)])
    have e1 : sgn V 9223372036854775808 = 1 := sgn_gt c1
    rw [e1]
    clear hR L12 e1 c1
    go_wp2
    go_ret2
    rw [unhide E]
    exact ⟨rfl, unhide B2⟩
  · by_cases c2 : V = 9223372036854775808 ∧ below = false
    · obtain ⟨c3, rfl⟩ := c2
      have E : Hid (R = (0, 7)) := hide (by rw [unhide hR, if_pos (by unfold limitOf; simp; omega)])
      have e1 : sgn V 9223372036854775808 = 0 := sgn_eq c3
      rw [e1]
      clear hR L12 e1 c1 c3
      go_wp2
      go_ret2
      rw [unhide E]
      exact ⟨rfl, unhide B2⟩
    · have E : Hid (R = (if below then -(V : Int) else (V : Int), 0)) := hide (by
        rw [unhide hR, if_neg]
        unfold limitOf
        split
        · omega
        · have : ¬ V = 9223372036854775808 := fun e => c2 ⟨e, by rename_i hb; simpa using hb⟩
          omega)
      have e1 : (sgn V 9223372036854775808 = -1) ∨ (sgn V 9223372036854775808 = 0 ∧ below = true) := by
        by_cases c3 : V = 9223372036854775808
        · right
          refine ⟨sgn_eq c3, ?_⟩
          cases hb : below with
          | true => rfl
          | false => exact absurd ⟨c3, hb⟩ c2
        · exact .inl (sgn_lt (by omega))
      have V63 : Hid (V ≤ 9223372036854775808 ∧ (below = false → V ≤ 9223372036854775807)) := hide ⟨by omega, fun h => by
        have : ¬ V = 9223372036854775808 := fun e => c2 ⟨e, h⟩
        omega⟩
      obtain ⟨a, cap, rfl, hc, hrow⟩ := L12
      have HROW := hide hrow
      have A5 : (dig V).length ≤ 5 := dig_length_le (by have := (unhide V63).1; omega)
      have HP : Hid (∀ k, val ((dig V).drop k) ≤ 9223372036854775808) := hide (fun k => Nat.le_trans val_part (unhide V63).1)
      have HV0 : Hid (val ((dig V).drop 0) = V) := hide (by rw [List.drop_zero, val_dig])
      have three : (sgn V 9223372036854775808 = -1 ∧ below = false) ∨ (sgn V 9223372036854775808 = -1 ∧ below = true) ∨ (sgn V 9223372036854775808 = 0 ∧ below = true) := by
        rcases e1 with e | ⟨e, h⟩
        · cases hb : below with
          | false => exact .inl ⟨e, rfl⟩
          | true => exact .inr (.inl ⟨e, rfl⟩)
        · exact .inr (.inr ⟨e, h⟩)
      clear hR hrow c1 c2 e1
      generalize sgn V 9223372036854775808 = sg at *
      generalize dig V = A at *
      rcases three with ⟨rfl, rfl⟩ | ⟨rfl, rfl⟩ | ⟨rfl, rfl⟩
      all_goals
        go_wp2
        go_loopw [9, 10] (fun o i wr => ∃ (k y : Nat), o = .int .i64 (-(y : Int)) ∧ i = .int .i64 ((k : Int) - 1) ∧ k ≤ A.length ∧ Hid (y = val (A.drop k)) ∧ w3 = wr) (fun _ i _ => (intOf i + 1).toNat)
        case atStart => exact ⟨A.length, 0, rfl, by first | rfl | go_num, Nat.le_refl _, hide (by rw [List.drop_length]; rfl), by trivial⟩
        case round =>
          obtain ⟨k, y, rfl, rfl, hk, hy, rfl⟩ := hrel
          cases k with
          | zero =>
            have e : y = V := by rw [unhide hy, unhide HV0]
            subst e
            try have z1 : IntKind.i64.wrap (y : Int) = (y : Int) := i64_id _ (by omega) (by first | exact Int.ofNat_le.2 ((unhide V63).2 rfl) | exact Int.ofNat_le.2 ((unhide V63).2 trivial))
            try have z2 : IntKind.i64.wrap (-(-(y : Int))) = (y : Int) := by rw [Int.neg_neg]; exact i64_id _ (by omega) (by first | exact Int.ofNat_le.2 ((unhide V63).2 rfl) | exact Int.ofNat_le.2 ((unhide V63).2 trivial))
            clear hy HP HV0 HROW
            go_wp2
            go_ret2
            rw [unhide E]
            exact ⟨by first | rfl | simp, unhide B2⟩
          | succ j =>
            have e0 : ((j + 1 : Nat) : Int) - 1 = (j : Int) := by omega
            rw [e0]
            obtain ⟨b, o, rfl, hb, hcell⟩ := unhide HROW (by intro e; rw [e] at hk; simp at hk)
            have c1 : w3.cell? ⟨b, o + j, none⟩ = some (.int .i64 ((A.getD j 0 : Nat) : Int)) := hcell j (by omega)
            have HN : Hid (y * 10000 + A.getD j 0 = val (A.drop j)) := hide (by rw [drop_val A j, unhide hy]; omega)
            have bd := unhide HP j
            rw [← unhide HN] at bd
            have y1 := i64_ten y (by omega)
            have y2 := i64_sub y (A.getD j 0) bd
            have l1 : (j : Int) < (A.length : Int) := by omega
            clear hcell hy HP HV0 HROW
            generalize A.getD j 0 = d at *
            generalize y * 10000 + d = q at *
            generalize y * 10000 = q0 at *
            clear bd
            go_wp2
            go_roundw
            case rel => exact ⟨j, q, by first | rfl | simp, by first | rfl | go_num, by omega, HN, by trivial⟩
            case measure => simp only [intOf]; omega
set_option maxHeartbeats 4000000 in
set_option maxRecDepth 100000 in
theorem refRead_any (w : World) (s : ByteArray) :
    Calls Tryd.prog 8 #[.string s] w fun e w' => e = .returned (.tuple #[.int .i64 (numRes s.data.toList).1, .int .i64 (numRes s.data.toList).2]) ∧ Below w.heap.size w w' := by
  by_cases h : 80 < s.size
  · have E : numRes s.data.toList = (0, 2) := by unfold numRes; rw [nlen, if_pos h]
    rw [E]
    have i00 : (80 : Int) < (s.size : Int) := by omega
    clear E
    go_enter Tryd.func8, Tryd.ntmps8
    go_wp2
    go_ret2
    exact ⟨rfl, Below.refl _ _⟩
  · have E : numRes s.data.toList = bodyRes (signCut s.data.toList).1 (baseCut (signCut s.data.toList).2).1 (baseCut (signCut s.data.toList).2).2 := by unfold numRes; rw [nlen, if_neg h]
    have KN := refNum_any w s (by omega)
    have L1 := signCut_len s.data.toList
    obtain ⟨G, L2⟩ := baseCut_good (signCut s.data.toList).2
    rw [nlen] at L1
    rw [E]
    clear E
    generalize (signCut s.data.toList).1 = below at *
    generalize hbd : baseCut (signCut s.data.toList).2 = bd at *
    obtain ⟨b, d⟩ := bd
    simp only at *
    unfold bodyRes
    cases hf : formedL b d with
    | false =>
      rw [if_pos rfl]
      rw [hf] at KN
      have K := hide KN
      have i00 : ¬ (80 : Int) < (s.size : Int) := by omega
      clear KN hf G L1 L2 hbd
      go_enter Tryd.func8, Tryd.ntmps8
      go_wp2_with fail
      refine (unhide K).mono ?_
      rintro _ w1 ⟨v1, rfl, _, b1⟩
      have B1 := hide b1
      clear b1 K
      go_wp2
      go_ret2
      exact ⟨rfl, unhide B1⟩
    | true =>
      rw [if_neg (by decide)]
      rw [hf] at KN
      have hlen : valG b 0 d < 10000 ^ d.length := val_small (by unfold GoodB at G; omega) (formed_form hf).1
      refine refRead_good w s below (valG b 0 d) _ (by omega) (hide (KN.mono ?_)) (hide (dig_80 (k := d.length) (by omega) hlen)) (hide rfl)
      rintro e w' ⟨v, h1, h2, h3⟩
      exact ⟨v, h1, h2 rfl, h3⟩
end Go.Proofs.YtjlbbmpefjkamaaDoor.bigs
