/- The walk of package float: Short. -/
import Derived.Test.YtobbbhmkcmbekaaDoorFloatFmtW
import Derived.Test.YtobbbhmkcmbekaaDoorFloatPartsW
import Derived.Deep.CutRange
set_option linter.unusedVariables false
namespace Go.Proofs.YtobbbhmkcmbekaaDoor.bigs
open Go.RowKit
theorem parts_sign (b r : Nat) (hb : b < 18446744073709551616) (hr : r = b % 9223372036854775808) (h0 : 0 < r) (hi : r < 9218868437227405312) : (fparts b).1 = mant r ∧ (fparts b).2.1 = ((r / 4503599627370496 - 1 : Nat) : Int) - 1074 ∧ (fparts b).2.2 = 0 := by
  unfold fparts mant
  rw [if_neg (by omega)]
  by_cases c : b / 4503599627370496 % 2048 = 0
  · rw [if_pos c, if_pos (by omega)]
    refine ⟨?_, ?_, rfl⟩ <;> simp only <;> omega
  · rw [if_neg c, if_neg (by omega)]
    refine ⟨?_, ?_, rfl⟩ <;> simp only <;> omega
theorem best_pos {r j : Nat} (h : Best r j 0) : False := by
  have h1 := pick_okay h.2.1
  unfold Okay fL at h1
  have h2 : 0 < mid (r - 1) * wF := Nat.mul_pos (by unfold mid; exact Nat.mul_pos (by omega) (step_pos _)) wF_pos
  omega
set_option maxHeartbeats 4000000 in
set_option maxRecDepth 100000 in
theorem short_any (w : World) (b r : Nat) (hb : b < 18446744073709551616) (hr : r = b % 9223372036854775808) (h0 : 0 < r) (hi : r < 9218868437227405312) (htab : Lib.TabIs Tryd.prog w "internal/strconv.uint64pow10" .u64 Lib.pow10Tab) :
    Calls Tryd.prog 12 #[.int .u64 b] w fun e w' => (∃ (d : Nat) (ten : Int), e = .returned (.tuple #[.string ⟨(Lib.decDigits d).toArray⟩, .int .i64 ten, .int .i64 0]) ∧ d % 10 ≠ 0 ∧ d < 18446744073709551616 ∧ -400 ≤ ten ∧ ten ≤ 500 ∧ ∃ j, Best r j (d * 10 ^ (ten + 1080).toNat)) ∧ Below w.heap.size w w' := by
  obtain ⟨e1, e2, e3⟩ := parts_sign b r hb hr h0 hi
  have KP := partsW_any w b hb
  obtain ⟨m, hm⟩ : ∃ m, m = mant r := ⟨_, rfl⟩
  obtain ⟨e, he⟩ : ∃ e : Int, e = ((r / 4503599627370496 - 1 : Nat) : Int) - 1074 := ⟨_, rfl⟩
  obtain ⟨t, c, lo, a, hi', more, hc, t1, t2, hlo, ha, hhi, hmore, a1, a2, l2, h2, KS⟩ := spanOf_r w r m e h0 hi hm he
  have mp : 0 < m := by rw [hm]; unfold mant; split <;> omega
  have m0 : ((m : Int) == 0) = false := beq_false_of_ne (by omega)
  rw [e1, e2, e3, ← hm, ← he] at KP
  have KSH : ∀ w', Hid _ := fun w' => hide (shortest_any w' r c a lo hi' t more h0 ha hlo hhi hmore a1 a2 l2 h2)
  have HT := hide htab
  have HC := hide hc
  clear e1 e2 e3 htab hc hm he ha hlo hhi hmore hr h0 hi
  have HKP := hide KP
  have HKS := hide KS
  clear KP KS
  go_enter Tryd.func12, Tryd.ntmps12
  go_wp2_with fail
  refine (unhide HKP).mono ?_
  rintro e' w' ⟨rfl, ew⟩
  rw [ew]
  clear ew w'
  go_wp2_with fail
  refine (unhide HKS).mono ?_
  rintro e' w2 ⟨rfl, b2⟩
  clear HKP HKS
  go_upto_region 5 with fail
  have bk := blk_alloc w2 #[.int .u64 lo, .int .u64 a, .int .u64 hi', .bool more, .int .i64 t] 47
  have b3 : Below w.heap.size w (w2.alloc (.cells #[.int .u64 lo, .int .u64 a, .int .u64 hi', .bool more, .int .i64 t] 47)) := b2.alloc b2.size _
  generalize w2.alloc (.cells #[.int .u64 lo, .int .u64 a, .int .u64 hi', .bool more, .int .i64 t] 47) = w3 at *
  have d0 : w3.drew.cell? ⟨w2.heap.size, 0, none⟩ = some (.int .u64 lo) := bk.cell 0 _ rfl
  have d1 : w3.drew.cell? ⟨w2.heap.size, 1, none⟩ = some (.int .u64 a) := bk.cell 1 _ rfl
  have d2 : w3.drew.cell? ⟨w2.heap.size, 2, none⟩ = some (.int .u64 hi') := bk.cell 2 _ rfl
  have d3 : w3.drew.cell? ⟨w2.heap.size, 3, none⟩ = some (.bool more) := bk.cell 3 _ rfl
  have d4 : w3.drew.cell? ⟨w2.heap.size, 4, none⟩ = some (.int .i64 t) := bk.cell 4 _ rfl
  have BK : Hid (Blk w3.drew w2.heap.size #[.int .u64 lo, .int .u64 a, .int .u64 hi', .bool more, .int .i64 t] 47) := hide bk
  have B3 : Hid (Below w.heap.size w w3.drew) := hide b3.drew
  clear bk b3 b2
  go_cut [9, 10] from 26 to 29 (fun s9 s10 wx => ∃ x : Nat, s9 = .int .u64 x ∧ x < 18446744073709551616 ∧ Hid (∃ j, Best r j (x * 10 ^ c)) ∧ s10 = .int .i64 t ∧ Hid (Below w.heap.size w wx))
  case first =>
    go_region_with (first
      | (go_at_call 24
         refine (unhide (KSH _)).mono ?_
         rintro _ w4 ⟨⟨x, rfl, hx, hbest⟩, b4⟩
         have BE := hide hbest
         have k4 : w4.cell? ⟨w2.heap.size, 4, none⟩ = some (.int .i64 t) := ((unhide BK).below b4).cell 4 _ rfl
         have B4 := hide ((unhide B3).trans (b4.mono (unhide B3).size))
         clear hbest b4))
    all_goals (go_wp2_with fail; go_meet; exact ⟨x, rfl, hx, BE, rfl, B4⟩)
  case rest =>
  obtain ⟨x, rfl, hx, HB, rfl, B4⟩ := hcut
  clear KSH d0 d1 d2 d3 d4 BK B3
  have x0 : 0 < x := by
    rcases Nat.eq_zero_or_pos x with h | h
    · exfalso
      obtain ⟨j, hj⟩ := unhide HB
      rw [h, Nat.zero_mul] at hj
      exact best_pos hj
    · exact h
  go_wp2_with fail
  go_loopw [9, 10] (fun v9 v10 wr => ∃ (n k : Nat), v9 = .int .u64 n ∧ v10 = .int .i64 (t + (k : Int)) ∧ 0 < n ∧ k < 20 ∧ Hid (n * 10 ^ k = x) ∧ n < 18446744073709551616 ∧ wr = wc) (fun v9 _ _ => (intOf v9).toNat)
  case atStart => exact ⟨x, 0, rfl, by simp, x0, by omega, hide (by simp), hx, by trivial⟩
  case round =>
    obtain ⟨n, k, rfl, rfl, n0, hk, hn, n1, rfl⟩ := hrel
    by_cases c1 : n % 10 = 0
    · have y1 : (n : Int) % 10 = 0 := by omega
      have y2 : IntKind.u64.wrap ((n : Int).tdiv 10) = ((n / 10 : Nat) : Int) := by
        rw [Int.tdiv_eq_ediv_of_nonneg (by omega)]
        simp [IntKind.wrap, IntKind.bits, IntKind.signed]
        omega
      have y4 : IntKind.u64.wrap ((n : Int) / 10) = ((n / 10 : Nat) : Int) := by
        simp [IntKind.wrap, IntKind.bits, IntKind.signed]
        omega
      have y5 : (((n : Int) % 10) == 0) = true := by rw [y1]; rfl
      have y3 : IntKind.i64.wrap (t + (k : Int) + 1) = t + ((k + 1 : Nat) : Int) := by
        rw [wrap_small _ (by omega) (by omega)]
        omega
      have HN : Hid (n / 10 * 10 ^ (k + 1) = x) := hide (by
        rw [← unhide hn, Nat.pow_succ, Nat.mul_comm (10 ^ k), ← Nat.mul_assoc]
        congr 1
        omega)
      have hk2 : k + 1 < 20 := by
        rcases Nat.lt_or_ge (k + 1) 20 with g | g
        · exact g
        · exfalso
          have e : k = 19 := by omega
          have := unhide HN
          rw [e] at this
          have : 0 < n / 10 := by omega
          omega
      have HM : Hid (n / 10 < n ∧ 0 < n / 10) := hide (by omega)
      have n2 : n / 10 < 18446744073709551616 := by omega
      clear y1
      go_wp2
      go_roundw
      case rel => exact ⟨n / 10, k + 1, by first | rfl | simp, by first | rfl | simp, (unhide HM).2, hk2, HN, n2, by trivial⟩
      case measure => have := unhide HM; simp only [intOf]; omega
    · have y5 : (((n : Int) % 10) == 0) = false := beq_false_of_ne (by omega)
      have KF := hide (format_any wr n n1 (tab_below (unhide HT) (unhide B4)))
      have HBN : Hid (∃ j, Best r j (n * 10 ^ (t + (k : Int) + 1080).toNat)) := hide (by
        obtain ⟨j, hj⟩ := unhide HB
        refine ⟨j, ?_⟩
        rw [← unhide hn, unhide HC] at hj
        rwa [show (t + (k : Int) + 1080).toNat = k + (t + 1080).toNat by omega, Nat.pow_add, ← Nat.mul_assoc])
      clear HT HC
      go_wp2_with fail
      refine (unhide KF).mono ?_
      rintro _ w5 ⟨rfl, b5⟩
      have B5 := hide ((unhide B4).trans (b5.mono (unhide B4).size))
      clear b5 KF
      go_wp2
      refine bodyPost_ret (v := .tuple #[.string ⟨(Lib.decDigits n).toArray⟩, .int .i64 (t + (k : Int)), .int .i64 0]) (by simp [results, Tryd.results12, go_sem]) rfl ?_
      exact ⟨⟨n, t + (k : Int), rfl, c1, n1, by omega, by omega, unhide HBN⟩, unhide B5⟩
set_option maxHeartbeats 4000000 in
set_option maxRecDepth 100000 in
/-- Short of what is no number, infinite or 0. -/
theorem short_none (w : World) (b r : Nat) (hb : b < 18446744073709551616) (hr : r = b % 9223372036854775808) (h0 : r = 0 ∨ 9218868437227405312 ≤ r) :
    Calls Tryd.prog 12 #[.int .u64 b] w fun e w' => e = .returned (.tuple #[.string ⟨#[]⟩, .int .i64 0, .int .i64 1]) ∧ w' = w := by
  have KP := partsW_any w b hb
  have hf : (fparts b).2.2 = 1 ∨ (fparts b).2.2 = 2 ∨ ((fparts b).2.2 = 0 ∧ (fparts b).1 = 0) := by
    unfold fparts
    by_cases c : b / 4503599627370496 % 2048 = 2047
    · rw [if_pos c]
      by_cases c2 : b % 4503599627370496 = 0
      · rw [if_pos c2]; exact .inl rfl
      · rw [if_neg c2]; exact .inr (.inl rfl)
    · rw [if_neg c, if_pos (by omega)]
      exact .inr (.inr ⟨rfl, by simp only; omega⟩)
  generalize (fparts b).2.2 = kd at *
  generalize (fparts b).2.1 = ex at *
  generalize (fparts b).1 = mt at *
  have HKP := hide KP
  clear KP hr h0
  go_enter Tryd.func12, Tryd.ntmps12
  go_wp2_with fail
  refine (unhide HKP).mono ?_
  rintro e' w' ⟨rfl, ew⟩
  rw [ew]
  clear ew w' HKP
  rcases hf with rfl | rfl | ⟨rfl, rfl⟩
  · go_wp2
    refine bodyPost_ret (v := .tuple #[.string ⟨#[]⟩, .int .i64 0, .int .i64 1]) (by simp [results, Tryd.results12, go_sem]) rfl ?_
    exact ⟨rfl, rfl⟩
  · go_wp2
    refine bodyPost_ret (v := .tuple #[.string ⟨#[]⟩, .int .i64 0, .int .i64 1]) (by simp [results, Tryd.results12, go_sem]) rfl ?_
    exact ⟨rfl, rfl⟩
  · go_wp2
    refine bodyPost_ret (v := .tuple #[.string ⟨#[]⟩, .int .i64 0, .int .i64 1]) (by simp [results, Tryd.results12, go_sem]) rfl ?_
    exact ⟨rfl, rfl⟩
end Go.Proofs.YtobbbhmkcmbekaaDoor.bigs
