/- strconv.FormatUint at base 10. -/
import Derived.Test.YtobbbhmkcmbekabGreatDoorPartAO
import Derived.Test.YtobbbhmkcmbekabGreatDoorShelf
import Derived.Lib.AppendIntMem
import Derived.Lib.Walk
import Derived.BigCall
import Derived.BigGuard
import Derived.Test.YtobbbhmkcmbekabGreatDoorPartAM
import Derived.Deep.CutRange
set_option linter.unusedVariables false
namespace Go.Proofs.YtobbbhmkcmbekabGreatDoor.bigs
open Go.RowKit Go.Sort
set_option maxHeartbeats 4000000 in
set_option maxRecDepth 100000 in
theorem formatI_any (w : World) (u : Nat) (hu64 : u < 18446744073709551616) (htab : Lib.TabIs Tryz.prog w "internal/strconv.uint64pow10" .u64 Lib.pow10Tab) :
    Calls Tryz.prog 33 #[.int .u64 u, .int .i64 10] w fun e w' => e = .returned (.string ⟨(Lib.decDigits u).toArray⟩) ∧ Below w.heap.size w w' := by
  by_cases hs : u < 100
  · have K := hide (Tryz.internal_strconv_small u hs w)
    have iu : (u : Int) < 100 := by omega
    go_enter Tryz.func33, Tryz.ntmps33
    go_wp2_with fail
    refine (unhide K).mono ?_
    rintro e w' ⟨rfl, rfl⟩
    go_wp2
    go_ret
    exact ⟨rfl, Below.refl _ _⟩
  · have hu1 : 1 ≤ u := by omega
    have iu : ¬ (u : Int) < 100 := by omega
    have hnd20 : Lib.nDigits u ≤ 20 := by have := Lib.numDigits_eq u hu1 hu64; split at this <;> omega
    have hsl : ∀ W, (Instr.sliceAt 82 (.pointer (some ⟨w.heap.size, 0, none⟩)) none (some (.int .i64 (Lib.nDigits u : Int))) none).run Tryz.prog W = .ok (.slice (some ⟨w.heap.size, 0, none⟩) (Lib.nDigits u) 24) W := fun W => by
      have hal : (Tryz.prog).arrayLen 82 = 24 := by simp [Program.arrayLen, Tryz.underlying82]
      rw [run_sliceAt_array_h W 82 ⟨w.heap.size, 0, none⟩ (by simp [Program.arrayLen, Program.elem, Tryz.underlying82]) .i64 (Lib.nDigits u : Int) (by omega) (by rw [hal]; omega)]
      go_simp
    have hH0 := Lib.holds_zero0 w 82 (Lib.nDigits u) (by omega)
    have hfmt := Tryz.internal_strconv_formatBase10 w.heap.size 0 24 u (Array.replicate (Lib.nDigits u) 0) (w.alloc (.cells Lib.zeros24 82)) hH0 (by rw [Array.size_replicate]; exact Lib.lt_pow_nDigits u) hu64 (by rw [Array.size_replicate]; omega)
    rw [Array.size_replicate] at hfmt
    have HF := hide hfmt
    have HH0 := hide hH0
    have KD := hide (Tryz.internal_strconv_numDigits u hu1 hu64 (w.alloc (.cells Lib.zeros24 82)) (Lib.tabIs_alloc htab _))
    clear hH0 hfmt
    go_enter Tryz.func33, Tryz.ntmps33
    go_wp2_with fail
    refine (unhide KD).mono ?_
    rintro e w' ⟨rfl, rfl⟩
    go_wp2_with fail
    refine (unhide HF).mono ?_
    rintro e w' ⟨rfl, k, v', dk, rfl, hF⟩
    have hcv : (convert 84 9 (.slice (some ⟨w.heap.size, 0, none⟩) (Lib.nDigits u) 24)).run Tryz.prog ((putRow (fun (b : UInt8) => Value.int .u8 (b.toNat : Int)) (w.alloc (.cells Lib.zeros24 82)) w.heap.size 0 dk).drewN k) = .ok (.string ⟨(Lib.decDigits u).toArray⟩) ((putRow (fun (b : UInt8) => Value.int .u8 (b.toNat : Int)) (w.alloc (.cells Lib.zeros24 82)) w.heap.size 0 dk).drewN k) := by
      have h := run_convert_bytes_back (P := Tryz.prog) ((putRow (fun (b : UInt8) => Value.int .u8 (b.toNat : Int)) (w.alloc (.cells Lib.zeros24 82)) w.heap.size 0 dk).drewN k) 84 9 5 ⟨w.heap.size, 0, none⟩ 24 (Lib.decDigits u) Tryz.underlying84 Tryz.underlying5 Tryz.underlying9 (fun j hj => by
        rw [Lib.row_is_numeral hF j hj, Lib.add_plain, World.cell?_drewN]
        exact cell?_putRow (fun (b : UInt8) => Value.int .u8 (b.toNat : Int)) _ w.heap.size 0 _ dk (unhide HH0) (by rw [hF.size, Array.size_replicate]) j (by rw [hF.size]; rw [Lib.decDigits_length] at hj; exact hj))
      rw [Lib.decDigits_length] at h
      exact h
    obtain ⟨os, eo⟩ := Lib.fin_at w (.cells Lib.zeros24 82) dk k 0
    have bw := hide (Lib.below_grow w.heap.size w (Nat.le_refl _) k os)
    rw [← eo] at bw
    clear eo HF HH0 KD hF
    generalize (putRow (fun (b : UInt8) => Value.int .u8 (b.toNat : Int)) (w.alloc (.cells Lib.zeros24 82)) w.heap.size 0 dk).drewN k = W2 at *
    go_wp2
    go_ret
    exact ⟨rfl, unhide bw⟩
theorem tab_below {P : Program} {w w' : World} {name : String} {k : IntKind} {zs : List Int} (h : Lib.TabIs P w name k zs) (hb : Below w.heap.size w w') : Lib.TabIs P w' name k zs := by
  unfold Lib.TabIs World.var? at *
  cases hg : P.globalNamed name with
  | none => simp [hg] at h
  | some g =>
    simp only [hg, Option.bind_some] at h ⊢
    have hlt : g < w.heap.size := by
      rcases Nat.lt_or_ge g w.heap.size with k | k
      · exact k
      · rw [Array.getElem?_eq_none k] at h
        simp at h
    rw [hb.block g hlt]
    exact h
set_option maxRecDepth 100000 in
theorem format_any (w : World) (u : Nat) (hu64 : u < 18446744073709551616) (htab : Lib.TabIs Tryz.prog w "internal/strconv.uint64pow10" .u64 Lib.pow10Tab) :
    Calls Tryz.prog 16 #[.int .u64 u, .int .i64 10] w fun e w' => e = .returned (.string ⟨(Lib.decDigits u).toArray⟩) ∧ Below w.heap.size w w' := by
  have K := hide (formatI_any w u hu64 htab)
  clear htab
  go_enter Tryz.func16, Tryz.ntmps16
  go_wp2_with fail
  refine (unhide K).mono ?_
  rintro e w' ⟨rfl, b⟩
  have B := hide b
  clear b K
  go_wp2
  go_ret
  exact ⟨rfl, unhide B⟩
end Go.Proofs.YtobbbhmkcmbekabGreatDoor.bigs
/- The walk of package float: Short. -/
set_option linter.unusedVariables false
namespace Go.Proofs.YtobbbhmkcmbekabGreatDoor.bigs
open Go.RowKit
theorem parts_sign (b r : Nat) (hb : b < 18446744073709551616) (hr : r = b % 9223372036854775808) (h0 : 0 < r) (hi : r < 9218868437227405312) : (fparts b).1 = mant r ∧ (fparts b).2.1 = ((r / 4503599627370496 - 1 : Nat) : Int) - 1074 ∧ (fparts b).2.2 = 0 := by
  unfold fparts mant
  rw [if_neg (by omega)]
  by_cases c : b / 4503599627370496 % 2048 = 0
  · rw [if_pos c, if_pos (by omega)]
    refine ⟨?_, ?_, rfl⟩ <;> simp only <;> omega
  · rw [if_neg c, if_neg (by omega)]
    refine ⟨?_, ?_, rfl⟩ <;> simp only <;> omega
theorem best_pos {r j : Nat} (h : Best r j 0) : False := by
  have h1 := pick_okay h.2.1
  unfold Okay fL at h1
  have h2 : 0 < mid (r - 1) * wF := Nat.mul_pos (by unfold mid; exact Nat.mul_pos (by omega) (step_pos _)) wF_pos
  omega
set_option maxHeartbeats 4000000 in
set_option maxRecDepth 100000 in
theorem short_any (w : World) (b r : Nat) (hb : b < 18446744073709551616) (hr : r = b % 9223372036854775808) (h0 : 0 < r) (hi : r < 9218868437227405312) (htab : Lib.TabIs Tryz.prog w "internal/strconv.uint64pow10" .u64 Lib.pow10Tab) :
    Calls Tryz.prog 9 #[.int .u64 b] w fun e w' => (∃ (d : Nat) (ten : Int), e = .returned (.tuple #[.string ⟨(Lib.decDigits d).toArray⟩, .int .i64 ten, .int .i64 0]) ∧ d % 10 ≠ 0 ∧ d < 18446744073709551616 ∧ -400 ≤ ten ∧ ten ≤ 500 ∧ ∃ j, Best r j (d * 10 ^ (ten + 1080).toNat)) ∧ Below w.heap.size w w' := by
  obtain ⟨e1, e2, e3⟩ := parts_sign b r hb hr h0 hi
  have KP := partsW_any w b hb
  obtain ⟨m, hm⟩ : ∃ m, m = mant r := ⟨_, rfl⟩
  obtain ⟨e, he⟩ : ∃ e : Int, e = ((r / 4503599627370496 - 1 : Nat) : Int) - 1074 := ⟨_, rfl⟩
  obtain ⟨t, c, lo, a, hi', more, hc, t1, t2, hlo, ha, hhi, hmore, a1, a2, l2, h2, KS⟩ := spanOf_r w r m e h0 hi hm he
  have mp : 0 < m := by rw [hm]; unfold mant; split <;> omega
  have m0 : ((m : Int) == 0) = false := beq_false_of_ne (by omega)
  rw [e1, e2, e3, ← hm, ← he] at KP
  have KSH : ∀ w', Hid _ := fun w' => hide (shortest_any w' r c a lo hi' t more h0 ha hlo hhi hmore a1 a2 l2 h2)
  have HT := hide htab
  have HC := hide hc
  clear e1 e2 e3 htab hc hm he ha hlo hhi hmore hr h0 hi
  have HKP := hide KP
  have HKS := hide KS
  clear KP KS
  go_enter Tryz.func9, Tryz.ntmps9
  go_wp2_with fail
  refine (unhide HKP).mono ?_
  rintro e' w' ⟨rfl, ew⟩
  rw [ew]
  clear ew w'
  go_wp2_with fail
  refine (unhide HKS).mono ?_
  rintro e' w2 ⟨rfl, b2⟩
  clear HKP HKS
  go_upto_region 5 with fail
  have bk := blk_alloc w2 #[.int .u64 lo, .int .u64 a, .int .u64 hi', .bool more, .int .i64 t] 44
  have b3 : Below w.heap.size w (w2.alloc (.cells #[.int .u64 lo, .int .u64 a, .int .u64 hi', .bool more, .int .i64 t] 44)) := b2.alloc b2.size _
  generalize w2.alloc (.cells #[.int .u64 lo, .int .u64 a, .int .u64 hi', .bool more, .int .i64 t] 44) = w3 at *
  have d0 : w3.drew.cell? ⟨w2.heap.size, 0, none⟩ = some (.int .u64 lo) := bk.cell 0 _ rfl
  have d1 : w3.drew.cell? ⟨w2.heap.size, 1, none⟩ = some (.int .u64 a) := bk.cell 1 _ rfl
  have d2 : w3.drew.cell? ⟨w2.heap.size, 2, none⟩ = some (.int .u64 hi') := bk.cell 2 _ rfl
  have d3 : w3.drew.cell? ⟨w2.heap.size, 3, none⟩ = some (.bool more) := bk.cell 3 _ rfl
  have d4 : w3.drew.cell? ⟨w2.heap.size, 4, none⟩ = some (.int .i64 t) := bk.cell 4 _ rfl
  have BK : Hid (Blk w3.drew w2.heap.size #[.int .u64 lo, .int .u64 a, .int .u64 hi', .bool more, .int .i64 t] 44) := hide bk
  have B3 : Hid (Below w.heap.size w w3.drew) := hide b3.drew
  clear bk b3 b2
  go_cut [9, 10] from 26 to 29 (fun s9 s10 wx => ∃ x : Nat, s9 = .int .u64 x ∧ x < 18446744073709551616 ∧ Hid (∃ j, Best r j (x * 10 ^ c)) ∧ s10 = .int .i64 t ∧ Hid (Below w.heap.size w wx))
  case first =>
    go_region_with (first
      | (go_at_call 15
         refine (unhide (KSH _)).mono ?_
         rintro _ w4 ⟨⟨x, rfl, hx, hbest⟩, b4⟩
         have BE := hide hbest
         have k4 : w4.cell? ⟨w2.heap.size, 4, none⟩ = some (.int .i64 t) := ((unhide BK).below b4).cell 4 _ rfl
         have B4 := hide ((unhide B3).trans (b4.mono (unhide B3).size))
         clear hbest b4))
    all_goals (go_wp2_with fail; go_meet; exact ⟨x, rfl, hx, BE, rfl, B4⟩)
  case rest =>
  obtain ⟨x, rfl, hx, HB, rfl, B4⟩ := hcut
  clear KSH d0 d1 d2 d3 d4 BK B3
  have x0 : 0 < x := by
    rcases Nat.eq_zero_or_pos x with h | h
    · exfalso
      obtain ⟨j, hj⟩ := unhide HB
      rw [h, Nat.zero_mul] at hj
      exact best_pos hj
    · exact h
  go_wp2_with fail
  go_loopw [9, 10] (fun v9 v10 wr => ∃ (n k : Nat), v9 = .int .u64 n ∧ v10 = .int .i64 (t + (k : Int)) ∧ 0 < n ∧ k < 20 ∧ Hid (n * 10 ^ k = x) ∧ n < 18446744073709551616 ∧ wr = wc) (fun v9 _ _ => (intOf v9).toNat)
  case atStart => exact ⟨x, 0, rfl, by simp, x0, by omega, hide (by simp), hx, by trivial⟩
  case round =>
    obtain ⟨n, k, rfl, rfl, n0, hk, hn, n1, rfl⟩ := hrel
    by_cases c1 : n % 10 = 0
    · have y1 : (n : Int) % 10 = 0 := by omega
      have y2 : IntKind.u64.wrap ((n : Int).tdiv 10) = ((n / 10 : Nat) : Int) := by
        rw [Int.tdiv_eq_ediv_of_nonneg (by omega)]
        simp [IntKind.wrap, IntKind.bits, IntKind.signed]
        omega
      have y4 : IntKind.u64.wrap ((n : Int) / 10) = ((n / 10 : Nat) : Int) := by
        simp [IntKind.wrap, IntKind.bits, IntKind.signed]
        omega
      have y5 : (((n : Int) % 10) == 0) = true := by rw [y1]; rfl
      have y3 : IntKind.i64.wrap (t + (k : Int) + 1) = t + ((k + 1 : Nat) : Int) := by
        rw [wrap_small _ (by omega) (by omega)]
        omega
      have HN : Hid (n / 10 * 10 ^ (k + 1) = x) := hide (by
        rw [← unhide hn, Nat.pow_succ, Nat.mul_comm (10 ^ k), ← Nat.mul_assoc]
        congr 1
        omega)
      have hk2 : k + 1 < 20 := by
        rcases Nat.lt_or_ge (k + 1) 20 with g | g
        · exact g
        · exfalso
          have e : k = 19 := by omega
          have := unhide HN
          rw [e] at this
          have : 0 < n / 10 := by omega
          omega
      have HM : Hid (n / 10 < n ∧ 0 < n / 10) := hide (by omega)
      have n2 : n / 10 < 18446744073709551616 := by omega
      clear y1
      go_wp2
      go_roundw
      case rel => exact ⟨n / 10, k + 1, by first | rfl | simp, by first | rfl | simp, (unhide HM).2, hk2, HN, n2, by trivial⟩
      case measure => have := unhide HM; simp only [intOf]; omega
    · have y5 : (((n : Int) % 10) == 0) = false := beq_false_of_ne (by omega)
      have KF := hide (format_any wr n n1 (tab_below (unhide HT) (unhide B4)))
      have HBN : Hid (∃ j, Best r j (n * 10 ^ (t + (k : Int) + 1080).toNat)) := hide (by
        obtain ⟨j, hj⟩ := unhide HB
        refine ⟨j, ?_⟩
        rw [← unhide hn, unhide HC] at hj
        rwa [show (t + (k : Int) + 1080).toNat = k + (t + 1080).toNat by omega, Nat.pow_add, ← Nat.mul_assoc])
      clear HT HC
      go_wp2_with fail
      refine (unhide KF).mono ?_
      rintro _ w5 ⟨rfl, b5⟩
      have B5 := hide ((unhide B4).trans (b5.mono (unhide B4).size))
      clear b5 KF
      go_wp2
      refine bodyPost_ret (v := .tuple #[.string ⟨(Lib.decDigits n).toArray⟩, .int .i64 (t + (k : Int)), .int .i64 0]) (by simp [results, Tryz.results9, go_sem]) rfl ?_
      exact ⟨⟨n, t + (k : Int), rfl, c1, n1, by omega, by omega, unhide HBN⟩, unhide B5⟩
set_option maxHeartbeats 4000000 in
set_option maxRecDepth 100000 in
/-- Short of what is no number, infinite or 0. -/
theorem short_none (w : World) (b r : Nat) (hb : b < 18446744073709551616) (hr : r = b % 9223372036854775808) (h0 : r = 0 ∨ 9218868437227405312 ≤ r) :
    Calls Tryz.prog 9 #[.int .u64 b] w fun e w' => e = .returned (.tuple #[.string ⟨#[]⟩, .int .i64 0, .int .i64 1]) ∧ w' = w := by
  have KP := partsW_any w b hb
  have hf : (fparts b).2.2 = 1 ∨ (fparts b).2.2 = 2 ∨ ((fparts b).2.2 = 0 ∧ (fparts b).1 = 0) := by
    unfold fparts
    by_cases c : b / 4503599627370496 % 2048 = 2047
    · rw [if_pos c]
      by_cases c2 : b % 4503599627370496 = 0
      · rw [if_pos c2]; exact .inl rfl
      · rw [if_neg c2]; exact .inr (.inl rfl)
    · rw [if_neg c, if_pos (by omega)]
      exact .inr (.inr ⟨rfl, by simp only; omega⟩)
  generalize (fparts b).2.2 = kd at *
  generalize (fparts b).2.1 = ex at *
  generalize (fparts b).1 = mt at *
  have HKP := hide KP
  clear KP hr h0
  go_enter Tryz.func9, Tryz.ntmps9
  go_wp2_with fail
  refine (unhide HKP).mono ?_
  rintro e' w' ⟨rfl, ew⟩
  rw [ew]
  clear ew w' HKP
  rcases hf with rfl | rfl | ⟨rfl, rfl⟩
  · go_wp2
    refine bodyPost_ret (v := .tuple #[.string ⟨#[]⟩, .int .i64 0, .int .i64 1]) (by simp [results, Tryz.results9, go_sem]) rfl ?_
    exact ⟨rfl, rfl⟩
  · go_wp2
    refine bodyPost_ret (v := .tuple #[.string ⟨#[]⟩, .int .i64 0, .int .i64 1]) (by simp [results, Tryz.results9, go_sem]) rfl ?_
    exact ⟨rfl, rfl⟩
  · go_wp2
    refine bodyPost_ret (v := .tuple #[.string ⟨#[]⟩, .int .i64 0, .int .i64 1]) (by simp [results, Tryz.results9, go_sem]) rfl ?_
    exact ⟨rfl, rfl⟩
end Go.Proofs.YtobbbhmkcmbekabGreatDoor.bigs
