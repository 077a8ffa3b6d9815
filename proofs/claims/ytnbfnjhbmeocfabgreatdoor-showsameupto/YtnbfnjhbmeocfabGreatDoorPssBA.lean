/- Of our texts, what this claim reaches. -/
import Derived.Test.YtnbfnjhbmeocfabGreatDoorPssAZ
import Derived.Test.YtnbfnjhbmeocfabGreatDoorPssAI
import Derived.Lib.AppendIntMem
import Derived.Lib.Walk
import Derived.BigCall
import Derived.BigGuard
import Derived.Test.YtnbfnjhbmeocfabGreatDoorPssAX
import Derived.Deep.CutRange
import Derived.Test.YtnbfnjhbmeocfabGreatDoorPssAW
import Derived.Laws.BytesString
import Derived.Laws.Cells
import Derived.Laws.BitsAllLaws
import Derived.Test.YtnbfnjhbmeocfabGreatDoorPssAT
import Derived.Deep.QuietTactic
import Derived.BigQuiet
import Derived.Deep.RegionWith
set_option linter.unusedVariables false
set_option maxHeartbeats 8000000
set_option maxRecDepth 100000
namespace Go.Proofs.YtnbfnjhbmeocfabGreatDoor.bigs
open Go.RowKit Go.Sort
theorem formatI_any (w : World) (u : Nat) (hu64 : u < 18446744073709551616) (htab : Lib.TabIs Tryz.prog w "internal/strconv.uint64pow10" .u64 Lib.pow10Tab) :
  Calls Tryz.prog 193 #[.int .u64 u, .int .i64 10] w fun e w' => e = .returned (.string ⟨(Lib.decDigits u).toArray⟩) ∧ Below w.heap.size w w' := by
 by_cases hs : u < 100
 ·have K := hide (Tryz.internal_strconv_small u hs w)
  have iu : (u : Int) < 100 := by omega
  go_enter Tryz.func193, Tryz.ntmps193
  go_wp2_with fail
  refine (unhide K).mono ?_
  rintro e w' ⟨rfl, rfl⟩
  go_wp2
  go_ret
  exact ⟨rfl, Below.refl _ _⟩
 ·have hu1 : 1 ≤ u := by omega
  have iu : ¬ (u : Int) < 100 := by omega
  have hnd20 : Lib.nDigits u ≤ 20 := by have := Lib.numDigits_eq u hu1 hu64; split at this <;> omega
  have hsl : ∀ W, (Instr.sliceAt 230 (.pointer (some ⟨w.heap.size, 0, none⟩)) none (some (.int .i64 (Lib.nDigits u : Int))) none).run Tryz.prog W = .ok (.slice (some ⟨w.heap.size, 0, none⟩) (Lib.nDigits u) 24) W := fun W => by
   have hal : (Tryz.prog).arrayLen 230 = 24 := by simp [Program.arrayLen, Tryz.underlying230]
   rw [run_sliceAt_array_h W 230 ⟨w.heap.size, 0, none⟩ (by simp [Program.arrayLen, Program.elem, Tryz.underlying230]) .i64 (Lib.nDigits u : Int) (by omega) (by rw [hal]; omega)]
   go_simp
  have hH0 := Lib.holds_zero0 w 230 (Lib.nDigits u) (by omega)
  have hfmt := Tryz.internal_strconv_formatBase10 w.heap.size 0 24 u (Array.replicate (Lib.nDigits u) 0) (w.alloc (.cells Lib.zeros24 230)) hH0 (by rw [Array.size_replicate]; exact Lib.lt_pow_nDigits u) hu64 (by rw [Array.size_replicate]; omega)
  rw [Array.size_replicate] at hfmt
  have HF := hide hfmt
  have HH0 := hide hH0
  have KD := hide (Tryz.internal_strconv_numDigits u hu1 hu64 (w.alloc (.cells Lib.zeros24 230)) (Lib.tabIs_alloc htab _))
  clear hH0 hfmt
  go_enter Tryz.func193, Tryz.ntmps193
  go_wp2_with fail
  refine (unhide KD).mono ?_
  rintro e w' ⟨rfl, rfl⟩
  go_wp2_with fail
  refine (unhide HF).mono ?_
  rintro e w' ⟨rfl, k, v', dk, rfl, hF⟩
  have hcv : (convert 56 9 (.slice (some ⟨w.heap.size, 0, none⟩) (Lib.nDigits u) 24)).run Tryz.prog ((putRow (fun (b : UInt8) => Value.int .u8 (b.toNat : Int)) (w.alloc (.cells Lib.zeros24 230)) w.heap.size 0 dk).drewN k) = .ok (.string ⟨(Lib.decDigits u).toArray⟩) ((putRow (fun (b : UInt8) => Value.int .u8 (b.toNat : Int)) (w.alloc (.cells Lib.zeros24 230)) w.heap.size 0 dk).drewN k) := by
   have h := run_convert_bytes_back (P := Tryz.prog) ((putRow (fun (b : UInt8) => Value.int .u8 (b.toNat : Int)) (w.alloc (.cells Lib.zeros24 230)) w.heap.size 0 dk).drewN k) 56 9 5 ⟨w.heap.size, 0, none⟩ 24 (Lib.decDigits u) Tryz.underlying56 Tryz.underlying5 Tryz.underlying9 (fun j hj => by
    rw [Lib.row_is_numeral hF j hj, Lib.add_plain, World.cell?_drewN]
    exact cell?_putRow (fun (b : UInt8) => Value.int .u8 (b.toNat : Int)) _ w.heap.size 0 _ dk (unhide HH0) (by rw [hF.size, Array.size_replicate]) j (by rw [hF.size]; rw [Lib.decDigits_length] at hj; exact hj))
   rw [Lib.decDigits_length] at h
   exact h
  obtain ⟨os, eo⟩ := Lib.fin_at w (.cells Lib.zeros24 230) dk k 0
  have bw := hide (Lib.below_grow w.heap.size w (Nat.le_refl _) k os)
  rw [← eo] at bw
  clear eo HF HH0 KD hF
  generalize (putRow (fun (b : UInt8) => Value.int .u8 (b.toNat : Int)) (w.alloc (.cells Lib.zeros24 230)) w.heap.size 0 dk).drewN k = W2 at *
  go_wp2
  go_ret
  exact ⟨rfl, unhide bw⟩
theorem tab_below {P : Program} {w w' : World} {name : String} {k : IntKind} {zs : List Int} (h : Lib.TabIs P w name k zs) (hb : Below w.heap.size w w') : Lib.TabIs P w' name k zs := by
 unfold Lib.TabIs World.var? at *
 cases hg : P.globalNamed name with
 | none => simp [hg] at h
 | some g =>
  simp only [hg, Option.bind_some] at h ⊢
  have hlt : g < w.heap.size := by
   rcases Nat.lt_or_ge g w.heap.size with k | k
   ·exact k
   ·rw [Array.getElem?_eq_none k] at h
    simp at h
  rw [hb.block g hlt]
  exact h
theorem format_any (w : World) (u : Nat) (hu64 : u < 18446744073709551616) (htab : Lib.TabIs Tryz.prog w "internal/strconv.uint64pow10" .u64 Lib.pow10Tab) :
  Calls Tryz.prog 164 #[.int .u64 u, .int .i64 10] w fun e w' => e = .returned (.string ⟨(Lib.decDigits u).toArray⟩) ∧ Below w.heap.size w w' := by
 have K := hide (formatI_any w u hu64 htab)
 clear htab
 go_enter Tryz.func164, Tryz.ntmps164
 go_wp2_with fail
 refine (unhide K).mono ?_
 rintro e w' ⟨rfl, b⟩
 have B := hide b
 clear b K
 go_wp2
 go_ret
 exact ⟨rfl, unhide B⟩
end Go.Proofs.YtnbfnjhbmeocfabGreatDoor.bigs
namespace Go.Proofs.YtnbfnjhbmeocfabGreatDoor.bigs
open Go.RowKit
theorem parts_sign (b r : Nat) (hb : b < 18446744073709551616) (hr : r = b % 9223372036854775808) (h0 : 0 < r) (hi : r < 9218868437227405312) : (fparts b).1 = mant r ∧ (fparts b).2.1 = ((r / 4503599627370496 - 1 : Nat) : Int) - 1074 ∧ (fparts b).2.2 = 0 := by
 unfold fparts mant
 rw [if_neg (by omega)]
 by_cases c : b / 4503599627370496 % 2048 = 0
 ·rw [if_pos c, if_pos (by omega)]
  refine ⟨?_, ?_, rfl⟩ <;> simp only <;> omega
 ·rw [if_neg c, if_neg (by omega)]
  refine ⟨?_, ?_, rfl⟩ <;> simp only <;> omega
theorem best_pos {r j : Nat} (h : Best r j 0) : False := by
 have h1 := pick_okay h.2.1
 unfold Okay fL at h1
 have h2 : 0 < mid (r - 1) * wF := Nat.mul_pos (by unfold mid; exact Nat.mul_pos (by omega) (step_pos _)) wF_pos
 omega
theorem short_any (w : World) (b r : Nat) (hb : b < 18446744073709551616) (hr : r = b % 9223372036854775808) (h0 : 0 < r) (hi : r < 9218868437227405312) (htab : Lib.TabIs Tryz.prog w "internal/strconv.uint64pow10" .u64 Lib.pow10Tab) :
  Calls Tryz.prog 138 #[.int .u64 b] w fun e w' => (∃ (d : Nat) (ten : Int), e = .returned (.tuple #[.string ⟨(Lib.decDigits d).toArray⟩, .int .i64 ten, .int .i64 0]) ∧ d % 10 ≠ 0 ∧ d < 18446744073709551616 ∧ -400 ≤ ten ∧ ten ≤ 500 ∧ ∃ j, Best r j (d * 10 ^ (ten + 1080).toNat)) ∧ Below w.heap.size w w' := by
 obtain ⟨e1, e2, e3⟩ := parts_sign b r hb hr h0 hi
 have KP := partsW_any w b hb
 obtain ⟨m, hm⟩ : ∃ m, m = mant r := ⟨_, rfl⟩
 obtain ⟨e, he⟩ : ∃ e : Int, e = ((r / 4503599627370496 - 1 : Nat) : Int) - 1074 := ⟨_, rfl⟩
 obtain ⟨t, c, lo, a, hi', more, hc, t1, t2, hlo, ha, hhi, hmore, a1, a2, l2, h2, KS⟩ := spanOf_r w r m e h0 hi hm he
 have mp : 0 < m := by rw [hm]; unfold mant; split <;> omega
 have m0 : ((m : Int) == 0) = false := beq_false_of_ne (by omega)
 rw [e1, e2, e3, ← hm, ← he] at KP
 have KSH : ∀ w', Hid _ := fun w' => hide (shortest_any w' r c a lo hi' t more h0 ha hlo hhi hmore a1 a2 l2 h2)
 have HT := hide htab
 have HC := hide hc
 clear e1 e2 e3 htab hc hm he ha hlo hhi hmore hr h0 hi
 have HKP := hide KP
 have HKS := hide KS
 clear KP KS
 go_enter Tryz.func138, Tryz.ntmps138
 go_wp2_with fail
 refine (unhide HKP).mono ?_
 rintro e' w' ⟨rfl, ew⟩
 rw [ew]
 clear ew w'
 go_wp2_with fail
 refine (unhide HKS).mono ?_
 rintro e' w2 ⟨rfl, b2⟩
 clear HKP HKS
 go_upto_region 5 with fail
 have bk := blk_alloc w2 #[.int .u64 lo, .int .u64 a, .int .u64 hi', .bool more, .int .i64 t] 211
 have b3 : Below w.heap.size w (w2.alloc (.cells #[.int .u64 lo, .int .u64 a, .int .u64 hi', .bool more, .int .i64 t] 211)) := b2.alloc b2.size _
 generalize w2.alloc (.cells #[.int .u64 lo, .int .u64 a, .int .u64 hi', .bool more, .int .i64 t] 211) = w3 at *
 have d0 : w3.drew.cell? ⟨w2.heap.size, 0, none⟩ = some (.int .u64 lo) := bk.cell 0 _ rfl
 have d1 : w3.drew.cell? ⟨w2.heap.size, 1, none⟩ = some (.int .u64 a) := bk.cell 1 _ rfl
 have d2 : w3.drew.cell? ⟨w2.heap.size, 2, none⟩ = some (.int .u64 hi') := bk.cell 2 _ rfl
 have d3 : w3.drew.cell? ⟨w2.heap.size, 3, none⟩ = some (.bool more) := bk.cell 3 _ rfl
 have d4 : w3.drew.cell? ⟨w2.heap.size, 4, none⟩ = some (.int .i64 t) := bk.cell 4 _ rfl
 have BK : Hid (Blk w3.drew w2.heap.size #[.int .u64 lo, .int .u64 a, .int .u64 hi', .bool more, .int .i64 t] 211) := hide bk
 have B3 : Hid (Below w.heap.size w w3.drew) := hide b3.drew
 clear bk b3 b2
 go_cut [9, 10] from 26 to 29 (fun s9 s10 wx => ∃ x : Nat, s9 = .int .u64 x ∧ x < 18446744073709551616 ∧ Hid (∃ j, Best r j (x * 10 ^ c)) ∧ s10 = .int .i64 t ∧ Hid (Below w.heap.size w wx))
 case first =>
  go_region_with (first
   | (go_at_call 163
      refine (unhide (KSH _)).mono ?_
      rintro _ w4 ⟨⟨x, rfl, hx, hbest⟩, b4⟩
      have BE := hide hbest
      have k4 : w4.cell? ⟨w2.heap.size, 4, none⟩ = some (.int .i64 t) := ((unhide BK).below b4).cell 4 _ rfl
      have B4 := hide ((unhide B3).trans (b4.mono (unhide B3).size))
      clear hbest b4))
  all_goals (go_wp2_with fail; go_meet; exact ⟨x, rfl, hx, BE, rfl, B4⟩)
 case rest =>
 obtain ⟨x, rfl, hx, HB, rfl, B4⟩ := hcut
 clear KSH d0 d1 d2 d3 d4 BK B3
 have x0 : 0 < x := by
  rcases Nat.eq_zero_or_pos x with h | h
  ·exfalso
   obtain ⟨j, hj⟩ := unhide HB
   rw [h, Nat.zero_mul] at hj
   exact best_pos hj
  ·exact h
 go_wp2_with fail
 go_loopw [9, 10] (fun v9 v10 wr => ∃ (n k : Nat), v9 = .int .u64 n ∧ v10 = .int .i64 (t + (k : Int)) ∧ 0 < n ∧ k < 20 ∧ Hid (n * 10 ^ k = x) ∧ n < 18446744073709551616 ∧ wr = wc) (fun v9 _ _ => (intOf v9).toNat)
 case atStart => exact ⟨x, 0, rfl, by simp, x0, by omega, hide (by simp), hx, by trivial⟩
 case round =>
  obtain ⟨n, k, rfl, rfl, n0, hk, hn, n1, rfl⟩ := hrel
  by_cases c1 : n % 10 = 0
  ·have y1 : (n : Int) % 10 = 0 := by omega
   have y2 : IntKind.u64.wrap ((n : Int).tdiv 10) = ((n / 10 : Nat) : Int) := by
    rw [Int.tdiv_eq_ediv_of_nonneg (by omega)]
    simp [IntKind.wrap, IntKind.bits, IntKind.signed]
    omega
   have y4 : IntKind.u64.wrap ((n : Int) / 10) = ((n / 10 : Nat) : Int) := by
    simp [IntKind.wrap, IntKind.bits, IntKind.signed]
    omega
   have y5 : (((n : Int) % 10) == 0) = true := by rw [y1]; rfl
   have y3 : IntKind.i64.wrap (t + (k : Int) + 1) = t + ((k + 1 : Nat) : Int) := by
    rw [wrap_small _ (by omega) (by omega)]
    omega
   have HN : Hid (n / 10 * 10 ^ (k + 1) = x) := hide (by
    rw [← unhide hn, Nat.pow_succ, Nat.mul_comm (10 ^ k), ← Nat.mul_assoc]
    congr 1
    omega)
   have hk2 : k + 1 < 20 := by
    rcases Nat.lt_or_ge (k + 1) 20 with g | g
    ·exact g
    ·exfalso
     have e : k = 19 := by omega
     have := unhide HN
     rw [e] at this
     have : 0 < n / 10 := by omega
     omega
   have HM : Hid (n / 10 < n ∧ 0 < n / 10) := hide (by omega)
   have n2 : n / 10 < 18446744073709551616 := by omega
   clear y1
   go_wp2
   go_roundw
   case rel => exact ⟨n / 10, k + 1, by first | rfl | simp, by first | rfl | simp, (unhide HM).2, hk2, HN, n2, by trivial⟩
   case measure => have := unhide HM; simp only [intOf]; omega
  ·have y5 : (((n : Int) % 10) == 0) = false := beq_false_of_ne (by omega)
   have KF := hide (format_any wr n n1 (tab_below (unhide HT) (unhide B4)))
   have HBN : Hid (∃ j, Best r j (n * 10 ^ (t + (k : Int) + 1080).toNat)) := hide (by
    obtain ⟨j, hj⟩ := unhide HB
    refine ⟨j, ?_⟩
    rw [← unhide hn, unhide HC] at hj
    rwa [show (t + (k : Int) + 1080).toNat = k + (t + 1080).toNat by omega, Nat.pow_add, ← Nat.mul_assoc])
   clear HT HC
   go_wp2_with fail
   refine (unhide KF).mono ?_
   rintro _ w5 ⟨rfl, b5⟩
   have B5 := hide ((unhide B4).trans (b5.mono (unhide B4).size))
   clear b5 KF
   go_wp2
   refine bodyPost_ret (v := .tuple #[.string ⟨(Lib.decDigits n).toArray⟩, .int .i64 (t + (k : Int)), .int .i64 0]) (by simp [results, Tryz.results138, go_sem]) rfl ?_
   exact ⟨⟨n, t + (k : Int), rfl, c1, n1, by omega, by omega, unhide HBN⟩, unhide B5⟩
end Go.Proofs.YtnbfnjhbmeocfabGreatDoor.bigs
namespace Go.Proofs.YtnbfnjhbmeocfabGreatDoor.bigs
open Go.RowKit
theorem decDigits_decs (n : Nat) : Lib.decDigits n = decs n := by
 induction n using Nat.strongRecOn with
 | ind n ih =>
  by_cases h : n < 10
  ·rw [Lib.decDigits, dif_pos h]
   unfold decs
   by_cases z : n = 0
   ·rw [if_pos z, z]; rfl
   ·rw [if_neg z, toDec_pos z, show n / 10 = 0 by omega, toDec_zero, Nat.mod_eq_of_lt h]; rfl
  ·rw [Lib.decDigits, dif_neg h, ih _ (by omega)]
   unfold decs
   rw [if_neg (by omega), if_neg (by omega), toDec_pos (n := n) (by omega)]
theorem ten_cross (d : Nat) (x : Int) (h1 : -1080 ≤ x) : d * 10 ^ x.toNat * T10 = d * 10 ^ (x + 1080).toNat * 10 ^ (-x).toNat := by
 rcases Int.le_total 0 x with h | h
 ·have e1 : (x + 1080).toNat = x.toNat + c80 := by unfold c80; omega
  have e2 : (-x).toNat = 0 := by omega
  rw [e1, e2, Nat.pow_add, Nat.pow_zero, Nat.mul_one, Nat.mul_assoc]
  rfl
 ·have e1 : x.toNat = 0 := by omega
  have e2 : 1080 = (x + 1080).toNat + (-x).toNat := by omega
  rw [e1, Nat.pow_zero, Nat.mul_one]
  exact T10_split d e2
theorem okay_nearD {r d : Nat} {x : Int} (h0 : 0 < r) (hi : r < 9218868437227405312) (h1 : -1080 ≤ x) (hd : d ≠ 0) : NearD d x r ↔ Okay r (d * 10 ^ (x + 1080).toNat) := by
 have h := near_okay (pow10_pos (-x).toNat) h0 hi (ten_cross d x h1)
 unfold NearD
 constructor
 ·rintro (⟨e, _⟩ | ⟨_, k⟩)
  ·exact absurd e hd
  ·exact h.1 k
 ·intro k
  exact .inr ⟨hd, h.2 k⟩
theorem decs_front {d : Nat} (hd : d ≠ 0) : (decs d).getD 0 0 ≠ 48 := by
 obtain ⟨h1, h2, h3⟩ := decs_form d
 rcases h3 with h | h
 ·exact h
 ·intro e
  have : decs d = [48] := by
   cases hl : decs d with
   | nil => exact absurd hl h1
   | cons a r =>
    rw [hl] at h e
    cases r with
    | nil => simp at e; rw [e]
    | cons x y => simp at h
  have v := dec_decs d
  rw [this] at v
  exact hd (by rw [← v]; rfl)
theorem bytes_len (l : List UInt8) : (⟨l.toArray⟩ : ByteArray).size = l.length := by simp [ByteArray.size]
theorem back_none_plain {b r : Nat} (hr : r = b % 9223372036854775808) (hb : b < 18446744073709551616) (h0 : r = 0 ∨ 9218868437227405312 ≤ r) : (fparts b).2.2 = 1 ∨ (fparts b).2.2 = 2 ∨ ((fparts b).2.2 = 0 ∧ (fparts b).1 = 0) := by
 unfold fparts
 by_cases c : b / 4503599627370496 % 2048 = 2047
 ·rw [if_pos c]
  by_cases c2 : b % 4503599627370496 = 0
  ·rw [if_pos c2]; exact .inl rfl
  ·rw [if_neg c2]; exact .inr (.inl rfl)
 ·rw [if_neg c, if_pos (by omega)]
  exact .inr (.inr ⟨rfl, by simp only; omega⟩)
end Go.Proofs.YtnbfnjhbmeocfabGreatDoor.bigs
namespace Go.Proofs.YtnbfnjhbmeocfabGreatDoor.bigs
open Go.RowKit
theorem units (q E : Nat) : q * 2 ^ E * wF = q * 5 ^ sc * 2 ^ (E + 4) := by
 have e : c80 = sc := rfl
 rw [wF_eq2, e, Nat.pow_add]
 have e2 : (2 : Nat) ^ 4 = 16 := rfl
 rw [e2]
 generalize 5 ^ sc = z
 generalize 2 ^ E = y
 simp only [Nat.mul_assoc, Nat.mul_comm, Nat.mul_left_comm]
theorem fX_told (r : Nat) : fX r = mant r * 5 ^ sc * 2 ^ (r / 4503599627370496 - 1 + 6) := by
 unfold fX fval step
 rw [units, Nat.pow_add, Nat.pow_add]
 generalize 5 ^ sc = z
 generalize 2 ^ (r / 4503599627370496 - 1) = y
 generalize mant r = m
 have e2 : (2 : Nat) ^ 4 = 16 := rfl
 have e3 : (2 : Nat) ^ 6 = 16 * 4 := rfl
 rw [e2, e3]
 simp only [Nat.mul_assoc, Nat.mul_comm, Nat.mul_left_comm]
end Go.Proofs.YtnbfnjhbmeocfabGreatDoor.bigs
namespace Go.Proofs.YtnbfnjhbmeocfabGreatDoor.bigs
open Go.RowKit
theorem len_X (r : Nat) (hi : r < 9218868437227405312) : (decs (fX r)).length ≤ 4000 := by
 rw [fX_told]
 have hm := mant_lt r
 obtain ⟨E, hE⟩ : ∃ E, E = r / 4503599627370496 - 1 + 6 := ⟨_, rfl⟩
 have hE2 : E ≤ 2051 := by omega
 rw [← hE]
 have h1 : (5 : Nat) ^ sc ≤ 10 ^ sc := Nat.pow_le_pow_left (by decide) _
 have h2 : (2 : Nat) ^ E ≤ 10 ^ E := Nat.pow_le_pow_left (by decide) _
 have h3 : mant r < 10 ^ 16 := Nat.lt_of_lt_of_le hm (by decide)
 have p1 : 0 < (10 : Nat) ^ sc := Nat.pow_pos (by decide)
 have p2 : 0 < (10 : Nat) ^ E := Nat.pow_pos (by decide)
 have h4 : mant r * 5 ^ sc * 2 ^ E < 10 ^ 16 * 10 ^ sc * 10 ^ E :=
  Nat.lt_of_le_of_lt (Nat.mul_le_mul (Nat.mul_le_mul (Nat.le_refl _) h1) h2) (Nat.mul_lt_mul_of_pos_right (Nat.mul_lt_mul_of_pos_right h3 p1) p2)
 rw [← Nat.pow_add, ← Nat.pow_add] at h4
 have hsc : sc = 1080 := rfl
 have := decs_length_le h4 (by omega)
 omega
end Go.Proofs.YtnbfnjhbmeocfabGreatDoor.bigs
namespace Go.Proofs.YtnbfnjhbmeocfabGreatDoor.bigs
open Go.RowKit
theorem short_same {r j i d e : Nat} {ten t : Int} (h1 : Best r j (d * 10 ^ (ten + 1080).toNat)) (h2 : Best r i (e * 10 ^ (t + 1080).toNat)) (hd : d % 10 ≠ 0) (he : e % 10 ≠ 0) (h3 : -1080 ≤ ten) (h4 : -1080 ≤ t) : e = d ∧ t = ten := by
 obtain ⟨a, b⟩ := ten_unique (best_unique h1 h2) hd he
 exact ⟨a.symm, by omega⟩
end Go.Proofs.YtnbfnjhbmeocfabGreatDoor.bigs
namespace Go.Proofs.YtnbfnjhbmeocfabGreatDoor.bigs
open Go.RowKit Go.Sort
theorem repeat_zeros (n : Nat) : (⟨(Lib.repeatL [48] n).toArray⟩ : ByteArray) = zeros n := by
 unfold zeros
 congr 2
 induction n with
 | zero => rfl
 | succ n ih => rw [List.replicate_succ, ← ih]; rfl
theorem noughtsP_any (w : World) (n : Nat) (hn : n ≤ 1000) :
  Calls Tryz.prog 166 #[.int .i64 (n : Int)] w fun e w' => e = .returned (.string (zeros n)) ∧ Below w.heap.size w w' := by
 have K : Hid (Calls Tryz.prog 159 #[.string ⟨#[48]⟩, .int .i64 (n : Int)] w fun e w' => e = .returned (.string (zeros n)) ∧ Below w.heap.size w w') := hide (by
  by_cases h0 : n = 0
  ·subst h0
   refine (Tryz.strings_Repeat_zero ⟨#[48]⟩ w).mono ?_
   rintro e w' ⟨rfl, rfl⟩
   exact ⟨rfl, Below.refl _ _⟩
  ·by_cases h1 : n = 1
   ·subst h1
    refine (Tryz.strings_Repeat_one ⟨#[48]⟩ w).mono ?_
    rintro e w' ⟨rfl, rfl⟩
    exact ⟨rfl, Below.refl _ _⟩
   ·have h := Tryz.strings_Repeat_main ⟨#[48]⟩ n w (by omega) (by omega) (by show 1 * n ≤ _; omega) (by decide)
    rw [show (⟨#[48]⟩ : ByteArray).data.toList = [48] by rfl, repeat_zeros] at h
    exact h)
 go_enter Tryz.func166, Tryz.ntmps166
 go_wp2_with fail
 refine (unhide K).mono ?_
 rintro e w' ⟨rfl, b⟩
 have B := hide b
 clear b K
 go_wp2
 go_ret
 exact ⟨rfl, unhide B⟩
theorem cat_list (a b : ByteArray) : (a ++ b).data.toList = a.data.toList ++ b.data.toList := by
 rw [ByteArray.data_append, Array.toList_append]
theorem cat_run (a b : ByteArray) (h : a.size + b.size ≤ 100000) (u : World) : (Op.stringOp .add a b).run Tryz.prog u = .ok (.string (a ++ b)) u := run_string_add_sum _ _ _ (by omega)
theorem zeros_list (n : Nat) : (zeros n).data.toList = List.replicate n 48 := by unfold zeros; simp
theorem cut_list (s : ByteArray) (a b : Nat) : (s.extract a b).data.toList = (s.data.toList.take b).drop a := by
 rw [ByteArray.data_extract, Array.toList_extract]
 simp [List.extract, List.drop_take]
theorem cut_front (s : ByteArray) (b : Nat) : (s.extract 0 b).data.toList = s.data.toList.take b := by rw [cut_list, List.drop_zero]
theorem cut_rear (s : ByteArray) (a : Nat) : (s.extract a s.size).data.toList = s.data.toList.drop a := by
 rw [cut_list, List.take_of_length_le (by rw [blen_list]; exact Nat.le_refl _)]
theorem cut_size (s : ByteArray) (a b : Nat) (h : b ≤ s.size) : (s.extract a b).size = b - a := by rw [ByteArray.size_extract]; omega
def expL (D : List UInt8) (x : Int) : List UInt8 := D.take 1 ++ ((if D.drop 1 = [] then [] else 46 :: D.drop 1) ++ 101 :: Lib.itoa x)
theorem itoa_len (x : Int) (h1 : -100000 ≤ x) (h2 : x ≤ 100000) : (Lib.itoa x).length ≤ 10 := by
 have e : (10 : Nat) ^ 6 = 1000000 := by decide
 unfold Lib.itoa
 split
 ·rw [List.length_cons, decDigits_decs]
  have := decs_length_le (n := x.natAbs) (k := 6) (by omega) (by decide)
  omega
 ·rw [decDigits_decs]
  have := decs_length_le (n := x.toNat) (k := 6) (by omega) (by decide)
  omega
theorem withExp_any (w : World) (S : ByteArray) (x : Int) (s1 : 0 < S.size) (s2 : S.size ≤ 100) (x1 : -100000 ≤ x) (x2 : x ≤ 100000) (htab : Lib.TabIs Tryz.prog w "internal/strconv.uint64pow10" .u64 Lib.pow10Tab) :
  Calls Tryz.prog 165 #[.string S, .int .i64 x] w fun e w' => (∃ R : ByteArray, e = .returned (.string R) ∧ R.data.toList = expL S.data.toList x) ∧ Below w.heap.size w w' := by
 have KI : ∀ k, Hid (Calls Tryz.prog 194 #[.int .i64 x] (w.drewN k) fun e w' => e = .returned (.string ⟨(Lib.itoa x).toArray⟩) ∧ Below w.heap.size w w') := fun k => hide (by
  refine (Tryz.strconv_Itoa x (by omega) (by omega) (w.drewN k) (tab_below htab (below_drewN (Below.refl _ _) k))).mono ?_
  rintro e w' ⟨rfl, i, os, hw⟩
  refine ⟨rfl, ?_⟩
  rw [hw]
  have h := Lib.below_grow (w.drewN k).heap.size (w.drewN k) (Nat.le_refl _) i os
  exact (below_drewN (Below.refl _ _) k).trans (h.mono (Nat.le_refl _)))
 have il := itoa_len x x1 x2
 obtain ⟨I, hI⟩ : ∃ I : ByteArray, I = ⟨(Lib.itoa x).toArray⟩ := ⟨_, rfl⟩
 have Is : I.size ≤ 10 := by rw [hI, bytes_len]; exact il
 have IL : I.data.toList = Lib.itoa x := by rw [hI]
 rw [← hI] at KI
 obtain ⟨F, hF⟩ : ∃ F : ByteArray, S.extract 0 1 = F := ⟨_, rfl⟩
 obtain ⟨T, hT⟩ : ∃ T : ByteArray, S.extract 1 S.size = T := ⟨_, rfl⟩
 have Fs : F.size = 1 := by rw [← hF, cut_size _ _ _ (by omega)]
 have Ts : T.size = S.size - 1 := by rw [← hT, cut_size _ _ _ (by omega)]
 have FL : F.data.toList = S.data.toList.take 1 := by rw [← hF, cut_front]
 have TL : T.data.toList = S.data.toList.drop 1 := by rw [← hT, cut_rear]
 have q0 : (1 : Int) ≤ (S.size : Int) := by omega
 have d1 : (⟨#[46]⟩ : ByteArray).size = 1 := rfl
 have d2 : (⟨#[101]⟩ : ByteArray).size = 1 := rfl
 have c1 := cat_run ⟨#[46]⟩ T (by omega)
 have c2 := cat_run F (⟨#[46]⟩ ++ T) (by rw [ByteArray.size_append]; omega)
 have c3 := cat_run (F ++ (⟨#[46]⟩ ++ T)) ⟨#[101]⟩ (by rw [ByteArray.size_append, ByteArray.size_append]; omega)
 have c4 := cat_run ((F ++ (⟨#[46]⟩ ++ T)) ++ ⟨#[101]⟩) I (by rw [ByteArray.size_append, ByteArray.size_append, ByteArray.size_append]; omega)
 have c5 := cat_run F ⟨#[101]⟩ (by omega)
 have c6 := cat_run (F ++ ⟨#[101]⟩) I (by rw [ByteArray.size_append]; omega)
 have R1 : Hid (T.data.toList ≠ [] → (((F ++ (⟨#[46]⟩ ++ T)) ++ ⟨#[101]⟩) ++ I).data.toList = expL S.data.toList x) := hide (fun h => by
  unfold expL
  rw [cat_list, cat_list, cat_list, cat_list, IL, FL, TL, if_neg (by rw [← TL]; exact h)]
  simp)
 have R2 : Hid (T.data.toList = [] → ((F ++ ⟨#[101]⟩) ++ I).data.toList = expL S.data.toList x) := hide (fun h => by
  unfold expL
  rw [cat_list, cat_list, IL, FL, if_pos (by rw [← TL]; exact h)]
  simp)
 generalize hA4 : ((F ++ (⟨#[46]⟩ ++ T)) ++ ⟨#[101]⟩) ++ I = A4 at *
 generalize hA3 : (F ++ (⟨#[46]⟩ ++ T)) ++ ⟨#[101]⟩ = A3 at *
 generalize hA2 : F ++ (⟨#[46]⟩ ++ T) = A2 at *
 generalize hA1 : (⟨#[46]⟩ : ByteArray) ++ T = A1 at *
 generalize hA6 : (F ++ ⟨#[101]⟩) ++ I = A6 at *
 generalize hA5 : F ++ (⟨#[101]⟩ : ByteArray) = A5 at *
 have TN := hide (blen_list T)
 clear htab hI IL FL TL hA1 hA2 hA3 hA4 hA5 hA6 d1 d2 Fs il
 by_cases c : S.size = 1
 ·have T0 : T.toList = [] := by
   rw [ByteArray.toList_eq]
   exact List.eq_nil_of_length_eq_zero (by rw [unhide TN]; omega)
  have R := hide (unhide R2 (by rw [← ByteArray.toList_eq]; exact T0))
  clear R1 R2 Ts TN c1 c2 c3 c4 c
  go_enter Tryz.func165, Tryz.ntmps165
  go_wp2_with fail
  go_quiet (fail)
  go_wp2_with fail
  refine (unhide (KI _)).mono ?_
  rintro _ w2 ⟨rfl, b2⟩
  have B := hide b2
  clear b2 KI
  go_wp2
  go_ret
  exact ⟨⟨A6, rfl, unhide R⟩, unhide B⟩
 ·have T1 : T.data.toList ≠ [] := fun e => by
   have h := unhide TN
   rw [e] at h
   simp at h
   omega
  have T0 : T.toList.isEmpty = false := by
   rw [ByteArray.toList_eq]
   cases hl : T.data.toList with
   | nil => exact absurd hl T1
   | cons a r => rfl
  have R := hide (unhide R1 T1)
  clear R1 R2 Ts TN c5 c6 c T1
  go_enter Tryz.func165, Tryz.ntmps165
  go_wp2_with fail
  go_quiet (fail)
  go_wp2_with fail
  refine (unhide (KI _)).mono ?_
  rintro _ w2 ⟨rfl, b2⟩
  have B := hide b2
  clear b2 KI
  go_wp2
  go_ret
  exact ⟨⟨A4, rfl, unhide R⟩, unhide B⟩
end Go.Proofs.YtnbfnjhbmeocfabGreatDoor.bigs
namespace Go.Proofs.YtnbfnjhbmeocfabGreatDoor.bigs
open Go.RowKit Go.Sort
def layL (D : List UInt8) (p : Int) : List UInt8 :=
 if p < -3 ∨ 17 < p then expL D (p - 1) else if p ≤ 0 then [48, 46] ++ (List.replicate (-p).toNat 48 ++ D) else if p < (D.length : Int) then D.take p.toNat ++ 46 :: D.drop p.toNat else D ++ (List.replicate (p - (D.length : Int)).toNat 48 ++ [46, 48])
theorem i64_keep (x : Int) (h1 : -1000000000 ≤ x) (h2 : x ≤ 1000000000) : IntKind.i64.wrap x = x := by
 simp [IntKind.wrap, IntKind.bits, IntKind.signed]
 omega
theorem layOut_any (w : World) (S : ByteArray) (p : Int) (s1 : 0 < S.size) (s2 : S.size ≤ 100) (x1 : -10000 ≤ p) (x2 : p ≤ 10000) (htab : Lib.TabIs Tryz.prog w "internal/strconv.uint64pow10" .u64 Lib.pow10Tab) :
  Calls Tryz.prog 139 #[.string S, .int .i64 p] w fun e w' => (∃ R : ByteArray, e = .returned (.string R) ∧ R.data.toList = layL S.data.toList p) ∧ Below w.heap.size w w' := by
 have SN := blen_list S
 by_cases cA : p < -3 ∨ 17 < p
 ·have K := hide (withExp_any w S (p - 1) s1 s2 (by omega) (by omega) htab)
  have y := i64_keep (p - 1) (by omega) (by omega)
  have E : Hid (layL S.data.toList p = expL S.data.toList (p - 1)) := hide (by unfold layL; rw [if_pos cA])
  obtain ⟨q, hq⟩ : ∃ q, q = p - 1 := ⟨_, rfl⟩
  rw [← hq] at K E
  have y' : IntKind.i64.wrap (p - 1) = q := by rw [hq]; exact y
  clear htab SN y hq
  rcases cA with c | c
  ·go_enter Tryz.func139, Tryz.ntmps139
   go_wp2_with fail
   refine (unhide K).mono ?_
   rintro _ w1 ⟨⟨R, rfl, hR⟩, b1⟩
   have B := hide b1
   have HR := hide hR
   clear b1 hR K
   go_wp2
   go_ret
   exact ⟨⟨R, rfl, by rw [unhide HR, unhide E]⟩, unhide B⟩
  ·have c' : ¬ p < -3 := by omega
   have c2 : p > 17 := c
   go_enter Tryz.func139, Tryz.ntmps139
   go_wp2_with fail
   refine (unhide K).mono ?_
   rintro _ w1 ⟨⟨R, rfl, hR⟩, b1⟩
   have B := hide b1
   have HR := hide hR
   clear b1 hR K
   go_wp2
   go_ret
   exact ⟨⟨R, rfl, by rw [unhide HR, unhide E]⟩, unhide B⟩
 ·have i1 : ¬ p < -3 := by omega
  have i2 : ¬ p > 17 := by omega
  by_cases cB : p ≤ 0
  ·obtain ⟨n, hn⟩ : ∃ n : Nat, p = -(n : Int) := ⟨(-p).toNat, by omega⟩
   have K := hide (noughtsP_any w n (by omega))
   obtain ⟨Z, hZ⟩ : ∃ Z : ByteArray, Z = zeros n := ⟨_, rfl⟩
   have Zs : Z.size = n := by rw [hZ, zeros_size]
   have y : IntKind.i64.wrap (-p) = (n : Int) := by rw [i64_keep _ (by omega) (by omega)]; omega
   have d1 : (⟨#[48, 46]⟩ : ByteArray).size = 2 := rfl
   have c1 := cat_run ⟨#[48, 46]⟩ Z (by omega)
   have c2 := cat_run (⟨#[48, 46]⟩ ++ Z) S (by rw [ByteArray.size_append]; omega)
   have R : Hid (((⟨#[48, 46]⟩ ++ Z) ++ S).data.toList = layL S.data.toList p) := hide (by
    unfold layL
    rw [if_neg cA, if_pos cB, cat_list, cat_list, hZ, zeros_list, show (-p).toNat = n by omega]
    simp)
   rw [← hZ] at K
   generalize (⟨#[48, 46]⟩ ++ Z) ++ S = A2 at *
   generalize (⟨#[48, 46]⟩ : ByteArray) ++ Z = A1 at *
   clear htab SN hZ hn d1 cA
   go_enter Tryz.func139, Tryz.ntmps139
   go_wp2_with fail
   refine (unhide K).mono ?_
   rintro _ w1 ⟨rfl, b1⟩
   have B := hide b1
   clear b1 K
   go_wp2
   go_ret
   exact ⟨⟨A2, rfl, unhide R⟩, unhide B⟩
  ·by_cases cC : p < (S.size : Int)
   ·obtain ⟨n, rfl⟩ : ∃ n : Nat, p = (n : Int) := ⟨p.toNat, by omega⟩
    obtain ⟨F, hF⟩ : ∃ F : ByteArray, S.extract 0 n = F := ⟨_, rfl⟩
    obtain ⟨T, hT⟩ : ∃ T : ByteArray, S.extract n S.size = T := ⟨_, rfl⟩
    have Fs : F.size = n := by rw [← hF, cut_size _ _ _ (by omega)]; omega
    have Ts : T.size = S.size - n := by rw [← hT, cut_size _ _ _ (by omega)]
    have FL : F.data.toList = S.data.toList.take n := by rw [← hF, cut_front]
    have TL : T.data.toList = S.data.toList.drop n := by rw [← hT, cut_rear]
    have d1 : (⟨#[46]⟩ : ByteArray).size = 1 := rfl
    have c1 := cat_run F ⟨#[46]⟩ (by omega)
    have c2 := cat_run (F ++ ⟨#[46]⟩) T (by rw [ByteArray.size_append]; omega)
    have R : Hid (((F ++ ⟨#[46]⟩) ++ T).data.toList = layL S.data.toList (n : Int)) := hide (by
     unfold layL
     rw [if_neg cA, if_neg cB, SN, if_pos cC, cat_list, cat_list, FL, TL, Int.toNat_natCast]
     simp)
    have q0 : (0 : Int) ≤ (n : Int) := by omega
    have q1 : (n : Int) ≤ (S.size : Int) := by omega
    generalize (F ++ ⟨#[46]⟩) ++ T = A2 at *
    generalize F ++ (⟨#[46]⟩ : ByteArray) = A1 at *
    clear htab SN FL TL d1 cA Fs Ts
    go_enter Tryz.func139, Tryz.ntmps139
    go_wp2_with fail
    go_quiet (fail)
    go_wp2
    go_ret
    exact ⟨⟨A2, rfl, unhide R⟩, below_drewN (Below.refl _ _) _⟩
   ·obtain ⟨n, hn⟩ : ∃ n : Nat, p - (S.size : Int) = (n : Int) := ⟨(p - (S.size : Int)).toNat, by omega⟩
    have K := hide (noughtsP_any w n (by omega))
    obtain ⟨Z, hZ⟩ : ∃ Z : ByteArray, Z = zeros n := ⟨_, rfl⟩
    have Zs : Z.size = n := by rw [hZ, zeros_size]
    have y : IntKind.i64.wrap (p - (S.size : Int)) = (n : Int) := by rw [i64_keep _ (by omega) (by omega)]; omega
    have d1 : (⟨#[46, 48]⟩ : ByteArray).size = 2 := rfl
    have c1 := cat_run S Z (by omega)
    have c2 := cat_run (S ++ Z) ⟨#[46, 48]⟩ (by rw [ByteArray.size_append]; omega)
    have R : Hid (((S ++ Z) ++ ⟨#[46, 48]⟩).data.toList = layL S.data.toList p) := hide (by
     unfold layL
     rw [if_neg cA, if_neg cB, SN, if_neg cC, cat_list, cat_list, hZ, zeros_list, hn, Int.toNat_natCast]
     simp)
    rw [← hZ] at K
    generalize (S ++ Z) ++ ⟨#[46, 48]⟩ = A2 at *
    generalize S ++ Z = A1 at *
    clear htab SN hZ hn d1 cA
    go_enter Tryz.func139, Tryz.ntmps139
    go_wp2_with fail
    refine (unhide K).mono ?_
    rintro _ w1 ⟨rfl, b1⟩
    have B := hide b1
    clear b1 K
    go_wp2
    go_ret
    exact ⟨⟨A2, rfl, unhide R⟩, unhide B⟩
end Go.Proofs.YtnbfnjhbmeocfabGreatDoor.bigs
namespace Go.Proofs.YtnbfnjhbmeocfabGreatDoor.bigs
open Go.RowKit Go.Sort
def sgL (b : Nat) : List UInt8 := if 9223372036854775808 ≤ b then [45] else []
def TextIs (b : Nat) (T : List UInt8) : Prop :=
 ((fparts b).2.2 = 2 ∧ T = [110, 97, 110]) ∨ ((fparts b).2.2 = 1 ∧ T = sgL b ++ [105, 110, 102]) ∨ ((fparts b).2.2 = 0 ∧ (fparts b).1 = 0 ∧ T = sgL b ++ [48, 46, 48]) ∨
 ((fparts b).2.2 = 0 ∧ (fparts b).1 ≠ 0 ∧ ∃ (d j : Nat) (ten : Int), d % 10 ≠ 0 ∧ -1080 ≤ ten ∧ Best (b % 9223372036854775808) j (d * 10 ^ (ten + 1080).toNat) ∧ T = sgL b ++ layL (decs d) (((decs d).length : Int) + ten))
theorem textIs_unique {b : Nat} {T U : List UInt8} (h : TextIs b T) (k : TextIs b U) : T = U := by
 rcases h with ⟨a, h⟩ | ⟨a, h⟩ | ⟨a, a2, h⟩ | ⟨a, a2, d, j, ten, h1, h2, h3, h⟩ <;> rcases k with ⟨c, k⟩ | ⟨c, k⟩ | ⟨c, c2, k⟩ | ⟨c, c2, d', j', ten', k1, k2, k3, k⟩ <;> first | (rw [h, k]; done) | omega | skip
 obtain ⟨e1, e2⟩ := short_same h3 k3 h1 k1 h2 k2
 rw [h, k, e1, e2]
theorem and_top (b : Nat) (hb : b < 18446744073709551616) : Go.bits .and .u64 (b : Int) 9223372036854775808 = if 9223372036854775808 ≤ b then 9223372036854775808 else 0 := by
 have h := bits_and_u64_nat b 9223372036854775808 hb (by decide)
 have e : (9223372036854775808 : Nat) = 2 ^ 63 := by decide
 have h2 : b &&& 9223372036854775808 = if 9223372036854775808 ≤ b then 9223372036854775808 else 0 := by
  have top : b.testBit 63 = decide (9223372036854775808 ≤ b) := by
   rw [Nat.testBit_eq_decide_div_mod_eq, ← e, decide_eq_decide]
   omega
  apply Nat.eq_of_testBit_eq
  intro i
  rw [Nat.testBit_and, e, Nat.testBit_two_pow, ← e]
  by_cases c : 9223372036854775808 ≤ b
  ·rw [if_pos c, e, Nat.testBit_two_pow]
   by_cases hi : 63 = i
   ·rw [← hi, top, decide_eq_true c]; rfl
   ·rw [decide_eq_false hi]; simp
  ·rw [if_neg c, Nat.zero_testBit]
   by_cases hi : 63 = i
   ·rw [← hi, top, decide_eq_false c]; rfl
   ·rw [decide_eq_false hi]; simp
 rw [h2] at h
 split at h
 ·rw [if_pos (by assumption)]; exact h
 ·rw [if_neg (by assumption)]; exact h
def SgOf (b : Nat) (G : ByteArray) : Prop := (9223372036854775808 ≤ b ∧ G = ⟨#[45]⟩) ∨ (b < 9223372036854775808 ∧ G = ⟨#[]⟩)
theorem sgOf_list {b : Nat} {G : ByteArray} (h : SgOf b G) : G.data.toList = sgL b ∧ G.size ≤ 1 := by
 unfold sgL
 rcases h with ⟨h, rfl⟩ | ⟨h, rfl⟩
 ·rw [if_pos h]; exact ⟨rfl, by decide⟩
 ·rw [if_neg (by omega)]; exact ⟨rfl, by decide⟩
theorem textW_plain (w : World) (b kd : Nat) (hb : b < 18446744073709551616) (hk : (fparts b).2.2 = (kd : Int)) (hkd : (kd = 2) ∨ (kd = 1) ∨ (kd = 0 ∧ (fparts b).1 = 0)) :
  Calls Tryz.prog 114 #[.int .u64 (b : Int)] w fun e w' => (∃ R : ByteArray, e = .returned (.string R) ∧ TextIs b R.data.toList) ∧ Below w.heap.size w w' := by
 have kp := partsW_any w b hb
 have an := and_top b hb
 have TI : ∀ (G : ByteArray), SgOf b G → (kd = 2 → Hid (TextIs b [110, 97, 110])) ∧ (kd = 1 → Hid (TextIs b (G ++ ⟨#[105, 110, 102]⟩).data.toList)) ∧ (kd = 0 → (fparts b).1 = 0 → Hid (TextIs b (G ++ ⟨#[48, 46, 48]⟩).data.toList)) := fun G hG => by
  obtain ⟨g1, _⟩ := sgOf_list hG
  refine ⟨fun h => hide (.inl ⟨by rw [hk, h]; rfl, rfl⟩), fun h => hide (.inr (.inl ⟨by rw [hk, h]; rfl, by rw [cat_list, g1]⟩)), fun h h2 => hide (.inr (.inr (.inl ⟨by rw [hk, h]; rfl, h2, by rw [cat_list, g1]⟩)))⟩
 rw [hk] at kp
 generalize (fparts b).2.1 = ex at *
 generalize (fparts b).1 = mt at *
 have KP := hide kp
 clear kp hk
 by_cases sg : 9223372036854775808 ≤ b
 ·rw [if_pos sg] at an
  obtain ⟨t2, t1, t0⟩ := TI ⟨#[45]⟩ (.inl ⟨sg, rfl⟩)
  have d0 : (⟨#[45]⟩ : ByteArray).size = 1 := rfl
  have d1 : (⟨#[105, 110, 102]⟩ : ByteArray).size = 3 := rfl
  have d2 : (⟨#[48, 46, 48]⟩ : ByteArray).size = 3 := rfl
  have c1 := cat_run ⟨#[45]⟩ ⟨#[105, 110, 102]⟩ (by omega)
  have c2 := cat_run ⟨#[45]⟩ ⟨#[48, 46, 48]⟩ (by omega)
  generalize (⟨#[45]⟩ : ByteArray) ++ ⟨#[105, 110, 102]⟩ = A1 at *
  generalize (⟨#[45]⟩ : ByteArray) ++ ⟨#[48, 46, 48]⟩ = A2 at *
  clear TI d0 d1 d2 sg hb
  rcases hkd with rfl | rfl | ⟨rfl, rfl⟩
  ·have T := t2 rfl
   clear t2 t1 t0
   go_enter Tryz.func114, Tryz.ntmps114
   go_wp2_with fail
   refine (unhide KP).mono ?_
   rintro _ w1 ⟨rfl, rfl⟩
   clear KP
   go_wp2
   go_ret
   exact ⟨⟨_, rfl, unhide T⟩, Below.refl _ _⟩
  ·have T := t1 rfl
   clear t2 t1 t0
   go_enter Tryz.func114, Tryz.ntmps114
   go_wp2_with fail
   refine (unhide KP).mono ?_
   rintro _ w1 ⟨rfl, rfl⟩
   clear KP
   go_wp2
   go_ret
   exact ⟨⟨A1, rfl, unhide T⟩, Below.refl _ _⟩
  ·have T := t0 rfl rfl
   clear t2 t1 t0
   go_enter Tryz.func114, Tryz.ntmps114
   go_wp2_with fail
   refine (unhide KP).mono ?_
   rintro _ w1 ⟨rfl, rfl⟩
   clear KP
   go_wp2
   go_ret
   exact ⟨⟨A2, rfl, unhide T⟩, Below.refl _ _⟩
 ·rw [if_neg sg] at an
  obtain ⟨t2, t1, t0⟩ := TI ⟨#[]⟩ (.inr ⟨by omega, rfl⟩)
  have d0 : (⟨#[]⟩ : ByteArray).size = 0 := rfl
  have d1 : (⟨#[105, 110, 102]⟩ : ByteArray).size = 3 := rfl
  have d2 : (⟨#[48, 46, 48]⟩ : ByteArray).size = 3 := rfl
  have c1 := cat_run ⟨#[]⟩ ⟨#[105, 110, 102]⟩ (by omega)
  have c2 := cat_run ⟨#[]⟩ ⟨#[48, 46, 48]⟩ (by omega)
  generalize (⟨#[]⟩ : ByteArray) ++ ⟨#[105, 110, 102]⟩ = A1 at *
  generalize (⟨#[]⟩ : ByteArray) ++ ⟨#[48, 46, 48]⟩ = A2 at *
  clear TI d0 d1 d2 sg hb
  rcases hkd with rfl | rfl | ⟨rfl, rfl⟩
  ·have T := t2 rfl
   clear t2 t1 t0
   go_enter Tryz.func114, Tryz.ntmps114
   go_wp2_with fail
   refine (unhide KP).mono ?_
   rintro _ w1 ⟨rfl, rfl⟩
   clear KP
   go_wp2
   go_ret
   exact ⟨⟨_, rfl, unhide T⟩, Below.refl _ _⟩
  ·have T := t1 rfl
   clear t2 t1 t0
   go_enter Tryz.func114, Tryz.ntmps114
   go_wp2_with fail
   refine (unhide KP).mono ?_
   rintro _ w1 ⟨rfl, rfl⟩
   clear KP
   go_wp2
   go_ret
   exact ⟨⟨A1, rfl, unhide T⟩, Below.refl _ _⟩
  ·have T := t0 rfl rfl
   clear t2 t1 t0
   go_enter Tryz.func114, Tryz.ntmps114
   go_wp2_with fail
   refine (unhide KP).mono ?_
   rintro _ w1 ⟨rfl, rfl⟩
   clear KP
   go_wp2
   go_ret
   exact ⟨⟨A2, rfl, unhide T⟩, Below.refl _ _⟩
theorem exp_len {D : List UInt8} {x : Int} (hD : D.length ≤ 100) (h1 : -100000 ≤ x) (h2 : x ≤ 100000) : (expL D x).length ≤ 500 := by
 unfold expL
 have h := itoa_len x h1 h2
 rw [List.length_append, List.length_append, List.length_take, List.length_cons]
 split
 ·simp; omega
 ·rw [List.length_cons, List.length_drop]; omega
theorem lay_len {D : List UInt8} {p : Int} (hD : D.length ≤ 100) (h1 : -10000 ≤ p) (h2 : p ≤ 10000) : (layL D p).length ≤ 500 := by
 unfold layL
 split
 ·exact exp_len hD (by omega) (by omega)
 ·split
  ·rw [List.length_append, List.length_append, List.length_replicate]; simp; omega
  ·split
   ·rw [List.length_append, List.length_take, List.length_cons, List.length_drop]; omega
   ·rw [List.length_append, List.length_append, List.length_replicate]; simp; omega
theorem textW_num (w : World) (b r : Nat) (hb : b < 18446744073709551616) (hr : r = b % 9223372036854775808) (h0 : 0 < r) (hi : r < 9218868437227405312) (htab : Lib.TabIs Tryz.prog w "internal/strconv.uint64pow10" .u64 Lib.pow10Tab) :
  Calls Tryz.prog 114 #[.int .u64 (b : Int)] w fun e w' => (∃ R : ByteArray, e = .returned (.string R) ∧ TextIs b R.data.toList) ∧ Below w.heap.size w w' := by
 obtain ⟨e1, e2, e3⟩ := parts_sign b r hb hr h0 hi
 have KS := hide (short_any w b r hb hr h0 hi htab)
 have mp : 0 < mant r := by unfold mant; split <;> omega
 have TI : ∀ (G R : ByteArray) (d j : Nat) (ten : Int), SgOf b G → d % 10 ≠ 0 → -1080 ≤ ten → Best r j (d * 10 ^ (ten + 1080).toNat) → R.data.toList = layL (decs d) (((decs d).length : Int) + ten) → TextIs b (G ++ R).data.toList := fun G R d j ten hG hd ht hB hR => by
  obtain ⟨g1, _⟩ := sgOf_list hG
  refine .inr (.inr (.inr ⟨e3, by rw [e1]; omega, d, j, ten, hd, ht, by rw [← hr]; exact hB, ?_⟩))
  rw [cat_list, g1, hR]
 have kp := partsW_any w b hb
 rw [e1, e2, e3] at kp
 have an := and_top b hb
 have HI := hide (And.intro h0 hi)
 have HTI := hide TI
 have HT := hide htab
 obtain ⟨m, hm⟩ : ∃ m, m = mant r := ⟨_, rfl⟩
 obtain ⟨ex, hex⟩ : ∃ ex : Int, ex = ((r / 4503599627370496 - 1 : Nat) : Int) - 1074 := ⟨_, rfl⟩
 rw [← hm, ← hex] at kp
 rw [← hm] at mp
 have m0 : ((m : Int) == 0) = false := beq_false_of_ne (by omega)
 have KP := hide kp
 obtain ⟨G, hG, hsg⟩ : ∃ G, SgOf b G ∧ ((Go.bits .and .u64 (b : Int) 9223372036854775808 = 9223372036854775808 ∧ G = ⟨#[45]⟩) ∨ (Go.bits .and .u64 (b : Int) 9223372036854775808 = 0 ∧ G = ⟨#[]⟩)) := by
  by_cases sg : 9223372036854775808 ≤ b
  ·rw [if_pos sg] at an
   exact ⟨_, .inl ⟨sg, rfl⟩, .inl ⟨an, rfl⟩⟩
  ·rw [if_neg sg] at an
   exact ⟨_, .inr ⟨by omega, rfl⟩, .inr ⟨an, rfl⟩⟩
 have HG := hide hG
 clear kp TI e1 e2 e3 hr h0 hi htab hm hex an hG
 rcases hsg with ⟨an, rfl⟩ | ⟨an, rfl⟩
 all_goals
  go_enter Tryz.func114, Tryz.ntmps114
  go_wp2_with fail
  refine (unhide KP).mono ?_
  rintro _ w1 ⟨rfl, e1⟩
  rw [e1]
  clear KP e1
  go_wp2_with fail
  refine (unhide KS).mono ?_
  rintro _ w2 ⟨⟨d, ten, rfl, hd10, hd64, t1, t2, j, hB⟩, b2⟩
  have h17 := best_17 (unhide HI).1 hB rfl hd10
  have L17 : (decs d).length ≤ 17 := decs_length_le h17 (by decide)
  have L1 : 0 < (decs d).length := List.length_pos_iff.2 (decs_form d).1
  rw [decDigits_decs]
  obtain ⟨S, hS⟩ : ∃ S : ByteArray, S = ⟨(decs d).toArray⟩ := ⟨_, rfl⟩
  have hSs : S.size = (decs d).length := by rw [hS, bytes_len]
  have hSl : S.data.toList = decs d := by rw [hS]
  rw [← hS]
  obtain ⟨p, hp⟩ : ∃ p : Int, p = (S.size : Int) + ten := ⟨_, rfl⟩
  have y : IntKind.i64.wrap ((S.size : Int) + ten) = p := by rw [hp, i64_keep _ (by omega) (by omega)]
  have KL := hide (layOut_any w2 S p (by omega) (by omega) (by omega) (by omega) (tab_below (unhide HT) b2))
  have HTT := hide (fun (R : ByteArray) (hR : R.data.toList = layL S.data.toList p) => unhide HTI _ R d j ten (unhide HG) hd10 (by omega) hB (by rw [hR, hSl, hp, hSs]))
  have B2 := hide b2
  have SB : Hid (S.size ≤ 100 ∧ -10000 ≤ p ∧ p ≤ 10000) := hide ⟨by omega, by omega, by omega⟩
  clear KS hB b2 hS hSs hSl hp HTI HG HI HT h17 L17 L1
  go_wp2_with fail
  refine (unhide KL).mono ?_
  rintro _ w3 ⟨⟨R, rfl, hR⟩, b3⟩
  have HTX := hide (unhide HTT R hR)
  have B3 := hide ((unhide B2).trans (b3.mono (unhide B2).size))
  have Rs : R.size ≤ 500 := by
   have h := lay_len (D := S.data.toList) (p := p) (by rw [blen_list]; exact (unhide SB).1) (unhide SB).2.1 (unhide SB).2.2
   rw [← hR, blen_list] at h
   exact h
  have d0 : (⟨#[45]⟩ : ByteArray).size = 1 := rfl
  have d00 : (⟨#[]⟩ : ByteArray).size = 0 := rfl
  have c1 := cat_run ⟨#[45]⟩ R (by omega)
  have c2 := cat_run ⟨#[]⟩ R (by omega)
  clear KL hR b3 HTT B2 d0 d00 SB
  generalize (⟨#[45]⟩ : ByteArray) ++ R = A1 at *
  generalize (⟨#[]⟩ : ByteArray) ++ R = A2 at *
  go_wp2
  go_ret
  exact ⟨⟨_, rfl, unhide HTX⟩, unhide B3⟩
theorem kind_cases (b : Nat) (hb : b < 18446744073709551616) : (∃ kd : Nat, (fparts b).2.2 = (kd : Int) ∧ (kd = 2 ∨ kd = 1 ∨ (kd = 0 ∧ (fparts b).1 = 0))) ∨ (0 < b % 9223372036854775808 ∧ b % 9223372036854775808 < 9218868437227405312) := by
 by_cases h : b % 9223372036854775808 = 0 ∨ 9218868437227405312 ≤ b % 9223372036854775808
 ·left
  rcases back_none_plain rfl hb h with e | e | ⟨e1, e2⟩
  ·exact ⟨1, e, .inr (.inl rfl)⟩
  ·exact ⟨2, e, .inl rfl⟩
  ·exact ⟨0, e1, .inr (.inr ⟨rfl, e2⟩)⟩
 ·right; omega
theorem textW_any (w : World) (b : Nat) (hb : b < 18446744073709551616) (htab : Lib.TabIs Tryz.prog w "internal/strconv.uint64pow10" .u64 Lib.pow10Tab) :
  Calls Tryz.prog 114 #[.int .u64 (b : Int)] w fun e w' => (∃ R : ByteArray, e = .returned (.string R) ∧ TextIs b R.data.toList) ∧ Below w.heap.size w w' := by
 rcases kind_cases b hb with ⟨kd, h1, h2⟩ | ⟨h1, h2⟩
 ·exact textW_plain w b kd hb h1 h2
 ·exact textW_num w b _ hb rfl h1 h2 htab
end Go.Proofs.YtnbfnjhbmeocfabGreatDoor.bigs
namespace Go.Proofs.YtnbfnjhbmeocfabGreatDoor.bigs
open Go.RowKit Go.Sort
theorem best_ten {r j d t : Nat} (hi : r < 9218868437227405312) (h : Best r j (d * 10 ^ t)) (hd : d ≠ 0) : t ≤ 4001 := by
 obtain ⟨h1, h2, _⟩ := h
 have hX := len_X r hi
 have hlt := dec_lt (decs_form (fX r)).2.1
 rw [dec_decs] at hlt
 obtain ⟨K, hK⟩ : ∃ K, K = (decs (fX r)).length := ⟨_, rfl⟩
 rw [← hK] at hX hlt
 have hu : d * 10 ^ t ≤ fX r + 10 ^ j := by
  have u1 := lowOf_le (fX r) j
  have u2 : upOf (fX r) j ≤ fX r + 10 ^ j := by
   unfold upOf
   split
   ·exact Nat.le_trans u1 (Nat.le_add_right _ _)
   ·exact Nat.add_le_add_right u1 _
  have u3 : lowOf (fX r) j ≤ fX r + 10 ^ j := Nat.le_trans u1 (Nat.le_add_right _ _)
  unfold Pick at h2
  rcases h2 with ⟨_, _, e⟩ | ⟨_, _, e⟩ | ⟨_, _, ⟨_, e⟩ | ⟨_, e⟩⟩ <;> rw [e] <;> first | exact u2 | exact u3
 have h3 : 1 * 10 ^ t ≤ d * 10 ^ t := Nat.mul_le_mul_right _ (by omega)
 have h4 : (10 : Nat) ^ (K + 1) = 10 ^ K * 10 := Nat.pow_succ ..
 have h5 : (10 : Nat) ^ t < 10 ^ (K + 1) := by omega
 have := (Nat.pow_lt_pow_iff_right (a := 10) (by decide)).1 h5
 omega
end Go.Proofs.YtnbfnjhbmeocfabGreatDoor.bigs
