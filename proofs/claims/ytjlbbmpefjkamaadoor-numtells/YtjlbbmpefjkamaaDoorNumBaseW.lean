/- strconv.FormatUint at the four bases; num.Text and num.Base. -/
import Derived.Test.YtjlbbmpefjkamaaDoorNumFmtB
set_option linter.unusedVariables false
namespace Go.Proofs.YtjlbbmpefjkamaaDoor.bigs
open Go.RowKit Go.Sort
set_option maxHeartbeats 4000000 in
set_option maxRecDepth 100000 in
theorem fmtI_ten (w : World) (u : Nat) (hu64 : u < 18446744073709551616) (htab : Lib.TabIs Tryd.prog w "internal/strconv.uint64pow10" .u64 Lib.pow10Tab) :
    Calls Tryd.prog 33 #[.int .u64 (u : Int), .int .i64 10] w fun e w' => e = .returned (.string ⟨(Lib.decDigits u).toArray⟩) ∧ Below w.heap.size w w' := by
  by_cases hs : u < 100
  · have K := hide (Tryd.internal_strconv_small u hs w)
    have iu : (u : Int) < 100 := by omega
    go_enter Tryd.func33, Tryd.ntmps33
    go_wp2_with fail
    refine (unhide K).mono ?_
    rintro e w' ⟨rfl, rfl⟩
    go_wp2
    go_ret
    exact ⟨rfl, Below.refl _ _⟩
  · have hu1 : 1 ≤ u := by omega
    have iu : ¬ (u : Int) < 100 := by omega
    have hnd20 : Lib.nDigits u ≤ 20 := by have := Lib.numDigits_eq u hu1 hu64; split at this <;> omega
    have hsl : ∀ W, (Instr.sliceAt 61 (.pointer (some ⟨w.heap.size, 0, none⟩)) none (some (.int .i64 (Lib.nDigits u : Int))) none).run Tryd.prog W = .ok (.slice (some ⟨w.heap.size, 0, none⟩) (Lib.nDigits u) 24) W := fun W => by
      have hal : (Tryd.prog).arrayLen 61 = 24 := by simp [Program.arrayLen, Tryd.underlying61]
      rw [run_sliceAt_array_h W 61 ⟨w.heap.size, 0, none⟩ (by simp [Program.arrayLen, Program.elem, Tryd.underlying61]) .i64 (Lib.nDigits u : Int) (by omega) (by rw [hal]; omega)]
      go_simp
    have hH0 := Lib.holds_zero0 w 61 (Lib.nDigits u) (by omega)
    have hfmt := Tryd.internal_strconv_formatBase10 w.heap.size 0 24 u (Array.replicate (Lib.nDigits u) 0) (w.alloc (.cells Lib.zeros24 61)) hH0 (by rw [Array.size_replicate]; exact Lib.lt_pow_nDigits u) hu64 (by rw [Array.size_replicate]; omega)
    rw [Array.size_replicate] at hfmt
    have HF := hide hfmt
    have HH0 := hide hH0
    have KD := hide (Tryd.internal_strconv_numDigits u hu1 hu64 (w.alloc (.cells Lib.zeros24 61)) (Lib.tabIs_alloc htab _))
    clear hH0 hfmt
    go_enter Tryd.func33, Tryd.ntmps33
    go_wp2_with fail
    refine (unhide KD).mono ?_
    rintro e w' ⟨rfl, rfl⟩
    go_wp2_with fail
    refine (unhide HF).mono ?_
    rintro e w' ⟨rfl, k, v', dk, rfl, hF⟩
    have hcv : (convert 64 9 (.slice (some ⟨w.heap.size, 0, none⟩) (Lib.nDigits u) 24)).run Tryd.prog ((putRow (fun (b : UInt8) => Value.int .u8 (b.toNat : Int)) (w.alloc (.cells Lib.zeros24 61)) w.heap.size 0 dk).drewN k) = .ok (.string ⟨(Lib.decDigits u).toArray⟩) ((putRow (fun (b : UInt8) => Value.int .u8 (b.toNat : Int)) (w.alloc (.cells Lib.zeros24 61)) w.heap.size 0 dk).drewN k) := by
      have h := run_convert_bytes_back (P := Tryd.prog) ((putRow (fun (b : UInt8) => Value.int .u8 (b.toNat : Int)) (w.alloc (.cells Lib.zeros24 61)) w.heap.size 0 dk).drewN k) 64 9 5 ⟨w.heap.size, 0, none⟩ 24 (Lib.decDigits u) Tryd.underlying64 Tryd.underlying5 Tryd.underlying9 (fun j hj => by
        rw [Lib.row_is_numeral hF j hj, Lib.add_plain, World.cell?_drewN]
        exact cell?_putRow (fun (b : UInt8) => Value.int .u8 (b.toNat : Int)) _ w.heap.size 0 _ dk (unhide HH0) (by rw [hF.size, Array.size_replicate]) j (by rw [hF.size]; rw [Lib.decDigits_length] at hj; exact hj))
      rw [Lib.decDigits_length] at h
      exact h
    obtain ⟨os, eo⟩ := Lib.fin_at w (.cells Lib.zeros24 61) dk k 0
    have bw := hide (Lib.below_grow w.heap.size w (Nat.le_refl _) k os)
    rw [← eo] at bw
    clear eo HF HH0 KD hF
    generalize (putRow (fun (b : UInt8) => Value.int .u8 (b.toNat : Int)) (w.alloc (.cells Lib.zeros24 61)) w.heap.size 0 dk).drewN k = W2 at *
    go_wp2
    go_ret
    exact ⟨rfl, unhide bw⟩
set_option maxHeartbeats 4000000 in
set_option maxRecDepth 100000 in
theorem fmtI_pow (w : World) (u b s : Nat) (hp : Pow2 b s) (hu : u < 18446744073709551616) (ht : Lib.TabIs Tryd.prog w "math/bits.deBruijn64tab" .u8 bru64) :
    Calls Tryd.prog 33 #[.int .u64 (u : Int), .int .i64 (b : Int)] w fun e w' => e = .returned (.string ⟨(digB b u).toArray⟩) ∧ Below w.heap.size w w' := by
  have K : Hid (Calls Tryd.prog 41 #[.slice none 0 0, .int .u64 (u : Int), .int .i64 (b : Int), .bool false, .bool false] w fun e w' => e = .returned (.tuple #[.slice none 0 0, .string ⟨(digB b u).toArray⟩]) ∧ Below w.heap.size w w') := hide (by
    rcases hp with ⟨rfl, rfl⟩ | ⟨rfl, rfl⟩ | ⟨rfl, rfl⟩
    · exact formatBits_2 w u hu ht
    · exact formatBits_8 w u hu ht
    · exact formatBits_16 w u hu ht)
  have hb : ((b : Int) == 10) = false := beq_false_of_ne (by unfold Pow2 at hp; omega)
  clear ht hp
  go_enter Tryd.func33, Tryd.ntmps33
  go_wp2_with fail
  refine (unhide K).mono ?_
  rintro e w' ⟨rfl, b1⟩
  have B := hide b1
  clear b1 K
  go_wp2
  go_ret
  exact ⟨rfl, unhide B⟩
theorem fmtI_any (w : World) (u b : Nat) (hb : GoodB b) (hu : u < 18446744073709551616) (ht : NumTabs w) :
    Calls Tryd.prog 33 #[.int .u64 (u : Int), .int .i64 (b : Int)] w fun e w' => e = .returned (.string ⟨(digB b u).toArray⟩) ∧ Below w.heap.size w w' := by
  rcases hb with rfl | rfl | rfl | rfl
  · exact fmtI_pow w u 2 1 (.inl ⟨rfl, rfl⟩) hu ht.bru
  · exact fmtI_pow w u 8 3 (.inr (.inl ⟨rfl, rfl⟩)) hu ht.bru
  · rw [digB_ten]
    exact fmtI_ten w u hu ht.pow
  · exact fmtI_pow w u 16 4 (.inr (.inr ⟨rfl, rfl⟩)) hu ht.bru
set_option maxRecDepth 100000 in
theorem fmtU_any (w : World) (u b : Nat) (hb : GoodB b) (hu : u < 18446744073709551616) (ht : NumTabs w) :
    Calls Tryd.prog 23 #[.int .u64 (u : Int), .int .i64 (b : Int)] w fun e w' => e = .returned (.string ⟨(digB b u).toArray⟩) ∧ Below w.heap.size w w' := by
  have K := hide (fmtI_any w u b hb hu ht)
  clear hb ht
  go_enter Tryd.func23, Tryd.ntmps23
  go_wp2_with fail
  refine (unhide K).mono ?_
  rintro e w' ⟨rfl, b1⟩
  have B := hide b1
  clear b1 K
  go_wp2
  go_ret
  exact ⟨rfl, unhide B⟩
theorem itoa_tell (n : Int) : Lib.itoa n = tellB 10 n := by
  unfold Lib.itoa tellB
  rw [show preB 10 = [] by rfl, List.nil_append, digB_ten]
  split
  · rfl
  · rw [List.nil_append]
    congr 1
    omega
set_option maxRecDepth 100000 in
theorem textN_any (w : World) (n : Int) (h0 : -9223372036854775808 ≤ n) (h1 : n ≤ 9223372036854775807) (ht : NumTabs w) :
    Calls Tryd.prog 10 #[.int .i64 n] w fun e w' => e = .returned (.string ⟨(tellB 10 n).toArray⟩) ∧ Below w.heap.size w w' := by
  have k := Tryd.strconv_FormatInt_10 n h0 h1 w ht.pow
  rw [itoa_tell] at k
  have K := hide k
  clear k ht
  go_enter Tryd.func10, Tryd.ntmps10
  go_wp2_with fail
  refine (unhide K).mono ?_
  rintro e w' ⟨rfl, k, os, hw⟩
  have B : Hid (Below w.heap.size w w') := hide (by rw [hw]; exact Lib.below_grow w.heap.size w (Nat.le_refl _) k os)
  clear hw K
  go_wp2
  go_ret
  exact ⟨rfl, unhide B⟩
theorem u64_abs (n : Int) (h0 : -9223372036854775808 ≤ n) (h1 : n < 0) : IntKind.u64.wrap (-(IntKind.u64.wrap n)) = (n.natAbs : Int) := by
  simp [IntKind.wrap, IntKind.bits, IntKind.signed]
  omega
theorem add_lists (a b : List UInt8) (h : a.length + b.length ≤ 9223372036854775807) (u : World) : (Op.stringOp .add ⟨a.toArray⟩ ⟨b.toArray⟩).run Tryd.prog u = .ok (.string ⟨(a ++ b).toArray⟩) u := by
  rw [run_string_add_sum _ _ _ (by rw [nsize, nsize]; exact h)]
  congr 2
set_option maxHeartbeats 4000000 in
set_option maxRecDepth 100000 in
theorem baseN_any (w : World) (n : Int) (b : Nat) (hb : GoodB b) (h0 : -9223372036854775808 ≤ n) (h1 : n ≤ 9223372036854775807) (ht : NumTabs w) :
    Calls Tryd.prog 9 #[.int .i64 n, .int .i64 (b : Int)] w fun e w' => e = .returned (.tuple #[.string ⟨(tellB b n).toArray⟩, .int .i64 0]) ∧ Below w.heap.size w w' := by
  have KP := hide (prefixW_good w b hb)
  have KF := hide (fmtU_any w n.natAbs b hb (by omega) ht)
  have hlen : (digB b n.natAbs).length ≤ 67 := by
    have := tell_len hb n h0 h1
    unfold tellB at this
    rw [List.length_append, List.length_append] at this
    omega
  have hpl : (preB b).length ≤ 67 := by
    have := tell_len hb n h0 h1
    unfold tellB at this
    rw [List.length_append, List.length_append] at this
    omega
  by_cases c : n < 0
  · have E : Hid (tellB b n = [45] ++ preB b ++ digB b n.natAbs) := hide (by unfold tellB; rw [if_pos c, List.append_assoc])
    have y := u64_abs n h0 c
    generalize digB b n.natAbs = D at *
    generalize preB b = P at *
    have a1 : ∀ u : World, (Op.stringOp .add ⟨#[45]⟩ ⟨P.toArray⟩).run Tryd.prog u = .ok (.string ⟨([45] ++ P).toArray⟩) u := fun u => add_lists [45] P (by simp; omega) u
    have a2 : ∀ u : World, (Op.stringOp .add ⟨([45] ++ P).toArray⟩ ⟨D.toArray⟩).run Tryd.prog u = .ok (.string ⟨([45] ++ P ++ D).toArray⟩) u := fun u => add_lists ([45] ++ P) D (by simp; omega) u
    generalize [45] ++ P ++ D = PD at *
    generalize [45] ++ P = P1 at *
    clear hb ht hlen hpl
    go_enter Tryd.func9, Tryd.ntmps9
    go_wp2_with fail
    refine (unhide KP).mono ?_
    rintro _ w1 ⟨rfl, rfl⟩
    go_wp2_with fail
    refine (unhide KF).mono ?_
    rintro _ w2 ⟨rfl, b2⟩
    have B := hide b2
    clear b2 KP KF
    go_wp2
    go_ret2
    rw [unhide E]
    exact ⟨rfl, unhide B⟩
  · have E : Hid (tellB b n = preB b ++ digB b n.natAbs) := hide (by unfold tellB; rw [if_neg c, List.nil_append])
    have y : IntKind.u64.wrap n = (n.natAbs : Int) := by rw [u64_wrap n (by omega) (by omega)]; omega
    generalize digB b n.natAbs = D at *
    generalize preB b = P at *
    have a1 : ∀ u : World, (Op.stringOp .add ⟨#[]⟩ ⟨P.toArray⟩).run Tryd.prog u = .ok (.string ⟨P.toArray⟩) u := fun u => add_lists [] P (by simp; omega) u
    have a2 : ∀ u : World, (Op.stringOp .add ⟨P.toArray⟩ ⟨D.toArray⟩).run Tryd.prog u = .ok (.string ⟨(P ++ D).toArray⟩) u := fun u => add_lists P D (by omega) u
    generalize P ++ D = PD at *
    clear hb ht hlen hpl
    go_enter Tryd.func9, Tryd.ntmps9
    go_wp2_with fail
    refine (unhide KP).mono ?_
    rintro _ w1 ⟨rfl, rfl⟩
    go_wp2_with fail
    refine (unhide KF).mono ?_
    rintro _ w2 ⟨rfl, b2⟩
    have B := hide b2
    clear b2 KP KF
    go_wp2
    go_ret2
    rw [unhide E]
    exact ⟨rfl, unhide B⟩
set_option maxRecDepth 100000 in
theorem baseN_bad (w : World) (n b : Int) (h1 : b ≠ 2) (h2 : b ≠ 8) (h3 : b ≠ 10) (h4 : b ≠ 16) :
    Calls Tryd.prog 9 #[.int .i64 n, .int .i64 b] w fun e w' => e = .returned (.tuple #[.string ⟨#[]⟩, .int .i64 1]) ∧ w' = w := by
  have KP := hide (prefixW_bad w b h1 h2 h3 h4)
  clear h1 h2 h3 h4
  go_enter Tryd.func9, Tryd.ntmps9
  go_wp2_with fail
  refine (unhide KP).mono ?_
  rintro _ w1 ⟨rfl, rfl⟩
  clear KP
  go_wp2
  go_ret2
  exact ⟨rfl, rfl⟩
end Go.Proofs.YtjlbbmpefjkamaaDoor.bigs
