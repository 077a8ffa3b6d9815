/- A row of bytes that came in. -/
import Derived.Test.YtdpoiagnjdajbaaDoorPtelAN
import Derived.Test.YtdpoiagnjdajbaaDoorPtelAS
import Derived.ChangeSlices
import Derived.Test.YtdpoiagnjdajbaaDoorPtelAE
import Derived.Test.YtdpoiagnjdajbaaDoorShelf
import Derived.Laws.BitsLemmas
import Derived.Test.YtdpoiagnjdajbaaDoorPtelAH
set_option linter.unusedVariables false
namespace Go.Proofs.YtdpoiagnjdajbaaDoor.frame
open Go.ChangeShapes Go.WideShapes Go.ChangeAt Go.RowKit
open valus

theorem bulk_lits {H : Type} (k : IntKind) (zs : List Int) (sp : List (DataW H)) : zs.length ≤ Rows.uptoBulk (DataW.slice (lits k zs) sp) := by
  have h : ∀ zs : List Int, zs.length ≤ sumB Rows.uptoBulk (lits (H := H) k zs) := by
    intro zs
    induction zs with
    | nil => exact Nat.zero_le _
    | cons z r ih =>
      have e : sumB Rows.uptoBulk (lits (H := H) k (z :: r)) = Rows.uptoBulk (DataW.lit (H := H) (.int k z)) + sumB Rows.uptoBulk (lits k r) := rfl
      have e1 : 1 ≤ Rows.uptoBulk (DataW.lit (H := H) (.int k z)) := by simp [Rows.uptoBulk]
      rw [e, List.length_cons]
      omega
  exact Nat.le_trans (h zs) (bulk_slice _ _)
theorem bytes_in {H : Type} {enc : TypeId × Value → H} {W : World} {a : Option Addr} {len cap : Nat} {d : DataW H} {p : List MemPlace}
    (h : DataW.Trod enc Tryd.prog W 0 (fun _ => true) true 27 (.slice a len cap) d p) :
    ∃ l : List UInt8, len = l.length ∧ l.length ≤ cap ∧ cap ≤ maxLen ∧ BytesAt W a l W.heap.size ∧ l.length ≤ Rows.uptoBulk d := by
  have lt : ∀ x ∈ p, x.block < W.heap.size := by obtain ⟨m, hm⟩ := h; exact DataW.trod_lt m _ _ _ hm
  obtain ⟨fuel, hf⟩ := h
  rcases open_ints Tryd.underlying27 Tryd.underlying5 (by kernel_rfl) hf with ⟨hcs, _⟩ | ⟨x, l, c, zs, hcs, _, hl, hm, hz, hx, hcell, hwz⟩
  · simp [Value.cells] at hcs
    obtain ⟨rfl, rfl, rfl⟩ := hcs
    exact ⟨[], rfl, by simp, Nat.zero_le _, fun h => absurd rfl h, Nat.zero_le _⟩
  · simp [Value.cells] at hcs
    obtain ⟨rfl, rfl, rfl⟩ := hcs
    simp only [Prod.mk.injEq] at hx
    obtain ⟨rfl, rfl⟩ := hx
    simp only [if_true] at hz
    have hnn : ∀ z ∈ zs, 0 ≤ z ∧ z < 256 := fun z hz => by
      have := bounds_u8 (hwz z hz)
      omega
    have hlen : ((zs.take len).map fun z => UInt8.ofNat z.toNat).length = len := by simp; omega
    refine ⟨(zs.take len).map fun z => UInt8.ofNat z.toNat, hlen.symm, by rw [hlen]; exact hl, hm, ?_, ?_⟩
    · intro h0
      have hp : 0 < len := by rw [← hlen]; exact List.length_pos_iff.2 h0
      obtain ⟨b, off, rfl, hc⟩ := ints_at hcell (by omega)
      refine ⟨b, off, rfl, lt (.cell b off) (MemPlace.mem_row.2 ⟨0, by omega, by simp⟩), fun j u hj => ?_⟩
      have hjl : j < len := by
        have := (List.getElem?_eq_some_iff.1 hj).1
        simp at this
        omega
      have hj' : j < zs.length := by omega
      have hz2 := hnn _ (List.getElem_mem hj')
      have hcj := hc j (by omega)
      rw [hcj]
      simp [cellB, hjl, hj'] at hj
      rw [← hj]
      simp [List.getD, hj']
      omega
    · rw [hlen]
      have := bulk_lits (H := H) .u8 (zs.take len) (lits .u8 (zs.drop len))
      simp at this
      omega
end Go.Proofs.YtdpoiagnjdajbaaDoor.frame
/- Comparing two numbers, two texts; the first that is not nought. -/
set_option linter.unusedVariables false
namespace Go.Proofs.YtdpoiagnjdajbaaDoor.valus
open Go.RowKit

theorem nanI_any (w : World) (a : Int) : Calls Tryd.prog 80 #[.int .i64 a] w fun e w' => e = .returned (.bool false) ∧ w' = w := by
  go_enter Tryd.func80, Tryd.ntmps80
  go_wp2
  go_ret
  exact ⟨by simp, rfl⟩
theorem nanL_any (w : World) (a : Int) : Calls Tryd.prog 81 #[.int .i64 a] w fun e w' => e = .returned (.bool false) ∧ w' = w := by
  go_enter Tryd.func81, Tryd.ntmps81
  go_wp2
  go_ret
  exact ⟨by simp, rfl⟩
theorem nanU_any (w : World) (a : Int) : Calls Tryd.prog 82 #[.int .u64 a] w fun e w' => e = .returned (.bool false) ∧ w' = w := by
  go_enter Tryd.func82, Tryd.ntmps82
  go_wp2
  go_ret
  exact ⟨by simp, rfl⟩
theorem ordI_cases (a b : Int) : ordI (cmpI a b) = if a < b then -1 else if a > b then 1 else 0 := by
  unfold cmpI
  split
  · rfl
  · split
    · rw [if_neg (by omega)]
      rfl
    · rw [if_pos (by omega)]
      rfl
set_option maxHeartbeats 2000000 in
theorem compI_any (w : World) (a b : Int) : Calls Tryd.prog 59 #[.int .i64 a, .int .i64 b] w fun e w' => e = .returned (.int .i64 (ordI (cmpI a b))) ∧ w' = w := by
  have h := ordI_cases a b
  by_cases h1 : a < b
  · rw [if_pos h1] at h
    rw [h]
    clear h
    go_enter Tryd.func59, Tryd.ntmps59
    go_wp2_with (go_at_call 80; refine (nanI_any _ _).mono ?_; rintro e w1 ⟨rfl, rfl⟩)
    go_ret
    exact ⟨rfl, rfl⟩
  · rw [if_neg h1] at h
    by_cases h2 : a > b
    · rw [if_pos h2] at h
      rw [h]
      clear h
      go_enter Tryd.func59, Tryd.ntmps59
      go_wp2_with (go_at_call 80; refine (nanI_any _ _).mono ?_; rintro e w1 ⟨rfl, rfl⟩)
      go_ret
      exact ⟨rfl, rfl⟩
    · rw [if_neg h2] at h
      rw [h]
      clear h
      go_enter Tryd.func59, Tryd.ntmps59
      go_wp2_with (go_at_call 80; refine (nanI_any _ _).mono ?_; rintro e w1 ⟨rfl, rfl⟩)
      go_ret
      exact ⟨rfl, rfl⟩
set_option maxHeartbeats 2000000 in
theorem compL_any (w : World) (a b : Int) : Calls Tryd.prog 60 #[.int .i64 a, .int .i64 b] w fun e w' => e = .returned (.int .i64 (ordI (cmpI a b))) ∧ w' = w := by
  have h := ordI_cases a b
  by_cases h1 : a < b
  · rw [if_pos h1] at h
    rw [h]
    clear h
    go_enter Tryd.func60, Tryd.ntmps60
    go_wp2_with (go_at_call 81; refine (nanL_any _ _).mono ?_; rintro e w1 ⟨rfl, rfl⟩)
    go_ret
    exact ⟨rfl, rfl⟩
  · rw [if_neg h1] at h
    by_cases h2 : a > b
    · rw [if_pos h2] at h
      rw [h]
      clear h
      go_enter Tryd.func60, Tryd.ntmps60
      go_wp2_with (go_at_call 81; refine (nanL_any _ _).mono ?_; rintro e w1 ⟨rfl, rfl⟩)
      go_ret
      exact ⟨rfl, rfl⟩
    · rw [if_neg h2] at h
      rw [h]
      clear h
      go_enter Tryd.func60, Tryd.ntmps60
      go_wp2_with (go_at_call 81; refine (nanL_any _ _).mono ?_; rintro e w1 ⟨rfl, rfl⟩)
      go_ret
      exact ⟨rfl, rfl⟩
set_option maxHeartbeats 2000000 in
theorem compU_any (w : World) (a b : Int) : Calls Tryd.prog 61 #[.int .u64 a, .int .u64 b] w fun e w' => e = .returned (.int .i64 (ordI (cmpI a b))) ∧ w' = w := by
  have h := ordI_cases a b
  by_cases h1 : a < b
  · rw [if_pos h1] at h
    rw [h]
    clear h
    go_enter Tryd.func61, Tryd.ntmps61
    go_wp2_with (go_at_call 82; refine (nanU_any _ _).mono ?_; rintro e w1 ⟨rfl, rfl⟩)
    go_ret
    exact ⟨rfl, rfl⟩
  · rw [if_neg h1] at h
    by_cases h2 : a > b
    · rw [if_pos h2] at h
      rw [h]
      clear h
      go_enter Tryd.func61, Tryd.ntmps61
      go_wp2_with (go_at_call 82; refine (nanU_any _ _).mono ?_; rintro e w1 ⟨rfl, rfl⟩)
      go_ret
      exact ⟨rfl, rfl⟩
    · rw [if_neg h2] at h
      rw [h]
      clear h
      go_enter Tryd.func61, Tryd.ntmps61
      go_wp2_with (go_at_call 82; refine (nanU_any _ _).mono ?_; rintro e w1 ⟨rfl, rfl⟩)
      go_ret
      exact ⟨rfl, rfl⟩
/-- The first that is not nought. -/
def orF : List Int → Int
  | [] => 0
  | z :: r => if z = 0 then orF r else z
set_option maxHeartbeats 2000000 in
theorem or_any (w : World) (B : Nat) (zs : List Int) (hl : zs.length ≤ 1000) (hc : ∀ (j : Nat) (z : Int), zs[j]? = some z → w.cell? ⟨B, j, none⟩ = some (.int .i64 z)) (c : Nat) : Calls Tryd.prog 58 #[.slice (some ⟨B, 0, none⟩) zs.length c] w fun e w' => e = .returned (.int .i64 (orF zs)) ∧ w' = w := by
  have HC := hide hc
  clear hc
  go_enter Tryd.func58, Tryd.ntmps58
  go_wp2
  go_loopw [8] (fun i wr => ∃ j : Nat, i = .int .i64 j ∧ j ≤ zs.length ∧ Hid (orF (zs.drop j) = orF zs) ∧ wr = w) (fun i _ => zs.length - (intOf i).toNat)
  case atStart => exact ⟨0, rfl, Nat.zero_le _, rfl, rfl⟩
  case round =>
    obtain ⟨j, rfl, hj, hacc, hwr⟩ := hrel
    rw [hwr]
    clear hwr wr
    by_cases hlt : j < zs.length
    · obtain ⟨z, hz⟩ : ∃ z, zs[j]? = some z := ⟨_, List.getElem?_eq_getElem hlt⟩
      have q := HC.out j z hz
      have hstep : orF (zs.drop j) = if z = 0 then orF (zs.drop (j + 1)) else z := by
        obtain ⟨h1, h2⟩ := List.getElem?_eq_some_iff.1 hz
        rw [List.drop_eq_getElem_cons h1, h2]
        rfl
      rw [hacc.out] at hstep
      have HS := hide hstep
      clear hstep hacc hz
      by_cases h0 : z = 0
      · subst h0
        go_wp2
        go_roundw
        case rel => exact ⟨j + 1, by simp, by omega, by have := HS.out; rw [if_pos rfl] at this; exact this.symm, by first | rfl | trivial⟩
        case measure => simp [intOf]; omega
      · have h1 : (z != 0) = true := bne_iff_ne.2 h0
        have HV := HS.out
        rw [if_neg h0] at HV
        have HV2 := hide HV
        clear HV HS
        go_wp2
        go_ret
        exact ⟨by rw [HV2.out]; rfl, rfl⟩
    · obtain rfl : j = zs.length := by omega
      have hz : orF zs = 0 := by rw [← hacc.out, List.drop_length]; rfl
      have HZ := hide hz
      clear hz hacc
      go_wp2
      go_ret
      exact ⟨by rw [HZ.out]; rfl, rfl⟩
/-- A fraction's rank. -/
def rankN (b : Nat) : Nat := if b < 9223372036854775808 then b + 9223372036854775808 else 18446744073709551615 - b
theorem rank_key {b : Nat} (h : b < 18446744073709551616) : fkey b = (rankN b : Int) - 9223372036854775808 := by
  unfold fkey rankN
  split <;> omega
theorem cmpI_shift (x y c : Int) : cmpI (x - c) (y - c) = cmpI x y := by
  have e1 : (x - c < y - c) ↔ (x < y) := by omega
  have e2 : (x - c = y - c) ↔ (x = y) := by omega
  unfold cmpI
  simp only [e1, e2]
theorem rank_cmp {a b : Nat} (ha : a < 18446744073709551616) (hb : b < 18446744073709551616) : cmpI (rankN a : Int) (rankN b : Int) = cmpI (fkey a) (fkey b) := by
  rw [rank_key ha, rank_key hb, cmpI_shift]
theorem wrapsW64 : ∀ n : Int, 0 ≤ n → n < 2 ^ 64 → IntKind.u64.wrap n = n := fun n h1 h2 => by
  simp only [IntKind.wrap, IntKind.bits, IntKind.signed]
  have e : ((2 : Int) ^ 64) = 18446744073709551616 := by decide
  simp [e] at *
  omega
theorem top_and {b : Nat} (hb : b < 18446744073709551616) : Go.bits .and .u64 (b : Int) 9223372036854775808 = if b < 9223372036854775808 then 0 else 9223372036854775808 := by
  have h := (bits_nat .u64 64 (by decide) wrapsW64 b 9223372036854775808 (by omega) (by omega)).1
  have e : ((9223372036854775808 : Nat) : Int) = 9223372036854775808 := rfl
  rw [e] at h
  rw [h]
  have e2 : (9223372036854775808 : Nat) = 2 ^ 63 := by decide
  by_cases c : b < 9223372036854775808
  · rw [if_pos c]
    have : b &&& 9223372036854775808 = 0 := by
      apply Nat.eq_of_testBit_eq
      intro i
      rw [e2, Nat.testBit_and, Nat.testBit_two_pow, Nat.zero_testBit]
      by_cases hi : 63 = i
      · subst hi
        rw [Nat.testBit_lt_two_pow (by omega)]
        rfl
      · simp [hi]
    rw [this]
    rfl
  · rw [if_neg c]
    have : b &&& 9223372036854775808 = 9223372036854775808 := by
      apply Nat.eq_of_testBit_eq
      intro i
      rw [e2, Nat.testBit_and, Nat.testBit_two_pow]
      by_cases hi : 63 = i
      · subst hi
        have : b.testBit 63 = true := by
          rw [Nat.testBit_eq_decide_div_mod_eq]
          exact decide_eq_true (by omega)
        rw [this]
        rfl
      · simp [hi]
    rw [this]
    rfl
theorem ret_u64 {a b : Int} (h : a = b) : Ending.returned (.int .u64 a) = Ending.returned (.int .u64 b) := by rw [h]
theorem top_or {b : Nat} (hb : b < 9223372036854775808) : Go.bits .or .u64 (b : Int) 9223372036854775808 = ((b + 9223372036854775808 : Nat) : Int) := by
  have h := (bits_nat .u64 64 (by decide) wrapsW64 b 9223372036854775808 (by omega) (by omega)).2
  have e : ((9223372036854775808 : Nat) : Int) = 9223372036854775808 := rfl
  rw [e] at h
  rw [h]
  congr 1
  rw [Nat.or_comm, show (9223372036854775808 : Nat) = 2 ^ 63 * 1 by decide, ← Nat.two_pow_add_eq_or_of_lt (i := 63) (by omega) 1]
  omega
theorem top_xor {b : Nat} (hb : b < 18446744073709551616) : Go.bits .xor .u64 IntKind.u64.max (b : Int) = ((18446744073709551615 - b : Nat) : Int) := by
  have e : BitVec.ofInt 64 IntKind.u64.max = BitVec.allOnes 64 := by decide
  have h : Go.bits .xor .u64 IntKind.u64.max (b : Int) = IntKind.u64.wrap ((BitVec.ofInt 64 IntKind.u64.max ^^^ BitVec.ofInt 64 (b : Int)).toNat : Int) := rfl
  rw [h, e, BitVec.allOnes_xor, BitVec.toNat_not, BitVec.ofInt_natCast, BitVec.toNat_ofNat, Nat.mod_eq_of_lt (by omega), wrapsW64 _ (by omega) (by omega)]
set_option maxHeartbeats 2000000 in
theorem rank_any (w : World) (b : Nat) (hb : b < 18446744073709551616) : Calls Tryd.prog 62 #[.int .u64 (b : Int)] w fun e w' => e = .returned (.int .u64 (rankN b : Int)) ∧ w' = w := by
  have h1 := top_and hb
  by_cases c : b < 9223372036854775808
  · rw [if_pos c] at h1
    have h2 := top_or c
    have HV : Hid (rankN b = b + 9223372036854775808) := hide (if_pos c)
    clear c hb
    go_enter Tryd.func62, Tryd.ntmps62
    go_wp2
    go_ret
    exact ⟨ret_u64 (by rw [HV.out]; omega), rfl⟩
  · rw [if_neg c] at h1
    have h2 := top_xor hb
    have HV : Hid (rankN b = 18446744073709551615 - b) := hide (if_neg c)
    clear c hb
    go_enter Tryd.func62, Tryd.ntmps62
    go_wp2
    go_ret
    exact ⟨ret_u64 (by rw [HV.out]), rfl⟩
end Go.Proofs.YtdpoiagnjdajbaaDoor.valus
/- The program's nodes and Nodes. -/
set_option linter.unusedVariables false
namespace Go.Proofs.YtdpoiagnjdajbaaDoor.valus
open Go.RowKit Go.Shelf
attribute [local go_sem] Oper.semAt_some

theorem walkN_any (B o : Nat) (w : World) :
    CallsIn Fence.wide 7 Tryd.prog 51 #[.agg #[.pointer (some ⟨B, o, none⟩), .int .i64 0], .func (.func 52) #[] #[]] w fun e w' => e = .returned (.func (.func 70) #[] #[.pointer (some ⟨w.heap.size, 0, none⟩), .pointer (some ⟨w.heap.size + 1, 0, none⟩)]) ∧
      w' = (w.alloc (.cells #[.pointer (some ⟨B, o, none⟩), .int .i64 0] 62)).alloc (.cells #[.func (.func 52) #[] #[]] 90) := by
  refine callsIn_of_wp Tryd.func51 rfl trivial ?_ rfl
  simp only [Tryd.ntmps51, List.size_toArray, List.length_cons, List.length_nil, Nat.reduceAdd, Nat.reduceSub, Array.replicate_succ, Array.replicate_zero, List.push_toArray, List.append_toArray, List.nil_append, List.cons_append]
  gi_wp2
  go_ret
  exact ⟨rfl, rfl⟩
theorem nodesN_any (B o : Nat) (w : World) :
    CallsIn Fence.wide 8 Tryd.prog 28 #[.pointer (some ⟨B, o, none⟩)] w fun e w' => e = .returned (.func (.func 70) #[] #[.pointer (some ⟨w.heap.size, 0, none⟩), .pointer (some ⟨w.heap.size + 1, 0, none⟩)]) ∧
      w' = (w.alloc (.cells #[.pointer (some ⟨B, o, none⟩), .int .i64 0] 62)).alloc (.cells #[.func (.func 52) #[] #[]] 90) := by
  refine callsIn_of_wp Tryd.func28 rfl trivial ?_ rfl
  simp only [Tryd.ntmps28, List.size_toArray, List.length_cons, List.length_nil, Nat.reduceAdd, Nat.reduceSub, Array.replicate_succ, Array.replicate_zero, List.push_toArray, List.append_toArray, List.nil_append, List.cons_append]
  gi_wp2_with (refine ⟨trivial, ?_⟩; gi_at_call 51; refine (walkN_any B o w).mono ?_; rintro e w' ⟨rfl, rfl⟩)
  go_ret
  exact ⟨rfl, rfl⟩

end Go.Proofs.YtdpoiagnjdajbaaDoor.valus
