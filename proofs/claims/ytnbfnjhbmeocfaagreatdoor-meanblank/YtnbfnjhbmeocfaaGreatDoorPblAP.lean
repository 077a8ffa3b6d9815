/- Of our texts, what this claim reaches. -/
import Derived.Test.YtnbfnjhbmeocfaaGreatDoorPblAA
import Derived.Test.YtnbfnjhbmeocfaaGreatDoorPblAO
import Derived.Test.YtnbfnjhbmeocfaaGreatDoorPblAB
import Derived.Test.YtnbfnjhbmeocfaaGreatDoorPblAD
import Derived.Test.YtnbfnjhbmeocfaaGreatDoorPblAH
import Derived.Test.YtnbfnjhbmeocfaaGreatDoorChecked
import Derived.Lib.AppendStr
import Derived.Lib.AppendZeros
import Derived.Maps.AppendAt
import Derived.WalkKit
import Derived.Laws.BitsLemmas
set_option linter.unusedVariables false
set_option maxHeartbeats 2000000
set_option maxRecDepth 512
namespace Go.Proofs.YtnbfnjhbmeocfaaGreatDoor.valus
open Go.RowKit Go.Shelf
structure Grew (w w' : World) (v v' : Value) : Prop where
 by' : w.grownBy w' v.ownBlock
 at' : v'.ownBlock = v.ownBlock ∨ ∃ g, v'.ownBlock = some g ∧ w.heap.size ≤ g
theorem Grew.refl (w : World) (v : Value) : Grew w w v v := ⟨⟨rfl, rfl, rfl, Nat.le_refl _, fun _ _ _ => rfl⟩, .inl rfl⟩
theorem Grew.block {w w' : World} {v v' : Value} (h : Grew w w' v v') {b : Nat} (hb : b < w.heap.size) (hn : some b ≠ v.ownBlock) : w'.heap[b]? = w.heap[b]? ∧ some b ≠ v'.ownBlock :=
 ⟨h.by'.block b hb hn, fun e => by
  rcases h.at' with h1 | ⟨g, h1, h2⟩
  ·exact hn (e.trans h1)
  ·rw [h1] at e
   injection e with e
   omega⟩
theorem Grew.trans {a b c : World} {u v x : Value} (h : Grew a b u v) (k : Grew b c v x) : Grew a c u x := by
 have s1 := h.by'.size
 have s2 := k.by'.size
 refine ⟨⟨k.by'.os.trans h.by'.os, k.by'.tape.trans h.by'.tape, k.by'.output.trans h.by'.output, by omega, fun q hq hn => ?_⟩, ?_⟩
 ·obtain ⟨e1, e2⟩ := h.block hq hn
  exact (k.by'.block q (by omega) e2).trans e1
 ·rcases k.at' with h1 | ⟨g, h1, h2⟩
  ·rcases h.at' with h3 | ⟨g', h3, h4⟩
   ·exact .inl (h1.trans h3)
   ·exact .inr ⟨g', h1.trans h3, h4⟩
  ·exact .inr ⟨g, h1, by omega⟩
theorem Grew.below {w w' : World} (hb : Below w.heap.size w w') (v : Value) : Grew w w' v v := ⟨⟨hb.os, hb.tape, hb.output, hb.size, fun b hlt _ => hb.block b hlt⟩, .inl rfl⟩
end Go.Proofs.YtnbfnjhbmeocfaaGreatDoor.valus
namespace Go.Proofs.YtnbfnjhbmeocfaaGreatDoor.valus
open Go.RowKit
theorem nanI_any (w : World) (a : Int) : Calls Tryz.prog 189 #[.int .i64 a] w fun e w' => e = .returned (.bool false) ∧ w' = w := by
 go_enter Tryz.func189, Tryz.ntmps189
 go_wp2
 go_ret
 exact ⟨by simp, rfl⟩
theorem nanL_any (w : World) (a : Int) : Calls Tryz.prog 190 #[.int .i64 a] w fun e w' => e = .returned (.bool false) ∧ w' = w := by
 go_enter Tryz.func190, Tryz.ntmps190
 go_wp2
 go_ret
 exact ⟨by simp, rfl⟩
theorem nanU_any (w : World) (a : Int) : Calls Tryz.prog 191 #[.int .u64 a] w fun e w' => e = .returned (.bool false) ∧ w' = w := by
 go_enter Tryz.func191, Tryz.ntmps191
 go_wp2
 go_ret
 exact ⟨by simp, rfl⟩
theorem ordI_cases (a b : Int) : ordI (cmpI a b) = if a < b then -1 else if a > b then 1 else 0 := by
 unfold cmpI
 split
 ·rfl
 ·split
  ·rw [if_neg (by omega)]
   rfl
  ·rw [if_pos (by omega)]
   rfl
theorem compI_any (w : World) (a b : Int) : Calls Tryz.prog 137 #[.int .i64 a, .int .i64 b] w fun e w' => e = .returned (.int .i64 (ordI (cmpI a b))) ∧ w' = w := by
 have h := ordI_cases a b
 by_cases h1 : a < b
 ·rw [if_pos h1] at h
  rw [h]
  clear h
  go_enter Tryz.func137, Tryz.ntmps137
  go_wp2_with (go_at_call 189; refine (nanI_any _ _).mono ?_; rintro e w1 ⟨rfl, rfl⟩)
  go_ret
  exact ⟨rfl, rfl⟩
 ·rw [if_neg h1] at h
  by_cases h2 : a > b
  ·rw [if_pos h2] at h
   rw [h]
   clear h
   go_enter Tryz.func137, Tryz.ntmps137
   go_wp2_with (go_at_call 189; refine (nanI_any _ _).mono ?_; rintro e w1 ⟨rfl, rfl⟩)
   go_ret
   exact ⟨rfl, rfl⟩
  ·rw [if_neg h2] at h
   rw [h]
   clear h
   go_enter Tryz.func137, Tryz.ntmps137
   go_wp2_with (go_at_call 189; refine (nanI_any _ _).mono ?_; rintro e w1 ⟨rfl, rfl⟩)
   go_ret
   exact ⟨rfl, rfl⟩
theorem compL_any (w : World) (a b : Int) : Calls Tryz.prog 138 #[.int .i64 a, .int .i64 b] w fun e w' => e = .returned (.int .i64 (ordI (cmpI a b))) ∧ w' = w := by
 have h := ordI_cases a b
 by_cases h1 : a < b
 ·rw [if_pos h1] at h
  rw [h]
  clear h
  go_enter Tryz.func138, Tryz.ntmps138
  go_wp2_with (go_at_call 190; refine (nanL_any _ _).mono ?_; rintro e w1 ⟨rfl, rfl⟩)
  go_ret
  exact ⟨rfl, rfl⟩
 ·rw [if_neg h1] at h
  by_cases h2 : a > b
  ·rw [if_pos h2] at h
   rw [h]
   clear h
   go_enter Tryz.func138, Tryz.ntmps138
   go_wp2_with (go_at_call 190; refine (nanL_any _ _).mono ?_; rintro e w1 ⟨rfl, rfl⟩)
   go_ret
   exact ⟨rfl, rfl⟩
  ·rw [if_neg h2] at h
   rw [h]
   clear h
   go_enter Tryz.func138, Tryz.ntmps138
   go_wp2_with (go_at_call 190; refine (nanL_any _ _).mono ?_; rintro e w1 ⟨rfl, rfl⟩)
   go_ret
   exact ⟨rfl, rfl⟩
theorem compU_any (w : World) (a b : Int) : Calls Tryz.prog 139 #[.int .u64 a, .int .u64 b] w fun e w' => e = .returned (.int .i64 (ordI (cmpI a b))) ∧ w' = w := by
 have h := ordI_cases a b
 by_cases h1 : a < b
 ·rw [if_pos h1] at h
  rw [h]
  clear h
  go_enter Tryz.func139, Tryz.ntmps139
  go_wp2_with (go_at_call 191; refine (nanU_any _ _).mono ?_; rintro e w1 ⟨rfl, rfl⟩)
  go_ret
  exact ⟨rfl, rfl⟩
 ·rw [if_neg h1] at h
  by_cases h2 : a > b
  ·rw [if_pos h2] at h
   rw [h]
   clear h
   go_enter Tryz.func139, Tryz.ntmps139
   go_wp2_with (go_at_call 191; refine (nanU_any _ _).mono ?_; rintro e w1 ⟨rfl, rfl⟩)
   go_ret
   exact ⟨rfl, rfl⟩
  ·rw [if_neg h2] at h
   rw [h]
   clear h
   go_enter Tryz.func139, Tryz.ntmps139
   go_wp2_with (go_at_call 191; refine (nanU_any _ _).mono ?_; rintro e w1 ⟨rfl, rfl⟩)
   go_ret
   exact ⟨rfl, rfl⟩
def orF : List Int → Int
 | [] => 0
 | z :: r => if z = 0 then orF r else z
theorem or_any (w : World) (B : Nat) (zs : List Int) (hl : zs.length ≤ 1000) (hc : ∀ (j : Nat) (z : Int), zs[j]? = some z → w.cell? ⟨B, j, none⟩ = some (.int .i64 z)) (c : Nat) : Calls Tryz.prog 136 #[.slice (some ⟨B, 0, none⟩) zs.length c] w fun e w' => e = .returned (.int .i64 (orF zs)) ∧ w' = w := by
 have HC := hide hc
 clear hc
 go_enter Tryz.func136, Tryz.ntmps136
 go_wp2
 go_loopw [8] (fun i wr => ∃ j : Nat, i = .int .i64 j ∧ j ≤ zs.length ∧ Hid (orF (zs.drop j) = orF zs) ∧ wr = w) (fun i _ => zs.length - (intOf i).toNat)
 case atStart => exact ⟨0, rfl, Nat.zero_le _, rfl, rfl⟩
 case round =>
  obtain ⟨j, rfl, hj, hacc, hwr⟩ := hrel
  rw [hwr]
  clear hwr wr
  by_cases hlt : j < zs.length
  ·obtain ⟨z, hz⟩ : ∃ z, zs[j]? = some z := ⟨_, List.getElem?_eq_getElem hlt⟩
   have q := HC.out j z hz
   have hstep : orF (zs.drop j) = if z = 0 then orF (zs.drop (j + 1)) else z := by
    obtain ⟨h1, h2⟩ := List.getElem?_eq_some_iff.1 hz
    rw [List.drop_eq_getElem_cons h1, h2]
    rfl
   rw [hacc.out] at hstep
   have HS := hide hstep
   clear hstep hacc hz
   by_cases h0 : z = 0
   ·subst h0
    go_wp2
    go_roundw
    case rel => exact ⟨j + 1, by simp, by omega, by have := HS.out; rw [if_pos rfl] at this; exact this.symm, by first | rfl | trivial⟩
    case measure => simp [intOf]; omega
   ·have h1 : (z != 0) = true := bne_iff_ne.2 h0
    have HV := HS.out
    rw [if_neg h0] at HV
    have HV2 := hide HV
    clear HV HS
    go_wp2
    go_ret
    exact ⟨by rw [HV2.out]; rfl, rfl⟩
  ·obtain rfl : j = zs.length := by omega
   have hz : orF zs = 0 := by rw [← hacc.out, List.drop_length]; rfl
   have HZ := hide hz
   clear hz hacc
   go_wp2
   go_ret
   exact ⟨by rw [HZ.out]; rfl, rfl⟩
def rankN (b : Nat) : Nat := if b < 9223372036854775808 then b + 9223372036854775808 else 18446744073709551615 - b
theorem rank_key {b : Nat} (h : b < 18446744073709551616) : fkey b = (rankN b : Int) - 9223372036854775808 := by
 unfold fkey rankN
 split <;> omega
theorem cmpI_shift (x y c : Int) : cmpI (x - c) (y - c) = cmpI x y := by
 have e1 : (x - c < y - c) ↔ (x < y) := by omega
 have e2 : (x - c = y - c) ↔ (x = y) := by omega
 unfold cmpI
 simp only [e1, e2]
theorem rank_cmp {a b : Nat} (ha : a < 18446744073709551616) (hb : b < 18446744073709551616) : cmpI (rankN a : Int) (rankN b : Int) = cmpI (fkey a) (fkey b) := by
 rw [rank_key ha, rank_key hb, cmpI_shift]
theorem wrapsW64 : ∀ n : Int, 0 ≤ n → n < 2 ^ 64 → IntKind.u64.wrap n = n := fun n h1 h2 => by
 simp only [IntKind.wrap, IntKind.bits, IntKind.signed]
 have e : ((2 : Int) ^ 64) = 18446744073709551616 := by decide
 simp [e] at *
 omega
theorem top_and {b : Nat} (hb : b < 18446744073709551616) : Go.bits .and .u64 (b : Int) 9223372036854775808 = if b < 9223372036854775808 then 0 else 9223372036854775808 := by
 have h := (bits_nat .u64 64 (by decide) wrapsW64 b 9223372036854775808 (by omega) (by omega)).1
 have e : ((9223372036854775808 : Nat) : Int) = 9223372036854775808 := rfl
 rw [e] at h
 rw [h]
 have e2 : (9223372036854775808 : Nat) = 2 ^ 63 := by decide
 by_cases c : b < 9223372036854775808
 ·rw [if_pos c]
  have : b &&& 9223372036854775808 = 0 := by
   apply Nat.eq_of_testBit_eq
   intro i
   rw [e2, Nat.testBit_and, Nat.testBit_two_pow, Nat.zero_testBit]
   by_cases hi : 63 = i
   ·subst hi
    rw [Nat.testBit_lt_two_pow (by omega)]
    rfl
   ·simp [hi]
  rw [this]
  rfl
 ·rw [if_neg c]
  have : b &&& 9223372036854775808 = 9223372036854775808 := by
   apply Nat.eq_of_testBit_eq
   intro i
   rw [e2, Nat.testBit_and, Nat.testBit_two_pow]
   by_cases hi : 63 = i
   ·subst hi
    have : b.testBit 63 = true := by
     rw [Nat.testBit_eq_decide_div_mod_eq]
     exact decide_eq_true (by omega)
    rw [this]
    rfl
   ·simp [hi]
  rw [this]
  rfl
theorem ret_u64 {a b : Int} (h : a = b) : Ending.returned (.int .u64 a) = Ending.returned (.int .u64 b) := by rw [h]
theorem top_or {b : Nat} (hb : b < 9223372036854775808) : Go.bits .or .u64 (b : Int) 9223372036854775808 = ((b + 9223372036854775808 : Nat) : Int) := by
 have h := (bits_nat .u64 64 (by decide) wrapsW64 b 9223372036854775808 (by omega) (by omega)).2
 have e : ((9223372036854775808 : Nat) : Int) = 9223372036854775808 := rfl
 rw [e] at h
 rw [h]
 congr 1
 rw [Nat.or_comm, show (9223372036854775808 : Nat) = 2 ^ 63 * 1 by decide, ← Nat.two_pow_add_eq_or_of_lt (i := 63) (by omega) 1]
 omega
theorem top_xor {b : Nat} (hb : b < 18446744073709551616) : Go.bits .xor .u64 IntKind.u64.max (b : Int) = ((18446744073709551615 - b : Nat) : Int) := by
 have e : BitVec.ofInt 64 IntKind.u64.max = BitVec.allOnes 64 := by decide
 have h : Go.bits .xor .u64 IntKind.u64.max (b : Int) = IntKind.u64.wrap ((BitVec.ofInt 64 IntKind.u64.max ^^^ BitVec.ofInt 64 (b : Int)).toNat : Int) := rfl
 rw [h, e, BitVec.allOnes_xor, BitVec.toNat_not, BitVec.ofInt_natCast, BitVec.toNat_ofNat, Nat.mod_eq_of_lt (by omega), wrapsW64 _ (by omega) (by omega)]
theorem rank_any (w : World) (b : Nat) (hb : b < 18446744073709551616) : Calls Tryz.prog 140 #[.int .u64 (b : Int)] w fun e w' => e = .returned (.int .u64 (rankN b : Int)) ∧ w' = w := by
 have h1 := top_and hb
 by_cases c : b < 9223372036854775808
 ·rw [if_pos c] at h1
  have h2 := top_or c
  have HV : Hid (rankN b = b + 9223372036854775808) := hide (if_pos c)
  clear c hb
  go_enter Tryz.func140, Tryz.ntmps140
  go_wp2
  go_ret
  exact ⟨ret_u64 (by rw [HV.out]; omega), rfl⟩
 ·rw [if_neg c] at h1
  have h2 := top_xor hb
  have HV : Hid (rankN b = 18446744073709551615 - b) := hide (if_neg c)
  clear c hb
  go_enter Tryz.func140, Tryz.ntmps140
  go_wp2
  go_ret
  exact ⟨ret_u64 (by rw [HV.out]), rfl⟩
end Go.Proofs.YtnbfnjhbmeocfaaGreatDoor.valus
