/- Of our texts, what this claim reaches. -/
import Derived.Test.YtnbfnjhbmeocfaaGreatDoorPblAS
import Derived.Test.YtnbfnjhbmeocfaaGreatDoorPblAH
set_option linter.unusedVariables false
set_option maxHeartbeats 8000000
set_option maxRecDepth 100000
namespace Go.Proofs.YtnbfnjhbmeocfaaGreatDoor.bigs
open Go.RowKit
theorem prefixW_good (w : World) (b : Nat) (hb : GoodB b) :
  Calls Tryz.prog 95 #[.int .i64 (b : Int)] w fun e w' => e = .returned (.tuple #[.string ⟨(preB b).toArray⟩, .bool true]) ∧ w' = w := by
 rcases hb with rfl | rfl | rfl | rfl
 all_goals
  go_enter Tryz.func95, Tryz.ntmps95
  go_wp2
  go_ret2
  exact ⟨rfl, rfl⟩
theorem cut2_yes (c : UInt8) (r : List UInt8) : Lib.hasPrefix (48 :: c :: r) [48, c] = true ∧ Lib.trimPrefix (48 :: c :: r) [48, c] = r := by
 have h : Lib.hasPrefix (48 :: c :: r) [48, c] = true := by simp [Lib.hasPrefix]
 exact ⟨h, by unfold Lib.trimPrefix; rw [if_pos h]; rfl⟩
theorem cut2_no {c : UInt8} {l : List UInt8} (hn : ∀ r, l ≠ 48 :: c :: r) : Lib.hasPrefix l [48, c] = false := by
 cases l with
 | nil => rfl
 | cons b r =>
  cases r with
  | nil => simp [Lib.hasPrefix, List.isPrefixOf]
  | cons d r =>
   by_cases e1 : b = 48
   ·have : d ≠ c := fun e => hn r (by rw [e1, e])
    simp [Lib.hasPrefix, List.isPrefixOf, Ne.symm this]
   ·simp [Lib.hasPrefix, List.isPrefixOf, Ne.symm e1]
theorem cut1 (l : List UInt8) : Lib.hasPrefix l [45] = (signCut l).1 ∧ Lib.trimPrefix l [45] = (signCut l).2 := by
 cases l with
 | nil => exact ⟨rfl, rfl⟩
 | cons b r =>
  by_cases e : b = 45
  ·subst e
   have h : Lib.hasPrefix (45 :: r) [45] = true := by simp [Lib.hasPrefix]
   refine ⟨by rw [h]; rfl, ?_⟩
   unfold Lib.trimPrefix
   rw [if_pos h]
   rfl
  ·have h : Lib.hasPrefix (b :: r) [45] = false := by simp [Lib.hasPrefix, List.isPrefixOf, Ne.symm e]
   refine ⟨by rw [h, signCut, if_neg e], ?_⟩
   unfold Lib.trimPrefix
   rw [if_neg (by rw [h]; decide), signCut, if_neg e]
theorem baseCut_none {l : List UInt8} (h2 : ∀ r, l ≠ 48 :: 98 :: r) (h8 : ∀ r, l ≠ 48 :: 111 :: r) (h16 : ∀ r, l ≠ 48 :: 120 :: r) : baseCut l = (10, l) := by
 cases l with
 | nil => rfl
 | cons c r =>
  cases r with
  | nil => rfl
  | cons d r =>
   simp only [baseCut]
   by_cases e : c = 48
   ·subst e
    rw [if_pos rfl, if_neg (fun e => h2 r (by rw [e])), if_neg (fun e => h8 r (by rw [e])), if_neg (fun e => h16 r (by rw [e]))]
   ·rw [if_neg e]
theorem baseCut_good (l : List UInt8) : GoodB (baseCut l).1 ∧ (baseCut l).2.length ≤ l.length := by
 unfold GoodB
 by_cases h2 : ∃ r, l = 48 :: 98 :: r
 ·obtain ⟨r, rfl⟩ := h2
  exact ⟨.inl rfl, by simp [baseCut]; omega⟩
 ·by_cases h8 : ∃ r, l = 48 :: 111 :: r
  ·obtain ⟨r, rfl⟩ := h8
   exact ⟨.inr (.inl rfl), by simp [baseCut]; omega⟩
  ·by_cases h16 : ∃ r, l = 48 :: 120 :: r
   ·obtain ⟨r, rfl⟩ := h16
    exact ⟨.inr (.inr (.inr rfl)), by simp [baseCut]; omega⟩
   ·rw [baseCut_none (fun r e => h2 ⟨r, e⟩) (fun r e => h8 ⟨r, e⟩) (fun r e => h16 ⟨r, e⟩)]
    exact ⟨.inr (.inr (.inl rfl)), Nat.le_refl _⟩
theorem signCut_len (l : List UInt8) : (signCut l).2.length ≤ l.length := by
 cases l with
 | nil => exact Nat.le_refl _
 | cons c r => simp only [signCut]; split <;> simp
theorem cutBaseW_core (w : World) (s r2 r8 r16 out : ByteArray) (f2 f8 f16 : Bool) (base : Nat)
  (K2 : Hid (Calls Tryz.prog 46 #[.string s, .string ⟨#[48, 98]⟩] w fun e w' => e = .returned (.tuple #[.string r2, .bool f2]) ∧ w' = w))
  (K8 : Hid (Calls Tryz.prog 46 #[.string s, .string ⟨#[48, 111]⟩] w fun e w' => e = .returned (.tuple #[.string r8, .bool f8]) ∧ w' = w))
  (K16 : Hid (Calls Tryz.prog 46 #[.string s, .string ⟨#[48, 120]⟩] w fun e w' => e = .returned (.tuple #[.string r16, .bool f16]) ∧ w' = w))
  (h2 : Hid (f2 = true → out = r2 ∧ base = 2)) (h8 : Hid (f2 = false → f8 = true → out = r8 ∧ base = 8)) (h16 : Hid (f2 = false → f8 = false → f16 = true → out = r16 ∧ base = 16)) (h10 : Hid (f2 = false → f8 = false → f16 = false → out = s ∧ base = 10)) :
  Calls Tryz.prog 47 #[.string s] w fun e w' => e = .returned (.tuple #[.string out, .int .u64 (base : Int)]) ∧ w' = w := by
 have p2 := prefixW_good w 2 (.inl rfl)
 have p8 := prefixW_good w 8 (.inr (.inl rfl))
 have p16 := prefixW_good w 16 (.inr (.inr (.inr rfl)))
 rw [show ((2 : Nat) : Int) = 2 by rfl, show (preB 2).toArray = #[48, 98] by rfl] at p2
 rw [show ((8 : Nat) : Int) = 8 by rfl, show (preB 8).toArray = #[48, 111] by rfl] at p8
 rw [show ((16 : Nat) : Int) = 16 by rfl, show (preB 16).toArray = #[48, 120] by rfl] at p16
 have P2 := hide p2
 have P8 := hide p8
 have P16 := hide p16
 clear p2 p8 p16
 have x0 : ∀ W, (Instr.index 162 (.agg #[.int .i64 2, .int .i64 8, .int .i64 16]) (.int .i64 0)).run Tryz.prog W = .ok (.int .i64 2) W := fun W => by simp [Instr.index, run_underlying Tryz.underlying162, asIntOf, go_sem]
 have x1 : ∀ W, (Instr.index 162 (.agg #[.int .i64 2, .int .i64 8, .int .i64 16]) (.int .i64 1)).run Tryz.prog W = .ok (.int .i64 8) W := fun W => by simp [Instr.index, run_underlying Tryz.underlying162, asIntOf, go_sem]
 have x2 : ∀ W, (Instr.index 162 (.agg #[.int .i64 2, .int .i64 8, .int .i64 16]) (.int .i64 2)).run Tryz.prog W = .ok (.int .i64 16) W := fun W => by simp [Instr.index, run_underlying Tryz.underlying162, asIntOf, go_sem]
 go_enter Tryz.func47, Tryz.ntmps47
 go_wp2
 go_loopw [11] (fun i wr => ∃ k : Nat, k ≤ 3 ∧ i = .int .i64 k ∧ Hid (1 ≤ k → f2 = false) ∧ Hid (2 ≤ k → f8 = false) ∧ Hid (3 ≤ k → f16 = false) ∧ wr = w) (fun i _ => 3 - (intOf i).toNat)
 case atStart => exact ⟨0, by omega, rfl, hide (by omega), hide (by omega), hide (by omega), rfl⟩
 case round =>
  obtain ⟨k, hk, rfl, g2, g8, g16, rfl⟩ := hrel
  have hk4 : k = 0 ∨ k = 1 ∨ k = 2 ∨ k = 3 := by omega
  rcases hk4 with rfl | rfl | rfl | rfl
  ·clear P8 P16 K8 K16 g2 g8 g16
   cases f2 with
   | true =>
    have E := hide (unhide h2 rfl)
    clear h2 h8 h16 h10
    go_wp2_with fail
    refine (unhide P2).mono ?_
    rintro _ w2 ⟨rfl, rfl⟩
    go_wp2_with fail
    refine (unhide K2).mono ?_
    rintro _ w3 ⟨rfl, rfl⟩
    clear P2 K2
    go_wp2
    go_ret2
    rw [(unhide E).1, (unhide E).2]
    exact ⟨rfl, rfl⟩
   | false =>
    clear h2 h8 h16 h10
    go_wp2_with fail
    refine (unhide P2).mono ?_
    rintro _ w2 ⟨rfl, rfl⟩
    go_wp2_with fail
    refine (unhide K2).mono ?_
    rintro _ w3 ⟨rfl, rfl⟩
    clear P2 K2
    go_wp2
    go_roundw
    case rel => exact ⟨1, by omega, by go_num, by first | exact hide (fun _ => rfl) | exact hide (by omega) | simp [Hid], by first | exact hide (fun _ => rfl) | exact hide (by omega) | simp [Hid], by first | exact hide (fun _ => rfl) | exact hide (by omega) | simp [Hid], by trivial⟩
    case measure => simp [intOf]
  ·have z2 := unhide g2 (by omega)
   subst z2
   clear P2 P16 K2 K16 g2 g8 g16
   cases f8 with
   | true =>
    have E := hide (unhide h8 rfl rfl)
    clear h2 h8 h16 h10
    go_wp2_with fail
    refine (unhide P8).mono ?_
    rintro _ w2 ⟨rfl, rfl⟩
    go_wp2_with fail
    refine (unhide K8).mono ?_
    rintro _ w3 ⟨rfl, rfl⟩
    clear P8 K8
    go_wp2
    go_ret2
    rw [(unhide E).1, (unhide E).2]
    exact ⟨rfl, rfl⟩
   | false =>
    clear h2 h8 h16 h10
    go_wp2_with fail
    refine (unhide P8).mono ?_
    rintro _ w2 ⟨rfl, rfl⟩
    go_wp2_with fail
    refine (unhide K8).mono ?_
    rintro _ w3 ⟨rfl, rfl⟩
    clear P8 K8
    go_wp2
    go_roundw
    case rel => exact ⟨2, by omega, by go_num, by first | exact hide (fun _ => rfl) | exact hide (by omega) | simp [Hid], by first | exact hide (fun _ => rfl) | exact hide (by omega) | simp [Hid], by first | exact hide (fun _ => rfl) | exact hide (by omega) | simp [Hid], by trivial⟩
    case measure => simp [intOf]
  ·have z2 := unhide g2 (by omega)
   have z8 := unhide g8 (by omega)
   subst z2 z8
   clear P2 P8 K2 K8 g2 g8 g16
   cases f16 with
   | true =>
    have E := hide (unhide h16 rfl rfl rfl)
    clear h2 h8 h16 h10
    go_wp2_with fail
    refine (unhide P16).mono ?_
    rintro _ w2 ⟨rfl, rfl⟩
    go_wp2_with fail
    refine (unhide K16).mono ?_
    rintro _ w3 ⟨rfl, rfl⟩
    clear P16 K16
    go_wp2
    go_ret2
    rw [(unhide E).1, (unhide E).2]
    exact ⟨rfl, rfl⟩
   | false =>
    clear h2 h8 h16 h10
    go_wp2_with fail
    refine (unhide P16).mono ?_
    rintro _ w2 ⟨rfl, rfl⟩
    go_wp2_with fail
    refine (unhide K16).mono ?_
    rintro _ w3 ⟨rfl, rfl⟩
    clear P16 K16
    go_wp2
    go_roundw
    case rel => exact ⟨3, by omega, by go_num, by first | exact hide (fun _ => rfl) | exact hide (by omega) | simp [Hid], by first | exact hide (fun _ => rfl) | exact hide (by omega) | simp [Hid], by first | exact hide (fun _ => rfl) | exact hide (by omega) | simp [Hid], by trivial⟩
    case measure => simp [intOf]
  ·have E := hide (unhide h10 (unhide g2 (by omega)) (unhide g8 (by omega)) (unhide g16 (by omega)))
   clear P2 P8 P16 K2 K8 K16 g2 g8 g16 h2 h8 h16 h10
   go_wp2
   go_ret2
   rw [(unhide E).1, (unhide E).2]
   exact ⟨rfl, rfl⟩
theorem cutBaseW_any (w : World) (s : ByteArray) :
  Calls Tryz.prog 47 #[.string s] w fun e w' => e = .returned (.tuple #[.string ⟨(baseCut s.data.toList).2.toArray⟩, .int .u64 (((baseCut s.data.toList).1 : Nat) : Int)]) ∧ w' = w := by
 have K2 := Tryz.strings_CutPrefix s ⟨#[48, 98]⟩ w
 have K8 := Tryz.strings_CutPrefix s ⟨#[48, 111]⟩ w
 have K16 := Tryz.strings_CutPrefix s ⟨#[48, 120]⟩ w
 rw [show (⟨#[48, 98]⟩ : ByteArray).data.toList = [48, 98] by rfl] at K2
 rw [show (⟨#[48, 111]⟩ : ByteArray).data.toList = [48, 111] by rfl] at K8
 rw [show (⟨#[48, 120]⟩ : ByteArray).data.toList = [48, 120] by rfl] at K16
 refine cutBaseW_core w s _ _ _ _ _ _ _ _ (hide K2) (hide K8) (hide K16) ?_ ?_ ?_ ?_
 all_goals clear K2 K8 K16
 all_goals unfold Hid
 all_goals
  by_cases h2 : ∃ r, s.data.toList = 48 :: 98 :: r
  ·obtain ⟨r, e⟩ := h2
   rw [e, (cut2_yes 98 r).1]
   simp [(cut2_yes 98 r).2, baseCut]
  ·have n2 : ∀ r, s.data.toList ≠ 48 :: 98 :: r := fun r e => h2 ⟨r, e⟩
   rw [cut2_no n2]
   by_cases h8 : ∃ r, s.data.toList = 48 :: 111 :: r
   ·obtain ⟨r, e⟩ := h8
    rw [e]
    simp [(cut2_yes 111 r).1, (cut2_yes 111 r).2, baseCut]
   ·have n8 : ∀ r, s.data.toList ≠ 48 :: 111 :: r := fun r e => h8 ⟨r, e⟩
    by_cases h16 : ∃ r, s.data.toList = 48 :: 120 :: r
    ·obtain ⟨r, e⟩ := h16
     try simp only [cut2_no n8]
     rw [e]
     simp [(cut2_yes 120 r).1, (cut2_yes 120 r).2, baseCut]
    ·have n16 : ∀ r, s.data.toList ≠ 48 :: 120 :: r := fun r e => h16 ⟨r, e⟩
     simp [cut2_no n8, cut2_no n16, baseCut_none n2 n8 n16]
theorem i64_neg (X : Nat) (h : X ≤ 9223372036854775808) : IntKind.i64.wrap (IntKind.u64.wrap (-(X : Int))) = -(X : Int) := by
 simp [IntKind.wrap, IntKind.bits, IntKind.signed]
 omega
theorem i64_pos (X : Nat) (h : X ≤ 9223372036854775807) : IntKind.i64.wrap (X : Int) = (X : Int) := by
 simp [IntKind.wrap, IntKind.bits, IntKind.signed]
 omega
theorem readN_core (w : World) (s c1 ds : ByteArray) (below f g : Bool) (base lim X : Nat) (R : Int × Int) (hs : s.size ≤ 80) (hl : lim = limitOf below) (hX : g = true → X ≤ lim)
  (K1 : Hid (Calls Tryz.prog 46 #[.string s, .string ⟨#[45]⟩] w fun e w' => e = .returned (.tuple #[.string c1, .bool below]) ∧ w' = w))
  (K2 : Hid (Calls Tryz.prog 47 #[.string c1] w fun e w' => e = .returned (.tuple #[.string ds, .int .u64 (base : Int)]) ∧ w' = w))
  (K3 : Hid (Calls Tryz.prog 48 #[.string ds, .int .u64 (base : Int)] w fun e w' => e = .returned (.bool f) ∧ w' = w))
  (K4 : Hid (Calls Tryz.prog 49 #[.string ds, .int .u64 (base : Int), .int .u64 (lim : Int)] w fun e w' => e = .returned (.tuple #[.int .u64 (X : Int), .bool g]) ∧ w' = w))
  (hR : Hid (R = if f = false then (0, 4) else if g = false then (0, 7) else (if below then -(X : Int) else (X : Int), 0))) :
  Calls Tryz.prog 24 #[.string s] w fun e w' => e = .returned (.tuple #[.int .i64 R.1, .int .i64 R.2]) ∧ w' = w := by
 have i0 : ¬ (s.size : Int) > 80 := by omega
 have i00 : ¬ (80 : Int) < (s.size : Int) := by omega
 cases f with
 | false =>
  have E : R = (0, 4) := by rw [unhide hR]; rfl
  subst E
  clear hR K4 hX hl
  go_enter Tryz.func24, Tryz.ntmps24
  go_wp2_with fail
  refine (unhide K1).mono ?_
  rintro _ w1 ⟨rfl, rfl⟩
  go_wp2_with fail
  refine (unhide K2).mono ?_
  rintro _ w2 ⟨rfl, rfl⟩
  go_wp2_with fail
  refine (unhide K3).mono ?_
  rintro _ w3 ⟨rfl, rfl⟩
  clear K1 K2 K3
  go_wp2
  go_ret2
  exact ⟨rfl, rfl⟩
 | true =>
  cases below with
  | false =>
   have hl' : lim = 9223372036854775807 := hl
   subst hl'
   cases g with
   | false =>
    have E : R = (0, 7) := by rw [unhide hR]; rfl
    subst E
    clear hR hX hl
    go_enter Tryz.func24, Tryz.ntmps24
    go_wp2_with fail
    refine (unhide K1).mono ?_
    rintro _ w1 ⟨rfl, rfl⟩
    go_wp2_with fail
    refine (unhide K2).mono ?_
    rintro _ w2 ⟨rfl, rfl⟩
    go_wp2_with fail
    refine (unhide K3).mono ?_
    rintro _ w3 ⟨rfl, rfl⟩
    go_wp2_with fail
    refine (unhide K4).mono ?_
    rintro _ w4 ⟨rfl, rfl⟩
    clear K1 K2 K3 K4
    go_wp2
    go_ret2
    exact ⟨rfl, rfl⟩
   | true =>
    have E : R = ((X : Int), 0) := by rw [unhide hR]; rfl
    subst E
    have y := i64_pos X (hX rfl)
    clear hR hX hl
    go_enter Tryz.func24, Tryz.ntmps24
    go_wp2_with fail
    refine (unhide K1).mono ?_
    rintro _ w1 ⟨rfl, rfl⟩
    go_wp2_with fail
    refine (unhide K2).mono ?_
    rintro _ w2 ⟨rfl, rfl⟩
    go_wp2_with fail
    refine (unhide K3).mono ?_
    rintro _ w3 ⟨rfl, rfl⟩
    go_wp2_with fail
    refine (unhide K4).mono ?_
    rintro _ w4 ⟨rfl, rfl⟩
    clear K1 K2 K3 K4
    go_wp2
    go_ret2
    exact ⟨rfl, rfl⟩
  | true =>
   have hl' : lim = 9223372036854775808 := hl
   subst hl'
   cases g with
   | false =>
    have E : R = (0, 7) := by rw [unhide hR]; rfl
    subst E
    clear hR hX hl
    go_enter Tryz.func24, Tryz.ntmps24
    go_wp2_with fail
    refine (unhide K1).mono ?_
    rintro _ w1 ⟨rfl, rfl⟩
    go_wp2_with fail
    refine (unhide K2).mono ?_
    rintro _ w2 ⟨rfl, rfl⟩
    go_wp2_with fail
    refine (unhide K3).mono ?_
    rintro _ w3 ⟨rfl, rfl⟩
    go_wp2_with fail
    refine (unhide K4).mono ?_
    rintro _ w4 ⟨rfl, rfl⟩
    clear K1 K2 K3 K4
    go_wp2
    go_ret2
    exact ⟨rfl, rfl⟩
   | true =>
    have E : R = (-(X : Int), 0) := by rw [unhide hR]; rfl
    subst E
    have y := i64_neg X (hX rfl)
    clear hR hX hl
    go_enter Tryz.func24, Tryz.ntmps24
    go_wp2_with fail
    refine (unhide K1).mono ?_
    rintro _ w1 ⟨rfl, rfl⟩
    go_wp2_with fail
    refine (unhide K2).mono ?_
    rintro _ w2 ⟨rfl, rfl⟩
    go_wp2_with fail
    refine (unhide K3).mono ?_
    rintro _ w3 ⟨rfl, rfl⟩
    go_wp2_with fail
    refine (unhide K4).mono ?_
    rintro _ w4 ⟨rfl, rfl⟩
    clear K1 K2 K3 K4
    go_wp2
    go_ret2
    exact ⟨rfl, rfl⟩
theorem nsize (l : List UInt8) : (⟨l.toArray⟩ : ByteArray).size = l.length := by simp [ByteArray.size]
theorem readN_any (w : World) (s : ByteArray) :
  Calls Tryz.prog 24 #[.string s] w fun e w' => e = .returned (.tuple #[.int .i64 (numRes s.data.toList).1, .int .i64 (numRes s.data.toList).2]) ∧ w' = w := by
 by_cases h : 80 < s.size
 ·have E : numRes s.data.toList = (0, 2) := by unfold numRes; rw [nlen, if_pos h]
  rw [E]
  have i0 : (s.size : Int) > 80 := by omega
  have i00 : (80 : Int) < (s.size : Int) := by omega
  clear E
  go_enter Tryz.func24, Tryz.ntmps24
  go_wp2
  go_ret2
  exact ⟨rfl, rfl⟩
 ·have K1 := Tryz.strings_CutPrefix s ⟨#[45]⟩ w
  rw [show (⟨#[45]⟩ : ByteArray).data.toList = [45] by rfl, (cut1 s.data.toList).1, (cut1 s.data.toList).2] at K1
  have E : numRes s.data.toList = bodyRes (signCut s.data.toList).1 (baseCut (signCut s.data.toList).2).1 (baseCut (signCut s.data.toList).2).2 := by unfold numRes; rw [nlen, if_neg h]
  have L1 := signCut_len s.data.toList
  rw [E]
  clear E
  generalize signCut s.data.toList = sg at *
  obtain ⟨below, t⟩ := sg
  simp only at *
  have K2 := cutBaseW_any w ⟨t.toArray⟩
  obtain ⟨G, L2⟩ := baseCut_good t
  simp only at K2
  generalize baseCut t = bc at *
  obtain ⟨base, d⟩ := bc
  simp only at *
  rw [nlen] at L1
  have hd : (⟨d.toArray⟩ : ByteArray).size ≤ 80 := by rw [nsize]; omega
  have b16 : base ≤ 16 := by unfold GoodB at G; omega
  have b2 : 2 ≤ base := by unfold GoodB at G; omega
  have K3 := formedW_any w ⟨d.toArray⟩ base (formedL base d) hd b16 rfl
  have lim1 : 16 ≤ limitOf below := by unfold limitOf; split <;> omega
  have lim2 : limitOf below < 18446744073709551616 := by unfold limitOf; split <;> omega
  by_cases c : valG base 0 d ≤ limitOf below
  ·have K4 := sizeW_any w ⟨d.toArray⟩ base (limitOf below) (valG base 0 d) (valG base 0 d) true hd b16 b2 lim1 lim2 rfl (hide (.inl ⟨rfl, rfl, c⟩))
   refine readN_core w s ⟨t.toArray⟩ ⟨d.toArray⟩ below (formedL base d) true base (limitOf below) (valG base 0 d) _ (by omega) rfl (fun _ => c) (hide K1) (hide K2) (hide K3) (hide K4) (hide ?_)
   unfold bodyRes
   rw [if_neg (show ¬ limitOf below < valG base 0 d by omega)]
   simp
  ·have K4 := sizeW_any w ⟨d.toArray⟩ base (limitOf below) (valG base 0 d) 0 false hd b16 b2 lim1 lim2 rfl (hide (.inr ⟨rfl, rfl, by omega⟩))
   refine readN_core w s ⟨t.toArray⟩ ⟨d.toArray⟩ below (formedL base d) false base (limitOf below) 0 _ (by omega) rfl (fun h => by cases h) (hide K1) (hide K2) (hide K3) (hide K4) (hide ?_)
   unfold bodyRes
   rw [if_pos (show limitOf below < valG base 0 d by omega)]
   simp
end Go.Proofs.YtnbfnjhbmeocfaaGreatDoor.bigs
namespace Go.Proofs.YtnbfnjhbmeocfaaGreatDoor.bigs
open Go.RowKit
theorem res_kinds (l : List UInt8) : (numRes l).2 = 0 ∨ ((numRes l).1 = 0 ∧ ((numRes l).2 = 2 ∨ (numRes l).2 = 4 ∨ (numRes l).2 = 7)) := by
 unfold numRes
 split
 ·exact .inr ⟨rfl, .inl rfl⟩
 ·unfold bodyRes
  split
  ·exact .inr ⟨rfl, .inr (.inl rfl)⟩
  ·split
   ·exact .inr ⟨rfl, .inr (.inr rfl)⟩
   ·exact .inl rfl
theorem res_good {l : List UInt8} (h : (numRes l).2 = 0) : l.length ≤ 80 ∧ formedL (baseCut (signCut l).2).1 (baseCut (signCut l).2).2 = true ∧ valG (baseCut (signCut l).2).1 0 (baseCut (signCut l).2).2 ≤ limitOf (signCut l).1 ∧ (numRes l).1 = if (signCut l).1 then -((valG (baseCut (signCut l).2).1 0 (baseCut (signCut l).2).2 : Nat) : Int) else ((valG (baseCut (signCut l).2).1 0 (baseCut (signCut l).2).2 : Nat) : Int) := by
 unfold numRes at *
 by_cases c : 80 < l.length
 ·rw [if_pos c] at h; exact absurd h (by decide)
 ·rw [if_neg c] at h ⊢
  unfold bodyRes at *
  generalize (signCut l).1 = below at *
  generalize baseCut (signCut l).2 = bd at *
  by_cases c1 : formedL bd.1 bd.2 = false
  ·rw [if_pos c1] at h; exact absurd h (by decide)
  ·rw [if_neg c1] at h ⊢
   by_cases c2 : limitOf below < valG bd.1 0 bd.2
   ·rw [if_pos c2] at h; exact absurd h (by decide)
   ·rw [if_neg c2] at h ⊢
    exact ⟨by omega, by simpa using c1, by omega, rfl⟩
theorem res_range (l : List UInt8) : -9223372036854775808 ≤ (numRes l).1 ∧ (numRes l).1 ≤ 9223372036854775807 := by
 rcases res_kinds l with h | ⟨h, _⟩
 ·obtain ⟨_, _, h3, h4⟩ := res_good h
  rw [h4]
  generalize valG (baseCut (signCut l).2).1 0 (baseCut (signCut l).2).2 = V at *
  cases hb : (signCut l).1 with
  | true => rw [hb] at h3; simp only [limitOf, if_true] at h3 ⊢; omega
  | false => rw [hb] at h3; simp only [limitOf, Bool.false_eq_true, if_false] at h3 ⊢; omega
 ·rw [h]; omega
end Go.Proofs.YtnbfnjhbmeocfaaGreatDoor.bigs
