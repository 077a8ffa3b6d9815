/- Fractions. -/
import Derived.Test.YtdpoiagnjdajbaaDoorPtelAR
import Derived.Test.YtdpoiagnjdajbaaDoorPtelAT
set_option linter.unusedVariables false
namespace Go.Proofs.YtdpoiagnjdajbaaDoor.valus
open Go.RowKit Go.Shelf

set_option maxHeartbeats 2000000 in
theorem turnFraction_any (w : World) (b : Nat) (hb : b < 18446744073709551616) : Calls Tryd.prog 35 #[.int .u64 (b : Int)] w fun e w' => e = .returned (.int .u64 (turnF b : Int)) ∧ w' = w := by
  have h1 := top_and hb
  by_cases c : b < 9223372036854775808
  · rw [if_pos c] at h1
    have h2 := bits_xor hb
    rw [xor_low c] at h2
    have HV : Hid (turnF b = b + 9223372036854775808) := hide (if_pos c)
    clear c hb
    go_enter Tryd.func35, Tryd.ntmps35
    go_wp2
    go_ret
    exact ⟨ret_u64 (by rw [HV.out]; omega), rfl⟩
  · rw [if_neg c] at h1
    have h2 := top_xor hb
    have HV : Hid (turnF b = 18446744073709551615 - b) := hide (if_neg c)
    clear c hb
    go_enter Tryd.func35, Tryd.ntmps35
    go_wp2
    go_ret
    exact ⟨ret_u64 (by rw [HV.out]), rfl⟩
set_option maxHeartbeats 4000000 in
set_option maxRecDepth 100000 in
theorem val3_any (n0 : Nat) (w : World) (v : Value) (l : List UInt8) (n : Int) (b : Nat) (hb : b < 18446744073709551616) (s : ByteArray) (pL pE : Option Addr) (nL cL nE cE : Nat) (hO : OwnB n0 w v l) (hn0 : n0 ≤ w.heap.size) (hlen : l.length ≤ 700000000) :
    Calls Tryd.prog 21 #[v, .agg #[.int .i64 3, .int .i64 n, .int .u64 (b : Int), .string s, .slice pL nL cL, .slice pE nE cE]] w fun e w' => ∃ v', e = .returned v' ∧ OwnB n0 w' v' (l ++ (4 :: encB 8 (turnF b))) ∧ Grew w w' v v' := by
  obtain ⟨v1, W2, hr, ho, hg, hbk, hlt, hne⟩ := begin_any n0 w v l hO hn0 #[.int .i64 3, .int .i64 n, .int .u64 (b : Int), .string s, .slice pL nL cL, .slice pE nE cE] 4 (by omega)
  have hc : cellB 4 = .int .u8 4 := rfl
  rw [hc] at hr
  have c0 := hbk.cell 0 _ rfl
  have c2 := hbk.cell 2 _ rfl
  have HK := hide (number_any n0 W2 v1 (l ++ [4]) ho (Nat.le_trans hn0 (hg.old hO hn0).size) (turnF b) (turnF_lt hb) (by simp; omega))
  have HT := hide (turnFraction_any W2 b hb)
  have HG := hide hg
  clear ho hg hbk hO
  go_enter Tryd.func21, Tryd.ntmps21
  go_wp2_with (first
    | (at_builtin; refine Lib.wpList_append_run _ rfl _ _ _ _ rfl _ _ rfl rfl _ _ hr ?_)
    | (go_at_call 35; refine (unhide HT).mono ?_; rintro e w9 ⟨rfl, rfl⟩)
    | (go_at_call 33; refine (unhide HK).mono ?_; rintro e w3 ⟨v3, rfl, ho3, hg3⟩))
  go_ret
  exact ⟨v3, rfl, by rw [List.append_assoc] at ho3; exact ho3, HG.out.trans hg3⟩
end Go.Proofs.YtdpoiagnjdajbaaDoor.valus
/- Booleans, whole numbers, fractions. -/
set_option linter.unusedVariables false
namespace Go.Proofs.YtdpoiagnjdajbaaDoor.valus
open Go.RowKit Go.Shelf

set_option maxHeartbeats 4000000 in
set_option maxRecDepth 100000 in
theorem val1_any (n0 : Nat) (w : World) (v : Value) (l : List UInt8) (c : UInt8) (hc01 : c = 0 ∨ c = 1) (b : Nat) (s : ByteArray) (pL pE : Option Addr) (nL cL nE cE : Nat) (hO : OwnB n0 w v l) (hn0 : n0 ≤ w.heap.size) (hlen : l.length ≤ 700000000) :
    Calls Tryd.prog 21 #[v, .agg #[.int .i64 1, .int .i64 (c.toNat : Int), .int .u64 (b : Int), .string s, .slice pL nL cL, .slice pE nE cE]] w fun e w' => ∃ v', e = .returned v' ∧ OwnB n0 w' v' (l ++ [2, c]) ∧ Grew w w' v v' := by
  obtain ⟨v1, W2, hr, ho, hg, hbk, hlt, hne⟩ := begin_any n0 w v l hO hn0 #[.int .i64 1, .int .i64 (c.toNat : Int), .int .u64 (b : Int), .string s, .slice pL nL cL, .slice pE nE cE] 2 (by omega)
  have hc : cellB 2 = .int .u8 2 := rfl
  rw [hc] at hr
  have c0 := hbk.cell 0 _ rfl
  have c1 := hbk.cell 1 _ rfl
  obtain ⟨v3, W3, hr3, ho3, hg3⟩ := push_one ho (Nat.le_trans hn0 (hg.old hO hn0).size) c (by simp; omega) 27
  rw [List.append_assoc] at ho3
  have HO := hide ho3
  have HG := hide (hg.trans hg3)
  clear ho hg hbk hO ho3 hg3
  rcases hc01 with rfl | rfl
  · have hc2 : cellB 0 = .int .u8 0 := rfl
    have e1 : ((0 : UInt8).toNat : Int) = 0 := rfl
    rw [hc2] at hr3
    rw [e1] at c1 hr
    go_enter Tryd.func21, Tryd.ntmps21
    go_wp2_with (first
      | (at_builtin; refine Lib.wpList_append_run _ rfl _ _ _ _ rfl _ _ rfl rfl _ _ hr ?_)
      | (at_builtin; refine Lib.wpList_append_run _ rfl _ _ _ _ rfl _ _ rfl rfl _ _ hr3 ?_))
    go_ret
    exact ⟨v3, rfl, HO.out, HG.out⟩
  · have hc2 : cellB 1 = .int .u8 1 := rfl
    have e1 : ((1 : UInt8).toNat : Int) = 1 := rfl
    rw [hc2] at hr3
    rw [e1] at c1 hr
    go_enter Tryd.func21, Tryd.ntmps21
    go_wp2_with (first
      | (at_builtin; refine Lib.wpList_append_run _ rfl _ _ _ _ rfl _ _ rfl rfl _ _ hr ?_)
      | (at_builtin; refine Lib.wpList_append_run _ rfl _ _ _ _ rfl _ _ rfl rfl _ _ hr3 ?_))
    go_ret
    exact ⟨v3, rfl, HO.out, HG.out⟩
end Go.Proofs.YtdpoiagnjdajbaaDoor.valus
/- Whole numbers. -/
set_option linter.unusedVariables false
namespace Go.Proofs.YtdpoiagnjdajbaaDoor.valus
open Go.RowKit Go.Shelf

set_option maxHeartbeats 4000000 in
set_option maxRecDepth 100000 in
theorem val2_any (n0 : Nat) (w : World) (v : Value) (l : List UInt8) (n : Int) (hi : -9223372036854775808 ≤ n ∧ n ≤ 9223372036854775807) (b : Nat) (s : ByteArray) (pL pE : Option Addr) (nL cL nE cE : Nat) (hO : OwnB n0 w v l) (hn0 : n0 ≤ w.heap.size) (hlen : l.length ≤ 700000000) :
    Calls Tryd.prog 21 #[v, .agg #[.int .i64 2, .int .i64 n, .int .u64 (b : Int), .string s, .slice pL nL cL, .slice pE nE cE]] w fun e w' => ∃ v', e = .returned v' ∧ OwnB n0 w' v' (l ++ (3 :: encB 8 (n + 9223372036854775808).toNat)) ∧ Grew w w' v v' := by
  obtain ⟨v1, W2, hr, ho, hg, hbk, hlt, hne⟩ := begin_any n0 w v l hO hn0 #[.int .i64 2, .int .i64 n, .int .u64 (b : Int), .string s, .slice pL nL cL, .slice pE nE cE] 3 (by omega)
  have hc : cellB 3 = .int .u8 3 := rfl
  rw [hc] at hr
  have c0 := hbk.cell 0 _ rfl
  have c1 := hbk.cell 1 _ rfl
  obtain ⟨qq, hqq⟩ : ∃ qq : Nat, qq = (n + 9223372036854775808).toNat := ⟨_, rfl⟩
  have HK := hide (number_any n0 W2 v1 (l ++ [3]) ho (Nat.le_trans hn0 (hg.old hO hn0).size) qq (by omega) (by simp; omega))
  rw [← hqq]
  have hwr : IntKind.u64.wrap n = n % 18446744073709551616 := by
    simp only [IntKind.wrap, IntKind.bits, IntKind.signed]
    rfl
  obtain ⟨q, hq⟩ : ∃ q : Nat, (q : Int) = n % 18446744073709551616 := ⟨(n % 18446744073709551616).toNat, by omega⟩
  have hqx : ((q ^^^ 9223372036854775808 : Nat) : Int) = (qq : Int) := by
    rcases Nat.lt_or_ge q 9223372036854775808 with h | h
    · rw [xor_low h]
      omega
    · rw [xor_high h (by omega)]
      omega
  have HT := hide (turnWhole_any W2 q (by omega))
  rw [hqx, hq, ← hwr] at HT
  have HG := hide hg
  clear ho hg hbk hO hqx hqq hwr hq
  go_enter Tryd.func21, Tryd.ntmps21
  go_wp2_with (first
    | (at_builtin; refine Lib.wpList_append_run _ rfl _ _ _ _ rfl _ _ rfl rfl _ _ hr ?_)
    | (go_at_call 34; refine (unhide HT).mono ?_; rintro e w9 ⟨rfl, rfl⟩)
    | (go_at_call 33; refine (unhide HK).mono ?_; rintro e w3 ⟨v3, rfl, ho3, hg3⟩))
  go_ret
  exact ⟨v3, rfl, by rw [List.append_assoc] at ho3; exact ho3, HG.out.trans hg3⟩
end Go.Proofs.YtdpoiagnjdajbaaDoor.valus
