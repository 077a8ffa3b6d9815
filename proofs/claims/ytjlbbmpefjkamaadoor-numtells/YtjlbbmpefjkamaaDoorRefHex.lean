/- The document's hexOf. -/
import Derived.Test.YtjlbbmpefjkamaaDoorNumW
set_option linter.unusedVariables false
namespace Go.Proofs.YtjlbbmpefjkamaaDoor.bigs
open Go.RowKit
/-- What the document's hexOf answers. -/
def hexd (c : UInt8) : Nat := if hexv c = 16 then 99 else hexv c
theorem hexd_ge {c : UInt8} {b : Nat} (hb : b ≤ 16) : b ≤ hexd c ↔ b ≤ hexv c := by
  unfold hexd
  split <;> omega
theorem hexd_lt {c : UInt8} {b : Nat} (hb : b ≤ 16) (h : ¬ b ≤ hexv c) : hexd c = hexv c := by
  unfold hexd
  rw [if_neg (by omega)]
set_option maxHeartbeats 4000000 in
set_option maxRecDepth 100000 in
theorem hexW_a (w : World) (n : Nat) (h1 : 48 ≤ n) (h2 : n ≤ 57) : Calls Tryd.prog 28 #[.int .u8 (n : Int)] w fun e w' => e = .returned (.int .i64 ((n - 48 : Nat) : Int)) ∧ w' = w := by
  have f0 : (n : Int) ≥ 48 := by omega
  have f1 : (n : Int) ≤ 57 := by omega
  go_enter Tryd.func28, Tryd.ntmps28
  go_wp2
  go_ret
  refine ⟨?_, rfl⟩
  first | rfl | go_num
set_option maxHeartbeats 4000000 in
set_option maxRecDepth 100000 in
theorem hexW_b (w : World) (n : Nat) (h1 : 97 ≤ n) (h2 : n ≤ 102) : Calls Tryd.prog 28 #[.int .u8 (n : Int)] w fun e w' => e = .returned (.int .i64 ((n - 97 + 10 : Nat) : Int)) ∧ w' = w := by
  have f0 : (n : Int) ≥ 48 := by omega
  have f1 : ¬ (n : Int) ≤ 57 := by omega
  have f2 : (n : Int) ≥ 97 := by omega
  have f3 : (n : Int) ≤ 102 := by omega
  go_enter Tryd.func28, Tryd.ntmps28
  go_wp2
  go_ret
  refine ⟨?_, rfl⟩
  first | rfl | go_num
set_option maxHeartbeats 4000000 in
set_option maxRecDepth 100000 in
theorem hexW_c (w : World) (n : Nat) (h1 : 65 ≤ n) (h2 : n ≤ 70) : Calls Tryd.prog 28 #[.int .u8 (n : Int)] w fun e w' => e = .returned (.int .i64 ((n - 65 + 10 : Nat) : Int)) ∧ w' = w := by
  have f0 : (n : Int) ≥ 48 := by omega
  have f1 : ¬ (n : Int) ≤ 57 := by omega
  have f2 : ¬ (n : Int) ≥ 97 := by omega
  have f3 : (n : Int) ≥ 65 := by omega
  have f4 : (n : Int) ≤ 70 := by omega
  go_enter Tryd.func28, Tryd.ntmps28
  go_wp2
  go_ret
  refine ⟨?_, rfl⟩
  first | rfl | go_num
set_option maxHeartbeats 4000000 in
set_option maxRecDepth 100000 in
theorem hexW_d (w : World) (n : Nat) (h1 : n < 48) : Calls Tryd.prog 28 #[.int .u8 (n : Int)] w fun e w' => e = .returned (.int .i64 ((99 : Nat) : Int)) ∧ w' = w := by
  have f0 : ¬ (n : Int) ≥ 48 := by omega
  have f1 : ¬ (n : Int) ≥ 97 := by omega
  have f2 : ¬ (n : Int) ≥ 65 := by omega
  go_enter Tryd.func28, Tryd.ntmps28
  go_wp2
  go_ret
  refine ⟨?_, rfl⟩
  first | rfl | go_num
set_option maxHeartbeats 4000000 in
set_option maxRecDepth 100000 in
theorem hexW_e (w : World) (n : Nat) (h1 : 57 < n) (h2 : n < 65) : Calls Tryd.prog 28 #[.int .u8 (n : Int)] w fun e w' => e = .returned (.int .i64 ((99 : Nat) : Int)) ∧ w' = w := by
  have f0 : (n : Int) ≥ 48 := by omega
  have f1 : ¬ (n : Int) ≤ 57 := by omega
  have f2 : ¬ (n : Int) ≥ 97 := by omega
  have f3 : ¬ (n : Int) ≥ 65 := by omega
  go_enter Tryd.func28, Tryd.ntmps28
  go_wp2
  go_ret
  refine ⟨?_, rfl⟩
  first | rfl | go_num
set_option maxHeartbeats 4000000 in
set_option maxRecDepth 100000 in
theorem hexW_f (w : World) (n : Nat) (h1 : 70 < n) (h2 : n < 97) : Calls Tryd.prog 28 #[.int .u8 (n : Int)] w fun e w' => e = .returned (.int .i64 ((99 : Nat) : Int)) ∧ w' = w := by
  have f0 : (n : Int) ≥ 48 := by omega
  have f1 : ¬ (n : Int) ≤ 57 := by omega
  have f2 : ¬ (n : Int) ≥ 97 := by omega
  have f3 : (n : Int) ≥ 65 := by omega
  have f4 : ¬ (n : Int) ≤ 70 := by omega
  go_enter Tryd.func28, Tryd.ntmps28
  go_wp2
  go_ret
  refine ⟨?_, rfl⟩
  first | rfl | go_num
set_option maxHeartbeats 4000000 in
set_option maxRecDepth 100000 in
theorem hexW_g (w : World) (n : Nat) (h1 : 102 < n) (h2 : n < 256) : Calls Tryd.prog 28 #[.int .u8 (n : Int)] w fun e w' => e = .returned (.int .i64 ((99 : Nat) : Int)) ∧ w' = w := by
  have f0 : (n : Int) ≥ 48 := by omega
  have f1 : ¬ (n : Int) ≤ 57 := by omega
  have f2 : (n : Int) ≥ 97 := by omega
  have f3 : ¬ (n : Int) ≤ 102 := by omega
  have f4 : (n : Int) ≥ 65 := by omega
  have f5 : ¬ (n : Int) ≤ 70 := by omega
  go_enter Tryd.func28, Tryd.ntmps28
  go_wp2
  go_ret
  refine ⟨?_, rfl⟩
  first | rfl | go_num
theorem hexW_any (w : World) (c : UInt8) : Calls Tryd.prog 28 #[.int .u8 (c.toNat : Int)] w fun e w' => e = .returned (.int .i64 ((hexd c : Nat) : Int)) ∧ w' = w := by
  have u := UInt8.toNat_lt c
  unfold hexd
  by_cases a1 : 48 ≤ c.toNat ∧ c.toNat ≤ 57
  · rw [hexv_dec a1.1 a1.2, if_neg (by omega)]; exact hexW_a w _ a1.1 a1.2
  · by_cases a2 : 97 ≤ c.toNat ∧ c.toNat ≤ 102
    · rw [hexv_small a2.1 a2.2, if_neg (by omega)]; exact hexW_b w _ a2.1 a2.2
    · by_cases a3 : 65 ≤ c.toNat ∧ c.toNat ≤ 70
      · rw [hexv_great a3.1 a3.2, if_neg (by omega)]; exact hexW_c w _ a3.1 a3.2
      · rw [hexv_none a1 a2 a3, if_pos rfl]
        by_cases h1 : c.toNat < 48
        · exact hexW_d w _ h1
        · by_cases h2 : c.toNat < 65
          · exact hexW_e w _ (by omega) h2
          · by_cases h3 : c.toNat < 97
            · exact hexW_f w _ (by omega) h3
            · exact hexW_g w _ (by omega) u
end Go.Proofs.YtjlbbmpefjkamaaDoor.bigs
