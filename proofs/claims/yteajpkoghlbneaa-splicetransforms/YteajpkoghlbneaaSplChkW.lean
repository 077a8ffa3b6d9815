/- The walks of package splice: what is wrong with a part; its size. -/
import Derived.Test.YteajpkoghlbneaaSplBlk
set_option linter.unusedVariables false
namespace Go.Proofs.Yteajpkoghlbneaa.spls
open Go.RowKit

set_option maxHeartbeats 1000000 in
set_option maxRecDepth 100000 in
theorem size_any (w : World) (k n : Int) (s : ByteArray) (hs : s.size ≤ 20000) (hn : 0 ≤ n ∧ n ≤ 20000) :
    Calls Try.prog 22 #[.agg #[.int .i64 k, .int .i64 n, .string s]] w fun e w' => e = .returned (.int .i64 ((s.size : Int) + n)) ∧ w' = w.alloc (.cells #[.int .i64 k, .int .i64 n, .string s] 46) := by
  obtain ⟨h1, h2⟩ := hn
  go_enter Try.func22, Try.ntmps22
  go_wp2
  go_ret
  exact ⟨rfl, rfl⟩
set_option maxHeartbeats 4000000 in
set_option maxRecDepth 100000 in
theorem checkPart1 (w : World) (n : Int) (s : ByteArray) (hs : s.size ≤ 9223372036854775807) :
    Calls Try.prog 26 #[.agg #[.int .i64 1, .int .i64 n, .string s]] w fun e w' => e = .returned (.int .i64 (chkP (1, n, s.data.toList))) ∧ w' = w.alloc (.cells #[.int .i64 1, .int .i64 n, .string s] 46) := by
  have hlen := len_list s
  by_cases n1 : n < 0
  · have E : Hid (chkP (1, n, s.data.toList) = 1) := hide (by unfold chkP; rw [if_neg (by show ¬ ((1 : Int) ≠ 1 ∧ (1 : Int) ≠ 2 ∧ (1 : Int) ≠ 3); omega), if_pos (.inl n1)])
    clear hlen
    go_enter Try.func26, Try.ntmps26
    go_wp2
    go_ret
    exact ⟨by rw [E.out]; rfl, rfl⟩
  by_cases n2 : n > 20000
  · have E : Hid (chkP (1, n, s.data.toList) = 1) := hide (by unfold chkP; rw [if_neg (by show ¬ ((1 : Int) ≠ 1 ∧ (1 : Int) ≠ 2 ∧ (1 : Int) ≠ 3); omega), if_pos (.inr n2)])
    clear hlen
    go_enter Try.func26, Try.ntmps26
    go_wp2
    go_ret
    exact ⟨by rw [E.out]; rfl, rfl⟩
  by_cases s1 : (s.size : Int) > 20000
  · have E : Hid (chkP (1, n, s.data.toList) = 2) := hide (by unfold chkP; rw [if_neg (by show ¬ ((1 : Int) ≠ 1 ∧ (1 : Int) ≠ 2 ∧ (1 : Int) ≠ 3); omega), if_neg (by show ¬ (n < 0 ∨ 20000 < n); omega), if_neg (by show ¬ ((1 : Int) = 3 ∧ n ≠ 0); omega), if_pos (by show 20000 < s.data.toList.length; omega)])
    clear hlen
    go_enter Try.func26, Try.ntmps26
    go_wp2
    go_ret
    exact ⟨by rw [E.out]; rfl, rfl⟩
  by_cases s2 : s.size = 0
  · have E : Hid (chkP (1, n, s.data.toList) = 0) := hide (by unfold chkP; rw [if_neg (by show ¬ ((1 : Int) ≠ 1 ∧ (1 : Int) ≠ 2 ∧ (1 : Int) ≠ 3); omega), if_neg (by show ¬ (n < 0 ∨ 20000 < n); omega), if_neg (by show ¬ ((1 : Int) = 3 ∧ n ≠ 0); omega), if_neg (by show ¬ 20000 < s.data.toList.length; omega), if_neg (fun h => h.2 (List.eq_nil_of_length_eq_zero (by show s.data.toList.length = 0; omega)))])
    have s3 := isEmptyYes s s2
    clear hlen s2
    go_enter Try.func26, Try.ntmps26
    go_wp2
    go_ret
    exact ⟨by rw [E.out]; rfl, rfl⟩
  · have E : Hid (chkP (1, n, s.data.toList) = 1) := hide (by unfold chkP; rw [if_neg (by show ¬ ((1 : Int) ≠ 1 ∧ (1 : Int) ≠ 2 ∧ (1 : Int) ≠ 3); omega), if_neg (by show ¬ (n < 0 ∨ 20000 < n); omega), if_neg (by show ¬ ((1 : Int) = 3 ∧ n ≠ 0); omega), if_neg (by show ¬ 20000 < s.data.toList.length; omega), if_pos ⟨by show (1 : Int) ≠ 3; decide, fun h => s2 (by rw [← hlen]; have h2 : s.data.toList = [] := h; rw [h2]; rfl)⟩])
    have s3 := isEmptyNo s (by omega)
    clear hlen s2
    go_enter Try.func26, Try.ntmps26
    go_wp2
    go_ret
    exact ⟨by rw [E.out]; rfl, rfl⟩
set_option maxHeartbeats 4000000 in
set_option maxRecDepth 100000 in
theorem checkPart2 (w : World) (n : Int) (s : ByteArray) (hs : s.size ≤ 9223372036854775807) :
    Calls Try.prog 26 #[.agg #[.int .i64 2, .int .i64 n, .string s]] w fun e w' => e = .returned (.int .i64 (chkP (2, n, s.data.toList))) ∧ w' = w.alloc (.cells #[.int .i64 2, .int .i64 n, .string s] 46) := by
  have hlen := len_list s
  by_cases n1 : n < 0
  · have E : Hid (chkP (2, n, s.data.toList) = 1) := hide (by unfold chkP; rw [if_neg (by show ¬ ((2 : Int) ≠ 1 ∧ (2 : Int) ≠ 2 ∧ (2 : Int) ≠ 3); omega), if_pos (.inl n1)])
    clear hlen
    go_enter Try.func26, Try.ntmps26
    go_wp2
    go_ret
    exact ⟨by rw [E.out]; rfl, rfl⟩
  by_cases n2 : n > 20000
  · have E : Hid (chkP (2, n, s.data.toList) = 1) := hide (by unfold chkP; rw [if_neg (by show ¬ ((2 : Int) ≠ 1 ∧ (2 : Int) ≠ 2 ∧ (2 : Int) ≠ 3); omega), if_pos (.inr n2)])
    clear hlen
    go_enter Try.func26, Try.ntmps26
    go_wp2
    go_ret
    exact ⟨by rw [E.out]; rfl, rfl⟩
  by_cases s1 : (s.size : Int) > 20000
  · have E : Hid (chkP (2, n, s.data.toList) = 2) := hide (by unfold chkP; rw [if_neg (by show ¬ ((2 : Int) ≠ 1 ∧ (2 : Int) ≠ 2 ∧ (2 : Int) ≠ 3); omega), if_neg (by show ¬ (n < 0 ∨ 20000 < n); omega), if_neg (by show ¬ ((2 : Int) = 3 ∧ n ≠ 0); omega), if_pos (by show 20000 < s.data.toList.length; omega)])
    clear hlen
    go_enter Try.func26, Try.ntmps26
    go_wp2
    go_ret
    exact ⟨by rw [E.out]; rfl, rfl⟩
  by_cases s2 : s.size = 0
  · have E : Hid (chkP (2, n, s.data.toList) = 0) := hide (by unfold chkP; rw [if_neg (by show ¬ ((2 : Int) ≠ 1 ∧ (2 : Int) ≠ 2 ∧ (2 : Int) ≠ 3); omega), if_neg (by show ¬ (n < 0 ∨ 20000 < n); omega), if_neg (by show ¬ ((2 : Int) = 3 ∧ n ≠ 0); omega), if_neg (by show ¬ 20000 < s.data.toList.length; omega), if_neg (fun h => h.2 (List.eq_nil_of_length_eq_zero (by show s.data.toList.length = 0; omega)))])
    have s3 := isEmptyYes s s2
    clear hlen s2
    go_enter Try.func26, Try.ntmps26
    go_wp2
    go_ret
    exact ⟨by rw [E.out]; rfl, rfl⟩
  · have E : Hid (chkP (2, n, s.data.toList) = 1) := hide (by unfold chkP; rw [if_neg (by show ¬ ((2 : Int) ≠ 1 ∧ (2 : Int) ≠ 2 ∧ (2 : Int) ≠ 3); omega), if_neg (by show ¬ (n < 0 ∨ 20000 < n); omega), if_neg (by show ¬ ((2 : Int) = 3 ∧ n ≠ 0); omega), if_neg (by show ¬ 20000 < s.data.toList.length; omega), if_pos ⟨by show (2 : Int) ≠ 3; decide, fun h => s2 (by rw [← hlen]; have h2 : s.data.toList = [] := h; rw [h2]; rfl)⟩])
    have s3 := isEmptyNo s (by omega)
    clear hlen s2
    go_enter Try.func26, Try.ntmps26
    go_wp2
    go_ret
    exact ⟨by rw [E.out]; rfl, rfl⟩
set_option maxHeartbeats 4000000 in
set_option maxRecDepth 100000 in
theorem checkPart3 (w : World) (n : Int) (s : ByteArray) (hs : s.size ≤ 9223372036854775807) :
    Calls Try.prog 26 #[.agg #[.int .i64 3, .int .i64 n, .string s]] w fun e w' => e = .returned (.int .i64 (chkP (3, n, s.data.toList))) ∧ w' = w.alloc (.cells #[.int .i64 3, .int .i64 n, .string s] 46) := by
  have hlen := len_list s
  by_cases n1 : n < 0
  · have E : Hid (chkP (3, n, s.data.toList) = 1) := hide (by unfold chkP; rw [if_neg (by show ¬ ((3 : Int) ≠ 1 ∧ (3 : Int) ≠ 2 ∧ (3 : Int) ≠ 3); omega), if_pos (.inl n1)])
    clear hlen
    go_enter Try.func26, Try.ntmps26
    go_wp2
    go_ret
    exact ⟨by rw [E.out]; rfl, rfl⟩
  by_cases n2 : n > 20000
  · have E : Hid (chkP (3, n, s.data.toList) = 1) := hide (by unfold chkP; rw [if_neg (by show ¬ ((3 : Int) ≠ 1 ∧ (3 : Int) ≠ 2 ∧ (3 : Int) ≠ 3); omega), if_pos (.inr n2)])
    clear hlen
    go_enter Try.func26, Try.ntmps26
    go_wp2
    go_ret
    exact ⟨by rw [E.out]; rfl, rfl⟩
  by_cases n3 : n ≠ 0
  · have E : Hid (chkP (3, n, s.data.toList) = 1) := hide (by unfold chkP; rw [if_neg (by show ¬ ((3 : Int) ≠ 1 ∧ (3 : Int) ≠ 2 ∧ (3 : Int) ≠ 3); omega), if_neg (by show ¬ (n < 0 ∨ 20000 < n); omega), if_pos ⟨rfl, n3⟩])
    have n4 : (n == 0) = false := beq_false_of_ne n3
    have n5 : (n != 0) = true := by simp [n3]
    clear hlen
    go_enter Try.func26, Try.ntmps26
    go_wp2
    go_ret
    exact ⟨by rw [E.out]; rfl, rfl⟩
  have n3 : n = 0 := Classical.byContradiction n3
  subst n3
  by_cases s1 : (s.size : Int) > 20000
  · have E : Hid (chkP (3, 0, s.data.toList) = 2) := hide (by unfold chkP; rw [if_neg (by show ¬ ((3 : Int) ≠ 1 ∧ (3 : Int) ≠ 2 ∧ (3 : Int) ≠ 3); omega), if_neg (by show ¬ ((0 : Int) < 0 ∨ (20000 : Int) < 0); omega), if_neg (by show ¬ ((3 : Int) = 3 ∧ (0 : Int) ≠ 0); omega), if_pos (by show 20000 < s.data.toList.length; omega)])
    clear hlen
    go_enter Try.func26, Try.ntmps26
    go_wp2
    go_ret
    exact ⟨by rw [E.out]; rfl, rfl⟩
  · have E : Hid (chkP (3, 0, s.data.toList) = 0) := hide (by unfold chkP; rw [if_neg (by show ¬ ((3 : Int) ≠ 1 ∧ (3 : Int) ≠ 2 ∧ (3 : Int) ≠ 3); omega), if_neg (by show ¬ ((0 : Int) < 0 ∨ (20000 : Int) < 0); omega), if_neg (by show ¬ ((3 : Int) = 3 ∧ (0 : Int) ≠ 0); omega), if_neg (by show ¬ 20000 < s.data.toList.length; omega), if_neg (by show ¬ ((3 : Int) ≠ 3 ∧ _); exact fun h => h.1 rfl)])
    clear hlen
    go_enter Try.func26, Try.ntmps26
    go_wp2
    go_ret
    exact ⟨by rw [E.out]; rfl, rfl⟩
set_option maxHeartbeats 4000000 in
set_option maxRecDepth 100000 in
theorem checkPart_any (w : World) (k n : Int) (s : ByteArray) (hs : s.size ≤ 9223372036854775807) :
    Calls Try.prog 26 #[.agg #[.int .i64 k, .int .i64 n, .string s]] w fun e w' => e = .returned (.int .i64 (chkP (k, n, s.data.toList))) ∧ w' = w.alloc (.cells #[.int .i64 k, .int .i64 n, .string s] 46) := by
  have hlen := len_list s
  by_cases k1 : k = 1
  · subst k1; exact checkPart1 w n s hs
  by_cases k2 : k = 2
  · subst k2; exact checkPart2 w n s hs
  by_cases k3 : k = 3
  · subst k3; exact checkPart3 w n s hs
  have E : Hid (chkP (k, n, s.data.toList) = 10) := hide (by unfold chkP; rw [if_pos ⟨k1, k2, k3⟩])
  have j1 : (k == 1) = false := beq_false_of_ne k1
  have j2 : (k == 2) = false := beq_false_of_ne k2
  have j3 : (k == 3) = false := beq_false_of_ne k3
  have l1 : (k != 1) = true := by simp [k1]
  have l2 : (k != 2) = true := by simp [k2]
  have l3 : (k != 3) = true := by simp [k3]
  clear hlen
  go_enter Try.func26, Try.ntmps26
  go_wp2
  go_ret
  exact ⟨by rw [E.out]; rfl, rfl⟩
end Go.Proofs.Yteajpkoghlbneaa.spls
