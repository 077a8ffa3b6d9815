/- The walk of the laws' own helper: exact. -/
import Derived.Test.YtobbbhmkcmbekabDoorFloatApart
set_option linter.unusedVariables false
namespace Go.Proofs.YtobbbhmkcmbekabDoor.bigs
open Go.RowKit

theorem alloc_size (w : World) (o : Obj) : (w.alloc o).heap.size = w.heap.size + 1 := by
  show (w.heap.push o).size = _
  simp
theorem lit_one2 (w : World) (o : Obj) : WSl ((w.alloc o).alloc (.cells #[.int .u32 1] 30)) (.slice (some ⟨w.heap.size + 1, 0, none⟩) 1 1) [1] := by
  have h := lit_row (w.alloc o) 1
  rw [alloc_size] at h
  exact ⟨_, _, rfl, by simp, h⟩
set_option maxHeartbeats 8000000 in
set_option maxRecDepth 100000 in
theorem exact_any (w : World) (r : Nat) (hr : r < 9218868437227405312) :
    Calls Tryd.prog 11 #[.int .u64 r] w fun e w' => ∃ v u, e = .returned (.tuple #[v, u]) ∧ Nm w' v ((fparts r).1 * 2 ^ ((fparts r).2.1).toNat) ∧ Nm w' u (2 ^ (-(fparts r).2.1).toNat) ∧ Below w.heap.size w w' := by
  obtain ⟨-, -, p1, p2, -, p3⟩ := parts_frac r hr
  have K1 := hide (partsW_any w r (by omega))
  generalize (fparts r).1 = n at *
  generalize (fparts r).2.1 = x at *
  generalize (fparts r).2.2 = y at *
  obtain ⟨hi, h1⟩ : ∃ hi, hi = n / 4294967296 := ⟨_, rfl⟩
  obtain ⟨lo, h2⟩ : ∃ lo, lo = n % 4294967296 := ⟨_, rfl⟩
  have n1 : (n : Int) / 4294967296 = (hi : Int) := by omega
  have n2 : (n : Int) % 4294967296 = (lo : Int) := by omega
  have n3 : (hi : Int) % 4294967296 = (hi : Int) := by omega
  have hh : hi < 4294967296 := by omega
  have hl : lo < 4294967296 := by omega
  have hs : wval [lo, hi] = n := by simp [wval]; omega
  have HS := hide hs
  clear h1 h2 hs
  by_cases c : 0 ≤ x
  · obtain ⟨E, rfl⟩ : ∃ E : Nat, x = E := ⟨x.toNat, by omega⟩
    rw [show ((E : Int)).toNat = E by omega, show (-(E : Int)).toNat = 0 by omega, Nat.pow_zero]
    have K2 : ∀ w v, WSl w v [lo, hi] → Hid (Calls Tryd.prog 7 #[v, .int .i64 E] w fun e w' => ∃ v', e = .returned (.tuple #[v', .int .i64 0]) ∧ WBig w' v' (n * 2 ^ E) ∧ Below w.heap.size w w') := fun w v hv => by
      have h := shiftUp_any w v [lo, hi] E hv (words_cons.2 ⟨hl, words_one hh⟩) (by simp) (by omega)
      rw [unhide HS] at h
      exact hide h
    have hlen : (wdig (n * 2 ^ E)).length ≤ 20000 := by have := wdig_shift_len (m := n) (N := E); have := wdig_len_lt (n := n) (k := 2) (Nat.lt_trans p3 (by decide)); omega
    generalize hP : n * 2 ^ E = P at *
    clear hP
    have t1 : (0 : Int) ≤ (E : Int) := by omega
    go_enter Tryd.func11, Tryd.ntmps11
    go_wp2_with fail
    refine (unhide K1).mono ?_
    rintro e w1 ⟨rfl, rfl⟩
    clear K1
    have q1 : WSl (w1.alloc (.cells #[.int .u32 (lo : Int), .int .u32 (hi : Int)] 30)) (.slice (some ⟨w1.heap.size, 0, none⟩) 2 2) [lo, hi] := ⟨_, _, rfl, by simp, lit_two w1 lo hi⟩
    have q2 := lit_one2 w1 (.cells #[.int .u32 (lo : Int), .int .u32 (hi : Int)] 30)
    have b2 : Below w1.heap.size w1 ((w1.alloc (.cells #[.int .u32 (lo : Int), .int .u32 (hi : Int)] 30)).alloc (.cells #[.int .u32 1] 30)) := ((Below.refl _ _).alloc (Nat.le_refl _) _).alloc (by rw [alloc_size]; omega) _
    have K2' := K2 _ _ (q1.alloc (.cells #[.int .u32 1] 30))
    clear K2 q1
    go_wp2_with fail
    generalize (w1.alloc (.cells #[.int .u32 (lo : Int), .int .u32 (hi : Int)] 30)).alloc (.cells #[.int .u32 1] 30) = w2 at *
    refine (unhide K2').mono ?_
    rintro e w3 ⟨v3, rfl, h3, b3⟩
    have F1 := hide (nm_big h3 hlen)
    have F2 := hide (show Nm w3 (.slice (some ⟨w1.heap.size + 1, 0, none⟩) 1 1) 1 from ⟨[1], q2.below b3, words_one (by decide), by simp, wval_one 1⟩)
    have bw := b2.trans (b3.mono b2.size)
    clear h3 b3 b2 q2 K2' hlen
    go_wp2
    go_ret2
    exact ⟨_, _, rfl, unhide F1, unhide F2, bw⟩
  · obtain ⟨E, rfl⟩ : ∃ E : Nat, x = -(E : Int) := ⟨(-x).toNat, by omega⟩
    rw [show (-(E : Int)).toNat = 0 by omega, show (-(-(E : Int))).toNat = E by omega, Nat.pow_zero, Nat.mul_one]
    have K2 : ∀ w v, WSl w v [1] → Hid (Calls Tryd.prog 7 #[v, .int .i64 E] w fun e w' => ∃ v', e = .returned (.tuple #[v', .int .i64 0]) ∧ WBig w' v' (2 ^ E) ∧ Below w.heap.size w w') := fun w v hv => by
      have h := shiftUp_any w v [1] E hv (words_one (by decide)) (by simp) (by omega)
      rw [wval_one, Nat.one_mul] at h
      exact hide h
    have hlen : (wdig (2 ^ E)).length ≤ 20000 := by have := wdig_pow_len (b := 2) (e := E) (by decide); omega
    generalize hP : 2 ^ E = P at *
    clear hP
    have t1 : ¬ (0 : Int) ≤ -(E : Int) := by omega
    have t2 : -(E : Int) < 0 := by omega
    go_enter Tryd.func11, Tryd.ntmps11
    go_wp2_with fail
    refine (unhide K1).mono ?_
    rintro e w1 ⟨rfl, rfl⟩
    clear K1
    have q1 : WSl (w1.alloc (.cells #[.int .u32 (lo : Int), .int .u32 (hi : Int)] 30)) (.slice (some ⟨w1.heap.size, 0, none⟩) 2 2) [lo, hi] := ⟨_, _, rfl, by simp, lit_two w1 lo hi⟩
    have q1' := q1.alloc (.cells #[.int .u32 1] 30)
    have b2 : Below w1.heap.size w1 ((w1.alloc (.cells #[.int .u32 (lo : Int), .int .u32 (hi : Int)] 30)).alloc (.cells #[.int .u32 1] 30)) := ((Below.refl _ _).alloc (Nat.le_refl _) _).alloc (by rw [alloc_size]; omega) _
    have K2' := K2 _ _ (lit_one2 w1 (.cells #[.int .u32 (lo : Int), .int .u32 (hi : Int)] 30))
    clear K2 q1 c
    go_wp2_with fail
    generalize (w1.alloc (.cells #[.int .u32 (lo : Int), .int .u32 (hi : Int)] 30)).alloc (.cells #[.int .u32 1] 30) = w2 at *
    refine (unhide K2').mono ?_
    rintro e w3 ⟨v3, rfl, h3, b3⟩
    have F1 := hide (nm_big h3 hlen)
    have F2 := hide (show Nm w3 (.slice (some ⟨w1.heap.size, 0, none⟩) 2 2) n from ⟨[lo, hi], q1'.below b3, words_cons.2 ⟨hl, words_one hh⟩, by simp, unhide HS⟩)
    have bw := b2.trans (b3.mono b2.size)
    clear h3 b3 b2 q1' K2' hlen
    go_wp2
    go_ret2
    exact ⟨_, _, rfl, unhide F2, unhide F1, bw⟩
end Go.Proofs.YtobbbhmkcmbekabDoor.bigs
