/- The walks of the document's answer: isDigit, noughts, below, Decimal. -/
import Derived.Test.YtobbbhmkcmbekaaDoorFloatMore
set_option linter.unusedVariables false
namespace Go.Proofs.YtobbbhmkcmbekaaDoor.bigs
open Go.RowKit

set_option maxHeartbeats 2000000 in
theorem isDigit_past (w : World) (s : ByteArray) (i : Nat) (hs : s.size ≤ 1000000) (h : s.size ≤ i) (hi : i ≤ 1000000) :
    Calls Tryd.prog 37 #[.string s, .int .i64 i] w fun e w' => e = .returned (.bool false) ∧ w' = w := by
  have t : ¬ (i : Int) < (s.size : Int) := by omega
  go_enter Tryd.func37, Tryd.ntmps37
  go_wp2
  go_ret
  exact ⟨rfl, rfl⟩
set_option maxHeartbeats 2000000 in
theorem isDigit_in (w : World) (s : ByteArray) (i : Nat) (hs : s.size ≤ 1000000) (h : i < s.size) (b : Bool) (hb : Hid (b = true ↔ (48 ≤ (s[i]'h).toNat ∧ (s[i]'h).toNat ≤ 57))) :
    Calls Tryd.prog 37 #[.string s, .int .i64 i] w fun e w' => e = .returned (.bool b) ∧ w' = w := by
  have t : (i : Int) < (s.size : Int) := by omega
  have t0 : (0 : Int) ≤ (i : Int) := by omega
  by_cases h1 : 48 ≤ (s[i]'h).toNat
  · by_cases h2 : (s[i]'h).toNat ≤ 57
    · rw [hb.out.2 ⟨h1, h2⟩]
      have t3 : decide ((((s[i]'h).toNat : Nat) : Int) ≤ 57) = true := decide_eq_true (by omega)
      go_enter Tryd.func37, Tryd.ntmps37
      go_wp2
      go_ret
      exact ⟨rfl, rfl⟩
    · rw [show b = false from Bool.eq_false_iff.2 (fun e => h2 (hb.out.1 e).2)]
      have t3 : decide ((((s[i]'h).toNat : Nat) : Int) ≤ 57) = false := decide_eq_false (by omega)
      go_enter Tryd.func37, Tryd.ntmps37
      go_wp2
      go_ret
      exact ⟨rfl, rfl⟩
  · rw [show b = false from Bool.eq_false_iff.2 (fun e => h1 (hb.out.1 e).1)]
    go_enter Tryd.func37, Tryd.ntmps37
    go_wp2
    go_ret
    exact ⟨rfl, rfl⟩

/-- A text of noughts. -/
def zeros (n : Nat) : ByteArray := ⟨(List.replicate n 48).toArray⟩
theorem zeros_next (n : Nat) : zeros n ++ (⟨#[48]⟩ : ByteArray) = zeros (n + 1) := by
  apply ByteArray.ext
  rw [ByteArray.data_append]
  apply Array.toList_inj.1
  simp [zeros, List.replicate_succ']
theorem zeros_size (n : Nat) : (zeros n).size = n := by
  show (List.replicate n (48 : UInt8)).toArray.size = n
  simp

set_option maxHeartbeats 4000000 in
set_option maxRecDepth 100000 in
theorem noughts_any (w : World) (n : Nat) (hn : n ≤ 100000) :
    Calls Tryd.prog 21 #[.int .i64 n] w fun e w' => e = .returned (.string (zeros n)) ∧ Below w.heap.size w w' := by
  go_enter Tryd.func21, Tryd.ntmps21
  go_wp2
  go_loopw [3, 5] (fun vs vk wr => ∃ (k : Nat) (t : ByteArray), vs = .string t ∧ Hid (t = zeros k) ∧ vk = .int .i64 k ∧ k ≤ n ∧ t.size = k ∧ Below w.heap.size w wr) (fun _ vk _ => n - (intOf vk).toNat)
  case atStart => exact ⟨0, ⟨#[]⟩, rfl, rfl, rfl, Nat.zero_le _, rfl, Below.refl _ _⟩
  case round =>
    obtain ⟨k, t, rfl, ht, rfl, hk, hts, hbw⟩ := hrel
    by_cases hlt : k < n
    · have h2 : Hid (t ++ (⟨#[48]⟩ : ByteArray) = zeros (k + 1)) := by show _ = _; rw [ht.out, zeros_next]
      have hs2 : (t ++ (⟨#[48]⟩ : ByteArray)).size = k + 1 := by rw [h2.out, zeros_size]
      have i1 : (k : Int) < (n : Int) := by omega
      go_wp2
      go_roundw
      case rel => exact ⟨k + 1, t ++ (⟨#[48]⟩ : ByteArray), rfl, h2, by go_num, by omega, hs2, hbw⟩
      case measure => simp only [intOf]; omega
    · have hkn : k = n := by omega
      have HE : Hid (t = zeros n) := by show _ = _; rw [ht.out, hkn]
      have i1 : ¬ (k : Int) < (n : Int) := by omega
      clear hkn ht
      go_wp2
      go_ret
      rw [HE.out]
      exact ⟨rfl, hbw⟩

/-- The text of a number up to 0, by its distance. -/
theorem conv_digit (x : Nat) (w : World) :
    (convert 73 9 (.slice (some ⟨w.heap.size, 0, none⟩) 1 1)).run Tryd.prog (w.alloc (.cells #[.int .u8 (48 + (x : Int) % 10)] 5)) = .ok (.string ⟨#[UInt8.ofNat (48 + x % 10)]⟩) (w.alloc (.cells #[.int .u8 (48 + (x : Int) % 10)] 5)) := conv_one x w
theorem toDec_one {n : Nat} (h0 : n ≠ 0) (h : n < 10) : toDec n = [UInt8.ofNat (48 + n % 10)] := by
  rw [toDec_pos h0, Nat.div_eq_of_lt h, toDec_zero]
  rfl
theorem decs_one {n : Nat} (h : n < 10) : (⟨#[UInt8.ofNat (48 + n % 10)]⟩ : ByteArray) = ⟨(decs n).toArray⟩ := by
  unfold decs
  by_cases h0 : n = 0
  · subst h0; rfl
  · rw [if_neg h0, toDec_one h0 h]
theorem decs_more {n : Nat} (h : 10 ≤ n) : (⟨(decs (n / 10)).toArray⟩ : ByteArray) ++ (⟨#[UInt8.ofNat (48 + n % 10)]⟩ : ByteArray) = ⟨(decs n).toArray⟩ := by
  have h1 : n / 10 ≠ 0 := by omega
  have h2 : n ≠ 0 := by omega
  apply ByteArray.ext
  rw [ByteArray.data_append]
  apply Array.toList_inj.1
  unfold decs
  rw [if_neg h1, if_neg h2, toDec_pos h2]
  simp

theorem toDec_small (n : Nat) : (toDec n).length ≤ n := by
  induction n using Nat.strongRecOn with
  | ind n ih =>
    by_cases h0 : n = 0
    · subst h0; rw [toDec_zero]; simp
    · rw [toDec_pos h0, List.length_append, List.length_singleton]
      have := ih (n / 10) (by omega)
      omega
theorem decs_small {n : Nat} (h : n ≤ 1000000) : (⟨(decs n).toArray⟩ : ByteArray).size ≤ 1000001 := by
  show (decs n).toArray.size ≤ _
  rw [List.size_toArray]
  unfold decs
  by_cases h0 : n = 0
  · rw [if_pos h0]; simp
  · rw [if_neg h0]
    have := toDec_small n
    omega

set_option maxHeartbeats 4000000 in
set_option maxRecDepth 100000 in
theorem below_any (n : Nat) : ∀ (w : World), n ≤ 1000000 →
    Calls Tryd.prog 51 #[.int .i64 (-(n : Int))] w fun e w' => e = .returned (.string ⟨(decs n).toArray⟩) ∧ Below w.heap.size w w' := by
  induction n using Nat.strongRecOn with
  | ind n ih =>
    intro w hn
    have q1 : Int.tmod (-(n : Int)) 10 = -((n % 10 : Nat) : Int) := by rw [Int.neg_tmod, Int.tmod_eq_emod_of_nonneg (by omega)]; simp
    have q2 : Int.tdiv (-(n : Int)) 10 = -((n / 10 : Nat) : Int) := by rw [Int.neg_tdiv]; simp
    have hb : Below w.heap.size w (w.alloc (.cells #[.int .u8 (48 + (n : Int) % 10)] 5)) := (Below.refl _ w).alloc (Nat.le_refl _) _
    have hcv := conv_digit n w
    have q3 : ((n % 10 : Nat) : Int) = (n : Int) % 10 := by omega
    by_cases h10 : n < 10
    · have i1 : (-10 : Int) < -(n : Int) := by omega
      rw [decs_one h10] at hcv
      go_enter Tryd.func51, Tryd.ntmps51
      go_wp2
      go_ret
      exact ⟨rfl, hb⟩
    · have i1 : ¬ (-10 : Int) < -(n : Int) := by omega
      have K := hide (ih (n / 10) (by omega) (w.alloc (.cells #[.int .u8 (48 + (n : Int) % 10)] 5)) (by omega))
      have HE := hide (decs_more (show 10 ≤ n by omega))
      have hl1 := hide (decs_small (show n / 10 ≤ 1000000 by omega))
      clear ih
      have hs2 : (⟨#[UInt8.ofNat (48 + n % 10)]⟩ : ByteArray).size = 1 := rfl
      generalize (⟨#[UInt8.ofNat (48 + n % 10)]⟩ : ByteArray) = t2 at *
      go_enter Tryd.func51, Tryd.ntmps51
      go_wp2_with fail
      refine (unhide K).mono ?_
      rintro e w2 ⟨rfl, b2⟩
      have hl2 : (⟨(decs (n / 10)).toArray⟩ : ByteArray).size ≤ 1000001 := unhide hl1
      generalize (⟨(decs (n / 10)).toArray⟩ : ByteArray) = t1 at *
      go_wp2
      go_ret
      rw [← unhide HE]
      exact ⟨rfl, hb.trans (b2.mono hb.size)⟩

set_option maxHeartbeats 4000000 in
set_option maxRecDepth 100000 in
theorem decimal_up (w : World) (n : Nat) (hn : n ≤ 1000000) :
    Calls Tryd.prog 22 #[.int .i64 n] w fun e w' => e = .returned (.string ⟨(decs n).toArray⟩) ∧ Below w.heap.size w w' := by
  have K := hide (below_any n w hn)
  have i1 : ¬ (n : Int) < 0 := by omega
  go_enter Tryd.func22, Tryd.ntmps22
  go_wp2_with fail
  refine (unhide K).mono ?_
  rintro e w1 ⟨rfl, b1⟩
  go_wp2
  go_ret
  exact ⟨rfl, b1⟩
set_option maxHeartbeats 4000000 in
set_option maxRecDepth 100000 in
theorem decimal_down (w : World) (n : Nat) (hn : n ≤ 1000000) (hn1 : 1 ≤ n) :
    Calls Tryd.prog 22 #[.int .i64 (-(n : Int))] w fun e w' => e = .returned (.string ((⟨#[45]⟩ : ByteArray) ++ ⟨(decs n).toArray⟩)) ∧ Below w.heap.size w w' := by
  have K := hide (below_any n w hn)
  have i1 : -(n : Int) < 0 := by omega
  have hl := decs_small hn
  generalize (⟨(decs n).toArray⟩ : ByteArray) = t at *
  go_enter Tryd.func22, Tryd.ntmps22
  go_wp2_with fail
  refine (unhide K).mono ?_
  rintro e w1 ⟨rfl, b1⟩
  go_wp2
  go_ret
  exact ⟨rfl, b1⟩
end Go.Proofs.YtobbbhmkcmbekaaDoor.bigs
