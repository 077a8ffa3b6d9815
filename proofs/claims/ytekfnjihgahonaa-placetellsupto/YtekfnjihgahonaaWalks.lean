/- The walks of package place: Of, bounds, At, Line. -/
import Derived.Test.YtekfnjihgahonaaShelf
import Derived.Test.YtekfnjihgahonaaPlain
import Derived.WalkKit
import Derived.BigCall
import Derived.OwnWalk
set_option linter.unusedVariables false
namespace Go.Proofs.Ytekfnjihgahonaa.walks
open Go.RowKit
open plain

theorem hide {p : Prop} (h : p) : Hid p := h
theorem unhide {p : Prop} (h : Hid p) : p := h

theorem len_list (s : ByteArray) : s.data.toList.length = s.size := by rw [Array.length_toList]; rfl
theorem ext_list (s : ByteArray) (a b : Nat) : (s.extract a b).data.toList = (s.data.toList.take b).drop a := by
  simp [List.drop_take]
theorem ext_front (s : ByteArray) (b : Nat) : (s.extract 0 b).data.toList = s.data.toList.take b := by rw [ext_list, List.drop_zero]
theorem ext_rear (s : ByteArray) (a : Nat) : (s.extract a s.size).data.toList = s.data.toList.drop a := by
  rw [ext_list, List.take_of_length_le (by rw [len_list]; exact Nat.le_refl _)]

/-- Of at a place of the text. -/
theorem ofLine (s : ByteArray) (k : Nat) (hk : k ≤ s.size) : Lib.countByte (s.extract 0 k).data.toList 10 = cnt s.data.toList k := by
  rw [ext_front]; rfl
theorem ofStart (s : ByteArray) (k : Nat) (hk : k ≤ s.size) : Lib.lastIndexByte (s.extract 0 k) 10 = (front s.data.toList k : Int) - 1 := by
  have hz : (s.extract 0 k).size = k := by simp; omega
  unfold Lib.lastIndexByte
  rw [last_of _ _ (Nat.le_refl _), hz, ext_front, front_take _ _ _ (Nat.le_refl _)]

set_option maxHeartbeats 1000000 in
theorem of_in (s : ByteArray) (k : Nat) (w : World) (hs : s.size ≤ 140737488355328) (hk : k ≤ s.size) :
    Calls Try.prog 8 #[.string s, .int .i64 k] w fun e w' => e = .returned (.tuple #[.int .i64 ((cnt s.data.toList k : Nat) + 1 : Int), .int .i64 ((k : Int) - (front s.data.toList k : Nat) + 1), .int .i64 0]) ∧ w' = w := by
  have h1 := ofLine s k hk
  have h2 := ofStart s k hk
  have h3 := front_le s.data.toList k
  have h4 := cnt_le s.data.toList k
  have c1 := Try.strings_Count_one (s.extract 0 k) 10 w
  have c2 := Try.strings_LastIndexByte (s.extract 0 k) 10 (by simp; omega) w
  rw [h1] at c1
  rw [h2] at c2
  have C1 := hide c1
  have C2 := hide c2
  clear c1 c2 h1 h2
  generalize cnt s.data.toList k = n at *
  generalize front s.data.toList k = f at *
  go_enter Try.func8, Try.ntmps8
  go_wp2_with fail
  refine (unhide C1).mono ?_
  rintro e w1 ⟨rfl, rfl⟩
  go_wp2_with fail
  refine (unhide C2).mono ?_
  rintro e w1 ⟨rfl, rfl⟩
  go_wp2_with fail
  go_ret3
  refine ⟨?_, rfl⟩
  congr 1
  go_num

set_option maxHeartbeats 1000000 in
theorem of_out (s : ByteArray) (k : Int) (w : World) (hs : s.size ≤ 140737488355328) (hk : k < 0 ∨ (s.size : Int) < k) :
    Calls Try.prog 8 #[.string s, .int .i64 k] w fun e w' => e = .returned (.tuple #[.int .i64 0, .int .i64 0, .int .i64 1]) ∧ w' = w := by
  rcases hk with hk | hk
  · go_enter Try.func8, Try.ntmps8
    go_wp2
    go_ret3
    exact ⟨rfl, rfl⟩
  · have h0 : ¬ k < 0 := by omega
    go_enter Try.func8, Try.ntmps8
    go_wp2
    go_ret3
    exact ⟨rfl, rfl⟩

/-- bounds, where there is a line n. -/
theorem idx_hit (s : ByteArray) (f : Nat) (hf : f ≤ s.size) (h : rear s.data.toList f < s.size) (w : World) :
    Calls Try.prog 26 #[.string (s.extract f s.size), .int .u8 10] w fun e w' => e = .returned (.int .i64 ((rear s.data.toList f - f : Nat) : Int)) ∧ w' = w := by
  have c := Try.strings_IndexByte (s.extract f s.size) 10 w
  have e : Lib.indexByte (s.extract f s.size).data.toList (10 : Int).toNat.toUInt8 = ((rear s.data.toList f - f : Nat) : Int) := by
    rw [ext_rear]; exact index_hit (by rw [len_list]; exact hf) (by rw [len_list]; exact h)
  rwa [e] at c
theorem idx_miss (s : ByteArray) (f : Nat) (hf : f ≤ s.size) (h : rear s.data.toList f = s.size) (w : World) :
    Calls Try.prog 26 #[.string (s.extract f s.size), .int .u8 10] w fun e w' => e = .returned (.int .i64 (-1)) ∧ w' = w := by
  have c := Try.strings_IndexByte (s.extract f s.size) 10 w
  have e : Lib.indexByte (s.extract f s.size).data.toList (10 : Int).toNat.toUInt8 = -1 := by
    rw [ext_rear]; exact index_miss (by rw [len_list]; exact hf) (by rw [len_list]; exact h)
  rwa [e] at c
theorem next_st {l : List UInt8} {f i : Nat} (hf : St l f) (hc : cnt l f = i) (h : rear l f < l.length) : St l (rear l f + 1) ∧ cnt l (rear l f + 1) = i + 1 := by
  have ht : l.getD (rear l f) 0 = 10 := by rcases rear_stop hf.1 with h1 | h1; (· omega); exact h1
  refine ⟨⟨h, .inr (by simpa using ht)⟩, ?_⟩
  rw [cnt_hit h ht, cnt_gap (le_rear l f) (by omega) fun j h1 h2 => rear_free h1 h2, hc]
theorem no_next {l : List UInt8} {f i : Nat} (hf : St l f) (hc : cnt l f = i) (h : rear l f = l.length) : l.count 10 = i := by
  rw [← cnt_all, ← h, cnt_gap (le_rear l f) (by omega) fun j h1 h2 => rear_free h1 h2, hc]
theorem st_rear {l : List UInt8} {n a b : Nat} (h : Ln l n a b) : rear l a = b := by
  have h1 := ln_at (k := a) (Nat.le_trans h.ab h.bl)
  rw [h.num] at h1
  exact (ln_uniq h1 h).2

set_option maxHeartbeats 2000000 in
theorem bounds_hit (s : ByteArray) (n a b : Nat) (w : World) (hs : s.size ≤ 140737488355328) (hL : Ln s.data.toList n a b) :
    Calls Try.prog 18 #[.string s, .int .i64 n] w fun e w' => e = .returned (.tuple #[.int .i64 a, .int .i64 b, .bool true]) ∧ w' = w := by
  have hn := hL.num
  have hab := hL.ab
  have hbl := hL.bl
  have hle := hL.le
  rw [len_list] at hbl
  have hcl : s.data.toList.count 10 ≤ s.size := by
    have := cnt_le s.data.toList s.size
    rwa [← len_list s, cnt_all, len_list s] at this
  have HL := hide hL
  clear hL
  go_enter Try.func18, Try.ntmps18
  go_wp2
  go_loopw [7, 14] (fun f i wr => ∃ p k : Nat, f = .int .i64 p ∧ i = .int .i64 k ∧ k + 1 ≤ n ∧ p ≤ s.size ∧ Hid (St s.data.toList p ∧ cnt s.data.toList p = k) ∧ wr = w) (fun _ i _ => n - (intOf i).toNat)
  case atStart => exact ⟨0, 0, rfl, rfl, by omega, by omega, ⟨⟨Nat.zero_le _, .inl rfl⟩, cnt_zero _⟩, rfl⟩
  case round =>
    obtain ⟨p, k, rfl, rfl, hk, hp, hst, rfl⟩ := hrel
    by_cases hlt : k + 1 < n
    · have hr : rear s.data.toList p < s.size := by
        have h1 := rear_le hst.out.1.1
        rw [len_list] at h1
        have h2 : rear s.data.toList p ≠ s.size := fun e => by
          have := no_next hst.out.1 hst.out.2 (by rw [len_list]; exact e)
          omega
        omega
      have hge := le_rear s.data.toList p
      have C := hide (idx_hit s p hp hr wr)
      have hnx : Hid (St s.data.toList (rear s.data.toList p + 1) ∧ cnt s.data.toList (rear s.data.toList p + 1) = k + 1) := next_st hst.out.1 hst.out.2 (by rw [len_list]; exact hr)
      generalize rear s.data.toList p = r at *
      go_wp2_with fail
      refine (unhide C).mono ?_
      rintro e w1 ⟨rfl, rfl⟩
      go_wp2
      go_roundw
      case rel => exact ⟨r + 1, k + 1, by go_num, by go_num, by omega, by omega, hnx, by trivial⟩
      case measure => simp only [intOf]; omega
    · have hkn : k + 1 = n := by omega
      have hpa : p = a := st_inj hst.out.1 HL.out.st (by have := hst.out.2; omega)
      have hrb : rear s.data.toList a = b := st_rear HL.out
      subst hpa
      clear hst
      by_cases hb : b = s.size
      · have C := hide (idx_miss s p hp (by rw [hrb]; exact hb) wr)
        clear hrb
        go_wp2_with fail
        refine (unhide C).mono ?_
        rintro e w1 ⟨rfl, rfl⟩
        go_wp2
        go_ret3
        rw [hb]
        exact ⟨rfl, rfl⟩
      · have C := hide (idx_hit s p hp (by rw [hrb]; omega) wr)
        rw [hrb] at C
        clear hrb
        go_wp2_with fail
        refine (unhide C).mono ?_
        rintro e w1 ⟨rfl, rfl⟩
        go_wp2
        go_ret3
        refine ⟨?_, rfl⟩
        congr 1
        go_num

set_option maxHeartbeats 2000000 in
theorem bounds_miss (s : ByteArray) (n : Int) (w : World) (hs : s.size ≤ 140737488355328) (h1 : n ≤ 9223372036854775807) (hn : n < 1 ∨ (s.data.toList.count 10 : Int) + 1 < n) :
    Calls Try.prog 18 #[.string s, .int .i64 n] w fun e w' => e = .returned (.tuple #[.int .i64 0, .int .i64 0, .bool false]) ∧ w' = w := by
  rcases hn with hn | hn
  · go_enter Try.func18, Try.ntmps18
    go_wp2
    go_ret3
    exact ⟨rfl, rfl⟩
  · have h0 : ¬ n < 1 := by omega
    go_enter Try.func18, Try.ntmps18
    go_wp2
    go_loopw [7, 14] (fun f i wr => ∃ p k : Nat, f = .int .i64 p ∧ i = .int .i64 k ∧ k ≤ s.data.toList.count 10 ∧ p ≤ s.size ∧ Hid (St s.data.toList p ∧ cnt s.data.toList p = k) ∧ wr = w) (fun _ i _ => s.data.toList.count 10 + 1 - (intOf i).toNat)
    case atStart => exact ⟨0, 0, rfl, rfl, by omega, by omega, ⟨⟨Nat.zero_le _, .inl rfl⟩, cnt_zero _⟩, rfl⟩
    case round =>
      obtain ⟨p, k, rfl, rfl, hk, hp, hst, rfl⟩ := hrel
      by_cases hr : rear s.data.toList p < s.size
      · have hge := le_rear s.data.toList p
        have C := hide (idx_hit s p hp hr wr)
        have hnx : Hid (St s.data.toList (rear s.data.toList p + 1) ∧ cnt s.data.toList (rear s.data.toList p + 1) = k + 1) := next_st hst.out.1 hst.out.2 (by rw [len_list]; exact hr)
        have hk2 : k + 1 ≤ s.data.toList.count 10 := by
          have h2 := cnt_mono s.data.toList hnx.out.1.1
          rw [hnx.out.2, cnt_all] at h2
          exact h2
        generalize rear s.data.toList p = r at *
        go_wp2_with fail
        refine (unhide C).mono ?_
        rintro e w1 ⟨rfl, rfl⟩
        go_wp2
        go_roundw
        case rel => exact ⟨r + 1, k + 1, by go_num, by go_num, by omega, by omega, hnx, by trivial⟩
        case measure => simp only [intOf]; omega
      · have hre : rear s.data.toList p = s.size := by
          have h1 := rear_le hst.out.1.1
          rw [len_list] at h1
          omega
        have C := hide (idx_miss s p hp hre wr)
        clear hr hre
        go_wp2_with fail
        refine (unhide C).mono ?_
        rintro e w1 ⟨rfl, rfl⟩
        go_wp2
        go_ret3
        exact ⟨rfl, rfl⟩

set_option maxHeartbeats 1000000 in
theorem at_in (s : ByteArray) (n a b : Nat) (col : Int) (w : World) (hs : s.size ≤ 140737488355328) (hL : Ln s.data.toList n a b) (h1 : 1 ≤ col) (h2 : col ≤ (b : Int) - a + 1) :
    Calls Try.prog 11 #[.string s, .int .i64 n, .int .i64 col] w fun e w' => e = .returned (.tuple #[.int .i64 ((a : Int) + col - 1), .int .i64 0]) ∧ w' = w := by
  have C := hide (bounds_hit s n a b w hs hL)
  have hab := hL.ab
  have hbl := hL.bl
  rw [len_list] at hbl
  clear hL
  have t1 : ¬ col < 1 := by omega
  have t2 : ¬ ((b : Int) - a < col - 1) := by omega
  go_enter Try.func11, Try.ntmps11
  go_wp2_with fail
  refine (unhide C).mono ?_
  rintro e w1 ⟨rfl, rfl⟩
  go_wp2
  go_ret2
  refine ⟨?_, rfl⟩
  congr 1
set_option maxHeartbeats 1000000 in
theorem at_out (s : ByteArray) (n a b : Nat) (col : Int) (w : World) (hs : s.size ≤ 140737488355328) (hL : Ln s.data.toList n a b) (h0 : col ≤ 9223372036854775807) (h1 : col < 1 ∨ (b : Int) - a + 1 < col) :
    Calls Try.prog 11 #[.string s, .int .i64 n, .int .i64 col] w fun e w' => e = .returned (.tuple #[.int .i64 0, .int .i64 1]) ∧ w' = w := by
  have C := hide (bounds_hit s n a b w hs hL)
  have hab := hL.ab
  have hbl := hL.bl
  rw [len_list] at hbl
  clear hL
  rcases h1 with h1 | h1
  · go_enter Try.func11, Try.ntmps11
    go_wp2_with fail
    refine (unhide C).mono ?_
    rintro e w1 ⟨rfl, rfl⟩
    go_wp2
    go_ret2
    exact ⟨rfl, rfl⟩
  · have t1 : ¬ col < 1 := by omega
    have t2 : (b : Int) - a < col - 1 := by omega
    go_enter Try.func11, Try.ntmps11
    go_wp2_with fail
    refine (unhide C).mono ?_
    rintro e w1 ⟨rfl, rfl⟩
    go_wp2
    go_ret2
    exact ⟨rfl, rfl⟩
set_option maxHeartbeats 1000000 in
theorem at_none (s : ByteArray) (n col : Int) (w : World) (hs : s.size ≤ 140737488355328) (h1 : n ≤ 9223372036854775807) (hn : n < 1 ∨ (s.data.toList.count 10 : Int) + 1 < n) :
    Calls Try.prog 11 #[.string s, .int .i64 n, .int .i64 col] w fun e w' => e = .returned (.tuple #[.int .i64 0, .int .i64 1]) ∧ w' = w := by
  have C := hide (bounds_miss s n w hs h1 hn)
  clear hn
  go_enter Try.func11, Try.ntmps11
  go_wp2_with fail
  refine (unhide C).mono ?_
  rintro e w1 ⟨rfl, rfl⟩
  go_wp2
  go_ret2
  exact ⟨rfl, rfl⟩

set_option maxHeartbeats 1000000 in
theorem line_in (s : ByteArray) (n a b : Nat) (w : World) (hs : s.size ≤ 140737488355328) (hL : Ln s.data.toList n a b) :
    Calls Try.prog 12 #[.string s, .int .i64 n] w fun e w' => e = .returned (.tuple #[.string (s.extract a b), .int .i64 0]) ∧ w' = w := by
  have C := hide (bounds_hit s n a b w hs hL)
  have hab := hL.ab
  have hbl := hL.bl
  rw [len_list] at hbl
  clear hL
  go_enter Try.func12, Try.ntmps12
  go_wp2_with fail
  refine (unhide C).mono ?_
  rintro e w1 ⟨rfl, rfl⟩
  go_wp2
  go_ret2
  exact ⟨rfl, rfl⟩
set_option maxHeartbeats 1000000 in
theorem line_none (s : ByteArray) (n : Int) (w : World) (hs : s.size ≤ 140737488355328) (h1 : n ≤ 9223372036854775807) (hn : n < 1 ∨ (s.data.toList.count 10 : Int) + 1 < n) :
    Calls Try.prog 12 #[.string s, .int .i64 n] w fun e w' => e = .returned (.tuple #[.string ⟨#[]⟩, .int .i64 1]) ∧ w' = w := by
  have C := hide (bounds_miss s n w hs h1 hn)
  clear hn
  go_enter Try.func12, Try.ntmps12
  go_wp2_with fail
  refine (unhide C).mono ?_
  rintro e w1 ⟨rfl, rfl⟩
  go_wp2
  go_ret2
  exact ⟨rfl, rfl⟩
end Go.Proofs.Ytekfnjihgahonaa.walks
