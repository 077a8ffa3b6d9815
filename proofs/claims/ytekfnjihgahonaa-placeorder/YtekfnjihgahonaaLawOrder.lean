/- The walks of the laws that places and their lines and columns are found from each other, and stand in one order. -/
import Derived.Test.YtekfnjihgahonaaStarts
set_option linter.unusedVariables false
namespace Go.Proofs.Ytekfnjihgahonaa.walks
open Go.RowKit
open plain

/-- What stands later has no lesser line, and in one line a greater column. -/
theorem later {l : List UInt8} {a b : Nat} (h : a < b) (hb : b ≤ l.length) : cnt l a < cnt l b ∨ cnt l a = cnt l b ∧ front l a = front l b := by
  have h1 := cnt_mono l (Nat.le_of_lt h)
  by_cases e : cnt l a = cnt l b
  · refine .inr ⟨e, ?_⟩
    have L1 := ln_at (l := l) (k := a) (by omega)
    have L2 := ln_at hb
    rw [e] at L1
    exact (ln_uniq L1 L2).1
  · exact .inl (by omega)

set_option maxHeartbeats 2000000 in
theorem lawOrder (s : ByteArray) (a b : Int) (w : World) (hs : s.size ≤ 140737488355328) :
    Calls Try.prog 6 #[.string s, .int .i64 a, .int .i64 b] w fun e w' => e = .returned (.bool true) ∧ Below w.heap.size w w' := by
  have C := hide (places_any w)
  by_cases h1 : a < 0
  · go_enter Try.func6, Try.ntmps6
    go_wp2_with fail
    refine (unhide C).mono ?_
    rintro e w1 ⟨rfl, b1⟩
    go_wp2
    go_ret
    exact ⟨rfl, b1⟩
  · by_cases h2 : b ≤ a
    · go_enter Try.func6, Try.ntmps6
      go_wp2_with fail
      refine (unhide C).mono ?_
      rintro e w1 ⟨rfl, b1⟩
      go_wp2
      go_ret
      exact ⟨rfl, b1⟩
    · by_cases h3 : (s.size : Int) < b
      · go_enter Try.func6, Try.ntmps6
        go_wp2_with fail
        refine (unhide C).mono ?_
        rintro e w1 ⟨rfl, b1⟩
        go_wp2
        go_ret
        exact ⟨rfl, b1⟩
      · obtain ⟨i, rfl⟩ : ∃ i : Nat, a = i := ⟨a.toNat, by omega⟩
        obtain ⟨j, rfl⟩ : ∃ j : Nat, b = j := ⟨b.toNat, by omega⟩
        have hl := later (l := s.data.toList) (a := i) (b := j) (by omega) (by rw [len_list]; omega)
        have C1 : ∀ w, Hid _ := fun w => hide (of_in s i w hs (by omega))
        have C2 : ∀ w, Hid _ := fun w => hide (of_in s j w hs (by omega))
        have f1 := front_le s.data.toList i
        have f2 := front_le s.data.toList j
        have g1 := cnt_le s.data.toList i
        have g2 := cnt_le s.data.toList j
        generalize cnt s.data.toList i = ci at *
        generalize cnt s.data.toList j = cj at *
        generalize front s.data.toList i = fi at *
        generalize front s.data.toList j = fj at *
        rcases hl with hl | ⟨hl, hf⟩
        · go_enter Try.func6, Try.ntmps6
          go_wp2_with fail
          refine (unhide C).mono ?_
          rintro e w1 ⟨rfl, b1⟩
          go_wp2_with fail
          refine (unhide (C1 _)).mono ?_
          rintro e w2 ⟨rfl, rfl⟩
          go_wp2_with fail
          refine (unhide (C2 _)).mono ?_
          rintro e w2 ⟨rfl, rfl⟩
          go_wp2
          go_ret
          exact ⟨rfl, b1⟩
        · subst hl
          subst hf
          go_enter Try.func6, Try.ntmps6
          go_wp2_with fail
          refine (unhide C).mono ?_
          rintro e w1 ⟨rfl, b1⟩
          go_wp2_with fail
          refine (unhide (C1 _)).mono ?_
          rintro e w2 ⟨rfl, rfl⟩
          go_wp2_with fail
          refine (unhide (C2 _)).mono ?_
          rintro e w2 ⟨rfl, rfl⟩
          go_wp2
          go_ret
          exact ⟨rfl, b1⟩

/-- At answers by one of three ways. -/
theorem at_ways (s : ByteArray) (n col : Int) (hs : s.size ≤ 140737488355328) (h1 : n ≤ 9223372036854775807) (h2 : col ≤ 9223372036854775807) :
    (∃ k : Nat, k ≤ s.size ∧ (cnt s.data.toList k : Int) + 1 = n ∧ (k : Int) - (front s.data.toList k : Nat) + 1 = col ∧ ∀ w, Calls Try.prog 11 #[.string s, .int .i64 n, .int .i64 col] w fun e w' => e = .returned (.tuple #[.int .i64 k, .int .i64 0]) ∧ w' = w) ∨
    ∀ w, Calls Try.prog 11 #[.string s, .int .i64 n, .int .i64 col] w fun e w' => e = .returned (.tuple #[.int .i64 0, .int .i64 1]) ∧ w' = w := by
  by_cases h : n < 1 ∨ (s.data.toList.count 10 : Int) + 1 < n
  · exact .inr fun w => at_none s n col w hs h1 h
  · obtain ⟨m, rfl⟩ : ∃ m : Nat, n = m := ⟨n.toNat, by omega⟩
    obtain ⟨a, b, hL⟩ := ln_exists (l := s.data.toList) (n := m) (by omega) (by omega)
    by_cases hc : col < 1 ∨ (b : Int) - a + 1 < col
    · exact .inr fun w => at_out s m a b col w hs hL h2 hc
    · have hab := hL.ab
      have hbl := hL.bl
      rw [len_list] at hbl
      obtain ⟨k, hk⟩ : ∃ k : Nat, (k : Int) = (a : Int) + col - 1 := ⟨((a : Int) + col - 1).toNat, by omega⟩
      refine .inl ⟨k, by omega, ?_, ?_, fun w => ?_⟩
      · have := hL.inside (k := k) (by omega) (by omega)
        omega
      · have e := hL.inside (k := k) (by omega) (by omega)
        have L2 := ln_at (l := s.data.toList) (k := k) (by rw [len_list]; omega)
        rw [e] at L2
        have := (ln_uniq hL L2).1
        omega
      · have c := at_in s m a b col w hs hL (by omega) (by omega)
        rwa [← hk] at c
theorem at_of (s : ByteArray) (k : Nat) (hs : s.size ≤ 140737488355328) (hk : k ≤ s.size) (w : World) :
    Calls Try.prog 11 #[.string s, .int .i64 ((cnt s.data.toList k : Nat) + 1 : Int), .int .i64 ((k : Int) - (front s.data.toList k : Nat) + 1)] w fun e w' => e = .returned (.tuple #[.int .i64 k, .int .i64 0]) ∧ w' = w := by
  have f1 := front_le s.data.toList k
  have f2 := le_rear s.data.toList k
  have L := ln_at (l := s.data.toList) (k := k) (by rw [len_list]; exact hk)
  have c := at_in s _ _ _ ((k : Int) - (front s.data.toList k : Nat) + 1) w hs L (by omega) (by omega)
  have e1 : ((cnt s.data.toList k + 1 : Nat) : Int) = (cnt s.data.toList k : Nat) + 1 := by omega
  have e2 : ((front s.data.toList k : Nat) : Int) + ((k : Int) - (front s.data.toList k : Nat) + 1) - 1 = k := by omega
  rwa [e1, e2] at c

set_option maxHeartbeats 2000000 in
theorem lawBack (s : ByteArray) (at_ line col : Int) (w : World) (hs : s.size ≤ 140737488355328) (h1 : line ≤ 9223372036854775807) (h2 : col ≤ 9223372036854775807) :
    Calls Try.prog 4 #[.string s, .int .i64 at_, .int .i64 line, .int .i64 col] w fun e w' => e = .returned (.bool true) ∧ Below w.heap.size w w' := by
  have C := hide (places_any w)
  by_cases h0 : at_ < 0 ∨ (s.size : Int) < at_
  · have C1 : ∀ w, Hid _ := fun w => hide (of_out s at_ w hs h0)
    clear h0
    rcases at_ways s line col hs h1 h2 with ⟨k, hk, e1, e2, c2⟩ | c2
    · have C2 : ∀ w, Hid _ := fun w => hide (c2 w)
      have C3 : ∀ w, Hid _ := fun w => hide (of_in s k w hs hk)
      rw [e1, e2] at C3
      clear e1 e2 c2
      go_enter Try.func4, Try.ntmps4
      go_wp2_with fail
      refine (unhide C).mono ?_
      rintro e w1 ⟨rfl, b1⟩
      go_wp2_with fail
      refine (unhide (C1 _)).mono ?_
      rintro e w2 ⟨rfl, rfl⟩
      go_wp2_with fail
      refine (unhide (C2 _)).mono ?_
      rintro e w2 ⟨rfl, rfl⟩
      go_wp2_with fail
      refine (unhide (C3 _)).mono ?_
      rintro e w2 ⟨rfl, rfl⟩
      go_wp2
      go_ret
      exact ⟨rfl, b1⟩
    · have C2 : ∀ w, Hid _ := fun w => hide (c2 w)
      clear c2
      go_enter Try.func4, Try.ntmps4
      go_wp2_with fail
      refine (unhide C).mono ?_
      rintro e w1 ⟨rfl, b1⟩
      go_wp2_with fail
      refine (unhide (C1 _)).mono ?_
      rintro e w2 ⟨rfl, rfl⟩
      go_wp2_with fail
      refine (unhide (C2 _)).mono ?_
      rintro e w2 ⟨rfl, rfl⟩
      go_wp2
      go_ret
      exact ⟨rfl, b1⟩
  · obtain ⟨p, rfl⟩ : ∃ p : Nat, at_ = p := ⟨at_.toNat, by omega⟩
    have C1 : ∀ w, Hid _ := fun w => hide (of_in s p w hs (by omega))
    have C4 : ∀ w, Hid _ := fun w => hide (at_of s p hs (by omega) w)
    generalize cnt s.data.toList p = cp at *
    generalize front s.data.toList p = fp at *
    clear h0
    rcases at_ways s line col hs h1 h2 with ⟨k, hk, e1, e2, c2⟩ | c2
    · have C2 : ∀ w, Hid _ := fun w => hide (c2 w)
      have C3 : ∀ w, Hid _ := fun w => hide (of_in s k w hs hk)
      rw [e1, e2] at C3
      clear e1 e2 c2
      go_enter Try.func4, Try.ntmps4
      go_wp2_with fail
      refine (unhide C).mono ?_
      rintro e w1 ⟨rfl, b1⟩
      go_wp2_with fail
      refine (unhide (C1 _)).mono ?_
      rintro e w2 ⟨rfl, rfl⟩
      go_wp2_with fail
      refine (unhide (C4 _)).mono ?_
      rintro e w2 ⟨rfl, rfl⟩
      go_wp2_with fail
      refine (unhide (C2 _)).mono ?_
      rintro e w2 ⟨rfl, rfl⟩
      go_wp2_with fail
      refine (unhide (C3 _)).mono ?_
      rintro e w2 ⟨rfl, rfl⟩
      go_wp2
      go_ret
      exact ⟨rfl, b1⟩
    · have C2 : ∀ w, Hid _ := fun w => hide (c2 w)
      clear c2
      go_enter Try.func4, Try.ntmps4
      go_wp2_with fail
      refine (unhide C).mono ?_
      rintro e w1 ⟨rfl, b1⟩
      go_wp2_with fail
      refine (unhide (C1 _)).mono ?_
      rintro e w2 ⟨rfl, rfl⟩
      go_wp2_with fail
      refine (unhide (C4 _)).mono ?_
      rintro e w2 ⟨rfl, rfl⟩
      go_wp2_with fail
      refine (unhide (C2 _)).mono ?_
      rintro e w2 ⟨rfl, rfl⟩
      go_wp2
      go_ret
      exact ⟨rfl, b1⟩
end Go.Proofs.Ytekfnjihgahonaa.walks
