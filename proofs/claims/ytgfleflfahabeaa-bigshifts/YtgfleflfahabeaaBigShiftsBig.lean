/- The walk of the law that Shift, Pow, Text and Read answer what the document says, by what each call answers: Big. -/
import Derived.Test.YtgfleflfahabeaaBigShifts0
set_option linter.unusedVariables false
namespace Go.Proofs.Ytgfleflfahabeaa.bigs
open Go.RowKit

set_option maxHeartbeats 16000000 in
set_option maxRecDepth 100000 in
theorem shiftsBigLong (D : Face2) (w : World) (a : Option Addr) (ca : Nat) (l : List Nat) (b : Nat) (s : ByteArray) (hl : l.length ≤ 40) (hca : l.length ≤ ca) (hb : b < 4294967296) (sl : Words32 l) (ra : RowU w a l) (n : Int) (hn : 4000 < n) (hn2 : n ≤ 9223372036854775807) (hs : 1000 < s.size) (hs2 : s.size ≤ 140737488355328) :
    Calls Try.prog 4 #[.slice a l.length ca, .int .i64 n, .int .u32 b, .string s] w fun e w' => e = .returned (.bool true) ∧ Below w.heap.size w w' := by
  have lm := wval_len sl
  have hA : WSl w (.slice a l.length ca) l := ⟨a, ca, rfl, hca, ra⟩
  have K1 : ∀ u v, WSl u v l → Hid _ := fun u v h => hide (ofWords_big u v l (by omega) sl h)
  have K2 : ∀ u v, WSl u v l → Hid _ := fun u v h => hide (D.shiftLarge u v l n h sl (by omega) hn hn2)
  have K3 : ∀ u, Hid _ := fun u => hide (D.powLarge u b n hb (by omega))
  have K4 : ∀ u v, WSl u v l → Hid _ := fun u v h => hide (D.text u v l h sl (by omega))
  have K5 : ∀ u, Hid _ := fun u => hide (D.readLarge u s hs hs2)
  have bw := Below.refl w.heap.size w
  generalize wval l = m at *
  clear ra D
  have t50 : (1000 : Int) < (s.size : Int) := by omega
  have u1 : (4000 : Int) < n := hn
  have u2 : ¬ n < 0 := by omega
  have u3 : (1000 : Int) < n := by omega
  go_enter Try.func4, Try.ntmps4
  go_wp2_with fail
  refine (unhide (K1 _ _ hA)).mono ?_
  rintro e w1 ⟨vx, rfl, hX, b1⟩
  replace hA := hA.below b1
  replace bw := bw.trans (b1.mono bw.size)
  clear b1
  go_wp2_with fail
  refine (unhide (K2 _ _ hA)).mono ?_
  rintro e w2 ⟨a2, c2, rfl, b2⟩
  replace hA := hA.below b2
  replace hX := hX.below b2
  replace bw := bw.trans (b2.mono bw.size)
  clear b2
  go_wp2_with fail
  refine (unhide (K3 _)).mono ?_
  rintro e w3 ⟨a8, c8, rfl, b3⟩
  replace hA := hA.below b3
  replace hX := hX.below b3
  replace bw := bw.trans (b3.mono bw.size)
  clear b3
  go_wp2_with fail
  refine (unhide (K5 _)).mono ?_
  rintro e w4 ⟨ay, cy, rfl, b4⟩
  replace hA := hA.below b4
  replace hX := hX.below b4
  replace bw := bw.trans (b4.mono bw.size)
  clear b4
  go_wp2_with fail
  refine (unhide (K4 _ _ hA)).mono ?_
  rintro e w5 ⟨rfl, b5⟩
  replace hA := hA.below b5
  replace hX := hX.below b5
  replace bw := bw.trans (b5.mono bw.size)
  clear b5
  go_wp2_with fail
  refine (digits_any _ _ m (by omega) hX).mono ?_
  rintro e w6 ⟨rfl, b6⟩
  replace hA := hA.below b6
  replace hX := hX.below b6
  replace bw := bw.trans (b6.mono bw.size)
  clear b6
  go_wp2
  go_ret
  exact ⟨rfl, bw⟩

set_option maxHeartbeats 16000000 in
set_option maxRecDepth 100000 in
theorem shiftsBigNum (D : Face2) (w : World) (a : Option Addr) (ca : Nat) (l : List Nat) (b : Nat) (s : ByteArray) (hl : l.length ≤ 40) (hca : l.length ≤ ca) (hb : b < 4294967296) (sl : Words32 l) (ra : RowU w a l) (n : Int) (hn : 4000 < n) (hn2 : n ≤ 9223372036854775807) (hs : s.size ≤ 1000) (hf : Form s.data.toList) (h0 : 0 < s.size) (h48 : (s[0]'h0).toNat ≠ 48) :
    Calls Try.prog 4 #[.slice a l.length ca, .int .i64 n, .int .u32 b, .string s] w fun e w' => e = .returned (.bool true) ∧ Below w.heap.size w w' := by
  have lm := wval_len sl
  have hA : WSl w (.slice a l.length ca) l := ⟨a, ca, rfl, hca, ra⟩
  have K1 : ∀ u v, WSl u v l → Hid _ := fun u v h => hide (ofWords_big u v l (by omega) sl h)
  have K2 : ∀ u v, WSl u v l → Hid _ := fun u v h => hide (D.shiftLarge u v l n h sl (by omega) hn hn2)
  have K3 : ∀ u, Hid _ := fun u => hide (D.powLarge u b n hb (by omega))
  have K4 : ∀ u v, WSl u v l → Hid _ := fun u v h => hide (D.text u v l h sl (by omega))
  have K5 : ∀ u, Hid _ := fun u => hide (D.read u s hs hf)
  have K6 : ∀ u, Hid _ := fun u => hide (ofDigits_any u s (by omega) hf.2.1)
  have HDG := hide (dig_at hf.2.1)
  have hdl : (dig (dec s.data.toList)).length ≤ s.size := by
    apply dig_length_le
    have h1 := dec_lt hf.2.1
    rw [blen_list] at h1
    have h3 : 10 ^ s.size ≤ 10000 ^ s.size := Nat.pow_le_pow_left (by omega) _
    exact Nat.lt_of_lt_of_le h1 h3
  have hwl := wdig_len (dec s.data.toList)
  have bw := Below.refl w.heap.size w
  generalize wval l = m at *
  clear ra D
  obtain ⟨e1, e2⟩ := some_text h0
  have t48 : ((((s[0]'h0).toNat : Nat) : Int) == 48) = false := beq_false_of_ne (by omega)
  have t50 : ¬ (1000 : Int) < (s.size : Int) := by omega
  clear hf
  have u1 : (4000 : Int) < n := hn
  have u2 : ¬ n < 0 := by omega
  have u3 : (1000 : Int) < n := by omega
  go_enter Try.func4, Try.ntmps4
  go_wp2_with fail
  refine (unhide (K1 _ _ hA)).mono ?_
  rintro e w1 ⟨vx, rfl, hX, b1⟩
  replace hA := hA.below b1
  replace bw := bw.trans (b1.mono bw.size)
  clear b1
  go_wp2_with fail
  refine (unhide (K2 _ _ hA)).mono ?_
  rintro e w2 ⟨a2, c2, rfl, b2⟩
  replace hA := hA.below b2
  replace hX := hX.below b2
  replace bw := bw.trans (b2.mono bw.size)
  clear b2
  go_wp2_with fail
  refine (unhide (K3 _)).mono ?_
  rintro e w3 ⟨a8, c8, rfl, b3⟩
  replace hA := hA.below b3
  replace hX := hX.below b3
  replace bw := bw.trans (b3.mono bw.size)
  clear b3
  go_wp2_with fail
  refine (unhide (K5 _)).mono ?_
  rintro e w4 ⟨vy, rfl, hY, b4⟩
  replace hA := hA.below b4
  replace hX := hX.below b4
  replace bw := bw.trans (b4.mono bw.size)
  clear b4
  go_wp2_with fail
  go_loopw [19, 151] (fun wt kk wr => ∃ k : Nat, wt = .int .i64 0 ∧ kk = .int .i64 k ∧ k ≤ s.size ∧ wr = w4) (fun _ kk _ => s.size - (intOf kk).toNat)
  case atStart => exact ⟨0, rfl, rfl, Nat.zero_le _, rfl⟩
  case round =>
    obtain ⟨k, rfl, rfl, hk, rfl⟩ := hrel
    by_cases hlt : k < s.size
    · have i1 : (k : Int) < (s.size : Int) := by omega
      have i0 : (0 : Int) ≤ (k : Int) := by omega
      obtain ⟨d1, d2⟩ := unhide HDG k hlt
      go_wp2
      go_roundw
      case rel => exact ⟨k + 1, rfl, by go_num, by omega, by trivial⟩
      case measure => simp only [intOf]; omega
    · skip
      go_wp2_with fail
      refine (unhide (K4 _ _ hA)).mono ?_
      rintro e w5 ⟨rfl, b5⟩
      replace hA := hA.below b5
      replace hX := hX.below b5
      replace hY := hY.below b5
      replace bw := bw.trans (b5.mono bw.size)
      clear b5
      go_wp2_with fail
      refine (digits_any _ _ m (by omega) hX).mono ?_
      rintro e w6 ⟨rfl, b6⟩
      replace hA := hA.below b6
      replace hX := hX.below b6
      replace hY := hY.below b6
      replace bw := bw.trans (b6.mono bw.size)
      clear b6
      go_wp2_with fail
      refine (unhide (K6 _)).mono ?_
      rintro e w7 ⟨vz, rfl, hZ, b7⟩
      replace hA := hA.below b7
      replace hX := hX.below b7
      replace hY := hY.below b7
      replace bw := bw.trans (b7.mono bw.size)
      clear b7
      go_wp2_with fail
      refine (words_big _ _ (dec s.data.toList) (by omega) hZ).mono ?_
      rintro e w8 ⟨vq, rfl, hQ, b8⟩
      replace hA := hA.below b8
      replace hX := hX.below b8
      replace hY := hY.below b8
      replace hZ := hZ.below b8
      replace bw := bw.trans (b8.mono bw.size)
      clear b8
      go_wp2_with fail
      refine (equalU_same _ _ _ _ (by omega) hY hQ).mono ?_
      rintro e w9 ⟨rfl, b9⟩
      replace hA := hA.below b9
      replace hX := hX.below b9
      replace hY := hY.below b9
      replace hZ := hZ.below b9
      replace hQ := hQ.below b9
      replace bw := bw.trans (b9.mono bw.size)
      clear b9
      go_wp2
      go_ret
      exact ⟨rfl, bw⟩

set_option maxHeartbeats 16000000 in
set_option maxRecDepth 100000 in
theorem shiftsBigOne (D : Face2) (w : World) (a : Option Addr) (ca : Nat) (l : List Nat) (b : Nat) (s : ByteArray) (hl : l.length ≤ 40) (hca : l.length ≤ ca) (hb : b < 4294967296) (sl : Words32 l) (ra : RowU w a l) (n : Int) (hn : 4000 < n) (hn2 : n ≤ 9223372036854775807) (hs : s.size = 1) (hf : Form s.data.toList) (h0 : 0 < s.size) (h48 : (s[0]'h0).toNat = 48) :
    Calls Try.prog 4 #[.slice a l.length ca, .int .i64 n, .int .u32 b, .string s] w fun e w' => e = .returned (.bool true) ∧ Below w.heap.size w w' := by
  have lm := wval_len sl
  have hA : WSl w (.slice a l.length ca) l := ⟨a, ca, rfl, hca, ra⟩
  have K1 : ∀ u v, WSl u v l → Hid _ := fun u v h => hide (ofWords_big u v l (by omega) sl h)
  have K2 : ∀ u v, WSl u v l → Hid _ := fun u v h => hide (D.shiftLarge u v l n h sl (by omega) hn hn2)
  have K3 : ∀ u, Hid _ := fun u => hide (D.powLarge u b n hb (by omega))
  have K4 : ∀ u v, WSl u v l → Hid _ := fun u v h => hide (D.text u v l h sl (by omega))
  have K5 : ∀ u, Hid _ := fun u => hide (D.read u s (by omega) hf)
  have K6 : ∀ u, Hid _ := fun u => hide (ofDigits_any u s (by omega) hf.2.1)
  have HDG := hide (dig_at hf.2.1)
  have hdl : (dig (dec s.data.toList)).length ≤ s.size := by
    apply dig_length_le
    have h1 := dec_lt hf.2.1
    rw [blen_list] at h1
    have h3 : 10 ^ s.size ≤ 10000 ^ s.size := Nat.pow_le_pow_left (by omega) _
    exact Nat.lt_of_lt_of_le h1 h3
  have hwl := wdig_len (dec s.data.toList)
  have bw := Below.refl w.heap.size w
  generalize wval l = m at *
  clear ra D
  obtain ⟨e1, e2⟩ := some_text h0
  have t49 : ¬ (1 : Int) < (s.size : Int) := by omega
  have HS1 := hide hs
  clear hs
  have hs : s.size ≤ 1000 := by have := unhide HS1; omega
  have t50 : ¬ (1000 : Int) < (s.size : Int) := by omega
  clear hf
  have u1 : (4000 : Int) < n := hn
  have u2 : ¬ n < 0 := by omega
  have u3 : (1000 : Int) < n := by omega
  go_enter Try.func4, Try.ntmps4
  go_wp2_with fail
  refine (unhide (K1 _ _ hA)).mono ?_
  rintro e w1 ⟨vx, rfl, hX, b1⟩
  replace hA := hA.below b1
  replace bw := bw.trans (b1.mono bw.size)
  clear b1
  go_wp2_with fail
  refine (unhide (K2 _ _ hA)).mono ?_
  rintro e w2 ⟨a2, c2, rfl, b2⟩
  replace hA := hA.below b2
  replace hX := hX.below b2
  replace bw := bw.trans (b2.mono bw.size)
  clear b2
  go_wp2_with fail
  refine (unhide (K3 _)).mono ?_
  rintro e w3 ⟨a8, c8, rfl, b3⟩
  replace hA := hA.below b3
  replace hX := hX.below b3
  replace bw := bw.trans (b3.mono bw.size)
  clear b3
  go_wp2_with fail
  refine (unhide (K5 _)).mono ?_
  rintro e w4 ⟨vy, rfl, hY, b4⟩
  replace hA := hA.below b4
  replace hX := hX.below b4
  replace bw := bw.trans (b4.mono bw.size)
  clear b4
  go_wp2_with fail
  go_loopw [19, 151] (fun wt kk wr => ∃ k : Nat, wt = .int .i64 0 ∧ kk = .int .i64 k ∧ k ≤ s.size ∧ wr = w4) (fun _ kk _ => s.size - (intOf kk).toNat)
  case atStart => exact ⟨0, rfl, rfl, Nat.zero_le _, rfl⟩
  case round =>
    obtain ⟨k, rfl, rfl, hk, rfl⟩ := hrel
    by_cases hlt : k < s.size
    · have i1 : (k : Int) < (s.size : Int) := by omega
      have i0 : (0 : Int) ≤ (k : Int) := by omega
      obtain ⟨d1, d2⟩ := unhide HDG k hlt
      go_wp2
      go_roundw
      case rel => exact ⟨k + 1, rfl, by go_num, by omega, by trivial⟩
      case measure => simp only [intOf]; omega
    · skip
      go_wp2_with fail
      refine (unhide (K4 _ _ hA)).mono ?_
      rintro e w5 ⟨rfl, b5⟩
      replace hA := hA.below b5
      replace hX := hX.below b5
      replace hY := hY.below b5
      replace bw := bw.trans (b5.mono bw.size)
      clear b5
      go_wp2_with fail
      refine (digits_any _ _ m (by omega) hX).mono ?_
      rintro e w6 ⟨rfl, b6⟩
      replace hA := hA.below b6
      replace hX := hX.below b6
      replace hY := hY.below b6
      replace bw := bw.trans (b6.mono bw.size)
      clear b6
      go_wp2_with fail
      refine (unhide (K6 _)).mono ?_
      rintro e w7 ⟨vz, rfl, hZ, b7⟩
      replace hA := hA.below b7
      replace hX := hX.below b7
      replace hY := hY.below b7
      replace bw := bw.trans (b7.mono bw.size)
      clear b7
      go_wp2_with fail
      refine (words_big _ _ (dec s.data.toList) (by omega) hZ).mono ?_
      rintro e w8 ⟨vq, rfl, hQ, b8⟩
      replace hA := hA.below b8
      replace hX := hX.below b8
      replace hY := hY.below b8
      replace hZ := hZ.below b8
      replace bw := bw.trans (b8.mono bw.size)
      clear b8
      go_wp2_with fail
      refine (equalU_same _ _ _ _ (by omega) hY hQ).mono ?_
      rintro e w9 ⟨rfl, b9⟩
      replace hA := hA.below b9
      replace hX := hX.below b9
      replace hY := hY.below b9
      replace hZ := hZ.below b9
      replace hQ := hQ.below b9
      replace bw := bw.trans (b9.mono bw.size)
      clear b9
      go_wp2
      go_ret
      exact ⟨rfl, bw⟩

set_option maxHeartbeats 16000000 in
set_option maxRecDepth 100000 in
theorem shiftsBigNone (D : Face2) (w : World) (a : Option Addr) (ca : Nat) (l : List Nat) (b : Nat) (s : ByteArray) (hl : l.length ≤ 40) (hca : l.length ≤ ca) (hb : b < 4294967296) (sl : Words32 l) (ra : RowU w a l) (n : Int) (hn : 4000 < n) (hn2 : n ≤ 9223372036854775807) (hs : s.size = 0) :
    Calls Try.prog 4 #[.slice a l.length ca, .int .i64 n, .int .u32 b, .string s] w fun e w' => e = .returned (.bool true) ∧ Below w.heap.size w w' := by
  have lm := wval_len sl
  have hA : WSl w (.slice a l.length ca) l := ⟨a, ca, rfl, hca, ra⟩
  have K1 : ∀ u v, WSl u v l → Hid _ := fun u v h => hide (ofWords_big u v l (by omega) sl h)
  have K2 : ∀ u v, WSl u v l → Hid _ := fun u v h => hide (D.shiftLarge u v l n h sl (by omega) hn hn2)
  have K3 : ∀ u, Hid _ := fun u => hide (D.powLarge u b n hb (by omega))
  have K4 : ∀ u v, WSl u v l → Hid _ := fun u v h => hide (D.text u v l h sl (by omega))
  have K5 : ∀ u, Hid _ := fun u => hide (D.readForm u s (by omega) (fun h => h.1 (List.eq_nil_of_length_eq_zero (by rw [blen_list]; exact hs))))
  have bw := Below.refl w.heap.size w
  generalize wval l = m at *
  clear ra D
  obtain rfl := empty_text hs
  have u1 : (4000 : Int) < n := hn
  have u2 : ¬ n < 0 := by omega
  have u3 : (1000 : Int) < n := by omega
  go_enter Try.func4, Try.ntmps4
  go_wp2_with fail
  refine (unhide (K1 _ _ hA)).mono ?_
  rintro e w1 ⟨vx, rfl, hX, b1⟩
  replace hA := hA.below b1
  replace bw := bw.trans (b1.mono bw.size)
  clear b1
  go_wp2_with fail
  refine (unhide (K2 _ _ hA)).mono ?_
  rintro e w2 ⟨a2, c2, rfl, b2⟩
  replace hA := hA.below b2
  replace hX := hX.below b2
  replace bw := bw.trans (b2.mono bw.size)
  clear b2
  go_wp2_with fail
  refine (unhide (K3 _)).mono ?_
  rintro e w3 ⟨a8, c8, rfl, b3⟩
  replace hA := hA.below b3
  replace hX := hX.below b3
  replace bw := bw.trans (b3.mono bw.size)
  clear b3
  go_wp2_with fail
  refine (unhide (K5 _)).mono ?_
  rintro e w4 ⟨ay, cy, rfl, b4⟩
  replace hA := hA.below b4
  replace hX := hX.below b4
  replace bw := bw.trans (b4.mono bw.size)
  clear b4
  go_wp2_with fail
  go_loopw [19, 151] (fun wt kk wr => ∃ k : Nat, wt = .int .i64 4 ∧ kk = .int .i64 k ∧ k ≤ 0 ∧ wr = w4) (fun _ kk _ => 0 - (intOf kk).toNat)
  case atStart => exact ⟨0, rfl, rfl, Nat.zero_le _, rfl⟩
  case round =>
    obtain ⟨k, rfl, rfl, hk, rfl⟩ := hrel
    obtain rfl : k = 0 := by omega
    go_wp2_with fail
    refine (unhide (K4 _ _ hA)).mono ?_
    rintro e w5 ⟨rfl, b5⟩
    replace hA := hA.below b5
    replace hX := hX.below b5
    replace bw := bw.trans (b5.mono bw.size)
    clear b5
    go_wp2_with fail
    refine (digits_any _ _ m (by omega) hX).mono ?_
    rintro e w6 ⟨rfl, b6⟩
    replace hA := hA.below b6
    replace hX := hX.below b6
    replace bw := bw.trans (b6.mono bw.size)
    clear b6
    go_wp2
    go_ret
    exact ⟨rfl, bw⟩

set_option maxHeartbeats 16000000 in
set_option maxRecDepth 100000 in
theorem shiftsBigNought (D : Face2) (w : World) (a : Option Addr) (ca : Nat) (l : List Nat) (b : Nat) (s : ByteArray) (hl : l.length ≤ 40) (hca : l.length ≤ ca) (hb : b < 4294967296) (sl : Words32 l) (ra : RowU w a l) (n : Int) (hn : 4000 < n) (hn2 : n ≤ 9223372036854775807) (hs : s.size ≤ 1000) (h0 : 0 < s.size) (h48 : (s[0]'h0).toNat = 48) (h1 : 1 < s.size) :
    Calls Try.prog 4 #[.slice a l.length ca, .int .i64 n, .int .u32 b, .string s] w fun e w' => e = .returned (.bool true) ∧ Below w.heap.size w w' := by
  have lm := wval_len sl
  have hA : WSl w (.slice a l.length ca) l := ⟨a, ca, rfl, hca, ra⟩
  have K1 : ∀ u v, WSl u v l → Hid _ := fun u v h => hide (ofWords_big u v l (by omega) sl h)
  have K2 : ∀ u v, WSl u v l → Hid _ := fun u v h => hide (D.shiftLarge u v l n h sl (by omega) hn hn2)
  have K3 : ∀ u, Hid _ := fun u => hide (D.powLarge u b n hb (by omega))
  have K4 : ∀ u v, WSl u v l → Hid _ := fun u v h => hide (D.text u v l h sl (by omega))
  have K5 : ∀ u, Hid _ := fun u => hide (D.readForm u s hs (fun h => by rcases h.2.2 with h2 | h2; (· rw [bget s 0 h0] at h2; exact h2 (UInt8.toNat_inj.1 h48)); (· rw [blen_list] at h2; omega)))
  have bw := Below.refl w.heap.size w
  generalize wval l = m at *
  clear ra D
  obtain ⟨e1, e2⟩ := some_text h0
  have t49 : (1 : Int) < (s.size : Int) := by omega
  have t50 : ¬ (1000 : Int) < (s.size : Int) := by omega
  have u1 : (4000 : Int) < n := hn
  have u2 : ¬ n < 0 := by omega
  have u3 : (1000 : Int) < n := by omega
  go_enter Try.func4, Try.ntmps4
  go_wp2_with fail
  refine (unhide (K1 _ _ hA)).mono ?_
  rintro e w1 ⟨vx, rfl, hX, b1⟩
  replace hA := hA.below b1
  replace bw := bw.trans (b1.mono bw.size)
  clear b1
  go_wp2_with fail
  refine (unhide (K2 _ _ hA)).mono ?_
  rintro e w2 ⟨a2, c2, rfl, b2⟩
  replace hA := hA.below b2
  replace hX := hX.below b2
  replace bw := bw.trans (b2.mono bw.size)
  clear b2
  go_wp2_with fail
  refine (unhide (K3 _)).mono ?_
  rintro e w3 ⟨a8, c8, rfl, b3⟩
  replace hA := hA.below b3
  replace hX := hX.below b3
  replace bw := bw.trans (b3.mono bw.size)
  clear b3
  go_wp2_with fail
  refine (unhide (K5 _)).mono ?_
  rintro e w4 ⟨ay, cy, rfl, b4⟩
  replace hA := hA.below b4
  replace hX := hX.below b4
  replace bw := bw.trans (b4.mono bw.size)
  clear b4
  go_wp2_with fail
  go_loopw [19, 151] (fun wt kk wr => ∃ k : Nat, wt = .int .i64 4 ∧ kk = .int .i64 k ∧ k ≤ s.size ∧ wr = w4) (fun _ kk _ => s.size - (intOf kk).toNat)
  case atStart => exact ⟨0, rfl, rfl, Nat.zero_le _, rfl⟩
  case round =>
    obtain ⟨k, rfl, rfl, hk, rfl⟩ := hrel
    by_cases hlt : k < s.size
    · have i1 : (k : Int) < (s.size : Int) := by omega
      have i0 : (0 : Int) ≤ (k : Int) := by omega
      by_cases hx1 : (s[k]'hlt).toNat < 48
      · go_wp2
        go_roundw
        case rel => exact ⟨k + 1, rfl, by go_num, by omega, by trivial⟩
        case measure => simp only [intOf]; omega
      · by_cases hx2 : 57 < (s[k]'hlt).toNat
        · go_wp2
          go_roundw
          case rel => exact ⟨k + 1, rfl, by go_num, by omega, by trivial⟩
          case measure => simp only [intOf]; omega
        · go_wp2
          go_roundw
          case rel => exact ⟨k + 1, rfl, by go_num, by omega, by trivial⟩
          case measure => simp only [intOf]; omega
    · skip
      go_wp2_with fail
      refine (unhide (K4 _ _ hA)).mono ?_
      rintro e w5 ⟨rfl, b5⟩
      replace hA := hA.below b5
      replace hX := hX.below b5
      replace bw := bw.trans (b5.mono bw.size)
      clear b5
      go_wp2_with fail
      refine (digits_any _ _ m (by omega) hX).mono ?_
      rintro e w6 ⟨rfl, b6⟩
      replace hA := hA.below b6
      replace hX := hX.below b6
      replace bw := bw.trans (b6.mono bw.size)
      clear b6
      go_wp2
      go_ret
      exact ⟨rfl, bw⟩

set_option maxHeartbeats 16000000 in
set_option maxRecDepth 100000 in
theorem shiftsBigBad (D : Face2) (w : World) (a : Option Addr) (ca : Nat) (l : List Nat) (b : Nat) (s : ByteArray) (hl : l.length ≤ 40) (hca : l.length ≤ ca) (hb : b < 4294967296) (sl : Words32 l) (ra : RowU w a l) (n : Int) (hn : 4000 < n) (hn2 : n ≤ 9223372036854775807) (hs : s.size ≤ 1000) (h0 : 0 < s.size) (h48 : (s[0]'h0).toNat ≠ 48) (hf : ¬ Form s.data.toList) :
    Calls Try.prog 4 #[.slice a l.length ca, .int .i64 n, .int .u32 b, .string s] w fun e w' => e = .returned (.bool true) ∧ Below w.heap.size w w' := by
  have lm := wval_len sl
  have hA : WSl w (.slice a l.length ca) l := ⟨a, ca, rfl, hca, ra⟩
  have K1 : ∀ u v, WSl u v l → Hid _ := fun u v h => hide (ofWords_big u v l (by omega) sl h)
  have K2 : ∀ u v, WSl u v l → Hid _ := fun u v h => hide (D.shiftLarge u v l n h sl (by omega) hn hn2)
  have K3 : ∀ u, Hid _ := fun u => hide (D.powLarge u b n hb (by omega))
  have K4 : ∀ u v, WSl u v l → Hid _ := fun u v h => hide (D.text u v l h sl (by omega))
  have K5 : ∀ u, Hid _ := fun u => hide (D.readForm u s hs hf)
  have HNF : Hid (¬ Dig10 s.data.toList) := fun h => hf ⟨fun e => (by have h2 := blen_list s; rw [e] at h2; simp at h2; omega), h, .inl (fun e => by rw [bget s 0 h0] at e; exact h48 (by rw [e]; rfl))⟩
  have bw := Below.refl w.heap.size w
  generalize wval l = m at *
  clear ra D
  obtain ⟨e1, e2⟩ := some_text h0
  have t48 : ((((s[0]'h0).toNat : Nat) : Int) == 48) = false := beq_false_of_ne (by omega)
  have t50 : ¬ (1000 : Int) < (s.size : Int) := by omega
  clear hf
  have u1 : (4000 : Int) < n := hn
  have u2 : ¬ n < 0 := by omega
  have u3 : (1000 : Int) < n := by omega
  go_enter Try.func4, Try.ntmps4
  go_wp2_with fail
  refine (unhide (K1 _ _ hA)).mono ?_
  rintro e w1 ⟨vx, rfl, hX, b1⟩
  replace hA := hA.below b1
  replace bw := bw.trans (b1.mono bw.size)
  clear b1
  go_wp2_with fail
  refine (unhide (K2 _ _ hA)).mono ?_
  rintro e w2 ⟨a2, c2, rfl, b2⟩
  replace hA := hA.below b2
  replace hX := hX.below b2
  replace bw := bw.trans (b2.mono bw.size)
  clear b2
  go_wp2_with fail
  refine (unhide (K3 _)).mono ?_
  rintro e w3 ⟨a8, c8, rfl, b3⟩
  replace hA := hA.below b3
  replace hX := hX.below b3
  replace bw := bw.trans (b3.mono bw.size)
  clear b3
  go_wp2_with fail
  refine (unhide (K5 _)).mono ?_
  rintro e w4 ⟨ay, cy, rfl, b4⟩
  replace hA := hA.below b4
  replace hX := hX.below b4
  replace bw := bw.trans (b4.mono bw.size)
  clear b4
  go_wp2_with fail
  go_loopw [19, 151] (fun wt kk wr => ∃ (k : Nat) (x : Int), wt = .int .i64 x ∧ kk = .int .i64 k ∧ k ≤ s.size ∧ (x = 4 ∨ (x = 0 ∧ Hid (∀ j (hj : j < s.size), j < k → 48 ≤ (s[j]'hj).toNat ∧ (s[j]'hj).toNat ≤ 57))) ∧ wr = w4) (fun _ kk _ => s.size - (intOf kk).toNat)
  case atStart => exact ⟨0, 0, rfl, rfl, Nat.zero_le _, .inr ⟨rfl, fun j hj h => by omega⟩, rfl⟩
  case round =>
    obtain ⟨k, x, rfl, rfl, hk, hx, rfl⟩ := hrel
    by_cases hlt : k < s.size
    · have i1 : (k : Int) < (s.size : Int) := by omega
      have i0 : (0 : Int) ≤ (k : Int) := by omega
      by_cases hx1 : (s[k]'hlt).toNat < 48
      · clear hx
        go_wp2
        go_roundw
        case rel => exact ⟨k + 1, 4, rfl, by go_num, by omega, .inl rfl, by trivial⟩
        case measure => simp only [intOf]; omega
      · by_cases hx2 : 57 < (s[k]'hlt).toNat
        · clear hx
          go_wp2
          go_roundw
          case rel => exact ⟨k + 1, 4, rfl, by go_num, by omega, .inl rfl, by trivial⟩
          case measure => simp only [intOf]; omega
        · have hx3 : Hid (x = 4 ∨ (x = 0 ∧ Hid (∀ j (hj : j < s.size), j < k + 1 → 48 ≤ (s[j]'hj).toNat ∧ (s[j]'hj).toNat ≤ 57))) := by
            rcases hx with h | ⟨h, h2⟩
            · exact .inl h
            · refine .inr ⟨h, fun j hj hjk => ?_⟩
              by_cases e : j = k
              · subst e; omega
              · exact h2.out j hj (by omega)
          clear hx
          go_wp2
          go_roundw
          case rel => exact ⟨k + 1, x, rfl, by go_num, by omega, unhide hx3, by trivial⟩
          case measure => simp only [intOf]; omega
    · have hx4 : x = 4 := by
        rcases hx with h | ⟨h, h2⟩
        · exact h
        · exact absurd (dig_all (fun j hj => h2.out j hj (by omega))) HNF.out
      subst hx4
      clear hx
      go_wp2_with fail
      refine (unhide (K4 _ _ hA)).mono ?_
      rintro e w5 ⟨rfl, b5⟩
      replace hA := hA.below b5
      replace hX := hX.below b5
      replace bw := bw.trans (b5.mono bw.size)
      clear b5
      go_wp2_with fail
      refine (digits_any _ _ m (by omega) hX).mono ?_
      rintro e w6 ⟨rfl, b6⟩
      replace hA := hA.below b6
      replace hX := hX.below b6
      replace bw := bw.trans (b6.mono bw.size)
      clear b6
      go_wp2
      go_ret
      exact ⟨rfl, bw⟩
end Go.Proofs.Ytgfleflfahabeaa.bigs
