/- The law of Shift, Pow, Text and Read: all its ways. -/
import Derived.Test.YtgfleflfahabeaaBigShiftsBig
import Derived.Test.YtgfleflfahabeaaBigShiftsMid
import Derived.Test.YtgfleflfahabeaaBigShiftsLow
import Derived.Test.YtgfleflfahabeaaBigShiftsNil
import Derived.Test.YtgfleflfahabeaaBigShiftsDown
import Derived.Test.YtgfleflfahabeaaBigShiftsFar
set_option linter.unusedVariables false
namespace Go.Proofs.Ytgfleflfahabeaa.bigs
open Go.RowKit

theorem shiftsBig (D : Face2) (w : World) (a : Option Addr) (ca : Nat) (l : List Nat) (b : Nat) (s : ByteArray) (hl : l.length ≤ 40) (hca : l.length ≤ ca) (hb : b < 4294967296) (sl : Words32 l) (ra : RowU w a l) (n : Int) (hn : 4000 < n) (hn2 : n ≤ 9223372036854775807) (hsz : s.size ≤ 140737488355328) :
    Calls Try.prog 4 #[.slice a l.length ca, .int .i64 n, .int .u32 b, .string s] w fun e w' => e = .returned (.bool true) ∧ Below w.heap.size w w' := by
  by_cases h1 : 1000 < s.size
  · exact shiftsBigLong D w a ca l b s hl hca hb sl ra n hn hn2 h1 hsz
  · by_cases h2 : s.size = 0
    · exact shiftsBigNone D w a ca l b s hl hca hb sl ra n hn hn2 h2
    · have h0 : 0 < s.size := by omega
      by_cases h48 : (s[0]'h0).toNat = 48
      · by_cases h3 : 1 < s.size
        · exact shiftsBigNought D w a ca l b s hl hca hb sl ra n hn hn2 (by omega) h0 h48 h3
        · refine shiftsBigOne D w a ca l b s hl hca hb sl ra n hn hn2 (by omega) ⟨fun e => ?_, ?_, .inr (by rw [blen_list]; omega)⟩ h0 h48
          · have h4 := blen_list s
            rw [e] at h4
            simp at h4
            omega
          · refine dig_all (fun k hk => ?_)
            obtain rfl : k = 0 := by omega
            omega
      · by_cases hf : Form s.data.toList
        · exact shiftsBigNum D w a ca l b s hl hca hb sl ra n hn hn2 (by omega) hf h0 h48
        · exact shiftsBigBad D w a ca l b s hl hca hb sl ra n hn hn2 (by omega) h0 h48 hf
theorem shiftsMid (D : Face2) (w : World) (a : Option Addr) (ca : Nat) (l : List Nat) (b : Nat) (s : ByteArray) (hl : l.length ≤ 40) (hca : l.length ≤ ca) (hb : b < 4294967296) (sl : Words32 l) (ra : RowU w a l) (N : Nat) (hn : 1000 < N) (hn2 : N ≤ 4000) (hsz : s.size ≤ 140737488355328) :
    Calls Try.prog 4 #[.slice a l.length ca, .int .i64 (N : Int), .int .u32 b, .string s] w fun e w' => e = .returned (.bool true) ∧ Below w.heap.size w w' := by
  by_cases h1 : 1000 < s.size
  · exact shiftsMidLong D w a ca l b s hl hca hb sl ra N hn hn2 h1 hsz
  · by_cases h2 : s.size = 0
    · exact shiftsMidNone D w a ca l b s hl hca hb sl ra N hn hn2 h2
    · have h0 : 0 < s.size := by omega
      by_cases h48 : (s[0]'h0).toNat = 48
      · by_cases h3 : 1 < s.size
        · exact shiftsMidNought D w a ca l b s hl hca hb sl ra N hn hn2 (by omega) h0 h48 h3
        · refine shiftsMidOne D w a ca l b s hl hca hb sl ra N hn hn2 (by omega) ⟨fun e => ?_, ?_, .inr (by rw [blen_list]; omega)⟩ h0 h48
          · have h4 := blen_list s
            rw [e] at h4
            simp at h4
            omega
          · refine dig_all (fun k hk => ?_)
            obtain rfl : k = 0 := by omega
            omega
      · by_cases hf : Form s.data.toList
        · exact shiftsMidNum D w a ca l b s hl hca hb sl ra N hn hn2 (by omega) hf h0 h48
        · exact shiftsMidBad D w a ca l b s hl hca hb sl ra N hn hn2 (by omega) h0 h48 hf
theorem shiftsLow (D : Face2) (w : World) (a : Option Addr) (ca : Nat) (l : List Nat) (b : Nat) (s : ByteArray) (hl : l.length ≤ 40) (hca : l.length ≤ ca) (hb : b < 4294967296) (sl : Words32 l) (ra : RowU w a l) (N : Nat) (hn : N ≤ 1000) (hbn : b ^ N ≠ 0) (hsz : s.size ≤ 140737488355328) :
    Calls Try.prog 4 #[.slice a l.length ca, .int .i64 (N : Int), .int .u32 b, .string s] w fun e w' => e = .returned (.bool true) ∧ Below w.heap.size w w' := by
  by_cases h1 : 1000 < s.size
  · exact shiftsLowLong D w a ca l b s hl hca hb sl ra N hn hbn h1 hsz
  · by_cases h2 : s.size = 0
    · exact shiftsLowNone D w a ca l b s hl hca hb sl ra N hn hbn h2
    · have h0 : 0 < s.size := by omega
      by_cases h48 : (s[0]'h0).toNat = 48
      · by_cases h3 : 1 < s.size
        · exact shiftsLowNought D w a ca l b s hl hca hb sl ra N hn hbn (by omega) h0 h48 h3
        · refine shiftsLowOne D w a ca l b s hl hca hb sl ra N hn hbn (by omega) ⟨fun e => ?_, ?_, .inr (by rw [blen_list]; omega)⟩ h0 h48
          · have h4 := blen_list s
            rw [e] at h4
            simp at h4
            omega
          · refine dig_all (fun k hk => ?_)
            obtain rfl : k = 0 := by omega
            omega
      · by_cases hf : Form s.data.toList
        · exact shiftsLowNum D w a ca l b s hl hca hb sl ra N hn hbn (by omega) hf h0 h48
        · exact shiftsLowBad D w a ca l b s hl hca hb sl ra N hn hbn (by omega) h0 h48 hf
theorem shiftsNil (D : Face2) (w : World) (a : Option Addr) (ca : Nat) (l : List Nat) (b : Nat) (s : ByteArray) (hl : l.length ≤ 40) (hca : l.length ≤ ca) (hb : b < 4294967296) (sl : Words32 l) (ra : RowU w a l) (N : Nat) (hn : N ≤ 1000) (hbn : b ^ N = 0) (hsz : s.size ≤ 140737488355328) :
    Calls Try.prog 4 #[.slice a l.length ca, .int .i64 (N : Int), .int .u32 b, .string s] w fun e w' => e = .returned (.bool true) ∧ Below w.heap.size w w' := by
  by_cases h1 : 1000 < s.size
  · exact shiftsNilLong D w a ca l b s hl hca hb sl ra N hn hbn h1 hsz
  · by_cases h2 : s.size = 0
    · exact shiftsNilNone D w a ca l b s hl hca hb sl ra N hn hbn h2
    · have h0 : 0 < s.size := by omega
      by_cases h48 : (s[0]'h0).toNat = 48
      · by_cases h3 : 1 < s.size
        · exact shiftsNilNought D w a ca l b s hl hca hb sl ra N hn hbn (by omega) h0 h48 h3
        · refine shiftsNilOne D w a ca l b s hl hca hb sl ra N hn hbn (by omega) ⟨fun e => ?_, ?_, .inr (by rw [blen_list]; omega)⟩ h0 h48
          · have h4 := blen_list s
            rw [e] at h4
            simp at h4
            omega
          · refine dig_all (fun k hk => ?_)
            obtain rfl : k = 0 := by omega
            omega
      · by_cases hf : Form s.data.toList
        · exact shiftsNilNum D w a ca l b s hl hca hb sl ra N hn hbn (by omega) hf h0 h48
        · exact shiftsNilBad D w a ca l b s hl hca hb sl ra N hn hbn (by omega) h0 h48 hf
theorem shiftsDown (D : Face2) (w : World) (a : Option Addr) (ca : Nat) (l : List Nat) (b : Nat) (s : ByteArray) (hl : l.length ≤ 40) (hca : l.length ≤ ca) (hb : b < 4294967296) (sl : Words32 l) (ra : RowU w a l) (N : Nat) (hn : 1 ≤ N) (hn2 : N ≤ 1299) (hsz : s.size ≤ 140737488355328) :
    Calls Try.prog 4 #[.slice a l.length ca, .int .i64 (-(N : Int)), .int .u32 b, .string s] w fun e w' => e = .returned (.bool true) ∧ Below w.heap.size w w' := by
  by_cases h1 : 1000 < s.size
  · exact shiftsDownLong D w a ca l b s hl hca hb sl ra N hn hn2 h1 hsz
  · by_cases h2 : s.size = 0
    · exact shiftsDownNone D w a ca l b s hl hca hb sl ra N hn hn2 h2
    · have h0 : 0 < s.size := by omega
      by_cases h48 : (s[0]'h0).toNat = 48
      · by_cases h3 : 1 < s.size
        · exact shiftsDownNought D w a ca l b s hl hca hb sl ra N hn hn2 (by omega) h0 h48 h3
        · refine shiftsDownOne D w a ca l b s hl hca hb sl ra N hn hn2 (by omega) ⟨fun e => ?_, ?_, .inr (by rw [blen_list]; omega)⟩ h0 h48
          · have h4 := blen_list s
            rw [e] at h4
            simp at h4
            omega
          · refine dig_all (fun k hk => ?_)
            obtain rfl : k = 0 := by omega
            omega
      · by_cases hf : Form s.data.toList
        · exact shiftsDownNum D w a ca l b s hl hca hb sl ra N hn hn2 (by omega) hf h0 h48
        · exact shiftsDownBad D w a ca l b s hl hca hb sl ra N hn hn2 (by omega) h0 h48 hf
theorem shiftsFar (D : Face2) (w : World) (a : Option Addr) (ca : Nat) (l : List Nat) (b : Nat) (s : ByteArray) (hl : l.length ≤ 40) (hca : l.length ≤ ca) (hb : b < 4294967296) (sl : Words32 l) (ra : RowU w a l) (N : Nat) (hn : 1300 ≤ N) (hn2 : N ≤ 9223372036854775808) (hsz : s.size ≤ 140737488355328) :
    Calls Try.prog 4 #[.slice a l.length ca, .int .i64 (-(N : Int)), .int .u32 b, .string s] w fun e w' => e = .returned (.bool true) ∧ Below w.heap.size w w' := by
  by_cases h1 : 1000 < s.size
  · exact shiftsFarLong D w a ca l b s hl hca hb sl ra N hn hn2 h1 hsz
  · by_cases h2 : s.size = 0
    · exact shiftsFarNone D w a ca l b s hl hca hb sl ra N hn hn2 h2
    · have h0 : 0 < s.size := by omega
      by_cases h48 : (s[0]'h0).toNat = 48
      · by_cases h3 : 1 < s.size
        · exact shiftsFarNought D w a ca l b s hl hca hb sl ra N hn hn2 (by omega) h0 h48 h3
        · refine shiftsFarOne D w a ca l b s hl hca hb sl ra N hn hn2 (by omega) ⟨fun e => ?_, ?_, .inr (by rw [blen_list]; omega)⟩ h0 h48
          · have h4 := blen_list s
            rw [e] at h4
            simp at h4
            omega
          · refine dig_all (fun k hk => ?_)
            obtain rfl : k = 0 := by omega
            omega
      · by_cases hf : Form s.data.toList
        · exact shiftsFarNum D w a ca l b s hl hca hb sl ra N hn hn2 (by omega) hf h0 h48
        · exact shiftsFarBad D w a ca l b s hl hca hb sl ra N hn hn2 (by omega) h0 h48 hf

set_option maxHeartbeats 4000000 in
set_option maxRecDepth 100000 in
theorem shiftsWide (w : World) (a : Option Addr) (ca : Nat) (l : List Nat) (n : Int) (b : Nat) (s : ByteArray) (hl : 40 < l.length) (hl2 : l.length ≤ 1152921504606846975) :
    Calls Try.prog 4 #[.slice a l.length ca, .int .i64 n, .int .u32 b, .string s] w fun e w' => e = .returned (.bool true) ∧ Below w.heap.size w w' := by
  have t : (40 : Int) < (l.length : Int) := by omega
  go_enter Try.func4, Try.ntmps4
  go_wp2
  go_ret
  exact ⟨rfl, Below.refl _ _⟩
theorem lawShifts (D : Face2) (w : World) (a : Option Addr) (ca : Nat) (l : List Nat) (n : Int) (b : Nat) (s : ByteArray) (hl : l.length ≤ 1152921504606846975) (hca : l.length ≤ ca) (hb : b < 4294967296) (sl : Words32 l) (ra : RowU w a l) (hn1 : -9223372036854775808 ≤ n) (hn2 : n ≤ 9223372036854775807) (hs : s.size ≤ 140737488355328) :
    Calls Try.prog 4 #[.slice a l.length ca, .int .i64 n, .int .u32 b, .string s] w fun e w' => e = .returned (.bool true) ∧ Below w.heap.size w w' := by
  by_cases h40 : 40 < l.length
  · exact shiftsWide w a ca l n b s h40 hl
  · have h41 : l.length ≤ 40 := by omega
    by_cases h1 : 4000 < n
    · exact shiftsBig D w a ca l b s h41 hca hb sl ra n h1 hn2 hs
    · by_cases h2 : 0 ≤ n
      · obtain ⟨N, rfl⟩ : ∃ N : Nat, n = N := ⟨n.toNat, by omega⟩
        by_cases h3 : 1000 < N
        · exact shiftsMid D w a ca l b s h41 hca hb sl ra N h3 (by omega) hs
        · by_cases h4 : b ^ N = 0
          · exact shiftsNil D w a ca l b s h41 hca hb sl ra N (by omega) h4 hs
          · exact shiftsLow D w a ca l b s h41 hca hb sl ra N (by omega) h4 hs
      · obtain ⟨N, rfl⟩ : ∃ N : Nat, n = -(N : Int) := ⟨(-n).toNat, by omega⟩
        by_cases h3 : N ≤ 1299
        · exact shiftsDown D w a ca l b s h41 hca hb sl ra N (by omega) h3 hs
        · exact shiftsFar D w a ca l b s h41 hca hb sl ra N (by omega) (by omega) hs
end Go.Proofs.Ytgfleflfahabeaa.bigs
