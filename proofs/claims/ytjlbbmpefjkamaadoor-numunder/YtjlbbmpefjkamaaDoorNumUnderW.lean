/- The law NumUnder. -/
import Derived.Test.YtjlbbmpefjkamaaDoorNumUnderP
import Derived.Test.YtjlbbmpefjkamaaDoorNumSignL
import Derived.BigQuiet
set_option linter.unusedVariables false
namespace Go.Proofs.YtjlbbmpefjkamaaDoor.bigs
open Go.RowKit

set_option maxHeartbeats 4000000 in
set_option maxRecDepth 100000 in
theorem digC_a (w : World) (n : Nat) (h1 : 48 ≤ n) (h2 : n ≤ 57) : Calls Tryd.prog 13 #[.int .u8 (n : Int)] w fun e w' => e = .returned (.bool true) ∧ w' = w := by
  have f0 : (n : Int) ≥ 48 := by omega
  have f1 : (n : Int) ≤ 57 := by omega
  go_enter Tryd.func13, Tryd.ntmps13
  go_wp2
  go_ret
  exact ⟨rfl, rfl⟩
set_option maxHeartbeats 4000000 in
set_option maxRecDepth 100000 in
theorem digC_b (w : World) (n : Nat) (h1 : 97 ≤ n) (h2 : n ≤ 102) : Calls Tryd.prog 13 #[.int .u8 (n : Int)] w fun e w' => e = .returned (.bool true) ∧ w' = w := by
  have f0 : (n : Int) ≥ 48 := by omega
  have f1 : ¬ (n : Int) ≤ 57 := by omega
  have f2 : (n : Int) ≥ 97 := by omega
  have f3 : (n : Int) ≤ 102 := by omega
  go_enter Tryd.func13, Tryd.ntmps13
  go_wp2
  go_ret
  exact ⟨rfl, rfl⟩
set_option maxHeartbeats 4000000 in
set_option maxRecDepth 100000 in
theorem digC_c (w : World) (n : Nat) (h1 : 65 ≤ n) (h2 : n ≤ 70) : Calls Tryd.prog 13 #[.int .u8 (n : Int)] w fun e w' => e = .returned (.bool true) ∧ w' = w := by
  have f0 : (n : Int) ≥ 48 := by omega
  have f1 : ¬ (n : Int) ≤ 57 := by omega
  have f2 : ¬ (n : Int) ≥ 97 := by omega
  have f3 : (n : Int) ≥ 65 := by omega
  have f4 : (n : Int) ≤ 70 := by omega
  go_enter Tryd.func13, Tryd.ntmps13
  go_wp2
  go_ret
  exact ⟨rfl, rfl⟩
set_option maxHeartbeats 4000000 in
set_option maxRecDepth 100000 in
theorem digC_d (w : World) (n : Nat) (h1 : n < 48) : Calls Tryd.prog 13 #[.int .u8 (n : Int)] w fun e w' => e = .returned (.bool false) ∧ w' = w := by
  have f0 : ¬ (n : Int) ≥ 48 := by omega
  have f1 : ¬ (n : Int) ≥ 97 := by omega
  have f2 : ¬ (n : Int) ≥ 65 := by omega
  go_enter Tryd.func13, Tryd.ntmps13
  go_wp2
  go_ret
  exact ⟨rfl, rfl⟩
set_option maxHeartbeats 4000000 in
set_option maxRecDepth 100000 in
theorem digC_e (w : World) (n : Nat) (h1 : 57 < n) (h2 : n < 65) : Calls Tryd.prog 13 #[.int .u8 (n : Int)] w fun e w' => e = .returned (.bool false) ∧ w' = w := by
  have f0 : (n : Int) ≥ 48 := by omega
  have f1 : ¬ (n : Int) ≤ 57 := by omega
  have f2 : ¬ (n : Int) ≥ 97 := by omega
  have f3 : ¬ (n : Int) ≥ 65 := by omega
  go_enter Tryd.func13, Tryd.ntmps13
  go_wp2
  go_ret
  exact ⟨rfl, rfl⟩
set_option maxHeartbeats 4000000 in
set_option maxRecDepth 100000 in
theorem digC_f (w : World) (n : Nat) (h1 : 70 < n) (h2 : n < 97) : Calls Tryd.prog 13 #[.int .u8 (n : Int)] w fun e w' => e = .returned (.bool false) ∧ w' = w := by
  have f0 : (n : Int) ≥ 48 := by omega
  have f1 : ¬ (n : Int) ≤ 57 := by omega
  have f2 : ¬ (n : Int) ≥ 97 := by omega
  have f3 : (n : Int) ≥ 65 := by omega
  have f4 : ¬ (n : Int) ≤ 70 := by omega
  go_enter Tryd.func13, Tryd.ntmps13
  go_wp2
  go_ret
  exact ⟨rfl, rfl⟩
set_option maxHeartbeats 4000000 in
set_option maxRecDepth 100000 in
theorem digC_g (w : World) (n : Nat) (h1 : 102 < n) (h2 : n < 256) : Calls Tryd.prog 13 #[.int .u8 (n : Int)] w fun e w' => e = .returned (.bool false) ∧ w' = w := by
  have f0 : (n : Int) ≥ 48 := by omega
  have f1 : ¬ (n : Int) ≤ 57 := by omega
  have f2 : (n : Int) ≥ 97 := by omega
  have f3 : ¬ (n : Int) ≤ 102 := by omega
  have f4 : (n : Int) ≥ 65 := by omega
  have f5 : ¬ (n : Int) ≤ 70 := by omega
  go_enter Tryd.func13, Tryd.ntmps13
  go_wp2
  go_ret
  exact ⟨rfl, rfl⟩
def isHex (n : Nat) : Prop := (48 ≤ n ∧ n ≤ 57) ∨ (97 ≤ n ∧ n ≤ 102) ∨ (65 ≤ n ∧ n ≤ 70)
theorem digC_yes (w : World) (n : Nat) (h : isHex n) : Calls Tryd.prog 13 #[.int .u8 (n : Int)] w fun e w' => e = .returned (.bool true) ∧ w' = w := by
  rcases h with ⟨a, b⟩ | ⟨a, b⟩ | ⟨a, b⟩
  · exact digC_a w n a b
  · exact digC_b w n a b
  · exact digC_c w n a b
theorem digC_no (w : World) (n : Nat) (hn : n < 256) (h : ¬ isHex n) : Calls Tryd.prog 13 #[.int .u8 (n : Int)] w fun e w' => e = .returned (.bool false) ∧ w' = w := by
  unfold isHex at h
  by_cases h1 : n < 48
  · exact digC_d w n h1
  · by_cases h2 : n < 65
    · exact digC_e w n (by omega) h2
    · by_cases h3 : n < 97
      · exact digC_f w n (by omega) h3
      · exact digC_g w n (by omega) hn
set_option maxRecDepth 100000 in
theorem indexC (w : World) (c : UInt8) : Calls Tryd.prog 14 #[.string ⟨#[120, 111, 98]⟩, .int .u8 (c.toNat : Int)] w fun e w' => e = .returned (.int .i64 (Lib.indexByte [120, 111, 98] c)) ∧ w' = w := by
  have k := Tryd.stringslite_IndexByte ⟨#[120, 111, 98]⟩ (c.toNat : Int) w
  have e : (c.toNat : Int).toNat.toUInt8 = c := by simp
  rw [e, show (⟨#[120, 111, 98]⟩ : ByteArray).data.toList = [120, 111, 98] by rfl] at k
  have K := hide k
  clear k e
  go_enter Tryd.func14, Tryd.ntmps14
  go_wp2_with fail
  refine (unhide K).mono ?_
  rintro e w1 ⟨rfl, rfl⟩
  go_wp2
  go_ret
  exact ⟨rfl, rfl⟩
set_option maxHeartbeats 8000000 in
set_option maxRecDepth 100000 in
theorem under_0bn1 (w : World) (s : ByteArray) (n : Int) (m j : Nat) (hm : Hid (m = j + 1)) (h0 : 0 < s.size) (hj : j < s.size) (hms : m < s.size) (h80 : s.size < 80) (j1 : ¬ (m : Int) < 1) (j2 : ¬ (m : Int) ≥ (s.size : Int)) (j3 : ¬ (s.size : Int) ≥ 80) (j4 : IntKind.i64.wrap ((m : Int) - 1) = (j : Int))
    (KN : Hid (Calls Tryd.prog 12 #[] w fun e w' => e = .returned (.bool true) ∧ w' = w)) (K1 : Hid (Calls Tryd.prog 7 #[.string s] w fun e w' => e = .returned (.tuple #[.int .i64 n, .int .i64 0]) ∧ w' = w))
    (i1 : (((s[0]'h0).toNat : Int) == 45) = false) (i2 : (1 : Int) < (s.size : Int)) (h1 : 0 < s.size) (i3 : (((s[0]'h1).toNat : Int) == 48) = false) (i6 : ¬ (m : Int) ≤ 0) (D1 : Hid (Calls Tryd.prog 13 #[.int .u8 ((s[j]'hj).toNat : Int)] w fun e w' => e = .returned (.bool false) ∧ w' = w)) :
    Calls Tryd.prog 5 #[.string s, .int .i64 (m : Int)] w fun e w' => e = .returned (.bool true) ∧ Below w.heap.size w w' := by
  go_enter Tryd.func5, Tryd.ntmps5
  go_wp2_with fail
  refine (unhide KN).mono ?_
  rintro _ w0 ⟨rfl, rfl⟩
  go_wp2_with fail
  refine (unhide K1).mono ?_
  rintro _ w1 ⟨rfl, rfl⟩
  go_wp2_with fail
  refine (unhide D1).mono ?_
  rintro _ w2 ⟨rfl, rfl⟩
  clear KN K1 D1
  go_wp2
  go_ret
  exact ⟨rfl, Below.refl _ _⟩
set_option maxHeartbeats 8000000 in
set_option maxRecDepth 100000 in
theorem under_0bn2 (w : World) (s : ByteArray) (n : Int) (m j : Nat) (hm : Hid (m = j + 1)) (h0 : 0 < s.size) (hj : j < s.size) (hms : m < s.size) (h80 : s.size < 80) (j1 : ¬ (m : Int) < 1) (j2 : ¬ (m : Int) ≥ (s.size : Int)) (j3 : ¬ (s.size : Int) ≥ 80) (j4 : IntKind.i64.wrap ((m : Int) - 1) = (j : Int))
    (KN : Hid (Calls Tryd.prog 12 #[] w fun e w' => e = .returned (.bool true) ∧ w' = w)) (K1 : Hid (Calls Tryd.prog 7 #[.string s] w fun e w' => e = .returned (.tuple #[.int .i64 n, .int .i64 0]) ∧ w' = w))
    (i1 : (((s[0]'h0).toNat : Int) == 45) = false) (i2 : (1 : Int) < (s.size : Int)) (h1 : 0 < s.size) (i3 : (((s[0]'h1).toNat : Int) == 48) = false) (i6 : ¬ (m : Int) ≤ 0) (D1 : Hid (Calls Tryd.prog 13 #[.int .u8 ((s[j]'hj).toNat : Int)] w fun e w' => e = .returned (.bool true) ∧ w' = w)) (D2 : Hid (Calls Tryd.prog 13 #[.int .u8 ((s[m]'hms).toNat : Int)] w fun e w' => e = .returned (.bool false) ∧ w' = w)) :
    Calls Tryd.prog 5 #[.string s, .int .i64 (m : Int)] w fun e w' => e = .returned (.bool true) ∧ Below w.heap.size w w' := by
  go_enter Tryd.func5, Tryd.ntmps5
  go_wp2_with fail
  refine (unhide KN).mono ?_
  rintro _ w0 ⟨rfl, rfl⟩
  go_wp2_with fail
  refine (unhide K1).mono ?_
  rintro _ w1 ⟨rfl, rfl⟩
  go_wp2_with fail
  refine (unhide D1).mono ?_
  rintro _ w2 ⟨rfl, rfl⟩
  go_wp2_with fail
  refine (unhide D2).mono ?_
  rintro _ w3 ⟨rfl, rfl⟩
  clear KN K1 D1 D2
  go_wp2
  go_ret
  exact ⟨rfl, Below.refl _ _⟩
set_option maxHeartbeats 8000000 in
set_option maxRecDepth 100000 in
theorem under_0bok (w : World) (s : ByteArray) (n : Int) (m j : Nat) (hm : Hid (m = j + 1)) (h0 : 0 < s.size) (hj : j < s.size) (hms : m < s.size) (h80 : s.size < 80) (j1 : ¬ (m : Int) < 1) (j2 : ¬ (m : Int) ≥ (s.size : Int)) (j3 : ¬ (s.size : Int) ≥ 80) (j4 : IntKind.i64.wrap ((m : Int) - 1) = (j : Int))
    (KN : Hid (Calls Tryd.prog 12 #[] w fun e w' => e = .returned (.bool true) ∧ w' = w)) (K1 : Hid (Calls Tryd.prog 7 #[.string s] w fun e w' => e = .returned (.tuple #[.int .i64 n, .int .i64 0]) ∧ w' = w))
    (i1 : (((s[0]'h0).toNat : Int) == 45) = false) (i2 : (1 : Int) < (s.size : Int)) (h1 : 0 < s.size) (i3 : (((s[0]'h1).toNat : Int) == 48) = false) (i6 : ¬ (m : Int) ≤ 0) (D1 : Hid (Calls Tryd.prog 13 #[.int .u8 ((s[j]'hj).toNat : Int)] w fun e w' => e = .returned (.bool true) ∧ w' = w)) (D2 : Hid (Calls Tryd.prog 13 #[.int .u8 ((s[m]'hms).toNat : Int)] w fun e w' => e = .returned (.bool true) ∧ w' = w)) (a1 a2 : ByteArray) (hadd1 : ∀ u : World, (Op.stringOp .add (s.extract 0 m) ⟨#[95]⟩).run Tryd.prog u = .ok (.string a1) u) (hadd2 : ∀ u : World, (Op.stringOp .add a1 (s.extract m s.size)).run Tryd.prog u = .ok (.string a2) u) (q0 : (0 : Int) ≤ (m : Int)) (q1 : (m : Int) ≤ (s.size : Int)) (K2 : ∀ u : World, Hid (Calls Tryd.prog 7 #[.string a2] u fun e w' => e = .returned (.tuple #[.int .i64 n, .int .i64 0]) ∧ w' = u)) :
    Calls Tryd.prog 5 #[.string s, .int .i64 (m : Int)] w fun e w' => e = .returned (.bool true) ∧ Below w.heap.size w w' := by
  go_enter Tryd.func5, Tryd.ntmps5
  go_wp2_with fail
  refine (unhide KN).mono ?_
  rintro _ w0 ⟨rfl, rfl⟩
  go_wp2_with fail
  refine (unhide K1).mono ?_
  rintro _ w1 ⟨rfl, rfl⟩
  go_wp2_with fail
  refine (unhide D1).mono ?_
  rintro _ w2 ⟨rfl, rfl⟩
  go_wp2_with fail
  refine (unhide D2).mono ?_
  rintro _ w3 ⟨rfl, rfl⟩
  go_wp2_with fail
  go_quiet ((go_at_call 7; exact Calls.quiet_of_same (unhide (K2 _))))
  clear KN K1 D1 D2 K2
  go_wp2
  go_ret
  exact ⟨rfl, below_drewN (Below.refl _ _) _⟩
set_option maxHeartbeats 8000000 in
set_option maxRecDepth 100000 in
theorem under_0dle (w : World) (s : ByteArray) (n : Int) (m j : Nat) (hm : Hid (m = j + 1)) (h0 : 0 < s.size) (hj : j < s.size) (hms : m < s.size) (h80 : s.size < 80) (j1 : ¬ (m : Int) < 1) (j2 : ¬ (m : Int) ≥ (s.size : Int)) (j3 : ¬ (s.size : Int) ≥ 80) (j4 : IntKind.i64.wrap ((m : Int) - 1) = (j : Int))
    (KN : Hid (Calls Tryd.prog 12 #[] w fun e w' => e = .returned (.bool true) ∧ w' = w)) (K1 : Hid (Calls Tryd.prog 7 #[.string s] w fun e w' => e = .returned (.tuple #[.int .i64 n, .int .i64 0]) ∧ w' = w))
    (i1 : (((s[0]'h0).toNat : Int) == 45) = false) (i2 : (1 : Int) < (s.size : Int)) (h1 : 0 < s.size) (i3 : (((s[0]'h1).toNat : Int) == 48) = true) (h2 : 1 < s.size) (x : Int) (i5 : x ≥ 0) (KX : Hid (Calls Tryd.prog 14 #[.string ⟨#[120, 111, 98]⟩, .int .u8 ((s[1]'h2).toNat : Int)] w fun e w' => e = .returned (.int .i64 x) ∧ w' = w)) (i6 : (m : Int) ≤ 2) :
    Calls Tryd.prog 5 #[.string s, .int .i64 (m : Int)] w fun e w' => e = .returned (.bool true) ∧ Below w.heap.size w w' := by
  go_enter Tryd.func5, Tryd.ntmps5
  go_wp2_with fail
  refine (unhide KN).mono ?_
  rintro _ w0 ⟨rfl, rfl⟩
  go_wp2_with fail
  refine (unhide K1).mono ?_
  rintro _ w1 ⟨rfl, rfl⟩
  go_wp2_with fail
  refine (unhide KX).mono ?_
  rintro _ w2 ⟨rfl, rfl⟩
  clear KN K1 KX
  go_wp2
  go_ret
  exact ⟨rfl, Below.refl _ _⟩
set_option maxHeartbeats 8000000 in
set_option maxRecDepth 100000 in
theorem under_0dn1 (w : World) (s : ByteArray) (n : Int) (m j : Nat) (hm : Hid (m = j + 1)) (h0 : 0 < s.size) (hj : j < s.size) (hms : m < s.size) (h80 : s.size < 80) (j1 : ¬ (m : Int) < 1) (j2 : ¬ (m : Int) ≥ (s.size : Int)) (j3 : ¬ (s.size : Int) ≥ 80) (j4 : IntKind.i64.wrap ((m : Int) - 1) = (j : Int))
    (KN : Hid (Calls Tryd.prog 12 #[] w fun e w' => e = .returned (.bool true) ∧ w' = w)) (K1 : Hid (Calls Tryd.prog 7 #[.string s] w fun e w' => e = .returned (.tuple #[.int .i64 n, .int .i64 0]) ∧ w' = w))
    (i1 : (((s[0]'h0).toNat : Int) == 45) = false) (i2 : (1 : Int) < (s.size : Int)) (h1 : 0 < s.size) (i3 : (((s[0]'h1).toNat : Int) == 48) = true) (h2 : 1 < s.size) (x : Int) (i5 : x ≥ 0) (KX : Hid (Calls Tryd.prog 14 #[.string ⟨#[120, 111, 98]⟩, .int .u8 ((s[1]'h2).toNat : Int)] w fun e w' => e = .returned (.int .i64 x) ∧ w' = w)) (i6 : ¬ (m : Int) ≤ 2) (D1 : Hid (Calls Tryd.prog 13 #[.int .u8 ((s[j]'hj).toNat : Int)] w fun e w' => e = .returned (.bool false) ∧ w' = w)) :
    Calls Tryd.prog 5 #[.string s, .int .i64 (m : Int)] w fun e w' => e = .returned (.bool true) ∧ Below w.heap.size w w' := by
  go_enter Tryd.func5, Tryd.ntmps5
  go_wp2_with fail
  refine (unhide KN).mono ?_
  rintro _ w0 ⟨rfl, rfl⟩
  go_wp2_with fail
  refine (unhide K1).mono ?_
  rintro _ w1 ⟨rfl, rfl⟩
  go_wp2_with fail
  refine (unhide KX).mono ?_
  rintro _ w2 ⟨rfl, rfl⟩
  go_wp2_with fail
  refine (unhide D1).mono ?_
  rintro _ w3 ⟨rfl, rfl⟩
  clear KN K1 KX D1
  go_wp2
  go_ret
  exact ⟨rfl, Below.refl _ _⟩
set_option maxHeartbeats 8000000 in
set_option maxRecDepth 100000 in
theorem under_0dn2 (w : World) (s : ByteArray) (n : Int) (m j : Nat) (hm : Hid (m = j + 1)) (h0 : 0 < s.size) (hj : j < s.size) (hms : m < s.size) (h80 : s.size < 80) (j1 : ¬ (m : Int) < 1) (j2 : ¬ (m : Int) ≥ (s.size : Int)) (j3 : ¬ (s.size : Int) ≥ 80) (j4 : IntKind.i64.wrap ((m : Int) - 1) = (j : Int))
    (KN : Hid (Calls Tryd.prog 12 #[] w fun e w' => e = .returned (.bool true) ∧ w' = w)) (K1 : Hid (Calls Tryd.prog 7 #[.string s] w fun e w' => e = .returned (.tuple #[.int .i64 n, .int .i64 0]) ∧ w' = w))
    (i1 : (((s[0]'h0).toNat : Int) == 45) = false) (i2 : (1 : Int) < (s.size : Int)) (h1 : 0 < s.size) (i3 : (((s[0]'h1).toNat : Int) == 48) = true) (h2 : 1 < s.size) (x : Int) (i5 : x ≥ 0) (KX : Hid (Calls Tryd.prog 14 #[.string ⟨#[120, 111, 98]⟩, .int .u8 ((s[1]'h2).toNat : Int)] w fun e w' => e = .returned (.int .i64 x) ∧ w' = w)) (i6 : ¬ (m : Int) ≤ 2) (D1 : Hid (Calls Tryd.prog 13 #[.int .u8 ((s[j]'hj).toNat : Int)] w fun e w' => e = .returned (.bool true) ∧ w' = w)) (D2 : Hid (Calls Tryd.prog 13 #[.int .u8 ((s[m]'hms).toNat : Int)] w fun e w' => e = .returned (.bool false) ∧ w' = w)) :
    Calls Tryd.prog 5 #[.string s, .int .i64 (m : Int)] w fun e w' => e = .returned (.bool true) ∧ Below w.heap.size w w' := by
  go_enter Tryd.func5, Tryd.ntmps5
  go_wp2_with fail
  refine (unhide KN).mono ?_
  rintro _ w0 ⟨rfl, rfl⟩
  go_wp2_with fail
  refine (unhide K1).mono ?_
  rintro _ w1 ⟨rfl, rfl⟩
  go_wp2_with fail
  refine (unhide KX).mono ?_
  rintro _ w2 ⟨rfl, rfl⟩
  go_wp2_with fail
  refine (unhide D1).mono ?_
  rintro _ w3 ⟨rfl, rfl⟩
  go_wp2_with fail
  refine (unhide D2).mono ?_
  rintro _ w4 ⟨rfl, rfl⟩
  clear KN K1 KX D1 D2
  go_wp2
  go_ret
  exact ⟨rfl, Below.refl _ _⟩
set_option maxHeartbeats 8000000 in
set_option maxRecDepth 100000 in
theorem under_0dok (w : World) (s : ByteArray) (n : Int) (m j : Nat) (hm : Hid (m = j + 1)) (h0 : 0 < s.size) (hj : j < s.size) (hms : m < s.size) (h80 : s.size < 80) (j1 : ¬ (m : Int) < 1) (j2 : ¬ (m : Int) ≥ (s.size : Int)) (j3 : ¬ (s.size : Int) ≥ 80) (j4 : IntKind.i64.wrap ((m : Int) - 1) = (j : Int))
    (KN : Hid (Calls Tryd.prog 12 #[] w fun e w' => e = .returned (.bool true) ∧ w' = w)) (K1 : Hid (Calls Tryd.prog 7 #[.string s] w fun e w' => e = .returned (.tuple #[.int .i64 n, .int .i64 0]) ∧ w' = w))
    (i1 : (((s[0]'h0).toNat : Int) == 45) = false) (i2 : (1 : Int) < (s.size : Int)) (h1 : 0 < s.size) (i3 : (((s[0]'h1).toNat : Int) == 48) = true) (h2 : 1 < s.size) (x : Int) (i5 : x ≥ 0) (KX : Hid (Calls Tryd.prog 14 #[.string ⟨#[120, 111, 98]⟩, .int .u8 ((s[1]'h2).toNat : Int)] w fun e w' => e = .returned (.int .i64 x) ∧ w' = w)) (i6 : ¬ (m : Int) ≤ 2) (D1 : Hid (Calls Tryd.prog 13 #[.int .u8 ((s[j]'hj).toNat : Int)] w fun e w' => e = .returned (.bool true) ∧ w' = w)) (D2 : Hid (Calls Tryd.prog 13 #[.int .u8 ((s[m]'hms).toNat : Int)] w fun e w' => e = .returned (.bool true) ∧ w' = w)) (a1 a2 : ByteArray) (hadd1 : ∀ u : World, (Op.stringOp .add (s.extract 0 m) ⟨#[95]⟩).run Tryd.prog u = .ok (.string a1) u) (hadd2 : ∀ u : World, (Op.stringOp .add a1 (s.extract m s.size)).run Tryd.prog u = .ok (.string a2) u) (q0 : (0 : Int) ≤ (m : Int)) (q1 : (m : Int) ≤ (s.size : Int)) (K2 : ∀ u : World, Hid (Calls Tryd.prog 7 #[.string a2] u fun e w' => e = .returned (.tuple #[.int .i64 n, .int .i64 0]) ∧ w' = u)) :
    Calls Tryd.prog 5 #[.string s, .int .i64 (m : Int)] w fun e w' => e = .returned (.bool true) ∧ Below w.heap.size w w' := by
  go_enter Tryd.func5, Tryd.ntmps5
  go_wp2_with fail
  refine (unhide KN).mono ?_
  rintro _ w0 ⟨rfl, rfl⟩
  go_wp2_with fail
  refine (unhide K1).mono ?_
  rintro _ w1 ⟨rfl, rfl⟩
  go_wp2_with fail
  refine (unhide KX).mono ?_
  rintro _ w2 ⟨rfl, rfl⟩
  go_wp2_with fail
  refine (unhide D1).mono ?_
  rintro _ w3 ⟨rfl, rfl⟩
  go_wp2_with fail
  refine (unhide D2).mono ?_
  rintro _ w4 ⟨rfl, rfl⟩
  go_wp2_with fail
  go_quiet ((go_at_call 7; exact Calls.quiet_of_same (unhide (K2 _))))
  clear KN K1 KX D1 D2 K2
  go_wp2
  go_ret
  exact ⟨rfl, below_drewN (Below.refl _ _) _⟩
set_option maxHeartbeats 8000000 in
set_option maxRecDepth 100000 in
theorem under_1ale (w : World) (s : ByteArray) (n : Int) (m j : Nat) (hm : Hid (m = j + 1)) (h0 : 0 < s.size) (hj : j < s.size) (hms : m < s.size) (h80 : s.size < 80) (j1 : ¬ (m : Int) < 1) (j2 : ¬ (m : Int) ≥ (s.size : Int)) (j3 : ¬ (s.size : Int) ≥ 80) (j4 : IntKind.i64.wrap ((m : Int) - 1) = (j : Int))
    (KN : Hid (Calls Tryd.prog 12 #[] w fun e w' => e = .returned (.bool true) ∧ w' = w)) (K1 : Hid (Calls Tryd.prog 7 #[.string s] w fun e w' => e = .returned (.tuple #[.int .i64 n, .int .i64 0]) ∧ w' = w))
    (i1 : (((s[0]'h0).toNat : Int) == 45) = true) (i2 : ¬ (1 : Int) + 1 < (s.size : Int)) (i2b : ¬ (2 : Int) < (s.size : Int)) (i6 : (m : Int) ≤ 1) :
    Calls Tryd.prog 5 #[.string s, .int .i64 (m : Int)] w fun e w' => e = .returned (.bool true) ∧ Below w.heap.size w w' := by
  go_enter Tryd.func5, Tryd.ntmps5
  go_wp2_with fail
  refine (unhide KN).mono ?_
  rintro _ w0 ⟨rfl, rfl⟩
  go_wp2_with fail
  refine (unhide K1).mono ?_
  rintro _ w1 ⟨rfl, rfl⟩
  clear KN K1
  go_wp2
  go_ret
  exact ⟨rfl, Below.refl _ _⟩
set_option maxHeartbeats 8000000 in
set_option maxRecDepth 100000 in
theorem under_1ble (w : World) (s : ByteArray) (n : Int) (m j : Nat) (hm : Hid (m = j + 1)) (h0 : 0 < s.size) (hj : j < s.size) (hms : m < s.size) (h80 : s.size < 80) (j1 : ¬ (m : Int) < 1) (j2 : ¬ (m : Int) ≥ (s.size : Int)) (j3 : ¬ (s.size : Int) ≥ 80) (j4 : IntKind.i64.wrap ((m : Int) - 1) = (j : Int))
    (KN : Hid (Calls Tryd.prog 12 #[] w fun e w' => e = .returned (.bool true) ∧ w' = w)) (K1 : Hid (Calls Tryd.prog 7 #[.string s] w fun e w' => e = .returned (.tuple #[.int .i64 n, .int .i64 0]) ∧ w' = w))
    (i1 : (((s[0]'h0).toNat : Int) == 45) = true) (i2 : (2 : Int) < (s.size : Int)) (h1 : 1 < s.size) (i3 : (((s[1]'h1).toNat : Int) == 48) = false) (i6 : (m : Int) ≤ 1) :
    Calls Tryd.prog 5 #[.string s, .int .i64 (m : Int)] w fun e w' => e = .returned (.bool true) ∧ Below w.heap.size w w' := by
  go_enter Tryd.func5, Tryd.ntmps5
  go_wp2_with fail
  refine (unhide KN).mono ?_
  rintro _ w0 ⟨rfl, rfl⟩
  go_wp2_with fail
  refine (unhide K1).mono ?_
  rintro _ w1 ⟨rfl, rfl⟩
  clear KN K1
  go_wp2
  go_ret
  exact ⟨rfl, Below.refl _ _⟩
set_option maxHeartbeats 8000000 in
set_option maxRecDepth 100000 in
theorem under_1bn1 (w : World) (s : ByteArray) (n : Int) (m j : Nat) (hm : Hid (m = j + 1)) (h0 : 0 < s.size) (hj : j < s.size) (hms : m < s.size) (h80 : s.size < 80) (j1 : ¬ (m : Int) < 1) (j2 : ¬ (m : Int) ≥ (s.size : Int)) (j3 : ¬ (s.size : Int) ≥ 80) (j4 : IntKind.i64.wrap ((m : Int) - 1) = (j : Int))
    (KN : Hid (Calls Tryd.prog 12 #[] w fun e w' => e = .returned (.bool true) ∧ w' = w)) (K1 : Hid (Calls Tryd.prog 7 #[.string s] w fun e w' => e = .returned (.tuple #[.int .i64 n, .int .i64 0]) ∧ w' = w))
    (i1 : (((s[0]'h0).toNat : Int) == 45) = true) (i2 : (2 : Int) < (s.size : Int)) (h1 : 1 < s.size) (i3 : (((s[1]'h1).toNat : Int) == 48) = false) (i6 : ¬ (m : Int) ≤ 1) (D1 : Hid (Calls Tryd.prog 13 #[.int .u8 ((s[j]'hj).toNat : Int)] w fun e w' => e = .returned (.bool false) ∧ w' = w)) :
    Calls Tryd.prog 5 #[.string s, .int .i64 (m : Int)] w fun e w' => e = .returned (.bool true) ∧ Below w.heap.size w w' := by
  go_enter Tryd.func5, Tryd.ntmps5
  go_wp2_with fail
  refine (unhide KN).mono ?_
  rintro _ w0 ⟨rfl, rfl⟩
  go_wp2_with fail
  refine (unhide K1).mono ?_
  rintro _ w1 ⟨rfl, rfl⟩
  go_wp2_with fail
  refine (unhide D1).mono ?_
  rintro _ w2 ⟨rfl, rfl⟩
  clear KN K1 D1
  go_wp2
  go_ret
  exact ⟨rfl, Below.refl _ _⟩
set_option maxHeartbeats 8000000 in
set_option maxRecDepth 100000 in
theorem under_1bn2 (w : World) (s : ByteArray) (n : Int) (m j : Nat) (hm : Hid (m = j + 1)) (h0 : 0 < s.size) (hj : j < s.size) (hms : m < s.size) (h80 : s.size < 80) (j1 : ¬ (m : Int) < 1) (j2 : ¬ (m : Int) ≥ (s.size : Int)) (j3 : ¬ (s.size : Int) ≥ 80) (j4 : IntKind.i64.wrap ((m : Int) - 1) = (j : Int))
    (KN : Hid (Calls Tryd.prog 12 #[] w fun e w' => e = .returned (.bool true) ∧ w' = w)) (K1 : Hid (Calls Tryd.prog 7 #[.string s] w fun e w' => e = .returned (.tuple #[.int .i64 n, .int .i64 0]) ∧ w' = w))
    (i1 : (((s[0]'h0).toNat : Int) == 45) = true) (i2 : (2 : Int) < (s.size : Int)) (h1 : 1 < s.size) (i3 : (((s[1]'h1).toNat : Int) == 48) = false) (i6 : ¬ (m : Int) ≤ 1) (D1 : Hid (Calls Tryd.prog 13 #[.int .u8 ((s[j]'hj).toNat : Int)] w fun e w' => e = .returned (.bool true) ∧ w' = w)) (D2 : Hid (Calls Tryd.prog 13 #[.int .u8 ((s[m]'hms).toNat : Int)] w fun e w' => e = .returned (.bool false) ∧ w' = w)) :
    Calls Tryd.prog 5 #[.string s, .int .i64 (m : Int)] w fun e w' => e = .returned (.bool true) ∧ Below w.heap.size w w' := by
  go_enter Tryd.func5, Tryd.ntmps5
  go_wp2_with fail
  refine (unhide KN).mono ?_
  rintro _ w0 ⟨rfl, rfl⟩
  go_wp2_with fail
  refine (unhide K1).mono ?_
  rintro _ w1 ⟨rfl, rfl⟩
  go_wp2_with fail
  refine (unhide D1).mono ?_
  rintro _ w2 ⟨rfl, rfl⟩
  go_wp2_with fail
  refine (unhide D2).mono ?_
  rintro _ w3 ⟨rfl, rfl⟩
  clear KN K1 D1 D2
  go_wp2
  go_ret
  exact ⟨rfl, Below.refl _ _⟩
set_option maxHeartbeats 8000000 in
set_option maxRecDepth 100000 in
theorem under_1bok (w : World) (s : ByteArray) (n : Int) (m j : Nat) (hm : Hid (m = j + 1)) (h0 : 0 < s.size) (hj : j < s.size) (hms : m < s.size) (h80 : s.size < 80) (j1 : ¬ (m : Int) < 1) (j2 : ¬ (m : Int) ≥ (s.size : Int)) (j3 : ¬ (s.size : Int) ≥ 80) (j4 : IntKind.i64.wrap ((m : Int) - 1) = (j : Int))
    (KN : Hid (Calls Tryd.prog 12 #[] w fun e w' => e = .returned (.bool true) ∧ w' = w)) (K1 : Hid (Calls Tryd.prog 7 #[.string s] w fun e w' => e = .returned (.tuple #[.int .i64 n, .int .i64 0]) ∧ w' = w))
    (i1 : (((s[0]'h0).toNat : Int) == 45) = true) (i2 : (2 : Int) < (s.size : Int)) (h1 : 1 < s.size) (i3 : (((s[1]'h1).toNat : Int) == 48) = false) (i6 : ¬ (m : Int) ≤ 1) (D1 : Hid (Calls Tryd.prog 13 #[.int .u8 ((s[j]'hj).toNat : Int)] w fun e w' => e = .returned (.bool true) ∧ w' = w)) (D2 : Hid (Calls Tryd.prog 13 #[.int .u8 ((s[m]'hms).toNat : Int)] w fun e w' => e = .returned (.bool true) ∧ w' = w)) (a1 a2 : ByteArray) (hadd1 : ∀ u : World, (Op.stringOp .add (s.extract 0 m) ⟨#[95]⟩).run Tryd.prog u = .ok (.string a1) u) (hadd2 : ∀ u : World, (Op.stringOp .add a1 (s.extract m s.size)).run Tryd.prog u = .ok (.string a2) u) (q0 : (0 : Int) ≤ (m : Int)) (q1 : (m : Int) ≤ (s.size : Int)) (K2 : ∀ u : World, Hid (Calls Tryd.prog 7 #[.string a2] u fun e w' => e = .returned (.tuple #[.int .i64 n, .int .i64 0]) ∧ w' = u)) :
    Calls Tryd.prog 5 #[.string s, .int .i64 (m : Int)] w fun e w' => e = .returned (.bool true) ∧ Below w.heap.size w w' := by
  go_enter Tryd.func5, Tryd.ntmps5
  go_wp2_with fail
  refine (unhide KN).mono ?_
  rintro _ w0 ⟨rfl, rfl⟩
  go_wp2_with fail
  refine (unhide K1).mono ?_
  rintro _ w1 ⟨rfl, rfl⟩
  go_wp2_with fail
  refine (unhide D1).mono ?_
  rintro _ w2 ⟨rfl, rfl⟩
  go_wp2_with fail
  refine (unhide D2).mono ?_
  rintro _ w3 ⟨rfl, rfl⟩
  go_wp2_with fail
  go_quiet ((go_at_call 7; exact Calls.quiet_of_same (unhide (K2 _))))
  clear KN K1 D1 D2 K2
  go_wp2
  go_ret
  exact ⟨rfl, below_drewN (Below.refl _ _) _⟩
set_option maxHeartbeats 8000000 in
set_option maxRecDepth 100000 in
theorem under_1dle (w : World) (s : ByteArray) (n : Int) (m j : Nat) (hm : Hid (m = j + 1)) (h0 : 0 < s.size) (hj : j < s.size) (hms : m < s.size) (h80 : s.size < 80) (j1 : ¬ (m : Int) < 1) (j2 : ¬ (m : Int) ≥ (s.size : Int)) (j3 : ¬ (s.size : Int) ≥ 80) (j4 : IntKind.i64.wrap ((m : Int) - 1) = (j : Int))
    (KN : Hid (Calls Tryd.prog 12 #[] w fun e w' => e = .returned (.bool true) ∧ w' = w)) (K1 : Hid (Calls Tryd.prog 7 #[.string s] w fun e w' => e = .returned (.tuple #[.int .i64 n, .int .i64 0]) ∧ w' = w))
    (i1 : (((s[0]'h0).toNat : Int) == 45) = true) (i2 : (2 : Int) < (s.size : Int)) (h1 : 1 < s.size) (i3 : (((s[1]'h1).toNat : Int) == 48) = true) (h2 : 2 < s.size) (x : Int) (i5 : x ≥ 0) (KX : Hid (Calls Tryd.prog 14 #[.string ⟨#[120, 111, 98]⟩, .int .u8 ((s[2]'h2).toNat : Int)] w fun e w' => e = .returned (.int .i64 x) ∧ w' = w)) (i6 : (m : Int) ≤ 3) :
    Calls Tryd.prog 5 #[.string s, .int .i64 (m : Int)] w fun e w' => e = .returned (.bool true) ∧ Below w.heap.size w w' := by
  go_enter Tryd.func5, Tryd.ntmps5
  go_wp2_with fail
  refine (unhide KN).mono ?_
  rintro _ w0 ⟨rfl, rfl⟩
  go_wp2_with fail
  refine (unhide K1).mono ?_
  rintro _ w1 ⟨rfl, rfl⟩
  go_wp2_with fail
  refine (unhide KX).mono ?_
  rintro _ w2 ⟨rfl, rfl⟩
  clear KN K1 KX
  go_wp2
  go_ret
  exact ⟨rfl, Below.refl _ _⟩
set_option maxHeartbeats 8000000 in
set_option maxRecDepth 100000 in
theorem under_1dn1 (w : World) (s : ByteArray) (n : Int) (m j : Nat) (hm : Hid (m = j + 1)) (h0 : 0 < s.size) (hj : j < s.size) (hms : m < s.size) (h80 : s.size < 80) (j1 : ¬ (m : Int) < 1) (j2 : ¬ (m : Int) ≥ (s.size : Int)) (j3 : ¬ (s.size : Int) ≥ 80) (j4 : IntKind.i64.wrap ((m : Int) - 1) = (j : Int))
    (KN : Hid (Calls Tryd.prog 12 #[] w fun e w' => e = .returned (.bool true) ∧ w' = w)) (K1 : Hid (Calls Tryd.prog 7 #[.string s] w fun e w' => e = .returned (.tuple #[.int .i64 n, .int .i64 0]) ∧ w' = w))
    (i1 : (((s[0]'h0).toNat : Int) == 45) = true) (i2 : (2 : Int) < (s.size : Int)) (h1 : 1 < s.size) (i3 : (((s[1]'h1).toNat : Int) == 48) = true) (h2 : 2 < s.size) (x : Int) (i5 : x ≥ 0) (KX : Hid (Calls Tryd.prog 14 #[.string ⟨#[120, 111, 98]⟩, .int .u8 ((s[2]'h2).toNat : Int)] w fun e w' => e = .returned (.int .i64 x) ∧ w' = w)) (i6 : ¬ (m : Int) ≤ 3) (D1 : Hid (Calls Tryd.prog 13 #[.int .u8 ((s[j]'hj).toNat : Int)] w fun e w' => e = .returned (.bool false) ∧ w' = w)) :
    Calls Tryd.prog 5 #[.string s, .int .i64 (m : Int)] w fun e w' => e = .returned (.bool true) ∧ Below w.heap.size w w' := by
  go_enter Tryd.func5, Tryd.ntmps5
  go_wp2_with fail
  refine (unhide KN).mono ?_
  rintro _ w0 ⟨rfl, rfl⟩
  go_wp2_with fail
  refine (unhide K1).mono ?_
  rintro _ w1 ⟨rfl, rfl⟩
  go_wp2_with fail
  refine (unhide KX).mono ?_
  rintro _ w2 ⟨rfl, rfl⟩
  go_wp2_with fail
  refine (unhide D1).mono ?_
  rintro _ w3 ⟨rfl, rfl⟩
  clear KN K1 KX D1
  go_wp2
  go_ret
  exact ⟨rfl, Below.refl _ _⟩
set_option maxHeartbeats 8000000 in
set_option maxRecDepth 100000 in
theorem under_1dn2 (w : World) (s : ByteArray) (n : Int) (m j : Nat) (hm : Hid (m = j + 1)) (h0 : 0 < s.size) (hj : j < s.size) (hms : m < s.size) (h80 : s.size < 80) (j1 : ¬ (m : Int) < 1) (j2 : ¬ (m : Int) ≥ (s.size : Int)) (j3 : ¬ (s.size : Int) ≥ 80) (j4 : IntKind.i64.wrap ((m : Int) - 1) = (j : Int))
    (KN : Hid (Calls Tryd.prog 12 #[] w fun e w' => e = .returned (.bool true) ∧ w' = w)) (K1 : Hid (Calls Tryd.prog 7 #[.string s] w fun e w' => e = .returned (.tuple #[.int .i64 n, .int .i64 0]) ∧ w' = w))
    (i1 : (((s[0]'h0).toNat : Int) == 45) = true) (i2 : (2 : Int) < (s.size : Int)) (h1 : 1 < s.size) (i3 : (((s[1]'h1).toNat : Int) == 48) = true) (h2 : 2 < s.size) (x : Int) (i5 : x ≥ 0) (KX : Hid (Calls Tryd.prog 14 #[.string ⟨#[120, 111, 98]⟩, .int .u8 ((s[2]'h2).toNat : Int)] w fun e w' => e = .returned (.int .i64 x) ∧ w' = w)) (i6 : ¬ (m : Int) ≤ 3) (D1 : Hid (Calls Tryd.prog 13 #[.int .u8 ((s[j]'hj).toNat : Int)] w fun e w' => e = .returned (.bool true) ∧ w' = w)) (D2 : Hid (Calls Tryd.prog 13 #[.int .u8 ((s[m]'hms).toNat : Int)] w fun e w' => e = .returned (.bool false) ∧ w' = w)) :
    Calls Tryd.prog 5 #[.string s, .int .i64 (m : Int)] w fun e w' => e = .returned (.bool true) ∧ Below w.heap.size w w' := by
  go_enter Tryd.func5, Tryd.ntmps5
  go_wp2_with fail
  refine (unhide KN).mono ?_
  rintro _ w0 ⟨rfl, rfl⟩
  go_wp2_with fail
  refine (unhide K1).mono ?_
  rintro _ w1 ⟨rfl, rfl⟩
  go_wp2_with fail
  refine (unhide KX).mono ?_
  rintro _ w2 ⟨rfl, rfl⟩
  go_wp2_with fail
  refine (unhide D1).mono ?_
  rintro _ w3 ⟨rfl, rfl⟩
  go_wp2_with fail
  refine (unhide D2).mono ?_
  rintro _ w4 ⟨rfl, rfl⟩
  clear KN K1 KX D1 D2
  go_wp2
  go_ret
  exact ⟨rfl, Below.refl _ _⟩
set_option maxHeartbeats 8000000 in
set_option maxRecDepth 100000 in
theorem under_1dok (w : World) (s : ByteArray) (n : Int) (m j : Nat) (hm : Hid (m = j + 1)) (h0 : 0 < s.size) (hj : j < s.size) (hms : m < s.size) (h80 : s.size < 80) (j1 : ¬ (m : Int) < 1) (j2 : ¬ (m : Int) ≥ (s.size : Int)) (j3 : ¬ (s.size : Int) ≥ 80) (j4 : IntKind.i64.wrap ((m : Int) - 1) = (j : Int))
    (KN : Hid (Calls Tryd.prog 12 #[] w fun e w' => e = .returned (.bool true) ∧ w' = w)) (K1 : Hid (Calls Tryd.prog 7 #[.string s] w fun e w' => e = .returned (.tuple #[.int .i64 n, .int .i64 0]) ∧ w' = w))
    (i1 : (((s[0]'h0).toNat : Int) == 45) = true) (i2 : (2 : Int) < (s.size : Int)) (h1 : 1 < s.size) (i3 : (((s[1]'h1).toNat : Int) == 48) = true) (h2 : 2 < s.size) (x : Int) (i5 : x ≥ 0) (KX : Hid (Calls Tryd.prog 14 #[.string ⟨#[120, 111, 98]⟩, .int .u8 ((s[2]'h2).toNat : Int)] w fun e w' => e = .returned (.int .i64 x) ∧ w' = w)) (i6 : ¬ (m : Int) ≤ 3) (D1 : Hid (Calls Tryd.prog 13 #[.int .u8 ((s[j]'hj).toNat : Int)] w fun e w' => e = .returned (.bool true) ∧ w' = w)) (D2 : Hid (Calls Tryd.prog 13 #[.int .u8 ((s[m]'hms).toNat : Int)] w fun e w' => e = .returned (.bool true) ∧ w' = w)) (a1 a2 : ByteArray) (hadd1 : ∀ u : World, (Op.stringOp .add (s.extract 0 m) ⟨#[95]⟩).run Tryd.prog u = .ok (.string a1) u) (hadd2 : ∀ u : World, (Op.stringOp .add a1 (s.extract m s.size)).run Tryd.prog u = .ok (.string a2) u) (q0 : (0 : Int) ≤ (m : Int)) (q1 : (m : Int) ≤ (s.size : Int)) (K2 : ∀ u : World, Hid (Calls Tryd.prog 7 #[.string a2] u fun e w' => e = .returned (.tuple #[.int .i64 n, .int .i64 0]) ∧ w' = u)) :
    Calls Tryd.prog 5 #[.string s, .int .i64 (m : Int)] w fun e w' => e = .returned (.bool true) ∧ Below w.heap.size w w' := by
  go_enter Tryd.func5, Tryd.ntmps5
  go_wp2_with fail
  refine (unhide KN).mono ?_
  rintro _ w0 ⟨rfl, rfl⟩
  go_wp2_with fail
  refine (unhide K1).mono ?_
  rintro _ w1 ⟨rfl, rfl⟩
  go_wp2_with fail
  refine (unhide KX).mono ?_
  rintro _ w2 ⟨rfl, rfl⟩
  go_wp2_with fail
  refine (unhide D1).mono ?_
  rintro _ w3 ⟨rfl, rfl⟩
  go_wp2_with fail
  refine (unhide D2).mono ?_
  rintro _ w4 ⟨rfl, rfl⟩
  go_wp2_with fail
  go_quiet ((go_at_call 7; exact Calls.quiet_of_same (unhide (K2 _))))
  clear KN K1 KX D1 D2 K2
  go_wp2
  go_ret
  exact ⟨rfl, below_drewN (Below.refl _ _) _⟩
end Go.Proofs.YtjlbbmpefjkamaaDoor.bigs
