/- The law NumBack. -/
import Derived.Test.YtjlbbmpefjkamaaDoorNumBaseW
set_option linter.unusedVariables false
namespace Go.Proofs.YtjlbbmpefjkamaaDoor.bigs
open Go.RowKit Go.Sort
theorem read_text (w : World) (b : Nat) (hb : GoodB b) (n : Int) (h0 : -9223372036854775808 ≤ n) (h1 : n ≤ 9223372036854775807) :
    Calls Tryd.prog 7 #[.string ⟨(tellB b n).toArray⟩] w fun e w' => e = .returned (.tuple #[.int .i64 n, .int .i64 0]) ∧ w' = w := by
  have k := readN_any w ⟨(tellB b n).toArray⟩
  rw [show (⟨(tellB b n).toArray⟩ : ByteArray).data.toList = tellB b n by simp, read_tell hb n h0 h1] at k
  exact k
theorem text_same (n m : Int) (h0 : -9223372036854775808 ≤ n) (h1 : n ≤ 9223372036854775807) (k0 : -9223372036854775808 ≤ m) (k1 : m ≤ 9223372036854775807) : ((⟨(tellB 10 n).toArray⟩ : ByteArray).toList == (⟨(tellB 10 m).toArray⟩ : ByteArray).toList) = (n == m) := by
  rw [ByteArray.toList_eq, ByteArray.toList_eq]
  by_cases e : n = m
  · subst e; simp
  · have : tellB 10 n ≠ tellB 10 m := fun h => e (tell_inj (.inr (.inr (.inl rfl))) n m h0 h1 k0 k1 h)
    rw [beq_false_of_ne this, beq_false_of_ne e]
set_option maxHeartbeats 8000000 in
set_option maxRecDepth 100000 in
theorem back_good (w : World) (n m : Int) (b : Nat) (A B S : ByteArray) (f : Bool)
    (KN : Hid (Calls Tryd.prog 12 #[] w fun e w' => e = .returned (.bool true) ∧ w' = w)) (HT : Hid (NumTabs w))
    (KA : ∀ W, Hid (NumTabs W) → Hid (Calls Tryd.prog 10 #[.int .i64 n] W fun e w' => e = .returned (.string A) ∧ Below W.heap.size W w'))
    (KB : ∀ W, Hid (NumTabs W) → Hid (Calls Tryd.prog 10 #[.int .i64 m] W fun e w' => e = .returned (.string B) ∧ Below W.heap.size W w'))
    (KS : ∀ W, Hid (NumTabs W) → Hid (Calls Tryd.prog 9 #[.int .i64 n, .int .i64 (b : Int)] W fun e w' => e = .returned (.tuple #[.string S, .int .i64 0]) ∧ Below W.heap.size W w'))
    (RA : ∀ W, Hid (Calls Tryd.prog 7 #[.string A] W fun e w' => e = .returned (.tuple #[.int .i64 n, .int .i64 0]) ∧ w' = W))
    (RS : ∀ W, Hid (Calls Tryd.prog 7 #[.string S] W fun e w' => e = .returned (.tuple #[.int .i64 n, .int .i64 0]) ∧ w' = W))
    (i1 : (A.toList == B.toList) = f) (i2 : (n == m) = f) (i3 : (S.size : Int) ≤ 67) :
    Calls Tryd.prog 4 #[.int .i64 n, .int .i64 m, .int .i64 (b : Int)] w fun e w' => e = .returned (.bool true) ∧ Below w.heap.size w w' := by
  go_enter Tryd.func4, Tryd.ntmps4
  go_wp2_with fail
  refine (unhide KN).mono ?_
  rintro _ w0 ⟨rfl, rfl⟩
  go_wp2_with fail
  refine (unhide (KA _ HT)).mono ?_
  rintro _ w1 ⟨rfl, b1⟩
  have B1 := hide b1
  have T1 := hide ((unhide HT).below b1)
  clear b1 HT KN
  go_wp2_with fail
  refine (unhide (RA _)).mono ?_
  rintro _ w2 ⟨rfl, rfl⟩
  go_wp2_with fail
  refine (unhide (KA _ T1)).mono ?_
  rintro _ w3 ⟨rfl, b3⟩
  have B3 := hide ((unhide B1).trans (b3.mono (unhide B1).size))
  have T3 := hide ((unhide T1).below b3)
  clear b3 B1 T1 KA RA
  go_wp2_with fail
  refine (unhide (KB _ T3)).mono ?_
  rintro _ w4 ⟨rfl, b4⟩
  have B4 := hide ((unhide B3).trans (b4.mono (unhide B3).size))
  have T4 := hide ((unhide T3).below b4)
  clear b4 B3 T3 KB
  go_wp2_with fail
  refine (unhide (KS _ T4)).mono ?_
  rintro _ w5 ⟨rfl, b5⟩
  have B5 := hide ((unhide B4).trans (b5.mono (unhide B4).size))
  clear b5 B4 T4 KS
  go_wp2_with fail
  refine (unhide (RS _)).mono ?_
  rintro _ w6 ⟨rfl, rfl⟩
  clear RS
  go_wp2
  go_ret
  exact ⟨rfl, unhide B5⟩
set_option maxHeartbeats 8000000 in
set_option maxRecDepth 100000 in
theorem back_bad (w : World) (n m b : Int) (A B : ByteArray) (f : Bool)
    (KN : Hid (Calls Tryd.prog 12 #[] w fun e w' => e = .returned (.bool true) ∧ w' = w)) (HT : Hid (NumTabs w))
    (KA : ∀ W, Hid (NumTabs W) → Hid (Calls Tryd.prog 10 #[.int .i64 n] W fun e w' => e = .returned (.string A) ∧ Below W.heap.size W w'))
    (KB : ∀ W, Hid (NumTabs W) → Hid (Calls Tryd.prog 10 #[.int .i64 m] W fun e w' => e = .returned (.string B) ∧ Below W.heap.size W w'))
    (KS : ∀ W, Hid (Calls Tryd.prog 9 #[.int .i64 n, .int .i64 b] W fun e w' => e = .returned (.tuple #[.string ⟨#[]⟩, .int .i64 1]) ∧ w' = W))
    (RA : ∀ W, Hid (Calls Tryd.prog 7 #[.string A] W fun e w' => e = .returned (.tuple #[.int .i64 n, .int .i64 0]) ∧ w' = W))
    (i1 : (A.toList == B.toList) = f) (i2 : (n == m) = f) :
    Calls Tryd.prog 4 #[.int .i64 n, .int .i64 m, .int .i64 b] w fun e w' => e = .returned (.bool true) ∧ Below w.heap.size w w' := by
  go_enter Tryd.func4, Tryd.ntmps4
  go_wp2_with fail
  refine (unhide KN).mono ?_
  rintro _ w0 ⟨rfl, rfl⟩
  go_wp2_with fail
  refine (unhide (KA _ HT)).mono ?_
  rintro _ w1 ⟨rfl, b1⟩
  have B1 := hide b1
  have T1 := hide ((unhide HT).below b1)
  clear b1 HT KN
  go_wp2_with fail
  refine (unhide (RA _)).mono ?_
  rintro _ w2 ⟨rfl, rfl⟩
  go_wp2_with fail
  refine (unhide (KA _ T1)).mono ?_
  rintro _ w3 ⟨rfl, b3⟩
  have B3 := hide ((unhide B1).trans (b3.mono (unhide B1).size))
  have T3 := hide ((unhide T1).below b3)
  clear b3 B1 T1 KA RA
  go_wp2_with fail
  refine (unhide (KB _ T3)).mono ?_
  rintro _ w4 ⟨rfl, b4⟩
  have B4 := hide ((unhide B3).trans (b4.mono (unhide B3).size))
  clear b4 B3 T3 KB
  go_wp2_with fail
  refine (unhide (KS _)).mono ?_
  rintro _ w5 ⟨rfl, rfl⟩
  clear KS
  go_wp2
  go_ret
  exact ⟨rfl, unhide B4⟩
theorem lawBackN (w : World) (n m b : Int) (h0 : -9223372036854775808 ≤ n) (h1 : n ≤ 9223372036854775807) (k0 : -9223372036854775808 ≤ m) (k1 : m ≤ 9223372036854775807) (ht : NumTabs w) :
    Calls Tryd.prog 4 #[.int .i64 n, .int .i64 m, .int .i64 b] w fun e w' => e = .returned (.bool true) ∧ Below w.heap.size w w' := by
  have g10 : GoodB 10 := .inr (.inr (.inl rfl))
  by_cases hb : b = 2 ∨ b = 8 ∨ b = 10 ∨ b = 16
  · obtain ⟨c, rfl⟩ : ∃ c : Nat, b = (c : Int) := ⟨b.toNat, by omega⟩
    have hc : GoodB c := by unfold GoodB; omega
    exact back_good w n m c _ _ _ (n == m) (hide (nums_any w)) (hide ht) (fun W h => hide (textN_any W n h0 h1 (unhide h))) (fun W h => hide (textN_any W m k0 k1 (unhide h))) (fun W h => hide (baseN_any W n c hc h0 h1 (unhide h))) (fun W => hide (read_text W 10 g10 n h0 h1)) (fun W => hide (read_text W c hc n h0 h1)) (text_same n m h0 h1 k0 k1) rfl (by rw [nsize]; have := tell_len hc n h0 h1; omega)
  · exact back_bad w n m b _ _ (n == m) (hide (nums_any w)) (hide ht) (fun W h => hide (textN_any W n h0 h1 (unhide h))) (fun W h => hide (textN_any W m k0 k1 (unhide h))) (fun W => hide (baseN_bad W n b (by omega) (by omega) (by omega) (by omega))) (fun W => hide (read_text W 10 g10 n h0 h1)) (text_same n m h0 h1 k0 k1) rfl
end Go.Proofs.YtjlbbmpefjkamaaDoor.bigs
