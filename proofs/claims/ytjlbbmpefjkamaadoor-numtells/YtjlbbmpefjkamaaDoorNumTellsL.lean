/- The law NumTells. -/
import Derived.Test.YtjlbbmpefjkamaaDoorNumRefR
import Derived.Test.YtjlbbmpefjkamaaDoorNumBackL
set_option linter.unusedVariables false
namespace Go.Proofs.YtjlbbmpefjkamaaDoor.bigs
open Go.RowKit Go.Sort
set_option maxHeartbeats 8000000 in
set_option maxRecDepth 100000 in
theorem tells_bad (w : World) (s T : ByteArray) (n b x y : Int) (i1 : (b == 2) = false) (i2 : (b == 8) = false) (i3 : (b == 10) = false) (i4 : (b == 16) = false) (j1 : ¬ b = 2) (j2 : ¬ b = 8) (j3 : ¬ b = 10) (j4 : ¬ b = 16) (k1 : (b != 2) = true) (k2 : (b != 8) = true) (k3 : (b != 10) = true) (k4 : (b != 16) = true)
    (HT : Hid (NumTabs w))
    (KR : Hid (Calls Tryd.prog 7 #[.string s] w fun e w' => e = .returned (.tuple #[.int .i64 x, .int .i64 y]) ∧ w' = w))
    (KD : Hid (Calls Tryd.prog 8 #[.string s] w fun e w' => e = .returned (.tuple #[.int .i64 x, .int .i64 y]) ∧ Below w.heap.size w w'))
    (KB : ∀ W, Hid (Calls Tryd.prog 9 #[.int .i64 n, .int .i64 b] W fun e w' => e = .returned (.tuple #[.string ⟨#[]⟩, .int .i64 1]) ∧ w' = W))
    (KT : ∀ W, Hid (NumTabs W) → Hid (Calls Tryd.prog 10 #[.int .i64 n] W fun e w' => e = .returned (.string T) ∧ Below W.heap.size W w'))
    (KX : ∀ W, Hid (Calls Tryd.prog 11 #[.int .i64 n, .int .i64 10] W fun e w' => e = .returned (.string T) ∧ w' = W)) :
    Calls Tryd.prog 3 #[.string s, .int .i64 n, .int .i64 b] w fun e w' => e = .returned (.bool true) ∧ Below w.heap.size w w' := by
  go_enter Tryd.func3, Tryd.ntmps3
  go_wp2_with fail
  refine (unhide KR).mono ?_
  rintro _ w0 ⟨rfl, rfl⟩
  go_wp2_with fail
  refine (unhide KD).mono ?_
  rintro _ w1 ⟨rfl, b1⟩
  have B1 := hide b1
  have T1 := hide ((unhide HT).below b1)
  clear b1 HT KR KD
  go_wp2_with fail
  refine (unhide (KB _)).mono ?_
  rintro _ w2 ⟨rfl, rfl⟩
  go_wp2_with fail
  refine (unhide (KT _ T1)).mono ?_
  rintro _ w3 ⟨rfl, b3⟩
  have B3 := hide ((unhide B1).trans (b3.mono (unhide B1).size))
  clear b3 B1 T1 KT KB
  go_wp2_with fail
  refine (unhide (KX _)).mono ?_
  rintro _ w4 ⟨rfl, rfl⟩
  clear KX
  go_wp2
  go_ret
  exact ⟨rfl, unhide B3⟩
set_option maxHeartbeats 8000000 in
set_option maxRecDepth 100000 in
theorem tells_good (w : World) (s T S : ByteArray) (n b x y : Int) (hb : b = 2 ∨ b = 8 ∨ b = 10 ∨ b = 16)
    (HT : Hid (NumTabs w))
    (KR : Hid (Calls Tryd.prog 7 #[.string s] w fun e w' => e = .returned (.tuple #[.int .i64 x, .int .i64 y]) ∧ w' = w))
    (KD : Hid (Calls Tryd.prog 8 #[.string s] w fun e w' => e = .returned (.tuple #[.int .i64 x, .int .i64 y]) ∧ Below w.heap.size w w'))
    (KB : ∀ W, Hid (NumTabs W) → Hid (Calls Tryd.prog 9 #[.int .i64 n, .int .i64 b] W fun e w' => e = .returned (.tuple #[.string S, .int .i64 0]) ∧ Below W.heap.size W w'))
    (KT : ∀ W, Hid (NumTabs W) → Hid (Calls Tryd.prog 10 #[.int .i64 n] W fun e w' => e = .returned (.string T) ∧ Below W.heap.size W w'))
    (KX : ∀ W, Hid (Calls Tryd.prog 11 #[.int .i64 n, .int .i64 10] W fun e w' => e = .returned (.string T) ∧ w' = W))
    (KY : ∀ W, Hid (Calls Tryd.prog 11 #[.int .i64 n, .int .i64 b] W fun e w' => e = .returned (.string S) ∧ w' = W)) :
    Calls Tryd.prog 3 #[.string s, .int .i64 n, .int .i64 b] w fun e w' => e = .returned (.bool true) ∧ Below w.heap.size w w' := by
  rcases hb with rfl | rfl | rfl | rfl
  all_goals
    go_enter Tryd.func3, Tryd.ntmps3
    go_wp2_with fail
    refine (unhide KR).mono ?_
    rintro _ w0 ⟨rfl, rfl⟩
    go_wp2_with fail
    refine (unhide KD).mono ?_
    rintro _ w1 ⟨rfl, b1⟩
    have B1 := hide b1
    have T1 := hide ((unhide HT).below b1)
    clear b1 HT KR KD
    go_wp2_with fail
    refine (unhide (KB _ T1)).mono ?_
    rintro _ w2 ⟨rfl, b2⟩
    have B2 := hide ((unhide B1).trans (b2.mono (unhide B1).size))
    have T2 := hide ((unhide T1).below b2)
    clear b2 B1 T1 KB
    go_wp2_with fail
    refine (unhide (KT _ T2)).mono ?_
    rintro _ w3 ⟨rfl, b3⟩
    have B3 := hide ((unhide B2).trans (b3.mono (unhide B2).size))
    clear b3 B2 T2 KT
    go_wp2_with fail
    refine (unhide (KX _)).mono ?_
    rintro _ w4 ⟨rfl, rfl⟩
    clear KX
    go_wp2_with fail
    refine (unhide (KY _)).mono ?_
    rintro _ w5 ⟨rfl, rfl⟩
    clear KY
    go_wp2
    go_ret
    exact ⟨rfl, unhide B3⟩
theorem lawTellsN (w : World) (s : ByteArray) (n b : Int) (h0 : -9223372036854775808 ≤ n) (h1 : n ≤ 9223372036854775807) (ht : NumTabs w) :
    Calls Tryd.prog 3 #[.string s, .int .i64 n, .int .i64 b] w fun e w' => e = .returned (.bool true) ∧ Below w.heap.size w w' := by
  have g10 : GoodB 10 := .inr (.inr (.inl rfl))
  by_cases hb : b = 2 ∨ b = 8 ∨ b = 10 ∨ b = 16
  · obtain ⟨c, rfl⟩ : ∃ c : Nat, b = (c : Int) := ⟨b.toNat, by omega⟩
    have hc : GoodB c := by unfold GoodB; omega
    exact tells_good w s _ _ n c _ _ hb (hide ht) (hide (readN_any w s)) (hide (refRead_any w s)) (fun W h => hide (baseN_any W n c hc h0 h1 (unhide h))) (fun W h => hide (textN_any W n h0 h1 (unhide h))) (fun W => hide (refText_any W n 10 g10 h0 h1)) (fun W => hide (refText_any W n c hc h0 h1))
  · exact tells_bad w s _ n b _ _ (beq_false_of_ne (by omega)) (beq_false_of_ne (by omega)) (beq_false_of_ne (by omega)) (beq_false_of_ne (by omega)) (by omega) (by omega) (by omega) (by omega) (bne_iff_ne.2 (by omega)) (bne_iff_ne.2 (by omega)) (bne_iff_ne.2 (by omega)) (bne_iff_ne.2 (by omega)) (hide ht) (hide (readN_any w s)) (hide (refRead_any w s)) (fun W => hide (baseN_bad W n b (by omega) (by omega) (by omega) (by omega))) (fun W h => hide (textN_any W n h0 h1 (unhide h))) (fun W => hide (refText_any W n 10 g10 h0 h1))
end Go.Proofs.YtjlbbmpefjkamaaDoor.bigs
