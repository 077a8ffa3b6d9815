/- The walks of the document's Scalar, CodeOf. -/
import Derived.Test.YtfgmjnfinbmkpaaDoorUtfNext
import Derived.WalkSmall
set_option linter.unusedVariables false
namespace Go.Proofs.YtfgmjnfinbmkpaaDoor.utfs
open Go.RowKit

set_option maxHeartbeats 400000 in
theorem scalar_any (n : Int) (w : World) : Calls Tryd.prog 28 #[.int .i64 n] w fun e w' => e = .returned (.bool (sc n)) ∧ w' = w := by
  have key : ∀ b : Bool, sc n = b → Calls Tryd.prog 28 #[.int .i64 n] w (fun e w' => e = .returned (.bool b) ∧ w' = w) → Calls Tryd.prog 28 #[.int .i64 n] w (fun e w' => e = .returned (.bool (sc n)) ∧ w' = w) := fun b e h => by rw [e]; exact h
  by_cases h0 : 0 ≤ n
  · have t0 : decide (0 ≤ n) = true := decide_eq_true h0
    by_cases h1 : n ≤ 1114111
    · have t1 : decide (n ≤ 1114111) = true := decide_eq_true h1
      by_cases h2 : n < 55296
      · have t2 : decide (n < 55296) = true := decide_eq_true h2
        refine key true (decide_eq_true (by omega)) ?_
        clear key
        go_enter Tryd.func28, Tryd.ntmps28
        go_wp2
        go_ret
        exact ⟨rfl, rfl⟩
      · have t2 : decide (n < 55296) = false := decide_eq_false h2
        by_cases h3 : 57343 < n
        · refine key true (decide_eq_true (by omega)) ?_
          have t3 : decide (57343 < n) = true := decide_eq_true h3
          clear key
          go_enter Tryd.func28, Tryd.ntmps28
          go_wp2
          go_ret
          exact ⟨rfl, rfl⟩
        · refine key false (decide_eq_false (by omega)) ?_
          have t3 : decide (57343 < n) = false := decide_eq_false h3
          clear key
          go_enter Tryd.func28, Tryd.ntmps28
          go_wp2
          go_ret
          exact ⟨rfl, rfl⟩
    · have t1 : decide (n ≤ 1114111) = false := decide_eq_false h1
      refine key false (decide_eq_false (by omega)) ?_
      clear key
      go_enter Tryd.func28, Tryd.ntmps28
      go_wp2
      go_ret
      exact ⟨rfl, rfl⟩
  · have t0 : decide (0 ≤ n) = false := decide_eq_false h0
    refine key false (decide_eq_false (by omega)) ?_
    clear key
    go_enter Tryd.func28, Tryd.ntmps28
    go_wp2
    go_ret
    exact ⟨rfl, rfl⟩

theorem run_chr (x : Int) (w : World) : (convert 33 9 (.slice (some ⟨w.heap.size, 0, none⟩) 1 1)).run Tryd.prog (w.alloc (.cells #[.int .u8 x] 5)) = .ok (.string ⟨#[x.toNat.toUInt8]⟩) (w.alloc (.cells #[.int .u8 x] 5)) := by
  rw [run_convert_bytes_string _ 33 9 5 _ _ _ Tryd.underlying33 Tryd.underlying5 Tryd.underlying9]
  have hl : (loadCells ⟨w.heap.size, 0, none⟩ 1).run Tryd.prog (w.alloc (.cells #[.int .u8 x] 5)) = .ok (([x].map (Value.int .u8)).toArray) (w.alloc (.cells #[.int .u8 x] 5)) :=
    run_loadCells_list _ _ [.int .u8 x] (by intro j u hj; match j, hj with | 0, hj => simp at hj; subst hj; simp [Addr.add])
  rw [run_bytesToString _ _ _ _ [x] hl]
  rfl

set_option maxHeartbeats 400000 in
theorem chr_any (x : Int) (w : World) (h0 : 0 ≤ x) (h1 : x ≤ 255) : Calls Tryd.prog 39 #[.int .i64 x] w fun e w' => e = .returned (.string ⟨#[x.toNat.toUInt8]⟩) ∧ Below w.heap.size w w' := by
  have hcv := run_chr x w
  go_enter Tryd.func39, Tryd.ntmps39
  go_wp2
  go_ret
  exact ⟨rfl, (Below.refl _ w).alloc (Nat.le_refl _) _⟩

theorem ret_str {a b : ByteArray} (h : a = b) : Ending.returned (.string a) = .returned (.string b) := by rw [h]
theorem two_bytes (a b : UInt8) : (⟨#[a]⟩ : ByteArray) ++ ⟨#[b]⟩ = ⟨#[a, b]⟩ := by apply ByteArray.ext; rw [ByteArray.data_append]; rfl
theorem three_bytes (a b c : UInt8) : (⟨#[a]⟩ : ByteArray) ++ ⟨#[b]⟩ ++ ⟨#[c]⟩ = ⟨#[a, b, c]⟩ := by rw [two_bytes]; apply ByteArray.ext; rw [ByteArray.data_append]; rfl
theorem four_bytes (a b c d : UInt8) : (⟨#[a]⟩ : ByteArray) ++ ⟨#[b]⟩ ++ ⟨#[c]⟩ ++ ⟨#[d]⟩ = ⟨#[a, b, c, d]⟩ := by rw [three_bytes]; apply ByteArray.ext; rw [ByteArray.data_append]; rfl

set_option maxHeartbeats 2000000 in
set_option maxRecDepth 100000 in
theorem codeOf_any (n : Int) (w : World) (hs : sc n = true) : Calls Tryd.prog 24 #[.int .i64 n] w fun e w' => e = .returned (.string ⟨(Lib.encodeRune n).toArray⟩) ∧ Below w.heap.size w w' := by
  have h := sc_true hs
  rcases code_forms hs with ⟨a, e⟩ | ⟨a, b, e⟩ | ⟨a, b, e⟩ | ⟨a, e⟩
  · rw [e]
    clear e hs
    go_enter Tryd.func24, Tryd.ntmps24
    go_wp2_with fail
    refine (chr_any _ _ (by omega) (by omega)).mono ?_
    rintro e w1 ⟨rfl, b1⟩
    go_wp2_with fail
    go_ret
    exact ⟨rfl, b1⟩
  · rw [e]
    clear e hs
    go_enter Tryd.func24, Tryd.ntmps24
    go_wp2_with fail
    refine (chr_any _ _ (by omega) (by omega)).mono ?_
    rintro e w1 ⟨rfl, b1⟩
    go_wp2_with fail
    refine (chr_any _ _ (by omega) (by omega)).mono ?_
    rintro e w2 ⟨rfl, b2⟩
    go_wp2_with fail
    go_ret
    exact ⟨ret_str (two_bytes _ _), b1.trans (b2.mono b1.size)⟩
  · rw [e]
    clear e hs
    go_enter Tryd.func24, Tryd.ntmps24
    go_wp2_with fail
    refine (chr_any _ _ (by omega) (by omega)).mono ?_
    rintro e w1 ⟨rfl, c1⟩
    have b1 := c1
    go_wp2_with fail
    refine (chr_any _ _ (by omega) (by omega)).mono ?_
    rintro e w2 ⟨rfl, c2⟩
    have b2 := b1.trans (c2.mono b1.size)
    go_wp2_with fail
    refine (chr_any _ _ (by omega) (by omega)).mono ?_
    rintro e w3 ⟨rfl, c3⟩
    have b3 := b2.trans (c3.mono b2.size)
    go_wp2_with fail
    go_ret
    exact ⟨ret_str (three_bytes _ _ _), b3⟩
  · rw [e]
    clear e hs
    go_enter Tryd.func24, Tryd.ntmps24
    go_wp2_with fail
    refine (chr_any _ _ (by omega) (by omega)).mono ?_
    rintro e w1 ⟨rfl, c1⟩
    have b1 := c1
    go_wp2_with fail
    refine (chr_any _ _ (by omega) (by omega)).mono ?_
    rintro e w2 ⟨rfl, c2⟩
    have b2 := b1.trans (c2.mono b1.size)
    go_wp2_with fail
    refine (chr_any _ _ (by omega) (by omega)).mono ?_
    rintro e w3 ⟨rfl, c3⟩
    have b3 := b2.trans (c3.mono b2.size)
    go_wp2_with fail
    refine (chr_any _ _ (by omega) (by omega)).mono ?_
    rintro e w4 ⟨rfl, c4⟩
    have b4 := b3.trans (c4.mono b3.size)
    go_wp2_with fail
    go_ret
    exact ⟨ret_str (four_bytes _ _ _ _), b4⟩
end Go.Proofs.YtfgmjnfinbmkpaaDoor.utfs
