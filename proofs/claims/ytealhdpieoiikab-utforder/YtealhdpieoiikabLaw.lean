/- The walk of the law. -/
import Derived.Test.YtealhdpieoiikabOrder
namespace Go.Proofs.Ytealhdpieoiikab.walks
open Go.RowKit
open plain

theorem textE_yes {l : List Int} (h : l.all sc = true) : textE l = 0 := by simp [textE, h]
theorem textE_no {l : List Int} (h : l.all sc = false) : textE l = 3 := by simp [textE, h]
theorem textB_yes {l : List Int} (h : l.all sc = true) : textB l = enc l := by simp [textB, h]

set_option maxHeartbeats 400000 in
theorem utfs_any (w : World) : Calls Try.prog 4 #[] w fun e w' => e = .returned (.bool true) ∧ w' = w := by
  go_enter Try.func4, Try.ntmps4
  go_wp2_with (go_at_call 8; refine (size_any _ _).mono ?_; rintro e w' ⟨rfl, rfl⟩)
  go_ret
  exact ⟨rfl, rfl⟩

set_option maxHeartbeats 1000000 in
set_option maxRecDepth 100000 in
theorem law_any (a b : Option Addr) (l m : List Int) (ca cb : Nat) (w : World) (hl : 4 * l.length ≤ 140737488355328) (hm : 4 * m.length ≤ 140737488355328) (hL : Elems w a l) (hM : Elems w b m) (fL : Fit l) (fM : Fit m) :
    Calls Try.prog 3 #[.slice a l.length ca, .slice b m.length cb] w fun e w' => e = .returned (.bool true) ∧ Below w.heap.size w w' := by
  go_enter Try.func3, Try.ntmps3
  go_wp2_with (go_at_call 4; refine (utfs_any _).mono ?_; rintro e w' ⟨rfl, rfl⟩)
  refine (text_any a l ca _ hl hL fL).mono ?_
  rintro e w1 ⟨rfl, b1⟩
  go_wp2_with fail
  refine (text_any b m cb w1 hm (hM.below b1) fM).mono ?_
  rintro e w2 ⟨rfl, b2⟩
  go_wp2_with fail
  · have e1 : textE l = 0 := by assumption
    have e2 : textE m = 0 := by assumption
    have H : Hid (Lib.compareBytes (textB l) (textB m) = cmpZ l m) := by
      have y1 : l.all sc = true := by
        cases h : l.all sc with
        | true => rfl
        | false => rw [textE_no h] at e1; cases e1
      have y2 : m.all sc = true := by
        cases h : m.all sc with
        | true => rfl
        | false => rw [textE_no h] at e2; cases e2
      rw [textB_yes y1, textB_yes y2]
      exact order l m (fun r hr => List.all_eq_true.1 y1 r hr) (fun r hr => List.all_eq_true.1 y2 r hr)
    refine (Try.strings_Compare _ _ _).mono ?_
    rintro e w3 ⟨rfl, rfl⟩
    go_wp2_with fail
    refine (compare_any a b l m ca cb _ hl hm ((hL.below b1).below b2) ((hM.below b1).below b2)).mono ?_
    rintro e w4 ⟨rfl, rfl⟩
    go_wp2_with fail
    go_ret
    refine ⟨?_, b1.trans (b2.mono b1.size)⟩
    simp [H.out]
  · go_ret
    exact ⟨rfl, b1.trans (b2.mono b1.size)⟩
  · go_ret
    exact ⟨rfl, b1.trans (b2.mono b1.size)⟩
end Go.Proofs.Ytealhdpieoiikab.walks
