/- The walk of the document's answer: how many bytes of each kind stand at the front, where no loop is entered. -/
import Derived.Test.YtoikdjbgeebadaaPartAC
import Derived.Deep.CutRange
set_option linter.unusedVariables false
namespace Go.Proofs.Ytoikdjbgeebadaa.toks
open Go.RowKit

/-- No note that may go over lines opens the text: as the walk tests it. -/
def NoOpen (s : ByteArray) : Prop := s.size < 4 ∨ (4 ≤ s.size ∧ ((s.extract 0 2).toList == [47, 42]) = false)
set_option maxHeartbeats 4000000 in
set_option maxRecDepth 100000 in
theorem fronts_line (w : World) (s : ByteArray) (hp : 0 < s.size) (hs : s.size ≤ 20000) (c10 : s[0]'hp = 10) (no : NoOpen s) (hm : isM (s[0]'hp) = false) :
    Calls Try.prog 21 #[.string s] w fun e w' => e = .returned (.agg (c8 (runL isB s.data.toList) 1 0 (runL isW s.data.toList) 0 0)) ∧ Below w.heap.size w w' := by
  have K1 : ∀ u, Hid _ := fun u => hide (run1_any u s hs)
  have K3 : ∀ u, Hid _ := fun u => hide (run3_any u s hs)
  have K4 : ∀ u, Hid _ := fun u => hide (markT_any u (s[0]'hp))
  have F0 := hide (f8_start w)
  have i10 : (((s[0]'hp).toNat : Int) == 10) = true := b_eq 10 c10
  have i35 : (((s[0]'hp).toNat : Int) == 35) = false := b_ne 35 (by rw [c10]; decide)
  have i34 : (((s[0]'hp).toNat : Int) == 34) = false := b_ne 34 (by rw [c10]; decide)
  have hp1 : (0 : Int) < (s.size : Int) := by omega
  rw [hm] at K4
  clear c10 hm
  generalize runL isB s.data.toList = r1 at *
  generalize runL isW s.data.toList = r4 at *
  rcases no with h4 | ⟨h4, h5⟩
  · have d4 : decide ((s.size : Int) ≥ 4) = false := decide_eq_false (by omega)
    have d5 : decide (4 ≤ s.size) = false := decide_eq_false (by omega)
    go_enter Try.func21, Try.ntmps21
    go_wp2_with fail
    refine (unhide (K1 _)).mono ?_
    rintro e w2 ⟨rfl, hw⟩
    rw [hw]
    clear hw K1
    generalize (w.alloc (.cells #[.int .i64 0, .int .i64 0, .int .i64 0, .int .i64 0, .int .i64 0, .int .i64 0, .int .i64 0, .int .i64 0] 53)).alloc (.cells #[.int .i64 0, .int .i64 0, .int .i64 0, .int .i64 0, .int .i64 0, .int .i64 0, .int .i64 0, .int .i64 0] 53) = W0 at *
    obtain ⟨⟨a1, z1⟩, ⟨a2, z2⟩, ⟨a3, z3⟩, ⟨a4, z4⟩, ⟨a5, z5⟩, ⟨a6, z6⟩⟩ := (unhide F0).cells
    go_wp2_with fail
    refine (unhide (K3 _)).mono ?_
    rintro e w2 ⟨rfl, hw⟩
    rw [hw]
    clear hw K3
    have F1 : Hid (F8 w ((W0.setCell ⟨w.heap.size + 1, 1, none⟩ (.int .i64 (r1 : Int))).setCell ⟨w.heap.size + 1, 2, none⟩ (.int .i64 1)) r1 1 0 0 0 0) := hide (((unhide F0).set1 r1).set2 1)
    clear a1 a2 a3 a4 a5 a6 z1 z2 z3 z4 z5 z6 F0
    generalize (W0.setCell ⟨w.heap.size + 1, 1, none⟩ (.int .i64 (r1 : Int))).setCell ⟨w.heap.size + 1, 2, none⟩ (.int .i64 1) = W1 at *
    obtain ⟨⟨a1, z1⟩, ⟨a2, z2⟩, ⟨a3, z3⟩, ⟨a4, z4⟩, ⟨a5, z5⟩, ⟨a6, z6⟩⟩ := (unhide F1).cells
    go_wp2_with fail
    refine (unhide (K4 _)).mono ?_
    rintro e w2 ⟨rfl, hw⟩
    rw [hw]
    clear hw K4
    have F2 : Hid (F8 w (W1.setCell ⟨w.heap.size + 1, 4, none⟩ (.int .i64 (r4 : Int))) r1 1 0 r4 0 0) := hide ((unhide F1).set4 r4)
    clear a1 a2 a3 a4 a5 a6 z1 z2 z3 z4 z5 z6 F1
    generalize W1.setCell ⟨w.heap.size + 1, 4, none⟩ (.int .i64 (r4 : Int)) = W2 at *
    obtain ⟨⟨a1, z1⟩, ⟨a2, z2⟩, ⟨a3, z3⟩, ⟨a4, z4⟩, ⟨a5, z5⟩, ⟨a6, z6⟩⟩ := (unhide F2).cells
    clear a1 a2 a3 a4 a5 a6 z1 z2 z3 z4 z5 z6
    go_upto_region 25 with fail
    refine last8 _ _ 3 2 103 r1 1 0 r4 0 0 ?_ (by decide) ?_ ?_ (unhide F2) ?_ 25 _ _ _ _
    · exact Nat.lt_of_lt_of_eq (by decide : 103 < 104) rfl
    · rfl
    · rfl
    intro w9 b9 k9
    have y0 := k9.cell 0 _ rfl
    have y1 := k9.cell 1 _ rfl
    have y2 := k9.cell 2 _ rfl
    have y3 := k9.cell 3 _ rfl
    have y4 := k9.cell 4 _ rfl
    have y5 := k9.cell 5 _ rfl
    have y6 := k9.cell 6 _ rfl
    have y7 := k9.cell 7 _ rfl
    clear k9 F2
    go_wp2
    refine bodyPost_ret (v := .agg (c8 r1 1 0 r4 0 0)) (by simp [results, Try.results21, go_sem, Act.put, c8, y0, y1, y2, y3, y4, y5, y6, y7]) rfl ?_
    exact ⟨rfl, b9⟩
  · have d4 : decide ((s.size : Int) ≥ 4) = true := decide_eq_true (by omega)
    have d5 : decide (4 ≤ s.size) = true := decide_eq_true (by omega)
    have h6 : (4 : Int) ≤ (s.size : Int) := by omega
    go_enter Try.func21, Try.ntmps21
    go_wp2_with fail
    refine (unhide (K1 _)).mono ?_
    rintro e w2 ⟨rfl, hw⟩
    rw [hw]
    clear hw K1
    generalize (w.alloc (.cells #[.int .i64 0, .int .i64 0, .int .i64 0, .int .i64 0, .int .i64 0, .int .i64 0, .int .i64 0, .int .i64 0] 53)).alloc (.cells #[.int .i64 0, .int .i64 0, .int .i64 0, .int .i64 0, .int .i64 0, .int .i64 0, .int .i64 0, .int .i64 0] 53) = W0 at *
    obtain ⟨⟨a1, z1⟩, ⟨a2, z2⟩, ⟨a3, z3⟩, ⟨a4, z4⟩, ⟨a5, z5⟩, ⟨a6, z6⟩⟩ := (unhide F0).cells
    go_wp2_with fail
    refine (unhide (K3 _)).mono ?_
    rintro e w2 ⟨rfl, hw⟩
    rw [hw]
    clear hw K3
    have F1 : Hid (F8 w ((W0.setCell ⟨w.heap.size + 1, 1, none⟩ (.int .i64 (r1 : Int))).setCell ⟨w.heap.size + 1, 2, none⟩ (.int .i64 1)) r1 1 0 0 0 0) := hide (((unhide F0).set1 r1).set2 1)
    clear a1 a2 a3 a4 a5 a6 z1 z2 z3 z4 z5 z6 F0
    generalize (W0.setCell ⟨w.heap.size + 1, 1, none⟩ (.int .i64 (r1 : Int))).setCell ⟨w.heap.size + 1, 2, none⟩ (.int .i64 1) = W1 at *
    obtain ⟨⟨a1, z1⟩, ⟨a2, z2⟩, ⟨a3, z3⟩, ⟨a4, z4⟩, ⟨a5, z5⟩, ⟨a6, z6⟩⟩ := (unhide F1).cells
    go_wp2_with fail
    refine (unhide (K4 _)).mono ?_
    rintro e w2 ⟨rfl, hw⟩
    rw [hw]
    clear hw K4
    have F2 : Hid (F8 w (W1.setCell ⟨w.heap.size + 1, 4, none⟩ (.int .i64 (r4 : Int))) r1 1 0 r4 0 0) := hide ((unhide F1).set4 r4)
    clear a1 a2 a3 a4 a5 a6 z1 z2 z3 z4 z5 z6 F1
    generalize W1.setCell ⟨w.heap.size + 1, 4, none⟩ (.int .i64 (r4 : Int)) = W2 at *
    obtain ⟨⟨a1, z1⟩, ⟨a2, z2⟩, ⟨a3, z3⟩, ⟨a4, z4⟩, ⟨a5, z5⟩, ⟨a6, z6⟩⟩ := (unhide F2).cells
    clear a1 a2 a3 a4 a5 a6 z1 z2 z3 z4 z5 z6
    go_upto_region 25 with fail
    refine last8 _ _ 3 2 103 r1 1 0 r4 0 0 ?_ (by decide) ?_ ?_ (unhide F2) ?_ 25 _ _ _ _
    · exact Nat.lt_of_lt_of_eq (by decide : 103 < 104) rfl
    · rfl
    · rfl
    intro w9 b9 k9
    have y0 := k9.cell 0 _ rfl
    have y1 := k9.cell 1 _ rfl
    have y2 := k9.cell 2 _ rfl
    have y3 := k9.cell 3 _ rfl
    have y4 := k9.cell 4 _ rfl
    have y5 := k9.cell 5 _ rfl
    have y6 := k9.cell 6 _ rfl
    have y7 := k9.cell 7 _ rfl
    clear k9 F2
    go_wp2
    refine bodyPost_ret (v := .agg (c8 r1 1 0 r4 0 0)) (by simp [results, Try.results21, go_sem, Act.put, c8, y0, y1, y2, y3, y4, y5, y6, y7]) rfl ?_
    exact ⟨rfl, b9⟩
set_option maxHeartbeats 4000000 in
set_option maxRecDepth 100000 in
theorem fronts_note (w : World) (s : ByteArray) (hp : 0 < s.size) (hs : s.size ≤ 20000) (c35 : s[0]'hp = 35) (no : NoOpen s) (hm : isM (s[0]'hp) = false) :
    Calls Try.prog 21 #[.string s] w fun e w' => e = .returned (.agg (c8 (runL isB s.data.toList) 0 (runL noL s.data.toList) (runL isW s.data.toList) 0 0)) ∧ Below w.heap.size w w' := by
  have K1 : ∀ u, Hid _ := fun u => hide (run1_any u s hs)
  have K2 : ∀ u, Hid _ := fun u => hide (run2_any u s hs)
  have K3 : ∀ u, Hid _ := fun u => hide (run3_any u s hs)
  have K4 : ∀ u, Hid _ := fun u => hide (markT_any u (s[0]'hp))
  have F0 := hide (f8_start w)
  have i10 : (((s[0]'hp).toNat : Int) == 10) = false := b_ne 10 (by rw [c35]; decide)
  have i35 : (((s[0]'hp).toNat : Int) == 35) = true := b_eq 35 c35
  have i34 : (((s[0]'hp).toNat : Int) == 34) = false := b_ne 34 (by rw [c35]; decide)
  have hp1 : (0 : Int) < (s.size : Int) := by omega
  rw [hm] at K4
  clear c35 hm
  generalize runL isB s.data.toList = r1 at *
  generalize runL noL s.data.toList = r3 at *
  generalize runL isW s.data.toList = r4 at *
  rcases no with h4 | ⟨h4, h5⟩
  · have d4 : decide ((s.size : Int) ≥ 4) = false := decide_eq_false (by omega)
    have d5 : decide (4 ≤ s.size) = false := decide_eq_false (by omega)
    go_enter Try.func21, Try.ntmps21
    go_wp2_with fail
    refine (unhide (K1 _)).mono ?_
    rintro e w2 ⟨rfl, hw⟩
    rw [hw]
    clear hw K1
    generalize (w.alloc (.cells #[.int .i64 0, .int .i64 0, .int .i64 0, .int .i64 0, .int .i64 0, .int .i64 0, .int .i64 0, .int .i64 0] 53)).alloc (.cells #[.int .i64 0, .int .i64 0, .int .i64 0, .int .i64 0, .int .i64 0, .int .i64 0, .int .i64 0, .int .i64 0] 53) = W0 at *
    obtain ⟨⟨a1, z1⟩, ⟨a2, z2⟩, ⟨a3, z3⟩, ⟨a4, z4⟩, ⟨a5, z5⟩, ⟨a6, z6⟩⟩ := (unhide F0).cells
    go_wp2_with fail
    refine (unhide (K2 _)).mono ?_
    rintro e w2 ⟨rfl, hw⟩
    rw [hw]
    clear hw K2
    have F1 : Hid (F8 w (W0.setCell ⟨w.heap.size + 1, 1, none⟩ (.int .i64 (r1 : Int))) r1 0 0 0 0 0) := hide ((unhide F0).set1 r1)
    clear a1 a2 a3 a4 a5 a6 z1 z2 z3 z4 z5 z6 F0
    generalize W0.setCell ⟨w.heap.size + 1, 1, none⟩ (.int .i64 (r1 : Int)) = W1 at *
    obtain ⟨⟨a1, z1⟩, ⟨a2, z2⟩, ⟨a3, z3⟩, ⟨a4, z4⟩, ⟨a5, z5⟩, ⟨a6, z6⟩⟩ := (unhide F1).cells
    go_wp2_with fail
    refine (unhide (K3 _)).mono ?_
    rintro e w2 ⟨rfl, hw⟩
    rw [hw]
    clear hw K3
    have F2 : Hid (F8 w (W1.setCell ⟨w.heap.size + 1, 3, none⟩ (.int .i64 (r3 : Int))) r1 0 r3 0 0 0) := hide ((unhide F1).set3 r3)
    clear a1 a2 a3 a4 a5 a6 z1 z2 z3 z4 z5 z6 F1
    generalize W1.setCell ⟨w.heap.size + 1, 3, none⟩ (.int .i64 (r3 : Int)) = W2 at *
    obtain ⟨⟨a1, z1⟩, ⟨a2, z2⟩, ⟨a3, z3⟩, ⟨a4, z4⟩, ⟨a5, z5⟩, ⟨a6, z6⟩⟩ := (unhide F2).cells
    go_wp2_with fail
    refine (unhide (K4 _)).mono ?_
    rintro e w2 ⟨rfl, hw⟩
    rw [hw]
    clear hw K4
    have F3 : Hid (F8 w (W2.setCell ⟨w.heap.size + 1, 4, none⟩ (.int .i64 (r4 : Int))) r1 0 r3 r4 0 0) := hide ((unhide F2).set4 r4)
    clear a1 a2 a3 a4 a5 a6 z1 z2 z3 z4 z5 z6 F2
    generalize W2.setCell ⟨w.heap.size + 1, 4, none⟩ (.int .i64 (r4 : Int)) = W3 at *
    obtain ⟨⟨a1, z1⟩, ⟨a2, z2⟩, ⟨a3, z3⟩, ⟨a4, z4⟩, ⟨a5, z5⟩, ⟨a6, z6⟩⟩ := (unhide F3).cells
    clear a1 a2 a3 a4 a5 a6 z1 z2 z3 z4 z5 z6
    go_upto_region 25 with fail
    refine last8 _ _ 3 2 103 r1 0 r3 r4 0 0 ?_ (by decide) ?_ ?_ (unhide F3) ?_ 25 _ _ _ _
    · exact Nat.lt_of_lt_of_eq (by decide : 103 < 104) rfl
    · rfl
    · rfl
    intro w9 b9 k9
    have y0 := k9.cell 0 _ rfl
    have y1 := k9.cell 1 _ rfl
    have y2 := k9.cell 2 _ rfl
    have y3 := k9.cell 3 _ rfl
    have y4 := k9.cell 4 _ rfl
    have y5 := k9.cell 5 _ rfl
    have y6 := k9.cell 6 _ rfl
    have y7 := k9.cell 7 _ rfl
    clear k9 F3
    go_wp2
    refine bodyPost_ret (v := .agg (c8 r1 0 r3 r4 0 0)) (by simp [results, Try.results21, go_sem, Act.put, c8, y0, y1, y2, y3, y4, y5, y6, y7]) rfl ?_
    exact ⟨rfl, b9⟩
  · have d4 : decide ((s.size : Int) ≥ 4) = true := decide_eq_true (by omega)
    have d5 : decide (4 ≤ s.size) = true := decide_eq_true (by omega)
    have h6 : (4 : Int) ≤ (s.size : Int) := by omega
    go_enter Try.func21, Try.ntmps21
    go_wp2_with fail
    refine (unhide (K1 _)).mono ?_
    rintro e w2 ⟨rfl, hw⟩
    rw [hw]
    clear hw K1
    generalize (w.alloc (.cells #[.int .i64 0, .int .i64 0, .int .i64 0, .int .i64 0, .int .i64 0, .int .i64 0, .int .i64 0, .int .i64 0] 53)).alloc (.cells #[.int .i64 0, .int .i64 0, .int .i64 0, .int .i64 0, .int .i64 0, .int .i64 0, .int .i64 0, .int .i64 0] 53) = W0 at *
    obtain ⟨⟨a1, z1⟩, ⟨a2, z2⟩, ⟨a3, z3⟩, ⟨a4, z4⟩, ⟨a5, z5⟩, ⟨a6, z6⟩⟩ := (unhide F0).cells
    go_wp2_with fail
    refine (unhide (K2 _)).mono ?_
    rintro e w2 ⟨rfl, hw⟩
    rw [hw]
    clear hw K2
    have F1 : Hid (F8 w (W0.setCell ⟨w.heap.size + 1, 1, none⟩ (.int .i64 (r1 : Int))) r1 0 0 0 0 0) := hide ((unhide F0).set1 r1)
    clear a1 a2 a3 a4 a5 a6 z1 z2 z3 z4 z5 z6 F0
    generalize W0.setCell ⟨w.heap.size + 1, 1, none⟩ (.int .i64 (r1 : Int)) = W1 at *
    obtain ⟨⟨a1, z1⟩, ⟨a2, z2⟩, ⟨a3, z3⟩, ⟨a4, z4⟩, ⟨a5, z5⟩, ⟨a6, z6⟩⟩ := (unhide F1).cells
    go_wp2_with fail
    refine (unhide (K3 _)).mono ?_
    rintro e w2 ⟨rfl, hw⟩
    rw [hw]
    clear hw K3
    have F2 : Hid (F8 w (W1.setCell ⟨w.heap.size + 1, 3, none⟩ (.int .i64 (r3 : Int))) r1 0 r3 0 0 0) := hide ((unhide F1).set3 r3)
    clear a1 a2 a3 a4 a5 a6 z1 z2 z3 z4 z5 z6 F1
    generalize W1.setCell ⟨w.heap.size + 1, 3, none⟩ (.int .i64 (r3 : Int)) = W2 at *
    obtain ⟨⟨a1, z1⟩, ⟨a2, z2⟩, ⟨a3, z3⟩, ⟨a4, z4⟩, ⟨a5, z5⟩, ⟨a6, z6⟩⟩ := (unhide F2).cells
    go_wp2_with fail
    refine (unhide (K4 _)).mono ?_
    rintro e w2 ⟨rfl, hw⟩
    rw [hw]
    clear hw K4
    have F3 : Hid (F8 w (W2.setCell ⟨w.heap.size + 1, 4, none⟩ (.int .i64 (r4 : Int))) r1 0 r3 r4 0 0) := hide ((unhide F2).set4 r4)
    clear a1 a2 a3 a4 a5 a6 z1 z2 z3 z4 z5 z6 F2
    generalize W2.setCell ⟨w.heap.size + 1, 4, none⟩ (.int .i64 (r4 : Int)) = W3 at *
    obtain ⟨⟨a1, z1⟩, ⟨a2, z2⟩, ⟨a3, z3⟩, ⟨a4, z4⟩, ⟨a5, z5⟩, ⟨a6, z6⟩⟩ := (unhide F3).cells
    clear a1 a2 a3 a4 a5 a6 z1 z2 z3 z4 z5 z6
    go_upto_region 25 with fail
    refine last8 _ _ 3 2 103 r1 0 r3 r4 0 0 ?_ (by decide) ?_ ?_ (unhide F3) ?_ 25 _ _ _ _
    · exact Nat.lt_of_lt_of_eq (by decide : 103 < 104) rfl
    · rfl
    · rfl
    intro w9 b9 k9
    have y0 := k9.cell 0 _ rfl
    have y1 := k9.cell 1 _ rfl
    have y2 := k9.cell 2 _ rfl
    have y3 := k9.cell 3 _ rfl
    have y4 := k9.cell 4 _ rfl
    have y5 := k9.cell 5 _ rfl
    have y6 := k9.cell 6 _ rfl
    have y7 := k9.cell 7 _ rfl
    clear k9 F3
    go_wp2
    refine bodyPost_ret (v := .agg (c8 r1 0 r3 r4 0 0)) (by simp [results, Try.results21, go_sem, Act.put, c8, y0, y1, y2, y3, y4, y5, y6, y7]) rfl ?_
    exact ⟨rfl, b9⟩
set_option maxHeartbeats 4000000 in
set_option maxRecDepth 100000 in
theorem fronts_mark (w : World) (s : ByteArray) (hp : 0 < s.size) (hs : s.size ≤ 20000) (c10 : s[0]'hp ≠ 10) (c35 : s[0]'hp ≠ 35) (c34 : s[0]'hp ≠ 34) (no : NoOpen s) (hm : isM (s[0]'hp) = true) :
    Calls Try.prog 21 #[.string s] w fun e w' => e = .returned (.agg (c8 (runL isB s.data.toList) 0 0 (runL isW s.data.toList) 0 1)) ∧ Below w.heap.size w w' := by
  have K1 : ∀ u, Hid _ := fun u => hide (run1_any u s hs)
  have K3 : ∀ u, Hid _ := fun u => hide (run3_any u s hs)
  have K4 : ∀ u, Hid _ := fun u => hide (markT_any u (s[0]'hp))
  have F0 := hide (f8_start w)
  have i10 : (((s[0]'hp).toNat : Int) == 10) = false := b_ne 10 c10
  have i35 : (((s[0]'hp).toNat : Int) == 35) = false := b_ne 35 c35
  have i34 : (((s[0]'hp).toNat : Int) == 34) = false := b_ne 34 c34
  have hp1 : (0 : Int) < (s.size : Int) := by omega
  rw [hm] at K4
  clear c10 c35 c34 hm
  generalize runL isB s.data.toList = r1 at *
  generalize runL isW s.data.toList = r4 at *
  rcases no with h4 | ⟨h4, h5⟩
  · have d4 : decide ((s.size : Int) ≥ 4) = false := decide_eq_false (by omega)
    have d5 : decide (4 ≤ s.size) = false := decide_eq_false (by omega)
    go_enter Try.func21, Try.ntmps21
    go_wp2_with fail
    refine (unhide (K1 _)).mono ?_
    rintro e w2 ⟨rfl, hw⟩
    rw [hw]
    clear hw K1
    generalize (w.alloc (.cells #[.int .i64 0, .int .i64 0, .int .i64 0, .int .i64 0, .int .i64 0, .int .i64 0, .int .i64 0, .int .i64 0] 53)).alloc (.cells #[.int .i64 0, .int .i64 0, .int .i64 0, .int .i64 0, .int .i64 0, .int .i64 0, .int .i64 0, .int .i64 0] 53) = W0 at *
    obtain ⟨⟨a1, z1⟩, ⟨a2, z2⟩, ⟨a3, z3⟩, ⟨a4, z4⟩, ⟨a5, z5⟩, ⟨a6, z6⟩⟩ := (unhide F0).cells
    go_wp2_with fail
    refine (unhide (K3 _)).mono ?_
    rintro e w2 ⟨rfl, hw⟩
    rw [hw]
    clear hw K3
    have F1 : Hid (F8 w (W0.setCell ⟨w.heap.size + 1, 1, none⟩ (.int .i64 (r1 : Int))) r1 0 0 0 0 0) := hide ((unhide F0).set1 r1)
    clear a1 a2 a3 a4 a5 a6 z1 z2 z3 z4 z5 z6 F0
    generalize W0.setCell ⟨w.heap.size + 1, 1, none⟩ (.int .i64 (r1 : Int)) = W1 at *
    obtain ⟨⟨a1, z1⟩, ⟨a2, z2⟩, ⟨a3, z3⟩, ⟨a4, z4⟩, ⟨a5, z5⟩, ⟨a6, z6⟩⟩ := (unhide F1).cells
    go_wp2_with fail
    refine (unhide (K4 _)).mono ?_
    rintro e w2 ⟨rfl, hw⟩
    rw [hw]
    clear hw K4
    have F2 : Hid (F8 w (W1.setCell ⟨w.heap.size + 1, 4, none⟩ (.int .i64 (r4 : Int))) r1 0 0 r4 0 0) := hide ((unhide F1).set4 r4)
    clear a1 a2 a3 a4 a5 a6 z1 z2 z3 z4 z5 z6 F1
    generalize W1.setCell ⟨w.heap.size + 1, 4, none⟩ (.int .i64 (r4 : Int)) = W2 at *
    obtain ⟨⟨a1, z1⟩, ⟨a2, z2⟩, ⟨a3, z3⟩, ⟨a4, z4⟩, ⟨a5, z5⟩, ⟨a6, z6⟩⟩ := (unhide F2).cells
    go_upto_region 25 with fail
    have F3 : Hid (F8 w (W2.setCell ⟨w.heap.size + 1, 6, none⟩ (.int .i64 1)) r1 0 0 r4 0 1) := hide ((unhide F2).set6 1)
    clear a1 a2 a3 a4 a5 a6 z1 z2 z3 z4 z5 z6 F2
    generalize W2.setCell ⟨w.heap.size + 1, 6, none⟩ (.int .i64 1) = W3 at *
    obtain ⟨⟨a1, z1⟩, ⟨a2, z2⟩, ⟨a3, z3⟩, ⟨a4, z4⟩, ⟨a5, z5⟩, ⟨a6, z6⟩⟩ := (unhide F3).cells
    clear a1 a2 a3 a4 a5 a6 z1 z2 z3 z4 z5 z6
    go_upto_region 25 with fail
    refine last8 _ _ 3 2 103 r1 0 0 r4 0 1 ?_ (by decide) ?_ ?_ (unhide F3) ?_ 25 _ _ _ _
    · exact Nat.lt_of_lt_of_eq (by decide : 103 < 104) rfl
    · rfl
    · rfl
    intro w9 b9 k9
    have y0 := k9.cell 0 _ rfl
    have y1 := k9.cell 1 _ rfl
    have y2 := k9.cell 2 _ rfl
    have y3 := k9.cell 3 _ rfl
    have y4 := k9.cell 4 _ rfl
    have y5 := k9.cell 5 _ rfl
    have y6 := k9.cell 6 _ rfl
    have y7 := k9.cell 7 _ rfl
    clear k9 F3
    go_wp2
    refine bodyPost_ret (v := .agg (c8 r1 0 0 r4 0 1)) (by simp [results, Try.results21, go_sem, Act.put, c8, y0, y1, y2, y3, y4, y5, y6, y7]) rfl ?_
    exact ⟨rfl, b9⟩
  · have d4 : decide ((s.size : Int) ≥ 4) = true := decide_eq_true (by omega)
    have d5 : decide (4 ≤ s.size) = true := decide_eq_true (by omega)
    have h6 : (4 : Int) ≤ (s.size : Int) := by omega
    go_enter Try.func21, Try.ntmps21
    go_wp2_with fail
    refine (unhide (K1 _)).mono ?_
    rintro e w2 ⟨rfl, hw⟩
    rw [hw]
    clear hw K1
    generalize (w.alloc (.cells #[.int .i64 0, .int .i64 0, .int .i64 0, .int .i64 0, .int .i64 0, .int .i64 0, .int .i64 0, .int .i64 0] 53)).alloc (.cells #[.int .i64 0, .int .i64 0, .int .i64 0, .int .i64 0, .int .i64 0, .int .i64 0, .int .i64 0, .int .i64 0] 53) = W0 at *
    obtain ⟨⟨a1, z1⟩, ⟨a2, z2⟩, ⟨a3, z3⟩, ⟨a4, z4⟩, ⟨a5, z5⟩, ⟨a6, z6⟩⟩ := (unhide F0).cells
    go_wp2_with fail
    refine (unhide (K3 _)).mono ?_
    rintro e w2 ⟨rfl, hw⟩
    rw [hw]
    clear hw K3
    have F1 : Hid (F8 w (W0.setCell ⟨w.heap.size + 1, 1, none⟩ (.int .i64 (r1 : Int))) r1 0 0 0 0 0) := hide ((unhide F0).set1 r1)
    clear a1 a2 a3 a4 a5 a6 z1 z2 z3 z4 z5 z6 F0
    generalize W0.setCell ⟨w.heap.size + 1, 1, none⟩ (.int .i64 (r1 : Int)) = W1 at *
    obtain ⟨⟨a1, z1⟩, ⟨a2, z2⟩, ⟨a3, z3⟩, ⟨a4, z4⟩, ⟨a5, z5⟩, ⟨a6, z6⟩⟩ := (unhide F1).cells
    go_wp2_with fail
    refine (unhide (K4 _)).mono ?_
    rintro e w2 ⟨rfl, hw⟩
    rw [hw]
    clear hw K4
    have F2 : Hid (F8 w (W1.setCell ⟨w.heap.size + 1, 4, none⟩ (.int .i64 (r4 : Int))) r1 0 0 r4 0 0) := hide ((unhide F1).set4 r4)
    clear a1 a2 a3 a4 a5 a6 z1 z2 z3 z4 z5 z6 F1
    generalize W1.setCell ⟨w.heap.size + 1, 4, none⟩ (.int .i64 (r4 : Int)) = W2 at *
    obtain ⟨⟨a1, z1⟩, ⟨a2, z2⟩, ⟨a3, z3⟩, ⟨a4, z4⟩, ⟨a5, z5⟩, ⟨a6, z6⟩⟩ := (unhide F2).cells
    go_upto_region 25 with fail
    have F3 : Hid (F8 w (W2.setCell ⟨w.heap.size + 1, 6, none⟩ (.int .i64 1)) r1 0 0 r4 0 1) := hide ((unhide F2).set6 1)
    clear a1 a2 a3 a4 a5 a6 z1 z2 z3 z4 z5 z6 F2
    generalize W2.setCell ⟨w.heap.size + 1, 6, none⟩ (.int .i64 1) = W3 at *
    obtain ⟨⟨a1, z1⟩, ⟨a2, z2⟩, ⟨a3, z3⟩, ⟨a4, z4⟩, ⟨a5, z5⟩, ⟨a6, z6⟩⟩ := (unhide F3).cells
    clear a1 a2 a3 a4 a5 a6 z1 z2 z3 z4 z5 z6
    go_upto_region 25 with fail
    refine last8 _ _ 3 2 103 r1 0 0 r4 0 1 ?_ (by decide) ?_ ?_ (unhide F3) ?_ 25 _ _ _ _
    · exact Nat.lt_of_lt_of_eq (by decide : 103 < 104) rfl
    · rfl
    · rfl
    intro w9 b9 k9
    have y0 := k9.cell 0 _ rfl
    have y1 := k9.cell 1 _ rfl
    have y2 := k9.cell 2 _ rfl
    have y3 := k9.cell 3 _ rfl
    have y4 := k9.cell 4 _ rfl
    have y5 := k9.cell 5 _ rfl
    have y6 := k9.cell 6 _ rfl
    have y7 := k9.cell 7 _ rfl
    clear k9 F3
    go_wp2
    refine bodyPost_ret (v := .agg (c8 r1 0 0 r4 0 1)) (by simp [results, Try.results21, go_sem, Act.put, c8, y0, y1, y2, y3, y4, y5, y6, y7]) rfl ?_
    exact ⟨rfl, b9⟩
set_option maxHeartbeats 4000000 in
set_option maxRecDepth 100000 in
theorem fronts_else (w : World) (s : ByteArray) (hp : 0 < s.size) (hs : s.size ≤ 20000) (c10 : s[0]'hp ≠ 10) (c35 : s[0]'hp ≠ 35) (c34 : s[0]'hp ≠ 34) (no : NoOpen s) (hm : isM (s[0]'hp) = false) :
    Calls Try.prog 21 #[.string s] w fun e w' => e = .returned (.agg (c8 (runL isB s.data.toList) 0 0 (runL isW s.data.toList) 0 0)) ∧ Below w.heap.size w w' := by
  have K1 : ∀ u, Hid _ := fun u => hide (run1_any u s hs)
  have K3 : ∀ u, Hid _ := fun u => hide (run3_any u s hs)
  have K4 : ∀ u, Hid _ := fun u => hide (markT_any u (s[0]'hp))
  have F0 := hide (f8_start w)
  have i10 : (((s[0]'hp).toNat : Int) == 10) = false := b_ne 10 c10
  have i35 : (((s[0]'hp).toNat : Int) == 35) = false := b_ne 35 c35
  have i34 : (((s[0]'hp).toNat : Int) == 34) = false := b_ne 34 c34
  have hp1 : (0 : Int) < (s.size : Int) := by omega
  rw [hm] at K4
  clear c10 c35 c34 hm
  generalize runL isB s.data.toList = r1 at *
  generalize runL isW s.data.toList = r4 at *
  rcases no with h4 | ⟨h4, h5⟩
  · have d4 : decide ((s.size : Int) ≥ 4) = false := decide_eq_false (by omega)
    have d5 : decide (4 ≤ s.size) = false := decide_eq_false (by omega)
    go_enter Try.func21, Try.ntmps21
    go_wp2_with fail
    refine (unhide (K1 _)).mono ?_
    rintro e w2 ⟨rfl, hw⟩
    rw [hw]
    clear hw K1
    generalize (w.alloc (.cells #[.int .i64 0, .int .i64 0, .int .i64 0, .int .i64 0, .int .i64 0, .int .i64 0, .int .i64 0, .int .i64 0] 53)).alloc (.cells #[.int .i64 0, .int .i64 0, .int .i64 0, .int .i64 0, .int .i64 0, .int .i64 0, .int .i64 0, .int .i64 0] 53) = W0 at *
    obtain ⟨⟨a1, z1⟩, ⟨a2, z2⟩, ⟨a3, z3⟩, ⟨a4, z4⟩, ⟨a5, z5⟩, ⟨a6, z6⟩⟩ := (unhide F0).cells
    go_wp2_with fail
    refine (unhide (K3 _)).mono ?_
    rintro e w2 ⟨rfl, hw⟩
    rw [hw]
    clear hw K3
    have F1 : Hid (F8 w (W0.setCell ⟨w.heap.size + 1, 1, none⟩ (.int .i64 (r1 : Int))) r1 0 0 0 0 0) := hide ((unhide F0).set1 r1)
    clear a1 a2 a3 a4 a5 a6 z1 z2 z3 z4 z5 z6 F0
    generalize W0.setCell ⟨w.heap.size + 1, 1, none⟩ (.int .i64 (r1 : Int)) = W1 at *
    obtain ⟨⟨a1, z1⟩, ⟨a2, z2⟩, ⟨a3, z3⟩, ⟨a4, z4⟩, ⟨a5, z5⟩, ⟨a6, z6⟩⟩ := (unhide F1).cells
    go_wp2_with fail
    refine (unhide (K4 _)).mono ?_
    rintro e w2 ⟨rfl, hw⟩
    rw [hw]
    clear hw K4
    have F2 : Hid (F8 w (W1.setCell ⟨w.heap.size + 1, 4, none⟩ (.int .i64 (r4 : Int))) r1 0 0 r4 0 0) := hide ((unhide F1).set4 r4)
    clear a1 a2 a3 a4 a5 a6 z1 z2 z3 z4 z5 z6 F1
    generalize W1.setCell ⟨w.heap.size + 1, 4, none⟩ (.int .i64 (r4 : Int)) = W2 at *
    obtain ⟨⟨a1, z1⟩, ⟨a2, z2⟩, ⟨a3, z3⟩, ⟨a4, z4⟩, ⟨a5, z5⟩, ⟨a6, z6⟩⟩ := (unhide F2).cells
    clear a1 a2 a3 a4 a5 a6 z1 z2 z3 z4 z5 z6
    go_upto_region 25 with fail
    refine last8 _ _ 3 2 103 r1 0 0 r4 0 0 ?_ (by decide) ?_ ?_ (unhide F2) ?_ 25 _ _ _ _
    · exact Nat.lt_of_lt_of_eq (by decide : 103 < 104) rfl
    · rfl
    · rfl
    intro w9 b9 k9
    have y0 := k9.cell 0 _ rfl
    have y1 := k9.cell 1 _ rfl
    have y2 := k9.cell 2 _ rfl
    have y3 := k9.cell 3 _ rfl
    have y4 := k9.cell 4 _ rfl
    have y5 := k9.cell 5 _ rfl
    have y6 := k9.cell 6 _ rfl
    have y7 := k9.cell 7 _ rfl
    clear k9 F2
    go_wp2
    refine bodyPost_ret (v := .agg (c8 r1 0 0 r4 0 0)) (by simp [results, Try.results21, go_sem, Act.put, c8, y0, y1, y2, y3, y4, y5, y6, y7]) rfl ?_
    exact ⟨rfl, b9⟩
  · have d4 : decide ((s.size : Int) ≥ 4) = true := decide_eq_true (by omega)
    have d5 : decide (4 ≤ s.size) = true := decide_eq_true (by omega)
    have h6 : (4 : Int) ≤ (s.size : Int) := by omega
    go_enter Try.func21, Try.ntmps21
    go_wp2_with fail
    refine (unhide (K1 _)).mono ?_
    rintro e w2 ⟨rfl, hw⟩
    rw [hw]
    clear hw K1
    generalize (w.alloc (.cells #[.int .i64 0, .int .i64 0, .int .i64 0, .int .i64 0, .int .i64 0, .int .i64 0, .int .i64 0, .int .i64 0] 53)).alloc (.cells #[.int .i64 0, .int .i64 0, .int .i64 0, .int .i64 0, .int .i64 0, .int .i64 0, .int .i64 0, .int .i64 0] 53) = W0 at *
    obtain ⟨⟨a1, z1⟩, ⟨a2, z2⟩, ⟨a3, z3⟩, ⟨a4, z4⟩, ⟨a5, z5⟩, ⟨a6, z6⟩⟩ := (unhide F0).cells
    go_wp2_with fail
    refine (unhide (K3 _)).mono ?_
    rintro e w2 ⟨rfl, hw⟩
    rw [hw]
    clear hw K3
    have F1 : Hid (F8 w (W0.setCell ⟨w.heap.size + 1, 1, none⟩ (.int .i64 (r1 : Int))) r1 0 0 0 0 0) := hide ((unhide F0).set1 r1)
    clear a1 a2 a3 a4 a5 a6 z1 z2 z3 z4 z5 z6 F0
    generalize W0.setCell ⟨w.heap.size + 1, 1, none⟩ (.int .i64 (r1 : Int)) = W1 at *
    obtain ⟨⟨a1, z1⟩, ⟨a2, z2⟩, ⟨a3, z3⟩, ⟨a4, z4⟩, ⟨a5, z5⟩, ⟨a6, z6⟩⟩ := (unhide F1).cells
    go_wp2_with fail
    refine (unhide (K4 _)).mono ?_
    rintro e w2 ⟨rfl, hw⟩
    rw [hw]
    clear hw K4
    have F2 : Hid (F8 w (W1.setCell ⟨w.heap.size + 1, 4, none⟩ (.int .i64 (r4 : Int))) r1 0 0 r4 0 0) := hide ((unhide F1).set4 r4)
    clear a1 a2 a3 a4 a5 a6 z1 z2 z3 z4 z5 z6 F1
    generalize W1.setCell ⟨w.heap.size + 1, 4, none⟩ (.int .i64 (r4 : Int)) = W2 at *
    obtain ⟨⟨a1, z1⟩, ⟨a2, z2⟩, ⟨a3, z3⟩, ⟨a4, z4⟩, ⟨a5, z5⟩, ⟨a6, z6⟩⟩ := (unhide F2).cells
    clear a1 a2 a3 a4 a5 a6 z1 z2 z3 z4 z5 z6
    go_upto_region 25 with fail
    refine last8 _ _ 3 2 103 r1 0 0 r4 0 0 ?_ (by decide) ?_ ?_ (unhide F2) ?_ 25 _ _ _ _
    · exact Nat.lt_of_lt_of_eq (by decide : 103 < 104) rfl
    · rfl
    · rfl
    intro w9 b9 k9
    have y0 := k9.cell 0 _ rfl
    have y1 := k9.cell 1 _ rfl
    have y2 := k9.cell 2 _ rfl
    have y3 := k9.cell 3 _ rfl
    have y4 := k9.cell 4 _ rfl
    have y5 := k9.cell 5 _ rfl
    have y6 := k9.cell 6 _ rfl
    have y7 := k9.cell 7 _ rfl
    clear k9 F2
    go_wp2
    refine bodyPost_ret (v := .agg (c8 r1 0 0 r4 0 0)) (by simp [results, Try.results21, go_sem, Act.put, c8, y0, y1, y2, y3, y4, y5, y6, y7]) rfl ?_
    exact ⟨rfl, b9⟩
end Go.Proofs.Ytoikdjbgeebadaa.toks
/- The walk of the document's answer: how many bytes of each kind stand at the front, at a quote. -/
set_option linter.unusedVariables false
namespace Go.Proofs.Ytoikdjbgeebadaa.toks
open Go.RowKit

/-- How far the way of a text has come. -/
def QW (s : ByteArray) (k : Nat) : Prop := (k ≤ s.size ∧ Way s.data.toList 0 k) ∨ (k = s.size + 1 ∧ shutN (s.data.toList.drop 1) = 0)
set_option maxHeartbeats 4000000 in
set_option maxRecDepth 100000 in
theorem fronts_text (w : World) (s : ByteArray) (hp : 0 < s.size) (hs : s.size ≤ 20000) (c34 : s[0]'hp = 34) (no : NoOpen s) (hm : isM (s[0]'hp) = false) :
    Calls Try.prog 21 #[.string s] w fun e w' => e = .returned (.agg (c8 (runL isB s.data.toList) 0 0 (runL isW s.data.toList) (if shutN (s.data.toList.drop 1) = 0 then 0 else shutN (s.data.toList.drop 1) + 1) 0)) ∧ Below w.heap.size w w' := by
  have K1 : ∀ u, Hid _ := fun u => hide (run1_any u s hs)
  have K3 : ∀ u, Hid _ := fun u => hide (run3_any u s hs)
  have K4 : ∀ u, Hid _ := fun u => hide (markT_any u (s[0]'hp))
  have F0 := hide (f8_start w)
  have i10 : (((s[0]'hp).toNat : Int) == 10) = false := b_ne 10 (by rw [c34]; decide)
  have i35 : (((s[0]'hp).toNat : Int) == 35) = false := b_ne 35 (by rw [c34]; decide)
  have i34 : (((s[0]'hp).toNat : Int) == 34) = true := b_eq 34 c34
  have hp1 : (0 : Int) < (s.size : Int) := by omega
  rw [hm] at K4
  clear c34 hm
  generalize runL isB s.data.toList = r1 at *
  generalize runL isW s.data.toList = r4 at *
  have W00 := hide (way_start (l := s.data.toList) (a := 0) (by rw [len_list]; exact hp))
  obtain ⟨X, hX⟩ : ∃ X, X = (if shutN (s.data.toList.drop 1) = 0 then 0 else shutN (s.data.toList.drop 1) + 1) := ⟨_, rfl⟩
  rw [← hX]
  have HX := hide hX
  clear hX
  rcases no with h4 | ⟨h4, h5⟩
  · have d4 : decide ((s.size : Int) ≥ 4) = false := decide_eq_false (by omega)
    have d5 : decide (4 ≤ s.size) = false := decide_eq_false (by omega)
    go_enter Try.func21, Try.ntmps21
    go_wp2_with fail
    refine (unhide (K1 _)).mono ?_
    rintro e w2 ⟨rfl, hw⟩
    rw [hw]
    clear hw K1
    generalize (w.alloc (.cells #[.int .i64 0, .int .i64 0, .int .i64 0, .int .i64 0, .int .i64 0, .int .i64 0, .int .i64 0, .int .i64 0] 53)).alloc (.cells #[.int .i64 0, .int .i64 0, .int .i64 0, .int .i64 0, .int .i64 0, .int .i64 0, .int .i64 0, .int .i64 0] 53) = W0 at *
    obtain ⟨⟨a1, z1⟩, ⟨a2, z2⟩, ⟨a3, z3⟩, ⟨a4, z4⟩, ⟨a5, z5⟩, ⟨a6, z6⟩⟩ := (unhide F0).cells
    go_wp2_with fail
    refine (unhide (K3 _)).mono ?_
    rintro e w2 ⟨rfl, hw⟩
    rw [hw]
    clear hw K3
    have F1 : Hid (F8 w (W0.setCell ⟨w.heap.size + 1, 1, none⟩ (.int .i64 (r1 : Int))) r1 0 0 0 0 0) := hide ((unhide F0).set1 r1)
    clear a1 a2 a3 a4 a5 a6 z1 z2 z3 z4 z5 z6 F0
    generalize W0.setCell ⟨w.heap.size + 1, 1, none⟩ (.int .i64 (r1 : Int)) = W1 at *
    obtain ⟨⟨a1, z1⟩, ⟨a2, z2⟩, ⟨a3, z3⟩, ⟨a4, z4⟩, ⟨a5, z5⟩, ⟨a6, z6⟩⟩ := (unhide F1).cells
    go_wp2_with fail
    have F2 : Hid (F8 w (W1.setCell ⟨w.heap.size + 1, 4, none⟩ (.int .i64 (r4 : Int))) r1 0 0 r4 0 0) := hide ((unhide F1).set4 r4)
    clear a1 a2 a3 a4 a5 a6 z1 z2 z3 z4 z5 z6 F1
    generalize W1.setCell ⟨w.heap.size + 1, 4, none⟩ (.int .i64 (r4 : Int)) = W2 at *
    obtain ⟨⟨a1, z1⟩, ⟨a2, z2⟩, ⟨a3, z3⟩, ⟨a4, z4⟩, ⟨a5, z5⟩, ⟨a6, z6⟩⟩ := (unhide F2).cells
    go_loopw [5] (fun i wr => ∃ k : Nat, k ≤ s.size + 1 ∧ i = .int .i64 k ∧ Hid (QW s k) ∧ wr = W2) (fun i _ => s.size + 1 - (intOf i).toNat)
    case atStart => exact ⟨1, by omega, rfl, hide (.inl ⟨hp, unhide W00⟩), rfl⟩
    case round =>
      obtain ⟨k, hk, rfl, hQ, hw⟩ := hrel
      subst hw
      by_cases hlt : k < s.size
      · have hW : Hid (Way s.data.toList 0 k) := hide (by rcases unhide hQ with h | h; exact h.2; omega)
        have hak := (unhide hW).lo
        have j0 : (k : Int) < (s.size : Int) := by omega
        by_cases h34 : s[k]'hlt = 34
        · have E := hide (wayS_hit (unhide hW) hlt h34)
          have j1 : (((s[k]'hlt).toNat : Int) == 34) = true := b_eq 34 h34
          have j2 : (((s[k]'hlt).toNat : Int) != 34) = false := b_eq' 34 h34
          clear h34 hW hQ W00
          go_wp2_with fail
          refine (unhide (K4 _)).mono ?_
          rintro e w2 ⟨rfl, hw⟩
          rw [hw]
          clear hw K4
          have EX : Hid (X = k + 1) := hide (by rw [unhide HX, unhide E, if_neg (by omega), Nat.sub_zero])
          clear HX E
          have F3 : Hid (F8 w (wr.setCell ⟨w.heap.size + 1, 5, none⟩ (.int .i64 ((k + 1) : Int))) r1 0 0 r4 (k + 1) 0) := hide ((unhide F2).set5 (k + 1))
          clear a1 a2 a3 a4 a5 a6 z1 z2 z3 z4 z5 z6 F2
          generalize wr.setCell ⟨w.heap.size + 1, 5, none⟩ (.int .i64 ((k + 1) : Int)) = W3 at *
          obtain ⟨⟨a1, z1⟩, ⟨a2, z2⟩, ⟨a3, z3⟩, ⟨a4, z4⟩, ⟨a5, z5⟩, ⟨a6, z6⟩⟩ := (unhide F3).cells
          clear a1 a2 a3 a4 a5 a6 z1 z2 z3 z4 z5 z6
          go_upto_region 25 with fail
          refine last8 _ _ 3 2 103 r1 0 0 r4 (k + 1) 0 ?_ (by decide) ?_ ?_ (unhide F3) ?_ 25 _ _ _ _
          · exact Nat.lt_of_lt_of_eq (by decide : 103 < 104) rfl
          · rfl
          · rfl
          intro w9 b9 k9
          have y0 := k9.cell 0 _ rfl
          have y1 := k9.cell 1 _ rfl
          have y2 := k9.cell 2 _ rfl
          have y3 := k9.cell 3 _ rfl
          have y4 := k9.cell 4 _ rfl
          have y5 := k9.cell 5 _ rfl
          have y6 := k9.cell 6 _ rfl
          have y7 := k9.cell 7 _ rfl
          clear k9 F3
          go_wp2
          refine bodyPost_ret (v := .agg (c8 r1 0 0 r4 (k + 1) 0)) (by simp [results, Try.results21, go_sem, Act.put, c8, y0, y1, y2, y3, y4, y5, y6, y7]) rfl ?_
          exact ⟨by rw [unhide EX], b9⟩
        · have j1 : (((s[k]'hlt).toNat : Int) == 34) = false := b_ne 34 h34
          have j2 : (((s[k]'hlt).toNat : Int) != 34) = true := b_ne' 34 h34
          by_cases h10 : s[k]'hlt = 10
          · have E := hide (wayS_end (unhide hW) (.inr ⟨hlt, h10⟩))
            have j3 : (((s[k]'hlt).toNat : Int) == 10) = true := b_eq 10 h10
            have j4 : (((s[k]'hlt).toNat : Int) != 10) = false := b_eq' 10 h10
            clear h34 h10 hW hQ W00
            go_wp2_with fail
            refine (unhide (K4 _)).mono ?_
            rintro e w2 ⟨rfl, hw⟩
            rw [hw]
            clear hw K4
            have EX : Hid (X = 0) := hide (by rw [unhide HX, if_pos (unhide E).1])
            clear HX E
            clear a1 a2 a3 a4 a5 a6 z1 z2 z3 z4 z5 z6
            go_upto_region 25 with fail
            refine last8 _ _ 3 2 103 r1 0 0 r4 0 0 ?_ (by decide) ?_ ?_ (unhide F2) ?_ 25 _ _ _ _
            · exact Nat.lt_of_lt_of_eq (by decide : 103 < 104) rfl
            · rfl
            · rfl
            intro w9 b9 k9
            have y0 := k9.cell 0 _ rfl
            have y1 := k9.cell 1 _ rfl
            have y2 := k9.cell 2 _ rfl
            have y3 := k9.cell 3 _ rfl
            have y4 := k9.cell 4 _ rfl
            have y5 := k9.cell 5 _ rfl
            have y6 := k9.cell 6 _ rfl
            have y7 := k9.cell 7 _ rfl
            clear k9 F2
            go_wp2
            refine bodyPost_ret (v := .agg (c8 r1 0 0 r4 0 0)) (by simp [results, Try.results21, go_sem, Act.put, c8, y0, y1, y2, y3, y4, y5, y6, y7]) rfl ?_
            exact ⟨by rw [unhide EX], b9⟩
          · have j3 : (((s[k]'hlt).toNat : Int) == 10) = false := b_ne 10 h10
            have j4 : (((s[k]'hlt).toNat : Int) != 10) = true := b_ne' 10 h10
            by_cases h92 : s[k]'hlt = 92
            · have j5 : (((s[k]'hlt).toNat : Int) == 92) = true := b_eq 92 h92
              by_cases hl2 : k + 1 < s.size
              · have j6 : (k : Int) + 1 < (s.size : Int) := by omega
                by_cases h11 : s[k + 1]'hl2 = 10
                · have E := hide (wayS_end (wayS_next (unhide hW) hlt h34 h10 (fun _ _ => h11)) (.inr ⟨hl2, h11⟩))
                  have j7 : (((s[k + 1]'hl2).toNat : Int) == 10) = true := b_eq 10 h11
                  have j8 : (((s[k + 1]'hl2).toNat : Int) == 34) = false := b_ne 34 (by rw [h11]; decide)
                  clear h34 h10 h92 h11 hW hQ W00
                  go_wp2_with fail
                  refine (unhide (K4 _)).mono ?_
                  rintro e w2 ⟨rfl, hw⟩
                  rw [hw]
                  clear hw K4
                  have EX : Hid (X = 0) := hide (by rw [unhide HX, if_pos (unhide E).1])
                  clear HX E
                  clear a1 a2 a3 a4 a5 a6 z1 z2 z3 z4 z5 z6
                  go_upto_region 25 with fail
                  refine last8 _ _ 3 2 103 r1 0 0 r4 0 0 ?_ (by decide) ?_ ?_ (unhide F2) ?_ 25 _ _ _ _
                  · exact Nat.lt_of_lt_of_eq (by decide : 103 < 104) rfl
                  · rfl
                  · rfl
                  intro w9 b9 k9
                  have y0 := k9.cell 0 _ rfl
                  have y1 := k9.cell 1 _ rfl
                  have y2 := k9.cell 2 _ rfl
                  have y3 := k9.cell 3 _ rfl
                  have y4 := k9.cell 4 _ rfl
                  have y5 := k9.cell 5 _ rfl
                  have y6 := k9.cell 6 _ rfl
                  have y7 := k9.cell 7 _ rfl
                  clear k9 F2
                  go_wp2
                  refine bodyPost_ret (v := .agg (c8 r1 0 0 r4 0 0)) (by simp [results, Try.results21, go_sem, Act.put, c8, y0, y1, y2, y3, y4, y5, y6, y7]) rfl ?_
                  exact ⟨by rw [unhide EX], b9⟩
                · have E : Hid (QW s (k + 2)) := hide (.inl ⟨by omega, wayS_two (unhide hW) hl2 hlt h92 h11⟩)
                  have j7 : (((s[k + 1]'hl2).toNat : Int) == 10) = false := b_ne 10 h11
                  clear h34 h10 h92 h11 hW hQ W00
                  go_wp2
                  go_roundw
                  case rel => exact ⟨k + 2, by omega, by go_num, E, by first | rfl | trivial⟩
                  case measure => simp [intOf]; omega
              · have E : Hid (QW s (k + 2)) := hide (.inr ⟨by omega, (wayS_end (wayS_next (unhide hW) hlt h34 h10 (fun _ h => absurd h hl2)) (.inl (by omega))).1⟩)
                have d6 : decide ((k : Int) + 1 < (s.size : Int)) = false := decide_eq_false (by omega)
                have d7 : decide (k + 1 < s.size) = false := decide_eq_false (by omega)
                clear h34 h10 h92 hW hQ W00
                go_wp2
                go_roundw
                case rel => exact ⟨k + 2, by omega, by go_num, E, by first | rfl | trivial⟩
                case measure => simp [intOf]; omega
            · have E : Hid (QW s (k + 1)) := hide (.inl ⟨hlt, wayS_next (unhide hW) hlt h34 h10 (fun h => absurd h h92)⟩)
              have j5 : (((s[k]'hlt).toNat : Int) == 92) = false := b_ne 92 h92
              clear h34 h10 h92 hW hQ W00
              go_wp2
              go_roundw
              case rel => exact ⟨k + 1, by omega, by go_num, E, by first | rfl | trivial⟩
              case measure => simp [intOf]; omega
      · have E : Hid (shutN (s.data.toList.drop 1) = 0 ∧ True) := hide (by rcases unhide hQ with h | h; exact ⟨(wayS_end h.2 (.inl (by omega))).1, trivial⟩; exact ⟨h.2, trivial⟩)
        have d6 : decide ((k : Int) < (s.size : Int)) = false := decide_eq_false (by omega)
        have d7 : decide (k < s.size) = false := decide_eq_false (by omega)
        clear hQ W00
        go_wp2_with fail
        refine (unhide (K4 _)).mono ?_
        rintro e w2 ⟨rfl, hw⟩
        rw [hw]
        clear hw K4
        have EX : Hid (X = 0) := hide (by rw [unhide HX, if_pos (unhide E).1])
        clear HX E
        clear a1 a2 a3 a4 a5 a6 z1 z2 z3 z4 z5 z6
        go_upto_region 25 with fail
        refine last8 _ _ 3 2 103 r1 0 0 r4 0 0 ?_ (by decide) ?_ ?_ (unhide F2) ?_ 25 _ _ _ _
        · exact Nat.lt_of_lt_of_eq (by decide : 103 < 104) rfl
        · rfl
        · rfl
        intro w9 b9 k9
        have y0 := k9.cell 0 _ rfl
        have y1 := k9.cell 1 _ rfl
        have y2 := k9.cell 2 _ rfl
        have y3 := k9.cell 3 _ rfl
        have y4 := k9.cell 4 _ rfl
        have y5 := k9.cell 5 _ rfl
        have y6 := k9.cell 6 _ rfl
        have y7 := k9.cell 7 _ rfl
        clear k9 F2
        go_wp2
        refine bodyPost_ret (v := .agg (c8 r1 0 0 r4 0 0)) (by simp [results, Try.results21, go_sem, Act.put, c8, y0, y1, y2, y3, y4, y5, y6, y7]) rfl ?_
        exact ⟨by rw [unhide EX], b9⟩
  · have d4 : decide ((s.size : Int) ≥ 4) = true := decide_eq_true (by omega)
    have d5 : decide (4 ≤ s.size) = true := decide_eq_true (by omega)
    have h6 : (4 : Int) ≤ (s.size : Int) := by omega
    go_enter Try.func21, Try.ntmps21
    go_wp2_with fail
    refine (unhide (K1 _)).mono ?_
    rintro e w2 ⟨rfl, hw⟩
    rw [hw]
    clear hw K1
    generalize (w.alloc (.cells #[.int .i64 0, .int .i64 0, .int .i64 0, .int .i64 0, .int .i64 0, .int .i64 0, .int .i64 0, .int .i64 0] 53)).alloc (.cells #[.int .i64 0, .int .i64 0, .int .i64 0, .int .i64 0, .int .i64 0, .int .i64 0, .int .i64 0, .int .i64 0] 53) = W0 at *
    obtain ⟨⟨a1, z1⟩, ⟨a2, z2⟩, ⟨a3, z3⟩, ⟨a4, z4⟩, ⟨a5, z5⟩, ⟨a6, z6⟩⟩ := (unhide F0).cells
    go_wp2_with fail
    refine (unhide (K3 _)).mono ?_
    rintro e w2 ⟨rfl, hw⟩
    rw [hw]
    clear hw K3
    have F1 : Hid (F8 w (W0.setCell ⟨w.heap.size + 1, 1, none⟩ (.int .i64 (r1 : Int))) r1 0 0 0 0 0) := hide ((unhide F0).set1 r1)
    clear a1 a2 a3 a4 a5 a6 z1 z2 z3 z4 z5 z6 F0
    generalize W0.setCell ⟨w.heap.size + 1, 1, none⟩ (.int .i64 (r1 : Int)) = W1 at *
    obtain ⟨⟨a1, z1⟩, ⟨a2, z2⟩, ⟨a3, z3⟩, ⟨a4, z4⟩, ⟨a5, z5⟩, ⟨a6, z6⟩⟩ := (unhide F1).cells
    go_wp2_with fail
    have F2 : Hid (F8 w (W1.setCell ⟨w.heap.size + 1, 4, none⟩ (.int .i64 (r4 : Int))) r1 0 0 r4 0 0) := hide ((unhide F1).set4 r4)
    clear a1 a2 a3 a4 a5 a6 z1 z2 z3 z4 z5 z6 F1
    generalize W1.setCell ⟨w.heap.size + 1, 4, none⟩ (.int .i64 (r4 : Int)) = W2 at *
    obtain ⟨⟨a1, z1⟩, ⟨a2, z2⟩, ⟨a3, z3⟩, ⟨a4, z4⟩, ⟨a5, z5⟩, ⟨a6, z6⟩⟩ := (unhide F2).cells
    go_loopw [5] (fun i wr => ∃ k : Nat, k ≤ s.size + 1 ∧ i = .int .i64 k ∧ Hid (QW s k) ∧ wr = W2) (fun i _ => s.size + 1 - (intOf i).toNat)
    case atStart => exact ⟨1, by omega, rfl, hide (.inl ⟨hp, unhide W00⟩), rfl⟩
    case round =>
      obtain ⟨k, hk, rfl, hQ, hw⟩ := hrel
      subst hw
      by_cases hlt : k < s.size
      · have hW : Hid (Way s.data.toList 0 k) := hide (by rcases unhide hQ with h | h; exact h.2; omega)
        have hak := (unhide hW).lo
        have j0 : (k : Int) < (s.size : Int) := by omega
        by_cases h34 : s[k]'hlt = 34
        · have E := hide (wayS_hit (unhide hW) hlt h34)
          have j1 : (((s[k]'hlt).toNat : Int) == 34) = true := b_eq 34 h34
          have j2 : (((s[k]'hlt).toNat : Int) != 34) = false := b_eq' 34 h34
          clear h34 hW hQ W00
          go_wp2_with fail
          refine (unhide (K4 _)).mono ?_
          rintro e w2 ⟨rfl, hw⟩
          rw [hw]
          clear hw K4
          have EX : Hid (X = k + 1) := hide (by rw [unhide HX, unhide E, if_neg (by omega), Nat.sub_zero])
          clear HX E
          have F3 : Hid (F8 w (wr.setCell ⟨w.heap.size + 1, 5, none⟩ (.int .i64 ((k + 1) : Int))) r1 0 0 r4 (k + 1) 0) := hide ((unhide F2).set5 (k + 1))
          clear a1 a2 a3 a4 a5 a6 z1 z2 z3 z4 z5 z6 F2
          generalize wr.setCell ⟨w.heap.size + 1, 5, none⟩ (.int .i64 ((k + 1) : Int)) = W3 at *
          obtain ⟨⟨a1, z1⟩, ⟨a2, z2⟩, ⟨a3, z3⟩, ⟨a4, z4⟩, ⟨a5, z5⟩, ⟨a6, z6⟩⟩ := (unhide F3).cells
          clear a1 a2 a3 a4 a5 a6 z1 z2 z3 z4 z5 z6
          go_upto_region 25 with fail
          refine last8 _ _ 3 2 103 r1 0 0 r4 (k + 1) 0 ?_ (by decide) ?_ ?_ (unhide F3) ?_ 25 _ _ _ _
          · exact Nat.lt_of_lt_of_eq (by decide : 103 < 104) rfl
          · rfl
          · rfl
          intro w9 b9 k9
          have y0 := k9.cell 0 _ rfl
          have y1 := k9.cell 1 _ rfl
          have y2 := k9.cell 2 _ rfl
          have y3 := k9.cell 3 _ rfl
          have y4 := k9.cell 4 _ rfl
          have y5 := k9.cell 5 _ rfl
          have y6 := k9.cell 6 _ rfl
          have y7 := k9.cell 7 _ rfl
          clear k9 F3
          go_wp2
          refine bodyPost_ret (v := .agg (c8 r1 0 0 r4 (k + 1) 0)) (by simp [results, Try.results21, go_sem, Act.put, c8, y0, y1, y2, y3, y4, y5, y6, y7]) rfl ?_
          exact ⟨by rw [unhide EX], b9⟩
        · have j1 : (((s[k]'hlt).toNat : Int) == 34) = false := b_ne 34 h34
          have j2 : (((s[k]'hlt).toNat : Int) != 34) = true := b_ne' 34 h34
          by_cases h10 : s[k]'hlt = 10
          · have E := hide (wayS_end (unhide hW) (.inr ⟨hlt, h10⟩))
            have j3 : (((s[k]'hlt).toNat : Int) == 10) = true := b_eq 10 h10
            have j4 : (((s[k]'hlt).toNat : Int) != 10) = false := b_eq' 10 h10
            clear h34 h10 hW hQ W00
            go_wp2_with fail
            refine (unhide (K4 _)).mono ?_
            rintro e w2 ⟨rfl, hw⟩
            rw [hw]
            clear hw K4
            have EX : Hid (X = 0) := hide (by rw [unhide HX, if_pos (unhide E).1])
            clear HX E
            clear a1 a2 a3 a4 a5 a6 z1 z2 z3 z4 z5 z6
            go_upto_region 25 with fail
            refine last8 _ _ 3 2 103 r1 0 0 r4 0 0 ?_ (by decide) ?_ ?_ (unhide F2) ?_ 25 _ _ _ _
            · exact Nat.lt_of_lt_of_eq (by decide : 103 < 104) rfl
            · rfl
            · rfl
            intro w9 b9 k9
            have y0 := k9.cell 0 _ rfl
            have y1 := k9.cell 1 _ rfl
            have y2 := k9.cell 2 _ rfl
            have y3 := k9.cell 3 _ rfl
            have y4 := k9.cell 4 _ rfl
            have y5 := k9.cell 5 _ rfl
            have y6 := k9.cell 6 _ rfl
            have y7 := k9.cell 7 _ rfl
            clear k9 F2
            go_wp2
            refine bodyPost_ret (v := .agg (c8 r1 0 0 r4 0 0)) (by simp [results, Try.results21, go_sem, Act.put, c8, y0, y1, y2, y3, y4, y5, y6, y7]) rfl ?_
            exact ⟨by rw [unhide EX], b9⟩
          · have j3 : (((s[k]'hlt).toNat : Int) == 10) = false := b_ne 10 h10
            have j4 : (((s[k]'hlt).toNat : Int) != 10) = true := b_ne' 10 h10
            by_cases h92 : s[k]'hlt = 92
            · have j5 : (((s[k]'hlt).toNat : Int) == 92) = true := b_eq 92 h92
              by_cases hl2 : k + 1 < s.size
              · have j6 : (k : Int) + 1 < (s.size : Int) := by omega
                by_cases h11 : s[k + 1]'hl2 = 10
                · have E := hide (wayS_end (wayS_next (unhide hW) hlt h34 h10 (fun _ _ => h11)) (.inr ⟨hl2, h11⟩))
                  have j7 : (((s[k + 1]'hl2).toNat : Int) == 10) = true := b_eq 10 h11
                  have j8 : (((s[k + 1]'hl2).toNat : Int) == 34) = false := b_ne 34 (by rw [h11]; decide)
                  clear h34 h10 h92 h11 hW hQ W00
                  go_wp2_with fail
                  refine (unhide (K4 _)).mono ?_
                  rintro e w2 ⟨rfl, hw⟩
                  rw [hw]
                  clear hw K4
                  have EX : Hid (X = 0) := hide (by rw [unhide HX, if_pos (unhide E).1])
                  clear HX E
                  clear a1 a2 a3 a4 a5 a6 z1 z2 z3 z4 z5 z6
                  go_upto_region 25 with fail
                  refine last8 _ _ 3 2 103 r1 0 0 r4 0 0 ?_ (by decide) ?_ ?_ (unhide F2) ?_ 25 _ _ _ _
                  · exact Nat.lt_of_lt_of_eq (by decide : 103 < 104) rfl
                  · rfl
                  · rfl
                  intro w9 b9 k9
                  have y0 := k9.cell 0 _ rfl
                  have y1 := k9.cell 1 _ rfl
                  have y2 := k9.cell 2 _ rfl
                  have y3 := k9.cell 3 _ rfl
                  have y4 := k9.cell 4 _ rfl
                  have y5 := k9.cell 5 _ rfl
                  have y6 := k9.cell 6 _ rfl
                  have y7 := k9.cell 7 _ rfl
                  clear k9 F2
                  go_wp2
                  refine bodyPost_ret (v := .agg (c8 r1 0 0 r4 0 0)) (by simp [results, Try.results21, go_sem, Act.put, c8, y0, y1, y2, y3, y4, y5, y6, y7]) rfl ?_
                  exact ⟨by rw [unhide EX], b9⟩
                · have E : Hid (QW s (k + 2)) := hide (.inl ⟨by omega, wayS_two (unhide hW) hl2 hlt h92 h11⟩)
                  have j7 : (((s[k + 1]'hl2).toNat : Int) == 10) = false := b_ne 10 h11
                  clear h34 h10 h92 h11 hW hQ W00
                  go_wp2
                  go_roundw
                  case rel => exact ⟨k + 2, by omega, by go_num, E, by first | rfl | trivial⟩
                  case measure => simp [intOf]; omega
              · have E : Hid (QW s (k + 2)) := hide (.inr ⟨by omega, (wayS_end (wayS_next (unhide hW) hlt h34 h10 (fun _ h => absurd h hl2)) (.inl (by omega))).1⟩)
                have d6 : decide ((k : Int) + 1 < (s.size : Int)) = false := decide_eq_false (by omega)
                have d7 : decide (k + 1 < s.size) = false := decide_eq_false (by omega)
                clear h34 h10 h92 hW hQ W00
                go_wp2
                go_roundw
                case rel => exact ⟨k + 2, by omega, by go_num, E, by first | rfl | trivial⟩
                case measure => simp [intOf]; omega
            · have E : Hid (QW s (k + 1)) := hide (.inl ⟨hlt, wayS_next (unhide hW) hlt h34 h10 (fun h => absurd h h92)⟩)
              have j5 : (((s[k]'hlt).toNat : Int) == 92) = false := b_ne 92 h92
              clear h34 h10 h92 hW hQ W00
              go_wp2
              go_roundw
              case rel => exact ⟨k + 1, by omega, by go_num, E, by first | rfl | trivial⟩
              case measure => simp [intOf]; omega
      · have E : Hid (shutN (s.data.toList.drop 1) = 0 ∧ True) := hide (by rcases unhide hQ with h | h; exact ⟨(wayS_end h.2 (.inl (by omega))).1, trivial⟩; exact ⟨h.2, trivial⟩)
        have d6 : decide ((k : Int) < (s.size : Int)) = false := decide_eq_false (by omega)
        have d7 : decide (k < s.size) = false := decide_eq_false (by omega)
        clear hQ W00
        go_wp2_with fail
        refine (unhide (K4 _)).mono ?_
        rintro e w2 ⟨rfl, hw⟩
        rw [hw]
        clear hw K4
        have EX : Hid (X = 0) := hide (by rw [unhide HX, if_pos (unhide E).1])
        clear HX E
        clear a1 a2 a3 a4 a5 a6 z1 z2 z3 z4 z5 z6
        go_upto_region 25 with fail
        refine last8 _ _ 3 2 103 r1 0 0 r4 0 0 ?_ (by decide) ?_ ?_ (unhide F2) ?_ 25 _ _ _ _
        · exact Nat.lt_of_lt_of_eq (by decide : 103 < 104) rfl
        · rfl
        · rfl
        intro w9 b9 k9
        have y0 := k9.cell 0 _ rfl
        have y1 := k9.cell 1 _ rfl
        have y2 := k9.cell 2 _ rfl
        have y3 := k9.cell 3 _ rfl
        have y4 := k9.cell 4 _ rfl
        have y5 := k9.cell 5 _ rfl
        have y6 := k9.cell 6 _ rfl
        have y7 := k9.cell 7 _ rfl
        clear k9 F2
        go_wp2
        refine bodyPost_ret (v := .agg (c8 r1 0 0 r4 0 0)) (by simp [results, Try.results21, go_sem, Act.put, c8, y0, y1, y2, y3, y4, y5, y6, y7]) rfl ?_
        exact ⟨by rw [unhide EX], b9⟩
end Go.Proofs.Ytoikdjbgeebadaa.toks
/- The walk of the document's answer: how many bytes of each kind stand at the front, where a note that may go over lines opens. -/
set_option linter.unusedVariables false
namespace Go.Proofs.Ytoikdjbgeebadaa.toks
open Go.RowKit

theorem slice_of (s : ByteArray) (a b : Nat) (x y : Int) (hx : x = (a : Int)) (hy : y = (b : Int)) (h1 : a ≤ b) (h2 : b ≤ s.size) (W : World) : (Instr.slice 9 (.string s) (some (.int .i64 x)) (some (.int .i64 y)) none).run Try.prog W = .ok (.string (s.extract a b)) W := by
  subst hx hy
  have i1 : (0 : Int) ≤ (a : Int) := by omega
  have i2 : (a : Int) ≤ (b : Int) := by omega
  have i3 : (b : Int) ≤ (s.size : Int) := by omega
  go_simp
/-- How far the end of a note has been looked for. -/
def NW (l : List UInt8) (q x : Nat) : Prop := (x = 0 ∧ closeN (l.drop 2) = if closeN (l.drop q) = 0 then 0 else closeN (l.drop q) + (q - 2)) ∨ (x ≠ 0 ∧ closeN (l.drop 2) ≠ 0 ∧ x = closeN (l.drop 2) + 2)
theorem nw_start (l : List UInt8) : NW l 2 0 := .inl ⟨rfl, by split <;> omega⟩
theorem close_two {l : List UInt8} {q : Nat} (h : q + 1 < l.length) : closeN (l.drop q) = if l[q] = 42 ∧ l[q + 1] = 47 then 2 else if closeN (l.drop (q + 1)) = 0 then 0 else closeN (l.drop (q + 1)) + 1 := by
  rw [drop_cons (by omega : q < l.length), drop_cons h, closeN]
theorem nw_hit {l : List UInt8} {q : Nat} (w : NW l q 0) (hq : 2 ≤ q) (h : q + 1 < l.length) (h1 : l[q] = 42) (h2 : l[q + 1] = 47) : NW l (q + 1) (q + 2) := by
  rcases w with ⟨_, w⟩ | ⟨w, _⟩
  · have e : closeN (l.drop q) = 2 := by rw [close_two h, if_pos ⟨h1, h2⟩]
    rw [e, if_neg (by decide)] at w
    exact .inr ⟨by omega, by omega, by omega⟩
  · exact absurd rfl w
theorem nw_miss {l : List UInt8} {q : Nat} (w : NW l q 0) (hq : 2 ≤ q) (h : q + 1 < l.length) (h1 : ¬ (l[q] = 42 ∧ l[q + 1] = 47)) : NW l (q + 1) 0 := by
  rcases w with ⟨_, w⟩ | ⟨w, _⟩
  · refine .inl ⟨rfl, ?_⟩
    have e := close_two h
    rw [if_neg h1] at e
    rw [e] at w
    rw [w]
    by_cases h0 : closeN (l.drop (q + 1)) = 0
    · simp [h0]
    · rw [if_neg h0, if_neg h0, if_neg (by omega)]
      omega
  · exact absurd rfl w
theorem nw_end {l : List UInt8} {q x : Nat} (w : NW l q x) (h : x ≠ 0 ∨ l.length ≤ q + 1) : x = if closeN (l.drop 2) = 0 then 0 else closeN (l.drop 2) + 2 := by
  rcases w with ⟨rfl, w⟩ | ⟨_, w1, w2⟩
  · have h := h.resolve_left (fun e => e rfl)
    have e : closeN (l.drop q) = 0 := by
      by_cases hq : q < l.length
      · rw [drop_cons hq, List.drop_of_length_le h]; rfl
      · rw [List.drop_of_length_le (by omega)]; rfl
    rw [e, if_pos rfl] at w
    rw [if_pos w]
  · rw [if_neg w1, w2]
theorem two_at (s : ByteArray) (q : Nat) (h : q + 1 < s.size) : ((s.extract q (q + 2)).toList == [42, 47]) = decide (s[q]'(by omega) = 42 ∧ s[q + 1]'h = 47) := by
  rw [ByteArray.toList_eq, ext_list, List.drop_take, show q + 2 - q = 2 by omega, drop_cons (by rw [len_list]; omega : q < s.data.toList.length), drop_cons (by rw [len_list]; exact h : q + 1 < s.data.toList.length)]
  show (([s.data.toList[q]'(by rw [len_list]; omega), s.data.toList[q + 1]'(by rw [len_list]; exact h)] : List UInt8) == [42, 47]) = _
  have e1 : s.data.toList[q]'(by rw [len_list]; omega) = s[q]'(by omega) := rfl
  have e2 : s.data.toList[q + 1]'(by rw [len_list]; exact h) = s[q + 1]'h := rfl
  rw [e1, e2, Bool.eq_iff_iff, beq_iff_eq, decide_eq_true_iff]
  constructor
  · intro e
    injection e with a b
    injection b with b _
    exact ⟨a, b⟩
  · rintro ⟨a, b⟩
    rw [a, b]
set_option maxHeartbeats 4000000 in
set_option maxRecDepth 100000 in
theorem fronts_open (w : World) (s : ByteArray) (hp : 0 < s.size) (hs : s.size ≤ 20000) (c47 : s[0]'hp = 47) (h4 : 4 ≤ s.size) (h5 : ((s.extract 0 2).toList == [47, 42]) = true) (hm : isM (s[0]'hp) = false) :
    Calls Try.prog 21 #[.string s] w fun e w' => e = .returned (.agg (c8 (runL isB s.data.toList) 0 (if closeN (s.data.toList.drop 2) = 0 then 0 else closeN (s.data.toList.drop 2) + 2) (runL isW s.data.toList) 0 0)) ∧ Below w.heap.size w w' := by
  have K1 : ∀ u, Hid _ := fun u => hide (run1_any u s hs)
  have K3 : ∀ u, Hid _ := fun u => hide (run3_any u s hs)
  have K4 : ∀ u, Hid _ := fun u => hide (markT_any u (s[0]'hp))
  have F0 := hide (f8_start w)
  have i10 : (((s[0]'hp).toNat : Int) == 10) = false := b_ne 10 (by rw [c47]; decide)
  have i35 : (((s[0]'hp).toNat : Int) == 35) = false := b_ne 35 (by rw [c47]; decide)
  have i34 : (((s[0]'hp).toNat : Int) == 34) = false := b_ne 34 (by rw [c47]; decide)
  have hp1 : (0 : Int) < (s.size : Int) := by omega
  rw [hm] at K4
  clear c47 hm
  generalize runL isB s.data.toList = r1 at *
  generalize runL isW s.data.toList = r4 at *
  have W00 := hide (nw_start s.data.toList)
  obtain ⟨X, hX⟩ : ∃ X, X = (if closeN (s.data.toList.drop 2) = 0 then 0 else closeN (s.data.toList.drop 2) + 2) := ⟨_, rfl⟩
  rw [← hX]
  have HX := hide hX
  clear hX
  have d4 : decide ((s.size : Int) ≥ 4) = true := decide_eq_true (by omega)
  have d5 : decide (4 ≤ s.size) = true := decide_eq_true (by omega)
  have h6 : (4 : Int) ≤ (s.size : Int) := by omega
  go_enter Try.func21, Try.ntmps21
  go_wp2_with fail
  refine (unhide (K1 _)).mono ?_
  rintro e w2 ⟨rfl, hw⟩
  rw [hw]
  clear hw K1
  generalize (w.alloc (.cells #[.int .i64 0, .int .i64 0, .int .i64 0, .int .i64 0, .int .i64 0, .int .i64 0, .int .i64 0, .int .i64 0] 53)).alloc (.cells #[.int .i64 0, .int .i64 0, .int .i64 0, .int .i64 0, .int .i64 0, .int .i64 0, .int .i64 0, .int .i64 0] 53) = W0 at *
  obtain ⟨⟨a1, z1⟩, ⟨a2, z2⟩, ⟨a3, z3⟩, ⟨a4, z4⟩, ⟨a5, z5⟩, ⟨a6, z6⟩⟩ := (unhide F0).cells
  go_wp2_with fail
  have F1 : Hid (F8 w (W0.setCell ⟨w.heap.size + 1, 1, none⟩ (.int .i64 (r1 : Int))) r1 0 0 0 0 0) := hide ((unhide F0).set1 r1)
  clear a1 a2 a3 a4 a5 a6 z1 z2 z3 z4 z5 z6 F0
  generalize W0.setCell ⟨w.heap.size + 1, 1, none⟩ (.int .i64 (r1 : Int)) = W1 at *
  obtain ⟨⟨a1, z1⟩, ⟨a2, z2⟩, ⟨a3, z3⟩, ⟨a4, z4⟩, ⟨a5, z5⟩, ⟨a6, z6⟩⟩ := (unhide F1).cells
  clear a1 a2 a3 a4 a5 a6 z1 z2 z3 z4 z5 z6
  go_loopw [4] (fun i wr => ∃ q x3 : Nat, 2 ≤ q ∧ q + 1 ≤ s.size ∧ i = .int .i64 ((q : Int) + 2) ∧ Hid (F8 w wr r1 0 x3 0 0 0) ∧ Hid (NW s.data.toList q x3)) (fun i _ => s.size + 2 - (intOf i).toNat)
  case atStart => exact ⟨2, 0, by omega, by omega, rfl, F1, W00⟩
  case round =>
    obtain ⟨q, x3, hq1, hq2, rfl, hF, hN⟩ := hrel
    obtain ⟨⟨a1, z1⟩, ⟨a2, z2⟩, ⟨a3, z3⟩, ⟨a4, z4⟩, ⟨a5, z5⟩, ⟨a6, z6⟩⟩ := (unhide hF).cells
    by_cases hlt : q + 1 < s.size
    · have j0 : (q : Int) + 2 ≤ (s.size : Int) := by omega
      by_cases hx : x3 = 0
      · subst hx
        have sl := fun u => slice_of s q (q + 2) (q : Int) ((q : Int) + 2) rfl (by omega) (by omega) (by omega) u
        have t2 := two_at s q hlt
        by_cases hc : s[q]'(by omega) = 42 ∧ s[q + 1]'hlt = 47
        · rw [decide_eq_true hc] at t2
          have E : Hid (NW s.data.toList (q + 1) (q + 2)) := hide (nw_hit (unhide hN) hq1 (by rw [len_list]; exact hlt) hc.1 hc.2)
          clear hc hN W00
          have F5 : Hid (F8 w (wr.setCell ⟨w.heap.size + 1, 3, none⟩ (.int .i64 ((q : Int) + 2))) r1 0 (q + 2) 0 0 0) := hide ((unhide hF).set3 (q + 2))
          go_wp2
          go_roundw
          case rel => exact ⟨q + 1, q + 2, by omega, by omega, by go_num, F5, E⟩
          case measure => simp [intOf]; omega
        · rw [decide_eq_false hc] at t2
          have E : Hid (NW s.data.toList (q + 1) 0) := hide (nw_miss (unhide hN) hq1 (by rw [len_list]; exact hlt) hc)
          clear hc hN W00
          go_wp2
          go_roundw
          case rel => exact ⟨q + 1, 0, by omega, by omega, by go_num, hF, E⟩
          case measure => simp [intOf]; omega
      · have EX : Hid (X = x3) := hide (by rw [unhide HX]; exact (nw_end (unhide hN) (.inl hx)).symm)
        have j1 : ((x3 : Int) == 0) = false := beq_false_of_ne (by omega)
        clear hx hN W00 HX
        go_wp2_with fail
        refine (unhide (K3 _)).mono ?_
        rintro e w2 ⟨rfl, hw⟩
        rw [hw]
        clear hw K3
        go_wp2_with fail
        refine (unhide (K4 _)).mono ?_
        rintro e w2 ⟨rfl, hw⟩
        rw [hw]
        clear hw K4
        have F3 : Hid (F8 w (wr.setCell ⟨w.heap.size + 1, 4, none⟩ (.int .i64 (r4 : Int))) r1 0 x3 r4 0 0) := hide ((unhide hF).set4 r4)
        clear a1 a2 a3 a4 a5 a6 z1 z2 z3 z4 z5 z6 hF
        generalize wr.setCell ⟨w.heap.size + 1, 4, none⟩ (.int .i64 (r4 : Int)) = W3 at *
        obtain ⟨⟨a1, z1⟩, ⟨a2, z2⟩, ⟨a3, z3⟩, ⟨a4, z4⟩, ⟨a5, z5⟩, ⟨a6, z6⟩⟩ := (unhide F3).cells
        clear a1 a2 a3 a4 a5 a6 z1 z2 z3 z4 z5 z6
        go_upto_region 25 with fail
        refine last8 _ _ 3 2 103 r1 0 x3 r4 0 0 ?_ (by decide) ?_ ?_ (unhide F3) ?_ 25 _ _ _ _
        · exact Nat.lt_of_lt_of_eq (by decide : 103 < 104) rfl
        · rfl
        · rfl
        intro w9 b9 k9
        have y0 := k9.cell 0 _ rfl
        have y1 := k9.cell 1 _ rfl
        have y2 := k9.cell 2 _ rfl
        have y3 := k9.cell 3 _ rfl
        have y4 := k9.cell 4 _ rfl
        have y5 := k9.cell 5 _ rfl
        have y6 := k9.cell 6 _ rfl
        have y7 := k9.cell 7 _ rfl
        clear k9 F3
        go_wp2
        refine bodyPost_ret (v := .agg (c8 r1 0 x3 r4 0 0)) (by simp [results, Try.results21, go_sem, Act.put, c8, y0, y1, y2, y3, y4, y5, y6, y7]) rfl ?_
        exact ⟨by rw [unhide EX], b9⟩
    · have EX : Hid (X = x3) := hide (by rw [unhide HX]; exact (nw_end (unhide hN) (.inr (by rw [len_list]; omega))).symm)
      have d8 : decide ((q : Int) + 2 ≤ (s.size : Int)) = false := decide_eq_false (by omega)
      have d9 : decide (q + 2 ≤ s.size) = false := decide_eq_false (by omega)
      clear hN W00 HX
      go_wp2_with fail
      refine (unhide (K3 _)).mono ?_
      rintro e w2 ⟨rfl, hw⟩
      rw [hw]
      clear hw K3
      go_wp2_with fail
      refine (unhide (K4 _)).mono ?_
      rintro e w2 ⟨rfl, hw⟩
      rw [hw]
      clear hw K4
      have F3 : Hid (F8 w (wr.setCell ⟨w.heap.size + 1, 4, none⟩ (.int .i64 (r4 : Int))) r1 0 x3 r4 0 0) := hide ((unhide hF).set4 r4)
      clear a1 a2 a3 a4 a5 a6 z1 z2 z3 z4 z5 z6 hF
      generalize wr.setCell ⟨w.heap.size + 1, 4, none⟩ (.int .i64 (r4 : Int)) = W3 at *
      obtain ⟨⟨a1, z1⟩, ⟨a2, z2⟩, ⟨a3, z3⟩, ⟨a4, z4⟩, ⟨a5, z5⟩, ⟨a6, z6⟩⟩ := (unhide F3).cells
      clear a1 a2 a3 a4 a5 a6 z1 z2 z3 z4 z5 z6
      go_upto_region 25 with fail
      refine last8 _ _ 3 2 103 r1 0 x3 r4 0 0 ?_ (by decide) ?_ ?_ (unhide F3) ?_ 25 _ _ _ _
      · exact Nat.lt_of_lt_of_eq (by decide : 103 < 104) rfl
      · rfl
      · rfl
      intro w9 b9 k9
      have y0 := k9.cell 0 _ rfl
      have y1 := k9.cell 1 _ rfl
      have y2 := k9.cell 2 _ rfl
      have y3 := k9.cell 3 _ rfl
      have y4 := k9.cell 4 _ rfl
      have y5 := k9.cell 5 _ rfl
      have y6 := k9.cell 6 _ rfl
      have y7 := k9.cell 7 _ rfl
      clear k9 F3
      go_wp2
      refine bodyPost_ret (v := .agg (c8 r1 0 x3 r4 0 0)) (by simp [results, Try.results21, go_sem, Act.put, c8, y0, y1, y2, y3, y4, y5, y6, y7]) rfl ?_
      exact ⟨by rw [unhide EX], b9⟩
end Go.Proofs.Ytoikdjbgeebadaa.toks
