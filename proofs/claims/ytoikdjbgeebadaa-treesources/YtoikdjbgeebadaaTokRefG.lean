/- The walk of the document's answer: how many bytes of each kind stand at the front, where no loop is entered. -/
import Derived.Test.YtoikdjbgeebadaaTokRefF
import Derived.Deep.CutRange
set_option linter.unusedVariables false
namespace Go.Proofs.Ytoikdjbgeebadaa.toks
open Go.RowKit

/-- No note that may go over lines opens the text: as the walk tests it. -/
def NoOpen (s : ByteArray) : Prop := s.size < 4 ∨ (4 ≤ s.size ∧ ((s.extract 0 2).toList == [47, 42]) = false)
set_option maxHeartbeats 4000000 in
set_option maxRecDepth 100000 in
theorem fronts_line (w : World) (s : ByteArray) (hp : 0 < s.size) (hs : s.size ≤ 20000) (c10 : s[0]'hp = 10) (no : NoOpen s) (hm : isM (s[0]'hp) = false) :
    Calls Try.prog 21 #[.string s] w fun e w' => e = .returned (.agg (c8 (runL isB s.data.toList) 1 0 (runL isW s.data.toList) 0 0)) ∧ Below w.heap.size w w' := by
  have K1 : ∀ u, Hid _ := fun u => hide (run1_any u s hs)
  have K3 : ∀ u, Hid _ := fun u => hide (run3_any u s hs)
  have K4 : ∀ u, Hid _ := fun u => hide (markT_any u (s[0]'hp))
  have F0 := hide (f8_start w)
  have i10 : (((s[0]'hp).toNat : Int) == 10) = true := b_eq 10 c10
  have i35 : (((s[0]'hp).toNat : Int) == 35) = false := b_ne 35 (by rw [c10]; decide)
  have i34 : (((s[0]'hp).toNat : Int) == 34) = false := b_ne 34 (by rw [c10]; decide)
  have hp1 : (0 : Int) < (s.size : Int) := by omega
  rw [hm] at K4
  clear c10 hm
  generalize runL isB s.data.toList = r1 at *
  generalize runL isW s.data.toList = r4 at *
  rcases no with h4 | ⟨h4, h5⟩
  · have d4 : decide ((s.size : Int) ≥ 4) = false := decide_eq_false (by omega)
    have d5 : decide (4 ≤ s.size) = false := decide_eq_false (by omega)
    go_enter Try.func21, Try.ntmps21
    go_wp2_with fail
    refine (unhide (K1 _)).mono ?_
    rintro e w2 ⟨rfl, hw⟩
    rw [hw]
    clear hw K1
    generalize (w.alloc (.cells #[.int .i64 0, .int .i64 0, .int .i64 0, .int .i64 0, .int .i64 0, .int .i64 0, .int .i64 0, .int .i64 0] 53)).alloc (.cells #[.int .i64 0, .int .i64 0, .int .i64 0, .int .i64 0, .int .i64 0, .int .i64 0, .int .i64 0, .int .i64 0] 53) = W0 at *
    obtain ⟨⟨a1, z1⟩, ⟨a2, z2⟩, ⟨a3, z3⟩, ⟨a4, z4⟩, ⟨a5, z5⟩, ⟨a6, z6⟩⟩ := (unhide F0).cells
    go_wp2_with fail
    refine (unhide (K3 _)).mono ?_
    rintro e w2 ⟨rfl, hw⟩
    rw [hw]
    clear hw K3
    have F1 : Hid (F8 w ((W0.setCell ⟨w.heap.size + 1, 1, none⟩ (.int .i64 (r1 : Int))).setCell ⟨w.heap.size + 1, 2, none⟩ (.int .i64 1)) r1 1 0 0 0 0) := hide (((unhide F0).set1 r1).set2 1)
    clear a1 a2 a3 a4 a5 a6 z1 z2 z3 z4 z5 z6 F0
    generalize (W0.setCell ⟨w.heap.size + 1, 1, none⟩ (.int .i64 (r1 : Int))).setCell ⟨w.heap.size + 1, 2, none⟩ (.int .i64 1) = W1 at *
    obtain ⟨⟨a1, z1⟩, ⟨a2, z2⟩, ⟨a3, z3⟩, ⟨a4, z4⟩, ⟨a5, z5⟩, ⟨a6, z6⟩⟩ := (unhide F1).cells
    go_wp2_with fail
    refine (unhide (K4 _)).mono ?_
    rintro e w2 ⟨rfl, hw⟩
    rw [hw]
    clear hw K4
    have F2 : Hid (F8 w (W1.setCell ⟨w.heap.size + 1, 4, none⟩ (.int .i64 (r4 : Int))) r1 1 0 r4 0 0) := hide ((unhide F1).set4 r4)
    clear a1 a2 a3 a4 a5 a6 z1 z2 z3 z4 z5 z6 F1
    generalize W1.setCell ⟨w.heap.size + 1, 4, none⟩ (.int .i64 (r4 : Int)) = W2 at *
    obtain ⟨⟨a1, z1⟩, ⟨a2, z2⟩, ⟨a3, z3⟩, ⟨a4, z4⟩, ⟨a5, z5⟩, ⟨a6, z6⟩⟩ := (unhide F2).cells
    clear a1 a2 a3 a4 a5 a6 z1 z2 z3 z4 z5 z6
    go_upto_region 25 with fail
    refine last8 _ _ 3 2 103 r1 1 0 r4 0 0 ?_ (by decide) ?_ ?_ (unhide F2) ?_ 25 _ _ _ _
    · exact Nat.lt_of_lt_of_eq (by decide : 103 < 104) rfl
    · rfl
    · rfl
    intro w9 b9 k9
    have y0 := k9.cell 0 _ rfl
    have y1 := k9.cell 1 _ rfl
    have y2 := k9.cell 2 _ rfl
    have y3 := k9.cell 3 _ rfl
    have y4 := k9.cell 4 _ rfl
    have y5 := k9.cell 5 _ rfl
    have y6 := k9.cell 6 _ rfl
    have y7 := k9.cell 7 _ rfl
    clear k9 F2
    go_wp2
    refine bodyPost_ret (v := .agg (c8 r1 1 0 r4 0 0)) (by simp [results, Try.results21, go_sem, Act.put, c8, y0, y1, y2, y3, y4, y5, y6, y7]) rfl ?_
    exact ⟨rfl, b9⟩
  · have d4 : decide ((s.size : Int) ≥ 4) = true := decide_eq_true (by omega)
    have d5 : decide (4 ≤ s.size) = true := decide_eq_true (by omega)
    have h6 : (4 : Int) ≤ (s.size : Int) := by omega
    go_enter Try.func21, Try.ntmps21
    go_wp2_with fail
    refine (unhide (K1 _)).mono ?_
    rintro e w2 ⟨rfl, hw⟩
    rw [hw]
    clear hw K1
    generalize (w.alloc (.cells #[.int .i64 0, .int .i64 0, .int .i64 0, .int .i64 0, .int .i64 0, .int .i64 0, .int .i64 0, .int .i64 0] 53)).alloc (.cells #[.int .i64 0, .int .i64 0, .int .i64 0, .int .i64 0, .int .i64 0, .int .i64 0, .int .i64 0, .int .i64 0] 53) = W0 at *
    obtain ⟨⟨a1, z1⟩, ⟨a2, z2⟩, ⟨a3, z3⟩, ⟨a4, z4⟩, ⟨a5, z5⟩, ⟨a6, z6⟩⟩ := (unhide F0).cells
    go_wp2_with fail
    refine (unhide (K3 _)).mono ?_
    rintro e w2 ⟨rfl, hw⟩
    rw [hw]
    clear hw K3
    have F1 : Hid (F8 w ((W0.setCell ⟨w.heap.size + 1, 1, none⟩ (.int .i64 (r1 : Int))).setCell ⟨w.heap.size + 1, 2, none⟩ (.int .i64 1)) r1 1 0 0 0 0) := hide (((unhide F0).set1 r1).set2 1)
    clear a1 a2 a3 a4 a5 a6 z1 z2 z3 z4 z5 z6 F0
    generalize (W0.setCell ⟨w.heap.size + 1, 1, none⟩ (.int .i64 (r1 : Int))).setCell ⟨w.heap.size + 1, 2, none⟩ (.int .i64 1) = W1 at *
    obtain ⟨⟨a1, z1⟩, ⟨a2, z2⟩, ⟨a3, z3⟩, ⟨a4, z4⟩, ⟨a5, z5⟩, ⟨a6, z6⟩⟩ := (unhide F1).cells
    go_wp2_with fail
    refine (unhide (K4 _)).mono ?_
    rintro e w2 ⟨rfl, hw⟩
    rw [hw]
    clear hw K4
    have F2 : Hid (F8 w (W1.setCell ⟨w.heap.size + 1, 4, none⟩ (.int .i64 (r4 : Int))) r1 1 0 r4 0 0) := hide ((unhide F1).set4 r4)
    clear a1 a2 a3 a4 a5 a6 z1 z2 z3 z4 z5 z6 F1
    generalize W1.setCell ⟨w.heap.size + 1, 4, none⟩ (.int .i64 (r4 : Int)) = W2 at *
    obtain ⟨⟨a1, z1⟩, ⟨a2, z2⟩, ⟨a3, z3⟩, ⟨a4, z4⟩, ⟨a5, z5⟩, ⟨a6, z6⟩⟩ := (unhide F2).cells
    clear a1 a2 a3 a4 a5 a6 z1 z2 z3 z4 z5 z6
    go_upto_region 25 with fail
    refine last8 _ _ 3 2 103 r1 1 0 r4 0 0 ?_ (by decide) ?_ ?_ (unhide F2) ?_ 25 _ _ _ _
    · exact Nat.lt_of_lt_of_eq (by decide : 103 < 104) rfl
    · rfl
    · rfl
    intro w9 b9 k9
    have y0 := k9.cell 0 _ rfl
    have y1 := k9.cell 1 _ rfl
    have y2 := k9.cell 2 _ rfl
    have y3 := k9.cell 3 _ rfl
    have y4 := k9.cell 4 _ rfl
    have y5 := k9.cell 5 _ rfl
    have y6 := k9.cell 6 _ rfl
    have y7 := k9.cell 7 _ rfl
    clear k9 F2
    go_wp2
    refine bodyPost_ret (v := .agg (c8 r1 1 0 r4 0 0)) (by simp [results, Try.results21, go_sem, Act.put, c8, y0, y1, y2, y3, y4, y5, y6, y7]) rfl ?_
    exact ⟨rfl, b9⟩
set_option maxHeartbeats 4000000 in
set_option maxRecDepth 100000 in
theorem fronts_note (w : World) (s : ByteArray) (hp : 0 < s.size) (hs : s.size ≤ 20000) (c35 : s[0]'hp = 35) (no : NoOpen s) (hm : isM (s[0]'hp) = false) :
    Calls Try.prog 21 #[.string s] w fun e w' => e = .returned (.agg (c8 (runL isB s.data.toList) 0 (runL noL s.data.toList) (runL isW s.data.toList) 0 0)) ∧ Below w.heap.size w w' := by
  have K1 : ∀ u, Hid _ := fun u => hide (run1_any u s hs)
  have K2 : ∀ u, Hid _ := fun u => hide (run2_any u s hs)
  have K3 : ∀ u, Hid _ := fun u => hide (run3_any u s hs)
  have K4 : ∀ u, Hid _ := fun u => hide (markT_any u (s[0]'hp))
  have F0 := hide (f8_start w)
  have i10 : (((s[0]'hp).toNat : Int) == 10) = false := b_ne 10 (by rw [c35]; decide)
  have i35 : (((s[0]'hp).toNat : Int) == 35) = true := b_eq 35 c35
  have i34 : (((s[0]'hp).toNat : Int) == 34) = false := b_ne 34 (by rw [c35]; decide)
  have hp1 : (0 : Int) < (s.size : Int) := by omega
  rw [hm] at K4
  clear c35 hm
  generalize runL isB s.data.toList = r1 at *
  generalize runL noL s.data.toList = r3 at *
  generalize runL isW s.data.toList = r4 at *
  rcases no with h4 | ⟨h4, h5⟩
  · have d4 : decide ((s.size : Int) ≥ 4) = false := decide_eq_false (by omega)
    have d5 : decide (4 ≤ s.size) = false := decide_eq_false (by omega)
    go_enter Try.func21, Try.ntmps21
    go_wp2_with fail
    refine (unhide (K1 _)).mono ?_
    rintro e w2 ⟨rfl, hw⟩
    rw [hw]
    clear hw K1
    generalize (w.alloc (.cells #[.int .i64 0, .int .i64 0, .int .i64 0, .int .i64 0, .int .i64 0, .int .i64 0, .int .i64 0, .int .i64 0] 53)).alloc (.cells #[.int .i64 0, .int .i64 0, .int .i64 0, .int .i64 0, .int .i64 0, .int .i64 0, .int .i64 0, .int .i64 0] 53) = W0 at *
    obtain ⟨⟨a1, z1⟩, ⟨a2, z2⟩, ⟨a3, z3⟩, ⟨a4, z4⟩, ⟨a5, z5⟩, ⟨a6, z6⟩⟩ := (unhide F0).cells
    go_wp2_with fail
    refine (unhide (K2 _)).mono ?_
    rintro e w2 ⟨rfl, hw⟩
    rw [hw]
    clear hw K2
    have F1 : Hid (F8 w (W0.setCell ⟨w.heap.size + 1, 1, none⟩ (.int .i64 (r1 : Int))) r1 0 0 0 0 0) := hide ((unhide F0).set1 r1)
    clear a1 a2 a3 a4 a5 a6 z1 z2 z3 z4 z5 z6 F0
    generalize W0.setCell ⟨w.heap.size + 1, 1, none⟩ (.int .i64 (r1 : Int)) = W1 at *
    obtain ⟨⟨a1, z1⟩, ⟨a2, z2⟩, ⟨a3, z3⟩, ⟨a4, z4⟩, ⟨a5, z5⟩, ⟨a6, z6⟩⟩ := (unhide F1).cells
    go_wp2_with fail
    refine (unhide (K3 _)).mono ?_
    rintro e w2 ⟨rfl, hw⟩
    rw [hw]
    clear hw K3
    have F2 : Hid (F8 w (W1.setCell ⟨w.heap.size + 1, 3, none⟩ (.int .i64 (r3 : Int))) r1 0 r3 0 0 0) := hide ((unhide F1).set3 r3)
    clear a1 a2 a3 a4 a5 a6 z1 z2 z3 z4 z5 z6 F1
    generalize W1.setCell ⟨w.heap.size + 1, 3, none⟩ (.int .i64 (r3 : Int)) = W2 at *
    obtain ⟨⟨a1, z1⟩, ⟨a2, z2⟩, ⟨a3, z3⟩, ⟨a4, z4⟩, ⟨a5, z5⟩, ⟨a6, z6⟩⟩ := (unhide F2).cells
    go_wp2_with fail
    refine (unhide (K4 _)).mono ?_
    rintro e w2 ⟨rfl, hw⟩
    rw [hw]
    clear hw K4
    have F3 : Hid (F8 w (W2.setCell ⟨w.heap.size + 1, 4, none⟩ (.int .i64 (r4 : Int))) r1 0 r3 r4 0 0) := hide ((unhide F2).set4 r4)
    clear a1 a2 a3 a4 a5 a6 z1 z2 z3 z4 z5 z6 F2
    generalize W2.setCell ⟨w.heap.size + 1, 4, none⟩ (.int .i64 (r4 : Int)) = W3 at *
    obtain ⟨⟨a1, z1⟩, ⟨a2, z2⟩, ⟨a3, z3⟩, ⟨a4, z4⟩, ⟨a5, z5⟩, ⟨a6, z6⟩⟩ := (unhide F3).cells
    clear a1 a2 a3 a4 a5 a6 z1 z2 z3 z4 z5 z6
    go_upto_region 25 with fail
    refine last8 _ _ 3 2 103 r1 0 r3 r4 0 0 ?_ (by decide) ?_ ?_ (unhide F3) ?_ 25 _ _ _ _
    · exact Nat.lt_of_lt_of_eq (by decide : 103 < 104) rfl
    · rfl
    · rfl
    intro w9 b9 k9
    have y0 := k9.cell 0 _ rfl
    have y1 := k9.cell 1 _ rfl
    have y2 := k9.cell 2 _ rfl
    have y3 := k9.cell 3 _ rfl
    have y4 := k9.cell 4 _ rfl
    have y5 := k9.cell 5 _ rfl
    have y6 := k9.cell 6 _ rfl
    have y7 := k9.cell 7 _ rfl
    clear k9 F3
    go_wp2
    refine bodyPost_ret (v := .agg (c8 r1 0 r3 r4 0 0)) (by simp [results, Try.results21, go_sem, Act.put, c8, y0, y1, y2, y3, y4, y5, y6, y7]) rfl ?_
    exact ⟨rfl, b9⟩
  · have d4 : decide ((s.size : Int) ≥ 4) = true := decide_eq_true (by omega)
    have d5 : decide (4 ≤ s.size) = true := decide_eq_true (by omega)
    have h6 : (4 : Int) ≤ (s.size : Int) := by omega
    go_enter Try.func21, Try.ntmps21
    go_wp2_with fail
    refine (unhide (K1 _)).mono ?_
    rintro e w2 ⟨rfl, hw⟩
    rw [hw]
    clear hw K1
    generalize (w.alloc (.cells #[.int .i64 0, .int .i64 0, .int .i64 0, .int .i64 0, .int .i64 0, .int .i64 0, .int .i64 0, .int .i64 0] 53)).alloc (.cells #[.int .i64 0, .int .i64 0, .int .i64 0, .int .i64 0, .int .i64 0, .int .i64 0, .int .i64 0, .int .i64 0] 53) = W0 at *
    obtain ⟨⟨a1, z1⟩, ⟨a2, z2⟩, ⟨a3, z3⟩, ⟨a4, z4⟩, ⟨a5, z5⟩, ⟨a6, z6⟩⟩ := (unhide F0).cells
    go_wp2_with fail
    refine (unhide (K2 _)).mono ?_
    rintro e w2 ⟨rfl, hw⟩
    rw [hw]
    clear hw K2
    have F1 : Hid (F8 w (W0.setCell ⟨w.heap.size + 1, 1, none⟩ (.int .i64 (r1 : Int))) r1 0 0 0 0 0) := hide ((unhide F0).set1 r1)
    clear a1 a2 a3 a4 a5 a6 z1 z2 z3 z4 z5 z6 F0
    generalize W0.setCell ⟨w.heap.size + 1, 1, none⟩ (.int .i64 (r1 : Int)) = W1 at *
    obtain ⟨⟨a1, z1⟩, ⟨a2, z2⟩, ⟨a3, z3⟩, ⟨a4, z4⟩, ⟨a5, z5⟩, ⟨a6, z6⟩⟩ := (unhide F1).cells
    go_wp2_with fail
    refine (unhide (K3 _)).mono ?_
    rintro e w2 ⟨rfl, hw⟩
    rw [hw]
    clear hw K3
    have F2 : Hid (F8 w (W1.setCell ⟨w.heap.size + 1, 3, none⟩ (.int .i64 (r3 : Int))) r1 0 r3 0 0 0) := hide ((unhide F1).set3 r3)
    clear a1 a2 a3 a4 a5 a6 z1 z2 z3 z4 z5 z6 F1
    generalize W1.setCell ⟨w.heap.size + 1, 3, none⟩ (.int .i64 (r3 : Int)) = W2 at *
    obtain ⟨⟨a1, z1⟩, ⟨a2, z2⟩, ⟨a3, z3⟩, ⟨a4, z4⟩, ⟨a5, z5⟩, ⟨a6, z6⟩⟩ := (unhide F2).cells
    go_wp2_with fail
    refine (unhide (K4 _)).mono ?_
    rintro e w2 ⟨rfl, hw⟩
    rw [hw]
    clear hw K4
    have F3 : Hid (F8 w (W2.setCell ⟨w.heap.size + 1, 4, none⟩ (.int .i64 (r4 : Int))) r1 0 r3 r4 0 0) := hide ((unhide F2).set4 r4)
    clear a1 a2 a3 a4 a5 a6 z1 z2 z3 z4 z5 z6 F2
    generalize W2.setCell ⟨w.heap.size + 1, 4, none⟩ (.int .i64 (r4 : Int)) = W3 at *
    obtain ⟨⟨a1, z1⟩, ⟨a2, z2⟩, ⟨a3, z3⟩, ⟨a4, z4⟩, ⟨a5, z5⟩, ⟨a6, z6⟩⟩ := (unhide F3).cells
    clear a1 a2 a3 a4 a5 a6 z1 z2 z3 z4 z5 z6
    go_upto_region 25 with fail
    refine last8 _ _ 3 2 103 r1 0 r3 r4 0 0 ?_ (by decide) ?_ ?_ (unhide F3) ?_ 25 _ _ _ _
    · exact Nat.lt_of_lt_of_eq (by decide : 103 < 104) rfl
    · rfl
    · rfl
    intro w9 b9 k9
    have y0 := k9.cell 0 _ rfl
    have y1 := k9.cell 1 _ rfl
    have y2 := k9.cell 2 _ rfl
    have y3 := k9.cell 3 _ rfl
    have y4 := k9.cell 4 _ rfl
    have y5 := k9.cell 5 _ rfl
    have y6 := k9.cell 6 _ rfl
    have y7 := k9.cell 7 _ rfl
    clear k9 F3
    go_wp2
    refine bodyPost_ret (v := .agg (c8 r1 0 r3 r4 0 0)) (by simp [results, Try.results21, go_sem, Act.put, c8, y0, y1, y2, y3, y4, y5, y6, y7]) rfl ?_
    exact ⟨rfl, b9⟩
set_option maxHeartbeats 4000000 in
set_option maxRecDepth 100000 in
theorem fronts_mark (w : World) (s : ByteArray) (hp : 0 < s.size) (hs : s.size ≤ 20000) (c10 : s[0]'hp ≠ 10) (c35 : s[0]'hp ≠ 35) (c34 : s[0]'hp ≠ 34) (no : NoOpen s) (hm : isM (s[0]'hp) = true) :
    Calls Try.prog 21 #[.string s] w fun e w' => e = .returned (.agg (c8 (runL isB s.data.toList) 0 0 (runL isW s.data.toList) 0 1)) ∧ Below w.heap.size w w' := by
  have K1 : ∀ u, Hid _ := fun u => hide (run1_any u s hs)
  have K3 : ∀ u, Hid _ := fun u => hide (run3_any u s hs)
  have K4 : ∀ u, Hid _ := fun u => hide (markT_any u (s[0]'hp))
  have F0 := hide (f8_start w)
  have i10 : (((s[0]'hp).toNat : Int) == 10) = false := b_ne 10 c10
  have i35 : (((s[0]'hp).toNat : Int) == 35) = false := b_ne 35 c35
  have i34 : (((s[0]'hp).toNat : Int) == 34) = false := b_ne 34 c34
  have hp1 : (0 : Int) < (s.size : Int) := by omega
  rw [hm] at K4
  clear c10 c35 c34 hm
  generalize runL isB s.data.toList = r1 at *
  generalize runL isW s.data.toList = r4 at *
  rcases no with h4 | ⟨h4, h5⟩
  · have d4 : decide ((s.size : Int) ≥ 4) = false := decide_eq_false (by omega)
    have d5 : decide (4 ≤ s.size) = false := decide_eq_false (by omega)
    go_enter Try.func21, Try.ntmps21
    go_wp2_with fail
    refine (unhide (K1 _)).mono ?_
    rintro e w2 ⟨rfl, hw⟩
    rw [hw]
    clear hw K1
    generalize (w.alloc (.cells #[.int .i64 0, .int .i64 0, .int .i64 0, .int .i64 0, .int .i64 0, .int .i64 0, .int .i64 0, .int .i64 0] 53)).alloc (.cells #[.int .i64 0, .int .i64 0, .int .i64 0, .int .i64 0, .int .i64 0, .int .i64 0, .int .i64 0, .int .i64 0] 53) = W0 at *
    obtain ⟨⟨a1, z1⟩, ⟨a2, z2⟩, ⟨a3, z3⟩, ⟨a4, z4⟩, ⟨a5, z5⟩, ⟨a6, z6⟩⟩ := (unhide F0).cells
    go_wp2_with fail
    refine (unhide (K3 _)).mono ?_
    rintro e w2 ⟨rfl, hw⟩
    rw [hw]
    clear hw K3
    have F1 : Hid (F8 w (W0.setCell ⟨w.heap.size + 1, 1, none⟩ (.int .i64 (r1 : Int))) r1 0 0 0 0 0) := hide ((unhide F0).set1 r1)
    clear a1 a2 a3 a4 a5 a6 z1 z2 z3 z4 z5 z6 F0
    generalize W0.setCell ⟨w.heap.size + 1, 1, none⟩ (.int .i64 (r1 : Int)) = W1 at *
    obtain ⟨⟨a1, z1⟩, ⟨a2, z2⟩, ⟨a3, z3⟩, ⟨a4, z4⟩, ⟨a5, z5⟩, ⟨a6, z6⟩⟩ := (unhide F1).cells
    go_wp2_with fail
    refine (unhide (K4 _)).mono ?_
    rintro e w2 ⟨rfl, hw⟩
    rw [hw]
    clear hw K4
    have F2 : Hid (F8 w (W1.setCell ⟨w.heap.size + 1, 4, none⟩ (.int .i64 (r4 : Int))) r1 0 0 r4 0 0) := hide ((unhide F1).set4 r4)
    clear a1 a2 a3 a4 a5 a6 z1 z2 z3 z4 z5 z6 F1
    generalize W1.setCell ⟨w.heap.size + 1, 4, none⟩ (.int .i64 (r4 : Int)) = W2 at *
    obtain ⟨⟨a1, z1⟩, ⟨a2, z2⟩, ⟨a3, z3⟩, ⟨a4, z4⟩, ⟨a5, z5⟩, ⟨a6, z6⟩⟩ := (unhide F2).cells
    go_upto_region 25 with fail
    have F3 : Hid (F8 w (W2.setCell ⟨w.heap.size + 1, 6, none⟩ (.int .i64 1)) r1 0 0 r4 0 1) := hide ((unhide F2).set6 1)
    clear a1 a2 a3 a4 a5 a6 z1 z2 z3 z4 z5 z6 F2
    generalize W2.setCell ⟨w.heap.size + 1, 6, none⟩ (.int .i64 1) = W3 at *
    obtain ⟨⟨a1, z1⟩, ⟨a2, z2⟩, ⟨a3, z3⟩, ⟨a4, z4⟩, ⟨a5, z5⟩, ⟨a6, z6⟩⟩ := (unhide F3).cells
    clear a1 a2 a3 a4 a5 a6 z1 z2 z3 z4 z5 z6
    go_upto_region 25 with fail
    refine last8 _ _ 3 2 103 r1 0 0 r4 0 1 ?_ (by decide) ?_ ?_ (unhide F3) ?_ 25 _ _ _ _
    · exact Nat.lt_of_lt_of_eq (by decide : 103 < 104) rfl
    · rfl
    · rfl
    intro w9 b9 k9
    have y0 := k9.cell 0 _ rfl
    have y1 := k9.cell 1 _ rfl
    have y2 := k9.cell 2 _ rfl
    have y3 := k9.cell 3 _ rfl
    have y4 := k9.cell 4 _ rfl
    have y5 := k9.cell 5 _ rfl
    have y6 := k9.cell 6 _ rfl
    have y7 := k9.cell 7 _ rfl
    clear k9 F3
    go_wp2
    refine bodyPost_ret (v := .agg (c8 r1 0 0 r4 0 1)) (by simp [results, Try.results21, go_sem, Act.put, c8, y0, y1, y2, y3, y4, y5, y6, y7]) rfl ?_
    exact ⟨rfl, b9⟩
  · have d4 : decide ((s.size : Int) ≥ 4) = true := decide_eq_true (by omega)
    have d5 : decide (4 ≤ s.size) = true := decide_eq_true (by omega)
    have h6 : (4 : Int) ≤ (s.size : Int) := by omega
    go_enter Try.func21, Try.ntmps21
    go_wp2_with fail
    refine (unhide (K1 _)).mono ?_
    rintro e w2 ⟨rfl, hw⟩
    rw [hw]
    clear hw K1
    generalize (w.alloc (.cells #[.int .i64 0, .int .i64 0, .int .i64 0, .int .i64 0, .int .i64 0, .int .i64 0, .int .i64 0, .int .i64 0] 53)).alloc (.cells #[.int .i64 0, .int .i64 0, .int .i64 0, .int .i64 0, .int .i64 0, .int .i64 0, .int .i64 0, .int .i64 0] 53) = W0 at *
    obtain ⟨⟨a1, z1⟩, ⟨a2, z2⟩, ⟨a3, z3⟩, ⟨a4, z4⟩, ⟨a5, z5⟩, ⟨a6, z6⟩⟩ := (unhide F0).cells
    go_wp2_with fail
    refine (unhide (K3 _)).mono ?_
    rintro e w2 ⟨rfl, hw⟩
    rw [hw]
    clear hw K3
    have F1 : Hid (F8 w (W0.setCell ⟨w.heap.size + 1, 1, none⟩ (.int .i64 (r1 : Int))) r1 0 0 0 0 0) := hide ((unhide F0).set1 r1)
    clear a1 a2 a3 a4 a5 a6 z1 z2 z3 z4 z5 z6 F0
    generalize W0.setCell ⟨w.heap.size + 1, 1, none⟩ (.int .i64 (r1 : Int)) = W1 at *
    obtain ⟨⟨a1, z1⟩, ⟨a2, z2⟩, ⟨a3, z3⟩, ⟨a4, z4⟩, ⟨a5, z5⟩, ⟨a6, z6⟩⟩ := (unhide F1).cells
    go_wp2_with fail
    refine (unhide (K4 _)).mono ?_
    rintro e w2 ⟨rfl, hw⟩
    rw [hw]
    clear hw K4
    have F2 : Hid (F8 w (W1.setCell ⟨w.heap.size + 1, 4, none⟩ (.int .i64 (r4 : Int))) r1 0 0 r4 0 0) := hide ((unhide F1).set4 r4)
    clear a1 a2 a3 a4 a5 a6 z1 z2 z3 z4 z5 z6 F1
    generalize W1.setCell ⟨w.heap.size + 1, 4, none⟩ (.int .i64 (r4 : Int)) = W2 at *
    obtain ⟨⟨a1, z1⟩, ⟨a2, z2⟩, ⟨a3, z3⟩, ⟨a4, z4⟩, ⟨a5, z5⟩, ⟨a6, z6⟩⟩ := (unhide F2).cells
    go_upto_region 25 with fail
    have F3 : Hid (F8 w (W2.setCell ⟨w.heap.size + 1, 6, none⟩ (.int .i64 1)) r1 0 0 r4 0 1) := hide ((unhide F2).set6 1)
    clear a1 a2 a3 a4 a5 a6 z1 z2 z3 z4 z5 z6 F2
    generalize W2.setCell ⟨w.heap.size + 1, 6, none⟩ (.int .i64 1) = W3 at *
    obtain ⟨⟨a1, z1⟩, ⟨a2, z2⟩, ⟨a3, z3⟩, ⟨a4, z4⟩, ⟨a5, z5⟩, ⟨a6, z6⟩⟩ := (unhide F3).cells
    clear a1 a2 a3 a4 a5 a6 z1 z2 z3 z4 z5 z6
    go_upto_region 25 with fail
    refine last8 _ _ 3 2 103 r1 0 0 r4 0 1 ?_ (by decide) ?_ ?_ (unhide F3) ?_ 25 _ _ _ _
    · exact Nat.lt_of_lt_of_eq (by decide : 103 < 104) rfl
    · rfl
    · rfl
    intro w9 b9 k9
    have y0 := k9.cell 0 _ rfl
    have y1 := k9.cell 1 _ rfl
    have y2 := k9.cell 2 _ rfl
    have y3 := k9.cell 3 _ rfl
    have y4 := k9.cell 4 _ rfl
    have y5 := k9.cell 5 _ rfl
    have y6 := k9.cell 6 _ rfl
    have y7 := k9.cell 7 _ rfl
    clear k9 F3
    go_wp2
    refine bodyPost_ret (v := .agg (c8 r1 0 0 r4 0 1)) (by simp [results, Try.results21, go_sem, Act.put, c8, y0, y1, y2, y3, y4, y5, y6, y7]) rfl ?_
    exact ⟨rfl, b9⟩
set_option maxHeartbeats 4000000 in
set_option maxRecDepth 100000 in
theorem fronts_else (w : World) (s : ByteArray) (hp : 0 < s.size) (hs : s.size ≤ 20000) (c10 : s[0]'hp ≠ 10) (c35 : s[0]'hp ≠ 35) (c34 : s[0]'hp ≠ 34) (no : NoOpen s) (hm : isM (s[0]'hp) = false) :
    Calls Try.prog 21 #[.string s] w fun e w' => e = .returned (.agg (c8 (runL isB s.data.toList) 0 0 (runL isW s.data.toList) 0 0)) ∧ Below w.heap.size w w' := by
  have K1 : ∀ u, Hid _ := fun u => hide (run1_any u s hs)
  have K3 : ∀ u, Hid _ := fun u => hide (run3_any u s hs)
  have K4 : ∀ u, Hid _ := fun u => hide (markT_any u (s[0]'hp))
  have F0 := hide (f8_start w)
  have i10 : (((s[0]'hp).toNat : Int) == 10) = false := b_ne 10 c10
  have i35 : (((s[0]'hp).toNat : Int) == 35) = false := b_ne 35 c35
  have i34 : (((s[0]'hp).toNat : Int) == 34) = false := b_ne 34 c34
  have hp1 : (0 : Int) < (s.size : Int) := by omega
  rw [hm] at K4
  clear c10 c35 c34 hm
  generalize runL isB s.data.toList = r1 at *
  generalize runL isW s.data.toList = r4 at *
  rcases no with h4 | ⟨h4, h5⟩
  · have d4 : decide ((s.size : Int) ≥ 4) = false := decide_eq_false (by omega)
    have d5 : decide (4 ≤ s.size) = false := decide_eq_false (by omega)
    go_enter Try.func21, Try.ntmps21
    go_wp2_with fail
    refine (unhide (K1 _)).mono ?_
    rintro e w2 ⟨rfl, hw⟩
    rw [hw]
    clear hw K1
    generalize (w.alloc (.cells #[.int .i64 0, .int .i64 0, .int .i64 0, .int .i64 0, .int .i64 0, .int .i64 0, .int .i64 0, .int .i64 0] 53)).alloc (.cells #[.int .i64 0, .int .i64 0, .int .i64 0, .int .i64 0, .int .i64 0, .int .i64 0, .int .i64 0, .int .i64 0] 53) = W0 at *
    obtain ⟨⟨a1, z1⟩, ⟨a2, z2⟩, ⟨a3, z3⟩, ⟨a4, z4⟩, ⟨a5, z5⟩, ⟨a6, z6⟩⟩ := (unhide F0).cells
    go_wp2_with fail
    refine (unhide (K3 _)).mono ?_
    rintro e w2 ⟨rfl, hw⟩
    rw [hw]
    clear hw K3
    have F1 : Hid (F8 w (W0.setCell ⟨w.heap.size + 1, 1, none⟩ (.int .i64 (r1 : Int))) r1 0 0 0 0 0) := hide ((unhide F0).set1 r1)
    clear a1 a2 a3 a4 a5 a6 z1 z2 z3 z4 z5 z6 F0
    generalize W0.setCell ⟨w.heap.size + 1, 1, none⟩ (.int .i64 (r1 : Int)) = W1 at *
    obtain ⟨⟨a1, z1⟩, ⟨a2, z2⟩, ⟨a3, z3⟩, ⟨a4, z4⟩, ⟨a5, z5⟩, ⟨a6, z6⟩⟩ := (unhide F1).cells
    go_wp2_with fail
    refine (unhide (K4 _)).mono ?_
    rintro e w2 ⟨rfl, hw⟩
    rw [hw]
    clear hw K4
    have F2 : Hid (F8 w (W1.setCell ⟨w.heap.size + 1, 4, none⟩ (.int .i64 (r4 : Int))) r1 0 0 r4 0 0) := hide ((unhide F1).set4 r4)
    clear a1 a2 a3 a4 a5 a6 z1 z2 z3 z4 z5 z6 F1
    generalize W1.setCell ⟨w.heap.size + 1, 4, none⟩ (.int .i64 (r4 : Int)) = W2 at *
    obtain ⟨⟨a1, z1⟩, ⟨a2, z2⟩, ⟨a3, z3⟩, ⟨a4, z4⟩, ⟨a5, z5⟩, ⟨a6, z6⟩⟩ := (unhide F2).cells
    clear a1 a2 a3 a4 a5 a6 z1 z2 z3 z4 z5 z6
    go_upto_region 25 with fail
    refine last8 _ _ 3 2 103 r1 0 0 r4 0 0 ?_ (by decide) ?_ ?_ (unhide F2) ?_ 25 _ _ _ _
    · exact Nat.lt_of_lt_of_eq (by decide : 103 < 104) rfl
    · rfl
    · rfl
    intro w9 b9 k9
    have y0 := k9.cell 0 _ rfl
    have y1 := k9.cell 1 _ rfl
    have y2 := k9.cell 2 _ rfl
    have y3 := k9.cell 3 _ rfl
    have y4 := k9.cell 4 _ rfl
    have y5 := k9.cell 5 _ rfl
    have y6 := k9.cell 6 _ rfl
    have y7 := k9.cell 7 _ rfl
    clear k9 F2
    go_wp2
    refine bodyPost_ret (v := .agg (c8 r1 0 0 r4 0 0)) (by simp [results, Try.results21, go_sem, Act.put, c8, y0, y1, y2, y3, y4, y5, y6, y7]) rfl ?_
    exact ⟨rfl, b9⟩
  · have d4 : decide ((s.size : Int) ≥ 4) = true := decide_eq_true (by omega)
    have d5 : decide (4 ≤ s.size) = true := decide_eq_true (by omega)
    have h6 : (4 : Int) ≤ (s.size : Int) := by omega
    go_enter Try.func21, Try.ntmps21
    go_wp2_with fail
    refine (unhide (K1 _)).mono ?_
    rintro e w2 ⟨rfl, hw⟩
    rw [hw]
    clear hw K1
    generalize (w.alloc (.cells #[.int .i64 0, .int .i64 0, .int .i64 0, .int .i64 0, .int .i64 0, .int .i64 0, .int .i64 0, .int .i64 0] 53)).alloc (.cells #[.int .i64 0, .int .i64 0, .int .i64 0, .int .i64 0, .int .i64 0, .int .i64 0, .int .i64 0, .int .i64 0] 53) = W0 at *
    obtain ⟨⟨a1, z1⟩, ⟨a2, z2⟩, ⟨a3, z3⟩, ⟨a4, z4⟩, ⟨a5, z5⟩, ⟨a6, z6⟩⟩ := (unhide F0).cells
    go_wp2_with fail
    refine (unhide (K3 _)).mono ?_
    rintro e w2 ⟨rfl, hw⟩
    rw [hw]
    clear hw K3
    have F1 : Hid (F8 w (W0.setCell ⟨w.heap.size + 1, 1, none⟩ (.int .i64 (r1 : Int))) r1 0 0 0 0 0) := hide ((unhide F0).set1 r1)
    clear a1 a2 a3 a4 a5 a6 z1 z2 z3 z4 z5 z6 F0
    generalize W0.setCell ⟨w.heap.size + 1, 1, none⟩ (.int .i64 (r1 : Int)) = W1 at *
    obtain ⟨⟨a1, z1⟩, ⟨a2, z2⟩, ⟨a3, z3⟩, ⟨a4, z4⟩, ⟨a5, z5⟩, ⟨a6, z6⟩⟩ := (unhide F1).cells
    go_wp2_with fail
    refine (unhide (K4 _)).mono ?_
    rintro e w2 ⟨rfl, hw⟩
    rw [hw]
    clear hw K4
    have F2 : Hid (F8 w (W1.setCell ⟨w.heap.size + 1, 4, none⟩ (.int .i64 (r4 : Int))) r1 0 0 r4 0 0) := hide ((unhide F1).set4 r4)
    clear a1 a2 a3 a4 a5 a6 z1 z2 z3 z4 z5 z6 F1
    generalize W1.setCell ⟨w.heap.size + 1, 4, none⟩ (.int .i64 (r4 : Int)) = W2 at *
    obtain ⟨⟨a1, z1⟩, ⟨a2, z2⟩, ⟨a3, z3⟩, ⟨a4, z4⟩, ⟨a5, z5⟩, ⟨a6, z6⟩⟩ := (unhide F2).cells
    clear a1 a2 a3 a4 a5 a6 z1 z2 z3 z4 z5 z6
    go_upto_region 25 with fail
    refine last8 _ _ 3 2 103 r1 0 0 r4 0 0 ?_ (by decide) ?_ ?_ (unhide F2) ?_ 25 _ _ _ _
    · exact Nat.lt_of_lt_of_eq (by decide : 103 < 104) rfl
    · rfl
    · rfl
    intro w9 b9 k9
    have y0 := k9.cell 0 _ rfl
    have y1 := k9.cell 1 _ rfl
    have y2 := k9.cell 2 _ rfl
    have y3 := k9.cell 3 _ rfl
    have y4 := k9.cell 4 _ rfl
    have y5 := k9.cell 5 _ rfl
    have y6 := k9.cell 6 _ rfl
    have y7 := k9.cell 7 _ rfl
    clear k9 F2
    go_wp2
    refine bodyPost_ret (v := .agg (c8 r1 0 0 r4 0 0)) (by simp [results, Try.results21, go_sem, Act.put, c8, y0, y1, y2, y3, y4, y5, y6, y7]) rfl ?_
    exact ⟨rfl, b9⟩
end Go.Proofs.Ytoikdjbgeebadaa.toks
