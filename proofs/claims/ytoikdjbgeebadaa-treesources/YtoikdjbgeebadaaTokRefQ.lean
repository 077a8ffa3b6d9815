/- The walk of the document's answer: how many bytes of each kind stand at the front, at a quote. -/
import Derived.Test.YtoikdjbgeebadaaTokRefG
set_option linter.unusedVariables false
namespace Go.Proofs.Ytoikdjbgeebadaa.toks
open Go.RowKit

/-- How far the way of a text has come. -/
def QW (s : ByteArray) (k : Nat) : Prop := (k ≤ s.size ∧ Way s.data.toList 0 k) ∨ (k = s.size + 1 ∧ shutN (s.data.toList.drop 1) = 0)
set_option maxHeartbeats 4000000 in
set_option maxRecDepth 100000 in
theorem fronts_text (w : World) (s : ByteArray) (hp : 0 < s.size) (hs : s.size ≤ 20000) (c34 : s[0]'hp = 34) (no : NoOpen s) (hm : isM (s[0]'hp) = false) :
    Calls Try.prog 21 #[.string s] w fun e w' => e = .returned (.agg (c8 (runL isB s.data.toList) 0 0 (runL isW s.data.toList) (if shutN (s.data.toList.drop 1) = 0 then 0 else shutN (s.data.toList.drop 1) + 1) 0)) ∧ Below w.heap.size w w' := by
  have K1 : ∀ u, Hid _ := fun u => hide (run1_any u s hs)
  have K3 : ∀ u, Hid _ := fun u => hide (run3_any u s hs)
  have K4 : ∀ u, Hid _ := fun u => hide (markT_any u (s[0]'hp))
  have F0 := hide (f8_start w)
  have i10 : (((s[0]'hp).toNat : Int) == 10) = false := b_ne 10 (by rw [c34]; decide)
  have i35 : (((s[0]'hp).toNat : Int) == 35) = false := b_ne 35 (by rw [c34]; decide)
  have i34 : (((s[0]'hp).toNat : Int) == 34) = true := b_eq 34 c34
  have hp1 : (0 : Int) < (s.size : Int) := by omega
  rw [hm] at K4
  clear c34 hm
  generalize runL isB s.data.toList = r1 at *
  generalize runL isW s.data.toList = r4 at *
  have W00 := hide (way_start (l := s.data.toList) (a := 0) (by rw [len_list]; exact hp))
  obtain ⟨X, hX⟩ : ∃ X, X = (if shutN (s.data.toList.drop 1) = 0 then 0 else shutN (s.data.toList.drop 1) + 1) := ⟨_, rfl⟩
  rw [← hX]
  have HX := hide hX
  clear hX
  rcases no with h4 | ⟨h4, h5⟩
  · have d4 : decide ((s.size : Int) ≥ 4) = false := decide_eq_false (by omega)
    have d5 : decide (4 ≤ s.size) = false := decide_eq_false (by omega)
    go_enter Try.func21, Try.ntmps21
    go_wp2_with fail
    refine (unhide (K1 _)).mono ?_
    rintro e w2 ⟨rfl, hw⟩
    rw [hw]
    clear hw K1
    generalize (w.alloc (.cells #[.int .i64 0, .int .i64 0, .int .i64 0, .int .i64 0, .int .i64 0, .int .i64 0, .int .i64 0, .int .i64 0] 53)).alloc (.cells #[.int .i64 0, .int .i64 0, .int .i64 0, .int .i64 0, .int .i64 0, .int .i64 0, .int .i64 0, .int .i64 0] 53) = W0 at *
    obtain ⟨⟨a1, z1⟩, ⟨a2, z2⟩, ⟨a3, z3⟩, ⟨a4, z4⟩, ⟨a5, z5⟩, ⟨a6, z6⟩⟩ := (unhide F0).cells
    go_wp2_with fail
    refine (unhide (K3 _)).mono ?_
    rintro e w2 ⟨rfl, hw⟩
    rw [hw]
    clear hw K3
    have F1 : Hid (F8 w (W0.setCell ⟨w.heap.size + 1, 1, none⟩ (.int .i64 (r1 : Int))) r1 0 0 0 0 0) := hide ((unhide F0).set1 r1)
    clear a1 a2 a3 a4 a5 a6 z1 z2 z3 z4 z5 z6 F0
    generalize W0.setCell ⟨w.heap.size + 1, 1, none⟩ (.int .i64 (r1 : Int)) = W1 at *
    obtain ⟨⟨a1, z1⟩, ⟨a2, z2⟩, ⟨a3, z3⟩, ⟨a4, z4⟩, ⟨a5, z5⟩, ⟨a6, z6⟩⟩ := (unhide F1).cells
    go_wp2_with fail
    have F2 : Hid (F8 w (W1.setCell ⟨w.heap.size + 1, 4, none⟩ (.int .i64 (r4 : Int))) r1 0 0 r4 0 0) := hide ((unhide F1).set4 r4)
    clear a1 a2 a3 a4 a5 a6 z1 z2 z3 z4 z5 z6 F1
    generalize W1.setCell ⟨w.heap.size + 1, 4, none⟩ (.int .i64 (r4 : Int)) = W2 at *
    obtain ⟨⟨a1, z1⟩, ⟨a2, z2⟩, ⟨a3, z3⟩, ⟨a4, z4⟩, ⟨a5, z5⟩, ⟨a6, z6⟩⟩ := (unhide F2).cells
    go_loopw [5] (fun i wr => ∃ k : Nat, k ≤ s.size + 1 ∧ i = .int .i64 k ∧ Hid (QW s k) ∧ wr = W2) (fun i _ => s.size + 1 - (intOf i).toNat)
    case atStart => exact ⟨1, by omega, rfl, hide (.inl ⟨hp, unhide W00⟩), rfl⟩
    case round =>
      obtain ⟨k, hk, rfl, hQ, hw⟩ := hrel
      subst hw
      by_cases hlt : k < s.size
      · have hW : Hid (Way s.data.toList 0 k) := hide (by rcases unhide hQ with h | h; exact h.2; omega)
        have hak := (unhide hW).lo
        have j0 : (k : Int) < (s.size : Int) := by omega
        by_cases h34 : s[k]'hlt = 34
        · have E := hide (wayS_hit (unhide hW) hlt h34)
          have j1 : (((s[k]'hlt).toNat : Int) == 34) = true := b_eq 34 h34
          have j2 : (((s[k]'hlt).toNat : Int) != 34) = false := b_eq' 34 h34
          clear h34 hW hQ W00
          go_wp2_with fail
          refine (unhide (K4 _)).mono ?_
          rintro e w2 ⟨rfl, hw⟩
          rw [hw]
          clear hw K4
          have EX : Hid (X = k + 1) := hide (by rw [unhide HX, unhide E, if_neg (by omega), Nat.sub_zero])
          clear HX E
          have F3 : Hid (F8 w (wr.setCell ⟨w.heap.size + 1, 5, none⟩ (.int .i64 ((k + 1) : Int))) r1 0 0 r4 (k + 1) 0) := hide ((unhide F2).set5 (k + 1))
          clear a1 a2 a3 a4 a5 a6 z1 z2 z3 z4 z5 z6 F2
          generalize wr.setCell ⟨w.heap.size + 1, 5, none⟩ (.int .i64 ((k + 1) : Int)) = W3 at *
          obtain ⟨⟨a1, z1⟩, ⟨a2, z2⟩, ⟨a3, z3⟩, ⟨a4, z4⟩, ⟨a5, z5⟩, ⟨a6, z6⟩⟩ := (unhide F3).cells
          clear a1 a2 a3 a4 a5 a6 z1 z2 z3 z4 z5 z6
          go_upto_region 25 with fail
          refine last8 _ _ 3 2 103 r1 0 0 r4 (k + 1) 0 ?_ (by decide) ?_ ?_ (unhide F3) ?_ 25 _ _ _ _
          · exact Nat.lt_of_lt_of_eq (by decide : 103 < 104) rfl
          · rfl
          · rfl
          intro w9 b9 k9
          have y0 := k9.cell 0 _ rfl
          have y1 := k9.cell 1 _ rfl
          have y2 := k9.cell 2 _ rfl
          have y3 := k9.cell 3 _ rfl
          have y4 := k9.cell 4 _ rfl
          have y5 := k9.cell 5 _ rfl
          have y6 := k9.cell 6 _ rfl
          have y7 := k9.cell 7 _ rfl
          clear k9 F3
          go_wp2
          refine bodyPost_ret (v := .agg (c8 r1 0 0 r4 (k + 1) 0)) (by simp [results, Try.results21, go_sem, Act.put, c8, y0, y1, y2, y3, y4, y5, y6, y7]) rfl ?_
          exact ⟨by rw [unhide EX], b9⟩
        · have j1 : (((s[k]'hlt).toNat : Int) == 34) = false := b_ne 34 h34
          have j2 : (((s[k]'hlt).toNat : Int) != 34) = true := b_ne' 34 h34
          by_cases h10 : s[k]'hlt = 10
          · have E := hide (wayS_end (unhide hW) (.inr ⟨hlt, h10⟩))
            have j3 : (((s[k]'hlt).toNat : Int) == 10) = true := b_eq 10 h10
            have j4 : (((s[k]'hlt).toNat : Int) != 10) = false := b_eq' 10 h10
            clear h34 h10 hW hQ W00
            go_wp2_with fail
            refine (unhide (K4 _)).mono ?_
            rintro e w2 ⟨rfl, hw⟩
            rw [hw]
            clear hw K4
            have EX : Hid (X = 0) := hide (by rw [unhide HX, if_pos (unhide E).1])
            clear HX E
            clear a1 a2 a3 a4 a5 a6 z1 z2 z3 z4 z5 z6
            go_upto_region 25 with fail
            refine last8 _ _ 3 2 103 r1 0 0 r4 0 0 ?_ (by decide) ?_ ?_ (unhide F2) ?_ 25 _ _ _ _
            · exact Nat.lt_of_lt_of_eq (by decide : 103 < 104) rfl
            · rfl
            · rfl
            intro w9 b9 k9
            have y0 := k9.cell 0 _ rfl
            have y1 := k9.cell 1 _ rfl
            have y2 := k9.cell 2 _ rfl
            have y3 := k9.cell 3 _ rfl
            have y4 := k9.cell 4 _ rfl
            have y5 := k9.cell 5 _ rfl
            have y6 := k9.cell 6 _ rfl
            have y7 := k9.cell 7 _ rfl
            clear k9 F2
            go_wp2
            refine bodyPost_ret (v := .agg (c8 r1 0 0 r4 0 0)) (by simp [results, Try.results21, go_sem, Act.put, c8, y0, y1, y2, y3, y4, y5, y6, y7]) rfl ?_
            exact ⟨by rw [unhide EX], b9⟩
          · have j3 : (((s[k]'hlt).toNat : Int) == 10) = false := b_ne 10 h10
            have j4 : (((s[k]'hlt).toNat : Int) != 10) = true := b_ne' 10 h10
            by_cases h92 : s[k]'hlt = 92
            · have j5 : (((s[k]'hlt).toNat : Int) == 92) = true := b_eq 92 h92
              by_cases hl2 : k + 1 < s.size
              · have j6 : (k : Int) + 1 < (s.size : Int) := by omega
                by_cases h11 : s[k + 1]'hl2 = 10
                · have E := hide (wayS_end (wayS_next (unhide hW) hlt h34 h10 (fun _ _ => h11)) (.inr ⟨hl2, h11⟩))
                  have j7 : (((s[k + 1]'hl2).toNat : Int) == 10) = true := b_eq 10 h11
                  have j8 : (((s[k + 1]'hl2).toNat : Int) == 34) = false := b_ne 34 (by rw [h11]; decide)
                  clear h34 h10 h92 h11 hW hQ W00
                  go_wp2_with fail
                  refine (unhide (K4 _)).mono ?_
                  rintro e w2 ⟨rfl, hw⟩
                  rw [hw]
                  clear hw K4
                  have EX : Hid (X = 0) := hide (by rw [unhide HX, if_pos (unhide E).1])
                  clear HX E
                  clear a1 a2 a3 a4 a5 a6 z1 z2 z3 z4 z5 z6
                  go_upto_region 25 with fail
                  refine last8 _ _ 3 2 103 r1 0 0 r4 0 0 ?_ (by decide) ?_ ?_ (unhide F2) ?_ 25 _ _ _ _
                  · exact Nat.lt_of_lt_of_eq (by decide : 103 < 104) rfl
                  · rfl
                  · rfl
                  intro w9 b9 k9
                  have y0 := k9.cell 0 _ rfl
                  have y1 := k9.cell 1 _ rfl
                  have y2 := k9.cell 2 _ rfl
                  have y3 := k9.cell 3 _ rfl
                  have y4 := k9.cell 4 _ rfl
                  have y5 := k9.cell 5 _ rfl
                  have y6 := k9.cell 6 _ rfl
                  have y7 := k9.cell 7 _ rfl
                  clear k9 F2
                  go_wp2
                  refine bodyPost_ret (v := .agg (c8 r1 0 0 r4 0 0)) (by simp [results, Try.results21, go_sem, Act.put, c8, y0, y1, y2, y3, y4, y5, y6, y7]) rfl ?_
                  exact ⟨by rw [unhide EX], b9⟩
                · have E : Hid (QW s (k + 2)) := hide (.inl ⟨by omega, wayS_two (unhide hW) hl2 hlt h92 h11⟩)
                  have j7 : (((s[k + 1]'hl2).toNat : Int) == 10) = false := b_ne 10 h11
                  clear h34 h10 h92 h11 hW hQ W00
                  go_wp2
                  go_roundw
                  case rel => exact ⟨k + 2, by omega, by go_num, E, by first | rfl | trivial⟩
                  case measure => simp [intOf]; omega
              · have E : Hid (QW s (k + 2)) := hide (.inr ⟨by omega, (wayS_end (wayS_next (unhide hW) hlt h34 h10 (fun _ h => absurd h hl2)) (.inl (by omega))).1⟩)
                have d6 : decide ((k : Int) + 1 < (s.size : Int)) = false := decide_eq_false (by omega)
                have d7 : decide (k + 1 < s.size) = false := decide_eq_false (by omega)
                clear h34 h10 h92 hW hQ W00
                go_wp2
                go_roundw
                case rel => exact ⟨k + 2, by omega, by go_num, E, by first | rfl | trivial⟩
                case measure => simp [intOf]; omega
            · have E : Hid (QW s (k + 1)) := hide (.inl ⟨hlt, wayS_next (unhide hW) hlt h34 h10 (fun h => absurd h h92)⟩)
              have j5 : (((s[k]'hlt).toNat : Int) == 92) = false := b_ne 92 h92
              clear h34 h10 h92 hW hQ W00
              go_wp2
              go_roundw
              case rel => exact ⟨k + 1, by omega, by go_num, E, by first | rfl | trivial⟩
              case measure => simp [intOf]; omega
      · have E : Hid (shutN (s.data.toList.drop 1) = 0 ∧ True) := hide (by rcases unhide hQ with h | h; exact ⟨(wayS_end h.2 (.inl (by omega))).1, trivial⟩; exact ⟨h.2, trivial⟩)
        have d6 : decide ((k : Int) < (s.size : Int)) = false := decide_eq_false (by omega)
        have d7 : decide (k < s.size) = false := decide_eq_false (by omega)
        clear hQ W00
        go_wp2_with fail
        refine (unhide (K4 _)).mono ?_
        rintro e w2 ⟨rfl, hw⟩
        rw [hw]
        clear hw K4
        have EX : Hid (X = 0) := hide (by rw [unhide HX, if_pos (unhide E).1])
        clear HX E
        clear a1 a2 a3 a4 a5 a6 z1 z2 z3 z4 z5 z6
        go_upto_region 25 with fail
        refine last8 _ _ 3 2 103 r1 0 0 r4 0 0 ?_ (by decide) ?_ ?_ (unhide F2) ?_ 25 _ _ _ _
        · exact Nat.lt_of_lt_of_eq (by decide : 103 < 104) rfl
        · rfl
        · rfl
        intro w9 b9 k9
        have y0 := k9.cell 0 _ rfl
        have y1 := k9.cell 1 _ rfl
        have y2 := k9.cell 2 _ rfl
        have y3 := k9.cell 3 _ rfl
        have y4 := k9.cell 4 _ rfl
        have y5 := k9.cell 5 _ rfl
        have y6 := k9.cell 6 _ rfl
        have y7 := k9.cell 7 _ rfl
        clear k9 F2
        go_wp2
        refine bodyPost_ret (v := .agg (c8 r1 0 0 r4 0 0)) (by simp [results, Try.results21, go_sem, Act.put, c8, y0, y1, y2, y3, y4, y5, y6, y7]) rfl ?_
        exact ⟨by rw [unhide EX], b9⟩
  · have d4 : decide ((s.size : Int) ≥ 4) = true := decide_eq_true (by omega)
    have d5 : decide (4 ≤ s.size) = true := decide_eq_true (by omega)
    have h6 : (4 : Int) ≤ (s.size : Int) := by omega
    go_enter Try.func21, Try.ntmps21
    go_wp2_with fail
    refine (unhide (K1 _)).mono ?_
    rintro e w2 ⟨rfl, hw⟩
    rw [hw]
    clear hw K1
    generalize (w.alloc (.cells #[.int .i64 0, .int .i64 0, .int .i64 0, .int .i64 0, .int .i64 0, .int .i64 0, .int .i64 0, .int .i64 0] 53)).alloc (.cells #[.int .i64 0, .int .i64 0, .int .i64 0, .int .i64 0, .int .i64 0, .int .i64 0, .int .i64 0, .int .i64 0] 53) = W0 at *
    obtain ⟨⟨a1, z1⟩, ⟨a2, z2⟩, ⟨a3, z3⟩, ⟨a4, z4⟩, ⟨a5, z5⟩, ⟨a6, z6⟩⟩ := (unhide F0).cells
    go_wp2_with fail
    refine (unhide (K3 _)).mono ?_
    rintro e w2 ⟨rfl, hw⟩
    rw [hw]
    clear hw K3
    have F1 : Hid (F8 w (W0.setCell ⟨w.heap.size + 1, 1, none⟩ (.int .i64 (r1 : Int))) r1 0 0 0 0 0) := hide ((unhide F0).set1 r1)
    clear a1 a2 a3 a4 a5 a6 z1 z2 z3 z4 z5 z6 F0
    generalize W0.setCell ⟨w.heap.size + 1, 1, none⟩ (.int .i64 (r1 : Int)) = W1 at *
    obtain ⟨⟨a1, z1⟩, ⟨a2, z2⟩, ⟨a3, z3⟩, ⟨a4, z4⟩, ⟨a5, z5⟩, ⟨a6, z6⟩⟩ := (unhide F1).cells
    go_wp2_with fail
    have F2 : Hid (F8 w (W1.setCell ⟨w.heap.size + 1, 4, none⟩ (.int .i64 (r4 : Int))) r1 0 0 r4 0 0) := hide ((unhide F1).set4 r4)
    clear a1 a2 a3 a4 a5 a6 z1 z2 z3 z4 z5 z6 F1
    generalize W1.setCell ⟨w.heap.size + 1, 4, none⟩ (.int .i64 (r4 : Int)) = W2 at *
    obtain ⟨⟨a1, z1⟩, ⟨a2, z2⟩, ⟨a3, z3⟩, ⟨a4, z4⟩, ⟨a5, z5⟩, ⟨a6, z6⟩⟩ := (unhide F2).cells
    go_loopw [5] (fun i wr => ∃ k : Nat, k ≤ s.size + 1 ∧ i = .int .i64 k ∧ Hid (QW s k) ∧ wr = W2) (fun i _ => s.size + 1 - (intOf i).toNat)
    case atStart => exact ⟨1, by omega, rfl, hide (.inl ⟨hp, unhide W00⟩), rfl⟩
    case round =>
      obtain ⟨k, hk, rfl, hQ, hw⟩ := hrel
      subst hw
      by_cases hlt : k < s.size
      · have hW : Hid (Way s.data.toList 0 k) := hide (by rcases unhide hQ with h | h; exact h.2; omega)
        have hak := (unhide hW).lo
        have j0 : (k : Int) < (s.size : Int) := by omega
        by_cases h34 : s[k]'hlt = 34
        · have E := hide (wayS_hit (unhide hW) hlt h34)
          have j1 : (((s[k]'hlt).toNat : Int) == 34) = true := b_eq 34 h34
          have j2 : (((s[k]'hlt).toNat : Int) != 34) = false := b_eq' 34 h34
          clear h34 hW hQ W00
          go_wp2_with fail
          refine (unhide (K4 _)).mono ?_
          rintro e w2 ⟨rfl, hw⟩
          rw [hw]
          clear hw K4
          have EX : Hid (X = k + 1) := hide (by rw [unhide HX, unhide E, if_neg (by omega), Nat.sub_zero])
          clear HX E
          have F3 : Hid (F8 w (wr.setCell ⟨w.heap.size + 1, 5, none⟩ (.int .i64 ((k + 1) : Int))) r1 0 0 r4 (k + 1) 0) := hide ((unhide F2).set5 (k + 1))
          clear a1 a2 a3 a4 a5 a6 z1 z2 z3 z4 z5 z6 F2
          generalize wr.setCell ⟨w.heap.size + 1, 5, none⟩ (.int .i64 ((k + 1) : Int)) = W3 at *
          obtain ⟨⟨a1, z1⟩, ⟨a2, z2⟩, ⟨a3, z3⟩, ⟨a4, z4⟩, ⟨a5, z5⟩, ⟨a6, z6⟩⟩ := (unhide F3).cells
          clear a1 a2 a3 a4 a5 a6 z1 z2 z3 z4 z5 z6
          go_upto_region 25 with fail
          refine last8 _ _ 3 2 103 r1 0 0 r4 (k + 1) 0 ?_ (by decide) ?_ ?_ (unhide F3) ?_ 25 _ _ _ _
          · exact Nat.lt_of_lt_of_eq (by decide : 103 < 104) rfl
          · rfl
          · rfl
          intro w9 b9 k9
          have y0 := k9.cell 0 _ rfl
          have y1 := k9.cell 1 _ rfl
          have y2 := k9.cell 2 _ rfl
          have y3 := k9.cell 3 _ rfl
          have y4 := k9.cell 4 _ rfl
          have y5 := k9.cell 5 _ rfl
          have y6 := k9.cell 6 _ rfl
          have y7 := k9.cell 7 _ rfl
          clear k9 F3
          go_wp2
          refine bodyPost_ret (v := .agg (c8 r1 0 0 r4 (k + 1) 0)) (by simp [results, Try.results21, go_sem, Act.put, c8, y0, y1, y2, y3, y4, y5, y6, y7]) rfl ?_
          exact ⟨by rw [unhide EX], b9⟩
        · have j1 : (((s[k]'hlt).toNat : Int) == 34) = false := b_ne 34 h34
          have j2 : (((s[k]'hlt).toNat : Int) != 34) = true := b_ne' 34 h34
          by_cases h10 : s[k]'hlt = 10
          · have E := hide (wayS_end (unhide hW) (.inr ⟨hlt, h10⟩))
            have j3 : (((s[k]'hlt).toNat : Int) == 10) = true := b_eq 10 h10
            have j4 : (((s[k]'hlt).toNat : Int) != 10) = false := b_eq' 10 h10
            clear h34 h10 hW hQ W00
            go_wp2_with fail
            refine (unhide (K4 _)).mono ?_
            rintro e w2 ⟨rfl, hw⟩
            rw [hw]
            clear hw K4
            have EX : Hid (X = 0) := hide (by rw [unhide HX, if_pos (unhide E).1])
            clear HX E
            clear a1 a2 a3 a4 a5 a6 z1 z2 z3 z4 z5 z6
            go_upto_region 25 with fail
            refine last8 _ _ 3 2 103 r1 0 0 r4 0 0 ?_ (by decide) ?_ ?_ (unhide F2) ?_ 25 _ _ _ _
            · exact Nat.lt_of_lt_of_eq (by decide : 103 < 104) rfl
            · rfl
            · rfl
            intro w9 b9 k9
            have y0 := k9.cell 0 _ rfl
            have y1 := k9.cell 1 _ rfl
            have y2 := k9.cell 2 _ rfl
            have y3 := k9.cell 3 _ rfl
            have y4 := k9.cell 4 _ rfl
            have y5 := k9.cell 5 _ rfl
            have y6 := k9.cell 6 _ rfl
            have y7 := k9.cell 7 _ rfl
            clear k9 F2
            go_wp2
            refine bodyPost_ret (v := .agg (c8 r1 0 0 r4 0 0)) (by simp [results, Try.results21, go_sem, Act.put, c8, y0, y1, y2, y3, y4, y5, y6, y7]) rfl ?_
            exact ⟨by rw [unhide EX], b9⟩
          · have j3 : (((s[k]'hlt).toNat : Int) == 10) = false := b_ne 10 h10
            have j4 : (((s[k]'hlt).toNat : Int) != 10) = true := b_ne' 10 h10
            by_cases h92 : s[k]'hlt = 92
            · have j5 : (((s[k]'hlt).toNat : Int) == 92) = true := b_eq 92 h92
              by_cases hl2 : k + 1 < s.size
              · have j6 : (k : Int) + 1 < (s.size : Int) := by omega
                by_cases h11 : s[k + 1]'hl2 = 10
                · have E := hide (wayS_end (wayS_next (unhide hW) hlt h34 h10 (fun _ _ => h11)) (.inr ⟨hl2, h11⟩))
                  have j7 : (((s[k + 1]'hl2).toNat : Int) == 10) = true := b_eq 10 h11
                  have j8 : (((s[k + 1]'hl2).toNat : Int) == 34) = false := b_ne 34 (by rw [h11]; decide)
                  clear h34 h10 h92 h11 hW hQ W00
                  go_wp2_with fail
                  refine (unhide (K4 _)).mono ?_
                  rintro e w2 ⟨rfl, hw⟩
                  rw [hw]
                  clear hw K4
                  have EX : Hid (X = 0) := hide (by rw [unhide HX, if_pos (unhide E).1])
                  clear HX E
                  clear a1 a2 a3 a4 a5 a6 z1 z2 z3 z4 z5 z6
                  go_upto_region 25 with fail
                  refine last8 _ _ 3 2 103 r1 0 0 r4 0 0 ?_ (by decide) ?_ ?_ (unhide F2) ?_ 25 _ _ _ _
                  · exact Nat.lt_of_lt_of_eq (by decide : 103 < 104) rfl
                  · rfl
                  · rfl
                  intro w9 b9 k9
                  have y0 := k9.cell 0 _ rfl
                  have y1 := k9.cell 1 _ rfl
                  have y2 := k9.cell 2 _ rfl
                  have y3 := k9.cell 3 _ rfl
                  have y4 := k9.cell 4 _ rfl
                  have y5 := k9.cell 5 _ rfl
                  have y6 := k9.cell 6 _ rfl
                  have y7 := k9.cell 7 _ rfl
                  clear k9 F2
                  go_wp2
                  refine bodyPost_ret (v := .agg (c8 r1 0 0 r4 0 0)) (by simp [results, Try.results21, go_sem, Act.put, c8, y0, y1, y2, y3, y4, y5, y6, y7]) rfl ?_
                  exact ⟨by rw [unhide EX], b9⟩
                · have E : Hid (QW s (k + 2)) := hide (.inl ⟨by omega, wayS_two (unhide hW) hl2 hlt h92 h11⟩)
                  have j7 : (((s[k + 1]'hl2).toNat : Int) == 10) = false := b_ne 10 h11
                  clear h34 h10 h92 h11 hW hQ W00
                  go_wp2
                  go_roundw
                  case rel => exact ⟨k + 2, by omega, by go_num, E, by first | rfl | trivial⟩
                  case measure => simp [intOf]; omega
              · have E : Hid (QW s (k + 2)) := hide (.inr ⟨by omega, (wayS_end (wayS_next (unhide hW) hlt h34 h10 (fun _ h => absurd h hl2)) (.inl (by omega))).1⟩)
                have d6 : decide ((k : Int) + 1 < (s.size : Int)) = false := decide_eq_false (by omega)
                have d7 : decide (k + 1 < s.size) = false := decide_eq_false (by omega)
                clear h34 h10 h92 hW hQ W00
                go_wp2
                go_roundw
                case rel => exact ⟨k + 2, by omega, by go_num, E, by first | rfl | trivial⟩
                case measure => simp [intOf]; omega
            · have E : Hid (QW s (k + 1)) := hide (.inl ⟨hlt, wayS_next (unhide hW) hlt h34 h10 (fun h => absurd h h92)⟩)
              have j5 : (((s[k]'hlt).toNat : Int) == 92) = false := b_ne 92 h92
              clear h34 h10 h92 hW hQ W00
              go_wp2
              go_roundw
              case rel => exact ⟨k + 1, by omega, by go_num, E, by first | rfl | trivial⟩
              case measure => simp [intOf]; omega
      · have E : Hid (shutN (s.data.toList.drop 1) = 0 ∧ True) := hide (by rcases unhide hQ with h | h; exact ⟨(wayS_end h.2 (.inl (by omega))).1, trivial⟩; exact ⟨h.2, trivial⟩)
        have d6 : decide ((k : Int) < (s.size : Int)) = false := decide_eq_false (by omega)
        have d7 : decide (k < s.size) = false := decide_eq_false (by omega)
        clear hQ W00
        go_wp2_with fail
        refine (unhide (K4 _)).mono ?_
        rintro e w2 ⟨rfl, hw⟩
        rw [hw]
        clear hw K4
        have EX : Hid (X = 0) := hide (by rw [unhide HX, if_pos (unhide E).1])
        clear HX E
        clear a1 a2 a3 a4 a5 a6 z1 z2 z3 z4 z5 z6
        go_upto_region 25 with fail
        refine last8 _ _ 3 2 103 r1 0 0 r4 0 0 ?_ (by decide) ?_ ?_ (unhide F2) ?_ 25 _ _ _ _
        · exact Nat.lt_of_lt_of_eq (by decide : 103 < 104) rfl
        · rfl
        · rfl
        intro w9 b9 k9
        have y0 := k9.cell 0 _ rfl
        have y1 := k9.cell 1 _ rfl
        have y2 := k9.cell 2 _ rfl
        have y3 := k9.cell 3 _ rfl
        have y4 := k9.cell 4 _ rfl
        have y5 := k9.cell 5 _ rfl
        have y6 := k9.cell 6 _ rfl
        have y7 := k9.cell 7 _ rfl
        clear k9 F2
        go_wp2
        refine bodyPost_ret (v := .agg (c8 r1 0 0 r4 0 0)) (by simp [results, Try.results21, go_sem, Act.put, c8, y0, y1, y2, y3, y4, y5, y6, y7]) rfl ?_
        exact ⟨by rw [unhide EX], b9⟩
end Go.Proofs.Ytoikdjbgeebadaa.toks
