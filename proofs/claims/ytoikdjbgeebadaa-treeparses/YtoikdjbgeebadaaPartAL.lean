/- The walk of the document's answer: tokens. -/
import Derived.Test.YtoikdjbgeebadaaPartAK
import Derived.Test.YtoikdjbgeebadaaPartAE
set_option linter.unusedVariables false
namespace Go.Proofs.Ytoikdjbgeebadaa.toks
open Go.RowKit

theorem isB_or {c : UInt8} (h : isB c = true) : c = 32 ∨ c = 9 ∨ c = 13 := by
  unfold isB at h
  simp only [Bool.or_eq_true, beq_iff_eq] at h
  rcases h with (h | h) | h
  · exact .inl h
  · exact .inr (.inl h)
  · exact .inr (.inr h)
theorem isM_or {c : UInt8} (h : isM c = true) : c = 123 ∨ c = 125 ∨ c = 91 ∨ c = 93 ∨ c = 58 ∨ c = 61 ∨ c = 44 := by
  unfold isM at h
  simp only [Bool.or_eq_true, beq_iff_eq] at h
  rcases h with (((((h | h) | h) | h) | h) | h) | h <;> simp [h]
theorem blank_only {c : UInt8} (h : isB c = true) : isW c = false ∧ isM c = false ∧ c ≠ 10 ∧ c ≠ 35 ∧ c ≠ 34 ∧ c ≠ 47 := by
  rcases isB_or h with rfl | rfl | rfl <;> decide
theorem mark_only {c : UInt8} (h : isM c = true) : isB c = false ∧ isW c = false ∧ c ≠ 10 ∧ c ≠ 35 ∧ c ≠ 34 ∧ c ≠ 47 := by
  rcases isM_or h with rfl | rfl | rfl | rfl | rfl | rfl | rfl <;> decide
theorem word_only {c : UInt8} (h : isW c = true) : isB c = false ∧ isM c = false ∧ c ≠ 10 ∧ c ≠ 35 ∧ c ≠ 34 ∧ c ≠ 47 := by
  refine ⟨?_, ?_, ?_, ?_, ?_, ?_⟩
  · cases hb : isB c with
    | false => rfl
    | true => rw [(blank_only hb).1] at h; cases h
  · cases hb : isM c with
    | false => rfl
    | true => rw [(mark_only hb).2.1] at h; cases h
  all_goals intro e; rw [e] at h; revert h; decide
theorem open_at (s : ByteArray) (h : 1 < s.size) : ((s.extract 0 2).toList == [47, 42]) = decide (s[0]'(by omega) = 47 ∧ s[1]'h = 42) := by
  rw [ByteArray.toList_eq, ext_list, List.drop_zero]
  have e : s.data.toList.take 2 = [s[0]'(by omega), s[1]'h] := by
    have h0 : s.data.toList = (s.data.toList.drop 0) := rfl
    rw [h0, drop_cons (by rw [len_list]; omega : 0 < s.data.toList.length), drop_cons (by rw [len_list]; exact h : 0 + 1 < s.data.toList.length)]
    rfl
  rw [e, Bool.eq_iff_iff, beq_iff_eq, decide_eq_true_iff]
  constructor
  · intro e
    injection e with a b
    injection b with b _
    exact ⟨a, b⟩
  · rintro ⟨a, b⟩
    rw [a, b]
theorem noOpen_of {s : ByteArray} (hp : 0 < s.size) (h : s[0]'hp ≠ 47) : NoOpen s := by
  by_cases h4 : s.size < 4
  · exact .inl h4
  · exact .inr ⟨by omega, by rw [open_at s (by omega)]; exact decide_eq_false (fun q => h q.1)⟩
/-- The last of the numbers that is greater than 0. -/
def pickN (a1 a2 a3 a4 a5 a6 : Nat) : Nat × Nat :=
  if 0 < a6 then (6, a6) else if 0 < a5 then (5, a5) else if 0 < a4 then (4, a4) else if 0 < a3 then (3, a3) else if 0 < a2 then (2, a2) else if 0 < a1 then (1, a1) else (7, 1)
/-- What fronts answers. -/
def Fronts (w : World) (s : ByteArray) (e : Ending) (w' : World) : Prop :=
  ∃ a1 a2 a3 a4 a5 a6 : Nat, e = .returned (.agg (c8 a1 a2 a3 a4 a5 a6)) ∧ pickN a1 a2 a3 a4 a5 a6 = tokK s.data.toList ∧ Below w.heap.size w w'
theorem list_head (s : ByteArray) (hp : 0 < s.size) : s.data.toList = s[0]'hp :: s.data.toList.drop 1 := by
  have h := drop_cons (l := s.data.toList) (k := 0) (by rw [len_list]; exact hp)
  rw [List.drop_zero] at h
  exact h
theorem fronts_any (w : World) (s : ByteArray) (hp : 0 < s.size) (hs : s.size ≤ 20000) : Calls Try.prog 21 #[.string s] w (Fronts w s) := by
  have hl := list_head s hp
  have hlen : 0 < s.data.toList.length := by rw [len_list]; exact hp
  have e0 : s.data.toList[0]'hlen = s[0]'hp := rfl
  have rB : isB (s[0]'hp) = false → runL isB s.data.toList = 0 := fun h => by rw [hl]; exact runL_no h
  have rW : isW (s[0]'hp) = false → runL isW s.data.toList = 0 := fun h => by rw [hl]; exact runL_no h
  have d0 : s.data.toList.drop 0 = s.data.toList := rfl
  by_cases hB : isB (s[0]'hp) = true
  · obtain ⟨h1, h2, h3, h4, h5, h6⟩ := blank_only hB
    refine (fronts_else w s hp hs h3 h4 h5 (noOpen_of hp h6) h2).mono ?_
    rintro e w' ⟨rfl, b⟩
    refine ⟨_, _, _, _, _, _, rfl, ?_, b⟩
    have t := tok_blank hlen hB
    rw [d0] at t
    rw [t, rW h1]
    have : 0 < runL isB s.data.toList := by rw [hl, runL_one hB]; omega
    simp [pickN, this]
  have hB : isB (s[0]'hp) = false := by simpa using hB
  by_cases h10 : s[0]'hp = 10
  · refine (fronts_line w s hp hs h10 (noOpen_of hp (by rw [h10]; decide)) (by rw [h10]; decide)).mono ?_
    rintro e w' ⟨rfl, b⟩
    refine ⟨_, _, _, _, _, _, rfl, ?_, b⟩
    have t := tok_line hlen hB h10
    rw [d0] at t
    rw [t, rB hB, rW (by rw [h10]; decide)]
    rfl
  by_cases h35 : s[0]'hp = 35
  · refine (fronts_note w s hp hs h35 (noOpen_of hp (by rw [h35]; decide)) (by rw [h35]; decide)).mono ?_
    rintro e w' ⟨rfl, b⟩
    refine ⟨_, _, _, _, _, _, rfl, ?_, b⟩
    have t := tok_note hlen hB h10 h35
    rw [d0] at t
    rw [t, rB hB, rW (by rw [h35]; decide)]
    have : 0 < runL noL s.data.toList := by rw [hl, runL_one (by rw [h35]; decide)]; omega
    simp [pickN, this]
  by_cases hW : isW (s[0]'hp) = true
  · obtain ⟨h1, h2, h3, h4, h5, h6⟩ := word_only hW
    refine (fronts_else w s hp hs h3 h4 h5 (noOpen_of hp h6) h2).mono ?_
    rintro e w' ⟨rfl, b⟩
    refine ⟨_, _, _, _, _, _, rfl, ?_, b⟩
    have t := tok_word hlen hB h10 h35 hW
    rw [d0] at t
    rw [t, rB h1]
    have : 0 < runL isW s.data.toList := by rw [hl, runL_one hW]; omega
    simp [pickN, this]
  have hW : isW (s[0]'hp) = false := by simpa using hW
  by_cases hM : isM (s[0]'hp) = true
  · obtain ⟨h1, h2, h3, h4, h5, h6⟩ := mark_only hM
    refine (fronts_mark w s hp hs h3 h4 h5 (noOpen_of hp h6) hM).mono ?_
    rintro e w' ⟨rfl, b⟩
    refine ⟨_, _, _, _, _, _, rfl, ?_, b⟩
    have t := tok_mark hlen hB h10 h35 hW hM
    rw [d0] at t
    rw [t]
    simp [pickN]
  have hM : isM (s[0]'hp) = false := by simpa using hM
  have T := tok_else hlen hB h10 h35 hW hM
  rw [d0] at T
  have g0 : s.data.toList.getD 0 0 = s[0]'hp := getD_byte s 0 hp
  by_cases h34 : s[0]'hp = 34
  · refine (fronts_text w s hp hs h34 (noOpen_of hp (by rw [h34]; decide)) hM).mono ?_
    rintro e w' ⟨rfl, b⟩
    refine ⟨_, _, _, _, _, _, rfl, ?_, b⟩
    rw [rB hB, rW hW]
    by_cases h0 : shutN (s.data.toList.drop 1) = 0
    · rw [if_pos h0, T.2.2 (fun h => by have := h.1; rw [g0, h34] at this; exact absurd this (by decide)) (fun h => h.2 h0)]
      rfl
    · rw [if_neg h0, T.2.1 ⟨by rw [g0]; exact h34, h0⟩]
      simp [pickN]
  by_cases hN : NoOpen s
  · refine (fronts_else w s hp hs h10 h35 h34 hN hM).mono ?_
    rintro e w' ⟨rfl, b⟩
    refine ⟨_, _, _, _, _, _, rfl, ?_, b⟩
    rw [rB hB, rW hW, T.2.2 (fun h => ?_) (fun h => h34 (by rw [← g0]; exact h.1))]
    · rfl
    · obtain ⟨h1, h2, h3⟩ := h
      have hr := prefix_room h2
      have hc := closeN_le (s.data.toList.drop (0 + 2))
      have hc2 := closeN_ge h3
      rw [List.length_drop, len_list] at hc
      rcases hN with hN | ⟨hN, hN2⟩
      · omega
      · rw [open_at s (by omega)] at hN2
        refine of_decide_eq_false hN2 ⟨by rw [← g0]; exact h1, ?_⟩
        rw [drop_cons (by rw [len_list]; omega : 0 + 1 < s.data.toList.length), List.head?_cons] at h2
        injection h2
  · have h4 : 4 ≤ s.size := by
      rcases Nat.lt_or_ge s.size 4 with h | h
      · exact absurd (.inl h) hN
      · exact h
    have h5 : ((s.extract 0 2).toList == [47, 42]) = true := by
      cases hh : ((s.extract 0 2).toList == [47, 42]) with
      | true => rfl
      | false => exact absurd (.inr ⟨h4, hh⟩) hN
    have h6 := h5
    rw [open_at s (by omega)] at h6
    have h6 := of_decide_eq_true h6
    refine (fronts_open w s hp hs h6.1 h4 h5 hM).mono ?_
    rintro e w' ⟨rfl, b⟩
    refine ⟨_, _, _, _, _, _, rfl, ?_, b⟩
    rw [rB hB, rW hW]
    have hh : (s.data.toList.drop (0 + 1)).head? = some 42 := by
      rw [drop_cons (by rw [len_list]; omega : 0 + 1 < s.data.toList.length), List.head?_cons]
      exact congrArg some h6.2
    by_cases h0 : closeN (s.data.toList.drop 2) = 0
    · rw [if_pos h0, T.2.2 (fun h => h.2.2 h0) (fun h => h34 (by rw [← g0]; exact h.1))]
      rfl
    · rw [if_neg h0, T.1 ⟨by rw [g0]; exact h6.1, hh, h0⟩]
      simp [pickN]
theorem own_below3 {w w' : World} {B e size n : Nat} {v : Value} {xs : List Value} (h : w.ownsRow B e size v n xs) (hb : Below w.heap.size w w') : w'.ownsRow B e size v n xs :=
  h.kept (row := none) ⟨hb.os, hb.tape, hb.output, hb.size, fun k hk _ => hb.block k hk⟩ (by cases hv : v.ownBlock <;> simp)
/-- The numbers one by one, and the last that is greater than 0 so far. -/
def nth8 (a1 a2 a3 a4 a5 a6 : Nat) : Nat → Nat
  | 1 => a1
  | 2 => a2
  | 3 => a3
  | 4 => a4
  | 5 => a5
  | 6 => a6
  | _ => 0
def pk (f : Nat → Nat) : Nat → Nat × Nat
  | 0 => (7, 1)
  | j + 1 => if 0 < f j then (j, f j) else pk f j
theorem pk_all (a1 a2 a3 a4 a5 a6 : Nat) : pk (nth8 a1 a2 a3 a4 a5 a6) 8 = pickN a1 a2 a3 a4 a5 a6 := by
  simp only [pk, nth8, pickN, Nat.lt_irrefl, if_false]
theorem index8 (a1 a2 a3 a4 a5 a6 : Nat) (j : Nat) (h : j < 8) (W : World) : (Instr.index 53 (.agg (c8 a1 a2 a3 a4 a5 a6)) (.int .i64 (j : Int))).run Try.prog W = .ok (.int .i64 (nth8 a1 a2 a3 a4 a5 a6 j : Int)) W := by
  unfold c8
  match j, h with
  | 0, _ => simp [Instr.index, run_underlying Try.underlying53, asIntOf, go_sem, nth8]
  | 1, _ => simp [Instr.index, run_underlying Try.underlying53, asIntOf, go_sem, nth8]
  | 2, _ => simp [Instr.index, run_underlying Try.underlying53, asIntOf, go_sem, nth8]
  | 3, _ => simp [Instr.index, run_underlying Try.underlying53, asIntOf, go_sem, nth8]
  | 4, _ => simp [Instr.index, run_underlying Try.underlying53, asIntOf, go_sem, nth8]
  | 5, _ => simp [Instr.index, run_underlying Try.underlying53, asIntOf, go_sem, nth8]
  | 6, _ => simp [Instr.index, run_underlying Try.underlying53, asIntOf, go_sem, nth8]
  | 7, _ => simp [Instr.index, run_underlying Try.underlying53, asIntOf, go_sem, nth8]
theorem pk_yes {f : Nat → Nat} {j : Nat} (h : 0 < f j) : pk f (j + 1) = (j, f j) := by rw [pk, if_pos h]
theorem pk_no {f : Nat → Nat} {j : Nat} (h : ¬ 0 < f j) : pk f (j + 1) = pk f j := by rw [pk, if_neg h]
set_option maxHeartbeats 400000 in
theorem tokens_large (s : ByteArray) (w : World) (hs : 20000 < s.size) :
    Calls Try.prog 11 #[.string s] w fun e w' => e = .returned (.tuple #[.slice none 0 0, .int .i64 2]) ∧ w' = w := by
  have i1 : (s.size : Int) > 20000 := by omega
  go_enter Try.func11, Try.ntmps11
  go_wp2
  go_ret2
  exact ⟨rfl, rfl⟩
set_option maxHeartbeats 4000000 in
set_option maxRecDepth 100000 in
theorem tokens_any (s : ByteArray) (w : World) (hs : s.size ≤ 20000) :
    Calls Try.prog 11 #[.string s] w fun e w' => ∃ v, e = .returned (.tuple #[v, .int .i64 0]) ∧ Toks w' v (toksL s.data.toList) ∧ Below w.heap.size w w' := by
  obtain ⟨i0, hi, hz0, hz1, hz2⟩ := info_parts infoTok
  have i1 : ¬ (s.size : Int) > 20000 := by omega
  have d1 : decide ((s.size : Int) > 20000) = false := decide_eq_false i1
  have d0 : decide (20000 < s.size) = false := decide_eq_false (by omega)
  go_enter Try.func11, Try.ntmps11
  go_wp2_with fail
  go_loopw [4, 5] (fun v i wr => ∃ (p : Nat) (D : List Tk), p ≤ s.size ∧ i = .int .i64 p ∧ Hid (Done s.data.toList p D) ∧ wr.ownsRow w.heap.size 34 3 v D.length (D.flatMap tkC) ∧ Below w.heap.size w wr) (fun _ i _ => s.size - (intOf i).toNat)
  case atStart => exact ⟨0, [], Nat.zero_le _, rfl, hide (done_zero _), World.ownsRow_nil _ _ _ _, Below.refl _ _⟩
  case round =>
    obtain ⟨p, D, hp, rfl, HD, hown, hbw⟩ := hrel
    by_cases hlt : p < s.size
    · have hpl : p < s.data.toList.length := by rw [len_list]; exact hlt
      have KF : ∀ u, Hid _ := fun u => hide (fronts_any u (s.extract p s.size) (by rw [ByteArray.size_extract]; omega) (by rw [ByteArray.size_extract]; omega))
      have j1 : (p : Int) ≤ (s.size : Int) := by omega
      have j2 : (p : Int) < (s.size : Int) := by omega
      go_wp2_with fail
      refine (unhide (KF _)).mono ?_
      rintro e w1 ⟨a1, a2, a3, a4, a5, a6, rfl, hpk, b1⟩
      rw [ext_drop, ← pk_all] at hpk
      have hown1 : w1.ownsRow w.heap.size 34 3 _ D.length (D.flatMap tkC) := own_below3 hown b1
      have hbw1 := hbw.trans (b1.mono hbw.size)
      have IX := hide (index8 a1 a2 a3 a4 a5 a6)
      have HP := hide hpk
      clear KF hpk hown hbw b1
      generalize hf : nth8 a1 a2 a3 a4 a5 a6 = f at *
      generalize c8 a1 a2 a3 a4 a5 a6 = cs at *
      clear hf
      go_wp2_with fail
      go_loopw [6, 7, 21] (fun x y i wr => ∃ j : Nat, j ≤ 8 ∧ i = .int .i64 j ∧ x = .int .i64 ((pk f j).1 : Int) ∧ y = .int .i64 ((pk f j).2 : Int) ∧ wr = w1) (fun _ _ i _ => 8 - (intOf i).toNat)
      case atStart => exact ⟨0, Nat.zero_le _, rfl, rfl, rfl, rfl⟩
      case round =>
        obtain ⟨j, hj, rfl, rfl, rfl, hw⟩ := hrel
        subst hw
        by_cases hj8 : j < 8
        · have ix := unhide IX j hj8
          have j3 : (j : Int) < 8 := by omega
          by_cases h0 : 0 < f j
          · have E := hide (pk_yes h0)
            have j4 : (f j : Int) > 0 := by omega
            generalize f j = m at *
            generalize (pk f j).1 = k at *
            generalize (pk f j).2 = n at *
            go_wp2
            go_roundw
            case rel => exact ⟨j + 1, by omega, by go_num, by rw [unhide E], by rw [unhide E], by first | rfl | trivial⟩
            case measure => simp only [intOf]; omega
          · have E : Hid ((pk f (j + 1)).1 = (pk f j).1 ∧ (pk f (j + 1)).2 = (pk f j).2) := hide (by rw [pk_no h0]; exact ⟨rfl, rfl⟩)
            have j4 : ¬ (f j : Int) > 0 := by omega
            generalize f j = m at *
            generalize (pk f j).1 = k at *
            generalize (pk f j).2 = n at *
            go_wp2
            go_roundw
            case rel => exact ⟨j + 1, by omega, by go_num, by rw [(unhide E).1], by rw [(unhide E).2], by first | rfl | trivial⟩
            case measure => simp only [intOf]; omega
        · have hj9 : j = 8 := by omega
          subst hj9
          obtain ⟨k, n, hk⟩ : ∃ k n, tokK (s.data.toList.drop p) = (k, n) := ⟨_, _, rfl⟩
          have e1 : (pk f 8).1 = k := by rw [unhide HP, hk]
          have e2 : (pk f 8).2 = n := by rw [unhide HP, hk]
          obtain ⟨hn1, hn2, hk1, hk7⟩ := tok_room hpl hk
          rw [len_list] at hn2
          have hD2 := (unhide HD).2
          have DN := hide (done_next (unhide HD) hpl hk)
          rw [e1, e2]
          clear e1 e2 hk HD hpl HP IX
          go_wp2_with (at_builtin; refine wpList_append_lies _ rfl _ _ 30 rfl w.heap.size 34 i0 (.agg #[.int .i64 0, .int .i64 0, .int .i64 0]) 3 24 Try.underlying30 hi hz0 hz1 hz2 rfl (by decide) _ _ _ rfl (hown1.alloc _) ⟨wr.heap.size, 0, none⟩ 1 1 [.int .i64 (k : Int), .int .i64 (p : Int), .int .i64 ((p : Int) + (n : Int))] rfl rfl ?c1 ?c2 ?c3 ?c4 ?c5 ?c6 (wr.heap.size + 1) ?c7 ?_)
          case c1 => exact cell_three_new _ _ _ _ _
          case c2 => intro u hu; simp at hu; rcases hu with rfl | rfl | rfl <;> rfl
          case c3 => decide
          case c4 => unfold maxLen; omega
          case c5 => omega
          case c6 => have := hbw1.size; simp; omega
          case c7 => simp
          intro g cap w2 hown2 hg2 hat hlt2
          have hbw2 : Below w.heap.size w w2 := (hbw1.alloc hbw1.size _).grown hg2 (by have := hbw1.size; simp; omega) (fun x hx => own_ge3 hown1 x hx)
          clear hg2 hown1 hat hbw1
          go_wp2
          go_roundw
          case rel =>
            refine ⟨p + n, D ++ [⟨k, p, p + n⟩], hn2, by go_num, DN, ?_, hbw2⟩
            rw [List.flatMap_append, List.length_append]
            exact hown2
          case measure => simp only [intOf]; omega
    · have DE := hide (done_end (unhide HD) (by rw [len_list]; omega))
      go_wp2
      go_ret2
      refine ⟨_, rfl, ?_, hbw⟩
      rw [← unhide DE]
      exact toks_own hown
end Go.Proofs.Ytoikdjbgeebadaa.toks
