/- Of our texts, what this claim reaches. -/
import Derived.Test.YtnbfnjhbmeocfaaGreatDoorPgoBV
import Derived.Test.YtnbfnjhbmeocfaaGreatDoorPgoAI
import Derived.Laws.StructEq
set_option linter.unusedVariables false
namespace Go.Proofs.YtnbfnjhbmeocfaaGreatDoor.toks
open Go.RowKit

theorem line_here (s : ByteArray) (a : Nat) (ha : a ≤ s.size) :
    (Lib.indexByte (s.extract a s.size).data.toList ((10 : Int).toNat.toUInt8) = -1 ∧ a + runL noL (s.data.toList.drop a) = s.size) ∨
    (∃ n : Nat, Lib.indexByte (s.extract a s.size).data.toList ((10 : Int).toNat.toUInt8) = (n : Int) ∧ a + runL noL (s.data.toList.drop a) = a + n ∧ a + n ≤ s.size) := by
  rw [ext_drop, show ((10 : Int).toNat.toUInt8) = 10 from rfl]
  obtain ⟨h1, h2⟩ := line_index (s.data.toList.drop a)
  have hl := runL_le noL (s.data.toList.drop a)
  have hlen : (s.data.toList.drop a).length = s.size - a := by rw [List.length_drop, len_list]
  by_cases h : Lib.indexByte (s.data.toList.drop a) 10 = -1
  · exact .inl ⟨h, by rw [h1 h, hlen]; omega⟩
  · exact .inr ⟨runL noL (s.data.toList.drop a), (h2 h).symm, rfl, by omega⟩
set_option maxHeartbeats 1000000 in
set_option maxRecDepth 100000 in
theorem line_any (w : World) (B : Nat) (s : ByteArray) (m : Nat) (b : Bool) (a : Nat) (ha : a ≤ s.size) (hs : s.size ≤ 20000) (hc : Ctr w B s m b) :
    Calls Tryz.prog 73 #[.pointer (some ⟨B, 0, none⟩), .int .i64 (a : Int)] w fun e w' => e = .returned (.int .i64 ((a + runL noL (s.data.toList.drop a) : Nat) : Int)) ∧ w' = w := by
  have c0 := hc.cell 0 _ rfl
  clear hc
  have K := hide (Tryz.strings_IndexByte (s.extract a s.size) 10 w)
  have i1 : (a : Int) ≤ (s.size : Int) := by omega
  rcases line_here s a ha with ⟨h1, h2⟩ | ⟨n, h1, h2, h3⟩
  · rw [h1] at K
    have H2 := hide h2
    clear h1 h2
    go_enter Tryz.func73, Tryz.ntmps73
    go_wp2_with fail
    refine (unhide K).mono ?_
    rintro e w2 ⟨rfl, hw⟩
    rw [hw]
    clear hw K
    go_wp2
    go_ret
    rw [unhide H2]
    exact ⟨rfl, rfl⟩
  · rw [h1] at K
    have H2 := hide h2
    clear h1 h2
    go_enter Tryz.func73, Tryz.ntmps73
    go_wp2_with fail
    refine (unhide K).mono ?_
    rintro e w2 ⟨rfl, hw⟩
    rw [hw]
    clear hw K
    go_wp2
    go_ret
    rw [unhide H2]
    exact ⟨by go_num, rfl⟩
def IsNote (l : List UInt8) (a : Nat) : Prop := l.getD a 0 = 47 ∧ (l.drop (a + 1)).head? = some 42 ∧ closeN (l.drop (a + 2)) ≠ 0
def IsText (l : List UInt8) (a : Nat) : Prop := l.getD a 0 = 34 ∧ shutN (l.drop (a + 1)) ≠ 0
theorem getD_byte (s : ByteArray) (a : Nat) (ha : a < s.size) : s.data.toList.getD a 0 = s[a]'ha := getD_at (by rw [len_list]; exact ha)
theorem prefix_at (s : ByteArray) (a : Nat) (ha : a < s.size) : Lib.hasPrefix (s.extract a s.size).data.toList (⟨#[47, 42]⟩ : ByteArray).data.toList = decide (s.data.toList.getD a 0 = 47 ∧ (s.data.toList.drop (a + 1)).head? = some 42) := by
  rw [ext_drop, getD_byte s a ha, drop_cons (by rw [len_list]; exact ha)]
  show ([47, 42] : List UInt8).isPrefixOf _ = _
  have e : s.data.toList[a]'(by rw [len_list]; exact ha) = s[a]'ha := rfl
  rw [e]
  generalize s[a]'ha = c
  generalize s.data.toList.drop (a + 1) = t
  cases t with
  | nil => simp [List.isPrefixOf]
  | cons d r =>
    simp only [List.isPrefixOf, Bool.and_true, List.head?_cons, Option.some.injEq]
    by_cases q1 : c = 47
    · by_cases q2 : d = 42
      · subst q1 q2; rfl
      · have : ((42 : UInt8) == d) = false := by simpa using Ne.symm q2
        rw [this, Bool.and_false]
        simp [q2]
    · have : ((47 : UInt8) == c) = false := by simpa using Ne.symm q1
      rw [this, Bool.false_and]
      simp [q1]
theorem prefix_room {s : ByteArray} {a : Nat} (h : (s.data.toList.drop (a + 1)).head? = some 42) : a + 2 ≤ s.size := by
  have : s.data.toList.drop (a + 1) ≠ [] := fun e => by rw [e] at h; cases h
  have := List.length_pos_iff.2 this
  rw [List.length_drop, len_list] at this
  omega
set_option maxHeartbeats 2000000 in
set_option maxRecDepth 100000 in
theorem note_any (w : World) (B : Nat) (s : ByteArray) (m : Nat) (b : Bool) (a : Nat) (ha : a < s.size) (hs : s.size ≤ 20000) (hc : Ctr w B s m b) (hN : NoNote s.data.toList a b) (hM : MaxOk w) :
    Calls Tryz.prog 76 #[.pointer (some ⟨B, 0, none⟩), .int .i64 (a : Int)] w fun e w' =>
      (e = .returned (.tuple #[.int .i64 ((a + (closeN (s.data.toList.drop (a + 2)) + 2) : Nat) : Int), .bool true]) ∧ IsNote s.data.toList a ∧ w' = w) ∨
      (e = .returned (.tuple #[.int .i64 0, .bool false]) ∧ ¬ IsNote s.data.toList a ∧ ∃ b', Ctr w' B s m b' ∧ NoNote s.data.toList a b' ∧ w.grownBy w' (some B) ∧ w'.heap.size = w.heap.size) := by
  have C := hide hc
  have c0 := hc.cell 0 _ rfl
  have c2 := hc.cell 2 _ rfl
  have f2 := hc.froz 2
  clear hc
  have i1 : (a : Int) ≤ (s.size : Int) := by omega
  cases b with
  | true =>
    have E : Hid (¬ IsNote s.data.toList a) := hide (fun h => h.2.2 (hN rfl))
    have HN := hide hN
    clear hN hM
    go_enter Tryz.func76, Tryz.ntmps76
    go_wp2
    go_ret2
    exact .inr ⟨rfl, unhide E, true, unhide C, unhide HN, grown_refl _ _, rfl⟩
  | false =>
    have HN := hide hN
    clear hN
    have K := hide (Tryz.strings_HasPrefix (s.extract a s.size) ⟨#[47, 42]⟩ w)
    rw [prefix_at s a ha] at K
    by_cases hp : s.data.toList.getD a 0 = 47 ∧ (s.data.toList.drop (a + 1)).head? = some 42
    · have hr := prefix_room hp.2
      rw [decide_eq_true hp] at K
      obtain ⟨x, hx⟩ := hM
      have K2 := hide (Tryz.strings_Index (s.extract (a + 2) s.size) ⟨#[42, 47]⟩ x w (by rw [ByteArray.size_extract]; omega) hx)
      clear hx
      rw [ext_drop] at K2
      have IX := index_close (s.data.toList.drop (a + 2))
      have i2 : (0 : Int) ≤ (a : Int) + 2 := by omega
      have i3 : (a : Int) + 2 ≤ (s.size : Int) := by omega
      by_cases h0 : closeN (s.data.toList.drop (a + 2)) = 0
      · have e1 := IX.1 h0
        have K3 : Hid (Calls Tryz.prog 133 #[.string (s.extract (a + 2) s.size), .string ⟨#[42, 47]⟩] w fun e w' => e = .returned (.int .i64 (-1)) ∧ w' = w) := by rw [← e1]; exact K2
        have E : Hid (¬ IsNote s.data.toList a ∧ NoNote s.data.toList a true) := hide ⟨fun h => h.2.2 h0, fun _ => h0⟩
        clear K2 IX h0 e1 hp HN
        go_enter Tryz.func76, Tryz.ntmps76
        go_wp2_with fail
        refine (unhide K).mono ?_
        rintro e w2 ⟨rfl, hw⟩
        rw [hw]
        clear hw K
        go_wp2_with fail
        refine (unhide K3).mono ?_
        rintro e w2 ⟨rfl, hw⟩
        rw [hw]
        clear hw K3
        go_wp2
        go_ret2
        exact .inr ⟨rfl, (unhide E).1, true, (unhide C).note, (unhide E).2, grown_set _ _ _ _, by simp [World.setCell]⟩
      · have e1 := IX.2 h0
        have g2 := closeN_ge h0
        have gl := closeN_le (s.data.toList.drop (a + 2))
        rw [List.length_drop, len_list] at gl
        have E : Hid (IsNote s.data.toList a) := hide ⟨hp.1, hp.2, h0⟩
        generalize hk : closeN (s.data.toList.drop (a + 2)) = k at *
        obtain ⟨j, rfl⟩ : ∃ j, k = j + 2 := ⟨k - 2, by omega⟩
        have K3 : Hid (Calls Tryz.prog 133 #[.string (s.extract (a + 2) s.size), .string ⟨#[42, 47]⟩] w fun e w' => e = .returned (.int .i64 (j : Int)) ∧ w' = w) := by
          have : Lib.index (s.data.toList.drop (a + 2)) (⟨#[42, 47]⟩ : ByteArray).data.toList = (j : Int) := by
            show Lib.index (s.data.toList.drop (a + 2)) [42, 47] = _
            rw [e1]; push_cast; omega
          rw [this] at K2
          exact K2
        clear K2 IX h0 e1 hp HN hk g2
        go_enter Tryz.func76, Tryz.ntmps76
        go_wp2_with fail
        refine (unhide K).mono ?_
        rintro e w2 ⟨rfl, hw⟩
        rw [hw]
        clear hw K
        go_wp2_with fail
        refine (unhide K3).mono ?_
        rintro e w2 ⟨rfl, hw⟩
        rw [hw]
        clear hw K3
        go_wp2
        go_ret2
        exact .inl ⟨by go_num, unhide E, rfl⟩
    · rw [decide_eq_false hp] at K
      have E : Hid (¬ IsNote s.data.toList a) := hide (fun h => hp ⟨h.1, h.2.1⟩)
      clear hp hM
      go_enter Tryz.func76, Tryz.ntmps76
      go_wp2_with fail
      refine (unhide K).mono ?_
      rintro e w2 ⟨rfl, hw⟩
      rw [hw]
      clear hw K
      go_wp2
      go_ret2
      exact .inr ⟨rfl, unhide E, false, unhide C, unhide HN, grown_refl _ _, rfl⟩
theorem text_any (w : World) (B : Nat) (s : ByteArray) (m : Nat) (b : Bool) (a : Nat) (ha : a < s.size) (hs : s.size ≤ 20000) (hc : Ctr w B s m b) (hT : NoText s.data.toList a m) (hm : m ≤ s.size) :
    Calls Tryz.prog 77 #[.pointer (some ⟨B, 0, none⟩), .int .i64 (a : Int)] w fun e w' =>
      (e = .returned (.tuple #[.int .i64 ((a + (shutN (s.data.toList.drop (a + 1)) + 1) : Nat) : Int), .bool true]) ∧ IsText s.data.toList a ∧ w' = w) ∨
      (e = .returned (.tuple #[.int .i64 0, .bool false]) ∧ ¬ IsText s.data.toList a ∧ ∃ m' : Nat, Ctr w' B s m' b ∧ NoText s.data.toList a m' ∧ m' ≤ s.size ∧ w.grownBy w' (some B) ∧ w'.heap.size = w.heap.size) := by
  by_cases h34 : s[a]'ha = 34
  · by_cases hl : a < m
    · refine (text_low w B s m b a ha hs hc hl).mono ?_
      rintro e w' ⟨rfl, rfl⟩
      exact .inr ⟨rfl, fun h => h.2 (hT a (Nat.le_refl _) hl h.1), m, hc, hT, hm, grown_refl _ _, rfl⟩
    · refine (text_quote w B s m b a ha hs hc (by omega) h34).mono ?_
      rintro e w' (⟨rfl, h0, rfl⟩ | ⟨q, rfl, h0, hq, hq2, rfl⟩)
      · refine .inl ⟨by rw [show a + 1 + shutN (s.data.toList.drop (a + 1)) = a + (shutN (s.data.toList.drop (a + 1)) + 1) by omega], ⟨by rw [getD_byte s a ha]; exact h34, h0⟩, rfl⟩
      · exact .inr ⟨rfl, fun h => h.2 h0, q, hc.text q, hq, hq2, grown_set _ _ _ _, by simp [World.setCell]⟩
  · refine (text_no w B s m b a ha hs hc h34).mono ?_
    rintro e w' ⟨rfl, rfl⟩
    exact .inr ⟨rfl, fun h => h34 (by rw [← getD_byte s a ha]; exact h.1), m, hc, hT, hm, grown_refl _ _, rfl⟩
theorem tok_blank {l : List UInt8} {a : Nat} (h : a < l.length) (c1 : isB l[a] = true) : tokK (l.drop a) = (1, runL isB (l.drop a)) := by
  rw [drop_cons h]; unfold tokK; simp only; rw [if_pos c1]
theorem tok_line {l : List UInt8} {a : Nat} (h : a < l.length) (c1 : isB l[a] = false) (c2 : l[a] = 10) : tokK (l.drop a) = (2, 1) := by
  rw [drop_cons h]; unfold tokK; simp only; rw [if_neg (by rw [c1]; decide), if_pos c2]
theorem tok_note {l : List UInt8} {a : Nat} (h : a < l.length) (c1 : isB l[a] = false) (c2 : l[a] ≠ 10) (c3 : l[a] = 35) : tokK (l.drop a) = (3, runL noL (l.drop a)) := by
  rw [drop_cons h]; unfold tokK; simp only; rw [if_neg (by rw [c1]; decide), if_neg c2, if_pos c3]
theorem tok_word {l : List UInt8} {a : Nat} (h : a < l.length) (c1 : isB l[a] = false) (c2 : l[a] ≠ 10) (c3 : l[a] ≠ 35) (c4 : isW l[a] = true) : tokK (l.drop a) = (4, runL isW (l.drop a)) := by
  rw [drop_cons h]; unfold tokK; simp only; rw [if_neg (by rw [c1]; decide), if_neg c2, if_neg c3, if_pos c4]
theorem tok_mark {l : List UInt8} {a : Nat} (h : a < l.length) (c1 : isB l[a] = false) (c2 : l[a] ≠ 10) (c3 : l[a] ≠ 35) (c4 : isW l[a] = false) (c5 : isM l[a] = true) : tokK (l.drop a) = (6, 1) := by
  rw [drop_cons h]; unfold tokK; simp only; rw [if_neg (by rw [c1]; decide), if_neg c2, if_neg c3, if_neg (by rw [c4]; decide), if_pos c5]
theorem tok_else {l : List UInt8} {a : Nat} (h : a < l.length) (c1 : isB l[a] = false) (c2 : l[a] ≠ 10) (c3 : l[a] ≠ 35) (c4 : isW l[a] = false) (c5 : isM l[a] = false) :
    (IsNote l a → tokK (l.drop a) = (3, closeN (l.drop (a + 2)) + 2)) ∧ (IsText l a → tokK (l.drop a) = (5, shutN (l.drop (a + 1)) + 1)) ∧ (¬ IsNote l a → ¬ IsText l a → tokK (l.drop a) = (7, 1)) := by
  have e : tokK (l.drop a) = if l[a] = 34 ∧ shutN (l.drop (a + 1)) ≠ 0 then (5, shutN (l.drop (a + 1)) + 1) else if l[a] = 47 ∧ (l.drop (a + 1)).head? = some 42 ∧ closeN (l.drop (a + 2)) ≠ 0 then (3, closeN (l.drop (a + 2)) + 2) else (7, 1) := by
    rw [drop_cons h]; unfold tokK; simp only
    rw [if_neg (by rw [c1]; decide), if_neg c2, if_neg c3, if_neg (by rw [c4]; decide), if_neg (by rw [c5]; decide), List.drop_drop]
  have g := getD_at h
  rw [e]
  unfold IsNote IsText
  rw [g]
  refine ⟨fun q => ?_, fun q => by rw [if_pos q], fun q1 q2 => by rw [if_neg q2, if_neg q1]⟩
  rw [if_neg (fun q2 => by rw [q.1] at q2; exact absurd q2.1 (by decide)), if_pos q]
end Go.Proofs.YtnbfnjhbmeocfaaGreatDoor.toks
set_option linter.unusedVariables false
namespace Go.Proofs.YtnbfnjhbmeocfaaGreatDoor.toks
open Go.RowKit

def Went (w w' : World) (B : Nat) (s : ByteArray) (a : Nat) : Prop := ∃ (m : Nat) (b : Bool), Ctr w' B s m b ∧ m ≤ s.size ∧ NoText s.data.toList a m ∧ NoNote s.data.toList a b ∧ w.grownBy w' (some B)
set_option maxHeartbeats 4000000 in
set_option maxRecDepth 100000 in
theorem next_any (w : World) (B : Nat) (s : ByteArray) (m : Nat) (b : Bool) (a : Nat) (ha : a < s.size) (hs : s.size ≤ 20000) (hc : Ctr w B s m b) (hm : m ≤ s.size) (hT : NoText s.data.toList a m) (hN : NoNote s.data.toList a b) (hM : MaxOk w) :
    Calls Tryz.prog 35 #[.pointer (some ⟨B, 0, none⟩), .int .i64 (a : Int)] w fun e w' =>
      e = .returned (.tuple #[.int .i64 (((tokK (s.data.toList.drop a)).1 : Nat) : Int), .int .i64 ((a + (tokK (s.data.toList.drop a)).2 : Nat) : Int)]) ∧ Went w w' B s a := by
  have hl : a < s.data.toList.length := by rw [len_list]; exact ha
  have G0 : Hid (Went w w B s a) := hide ⟨m, b, hc, hm, hT, hN, grown_refl _ _⟩
  have c0 := hc.cell 0 _ rfl
  have KB := hide (isBlank_any w (s[a]'ha))
  by_cases c1 : isB (s[a]'ha) = true
  · have E := hide (tok_blank hl c1)
    have KR := hide (runB_any w B s m b a (Nat.le_of_lt ha) hs hc)
    rw [c1] at KB
    clear hc hT hN hM c1
    go_enter Tryz.func35, Tryz.ntmps35
    go_wp2_with fail
    refine (unhide KB).mono ?_
    rintro e w2 ⟨rfl, hw⟩
    rw [hw]
    clear hw KB
    go_wp2_with fail
    refine (unhide KR).mono ?_
    rintro e w2 ⟨rfl, hw⟩
    rw [hw]
    clear hw KR
    go_wp2
    go_ret2
    rw [unhide E]
    exact ⟨rfl, unhide G0⟩
  have c1 : isB (s[a]'ha) = false := by simpa using c1
  rw [c1] at KB
  by_cases c2 : s[a]'ha = 10
  · have E := hide (tok_line hl c1 c2)
    have i2 : (((s[a]'ha).toNat : Int) == 10) = true := b_eq 10 c2
    clear hc hT hN hM c1 c2
    go_enter Tryz.func35, Tryz.ntmps35
    go_wp2_with fail
    refine (unhide KB).mono ?_
    rintro e w2 ⟨rfl, hw⟩
    rw [hw]
    clear hw KB
    go_wp2
    go_ret2
    rw [unhide E]
    exact ⟨by go_num, unhide G0⟩
  have i2 : (((s[a]'ha).toNat : Int) == 10) = false := b_ne 10 c2
  by_cases c3 : s[a]'ha = 35
  · have E := hide (tok_note hl c1 c2 c3)
    have i3 : (((s[a]'ha).toNat : Int) == 35) = true := b_eq 35 c3
    have KL := hide (line_any w B s m b a (Nat.le_of_lt ha) hs hc)
    clear hc hT hN hM c1 c2 c3
    go_enter Tryz.func35, Tryz.ntmps35
    go_wp2_with fail
    refine (unhide KB).mono ?_
    rintro e w2 ⟨rfl, hw⟩
    rw [hw]
    clear hw KB
    go_wp2_with fail
    refine (unhide KL).mono ?_
    rintro e w2 ⟨rfl, hw⟩
    rw [hw]
    clear hw KL
    go_wp2
    go_ret2
    rw [unhide E]
    exact ⟨rfl, unhide G0⟩
  have i3 : (((s[a]'ha).toNat : Int) == 35) = false := b_ne 35 c3
  have KW := hide (inWord_any w (s[a]'ha))
  by_cases c4 : isW (s[a]'ha) = true
  · have E := hide (tok_word hl c1 c2 c3 c4)
    have KR := hide (runW_any w B s m b a (Nat.le_of_lt ha) hs hc)
    rw [c4] at KW
    clear hc hT hN hM c1 c2 c3 c4
    go_enter Tryz.func35, Tryz.ntmps35
    go_wp2_with fail
    refine (unhide KB).mono ?_
    rintro e w2 ⟨rfl, hw⟩
    rw [hw]
    clear hw KB
    go_wp2_with fail
    refine (unhide KW).mono ?_
    rintro e w2 ⟨rfl, hw⟩
    rw [hw]
    clear hw KW
    go_wp2_with fail
    refine (unhide KR).mono ?_
    rintro e w2 ⟨rfl, hw⟩
    rw [hw]
    clear hw KR
    go_wp2
    go_ret2
    rw [unhide E]
    exact ⟨rfl, unhide G0⟩
  have c4 : isW (s[a]'ha) = false := by simpa using c4
  rw [c4] at KW
  have KM := hide (isMark_any w (s[a]'ha))
  by_cases c5 : isM (s[a]'ha) = true
  · have E := hide (tok_mark hl c1 c2 c3 c4 c5)
    rw [c5] at KM
    clear hc hT hN hM c1 c2 c3 c4 c5
    go_enter Tryz.func35, Tryz.ntmps35
    go_wp2_with fail
    refine (unhide KB).mono ?_
    rintro e w2 ⟨rfl, hw⟩
    rw [hw]
    clear hw KB
    go_wp2_with fail
    refine (unhide KW).mono ?_
    rintro e w2 ⟨rfl, hw⟩
    rw [hw]
    clear hw KW
    go_wp2_with fail
    refine (unhide KM).mono ?_
    rintro e w2 ⟨rfl, hw⟩
    rw [hw]
    clear hw KM
    go_wp2
    go_ret2
    rw [unhide E]
    exact ⟨by go_num, unhide G0⟩
  have c5 : isM (s[a]'ha) = false := by simpa using c5
  rw [c5] at KM
  have E := hide (tok_else hl c1 c2 c3 c4 c5)
  have KN := hide (note_any w B s m b a ha hs hc hN hM)
  have KT : Hid (∀ w1 b', Ctr w1 B s m b' → _) := hide (fun w1 b' (h : Ctr w1 B s m b') => text_any w1 B s m b' a ha hs h hT hm)
  have HT := hide hT
  clear hc hT hN hM c1 c2 c3 c4 c5
  go_enter Tryz.func35, Tryz.ntmps35
  go_wp2_with fail
  refine (unhide KB).mono ?_
  rintro e w2 ⟨rfl, hw⟩
  rw [hw]
  clear hw KB
  go_wp2_with fail
  refine (unhide KW).mono ?_
  rintro e w2 ⟨rfl, hw⟩
  rw [hw]
  clear hw KW
  go_wp2_with fail
  refine (unhide KM).mono ?_
  rintro e w2 ⟨rfl, hw⟩
  rw [hw]
  clear hw KM
  go_wp2_with fail
  refine (unhide KN).mono ?_
  rintro e w1 (⟨rfl, hn, hw⟩ | ⟨rfl, hn, b', hc1, hN1, hg1, hz1⟩)
  · rw [hw]
    have E1 := hide ((unhide E).1 hn)
    clear hw KN hn
    go_wp2
    go_ret2
    rw [unhide E1]
    exact ⟨rfl, unhide G0⟩
  · have KT1 := hide (unhide KT w1 b' hc1)
    have HN := hide hn
    have C1 := hide hc1
    have N1 := hide hN1
    have G1 := hide hg1
    clear KN KT hn hc1 hN1 hg1 hz1 c0
    go_wp2_with fail
    refine (unhide KT1).mono ?_
    rintro e w2 (⟨rfl, hn, hw⟩ | ⟨rfl, hn, m', hc2, hT2, hm2, hg2, hz2⟩)
    · rw [hw]
      have E1 := hide ((unhide E).2.1 hn)
      clear hw KT1 hn
      go_wp2
      go_ret2
      rw [unhide E1]
      exact ⟨rfl, m, b', unhide C1, hm, unhide HT, unhide N1, unhide G1⟩
    · have E1 := hide ((unhide E).2.2 (unhide HN) hn)
      have R : Hid (Went w w2 B s a) := hide ⟨m', b', hc2, hm2, hT2, unhide N1, grown_trans (unhide G1) hg2⟩
      clear KT1 hn hc2 hT2 hg2 hz2
      go_wp2
      go_ret2
      rw [unhide E1]
      exact ⟨by go_num, unhide R⟩
def tkC (t : Tk) : List Value := [.int .i64 (t.kind : Int), .int .i64 (t.fro : Int), .int .i64 (t.til : Int)]
def RowT (w : World) (a : Option Addr) (l : List Tk) : Prop :=
  l ≠ [] → ∃ b o, a = some ⟨b, o, none⟩ ∧ b < w.heap.size ∧ ∀ j (h : j < l.length), w.cell? ⟨b, o + j * 3, none⟩ = some (.int .i64 (l[j].kind : Int)) ∧ w.cell? ⟨b, o + j * 3 + 1, none⟩ = some (.int .i64 (l[j].fro : Int)) ∧ w.cell? ⟨b, o + j * 3 + 2, none⟩ = some (.int .i64 (l[j].til : Int))
def Toks (w : World) (v : Value) (l : List Tk) : Prop := ∃ a cap, v = .slice a l.length cap ∧ l.length ≤ cap ∧ RowT w a l
theorem RowT.below {w w' : World} {a : Option Addr} {l : List Tk} (h : RowT w a l) (hb : Below w.heap.size w w') : RowT w' a l := by
  intro h0
  obtain ⟨b, o, e, hlt, hc⟩ := h h0
  refine ⟨b, o, e, Nat.lt_of_lt_of_le hlt hb.size, fun j hj => ?_⟩
  rw [hb.cell (p := ⟨b, o + j * 3, none⟩) hlt, hb.cell (p := ⟨b, o + j * 3 + 1, none⟩) hlt, hb.cell (p := ⟨b, o + j * 3 + 2, none⟩) hlt]
  exact hc j hj
theorem Toks.below {w w' : World} {v : Value} {l : List Tk} (h : Toks w v l) (hb : Below w.heap.size w w') : Toks w' v l := by
  obtain ⟨a, cap, e, hc, hr⟩ := h
  exact ⟨a, cap, e, hc, hr.below hb⟩
theorem RowT.take {w : World} {a : Option Addr} {l : List Tk} (h : RowT w a l) (k : Nat) : RowT w a (l.take k) := by
  intro h0
  have hl : l ≠ [] := fun e => h0 (by rw [e, List.take_nil])
  obtain ⟨b, o, e, hlt, hc⟩ := h hl
  refine ⟨b, o, e, hlt, fun j hj => ?_⟩
  have hj' : j < l.length := by rw [List.length_take] at hj; omega
  rw [List.getElem_take]
  exact hc j hj'
theorem flat_len : ∀ l : List Tk, (l.flatMap tkC).length = l.length * 3
  | [] => rfl
  | t :: l => by
    rw [List.flatMap_cons, List.length_append, flat_len l]
    simp [tkC]
    omega
theorem flat_get : ∀ (l : List Tk) (j : Nat) (h : j < l.length), (l.flatMap tkC)[j * 3]? = some (.int .i64 (l[j].kind : Int)) ∧ (l.flatMap tkC)[j * 3 + 1]? = some (.int .i64 (l[j].fro : Int)) ∧ (l.flatMap tkC)[j * 3 + 2]? = some (.int .i64 (l[j].til : Int))
  | [], j, h => by simp at h
  | t :: l, 0, h => by simp [tkC]
  | t :: l, j + 1, h => by
    have ih := flat_get l j (by simpa using h)
    have e : ∀ r, ((t :: l).flatMap tkC)[(j + 1) * 3 + r]? = (l.flatMap tkC)[j * 3 + r]? := fun r => by
      rw [List.flatMap_cons, List.getElem?_append_right (by simp [tkC]; omega)]
      congr 1
      simp [tkC]
      omega
    have e0 := e 0
    rw [Nat.add_zero, Nat.add_zero] at e0
    rw [e0, e 1, e 2]
    exact ih
theorem toks_own {w : World} {base : Nat} {v : Value} {l : List Tk} (h : w.ownsRow base 39 3 v l.length (l.flatMap tkC)) : Toks w v l := by
  have h' := h
  rcases h.2 with ⟨rfl, h0⟩ | ⟨g, cap, cur, rfl, _, hg, hcap, _⟩
  · have : l = [] := List.eq_nil_of_length_eq_zero h0
    subst this
    exact ⟨none, 0, rfl, by simp, fun h => absurd rfl h⟩
  · refine ⟨_, cap, rfl, hcap, fun _ => ⟨g, 0, rfl, (Array.getElem?_eq_some_iff.1 hg).1, fun j hj => ?_⟩⟩
    rw [Nat.zero_add, h'.cellAt (j * 3) (by omega), h'.cellAt (j * 3 + 1) (by omega), h'.cellAt (j * 3 + 2) (by omega)]
    exact flat_get l j hj
theorem own_ge3 {w : World} {base e n : Nat} {v : Value} {xs : List Value} (h : w.ownsRow base e 3 v n xs) : ∀ g, v.ownBlock = some g → base ≤ g := fun g hg => (h.lt g hg).1
theorem own_kept {w w' : World} {base e n B : Nat} {v : Value} {xs : List Value} (h : w.ownsRow base e 3 v n xs) (hg : w.grownBy w' (some B)) (hB : B < base) : w'.ownsRow base e 3 v n xs := by
  refine h.kept hg ?_
  cases hv : v.ownBlock with
  | none => exact .inl rfl
  | some g => exact .inr (fun e => by injection e with e; have := own_ge3 h g hv; omega)
theorem own_not {w : World} {base e n B : Nat} {v : Value} {xs : List Value} (h : w.ownsRow base e 3 v n xs) (hB : B < base) : some B ≠ v.ownBlock := fun e => by
  have := own_ge3 h B e.symm
  omega
theorem infoTok : (Tryz.prog.info? 39).map (fun i => (i.zero, i.size, i.bytes)) = some (some (.agg #[.int .i64 0, .int .i64 0, .int .i64 0]), 3, 24) := by kernel_rfl
set_option maxHeartbeats 400000 in
theorem cut_large (s : ByteArray) (w : World) (hs : 20000 < s.size) :
    Calls Tryz.prog 15 #[.string s] w fun e w' => e = .returned (.tuple #[.slice none 0 0, .int .i64 2]) ∧ w' = w := by
  have i1 : (s.size : Int) > 20000 := by omega
  go_enter Tryz.func15, Tryz.ntmps15
  go_wp2
  go_ret2
  exact ⟨rfl, rfl⟩
def Done (l : List UInt8) (p : Nat) (d : List Tk) : Prop := toksL l = d ++ cutP p (l.drop p) ∧ d.length ≤ p
theorem done_zero (l : List UInt8) : Done l 0 [] := ⟨rfl, Nat.le_refl _⟩
theorem done_next {l : List UInt8} {p k n : Nat} {d : List Tk} (h : Done l p d) (hp : p < l.length) (hk : tokK (l.drop p) = (k, n)) : Done l (p + n) (d ++ [⟨k, p, p + n⟩]) := by
  have hne : l.drop p ≠ [] := fun e => by
    have := congrArg List.length e
    rw [List.length_drop, List.length_nil] at this
    omega
  have hz := (tokK_size hne).1
  rw [hk] at hz
  refine ⟨?_, ?_⟩
  · rw [h.1, cutP_cons hne, hk, List.append_assoc, List.drop_drop]
    rfl
  · have := h.2
    simp only at hz
    rw [List.length_append, List.length_singleton]
    omega
theorem done_end {l : List UInt8} {p : Nat} {d : List Tk} (h : Done l p d) (hp : l.length ≤ p) : d = toksL l := by
  rw [h.1, List.drop_of_length_le hp, cutP_nil, List.append_nil]
theorem tok_room {l : List UInt8} {p k n : Nat} (hp : p < l.length) (hk : tokK (l.drop p) = (k, n)) : 1 ≤ n ∧ p + n ≤ l.length ∧ 1 ≤ k ∧ k ≤ 7 := by
  have hne : l.drop p ≠ [] := fun e => by
    have := congrArg List.length e
    rw [List.length_drop, List.length_nil] at this
    omega
  have hz := tokK_size hne
  rw [hk, List.length_drop] at hz
  simp only at hz
  omega
theorem cell_three_new (w : World) (x y z : Value) (t : TypeId) : ∀ j u, [x, y, z][j]? = some u → (w.alloc (.cells #[x, y, z] t)).cell? ((⟨w.heap.size, 0, none⟩ : Addr).add j) = some u :=
  fun j u hu => World.news_of_block (blk_alloc w #[x, y, z] t) j u hu
set_option maxHeartbeats 2000000 in
set_option maxRecDepth 100000 in
theorem cut_any (s : ByteArray) (w : World) (hs : s.size ≤ 20000) (hM : MaxOk w) :
    Calls Tryz.prog 15 #[.string s] w fun e w' => ∃ v, e = .returned (.tuple #[v, .int .i64 0]) ∧ Toks w' v (toksL s.data.toList) ∧ Below w.heap.size w w' := by
  obtain ⟨i0, hi, hz0, hz1, hz2⟩ := info_parts infoTok
  have i1 : ¬ (s.size : Int) > 20000 := by omega
  have d1 : decide ((s.size : Int) > 20000) = false := decide_eq_false i1
  have HM := hide hM
  have hlt0 := hM.lt
  clear hM
  go_enter Tryz.func15, Tryz.ntmps15
  go_wp2_with fail
  go_loopw [4, 6] (fun v i wr => ∃ (p m : Nat) (b : Bool) (D : List Tk), p ≤ s.size ∧ i = .int .i64 p ∧ m ≤ s.size ∧ Hid (Done s.data.toList p D) ∧ Hid (Ctr wr w.heap.size s m b) ∧ Hid (NoText s.data.toList p m) ∧ Hid (NoNote s.data.toList p b) ∧
      wr.ownsRow (w.heap.size + 1) 39 3 v D.length (D.flatMap tkC) ∧ Hid (MaxOk wr) ∧ Below w.heap.size w wr ∧ w.heap.size < wr.heap.size) (fun _ i _ => s.size - (intOf i).toNat)
  case atStart =>
    refine ⟨0, 0, false, [], Nat.zero_le _, rfl, Nat.zero_le _, hide (done_zero _), hide (blk_alloc w _ _), hide (noText_zero _ _), hide (noNote_false _ _), World.ownsRow_nil _ _ _ _, hide ((unhide HM).below (Nat.le_refl _) ((Below.refl _ w).alloc (Nat.le_refl _) _)), (Below.refl _ w).alloc (Nat.le_refl _) _, by simp⟩
  case round =>
    obtain ⟨p, m, b, D, hp, rfl, hm, HD, HC, HT, HN, hown, HMr, hbw, hsz⟩ := hrel
    by_cases hlt : p < s.size
    · have hpl : p < s.data.toList.length := by rw [len_list]; exact hlt
      have KN := hide (next_any wr w.heap.size s m b p hlt hs (unhide HC) hm (unhide HT) (unhide HN) (unhide HMr))
      obtain ⟨k, n, hk⟩ : ∃ k n, tokK (s.data.toList.drop p) = (k, n) := ⟨_, _, rfl⟩
      obtain ⟨hn1, hn2, hk1, hk7⟩ := tok_room hpl hk
      rw [len_list] at hn2
      have hD2 := (unhide HD).2
      have DN := done_next (unhide HD) hpl hk
      rw [hk] at KN
      clear hk HC HT HN HD hpl
      simp only at KN
      generalize hq : p + n = q at *
      have DN := hide DN
      have hqp : p < q := by omega
      clear hq
      go_wp2_with fail
      refine (unhide KN).mono ?_
      rintro e w1 ⟨rfl, m', b', hc1, hm1, hT1, hN1, hg1⟩
      have hown1 := own_kept hown hg1 (Nat.lt_succ_self _)
      have hM1 := (unhide HMr).grown hg1 hlt0
      have hbw1 : Below w.heap.size w w1 := hbw.grown hg1 hbw.size (fun k hk => by injection hk with hk; omega)
      have hsz1 : w.heap.size < w1.heap.size := Nat.lt_of_lt_of_le hsz hg1.size
      have C1 := hide hc1
      have T1 := hide hT1
      have N1 := hide hN1
      have M1 := hide hM1
      clear KN hc1 hT1 hN1 hM1 hg1 hown HMr hbw hsz
      go_wp2_with (at_builtin; refine wpList_append_lies _ rfl _ _ 35 rfl (w.heap.size + 1) 39 i0 (.agg #[.int .i64 0, .int .i64 0, .int .i64 0]) 3 24 Tryz.underlying35 hi hz0 hz1 hz2 rfl (by decide) _ _ _ rfl (hown1.alloc _) ⟨w1.heap.size, 0, none⟩ 1 1 [.int .i64 (k : Int), .int .i64 (p : Int), .int .i64 (q : Int)] rfl rfl ?c1 ?c2 ?c3 ?c4 ?c5 ?c6 (w1.heap.size + 1) ?c7 ?_)
      case c1 => exact cell_three_new _ _ _ _ _
      case c2 => intro u hu; simp at hu; rcases hu with rfl | rfl | rfl <;> rfl
      case c3 => decide
      case c4 => unfold maxLen; omega
      case c5 => omega
      case c6 => have := hbw1.size; simp; omega
      case c7 => simp
      intro g cap w2 hown2 hg2 hat hlt2
      have hC2 : Hid (Ctr w2 w.heap.size s m' b') := hide (Blk.grown ((unhide C1).alloc _) hg2 (own_not hown1 (Nat.lt_succ_self _)))
      have hbw2 : Below w.heap.size w w2 := (hbw1.alloc hbw1.size _).grown hg2 (by have := hbw1.size; simp; omega) (fun x hx => by have := own_ge3 hown1 x hx; omega)
      have hM2 := hide ((unhide HM).below (Nat.le_refl _) hbw2)
      have hsz2 : w.heap.size < w2.heap.size := by have := hg2.size; simp at this; omega
      have T2 := hide ((unhide T1).on (Nat.le_of_lt hqp))
      have N2 := hide ((unhide N1).on (Nat.le_of_lt hqp))
      clear hg2 hown1 hat C1 T1 N1 M1 hbw1 hsz1
      go_wp2
      go_roundw
      case rel =>
        refine ⟨q, m', b', D ++ [⟨k, p, q⟩], hn2, by rfl, hm1, DN, hC2, T2, N2, ?_, hM2, hbw2, hsz2⟩
        rw [List.flatMap_append, List.length_append]
        exact hown2
      case measure => simp only [intOf]; omega
    · have DE := hide (done_end (unhide HD) (by rw [len_list]; omega))
      go_wp2
      go_ret2
      refine ⟨_, rfl, ?_, hbw⟩
      rw [← unhide DE]
      exact toks_own hown
end Go.Proofs.YtnbfnjhbmeocfaaGreatDoor.toks
set_option linter.unusedVariables false
namespace Go.Proofs.YtnbfnjhbmeocfaaGreatDoor.toks
open Go.RowKit

set_option maxHeartbeats 400000 in
theorem solid_any (w : World) (k : Int) (h0 : -9223372036854775808 ≤ k) (h1 : k ≤ 9223372036854775807) :
    Calls Tryz.prog 167 #[.int .i64 k] w fun e w' => e = .returned (.bool (decide (4 ≤ k ∧ k ≤ 7))) ∧ w' = w := by
  by_cases a1 : 4 ≤ k
  · by_cases a2 : k ≤ 7
    · rw [decide_eq_true ⟨a1, a2⟩]
      go_enter Tryz.func167, Tryz.ntmps167
      go_wp2
      go_ret
      exact ⟨rfl, rfl⟩
    · rw [decide_eq_false (fun h => a2 h.2)]
      have d2 : decide (k ≤ 7) = false := decide_eq_false a2
      go_enter Tryz.func167, Tryz.ntmps167
      go_wp2
      go_ret
      exact ⟨rfl, rfl⟩
  · rw [decide_eq_false (fun h => a1 h.1)]
    have d1 : decide (4 ≤ k) = false := decide_eq_false a1
    go_enter Tryz.func167, Tryz.ntmps167
    go_wp2
    go_ret
    exact ⟨rfl, rfl⟩
end Go.Proofs.YtnbfnjhbmeocfaaGreatDoor.toks
