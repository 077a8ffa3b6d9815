/- The walks of the cutter: lines, notes, the next token. -/
import Derived.Test.YtoikdjbgeebadaaTokRunW
import Derived.Test.YtoikdjbgeebadaaShelf
set_option linter.unusedVariables false
namespace Go.Proofs.Ytoikdjbgeebadaa.toks
open Go.RowKit

theorem line_here (s : ByteArray) (a : Nat) (ha : a ≤ s.size) :
    (Lib.indexByte (s.extract a s.size).data.toList ((10 : Int).toNat.toUInt8) = -1 ∧ a + runL noL (s.data.toList.drop a) = s.size) ∨
    (∃ n : Nat, Lib.indexByte (s.extract a s.size).data.toList ((10 : Int).toNat.toUInt8) = (n : Int) ∧ a + runL noL (s.data.toList.drop a) = a + n ∧ a + n ≤ s.size) := by
  rw [ext_drop, show ((10 : Int).toNat.toUInt8) = 10 from rfl]
  obtain ⟨h1, h2⟩ := line_index (s.data.toList.drop a)
  have hl := runL_le noL (s.data.toList.drop a)
  have hlen : (s.data.toList.drop a).length = s.size - a := by rw [List.length_drop, len_list]
  by_cases h : Lib.indexByte (s.data.toList.drop a) 10 = -1
  · exact .inl ⟨h, by rw [h1 h, hlen]; omega⟩
  · exact .inr ⟨runL noL (s.data.toList.drop a), (h2 h).symm, rfl, by omega⟩
set_option maxHeartbeats 1000000 in
set_option maxRecDepth 100000 in
theorem line_any (w : World) (B : Nat) (s : ByteArray) (m : Nat) (b : Bool) (a : Nat) (ha : a ≤ s.size) (hs : s.size ≤ 20000) (hc : Ctr w B s m b) :
    Calls Try.prog 38 #[.pointer (some ⟨B, 0, none⟩), .int .i64 (a : Int)] w fun e w' => e = .returned (.int .i64 ((a + runL noL (s.data.toList.drop a) : Nat) : Int)) ∧ w' = w := by
  have c0 := hc.cell 0 _ rfl
  clear hc
  have K := hide (Try.strings_IndexByte (s.extract a s.size) 10 w)
  have i1 : (a : Int) ≤ (s.size : Int) := by omega
  rcases line_here s a ha with ⟨h1, h2⟩ | ⟨n, h1, h2, h3⟩
  · rw [h1] at K
    have H2 := hide h2
    clear h1 h2
    go_enter Try.func38, Try.ntmps38
    go_wp2_with fail
    refine (unhide K).mono ?_
    rintro e w2 ⟨rfl, hw⟩
    rw [hw]
    clear hw K
    go_wp2
    go_ret
    rw [unhide H2]
    exact ⟨rfl, rfl⟩
  · rw [h1] at K
    have H2 := hide h2
    clear h1 h2
    go_enter Try.func38, Try.ntmps38
    go_wp2_with fail
    refine (unhide K).mono ?_
    rintro e w2 ⟨rfl, hw⟩
    rw [hw]
    clear hw K
    go_wp2
    go_ret
    rw [unhide H2]
    exact ⟨by go_num, rfl⟩
/-- A note that may go over lines begins here, and has its end. -/
def IsNote (l : List UInt8) (a : Nat) : Prop := l.getD a 0 = 47 ∧ (l.drop (a + 1)).head? = some 42 ∧ closeN (l.drop (a + 2)) ≠ 0
/-- A text between quotes begins here, and has its end. -/
def IsText (l : List UInt8) (a : Nat) : Prop := l.getD a 0 = 34 ∧ shutN (l.drop (a + 1)) ≠ 0
theorem getD_byte (s : ByteArray) (a : Nat) (ha : a < s.size) : s.data.toList.getD a 0 = s[a]'ha := getD_at (by rw [len_list]; exact ha)
theorem prefix_at (s : ByteArray) (a : Nat) (ha : a < s.size) : Lib.hasPrefix (s.extract a s.size).data.toList (⟨#[47, 42]⟩ : ByteArray).data.toList = decide (s.data.toList.getD a 0 = 47 ∧ (s.data.toList.drop (a + 1)).head? = some 42) := by
  rw [ext_drop, getD_byte s a ha, drop_cons (by rw [len_list]; exact ha)]
  show ([47, 42] : List UInt8).isPrefixOf _ = _
  have e : s.data.toList[a]'(by rw [len_list]; exact ha) = s[a]'ha := rfl
  rw [e]
  generalize s[a]'ha = c
  generalize s.data.toList.drop (a + 1) = t
  cases t with
  | nil => simp [List.isPrefixOf]
  | cons d r =>
    simp only [List.isPrefixOf, Bool.and_true, List.head?_cons, Option.some.injEq]
    by_cases q1 : c = 47
    · by_cases q2 : d = 42
      · subst q1 q2; rfl
      · have : ((42 : UInt8) == d) = false := by simpa using Ne.symm q2
        rw [this, Bool.and_false]
        simp [q2]
    · have : ((47 : UInt8) == c) = false := by simpa using Ne.symm q1
      rw [this, Bool.false_and]
      simp [q1]
theorem prefix_room {s : ByteArray} {a : Nat} (h : (s.data.toList.drop (a + 1)).head? = some 42) : a + 2 ≤ s.size := by
  have : s.data.toList.drop (a + 1) ≠ [] := fun e => by rw [e] at h; cases h
  have := List.length_pos_iff.2 this
  rw [List.length_drop, len_list] at this
  omega
set_option maxHeartbeats 2000000 in
set_option maxRecDepth 100000 in
theorem note_any (w : World) (B : Nat) (s : ByteArray) (m : Nat) (b : Bool) (a : Nat) (ha : a < s.size) (hs : s.size ≤ 20000) (hc : Ctr w B s m b) (hN : NoNote s.data.toList a b) (hM : MaxOk w) :
    Calls Try.prog 41 #[.pointer (some ⟨B, 0, none⟩), .int .i64 (a : Int)] w fun e w' =>
      (e = .returned (.tuple #[.int .i64 ((a + (closeN (s.data.toList.drop (a + 2)) + 2) : Nat) : Int), .bool true]) ∧ IsNote s.data.toList a ∧ w' = w) ∨
      (e = .returned (.tuple #[.int .i64 0, .bool false]) ∧ ¬ IsNote s.data.toList a ∧ ∃ b', Ctr w' B s m b' ∧ NoNote s.data.toList a b' ∧ w.grownBy w' (some B) ∧ w'.heap.size = w.heap.size) := by
  have C := hide hc
  have c0 := hc.cell 0 _ rfl
  have c2 := hc.cell 2 _ rfl
  have f2 := hc.froz 2
  clear hc
  have i1 : (a : Int) ≤ (s.size : Int) := by omega
  cases b with
  | true =>
    have E : Hid (¬ IsNote s.data.toList a) := hide (fun h => h.2.2 (hN rfl))
    have HN := hide hN
    clear hN hM
    go_enter Try.func41, Try.ntmps41
    go_wp2
    go_ret2
    exact .inr ⟨rfl, unhide E, true, unhide C, unhide HN, grown_refl _ _, rfl⟩
  | false =>
    have HN := hide hN
    clear hN
    have K := hide (Try.strings_HasPrefix (s.extract a s.size) ⟨#[47, 42]⟩ w)
    rw [prefix_at s a ha] at K
    by_cases hp : s.data.toList.getD a 0 = 47 ∧ (s.data.toList.drop (a + 1)).head? = some 42
    · have hr := prefix_room hp.2
      rw [decide_eq_true hp] at K
      obtain ⟨x, hx⟩ := hM
      have K2 := hide (Try.strings_Index (s.extract (a + 2) s.size) ⟨#[42, 47]⟩ x w (by rw [ByteArray.size_extract]; omega) hx)
      clear hx
      rw [ext_drop] at K2
      have IX := index_close (s.data.toList.drop (a + 2))
      have i2 : (0 : Int) ≤ (a : Int) + 2 := by omega
      have i3 : (a : Int) + 2 ≤ (s.size : Int) := by omega
      by_cases h0 : closeN (s.data.toList.drop (a + 2)) = 0
      · have e1 := IX.1 h0
        have K3 : Hid (Calls Try.prog 53 #[.string (s.extract (a + 2) s.size), .string ⟨#[42, 47]⟩] w fun e w' => e = .returned (.int .i64 (-1)) ∧ w' = w) := by rw [← e1]; exact K2
        have E : Hid (¬ IsNote s.data.toList a ∧ NoNote s.data.toList a true) := hide ⟨fun h => h.2.2 h0, fun _ => h0⟩
        clear K2 IX h0 e1 hp HN
        go_enter Try.func41, Try.ntmps41
        go_wp2_with fail
        refine (unhide K).mono ?_
        rintro e w2 ⟨rfl, hw⟩
        rw [hw]
        clear hw K
        go_wp2_with fail
        refine (unhide K3).mono ?_
        rintro e w2 ⟨rfl, hw⟩
        rw [hw]
        clear hw K3
        go_wp2
        go_ret2
        exact .inr ⟨rfl, (unhide E).1, true, (unhide C).note, (unhide E).2, grown_set _ _ _ _, by simp [World.setCell]⟩
      · have e1 := IX.2 h0
        have g2 := closeN_ge h0
        have gl := closeN_le (s.data.toList.drop (a + 2))
        rw [List.length_drop, len_list] at gl
        have E : Hid (IsNote s.data.toList a) := hide ⟨hp.1, hp.2, h0⟩
        generalize hk : closeN (s.data.toList.drop (a + 2)) = k at *
        obtain ⟨j, rfl⟩ : ∃ j, k = j + 2 := ⟨k - 2, by omega⟩
        have K3 : Hid (Calls Try.prog 53 #[.string (s.extract (a + 2) s.size), .string ⟨#[42, 47]⟩] w fun e w' => e = .returned (.int .i64 (j : Int)) ∧ w' = w) := by
          have : Lib.index (s.data.toList.drop (a + 2)) (⟨#[42, 47]⟩ : ByteArray).data.toList = (j : Int) := by
            show Lib.index (s.data.toList.drop (a + 2)) [42, 47] = _
            rw [e1]; push_cast; omega
          rw [this] at K2
          exact K2
        clear K2 IX h0 e1 hp HN hk g2
        go_enter Try.func41, Try.ntmps41
        go_wp2_with fail
        refine (unhide K).mono ?_
        rintro e w2 ⟨rfl, hw⟩
        rw [hw]
        clear hw K
        go_wp2_with fail
        refine (unhide K3).mono ?_
        rintro e w2 ⟨rfl, hw⟩
        rw [hw]
        clear hw K3
        go_wp2
        go_ret2
        exact .inl ⟨by go_num, unhide E, rfl⟩
    · rw [decide_eq_false hp] at K
      have E : Hid (¬ IsNote s.data.toList a) := hide (fun h => hp ⟨h.1, h.2.1⟩)
      clear hp hM
      go_enter Try.func41, Try.ntmps41
      go_wp2_with fail
      refine (unhide K).mono ?_
      rintro e w2 ⟨rfl, hw⟩
      rw [hw]
      clear hw K
      go_wp2
      go_ret2
      exact .inr ⟨rfl, unhide E, false, unhide C, unhide HN, grown_refl _ _, rfl⟩
theorem text_any (w : World) (B : Nat) (s : ByteArray) (m : Nat) (b : Bool) (a : Nat) (ha : a < s.size) (hs : s.size ≤ 20000) (hc : Ctr w B s m b) (hT : NoText s.data.toList a m) (hm : m ≤ s.size) :
    Calls Try.prog 42 #[.pointer (some ⟨B, 0, none⟩), .int .i64 (a : Int)] w fun e w' =>
      (e = .returned (.tuple #[.int .i64 ((a + (shutN (s.data.toList.drop (a + 1)) + 1) : Nat) : Int), .bool true]) ∧ IsText s.data.toList a ∧ w' = w) ∨
      (e = .returned (.tuple #[.int .i64 0, .bool false]) ∧ ¬ IsText s.data.toList a ∧ ∃ m' : Nat, Ctr w' B s m' b ∧ NoText s.data.toList a m' ∧ m' ≤ s.size ∧ w.grownBy w' (some B) ∧ w'.heap.size = w.heap.size) := by
  by_cases h34 : s[a]'ha = 34
  · by_cases hl : a < m
    · refine (text_low w B s m b a ha hs hc hl).mono ?_
      rintro e w' ⟨rfl, rfl⟩
      exact .inr ⟨rfl, fun h => h.2 (hT a (Nat.le_refl _) hl h.1), m, hc, hT, hm, grown_refl _ _, rfl⟩
    · refine (text_quote w B s m b a ha hs hc (by omega) h34).mono ?_
      rintro e w' (⟨rfl, h0, rfl⟩ | ⟨q, rfl, h0, hq, hq2, rfl⟩)
      · refine .inl ⟨by rw [show a + 1 + shutN (s.data.toList.drop (a + 1)) = a + (shutN (s.data.toList.drop (a + 1)) + 1) by omega], ⟨by rw [getD_byte s a ha]; exact h34, h0⟩, rfl⟩
      · exact .inr ⟨rfl, fun h => h.2 h0, q, hc.text q, hq, hq2, grown_set _ _ _ _, by simp [World.setCell]⟩
  · refine (text_no w B s m b a ha hs hc h34).mono ?_
    rintro e w' ⟨rfl, rfl⟩
    exact .inr ⟨rfl, fun h => h34 (by rw [← getD_byte s a ha]; exact h.1), m, hc, hT, hm, grown_refl _ _, rfl⟩
/-- The token at a place, kind by kind. -/
theorem tok_blank {l : List UInt8} {a : Nat} (h : a < l.length) (c1 : isB l[a] = true) : tokK (l.drop a) = (1, runL isB (l.drop a)) := by
  rw [drop_cons h]; unfold tokK; simp only; rw [if_pos c1]
theorem tok_line {l : List UInt8} {a : Nat} (h : a < l.length) (c1 : isB l[a] = false) (c2 : l[a] = 10) : tokK (l.drop a) = (2, 1) := by
  rw [drop_cons h]; unfold tokK; simp only; rw [if_neg (by rw [c1]; decide), if_pos c2]
theorem tok_note {l : List UInt8} {a : Nat} (h : a < l.length) (c1 : isB l[a] = false) (c2 : l[a] ≠ 10) (c3 : l[a] = 35) : tokK (l.drop a) = (3, runL noL (l.drop a)) := by
  rw [drop_cons h]; unfold tokK; simp only; rw [if_neg (by rw [c1]; decide), if_neg c2, if_pos c3]
theorem tok_word {l : List UInt8} {a : Nat} (h : a < l.length) (c1 : isB l[a] = false) (c2 : l[a] ≠ 10) (c3 : l[a] ≠ 35) (c4 : isW l[a] = true) : tokK (l.drop a) = (4, runL isW (l.drop a)) := by
  rw [drop_cons h]; unfold tokK; simp only; rw [if_neg (by rw [c1]; decide), if_neg c2, if_neg c3, if_pos c4]
theorem tok_mark {l : List UInt8} {a : Nat} (h : a < l.length) (c1 : isB l[a] = false) (c2 : l[a] ≠ 10) (c3 : l[a] ≠ 35) (c4 : isW l[a] = false) (c5 : isM l[a] = true) : tokK (l.drop a) = (6, 1) := by
  rw [drop_cons h]; unfold tokK; simp only; rw [if_neg (by rw [c1]; decide), if_neg c2, if_neg c3, if_neg (by rw [c4]; decide), if_pos c5]
theorem tok_else {l : List UInt8} {a : Nat} (h : a < l.length) (c1 : isB l[a] = false) (c2 : l[a] ≠ 10) (c3 : l[a] ≠ 35) (c4 : isW l[a] = false) (c5 : isM l[a] = false) :
    (IsNote l a → tokK (l.drop a) = (3, closeN (l.drop (a + 2)) + 2)) ∧ (IsText l a → tokK (l.drop a) = (5, shutN (l.drop (a + 1)) + 1)) ∧ (¬ IsNote l a → ¬ IsText l a → tokK (l.drop a) = (7, 1)) := by
  have e : tokK (l.drop a) = if l[a] = 34 ∧ shutN (l.drop (a + 1)) ≠ 0 then (5, shutN (l.drop (a + 1)) + 1) else if l[a] = 47 ∧ (l.drop (a + 1)).head? = some 42 ∧ closeN (l.drop (a + 2)) ≠ 0 then (3, closeN (l.drop (a + 2)) + 2) else (7, 1) := by
    rw [drop_cons h]; unfold tokK; simp only
    rw [if_neg (by rw [c1]; decide), if_neg c2, if_neg c3, if_neg (by rw [c4]; decide), if_neg (by rw [c5]; decide), List.drop_drop]
  have g := getD_at h
  rw [e]
  unfold IsNote IsText
  rw [g]
  refine ⟨fun q => ?_, fun q => by rw [if_pos q], fun q1 q2 => by rw [if_neg q2, if_neg q1]⟩
  rw [if_neg (fun q2 => by rw [q.1] at q2; exact absurd q2.1 (by decide)), if_pos q]
end Go.Proofs.Ytoikdjbgeebadaa.toks
