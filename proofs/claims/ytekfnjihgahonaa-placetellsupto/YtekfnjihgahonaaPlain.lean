/- Lines of a list of bytes, with no program in it: how many bytes 10 are ahead of a place, where its line begins and ends. -/
import Derived.Lib.Bytealg
import Derived.Lib.LastIndexByte
import Derived.Lib.Join
set_option linter.unusedVariables false
namespace Go.Proofs.Ytekfnjihgahonaa.plain

/-- How many bytes 10 are among the first k. -/
def cnt (l : List UInt8) (k : Nat) : Nat := (l.take k).count 10

theorem cnt_zero (l : List UInt8) : cnt l 0 = 0 := by simp [cnt]
theorem take_succ (l : List UInt8) (k : Nat) (h : k < l.length) : l.take (k + 1) = l.take k ++ [l.getD k 0] := by
  rw [List.take_succ_eq_append_getElem h]
  simp [List.getD, List.getElem?_eq_getElem h]
theorem cnt_hit {l : List UInt8} {k : Nat} (h : k < l.length) (e : l.getD k 0 = 10) : cnt l (k + 1) = cnt l k + 1 := by
  unfold cnt
  rw [take_succ l k h, List.count_append, e]
  simp
theorem cnt_miss {l : List UInt8} {k : Nat} (h : k < l.length) (e : l.getD k 0 ≠ 10) : cnt l (k + 1) = cnt l k := by
  unfold cnt
  rw [take_succ l k h, List.count_append]
  have : List.count 10 [l.getD k 0] = 0 := by
    rw [List.count_singleton, if_neg (by rw [beq_iff_eq]; exact e)]
  omega
theorem cnt_over {l : List UInt8} {k : Nat} (h : l.length ≤ k) : cnt l (k + 1) = cnt l k := by
  unfold cnt
  rw [List.take_of_length_le (by omega), List.take_of_length_le h]
theorem cnt_all (l : List UInt8) : cnt l l.length = l.count 10 := by unfold cnt; rw [List.take_length]
theorem cnt_step (l : List UInt8) (k : Nat) : cnt l k ≤ cnt l (k + 1) := by
  by_cases h : k < l.length
  · by_cases e : l.getD k 0 = 10
    · rw [cnt_hit h e]; omega
    · rw [cnt_miss h e]; exact Nat.le_refl _
  · rw [cnt_over (by omega)]; exact Nat.le_refl _
theorem cnt_mono (l : List UInt8) {a b : Nat} (h : a ≤ b) : cnt l a ≤ cnt l b := by
  induction b with
  | zero => have : a = 0 := by omega
            subst this; exact Nat.le_refl _
  | succ b ih =>
    by_cases e : a = b + 1
    · subst e; exact Nat.le_refl _
    · exact Nat.le_trans (ih (by omega)) (cnt_step l b)
theorem cnt_gap {l : List UInt8} {a b : Nat} (h : a ≤ b) (hb : b ≤ l.length) (hf : ∀ j, a ≤ j → j < b → l.getD j 0 ≠ 10) : cnt l b = cnt l a := by
  induction b with
  | zero => have : a = 0 := by omega
            subst this; rfl
  | succ b ih =>
    by_cases e : a = b + 1
    · subst e; rfl
    · rw [cnt_miss (by omega) (hf b (by omega) (by omega))]
      exact ih (by omega) (by omega) fun j h1 h2 => hf j h1 (by omega)
theorem cnt_le (l : List UInt8) (k : Nat) : cnt l k ≤ k := by
  have h1 : (l.take k).count 10 ≤ (l.take k).length := List.count_le_length
  have h2 := List.length_take_le k l
  unfold cnt
  omega

/-- A line begins at a. -/
def St (l : List UInt8) (a : Nat) : Prop := a ≤ l.length ∧ (a = 0 ∨ l.getD (a - 1) 0 = 10)

theorem st_lt {l : List UInt8} {a b : Nat} (hb : St l b) (h : a < b) : cnt l a < cnt l b := by
  obtain ⟨h1, h2 | h2⟩ := hb
  · omega
  · have e := cnt_hit (l := l) (k := b - 1) (by omega) h2
    have e2 : b - 1 + 1 = b := by omega
    rw [e2] at e
    have := cnt_mono l (a := a) (b := b - 1) (by omega)
    omega
theorem st_inj {l : List UInt8} {a b : Nat} (ha : St l a) (hb : St l b) (h : cnt l a = cnt l b) : a = b := by
  rcases Nat.lt_trichotomy a b with h1 | h1 | h1
  · have := st_lt hb h1; omega
  · exact h1
  · have := st_lt ha h1; omega

/-- Line n: from a to b. -/
structure Ln (l : List UInt8) (n a b : Nat) : Prop where
  num : cnt l a + 1 = n
  ab : a ≤ b
  bl : b ≤ l.length
  front : a = 0 ∨ l.getD (a - 1) 0 = 10
  free : ∀ j, a ≤ j → j < b → l.getD j 0 ≠ 10
  stop : b = l.length ∨ l.getD b 0 = 10

theorem Ln.st {l : List UInt8} {n a b : Nat} (h : Ln l n a b) : St l a := ⟨Nat.le_trans h.ab h.bl, h.front⟩
theorem ln_uniq {l : List UInt8} {n a b a' b' : Nat} (h : Ln l n a b) (h' : Ln l n a' b') : a = a' ∧ b = b' := by
  have e : a = a' := st_inj h.st h'.st (by have := h.num; have := h'.num; omega)
  subst e
  refine ⟨rfl, ?_⟩
  rcases Nat.lt_trichotomy b b' with h1 | h1 | h1
  · rcases h.stop with h2 | h2
    · have := h'.bl; omega
    · exact absurd h2 (h'.free b h.ab h1)
  · exact h1
  · rcases h'.stop with h2 | h2
    · have := h.bl; omega
    · exact absurd h2 (h.free b' h'.ab h1)
theorem Ln.inside {l : List UInt8} {n a b k : Nat} (h : Ln l n a b) (h1 : a ≤ k) (h2 : k ≤ b) : cnt l k + 1 = n := by
  rw [cnt_gap h1 (Nat.le_trans h2 h.bl) fun j h3 h4 => h.free j h3 (by omega)]
  exact h.num
theorem Ln.le {l : List UInt8} {n a b : Nat} (h : Ln l n a b) : n ≤ l.count 10 + 1 := by
  have := cnt_mono l (Nat.le_trans h.ab h.bl)
  rw [cnt_all] at this
  have := h.num
  omega

/-- Where the line of place k begins, and where it has ended. -/
def front (l : List UInt8) : Nat → Nat
  | 0 => 0
  | k + 1 => if l.getD k 0 = 10 then k + 1 else front l k
def rear (l : List UInt8) (k : Nat) : Nat := k + (l.drop k).findIdx (· == 10)

theorem front_le (l : List UInt8) : ∀ k, front l k ≤ k
  | 0 => Nat.le_refl _
  | k + 1 => by
    unfold front
    split
    · exact Nat.le_refl _
    · have := front_le l k; omega
theorem front_at (l : List UInt8) : ∀ k, front l k = 0 ∨ l.getD (front l k - 1) 0 = 10
  | 0 => .inl rfl
  | k + 1 => by
    unfold front
    split
    · rename_i h; exact .inr h
    · exact front_at l k
theorem front_free (l : List UInt8) : ∀ k j, front l k ≤ j → j < k → l.getD j 0 ≠ 10
  | 0, j, _, h => absurd h (Nat.not_lt_zero _)
  | k + 1, j, h1, h2 => by
    unfold front at h1
    split at h1
    · omega
    · rename_i h
      by_cases e : j = k
      · subst e; exact h
      · exact front_free l k j h1 (by omega)
theorem rear_le {l : List UInt8} {k : Nat} (h : k ≤ l.length) : rear l k ≤ l.length := by
  have := List.findIdx_le_length (xs := l.drop k) (p := (· == 10))
  rw [List.length_drop] at this
  unfold rear
  omega
theorem rear_free {l : List UInt8} {k j : Nat} (h1 : k ≤ j) (h2 : j < rear l k) : l.getD j 0 ≠ 10 := by
  unfold rear at h2
  have h3 : j - k < (l.drop k).findIdx (· == 10) := by omega
  have h := List.not_of_lt_findIdx h3
  have hlt : j < l.length := by
    have := List.findIdx_le_length (xs := l.drop k) (p := (· == 10))
    rw [List.length_drop] at this
    omega
  rw [List.getElem_drop] at h
  have e : k + (j - k) = j := by omega
  simp only [e] at h
  intro e2
  rw [List.getD, List.getElem?_eq_getElem hlt] at e2
  simp only [Option.getD_some] at e2
  rw [e2] at h
  simp at h
theorem rear_stop {l : List UInt8} {k : Nat} (h : k ≤ l.length) : rear l k = l.length ∨ l.getD (rear l k) 0 = 10 := by
  by_cases e : (l.drop k).findIdx (· == 10) < (l.drop k).length
  · right
    have h1 := List.findIdx_getElem (w := e)
    rw [List.getElem_drop] at h1
    have hlt : k + (l.drop k).findIdx (· == 10) < l.length := by rw [List.length_drop] at e; omega
    unfold rear
    rw [List.getD, List.getElem?_eq_getElem hlt]
    simpa using h1
  · left
    have := List.findIdx_le_length (xs := l.drop k) (p := (· == 10))
    rw [List.length_drop] at this e
    unfold rear
    omega

theorem ln_at {l : List UInt8} {k : Nat} (h : k ≤ l.length) : Ln l (cnt l k + 1) (front l k) (rear l k) := by
  have h1 := front_le l k
  have h2 : k ≤ rear l k := by unfold rear; omega
  refine ⟨?_, by omega, rear_le h, front_at l k, fun j h3 h4 => ?_, rear_stop h⟩
  · rw [cnt_gap h1 h fun j h3 h4 => front_free l k j h3 h4]
  · by_cases e : j < k
    · exact front_free l k j h3 e
    · exact rear_free (by omega) h4
theorem le_rear (l : List UInt8) (k : Nat) : k ≤ rear l k := by unfold rear; omega

theorem cnt_onto (l : List UInt8) : ∀ b n, n ≤ cnt l b → ∃ k, k ≤ b ∧ cnt l k = n
  | 0, n, h => ⟨0, Nat.le_refl _, by rw [cnt_zero] at *; omega⟩
  | b + 1, n, h => by
    by_cases e : n ≤ cnt l b
    · obtain ⟨k, h1, h2⟩ := cnt_onto l b n e
      exact ⟨k, by omega, h2⟩
    · refine ⟨b + 1, Nat.le_refl _, ?_⟩
      by_cases hb : b < l.length
      · by_cases ht : l.getD b 0 = 10
        · rw [cnt_hit hb ht] at *; omega
        · rw [cnt_miss hb ht] at *; omega
      · rw [cnt_over (by omega)] at *; omega
theorem ln_exists {l : List UInt8} {n : Nat} (h1 : 1 ≤ n) (h2 : n ≤ l.count 10 + 1) : ∃ a b, Ln l n a b := by
  obtain ⟨k, h3, h4⟩ := cnt_onto l l.length (n - 1) (by rw [cnt_all]; omega)
  refine ⟨front l k, rear l k, ?_⟩
  have := ln_at h3
  have e : cnt l k + 1 = n := by omega
  rwa [e] at this
theorem ln_next {l : List UInt8} {n a b a' b' : Nat} (h : Ln l n a b) (h' : Ln l (n + 1) a' b') : b < l.length ∧ l.getD b 0 = 10 ∧ a' = b + 1 := by
  have e1 := h.num
  have e2 := h'.num
  have e3 := cnt_gap h.ab h.bl h.free
  have h3 := cnt_mono l (Nat.le_trans h'.ab h'.bl)
  have hb : b ≠ l.length := by
    intro e
    rw [e] at e3
    omega
  have hlt : b < l.length := by have := h.bl; omega
  have ht : l.getD b 0 = 10 := by rcases h.stop with h4 | h4; exact absurd h4 hb; exact h4
  refine ⟨hlt, ht, ?_⟩
  refine st_inj h'.st ⟨hlt, .inr (by simpa using ht)⟩ ?_
  rw [cnt_hit hlt ht]
  omega
theorem ln_last {l : List UInt8} {a b : Nat} (h : Ln l (l.count 10 + 1) a b) : b = l.length := by
  rcases h.stop with h1 | h1
  · exact h1
  · by_cases e : b = l.length
    · exact e
    · have hlt : b < l.length := by have := h.bl; omega
      have e1 := cnt_hit hlt h1
      have e2 := cnt_gap h.ab h.bl h.free
      have e3 := cnt_mono l (a := b + 1) (b := l.length) hlt
      rw [cnt_all] at e3
      have := h.num
      omega

/-- The starts and what the lines say, as far as k. -/
def stK (l : List UInt8) : Nat → List Nat
  | 0 => [0]
  | k + 1 => if l.getD k 0 = 10 then stK l k ++ [k + 1] else stK l k
def syK (l : List UInt8) : Nat → List (List UInt8)
  | 0 => [[]]
  | k + 1 => if l.getD k 0 = 10 then syK l k ++ [[]] else (syK l k).set (cnt l k) ((syK l k).getD (cnt l k) [] ++ [l.getD k 0])

theorem stK_hit {l : List UInt8} {k : Nat} (h : l.getD k 0 = 10) : stK l (k + 1) = stK l k ++ [k + 1] := by rw [stK, if_pos h]
theorem stK_miss {l : List UInt8} {k : Nat} (h : l.getD k 0 ≠ 10) : stK l (k + 1) = stK l k := by rw [stK, if_neg h]
theorem syK_hit {l : List UInt8} {k : Nat} (h : l.getD k 0 = 10) : syK l (k + 1) = syK l k ++ [[]] := by rw [syK, if_pos h]
theorem syK_miss {l : List UInt8} {k : Nat} (h : l.getD k 0 ≠ 10) : syK l (k + 1) = (syK l k).set (cnt l k) ((syK l k).getD (cnt l k) [] ++ [l.getD k 0]) := by rw [syK, if_neg h]
theorem stK_length (l : List UInt8) : ∀ k, k ≤ l.length → (stK l k).length = cnt l k + 1
  | 0, _ => by rw [cnt_zero]; rfl
  | k + 1, h => by
    by_cases e : l.getD k 0 = 10
    · rw [stK_hit e, cnt_hit (by omega) e, List.length_append, stK_length l k (by omega)]; rfl
    · rw [stK_miss e, cnt_miss (by omega) e, stK_length l k (by omega)]
theorem syK_length (l : List UInt8) : ∀ k, k ≤ l.length → (syK l k).length = cnt l k + 1
  | 0, _ => by rw [cnt_zero]; rfl
  | k + 1, h => by
    by_cases e : l.getD k 0 = 10
    · rw [syK_hit e, cnt_hit (by omega) e, List.length_append, syK_length l k (by omega)]; rfl
    · rw [syK_miss e, cnt_miss (by omega) e, List.length_set, syK_length l k (by omega)]
theorem getD_left {α : Type} (a b : List α) (d : α) (j : Nat) (h : j < a.length) : (a ++ b).getD j d = a.getD j d := by
  simp [List.getD, List.getElem?_append_left h]
theorem getD_last {α : Type} (a : List α) (x d : α) (j : Nat) (h : j = a.length) : (a ++ [x]).getD j d = x := by
  subst h; simp [List.getD]

theorem stK_ln {l : List UInt8} {n a b : Nat} (hL : Ln l n a b) : ∀ k, k ≤ l.length → a ≤ k → (stK l k).getD (n - 1) 0 = a
  | 0, _, h => by
    have : a = 0 := by omega
    subst this
    have := hL.num
    rw [cnt_zero] at this
    subst this
    rfl
  | k + 1, hk, h => by
    have hn := hL.num
    by_cases e : l.getD k 0 = 10
    · rw [stK_hit e]
      by_cases ha : a ≤ k
      · have := cnt_mono l ha
        rw [getD_left _ _ _ _ (by rw [stK_length l k (by omega)]; omega)]
        exact stK_ln hL k (by omega) ha
      · have ha : a = k + 1 := by omega
        subst ha
        rw [cnt_hit (by omega) e] at hn
        exact getD_last _ _ _ _ (by rw [stK_length l k (by omega)]; omega)
    · rw [stK_miss e]
      by_cases ha : a ≤ k
      · exact stK_ln hL k (by omega) ha
      · have ha : a = k + 1 := by omega
        subst ha
        rcases hL.front with h1 | h1
        · omega
        · exact absurd (by simpa using h1) e
theorem syK_ln {l : List UInt8} {n a b : Nat} (hL : Ln l n a b) : ∀ k, k ≤ l.length → (b < k → (syK l k).getD (n - 1) [] = (l.take b).drop a) ∧ (a ≤ k → k ≤ b → (syK l k).getD (n - 1) [] = (l.take k).drop a)
  | 0, _ => by
    refine ⟨fun h => by omega, fun h1 h2 => ?_⟩
    have : a = 0 := by omega
    subst this
    have := hL.num
    rw [cnt_zero] at this
    subst this
    rfl
  | k + 1, hk => by
    have hn := hL.num
    obtain ⟨i1, i2⟩ := syK_ln hL k (by omega)
    by_cases e : l.getD k 0 = 10
    · rw [syK_hit e]
      refine ⟨fun h => ?_, fun h1 h2 => ?_⟩
      · have := cnt_mono l (a := a) (b := k) (by have := hL.ab; omega)
        rw [getD_left _ _ _ _ (by rw [syK_length l k (by omega)]; omega)]
        by_cases hb : b < k
        · exact i1 hb
        · have hb : b = k := by omega
          have := i2 (by have := hL.ab; omega) (by omega)
          rw [this, hb]
      · have ha : a = k + 1 := by
          by_cases ha : a ≤ k
          · exact absurd e (hL.free k ha (by omega))
          · omega
        subst ha
        rw [cnt_hit (by omega) e] at hn
        rw [getD_last _ _ _ _ (by rw [syK_length l k (by omega)]; omega), List.drop_of_length_le (by rw [List.length_take]; omega)]
    · rw [syK_miss e]
      refine ⟨fun h => ?_, fun h1 h2 => ?_⟩
      · have hb : b ≠ k := by
          intro hb
          subst hb
          rcases hL.stop with h1 | h1
          · omega
          · exact e h1
        have hb : b < k := by omega
        have ht : l.getD b 0 = 10 := by rcases hL.stop with h1 | h1; (· omega); exact h1
        have e1 := cnt_hit (by omega) ht
        have e2 := cnt_gap hL.ab hL.bl hL.free
        have e3 := cnt_mono l (a := b + 1) (b := k) (by omega)
        rw [← i1 hb]
        have hne : cnt l k ≠ n - 1 := by omega
        simp [List.getD, hne]
      · have ha : a ≤ k := by
          by_cases ha : a ≤ k
          · exact ha
          · have ha : a = k + 1 := by omega
            subst ha
            rcases hL.front with h3 | h3
            · omega
            · exact absurd (by simpa using h3) e
        have e1 := hL.inside ha (by omega)
        have e2 : n - 1 = cnt l k := by omega
        rw [e2] at i2 ⊢
        rw [i2 ha (by omega), take_succ l k (by omega), List.drop_append_of_le_length (by rw [List.length_take]; omega)]
        simp [List.getD, syK_length l k (by omega)]
theorem syK_line {l : List UInt8} {n a b : Nat} (hL : Ln l n a b) : (syK l l.length).getD (n - 1) [] = (l.take b).drop a := by
  obtain ⟨h1, h2⟩ := syK_ln hL l.length (Nat.le_refl _)
  by_cases h : b < l.length
  · exact h1 h
  · have : b = l.length := by have := hL.bl; omega
    subst this
    exact h2 hL.ab (Nat.le_refl _)
theorem stK_line {l : List UInt8} {n a b : Nat} (hL : Ln l n a b) : (stK l l.length).getD (n - 1) 0 = a := stK_ln hL _ (Nat.le_refl _) (Nat.le_trans hL.ab hL.bl)
/-- Which lines begin at k or ahead of it. -/
theorem stK_le {l : List UInt8} {k j : Nat} (hk : k ≤ l.length) (hj : j ≤ l.count 10) : (stK l l.length).getD j 0 ≤ k ↔ j ≤ cnt l k := by
  obtain ⟨a, b, hL⟩ := ln_exists (l := l) (n := j + 1) (by omega) (by omega)
  have e := stK_line hL
  simp only [Nat.add_sub_cancel] at e
  rw [e]
  have hn := hL.num
  constructor
  · intro h
    have := cnt_mono l h
    omega
  · intro h
    apply Nat.le_of_not_lt
    intro h2
    have := st_lt hL.st h2
    omega

/-- What the library answers. -/
theorem index_of (l : List UInt8) : Lib.indexByte l 10 = if l.findIdx (· == 10) < l.length then ((l.findIdx (· == 10) : Nat) : Int) else -1 := by
  induction l with
  | nil => rfl
  | cons x l ih =>
    unfold Lib.indexByte
    rw [List.findIdx_cons, ih]
    by_cases hx : (x == 10) = true
    · simp [hx]
    · simp only [hx, Bool.false_eq_true, if_false, cond_false, List.length_cons]
      generalize l.findIdx (fun x => x == 10) = f
      by_cases hl : f < l.length
      · have h2 : f + 1 < l.length + 1 := by omega
        have h3 : ((f : Int) == -1) = false := beq_false_of_ne (by omega)
        simp only [if_pos hl, if_pos h2, h3, Bool.false_eq_true, if_false]
        omega
      · have h2 : ¬ f + 1 < l.length + 1 := by omega
        simp only [if_neg hl, if_neg h2]
        rfl
theorem index_hit {l : List UInt8} {k : Nat} (hk : k ≤ l.length) (h : rear l k < l.length) : Lib.indexByte (l.drop k) 10 = ((rear l k - k : Nat) : Int) := by
  have e : (l.drop k).findIdx (· == 10) = rear l k - k := by unfold rear; omega
  rw [index_of, e, if_pos (by have := le_rear l k; rw [List.length_drop]; omega)]
theorem index_miss {l : List UInt8} {k : Nat} (hk : k ≤ l.length) (h : rear l k = l.length) : Lib.indexByte (l.drop k) 10 = -1 := by
  have e : (l.drop k).findIdx (· == 10) = rear l k - k := by unfold rear; omega
  rw [index_of, e, if_neg (by rw [List.length_drop]; omega)]
theorem getBang (s : ByteArray) (k : Nat) (h : k < s.size) : s.data[k]! = s.data.toList.getD k 0 := by
  have h' : k < s.data.size := h
  rw [getElem!_pos s.data k h', List.getD, List.getElem?_eq_getElem (by rw [Array.length_toList]; exact h')]
  simp
theorem last_of (s : ByteArray) : ∀ k, k ≤ s.size → Lib.lastIdx s 10 k = (front s.data.toList k : Int) - 1
  | 0, _ => rfl
  | k + 1, h => by
    have e := getBang s k (by omega)
    by_cases ht : s.data.toList.getD k 0 = 10
    · rw [Lib.lastIdx_hit s 10 k (by rw [e, ht]; rfl)]
      simp only [front, if_pos ht]
      omega
    · rw [Lib.lastIdx_miss s 10 k (by
        rw [e]
        intro e2
        apply ht
        apply UInt8.toNat_inj.1
        show _ = 10
        omega), last_of s k (by omega)]
      simp only [front, if_neg ht]
theorem front_take (l : List UInt8) (m : Nat) : ∀ k, k ≤ m → front (l.take m) k = front l k
  | 0, _ => rfl
  | k + 1, h => by
    have e : (l.take m).getD k 0 = l.getD k 0 := by simp [List.getD, show k < m by omega]
    simp only [front, e, front_take l m k (by omega)]
/-- Lines with a byte 10 between. -/
theorem join_snoc (xs : List (List UInt8)) (y : List UInt8) (h : xs ≠ []) : Lib.join (xs ++ [y]) [10] = Lib.join xs [10] ++ 10 :: y := by
  cases xs with
  | nil => exact absurd rfl h
  | cons x r =>
    rw [List.cons_append, Lib.join_cons, Lib.join_cons]
    unfold Lib.joinTail
    simp
theorem no_ten {l : List UInt8} {n a b : Nat} (hL : Ln l n a b) : Lib.indexByte ((l.take b).drop a) 10 = -1 := by
  rw [index_of, if_neg]
  intro h
  have h1 := List.findIdx_getElem (w := h)
  have hlen : ((l.take b).drop a).length = b - a := by rw [List.length_drop, List.length_take]; have := hL.bl; omega
  rw [hlen] at h
  rw [List.getElem_drop, List.getElem_take] at h1
  have hlt : a + List.findIdx (fun x => x == 10) ((l.take b).drop a) < l.length := by have := hL.bl; omega
  apply hL.free (a + List.findIdx (fun x => x == 10) ((l.take b).drop a)) (by omega) (by omega)
  rw [List.getD, List.getElem?_eq_getElem hlt]
  simpa using h1
end Go.Proofs.Ytekfnjihgahonaa.plain
