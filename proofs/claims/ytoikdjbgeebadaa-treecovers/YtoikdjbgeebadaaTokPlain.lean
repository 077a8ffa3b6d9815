/- Tokens of a text as lists of bytes: plain mathematics. -/
set_option linter.unusedVariables false
namespace Go.Proofs.Ytoikdjbgeebadaa.toks

/-- Blanks, the bytes of words, marks. -/
def isB (c : UInt8) : Bool := c == 32 || c == 9 || c == 13
def isW (c : UInt8) : Bool := decide ((97 ≤ c.toNat ∧ c.toNat ≤ 122) ∨ (65 ≤ c.toNat ∧ c.toNat ≤ 90) ∨ (48 ≤ c.toNat ∧ c.toNat ≤ 57) ∨ c.toNat = 95 ∨ c.toNat = 45 ∨ c.toNat = 43 ∨ c.toNat = 46)
def isM (c : UInt8) : Bool := c == 123 || c == 125 || c == 91 || c == 93 || c == 58 || c == 61 || c == 44
def noL (c : UInt8) : Bool := c != 10
/-- How many bytes at the front are of a kind. -/
def runL (p : UInt8 → Bool) : List UInt8 → Nat
  | [] => 0
  | c :: l => if p c = true then runL p l + 1 else 0
/-- Where a note ends, behind its first two bytes; 0: nowhere. -/
def closeN : List UInt8 → Nat
  | [] => 0
  | [_] => 0
  | a :: b :: l => if a = 42 ∧ b = 47 then 2 else if closeN (b :: l) = 0 then 0 else closeN (b :: l) + 1
/-- Where a text ends, behind its first quote; 0: nowhere. -/
def shutN : List UInt8 → Nat
  | [] => 0
  | [c] => if c = 34 then 1 else 0
  | c :: d :: l => if c = 34 then 1 else if c = 10 then 0 else if c = 92 then (if d = 10 then 0 else if shutN l = 0 then 0 else shutN l + 2) else if shutN (d :: l) = 0 then 0 else shutN (d :: l) + 1
/-- The token at the front: its kind, its bytes. -/
def tokK (l : List UInt8) : Nat × Nat :=
  match l with
  | [] => (0, 0)
  | c :: t =>
    if isB c = true then (1, runL isB (c :: t))
    else if c = 10 then (2, 1)
    else if c = 35 then (3, runL noL (c :: t))
    else if isW c = true then (4, runL isW (c :: t))
    else if isM c = true then (6, 1)
    else if c = 34 ∧ shutN t ≠ 0 then (5, shutN t + 1)
    else if c = 47 ∧ t.head? = some 42 ∧ closeN (t.drop 1) ≠ 0 then (3, closeN (t.drop 1) + 2)
    else (7, 1)
/-- A token: its kind, where it begins, where it ends. -/
structure Tk where
  kind : Nat
  fro : Nat
  til : Nat
def cutF : Nat → Nat → List UInt8 → List Tk
  | 0, _, _ => []
  | f + 1, p, l => if l = [] then [] else ⟨(tokK l).1, p, p + (tokK l).2⟩ :: cutF f (p + (tokK l).2) (l.drop (tokK l).2)
def toksL (l : List UInt8) : List Tk := cutF l.length 0 l

theorem runL_le (p : UInt8 → Bool) : ∀ l : List UInt8, runL p l ≤ l.length
  | [] => Nat.le_refl _
  | c :: l => by
    have := runL_le p l
    unfold runL
    split
    · simp only [List.length_cons]; omega
    · exact Nat.zero_le _
theorem runL_take (p : UInt8 → Bool) : ∀ (l : List UInt8) (m : Nat), runL p l ≤ m → runL p (l.take m) = runL p l
  | [], m, _ => by simp
  | c :: l, 0, h => by
    unfold runL at h ⊢
    split at h
    · omega
    · rename_i hc; simp [hc]
  | c :: l, m + 1, h => by
    rw [List.take_succ_cons]
    by_cases hc : p c = true
    · have e : ∀ x, runL p (c :: x) = runL p x + 1 := fun x => by rw [runL, if_pos hc]
      rw [e] at h
      rw [e, e, runL_take p l m (by omega)]
    · have e : ∀ x, runL p (c :: x) = 0 := fun x => by rw [runL, if_neg hc]
      rw [e, e]
theorem runL_stop (p : UInt8 → Bool) : ∀ (l : List UInt8) (c : UInt8) (r : List UInt8), l.drop (runL p l) = c :: r → p c = false
  | [], c, r, h => by simp at h
  | d :: l, c, r, h => by
    by_cases hc : p d = true
    · rw [runL, if_pos hc, List.drop_succ_cons] at h
      exact runL_stop p l c r h
    · rw [runL, if_neg hc, List.drop_zero] at h
      injection h with h1 _
      rw [← h1]
      simpa using hc
theorem closeN_le : ∀ l : List UInt8, closeN l ≤ l.length
  | [] => Nat.le_refl _
  | [_] => Nat.zero_le _
  | a :: b :: l => by
    have := closeN_le (b :: l)
    unfold closeN
    simp only [List.length_cons] at this ⊢
    split
    · omega
    · split
      · omega
      · omega
theorem closeN_take : ∀ (l : List UInt8) (m : Nat), (closeN l ≤ m → closeN l ≠ 0 → closeN (l.take m) = closeN l) ∧ (closeN l = 0 → closeN (l.take m) = 0)
  | [], m => by simp [closeN]
  | [a], m => by
    have : closeN ([a].take m) = 0 := by cases m <;> simp [closeN]
    simp [closeN, this]
  | a :: b :: l, 0 => by
    refine ⟨fun h h0 => ?_, fun _ => by simp [closeN]⟩
    omega
  | a :: b :: l, 1 => by
    refine ⟨fun h h0 => ?_, fun _ => by simp [closeN]⟩
    unfold closeN at h h0
    split at h
    · omega
    · rename_i hc
      rw [if_neg hc] at h0
      split at h
      · rename_i h1; rw [if_pos h1] at h0; exact absurd rfl h0
      · omega
  | a :: b :: l, m + 2 => by
    have ih := closeN_take (b :: l) (m + 1)
    rw [List.take_succ_cons] at ih
    rw [List.take_succ_cons, List.take_succ_cons]
    by_cases hc : a = 42 ∧ b = 47
    · have e : ∀ x, closeN (a :: b :: x) = 2 := fun x => by rw [closeN, if_pos hc]
      rw [e, e]
      exact ⟨fun _ _ => rfl, fun h => by omega⟩
    · have e : ∀ x, closeN (a :: b :: x) = if closeN (b :: x) = 0 then 0 else closeN (b :: x) + 1 := fun x => by rw [closeN, if_neg hc]
      rw [e, e]
      by_cases h0 : closeN (b :: l) = 0
      · rw [if_pos h0, if_pos (ih.2 h0)]
        exact ⟨fun _ h => absurd rfl h, fun _ => rfl⟩
      · rw [if_neg h0]
        refine ⟨fun h _ => ?_, fun h => by omega⟩
        rw [ih.1 (by omega) h0, if_neg h0]
theorem shutN_le : ∀ l : List UInt8, shutN l ≤ l.length
  | [] => Nat.le_refl _
  | [c] => by unfold shutN; split <;> simp
  | c :: d :: l => by
    have h1 := shutN_le l
    have h2 := shutN_le (d :: l)
    unfold shutN
    simp only [List.length_cons] at h2 ⊢
    split
    · omega
    · split
      · omega
      · split
        · split
          · omega
          · split <;> omega
        · split <;> omega
theorem shutN_take : ∀ (l : List UInt8) (m : Nat), (shutN l ≤ m → shutN l ≠ 0 → shutN (l.take m) = shutN l) ∧ (shutN l = 0 → shutN (l.take m) = 0)
  | [], m => by simp [shutN]
  | [c], 0 => by
    refine ⟨fun h h0 => by omega, fun _ => rfl⟩
  | [c], m + 1 => by simp
  | c :: d :: l, 0 => by
    refine ⟨fun h h0 => by omega, fun _ => rfl⟩
  | c :: d :: l, 1 => by
    rw [show (c :: d :: l).take 1 = [c] from rfl]
    have e1 : shutN [c] = if c = 34 then 1 else 0 := rfl
    by_cases c34 : c = 34
    · have e : shutN (c :: d :: l) = 1 := by rw [shutN, if_pos c34]
      rw [e, e1, if_pos c34]
      exact ⟨fun _ _ => rfl, fun h => by omega⟩
    · rw [e1, if_neg c34]
      refine ⟨fun h h0 => ?_, fun _ => rfl⟩
      exfalso
      rw [shutN, if_neg c34] at h h0
      split at h
      · rename_i h1; rw [if_pos h1] at h0; exact h0 rfl
      · rename_i h1
        rw [if_neg h1] at h0
        split at h
        · rename_i h2
          rw [if_pos h2] at h0
          split at h
          · rename_i h3; rw [if_pos h3] at h0; exact h0 rfl
          · rename_i h3
            rw [if_neg h3] at h0
            split at h
            · rename_i h4; rw [if_pos h4] at h0; exact h0 rfl
            · omega
        · rename_i h2
          rw [if_neg h2] at h0
          split at h
          · rename_i h4; rw [if_pos h4] at h0; exact h0 rfl
          · omega
  | c :: d :: l, m + 2 => by
    have ih1 := shutN_take l m
    have ih2 := shutN_take (d :: l) (m + 1)
    rw [List.take_succ_cons] at ih2
    rw [List.take_succ_cons, List.take_succ_cons]
    by_cases c34 : c = 34
    · have e : ∀ x, shutN (c :: d :: x) = 1 := fun x => by rw [shutN, if_pos c34]
      rw [e, e]
      exact ⟨fun _ _ => rfl, fun h => by omega⟩
    · by_cases c10 : c = 10
      · have e : ∀ x, shutN (c :: d :: x) = 0 := fun x => by rw [shutN, if_neg c34, if_pos c10]
        rw [e, e]
        exact ⟨fun _ _ => rfl, fun _ => rfl⟩
      · by_cases c92 : c = 92
        · by_cases d10 : d = 10
          · have e : ∀ x, shutN (c :: d :: x) = 0 := fun x => by rw [shutN, if_neg c34, if_neg c10, if_pos c92, if_pos d10]
            rw [e, e]
            exact ⟨fun _ _ => rfl, fun _ => rfl⟩
          · have e : ∀ x, shutN (c :: d :: x) = if shutN x = 0 then 0 else shutN x + 2 := fun x => by rw [shutN, if_neg c34, if_neg c10, if_pos c92, if_neg d10]
            rw [e, e]
            by_cases h0 : shutN l = 0
            · rw [if_pos h0, if_pos (ih1.2 h0)]
              exact ⟨fun _ _ => rfl, fun _ => rfl⟩
            · rw [if_neg h0]
              refine ⟨fun h _ => ?_, fun h => by omega⟩
              rw [ih1.1 (by omega) h0, if_neg h0]
        · have e : ∀ x, shutN (c :: d :: x) = if shutN (d :: x) = 0 then 0 else shutN (d :: x) + 1 := fun x => by rw [shutN, if_neg c34, if_neg c10, if_neg c92]
          rw [e, e]
          by_cases h0 : shutN (d :: l) = 0
          · rw [if_pos h0, if_pos (ih2.2 h0)]
            exact ⟨fun _ _ => rfl, fun _ => rfl⟩
          · rw [if_neg h0]
            refine ⟨fun h _ => ?_, fun h => by omega⟩
            rw [ih2.1 (by omega) h0, if_neg h0]
theorem runL_one {p : UInt8 → Bool} {c : UInt8} {t : List UInt8} (h : p c = true) : runL p (c :: t) = runL p t + 1 := by rw [runL, if_pos h]
/-- A token has at least a byte, and no more than there are. -/
theorem tokK_size {l : List UInt8} (h : l ≠ []) : 1 ≤ (tokK l).2 ∧ (tokK l).2 ≤ l.length ∧ 1 ≤ (tokK l).1 ∧ (tokK l).1 ≤ 7 := by
  match l, h with
  | c :: t, _ =>
    have r1 := runL_le isB (c :: t)
    have r2 := runL_le noL (c :: t)
    have r3 := runL_le isW (c :: t)
    have s1 := shutN_le t
    have s2 := closeN_le (t.drop 1)
    rw [List.length_drop] at s2
    simp only [List.length_cons] at r1 r2 r3 ⊢
    unfold tokK
    simp only
    split
    · rename_i hc; rw [runL_one hc] at r1 ⊢; simp only; omega
    · split
      · simp only; omega
      · split
        · rename_i hc
          have : noL c = true := by rw [hc]; rfl
          rw [runL_one this] at r2 ⊢; simp only; omega
        · split
          · rename_i hc; rw [runL_one hc] at r3 ⊢; simp only; omega
          · split
            · simp only; omega
            · split
              · simp only; omega
              · split
                · rename_i hc
                  have : t ≠ [] := fun e => by rw [e] at hc; simp at hc
                  have := List.length_pos_iff.2 this
                  simp only; omega
                · simp only; omega
/-- What is cut off behind a token changes nothing in it. -/
theorem tokK_take {l : List UInt8} {m : Nat} (hm : (tokK l).2 ≤ m) (h1 : 1 ≤ m) : tokK (l.take m) = tokK l := by
  match l with
  | [] => simp
  | c :: t =>
    obtain ⟨k, rfl⟩ : ∃ k, m = k + 1 := ⟨m - 1, by omega⟩
    have ec : (c :: t).take (k + 1) = c :: t.take k := List.take_succ_cons
    rw [ec]
    unfold tokK at hm ⊢
    simp only at hm ⊢
    by_cases a1 : isB c = true
    · rw [if_pos a1] at hm
      rw [if_pos a1, if_pos a1, ← ec, runL_take isB _ _ hm]
    · rw [if_neg a1] at hm
      rw [if_neg a1, if_neg a1]
      by_cases a2 : c = 10
      · rw [if_pos a2, if_pos a2]
      · rw [if_neg a2] at hm
        rw [if_neg a2, if_neg a2]
        by_cases a3 : c = 35
        · rw [if_pos a3] at hm
          rw [if_pos a3, if_pos a3, ← ec, runL_take noL _ _ hm]
        · rw [if_neg a3] at hm
          rw [if_neg a3, if_neg a3]
          by_cases a4 : isW c = true
          · rw [if_pos a4] at hm
            rw [if_pos a4, if_pos a4, ← ec, runL_take isW _ _ hm]
          · rw [if_neg a4] at hm
            rw [if_neg a4, if_neg a4]
            by_cases a5 : isM c = true
            · rw [if_pos a5, if_pos a5]
            · rw [if_neg a5] at hm
              rw [if_neg a5, if_neg a5]
              have st := shutN_take t k
              by_cases a6 : c = 34 ∧ shutN t ≠ 0
              · rw [if_pos a6] at hm
                simp only at hm
                have e := st.1 (by omega) a6.2
                rw [if_pos a6, e, if_pos a6]
              · rw [if_neg a6] at hm
                have a6' : ¬ (c = 34 ∧ shutN (t.take k) ≠ 0) := fun h => a6 ⟨h.1, fun e => h.2 (st.2 e)⟩
                rw [if_neg a6, if_neg a6']
                by_cases a7 : c = 47 ∧ t.head? = some 42 ∧ closeN (t.drop 1) ≠ 0
                · rw [if_pos a7] at hm
                  simp only at hm
                  obtain ⟨j, rfl⟩ : ∃ j, k = j + 1 := ⟨k - 1, by omega⟩
                  have ct := closeN_take (t.drop 1) j
                  have e := ct.1 (by omega) a7.2.2
                  have ed : (t.take (j + 1)).drop 1 = (t.drop 1).take j := by rw [List.drop_take]; rfl
                  have eh : (t.take (j + 1)).head? = t.head? := by cases t <;> rfl
                  rw [if_pos a7, ed, eh, e, if_pos a7]
                · have a7' : ¬ (c = 47 ∧ (t.take k).head? = some 42 ∧ closeN ((t.take k).drop 1) ≠ 0) := fun h => a7 (by
                    obtain ⟨q1, q2, q3⟩ := h
                    cases k with
                    | zero => simp at q2
                    | succ j =>
                      have ed : (t.take (j + 1)).drop 1 = (t.drop 1).take j := by rw [List.drop_take]; rfl
                      have eh : (t.take (j + 1)).head? = t.head? := by cases t <;> rfl
                      rw [eh] at q2
                      rw [ed] at q3
                      exact ⟨q1, q2, fun e => q3 ((closeN_take (t.drop 1) j).2 e)⟩)
                  rw [if_neg a7, if_neg a7']
/-- Behind blanks stands no blank, behind a word no word. -/
theorem tokK_apart {l : List UInt8} (h : l.drop (tokK l).2 ≠ []) (hk : (tokK (l.drop (tokK l).2)).1 = (tokK l).1) : (tokK l).1 ≠ 1 ∧ (tokK l).1 ≠ 4 := by
  match l with
  | [] => simp at h
  | c :: t =>
    have kindOf : ∀ (d : UInt8) (r : List UInt8), ((tokK (d :: r)).1 = 1 → isB d = true) ∧ ((tokK (d :: r)).1 = 4 → isW d = true) := fun d r => by
      unfold tokK
      simp only
      split
      · rename_i q; exact ⟨fun _ => q, fun h => by simp at h⟩
      · split
        · simp
        · split
          · simp
          · split
            · rename_i q; exact ⟨fun h => by simp at h, fun _ => q⟩
            · split
              · simp
              · split
                · simp
                · split <;> simp
    obtain ⟨d, r, hd⟩ : ∃ d r, (c :: t).drop (tokK (c :: t)).2 = d :: r := by
      cases hx : (c :: t).drop (tokK (c :: t)).2 with
      | nil => exact absurd hx h
      | cons d r => exact ⟨d, r, rfl⟩
    rw [hd] at hk
    refine ⟨fun e => ?_, fun e => ?_⟩
    · have hc := (kindOf c t).1 e
      have e2 : (tokK (c :: t)).2 = runL isB (c :: t) := by unfold tokK; simp only; rw [if_pos hc]
      rw [e2] at hd
      have := runL_stop isB _ _ _ hd
      rw [(kindOf d r).1 (by rw [hk, e])] at this
      cases this
    · have hc := (kindOf c t).2 e
      have hb : isB c = false := by
        cases hb : isB c with
        | false => rfl
        | true =>
          exfalso
          have : (tokK (c :: t)).1 = 1 := by unfold tokK; simp only; rw [if_pos hb]
          omega
      have h10 : c ≠ 10 := fun q => by rw [q] at hc; revert hc; decide
      have h35 : c ≠ 35 := fun q => by rw [q] at hc; revert hc; decide
      have e2 : (tokK (c :: t)).2 = runL isW (c :: t) := by
        unfold tokK
        simp only
        rw [if_neg (by rw [hb]; decide), if_neg h10, if_neg h35, if_pos hc]
      rw [e2] at hd
      have := runL_stop isW _ _ _ hd
      rw [(kindOf d r).2 (by rw [hk, e])] at this
      cases this
end Go.Proofs.Ytoikdjbgeebadaa.toks
