/- Numerals of 64 bits as lists of bytes: plain mathematics. -/
import Derived.Lib.ItoaNum
set_option linter.unusedVariables false
namespace Go.Proofs.YtjlbbmpefjkamaaDoor.bigs

/-- What a byte tells as a digit; 16 and no more, if it is none. -/
def hexv (c : UInt8) : Nat := if 48 ≤ c.toNat ∧ c.toNat ≤ 57 then c.toNat - 48 else if 97 ≤ c.toNat ∧ c.toNat ≤ 102 then c.toNat - 97 + 10 else if 65 ≤ c.toNat ∧ c.toNat ≤ 70 then c.toNat - 65 + 10 else 16
theorem hexv_le (c : UInt8) : hexv c ≤ 16 := by
  unfold hexv
  split
  · omega
  · split
    · omega
    · split <;> omega
theorem hexv_low : hexv 95 = 16 := by decide
/-- Are these digits, one stroke between two at most? The flag: a digit stands ahead. -/
def formG (b : Nat) : Bool → List UInt8 → Bool
  | q, [] => q
  | q, c :: r => if c = 95 ∧ q = true then formG b false r else if b ≤ hexv c then false else formG b true r
/-- The number of digits, strokes left out. -/
def valG (b : Nat) : Nat → List UInt8 → Nat
  | n, [] => n
  | n, c :: r => if c = 95 then valG b n r else valG b (n * b + hexv c) r
def formedL (b : Nat) (l : List UInt8) : Bool := !(b == 10 && decide (1 < l.length) && l.headD 0 == 48) && formG b false l
def signCut : List UInt8 → Bool × List UInt8
  | [] => (false, [])
  | c :: r => if c = 45 then (true, r) else (false, c :: r)
def baseCut : List UInt8 → Nat × List UInt8
  | [] => (10, [])
  | [c] => (10, [c])
  | c :: d :: r => if c = 48 then (if d = 98 then (2, r) else if d = 111 then (8, r) else if d = 120 then (16, r) else (10, c :: d :: r)) else (10, c :: d :: r)
def limitOf (below : Bool) : Nat := if below then 9223372036854775808 else 9223372036854775807
/-- What stands behind the sign. -/
def bodyRes (below : Bool) (b : Nat) (l : List UInt8) : Int × Int :=
  if formedL b l = false then (0, 4) else if limitOf below < valG b 0 l then (0, 7) else (if below then -((valG b 0 l : Nat) : Int) else ((valG b 0 l : Nat) : Int), 0)
def numRes (l : List UInt8) : Int × Int :=
  if 80 < l.length then (0, 2) else bodyRes (signCut l).1 (baseCut (signCut l).2).1 (baseCut (signCut l).2).2

theorem valG_ge {b : Nat} (hb : 0 < b) : ∀ (l : List UInt8) (n : Nat), n ≤ valG b n l := by
  intro l
  induction l with
  | nil => intro n; exact Nat.le_refl _
  | cons c r ih =>
    intro n
    unfold valG
    split
    · exact ih n
    · refine Nat.le_trans ?_ (ih _)
      have := Nat.le_mul_of_pos_right n hb
      omega
theorem valG_mono {b : Nat} : ∀ (l : List UInt8) (n m : Nat), n ≤ m → valG b n l ≤ valG b m l := by
  intro l
  induction l with
  | nil => intro n m h; exact h
  | cons c r ih =>
    intro n m h
    unfold valG
    split
    · exact ih _ _ h
    · exact ih _ _ (Nat.add_le_add_right (Nat.mul_le_mul_right b h) _)
theorem valG_append (b : Nat) : ∀ (l m : List UInt8) (n : Nat), valG b n (l ++ m) = valG b (valG b n l) m := by
  intro l
  induction l with
  | nil => intro m n; rfl
  | cons c r ih =>
    intro m n
    rw [List.cons_append, valG, valG]
    split
    · exact ih m n
    · exact ih m _
theorem form_append (b : Nat) : ∀ (l : List UInt8) (q : Bool) (c : UInt8) (m : List UInt8), c ≠ 95 → hexv c < b → formG b q (l ++ c :: m) = (formG b q (l ++ [c]) && formG b true m) := by
  intro l
  induction l with
  | nil =>
    intro q c m hc hd
    simp only [List.nil_append]
    have e : ∀ x, formG b q (c :: x) = formG b true x := fun x => by rw [formG, if_neg (fun h => hc h.1), if_neg (by omega)]
    rw [e, e]
    simp [formG]
  | cons a r ih =>
    intro q c m hc hd
    rw [List.cons_append, List.cons_append, formG, formG]
    split
    · exact ih false c m hc hd
    · split
      · simp
      · exact ih true c m hc hd
theorem form_under (b : Nat) (hb : b ≤ 16) (l m : List UInt8) (q : Bool) (c d : UInt8) (hc : c ≠ 95) (hd : d ≠ 95) (h1 : hexv c < b) (h2 : hexv d < b) : formG b q (l ++ c :: 95 :: d :: m) = formG b q (l ++ c :: d :: m) := by
  rw [form_append b l q c (95 :: d :: m) hc h1, form_append b l q c (d :: m) hc h1]
  congr 1
  have e : ∀ k, formG b k (d :: m) = formG b true m := fun k => by rw [formG, if_neg (fun h => hd h.1), if_neg (by omega)]
  rw [formG, if_pos ⟨rfl, rfl⟩, e, e]
theorem valG_under (b : Nat) (l m : List UInt8) (n : Nat) (c d : UInt8) : valG b n (l ++ c :: 95 :: d :: m) = valG b n (l ++ c :: d :: m) := by
  rw [show l ++ c :: 95 :: d :: m = (l ++ [c]) ++ 95 :: d :: m by simp, show l ++ c :: d :: m = (l ++ [c]) ++ d :: m by simp, valG_append b (l ++ [c]) (95 :: d :: m), valG_append b (l ++ [c]) (d :: m)]
  generalize valG b n (l ++ [c]) = k
  rw [valG, if_pos rfl]
/-- A byte of a good numeral that is no stroke is a digit to its base. -/
theorem form_digit (b : Nat) : ∀ (l : List UInt8) (q : Bool), formG b q l = true → ∀ c ∈ l, c ≠ 95 → hexv c < b := by
  intro l
  induction l with
  | nil => intro q _ c hc; simp at hc
  | cons a r ih =>
    intro q h c hc hn
    rw [formG] at h
    rcases List.mem_cons.1 hc with rfl | hm
    · rw [if_neg (by simp [hn])] at h
      split at h
      · cases h
      · omega
    · split at h
      · exact ih false h c hm hn
      · split at h
        · cases h
        · exact ih true h c hm hn

/-- The sign of a digit. -/
def hexc (d : Nat) : UInt8 := UInt8.ofNat (if d < 10 then 48 + d else 87 + d)
theorem hexc_val {d : Nat} (h : d < 16) : hexv (hexc d) = d ∧ hexc d ≠ 95 := by
  have : ∀ k : Fin 16, hexv (hexc k) = k ∧ hexc k ≠ 95 := by decide
  exact this ⟨d, h⟩
theorem hexc_zero {d : Nat} (h : d < 16) : hexc d = 48 ↔ d = 0 := by
  have : ∀ k : Fin 16, hexc k = 48 ↔ k.1 = 0 := by decide
  exact this ⟨d, h⟩
theorem hexc_sign {d : Nat} (h : d < 16) : hexc d ≠ 45 := by
  have : ∀ k : Fin 16, hexc k ≠ 45 := by decide
  exact this ⟨d, h⟩
/-- The digits of a number to a base, the greatest first. -/
def digF (b : Nat) : Nat → Nat → List UInt8
  | 0, n => [hexc n]
  | f + 1, n => if b < 2 ∨ n < b then [hexc n] else digF b f (n / b) ++ [hexc (n % b)]
def digB (b n : Nat) : List UInt8 := digF b n n
theorem digF_low {b n : Nat} (h : n < b) (f : Nat) : digF b f n = [hexc n] := by
  cases f with
  | zero => rfl
  | succ f => rw [digF, if_pos (.inr h)]
theorem digF_same {b : Nat} (hb : 2 ≤ b) (n : Nat) : ∀ (f g : Nat), n ≤ f → n ≤ g → digF b f n = digF b g n := by
  induction n using Nat.strongRecOn with
  | ind n ih =>
    intro f g hf hg
    by_cases h : n < b
    · rw [digF_low h, digF_low h]
    · obtain ⟨f', rfl⟩ : ∃ f', f = f' + 1 := ⟨f - 1, by omega⟩
      obtain ⟨g', rfl⟩ : ∃ g', g = g' + 1 := ⟨g - 1, by omega⟩
      have hd : n / b < n := Nat.div_lt_self (by omega) (by omega)
      rw [digF, digF, if_neg (by omega), if_neg (by omega), ih (n / b) hd f' g' (by omega) (by omega)]
theorem digB_low {b n : Nat} (h : n < b) : digB b n = [hexc n] := digF_low h n
theorem digB_high {b n : Nat} (hb : 2 ≤ b) (h : b ≤ n) : digB b n = digB b (n / b) ++ [hexc (n % b)] := by
  obtain ⟨m, rfl⟩ : ∃ m, n = m + 1 := ⟨n - 1, by omega⟩
  have hd : (m + 1) / b < m + 1 := Nat.div_lt_self (by omega) (by omega)
  unfold digB
  rw [digF, if_neg (by omega), digF_same hb ((m + 1) / b) m ((m + 1) / b) (by omega) (Nat.le_refl _)]
theorem digB_ten (n : Nat) : digB 10 n = Lib.decDigits n := by
  induction n using Nat.strongRecOn with
  | ind n ih =>
    by_cases h : n < 10
    · rw [digB_low h, Lib.decDigits, dif_pos h, hexc, if_pos h]
    · rw [digB_high (by decide) (by omega), Lib.decDigits, dif_neg h, ih _ (by omega), hexc, if_pos (by omega)]
theorem digB_val {b : Nat} (h2 : 2 ≤ b) (h16 : b ≤ 16) (n : Nat) : valG b 0 (digB b n) = n := by
  induction n using Nat.strongRecOn with
  | ind n ih =>
    by_cases h : n < b
    · obtain ⟨e, ne⟩ := hexc_val (d := n) (by omega)
      rw [digB_low h, valG, if_neg ne, e, valG]
      omega
    · have hm : n % b < b := Nat.mod_lt _ (by omega)
      obtain ⟨e, ne⟩ := hexc_val (d := n % b) (by omega)
      rw [digB_high h2 (by omega), valG_append, ih _ (Nat.div_lt_self (by omega) (by omega)), valG, if_neg ne, e, valG]
      rw [Nat.mul_comm]
      exact Nat.div_add_mod n b
theorem digB_form {b : Nat} (h2 : 2 ≤ b) (h16 : b ≤ 16) (n : Nat) : ∀ q, formG b q (digB b n) = true := by
  induction n using Nat.strongRecOn with
  | ind n ih =>
    intro q
    by_cases h : n < b
    · obtain ⟨e, ne⟩ := hexc_val (d := n) (by omega)
      rw [digB_low h, formG, if_neg (by simp [ne]), e, if_neg (by omega), formG]
    · have hm : n % b < b := Nat.mod_lt _ (by omega)
      obtain ⟨e, ne⟩ := hexc_val (d := n % b) (by omega)
      have i := ih (n / b) (Nat.div_lt_self (by omega) (by omega)) q
      rw [digB_high h2 (by omega)]
      generalize digB b (n / b) = l at *
      clear h ih
      induction l generalizing q with
      | nil => rw [List.nil_append, formG, if_neg (by simp [ne]), e, if_neg (by omega), formG]
      | cons a r ih2 =>
        rw [formG] at i
        rw [List.cons_append, formG]
        split at i
        · rename_i hc
          rw [if_pos hc]
          exact ih2 false i
        · rename_i hc
          rw [if_neg hc]
          split at i
          · cases i
          · rename_i hk
            rw [if_neg hk]
            exact ih2 true i
theorem digB_head {b : Nat} (h2 : 2 ≤ b) (h16 : b ≤ 16) (n : Nat) : ∃ d r, digB b n = hexc d :: r ∧ d < 16 ∧ (d = 0 → r = []) := by
  induction n using Nat.strongRecOn with
  | ind n ih =>
    by_cases h : n < b
    · exact ⟨n, [], digB_low h, by omega, fun _ => rfl⟩
    · obtain ⟨d, r, e, hd, h0⟩ := ih (n / b) (Nat.div_lt_self (by omega) (by omega))
      refine ⟨d, r ++ [hexc (n % b)], by rw [digB_high h2 (by omega), e]; rfl, hd, fun z => ?_⟩
      exfalso
      have hr := h0 z
      subst z hr
      have v := digB_val h2 h16 (n / b)
      rw [e, valG, if_neg (by decide), valG] at v
      have z : hexv (hexc 0) = 0 := by decide
      rw [z] at v
      have p : 0 < n / b := Nat.div_pos (by omega) (by omega)
      omega
theorem digB_len {b : Nat} (h2 : 2 ≤ b) : ∀ (k n : Nat), n < b ^ (k + 1) → (digB b n).length ≤ k + 1 := by
  intro k
  induction k with
  | zero =>
    intro n h
    rw [digB_low (by simpa using h)]
    simp
  | succ k ih =>
    intro n h
    by_cases c : n < b
    · rw [digB_low c]; simp
    · rw [digB_high h2 (by omega), List.length_append]
      have := ih (n / b) (by rw [Nat.div_lt_iff_lt_mul (by omega)]; rwa [Nat.pow_succ] at h)
      simp
      omega
/-- What is ahead of the digits to a base. -/
def preB (b : Nat) : List UInt8 := if b = 2 then [48, 98] else if b = 8 then [48, 111] else if b = 16 then [48, 120] else []
def tellB (b : Nat) (n : Int) : List UInt8 := (if n < 0 then [45] else []) ++ (preB b ++ digB b n.natAbs)
def GoodB (b : Nat) : Prop := b = 2 ∨ b = 8 ∨ b = 10 ∨ b = 16
theorem baseCut_tell {b : Nat} (hb : GoodB b) (m : Nat) : baseCut (preB b ++ digB b m) = (b, digB b m) := by
  rcases hb with rfl | rfl | rfl | rfl
  · simp [preB, baseCut]
  · simp [preB, baseCut]
  · obtain ⟨d, r, e, hd, h0⟩ := digB_head (b := 10) (by decide) (by decide) m
    rw [show preB 10 = [] by rfl, List.nil_append, e]
    cases r with
    | nil => rfl
    | cons x r =>
      simp only [baseCut]
      rw [if_neg]
      intro z
      exact absurd (h0 ((hexc_zero hd).1 z)) (by simp)
  · simp [preB, baseCut]
theorem formed_tell {b : Nat} (hb : GoodB b) (m : Nat) : formedL b (digB b m) = true := by
  have h2 : 2 ≤ b := by unfold GoodB at hb; omega
  have h16 : b ≤ 16 := by unfold GoodB at hb; omega
  unfold formedL
  rw [digB_form h2 h16 m false]
  obtain ⟨d, r, e, hd, h0⟩ := digB_head h2 h16 m
  rw [e]
  cases r with
  | nil => simp
  | cons x r =>
    have : hexc d ≠ 48 := fun z => absurd (h0 ((hexc_zero hd).1 z)) (by simp)
    simp [this]
theorem tell_head {b : Nat} (hb : GoodB b) (m : Nat) : ∃ c r, preB b ++ digB b m = c :: r ∧ c ≠ 45 := by
  rcases hb with rfl | rfl | rfl | rfl
  · exact ⟨48, _, rfl, by decide⟩
  · exact ⟨48, _, rfl, by decide⟩
  · obtain ⟨d, r, e, hd, h0⟩ := digB_head (b := 10) (by decide) (by decide) m
    exact ⟨hexc d, r, e, hexc_sign hd⟩
  · exact ⟨48, _, rfl, by decide⟩
theorem tell_len {b : Nat} (hb : GoodB b) (n : Int) (h0 : -9223372036854775808 ≤ n) (h1 : n ≤ 9223372036854775807) : (tellB b n).length ≤ 67 := by
  have h2 : 2 ≤ b := by unfold GoodB at hb; omega
  have hk : (digB b n.natAbs).length ≤ 64 := by
    refine digB_len h2 63 _ (Nat.lt_of_lt_of_le (m := 2 ^ 64) (by omega) ?_)
    exact Nat.pow_le_pow_left h2 64
  have hp : (preB b).length ≤ 2 := by
    unfold preB
    split
    · simp
    · split
      · simp
      · split <;> simp
  unfold tellB
  rw [List.length_append, List.length_append]
  split <;> simp <;> omega
/-- What was told is read. -/
theorem read_tell {b : Nat} (hb : GoodB b) (n : Int) (h0 : -9223372036854775808 ≤ n) (h1 : n ≤ 9223372036854775807) : numRes (tellB b n) = (n, 0) := by
  have h2 : 2 ≤ b := by unfold GoodB at hb; omega
  have h16 : b ≤ 16 := by unfold GoodB at hb; omega
  have hl := tell_len hb n h0 h1
  unfold numRes
  rw [if_neg (by omega)]
  have hs : signCut (tellB b n) = (decide (n < 0), preB b ++ digB b n.natAbs) := by
    unfold tellB
    by_cases c : n < 0
    · rw [if_pos c]; simp [signCut, c]
    · rw [if_neg c, List.nil_append]
      obtain ⟨x, r, e, hx⟩ := tell_head hb n.natAbs
      rw [e, signCut, if_neg hx]
      simp [c]
  rw [hs]
  simp only
  rw [baseCut_tell hb]
  unfold bodyRes
  simp only
  rw [formed_tell hb, if_neg (by decide), digB_val h2 h16]
  by_cases c : n < 0
  · simp only [c, decide_true, limitOf, if_true]
    rw [if_neg (by omega)]
    congr 1
    omega
  · simp only [c, decide_false, limitOf, Bool.false_eq_true, if_false]
    rw [if_neg (by omega)]
    congr 1
    omega
theorem tell_inj {b : Nat} (hb : GoodB b) (n m : Int) (h0 : -9223372036854775808 ≤ n) (h1 : n ≤ 9223372036854775807) (k0 : -9223372036854775808 ≤ m) (k1 : m ≤ 9223372036854775807) (h : tellB b n = tellB b m) : n = m := by
  have e1 := read_tell hb n h0 h1
  rw [h, read_tell hb m k0 k1] at e1
  injection e1 with e _
  exact e.symm
end Go.Proofs.YtjlbbmpefjkamaaDoor.bigs
