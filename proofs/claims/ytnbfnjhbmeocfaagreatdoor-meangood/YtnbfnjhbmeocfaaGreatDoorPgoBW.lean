/- Of our texts, what this claim reaches. -/
import Derived.Test.YtnbfnjhbmeocfaaGreatDoorPgoAA
import Derived.Test.YtnbfnjhbmeocfaaGreatDoorPgoBV
set_option linter.unusedVariables false
namespace Go.Proofs.YtnbfnjhbmeocfaaGreatDoor.trees
open toks

structure At (L : List UInt8) (l : List Tk) (i : Nat) (ts : List Sym) : Prop where
  le : i ≤ l.length
  eq : ts = solF L i (l.drop i)
  sol : ∀ h : i < l.length, 3 < l[i].kind
theorem drop_tk {l : List Tk} {i : Nat} (h : i < l.length) : l.drop i = l[i] :: l.drop (i + 1) := List.drop_eq_getElem_cons h
theorem at_cons {L : List UInt8} {l : List Tk} {i : Nat} {x : Sym} {r : List Sym} (h : At L l i (x :: r)) :
    ∃ hi : i < l.length, x.2 = i ∧ x.1 = symOf L l[i] ∧ 3 < l[i].kind ∧ r = solF L (i + 1) (l.drop (i + 1)) := by
  have hi : i < l.length := by
    rcases Nat.lt_or_ge i l.length with h1 | h1
    · exact h1
    · have := h.eq
      rw [List.drop_of_length_le h1] at this
      cases this
  have hk := h.sol hi
  have e := h.eq
  rw [drop_tk hi, sol_yes hk] at e
  injection e with e1 e2
  exact ⟨hi, by rw [e1], by rw [e1], hk, e2⟩
theorem at_nil {L : List UInt8} {l : List Tk} {i : Nat} (h : At L l i []) : i = l.length := by
  rcases Nat.lt_or_ge i l.length with h1 | h1
  · have e := h.eq
    rw [drop_tk h1, sol_yes (h.sol h1)] at e
    cases e
  · have := h.le
    omega
theorem at_skip (L : List UInt8) (l : List Tk) : ∀ (d n : Nat), (∀ k (h : k < l.length), n ≤ k → k < n + d → ¬ 3 < l[k].kind) → n + d ≤ l.length → solF L n (l.drop n) = solF L (n + d) (l.drop (n + d))
  | 0, n, _, _ => rfl
  | d + 1, n, h, hl => by
    have hn : n < l.length := by omega
    rw [drop_tk hn, sol_no (h n hn (Nat.le_refl _) (by omega)), at_skip L l d (n + 1) (fun k hk h1 h2 => h k hk (by omega) (by omega)) (by omega), show n + 1 + d = n + (d + 1) by omega]
structure Nxt (l : List Tk) (n j : Nat) : Prop where
  le : n ≤ j
  lt : j ≤ l.length
  no : ∀ k (h : k < l.length), n ≤ k → k < j → ¬ 3 < l[k].kind
  sol : ∀ h : j < l.length, 3 < l[j].kind
theorem Nxt.at {L : List UInt8} {l : List Tk} {n j : Nat} (h : Nxt l n j) : At L l j (solF L n (l.drop n)) := by
  have := h.le
  have := h.lt
  refine ⟨h.lt, ?_, h.sol⟩
  rw [at_skip L l (j - n) n (fun k hk h1 h2 => h.no k hk h1 (by omega)) (by omega), show n + (j - n) = j by omega]
structure Good (s : ByteArray) (l : List Tk) : Prop where
  kind : ∀ (j : Nat) (h : j < l.length), 1 ≤ l[j].kind ∧ l[j].kind ≤ 7
  fro : ∀ (j : Nat) (h : j < l.length), l[j].fro < s.size
  mark : ∀ (j : Nat) (h : j < l.length), l[j].kind = 6 → isM (s.data.toList.getD l[j].fro 0) = true
  len : l.length ≤ 20000
  size : s.size ≤ 20000
theorem tokK_mark {l : List UInt8} {n : Nat} (h : tokK l = (6, n)) : isM (l.headD 0) = true := by
  cases l with
  | nil => simp [tokK] at h
  | cons c t =>
    unfold tokK at h
    simp only at h
    split at h
    · simp at h
    · split at h
      · simp at h
      · split at h
        · simp at h
        · split at h
          · simp at h
          · split at h
            · rename_i hm; exact hm
            · split at h
              · simp at h
              · split at h <;> simp at h
theorem good (s : ByteArray) (hs : s.size ≤ 20000) : Good s (toksL s.data.toList) := by
  have key : ∀ (j : Nat) (h : j < (toksL s.data.toList).length), _ := fun j h => cut_at j 0 s.data.toList (toksL s.data.toList)[j] (List.getElem?_eq_getElem h)
  refine ⟨fun j h => ?_, fun j h => ?_, fun j h hk => ?_, ?_, hs⟩
  · obtain ⟨_, _, _, _, _, k1, k7, _⟩ := key j h
    exact ⟨k1, k7⟩
  · obtain ⟨_, h2, h3, _⟩ := key j h
    rw [len_list] at h3
    omega
  · obtain ⟨_, h2, h3, h4, _⟩ := key j h
    rw [Nat.sub_zero, hk] at h4
    have := tokK_mark h4
    rw [List.headD_eq_head?_getD, List.head?_drop] at this
    exact this
  · have := cutP_len 0 s.data.toList
    rw [len_list] at this
    exact Nat.le_trans this hs
def seesB (ts : List Sym) (m : UInt8) : Bool :=
  match ts with
  | [] => false
  | x :: _ => x.1 == m
theorem sym_mark {s : ByteArray} {l : List Tk} (g : Good s l) {i : Nat} (hi : i < l.length) {m : UInt8} (h1 : m ≠ 63) (h2 : m ≠ 120) : (symOf s.data.toList l[i] == m) = (decide (l[i].kind = 6) && (s.data.toList.getD l[i].fro 0 == m)) := by
  unfold symOf
  by_cases h6 : l[i].kind = 6
  · rw [if_pos h6, decide_eq_true h6]; rfl
  · rw [if_neg h6, decide_eq_false h6, Bool.false_and]
    split
    · exact beq_false_of_ne (Ne.symm h1)
    · exact beq_false_of_ne (Ne.symm h2)
theorem isM_not {c : UInt8} (h : isM c = true) : c ≠ 120 ∧ c ≠ 63 ∧ c ≠ 0 := by
  refine ⟨fun e => ?_, fun e => ?_, fun e => ?_⟩ <;> (rw [e] at h; exact absurd h (by decide))
theorem sym_one {s : ByteArray} {l : List Tk} (g : Good s l) {i : Nat} (hi : i < l.length) (h3 : 3 < l[i].kind) : (symOf s.data.toList l[i] == 120) = decide (l[i].kind = 4 ∨ l[i].kind = 5) := by
  have := g.kind i hi
  unfold symOf
  by_cases h6 : l[i].kind = 6
  · rw [if_pos h6, decide_eq_false (by omega)]
    exact beq_false_of_ne (isM_not (g.mark i hi h6)).1
  · rw [if_neg h6]
    by_cases h7 : l[i].kind = 7
    · rw [if_pos h7, decide_eq_false (by omega)]; rfl
    · rw [if_neg h7, decide_eq_true (by omega)]; rfl
def placeOf (s : ByteArray) (l : List Tk) (ts : List Sym) : Nat :=
  match ts with
  | [] => s.size
  | x :: _ => (l.getD x.2 ⟨0, 0, 0⟩).fro
end Go.Proofs.YtnbfnjhbmeocfaaGreatDoor.trees
