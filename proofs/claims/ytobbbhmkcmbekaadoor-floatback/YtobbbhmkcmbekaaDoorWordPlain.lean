/- Numbers as words: plain mathematics, and rows of words that a call owns. -/
import Derived.Test.YtobbbhmkcmbekaaDoorBigFace
set_option linter.unusedVariables false
namespace Go.Proofs.YtobbbhmkcmbekaaDoor.bigs
open Go.RowKit

theorem words_nil : Words32 [] := fun j h => absurd h (by simp)
theorem words_append {a b : List Nat} : Words32 (a ++ b) ↔ Words32 a ∧ Words32 b := by
  induction a with
  | nil => simp [words_nil]
  | cons x a ih => rw [List.cons_append, words_cons, words_cons, ih, and_assoc]
theorem words_one {d : Nat} (h : d < 4294967296) : Words32 [d] := words_cons.2 ⟨h, words_nil⟩
theorem wval_append (a b : List Nat) : wval (a ++ b) = wval a + 4294967296 ^ a.length * wval b := by
  induction a with
  | nil => simp [wval]
  | cons x a ih =>
    rw [List.cons_append, wval, wval, ih, List.length_cons, Nat.pow_succ]
    have : 4294967296 ^ a.length * 4294967296 * wval b = 4294967296 * (4294967296 ^ a.length * wval b) := by rw [Nat.mul_comm (4294967296 ^ a.length), Nat.mul_assoc]
    rw [this]
    omega
theorem wval_one (d : Nat) : wval [d] = d := by simp [wval]
theorem words_take {l : List Nat} (h : Words32 l) (k : Nat) : Words32 (l.take k) := by
  rw [← List.take_append_drop k l, words_append] at h
  exact h.1
theorem wval_take_next (l : List Nat) (k : Nat) : wval (l.take (k + 1)) = wval (l.take k) + 4294967296 ^ k * l.getD k 0 := by
  by_cases h : k < l.length
  · rw [utake_succ l k h, wval_append, wval_one, List.length_take, Nat.min_eq_left (by omega)]
  · have e : l.getD k 0 = 0 := by rw [List.getD, List.getElem?_eq_none (by omega)]; rfl
    rw [e, List.take_of_length_le (by omega), List.take_of_length_le (by omega)]
    omega
theorem wval_set (l : List Nat) (d : Nat) : ∀ j, j < l.length → wval (l.set j d) + 4294967296 ^ j * l.getD j 0 = wval l + 4294967296 ^ j * d := by
  induction l with
  | nil => intro j h; simp at h
  | cons x l ih =>
    intro j h
    cases j with
    | zero => simp [wval]; omega
    | succ j =>
      have := ih j (by simpa using h)
      simp only [List.set_cons_succ, wval, List.getD_cons_succ, Nat.pow_succ]
      have e1 : 4294967296 ^ j * 4294967296 * l.getD j 0 = 4294967296 * (4294967296 ^ j * l.getD j 0) := by rw [Nat.mul_comm (4294967296 ^ j), Nat.mul_assoc]
      have e2 : 4294967296 ^ j * 4294967296 * d = 4294967296 * (4294967296 ^ j * d) := by rw [Nat.mul_comm (4294967296 ^ j), Nat.mul_assoc]
      omega
theorem words_set {l : List Nat} {j d : Nat} (h : Words32 l) (hd : d < 4294967296) : Words32 (l.set j d) := by
  intro i hi
  rw [List.length_set] at hi
  by_cases e : i = j
  · subst e; simp [List.getD, hi]; exact hd
  · rw [List.getD, List.getElem?_set_ne (by omega)]; exact h i hi
theorem wval_zero (n : Nat) : wval (List.replicate n 0) = 0 := by
  induction n with
  | zero => rfl
  | succ n ih => rw [List.replicate_succ, wval, ih]
theorem words_zero (n : Nat) : Words32 (List.replicate n 0) := by
  intro j hj
  rw [List.length_replicate] at hj
  simp [List.getD, hj]
theorem wdig_nil {n : Nat} : wdig n = [] ↔ n = 0 := by
  constructor
  · intro h; rw [← wval_wdig n, h]; rfl
  · rintro rfl; exact wdig_zero
theorem wdig_pos_len {n : Nat} (h : n ≠ 0) : 0 < (wdig n).length := by
  cases e : wdig n with
  | nil => exact absurd (wdig_nil.1 e) h
  | cons x r => simp
theorem wdig_is_take : ∀ (l : List Nat), Words32 l → l.take (wdig (wval l)).length = wdig (wval l)
  | [], _ => by show _ = wdig 0; rw [wdig_zero]; simp
  | d :: r, h => by
    obtain ⟨h1, h2⟩ := words_cons.1 h
    have ih := wdig_is_take r h2
    by_cases h0 : wval (d :: r) = 0
    · rw [h0, wdig_zero]; simp
    · rw [wdig_pos h0]
      have e1 : wval (d :: r) % 4294967296 = d := by rw [wval]; omega
      have e2 : wval (d :: r) / 4294967296 = wval r := by rw [wval]; omega
      rw [e1, e2, List.length_cons, List.take_succ_cons, ih]
theorem wdig_len_lt {n k : Nat} (h : n < 4294967296 ^ k) : (wdig n).length ≤ k := by
  induction k generalizing n with
  | zero =>
    have : n = 0 := by simpa using h
    subst this
    rw [wdig_zero]; simp
  | succ k ih =>
    by_cases h0 : n = 0
    · subst h0; rw [wdig_zero]; simp
    · rw [wdig_pos h0, List.length_cons]
      have : n / 4294967296 < 4294967296 ^ k := by
        rw [Nat.pow_succ] at h
        exact Nat.div_lt_of_lt_mul (by omega)
      have := ih this
      omega
theorem lt_pow_words (n : Nat) : n < 4294967296 ^ (wdig n).length := by have := wval_lt (words_wdig n); rwa [wval_wdig] at this
theorem wdig_length_ge {n k : Nat} (h : 4294967296 ^ k ≤ n) : k < (wdig n).length := by
  have h1 := lt_pow_words n
  by_cases e : k < (wdig n).length
  · exact e
  · have : 4294967296 ^ (wdig n).length ≤ 4294967296 ^ k := Nat.pow_le_pow_right (by omega) (by omega)
    omega
theorem wdig_len_words {l : List Nat} (h : Words32 l) : (wdig (wval l)).length ≤ l.length := wdig_len_lt (wval_lt h)
theorem wdig_mono {m n : Nat} (h : m ≤ n) : (wdig m).length ≤ (wdig n).length := wdig_len_lt (Nat.lt_of_le_of_lt h (lt_pow_words n))
theorem wdig_lt_of_len {m n : Nat} (h : (wdig m).length < (wdig n).length) : m < n := by
  by_cases e : m < n
  · exact e
  · have := wdig_mono (show n ≤ m by omega)
    omega
theorem wdig_last {n : Nat} (h : n ≠ 0) : (wdig n).getD ((wdig n).length - 1) 0 ≠ 0 := by
  induction n using Nat.strongRecOn with
  | ind n ih =>
    rw [wdig_pos h]
    by_cases e : n / 4294967296 = 0
    · rw [e, wdig_zero]
      simp
      omega
    · have hp := wdig_pos_len e
      have e1 : (n % 4294967296 :: wdig (n / 4294967296)).length - 1 = ((wdig (n / 4294967296)).length - 1) + 1 := by rw [List.length_cons]; omega
      rw [e1, List.getD_cons_succ]
      exact ih _ (by omega) e
/-- A list of words whose last is not 0 is the words of what it tells. -/
theorem wdig_uniq : ∀ {l : List Nat}, Words32 l → (l = [] ∨ l.getD (l.length - 1) 0 ≠ 0) → wdig (wval l) = l
  | [], _, _ => wdig_zero
  | d :: r, h, hl => by
    obtain ⟨h1, h2⟩ := words_cons.1 h
    have hr : r = [] ∨ r.getD (r.length - 1) 0 ≠ 0 := by
      by_cases e : r = []
      · exact .inl e
      · right
        rcases hl with hl | hl
        · cases hl
        · have hp : 0 < r.length := List.length_pos_iff.2 e
          have e1 : (d :: r).length - 1 = (r.length - 1) + 1 := by rw [List.length_cons]; omega
          rw [e1, List.getD_cons_succ] at hl
          exact hl
    have ih := wdig_uniq h2 hr
    have hne : wval (d :: r) ≠ 0 := by
      intro e
      rw [wval] at e
      have e0 : wval r = 0 := by omega
      rw [e0, wdig_zero] at ih
      subst ih
      rcases hl with hl | hl
      · cases hl
      · simp at hl
        omega
    rw [wdig_pos hne]
    have e1 : wval (d :: r) % 4294967296 = d := by rw [wval]; omega
    have e2 : wval (d :: r) / 4294967296 = wval r := by rw [wval]; omega
    rw [e1, e2, ih]
theorem wsplit_val (l : List Nat) (k : Nat) (hs : Words32 l) : ∃ t, wval l = t + 4294967296 ^ k * wval (l.drop k) ∧ t < 4294967296 ^ k := by
  refine ⟨wval (l.take k), ?_, ?_⟩
  · by_cases h : k ≤ l.length
    · have := wval_append (l.take k) (l.drop k)
      rw [List.take_append_drop, List.length_take, Nat.min_eq_left h] at this
      exact this
    · rw [List.drop_of_length_le (by omega), List.take_of_length_le (by omega)]
      simp [wval]
  · have h1 := wval_lt (words_take hs k)
    have h2 : 4294967296 ^ (l.take k).length ≤ 4294967296 ^ k := Nat.pow_le_pow_right (by omega) (List.length_take_le k l)
    omega
theorem wdrop_div (l : List Nat) (k : Nat) (hs : Words32 l) : wval (l.drop k) = wval l / 4294967296 ^ k := by
  obtain ⟨t, e, h⟩ := wsplit_val l k hs
  have hp : 0 < 4294967296 ^ k := Nat.pow_pos (by omega)
  rw [e, Nat.add_mul_div_left _ _ hp, Nat.div_eq_of_lt h]
  omega
theorem wless_of_drop {a b : List Nat} {k : Nat} (ha : Words32 a) (hb : Words32 b) (h : wval (a.drop k) < wval (b.drop k)) : wval a < wval b := by
  obtain ⟨t, e1, l1⟩ := wsplit_val a k ha
  obtain ⟨u, e2, l2⟩ := wsplit_val b k hb
  have : 4294967296 ^ k * (wval (a.drop k) + 1) ≤ 4294967296 ^ k * wval (b.drop k) := Nat.mul_le_mul_left _ h
  rw [Nat.mul_add, Nat.mul_one] at this
  omega

theorem RowU.take {w : World} {a : Option Addr} {l : List Nat} (h : RowU w a l) (k : Nat) : RowU w a (l.take k) := by
  intro h0
  have hl : l ≠ [] := fun e => h0 (by rw [e, List.take_nil])
  obtain ⟨b, o, e, hlt, hc⟩ := h hl
  refine ⟨b, o, e, hlt, fun j hj => ?_⟩
  rw [List.length_take] at hj
  rw [hc j (by omega)]
  simp [List.getD, show j < k by omega]
/-- The words of a number lie where the list lay. -/
theorem RowU.cut {w : World} {a : Option Addr} {l : List Nat} (h : RowU w a l) (hs : Words32 l) : RowU w a (wdig (wval l)) := by
  rw [← wdig_is_take l hs]
  exact h.take _
theorem RowU.kept {w w' : World} {a : Option Addr} {l : List Nat} {g : Nat} (h : RowU w a l) (hg : w.grownBy w' (some g)) (hne : ∀ b o s, a = some ⟨b, o, s⟩ → b ≠ g) : RowU w' a l := by
  intro h0
  obtain ⟨b, o, rfl, hb, hc⟩ := h h0
  have hbg := hne b o none rfl
  refine ⟨b, o, rfl, Nat.lt_of_lt_of_le hb hg.size, fun j hj => ?_⟩
  exact hg.cell (hc j hj) (fun e => hbg (by simpa using e))
theorem grown_refl (w : World) (row : Option Nat) : w.grownBy w row := ⟨rfl, rfl, rfl, Nat.le_refl _, fun _ _ _ => rfl⟩
theorem grown_trans {a b c : World} {row : Option Nat} (h : a.grownBy b row) (k : b.grownBy c row) : a.grownBy c row :=
  ⟨k.os.trans h.os, k.tape.trans h.tape, k.output.trans h.output, Nat.le_trans h.size k.size, fun i hi hn => (k.block i (Nat.lt_of_lt_of_le hi h.size) hn).trans (h.block i hi hn)⟩
theorem grown_cell {a b : World} {g : Nat} (h : a.grownBy b (some g)) (j : Nat) (u : Value) : a.grownBy (b.setCell ⟨g, j, none⟩ u) (some g) :=
  grown_trans h ⟨rfl, rfl, rfl, by simp [World.setCell], fun k hk hn => Below.heap_setCell _ _ _ _ (fun e => hn (by rw [e]))⟩
theorem grown_drew {a b : World} {row : Option Nat} (h : a.grownBy b row) (n : Nat) : a.grownBy (b.drewN n) row := ⟨h.os, h.tape, h.output, h.size, h.block⟩
theorem below_of_grown {a b : World} {g B : Nat} (h : a.grownBy b (some g)) (hB : B ≤ g) (hB' : B ≤ a.heap.size) : Below B a b :=
  (Below.refl _ a).grown h hB' (fun k e => by simp at e; omega)

/-- A row of words that the call may write, from its block's first cell on. -/
def Own (w : World) (g c : Nat) (l : List Nat) : Prop := w.ownsRow 0 40 1 (.slice (some ⟨g, 0, none⟩) l.length c) l.length (l.map wrd)
theorem Own.cell {w : World} {g c : Nat} {l : List Nat} (h : Own w g c l) (j : Nat) (hj : j < l.length) : w.cell? ⟨g, j, none⟩ = some (.int .u32 ((l.getD j 0 : Nat) : Int)) := by
  rw [World.ownsRow.cellAt h j (by omega)]
  simp [wrd, List.getD, hj]
theorem Own.froz {w : World} {g c : Nat} {l : List Nat} (h : Own w g c l) (j : Nat) : w.frozen? ⟨g, j, none⟩ = false := World.ownsRow.frozenAt h j
theorem Own.set {w : World} {g c : Nat} {l : List Nat} (h : Own w g c l) (j d : Nat) : Own (w.setCell ⟨g, j, none⟩ (.int .u32 (d : Int))) g c (l.set j d) := by
  have := (World.ownsRow.stored h j (.int .u32 (d : Int))).1
  unfold Own
  rw [List.length_set, List.map_set]
  exact this
theorem Own.lt {w : World} {g c : Nat} {l : List Nat} (h : Own w g c l) : g < w.heap.size := (World.ownsRow.lt h g rfl).2
theorem Own.below {w w' : World} {g c : Nat} {l : List Nat} (h : Own w g c l) (hb : Below w.heap.size w w') : Own w' g c l := own_below h hb
theorem Own.kept {w w' : World} {g c r : Nat} {l : List Nat} (h : Own w g c l) (hg : w.grownBy w' (some r)) (hne : g ≠ r) : Own w' g c l :=
  World.ownsRow.kept h hg (.inr (by simpa [Value.ownBlock] using hne))
theorem Own.row {w : World} {g c : Nat} {l : List Nat} (h : Own w g c l) : RowU w (some ⟨g, 0, none⟩) l := fun _ => ⟨g, 0, rfl, h.lt, fun j hj => by rw [Nat.zero_add]; exact h.cell j hj⟩
theorem Own.cap {w : World} {g c : Nat} {l : List Nat} (h : Own w g c l) : l.length ≤ c := by
  obtain ⟨a, cap, hv, hc, _⟩ := rowU_own h
  cases hv
  exact hc
/-- The row within a row. -/
theorem Own.mid {w : World} {g c : Nat} {P M S : List Nat} (h : Own w g c (P ++ (M ++ S))) : RowU w (some ⟨g, P.length, none⟩) M := fun _ => ⟨g, P.length, rfl, h.lt, fun j hj => by
  rw [h.cell (P.length + j) (by simp; omega)]
  simp [List.getD, List.getElem?_append_right, List.getElem?_append_left hj]⟩
theorem Own.cellMid {w : World} {g c : Nat} {P M S : List Nat} (h : Own w g c (P ++ (M ++ S))) (j : Nat) (hj : j < M.length) : w.cell? ⟨g, P.length + j, none⟩ = some (.int .u32 ((M.getD j 0 : Nat) : Int)) := by
  rw [h.cell (P.length + j) (by simp; omega)]
  simp [List.getD, List.getElem?_append_right, List.getElem?_append_left hj]
theorem Own.setMid {w : World} {g c : Nat} {P M S : List Nat} (h : Own w g c (P ++ (M ++ S))) (j d : Nat) (hj : j < M.length) : Own (w.setCell ⟨g, P.length + j, none⟩ (.int .u32 (d : Int))) g c (P ++ (M.set j d ++ S)) := by
  have := h.set (P.length + j) d
  rwa [List.set_append_right _ _ (by omega), Nat.add_sub_cancel_left, List.set_append_left _ _ hj] at this
/-- What is done, and what is not yet. -/
theorem front_get {D M : List Nat} {k : Nat} (hD : D.length = k) (hk : k < M.length) : (D ++ M.drop k).getD k 0 = M.getD k 0 := by
  subst hD
  simp [List.getD, List.getElem?_append_right]
theorem front_set {D M : List Nat} {k d : Nat} (hD : D.length = k) (hk : k < M.length) : (D ++ M.drop k).set k d = (D ++ [d]) ++ M.drop (k + 1) := by
  subst hD
  rw [List.set_append_right _ _ (Nat.le_refl _), Nat.sub_self, List.drop_eq_getElem_cons hk, List.set_cons_zero, List.append_assoc]
  rfl
theorem front_len {D M : List Nat} {k : Nat} (hD : D.length = k) (hk : k ≤ M.length) : (D ++ M.drop k).length = M.length := by
  rw [List.length_append, List.length_drop]
  omega
/-- A made row. -/
theorem own_made {w : World} {B g n : Nat} (h : w.ownsRow B 40 1 (.slice (some ⟨g, 0, none⟩) n n) n (madeCells #[.int .u32 0] n).toList) : Own w g n (List.replicate n 0) := by
  have e : (madeCells #[Value.int .u32 0] n).toList = (List.replicate n 0).map wrd := by
    rw [toList_madeCells_one]
    simp [wrd]
  rw [e] at h
  refine ⟨by simp, ?_⟩
  rcases h.2 with h' | ⟨g', cap, cur, e1, _, r⟩
  · simp at h'
  · right
    refine ⟨g', cap, cur, by rw [List.length_replicate]; exact e1, Nat.zero_le _, ?_⟩
    rw [List.length_replicate]
    exact r
end Go.Proofs.YtobbbhmkcmbekaaDoor.bigs
