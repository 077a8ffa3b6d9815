/- The walks of the document's answer: Minus. -/
import Derived.Test.YtobbbhmkcmbekabGreatDoorPartAB
import Derived.Deep.QuietTactic
import Derived.BigQuiet
set_option linter.unusedVariables false
namespace Go.Proofs.YtobbbhmkcmbekabGreatDoor.bigs
open Go.RowKit

theorem made_zero (n : Nat) : (madeCells #[Value.int .i64 0] n).toList = (List.replicate n 0).map num := by
  rw [toList_madeCells_one]
  simp [num]
theorem small_zero (n : Nat) : Small10 (List.replicate n 0) := by
  intro j hj
  rw [List.length_replicate] at hj
  simp [List.getD, hj]
theorem take_set_next (l : List Nat) (k d : Nat) (h : k < l.length) : (l.set k d).take (k + 1) = l.take k ++ [d] := by
  rw [take_succ _ _ (by simpa using h), List.take_set_of_le (by omega)]
  simp [List.getD, h]
theorem small_set {l : List Nat} {k d : Nat} (hs : Small10 l) (hd : d < 10000) : Small10 (l.set k d) := by
  intro j hj
  rw [List.length_set] at hj
  by_cases e : k = j
  · subst e
    simp [List.getD, hj, hd]
  · rw [List.getD, List.getElem?_set_ne e]
    exact hs j hj
/-- A round of the difference: d is what is told, and p what is borrowed. -/
theorem minus_round {l a b : List Nat} {k q d p : Nat} (hk : k < l.length) (h : val (l.take k) + val (b.take k) = val (a.take k) + 10000 ^ k * q) (hd : d + b.getD k 0 + q = a.getD k 0 + 10000 * p) :
    val ((l.set k d).take (k + 1)) + val (b.take (k + 1)) = val (a.take (k + 1)) + 10000 ^ (k + 1) * p := by
  rw [take_set_next l k d hk, val_append, val_one, List.length_take, Nat.min_eq_left (by omega), val_take_next, val_take_next]
  generalize a.getD k 0 = x at *
  generalize b.getD k 0 = y at *
  have e : 10000 ^ (k + 1) * p = 10000 ^ k * (10000 * p) := by rw [Nat.pow_succ, Nat.mul_assoc]
  have e2 : 10000 ^ k * d + 10000 ^ k * y + 10000 ^ k * q = 10000 ^ k * x + 10000 ^ k * (10000 * p) := by
    rw [← Nat.mul_add, ← Nat.mul_add, ← Nat.mul_add, hd]
  omega
theorem dig_len_mono {m n : Nat} (h : m ≤ n) : (dig m).length ≤ (dig n).length := dig_length_le (Nat.lt_of_le_of_lt h (lt_pow_dig n))
theorem minus_end {l : List Nat} {m n q : Nat} (hnm : n ≤ m) (hl : l.length = (dig m).length) (hs : Small10 l) (h : val l + val ((dig n).take (dig m).length) = m + 10000 ^ (dig m).length * q) : val l = m - n := by
  have h1 := val_lt hs
  rw [hl] at h1
  rw [List.take_of_length_le (dig_len_mono hnm), val_dig] at h
  cases q with
  | zero => omega
  | succ q =>
    have : 10000 ^ (dig m).length * (q + 1) = 10000 ^ (dig m).length * q + 10000 ^ (dig m).length := by rw [Nat.mul_add, Nat.mul_one]
    omega

end Go.Proofs.YtobbbhmkcmbekabGreatDoor.bigs
/- The walks of the document's answer: By. -/
set_option linter.unusedVariables false
namespace Go.Proofs.YtobbbhmkcmbekabGreatDoor.bigs
open Go.RowKit

theorem val_set (l : List Nat) (d : Nat) : ∀ j, j < l.length → val (l.set j d) + 10000 ^ j * l.getD j 0 = val l + 10000 ^ j * d := by
  induction l with
  | nil => intro j h; simp at h
  | cons x l ih =>
    intro j h
    cases j with
    | zero => simp [val]; omega
    | succ j =>
      have := ih j (by simpa using h)
      simp only [List.set_cons_succ, val, List.getD_cons_succ, Nat.pow_succ]
      have e1 : 10000 ^ j * 10000 * l.getD j 0 = 10000 * (10000 ^ j * l.getD j 0) := by rw [Nat.mul_comm (10000 ^ j), Nat.mul_assoc]
      have e2 : 10000 ^ j * 10000 * d = 10000 * (10000 ^ j * d) := by rw [Nat.mul_comm (10000 ^ j), Nat.mul_assoc]
      omega
/-- Nothing stands from place k on. -/
def Nought (l : List Nat) (k : Nat) : Prop := ∀ j, k ≤ j → l.getD j 0 = 0
theorem nought_set {l : List Nat} {k j d : Nat} (h : Nought l k) (hj : j < k) : Nought (l.set j d) k := by
  intro i hi
  rw [List.getD, List.getElem?_set_ne (by omega)]
  exact h i hi
theorem nought_set' {l : List Nat} {k d : Nat} (h : Nought l k) : Nought (l.set k d) (k + 1) := by
  intro i hi
  rw [List.getD, List.getElem?_set_ne (by omega)]
  exact h i (by omega)
theorem nought_zero (n : Nat) : Nought (List.replicate n 0) 0 := by
  intro j _
  by_cases h : j < n
  · simp [List.getD, h]
  · rw [List.getD, List.getElem?_eq_none (by simp; omega)]; rfl
theorem val_zero (n : Nat) : val (List.replicate n 0) = 0 := by
  induction n with
  | zero => rfl
  | succ n ih => rw [List.replicate_succ, val, ih]
/-- A round of the product. -/
theorem by_round {l b : List Nat} {i k q a X : Nat} (hj : i + k < l.length) (h : val l + 10000 ^ (i + k) * q = X + 10000 ^ i * a * val (b.take k)) :
    val (l.set (i + k) ((q + (l.getD (i + k) 0 + a * b.getD k 0)) % 10000)) + 10000 ^ (i + (k + 1)) * ((q + (l.getD (i + k) 0 + a * b.getD k 0)) / 10000) = X + 10000 ^ i * a * val (b.take (k + 1)) := by
  have h1 := val_set l ((q + (l.getD (i + k) 0 + a * b.getD k 0)) % 10000) (i + k) hj
  rw [val_take_next]
  generalize l.getD (i + k) 0 = z at *
  generalize b.getD k 0 = y at *
  have e1 : 10000 ^ (i + (k + 1)) * ((q + (z + a * y)) / 10000) = 10000 ^ (i + k) * (10000 * ((q + (z + a * y)) / 10000)) := by rw [← Nat.add_assoc, Nat.pow_succ, Nat.mul_assoc]
  have e2 : 10000 ^ (i + k) * ((q + (z + a * y)) % 10000) + 10000 ^ (i + k) * (10000 * ((q + (z + a * y)) / 10000)) = 10000 ^ (i + k) * q + (10000 ^ (i + k) * z + 10000 ^ (i + k) * (a * y)) := by
    rw [← Nat.mul_add, Nat.mod_add_div, Nat.mul_add, Nat.mul_add]
  have e3 : 10000 ^ i * a * (val (b.take k) + 10000 ^ k * y) = 10000 ^ i * a * val (b.take k) + 10000 ^ (i + k) * (a * y) := by
    rw [Nat.mul_add, Nat.pow_add, Nat.mul_assoc, Nat.mul_assoc, Nat.mul_assoc, Nat.mul_left_comm a]
  omega
theorem by_next {l a b : List Nat} {i q : Nat} (h : val l = val (a.take i) * val b + 10000 ^ i * a.getD i 0 * val b) : val l = val (a.take (i + 1)) * val b := by
  rw [h, val_take_next, Nat.add_mul]

end Go.Proofs.YtobbbhmkcmbekabGreatDoor.bigs
/- The walks of the document's answer: Over. -/
set_option linter.unusedVariables false
namespace Go.Proofs.YtobbbhmkcmbekabGreatDoor.bigs
open Go.RowKit

theorem own_slice {w : World} {base e n : Nat} {v : Value} {xs : List Value} (h : w.ownsRow base e 1 v n xs) : ∃ b c, v = .slice b n c := by
  rcases h.2 with ⟨rfl, rfl⟩ | ⟨g, cap, cur, rfl, _⟩
  · exact ⟨_, _, rfl⟩
  · exact ⟨_, _, rfl⟩

theorem own_heap {w : World} {base e n c g : Nat} {xs : List Value} (h : w.ownsRow base e 1 (.slice (some ⟨g, 0, none⟩) n c) n xs) : ∃ cur, w.heap[g]? = some (.cells cur e (0, 0)) := by
  rcases h.2 with ⟨h, _⟩ | ⟨g', cap, cur, h, _, hg, _⟩
  · cases h
  · simp only [Value.slice.injEq, Option.some.injEq, Addr.mk.injEq, and_true, true_and] at h
    obtain ⟨rfl, _⟩ := h
    exact ⟨cur, hg⟩
theorem own_below {w w' : World} {base e n : Nat} {v : Value} {xs : List Value} (h : w.ownsRow base e 1 v n xs) (hb : Below w.heap.size w w') : w'.ownsRow base e 1 v n xs := by
  refine ⟨h.1, ?_⟩
  rcases h.2 with hn | ⟨g, cap, cur, e, h1, hg, rest⟩
  · exact .inl hn
  · refine .inr ⟨g, cap, cur, e, h1, ?_, rest⟩
    rw [hb.block g (Array.getElem?_eq_some_iff.1 hg).1]
    exact hg
theorem Lies.setCell {w : World} {v : Value} {n : Nat} (h : Lies w v n) (g k : Nat) (u : Value) (hne : ∀ b, v.ownBlock = some b → b ≠ g) : Lies (w.setCell ⟨g, k, none⟩ u) v n := by
  obtain ⟨a, cap, rfl, hc, hr⟩ := h
  refine ⟨a, cap, rfl, hc, fun h0 => ?_⟩
  obtain ⟨b, o, rfl, hb, hcell⟩ := hr h0
  have hbg := hne b rfl
  refine ⟨b, o, rfl, by simpa using hb, fun j hj => ?_⟩
  rw [← hcell j hj]
  exact World.cell?_of_block (Below.heap_setCell w ⟨g, k, none⟩ u b hbg)
theorem dig_mul_len {n d : Nat} (h : d < 10000) : (dig (n * d)).length ≤ (dig n).length + 1 := by
  apply dig_length_le
  rw [Nat.pow_succ]
  have h1 := lt_pow_dig n
  by_cases h0 : d = 0
  · subst h0
    have : 0 < 10000 ^ (dig n).length := Nat.pow_pos (by omega)
    omega
  · have h2 : n * d < 10000 ^ (dig n).length * d := Nat.mul_lt_mul_of_pos_right h1 (by omega)
    have h3 : 10000 ^ (dig n).length * d ≤ 10000 ^ (dig n).length * 10000 := Nat.mul_le_mul_left _ (by omega)
    omega
theorem dig_lt_len {n R : Nat} (h : R < n * 10000) : (dig R).length ≤ (dig n).length + 1 := by
  apply dig_length_le
  rw [Nat.pow_succ]
  have h1 := lt_pow_dig n
  exact Nat.lt_of_lt_of_le h (Nat.mul_le_mul_right _ (Nat.le_of_lt h1))
theorem dig_one_len {d : Nat} (h : d < 10000) : (dig d).length ≤ 1 := dig_length_le (by simpa using h)
theorem drop_set_val (l : List Nat) (k d : Nat) (h : k < l.length) : val ((l.set k d).drop k) = d + 10000 * val (l.drop (k + 1)) := by
  rw [drop_val]
  have e1 : (l.set k d).getD k 0 = d := by simp [List.getD, h]
  have e2 : (l.set k d).drop (k + 1) = l.drop (k + 1) := by rw [List.drop_set_of_lt (by omega)]
  rw [e1, e2]
/-- A round of the division. -/
theorem over_round {H Q r n a lo : Nat} (h : H = Q * n + r) (hlo : n * lo ≤ a + 10000 * r) : a + 10000 * H = (lo + 10000 * Q) * n + (a + 10000 * r - n * lo) := by
  rw [h, Nat.add_mul, Nat.mul_comm lo n, Nat.mul_assoc]
  omega
theorem over_end {m n Q r : Nat} (h : m = Q * n + r) (hr : r < n) : m / n = Q ∧ m % n = r := by
  refine (Nat.div_mod_unique (by omega)).2 ⟨?_, hr⟩
  rw [h, Nat.mul_comm]
  omega

end Go.Proofs.YtobbbhmkcmbekabGreatDoor.bigs
