/- The walks of the document's answer: Over. -/
import Derived.Test.YtobbbhmkcmbekabDoorBigBy
set_option linter.unusedVariables false
namespace Go.Proofs.YtobbbhmkcmbekabDoor.bigs
open Go.RowKit

theorem own_slice {w : World} {base e n : Nat} {v : Value} {xs : List Value} (h : w.ownsRow base e 1 v n xs) : ∃ b c, v = .slice b n c := by
  rcases h.2 with ⟨rfl, rfl⟩ | ⟨g, cap, cur, rfl, _⟩
  · exact ⟨_, _, rfl⟩
  · exact ⟨_, _, rfl⟩

theorem own_heap {w : World} {base e n c g : Nat} {xs : List Value} (h : w.ownsRow base e 1 (.slice (some ⟨g, 0, none⟩) n c) n xs) : ∃ cur, w.heap[g]? = some (.cells cur e (0, 0)) := by
  rcases h.2 with ⟨h, _⟩ | ⟨g', cap, cur, h, _, hg, _⟩
  · cases h
  · simp only [Value.slice.injEq, Option.some.injEq, Addr.mk.injEq, and_true, true_and] at h
    obtain ⟨rfl, _⟩ := h
    exact ⟨cur, hg⟩
theorem own_below {w w' : World} {base e n : Nat} {v : Value} {xs : List Value} (h : w.ownsRow base e 1 v n xs) (hb : Below w.heap.size w w') : w'.ownsRow base e 1 v n xs := by
  refine ⟨h.1, ?_⟩
  rcases h.2 with hn | ⟨g, cap, cur, e, h1, hg, rest⟩
  · exact .inl hn
  · refine .inr ⟨g, cap, cur, e, h1, ?_, rest⟩
    rw [hb.block g (Array.getElem?_eq_some_iff.1 hg).1]
    exact hg
theorem Lies.setCell {w : World} {v : Value} {n : Nat} (h : Lies w v n) (g k : Nat) (u : Value) (hne : ∀ b, v.ownBlock = some b → b ≠ g) : Lies (w.setCell ⟨g, k, none⟩ u) v n := by
  obtain ⟨a, cap, rfl, hc, hr⟩ := h
  refine ⟨a, cap, rfl, hc, fun h0 => ?_⟩
  obtain ⟨b, o, rfl, hb, hcell⟩ := hr h0
  have hbg := hne b rfl
  refine ⟨b, o, rfl, by simpa using hb, fun j hj => ?_⟩
  rw [← hcell j hj]
  exact World.cell?_of_block (Below.heap_setCell w ⟨g, k, none⟩ u b hbg)
theorem dig_mul_len {n d : Nat} (h : d < 10000) : (dig (n * d)).length ≤ (dig n).length + 1 := by
  apply dig_length_le
  rw [Nat.pow_succ]
  have h1 := lt_pow_dig n
  by_cases h0 : d = 0
  · subst h0
    have : 0 < 10000 ^ (dig n).length := Nat.pow_pos (by omega)
    omega
  · have h2 : n * d < 10000 ^ (dig n).length * d := Nat.mul_lt_mul_of_pos_right h1 (by omega)
    have h3 : 10000 ^ (dig n).length * d ≤ 10000 ^ (dig n).length * 10000 := Nat.mul_le_mul_left _ (by omega)
    omega
theorem dig_lt_len {n R : Nat} (h : R < n * 10000) : (dig R).length ≤ (dig n).length + 1 := by
  apply dig_length_le
  rw [Nat.pow_succ]
  have h1 := lt_pow_dig n
  exact Nat.lt_of_lt_of_le h (Nat.mul_le_mul_right _ (Nat.le_of_lt h1))
theorem dig_one_len {d : Nat} (h : d < 10000) : (dig d).length ≤ 1 := dig_length_le (by simpa using h)
theorem drop_set_val (l : List Nat) (k d : Nat) (h : k < l.length) : val ((l.set k d).drop k) = d + 10000 * val (l.drop (k + 1)) := by
  rw [drop_val]
  have e1 : (l.set k d).getD k 0 = d := by simp [List.getD, h]
  have e2 : (l.set k d).drop (k + 1) = l.drop (k + 1) := by rw [List.drop_set_of_lt (by omega)]
  rw [e1, e2]
/-- A round of the division. -/
theorem over_round {H Q r n a lo : Nat} (h : H = Q * n + r) (hlo : n * lo ≤ a + 10000 * r) : a + 10000 * H = (lo + 10000 * Q) * n + (a + 10000 * r - n * lo) := by
  rw [h, Nat.add_mul, Nat.mul_comm lo n, Nat.mul_assoc]
  omega
theorem over_end {m n Q r : Nat} (h : m = Q * n + r) (hr : r < n) : m / n = Q ∧ m % n = r := by
  refine (Nat.div_mod_unique (by omega)).2 ⟨?_, hr⟩
  rw [h, Nat.mul_comm]
  omega

end Go.Proofs.YtobbbhmkcmbekabDoor.bigs
