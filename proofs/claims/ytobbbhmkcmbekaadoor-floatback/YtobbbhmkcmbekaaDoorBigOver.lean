/- The walks of the document's answer: Over. -/
import Derived.Test.YtobbbhmkcmbekaaDoorBigBy
set_option linter.unusedVariables false
namespace Go.Proofs.YtobbbhmkcmbekaaDoor.bigs
open Go.RowKit

theorem append_types (w : World) (ty : TypeId) (b a : Option Addr) (n c m d : Nat) :
    (Builtin.append_ #[51, 52] ty #[.slice b n c, .slice a m d]).run Tryd.prog w = (Builtin.append_ #[51, 51] ty #[.slice b n c, .slice a m d]).run Tryd.prog w := by
  simp [Builtin.append_, Sem.run_bind, run_underlying Tryd.underlying51, run_underlying Tryd.underlying52]
theorem own_slice {w : World} {base e n : Nat} {v : Value} {xs : List Value} (h : w.ownsRow base e 1 v n xs) : ∃ b c, v = .slice b n c := by
  rcases h.2 with ⟨rfl, rfl⟩ | ⟨g, cap, cur, rfl, _⟩
  · exact ⟨_, _, rfl⟩
  · exact ⟨_, _, rfl⟩

theorem run_append_row (w : World) (ty : TypeId) (base : Nat) (v : Value) (n : Nat) (xs : List Value) (hown : w.ownsRow base 3 1 v n xs) (a : Option Addr) (l : List Nat) (c : Nat) (hr : Row w a l)
    (hb : (n + l.length) * 8 ≤ 140737488355328) (hbase : base ≤ w.heap.size) :
    ∃ v' w', (Builtin.append_ #[51, 52] ty #[v, .slice a l.length c]).run Tryd.prog w = .ok v' w' ∧ w'.ownsRow base 3 1 v' (n + l.length) (xs ++ l.map num) ∧ w.grownBy w' v.ownBlock := by
  obtain ⟨i0, hi, hz0, hz1, hz2⟩ := info_parts infoInt
  obtain ⟨vb, vc, rfl⟩ := own_slice hown
  rw [append_types]
  cases a with
  | none =>
    have hl : l = [] := by
      by_cases h : l = []
      · exact h
      · obtain ⟨b, o, e, _⟩ := hr h
        cases e
    subst hl
    refine ⟨.slice vb n vc, w, ?_, by simpa using hown, ⟨rfl, rfl, rfl, Nat.le_refl _, fun _ _ _ => rfl⟩⟩
    rcases hown.2 with ⟨e, rfl⟩ | ⟨g, cap, cur, e, hbg, hg, hnc, _⟩
    · rw [e]
      simp [Builtin.append_, run_underlying Tryd.underlying51, sizeOf, typeInfo, hi, Builtin.lenOf, Builtin.firstCells]
    · rw [e]
      simp [Builtin.append_, run_underlying Tryd.underlying51, sizeOf, typeInfo, hi, Builtin.lenOf, Builtin.firstCells, hnc, storeCells]
  | some ad =>
    obtain ⟨v', w', h1, h2, h3, _⟩ := run_append_own (P := Tryd.prog) w base 51 ty 3 i0 (.int .i64 0) 1 8 Tryd.underlying51 hi hz0 hz1 hz2 rfl (by decide) _ n xs hown ad l.length c (l.map num) (by simp) (fun j u hu => by
      have hj : j < l.length := by
        have := (List.getElem?_eq_some_iff.1 hu).1
        simpa using this
      obtain ⟨b, o, e, _, hc⟩ := hr (by intro e; rw [e] at hj; simp at hj)
      cases e
      have hcj := hc j hj
      have hu' : u = .int .i64 ((l.getD j 0 : Nat) : Int) := by
        rw [List.getElem?_map, List.getElem?_eq_getElem hj] at hu
        simp at hu
        rw [← hu]
        simp [num, List.getD, List.getElem?_eq_getElem hj]
      rw [hu']
      have hadd : (⟨b, o, none⟩ : Addr).add j = ⟨b, o + j, none⟩ := by unfold Addr.add; split <;> simp_all
      rw [hadd]
      exact hcj) (fun u hu => by
        obtain ⟨x, _, rfl⟩ := List.mem_map.1 hu
        rfl) (by unfold maxLen; omega) hb hbase
    exact ⟨v', w', h1, h2, h3⟩

theorem wpList_append_row (w : World) {ops : Array Oper} {rest : List Oper} {o : Oper} {a : Act} {Q : Exit → Act → World → Prop} (hgd : o.guard = none) (s x : Operand)
    (ho : o.op = .call { callee := .builtin .append, args := #[s, x], argTypes := #[51, 52] }) (base : Nat) (v : Value) (n : Nat) (xs : List Value) (hs : a.eval s = v) (hown : w.ownsRow base 3 1 v n xs)
    (ad : Option Addr) (l : List Nat) (c : Nat) (hx : a.eval x = .slice ad l.length c) (hr : Row w ad l) (hb : (n + l.length) * 8 ≤ 140737488355328) (hbase : base ≤ w.heap.size)
    (h : ∀ v' w', w'.ownsRow base 3 1 v' (n + l.length) (xs ++ l.map num) → w.grownBy w' v.ownBlock → wpList Tryd.prog ops Q rest (a.put o.dst v') w') : wpList Tryd.prog ops Q (o :: rest) a w := by
  refine wpList_plain hgd fun K hK => ?_
  obtain ⟨v', w', h1, h2, h3⟩ := run_append_row w o.type base v n xs hown ad l c hr hb hbase
  unfold Oper.wp execOp
  simp only [ho, resolve, invoke, builtin, Sem.run_bind, Sem.run_pure, Result.andThen_ok, List.map_toArray, List.map_cons, List.map_nil, hs, hx, h1]
  exact hK _ _ (h v' w' h2 h3)

theorem own_heap {w : World} {base e n c g : Nat} {xs : List Value} (h : w.ownsRow base e 1 (.slice (some ⟨g, 0, none⟩) n c) n xs) : ∃ cur, w.heap[g]? = some (.cells cur e (0, 0)) := by
  rcases h.2 with ⟨h, _⟩ | ⟨g', cap, cur, h, _, hg, _⟩
  · cases h
  · simp only [Value.slice.injEq, Option.some.injEq, Addr.mk.injEq, and_true, true_and] at h
    obtain ⟨rfl, _⟩ := h
    exact ⟨cur, hg⟩
theorem own_below {w w' : World} {base e n : Nat} {v : Value} {xs : List Value} (h : w.ownsRow base e 1 v n xs) (hb : Below w.heap.size w w') : w'.ownsRow base e 1 v n xs := by
  refine ⟨h.1, ?_⟩
  rcases h.2 with hn | ⟨g, cap, cur, e, h1, hg, rest⟩
  · exact .inl hn
  · refine .inr ⟨g, cap, cur, e, h1, ?_, rest⟩
    rw [hb.block g (Array.getElem?_eq_some_iff.1 hg).1]
    exact hg
theorem Lies.setCell {w : World} {v : Value} {n : Nat} (h : Lies w v n) (g k : Nat) (u : Value) (hne : ∀ b, v.ownBlock = some b → b ≠ g) : Lies (w.setCell ⟨g, k, none⟩ u) v n := by
  obtain ⟨a, cap, rfl, hc, hr⟩ := h
  refine ⟨a, cap, rfl, hc, fun h0 => ?_⟩
  obtain ⟨b, o, rfl, hb, hcell⟩ := hr h0
  have hbg := hne b rfl
  refine ⟨b, o, rfl, by simpa using hb, fun j hj => ?_⟩
  rw [← hcell j hj]
  exact World.cell?_of_block (Below.heap_setCell w ⟨g, k, none⟩ u b hbg)
theorem dig_mul_len {n d : Nat} (h : d < 10000) : (dig (n * d)).length ≤ (dig n).length + 1 := by
  apply dig_length_le
  rw [Nat.pow_succ]
  have h1 := lt_pow_dig n
  by_cases h0 : d = 0
  · subst h0
    have : 0 < 10000 ^ (dig n).length := Nat.pow_pos (by omega)
    omega
  · have h2 : n * d < 10000 ^ (dig n).length * d := Nat.mul_lt_mul_of_pos_right h1 (by omega)
    have h3 : 10000 ^ (dig n).length * d ≤ 10000 ^ (dig n).length * 10000 := Nat.mul_le_mul_left _ (by omega)
    omega
theorem dig_lt_len {n R : Nat} (h : R < n * 10000) : (dig R).length ≤ (dig n).length + 1 := by
  apply dig_length_le
  rw [Nat.pow_succ]
  have h1 := lt_pow_dig n
  exact Nat.lt_of_lt_of_le h (Nat.mul_le_mul_right _ (Nat.le_of_lt h1))
theorem dig_one_len {d : Nat} (h : d < 10000) : (dig d).length ≤ 1 := dig_length_le (by simpa using h)
theorem drop_set_val (l : List Nat) (k d : Nat) (h : k < l.length) : val ((l.set k d).drop k) = d + 10000 * val (l.drop (k + 1)) := by
  rw [drop_val]
  have e1 : (l.set k d).getD k 0 = d := by simp [List.getD, h]
  have e2 : (l.set k d).drop (k + 1) = l.drop (k + 1) := by rw [List.drop_set_of_lt (by omega)]
  rw [e1, e2]
/-- A round of the division. -/
theorem over_round {H Q r n a lo : Nat} (h : H = Q * n + r) (hlo : n * lo ≤ a + 10000 * r) : a + 10000 * H = (lo + 10000 * Q) * n + (a + 10000 * r - n * lo) := by
  rw [h, Nat.add_mul, Nat.mul_comm lo n, Nat.mul_assoc]
  omega
theorem over_end {m n Q r : Nat} (h : m = Q * n + r) (hr : r < n) : m / n = Q ∧ m % n = r := by
  refine (Nat.div_mod_unique (by omega)).2 ⟨?_, hr⟩
  rw [h, Nat.mul_comm]
  omega

end Go.Proofs.YtobbbhmkcmbekaaDoor.bigs
