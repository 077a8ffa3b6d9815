/- The walk of the law's covers. -/
import Derived.Test.YtoikdjbgeebadaaTreeCloneW
import Derived.Deep.RegionHeldLaw
set_option linter.unusedVariables false
namespace Go.Proofs.Ytoikdjbgeebadaa.trees
open Go.RowKit
open toks

/-- The row that covers goes through: the kids, and one behind them. -/
structure CRow (w : World) (g n : Nat) (A E : Nat → Nat) : Prop where
  cells : ∀ i, i ≤ n → ∃ (k0 : Nat) (p0 : Option Addr) (n0 c0 : Nat), w.cell? ⟨g, i * 4, none⟩ = some (.int .i64 (k0 : Int)) ∧ w.cell? ⟨g, i * 4 + 1, none⟩ = some (.int .i64 (A i : Int)) ∧ w.cell? ⟨g, i * 4 + 2, none⟩ = some (.int .i64 (E i : Int)) ∧ w.cell? ⟨g, i * 4 + 3, none⟩ = some (.slice p0 n0 c0)
  lt : g < w.heap.size
theorem CRow.below {w w' : World} {g n : Nat} {A E : Nat → Nat} (h : CRow w g n A E) (hb : Below w.heap.size w w') : CRow w' g n A E := by
  refine ⟨fun i hi => ?_, Nat.lt_of_lt_of_le h.lt hb.size⟩
  obtain ⟨k0, p0, n0, c0, h1, h2, h3, h4⟩ := h.cells i hi
  refine ⟨k0, p0, n0, c0, ?_, ?_, ?_, ?_⟩
  · rw [hb.cell (p := ⟨g, i * 4, none⟩) h.lt]; exact h1
  · rw [hb.cell (p := ⟨g, i * 4 + 1, none⟩) h.lt]; exact h2
  · rw [hb.cell (p := ⟨g, i * 4 + 2, none⟩) h.lt]; exact h3
  · rw [hb.cell (p := ⟨g, i * 4 + 3, none⟩) h.lt]; exact h4
/-- What covers tests, place by place. -/
structure CPlan (ll : List Tk) (e n : Nat) (at' A E : Nat → Nat) : Prop where
  here : ∀ i, i ≤ n → at' i ≤ A i ∧ A i ≤ E i ∧ E i ≤ e ∧ (0 < n → Clear ll (at' i) (A i)) ∧ at' (i + 1) = E i
def numA (e : Nat) (l : List T) (i : Nat) : Nat := match l[i]? with | some (.slice _ [.held (_, a, _)]) => a | _ => e
def numE (e : Nat) (l : List T) (i : Nat) : Nat := match l[i]? with | some (.slice _ [.held (_, _, x)]) => x | _ => e
theorem num_kid {e : Nat} {l : List T} {i : Nat} (h : i < l.length) {k a' e' : Nat} {l' : List T} (hi : l[i] = nd k a' e' l') : numA e l i = a' ∧ numE e l i = e' := by
  unfold numA numE
  rw [List.getElem?_eq_getElem h, hi]
  exact ⟨rfl, rfl⟩
theorem num_end {e : Nat} {l : List T} : numA e l l.length = e ∧ numE e l l.length = e := by
  unfold numA numE
  rw [List.getElem?_eq_none (Nat.le_refl _)]
  exact ⟨rfl, rfl⟩
def atN (a : Nat) (e : Nat) (l : List T) : Nat → Nat
  | 0 => a
  | i + 1 => numE e l i
theorem cplan (ll : List Tk) {a e : Nat} {l : List T} (hae : a ≤ e) (hc : l ≠ [] → CovL ll e a l) : CPlan ll e l.length (atN a e l) (numA e l) (numE e l) := by
  refine ⟨fun i hi => ?_⟩
  by_cases hl : l = []
  · subst hl
    have : i = 0 := by simpa using hi
    subst this
    obtain ⟨h1, h2⟩ := num_end (e := e) (l := [])
    rw [List.length_nil] at h1 h2
    rw [h1, h2]
    exact ⟨hae, Nat.le_refl _, Nat.le_refl _, fun h => absurd h (Nat.lt_irrefl _), h2⟩
  · obtain ⟨c1, c2, c3⟩ := covL_at ll e l a (hc hl)
    have hat : ∀ j, j ≤ l.length → atN a e l j = atK a l j := fun j hj => by
      cases j with
      | zero => rfl
      | succ j =>
        obtain ⟨k, a', e', l', h1, _⟩ := c1 j hj
        show numE e l j = endT (l.getD j _)
        rw [(num_kid hj h1).2, List.getD_eq_getElem?_getD, List.getElem?_eq_getElem hj]
        show e' = endT l[j]
        rw [h1, endT_nd]
    rw [hat i hi]
    rcases Nat.lt_or_ge i l.length with h | h
    · obtain ⟨k, a', e', l', h1, h2, h3, h4, h5⟩ := c1 i h
      obtain ⟨n1, n2⟩ := num_kid (e := e) h h1
      rw [n1, n2]
      exact ⟨h2, h3, h4, fun _ => h5, n2⟩
    · have : i = l.length := by omega
      subst this
      obtain ⟨n1, n2⟩ := num_end (e := e) (l := l)
      rw [n1, n2]
      exact ⟨c2, Nat.le_refl _, Nat.le_refl _, fun _ => c3, n2⟩
/-- The row, in memory. -/
theorem crow_own {ok : Nat → Prop} {f : Nat} {w wk : World} {base g cap e : Nat} {l : List T} {vss : List (List Value)} (hk : KidsIn ok f wk vss l) (h : w.ownsRow base 24 4 (.slice (some ⟨g, 0, none⟩) (l.length + 1) cap) (l.length + 1) (vss.flatten ++ [.int .i64 0, .int .i64 (e : Int), .int .i64 (e : Int), .slice none 0 0])) : CRow w g l.length (numA e l) (numE e l) := by
  have hfl := flat4_len vss hk.lens
  rw [hk.len] at hfl
  have hlt : g < w.heap.size := (h.lt g rfl).2
  refine ⟨fun i hi => ?_, hlt⟩
  have hc : ∀ m, m < 4 → w.cell? ⟨g, i * 4 + m, none⟩ = (vss.flatten ++ [.int .i64 0, .int .i64 (e : Int), .int .i64 (e : Int), .slice none 0 0])[i * 4 + m]? := fun m hm => h.cellAt (i * 4 + m) (by omega)
  rcases Nat.lt_or_ge i l.length with hil | hil
  · have hiv : i < vss.length := by rw [hk.len]; exact hil
    have hL := hk.each i hiv hil
    obtain ⟨k, a', e', l', ht⟩ := hL.nd
    rw [ht] at hL
    have h4 := hL.len
    generalize hvi : vss[i] = vs at *
    match vs, h4 with
    | [x0, x1, x2, x3], _ =>
      obtain ⟨rfl, rfl, rfl, p, c, rfl, _⟩ := hL.node
      obtain ⟨n1, n2⟩ := num_kid (e := e) hil ht
      have hg : ∀ m, m < 4 → w.cell? ⟨g, i * 4 + m, none⟩ = [Value.int .i64 (k : Int), .int .i64 (a' : Int), .int .i64 (e' : Int), .slice p l'.length c][m]? := fun m hm => by
        rw [hc m hm, List.getElem?_append_left (by rw [hfl]; omega), flat4_get vss hk.lens i m hiv hm, hvi]
      rw [n1, n2]
      exact ⟨k, p, l'.length, c, hg 0 (by decide), hg 1 (by decide), hg 2 (by decide), hg 3 (by decide)⟩
  · have : i = l.length := by omega
    subst this
    obtain ⟨n1, n2⟩ := num_end (e := e) (l := l)
    have hg : ∀ m, m < 4 → w.cell? ⟨g, l.length * 4 + m, none⟩ = [Value.int .i64 0, .int .i64 (e : Int), .int .i64 (e : Int), .slice none 0 0][m]? := fun m hm => by
      rw [hc m hm, List.getElem?_append_right (by rw [hfl]; omega), hfl, show l.length * 4 + m - l.length * 4 = m by omega]
    rw [n1, n2]
    exact ⟨0, none, 0, 0, hg 0 (by decide), hg 1 (by decide), hg 2 (by decide), hg 3 (by decide)⟩
end Go.Proofs.Ytoikdjbgeebadaa.trees
