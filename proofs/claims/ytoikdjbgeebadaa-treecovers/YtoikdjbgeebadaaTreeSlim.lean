/- How many kids a node can have; a node's cells one by one: plain mathematics, and memory. -/
import Derived.Test.YtoikdjbgeebadaaTreeFirstL
set_option linter.unusedVariables false
namespace Go.Proofs.Ytoikdjbgeebadaa.trees
open Go.RowKit
open toks

/-- No node of the tree has more than so many kids. -/
def Slim (N : Nat) : Nat → T → Prop
  | 0, _ => False
  | f + 1, t => ∃ k a e l, t = nd k a e l ∧ l.length ≤ N ∧ ∀ (j : Nat) (h : j < l.length), Slim N f l[j]
theorem slim_up (N : Nat) : ∀ (f : Nat) (t : T), Slim N f t → Slim N (f + 1) t
  | 0, _, h => h.elim
  | f + 1, t, h => by
    obtain ⟨k, a, e, l, rfl, h1, h2⟩ := h
    exact ⟨k, a, e, l, rfl, h1, fun j hj => slim_up N f _ (h2 j hj)⟩
def SlimQ (N f : Nat) (q : List Sym → R) : Prop := ∀ ts t r, ts.length ≤ N → q ts = .inr (t, r) → Slim N f t
theorem kids_slim {N f : Nat} {q : List Sym → R} {ec : UInt8} (hq : SlimQ N f q) (hl : Loc q) : ∀ (l : List T) (ts : List Sym) (e : Nat) (r : List Sym), ts.length ≤ N → Kids q ec l ts e r → l.length ≤ ts.length ∧ ∀ (j : Nat) (h : j < l.length), Slim N f l[j]
  | [], ts, e, r, hN, h => ⟨Nat.zero_le _, fun j h => by simp at h⟩
  | t :: l, ts, e, r, hN, h => by
    obtain ⟨x, r0, y, r1, rfl, hx, hqt, h⟩ := h
    have h1 := hq _ _ _ hN hqt
    have h2 := loc_less hl hqt
    rw [List.length_cons] at h2
    rcases h with ⟨_, hk⟩ | ⟨_, _, rfl, _, _⟩
    · obtain ⟨i1, i2⟩ := kids_slim hq hl l r1 e r (by omega) hk
      refine ⟨by rw [List.length_cons]; omega, fun j hj => ?_⟩
      cases j with
      | zero => exact h1
      | succ j => exact i2 j (by simpa using hj)
    · refine ⟨by simp, fun j hj => ?_⟩
      cases j with
      | zero => exact h1
      | succ j => simp at hj
theorem ent_slim {N f : Nat} {q : List Sym → R} (hN : 2 ≤ N) (hq : SlimQ N f q) : SlimQ N (f + 1) (entP q) := by
  intro ts t r hl h
  match ts with
  | [] => cases h
  | [x] =>
    rw [ent_one] at h
    split at h <;> cases h
  | x :: m :: r1 =>
    rw [ent_two] at h
    split at h
    · split at h
      · split at h
        · cases h
        · rename_i v r2 hv
          injection h with h
          injection h with h1 h2
          subst h1
          have hs := hq r1 v r2 (by simp only [List.length_cons] at hl; omega) hv
          refine ⟨_, _, _, _, rfl, hN, fun j hj => ?_⟩
          match j, hj with
          | 0, _ =>
            cases f with
            | zero => exact hs.elim
            | succ f => exact ⟨2, x.2, x.2 + 1, [], rfl, Nat.zero_le _, fun j h => by simp at h⟩
          | 1, _ => exact hs
      · cases h
    · cases h
theorem pv_slim {N : Nat} (hN : 2 ≤ N) : ∀ lv, SlimQ N (2 * lv) (pv lv)
  | 0 => fun ts t r hl h => by
    cases ts with
    | nil => cases h
    | cons x r => unfold pv at h; split at h <;> cases h
  | lv + 1 => fun ts t r hl h => by
    have ih := pv_slim hN lv
    cases ts with
    | nil => cases h
    | cons x r0 =>
      have hl' : r0.length ≤ N := by rw [List.length_cons] at hl; omega
      rw [pv] at h
      split at h
      · injection h with h
        injection h with h1 h2
        subst h1
        exact ⟨1, x.2, x.2 + 1, [], rfl, Nat.zero_le _, fun j h => by simp at h⟩
      · split at h
        · obtain ⟨l, e, rfl, hk⟩ := loop_kids _ _ _ _ _ _ _ _ _ h
          obtain ⟨i1, i2⟩ := kids_slim (ent_slim hN ih) (ent_loc (pv_loc lv)) l r0 e r hl' hk
          exact ⟨3, x.2, e, l, by rw [List.nil_append], by omega, i2⟩
        · split at h
          · obtain ⟨l, e, rfl, hk⟩ := loop_kids _ _ _ _ _ _ _ _ _ h
            obtain ⟨i1, i2⟩ := kids_slim ih (pv_loc lv) l r0 e r hl' hk
            exact ⟨5, x.2, e, l, by rw [List.nil_append], by omega, fun j hj => slim_up N _ _ (i2 j hj)⟩
          · cases h
theorem sols_len (s : ByteArray) (hs : s.size ≤ 20000) : (sols s.data.toList).length ≤ 20000 := by
  have h1 := sol_len s.data.toList (toksL s.data.toList) 0
  have h2 := (good s hs).len
  exact Nat.le_trans h1 h2
/-- A document's tree. -/
theorem doc_slim (s : ByteArray) (hs : s.size ≤ 20000) {t : T} (h : pd (sols s.data.toList) = .inr (t, [])) (n : Nat) : Slim 20000 41 (nd 6 0 n [t]) := by
  have hv := val_alone (pd_val h).2
  have h1 := pv_slim (N := 20000) (by decide) 20 _ _ _ (sols_len s hs) hv
  refine ⟨6, 0, n, [t], rfl, by simp, fun j hj => ?_⟩
  match j, hj with
  | 0, _ => exact h1
/-- A node's cells, and those of its kids. -/
theorem Lies.kids {ok : Nat → Prop} {f : Nat} {w : World} {u0 u1 u2 u3 : Value} {k a e : Nat} {l : List T} (h : Lies ok (f + 1) w [u0, u1, u2, u3] (nd k a e l)) :
    ∃ p c, u0 = .int .i64 (k : Int) ∧ u1 = .int .i64 (a : Int) ∧ u2 = .int .i64 (e : Int) ∧ u3 = .slice p l.length c ∧ l.length ≤ c ∧ (l ≠ [] → ∃ b o, p = some ⟨b, o, none⟩ ∧ b < w.heap.size ∧ ∀ (j : Nat) (h : j < l.length), ∃ x0 x1 x2 x3, w.cell? ⟨b, o + j * 4, none⟩ = some x0 ∧ w.cell? ⟨b, o + j * 4 + 1, none⟩ = some x1 ∧ w.cell? ⟨b, o + j * 4 + 2, none⟩ = some x2 ∧ w.cell? ⟨b, o + j * 4 + 3, none⟩ = some x3 ∧ Lies ok f w [x0, x1, x2, x3] l[j]) := by
  obtain ⟨k', a', e', l', p, cap, ht, hv, hc, hk⟩ := h
  obtain ⟨rfl, rfl, rfl, rfl⟩ := nd_inj ht
  injection hv with h0 hv
  injection hv with h1 hv
  injection hv with h2 hv
  injection hv with h3 _
  refine ⟨p, cap, h0, h1, h2, h3, hc, fun hl => ?_⟩
  obtain ⟨b, o, hp, _, hlt, hj⟩ := hk hl
  refine ⟨b, o, hp, hlt, fun j h => ?_⟩
  obtain ⟨us, hus, hcell, hL⟩ := hj j h
  match us, hus with
  | [x0, x1, x2, x3], _ => exact ⟨x0, x1, x2, x3, hcell 0 (by decide), hcell 1 (by decide), hcell 2 (by decide), hcell 3 (by decide), hL⟩
end Go.Proofs.Ytoikdjbgeebadaa.trees
