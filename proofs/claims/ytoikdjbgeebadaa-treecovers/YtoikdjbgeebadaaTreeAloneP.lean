/- What a node within a document can be: plain mathematics. -/
import Derived.Test.YtoikdjbgeebadaaTreeMovedW
import Derived.Test.YtoikdjbgeebadaaTreeSrcW
set_option linter.unusedVariables false
namespace Go.Proofs.Ytoikdjbgeebadaa.trees
open Go.RowKit
open toks

/-- The document, a value, an entry or a key. -/
def Role (L : List UInt8) (t : T) : Prop :=
  (∃ n t1, t = nd 6 0 n [t1] ∧ IsVal t1 (sols L)) ∨ (∃ seg, Part seg (sols L) ∧ IsVal t seg) ∨ (∃ seg, Part seg (sols L) ∧ IsEnt t seg) ∨ (∃ a, t = nd 2 a (a + 1) [])
theorem role_kid {L : List UInt8} {k a e : Nat} {l : List T} (h : Role L (nd k a e l)) (j : Nat) (hj : j < l.length) : Role L l[j] := by
  rcases h with ⟨n, t1, h1, hv⟩ | ⟨seg, hp, hv⟩ | ⟨seg, hp, hv⟩ | ⟨a', h1⟩
  · obtain ⟨_, _, _, rfl⟩ := nd_inj h1
    match j, hj with
    | 0, _ => exact .inr (.inl ⟨_, part_refl _, hv⟩)
  · rcases val_kids hv with ⟨_, rfl⟩ | ⟨_, h1⟩ | ⟨_, h1⟩
    · simp at hj
    · obtain ⟨s2, p2, h2⟩ := h1 j hj
      exact .inr (.inr (.inl ⟨s2, p2.trans hp, h2⟩))
    · obtain ⟨s2, p2, h2⟩ := h1 j hj
      exact .inr (.inl ⟨s2, p2.trans hp, h2⟩)
  · obtain ⟨a', e', v, s2, h1, p2, h2⟩ := ent_kids hv
    obtain ⟨_, _, _, rfl⟩ := nd_inj h1
    match j, hj with
    | 0, _ => exact .inr (.inr (.inr ⟨a', rfl⟩))
    | 1, _ => exact .inr (.inl ⟨s2, p2.trans hp, h2⟩)
  · obtain ⟨_, _, _, rfl⟩ := nd_inj h1
    simp at hj
theorem slim_to {N f g : Nat} {t : T} (hfg : f ≤ g) (h : Slim N f t) : Slim N g t := by
  induction g with
  | zero =>
    have : f = 0 := by omega
    subst this
    exact h
  | succ g ih =>
    by_cases e : f = g + 1
    · subst e; exact h
    · exact slim_up N g _ (ih (by omega))
theorem cov_to {l : List Tk} {f g : Nat} {t : T} (hfg : f ≤ g) (h : CovT l f t) : CovT l g t := by
  induction g with
  | zero =>
    have : f = 0 := by omega
    subst this
    exact h
  | succ g ih =>
    by_cases e : f = g + 1
    · subst e; exact h
    · exact cov_up l g _ (ih (by omega))
/-- All that is known of a node within a document. -/
structure Know (L : List UInt8) (ll : List Tk) (ok : Nat → Prop) (w : World) (vs : List Value) (t : T) : Prop where
  lies : Lies ok 42 w vs t
  role : Role L t
  slim : Slim 20000 42 t
  cov : CovT ll 42 t
theorem slim_nd {N f k a e : Nat} {l : List T} (h : Slim N (f + 1) (nd k a e l)) : l.length ≤ N ∧ ∀ (j : Nat) (h : j < l.length), Slim N f l[j] := by
  obtain ⟨_, _, _, _, h1, h2, h3⟩ := h
  obtain ⟨rfl, rfl, rfl, rfl⟩ := nd_inj h1
  exact ⟨h2, h3⟩
theorem cov_nd {ll : List Tk} {f k a e : Nat} {l : List T} (h : CovT ll (f + 1) (nd k a e l)) : a ≤ e ∧ e ≤ ll.length ∧ (l ≠ [] → CovL ll e a l) ∧ ∀ (j : Nat) (h : j < l.length), CovT ll f l[j] := by
  obtain ⟨_, _, _, _, h1, h2, h3, h4, h5⟩ := h
  obtain ⟨rfl, rfl, rfl, rfl⟩ := nd_inj h1
  exact ⟨h2, h3, h4, h5⟩
theorem Lies.nd {ok : Nat → Prop} {f : Nat} {w : World} {vs : List Value} {t : T} (h : Lies ok f w vs t) : ∃ k a e l, t = nd k a e l := by
  cases f with
  | zero => exact h.elim
  | succ f =>
    obtain ⟨k, a, e, l, _, _, h1, _⟩ := h
    exact ⟨k, a, e, l, h1⟩
/-- A node's kid, with all that is known of it. -/
theorem Know.kid {L : List UInt8} {ll : List Tk} {ok : Nat → Prop} {w : World} {u0 u1 u2 u3 : Value} {k a e : Nat} {l : List T} (h : Know L ll ok w [u0, u1, u2, u3] (nd k a e l)) : ∃ p c, u0 = .int .i64 (k : Int) ∧ u1 = .int .i64 (a : Int) ∧ u2 = .int .i64 (e : Int) ∧ u3 = .slice p l.length c ∧ l.length ≤ 20000 ∧ e ≤ ll.length ∧ (l ≠ [] → ∃ b o, p = some ⟨b, o, none⟩ ∧ ok b ∧ b < w.heap.size ∧ ∀ (j : Nat) (h : j < l.length), ∃ x0 x1 x2 x3, w.cell? ⟨b, o + j * 4, none⟩ = some x0 ∧ w.cell? ⟨b, o + j * 4 + 1, none⟩ = some x1 ∧ w.cell? ⟨b, o + j * 4 + 2, none⟩ = some x2 ∧ w.cell? ⟨b, o + j * 4 + 3, none⟩ = some x3 ∧ Know L ll ok w [x0, x1, x2, x3] l[j]) := by
  have hs := slim_nd h.slim
  have hc := cov_nd h.cov
  have hr := fun j hj => role_kid h.role j hj
  obtain ⟨k', a', e', l', p, cap, ht, hv, hcap, hk⟩ := h.lies
  obtain ⟨rfl, rfl, rfl, rfl⟩ := nd_inj ht
  injection hv with h0 hv
  injection hv with h1 hv
  injection hv with h2 hv
  injection hv with h3 _
  refine ⟨p, cap, h0, h1, h2, h3, hs.1, hc.2.1, fun hl => ?_⟩
  obtain ⟨b, o, hp, hok, hlt, hj⟩ := hk hl
  refine ⟨b, o, hp, hok, hlt, fun j h => ?_⟩
  obtain ⟨us, hus, hcell, hL⟩ := hj j h
  match us, hus with
  | [x0, x1, x2, x3], _ => exact ⟨x0, x1, x2, x3, hcell 0 (by decide), hcell 1 (by decide), hcell 2 (by decide), hcell 3 (by decide), hL.up, hr j h, slim_up _ _ _ (hs.2 j h), cov_up _ _ _ (hc.2.2.2 j h)⟩
theorem Know.kept {L : List UInt8} {ll : List Tk} {ok : Nat → Prop} {w w' : World} {vs : List Value} {t : T} (h : Know L ll ok w vs t) (hs : w.heap.size ≤ w'.heap.size) (hb : ∀ b, ok b → b < w.heap.size → w'.heap[b]? = w.heap[b]?) : Know L ll ok w' vs t := ⟨h.lies.kept hs hb, h.role, h.slim, h.cov⟩
theorem Know.below {L : List UInt8} {ll : List Tk} {ok : Nat → Prop} {w w' : World} {vs : List Value} {t : T} (h : Know L ll ok w vs t) (hb : Below w.heap.size w w') : Know L ll ok w' vs t := ⟨h.lies.below hb, h.role, h.slim, h.cov⟩
/-- The document itself. -/
theorem know_doc (s : ByteArray) (hs : s.size ≤ 20000) {ok : Nat → Prop} {w : World} {vs : List Value} {t : T} (hp : pd (sols s.data.toList) = .inr (t, [])) (hL : Lies ok 41 w vs (nd 6 0 (toksL s.data.toList).length [t])) : Know s.data.toList (toksL s.data.toList) ok w vs (nd 6 0 (toksL s.data.toList).length [t]) :=
  ⟨hL.up, .inl ⟨_, t, rfl, (pd_val hp).2⟩, slim_up _ _ _ (doc_slim s hs hp _), doc_cov _ t hp⟩
/-- The kinds, by what a node is. -/
theorem role_kind {L : List UInt8} {k a e : Nat} {l : List T} (h : Role L (nd k a e l)) : (k = 6 ∧ ¬ k = 4) ∨ (k = 2 ∧ ¬ k = 4) ∨ (k = 4 ∧ l.length = 2 ∧ ∀ h : 1 < l.length, ∃ seg, Part seg (sols L) ∧ IsVal l[1] seg) ∨ ((k = 1 ∨ k = 3 ∨ k = 5) ∧ ∃ seg, Part seg (sols L) ∧ IsVal (nd k a e l) seg) := by
  rcases h with ⟨n, t1, h1, hv⟩ | ⟨seg, hp, hv⟩ | ⟨seg, hp, hv⟩ | ⟨a', h1⟩
  · obtain ⟨rfl, _⟩ := nd_inj h1
    exact .inl ⟨rfl, by decide⟩
  · refine .inr (.inr (.inr ⟨?_, seg, hp, hv⟩))
    rcases val_kids hv with ⟨h1, _⟩ | ⟨h1, _⟩ | ⟨h1, _⟩
    · exact .inl h1
    · exact .inr (.inl h1)
    · exact .inr (.inr h1)
  · obtain ⟨a', e', v, s2, h1, p2, h2⟩ := ent_kids hv
    obtain ⟨rfl, _, _, rfl⟩ := nd_inj h1
    exact .inr (.inr (.inl ⟨rfl, rfl, fun h => ⟨s2, p2.trans hp, h2⟩⟩))
  · obtain ⟨rfl, _⟩ := nd_inj h1
    exact .inr (.inl ⟨rfl, by decide⟩)
/-- The index that the law reckons. -/
theorem index_ok (x : Int) (n : Nat) (hn : 0 < n) (hx : n ≤ 20000) : ∃ (m : Int) (J : Nat), x.tmod (n : Int) = m ∧ -20000 < m ∧ m < 20000 ∧ 0 < m + (n : Int) ∧ (m + (n : Int)).tmod (n : Int) = (J : Int) ∧ (m + (n : Int)) % (n : Int) = (J : Int) ∧ J < n := by
  have h1 : x.tmod (n : Int) < (n : Int) := Int.tmod_lt_of_pos x (by omega)
  have h2 : -(n : Int) < x.tmod (n : Int) := Int.lt_tmod_of_pos x (by omega)
  have h3 : 0 ≤ (x.tmod (n : Int) + (n : Int)) % (n : Int) := Int.emod_nonneg _ (by omega)
  have h4 : (x.tmod (n : Int) + (n : Int)) % (n : Int) < (n : Int) := Int.emod_lt_of_pos _ (by omega)
  refine ⟨x.tmod (n : Int), ((x.tmod (n : Int) + (n : Int)) % (n : Int)).toNat, rfl, by omega, by omega, by omega, ?_, by omega, by omega⟩
  rw [Int.tmod_eq_emod_of_nonneg (by omega)]
  omega
/-- A value's text alone. -/
theorem alone_plain (s : ByteArray) (hs : s.size ≤ 20000) {k a e : Nat} {l : List T} {seg : List Sym} (hp : Part seg (sols s.data.toList)) (hv : IsVal (nd k a e l) seg) : ∃ (E : Nat) (X : ByteArray) (t' : T), e = E + 1 ∧ a ≤ E ∧ E < (toksL s.data.toList).length ∧ srcN s (toksL s.data.toList) a E = X ∧ X.size ≤ 20000 ∧ pd (sols X.data.toList) = .inr (t', []) ∧ MvT a 42 (nd k a e l) t' := by
  obtain ⟨k', e', l', x, y, ta, tb, t', ht, he', hta, htb, hxy, hft, htl, hpd, hmv⟩ := alone_tree s.data.toList _ seg hp hv
  obtain ⟨_, h2, h3, _⟩ := nd_inj ht
  have hyl : y.2 < (toksL s.data.toList).length := by
    rcases Nat.lt_or_ge y.2 (toksL s.data.toList).length with h | h
    · exact h
    · rw [List.getElem?_eq_none h] at htb
      cases htb
  rw [len_list] at htl
  refine ⟨y.2, _, t', by omega, by omega, hyl, rfl, ?_, ?_, by have hm := mv_up _ _ _ _ hmv; rw [← h2] at hm; exact hm⟩
  · unfold srcN
    rw [ByteArray.size_extract]
    omega
  · have e1 : (srcN s (toksL s.data.toList) a y.2).data.toList = (s.data.toList.drop ta.fro).take (tb.til - ta.fro) := by
      unfold srcN
      rw [ext_list, h2, List.getD_eq_getElem?_getD, hta, List.getD_eq_getElem?_getD, htb]
      show (s.data.toList.take tb.til).drop ta.fro = _
      rw [List.drop_take]
    rw [e1]
    exact hpd
end Go.Proofs.Ytoikdjbgeebadaa.trees
