/- What belongs together: of which signs a node and its kids are: plain mathematics. -/
import Derived.Test.YtoikdjbgeebadaaTreeMore
set_option linter.unusedVariables false
namespace Go.Proofs.Ytoikdjbgeebadaa.trees

/-- What stands between the marks: each kid by signs of its own, a comma between two, the mark at the end. -/
def KSeg (q : List Sym → R) (ec : UInt8) : List T → List Sym → Nat → Prop
  | [], ts, e => ∃ y : Sym, y.1 = ec ∧ ts = [y] ∧ e = y.2 + 1
  | t :: l, ts, e => ∃ (seg : List Sym) (y : Sym) (rest : List Sym), seg ≠ [] ∧ q seg = .inr (t, []) ∧ ts = seg ++ y :: rest ∧ ((y.1 = 44 ∧ KSeg q ec l rest e) ∨ (y.1 = ec ∧ l = [] ∧ rest = [] ∧ e = y.2 + 1))
theorem kids_seg {q : List Sym → R} {ec : UInt8} (hq : Loc q) : ∀ (l : List T) (ts : List Sym) (e : Nat), Kids q ec l ts e [] → KSeg q ec l ts e
  | [], ts, e, h => by
    obtain ⟨x, hx, e1, e2⟩ := h
    exact ⟨x, hx, e1, e2⟩
  | t :: l, ts, e, h => by
    obtain ⟨x, r0, y, r1, rfl, hx, hqt, h⟩ := h
    obtain ⟨p, hp, e1, h2⟩ := hq.good _ _ _ hqt
    have h3 := h2 []
    rw [List.append_nil] at h3
    refine ⟨p, y, r1, hp, h3, e1, ?_⟩
    rcases h with ⟨hy, hk⟩ | ⟨_, hy2, rfl, rfl, rfl⟩
    · exact .inl ⟨hy, kids_seg hq l _ _ hk⟩
    · exact .inr ⟨hy2, rfl, rfl, rfl⟩
/-- A value: a leaf, a table or a list. -/
theorem pv_form {lv : Nat} {seg : List Sym} {t : T} (h : pv lv seg = .inr (t, [])) : ∃ lv', lv = lv' + 1 ∧
    ((∃ x : Sym, seg = [x] ∧ x.1 = 120 ∧ t = nd 1 x.2 (x.2 + 1) []) ∨
     (∃ (x : Sym) (ts : List Sym) (l : List T) (e : Nat), seg = x :: ts ∧ x.1 = 123 ∧ t = nd 3 x.2 e l ∧ KSeg (entP (pv lv')) 125 l ts e) ∨
     (∃ (x : Sym) (ts : List Sym) (l : List T) (e : Nat), seg = x :: ts ∧ x.1 = 91 ∧ t = nd 5 x.2 e l ∧ KSeg (pv lv') 93 l ts e)) := by
  cases lv with
  | zero =>
    cases seg with
    | nil => cases h
    | cons x r => unfold pv at h; split at h <;> cases h
  | succ lv =>
    refine ⟨lv, rfl, ?_⟩
    cases seg with
    | nil => cases h
    | cons x r =>
      rw [pv] at h
      split at h
      · rename_i hx
        injection h with h
        injection h with h1 h2
        subst h1 h2
        exact .inl ⟨x, rfl, hx, rfl⟩
      · split at h
        · rename_i hx
          obtain ⟨l, e, rfl, hk⟩ := loop_kids _ _ _ _ _ _ _ _ _ h
          exact .inr (.inl ⟨x, r, l, e, rfl, hx, rfl, kids_seg (ent_loc (pv_loc lv)) l r e hk⟩)
        · split at h
          · rename_i hx
            obtain ⟨l, e, rfl, hk⟩ := loop_kids _ _ _ _ _ _ _ _ _ h
            exact .inr (.inr ⟨x, r, l, e, rfl, hx, rfl, kids_seg (pv_loc lv) l r e hk⟩)
          · cases h
theorem ent_form {q : List Sym → R} {seg : List Sym} {t : T} (h : entP q seg = .inr (t, [])) : ∃ (x m : Sym) (sv : List Sym) (v : T), seg = x :: m :: sv ∧ x.1 = 120 ∧ (m.1 = 58 ∨ m.1 = 61) ∧ q sv = .inr (v, []) ∧ t = nd 4 x.2 (endT v) [nd 2 x.2 (x.2 + 1) [], v] := by
  match seg with
  | [] => cases h
  | [x] =>
    rw [ent_one] at h
    split at h <;> cases h
  | x :: m :: r1 =>
    rw [ent_two] at h
    split at h
    · rename_i hx
      split at h
      · rename_i hm
        split at h
        · cases h
        · rename_i v r2 hv
          injection h with h
          injection h with h1 h2
          subst h1 h2
          exact ⟨x, m, r1, v, rfl, hx, hm, hv, rfl⟩
      · cases h
    · cases h
theorem last_snoc (p : List Sym) (y : Sym) : (p ++ [y]).getLast? = some y := by simp
theorem last_cons {x y : Sym} {p : List Sym} (h : p.getLast? = some y) : (x :: p).getLast? = some y := by
  cases p with
  | nil => simp at h
  | cons a b => rw [List.getLast?_cons_cons]; exact h
theorem last_app {p s : List Sym} {y : Sym} (h : s.getLast? = some y) : (p ++ s).getLast? = some y := by
  rw [List.getLast?_append, h]
  rfl
theorem kseg_last {q : List Sym → R} {ec : UInt8} : ∀ (l : List T) (ts : List Sym) (e : Nat), KSeg q ec l ts e → ∃ y : Sym, ts.getLast? = some y ∧ y.1 = ec ∧ e = y.2 + 1
  | [], ts, e, h => by
    obtain ⟨y, hy, rfl, he⟩ := h
    exact ⟨y, rfl, hy, he⟩
  | t :: l, ts, e, h => by
    obtain ⟨seg, y, rest, _, _, rfl, h⟩ := h
    rcases h with ⟨_, hk⟩ | ⟨hy, rfl, rfl, he⟩
    · obtain ⟨z, h1, h2, h3⟩ := kseg_last l rest e hk
      exact ⟨z, last_app (last_cons h1), h2, h3⟩
    · exact ⟨y, last_app rfl, hy, he⟩
/-- A value's first sign has the number of its first token, its last one that of its last. -/
theorem pv_ends {lv : Nat} {seg : List Sym} {t : T} (h : pv lv seg = .inr (t, [])) : ∃ (k e : Nat) (l : List T) (x y : Sym), t = nd k x.2 e l ∧ seg.head? = some x ∧ seg.getLast? = some y ∧ e = y.2 + 1 ∧ (k = 1 ∨ k = 3 ∨ k = 5) := by
  obtain ⟨lv', rfl, hf⟩ := pv_form h
  rcases hf with ⟨x, rfl, _, rfl⟩ | ⟨x, ts, l, e, rfl, _, rfl, hk⟩ | ⟨x, ts, l, e, rfl, _, rfl, hk⟩
  · exact ⟨1, _, [], x, x, rfl, rfl, rfl, rfl, .inl rfl⟩
  · obtain ⟨y, h1, _, h3⟩ := kseg_last l ts e hk
    exact ⟨3, e, l, x, y, rfl, rfl, last_cons h1, h3, .inr (.inl rfl)⟩
  · obtain ⟨y, h1, _, h3⟩ := kseg_last l ts e hk
    exact ⟨5, e, l, x, y, rfl, rfl, last_cons h1, h3, .inr (.inr rfl)⟩
theorem ent_ends {lv : Nat} {seg : List Sym} {t : T} (h : entP (pv lv) seg = .inr (t, [])) : ∃ (e : Nat) (l : List T) (x y : Sym), t = nd 4 x.2 e l ∧ seg.head? = some x ∧ seg.getLast? = some y ∧ e = y.2 + 1 := by
  obtain ⟨x, m, sv, v, rfl, _, _, hv, rfl⟩ := ent_form h
  obtain ⟨k, e, l, x2, y, rfl, _, h2, h3, _⟩ := pv_ends hv
  exact ⟨e, _, x, y, by rw [endT_nd], rfl, last_cons (last_cons h2), h3⟩
/-- Each kid is of signs that stand one behind the other. -/
theorem kseg_mem {q : List Sym → R} {ec : UInt8} : ∀ (l : List T) (ts : List Sym) (e : Nat), KSeg q ec l ts e → ∀ (j : Nat) (h : j < l.length), ∃ pre seg post, ts = pre ++ (seg ++ post) ∧ seg ≠ [] ∧ q seg = .inr (l[j], [])
  | [], ts, e, h, j, hj => by simp at hj
  | t :: l, ts, e, h, 0, hj => by
    obtain ⟨seg, y, rest, hs, hq, rfl, _⟩ := h
    exact ⟨[], seg, y :: rest, rfl, hs, hq⟩
  | t :: l, ts, e, h, j + 1, hj => by
    obtain ⟨seg, y, rest, hs, hq, rfl, h⟩ := h
    rcases h with ⟨_, hk⟩ | ⟨_, rfl, _⟩
    · obtain ⟨pre, s2, post, e1, h2, h3⟩ := kseg_mem l rest e hk j (by simpa using hj)
      exact ⟨seg ++ y :: pre, s2, post, by rw [e1]; simp, h2, h3⟩
    · simp at hj
/-- A value that lies anywhere within: it is one alone, too. -/
def IsVal (t : T) (seg : List Sym) : Prop := ∃ lv, lv ≤ 20 ∧ pv lv seg = .inr (t, [])
def IsEnt (t : T) (seg : List Sym) : Prop := ∃ lv, lv ≤ 20 ∧ entP (pv lv) seg = .inr (t, [])
/-- Of these signs, one behind the other, others are a part. -/
def Part (seg ts : List Sym) : Prop := ∃ pre post, ts = pre ++ (seg ++ post)
theorem Part.trans {a b c : List Sym} (h : Part a b) (h' : Part b c) : Part a c := by
  obtain ⟨p, q, rfl⟩ := h
  obtain ⟨p', q', rfl⟩ := h'
  exact ⟨p' ++ p, q ++ q', by simp⟩
theorem part_cons {a b : List Sym} {x : Sym} (h : Part a b) : Part a (x :: b) := by
  obtain ⟨p, q, rfl⟩ := h
  exact ⟨x :: p, q, by simp⟩
theorem part_refl (a : List Sym) : Part a a := ⟨[], [], by simp⟩
theorem val_kids {k a e : Nat} {l : List T} {seg : List Sym} (h : IsVal (nd k a e l) seg) :
    (k = 1 ∧ l = []) ∨ (k = 3 ∧ ∀ (j : Nat) (h : j < l.length), ∃ s, Part s seg ∧ IsEnt l[j] s) ∨ (k = 5 ∧ ∀ (j : Nat) (h : j < l.length), ∃ s, Part s seg ∧ IsVal l[j] s) := by
  obtain ⟨lv, hlv, h⟩ := h
  obtain ⟨lv', rfl, hf⟩ := pv_form h
  rcases hf with ⟨x, rfl, _, h1⟩ | ⟨x, ts, l', e', rfl, _, h1, hk⟩ | ⟨x, ts, l', e', rfl, _, h1, hk⟩
  · obtain ⟨rfl, _, _, rfl⟩ := nd_inj h1
    exact .inl ⟨rfl, rfl⟩
  · obtain ⟨rfl, rfl, rfl, rfl⟩ := nd_inj h1
    refine .inr (.inl ⟨rfl, fun j hj => ?_⟩)
    obtain ⟨pre, s, post, e1, _, h3⟩ := kseg_mem l ts e hk j hj
    exact ⟨s, part_cons ⟨pre, post, e1⟩, lv', by omega, h3⟩
  · obtain ⟨rfl, rfl, rfl, rfl⟩ := nd_inj h1
    refine .inr (.inr ⟨rfl, fun j hj => ?_⟩)
    obtain ⟨pre, s, post, e1, _, h3⟩ := kseg_mem l ts e hk j hj
    exact ⟨s, part_cons ⟨pre, post, e1⟩, lv', by omega, h3⟩
theorem ent_kids {t : T} {seg : List Sym} (h : IsEnt t seg) : ∃ a e v s, t = nd 4 a e [nd 2 a (a + 1) [], v] ∧ Part s seg ∧ IsVal v s := by
  obtain ⟨lv, hlv, h⟩ := h
  obtain ⟨x, m, sv, v, rfl, _, _, hv, rfl⟩ := ent_form h
  exact ⟨x.2, endT v, v, sv, rfl, part_cons (part_cons (part_refl _)), lv, hlv, hv⟩
theorem val_alone {t : T} {seg : List Sym} (h : IsVal t seg) : pv 20 seg = .inr (t, []) := by
  obtain ⟨lv, hlv, h⟩ := h
  exact pv_le hlv _ _ h
/-- A document: a value, and nothing behind it. -/
def pd (ts : List Sym) : R :=
  match pv 20 ts with
  | .inl e => .inl e
  | .inr (t, []) => .inr (t, [])
  | .inr (_, y :: r) => .inl (4, y :: r)
theorem pd_val {ts : List Sym} {t : T} {r : List Sym} (h : pd ts = .inr (t, r)) : r = [] ∧ IsVal t ts := by
  unfold pd at h
  split at h
  · cases h
  · rename_i t1 hq
    injection h with h
    injection h with h1 h2
    subst h1 h2
    exact ⟨rfl, 20, Nat.le_refl _, hq⟩
  · cases h
/-- Where it is wrong, what is ahead of that place is a document, or the beginning of one. -/
theorem pd_bad {ts : List Sym} {e : Nat} {r : List Sym} (h : pd ts = .inl (e, r)) : ∃ p, ts = p ++ r ∧ (e = 4 → pd p = .inl (4, []) ∨ ∃ t, pd p = .inr (t, [])) ∧ (e = 4 ∨ (e = 5 ∧ r ≠ [])) := by
  unfold pd at h
  split at h
  · rename_i e1 hq
    injection h with h
    subst h
    obtain ⟨p, e2, h3, h4⟩ := (pv_loc 20).bad _ _ _ hq
    refine ⟨p, e2, fun he => .inl ?_, h4⟩
    unfold pd
    rw [h3 he]
  · cases h
  · rename_i t1 y r1 hq
    injection h with h
    injection h with h1 h2
    subst h1 h2
    obtain ⟨p, _, e2, h3⟩ := (pv_loc 20).good _ _ _ hq
    refine ⟨p, e2, fun _ => .inr ⟨t1, ?_⟩, .inl rfl⟩
    have h4 := h3 []
    rw [List.append_nil] at h4
    unfold pd
    rw [h4]
end Go.Proofs.Ytoikdjbgeebadaa.trees
