/- What belongs together: more levels, other numbers, first and last token, kids: plain mathematics. -/
import Derived.Test.YtoikdjbgeebadaaTreePlain
set_option linter.unusedVariables false
namespace Go.Proofs.Ytoikdjbgeebadaa.trees

/-- What the one reads the other reads as well. -/
def LeQ (q q' : List Sym → R) : Prop := ∀ ts x, q ts = .inr x → q' ts = .inr x
theorem kids_le {q q' : List Sym → R} {ec : UInt8} (h : LeQ q q') : ∀ (l : List T) (ts : List Sym) (e : Nat) (r : List Sym), Kids q ec l ts e r → Kids q' ec l ts e r
  | [], ts, e, r, hk => hk
  | t :: l, ts, e, r, hk => by
    obtain ⟨x, r0, y, r1, rfl, hx, hq, hk⟩ := hk
    refine ⟨x, r0, y, r1, rfl, hx, h _ _ hq, ?_⟩
    rcases hk with ⟨hy, hk⟩ | hk
    · exact .inl ⟨hy, kids_le h l _ _ _ hk⟩
    · exact .inr hk
theorem loop_le {q q' : List Sym → R} {ec : UInt8} {kind i : Nat} {ts : List Sym} {x : T × List Sym} (h : LeQ q q') (hq : Loc q) (hec : ec ≠ 44) (hl : loopP q ec kind i (ts.length + 1) [] ts = .inr x) : loopP q' ec kind i (ts.length + 1) [] ts = .inr x := by
  obtain ⟨t, r⟩ := x
  obtain ⟨l, e, rfl, hk⟩ := loop_kids q ec kind i _ [] ts t r hl
  obtain ⟨p, _, e1, hlp, _⟩ := kids_loc hq l ts e r hk
  refine kids_loop kind i hec l _ [] ts e r (kids_le h l ts e r hk) ?_
  rw [e1, List.length_append]
  omega
theorem ent_le {q q' : List Sym → R} (h : LeQ q q') : LeQ (entP q) (entP q') := by
  intro ts x hx
  match ts with
  | [] => cases hx
  | [a] =>
    rw [ent_one] at hx
    split at hx <;> cases hx
  | a :: m :: r1 =>
    rw [ent_two] at hx ⊢
    split at hx
    · rename_i h1
      split at hx
      · rename_i h2
        rw [if_pos h1, if_pos h2]
        split at hx
        · cases hx
        · rename_i v r2 hv
          rw [h _ _ hv]
          exact hx
      · cases hx
    · cases hx
theorem pv_up : ∀ lv, LeQ (pv lv) (pv (lv + 1))
  | 0 => by
    intro ts x h
    cases ts with
    | nil => cases h
    | cons a r => unfold pv at h; split at h <;> cases h
  | lv + 1 => by
    intro ts x h
    have ih := pv_up lv
    cases ts with
    | nil => cases h
    | cons a r =>
      rw [pv] at h ⊢
      split at h
      · rename_i h1; rw [if_pos h1]; exact h
      · rename_i h1
        rw [if_neg h1]
        split at h
        · rename_i h2; rw [if_pos h2]; exact loop_le (ent_le ih) (ent_loc (pv_loc lv)) (by decide) h
        · rename_i h2
          rw [if_neg h2]
          split at h
          · rename_i h3; rw [if_pos h3]; exact loop_le ih (pv_loc lv) (by decide) h
          · cases h
theorem pv_le {a b : Nat} (h : a ≤ b) : LeQ (pv a) (pv b) := by
  induction b with
  | zero =>
    have : a = 0 := by omega
    subst this
    exact fun _ _ h => h
  | succ b ih =>
    by_cases e : a = b + 1
    · subst e; exact fun _ _ h => h
    · exact fun ts x hx => pv_up b ts x (ih (by omega) ts x hx)
/-- A tree whose tokens have other numbers: each greater by b. -/
def MvT (b : Nat) : Nat → T → T → Prop
  | 0, _, _ => False
  | n + 1, t, t' => ∃ k a e l l', t = nd k (a + b) (e + b) l ∧ t' = nd k a e l' ∧ l.length = l'.length ∧ ∀ (j : Nat) (h : j < l.length) (h' : j < l'.length), MvT b n l[j] l'[j]
theorem mv_up (b : Nat) : ∀ (n : Nat) (t t' : T), MvT b n t t' → MvT b (n + 1) t t'
  | 0, _, _, h => h.elim
  | n + 1, t, t', h => by
    obtain ⟨k, a, e, l, l', rfl, rfl, hl, hk⟩ := h
    exact ⟨k, a, e, l, l', rfl, rfl, hl, fun j h h' => mv_up b n _ _ (hk j h h')⟩
theorem mv_end {b n : Nat} {t t' : T} (h : MvT b n t t') : endT t = endT t' + b := by
  cases n with
  | zero => exact h.elim
  | succ n =>
    obtain ⟨k, a, e, l, l', rfl, rfl, _⟩ := h
    rfl
def sh (b : Nat) (x : Sym) : Sym := (x.1, x.2 + b)
/-- Other numbers change nothing but the numbers. -/
def ShQ (b n : Nat) (q : List Sym → R) : Prop := ∀ ts, (∀ e r, q ts = .inl (e, r) → q (ts.map (sh b)) = .inl (e, r.map (sh b))) ∧ (∀ t' r, q ts = .inr (t', r) → ∃ t, q (ts.map (sh b)) = .inr (t, r.map (sh b)) ∧ MvT b n t t')
def AllMv (b n : Nat) (l l' : List T) : Prop := l.length = l'.length ∧ ∀ (j : Nat) (h : j < l.length) (h' : j < l'.length), MvT b n l[j] l'[j]
theorem allMv_nil (b n : Nat) : AllMv b n [] [] := ⟨rfl, fun j h => by simp at h⟩
theorem allMv_snoc {b n : Nat} {l l' : List T} {t t' : T} (h : AllMv b n l l') (ht : MvT b n t t') : AllMv b n (l ++ [t]) (l' ++ [t']) := by
  refine ⟨by simp [h.1], fun j hj hj' => ?_⟩
  have e := h.1
  by_cases hl : j < l.length
  · rw [List.getElem_append_left hl, List.getElem_append_left (by omega)]
    exact h.2 j hl (by omega)
  · rw [List.getElem_append_right (by omega), List.getElem_append_right (by omega)]
    simp only [List.getElem_singleton]
    exact ht
theorem loop_sh {b n : Nat} {q : List Sym → R} {ec : UInt8} {kind i : Nat} (hq : ShQ b n q) : ∀ (f : Nat) (acc acc' : List T) (ts : List Sym), AllMv b n acc acc' →
    (∀ e r, loopP q ec kind i f acc' ts = .inl (e, r) → loopP q ec kind (i + b) f acc (ts.map (sh b)) = .inl (e, r.map (sh b))) ∧
    (∀ t' r, loopP q ec kind i f acc' ts = .inr (t', r) → ∃ t, loopP q ec kind (i + b) f acc (ts.map (sh b)) = .inr (t, r.map (sh b)) ∧ MvT b (n + 1) t t')
  | 0, acc, acc', ts, ha => by
    refine ⟨fun e r h => ?_, fun t' r h => by cases h⟩
    injection h with h
    injection h with h1 h2
    subst h1 h2
    rfl
  | f + 1, acc, acc', [], ha => by
    refine ⟨fun e r h => ?_, fun t' r h => by cases h⟩
    injection h with h
    injection h with h1 h2
    subst h1 h2
    rfl
  | f + 1, acc, acc', x :: r0, ha => by
    have hs : (x :: r0).map (sh b) = sh b x :: r0.map (sh b) := rfl
    have hq1 := hq (x :: r0)
    rw [hs] at hq1 ⊢
    by_cases hx : x.1 = ec
    · have e1 : loopP q ec kind i (f + 1) acc' (x :: r0) = .inr (nd kind i (x.2 + 1) acc', r0) := by rw [loopP, if_pos hx]
      have e2 : loopP q ec kind (i + b) (f + 1) acc (sh b x :: r0.map (sh b)) = .inr (nd kind (i + b) (x.2 + 1 + b) acc, r0.map (sh b)) := by
        rw [loopP, if_pos (by exact hx)]
        have : (sh b x).2 + 1 = x.2 + 1 + b := by unfold sh; simp only; omega
        rw [this]
      rw [e1, e2]
      refine ⟨(fun e r h => by cases h), fun t' r h => ?_⟩
      injection h with h
      injection h with h1 h2
      subst h1 h2
      exact ⟨_, rfl, kind, i, x.2 + 1, acc, acc', rfl, rfl, ha.1, ha.2⟩
    · have hx' : ¬ (sh b x).1 = ec := hx
      have e1 : ∀ acc i, loopP q ec kind i (f + 1) acc (x :: r0) = match q (x :: r0) with
          | .inl e => .inl e
          | .inr (_, []) => .inl (4, [])
          | .inr (t, y :: r2) => if y.1 = 44 then loopP q ec kind i f (acc ++ [t]) r2 else if y.1 = ec then .inr (nd kind i (y.2 + 1) (acc ++ [t]), r2) else .inl (4, y :: r2) := fun acc i => by rw [loopP, if_neg hx]; rfl
      have e2 : ∀ acc i, loopP q ec kind i (f + 1) acc (sh b x :: r0.map (sh b)) = match q (sh b x :: r0.map (sh b)) with
          | .inl e => .inl e
          | .inr (_, []) => .inl (4, [])
          | .inr (t, y :: r2) => if y.1 = 44 then loopP q ec kind i f (acc ++ [t]) r2 else if y.1 = ec then .inr (nd kind i (y.2 + 1) (acc ++ [t]), r2) else .inl (4, y :: r2) := fun acc i => by rw [loopP, if_neg hx']; rfl
      rw [e1, e2]
      cases hqv : q (x :: r0) with
      | inl er =>
        obtain ⟨e, r⟩ := er
        rw [hq1.1 e r hqv]
        refine ⟨fun e' r' h => ?_, fun t' r' h => by cases h⟩
        injection h with h
        injection h with h1 h2
        subst h1 h2
        rfl
      | inr tr =>
        obtain ⟨t0', r⟩ := tr
        obtain ⟨t0, hq2, hm⟩ := hq1.2 t0' r hqv
        rw [hq2]
        cases r with
        | nil =>
          refine ⟨fun e' r' h => ?_, fun t' r' h => by cases h⟩
          injection h with h
          injection h with h1 h2
          subst h1 h2
          rfl
        | cons y r2 =>
          have ih := loop_sh (ec := ec) (kind := kind) (i := i) hq f (acc ++ [t0]) (acc' ++ [t0']) r2 (allMv_snoc ha hm)
          have hmy : (y :: r2).map (sh b) = sh b y :: r2.map (sh b) := rfl
          rw [hmy]
          simp only
          by_cases hy : y.1 = 44
          · rw [if_pos hy, if_pos (by exact hy)]
            exact ih
          · have hy' : ¬ (sh b y).1 = 44 := hy
            rw [if_neg hy, if_neg hy']
            by_cases hy2 : y.1 = ec
            · have hy2' : (sh b y).1 = ec := hy2
              rw [if_pos hy2, if_pos hy2']
              refine ⟨(fun e r h => by cases h), fun t' r h => ?_⟩
              injection h with h
              injection h with h1 h2
              subst h1 h2
              have hall := allMv_snoc ha hm
              have : (sh b y).2 + 1 = y.2 + 1 + b := by unfold sh; simp only; omega
              exact ⟨_, rfl, kind, i, y.2 + 1, acc ++ [t0], acc' ++ [t0'], by rw [this], rfl, hall.1, hall.2⟩
            · have hy2' : ¬ (sh b y).1 = ec := hy2
              rw [if_neg hy2, if_neg hy2']
              refine ⟨fun e' r' h => ?_, fun t' r' h => by cases h⟩
              injection h with h
              injection h with h1 h2
              subst h1 h2
              rfl
theorem ent_sh {b n : Nat} {q : List Sym → R} (hq : ShQ b (n + 1) q) : ShQ b (n + 2) (entP q) := by
  intro ts
  match ts with
  | [] =>
    refine ⟨fun e r h => ?_, fun t' r h => by cases h⟩
    injection h with h
    injection h with h1 h2
    subst h1 h2
    rfl
  | [x] =>
    have hs : [x].map (sh b) = [sh b x] := rfl
    rw [hs, ent_one, ent_one]
    by_cases hx : x.1 = 120
    · rw [if_pos hx, if_pos (show (sh b x).1 = 120 from hx)]
      refine ⟨fun e r h => ?_, fun t' r h => by cases h⟩
      injection h with h
      injection h with h1 h2
      subst h1 h2
      rfl
    · rw [if_neg hx, if_neg (show ¬ (sh b x).1 = 120 from hx)]
      refine ⟨fun e r h => ?_, fun t' r h => by cases h⟩
      injection h with h
      injection h with h1 h2
      subst h1 h2
      rfl
  | x :: m :: r1 =>
    have hs : (x :: m :: r1).map (sh b) = sh b x :: sh b m :: r1.map (sh b) := rfl
    rw [hs, ent_two, ent_two]
    by_cases hx : x.1 = 120
    · rw [if_pos hx, if_pos (show (sh b x).1 = 120 from hx)]
      by_cases hm : m.1 = 58 ∨ m.1 = 61
      · rw [if_pos hm, if_pos (show (sh b m).1 = 58 ∨ (sh b m).1 = 61 from hm)]
        have hq1 := hq r1
        cases hqv : q r1 with
        | inl er =>
          obtain ⟨e, r⟩ := er
          rw [hq1.1 e r hqv]
          refine ⟨fun e' r' h => ?_, fun t' r' h => by cases h⟩
          injection h with h
          injection h with h1 h2
          subst h1 h2
          rfl
        | inr tr =>
          obtain ⟨v', r⟩ := tr
          obtain ⟨v, hq2, hmv⟩ := hq1.2 v' r hqv
          rw [hq2]
          refine ⟨(fun e' r' h => by cases h), fun t' r' h => ?_⟩
          injection h with h
          injection h with h1 h2
          subst h1 h2
          refine ⟨_, rfl, 4, x.2, endT v', [nd 2 (sh b x).2 ((sh b x).2 + 1) [], v], [nd 2 x.2 (x.2 + 1) [], v'], by rw [mv_end hmv]; rfl, rfl, rfl, fun j h h' => ?_⟩
          match j, h with
          | 0, _ =>
            refine ⟨2, x.2, x.2 + 1, [], [], ?_, rfl, rfl, fun j h => by simp at h⟩
            have : (sh b x).2 + 1 = x.2 + 1 + b := by unfold sh; simp only; omega
            show nd 2 (sh b x).2 ((sh b x).2 + 1) [] = _
            rw [this]
            rfl
          | 1, _ => exact hmv
      · rw [if_neg hm, if_neg (show ¬ ((sh b m).1 = 58 ∨ (sh b m).1 = 61) from hm)]
        refine ⟨fun e r h => ?_, fun t' r h => by cases h⟩
        injection h with h
        injection h with h1 h2
        subst h1 h2
        rfl
    · rw [if_neg hx, if_neg (show ¬ (sh b x).1 = 120 from hx)]
      refine ⟨fun e r h => ?_, fun t' r h => by cases h⟩
      injection h with h
      injection h with h1 h2
      subst h1 h2
      rfl
theorem shq_up {b n : Nat} {q : List Sym → R} (h : ShQ b n q) : ShQ b (n + 1) q := fun ts => ⟨(h ts).1, fun t' r hq => by
  obtain ⟨t, h1, h2⟩ := (h ts).2 t' r hq
  exact ⟨t, h1, mv_up b n _ _ h2⟩⟩
/-- How deep a tree of so many levels is, in nodes. -/
theorem pv_sh (b : Nat) : ∀ lv, ShQ b (2 * lv + 1) (pv lv)
  | 0 => by
    intro ts
    cases ts with
    | nil =>
      refine ⟨fun e r h => ?_, fun t' r h => by cases h⟩
      injection h with h
      injection h with h1 h2
      subst h1 h2
      rfl
    | cons x r0 =>
      have hs : (x :: r0).map (sh b) = sh b x :: r0.map (sh b) := rfl
      rw [hs, pv, pv]
      by_cases hx : x.1 = 120 ∨ x.1 = 123 ∨ x.1 = 91
      · rw [if_pos hx, if_pos (show (sh b x).1 = 120 ∨ (sh b x).1 = 123 ∨ (sh b x).1 = 91 from hx)]
        refine ⟨fun e r h => ?_, fun t' r h => by cases h⟩
        injection h with h
        injection h with h1 h2
        subst h1 h2
        rfl
      · rw [if_neg hx, if_neg (show ¬ ((sh b x).1 = 120 ∨ (sh b x).1 = 123 ∨ (sh b x).1 = 91) from hx)]
        refine ⟨fun e r h => ?_, fun t' r h => by cases h⟩
        injection h with h
        injection h with h1 h2
        subst h1 h2
        rfl
  | lv + 1 => by
    intro ts
    have ih := pv_sh b lv
    cases ts with
    | nil =>
      refine ⟨fun e r h => ?_, fun t' r h => by cases h⟩
      injection h with h
      injection h with h1 h2
      subst h1 h2
      rfl
    | cons x r0 =>
      have hs : (x :: r0).map (sh b) = sh b x :: r0.map (sh b) := rfl
      rw [hs, pv, pv, List.length_map]
      by_cases h1 : x.1 = 120
      · rw [if_pos h1, if_pos (show (sh b x).1 = 120 from h1)]
        refine ⟨(fun e r h => by cases h), fun t' r h => ?_⟩
        injection h with h
        injection h with h2 h3
        subst h2 h3
        have : (sh b x).2 + 1 = x.2 + 1 + b := by unfold sh; simp only; omega
        exact ⟨_, rfl, 1, x.2, x.2 + 1, [], [], by rw [this]; rfl, rfl, rfl, fun j h => by simp at h⟩
      · rw [if_neg h1, if_neg (show ¬ (sh b x).1 = 120 from h1)]
        by_cases h2 : x.1 = 123
        · rw [if_pos h2, if_pos (show (sh b x).1 = 123 from h2)]
          exact loop_sh (ent_sh ih) _ [] [] r0 (allMv_nil _ _)
        · rw [if_neg h2, if_neg (show ¬ (sh b x).1 = 123 from h2)]
          by_cases h3 : x.1 = 91
          · rw [if_pos h3, if_pos (show (sh b x).1 = 91 from h3)]
            exact loop_sh (shq_up ih) _ [] [] r0 (allMv_nil _ _)
          · rw [if_neg h3, if_neg (show ¬ (sh b x).1 = 91 from h3)]
            refine ⟨fun e r h => ?_, fun t' r h => by cases h⟩
            injection h with h
            injection h with h4 h5
            subst h4 h5
            rfl
end Go.Proofs.Ytoikdjbgeebadaa.trees
