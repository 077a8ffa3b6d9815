/- What belongs together, as lists of signs: plain mathematics. A sign: what a solid token is (120: a word or a text; 63: a bad one; else the mark itself), and its number. -/
import GoSem.ClaimWide
set_option linter.unusedVariables false
namespace Go.Proofs.Ytoikdjbgeebadaa.trees

/-- A tree: at each node its kind, its first token, the one behind its last; and its kids. -/
abbrev T := DataW (Nat × Nat × Nat)
def nd (k a e : Nat) (l : List T) : T := .slice l [.held (k, a, e)]
theorem nd_inj {k a e k' a' e' : Nat} {l l' : List T} (h : nd k a e l = nd k' a' e' l') : k = k' ∧ a = a' ∧ e = e' ∧ l = l' := by
  unfold nd at h
  injection h with h1 h2
  injection h2 with h3 _
  injection h3 with h4
  injection h4 with h5 h6
  injection h6 with h7 h8
  exact ⟨h5, h7, h8, h1⟩
/-- Where a node ends. -/
def endT : T → Nat
  | .slice _ [.held (_, _, e)] => e
  | _ => 0
theorem endT_nd (k a e : Nat) (l : List T) : endT (nd k a e l) = e := rfl
abbrev Sym := UInt8 × Nat
/-- An answer: an error's number, and the signs from the wrong one on; or a node, and the signs behind it. -/
abbrev R := (Nat × List Sym) ⊕ (T × List Sym)
/-- An entry: its value by q. -/
def entP (q : List Sym → R) : List Sym → R
  | [] => .inl (4, [])
  | x :: r =>
    if x.1 = 120 then
      match r with
      | [] => .inl (4, [])
      | m :: r1 =>
        if m.1 = 58 ∨ m.1 = 61 then
          match q r1 with
          | .inl e => .inl e
          | .inr (v, r2) => .inr (nd 4 x.2 (endT v) [nd 2 x.2 (x.2 + 1) [], v], r2)
        else .inl (4, m :: r1)
    else .inl (4, x :: r)
/-- What stands between the marks of a table or a list: each by q, up to the sign ec. -/
def loopP (q : List Sym → R) (ec : UInt8) (kind i : Nat) : Nat → List T → List Sym → R
  | 0, _, ts => .inl (4, ts)
  | _ + 1, _, [] => .inl (4, [])
  | f + 1, acc, x :: r =>
    if x.1 = ec then .inr (nd kind i (x.2 + 1) acc, r)
    else
      match q (x :: r) with
      | .inl e => .inl e
      | .inr (_, []) => .inl (4, [])
      | .inr (t, y :: r2) =>
        if y.1 = 44 then loopP q ec kind i f (acc ++ [t]) r2
        else if y.1 = ec then .inr (nd kind i (y.2 + 1) (acc ++ [t]), r2)
        else .inl (4, y :: r2)
/-- A value; so many tables and lists may still be opened. -/
def pv : Nat → List Sym → R
  | _, [] => .inl (4, [])
  | 0, x :: r => if x.1 = 120 ∨ x.1 = 123 ∨ x.1 = 91 then .inl (5, x :: r) else .inl (4, x :: r)
  | lv + 1, x :: r =>
    if x.1 = 120 then .inr (nd 1 x.2 (x.2 + 1) [], r)
    else if x.1 = 123 then loopP (entP (pv lv)) 125 3 x.2 (r.length + 1) [] r
    else if x.1 = 91 then loopP (pv lv) 93 5 x.2 (r.length + 1) [] r
    else .inl (4, x :: r)
theorem pv_nil (lv : Nat) : pv lv [] = .inl (4, []) := by cases lv <;> rfl
/-- The kids, one by one: up to where they end, and what stands behind. -/
def Kids (q : List Sym → R) (ec : UInt8) : List T → List Sym → Nat → List Sym → Prop
  | [], ts, e, r => ∃ x : Sym, x.1 = ec ∧ ts = x :: r ∧ e = x.2 + 1
  | t :: l, ts, e, r => ∃ (x : Sym) (r0 : List Sym) (y : Sym) (r1 : List Sym), ts = x :: r0 ∧ x.1 ≠ ec ∧ q ts = .inr (t, y :: r1) ∧ ((y.1 = 44 ∧ Kids q ec l r1 e r) ∨ (y.1 ≠ 44 ∧ y.1 = ec ∧ l = [] ∧ e = y.2 + 1 ∧ r = r1))
theorem loop_kids (q : List Sym → R) (ec : UInt8) (kind i : Nat) : ∀ (f : Nat) (acc : List T) (ts : List Sym) (t : T) (r : List Sym), loopP q ec kind i f acc ts = .inr (t, r) → ∃ l e, t = nd kind i e (acc ++ l) ∧ Kids q ec l ts e r
  | 0, acc, ts, t, r, h => by cases h
  | f + 1, acc, [], t, r, h => by cases h
  | f + 1, acc, x :: r0, t, r, h => by
    unfold loopP at h
    split at h
    · rename_i hx
      injection h with h
      injection h with h1 h2
      exact ⟨[], x.2 + 1, by rw [← h1, List.append_nil], x, hx, by rw [h2], rfl⟩
    · rename_i hx
      split at h
      · cases h
      · cases h
      · rename_i t1 y r2 hq
        split at h
        · rename_i hy
          obtain ⟨l, e, e1, hk⟩ := loop_kids q ec kind i f _ _ _ _ h
          exact ⟨t1 :: l, e, by rw [e1, List.append_assoc]; rfl, x, r0, y, r2, rfl, hx, hq, .inl ⟨hy, hk⟩⟩
        · rename_i hy
          split at h
          · rename_i hy2
            injection h with h
            injection h with h1 h2
            exact ⟨[t1], y.2 + 1, h1.symm, x, r0, y, r2, rfl, hx, hq, .inr ⟨hy, hy2, rfl, rfl, h2.symm⟩⟩
          · cases h
/-- What a way of reading hangs on: on what it takes, and on nothing behind it; and where it is wrong, what is ahead of that place is a beginning. -/
structure Loc (q : List Sym → R) : Prop where
  good : ∀ ts t r, q ts = .inr (t, r) → ∃ p, p ≠ [] ∧ ts = p ++ r ∧ ∀ r', q (p ++ r') = .inr (t, r')
  bad : ∀ ts e r, q ts = .inl (e, r) → ∃ p, ts = p ++ r ∧ (e = 4 → q p = .inl (4, [])) ∧ (e = 4 ∨ (e = 5 ∧ r ≠ []))
theorem kids_loc {q : List Sym → R} {ec : UInt8} (hq : Loc q) : ∀ (l : List T) (ts : List Sym) (e : Nat) (r : List Sym), Kids q ec l ts e r → ∃ p, p ≠ [] ∧ ts = p ++ r ∧ l.length < p.length ∧ ∀ r', Kids q ec l (p ++ r') e r'
  | [], ts, e, r, h => by
    obtain ⟨x, hx, rfl, rfl⟩ := h
    exact ⟨[x], by simp, rfl, by simp, fun r' => ⟨x, hx, rfl, rfl⟩⟩
  | t :: l, ts, e, r, h => by
    obtain ⟨x, r0, y, r1, rfl, hx, hqt, h⟩ := h
    obtain ⟨p, hp, e1, h2⟩ := hq.good _ _ _ hqt
    obtain ⟨p0, rfl⟩ : ∃ p0, p = x :: p0 := by
      cases p with
      | nil => exact absurd rfl hp
      | cons a b => rw [List.cons_append] at e1; injection e1 with e1 _; exact ⟨b, by rw [e1]⟩
    rcases h with ⟨hy, hk⟩ | ⟨hy, hy2, rfl, rfl, rfl⟩
    · obtain ⟨p', _, rfl, hl', hk'⟩ := kids_loc hq l _ _ _ hk
      refine ⟨x :: p0 ++ y :: p', by simp, by rw [e1]; simp, by simp; omega, fun r' => ?_⟩
      refine ⟨x, p0 ++ y :: p' ++ r', y, p' ++ r', by simp, hx, ?_, .inl ⟨hy, hk' r'⟩⟩
      have := h2 (y :: (p' ++ r'))
      rw [← this]
      simp
    · refine ⟨x :: p0 ++ [y], by simp, by rw [e1]; simp, by simp, fun r' => ?_⟩
      refine ⟨x, p0 ++ y :: r', y, r', by simp, hx, ?_, .inr ⟨hy, hy2, rfl, rfl, rfl⟩⟩
      have := h2 (y :: r')
      rw [← this]
      simp
theorem kids_loop {q : List Sym → R} {ec : UInt8} (kind i : Nat) (hec : ec ≠ 44) : ∀ (l : List T) (f : Nat) (acc : List T) (ts : List Sym) (e : Nat) (r : List Sym), Kids q ec l ts e r → l.length < f → loopP q ec kind i f acc ts = .inr (nd kind i e (acc ++ l), r)
  | [], f + 1, acc, ts, e, r, h, _ => by
    obtain ⟨x, hx, rfl, rfl⟩ := h
    rw [loopP, if_pos hx, List.append_nil]
  | t :: l, f + 1, acc, ts, e, r, h, hf => by
    obtain ⟨x, r0, y, r1, rfl, hx, hqt, h⟩ := h
    rw [loopP, if_neg hx, hqt]
    rcases h with ⟨hy, hk⟩ | ⟨hy, hy2, rfl, rfl, rfl⟩
    · simp only
      rw [if_pos hy, kids_loop kind i hec l f _ _ _ _ hk (by simp at hf; omega), List.append_assoc]
      rfl
    · simp only
      rw [if_neg hy, if_pos hy2]
theorem loop_good {q : List Sym → R} {ec : UInt8} {kind i f : Nat} {acc : List T} {ts : List Sym} {t : T} {r : List Sym} (hq : Loc q) (hec : ec ≠ 44) (h : loopP q ec kind i f acc ts = .inr (t, r)) :
    ∃ p, p ≠ [] ∧ ts = p ++ r ∧ ∀ f' r', (p ++ r').length < f' → loopP q ec kind i f' acc (p ++ r') = .inr (t, r') := by
  obtain ⟨l, e, rfl, hk⟩ := loop_kids q ec kind i f acc ts t r h
  obtain ⟨p, hp, e1, hl, hk'⟩ := kids_loc hq l ts e r hk
  refine ⟨p, hp, e1, fun f' r' hf => kids_loop kind i hec l f' acc _ e r' (hk' r') ?_⟩
  rw [List.length_append] at hf
  omega
theorem loop_bad {q : List Sym → R} {ec : UInt8} {kind i : Nat} (hq : Loc q) (hec : ec ≠ 44) : ∀ (f : Nat) (acc : List T) (ts : List Sym) (e : Nat) (r : List Sym), ts.length < f → loopP q ec kind i f acc ts = .inl (e, r) →
    ∃ p, ts = p ++ r ∧ (e = 4 → ∀ f', p.length < f' → loopP q ec kind i f' acc p = .inl (4, [])) ∧ (e = 4 ∨ (e = 5 ∧ r ≠ []))
  | 0, acc, ts, e, r, hf, h => by omega
  | f + 1, acc, [], e, r, hf, h => by
    unfold loopP at h
    injection h with h
    injection h with h1 h2
    subst h1 h2
    refine ⟨[], rfl, fun _ f' hf' => ?_, .inl rfl⟩
    cases f' with
    | zero => simp at hf'
    | succ f' => rfl
  | f + 1, acc, x :: r0, e, r, hf, h => by
    unfold loopP at h
    split at h
    · cases h
    · rename_i hx
      split at h
      · rename_i e1 hq1
        injection h with h
        subst h
        obtain ⟨p, e2, h4, h5⟩ := hq.bad _ _ _ hq1
        refine ⟨p, e2, fun he f' hf' => ?_, h5⟩
        cases f' with
        | zero => omega
        | succ f' =>
          have hp := h4 he
          cases p with
          | nil => rfl
          | cons a b =>
            rw [List.cons_append] at e2
            injection e2 with e3 _
            subst e3
            rw [loopP, if_neg hx, hp]
      · rename_i t1 hq1
        injection h with h
        injection h with h1 h2
        subst h1 h2
        refine ⟨x :: r0, by simp, fun _ f' hf' => ?_, .inl rfl⟩
        cases f' with
        | zero => omega
        | succ f' => rw [loopP, if_neg hx, hq1]
      · rename_i t1 y r2 hq1
        obtain ⟨p, hp, e1, h2⟩ := hq.good _ _ _ hq1
        obtain ⟨p0, rfl⟩ : ∃ p0, p = x :: p0 := by
          cases p with
          | nil => exact absurd rfl hp
          | cons a b => rw [List.cons_append] at e1; injection e1 with e1 _; exact ⟨b, by rw [e1]⟩
        split at h
        · rename_i hy
          have hlen := congrArg List.length e1
          simp only [List.length_cons, List.length_append] at hlen hf
          obtain ⟨p', rfl, h4, h5⟩ := loop_bad hq hec f _ _ _ _ (by omega) h
          refine ⟨x :: p0 ++ y :: p', by rw [e1]; simp, fun he f' hf' => ?_, h5⟩
          cases f' with
          | zero => omega
          | succ f' =>
            have h3 := h2 (y :: p')
            rw [List.cons_append] at h3 ⊢
            simp only [List.length_cons, List.length_append] at hf'
            rw [loopP, if_neg hx, h3]
            simp only
            rw [if_pos hy, h4 he f' (by omega)]
        · rename_i hy
          split at h
          · cases h
          · rename_i hy2
            injection h with h
            injection h with h1 h3
            subst h1 h3
            refine ⟨x :: p0, e1, fun _ f' hf' => ?_, .inl rfl⟩
            cases f' with
            | zero => omega
            | succ f' =>
              have h3 := h2 []
              rw [List.append_nil] at h3
              rw [loopP, if_neg hx, h3]
theorem ent_one (q : List Sym → R) (x : Sym) : entP q [x] = if x.1 = 120 then .inl (4, []) else .inl (4, [x]) := rfl
theorem ent_two (q : List Sym → R) (x m : Sym) (r1 : List Sym) : entP q (x :: m :: r1) = if x.1 = 120 then (if m.1 = 58 ∨ m.1 = 61 then (match q r1 with | .inl e => .inl e | .inr (v, r2) => .inr (nd 4 x.2 (endT v) [nd 2 x.2 (x.2 + 1) [], v], r2)) else .inl (4, m :: r1)) else .inl (4, x :: m :: r1) := rfl
theorem ent_loc {q : List Sym → R} (hq : Loc q) : Loc (entP q) := by
  refine ⟨fun ts t r h => ?_, fun ts e r h => ?_⟩
  · match ts with
    | [] => cases h
    | [x] =>
      rw [ent_one] at h
      split at h <;> cases h
    | x :: m :: r1 =>
      rw [ent_two] at h
      split at h
      · rename_i hx
        split at h
        · rename_i hm
          split at h
          · cases h
          · rename_i v r2 hv
            injection h with h
            injection h with h1 h2
            subst h1 h2
            obtain ⟨p, hp, e1, h3⟩ := hq.good _ _ _ hv
            refine ⟨x :: m :: p, by simp, by rw [e1]; rfl, fun r' => ?_⟩
            rw [List.cons_append, List.cons_append, ent_two, if_pos hx, if_pos hm, h3 r']
        · cases h
      · cases h
  · match ts with
    | [] =>
      injection h with h
      injection h with h1 h2
      subst h1 h2
      exact ⟨[], rfl, fun _ => rfl, .inl rfl⟩
    | [x] =>
      rw [ent_one] at h
      split at h
      · rename_i hx
        injection h with h
        injection h with h1 h2
        subst h1 h2
        refine ⟨[x], rfl, fun _ => ?_, .inl rfl⟩
        rw [ent_one, if_pos hx]
      · injection h with h
        injection h with h1 h2
        subst h1 h2
        exact ⟨[], rfl, fun _ => rfl, .inl rfl⟩
    | x :: m :: r1 =>
      rw [ent_two] at h
      split at h
      · rename_i hx
        split at h
        · rename_i hm
          split at h
          · rename_i e1 hv
            injection h with h
            subst h
            obtain ⟨p, e2, h3, h4⟩ := hq.bad _ _ _ hv
            refine ⟨x :: m :: p, by rw [e2]; rfl, fun he => ?_, h4⟩
            rw [ent_two, if_pos hx, if_pos hm, h3 he]
          · cases h
        · injection h with h
          injection h with h1 h2
          subst h1 h2
          refine ⟨[x], rfl, fun _ => ?_, .inl rfl⟩
          rw [ent_one, if_pos hx]
      · injection h with h
        injection h with h1 h2
        subst h1 h2
        exact ⟨[], rfl, fun _ => rfl, .inl rfl⟩
theorem pv_loc : ∀ lv, Loc (pv lv)
  | 0 => by
    refine ⟨fun ts t r h => ?_, fun ts e r h => ?_⟩
    · cases ts with
      | nil => cases h
      | cons x r0 => unfold pv at h; split at h <;> cases h
    · cases ts with
      | nil =>
        injection h with h
        injection h with h1 h2
        subst h1 h2
        exact ⟨[], rfl, fun _ => rfl, .inl rfl⟩
      | cons x r0 =>
        unfold pv at h
        split at h
        · injection h with h
          injection h with h1 h2
          subst h1 h2
          exact ⟨[], rfl, (fun h => by cases h), .inr ⟨rfl, by simp⟩⟩
        · injection h with h
          injection h with h1 h2
          subst h1 h2
          exact ⟨[], rfl, fun _ => rfl, .inl rfl⟩
  | lv + 1 => by
    have ih := pv_loc lv
    have ie := ent_loc ih
    refine ⟨fun ts t r h => ?_, fun ts e r h => ?_⟩
    · cases ts with
      | nil => cases h
      | cons x r0 =>
        unfold pv at h
        split at h
        · rename_i hx
          injection h with h
          injection h with h1 h2
          subst h1 h2
          exact ⟨[x], by simp, rfl, fun r' => by rw [List.cons_append, pv, if_pos hx]; rfl⟩
        · rename_i hx
          split at h
          · rename_i hx2
            obtain ⟨p, hp, e1, h2⟩ := loop_good ie (by decide) h
            refine ⟨x :: p, by simp, by rw [e1]; rfl, fun r' => ?_⟩
            rw [List.cons_append, pv, if_neg hx, if_pos hx2]
            exact h2 _ r' (Nat.lt_succ_self _)
          · rename_i hx2
            split at h
            · rename_i hx3
              obtain ⟨p, hp, e1, h2⟩ := loop_good ih (by decide) h
              refine ⟨x :: p, by simp, by rw [e1]; rfl, fun r' => ?_⟩
              rw [List.cons_append, pv, if_neg hx, if_neg hx2, if_pos hx3]
              exact h2 _ r' (Nat.lt_succ_self _)
            · cases h
    · cases ts with
      | nil =>
        injection h with h
        injection h with h1 h2
        subst h1 h2
        exact ⟨[], rfl, fun _ => pv_nil _, .inl rfl⟩
      | cons x r0 =>
        unfold pv at h
        split at h
        · cases h
        · rename_i hx
          split at h
          · rename_i hx2
            obtain ⟨p, e1, h3, h4⟩ := loop_bad ie (by decide) _ _ _ _ _ (Nat.lt_succ_self _) h
            refine ⟨x :: p, by rw [e1]; rfl, fun he => ?_, h4⟩
            rw [pv, if_neg hx, if_pos hx2]
            exact h3 he _ (Nat.lt_succ_self _)
          · rename_i hx2
            split at h
            · rename_i hx3
              obtain ⟨p, e1, h3, h4⟩ := loop_bad ih (by decide) _ _ _ _ _ (Nat.lt_succ_self _) h
              refine ⟨x :: p, by rw [e1]; rfl, fun he => ?_, h4⟩
              rw [pv, if_neg hx, if_neg hx2, if_pos hx3]
              exact h3 he _ (Nat.lt_succ_self _)
            · injection h with h
              injection h with h1 h2
              subst h1 h2
              exact ⟨[], rfl, fun _ => pv_nil _, .inl rfl⟩
end Go.Proofs.Ytoikdjbgeebadaa.trees
