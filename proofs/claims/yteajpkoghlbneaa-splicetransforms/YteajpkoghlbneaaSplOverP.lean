/- What Over makes of the places of two changes: plain mathematics. -/
import Derived.Test.YteajpkoghlbneaaSplDocP
set_option linter.unusedVariables false
namespace Go.Proofs.Yteajpkoghlbneaa.spls

/-- What is put ahead of each byte, and whether it stays; and what is put behind the last one. -/
abbrev DC : Type := List (List UInt8 × Bool) × List UInt8
def dcs (S : DC) : M → DC
  | none => (S.1 ++ [(S.2, true)], [])
  | some none => (S.1 ++ [(S.2, false)], [])
  | some (some b) => (S.1, S.2 ++ [b])
def dec (x : List M) : DC := x.foldl dcs ([], [])
def ovM (s : Bool) : M := if s then none else some none
def xp : List (List UInt8 × Bool) → List UInt8 → List M
  | [], pe => putsM pe
  | a :: P, pe => putsM a.1 ++ (ovM a.2 :: xp P pe)
theorem xp_snoc (p : List UInt8) (s : Bool) (q : List UInt8) : ∀ P, xp (P ++ [(p, s)]) q = xp P p ++ (ovM s :: putsM q)
  | [] => rfl
  | a :: P => by
    show putsM a.1 ++ (ovM a.2 :: xp (P ++ [(p, s)]) q) = (putsM a.1 ++ (ovM a.2 :: xp P p)) ++ _
    rw [xp_snoc p s q P, List.append_assoc]
    rfl
theorem xp_more (b : UInt8) (p : List UInt8) : ∀ P, xp P (p ++ [b]) = xp P p ++ [some (some b)]
  | [] => by show putsM (p ++ [b]) = _; rw [putsM_app]; rfl
  | a :: P => by
    show putsM a.1 ++ (ovM a.2 :: xp P (p ++ [b])) = (putsM a.1 ++ (ovM a.2 :: xp P p)) ++ _
    rw [xp_more b p P, List.append_assoc]
    rfl
theorem xp_run : ∀ (x : List M) (S : DC), xp (x.foldl dcs S).1 (x.foldl dcs S).2 = xp S.1 S.2 ++ x
  | [], S => (List.append_nil _).symm
  | m :: x, S => by
    show xp (x.foldl dcs (dcs S m)).1 (x.foldl dcs (dcs S m)).2 = _
    rw [xp_run x (dcs S m)]
    have e : xp (dcs S m).1 (dcs S m).2 = xp S.1 S.2 ++ [m] := by
      rcases m with _ | _ | b
      · exact xp_snoc _ _ _ _
      · exact xp_snoc _ _ _ _
      · exact xp_more _ _ _
    rw [e, List.append_assoc]
    rfl
theorem xp_dec (x : List M) : xp (dec x).1 (dec x).2 = x := xp_run x ([], [])
theorem dec_app (x y : List M) : dec (x ++ y) = y.foldl dcs (dec x) := List.foldl_append
theorem dec_len : ∀ (x : List M) (S : DC), (x.foldl dcs S).1.length = S.1.length + ov x
  | [], S => rfl
  | none :: x, S => by
    show (x.foldl dcs (S.1 ++ [(S.2, true)], [])).1.length = _
    rw [dec_len x]
    simp only [List.length_append, List.length_cons, List.length_nil, ov]
    omega
  | some none :: x, S => by
    show (x.foldl dcs (S.1 ++ [(S.2, false)], [])).1.length = _
    rw [dec_len x]
    simp only [List.length_append, List.length_cons, List.length_nil, ov]
    omega
  | some (some b) :: x, S => dec_len x (S.1, S.2 ++ [b])
theorem dec_ov (x : List M) : (dec x).1.length = ov x := by
  have := dec_len x ([], [])
  rw [show (([], []) : DC).1.length = 0 from rfl, Nat.zero_add] at this
  exact this

/-! The rows that puts makes. -/
def pRow (n : Nat) (x : List M) : List (List UInt8) := (dec x).1.map (·.1) ++ ((dec x).2 :: List.replicate (n - ov x) [])
def sRow (n : Nat) (x : List M) : List Bool := (dec x).1.map (·.2) ++ List.replicate (n - ov x) false
theorem pRow_len {n : Nat} {x : List M} (h : ov x ≤ n) : (pRow n x).length = n + 1 := by
  unfold pRow
  rw [List.length_append, List.length_map, dec_ov, List.length_cons, List.length_replicate]
  omega
theorem sRow_len {n : Nat} {x : List M} (h : ov x ≤ n) : (sRow n x).length = n := by
  unfold sRow
  rw [List.length_append, List.length_map, dec_ov, List.length_replicate]
  omega
theorem pRow_nil (n : Nat) : pRow n [] = List.replicate (n + 1) [] := by
  show [] ++ ([] :: List.replicate (n - 0) []) = _
  rw [List.nil_append, Nat.sub_zero, List.replicate_succ]
theorem sRow_nil (n : Nat) : sRow n [] = List.replicate n false := by
  show [] ++ List.replicate (n - 0) false = _
  rw [List.nil_append, Nat.sub_zero]
theorem pRow_over {n : Nat} {x : List M} (s : Bool) (h : ov x < n) : pRow n (x ++ [ovM s]) = pRow n x := by
  have e1 : dec (x ++ [ovM s]) = ((dec x).1 ++ [((dec x).2, s)], []) := by
    rw [dec_app]
    cases s <;> rfl
  have e2 : ov (x ++ [ovM s]) = ov x + 1 := by rw [ov_app]; cases s <;> rfl
  unfold pRow
  rw [e1, e2, List.map_append]
  show ((dec x).1.map (·.1) ++ [(dec x).2]) ++ ([] :: List.replicate (n - (ov x + 1)) []) = _
  rw [List.append_assoc, ← List.replicate_succ, show n - (ov x + 1) + 1 = n - ov x from by omega]
  rfl
theorem sRow_over {n : Nat} {x : List M} (s : Bool) (h : ov x < n) : sRow n (x ++ [ovM s]) = (sRow n x).set (ov x) s := by
  have e1 : dec (x ++ [ovM s]) = ((dec x).1 ++ [((dec x).2, s)], []) := by
    rw [dec_app]
    cases s <;> rfl
  have e2 : ov (x ++ [ovM s]) = ov x + 1 := by rw [ov_app]; cases s <;> rfl
  unfold sRow
  have hl : ((dec x).1.map (·.2)).length = ov x := by rw [List.length_map, dec_ov]
  rw [e1, e2, List.map_append, List.set_append_right _ _ (by omega), hl, Nat.sub_self, show n - ov x = (n - (ov x + 1)) + 1 from by omega, List.replicate_succ, List.set_cons_zero, List.append_assoc]
  rfl
theorem sRow_get {n : Nat} {x : List M} (h : ov x < n) : (sRow n x)[ov x]? = some false := by
  unfold sRow
  have hl : ((dec x).1.map (·.2)).length = ov x := by rw [List.length_map, dec_ov]
  rw [List.getElem?_append_right (by omega), hl, Nat.sub_self, List.getElem?_replicate, if_pos (by omega)]
theorem sRow_cut {n : Nat} {x : List M} (h : ov x < n) : sRow n (x ++ [some none]) = sRow n x := by
  have := sRow_over false h
  rw [show ovM false = some none from rfl] at this
  rw [this]
  obtain ⟨hl, hv⟩ := List.getElem?_eq_some_iff.1 (sRow_get h)
  rw [← hv, List.set_getElem_self]
theorem row_cuts {n : Nat} : ∀ (k : Nat) (x : List M), ov x + k ≤ n → pRow n (x ++ cutsM k) = pRow n x ∧ sRow n (x ++ cutsM k) = sRow n x
  | 0, x, h => by show pRow n (x ++ []) = _ ∧ sRow n (x ++ []) = _; rw [List.append_nil]; exact ⟨rfl, rfl⟩
  | k + 1, x, h => by
    obtain ⟨i1, i2⟩ := row_cuts k (x ++ [some none]) (by rw [ov_app]; show ov x + 1 + k ≤ n; omega)
    rw [List.append_assoc] at i1 i2
    rw [cutsM_succ]
    exact ⟨i1.trans (pRow_over false (by omega)), i2.trans (sRow_cut (by omega))⟩
theorem keepsM_one (x : List M) (k : Nat) : x ++ keepsM (k + 1) = (x ++ keepsM k) ++ [ovM true] := by
  rw [keepsM_add k 1, List.append_assoc]
  rfl
theorem dec_puts (x : List M) : ∀ s, dec (x ++ putsM s) = ((dec x).1, (dec x).2 ++ s)
  | [] => by show dec (x ++ []) = _; rw [List.append_nil, List.append_nil]
  | b :: s => by
    have := dec_puts (x ++ [some (some b)]) s
    rw [List.append_assoc] at this
    show dec (x ++ ([some (some b)] ++ putsM s)) = _
    rw [this, dec_app]
    show ((dec x).1, ((dec x).2 ++ [b]) ++ s) = _
    rw [List.append_assoc]
    rfl
theorem pRow_get {n : Nat} (x : List M) : (pRow n x)[ov x]? = some (dec x).2 := by
  unfold pRow
  have hl : ((dec x).1.map (·.1)).length = ov x := by rw [List.length_map, dec_ov]
  rw [List.getElem?_append_right (by omega), hl, Nat.sub_self]
  rfl
theorem row_puts (n : Nat) (x : List M) (s : List UInt8) : pRow n (x ++ putsM s) = (pRow n x).set (ov x) ((dec x).2 ++ s) ∧ sRow n (x ++ putsM s) = sRow n x := by
  have hl : ((dec x).1.map (·.1)).length = ov x := by rw [List.length_map, dec_ov]
  unfold pRow sRow
  rw [dec_puts, ov_app, ov_puts, Nat.add_zero]
  refine ⟨?_, rfl⟩
  rw [List.set_append_right _ _ (by omega), hl, Nat.sub_self, List.set_cons_zero]
theorem pRow_end {n : Nat} {x : List M} (h : ov x = n) : pRow n x = (dec x).1.map (·.1) ++ [(dec x).2] := by
  unfold pRow
  rw [h, Nat.sub_self]
  rfl
theorem sRow_end {n : Nat} {x : List M} (h : ov x = n) : sRow n x = (dec x).1.map (·.2) := by
  unfold sRow
  rw [h, Nat.sub_self]
  exact List.append_nil _

/-! Over each other, place by place. -/
def mid (s t : Bool) : List M := if t then (if s then [none] else [some none]) else []
def ovr : List (List UInt8 × Bool) → List UInt8 → List (List UInt8 × Bool) → List UInt8 → List M × List M
  | [], pe, _, qe => (putsM pe ++ (keepsM qe.length ++ []), keepsM pe.length ++ (putsM qe ++ []))
  | a :: P, pe, Q, qe => match Q with
    | [] => ([], [])
    | b :: Q => (putsM a.1 ++ (keepsM b.1.length ++ (mid a.2 b.2 ++ (ovr P pe Q qe).1)), keepsM a.1.length ++ (putsM b.1 ++ (mid b.2 a.2 ++ (ovr P pe Q qe).2)))
theorem tr_puts (a b : List M) : ∀ p, tr (putsM p ++ a) b = (putsM p ++ (tr a b).1, keepsM p.length ++ (tr a b).2)
  | [] => rfl
  | c :: p => by
    show (some (some c) :: (tr (putsM p ++ a) b).1, none :: (tr (putsM p ++ a) b).2) = _
    rw [tr_puts a b p]
    show _ = (_, keepsM (p.length + 1) ++ _)
    rw [keepsM_succ]
    rfl
theorem trN_puts : ∀ q, trN (putsM q) = (keepsM q.length, putsM q)
  | [] => rfl
  | c :: q => by
    show (none :: (trN (putsM q)).1, some (some c) :: (trN (putsM q)).2) = _
    rw [trN_puts q]
    show _ = (keepsM (q.length + 1), _)
    rw [keepsM_succ]
    rfl
theorem trK_puts (f : List M → List M × List M) (b : List M) : ∀ q, trK f (putsM q ++ b) = (keepsM q.length ++ (trK f b).1, putsM q ++ (trK f b).2)
  | [] => rfl
  | c :: q => by
    show (none :: (trK f (putsM q ++ b)).1, some (some c) :: (trK f (putsM q ++ b)).2) = _
    rw [trK_puts f b q]
    show _ = (keepsM (q.length + 1) ++ _, _)
    rw [keepsM_succ]
    rfl
theorem trC_puts (f : List M → List M × List M) (b : List M) : ∀ q, trC f (putsM q ++ b) = (keepsM q.length ++ (trC f b).1, putsM q ++ (trC f b).2)
  | [] => rfl
  | c :: q => by
    show (none :: (trC f (putsM q ++ b)).1, some (some c) :: (trC f (putsM q ++ b)).2) = _
    rw [trC_puts f b q]
    show _ = (keepsM (q.length + 1) ++ _, _)
    rw [keepsM_succ]
    rfl
theorem tr_xp : ∀ (P : List (List UInt8 × Bool)) (pe : List UInt8) (Q : List (List UInt8 × Bool)) (qe : List UInt8), P.length = Q.length → tr (xp P pe) (xp Q qe) = ovr P pe Q qe
  | [], pe, [], qe, h => by
    show tr (putsM pe) (putsM qe) = (putsM pe ++ (keepsM qe.length ++ []), keepsM pe.length ++ (putsM qe ++ []))
    have := tr_puts [] (putsM qe) pe
    rw [List.append_nil] at this
    rw [this, List.append_nil, List.append_nil]
    show (_ ++ (trN (putsM qe)).1, _ ++ (trN (putsM qe)).2) = _
    rw [trN_puts]
  | a :: P, pe, [], qe, h => by simp at h
  | [], pe, b :: Q, qe, h => by simp at h
  | a :: P, pe, b :: Q, qe, h => by
    obtain ⟨p, s⟩ := a
    obtain ⟨q, t⟩ := b
    have ih := tr_xp P pe Q qe (by simpa using h)
    show tr (putsM p ++ (ovM s :: xp P pe)) (putsM q ++ (ovM t :: xp Q qe)) = (putsM p ++ (keepsM q.length ++ (mid s t ++ (ovr P pe Q qe).1)), keepsM p.length ++ (putsM q ++ (mid t s ++ (ovr P pe Q qe).2)))
    rw [tr_puts, ← ih]
    cases s
    · show (_ ++ (trC (tr (xp P pe)) (putsM q ++ (ovM t :: xp Q qe))).1, _ ++ (trC (tr (xp P pe)) (putsM q ++ (ovM t :: xp Q qe))).2) = _
      rw [trC_puts]
      cases t <;> rfl
    · show (_ ++ (trK (tr (xp P pe)) (putsM q ++ (ovM t :: xp Q qe))).1, _ ++ (trK (tr (xp P pe)) (putsM q ++ (ovM t :: xp Q qe))).2) = _
      rw [trK_puts]
      cases t <;> rfl
/-- What is left to be laid out, from place i on. -/
structure GG (O : List At) (X : List M) (i : Nat) (R : List At) (N : Nat) : Prop where
  row : O ++ act ptA X (whole i (ov X)) = R
  num : i + ov X = N
theorem GG.puts {O : List At} {p : List UInt8} {X : List M} {i : Nat} {R : List At} {N : Nat} (h : GG O (putsM p ++ X) i R N) : GG (O ++ p.map ptA) X i R N := by
  obtain ⟨h1, h2⟩ := h
  rw [ov_app, ov_puts, Nat.zero_add] at h1 h2
  rw [act_puts] at h1
  exact ⟨by rw [List.append_assoc]; exact h1, h2⟩
theorem GG.keeps {O : List At} {q : Nat} {X : List M} {i : Nat} {R : List At} {N : Nat} (h : GG O (keepsM q ++ X) i R N) : GG (O ++ whole i q) X (i + q) R N := by
  obtain ⟨h1, h2⟩ := h
  rw [ov_app, ov_keeps] at h1 h2
  have hl := whole_len i q
  rw [act_keeps ptA X q _ (by rw [whole_len]; omega), whole_add, List.take_left' hl, List.drop_left' hl] at h1
  exact ⟨by rw [List.append_assoc]; exact h1, by omega⟩
theorem GG.cut {O : List At} {X : List M} {i : Nat} {R : List At} {N : Nat} (h : GG O ([some none] ++ X) i R N) : GG O X (i + 1) R N := by
  obtain ⟨h1, h2⟩ := h
  exact ⟨h1, by rw [ov_app] at h2; have e : ov [some none] = 1 := rfl; omega⟩
theorem GG.done {O : List At} {i : Nat} {R : List At} {N : Nat} (h : GG O [] i R N) : O = R ∧ i = N := ⟨by have := h.row; rwa [show act ptA [] (whole i (ov [])) = [] from rfl, List.append_nil] at this, h.num⟩
end Go.Proofs.Yteajpkoghlbneaa.spls
