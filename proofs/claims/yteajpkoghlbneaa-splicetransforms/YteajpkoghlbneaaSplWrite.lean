/- The writer of normal changes, and what is wrong with a change: plain mathematics. -/
import Derived.Test.YteajpkoghlbneaaSplPlain
set_option linter.unusedVariables false
namespace Go.Proofs.Yteajpkoghlbneaa.spls

/-- A writer: parts, what is to be put, how much is to be cut. -/
abbrev WS : Type := List Pt × List UInt8 × Nat
def putP (p : List UInt8) : List Pt := if p = [] then [] else [(3, 0, p)]
def cutP (c : Nat) : List Pt := if c = 0 then [] else [(2, (c : Int), [])]
def stl (S : WS) : List Pt := S.1 ++ (putP S.2.1 ++ cutP S.2.2)
def lastK (L : List Pt) : Bool := match L.getLast? with
  | none => false
  | some p => p.1 == 1
def lastN (L : List Pt) : Int := match L.getLast? with
  | none => 0
  | some p => p.2.1
def addK (L : List Pt) (n : Nat) : List Pt := if lastK L = true then L.dropLast ++ [(1, lastN L + (n : Int), [])] else L ++ [(1, (n : Int), [])]
def wK (n : Nat) (S : WS) : WS := if n = 0 then S else (addK (stl S) n, [], 0)
def wP (s : List UInt8) (S : WS) : WS := (S.1, S.2.1 ++ s, S.2.2)
def wC (n : Nat) (S : WS) : WS := (S.1, S.2.1, S.2.2 + n)
def ws1 (S : WS) : M → WS
  | none => wK 1 S
  | some none => wC 1 S
  | some (some b) => wP [b] S
def wrun (S : WS) (x : List M) : WS := x.foldl ws1 S
theorem wrun_app (S : WS) (x y : List M) : wrun S (x ++ y) = wrun (wrun S x) y := List.foldl_append
theorem wrun_puts : ∀ (s : List UInt8) (S : WS), wrun S (putsM s) = wP s S
  | [], S => by show S = (S.1, S.2.1 ++ [], S.2.2); rw [List.append_nil]
  | b :: s, S => by
    show wrun (wP [b] S) (putsM s) = _
    rw [wrun_puts s]
    show (S.1, (S.2.1 ++ [b]) ++ s, S.2.2) = (S.1, S.2.1 ++ b :: s, S.2.2)
    rw [List.append_assoc]
    rfl
theorem wrun_cuts : ∀ (n : Nat) (S : WS), wrun S (cutsM n) = wC n S
  | 0, S => rfl
  | n + 1, S => by
    rw [cutsM_succ]
    show wrun (wC 1 S) (cutsM n) = _
    rw [wrun_cuts n]
    show (S.1, S.2.1, S.2.2 + 1 + n) = (S.1, S.2.1, S.2.2 + (n + 1))
    rw [show S.2.2 + 1 + n = S.2.2 + (n + 1) from by omega]
theorem last_add (L : List Pt) (n : Nat) : lastK (addK L n) = true ∧ ∃ m : Int, addK L n = (addK L n).dropLast ++ [(1, m, [])] ∧ lastN (addK L n) = m := by
  unfold addK
  split
  · refine ⟨by simp [lastK], _, by simp; rfl, by simp [lastN]⟩
  · refine ⟨by simp [lastK], _, by simp; rfl, by simp [lastN]⟩
theorem add_add (L : List Pt) (m n : Nat) : addK (addK L m) n = addK L (m + n) := by
  have h := (last_add L m).1
  have e : ∀ X : List Pt, lastK X = true → addK X n = X.dropLast ++ [(1, lastN X + (n : Int), [])] := fun X hX => if_pos hX
  rw [e _ h]
  unfold addK
  split
  · simp [lastN]; omega
  · simp [lastN]
theorem stl_nil (L : List Pt) : stl (L, [], 0) = L := by simp [stl, putP, cutP]
theorem wrun_keeps : ∀ (n : Nat) (S : WS), wrun S (keepsM n) = wK n S
  | 0, S => rfl
  | n + 1, S => by
    rw [keepsM_succ]
    show wrun (wK 1 S) (keepsM n) = _
    rw [wrun_keeps n]
    cases n with
    | zero => rfl
    | succ n =>
      show (addK (stl (addK (stl S) 1, [], 0)) (n + 1), [], 0) = (addK (stl S) (n + 1 + 1), ([] : List UInt8), 0)
      rw [stl_nil, add_add, show 1 + (n + 1) = n + 1 + 1 from by omega]
/-- Right parts: of some bytes, and of their kind. -/
def okP (p : Pt) : Prop := (p.1 = 1 ∧ 0 < p.2.1 ∧ p.2.2 = []) ∨ (p.1 = 2 ∧ 0 < p.2.1 ∧ p.2.2 = []) ∨ (p.1 = 3 ∧ p.2.1 = 0 ∧ p.2.2 ≠ [])
def okL (L : List Pt) : Prop := ∀ p ∈ L, okP p
theorem okL_app {A B : List Pt} (ha : okL A) (hb : okL B) : okL (A ++ B) := fun p hp => (List.mem_append.1 hp).elim (ha p) (hb p)
theorem okL_put (p : List UInt8) : okL (putP p) := fun x hx => by
  unfold putP at hx
  split at hx
  · exact absurd hx List.not_mem_nil
  · rename_i h
    rw [List.mem_singleton.1 hx]
    exact .inr (.inr ⟨rfl, rfl, h⟩)
theorem okL_cut (c : Nat) : okL (cutP c) := fun x hx => by
  unfold cutP at hx
  split at hx
  · exact absurd hx List.not_mem_nil
  · rename_i h
    rw [List.mem_singleton.1 hx]
    exact .inr (.inl ⟨rfl, by show (0 : Int) < (c : Int); omega, rfl⟩)
theorem okL_stl {S : WS} (h : okL S.1) : okL (stl S) := okL_app h (okL_app (okL_put _) (okL_cut _))
theorem last_parts {L : List Pt} (h : okL L) (hk : lastK L = true) : ∃ m : Int, 0 < m ∧ L = L.dropLast ++ [(1, m, [])] ∧ lastN L = m := by
  unfold lastK at hk
  cases hl : L.getLast? with
  | none => rw [hl] at hk; cases hk
  | some p =>
    rw [hl] at hk
    have h1 : p.1 = 1 := by simpa using hk
    have hm : p ∈ L := List.mem_of_getLast? hl
    have hp := h p hm
    have h2 : 0 < p.2.1 ∧ p.2.2 = [] := by
      rcases hp with ⟨_, a, b⟩ | ⟨a, _⟩ | ⟨a, _⟩
      · exact ⟨a, b⟩
      · omega
      · omega
    refine ⟨p.2.1, h2.1, ?_, by unfold lastN; rw [hl]⟩
    rw [show ((1 : Int), p.2.1, ([] : List UInt8)) = p from by rw [← h1, ← h2.2]]
    have hne : L ≠ [] := fun e => by rw [e] at hl; cases hl
    have hg : L.getLast hne = p := by rw [List.getLast?_eq_some_getLast hne] at hl; injection hl
    rw [← hg]
    exact (List.dropLast_concat_getLast hne).symm
theorem okL_add {L : List Pt} (h : okL L) (n : Nat) (hn : 0 < n) : okL (addK L n) := by
  unfold addK
  split
  · rename_i hk
    obtain ⟨m, hm, hL, hN⟩ := last_parts h hk
    refine okL_app (fun p hp => h p (List.dropLast_subset _ hp)) (fun p hp => ?_)
    rw [List.mem_singleton.1 hp]
    exact .inl ⟨rfl, by show 0 < lastN L + (n : Int); omega, rfl⟩
  · refine okL_app h (fun p hp => ?_)
    rw [List.mem_singleton.1 hp]
    exact .inl ⟨rfl, by show 0 < (n : Int); omega, rfl⟩
theorem okL_ws1 {S : WS} (h : okL S.1) (m : M) : okL (ws1 S m).1 := by
  rcases m with _ | _ | b
  · exact okL_add (okL_stl h) 1 (by decide)
  · exact h
  · exact h
theorem okL_wrun : ∀ (x : List M) {S : WS}, okL S.1 → okL (wrun S x).1
  | [], S, h => h
  | m :: x, S, h => okL_wrun x (okL_ws1 h m)
theorem ex_putP (p : List UInt8) : exL (putP p) = putsM p := by
  unfold putP
  split
  · rename_i h; rw [h]; rfl
  · rw [exL_one, ex_put]
theorem ex_cutP (c : Nat) : exL (cutP c) = cutsM c := by
  unfold cutP
  split
  · rename_i h; rw [h]; rfl
  · rw [exL_one, ex_cut, Int.toNat_natCast]
theorem ex_stl (S : WS) : exL (stl S) = exL S.1 ++ (putsM S.2.1 ++ cutsM S.2.2) := by
  unfold stl
  rw [exL_app, exL_app, ex_putP, ex_cutP]
theorem ex_add {L : List Pt} (h : okL L) (n : Nat) : exL (addK L n) = exL L ++ keepsM n := by
  unfold addK
  split
  · rename_i hk
    obtain ⟨m, hm, hL, hN⟩ := last_parts h hk
    rw [exL_app, exL_one, ex_keep, hN]
    conv => rhs; rw [hL]
    rw [exL_app, exL_one, ex_keep, show (m + (n : Int)).toNat = m.toNat + n from by omega, keepsM_add, List.append_assoc]
  · rw [exL_app, exL_one, ex_keep, Int.toNat_natCast]
theorem ex_wrun : ∀ (x : List M) (S : WS), okL S.1 → exL (stl (wrun S x)) = exL S.1 ++ go x S.2.1 S.2.2
  | [], S, h => ex_stl S
  | none :: x, S, h => by
    show exL (stl (wrun (addK (stl S) 1, [], 0) x)) = _
    rw [ex_wrun x _ (okL_add (okL_stl h) 1 (by decide))]
    show exL (addK (stl S) 1) ++ go x [] 0 = exL S.1 ++ (putsM S.2.1 ++ (cutsM S.2.2 ++ none :: go x [] 0))
    rw [ex_add (okL_stl h), ex_stl]
    simp only [List.append_assoc]
    rfl
  | some none :: x, S, h => ex_wrun x (wC 1 S) h
  | some (some b) :: x, S, h => ex_wrun x (wP [b] S) h
theorem go_wrun : ∀ (x : List M) (L : List Pt) (p q : List UInt8) (c d : Nat), stl (wrun (L, p, c) (go x q d)) = stl (wrun (L, p ++ q, c + d) x)
  | [], L, p, q, c, d => by
    show stl (wrun (L, p, c) (putsM q ++ cutsM d)) = _
    rw [wrun_app, wrun_puts, wrun_cuts]
    rfl
  | none :: x, L, p, q, c, d => by
    show stl (wrun (L, p, c) (putsM q ++ (cutsM d ++ none :: go x [] 0))) = _
    rw [wrun_app, wrun_puts, wrun_app, wrun_cuts]
    show stl (wrun (addK (stl (L, p ++ q, c + d)) 1, [], 0) (go x [] 0)) = stl (wrun (addK (stl (L, p ++ q, c + d)) 1, [], 0) x)
    exact go_wrun x _ [] [] 0 0
  | some none :: x, L, p, q, c, d => by
    show stl (wrun (L, p, c) (go x q (d + 1))) = stl (wrun (L, p ++ q, c + d + 1) x)
    rw [go_wrun x L p q c (d + 1)]
    rfl
  | some (some b) :: x, L, p, q, c, d => by
    show stl (wrun (L, p, c) (go x (q ++ [b]) d)) = stl (wrun (L, (p ++ q) ++ [b], c + d) x)
    rw [go_wrun x L p (q ++ [b]) c d, List.append_assoc]
def w0 : WS := ([], [], 0)
/-- The normal change of these bytes. -/
def nf (x : List M) : List Pt := stl (wrun w0 x)
theorem ok0 : okL w0.1 := fun p hp => absurd hp List.not_mem_nil
theorem ex_nf (x : List M) : exL (nf x) = nrm x := ex_wrun x w0 ok0
theorem nf_nrm (x : List M) : nf (nrm x) = nf x := go_wrun x [] [] [] 0 0
theorem nf_ok (x : List M) : okL (nf x) := okL_stl (okL_wrun x ok0)
theorem nrm_nrm (x : List M) : nrm (nrm x) = nrm x := by rw [← ex_nf, nf_nrm, ex_nf]
theorem nf_of {x y : List M} (h : nrm x = nrm y) : nf x = nf y := by rw [← nf_nrm x, h, nf_nrm]
theorem nf_keeps (n : Nat) (h : 0 < n) : nf (keepsM n) = [(1, (n : Int), [])] := by
  unfold nf
  rw [wrun_keeps]
  unfold wK
  rw [if_neg (by omega), stl_nil]
  rfl
/-! What is wrong with a change. -/
def chkP (p : Pt) : Int :=
  if p.1 ≠ 1 ∧ p.1 ≠ 2 ∧ p.1 ≠ 3 then 10 else if p.2.1 < 0 ∨ 20000 < p.2.1 then 1 else if p.1 = 3 ∧ p.2.1 ≠ 0 then 1 else if 20000 < p.2.2.length then 2 else if p.1 ≠ 3 ∧ p.2.2 ≠ [] then 1 else 0
def chkL : List Pt → Int
  | [] => 0
  | x :: l => if chkP x = 0 then chkL l else chkP x
def chk (L : List Pt) : Int := if 400 < L.length then 2 else if chkL L ≠ 0 then chkL L else if 20000 < ov (exL L) ∨ 20000 < mk (exL L) then 2 else 0
theorem chkP_ok {p : Pt} (h : chkP p = 0) : (p.1 = 1 ∧ 0 ≤ p.2.1 ∧ p.2.1 ≤ 20000 ∧ p.2.2 = []) ∨ (p.1 = 2 ∧ 0 ≤ p.2.1 ∧ p.2.1 ≤ 20000 ∧ p.2.2 = []) ∨ (p.1 = 3 ∧ p.2.1 = 0 ∧ p.2.2.length ≤ 20000) := by
  unfold chkP at h
  split at h
  · omega
  · rename_i h1
    split at h
    · omega
    · rename_i h2
      split at h
      · omega
      · rename_i h3
        split at h
        · omega
        · rename_i h4
          split at h
          · omega
          · rename_i h5
            by_cases e3 : p.1 = 3
            · exact .inr (.inr ⟨e3, Classical.byContradiction fun hn => h3 ⟨e3, hn⟩, by omega⟩)
            · have hs : p.2.2 = [] := Classical.byContradiction fun hn => h5 ⟨e3, hn⟩
              by_cases e1 : p.1 = 1
              · exact .inl ⟨e1, by omega, by omega, hs⟩
              · exact .inr (.inl ⟨Classical.byContradiction fun hn => h1 ⟨e1, hn, e3⟩, by omega, by omega, hs⟩)
theorem chkP_zero {p : Pt} (h : (p.1 = 1 ∧ 0 ≤ p.2.1 ∧ p.2.1 ≤ 20000 ∧ p.2.2 = []) ∨ (p.1 = 2 ∧ 0 ≤ p.2.1 ∧ p.2.1 ≤ 20000 ∧ p.2.2 = []) ∨ (p.1 = 3 ∧ p.2.1 = 0 ∧ p.2.2.length ≤ 20000)) : chkP p = 0 := by
  unfold chkP
  rcases h with ⟨a, b, c, d⟩ | ⟨a, b, c, d⟩ | ⟨a, b, c⟩
  · rw [if_neg (by omega), if_neg (by omega), if_neg (by omega), if_neg (by rw [d]; decide), if_neg (fun h => h.2 d)]
  · rw [if_neg (by omega), if_neg (by omega), if_neg (by omega), if_neg (by rw [d]; decide), if_neg (fun h => h.2 d)]
  · rw [if_neg (by omega), if_neg (by omega), if_neg (by omega), if_neg (by omega), if_neg (fun h => h.1 a)]
theorem chkL_zero {L : List Pt} : chkL L = 0 ↔ ∀ p ∈ L, chkP p = 0 := by
  induction L with
  | nil => exact ⟨fun _ p hp => absurd hp List.not_mem_nil, fun _ => rfl⟩
  | cons x l ih =>
    unfold chkL
    constructor
    · intro h p hp
      split at h
      · rename_i h1
        rcases List.mem_cons.1 hp with rfl | hp
        · exact h1
        · exact ih.1 h p hp
      · rename_i h1
        exact absurd h h1
    · intro h
      rw [if_pos (h x List.mem_cons_self)]
      exact ih.2 fun p hp => h p (List.mem_cons_of_mem _ hp)
theorem chk_ok {L : List Pt} (h : chk L = 0) : L.length ≤ 400 ∧ (∀ p ∈ L, chkP p = 0) ∧ ov (exL L) ≤ 20000 ∧ mk (exL L) ≤ 20000 := by
  unfold chk at h
  split at h
  · omega
  · split at h
    · rename_i h1; exact absurd h h1
    · rename_i h1
      split at h
      · omega
      · exact ⟨by omega, chkL_zero.1 (Classical.byContradiction fun hn => h1 hn), by omega, by omega⟩
theorem chk_zero {L : List Pt} (h1 : L.length ≤ 400) (h2 : ∀ p ∈ L, chkP p = 0) (h3 : ov (exL L) ≤ 20000) (h4 : mk (exL L) ≤ 20000) : chk L = 0 := by
  unfold chk
  rw [if_neg (by omega), if_neg (fun h => h (chkL_zero.2 h2)), if_neg (by omega)]
theorem part_fits : ∀ {L : List Pt} {p : Pt}, p ∈ L → ov (ex p) ≤ ov (exL L) ∧ mk (ex p) ≤ mk (exL L)
  | x :: l, p, h => by
    rw [exL_cons, ov_app, mk_app]
    rcases List.mem_cons.1 h with rfl | h
    · omega
    · have := part_fits h
      omega
/-- Right parts in few bytes are good. -/
theorem chk_okL {L : List Pt} (h : okL L) (h1 : L.length ≤ 400) (h3 : ov (exL L) ≤ 20000) (h4 : mk (exL L) ≤ 20000) : chk L = 0 := by
  refine chk_zero h1 (fun p hp => chkP_zero ?_) h3 h4
  obtain ⟨f1, f2⟩ := part_fits hp
  obtain ⟨k, n, s⟩ := p
  rcases h _ hp with ⟨a, b, c⟩ | ⟨a, b, c⟩ | ⟨a, b, c⟩
  · replace a : k = 1 := a
    subst a
    rw [ex_keep, ov_keeps] at f1
    exact .inl ⟨rfl, Int.le_of_lt b, by show n ≤ 20000; omega, c⟩
  · replace a : k = 2 := a
    subst a
    rw [ex_cut, ov_cuts] at f1
    exact .inr (.inl ⟨rfl, Int.le_of_lt b, by show n ≤ 20000; omega, c⟩)
  · replace a : k = 3 := a
    subst a
    rw [ex_put, mk_puts] at f2
    exact .inr (.inr ⟨rfl, b, by show s.length ≤ 20000; omega⟩)
/-! A normal change has no more parts. -/
def wlen (S : WS) : Nat := (stl S).length
def nP (p : List UInt8) : Nat := (putP p).length
def nC (c : Nat) : Nat := (cutP c).length
theorem nP_le (p : List UInt8) : nP p ≤ 1 := by unfold nP putP; split <;> simp
theorem nC_le (c : Nat) : nC c ≤ 1 := by unfold nC cutP; split <;> simp
theorem wlen_eq (S : WS) : wlen S = S.1.length + (nP S.2.1 + nC S.2.2) := by
  unfold wlen stl nP nC
  rw [List.length_append, List.length_append]
theorem add_len (L : List Pt) (n : Nat) : (addK L n).length ≤ L.length + 1 := by
  unfold addK
  split <;> simp <;> omega
theorem wlen_part (p : Pt) (h : chkP p = 0) (S : WS) : wlen (wrun S (ex p)) ≤ wlen S + 1 := by
  obtain ⟨k, n, s⟩ := p
  rcases chkP_ok h with ⟨a, b, c, d⟩ | ⟨a, b, c, d⟩ | ⟨a, b, c⟩
  · replace a : k = 1 := a
    subst a
    rw [ex_keep, wrun_keeps]
    unfold wK
    split
    · omega
    · have := add_len (stl S) n.toNat
      unfold wlen
      rw [stl_nil]
      exact this
  · replace a : k = 2 := a
    subst a
    rw [ex_cut, wrun_cuts, wlen_eq, wlen_eq]
    show S.1.length + (nP S.2.1 + nC (S.2.2 + n.toNat)) ≤ _
    have := nC_le (S.2.2 + n.toNat)
    omega
  · replace a : k = 3 := a
    subst a
    rw [ex_put, wrun_puts, wlen_eq, wlen_eq]
    show S.1.length + (nP (S.2.1 ++ s) + nC S.2.2) ≤ _
    have := nP_le (S.2.1 ++ s)
    omega
theorem wlen_parts : ∀ (L : List Pt), (∀ p ∈ L, chkP p = 0) → ∀ S : WS, wlen (wrun S (exL L)) ≤ wlen S + L.length
  | [], h, S => Nat.le_refl _
  | p :: L, h, S => by
    rw [exL_cons, wrun_app]
    have h1 := wlen_parts L (fun p hp => h p (List.mem_cons_of_mem _ hp)) (wrun S (ex p))
    have h2 := wlen_part p (h p List.mem_cons_self) S
    simp only [List.length_cons]
    omega
theorem nf_len (L : List Pt) (h : ∀ p ∈ L, chkP p = 0) : (nf (exL L)).length ≤ L.length := by
  have := wlen_parts L h w0
  have h0 : wlen w0 = 0 := rfl
  rw [h0] at this
  have e : (nf (exL L)).length = wlen (wrun w0 (exL L)) := rfl
  omega
/-- The normal one of a good change is good. -/
theorem nf_good {L : List Pt} (h : chk L = 0) : chk (nf (exL L)) = 0 := by
  obtain ⟨h1, h2, h3, h4⟩ := chk_ok h
  refine chk_okL (nf_ok _) (Nat.le_trans (nf_len L h2) h1) ?_ ?_
  · rw [ex_nf, ov_nrm]; exact h3
  · rw [ex_nf, mk_nrm]; exact h4
end Go.Proofs.Yteajpkoghlbneaa.spls
