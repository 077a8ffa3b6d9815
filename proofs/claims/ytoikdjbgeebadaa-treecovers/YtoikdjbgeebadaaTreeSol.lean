/- The solid tokens of a text, and the signs of a part of it: plain mathematics. -/
import Derived.Test.YtoikdjbgeebadaaTokMore
import Derived.Test.YtoikdjbgeebadaaTreeKids
set_option linter.unusedVariables false
namespace Go.Proofs.Ytoikdjbgeebadaa.trees
open toks

def symOf (L : List UInt8) (t : Tk) : UInt8 := if t.kind = 6 then L.getD t.fro 0 else if t.kind = 7 then 63 else 120
def solF (L : List UInt8) : Nat → List Tk → List Sym
  | _, [] => []
  | i, t :: r => if 3 < t.kind then (symOf L t, i) :: solF L (i + 1) r else solF L (i + 1) r
/-- The solid tokens of a text, as signs. -/
def sols (L : List UInt8) : List Sym := solF L 0 (toksL L)
theorem sol_yes {L : List UInt8} {i : Nat} {t : Tk} {r : List Tk} (h : 3 < t.kind) : solF L i (t :: r) = (symOf L t, i) :: solF L (i + 1) r := by rw [solF, if_pos h]
theorem sol_no {L : List UInt8} {i : Nat} {t : Tk} {r : List Tk} (h : ¬ 3 < t.kind) : solF L i (t :: r) = solF L (i + 1) r := by rw [solF, if_neg h]
theorem sol_app (L : List UInt8) : ∀ (a b : List Tk) (i : Nat), solF L i (a ++ b) = solF L i a ++ solF L (i + a.length) b
  | [], b, i => rfl
  | t :: a, b, i => by
    have ih := sol_app L a b (i + 1)
    have e : i + (t :: a).length = i + 1 + a.length := by simp only [List.length_cons]; omega
    rw [e, List.cons_append]
    by_cases h : 3 < t.kind
    · rw [sol_yes h, sol_yes h, ih]; rfl
    · rw [sol_no h, sol_no h, ih]
theorem sol_in (L : List UInt8) : ∀ (l : List Tk) (i : Nat) (x : Sym), x ∈ solF L i l → i ≤ x.2 ∧ ∃ h : x.2 - i < l.length, 3 < l[x.2 - i].kind ∧ x.1 = symOf L l[x.2 - i]
  | [], i, x, h => by cases h
  | t :: l, i, x, h => by
    have go : x ∈ solF L (i + 1) l → i ≤ x.2 ∧ ∃ h : x.2 - i < (t :: l).length, 3 < (t :: l)[x.2 - i].kind ∧ x.1 = symOf L (t :: l)[x.2 - i] := fun hm => by
      obtain ⟨h1, h2, h3, h4⟩ := sol_in L l (i + 1) x hm
      refine ⟨by omega, by simp only [List.length_cons]; omega, ?_⟩
      have e : (t :: l)[x.2 - i]'(by simp only [List.length_cons]; omega) = l[x.2 - (i + 1)] := by
        have : x.2 - i = (x.2 - (i + 1)) + 1 := by omega
        simp only [this, List.getElem_cons_succ]
      rw [e]
      exact ⟨h3, h4⟩
    by_cases hk : 3 < t.kind
    · rw [sol_yes hk] at h
      rcases List.mem_cons.1 h with rfl | h
      · refine ⟨Nat.le_refl _, by simp, ?_⟩
        simp only [Nat.sub_self, List.getElem_cons_zero]
        exact ⟨hk, trivial⟩
      · exact go h
    · rw [sol_no hk] at h
      exact go h
theorem sol_up (L : List UInt8) : ∀ (l : List Tk) (i : Nat), (solF L i l).Pairwise (fun a b => a.2 < b.2)
  | [], i => List.Pairwise.nil
  | t :: l, i => by
    by_cases hk : 3 < t.kind
    · rw [sol_yes hk]
      refine List.Pairwise.cons (fun x hx => ?_) (sol_up L l (i + 1))
      have := (sol_in L l (i + 1) x hx).1
      show i < x.2
      omega
    · rw [sol_no hk]
      exact sol_up L l (i + 1)
/-- Two ways to part a list at one number are one. -/
theorem part_at {n : Nat} {a b c d : List Sym} (h : a ++ b = c ++ d) (ha : ∀ x ∈ a, x.2 < n) (hb : ∀ x ∈ b, n ≤ x.2) (hc : ∀ x ∈ c, x.2 < n) (hd : ∀ x ∈ d, n ≤ x.2) : a = c ∧ b = d := by
  induction a generalizing c with
  | nil =>
    cases c with
    | nil => exact ⟨rfl, h⟩
    | cons y c =>
      have h1 := hc y (by simp)
      have h2 := hb y (by rw [List.nil_append] at h; rw [h]; simp)
      omega
  | cons x a ih =>
    cases c with
    | nil =>
      have h1 := ha x (by simp)
      have h2 := hd x (by rw [List.nil_append] at h; rw [← h]; simp)
      omega
    | cons y c =>
      rw [List.cons_append, List.cons_append] at h
      injection h with h1 h2
      obtain ⟨e1, e2⟩ := ih h2 (fun z hz => ha z (by simp [hz])) (fun z hz => hc z (by simp [hz]))
      rw [h1, e1]
      exact ⟨rfl, e2⟩
theorem head_mem {seg : List Sym} {x : Sym} (h : seg.head? = some x) : x ∈ seg := by
  cases seg with
  | nil => cases h
  | cons a b => injection h with h; rw [h]; simp
theorem last_mem {seg : List Sym} {y : Sym} (h : seg.getLast? = some y) : y ∈ seg := List.mem_of_getLast? h
/-- Signs that stand one behind the other are the solid tokens from the first one's to the last one's. -/
theorem sol_part (L : List UInt8) (l : List Tk) (pre seg post : List Sym) (x y : Sym) (h : solF L 0 l = pre ++ (seg ++ post)) (hx : seg.head? = some x) (hy : seg.getLast? = some y) :
    x.2 ≤ y.2 ∧ y.2 < l.length ∧ pre = solF L 0 (l.take x.2) ∧ seg = solF L x.2 ((l.drop x.2).take (y.2 + 1 - x.2)) := by
  have up := sol_up L l 0
  rw [h, List.pairwise_append] at up
  obtain ⟨_, up2, up3⟩ := up
  rw [List.pairwise_append] at up2
  obtain ⟨up4, _, up5⟩ := up2
  have hxm := head_mem hx
  have hym := last_mem hy
  have hsx : ∀ z ∈ seg, x.2 ≤ z.2 := fun z hz => by
    cases seg with
    | nil => cases hz
    | cons a b =>
      injection hx with hx
      subst hx
      rcases List.mem_cons.1 hz with rfl | hz
      · exact Nat.le_refl _
      · exact Nat.le_of_lt (List.rel_of_pairwise_cons up4 hz)
  have hsy : ∀ z ∈ seg, z.2 ≤ y.2 := fun z hz => by
    obtain ⟨ys, rfl⟩ := List.getLast?_eq_some_iff.1 hy
    rcases List.mem_append.1 hz with hz | hz
    · rw [List.pairwise_append] at up4
      exact Nat.le_of_lt (up4.2.2 z hz y (by simp))
    · rw [List.mem_singleton.1 hz]
      exact Nat.le_refl _
  have hyl : y.2 < l.length := by
    obtain ⟨_, h1, _⟩ := sol_in L l 0 y (by rw [h]; simp [hym])
    omega
  have hxy := hsy x hxm
  have e1 : solF L 0 l = solF L 0 (l.take x.2) ++ solF L x.2 (l.drop x.2) := by
    have := sol_app L (l.take x.2) (l.drop x.2) 0
    rw [List.take_append_drop] at this
    rw [this, List.length_take, show 0 + min x.2 l.length = x.2 by omega]
  rw [e1] at h
  obtain ⟨p1, p2⟩ := part_at (n := x.2) h (fun z hz => by
      obtain ⟨_, h1, _⟩ := sol_in L _ 0 z hz
      rw [List.length_take] at h1
      omega) (fun z hz => (sol_in L _ x.2 z hz).1) (fun z hz => up3 z hz x (by simp [hxm])) (fun z hz => by
      rcases List.mem_append.1 hz with hz | hz
      · exact hsx z hz
      · exact Nat.le_of_lt (up5 x hxm z hz))
  have e2 : solF L x.2 (l.drop x.2) = solF L x.2 ((l.drop x.2).take (y.2 + 1 - x.2)) ++ solF L (y.2 + 1) ((l.drop x.2).drop (y.2 + 1 - x.2)) := by
    have := sol_app L ((l.drop x.2).take (y.2 + 1 - x.2)) ((l.drop x.2).drop (y.2 + 1 - x.2)) x.2
    rw [List.take_append_drop] at this
    rw [this, List.length_take, List.length_drop, show x.2 + min (y.2 + 1 - x.2) (l.length - x.2) = y.2 + 1 by omega]
  rw [e2] at p2
  obtain ⟨q1, _⟩ := part_at (n := y.2 + 1) p2 (fun z hz => by
      obtain ⟨h0, h1, _⟩ := sol_in L _ x.2 z hz
      rw [List.length_take] at h1
      omega) (fun z hz => (sol_in L _ (y.2 + 1) z hz).1) (fun z hz => by have := hsy z hz; omega) (fun z hz => up5 y hym z hz)
  exact ⟨hxy, hyl, p1.symm, q1.symm⟩
/-- The text of tokens a to b: its own tokens. -/
theorem toks_part (L : List UInt8) (a b : Nat) (ta tb : Tk) (hab : a ≤ b) (ha : (toksL L)[a]? = some ta) (hb : (toksL L)[b]? = some tb) :
    ta.fro < tb.til ∧ tb.til ≤ L.length ∧ (toksL ((L.drop ta.fro).take (tb.til - ta.fro))).map (shiftT ta.fro) = ((toksL L).drop a).take (b + 1 - a) := by
  obtain ⟨_, a2, a3, _, _, _, _, _, a7⟩ := cut_at a 0 L ta ha
  rw [Nat.sub_zero] at a7
  have hb' : (cutP ta.fro (L.drop ta.fro))[b - a]? = some tb := by
    rw [a7, List.getElem?_drop, show a + (b - a) = b by omega]
    exact hb
  obtain ⟨b1, b2, b3, _⟩ := cut_at (b - a) ta.fro (L.drop ta.fro) tb hb'
  rw [List.length_drop] at b3
  refine ⟨by omega, by omega, ?_⟩
  have es := cutP_shift ta.fro 0 ((L.drop ta.fro).take (tb.til - ta.fro))
  rw [Nat.zero_add] at es
  rw [toksL_eq, ← es, toksL_eq, ← a7]
  cases hn : (cutP ta.fro (L.drop ta.fro))[b - a + 1]? with
  | none =>
    have hl := cut_last (b - a) ta.fro (L.drop ta.fro) tb hb' hn
    rw [List.take_of_length_le (by rw [hl]; omega), List.take_of_length_le ?_]
    have := List.getElem?_eq_none_iff.1 hn
    omega
  | some u =>
    obtain ⟨e1, _⟩ := cut_next (b - a) ta.fro (L.drop ta.fro) tb u hb' hn
    obtain ⟨_, _, _, _, _, _, _, h6, _⟩ := cut_at (b - a + 1) ta.fro (L.drop ta.fro) u hn
    rw [← e1, h6, show b - a + 1 = b + 1 - a by omega]
theorem sol_shift (L src : List UInt8) (f : Nat) : ∀ (l : List Tk) (i b : Nat), (∀ t ∈ l, symOf L (shiftT f t) = symOf src t) → solF L (i + b) (l.map (shiftT f)) = (solF src i l).map (sh b)
  | [], i, b, _ => rfl
  | t :: l, i, b, h => by
    have ih := sol_shift L src f l (i + 1) b (fun t ht => h t (by simp [ht]))
    have e : i + b + 1 = i + 1 + b := by omega
    rw [List.map_cons]
    by_cases hk : 3 < t.kind
    · rw [sol_yes (show 3 < (shiftT f t).kind from hk), sol_yes hk, e, ih, List.map_cons, h t (by simp)]
      rfl
    · rw [sol_no (show ¬ 3 < (shiftT f t).kind from hk), sol_no hk, e, ih]
/-- A value's text, alone: its signs are the same, with other numbers. -/
theorem sols_alone (L : List UInt8) (pre seg post : List Sym) (x y : Sym) (h : sols L = pre ++ (seg ++ post)) (hx : seg.head? = some x) (hy : seg.getLast? = some y) :
    ∃ ta tb, (toksL L)[x.2]? = some ta ∧ (toksL L)[y.2]? = some tb ∧ x.2 ≤ y.2 ∧ ta.fro < tb.til ∧ tb.til ≤ L.length ∧ seg = (sols ((L.drop ta.fro).take (tb.til - ta.fro))).map (sh x.2) := by
  obtain ⟨h1, h2, _, h4⟩ := sol_part L (toksL L) pre seg post x y h hx hy
  have hx2 : x.2 < (toksL L).length := by omega
  obtain ⟨p1, p2, p3⟩ := toks_part L x.2 y.2 (toksL L)[x.2] (toksL L)[y.2] h1 (List.getElem?_eq_getElem hx2) (List.getElem?_eq_getElem h2)
  refine ⟨_, _, List.getElem?_eq_getElem hx2, List.getElem?_eq_getElem h2, h1, p1, p2, ?_⟩
  generalize (toksL L)[x.2].fro = f at *
  generalize (toksL L)[y.2].til = g at *
  rw [← p3] at h4
  have hs := sol_shift L ((L.drop f).take (g - f)) f (toksL ((L.drop f).take (g - f))) 0 x.2 (fun t ht => by
    obtain ⟨k, hk, e⟩ := List.getElem_of_mem ht
    have hg : (cutP 0 ((L.drop f).take (g - f)))[k]? = some t := by rw [← e]; exact List.getElem?_eq_getElem hk
    obtain ⟨_, b2, b3, _⟩ := cut_at k 0 _ t hg
    rw [List.length_take, List.length_drop] at b3
    unfold symOf shiftT
    simp only
    have : L.getD (t.fro + f) 0 = ((L.drop f).take (g - f)).getD t.fro 0 := by
      rw [List.getD, List.getD, List.getElem?_take_of_lt (by omega), List.getElem?_drop, Nat.add_comm]
    rw [this])
  rw [Nat.zero_add] at hs
  rw [h4, hs]
  rfl
/-- The tree of a value that lies within a document, read alone. -/
theorem alone_tree (L : List UInt8) (t : T) (seg : List Sym) (hp : Part seg (sols L)) (hv : IsVal t seg) :
    ∃ (k e : Nat) (l : List T) (x y : Sym) (ta tb : Tk) (t' : T), t = nd k x.2 e l ∧ e = y.2 + 1 ∧ (toksL L)[x.2]? = some ta ∧ (toksL L)[y.2]? = some tb ∧ x.2 ≤ y.2 ∧ ta.fro < tb.til ∧ tb.til ≤ L.length ∧
      pd (sols ((L.drop ta.fro).take (tb.til - ta.fro))) = .inr (t', []) ∧ MvT x.2 41 t t' := by
  obtain ⟨pre, post, hp⟩ := hp
  have h20 := val_alone hv
  obtain ⟨k, e, l, x, y, rfl, hx, hy, he, _⟩ := pv_ends h20
  obtain ⟨ta, tb, h1, h2, h3, h4, h5, h6⟩ := sols_alone L pre seg post x y hp hx hy
  have hs := pv_sh x.2 20 (sols ((L.drop ta.fro).take (tb.til - ta.fro)))
  rw [← h6] at hs
  cases hq : pv 20 (sols ((L.drop ta.fro).take (tb.til - ta.fro))) with
  | inl er =>
    obtain ⟨er, r⟩ := er
    have := hs.1 er r hq
    rw [h20] at this
    cases this
  | inr tr =>
    obtain ⟨t', r⟩ := tr
    obtain ⟨t2, q1, q2⟩ := hs.2 t' r hq
    rw [h20] at q1
    injection q1 with q1
    injection q1 with q3 q4
    have hr : r = [] := by
      cases r with
      | nil => rfl
      | cons a b => cases q4
    subst hr
    refine ⟨k, e, l, x, y, ta, tb, t', rfl, he, h1, h2, h3, h4, h5, ?_, ?_⟩
    · unfold pd
      rw [hq]
    · rw [q3]; exact q2
end Go.Proofs.Ytoikdjbgeebadaa.trees
