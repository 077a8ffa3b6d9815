/- What is ahead of a wrong token; what stands between a node's kids: plain mathematics. -/
import Derived.Test.YtoikdjbgeebadaaTreeSol
set_option linter.unusedVariables false
namespace Go.Proofs.Ytoikdjbgeebadaa.trees
open toks

theorem sol_same (L src : List UInt8) : ∀ (l : List Tk) (i : Nat), (∀ t ∈ l, symOf L t = symOf src t) → solF L i l = solF src i l
  | [], i, _ => rfl
  | t :: l, i, h => by
    have ih := sol_same L src l (i + 1) (fun t ht => h t (by simp [ht]))
    by_cases hk : 3 < t.kind
    · rw [sol_yes hk, sol_yes hk, ih, h t (by simp)]
    · rw [sol_no hk, sol_no hk, ih]
/-- The text ahead of a token: its signs are those ahead of it. -/
theorem sols_ahead (L : List UInt8) (p rest : List Sym) (x : Sym) (h : sols L = p ++ x :: rest) : ∃ t, (toksL L)[x.2]? = some t ∧ t.fro < L.length ∧ sols (L.take t.fro) = p := by
  obtain ⟨_, h2, h3, _⟩ := sol_part L (toksL L) p [x] rest x x h rfl rfl
  have hg : (cutP 0 L)[x.2]? = some (toksL L)[x.2] := List.getElem?_eq_getElem h2
  obtain ⟨_, b2, b3, _, _, _, _, h6, _⟩ := cut_at x.2 0 L _ hg
  rw [Nat.sub_zero] at h6
  refine ⟨_, List.getElem?_eq_getElem h2, by omega, ?_⟩
  generalize (toksL L)[x.2].fro = f at *
  have e : toksL (L.take f) = (toksL L).take x.2 := h6
  unfold sols
  rw [← sol_same L (L.take f) (toksL (L.take f)) 0 (fun t ht => by
    obtain ⟨k, hk, e2⟩ := List.getElem_of_mem ht
    have hg2 : (cutP 0 (L.take f))[k]? = some t := by rw [← e2]; exact List.getElem?_eq_getElem hk
    obtain ⟨_, c2, c3, _⟩ := cut_at k 0 _ t hg2
    rw [List.length_take] at c3
    unfold symOf
    have : L.getD t.fro 0 = (L.take f).getD t.fro 0 := by
      rw [List.getD, List.getD, List.getElem?_take_of_lt (by omega)]
    rw [this]), e]
  exact h3.symm
/-- A solid token is among the signs. -/
theorem sol_mem (L : List UInt8) : ∀ (l : List Tk) (i j : Nat) (h : j < l.length), 3 < l[j].kind → (symOf L l[j], i + j) ∈ solF L i l
  | [], i, j, h, _ => by simp at h
  | t :: l, i, 0, h, hk => by
    rw [List.getElem_cons_zero] at hk ⊢
    rw [sol_yes hk]
    simp
  | t :: l, i, j + 1, h, hk => by
    rw [List.getElem_cons_succ] at hk ⊢
    have ih := sol_mem L l (i + 1) j (by simpa using h) hk
    rw [show i + (j + 1) = i + 1 + j by omega]
    by_cases h3 : 3 < t.kind
    · rw [sol_yes h3]; exact List.mem_cons_of_mem _ ih
    · rw [sol_no h3]; exact ih
/-- No word, no text and nothing bad from token a to token b - 1. -/
def Clear (l : List Tk) (a b : Nat) : Prop := ∀ (j : Nat) (h : j < l.length), a ≤ j → j < b → l[j].kind ≠ 4 ∧ l[j].kind ≠ 5 ∧ l[j].kind ≠ 7
theorem clear_of {L : List UInt8} {a b : Nat} (h : ∀ z ∈ sols L, a ≤ z.2 → z.2 < b → z.1 ≠ 120 ∧ z.1 ≠ 63) : Clear (toksL L) a b := by
  intro j hj ha hb
  by_cases hk : 3 < (toksL L)[j].kind
  · have hm := sol_mem L (toksL L) 0 j hj hk
    rw [Nat.zero_add] at hm
    have hz := h _ hm ha hb
    simp only [symOf] at hz
    refine ⟨fun e => ?_, fun e => ?_, fun e => ?_⟩
    · rw [e] at hz; exact hz.1 rfl
    · rw [e] at hz; exact hz.1 rfl
    · rw [e] at hz; exact hz.2 rfl
  · omega
/-- Kids in order, from token a on, none behind token e; and what is between them. -/
def CovL (l : List Tk) (e : Nat) : Nat → List T → Prop
  | a, [] => a ≤ e ∧ Clear l a e
  | a, t :: r => ∃ k a' e' kids, t = nd k a' e' kids ∧ a ≤ a' ∧ a' ≤ e' ∧ e' ≤ e ∧ Clear l a a' ∧ CovL l e e' r
/-- A node, and all within it. -/
def CovT (l : List Tk) : Nat → T → Prop
  | 0, _ => False
  | n + 1, t => ∃ k a e kids, t = nd k a e kids ∧ a ≤ e ∧ e ≤ l.length ∧ (kids ≠ [] → CovL l e a kids) ∧ ∀ (j : Nat) (h : j < kids.length), CovT l n kids[j]
theorem cov_up (l : List Tk) : ∀ (n : Nat) (t : T), CovT l n t → CovT l (n + 1) t
  | 0, _, h => h.elim
  | n + 1, t, h => by
    obtain ⟨k, a, e, kids, rfl, h1, h2, h3, h4⟩ := h
    exact ⟨k, a, e, kids, rfl, h1, h2, h3, fun j hj => cov_up l n _ (h4 j hj)⟩
/-- Where a kid begins and ends, by its signs. -/
def Ends (q : List Sym → R) : Prop := ∀ seg t, q seg = .inr (t, []) → ∃ (k e : Nat) (l : List T) (x y : Sym), t = nd k x.2 e l ∧ seg.head? = some x ∧ seg.getLast? = some y ∧ e = y.2 + 1
theorem pv_ends' (lv : Nat) : Ends (pv lv) := fun seg t h => by
  obtain ⟨k, e, l, x, y, h1, h2, h3, h4, _⟩ := pv_ends h
  exact ⟨k, e, l, x, y, h1, h2, h3, h4⟩
theorem ent_ends' (lv : Nat) : Ends (entP (pv lv)) := fun seg t h => by
  obtain ⟨e, l, x, y, h1, h2, h3, h4⟩ := ent_ends h
  exact ⟨4, e, l, x, y, h1, h2, h3, h4⟩
theorem up_app {L : List UInt8} {a b : List Sym} (h : sols L = a ++ b) : ∀ x ∈ a, ∀ y ∈ b, x.2 < y.2 := by
  have up := sol_up L (toksL L) 0
  unfold sols at h
  rw [h, List.pairwise_append] at up
  exact up.2.2
/-- What stands between the marks, kid by kid. -/
theorem kseg_cov {L : List UInt8} {q : List Sym → R} {ec : UInt8} (hq : Ends q) (hec : ec ≠ 120 ∧ ec ≠ 63) : ∀ (l : List T) (ts P Q : List Sym) (e a : Nat), KSeg q ec l ts e → sols L = P ++ (ts ++ Q) → (∀ z ∈ P, a ≤ z.2 → z.1 ≠ 120 ∧ z.1 ≠ 63) → (∀ z ∈ ts, a ≤ z.2) → CovL (toksL L) e a l
  | [], ts, P, Q, e, a, h, hs, hP, ht => by
    obtain ⟨y, hy, rfl, rfl⟩ := h
    have hay := ht y (by simp)
    refine ⟨by omega, clear_of fun z hz h1 h2 => ?_⟩
    rw [hs] at hz
    rcases List.mem_append.1 hz with hz | hz
    · exact hP z hz h1
    · rcases List.mem_append.1 hz with hz | hz
      · rw [List.mem_singleton.1 hz, hy]; exact hec
      · have := up_app (a := P ++ [y]) (b := Q) (by rw [hs]; simp) y (by simp) z hz
        omega
  | t :: l, ts, P, Q, e, a, h, hs, hP, ht => by
    obtain ⟨seg, y, rest, hseg, hqs, rfl, h⟩ := h
    obtain ⟨k, e', kids, x, w, rfl, hx, hw, rfl⟩ := hq seg t hqs
    have hxm := head_mem hx
    have hwm := last_mem hw
    have hs1 : sols L = P ++ (seg ++ (y :: rest ++ Q)) := by rw [hs]; simp
    obtain ⟨hxw, _, _, _⟩ := sol_part L (toksL L) P seg (y :: rest ++ Q) x w hs1 hx hw
    have hax := ht x (by simp [hxm])
    have hsx : ∀ z ∈ seg ++ (y :: rest ++ Q), x.2 ≤ z.2 := fun z hz => by
      obtain ⟨b, hb⟩ : ∃ b, seg = x :: b := by
        cases seg with
        | nil => cases hx
        | cons c b => injection hx with hx; exact ⟨b, by rw [hx]⟩
      rw [hb] at hz hs1
      rcases List.mem_append.1 hz with hz | hz
      · rcases List.mem_cons.1 hz with rfl | hz
        · exact Nat.le_refl _
        · exact Nat.le_of_lt (up_app (a := P ++ [x]) (b := b ++ (y :: rest ++ Q)) (by rw [hs1]; simp) x (by simp) z (by simp [hz]))
      · exact Nat.le_of_lt (up_app (a := P ++ [x]) (b := b ++ (y :: rest ++ Q)) (by rw [hs1]; simp) x (by simp) z (List.mem_append.2 (.inr hz)))
    have hsw : ∀ z ∈ P ++ seg, z.2 ≤ w.2 := fun z hz => by
      obtain ⟨b, hb⟩ := List.getLast?_eq_some_iff.1 hw
      rw [hb] at hz hs1
      rcases List.mem_append.1 hz with hz | hz
      · exact Nat.le_of_lt (up_app (a := P) (b := b ++ [w] ++ (y :: rest ++ Q)) (by rw [hs1]) z hz w (by simp))
      · rcases List.mem_append.1 hz with hz | hz
        · exact Nat.le_of_lt (up_app (a := P ++ b) (b := [w] ++ (y :: rest ++ Q)) (by rw [hs1]; simp) z (by simp [hz]) w (by simp))
        · rw [List.mem_singleton.1 hz]; exact Nat.le_refl _
    have hwr : ∀ z ∈ y :: rest ++ Q, w.2 < z.2 := fun z hz => up_app (a := P ++ seg) (b := y :: rest ++ Q) (by rw [hs1]; simp) w (by simp [hwm]) z hz
    have hclear : Clear (toksL L) a x.2 := clear_of fun z hz h1 h2 => by
      rw [hs1] at hz
      rcases List.mem_append.1 hz with hz | hz
      · exact hP z hz h1
      · have := hsx z hz
        omega
    have hyw := hwr y (by simp)
    rcases h with ⟨hy, hk⟩ | ⟨hy, rfl, rfl, rfl⟩
    · have ih := kseg_cov hq hec l rest (P ++ seg ++ [y]) Q e (w.2 + 1) hk (by rw [hs1]; simp) (fun z hz h1 => by
        rcases List.mem_append.1 hz with hz | hz
        · have := hsw z hz
          omega
        · rw [List.mem_singleton.1 hz, hy]; decide) (fun z hz => hwr z (by simp [hz]))
      obtain ⟨y2, hl1, _, he⟩ := kseg_last l rest e hk
      have hwy := hwr y2 (by simp [last_mem hl1])
      exact ⟨k, x.2, w.2 + 1, kids, rfl, hax, by omega, by omega, hclear, ih⟩
    · refine ⟨k, x.2, w.2 + 1, kids, rfl, hax, by omega, by omega, hclear, by omega, clear_of fun z hz h1 h2 => ?_⟩
      rw [hs1] at hz
      rw [← List.append_assoc] at hz
      rcases List.mem_append.1 hz with hz | hz
      · have := hsw z hz
        omega
      · rcases List.mem_append.1 hz with hz | hz
        · rw [List.mem_singleton.1 hz, hy]; exact hec
        · have := up_app (a := P ++ seg ++ [y]) (b := Q) (by rw [hs1]; simp) y (by simp) z hz
          omega
/-- A value that lies within the text covers what is its own. -/
def CovQ (L : List UInt8) (n : Nat) (q : List Sym → R) : Prop := ∀ seg t, Part seg (sols L) → q seg = .inr (t, []) → CovT (toksL L) n t
theorem covq_up {L : List UInt8} {n : Nat} {q : List Sym → R} (h : CovQ L n q) : CovQ L (n + 1) q := fun seg t hp hq => cov_up _ n t (h seg t hp hq)
theorem sym_lt {L : List UInt8} {z : Sym} (h : z ∈ sols L) : z.2 < (toksL L).length := by
  obtain ⟨_, h1, _⟩ := sol_in L (toksL L) 0 z h
  omega
theorem loop_cov {L : List UInt8} {n : Nat} {q : List Sym → R} {ec : UInt8} (hq : Ends q) (hc : CovQ L n q) (hec : ec ≠ 120 ∧ ec ≠ 63) {x : Sym} {ts : List Sym} {k e : Nat} {l : List T} (hx : x.1 ≠ 120 ∧ x.1 ≠ 63) (hp : Part (x :: ts) (sols L)) (hk : KSeg q ec l ts e) : CovT (toksL L) (n + 1) (nd k x.2 e l) := by
  obtain ⟨pre, post, hp⟩ := hp
  obtain ⟨y, hl1, _, he⟩ := kseg_last l ts e hk
  have hym := last_mem hl1
  have hyl := sym_lt (L := L) (z := y) (by rw [hp]; simp [hym])
  have hxt : ∀ z ∈ ts, x.2 < z.2 := fun z hz => up_app (a := pre ++ [x]) (b := ts ++ post) (by rw [hp]; simp) x (by simp) z (by simp [hz])
  have hpx : ∀ z ∈ pre, z.2 < x.2 := fun z hz => up_app (a := pre) (b := x :: ts ++ post) (by rw [hp]) z hz x (by simp)
  have hxy := hxt y hym
  refine ⟨k, x.2, e, l, rfl, by omega, by omega, fun _ => ?_, fun j hj => ?_⟩
  · refine kseg_cov hq hec l ts (pre ++ [x]) post e x.2 hk (by rw [hp]; simp) (fun z hz h1 => ?_) (fun z hz => Nat.le_of_lt (hxt z hz))
    rcases List.mem_append.1 hz with hz | hz
    · have := hpx z hz
      omega
    · rw [List.mem_singleton.1 hz]; exact hx
  · obtain ⟨p2, s, q2, e1, _, h3⟩ := kseg_mem l ts e hk j hj
    exact hc s _ ⟨pre ++ x :: p2, q2 ++ post, by rw [hp, e1]; simp⟩ h3
theorem ent_cov {L : List UInt8} {n lv : Nat} (hc : CovQ L (n + 1) (pv lv)) : CovQ L (n + 2) (entP (pv lv)) := by
  intro seg t hp h
  obtain ⟨x, m, sv, v, rfl, _, hm, hv, rfl⟩ := ent_form h
  obtain ⟨pre, post, hp⟩ := hp
  obtain ⟨k, e, l, x2, y, rfl, h1, h2, rfl, _⟩ := pv_ends hv
  have hxm := head_mem h1
  have hym := last_mem h2
  have hyl := sym_lt (L := L) (z := y) (by rw [hp]; simp [hym])
  obtain ⟨hxy, _⟩ := sol_part L (toksL L) (pre ++ [x, m]) sv post x2 y (by unfold sols at hp; rw [hp]; simp) h1 h2
  have hm1 : x.2 < m.2 := up_app (a := pre ++ [x]) (b := m :: sv ++ post) (by rw [hp]; simp) x (by simp) m (by simp)
  have hm2 : m.2 < x2.2 := up_app (a := pre ++ [x, m]) (b := sv ++ post) (by rw [hp]; simp) m (by simp) x2 (by simp [hxm])
  refine ⟨4, x.2, y.2 + 1, [nd 2 x.2 (x.2 + 1) [], nd k x2.2 (y.2 + 1) l], rfl, by omega, by omega, fun _ => ?_, fun j hj => ?_⟩
  · refine ⟨2, x.2, x.2 + 1, [], rfl, Nat.le_refl _, by omega, by omega, fun j _ h1 h2 => by omega, k, x2.2, y.2 + 1, l, rfl, by omega, by omega, Nat.le_refl _, clear_of fun z hz h3 h4 => ?_, Nat.le_refl _, fun j _ h1 h2 => by omega⟩
    rw [hp] at hz
    have hz' : z ∈ (pre ++ [x]) ++ (m :: (sv ++ post)) := by
      have e0 : pre ++ ((x :: m :: sv) ++ post) = (pre ++ [x]) ++ (m :: (sv ++ post)) := by simp
      rw [e0] at hz
      exact hz
    rcases List.mem_append.1 hz' with hz | hz
    · have : z.2 ≤ x.2 := by
        rcases List.mem_append.1 hz with hz | hz
        · exact Nat.le_of_lt (up_app (a := pre) (b := x :: m :: sv ++ post) (by rw [hp]) z hz x (by simp))
        · rw [List.mem_singleton.1 hz]; exact Nat.le_refl _
      omega
    · rcases List.mem_cons.1 hz with rfl | hz
      · rcases hm with hm | hm <;> rw [hm] <;> decide
      · have : x2.2 ≤ z.2 := by
          obtain ⟨b, hb⟩ : ∃ b, sv = x2 :: b := by
            cases sv with
            | nil => cases h1
            | cons c b => injection h1 with h1; exact ⟨b, by rw [h1]⟩
          rw [hb] at hz hp
          rcases List.mem_cons.1 hz with rfl | hz
          · exact Nat.le_refl _
          · exact Nat.le_of_lt (up_app (a := pre ++ [x, m, x2]) (b := b ++ post) (by rw [hp]; simp) x2 (by simp) z hz)
        omega
  · match j, hj with
    | 0, _ => exact ⟨2, x.2, x.2 + 1, [], rfl, by omega, by omega, fun h => absurd rfl h, fun j h => by simp at h⟩
    | 1, _ => exact hc sv _ ⟨pre ++ [x, m], post, by rw [hp]; simp⟩ hv
theorem pv_cov (L : List UInt8) : ∀ lv, CovQ L (2 * lv + 1) (pv lv)
  | 0 => fun seg t _ h => by
    obtain ⟨lv', h1, _⟩ := pv_form h
    omega
  | lv + 1 => fun seg t hp h => by
    have ih := pv_cov L lv
    obtain ⟨lv', h1, hf⟩ := pv_form h
    have : lv' = lv := by omega
    subst this
    rcases hf with ⟨x, rfl, _, rfl⟩ | ⟨x, ts, l, e, rfl, hx, rfl, hk⟩ | ⟨x, ts, l, e, rfl, hx, rfl, hk⟩
    · obtain ⟨pre, post, hp⟩ := hp
      have := sym_lt (L := L) (z := x) (by rw [hp]; simp)
      exact ⟨1, x.2, x.2 + 1, [], rfl, by omega, by omega, fun h => absurd rfl h, fun j h => by simp at h⟩
    · exact loop_cov (ent_ends' lv') (ent_cov ih) (by decide) (by rw [hx]; decide) hp hk
    · exact loop_cov (pv_ends' lv') (covq_up ih) (by decide) (by rw [hx]; decide) hp hk
/-- A document covers all of its text. -/
theorem doc_cov (L : List UInt8) (t : T) (h : pd (sols L) = .inr (t, [])) : CovT (toksL L) 42 (nd 6 0 (toksL L).length [t]) := by
  obtain ⟨_, hv⟩ := pd_val h
  have h20 := val_alone hv
  have hc := pv_cov L 20 (sols L) t (part_refl _) h20
  obtain ⟨k, e, l, x, y, rfl, h1, h2, rfl, _⟩ := pv_ends h20
  have hyl := sym_lt (L := L) (last_mem h2)
  obtain ⟨hxy, _⟩ := sol_part L (toksL L) [] (sols L) [] x y (by unfold sols; simp) h1 h2
  refine ⟨6, 0, _, _, rfl, Nat.zero_le _, Nat.le_refl _, fun _ => ⟨k, x.2, y.2 + 1, l, rfl, Nat.zero_le _, by omega, by omega, clear_of fun z hz _ h4 => ?_, by omega, clear_of fun z hz h3 _ => ?_⟩, fun j hj => ?_⟩
  · exfalso
    obtain ⟨b, hb⟩ : ∃ b, sols L = x :: b := by
      cases hs : sols L with
      | nil => rw [hs] at h1; cases h1
      | cons c b => rw [hs] at h1; injection h1 with h1; exact ⟨b, by rw [h1]⟩
    rw [hb] at hz
    rcases List.mem_cons.1 hz with rfl | hz
    · omega
    · have := up_app (L := L) (a := [x]) (b := b) (by rw [hb]; rfl) x (by simp) z hz
      omega
  · exfalso
    obtain ⟨b, hb⟩ := List.getLast?_eq_some_iff.1 h2
    rw [hb] at hz
    rcases List.mem_append.1 hz with hz | hz
    · have := up_app (L := L) (a := b) (b := [y]) hb z hz y (by simp)
      omega
    · rw [List.mem_singleton.1 hz] at h3
      omega
  · match j, hj with
    | 0, _ => exact hc
end Go.Proofs.Ytoikdjbgeebadaa.trees
