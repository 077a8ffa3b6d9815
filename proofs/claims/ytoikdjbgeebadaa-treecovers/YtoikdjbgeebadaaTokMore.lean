/- Tokens of a text, one behind the other: plain mathematics. -/
import Derived.Test.YtoikdjbgeebadaaTokPlain
set_option linter.unusedVariables false
namespace Go.Proofs.Ytoikdjbgeebadaa.toks

/-- The tokens of a text whose first byte has the place p. -/
def cutP (p : Nat) (l : List UInt8) : List Tk := cutF l.length p l
theorem cutF_nil (f p : Nat) : cutF f p [] = [] := by cases f <;> simp [cutF]
theorem cutF_same : ∀ (f g p : Nat) (l : List UInt8), l.length ≤ f → l.length ≤ g → cutF f p l = cutF g p l
  | 0, g, p, l, hf, _ => by
    have : l = [] := List.eq_nil_of_length_eq_zero (by omega)
    rw [this, cutF_nil, cutF_nil]
  | f + 1, g, p, l, hf, hg => by
    by_cases h : l = []
    · rw [h, cutF_nil, cutF_nil]
    · have hp := List.length_pos_iff.2 h
      obtain ⟨g', rfl⟩ : ∃ g', g = g' + 1 := ⟨g - 1, by omega⟩
      obtain ⟨a, b, _⟩ := tokK_size h
      have e := cutF_same f g' (p + (tokK l).2) (l.drop (tokK l).2) (by rw [List.length_drop]; omega) (by rw [List.length_drop]; omega)
      rw [cutF, cutF, if_neg h, if_neg h, e]
theorem cutP_nil (p : Nat) : cutP p [] = [] := rfl
theorem cutP_cons {p : Nat} {l : List UInt8} (h : l ≠ []) : cutP p l = ⟨(tokK l).1, p, p + (tokK l).2⟩ :: cutP (p + (tokK l).2) (l.drop (tokK l).2) := by
  have hp := List.length_pos_iff.2 h
  obtain ⟨n, hn⟩ : ∃ n, l.length = n + 1 := ⟨l.length - 1, by omega⟩
  obtain ⟨a, b, _⟩ := tokK_size h
  unfold cutP
  rw [hn, cutF, if_neg h, cutF_same n (l.drop (tokK l).2).length _ _ (by rw [List.length_drop]; omega) (Nat.le_refl _)]
theorem toksL_eq (l : List UInt8) : toksL l = cutP 0 l := rfl
/-- A text is gone through token by token. -/
theorem tok_ind {P : Nat → List UInt8 → Prop} (h0 : ∀ p, P p []) (h1 : ∀ p l, l ≠ [] → P (p + (tokK l).2) (l.drop (tokK l).2) → P p l) : ∀ (n p : Nat) (l : List UInt8), l.length ≤ n → P p l
  | 0, p, l, h => by
    have : l = [] := List.eq_nil_of_length_eq_zero (by omega)
    rw [this]; exact h0 p
  | n + 1, p, l, h => by
    by_cases e : l = []
    · rw [e]; exact h0 p
    · obtain ⟨a, b, _⟩ := tokK_size e
      exact h1 p l e (tok_ind h0 h1 n _ _ (by rw [List.length_drop]; omega))
theorem cutP_len (p : Nat) (l : List UInt8) : (cutP p l).length ≤ l.length := by
  refine tok_ind (P := fun p l => (cutP p l).length ≤ l.length) (fun p => by simp [cutP_nil]) (fun p l h ih => ?_) l.length p l (Nat.le_refl _)
  obtain ⟨a, b, _⟩ := tokK_size h
  rw [List.length_drop] at ih
  rw [cutP_cons h, List.length_cons]
  omega
def shiftT (q : Nat) (t : Tk) : Tk := ⟨t.kind, t.fro + q, t.til + q⟩
theorem cutP_shift (q p : Nat) (l : List UInt8) : cutP (p + q) l = (cutP p l).map (shiftT q) := by
  refine tok_ind (P := fun p l => cutP (p + q) l = (cutP p l).map (shiftT q)) (fun p => rfl) (fun p l h ih => ?_) l.length p l (Nat.le_refl _)
  rw [cutP_cons h, cutP_cons h, List.map_cons, ← ih]
  have e1 : p + q + (tokK l).2 = p + (tokK l).2 + q := by omega
  rw [e1]
  rfl
/-- The token of number i: where it stands, and what it is. -/
theorem cut_at : ∀ (i p : Nat) (l : List UInt8) (t : Tk), (cutP p l)[i]? = some t →
    p ≤ t.fro ∧ t.fro < t.til ∧ t.til ≤ p + l.length ∧ tokK (l.drop (t.fro - p)) = (t.kind, t.til - t.fro) ∧ l.drop (t.fro - p) ≠ [] ∧ 1 ≤ t.kind ∧ t.kind ≤ 7 ∧
    cutP p (l.take (t.fro - p)) = (cutP p l).take i ∧ cutP t.fro (l.drop (t.fro - p)) = (cutP p l).drop i
  | i, p, [], t, h => by rw [cutP_nil] at h; simp at h
  | 0, p, c :: r, t, h => by
    have hl : c :: r ≠ [] := by simp
    generalize c :: r = l at *
    obtain ⟨a, b, k1, k7⟩ := tokK_size hl
    have e := cutP_cons (p := p) hl
    rw [e] at h
    simp only [List.getElem?_cons_zero, Option.some.injEq] at h
    subst h
    simp only [Nat.sub_self, List.drop_zero, List.take_zero]
    refine ⟨Nat.le_refl _, by omega, by omega, ?_, hl, k1, k7, cutP_nil p, trivial⟩
    rw [show p + (tokK l).2 - p = (tokK l).2 by omega]
  | i + 1, p, c :: r, t, h => by
    have hl : c :: r ≠ [] := by simp
    generalize c :: r = l at *
    obtain ⟨a, b, _⟩ := tokK_size hl
    have e := cutP_cons (p := p) hl
    rw [e] at h
    simp only [List.getElem?_cons_succ] at h
    obtain ⟨h1, h2, h3, h4, h5, k1, k7, h6, h7⟩ := cut_at i (p + (tokK l).2) (l.drop (tokK l).2) t h
    rw [List.length_drop] at h3
    have ed : (l.drop (tokK l).2).drop (t.fro - (p + (tokK l).2)) = l.drop (t.fro - p) := by rw [List.drop_drop]; congr 1; omega
    rw [ed] at h4 h5 h7
    refine ⟨by omega, h2, by omega, h4, h5, k1, k7, ?_, by rw [e, List.drop_succ_cons]; exact h7⟩
    have hne : l.take (t.fro - p) ≠ [] := fun q => by
      have := congrArg List.length q
      rw [List.length_take, List.length_nil] at this
      omega
    have et : tokK (l.take (t.fro - p)) = tokK l := tokK_take (by omega) (by omega)
    have ex : (l.take (t.fro - p)).drop (tokK l).2 = (l.drop (tokK l).2).take (t.fro - (p + (tokK l).2)) := by
      rw [List.drop_take]; congr 1; omega
    rw [cutP_cons hne, et, ex, h6, e, List.take_succ_cons]
/-- They lie one behind the other, from the first byte to the last. -/
theorem cut_first {p : Nat} {l : List UInt8} {t : Tk} (h : (cutP p l)[0]? = some t) : t.fro = p := by
  by_cases e : l = []
  · rw [e, cutP_nil] at h; simp at h
  · rw [cutP_cons e] at h
    simp only [List.getElem?_cons_zero, Option.some.injEq] at h
    rw [← h]
theorem cut_next : ∀ (i p : Nat) (l : List UInt8) (t u : Tk), (cutP p l)[i]? = some t → (cutP p l)[i + 1]? = some u →
    u.fro = t.til ∧ (u.kind = t.kind → t.kind ≠ 1 ∧ t.kind ≠ 4)
  | i, p, [], t, u, h, _ => by rw [cutP_nil] at h; simp at h
  | 0, p, c :: r, t, u, h, k => by
    have hl : c :: r ≠ [] := by simp
    generalize c :: r = l at *
    have e := cutP_cons (p := p) hl
    rw [e] at h k
    simp only [List.getElem?_cons_zero, Option.some.injEq] at h
    simp only [List.getElem?_cons_succ] at k
    have hf := cut_first k
    by_cases hd : l.drop (tokK l).2 = []
    · rw [hd, cutP_nil] at k; simp at k
    · rw [cutP_cons hd] at k
      simp only [List.getElem?_cons_zero, Option.some.injEq] at k
      subst h
      subst k
      exact ⟨rfl, fun hk => tokK_apart hd hk⟩
  | i + 1, p, c :: r, t, u, h, k => by
    have hl : c :: r ≠ [] := by simp
    generalize c :: r = l at *
    have e := cutP_cons (p := p) hl
    rw [e] at h k
    simp only [List.getElem?_cons_succ] at h k
    exact cut_next i _ _ t u h k
theorem cut_last : ∀ (i p : Nat) (l : List UInt8) (t : Tk), (cutP p l)[i]? = some t → (cutP p l)[i + 1]? = none → t.til = p + l.length
  | i, p, [], t, h, _ => by rw [cutP_nil] at h; simp at h
  | 0, p, c :: r, t, h, k => by
    have hl : c :: r ≠ [] := by simp
    generalize c :: r = l at *
    obtain ⟨a, b, _⟩ := tokK_size hl
    have e := cutP_cons (p := p) hl
    rw [e] at h k
    simp only [List.getElem?_cons_zero, Option.some.injEq] at h
    simp only [List.getElem?_cons_succ] at k
    by_cases hd : l.drop (tokK l).2 = []
    · have := congrArg List.length hd
      rw [List.length_drop, List.length_nil] at this
      subst h
      simp only
      omega
    · rw [cutP_cons hd] at k
      simp at k
  | i + 1, p, c :: r, t, h, k => by
    have hl : c :: r ≠ [] := by simp
    generalize c :: r = l at *
    obtain ⟨a, b, _⟩ := tokK_size hl
    have e := cutP_cons (p := p) hl
    rw [e] at h k
    simp only [List.getElem?_cons_succ] at h k
    have := cut_last i _ _ t h k
    rw [List.length_drop] at this
    omega
theorem cut_none {p : Nat} {l : List UInt8} (h : (cutP p l)[0]? = none) : l = [] := by
  by_cases e : l = []
  · exact e
  · rw [cutP_cons e] at h; simp at h
/-- A token's text alone is cut into that token. -/
theorem cut_alone {l : List UInt8} {t : Tk} {i : Nat} (h : (toksL l)[i]? = some t) : toksL ((l.drop t.fro).take (t.til - t.fro)) = [⟨t.kind, 0, t.til - t.fro⟩] := by
  obtain ⟨_, h2, h3, h4, h5, _⟩ := cut_at i 0 l t h
  rw [Nat.sub_zero] at h4 h5
  rw [toksL_eq]
  have hl : (l.drop t.fro).take (t.til - t.fro) ≠ [] := fun q => by
    have := congrArg List.length q
    rw [List.length_take, List.length_drop, List.length_nil] at this
    omega
  have et : tokK ((l.drop t.fro).take (t.til - t.fro)) = tokK (l.drop t.fro) := tokK_take (by rw [h4]; exact Nat.le_refl _) (by omega)
  rw [cutP_cons hl, et, h4]
  simp only [Nat.zero_add]
  rw [List.drop_of_length_le (by rw [List.length_take]; omega), cutP_nil]
end Go.Proofs.Ytoikdjbgeebadaa.toks
