/- Of our texts, what this claim reaches. -/
import Derived.Test.YtnbfnjhbmeocfaaGreatDoorPblBP
import Derived.Test.YtnbfnjhbmeocfaaGreatDoorPblAA
import Derived.Test.YtnbfnjhbmeocfaaGreatDoorPblBR
set_option linter.unusedVariables false
set_option linter.unusedVariables false
namespace Go.Proofs.YtnbfnjhbmeocfaaGreatDoor.valus
open trees (Sym sols solF symOf)
open toks (Tk tokK toksL cutP tokK_size shutN closeN runL isB isW isM noL)
def lexF : Nat → List UInt8 → List Tok2
 | 0, _ => []
 | f + 1, l => if l = [] then [] else ((tokK l).1, l.take (tokK l).2) :: lexF f (l.drop (tokK l).2)
def lexL (l : List UInt8) : List Tok2 := lexF l.length l
def hard (t : Tok2) : Bool := decide (3 < t.1)
def solS (l : List UInt8) : List Tok2 := (lexL l).filter hard
theorem lexF_same : ∀ (f g : Nat) (l : List UInt8), l.length ≤ f → l.length ≤ g → lexF f l = lexF g l
 | 0, 0, _, _, _ => rfl
 | 0, g + 1, l, h, _ => by
  obtain rfl : l = [] := List.eq_nil_of_length_eq_zero (by omega)
  rw [lexF, lexF, if_pos rfl]
 | f + 1, 0, l, _, h => by
  obtain rfl : l = [] := List.eq_nil_of_length_eq_zero (by omega)
  rw [lexF, lexF, if_pos rfl]
 | f + 1, g + 1, l, h1, h2 => by
  rw [lexF, lexF]
  by_cases h : l = []
  ·rw [if_pos h, if_pos h]
  ·rw [if_neg h, if_neg h]
   have := (tokK_size h).1
   have h3 : (l.drop (tokK l).2).length = l.length - (tokK l).2 := List.length_drop
   rw [lexF_same f g _ (by omega) (by omega)]
theorem lex_nil : lexL [] = [] := rfl
theorem lex_cons {l : List UInt8} (h : l ≠ []) : lexL l = ((tokK l).1, l.take (tokK l).2) :: lexL (l.drop (tokK l).2) := by
 have hl := List.length_pos_iff.2 h
 obtain ⟨n, hn⟩ : ∃ n, l.length = n + 1 := ⟨l.length - 1, by omega⟩
 unfold lexL
 rw [hn, lexF, if_neg h]
 have := (tokK_size h).1
 have h3 : (l.drop (tokK l).2).length = l.length - (tokK l).2 := List.length_drop
 rw [lexF_same n _ _ (by omega) (Nat.le_refl _)]
theorem ext_cut (s : ByteArray) (a b : Nat) : (s.extract a b).data.toList = (s.data.toList.drop a).take (b - a) := by
 rw [ByteArray.data_extract, Array.toList_extract]
def part2 (L : List UInt8) (t : Tk) : Tok2 := (t.kind, (L.drop t.fro).take (t.til - t.fro))
theorem lex_toks (L : List UInt8) : ∀ (n p : Nat) (l : List UInt8), l.length ≤ n → L.drop p = l → lexL l = (cutP p l).map (part2 L)
 | 0, p, l, h, _ => by
  obtain rfl : l = [] := List.eq_nil_of_length_eq_zero (by omega)
  rfl
 | n + 1, p, l, h, hd => by
  by_cases h0 : l = []
  ·subst h0
   rfl
  ·have hz := (tokK_size h0).1
   have h3 : (l.drop (tokK l).2).length = l.length - (tokK l).2 := List.length_drop
   rw [lex_cons h0, toks.cutP_cons h0, List.map_cons, lex_toks L n (p + (tokK l).2) _ (by omega) (by rw [← hd, List.drop_drop])]
   congr 1
   unfold part2
   simp only
   rw [hd]
   congr 2
   omega
theorem lexL_toks (L : List UInt8) : lexL L = (toksL L).map (part2 L) := lex_toks L L.length 0 L (Nat.le_refl _) rfl
theorem ct_part (s : ByteArray) (j : Nat) (hj : j < (toksL s.data.toList).length) : ctOf s (toksL s.data.toList) j = part2 s.data.toList (toksL s.data.toList)[j] := by
 unfold ctOf part2
 rw [dif_pos hj, ext_cut]
theorem cont_solF (L : List UInt8) (ct : Nat → Tok2) : ∀ (l : List Tk) (i : Nat), (∀ (j : Nat) (h : j < l.length), ct (i + j) = part2 L l[j]) → cont ct (solF L i l) = (l.map (part2 L)).filter hard
 | [], i, _ => rfl
 | t :: l, i, h => by
  have ih := cont_solF L ct l (i + 1) (fun j hj => by
   have := h (j + 1) (by simpa using hj)
   rw [List.getElem_cons_succ] at this
   rw [← this]
   congr 1
   omega)
  have h0 := h 0 (by simp)
  rw [List.getElem_cons_zero, Nat.add_zero] at h0
  rw [List.map_cons]
  by_cases hk : 3 < t.kind
  ·rw [trees.sol_yes hk, cont_cons, ih, List.filter_cons_of_pos (by exact decide_eq_true hk)]
   rw [h0]
  ·rw [trees.sol_no hk, ih, List.filter_cons_of_neg (by show ¬ decide (3 < t.kind) = true; rw [decide_eq_true_iff]; exact hk)]
theorem cont_sols (s : ByteArray) : cont (ctOf s (toksL s.data.toList)) (sols s.data.toList) = solS s.data.toList := by
 unfold solS sols
 rw [lexL_toks]
 exact cont_solF _ _ _ 0 (fun j hj => by rw [Nat.zero_add]; exact ct_part s j hj)
theorem tokK_kind6 {l : List UInt8} {n : Nat} (h : tokK l = (6, n)) : n = 1 ∧ ∃ c r, l = c :: r ∧ isM c = true := by
 cases l with
 | nil => simp [tokK] at h
 | cons c t =>
  have hm := trees.tokK_mark h
  refine ⟨?_, c, t, rfl, hm⟩
  have hb : isB c = false := by
   unfold isM at hm
   simp only [Bool.or_eq_true, beq_iff_eq] at hm
   rcases hm with ((((((h | h) | h) | h) | h) | h) | h) <;> (rw [show c = _ from h]; decide)
  unfold tokK at h
  simp only at h
  rw [if_neg (by rw [hb]; decide)] at h
  split at h
  ·simp at h
  ·split at h
   ·simp at h
   ·split at h
    ·simp at h
    ·split at h
     ·injection h with _ h
      exact h.symm
     ·rename_i h2
      exact absurd hm h2
theorem fits_sols (s : ByteArray) : ∀ x ∈ sols s.data.toList, Fits (ctOf s (toksL s.data.toList)) x := by
 intro x hx
 obtain ⟨_, h1, h2, h3⟩ := trees.sol_in s.data.toList (toksL s.data.toList) 0 x hx
 simp only [Nat.sub_zero] at h1 h2 h3
 obtain ⟨_, a2, a3, a4, _, _, a7, _⟩ := toks.cut_at x.2 0 s.data.toList (toksL s.data.toList)[x.2] (List.getElem?_eq_getElem h1)
 rw [Nat.sub_zero] at a4
 have hc := ct_part s x.2 h1
 generalize (toksL s.data.toList)[x.2] = t at *
 have hm : t.kind = 6 → ∃ c, isM c = true ∧ (s.data.toList.drop t.fro).take (t.til - t.fro) = [c] ∧ s.data.toList.getD t.fro 0 = c := fun h6 => by
  rw [h6] at a4
  obtain ⟨e1, c, r, e2, e3⟩ := tokK_kind6 a4
  refine ⟨c, e3, by rw [e2, e1]; rfl, ?_⟩
  have : (s.data.toList.drop t.fro)[0]? = some c := by rw [e2]; rfl
  rw [List.getElem?_drop, Nat.add_zero] at this
  rw [List.getD_eq_getElem?_getD, this]
  rfl
 refine ⟨?_, fun m hm1 hm2 => ?_⟩
 ·rw [hc, h3]
  unfold part2 symOf
  simp only
  by_cases h6 : t.kind = 6
  ·obtain ⟨c, q1, _, q3⟩ := hm h6
   rw [if_pos h6, q3]
   constructor
   ·intro e
    exact absurd e (trees.isM_not q1).1
   ·intro e
    omega
  ·rw [if_neg h6]
   by_cases h7 : t.kind = 7
   ·rw [if_pos h7]
    constructor
    ·intro e
     exact absurd e (by decide)
    ·intro e
     omega
   ·rw [if_neg h7]
    constructor
    ·intro _
     omega
    ·intro _
     rfl
 ·rw [hc, h3]
  unfold part2 symOf
  by_cases h6 : t.kind = 6
  ·obtain ⟨c, q1, q2, q3⟩ := hm h6
   rw [if_pos h6, q3, q2, h6]
   constructor
   ·intro e
    rw [e]
   ·intro e
    injection e with _ e
    injection e with e _
  ·rw [if_neg h6]
   constructor
   ·intro e
    split at e
    ·exact absurd e.symm hm2
    ·exact absurd e.symm hm1
   ·intro e
    injection e with e _
    exact absurd e h6
theorem meanR_iff {s : ByteArray} {N : Nat} (hN : N = (toksL s.data.toList).length) : ∀ (f : Nat) (t : trees.T) (x : V ⊕ (Int × Int)), FormT N f t → ∀ g, (MeanR (KeyR s (toksL s.data.toList)) (LeafR s (toksL s.data.toList)) g t x ↔ MeanR (KeyG (ctOf s (toksL s.data.toList)) (plOf (toksL s.data.toList))) (LeafG (ctOf s (toksL s.data.toList)) (plOf (toksL s.data.toList))) g t x)
 | 0, _, _, h, _ => h.elim
 | f + 1, t, x, hF, 0 => Iff.rfl
 | f + 1, t, x, hF, g + 1 => by
  obtain ⟨k, a, e, l, rfl, _, hF⟩ := hF
  have ih := meanR_iff hN f
  have inj : ∀ {k' a' e' : Nat} {l' : List trees.T}, trees.nd k a e l = trees.nd k' a' e' l' → k' = k ∧ a' = a ∧ l' = l := fun h => by
   obtain ⟨h1, h2, _, h4⟩ := trees.nd_inj h
   exact ⟨h1.symm, h2.symm, h4.symm⟩
  have tabs : ∀ (l : List trees.T) (acc : List V), (∀ y ∈ l, ∃ ek ea ee kk ka ke v, y = trees.nd ek ea ee [trees.nd kk ka ke [], v] ∧ ka < N ∧ FormT N f v) → (TabTo (KeyR s (toksL s.data.toList)) (MeanR (KeyR s (toksL s.data.toList)) (LeafR s (toksL s.data.toList)) g) l acc x ↔ TabTo (KeyG (ctOf s (toksL s.data.toList)) (plOf (toksL s.data.toList))) (MeanR (KeyG (ctOf s (toksL s.data.toList)) (plOf (toksL s.data.toList))) (LeafG (ctOf s (toksL s.data.toList)) (plOf (toksL s.data.toList))) g) l acc x) := by
   intro l
   induction l with
   | nil => exact fun _ _ => Iff.rfl
   | cons y l il =>
    intro acc hy
    obtain ⟨ek, ea, ee, kk, ka, ke, v, e1, e2, e3⟩ := hy y (List.mem_cons_self ..)
    have il' := fun acc => il acc (fun z hz => hy z (List.mem_cons_of_mem _ hz))
    have hka : ka < (toksL s.data.toList).length := by rw [← hN]; exact e2
    constructor
    ·rintro ⟨ek', ea', ee', kk', ka', ke', v', q, h⟩
     rw [e1] at q
     obtain ⟨_, _, _, q2⟩ := trees.nd_inj q
     injection q2 with q3 q4
     injection q4 with q4 _
     obtain ⟨_, rfl, _, _⟩ := trees.nd_inj q3
     subst q4
     refine ⟨ek, ea, ee, kk, ka, ke, v, e1, ?_⟩
     rcases h with ⟨key, h1, h2⟩ | ⟨pq, h1, h2⟩
     ·refine .inl ⟨key, (keyR_iff hka).1 h1, ?_⟩
      rcases h2 with ⟨z, h3, h4⟩ | ⟨pq, h3, h4⟩
      ·exact .inl ⟨z, (ih v _ e3 g).1 h3, (il' _).1 h4⟩
      ·exact .inr ⟨pq, (ih v _ e3 g).1 h3, h4⟩
     ·exact .inr ⟨pq, (keyR_iff hka).1 h1, h2⟩
    ·rintro ⟨ek', ea', ee', kk', ka', ke', v', q, h⟩
     rw [e1] at q
     obtain ⟨_, _, _, q2⟩ := trees.nd_inj q
     injection q2 with q3 q4
     injection q4 with q4 _
     obtain ⟨_, rfl, _, _⟩ := trees.nd_inj q3
     subst q4
     refine ⟨ek, ea, ee, kk, ka, ke, v, e1, ?_⟩
     rcases h with ⟨key, h1, h2⟩ | ⟨pq, h1, h2⟩
     ·refine .inl ⟨key, (keyR_iff hka).2 h1, ?_⟩
      rcases h2 with ⟨z, h3, h4⟩ | ⟨pq, h3, h4⟩
      ·exact .inl ⟨z, (ih v _ e3 g).2 h3, (il' _).2 h4⟩
      ·exact .inr ⟨pq, (ih v _ e3 g).2 h3, h4⟩
     ·exact .inr ⟨pq, (keyR_iff hka).2 h1, h2⟩
  constructor
  ·rintro ⟨k', a', e', l', q, h⟩
   obtain ⟨rfl, rfl, rfl⟩ := inj q
   refine ⟨_, _, _, _, rfl, ?_⟩
   rcases hF with ⟨rfl, ha⟩ | ⟨rfl, hk⟩ | ⟨rfl, hk⟩
   ·rcases h with ⟨h1, _⟩ | ⟨h1, _⟩ | ⟨h1, h2, h3⟩
    ·omega
    ·omega
    ·exact .inr (.inr ⟨h1, h2, (leafR_iff (by rw [← hN]; exact ha)).1 h3⟩)
   ·rcases h with ⟨h1, _⟩ | ⟨_, h2⟩ | ⟨_, h2, _⟩
    ·omega
    ·exact .inr (.inl ⟨rfl, listTo_mono _ _ _ (fun t ht x => (ih t x (hk t ht) g).1) h2⟩)
    ·omega
   ·rcases h with ⟨_, h2⟩ | ⟨h1, _⟩ | ⟨h1, _⟩
    ·exact .inl ⟨rfl, (tabs _ _ hk).1 h2⟩
    ·omega
    ·omega
  ·rintro ⟨k', a', e', l', q, h⟩
   obtain ⟨rfl, rfl, rfl⟩ := inj q
   refine ⟨_, _, _, _, rfl, ?_⟩
   rcases hF with ⟨rfl, ha⟩ | ⟨rfl, hk⟩ | ⟨rfl, hk⟩
   ·rcases h with ⟨h1, _⟩ | ⟨h1, _⟩ | ⟨h1, h2, h3⟩
    ·omega
    ·omega
    ·exact .inr (.inr ⟨h1, h2, (leafR_iff (by rw [← hN]; exact ha)).2 h3⟩)
   ·rcases h with ⟨h1, _⟩ | ⟨_, h2⟩ | ⟨_, h2, _⟩
    ·omega
    ·exact .inr (.inl ⟨rfl, listTo_mono _ _ _ (fun t ht x => (ih t x (hk t ht) g).2) h2⟩)
    ·omega
   ·rcases h with ⟨_, h2⟩ | ⟨h1, _⟩ | ⟨h1, _⟩
    ·exact .inl ⟨rfl, (tabs _ _ hk).2 h2⟩
    ·omega
    ·omega
end Go.Proofs.YtnbfnjhbmeocfaaGreatDoor.valus
namespace Go.Proofs.YtnbfnjhbmeocfaaGreatDoor.valus
open toks (tokK tokK_size shutN closeN runL isB isW isM noL)
theorem run_more (p : UInt8 → Bool) : ∀ (l x : List UInt8), runL p l < l.length → runL p (l ++ x) = runL p l
 | [], x, h => by simp at h
 | c :: l, x, h => by
  rw [List.cons_append]
  by_cases hc : p c = true
  ·have e : ∀ y, runL p (c :: y) = runL p y + 1 := fun y => by rw [runL, if_pos hc]
   rw [e] at h
   rw [e, e, run_more p l x (by simp only [List.length_cons] at h; omega)]
  ·have e : ∀ y, runL p (c :: y) = 0 := fun y => by rw [runL, if_neg hc]
   rw [e, e]
theorem run_all (p : UInt8 → Bool) : ∀ (l x : List UInt8), (∀ c ∈ l, p c = true) → runL p (l ++ x) = l.length + runL p x
 | [], x, _ => by simp
 | c :: l, x, h => by
  rw [List.cons_append, runL, if_pos (h c (by simp)), run_all p l x (fun d hd => h d (by simp [hd])), List.length_cons]
  omega
theorem run_is (p : UInt8 → Bool) : ∀ (l : List UInt8), runL p l = l.length → ∀ c ∈ l, p c = true
 | [], _, c, h => by simp at h
 | d :: l, h, c, hc => by
  by_cases hd : p d = true
  ·rw [runL, if_pos hd, List.length_cons] at h
   rcases List.mem_cons.1 hc with rfl | hc
   ·exact hd
   ·exact run_is p l (by omega) c hc
  ·rw [runL, if_neg hd, List.length_cons] at h
   omega
theorem run_stop (p : UInt8 → Bool) (c : UInt8) (x : List UInt8) (h : p c = false) : runL p (c :: x) = 0 := by rw [runL, if_neg (by rw [h]; decide)]
theorem close_more : ∀ (l x : List UInt8), closeN l ≠ 0 → closeN (l ++ x) = closeN l
 | [], _, h => absurd rfl h
 | [_], _, h => absurd rfl h
 | a :: b :: l, x, h => by
  have ih := close_more (b :: l) x
  rw [List.cons_append, List.cons_append]
  rw [List.cons_append] at ih
  by_cases hc : a = 42 ∧ b = 47
  ·rw [closeN, closeN, if_pos hc, if_pos hc]
  ·rw [closeN, if_neg hc] at h
   rw [closeN, closeN, if_neg hc, if_neg hc]
   by_cases h0 : closeN (b :: l) = 0
   ·rw [if_pos h0] at h
    exact absurd rfl h
   ·rw [ih h0]
theorem shut_more : ∀ (n : Nat) (l x : List UInt8), l.length ≤ n → shutN l ≠ 0 → shutN (l ++ x) = shutN l
 | 0, l, x, hn, h => by
  obtain rfl : l = [] := List.eq_nil_of_length_eq_zero (by omega)
  exact absurd rfl h
 | n + 1, [], x, _, h => absurd rfl h
 | n + 1, [c], x, _, h => by
  have e : shutN [c] = if c = 34 then 1 else 0 := rfl
  rw [e] at h
  by_cases hc : c = 34
  ·rw [e, if_pos hc]
   cases x with
   | nil => rw [List.append_nil, e, if_pos hc]
   | cons d y => rw [List.cons_append, List.nil_append, shutN, if_pos hc]
  ·rw [if_neg hc] at h
   exact absurd rfl h
 | n + 1, c :: d :: l, x, hn, h => by
  have ih1 := shut_more n l x (by simp only [List.length_cons] at hn; omega)
  have ih2 := shut_more n (d :: l) x (by simp only [List.length_cons] at hn ⊢; omega)
  rw [List.cons_append, List.cons_append]
  rw [List.cons_append] at ih2
  rw [shutN] at h
  rw [shutN, shutN]
  by_cases c1 : c = 34
  ·rw [if_pos c1, if_pos c1]
  ·rw [if_neg c1] at h
   rw [if_neg c1, if_neg c1]
   by_cases c2 : c = 10
   ·rw [if_pos c2] at h
    exact absurd rfl h
   ·rw [if_neg c2] at h
    rw [if_neg c2, if_neg c2]
    by_cases c3 : c = 92
    ·rw [if_pos c3] at h
     rw [if_pos c3, if_pos c3]
     by_cases c4 : d = 10
     ·rw [if_pos c4] at h
      exact absurd rfl h
     ·rw [if_neg c4] at h
      rw [if_neg c4, if_neg c4]
      by_cases c5 : shutN l = 0
      ·rw [if_pos c5] at h
       exact absurd rfl h
      ·rw [ih1 c5]
    ·rw [if_neg c3] at h
     rw [if_neg c3, if_neg c3]
     by_cases c5 : shutN (d :: l) = 0
     ·rw [if_pos c5] at h
      exact absurd rfl h
     ·rw [ih2 c5]
theorem tok_more {a x : List UInt8} (ha : a ≠ []) (h7 : (tokK a).1 ≠ 7) :
  tokK (a ++ x) = tokK a ∨ ((tokK a).2 = a.length ∧ (((tokK a).1 = 1 ∧ tokK (a ++ x) = (1, a.length + runL isB x)) ∨ ((tokK a).1 = 4 ∧ tokK (a ++ x) = (4, a.length + runL isW x)) ∨ ((tokK a).1 = 3 ∧ a.head? = some 35 ∧ (∀ c ∈ a, noL c = true) ∧ tokK (a ++ x) = (3, a.length + runL noL x)))) := by
 match a, ha with
 | c :: t, _ =>
  have el : ∀ p : UInt8 → Bool, runL p (c :: t) ≤ (c :: t).length := fun p => toks.runL_le p _
  rw [List.cons_append]
  unfold tokK at h7 ⊢
  simp only at h7 ⊢
  by_cases a1 : isB c = true
  ·rw [if_pos a1] at h7
   rw [if_pos a1, if_pos a1]
   by_cases hl : runL isB (c :: t) < (c :: t).length
   ·exact .inl (by rw [← List.cons_append, run_more isB _ x hl])
   ·have e : runL isB (c :: t) = (c :: t).length := by have := el isB; omega
    exact .inr ⟨e, .inl ⟨rfl, by rw [← List.cons_append, run_all isB _ x (run_is isB _ e)]⟩⟩
  ·rw [if_neg a1] at h7
   rw [if_neg a1, if_neg a1]
   by_cases a2 : c = 10
   ·exact .inl (by rw [if_pos a2, if_pos a2])
   ·rw [if_neg a2] at h7
    rw [if_neg a2, if_neg a2]
    by_cases a3 : c = 35
    ·rw [if_pos a3, if_pos a3]
     by_cases hl : runL noL (c :: t) < (c :: t).length
     ·exact .inl (by rw [← List.cons_append, run_more noL _ x hl])
     ·have e : runL noL (c :: t) = (c :: t).length := by have := el noL; omega
      exact .inr ⟨e, .inr (.inr ⟨rfl, by rw [a3]; rfl, run_is noL _ e, by rw [← List.cons_append, run_all noL _ x (run_is noL _ e)]⟩)⟩
    ·rw [if_neg a3] at h7
     rw [if_neg a3, if_neg a3]
     by_cases a4 : isW c = true
     ·rw [if_pos a4, if_pos a4]
      by_cases hl : runL isW (c :: t) < (c :: t).length
      ·exact .inl (by rw [← List.cons_append, run_more isW _ x hl])
      ·have e : runL isW (c :: t) = (c :: t).length := by have := el isW; omega
       exact .inr ⟨e, .inr (.inl ⟨rfl, by rw [← List.cons_append, run_all isW _ x (run_is isW _ e)]⟩)⟩
     ·rw [if_neg a4] at h7
      rw [if_neg a4, if_neg a4]
      by_cases a5 : isM c = true
      ·exact .inl (by rw [if_pos a5, if_pos a5])
      ·rw [if_neg a5] at h7
       rw [if_neg a5, if_neg a5]
       by_cases a6 : c = 34 ∧ shutN t ≠ 0
       ·have e := shut_more t.length t x (Nat.le_refl _) a6.2
        exact .inl (by rw [if_pos a6, e, if_pos a6])
       ·rw [if_neg a6] at h7
        rw [if_neg a6]
        by_cases a7 : c = 47 ∧ t.head? = some 42 ∧ closeN (t.drop 1) ≠ 0
        ·obtain ⟨b1, b2, b3⟩ := a7
         have n6 : ¬ (c = 34 ∧ shutN (t ++ x) ≠ 0) := fun h => by rw [b1] at h; exact absurd h.1 (by decide)
         cases t with
         | nil => simp at b2
         | cons d t =>
          have e := close_more t x (by simpa using b3)
          have q1 : c = 47 ∧ (d :: t ++ x).head? = some 42 ∧ closeN ((d :: t ++ x).drop 1) ≠ 0 := ⟨b1, by simpa using b2, by show closeN (t ++ x) ≠ 0; rw [e]; exact b3⟩
          have q2 : c = 47 ∧ (d :: t).head? = some 42 ∧ closeN ((d :: t).drop 1) ≠ 0 := ⟨b1, b2, b3⟩
          refine .inl ?_
          rw [if_neg n6, if_pos q1, if_pos q2]
          show (3, closeN (t ++ x) + 2) = (3, closeN t + 2)
          rw [e]
        ·rw [if_neg a7] at h7
         exact absurd rfl h7
def Fine (a : List UInt8) : Prop := ∀ t ∈ lexL a, t.1 ≠ 7
theorem sol_cons {l : List UInt8} (h : l ≠ []) : solS l = (if 3 < (tokK l).1 then [((tokK l).1, l.take (tokK l).2)] else []) ++ solS (l.drop (tokK l).2) := by
 unfold solS
 rw [lex_cons h]
 by_cases hk : 3 < (tokK l).1
 ·rw [if_pos hk, List.filter_cons_of_pos (by exact decide_eq_true hk)]
  rfl
 ·rw [if_neg hk, List.filter_cons_of_neg (by show ¬ decide (3 < (tokK l).1) = true; rw [decide_eq_true_iff]; exact hk)]
  rfl
theorem blank_kind {c : UInt8} {x : List UInt8} (h : isB c = true) : tokK (c :: x) = (1, runL isB (c :: x)) := by
 unfold tokK
 simp only
 rw [if_pos h]
theorem sol_blanks (x : List UInt8) : solS (x.drop (runL isB x)) = solS x := by
 cases x with
 | nil => rfl
 | cons c x =>
  by_cases h : isB c = true
  ·have e := blank_kind (x := x) h
   rw [sol_cons (l := c :: x) (by simp), e]
   simp
  ·rw [run_stop isB c x (by simpa using h)]
   rfl
theorem sol_app : ∀ (n : Nat) (a x : List UInt8), a.length ≤ n → Fine a → (∀ c, x.head? = some c → isW c = false) → ((∃ pre r, lexL a = pre ++ [(3, 35 :: r)]) → solS (x.drop (runL noL x)) = solS x) → solS (a ++ x) = solS a ++ solS x
 | 0, a, x, hn, _, _, _ => by
  obtain rfl : a = [] := List.eq_nil_of_length_eq_zero (by omega)
  rfl
 | n + 1, a, x, hn, hf, hw, hp => by
  by_cases h0 : a = []
  ·subst h0
   rfl
  ·have hz := tokK_size h0
   have hlex := lex_cons h0
   have hk7 : (tokK a).1 ≠ 7 := hf ((tokK a).1, _) (by rw [hlex]; exact List.mem_cons_self ..)
   have hfd : Fine (a.drop (tokK a).2) := fun t ht => hf t (by rw [hlex]; exact List.mem_cons_of_mem _ ht)
   have hax : a ++ x ≠ [] := by simp [h0]
   rcases tok_more (x := x) h0 hk7 with he | ⟨hwhole, hc⟩
   ·have ih := sol_app n (a.drop (tokK a).2) x (by rw [List.length_drop]; omega) hfd hw (fun ⟨pre, r, e⟩ => hp ⟨_ :: pre, r, by rw [hlex, e]; rfl⟩)
    rw [sol_cons hax, sol_cons h0, he, List.take_append_of_le_length hz.2.1, List.drop_append_of_le_length hz.2.1, ih, List.append_assoc]
   ·have hdrop : ∀ k, (a ++ x).drop (a.length + k) = x.drop k := fun k => by rw [List.drop_append, List.drop_of_length_le (by omega), List.nil_append]; congr 1; omega
    have hnil : a.drop (tokK a).2 = [] := by rw [hwhole]; simp
    rcases hc with ⟨hk, e⟩ | ⟨hk, e⟩ | ⟨hk, hh, hall, e⟩
    ·rw [sol_cons hax, e, hdrop, sol_blanks, sol_cons h0, hk, hnil]
     rfl
    ·have hr : runL isW x = 0 := by
      cases x with
      | nil => rfl
      | cons c y => exact run_stop isW c y (hw c rfl)
     rw [hr, Nat.add_zero] at e
     rw [sol_cons hax, e, sol_cons h0, hk, hnil, hwhole]
     simp
     rfl
    ·have hpp := hp (by
      cases a with
      | nil => exact absurd rfl h0
      | cons c t =>
       injection hh with hh
       subst hh
       refine ⟨[], t, ?_⟩
       rw [hlex, hnil, hk, hwhole]
       simp [lex_nil])
     rw [sol_cons hax, e, hdrop, hpp, sol_cons h0, hk, hnil]
     rfl
end Go.Proofs.YtnbfnjhbmeocfaaGreatDoor.valus
