/- Of our texts, what this claim reaches. -/
import Derived.Test.YtadaehaemmelfaaDoorPaaAR
import Derived.Test.YtadaehaemmelfaaDoorPaaAX
import Derived.Test.YtadaehaemmelfaaDoorPaaAA
set_option linter.unusedVariables false
namespace Go.Proofs.YtadaehaemmelfaaDoor.paths
open valus (V opn opnE ent mkV idx parts sumOf nodesV)
def partV (t : V) (x : St) : V ⊕ Int :=
 if x.2 = -1 then (if (opn t).1.1 ≠ 6 then .inr 10 else if idx (fun k => decide (k = x.1)) 0 (opn t).2.2 < 0 then .inr 8 else .inl (opnE ((opn t).2.2.getD (idx (fun k => decide (k = x.1)) 0 (opn t).2.2).toNat .nil)).2)
 else (if (opn t).1.1 ≠ 5 then .inr 10 else if ((opn t).2.1.length : Int) ≤ x.2 then .inr 8 else .inl ((opn t).2.1.getD x.2.toNat .nil))
def leadV : V → List St → V ⊕ Int
 | t, [] => .inl t
 | t, x :: l => match partV t x with
  | .inl y => leadV y l
  | .inr e => .inr e
def goOn (x : V ⊕ Int) (q : List St) : V ⊕ Int := match x with
 | .inl y => leadV y q
 | .inr e => .inr e
theorem leadV_cons (t : V) (x : St) (l : List St) : leadV t (x :: l) = goOn (partV t x) l := rfl
theorem idx_lt (g : List UInt8 → Bool) : ∀ (l : List V) (n : Nat), idx g n l < 0 ∨ ((n : Int) ≤ idx g n l ∧ idx g n l < n + l.length)
 | [], n => .inl (by show (-1 : Int) < 0; omega)
 | e :: l, n => by
  unfold idx
  split
  ·right; simp only [List.length_cons]; omega
  ·rcases idx_lt g l (n + 1) with h | h
   ·exact .inl h
   ·right; simp only [List.length_cons]; omega
end Go.Proofs.YtadaehaemmelfaaDoor.paths
namespace Go.Proofs.YtadaehaemmelfaaDoor.paths
open valus (V opn opnE ent mkV idx parts sumOf nodesV)
def underL (g : V → List (List St)) : Nat → List V → List (List St)
 | _, [] => []
 | i, y :: l => (g y).map (fun p => (([], (i : Int)) : St) :: p) ++ underL g (i + 1) l
def underE (g : V → List (List St)) : List V → List (List St)
 | [] => []
 | e :: l => (g (opnE e).2).map (fun p => (((opnE e).1, -1) : St) :: p) ++ underE g l
def allV : Nat → V → List (List St)
 | 0, _ => []
 | f + 1, t => [] :: (underL (allV f) 0 (opn t).2.1 ++ underE (allV f) (opn t).2.2)
theorem underL_len (g : V → List (List St)) (N : V → Nat) (h : ∀ y, (g y).length = N y) : ∀ (l : List V) (i : Nat), (underL g i l).length = sumOf N l
 | [], _ => rfl
 | y :: l, i => by
  show ((g y).map _ ++ underL g (i + 1) l).length = N y + sumOf N l
  rw [List.length_append, List.length_map, h, underL_len g N h l]
theorem underE_len (g : V → List (List St)) (N : V → Nat) (h : ∀ y, (g y).length = N y) : ∀ (l : List V), (underE g l).length = sumOf N (l.map (fun e => (opnE e).2))
 | [] => rfl
 | e :: l => by
  show ((g (opnE e).2).map _ ++ underE g l).length = N (opnE e).2 + sumOf N (l.map (fun e => (opnE e).2))
  rw [List.length_append, List.length_map, h, underE_len g N h l]
theorem allV_len : ∀ (f : Nat) (t : V), (allV f t).length = nodesV f t
 | 0, _ => rfl
 | f + 1, t => by
  show ([] :: (underL (allV f) 0 (opn t).2.1 ++ underE (allV f) (opn t).2.2)).length = sumOf (nodesV f) (parts t) + 1
  rw [List.length_cons, List.length_append, underL_len _ (nodesV f) (allV_len f), underE_len _ (nodesV f) (allV_len f)]
  unfold parts
  rw [valus.sumOf_append]
theorem mem_underL {g : V → List (List St)} : ∀ {l : List V} {i : Nat} {p : List St}, p ∈ underL g i l ↔ ∃ j y q, l[j]? = some y ∧ q ∈ g y ∧ p = (([], ((i + j : Nat) : Int)) : St) :: q
 | [], i, p => ⟨fun h => absurd h (List.not_mem_nil), fun ⟨j, y, q, h, _⟩ => by cases h⟩
 | y :: l, i, p => by
  show p ∈ (g y).map _ ++ underL g (i + 1) l ↔ _
  rw [List.mem_append, List.mem_map, mem_underL]
  constructor
  ·rintro (⟨q, hq, rfl⟩ | ⟨j, z, q, h1, h2, rfl⟩)
   ·exact ⟨0, y, q, rfl, hq, rfl⟩
   ·exact ⟨j + 1, z, q, h1, h2, by rw [show i + 1 + j = i + (j + 1) by omega]⟩
  ·rintro ⟨j, z, q, h1, h2, rfl⟩
   cases j with
   | zero =>
    injection h1 with h1
    subst h1
    exact .inl ⟨q, h2, rfl⟩
   | succ j => exact .inr ⟨j, z, q, h1, h2, by rw [show i + 1 + j = i + (j + 1) by omega]⟩
theorem mem_underE {g : V → List (List St)} : ∀ {l : List V} {p : List St}, p ∈ underE g l ↔ ∃ (j : Nat) (e : V) (q : List St), l[j]? = some e ∧ q ∈ g (opnE e).2 ∧ p = (((opnE e).1, -1) : St) :: q
 | [], p => ⟨fun h => absurd h (List.not_mem_nil), fun ⟨j, y, q, h, _⟩ => by cases h⟩
 | e :: l, p => by
  show p ∈ (g (opnE e).2).map _ ++ underE g l ↔ _
  rw [List.mem_append, List.mem_map, mem_underE]
  constructor
  ·rintro (⟨q, hq, rfl⟩ | ⟨j, z, q, h1, h2, rfl⟩)
   ·exact ⟨0, e, q, rfl, hq, rfl⟩
   ·exact ⟨j + 1, z, q, h1, h2, rfl⟩
  ·rintro ⟨j, z, q, h1, h2, rfl⟩
   cases j with
   | zero =>
    injection h1 with h1
    subst h1
    exact .inl ⟨q, h2, rfl⟩
   | succ j => exact .inr ⟨j, z, q, h1, h2, rfl⟩
def FineV : Nat → V → Prop
 | 0, _ => False
 | f + 1, t => ((opn t).2.1 ≠ [] → (opn t).1.1 = 5) ∧ ((opn t).2.2 ≠ [] → (opn t).1.1 = 6) ∧ (∀ y ∈ (opn t).2.1, FineV f y) ∧
  (∀ (j : Nat) (e : V), (opn t).2.2[j]? = some e → idx (fun k => decide (k = (opnE e).1)) 0 (opn t).2.2 = (j : Int) ∧ FineV f (opnE e).2)
theorem part_elem {t : V} {j : Nat} {y : V} (hk : (opn t).1.1 = 5) (h : (opn t).2.1[j]? = some y) : partV t ([], (j : Int)) = .inl y := by
 obtain ⟨hj, e⟩ := List.getElem?_eq_some_iff.1 h
 unfold partV
 rw [if_neg (by show ¬ ((j : Int) = -1); omega), if_neg (by rw [hk]; simp), if_neg (by show ¬ (((opn t).2.1.length : Int) ≤ (j : Int)); omega)]
 show Sum.inl ((opn t).2.1.getD (j : Int).toNat .nil) = _
 rw [Int.toNat_natCast, List.getD_eq_getElem?_getD, h]
 rfl
theorem part_ent {t : V} {j : Nat} {e : V} (hk : (opn t).1.1 = 6) (h : (opn t).2.2[j]? = some e) (hi : idx (fun k => decide (k = (opnE e).1)) 0 (opn t).2.2 = (j : Int)) : partV t ((opnE e).1, -1) = .inl (opnE e).2 := by
 unfold partV
 rw [if_pos rfl, if_neg (by rw [hk]; simp)]
 dsimp only
 rw [hi, if_neg (by omega), Int.toNat_natCast, List.getD_eq_getElem?_getD, h]
 rfl
theorem all_lead : ∀ (f : Nat) (t : V), FineV f t → ∀ p ∈ allV f t, ∃ y, leadV t p = .inl y
 | 0, _, h, _, _ => h.elim
 | f + 1, t, ⟨h1, h2, h3, h4⟩, p, hp => by
  rcases List.mem_cons.1 hp with rfl | hp
  ·exact ⟨t, rfl⟩
  ·rcases List.mem_append.1 hp with hp | hp
   ·obtain ⟨j, y, q, hy, hq, rfl⟩ := mem_underL.1 hp
    have hm := List.mem_of_getElem? hy
    obtain ⟨z, hz⟩ := all_lead f y (h3 y hm) q hq
    refine ⟨z, ?_⟩
    rw [leadV_cons, Nat.zero_add, part_elem (h1 (fun e => by rw [e] at hm; exact absurd hm (List.not_mem_nil))) hy]
    exact hz
   ·obtain ⟨j, e, q, he, hq, rfl⟩ := mem_underE.1 hp
    have hm := List.mem_of_getElem? he
    obtain ⟨hi, hf⟩ := h4 j e he
    obtain ⟨z, hz⟩ := all_lead f _ hf q hq
    refine ⟨z, ?_⟩
    rw [leadV_cons, part_ent (h2 (fun e => by rw [e] at hm; exact absurd hm (List.not_mem_nil))) he hi]
    exact hz
theorem nodup_map {q : St} : ∀ {l : List (List St)}, l.Nodup → (l.map (fun p => q :: p)).Nodup
 | [], _ => List.nodup_nil
 | p :: l, h => by
  rw [List.nodup_cons] at h
  rw [List.map_cons, List.nodup_cons]
  refine ⟨fun hm => ?_, nodup_map h.2⟩
  obtain ⟨r, hr, e⟩ := List.mem_map.1 hm
  injection e with _ e
  rw [e] at hr
  exact h.1 hr
theorem underL_nodup {g : V → List (List St)} : ∀ (l : List V) (i : Nat), (∀ y ∈ l, (g y).Nodup) → (underL g i l).Nodup
 | [], _, _ => List.nodup_nil
 | y :: l, i, h => by
  show ((g y).map _ ++ underL g (i + 1) l).Nodup
  rw [List.nodup_append]
  refine ⟨nodup_map (h y List.mem_cons_self), underL_nodup l (i + 1) (fun z hz => h z (List.mem_cons_of_mem _ hz)), fun a ha b hb => ?_⟩
  obtain ⟨q, _, rfl⟩ := List.mem_map.1 ha
  obtain ⟨j, z, r, _, _, rfl⟩ := mem_underL.1 hb
  intro e
  injection e with e _
  injection e with _ e
  omega
theorem underE_nodup {g : V → List (List St)} : ∀ (l : List V), (∀ e ∈ l, (g (opnE e).2).Nodup) → (l.map (fun e => (opnE e).1)).Nodup → (underE g l).Nodup
 | [], _, _ => List.nodup_nil
 | e :: l, h, hk => by
  rw [List.map_cons, List.nodup_cons] at hk
  show ((g (opnE e).2).map _ ++ underE g l).Nodup
  rw [List.nodup_append]
  refine ⟨nodup_map (h e List.mem_cons_self), underE_nodup l (fun z hz => h z (List.mem_cons_of_mem _ hz)) hk.2, fun a ha b hb => ?_⟩
  obtain ⟨q, _, rfl⟩ := List.mem_map.1 ha
  obtain ⟨j, z, r, hz, _, rfl⟩ := mem_underE.1 hb
  intro e'
  injection e' with e' _
  injection e' with e' _
  exact hk.1 (List.mem_map.2 ⟨z, List.mem_of_getElem? hz, e'.symm⟩)
theorem keys_nodup {l : List V} (h : ∀ (j : Nat) (e : V), l[j]? = some e → idx (fun k => decide (k = (opnE e).1)) 0 l = (j : Int)) : (l.map (fun e => (opnE e).1)).Nodup := by
 rw [List.nodup_iff_pairwise_ne, List.pairwise_iff_getElem]
 intro i j hi hj hij e
 rw [List.length_map] at hi hj
 rw [List.getElem_map, List.getElem_map] at e
 have h1 := h i l[i] (List.getElem?_eq_getElem hi)
 have h2 := h j l[j] (List.getElem?_eq_getElem hj)
 rw [e] at h1
 omega
theorem all_nodup : ∀ (f : Nat) (t : V), FineV f t → (allV f t).Nodup
 | 0, _, h => h.elim
 | f + 1, t, ⟨h1, h2, h3, h4⟩ => by
  show ([] :: (underL (allV f) 0 (opn t).2.1 ++ underE (allV f) (opn t).2.2)).Nodup
  rw [List.nodup_cons, List.nodup_append]
  refine ⟨fun hm => ?_, underL_nodup _ _ (fun y hy => all_nodup f y (h3 y hy)), underE_nodup _ (fun e he => ?_) (keys_nodup fun j e he => (h4 j e he).1), fun a ha b hb => ?_⟩
  ·rcases List.mem_append.1 hm with hm | hm
   ·obtain ⟨_, _, _, _, _, e⟩ := mem_underL.1 hm
    cases e
   ·obtain ⟨_, _, _, _, _, e⟩ := mem_underE.1 hm
    cases e
  ·obtain ⟨j, hj, rfl⟩ := List.getElem_of_mem he
   exact all_nodup f _ (h4 j _ (List.getElem?_eq_getElem hj)).2
  ·obtain ⟨j, y, q, _, _, rfl⟩ := mem_underL.1 ha
   obtain ⟨j', e, q', _, _, rfl⟩ := mem_underE.1 hb
   intro e
   injection e with e _
   injection e with _ e
   omega
end Go.Proofs.YtadaehaemmelfaaDoor.paths
