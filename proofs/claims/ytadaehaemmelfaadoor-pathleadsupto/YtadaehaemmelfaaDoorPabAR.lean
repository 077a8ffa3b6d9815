/- Of our texts, what this claim reaches. -/
import Derived.Test.YtadaehaemmelfaaDoorPabAM
import Derived.Test.YtadaehaemmelfaaDoorPabAQ
import Derived.Test.YtadaehaemmelfaaDoorPabAA
set_option linter.unusedVariables false
namespace Go.Proofs.YtadaehaemmelfaaDoor.paths
open valus (V opn opnE ent mkV idx parts sumOf nodesV)
def partV (t : V) (x : St) : V ⊕ Int :=
 if x.2 = -1 then (if (opn t).1.1 ≠ 6 then .inr 10 else if idx (fun k => decide (k = x.1)) 0 (opn t).2.2 < 0 then .inr 8 else .inl (opnE ((opn t).2.2.getD (idx (fun k => decide (k = x.1)) 0 (opn t).2.2).toNat .nil)).2)
 else (if (opn t).1.1 ≠ 5 then .inr 10 else if ((opn t).2.1.length : Int) ≤ x.2 then .inr 8 else .inl ((opn t).2.1.getD x.2.toNat .nil))
def leadV : V → List St → V ⊕ Int
 | t, [] => .inl t
 | t, x :: l => match partV t x with
  | .inl y => leadV y l
  | .inr e => .inr e
def goOn (x : V ⊕ Int) (q : List St) : V ⊕ Int := match x with
 | .inl y => leadV y q
 | .inr e => .inr e
theorem leadV_cons (t : V) (x : St) (l : List St) : leadV t (x :: l) = goOn (partV t x) l := rfl
theorem idx_lt (g : List UInt8 → Bool) : ∀ (l : List V) (n : Nat), idx g n l < 0 ∨ ((n : Int) ≤ idx g n l ∧ idx g n l < n + l.length)
 | [], n => .inl (by show (-1 : Int) < 0; omega)
 | e :: l, n => by
  unfold idx
  split
  ·right; simp only [List.length_cons]; omega
  ·rcases idx_lt g l (n + 1) with h | h
   ·exact .inl h
   ·right; simp only [List.length_cons]; omega
end Go.Proofs.YtadaehaemmelfaaDoor.paths
namespace Go.Proofs.YtadaehaemmelfaaDoor.paths
open valus (V opn opnE ent mkV idx parts sumOf nodesV)
def underL (g : V → List (List St)) : Nat → List V → List (List St)
 | _, [] => []
 | i, y :: l => (g y).map (fun p => (([], (i : Int)) : St) :: p) ++ underL g (i + 1) l
def underE (g : V → List (List St)) : List V → List (List St)
 | [] => []
 | e :: l => (g (opnE e).2).map (fun p => (((opnE e).1, -1) : St) :: p) ++ underE g l
def allV : Nat → V → List (List St)
 | 0, _ => []
 | f + 1, t => [] :: (underL (allV f) 0 (opn t).2.1 ++ underE (allV f) (opn t).2.2)
theorem underL_len (g : V → List (List St)) (N : V → Nat) (h : ∀ y, (g y).length = N y) : ∀ (l : List V) (i : Nat), (underL g i l).length = sumOf N l
 | [], _ => rfl
 | y :: l, i => by
  show ((g y).map _ ++ underL g (i + 1) l).length = N y + sumOf N l
  rw [List.length_append, List.length_map, h, underL_len g N h l]
theorem underE_len (g : V → List (List St)) (N : V → Nat) (h : ∀ y, (g y).length = N y) : ∀ (l : List V), (underE g l).length = sumOf N (l.map (fun e => (opnE e).2))
 | [] => rfl
 | e :: l => by
  show ((g (opnE e).2).map _ ++ underE g l).length = N (opnE e).2 + sumOf N (l.map (fun e => (opnE e).2))
  rw [List.length_append, List.length_map, h, underE_len g N h l]
theorem allV_len : ∀ (f : Nat) (t : V), (allV f t).length = nodesV f t
 | 0, _ => rfl
 | f + 1, t => by
  show ([] :: (underL (allV f) 0 (opn t).2.1 ++ underE (allV f) (opn t).2.2)).length = sumOf (nodesV f) (parts t) + 1
  rw [List.length_cons, List.length_append, underL_len _ (nodesV f) (allV_len f), underE_len _ (nodesV f) (allV_len f)]
  unfold parts
  rw [valus.sumOf_append]
end Go.Proofs.YtadaehaemmelfaaDoor.paths
