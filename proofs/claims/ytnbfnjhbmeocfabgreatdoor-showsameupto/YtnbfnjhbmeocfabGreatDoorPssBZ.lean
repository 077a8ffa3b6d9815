/- Of our texts, what this claim reaches. -/
import Derived.Test.YtnbfnjhbmeocfabGreatDoorPssBY
import Derived.Test.YtnbfnjhbmeocfabGreatDoorPssAG
import Derived.Test.YtnbfnjhbmeocfabGreatDoorPssBW
import Derived.Deep.QuietTactic
import Derived.BigQuiet
set_option linter.unusedVariables false
set_option maxHeartbeats 4000000
set_option maxRecDepth 100000
namespace Go.Proofs.YtnbfnjhbmeocfabGreatDoor.valus
open Go.RowKit
def firstC : List Ordering → Ordering
 | [] => .eq
 | o :: r => thenC o (firstC r)
theorem thenC_assoc (x y z : Ordering) : thenC (thenC x y) z = thenC x (thenC y z) := by cases x <;> rfl
theorem thenC_nil (x : Ordering) : thenC x .eq = x := by cases x <;> rfl
theorem firstC_append : ∀ a b : List Ordering, firstC (a ++ b) = thenC (firstC a) (firstC b)
 | [], b => rfl
 | o :: r, b => by
  show thenC o (firstC (r ++ b)) = _
  rw [firstC_append r b, ← thenC_assoc]
  rfl
def ofI (z : Int) : Ordering := cmpI z 0
theorem ofI_ordI (o : Ordering) : ofI (ordI o) = o := by cases o <;> rfl
abbrev It := Pr × Option (V × V)
def ordIt (f : Nat) (s : It) : Ordering := match s.2 with | some ab => cmpV f ab.1 ab.2 | none => ofI s.1.2.2
def sumI (q : It → Nat) : List It → Nat
 | [] => 0
 | x :: r => q x + sumI q r
theorem sumI_append (q : It → Nat) : ∀ l m : List It, sumI q (l ++ m) = sumI q l + sumI q m
 | [], m => by simp [sumI]
 | x :: r, m => by
  show q x + sumI q (r ++ m) = q x + sumI q r + sumI q m
  rw [sumI_append q r m]
  omega
def wtIt (f : Nat) (s : It) : Nat := match s.2 with | some ab => 3 * nodesV f ab.1 | none => 1
def itL (p q : Option Addr) (L M : List V) : List It := (pairsTo p q 6 0 (min L.length M.length)).zip ((L.zip M).map some) ++ (told (ordI (cmpI (L.length : Int) (M.length : Int)))).map (fun x => (x, none))
theorem itL_fst (p q : Option Addr) (L M : List V) : (itL p q L M).map Prod.fst = elemsP p q L.length M.length := by
 unfold itL elemsP
 rw [List.map_append, List.map_fst_zip (by rw [pairsTo_len, List.length_map, List.length_zip]; exact Nat.le_refl _), List.map_map]
 congr 1
 exact List.map_id _
theorem itL_tell (c : V → V → Ordering) : ∀ L M : List V, firstC ((L.zip M).map (fun ab => c ab.1 ab.2) ++ (told (ordI (cmpI (L.length : Int) (M.length : Int)))).map (fun x => ofI x.2.2)) = cmpL c L M
 | [], [] => rfl
 | [], y :: t => by
  have h : cmpI (([] : List V).length : Int) ((y :: t).length : Int) = .lt := by unfold cmpI; rw [if_pos (by simp only [List.length_nil, List.length_cons]; omega)]
  rw [h]
  rfl
 | x :: r, [] => by
  have h : cmpI ((x :: r).length : Int) (([] : List V).length : Int) = .gt := by unfold cmpI; rw [if_neg (by simp; omega), if_neg (by simp; omega)]
  rw [h]
  rfl
 | x :: r, y :: t => by
  have h : cmpI ((x :: r).length : Int) ((y :: t).length : Int) = cmpI (r.length : Int) (t.length : Int) := by
   unfold cmpI
   simp only [List.length_cons]
   by_cases c1 : (r.length : Int) < (t.length : Int)
   ·rw [if_pos c1, if_pos (by omega)]
   ·rw [if_neg c1, if_neg (by omega)]
    by_cases c2 : (r.length : Int) = (t.length : Int)
    ·rw [if_pos c2, if_pos (by omega)]
    ·rw [if_neg c2, if_neg (by omega)]
  rw [h]
  show thenC (c x y) (firstC ((r.zip t).map (fun ab => c ab.1 ab.2) ++ (told (ordI (cmpI (r.length : Int) (t.length : Int)))).map (fun x => ofI x.2.2))) = thenC (c x y) (cmpL c r t)
  rw [itL_tell c r t]
theorem itL_ord (f : Nat) (p q : Option Addr) (L M : List V) : firstC ((itL p q L M).map (ordIt f)) = cmpL (cmpV f) L M := by
 rw [← itL_tell (cmpV f) L M]
 unfold itL
 rw [List.map_append, List.map_map]
 congr 2
 have e : ordIt f = (fun o : Option (V × V) => match o with | some ab => cmpV f ab.1 ab.2 | none => .eq) ∘ Prod.snd ∨ True := .inr trivial
 have hz : ∀ (l : List Pr) (m : List (V × V)), (l.zip (m.map some)).map (ordIt f) = ((l.zip (m.map some)).map Prod.snd).map (fun o : Option (V × V) => match o with | some ab => cmpV f ab.1 ab.2 | none => .eq) := by
  intro l
  induction l with
  | nil => intro m; rfl
  | cons x l ih =>
   intro m
   cases m with
   | nil => rfl
   | cons y m =>
    simp only [List.map_cons, List.zip_cons_cons]
    rw [ih m]
    rfl
 rw [hz, List.map_snd_zip (by rw [pairsTo_len, List.length_map, List.length_zip]; exact Nat.le_refl _), List.map_map]
 rfl
theorem itL_wt (f : Nat) (p q : Option Addr) (L M : List V) : sumI (wtIt f) (itL p q L M) ≤ 3 * sumOf (nodesV f) L + 1 := by
 unfold itL
 rw [sumI_append]
 have h1 : sumI (wtIt f) ((told (ordI (cmpI (L.length : Int) (M.length : Int)))).map (fun x => ((x, none) : It))) ≤ 1 := by
  unfold told
  split
  ·exact Nat.zero_le _
  ·exact Nat.le_refl _
 have h2 : ∀ (l : List Pr) (A B : List V), sumI (wtIt f) (l.zip ((A.zip B).map some)) ≤ 3 * sumOf (nodesV f) A := by
  intro l
  induction l with
  | nil => intro A B; simp [sumI]
  | cons x l ih =>
   intro A B
   cases A with
   | nil => simp [sumI]
   | cons a A =>
    cases B with
    | nil => simp [sumI]
    | cons b B =>
     have := ih A B
     show 3 * nodesV f a + sumI (wtIt f) (l.zip ((A.zip B).map some)) ≤ 3 * (nodesV f a + sumOf (nodesV f) A)
     omega
 have := h2 (pairsTo p q 6 0 (min L.length M.length)) L M
 omega
theorem itL_mem {p q : Option Addr} {L M : List V} {s : It} (h : s ∈ itL p q L M) : (s.2 = none ∧ ∃ o : Ordering, ordI o ≠ 0 ∧ s.1 = (none, none, ordI o)) ∨ ∃ j x y, L[j]? = some x ∧ M[j]? = some y ∧ s = (pairAt p q 6 0 j, some (x, y)) := by
 unfold itL at h
 rcases List.mem_append.1 h with h | h
 ·obtain ⟨j, hj, e⟩ := List.getElem_of_mem h
  have hj0 := hj
  rw [List.length_zip, pairsTo_len, List.length_map, List.length_zip, Nat.min_self] at hj0
  rw [List.getElem_zip, List.getElem_map, List.getElem_zip] at e
  refine .inr ⟨j, L[j]'(by omega), M[j]'(by omega), List.getElem?_eq_getElem _, List.getElem?_eq_getElem _, ?_⟩
  rw [← e]
  simp [pairsTo]
 ·obtain ⟨x, hx, rfl⟩ := List.mem_map.1 h
  unfold told at hx
  split at hx
  ·cases hx
  ·rename_i ho
   rw [List.mem_singleton.1 hx]
   exact .inl ⟨rfl, _, ho, rfl⟩
def itE (p q : Option Addr) : Nat → List V → List V → List It
 | _, [], [] => []
 | _, [], _ :: _ => [((none, none, -1), none)]
 | _, _ :: _, [] => [((none, none, 1), none)]
 | i, e :: r, e' :: r' => if ordI (cmpB (opnE e).1 (opnE e').1) = 0 then (pairAt p q 7 1 i, some ((opnE e).2, (opnE e').2)) :: itE p q (i + 1) r r' else [((none, none, ordI (cmpB (opnE e).1 (opnE e').1)), none)]
theorem itE_fst (p q : Option Addr) : ∀ (E F : List V) (i : Nat), (itE p q i E F).map Prod.fst = entsP p q i (E.map fun e => (opnE e).1) (F.map fun e => (opnE e).1)
 | [], [], _ => rfl
 | [], _ :: _, _ => rfl
 | _ :: _, [], _ => rfl
 | e :: r, e' :: r', i => by
  unfold itE
  rw [List.map_cons, List.map_cons]
  unfold entsP
  split
  ·rw [List.map_cons, itE_fst p q r r' (i + 1)]
  ·rfl
theorem itE_ord (f : Nat) (p q : Option Addr) : ∀ (E F : List V) (i : Nat), firstC ((itE p q i E F).map (ordIt f)) = cmpL (cmpE (cmpV f)) E F
 | [], [], _ => rfl
 | [], _ :: _, _ => rfl
 | _ :: _, [], _ => rfl
 | e :: r, e' :: r', i => by
  unfold itE
  have hd : cmpL (cmpE (cmpV f)) (e :: r) (e' :: r') = thenC (thenC (cmpB (opnE e).1 (opnE e').1) (cmpV f (opnE e).2 (opnE e').2)) (cmpL (cmpE (cmpV f)) r r') := rfl
  rw [hd]
  split
  ·rename_i ho
   rw [ordI_zero.1 ho]
   show thenC (cmpV f _ _) (firstC _) = _
   rw [itE_ord f p q r r' (i + 1)]
   rfl
  ·rename_i ho
   show thenC (ofI (ordI _)) .eq = _
   rw [ofI_ordI, thenC_nil]
   cases hc : cmpB (opnE e).1 (opnE e').1 with
   | lt => rfl
   | eq => exact absurd (ordI_zero.2 hc) ho
   | gt => rfl
theorem itE_wt (f : Nat) (p q : Option Addr) : ∀ (E F : List V) (i : Nat), sumI (wtIt f) (itE p q i E F) ≤ 3 * sumOf (nodesV f) (E.map fun e => (opnE e).2) + 1
 | [], [], _ => by simp [itE, sumI]
 | [], _ :: _, _ => by simp [itE, sumI, wtIt]; try omega
 | _ :: _, [], _ => by simp [itE, sumI, wtIt]; try omega
 | e :: r, e' :: r', i => by
  unfold itE
  split
  ·have := itE_wt f p q r r' (i + 1)
   show 3 * nodesV f (opnE e).2 + sumI (wtIt f) (itE p q (i + 1) r r') ≤ 3 * (nodesV f (opnE e).2 + sumOf (nodesV f) (r.map fun e => (opnE e).2)) + 1
   omega
  ·show 1 + 0 ≤ _
   omega
theorem itE_mem {p q : Option Addr} : ∀ (E F : List V) (i : Nat) (s : It), s ∈ itE p q i E F → (s.2 = none ∧ ∃ o : Ordering, ordI o ≠ 0 ∧ s.1 = (none, none, ordI o)) ∨ ∃ j x y, E[j]? = some x ∧ F[j]? = some y ∧ s = (pairAt p q 7 1 (i + j), some ((opnE x).2, (opnE y).2))
 | [], [], _, s, h => by simp [itE] at h
 | [], _ :: _, _, s, h => by
  rw [List.mem_singleton.1 h]
  exact .inl ⟨rfl, .lt, by decide, rfl⟩
 | _ :: _, [], _, s, h => by
  rw [List.mem_singleton.1 h]
  exact .inl ⟨rfl, .gt, by decide, rfl⟩
 | e :: r, e' :: r', i, s, h => by
  unfold itE at h
  split at h
  ·rcases List.mem_cons.1 h with h | h
   ·exact .inr ⟨0, e, e', rfl, rfl, h⟩
   ·rcases itE_mem r r' (i + 1) s h with h | ⟨j, x, y, h1, h2, h3⟩
    ·exact .inl h
    ·refine .inr ⟨j + 1, x, y, h1, h2, ?_⟩
     rw [h3, show i + 1 + j = i + (j + 1) by omega]
  ·rename_i ho
   rw [List.mem_singleton.1 h]
   exact .inl ⟨rfl, _, ho, rfl⟩
def ItOk (ok : Nat → Prop) (f : Nat) (W : World) (s : It) : Prop :=
 (s.2 = none ∧ ∃ o : Ordering, ordI o ≠ 0 ∧ s.1 = (none, none, ordI o)) ∨ ∃ A a B b x y, s = ((some ⟨A, a, none⟩, some ⟨B, b, none⟩, 0), some (x, y)) ∧ At ok f W (A, a, 0) x ∧ At ok f W (B, b, 0) y
def itV (pL qL pE qE : Option Addr) (L M E F : List V) : List It := itL pL qL L M ++ if L.length = M.length then itE pE qE 0 E F else []
theorem itV_fst (pL qL pE qE : Option Addr) (L M E F : List V) : (itV pL qL pE qE L M E F).map Prod.fst = kidsP pL qL pE qE L.length M.length (E.map fun e => (opnE e).1) (F.map fun e => (opnE e).1) := by
 unfold itV kidsP
 rw [List.map_append, itL_fst]
 congr 1
 split
 ·exact itE_fst pE qE E F 0
 ·rfl
theorem cmpL_len {α : Type} (c : α → α → Ordering) : ∀ {l m : List α}, cmpL c l m = .eq → l.length = m.length
 | [], [], _ => rfl
 | [], _ :: _, h => by cases h
 | _ :: _, [], h => by cases h
 | x :: r, y :: t, h => by
  have h' : thenC (c x y) (cmpL c r t) = .eq := h
  have := cmpL_len c (thenC_eq.1 h').2
  simp only [List.length_cons, this]
theorem itV_ord (f : Nat) (pL qL pE qE : Option Addr) (L M E F : List V) : firstC ((itV pL qL pE qE L M E F).map (ordIt f)) = thenC (cmpL (cmpV f) L M) (cmpL (cmpE (cmpV f)) E F) := by
 unfold itV
 rw [List.map_append, firstC_append, itL_ord]
 by_cases hl : L.length = M.length
 ·rw [if_pos hl, itE_ord]
 ·rw [if_neg hl]
  show thenC _ .eq = _
  rw [thenC_nil]
  cases hc : cmpL (cmpV f) L M with
  | eq => exact absurd (cmpL_len _ hc) hl
  | lt => rfl
  | gt => rfl
theorem itV_wt (f : Nat) (pL qL pE qE : Option Addr) (L M E F : List V) : sumI (wtIt f) (itV pL qL pE qE L M E F) ≤ 3 * sumOf (nodesV f) (L ++ E.map fun e => (opnE e).2) + 2 := by
 unfold itV
 rw [sumI_append, sumOf_append]
 have h1 := itL_wt f pL qL L M
 have h2 : sumI (wtIt f) (if L.length = M.length then itE pE qE 0 E F else []) ≤ 3 * sumOf (nodesV f) (E.map fun e => (opnE e).2) + 1 := by
  split
  ·exact itE_wt f pE qE E F 0
  ·exact Nat.zero_le _
 omega
end Go.Proofs.YtnbfnjhbmeocfabGreatDoor.valus
namespace Go.Proofs.YtnbfnjhbmeocfabGreatDoor.valus
open Go.RowKit
theorem row6_at {ok : Nat → Prop} {f : Nat} {W : World} {p : Option Addr} {L : List V} (h : RowIn ok W p 6 L.length (fun j us => ∃ y, L[j]? = some y ∧ LiesV ok f W us y)) {j : Nat} {x : V} (hj : L[j]? = some x) :
  At ok (f + 1) W ((p.getD ⟨0, 0, none⟩).block, (p.getD ⟨0, 0, none⟩).off + j * 6 + 0, 0) x := by
 obtain ⟨hlt, _⟩ := List.getElem?_eq_some_iff.1 hj
 obtain ⟨B, o, rfl, hb, hbl, hk⟩ := h (by omega)
 obtain ⟨vs, v1, v2, y, hy, hly⟩ := hk j hlt
 rw [hj] at hy
 injection hy with hy
 subst hy
 exact ⟨hb, hbl, vs, fun i hi => v2 i hi, hly.up⟩
theorem row7_at {ok : Nat → Prop} {f : Nat} {W : World} {p : Option Addr} {E : List V} (h : RowIn ok W p 7 E.length (fun j us => ∃ (key : ByteArray) (y : V) (xs : List Value), E[j]? = some (ent key.data.toList y) ∧ us = .string key :: xs ∧ key.size ≤ maxLen ∧ LiesV ok f W xs y)) {j : Nat} {x : V} (hj : E[j]? = some x) :
  At ok (f + 1) W ((p.getD ⟨0, 0, none⟩).block, (p.getD ⟨0, 0, none⟩).off + j * 7 + 1, 0) (opnE x).2 := by
 obtain ⟨hlt, _⟩ := List.getElem?_eq_some_iff.1 hj
 obtain ⟨B, o, rfl, hb, hbl, hk⟩ := h (by omega)
 obtain ⟨vs, v1, v2, key, y, xs, hy, rfl, _, hly⟩ := hk j hlt
 rw [hj] at hy
 injection hy with hy
 rw [hy, opnE_ent]
 refine ⟨hb, hbl, xs, fun i hi => ?_, hly.up⟩
 have := v2 (i + 1) (by omega)
 rw [List.getElem?_cons_succ] at this
 rw [← this]
 show W.cell? ⟨B, o + j * 7 + 1 + i, none⟩ = _
 congr 2
 omega
theorem row7_keys {ok : Nat → Prop} {f : Nat} {W : World} {p : Option Addr} {E : List V} (h : RowIn ok W p 7 E.length (fun j us => ∃ (key : ByteArray) (y : V) (xs : List Value), E[j]? = some (ent key.data.toList y) ∧ us = .string key :: xs ∧ key.size ≤ maxLen ∧ LiesV ok f W xs y)) : KeysAt ok W p (E.map fun e => (opnE e).1) := fun hn => by
 rw [List.length_map] at hn
 obtain ⟨B, o, rfl, hb, hbl, hk⟩ := h hn
 refine ⟨B, o, rfl, hb, hbl, fun j hj => ?_⟩
 rw [List.length_map] at hj
 obtain ⟨vs, v1, v2, key, y, xs, hy, rfl, _, hly⟩ := hk j hj
 refine ⟨key, ?_, ?_⟩
 ·rw [List.getElem?_map, hy]
  rfl
 ·have := v2 0 (by omega)
  exact this
theorem pair_kids {ok : Nat → Prop} {f : Nat} {W : World} {A a B b : Nat} {va vb : V} (hA : At ok f W (A, a, 0) va) (hB : At ok f W (B, b, 0) vb) :
  ∃ (pL qL pE qE : Option Addr) (cL dL cE dE : Nat) (x y : Lab) (L M E F : List V), va = mkV x L E ∧ vb = mkV y M F ∧
   W.cell? ⟨A, a + 4, none⟩ = some (.slice pL L.length cL) ∧ W.cell? ⟨B, b + 4, none⟩ = some (.slice qL M.length dL) ∧ W.cell? ⟨A, a + 5, none⟩ = some (.slice pE (E.map fun e => (opnE e).1).length cE) ∧ W.cell? ⟨B, b + 5, none⟩ = some (.slice qE (F.map fun e => (opnE e).1).length dE) ∧
   (L.length ≠ 0 → ∃ b q, pL = some ⟨b, q, none⟩) ∧ (M.length ≠ 0 → ∃ b q, qL = some ⟨b, q, none⟩) ∧ KeysAt ok W pE (E.map fun e => (opnE e).1) ∧ KeysAt ok W qE (F.map fun e => (opnE e).1) ∧
   (L.length ≤ 9223372036854775807 ∧ M.length ≤ 9223372036854775807 ∧ (E.map fun e => (opnE e).1).length ≤ 9223372036854775807 ∧ (F.map fun e => (opnE e).1).length ≤ 9223372036854775807) ∧
   (∀ s, s ∈ itV pL qL pE qE L M E F → ItOk ok f W s) ∧ cmpV f va vb = thenC (cmpLab x y) (firstC ((itV pL qL pE qE L M E F).map (ordIt f))) ∧ sumI (wtIt f) (itV pL qL pE qE L M E F) < 3 * nodesV f va := by
 have iA := hA.isV
 have iB := hB.isV
 obtain ⟨okA, ltA, us, hus, hl⟩ := hA
 obtain ⟨okB, ltB, us', hus', hl'⟩ := hB
 cases f with
 | zero => exact hl.elim
 | succ f =>
  obtain ⟨k, n, fb, s, L, E, pL, pE, cL, cE, rfl, rfl, h3, ⟨m1, m2, m3, m4⟩, rL, rE⟩ := hl
  obtain ⟨k', n', fb', s', M, F, qL, qE, dL, dE, rfl, rfl, h3', ⟨m1', m2', m3', m4'⟩, rM, rF⟩ := hl'
  have mx : maxLen ≤ 9223372036854775807 := by unfold maxLen; decide
  refine ⟨pL, qL, pE, qE, cL, dL, cE, dE, _, _, L, M, E, F, rfl, rfl, hus 4 (by omega), hus' 4 (by omega), by rw [List.length_map]; exact hus 5 (by omega), by rw [List.length_map]; exact hus' 5 (by omega), fun hn => ?_, fun hn => ?_, row7_keys rE, row7_keys rF, ⟨by omega, by omega, by rw [List.length_map]; omega, by rw [List.length_map]; omega⟩, fun it hit => ?_, ?_, ?_⟩
  ·obtain ⟨B', o, hp, _⟩ := rL hn
   exact ⟨B', o, hp⟩
  ·obtain ⟨B', o, hp, _⟩ := rM hn
   exact ⟨B', o, hp⟩
  ·unfold itV at hit
   rcases List.mem_append.1 hit with hit | hit
   ·rcases itL_mem hit with h | ⟨j, x, y, h1, h2, rfl⟩
    ·exact .inl h
    ·exact .inr ⟨_, _, _, _, x, y, rfl, row6_at rL h1, row6_at rM h2⟩
   ·split at hit
    ·rcases itE_mem E F 0 it hit with h | ⟨j, x, y, h1, h2, rfl⟩
     ·exact .inl h
     ·rw [Nat.zero_add]
      exact .inr ⟨_, _, _, _, _, _, rfl, row7_at rE h1, row7_at rF h2⟩
    ·cases hit
  ·rw [itV_ord]
   have e := cmpV_more iA iB
   rw [← e]
   rfl
  ·have h1 := itV_wt (f + 1) pL qL pE qE L M E F
   have h2 := nodes_parts iA
   rw [parts_mk] at h2
   omega
structure StillP (n1 : Nat) (C : Nat → Prop) (f : Nat) (Wb : World) (M : Nat → Prop) (s : List It) (W : World) : Prop where
 mine : ∀ b, M b → n1 ≤ b
 base : n1 ≤ Wb.heap.size
 turn : Turns (fun b => C b ∨ n1 ≤ b) Wb W
 lies : ∀ p, p ∈ s → ItOk (fun b => b < n1 ∧ ¬ C b) f Wb p
def todoP (s : List It) : List Pr := s.map Prod.fst
theorem StillP.abides {n1 : Nat} {C : Nat → Prop} {f : Nat} {Wb : World} {M M' : Nat → Prop} {s : List It} {W W' : World} (h : StillP n1 C f Wb M s W) (ht : Turns (fun b => M b ∨ (n1 ≤ b ∧ ∃ o : Obj, W.heap[b]? = some o ∧ o.isCells = false)) W W') (hm : ∀ b, M' b → M b ∨ W.heap.size ≤ b) : StillP n1 C f Wb M' s W' := by
 have hs := h.turn.size
 have hb := h.base
 refine ⟨fun b hb' => (hm b hb').elim (h.mine b) (fun h => by omega), hb, h.turn.trans ht (fun b _ hb => hb.elim (fun h' => .inr (h.mine b h')) (fun h' => .inr h'.1)), h.lies⟩
theorem StillP.box {n1 : Nat} {C : Nat → Prop} {f : Nat} {Wb : World} {M : Nat → Prop} {s : List It} {W W' : World} {B : Nat} {t : TypeId} {v : Value} (h : StillP n1 C f Wb M s W) (hB : B < n1) (hb : Boxed W B t v) (ht : Turns (fun b => M b ∨ (n1 ≤ b ∧ ∃ o : Obj, W.heap[b]? = some o ∧ o.isCells = false)) W W') : Boxed W' B t v := by
 refine (ht.block B hb.lt (fun hx => ?_)).trans hb
 rcases hx with hx | hx
 ·have := h.mine B hx
  omega
 ·omega
theorem StillP.round {n1 : Nat} {C : Nat → Prop} {f : Nat} {Wb : World} {M : Nat → Prop} {s : List It} {W W' : World} (h : StillP n1 C f Wb M s W) (ht : Turns (fun b => C b ∨ n1 ≤ b) W W') : StillP n1 C f Wb M s W' :=
 ⟨h.mine, h.base, h.turn.trans ht (fun b _ h => h), h.lies⟩
theorem At.later {n1 : Nat} {C : Nat → Prop} {f : Nat} {Wb W : World} (ht : Turns (fun b => C b ∨ n1 ≤ b) Wb W) {x : Nd} {t : V} (h : At (fun b => b < n1 ∧ ¬ C b) f Wb x t) : At (fun b => b < n1 ∧ ¬ C b) f W x t := by
 obtain ⟨hok, hlt, us, hus, hl⟩ := h
 have hb : ∀ b, (b < n1 ∧ ¬ C b) → b < Wb.heap.size → W.heap[b]? = Wb.heap[b]? := fun b hb hlt => ht.block b hlt (fun hx => hx.elim hb.2 (fun h => by omega))
 exact ⟨hok, Nat.lt_of_lt_of_le hlt ht.size, us, fun i hi => (World.cell?_of_block (hb _ hok hlt)).trans (hus i hi), hl.kept (fun _ h => h) ht.size hb⟩
theorem StillP.next {n1 : Nat} {C : Nat → Prop} {f : Nat} {Wb : World} {M : Nat → Prop} {A a B b : Nat} {va vb : V} {s : List It} {W : World} (h : StillP n1 C f Wb M (((some ⟨A, a, none⟩, some ⟨B, b, none⟩, 0), some (va, vb)) :: s) W) :
  ∃ (x y : Lab) (ks : List It), (opn va).1 = x ∧ (opn vb).1 = y ∧ KidsP M W (some ⟨A, a, none⟩, some ⟨B, b, none⟩, 0) (ks.map Prod.fst) ∧ StillP n1 C f Wb M (ks ++ s) W ∧ cmpV f va vb = thenC (cmpLab x y) (firstC (ks.map (ordIt f))) ∧ sumI (wtIt f) (ks ++ s) < sumI (wtIt f) (((some ⟨A, a, none⟩, some ⟨B, b, none⟩, 0), some (va, vb)) :: s) := by
 obtain ⟨A', a', B', b', x', y', he, hA, hB⟩ : ∃ A' a' B' b' x' y', ((((some ⟨A, a, none⟩, some ⟨B, b, none⟩, 0) : Pr), some (va, vb)) : It) = ((some ⟨A', a', none⟩, some ⟨B', b', none⟩, 0), some (x', y')) ∧ At (fun b => b < n1 ∧ ¬ C b) f Wb (A', a', 0) x' ∧ At (fun b => b < n1 ∧ ¬ C b) f Wb (B', b', 0) y' := by
  rcases h.lies _ (List.mem_cons_self ..) with h | h
  ·exact absurd h.1 (by simp)
  ·exact h
 simp only [Prod.mk.injEq, Option.some.injEq, Addr.mk.injEq, and_true] at he
 obtain ⟨⟨⟨rfl, rfl⟩, rfl, rfl⟩, rfl, rfl⟩ := he
 obtain ⟨pL, qL, pE, qE, cL, dL, cE, dE, x, y, L, M', E, F, rfl, rfl, v4, u4, v5, u5, g1, g2, k1, k2, gb, hit, hc, hw⟩ := pair_kids hA hB
 have okn : ∀ b, (b < n1 ∧ ¬ C b) → ¬ M b := fun b hb hm => by have := h.mine b hm; omega
 have hbk : ∀ b, (b < n1 ∧ ¬ C b) → b < Wb.heap.size → W.heap[b]? = Wb.heap[b]? := fun b hb hlt => h.turn.block b hlt (fun hx => hx.elim hb.2 (fun h => by omega))
 have kk : ∀ p l, KeysAt (fun b => b < n1 ∧ ¬ C b) Wb p l → KeysAt (fun b => ¬ M b) W p l := fun p l hk hn => by
  obtain ⟨b', o', e1, e2, e3, e4⟩ := hk.kept h.turn.size hbk hn
  exact ⟨b', o', e1, okn b' e2, e3, e4⟩
 refine ⟨x, y, itV pL qL pE qE L M' E F, rfl, rfl, ?_, ⟨h.mine, h.base, h.turn, fun p hp => ?_⟩, hc, ?_⟩
 ·rw [itV_fst]
  exact ⟨A, a, B, b, pL, qL, pE, qE, _, cL, _, dL, cE, dE, _, _, rfl, okn A hA.1, okn B hB.1, Nat.lt_of_lt_of_le hA.2.1 h.turn.size, Nat.lt_of_lt_of_le hB.2.1 h.turn.size,
   (World.cell?_of_block (a := ⟨A, a + 4, none⟩) (hbk A hA.1 hA.2.1)).trans v4, (World.cell?_of_block (a := ⟨B, b + 4, none⟩) (hbk B hB.1 hB.2.1)).trans u4, (World.cell?_of_block (a := ⟨A, a + 5, none⟩) (hbk A hA.1 hA.2.1)).trans v5, (World.cell?_of_block (a := ⟨B, b + 5, none⟩) (hbk B hB.1 hB.2.1)).trans u5, g1, g2, kk _ _ k1, kk _ _ k2, gb, rfl⟩
 ·rcases List.mem_append.1 hp with hp | hp
  ·exact hit p hp
  ·exact h.lies p (by simp [hp])
 ·rw [sumI_append]
  show sumI (wtIt f) (itV pL qL pE qE L M' E F) + sumI (wtIt f) s < 3 * nodesV f (mkV x L E) + sumI (wtIt f) s
  omega
theorem todoP_len {f n1 : Nat} {C M : Nat → Prop} {Wb W : World} : ∀ {s : List It}, StillP n1 C f Wb M s W → (todoP s).length ≤ sumI (wtIt f) s
 | [], _ => Nat.zero_le _
 | p :: s, h => by
  have := todoP_len (s := s) ⟨h.mine, h.base, h.turn, fun q hq => h.lies q (by simp [hq])⟩
  have hw : 1 ≤ wtIt f p := by
   rcases h.lies p (by simp) with ⟨h1, _⟩ | ⟨A, a, B, b, x, y, rfl, hA, _⟩
   ·unfold wtIt
    rw [h1]
    exact Nat.le_refl _
   ·show 1 ≤ 3 * nodesV f x
    have := nodes_pos hA.isV
    omega
  show (todoP s).length + 1 ≤ wtIt f p + sumI (wtIt f) s
  omega
theorem KidsP.put {M : Nat → Prop} {W : World} {x : Pr} {kids : List Pr} {l : Nat} {o : Obj} (o' : Obj) (h : KidsP M W x kids) (hl : W.heap[l]? = some o) (ho : o.isCells = false) : KidsP M (W.putObj l o') x kids := by
 obtain ⟨A, a, B, b, pL, qL, pE, qE, nL, cL, mL, dL, cE, dE, ks, ks', hx, nA, nB, lA, lB, v4, u4, v5, u5, hL, hL', hE, hE', r⟩ := h
 have hne : ∀ {p : Addr} {v : Value}, W.cell? p = some v → p.block ≠ l := fun {p v} hc e => by
  obtain ⟨o2, h2, h3⟩ := cells_of_cell hc
  rw [e, hl] at h2
  cases h2
  rw [ho] at h3
  cases h3
 have kc : ∀ {p : Addr} {v : Value}, W.cell? p = some v → (W.putObj l o').cell? p = some v := fun {p v} hc => (World.cell?_of_block (World.putObj_heap_other (hne hc))).trans hc
 have kk : ∀ p k, KeysAt (fun b => ¬ M b) W p k → KeysAt (fun b => ¬ M b) (W.putObj l o') p k := fun p k hk hn => by
  obtain ⟨b', o2, e1, e2, e3, e4⟩ := hk hn
  refine ⟨b', o2, e1, e2, by rw [World.putObj_size]; exact e3, fun j hj => ?_⟩
  obtain ⟨key, k1, k2⟩ := e4 j hj
  exact ⟨key, k1, kc k2⟩
 exact ⟨A, a, B, b, pL, qL, pE, qE, nL, cL, mL, dL, cE, dE, ks, ks', hx, nA, nB, by rw [World.putObj_size]; exact lA, by rw [World.putObj_size]; exact lB, kc v4, kc u4, kc v5, kc u5, hL, hL', kk _ _ hE, kk _ _ hE', r⟩
end Go.Proofs.YtnbfnjhbmeocfabGreatDoor.valus
namespace Go.Proofs.YtnbfnjhbmeocfabGreatDoor.valus
open Go.RowKit Go.Shelf
attribute [local go_sem] Oper.semAt_some
theorem walkP_any (p q : Option Addr) (w : World) :
  CallsIn Fence.wide 7 Tryz.prog 62 #[.agg #[.pointer p, .pointer q, .int .i64 0], .func (.func 63) #[] #[]] w fun e w' => e = .returned (.func (.func 101) #[] #[.pointer (some ⟨w.heap.size, 0, none⟩), .pointer (some ⟨w.heap.size + 1, 0, none⟩)]) ∧
   w' = (w.alloc (.cells #[.pointer p, .pointer q, .int .i64 0] 89)).alloc (.cells #[.func (.func 63) #[] #[]] 118) := by
 refine callsIn_of_wp Tryz.func62 rfl trivial ?_ rfl
 simp only [Tryz.ntmps62, List.size_toArray, List.length_cons, List.length_nil, Nat.reduceAdd, Nat.reduceSub, Array.replicate_succ, Array.replicate_zero, List.push_toArray, List.append_toArray, List.nil_append, List.cons_append]
 gi_wp2
 go_ret
 exact ⟨rfl, rfl⟩
theorem pairsP_any (p q : Option Addr) (w : World) :
  CallsIn Fence.wide 8 Tryz.prog 33 #[.pointer p, .pointer q] w fun e w' => e = .returned (.func (.func 101) #[] #[.pointer (some ⟨w.heap.size, 0, none⟩), .pointer (some ⟨w.heap.size + 1, 0, none⟩)]) ∧
   w' = (w.alloc (.cells #[.pointer p, .pointer q, .int .i64 0] 89)).alloc (.cells #[.func (.func 63) #[] #[]] 118) := by
 refine callsIn_of_wp Tryz.func33 rfl trivial ?_ rfl
 simp only [Tryz.ntmps33, List.size_toArray, List.length_cons, List.length_nil, Nat.reduceAdd, Nat.reduceSub, Array.replicate_succ, Array.replicate_zero, List.push_toArray, List.append_toArray, List.nil_append, List.cons_append]
 gi_wp2_with (refine ⟨trivial, ?_⟩; gi_at_call 62; refine (walkP_any p q w).mono ?_; rintro e w' ⟨rfl, rfl⟩)
 go_ret
 exact ⟨rfl, rfl⟩
theorem pcmp_told (w : World) (p q : Option Addr) (o : Int) (ho : o ≠ 0) : Calls Tryz.prog 34 #[.agg #[.pointer p, .pointer q, .int .i64 o]] w fun e w' => e = .returned (.int .i64 o) ∧ Below w.heap.size w w' := by
 have hb : (o != 0) = true := bne_iff_ne.2 ho
 go_enter Tryz.func34, Tryz.ntmps34
 go_wp2
 go_ret
 exact ⟨rfl, (Below.refl _ w).alloc (Nat.le_refl _) _⟩
theorem results_order {w : World} {B : Nat} {v : Int} (tmps : Array Value) (h : Boxed w B 3 (.int .i64 v)) (ht : tmps[4]? = some (.pointer (some ⟨B, 0, none⟩)) := by rfl) : (results Tryz.f21 tmps).run Tryz.prog w = .ok (.int .i64 v) w := by
 have hc := h.cell
 simp [results, Tryz.f21, ht, go_sem, hc]
theorem below_keeps' {W W' : World} (B : Nat) (h : Below W.heap.size W W') : KeepsFrom B W W' := ⟨h.size, fun k o _ hk _ => (h.block k (Array.getElem?_eq_some_iff.1 hk).1).trans hk⟩
theorem below_turns' {W W' : World} (M : Nat → Prop) (h : Below W.heap.size W W') : Turns M W W' := ⟨h.os, h.tape, h.output, h.size, fun b hb _ => h.block b hb⟩
theorem At.four {ok : Nat → Prop} {f : Nat} {W : World} {x : Nd} {t : V} (h : At ok f W x t) : ∃ (k n : Int) (b : Nat) (s : ByteArray) (L E : List V), t = mkV (k, n, b, s.data.toList) L E ∧ b < 18446744073709551616 ∧ W.cell? ⟨x.1, x.2.1, none⟩ = some (.int .i64 k) ∧ W.cell? ⟨x.1, x.2.1 + 1, none⟩ = some (.int .i64 n) ∧ W.cell? ⟨x.1, x.2.1 + 2, none⟩ = some (.int .u64 (b : Int)) ∧ W.cell? ⟨x.1, x.2.1 + 3, none⟩ = some (.string s) ∧ x.1 < W.heap.size := by
 obtain ⟨hok, hlt, us, hus, hl⟩ := h
 cases f with
 | zero => exact hl.elim
 | succ f =>
  obtain ⟨k, n, b, s, L, E, pL, pE, cL, cE, rfl, rfl, h3, h4, hL, hE⟩ := hl
  exact ⟨k, n, b, s, L, E, rfl, h3.2.2.1, hus 0 (by omega), hus 1 (by omega), hus 2 (by omega), hus 3 (by omega), hlt⟩
theorem KidsP.later {M : Nat → Prop} {W W' : World} {x : Pr} {kids : List Pr} (h : KidsP M W x kids) (hb : Below W.heap.size W W') : KidsP M W' x kids := by
 obtain ⟨A, a, B, b, pL, qL, pE, qE, nL, cL, mL, dL, cE, dE, ks, ks', hx, nA, nB, lA, lB, v4, u4, v5, u5, hL, hL', hE, hE', r⟩ := h
 have hs := hb.size
 exact ⟨A, a, B, b, pL, qL, pE, qE, nL, cL, mL, dL, cE, dE, ks, ks', hx, nA, nB, by omega, by omega, (hb.cell (p := ⟨A, a + 4, none⟩) lA).trans v4, (hb.cell (p := ⟨B, b + 4, none⟩) lB).trans u4, (hb.cell (p := ⟨A, a + 5, none⟩) lA).trans v5, (hb.cell (p := ⟨B, b + 5, none⟩) lB).trans u5, hL, hL', hE.kept hs (fun b _ h => hb.block b h), hE'.kept hs (fun b _ h => hb.block b h), r⟩
theorem compare_any (f : Nat) (w : World) (t u : V) (a0 a1 a2 a3 a4 a5 b0 b1 b2 b3 b4 b5 : Value) (hl : LiesV (fun b => b < w.heap.size) f w [a0, a1, a2, a3, a4, a5] t) (hl' : LiesV (fun b => b < w.heap.size) f w [b0, b1, b2, b3, b4, b5] u) (hn : nodesV f t ≤ 3000000) :
  CallsIn Fence.wide 9 Tryz.prog 21 #[.agg #[a0, a1, a2, a3, a4, a5], .agg #[b0, b1, b2, b3, b4, b5]] w fun e w' => e = .returned (.int .i64 (ordI (cmpV f t u))) ∧ Below w.heap.size w w' := by
 obtain ⟨k, n, b, s, pL, nL, cL, pE, nE, cE, rfl, rfl, rfl, rfl, rfl, rfl⟩ := hl.form
 obtain ⟨k', n', b', s', qL, mL, dL, qE, mE, dE, rfl, rfl, rfl, rfl, rfl, rfl⟩ := hl'.form
 refine callsIn_of_wp_marks Tryz.func21 rfl trivial ?_ rfl
 simp only [Tryz.ntmps21, List.size_toArray, List.length_cons, List.length_nil, Nat.reduceAdd, Nat.reduceSub, Array.replicate_succ, Array.replicate_zero, List.push_toArray, List.append_toArray, List.nil_append, List.cons_append]
 gi_wp2
 obtain ⟨Wb, hWb⟩ : ∃ Wb, Wb = ((w.alloc (.cells #[.int .i64 k, .int .i64 n, .int .u64 (b : Int), .string s, .slice pL nL cL, .slice pE nE cE] 26)).alloc (.cells #[.int .i64 k', .int .i64 n', .int .u64 (b' : Int), .string s', .slice qL mL dL, .slice qE mE dE] 26)).alloc (.cells #[.int .i64 0] 3) := ⟨_, rfl⟩
 rw [← hWb]
 have sb : Wb.heap.size = w.heap.size + 3 := by rw [hWb]; simp
 have tb : Below w.heap.size w Wb := by rw [hWb]; exact (((Below.refl _ w).alloc (Nat.le_refl _) _).alloc (by simp) _).alloc (by simp; omega) _
 have va : Blk Wb w.heap.size #[.int .i64 k, .int .i64 n, .int .u64 (b : Int), .string s, .slice pL nL cL, .slice pE nE cE] 26 := by rw [hWb]; exact ((blk_alloc w _ _).alloc _).alloc _
 have vb : Blk Wb (w.heap.size + 1) #[.int .i64 k', .int .i64 n', .int .u64 (b' : Int), .string s', .slice qL mL dL, .slice qE mE dE] 26 := by
  rw [hWb]
  have := (blk_alloc (w.alloc (.cells #[.int .i64 k, .int .i64 n, .int .u64 (b : Int), .string s, .slice pL nL cL, .slice pE nE cE] 26)) #[.int .i64 k', .int .i64 n', .int .u64 (b' : Int), .string s', .slice qL mL dL, .slice qE mE dE] 26).alloc (.cells #[.int .i64 0] 3)
  rwa [World.size_alloc] at this
 have rb : Boxed Wb (w.heap.size + 1 + 1) 3 (.int .i64 0) := by
  rw [hWb]
  have := Boxed.new ((w.alloc (.cells #[.int .i64 k, .int .i64 n, .int .u64 (b : Int), .string s, .slice pL nL cL, .slice pE nE cE] 26)).alloc (.cells #[.int .i64 k', .int .i64 n', .int .u64 (b' : Int), .string s', .slice qL mL dL, .slice qE mE dE] 26)) 3 (.int .i64 0)
  rwa [World.size_alloc, World.size_alloc] at this
 clear hWb
 refine ⟨trivial, (pairsP_any _ _ _).mono ?_⟩
 rintro e w' ⟨rfl, rfl⟩
 gi_wp2
 obtain ⟨W2, hW2⟩ : ∃ W2, W2 = (Wb.alloc (.cells #[.pointer (some ⟨w.heap.size, 0, none⟩), .pointer (some ⟨w.heap.size + 1, 0, none⟩), .int .i64 0] 89)).alloc (.cells #[.func (.func 63) #[] #[]] 118) := ⟨_, rfl⟩
 rw [← hW2]
 have s2 : W2.heap.size = Wb.heap.size + 2 := by rw [hW2]; simp
 have t2 : Turns (fun _ => False) Wb W2 := by rw [hW2]; exact (Turns.alloc _ _ _).trans (Turns.alloc (fun _ => False) _ _) (fun _ _ h => h)
 have x1 : W2.heap[w.heap.size + 3]? = some (.cells #[.pointer (some ⟨w.heap.size, 0, none⟩), .pointer (some ⟨w.heap.size + 1, 0, none⟩), .int .i64 0] 89) := by rw [← sb, hW2]; exact (blk_alloc Wb _ _).alloc _
 have x2 : W2.heap[w.heap.size + 3 + 1]? = some (.cells #[.func (.func 63) #[] #[]] 118) := by
  rw [← sb, hW2]
  have := blk_alloc (Wb.alloc (.cells #[.pointer (some ⟨w.heap.size, 0, none⟩), .pointer (some ⟨w.heap.size + 1, 0, none⟩), .int .i64 0] 89)) #[.func (.func 63) #[] #[]] 118
  rwa [World.size_alloc] at this
 clear hW2
 obtain ⟨x0, hx0⟩ : ∃ x0 : It, x0 = ((some ⟨w.heap.size, 0, none⟩, some ⟨w.heap.size + 1, 0, none⟩, 0), some (t, u)) := ⟨_, rfl⟩
 have e0 : sumI (wtIt f) [x0] = 3 * nodesV f t := by rw [hx0]; rfl
 refine wpIn_range_walk (lb := #[.pointer (some ⟨w.heap.size + 3, 0, none⟩), .pointer (some ⟨w.heap.size + 3 + 1, 0, none⟩)]) rfl (enters_of Tryz.func101 (by kernel_rfl) rfl)
  (walkP_in (w.heap.size + 3) (w.heap.size + 3 + 1) (some ⟨w.heap.size, 0, none⟩, some ⟨w.heap.size + 1, 0, none⟩, 0) todoP (sumI (wtIt f)) W2 x1 x2) (Below.refl _ _) rfl (fun M W x kids l o o' h _ h2 h3 => h.put o' h2 h3)
  (w.heap.size + 3) (by omega)
  (fun M st W => StillP (w.heap.size + 3) (fun b => b = w.heap.size + 1 + 1) f Wb M st W ∧ sumI (wtIt f) st ≤ 3 * nodesV f t ∧ firstC (st.map (ordIt f)) = cmpV f t u ∧ Boxed W (w.heap.size + 1 + 1) 3 (.int .i64 0))
  (fun c M _ W => c = .ret ∧ (∀ b, M b → w.heap.size + 3 ≤ b) ∧ Turns (fun b => b = w.heap.size + 1 + 1 ∨ w.heap.size + 3 ≤ b) Wb W ∧ Boxed W (w.heap.size + 1 + 1) 3 (.int .i64 (ordI (cmpV f t u))))
  ?ab ?abx [x0] (by rw [hx0]; rfl) (fun b h => by omega) ?start (fun M st X h => by have := todoP_len h.1; omega)
  (fun x a' W => ∃ Bx, Blk W Bx #[.pointer x.1, .pointer x.2.1, .int .i64 x.2.2] 89 ∧ a' = { tmps := #[.agg #[.int .i64 k, .int .i64 n, .int .u64 (b : Int), .string s, .slice pL nL cL, .slice pE nE cE], .agg #[.int .i64 k', .int .i64 n', .int .u64 (b' : Int), .string s', .slice qL mL dL, .slice qE mE dE], .pointer (some ⟨w.heap.size, 0, none⟩), .pointer (some ⟨w.heap.size + 1, 0, none⟩), .pointer (some ⟨w.heap.size + 1 + 1, 0, none⟩), .pointer (some ⟨Bx, 0, none⟩), undef, .func (.func 101) #[] #[.pointer (some ⟨w.heap.size + 3, 0, none⟩), .pointer (some ⟨w.heap.size + 3 + 1, 0, none⟩)], encP x, undef, undef, undef, undef, undef], defers := [] })
  ?ax ?assign ?body ?done ?stop
 case ab =>
  rintro M M' st A B ⟨hS, hle, hab, hrb⟩ ht hm
  exact ⟨hS.abides ht hm, hle, hab, hS.box (by omega) hrb ht⟩
 case abx =>
  rintro c M M' _ A B ⟨rfl, hM, htu, hrb⟩ ht hm
  have hs := htu.size
  have key : ∀ b, (M b ∨ (w.heap.size + 3 ≤ b ∧ ∃ o : Obj, A.heap[b]? = some o ∧ o.isCells = false)) → w.heap.size + 3 ≤ b := fun b h => h.elim (hM b) (fun h => h.1)
  exact ⟨rfl, fun b hb => (hm b hb).elim (hM b) (fun h => by omega), htu.trans ht (fun b _ h => .inr (key b h)), (ht.block _ hrb.lt (fun h => by have := key _ h; omega)).trans hrb⟩
 case start =>
  have cells : ∀ (B : Nat) (us : Array Value), Blk Wb B us 26 → ∀ i, i < us.size → Wb.cell? ⟨B, 0 + i, none⟩ = us.toList[i]? := fun B us hb i hi => by
   rw [Nat.zero_add, hb.cell i us[i] (by simp [hi])]
   simp [hi]
  refine ⟨⟨fun b hb => by omega, by omega, t2.mono fun _ _ h => h.elim, fun p hp => ?_⟩, by rw [e0]; exact Nat.le_refl _, ?_, (t2.block _ rb.lt (fun h => h)).trans rb⟩
  ·rw [List.mem_singleton.1 hp, hx0]
   refine .inr ⟨_, _, _, _, t, u, rfl, ⟨⟨by simp only; omega, by simp only; omega⟩, by simp only; omega, _, fun i hi => cells _ _ va i (by simpa using hi), hl.kept (fun b h => ⟨by omega, by omega⟩) tb.size (fun b h _ => tb.block b h)⟩, ⟨⟨by simp only; omega, by simp only; omega⟩, by simp only; omega, _, fun i hi => cells _ _ vb i (by simpa using hi), hl'.kept (fun b h => ⟨by omega, by omega⟩) tb.size (fun b h _ => tb.block b h)⟩⟩
  ·rw [hx0]
   show thenC (cmpV f t u) .eq = _
   rw [thenC_nil]
 case ax =>
  rintro x a' W l o o' ⟨Bx, hb, ha⟩ h1 h2
  refine ⟨Bx, (World.putObj_heap_other (fun e => ?_)).trans hb, ha⟩
  rw [← e, show W.heap[Bx]? = _ from hb] at h1
  cases h1
  cases h2
 case assign =>
  intro l x W K hK
  simp only [encP] at *
  gi_wp2
  exact hK _ _ (Turns.alloc _ _ _) ⟨W.heap.size, blk_alloc _ _ _, by simp⟩
 case body =>
  rintro l M st x rest a' W hlw ⟨r, hr⟩ ⟨Bx, hbB, rfl⟩ ⟨hS, hle, hab, hrb⟩ hM ht
  cases st with
  | nil => cases ht
  | cons p st =>
   simp only [todoP, List.map_cons, List.cons.injEq] at ht
   obtain ⟨rfl, rfl⟩ := ht
   have n1 : ¬ M (w.heap.size + 1 + 1) := fun h => by have := hS.mine _ h; omega
   have d0 := hbB.cell 0 _ rfl
   have d1 := hbB.cell 1 _ rfl
   have d2 := hbB.cell 2 _ rfl
   have r1 := hrb.cell
   have r2 := hrb.frozen
   have told : ∀ (W3 : World) (v : Int), Below W.heap.size W W3 → ordI (cmpV f t u) = v →
     (KeepsFrom W2.heap.size W (W3.setCell ⟨w.heap.size + 1 + 1, 0, none⟩ (.int .i64 v)) ∧ Turns (fun b => ¬ M b) W (W3.setCell ⟨w.heap.size + 1 + 1, 0, none⟩ (.int .i64 v))) ∧ ((∀ b, M b → w.heap.size + 3 ≤ b) ∧ Turns (fun b => b = w.heap.size + 1 + 1 ∨ w.heap.size + 3 ≤ b) Wb (W3.setCell ⟨w.heap.size + 1 + 1, 0, none⟩ (.int .i64 v)) ∧ Boxed (W3.setCell ⟨w.heap.size + 1 + 1, 0, none⟩ (.int .i64 v)) (w.heap.size + 1 + 1) 3 (.int .i64 (ordI (cmpV f t u)))) := by
    intro W3 v b3 hv
    refine ⟨⟨(below_keeps' _ b3).trans ((KeepsOthers.setCell _ _ _).from _), (below_turns' _ b3).trans (Turns.setCell (M := fun b => ¬ M b) _ _ _ n1) (fun _ _ h => h)⟩, hS.mine, ((hS.turn.trans (below_turns' (fun _ => False) b3) (fun _ _ h => h.elim)).trans (Turns.setCell (M := fun b => b = w.heap.size + 1 + 1) _ _ _ rfl) (fun _ _ h => .inl h)), ?_⟩
    rw [hv]
    have hb3 : Boxed W3 (w.heap.size + 1 + 1) 3 (.int .i64 0) := (b3.block _ hrb.lt).trans hrb
    exact hb3.set _
   have HT := hide told
   have HZ := hide s2
   clear told s2
   rcases hS.lies p (by simp) with ⟨hp2, o, ho, hp1⟩ | ⟨A, a, B, b1, va', vb', rfl, hA, hB⟩
   ·obtain ⟨p1, p2⟩ := p
    simp only at hp2 hp1
    subst hp2
    subst hp1
    have hv : ordI (cmpV f t u) = ordI o := by
     rw [← hab]
     show ordI (thenC (ofI (ordI o)) (firstC (st.map (ordIt f)))) = ordI o
     rw [ofI_ordI]
     cases o with
     | eq => exact absurd rfl ho
     | lt => rfl
     | gt => rfl
    have hc := pcmp_told W none none (ordI o) ho
    generalize ordI o = oo at *
    have g4 : (oo != 0) = true := bne_iff_ne.2 ho
    have HV := hide hv
    have HAL := hide hc
    clear hv hc hab
    gi_wp2
    refine ⟨trivial, (CallsIn.inRound l (callsIn_wide.2 HAL.out)).mono ?_⟩
    rintro e W3 ⟨rfl, b3⟩
    have rb3 : Boxed W3 (w.heap.size + 1 + 1) 3 (.int .i64 0) := (b3.block _ hrb.lt).trans hrb
    have r3 := rb3.cell
    have r4 := rb3.frozen
    gi_wp2
    have hq := HT.out W3 oo b3 HV.out
    exact ⟨hq.1, rfl, hq.2⟩
   ·obtain ⟨x, y, ks, ex, ey, hkd, hS2, hcmp, hwt⟩ := hS.next
    obtain ⟨ak, an, ab', az, AL, AE, ea, a64, ac0, ac1, ac2, ac3, alt⟩ := (At.later hS.turn hA).four
    obtain ⟨bk, bn, bb', bz, BL, BE, eb, b64, bc0, bc1, bc2, bc3, blt⟩ := (At.later hS.turn hB).four
    have hc := pcmp_any W A a B b1 ak an ab' az bk bn bb' bz a64 b64 ac0 ac1 ac2 ac3 alt bc0 bc1 bc2 bc3 blt
    have eLab : cmpLab (ak, an, ab', az.data.toList) (bk, bn, bb', bz.data.toList) = cmpLab x y := by rw [← ex, ← ey, ea, eb]; rfl
    rw [eLab] at hc
    have hab2 : thenC (cmpLab x y) (firstC ((ks ++ st).map (ordIt f))) = cmpV f t u := by
     rw [← hab]
     show _ = thenC (cmpV f va' vb') (firstC (st.map (ordIt f)))
     rw [hcmp, thenC_assoc, List.map_append, firstC_append]
    clear ac0 ac1 ac2 ac3 bc0 bc1 bc2 bc3 ea eb eLab hab hcmp ex ey
    by_cases hz : cmpLab x y = .eq
    ·rw [hz] at hc hab2
     have HAL := hide hc
     have HV := hide hab2
     clear hc hab2
     gi_wp2
     refine ⟨trivial, (CallsIn.inRound l (callsIn_wide.2 HAL.out)).mono ?_⟩
     rintro e W3 ⟨rfl, b3⟩
     simp only [ordI]
     gi_wp2
     have tz := below_turns' (fun _ => False) b3
     refine ⟨⟨below_keeps' _ b3, below_turns' _ b3⟩, ks ++ st, ks.map Prod.fst, ⟨hS2.round (tz.mono fun _ _ h => h.elim), by omega, HV.out, (b3.block _ hrb.lt).trans hrb⟩, by simp [todoP], hwt, hkd.later b3⟩
    ·have hv : ordI (cmpV f t u) = ordI (cmpLab x y) := by
      rw [← hab2]
      cases hq : cmpLab x y with
      | eq => exact absurd hq hz
      | lt => rfl
      | gt => rfl
     have ho : ordI (cmpLab x y) ≠ 0 := fun h => hz (ordI_zero.1 h)
     generalize ordI (cmpLab x y) = oo at *
     have g4 : (oo != 0) = true := bne_iff_ne.2 ho
     have HV := hide hv
     have HAL := hide hc
     clear hv hc hab2 hz
     gi_wp2
     refine ⟨trivial, (CallsIn.inRound l (callsIn_wide.2 HAL.out)).mono ?_⟩
     rintro e W3 ⟨rfl, b3⟩
     have rb3 : Boxed W3 (w.heap.size + 1 + 1) 3 (.int .i64 0) := (b3.block _ hrb.lt).trans hrb
     have r3 := rb3.cell
     have r4 := rb3.frozen
     gi_wp2
     have hq := HT.out W3 oo b3 HV.out
     exact ⟨hq.1, rfl, hq.2⟩
 case done =>
  rintro D M st W hD ht ⟨hS, hle, hab, hrb⟩ hdf
  obtain rfl : st = [] := List.map_eq_nil_iff.1 ht
  have hz : cmpV f t u = .eq := hab.symm
  have r1 := hrb.cell
  have r2 := hrb.frozen
  gi_wp2
  have hrb2 := hrb.set (.int .i64 0)
  have hdf2 : (W.setCell ⟨w.heap.size + 1 + 1, 0, none⟩ (.int .i64 0)).heap[D]? = some (.deferred (some [])) := (Below.heap_setCell _ _ _ _ (fun e => by simp only at e; omega)).trans hdf
  have hrb3 : Boxed ((W.setCell ⟨w.heap.size + 1 + 1, 0, none⟩ (.int .i64 0)).putObj D (.deferred none)) (w.heap.size + 1 + 1) 3 (.int .i64 0) := (World.putObj_heap_other (by omega)).trans hrb2
  refine ⟨by simp, .inl ⟨_, _, rfl, run_takeDeferred hdf2, ?_⟩⟩
  refine ⟨_, results_order _ hrb3, by rw [hz]; rfl, ?_⟩
  exact tb.trans ((((hS.turn.trans (Turns.setCell (M := fun b => b = w.heap.size + 1 + 1) _ _ _ rfl) (fun b _ h => .inl h)).trans (Turns.putObj (M := fun b => w.heap.size + 3 ≤ b) _ _ _ (by omega)) (fun b _ h => .inr h)).below (n := w.heap.size) (by omega) (fun b h => by omega)))
 case stop =>
  rintro D c M W hD ⟨rfl, hM, htu, hrb⟩ hdf
  gi_wp2
  have hrb3 : Boxed (W.putObj D (.deferred none)) (w.heap.size + 1 + 1) 3 (.int .i64 (ordI (cmpV f t u))) := (World.putObj_heap_other (by omega)).trans hrb
  refine ⟨by simp, .inl ⟨_, _, rfl, run_takeDeferred hdf, ?_⟩⟩
  refine ⟨_, results_order _ hrb3, rfl, ?_⟩
  exact tb.trans (((htu.trans (Turns.putObj (M := fun b => w.heap.size + 3 ≤ b) _ _ _ (by omega)) (fun b _ h => .inr h)).below (n := w.heap.size) (by omega) (fun b h => by omega)))
end Go.Proofs.YtnbfnjhbmeocfabGreatDoor.valus
namespace Go.Proofs.YtnbfnjhbmeocfabGreatDoor.valus
open Go.RowKit Go.Shelf
structure HoldM (w : World) (N : Nat) (x0 x1 x2 x3 x4 x5 y0 y1 y2 y3 y4 y5 : Value) (u : World) : Prop where
 bel : Below N w u
 lt : N + 1 < u.heap.size
 c0 : u.cell? ⟨N, 0, none⟩ = some x0
 c1 : u.cell? ⟨N, 1, none⟩ = some x1
 c2 : u.cell? ⟨N, 2, none⟩ = some x2
 c3 : u.cell? ⟨N, 3, none⟩ = some x3
 c4 : u.cell? ⟨N, 4, none⟩ = some x4
 c5 : u.cell? ⟨N, 5, none⟩ = some x5
 d0 : u.cell? ⟨N + 1, 0, none⟩ = some y0
 d1 : u.cell? ⟨N + 1, 1, none⟩ = some y1
 d2 : u.cell? ⟨N + 1, 2, none⟩ = some y2
 d3 : u.cell? ⟨N + 1, 3, none⟩ = some y3
 d4 : u.cell? ⟨N + 1, 4, none⟩ = some y4
 d5 : u.cell? ⟨N + 1, 5, none⟩ = some y5
theorem two_boxesM (w : World) (x0 x1 x2 x3 x4 x5 y0 y1 y2 y3 y4 y5 : Value) : HoldM w w.heap.size x0 x1 x2 x3 x4 x5 y0 y1 y2 y3 y4 y5 ((w.alloc (.cells #[x0, x1, x2, x3, x4, x5] 26)).alloc (.cells #[y0, y1, y2, y3, y4, y5] 26)) := by
 have hb := ((blk_alloc w #[x0, x1, x2, x3, x4, x5] 26).alloc (.cells #[y0, y1, y2, y3, y4, y5] 26))
 have hb' := blk_alloc (w.alloc (.cells #[x0, x1, x2, x3, x4, x5] 26)) #[y0, y1, y2, y3, y4, y5] 26
 rw [World.size_alloc] at hb'
 exact ⟨(((Below.refl _ w).alloc (Nat.le_refl _) _).alloc (by simp) _), by simp, hb.cell 0 _ rfl, hb.cell 1 _ rfl, hb.cell 2 _ rfl, hb.cell 3 _ rfl, hb.cell 4 _ rfl, hb.cell 5 _ rfl, hb'.cell 0 _ rfl, hb'.cell 1 _ rfl, hb'.cell 2 _ rfl, hb'.cell 3 _ rfl, hb'.cell 4 _ rfl, hb'.cell 5 _ rfl⟩
/-- The statements' 'same'. -/
theorem sameM_any (f : Nat) (w : World) (t u : V) (a0 a1 a2 a3 a4 a5 b0 b1 b2 b3 b4 b5 : Value) (hl : LiesV (fun b => b < w.heap.size) f w [a0, a1, a2, a3, a4, a5] t) (hl' : LiesV (fun b => b < w.heap.size) f w [b0, b1, b2, b3, b4, b5] u) (hn : nodesV f t ≤ 3000000) (r : Bool) (hr : r = decide (cmpV f t u = .eq)) :
  Calls Tryz.prog 13 #[.agg #[a0, a1, a2, a3, a4, a5], .agg #[b0, b1, b2, b3, b4, b5]] w fun e w' => e = .returned (.bool r) ∧ Below w.heap.size w w' := by
 obtain ⟨k, n, b, s, pL, nL, cL, pV, nV, cV, rfl, rfl, rfl, rfl, rfl, rfl⟩ := hl.form
 obtain ⟨k', n', b', s', qL, mL, dL, qV, mV, dV, rfl, rfl, rfl, rfl, rfl, rfl⟩ := hl'.form
 have hH := two_boxesM w (.int .i64 k) (.int .i64 n) (.int .u64 (b : Int)) (.string s) (.slice pL nL cL) (.slice pV nV cV) (.int .i64 k') (.int .i64 n') (.int .u64 (b' : Int)) (.string s') (.slice qL mL dL) (.slice qV mV dV)
 have hb := hH.bel
 have K := hide (callsIn_wide.1 (compare_any f _ t u _ _ _ _ _ _ _ _ _ _ _ _ (hl.kept (fun b h => Nat.lt_of_lt_of_le h hb.size) hb.size (fun b h _ => hb.block b h)) (hl'.kept (fun b h => Nat.lt_of_lt_of_le h hb.size) hb.size (fun b h _ => hb.block b h)) hn))
 obtain ⟨_, _, s0, s1, s2, s3, s4, s5, s6, s7, s8, s9, s10, s11⟩ := hH
 have HB := hide hb
 have hz : ∀ z, z = ordI (cmpV f t u) → (z == 0) = r := fun z h => by
  rw [hr, h]
  cases cmpV f t u <;> rfl
 have hz' := hz _ rfl
 have HR := hide hr
 clear hl hl' hb hz hr
 generalize ordI (cmpV f t u) = z at *
 go_enter Tryz.func13, Tryz.ntmps13
 go_wp2_with (go_at_call 21; refine (unhide K).mono ?_; rintro e w3 ⟨rfl, b3⟩)
 go_ret
 refine ⟨?_, HB.out.trans (b3.mono HB.out.size)⟩
 first | rw [hz'] | (rw [← hz']; rfl)
end Go.Proofs.YtnbfnjhbmeocfabGreatDoor.valus
