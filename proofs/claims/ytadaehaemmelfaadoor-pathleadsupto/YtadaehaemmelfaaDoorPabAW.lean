/- Of our texts, what this claim reaches. -/
import Derived.Test.YtadaehaemmelfaaDoorPabAV
import Derived.Test.YtadaehaemmelfaaDoorPabAR
import Derived.Test.YtadaehaemmelfaaDoorPabAP
import Derived.Test.YtadaehaemmelfaaDoorPabAF
set_option linter.unusedVariables false
namespace Go.Proofs.YtadaehaemmelfaaDoor.paths
open Go.RowKit
open utfs (hide unhide)
open valus (V opn opnE ent mkV parts sumOf nodesV LiesV RowIn)
def elemP : Nat → List V → List (St × V)
 | _, [] => []
 | i, y :: l => ((([], (i : Int)) : St), y) :: elemP (i + 1) l
def entsP (l : List V) : List (St × V) := l.map (fun e => ((((opnE e).1, -1) : St), (opnE e).2))
def kidsP (t : V) : List (St × V) := elemP 0 (opn t).2.1 ++ entsP (opn t).2.2
theorem underL_kids (g : V → List (List St)) : ∀ (l : List V) (i : Nat), underL g i l = (elemP i l).flatMap (fun k => (g k.2).map (fun p => k.1 :: p))
 | [], _ => rfl
 | y :: l, i => by
  show (g y).map _ ++ underL g (i + 1) l = _
  rw [underL_kids g l (i + 1)]
  rfl
theorem underE_kids (g : V → List (List St)) : ∀ (l : List V), underE g l = (entsP l).flatMap (fun k => (g k.2).map (fun p => k.1 :: p))
 | [] => rfl
 | e :: l => by
  show (g (opnE e).2).map _ ++ underE g l = _
  rw [underE_kids g l]
  rfl
theorem allV_kids (f : Nat) (t : V) : allV (f + 1) t = [] :: (kidsP t).flatMap (fun k => (allV f k.2).map (fun p => k.1 :: p)) := by
 show [] :: (underL (allV f) 0 (opn t).2.1 ++ underE (allV f) (opn t).2.2) = _
 rw [underL_kids, underE_kids]
 unfold kidsP
 rw [List.flatMap_append]
theorem elemP_get : ∀ (l : List V) (i j : Nat) (y : V), l[j]? = some y → (elemP i l)[j]? = some ((([], ((i + j : Nat) : Int)) : St), y)
 | [], _, _, _, h => by cases h
 | x :: l, i, 0, y, h => by injection h with h; subst h; rfl
 | x :: l, i, j + 1, y, h => by
  have := elemP_get l (i + 1) j y h
  rw [show i + 1 + j = i + (j + 1) from by omega] at this
  exact this
theorem elemP_len : ∀ (l : List V) (i : Nat), (elemP i l).length = l.length
 | [], _ => rfl
 | x :: l, i => by show (elemP (i + 1) l).length + 1 = _; rw [elemP_len l]; rfl
def told (f : Nat) (H : List St) (l : List (St × V)) : List (List St) := l.flatMap (fun k => (allV f k.2).map (fun p => H ++ k.1 :: p))
theorem told_app (f : Nat) (H : List St) (l m : List (St × V)) : told f H (l ++ m) = told f H l ++ told f H m := List.flatMap_append
theorem told_one (f : Nat) (H : List St) (k : St × V) : told f H [k] = (allV f k.2).map (fun p => (H ++ [k.1]) ++ p) := by
 unfold told
 rw [List.flatMap_cons, List.flatMap_nil, List.append_nil]
 congr 1
 funext p
 rw [List.append_assoc]
 rfl
theorem told_all (f : Nat) (H : List St) (t : V) : (allV (f + 1) t).map (fun p => H ++ p) = H :: told f H (kidsP t) := by
 rw [allV_kids, List.map_cons, List.append_nil]
 congr 1
 unfold told
 rw [List.map_flatMap]
 congr 1
 funext k
 rw [List.map_map]
 rfl
theorem told_len (f : Nat) (H : List St) (t : V) (n : Nat) : (told f H ((kidsP t).take n)).length + 1 ≤ nodesV (f + 1) t := by
 have h1 := congrArg List.length (told_all f H t)
 rw [List.length_map, allV_len, List.length_cons] at h1
 have h2 : (told f H (kidsP t)).length = (told f H ((kidsP t).take n)).length + (told f H ((kidsP t).drop n)).length := by
  rw [← List.length_append, ← told_app, List.take_append_drop]
 omega
theorem told_next {f : Nat} {H : List St} {t : V} {n : Nat} {k : St × V} (h : (kidsP t)[n]? = some k) : told f H ((kidsP t).take (n + 1)) = told f H ((kidsP t).take n) ++ (allV f k.2).map (fun p => (H ++ [k.1]) ++ p) := by
 obtain ⟨hn, e⟩ := List.getElem?_eq_some_iff.1 h
 rw [List.take_succ_eq_append_getElem hn, told_app, e, told_one]
theorem kid_nodes {f : Nat} {H : List St} {t : V} {n : Nat} {k : St × V} (h : (kidsP t)[n]? = some k) : (told f H ((kidsP t).take n)).length + nodesV f k.2 + 1 ≤ nodesV (f + 1) t := by
 have h1 := told_len f H t (n + 1)
 rw [told_next h, List.length_append, List.length_map, allV_len] at h1
 omega
theorem kids_lie {ok : Nat → Prop} {f : Nat} {w : World} {t : V} {k n : Int} {b : Nat} {s : ByteArray} {L E : List V} {pL pE : Option Addr} (ht : t = mkV (k, n, b, s.data.toList) L E) (h60 : L.length ≤ 9223372036854775807)
  (hL : RowIn ok w pL 6 L.length (fun j us => ∃ y, L[j]? = some y ∧ LiesV ok f w us y))
  (hE : RowIn ok w pE 7 E.length (fun j us => ∃ (key : ByteArray) (y : V) (xs : List Value), E[j]? = some (ent key.data.toList y) ∧ us = .string key :: xs ∧ key.size ≤ maxLen ∧ LiesV ok f w xs y)) :
  ∃ ks : List ByteArray, (∀ i, i < E.length → ∀ B q, pE = some ⟨B, q, none⟩ → ok B ∧ B < w.heap.size ∧ w.cell? ⟨B, q + i * 7, none⟩ = some (.string (ks.getD i ⟨#[]⟩))) ∧ (kidsP t).length = L.length + E.length ∧
   ∀ (j : Nat) (x : Kid), (kidsE pL L.length ++ kidsT ks pE E.length)[j]? = some x → ∃ (y : V) (vs : List Value), (kidsP t)[j]? = some (stL x.1, y) ∧ LiesV ok f w vs y ∧ ok x.2.1 ∧ x.2.1 < w.heap.size ∧ (∀ i, i < 6 → w.cell? ⟨x.2.1, x.2.2 + i, none⟩ = vs[i]?) ∧ (x.1.1.size ≤ 9223372036854775807 ∧ -9223372036854775808 ≤ x.1.2 ∧ x.1.2 ≤ 9223372036854775807) := by
 obtain ⟨ks, hk, hq⟩ := valus.pick (Q := fun j (key : ByteArray) => ∃ (y : V) (xs : List Value) (B o : Nat), pE = some ⟨B, o, none⟩ ∧ ok B ∧ B < w.heap.size ∧ E[j]? = some (ent key.data.toList y) ∧ key.size ≤ maxLen ∧ LiesV ok f w xs y ∧ w.cell? ⟨B, o + j * 7, none⟩ = some (.string key) ∧ ∀ i, i < 6 → w.cell? ⟨B, o + j * 7 + 1 + i, none⟩ = xs[i]?) E.length (fun j hj => by
  obtain ⟨B, o, hp, hok, hlt, hr⟩ := hE (by omega)
  obtain ⟨us, u1, u2, key, y, xs, a1, a2, a3, a4⟩ := hr j hj
  subst a2
  refine ⟨key, y, xs, B, o, hp, hok, hlt, a1, a3, a4, ?_, fun i hi => ?_⟩
  ·have := u2 0 (by omega)
   exact this
  ·have := u2 (i + 1) (by omega)
   rw [show o + j * 7 + (i + 1) = o + j * 7 + 1 + i from by omega] at this
   exact this)
 have eo : opn t = ((k, n, b, s.data.toList), L, E) := by rw [ht]; exact valus.opn_mk _ _ _
 have hkp : (kidsP t).length = L.length + E.length := by
  unfold kidsP entsP
  rw [eo, List.length_append, elemP_len, List.length_map]
 refine ⟨ks, fun i hi B q hp => ?_, hkp, fun j x hx => ?_⟩
 ·have hgi : ks[i]? = some (ks[i]'(by omega)) := List.getElem?_eq_getElem (by omega)
  obtain ⟨y, xs, B', o', hp', hok, hlt, a1, a2, a3, a4, a5⟩ := hq i _ hgi
  rw [hp] at hp'
  injection hp' with hp'
  injection hp' with h1 h2
  subst h1 h2
  rw [List.getD_eq_getElem?_getD, hgi]
  exact ⟨hok, hlt, a4⟩
 ·by_cases hj : j < L.length
  ·rw [List.getElem?_append_left (by rw [kidsE_len]; exact hj)] at hx
   have hxe : x = kidE pL j := by
    unfold kidsE at hx
    rw [List.getElem?_map, List.getElem?_range hj] at hx
    injection hx with hx
    exact hx.symm
   obtain ⟨B, o, hp, hok, hlt, hr⟩ := hL (by omega)
   obtain ⟨us, u1, u2, y, a1, a2⟩ := hr j hj
   subst hxe hp
   refine ⟨y, us, ?_, a2, hok, hlt, fun i hi => u2 i hi, by show (0 : Nat) ≤ _; omega, by show (-9223372036854775808 : Int) ≤ (j : Int); omega, by show (j : Int) ≤ _; omega⟩
   unfold kidsP
   rw [eo]
   show (elemP 0 L ++ entsP E)[j]? = _
   rw [List.getElem?_append_left (by rw [elemP_len]; exact hj), elemP_get L 0 j y a1, Nat.zero_add]
   rfl
  ·rw [List.getElem?_append_right (by rw [kidsE_len]; omega), kidsE_len] at hx
   have hje : j - L.length < E.length := by
    have := (List.getElem?_eq_some_iff.1 hx).1
    rwa [kidsT_len] at this
   have hxe : x = kidT ks pE (j - L.length) := by
    unfold kidsT at hx
    rw [List.getElem?_map, List.getElem?_range hje] at hx
    injection hx with hx
    exact hx.symm
   have hgi : ks[j - L.length]? = some (ks[j - L.length]'(by omega)) := List.getElem?_eq_getElem (by omega)
   obtain ⟨y, xs, B, o, hp, hok, hlt, a1, a2, a3, a4, a5⟩ := hq (j - L.length) _ hgi
   have hgd : ks.getD (j - L.length) ⟨#[]⟩ = ks[j - L.length]'(by omega) := by rw [List.getD_eq_getElem?_getD, hgi]; rfl
   generalize ks[j - L.length]'(by omega) = key at *
   have hx1 : x = ((key, -1), (B, o + (j - L.length) * 7 + 1)) := by
    rw [hxe]
    unfold kidT
    rw [hgd, hp]
    rfl
   subst hx1
   refine ⟨y, xs, ?_, a3, hok, hlt, fun i hi => a5 i hi, by show key.size ≤ _; unfold maxLen at a2; omega, by show (-9223372036854775808 : Int) ≤ -1; decide, by show (-1 : Int) ≤ _; decide⟩
   unfold kidsP
   rw [eo]
   show (elemP 0 L ++ entsP E)[j]? = _
   rw [List.getElem?_append_right (by rw [elemP_len]; omega), elemP_len]
   unfold entsP
   rw [List.getElem?_map, a1]
   show some ((((opnE (ent key.data.toList y)).1, -1) : St), (opnE (ent key.data.toList y)).2) = _
   rw [valus.opnE_ent]
   rfl
end Go.Proofs.YtadaehaemmelfaaDoor.paths
namespace Go.Proofs.YtadaehaemmelfaaDoor.paths
open Go.RowKit
open utfs (hide unhide)
open valus (Blk blk_alloc Turns)
theorem infoSteps : (Tryd.prog.info? 27).map (fun i => (i.zero, i.size, i.bytes)) = some (some (.slice none 0 0), 1, 24) := by kernel_rfl
def PathIn (w : World) (R : Nat) (vp vh : Value) (X : Nat → Prop) (c : Value) (p : List St) : Prop :=
 ∃ q n, c = .slice q p.length n ∧ p.length ≤ n ∧ n ≤ maxLen ∧ (p.length ≠ 0 → ∃ B o, q = some ⟨B, o, none⟩ ∧ X B ∧ B ≠ R ∧ vp.ownBlock ≠ some B ∧ vh.ownBlock ≠ some B) ∧ LiesP w q p
structure WS (w : World) (D R : Nat) (X : Nat → Prop) (vp vh : Value) (P : List (List St)) (K : List SK) : Prop where
 blk : Blk w R #[vp, vh] 65
 rows : ∃ cs : List Value, w.ownsRow D 27 1 vp P.length cs ∧ (∀ u ∈ cs, u.oneCell' = true) ∧ ∀ (i : Nat) (c : Value), cs[i]? = some c → ∃ p, P[i]? = some p ∧ PathIn w R vp vh X c p
 here : w.ownsRow D 60 2 vh K.length (K.flatMap stC)
 ok : SkOk K
 xr : X R
 xp : ∀ g, vp.ownBlock = some g → X g ∧ g ≠ R
 xh : ∀ g, vh.ownBlock = some g → X g ∧ g ≠ R ∧ vp.ownBlock ≠ some g
 xx : ∀ b, X b → D ≤ b ∧ b < w.heap.size ∧ ∃ o : Obj, w.heap[b]? = some o ∧ o.isCells = true
theorem liesP_turn {M : Nat → Prop} {w w' : World} {q : Option Addr} {p : List St} (h : LiesP w q p) (ht : Turns M w w') (hm : p.length ≠ 0 → ∀ B o, q = some ⟨B, o, none⟩ → ¬ M B) : LiesP w' q p := by
 intro hp
 obtain ⟨B, o, e, hB, hc⟩ := h hp
 refine ⟨B, o, e, Nat.lt_of_lt_of_le hB ht.size, fun j x hx => ?_⟩
 obtain ⟨key, k1, k2, k3, k4, k5⟩ := hc j x hx
 have hb := ht.block B hB (hm hp B o e)
 exact ⟨key, k1, k2, k3, (World.cell?_of_block hb).trans k4, (World.cell?_of_block hb).trans k5⟩
theorem own_turns {M : Nat → Prop} {w w' : World} {base e d n : Nat} {v : Value} {xs : List Value} (h : w.ownsRow base e d v n xs) (ht : Turns M w w') (hm : ∀ g, v.ownBlock = some g → ¬ M g) : w'.ownsRow base e d v n xs := by
 refine ⟨h.1, ?_⟩
 rcases h.2 with k | ⟨g, cap, cur, hv, hb, hg, r⟩
 ·exact .inl k
 ·have hlt : g < w.heap.size := (Array.getElem?_eq_some_iff.1 hg).1
  exact .inr ⟨g, cap, cur, hv, hb, (ht.block g hlt (hm g (by rw [hv]; rfl))).trans hg, r⟩
theorem WS.turn {w w' : World} {D R : Nat} {X M : Nat → Prop} {vp vh : Value} {P : List (List St)} {K : List SK} (h : WS w D R X vp vh P K) (ht : Turns M w w') (hm : ∀ b, X b → ¬ M b) : WS w' D R X vp vh P K := by
 obtain ⟨cs, h1, h2, h3⟩ := h.rows
 refine ⟨(ht.block R h.blk.lt (hm R h.xr)).trans h.blk, ⟨cs, own_turns h1 ht (fun g hg => hm g (h.xp g hg).1), h2, fun i c hi => ?_⟩, own_turns h.here ht (fun g hg => hm g (h.xh g hg).1), h.ok, h.xr, h.xp, h.xh, fun b hb => ?_⟩
 ·obtain ⟨p, hp, q, n, e1, e2, e3, e4, e5⟩ := h3 i c hi
  refine ⟨p, hp, q, n, e1, e2, e3, e4, liesP_turn e5 ht (fun hz B o e => ?_)⟩
  obtain ⟨B', o', e', hx, _⟩ := e4 hz
  rw [e] at e'
  injection e' with e'
  injection e' with e' _
  subst e'
  exact hm _ hx
 ·obtain ⟨k1, k2, o, k3, k4⟩ := h.xx b hb
  exact ⟨k1, Nat.lt_of_lt_of_le k2 ht.size, o, (ht.block b k2 (hm b hb)).trans k3, k4⟩
theorem WS.cells {w : World} {D R : Nat} {X : Nat → Prop} {vp vh : Value} {P : List (List St)} {K : List SK} (h : WS w D R X vp vh P K) : (∃ q c, vp = .slice q P.length c) ∧ (∃ q c, vh = .slice q K.length c) ∧ w.cell? ⟨R, 0, none⟩ = some vp ∧ w.cell? ⟨R, 1, none⟩ = some vh ∧ w.frozen? ⟨R, 0, none⟩ = false ∧ w.frozen? ⟨R, 1, none⟩ = false := by
 obtain ⟨cs, h1, h2, h3⟩ := h.rows
 refine ⟨?_, ?_, h.blk.cell 0 _ rfl, h.blk.cell 1 _ rfl, h.blk.froz 0, h.blk.froz 1⟩
 ·rcases h1.2 with ⟨e, e0⟩ | ⟨g, cap, cur, e, _⟩
  ·rw [e0]; exact ⟨_, _, e⟩
  ·exact ⟨_, _, e⟩
 ·rcases h.here.2 with ⟨e, e0⟩ | ⟨g, cap, cur, e, _⟩
  ·rw [e0]; exact ⟨_, _, e⟩
  ·exact ⟨_, _, e⟩
theorem blk_turn {M : Nat → Prop} {w w' : World} {b : Nat} {cs : Array Value} {t : Nat} (h : Blk w b cs t) (ht : Turns M w w') (hm : ¬ M b) : Blk w' b cs t := (ht.block b h.lt hm).trans h
theorem cells_turn {M : Nat → Prop} {w w' : World} {b : Nat} (ht : Turns M w w') (hb : b < w.heap.size) (h : ∃ o : Obj, w.heap[b]? = some o ∧ o.isCells = true) (hm : ¬ M b) : ∃ o : Obj, w'.heap[b]? = some o ∧ o.isCells = true := by
 obtain ⟨o, h1, h2⟩ := h
 exact ⟨o, (ht.block b hb hm).trans h1, h2⟩
theorem own_cells {w : World} {base e d n : Nat} {v : Value} {xs : List Value} (h : w.ownsRow base e d v n xs) {g : Nat} (hg : v.ownBlock = some g) : base ≤ g ∧ g < w.heap.size ∧ ∃ o : Obj, w.heap[g]? = some o ∧ o.isCells = true := by
 obtain ⟨h1, h2⟩ := World.ownsRow.lt h g hg
 refine ⟨h1, h2, ?_⟩
 rcases h.2 with ⟨e, _⟩ | ⟨g', cap, cur, e, _, hb, _⟩
 ·rw [e] at hg; cases hg
 ·rw [e] at hg
  injection hg with hg
  subst hg
  exact ⟨_, hb, rfl⟩
theorem own_slice {w : World} {base e d n : Nat} {v : Value} {xs : List Value} (h : w.ownsRow base e d v n xs) : ∃ q c, v = .slice q n c := by
 rcases h.2 with ⟨e, e0⟩ | ⟨g, cap, cur, e, _⟩
 ·rw [e0]; exact ⟨_, _, e⟩
 ·exact ⟨_, _, e⟩
theorem cells_set {w : World} {b R j : Nat} {v : Value} (h : ∃ o : Obj, w.heap[b]? = some o ∧ o.isCells = true) (hne : b ≠ R) : ∃ o : Obj, (w.setCell ⟨R, j, none⟩ v).heap[b]? = some o ∧ o.isCells = true := by
 obtain ⟨o, h1, h2⟩ := h
 exact ⟨o, (Below.heap_setCell _ _ _ _ (fun e => hne e)).trans h1, h2⟩
theorem WS.tell {w wc : World} {D R : Nat} {X : Nat → Prop} {vp vh c : Value} {P : List (List St)} {K : List SK} (h : WS w D R X vp vh P K) (hD : D ≤ w.heap.size) (hl : P.length ≤ 100000) (hc : wc.ownsRow w.heap.size 60 2 c K.length (K.flatMap stC)) (hb : Below w.heap.size w wc) (ty : TypeId) :
  ∃ q n W', (Builtin.append_ #[34, 34] ty #[vp, .slice (some ⟨wc.heap.size, 0, none⟩) 1 1]).run Tryd.prog (wc.alloc (.cells #[c] 27)) = .ok (.slice q (P.length + 1) n) W' ∧ W'.cell? ⟨R, 0, none⟩ = some vp ∧ W'.frozen? ⟨R, 0, none⟩ = false ∧
   ∃ X' : Nat → Prop, WS (W'.setCell ⟨R, 0, none⟩ (.slice q (P.length + 1) n)) D R X' (.slice q (P.length + 1) n) vh (P ++ [K.map stL]) K ∧ Turns X w (W'.setCell ⟨R, 0, none⟩ (.slice q (P.length + 1) n)) ∧ ∀ b, X' b → X b ∨ w.heap.size ≤ b := by
 obtain ⟨i0, hi, hz0, hz1, hz2⟩ := info_parts infoSteps
 obtain ⟨cs, h1, h2, h3⟩ := h.rows
 have hbu : Below w.heap.size w (wc.alloc (.cells #[c] 27)) := hb.alloc hb.size _
 have tu : Turns (fun _ => False) w (wc.alloc (.cells #[c] 27)) := ⟨hbu.os, hbu.tape, hbu.output, hbu.size, fun b hb' _ => hbu.block b hb'⟩
 have hu := h.turn tu (fun _ _ h => h)
 have hou : (wc.alloc (.cells #[c] 27)).ownsRow D 27 1 vp P.length cs := own_turns h1 tu (fun _ _ h => h)
 obtain ⟨qc, nc, hcf⟩ := own_slice hc
 have hc1 : c.oneCell' = true := by rw [hcf]; rfl
 have hsu : (wc.alloc (.cells #[c] 27)).heap.size = wc.heap.size + 1 := by simp
 obtain ⟨v', W', hrun, hown, hgrow, _, hat⟩ := run_append_own_at (P := Tryd.prog) _ D 34 ty 27 i0 _ 1 24 Tryd.underlying34 hi hz0 hz1 hz2 rfl (by decide) vp P.length cs hou ⟨wc.heap.size, 0, none⟩ 1 1 [c] rfl
  (fun j u hu => by
   have := World.news_of_block (blk_alloc wc #[c] 27) j u hu
   exact this) (fun u hu => by rw [List.mem_singleton.1 hu]; exact hc1) (by unfold maxLen; omega) (by omega) (by have := hb.size; omega)
 obtain ⟨q, n, rfl⟩ := own_slice hown
 have gb : ∀ b, b < wc.heap.size + 1 → vp.ownBlock ≠ some b → W'.heap[b]? = (wc.alloc (.cells #[c] 27)).heap[b]? := fun b hb' hn => hgrow.block b (by omega) (fun e => hn e.symm)
 have nR : vp.ownBlock ≠ some R := fun e => (h.xp R e).2 rfl
 have hRw : R < w.heap.size := (h.xx R h.xr).2.1
 have bR : Blk W' R #[vp, vh] 65 := (gb R (by have := hb.size; omega) nR).trans hu.blk
 have hat' : ∀ g, (Value.slice q (P.length + 1) n).ownBlock = some g → vp.ownBlock = some g ∨ g = wc.heap.size + 1 := fun g hg => by
  rcases hat with e | e
  ·exact .inl (e ▸ hg)
  ·rw [hg] at e
   injection e with e
   exact .inr (by omega)
 have gS : wc.heap.size + 1 ≤ W'.heap.size := by have := hgrow.size; omega
 have hbs := hb.size
 -- the clone's own block
 have cB : ∀ B, c.ownBlock = some B → w.heap.size ≤ B ∧ B < wc.heap.size := fun B e => World.ownsRow.lt hc B e
 obtain ⟨X', hX'⟩ : ∃ X' : Nat → Prop, X' = fun b => (X b ∧ vp.ownBlock ≠ some b) ∨ c.ownBlock = some b ∨ (Value.slice q (P.length + 1) n).ownBlock = some b := ⟨_, rfl⟩
 have tW : Turns (fun b => vp.ownBlock = some b) w W' := ⟨hgrow.os.trans hbu.os, hgrow.tape.trans hbu.tape, hgrow.output.trans hbu.output, by omega, fun b hb' hn => (gb b (by omega) hn).trans (hbu.block b hb')⟩
 have tF : Turns X w (W'.setCell ⟨R, 0, none⟩ (.slice q (P.length + 1) n)) := (tW.mono fun b _ e => (h.xp b e).1).trans (Turns.setCell (M := fun b => b = R) _ _ _ rfl) (fun b _ e => by rw [e]; exact h.xr)
 have ts : Turns (fun b => b = R) W' (W'.setCell ⟨R, 0, none⟩ (.slice q (P.length + 1) n)) := Turns.setCell _ _ _ rfl
 have nq : ∀ g, (Value.slice q (P.length + 1) n).ownBlock = some g → g ≠ R := fun g hg => by
  rcases hat' g hg with e | e
  ·exact (h.xp g e).2
  ·omega
 -- the clone stands
 have hcW : W'.ownsRow w.heap.size 60 2 c K.length (K.flatMap stC) := by
  have t1 : Turns (fun _ => False) wc (wc.alloc (.cells #[c] 27)) := Turns.alloc _ _ _
  have t2 : Turns (fun b => vp.ownBlock = some b) (wc.alloc (.cells #[c] 27)) W' := ⟨hgrow.os, hgrow.tape, hgrow.output, hgrow.size, fun b hb' hn => hgrow.block b hb' (fun e => hn e.symm)⟩
  refine own_turns (own_turns hc t1 (fun _ _ h => h)) t2 (fun g hg e => ?_)
  have := (h.xx g (h.xp g e).1).2.1
  have := (cB g hg).1
  omega
 have hcF : (W'.setCell ⟨R, 0, none⟩ (.slice q (P.length + 1) n)).ownsRow w.heap.size 60 2 c K.length (K.flatMap stC) := own_turns hcW ts (fun g hg e => by have := (cB g hg).1; omega)
 refine ⟨q, n, W', hrun, bR.cell 0 _ rfl, bR.froz 0, X', ⟨?_, ?_, ?_, h.ok, ?_, ?_, ?_, ?_⟩, tF, ?_⟩
 ·exact bR.set 0 _
 ·refine ⟨cs ++ [c], ?_, ?_, ?_⟩
  ·rw [List.length_append]
   exact own_turns hown ts (fun g hg e => nq g hg e)
  ·intro u hu
   rcases List.mem_append.1 hu with hu | hu
   ·exact h2 u hu
   ·rw [List.mem_singleton.1 hu]; exact hc1
  ·intro i c' hi'
   have hcl : cs.length = P.length := by have := h1.1; omega
   by_cases hlt : i < cs.length
   ·rw [List.getElem?_append_left hlt] at hi'
    obtain ⟨p, hp, q', n', e1, e2, e3, e4, e5⟩ := h3 i c' hi'
    refine ⟨p, by rw [List.getElem?_append_left (by omega)]; exact hp, q', n', e1, e2, e3, fun hz => ?_, ?_⟩
    ·obtain ⟨B, o, f1, f2, f3, f4, f5⟩ := e4 hz
     refine ⟨B, o, f1, by rw [hX']; exact .inl ⟨f2, f4⟩, f3, fun e => ?_, f5⟩
     rcases hat' B e with e | e
     ·exact f4 e
     ·have := (h.xx B f2).2.1; omega
    ·refine liesP_turn (liesP_turn e5 tW (fun hz B o e => ?_)) ts (fun hz B o e => ?_)
     ·obtain ⟨B', o', f1, f2, f3, f4, f5⟩ := e4 hz
      rw [e] at f1
      injection f1 with f1
      injection f1 with f1 _
      subst f1
      exact f4
     ·obtain ⟨B', o', f1, f2, f3, f4, f5⟩ := e4 hz
      rw [e] at f1
      injection f1 with f1
      injection f1 with f1 _
      subst f1
      exact f3
   ·have hi2 : i = cs.length := by
     have := (List.getElem?_eq_some_iff.1 hi').1
     rw [List.length_append, List.length_singleton] at this
     omega
    subst hi2
    rw [List.getElem?_append_right (Nat.le_refl _), Nat.sub_self] at hi'
    injection hi' with hi'
    subst hi'
    obtain ⟨p', c', f1, f2, f3, f4⟩ := liesP_own hcF h.ok
    refine ⟨K.map stL, by rw [hcl, List.getElem?_append_right (Nat.le_refl _), Nat.sub_self]; rfl, p', c', by rw [List.length_map]; exact f1, by rw [List.length_map]; exact f2, ?_, fun hz => ?_, f3⟩
    ·rcases hcF.2 with ⟨e, _⟩ | ⟨g, cap, cur, e, _, _, _, hm, _⟩
     ·rw [e] at f1; injection f1 with _ _ f1; rw [← f1]; exact Nat.zero_le _
     ·rw [e] at f1; injection f1 with _ _ f1; rw [← f1]; exact hm
    ·obtain ⟨B, o, e, hB, _⟩ := f3 hz
     have hcB : c.ownBlock = some B := by rw [f1, e]; rfl
     obtain ⟨k1, k2⟩ := cB B hcB
     refine ⟨B, o, e, by rw [hX']; exact .inr (.inl hcB), by omega, fun e' => ?_, fun e' => ?_⟩
     ·rcases hat' B e' with e' | e'
      ·have := (h.xx B (h.xp B e').1).2.1; omega
      ·omega
     ·have := (h.xx B (h.xh B e').1).2.1; omega
 ·exact own_turns (own_turns h.here tW (fun g hg e => (h.xh g hg).2.2 e)) ts (fun g hg e => (h.xh g hg).2.1 e)
 ·rw [hX']; exact .inl ⟨h.xr, nR⟩
 ·intro g hg
  exact ⟨by rw [hX']; exact .inr (.inr hg), nq g hg⟩
 ·intro g hg
  obtain ⟨a1, a2, a3⟩ := h.xh g hg
  refine ⟨by rw [hX']; exact .inl ⟨a1, a3⟩, a2, fun e => ?_⟩
  rcases hat' g e with e | e
  ·exact a3 e
  ·have := (h.xx g a1).2.1; omega
 ·intro b hb'
  rw [hX'] at hb'
  have sz : (W'.setCell ⟨R, 0, none⟩ (.slice q (P.length + 1) n)).heap.size = W'.heap.size := by simp [World.setCell]
  by_cases hbR : b = R
  ·subst hbR
   exact ⟨(h.xx b h.xr).1, by rw [sz]; omega, ⟨_, bR.set 0 _, rfl⟩⟩
  ·rcases hb' with ⟨hx, hv⟩ | hx | hx
   ·obtain ⟨a1, a2, a3⟩ := h.xx b hx
    exact ⟨a1, by rw [sz]; omega, cells_set (cells_turn tW a2 a3 hv) hbR⟩
   ·obtain ⟨k1, k2⟩ := cB b hx
    exact ⟨by omega, by rw [sz]; omega, cells_set (own_cells hcW hx).2.2 hbR⟩
   ·obtain ⟨a1, a2, a3⟩ := own_cells hown hx
    exact ⟨a1, by rw [sz]; exact a2, cells_set a3 hbR⟩
 ·intro b hb'
  rw [hX'] at hb'
  rcases hb' with ⟨hx, _⟩ | hx | hx
  ·exact .inl hx
  ·exact .inr (cB b hx).1
  ·rcases hat' b hx with e | e
   ·exact .inl (h.xp b e).1
   ·exact .inr (by omega)
end Go.Proofs.YtadaehaemmelfaaDoor.paths
namespace Go.Proofs.YtadaehaemmelfaaDoor.paths
open Go.RowKit
open utfs (hide unhide)
open valus (Blk blk_alloc Turns)
theorem WS.on {w : World} {D R : Nat} {X : Nat → Prop} {vp vh : Value} {P : List (List St)} {K : List SK} (h : WS w D R X vp vh P K) (hD : D ≤ w.heap.size) (x : SK) (hx : x.1.size ≤ 9223372036854775807 ∧ -9223372036854775808 ≤ x.2 ∧ x.2 ≤ 9223372036854775807) (hl : K.length ≤ 100000) (ty : TypeId) :
  ∃ q n W', (Builtin.append_ #[27, 27] ty #[vh, .slice (some ⟨w.heap.size, 0, none⟩) 1 1]).run Tryd.prog (w.alloc (.cells #[.string x.1, .int .i64 x.2] 60)) = .ok (.slice q (K.length + 1) n) W' ∧ W'.cell? ⟨R, 1, none⟩ = some vh ∧ W'.frozen? ⟨R, 1, none⟩ = false ∧
   ∃ X' : Nat → Prop, WS (W'.setCell ⟨R, 1, none⟩ (.slice q (K.length + 1) n)) D R X' vp (.slice q (K.length + 1) n) P (K ++ [x]) ∧ Turns X w (W'.setCell ⟨R, 1, none⟩ (.slice q (K.length + 1) n)) ∧ ∀ b, X' b → X b ∨ w.heap.size ≤ b := by
 obtain ⟨i0, hi, hz0, hz1, hz2⟩ := info_parts infoStep
 obtain ⟨cs, h1, h2, h3⟩ := h.rows
 obtain ⟨u, hu0⟩ : ∃ u, u = w.alloc (.cells #[.string x.1, .int .i64 x.2] 60) := ⟨_, rfl⟩
 have tu : Turns (fun _ => False) w u := by rw [hu0]; exact Turns.alloc _ _ _
 have hu := h.turn tu (fun _ _ h => h)
 have hsu : u.heap.size = w.heap.size + 1 := by rw [hu0]; simp
 obtain ⟨v', W', hrun, hown, hgrow, _, hat⟩ := run_append_own_at (P := Tryd.prog) u D 27 ty 60 i0 _ 2 24 Tryd.underlying27 hi hz0 hz1 hz2 rfl (by decide) vh K.length _ hu.here ⟨w.heap.size, 0, none⟩ 1 1 (stC x) rfl
  (fun j v hv => by rw [hu0]; exact cell_two_new w _ _ 60 j v hv) (fun v hv => by
   simp only [stC, List.mem_cons, List.not_mem_nil, or_false] at hv
   rcases hv with rfl | rfl <;> rfl) (by unfold maxLen; omega) (by omega) (by omega)
 obtain ⟨q, n, rfl⟩ := own_slice hown
 have gb : ∀ b, b < w.heap.size + 1 → vh.ownBlock ≠ some b → W'.heap[b]? = u.heap[b]? := fun b hb' hn => hgrow.block b (by omega) (fun e => hn e.symm)
 have nR : vh.ownBlock ≠ some R := fun e => (h.xh R e).2.1 rfl
 have hRw : R < w.heap.size := (h.xx R h.xr).2.1
 have bR : Blk W' R #[vp, vh] 65 := (gb R (by omega) nR).trans hu.blk
 have hat' : ∀ g, (Value.slice q (K.length + 1) n).ownBlock = some g → vh.ownBlock = some g ∨ g = w.heap.size + 1 := fun g hg => by
  rcases hat with e | e
  ·exact .inl (e ▸ hg)
  ·rw [hg] at e
   injection e with e
   exact .inr (by omega)
 have gS : w.heap.size + 1 ≤ W'.heap.size := by have := hgrow.size; omega
 obtain ⟨X', hX'⟩ : ∃ X' : Nat → Prop, X' = fun b => (X b ∧ vh.ownBlock ≠ some b) ∨ (Value.slice q (K.length + 1) n).ownBlock = some b := ⟨_, rfl⟩
 have tW : Turns (fun b => vh.ownBlock = some b) w W' := ⟨hgrow.os.trans tu.os, hgrow.tape.trans tu.tape, hgrow.output.trans tu.output, by omega, fun b hb' hn => (gb b (by omega) hn).trans (tu.block b hb' (fun h => h))⟩
 have tF : Turns X w (W'.setCell ⟨R, 1, none⟩ (.slice q (K.length + 1) n)) := (tW.mono fun b _ e => (h.xh b e).1).trans (Turns.setCell (M := fun b => b = R) _ _ _ rfl) (fun b _ e => by rw [e]; exact h.xr)
 have ts : Turns (fun b => b = R) W' (W'.setCell ⟨R, 1, none⟩ (.slice q (K.length + 1) n)) := Turns.setCell _ _ _ rfl
 have nq : ∀ g, (Value.slice q (K.length + 1) n).ownBlock = some g → g ≠ R := fun g hg => by
  rcases hat' g hg with e | e
  ·exact (h.xh g e).2.1
  ·omega
 rw [hu0] at hrun
 refine ⟨q, n, W', hrun, bR.cell 1 _ rfl, bR.froz 1, X', ⟨?_, ?_, ?_, ?_, ?_, ?_, ?_, ?_⟩, tF, ?_⟩
 ·exact bR.set 1 _
 ·refine ⟨cs, own_turns (own_turns h1 tW (fun g hg e => (h.xh g e).2.2 hg)) ts (fun g hg e => (h.xp g hg).2 e), h2, fun i c hi' => ?_⟩
  obtain ⟨p, hp, q', n', e1, e2, e3, e4, e5⟩ := h3 i c hi'
  refine ⟨p, hp, q', n', e1, e2, e3, fun hz => ?_, ?_⟩
  ·obtain ⟨B, o, f1, f2, f3, f4, f5⟩ := e4 hz
   refine ⟨B, o, f1, by rw [hX']; exact .inl ⟨f2, f5⟩, f3, f4, fun e => ?_⟩
   rcases hat' B e with e | e
   ·exact f5 e
   ·have := (h.xx B f2).2.1; omega
  ·refine liesP_turn (liesP_turn e5 tW (fun hz B o e => ?_)) ts (fun hz B o e => ?_)
   ·obtain ⟨B', o', f1, f2, f3, f4, f5⟩ := e4 hz
    rw [e] at f1
    injection f1 with f1
    injection f1 with f1 _
    subst f1
    exact f5
   ·obtain ⟨B', o', f1, f2, f3, f4, f5⟩ := e4 hz
    rw [e] at f1
    injection f1 with f1
    injection f1 with f1 _
    subst f1
    exact f3
 ·rw [List.length_append, List.flatMap_append, List.flatMap_cons, List.flatMap_nil, List.append_nil]
  exact own_turns hown ts (fun g hg e => nq g hg e)
 ·intro y hy
  rcases List.mem_append.1 hy with hy | hy
  ·exact h.ok y hy
  ·rw [List.mem_singleton.1 hy]; exact hx
 ·rw [hX']; exact .inl ⟨h.xr, nR⟩
 ·intro g hg
  obtain ⟨a1, a2⟩ := h.xp g hg
  exact ⟨by rw [hX']; exact .inl ⟨a1, fun e => (h.xh g e).2.2 hg⟩, a2⟩
 ·intro g hg
  refine ⟨by rw [hX']; exact .inr hg, nq g hg, fun e => ?_⟩
  rcases hat' g hg with e' | e'
  ·exact (h.xh g e').2.2 e
  ·have := (h.xx g (h.xp g e).1).2.1; omega
 ·intro b hb'
  rw [hX'] at hb'
  have sz : (W'.setCell ⟨R, 1, none⟩ (.slice q (K.length + 1) n)).heap.size = W'.heap.size := by simp [World.setCell]
  by_cases hbR : b = R
  ·subst hbR
   exact ⟨(h.xx b h.xr).1, by rw [sz]; omega, ⟨_, bR.set 1 _, rfl⟩⟩
  ·rcases hb' with ⟨hx', hv⟩ | hx'
   ·obtain ⟨a1, a2, a3⟩ := h.xx b hx'
    exact ⟨a1, by rw [sz]; omega, cells_set (cells_turn tW a2 a3 hv) hbR⟩
   ·obtain ⟨a1, a2, a3⟩ := own_cells hown hx'
    exact ⟨a1, by rw [sz]; exact a2, cells_set a3 hbR⟩
 ·intro b hb'
  rw [hX'] at hb'
  rcases hb' with ⟨hx', _⟩ | hx'
  ·exact .inl hx'
  ·rcases hat' b hx' with e | e
   ·exact .inl (h.xh b e).1
   ·exact .inr (by omega)
theorem own_less {w : World} {base e d m : Nat} {q : Option Addr} {n c : Nat} {xs ys : List Value} (h : w.ownsRow base e d (.slice q n c) n (xs ++ ys)) (hm : m ≤ n) (hx : xs.length = m * d) (hq : n ≠ 0) : w.ownsRow base e d (.slice q m c) m xs := by
 refine ⟨hx, ?_⟩
 rcases h.2 with ⟨_, h0⟩ | ⟨g, cap, cur, hv, hb, hg, hc, hm2, hs, ht⟩
 ·exact absurd h0 hq
 ·injection hv with h1 h2 h3
  subst h1 h3
  refine .inr ⟨g, c, cur, rfl, hb, hg, by omega, hm2, hs, ?_⟩
  have e1 := congrArg (List.take (m * d)) ht
  rw [List.take_take, Nat.min_eq_left (Nat.mul_le_mul_right d hm), ← hx, List.take_left] at e1
  rw [← hx]
  exact e1
theorem WS.back {w : World} {D R : Nat} {X : Nat → Prop} {vp : Value} {q : Option Addr} {n c : Nat} {P : List (List St)} {K : List SK} {x : SK} (h : WS w D R X vp (.slice q n c) P (K ++ [x])) :
  n = K.length + 1 ∧ n ≤ c ∧ c ≤ maxLen ∧ WS (w.setCell ⟨R, 1, none⟩ (.slice q K.length c)) D R X vp (.slice q K.length c) P K ∧ Turns X w (w.setCell ⟨R, 1, none⟩ (.slice q K.length c)) := by
 have hn : n = K.length + 1 := by
  obtain ⟨_, _, e⟩ := own_slice h.here
  injection e with _ e
  rw [e, List.length_append, List.length_singleton]
 have ts : Turns (fun b => b = R) w (w.setCell ⟨R, 1, none⟩ (.slice q K.length c)) := Turns.setCell _ _ _ rfl
 have hh := h.here
 rw [List.length_append, List.length_singleton, List.flatMap_append, ← hn] at hh
 have hcc : n ≤ c ∧ c ≤ maxLen := by
  rcases hh.2 with ⟨_, h0⟩ | ⟨g, cap, cur, hv, hb, hg, hc, hm2, _⟩
  ·omega
  ·injection hv with _ _ h3
   omega
 have hs := own_less (m := K.length) hh (by omega) (st_flat_len K) (by omega)
 have hob : (Value.slice q K.length c).ownBlock = (Value.slice q n c).ownBlock := by cases q <;> rfl
 obtain ⟨cs, h1, h2, h3⟩ := h.rows
 refine ⟨hn, hcc.1, hcc.2, ⟨h.blk.set 1 _, ⟨cs, own_turns h1 ts (fun g hg e => (h.xp g hg).2 e), h2, fun i c' hi' => ?_⟩, own_turns hs ts (fun g hg e => (h.xh g (hob ▸ hg)).2.1 e), fun y hy => h.ok y (List.mem_append_left _ hy), h.xr, h.xp, fun g hg => h.xh g (hob ▸ hg), fun b hb => ?_⟩, ts.mono fun b _ e => by rw [e]; exact h.xr⟩
 ·obtain ⟨p, hp, q', n', e1, e2, e3, e4, e5⟩ := h3 i c' hi'
  refine ⟨p, hp, q', n', e1, e2, e3, fun hz => ?_, liesP_turn e5 ts (fun hz B o e => ?_)⟩
  ·obtain ⟨B, o, f1, f2, f3, f4, f5⟩ := e4 hz
   exact ⟨B, o, f1, f2, f3, f4, fun e => f5 (hob ▸ e)⟩
  ·obtain ⟨B', o', f1, f2, f3, f4, f5⟩ := e4 hz
   rw [e] at f1
   injection f1 with f1
   injection f1 with f1 _
   subst f1
   exact f3
 ·obtain ⟨a1, a2, a3⟩ := h.xx b hb
  refine ⟨a1, by simp only [World.setCell]; simpa using a2, ?_⟩
  by_cases hbR : b = R
  ·subst hbR
   exact ⟨_, h.blk.set 1 _, rfl⟩
  ·exact cells_set a3 hbR
end Go.Proofs.YtadaehaemmelfaaDoor.paths
