/- Of our texts, what this claim reaches. -/
import Derived.Test.YtadaehaemmelfaaDoorPabAY
import Derived.Test.YtadaehaemmelfaaDoorPabAX
set_option linter.unusedVariables false
set_option maxHeartbeats 16000000
set_option maxRecDepth 100000
namespace Go.Proofs.YtadaehaemmelfaaDoor.paths
open Go.RowKit Go.Shelf
open utfs (hide unhide)
open valus (V opn opnE ent mkV parts sumOf nodesV LiesV RowIn Blk blk_alloc Turns)
attribute [local go_sem] Oper.semAt_some
def OfC (f : Nat) : Prop := ∀ (w : World) (t : V) (a0 a1 a2 a3 a4 a5 : Value), LiesV (fun q => q < w.heap.size) f w [a0, a1, a2, a3, a4, a5] t → nodesV f t ≤ 1000 →
 Calls Tryd.prog 11 #[.agg #[a0, a1, a2, a3, a4, a5]] w fun e w' => ∃ q c, e = .returned (.slice q (allV f t).length c) ∧ (allV f t).length ≤ c ∧ LiesPN w' w.heap.size q (allV f t) ∧ Below w.heap.size w w'
theorem under_any (f : Nat) (ih : OfC f) (w : World) (D R : Nat) (X : Nat → Prop) (v : Value) (P : List (List St)) (hS : OS w D R X v P) (hD : D ≤ w.heap.size) (x : SK) (hx : x.1.size ≤ 9223372036854775807 ∧ -9223372036854775808 ≤ x.2 ∧ x.2 ≤ 9223372036854775807) (y : V) (a0 a1 a2 a3 a4 a5 : Value) (hl : LiesV (fun q => q < w.heap.size) f w [a0, a1, a2, a3, a4, a5] y) (hP : P.length + nodesV f y ≤ 1000) (hf : ∀ p ∈ allV f y, p.length ≤ 1000) :
  Calls Tryd.prog 32 #[.agg #[.string x.1, .int .i64 x.2], .agg #[a0, a1, a2, a3, a4, a5], .pointer (some ⟨R, 0, none⟩)] w fun e w' => (∃ u, e = .returned u) ∧ ∃ (X' : Nat → Prop) (v' : Value), OS w' D R X' v' (P ++ (allV f y).map (fun p => stL x :: p)) ∧ Turns X w w' ∧ ∀ b, X' b → X b ∨ w.heap.size ≤ b := by
 obtain ⟨k, n, b, s, pL, nL, cL, pE, nE, cE, rfl, rfl, rfl, rfl, rfl, rfl⟩ := hl.form
 obtain ⟨key, I⟩ := x
 obtain ⟨w1, hw1⟩ : ∃ w1, w1 = w.alloc (.cells #[.string key, .int .i64 I] 60) := ⟨_, rfl⟩
 obtain ⟨w2, hw2⟩ : ∃ w2, w2 = w1.alloc (.cells #[.int .i64 k, .int .i64 n, .int .u64 (b : Int), .string s, .slice pL nL cL, .slice pE nE cE] 26) := ⟨_, rfl⟩
 have s1 : w1.heap.size = w.heap.size + 1 := by rw [hw1]; simp
 have s2 : w2.heap.size = w1.heap.size + 1 := by rw [hw2]; simp
 have b1 : Below w.heap.size w w1 := by rw [hw1]; exact (Below.refl _ w).alloc (Nat.le_refl _) _
 have b2 : Below w1.heap.size w1 w2 := by rw [hw2]; exact (Below.refl _ w1).alloc (Nat.le_refl _) _
 have b12 : Below w.heap.size w w2 := b1.trans (b2.mono (by omega))
 have x1 : Blk w1 w.heap.size #[.string key, .int .i64 I] 60 := by rw [hw1]; exact blk_alloc _ _ _
 have x2 : Blk w2 w.heap.size #[.string key, .int .i64 I] 60 := x1.below b2
 have v2 : Blk w2 w1.heap.size #[.int .i64 k, .int .i64 n, .int .u64 (b : Int), .string s, .slice pL nL cL, .slice pE nE cE] 26 := by rw [hw2]; exact blk_alloc _ _ _
 have KP := hide (ih w2 y _ _ _ _ _ _ (hl.kept (fun q h => Nat.lt_of_lt_of_le h b12.size) b12.size (fun q h _ => b12.block q h)) (by omega))
 have c0 := v2.cell 0 _ rfl
 have c1 := v2.cell 1 _ rfl
 have c2 := v2.cell 2 _ rfl
 have c3 := v2.cell 3 _ rfl
 have c4 := v2.cell 4 _ rfl
 have c5 := v2.cell 5 _ rfl
 have H1 := hide hw1
 have H2 := hide hw2
 rw [hw2, hw1] at c0 c1 c2 c3 c4 c5
 rw [World.size_alloc] at c0 c1 c2 c3 c4 c5
 clear hw1 hw2 hl v2
 refine (callsIn_wide (n := 9)).1 ?_
 refine callsIn_of_wp Tryd.func32 rfl trivial ?_ rfl
 simp only [Tryd.ntmps32, List.size_toArray, List.length_cons, List.length_nil, Nat.reduceAdd, Nat.reduceSub, Array.replicate_succ, Array.replicate_zero, List.push_toArray, List.append_toArray, List.nil_append, List.cons_append]
 gi_wp2
 rw [← H1.out, ← H2.out]
 refine ⟨trivial, (callsIn_wide.2 (unhide KP)).mono ?_⟩
 rintro e w3 ⟨q, c, rfl, hc, hPN, b3⟩
 have hlen := allV_len f y
 have t03 : Turns (fun _ => False) w w3 := by
  have b13 := b12.trans (b3.mono b12.size)
  exact ⟨b13.os, b13.tape, b13.output, b13.size, fun q hq _ => b13.block q hq⟩
 have hS3 := hS.turn t03 (fun _ _ h => h)
 have x3 : Blk w3 w.heap.size #[.string key, .int .i64 I] 60 := x2.below b3
 have hX : ∀ b, X b → b < w.heap.size := fun b h => (hS.xx b h).2
 have z3 := b3.size
 generalize hN : (allV f y).length = N at *
 have HN := hide hN
 have HPN := hide hPN
 clear c0 c1 c2 c3 c4 c5 KP H1 H2 x1 x2 b1 b2 b12 hPN hN
 gi_wp2
 gi_loopw [10] (fun i wr => ∃ j : Nat, j ≤ N ∧ i = .int .i64 j ∧ ∃ (X' : Nat → Prop) (v' : Value), Hid (OS wr D R X' v' (P ++ ((allV f y).take j).map (fun p => stL (key, I) :: p)) ∧ (∀ b, X' b → X b ∨ w3.heap.size ≤ b) ∧ Turns (fun b => X b ∨ w3.heap.size ≤ b) w3 wr)) (fun i _ => N - (intOf i).toNat)
 case atStart => exact ⟨0, Nat.zero_le _, rfl, X, v, hide ⟨by rw [List.take_zero, List.map_nil, List.append_nil]; exact hS3, fun b h => .inl h, Turns.refl _ _⟩⟩
 case round =>
  obtain ⟨j, hj, rfl, X', v', HR⟩ := hrel
  by_cases hjN : j < N
  ·obtain ⟨hSr, hxr, htr⟩ := HR.out
   have hjl : j < (allV f y).length := by rw [HN.out]; exact hjN
   have hPr := HPN.out.turn htr (fun b h1 h2 h => h.elim (fun h => by have := hX b h; omega) (fun h => by omega))
   obtain ⟨B, rfl, hDB, hB, hcell⟩ := hPr (by omega)
   obtain ⟨a, na, e0, e1, e2, e3, e4, e5⟩ := hcell j _ (List.getElem?_eq_getElem hjl)
   have hpl := hf _ (List.getElem_mem hjl)
   have htk : (allV f y).take (j + 1) = (allV f y).take j ++ [(allV f y)[j]] := List.take_succ_eq_append_getElem hjl
   have HTK := hide htk
   obtain ⟨⟨qv, cv, rfl⟩, f0, f1⟩ := hSr.cells
   have hSd := hSr.turn (Turns.drew (fun _ => False) wr) (fun _ _ h => h)
   have hpd : LiesP wr.drew a (allV f y)[j] := e5
   obtain ⟨q4, c4, X4, K, r4, hK, hok, hown, hb4⟩ := cons_run wr.drew (key, I) hx a na _ hpd e3 (by omega) 27
   have hKl : K.length = (allV f y)[j].length + 1 := by have := congrArg List.length hK; rw [List.length_map, List.length_cons] at this; exact this
   have hll : (P ++ ((allV f y).take j).map (fun p => stL (key, I) :: p)).length ≤ 1000 := by rw [List.length_append, List.length_map, List.length_take]; omega
   obtain ⟨q6, n6, X6, r6, g0, g1, X'', hS6, ht6, hx6⟩ := hSd.tell (by have := htr.size; show D ≤ wr.heap.size; omega) (by omega) hok (by omega) hown hb4 34
   have hxb : Blk wr w.heap.size #[.string key, .int .i64 I] 60 := blk_turn x3 htr (fun h => h.elim (fun h => by have := hX _ h; omega) (fun h => by have := x3.lt; omega))
   have hxd : Blk wr.drew w.heap.size #[.string key, .int .i64 I] 60 := hxb
   have sa0 := hSd.blk.cell 0 _ rfl
   have sb0 := (hSd.blk.alloc (.cells #[.string key, .int .i64 I] 60)).cell 0 _ rfl
   have bx4 : Blk X4 R #[.slice qv (P ++ ((allV f y).take j).map (fun p => stL (key, I) :: p)).length cv] 34 := Blk.below hSd.blk hb4
   have sc0 := bx4.cell 0 _ rfl
   have sd0 := (bx4.alloc (.cells #[.slice q4 ((allV f y)[j].length + 1) c4] 27)).cell 0 _ rfl
   have u0 := hxd.cell 0 _ rfl
   have u1 := hxd.cell 1 _ rfl
   have u2 := (hxd.alloc (.cells #[.string key, .int .i64 I] 60)).cell 0 _ rfl
   have HF := hide (And.intro hxr (And.intro htr (And.intro hS6 (And.intro ht6 hx6))))
   have HK := hide hK
   have HR4 := hide r4
   have HR6 := hide r6
   clear HR hSr hxr htr hPr hcell hSd hpd hown hb4 hS6 ht6 hx6 hxb hxd bx4 hK r4 r6 e5 htk f0 f1
   generalize hPL : (P ++ ((allV f y).take j).map (fun p => stL (key, I) :: p)).length = PL at *
   generalize hpj : (allV f y)[j].length = pj at *
   gi_wp2
   refine wpIn_region_any (by kernel_rfl) ?_
   refine ofR4 (R := R) (Bs := w.heap.size) (W := wr.drew) (X := X4) (Y := X6) rfl rfl rfl rfl rfl rfl rfl rfl (by kernel_rfl) (by kernel_rfl) (by kernel_rfl) (by kernel_rfl) (by kernel_rfl) (by kernel_rfl) (by kernel_rfl) (by kernel_rfl) (by kernel_rfl) (by kernel_rfl) (by kernel_rfl) (by kernel_rfl) (by kernel_rfl) (by kernel_rfl) (by kernel_rfl) (by kernel_rfl) (by kernel_rfl) (by kernel_rfl) sa0 sb0 sc0 sd0 g0 g1 u0 u1 u2 HR4.out HR6.out ?_
   gi_wp2
   go_roundw
   case rel =>
    obtain ⟨hxr, htr, hS6, ht6, hx6⟩ := HF.out
    have e9 : [(allV f y)[j]].map (fun p => stL (key, I) :: p) = [K.map stL] := by rw [HK.out]; rfl
    rw [List.append_assoc, ← e9, ← List.map_append, ← HTK.out] at hS6
    refine ⟨j + 1, by omega, by go_num, X'', _, hide ⟨hS6, fun b h => ?_, ?_⟩⟩
    ·rcases hx6 b h with h | h
     ·exact hxr b h
     ·have := htr.size; exact .inr (Nat.le_trans this h)
    ·exact htr.trans ((Turns.drew X' wr).trans ht6 (fun _ _ h => h)) (fun b hb h => hxr b h)
   case measure => simp only [intOf]; omega
  ·have hjn : j = N := by omega
   obtain ⟨hSr, hxr, htr⟩ := HR.out
   have HF := hide (And.intro hSr (And.intro hxr htr))
   clear HR hSr hxr htr
   gi_wp2
   go_end0
   obtain ⟨hSr, hxr, htr⟩ := HF.out
   rw [hjn, ← HN.out, List.take_length] at hSr
   exact ⟨⟨_, rfl⟩, X', v', hSr, t03.mono (fun _ _ h => h.elim) |>.trans htr (fun b hb h => h.elim id (fun h => by have := t03.size; omega)), fun b h => (hxr b h).imp id (fun h => by have := t03.size; omega)⟩
end Go.Proofs.YtadaehaemmelfaaDoor.paths
namespace Go.Proofs.YtadaehaemmelfaaDoor.paths
open Go.RowKit Go.Shelf
open utfs (hide unhide)
open valus (V opn opnE ent mkV parts sumOf nodesV LiesV RowIn Blk blk_alloc Turns)
attribute [local go_sem] Oper.semAt_some
theorem path_short : ∀ (f : Nat) (t : V), ∀ p ∈ allV f t, p.length + 1 ≤ nodesV f t
 | 0, t, p, h => absurd h List.not_mem_nil
 | f + 1, t, p, h => by
  rw [allV_kids] at h
  rcases List.mem_cons.1 h with rfl | h
  ·have := told_len f [] t 0
   rw [List.length_nil]
   omega
  ·obtain ⟨k, hk, hm⟩ := List.mem_flatMap.1 h
   obtain ⟨q, hq, rfl⟩ := List.mem_map.1 hm
   obtain ⟨n, hn, e⟩ := List.getElem_of_mem hk
   have h1 := kid_nodes (f := f) (H := []) (t := t) (n := n) (k := k) (by rw [List.getElem?_eq_getElem hn, e])
   have h2 := path_short f k.2 q hq
   rw [List.length_cons]
   omega
theorem six_of {us : List Value} {ok : Nat → Prop} {f : Nat} {w : World} {y : V} (h : LiesV ok f w us y) : ∃ x0 x1 x2 x3 x4 x5, us = [x0, x1, x2, x3, x4, x5] := by
 have := h.len
 match us, this with
 | [x0, x1, x2, x3, x4, x5], _ => exact ⟨x0, x1, x2, x3, x4, x5, rfl⟩
theorem of_all : ∀ f, OfC f
 | 0 => fun w t a0 a1 a2 a3 a4 a5 h _ => h.elim
 | f + 1 => by
  intro w t a0 a1 a2 a3 a4 a5 hl hn
  have ih := hide (of_all f)
  obtain ⟨k, n, b, s, L, E, pL, pE, cL, cE, ht, hus, hrk, hcl, hrL, hrE⟩ := hl
  simp only [List.cons.injEq, and_true] at hus
  obtain ⟨rfl, rfl, rfl, rfl, rfl, rfl⟩ := hus
  obtain ⟨hcl1, hcl2, hcl3, hcl4⟩ := hcl
  have hml : maxLen ≤ 9223372036854775807 := by unfold maxLen; decide
  obtain ⟨ks, hks, hkl, hkid⟩ := kids_lie ht (by omega) hrL hrE
  have fL : L.length ≠ 0 → ∃ b q, pL = some ⟨b, q, none⟩ := fun h => by obtain ⟨b, q, e, _⟩ := hrL h; exact ⟨b, q, e⟩
  have fE : E.length ≠ 0 → ∃ b q, pE = some ⟨b, q, none⟩ := fun h => by obtain ⟨b, q, e, _⟩ := hrE h; exact ⟨b, q, e⟩
  obtain ⟨w4, hw4⟩ : ∃ w4, w4 = ((w.alloc (.cells #[.int .i64 k, .int .i64 n, .int .u64 (b : Int), .string s, .slice pL L.length cL, .slice pE E.length cE] 26)).alloc (.cells #[.slice none 0 0] 27)).alloc (.cells #[.slice (some ⟨w.heap.size + 1, 0, none⟩) 1 1] 34) := ⟨_, rfl⟩
  have s4 : w4.heap.size = w.heap.size + 3 := by rw [hw4]; simp
  have b4 : Below w.heap.size w w4 := by rw [hw4]; exact (((Below.refl _ w).alloc (Nat.le_refl _) _).alloc (by simp) _).alloc (by simp; omega) _
  have v4 : Blk w4 w.heap.size #[.int .i64 k, .int .i64 n, .int .u64 (b : Int), .string s, .slice pL L.length cL, .slice pE E.length cE] 26 := by rw [hw4]; exact ((blk_alloc w _ _).alloc _).alloc _
  have g4 : Blk w4 (w.heap.size + 1) #[.slice none 0 0] 27 := by
   rw [hw4]
   have := blk_alloc (w.alloc (.cells #[.int .i64 k, .int .i64 n, .int .u64 (b : Int), .string s, .slice pL L.length cL, .slice pE E.length cE] 26)) #[.slice none 0 0] 27
   rw [World.size_alloc] at this
   exact this.alloc _
  have r4 : Blk w4 (w.heap.size + 2) #[.slice (some ⟨w.heap.size + 1, 0, none⟩) 1 1] 34 := by
   rw [hw4]
   have := blk_alloc ((w.alloc (.cells #[.int .i64 k, .int .i64 n, .int .u64 (b : Int), .string s, .slice pL L.length cL, .slice pE E.length cE] 26)).alloc (.cells #[.slice none 0 0] 27)) #[.slice (some ⟨w.heap.size + 1, 0, none⟩) 1 1] 34
   rw [World.size_alloc, World.size_alloc] at this
   exact this
  have hO : OS w4 (w.heap.size + 1) (w.heap.size + 2) (fun q => q = w.heap.size + 1 ∨ q = w.heap.size + 2) (.slice (some ⟨w.heap.size + 1, 0, none⟩) 1 1) [[]] := by
   refine ⟨r4, ⟨[.slice none 0 0], ⟨rfl, .inr ⟨w.heap.size + 1, 1, #[.slice none 0 0], rfl, Nat.le_refl _, g4, Nat.le_refl _, by decide, rfl, rfl⟩⟩, fun u hu => by rw [List.mem_singleton.1 hu]; rfl, fun i c hi => ?_⟩, .inr rfl, fun g hg => ?_, fun q hq => ?_⟩
   ·cases i with
    | zero =>
     injection hi with hi
     subst hi
     exact ⟨[], rfl, none, 0, rfl, Nat.le_refl _, Nat.zero_le _, fun _ => ⟨rfl, rfl⟩, fun h => absurd rfl h, fun h => absurd rfl h⟩
    | succ i => cases i <;> cases hi
   ·replace hg : some (w.heap.size + 1) = some g := hg
    injection hg with hg
    exact ⟨.inl hg.symm, by omega⟩
   ·rcases hq with hq | hq
    ·rw [hq]; omega
    ·rw [hq]; omega
  have hH := hide hw4
  have HV := hide v4
  have hv4 := v4.cell 4 _ rfl
  have hv5 := v4.cell 5 _ rfl
  have hx4 := hv4
  have HKID := hide hkid
  have HKS := hide hks
  have B4 := hide b4
  have HO := hide hO
  have HT := hide ht
  clear hw4 v4 g4 r4 hO b4 hrL hrE hkid hks hx4 ht
  rw [show w.heap.size + 2 = w.heap.size + 1 + 1 from rfl] at HO
  refine (callsIn_wide (n := 9)).1 ?_
  refine callsIn_of_wp Tryd.func11 rfl trivial ?_ rfl
  simp only [Tryd.ntmps11, List.size_toArray, List.length_cons, List.length_nil, Nat.reduceAdd, Nat.reduceSub, Array.replicate_succ, Array.replicate_zero, List.push_toArray, List.append_toArray, List.nil_append, List.cons_append]
  gi_wp2
  rw [← hH.out]
  gi_loopw [14] (fun i wr => ∃ j : Nat, j ≤ L.length ∧ i = .int .i64 j ∧ ∃ (X' : Nat → Prop) (v' : Value), Hid (OS wr (w.heap.size + 1) (w.heap.size + 1 + 1) X' v' ([] :: told f [] ((kidsP t).take j)) ∧ Below (w.heap.size + 1) w4 wr)) (fun i _ => L.length - (intOf i).toNat)
  case atStart => exact ⟨0, Nat.zero_le _, rfl, _, _, hide ⟨by rw [List.take_zero]; exact HO.out, Below.refl _ _⟩⟩
  case round =>
   obtain ⟨j, hj, rfl, X', v', HR⟩ := hrel
   by_cases hjL : j < L.length
   ·obtain ⟨bL, oL, hpL⟩ := fL (by omega)
    subst hpL
    obtain ⟨hSr, hbr⟩ := HR.out
    have hget : (kidsE (some ⟨bL, oL, none⟩) L.length ++ kidsT ks pE E.length)[j]? = some (kidE (some ⟨bL, oL, none⟩) j) := kid_first _ _ hjL
    obtain ⟨y, us, hk1, hly, hok, hlt, hcell, hsk⟩ := HKID.out j _ hget
    obtain ⟨x0, x1, x2, x3, x4, x5, rfl⟩ := six_of hly
    have bwr : Below w.heap.size w wr := B4.out.trans (hbr.mono (by omega))
    replace hlt : bL < w.heap.size := hlt
    have c0 : wr.cell? ⟨bL, oL + j * 6, none⟩ = some x0 := (bwr.cell (p := ⟨bL, oL + j * 6, none⟩) hlt).trans (hcell 0 (by omega))
    have c1 : wr.cell? ⟨bL, oL + j * 6 + 1, none⟩ = some x1 := (bwr.cell (p := ⟨bL, oL + j * 6 + 1, none⟩) hlt).trans (hcell 1 (by omega))
    have c2 : wr.cell? ⟨bL, oL + j * 6 + 2, none⟩ = some x2 := (bwr.cell (p := ⟨bL, oL + j * 6 + 2, none⟩) hlt).trans (hcell 2 (by omega))
    have c3 : wr.cell? ⟨bL, oL + j * 6 + 3, none⟩ = some x3 := (bwr.cell (p := ⟨bL, oL + j * 6 + 3, none⟩) hlt).trans (hcell 3 (by omega))
    have c4 : wr.cell? ⟨bL, oL + j * 6 + 4, none⟩ = some x4 := (bwr.cell (p := ⟨bL, oL + j * 6 + 4, none⟩) hlt).trans (hcell 4 (by omega))
    have c5 : wr.cell? ⟨bL, oL + j * 6 + 5, none⟩ = some x5 := (bwr.cell (p := ⟨bL, oL + j * 6 + 5, none⟩) hlt).trans (hcell 5 (by omega))
    have hkn : (told f [] ((kidsP t).take j)).length + nodesV f y + 1 ≤ nodesV (f + 1) t := kid_nodes (f := f) (H := []) hk1
    have HNX := hide (told_next (f := f) (H := []) hk1)
    obtain ⟨fk, fn, fb, fs, fpL, fnL, fcL, fpE, fnE, fcE, rfl, rfl, rfl, rfl, rfl, rfl⟩ := hly.form
    obtain ⟨w5, hw5⟩ : ∃ w5, w5 = wr.alloc (.cells #[.int .i64 fk, .int .i64 fn, .int .u64 (fb : Int), .string fs, .slice fpL fnL fcL, .slice fpE fnE fcE] 26) := ⟨_, rfl⟩
    have t5 : Turns (fun _ => False) wr w5 := by rw [hw5]; exact Turns.alloc _ _ _
    have s5 : w5.heap.size = wr.heap.size + 1 := by rw [hw5]; simp
    have b5 : Below w.heap.size w w5 := bwr.trans (t5.below (n := w.heap.size) bwr.size (fun _ h => h.elim))
    have hS5 := hSr.turn t5 (fun _ _ h => h)
    have hdm := hSr.xx _ hSr.xr
    have KU := under_any f ih.out w5 _ _ X' v' _ hS5 (by omega) (⟨#[]⟩, (j : Int)) hsk y _ _ _ _ _ _ (hly.kept (fun q h => Nat.lt_of_lt_of_le h b5.size) b5.size (fun q h _ => b5.block q h)) (by rw [List.length_cons]; omega) (fun p hp => by have := path_short f y p hp; omega)
    have x5 : Blk w5 wr.heap.size #[.int .i64 fk, .int .i64 fn, .int .u64 (fb : Int), .string fs, .slice fpL fnL fcL, .slice fpE fnE fcE] 26 := by rw [hw5]; exact blk_alloc _ _ _
    have HKU := hide KU
    have HW5 := hide hw5
    have HBR := hide (And.intro hbr (And.intro t5 (And.intro hSr s5)))
    have i1 : (j : Int) < (L.length : Int) := by omega
    clear KU hw5 hSr hbr hget hly hcell bwr t5 b5 hS5 x5 hk1 HR
    gi_wp2
    rw [← HW5.out]
    refine ⟨trivial, (callsIn_wide.2 (unhide HKU)).mono ?_⟩
    rintro e w6 ⟨⟨u, rfl⟩, X6, v6, hS6, ht6, hx6⟩
    obtain ⟨hbr, t5, hSr, s5'⟩ := HBR.out
    have HREL : Hid (OS w6 (w.heap.size + 1) (w.heap.size + 1 + 1) X6 v6 ([] :: told f [] ((kidsP t).take (j + 1))) ∧ Below (w.heap.size + 1) w4 w6) := hide ⟨by
     rw [HNX.out, ← List.cons_append]
     exact hS6, hbr.trans ((t5.below (n := w.heap.size + 1) (by omega) (fun _ h => h.elim)).trans (ht6.below (n := w.heap.size + 1) (by omega) (fun q hq => (hSr.xx q hq).1)))⟩
    clear hbr t5 hSr s5' hS6 ht6 hx6 HKU HBR c0 c1 c2 c3 c4 c5
    gi_wp2
    go_roundw
    case rel => exact ⟨j + 1, by omega, by go_num, X6, v6, HREL⟩
    case measure => simp only [intOf]; omega
   ·obtain rfl : j = L.length := by omega
    obtain ⟨hSr, hbr⟩ := HR.out
    have hv5' := (hbr.cell (p := ⟨w.heap.size, 5, none⟩) (by simp only; omega)).trans hv5
    clear hSr hbr
    gi_wp2
    have HR2 := hide (And.intro (unhide HR).1 (unhide HR).2)
    gi_loopw [28] (fun i ws => ∃ j : Nat, j ≤ E.length ∧ i = .int .i64 j ∧ ∃ (X' : Nat → Prop) (v' : Value), Hid (OS ws (w.heap.size + 1) (w.heap.size + 1 + 1) X' v' ([] :: told f [] ((kidsP t).take (L.length + j))) ∧ Below (w.heap.size + 1) w4 ws)) (fun i _ => E.length - (intOf i).toNat)
    case atStart => exact ⟨0, Nat.zero_le _, rfl, X', v', HR2⟩
    case round =>
     clear HR HR2
     obtain ⟨j, hj, rfl, X', v', HR⟩ := hrel
     by_cases hjE : j < E.length
     ·obtain ⟨bE, oE, hpE⟩ := fE (by omega)
      subst hpE
      obtain ⟨hSr, hbr⟩ := HR.out
      have hget : (kidsE pL L.length ++ kidsT ks (some ⟨bE, oE, none⟩) E.length)[L.length + j]? = some (kidT ks (some ⟨bE, oE, none⟩) j) := kid_next _ _ _ _ hjE
      obtain ⟨y, us, hk1, hly, hok, hlt, hcell, hsk⟩ := HKID.out _ _ hget
      obtain ⟨_, _, cK⟩ := HKS.out j hjE bE oE rfl
      obtain ⟨x0, x1, x2, x3, x4, x5, rfl⟩ := six_of hly
      have bwr : Below w.heap.size w wr := B4.out.trans (hbr.mono (by omega))
      replace hlt : bE < w.heap.size := hlt
      have ck : wr.cell? ⟨bE, oE + j * 7, none⟩ = some (.string (ks.getD j ⟨#[]⟩)) := (bwr.cell (p := ⟨bE, oE + j * 7, none⟩) hlt).trans cK
      have c0 : wr.cell? ⟨bE, oE + j * 7 + 1, none⟩ = some x0 := (bwr.cell (p := ⟨bE, oE + j * 7 + 1, none⟩) hlt).trans (hcell 0 (by omega))
      have c1 : wr.cell? ⟨bE, oE + j * 7 + 2, none⟩ = some x1 := (bwr.cell (p := ⟨bE, oE + j * 7 + 2, none⟩) hlt).trans (hcell 1 (by omega))
      have c2 : wr.cell? ⟨bE, oE + j * 7 + 3, none⟩ = some x2 := (bwr.cell (p := ⟨bE, oE + j * 7 + 3, none⟩) hlt).trans (hcell 2 (by omega))
      have c3 : wr.cell? ⟨bE, oE + j * 7 + 4, none⟩ = some x3 := (bwr.cell (p := ⟨bE, oE + j * 7 + 4, none⟩) hlt).trans (hcell 3 (by omega))
      have c4 : wr.cell? ⟨bE, oE + j * 7 + 5, none⟩ = some x4 := (bwr.cell (p := ⟨bE, oE + j * 7 + 5, none⟩) hlt).trans (hcell 4 (by omega))
      have c5 : wr.cell? ⟨bE, oE + j * 7 + 6, none⟩ = some x5 := (bwr.cell (p := ⟨bE, oE + j * 7 + 6, none⟩) hlt).trans (hcell 5 (by omega))
      have hkn : (told f [] ((kidsP t).take (L.length + j))).length + nodesV f y + 1 ≤ nodesV (f + 1) t := kid_nodes (f := f) (H := []) hk1
      have HNX := hide (told_next (f := f) (H := []) hk1)
      obtain ⟨fk, fn, fb, fs, fpL, fnL, fcL, fpE, fnE, fcE, rfl, rfl, rfl, rfl, rfl, rfl⟩ := hly.form
      simp only [kidT] at hsk HNX
      generalize ks.getD j ⟨#[]⟩ = key at *
      obtain ⟨w5, hw5⟩ : ∃ w5, w5 = wr.alloc (.cells #[.string key, .int .i64 fk, .int .i64 fn, .int .u64 (fb : Int), .string fs, .slice fpL fnL fcL, .slice fpE fnE fcE] 57) := ⟨_, rfl⟩
      have t5 : Turns (fun _ => False) wr w5 := by rw [hw5]; exact Turns.alloc _ _ _
      have s5 : w5.heap.size = wr.heap.size + 1 := by rw [hw5]; simp
      have b5 : Below w.heap.size w w5 := bwr.trans (t5.below (n := w.heap.size) bwr.size (fun _ h => h.elim))
      have hS5 := hSr.turn t5 (fun _ _ h => h)
      have hdm := hSr.xx _ hSr.xr
      have KU := under_any f ih.out w5 _ _ X' v' _ hS5 (by omega) (key, -1) hsk y _ _ _ _ _ _ (hly.kept (fun q h => Nat.lt_of_lt_of_le h b5.size) b5.size (fun q h _ => b5.block q h)) (by rw [List.length_cons]; omega) (fun p hp => by have := path_short f y p hp; omega)
      have x5' : Blk w5 wr.heap.size #[.string key, .int .i64 fk, .int .i64 fn, .int .u64 (fb : Int), .string fs, .slice fpL fnL fcL, .slice fpE fnE fcE] 57 := by rw [hw5]; exact blk_alloc _ _ _
      have e0 := x5'.cell 0 _ rfl
      have e1 := x5'.cell 1 _ rfl
      have e2 := x5'.cell 2 _ rfl
      have e3 := x5'.cell 3 _ rfl
      have e4 := x5'.cell 4 _ rfl
      have e5 := x5'.cell 5 _ rfl
      have e6 := x5'.cell 6 _ rfl
      have HKU := hide KU
      have HW5 := hide hw5
      rw [hw5] at e0 e1 e2 e3 e4 e5 e6
      have HBR := hide (And.intro hbr (And.intro t5 (And.intro hSr s5)))
      have i1 : (j : Int) < (E.length : Int) := by omega
      clear KU hw5 hSr hbr hget hly hcell bwr t5 b5 hS5 x5' hk1 HR cK
      gi_wp2
      rw [← HW5.out]
      refine ⟨trivial, (callsIn_wide.2 (unhide HKU)).mono ?_⟩
      rintro e w6 ⟨⟨u, rfl⟩, X6, v6, hS6, ht6, hx6⟩
      obtain ⟨hbr, t5, hSr, s5'⟩ := HBR.out
      have HREL : Hid (OS w6 (w.heap.size + 1) (w.heap.size + 1 + 1) X6 v6 ([] :: told f [] ((kidsP t).take (L.length + (j + 1)))) ∧ Below (w.heap.size + 1) w4 w6) := hide ⟨by
       rw [← Nat.add_assoc, HNX.out, ← List.cons_append]
       exact hS6, hbr.trans ((t5.below (n := w.heap.size + 1) (by omega) (fun _ h => h.elim)).trans (ht6.below (n := w.heap.size + 1) (by omega) (fun q hq => (hSr.xx q hq).1)))⟩
      clear hbr t5 hSr s5' hS6 ht6 hx6 HKU HBR c0 c1 c2 c3 c4 c5 ck e0 e1 e2 e3 e4 e5 e6
      gi_wp2
      go_roundw
      case rel => exact ⟨j + 1, by omega, by go_num, X6, v6, HREL⟩
      case measure => simp only [intOf]; omega
     ·obtain rfl : j = E.length := by omega
      have hall : (kidsP t).take (L.length + E.length) = kidsP t := by rw [← hkl, List.take_length]
      have hta := told_all f [] t
      have hid : (allV (f + 1) t).map (fun p => [] ++ p) = allV (f + 1) t := List.map_id' _
      rw [hid] at hta
      obtain ⟨hSr, hbr⟩ := HR.out
      rw [hall, ← hta] at hSr
      have hlen : (told f [] ((kidsP t).take (L.length + E.length))).length + 1 = (allV (f + 1) t).length := by rw [hall, hta]; rfl
      obtain ⟨⟨qv, cv, rfl⟩, f0, f1⟩ := hSr.cells
      obtain ⟨_, ho1, ho2⟩ := hSr.out
      have HF := hide (And.intro ho1 (And.intro ho2 (B4.out.trans (hbr.mono (by omega)))))
      clear hSr hbr HR ho1 ho2 hta hid
      gi_wp2
      go_ret
      obtain ⟨ho1, ho2, hb⟩ := HF.out
      refine ⟨_, _, rfl, ho1, fun hz => ?_, hb⟩
      obtain ⟨B, e, hD, hB, hc⟩ := ho2 hz
      exact ⟨B, e, by omega, hB, fun i p hp => by
       obtain ⟨a, n, k1, k2, k3, k4, k5, k6⟩ := hc i p hp
       exact ⟨a, n, k1, k2, k3, k4, fun z b o e => by have := k5 z b o e; omega, k6⟩⟩
end Go.Proofs.YtadaehaemmelfaaDoor.paths
