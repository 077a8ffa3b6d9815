/- Of our texts, what this claim reaches. -/
import Derived.Test.YtadaehaemmelfaaDoorPaaAZ
import Derived.Test.YtadaehaemmelfaaDoorPaaBB
set_option linter.unusedVariables false
set_option maxHeartbeats 8000000
set_option maxRecDepth 100000
namespace Go.Proofs.YtadaehaemmelfaaDoor.paths
open Go.RowKit Go.Shelf
open utfs (hide unhide)
open valus (V opn opnE ent mkV parts sumOf nodesV LiesV RowIn Blk blk_alloc Turns Abide Abides2 wpIn_range_ks)
attribute [local go_sem] Oper.semAt_some
def VisC (f : Nat) : Prop := ∀ (w : World) (D R : Nat) (X : Nat → Prop) (vp vh : Value) (P : List (List St)) (K : List SK) (B o : Nat) (vs : List Value) (t : V),
 WS w D R X vp vh P K → D ≤ w.heap.size → LiesV (fun b => b < D) f w vs t → B < D → (∀ i, i < 6 → w.cell? ⟨B, o + i, none⟩ = vs[i]?) → P.length + nodesV f t ≤ 999 → K.length + nodesV f t ≤ 1000 →
 Calls Tryd.prog 31 #[.pointer (some ⟨R, 0, none⟩), .pointer (some ⟨B, o, none⟩)] w fun e w' => (∃ v, e = .returned v) ∧ ∃ (X' : Nat → Prop) (vp' vh' : Value), WS w' D R X' vp' vh' (P ++ (allV f t).map (fun p => K.map stL ++ p)) K ∧ Turns X w w' ∧ ∀ b, X' b → X b ∨ w.heap.size ≤ b
theorem partsF_any (w : World) (B o : Nat) : Calls Tryd.prog 48 #[.pointer (some ⟨B, o, none⟩)] w fun e w' => e = .returned (.func (.func 66) #[] #[.pointer (some ⟨w.heap.size, 0, none⟩)]) ∧ w' = w.alloc (.cells #[.pointer (some ⟨B, o, none⟩)] 58) := by
 go_enter Tryd.func48, Tryd.ntmps48
 go_wp2
 go_ret
 exact ⟨rfl, rfl⟩
theorem visit_all : ∀ f, VisC f
 | 0 => fun w D R X vp vh P K B o vs t _ _ hl _ _ _ _ => hl.elim
 | f + 1 => by
  intro w D R X vp vh P K B o vs t hS hD hl hB hvs hP hK
  have ih := hide (visit_all f)
  obtain ⟨k, n, b, s, L, E, pL, pE, cL, cE, ht, rfl, hrk, hcl, hrL, hrE⟩ := hl
  obtain ⟨⟨qp, np, rfl⟩, ⟨qh, nh, rfl⟩, c0, c1, f0, f1⟩ := hS.cells
  have v4 : w.cell? ⟨B, o + 4, none⟩ = some (.slice pL L.length cL) := hvs 4 (by omega)
  have v5 : w.cell? ⟨B, o + 5, none⟩ = some (.slice pE E.length cE) := hvs 5 (by omega)
  have hRw := (hS.xx R hS.xr).2.1
  refine (callsIn_wide (n := 9)).1 ?_
  refine callsIn_of_wp_marks Tryd.func31 rfl trivial ?_ rfl
  simp only [Tryd.ntmps31, List.size_toArray, List.length_cons, List.length_nil, Nat.reduceAdd, Nat.reduceSub, Array.replicate_succ, Array.replicate_zero, List.push_toArray, List.append_toArray, List.nil_append, List.cons_append]
  have hR1 : Hid (∃ W, W = (w.alloc (.cells #[.pointer (some ⟨R, 0, none⟩)] 86)).drew) := hide ⟨_, rfl⟩
  obtain ⟨W, hW⟩ := hR1.out
  have sW : W.heap.size = w.heap.size + 1 := by rw [hW]; simp
  have tW : Turns (fun _ => False) w W := by rw [hW]; exact (Turns.alloc _ _ _).trans (Turns.drew (fun _ => False) _) (fun _ _ h => h)
  have hSW : WS W D R X (.slice qp P.length np) (.slice qh K.length nh) P K := hS.turn tW (fun _ _ h => h)
  have hN : Blk W w.heap.size #[.pointer (some ⟨R, 0, none⟩)] 86 := by rw [hW]; exact blk_alloc _ _ _
  obtain ⟨_, _, d0, d1, _, _⟩ := hSW.cells
  have KC := cloneS_any W qh nh (K.map stL) K rfl (by rw [List.length_map]; omega) (fun hz => by
   rw [List.length_map] at hz
   rcases hSW.here.2 with ⟨e, e0⟩ | ⟨g, cap, cur, e, _, hg, _⟩
   ·exact absurd e0 hz
   ·injection e with e _ _
    refine ⟨g, 0, e, (Array.getElem?_eq_some_iff.1 hg).1, fun j u hu => ?_⟩
    have := World.ownsRow.cells hSW.here (by rw [e]; rfl) j u hu
    rwa [add_cellP] at this)
  rw [List.length_map] at KC
  have nX : ¬ X w.heap.size := fun h => by have := (hS.xx _ h).2.1; omega
  have nR : w.heap.size ≠ R := by omega
  have HW := hide hW
  clear hW
  gi_wp2
  refine wpIn_region_any (by kernel_rfl) ?_
  rw [show ({ (w.alloc (.cells #[.pointer (some ⟨R, 0, none⟩)] 86)) with drawn := (w.alloc (.cells #[.pointer (some ⟨R, 0, none⟩)] 86)).drawn + 1 } : World) = W from HW.out.symm]
  refine visR1 (R := R) (N := w.heap.size) (qp := qp) (np := P.length) (cp := np) (qh := qh) (nh := K.length) (ch := nh) rfl rfl rfl rfl rfl rfl rfl rfl rfl rfl rfl rfl rfl rfl rfl (by kernel_rfl) (by kernel_rfl) (by kernel_rfl) (by kernel_rfl) (by kernel_rfl) (by kernel_rfl) (by kernel_rfl) (by kernel_rfl) (by kernel_rfl) (by kernel_rfl) (by kernel_rfl) (by kernel_rfl) (by kernel_rfl) (by kernel_rfl) (by kernel_rfl) (by kernel_rfl) (by kernel_rfl) (by kernel_rfl) (by kernel_rfl) (by kernel_rfl) (by kernel_rfl) (by kernel_rfl) (by kernel_rfl) (by kernel_rfl) (by kernel_rfl) (by kernel_rfl) (by kernel_rfl) (by kernel_rfl) (by kernel_rfl) (by kernel_rfl) (by kernel_rfl) (by kernel_rfl) (by kernel_rfl) (by kernel_rfl) (by kernel_rfl) (by kernel_rfl) (by kernel_rfl) (by kernel_rfl) (by kernel_rfl) (by kernel_rfl) (by kernel_rfl) (by kernel_rfl) (by kernel_rfl) (by kernel_rfl) (by kernel_rfl) (by kernel_rfl) (by kernel_rfl) (by kernel_rfl) (by kernel_rfl) (by kernel_rfl) (by kernel_rfl) (by kernel_rfl) (by kernel_rfl) (by kernel_rfl) (by kernel_rfl) (by kernel_rfl) (by kernel_rfl) (by kernel_rfl) (by kernel_rfl) (by kernel_rfl) (by kernel_rfl) (by kernel_rfl) (by kernel_rfl) (by kernel_rfl) (by kernel_rfl) (by kernel_rfl) (by kernel_rfl) (by kernel_rfl) (by kernel_rfl) (by kernel_rfl) (by kernel_rfl) (by kernel_rfl) (by kernel_rfl) (by kernel_rfl) (by kernel_rfl)
   (fun qc nc cc Y => Y.ownsRow W.heap.size 60 2 (.slice qc nc cc) K.length (K.flatMap stC) ∧ Below W.heap.size W Y)
   (fun qc nc cc qv nv cv g Y => Y.cell? ⟨w.heap.size, 0, none⟩ = some (.pointer (some ⟨R, 0, none⟩)) ∧ Y.cell? ⟨R, 0, none⟩ = some (.slice qp P.length np) ∧ Y.frozen? ⟨R, 0, none⟩ = false ∧ nv = P.length + 1 ∧ ∃ X1 : Nat → Prop, WS (Y.setCell ⟨R, 0, none⟩ (.slice qv nv cv)) D R X1 (.slice qv nv cv) (.slice qh K.length nh) (P ++ [K.map stL]) K ∧ Turns X W (Y.setCell ⟨R, 0, none⟩ (.slice qv nv cv)) ∧ ∀ b, X1 b → X b ∨ W.heap.size ≤ b)
   (hN.cell 0 _ rfl) d0 d1 ?k9 ?k10 (fun _ _ _ _ _ _ _ Y h => ⟨h.1, h.2.1, h.2.2.1⟩) (enters_of Tryd.func47 (by kernel_rfl) rfl) ?cl ?ap ?go
  case k9 =>
   rintro qc nc cc Y ⟨_, hb⟩
   exact ⟨(hb.cell (p := ⟨w.heap.size, 0, none⟩) hN.lt).trans (hN.cell 0 _ rfl), (hb.cell (p := ⟨R, 0, none⟩) hSW.blk.lt).trans d0, (hb.cell (p := ⟨R, 1, none⟩) hSW.blk.lt).trans d1⟩
  case k10 =>
   rintro qc nc cc Y ⟨_, hb0⟩
   have hb := hb0.alloc hb0.size (.cells #[.slice qc nc cc] 27)
   exact ⟨(hb.cell (p := ⟨w.heap.size, 0, none⟩) hN.lt).trans (hN.cell 0 _ rfl), (hb.cell (p := ⟨R, 0, none⟩) hSW.blk.lt).trans d0, (hb.cell (p := ⟨R, 1, none⟩) hSW.blk.lt).trans d1⟩
  case cl =>
   refine KC.mono ?_
   rintro e w' ⟨v, rfl, ho, hb⟩
   obtain ⟨q, c, rfl⟩ := own_slice ho
   exact ⟨_, rfl, q, K.length, c, rfl, ho, hb⟩
  case ap =>
   rintro qc nc cc g Y ⟨ho, hb⟩ rfl
   obtain ⟨q, c, Z, hrun, e1, e2, X1, hS1, ht1, hx1⟩ := hSW.tell (by omega) (by omega) ho hb 34
   refine ⟨q, P.length + 1, c, Z, hrun, ?_, e1, e2, rfl, X1, hS1, ht1, hx1⟩
   have h1 : (Z.setCell ⟨R, 0, none⟩ (.slice q (P.length + 1) c)).cell? ⟨w.heap.size, 0, none⟩ = some (.pointer (some ⟨R, 0, none⟩)) := (ht1.cell (p := ⟨w.heap.size, 0, none⟩) hN.lt nX).trans (hN.cell 0 _ rfl)
   exact (World.cell?_of_block (w := Z) (a := ⟨w.heap.size, 0, none⟩) (Below.heap_setCell _ _ _ _ (fun e => nR e))).symm.trans h1
  case go =>
   rintro qc nc cc qv nv cv g Y ⟨_, _, _, rfl, X1, hS1, ht1, hx1⟩
   generalize hY1 : Y.setCell ⟨R, 0, none⟩ (.slice qv (P.length + 1) cv) = Y1 at *
   gi_wp2
   refine ⟨trivial, (callsIn_wide.2 (partsF_any Y1 B o)).mono ?_⟩
   rintro e w' ⟨rfl, rfl⟩
   obtain ⟨Bp, hBp⟩ : ∃ Bp, Bp = Y1.heap.size := ⟨_, rfl⟩
   obtain ⟨W3, hW3⟩ : ∃ W3, W3 = Y1.alloc (.cells #[.pointer (some ⟨B, o, none⟩)] 58) := ⟨_, rfl⟩
   rw [← hW3, ← hBp]
   have s3 : W3.heap.size = Y1.heap.size + 1 := by rw [hW3]; simp
   have t3 : Turns (fun _ => False) Y1 W3 := by rw [hW3]; exact Turns.alloc _ _ _
   have hS3 : WS W3 D R X1 (.slice qv (P.length + 1) cv) (.slice qh K.length nh) (P ++ [K.map stL]) K := hS1.turn t3 (fun _ _ h => h)
   have hBpB : Blk W3 Bp #[.pointer (some ⟨B, o, none⟩)] 58 := by rw [hW3, hBp]; exact blk_alloc _ _ _
   have tw1 : Turns X w Y1 := (tW.mono fun _ _ h => h.elim).trans ht1 (fun _ _ h => h)
   have tw3 : Turns X w W3 := tw1.trans t3 (fun _ _ h => h.elim)
   have z1 := tw1.size
   have z0 := ht1.size
   have n1 : ¬ X1 w.heap.size := fun h => (hx1 _ h).elim nX (fun h => by omega)
   have n2 : ¬ X1 Bp := fun h => by have := (hS1.xx _ h).2.1; omega
   have hN3 : Blk W3 w.heap.size #[.pointer (some ⟨R, 0, none⟩)] 86 := blk_turn (blk_turn hN ht1 nX) t3 (fun h => h)
   have low3 : ∀ b, b < D → W3.heap[b]? = w.heap[b]? := fun b hb => tw3.block b (by omega) (fun h => by have := (hS.xx b h).1; omega)
   have hrL3 : RowIn (fun b => b < D) W3 pL 6 L.length (fun j us => ∃ y, L[j]? = some y ∧ LiesV (fun b => b < D) f W3 us y) := hrL.kept (fun b h => h) tw3.size (fun b hb _ => low3 b hb) (fun j us _ ⟨y, a1, a2⟩ => ⟨y, a1, a2.kept (fun b h => h) tw3.size (fun b hb _ => low3 b hb)⟩)
   have hrE3 : RowIn (fun b => b < D) W3 pE 7 E.length (fun j us => ∃ (key : ByteArray) (y : V) (xs : List Value), E[j]? = some (ent key.data.toList y) ∧ us = .string key :: xs ∧ key.size ≤ maxLen ∧ LiesV (fun b => b < D) f W3 xs y) := hrE.kept (fun b h => h) tw3.size (fun b hb _ => low3 b hb) (fun j us _ ⟨key, y, xs, a1, a2, a3, a4⟩ => ⟨key, y, xs, a1, a2, a3, a4.kept (fun b h => h) tw3.size (fun b hb _ => low3 b hb)⟩)
   obtain ⟨hcl1, hcl2, hcl3, hcl4⟩ := hcl
   have hml : maxLen ≤ 9223372036854775807 := by unfold maxLen; decide
   obtain ⟨ks, hks, hkl, hkid⟩ := kids_lie ht (by omega) hrL3 hrE3
   have hyl : (kidsE pL L.length ++ kidsT ks pE E.length).length = (kidsP t).length := by rw [List.length_append, kidsE_len, kidsT_len, hkl]
   have fL : L.length ≠ 0 → ∃ b q, pL = some ⟨b, q, none⟩ := fun h => by obtain ⟨b, q, e, _⟩ := hrL h; exact ⟨b, q, e⟩
   have fE : E.length ≠ 0 → ∃ b q, pE = some ⟨b, q, none⟩ := fun h => by obtain ⟨b, q, e, _⟩ := hrE h; exact ⟨b, q, e⟩
   have cw3 : ∀ i, W3.cell? ⟨B, o + i, none⟩ = w.cell? ⟨B, o + i, none⟩ := fun i => World.cell?_of_block (low3 B hB)
   have kD : ∀ b, b < D → b < W3.heap.size ∧ ¬ X1 b := fun b hb => ⟨by omega, fun h => by have := (hS3.xx b h).1; omega⟩
   have hwk := kids_walk Bp B o pL pE L.length cL E.length cE fL fE (by omega) (by omega) ks (fun b => b < W3.heap.size ∧ ¬ X1 b) W3 ⟨by omega, n2⟩ (kD B hB) (by omega) (by omega) (hBpB.cell 0 _ rfl) ((cw3 4).trans v4) ((cw3 5).trans v5) (fun i hi b q e => by
    obtain ⟨k1, k2, k3⟩ := hks i hi b q e
    exact ⟨kD b k1, k2, k3⟩)
   generalize kidsE pL L.length ++ kidsT ks pE E.length = ys at *
   have HG := hide (And.intro ht (And.intro hrk hrL3))
   have HW3 := hide (And.intro hW3 hBp)
   clear hW3 hBp
   clear hks hrL hrE hrL3 hrE3 fL fE HG
   gi_wp2
   refine wpIn_range_ks (gf := 66) (lb := #[.pointer (some ⟨Bp, 0, none⟩)]) rfl (enters_of Tryd.func66 (by kernel_rfl) rfl) hwk (Below.refl _ _) (fun x => rfl) (fun b h => h.1) W3.heap.size (Nat.le_refl _)
    (fun M pre Z => ∃ (X' : Nat → Prop) (vp' vh' : Value), WS Z D R X' vp' vh' (P ++ K.map stL :: told f (K.map stL) ((kidsP t).take pre.length)) K ∧ (∀ b, X' b → X1 b ∨ W3.heap.size ≤ b) ∧ Turns (fun b => X1 b ∨ W3.heap.size ≤ b) W3 Z ∧ ∀ b, M b → W3.heap.size ≤ b ∧ ¬ X' b)
    ?own (fun b h => h.elim) ⟨X1, _, _, by rw [List.length_nil, List.take_zero]; exact hS3, fun b h => .inl h, Turns.refl _ _, fun b h => h.elim⟩
    (fun x a' Z => ∃ Bs, W3.heap.size ≤ Bs ∧ Blk Z Bs #[.string x.1.1, .int .i64 x.1.2] 60 ∧ a' = { tmps := #[.pointer (some ⟨R, 0, none⟩), .pointer (some ⟨B, o, none⟩), .pointer (some ⟨w.heap.size, 0, none⟩), undef, .pointer (some ⟨Bs, 0, none⟩), .pointer (some ⟨x.2.1, x.2.2, none⟩), .pointer (some ⟨R, 0, none⟩), .pointer (some ⟨R, 0, none⟩), .pointer (some ⟨R, 0, none⟩), .pointer (some ⟨R, 0, none⟩), .slice qp P.length np, .pointer (some ⟨R, 0, none⟩), .pointer (some ⟨R, 0, none⟩), .pointer (some ⟨R, 1, none⟩), .slice qh K.length nh, .slice qc nc cc, .slice (some ⟨g, 0, none⟩) 1 1, .slice qv (P.length + 1) cv, .pointer (some ⟨R, 0, none⟩), .pointer (some ⟨R, 0, none⟩), .pointer (some ⟨B, o, none⟩), .func (.func 66) #[] #[.pointer (some ⟨Bp, 0, none⟩)], .agg #[.string x.1.1, .int .i64 x.1.2], .pointer (some ⟨x.2.1, x.2.2, none⟩), undef, undef, undef, undef, undef, undef, undef, undef, undef, undef, undef, undef, undef, undef, undef, undef, undef, undef, undef, undef, undef, undef, undef, undef, undef, undef, undef, undef, undef, undef, undef, undef, undef], defers := [] })
    ?ax ?assign ?body ?done
   case own =>
    rintro M M' pre A' B' ⟨X', vp', vh', hS', hx', ht', hm'⟩ ht hm
    have hz := ht'.size
    have hn : ∀ b, X' b → ¬ (M b ∨ (W3.heap.size ≤ b ∧ ∃ o : Obj, A'.heap[b]? = some o ∧ o.isCells = false)) := fun b hb h => by
     rcases h with h | ⟨_, o1, h1, h2⟩
     ·exact (hm' b h).2 hb
     ·obtain ⟨_, _, o2, h3, h4⟩ := hS'.xx b hb
      rw [h1] at h3
      injection h3 with h3
      rw [h3, h4] at h2
      cases h2
    refine ⟨X', vp', vh', hS'.turn ht hn, hx', ht'.trans ht (fun b _ h => .inr (h.elim (fun h => (hm' b h).1) (fun h => h.1))), fun b hb => ?_⟩
    rcases hm b hb with h | h
    ·exact hm' b h
    ·exact ⟨by omega, fun hx => by have := (hS'.xx b hx).2.1; omega⟩
   case ax =>
    rintro x a' A' l' o1 o2 ⟨Bs, h1, h2, h3⟩ ho hoc
    refine ⟨Bs, h1, ?_, h3⟩
    refine (World.putObj_heap_other (fun e => ?_)).trans h2
    rw [← e, show A'.heap[Bs]? = _ from h2] at ho
    cases ho
    cases hoc
   case assign =>
    rintro l' x Z K' hsz hK'
    simp only [encK]
    gi_wp2
    exact hK' _ _ (Turns.alloc _ _ _) ⟨Z.heap.size, hsz, blk_alloc _ _ _, rfl⟩
   case body =>
    rintro l M pre x a' Z hl' ⟨r, hr⟩ ⟨Bs, hBs, hbs, rfl⟩ ⟨X', vp', vh', hS4, hx4, ht4, hm4⟩ hM' hget
    obtain ⟨y, us, hk1, hly, hok, hlt, hcell, hsk⟩ := hkid pre.length x hget
    have hkn := kid_nodes (f := f) (H := K.map stL) hk1
    have hnx := told_next (f := f) (H := K.map stL) hk1
    obtain ⟨⟨qa, na, rfl⟩, ⟨qb, nb, rfl⟩, e0, e1, _, _⟩ := hS4.cells
    have HNX := hide hnx
    clear hnx
    generalize hTT : told f (K.map stL) ((kidsP t).take pre.length) = TT at *
    have HTT := hide hTT
    replace hkn : TT.length + nodesV f y + 1 ≤ nodesV (f + 1) t := hkn
    clear hTT
    have hpl : (P ++ K.map stL :: TT).length = P.length + 1 + TT.length := by rw [List.length_append, List.length_cons]; omega
    have HP4 : Hid (∃ P4, P4 = P ++ K.map stL :: TT) := hide ⟨_, rfl⟩
    obtain ⟨P4, hP4⟩ := HP4.out
    rw [← hP4] at hS4 e0 hpl
    have HP4' := hide hP4
    clear hP4 HP4
    have sz4 := ht4.size
    have nN4 : ¬ X' w.heap.size := fun h => (hx4 _ h).elim n1 (fun h => by omega)
    have hN4z : Blk Z w.heap.size #[.pointer (some ⟨R, 0, none⟩)] 86 := blk_turn hN3 ht4 (fun h => h.elim n1 (fun h => by omega))
    have hN4 : Blk Z.drew w.heap.size #[.pointer (some ⟨R, 0, none⟩)] 86 := hN4z
    have hbsd : Blk Z.drew Bs #[.string x.1.1, .int .i64 x.1.2] 60 := hbs
    have hS4d : WS Z.drew D R X' (.slice qa P4.length na) (.slice qb K.length nb) P4 K := hS4.turn (Turns.drew (fun _ => False) Z) (fun _ _ h => h)
    have szd : Z.drew.heap.size = Z.heap.size := rfl
    obtain ⟨q5, c5, Z5, hrun5, g1, g2, X5, hS5, ht5, hx5⟩ := hS4d.on (by omega) x.1 hsk (by omega) 27
    have c0 : Z5.cell? ⟨w.heap.size, 0, none⟩ = some (.pointer (some ⟨R, 0, none⟩)) := by
     have h1 : (Z5.setCell ⟨R, 1, none⟩ (.slice q5 (K.length + 1) c5)).cell? ⟨w.heap.size, 0, none⟩ = some (.pointer (some ⟨R, 0, none⟩)) := (ht5.cell (p := ⟨w.heap.size, 0, none⟩) hN4.lt nN4).trans (hN4.cell 0 _ rfl)
     exact (World.cell?_of_block (w := Z5) (a := ⟨w.heap.size, 0, none⟩) (Below.heap_setCell _ _ _ _ (fun e => nR e))).symm.trans h1
    have nX' : ∀ b, b < D → ¬ X' b := fun b hb h => by have := (hS4.xx b h).1; omega
    have low6 : ∀ b, b < D → (Z5.setCell ⟨R, 1, none⟩ (.slice q5 (K.length + 1) c5)).heap[b]? = W3.heap[b]? := fun b hb => (ht5.block b (by omega) (nX' b hb)).trans (ht4.block b (by omega) (fun h => h.elim (kD b hb).2 (fun h => by omega)))
    have KV := ih.out (Z5.setCell ⟨R, 1, none⟩ (.slice q5 (K.length + 1) c5)) D R X5 _ _ P4 (K ++ [x.1]) x.2.1 x.2.2 us y hS5 (by have := ht5.size; omega) (hly.kept (fun b h => h) (by have := ht5.size; omega) (fun b hb _ => low6 b hb)) hok (fun i hi => (World.cell?_of_block (low6 _ hok)).trans (hcell i hi)) (by omega) (by rw [List.length_append, List.length_singleton]; omega)
    have hN6 : Blk (Z5.setCell ⟨R, 1, none⟩ (.slice q5 (K.length + 1) c5)) w.heap.size #[.pointer (some ⟨R, 0, none⟩)] 86 := blk_turn hN4 ht5 nN4
    have nN5 : ¬ X5 w.heap.size := fun h => (hx5 _ h).elim nN4 (fun h => by omega)
    have sz6 := ht5.size
    have ra0 := hN4.cell 0 _ rfl
    have rb0 := (hN4.alloc (.cells #[.string x.1.1, .int .i64 x.1.2] 60)).cell 0 _ rfl
    have ra1 := hS4d.blk.cell 1 _ rfl
    have rb1 := (hS4d.blk.alloc (.cells #[.string x.1.1, .int .i64 x.1.2] 60)).cell 1 _ rfl
    have rd0 := hbsd.cell 0 _ rfl
    have rd1 := hbsd.cell 1 _ rfl
    have ez0 : Z.cell? ⟨w.heap.size, 0, none⟩ = some (.pointer (some ⟨R, 0, none⟩)) := ra0
    have i1 : ¬ ((P4.length : Int) = 1000) := by omega
    have HKV := hide KV
    have HRUN := hide hrun5
    have H5 := hide (And.intro hS5 (And.intro ht5 hx5))
    have H4 := hide (And.intro hS4 (And.intro hx4 (And.intro ht4 hm4)))
    have HLow := hide low6
    clear KV hrun5 hS5 ht5 hx5 hS4 hx4 ht4 hm4 low6 hcell hly hS4d hwk hkid ih hN hbs hbsd
    gi_wp2
    refine wpIn_region_any (by kernel_rfl) ?_
    refine visR6 (R := R) (N := w.heap.size) (Bs := Bs) (W := Z.drew) (X := Z5) rfl rfl rfl rfl rfl rfl rfl rfl rfl rfl rfl (by kernel_rfl) (by kernel_rfl) (by kernel_rfl) (by kernel_rfl) (by kernel_rfl) (by kernel_rfl) (by kernel_rfl) (by kernel_rfl) (by kernel_rfl) (by kernel_rfl) (by kernel_rfl) (by kernel_rfl) (by kernel_rfl) (by kernel_rfl) (by kernel_rfl) (by kernel_rfl) (by kernel_rfl) (by kernel_rfl) (by kernel_rfl) (by kernel_rfl) (by kernel_rfl) (by kernel_rfl) (by kernel_rfl) (by kernel_rfl) (by kernel_rfl) (by kernel_rfl) (by kernel_rfl) (by kernel_rfl) (by kernel_rfl) (by kernel_rfl) (by kernel_rfl) (by kernel_rfl) (by kernel_rfl) (by kernel_rfl) (by kernel_rfl) ra0 ra1 rb0 rb1 c0 g1 g2 rd0 rd1 HRUN.out ?_
    generalize hZ6 : Z5.setCell ⟨R, 1, none⟩ (.slice q5 (K.length + 1) c5) = Z6 at *
    have ez6 := hN6.cell 0 _ rfl
    clear ra0 ra1 rb0 rb1 c0 g1 g2 rd0 rd1 ez0 e0 e1
    gi_wp2
    refine ⟨trivial, (CallsIn.inRound l (callsIn_wide.2 HKV.out)).mono ?_⟩
    rintro e Z7 ⟨⟨v, rfl⟩, X7, vp7, vh7, hS7, ht7, hx7⟩
    obtain ⟨⟨q8, n8, rfl⟩, ⟨q7, c7, rfl⟩, _⟩ := hS7.cells
    have hS7d := hS7.turn (Turns.drew (fun _ => False) Z7) (fun _ _ h => h)
    obtain ⟨hn7, hc7, hm7, hS8, ht8⟩ := hS7d.back
    have hl7 : (K ++ [x.1]).length = K.length + 1 := by rw [List.length_append, List.length_singleton]
    rw [hl7] at hc7 hS7 hS7d
    have hN7z : Blk Z7 w.heap.size #[.pointer (some ⟨R, 0, none⟩)] 86 := blk_turn hN6 ht7 nN5
    have hN7 : Blk Z7.drew w.heap.size #[.pointer (some ⟨R, 0, none⟩)] 86 := hN7z
    have ra0 := hN7.cell 0 _ rfl
    have ra1 := hS7d.blk.cell 1 _ rfl
    have raf := hS7d.blk.froz 1
    have hw : IntKind.i64.wrap (K.length : Int) = (K.length : Int) := by rw [IntKind.wrap_i64]; omega
    have H7 := hide (And.intro ht7 (And.intro hx7 (And.intro hS8 ht8)))
    clear ht7 hx7 hS8 ht8 hS7 hS7d ez6
    gi_wp2
    refine wpIn_region_any (by kernel_rfl) ?_
    refine visR8 (R := R) (N := w.heap.size) (W := Z7.drew) (n := K.length) (cp := c7) (q := q7) rfl rfl rfl rfl rfl rfl rfl rfl rfl rfl rfl rfl rfl rfl rfl (by kernel_rfl) (by kernel_rfl) (by kernel_rfl) (by kernel_rfl) (by kernel_rfl) (by kernel_rfl) (by kernel_rfl) (by kernel_rfl) (by kernel_rfl) (by kernel_rfl) (by kernel_rfl) (by kernel_rfl) (by kernel_rfl) (by kernel_rfl) (by kernel_rfl) (by kernel_rfl) (by kernel_rfl) (by kernel_rfl) (by kernel_rfl) (by kernel_rfl) (by kernel_rfl) (by kernel_rfl) (by kernel_rfl) (by kernel_rfl) (by kernel_rfl) (by kernel_rfl) (by kernel_rfl) (by kernel_rfl) (by kernel_rfl) (by kernel_rfl) (by kernel_rfl) (by kernel_rfl) (by kernel_rfl) (by kernel_rfl) (by kernel_rfl) (by kernel_rfl) (by kernel_rfl) (by kernel_rfl) (by kernel_rfl) (by kernel_rfl) (by kernel_rfl) (by kernel_rfl) (by kernel_rfl) (by kernel_rfl) (by kernel_rfl) (by kernel_rfl) (by kernel_rfl) (by kernel_rfl) (by kernel_rfl) (by kernel_rfl) (by kernel_rfl) (by kernel_rfl) (by kernel_rfl) (by kernel_rfl) (by kernel_rfl) (by kernel_rfl) (by kernel_rfl) (by kernel_rfl) (by kernel_rfl) (by kernel_rfl) (by kernel_rfl) (by kernel_rfl) (by kernel_rfl) (by kernel_rfl) (by kernel_rfl) (by kernel_rfl) (by kernel_rfl) (by kernel_rfl) (by kernel_rfl) (by kernel_rfl) (by kernel_rfl) (by kernel_rfl) (by kernel_rfl) (by kernel_rfl) (by kernel_rfl) ra0 ra1 raf (by omega) hw ?_
    gi_wp2
    obtain ⟨hS5, ht5, hx5⟩ := H5.out
    obtain ⟨hS4, hx4, ht4, hm4⟩ := H4.out
    obtain ⟨ht7, hx7, hS8, ht8⟩ := H7.out
    generalize Z7.drew.setCell ⟨R, 1, none⟩ (.slice q7 K.length c7) = Z8 at *
    have t46 : Turns X' Z Z6 := (Turns.drew X' Z).trans ht5 (fun _ _ h => h)
    have t47 : Turns X' Z Z7 := t46.trans ht7 (fun b hb h => (hx5 b h).elim id (fun h => by omega))
    have x7' : ∀ b, X7 b → X' b ∨ Z.heap.size ≤ b := fun b h => (hx7 b h).elim (fun h => (hx5 b h).elim .inl (fun h => .inr (by omega))) (fun h => .inr (by omega))
    have t48 : Turns X' Z Z8 := t47.trans ((Turns.drew X7 Z7).trans ht8 (fun _ _ h => h)) (fun b hb h => (x7' b h).elim id (fun h => by omega))
    have e8 : P4 ++ (allV f y).map (fun p => (K ++ [x.1]).map stL ++ p) = P ++ K.map stL :: told f (K.map stL) ((kidsP t).take (pre ++ [x]).length) := by
     rw [HP4'.out, List.length_append, List.length_singleton, HNX.out, List.append_assoc, List.cons_append, List.map_append]
     rfl
    rw [e8] at hS8
    refine ⟨⟨t48.size, fun kk oo hkk ho hoc => ?_⟩, t48.mono (fun b hb h => ⟨fun hm => (hm4 b hm).2 h, fun hk => (hx4 b h).elim hk.2 (fun h => by omega)⟩), X7, _, _, hS8, fun b h => ?_, ht4.trans t48 (fun b hb h => hx4 b h), fun b h => ⟨(hm4 b h).1, fun h7 => (x7' b h7).elim (hm4 b h).2 (fun h' => by have := hM' b h; omega)⟩⟩
    ·have hlt' := (Array.getElem?_eq_some_iff.1 ho).1
     refine (t48.block kk hlt' (fun hx => ?_)).trans ho
     obtain ⟨_, _, o2, h3, h4⟩ := hS4.xx kk hx
     rw [ho] at h3
     injection h3 with h3
     rw [h3, h4] at hoc
     cases hoc
    ·exact (x7' b h).elim (hx4 b) (fun h => .inr (by omega))
   case done =>
    rintro D' M Z hD' ⟨X', vp', vh', hS4, hx4, ht4, hm4⟩ hdf
    rw [hyl, List.take_length] at hS4
    gi_wp2
    have nD : ∀ b, X' b → b ≠ D' := fun b hb e => by
     obtain ⟨_, _, o2, h3, h4⟩ := hS4.xx b hb
     rw [e, hdf] at h3
     injection h3 with h3
     rw [← h3] at h4
     cases h4
    have tp : Turns (fun b => b = D') Z (Z.putObj D' (.deferred none)) := Turns.putObj Z D' _ rfl
    refine ⟨by simp, .inl ⟨_, _, rfl, run_takeDeferred hdf, ?_⟩⟩
    have hSE := hS4.turn tp nD
    rw [← told_all] at hSE
    refine ⟨_, results_none rfl _ _ _, ⟨_, rfl⟩, X', _, _, hSE, ?_, fun b hb => ?_⟩
    ·exact (tw3.trans ht4 (fun b hb h => h.elim (fun h => (hx1 b h).elim id (fun h => by omega)) (fun h => by omega))).trans tp (fun b hb h => by omega)
    ·exact (hx4 b hb).elim (fun h => (hx1 b h).elim .inl (fun h => .inr (by omega))) (fun h => .inr (by omega))
end Go.Proofs.YtadaehaemmelfaaDoor.paths
namespace Go.Proofs.YtadaehaemmelfaaDoor.paths
open Go.RowKit Go.Shelf
open utfs (hide unhide)
open valus (V opn opnE ent mkV parts sumOf nodesV LiesV RowIn Blk blk_alloc Turns)
def LiesPP (w : World) (q : Option Addr) (l : List (List St)) : Prop :=
 l.length ≠ 0 → ∃ B, q = some ⟨B, 0, none⟩ ∧ B < w.heap.size ∧ ∀ (i : Nat) (p : List St), l[i]? = some p → ∃ (a : Option Addr) (n : Nat), w.cell? ⟨B, i, none⟩ = some (.slice a p.length n) ∧ p.length ≤ n ∧ n ≤ maxLen ∧ LiesP w a p
theorem liesP_keep {w w' : World} {q : Option Addr} {p : List St} (h : LiesP w q p) (hb : Below w.heap.size w w') : LiesP w' q p := by
 intro hp
 obtain ⟨B, o, e, hB, hc⟩ := h hp
 refine ⟨B, o, e, Nat.lt_of_lt_of_le hB hb.size, fun j x hx => ?_⟩
 obtain ⟨key, k1, k2, k3, k4, k5⟩ := hc j x hx
 exact ⟨key, k1, k2, k3, (hb.cell (p := ⟨B, o + j * 2, none⟩) hB).trans k4, (hb.cell (p := ⟨B, o + j * 2 + 1, none⟩) hB).trans k5⟩
theorem WS.told {w : World} {D R : Nat} {X : Nat → Prop} {q : Option Addr} {n c : Nat} {vh : Value} {P : List (List St)} {K : List SK} (h : WS w D R X (.slice q n c) vh P K) : n = P.length ∧ n ≤ c ∧ LiesPP w q P := by
 obtain ⟨cs, h1, h2, h3⟩ := h.rows
 have hn : n = P.length := by obtain ⟨_, _, e⟩ := own_slice h1; injection e
 rcases h1.2 with ⟨e, e0⟩ | ⟨g, cap, cur, e, _, hg, hc, _⟩
 ·injection e with e1 e2 e3
  exact ⟨hn, by omega, fun hz => absurd e0 hz⟩
 ·injection e with e1 e2 e3
  subst e1
  refine ⟨hn, by omega, fun _ => ⟨g, rfl, (Array.getElem?_eq_some_iff.1 hg).1, fun i p hp => ?_⟩⟩
  have hi : i < P.length := (List.getElem?_eq_some_iff.1 hp).1
  have hcl : cs.length = P.length := by have := h1.1; omega
  obtain ⟨p', hp', a, m, f1, f2, f3, f4, f5⟩ := h3 i _ (List.getElem?_eq_getElem (by omega : i < cs.length))
  rw [hp] at hp'
  injection hp' with hp'
  subst hp'
  refine ⟨a, m, ?_, f2, f3, f5⟩
  have hcc := h1
  rw [← hn] at hcc
  rw [World.ownsRow.cellAt hcc i (by omega), List.getElem?_eq_getElem (by omega : i < cs.length), f1]
theorem all_any (f : Nat) (w : World) (t : V) (a0 a1 a2 a3 a4 a5 : Value) (hl : LiesV (fun b => b < w.heap.size) f w [a0, a1, a2, a3, a4, a5] t) (hn : nodesV f t ≤ 999) :
  Calls Tryd.prog 10 #[.agg #[a0, a1, a2, a3, a4, a5]] w fun e w' => ∃ q c, e = .returned (.slice q (allV f t).length c) ∧ (allV f t).length ≤ c ∧ LiesPP w' q (allV f t) ∧ Below w.heap.size w w' := by
 obtain ⟨k, n, b, s, pL, nL, cL, pE, nE, cE, rfl, rfl, rfl, rfl, rfl, rfl⟩ := hl.form
 obtain ⟨w1, hw1⟩ : ∃ w1, w1 = w.alloc (.cells #[.int .i64 k, .int .i64 n, .int .u64 (b : Int), .string s, .slice pL nL cL, .slice pE nE cE] 26) := ⟨_, rfl⟩
 obtain ⟨w2, hw2⟩ : ∃ w2, w2 = w1.alloc (.cells #[.slice none 0 0, .slice none 0 0] 65) := ⟨_, rfl⟩
 have s1 : w1.heap.size = w.heap.size + 1 := by rw [hw1]; simp
 have s2 : w2.heap.size = w1.heap.size + 1 := by rw [hw2]; simp
 have b1 : Below w.heap.size w w1 := by rw [hw1]; exact (Below.refl _ w).alloc (Nat.le_refl _) _
 have b2 : Below w1.heap.size w1 w2 := by rw [hw2]; exact (Below.refl _ w1).alloc (Nat.le_refl _) _
 have v1 : Blk w1 w.heap.size #[.int .i64 k, .int .i64 n, .int .u64 (b : Int), .string s, .slice pL nL cL, .slice pE nE cE] 26 := by rw [hw1]; exact blk_alloc _ _ _
 have v2 : Blk w2 w.heap.size #[.int .i64 k, .int .i64 n, .int .u64 (b : Int), .string s, .slice pL nL cL, .slice pE nE cE] 26 := v1.below b2
 have r2 : Blk w2 w1.heap.size #[.slice none 0 0, .slice none 0 0] 65 := by rw [hw2]; exact blk_alloc _ _ _
 have hS : WS w2 w1.heap.size w1.heap.size (fun b => b = w1.heap.size) (.slice none 0 0) (.slice none 0 0) [] [] :=
  ⟨r2, ⟨[], World.ownsRow_nil _ _ _ _, fun u h => absurd h List.not_mem_nil, fun i c h => by simp at h⟩, World.ownsRow_nil _ _ _ _, fun x h => absurd h List.not_mem_nil, rfl, fun g h => (by cases h), fun g h => (by cases h), fun q hq => by
   replace hq : q = w1.heap.size := hq
   subst hq
   exact ⟨Nat.le_refl _, by omega, _, r2, rfl⟩⟩
 have b12 : Below w.heap.size w w2 := b1.trans (b2.mono (by omega))
 have hl2 : LiesV (fun b => b < w1.heap.size) f w2 [.int .i64 k, .int .i64 n, .int .u64 (b : Int), .string s, .slice pL nL cL, .slice pE nE cE] t := hl.kept (fun q h => by omega) b12.size (fun q hq _ => b12.block q hq)
 have KV := hide (visit_all f w2 w1.heap.size w1.heap.size _ _ _ [] [] w.heap.size 0 _ t hS (by omega) hl2 (by omega) (fun i hi => by
  rw [Nat.zero_add]
  match i, hi with
  | 0, _ => exact v2.cell 0 _ rfl
  | 1, _ => exact v2.cell 1 _ rfl
  | 2, _ => exact v2.cell 2 _ rfl
  | 3, _ => exact v2.cell 3 _ rfl
  | 4, _ => exact v2.cell 4 _ rfl
  | 5, _ => exact v2.cell 5 _ rfl) (by rw [List.length_nil]; omega) (by rw [List.length_nil]; omega))
 have HB := hide b12
 have H1 := hide hw1
 have H2 := hide hw2
 rw [s1] at *
 clear hS hl2 b1 b2 v1 v2 r2 hl hw1 hw2 b12
 go_enter Tryd.func10, Tryd.ntmps10
 go_wp2_with fail
 rw [← H1.out, ← H2.out]
 refine (unhide KV).mono ?_
 rintro e w3 ⟨⟨v, rfl⟩, X', vp, vh, hS, ht, _⟩
 rw [List.nil_append, show (allV f t).map (fun p => ([] : List SK).map stL ++ p) = allV f t from by rw [show (fun p => ([] : List SK).map stL ++ p) = (fun p : List St => p) from rfl, List.map_id']] at hS
 obtain ⟨⟨q, c, rfl⟩, ⟨qh, ch, rfl⟩, e0, e1, _, _⟩ := hS.cells
 obtain ⟨_, hc, hpp⟩ := hS.told
 have hb := HB.out.trans (ht.below (n := w.heap.size) HB.out.size (fun q hq => by omega))
 have HP := hide (And.intro hc (And.intro hpp hb))
 clear hS ht KV hc hpp hb e1
 go_wp2
 go_ret
 exact ⟨_, _, rfl, HP.out⟩
end Go.Proofs.YtadaehaemmelfaaDoor.paths
