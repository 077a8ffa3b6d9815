/- Of our texts, what this claim reaches. -/
import Derived.Test.YtadaehaemmelfaaDoorPabAW
import Derived.Test.YtadaehaemmelfaaDoorPabAX
set_option linter.unusedVariables false
set_option maxHeartbeats 8000000
set_option maxRecDepth 100000
namespace Go.Proofs.YtadaehaemmelfaaDoor.paths
open Go.RowKit Go.Shelf
open utfs (hide unhide)
open valus (V opn opnE ent mkV parts sumOf nodesV LiesV RowIn Blk blk_alloc Turns Abide Abides2 wpIn_range_ks)
attribute [local go_sem] Oper.semAt_some
def VisC (f : Nat) : Prop := ∀ (w : World) (D R : Nat) (X : Nat → Prop) (vp vh : Value) (P : List (List St)) (K : List SK) (B o : Nat) (vs : List Value) (t : V),
 WS w D R X vp vh P K → D ≤ w.heap.size → LiesV (fun b => b < D) f w vs t → B < D → (∀ i, i < 6 → w.cell? ⟨B, o + i, none⟩ = vs[i]?) → P.length + nodesV f t ≤ 999 → K.length + nodesV f t ≤ 1000 →
 Calls Tryd.prog 31 #[.pointer (some ⟨R, 0, none⟩), .pointer (some ⟨B, o, none⟩)] w fun e w' => (∃ v, e = .returned v) ∧ ∃ (X' : Nat → Prop) (vp' vh' : Value), WS w' D R X' vp' vh' (P ++ (allV f t).map (fun p => K.map stL ++ p)) K ∧ Turns X w w' ∧ ∀ b, X' b → X b ∨ w.heap.size ≤ b
theorem partsF_any (w : World) (B o : Nat) : Calls Tryd.prog 48 #[.pointer (some ⟨B, o, none⟩)] w fun e w' => e = .returned (.func (.func 66) #[] #[.pointer (some ⟨w.heap.size, 0, none⟩)]) ∧ w' = w.alloc (.cells #[.pointer (some ⟨B, o, none⟩)] 58) := by
 go_enter Tryd.func48, Tryd.ntmps48
 go_wp2
 go_ret
 exact ⟨rfl, rfl⟩
theorem visit_all : ∀ f, VisC f
 | 0 => fun w D R X vp vh P K B o vs t _ _ hl _ _ _ _ => hl.elim
 | f + 1 => by
  intro w D R X vp vh P K B o vs t hS hD hl hB hvs hP hK
  have ih := hide (visit_all f)
  obtain ⟨k, n, b, s, L, E, pL, pE, cL, cE, ht, rfl, hrk, hcl, hrL, hrE⟩ := hl
  obtain ⟨⟨qp, np, rfl⟩, ⟨qh, nh, rfl⟩, c0, c1, f0, f1⟩ := hS.cells
  have v4 : w.cell? ⟨B, o + 4, none⟩ = some (.slice pL L.length cL) := hvs 4 (by omega)
  have v5 : w.cell? ⟨B, o + 5, none⟩ = some (.slice pE E.length cE) := hvs 5 (by omega)
  have hRw := (hS.xx R hS.xr).2.1
  refine (callsIn_wide (n := 9)).1 ?_
  refine callsIn_of_wp_marks Tryd.func31 rfl trivial ?_ rfl
  simp only [Tryd.ntmps31, List.size_toArray, List.length_cons, List.length_nil, Nat.reduceAdd, Nat.reduceSub, Array.replicate_succ, Array.replicate_zero, List.push_toArray, List.append_toArray, List.nil_append, List.cons_append]
  have hR1 : Hid (∃ W, W = (w.alloc (.cells #[.pointer (some ⟨R, 0, none⟩)] 86)).drew) := hide ⟨_, rfl⟩
  obtain ⟨W, hW⟩ := hR1.out
  have sW : W.heap.size = w.heap.size + 1 := by rw [hW]; simp
  have tW : Turns (fun _ => False) w W := by rw [hW]; exact (Turns.alloc _ _ _).trans (Turns.drew (fun _ => False) _) (fun _ _ h => h)
  have hSW : WS W D R X (.slice qp P.length np) (.slice qh K.length nh) P K := hS.turn tW (fun _ _ h => h)
  have hN : Blk W w.heap.size #[.pointer (some ⟨R, 0, none⟩)] 86 := by rw [hW]; exact blk_alloc _ _ _
  obtain ⟨_, _, d0, d1, _, _⟩ := hSW.cells
  have KC := cloneS_any W qh nh (K.map stL) K rfl (by rw [List.length_map]; omega) (fun hz => by
   rw [List.length_map] at hz
   rcases hSW.here.2 with ⟨e, e0⟩ | ⟨g, cap, cur, e, _, hg, _⟩
   ·exact absurd e0 hz
   ·injection e with e _ _
    refine ⟨g, 0, e, (Array.getElem?_eq_some_iff.1 hg).1, fun j u hu => ?_⟩
    have := World.ownsRow.cells hSW.here (by rw [e]; rfl) j u hu
    rwa [add_cellP] at this)
  rw [List.length_map] at KC
  have nX : ¬ X w.heap.size := fun h => by have := (hS.xx _ h).2.1; omega
  have nR : w.heap.size ≠ R := by omega
  have HW := hide hW
  clear hW
  gi_wp2
  refine wpIn_region_any (by kernel_rfl) ?_
  rw [show ({ (w.alloc (.cells #[.pointer (some ⟨R, 0, none⟩)] 86)) with drawn := (w.alloc (.cells #[.pointer (some ⟨R, 0, none⟩)] 86)).drawn + 1 } : World) = W from HW.out.symm]
  refine visR1 (R := R) (N := w.heap.size) (qp := qp) (np := P.length) (cp := np) (qh := qh) (nh := K.length) (ch := nh) rfl rfl rfl rfl rfl rfl rfl rfl rfl rfl rfl rfl rfl rfl rfl (by kernel_rfl) (by kernel_rfl) (by kernel_rfl) (by kernel_rfl) (by kernel_rfl) (by kernel_rfl) (by kernel_rfl) (by kernel_rfl) (by kernel_rfl) (by kernel_rfl) (by kernel_rfl) (by kernel_rfl) (by kernel_rfl) (by kernel_rfl) (by kernel_rfl) (by kernel_rfl) (by kernel_rfl) (by kernel_rfl) (by kernel_rfl) (by kernel_rfl) (by kernel_rfl) (by kernel_rfl) (by kernel_rfl) (by kernel_rfl) (by kernel_rfl) (by kernel_rfl) (by kernel_rfl) (by kernel_rfl) (by kernel_rfl) (by kernel_rfl) (by kernel_rfl) (by kernel_rfl) (by kernel_rfl) (by kernel_rfl) (by kernel_rfl) (by kernel_rfl) (by kernel_rfl) (by kernel_rfl) (by kernel_rfl) (by kernel_rfl) (by kernel_rfl) (by kernel_rfl) (by kernel_rfl) (by kernel_rfl) (by kernel_rfl) (by kernel_rfl) (by kernel_rfl) (by kernel_rfl) (by kernel_rfl) (by kernel_rfl) (by kernel_rfl) (by kernel_rfl) (by kernel_rfl) (by kernel_rfl) (by kernel_rfl) (by kernel_rfl) (by kernel_rfl) (by kernel_rfl) (by kernel_rfl) (by kernel_rfl) (by kernel_rfl) (by kernel_rfl) (by kernel_rfl) (by kernel_rfl) (by kernel_rfl) (by kernel_rfl) (by kernel_rfl) (by kernel_rfl) (by kernel_rfl) (by kernel_rfl) (by kernel_rfl) (by kernel_rfl) (by kernel_rfl) (by kernel_rfl) (by kernel_rfl)
   (fun qc nc cc Y => Y.ownsRow W.heap.size 60 2 (.slice qc nc cc) K.length (K.flatMap stC) ∧ Below W.heap.size W Y)
   (fun qc nc cc qv nv cv g Y => Y.cell? ⟨w.heap.size, 0, none⟩ = some (.pointer (some ⟨R, 0, none⟩)) ∧ Y.cell? ⟨R, 0, none⟩ = some (.slice qp P.length np) ∧ Y.frozen? ⟨R, 0, none⟩ = false ∧ nv = P.length + 1 ∧ ∃ X1 : Nat → Prop, WS (Y.setCell ⟨R, 0, none⟩ (.slice qv nv cv)) D R X1 (.slice qv nv cv) (.slice qh K.length nh) (P ++ [K.map stL]) K ∧ Turns X W (Y.setCell ⟨R, 0, none⟩ (.slice qv nv cv)) ∧ ∀ b, X1 b → X b ∨ W.heap.size ≤ b)
   (hN.cell 0 _ rfl) d0 d1 ?k9 ?k10 (fun _ _ _ _ _ _ _ Y h => ⟨h.1, h.2.1, h.2.2.1⟩) (enters_of Tryd.func47 (by kernel_rfl) rfl) ?cl ?ap ?go
  case k9 =>
   rintro qc nc cc Y ⟨_, hb⟩
   exact ⟨(hb.cell (p := ⟨w.heap.size, 0, none⟩) hN.lt).trans (hN.cell 0 _ rfl), (hb.cell (p := ⟨R, 0, none⟩) hSW.blk.lt).trans d0, (hb.cell (p := ⟨R, 1, none⟩) hSW.blk.lt).trans d1⟩
  case k10 =>
   rintro qc nc cc Y ⟨_, hb0⟩
   have hb := hb0.alloc hb0.size (.cells #[.slice qc nc cc] 27)
   exact ⟨(hb.cell (p := ⟨w.heap.size, 0, none⟩) hN.lt).trans (hN.cell 0 _ rfl), (hb.cell (p := ⟨R, 0, none⟩) hSW.blk.lt).trans d0, (hb.cell (p := ⟨R, 1, none⟩) hSW.blk.lt).trans d1⟩
  case cl =>
   refine KC.mono ?_
   rintro e w' ⟨v, rfl, ho, hb⟩
   obtain ⟨q, c, rfl⟩ := own_slice ho
   exact ⟨_, rfl, q, K.length, c, rfl, ho, hb⟩
  case ap =>
   rintro qc nc cc g Y ⟨ho, hb⟩ rfl
   obtain ⟨q, c, Z, hrun, e1, e2, X1, hS1, ht1, hx1⟩ := hSW.tell (by omega) (by omega) ho hb 34
   refine ⟨q, P.length + 1, c, Z, hrun, ?_, e1, e2, rfl, X1, hS1, ht1, hx1⟩
   have h1 : (Z.setCell ⟨R, 0, none⟩ (.slice q (P.length + 1) c)).cell? ⟨w.heap.size, 0, none⟩ = some (.pointer (some ⟨R, 0, none⟩)) := (ht1.cell (p := ⟨w.heap.size, 0, none⟩) hN.lt nX).trans (hN.cell 0 _ rfl)
   exact (World.cell?_of_block (w := Z) (a := ⟨w.heap.size, 0, none⟩) (Below.heap_setCell _ _ _ _ (fun e => nR e))).symm.trans h1
  case go =>
   rintro qc nc cc qv nv cv g Y ⟨_, _, _, rfl, X1, hS1, ht1, hx1⟩
   generalize hY1 : Y.setCell ⟨R, 0, none⟩ (.slice qv (P.length + 1) cv) = Y1 at *
   gi_wp2
   refine ⟨trivial, (callsIn_wide.2 (partsF_any Y1 B o)).mono ?_⟩
   rintro e w' ⟨rfl, rfl⟩
   obtain ⟨Bp, hBp⟩ : ∃ Bp, Bp = Y1.heap.size := ⟨_, rfl⟩
   obtain ⟨W3, hW3⟩ : ∃ W3, W3 = Y1.alloc (.cells #[.pointer (some ⟨B, o, none⟩)] 58) := ⟨_, rfl⟩
   rw [← hW3, ← hBp]
   have s3 : W3.heap.size = Y1.heap.size + 1 := by rw [hW3]; simp
   have t3 : Turns (fun _ => False) Y1 W3 := by rw [hW3]; exact Turns.alloc _ _ _
   have hS3 : WS W3 D R X1 (.slice qv (P.length + 1) cv) (.slice qh K.length nh) (P ++ [K.map stL]) K := hS1.turn t3 (fun _ _ h => h)
   have hBpB : Blk W3 Bp #[.pointer (some ⟨B, o, none⟩)] 58 := by rw [hW3, hBp]; exact blk_alloc _ _ _
   have tw1 : Turns X w Y1 := (tW.mono fun _ _ h => h.elim).trans ht1 (fun _ _ h => h)
   have tw3 : Turns X w W3 := tw1.trans t3 (fun _ _ h => h.elim)
   have z1 := tw1.size
   have z0 := ht1.size
   have n1 : ¬ X1 w.heap.size := fun h => (hx1 _ h).elim nX (fun h => by omega)
   have n2 : ¬ X1 Bp := fun h => by have := (hS1.xx _ h).2.1; omega
   have hN3 : Blk W3 w.heap.size #[.pointer (some ⟨R, 0, none⟩)] 86 := blk_turn (blk_turn hN ht1 nX) t3 (fun h => h)
   have low3 : ∀ b, b < D → W3.heap[b]? = w.heap[b]? := fun b hb => tw3.block b (by omega) (fun h => by have := (hS.xx b h).1; omega)
   have hrL3 : RowIn (fun b => b < D) W3 pL 6 L.length (fun j us => ∃ y, L[j]? = some y ∧ LiesV (fun b => b < D) f W3 us y) := hrL.kept (fun b h => h) tw3.size (fun b hb _ => low3 b hb) (fun j us _ ⟨y, a1, a2⟩ => ⟨y, a1, a2.kept (fun b h => h) tw3.size (fun b hb _ => low3 b hb)⟩)
   have hrE3 : RowIn (fun b => b < D) W3 pE 7 E.length (fun j us => ∃ (key : ByteArray) (y : V) (xs : List Value), E[j]? = some (ent key.data.toList y) ∧ us = .string key :: xs ∧ key.size ≤ maxLen ∧ LiesV (fun b => b < D) f W3 xs y) := hrE.kept (fun b h => h) tw3.size (fun b hb _ => low3 b hb) (fun j us _ ⟨key, y, xs, a1, a2, a3, a4⟩ => ⟨key, y, xs, a1, a2, a3, a4.kept (fun b h => h) tw3.size (fun b hb _ => low3 b hb)⟩)
   obtain ⟨hcl1, hcl2, hcl3, hcl4⟩ := hcl
   have hml : maxLen ≤ 9223372036854775807 := by unfold maxLen; decide
   obtain ⟨ks, hks, hkl, hkid⟩ := kids_lie ht (by omega) hrL3 hrE3
   have hyl : (kidsE pL L.length ++ kidsT ks pE E.length).length = (kidsP t).length := by rw [List.length_append, kidsE_len, kidsT_len, hkl]
   have fL : L.length ≠ 0 → ∃ b q, pL = some ⟨b, q, none⟩ := fun h => by obtain ⟨b, q, e, _⟩ := hrL h; exact ⟨b, q, e⟩
   have fE : E.length ≠ 0 → ∃ b q, pE = some ⟨b, q, none⟩ := fun h => by obtain ⟨b, q, e, _⟩ := hrE h; exact ⟨b, q, e⟩
   have cw3 : ∀ i, W3.cell? ⟨B, o + i, none⟩ = w.cell? ⟨B, o + i, none⟩ := fun i => World.cell?_of_block (low3 B hB)
   have kD : ∀ b, b < D → b < W3.heap.size ∧ ¬ X1 b := fun b hb => ⟨by omega, fun h => by have := (hS3.xx b h).1; omega⟩
   have hwk := kids_walk Bp B o pL pE L.length cL E.length cE fL fE (by omega) (by omega) ks (fun b => b < W3.heap.size ∧ ¬ X1 b) W3 ⟨by omega, n2⟩ (kD B hB) (by omega) (by omega) (hBpB.cell 0 _ rfl) ((cw3 4).trans v4) ((cw3 5).trans v5) (fun i hi b q e => by
    obtain ⟨k1, k2, k3⟩ := hks i hi b q e
    exact ⟨kD b k1, k2, k3⟩)
   generalize kidsE pL L.length ++ kidsT ks pE E.length = ys at *
   have HG := hide (And.intro ht (And.intro hrk hrL3))
   have HW3 := hide (And.intro hW3 hBp)
   clear hW3 hBp
   clear hks hrL hrE hrL3 hrE3 fL fE HG
   gi_wp2
   refine wpIn_range_ks (gf := 66) (lb := #[.pointer (some ⟨Bp, 0, none⟩)]) rfl (enters_of Tryd.func66 (by kernel_rfl) rfl) hwk (Below.refl _ _) (fun x => rfl) (fun b h => h.1) W3.heap.size (Nat.le_refl _)
    (fun M pre Z => ∃ (X' : Nat → Prop) (vp' vh' : Value), WS Z D R X' vp' vh' (P ++ K.map stL :: told f (K.map stL) ((kidsP t).take pre.length)) K ∧ (∀ b, X' b → X1 b ∨ W3.heap.size ≤ b) ∧ Turns (fun b => X1 b ∨ W3.heap.size ≤ b) W3 Z ∧ ∀ b, M b → W3.heap.size ≤ b ∧ ¬ X' b)
    ?own (fun b h => h.elim) ⟨X1, _, _, by rw [List.length_nil, List.take_zero]; exact hS3, fun b h => .inl h, Turns.refl _ _, fun b h => h.elim⟩
    (fun x a' Z => ∃ Bs, W3.heap.size ≤ Bs ∧ Blk Z Bs #[.string x.1.1, .int .i64 x.1.2] 60 ∧ a' = { tmps := #[.pointer (some ⟨R, 0, none⟩), .pointer (some ⟨B, o, none⟩), .pointer (some ⟨w.heap.size, 0, none⟩), undef, .pointer (some ⟨Bs, 0, none⟩), .pointer (some ⟨x.2.1, x.2.2, none⟩), .pointer (some ⟨R, 0, none⟩), .pointer (some ⟨R, 0, none⟩), .pointer (some ⟨R, 0, none⟩), .pointer (some ⟨R, 0, none⟩), .slice qp P.length np, .pointer (some ⟨R, 0, none⟩), .pointer (some ⟨R, 0, none⟩), .pointer (some ⟨R, 1, none⟩), .slice qh K.length nh, .slice qc nc cc, .slice (some ⟨g, 0, none⟩) 1 1, .slice qv (P.length + 1) cv, .pointer (some ⟨R, 0, none⟩), .pointer (some ⟨R, 0, none⟩), .pointer (some ⟨B, o, none⟩), .func (.func 66) #[] #[.pointer (some ⟨Bp, 0, none⟩)], .agg #[.string x.1.1, .int .i64 x.1.2], .pointer (some ⟨x.2.1, x.2.2, none⟩), undef, undef, undef, undef, undef, undef, undef, undef, undef, undef, undef, undef, undef, undef, undef, undef, undef, undef, undef, undef, undef, undef, undef, undef, undef, undef, undef, undef, undef, undef, undef, undef, undef], defers := [] })
    ?ax ?assign ?body ?done
   case own =>
    rintro M M' pre A' B' ⟨X', vp', vh', hS', hx', ht', hm'⟩ ht hm
    have hz := ht'.size
    have hn : ∀ b, X' b → ¬ (M b ∨ (W3.heap.size ≤ b ∧ ∃ o : Obj, A'.heap[b]? = some o ∧ o.isCells = false)) := fun b hb h => by
     rcases h with h | ⟨_, o1, h1, h2⟩
     ·exact (hm' b h).2 hb
     ·obtain ⟨_, _, o2, h3, h4⟩ := hS'.xx b hb
      rw [h1] at h3
      injection h3 with h3
      rw [h3, h4] at h2
      cases h2
    refine ⟨X', vp', vh', hS'.turn ht hn, hx', ht'.trans ht (fun b _ h => .inr (h.elim (fun h => (hm' b h).1) (fun h => h.1))), fun b hb => ?_⟩
    rcases hm b hb with h | h
    ·exact hm' b h
    ·exact ⟨by omega, fun hx => by have := (hS'.xx b hx).2.1; omega⟩
   case ax =>
    rintro x a' A' l' o1 o2 ⟨Bs, h1, h2, h3⟩ ho hoc
    refine ⟨Bs, h1, ?_, h3⟩
    refine (World.putObj_heap_other (fun e => ?_)).trans h2
    rw [← e, show A'.heap[Bs]? = _ from h2] at ho
    cases ho
    cases hoc
   case assign =>
    rintro l' x Z K' hsz hK'
    simp only [encK]
    gi_wp2
    exact hK' _ _ (Turns.alloc _ _ _) ⟨Z.heap.size, hsz, blk_alloc _ _ _, rfl⟩
   case body =>
    rintro l M pre x a' Z hl' ⟨r, hr⟩ ⟨Bs, hBs, hbs, rfl⟩ ⟨X', vp', vh', hS4, hx4, ht4, hm4⟩ hM' hget
    obtain ⟨y, us, hk1, hly, hok, hlt, hcell, hsk⟩ := hkid pre.length x hget
    have hkn := kid_nodes (f := f) (H := K.map stL) hk1
    have hnx := told_next (f := f) (H := K.map stL) hk1
    obtain ⟨⟨qa, na, rfl⟩, ⟨qb, nb, rfl⟩, e0, e1, _, _⟩ := hS4.cells
    have HNX := hide hnx
    clear hnx
    generalize hTT : told f (K.map stL) ((kidsP t).take pre.length) = TT at *
    have HTT := hide hTT
    replace hkn : TT.length + nodesV f y + 1 ≤ nodesV (f + 1) t := hkn
    clear hTT
    have hpl : (P ++ K.map stL :: TT).length = P.length + 1 + TT.length := by rw [List.length_append, List.length_cons]; omega
    have HP4 : Hid (∃ P4, P4 = P ++ K.map stL :: TT) := hide ⟨_, rfl⟩
    obtain ⟨P4, hP4⟩ := HP4.out
    rw [← hP4] at hS4 e0 hpl
    have HP4' := hide hP4
    clear hP4 HP4
    have sz4 := ht4.size
    have nN4 : ¬ X' w.heap.size := fun h => (hx4 _ h).elim n1 (fun h => by omega)
    have hN4z : Blk Z w.heap.size #[.pointer (some ⟨R, 0, none⟩)] 86 := blk_turn hN3 ht4 (fun h => h.elim n1 (fun h => by omega))
    have hN4 : Blk Z.drew w.heap.size #[.pointer (some ⟨R, 0, none⟩)] 86 := hN4z
    have hbsd : Blk Z.drew Bs #[.string x.1.1, .int .i64 x.1.2] 60 := hbs
    have hS4d : WS Z.drew D R X' (.slice qa P4.length na) (.slice qb K.length nb) P4 K := hS4.turn (Turns.drew (fun _ => False) Z) (fun _ _ h => h)
    have szd : Z.drew.heap.size = Z.heap.size := rfl
    obtain ⟨q5, c5, Z5, hrun5, g1, g2, X5, hS5, ht5, hx5⟩ := hS4d.on (by omega) x.1 hsk (by omega) 27
    have c0 : Z5.cell? ⟨w.heap.size, 0, none⟩ = some (.pointer (some ⟨R, 0, none⟩)) := by
     have h1 : (Z5.setCell ⟨R, 1, none⟩ (.slice q5 (K.length + 1) c5)).cell? ⟨w.heap.size, 0, none⟩ = some (.pointer (some ⟨R, 0, none⟩)) := (ht5.cell (p := ⟨w.heap.size, 0, none⟩) hN4.lt nN4).trans (hN4.cell 0 _ rfl)
     exact (World.cell?_of_block (w := Z5) (a := ⟨w.heap.size, 0, none⟩) (Below.heap_setCell _ _ _ _ (fun e => nR e))).symm.trans h1
    have nX' : ∀ b, b < D → ¬ X' b := fun b hb h => by have := (hS4.xx b h).1; omega
    have low6 : ∀ b, b < D → (Z5.setCell ⟨R, 1, none⟩ (.slice q5 (K.length + 1) c5)).heap[b]? = W3.heap[b]? := fun b hb => (ht5.block b (by omega) (nX' b hb)).trans (ht4.block b (by omega) (fun h => h.elim (kD b hb).2 (fun h => by omega)))
    have KV := ih.out (Z5.setCell ⟨R, 1, none⟩ (.slice q5 (K.length + 1) c5)) D R X5 _ _ P4 (K ++ [x.1]) x.2.1 x.2.2 us y hS5 (by have := ht5.size; omega) (hly.kept (fun b h => h) (by have := ht5.size; omega) (fun b hb _ => low6 b hb)) hok (fun i hi => (World.cell?_of_block (low6 _ hok)).trans (hcell i hi)) (by omega) (by rw [List.length_append, List.length_singleton]; omega)
    have hN6 : Blk (Z5.setCell ⟨R, 1, none⟩ (.slice q5 (K.length + 1) c5)) w.heap.size #[.pointer (some ⟨R, 0, none⟩)] 86 := blk_turn hN4 ht5 nN4
    have nN5 : ¬ X5 w.heap.size := fun h => (hx5 _ h).elim nN4 (fun h => by omega)
    have sz6 := ht5.size
    have ra0 := hN4.cell 0 _ rfl
    have rb0 := (hN4.alloc (.cells #[.string x.1.1, .int .i64 x.1.2] 60)).cell 0 _ rfl
    have ra1 := hS4d.blk.cell 1 _ rfl
    have rb1 := (hS4d.blk.alloc (.cells #[.string x.1.1, .int .i64 x.1.2] 60)).cell 1 _ rfl
    have rd0 := hbsd.cell 0 _ rfl
    have rd1 := hbsd.cell 1 _ rfl
    have ez0 : Z.cell? ⟨w.heap.size, 0, none⟩ = some (.pointer (some ⟨R, 0, none⟩)) := ra0
    have i1 : ¬ ((P4.length : Int) = 1000) := by omega
    have HKV := hide KV
    have HRUN := hide hrun5
    have H5 := hide (And.intro hS5 (And.intro ht5 hx5))
    have H4 := hide (And.intro hS4 (And.intro hx4 (And.intro ht4 hm4)))
    have HLow := hide low6
    clear KV hrun5 hS5 ht5 hx5 hS4 hx4 ht4 hm4 low6 hcell hly hS4d hwk hkid ih hN hbs hbsd
    gi_wp2
    refine wpIn_region_any (by kernel_rfl) ?_
    refine visR6 (R := R) (N := w.heap.size) (Bs := Bs) (W := Z.drew) (X := Z5) rfl rfl rfl rfl rfl rfl rfl rfl rfl rfl rfl (by kernel_rfl) (by kernel_rfl) (by kernel_rfl) (by kernel_rfl) (by kernel_rfl) (by kernel_rfl) (by kernel_rfl) (by kernel_rfl) (by kernel_rfl) (by kernel_rfl) (by kernel_rfl) (by kernel_rfl) (by kernel_rfl) (by kernel_rfl) (by kernel_rfl) (by kernel_rfl) (by kernel_rfl) (by kernel_rfl) (by kernel_rfl) (by kernel_rfl) (by kernel_rfl) (by kernel_rfl) (by kernel_rfl) (by kernel_rfl) (by kernel_rfl) (by kernel_rfl) (by kernel_rfl) (by kernel_rfl) (by kernel_rfl) (by kernel_rfl) (by kernel_rfl) (by kernel_rfl) (by kernel_rfl) (by kernel_rfl) (by kernel_rfl) ra0 ra1 rb0 rb1 c0 g1 g2 rd0 rd1 HRUN.out ?_
    generalize hZ6 : Z5.setCell ⟨R, 1, none⟩ (.slice q5 (K.length + 1) c5) = Z6 at *
    have ez6 := hN6.cell 0 _ rfl
    clear ra0 ra1 rb0 rb1 c0 g1 g2 rd0 rd1 ez0 e0 e1
    gi_wp2
    refine ⟨trivial, (CallsIn.inRound l (callsIn_wide.2 HKV.out)).mono ?_⟩
    rintro e Z7 ⟨⟨v, rfl⟩, X7, vp7, vh7, hS7, ht7, hx7⟩
    obtain ⟨⟨q8, n8, rfl⟩, ⟨q7, c7, rfl⟩, _⟩ := hS7.cells
    have hS7d := hS7.turn (Turns.drew (fun _ => False) Z7) (fun _ _ h => h)
    obtain ⟨hn7, hc7, hm7, hS8, ht8⟩ := hS7d.back
    have hl7 : (K ++ [x.1]).length = K.length + 1 := by rw [List.length_append, List.length_singleton]
    rw [hl7] at hc7 hS7 hS7d
    have hN7z : Blk Z7 w.heap.size #[.pointer (some ⟨R, 0, none⟩)] 86 := blk_turn hN6 ht7 nN5
    have hN7 : Blk Z7.drew w.heap.size #[.pointer (some ⟨R, 0, none⟩)] 86 := hN7z
    have ra0 := hN7.cell 0 _ rfl
    have ra1 := hS7d.blk.cell 1 _ rfl
    have raf := hS7d.blk.froz 1
    have hw : IntKind.i64.wrap (K.length : Int) = (K.length : Int) := by rw [IntKind.wrap_i64]; omega
    have H7 := hide (And.intro ht7 (And.intro hx7 (And.intro hS8 ht8)))
    clear ht7 hx7 hS8 ht8 hS7 hS7d ez6
    gi_wp2
    refine wpIn_region_any (by kernel_rfl) ?_
    refine visR8 (R := R) (N := w.heap.size) (W := Z7.drew) (n := K.length) (cp := c7) (q := q7) rfl rfl rfl rfl rfl rfl rfl rfl rfl rfl rfl rfl rfl rfl rfl (by kernel_rfl) (by kernel_rfl) (by kernel_rfl) (by kernel_rfl) (by kernel_rfl) (by kernel_rfl) (by kernel_rfl) (by kernel_rfl) (by kernel_rfl) (by kernel_rfl) (by kernel_rfl) (by kernel_rfl) (by kernel_rfl) (by kernel_rfl) (by kernel_rfl) (by kernel_rfl) (by kernel_rfl) (by kernel_rfl) (by kernel_rfl) (by kernel_rfl) (by kernel_rfl) (by kernel_rfl) (by kernel_rfl) (by kernel_rfl) (by kernel_rfl) (by kernel_rfl) (by kernel_rfl) (by kernel_rfl) (by kernel_rfl) (by kernel_rfl) (by kernel_rfl) (by kernel_rfl) (by kernel_rfl) (by kernel_rfl) (by kernel_rfl) (by kernel_rfl) (by kernel_rfl) (by kernel_rfl) (by kernel_rfl) (by kernel_rfl) (by kernel_rfl) (by kernel_rfl) (by kernel_rfl) (by kernel_rfl) (by kernel_rfl) (by kernel_rfl) (by kernel_rfl) (by kernel_rfl) (by kernel_rfl) (by kernel_rfl) (by kernel_rfl) (by kernel_rfl) (by kernel_rfl) (by kernel_rfl) (by kernel_rfl) (by kernel_rfl) (by kernel_rfl) (by kernel_rfl) (by kernel_rfl) (by kernel_rfl) (by kernel_rfl) (by kernel_rfl) (by kernel_rfl) (by kernel_rfl) (by kernel_rfl) (by kernel_rfl) (by kernel_rfl) (by kernel_rfl) (by kernel_rfl) (by kernel_rfl) (by kernel_rfl) (by kernel_rfl) (by kernel_rfl) (by kernel_rfl) (by kernel_rfl) ra0 ra1 raf (by omega) hw ?_
    gi_wp2
    obtain ⟨hS5, ht5, hx5⟩ := H5.out
    obtain ⟨hS4, hx4, ht4, hm4⟩ := H4.out
    obtain ⟨ht7, hx7, hS8, ht8⟩ := H7.out
    generalize Z7.drew.setCell ⟨R, 1, none⟩ (.slice q7 K.length c7) = Z8 at *
    have t46 : Turns X' Z Z6 := (Turns.drew X' Z).trans ht5 (fun _ _ h => h)
    have t47 : Turns X' Z Z7 := t46.trans ht7 (fun b hb h => (hx5 b h).elim id (fun h => by omega))
    have x7' : ∀ b, X7 b → X' b ∨ Z.heap.size ≤ b := fun b h => (hx7 b h).elim (fun h => (hx5 b h).elim .inl (fun h => .inr (by omega))) (fun h => .inr (by omega))
    have t48 : Turns X' Z Z8 := t47.trans ((Turns.drew X7 Z7).trans ht8 (fun _ _ h => h)) (fun b hb h => (x7' b h).elim id (fun h => by omega))
    have e8 : P4 ++ (allV f y).map (fun p => (K ++ [x.1]).map stL ++ p) = P ++ K.map stL :: told f (K.map stL) ((kidsP t).take (pre ++ [x]).length) := by
     rw [HP4'.out, List.length_append, List.length_singleton, HNX.out, List.append_assoc, List.cons_append, List.map_append]
     rfl
    rw [e8] at hS8
    refine ⟨⟨t48.size, fun kk oo hkk ho hoc => ?_⟩, t48.mono (fun b hb h => ⟨fun hm => (hm4 b hm).2 h, fun hk => (hx4 b h).elim hk.2 (fun h => by omega)⟩), X7, _, _, hS8, fun b h => ?_, ht4.trans t48 (fun b hb h => hx4 b h), fun b h => ⟨(hm4 b h).1, fun h7 => (x7' b h7).elim (hm4 b h).2 (fun h' => by have := hM' b h; omega)⟩⟩
    ·have hlt' := (Array.getElem?_eq_some_iff.1 ho).1
     refine (t48.block kk hlt' (fun hx => ?_)).trans ho
     obtain ⟨_, _, o2, h3, h4⟩ := hS4.xx kk hx
     rw [ho] at h3
     injection h3 with h3
     rw [h3, h4] at hoc
     cases hoc
    ·exact (x7' b h).elim (hx4 b) (fun h => .inr (by omega))
   case done =>
    rintro D' M Z hD' ⟨X', vp', vh', hS4, hx4, ht4, hm4⟩ hdf
    rw [hyl, List.take_length] at hS4
    gi_wp2
    have nD : ∀ b, X' b → b ≠ D' := fun b hb e => by
     obtain ⟨_, _, o2, h3, h4⟩ := hS4.xx b hb
     rw [e, hdf] at h3
     injection h3 with h3
     rw [← h3] at h4
     cases h4
    have tp : Turns (fun b => b = D') Z (Z.putObj D' (.deferred none)) := Turns.putObj Z D' _ rfl
    refine ⟨by simp, .inl ⟨_, _, rfl, run_takeDeferred hdf, ?_⟩⟩
    have hSE := hS4.turn tp nD
    rw [← told_all] at hSE
    refine ⟨_, results_none rfl _ _ _, ⟨_, rfl⟩, X', _, _, hSE, ?_, fun b hb => ?_⟩
    ·exact (tw3.trans ht4 (fun b hb h => h.elim (fun h => (hx1 b h).elim id (fun h => by omega)) (fun h => by omega))).trans tp (fun b hb h => by omega)
    ·exact (hx4 b hb).elim (fun h => (hx1 b h).elim .inl (fun h => .inr (by omega))) (fun h => .inr (by omega))
end Go.Proofs.YtadaehaemmelfaaDoor.paths
namespace Go.Proofs.YtadaehaemmelfaaDoor.paths
open Go.RowKit Go.Shelf
open utfs (hide unhide)
open valus (V opn opnE ent mkV parts sumOf nodesV LiesV RowIn Blk blk_alloc Turns)
def LiesPP (w : World) (q : Option Addr) (l : List (List St)) : Prop :=
 l.length ≠ 0 → ∃ B, q = some ⟨B, 0, none⟩ ∧ B < w.heap.size ∧ ∀ (i : Nat) (p : List St), l[i]? = some p → ∃ (a : Option Addr) (n : Nat), w.cell? ⟨B, i, none⟩ = some (.slice a p.length n) ∧ p.length ≤ n ∧ n ≤ maxLen ∧ LiesP w a p
theorem liesP_keep {w w' : World} {q : Option Addr} {p : List St} (h : LiesP w q p) (hb : Below w.heap.size w w') : LiesP w' q p := by
 intro hp
 obtain ⟨B, o, e, hB, hc⟩ := h hp
 refine ⟨B, o, e, Nat.lt_of_lt_of_le hB hb.size, fun j x hx => ?_⟩
 obtain ⟨key, k1, k2, k3, k4, k5⟩ := hc j x hx
 exact ⟨key, k1, k2, k3, (hb.cell (p := ⟨B, o + j * 2, none⟩) hB).trans k4, (hb.cell (p := ⟨B, o + j * 2 + 1, none⟩) hB).trans k5⟩
theorem WS.told {w : World} {D R : Nat} {X : Nat → Prop} {q : Option Addr} {n c : Nat} {vh : Value} {P : List (List St)} {K : List SK} (h : WS w D R X (.slice q n c) vh P K) : n = P.length ∧ n ≤ c ∧ LiesPP w q P := by
 obtain ⟨cs, h1, h2, h3⟩ := h.rows
 have hn : n = P.length := by obtain ⟨_, _, e⟩ := own_slice h1; injection e
 rcases h1.2 with ⟨e, e0⟩ | ⟨g, cap, cur, e, _, hg, hc, _⟩
 ·injection e with e1 e2 e3
  exact ⟨hn, by omega, fun hz => absurd e0 hz⟩
 ·injection e with e1 e2 e3
  subst e1
  refine ⟨hn, by omega, fun _ => ⟨g, rfl, (Array.getElem?_eq_some_iff.1 hg).1, fun i p hp => ?_⟩⟩
  have hi : i < P.length := (List.getElem?_eq_some_iff.1 hp).1
  have hcl : cs.length = P.length := by have := h1.1; omega
  obtain ⟨p', hp', a, m, f1, f2, f3, f4, f5⟩ := h3 i _ (List.getElem?_eq_getElem (by omega : i < cs.length))
  rw [hp] at hp'
  injection hp' with hp'
  subst hp'
  refine ⟨a, m, ?_, f2, f3, f5⟩
  have hcc := h1
  rw [← hn] at hcc
  rw [World.ownsRow.cellAt hcc i (by omega), List.getElem?_eq_getElem (by omega : i < cs.length), f1]
theorem all_any (f : Nat) (w : World) (t : V) (a0 a1 a2 a3 a4 a5 : Value) (hl : LiesV (fun b => b < w.heap.size) f w [a0, a1, a2, a3, a4, a5] t) (hn : nodesV f t ≤ 999) :
  Calls Tryd.prog 10 #[.agg #[a0, a1, a2, a3, a4, a5]] w fun e w' => ∃ q c, e = .returned (.slice q (allV f t).length c) ∧ (allV f t).length ≤ c ∧ LiesPP w' q (allV f t) ∧ Below w.heap.size w w' := by
 obtain ⟨k, n, b, s, pL, nL, cL, pE, nE, cE, rfl, rfl, rfl, rfl, rfl, rfl⟩ := hl.form
 obtain ⟨w1, hw1⟩ : ∃ w1, w1 = w.alloc (.cells #[.int .i64 k, .int .i64 n, .int .u64 (b : Int), .string s, .slice pL nL cL, .slice pE nE cE] 26) := ⟨_, rfl⟩
 obtain ⟨w2, hw2⟩ : ∃ w2, w2 = w1.alloc (.cells #[.slice none 0 0, .slice none 0 0] 65) := ⟨_, rfl⟩
 have s1 : w1.heap.size = w.heap.size + 1 := by rw [hw1]; simp
 have s2 : w2.heap.size = w1.heap.size + 1 := by rw [hw2]; simp
 have b1 : Below w.heap.size w w1 := by rw [hw1]; exact (Below.refl _ w).alloc (Nat.le_refl _) _
 have b2 : Below w1.heap.size w1 w2 := by rw [hw2]; exact (Below.refl _ w1).alloc (Nat.le_refl _) _
 have v1 : Blk w1 w.heap.size #[.int .i64 k, .int .i64 n, .int .u64 (b : Int), .string s, .slice pL nL cL, .slice pE nE cE] 26 := by rw [hw1]; exact blk_alloc _ _ _
 have v2 : Blk w2 w.heap.size #[.int .i64 k, .int .i64 n, .int .u64 (b : Int), .string s, .slice pL nL cL, .slice pE nE cE] 26 := v1.below b2
 have r2 : Blk w2 w1.heap.size #[.slice none 0 0, .slice none 0 0] 65 := by rw [hw2]; exact blk_alloc _ _ _
 have hS : WS w2 w1.heap.size w1.heap.size (fun b => b = w1.heap.size) (.slice none 0 0) (.slice none 0 0) [] [] :=
  ⟨r2, ⟨[], World.ownsRow_nil _ _ _ _, fun u h => absurd h List.not_mem_nil, fun i c h => by simp at h⟩, World.ownsRow_nil _ _ _ _, fun x h => absurd h List.not_mem_nil, rfl, fun g h => (by cases h), fun g h => (by cases h), fun q hq => by
   replace hq : q = w1.heap.size := hq
   subst hq
   exact ⟨Nat.le_refl _, by omega, _, r2, rfl⟩⟩
 have b12 : Below w.heap.size w w2 := b1.trans (b2.mono (by omega))
 have hl2 : LiesV (fun b => b < w1.heap.size) f w2 [.int .i64 k, .int .i64 n, .int .u64 (b : Int), .string s, .slice pL nL cL, .slice pE nE cE] t := hl.kept (fun q h => by omega) b12.size (fun q hq _ => b12.block q hq)
 have KV := hide (visit_all f w2 w1.heap.size w1.heap.size _ _ _ [] [] w.heap.size 0 _ t hS (by omega) hl2 (by omega) (fun i hi => by
  rw [Nat.zero_add]
  match i, hi with
  | 0, _ => exact v2.cell 0 _ rfl
  | 1, _ => exact v2.cell 1 _ rfl
  | 2, _ => exact v2.cell 2 _ rfl
  | 3, _ => exact v2.cell 3 _ rfl
  | 4, _ => exact v2.cell 4 _ rfl
  | 5, _ => exact v2.cell 5 _ rfl) (by rw [List.length_nil]; omega) (by rw [List.length_nil]; omega))
 have HB := hide b12
 have H1 := hide hw1
 have H2 := hide hw2
 rw [s1] at *
 clear hS hl2 b1 b2 v1 v2 r2 hl hw1 hw2 b12
 go_enter Tryd.func10, Tryd.ntmps10
 go_wp2_with fail
 rw [← H1.out, ← H2.out]
 refine (unhide KV).mono ?_
 rintro e w3 ⟨⟨v, rfl⟩, X', vp, vh, hS, ht, _⟩
 rw [List.nil_append, show (allV f t).map (fun p => ([] : List SK).map stL ++ p) = allV f t from by rw [show (fun p => ([] : List SK).map stL ++ p) = (fun p : List St => p) from rfl, List.map_id']] at hS
 obtain ⟨⟨q, c, rfl⟩, ⟨qh, ch, rfl⟩, e0, e1, _, _⟩ := hS.cells
 obtain ⟨_, hc, hpp⟩ := hS.told
 have hb := HB.out.trans (ht.below (n := w.heap.size) HB.out.size (fun q hq => by omega))
 have HP := hide (And.intro hc (And.intro hpp hb))
 clear hS ht KV hc hpp hb e1
 go_wp2
 go_ret
 exact ⟨_, _, rfl, HP.out⟩
end Go.Proofs.YtadaehaemmelfaaDoor.paths
namespace Go.Proofs.YtadaehaemmelfaaDoor.paths
open Go.RowKit
open utfs (hide unhide)
open valus (Blk blk_alloc Turns)
def PathOut (w : World) (R : Nat) (v : Value) (X : Nat → Prop) (c : Value) (p : List St) : Prop :=
 ∃ q n, c = .slice q p.length n ∧ p.length ≤ n ∧ n ≤ maxLen ∧ (p.length = 0 → q = none ∧ n = 0) ∧ (p.length ≠ 0 → ∃ B o, q = some ⟨B, o, none⟩ ∧ X B ∧ B ≠ R ∧ v.ownBlock ≠ some B) ∧ LiesP w q p
structure OS (w : World) (D R : Nat) (X : Nat → Prop) (v : Value) (P : List (List St)) : Prop where
 blk : Blk w R #[v] 34
 rows : ∃ cs : List Value, w.ownsRow D 27 1 v P.length cs ∧ (∀ u ∈ cs, u.oneCell' = true) ∧ ∀ (i : Nat) (c : Value), cs[i]? = some c → ∃ p, P[i]? = some p ∧ PathOut w R v X c p
 xr : X R
 xp : ∀ g, v.ownBlock = some g → X g ∧ g ≠ R
 xx : ∀ b, X b → D ≤ b ∧ b < w.heap.size
theorem OS.turn {w w' : World} {D R : Nat} {X M : Nat → Prop} {v : Value} {P : List (List St)} (h : OS w D R X v P) (ht : Turns M w w') (hm : ∀ b, X b → ¬ M b) : OS w' D R X v P := by
 obtain ⟨cs, h1, h2, h3⟩ := h.rows
 refine ⟨(ht.block R h.blk.lt (hm R h.xr)).trans h.blk, ⟨cs, own_turns h1 ht (fun g hg => hm g (h.xp g hg).1), h2, fun i c hi => ?_⟩, h.xr, h.xp, fun b hb => ⟨(h.xx b hb).1, Nat.lt_of_lt_of_le (h.xx b hb).2 ht.size⟩⟩
 obtain ⟨p, hp, q, n, e1, e2, e3, e0, e4, e5⟩ := h3 i c hi
 refine ⟨p, hp, q, n, e1, e2, e3, e0, e4, liesP_turn e5 ht (fun hz B o e => ?_)⟩
 obtain ⟨B', o', e', hx, _⟩ := e4 hz
 rw [e] at e'
 injection e' with e'
 injection e' with e' _
 subst e'
 exact hm _ hx
theorem OS.cells {w : World} {D R : Nat} {X : Nat → Prop} {v : Value} {P : List (List St)} (h : OS w D R X v P) : (∃ q c, v = .slice q P.length c) ∧ w.cell? ⟨R, 0, none⟩ = some v ∧ w.frozen? ⟨R, 0, none⟩ = false := by
 obtain ⟨cs, h1, h2, h3⟩ := h.rows
 refine ⟨?_, h.blk.cell 0 _ rfl, h.blk.froz 0⟩
 rcases h1.2 with ⟨e, e0⟩ | ⟨g, cap, cur, e, _⟩
 ·rw [e0]; exact ⟨_, _, e⟩
 ·exact ⟨_, _, e⟩
theorem OS.tell {w wc : World} {D R : Nat} {X : Nat → Prop} {v c : Value} {P : List (List St)} {K : List SK} (h : OS w D R X v P) (hD : D ≤ w.heap.size) (hl : P.length ≤ 100000) (hk : SkOk K) (hk0 : K.length ≠ 0) (hc : wc.ownsRow w.heap.size 60 2 c K.length (K.flatMap stC)) (hb : Below w.heap.size w wc) (ty : TypeId) :
  ∃ q n W', (Builtin.append_ #[34, 34] ty #[v, .slice (some ⟨wc.heap.size, 0, none⟩) 1 1]).run Tryd.prog (wc.alloc (.cells #[c] 27)) = .ok (.slice q (P.length + 1) n) W' ∧ W'.cell? ⟨R, 0, none⟩ = some v ∧ W'.frozen? ⟨R, 0, none⟩ = false ∧
   ∃ X' : Nat → Prop, OS (W'.setCell ⟨R, 0, none⟩ (.slice q (P.length + 1) n)) D R X' (.slice q (P.length + 1) n) (P ++ [K.map stL]) ∧ Turns X w (W'.setCell ⟨R, 0, none⟩ (.slice q (P.length + 1) n)) ∧ ∀ b, X' b → X b ∨ w.heap.size ≤ b := by
 obtain ⟨i0, hi, hz0, hz1, hz2⟩ := info_parts infoSteps
 obtain ⟨cs, h1, h2, h3⟩ := h.rows
 have hbu : Below w.heap.size w (wc.alloc (.cells #[c] 27)) := hb.alloc hb.size _
 have tu : Turns (fun _ => False) w (wc.alloc (.cells #[c] 27)) := ⟨hbu.os, hbu.tape, hbu.output, hbu.size, fun b hb' _ => hbu.block b hb'⟩
 have hu := h.turn tu (fun _ _ h => h)
 have hou : (wc.alloc (.cells #[c] 27)).ownsRow D 27 1 v P.length cs := own_turns h1 tu (fun _ _ h => h)
 obtain ⟨qc, nc, hcf⟩ := own_slice hc
 have hc1 : c.oneCell' = true := by rw [hcf]; rfl
 have hsu : (wc.alloc (.cells #[c] 27)).heap.size = wc.heap.size + 1 := by simp
 obtain ⟨v', W', hrun, hown, hgrow, _, hat⟩ := run_append_own_at (P := Tryd.prog) _ D 34 ty 27 i0 _ 1 24 Tryd.underlying34 hi hz0 hz1 hz2 rfl (by decide) v P.length cs hou ⟨wc.heap.size, 0, none⟩ 1 1 [c] rfl
  (fun j u hu => by
   have := World.news_of_block (blk_alloc wc #[c] 27) j u hu
   exact this) (fun u hu => by rw [List.mem_singleton.1 hu]; exact hc1) (by unfold maxLen; omega) (by omega) (by have := hb.size; omega)
 obtain ⟨q, n, rfl⟩ := own_slice hown
 have gb : ∀ b, b < wc.heap.size + 1 → v.ownBlock ≠ some b → W'.heap[b]? = (wc.alloc (.cells #[c] 27)).heap[b]? := fun b hb' hn => hgrow.block b (by omega) (fun e => hn e.symm)
 have nR : v.ownBlock ≠ some R := fun e => (h.xp R e).2 rfl
 have hRw : R < w.heap.size := (h.xx R h.xr).2
 have bR : Blk W' R #[v] 34 := (gb R (by have := hb.size; omega) nR).trans hu.blk
 have hat' : ∀ g, (Value.slice q (P.length + 1) n).ownBlock = some g → v.ownBlock = some g ∨ g = wc.heap.size + 1 := fun g hg => by
  rcases hat with e | e
  ·exact .inl (e ▸ hg)
  ·rw [hg] at e
   injection e with e
   exact .inr (by omega)
 have gS : wc.heap.size + 1 ≤ W'.heap.size := by have := hgrow.size; omega
 have hbs := hb.size
 have cB : ∀ B, c.ownBlock = some B → w.heap.size ≤ B ∧ B < wc.heap.size := fun B e => World.ownsRow.lt hc B e
 obtain ⟨X', hX'⟩ : ∃ X' : Nat → Prop, X' = fun b => (X b ∧ v.ownBlock ≠ some b) ∨ c.ownBlock = some b ∨ (Value.slice q (P.length + 1) n).ownBlock = some b := ⟨_, rfl⟩
 have tW : Turns (fun b => v.ownBlock = some b) w W' := ⟨hgrow.os.trans hbu.os, hgrow.tape.trans hbu.tape, hgrow.output.trans hbu.output, by omega, fun b hb' hn => (gb b (by omega) hn).trans (hbu.block b hb')⟩
 have tF : Turns X w (W'.setCell ⟨R, 0, none⟩ (.slice q (P.length + 1) n)) := (tW.mono fun b _ e => (h.xp b e).1).trans (Turns.setCell (M := fun b => b = R) _ _ _ rfl) (fun b _ e => by rw [e]; exact h.xr)
 have ts : Turns (fun b => b = R) W' (W'.setCell ⟨R, 0, none⟩ (.slice q (P.length + 1) n)) := Turns.setCell _ _ _ rfl
 have nq : ∀ g, (Value.slice q (P.length + 1) n).ownBlock = some g → g ≠ R := fun g hg => by
  rcases hat' g hg with e | e
  ·exact (h.xp g e).2
  ·omega
 have hcW : W'.ownsRow w.heap.size 60 2 c K.length (K.flatMap stC) := by
  have t1 : Turns (fun _ => False) wc (wc.alloc (.cells #[c] 27)) := Turns.alloc _ _ _
  have t2 : Turns (fun b => v.ownBlock = some b) (wc.alloc (.cells #[c] 27)) W' := ⟨hgrow.os, hgrow.tape, hgrow.output, hgrow.size, fun b hb' hn => hgrow.block b hb' (fun e => hn e.symm)⟩
  refine own_turns (own_turns hc t1 (fun _ _ h => h)) t2 (fun g hg e => ?_)
  have := (h.xx g (h.xp g e).1).2
  have := (cB g hg).1
  omega
 have hcF : (W'.setCell ⟨R, 0, none⟩ (.slice q (P.length + 1) n)).ownsRow w.heap.size 60 2 c K.length (K.flatMap stC) := own_turns hcW ts (fun g hg e => by have := (cB g hg).1; omega)
 refine ⟨q, n, W', hrun, bR.cell 0 _ rfl, bR.froz 0, X', ⟨?_, ?_, ?_, ?_, ?_⟩, tF, ?_⟩
 ·exact bR.set 0 _
 ·refine ⟨cs ++ [c], ?_, ?_, ?_⟩
  ·rw [List.length_append]
   exact own_turns hown ts (fun g hg e => nq g hg e)
  ·intro u hu
   rcases List.mem_append.1 hu with hu | hu
   ·exact h2 u hu
   ·rw [List.mem_singleton.1 hu]; exact hc1
  ·intro i c' hi'
   have hcl : cs.length = P.length := by have := h1.1; omega
   by_cases hlt : i < cs.length
   ·rw [List.getElem?_append_left hlt] at hi'
    obtain ⟨p, hp, q', n', e1, e2, e3, e0, e4, e5⟩ := h3 i c' hi'
    refine ⟨p, by rw [List.getElem?_append_left (by omega)]; exact hp, q', n', e1, e2, e3, e0, fun hz => ?_, ?_⟩
    ·obtain ⟨B, o, f1, f2, f3, f4⟩ := e4 hz
     refine ⟨B, o, f1, by rw [hX']; exact .inl ⟨f2, f4⟩, f3, fun e => ?_⟩
     rcases hat' B e with e | e
     ·exact f4 e
     ·have := (h.xx B f2).2; omega
    ·refine liesP_turn (liesP_turn e5 tW (fun hz B o e => ?_)) ts (fun hz B o e => ?_)
     ·obtain ⟨B', o', f1, f2, f3, f4⟩ := e4 hz
      rw [e] at f1
      injection f1 with f1
      injection f1 with f1 _
      subst f1
      exact f4
     ·obtain ⟨B', o', f1, f2, f3, f4⟩ := e4 hz
      rw [e] at f1
      injection f1 with f1
      injection f1 with f1 _
      subst f1
      exact f3
   ·have hi2 : i = cs.length := by
     have := (List.getElem?_eq_some_iff.1 hi').1
     rw [List.length_append, List.length_singleton] at this
     omega
    subst hi2
    rw [List.getElem?_append_right (Nat.le_refl _), Nat.sub_self] at hi'
    injection hi' with hi'
    subst hi'
    obtain ⟨p', c', f1, f2, f3, f4⟩ := liesP_own hcF hk
    refine ⟨K.map stL, by rw [hcl, List.getElem?_append_right (Nat.le_refl _), Nat.sub_self]; rfl, p', c', by rw [List.length_map]; exact f1, by rw [List.length_map]; exact f2, ?_, fun hz => absurd (by rw [List.length_map] at hz; exact hz) hk0, fun hz => ?_, f3⟩
    ·rcases hcF.2 with ⟨e, _⟩ | ⟨g, cap, cur, e, _, _, _, hm, _⟩
     ·rw [e] at f1; injection f1 with _ _ f1; rw [← f1]; exact Nat.zero_le _
     ·rw [e] at f1; injection f1 with _ _ f1; rw [← f1]; exact hm
    ·obtain ⟨B, o, e, hB, _⟩ := f3 hz
     have hcB : c.ownBlock = some B := by rw [f1, e]; rfl
     obtain ⟨k1, k2⟩ := cB B hcB
     refine ⟨B, o, e, by rw [hX']; exact .inr (.inl hcB), by omega, fun e' => ?_⟩
     rcases hat' B e' with e' | e'
     ·have := (h.xx B (h.xp B e').1).2; omega
     ·omega
 ·rw [hX']; exact .inl ⟨h.xr, nR⟩
 ·intro g hg
  exact ⟨by rw [hX']; exact .inr (.inr hg), nq g hg⟩
 ·intro b hb'
  rw [hX'] at hb'
  have sz : (W'.setCell ⟨R, 0, none⟩ (.slice q (P.length + 1) n)).heap.size = W'.heap.size := by simp [World.setCell]
  rw [sz]
  rcases hb' with ⟨hx, hv⟩ | hx | hx
  ·have := h.xx b hx; omega
  ·have := cB b hx; omega
  ·exact World.ownsRow.lt hown b hx
 ·intro b hb'
  rw [hX'] at hb'
  rcases hb' with ⟨hx, _⟩ | hx | hx
  ·exact .inl hx
  ·exact .inr (cB b hx).1
  ·rcases hat' b hx with e | e
   ·exact .inl (h.xp b e).1
   ·exact .inr (by omega)
def LiesPN (w : World) (D : Nat) (q : Option Addr) (l : List (List St)) : Prop :=
 l.length ≠ 0 → ∃ B, q = some ⟨B, 0, none⟩ ∧ D ≤ B ∧ B < w.heap.size ∧ ∀ (i : Nat) (p : List St), l[i]? = some p → ∃ (a : Option Addr) (n : Nat), w.cell? ⟨B, i, none⟩ = some (.slice a p.length n) ∧ p.length ≤ n ∧ n ≤ maxLen ∧ (p.length = 0 → a = none ∧ n = 0) ∧ (p.length ≠ 0 → ∀ b o, a = some ⟨b, o, none⟩ → D ≤ b) ∧ LiesP w a p
theorem LiesPN.pp {w : World} {D : Nat} {q : Option Addr} {l : List (List St)} (h : LiesPN w D q l) : LiesPP w q l := fun hl => by
 obtain ⟨B, e, _, hB, hc⟩ := h hl
 exact ⟨B, e, hB, fun i p hp => by obtain ⟨a, n, k1, k2, k3, _, _, k4⟩ := hc i p hp; exact ⟨a, n, k1, k2, k3, k4⟩⟩
theorem LiesPN.turn {w w' : World} {D : Nat} {M : Nat → Prop} {q : Option Addr} {l : List (List St)} (h : LiesPN w D q l) (ht : Turns M w w') (hm : ∀ b, D ≤ b → b < w.heap.size → ¬ M b) : LiesPN w' D q l := fun hl => by
 obtain ⟨B, e, hD, hB, hc⟩ := h hl
 refine ⟨B, e, hD, Nat.lt_of_lt_of_le hB ht.size, fun i p hp => ?_⟩
 obtain ⟨a, n, k1, k2, k3, k0, k5, k4⟩ := hc i p hp
 refine ⟨a, n, (ht.cell (p := ⟨B, i, none⟩) hB (hm B hD hB)).trans k1, k2, k3, k0, k5, ?_⟩
 intro hp0
 obtain ⟨b, o, ea, hb, hcc⟩ := k4 hp0
 exact liesP_turn k4 ht (fun _ b' o' e' => by
  rw [ea] at e'
  injection e' with e'
  injection e' with e' _
  subst e'
  exact hm b (k5 hp0 b o ea) hb) hp0
theorem OS.out {w : World} {D R : Nat} {X : Nat → Prop} {q : Option Addr} {n c : Nat} {P : List (List St)} (h : OS w D R X (.slice q n c) P) : n = P.length ∧ n ≤ c ∧ LiesPN w D q P := by
 obtain ⟨cs, h1, h2, h3⟩ := h.rows
 have hn : n = P.length := by obtain ⟨_, _, e⟩ := own_slice h1; injection e
 rcases h1.2 with ⟨e, e0⟩ | ⟨g, cap, cur, e, _, hg, hc, _⟩
 ·injection e with e1 e2 e3
  exact ⟨hn, by omega, fun hz => absurd e0 hz⟩
 ·injection e with e1 e2 e3
  subst e1
  refine ⟨hn, by omega, fun _ => ⟨g, rfl, (h.xx g (h.xp g rfl).1).1, (Array.getElem?_eq_some_iff.1 hg).1, fun i p hp => ?_⟩⟩
  have hi : i < P.length := (List.getElem?_eq_some_iff.1 hp).1
  have hcl : cs.length = P.length := by have := h1.1; omega
  obtain ⟨p', hp', a, m, f1, f2, f3, f0, f4, f5⟩ := h3 i _ (List.getElem?_eq_getElem (by omega : i < cs.length))
  rw [hp] at hp'
  injection hp' with hp'
  subst hp'
  refine ⟨a, m, ?_, f2, f3, f0, fun hz b o e => (by
   obtain ⟨b', o', e', hx, _⟩ := f4 hz
   rw [e] at e'
   injection e' with e'
   injection e' with e' _
   subst e'
   exact (h.xx b hx).1), f5⟩
  have hcc := h1
  rw [← hn] at hcc
  rw [World.ownsRow.cellAt hcc i (by omega), List.getElem?_eq_getElem (by omega : i < cs.length), f1]
theorem cons_run (w : World) (x : SK) (hx : x.1.size ≤ 9223372036854775807 ∧ -9223372036854775808 ≤ x.2 ∧ x.2 ≤ 9223372036854775807) (a : Option Addr) (n : Nat) (p : List St) (hp : LiesP w a p) (h0 : p.length = 0 → a = none ∧ n = 0) (hl : p.length ≤ 100000) (ty : TypeId) :
  ∃ q c W' K, (Builtin.append_ #[27, 27] ty #[.slice (some ⟨w.heap.size, 0, none⟩) 1 1, .slice a p.length n]).run Tryd.prog (w.alloc (.cells #[.string x.1, .int .i64 x.2] 60)) = .ok (.slice q (p.length + 1) c) W' ∧
   K.map stL = stL x :: p ∧ SkOk K ∧ W'.ownsRow w.heap.size 60 2 (.slice q (p.length + 1) c) K.length (K.flatMap stC) ∧ Below w.heap.size w W' := by
 obtain ⟨i0, hi, hz0, hz1, hz2⟩ := info_parts infoStep
 obtain ⟨K, hK, hok, hrow⟩ := hp.sk
 have hKl : K.length = p.length := by rw [← hK, List.length_map]
 have hb1 : Below w.heap.size w (w.alloc (.cells #[.string x.1, .int .i64 x.2] 60)) := (Below.refl _ w).alloc (Nat.le_refl _) _
 have hs1 : (w.alloc (.cells #[.string x.1, .int .i64 x.2] 60)).heap.size = w.heap.size + 1 := by simp
 have hown : (w.alloc (.cells #[.string x.1, .int .i64 x.2] 60)).ownsRow w.heap.size 60 2 (.slice (some ⟨w.heap.size, 0, none⟩) 1 1) 1 (stC x) := World.ownsRow_lit (base := w.heap.size) (e := 60) (size := 2) w #[.string x.1, .int .i64 x.2] 1 (Nat.le_refl _) (by decide) rfl
 have hokx : SkOk (x :: K) := fun y hy => by
  rcases List.mem_cons.1 hy with rfl | hy
  ·exact hx
  ·exact hok y hy
 by_cases hz : p.length = 0
 ·obtain ⟨rfl, rfl⟩ := h0 hz
  have hp0 : p = [] := List.eq_nil_of_length_eq_zero hz
  have hK0 : K = [] := List.eq_nil_of_length_eq_zero (by omega)
  subst hp0 hK0
  refine ⟨some ⟨w.heap.size, 0, none⟩, 1, _, [x], ?_, rfl, hokx, hown, hb1⟩
  have hnc := blk_alloc w #[.string x.1, .int .i64 x.2] 60
  simp [Builtin.append_, run_underlying Tryd.underlying27, sizeOf, typeInfo, hi, Builtin.lenOf, Builtin.firstCells, storeCells]
 ·obtain ⟨b, o, rfl, hbl, hcl⟩ := hrow hz
  obtain ⟨v', W', hrun, hown', hgrow, _, _⟩ := run_append_own_at (P := Tryd.prog) _ w.heap.size 27 ty 60 i0 _ 2 24 Tryd.underlying27 hi hz0 hz1 hz2 rfl (by decide) _ 1 _ hown ⟨b, o, none⟩ p.length n (K.flatMap stC) (by rw [st_flat_len, hKl])
   (fun j u hu => by
    rw [add_cellP]
    exact (hb1.cell (p := ⟨b, o + j, none⟩) hbl).trans (hcl j u hu)) (st_one K) (by unfold maxLen; omega) (by omega) (by omega)
  rw [Nat.add_comm 1] at hown'
  obtain ⟨q, c, rfl⟩ := own_slice hown'
  refine ⟨q, c, W', x :: K, hrun, by rw [List.map_cons, hK], hokx, ?_, hb1.grown hgrow (by omega) (fun g hg => ?_)⟩
  ·rw [List.length_cons, hKl, List.flatMap_cons]
   exact hown'
  ·replace hg : some w.heap.size = some g := hg
   injection hg with hg
   exact Nat.le_of_eq hg
end Go.Proofs.YtadaehaemmelfaaDoor.paths
