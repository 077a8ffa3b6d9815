/- Of our texts, what this claim reaches. -/
import Derived.Test.YtnbfnjhbmeocfabGreatDoorPssBX
import Derived.Test.YtnbfnjhbmeocfabGreatDoorPssAG
import Derived.Maps.OwnIn
set_option linter.unusedVariables false
set_option maxHeartbeats 4000000
set_option maxRecDepth 100000
namespace Go.Proofs.YtnbfnjhbmeocfabGreatDoor.valus
open Go.RowKit Go.Shelf
attribute [local go_sem] Oper.semAt_some
def KidsP (M : Nat → Prop) (W : World) (x : Pr) (kids : List Pr) : Prop :=
 ∃ (A a B b : Nat) (pL qL pE qE : Option Addr) (nL cL mL dL cE dE : Nat) (ks ks' : List (List UInt8)), x = (some ⟨A, a, none⟩, some ⟨B, b, none⟩, 0) ∧ ¬ M A ∧ ¬ M B ∧ A < W.heap.size ∧ B < W.heap.size ∧
  W.cell? ⟨A, a + 4, none⟩ = some (.slice pL nL cL) ∧ W.cell? ⟨B, b + 4, none⟩ = some (.slice qL mL dL) ∧ W.cell? ⟨A, a + 5, none⟩ = some (.slice pE ks.length cE) ∧ W.cell? ⟨B, b + 5, none⟩ = some (.slice qE ks'.length dE) ∧
  (nL ≠ 0 → ∃ b q, pL = some ⟨b, q, none⟩) ∧ (mL ≠ 0 → ∃ b q, qL = some ⟨b, q, none⟩) ∧ KeysAt (fun b => ¬ M b) W pE ks ∧ KeysAt (fun b => ¬ M b) W qE ks' ∧
  (nL ≤ 9223372036854775807 ∧ mL ≤ 9223372036854775807 ∧ ks.length ≤ 9223372036854775807 ∧ ks'.length ≤ 9223372036854775807) ∧ kids = kidsP pL qL pE qE nL mL ks ks'
theorem cell_three_new' (w : World) (x y z : Value) (t : TypeId) : ∀ j u, [x, y, z][j]? = some u → (w.alloc (.cells #[x, y, z] t)).cell? ((⟨w.heap.size, 0, none⟩ : Addr).add j) = some u :=
 fun j u hu => by
  have hb := blk_alloc w #[x, y, z] t
  match j, hu with
  | 0, hu => exact hb.cell 0 u hu
  | 1, hu => exact hb.cell 1 u hu
  | 2, hu => exact hb.cell 2 u hu
theorem infoP : (Tryz.prog.info? 89).map (fun i => (i.zero, i.size, i.bytes)) = some (some (.agg #[.pointer none, .pointer none, .int .i64 0]), 3, 24) := by kernel_rfl
structure WaitP (w : World) (Bw g cap : Nat) (st : List Pr) : Prop where
 box : Boxed w Bw 153 (.slice (some ⟨g, 0, none⟩) st.length cap)
 own : w.ownsRow 0 89 3 (.slice (some ⟨g, 0, none⟩) st.length cap) st.length (st.flatMap cellsP)
theorem WaitP.kept {w w' : World} {Bw g cap : Nat} {st : List Pr} (h : WaitP w Bw g cap st) (hb : w'.heap[Bw]? = w.heap[Bw]?) (hg : w'.heap[g]? = w.heap[g]?) : WaitP w' Bw g cap st := by
 refine ⟨by unfold Boxed; rw [hb]; exact h.box, ?_⟩
 obtain ⟨hl, h2 | ⟨g', cap', cur, e, hb, r1, r2⟩⟩ := h.own
 ·obtain ⟨h2, _⟩ := h2
  cases h2
 ·cases e
  exact ⟨hl, .inr ⟨g, cap, cur, rfl, hb, hg.trans r1, r2⟩⟩
theorem WaitP.lt {w : World} {Bw g cap : Nat} {st : List Pr} (h : WaitP w Bw g cap st) : g < w.heap.size := (World.ownsRow.lt h.own g rfl).2
theorem WaitP.cap {w : World} {Bw g cap : Nat} {st : List Pr} (h : WaitP w Bw g cap st) : st.length ≤ cap := by
 obtain ⟨hl, h2 | ⟨g', cap', cur, e, hb, r1, r2, r3⟩⟩ := h.own
 ·obtain ⟨h2, _⟩ := h2
  cases h2
 ·cases e
  exact r2
theorem WaitP.last {w : World} {Bw g cap : Nat} {st : List Pr} {x : Pr} (h : WaitP w Bw g cap (st ++ [x])) : w.cell? ⟨g, st.length * 3, none⟩ = some (.pointer x.1) ∧ w.cell? ⟨g, st.length * 3 + 1, none⟩ = some (.pointer x.2.1) ∧ w.cell? ⟨g, st.length * 3 + 2, none⟩ = some (.int .i64 x.2.2) := by
 have l := flat_len cellsP 3 (fun _ => rfl) st
 refine ⟨?_, ?_, ?_⟩
 ·rw [World.ownsRow.cellAt h.own _ (by simp), List.flatMap_append, List.getElem?_append_right (by omega), l]
  simp [cellsP]
 ·rw [World.ownsRow.cellAt h.own _ (by simp; omega), List.flatMap_append, List.getElem?_append_right (by omega), l]
  simp [cellsP]
 ·rw [World.ownsRow.cellAt h.own _ (by simp; omega), List.flatMap_append, List.getElem?_append_right (by omega), l]
  simp [cellsP]
theorem WaitP.pop {w : World} {Bw g cap : Nat} {st : List Pr} {x : Pr} (h : WaitP w Bw g cap (st ++ [x])) : WaitP (w.setCell ⟨Bw, 0, none⟩ (.slice (some ⟨g, 0, none⟩) st.length cap)) Bw g cap st := by
 have l := flat_len cellsP 3 (fun _ => rfl) st
 refine ⟨h.box.set _, ?_⟩
 have hne : some g ≠ some Bw := fun e => h.box.not_row (by decide) h.own (by rw [← e]; rfl)
 have o2 := World.ownsRow.kept h.own (grownBy_setCell' w Bw (.slice (some ⟨g, 0, none⟩) st.length cap)) (.inr hne)
 obtain ⟨hl, h2 | ⟨g', cap', cur, e, hb, r1, r2, r3, r4, r5⟩⟩ := o2
 ·obtain ⟨h2, _⟩ := h2
  cases h2
 ·cases e
  simp only [List.length_append, List.length_cons, List.length_nil, Nat.zero_add] at r2 r5
  refine ⟨l, .inr ⟨g, cap, cur, rfl, hb, r1, by omega, r3, r4, ?_⟩⟩
  have e5 := congrArg (List.take (st.length * 3)) r5
  rw [List.take_take, Nat.min_eq_left (by omega), List.flatMap_append, ← l, List.take_left] at e5
  rw [← l]
  exact e5
def InvP {σ : Type} (J : (Nat → Prop) → σ → World → Prop) (todo : σ → List Pr) (mu : σ → Nat) (l b1 b2 Bw : Nat) (m : Nat) (a : Act) (X : World) : Prop :=
 ∃ (ds : List Nat) (M : Nat → Prop) (s : σ) (g cap : Nat), (∃ u5 u6 u7 u8 u9 u10 u11 u12 u13 u14 u15 u16 u17 u18 u19 u20 u21 u22 u23 u24 u25 u26 u27 u28 u29 u30 u31 u32 u33 u34 u35 u36 u37 u38 : Value, a = { tmps := #[Value.func (Fn.yield l) #[] #[], Value.pointer (some ⟨b1, 0, none⟩), Value.pointer (some ⟨b2, 0, none⟩), undef, Value.pointer (some ⟨Bw, 0, none⟩), u5, u6, u7, u8, u9, u10, u11, u12, u13, u14, u15, u16, u17, u18, u19, u20, u21, u22, u23, u24, u25, u26, u27, u28, u29, u30, u31, u32, u33, u34, u35, u36, u37, u38], defers := marks ds }) ∧
  m = mu s ∧ J M s X ∧ (∀ b, M b → b < X.heap.size) ∧ (M Bw ∧ M g ∧ M b2) ∧ (∀ D, D ∈ ds → M D ∧ X.heap[D]? = some (.deferred (some []))) ∧ ds.Nodup ∧ X.heap[b2]? = some (.cells #[.func (.func 63) #[] #[]] 118) ∧ WaitP X Bw g cap (todo s).reverse
theorem walkP_in (b1 b2 : Nat) (first : Pr) {σ : Type} (todo : σ → List Pr) (mu : σ → Nat) (w : World)
  (h1 : w.heap[b1]? = some (.cells #[.pointer first.1, .pointer first.2.1, .int .i64 first.2.2] 89)) (h2 : w.heap[b2]? = some (.cells #[.func (.func 63) #[] #[]] 118)) :
  Walks Tryz.prog 101 #[.pointer (some ⟨b1, 0, none⟩), .pointer (some ⟨b2, 0, none⟩)] encP todo mu KidsP first (fun b => b = b1 ∨ b = b2) w := by
 intro l J Jx s0 W hJ hJx hY hlen hW hs0 h0
 have lt1 : b1 < w.heap.size := (Array.getElem?_eq_some_iff.1 h1).1
 have lt2 : b2 < w.heap.size := (Array.getElem?_eq_some_iff.1 h2).1
 have g1 := (hW.block b1 lt1).trans h1
 have g2 := (hW.block b2 lt2).trans h2
 have c10 : W.cell? ⟨b1, 0, none⟩ = some (.pointer first.1) := Blk.cell (t := 89) g1 0 _ rfl
 have c11 : W.cell? ⟨b1, 1, none⟩ = some (.pointer first.2.1) := Blk.cell (t := 89) g1 1 _ rfl
 have c12 : W.cell? ⟨b1, 2, none⟩ = some (.int .i64 first.2.2) := Blk.cell (t := 89) g1 2 _ rfl
 refine callsIn_of_wp_marks Tryz.func101 rfl trivial ?_ rfl
 simp only [Tryz.ntmps101, List.size_toArray, List.length_cons, List.length_nil, Nat.reduceAdd, Nat.reduceSub, Array.replicate_succ, Array.replicate_zero, List.push_toArray, List.append_toArray, List.nil_append, List.cons_append]
 gi_wp2
 refine loop_ghost (InvP J todo mu l b1 b2 (W.heap.size + 1)) (mu s0) ?start ?step
 case start =>
  have hn1 : Boxed ((W.alloc (.cells #[.pointer first.1, .pointer first.2.1, .int .i64 first.2.2] 89)).alloc (.cells #[.slice (some ⟨W.heap.size, 0, none⟩) 1 1] 153)) (W.heap.size + 1) 153 (.slice (some ⟨W.heap.size, 0, none⟩) 1 1) := by
   have := Boxed.new (W.alloc (.cells #[.pointer first.1, .pointer first.2.1, .int .i64 first.2.2] 89)) 153 (.slice (some ⟨W.heap.size, 0, none⟩) 1 1)
   rwa [World.size_alloc] at this
  have hn2 : Blk ((W.alloc (.cells #[.pointer first.1, .pointer first.2.1, .int .i64 first.2.2] 89)).alloc (.cells #[.slice (some ⟨W.heap.size, 0, none⟩) 1 1] 153)) W.heap.size #[.pointer first.1, .pointer first.2.1, .int .i64 first.2.2] 89 := (blk_alloc W _ _).alloc _
  refine ⟨[], fun b => (b = b1 ∨ b = b2) ∨ (W.heap.size ≤ b ∧ b < W.heap.size + 2), s0, W.heap.size, 1, ⟨_, _, _, _, _, _, _, _, _, _, _, _, _, _, _, _, _, _, _, _, _, _, _, _, _, _, _, _, _, _, _, _, _, _, rfl⟩, rfl, ?_, ?_, ⟨.inr ⟨by omega, by omega⟩, .inr ⟨by omega, by omega⟩, .inl (.inr rfl)⟩, by simp, by simp, ?_, ?_⟩
  ·exact hJ _ _ s0 W _ h0 ((Turns.alloc _ _ _).trans (Turns.alloc (fun _ => False) _ _) (fun b _ h => h.elim)) (fun b h => h.elim .inl (fun h => .inr h.1))
  ·intro b hb
   have := hW.size
   simp only [World.size_alloc]
   omega
  ·exact (Below.heap_alloc _ _ _ (by have := hW.size; simp only [World.size_alloc]; omega)).trans ((Below.heap_alloc _ _ _ (by have := hW.size; omega)).trans g2)
  ·rw [hs0]
   exact ⟨hn1, rfl, .inr ⟨_, _, _, rfl, Nat.zero_le _, hn2, Nat.le_refl _, by unfold maxLen; decide, rfl, rfl⟩⟩
 case step =>
  rintro m a X ⟨ds, M, s, g, cap, ⟨u5, u6, u7, u8, u9, u10, u11, u12, u13, u14, u15, u16, u17, u18, u19, u20, u21, u22, u23, u24, u25, u26, u27, u28, u29, u30, u31, u32, u33, u34, u35, u36, u37, u38, rfl⟩, rfl, hj, hM, ⟨m1, m2, m3⟩, hds, hnd, hb2, hw⟩
  have cw := hw.box.cell
  have fw := hw.box.frozen
  have hl := hlen M s X hj
  cases ht : todo s with
  | nil =>
   rw [ht] at cw
   simp only [List.reverse_nil, List.length_nil] at cw
   gi_wp2
   exact leave_marks rfl ds X hnd (fun D hD => (hds D hD).2) (fun W' ht' => ⟨⟨_, rfl⟩, M, .inl ⟨s, ht, hJ M M s X W' hj (ht'.mono fun b _ hb => (hds b hb).1) (fun b h => .inl h)⟩⟩)
  | cons x rest =>
   rw [ht] at cw hw hl
   simp only [List.reverse_cons, List.length_append, List.length_reverse, List.length_cons, List.length_nil, Nat.zero_add] at cw hw hl
   obtain ⟨k0, k1, k2⟩ := hw.last
   rw [List.length_reverse] at k0 k1 k2
   have hcap : rest.length + 1 ≤ cap := by have := hw.cap; simpa using this
   obtain ⟨A1, hA1⟩ : ∃ A1, A1 = X.alloc (.cells #[.pointer x.1, .pointer x.2.1, .int .i64 x.2.2] 89) := ⟨_, rfl⟩
   obtain ⟨Wa, hWa⟩ : ∃ Wa, Wa = A1.setCell ⟨W.heap.size + 1, 0, none⟩ (.slice (some ⟨g, 0, none⟩) rest.length cap) := ⟨_, rfl⟩
   have bw1 : Boxed A1 (W.heap.size + 1) 153 (.slice (some ⟨g, 0, none⟩) (rest.length + 1) cap) := by rw [hA1]; have := hw.box.alloc (.cells #[.pointer x.1, .pointer x.2.1, .int .i64 x.2.2] 89); simpa using this
   have cw1 := bw1.cell
   have fw1 := bw1.frozen
   have nb : Blk Wa X.heap.size #[.pointer x.1, .pointer x.2.1, .int .i64 x.2.2] 89 := by
    rw [hWa, hA1]
    exact (blk_alloc X _ _).set_other _ _ (fun e => by have := hw.box.lt; simp only at e; omega)
   have n0 := nb.cell 0 _ rfl
   have n1 := nb.cell 1 _ rfl
   have n2 := nb.cell 2 _ rfl
   have tA : Turns M X Wa := by
    rw [hWa, hA1]
    exact (Turns.alloc M X _).trans (Turns.setCell (M := M) _ _ _ m1) (fun b _ h => h)
   have sA : Wa.heap.size = X.heap.size + 1 := by rw [hWa, hA1]; simp [World.setCell]
   obtain ⟨M1, hM1⟩ : ∃ M1 : Nat → Prop, M1 = fun b => M b ∨ b = X.heap.size := ⟨_, rfl⟩
   have jA : J M1 s Wa := hJ M M1 s X Wa hj tA (fun b h => by rw [hM1] at h; exact h.elim .inl (fun e => .inr (by omega)))
   have hM1lt : ∀ b, M1 b → b < Wa.heap.size := fun b h => by
    rw [hM1] at h
    rcases h with h | h
    ·have := hM b h
     omega
    ·omega
   obtain ⟨fn, tmps, assign, body, hy, hR⟩ := YieldAt.any 8 (YieldAt.oneWay (hY M1 s x rest Wa jA hM1lt ht))
   simp only [encP] at hy
   have wA : WaitP Wa (W.heap.size + 1) g cap rest.reverse := by
    have h := (hw.kept (w' := A1) (by rw [hA1]; exact Below.heap_alloc _ _ _ hw.box.lt) (by rw [hA1]; exact Below.heap_alloc _ _ _ hw.lt)).pop
    rw [List.length_reverse] at h
    rw [hWa]
    exact h
   have ne2 : b2 ≠ W.heap.size + 1 := fun e => by have := hW.size; omega
   have a2 : Wa.heap[b2]? = some (.cells #[.func (.func 63) #[] #[]] 118) := by
    rw [hWa, hA1, Below.heap_setCell _ _ _ _ ne2]
    exact (Below.heap_alloc _ _ _ (hM b2 m3)).trans hb2
   have dA : ∀ D, D ∈ ds → Wa.heap[D]? = some (.deferred (some [])) := fun D hD => by
    have h := (hds D hD).2
    rw [hWa, hA1, Below.heap_setCell _ _ _ _ (fun e => by
     simp only at e
     rw [e, show X.heap[W.heap.size + 1]? = _ from hw.box] at h
     cases h)]
    exact (Below.heap_alloc _ _ _ (hM D (hds D hD).1)).trans h
   rw [hA1] at cw1 fw1
   have hWa' := hWa
   rw [hA1] at hWa'
   rw [hWa'] at n0 n1 n2 hy hR
   gi_wp2
   refine hR.mono ?_
   rintro e X2 ⟨bb, rfl, ⟨rfl, tY, s', kids, j2, ht2, hmu, hK⟩ | ⟨rfl, tY, jx⟩⟩
   ·rw [← hWa'] at tY
    have kp : ∀ b, M1 b → X2.heap[b]? = Wa.heap[b]? := fun b hb => tY.block b (hM1lt b hb) (fun h => h hb)
    have q0 : M1 (W.heap.size + 1) := by rw [hM1]; exact .inl m1
    have q1 : M1 g := by rw [hM1]; exact .inl m2
    have q2 : M1 b2 := by rw [hM1]; exact .inl m3
    have q3 : M1 X.heap.size := by rw [hM1]; exact .inr rfl
    have w2 := wA.kept (kp _ q0) (kp _ q1)
    have nb2 : Blk X2 X.heap.size #[.pointer x.1, .pointer x.2.1, .int .i64 x.2.2] 89 := (kp _ q3).trans nb
    have f2 : Blk X2 b2 #[.func (.func 63) #[] #[]] 118 := (kp _ q2).trans a2
    have e0 := nb2.cell 0 _ rfl
    have e1 := nb2.cell 1 _ rfl
    have e3 := nb2.cell 2 _ rfl
    have e2 := f2.cell 0 _ rfl
    -- REST
    gi_wp2
    refine ⟨trivial, (partsP_in x X2).mono ?_⟩
    rintro e w' ⟨rfl, rfl⟩
    gi_wp2
    obtain ⟨A, a, B, b, pL, qL, pE, qE, nL, cL, mL, dL, cE, dE, ks, ks', hx, nA, nB, lA, lB, v4, u4, v5, u5, hL, hL', hE, hE', ⟨g1', g2', g3', g4'⟩, hkids⟩ := hK
    obtain ⟨X3, hX3⟩ : ∃ X3, X3 = X2.alloc (.cells #[.pointer x.1, .pointer x.2.1, .int .i64 x.2.2] 89) := ⟨_, rfl⟩
    rw [← hX3]
    have s3 : X3.heap.size = X2.heap.size + 1 := by rw [hX3]; simp
    have t3 : Turns (fun _ => False) X2 X3 := by rw [hX3]; exact Turns.alloc _ _ _
    have l2 := tY.size
    have hl2 := hlen M1 s' X2 j2
    rw [ht2] at hl2
    simp only [List.length_append] at hl2
    have nb3 : Blk X3 X2.heap.size #[.pointer (some ⟨A, a, none⟩), .pointer (some ⟨B, b, none⟩), .int .i64 0] 89 := by rw [hX3, hx]; exact blk_alloc _ _ _
    have HX := hide hx
    clear hx
    have w3 : WaitP X3 (W.heap.size + 1) g cap rest.reverse := w2.kept (t3.block _ w2.box.lt (fun h => h)) (t3.block _ w2.lt (fun h => h))
    have gne := w2.lt
    have bne := w2.box.lt
    obtain ⟨KK, hKK⟩ : ∃ KK : Nat → Prop, KK = fun b => b < X2.heap.size ∧ b ≠ W.heap.size + 1 ∧ b ≠ g := ⟨_, rfl⟩
    have kk : ∀ b, ¬ M1 b → b < X2.heap.size → KK b := fun b h1 h2 => by rw [hKK]; exact ⟨h2, fun e => h1 (e ▸ q0), fun e => h1 (e ▸ q1)⟩
    have k3 : ∀ (p : Option Addr) (l : List (List UInt8)), KeysAt (fun b => ¬ M1 b) X2 p l → KeysAt KK X3 p l := fun p l h hn => by
     obtain ⟨b', o', h1, h2, h3, h4⟩ := h hn
     refine ⟨b', o', h1, kk b' h2 h3, by omega, fun j hj => ?_⟩
     obtain ⟨key, e1, e2⟩ := h4 j hj
     exact ⟨key, e1, (t3.cell (p := ⟨b', o' + j * 7, none⟩) h3 (fun h => h)).trans e2⟩
    rw [hkids] at hl2
    refine wpIn_range_k (gf := 103) (lb := #[.pointer (some ⟨X2.heap.size, 0, none⟩)]) rfl (enters_of Tryz.func103 (by kernel_rfl) rfl)
     (partsP_walks X2.heap.size A a B b pL qL nL cL mL dL hL hL' g1' g2' pE qE cE dE ks ks' g3' g4' KK X3 nb3 (kk A nA lA) (kk B nB lB) (by omega) (by omega) (fun b h => by rw [hKK] at h; omega)
      ((t3.cell (p := ⟨A, a + 4, none⟩) lA (fun h => h)).trans v4) ((t3.cell (p := ⟨B, b + 4, none⟩) lB (fun h => h)).trans u4) ((t3.cell (p := ⟨A, a + 5, none⟩) lA (fun h => h)).trans v5) ((t3.cell (p := ⟨B, b + 5, none⟩) lB (fun h => h)).trans u5) (k3 _ _ hE) (k3 _ _ hE'))
     (Below.refl _ _) rfl (fun b h => by rw [hKK] at h; omega) X3.heap.size (Nat.le_refl _)
     (fun M' pre Y => ∃ g' cap', (g' = g ∨ X3.heap.size ≤ g') ∧ WaitP Y (W.heap.size + 1) g' cap' (rest.reverse ++ pre) ∧ Turns (fun b => b = W.heap.size + 1 ∨ b = g ∨ X2.heap.size ≤ b) X3 Y ∧ (∀ b, M' b → X2.heap.size ≤ b) ∧ ¬ M' g')
     ?own (fun b h => by omega) ⟨g, cap, .inl rfl, by rw [List.append_nil]; exact w3, Turns.refl _ _, fun b h => by omega, fun h => by omega⟩
     (fun y a' Y => ∃ Bx, X3.heap.size ≤ Bx ∧ Blk Y Bx #[.pointer y.1, .pointer y.2.1, .int .i64 y.2.2] 89 ∧ a' = { tmps := #[Value.func (Fn.yield l) #[] #[], Value.pointer (some ⟨b1, 0, none⟩), Value.pointer (some ⟨b2, 0, none⟩), undef, Value.pointer (some ⟨W.heap.size + 1, 0, none⟩), Value.int IntKind.i64 (rest.length : Int), Value.pointer (some ⟨X.heap.size, 0, none⟩), Value.pointer (some ⟨Bx, 0, none⟩), u8, u9, Value.slice (some ⟨g, 0, none⟩) (rest.length + 1) cap, Value.int IntKind.i64 ((rest.length : Int) + 1), Value.bool true, Value.slice (some ⟨g, 0, none⟩) (rest.length + 1) cap, Value.int IntKind.i64 ((rest.length : Int) + 1), Value.int IntKind.i64 (rest.length : Int), Value.slice (some ⟨g, 0, none⟩) (rest.length + 1) cap, Value.int IntKind.i64 (rest.length : Int), Value.pointer (some ⟨g, rest.length * 3, none⟩), Value.agg #[Value.pointer x.1, Value.pointer x.2.1, Value.int IntKind.i64 x.2.2], Value.slice (some ⟨g, 0, none⟩) (rest.length + 1) cap, Value.int IntKind.i64 (rest.length : Int), Value.slice (some ⟨g, 0, none⟩) rest.length cap, Value.func (Fn.yield l) #[] #[], Value.agg #[Value.pointer x.1, Value.pointer x.2.1, Value.int IntKind.i64 x.2.2], Value.bool true, Value.bool false, Value.func (Fn.func 63) #[] #[], Value.agg #[Value.pointer x.1, Value.pointer x.2.1, Value.int IntKind.i64 x.2.2], Value.func (Fn.func 103) #[] #[Value.pointer (some ⟨X2.heap.size, 0, none⟩)], encP y, u31, u32, u33, u34, u35, u36, u37, u38], defers := [] })
     ?ax ?assign ?body ?done
    case own =>
     rintro M' M'' pre A' B' ⟨g', cap', hg', hwt, htn, hmm, hng⟩ ht hm
     have hz := htn.size
     have nog : ∀ c : Nat, (∃ o : Obj, A'.heap[c]? = some o ∧ o.isCells = true) → ¬ M' c → c < A'.heap.size → B'.heap[c]? = A'.heap[c]? := fun c hc hn hlt => ht.block c hlt (fun h => by
      rcases h with h | ⟨_, o, ho, hoc⟩
      ·exact hn h
      ·obtain ⟨o', ho', hc'⟩ := hc
       rw [ho] at ho'
       cases ho'
       rw [hoc] at hc'
       cases hc')
     have cw' : ∃ o : Obj, A'.heap[W.heap.size + 1]? = some o ∧ o.isCells = true := ⟨_, hwt.box, rfl⟩
     have cg' : ∃ o : Obj, A'.heap[g']? = some o ∧ o.isCells = true := by
      obtain ⟨_, h2 | ⟨g2, cap2, cur, e2, _, r1, _⟩⟩ := hwt.own
      ·cases h2.1
      ·cases e2
       exact ⟨_, r1, rfl⟩
     refine ⟨g', cap', hg', hwt.kept (nog _ cw' (fun h => by have := hmm _ h; omega) hwt.box.lt) (nog _ cg' hng hwt.lt), htn.trans ht (fun b hb h => ?_), fun b h => ?_, fun h => ?_⟩
     ·rcases h with h | ⟨h, _⟩
      ·exact .inr (.inr (hmm b h))
      ·omega
     ·rcases hm b h with h | h
      ·exact hmm b h
      ·omega
     ·rcases hm g' h with h | h
      ·exact hng h
      ·have := hwt.lt
       omega
    case ax =>
     rintro y a' A' l' o o' ⟨Bx, hBx, hb, ha⟩ ho hoc
     refine ⟨Bx, hBx, ?_, ha⟩
     refine (World.putObj_heap_other (fun e => ?_)).trans hb
     rw [← e, show A'.heap[Bx]? = _ from hb] at ho
     cases ho
     cases hoc
    case assign =>
     rintro l' y Y K' hsz hK'
     simp only [encP]
     gi_wp2
     exact hK' _ _ (Turns.alloc _ _ _) ⟨Y.heap.size, hsz, blk_alloc _ _ _, rfl⟩
    case body =>
     rintro l' M' pre y a' Y hl' ⟨r, hr⟩ ⟨Bx, hBx, hb, rfl⟩ ⟨g', cap', hg', hwt, htn, hmm, hng⟩ hM' hlt
     have y0 := hb.cell 0 _ rfl
     have y1 := hb.cell 1 _ rfl
     have y2 := hb.cell 2 _ rfl
     have cy := hwt.box.cell
     have fy := hwt.box.frozen
     have hbo := hwt.box
     have how := hwt.own
     simp only [List.length_append, List.length_reverse] at cy fy hbo how
     obtain ⟨i0, hi, hz0, hz1, hz2⟩ := info_parts infoP
     gi_wp2_with (gi_at_builtin; refine wpListIn_append_own_at _ rfl _ _ 153 rfl 0 89 i0 _ 3 24 Tryz.underlying153 hi hz0 hz1 hz2 rfl (by decide) _ _ _ rfl (how.alloc _) ⟨Y.heap.size, 0, none⟩ 1 1 (cellsP y) rfl rfl (cell_three_new' _ _ _ _ _) (cellsP_one y) (by unfold maxLen; omega) (by omega) (Nat.zero_le _) ?_; intro v' w1 hown' hgrow _ hat; obtain ⟨g2, cap2, rfl⟩ := ownsRow_succ hown'; obtain ⟨bx1, bx2, ow2, ko2, _⟩ := hbo.appended (n₀ := 0) (by decide) how (Nat.zero_le _) (Nat.zero_le _) hown' hgrow; have hc1 := bx1.cell; have hf1 := bx1.frozen)
     have hsz := htn.size
     have tS : Turns (fun b => b = W.heap.size + 1 ∨ b = g') Y (w1.setCell ⟨W.heap.size + 1, 0, none⟩ (.slice (some ⟨g2, 0, none⟩) (rest.length + pre.length + 1) cap2)) :=
      ((Turns.alloc (fun b => b = W.heap.size + 1 ∨ b = g') Y _).trans (Turns.grown (M := fun b => b = g') hgrow (fun b e => by cases e; rfl)) (fun b _ h => .inr h)).trans (Turns.setCell (M := fun b => b = W.heap.size + 1) _ _ _ rfl) (fun b _ h => .inl h)
     have hYs := hwt.lt
     have ng2 : ¬ M' g2 ∧ (g2 = g' ∨ Y.heap.size ≤ g2) := by
      rcases hat with h | h
      ·cases h
       exact ⟨hng, .inl rfl⟩
      ·have e3 : g2 = (Y.alloc (.cells #[.pointer y.1, .pointer y.2.1, .int .i64 y.2.2] 89)).heap.size := by cases h; rfl
       rw [World.size_alloc] at e3
       exact ⟨fun h => by have := hM' _ h; omega, .inr (by omega)⟩
     refine ⟨ko2.from _, tS.mono (fun b hb h => ⟨fun hm => ?_, fun hk => ?_⟩), g2, cap2, ?_, ⟨?_, ?_⟩, htn.trans tS (fun b hb h => h.elim .inl (fun e => ?_)), hmm, ng2.1⟩
     ·rcases h with h | h
      ·have := hmm b hm
       omega
      ·exact hng (h ▸ hm)
     ·rw [hKK] at hk
      rcases h with h | h
      ·exact hk.2.1 h
      ·rcases hg' with h' | h'
       ·exact hk.2.2 (h.trans h')
       ·omega
     ·rcases hat with h | h
      ·cases h
       exact hg'
      ·have e3 : g2 = (Y.alloc (.cells #[.pointer y.1, .pointer y.2.1, .int .i64 y.2.2] 89)).heap.size := by cases h; rfl
       rw [World.size_alloc] at e3
       omega
     ·simpa [← List.append_assoc] using bx2
     ·have e1 : (rest.reverse ++ (pre ++ [y])).flatMap cellsP = (rest.reverse ++ pre).flatMap cellsP ++ cellsP y := by simp
      have e2 : (rest.reverse ++ (pre ++ [y])).length = rest.length + pre.length + 1 := by simp; omega
      rw [e1, e2]
      exact ow2
     ·rcases hg' with h | h
      ·exact .inr (.inl (e.trans h))
      ·omega
    case done =>
     rintro D M' Y hD ⟨g', cap', hg', hwt, htn, hmm, hng⟩ hdf
     rw [← hkids] at hwt hl2
     have cy := hwt.box.cell
     have fy := hwt.box.frozen
     have how := hwt.own
     have hcp := hwt.cap
     have hlk : kids.length ≤ 10000000 := by omega
     simp only [List.length_append, List.length_reverse] at cy fy how hcp
     have HK := hide hkids
     clear hkids
     have fin : ∀ W5, W5.ownsRow 0 89 3 (.slice (some ⟨g', 0, none⟩) (rest.length + kids.length) cap') (rest.length + kids.length) ((rest.reverse ++ kids.reverse).flatMap cellsP) → Y.grownBy W5 (some g') →
       ∃ M3 : Nat → Prop, J M3 s' W5 ∧ (∀ b, M3 b → b < W5.heap.size) ∧ (M3 (W.heap.size + 1) ∧ M3 g' ∧ M3 b2) ∧ (∀ D', D' ∈ D :: ds → M3 D' ∧ W5.heap[D']? = some (.deferred (some []))) ∧ (D :: ds).Nodup ∧ W5.heap[b2]? = some (.cells #[.func (.func 63) #[] #[]] 118) ∧ WaitP W5 (W.heap.size + 1) g' cap' (todo s').reverse := by
      intro W5 ho5 hg5
      have z3 := htn.size
      have z5 := hg5.size
      have hgY := hwt.lt
      have hDlt : D < Y.heap.size := (Array.getElem?_eq_some_iff.1 hdf).1
      have nD : D ≠ g' := fun e => by
       obtain ⟨_, h2 | ⟨g2, cap2, cur, e2, _, r1, _⟩⟩ := hwt.own
       ·cases h2.1
       ·cases e2
        rw [e, r1] at hdf
        cases hdf
      have nBg : W.heap.size + 1 ≠ g' := fun e => hwt.box.not_row (by decide) hwt.own (by rw [← e]; rfl)
      have t5 : Turns M1 X2 W5 := by
       refine ((t3.mono (N := M1) fun b _ h => h.elim).trans htn (fun b hb h => h.elim (fun e => e ▸ q0) (fun h => h.elim (fun e => e ▸ q1) (fun e => absurd hb (by omega))))).trans (Turns.grown (M := fun b => b = g') hg5 (fun b e => by cases e; rfl)) (fun b hb h => ?_)
       rcases hg' with e | e
       ·rw [h, e]
        exact q1
       ·omega
      have cut : ∀ b, M1 b → b ≠ W.heap.size + 1 → b ≠ g → W5.heap[b]? = Wa.heap[b]? := fun b hb n1 n2 => by
       have hlt := hM1lt b hb
       have n3 : b ≠ g' := fun e => by
        rcases hg' with h | h
        ·exact n2 (e.trans h)
        ·omega
       rw [hg5.block b (by omega) (fun e => n3 (by cases e; rfl)), htn.block b (by omega) (fun h => h.elim n1 (fun h => h.elim n2 (fun e => by omega))), t3.block b (by omega) (fun h => h)]
       exact kp b hb
      refine ⟨fun b => M1 b ∨ (X2.heap.size ≤ b ∧ b < W5.heap.size), hJ M1 _ s' X2 W5 j2 t5 (fun b h => h.elim .inl (fun h => .inr h.1)), fun b h => ?_, ⟨.inl q0, ?_, .inl q2⟩, fun D' hD' => ?_, ?_, ?_, ?_⟩
      ·rcases h with h | h
       ·have := hM1lt b h
        omega
       ·exact h.2
      ·rcases hg' with e | e
       ·rw [e]
        exact .inl q1
       ·exact .inr ⟨by omega, by omega⟩
      ·rcases List.mem_cons.1 hD' with rfl | hD'
       ·exact ⟨.inr ⟨by omega, by omega⟩, (hg5.block _ hDlt (fun e => nD (by cases e; rfl))).trans hdf⟩
       ·have hm : M1 D' := by rw [hM1]; exact .inl (hds D' hD').1
        have hd := dA D' hD'
        refine ⟨.inl hm, (cut D' hm (fun e => ?_) (fun e => ?_)).trans hd⟩
        ·rw [e, show Wa.heap[W.heap.size + 1]? = _ from wA.box] at hd
         cases hd
        ·obtain ⟨_, h2 | ⟨g2, cap2, cur, e2, _, r1, _⟩⟩ := wA.own
         ·cases h2.1
         ·cases e2
          rw [e, r1] at hd
          cases hd
      ·refine List.nodup_cons.2 ⟨fun h => ?_, hnd⟩
       have := hM1lt D (by rw [hM1]; exact .inl (hds D h).1)
       omega
      ·refine (cut b2 q2 ne2 (fun e => ?_)).trans a2
       obtain ⟨_, h2 | ⟨g2, cap2, cur, e2, _, r1, _⟩⟩ := wA.own
       ·cases h2.1
       ·cases e2
        rw [e, r1] at a2
        injection a2 with a2
        injection a2 with _ a2
        exact absurd a2 (by decide)
      ·have e1 : (todo s').reverse = rest.reverse ++ kids.reverse := by rw [ht2, List.reverse_append]
       rw [e1]
       refine ⟨?_, ?_⟩
       ·have := hwt.box
        simp only [List.length_append, List.length_reverse] at this ⊢
        exact this.kept hg5 (fun e => nBg (by cases e; rfl))
       ·simp only [List.length_append, List.length_reverse]
        exact ho5
     by_cases hk0 : kids.length = 0
     ·obtain rfl : kids = [] := List.eq_nil_of_length_eq_zero hk0
      simp only [List.length_nil, Nat.add_zero, List.append_nil] at cy how
      have hr0 : ∀ a ca, Calls Tryz.prog 102 #[Value.slice a 0 ca] Y fun e w' => e = .returned (.tuple #[]) ∧ w' = Y := fun a ca => AnyQ.slices_Reverse_empty revP_lays a ca Y
      obtain ⟨M3, r3⟩ := fin Y (by simpa using how) (grown_refl _ _)
      have R3 := hide r3
      clear fin r3
      dsimp only
      gi_wp2
      all_goals
       refine ⟨trivial, (callsIn_wide.2 (hr0 _ _)).mono ?_⟩
       rintro e W5 ⟨rfl, rfl⟩
       gi_wp2
       exact ⟨mu s', hmu, D :: ds, M3, s', g', _, ⟨_, _, _, _, _, _, _, _, _, _, _, _, _, _, _, _, _, _, _, _, _, _, _, _, _, _, _, _, _, _, _, _, _, _, rfl⟩, rfl, R3.out⟩
     ·have hrev := revP_any Y g' cap' (cap' - rest.length) rest.reverse kids (by omega) (by rw [List.length_reverse]; exact how)
      rw [List.length_reverse] at hrev
      dsimp only
      gi_wp2
      refine ⟨trivial, (callsIn_wide.2 hrev).mono ?_⟩
      rintro e W5 ⟨rfl, ho5, hg5⟩
      obtain ⟨M3, r3⟩ := fin W5 ho5 hg5
      have R3 := hide r3
      clear fin r3
      gi_wp2
      exact ⟨mu s', hmu, D :: ds, M3, s', g', cap', ⟨_, _, _, _, _, _, _, _, _, _, _, _, _, _, _, _, _, _, _, _, _, _, _, _, _, _, _, _, _, _, _, _, _, _, rfl⟩, rfl, R3.out⟩
   ·rw [← hWa'] at tY
    gi_wp2
    refine leave_marks rfl ds X2 hnd (fun D hD => ?_) (fun W' ht' => ⟨⟨_, rfl⟩, M1, .inr (hJx M1 M1 () X2 W' jx (ht'.mono fun b _ hb => by rw [hM1]; exact .inl (hds b hb).1) (fun b h => .inl h))⟩)
    exact (tY.block D (hM1lt D (by rw [hM1]; exact .inl (hds D hD).1)) (fun h => h (by rw [hM1]; exact .inl (hds D hD).1))).trans (dA D hD)
end Go.Proofs.YtnbfnjhbmeocfabGreatDoor.valus
