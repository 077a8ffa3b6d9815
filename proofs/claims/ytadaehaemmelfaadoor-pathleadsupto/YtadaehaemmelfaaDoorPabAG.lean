/- Of our texts, what this claim reaches. -/
import Derived.Test.YtadaehaemmelfaaDoorPabAF
import Derived.Maps.OwnIn
set_option linter.unusedVariables false
set_option maxHeartbeats 4000000
set_option maxRecDepth 100000
namespace Go.Proofs.YtadaehaemmelfaaDoor.valus
open Go.RowKit Go.Shelf
attribute [local go_sem] Oper.semAt_some
def KidsN (M : Nat → Prop) (W : World) (x : Nd) (kids : List Nd) : Prop :=
 ∃ (pL pE : Option Addr) (nL cL nE cE : Nat), ¬ M x.1 ∧ x.1 < W.heap.size ∧ W.cell? ⟨x.1, x.2.1 + 4, none⟩ = some (.slice pL nL cL) ∧ W.cell? ⟨x.1, x.2.1 + 5, none⟩ = some (.slice pE nE cE) ∧
  (nL ≠ 0 → ∃ b q, pL = some ⟨b, q, none⟩) ∧ (nE ≠ 0 → ∃ b q, pE = some ⟨b, q, none⟩) ∧ kids = kidsTo pL 6 0 (IntKind.i64.wrap (x.2.2 + 1)) nL ++ kidsTo pE 7 1 (IntKind.i64.wrap (x.2.2 + 1)) nE
theorem partsN_in (x : Nd) (w : World) :
  CallsIn Fence.wide 8 Tryd.prog 56 #[encN x] w fun e w' => e = .returned (.func (.func 73) #[] #[.pointer (some ⟨w.heap.size, 0, none⟩)]) ∧ w' = w.alloc (.cells #[.pointer (some ⟨x.1, x.2.1, none⟩), .int .i64 x.2.2] 77) := by
 unfold encN
 refine callsIn_of_wp Tryd.func56 rfl trivial ?_ rfl
 simp only [Tryd.ntmps56, List.size_toArray, List.length_cons, List.length_nil, Nat.reduceAdd, Nat.reduceSub, Array.replicate_succ, Array.replicate_zero, List.push_toArray, List.append_toArray, List.nil_append, List.cons_append]
 gi_wp2
 go_ret
 exact ⟨rfl, rfl⟩
theorem cell_two_new' (w : World) (x y : Value) (t : TypeId) : ∀ j u, [x, y][j]? = some u → (w.alloc (.cells #[x, y] t)).cell? ((⟨w.heap.size, 0, none⟩ : Addr).add j) = some u :=
 fun j u hu => by
  have hb := blk_alloc w #[x, y] t
  match j, hu with
  | 0, hu => exact hb.cell 0 u hu
  | 1, hu => exact hb.cell 1 u hu
theorem infoN : (Tryd.prog.info? 77).map (fun i => (i.zero, i.size, i.bytes)) = some (some (.agg #[.pointer none, .int .i64 0]), 2, 16) := by kernel_rfl
theorem loop_ghost {F : Fence} {n : Nat} {P : Program} {c : Code} {Q : Exit → Act → World → Prop} {a : Act} {w : World} (Inv : Nat → Act → World → Prop) (m0 : Nat) (h0 : Inv m0 a w)
  (hs : ∀ m a w, Inv m a w → c.wpIn F n P (Exit.then (fun a' w' => ∃ m', m' < m ∧ Inv m' a' w') Q) a w) : (Code.loop c).wpIn F n P Q a w := by
 refine wpIn_loop_rounds (m0 + 1) ?_
 have key : ∀ k m a w, m < k → Inv m a w → Code.roundsIn F n P c Q k a w := by
  intro k
  induction k with
  | zero => intro m a w h; omega
  | succ k ih =>
   intro m a w hm hi
   rw [roundsIn_succ]
   refine wpIn_mono (hs m a w hi) ?_
   intro e a' w' hq
   cases e with
   | normal => obtain ⟨m', hlt, hi'⟩ := hq; exact ih m' a' w' (by omega) hi'
   | ret => exact hq
   | exit id => exact hq
   | goto t => exact hq
   | panic ch => exact hq
   | outgrown => exact hq
 exact key (m0 + 1) m0 a w (by omega) h0
structure Wait (w : World) (Bw g cap : Nat) (st : List Nd) : Prop where
 box : Boxed w Bw 122 (.slice (some ⟨g, 0, none⟩) st.length cap)
 own : w.ownsRow 0 77 2 (.slice (some ⟨g, 0, none⟩) st.length cap) st.length (st.flatMap cellsN)
theorem Wait.kept {w w' : World} {Bw g cap : Nat} {st : List Nd} (h : Wait w Bw g cap st) (hb : w'.heap[Bw]? = w.heap[Bw]?) (hg : w'.heap[g]? = w.heap[g]?) : Wait w' Bw g cap st := by
 refine ⟨by unfold Boxed; rw [hb]; exact h.box, ?_⟩
 obtain ⟨hl, h2 | ⟨g', cap', cur, e, hb, r1, r2⟩⟩ := h.own
 ·obtain ⟨h2, _⟩ := h2
  cases h2
 ·cases e
  exact ⟨hl, .inr ⟨g, cap, cur, rfl, hb, hg.trans r1, r2⟩⟩
theorem Wait.lt {w : World} {Bw g cap : Nat} {st : List Nd} (h : Wait w Bw g cap st) : g < w.heap.size := (World.ownsRow.lt h.own g rfl).2
theorem Wait.cap {w : World} {Bw g cap : Nat} {st : List Nd} (h : Wait w Bw g cap st) : st.length ≤ cap := by
 obtain ⟨hl, h2 | ⟨g', cap', cur, e, hb, r1, r2, r3⟩⟩ := h.own
 ·obtain ⟨h2, _⟩ := h2
  cases h2
 ·cases e
  exact r2
theorem Wait.last {w : World} {Bw g cap : Nat} {st : List Nd} {x : Nd} (h : Wait w Bw g cap (st ++ [x])) : w.cell? ⟨g, st.length * 2, none⟩ = some (.pointer (some ⟨x.1, x.2.1, none⟩)) ∧ w.cell? ⟨g, st.length * 2 + 1, none⟩ = some (.int .i64 x.2.2) := by
 have l := flat_len cellsN 2 (fun _ => rfl) st
 constructor
 ·rw [World.ownsRow.cellAt h.own _ (by simp), List.flatMap_append, List.getElem?_append_right (by omega), l]
  simp [cellsN]
 ·rw [World.ownsRow.cellAt h.own _ (by simp; omega), List.flatMap_append, List.getElem?_append_right (by omega), l]
  simp [cellsN]
theorem Wait.pop {w : World} {Bw g cap : Nat} {st : List Nd} {x : Nd} (h : Wait w Bw g cap (st ++ [x])) : Wait (w.setCell ⟨Bw, 0, none⟩ (.slice (some ⟨g, 0, none⟩) st.length cap)) Bw g cap st := by
 have l := flat_len cellsN 2 (fun _ => rfl) st
 refine ⟨h.box.set _, ?_⟩
 have hne : some g ≠ some Bw := fun e => h.box.not_row (by decide) h.own (by rw [← e]; rfl)
 have o2 := World.ownsRow.kept h.own (grownBy_setCell' w Bw (.slice (some ⟨g, 0, none⟩) st.length cap)) (.inr hne)
 obtain ⟨hl, h2 | ⟨g', cap', cur, e, hb, r1, r2, r3, r4, r5⟩⟩ := o2
 ·obtain ⟨h2, _⟩ := h2
  cases h2
 ·cases e
  simp only [List.length_append, List.length_cons, List.length_nil, Nat.zero_add] at r2 r5
  refine ⟨l, .inr ⟨g, cap, cur, rfl, hb, r1, by omega, r3, r4, ?_⟩⟩
  have e5 := congrArg (List.take (st.length * 2)) r5
  rw [List.take_take, Nat.min_eq_left (by omega), List.flatMap_append, ← l, List.take_left] at e5
  rw [← l]
  exact e5
def InvN {σ : Type} (J : (Nat → Prop) → σ → World → Prop) (todo : σ → List Nd) (mu : σ → Nat) (l b1 b2 Bw : Nat) (m : Nat) (a : Act) (X : World) : Prop :=
 ∃ (ds : List Nat) (M : Nat → Prop) (s : σ) (g cap : Nat), (∃ u5 u6 u7 u8 u9 u10 u11 u12 u13 u14 u15 u16 u17 u18 u19 u20 u21 u22 u23 u24 u25 u26 u27 u28 u29 u30 u31 u32 u33 u34 u35 u36 u37 u38 : Value, a = { tmps := #[Value.func (Fn.yield l) #[] #[], Value.pointer (some ⟨b1, 0, none⟩), Value.pointer (some ⟨b2, 0, none⟩), undef, Value.pointer (some ⟨Bw, 0, none⟩), u5, u6, u7, u8, u9, u10, u11, u12, u13, u14, u15, u16, u17, u18, u19, u20, u21, u22, u23, u24, u25, u26, u27, u28, u29, u30, u31, u32, u33, u34, u35, u36, u37, u38], defers := marks ds }) ∧
  m = mu s ∧ J M s X ∧ (∀ b, M b → b < X.heap.size) ∧ (M Bw ∧ M g ∧ M b2) ∧ (∀ D, D ∈ ds → M D ∧ X.heap[D]? = some (.deferred (some []))) ∧ ds.Nodup ∧ X.heap[b2]? = some (.cells #[.func (.func 56) #[] #[]] 107) ∧ Wait X Bw g cap (todo s).reverse
theorem walkN_in (b1 b2 : Nat) (first : Nd) {σ : Type} (todo : σ → List Nd) (mu : σ → Nat) (w : World)
  (h1 : w.heap[b1]? = some (.cells #[.pointer (some ⟨first.1, first.2.1, none⟩), .int .i64 first.2.2] 77)) (h2 : w.heap[b2]? = some (.cells #[.func (.func 56) #[] #[]] 107)) :
  Walks Tryd.prog 71 #[.pointer (some ⟨b1, 0, none⟩), .pointer (some ⟨b2, 0, none⟩)] encN todo mu KidsN first (fun b => b = b1 ∨ b = b2) w := by
 intro l J Jx s0 W hJ hJx hY hlen hW hs0 h0
 have lt1 : b1 < w.heap.size := (Array.getElem?_eq_some_iff.1 h1).1
 have lt2 : b2 < w.heap.size := (Array.getElem?_eq_some_iff.1 h2).1
 have g1 := (hW.block b1 lt1).trans h1
 have g2 := (hW.block b2 lt2).trans h2
 have c10 : W.cell? ⟨b1, 0, none⟩ = some (.pointer (some ⟨first.1, first.2.1, none⟩)) := Blk.cell (t := 77) g1 0 _ rfl
 have c11 : W.cell? ⟨b1, 1, none⟩ = some (.int .i64 first.2.2) := Blk.cell (t := 77) g1 1 _ rfl
 refine callsIn_of_wp_marks Tryd.func71 rfl trivial ?_ rfl
 simp only [Tryd.ntmps71, List.size_toArray, List.length_cons, List.length_nil, Nat.reduceAdd, Nat.reduceSub, Array.replicate_succ, Array.replicate_zero, List.push_toArray, List.append_toArray, List.nil_append, List.cons_append]
 gi_wp2
 refine loop_ghost (InvN J todo mu l b1 b2 (W.heap.size + 1)) (mu s0) ?start ?step
 case start =>
  have hn1 : Boxed ((W.alloc (.cells #[.pointer (some ⟨first.1, first.2.1, none⟩), .int .i64 first.2.2] 77)).alloc (.cells #[.slice (some ⟨W.heap.size, 0, none⟩) 1 1] 122)) (W.heap.size + 1) 122 (.slice (some ⟨W.heap.size, 0, none⟩) 1 1) := by
   have := Boxed.new (W.alloc (.cells #[.pointer (some ⟨first.1, first.2.1, none⟩), .int .i64 first.2.2] 77)) 122 (.slice (some ⟨W.heap.size, 0, none⟩) 1 1)
   rwa [World.size_alloc] at this
  have hn2 : Blk ((W.alloc (.cells #[.pointer (some ⟨first.1, first.2.1, none⟩), .int .i64 first.2.2] 77)).alloc (.cells #[.slice (some ⟨W.heap.size, 0, none⟩) 1 1] 122)) W.heap.size #[.pointer (some ⟨first.1, first.2.1, none⟩), .int .i64 first.2.2] 77 := (blk_alloc W _ _).alloc _
  refine ⟨[], fun b => (b = b1 ∨ b = b2) ∨ (W.heap.size ≤ b ∧ b < W.heap.size + 2), s0, W.heap.size, 1, ⟨_, _, _, _, _, _, _, _, _, _, _, _, _, _, _, _, _, _, _, _, _, _, _, _, _, _, _, _, _, _, _, _, _, _, rfl⟩, rfl, ?_, ?_, ⟨.inr ⟨by omega, by omega⟩, .inr ⟨by omega, by omega⟩, .inl (.inr rfl)⟩, by simp, by simp, ?_, ?_⟩
  ·exact hJ _ _ s0 W _ h0 ((Turns.alloc _ _ _).trans (Turns.alloc (fun _ => False) _ _) (fun b _ h => h.elim)) (fun b h => h.elim .inl (fun h => .inr h.1))
  ·intro b hb
   have := hW.size
   simp only [World.size_alloc]
   omega
  ·exact (Below.heap_alloc _ _ _ (by have := hW.size; simp only [World.size_alloc]; omega)).trans ((Below.heap_alloc _ _ _ (by have := hW.size; omega)).trans g2)
  ·rw [hs0]
   exact ⟨hn1, rfl, .inr ⟨_, _, _, rfl, Nat.zero_le _, hn2, Nat.le_refl _, by unfold maxLen; decide, rfl, rfl⟩⟩
 case step =>
  rintro m a X ⟨ds, M, s, g, cap, ⟨u5, u6, u7, u8, u9, u10, u11, u12, u13, u14, u15, u16, u17, u18, u19, u20, u21, u22, u23, u24, u25, u26, u27, u28, u29, u30, u31, u32, u33, u34, u35, u36, u37, u38, rfl⟩, rfl, hj, hM, ⟨m1, m2, m3⟩, hds, hnd, hb2, hw⟩
  have cw := hw.box.cell
  have fw := hw.box.frozen
  have hl := hlen M s X hj
  cases ht : todo s with
  | nil =>
   rw [ht] at cw
   simp only [List.reverse_nil, List.length_nil] at cw
   gi_wp2
   exact leave_marks rfl ds X hnd (fun D hD => (hds D hD).2) (fun W' ht' => ⟨⟨_, rfl⟩, M, .inl ⟨s, ht, hJ M M s X W' hj (ht'.mono fun b _ hb => (hds b hb).1) (fun b h => .inl h)⟩⟩)
  | cons x rest =>
   rw [ht] at cw hw hl
   simp only [List.reverse_cons, List.length_append, List.length_reverse, List.length_cons, List.length_nil, Nat.zero_add] at cw hw hl
   obtain ⟨k0, k1⟩ := hw.last
   rw [List.length_reverse] at k0 k1
   have hcap : rest.length + 1 ≤ cap := by have := hw.cap; simpa using this
   obtain ⟨A1, hA1⟩ : ∃ A1, A1 = X.alloc (.cells #[.pointer (some ⟨x.1, x.2.1, none⟩), .int .i64 x.2.2] 77) := ⟨_, rfl⟩
   obtain ⟨Wa, hWa⟩ : ∃ Wa, Wa = A1.setCell ⟨W.heap.size + 1, 0, none⟩ (.slice (some ⟨g, 0, none⟩) rest.length cap) := ⟨_, rfl⟩
   have bw1 : Boxed A1 (W.heap.size + 1) 122 (.slice (some ⟨g, 0, none⟩) (rest.length + 1) cap) := by rw [hA1]; have := hw.box.alloc (.cells #[.pointer (some ⟨x.1, x.2.1, none⟩), .int .i64 x.2.2] 77); simpa using this
   have cw1 := bw1.cell
   have fw1 := bw1.frozen
   have nb : Blk Wa X.heap.size #[.pointer (some ⟨x.1, x.2.1, none⟩), .int .i64 x.2.2] 77 := by
    rw [hWa, hA1]
    exact (blk_alloc X _ _).set_other _ _ (fun e => by have := hw.box.lt; simp only at e; omega)
   have n0 := nb.cell 0 _ rfl
   have n1 := nb.cell 1 _ rfl
   have tA : Turns M X Wa := by
    rw [hWa, hA1]
    exact (Turns.alloc M X _).trans (Turns.setCell (M := M) _ _ _ m1) (fun b _ h => h)
   have sA : Wa.heap.size = X.heap.size + 1 := by rw [hWa, hA1]; simp [World.setCell]
   obtain ⟨M1, hM1⟩ : ∃ M1 : Nat → Prop, M1 = fun b => M b ∨ b = X.heap.size := ⟨_, rfl⟩
   have jA : J M1 s Wa := hJ M M1 s X Wa hj tA (fun b h => by rw [hM1] at h; exact h.elim .inl (fun e => .inr (by omega)))
   have hM1lt : ∀ b, M1 b → b < Wa.heap.size := fun b h => by
    rw [hM1] at h
    rcases h with h | h
    ·have := hM b h
     omega
    ·omega
   obtain ⟨fn, tmps, assign, body, hy, hR⟩ := YieldAt.any 8 (YieldAt.oneWay (hY M1 s x rest Wa jA hM1lt ht))
   simp only [encN] at hy
   have wA : Wait Wa (W.heap.size + 1) g cap rest.reverse := by
    have h := (hw.kept (w' := A1) (by rw [hA1]; exact Below.heap_alloc _ _ _ hw.box.lt) (by rw [hA1]; exact Below.heap_alloc _ _ _ hw.lt)).pop
    rw [List.length_reverse] at h
    rw [hWa]
    exact h
   have ne2 : b2 ≠ W.heap.size + 1 := fun e => by have := hW.size; omega
   have a2 : Wa.heap[b2]? = some (.cells #[.func (.func 56) #[] #[]] 107) := by
    rw [hWa, hA1, Below.heap_setCell _ _ _ _ ne2]
    exact (Below.heap_alloc _ _ _ (hM b2 m3)).trans hb2
   have dA : ∀ D, D ∈ ds → Wa.heap[D]? = some (.deferred (some [])) := fun D hD => by
    have h := (hds D hD).2
    rw [hWa, hA1, Below.heap_setCell _ _ _ _ (fun e => by
     simp only at e
     rw [e, show X.heap[W.heap.size + 1]? = _ from hw.box] at h
     cases h)]
    exact (Below.heap_alloc _ _ _ (hM D (hds D hD).1)).trans h
   rw [hA1] at cw1 fw1
   have hWa' := hWa
   rw [hA1] at hWa'
   rw [hWa'] at n0 n1 hy hR
   gi_wp2
   refine hR.mono ?_
   rintro e X2 ⟨bb, rfl, ⟨rfl, tY, s', kids, j2, ht2, hmu, hK⟩ | ⟨rfl, tY, jx⟩⟩
   ·rw [← hWa'] at tY
    have kp : ∀ b, M1 b → X2.heap[b]? = Wa.heap[b]? := fun b hb => tY.block b (hM1lt b hb) (fun h => h hb)
    have q0 : M1 (W.heap.size + 1) := by rw [hM1]; exact .inl m1
    have q1 : M1 g := by rw [hM1]; exact .inl m2
    have q2 : M1 b2 := by rw [hM1]; exact .inl m3
    have q3 : M1 X.heap.size := by rw [hM1]; exact .inr rfl
    have w2 := wA.kept (kp _ q0) (kp _ q1)
    have nb2 : Blk X2 X.heap.size #[.pointer (some ⟨x.1, x.2.1, none⟩), .int .i64 x.2.2] 77 := (kp _ q3).trans nb
    have f2 : Blk X2 b2 #[.func (.func 56) #[] #[]] 107 := (kp _ q2).trans a2
    have e0 := nb2.cell 0 _ rfl
    have e1 := nb2.cell 1 _ rfl
    have e2 := f2.cell 0 _ rfl
    -- REST
    gi_wp2
    refine ⟨trivial, (partsN_in x X2).mono ?_⟩
    rintro e w' ⟨rfl, rfl⟩
    gi_wp2
    obtain ⟨pL, pE, nL, cL, nE, cE, nx1, lx1, v4, v5, hL, hE, hkids⟩ := hK
    obtain ⟨X3, hX3⟩ : ∃ X3, X3 = X2.alloc (.cells #[.pointer (some ⟨x.1, x.2.1, none⟩), .int .i64 x.2.2] 77) := ⟨_, rfl⟩
    rw [← hX3]
    have s3 : X3.heap.size = X2.heap.size + 1 := by rw [hX3]; simp
    have t3 : Turns (fun _ => False) X2 X3 := by rw [hX3]; exact Turns.alloc _ _ _
    have l2 := tY.size
    have hl2 := hlen M1 s' X2 j2
    rw [ht2, hkids] at hl2
    simp only [List.length_append, kidsTo_len] at hl2
    have nb3 : Blk X3 X2.heap.size #[.pointer (some ⟨x.1, x.2.1, none⟩), .int .i64 x.2.2] 77 := by rw [hX3]; exact blk_alloc _ _ _
    have w3 : Wait X3 (W.heap.size + 1) g cap rest.reverse := w2.kept (t3.block _ w2.box.lt (fun h => h)) (t3.block _ w2.lt (fun h => h))
    have xne : x.1 ≠ W.heap.size + 1 ∧ x.1 ≠ g := ⟨fun e => nx1 (e ▸ q0), fun e => nx1 (e ▸ q1)⟩
    have gne := w2.lt
    have bne := w2.box.lt
    refine wpIn_rangeFunc_ownH rfl (by decide) (gf := 73) (lb := #[.pointer (some ⟨X2.heap.size, 0, none⟩)]) rfl trivial (enters_of Tryd.func73 (by kernel_rfl) rfl)
     (parts_stops X2.heap.size x.1 x.2.1 x.2.2 pL pE nL cL nE cE hL hE (by omega) (by omega)
      (fun A B => ∀ b, b < X3.heap.size → b ≠ W.heap.size + 1 → b ≠ g → B.heap[b]? = A.heap[b]?)
      (fun A B h => ⟨h _ (by omega) (by omega) (by omega), h _ (by omega) xne.1 xne.2⟩) X3 (by omega) (by omega)
      (nb3.cell 0 _ rfl) (nb3.cell 1 _ rfl) ((t3.cell (p := ⟨x.1, x.2.1 + 4, none⟩) lx1 (fun h => h)).trans v4) ((t3.cell (p := ⟨x.1, x.2.1 + 5, none⟩) lx1 (fun h => h)).trans v5))
     (fun h k b b1 b2 b3 => (k b b1 b2 b3).trans (h b b1 b2 b3))
     (fun A l o o' hl _ _ _ b hb _ _ => World.putObj_heap_other (by omega))
     (Below.refl _ _) (fun _ => rfl)
     (fun pre Y => ∃ g' cap', (g' = g ∨ X3.heap.size ≤ g') ∧ Wait Y (W.heap.size + 1) g' cap' (rest.reverse ++ pre) ∧ Turns (fun b => b = W.heap.size + 1 ∨ b = g) X3 Y)
     (fun _ _ _ => False)
     ?own (fun _ _ _ _ _ h _ _ => h) ⟨g, cap, .inl rfl, by rw [List.append_nil]; exact w3, Turns.refl _ _⟩
     (fun y a' Y => ∃ Bx, X3.heap.size ≤ Bx ∧ Blk Y Bx #[.pointer (some ⟨y.1, y.2.1, none⟩), .int .i64 y.2.2] 77 ∧ a' = { tmps := #[Value.func (Fn.yield l) #[] #[], Value.pointer (some ⟨b1, 0, none⟩), Value.pointer (some ⟨b2, 0, none⟩), undef, Value.pointer (some ⟨W.heap.size + 1, 0, none⟩), Value.int IntKind.i64 (rest.length : Int), Value.pointer (some ⟨X.heap.size, 0, none⟩), Value.pointer (some ⟨Bx, 0, none⟩), u8, u9, Value.slice (some ⟨g, 0, none⟩) (rest.length + 1) cap, Value.int IntKind.i64 ((rest.length : Int) + 1), Value.bool true, Value.slice (some ⟨g, 0, none⟩) (rest.length + 1) cap, Value.int IntKind.i64 ((rest.length : Int) + 1), Value.int IntKind.i64 (rest.length : Int), Value.slice (some ⟨g, 0, none⟩) (rest.length + 1) cap, Value.int IntKind.i64 (rest.length : Int), Value.pointer (some ⟨g, rest.length * 2, none⟩), Value.agg #[Value.pointer (some ⟨x.1, x.2.1, none⟩), Value.int IntKind.i64 x.2.2], Value.slice (some ⟨g, 0, none⟩) (rest.length + 1) cap, Value.int IntKind.i64 (rest.length : Int), Value.slice (some ⟨g, 0, none⟩) rest.length cap, Value.func (Fn.yield l) #[] #[], Value.agg #[Value.pointer (some ⟨x.1, x.2.1, none⟩), Value.int IntKind.i64 x.2.2], Value.bool true, Value.bool false, Value.func (Fn.func 56) #[] #[], Value.agg #[Value.pointer (some ⟨x.1, x.2.1, none⟩), Value.int IntKind.i64 x.2.2], Value.func (Fn.func 73) #[] #[Value.pointer (some ⟨X2.heap.size, 0, none⟩)], encN y, u31, u32, u33, u34, u35, u36, u37, u38], defers := [] })
     ?ax ?assign ?body ?done ?stop
    case own =>
     rintro pre A B row ⟨g', cap', hg', hwt, htn⟩ hgr hrow
     refine ⟨g', cap', hg', hwt.kept (hgr.block _ hwt.box.lt ?_) (hgr.block _ hwt.lt ?_), htn.trans (Turns.grown (M := fun b => X3.heap.size ≤ b) hgr (fun b e => (hrow b e).1)) (fun b hb h => absurd hb (by omega))⟩
     ·intro e
      obtain ⟨_, o, ho, hc⟩ := hrow _ e.symm
      rw [show A.heap[W.heap.size + 1]? = _ from hwt.box] at ho
      cases ho
      cases hc
     ·intro e
      obtain ⟨_, o, ho, hc⟩ := hrow _ e.symm
      obtain ⟨_, h2 | ⟨g2, cap2, cur, e2, _, r1, _⟩⟩ := hwt.own
      ·cases h2.1
      ·cases e2
       rw [r1] at ho
       cases ho
       cases hc
    case ax =>
     rintro y a' _ A B row ⟨Bx, hBx, hb, ha⟩ hgr hrow
     refine ⟨Bx, hBx, hb.grown hgr ?_, ha⟩
     intro e
     obtain ⟨_, o, ho, hc⟩ := hrow _ e.symm
     rw [show A.heap[Bx]? = _ from hb] at ho
     cases ho
     cases hc
    case assign =>
     rintro l' pre y Y K ⟨g', cap', hg', hwt, htn⟩ hK
     simp only [encN]
     gi_wp2
     have hsz := htn.size
     exact hK _ _ ((KeepsOthers.alloc _ _).from _) (fun b hb _ _ => Below.heap_alloc _ _ _ (by omega)) ⟨g', cap', hg', hwt.kept (Below.heap_alloc _ _ _ hwt.box.lt) (Below.heap_alloc _ _ _ hwt.lt), htn.trans (Turns.alloc (fun _ => False) _ _) (fun _ _ h => h.elim)⟩ ⟨Y.heap.size, hsz, blk_alloc _ _ _, rfl⟩
    case body =>
     rintro l' pre y a' Y hl' ⟨r, hr⟩ ⟨g', cap', hg', hwt, htn⟩ ⟨Bx, hBx, hb, rfl⟩ hlt
     have y0 := hb.cell 0 _ rfl
     have y1 := hb.cell 1 _ rfl
     have cy := hwt.box.cell
     have fy := hwt.box.frozen
     have hbo := hwt.box
     have how := hwt.own
     simp only [List.length_append, List.length_reverse] at cy fy hbo how
     obtain ⟨i0, hi, hz0, hz1, hz2⟩ := info_parts infoN
     gi_wp2_with (gi_at_builtin; refine wpListIn_append_own_at _ rfl _ _ 122 rfl 0 77 i0 _ 2 16 Tryd.underlying122 hi hz0 hz1 hz2 rfl (by decide) _ _ _ rfl (how.alloc _) ⟨Y.heap.size, 0, none⟩ 1 1 (cellsN y) rfl rfl (cell_two_new' _ _ _ _) (cellsN_one y) (by unfold maxLen; omega) (by omega) (Nat.zero_le _) ?_; intro v' w1 hown' hgrow _ hat; obtain ⟨g2, cap2, rfl⟩ := ownsRow_succ hown'; obtain ⟨bx1, bx2, ow2, ko2, _⟩ := hbo.appended (n₀ := 0) (by decide) how (Nat.zero_le _) (Nat.zero_le _) hown' hgrow; have hc1 := bx1.cell; have hf1 := bx1.frozen)
     have hsz := htn.size
     have tS : Turns (fun b => b = W.heap.size + 1 ∨ b = g') Y (w1.setCell ⟨W.heap.size + 1, 0, none⟩ (.slice (some ⟨g2, 0, none⟩) (rest.length + pre.length + 1) cap2)) :=
      ((Turns.alloc (fun b => b = W.heap.size + 1 ∨ b = g') Y _).trans (Turns.grown (M := fun b => b = g') hgrow (fun b e => by cases e; rfl)) (fun b _ h => .inr h)).trans (Turns.setCell (M := fun b => b = W.heap.size + 1) _ _ _ rfl) (fun b _ h => .inl h)
     refine ⟨ko2.from _, fun b hb h1 h2 => tS.block b (by omega) (fun h => h.elim h1 (fun e => ?_)), g2, cap2, ?_, ⟨?_, ?_⟩, htn.trans tS (fun b hb h => h.elim .inl (fun e => ?_))⟩
     ·rcases hg' with h | h
      ·exact h2 (e.trans h)
      ·omega
     ·rcases hat with h | h
      ·cases h
       exact hg'
      ·have e3 : g2 = (Y.alloc (.cells #[.pointer (some ⟨y.1, y.2.1, none⟩), .int .i64 y.2.2] 77)).heap.size := by cases h; rfl
       rw [World.size_alloc] at e3
       omega
     ·simpa [← List.append_assoc] using bx2
     ·have e1 : (rest.reverse ++ (pre ++ [y])).flatMap cellsN = (rest.reverse ++ pre).flatMap cellsN ++ cellsN y := by simp
      have e2 : (rest.reverse ++ (pre ++ [y])).length = rest.length + pre.length + 1 := by simp; omega
      rw [e1, e2]
      exact ow2
     ·rcases hg' with h | h
      ·exact .inr (e.trans h)
      ·omega
    case done =>
     rintro D ys Y hD hys ⟨g', cap', hg', hwt, htn⟩ hdf
     rw [← hkids] at hys
     rw [hys] at hwt
     have cy := hwt.box.cell
     have fy := hwt.box.frozen
     have how := hwt.own
     have hcp := hwt.cap
     have hlk : kids.length ≤ 10000000 := by rw [hkids]; simp only [List.length_append, kidsTo_len]; omega
     simp only [List.length_append, List.length_reverse] at cy fy how hcp
     have HK := hide hkids
     clear hkids
     have fin : ∀ W5, W5.ownsRow 0 77 2 (.slice (some ⟨g', 0, none⟩) (rest.length + kids.length) cap') (rest.length + kids.length) ((rest.reverse ++ kids.reverse).flatMap cellsN) → Y.grownBy W5 (some g') →
       ∃ M3 : Nat → Prop, J M3 s' W5 ∧ (∀ b, M3 b → b < W5.heap.size) ∧ (M3 (W.heap.size + 1) ∧ M3 g' ∧ M3 b2) ∧ (∀ D', D' ∈ D :: ds → M3 D' ∧ W5.heap[D']? = some (.deferred (some []))) ∧ (D :: ds).Nodup ∧ W5.heap[b2]? = some (.cells #[.func (.func 56) #[] #[]] 107) ∧ Wait W5 (W.heap.size + 1) g' cap' (todo s').reverse := by
      intro W5 ho5 hg5
      have z3 := htn.size
      have z5 := hg5.size
      have hgY := hwt.lt
      have hDlt : D < Y.heap.size := (Array.getElem?_eq_some_iff.1 hdf).1
      have nD : D ≠ g' := fun e => by
       obtain ⟨_, h2 | ⟨g2, cap2, cur, e2, _, r1, _⟩⟩ := hwt.own
       ·cases h2.1
       ·cases e2
        rw [e, r1] at hdf
        cases hdf
      have nBg : W.heap.size + 1 ≠ g' := fun e => hwt.box.not_row (by decide) hwt.own (by rw [← e]; rfl)
      have t5 : Turns M1 X2 W5 := by
       refine ((t3.mono (N := M1) fun b _ h => h.elim).trans htn (fun b hb h => h.elim (fun e => e ▸ q0) (fun e => e ▸ q1))).trans (Turns.grown (M := fun b => b = g') hg5 (fun b e => by cases e; rfl)) (fun b hb h => ?_)
       rcases hg' with e | e
       ·rw [h, e]
        exact q1
       ·omega
      have cut : ∀ b, M1 b → b ≠ W.heap.size + 1 → b ≠ g → W5.heap[b]? = Wa.heap[b]? := fun b hb n1 n2 => by
       have hlt := hM1lt b hb
       have n3 : b ≠ g' := fun e => by
        rcases hg' with h | h
        ·exact n2 (e.trans h)
        ·omega
       rw [hg5.block b (by omega) (fun e => n3 (by cases e; rfl)), htn.block b (by omega) (fun h => h.elim n1 n2), t3.block b (by omega) (fun h => h)]
       exact kp b hb
      refine ⟨fun b => M1 b ∨ (X2.heap.size ≤ b ∧ b < W5.heap.size), hJ M1 _ s' X2 W5 j2 t5 (fun b h => h.elim .inl (fun h => .inr h.1)), fun b h => ?_, ⟨.inl q0, ?_, .inl q2⟩, fun D' hD' => ?_, ?_, ?_, ?_⟩
      ·rcases h with h | h
       ·have := hM1lt b h
        omega
       ·exact h.2
      ·rcases hg' with e | e
       ·rw [e]
        exact .inl q1
       ·exact .inr ⟨by omega, by omega⟩
      ·rcases List.mem_cons.1 hD' with rfl | hD'
       ·exact ⟨.inr ⟨by omega, by omega⟩, (hg5.block _ hDlt (fun e => nD (by cases e; rfl))).trans hdf⟩
       ·have hm : M1 D' := by rw [hM1]; exact .inl (hds D' hD').1
        have hd := dA D' hD'
        refine ⟨.inl hm, (cut D' hm (fun e => ?_) (fun e => ?_)).trans hd⟩
        ·rw [e, show Wa.heap[W.heap.size + 1]? = _ from wA.box] at hd
         cases hd
        ·obtain ⟨_, h2 | ⟨g2, cap2, cur, e2, _, r1, _⟩⟩ := wA.own
         ·cases h2.1
         ·cases e2
          rw [e, r1] at hd
          cases hd
      ·refine List.nodup_cons.2 ⟨fun h => ?_, hnd⟩
       have := hM1lt D (by rw [hM1]; exact .inl (hds D h).1)
       omega
      ·refine (cut b2 q2 ne2 (fun e => ?_)).trans a2
       obtain ⟨_, h2 | ⟨g2, cap2, cur, e2, _, r1, _⟩⟩ := wA.own
       ·cases h2.1
       ·cases e2
        rw [e, r1] at a2
        injection a2 with a2
        injection a2 with _ a2
        exact absurd a2 (by decide)
      ·have e1 : (todo s').reverse = rest.reverse ++ kids.reverse := by rw [ht2, List.reverse_append]
       rw [e1]
       refine ⟨?_, ?_⟩
       ·have := hwt.box
        simp only [List.length_append, List.length_reverse] at this ⊢
        exact this.kept hg5 (fun e => nBg (by cases e; rfl))
       ·simp only [List.length_append, List.length_reverse]
        exact ho5
     by_cases hk0 : kids.length = 0
     ·obtain rfl : kids = [] := List.eq_nil_of_length_eq_zero hk0
      simp only [List.length_nil, Nat.add_zero, List.append_nil] at cy how
      have hr0 : ∀ a ca, Calls Tryd.prog 72 #[Value.slice a 0 ca] Y fun e w' => e = .returned (.tuple #[]) ∧ w' = Y := fun a ca => AnyQ.slices_Reverse_empty revN_lays a ca Y
      obtain ⟨M3, r3⟩ := fin Y (by simpa using how) (grown_refl _ _)
      have R3 := hide r3
      clear fin r3
      dsimp only
      gi_wp2
      all_goals
       refine ⟨trivial, (callsIn_wide.2 (hr0 _ _)).mono ?_⟩
       rintro e W5 ⟨rfl, rfl⟩
       gi_wp2
       exact ⟨mu s', hmu, D :: ds, M3, s', g', _, ⟨_, _, _, _, _, _, _, _, _, _, _, _, _, _, _, _, _, _, _, _, _, _, _, _, _, _, _, _, _, _, _, _, _, _, rfl⟩, rfl, R3.out⟩
     ·have hrev := revN_any Y g' cap' (cap' - rest.length) rest.reverse kids (by omega) (by rw [List.length_reverse]; exact how)
      rw [List.length_reverse] at hrev
      dsimp only
      gi_wp2
      refine ⟨trivial, (callsIn_wide.2 hrev).mono ?_⟩
      rintro e W5 ⟨rfl, ho5, hg5⟩
      obtain ⟨M3, r3⟩ := fin W5 ho5 hg5
      have R3 := hide r3
      clear fin r3
      gi_wp2
      exact ⟨mu s', hmu, D :: ds, M3, s', g', cap', ⟨_, _, _, _, _, _, _, _, _, _, _, _, _, _, _, _, _, _, _, _, _, _, _, _, _, _, _, _, _, _, _, _, _, _, rfl⟩, rfl, R3.out⟩
    case stop =>
     rintro D c pre Y _ _ h _
     exact h.elim
   ·rw [← hWa'] at tY
    gi_wp2
    refine leave_marks rfl ds X2 hnd (fun D hD => ?_) (fun W' ht' => ⟨⟨_, rfl⟩, M1, .inr (hJx M1 M1 () X2 W' jx (ht'.mono fun b _ hb => by rw [hM1]; exact .inl (hds b hb).1) (fun b h => .inl h))⟩)
    exact (tY.block D (hM1lt D (by rw [hM1]; exact .inl (hds D hD).1)) (fun h => h (by rw [hM1]; exact .inl (hds D hD).1))).trans (dA D hD)
end Go.Proofs.YtadaehaemmelfaaDoor.valus
