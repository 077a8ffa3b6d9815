/- Of our texts, what this claim reaches. -/
import Derived.Test.YtnbfnjhbmeocfabGreatDoorPssBG
import Derived.Test.YtnbfnjhbmeocfabGreatDoorPssAF
import Derived.Test.YtnbfnjhbmeocfabGreatDoorPssBE
import Derived.Test.YtnbfnjhbmeocfabGreatDoorPssAE
import Derived.Deep.QuietTactic
import Derived.BigQuiet
set_option linter.unusedVariables false
set_option maxHeartbeats 4000000
set_option maxRecDepth 100000
namespace Go.Proofs.YtnbfnjhbmeocfabGreatDoor.valus
open Go.RowKit Go.Shelf
attribute [local go_sem] Oper.semAt_some
theorem elems_in (l A a B b : Nat) (pL qL : Option Addr) (nL cL mL dL : Nat) (hL : nL ≠ 0 → ∃ b q, pL = some ⟨b, q, none⟩) (hL' : mL ≠ 0 → ∃ b q, qL = some ⟨b, q, none⟩) (h1 : nL ≤ 9223372036854775807) (h2 : mL ≤ 9223372036854775807)
  (K : Nat → Prop) (J : (Nat → Prop) → List Pr → World → Prop) (hJ : Abide J) (N : Nat)
  (hY : ∀ M pre x X, J M pre X → (∀ b, M b → b < X.heap.size) → pre.length < N → YieldAt Fence.wide 9 Tryz.prog l #[encP x] X fun e X' => e = .returned (.bool true) ∧ Turns (fun b => ¬ M b ∧ ¬ K b) X X' ∧ J M (pre ++ [x]) X')
  (M0 : Nat → Prop) (pre0 : List Pr) (W : World) (hM0 : ∀ b, M0 b → b < W.heap.size) (kA : K A) (kB : K B) (hA : A < W.heap.size) (hB : B < W.heap.size)
  (v4 : W.cell? ⟨A, a + 4, none⟩ = some (.slice pL nL cL)) (u4 : W.cell? ⟨B, b + 4, none⟩ = some (.slice qL mL dL)) (h0 : J M0 pre0 W) (hN : pre0.length + (elemsP pL qL nL mL).length ≤ N) :
  CallsIn Fence.wide 8 Tryz.prog 104 #[.agg #[.pointer (some ⟨A, a, none⟩), .pointer (some ⟨B, b, none⟩), .int .i64 0], .func (.yield l) #[] #[]] W fun e W' =>
   e = .returned (.bool (decide (nL = mL))) ∧ ∃ M', J M' (pre0 ++ elemsP pL qL nL mL) W' ∧ (∀ b, M' b → b < W'.heap.size) ∧ (∀ b, M0 b → M' b) ∧ Turns (fun b => ¬ M0 b ∧ ¬ K b) W W' := by
 obtain ⟨W1, hW1⟩ : ∃ W1, W1 = W.alloc (.cells #[.pointer (some ⟨A, a, none⟩), .pointer (some ⟨B, b, none⟩), .int .i64 0] 89) := ⟨_, rfl⟩
 obtain ⟨M1, hM1⟩ : ∃ M1 : Nat → Prop, M1 = fun b => M0 b ∨ b = W.heap.size := ⟨_, rfl⟩
 have s1 : W1.heap.size = W.heap.size + 1 := by rw [hW1]; simp
 have t1 : Turns (fun _ => False) W W1 := by rw [hW1]; exact Turns.alloc _ _ _
 have j1 : J M1 pre0 W1 := hJ M0 M1 pre0 W W1 h0 (t1.mono fun _ _ h => h.elim) (fun b h => by rw [hM1] at h; exact h.elim .inl (fun e => .inr (by omega)))
 have l1 : ∀ b, M1 b → b < W1.heap.size := fun b h => by rw [hM1] at h; rcases h with h | h; (have := hM0 b h; omega); omega
 have bp : Blk W1 W.heap.size #[.pointer (some ⟨A, a, none⟩), .pointer (some ⟨B, b, none⟩), .int .i64 0] 89 := by rw [hW1]; exact blk_alloc _ _ _
 have kp : ∀ wr, Turns (fun b => ¬ M1 b ∧ ¬ K b) W1 wr → wr.cell? ⟨W.heap.size, 0, none⟩ = some (.pointer (some ⟨A, a, none⟩)) ∧ wr.cell? ⟨W.heap.size, 1, none⟩ = some (.pointer (some ⟨B, b, none⟩)) ∧ wr.cell? ⟨A, a + 4, none⟩ = some (.slice pL nL cL) ∧ wr.cell? ⟨B, b + 4, none⟩ = some (.slice qL mL dL) ∧ ∀ b, M1 b → b < wr.heap.size := fun wr h => by
  have m1 : M1 W.heap.size := by rw [hM1]; exact .inr rfl
  refine ⟨(h.cell (p := ⟨W.heap.size, 0, none⟩) (by simp only; omega) (fun x => x.1 m1)).trans (bp.cell 0 _ rfl), (h.cell (p := ⟨W.heap.size, 1, none⟩) (by simp only; omega) (fun x => x.1 m1)).trans (bp.cell 1 _ rfl), ?_, ?_, fun b hb => Nat.lt_of_lt_of_le (l1 b hb) h.size⟩
  ·exact (h.cell (p := ⟨A, a + 4, none⟩) (by simp only; omega) (fun x => x.2 kA)).trans ((t1.cell (p := ⟨A, a + 4, none⟩) hA (fun h => h)).trans v4)
  ·exact (h.cell (p := ⟨B, b + 4, none⟩) (by simp only; omega) (fun x => x.2 kB)).trans ((t1.cell (p := ⟨B, b + 4, none⟩) hB (fun h => h)).trans u4)
 refine callsIn_of_wp Tryz.func104 rfl trivial ?_ rfl
 simp only [Tryz.ntmps104, List.size_toArray, List.length_cons, List.length_nil, Nat.reduceAdd, Nat.reduceSub, Array.replicate_succ, Array.replicate_zero, List.push_toArray, List.append_toArray, List.nil_append, List.cons_append]
 gi_wp2
 rw [← hW1]
 obtain ⟨c0, c1, c2, c3, _⟩ := kp W1 (Turns.refl _ _)
 refine wpIn_wide.2 ?_
 go_quiet (fail)
 gi_wp2
 obtain ⟨mn, hmn⟩ : ∃ mn : Nat, mn = min nL mL := ⟨_, rfl⟩
 have emn : min (nL : Int) (mL : Int) = (mn : Int) := by omega
 rw [emn]
 obtain ⟨W2, hW2⟩ : ∃ W2, W2 = W1.drewN nq := ⟨_, rfl⟩
 have t2 : Turns (fun b => ¬ M1 b ∧ ¬ K b) W1 W2 := by rw [hW2]; exact ⟨rfl, rfl, rfl, Nat.le_refl _, fun _ _ _ => rfl⟩
 rw [← hW2]
 have j2 : J M1 pre0 W2 := hJ M1 M1 pre0 W1 W2 j1 (by rw [hW2]; exact ⟨rfl, rfl, rfl, Nat.le_refl _, fun _ _ _ => rfl⟩) (fun _ h => .inl h)
 clear hW2 c0 c1 c2 c3
 have bmn : mn ≤ nL ∧ mn ≤ mL := by omega
 have el : (elemsP pL qL nL mL).length = mn + (told (ordI (cmpI (nL : Int) (mL : Int)))).length := by unfold elemsP; rw [List.length_append, pairsTo_len, hmn]
 have ee : elemsP pL qL nL mL = pairsTo pL qL 6 0 mn ++ told (ordI (cmpI (nL : Int) (mL : Int))) := by unfold elemsP; rw [hmn]
 have Hmn := hide hmn
 clear hmn emn
 gi_loopw [20] (fun i wr => ∃ k : Nat, k ≤ mn ∧ i = .int .i64 k ∧ J M1 (pre0 ++ pairsTo pL qL 6 0 k) wr ∧ Turns (fun b => ¬ M1 b ∧ ¬ K b) W1 wr)
  (fun i _ => mn - (intOf i).toNat)
 case atStart => exact ⟨0, Nat.zero_le _, rfl, by simpa [pairsTo] using j2, t2⟩
 case round =>
  obtain ⟨k, hk, rfl, hJs, hT⟩ := hrel
  obtain ⟨c0, c1, c2, c3, hm⟩ := kp wr hT
  by_cases hlt : k < mn
  ·obtain ⟨bL, oL, rfl⟩ := hL (by omega)
   obtain ⟨bQ, oQ, rfl⟩ := hL' (by omega)
   have hlN : k < nL := by omega
   have hlM : k < mL := by omega
   obtain ⟨fn, tmps, assign, body, hy, hR⟩ := YieldAt.any 7 (hY M1 _ (pairAt (some ⟨bL, oL, none⟩) (some ⟨bQ, oQ, none⟩) 6 0 k) wr.drew (hJ M1 M1 _ wr _ hJs (Turns.drew _ _) (fun _ h => .inl h)) hm (by rw [List.length_append, pairsTo_len]; omega))
   simp only [encP, pairAt, Option.getD_some, Nat.add_zero] at hy
   gi_wp2
   have hmix : (Tryz.prog).follows .mixedOrders = true := by kernel_rfl
   gi_region_with_o (refine hR.mono ?_; intro e W3 hres; obtain ⟨he, hT3, hJ3⟩ := hres; subst he)
   all_goals
    gi_wp2
    go_roundw
    case rel => exact ⟨k + 1, by omega, by simp, by rw [pairsTo_succ, ← List.append_assoc]; exact hJ3, (hT.trans (Turns.drew _ _) (fun _ _ h => h)).trans hT3 (fun _ _ h => h)⟩
    case measure => simp [intOf]; omega
  ·obtain rfl : k = mn := by omega
   gi_wp2
   refine wpIn_wide.2 ?_
   go_quiet (first | (go_at_call 65; refine Calls.quiet_of_same (compI_any _ _ _)))
   obtain ⟨W4, hW4⟩ : ∃ W4, W4 = wr.drewN nq := ⟨_, rfl⟩
   have t4 : Turns (fun _ => False) wr W4 := by rw [hW4]; exact ⟨rfl, rfl, rfl, Nat.le_refl _, fun _ _ _ => rfl⟩
   rw [← hW4]
   have j4 := hJ M1 M1 _ wr W4 hJs (t4.mono fun _ _ h => h.elim) (fun _ h => .inl h)
   have T4 := hT.trans t4 (fun _ _ h => h.elim)
   clear hW4 t4
   have tf : ∀ W5, Turns (fun b => ¬ M1 b ∧ ¬ K b) W1 W5 → Turns (fun b => ¬ M0 b ∧ ¬ K b) W W5 := fun W5 h => (t1.mono fun _ _ h => h.elim).trans h (fun b hb h => ⟨fun hm => h.1 (by rw [hM1]; exact .inl hm), h.2⟩)
   by_cases ho : nL = mL
   ·have eo : ordI (cmpI (nL : Int) (mL : Int)) = 0 := by rw [ho]; exact ordI_zero.2 ((cmpI_ord.same _ _ trivial trivial).2 rfl)
    rw [eo] at ee ⊢
    gi_wp2
    go_ret
    refine ⟨by simp [ho], M1, ?_, kp W4 T4 |>.2.2.2.2, fun b h => by rw [hM1]; exact .inl h, tf _ T4⟩
    rw [ee, show told 0 = [] from rfl, List.append_nil]
    exact j4
   ·have eo : ordI (cmpI (nL : Int) (mL : Int)) ≠ 0 := fun h => ho (by have := (cmpI_ord.same _ _ trivial trivial).1 (ordI_zero.1 h); omega)
    have et : told (ordI (cmpI (nL : Int) (mL : Int))) = [(none, none, ordI (cmpI (nL : Int) (mL : Int)))] := by unfold told; rw [if_neg eo]
    rw [et] at ee el
    generalize ordI (cmpI (nL : Int) (mL : Int)) = oo at *
    obtain ⟨fn, tmps, assign, body, hy, hR⟩ := YieldAt.any 7 (hY M1 _ (none, none, oo) W4 j4 (kp W4 T4).2.2.2.2 (by rw [List.length_append, pairsTo_len]; simp only [List.length_singleton] at el; omega))
    simp only [encP] at hy
    gi_wp2
    refine hR.mono ?_
    rintro e W5 ⟨rfl, T5, J5⟩
    gi_wp2
    go_ret
    have T6 := T4.trans T5 (fun _ _ h => h)
    refine ⟨by simp [ho, eo], M1, ?_, (kp W5 T6).2.2.2.2, fun b h => by rw [hM1]; exact .inl h, tf _ T6⟩
    rw [ee, ← List.append_assoc]
    exact J5
end Go.Proofs.YtnbfnjhbmeocfabGreatDoor.valus
