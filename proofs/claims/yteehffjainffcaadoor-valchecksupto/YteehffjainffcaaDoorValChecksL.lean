/- The law ValChecks. -/
import Derived.Test.YteehffjainffcaaDoorValCheckW
import Derived.Test.YteehffjainffcaaDoorValDepthW
import Derived.Test.YteehffjainffcaaDoorValFaultW
import Derived.Deep.RegionHeld3
set_option linter.unusedVariables false
namespace Go.Proofs.YteehffjainffcaaDoor.valus
open Go.RowKit

theorem stp_fold {f : Nat} {c : Nat} (ih : ∀ x, nodesV f x ≤ 10000000 → sizeW f x = ((depthV f x : Int), (nodesV f x : Int))) : ∀ (l : List V) (d n : Nat), sumOf (nodesV f) l + n ≤ 10000000 →
    l.foldl (stp (sizeW f)) ((d : Int), (n : Int)) = (((max d (maxOf (depthV f) l) : Nat) : Int), ((n + sumOf (nodesV f) l : Nat) : Int))
  | [], d, n, _ => by simp [maxOf, sumOf]
  | x :: l, d, n, h => by
    have e : sumOf (nodesV f) (x :: l) = nodesV f x + sumOf (nodesV f) l := rfl
    have e2 : maxOf (depthV f) (x :: l) = max (depthV f x) (maxOf (depthV f) l) := rfl
    rw [e] at h
    have hx := ih x (by omega)
    have hs : stp (sizeW f) ((d : Int), (n : Int)) x = (((max d (depthV f x) : Nat) : Int), ((n + nodesV f x : Nat) : Int)) := by
      unfold stp
      rw [hx]
      have w1 : wrap64 ((n : Int) + (nodesV f x : Int)) = ((n + nodesV f x : Nat) : Int) := by
        rw [IntWalk.wrap64_in _ (by omega)]
        omega
      rw [w1]
      congr 1
      simp only
      split <;> omega
    rw [List.foldl_cons, hs, stp_fold (c := c) ih l _ _ (by omega), e, e2]
    congr 2 <;> omega
theorem sizeW_eq : ∀ (f : Nat) (t : V), nodesV f t ≤ 10000000 → sizeW f t = ((depthV f t : Int), (nodesV f t : Int))
  | 0, t, _ => rfl
  | f + 1, t, h => by
    have hn : nodesV (f + 1) t = sumOf (nodesV f) (parts t) + 1 := rfl
    have hd : depthV (f + 1) t = maxOf (depthV f) (parts t) + 1 := rfl
    have hdn : maxOf (depthV f) (parts t) ≤ sumOf (nodesV f) (parts t) := max_le_sum fun x _ => depth_nodes
    have hf := stp_fold (c := 0) (sizeW_eq f) (parts t) 0 1 (by omega)
    show (wrap64 (((parts t).foldl (stp (sizeW f)) (0, 1)).1 + 1), ((parts t).foldl (stp (sizeW f)) (0, 1)).2) = _
    have e0 : ((0 : Int), (1 : Int)) = (((0 : Nat) : Int), ((1 : Nat) : Int)) := rfl
    rw [e0, hf, hn, hd]
    simp only
    rw [IntWalk.wrap64_in _ (by omega)]
    congr 1 <;> omega

/-- The value in its box, and nothing below turned. -/
structure Held (w : World) (N : Nat) (x0 x1 x2 x3 x4 x5 : Value) (u : World) : Prop where
  bel : Below N w u
  lt : N < u.heap.size
  c0 : u.cell? ⟨N, 0, none⟩ = some x0
  c1 : u.cell? ⟨N, 1, none⟩ = some x1
  c2 : u.cell? ⟨N, 2, none⟩ = some x2
  c3 : u.cell? ⟨N, 3, none⟩ = some x3
  c4 : u.cell? ⟨N, 4, none⟩ = some x4
  c5 : u.cell? ⟨N, 5, none⟩ = some x5
theorem Held.below {w : World} {N : Nat} {x0 x1 x2 x3 x4 x5 : Value} {u u' : World} (h : Held w N x0 x1 x2 x3 x4 x5 u) (hb : Below u.heap.size u u') : Held w N x0 x1 x2 x3 x4 x5 u' :=
  ⟨h.bel.trans (hb.mono (Nat.le_of_lt h.lt)), Nat.lt_of_lt_of_le h.lt hb.size, (hb.cell (p := ⟨N, 0, none⟩) h.lt).trans h.c0, (hb.cell (p := ⟨N, 1, none⟩) h.lt).trans h.c1, (hb.cell (p := ⟨N, 2, none⟩) h.lt).trans h.c2, (hb.cell (p := ⟨N, 3, none⟩) h.lt).trans h.c3, (hb.cell (p := ⟨N, 4, none⟩) h.lt).trans h.c4, (hb.cell (p := ⟨N, 5, none⟩) h.lt).trans h.c5⟩

set_option maxHeartbeats 8000000 in
set_option maxRecDepth 100000 in
theorem lawChecks (f : Nat) (w : World) (t : V) (a0 a1 a2 a3 a4 a5 : Value) (hl : LiesV (fun b => b < w.heap.size) f w [a0, a1, a2, a3, a4, a5] t) (hn : nodesV f t ≤ 10000000) (hT : Lib.Utf8Tabs 0 1 w) :
    Calls Tryd.prog 3 #[.agg #[a0, a1, a2, a3, a4, a5]] w fun e w' => e = .returned (.bool true) ∧ Below w.heap.size w w' := by
  have hz := sizeW_eq f t hn
  have KS : ∀ u, Hid (Below w.heap.size w u → Calls Tryd.prog 4 #[.agg #[a0, a1, a2, a3, a4, a5]] u fun e w' => e = .returned (.tuple #[.int .i64 (depthV f t : Int), .int .i64 (nodesV f t : Int)]) ∧ Below u.heap.size u w') := fun u hb => by
    have := sizeR_any f _ u t a0 a1 a2 a3 a4 a5 (hl.kept (fun _ h => h) hb.size (fun b h _ => hb.block b h))
    rw [hz] at this
    exact this
  have up : ∀ {u}, Below w.heap.size w u → LiesV (fun b => b < u.heap.size) f u [a0, a1, a2, a3, a4, a5] t := fun hb => hl.kept (fun b h => Nat.lt_of_lt_of_le h hb.size) hb.size (fun b h _ => hb.block b h)
  have KC : ∀ u, Hid (Below w.heap.size w u → Calls Tryd.prog 5 #[.agg #[a0, a1, a2, a3, a4, a5]] u fun e w' => e = .returned (.int .i64 (faultV oneV t)) ∧ Below u.heap.size u w') := fun u hb => callsIn_wide.1 (check_any f u t a0 a1 a2 a3 a4 a5 (up hb) hn (Utf8Tabs_below hT hb))
  have KF : ∀ u, Hid (Below w.heap.size w u → Calls Tryd.prog 6 #[.agg #[a0, a1, a2, a3, a4, a5]] u fun e w' => e = .returned (.int .i64 (faultV oneV t)) ∧ Below u.heap.size u w') := fun u hb => fault_any f u t a0 a1 a2 a3 a4 a5 (up hb) hn
  have KD : ∀ u, Hid (Below w.heap.size w u → Calls Tryd.prog 7 #[.agg #[a0, a1, a2, a3, a4, a5]] u fun e w' => e = .returned (.int .i64 (depthV f t : Int)) ∧ Below u.heap.size u w') := fun u hb => callsIn_wide.1 (depth_any f u t a0 a1 a2 a3 a4 a5 (up hb) hn)
  have KN : ∀ u, Hid (Below w.heap.size w u → Calls Tryd.prog 8 #[.agg #[a0, a1, a2, a3, a4, a5]] u fun e w' => e = .returned (.int .i64 (nodesV f t : Int)) ∧ Below u.heap.size u w') := fun u hb => callsIn_wide.1 (nodes_any f u t a0 a1 a2 a3 a4 a5 (up hb) hn)
  obtain ⟨k, n, b, s, pL, nL, cL, pE, nE, cE, rfl, rfl, rfl, rfl, rfl, rfl⟩ := hl.form
  clear hz up hT hn hl
  generalize faultV oneV t = fv at *
  generalize ((depthV f t : Nat) : Int) = dv at *
  generalize ((nodesV f t : Nat) : Int) = nv at *
  have hbA : Below w.heap.size w (w.alloc (.cells #[.int .i64 k, .int .i64 n, .int .u64 (b : Int), .string s, .slice pL nL cL, .slice pE nE cE] 26)) := (Below.refl _ w).alloc (Nat.le_refl _) _
  have hblk := blk_alloc w #[.int .i64 k, .int .i64 n, .int .u64 (b : Int), .string s, .slice pL nL cL, .slice pE nE cE] 26
  go_enter Tryd.func3, Tryd.ntmps3
  go_wp2_with (go_at_call 4; refine (unhide (KS _) hbA).mono ?_; rintro e w1 ⟨rfl, b1⟩)
  have B1 : Below w.heap.size w w1 := hbA.trans (b1.mono hbA.size)
  obtain ⟨c0, c1, c2, c3, c4, c5⟩ := (hblk.below b1).cells6
  have hlt := (hblk.below b1).lt
  generalize hN : w.heap.size = N at *
  have HN := hide hN
  clear hN
  have G0 : ∀ m, Held w N (.int .i64 k) (.int .i64 n) (.int .u64 (b : Int)) (.string s) (.slice pL nL cL) (.slice pE nE cE) (w1.drewN m) := fun m => ⟨below_drewN B1 m, hlt, c0, c1, c2, c3, c4, c5⟩
  have LC : ∀ u, Hid (Held w N (.int .i64 k) (.int .i64 n) (.int .u64 (b : Int)) (.string s) (.slice pL nL cL) (.slice pE nE cE) u → Calls Tryd.prog 5 #[.agg #[.int .i64 k, .int .i64 n, .int .u64 (b : Int), .string s, .slice pL nL cL, .slice pE nE cE]] u fun e w' => e = .returned (.int .i64 fv) ∧ Held w N (.int .i64 k) (.int .i64 n) (.int .u64 (b : Int)) (.string s) (.slice pL nL cL) (.slice pE nE cE) w') := fun u h => ((unhide (KC u) h.bel).mono fun e w' ⟨h1, h2⟩ => ⟨h1, h.below h2⟩)
  have LF : ∀ u, Hid (Held w N (.int .i64 k) (.int .i64 n) (.int .u64 (b : Int)) (.string s) (.slice pL nL cL) (.slice pE nE cE) u → Calls Tryd.prog 6 #[.agg #[.int .i64 k, .int .i64 n, .int .u64 (b : Int), .string s, .slice pL nL cL, .slice pE nE cE]] u fun e w' => e = .returned (.int .i64 fv) ∧ Held w N (.int .i64 k) (.int .i64 n) (.int .u64 (b : Int)) (.string s) (.slice pL nL cL) (.slice pE nE cE) w') := fun u h => ((unhide (KF u) h.bel).mono fun e w' ⟨h1, h2⟩ => ⟨h1, h.below h2⟩)
  have LD : ∀ u, Hid (Held w N (.int .i64 k) (.int .i64 n) (.int .u64 (b : Int)) (.string s) (.slice pL nL cL) (.slice pE nE cE) u → Calls Tryd.prog 7 #[.agg #[.int .i64 k, .int .i64 n, .int .u64 (b : Int), .string s, .slice pL nL cL, .slice pE nE cE]] u fun e w' => e = .returned (.int .i64 dv) ∧ Held w N (.int .i64 k) (.int .i64 n) (.int .u64 (b : Int)) (.string s) (.slice pL nL cL) (.slice pE nE cE) w') := fun u h => ((unhide (KD u) h.bel).mono fun e w' ⟨h1, h2⟩ => ⟨h1, h.below h2⟩)
  have LN : ∀ u, Hid (Held w N (.int .i64 k) (.int .i64 n) (.int .u64 (b : Int)) (.string s) (.slice pL nL cL) (.slice pE nE cE) u → Calls Tryd.prog 8 #[.agg #[.int .i64 k, .int .i64 n, .int .u64 (b : Int), .string s, .slice pL nL cL, .slice pE nE cE]] u fun e w' => e = .returned (.int .i64 nv) ∧ Held w N (.int .i64 k) (.int .i64 n) (.int .u64 (b : Int)) (.string s) (.slice pL nL cL) (.slice pE nE cE) w') := fun u h => ((unhide (KN u) h.bel).mono fun e w' ⟨h1, h2⟩ => ⟨h1, h.below h2⟩)
  have G1 := G0 1
  clear hblk b1 hbA KS KC KF KD KN G0
  go_region_held3 (fun w' => w'.cell? ⟨N, 0, none⟩ = some (.int .i64 k) ∧ w'.cell? ⟨N, 1, none⟩ = some (.int .i64 n) ∧ w'.cell? ⟨N, 2, none⟩ = some (.int .u64 (b : Int)) ∧ w'.cell? ⟨N, 3, none⟩ = some (.string s) ∧ w'.cell? ⟨N, 4, none⟩ = some (.slice pL nL cL) ∧ w'.cell? ⟨N, 5, none⟩ = some (.slice pE nE cE)) (go_keep)
    (first
      | (go_at_call 5; refine (unhide (LC _) (by assumption)).mono ?_; rintro e w9 ⟨rfl, G9⟩; have s0 := G9.c0; have s1 := G9.c1; have s2 := G9.c2; have s3 := G9.c3; have s4 := G9.c4; have s5 := G9.c5)
      | (go_at_call 6; refine (unhide (LF _) (by assumption)).mono ?_; rintro e w9 ⟨rfl, G9⟩; have s0 := G9.c0; have s1 := G9.c1; have s2 := G9.c2; have s3 := G9.c3; have s4 := G9.c4; have s5 := G9.c5)
      | (go_at_call 7; refine (unhide (LD _) (by assumption)).mono ?_; rintro e w9 ⟨rfl, G9⟩; have s0 := G9.c0; have s1 := G9.c1; have s2 := G9.c2; have s3 := G9.c3; have s4 := G9.c4; have s5 := G9.c5)
      | (go_at_call 8; refine (unhide (LN _) (by assumption)).mono ?_; rintro e w9 ⟨rfl, G9⟩; have s0 := G9.c0; have s1 := G9.c1; have s2 := G9.c2; have s3 := G9.c3; have s4 := G9.c4; have s5 := G9.c5))
  all_goals
    go_wp2
    go_ret
    exact ⟨rfl, by rw [HN.out]; exact G9.bel⟩
end Go.Proofs.YteehffjainffcaaDoor.valus
