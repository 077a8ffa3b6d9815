/- Of our texts, what this claim reaches. -/
import Derived.Test.YtnbfnjhbmeocfabGreatDoorPssBE
import Derived.Test.YtnbfnjhbmeocfabGreatDoorPssAE
import Derived.Deep.RegionHeld3
import Derived.RangeFuncCalls
set_option linter.unusedVariables false
set_option maxHeartbeats 8000000
set_option maxRecDepth 100000
namespace Go.Proofs.YtnbfnjhbmeocfabGreatDoor.valus
open Go.RowKit
theorem strs_cmp : ∀ a b : List UInt8, Lib.compareBytes a b = ordI (cmpB a b)
 | [], [] => rfl
 | [], _ :: _ => rfl
 | _ :: _, [] => rfl
 | x :: r, y :: t => by
  have e : cmpB (x :: r) (y :: t) = thenC (cmpI (x.toNat : Int) (y.toNat : Int)) (cmpB r t) := rfl
  have d : Lib.compareBytes (x :: r) (y :: t) = if x < y then -1 else if y < x then 1 else Lib.compareBytes r t := rfl
  rw [e, d, strs_cmp r t]
  have h1 : (x < y) ↔ (x.toNat : Int) < (y.toNat : Int) := by rw [UInt8.lt_iff_toNat_lt]; omega
  have h2 : (y < x) ↔ (y.toNat : Int) < (x.toNat : Int) := by rw [UInt8.lt_iff_toNat_lt]; omega
  by_cases c1 : (x.toNat : Int) < (y.toNat : Int)
  ·rw [if_pos (h1.2 c1)]
   unfold cmpI
   rw [if_pos c1]
   rfl
  ·rw [if_neg (fun h => c1 (h1.1 h))]
   by_cases c2 : (y.toNat : Int) < (x.toNat : Int)
   ·rw [if_pos (h2.2 c2)]
    unfold cmpI
    rw [if_neg c1, if_neg (by omega)]
    rfl
   ·rw [if_neg (fun h => c2 (h2.1 h))]
    unfold cmpI
    rw [if_neg c1, if_pos (by omega)]
    rfl
theorem or_then (o p : Ordering) (r : List Int) (h : orF r = ordI p) : orF (ordI o :: r) = ordI (thenC o p) := by
 cases o
 ·rfl
 ·exact h
 ·rfl
theorem or_lab (x y : Lab) : orF [ordI (cmpI x.1 y.1), ordI (cmpI x.2.1 y.2.1), ordI (cmpI (fkey x.2.2.1) (fkey y.2.2.1)), ordI (cmpB x.2.2.2 y.2.2.2)] = ordI (cmpLab x y) := by
 refine or_then _ _ _ (or_then _ _ _ (or_then _ _ _ ?_))
 cases cmpB x.2.2.2 y.2.2.2 <;> rfl
theorem four_ints (w : World) (z0 z1 z2 z3 : Int) (t : TypeId) (j : Nat) (z : Int) (h : [z0, z1, z2, z3][j]? = some z) : (w.alloc (.cells #[.int .i64 z0, .int .i64 z1, .int .i64 z2, .int .i64 z3] t)).cell? ⟨w.heap.size, j, none⟩ = some (.int .i64 z) := by
 have hb := blk_alloc w #[.int .i64 z0, .int .i64 z1, .int .i64 z2, .int .i64 z3] t
 match j, h with
 | 0, h => cases h; exact hb.cell 0 _ rfl
 | 1, h => cases h; exact hb.cell 1 _ rfl
 | 2, h => cases h; exact hb.cell 2 _ rfl
 | 3, h => cases h; exact hb.cell 3 _ rfl
theorem or_four (w : World) (z0 z1 z2 z3 : Int) (t : TypeId) : Calls Tryz.prog 64 #[.slice (some ⟨w.heap.size, 0, none⟩) 4 4] (w.alloc (.cells #[.int .i64 z0, .int .i64 z1, .int .i64 z2, .int .i64 z3] t)).drew fun e w' => e = .returned (.int .i64 (orF [z0, z1, z2, z3])) ∧ w' = (w.alloc (.cells #[.int .i64 z0, .int .i64 z1, .int .i64 z2, .int .i64 z3] t)).drew :=
 or_any _ _ [z0, z1, z2, z3] (by simp) (fun j z h => (cell_drew_own _ _).trans (four_ints w z0 z1 z2 z3 t j z h)) 4
theorem pcmp_any (w : World) (A a B b : Nat) (k n : Int) (f : Nat) (s : ByteArray) (k' n' : Int) (f' : Nat) (s' : ByteArray) (hf : f < 18446744073709551616) (hf' : f' < 18446744073709551616)
  (a0 : w.cell? ⟨A, a, none⟩ = some (.int .i64 k)) (a1 : w.cell? ⟨A, a + 1, none⟩ = some (.int .i64 n)) (a2 : w.cell? ⟨A, a + 2, none⟩ = some (.int .u64 (f : Int))) (a3 : w.cell? ⟨A, a + 3, none⟩ = some (.string s)) (hA : A < w.heap.size)
  (b0 : w.cell? ⟨B, b, none⟩ = some (.int .i64 k')) (b1 : w.cell? ⟨B, b + 1, none⟩ = some (.int .i64 n')) (b2 : w.cell? ⟨B, b + 2, none⟩ = some (.int .u64 (f' : Int))) (b3 : w.cell? ⟨B, b + 3, none⟩ = some (.string s')) (hB : B < w.heap.size) :
  Calls Tryz.prog 34 #[.agg #[.pointer (some ⟨A, a, none⟩), .pointer (some ⟨B, b, none⟩), .int .i64 0]] w fun e w' => e = .returned (.int .i64 (ordI (cmpLab (k, n, f, s.data.toList) (k', n', f', s'.data.toList)))) ∧ Below w.heap.size w w' := by
 obtain ⟨W, hW⟩ : ∃ W, W = w.alloc (.cells #[.pointer (some ⟨A, a, none⟩), .pointer (some ⟨B, b, none⟩), .int .i64 0] 89) := ⟨_, rfl⟩
 have hblk : Blk W w.heap.size #[.pointer (some ⟨A, a, none⟩), .pointer (some ⟨B, b, none⟩), .int .i64 0] 89 := by rw [hW]; exact blk_alloc _ _ _
 have hbW : Below w.heap.size w W := by rw [hW]; exact (Below.refl _ w).alloc (Nat.le_refl _) _
 have c0 := (hbW.cell (p := ⟨A, a, none⟩) hA).trans a0
 have c1 := (hbW.cell (p := ⟨A, a + 1, none⟩) hA).trans a1
 have c2 := (hbW.cell (p := ⟨A, a + 2, none⟩) hA).trans a2
 have c3 := (hbW.cell (p := ⟨A, a + 3, none⟩) hA).trans a3
 have d0 := (hbW.cell (p := ⟨B, b, none⟩) hB).trans b0
 have d1 := (hbW.cell (p := ⟨B, b + 1, none⟩) hB).trans b1
 have d2 := (hbW.cell (p := ⟨B, b + 2, none⟩) hB).trans b2
 have d3 := (hbW.cell (p := ⟨B, b + 3, none⟩) hB).trans b3
 have p0 := hblk.cell 0 _ rfl
 have p1 := hblk.cell 1 _ rfl
 have p2 := hblk.cell 2 _ rfl
 clear a0 a1 a2 a3 b0 b1 b2 b3
 go_enter Tryz.func34, Tryz.ntmps34
 go_upto_region 1 with fail
 rw [← hW]
 clear hW
 go_wp2_with fail
 have hz := hbW.size
 generalize hN : w.heap.size = N at *
 have HN := hide hN
 clear hN
 go_region_held3 (fun w' => w'.cell? ⟨A, a, none⟩ = some (.int .i64 k) ∧ w'.cell? ⟨A, a + 1, none⟩ = some (.int .i64 n) ∧ w'.cell? ⟨A, a + 2, none⟩ = some (.int .u64 (f : Int)) ∧ w'.cell? ⟨A, a + 3, none⟩ = some (.string s) ∧ w'.cell? ⟨B, b, none⟩ = some (.int .i64 k') ∧ w'.cell? ⟨B, b + 1, none⟩ = some (.int .i64 n') ∧ w'.cell? ⟨B, b + 2, none⟩ = some (.int .u64 (f' : Int)) ∧ w'.cell? ⟨B, b + 3, none⟩ = some (.string s') ∧ w'.cell? ⟨N, 0, none⟩ = some (.pointer (some ⟨A, a, none⟩)) ∧ w'.cell? ⟨N, 1, none⟩ = some (.pointer (some ⟨B, b, none⟩))) (go_keep)
  (first
   | (go_at_call 65; refine (compI_any _ _ _).mono ?_; rintro e w9 ⟨rfl, rfl⟩)
   | (go_at_call 66; refine (compL_any _ _ _).mono ?_; rintro e w9 ⟨rfl, rfl⟩)
   | (go_at_call 68; refine (rank_any _ _ (by assumption)).mono ?_; rintro e w9 ⟨rfl, rfl⟩)
   | (go_at_call 67; refine (compU_any _ _ _).mono ?_; rintro e w9 ⟨rfl, rfl⟩)
   | (go_at_call 54; refine (Tryz.strings_Compare _ _ _).mono ?_; rintro e w9 ⟨rfl, rfl⟩)
   | (go_at_call 64; refine (or_four _ _ _ _ _ _).mono ?_; rintro e w9 ⟨rfl, rfl⟩))
 all_goals
  have HV := or_lab (k, n, f, s.data.toList) (k', n', f', s'.data.toList)
  simp only at HV
  rw [← rank_cmp hf hf', ← strs_cmp] at HV
  rw [HV]
  clear HV
  go_wp2
  go_ret
  exact ⟨rfl, by rw [HN.out]; exact (hbW.alloc hz _).drew⟩
end Go.Proofs.YtnbfnjhbmeocfabGreatDoor.valus
