/- The program's isOfItsKind. -/
import Derived.Test.YteehffjainffcaaDoorValKeysW
set_option linter.unusedVariables false
set_option linter.unusedSimpArgs false
namespace Go.Proofs.YteehffjainffcaaDoor.valus
open Go.RowKit

structure Six (w : World) (B o : Nat) (k n : Int) (b : Nat) (s : ByteArray) (pL : Option Addr) (nL cL : Nat) (pE : Option Addr) (nE cE : Nat) : Prop where
  c0 : w.cell? ⟨B, o, none⟩ = some (.int .i64 k)
  c1 : w.cell? ⟨B, o + 1, none⟩ = some (.int .i64 n)
  c2 : w.cell? ⟨B, o + 2, none⟩ = some (.int .u64 (b : Int))
  c3 : w.cell? ⟨B, o + 3, none⟩ = some (.string s)
  c4 : w.cell? ⟨B, o + 4, none⟩ = some (.slice pL nL cL)
  c5 : w.cell? ⟨B, o + 5, none⟩ = some (.slice pE nE cE)
  lt : B < w.heap.size
theorem Six.below {w w' : World} {B o : Nat} {k n : Int} {b : Nat} {s : ByteArray} {pL : Option Addr} {nL cL : Nat} {pE : Option Addr} {nE cE : Nat} (h : Six w B o k n b s pL nL cL pE nE cE) (hb : Below w.heap.size w w') : Six w' B o k n b s pL nL cL pE nE cE :=
  ⟨(hb.cell (p := ⟨B, o, none⟩) h.lt).trans h.c0, (hb.cell (p := ⟨B, o + 1, none⟩) h.lt).trans h.c1, (hb.cell (p := ⟨B, o + 2, none⟩) h.lt).trans h.c2, (hb.cell (p := ⟨B, o + 3, none⟩) h.lt).trans h.c3, (hb.cell (p := ⟨B, o + 4, none⟩) h.lt).trans h.c4, (hb.cell (p := ⟨B, o + 5, none⟩) h.lt).trans h.c5, Nat.lt_of_lt_of_le h.lt hb.size⟩

theorem beqz (m : Nat) : (((m : Nat) : Int) == 0) = decide (m = 0) := by
  by_cases h : m = 0
  · subst h
    rfl
  · rw [decide_eq_false h]
    exact beq_false_of_ne (by omega)
theorem bne9 (m : Nat) : (((m : Nat) : Int) != 9221120237041090561) = !decide (m = 9221120237041090561) := by
  by_cases h : m = 9221120237041090561
  · subst h
    rfl
  · rw [decide_eq_false h]
    exact bne_iff_ne.2 (by omega)
set_option maxHeartbeats 4000000 in
set_option maxRecDepth 100000 in
theorem kind0 (w : World) (B o : Nat) (n : Int) (b : Nat) (s : ByteArray) (pL : Option Addr) (nL cL : Nat) (pE : Option Addr) (nE cE : Nat) (hb : b < 18446744073709551616) (h : Six w B o 0 n b s pL nL cL pE nE cE) :
    Calls Tryd.prog 14 #[.pointer (some ⟨B, o, none⟩)] w fun e w' => e = .returned (.bool (decide (n = 0 ∧ b = 0 ∧ s.data.toList = [] ∧ nL = 0 ∧ nE = 0))) ∧ Below w.heap.size w w' := by
  obtain ⟨c0, c1, c2, c3, c4, c5, hlt⟩ := h
  obtain ⟨A, hA⟩ : ∃ A, A = w.alloc (.cells #[.int .i64 0, .int .i64 n, .int .u64 (b : Int), .string s, .slice pL nL cL, .slice pE nE cE] 26) := ⟨_, rfl⟩
  have hblk : Blk A w.heap.size #[.int .i64 0, .int .i64 n, .int .u64 (b : Int), .string s, .slice pL nL cL, .slice pE nE cE] 26 := by rw [hA]; exact blk_alloc _ _ _
  have hbA : Below w.heap.size w A := by rw [hA]; exact (Below.refl _ w).alloc (Nat.le_refl _) _
  have z0 := (hbA.cell (p := ⟨B, o, none⟩) hlt).trans c0
  have z1 := (hbA.cell (p := ⟨B, o + 1, none⟩) hlt).trans c1
  have z2 := (hbA.cell (p := ⟨B, o + 2, none⟩) hlt).trans c2
  have a1 := hblk.cell 1 _ rfl
  have a2 := hblk.cell 2 _ rfl
  have a3 := hblk.cell 3 _ rfl
  have a4 := hblk.cell 4 _ rfl
  have a5 := hblk.cell 5 _ rfl
  have HB := hide hbA
  have HK := hide hblk
  rw [hA] at z0 z1 z2 a1 a2 a3 a4 a5
  have HA := hide hA
  clear hA hbA hblk
  go_enter Tryd.func14, Tryd.ntmps14
  go_wp2
  all_goals
    go_ret
    refine ⟨congrArg (fun x => Ending.returned (Value.bool x)) ?_, by first | exact (Below.refl _ w).alloc (Nat.le_refl _) _ | exact ((Below.refl _ w).alloc (Nat.le_refl _) _).setCell (Nat.le_refl _) _⟩
    clear z0 z1 z2 a1 a2 a3 a4 a5 c0 c1 c2 c3 c4 c5 HB HK HA
    try simp only [ByteArray.toList_eq, bne9, beqz] at *
    simp_all
set_option maxHeartbeats 4000000 in
set_option maxRecDepth 100000 in
theorem kind1 (w : World) (B o : Nat) (n : Int) (b : Nat) (s : ByteArray) (pL : Option Addr) (nL cL : Nat) (pE : Option Addr) (nE cE : Nat) (hb : b < 18446744073709551616) (h : Six w B o 1 n b s pL nL cL pE nE cE) :
    Calls Tryd.prog 14 #[.pointer (some ⟨B, o, none⟩)] w fun e w' => e = .returned (.bool (decide ((n = 0 ∨ n = 1) ∧ b = 0 ∧ s.data.toList = [] ∧ nL = 0 ∧ nE = 0))) ∧ Below w.heap.size w w' := by
  obtain ⟨c0, c1, c2, c3, c4, c5, hlt⟩ := h
  obtain ⟨A, hA⟩ : ∃ A, A = w.alloc (.cells #[.int .i64 1, .int .i64 n, .int .u64 (b : Int), .string s, .slice pL nL cL, .slice pE nE cE] 26) := ⟨_, rfl⟩
  have hblk : Blk A w.heap.size #[.int .i64 1, .int .i64 n, .int .u64 (b : Int), .string s, .slice pL nL cL, .slice pE nE cE] 26 := by rw [hA]; exact blk_alloc _ _ _
  have hbA : Below w.heap.size w A := by rw [hA]; exact (Below.refl _ w).alloc (Nat.le_refl _) _
  have z0 := (hbA.cell (p := ⟨B, o, none⟩) hlt).trans c0
  have z1 := (hbA.cell (p := ⟨B, o + 1, none⟩) hlt).trans c1
  have z2 := (hbA.cell (p := ⟨B, o + 2, none⟩) hlt).trans c2
  have a1 := hblk.cell 1 _ rfl
  have a2 := hblk.cell 2 _ rfl
  have a3 := hblk.cell 3 _ rfl
  have a4 := hblk.cell 4 _ rfl
  have a5 := hblk.cell 5 _ rfl
  have HB := hide hbA
  have HK := hide hblk
  rw [hA] at z0 z1 z2 a1 a2 a3 a4 a5
  have HA := hide hA
  clear hA hbA hblk
  go_enter Tryd.func14, Tryd.ntmps14
  go_wp2
  all_goals
    go_ret
    refine ⟨congrArg (fun x => Ending.returned (Value.bool x)) ?_, by first | exact (Below.refl _ w).alloc (Nat.le_refl _) _ | exact ((Below.refl _ w).alloc (Nat.le_refl _) _).setCell (Nat.le_refl _) _⟩
    clear z0 z1 z2 a1 a2 a3 a4 a5 c0 c1 c2 c3 c4 c5 HB HK HA
    try simp only [ByteArray.toList_eq, bne9, beqz] at *
    simp_all
set_option maxHeartbeats 4000000 in
set_option maxRecDepth 100000 in
theorem kind2 (w : World) (B o : Nat) (n : Int) (b : Nat) (s : ByteArray) (pL : Option Addr) (nL cL : Nat) (pE : Option Addr) (nE cE : Nat) (hb : b < 18446744073709551616) (h : Six w B o 2 n b s pL nL cL pE nE cE) :
    Calls Tryd.prog 14 #[.pointer (some ⟨B, o, none⟩)] w fun e w' => e = .returned (.bool (decide (b = 0 ∧ s.data.toList = [] ∧ nL = 0 ∧ nE = 0))) ∧ Below w.heap.size w w' := by
  obtain ⟨c0, c1, c2, c3, c4, c5, hlt⟩ := h
  obtain ⟨A, hA⟩ : ∃ A, A = w.alloc (.cells #[.int .i64 2, .int .i64 n, .int .u64 (b : Int), .string s, .slice pL nL cL, .slice pE nE cE] 26) := ⟨_, rfl⟩
  have hblk : Blk A w.heap.size #[.int .i64 2, .int .i64 n, .int .u64 (b : Int), .string s, .slice pL nL cL, .slice pE nE cE] 26 := by rw [hA]; exact blk_alloc _ _ _
  have hbA : Below w.heap.size w A := by rw [hA]; exact (Below.refl _ w).alloc (Nat.le_refl _) _
  have z0 := (hbA.cell (p := ⟨B, o, none⟩) hlt).trans c0
  have z1 := (hbA.cell (p := ⟨B, o + 1, none⟩) hlt).trans c1
  have z2 := (hbA.cell (p := ⟨B, o + 2, none⟩) hlt).trans c2
  have a1 := hblk.cell 1 _ rfl
  have a2 := hblk.cell 2 _ rfl
  have a3 := hblk.cell 3 _ rfl
  have a4 := hblk.cell 4 _ rfl
  have a5 := hblk.cell 5 _ rfl
  have HB := hide hbA
  have HK := hide hblk
  rw [hA] at z0 z1 z2 a1 a2 a3 a4 a5
  have HA := hide hA
  clear hA hbA hblk
  go_enter Tryd.func14, Tryd.ntmps14
  go_wp2
  all_goals
    go_ret
    refine ⟨congrArg (fun x => Ending.returned (Value.bool x)) ?_, by first | exact (Below.refl _ w).alloc (Nat.le_refl _) _ | exact ((Below.refl _ w).alloc (Nat.le_refl _) _).setCell (Nat.le_refl _) _⟩
    clear z0 z1 z2 a1 a2 a3 a4 a5 c0 c1 c2 c3 c4 c5 HB HK HA
    try simp only [ByteArray.toList_eq, bne9, beqz] at *
    simp_all
set_option maxHeartbeats 4000000 in
set_option maxRecDepth 100000 in
theorem kind3 (w : World) (B o : Nat) (n : Int) (b : Nat) (s : ByteArray) (pL : Option Addr) (nL cL : Nat) (pE : Option Addr) (nE cE : Nat) (hb : b < 18446744073709551616) (h : Six w B o 3 n b s pL nL cL pE nE cE) :
    Calls Tryd.prog 14 #[.pointer (some ⟨B, o, none⟩)] w fun e w' => e = .returned (.bool (decide (((fparts b).2.2 = 2 → b = 9221120237041090561) ∧ n = 0 ∧ s.data.toList = [] ∧ nL = 0 ∧ nE = 0))) ∧ Below w.heap.size w w' := by
  obtain ⟨c0, c1, c2, c3, c4, c5, hlt⟩ := h
  obtain ⟨A, hA⟩ : ∃ A, A = w.alloc (.cells #[.int .i64 3, .int .i64 n, .int .u64 (b : Int), .string s, .slice pL nL cL, .slice pE nE cE] 26) := ⟨_, rfl⟩
  have hblk : Blk A w.heap.size #[.int .i64 3, .int .i64 n, .int .u64 (b : Int), .string s, .slice pL nL cL, .slice pE nE cE] 26 := by rw [hA]; exact blk_alloc _ _ _
  have hbA : Below w.heap.size w A := by rw [hA]; exact (Below.refl _ w).alloc (Nat.le_refl _) _
  have z0 := (hbA.cell (p := ⟨B, o, none⟩) hlt).trans c0
  have z1 := (hbA.cell (p := ⟨B, o + 1, none⟩) hlt).trans c1
  have z2 := (hbA.cell (p := ⟨B, o + 2, none⟩) hlt).trans c2
  have a1 := hblk.cell 1 _ rfl
  have a2 := hblk.cell 2 _ rfl
  have a3 := hblk.cell 3 _ rfl
  have a4 := hblk.cell 4 _ rfl
  have a5 := hblk.cell 5 _ rfl
  have HB := hide hbA
  have HK := hide hblk
  rw [hA] at z0 z1 z2 a1 a2 a3 a4 a5
  have HA := hide hA
  clear hA hbA hblk
  go_enter Tryd.func14, Tryd.ntmps14
  go_wp2_with (go_at_call 22; refine (partsW_any _ b hb).mono ?_; rintro e w1 ⟨rfl, rfl⟩)
  all_goals
    go_ret
    refine ⟨congrArg (fun x => Ending.returned (Value.bool x)) ?_, by first | exact (Below.refl _ w).alloc (Nat.le_refl _) _ | exact ((Below.refl _ w).alloc (Nat.le_refl _) _).setCell (Nat.le_refl _) _⟩
    clear z0 z1 z2 a1 a2 a3 a4 a5 c0 c1 c2 c3 c4 c5 HB HK HA
    try simp only [ByteArray.toList_eq, bne9, beqz] at *
    simp_all
set_option maxHeartbeats 4000000 in
set_option maxRecDepth 100000 in
theorem kind4 (w : World) (B o : Nat) (n : Int) (b : Nat) (s : ByteArray) (pL : Option Addr) (nL cL : Nat) (pE : Option Addr) (nE cE : Nat) (hb : b < 18446744073709551616) (h : Six w B o 4 n b s pL nL cL pE nE cE) :
    Calls Tryd.prog 14 #[.pointer (some ⟨B, o, none⟩)] w fun e w' => e = .returned (.bool (decide (n = 0 ∧ b = 0 ∧ nL = 0 ∧ nE = 0))) ∧ Below w.heap.size w w' := by
  obtain ⟨c0, c1, c2, c3, c4, c5, hlt⟩ := h
  obtain ⟨A, hA⟩ : ∃ A, A = w.alloc (.cells #[.int .i64 4, .int .i64 n, .int .u64 (b : Int), .string s, .slice pL nL cL, .slice pE nE cE] 26) := ⟨_, rfl⟩
  have hblk : Blk A w.heap.size #[.int .i64 4, .int .i64 n, .int .u64 (b : Int), .string s, .slice pL nL cL, .slice pE nE cE] 26 := by rw [hA]; exact blk_alloc _ _ _
  have hbA : Below w.heap.size w A := by rw [hA]; exact (Below.refl _ w).alloc (Nat.le_refl _) _
  have z0 := (hbA.cell (p := ⟨B, o, none⟩) hlt).trans c0
  have z1 := (hbA.cell (p := ⟨B, o + 1, none⟩) hlt).trans c1
  have z2 := (hbA.cell (p := ⟨B, o + 2, none⟩) hlt).trans c2
  have a1 := hblk.cell 1 _ rfl
  have a2 := hblk.cell 2 _ rfl
  have a3 := hblk.cell 3 _ rfl
  have a4 := hblk.cell 4 _ rfl
  have a5 := hblk.cell 5 _ rfl
  have HB := hide hbA
  have HK := hide hblk
  rw [hA] at z0 z1 z2 a1 a2 a3 a4 a5
  have HA := hide hA
  clear hA hbA hblk
  go_enter Tryd.func14, Tryd.ntmps14
  go_wp2
  all_goals
    go_ret
    refine ⟨congrArg (fun x => Ending.returned (Value.bool x)) ?_, by first | exact (Below.refl _ w).alloc (Nat.le_refl _) _ | exact ((Below.refl _ w).alloc (Nat.le_refl _) _).setCell (Nat.le_refl _) _⟩
    clear z0 z1 z2 a1 a2 a3 a4 a5 c0 c1 c2 c3 c4 c5 HB HK HA
    try simp only [ByteArray.toList_eq, bne9, beqz] at *
    simp_all
set_option maxHeartbeats 4000000 in
set_option maxRecDepth 100000 in
theorem kind5 (w : World) (B o : Nat) (n : Int) (b : Nat) (s : ByteArray) (pL : Option Addr) (nL cL : Nat) (pE : Option Addr) (nE cE : Nat) (hb : b < 18446744073709551616) (h : Six w B o 5 n b s pL nL cL pE nE cE) :
    Calls Tryd.prog 14 #[.pointer (some ⟨B, o, none⟩)] w fun e w' => e = .returned (.bool (decide (n = 0 ∧ b = 0 ∧ s.data.toList = [] ∧ nE = 0))) ∧ Below w.heap.size w w' := by
  obtain ⟨c0, c1, c2, c3, c4, c5, hlt⟩ := h
  obtain ⟨A, hA⟩ : ∃ A, A = w.alloc (.cells #[.int .i64 5, .int .i64 n, .int .u64 (b : Int), .string s, .slice pL nL cL, .slice pE nE cE] 26) := ⟨_, rfl⟩
  have hblk : Blk A w.heap.size #[.int .i64 5, .int .i64 n, .int .u64 (b : Int), .string s, .slice pL nL cL, .slice pE nE cE] 26 := by rw [hA]; exact blk_alloc _ _ _
  have hbA : Below w.heap.size w A := by rw [hA]; exact (Below.refl _ w).alloc (Nat.le_refl _) _
  have z0 := (hbA.cell (p := ⟨B, o, none⟩) hlt).trans c0
  have z1 := (hbA.cell (p := ⟨B, o + 1, none⟩) hlt).trans c1
  have z2 := (hbA.cell (p := ⟨B, o + 2, none⟩) hlt).trans c2
  have a1 := hblk.cell 1 _ rfl
  have a2 := hblk.cell 2 _ rfl
  have a3 := hblk.cell 3 _ rfl
  have a4 := hblk.cell 4 _ rfl
  have a5 := hblk.cell 5 _ rfl
  have HB := hide hbA
  have HK := hide hblk
  rw [hA] at z0 z1 z2 a1 a2 a3 a4 a5
  have HA := hide hA
  clear hA hbA hblk
  go_enter Tryd.func14, Tryd.ntmps14
  go_wp2
  all_goals
    go_ret
    refine ⟨congrArg (fun x => Ending.returned (Value.bool x)) ?_, by first | exact (Below.refl _ w).alloc (Nat.le_refl _) _ | exact ((Below.refl _ w).alloc (Nat.le_refl _) _).setCell (Nat.le_refl _) _⟩
    clear z0 z1 z2 a1 a2 a3 a4 a5 c0 c1 c2 c3 c4 c5 HB HK HA
    try simp only [ByteArray.toList_eq, bne9, beqz] at *
    simp_all
set_option maxHeartbeats 4000000 in
set_option maxRecDepth 100000 in
theorem kind6 (w : World) (B o : Nat) (n : Int) (b : Nat) (s : ByteArray) (pL : Option Addr) (nL cL : Nat) (pE : Option Addr) (nE cE : Nat) (hb : b < 18446744073709551616) (h : Six w B o 6 n b s pL nL cL pE nE cE) :
    Calls Tryd.prog 14 #[.pointer (some ⟨B, o, none⟩)] w fun e w' => e = .returned (.bool (decide (n = 0 ∧ b = 0 ∧ s.data.toList = [] ∧ nL = 0))) ∧ Below w.heap.size w w' := by
  obtain ⟨c0, c1, c2, c3, c4, c5, hlt⟩ := h
  obtain ⟨A, hA⟩ : ∃ A, A = w.alloc (.cells #[.int .i64 6, .int .i64 n, .int .u64 (b : Int), .string s, .slice pL nL cL, .slice pE nE cE] 26) := ⟨_, rfl⟩
  have hblk : Blk A w.heap.size #[.int .i64 6, .int .i64 n, .int .u64 (b : Int), .string s, .slice pL nL cL, .slice pE nE cE] 26 := by rw [hA]; exact blk_alloc _ _ _
  have hbA : Below w.heap.size w A := by rw [hA]; exact (Below.refl _ w).alloc (Nat.le_refl _) _
  have z0 := (hbA.cell (p := ⟨B, o, none⟩) hlt).trans c0
  have z1 := (hbA.cell (p := ⟨B, o + 1, none⟩) hlt).trans c1
  have z2 := (hbA.cell (p := ⟨B, o + 2, none⟩) hlt).trans c2
  have a1 := hblk.cell 1 _ rfl
  have a2 := hblk.cell 2 _ rfl
  have a3 := hblk.cell 3 _ rfl
  have a4 := hblk.cell 4 _ rfl
  have a5 := hblk.cell 5 _ rfl
  have HB := hide hbA
  have HK := hide hblk
  rw [hA] at z0 z1 z2 a1 a2 a3 a4 a5
  have HA := hide hA
  clear hA hbA hblk
  go_enter Tryd.func14, Tryd.ntmps14
  go_wp2
  all_goals
    go_ret
    refine ⟨congrArg (fun x => Ending.returned (Value.bool x)) ?_, by first | exact (Below.refl _ w).alloc (Nat.le_refl _) _ | exact ((Below.refl _ w).alloc (Nat.le_refl _) _).setCell (Nat.le_refl _) _⟩
    clear z0 z1 z2 a1 a2 a3 a4 a5 c0 c1 c2 c3 c4 c5 HB HK HA
    try simp only [ByteArray.toList_eq, bne9, beqz] at *
    simp_all
set_option maxHeartbeats 4000000 in
set_option maxRecDepth 100000 in
theorem kind7 (w : World) (B o : Nat) (k : Int) (n : Int) (b : Nat) (s : ByteArray) (pL : Option Addr) (nL cL : Nat) (pE : Option Addr) (nE cE : Nat) (hb : b < 18446744073709551616) (hk : k < 0 ∨ 6 < k) (h : Six w B o k n b s pL nL cL pE nE cE) :
    Calls Tryd.prog 14 #[.pointer (some ⟨B, o, none⟩)] w fun e w' => e = .returned (.bool (decide (False))) ∧ Below w.heap.size w w' := by
  obtain ⟨c0, c1, c2, c3, c4, c5, hlt⟩ := h
  obtain ⟨A, hA⟩ : ∃ A, A = w.alloc (.cells #[.int .i64 k, .int .i64 n, .int .u64 (b : Int), .string s, .slice pL nL cL, .slice pE nE cE] 26) := ⟨_, rfl⟩
  have hblk : Blk A w.heap.size #[.int .i64 k, .int .i64 n, .int .u64 (b : Int), .string s, .slice pL nL cL, .slice pE nE cE] 26 := by rw [hA]; exact blk_alloc _ _ _
  have hbA : Below w.heap.size w A := by rw [hA]; exact (Below.refl _ w).alloc (Nat.le_refl _) _
  have z0 := (hbA.cell (p := ⟨B, o, none⟩) hlt).trans c0
  have z1 := (hbA.cell (p := ⟨B, o + 1, none⟩) hlt).trans c1
  have z2 := (hbA.cell (p := ⟨B, o + 2, none⟩) hlt).trans c2
  have a1 := hblk.cell 1 _ rfl
  have a2 := hblk.cell 2 _ rfl
  have a3 := hblk.cell 3 _ rfl
  have a4 := hblk.cell 4 _ rfl
  have a5 := hblk.cell 5 _ rfl
  have HB := hide hbA
  have HK := hide hblk
  rw [hA] at z0 z1 z2 a1 a2 a3 a4 a5
  have HA := hide hA
  clear hA hbA hblk
  have e0 : (k == 0) = false := beq_false_of_ne (by omega)
  have e1 : (k == 1) = false := beq_false_of_ne (by omega)
  have e2 : (k == 2) = false := beq_false_of_ne (by omega)
  have e3 : (k == 3) = false := beq_false_of_ne (by omega)
  have e4 : (k == 4) = false := beq_false_of_ne (by omega)
  have e5 : (k == 5) = false := beq_false_of_ne (by omega)
  have e6 : (k == 6) = false := beq_false_of_ne (by omega)
  go_enter Tryd.func14, Tryd.ntmps14
  go_wp2
  all_goals
    go_ret
    refine ⟨congrArg (fun x => Ending.returned (Value.bool x)) ?_, by first | exact (Below.refl _ w).alloc (Nat.le_refl _) _ | exact ((Below.refl _ w).alloc (Nat.le_refl _) _).setCell (Nat.le_refl _) _⟩
    clear z0 z1 z2 a1 a2 a3 a4 a5 c0 c1 c2 c3 c4 c5 HB HK HA
    try simp only [ByteArray.toList_eq, bne9, beqz] at *
    simp_all
end Go.Proofs.YteehffjainffcaaDoor.valus
