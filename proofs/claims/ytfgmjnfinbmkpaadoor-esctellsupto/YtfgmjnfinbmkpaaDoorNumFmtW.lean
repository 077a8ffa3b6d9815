/- strconv.FormatUint and FormatInt at the bases 2, 8, 10 and 16. -/
import Derived.Test.YtfgmjnfinbmkpaaDoorNumMore
import Derived.Lib.AppendIntMem
import Derived.Lib.Walk
import Derived.BigCall
import Derived.BigGuard
set_option linter.unusedVariables false
namespace Go.Proofs.YtfgmjnfinbmkpaaDoor.bigs
open Go.RowKit Go.Sort
def bru64 : List Int := [0, 1, 56, 2, 57, 49, 28, 3, 61, 58, 42, 50, 38, 29, 17, 4, 62, 47, 59, 36, 45, 43, 51, 22, 53, 39, 33, 30, 24, 18, 12, 5, 63, 55, 48, 27, 60, 41, 37, 16, 46, 35, 44, 21, 52, 32, 23, 11, 54, 26, 40, 15, 34, 20, 31, 10, 25, 14, 19, 9, 13, 8, 7, 6]
/-- The two tables that the texts of numbers read. -/
structure NumTabs (w : World) : Prop where
  pow : Lib.TabIs Tryd.prog w "internal/strconv.uint64pow10" .u64 Lib.pow10Tab
  bru : Lib.TabIs Tryd.prog w "math/bits.deBruijn64tab" .u8 bru64
theorem tabKeep {P : Program} {w w' : World} {name : String} {k : IntKind} {zs : List Int} (h : Lib.TabIs P w name k zs) (hb : Below w.heap.size w w') : Lib.TabIs P w' name k zs := by
  unfold Lib.TabIs World.var? at *
  cases hg : P.globalNamed name with
  | none => simp [hg] at h
  | some g =>
    simp only [hg, Option.bind_some] at h ⊢
    have hlt : g < w.heap.size := by
      rcases Nat.lt_or_ge g w.heap.size with k | k
      · exact k
      · rw [Array.getElem?_eq_none k] at h
        simp at h
    rw [hb.block g hlt]
    exact h
theorem NumTabs.below {w w' : World} (h : NumTabs w) (hb : Below w.heap.size w w') : NumTabs w' := ⟨tabKeep h.pow hb, tabKeep h.bru hb⟩
def Pow2 (b s : Nat) : Prop := (b = 2 ∧ s = 1) ∨ (b = 8 ∧ s = 3) ∨ (b = 16 ∧ s = 4)
set_option maxHeartbeats 4000000 in
set_option maxRecDepth 100000 in
theorem isPow_any (w : World) (b s : Nat) (h : Pow2 b s) : Calls Tryd.prog 68 #[.int .i64 (b : Int)] w fun e w' => e = .returned (.bool true) ∧ w' = w := by
  rcases h with ⟨rfl, rfl⟩ | ⟨rfl, rfl⟩ | ⟨rfl, rfl⟩
  · have a0 : Go.bits .and .i64 2 1 = 0 := by decide
    go_enter Tryd.func68, Tryd.ntmps68
    go_wp2
    go_ret
    exact ⟨rfl, rfl⟩
  · have a0 : Go.bits .and .i64 8 7 = 0 := by decide
    go_enter Tryd.func68, Tryd.ntmps68
    go_wp2
    go_ret
    exact ⟨rfl, rfl⟩
  · have a0 : Go.bits .and .i64 16 15 = 0 := by decide
    go_enter Tryd.func68, Tryd.ntmps68
    go_wp2
    go_ret
    exact ⟨rfl, rfl⟩
set_option maxHeartbeats 4000000 in
set_option maxRecDepth 100000 in
theorem tz64_any (w : World) (b s : Nat) (h : Pow2 b s) (ht : Lib.TabIs Tryd.prog w "math/bits.deBruijn64tab" .u8 bru64) : Calls Tryd.prog 72 #[.int .u64 (b : Int)] w fun e w' => e = .returned (.int .i64 (s : Int)) ∧ w' = w := by
  have hg : Tryd.prog.globalNamed "math/bits.deBruijn64tab" = some 5 := by kernel_rfl
  have c1 : w.cell? ⟨5, 1, none⟩ = some (.int .u8 1) := ht.cell hg 1 (by decide)
  have c7 : w.cell? ⟨5, 7, none⟩ = some (.int .u8 3) := ht.cell hg 7 (by decide)
  have c15 : w.cell? ⟨5, 15, none⟩ = some (.int .u8 4) := ht.cell hg 15 (by decide)
  clear ht hg
  rcases h with ⟨rfl, rfl⟩ | ⟨rfl, rfl⟩ | ⟨rfl, rfl⟩
  · have a0 : Go.bits .and .u64 2 (IntKind.u64.wrap (-2)) = 2 := by decide
    have a1 : IntKind.u64.wrap (2 * 285870213051353865) = 571740426102707730 := by decide
    have a2 : (571740426102707730 : Int) / 288230376151711744 = 1 := by decide
    go_enter Tryd.func72, Tryd.ntmps72
    go_wp2
    go_ret
    exact ⟨rfl, rfl⟩
  · have a0 : Go.bits .and .u64 8 (IntKind.u64.wrap (-8)) = 8 := by decide
    have a1 : IntKind.u64.wrap (8 * 285870213051353865) = 2286961704410830920 := by decide
    have a2 : (2286961704410830920 : Int) / 288230376151711744 = 7 := by decide
    go_enter Tryd.func72, Tryd.ntmps72
    go_wp2
    go_ret
    exact ⟨rfl, rfl⟩
  · have a0 : Go.bits .and .u64 16 (IntKind.u64.wrap (-16)) = 16 := by decide
    have a1 : IntKind.u64.wrap (16 * 285870213051353865) = 4573923408821661840 := by decide
    have a2 : (4573923408821661840 : Int) / 288230376151711744 = 15 := by decide
    go_enter Tryd.func72, Tryd.ntmps72
    go_wp2
    go_ret
    exact ⟨rfl, rfl⟩
set_option maxHeartbeats 4000000 in
set_option maxRecDepth 100000 in
theorem tz_any (w : World) (b s : Nat) (h : Pow2 b s) (ht : Lib.TabIs Tryd.prog w "math/bits.deBruijn64tab" .u8 bru64) : Calls Tryd.prog 69 #[.int .u64 (b : Int)] w fun e w' => e = .returned (.int .i64 (s : Int)) ∧ w' = w := by
  have K := hide (tz64_any w b s h ht)
  have hb : b < 17 := by unfold Pow2 at h; omega
  clear ht h
  go_enter Tryd.func69, Tryd.ntmps69
  go_wp2_with fail
  refine (unhide K).mono ?_
  rintro _ w1 ⟨rfl, rfl⟩
  go_wp2
  go_ret
  exact ⟨rfl, rfl⟩
/-- The cells of a block from a place on. -/
def Tail (w : World) (g t i : Nat) (W : List UInt8) : Prop := ∃ cs, w.heap[g]? = some (.cells cs t) ∧ cs.size = 65 ∧ i + W.length = 65 ∧ ∀ j, j < W.length → cs[i + j]? = some (.int .u8 ((W.getD j 0).toNat : Int))
theorem Tail.store {w : World} {g t i : Nat} {W : List UInt8} (h : Tail w g t (i + 1) W) (c : UInt8) : Tail (w.setCell ⟨g, i, none⟩ (.int .u8 (c.toNat : Int))) g t i (c :: W) := by
  obtain ⟨cs, h1, h2, h3, h4⟩ := h
  refine ⟨cs.setIfInBounds i (.int .u8 (c.toNat : Int)), ?_, by simp [h2], by simp; omega, fun j hj => ?_⟩
  · simp only [World.setCell, Array.getElem?_modify, h1]
    simp
  · rw [Array.getElem?_setIfInBounds]
    cases j with
    | zero => simp; omega
    | succ j =>
      rw [if_neg (by omega), show i + (j + 1) = i + 1 + j by omega, h4 j (by simpa using hj)]
      rfl
theorem Tail.froz {w : World} {g t i : Nat} {W : List UInt8} (h : Tail w g t i W) (j : Nat) : w.frozen? ⟨g, j, none⟩ = false := by
  obtain ⟨cs, h1, _⟩ := h
  simp [World.frozen?, h1]
theorem Tail.there {w : World} {g t i : Nat} {W : List UInt8} (h : Tail w g t i W) (j : Nat) (hj : j < 65) : ∃ v, w.cell? ⟨g, j, none⟩ = some v := by
  obtain ⟨cs, h1, h2, _⟩ := h
  refine ⟨cs[j]'(by omega), ?_⟩
  simp only [World.cell?, h1]
  exact Array.getElem?_eq_getElem (by omega)
end Go.Proofs.YtfgmjnfinbmkpaaDoor.bigs
