/- The walks of the document's answer: OfWords. -/
import Derived.Test.YtobbbhmkcmbekaaDoorBigOver
import Derived.Deep.RegionWith
set_option linter.unusedVariables false
namespace Go.Proofs.YtobbbhmkcmbekaaDoor.bigs
open Go.RowKit

/-- What a list of words tells, the least first. -/
def wval : List Nat → Nat
  | [] => 0
  | d :: r => d + 4294967296 * wval r
/-- All are words. -/
def Words32 (l : List Nat) : Prop := ∀ j, j < l.length → l.getD j 0 < 4294967296
theorem words_getD {l : List Nat} (h : Words32 l) (j : Nat) : l.getD j 0 < 4294967296 := by
  by_cases hj : j < l.length
  · exact h j hj
  · rw [List.getD, List.getElem?_eq_none (by omega)]; simp
theorem wdrop_val (l : List Nat) (k : Nat) : wval (l.drop k) = l.getD k 0 + 4294967296 * wval (l.drop (k + 1)) := by
  by_cases h : k < l.length
  · rw [List.drop_eq_getElem_cons h, wval]
    simp [List.getD, List.getElem?_eq_getElem h]
  · have e : l.getD k 0 = 0 := by rw [List.getD, List.getElem?_eq_none (by omega)]; rfl
    rw [e, List.drop_of_length_le (by omega), List.drop_of_length_le (by omega)]
    rfl
theorem words_cons {d : Nat} {r : List Nat} : Words32 (d :: r) ↔ d < 4294967296 ∧ Words32 r := by
  constructor
  · intro h
    exact ⟨h 0 (by simp), fun j hj => h (j + 1) (by simpa using hj)⟩
  · rintro ⟨h1, h2⟩ j hj
    cases j with
    | zero => exact h1
    | succ j => exact h2 j (by simpa using hj)
theorem words_drop {l : List Nat} (h : Words32 l) : ∀ k, Words32 (l.drop k) := by
  induction l with
  | nil => intro k; rw [List.drop_nil]; exact h
  | cons d r ih =>
    intro k
    cases k with
    | zero => exact h
    | succ k => rw [List.drop_succ_cons]; exact ih (words_cons.1 h).2 k
theorem wval_lt {l : List Nat} (h : Words32 l) : wval l < 4294967296 ^ l.length := by
  induction l with
  | nil => simp [wval]
  | cons d r ih =>
    have h' := words_cons.1 h
    have := ih h'.2
    rw [wval, List.length_cons, Nat.pow_succ]
    omega
theorem wval_len {l : List Nat} (h : Words32 l) : (dig (wval l)).length ≤ 3 * l.length := by
  apply dig_length_le
  have h1 := wval_lt h
  have h2 : 4294967296 ^ l.length ≤ (10000 ^ 3) ^ l.length := Nat.pow_le_pow_left (by decide) _
  rw [← Nat.pow_mul] at h2
  omega
/-- Words of a slice lie in memory. -/
def RowU (w : World) (a : Option Addr) (l : List Nat) : Prop :=
  l ≠ [] → ∃ b o, a = some ⟨b, o, none⟩ ∧ b < w.heap.size ∧ ∀ j, j < l.length → w.cell? ⟨b, o + j, none⟩ = some (.int .u32 ((l.getD j 0 : Nat) : Int))
theorem RowU.below {w w' : World} {a : Option Addr} {l : List Nat} (h : RowU w a l) (hb : Below w.heap.size w w') : RowU w' a l := by
  intro h0
  obtain ⟨b, o, e, hlt, hc⟩ := h h0
  refine ⟨b, o, e, Nat.lt_of_lt_of_le hlt hb.size, fun j hj => ?_⟩
  rw [hb.cell (p := ⟨b, o + j, none⟩) hlt]
  exact hc j hj
theorem cell_keep {w w' : World} {a : Addr} {v : Value} (hb : Below w.heap.size w w') (h : w.cell? a = some v) : w'.cell? a = some v := by
  rw [hb.cell (World.block_lt_of_cell? w a h)]
  exact h
theorem small_two (w : World) : Calls Tryd.prog 32 #[.int .u64 4294967296] w fun e w' => ∃ v, e = .returned v ∧ Lies w' v 4294967296 ∧ Fresh w.heap.size v ∧ Below w.heap.size w w' := small_any 4294967296 w (by decide)
theorem dig_two : (dig 4294967296).length ≤ 3 := dig_length_le (by decide)
theorem dig_word {x : Nat} (h : x < 4294967296) : (dig x).length ≤ 3 := dig_length_le (Nat.lt_trans h (by decide))

theorem small_wrap (x : Nat) (w : World) (h : x < 4294967296) : Calls Tryd.prog 32 #[.int .u64 (IntKind.u64.wrap (x : Int))] w fun e w' => ∃ v, e = .returned v ∧ Lies w' v x ∧ Fresh w.heap.size v ∧ Below w.heap.size w w' := by
  have e : IntKind.u64.wrap (x : Int) = (x : Int) := by simp [IntKind.wrap, IntKind.bits, IntKind.signed]; omega
  rw [e]
  exact small_any x w (by omega)

end Go.Proofs.YtobbbhmkcmbekaaDoor.bigs
