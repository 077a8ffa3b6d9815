/- How a node that came in is opened. -/
import Derived.Test.YtoikdjbgeebadaaTokFrame
set_option linter.unusedVariables false
namespace Go.Proofs.Ytoikdjbgeebadaa.frame
open Go.ChangeShapes Go.WideShapes Go.ChangeAt Go.RowKit

theorem cell_int {W : World} {r : Reach} {base : Nat} {v : Value} (h : Cell.okWide Try.prog W r base 3 v) : ∃ n, v = .int .i64 n ∧ -9223372036854775808 ≤ n ∧ n ≤ 9223372036854775807 := by
  simp only [Cell.okWide, Try.underlying3, Cell.ok] at h
  cases v <;> simp_all [IntKind.has, IntKind.min, IntKind.max, IntKind.signed, IntKind.bits]
theorem cell_slice {W : World} {r : Reach} {base : Nat} {v : Value} (h : Cell.okWide Try.prog W r base 22 v) : ∃ p n c, v = .slice p n c := by
  simp only [Cell.okWide, Try.underlying22, Cell.ok] at h
  cases v <;> simp_all
theorem node_cells : Try.prog.cellsOf 24 = 4 := by kernel_rfl
theorem node_types : Try.prog.cellTypes Try.prog.depth 24 = some [3, 3, 3, 22] := by kernel_rfl
/-- A node that came in: its four cells. -/
theorem node_ok {W : World} {r : Reach} {base : Nat} {v : Value} (h : Value.okWide Try.prog W r base 24 v) : ∃ k a e p n c, v = .agg #[.int .i64 k, .int .i64 a, .int .i64 e, .slice p n c] ∧ (-9223372036854775808 ≤ a ∧ a ≤ 9223372036854775807) ∧ (-9223372036854775808 ≤ e ∧ e ≤ 9223372036854775807) := by
  simp only [Value.okWide, Try.underlying24] at h
  obtain ⟨cs, rfl, hsz, ts, hts, _, hc⟩ := h
  rw [node_cells] at hsz
  rw [node_types] at hts
  injection hts with hts
  subst hts
  obtain ⟨l⟩ := cs
  match l, hsz with
  | [x0, x1, x2, x3], _ =>
    obtain ⟨u0, e0, h0⟩ := hc 0 x0 rfl
    obtain ⟨u1, e1, h1⟩ := hc 1 x1 rfl
    obtain ⟨u2, e2, h2⟩ := hc 2 x2 rfl
    obtain ⟨u3, e3, h3⟩ := hc 3 x3 rfl
    injection e0 with e0
    injection e1 with e1
    injection e2 with e2
    injection e3 with e3
    subst e0 e1 e2 e3
    obtain ⟨k, rfl, _⟩ := cell_int h0
    obtain ⟨a, rfl, ha⟩ := cell_int h1
    obtain ⟨e, rfl, he⟩ := cell_int h2
    obtain ⟨p, n, c, rfl⟩ := cell_slice h3
    exact ⟨k, a, e, p, n, c, rfl, ha, he⟩
theorem slice_max {W : World} {r : Reach} {base : Nat} {a : Option Addr} {n c : Nat} (h : Value.okWide Try.prog W r base 39 (.slice a n c)) : (n : Int) ≤ 9223372036854775807 := by
  simp only [Value.okWide, Try.underlying39, Cell.okWide, Cell.ok] at h
  cases a with
  | none =>
    match n, c, h with
    | 0, 0, _ => decide
  | some a =>
    have h2 := h.2.1
    have h1 := h.1
    simp [IntKind.max, IntKind.signed, IntKind.bits] at h2
    omega
/-- A list of numbers that came in, opened. -/
theorem ints_ok {H : Type} {enc : TypeId × Value → H} {W : World} {a : Option Addr} {len cap : Nat} {d : DataW H} {p : List MemPlace}
    (h : DataW.Trod enc Try.prog W 0 (fun _ => true) true 39 (.slice a len cap) d p) :
    ∃ zs : List Int, len = zs.length ∧ (zs ≠ [] → ∃ b o, a = some ⟨b, o, none⟩ ∧ b < W.heap.size ∧ ∀ j (h : j < zs.length), W.cell? ⟨b, o + j, none⟩ = some (.int .i64 zs[j])) ∧ ∀ j (h : j < zs.length), -9223372036854775808 ≤ zs[j] ∧ zs[j] ≤ 9223372036854775807 := by
  have lt : ∀ x ∈ p, x.block < W.heap.size := by obtain ⟨m, hm⟩ := h; exact DataW.trod_lt m _ _ _ hm
  obtain ⟨fuel, hf⟩ := h
  rcases open_ints Try.underlying39 Try.underlying3 (by kernel_rfl) hf with ⟨hcs, _⟩ | ⟨x, l, c, zs, hcs, _, hl, hm, hz, hx, hcell, hwz⟩
  · simp [Value.cells] at hcs
    obtain ⟨rfl, rfl, rfl⟩ := hcs
    exact ⟨[], rfl, fun h => absurd rfl h, fun j h => absurd h (by simp)⟩
  · simp [Value.cells] at hcs
    obtain ⟨rfl, rfl, rfl⟩ := hcs
    simp only [Prod.mk.injEq] at hx
    obtain ⟨rfl, rfl⟩ := hx
    simp only [if_true] at hz
    have hlen : (zs.take len).length = len := by simp; omega
    have hget : ∀ j (h : j < (zs.take len).length), (zs.take len)[j] = zs.getD j 0 := fun j hj => by
      have hj' : j < zs.length := by omega
      rw [List.getElem_take]
      simp [List.getD, hj']
    refine ⟨zs.take len, hlen.symm, ?_, fun j hj => ?_⟩
    · intro h0
      have hp : 0 < len := by rw [← hlen]; exact List.length_pos_iff.2 h0
      obtain ⟨b, off, rfl, hc⟩ := ints_at hcell (by omega)
      refine ⟨b, off, rfl, lt (.cell b off) (MemPlace.mem_row.2 ⟨0, by omega, by simp⟩), fun j hj => ?_⟩
      rw [hget j hj]
      exact hc j (by omega)
    · rw [List.getElem_take]
      exact bounds_i64 (hwz _ (List.getElem_mem _))
end Go.Proofs.Ytoikdjbgeebadaa.frame
