/- How a node that came in is opened. -/
import Derived.Test.YtoikdjbgeebadaaTokFrame
set_option linter.unusedVariables false
namespace Go.Proofs.Ytoikdjbgeebadaa.frame
open Go.ChangeShapes Go.WideShapes Go.ChangeAt Go.RowKit

theorem cell_int {W : World} {r : Reach} {base : Nat} {v : Value} (h : Cell.okWide Try.prog W r base 3 v) : ∃ n, v = .int .i64 n ∧ -9223372036854775808 ≤ n ∧ n ≤ 9223372036854775807 := by
  simp only [Cell.okWide, Try.underlying3, Cell.ok] at h
  cases v <;> simp_all [IntKind.has, IntKind.min, IntKind.max, IntKind.signed, IntKind.bits]
theorem cell_slice {W : World} {r : Reach} {base : Nat} {v : Value} (h : Cell.okWide Try.prog W r base 22 v) : ∃ p n c, v = .slice p n c := by
  simp only [Cell.okWide, Try.underlying22, Cell.ok] at h
  cases v <;> simp_all
theorem node_cells : Try.prog.cellsOf 24 = 4 := by kernel_rfl
theorem node_types : Try.prog.cellTypes Try.prog.depth 24 = some [3, 3, 3, 22] := by kernel_rfl
/-- A node that came in: its four cells. -/
theorem node_ok {W : World} {r : Reach} {base : Nat} {v : Value} (h : Value.okWide Try.prog W r base 24 v) : ∃ k a e p n c, v = .agg #[.int .i64 k, .int .i64 a, .int .i64 e, .slice p n c] ∧ (-9223372036854775808 ≤ a ∧ a ≤ 9223372036854775807) ∧ (-9223372036854775808 ≤ e ∧ e ≤ 9223372036854775807) := by
  simp only [Value.okWide, Try.underlying24] at h
  obtain ⟨cs, rfl, hsz, ts, hts, _, hc⟩ := h
  rw [node_cells] at hsz
  rw [node_types] at hts
  injection hts with hts
  subst hts
  obtain ⟨l⟩ := cs
  match l, hsz with
  | [x0, x1, x2, x3], _ =>
    obtain ⟨u0, e0, h0⟩ := hc 0 x0 rfl
    obtain ⟨u1, e1, h1⟩ := hc 1 x1 rfl
    obtain ⟨u2, e2, h2⟩ := hc 2 x2 rfl
    obtain ⟨u3, e3, h3⟩ := hc 3 x3 rfl
    injection e0 with e0
    injection e1 with e1
    injection e2 with e2
    injection e3 with e3
    subst e0 e1 e2 e3
    obtain ⟨k, rfl, _⟩ := cell_int h0
    obtain ⟨a, rfl, ha⟩ := cell_int h1
    obtain ⟨e, rfl, he⟩ := cell_int h2
    obtain ⟨p, n, c, rfl⟩ := cell_slice h3
    exact ⟨k, a, e, p, n, c, rfl, ha, he⟩
end Go.Proofs.Ytoikdjbgeebadaa.frame
