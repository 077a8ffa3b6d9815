/- Two changes held against each other: slices.Equal over parts. -/
import Derived.Test.YteajpkoghlbneaaSplBlk
set_option linter.unusedVariables false
namespace Go.Proofs.Yteajpkoghlbneaa.spls
open Go.RowKit

set_option maxHeartbeats 400000 in
theorem eqPart (a1 a2 b1 b2 : Int) (k1 k2 : ByteArray) (x y z : Bool) (hx : (a1 == b1) = x) (hy : (a2 == b2) = y) (hz : (k1.toList == k2.toList) = z) (w : World) : (Op.equalIn 10000 46 (.agg #[.int .i64 a1, .int .i64 a2, .string k1]) (.agg #[.int .i64 b1, .int .i64 b2, .string k2])).run Try.prog w = .ok (x && (y && z)) w := by
  have u3 := Try.underlying3
  have u9 := Try.underlying9
  have hS : Try.prog.underlying 46 = some (.struct (Try.prog.fieldsOf 46)) := by kernel_rfl
  have hp : Try.prog.stoodInHeld 46 = false := by kernel_rfl
  rw [show (10000 : Nat) = 9999 + 1 from rfl, run_equalIn_agg w 9999 46 _ _ hS hp]
  simp only [Program.fieldsOf, Try.underlying46]
  cases x <;> cases y <;> cases z <;> go_simp
theorem part_eq (x y : Pt) : ((x.1 == y.1) && ((x.2.1 == y.2.1) && ((⟨x.2.2.toArray⟩ : ByteArray).toList == (⟨y.2.2.toArray⟩ : ByteArray).toList))) = decide (x = y) := by
  rw [ByteArray.toList_eq, ByteArray.toList_eq]
  obtain ⟨a, b, c⟩ := x
  obtain ⟨d, e, f⟩ := y
  by_cases h1 : a = d
  · subst h1
    by_cases h2 : b = e
    · subst h2
      by_cases h3 : c = f
      · subst h3; simp
      · simp [h3]
    · simp [h2]
  · simp [h1]
theorem take_eq {P Q : List Pt} {k : Nat} (h : P.take k = Q.take k) (hp : k < P.length) (hq : k < Q.length) (e : P[k] = Q[k]) : P.take (k + 1) = Q.take (k + 1) := by
  rw [List.take_succ_eq_append_getElem hp, List.take_succ_eq_append_getElem hq, h, e]
end Go.Proofs.Yteajpkoghlbneaa.spls
