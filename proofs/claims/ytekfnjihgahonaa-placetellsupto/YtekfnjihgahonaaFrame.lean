/- What the rows of this seat share: how arguments are opened. -/
import Derived.Test.YtekfnjihgahonaaRows
import Derived.Test.YtekfnjihgahonaaWalks
import Derived.WalkKit
import Derived.ProofKit
import Derived.OpenShut
import Derived.ShutString
import Derived.ChangeOld
import Derived.Below
import Derived.SizedLaws
import Derived.JoinedCond
set_option linter.unusedVariables false
namespace Go.Proofs.Ytekfnjihgahonaa.frame
open Go.ChangeShapes Go.WideShapes Go.ChangeAt Go.RowKit
open walks

theorem own : ownKnob Try.prog.godebug = none := by kernel_rfl
/-- What the bound gives of a text among the arguments. -/
theorem part_le {H : Type} {d : DataW H} {l : List (DataW H)} (h : d ∈ l) : Rows.uptoBulk d ≤ Rows.uptoBulkAll l := by
  induction l with
  | nil => cases h
  | cons x r ih =>
    simp only [Rows.uptoBulkAll]
    cases List.mem_cons.1 h with
    | inl e => subst e; omega
    | inr e => have := ih e; omega
theorem short {H : Type} {s : ByteArray} {ds : List (DataW H)} (hk : Rows.uptoSmall H ds = true) (hm : DataW.lit (.string s.data.toList) ∈ ds) : s.size ≤ 1048576 := by
  have h : Rows.uptoBulkAll ds ≤ 1048576 := of_decide_eq_true hk
  have h2 := part_le hm
  simp only [Rows.uptoBulk] at h2
  rw [len_list] at h2
  omega
end Go.Proofs.Ytekfnjihgahonaa.frame
