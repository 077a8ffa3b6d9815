/- Of our texts, what this claim reaches. -/
import Derived.Test.YticcibefchffmaaDoorRows
import Derived.Test.YticcibefchffmaaDoorPptAG
import Derived.WalkKit
import Derived.ProofKit
import Derived.OpenShut
import Derived.ShutString
import Derived.ChangeOld
import Derived.Below
import Derived.SizedLaws
import Derived.Lay
import Derived.PinnedBridge
import Derived.Deep.DeepHandedRow
set_option linter.unusedVariables false
namespace Go.Proofs.YticcibefchffmaaDoor
namespace frame
open Go.ChangeShapes Go.WideShapes Go.ChangeAt Go.RowKit
open valus
theorem own:ownKnob Tryd.prog.godebug=none:=by kernel_rfl
theorem X0:laidOutB Tryd.prog=true:=by kernel_rfl
theorem X9 {H:Type}{d:DataW H}{l:List (DataW H)}(h:d∈l):Rows.uptoBulk d<=Rows.uptoBulkAll l:=by
 induction l with
 | nil=>cases h
 | cons x r ih=>
  simp only [Rows.uptoBulkAll];cases List.mem_cons.1 h with
  | inl e=>subst e;omega
  | inr e=>have:=ih e;omega
theorem Qa {H:Type}:∀l:List (DataW H),QO Rows.uptoBulk l=Rows.uptoBulkAll l
 | []=>by simp [QO,Rows.uptoBulkAll]
 | d :: r=>by
  show Rows.uptoBulk d+QO Rows.uptoBulk r=_
  rw [Qa r];simp [Rows.uptoBulkAll]
theorem QW {H:Type}(es sp:List (DataW H)):QO Rows.uptoBulk es<=Rows.uptoBulk (.slice es sp):=by rw [Qa];simp only [Rows.uptoBulk];omega
set_option maxRecDepth 100000
theorem Y8 {H:Type}{s:ByteArray}{ds:List (DataW H)}(hk:Rows.uptoSmall H ds=true)(hm:DataW.lit (.string s.data.toList)∈ds):s.size<=1048576:=by
 have h:Rows.uptoBulkAll ds<=1048576:=of_decide_eq_true hk;have h2:=X9 hm
 have h3:s.size<=Rows.uptoBulk (DataW.lit (H:=H) (.string s.data.toList)):=by
  have h4:s.data.toList.length=s.size:=by simp
  simp only [Rows.uptoBulk,h4];omega
 omega
end frame
end Go.Proofs.YticcibefchffmaaDoor
