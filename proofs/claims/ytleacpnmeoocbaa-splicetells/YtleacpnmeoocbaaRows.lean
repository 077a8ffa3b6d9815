/-
  No cell of these rows narrows 'for every input' (looked for: loops, veiled, ifaces, maps, wideKeys, modest, calm, conditions, laid).
  DERIVED. THE GIVEN ROWS OF THIS SEAT. 6 by the template 'for every input the law returns true; each argument reads behind the call as it read before'; 0 by the template 'total and deterministic' (their statements: YtleacpnmeoocbaaTotals.lean).
  GIVEN WITH THE SEED: the statements are not yours to turn. If you find one false, say at which input.
  Laid BY PROGRAM, IN A SANDBOX (cutbox-rows.mjs): the forced cells as the released guide's own fill.sh prints them over the translation 0191ab9b979924bc… (all of the seat's roots in one cut). By AI agents, Wed Nov 11 2026. No macro, syntax, notation, axiom, sorry.
-/
import Derived.Test.YtleacpnmeoocbaaChecked
import GoSem.Claim
import GoSem.ClaimJoined
import GoSem.ClaimMapViews
import Derived.JoinedTies
import Derived.KernelRfl
namespace Go.Proofs.Ytleacpnmeoocbaa
/- THE CELL 'sum', in the pinned program and in every row, IS THE sha256 OF THE DUMP (.gsa) THAT YtleacpnmeoocbaaProg.lean LOADS. Nothing in Lean hashes anything: it is a label: what it is worth is what the hold of that sum in a sandbox is worth. -/
noncomputable def Try.pinned : Pinned := { name := "ytleacpnmeoocbaa", sum := "0191ab9b979924bc680eb52336c119117eca18bd935c58597de31ce1e2073476", checked := Try.checked }
namespace Rows
def none {H : Type} : Left H := { results := [], args := [] }

/-- 'typecaselaw.SpliceTells': WHATEVER THE INPUT: true; the input reads as it did. -/
def spliceTellsSpec : ChangeSpec := { name := "spliceTells", fn := fun _ => fun
  | [d1, d2] => { results := [.lit (.bool true)], args := [d1, d2] }
  | _ => none }
def spliceTellsRow : OpenClaim := { program := "ytleacpnmeoocbaa", sum := "0191ab9b979924bc680eb52336c119117eca18bd935c58597de31ce1e2073476", func := "typecase/typecaselaw.SpliceTells", spec := "spliceTells", inPlace := ["internal/abi.NoEscape"], unfollowed := true, recurses := true, apart := false }
def SpliceTellsSaid : Prop := spliceTellsRow.holds Try.pinned (OpenSpec.ofChange spliceTellsSpec)

/-- ITS FALSE NEIGHBOUR: 'it returns false'. Refute it at one input. -/
def spliceTellsWrong : ChangeSpec := { name := "spliceTells", fn := fun _ => fun
  | [d1, d2] => { results := [.lit (.bool false)], args := [d1, d2] }
  | _ => none }
def SpliceTellsWrongFalsely : Prop := spliceTellsRow.holds Try.pinned (OpenSpec.ofChange spliceTellsWrong)

/-- 'typecaselaw.SpliceComposes': WHATEVER THE INPUT: true; the input reads as it did. -/
def spliceComposesSpec : ChangeSpec := { name := "spliceComposes", fn := fun _ => fun
  | [d1, d2] => { results := [.lit (.bool true)], args := [d1, d2] }
  | _ => none }
def spliceComposesRow : OpenClaim := { program := "ytleacpnmeoocbaa", sum := "0191ab9b979924bc680eb52336c119117eca18bd935c58597de31ce1e2073476", func := "typecase/typecaselaw.SpliceComposes", spec := "spliceComposes", unfollowed := true, recurses := true, apart := false }
def SpliceComposesSaid : Prop := spliceComposesRow.holds Try.pinned (OpenSpec.ofChange spliceComposesSpec)

/-- ITS FALSE NEIGHBOUR: 'it returns false'. Refute it at one input. -/
def spliceComposesWrong : ChangeSpec := { name := "spliceComposes", fn := fun _ => fun
  | [d1, d2] => { results := [.lit (.bool false)], args := [d1, d2] }
  | _ => none }
def SpliceComposesWrongFalsely : Prop := spliceComposesRow.holds Try.pinned (OpenSpec.ofChange spliceComposesWrong)

/-- 'typecaselaw.SpliceTransforms': WHATEVER THE INPUT: true; the input reads as it did. -/
def spliceTransformsSpec : ChangeSpec := { name := "spliceTransforms", fn := fun _ => fun
  | [d1, d2] => { results := [.lit (.bool true)], args := [d1, d2] }
  | _ => none }
def spliceTransformsRow : OpenClaim := { program := "ytleacpnmeoocbaa", sum := "0191ab9b979924bc680eb52336c119117eca18bd935c58597de31ce1e2073476", func := "typecase/typecaselaw.SpliceTransforms", spec := "spliceTransforms", unfollowed := true, recurses := true, apart := false }
def SpliceTransformsSaid : Prop := spliceTransformsRow.holds Try.pinned (OpenSpec.ofChange spliceTransformsSpec)

/-- ITS FALSE NEIGHBOUR: 'it returns false'. Refute it at one input. -/
def spliceTransformsWrong : ChangeSpec := { name := "spliceTransforms", fn := fun _ => fun
  | [d1, d2] => { results := [.lit (.bool false)], args := [d1, d2] }
  | _ => none }
def SpliceTransformsWrongFalsely : Prop := spliceTransformsRow.holds Try.pinned (OpenSpec.ofChange spliceTransformsWrong)

/-- 'typecasekeep.SpliceNorm': WHATEVER THE INPUT: true; the input reads as it did. -/
def spliceNormSpec : ChangeSpec := { name := "spliceNorm", fn := fun _ => fun
  | [d1, d2] => { results := [.lit (.bool true)], args := [d1, d2] }
  | _ => none }
def spliceNormRow : OpenClaim := { program := "ytleacpnmeoocbaa", sum := "0191ab9b979924bc680eb52336c119117eca18bd935c58597de31ce1e2073476", func := "typecase/typecasekeep.SpliceNorm", spec := "spliceNorm", inPlace := ["internal/abi.NoEscape"], apart := false }
def SpliceNormSaid : Prop := spliceNormRow.holds Try.pinned (OpenSpec.ofChange spliceNormSpec)

/-- ITS FALSE NEIGHBOUR: 'it returns false'. Refute it at one input. -/
def spliceNormWrong : ChangeSpec := { name := "spliceNorm", fn := fun _ => fun
  | [d1, d2] => { results := [.lit (.bool false)], args := [d1, d2] }
  | _ => none }
def SpliceNormWrongFalsely : Prop := spliceNormRow.holds Try.pinned (OpenSpec.ofChange spliceNormWrong)

/-- 'typecasekeep.SpliceBack': WHATEVER THE INPUT: true; the input reads as it did. -/
def spliceBackSpec : ChangeSpec := { name := "spliceBack", fn := fun _ => fun
  | [d1, d2] => { results := [.lit (.bool true)], args := [d1, d2] }
  | _ => none }
def spliceBackRow : OpenClaim := { program := "ytleacpnmeoocbaa", sum := "0191ab9b979924bc680eb52336c119117eca18bd935c58597de31ce1e2073476", func := "typecase/typecasekeep.SpliceBack", spec := "spliceBack", inPlace := ["internal/abi.NoEscape"], apart := false }
def SpliceBackSaid : Prop := spliceBackRow.holds Try.pinned (OpenSpec.ofChange spliceBackSpec)

/-- ITS FALSE NEIGHBOUR: 'it returns false'. Refute it at one input. -/
def spliceBackWrong : ChangeSpec := { name := "spliceBack", fn := fun _ => fun
  | [d1, d2] => { results := [.lit (.bool false)], args := [d1, d2] }
  | _ => none }
def SpliceBackWrongFalsely : Prop := spliceBackRow.holds Try.pinned (OpenSpec.ofChange spliceBackWrong)

/-- 'typecasekeep.SpliceJoin': WHATEVER THE INPUT: true; the input reads as it did. -/
def spliceJoinSpec : ChangeSpec := { name := "spliceJoin", fn := fun _ => fun
  | [d1, d2, d3, d4] => { results := [.lit (.bool true)], args := [d1, d2, d3, d4] }
  | _ => none }
def spliceJoinRow : OpenClaim := { program := "ytleacpnmeoocbaa", sum := "0191ab9b979924bc680eb52336c119117eca18bd935c58597de31ce1e2073476", func := "typecase/typecasekeep.SpliceJoin", spec := "spliceJoin", inPlace := ["internal/abi.NoEscape"], apart := false }
def SpliceJoinSaid : Prop := spliceJoinRow.holds Try.pinned (OpenSpec.ofChange spliceJoinSpec)

/-- ITS FALSE NEIGHBOUR: 'it returns false'. Refute it at one input. -/
def spliceJoinWrong : ChangeSpec := { name := "spliceJoin", fn := fun _ => fun
  | [d1, d2, d3, d4] => { results := [.lit (.bool false)], args := [d1, d2, d3, d4] }
  | _ => none }
def SpliceJoinWrongFalsely : Prop := spliceJoinRow.holds Try.pinned (OpenSpec.ofChange spliceJoinWrong)

/- THE SECOND FORM. 'bulk': how many values and letters a reading holds, each counted each time it is reached (what is shared counts as often as it is met; a slice's spare places count too). A statement '..UptoSaid' is the law's where the arguments, and the package variables that the reading takes, are together of bulk at most 1048576: NARROWER than '..Said'. Prove '..Said' where nothing that the law and all that it calls make is longer than what came in: it says more and counts as full. Else prove '..UptoSaid'. A law counts once. -/
mutual
def uptoBulk {H : Type} : DataW H → Nat
  | .lit (.string bytes) => bytes.length + 1
  | .lit _ => 1
  | .nil => 1
  | .ptr d => uptoBulk d + 1
  | .slice elems spare => uptoBulkAll elems + uptoBulkAll spare + 1
  | .agg parts => uptoBulkAll parts + 1
  | .iface _ d => uptoBulk d + 1
  | .map entries => uptoBulkEntries entries + 1
  | .held _ => 1
def uptoBulkAll {H : Type} : List (DataW H) → Nat
  | [] => 0
  | d :: r => uptoBulk d + uptoBulkAll r
def uptoBulkEntries {H : Type} : List (Lit × DataW H) → Nat
  | [] => 0
  | x :: r => uptoBulkEntry x + uptoBulkEntries r
def uptoBulkEntry {H : Type} : Lit × DataW H → Nat
  | (.string bytes, d) => bytes.length + uptoBulk d + 1
  | (_, d) => uptoBulk d + 1
 end
def uptoSmall : (H : Type) → List (DataW H) → Bool := fun _ ds => decide (uptoBulkAll ds ≤ 1048576)
def OpenSpec.upto (s : _root_.Go.ChangeSpec) : _root_.Go.OpenSpec := { _root_.Go.OpenSpec.ofChange s with cond := some uptoSmall }

/-- 'typecaselaw.SpliceTells', WHERE WHAT IT READS IS OF BULK AT MOST 1048576: true; the input reads as it did. -/
def spliceTellsUptoRow : OpenClaim := { program := "ytleacpnmeoocbaa", sum := "0191ab9b979924bc680eb52336c119117eca18bd935c58597de31ce1e2073476", func := "typecase/typecaselaw.SpliceTells", spec := "spliceTells", inPlace := ["internal/abi.NoEscape"], unfollowed := true, recurses := true, apart := false, narrowed := true }
def SpliceTellsUptoSaid : Prop := spliceTellsUptoRow.holds Try.pinned (OpenSpec.upto spliceTellsSpec)

/-- 'typecaselaw.SpliceComposes', WHERE WHAT IT READS IS OF BULK AT MOST 1048576: true; the input reads as it did. -/
def spliceComposesUptoRow : OpenClaim := { program := "ytleacpnmeoocbaa", sum := "0191ab9b979924bc680eb52336c119117eca18bd935c58597de31ce1e2073476", func := "typecase/typecaselaw.SpliceComposes", spec := "spliceComposes", unfollowed := true, recurses := true, apart := false, narrowed := true }
def SpliceComposesUptoSaid : Prop := spliceComposesUptoRow.holds Try.pinned (OpenSpec.upto spliceComposesSpec)

/-- 'typecaselaw.SpliceTransforms', WHERE WHAT IT READS IS OF BULK AT MOST 1048576: true; the input reads as it did. -/
def spliceTransformsUptoRow : OpenClaim := { program := "ytleacpnmeoocbaa", sum := "0191ab9b979924bc680eb52336c119117eca18bd935c58597de31ce1e2073476", func := "typecase/typecaselaw.SpliceTransforms", spec := "spliceTransforms", unfollowed := true, recurses := true, apart := false, narrowed := true }
def SpliceTransformsUptoSaid : Prop := spliceTransformsUptoRow.holds Try.pinned (OpenSpec.upto spliceTransformsSpec)

/-- 'typecasekeep.SpliceNorm', WHERE WHAT IT READS IS OF BULK AT MOST 1048576: true; the input reads as it did. -/
def spliceNormUptoRow : OpenClaim := { program := "ytleacpnmeoocbaa", sum := "0191ab9b979924bc680eb52336c119117eca18bd935c58597de31ce1e2073476", func := "typecase/typecasekeep.SpliceNorm", spec := "spliceNorm", inPlace := ["internal/abi.NoEscape"], apart := false, narrowed := true }
def SpliceNormUptoSaid : Prop := spliceNormUptoRow.holds Try.pinned (OpenSpec.upto spliceNormSpec)

/-- 'typecasekeep.SpliceBack', WHERE WHAT IT READS IS OF BULK AT MOST 1048576: true; the input reads as it did. -/
def spliceBackUptoRow : OpenClaim := { program := "ytleacpnmeoocbaa", sum := "0191ab9b979924bc680eb52336c119117eca18bd935c58597de31ce1e2073476", func := "typecase/typecasekeep.SpliceBack", spec := "spliceBack", inPlace := ["internal/abi.NoEscape"], apart := false, narrowed := true }
def SpliceBackUptoSaid : Prop := spliceBackUptoRow.holds Try.pinned (OpenSpec.upto spliceBackSpec)

/-- 'typecasekeep.SpliceJoin', WHERE WHAT IT READS IS OF BULK AT MOST 1048576: true; the input reads as it did. -/
def spliceJoinUptoRow : OpenClaim := { program := "ytleacpnmeoocbaa", sum := "0191ab9b979924bc680eb52336c119117eca18bd935c58597de31ce1e2073476", func := "typecase/typecasekeep.SpliceJoin", spec := "spliceJoin", inPlace := ["internal/abi.NoEscape"], apart := false, narrowed := true }
def SpliceJoinUptoSaid : Prop := spliceJoinUptoRow.holds Try.pinned (OpenSpec.upto spliceJoinSpec)

end Rows
end Go.Proofs.Ytleacpnmeoocbaa
