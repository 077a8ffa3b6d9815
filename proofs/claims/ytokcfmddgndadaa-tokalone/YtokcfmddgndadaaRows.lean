/-
  No cell of these rows narrows 'for every input' (looked for: loops, veiled, ifaces, maps, wideKeys, modest, calm, conditions, laid).
  DERIVED. THE GIVEN ROWS OF THIS SEAT. 4 by the template 'for every input the law returns true; each argument reads behind the call as it read before'; 0 by the template 'total and deterministic' (their statements: YtokcfmddgndadaaTotals.lean).
  GIVEN WITH THE SEED: the statements are not yours to turn. If you find one false, say at which input.
  Laid BY PROGRAM, IN A SANDBOX (cutbox-rows.mjs): the forced cells as the released guide's own fill.sh prints them over the translation 886dc970f5feeab4… (all of the seat's roots in one cut). By AI agents, Wed Nov 11 2026. No macro, syntax, notation, axiom, sorry.
-/
import Derived.Test.YtokcfmddgndadaaChecked
import GoSem.Claim
import GoSem.ClaimJoined
import GoSem.ClaimMapViews
import Derived.JoinedTies
import Derived.KernelRfl
namespace Go.Proofs.Ytokcfmddgndadaa
/- THE CELL 'sum', in the pinned program and in every row, IS THE sha256 OF THE DUMP (.gsa) THAT YtokcfmddgndadaaProg.lean LOADS. Nothing in Lean hashes anything: it is a label: what it is worth is what the hold of that sum in a sandbox is worth. -/
noncomputable def Try.pinned : Pinned := { name := "ytokcfmddgndadaa", sum := "886dc970f5feeab4c14cd2e758c87952b9af6f96ff59e5667d9aa148d9ec3529", checked := Try.checked }
namespace Rows
def none {H : Type} : Left H := { results := [], args := [] }

/-- 'typecaselaw.TokCuts': WHATEVER THE INPUT: true; the input reads as it did. -/
def tokCutsSpec : ChangeSpec := { name := "tokCuts", fn := fun _ => fun
  | [d1, d2] => { results := [.lit (.bool true)], args := [d1, d2] }
  | _ => none }
def tokCutsRow : OpenClaim := { program := "ytokcfmddgndadaa", sum := "886dc970f5feeab4c14cd2e758c87952b9af6f96ff59e5667d9aa148d9ec3529", func := "typecase/typecaselaw.TokCuts", spec := "tokCuts", inPlace := ["internal/bytealg.IndexByteString", "internal/bytealg.IndexString"], unfollowed := true, recurses := true, named := ["internal/bytealg.MaxLen"], apart := false }
def TokCutsSaid : Prop := tokCutsRow.holds Try.pinned (OpenSpec.ofChange tokCutsSpec)

/-- ITS FALSE NEIGHBOUR: 'it returns false'. Refute it at one input. -/
def tokCutsWrong : ChangeSpec := { name := "tokCuts", fn := fun _ => fun
  | [d1, d2] => { results := [.lit (.bool false)], args := [d1, d2] }
  | _ => none }
def TokCutsWrongFalsely : Prop := tokCutsRow.holds Try.pinned (OpenSpec.ofChange tokCutsWrong)

/-- 'typecasekeep.TokTile': WHATEVER THE INPUT: true; the input reads as it did. -/
def tokTileSpec : ChangeSpec := { name := "tokTile", fn := fun _ => fun
  | [d] => { results := [.lit (.bool true)], args := [d] }
  | _ => none }
def tokTileRow : OpenClaim := { program := "ytokcfmddgndadaa", sum := "886dc970f5feeab4c14cd2e758c87952b9af6f96ff59e5667d9aa148d9ec3529", func := "typecase/typecasekeep.TokTile", spec := "tokTile", inPlace := ["internal/bytealg.IndexByteString", "internal/bytealg.IndexString"], unfollowed := true, recurses := true, named := ["internal/bytealg.MaxLen"], apart := false }
def TokTileSaid : Prop := tokTileRow.holds Try.pinned (OpenSpec.ofChange tokTileSpec)

/-- ITS FALSE NEIGHBOUR: 'it returns false'. Refute it at one input. -/
def tokTileWrong : ChangeSpec := { name := "tokTile", fn := fun _ => fun
  | [d] => { results := [.lit (.bool false)], args := [d] }
  | _ => none }
def TokTileWrongFalsely : Prop := tokTileRow.holds Try.pinned (OpenSpec.ofChange tokTileWrong)

/-- 'typecasekeep.TokAlone': WHATEVER THE INPUT: true; the input reads as it did. -/
def tokAloneSpec : ChangeSpec := { name := "tokAlone", fn := fun _ => fun
  | [d1, d2] => { results := [.lit (.bool true)], args := [d1, d2] }
  | _ => none }
def tokAloneRow : OpenClaim := { program := "ytokcfmddgndadaa", sum := "886dc970f5feeab4c14cd2e758c87952b9af6f96ff59e5667d9aa148d9ec3529", func := "typecase/typecasekeep.TokAlone", spec := "tokAlone", inPlace := ["internal/bytealg.IndexByteString", "internal/bytealg.IndexString"], unfollowed := true, recurses := true, named := ["internal/bytealg.MaxLen"], apart := false }
def TokAloneSaid : Prop := tokAloneRow.holds Try.pinned (OpenSpec.ofChange tokAloneSpec)

/-- ITS FALSE NEIGHBOUR: 'it returns false'. Refute it at one input. -/
def tokAloneWrong : ChangeSpec := { name := "tokAlone", fn := fun _ => fun
  | [d1, d2] => { results := [.lit (.bool false)], args := [d1, d2] }
  | _ => none }
def TokAloneWrongFalsely : Prop := tokAloneRow.holds Try.pinned (OpenSpec.ofChange tokAloneWrong)

/-- 'typecasekeep.TokFront': WHATEVER THE INPUT: true; the input reads as it did. -/
def tokFrontSpec : ChangeSpec := { name := "tokFront", fn := fun _ => fun
  | [d1, d2] => { results := [.lit (.bool true)], args := [d1, d2] }
  | _ => none }
def tokFrontRow : OpenClaim := { program := "ytokcfmddgndadaa", sum := "886dc970f5feeab4c14cd2e758c87952b9af6f96ff59e5667d9aa148d9ec3529", func := "typecase/typecasekeep.TokFront", spec := "tokFront", inPlace := ["internal/bytealg.IndexByteString", "internal/bytealg.IndexString"], unfollowed := true, recurses := true, named := ["internal/bytealg.MaxLen"], apart := false }
def TokFrontSaid : Prop := tokFrontRow.holds Try.pinned (OpenSpec.ofChange tokFrontSpec)

/-- ITS FALSE NEIGHBOUR: 'it returns false'. Refute it at one input. -/
def tokFrontWrong : ChangeSpec := { name := "tokFront", fn := fun _ => fun
  | [d1, d2] => { results := [.lit (.bool false)], args := [d1, d2] }
  | _ => none }
def TokFrontWrongFalsely : Prop := tokFrontRow.holds Try.pinned (OpenSpec.ofChange tokFrontWrong)

/- THE SECOND FORM. 'bulk': how many values and letters a reading holds, each counted each time it is reached (what is shared counts as often as it is met; a slice's spare places count too). A statement '..UptoSaid' is the law's where the arguments, and the package variables that the reading takes, are together of bulk at most 1048576: NARROWER than '..Said'. Prove '..Said' where nothing that the law and all that it calls make is longer than what came in: it says more and counts as full. Else prove '..UptoSaid'. A law counts once. -/
mutual
def uptoBulk {H : Type} : DataW H → Nat
  | .lit (.string bytes) => bytes.length + 1
  | .lit _ => 1
  | .nil => 1
  | .ptr d => uptoBulk d + 1
  | .slice elems spare => uptoBulkAll elems + uptoBulkAll spare + 1
  | .agg parts => uptoBulkAll parts + 1
  | .iface _ d => uptoBulk d + 1
  | .map entries => uptoBulkEntries entries + 1
  | .held _ => 1
def uptoBulkAll {H : Type} : List (DataW H) → Nat
  | [] => 0
  | d :: r => uptoBulk d + uptoBulkAll r
def uptoBulkEntries {H : Type} : List (Lit × DataW H) → Nat
  | [] => 0
  | x :: r => uptoBulkEntry x + uptoBulkEntries r
def uptoBulkEntry {H : Type} : Lit × DataW H → Nat
  | (.string bytes, d) => bytes.length + uptoBulk d + 1
  | (_, d) => uptoBulk d + 1
 end
def uptoSmall : (H : Type) → List (DataW H) → Bool := fun _ ds => decide (uptoBulkAll ds ≤ 1048576)
def OpenSpec.upto (s : _root_.Go.ChangeSpec) : _root_.Go.OpenSpec := { _root_.Go.OpenSpec.ofChange s with cond := some uptoSmall }

/-- 'typecaselaw.TokCuts', WHERE WHAT IT READS IS OF BULK AT MOST 1048576: true; the input reads as it did. -/
def tokCutsUptoRow : OpenClaim := { program := "ytokcfmddgndadaa", sum := "886dc970f5feeab4c14cd2e758c87952b9af6f96ff59e5667d9aa148d9ec3529", func := "typecase/typecaselaw.TokCuts", spec := "tokCuts", inPlace := ["internal/bytealg.IndexByteString", "internal/bytealg.IndexString"], unfollowed := true, recurses := true, named := ["internal/bytealg.MaxLen"], apart := false, narrowed := true }
def TokCutsUptoSaid : Prop := tokCutsUptoRow.holds Try.pinned (OpenSpec.upto tokCutsSpec)

/-- 'typecasekeep.TokTile', WHERE WHAT IT READS IS OF BULK AT MOST 1048576: true; the input reads as it did. -/
def tokTileUptoRow : OpenClaim := { program := "ytokcfmddgndadaa", sum := "886dc970f5feeab4c14cd2e758c87952b9af6f96ff59e5667d9aa148d9ec3529", func := "typecase/typecasekeep.TokTile", spec := "tokTile", inPlace := ["internal/bytealg.IndexByteString", "internal/bytealg.IndexString"], unfollowed := true, recurses := true, named := ["internal/bytealg.MaxLen"], apart := false, narrowed := true }
def TokTileUptoSaid : Prop := tokTileUptoRow.holds Try.pinned (OpenSpec.upto tokTileSpec)

/-- 'typecasekeep.TokAlone', WHERE WHAT IT READS IS OF BULK AT MOST 1048576: true; the input reads as it did. -/
def tokAloneUptoRow : OpenClaim := { program := "ytokcfmddgndadaa", sum := "886dc970f5feeab4c14cd2e758c87952b9af6f96ff59e5667d9aa148d9ec3529", func := "typecase/typecasekeep.TokAlone", spec := "tokAlone", inPlace := ["internal/bytealg.IndexByteString", "internal/bytealg.IndexString"], unfollowed := true, recurses := true, named := ["internal/bytealg.MaxLen"], apart := false, narrowed := true }
def TokAloneUptoSaid : Prop := tokAloneUptoRow.holds Try.pinned (OpenSpec.upto tokAloneSpec)

/-- 'typecasekeep.TokFront', WHERE WHAT IT READS IS OF BULK AT MOST 1048576: true; the input reads as it did. -/
def tokFrontUptoRow : OpenClaim := { program := "ytokcfmddgndadaa", sum := "886dc970f5feeab4c14cd2e758c87952b9af6f96ff59e5667d9aa148d9ec3529", func := "typecase/typecasekeep.TokFront", spec := "tokFront", inPlace := ["internal/bytealg.IndexByteString", "internal/bytealg.IndexString"], unfollowed := true, recurses := true, named := ["internal/bytealg.MaxLen"], apart := false, narrowed := true }
def TokFrontUptoSaid : Prop := tokFrontUptoRow.holds Try.pinned (OpenSpec.upto tokFrontSpec)

end Rows
end Go.Proofs.Ytokcfmddgndadaa
