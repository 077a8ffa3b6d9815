/-
  No cell of these rows narrows 'for every input' (looked for: loops, veiled, ifaces, maps, wideKeys, modest, calm, conditions, laid).
  DERIVED. THE GIVEN ROWS OF THIS SEAT. 6 by the template 'for every input the law returns true; each argument reads behind the call as it read before'; 0 by the template 'total and deterministic' (their statements: YtgfleflfahabeaaTotals.lean).
  GIVEN WITH THE SEED: the statements are not yours to turn. If you find one false, say at which input.
  Laid BY PROGRAM, IN A SANDBOX (cutbox-rows.mjs): the forced cells as the released guide's own fill.sh prints them over the translation 3f544de220b4802d… (all of the seat's roots in one cut). By AI agents, Wed Nov 11 2026. No macro, syntax, notation, axiom, sorry.
-/
import Derived.Test.YtgfleflfahabeaaChecked
import GoSem.Claim
import GoSem.ClaimJoined
import GoSem.ClaimMapViews
import Derived.JoinedTies
import Derived.KernelRfl
namespace Go.Proofs.Ytgfleflfahabeaa
/- THE CELL 'sum', in the pinned program and in every row, IS THE sha256 OF THE DUMP (.gsa) THAT YtgfleflfahabeaaProg.lean LOADS. Nothing in Lean hashes anything: it is a label: what it is worth is what the hold of that sum in a sandbox is worth. -/
noncomputable def Try.pinned : Pinned := { name := "ytgfleflfahabeaa", sum := "3f544de220b4802de000108188f0b6774ef24b92214ab40fe91e4f35bf7a8325", checked := Try.checked }
namespace Rows
def none {H : Type} : Left H := { results := [], args := [] }

/-- 'typecaselaw.BigTells': WHATEVER THE INPUT: true; the input reads as it did. -/
def bigTellsSpec : ChangeSpec := { name := "bigTells", fn := fun _ => fun
  | [d1, d2] => { results := [.lit (.bool true)], args := [d1, d2] }
  | _ => none }
def bigTellsRow : OpenClaim := { program := "ytgfleflfahabeaa", sum := "3f544de220b4802de000108188f0b6774ef24b92214ab40fe91e4f35bf7a8325", func := "typecase/typecaselaw.BigTells", spec := "bigTells", apart := false }
def BigTellsSaid : Prop := bigTellsRow.holds Try.pinned (OpenSpec.ofChange bigTellsSpec)

/-- ITS FALSE NEIGHBOUR: 'it returns false'. Refute it at one input. -/
def bigTellsWrong : ChangeSpec := { name := "bigTells", fn := fun _ => fun
  | [d1, d2] => { results := [.lit (.bool false)], args := [d1, d2] }
  | _ => none }
def BigTellsWrongFalsely : Prop := bigTellsRow.holds Try.pinned (OpenSpec.ofChange bigTellsWrong)

/-- 'typecaselaw.BigShifts': WHATEVER THE INPUT: true; the input reads as it did. -/
def bigShiftsSpec : ChangeSpec := { name := "bigShifts", fn := fun _ => fun
  | [d1, d2, d3, d4] => { results := [.lit (.bool true)], args := [d1, d2, d3, d4] }
  | _ => none }
def bigShiftsRow : OpenClaim := { program := "ytgfleflfahabeaa", sum := "3f544de220b4802de000108188f0b6774ef24b92214ab40fe91e4f35bf7a8325", func := "typecase/typecaselaw.BigShifts", spec := "bigShifts", apart := false }
def BigShiftsSaid : Prop := bigShiftsRow.holds Try.pinned (OpenSpec.ofChange bigShiftsSpec)

/-- ITS FALSE NEIGHBOUR: 'it returns false'. Refute it at one input. -/
def bigShiftsWrong : ChangeSpec := { name := "bigShifts", fn := fun _ => fun
  | [d1, d2, d3, d4] => { results := [.lit (.bool false)], args := [d1, d2, d3, d4] }
  | _ => none }
def BigShiftsWrongFalsely : Prop := bigShiftsRow.holds Try.pinned (OpenSpec.ofChange bigShiftsWrong)

/-- 'typecasekeep.BigLaws': WHATEVER THE INPUT: true; the input reads as it did. -/
def bigLawsSpec : ChangeSpec := { name := "bigLaws", fn := fun _ => fun
  | [d1, d2, d3] => { results := [.lit (.bool true)], args := [d1, d2, d3] }
  | _ => none }
def bigLawsRow : OpenClaim := { program := "ytgfleflfahabeaa", sum := "3f544de220b4802de000108188f0b6774ef24b92214ab40fe91e4f35bf7a8325", func := "typecase/typecasekeep.BigLaws", spec := "bigLaws", apart := false }
def BigLawsSaid : Prop := bigLawsRow.holds Try.pinned (OpenSpec.ofChange bigLawsSpec)

/-- ITS FALSE NEIGHBOUR: 'it returns false'. Refute it at one input. -/
def bigLawsWrong : ChangeSpec := { name := "bigLaws", fn := fun _ => fun
  | [d1, d2, d3] => { results := [.lit (.bool false)], args := [d1, d2, d3] }
  | _ => none }
def BigLawsWrongFalsely : Prop := bigLawsRow.holds Try.pinned (OpenSpec.ofChange bigLawsWrong)

/-- 'typecasekeep.BigBack': WHATEVER THE INPUT: true; the input reads as it did. -/
def bigBackSpec : ChangeSpec := { name := "bigBack", fn := fun _ => fun
  | [d1, d2, d3] => { results := [.lit (.bool true)], args := [d1, d2, d3] }
  | _ => none }
def bigBackRow : OpenClaim := { program := "ytgfleflfahabeaa", sum := "3f544de220b4802de000108188f0b6774ef24b92214ab40fe91e4f35bf7a8325", func := "typecase/typecasekeep.BigBack", spec := "bigBack", apart := false }
def BigBackSaid : Prop := bigBackRow.holds Try.pinned (OpenSpec.ofChange bigBackSpec)

/-- ITS FALSE NEIGHBOUR: 'it returns false'. Refute it at one input. -/
def bigBackWrong : ChangeSpec := { name := "bigBack", fn := fun _ => fun
  | [d1, d2, d3] => { results := [.lit (.bool false)], args := [d1, d2, d3] }
  | _ => none }
def BigBackWrongFalsely : Prop := bigBackRow.holds Try.pinned (OpenSpec.ofChange bigBackWrong)

/-- 'typecasekeep.BigPowers': WHATEVER THE INPUT: true; the input reads as it did. -/
def bigPowersSpec : ChangeSpec := { name := "bigPowers", fn := fun _ => fun
  | [d1, d2, d3, d4] => { results := [.lit (.bool true)], args := [d1, d2, d3, d4] }
  | _ => none }
def bigPowersRow : OpenClaim := { program := "ytgfleflfahabeaa", sum := "3f544de220b4802de000108188f0b6774ef24b92214ab40fe91e4f35bf7a8325", func := "typecase/typecasekeep.BigPowers", spec := "bigPowers", apart := false }
def BigPowersSaid : Prop := bigPowersRow.holds Try.pinned (OpenSpec.ofChange bigPowersSpec)

/-- ITS FALSE NEIGHBOUR: 'it returns false'. Refute it at one input. -/
def bigPowersWrong : ChangeSpec := { name := "bigPowers", fn := fun _ => fun
  | [d1, d2, d3, d4] => { results := [.lit (.bool false)], args := [d1, d2, d3, d4] }
  | _ => none }
def BigPowersWrongFalsely : Prop := bigPowersRow.holds Try.pinned (OpenSpec.ofChange bigPowersWrong)

/-- 'typecasekeep.BigDigits': WHATEVER THE INPUT: true; the input reads as it did. -/
def bigDigitsSpec : ChangeSpec := { name := "bigDigits", fn := fun _ => fun
  | [d1, d2, d3] => { results := [.lit (.bool true)], args := [d1, d2, d3] }
  | _ => none }
def bigDigitsRow : OpenClaim := { program := "ytgfleflfahabeaa", sum := "3f544de220b4802de000108188f0b6774ef24b92214ab40fe91e4f35bf7a8325", func := "typecase/typecasekeep.BigDigits", spec := "bigDigits", apart := false }
def BigDigitsSaid : Prop := bigDigitsRow.holds Try.pinned (OpenSpec.ofChange bigDigitsSpec)

/-- ITS FALSE NEIGHBOUR: 'it returns false'. Refute it at one input. -/
def bigDigitsWrong : ChangeSpec := { name := "bigDigits", fn := fun _ => fun
  | [d1, d2, d3] => { results := [.lit (.bool false)], args := [d1, d2, d3] }
  | _ => none }
def BigDigitsWrongFalsely : Prop := bigDigitsRow.holds Try.pinned (OpenSpec.ofChange bigDigitsWrong)

/- THE SECOND FORM. 'bulk': how many values and letters a reading holds, each counted each time it is reached (what is shared counts as often as it is met; a slice's spare places count too). A statement '..UptoSaid' is the law's where the arguments, and the package variables that the reading takes, are together of bulk at most 1048576: NARROWER than '..Said'. Prove '..Said' where nothing that the law and all that it calls make is longer than what came in: it says more and counts as full. Else prove '..UptoSaid'. A law counts once. -/
mutual
def uptoBulk {H : Type} : DataW H → Nat
  | .lit (.string bytes) => bytes.length + 1
  | .lit _ => 1
  | .nil => 1
  | .ptr d => uptoBulk d + 1
  | .slice elems spare => uptoBulkAll elems + uptoBulkAll spare + 1
  | .agg parts => uptoBulkAll parts + 1
  | .iface _ d => uptoBulk d + 1
  | .map entries => uptoBulkEntries entries + 1
  | .held _ => 1
def uptoBulkAll {H : Type} : List (DataW H) → Nat
  | [] => 0
  | d :: r => uptoBulk d + uptoBulkAll r
def uptoBulkEntries {H : Type} : List (Lit × DataW H) → Nat
  | [] => 0
  | x :: r => uptoBulkEntry x + uptoBulkEntries r
def uptoBulkEntry {H : Type} : Lit × DataW H → Nat
  | (.string bytes, d) => bytes.length + uptoBulk d + 1
  | (_, d) => uptoBulk d + 1
 end
def uptoSmall : (H : Type) → List (DataW H) → Bool := fun _ ds => decide (uptoBulkAll ds ≤ 1048576)
def OpenSpec.upto (s : _root_.Go.ChangeSpec) : _root_.Go.OpenSpec := { _root_.Go.OpenSpec.ofChange s with cond := some uptoSmall }

/-- 'typecaselaw.BigTells', WHERE WHAT IT READS IS OF BULK AT MOST 1048576: true; the input reads as it did. -/
def bigTellsUptoRow : OpenClaim := { program := "ytgfleflfahabeaa", sum := "3f544de220b4802de000108188f0b6774ef24b92214ab40fe91e4f35bf7a8325", func := "typecase/typecaselaw.BigTells", spec := "bigTells", apart := false, narrowed := true }
def BigTellsUptoSaid : Prop := bigTellsUptoRow.holds Try.pinned (OpenSpec.upto bigTellsSpec)

/-- 'typecaselaw.BigShifts', WHERE WHAT IT READS IS OF BULK AT MOST 1048576: true; the input reads as it did. -/
def bigShiftsUptoRow : OpenClaim := { program := "ytgfleflfahabeaa", sum := "3f544de220b4802de000108188f0b6774ef24b92214ab40fe91e4f35bf7a8325", func := "typecase/typecaselaw.BigShifts", spec := "bigShifts", apart := false, narrowed := true }
def BigShiftsUptoSaid : Prop := bigShiftsUptoRow.holds Try.pinned (OpenSpec.upto bigShiftsSpec)

/-- 'typecasekeep.BigLaws', WHERE WHAT IT READS IS OF BULK AT MOST 1048576: true; the input reads as it did. -/
def bigLawsUptoRow : OpenClaim := { program := "ytgfleflfahabeaa", sum := "3f544de220b4802de000108188f0b6774ef24b92214ab40fe91e4f35bf7a8325", func := "typecase/typecasekeep.BigLaws", spec := "bigLaws", apart := false, narrowed := true }
def BigLawsUptoSaid : Prop := bigLawsUptoRow.holds Try.pinned (OpenSpec.upto bigLawsSpec)

/-- 'typecasekeep.BigBack', WHERE WHAT IT READS IS OF BULK AT MOST 1048576: true; the input reads as it did. -/
def bigBackUptoRow : OpenClaim := { program := "ytgfleflfahabeaa", sum := "3f544de220b4802de000108188f0b6774ef24b92214ab40fe91e4f35bf7a8325", func := "typecase/typecasekeep.BigBack", spec := "bigBack", apart := false, narrowed := true }
def BigBackUptoSaid : Prop := bigBackUptoRow.holds Try.pinned (OpenSpec.upto bigBackSpec)

/-- 'typecasekeep.BigPowers', WHERE WHAT IT READS IS OF BULK AT MOST 1048576: true; the input reads as it did. -/
def bigPowersUptoRow : OpenClaim := { program := "ytgfleflfahabeaa", sum := "3f544de220b4802de000108188f0b6774ef24b92214ab40fe91e4f35bf7a8325", func := "typecase/typecasekeep.BigPowers", spec := "bigPowers", apart := false, narrowed := true }
def BigPowersUptoSaid : Prop := bigPowersUptoRow.holds Try.pinned (OpenSpec.upto bigPowersSpec)

/-- 'typecasekeep.BigDigits', WHERE WHAT IT READS IS OF BULK AT MOST 1048576: true; the input reads as it did. -/
def bigDigitsUptoRow : OpenClaim := { program := "ytgfleflfahabeaa", sum := "3f544de220b4802de000108188f0b6774ef24b92214ab40fe91e4f35bf7a8325", func := "typecase/typecasekeep.BigDigits", spec := "bigDigits", apart := false, narrowed := true }
def BigDigitsUptoSaid : Prop := bigDigitsUptoRow.holds Try.pinned (OpenSpec.upto bigDigitsSpec)

end Rows
end Go.Proofs.Ytgfleflfahabeaa
