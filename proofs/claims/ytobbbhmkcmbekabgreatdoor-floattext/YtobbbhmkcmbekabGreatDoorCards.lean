/-
  DERIVED. GIVEN WITH THE SEED: THE CARDS: each row of YtobbbhmkcmbekabGreatDoorRows.lean that lists a variable, with what it lists TIED to the program's text (the seventh form; the later family's looks); each row that meets fmt, with fmt's text TOLD by the authors' own Lean function (tested against real Go, not proved from fmt's source: count such statements apart). THE CARD IS WHAT COUNTS. Prove the row's statement (the work); the ties are given (YtobbbhmkcmbekabGreatDoorTie.lean); close each card by the builder's one call (the guide's Derived/Test/ToyasCard.lean, 'card_holds'). Laid BY PROGRAM, IN A SANDBOX (cutbox-door.mjs). By AI agents, Wed Nov 11 2026. No macro, syntax, notation, axiom, sorry.
-/
import Derived.Test.YtobbbhmkcmbekabGreatDoorRows
import GoSem.ClaimSeven
namespace Go.Proofs.YtobbbhmkcmbekabGreatDoor
namespace Rows

/-- THE TIED CARD OF 'typecasekeep.FloatText'. -/
def floatTextCard : Claim7 := { stood := { row := floatTextRow, standIns := [], harness := (true, "33fd998847763daf8f590c60d9bfbc3872cef9efb8f321229b35a56536aa6192"), looks := false }, kinds := [], alts := [], laidByText := true, laidKinds := [.data, .data, .data, .data, .pinned], laidTests := true, laidLooks := .later }
def FloatTextCardSaid : Prop := Claim7.holds Tryz.pinned (.plain (OpenSpec.ofChange floatTextSpec)) floatTextCard

/-- THE TIED CARD OF 'typecasekeep.FloatSame'. -/
def floatSameCard : Claim7 := { stood := { row := floatSameRow, standIns := [], harness := (true, "33fd998847763daf8f590c60d9bfbc3872cef9efb8f321229b35a56536aa6192"), looks := false }, kinds := [], alts := [], laidByText := true, laidKinds := [.data, .data, .data, .data, .pinned], laidTests := true, laidLooks := .later }
def FloatSameCardSaid : Prop := Claim7.holds Tryz.pinned (.plain (OpenSpec.ofChange floatSameSpec)) floatSameCard

/-- THE SECOND FORM's CARD OF 'typecasekeep.FloatText'. -/
def floatTextUptoCard : Claim7 := { stood := { row := floatTextUptoRow, standIns := [], harness := (true, "33fd998847763daf8f590c60d9bfbc3872cef9efb8f321229b35a56536aa6192"), looks := false }, kinds := [], alts := [], laidByText := true, laidKinds := [.data, .data, .data, .data, .pinned], laidTests := true, laidLooks := .later }
def FloatTextUptoCardSaid : Prop := Claim7.holds Tryz.pinned (.plain (OpenSpec.upto floatTextSpec)) floatTextUptoCard

/-- THE SECOND FORM's CARD OF 'typecasekeep.FloatSame'. -/
def floatSameUptoCard : Claim7 := { stood := { row := floatSameUptoRow, standIns := [], harness := (true, "33fd998847763daf8f590c60d9bfbc3872cef9efb8f321229b35a56536aa6192"), looks := false }, kinds := [], alts := [], laidByText := true, laidKinds := [.data, .data, .data, .data, .pinned], laidTests := true, laidLooks := .later }
def FloatSameUptoCardSaid : Prop := Claim7.holds Tryz.pinned (.plain (OpenSpec.upto floatSameSpec)) floatSameUptoCard
end Rows
end Go.Proofs.YtobbbhmkcmbekabGreatDoor
