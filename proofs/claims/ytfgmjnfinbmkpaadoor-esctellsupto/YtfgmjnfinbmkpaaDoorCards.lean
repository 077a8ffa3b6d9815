/-
  DERIVED. GIVEN WITH THE SEED: THE CARDS: each row of YtfgmjnfinbmkpaaDoorRows.lean that lists a variable, with what it lists TIED to the program's text (the seventh form; the later family's looks); each row that meets fmt, with fmt's text TOLD by the authors' own Lean function (tested against real Go, not proved from fmt's source: count such statements apart). THE CARD IS WHAT COUNTS. Prove the row's statement (the work); the ties are given (YtfgmjnfinbmkpaaDoorTie.lean); close each card by the builder's one call (the guide's Derived/Test/ToyasCard.lean, 'card_holds'). Laid BY PROGRAM, IN A SANDBOX (cutbox-door.mjs). By AI agents, Wed Nov 11 2026. No macro, syntax, notation, axiom, sorry.
-/
import Derived.Test.YtfgmjnfinbmkpaaDoorRows
import GoSem.ClaimSeven
namespace Go.Proofs.YtfgmjnfinbmkpaaDoor
namespace Rows

/-- THE TIED CARD OF 'typecaselaw.EscTells'. -/
def escTellsCard : Claim7 := { stood := { row := escTellsRow, standIns := [], harness := (true, "ae9fdd59c20b34419d5acc6f0669d8cba8112ed68b098ba2e3f9b8a2cbbfa2d5"), looks := false }, kinds := [], alts := [], laidByText := true, laidKinds := [.data, .data, .data, .data, .pinned], laidTests := true, laidLooks := .later }
def EscTellsCardSaid : Prop := Claim7.holds Tryd.pinned (.plain (OpenSpec.ofChange escTellsSpec)) escTellsCard

/-- THE TIED CARD OF 'typecasekeep.EscBack'. -/
def escBackCard : Claim7 := { stood := { row := escBackRow, standIns := [], harness := (true, "ae9fdd59c20b34419d5acc6f0669d8cba8112ed68b098ba2e3f9b8a2cbbfa2d5"), looks := false }, kinds := [], alts := [], laidByText := true, laidKinds := [.data, .data, .data, .data, .pinned], laidTests := true, laidLooks := .later }
def EscBackCardSaid : Prop := Claim7.holds Tryd.pinned (.plain (OpenSpec.ofChange escBackSpec)) escBackCard

/-- THE TIED CARD OF 'typecasekeep.EscSame'. -/
def escSameCard : Claim7 := { stood := { row := escSameRow, standIns := [], harness := (true, "ae9fdd59c20b34419d5acc6f0669d8cba8112ed68b098ba2e3f9b8a2cbbfa2d5"), looks := false }, kinds := [], alts := [], laidByText := true, laidKinds := [.data, .data, .data, .data, .pinned], laidTests := true, laidLooks := .later }
def EscSameCardSaid : Prop := Claim7.holds Tryd.pinned (.plain (OpenSpec.ofChange escSameSpec)) escSameCard

/-- THE TIED CARD OF 'typecasekeep.EscKey'. -/
def escKeyCard : Claim7 := { stood := { row := escKeyRow, standIns := [], harness := (true, "ae9fdd59c20b34419d5acc6f0669d8cba8112ed68b098ba2e3f9b8a2cbbfa2d5"), looks := false }, kinds := [], alts := [], laidByText := true, laidKinds := [.data, .data, .data, .data, .pinned], laidTests := true, laidLooks := .later }
def EscKeyCardSaid : Prop := Claim7.holds Tryd.pinned (.plain (OpenSpec.ofChange escKeySpec)) escKeyCard

/-- THE SECOND FORM's CARD OF 'typecaselaw.EscTells'. -/
def escTellsUptoCard : Claim7 := { stood := { row := escTellsUptoRow, standIns := [], harness := (true, "ae9fdd59c20b34419d5acc6f0669d8cba8112ed68b098ba2e3f9b8a2cbbfa2d5"), looks := false }, kinds := [], alts := [], laidByText := true, laidKinds := [.data, .data, .data, .data, .pinned], laidTests := true, laidLooks := .later }
def EscTellsUptoCardSaid : Prop := Claim7.holds Tryd.pinned (.plain (OpenSpec.upto escTellsSpec)) escTellsUptoCard

/-- THE SECOND FORM's CARD OF 'typecasekeep.EscBack'. -/
def escBackUptoCard : Claim7 := { stood := { row := escBackUptoRow, standIns := [], harness := (true, "ae9fdd59c20b34419d5acc6f0669d8cba8112ed68b098ba2e3f9b8a2cbbfa2d5"), looks := false }, kinds := [], alts := [], laidByText := true, laidKinds := [.data, .data, .data, .data, .pinned], laidTests := true, laidLooks := .later }
def EscBackUptoCardSaid : Prop := Claim7.holds Tryd.pinned (.plain (OpenSpec.upto escBackSpec)) escBackUptoCard

/-- THE SECOND FORM's CARD OF 'typecasekeep.EscSame'. -/
def escSameUptoCard : Claim7 := { stood := { row := escSameUptoRow, standIns := [], harness := (true, "ae9fdd59c20b34419d5acc6f0669d8cba8112ed68b098ba2e3f9b8a2cbbfa2d5"), looks := false }, kinds := [], alts := [], laidByText := true, laidKinds := [.data, .data, .data, .data, .pinned], laidTests := true, laidLooks := .later }
def EscSameUptoCardSaid : Prop := Claim7.holds Tryd.pinned (.plain (OpenSpec.upto escSameSpec)) escSameUptoCard

/-- THE SECOND FORM's CARD OF 'typecasekeep.EscKey'. -/
def escKeyUptoCard : Claim7 := { stood := { row := escKeyUptoRow, standIns := [], harness := (true, "ae9fdd59c20b34419d5acc6f0669d8cba8112ed68b098ba2e3f9b8a2cbbfa2d5"), looks := false }, kinds := [], alts := [], laidByText := true, laidKinds := [.data, .data, .data, .data, .pinned], laidTests := true, laidLooks := .later }
def EscKeyUptoCardSaid : Prop := Claim7.holds Tryd.pinned (.plain (OpenSpec.upto escKeySpec)) escKeyUptoCard
end Rows
end Go.Proofs.YtfgmjnfinbmkpaaDoor
