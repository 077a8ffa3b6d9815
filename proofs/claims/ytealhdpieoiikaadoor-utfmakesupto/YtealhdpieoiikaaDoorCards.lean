/-
  DERIVED. GIVEN WITH THE SEED: THE CARDS: each row of YtealhdpieoiikaaDoorRows.lean that lists a variable, with what it lists TIED to the program's text (the seventh form; the later family's looks); each row that meets fmt, with fmt's text TOLD by the authors' own Lean function (tested against real Go, not proved from fmt's source: count such statements apart). THE CARD IS WHAT COUNTS. Prove the row's statement (the work); the ties are given (YtealhdpieoiikaaDoorTie.lean); close each card by the builder's one call (the guide's Derived/Test/ToyasCard.lean, 'card_holds'). Laid BY PROGRAM, IN A SANDBOX (cutbox-door.mjs). By AI agents, Wed Nov 11 2026. No macro, syntax, notation, axiom, sorry.
-/
import Derived.Test.YtealhdpieoiikaaDoorRows
import GoSem.ClaimSeven
namespace Go.Proofs.YtealhdpieoiikaaDoor
namespace Rows

/-- THE TIED CARD OF 'typecaselaw.UtfTells'. -/
def utfTellsCard : Claim7 := { stood := { row := utfTellsRow, standIns := [], harness := (true, "1b5c4208e3c207c4620bbeb4e1013a580bef2f7e66ec5dd79728d8ecf1f20076"), looks := false }, kinds := [], alts := [], laidByText := true, laidKinds := [.data, .pinned], laidTests := true, laidLooks := .later }
def UtfTellsCardSaid : Prop := Claim7.holds Tryd.pinned (.plain (OpenSpec.ofChange utfTellsSpec)) utfTellsCard

/-- THE TIED CARD OF 'typecaselaw.UtfMakes'. -/
def utfMakesCard : Claim7 := { stood := { row := utfMakesRow, standIns := [], harness := (true, "1b5c4208e3c207c4620bbeb4e1013a580bef2f7e66ec5dd79728d8ecf1f20076"), looks := false }, kinds := [], alts := [], laidByText := true, laidKinds := [.data, .pinned], laidTests := true, laidLooks := .later }
def UtfMakesCardSaid : Prop := Claim7.holds Tryd.pinned (.plain (OpenSpec.ofChange utfMakesSpec)) utfMakesCard

/-- THE TIED CARD OF 'typecasekeep.UtfBack'. -/
def utfBackCard : Claim7 := { stood := { row := utfBackRow, standIns := [], harness := (true, "1b5c4208e3c207c4620bbeb4e1013a580bef2f7e66ec5dd79728d8ecf1f20076"), looks := false }, kinds := [], alts := [], laidByText := true, laidKinds := [.data, .pinned], laidTests := true, laidLooks := .later }
def UtfBackCardSaid : Prop := Claim7.holds Tryd.pinned (.plain (OpenSpec.ofChange utfBackSpec)) utfBackCard

/-- THE TIED CARD OF 'typecasekeep.UtfSync'. -/
def utfSyncCard : Claim7 := { stood := { row := utfSyncRow, standIns := [], harness := (true, "1b5c4208e3c207c4620bbeb4e1013a580bef2f7e66ec5dd79728d8ecf1f20076"), looks := false }, kinds := [], alts := [], laidByText := true, laidKinds := [.data, .pinned], laidTests := true, laidLooks := .later }
def UtfSyncCardSaid : Prop := Claim7.holds Tryd.pinned (.plain (OpenSpec.ofChange utfSyncSpec)) utfSyncCard

/-- THE TIED CARD OF 'typecasekeep.UtfClean'. -/
def utfCleanCard : Claim7 := { stood := { row := utfCleanRow, standIns := [], harness := (true, "1b5c4208e3c207c4620bbeb4e1013a580bef2f7e66ec5dd79728d8ecf1f20076"), looks := false }, kinds := [], alts := [], laidByText := true, laidKinds := [.data, .pinned], laidTests := true, laidLooks := .later }
def UtfCleanCardSaid : Prop := Claim7.holds Tryd.pinned (.plain (OpenSpec.ofChange utfCleanSpec)) utfCleanCard

/-- THE TIED CARD OF 'typecasekeep.UtfCuts'. -/
def utfCutsCard : Claim7 := { stood := { row := utfCutsRow, standIns := [], harness := (true, "1b5c4208e3c207c4620bbeb4e1013a580bef2f7e66ec5dd79728d8ecf1f20076"), looks := false }, kinds := [], alts := [], laidByText := true, laidKinds := [.data, .pinned], laidTests := true, laidLooks := .later }
def UtfCutsCardSaid : Prop := Claim7.holds Tryd.pinned (.plain (OpenSpec.ofChange utfCutsSpec)) utfCutsCard

/-- THE SECOND FORM's CARD OF 'typecaselaw.UtfTells'. -/
def utfTellsUptoCard : Claim7 := { stood := { row := utfTellsUptoRow, standIns := [], harness := (true, "1b5c4208e3c207c4620bbeb4e1013a580bef2f7e66ec5dd79728d8ecf1f20076"), looks := false }, kinds := [], alts := [], laidByText := true, laidKinds := [.data, .pinned], laidTests := true, laidLooks := .later }
def UtfTellsUptoCardSaid : Prop := Claim7.holds Tryd.pinned (.plain (OpenSpec.upto utfTellsSpec)) utfTellsUptoCard

/-- THE SECOND FORM's CARD OF 'typecaselaw.UtfMakes'. -/
def utfMakesUptoCard : Claim7 := { stood := { row := utfMakesUptoRow, standIns := [], harness := (true, "1b5c4208e3c207c4620bbeb4e1013a580bef2f7e66ec5dd79728d8ecf1f20076"), looks := false }, kinds := [], alts := [], laidByText := true, laidKinds := [.data, .pinned], laidTests := true, laidLooks := .later }
def UtfMakesUptoCardSaid : Prop := Claim7.holds Tryd.pinned (.plain (OpenSpec.upto utfMakesSpec)) utfMakesUptoCard

/-- THE SECOND FORM's CARD OF 'typecasekeep.UtfBack'. -/
def utfBackUptoCard : Claim7 := { stood := { row := utfBackUptoRow, standIns := [], harness := (true, "1b5c4208e3c207c4620bbeb4e1013a580bef2f7e66ec5dd79728d8ecf1f20076"), looks := false }, kinds := [], alts := [], laidByText := true, laidKinds := [.data, .pinned], laidTests := true, laidLooks := .later }
def UtfBackUptoCardSaid : Prop := Claim7.holds Tryd.pinned (.plain (OpenSpec.upto utfBackSpec)) utfBackUptoCard

/-- THE SECOND FORM's CARD OF 'typecasekeep.UtfSync'. -/
def utfSyncUptoCard : Claim7 := { stood := { row := utfSyncUptoRow, standIns := [], harness := (true, "1b5c4208e3c207c4620bbeb4e1013a580bef2f7e66ec5dd79728d8ecf1f20076"), looks := false }, kinds := [], alts := [], laidByText := true, laidKinds := [.data, .pinned], laidTests := true, laidLooks := .later }
def UtfSyncUptoCardSaid : Prop := Claim7.holds Tryd.pinned (.plain (OpenSpec.upto utfSyncSpec)) utfSyncUptoCard

/-- THE SECOND FORM's CARD OF 'typecasekeep.UtfClean'. -/
def utfCleanUptoCard : Claim7 := { stood := { row := utfCleanUptoRow, standIns := [], harness := (true, "1b5c4208e3c207c4620bbeb4e1013a580bef2f7e66ec5dd79728d8ecf1f20076"), looks := false }, kinds := [], alts := [], laidByText := true, laidKinds := [.data, .pinned], laidTests := true, laidLooks := .later }
def UtfCleanUptoCardSaid : Prop := Claim7.holds Tryd.pinned (.plain (OpenSpec.upto utfCleanSpec)) utfCleanUptoCard

/-- THE SECOND FORM's CARD OF 'typecasekeep.UtfCuts'. -/
def utfCutsUptoCard : Claim7 := { stood := { row := utfCutsUptoRow, standIns := [], harness := (true, "1b5c4208e3c207c4620bbeb4e1013a580bef2f7e66ec5dd79728d8ecf1f20076"), looks := false }, kinds := [], alts := [], laidByText := true, laidKinds := [.data, .pinned], laidTests := true, laidLooks := .later }
def UtfCutsUptoCardSaid : Prop := Claim7.holds Tryd.pinned (.plain (OpenSpec.upto utfCutsSpec)) utfCutsUptoCard
end Rows
end Go.Proofs.YtealhdpieoiikaaDoor
