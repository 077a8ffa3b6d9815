/-
  DERIVED. GIVEN WITH THE SEED: THE CARDS: each row of YtobbbhmkcmbekaaDoorRows.lean that lists a variable, with what it lists TIED to the program's text (the seventh form; the later family's looks); each row that meets fmt, with fmt's text TOLD by the authors' own Lean function (tested against real Go, not proved from fmt's source: count such statements apart). THE CARD IS WHAT COUNTS. Prove the row's statement (the work); the ties are given (YtobbbhmkcmbekaaDoorTie.lean); close each card by the builder's one call (the guide's Derived/Test/ToyasCard.lean, 'card_holds'). Laid BY PROGRAM, IN A SANDBOX (cutbox-door.mjs). By AI agents, Wed Nov 11 2026. No macro, syntax, notation, axiom, sorry.
-/
import Derived.Test.YtobbbhmkcmbekaaDoorRows
import GoSem.ClaimSeven
namespace Go.Proofs.YtobbbhmkcmbekaaDoor
namespace Rows

/-- THE TIED CARD OF 'typecaselaw.FloatTells'. -/
def floatTellsCard : Claim7 := { stood := { row := floatTellsRow, standIns := [], harness := (true, "2a5dc0e48553643a9565dd4e5998ea8175b18e71823f94420c01bac1dd124c9d"), looks := false }, kinds := [], alts := [], laidByText := true, laidKinds := [.data, .data, .data], laidTests := true, laidLooks := .later }
def FloatTellsCardSaid : Prop := Claim7.holds Tryd.pinned (.plain (OpenSpec.ofChange floatTellsSpec)) floatTellsCard

/-- THE TIED CARD OF 'typecaselaw.FloatShorts'. -/
def floatShortsCard : Claim7 := { stood := { row := floatShortsRow, standIns := [], harness := (true, "2a5dc0e48553643a9565dd4e5998ea8175b18e71823f94420c01bac1dd124c9d"), looks := false }, kinds := [], alts := [], laidByText := true, laidKinds := [.data, .data, .data], laidTests := true, laidLooks := .later }
def FloatShortsCardSaid : Prop := Claim7.holds Tryd.pinned (.plain (OpenSpec.ofChange floatShortsSpec)) floatShortsCard

/-- THE TIED CARD OF 'typecaselaw.FloatReads'. -/
def floatReadsCard : Claim7 := { stood := { row := floatReadsRow, standIns := [], harness := (true, "2a5dc0e48553643a9565dd4e5998ea8175b18e71823f94420c01bac1dd124c9d"), looks := false }, kinds := [], alts := [], laidByText := true, laidKinds := [.data, .pinned], laidTests := true, laidLooks := .later }
def FloatReadsCardSaid : Prop := Claim7.holds Tryd.pinned (.plain (OpenSpec.ofChange floatReadsSpec)) floatReadsCard

/-- THE TIED CARD OF 'typecasekeep.FloatBack'. -/
def floatBackCard : Claim7 := { stood := { row := floatBackRow, standIns := [], harness := (true, "2a5dc0e48553643a9565dd4e5998ea8175b18e71823f94420c01bac1dd124c9d"), looks := false }, kinds := [], alts := [], laidByText := true, laidKinds := [.data, .data, .data], laidTests := true, laidLooks := .later }
def FloatBackCardSaid : Prop := Claim7.holds Tryd.pinned (.plain (OpenSpec.ofChange floatBackSpec)) floatBackCard

/-- THE TIED CARD OF 'typecasekeep.FloatShort'. -/
def floatShortCard : Claim7 := { stood := { row := floatShortRow, standIns := [], harness := (true, "2a5dc0e48553643a9565dd4e5998ea8175b18e71823f94420c01bac1dd124c9d"), looks := false }, kinds := [], alts := [], laidByText := true, laidKinds := [.data, .data, .data], laidTests := true, laidLooks := .later }
def FloatShortCardSaid : Prop := Claim7.holds Tryd.pinned (.plain (OpenSpec.ofChange floatShortSpec)) floatShortCard

/-- THE SECOND FORM's CARD OF 'typecaselaw.FloatTells'. -/
def floatTellsUptoCard : Claim7 := { stood := { row := floatTellsUptoRow, standIns := [], harness := (true, "2a5dc0e48553643a9565dd4e5998ea8175b18e71823f94420c01bac1dd124c9d"), looks := false }, kinds := [], alts := [], laidByText := true, laidKinds := [.data, .data, .data], laidTests := true, laidLooks := .later }
def FloatTellsUptoCardSaid : Prop := Claim7.holds Tryd.pinned (.plain (OpenSpec.upto floatTellsSpec)) floatTellsUptoCard

/-- THE SECOND FORM's CARD OF 'typecaselaw.FloatShorts'. -/
def floatShortsUptoCard : Claim7 := { stood := { row := floatShortsUptoRow, standIns := [], harness := (true, "2a5dc0e48553643a9565dd4e5998ea8175b18e71823f94420c01bac1dd124c9d"), looks := false }, kinds := [], alts := [], laidByText := true, laidKinds := [.data, .data, .data], laidTests := true, laidLooks := .later }
def FloatShortsUptoCardSaid : Prop := Claim7.holds Tryd.pinned (.plain (OpenSpec.upto floatShortsSpec)) floatShortsUptoCard

/-- THE SECOND FORM's CARD OF 'typecaselaw.FloatReads'. -/
def floatReadsUptoCard : Claim7 := { stood := { row := floatReadsUptoRow, standIns := [], harness := (true, "2a5dc0e48553643a9565dd4e5998ea8175b18e71823f94420c01bac1dd124c9d"), looks := false }, kinds := [], alts := [], laidByText := true, laidKinds := [.data, .pinned], laidTests := true, laidLooks := .later }
def FloatReadsUptoCardSaid : Prop := Claim7.holds Tryd.pinned (.plain (OpenSpec.upto floatReadsSpec)) floatReadsUptoCard

/-- THE SECOND FORM's CARD OF 'typecasekeep.FloatBack'. -/
def floatBackUptoCard : Claim7 := { stood := { row := floatBackUptoRow, standIns := [], harness := (true, "2a5dc0e48553643a9565dd4e5998ea8175b18e71823f94420c01bac1dd124c9d"), looks := false }, kinds := [], alts := [], laidByText := true, laidKinds := [.data, .data, .data], laidTests := true, laidLooks := .later }
def FloatBackUptoCardSaid : Prop := Claim7.holds Tryd.pinned (.plain (OpenSpec.upto floatBackSpec)) floatBackUptoCard

/-- THE SECOND FORM's CARD OF 'typecasekeep.FloatShort'. -/
def floatShortUptoCard : Claim7 := { stood := { row := floatShortUptoRow, standIns := [], harness := (true, "2a5dc0e48553643a9565dd4e5998ea8175b18e71823f94420c01bac1dd124c9d"), looks := false }, kinds := [], alts := [], laidByText := true, laidKinds := [.data, .data, .data], laidTests := true, laidLooks := .later }
def FloatShortUptoCardSaid : Prop := Claim7.holds Tryd.pinned (.plain (OpenSpec.upto floatShortSpec)) floatShortUptoCard
end Rows
end Go.Proofs.YtobbbhmkcmbekaaDoor
