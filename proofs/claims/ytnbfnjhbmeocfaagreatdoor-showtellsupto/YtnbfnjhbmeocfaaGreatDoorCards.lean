/-
  DERIVED. GIVEN WITH THE SEED: THE CARDS: each row of YtnbfnjhbmeocfaaGreatDoorRows.lean that lists a variable, with what it lists TIED to the program's text (the seventh form; the later family's looks); each row that meets fmt, with fmt's text TOLD by the authors' own Lean function (tested against real Go, not proved from fmt's source: count such statements apart). THE CARD IS WHAT COUNTS. Prove the row's statement (the work); the ties are given (YtnbfnjhbmeocfaaGreatDoorTie.lean); close each card by the builder's one call (the guide's Derived/Test/ToyasCard.lean, 'card_holds'). Laid BY PROGRAM, IN A SANDBOX (cutbox-door.mjs). By AI agents, Wed Nov 11 2026. No macro, syntax, notation, axiom, sorry.
-/
import Derived.Test.YtnbfnjhbmeocfaaGreatDoorRows
import GoSem.ClaimSeven
namespace Go.Proofs.YtnbfnjhbmeocfaaGreatDoor
namespace Rows

/-- THE TIED CARD OF 'typecaselaw.MeanTells'. -/
def meanTellsCard : Claim7 := { stood := { row := meanTellsRow, standIns := [], harness := (true, "3a9b023277f2ff5b8122655431d9b5cf00829682bf5559722c3640461d3a1681"), looks := false }, kinds := [], alts := [], laidByText := true, laidKinds := [.data, .pinned], laidTests := true, laidLooks := .later }
def MeanTellsCardSaid : Prop := Claim7.holds Tryz.pinned (.plain (OpenSpec.ofChange meanTellsSpec)) meanTellsCard

/-- THE TIED CARD OF 'typecasekeep.MeanBlank'. -/
def meanBlankCard : Claim7 := { stood := { row := meanBlankRow, standIns := [], harness := (true, "3a9b023277f2ff5b8122655431d9b5cf00829682bf5559722c3640461d3a1681"), looks := false }, kinds := [], alts := [], laidByText := true, laidKinds := [.data, .pinned], laidTests := true, laidLooks := .later }
def MeanBlankCardSaid : Prop := Claim7.holds Tryz.pinned (.plain (OpenSpec.ofChange meanBlankSpec)) meanBlankCard

/-- THE TIED CARD OF 'typecasekeep.MeanList'. -/
def meanListCard : Claim7 := { stood := { row := meanListRow, standIns := [], harness := (true, "3a9b023277f2ff5b8122655431d9b5cf00829682bf5559722c3640461d3a1681"), looks := false }, kinds := [], alts := [], laidByText := true, laidKinds := [.data, .pinned], laidTests := true, laidLooks := .later }
def MeanListCardSaid : Prop := Claim7.holds Tryz.pinned (.plain (OpenSpec.ofChange meanListSpec)) meanListCard

/-- THE TIED CARD OF 'typecasekeep.MeanGood'. -/
def meanGoodCard : Claim7 := { stood := { row := meanGoodRow, standIns := [], harness := (true, "3a9b023277f2ff5b8122655431d9b5cf00829682bf5559722c3640461d3a1681"), looks := false }, kinds := [], alts := [], laidByText := true, laidKinds := [.data, .pinned], laidTests := true, laidLooks := .later }
def MeanGoodCardSaid : Prop := Claim7.holds Tryz.pinned (.plain (OpenSpec.ofChange meanGoodSpec)) meanGoodCard

/-- THE TIED CARD OF 'typecasekeep.MeanTwice'. -/
def meanTwiceCard : Claim7 := { stood := { row := meanTwiceRow, standIns := [], harness := (true, "3a9b023277f2ff5b8122655431d9b5cf00829682bf5559722c3640461d3a1681"), looks := false }, kinds := [], alts := [], laidByText := true, laidKinds := [.data, .data, .data, .data, .pinned], laidTests := true, laidLooks := .later }
def MeanTwiceCardSaid : Prop := Claim7.holds Tryz.pinned (.plain (OpenSpec.ofChange meanTwiceSpec)) meanTwiceCard

/-- THE TIED CARD OF 'typecaselaw.ShowTells'. -/
def showTellsCard : Claim7 := { stood := { row := showTellsRow, standIns := [], harness := (true, "3a9b023277f2ff5b8122655431d9b5cf00829682bf5559722c3640461d3a1681"), looks := false }, kinds := [], alts := [], laidByText := true, laidKinds := [.data, .data, .data, .data, .pinned], laidTests := true, laidLooks := .later }
def ShowTellsCardSaid : Prop := Claim7.holds Tryz.pinned (.plain (OpenSpec.ofChange showTellsSpec)) showTellsCard

/-- THE SECOND FORM's CARD OF 'typecaselaw.MeanTells'. -/
def meanTellsUptoCard : Claim7 := { stood := { row := meanTellsUptoRow, standIns := [], harness := (true, "3a9b023277f2ff5b8122655431d9b5cf00829682bf5559722c3640461d3a1681"), looks := false }, kinds := [], alts := [], laidByText := true, laidKinds := [.data, .pinned], laidTests := true, laidLooks := .later }
def MeanTellsUptoCardSaid : Prop := Claim7.holds Tryz.pinned (.plain (OpenSpec.upto meanTellsSpec)) meanTellsUptoCard

/-- THE SECOND FORM's CARD OF 'typecasekeep.MeanBlank'. -/
def meanBlankUptoCard : Claim7 := { stood := { row := meanBlankUptoRow, standIns := [], harness := (true, "3a9b023277f2ff5b8122655431d9b5cf00829682bf5559722c3640461d3a1681"), looks := false }, kinds := [], alts := [], laidByText := true, laidKinds := [.data, .pinned], laidTests := true, laidLooks := .later }
def MeanBlankUptoCardSaid : Prop := Claim7.holds Tryz.pinned (.plain (OpenSpec.upto meanBlankSpec)) meanBlankUptoCard

/-- THE SECOND FORM's CARD OF 'typecasekeep.MeanList'. -/
def meanListUptoCard : Claim7 := { stood := { row := meanListUptoRow, standIns := [], harness := (true, "3a9b023277f2ff5b8122655431d9b5cf00829682bf5559722c3640461d3a1681"), looks := false }, kinds := [], alts := [], laidByText := true, laidKinds := [.data, .pinned], laidTests := true, laidLooks := .later }
def MeanListUptoCardSaid : Prop := Claim7.holds Tryz.pinned (.plain (OpenSpec.upto meanListSpec)) meanListUptoCard

/-- THE SECOND FORM's CARD OF 'typecasekeep.MeanGood'. -/
def meanGoodUptoCard : Claim7 := { stood := { row := meanGoodUptoRow, standIns := [], harness := (true, "3a9b023277f2ff5b8122655431d9b5cf00829682bf5559722c3640461d3a1681"), looks := false }, kinds := [], alts := [], laidByText := true, laidKinds := [.data, .pinned], laidTests := true, laidLooks := .later }
def MeanGoodUptoCardSaid : Prop := Claim7.holds Tryz.pinned (.plain (OpenSpec.upto meanGoodSpec)) meanGoodUptoCard

/-- THE SECOND FORM's CARD OF 'typecasekeep.MeanTwice'. -/
def meanTwiceUptoCard : Claim7 := { stood := { row := meanTwiceUptoRow, standIns := [], harness := (true, "3a9b023277f2ff5b8122655431d9b5cf00829682bf5559722c3640461d3a1681"), looks := false }, kinds := [], alts := [], laidByText := true, laidKinds := [.data, .data, .data, .data, .pinned], laidTests := true, laidLooks := .later }
def MeanTwiceUptoCardSaid : Prop := Claim7.holds Tryz.pinned (.plain (OpenSpec.upto meanTwiceSpec)) meanTwiceUptoCard

/-- THE SECOND FORM's CARD OF 'typecaselaw.ShowTells'. -/
def showTellsUptoCard : Claim7 := { stood := { row := showTellsUptoRow, standIns := [], harness := (true, "3a9b023277f2ff5b8122655431d9b5cf00829682bf5559722c3640461d3a1681"), looks := false }, kinds := [], alts := [], laidByText := true, laidKinds := [.data, .data, .data, .data, .pinned], laidTests := true, laidLooks := .later }
def ShowTellsUptoCardSaid : Prop := Claim7.holds Tryz.pinned (.plain (OpenSpec.upto showTellsSpec)) showTellsUptoCard
end Rows
end Go.Proofs.YtnbfnjhbmeocfaaGreatDoor
