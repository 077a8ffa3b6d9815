/-
  DERIVED. GIVEN WITH THE SEED: THE CARDS: each row of YtadaehaemmelfaaDoorRows.lean that lists a variable, with what it lists TIED to the program's text (the seventh form; the later family's looks); each row that meets fmt, with fmt's text TOLD by the authors' own Lean function (tested against real Go, not proved from fmt's source: count such statements apart). THE CARD IS WHAT COUNTS. Prove the row's statement (the work); the ties are given (YtadaehaemmelfaaDoorTie.lean); close each card by the builder's one call (the guide's Derived/Test/ToyasCard.lean, 'card_holds'). Laid BY PROGRAM, IN A SANDBOX (cutbox-door.mjs). By AI agents, Wed Nov 11 2026. No macro, syntax, notation, axiom, sorry.
-/
import Derived.Test.YtadaehaemmelfaaDoorRows
import GoSem.ClaimSeven
namespace Go.Proofs.YtadaehaemmelfaaDoor
namespace Rows

/-- THE TIED CARD OF 'typecaselaw.PathLeads'. -/
def pathLeadsCard : Claim7 := { stood := { row := pathLeadsRow, standIns := [], harness := (true, "0906ff5a872a50ff74ddcea81a7d3cb42b7a12d9d077c5765b406d6f90ae8204"), looks := false }, kinds := [], alts := [], laidByText := true, laidKinds := [.data, .pinned], laidTests := true, laidLooks := .later }
def PathLeadsCardSaid : Prop := Claim7.holds Tryd.pinned (.plain (OpenSpec.ofChange pathLeadsSpec)) pathLeadsCard

/-- THE TIED CARD OF 'typecasekeep.PathAll'. -/
def pathAllCard : Claim7 := { stood := { row := pathAllRow, standIns := [], harness := (true, "0906ff5a872a50ff74ddcea81a7d3cb42b7a12d9d077c5765b406d6f90ae8204"), looks := false }, kinds := [], alts := [], laidByText := true, laidKinds := [.data, .data, .data, .data, .pinned], laidTests := true, laidLooks := .later }
def PathAllCardSaid : Prop := Claim7.holds Tryd.pinned (.plain (OpenSpec.ofChange pathAllSpec)) pathAllCard

/-- THE TIED CARD OF 'typecaselaw.UpdTells'. -/
def updTellsCard : Claim7 := { stood := { row := updTellsRow, standIns := [], harness := (true, "0906ff5a872a50ff74ddcea81a7d3cb42b7a12d9d077c5765b406d6f90ae8204"), looks := false }, kinds := [], alts := [], laidByText := true, laidKinds := [.data, .pinned], laidTests := true, laidLooks := .later }
def UpdTellsCardSaid : Prop := Claim7.holds Tryd.pinned (.plain (OpenSpec.ofChange updTellsSpec)) updTellsCard

/-- THE TIED CARD OF 'typecaselaw.UpdAll'. -/
def updAllCard : Claim7 := { stood := { row := updAllRow, standIns := [], harness := (true, "0906ff5a872a50ff74ddcea81a7d3cb42b7a12d9d077c5765b406d6f90ae8204"), looks := false }, kinds := [], alts := [], laidByText := true, laidKinds := [.data, .pinned], laidTests := true, laidLooks := .later }
def UpdAllCardSaid : Prop := Claim7.holds Tryd.pinned (.plain (OpenSpec.ofChange updAllSpec)) updAllCard

/-- THE SECOND FORM's CARD OF 'typecaselaw.PathLeads'. -/
def pathLeadsUptoCard : Claim7 := { stood := { row := pathLeadsUptoRow, standIns := [], harness := (true, "0906ff5a872a50ff74ddcea81a7d3cb42b7a12d9d077c5765b406d6f90ae8204"), looks := false }, kinds := [], alts := [], laidByText := true, laidKinds := [.data, .pinned], laidTests := true, laidLooks := .later }
def PathLeadsUptoCardSaid : Prop := Claim7.holds Tryd.pinned (.plain (OpenSpec.upto pathLeadsSpec)) pathLeadsUptoCard

/-- THE SECOND FORM's CARD OF 'typecasekeep.PathAll'. -/
def pathAllUptoCard : Claim7 := { stood := { row := pathAllUptoRow, standIns := [], harness := (true, "0906ff5a872a50ff74ddcea81a7d3cb42b7a12d9d077c5765b406d6f90ae8204"), looks := false }, kinds := [], alts := [], laidByText := true, laidKinds := [.data, .data, .data, .data, .pinned], laidTests := true, laidLooks := .later }
def PathAllUptoCardSaid : Prop := Claim7.holds Tryd.pinned (.plain (OpenSpec.upto pathAllSpec)) pathAllUptoCard

/-- THE SECOND FORM's CARD OF 'typecaselaw.UpdTells'. -/
def updTellsUptoCard : Claim7 := { stood := { row := updTellsUptoRow, standIns := [], harness := (true, "0906ff5a872a50ff74ddcea81a7d3cb42b7a12d9d077c5765b406d6f90ae8204"), looks := false }, kinds := [], alts := [], laidByText := true, laidKinds := [.data, .pinned], laidTests := true, laidLooks := .later }
def UpdTellsUptoCardSaid : Prop := Claim7.holds Tryd.pinned (.plain (OpenSpec.upto updTellsSpec)) updTellsUptoCard

/-- THE SECOND FORM's CARD OF 'typecaselaw.UpdAll'. -/
def updAllUptoCard : Claim7 := { stood := { row := updAllUptoRow, standIns := [], harness := (true, "0906ff5a872a50ff74ddcea81a7d3cb42b7a12d9d077c5765b406d6f90ae8204"), looks := false }, kinds := [], alts := [], laidByText := true, laidKinds := [.data, .pinned], laidTests := true, laidLooks := .later }
def UpdAllUptoCardSaid : Prop := Claim7.holds Tryd.pinned (.plain (OpenSpec.upto updAllSpec)) updAllUptoCard
end Rows
end Go.Proofs.YtadaehaemmelfaaDoor
