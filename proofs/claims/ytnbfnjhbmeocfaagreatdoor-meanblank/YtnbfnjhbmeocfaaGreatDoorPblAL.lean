/- Of our texts, what this claim reaches. -/
import Derived.Test.YtnbfnjhbmeocfaaGreatDoorCards
import Derived.Test.YtnbfnjhbmeocfaaGreatDoorTie
import Derived.Test.YtnbfnjhbmeocfaaGreatDoorPblAG
import Derived.Test.YtnbfnjhbmeocfaaGreatDoorPblAK
import Derived.Lib.LaidU8T
import Derived.Lib.LaidTab
set_option linter.unusedVariables false
set_option linter.unusedVariables false
namespace Go.Proofs.YtnbfnjhbmeocfaaGreatDoor.frame
open Go.ChangeShapes Go.WideShapes Go.ChangeAt Go.RowKit
open valus
theorem u8Types : U8Types Tryz.prog Tryz.lays197_ren := { Tryz.lays197 with }
theorem u8Extra : U8Extra Tryz.prog Tryz.lays197_ren := ⟨by kernel_rfl, by kernel_rfl, by kernel_rfl, by kernel_rfl, by kernel_rfl, by kernel_rfl, by kernel_rfl⟩
theorem accept_eq : Rows.laid_unicode_utf8_acceptRanges = Lib.acceptData := by kernel_rfl
theorem tabsV {W : World} (h : laidMetH Tryz.prog Rows.meanTellsUptoRow.laid W) : Lib.Utf8Tabs 1 2 W := by
 rw [MakeChecks.laidMetH_plain _ _ _ (by kernel_rfl)] at h
 exact utf8Tabs_of_readsT u8Types u8Extra (Pinned.utf8First_eq ▸ Lib.laidMet.reads h (.tail _ (.head _))) (accept_eq ▸ Lib.laidMet.reads h (.head _))
end Go.Proofs.YtnbfnjhbmeocfaaGreatDoor.frame
