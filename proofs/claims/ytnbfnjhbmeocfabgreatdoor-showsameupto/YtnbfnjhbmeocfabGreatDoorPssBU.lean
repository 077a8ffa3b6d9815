/- Of our texts, what this claim reaches. -/
import Derived.Test.YtnbfnjhbmeocfabGreatDoorPssBT
import Derived.Test.YtnbfnjhbmeocfabGreatDoorPssBQ
set_option linter.unusedVariables false
namespace Go.Proofs.YtnbfnjhbmeocfabGreatDoor.valus
open toks (isW)
open bigs (tellB TextIs)
structure Fit (t : V) : Prop where
 i : IsV 20 t
 g : GoodV 20 t
 z : faultV oneV t = 0
theorem fit_of {ok : Nat → Prop} {w : World} {f : Nat} {vs : List Value} {t : V} (h : LiesV ok f w vs t) (h0 : faultV oneV t = 0) : Fit t ∧ LiesV ok 20 w vs t := by
 have hl := LiesV.shallow f 20 h (good_sizes h.isV h0).1
 exact ⟨⟨hl.isV, good_lies hl h0, h0⟩, hl⟩
theorem doc_gr {F : Nat → List UInt8} (hF : ∀ b, b < 18446744073709551616 → TextIs b (F b)) (many : Bool) {t : V} (h : Fit t) : Gr 20 (solS (docT F many 20 t)) t := by
 obtain ⟨h1, h2⟩ := told_gr hF many 20 0 t h.i h.g h.z
 unfold docT
 cases many with
 | false => rw [if_neg (by decide), List.append_nil]; exact h1
 | true =>
  rw [if_pos rfl, h2 [10] (noW_cons (by decide)), sol_line]
  show Gr 20 (_ ++ []) t
  rw [List.append_nil]
  exact h1
theorem doc_inj {F : Nat → List UInt8} (hF : ∀ b, b < 18446744073709551616 → TextIs b (F b)) (many : Bool) {t u : V} (h : Fit t) (k : Fit u) (e : docT F many 20 t = docT F many 20 u) : t = u := by
 have a := doc_gr hF many h
 have b := doc_gr hF many k
 rw [e] at a
 exact gr_unique a b
theorem shown_good (F : Nat → List UInt8) (many : Bool) {t : V} (h : faultV oneV t = 0) : shownT F many t = docT F many 20 t := by unfold shownT; rw [if_pos h]
def zeroV : V := mkV (0, 0, 0, []) [] []
theorem zeroV_one : oneV zeroV = 0 := by
 unfold oneV zeroV
 rw [opn_mk]
 have hk : KindOk 0 0 0 ([] : List UInt8) ([] : List V).length ([] : List V).length := by unfold KindOk; simp; decide
 simp only
 rw [if_neg (fun h => h hk), if_neg (by simp), if_neg (by decide)]
 rfl
theorem zeroV_good : faultV oneV zeroV = 0 := fault_zero.2 ⟨1999, by
 show (if oneV zeroV = 0 then recL (recV oneV 19) 1999 (parts zeroV) else .inl (oneV zeroV)) = .inr 1999
 rw [if_pos zeroV_one]
 rfl⟩
theorem zeroV_line (F : Nat → List UInt8) : shownT F false zeroV = [110, 117, 108, 108] := by
 rw [shown_good F false zeroV_good]
 rfl
end Go.Proofs.YtnbfnjhbmeocfabGreatDoor.valus
