/- Of our texts, what this claim reaches. -/
import Derived.Test.YtadaehaemmelfaaDoorPaaAQ
import Derived.Test.YtadaehaemmelfaaDoorPaaAJ
import Derived.Lib.IndexAny
import Derived.Lib.IndexMore
set_option linter.unusedVariables false
namespace Go.Proofs.YtadaehaemmelfaaDoor.paths
open utfs (bad enc runes sc)
open escs (keyT bareL quoteL)
open bigs (tellB digB hexc)
abbrev St : Type := List UInt8 × Int
def chkS (x : St) : Int := if x.2 < -1 ∨ (-1 < x.2 ∧ x.1 ≠ []) then 1 else if 100 < x.1.length then 2 else if 0 ≤ bad x.1 then 3 else 0
def chkL : List St → Int
 | [] => 0
 | x :: l => if chkS x = 0 then chkL l else chkS x
def chkP (p : List St) : Int := if 20 < p.length then 5 else chkL p
def stT (x : St) : List UInt8 := if x.2 = -1 then 46 :: keyT x.1 else 91 :: (tellB 10 x.2 ++ [93])
def tailT : List St → List UInt8
 | [] => []
 | x :: l => stT x ++ tailT l
def pathT (p : List St) : List UInt8 := 36 :: tailT p
theorem tailT_app : ∀ (p q : List St), tailT (p ++ q) = tailT p ++ tailT q
 | [], q => rfl
 | x :: p, q => by show stT x ++ tailT (p ++ q) = _; rw [tailT_app p q, ← List.append_assoc]; rfl
theorem chkS_parts {x : St} (h : chkS x = 0) : -1 ≤ x.2 ∧ (x.2 = -1 ∨ (0 ≤ x.2 ∧ x.1 = [])) ∧ x.1.length ≤ 100 ∧ bad x.1 < 0 := by
 unfold chkS at h
 split at h
 ·omega
 ·rename_i h1
  split at h
  ·omega
  ·split at h
   ·omega
   ·refine ⟨by omega, ?_, by omega, by omega⟩
    by_cases e : x.2 = -1
    ·exact .inl e
    ·exact .inr ⟨by omega, Classical.byContradiction fun hn => h1 (.inr ⟨by omega, hn⟩)⟩
theorem chkL_mem : ∀ {p : List St}, chkL p = 0 → ∀ x ∈ p, chkS x = 0
 | [], _, x, hx => absurd hx (List.not_mem_nil)
 | y :: l, h, x, hx => by
  unfold chkL at h
  split at h
  ·rename_i h1
   rcases List.mem_cons.1 hx with rfl | hx
   ·exact h1
   ·exact chkL_mem h x hx
  ·rename_i h1
   exact absurd h h1
theorem chkP_parts {p : List St} (h : chkP p = 0) : p.length ≤ 20 ∧ ∀ x ∈ p, chkS x = 0 := by
 unfold chkP at h
 split at h
 ·omega
 ·exact ⟨by omega, chkL_mem h⟩
end Go.Proofs.YtadaehaemmelfaaDoor.paths
