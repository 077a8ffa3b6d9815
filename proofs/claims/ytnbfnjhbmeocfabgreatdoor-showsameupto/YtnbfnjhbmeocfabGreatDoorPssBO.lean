/- Of our texts, what this claim reaches. -/
import Derived.Test.YtnbfnjhbmeocfabGreatDoorPssBM
import Derived.Test.YtnbfnjhbmeocfabGreatDoorPssAA
import Derived.Test.YtnbfnjhbmeocfabGreatDoorPssBN
set_option linter.unusedVariables false
namespace Go.Proofs.YtnbfnjhbmeocfabGreatDoor.valus
open trees (Sym solF symOf)
open toks (Tk tokK tokK_size shutN closeN runL isB isW isM noL)
def lexF : Nat → List UInt8 → List Tok2
 | 0, _ => []
 | f + 1, l => if l = [] then [] else ((tokK l).1, l.take (tokK l).2) :: lexF f (l.drop (tokK l).2)
def lexL (l : List UInt8) : List Tok2 := lexF l.length l
def hard (t : Tok2) : Bool := decide (3 < t.1)
def solS (l : List UInt8) : List Tok2 := (lexL l).filter hard
theorem lexF_same : ∀ (f g : Nat) (l : List UInt8), l.length ≤ f → l.length ≤ g → lexF f l = lexF g l
 | 0, 0, _, _, _ => rfl
 | 0, g + 1, l, h, _ => by
  obtain rfl : l = [] := List.eq_nil_of_length_eq_zero (by omega)
  rw [lexF, lexF, if_pos rfl]
 | f + 1, 0, l, _, h => by
  obtain rfl : l = [] := List.eq_nil_of_length_eq_zero (by omega)
  rw [lexF, lexF, if_pos rfl]
 | f + 1, g + 1, l, h1, h2 => by
  rw [lexF, lexF]
  by_cases h : l = []
  ·rw [if_pos h, if_pos h]
  ·rw [if_neg h, if_neg h]
   have := (tokK_size h).1
   have h3 : (l.drop (tokK l).2).length = l.length - (tokK l).2 := List.length_drop
   rw [lexF_same f g _ (by omega) (by omega)]
theorem lex_cons {l : List UInt8} (h : l ≠ []) : lexL l = ((tokK l).1, l.take (tokK l).2) :: lexL (l.drop (tokK l).2) := by
 have hl := List.length_pos_iff.2 h
 obtain ⟨n, hn⟩ : ∃ n, l.length = n + 1 := ⟨l.length - 1, by omega⟩
 unfold lexL
 rw [hn, lexF, if_neg h]
 have := (tokK_size h).1
 have h3 : (l.drop (tokK l).2).length = l.length - (tokK l).2 := List.length_drop
 rw [lexF_same n _ _ (by omega) (Nat.le_refl _)]
end Go.Proofs.YtnbfnjhbmeocfabGreatDoor.valus
namespace Go.Proofs.YtnbfnjhbmeocfabGreatDoor.valus
open toks (tokK tokK_size shutN closeN runL isB isW isM noL)
theorem run_all (p : UInt8 → Bool) : ∀ (l x : List UInt8), (∀ c ∈ l, p c = true) → runL p (l ++ x) = l.length + runL p x
 | [], x, _ => by simp
 | c :: l, x, h => by
  rw [List.cons_append, runL, if_pos (h c (by simp)), run_all p l x (fun d hd => h d (by simp [hd])), List.length_cons]
  omega
theorem run_stop (p : UInt8 → Bool) (c : UInt8) (x : List UInt8) (h : p c = false) : runL p (c :: x) = 0 := by rw [runL, if_neg (by rw [h]; decide)]
theorem sol_cons {l : List UInt8} (h : l ≠ []) : solS l = (if 3 < (tokK l).1 then [((tokK l).1, l.take (tokK l).2)] else []) ++ solS (l.drop (tokK l).2) := by
 unfold solS
 rw [lex_cons h]
 by_cases hk : 3 < (tokK l).1
 ·rw [if_pos hk, List.filter_cons_of_pos (by exact decide_eq_true hk)]
  rfl
 ·rw [if_neg hk, List.filter_cons_of_neg (by show ¬ decide (3 < (tokK l).1) = true; rw [decide_eq_true_iff]; exact hk)]
  rfl
theorem blank_kind {c : UInt8} {x : List UInt8} (h : isB c = true) : tokK (c :: x) = (1, runL isB (c :: x)) := by
 unfold tokK
 simp only
 rw [if_pos h]
theorem sol_blanks (x : List UInt8) : solS (x.drop (runL isB x)) = solS x := by
 cases x with
 | nil => rfl
 | cons c x =>
  by_cases h : isB c = true
  ·have e := blank_kind (x := x) h
   rw [sol_cons (l := c :: x) (by simp), e]
   simp
  ·rw [run_stop isB c x (by simpa using h)]
   rfl
end Go.Proofs.YtnbfnjhbmeocfabGreatDoor.valus
