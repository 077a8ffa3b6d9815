/- The document's Backwards, as plain mathematics: the atoms that it makes are those of the change that leads back. -/
import Derived.Test.YteajpkoghlbneaaSplDocP
set_option linter.unusedVariables false
namespace Go.Proofs.Yteajpkoghlbneaa.spls
/-- What Backwards puts out, from atom i of what was made on; next: the first byte of s that is not yet out. -/
def bkA (s : List UInt8) : List At → Nat → Nat → List At
  | [], i, next => (s.drop next).map ptA
  | a :: r, i, next => if a.1 < 0 then bkA s r (i + 1) next else ((s.take a.1.toNat).drop next).map ptA ++ ((i : Int), 0) :: bkA s r (i + 1) (a.1.toNat + 1)
theorem bkA_inv (s : List UInt8) : ∀ (x : List M) (k i next : Nat), next ≤ k → k + ov x = s.length →
    bkA s (act ptA x (whole k (ov x))) i next = ((s.take k).drop next).map ptA ++ act ptA (inv x (s.drop k)) (whole i (mk x))
  | [], k, i, next, h, hk => by
    have e : k = s.length := hk
    subst e
    show (s.drop next).map ptA = _ ++ []
    rw [List.append_nil, List.take_length]
  | none :: x, k, i, next, h, hk => by
    have hk' : k + (ov x + 1) = s.length := hk
    have hlt : k < s.length := by omega
    have ih := bkA_inv s x (k + 1) (i + 1) (k + 1) (Nat.le_refl _) (by omega)
    rw [List.drop_take, Nat.sub_self, List.take_zero, List.map_nil, List.nil_append] at ih
    rw [List.drop_eq_getElem_cons hlt]
    show (if (k : Int) < 0 then _ else _) = _ ++ (((i : Int), (0 : UInt8)) :: act ptA (inv x (s.drop (k + 1))) (whole (i + 1) (mk x)))
    rw [if_neg (show ¬ (k : Int) < 0 by omega), ← ih]
    rfl
  | some none :: x, k, i, next, h, hk => by
    have hk' : k + (ov x + 1) = s.length := hk
    have hlt : k < s.length := by omega
    have ih := bkA_inv s x (k + 1) i next (by omega) (by omega)
    rw [List.take_succ_eq_append_getElem hlt, List.drop_append_of_le_length (by rw [List.length_take]; omega), List.map_append, List.append_assoc] at ih
    rw [List.drop_eq_getElem_cons hlt]
    exact ih
  | some (some b) :: x, k, i, next, h, hk => by
    have ih := bkA_inv s x k (i + 1) next h hk
    show (if (-1 : Int) < 0 then bkA s (act ptA x (whole k (ov x))) (i + 1) next else _) = _ ++ act ptA (inv x (s.drop k)) (whole (i + 1) (mk x))
    rw [if_pos (by decide), ih]
theorem back_all (s : List UInt8) (x : List M) (h : ov x = s.length) : bkA s (act ptA x (whole 0 (ov x))) 0 0 = act ptA (inv x s) (whole 0 (mk x)) := by
  have := bkA_inv s x 0 0 0 (Nat.le_refl _) (by omega)
  rw [this, List.take_zero, List.drop_nil, List.map_nil, List.nil_append, List.drop_zero]
end Go.Proofs.Yteajpkoghlbneaa.spls
