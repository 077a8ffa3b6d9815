/- The walks of package splice: Invert. -/
import Derived.Test.YtleacpnmeoocbabSplApplyW
set_option linter.unusedVariables false
namespace Go.Proofs.Ytleacpnmeoocbab.spls
open Go.RowKit

theorem inv_app : ∀ (x y : List M) (s : List UInt8), inv (x ++ y) s = inv x s ++ inv y (s.drop (ov x))
  | [], y, s => rfl
  | none :: x, y, s => by show none :: inv (x ++ y) s.tail = _; rw [inv_app x y, List.drop_tail]; rfl
  | some none :: x, y, s => by show some (some (s.headD 0)) :: inv (x ++ y) s.tail = _; rw [inv_app x y, List.drop_tail]; rfl
  | some (some b) :: x, y, s => by show some none :: inv (x ++ y) s = _; rw [inv_app x y]; rfl
theorem inv_keeps : ∀ (n : Nat) (s : List UInt8), inv (keepsM n) s = keepsM n
  | 0, s => rfl
  | n + 1, s => by rw [keepsM_succ]; show none :: inv (keepsM n) s.tail = _; rw [inv_keeps n]
theorem inv_cut : ∀ (n : Nat) (s : List UInt8), n ≤ s.length → inv (cutsM n) s = putsM (s.take n)
  | 0, s, h => by simp [putsM]; rfl
  | n + 1, [], h => by simp at h
  | n + 1, a :: s, h => by rw [cutsM_succ]; show some (some a) :: inv (cutsM n) s = _; rw [inv_cut n s (by simpa using h)]; rfl
theorem inv_put (p s : List UInt8) : inv (putsM p) s = cutsM p.length := by
  have := inv_puts [] s p
  rw [List.append_nil] at this
  rw [this]
  show cutsM p.length ++ [] = _
  rw [List.append_nil]
/-- What Invert makes. -/
def invC (s : List UInt8) (L : List Pt) : List Pt := if chkO s L = 0 then nf (inv (exL L) s) else []
theorem inv_fits (s : List UInt8) (L : List Pt) (j : Nat) (h1 : ov (exL L) ≤ 20000) (h2 : mk (exL L) ≤ 20000) : Fits (wrun w0 (inv (exL (L.take j)) s)) 40000 := by
  have := pre_ov (L := L) j
  exact st_fits _ _ (by rw [ov_inv]; omega) (by rw [mk_inv]; omega)
theorem inv_take {s : List UInt8} {L : List Pt} {j : Nat} (h : j < L.length) : inv (exL (L.take (j + 1))) s = inv (exL (L.take j)) s ++ inv (ex L[j]) (s.drop (ov (exL (L.take j)))) := by
  rw [exL_take h, inv_app]
end Go.Proofs.Ytleacpnmeoocbab.spls
