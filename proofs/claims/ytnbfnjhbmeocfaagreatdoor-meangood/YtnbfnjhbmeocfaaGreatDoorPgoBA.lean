/- Of our texts, what this claim reaches. -/
import Derived.Test.YtnbfnjhbmeocfaaGreatDoorPgoAV
import Derived.Test.YtnbfnjhbmeocfaaGreatDoorPgoAZ
set_option linter.unusedVariables false
namespace Go.Proofs.YtnbfnjhbmeocfaaGreatDoor.bigs
open Go.RowKit

def Blk (w : World) (b : Nat) (cs : Array Value) (t : Nat) : Prop := w.heap[b]? = some (.cells cs t)
theorem Blk.lt {w : World} {b : Nat} {cs : Array Value} {t : Nat} (h : Blk w b cs t) : b < w.heap.size := by
  unfold Blk at h
  exact (Array.getElem?_eq_some_iff.1 h).1
theorem Blk.below {w w' : World} {b : Nat} {cs : Array Value} {t : Nat} (h : Blk w b cs t) (hb : Below w.heap.size w w') : Blk w' b cs t := by
  have := hb.block b h.lt
  unfold Blk at *
  rw [this, h]
theorem blk_alloc (w : World) (cs : Array Value) (t : Nat) : Blk (w.alloc (.cells cs t)) w.heap.size cs t := by
  show (w.heap.push _)[w.heap.size]? = _
  simp
theorem Blk.cell {w : World} {b : Nat} {cs : Array Value} {t : Nat} (h : Blk w b cs t) (j : Nat) (v : Value) (hj : cs[j]? = some v) : w.cell? ⟨b, j, none⟩ = some v := by
  unfold Blk at h
  simp only [World.cell?, h]
  exact hj
theorem Blk.froz {w : World} {b : Nat} {cs : Array Value} {t : Nat} (h : Blk w b cs t) (j : Nat) : w.frozen? ⟨b, j, none⟩ = false := by
  unfold Blk at h
  simp [World.frozen?, h]
theorem Blk.set {w : World} {b : Nat} {cs : Array Value} {t : Nat} (h : Blk w b cs t) (j : Nat) (v : Value) : Blk (w.setCell ⟨b, j, none⟩ v) b (cs.setIfInBounds j v) t := by
  unfold Blk at *
  simp only [World.setCell, Array.getElem?_modify, h]
  simp
theorem Blk.set_other {w : World} {b : Nat} {cs : Array Value} {t : Nat} (h : Blk w b cs t) (p : Addr) (v : Value) (hp : b ≠ p.block) : Blk (w.setCell p v) b cs t := by
  unfold Blk at *
  rw [Below.heap_setCell _ _ _ _ hp, h]
theorem Blk.alloc {w : World} {b : Nat} {cs : Array Value} {t : Nat} (h : Blk w b cs t) (o : Obj) : Blk (w.alloc o) b cs t := by
  unfold Blk at *
  rw [Below.heap_alloc _ _ _ (Blk.lt h), h]
def NoWord (cs : Array Value) : Prop := ∀ (j : Nat) (q : Int), cs[j]? ≠ some (.int .u32 q)
theorem WSl.setBlk {w : World} {v : Value} {l : List Nat} {b : Nat} {cs : Array Value} {t : Nat} (h : WSl w v l) (hb : Blk w b cs t) (hn : NoWord cs) (j : Nat) (u : Value) : WSl (w.setCell ⟨b, j, none⟩ u) v l := by
  obtain ⟨a, cap, rfl, hc, hr⟩ := h
  refine ⟨a, cap, rfl, hc, fun h0 => ?_⟩
  obtain ⟨ba, oa, rfl, hba, hca⟩ := hr h0
  have ne : ba ≠ b := by
    intro e
    subst e
    have h1 := hca 0 (by cases l with | nil => exact absurd rfl h0 | cons x r => simp)
    unfold Blk at hb
    simp only [World.cell?, hb] at h1
    exact hn _ _ h1
  refine ⟨ba, oa, rfl, by simpa [World.setCell] using hba, fun k hk => ?_⟩
  rw [World.cell?_setCell_other w ⟨b, j, none⟩ ⟨ba, oa + k, none⟩ u (by intro e; exact ne (by injection e with e1; exact e1.symm))]
  exact hca k hk
theorem noWord_set {cs : Array Value} {j : Nat} {v : Value} (h : NoWord cs) (hv : ∀ q, v ≠ .int .u32 q) : NoWord (cs.setIfInBounds j v) := by
  intro i q
  rw [Array.getElem?_setIfInBounds]
  split
  · split
    · intro e; exact hv q (by injection e)
    · simp
  · exact h i q
theorem noWord_slice3 (x y z : Value) (hx : ∀ q, x ≠ .int .u32 q) (hy : ∀ q, y ≠ .int .u32 q) (hz : ∀ q, z ≠ .int .u32 q) : NoWord #[x, y, z] := by
  intro j q
  rcases j with _ | _ | _ | j <;> simp_all
theorem WSl.set3 {w : World} {v : Value} {l : List Nat} {b : Nat} {x y z : Value} {t : Nat} (h : WSl w v l) (hb : Blk w b #[x, y, z] t) (hn : NoWord #[x, y, z]) (u1 u2 u3 : Value) (h1 : ∀ q, u1 ≠ .int .u32 q) (h2 : ∀ q, u2 ≠ .int .u32 q) :
    WSl (((w.setCell ⟨b, 0, none⟩ u1).setCell ⟨b, 1, none⟩ u2).setCell ⟨b, 2, none⟩ u3) v l := by
  have n1 := noWord_set (j := 0) hn h1
  have n2 := noWord_set (j := 1) n1 h2
  exact ((h.setBlk hb hn 0 u1).setBlk (hb.set 0 u1) n1 1 u2).setBlk ((hb.set 0 u1).set 1 u2) n2 2 u3
theorem Blk.set3 {w : World} {b : Nat} {x y z : Value} {t : Nat} (h : Blk w b #[x, y, z] t) (u1 u2 u3 : Value) : Blk (((w.setCell ⟨b, 0, none⟩ u1).setCell ⟨b, 1, none⟩ u2).setCell ⟨b, 2, none⟩ u3) b #[u1, u2, u3] t := by
  have := ((h.set 0 u1).set 1 u2).set 2 u3
  simpa using this
theorem below_set3 {B : Nat} {a w : World} {b : Nat} (h : Below B a w) (hb : B ≤ b) (u1 u2 u3 : Value) : Below B a (((w.setCell ⟨b, 0, none⟩ u1).setCell ⟨b, 1, none⟩ u2).setCell ⟨b, 2, none⟩ u3) :=
  ((h.setCell (p := ⟨b, 0, none⟩) hb u1).setCell (p := ⟨b, 1, none⟩) hb u2).setCell (p := ⟨b, 2, none⟩) hb u3
theorem WSl.alloc {w : World} {v : Value} {l : List Nat} (h : WSl w v l) (o : Obj) : WSl (w.alloc o) v l := h.below ((Below.refl _ _).alloc (Nat.le_refl _) o)
end Go.Proofs.YtnbfnjhbmeocfaaGreatDoor.bigs
