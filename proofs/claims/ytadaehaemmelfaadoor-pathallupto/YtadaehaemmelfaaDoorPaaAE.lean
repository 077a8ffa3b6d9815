/- Of our texts, what this claim reaches. -/
import Derived.Test.YtadaehaemmelfaaDoorProg
import Derived.Test.YtadaehaemmelfaaDoorPaaAC
import Derived.WalkKit
import Derived.WalkSmall
import Derived.OwnWalk
import Derived.BigCall
import Derived.Maps.AppendAt
import Derived.Deep.AppendLies
import Derived.Laws.OwnMore
import Derived.Below
import Derived.Deep.QuietTactic
import Derived.BigQuiet
import Derived.BigRegion
import Derived.Deep.CutRange
import Derived.Deep.RegionWith
import Derived.KernelRfl
set_option linter.unusedVariables false
namespace Go.Proofs.YtadaehaemmelfaaDoor.valus
open Go.RowKit
theorem hide {p : Prop} (h : p) : Hid p := h
theorem unhide {p : Prop} (h : Hid p) : p := h
theorem len_list (s : ByteArray) : s.data.toList.length = s.size := by rw [Array.length_toList]; rfl
theorem ext_list (s : ByteArray) (a b : Nat) : (s.extract a b).data.toList = (s.data.toList.take b).drop a := by
 rw [ByteArray.data_extract, Array.toList_extract, List.extract_eq_take_drop, List.drop_take]
theorem ext_drop (s : ByteArray) (k : Nat) : (s.extract k s.size).data.toList = s.data.toList.drop k := by
 rw [ext_list, ← len_list s, List.take_length]
def Blk (w : World) (b : Nat) (cs : Array Value) (t : Nat) : Prop := w.heap[b]? = some (.cells cs t)
theorem Blk.lt {w : World} {b : Nat} {cs : Array Value} {t : Nat} (h : Blk w b cs t) : b < w.heap.size := by
 unfold Blk at h
 exact (Array.getElem?_eq_some_iff.1 h).1
theorem Blk.below {w w' : World} {b : Nat} {cs : Array Value} {t : Nat} (h : Blk w b cs t) (hb : Below w.heap.size w w') : Blk w' b cs t := by
 have := hb.block b h.lt
 unfold Blk at *
 rw [this, h]
theorem blk_alloc (w : World) (cs : Array Value) (t : Nat) : Blk (w.alloc (.cells cs t)) w.heap.size cs t := by
 show (w.heap.push _)[w.heap.size]? = _
 simp
theorem Blk.cell {w : World} {b : Nat} {cs : Array Value} {t : Nat} (h : Blk w b cs t) (j : Nat) (v : Value) (hj : cs[j]? = some v) : w.cell? ⟨b, j, none⟩ = some v := by
 unfold Blk at h
 simp only [World.cell?, h]
 exact hj
theorem Blk.froz {w : World} {b : Nat} {cs : Array Value} {t : Nat} (h : Blk w b cs t) (j : Nat) : w.frozen? ⟨b, j, none⟩ = false := by
 unfold Blk at h
 simp [World.frozen?, h]
theorem Blk.set {w : World} {b : Nat} {cs : Array Value} {t : Nat} (h : Blk w b cs t) (j : Nat) (v : Value) : Blk (w.setCell ⟨b, j, none⟩ v) b (cs.setIfInBounds j v) t := by
 unfold Blk at *
 simp only [World.setCell, Array.getElem?_modify, h]
 simp
theorem Blk.set_other {w : World} {b : Nat} {cs : Array Value} {t : Nat} (h : Blk w b cs t) (p : Addr) (v : Value) (hp : b ≠ p.block) : Blk (w.setCell p v) b cs t := by
 unfold Blk at *
 rw [Below.heap_setCell _ _ _ _ hp, h]
theorem Blk.alloc {w : World} {b : Nat} {cs : Array Value} {t : Nat} (h : Blk w b cs t) (o : Obj) : Blk (w.alloc o) b cs t := by
 unfold Blk at *
 rw [Below.heap_alloc _ _ _ (Blk.lt h), h]
theorem Blk.grown {w w' : World} {b : Nat} {cs : Array Value} {t : Nat} {r : Option Nat} (h : Blk w b cs t) (hg : w.grownBy w' r) (hr : some b ≠ r) : Blk w' b cs t := by
 have := hg.block b h.lt hr
 unfold Blk at *
 rw [this, h]
theorem grown_refl (w : World) (r : Option Nat) : w.grownBy w r := ⟨rfl, rfl, rfl, Nat.le_refl _, fun _ _ _ => rfl⟩
abbrev put6 (w : World) (b : Nat) (u0 u1 u2 u3 u4 u5 : Value) : World := (((((w.setCell ⟨b, 0, none⟩ u0).setCell ⟨b, 1, none⟩ u1).setCell ⟨b, 2, none⟩ u2).setCell ⟨b, 3, none⟩ u3).setCell ⟨b, 4, none⟩ u4).setCell ⟨b, 5, none⟩ u5
theorem put6_blk {w : World} {b : Nat} {x0 x1 x2 x3 x4 x5 : Value} {t : Nat} (h : Blk w b #[x0, x1, x2, x3, x4, x5] t) (u0 u1 u2 u3 u4 u5 : Value) : Blk (put6 w b u0 u1 u2 u3 u4 u5) b #[u0, u1, u2, u3, u4, u5] t := by
 have := ((((((h.set 0 u0).set 1 u1).set 2 u2).set 3 u3).set 4 u4).set 5 u5)
 simpa using this
theorem put6_size (w : World) (b : Nat) (u0 u1 u2 u3 u4 u5 : Value) : (put6 w b u0 u1 u2 u3 u4 u5).heap.size = w.heap.size := by simp [put6, World.setCell]
structure Cells6 (w : World) (b : Nat) (u0 u1 u2 u3 u4 u5 : Value) : Prop where
 c0 : w.cell? ⟨b, 0, none⟩ = some u0
 c1 : w.cell? ⟨b, 1, none⟩ = some u1
 c2 : w.cell? ⟨b, 2, none⟩ = some u2
 c3 : w.cell? ⟨b, 3, none⟩ = some u3
 c4 : w.cell? ⟨b, 4, none⟩ = some u4
 c5 : w.cell? ⟨b, 5, none⟩ = some u5
theorem Blk.cells6 {w : World} {b : Nat} {u0 u1 u2 u3 u4 u5 : Value} {t : Nat} (h : Blk w b #[u0, u1, u2, u3, u4, u5] t) : Cells6 w b u0 u1 u2 u3 u4 u5 := ⟨Blk.cell h 0 _ rfl, Blk.cell h 1 _ rfl, Blk.cell h 2 _ rfl, Blk.cell h 3 _ rfl, Blk.cell h 4 _ rfl, Blk.cell h 5 _ rfl⟩
theorem below_put6 {B : Nat} {a w : World} (h : Below B a w) {b : Nat} (hb : B ≤ b) (u0 u1 u2 u3 u4 u5 : Value) : Below B a (put6 w b u0 u1 u2 u3 u4 u5) :=
 ((((((h.setCell (p := ⟨b, 0, none⟩) hb u0).setCell (p := ⟨b, 1, none⟩) hb u1).setCell (p := ⟨b, 2, none⟩) hb u2).setCell (p := ⟨b, 3, none⟩) hb u3).setCell (p := ⟨b, 4, none⟩) hb u4).setCell (p := ⟨b, 5, none⟩) hb u5)
theorem typed : ∃ fV fE, Typed Tryd.prog 26 57 23 24 3 2 22 9 fV fE :=
 ⟨_, _, ⟨Tryd.underlying26, Tryd.underlying57, Tryd.underlying23, Tryd.underlying24, Tryd.underlying3, Tryd.underlying2, Tryd.underlying22, Tryd.underlying9,
  by kernel_rfl, by kernel_rfl, by kernel_rfl, by kernel_rfl, by kernel_rfl, by kernel_rfl, by kernel_rfl, by kernel_rfl,
  ⟨_, rfl, rfl, rfl⟩, ⟨_, rfl, rfl, rfl⟩, ⟨_, rfl, rfl, rfl⟩, ⟨_, rfl, rfl, rfl⟩, ⟨_, rfl, rfl, rfl⟩, ⟨_, rfl, rfl, rfl⟩, ⟨_, rfl, rfl, rfl⟩, ⟨_, rfl, rfl, rfl⟩⟩⟩
end Go.Proofs.YtadaehaemmelfaaDoor.valus
namespace Go.Proofs.YtadaehaemmelfaaDoor.bigs
open Go.RowKit
theorem hide {p : Prop} (h : p) : Hid p := h
theorem unhide {p : Prop} (h : Hid p) : p := h
end Go.Proofs.YtadaehaemmelfaaDoor.bigs
namespace Go.Proofs.YtadaehaemmelfaaDoor.valus
open Go.RowKit
theorem cmpI_refl (a : Int) : cmpI a a = .eq := cmpI_ord.refl trivial
theorem less_cmp : ∀ (l m : List UInt8), Op.bytesLess l m = decide (cmpB l m = .lt)
 | [], [] => rfl
 | [], _ :: _ => rfl
 | _ :: _, [] => rfl
 | x :: r, y :: t => by
  have ih := less_cmp r t
  have e : cmpB (x :: r) (y :: t) = thenC (cmpI (x.toNat : Int) (y.toNat : Int)) (cmpB r t) := rfl
  rw [e]
  by_cases h1 : x.toNat < y.toNat
  ·have c : cmpI (x.toNat : Int) (y.toNat : Int) = .lt := by unfold cmpI; rw [if_pos (by omega)]
   have h2 : x < y := UInt8.lt_iff_toNat_lt.2 h1
   rw [c]
   simp [Op.bytesLess, h2, thenC]
  ·by_cases h3 : x = y
   ·subst h3
    rw [cmpI_refl]
    have e3 : Op.bytesLess (x :: r) (x :: t) = Op.bytesLess r t := by simp [Op.bytesLess]
    rw [e3, ih]
    rfl
   ·have h4 : x.toNat ≠ y.toNat := fun h => h3 (UInt8.toNat_inj.1 h)
    have c : cmpI (x.toNat : Int) (y.toNat : Int) = .gt := by unfold cmpI; rw [if_neg (by omega), if_neg (by omega)]
    have h2 : ¬ x < y := fun h => h1 (UInt8.lt_iff_toNat_lt.1 h)
    rw [c]
    simp [Op.bytesLess, h2, h3, thenC]
theorem cmpB_refl (l : List UInt8) : cmpB l l = .eq := cmpB_ord.refl trivial
end Go.Proofs.YtadaehaemmelfaaDoor.valus
