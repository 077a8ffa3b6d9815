/- Blocks; a value's and an entry's cells in a block of their own; the program's types of values. -/
import Derived.Test.YtdpoiagnjdajbaaDoorProg
import Derived.Test.YtdpoiagnjdajbaaDoorPoneAC
import Derived.WalkKit
import Derived.WalkSmall
import Derived.OwnWalk
import Derived.BigCall
import Derived.Maps.AppendAt
import Derived.Deep.AppendLies
import Derived.Laws.OwnMore
import Derived.Below
import Derived.Deep.QuietTactic
import Derived.BigQuiet
import Derived.BigRegion
import Derived.Deep.CutRange
import Derived.Deep.RegionWith
import Derived.KernelRfl
set_option linter.unusedVariables false
namespace Go.Proofs.YtdpoiagnjdajbaaDoor.valus
open Go.RowKit

theorem hide {p : Prop} (h : p) : Hid p := h
theorem unhide {p : Prop} (h : Hid p) : p := h
theorem len_list (s : ByteArray) : s.data.toList.length = s.size := by rw [Array.length_toList]; rfl
theorem ext_list (s : ByteArray) (a b : Nat) : (s.extract a b).data.toList = (s.data.toList.take b).drop a := by
  rw [ByteArray.data_extract, Array.toList_extract, List.extract_eq_take_drop, List.drop_take]
theorem ext_drop (s : ByteArray) (k : Nat) : (s.extract k s.size).data.toList = s.data.toList.drop k := by
  rw [ext_list, ← len_list s, List.take_length]
theorem ext_take (s : ByteArray) (k : Nat) : (s.extract 0 k).data.toList = s.data.toList.take k := by
  rw [ext_list, List.drop_zero]
theorem byte_at (s : ByteArray) (k : Nat) (h : k < s.size) : s.data.toList[k]'(by rw [len_list]; exact h) = s[k]'h := rfl
theorem size_mk (x : List UInt8) : (⟨x.toArray⟩ : ByteArray).size = x.length := by simp [ByteArray.size]

def Blk (w : World) (b : Nat) (cs : Array Value) (t : Nat) : Prop := w.heap[b]? = some (.cells cs t)
theorem Blk.lt {w : World} {b : Nat} {cs : Array Value} {t : Nat} (h : Blk w b cs t) : b < w.heap.size := by
  unfold Blk at h
  exact (Array.getElem?_eq_some_iff.1 h).1
theorem Blk.below {w w' : World} {b : Nat} {cs : Array Value} {t : Nat} (h : Blk w b cs t) (hb : Below w.heap.size w w') : Blk w' b cs t := by
  have := hb.block b h.lt
  unfold Blk at *
  rw [this, h]
theorem blk_alloc (w : World) (cs : Array Value) (t : Nat) : Blk (w.alloc (.cells cs t)) w.heap.size cs t := by
  show (w.heap.push _)[w.heap.size]? = _
  simp
theorem Blk.cell {w : World} {b : Nat} {cs : Array Value} {t : Nat} (h : Blk w b cs t) (j : Nat) (v : Value) (hj : cs[j]? = some v) : w.cell? ⟨b, j, none⟩ = some v := by
  unfold Blk at h
  simp only [World.cell?, h]
  exact hj
theorem Blk.froz {w : World} {b : Nat} {cs : Array Value} {t : Nat} (h : Blk w b cs t) (j : Nat) : w.frozen? ⟨b, j, none⟩ = false := by
  unfold Blk at h
  simp [World.frozen?, h]
theorem Blk.set {w : World} {b : Nat} {cs : Array Value} {t : Nat} (h : Blk w b cs t) (j : Nat) (v : Value) : Blk (w.setCell ⟨b, j, none⟩ v) b (cs.setIfInBounds j v) t := by
  unfold Blk at *
  simp only [World.setCell, Array.getElem?_modify, h]
  simp
theorem Blk.set_other {w : World} {b : Nat} {cs : Array Value} {t : Nat} (h : Blk w b cs t) (p : Addr) (v : Value) (hp : b ≠ p.block) : Blk (w.setCell p v) b cs t := by
  unfold Blk at *
  rw [Below.heap_setCell _ _ _ _ hp, h]
theorem Blk.alloc {w : World} {b : Nat} {cs : Array Value} {t : Nat} (h : Blk w b cs t) (o : Obj) : Blk (w.alloc o) b cs t := by
  unfold Blk at *
  rw [Below.heap_alloc _ _ _ (Blk.lt h), h]
theorem Blk.grown {w w' : World} {b : Nat} {cs : Array Value} {t : Nat} {r : Option Nat} (h : Blk w b cs t) (hg : w.grownBy w' r) (hr : some b ≠ r) : Blk w' b cs t := by
  have := hg.block b h.lt hr
  unfold Blk at *
  rw [this, h]
theorem grown_refl (w : World) (r : Option Nat) : w.grownBy w r := ⟨rfl, rfl, rfl, Nat.le_refl _, fun _ _ _ => rfl⟩
theorem grown_set (w : World) (B j : Nat) (v : Value) : w.grownBy (w.setCell ⟨B, j, none⟩ v) (some B) :=
  ⟨rfl, rfl, rfl, by simp [World.setCell], fun k _ hk => Below.heap_setCell _ _ _ _ (fun e => hk (by rw [e]))⟩
theorem grown_trans {w w1 w2 : World} {r : Option Nat} (h : w.grownBy w1 r) (g : w1.grownBy w2 r) : w.grownBy w2 r :=
  ⟨g.os.trans h.os, g.tape.trans h.tape, g.output.trans h.output, Nat.le_trans h.size g.size, fun k hk hr => (g.block k (Nat.lt_of_lt_of_le hk h.size) hr).trans (h.block k hk hr)⟩
theorem grown_drew {w w' : World} {r : Option Nat} (h : w.grownBy w' r) : w.grownBy w'.drew r := ⟨h.os, h.tape, h.output, h.size, h.block⟩
/-- Six cells, stored. -/
abbrev put6 (w : World) (b : Nat) (u0 u1 u2 u3 u4 u5 : Value) : World := (((((w.setCell ⟨b, 0, none⟩ u0).setCell ⟨b, 1, none⟩ u1).setCell ⟨b, 2, none⟩ u2).setCell ⟨b, 3, none⟩ u3).setCell ⟨b, 4, none⟩ u4).setCell ⟨b, 5, none⟩ u5
theorem put6_blk {w : World} {b : Nat} {x0 x1 x2 x3 x4 x5 : Value} {t : Nat} (h : Blk w b #[x0, x1, x2, x3, x4, x5] t) (u0 u1 u2 u3 u4 u5 : Value) : Blk (put6 w b u0 u1 u2 u3 u4 u5) b #[u0, u1, u2, u3, u4, u5] t := by
  have := ((((((h.set 0 u0).set 1 u1).set 2 u2).set 3 u3).set 4 u4).set 5 u5)
  simpa using this
theorem put6_other {w : World} {b c : Nat} {cs : Array Value} {t : Nat} (h : Blk w c cs t) (hne : c ≠ b) (u0 u1 u2 u3 u4 u5 : Value) : Blk (put6 w b u0 u1 u2 u3 u4 u5) c cs t :=
  ((((((h.set_other _ _ hne).set_other _ _ hne).set_other _ _ hne).set_other _ _ hne).set_other _ _ hne).set_other _ _ hne)
theorem put6_size (w : World) (b : Nat) (u0 u1 u2 u3 u4 u5 : Value) : (put6 w b u0 u1 u2 u3 u4 u5).heap.size = w.heap.size := by simp [put6, World.setCell]
structure Cells6 (w : World) (b : Nat) (u0 u1 u2 u3 u4 u5 : Value) : Prop where
  c0 : w.cell? ⟨b, 0, none⟩ = some u0
  c1 : w.cell? ⟨b, 1, none⟩ = some u1
  c2 : w.cell? ⟨b, 2, none⟩ = some u2
  c3 : w.cell? ⟨b, 3, none⟩ = some u3
  c4 : w.cell? ⟨b, 4, none⟩ = some u4
  c5 : w.cell? ⟨b, 5, none⟩ = some u5
theorem Blk.cells6 {w : World} {b : Nat} {u0 u1 u2 u3 u4 u5 : Value} {t : Nat} (h : Blk w b #[u0, u1, u2, u3, u4, u5] t) : Cells6 w b u0 u1 u2 u3 u4 u5 := ⟨Blk.cell h 0 _ rfl, Blk.cell h 1 _ rfl, Blk.cell h 2 _ rfl, Blk.cell h 3 _ rfl, Blk.cell h 4 _ rfl, Blk.cell h 5 _ rfl⟩
structure Froz6 (w : World) (b : Nat) : Prop where
  c0 : w.frozen? ⟨b, 0, none⟩ = false
  c1 : w.frozen? ⟨b, 1, none⟩ = false
  c2 : w.frozen? ⟨b, 2, none⟩ = false
  c3 : w.frozen? ⟨b, 3, none⟩ = false
  c4 : w.frozen? ⟨b, 4, none⟩ = false
  c5 : w.frozen? ⟨b, 5, none⟩ = false
theorem Blk.froz6 {w : World} {b : Nat} {cs : Array Value} {t : Nat} (h : Blk w b cs t) : Froz6 w b := ⟨Blk.froz h 0, Blk.froz h 1, Blk.froz h 2, Blk.froz h 3, Blk.froz h 4, Blk.froz h 5⟩
/-- Seven cells, stored. -/
abbrev put7 (w : World) (b : Nat) (u0 u1 u2 u3 u4 u5 u6 : Value) : World := ((((((w.setCell ⟨b, 0, none⟩ u0).setCell ⟨b, 1, none⟩ u1).setCell ⟨b, 2, none⟩ u2).setCell ⟨b, 3, none⟩ u3).setCell ⟨b, 4, none⟩ u4).setCell ⟨b, 5, none⟩ u5).setCell ⟨b, 6, none⟩ u6
theorem put7_blk {w : World} {b : Nat} {x0 x1 x2 x3 x4 x5 x6 : Value} {t : Nat} (h : Blk w b #[x0, x1, x2, x3, x4, x5, x6] t) (u0 u1 u2 u3 u4 u5 u6 : Value) : Blk (put7 w b u0 u1 u2 u3 u4 u5 u6) b #[u0, u1, u2, u3, u4, u5, u6] t := by
  have := (((((((h.set 0 u0).set 1 u1).set 2 u2).set 3 u3).set 4 u4).set 5 u5).set 6 u6)
  simpa using this
theorem put7_other {w : World} {b c : Nat} {cs : Array Value} {t : Nat} (h : Blk w c cs t) (hne : c ≠ b) (u0 u1 u2 u3 u4 u5 u6 : Value) : Blk (put7 w b u0 u1 u2 u3 u4 u5 u6) c cs t :=
  (((((((h.set_other _ _ hne).set_other _ _ hne).set_other _ _ hne).set_other _ _ hne).set_other _ _ hne).set_other _ _ hne).set_other _ _ hne)
theorem put7_size (w : World) (b : Nat) (u0 u1 u2 u3 u4 u5 u6 : Value) : (put7 w b u0 u1 u2 u3 u4 u5 u6).heap.size = w.heap.size := by simp [put7, World.setCell]
structure Cells7 (w : World) (b : Nat) (u0 u1 u2 u3 u4 u5 u6 : Value) : Prop where
  c0 : w.cell? ⟨b, 0, none⟩ = some u0
  c1 : w.cell? ⟨b, 1, none⟩ = some u1
  c2 : w.cell? ⟨b, 2, none⟩ = some u2
  c3 : w.cell? ⟨b, 3, none⟩ = some u3
  c4 : w.cell? ⟨b, 4, none⟩ = some u4
  c5 : w.cell? ⟨b, 5, none⟩ = some u5
  c6 : w.cell? ⟨b, 6, none⟩ = some u6
theorem Blk.cells7 {w : World} {b : Nat} {u0 u1 u2 u3 u4 u5 u6 : Value} {t : Nat} (h : Blk w b #[u0, u1, u2, u3, u4, u5, u6] t) : Cells7 w b u0 u1 u2 u3 u4 u5 u6 := ⟨Blk.cell h 0 _ rfl, Blk.cell h 1 _ rfl, Blk.cell h 2 _ rfl, Blk.cell h 3 _ rfl, Blk.cell h 4 _ rfl, Blk.cell h 5 _ rfl, Blk.cell h 6 _ rfl⟩
structure Froz7 (w : World) (b : Nat) : Prop where
  c0 : w.frozen? ⟨b, 0, none⟩ = false
  c1 : w.frozen? ⟨b, 1, none⟩ = false
  c2 : w.frozen? ⟨b, 2, none⟩ = false
  c3 : w.frozen? ⟨b, 3, none⟩ = false
  c4 : w.frozen? ⟨b, 4, none⟩ = false
  c5 : w.frozen? ⟨b, 5, none⟩ = false
  c6 : w.frozen? ⟨b, 6, none⟩ = false
theorem Blk.froz7 {w : World} {b : Nat} {cs : Array Value} {t : Nat} (h : Blk w b cs t) : Froz7 w b := ⟨Blk.froz h 0, Blk.froz h 1, Blk.froz h 2, Blk.froz h 3, Blk.froz h 4, Blk.froz h 5, Blk.froz h 6⟩
theorem below_put6 {B : Nat} {a w : World} (h : Below B a w) {b : Nat} (hb : B ≤ b) (u0 u1 u2 u3 u4 u5 : Value) : Below B a (put6 w b u0 u1 u2 u3 u4 u5) :=
  ((((((h.setCell (p := ⟨b, 0, none⟩) hb u0).setCell (p := ⟨b, 1, none⟩) hb u1).setCell (p := ⟨b, 2, none⟩) hb u2).setCell (p := ⟨b, 3, none⟩) hb u3).setCell (p := ⟨b, 4, none⟩) hb u4).setCell (p := ⟨b, 5, none⟩) hb u5)
theorem below_put7 {B : Nat} {a w : World} (h : Below B a w) {b : Nat} (hb : B ≤ b) (u0 u1 u2 u3 u4 u5 u6 : Value) : Below B a (put7 w b u0 u1 u2 u3 u4 u5 u6) :=
  (((((((h.setCell (p := ⟨b, 0, none⟩) hb u0).setCell (p := ⟨b, 1, none⟩) hb u1).setCell (p := ⟨b, 2, none⟩) hb u2).setCell (p := ⟨b, 3, none⟩) hb u3).setCell (p := ⟨b, 4, none⟩) hb u4).setCell (p := ⟨b, 5, none⟩) hb u5).setCell (p := ⟨b, 6, none⟩) hb u6)
theorem typed : ∃ fV fE, Typed Tryd.prog 26 54 23 24 3 2 22 9 fV fE :=
  ⟨_, _, ⟨Tryd.underlying26, Tryd.underlying54, Tryd.underlying23, Tryd.underlying24, Tryd.underlying3, Tryd.underlying2, Tryd.underlying22, Tryd.underlying9,
    by kernel_rfl, by kernel_rfl, by kernel_rfl, by kernel_rfl, by kernel_rfl, by kernel_rfl, by kernel_rfl, by kernel_rfl,
    ⟨_, rfl, rfl, rfl⟩, ⟨_, rfl, rfl, rfl⟩, ⟨_, rfl, rfl, rfl⟩, ⟨_, rfl, rfl, rfl⟩, ⟨_, rfl, rfl, rfl⟩, ⟨_, rfl, rfl, rfl⟩, ⟨_, rfl, rfl, rfl⟩, ⟨_, rfl, rfl, rfl⟩⟩⟩
end Go.Proofs.YtdpoiagnjdajbaaDoor.valus
/- The walk of the document's Size. -/
set_option linter.unusedVariables false
namespace Go.Proofs.YtdpoiagnjdajbaaDoor.valus
open Go.RowKit

/-- Depth and nodes as the program reckons them. -/
def stp (q : V → Int × Int) (a : Int × Int) (x : V) : Int × Int := (if a.1 < (q x).1 then (q x).1 else a.1, wrap64 (a.2 + (q x).2))
def sizeW : Nat → V → Int × Int
  | 0, _ => (0, 0)
  | n + 1, v => (wrap64 (((parts v).foldl (stp (sizeW n)) (0, 1)).1 + 1), ((parts v).foldl (stp (sizeW n)) (0, 1)).2)
theorem stp_next {n j c : Nat} (h : j < n) (h1 : n ≤ c) (h2 : c ≤ maxLen) : wrap64 ((j : Int) + 1) = ((j + 1 : Nat) : Int) := by
  have hm : maxLen = 9223372036854775807 := rfl
  rw [hm] at h2
  have hb : (j : Int) + 1 ≤ 9223372036854775807 := by omega
  unfold wrap64
  omega
theorem stp_snoc {q : V → Int × Int} {l : List V} {j : Nat} {y : V} (h : l[j]? = some y) (a : Int × Int) : (l.take (j + 1)).foldl (stp q) a = stp q ((l.take j).foldl (stp q) a) y := by
  rw [List.take_add_one, h, List.foldl_append]
  rfl
end Go.Proofs.YtdpoiagnjdajbaaDoor.valus
/- What the walk of the document's Beside needs: plain mathematics, and sign. -/
set_option linter.unusedVariables false
namespace Go.Proofs.YtdpoiagnjdajbaaDoor.valus
open Go.RowKit

set_option maxHeartbeats 1000000 in
theorem sign_any (w : World) (b : Bool) : Calls Tryd.prog 48 #[.bool b] w fun e w' => e = .returned (.int .i64 (if b then -1 else 1)) ∧ w' = w := by
  cases b
  · go_enter Tryd.func48, Tryd.ntmps48
    go_wp2
    go_ret
    exact ⟨rfl, rfl⟩
  · go_enter Tryd.func48, Tryd.ntmps48
    go_wp2
    go_ret
    exact ⟨rfl, rfl⟩
theorem cmpI_sign {a b : Int} (h : a ≠ b) : ordI (cmpI a b) = if decide (a < b) = true then -1 else 1 := by
  unfold cmpI
  by_cases c : a < b
  · rw [if_pos c, if_pos (by simp [c])]; rfl
  · rw [if_neg c, if_neg h, if_neg (by simp [c])]; rfl
theorem thenC_ne {x y : Ordering} (h : x ≠ .eq) : thenC x y = x := by cases x <;> first | rfl | exact absurd rfl h
theorem cmpI_ne {a b : Int} (h : a ≠ b) : cmpI a b ≠ .eq := fun e => h ((cmpI_ord.same a b trivial trivial).1 e)
theorem cmpI_refl (a : Int) : cmpI a a = .eq := cmpI_ord.refl trivial
theorem thenC_refl (y : Ordering) : thenC .eq y = y := rfl
theorem fkey_ne {a b : Nat} (ha : a < 18446744073709551616) (hb : b < 18446744073709551616) (h : a ≠ b) : fkey a ≠ fkey b := fun e => h ((fkey_ord.same a b ha hb).1 (by rw [e]; exact cmpI_refl _))
theorem top_bit (b : Nat) : ((b : Int) / 9223372036854775808 == 0) = decide (b < 9223372036854775808) := by
  by_cases h : b < 9223372036854775808
  · have e : (b : Int) / 9223372036854775808 = 0 := by omega
    rw [e]
    simp [h]
  · have e : (b : Int) / 9223372036854775808 ≠ 0 := by omega
    simp [h, e]
theorem fkey_A {a b : Nat} (ha : a < 18446744073709551616) (hb : b < 18446744073709551616) (hne : a ≠ b) (h : (!((a : Int) / 9223372036854775808 == 0) == ((b : Int) / 9223372036854775808 == 0)) = true) :
    ordI (cmpI (fkey a) (fkey b)) = if ((b : Int) / 9223372036854775808 == 0) = true then -1 else 1 := by
  rw [cmpI_sign (fkey_ne ha hb hne)]
  rw [top_bit, top_bit] at h
  rw [top_bit]
  by_cases h1 : a < 9223372036854775808
  · by_cases h2 : b < 9223372036854775808
    · simp [h1, h2] at h
    · have : ¬ fkey a < fkey b := by unfold fkey; rw [if_pos h1, if_neg h2]; omega
      simp [this, h2]
  · by_cases h2 : b < 9223372036854775808
    · have : fkey a < fkey b := by unfold fkey; rw [if_neg h1, if_pos h2]; omega
      simp [this, h2]
    · simp [h1, h2] at h
theorem fkey_B {a b : Nat} (ha : a < 18446744073709551616) (hb : b < 18446744073709551616) (hne : a ≠ b) (h : (!((a : Int) / 9223372036854775808 == 0) == ((b : Int) / 9223372036854775808 == 0)) = false) :
    ordI (cmpI (fkey a) (fkey b)) = if (decide (a < b) == ((a : Int) / 9223372036854775808 == 0)) = true then -1 else 1 := by
  rw [cmpI_sign (fkey_ne ha hb hne)]
  rw [top_bit, top_bit] at h
  rw [top_bit]
  by_cases h1 : a < 9223372036854775808
  · by_cases h2 : b < 9223372036854775808
    · have e : (fkey a < fkey b) = (a < b) := by unfold fkey; rw [if_pos h1, if_pos h2]; exact propext ⟨fun h => by omega, fun h => by omega⟩
      by_cases h3 : a < b <;> simp [e, h1, h3]
    · simp [h1, h2] at h
  · by_cases h2 : b < 9223372036854775808
    · simp [h1, h2] at h
    · have e : (fkey a < fkey b) = (b < a) := by unfold fkey; rw [if_neg h1, if_neg h2]; exact propext ⟨fun h => by omega, fun h => by omega⟩
      by_cases h3 : a < b
      · have h4 : ¬ b < a := by omega
        simp [e, h1, h3, h4]
      · have h4 : b < a := by omega
        simp [e, h1, h3, h4]
theorem less_cmp : ∀ (l m : List UInt8), Op.bytesLess l m = decide (cmpB l m = .lt)
  | [], [] => rfl
  | [], _ :: _ => rfl
  | _ :: _, [] => rfl
  | x :: r, y :: t => by
    have ih := less_cmp r t
    have e : cmpB (x :: r) (y :: t) = thenC (cmpI (x.toNat : Int) (y.toNat : Int)) (cmpB r t) := rfl
    rw [e]
    by_cases h1 : x.toNat < y.toNat
    · have c : cmpI (x.toNat : Int) (y.toNat : Int) = .lt := by unfold cmpI; rw [if_pos (by omega)]
      have h2 : x < y := UInt8.lt_iff_toNat_lt.2 h1
      rw [c]
      simp [Op.bytesLess, h2, thenC]
    · by_cases h3 : x = y
      · subst h3
        rw [cmpI_refl]
        have e3 : Op.bytesLess (x :: r) (x :: t) = Op.bytesLess r t := by simp [Op.bytesLess]
        rw [e3, ih]
        rfl
      · have h4 : x.toNat ≠ y.toNat := fun h => h3 (UInt8.toNat_inj.1 h)
        have c : cmpI (x.toNat : Int) (y.toNat : Int) = .gt := by unfold cmpI; rw [if_neg (by omega), if_neg (by omega)]
        have h2 : ¬ x < y := fun h => h1 (UInt8.lt_iff_toNat_lt.1 h)
        rw [c]
        simp [Op.bytesLess, h2, h3, thenC]
theorem less_sign {l m : List UInt8} (h : l ≠ m) : ordI (cmpB l m) = if Op.bytesLess l m = true then -1 else 1 := by
  rw [less_cmp]
  cases e : cmpB l m with
  | lt => rfl
  | eq => exact absurd ((cmpB_ord.same l m trivial trivial).1 e) h
  | gt => rfl
theorem cmpB_refl (l : List UInt8) : cmpB l l = .eq := cmpB_ord.refl trivial
theorem cmpB_ne {l m : List UInt8} (h : l ≠ m) : cmpB l m ≠ .eq := fun e => h ((cmpB_ord.same l m trivial trivial).1 e)
end Go.Proofs.YtdpoiagnjdajbaaDoor.valus
