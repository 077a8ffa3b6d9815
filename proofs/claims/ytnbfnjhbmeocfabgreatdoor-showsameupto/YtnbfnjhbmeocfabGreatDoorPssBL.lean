/- Of our texts, what this claim reaches. -/
import Derived.Test.YtnbfnjhbmeocfabGreatDoorPssBK
import Derived.Test.YtnbfnjhbmeocfabGreatDoorPssBG
import Derived.Test.YtnbfnjhbmeocfabGreatDoorPssBI
import Derived.Test.YtnbfnjhbmeocfabGreatDoorPssAA
import Derived.Below
import Derived.Laws.AppendOwn
import Derived.Laws.OwnMore
import Derived.Maps.OwnSet
set_option linter.unusedVariables false
namespace Go.Proofs.YtnbfnjhbmeocfabGreatDoor.valus
open Go.RowKit Go.Shelf
def LeafTo (src : List UInt8) (kind : Nat) (x : Lab) (er : Int) : Prop :=
 if kind = 4 then WordTo src x er else er = escs.resE (escs.unq src) ∧ x = if er = 0 then (4, 0, 0, escs.resT (escs.unq src)) else (0, 0, 0, [])
end Go.Proofs.YtnbfnjhbmeocfabGreatDoor.valus
namespace Go.Proofs.YtnbfnjhbmeocfabGreatDoor.valus
open Go.RowKit Go.Shelf
def KeyTo (src : List UInt8) (kind : Nat) (key : List UInt8) (er : Int) : Prop :=
 if kind = 4 then (if escs.bareL src = true then key = src ∧ er = 0 else key = [] ∧ er = 4) else key = escs.resT (escs.unq src) ∧ er = escs.resE (escs.unq src)
end Go.Proofs.YtnbfnjhbmeocfabGreatDoor.valus
namespace Go.Proofs.YtnbfnjhbmeocfabGreatDoor.valus
open Go.RowKit Go.Shelf
open trees (nd)
def Tabs (R : Nat) (w : World) : Prop := Lib.Utf8Tabs 1 2 w ∧ 1 < R ∧ 2 < R
theorem Tabs.only {R : Nat} {w w' : World} (h : Tabs R w) (hR : R < w.heap.size) (ho : Only R w w') : Tabs R w' := by
 obtain ⟨⟨h1, h2⟩, h3, h4⟩ := h
 have hb : ∀ q, q < R → w'.heap[q]? = w.heap[q]? := fun q hq => ho.block q (by omega) (fun e => by have := Option.some.inj e; omega)
 refine ⟨⟨fun c hc => (World.cell?_of_block (a := ⟨1, c, none⟩) (hb _ h3)).trans (h1 c hc), fun i hi => ?_⟩, h3, h4⟩
 obtain ⟨a1, a2⟩ := h2 i hi
 exact ⟨(World.cell?_of_block (a := ⟨2, 2 * i, none⟩) (hb _ h4)).trans a1, (World.cell?_of_block (a := ⟨2, 2 * i + 1, none⟩) (hb _ h4)).trans a2⟩
def ListTo (Rl : trees.T → V ⊕ (Int × Int) → Prop) : List trees.T → List V → V ⊕ (Int × Int) → Prop
 | [], acc, x => x = .inl (mkV (5, 0, 0, []) acc [])
 | t :: r, acc, x => (∃ v, Rl t (.inl v) ∧ ListTo Rl r (acc ++ [v]) x) ∨ ∃ pq, Rl t (.inr pq) ∧ x = .inr pq
end Go.Proofs.YtnbfnjhbmeocfabGreatDoor.valus
namespace Go.Proofs.YtnbfnjhbmeocfabGreatDoor.valus
open Go.RowKit Go.Shelf
structure But2 (R M : Nat) (w w' : World) : Prop where
 os : w'.os = w.os
 tape : w'.tape = w.tape
 output : w'.output = w.output
 size : w.heap.size ≤ w'.heap.size
 block : ∀ q, q < w.heap.size → q ≠ R → q ≠ M → w'.heap[q]? = w.heap[q]?
theorem But2.trans {R M : Nat} {a b c : World} (h : But2 R M a b) (k : But2 R M b c) : But2 R M a c :=
 ⟨k.os.trans h.os, k.tape.trans h.tape, k.output.trans h.output, Nat.le_trans h.size k.size, fun q hq h1 h2 => (k.block q (Nat.lt_of_lt_of_le hq h.size) h1 h2).trans (h.block q hq h1 h2)⟩
end Go.Proofs.YtnbfnjhbmeocfabGreatDoor.valus
