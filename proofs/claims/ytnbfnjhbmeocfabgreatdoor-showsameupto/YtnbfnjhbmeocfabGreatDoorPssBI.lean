/- Of our texts, what this claim reaches. -/
import Derived.Test.YtnbfnjhbmeocfabGreatDoorPssBH
import Derived.Test.YtnbfnjhbmeocfabGreatDoorPssBD
import Derived.Test.YtnbfnjhbmeocfabGreatDoorPssAF
import Derived.Test.YtnbfnjhbmeocfabGreatDoorPssAB
set_option linter.unusedVariables false
namespace Go.Proofs.YtnbfnjhbmeocfabGreatDoor.valus
open Go.RowKit Go.Shelf
abbrev Only (R : Nat) (w w' : World) : Prop := w.grownBy w' (some R)
theorem Only.trans {R : Nat} {a b c : World} (h : Only R a b) (k : Only R b c) : Only R a c :=
 ⟨k.os.trans h.os, k.tape.trans h.tape, k.output.trans h.output, Nat.le_trans h.size k.size, fun q hq hn => (k.block q (Nat.lt_of_lt_of_le hq h.size) hn).trans (h.block q hq hn)⟩
end Go.Proofs.YtnbfnjhbmeocfabGreatDoor.valus
namespace Go.Proofs.YtnbfnjhbmeocfabGreatDoor.valus
open Go.RowKit Go.Shelf
def KeptQ (Q : (Nat → Prop) → World → List Value → V → Prop) : Prop :=
 ∀ (ok ok' : Nat → Prop) (w w' : World) (us : List Value) (y : V), Q ok w us y → (∀ b, ok b → ok' b) → w.heap.size ≤ w'.heap.size → (∀ b, ok b → b < w.heap.size → w'.heap[b]? = w.heap[b]?) → Q ok' w' us y
def okR (n0 : Nat) (W : World) (v : Value) (b : Nat) : Prop := n0 ≤ b ∧ b < W.heap.size ∧ some b ≠ v.ownBlock
def OwnR (T : TypeId) (k : Nat) (Q : (Nat → Prop) → World → List Value → V → Prop) (n0 : Nat) (W : World) (v : Value) (F : List V) : Prop :=
 ∃ rows : List (List Value), W.ownsRow n0 T k v F.length rows.flatten ∧ rows.length = F.length ∧ ∀ (i : Nat) (us : List Value), rows[i]? = some us → us.length = k ∧ ∃ y, F[i]? = some y ∧ Q (okR n0 W v) W us y
theorem OwnR.lt {T : TypeId} {k : Nat} {Q : (Nat → Prop) → World → List Value → V → Prop} {n0 : Nat} {W : World} {v : Value} {F : List V} (h : OwnR T k Q n0 W v F) : ∀ g, v.ownBlock = some g → n0 ≤ g ∧ g < W.heap.size := fun g hg => by
 obtain ⟨rows, ho, _⟩ := h
 exact World.ownsRow.lt ho g hg
theorem OwnR.only {T : TypeId} {k : Nat} {Q : (Nat → Prop) → World → List Value → V → Prop} (hQ : KeptQ Q) {n0 R : Nat} {W W' : World} {v : Value} {F : List V} (h : OwnR T k Q n0 W v F) (hR : R < n0) (ho : Only R W W') : OwnR T k Q n0 W' v F := by
 have hlt := h.lt
 obtain ⟨rows, hw, hl, hr⟩ := h
 refine ⟨rows, World.ownsRow.kept hw (row := some R) ho ?_, hl, fun i us hi => ?_⟩
 ·exact Classical.byCases (fun e : v.ownBlock = none => .inl e) (fun e => .inr (fun e2 => by have := hlt R e2; omega))
 ·obtain ⟨h1, y, h2, h3⟩ := hr i us hi
  exact ⟨h1, y, h2, hQ _ _ _ _ _ _ h3 (fun b hb => ⟨hb.1, Nat.lt_of_lt_of_le hb.2.1 ho.size, hb.2.2⟩) ho.size (fun b hb hlt' => ho.block b hlt' (fun e => by injection e with e; have := hb.1; omega))⟩
end Go.Proofs.YtnbfnjhbmeocfabGreatDoor.valus
