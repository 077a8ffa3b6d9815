/- Whose blocks turn: an iterator's own, or those of the loop that it serves. -/
import Derived.Test.YteehffjainffcaaDoorValRevL
set_option linter.unusedVariables false
namespace Go.Proofs.YteehffjainffcaaDoor.valus
open Go.RowKit

/-- Of the blocks that were there only M's have turned. -/
structure Turns (M : Nat → Prop) (W W' : World) : Prop where
  os : W'.os = W.os
  tape : W'.tape = W.tape
  output : W'.output = W.output
  size : W.heap.size ≤ W'.heap.size
  block : ∀ b, b < W.heap.size → ¬ M b → W'.heap[b]? = W.heap[b]?
theorem Turns.refl (M : Nat → Prop) (W : World) : Turns M W W := ⟨rfl, rfl, rfl, Nat.le_refl _, fun _ _ _ => rfl⟩
theorem Turns.trans {M N : Nat → Prop} {A B C : World} (h : Turns M A B) (k : Turns N B C) (hN : ∀ b, b < A.heap.size → N b → M b) : Turns M A C :=
  ⟨k.os.trans h.os, k.tape.trans h.tape, k.output.trans h.output, Nat.le_trans h.size k.size, fun b hb hm => (k.block b (Nat.lt_of_lt_of_le hb h.size) (fun hn => hm (hN b hb hn))).trans (h.block b hb hm)⟩
theorem Turns.mono {M N : Nat → Prop} {A B : World} (h : Turns M A B) (hM : ∀ b, b < A.heap.size → M b → N b) : Turns N A B :=
  ⟨h.os, h.tape, h.output, h.size, fun b hb hn => h.block b hb (fun hm => hn (hM b hb hm))⟩
theorem Turns.grown {M : Nat → Prop} {A B : World} {row : Option Nat} (hg : A.grownBy B row) (hr : ∀ b, row = some b → M b) : Turns M A B :=
  ⟨hg.os, hg.tape, hg.output, hg.size, fun b hb hm => hg.block b hb (fun e => hm (hr b e.symm))⟩
theorem Turns.alloc (M : Nat → Prop) (W : World) (o : Obj) : Turns M W (W.alloc o) := Turns.grown (World.grownBy_alloc W o none) (fun b e => by cases e)
theorem Turns.drew (M : Nat → Prop) (W : World) : Turns M W W.drew := ⟨rfl, rfl, rfl, Nat.le_refl _, fun _ _ _ => rfl⟩
theorem Turns.setCell {M : Nat → Prop} (W : World) (p : Addr) (v : Value) (hp : M p.block) : Turns M W (W.setCell p v) :=
  ⟨rfl, rfl, rfl, by simp [World.setCell], fun b _ hm => Below.heap_setCell _ _ _ _ (fun e => hm (by rw [e]; exact hp))⟩
theorem Turns.putObj {M : Nat → Prop} (W : World) (l : Nat) (o : Obj) (hl : M l) : Turns M W (W.putObj l o) :=
  Turns.grown (grownBy_putObj' W l o) (fun b e => by cases e; exact hl)
theorem Turns.below {M : Nat → Prop} {A B : World} {n : Nat} (h : Turns M A B) (hn : n ≤ A.heap.size) (hM : ∀ b, M b → n ≤ b) : Below n A B :=
  ⟨h.os, h.tape, h.output, h.size, fun k hk => h.block k (by omega) (fun hm => by have := hM k hm; omega)⟩
theorem Turns.of_below {M : Nat → Prop} {A B : World} {n : Nat} (h : Below n A B) (hM : ∀ b, n ≤ b → M b) : Turns M A B :=
  ⟨h.os, h.tape, h.output, h.size, fun b _ hm => h.block b (Decidable.byContradiction fun e => hm (hM b (by omega)))⟩
theorem Turns.cell {M : Nat → Prop} {A B : World} (h : Turns M A B) {p : Addr} (hp : p.block < A.heap.size) (hm : ¬ M p.block) : B.cell? p = A.cell? p := World.cell?_of_block (h.block _ hp hm)

/-- What is said abides the turn of M's blocks; new ones are M's. -/
def Abide {β : Type} (J : (Nat → Prop) → β → World → Prop) : Prop :=
  ∀ M M' s W W', J M s W → Turns M W W' → (∀ b, M' b → M b ∨ W.heap.size ≤ b) → J M' s W'
/-- .. and that of blocks from n on that are no cells. -/
def Abides2 {β : Type} (n : Nat) (J : (Nat → Prop) → β → World → Prop) : Prop :=
  ∀ M M' s W W', J M s W → Turns (fun b => M b ∨ (n ≤ b ∧ ∃ o : Obj, W.heap[b]? = some o ∧ o.isCells = false)) W W' → (∀ b, M' b → M b ∨ W.heap.size ≤ b) → J M' s W'
theorem Abides2.one {β : Type} {n : Nat} {J : (Nat → Prop) → β → World → Prop} (h : Abides2 n J) : Abide J := fun M M' s W W' hj ht hm => h M M' s W W' hj (ht.mono fun _ _ h => .inl h) hm
theorem Abides2.put {β : Type} {n : Nat} {J : (Nat → Prop) → β → World → Prop} (h : Abides2 n J) {M : Nat → Prop} {s : β} {W : World} {l : Nat} {o : Obj} (o' : Obj) (hs : J M s W) (hn : n ≤ l) (hl : W.heap[l]? = some o) (ho : o.isCells = false) : J M s (W.putObj l o') :=
  h M M s W _ hs (Turns.putObj W l o' (.inr ⟨hn, o, hl, ho⟩)) (fun _ h => .inl h)

/-- The marks of the loops that have run. -/
def marks (ds : List Nat) : List Deferred := ds.map fun D => { target := .collected D, args := #[] }
theorem leave_marks {P : Program} {fn : Func} {tmps : Array Value} {n : Nat} {R : Ending → World → Prop} (hr : fn.results = #[]) : ∀ (ds : List Nat) (W : World), ds.Nodup → (∀ D, D ∈ ds → W.heap[D]? = some (.deferred (some []))) →
    (∀ W', Turns (fun b => b ∈ ds) W W' → R (.returned (.tuple #[])) W') → LeavesInM Fence.wide n P fn tmps R (marks ds) .returning W
  | [], W, _, _, h => ⟨_, results_none hr _ _ _, h W (Turns.refl _ _)⟩
  | D :: ds, W, hn, hd, h => by
    refine ⟨by simp, .inl ⟨D, _, rfl, run_takeDeferred (hd D (by simp)), ?_⟩⟩
    have hnn := List.nodup_cons.1 hn
    refine leave_marks hr ds _ hnn.2 (fun D' hD' => ?_) (fun W' ht => h W' ?_)
    · exact (World.putObj_heap_other (fun e => hnn.1 (by rw [← e]; exact hD'))).trans (hd D' (by simp [hD']))
    · exact (Turns.putObj W D (.deferred none) (M := fun b => b ∈ D :: ds) (by simp)).trans ht (fun b _ hb => by simp [hb])

/-- A sequence that goes through what is to do, each one's parts at its place: what it promises to the loop, and what it asks of it. -/
def Walks (P : Program) (gf : Nat) (lb : Array Value) {α σ : Type} (enc : α → Value) (todo : σ → List α) (mu : σ → Nat) (Kd : (Nat → Prop) → World → α → List α → Prop) (first : α) (M0 : Nat → Prop) (w : World) : Prop :=
  ∀ (l : Nat) (J : (Nat → Prop) → σ → World → Prop) (Jx : (Nat → Prop) → Unit → World → Prop) (s0 : σ) (W : World), Abide J → Abide Jx →
    (∀ M s x rest X, J M s X → (∀ b, M b → b < X.heap.size) → todo s = x :: rest → YieldAt Fence.wide 9 P l #[enc x] X fun e X' =>
      (e = .returned (.bool true) ∧ Turns (fun b => ¬ M b) X X' ∧ ∃ s' kids, J M s' X' ∧ todo s' = kids ++ rest ∧ mu s' < mu s ∧ Kd M X' x kids) ∨ (e = .returned (.bool false) ∧ Turns (fun b => ¬ M b) X X' ∧ Jx M () X')) →
    (∀ M s X, J M s X → (todo s).length ≤ 10000000) →
    Below w.heap.size w W → todo s0 = [first] → J M0 s0 W →
    CallsIn Fence.wide 9 P gf (#[.func (.yield l) #[] #[]] ++ lb) W fun e W' => (∃ v, e = .returned v) ∧ ∃ M, ((∃ s, todo s = [] ∧ J M s W') ∨ Jx M () W')
end Go.Proofs.YteehffjainffcaaDoor.valus
