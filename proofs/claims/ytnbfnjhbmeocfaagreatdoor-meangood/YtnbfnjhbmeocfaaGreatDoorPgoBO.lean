/- Of our texts, what this claim reaches. -/
import Derived.Test.YtnbfnjhbmeocfaaGreatDoorPgoBN
import Derived.Test.YtnbfnjhbmeocfaaGreatDoorPgoAP
set_option linter.unusedVariables false
namespace Go.Proofs.YtnbfnjhbmeocfaaGreatDoor.valus
open Go.RowKit Go.Shelf

theorem infoValM : (Tryz.prog.info? 26).map (fun i => (i.zero, i.size, i.bytes)) = some (some (.agg #[.int .i64 0, .int .i64 0, .int .u64 0, .string ⟨#[]⟩, .slice none 0 0, .slice none 0 0]), 6, 88) := by kernel_rfl
theorem onesM {ok : Nat → Prop} {w : World} {f : Nat} {us : List Value} {t : V} (h : LiesV ok f w us t) : ∀ u ∈ us, u.oneCell' = true := by
  cases f with
  | zero => exact h.elim
  | succ f =>
    obtain ⟨k, n, b, s, L, E, pL, pE, cL, cE, _, rfl, _⟩ := h
    intro u hu
    simp only [List.mem_cons, List.not_mem_nil, or_false] at hu
    rcases hu with rfl | rfl | rfl | rfl | rfl | rfl <;> rfl
structure ML (R : Nat) (w wr : World) (n : Nat) (nk na ne : Int) (np : Option Addr) (nl nc : Nat) (acc : List V) (p : Option Addr) (cp : Nat) : Prop where
  d : Blk wr (w.heap.size + 2) #[.int .i64 5, .int .i64 0, .int .u64 0, .string ⟨#[]⟩, .slice p acc.length cp, .slice none 0 0] 26
  o : OwnR 26 6 (QV n) (w.heap.size + 3) wr (.slice p acc.length cp) acc
  nd : Blk wr w.heap.size #[.int .i64 nk, .int .i64 na, .int .i64 ne, .slice np nl nc] 59
  r : Blk wr (w.heap.size + 1) #[.int .i64 0, .int .i64 0, .int .u64 0, .string ⟨#[]⟩, .slice none 0 0, .slice none 0 0] 26
  b : Only R w wr
  s : w.heap.size + 3 ≤ wr.heap.size
  lt : R < w.heap.size
theorem ML.later {R : Nat} {w wr w2 : World} {n : Nat} {nk na ne : Int} {np : Option Addr} {nl nc : Nat} {acc : List V} {p : Option Addr} {cp : Nat} (h : ML R w wr n nk na ne np nl nc acc p cp) (ho : Only R wr w2) : ML R w w2 n nk na ne np nl nc acc p cp := by
  have hs := h.s
  have hl := h.lt
  have nb : ∀ q, R < q → q < wr.heap.size → w2.heap[q]? = wr.heap[q]? := fun q h1 h2 => ho.block q h2 (fun e => by have := Option.some.inj e; omega)
  exact ⟨(nb _ (by omega) (by omega)).trans h.d, h.o.only (QV_kept n) (by omega) ho, (nb _ (by omega) (by omega)).trans h.nd, (nb _ (by omega) (by omega)).trans h.r, h.b.trans ho, Nat.le_trans hs ho.size, hl⟩
theorem ML.value {R : Nat} {w wr : World} {n : Nat} {nk na ne : Int} {np : Option Addr} {nl nc : Nat} {acc : List V} {p : Option Addr} {cp : Nat} (h : ML R w wr n nk na ne np nl nc acc p cp) : LiesV (fun q => w.heap.size + 3 ≤ q ∧ q < wr.heap.size) (n + 1) wr [.int .i64 5, .int .i64 0, .int .u64 ((0 : Nat) : Int), .string ⟨#[]⟩, .slice p acc.length cp, .slice none 0 0] (mkV (5, 0, 0, []) acc []) := by
  obtain ⟨p', cp', e, hc1, hc2, hrow⟩ := h.o.row (QV_kept n)
  injection e with e1 e2 e3
  subst e1
  subst e3
  exact ⟨5, 0, 0, ⟨#[]⟩, acc, [], p, none, cp, 0, rfl, rfl, ⟨by decide, by decide, by decide, Nat.zero_le _⟩, ⟨hc1, hc2, Nat.le_refl _, Nat.zero_le _⟩, hrow, fun h => absurd h (by simp)⟩
theorem ML.push {R : Nat} {w wr w2 : World} {n : Nat} {nk na ne : Int} {np : Option Addr} {nl nc : Nat} {acc : List V} {p : Option Addr} {cp : Nat} (h0 : ML R w wr n nk na ne np nl nc acc p cp) (hb : Only R wr w2) (k nn : Int) (b : Nat) (z : ByteArray) (pL : Option Addr) (nL cL : Nat) (pE : Option Addr) (nE cE : Nat) (y : V) (hl : LiesV (fun b => wr.heap.size ≤ b ∧ b < w2.heap.size) n w2 [.int .i64 k, .int .i64 nn, .int .u64 (b : Int), .string z, .slice pL nL cL, .slice pE nE cE] y) (hal : acc.length ≤ 3000000) :
    ∃ (p' : Option Addr) (cp' : Nat) (W' : World), (Builtin.append_ #[23, 23] 23 #[.slice p acc.length cp, .slice (some ⟨w2.heap.size + 1, 0, none⟩) 1 1]).run Tryz.prog ((w2.alloc (.cells #[.int .i64 k, .int .i64 nn, .int .u64 (b : Int), .string z, .slice pL nL cL, .slice pE nE cE] 26)).alloc (.cells #[.int .i64 k, .int .i64 nn, .int .u64 (b : Int), .string z, .slice pL nL cL, .slice pE nE cE] 26)) = .ok (.slice p' (acc.length + 1) cp') W' ∧
      Blk W' (w.heap.size + 2) #[.int .i64 5, .int .i64 0, .int .u64 0, .string ⟨#[]⟩, .slice p acc.length cp, .slice none 0 0] 26 ∧ ML R w (W'.setCell ⟨w.heap.size + 2, 4, none⟩ (.slice p' (acc.length + 1) cp')) n nk na ne np nl nc (acc ++ [y]) p' cp' ∧ (∀ q, q ≤ R → (W'.setCell ⟨w.heap.size + 2, 4, none⟩ (.slice p' (acc.length + 1) cp')).heap[q]? = w2.heap[q]?) := by
  obtain ⟨i0, hi, hz0, hz1, hz2⟩ := info_parts infoValM
  have h2 := h0.o
  have bA : Below w2.heap.size w2 (w2.alloc (.cells #[.int .i64 k, .int .i64 nn, .int .u64 (b : Int), .string z, .slice pL nL cL, .slice pE nE cE] 26)) := (Below.refl _ w2).alloc (Nat.le_refl _) _
  have hA := (h0.later hb).later (only_of_belowM bA)
  have s0 := h0.s
  have s1 := hb.size
  have hRl := h0.lt
  have hq : QV n (okR (w.heap.size + 3) (w2.alloc (.cells #[.int .i64 k, .int .i64 nn, .int .u64 (b : Int), .string z, .slice pL nL cL, .slice pE nE cE] 26)) (.slice p acc.length cp)) (w2.alloc (.cells #[.int .i64 k, .int .i64 nn, .int .u64 (b : Int), .string z, .slice pL nL cL, .slice pE nE cE] 26)) [.int .i64 k, .int .i64 nn, .int .u64 (b : Int), .string z, .slice pL nL cL, .slice pE nE cE] y := LiesV.kept (fun b hb => ⟨by have := hb.1; omega, by have := hb.2; simp; omega, fun e => by have := (h2.lt b e.symm).2; have := hb.1; omega⟩) bA.size (fun b _ hlt' => bA.block b hlt') hl
  obtain ⟨v', W', hrun, hO', hg⟩ := OwnR.push (tS := 23) (QV_kept n) Tryz.underlying23 hi hz0 hz1 hz2 rfl (by decide) (by decide) hA.o hA.s [.int .i64 k, .int .i64 nn, .int .u64 (b : Int), .string z, .slice pL nL cL, .slice pE nE cE] y rfl (onesM hl) hq (by omega) 23
  rw [World.size_alloc] at hrun
  have hv := fun g hg' => (hA.o.lt g hg').1
  have hbl : ∀ q, q < w.heap.size + 3 → W'.heap[q]? = (w2.alloc (.cells #[.int .i64 k, .int .i64 nn, .int .u64 (b : Int), .string z, .slice pL nL cL, .slice pE nE cE] 26)).heap[q]? := fun q hq' => (hg.block (by have := hA.s; omega) (fun e => by have := hv q e.symm; omega)).1
  obtain ⟨p', cp', rfl, _, _, _⟩ := hO'.row (QV_kept n)
  have hlen : (acc ++ [y]).length = acc.length + 1 := by simp
  rw [hlen] at hrun hO'
  have hd : Blk W' (w.heap.size + 2) #[.int .i64 5, .int .i64 0, .int .u64 0, .string ⟨#[]⟩, .slice p acc.length cp, .slice none 0 0] 26 := (hbl _ (by omega)).trans hA.d
  have hsz := hg.by'.size
  have hsA := hA.s
  refine ⟨p', cp', W', hrun, hd, ⟨?_, ?_, ?_, ?_, ?_, ?_, hRl⟩, ?_⟩
  · rw [hlen]
    exact hd.set 4 (.slice p' (acc.length + 1) cp')
  · rw [hlen]
    exact hO'.only (QV_kept n) (by omega) (only_set (w.heap.size + 2) W' 4 (.slice p' (acc.length + 1) cp'))
  · exact Blk.set_other (((hbl _ (by omega)).trans hA.nd : Blk W' _ _ _)) ⟨w.heap.size + 2, 4, none⟩ _ (by show w.heap.size ≠ w.heap.size + 2; omega)
  · exact Blk.set_other (((hbl _ (by omega)).trans hA.r : Blk W' _ _ _)) ⟨w.heap.size + 2, 4, none⟩ _ (by show w.heap.size + 1 ≠ w.heap.size + 2; omega)
  · have b1 : Only R (w2.alloc (.cells #[.int .i64 k, .int .i64 nn, .int .u64 (b : Int), .string z, .slice pL nL cL, .slice pE nE cE] 26)) (W'.setCell ⟨w.heap.size + 2, 4, none⟩ (.slice p' (acc.length + 1) cp')) ∨ True := .inr trivial
    have o1 := hA.b
    refine ⟨hg.by'.os.trans o1.os, hg.by'.tape.trans o1.tape, hg.by'.output.trans o1.output, ?_, fun q hq hne => ?_⟩
    · simp only [World.setCell, Array.size_modify]
      have := o1.size
      omega
    · exact ((Below.heap_setCell _ _ _ _ (by show q ≠ w.heap.size + 2; omega)).trans (hbl q (by omega))).trans (o1.block q hq hne)
  · simp only [World.setCell, Array.size_modify]
    omega
  · intro q hq
    exact ((Below.heap_setCell _ _ _ _ (by show q ≠ w.heap.size + 2; omega)).trans (hbl q (by omega))).trans (bA.block q (by omega))
end Go.Proofs.YtnbfnjhbmeocfaaGreatDoor.valus
