/- What the rows of this door seat share: how arguments are opened. -/
import Derived.Test.YtobbbhmkcmbekabGreatDoorCards
import Derived.Test.YtobbbhmkcmbekabGreatDoorTie
import Derived.Test.YtobbbhmkcmbekabGreatDoorPartAE
import Derived.WalkKit
import Derived.ProofKit
import Derived.OpenShut
import Derived.ShutString
import Derived.ChangeOld
import Derived.Below
import Derived.SizedLaws
import Derived.Lay
import Derived.PinnedBridge
import Derived.Deep.DeepHandedRow
set_option linter.unusedVariables false
namespace Go.Proofs.YtobbbhmkcmbekabGreatDoor.frame
open Go.ChangeShapes Go.WideShapes Go.ChangeAt Go.RowKit
open bigs

theorem own : ownKnob Tryz.prog.godebug = none := by kernel_rfl
theorem laidOut : laidOutB Tryz.prog = true := by kernel_rfl
theorem bytesU : Tryz.prog.bytesOf 79 = 4 := by kernel_rfl

/-- A slice of words that came in, opened. -/
theorem opened {H : Type} {enc : TypeId × Value → H} {W : World} {a : Option Addr} {len cap : Nat} {d : DataW H} {p : List MemPlace}
    (h : DataW.Trod enc Tryz.prog W 0 (fun _ => true) true 52 (.slice a len cap) d p) :
    ∃ l : List Nat, len = l.length ∧ l.length ≤ cap ∧ RowU W a l ∧ Words32 l ∧ (l = [] ∨ ∃ es sp, d = .slice es sp ∧ es.length = l.length) := by
  have lt : ∀ x ∈ p, x.block < W.heap.size := by obtain ⟨m, hm⟩ := h; exact DataW.trod_lt m _ _ _ hm
  obtain ⟨fuel, hf⟩ := h
  rcases open_ints Tryz.underlying52 Tryz.underlying79 (by kernel_rfl) hf with ⟨hcs, _⟩ | ⟨x, l, c, zs, hcs, _, hl, hm, hz, hx, hcell, hwz⟩
  · simp [Value.cells] at hcs
    obtain ⟨rfl, rfl, rfl⟩ := hcs
    exact ⟨[], rfl, by simp, fun h => absurd rfl h, fun j h => absurd h (by simp), .inl rfl⟩
  · simp [Value.cells] at hcs
    obtain ⟨rfl, rfl, rfl⟩ := hcs
    simp only [Prod.mk.injEq] at hx
    obtain ⟨rfl, rfl⟩ := hx
    simp only [if_true] at hz
    have hnn : ∀ z ∈ zs, 0 ≤ z ∧ z < 4294967296 := fun z hz => by
      have := bounds_u32 (hwz z hz)
      omega
    have hlen : ((zs.take len).map Int.toNat).length = len := by simp; omega
    have hget : ∀ j, j < len → ((((zs.take len).map Int.toNat).getD j 0 : Nat) : Int) = zs.getD j 0 := fun j hj => by
      have hj' : j < zs.length := by omega
      have hm : zs[j] ∈ zs := List.getElem_mem hj'
      have := (hnn _ hm).1
      simp [List.getD, hj, hj']
      omega
    refine ⟨(zs.take len).map Int.toNat, hlen.symm, by rw [hlen]; exact hl, ?_, ?_, .inr ⟨_, _, rfl, ?_⟩⟩
    · intro h0
      have hp : 0 < len := by rw [← hlen]; exact List.length_pos_iff.2 h0
      obtain ⟨b, off, rfl, hc⟩ := ints_at hcell (by omega)
      refine ⟨b, off, rfl, lt (.cell b off) (MemPlace.mem_row.2 ⟨0, by omega, by simp⟩), fun j hj => ?_⟩
      rw [hlen] at hj
      rw [hget j hj]
      exact hc j (by omega)
    · intro j hj
      rw [hlen] at hj
      have hj' : j < zs.length := by omega
      have h1 := hget j hj
      have hm : zs.getD j 0 ∈ zs := by simp [List.getD, List.getElem?_eq_getElem hj']
      have := hnn _ hm
      omega
    · simp [lits]
end Go.Proofs.YtobbbhmkcmbekabGreatDoor.frame
