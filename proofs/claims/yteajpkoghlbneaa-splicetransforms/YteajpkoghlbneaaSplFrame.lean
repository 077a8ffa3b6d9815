/- What the rows of this seat share: how arguments are opened. -/
import Derived.Test.YteajpkoghlbneaaRows
import Derived.Test.YteajpkoghlbneaaSplBlk
import Derived.WalkKit
import Derived.ProofKit
import Derived.OpenShut
import Derived.ShutString
import Derived.ChangeOld
import Derived.Below
import Derived.SizedLaws
set_option linter.unusedVariables false
namespace Go.Proofs.Yteajpkoghlbneaa.frame
open Go.ChangeShapes Go.WideShapes Go.ChangeAt Go.RowKit
open spls

theorem own : ownKnob Try.prog.godebug = none := by kernel_rfl
theorem laidOut : laidOutB Try.prog = true := by kernel_rfl
theorem add_plain (b o j : Nat) : (⟨b, o, none⟩ : Addr).add j = ⟨b, o + j, none⟩ := by
  unfold Addr.add
  split <;> simp_all
theorem pick {α : Type} {Q : Nat → α → Prop} : ∀ (n : Nat), (∀ j, j < n → ∃ y, Q j y) → ∃ l : List α, l.length = n ∧ ∀ j y, l[j]? = some y → Q j y
  | 0, _ => ⟨[], rfl, fun j y h => by simp at h⟩
  | n + 1, h => by
    obtain ⟨l, hl, hq⟩ := pick n (fun j hj => h j (by omega))
    obtain ⟨y, hy⟩ := h n (by omega)
    refine ⟨l ++ [y], by simp [hl], fun j z hz => ?_⟩
    by_cases hj : j < l.length
    · rw [List.getElem?_append_left hj] at hz
      exact hq j z hz
    · rw [List.getElem?_append_right (by omega)] at hz
      have h0 : j - l.length = 0 := by
        have := (List.getElem?_eq_some_iff.1 hz).1
        simp at this
        omega
      rw [h0] at hz
      injection hz with hz
      have : j = n := by omega
      rw [this, ← hz]
      exact hy
section
variable {H : Type} {enc : TypeId × Value → H} {P : Program} {w : World} {spare : TypeId → Bool} {held : Bool}
theorem field {fs : Array Field} {cs : List Value} {n : Nat} {xs : List (DataW H × List MemPlace)} {i off : Nat} {t : TypeId} (hx : xs.length = fs.size)
    (h : ∀ (i : Nat) (f : Field), fs[i]? = some f → DataW.trod enc P w 0 spare held n f.type ((cs.drop f.offset).take (P.cellsOf f.type)) = xs[i]?) (hf : ∃ f, fs[i]? = some f ∧ f.offset = off ∧ f.type = t) :
    ∃ x, DataW.trod enc P w 0 spare held n t ((cs.drop off).take (P.cellsOf t)) = some x := by
  obtain ⟨f, h1, rfl, rfl⟩ := hf
  have hi : i < xs.length := by
    rw [hx]
    exact (Array.getElem?_eq_some_iff.1 h1).1
  exact ⟨xs[i], by rw [h i f h1, List.getElem?_eq_getElem hi]⟩
/-- A row that came in. -/
theorem row {t e : TypeId} {d fuel : Nat} {cs : List Value} {x : DataW H × List MemPlace} (hd : 0 < d) (ht : P.underlying t = some (.slice e)) (hc : P.cellsOf e = d) (h : DataW.trod enc P w 0 spare held fuel t cs = some x) :
    ∃ (p : Option Addr) (len cap n : Nat), cs = [.slice p len cap] ∧ len ≤ cap ∧ cap ≤ maxLen ∧ (len ≠ 0 → ∃ b o, p = some ⟨b, o, none⟩ ∧ b < w.heap.size ∧ ∀ j, j < len → ∃ us : List Value, us.length = d ∧ (∀ i, i < d → w.cell? ⟨b, o + j * d + i, none⟩ = us[i]?) ∧ ∃ y, DataW.trod enc P w 0 spare held n e us = some y) := by
  rcases DataW.trod_slice ht h with ⟨rfl, _⟩ | ⟨a, len, cap, elems, rest, n, rfl, rfl, rfl, hb, hl, hm, hlen, hel, hsp, hns⟩
  · exact ⟨none, 0, 0, 0, rfl, Nat.le_refl _, Nat.zero_le _, fun h => absurd rfl h⟩
  · refine ⟨some a, len, cap, n, rfl, hl, hm, fun h0 => ?_⟩
    have each : ∀ j, j < len → ∃ us : List Value, us.length = d ∧ (∀ i, i < d → w.cell? ((a.add (j * d)).add i) = us[i]?) ∧ ∃ y, DataW.trod enc P w 0 spare held n e us = some y := by
      intro j hj
      have h1 := hel j hj
      rw [List.getElem?_eq_getElem (by omega), hc, Option.bind_eq_some_iff] at h1
      obtain ⟨us, g1, g2⟩ := h1
      obtain ⟨_, g3, g4⟩ := World.cells?_some g1
      exact ⟨us, g3, g4, _, g2⟩
    have hz : ∃ v, w.cell? a = some v := by
      obtain ⟨us, g1, g2, _⟩ := each 0 (by omega)
      have g3 := g2 0 hd
      rw [List.getElem?_eq_getElem (by omega)] at g3
      refine ⟨us[0], ?_⟩
      rw [← g3]
      simp [Addr.add]
    obtain ⟨v, hv⟩ := hz
    have hspot := World.cell?_spot hv
    obtain ⟨b, off, spot⟩ := a
    have hs : spot = none := hspot
    subst hs
    have hlt : b < w.heap.size := DataW.trod_lt _ _ _ _ h (.cell b off) (List.mem_append_left _ (MemPlace.mem_row.2 ⟨0, by rw [hc]; exact Nat.mul_pos (by omega) hd, by simp⟩))
    refine ⟨b, off, rfl, hlt, fun j hj => ?_⟩
    obtain ⟨us, g1, g2, g3⟩ := each j hj
    refine ⟨us, g1, fun i hi => ?_, g3⟩
    have g4 := g2 i hi
    rw [add_plain, add_plain] at g4
    exact g4
end
theorem part_under : ∃ fS, Try.prog.underlying 46 = some (.struct fS) ∧ (∃ f, fS[0]? = some f ∧ f.offset = 0 ∧ f.type = 3) ∧ (∃ f, fS[1]? = some f ∧ f.offset = 1 ∧ f.type = 3) ∧ (∃ f, fS[2]? = some f ∧ f.offset = 2 ∧ f.type = 9) :=
  ⟨_, Try.underlying46, ⟨_, rfl, rfl, rfl⟩, ⟨_, rfl, rfl, rfl⟩, ⟨_, rfl, rfl, rfl⟩⟩
theorem part_cells : Try.prog.cellsOf 46 = 3 := by kernel_rfl
theorem str_cells : Try.prog.cellsOf 9 = 1 := by kernel_rfl
theorem int_cells : Try.prog.cellsOf 3 = 1 := by kernel_rfl
set_option maxRecDepth 100000 in
/-- A change that came in. -/
theorem parts_in {H : Type} {enc : TypeId × Value → H} {W : World} {a : Option Addr} {n c : Nat} {d : DataW H} {p : List MemPlace}
    (h : DataW.Trod enc Try.prog W 0 (fun _ => true) true 22 (.slice a n c) d p) :
    ∃ L : List Pt, n = L.length ∧ L.length ≤ 9223372036854775807 ∧ LiesQ W a L := by
  obtain ⟨fuel, hf⟩ := h
  obtain ⟨fS, hS, s0, s1, s2⟩ := part_under
  obtain ⟨p5, l5, a5, n5, e5, b5, m5, r5⟩ := row (d := 3) (by omega) Try.underlying22 part_cells hf
  have he' : [Value.slice a n c] = [Value.slice p5 l5 a5] := e5
  simp only [List.cons.injEq, Value.slice.injEq, and_true] at he'
  obtain ⟨rfl, rfl, rfl⟩ := he'
  have hmax : n ≤ 9223372036854775807 := by unfold maxLen at m5; omega
  by_cases hz : n = 0
  · subst hz
    exact ⟨[], rfl, hmax, LiesQ.nil _ _⟩
  · obtain ⟨B, o, hp, hlt, hr⟩ := r5 hz
    obtain ⟨L, hL, hq⟩ := pick (Q := fun j (x : Pt) => rng x ∧ At3 W B (o + j * 3) x) n (fun j hj => by
      obtain ⟨us, u1, u2, y, u3⟩ := hr j hj
      obtain ⟨ys, n', hn', hy', _, hys, hg⟩ := DataW.trod_struct hS u3
      obtain ⟨y0, g0⟩ := field hys hg s0
      obtain ⟨y1, g1⟩ := field hys hg s1
      obtain ⟨y2, g2⟩ := field hys hg s2
      rw [int_cells] at g0 g1
      rw [str_cells] at g2
      match us, u1 with
      | [d0, d1, d2], u1 =>
        obtain ⟨z, ez, _, wz⟩ := DataW.trod_int Try.underlying3 g0
        obtain ⟨z1, ez1, _, wz1⟩ := DataW.trod_int Try.underlying3 g1
        obtain ⟨key, ek, _, wk⟩ := DataW.trod_string Try.underlying9 g2
        simp only [List.drop, List.take] at ek ez ez1
        injection ek with ek
        injection ez with ez
        injection ez1 with ez1
        subst ek ez ez1
        have bz := bounds_i64 wz
        have bz1 := bounds_i64 wz1
        have c0 := u2 0 (by omega)
        have c1 := u2 1 (by omega)
        have c2 := u2 2 (by omega)
        refine ⟨(z, z1, key.data.toList), ⟨bz, bz1, by rw [len_list]; unfold maxLen at wk; omega⟩, ?_, ?_, ?_⟩
        · rw [Nat.add_zero] at c0; exact c0
        · exact c1
        · show W.cell? ⟨B, o + j * 3 + 2, none⟩ = some (.string ⟨key.data.toList.toArray⟩)
          rw [mk_list]
          exact c2)
    subst hL
    exact ⟨L, rfl, hmax, fun _ => ⟨B, o, hp, hlt, fun j x hx => hq j x hx⟩⟩
end Go.Proofs.Yteajpkoghlbneaa.frame
