/- Rows of bytes that a call owns; slices.Reverse over bytes. -/
import Derived.Test.YtgfleflfahabeaaWordRead
import Derived.Test.YtgfleflfahabeaaBigDecs
set_option linter.unusedVariables false
namespace Go.Proofs.Ytgfleflfahabeaa.bigs
open Go.RowKit

theorem infoB : (Try.prog.info? 5).map (fun i => (i.zero, i.size, i.bytes)) = some (some (.int .u8 0), 1, 1) := by kernel_rfl
/-- A byte as a value. -/
def byt (n : Nat) : Value := .int .u8 (n : Int)
/-- A row of bytes that the call may write. -/
def OwnB (w : World) (g c : Nat) (l : List Nat) : Prop := w.ownsRow 0 5 1 (.slice (some ⟨g, 0, none⟩) l.length c) l.length (l.map byt)
theorem OwnB.cell {w : World} {g c : Nat} {l : List Nat} (h : OwnB w g c l) (j : Nat) (hj : j < l.length) : w.cell? ⟨g, j, none⟩ = some (.int .u8 ((l.getD j 0 : Nat) : Int)) := by
  rw [World.ownsRow.cellAt h j (by omega)]
  simp [byt, List.getD, hj]
theorem OwnB.froz {w : World} {g c : Nat} {l : List Nat} (h : OwnB w g c l) (j : Nat) : w.frozen? ⟨g, j, none⟩ = false := World.ownsRow.frozenAt h j
theorem OwnB.set {w : World} {g c : Nat} {l : List Nat} (h : OwnB w g c l) (j d : Nat) : OwnB (w.setCell ⟨g, j, none⟩ (.int .u8 (d : Int))) g c (l.set j d) := by
  have := (World.ownsRow.stored h j (.int .u8 (d : Int))).1
  unfold OwnB
  rw [List.length_set, List.map_set]
  exact this
theorem OwnB.lt {w : World} {g c : Nat} {l : List Nat} (h : OwnB w g c l) : g < w.heap.size := (World.ownsRow.lt h g rfl).2
theorem ownB_of {w : World} {B : Nat} {v : Value} {l : List Nat} (h : w.ownsRow B 5 1 v l.length (l.map byt)) (h0 : l ≠ []) : ∃ g c, v = .slice (some ⟨g, 0, none⟩) l.length c ∧ OwnB w g c l ∧ B ≤ g := by
  rcases h.2 with ⟨rfl, e⟩ | ⟨g, cap, cur, rfl, hb, r⟩
  · exact absurd (List.eq_nil_of_length_eq_zero e) h0
  · exact ⟨g, cap, rfl, ⟨h.1, .inr ⟨g, cap, cur, rfl, Nat.zero_le _, r⟩⟩, hb⟩
theorem Own.keep {w w' : World} {g c : Nat} {l : List Nat} {row : Option Nat} (h : Own w g c l) (hg : w.grownBy w' row) (hne : some g ≠ row) : Own w' g c l :=
  World.ownsRow.kept h hg (.inr hne)
theorem list_ext {a b : List Nat} (hl : a.length = b.length) (h : ∀ p, p < a.length → a.getD p 0 = b.getD p 0) : a = b := by
  apply List.ext_getElem hl
  intro i h1 h2
  have := h i h1
  simpa [List.getD, h1, h2] using this
theorem getD_rev (L : List Nat) (p : Nat) (h : p < L.length) : L.reverse.getD p 0 = L.getD (L.length - 1 - p) 0 := by
  simp [List.getD, List.getElem?_reverse h]
/-- How far the ends are exchanged. -/
def Turned (L C : List Nat) (a : Nat) : Prop := C.length = L.length ∧ ∀ p, p < L.length → C.getD p 0 = if p < a ∨ L.length - a ≤ p then L.getD (L.length - 1 - p) 0 else L.getD p 0
theorem turned_zero (L : List Nat) : Turned L L 0 := ⟨rfl, fun p hp => by rw [if_neg (by omega)]⟩
theorem turned_end {L C : List Nat} {a : Nat} (h : Turned L C a) (ha : L.length ≤ 2 * a + 1) : C = L.reverse := by
  refine list_ext (by rw [h.1, List.length_reverse]) fun p hp => ?_
  rw [h.1] at hp
  rw [getD_rev L p hp, h.2 p hp]
  split
  · rfl
  · congr 1
    omega
theorem turned_next {L C : List Nat} {a : Nat} (h : Turned L C a) (ha : 2 * a + 1 < L.length) : Turned L ((C.set a (C.getD (L.length - 1 - a) 0)).set (L.length - 1 - a) (C.getD a 0)) (a + 1) := by
  refine ⟨by rw [List.length_set, List.length_set, h.1], fun p hp => ?_⟩
  have h1 := h.2 a (by omega)
  have h2 := h.2 (L.length - 1 - a) (by omega)
  rw [if_neg (by omega)] at h1 h2
  by_cases e1 : p = L.length - 1 - a
  · rw [if_pos (by omega), e1, List.getD, List.getElem?_set_self (by rw [List.length_set, h.1]; omega)]
    show C.getD a 0 = _
    rw [h1]; congr 1; omega
  · by_cases e2 : p = a
    · rw [if_pos (by omega), List.getD, List.getElem?_set_ne (by omega), e2, List.getElem?_set_self (by rw [h.1]; omega)]
      show C.getD (L.length - 1 - a) 0 = _
      rw [h2]
    · rw [List.getD, List.getElem?_set_ne (by omega), List.getElem?_set_ne (by omega)]
      show C.getD p 0 = _
      rw [h.2 p hp]
      by_cases e3 : p < a ∨ L.length - a ≤ p
      · rw [if_pos e3, if_pos (by omega)]
      · rw [if_neg e3, if_neg (by omega)]

set_option maxHeartbeats 4000000 in
set_option maxRecDepth 100000 in
theorem reverse_any (w : World) (g c ca : Nat) (L S : List Nat) (hl : L.length ≤ 1000000) (own : OwnB w g c (L ++ S)) :
    Calls Try.prog 48 #[.slice (some ⟨g, 0, none⟩) L.length ca] w fun e w' => e = .returned (.tuple #[]) ∧ OwnB w' g c (L.reverse ++ S) ∧ w.grownBy w' (some g) := by
  go_enter Try.func48, Try.ntmps48
  go_wp2
  go_loopw [2, 3] (fun i j wr => ∃ (a : Nat) (C : List Nat), i = .int .i64 a ∧ j = .int .i64 ((L.length : Int) - 1 - a) ∧ a ≤ L.length ∧ Hid (Turned L C a) ∧ C.length = L.length ∧ Hid (OwnB wr g c (C ++ S)) ∧ w.grownBy wr (some g)) (fun i _ _ => L.length - (intOf i).toNat)
  case atStart => exact ⟨0, L, rfl, by congr 1; omega, Nat.zero_le _, turned_zero L, rfl, own, grown_refl _ _⟩
  case round =>
    clear own
    obtain ⟨a, C, rfl, rfl, haL, ht, hCl, hown, hgr⟩ := hrel
    by_cases hlt : 2 * a + 1 < L.length
    · have hown' := unhide hown
      obtain ⟨b, hb⟩ : ∃ b, b = L.length - 1 - a := ⟨_, rfl⟩
      have e0 : (L.length : Int) - 1 - (a : Int) = (b : Int) := by omega
      rw [e0]
      have hab : a < b := by omega
      have hbL : b < L.length := by omega
      have c1 : wr.cell? ⟨g, a, none⟩ = some (.int .u8 ((C.getD a 0 : Nat) : Int)) := by
        rw [hown'.cell a (by simp; omega)]
        simp [List.getD, List.getElem?_append_left (show a < C.length by omega)]
      have c2 : wr.cell? ⟨g, b, none⟩ = some (.int .u8 ((C.getD b 0 : Nat) : Int)) := by
        rw [hown'.cell b (by simp; omega)]
        simp [List.getD, List.getElem?_append_left (show b < C.length by omega)]
      have f1 := hown'.froz a
      have f2 := hown'.froz b
      have ht2 : Hid (Turned L ((C.set a (C.getD b 0)).set b (C.getD a 0)) (a + 1)) := by
        have h := turned_next ht.out hlt
        rwa [← hb] at h
      have hset : Hid (∀ x y : Nat, OwnB ((wr.setCell ⟨g, a, none⟩ (.int .u8 (y : Int))).setCell ⟨g, b, none⟩ (.int .u8 (x : Int))) g c (((C.set a y).set b x) ++ S)) := fun x y => by
        have h := (hown'.set a y).set b x
        rwa [List.set_append_left _ _ (show a < C.length by omega), List.set_append_left _ _ (by rw [List.length_set]; omega)] at h
      have f3 : ∀ y : Nat, (wr.setCell ⟨g, a, none⟩ (.int .u8 (y : Int))).frozen? ⟨g, b, none⟩ = false := fun y => (hown'.set a y).froz b
      have hgr2 : Hid (∀ u u', w.grownBy ((wr.setCell ⟨g, a, none⟩ u).setCell ⟨g, b, none⟩ u') (some g)) := fun u u' => grown_cell (grown_cell hgr _ u) _ u'
      have c3 : ∀ y : Nat, (wr.setCell ⟨g, a, none⟩ (.int .u8 (y : Int))).cell? ⟨g, b, none⟩ = some (.int .u8 ((C.getD b 0 : Nat) : Int)) := fun y => by
        rw [(hown'.set a y).cell b (by simp; omega), List.getD, List.getElem?_set_ne (by omega), List.getElem?_append_left (by omega)]
        rfl
      have i1 : (a : Int) < (b : Int) := by omega
      have i2 : (b : Int) < (L.length : Int) := by omega
      have i3 : (a : Int) < (L.length : Int) := by omega
      have HB := hide hb
      clear hown hown' ht hb hgr
      generalize C.getD a 0 = x at *
      generalize C.getD b 0 = y at *
      have c4 := c3 y
      have f4 := f3 y
      clear c3 f3
      go_wp2_with fail
      go_region
      go_wp2
      go_roundw
      case rel => exact ⟨a + 1, (C.set a y).set b x, by go_num, by congr 1; omega, by omega, ht2, by rw [List.length_set, List.length_set]; exact hCl, hset.out x y, grown_drew (hgr2.out _ _) 1⟩
      case measure => simp only [intOf]; omega
    · have HE : Hid (C = L.reverse) := turned_end ht.out (by omega)
      have HO : Hid (OwnB wr g c (L.reverse ++ S)) := by
        show OwnB _ _ _ _
        rw [← HE.out]; exact unhide hown
      have i1 : ¬ ((a : Int) < (L.length : Int) - 1 - (a : Int)) := by omega
      clear ht hown
      go_wp2
      go_end0
      exact ⟨rfl, unhide HO, hgr⟩
end Go.Proofs.Ytgfleflfahabeaa.bigs
