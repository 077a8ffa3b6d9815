/- The walks of the document's answer: OfWords. -/
import Derived.Test.YtobbbhmkcmbekaaBigOver
import Derived.Deep.RegionWith
set_option linter.unusedVariables false
namespace Go.Proofs.Ytobbbhmkcmbekaa.bigs
open Go.RowKit

/-- What a list of words tells, the least first. -/
def wval : List Nat → Nat
  | [] => 0
  | d :: r => d + 4294967296 * wval r
/-- All are words. -/
def Words32 (l : List Nat) : Prop := ∀ j, j < l.length → l.getD j 0 < 4294967296
theorem words_getD {l : List Nat} (h : Words32 l) (j : Nat) : l.getD j 0 < 4294967296 := by
  by_cases hj : j < l.length
  · exact h j hj
  · rw [List.getD, List.getElem?_eq_none (by omega)]; simp
theorem wdrop_val (l : List Nat) (k : Nat) : wval (l.drop k) = l.getD k 0 + 4294967296 * wval (l.drop (k + 1)) := by
  by_cases h : k < l.length
  · rw [List.drop_eq_getElem_cons h, wval]
    simp [List.getD, List.getElem?_eq_getElem h]
  · have e : l.getD k 0 = 0 := by rw [List.getD, List.getElem?_eq_none (by omega)]; rfl
    rw [e, List.drop_of_length_le (by omega), List.drop_of_length_le (by omega)]
    rfl
theorem words_cons {d : Nat} {r : List Nat} : Words32 (d :: r) ↔ d < 4294967296 ∧ Words32 r := by
  constructor
  · intro h
    exact ⟨h 0 (by simp), fun j hj => h (j + 1) (by simpa using hj)⟩
  · rintro ⟨h1, h2⟩ j hj
    cases j with
    | zero => exact h1
    | succ j => exact h2 j (by simpa using hj)
theorem words_drop {l : List Nat} (h : Words32 l) : ∀ k, Words32 (l.drop k) := by
  induction l with
  | nil => intro k; rw [List.drop_nil]; exact h
  | cons d r ih =>
    intro k
    cases k with
    | zero => exact h
    | succ k => rw [List.drop_succ_cons]; exact ih (words_cons.1 h).2 k
theorem wval_lt {l : List Nat} (h : Words32 l) : wval l < 4294967296 ^ l.length := by
  induction l with
  | nil => simp [wval]
  | cons d r ih =>
    have h' := words_cons.1 h
    have := ih h'.2
    rw [wval, List.length_cons, Nat.pow_succ]
    omega
theorem wval_len {l : List Nat} (h : Words32 l) : (dig (wval l)).length ≤ 3 * l.length := by
  apply dig_length_le
  have h1 := wval_lt h
  have h2 : 4294967296 ^ l.length ≤ (10000 ^ 3) ^ l.length := Nat.pow_le_pow_left (by decide) _
  rw [← Nat.pow_mul] at h2
  omega
/-- Words of a slice lie in memory. -/
def RowU (w : World) (a : Option Addr) (l : List Nat) : Prop :=
  l ≠ [] → ∃ b o, a = some ⟨b, o, none⟩ ∧ b < w.heap.size ∧ ∀ j, j < l.length → w.cell? ⟨b, o + j, none⟩ = some (.int .u32 ((l.getD j 0 : Nat) : Int))
theorem RowU.below {w w' : World} {a : Option Addr} {l : List Nat} (h : RowU w a l) (hb : Below w.heap.size w w') : RowU w' a l := by
  intro h0
  obtain ⟨b, o, e, hlt, hc⟩ := h h0
  refine ⟨b, o, e, Nat.lt_of_lt_of_le hlt hb.size, fun j hj => ?_⟩
  rw [hb.cell (p := ⟨b, o + j, none⟩) hlt]
  exact hc j hj
theorem cell_keep {w w' : World} {a : Addr} {v : Value} (hb : Below w.heap.size w w') (h : w.cell? a = some v) : w'.cell? a = some v := by
  rw [hb.cell (World.block_lt_of_cell? w a h)]
  exact h
theorem small_two (w : World) : Calls Try.prog 13 #[.int .u64 4294967296] w fun e w' => ∃ v, e = .returned v ∧ Lies w' v 4294967296 ∧ Fresh w.heap.size v ∧ Below w.heap.size w w' := small_any 4294967296 w (by decide)
theorem dig_two : (dig 4294967296).length ≤ 3 := dig_length_le (by decide)
theorem dig_word {x : Nat} (h : x < 4294967296) : (dig x).length ≤ 3 := dig_length_le (Nat.lt_trans h (by decide))

theorem small_wrap (x : Nat) (w : World) (h : x < 4294967296) : Calls Try.prog 13 #[.int .u64 (IntKind.u64.wrap (x : Int))] w fun e w' => ∃ v, e = .returned v ∧ Lies w' v x ∧ Fresh w.heap.size v ∧ Below w.heap.size w w' := by
  have e : IntKind.u64.wrap (x : Int) = (x : Int) := by simp [IntKind.wrap, IntKind.bits, IntKind.signed]; omega
  rw [e]
  exact small_any x w (by omega)

set_option maxHeartbeats 8000000 in
set_option maxRecDepth 100000 in
theorem ofWords_any (w : World) (a : Option Addr) (cap : Nat) (l : List Nat) (hl : l.length ≤ 100000) (hs : Words32 l) (hr : RowU w a l) :
    Calls Try.prog 5 #[.slice a l.length cap] w fun e w' => ∃ v, e = .returned v ∧ Lies w' v (wval l) ∧ Below w.heap.size w w' := by
  have HL : Hid (∀ k, (dig (wval (l.drop k))).length ≤ 300000) := fun k => by
    have h1 := wval_len (words_drop hs k)
    rw [List.length_drop] at h1
    omega
  have h2 := dig_two
  go_enter Try.func5, Try.ntmps5
  go_wp2
  go_loopw [3, 4] (fun vr i wr => ∃ (k r : Nat), i = .int .i64 ((k : Int) - 1) ∧ k ≤ l.length ∧ Lies wr vr r ∧ Hid (r = wval (l.drop k)) ∧ Below w.heap.size w wr) (fun _ i _ => (intOf i + 1).toNat)
  case atStart =>
    refine ⟨l.length, 0, rfl, Nat.le_refl _, ⟨none, 0, by rw [dig_zero]; rfl, by rw [dig_zero]; simp, by rw [dig_zero]; exact fun h => absurd rfl h⟩, ?_, Below.refl _ _⟩
    show _ = _
    rw [List.drop_of_length_le (Nat.le_refl _)]; rfl
  case round =>
    obtain ⟨k, r, rfl, hk, hL, hv, hbw⟩ := hrel
    cases k with
    | zero =>
      have e : r = wval l := by have := hv.out; rwa [List.drop_zero] at this
      subst e
      clear hv
      go_wp2
      go_ret
      exact ⟨_, rfl, hL, hbw⟩
    | succ k =>
      have e0 : ((k + 1 : Nat) : Int) - 1 = (k : Int) := by omega
      rw [e0]
      obtain ⟨b, o, rfl, hb, hc⟩ := hr (by intro e; rw [e] at hk; simp at hk)
      have c1 : wr.drew.cell? ⟨b, o + k, none⟩ = some (.int .u32 ((l.getD k 0 : Nat) : Int)) := by
        show wr.cell? _ = _
        rw [hbw.cell (p := ⟨b, o + k, none⟩) hb]; exact hc k (by omega)
      have hx := words_getD hs k
      have hrl : (dig r).length ≤ 300000 := by rw [hv.out]; exact HL.out _
      have hv2 : Hid (r * 4294967296 + l.getD k 0 = wval (l.drop k)) := by
        show _ = _
        rw [wdrop_val l k, ← hv.out]
        omega
      have hpl : (dig (r * 4294967296)).length ≤ 1048576 := by
        have h1 : r * 4294967296 ≤ wval (l.drop k) := by have := hv2.out; omega
        have := Nat.le_trans (dig_len_mono h1) (HL.out k)
        omega
      have hxl := dig_word hx
      have i1 : (k : Int) < (l.length : Int) := by omega
      have hL1 : Lies wr.drew u3 r := hL.below (Below.refl _ wr).drew
      have hbd : Below w.heap.size w wr.drew := hbw.drew
      clear hc hv hL hbw
      generalize l.getD k 0 = x at *
      go_wp2_with fail
      go_region_with (first
        | (go_at_call_of 13 (Value.int IntKind.u64 4294967296); refine (small_two _).mono ?_; rintro e w4 ⟨v4, rfl, hL4, _, b4⟩; have c1 := cell_keep b4 c1; have hL1 := hL1.below b4; have hbd := hbd.trans (b4.mono hbd.size))
        | (go_at_call 12; refine (by_any _ _ _ r 4294967296 (by omega) (by omega) hL1 hL4).mono ?_; rintro e w5 ⟨v5, rfl, hL5, _, b5⟩; have c1 := cell_keep b5 c1; have hbd := hbd.trans (b5.mono hbd.size))
        | (go_at_call_of 13 (Value.int IntKind.u64 (IntKind.u64.wrap (x : Int))); refine (small_wrap x _ hx).mono ?_; rintro e w6 ⟨v6, rfl, hL6, _, b6⟩; have hL5 := hL5.below b6; have hbd := hbd.trans (b6.mono hbd.size))
        | (go_at_call 14; refine (plus_any _ _ _ (r * 4294967296) x (by omega) (by omega) hL5 hL6).mono ?_; rintro e w7 ⟨v7, rfl, hL7, _, b7⟩; have hbd := hbd.trans (b7.mono hbd.size)))
      all_goals
        go_wp2
        go_roundw
        case rel => exact ⟨k, r * 4294967296 + x, rfl, by omega, hL7, hv2, hbd⟩
        case measure => simp only [intOf]; omega
end Go.Proofs.Ytobbbhmkcmbekaa.bigs
