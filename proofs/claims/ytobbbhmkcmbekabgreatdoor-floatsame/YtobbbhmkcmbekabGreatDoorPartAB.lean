/- The walks of the document's answer: cut, at, Small. -/
import Derived.Test.YtobbbhmkcmbekabGreatDoorProg
import Derived.Test.YtobbbhmkcmbekabGreatDoorPartAA
import Derived.WalkKit
import Derived.WalkSmall
import Derived.OwnWalk
import Derived.BigCall
import Derived.Maps.AppendAt
import Derived.Laws.OwnMore
import Derived.Below
set_option linter.unusedVariables false
namespace Go.Proofs.YtobbbhmkcmbekabGreatDoor.bigs
open Go.RowKit

theorem hide {p : Prop} (h : p) : Hid p := h
theorem unhide {p : Prop} (h : Hid p) : p := h
theorem infoInt : (Tryz.prog.info? 3).map (fun i => (i.zero, i.size, i.bytes)) = some (some (.int .i64 0), 1, 8) := by kernel_rfl

/-- A digit as a value. -/
def num (n : Nat) : Value := .int .i64 (n : Int)
/-- A slice whose elements lie in memory. -/
def Row (w : World) (a : Option Addr) (l : List Nat) : Prop :=
  l ≠ [] → ∃ b o, a = some ⟨b, o, none⟩ ∧ b < w.heap.size ∧ ∀ j, j < l.length → w.cell? ⟨b, o + j, none⟩ = some (.int .i64 ((l.getD j 0 : Nat) : Int))
/-- A number lies in memory. -/
def Lies (w : World) (v : Value) (n : Nat) : Prop := ∃ a cap, v = .slice a (dig n).length cap ∧ (dig n).length ≤ cap ∧ Row w a (dig n)

theorem Row.below {w w' : World} {a : Option Addr} {l : List Nat} (h : Row w a l) (hb : Below w.heap.size w w') : Row w' a l := by
  intro h0
  obtain ⟨b, o, e, hlt, hc⟩ := h h0
  refine ⟨b, o, e, Nat.lt_of_lt_of_le hlt hb.size, fun j hj => ?_⟩
  rw [hb.cell (p := ⟨b, o + j, none⟩) hlt]
  exact hc j hj
theorem Lies.below {w w' : World} {v : Value} {n : Nat} (h : Lies w v n) (hb : Below w.heap.size w w') : Lies w' v n := by
  obtain ⟨a, cap, e, hc, hr⟩ := h
  exact ⟨a, cap, e, hc, hr.below hb⟩
theorem Row.take {w : World} {a : Option Addr} {l : List Nat} (h : Row w a l) (k : Nat) : Row w a (l.take k) := by
  intro h0
  have hl : l ≠ [] := fun e => h0 (by rw [e, List.take_nil])
  obtain ⟨b, o, e, hlt, hc⟩ := h hl
  refine ⟨b, o, e, hlt, fun j hj => ?_⟩
  rw [List.length_take] at hj
  rw [hc j (by omega)]
  simp [List.getD, show j < k by omega]
theorem row_own {w : World} {base : Nat} {v : Value} {l : List Nat} (h : w.ownsRow base 3 1 v l.length (l.map num)) :
    ∃ a cap, v = .slice a l.length cap ∧ l.length ≤ cap ∧ Row w a l := by
  have h' := h
  rcases h.2 with ⟨rfl, h0⟩ | ⟨g, cap, cur, rfl, _, hg, hcap, _⟩
  · have : l = [] := List.eq_nil_of_length_eq_zero h0
    subst this
    exact ⟨none, 0, rfl, by simp, fun h => absurd rfl h⟩
  · refine ⟨_, cap, rfl, hcap, fun _ => ⟨g, 0, rfl, (Array.getElem?_eq_some_iff.1 hg).1, fun j hj => ?_⟩⟩
    rw [Nat.zero_add, h'.cellAt j (by omega)]
    simp [num, List.getD, List.getElem?_eq_getElem hj]
theorem own_ge {w : World} {base e n : Nat} {v : Value} {xs : List Value} (h : w.ownsRow base e 1 v n xs) : ∀ g, v.ownBlock = some g → base ≤ g := fun g hg => (h.lt g hg).1
/-- A slice that lies from block B on. -/
def Fresh (B : Nat) (v : Value) : Prop := ∀ g, v.ownBlock = some g → B ≤ g
/-- How long a slice is. -/
def slen : Value → Nat
  | .slice _ n _ => n
  | _ => 0

end Go.Proofs.YtobbbhmkcmbekabGreatDoor.bigs
/- The walks of the document's answer: Plus, Against. -/
set_option linter.unusedVariables false
namespace Go.Proofs.YtobbbhmkcmbekabGreatDoor.bigs
open Go.RowKit

theorem val_take_next (l : List Nat) (k : Nat) : val (l.take (k + 1)) = val (l.take k) + 10000 ^ k * l.getD k 0 := by
  by_cases h : k < l.length
  · exact val_take_succ l k h
  · have e : l.getD k 0 = 0 := by rw [List.getD, List.getElem?_eq_none (by omega)]; rfl
    rw [e, List.take_of_length_le (by omega), List.take_of_length_le (by omega)]
    omega
/-- A round of the sum. -/
theorem plus_round {l a b : List Nat} {i c : Nat} (hi : l.length = i) (h : val l + 10000 ^ i * c = val (a.take i) + val (b.take i)) :
    val (l ++ [(c + (a.getD i 0 + b.getD i 0)) % 10000]) + 10000 ^ (i + 1) * ((c + (a.getD i 0 + b.getD i 0)) / 10000) = val (a.take (i + 1)) + val (b.take (i + 1)) := by
  rw [val_append, val_one, hi, val_take_next, val_take_next]
  generalize a.getD i 0 = x
  generalize b.getD i 0 = y
  have e : 10000 ^ (i + 1) * ((c + (x + y)) / 10000) = 10000 ^ i * (10000 * ((c + (x + y)) / 10000)) := by rw [Nat.pow_succ, Nat.mul_assoc]
  have e2 : 10000 ^ i * ((c + (x + y)) % 10000) + 10000 ^ i * (10000 * ((c + (x + y)) / 10000)) = 10000 ^ i * c + (10000 ^ i * x + 10000 ^ i * y) := by
    rw [← Nat.mul_add, Nat.mod_add_div, Nat.mul_add, Nat.mul_add]
  omega

/-- The order of two numbers by their digits. -/
def sgn (m n : Nat) : Int := if m < n then -1 else if n < m then 1 else 0
theorem drop_val (l : List Nat) (k : Nat) : val (l.drop k) = l.getD k 0 + 10000 * val (l.drop (k + 1)) := by
  by_cases h : k < l.length
  · rw [List.drop_eq_getElem_cons h, val]
    simp [List.getD, List.getElem?_eq_getElem h]
  · have e : l.getD k 0 = 0 := by rw [List.getD, List.getElem?_eq_none (by omega)]; rfl
    rw [e, List.drop_of_length_le (by omega), List.drop_of_length_le (by omega)]
    rfl
theorem small_take {l : List Nat} (h : Small10 l) (k : Nat) : Small10 (l.take k) := by
  rw [← List.take_append_drop k l, small_append] at h
  exact h.1
theorem small_drop {l : List Nat} (h : Small10 l) (k : Nat) : Small10 (l.drop k) := by
  rw [← List.take_append_drop k l, small_append] at h
  exact h.2
theorem split_val (l : List Nat) (k : Nat) (hs : Small10 l) : ∃ t, val l = t + 10000 ^ k * val (l.drop k) ∧ t < 10000 ^ k := by
  refine ⟨val (l.take k), ?_, ?_⟩
  · by_cases h : k ≤ l.length
    · have := val_append (l.take k) (l.drop k)
      rw [List.take_append_drop, List.length_take, Nat.min_eq_left h] at this
      exact this
    · rw [List.drop_of_length_le (by omega), List.take_of_length_le (by omega)]
      simp [val]
  · have h1 := val_lt (small_take hs k)
    have h2 : 10000 ^ (l.take k).length ≤ 10000 ^ k := Nat.pow_le_pow_right (by omega) (List.length_take_le k l)
    omega
theorem less_of_drop {a b : List Nat} {k : Nat} (ha : Small10 a) (hb : Small10 b) (h : val (a.drop k) < val (b.drop k)) : val a < val b := by
  obtain ⟨t, e1, l1⟩ := split_val a k ha
  obtain ⟨u, e2, l2⟩ := split_val b k hb
  have : 10000 ^ k * (val (a.drop k) + 1) ≤ 10000 ^ k * val (b.drop k) := Nat.mul_le_mul_left _ h
  rw [Nat.mul_add, Nat.mul_one] at this
  omega
theorem sgn_lt {m n : Nat} (h : m < n) : sgn m n = -1 := by unfold sgn; rw [if_pos h]
theorem sgn_gt {m n : Nat} (h : n < m) : sgn m n = 1 := by unfold sgn; rw [if_neg (by omega), if_pos h]
theorem sgn_eq {m n : Nat} (h : m = n) : sgn m n = 0 := by subst h; unfold sgn; rw [if_neg (by omega), if_neg (by omega)]

end Go.Proofs.YtobbbhmkcmbekabGreatDoor.bigs
