/- Of our texts, what this claim reaches. -/
import Derived.Test.YtnbfnjhbmeocfabGreatDoorPssAR
import Derived.Deep.RegionWith
set_option linter.unusedVariables false
namespace Go.Proofs.YtnbfnjhbmeocfabGreatDoor.bigs
open Go.RowKit
def wval : List Nat → Nat
 | [] => 0
 | d :: r => d + 4294967296 * wval r
def Words32 (l : List Nat) : Prop := ∀ j, j < l.length → l.getD j 0 < 4294967296
theorem words_getD {l : List Nat} (h : Words32 l) (j : Nat) : l.getD j 0 < 4294967296 := by
 by_cases hj : j < l.length
 ·exact h j hj
 ·rw [List.getD, List.getElem?_eq_none (by omega)]; simp
theorem wdrop_val (l : List Nat) (k : Nat) : wval (l.drop k) = l.getD k 0 + 4294967296 * wval (l.drop (k + 1)) := by
 by_cases h : k < l.length
 ·rw [List.drop_eq_getElem_cons h, wval]
  simp [List.getD, List.getElem?_eq_getElem h]
 ·have e : l.getD k 0 = 0 := by rw [List.getD, List.getElem?_eq_none (by omega)]; rfl
  rw [e, List.drop_of_length_le (by omega), List.drop_of_length_le (by omega)]
  rfl
theorem words_cons {d : Nat} {r : List Nat} : Words32 (d :: r) ↔ d < 4294967296 ∧ Words32 r := by
 constructor
 ·intro h
  exact ⟨h 0 (by simp), fun j hj => h (j + 1) (by simpa using hj)⟩
 ·rintro ⟨h1, h2⟩ j hj
  cases j with
  | zero => exact h1
  | succ j => exact h2 j (by simpa using hj)
theorem words_drop {l : List Nat} (h : Words32 l) : ∀ k, Words32 (l.drop k) := by
 induction l with
 | nil => intro k; rw [List.drop_nil]; exact h
 | cons d r ih =>
  intro k
  cases k with
  | zero => exact h
  | succ k => rw [List.drop_succ_cons]; exact ih (words_cons.1 h).2 k
theorem wval_lt {l : List Nat} (h : Words32 l) : wval l < 4294967296 ^ l.length := by
 induction l with
 | nil => simp [wval]
 | cons d r ih =>
  have h' := words_cons.1 h
  have := ih h'.2
  rw [wval, List.length_cons, Nat.pow_succ]
  omega
def RowU (w : World) (a : Option Addr) (l : List Nat) : Prop :=
 l ≠ [] → ∃ b o, a = some ⟨b, o, none⟩ ∧ b < w.heap.size ∧ ∀ j, j < l.length → w.cell? ⟨b, o + j, none⟩ = some (.int .u32 ((l.getD j 0 : Nat) : Int))
theorem RowU.below {w w' : World} {a : Option Addr} {l : List Nat} (h : RowU w a l) (hb : Below w.heap.size w w') : RowU w' a l := by
 intro h0
 obtain ⟨b, o, e, hlt, hc⟩ := h h0
 refine ⟨b, o, e, Nat.lt_of_lt_of_le hlt hb.size, fun j hj => ?_⟩
 rw [hb.cell (p := ⟨b, o + j, none⟩) hlt]
 exact hc j hj
theorem cell_keep {w w' : World} {a : Addr} {v : Value} (hb : Below w.heap.size w w') (h : w.cell? a = some v) : w'.cell? a = some v := by
 rw [hb.cell (World.block_lt_of_cell? w a h)]
 exact h
end Go.Proofs.YtnbfnjhbmeocfabGreatDoor.bigs
namespace Go.Proofs.YtnbfnjhbmeocfabGreatDoor.bigs
open Go.RowKit
def wdigG : Nat → Nat → List Nat
 | 0, _ => []
 | f + 1, n => if n = 0 then [] else n % 4294967296 :: wdigG f (n / 4294967296)
theorem wdigG_zero (f : Nat) : wdigG f 0 = [] := by cases f <;> rfl
theorem wdigG_same (n : Nat) : ∀ (f g : Nat), n ≤ f → n ≤ g → wdigG f n = wdigG g n := by
 induction n using Nat.strongRecOn with
 | ind n ih =>
  intro f g hf hg
  by_cases h : n = 0
  ·rw [h, wdigG_zero, wdigG_zero]
  ·obtain ⟨f', rfl⟩ : ∃ f', f = f' + 1 := ⟨f - 1, by omega⟩
   obtain ⟨g', rfl⟩ : ∃ g', g = g' + 1 := ⟨g - 1, by omega⟩
   rw [wdigG, wdigG, if_neg h, if_neg h, ih (n / 4294967296) (by omega) f' g' (by omega) (by omega)]
def wdig (n : Nat) : List Nat := wdigG n n
theorem wdig_zero : wdig 0 = [] := rfl
theorem wdig_pos {n : Nat} (h : n ≠ 0) : wdig n = n % 4294967296 :: wdig (n / 4294967296) := by
 obtain ⟨m, rfl⟩ : ∃ m, n = m + 1 := ⟨n - 1, by omega⟩
 unfold wdig
 rw [wdigG, if_neg h, wdigG_same ((m + 1) / 4294967296) m ((m + 1) / 4294967296) (by omega) (Nat.le_refl _)]
theorem wval_wdig (n : Nat) : wval (wdig n) = n := by
 induction n using Nat.strongRecOn with
 | ind n ih =>
  by_cases h : n = 0
  ·subst h; rw [wdig_zero]; rfl
  ·rw [wdig_pos h, wval, ih _ (by omega)]; omega
theorem infoU : (Tryz.prog.info? 130).map (fun i => (i.zero, i.size, i.bytes)) = some (some (.int .u32 0), 1, 4) := by kernel_rfl
def wrd (n : Nat) : Value := .int .u32 (n : Int)
theorem rowU_own {w : World} {base : Nat} {v : Value} {l : List Nat} (h : w.ownsRow base 130 1 v l.length (l.map wrd)) :
  ∃ a cap, v = .slice a l.length cap ∧ l.length ≤ cap ∧ RowU w a l := by
 have h' := h
 rcases h.2 with ⟨rfl, h0⟩ | ⟨g, cap, cur, rfl, _, hg, hcap, _⟩
 ·have : l = [] := List.eq_nil_of_length_eq_zero h0
  subst this
  exact ⟨none, 0, rfl, by simp, fun h => absurd rfl h⟩
 ·refine ⟨_, cap, rfl, hcap, fun _ => ⟨g, 0, rfl, (Array.getElem?_eq_some_iff.1 hg).1, fun j hj => ?_⟩⟩
  rw [Nat.zero_add, h'.cellAt j (by omega)]
  simp [wrd, List.getD, List.getElem?_eq_getElem hj]
end Go.Proofs.YtnbfnjhbmeocfabGreatDoor.bigs
namespace Go.Proofs.YtnbfnjhbmeocfabGreatDoor.bigs
open Go.RowKit
def bitsG : Nat → Nat → Nat
 | 0, _ => 0
 | f + 1, n => if n = 0 then 0 else bitsG f (n / 2) + 1
theorem bitsG_zero (f : Nat) : bitsG f 0 = 0 := by cases f <;> rfl
theorem bitsG_same (n : Nat) : ∀ (f g : Nat), n ≤ f → n ≤ g → bitsG f n = bitsG g n := by
 induction n using Nat.strongRecOn with
 | ind n ih =>
  intro f g hf hg
  by_cases h : n = 0
  ·rw [h, bitsG_zero, bitsG_zero]
  ·obtain ⟨f', rfl⟩ : ∃ f', f = f' + 1 := ⟨f - 1, by omega⟩
   obtain ⟨g', rfl⟩ : ∃ g', g = g' + 1 := ⟨g - 1, by omega⟩
   rw [bitsG, bitsG, if_neg h, if_neg h, ih (n / 2) (by omega) f' g' (by omega) (by omega)]
def bits (n : Nat) : Nat := bitsG n n
theorem bits_zero : bits 0 = 0 := rfl
theorem bits_pos {n : Nat} (h : n ≠ 0) : bits n = bits (n / 2) + 1 := by
 obtain ⟨m, rfl⟩ : ∃ m, n = m + 1 := ⟨n - 1, by omega⟩
 unfold bits
 rw [bitsG, if_neg h, bitsG_same ((m + 1) / 2) m ((m + 1) / 2) (by omega) (Nat.le_refl _)]
theorem bits_le {n k : Nat} (h : n < 2 ^ k) : bits n ≤ k := by
 induction k generalizing n with
 | zero =>
  have : n = 0 := by simpa using h
  subst this
  rw [bits_zero]
  exact Nat.le_refl _
 | succ k ih =>
  by_cases h0 : n = 0
  ·subst h0; rw [bits_zero]; omega
  ·rw [bits_pos h0]
   have : n / 2 < 2 ^ k := by rw [Nat.pow_succ] at h; omega
   have := ih this
   omega
end Go.Proofs.YtnbfnjhbmeocfabGreatDoor.bigs
namespace Go.Proofs.YtnbfnjhbmeocfabGreatDoor.bigs
open Go.RowKit
def dec (l : List UInt8) : Nat := l.foldl (fun a b => a * 10 + (b.toNat - 48)) 0
def Dig10 (l : List UInt8) : Prop := ∀ b ∈ l, 48 ≤ b.toNat ∧ b.toNat ≤ 57
theorem dec_from (l : List UInt8) : ∀ a, l.foldl (fun a b => a * 10 + (b.toNat - 48)) a = a * 10 ^ l.length + dec l := by
 induction l with
 | nil => intro a; simp [dec]
 | cons x l ih =>
  intro a
  have e : dec (x :: l) = (0 * 10 + (x.toNat - 48)) * 10 ^ l.length + dec l := by rw [← ih]; rfl
  rw [List.foldl_cons, ih, e, List.length_cons, Nat.pow_succ]
  simp only [Nat.zero_mul, Nat.zero_add, Nat.add_mul]
  have : a * 10 * 10 ^ l.length = a * (10 ^ l.length * 10) := by rw [Nat.mul_assoc, Nat.mul_comm 10]
  omega
theorem dec_append (a b : List UInt8) : dec (a ++ b) = dec a * 10 ^ b.length + dec b := by
 unfold dec
 rw [List.foldl_append, dec_from b]
 rfl
theorem dec_one (b : UInt8) : dec [b] = b.toNat - 48 := by simp [dec]
theorem dec_snoc (a : List UInt8) (b : UInt8) : dec (a ++ [b]) = dec a * 10 + (b.toNat - 48) := by rw [dec_append, dec_one]; simp
theorem dec_cons (b : UInt8) (l : List UInt8) : dec (b :: l) = (b.toNat - 48) * 10 ^ l.length + dec l := by
 have := dec_append [b] l
 rwa [List.singleton_append, dec_one] at this
theorem dec_lt {l : List UInt8} (h : Dig10 l) : dec l < 10 ^ l.length := by
 induction l with
 | nil => simp [dec]
 | cons x l ih =>
  have h1 := ih fun b hb => h b (List.mem_cons_of_mem _ hb)
  have h2 := h x List.mem_cons_self
  rw [dec_cons, List.length_cons, Nat.pow_succ]
  have h3 : (x.toNat - 48) * 10 ^ l.length ≤ 9 * 10 ^ l.length := Nat.mul_le_mul_right _ (by omega)
  omega
theorem dig10_take {l : List UInt8} (h : Dig10 l) (k : Nat) : Dig10 (l.take k) := fun b hb => h b (List.mem_of_mem_take hb)
theorem dig10_drop {l : List UInt8} (h : Dig10 l) (k : Nat) : Dig10 (l.drop k) := fun b hb => h b (List.mem_of_mem_drop hb)
theorem blen_list (s : ByteArray) : s.data.toList.length = s.size := by rw [Array.length_toList]; rfl
end Go.Proofs.YtnbfnjhbmeocfabGreatDoor.bigs
