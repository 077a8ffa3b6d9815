/- Parts of a change in memory. -/
import Derived.Test.YteajpkoghlbneaaProg
import Derived.Test.YteajpkoghlbneaaSplWrite
import Derived.WalkKit
import Derived.WalkSmall
import Derived.OwnWalk
import Derived.BigCall
import Derived.Maps.AppendAt
import Derived.Deep.AppendLies
import Derived.Laws.OwnMore
import Derived.Below
import Derived.Deep.QuietTactic
import Derived.BigQuiet
import Derived.BigRegion
import Derived.Deep.CutRange
import Derived.Deep.RegionWith
import Derived.KernelRfl
set_option linter.unusedVariables false
namespace Go.Proofs.Yteajpkoghlbneaa.spls
open Go.RowKit

theorem hide {p : Prop} (h : p) : Hid p := h
theorem unhide {p : Prop} (h : Hid p) : p := h
theorem len_list (s : ByteArray) : s.data.toList.length = s.size := by rw [Array.length_toList]; rfl
theorem ext_list (s : ByteArray) (a b : Nat) : (s.extract a b).data.toList = (s.data.toList.take b).drop a := by
  rw [ByteArray.data_extract, Array.toList_extract, List.extract_eq_take_drop, List.drop_take]
theorem ext_drop (s : ByteArray) (k : Nat) : (s.extract k s.size).data.toList = s.data.toList.drop k := by
  rw [ext_list, ← len_list s, List.take_length]
theorem ext_take (s : ByteArray) (k : Nat) : (s.extract 0 k).data.toList = s.data.toList.take k := by
  rw [ext_list, List.drop_zero]
theorem size_mk (x : List UInt8) : (⟨x.toArray⟩ : ByteArray).size = x.length := by simp [ByteArray.size]
theorem mk_list (s : ByteArray) : (⟨s.data.toList.toArray⟩ : ByteArray) = s := by simp
theorem isEmptyNo (t : ByteArray) (h : 0 < t.size) : t.toList.isEmpty = false := by
  rw [ByteArray.toList_eq]
  cases hl : t.data.toList with
  | nil => have := len_list t; rw [hl] at this; simp at this; omega
  | cons a l => rfl
theorem isEmptyYes (t : ByteArray) (h : t.size = 0) : t.toList.isEmpty = true := by
  rw [ByteArray.toList_eq]
  cases hl : t.data.toList with
  | nil => rfl
  | cons a l => have := len_list t; rw [hl] at this; simp at this; omega

def Blk (w : World) (b : Nat) (cs : Array Value) (t : Nat) : Prop := w.heap[b]? = some (.cells cs t)
theorem Blk.lt {w : World} {b : Nat} {cs : Array Value} {t : Nat} (h : Blk w b cs t) : b < w.heap.size := by
  unfold Blk at h
  exact (Array.getElem?_eq_some_iff.1 h).1
theorem Blk.below {w w' : World} {b n : Nat} {cs : Array Value} {t : Nat} (h : Blk w b cs t) (hb : Below n w w') (hn : b < n) : Blk w' b cs t := by
  have := hb.block b hn
  unfold Blk at *
  rw [this, h]
theorem blk_alloc (w : World) (cs : Array Value) (t : Nat) : Blk (w.alloc (.cells cs t)) w.heap.size cs t := by
  show (w.heap.push _)[w.heap.size]? = _
  simp
theorem Blk.cell {w : World} {b : Nat} {cs : Array Value} {t : Nat} (h : Blk w b cs t) (j : Nat) (v : Value) (hj : cs[j]? = some v) : w.cell? ⟨b, j, none⟩ = some v := by
  unfold Blk at h
  simp only [World.cell?, h]
  exact hj
theorem Blk.froz {w : World} {b : Nat} {cs : Array Value} {t : Nat} (h : Blk w b cs t) (j : Nat) : w.frozen? ⟨b, j, none⟩ = false := by
  unfold Blk at h
  simp [World.frozen?, h]
theorem Blk.set {w : World} {b : Nat} {cs : Array Value} {t : Nat} (h : Blk w b cs t) (j : Nat) (v : Value) : Blk (w.setCell ⟨b, j, none⟩ v) b (cs.setIfInBounds j v) t := by
  unfold Blk at *
  simp only [World.setCell, Array.getElem?_modify, h]
  simp
theorem Blk.set_other {w : World} {b : Nat} {cs : Array Value} {t : Nat} (h : Blk w b cs t) (p : Addr) (v : Value) (hp : b ≠ p.block) : Blk (w.setCell p v) b cs t := by
  unfold Blk at *
  rw [Below.heap_setCell _ _ _ _ hp, h]
theorem Blk.alloc {w : World} {b : Nat} {cs : Array Value} {t : Nat} (h : Blk w b cs t) (o : Obj) : Blk (w.alloc o) b cs t := by
  unfold Blk at *
  rw [Below.heap_alloc _ _ _ (Blk.lt h), h]

/-- Whole numbers and texts of the machine. -/
def rng (x : Pt) : Prop := (-9223372036854775808 ≤ x.1 ∧ x.1 ≤ 9223372036854775807) ∧ (-9223372036854775808 ≤ x.2.1 ∧ x.2.1 ≤ 9223372036854775807) ∧ x.2.2.length ≤ 9223372036854775807
def ptC (x : Pt) : List Value := [.int .i64 x.1, .int .i64 x.2.1, .string ⟨x.2.2.toArray⟩]
/-- The three cells of a part at a place. -/
def At3 (w : World) (B o : Nat) (x : Pt) : Prop := w.cell? ⟨B, o, none⟩ = some (.int .i64 x.1) ∧ w.cell? ⟨B, o + 1, none⟩ = some (.int .i64 x.2.1) ∧ w.cell? ⟨B, o + 2, none⟩ = some (.string ⟨x.2.2.toArray⟩)
/-- A row of parts. -/
def LiesQ (w : World) (p : Option Addr) (L : List Pt) : Prop :=
  L.length ≠ 0 → ∃ B o, p = some ⟨B, o, none⟩ ∧ B < w.heap.size ∧ ∀ j x, L[j]? = some x → rng x ∧ At3 w B (o + j * 3) x
theorem At3.below {w w' : World} {B o n : Nat} {x : Pt} (h : At3 w B o x) (hb : Below n w w') (hn : B < n) : At3 w' B o x :=
  ⟨(hb.cell (p := ⟨B, o, none⟩) hn).trans h.1, (hb.cell (p := ⟨B, o + 1, none⟩) hn).trans h.2.1, (hb.cell (p := ⟨B, o + 2, none⟩) hn).trans h.2.2⟩
theorem LiesQ.below {w w' : World} {p : Option Addr} {L : List Pt} {n : Nat} (h : LiesQ w p L) (hb : Below n w w') (hn : ∀ B o, p = some ⟨B, o, none⟩ → L.length ≠ 0 → B < n) : LiesQ w' p L := by
  intro hP
  obtain ⟨B, o, e, hB, hc⟩ := h hP
  exact ⟨B, o, e, Nat.lt_of_lt_of_le hB hb.size, fun j x hx => ⟨(hc j x hx).1, (hc j x hx).2.below hb (hn B o e hP)⟩⟩
theorem LiesQ.keep {w w' : World} {p : Option Addr} {L : List Pt} (h : LiesQ w p L) (hb : Below w.heap.size w w') : LiesQ w' p L := by
  refine h.below hb fun B o e hP => ?_
  obtain ⟨B', o', e', hB, _⟩ := h hP
  rw [e'] at e
  injection e with e
  injection e with e
  omega
theorem LiesQ.at {w : World} {p : Option Addr} {L : List Pt} (h : LiesQ w p L) {j : Nat} (hj : j < L.length) : ∃ B o, p = some ⟨B, o, none⟩ ∧ B < w.heap.size ∧ rng L[j] ∧ At3 w B (o + j * 3) L[j] := by
  obtain ⟨B, o, e, hB, hc⟩ := h (by omega)
  exact ⟨B, o, e, hB, hc j _ (List.getElem?_eq_getElem hj)⟩
theorem LiesQ.nil (w : World) (p : Option Addr) : LiesQ w p [] := fun h => absurd rfl h
theorem infoPart : (Try.prog.info? 46).map (fun i => (i.zero, i.size, i.bytes)) = some (some (.agg #[.int .i64 0, .int .i64 0, .string ⟨#[]⟩]), 3, 32) := by kernel_rfl
theorem infoB : (Try.prog.info? 5).map (fun i => (i.zero, i.size, i.bytes)) = some (some (.int .u8 0), 1, 1) := by kernel_rfl
theorem pt_get : ∀ (l : List Pt) (j : Nat) (h : j < l.length), (l.flatMap ptC)[j * 3]? = some (.int .i64 l[j].1) ∧ (l.flatMap ptC)[j * 3 + 1]? = some (.int .i64 l[j].2.1) ∧ (l.flatMap ptC)[j * 3 + 2]? = some (.string ⟨l[j].2.2.toArray⟩)
  | [], j, h => absurd h (Nat.not_lt_zero _)
  | t :: l, 0, h => by simp [ptC]
  | t :: l, j + 1, h => by
    have ih := pt_get l j (by simpa using h)
    have e : ∀ r, ((t :: l).flatMap ptC)[(j + 1) * 3 + r]? = (l.flatMap ptC)[j * 3 + r]? := fun r => by
      rw [List.flatMap_cons, List.getElem?_append_right (by simp [ptC]; omega)]
      congr 1
      simp [ptC]
      omega
    have e0 := e 0
    rw [Nat.add_zero, Nat.add_zero] at e0
    rw [e0, e 1, e 2]
    exact ih
theorem pt_len : ∀ l : List Pt, (l.flatMap ptC).length = l.length * 3
  | [] => rfl
  | x :: l => by
    rw [List.flatMap_cons, List.length_append, pt_len l, List.length_cons]
    show 3 + _ = _
    omega
theorem pt_one (L : List Pt) : ∀ u ∈ L.flatMap ptC, u.oneCell' = true := fun u hu => by
  obtain ⟨x, _, hu⟩ := List.mem_flatMap.1 hu
  simp only [ptC, List.mem_cons, List.not_mem_nil, or_false] at hu
  rcases hu with rfl | rfl | rfl <;> rfl
/-- A row of parts of one's own. -/
abbrev OwnP (w : World) (base : Nat) (v : Value) (L : List Pt) : Prop := w.ownsRow base 46 3 v L.length (L.flatMap ptC)
theorem OwnP.lies {w : World} {base : Nat} {v : Value} {L : List Pt} (h : OwnP w base v L) (hr : ∀ x ∈ L, rng x) : ∃ p c, v = .slice p L.length c ∧ L.length ≤ c ∧ c ≤ maxLen ∧ LiesQ w p L ∧ (∀ B o, p = some ⟨B, o, none⟩ → base ≤ B) := by
  have h' := h
  rcases h.2 with ⟨rfl, h0⟩ | ⟨g, cap, cur, rfl, hb, hg, hcap, hm, _⟩
  · have : L = [] := List.eq_nil_of_length_eq_zero h0
    subst this
    exact ⟨none, 0, rfl, by simp, Nat.zero_le _, LiesQ.nil _ _, fun B o e => by cases e⟩
  · refine ⟨_, cap, rfl, hcap, hm, fun _ => ⟨g, 0, rfl, (Array.getElem?_eq_some_iff.1 hg).1, fun j x hx => ?_⟩, fun B o e => by injection e with e; injection e with e; omega⟩
    obtain ⟨hj, hx⟩ := List.getElem?_eq_some_iff.1 hx
    subst hx
    obtain ⟨g0, g1, g2⟩ := pt_get L j hj
    refine ⟨hr _ (List.getElem_mem hj), ?_, ?_, ?_⟩
    · rw [Nat.zero_add, h'.cellAt (j * 3) (by omega)]
      exact g0
    · rw [Nat.zero_add, h'.cellAt (j * 3 + 1) (by omega)]
      exact g1
    · rw [Nat.zero_add, h'.cellAt (j * 3 + 2) (by omega)]
      exact g2
/-- Right parts in few bytes are of the machine. -/
theorem chkP_rng {p : Pt} (h : chkP p = 0) : rng p := by
  rcases chkP_ok h with ⟨a, b, c, d⟩ | ⟨a, b, c, d⟩ | ⟨a, b, c⟩
  · exact ⟨by omega, by omega, by rw [d]; exact Nat.zero_le _⟩
  · exact ⟨by omega, by omega, by rw [d]; exact Nat.zero_le _⟩
  · exact ⟨by omega, by omega, by omega⟩
/-- All but the blocks of X stands. -/
structure Chg (X : Nat → Prop) (w w' : World) : Prop where
  os : w'.os = w.os
  tape : w'.tape = w.tape
  output : w'.output = w.output
  size : w.heap.size ≤ w'.heap.size
  block : ∀ b, b < w.heap.size → ¬ X b → w'.heap[b]? = w.heap[b]?
/-- X and what is new. -/
def wid (X : Nat → Prop) (w w' : World) (b : Nat) : Prop := X b ∨ (w.heap.size ≤ b ∧ b < w'.heap.size)
theorem Chg.refl (X : Nat → Prop) (w : World) : Chg X w w := ⟨rfl, rfl, rfl, Nat.le_refl _, fun _ _ _ => rfl⟩
theorem Chg.trans {X : Nat → Prop} {a b c : World} (h : Chg X a b) (k : Chg (wid X a b) b c) : Chg X a c :=
  ⟨k.os.trans h.os, k.tape.trans h.tape, k.output.trans h.output, Nat.le_trans h.size k.size, fun q hq hn => (k.block q (Nat.lt_of_lt_of_le hq h.size) (fun e => e.elim hn (fun e => by omega))).trans (h.block q hq hn)⟩
theorem Chg.mono {X Y : Nat → Prop} {a b : World} (h : Chg X a b) (hm : ∀ q, q < a.heap.size → X q → Y q) : Chg Y a b :=
  ⟨h.os, h.tape, h.output, h.size, fun q hq hn => h.block q hq (fun e => hn (hm q hq e))⟩
theorem Chg.below {X : Nat → Prop} {a b : World} {n : Nat} (h : Chg X a b) (hX : ∀ q, X q → n ≤ q) (hn : n ≤ a.heap.size) : Below n a b :=
  ⟨h.os, h.tape, h.output, h.size, fun q hq => h.block q (by omega) (fun e => by have := hX q e; omega)⟩
theorem Chg.of_below {a b : World} (h : Below a.heap.size a b) (X : Nat → Prop) : Chg X a b := ⟨h.os, h.tape, h.output, h.size, fun q hq _ => h.block q hq⟩
theorem Chg.of_grown {a b : World} {X : Nat → Prop} {r : Option Nat} (h : a.grownBy b r) (hr : ∀ g, r = some g → X g) : Chg X a b := ⟨h.os, h.tape, h.output, h.size, fun q hq hn => h.block q hq (fun e => hn (hr q e.symm))⟩
theorem Chg.set {X : Nat → Prop} {a b : World} (h : Chg X a b) {B : Nat} (hB : X B ∨ a.heap.size ≤ B) (j : Nat) (v : Value) : Chg X a (b.setCell ⟨B, j, none⟩ v) :=
  ⟨h.os, h.tape, h.output, by simpa [World.setCell] using h.size, fun q hq hn => (Below.heap_setCell _ _ _ _ (fun e => hB.elim (fun hx => hn (by rw [e]; exact hx)) (fun hx => by have e' : q = B := e; omega))).trans (h.block q hq hn)⟩
theorem Chg.alloc {X : Nat → Prop} {a b : World} (h : Chg X a b) (o : Obj) : Chg X a (b.alloc o) :=
  ⟨h.os, h.tape, h.output, Nat.le_trans h.size (by simp), fun q hq hn => (Below.heap_alloc _ _ _ (Nat.lt_of_lt_of_le hq h.size)).trans (h.block q hq hn)⟩
theorem Blk.chg {X : Nat → Prop} {w w' : World} {b : Nat} {cs : Array Value} {t : Nat} (h : Blk w b cs t) (hc : Chg X w w') (hn : ¬ X b) : Blk w' b cs t := by
  have := hc.block b h.lt hn
  unfold Blk at *
  rw [this, h]
theorem own_chg {X : Nat → Prop} {w w' : World} {base e d n : Nat} {v : Value} {xs : List Value} (h : w.ownsRow base e d v n xs) (hc : Chg X w w') (hn : ∀ g, v.ownBlock = some g → ¬ X g) : w'.ownsRow base e d v n xs := by
  rcases h with ⟨h1, h2⟩
  refine ⟨h1, ?_⟩
  rcases h2 with h2 | ⟨g, cap, cur, hv, hb, hg, hr⟩
  · exact .inl h2
  · exact .inr ⟨g, cap, cur, hv, hb, (hc.block g (Array.getElem?_eq_some_iff.1 hg).1 (hn g (by rw [hv]; rfl))).trans hg, hr⟩
end Go.Proofs.Yteajpkoghlbneaa.spls
