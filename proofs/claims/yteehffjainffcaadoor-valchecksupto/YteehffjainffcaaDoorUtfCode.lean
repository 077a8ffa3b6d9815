/- The document's Code: plain facts on its classes of bytes, and its walk. -/
import Derived.Test.YteehffjainffcaaDoorUtfRef
set_option linter.unusedVariables false
namespace Go.Proofs.YteehffjainffcaaDoor.utfs
open Go.RowKit

theorem next_bad {l : List UInt8} (h0 : l ≠ []) (h : Lib.decodeL l = (65533, 1)) : nextR l = -1 ∧ nextN l = 1 := by
  have hb : badB l = true := decide_eq_true (by rw [h]; exact ⟨rfl, rfl⟩)
  exact ⟨by simp [nextR, h0, hb], by simp [nextN, h0, h]⟩
theorem next_good {l : List UInt8} {v : Int} {n : Nat} (h0 : l ≠ []) (h : Lib.decodeL l = (v.toNat, n)) (hv : 0 ≤ v) (hn : n = 1 → v < 128) : nextR l = v ∧ nextN l = n := by
  have hb : badB l = false := decide_eq_false (by rw [h]; simp only; omega)
  refine ⟨?_, by simp [nextN, h0, h]⟩
  simp only [nextR, h0, if_false, hb]
  rw [h]
  simp only [Bool.false_eq_true, if_false]
  omega

/-- the i-th byte -/
def byt (l : List UInt8) (i : Nat) : Nat := (l.getD i 0).toNat
theorem by_lt (l : List UInt8) (i : Nat) : byt l i < 256 := UInt8.toNat_lt _
theorem dec_by (l : List UInt8) : Lib.decodeL l = Lib.decodeN l.length (byt l 0) (byt l 1) (byt l 2) (byt l 3) := Lib.decodeL_N l
/-- the number that is made of the first k bytes -/
def val (l : List UInt8) (lead : Int) : Nat → Int
  | 0 => 0
  | 1 => (byt l 0 : Int) - lead
  | k + 2 => val l lead (k + 1) * 64 + (byt l (k + 1) : Int) - 128
def cont (l : List UInt8) (j : Nat) : Prop := 128 ≤ byt l j ∧ byt l j < 192
theorem val_two (l : List UInt8) (a : Int) : val l a 2 = (((byt l 0 : Nat) : Int) - a) * 64 + (byt l 1 : Int) - 128 := rfl
theorem val_three (l : List UInt8) (a : Int) : val l a 3 = ((((byt l 0 : Nat) : Int) - a) * 64 + (byt l 1 : Int) - 128) * 64 + (byt l 2 : Int) - 128 := rfl
theorem val_four (l : List UInt8) (a : Int) : val l a 4 = (((((byt l 0 : Nat) : Int) - a) * 64 + (byt l 1 : Int) - 128) * 64 + (byt l 2 : Int) - 128) * 64 + (byt l 3 : Int) - 128 := rfl

theorem class1 (l : List UInt8) (h0 : l ≠ []) (h : byt l 0 < 128) : nextR l = (byt l 0 : Int) ∧ nextN l = 1 := by
  refine next_good h0 ?_ (by omega) (fun _ => by omega)
  rw [dec_by]; unfold Lib.decodeN
  rw [if_pos h]
  simp
theorem class0 (l : List UInt8) (h0 : l ≠ []) (h : (128 ≤ byt l 0 ∧ byt l 0 < 192) ∨ 248 ≤ byt l 0) : nextR l = -1 ∧ nextN l = 1 := by
  have hb := by_lt l 0
  refine next_bad h0 ?_
  rw [dec_by]; unfold Lib.decodeN
  rw [if_neg (by omega), if_neg (by omega), if_neg (by omega), if_neg (by omega)]
theorem class2_bad (l : List UInt8) (h0 : l ≠ []) (h : 192 ≤ byt l 0 ∧ byt l 0 < 224) (hx : l.length < 2 ∨ ¬ cont l 1) : nextR l = -1 ∧ nextN l = 1 := by
  have hb := by_lt l 1
  unfold cont at hx
  refine next_bad h0 ?_
  rw [dec_by]; unfold Lib.decodeN
  rw [if_neg (by omega), if_neg (by omega), if_neg (by omega), if_neg (by omega)]
theorem class3_bad (l : List UInt8) (h0 : l ≠ []) (h : 224 ≤ byt l 0 ∧ byt l 0 < 240) (hx : l.length < 3 ∨ ¬ cont l 1 ∨ ¬ cont l 2) : nextR l = -1 ∧ nextN l = 1 := by
  have hb := by_lt l 1
  have hb2 := by_lt l 2
  unfold cont at hx
  refine next_bad h0 ?_
  rw [dec_by]; unfold Lib.decodeN
  rw [if_neg (by omega), if_neg (by omega), if_neg (by omega), if_neg (by omega)]
theorem class4_bad (l : List UInt8) (h0 : l ≠ []) (h : 240 ≤ byt l 0 ∧ byt l 0 < 248) (hx : l.length < 4 ∨ ¬ cont l 1 ∨ ¬ cont l 2 ∨ ¬ cont l 3) : nextR l = -1 ∧ nextN l = 1 := by
  have hb := by_lt l 1
  have hb2 := by_lt l 2
  have hb3 := by_lt l 3
  unfold cont at hx
  refine next_bad h0 ?_
  rw [dec_by]; unfold Lib.decodeN
  rw [if_neg (by omega), if_neg (by omega), if_neg (by omega), if_neg (by omega)]
theorem class2 (l : List UInt8) (h0 : l ≠ []) (h : 192 ≤ byt l 0 ∧ byt l 0 < 224) (hl : 2 ≤ l.length) (c1 : cont l 1) :
    (128 ≤ val l 192 2 ∧ sc (val l 192 2) = true → nextR l = val l 192 2 ∧ nextN l = 2) ∧ ((val l 192 2 < 128 ∨ sc (val l 192 2) = false) → nextR l = -1 ∧ nextN l = 1) := by
  unfold cont at c1
  rw [val_two]
  refine ⟨fun ⟨a, b⟩ => ?_, fun a => ?_⟩
  · have s := sc_true b
    refine next_good h0 ?_ (by omega) (fun h => by cases h)
    rw [dec_by]; unfold Lib.decodeN
    rw [if_neg (by omega), if_pos (by omega), if_pos (by omega)]
    apply Prod.ext <;> simp only <;> omega
  · refine next_bad h0 ?_
    have s : ((((byt l 0 : Nat) : Int) - 192) * 64 + (byt l 1 : Int) - 128) < 128 := by
      rcases a with a | a
      · exact a
      · have := sc_false a; omega
    rw [dec_by]; unfold Lib.decodeN
    rw [if_neg (by omega), if_pos (by omega), if_neg (by omega)]
theorem class3 (l : List UInt8) (h0 : l ≠ []) (h : 224 ≤ byt l 0 ∧ byt l 0 < 240) (hl : 3 ≤ l.length) (c1 : cont l 1) (c2 : cont l 2) :
    (2048 ≤ val l 224 3 ∧ sc (val l 224 3) = true → nextR l = val l 224 3 ∧ nextN l = 3) ∧ ((val l 224 3 < 2048 ∨ sc (val l 224 3) = false) → nextR l = -1 ∧ nextN l = 1) := by
  unfold cont at c1 c2
  rw [val_three]
  refine ⟨fun ⟨a, b⟩ => ?_, fun a => ?_⟩
  · have s := sc_true b
    refine next_good h0 ?_ (by omega) (fun h => by cases h)
    rw [dec_by]; unfold Lib.decodeN
    rw [if_neg (by omega), if_neg (by omega), if_pos (by omega), if_pos (by omega)]
    apply Prod.ext <;> simp only <;> omega
  · refine next_bad h0 ?_
    have s : (((((byt l 0 : Nat) : Int) - 224) * 64 + (byt l 1 : Int) - 128) * 64 + (byt l 2 : Int) - 128) < 2048 ∨ (55296 ≤ (((((byt l 0 : Nat) : Int) - 224) * 64 + (byt l 1 : Int) - 128) * 64 + (byt l 2 : Int) - 128) ∧ (((((byt l 0 : Nat) : Int) - 224) * 64 + (byt l 1 : Int) - 128) * 64 + (byt l 2 : Int) - 128) ≤ 57343) := by
      rcases a with a | a
      · exact .inl a
      · have := sc_false a; omega
    rw [dec_by]; unfold Lib.decodeN
    rw [if_neg (by omega), if_neg (by omega), if_pos (by omega), if_neg (by omega)]
theorem class4 (l : List UInt8) (h0 : l ≠ []) (h : 240 ≤ byt l 0 ∧ byt l 0 < 248) (hl : 4 ≤ l.length) (c1 : cont l 1) (c2 : cont l 2) (c3 : cont l 3) :
    (65536 ≤ val l 240 4 ∧ sc (val l 240 4) = true → nextR l = val l 240 4 ∧ nextN l = 4) ∧ ((val l 240 4 < 65536 ∨ sc (val l 240 4) = false) → nextR l = -1 ∧ nextN l = 1) := by
  unfold cont at c1 c2 c3
  rw [val_four]
  refine ⟨fun ⟨a, b⟩ => ?_, fun a => ?_⟩
  · have s := sc_true b
    refine next_good h0 ?_ (by omega) (fun h => by cases h)
    rw [dec_by]; unfold Lib.decodeN
    rw [if_neg (by omega), if_neg (by omega), if_neg (by omega), if_pos (by omega), if_pos (by omega)]
    apply Prod.ext <;> simp only <;> omega
  · refine next_bad h0 ?_
    have s : ((((((byt l 0 : Nat) : Int) - 240) * 64 + (byt l 1 : Int) - 128) * 64 + (byt l 2 : Int) - 128) * 64 + (byt l 3 : Int) - 128) < 65536 ∨ 1114111 < ((((((byt l 0 : Nat) : Int) - 240) * 64 + (byt l 1 : Int) - 128) * 64 + (byt l 2 : Int) - 128) * 64 + (byt l 3 : Int) - 128) := by
      rcases a with a | a
      · exact .inl a
      · have := sc_false a; omega
    rw [dec_by]; unfold Lib.decodeN
    rw [if_neg (by omega), if_neg (by omega), if_neg (by omega), if_pos (by omega), if_neg (by omega)]

theorem by_get (s : ByteArray) (i : Nat) (h : i < s.size) : byt s.data.toList i = (s[i]'h).toNat := by
  unfold byt
  have : s.data.toList.getD i 0 = s[i]'h := by
    have h' : i < s.data.toList.length := by rw [len_list]; exact h
    rw [List.getD_eq_getElem?_getD, List.getElem?_eq_getElem h']
    simp
    rfl
  rw [this]

theorem not_empty (s : ByteArray) (h : 0 < s.size) : s.toList.isEmpty = false := by
  rw [ByteArray.toList_eq, List.isEmpty_eq_false_iff]
  intro e
  have := congrArg List.length e
  rw [len_list] at this
  simp only [List.length_nil] at this
  omega
theorem is_empty (s : ByteArray) (h : s.size = 0) : s.toList.isEmpty = true := by
  rw [ByteArray.toList_eq, List.isEmpty_iff]
  apply List.eq_nil_of_length_eq_zero
  rw [len_list]; exact h
theorem list_ne (s : ByteArray) (h : 0 < s.size) : s.data.toList ≠ [] := by
  intro e
  have := congrArg List.length e
  rw [len_list] at this
  simp only [List.length_nil] at this
  omega

theorem val_succ (l : List UInt8) (a : Int) (k : Nat) (hk : 1 ≤ k) : val l a (k + 1) = val l a k * 64 + (byt l k : Int) - 128 := by
  obtain ⟨m, rfl⟩ : ∃ m, k = m + 1 := ⟨k - 1, by omega⟩
  rfl
theorem val_bound (l : List UInt8) (a : Int) (h0 : a ≤ (byt l 0 : Int)) (h1 : (byt l 0 : Int) < a + 32) : ∀ k, 1 ≤ k → k ≤ 4 → (∀ j, 1 ≤ j → j < k → cont l j) → 0 ≤ val l a k ∧ val l a k ≤ 8388607 := by
  intro k hk h4 hc
  have v1 : val l a 1 = (byt l 0 : Int) - a := rfl
  match k, hk, h4, hc with
  | 1, _, _, _ => rw [v1]; omega
  | 2, _, _, hc => have c1 := hc 1 (by omega) (by omega); unfold cont at c1; rw [val_two]; omega
  | 3, _, _, hc => have c1 := hc 1 (by omega) (by omega); have c2 := hc 2 (by omega) (by omega); unfold cont at c1 c2; rw [val_three]; omega
  | 4, _, _, hc => have c1 := hc 1 (by omega) (by omega); have c2 := hc 2 (by omega) (by omega); have c3 := hc 3 (by omega) (by omega); unfold cont at c1 c2 c3; rw [val_four]; omega

set_option maxHeartbeats 400000 in
set_option maxRecDepth 100000 in
theorem code_one (s : ByteArray) (w : World) (hs : s.size ≤ 9223372036854775807) (h0 : 0 < s.size) (hb : byt s.data.toList 0 < 128) :
    Calls Tryd.prog 24 #[.string s] w fun e w' => e = .returned (.tuple #[.int .i32 (byt s.data.toList 0), .int .i64 1]) ∧ Below w.heap.size w w' := by
  have h255 := by_lt s.data.toList 0
  rw [by_get s 0 h0] at *
  have hne : s.toList.isEmpty = false := not_empty s h0
  go_enter Tryd.func24, Tryd.ntmps24
  go_wp2
  go_region
  go_wp2
  go_ret2
  exact ⟨rfl, (Below.refl _ w).drew⟩

set_option maxHeartbeats 400000 in
set_option maxRecDepth 100000 in
theorem code_lowbad (s : ByteArray) (w : World) (hs : s.size ≤ 9223372036854775807) (h0 : 0 < s.size) (hb : 128 ≤ byt s.data.toList 0 ∧ byt s.data.toList 0 < 192) :
    Calls Tryd.prog 24 #[.string s] w fun e w' => e = .returned (.tuple #[.int .i32 (-1), .int .i64 1]) ∧ Below w.heap.size w w' := by
  have h255 := by_lt s.data.toList 0
  rw [by_get s 0 h0] at *
  have hne : s.toList.isEmpty = false := not_empty s h0
  go_enter Tryd.func24, Tryd.ntmps24
  go_wp2
  go_region
  go_wp2
  go_ret2
  exact ⟨rfl, (Below.refl _ w).drew⟩

set_option maxHeartbeats 400000 in
set_option maxRecDepth 100000 in
theorem code_highbad (s : ByteArray) (w : World) (hs : s.size ≤ 9223372036854775807) (h0 : 0 < s.size) (hb : 248 ≤ byt s.data.toList 0) :
    Calls Tryd.prog 24 #[.string s] w fun e w' => e = .returned (.tuple #[.int .i32 (-1), .int .i64 1]) ∧ Below w.heap.size w w' := by
  have h255 := by_lt s.data.toList 0
  rw [by_get s 0 h0] at *
  have hne : s.toList.isEmpty = false := not_empty s h0
  go_enter Tryd.func24, Tryd.ntmps24
  go_wp2
  go_region
  go_wp2
  go_ret2
  exact ⟨rfl, (Below.refl _ w).drew⟩

set_option maxHeartbeats 400000 in
theorem code_empty (s : ByteArray) (w : World) (h0 : s.size = 0) :
    Calls Tryd.prog 24 #[.string s] w fun e w' => e = .returned (.tuple #[.int .i32 (-1), .int .i64 0]) ∧ Below w.heap.size w w' := by
  have hne : s.toList.isEmpty = true := is_empty s h0
  clear h0
  go_enter Tryd.func24, Tryd.ntmps24
  go_wp2
  go_ret2
  exact ⟨rfl, Below.refl _ w⟩

end Go.Proofs.YteehffjainffcaaDoor.utfs
