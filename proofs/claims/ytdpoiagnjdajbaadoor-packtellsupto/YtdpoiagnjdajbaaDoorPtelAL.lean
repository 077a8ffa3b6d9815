/- The walks of the document's Scalar, CodeOf. -/
import Derived.Test.YtdpoiagnjdajbaaDoorPtelAK
import Derived.WalkSmall
import Derived.OwnWalk
set_option linter.unusedVariables false
namespace Go.Proofs.YtdpoiagnjdajbaaDoor.utfs
open Go.RowKit

set_option maxHeartbeats 400000 in
theorem scalar_any (n : Int) (w : World) : Calls Tryd.prog 86 #[.int .i64 n] w fun e w' => e = .returned (.bool (sc n)) ∧ w' = w := by
  have key : ∀ b : Bool, sc n = b → Calls Tryd.prog 86 #[.int .i64 n] w (fun e w' => e = .returned (.bool b) ∧ w' = w) → Calls Tryd.prog 86 #[.int .i64 n] w (fun e w' => e = .returned (.bool (sc n)) ∧ w' = w) := fun b e h => by rw [e]; exact h
  by_cases h0 : 0 ≤ n
  · have t0 : decide (0 ≤ n) = true := decide_eq_true h0
    by_cases h1 : n ≤ 1114111
    · have t1 : decide (n ≤ 1114111) = true := decide_eq_true h1
      by_cases h2 : n < 55296
      · have t2 : decide (n < 55296) = true := decide_eq_true h2
        refine key true (decide_eq_true (by omega)) ?_
        clear key
        go_enter Tryd.func86, Tryd.ntmps86
        go_wp2
        go_ret
        exact ⟨rfl, rfl⟩
      · have t2 : decide (n < 55296) = false := decide_eq_false h2
        by_cases h3 : 57343 < n
        · refine key true (decide_eq_true (by omega)) ?_
          have t3 : decide (57343 < n) = true := decide_eq_true h3
          clear key
          go_enter Tryd.func86, Tryd.ntmps86
          go_wp2
          go_ret
          exact ⟨rfl, rfl⟩
        · refine key false (decide_eq_false (by omega)) ?_
          have t3 : decide (57343 < n) = false := decide_eq_false h3
          clear key
          go_enter Tryd.func86, Tryd.ntmps86
          go_wp2
          go_ret
          exact ⟨rfl, rfl⟩
    · have t1 : decide (n ≤ 1114111) = false := decide_eq_false h1
      refine key false (decide_eq_false (by omega)) ?_
      clear key
      go_enter Tryd.func86, Tryd.ntmps86
      go_wp2
      go_ret
      exact ⟨rfl, rfl⟩
  · have t0 : decide (0 ≤ n) = false := decide_eq_false h0
    refine key false (decide_eq_false (by omega)) ?_
    clear key
    go_enter Tryd.func86, Tryd.ntmps86
    go_wp2
    go_ret
    exact ⟨rfl, rfl⟩

theorem run_chr (x : Int) (w : World) : (convert 27 9 (.slice (some ⟨w.heap.size, 0, none⟩) 1 1)).run Tryd.prog (w.alloc (.cells #[.int .u8 x] 5)) = .ok (.string ⟨#[x.toNat.toUInt8]⟩) (w.alloc (.cells #[.int .u8 x] 5)) := by
  rw [run_convert_bytes_string _ 27 9 5 _ _ _ Tryd.underlying27 Tryd.underlying5 Tryd.underlying9]
  have hl : (loadCells ⟨w.heap.size, 0, none⟩ 1).run Tryd.prog (w.alloc (.cells #[.int .u8 x] 5)) = .ok (([x].map (Value.int .u8)).toArray) (w.alloc (.cells #[.int .u8 x] 5)) :=
    run_loadCells_list _ _ [.int .u8 x] (by intro j u hj; match j, hj with | 0, hj => simp at hj; subst hj; simp [Addr.add])
  rw [run_bytesToString _ _ _ _ [x] hl]
  rfl

theorem ret_str {a b : ByteArray} (h : a = b) : Ending.returned (.string a) = .returned (.string b) := by rw [h]
theorem two_bytes (a b : UInt8) : (⟨#[a]⟩ : ByteArray) ++ ⟨#[b]⟩ = ⟨#[a, b]⟩ := by apply ByteArray.ext; rw [ByteArray.data_append]; rfl
theorem three_bytes (a b c : UInt8) : (⟨#[a]⟩ : ByteArray) ++ ⟨#[b]⟩ ++ ⟨#[c]⟩ = ⟨#[a, b, c]⟩ := by rw [two_bytes]; apply ByteArray.ext; rw [ByteArray.data_append]; rfl
theorem four_bytes (a b c d : UInt8) : (⟨#[a]⟩ : ByteArray) ++ ⟨#[b]⟩ ++ ⟨#[c]⟩ ++ ⟨#[d]⟩ = ⟨#[a, b, c, d]⟩ := by rw [three_bytes]; apply ByteArray.ext; rw [ByteArray.data_append]; rfl

end Go.Proofs.YtdpoiagnjdajbaaDoor.utfs
/- The document's Code: plain facts on its classes of bytes, and its walk. -/
set_option linter.unusedVariables false
namespace Go.Proofs.YtdpoiagnjdajbaaDoor.utfs
open Go.RowKit

theorem next_bad {l : List UInt8} (h0 : l ≠ []) (h : Lib.decodeL l = (65533, 1)) : nextR l = -1 ∧ nextN l = 1 := by
  have hb : badB l = true := decide_eq_true (by rw [h]; exact ⟨rfl, rfl⟩)
  exact ⟨by simp [nextR, h0, hb], by simp [nextN, h0, h]⟩
theorem next_good {l : List UInt8} {v : Int} {n : Nat} (h0 : l ≠ []) (h : Lib.decodeL l = (v.toNat, n)) (hv : 0 ≤ v) (hn : n = 1 → v < 128) : nextR l = v ∧ nextN l = n := by
  have hb : badB l = false := decide_eq_false (by rw [h]; simp only; omega)
  refine ⟨?_, by simp [nextN, h0, h]⟩
  simp only [nextR, h0, if_false, hb]
  rw [h]
  simp only [Bool.false_eq_true, if_false]
  omega

/-- the i-th byte -/
def byt (l : List UInt8) (i : Nat) : Nat := (l.getD i 0).toNat
theorem by_lt (l : List UInt8) (i : Nat) : byt l i < 256 := UInt8.toNat_lt _
theorem dec_by (l : List UInt8) : Lib.decodeL l = Lib.decodeN l.length (byt l 0) (byt l 1) (byt l 2) (byt l 3) := Lib.decodeL_N l
/-- the number that is made of the first k bytes -/
def val (l : List UInt8) (lead : Int) : Nat → Int
  | 0 => 0
  | 1 => (byt l 0 : Int) - lead
  | k + 2 => val l lead (k + 1) * 64 + (byt l (k + 1) : Int) - 128
def cont (l : List UInt8) (j : Nat) : Prop := 128 ≤ byt l j ∧ byt l j < 192
theorem val_two (l : List UInt8) (a : Int) : val l a 2 = (((byt l 0 : Nat) : Int) - a) * 64 + (byt l 1 : Int) - 128 := rfl
theorem val_three (l : List UInt8) (a : Int) : val l a 3 = ((((byt l 0 : Nat) : Int) - a) * 64 + (byt l 1 : Int) - 128) * 64 + (byt l 2 : Int) - 128 := rfl
theorem val_four (l : List UInt8) (a : Int) : val l a 4 = (((((byt l 0 : Nat) : Int) - a) * 64 + (byt l 1 : Int) - 128) * 64 + (byt l 2 : Int) - 128) * 64 + (byt l 3 : Int) - 128 := rfl

theorem class1 (l : List UInt8) (h0 : l ≠ []) (h : byt l 0 < 128) : nextR l = (byt l 0 : Int) ∧ nextN l = 1 := by
  refine next_good h0 ?_ (by omega) (fun _ => by omega)
  rw [dec_by]; unfold Lib.decodeN
  rw [if_pos h]
  simp
theorem class0 (l : List UInt8) (h0 : l ≠ []) (h : (128 ≤ byt l 0 ∧ byt l 0 < 192) ∨ 248 ≤ byt l 0) : nextR l = -1 ∧ nextN l = 1 := by
  have hb := by_lt l 0
  refine next_bad h0 ?_
  rw [dec_by]; unfold Lib.decodeN
  rw [if_neg (by omega), if_neg (by omega), if_neg (by omega), if_neg (by omega)]
theorem class2_bad (l : List UInt8) (h0 : l ≠ []) (h : 192 ≤ byt l 0 ∧ byt l 0 < 224) (hx : l.length < 2 ∨ ¬ cont l 1) : nextR l = -1 ∧ nextN l = 1 := by
  have hb := by_lt l 1
  unfold cont at hx
  refine next_bad h0 ?_
  rw [dec_by]; unfold Lib.decodeN
  rw [if_neg (by omega), if_neg (by omega), if_neg (by omega), if_neg (by omega)]
theorem class3_bad (l : List UInt8) (h0 : l ≠ []) (h : 224 ≤ byt l 0 ∧ byt l 0 < 240) (hx : l.length < 3 ∨ ¬ cont l 1 ∨ ¬ cont l 2) : nextR l = -1 ∧ nextN l = 1 := by
  have hb := by_lt l 1
  have hb2 := by_lt l 2
  unfold cont at hx
  refine next_bad h0 ?_
  rw [dec_by]; unfold Lib.decodeN
  rw [if_neg (by omega), if_neg (by omega), if_neg (by omega), if_neg (by omega)]
theorem class4_bad (l : List UInt8) (h0 : l ≠ []) (h : 240 ≤ byt l 0 ∧ byt l 0 < 248) (hx : l.length < 4 ∨ ¬ cont l 1 ∨ ¬ cont l 2 ∨ ¬ cont l 3) : nextR l = -1 ∧ nextN l = 1 := by
  have hb := by_lt l 1
  have hb2 := by_lt l 2
  have hb3 := by_lt l 3
  unfold cont at hx
  refine next_bad h0 ?_
  rw [dec_by]; unfold Lib.decodeN
  rw [if_neg (by omega), if_neg (by omega), if_neg (by omega), if_neg (by omega)]
theorem class2 (l : List UInt8) (h0 : l ≠ []) (h : 192 ≤ byt l 0 ∧ byt l 0 < 224) (hl : 2 ≤ l.length) (c1 : cont l 1) :
    (128 ≤ val l 192 2 ∧ sc (val l 192 2) = true → nextR l = val l 192 2 ∧ nextN l = 2) ∧ ((val l 192 2 < 128 ∨ sc (val l 192 2) = false) → nextR l = -1 ∧ nextN l = 1) := by
  unfold cont at c1
  rw [val_two]
  refine ⟨fun ⟨a, b⟩ => ?_, fun a => ?_⟩
  · have s := sc_true b
    refine next_good h0 ?_ (by omega) (fun h => by cases h)
    rw [dec_by]; unfold Lib.decodeN
    rw [if_neg (by omega), if_pos (by omega), if_pos (by omega)]
    apply Prod.ext <;> simp only <;> omega
  · refine next_bad h0 ?_
    have s : ((((byt l 0 : Nat) : Int) - 192) * 64 + (byt l 1 : Int) - 128) < 128 := by
      rcases a with a | a
      · exact a
      · have := sc_false a; omega
    rw [dec_by]; unfold Lib.decodeN
    rw [if_neg (by omega), if_pos (by omega), if_neg (by omega)]
theorem class3 (l : List UInt8) (h0 : l ≠ []) (h : 224 ≤ byt l 0 ∧ byt l 0 < 240) (hl : 3 ≤ l.length) (c1 : cont l 1) (c2 : cont l 2) :
    (2048 ≤ val l 224 3 ∧ sc (val l 224 3) = true → nextR l = val l 224 3 ∧ nextN l = 3) ∧ ((val l 224 3 < 2048 ∨ sc (val l 224 3) = false) → nextR l = -1 ∧ nextN l = 1) := by
  unfold cont at c1 c2
  rw [val_three]
  refine ⟨fun ⟨a, b⟩ => ?_, fun a => ?_⟩
  · have s := sc_true b
    refine next_good h0 ?_ (by omega) (fun h => by cases h)
    rw [dec_by]; unfold Lib.decodeN
    rw [if_neg (by omega), if_neg (by omega), if_pos (by omega), if_pos (by omega)]
    apply Prod.ext <;> simp only <;> omega
  · refine next_bad h0 ?_
    have s : (((((byt l 0 : Nat) : Int) - 224) * 64 + (byt l 1 : Int) - 128) * 64 + (byt l 2 : Int) - 128) < 2048 ∨ (55296 ≤ (((((byt l 0 : Nat) : Int) - 224) * 64 + (byt l 1 : Int) - 128) * 64 + (byt l 2 : Int) - 128) ∧ (((((byt l 0 : Nat) : Int) - 224) * 64 + (byt l 1 : Int) - 128) * 64 + (byt l 2 : Int) - 128) ≤ 57343) := by
      rcases a with a | a
      · exact .inl a
      · have := sc_false a; omega
    rw [dec_by]; unfold Lib.decodeN
    rw [if_neg (by omega), if_neg (by omega), if_pos (by omega), if_neg (by omega)]
theorem class4 (l : List UInt8) (h0 : l ≠ []) (h : 240 ≤ byt l 0 ∧ byt l 0 < 248) (hl : 4 ≤ l.length) (c1 : cont l 1) (c2 : cont l 2) (c3 : cont l 3) :
    (65536 ≤ val l 240 4 ∧ sc (val l 240 4) = true → nextR l = val l 240 4 ∧ nextN l = 4) ∧ ((val l 240 4 < 65536 ∨ sc (val l 240 4) = false) → nextR l = -1 ∧ nextN l = 1) := by
  unfold cont at c1 c2 c3
  rw [val_four]
  refine ⟨fun ⟨a, b⟩ => ?_, fun a => ?_⟩
  · have s := sc_true b
    refine next_good h0 ?_ (by omega) (fun h => by cases h)
    rw [dec_by]; unfold Lib.decodeN
    rw [if_neg (by omega), if_neg (by omega), if_neg (by omega), if_pos (by omega), if_pos (by omega)]
    apply Prod.ext <;> simp only <;> omega
  · refine next_bad h0 ?_
    have s : ((((((byt l 0 : Nat) : Int) - 240) * 64 + (byt l 1 : Int) - 128) * 64 + (byt l 2 : Int) - 128) * 64 + (byt l 3 : Int) - 128) < 65536 ∨ 1114111 < ((((((byt l 0 : Nat) : Int) - 240) * 64 + (byt l 1 : Int) - 128) * 64 + (byt l 2 : Int) - 128) * 64 + (byt l 3 : Int) - 128) := by
      rcases a with a | a
      · exact .inl a
      · have := sc_false a; omega
    rw [dec_by]; unfold Lib.decodeN
    rw [if_neg (by omega), if_neg (by omega), if_neg (by omega), if_pos (by omega), if_neg (by omega)]

theorem by_get (s : ByteArray) (i : Nat) (h : i < s.size) : byt s.data.toList i = (s[i]'h).toNat := by
  unfold byt
  have : s.data.toList.getD i 0 = s[i]'h := by
    have h' : i < s.data.toList.length := by rw [len_list]; exact h
    rw [List.getD_eq_getElem?_getD, List.getElem?_eq_getElem h']
    simp
    rfl
  rw [this]

theorem not_empty (s : ByteArray) (h : 0 < s.size) : s.toList.isEmpty = false := by
  rw [ByteArray.toList_eq, List.isEmpty_eq_false_iff]
  intro e
  have := congrArg List.length e
  rw [len_list] at this
  simp only [List.length_nil] at this
  omega
theorem is_empty (s : ByteArray) (h : s.size = 0) : s.toList.isEmpty = true := by
  rw [ByteArray.toList_eq, List.isEmpty_iff]
  apply List.eq_nil_of_length_eq_zero
  rw [len_list]; exact h
theorem list_ne (s : ByteArray) (h : 0 < s.size) : s.data.toList ≠ [] := by
  intro e
  have := congrArg List.length e
  rw [len_list] at this
  simp only [List.length_nil] at this
  omega

theorem val_succ (l : List UInt8) (a : Int) (k : Nat) (hk : 1 ≤ k) : val l a (k + 1) = val l a k * 64 + (byt l k : Int) - 128 := by
  obtain ⟨m, rfl⟩ : ∃ m, k = m + 1 := ⟨k - 1, by omega⟩
  rfl
theorem val_bound (l : List UInt8) (a : Int) (h0 : a ≤ (byt l 0 : Int)) (h1 : (byt l 0 : Int) < a + 32) : ∀ k, 1 ≤ k → k ≤ 4 → (∀ j, 1 ≤ j → j < k → cont l j) → 0 ≤ val l a k ∧ val l a k ≤ 8388607 := by
  intro k hk h4 hc
  have v1 : val l a 1 = (byt l 0 : Int) - a := rfl
  match k, hk, h4, hc with
  | 1, _, _, _ => rw [v1]; omega
  | 2, _, _, hc => have c1 := hc 1 (by omega) (by omega); unfold cont at c1; rw [val_two]; omega
  | 3, _, _, hc => have c1 := hc 1 (by omega) (by omega); have c2 := hc 2 (by omega) (by omega); unfold cont at c1 c2; rw [val_three]; omega
  | 4, _, _, hc => have c1 := hc 1 (by omega) (by omega); have c2 := hc 2 (by omega) (by omega); have c3 := hc 3 (by omega) (by omega); unfold cont at c1 c2 c3; rw [val_four]; omega

set_option maxHeartbeats 400000 in
set_option maxRecDepth 100000 in
theorem code_one (s : ByteArray) (w : World) (hs : s.size ≤ 9223372036854775807) (h0 : 0 < s.size) (hb : byt s.data.toList 0 < 128) :
    Calls Tryd.prog 69 #[.string s] w fun e w' => e = .returned (.tuple #[.int .i32 (byt s.data.toList 0), .int .i64 1]) ∧ Below w.heap.size w w' := by
  have h255 := by_lt s.data.toList 0
  rw [by_get s 0 h0] at *
  have hne : s.toList.isEmpty = false := not_empty s h0
  go_enter Tryd.func69, Tryd.ntmps69
  go_wp2
  go_region
  go_wp2
  go_ret2
  exact ⟨rfl, (Below.refl _ w).drew⟩

set_option maxHeartbeats 400000 in
set_option maxRecDepth 100000 in
theorem code_lowbad (s : ByteArray) (w : World) (hs : s.size ≤ 9223372036854775807) (h0 : 0 < s.size) (hb : 128 ≤ byt s.data.toList 0 ∧ byt s.data.toList 0 < 192) :
    Calls Tryd.prog 69 #[.string s] w fun e w' => e = .returned (.tuple #[.int .i32 (-1), .int .i64 1]) ∧ Below w.heap.size w w' := by
  have h255 := by_lt s.data.toList 0
  rw [by_get s 0 h0] at *
  have hne : s.toList.isEmpty = false := not_empty s h0
  go_enter Tryd.func69, Tryd.ntmps69
  go_wp2
  go_region
  go_wp2
  go_ret2
  exact ⟨rfl, (Below.refl _ w).drew⟩

set_option maxHeartbeats 400000 in
set_option maxRecDepth 100000 in
theorem code_highbad (s : ByteArray) (w : World) (hs : s.size ≤ 9223372036854775807) (h0 : 0 < s.size) (hb : 248 ≤ byt s.data.toList 0) :
    Calls Tryd.prog 69 #[.string s] w fun e w' => e = .returned (.tuple #[.int .i32 (-1), .int .i64 1]) ∧ Below w.heap.size w w' := by
  have h255 := by_lt s.data.toList 0
  rw [by_get s 0 h0] at *
  have hne : s.toList.isEmpty = false := not_empty s h0
  go_enter Tryd.func69, Tryd.ntmps69
  go_wp2
  go_region
  go_wp2
  go_ret2
  exact ⟨rfl, (Below.refl _ w).drew⟩

set_option maxHeartbeats 400000 in
theorem code_empty (s : ByteArray) (w : World) (h0 : s.size = 0) :
    Calls Tryd.prog 69 #[.string s] w fun e w' => e = .returned (.tuple #[.int .i32 (-1), .int .i64 0]) ∧ Below w.heap.size w w' := by
  have hne : s.toList.isEmpty = true := is_empty s h0
  clear h0
  go_enter Tryd.func69, Tryd.ntmps69
  go_wp2
  go_ret2
  exact ⟨rfl, Below.refl _ w⟩

end Go.Proofs.YtdpoiagnjdajbaaDoor.utfs
/- The walk of the document's Code at codes of several bytes. -/
set_option linter.unusedVariables false
namespace Go.Proofs.YtdpoiagnjdajbaaDoor.utfs
open Go.RowKit

theorem two_of {P : Nat → Prop} {k : Nat} (h1 : 1 ≤ k) (h2 : k < 3) (h : ¬ P k) : ¬ P 1 ∨ ¬ P 2 := by
  rcases (show k = 1 ∨ k = 2 by omega) with e | e
  · subst e; exact .inl h
  · subst e; exact .inr h
theorem three_of {P : Nat → Prop} {k : Nat} (h1 : 1 ≤ k) (h2 : k < 4) (h : ¬ P k) : ¬ P 1 ∨ ¬ P 2 ∨ ¬ P 3 := by
  rcases (show k = 1 ∨ k = 2 ∨ k = 3 by omega) with e | e | e
  · subst e; exact .inl h
  · subst e; exact .inr (.inl h)
  · subst e; exact .inr (.inr h)

set_option maxHeartbeats 2000000 in
set_option maxRecDepth 100000 in
theorem code_2 (s : ByteArray) (w : World) (hs : s.size ≤ 9223372036854775807) (h0 : 0 < s.size) (hb : 192 ≤ byt s.data.toList 0 ∧ byt s.data.toList 0 < 224) :
    Calls Tryd.prog 69 #[.string s] w fun e w' => e = .returned (.tuple #[.int .i32 (nextR s.data.toList), .int .i64 (nextN s.data.toList)]) ∧ Below w.heap.size w w' := by
  have hl := list_ne s h0
  have hne : s.toList.isEmpty = false := not_empty s h0
  have g0 := by_get s 0 h0
  have b0 : 192 ≤ s[0].toNat ∧ s[0].toNat < 224 := by rw [← g0]; exact hb
  have G0 := hide g0
  have HB := hide hb
  have HLN := hide (len_list s)
  clear g0 hb
  by_cases hlen : s.size < 2
  · have hbad := class2_bad s.data.toList hl HB.out (.inl (by rw [len_list]; omega))
    rw [hbad.1, hbad.2]
    clear hbad hl
    go_enter Tryd.func69, Tryd.ntmps69
    go_wp2
    go_region
    go_wp2
    go_ret2
    exact ⟨rfl, (Below.refl _ w).drew⟩
  · have ta128 : decide ((s[0].toNat : Int) < 128) = false := decide_eq_false (by omega)
    have tb192 : decide (192 ≤ (s[0].toNat : Int)) = true := decide_eq_true (by omega)
    have ta224 : decide ((s[0].toNat : Int) < 224) = true := decide_eq_true (by omega)
    go_enter Tryd.func69, Tryd.ntmps69
    go_wp2
    go_region
    go_wp2
    go_loopw [6, 7] (fun r i wr => ∃ k : Nat, Below w.heap.size w wr ∧ 1 ≤ k ∧ k ≤ 2 ∧ i = .int .i64 k ∧ r = .int .i64 (val s.data.toList 192 k) ∧ Hid (∀ j, 1 ≤ j → j < k → cont s.data.toList j)) (fun _ i _ => 2 - (intOf i).toNat)
    case atStart =>
      refine ⟨1, (Below.refl _ w).drew, by omega, by omega, rfl, ?_, fun j h1 h2 => by omega⟩
      have v1 : val s.data.toList 192 1 = (byt s.data.toList 0 : Int) - 192 := rfl
      rw [v1, G0.out]
    case round =>
      obtain ⟨k, hbw, hk1, hk2, rfl, rfl, hcon⟩ := hrel
      have hvb := val_bound s.data.toList 192 (by have := HB.out; omega) (by have := HB.out; omega) k hk1 (by omega) hcon.out
      have hvs := hide (val_succ s.data.toList 192 k hk1)
      by_cases hlt : k < 2
      · have hks : k < s.size := by omega
        have gk := by_get s k hks
        have hk255 := by_lt s.data.toList k
        have GK := hide gk
        by_cases hct : cont s.data.toList k
        · have hct' : 128 ≤ s[k].toNat ∧ s[k].toNat < 192 := by rw [← GK.out]; exact hct
          have hcon2 : Hid (∀ j, 1 ≤ j → j < k + 1 → cont s.data.toList j) := fun j h1 h2 => by
            by_cases e : j = k
            · subst e; exact hct
            · exact hcon.out j h1 (by omega)
          clear hct gk
          generalize val s.data.toList 192 k = v at *
          go_wp2
          go_roundw
          case rel => exact ⟨k + 1, hbw, by omega, by omega, by go_num, by rw [hvs.out, GK.out], hcon2⟩
          case measure => simp [intOf]; omega
        · have hbad := class2_bad s.data.toList hl HB.out (.inr (by rwa [show k = 1 by omega] at hct))
          have hct' : s[k].toNat < 128 ∨ 192 ≤ s[k].toNat := by
            have : ¬ (128 ≤ byt s.data.toList k ∧ byt s.data.toList k < 192) := hct
            rw [GK.out] at this
            omega
          have HBAD := hide hbad
          clear hct gk hbad
          generalize val s.data.toList 192 k = v at *
          rcases hct' with hct' | hct'
          · go_wp2
            go_ret2
            rw [HBAD.out.1, HBAD.out.2]
            exact ⟨rfl, hbw⟩
          · go_wp2
            go_ret2
            rw [HBAD.out.1, HBAD.out.2]
            exact ⟨rfl, hbw⟩
      · obtain rfl : k = 2 := by omega
        have hc := hcon.out
        obtain ⟨q1, q2⟩ := class2 s.data.toList hl HB.out (by rw [len_list]; omega) (hc 1 (by omega) (by omega))
        clear hc hvs
        generalize val s.data.toList 192 2 = v at *
        by_cases hle : v < 128
        · have hbad := hide (q2 (.inl hle))
          clear q1 q2
          go_wp2
          go_ret2
          rw [hbad.out.1, hbad.out.2]
          exact ⟨rfl, hbw⟩
        · cases hsc : sc v with
          | true =>
            have hgood := hide (q1 ⟨by omega, hsc⟩)
            have hsv := sc_true hsc
            have hc := scalar_any v wr
            rw [hsc] at hc
            have HC := hide hc
            clear q1 q2 hc hsc
            go_wp2_with fail
            refine (unhide HC).mono ?_
            rintro e w1 ⟨rfl, rfl⟩
            go_wp2_with fail
            go_ret2
            rw [hgood.out.1, hgood.out.2]
            exact ⟨rfl, hbw⟩
          | false =>
            have hbad := hide (q2 (.inr hsc))
            have hc := scalar_any v wr
            rw [hsc] at hc
            have HC := hide hc
            clear q1 q2 hc hsc
            go_wp2_with fail
            refine (unhide HC).mono ?_
            rintro e w1 ⟨rfl, rfl⟩
            go_wp2_with fail
            go_ret2
            rw [hbad.out.1, hbad.out.2]
            exact ⟨rfl, hbw⟩

set_option maxHeartbeats 2000000 in
set_option maxRecDepth 100000 in
theorem code_3 (s : ByteArray) (w : World) (hs : s.size ≤ 9223372036854775807) (h0 : 0 < s.size) (hb : 224 ≤ byt s.data.toList 0 ∧ byt s.data.toList 0 < 240) :
    Calls Tryd.prog 69 #[.string s] w fun e w' => e = .returned (.tuple #[.int .i32 (nextR s.data.toList), .int .i64 (nextN s.data.toList)]) ∧ Below w.heap.size w w' := by
  have hl := list_ne s h0
  have hne : s.toList.isEmpty = false := not_empty s h0
  have g0 := by_get s 0 h0
  have b0 : 224 ≤ s[0].toNat ∧ s[0].toNat < 240 := by rw [← g0]; exact hb
  have G0 := hide g0
  have HB := hide hb
  have HLN := hide (len_list s)
  clear g0 hb
  by_cases hlen : s.size < 3
  · have hbad := class3_bad s.data.toList hl HB.out (.inl (by rw [len_list]; omega))
    rw [hbad.1, hbad.2]
    clear hbad hl
    go_enter Tryd.func69, Tryd.ntmps69
    go_wp2
    go_region
    go_wp2
    go_ret2
    exact ⟨rfl, (Below.refl _ w).drew⟩
  · have ta128 : decide ((s[0].toNat : Int) < 128) = false := decide_eq_false (by omega)
    have tb192 : decide (192 ≤ (s[0].toNat : Int)) = true := decide_eq_true (by omega)
    have ta224 : decide ((s[0].toNat : Int) < 224) = false := decide_eq_false (by omega)
    have tb224 : decide (224 ≤ (s[0].toNat : Int)) = true := decide_eq_true (by omega)
    have ta240 : decide ((s[0].toNat : Int) < 240) = true := decide_eq_true (by omega)
    go_enter Tryd.func69, Tryd.ntmps69
    go_wp2
    go_region
    go_wp2
    go_loopw [6, 7] (fun r i wr => ∃ k : Nat, Below w.heap.size w wr ∧ 1 ≤ k ∧ k ≤ 3 ∧ i = .int .i64 k ∧ r = .int .i64 (val s.data.toList 224 k) ∧ Hid (∀ j, 1 ≤ j → j < k → cont s.data.toList j)) (fun _ i _ => 3 - (intOf i).toNat)
    case atStart =>
      refine ⟨1, (Below.refl _ w).drew, by omega, by omega, rfl, ?_, fun j h1 h2 => by omega⟩
      have v1 : val s.data.toList 224 1 = (byt s.data.toList 0 : Int) - 224 := rfl
      rw [v1, G0.out]
    case round =>
      obtain ⟨k, hbw, hk1, hk2, rfl, rfl, hcon⟩ := hrel
      have hvb := val_bound s.data.toList 224 (by have := HB.out; omega) (by have := HB.out; omega) k hk1 (by omega) hcon.out
      have hvs := hide (val_succ s.data.toList 224 k hk1)
      by_cases hlt : k < 3
      · have hks : k < s.size := by omega
        have gk := by_get s k hks
        have hk255 := by_lt s.data.toList k
        have GK := hide gk
        by_cases hct : cont s.data.toList k
        · have hct' : 128 ≤ s[k].toNat ∧ s[k].toNat < 192 := by rw [← GK.out]; exact hct
          have hcon2 : Hid (∀ j, 1 ≤ j → j < k + 1 → cont s.data.toList j) := fun j h1 h2 => by
            by_cases e : j = k
            · subst e; exact hct
            · exact hcon.out j h1 (by omega)
          clear hct gk
          generalize val s.data.toList 224 k = v at *
          go_wp2
          go_roundw
          case rel => exact ⟨k + 1, hbw, by omega, by omega, by go_num, by rw [hvs.out, GK.out], hcon2⟩
          case measure => simp [intOf]; omega
        · have hbad := class3_bad s.data.toList hl HB.out (.inr (two_of hk1 hlt hct))
          have hct' : s[k].toNat < 128 ∨ 192 ≤ s[k].toNat := by
            have : ¬ (128 ≤ byt s.data.toList k ∧ byt s.data.toList k < 192) := hct
            rw [GK.out] at this
            omega
          have HBAD := hide hbad
          clear hct gk hbad
          generalize val s.data.toList 224 k = v at *
          rcases hct' with hct' | hct'
          · go_wp2
            go_ret2
            rw [HBAD.out.1, HBAD.out.2]
            exact ⟨rfl, hbw⟩
          · go_wp2
            go_ret2
            rw [HBAD.out.1, HBAD.out.2]
            exact ⟨rfl, hbw⟩
      · obtain rfl : k = 3 := by omega
        have hc := hcon.out
        obtain ⟨q1, q2⟩ := class3 s.data.toList hl HB.out (by rw [len_list]; omega) (hc 1 (by omega) (by omega)) (hc 2 (by omega) (by omega))
        clear hc hvs
        generalize val s.data.toList 224 3 = v at *
        by_cases hle : v < 2048
        · have hbad := hide (q2 (.inl hle))
          clear q1 q2
          go_wp2
          go_ret2
          rw [hbad.out.1, hbad.out.2]
          exact ⟨rfl, hbw⟩
        · cases hsc : sc v with
          | true =>
            have hgood := hide (q1 ⟨by omega, hsc⟩)
            have hsv := sc_true hsc
            have hc := scalar_any v wr
            rw [hsc] at hc
            have HC := hide hc
            clear q1 q2 hc hsc
            go_wp2_with fail
            refine (unhide HC).mono ?_
            rintro e w1 ⟨rfl, rfl⟩
            go_wp2_with fail
            go_ret2
            rw [hgood.out.1, hgood.out.2]
            exact ⟨rfl, hbw⟩
          | false =>
            have hbad := hide (q2 (.inr hsc))
            have hc := scalar_any v wr
            rw [hsc] at hc
            have HC := hide hc
            clear q1 q2 hc hsc
            go_wp2_with fail
            refine (unhide HC).mono ?_
            rintro e w1 ⟨rfl, rfl⟩
            go_wp2_with fail
            go_ret2
            rw [hbad.out.1, hbad.out.2]
            exact ⟨rfl, hbw⟩

set_option maxHeartbeats 2000000 in
set_option maxRecDepth 100000 in
theorem code_4 (s : ByteArray) (w : World) (hs : s.size ≤ 9223372036854775807) (h0 : 0 < s.size) (hb : 240 ≤ byt s.data.toList 0 ∧ byt s.data.toList 0 < 248) :
    Calls Tryd.prog 69 #[.string s] w fun e w' => e = .returned (.tuple #[.int .i32 (nextR s.data.toList), .int .i64 (nextN s.data.toList)]) ∧ Below w.heap.size w w' := by
  have hl := list_ne s h0
  have hne : s.toList.isEmpty = false := not_empty s h0
  have g0 := by_get s 0 h0
  have b0 : 240 ≤ s[0].toNat ∧ s[0].toNat < 248 := by rw [← g0]; exact hb
  have G0 := hide g0
  have HB := hide hb
  have HLN := hide (len_list s)
  clear g0 hb
  by_cases hlen : s.size < 4
  · have hbad := class4_bad s.data.toList hl HB.out (.inl (by rw [len_list]; omega))
    rw [hbad.1, hbad.2]
    clear hbad hl
    go_enter Tryd.func69, Tryd.ntmps69
    go_wp2
    go_region
    go_wp2
    go_ret2
    exact ⟨rfl, (Below.refl _ w).drew⟩
  · have ta128 : decide ((s[0].toNat : Int) < 128) = false := decide_eq_false (by omega)
    have tb192 : decide (192 ≤ (s[0].toNat : Int)) = true := decide_eq_true (by omega)
    have ta224 : decide ((s[0].toNat : Int) < 224) = false := decide_eq_false (by omega)
    have tb224 : decide (224 ≤ (s[0].toNat : Int)) = true := decide_eq_true (by omega)
    have ta240 : decide ((s[0].toNat : Int) < 240) = false := decide_eq_false (by omega)
    have tb240 : decide (240 ≤ (s[0].toNat : Int)) = true := decide_eq_true (by omega)
    have ta248 : decide ((s[0].toNat : Int) < 248) = true := decide_eq_true (by omega)
    go_enter Tryd.func69, Tryd.ntmps69
    go_wp2
    go_region
    go_wp2
    go_loopw [6, 7] (fun r i wr => ∃ k : Nat, Below w.heap.size w wr ∧ 1 ≤ k ∧ k ≤ 4 ∧ i = .int .i64 k ∧ r = .int .i64 (val s.data.toList 240 k) ∧ Hid (∀ j, 1 ≤ j → j < k → cont s.data.toList j)) (fun _ i _ => 4 - (intOf i).toNat)
    case atStart =>
      refine ⟨1, (Below.refl _ w).drew, by omega, by omega, rfl, ?_, fun j h1 h2 => by omega⟩
      have v1 : val s.data.toList 240 1 = (byt s.data.toList 0 : Int) - 240 := rfl
      rw [v1, G0.out]
    case round =>
      obtain ⟨k, hbw, hk1, hk2, rfl, rfl, hcon⟩ := hrel
      have hvb := val_bound s.data.toList 240 (by have := HB.out; omega) (by have := HB.out; omega) k hk1 (by omega) hcon.out
      have hvs := hide (val_succ s.data.toList 240 k hk1)
      by_cases hlt : k < 4
      · have hks : k < s.size := by omega
        have gk := by_get s k hks
        have hk255 := by_lt s.data.toList k
        have GK := hide gk
        by_cases hct : cont s.data.toList k
        · have hct' : 128 ≤ s[k].toNat ∧ s[k].toNat < 192 := by rw [← GK.out]; exact hct
          have hcon2 : Hid (∀ j, 1 ≤ j → j < k + 1 → cont s.data.toList j) := fun j h1 h2 => by
            by_cases e : j = k
            · subst e; exact hct
            · exact hcon.out j h1 (by omega)
          clear hct gk
          generalize val s.data.toList 240 k = v at *
          go_wp2
          go_roundw
          case rel => exact ⟨k + 1, hbw, by omega, by omega, by go_num, by rw [hvs.out, GK.out], hcon2⟩
          case measure => simp [intOf]; omega
        · have hbad := class4_bad s.data.toList hl HB.out (.inr (three_of hk1 hlt hct))
          have hct' : s[k].toNat < 128 ∨ 192 ≤ s[k].toNat := by
            have : ¬ (128 ≤ byt s.data.toList k ∧ byt s.data.toList k < 192) := hct
            rw [GK.out] at this
            omega
          have HBAD := hide hbad
          clear hct gk hbad
          generalize val s.data.toList 240 k = v at *
          rcases hct' with hct' | hct'
          · go_wp2
            go_ret2
            rw [HBAD.out.1, HBAD.out.2]
            exact ⟨rfl, hbw⟩
          · go_wp2
            go_ret2
            rw [HBAD.out.1, HBAD.out.2]
            exact ⟨rfl, hbw⟩
      · obtain rfl : k = 4 := by omega
        have hc := hcon.out
        obtain ⟨q1, q2⟩ := class4 s.data.toList hl HB.out (by rw [len_list]; omega) (hc 1 (by omega) (by omega)) (hc 2 (by omega) (by omega)) (hc 3 (by omega) (by omega))
        clear hc hvs
        generalize val s.data.toList 240 4 = v at *
        by_cases hle : v < 65536
        · have hbad := hide (q2 (.inl hle))
          clear q1 q2
          go_wp2
          go_ret2
          rw [hbad.out.1, hbad.out.2]
          exact ⟨rfl, hbw⟩
        · cases hsc : sc v with
          | true =>
            have hgood := hide (q1 ⟨by omega, hsc⟩)
            have hsv := sc_true hsc
            have hc := scalar_any v wr
            rw [hsc] at hc
            have HC := hide hc
            clear q1 q2 hc hsc
            go_wp2_with fail
            refine (unhide HC).mono ?_
            rintro e w1 ⟨rfl, rfl⟩
            go_wp2_with fail
            go_ret2
            rw [hgood.out.1, hgood.out.2]
            exact ⟨rfl, hbw⟩
          | false =>
            have hbad := hide (q2 (.inr hsc))
            have hc := scalar_any v wr
            rw [hsc] at hc
            have HC := hide hc
            clear q1 q2 hc hsc
            go_wp2_with fail
            refine (unhide HC).mono ?_
            rintro e w1 ⟨rfl, rfl⟩
            go_wp2_with fail
            go_ret2
            rw [hbad.out.1, hbad.out.2]
            exact ⟨rfl, hbw⟩

theorem code_any (s : ByteArray) (w : World) (hs : s.size ≤ 9223372036854775807) :
    Calls Tryd.prog 69 #[.string s] w fun e w' => e = .returned (.tuple #[.int .i32 (nextR s.data.toList), .int .i64 (nextN s.data.toList)]) ∧ Below w.heap.size w w' := by
  by_cases h0 : 0 < s.size
  · have hl := list_ne s h0
    by_cases h1 : byt s.data.toList 0 < 128
    · have h := code_one s w hs h0 h1
      obtain ⟨e1, e2⟩ := class1 s.data.toList hl h1
      rw [e1, e2]; exact h
    · by_cases h2 : byt s.data.toList 0 < 192
      · have h := code_lowbad s w hs h0 ⟨by omega, h2⟩
        obtain ⟨e1, e2⟩ := class0 s.data.toList hl (.inl ⟨by omega, h2⟩)
        rw [e1, e2]; exact h
      · by_cases h3 : byt s.data.toList 0 < 224
        · exact code_2 s w hs h0 ⟨by omega, h3⟩
        · by_cases h4 : byt s.data.toList 0 < 240
          · exact code_3 s w hs h0 ⟨by omega, h4⟩
          · by_cases h5 : byt s.data.toList 0 < 248
            · exact code_4 s w hs h0 ⟨by omega, h5⟩
            · have h := code_highbad s w hs h0 (by omega)
              obtain ⟨e1, e2⟩ := class0 s.data.toList hl (.inr (by omega))
              rw [e1, e2]; exact h
  · have hz : s.size = 0 := by omega
    have h := code_empty s w hz
    have e : s.data.toList = [] := List.eq_nil_of_length_eq_zero (by rw [len_list]; exact hz)
    have e1 : nextR s.data.toList = -1 := by simp [nextR, e]
    have e2 : nextN s.data.toList = 0 := by simp [nextN, e]
    rw [e1, e2]; exact h
end Go.Proofs.YtdpoiagnjdajbaaDoor.utfs
/- The walk of utf.Runes; rows of runes. -/
set_option linter.unusedVariables false
namespace Go.Proofs.YtdpoiagnjdajbaaDoor.utfs
open Go.RowKit

theorem info21 : (Tryd.prog.info? 21).map (fun i => (i.zero, i.size, i.bytes)) = some (some (.int .i32 0), 1, 4) := by kernel_rfl

/-- The elements of a slice lie in memory. -/
def Elems (w : World) (a : Option Addr) (l : List Int) : Prop :=
  0 < l.length → ∃ b o, a = some ⟨b, o, none⟩ ∧ b < w.heap.size ∧ ∀ j, j < l.length → w.cell? ⟨b, o + j, none⟩ = some (.int .i32 (l.getD j 0))
def Fit (l : List Int) : Prop := ∀ j, j < l.length → -2147483648 ≤ l.getD j 0 ∧ l.getD j 0 ≤ 2147483647

theorem Elems.below {w w' : World} {a : Option Addr} {l : List Int} (h : Elems w a l) (hb : Below w.heap.size w w') : Elems w' a l := by
  intro h0
  obtain ⟨b, o, e, hlt, hc⟩ := h h0
  refine ⟨b, o, e, Nat.lt_of_lt_of_le hlt hb.size, fun j hj => ?_⟩
  rw [hb.cell (p := ⟨b, o + j, none⟩) hlt]
  exact hc j hj
theorem fit_sc {l : List Int} (h : ∀ r ∈ l, sc r = true) : Fit l := by
  intro j hj
  have hm : l.getD j 0 ∈ l := by simp [List.getD, List.getElem?_eq_getElem hj]
  have := sc_true (h _ hm)
  omega
theorem elems_own {w : World} {base : Nat} {v : Value} {l : List Int} (h : w.ownsRow base 21 1 v l.length (l.map (Value.int .i32))) :
    ∃ a cap, v = .slice a l.length cap ∧ Elems w a l ∧ l.length ≤ cap := by
  have h' := h
  rcases h.2 with ⟨rfl, h0⟩ | ⟨g, cap, cur, rfl, _, hg, hcap, _⟩
  · have : l = [] := List.eq_nil_of_length_eq_zero h0
    subst this
    exact ⟨none, 0, rfl, fun h => absurd h (by simp), by simp⟩
  · refine ⟨_, cap, rfl, fun _ => ⟨g, 0, rfl, (Array.getElem?_eq_some_iff.1 hg).1, fun j hj => ?_⟩, hcap⟩
    rw [Nat.zero_add, h'.cellAt j (by omega)]
    simp [List.getD, List.getElem?_eq_getElem hj]

theorem ownR_ge {w : World} {base e n : Nat} {v : Value} {xs : List Value} (h : w.ownsRow base e 1 v n xs) : ∀ g, v.ownBlock = some g → base ≤ g := by
  intro g hg
  rcases h.2 with ⟨rfl, _⟩ | ⟨g', cap, cur, rfl, hb, _⟩
  · simp [Value.ownBlock] at hg
  · simp only [Value.ownBlock, Option.some.injEq] at hg
    omega

end Go.Proofs.YtdpoiagnjdajbaaDoor.utfs
/- The walks of the document's BadPlace, Scalars. -/
set_option linter.unusedVariables false
namespace Go.Proofs.YtdpoiagnjdajbaaDoor.utfs
open Go.RowKit

theorem width_le {l : List UInt8} (h : l ≠ []) : (Lib.decodeL l).2 ≤ l.length := by
  rcases read_one l h with ⟨e, _⟩ | ⟨r, rest, hs, hl, e⟩
  · rw [e]
    cases l with
    | nil => exact absurd rfl h
    | cons a b => simp
  · rw [e, hl, List.length_append]; simp only; omega
theorem nextN_pos {l : List UInt8} (h : l ≠ []) : nextN l = (Lib.decodeL l).2 := by simp [nextN, h]
theorem drop_ne (s : ByteArray) (pos : Nat) (hp : pos < s.size) : s.data.toList.drop pos ≠ [] := by
  intro e
  have := congrArg List.length e
  rw [List.length_drop, len_list] at this
  simp only [List.length_nil] at this
  omega

set_option maxHeartbeats 2000000 in
set_option maxRecDepth 100000 in
theorem badPlace_any (s : ByteArray) (w : World) (hs : s.size ≤ 140737488355328) :
    Calls Tryd.prog 50 #[.string s] w fun e w' => e = .returned (.int .i64 (bad s.data.toList)) ∧ Below w.heap.size w w' := by
  go_enter Tryd.func50, Tryd.ntmps50
  go_wp2
  go_loopw [3] (fun i wr => ∃ (pos fuel : Nat), i = .int .i64 pos ∧ pos ≤ s.size ∧ Below w.heap.size w wr ∧ Hid (badF fuel pos (s.data.toList.drop pos) = bad s.data.toList) ∧ s.size ≤ pos + fuel) (fun i _ => s.size - (intOf i).toNat)
  case atStart => exact ⟨0, s.size, rfl, Nat.zero_le _, Below.refl _ _, rfl, by omega⟩
  case round =>
    obtain ⟨pos, fuel, rfl, hle, hbw, hacc, hfu⟩ := hrel
    by_cases hp : pos < s.size
    · have hl := drop_ne s pos hp
      have hwl := width_le hl
      rw [List.length_drop, len_list] at hwl
      have hwd := width_ge (s.data.toList.drop pos)
      obtain ⟨f, rfl⟩ : ∃ f, fuel = f + 1 := ⟨fuel - 1, by omega⟩
      have hc := code_any (s.extract pos s.size) wr (by rw [ByteArray.size_extract]; omega)
      rw [ext_drop, nextN_pos hl] at hc
      have hneg := nextR_neg hl
      have hstep : badF (f + 1) pos (s.data.toList.drop pos) = if badB (s.data.toList.drop pos) = true then (pos : Int) else badF f (pos + (Lib.decodeL (s.data.toList.drop pos)).2) (s.data.toList.drop (pos + (Lib.decodeL (s.data.toList.drop pos)).2)) := by
        simp only [badF]
        rw [if_neg hl, List.drop_drop]
      have h2 := hacc.out
      rw [hstep] at h2
      have HA := hide h2
      have HC := hide hc
      clear hc h2 hstep hacc
      generalize nextR (s.data.toList.drop pos) = r at *
      generalize (Lib.decodeL (s.data.toList.drop pos)).2 = n at *
      cases hbb : badB (s.data.toList.drop pos) with
      | true =>
        rw [hbb] at HA hneg
        rw [if_pos rfl] at HA
        have hr : r < 0 := hneg.2 rfl
        clear hbb hneg
        go_wp2_with fail
        refine (unhide HC).mono ?_
        rintro e w1 ⟨rfl, b1⟩
        go_wp2_with fail
        go_ret
        rw [← HA.out]
        exact ⟨rfl, hbw.trans (b1.mono hbw.size)⟩
      | false =>
        rw [hbb] at HA hneg
        rw [if_neg (by simp)] at HA
        have hr : ¬ r < 0 := fun h => by have := hneg.1 h; cases this
        clear hbb hneg
        go_wp2_with fail
        refine (unhide HC).mono ?_
        rintro e w1 ⟨rfl, b1⟩
        go_wp2_with fail
        go_roundw
        case rel => exact ⟨pos + n, f, by go_num, by omega, hbw.trans (b1.mono hbw.size), HA, by omega⟩
        case measure => simp [intOf]; omega
    · have hl : s.data.toList.drop pos = [] := List.drop_of_length_le (by rw [len_list]; omega)
      have h2 := hacc.out
      rw [hl, badF_nil] at h2
      have HA := hide h2
      clear h2 hl hacc
      go_wp2
      go_ret
      rw [← HA.out]
      exact ⟨rfl, hbw⟩

theorem next_enc {r : Int} (hs : sc r = true) (rest : List UInt8) : nextR (Lib.encodeRune r ++ rest) = r ∧ nextN (Lib.encodeRune r ++ rest) = (Lib.encodeRune r).length := by
  have h := sc_true hs
  refine next_good (enc_ne r rest) (dec_enc hs rest) h.1 (fun h1 => ?_)
  rcases code_forms hs with ⟨a, e⟩ | ⟨a, b, e⟩ | ⟨a, b, e⟩ | ⟨a, e⟩
  · omega
  · rw [e] at h1; simp at h1
  · rw [e] at h1; simp at h1
  · rw [e] at h1; simp at h1

/-- the length of a string's value -/
def strLen : Value → Nat
  | .string s => s.size
  | _ => 0
theorem ownR_below {w w' : World} {base : Nat} {e : TypeId} {v : Value} {n : Nat} {xs : List Value} (h : w.ownsRow base e 1 v n xs) (hb : Below w.heap.size w w') : w'.ownsRow base e 1 v n xs := by
  refine ⟨h.1, ?_⟩
  rcases h.2 with h2 | ⟨g, cap, cur, e1, e2, hg, e3⟩
  · exact .inl h2
  · exact .inr ⟨g, cap, cur, e1, e2, by rw [hb.block g (Array.getElem?_eq_some_iff.1 hg).1]; exact hg, e3⟩

end Go.Proofs.YtdpoiagnjdajbaaDoor.utfs
