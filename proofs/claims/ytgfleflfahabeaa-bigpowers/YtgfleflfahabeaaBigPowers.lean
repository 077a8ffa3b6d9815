/- What Shift, Pow, Text and Read of package big answer, as the document says it; and the walk of the law of powers and shifts. -/
import Derived.Test.YtgfleflfahabeaaBigLaws
import Derived.Test.YtgfleflfahabeaaBigDecs
set_option linter.unusedVariables false
namespace Go.Proofs.Ytgfleflfahabeaa.bigs
open Go.RowKit

/-- A text that tells a number. -/
structure Face2 : Prop where
  shiftUp : ∀ (w : World) (v : Value) (l : List Nat) (n : Nat), WSl w v l → Words32 l → l.length ≤ 2000 → n ≤ 4000 → Calls Try.prog 25 #[v, .int .i64 n] w fun e w' => ∃ v', e = .returned (.tuple #[v', .int .i64 0]) ∧ WBig w' v' (wval l * 2 ^ n) ∧ Below w.heap.size w w'
  shiftDown : ∀ (w : World) (v : Value) (l : List Nat) (n : Nat), WSl w v l → Words32 l → l.length ≤ 2000 → n ≤ 9223372036854775808 → Calls Try.prog 25 #[v, .int .i64 (-(n : Int))] w fun e w' => ∃ v', e = .returned (.tuple #[v', .int .i64 0]) ∧ WBig w' v' (wval l / 2 ^ n) ∧ Below w.heap.size w w'
  shiftLarge : ∀ (w : World) (v : Value) (l : List Nat) (n : Int), WSl w v l → Words32 l → l.length ≤ 2000 → 4000 < n → n ≤ 9223372036854775807 → Calls Try.prog 25 #[v, .int .i64 n] w fun e w' => ∃ a cap, e = .returned (.tuple #[.slice a 0 cap, .int .i64 2]) ∧ Below w.heap.size w w'
  pow : ∀ (w : World) (b n : Nat), b < 4294967296 → n ≤ 1000 → Calls Try.prog 27 #[.int .u32 b, .int .i64 n] w fun e w' => ∃ v', e = .returned (.tuple #[v', .int .i64 0]) ∧ WBig w' v' (b ^ n) ∧ Below w.heap.size w w'
  powNeg : ∀ (w : World) (b : Nat) (n : Int), b < 4294967296 → n < 0 → Calls Try.prog 27 #[.int .u32 b, .int .i64 n] w fun e w' => ∃ a cap, e = .returned (.tuple #[.slice a 0 cap, .int .i64 1]) ∧ Below w.heap.size w w'
  powLarge : ∀ (w : World) (b : Nat) (n : Int), b < 4294967296 → 1000 < n → Calls Try.prog 27 #[.int .u32 b, .int .i64 n] w fun e w' => ∃ a cap, e = .returned (.tuple #[.slice a 0 cap, .int .i64 2]) ∧ Below w.heap.size w w'
  text : ∀ (w : World) (v : Value) (l : List Nat), WSl w v l → Words32 l → l.length ≤ 2000 → Calls Try.prog 29 #[v] w fun e w' => e = .returned (.string ⟨(decs (wval l)).toArray⟩) ∧ Below w.heap.size w w'
  read : ∀ (w : World) (s : ByteArray), s.size ≤ 1000 → Form s.data.toList → Calls Try.prog 28 #[.string s] w fun e w' => ∃ v', e = .returned (.tuple #[v', .int .i64 0]) ∧ WBig w' v' (dec s.data.toList) ∧ Below w.heap.size w w'
  readForm : ∀ (w : World) (s : ByteArray), s.size ≤ 1000 → ¬ Form s.data.toList → Calls Try.prog 28 #[.string s] w fun e w' => ∃ a cap, e = .returned (.tuple #[.slice a 0 cap, .int .i64 4]) ∧ Below w.heap.size w w'
  readLarge : ∀ (w : World) (s : ByteArray), 1000 < s.size → s.size ≤ 140737488355328 → Calls Try.prog 28 #[.string s] w fun e w' => ∃ a cap, e = .returned (.tuple #[.slice a 0 cap, .int .i64 2]) ∧ Below w.heap.size w w'

theorem bigs_any (D : Face2) (w : World) : Calls Try.prog 32 #[] w fun e w' => e = .returned (.bool true) ∧ Below w.heap.size w w' := by
  have c := D.text w (.slice none 0 0) [] ⟨none, 0, rfl, by simp, fun h => absurd rfl h⟩ (fun j h => by simp at h) (by simp)
  have e : decs (wval []) = [48] := by show (if (0 : Nat) = 0 then [48] else toDec 0) = [48]; rw [if_pos rfl]
  rw [e] at c
  have K := hide c
  clear c e D
  go_enter Try.func32, Try.ntmps32
  go_wp2_with fail
  refine (unhide K).mono ?_
  rintro e w1 ⟨rfl, b1⟩
  go_wp2
  go_ret
  exact ⟨rfl, b1⟩
theorem shiftUpN (D : Face2) (w : World) (v : Value) (m n : Nat) (h : Num w v m) (hn : n ≤ 4000) : Calls Try.prog 25 #[v, .int .i64 n] w fun e w' => ∃ v', e = .returned (.tuple #[v', .int .i64 0]) ∧ WBig w' v' (m * 2 ^ n) ∧ Below w.heap.size w w' := by
  obtain ⟨l, h1, h2, h3, rfl⟩ := h
  exact D.shiftUp w v l n h1 h2 h3 hn
theorem shiftDownN (D : Face2) (w : World) (v : Value) (m n : Nat) (h : Num w v m) (hn : n ≤ 4000) : Calls Try.prog 25 #[v, .int .i64 (-(n : Int))] w fun e w' => ∃ v', e = .returned (.tuple #[v', .int .i64 0]) ∧ WBig w' v' (m / 2 ^ n) ∧ Below w.heap.size w w' := by
  obtain ⟨l, h1, h2, h3, rfl⟩ := h
  exact D.shiftDown w v l n h1 h2 h3 (by omega)
theorem powN2 (D : Face2) (w : World) (n : Nat) (hn : n ≤ 1000) : Calls Try.prog 27 #[.int .u32 2, .int .i64 n] w fun e w' => ∃ v', e = .returned (.tuple #[v', .int .i64 0]) ∧ WBig w' v' (2 ^ n) ∧ Below w.heap.size w w' := D.pow w 2 n (by decide) hn
theorem powNN (D : Face2) (w : World) (b m n : Nat) (hb : b < 4294967296) (hn : m + n ≤ 1000) : Calls Try.prog 27 #[.int .u32 b, .int .i64 ((m : Int) + (n : Int))] w fun e w' => ∃ v', e = .returned (.tuple #[v', .int .i64 0]) ∧ WBig w' v' (b ^ (m + n)) ∧ Below w.heap.size w w' := by
  have h := D.pow w b (m + n) hb hn
  rwa [Int.natCast_add] at h
set_option maxHeartbeats 8000000 in
set_option maxRecDepth 100000 in
theorem powers_zero (C : Face1) (D : Face2) (w : World) (a : Option Addr) (ca : Nat) (l : List Nat) (b i j x : Nat) (hl : l.length ≤ 40) (hb : b < 4294967296) (hi : i ≤ 200) (hj : j ≤ 200) (hA : Num w (.slice a l.length ca) x) (hx : (wdig x).length ≤ 40) (h0 : x = 0) :
    Calls Try.prog 7 #[.slice a l.length ca, .int .u32 b, .int .i64 i, .int .i64 j] w fun e w' => e = .returned (.bool true) ∧ Below w.heap.size w w' := by
  have bw := Below.refl w.heap.size w
  have q1 := wdig_pow_len (e := i) hb
  have q2 := wdig_pow_len (e := j) hb
  have q3 := wdig_pow_len (e := i + j) hb
  have q4 := wdig_pow_len (b := 2) (e := j) (by decide)
  have q5 := wdig_prod_len (b ^ i) (b ^ j)
  have q6 := wdig_prod_len x (2 ^ j)
  have q7 := bits_le_words x
  have q8 := bits_le_words (x * 2 ^ j)
  have hfit : ∀ {w v x}, WBig w v x → (wdig x).length ≤ 2000 → Num w v x := fun h h2 => h.num h2
  have E1 := hide (Nat.mul_div_cancel x (Nat.pow_pos (a := 2) (n := j) (by omega)))
  have E2 := hide (Nat.pow_add b i j)
  have e3 : bits x = 0 := by rw [h0, bits_zero]
  have E3 := hide e3
  clear e3 h0
  go_enter Try.func7, Try.ntmps7
  go_wp2_with fail
  refine (bigs_any D _).mono ?_
  rintro e w1 ⟨rfl, b1⟩
  replace hA := hA.below b1
  replace bw := bw.trans (b1.mono bw.size)
  clear b1
  go_wp2_with fail
  refine (D.pow _ b i hb (by omega)).mono ?_
  rintro e w2 ⟨v1, rfl, h1, b2⟩
  replace hA := hA.below b2
  replace bw := bw.trans (b2.mono bw.size)
  clear b2
  go_wp2_with fail
  refine (D.pow _ b j hb (by omega)).mono ?_
  rintro e w3 ⟨v2, rfl, h2, b3⟩
  replace hA := hA.below b3
  replace h1 := h1.below b3
  replace bw := bw.trans (b3.mono bw.size)
  clear b3
  go_wp2_with fail
  refine (powNN D _ b i j hb (by omega)).mono ?_
  rintro e w4 ⟨v3, rfl, h3, b4⟩
  replace hA := hA.below b4
  replace h1 := h1.below b4
  replace h2 := h2.below b4
  replace bw := bw.trans (b4.mono bw.size)
  clear b4
  go_wp2_with fail
  refine (powN2 D _ j (by omega)).mono ?_
  rintro e w5 ⟨v4, rfl, h4, b5⟩
  replace hA := hA.below b5
  replace h1 := h1.below b5
  replace h2 := h2.below b5
  replace h3 := h3.below b5
  replace bw := bw.trans (b5.mono bw.size)
  clear b5
  go_wp2_with fail
  refine (shiftUpN D _ _ x j hA (by omega)).mono ?_
  rintro e w6 ⟨v5, rfl, h5, b6⟩
  replace hA := hA.below b6
  replace h1 := h1.below b6
  replace h2 := h2.below b6
  replace h3 := h3.below b6
  replace h4 := h4.below b6
  replace bw := bw.trans (b6.mono bw.size)
  clear b6
  go_wp2_with fail
  refine (shiftDownN D _ _ (x * 2 ^ j) j (hfit h5 (by omega)) (by omega)).mono ?_
  rintro e w7 ⟨v6, rfl, h6, b7⟩
  replace hA := hA.below b7
  replace h1 := h1.below b7
  replace h2 := h2.below b7
  replace h3 := h3.below b7
  replace h4 := h4.below b7
  replace h5 := h5.below b7
  replace bw := bw.trans (b7.mono bw.size)
  clear b7
  rw [unhide E1] at h6
  go_wp2_with fail
  refine (mulN C _ _ _ (b ^ i) (b ^ j) (hfit h1 (by omega)) (hfit h2 (by omega))).mono ?_
  rintro e w8 ⟨v7, rfl, h7, b8⟩
  replace hA := hA.below b8
  replace h1 := h1.below b8
  replace h2 := h2.below b8
  replace h3 := h3.below b8
  replace h4 := h4.below b8
  replace h5 := h5.below b8
  replace h6 := h6.below b8
  replace bw := bw.trans (b8.mono bw.size)
  clear b8
  go_wp2_with fail
  refine (equalN _ _ _ _ _ (unhide E2).symm (by omega) h7 h3).mono ?_
  rintro e w9 ⟨rfl, b9⟩
  replace hA := hA.below b9
  replace h1 := h1.below b9
  replace h2 := h2.below b9
  replace h3 := h3.below b9
  replace h4 := h4.below b9
  replace h5 := h5.below b9
  replace h6 := h6.below b9
  replace h7 := h7.below b9
  replace bw := bw.trans (b9.mono bw.size)
  clear b9
  go_wp2_with fail
  refine (mulN C _ _ _ x (2 ^ j) hA (hfit h4 (by omega))).mono ?_
  rintro e w10 ⟨v8, rfl, h8, b10⟩
  replace hA := hA.below b10
  replace h1 := h1.below b10
  replace h2 := h2.below b10
  replace h3 := h3.below b10
  replace h4 := h4.below b10
  replace h5 := h5.below b10
  replace h6 := h6.below b10
  replace h7 := h7.below b10
  replace bw := bw.trans (b10.mono bw.size)
  clear b10
  go_wp2_with fail
  refine (equalN _ _ _ _ _ rfl (by omega) h5 h8).mono ?_
  rintro e w11 ⟨rfl, b11⟩
  replace hA := hA.below b11
  replace h1 := h1.below b11
  replace h2 := h2.below b11
  replace h3 := h3.below b11
  replace h4 := h4.below b11
  replace h5 := h5.below b11
  replace h6 := h6.below b11
  replace h7 := h7.below b11
  replace h8 := h8.below b11
  replace bw := bw.trans (b11.mono bw.size)
  clear b11
  go_wp2_with fail
  refine (trimN C _ _ x hA).mono ?_
  rintro e w12 ⟨v9, rfl, h9, b12⟩
  replace hA := hA.below b12
  replace h1 := h1.below b12
  replace h2 := h2.below b12
  replace h3 := h3.below b12
  replace h4 := h4.below b12
  replace h5 := h5.below b12
  replace h6 := h6.below b12
  replace h7 := h7.below b12
  replace h8 := h8.below b12
  replace bw := bw.trans (b12.mono bw.size)
  clear b12
  go_wp2_with fail
  refine (equalN _ _ _ _ _ rfl (by omega) h6 h9).mono ?_
  rintro e w13 ⟨rfl, b13⟩
  replace hA := hA.below b13
  replace h1 := h1.below b13
  replace h2 := h2.below b13
  replace h3 := h3.below b13
  replace h4 := h4.below b13
  replace h5 := h5.below b13
  replace h6 := h6.below b13
  replace h7 := h7.below b13
  replace h8 := h8.below b13
  replace h9 := h9.below b13
  replace bw := bw.trans (b13.mono bw.size)
  clear b13
  go_wp2_with fail
  refine (lenN C _ _ x hA).mono ?_
  rintro e w14 ⟨rfl, b14⟩
  replace hA := hA.below b14
  replace h1 := h1.below b14
  replace h2 := h2.below b14
  replace h3 := h3.below b14
  replace h4 := h4.below b14
  replace h5 := h5.below b14
  replace h6 := h6.below b14
  replace h7 := h7.below b14
  replace h8 := h8.below b14
  replace h9 := h9.below b14
  replace bw := bw.trans (b14.mono bw.size)
  clear b14
  rw [unhide E3]
  clear hA C D h1 h2 h3 h4 h5 h6 h7 h8 h9
  go_wp2
  go_ret
  exact ⟨rfl, bw⟩

set_option maxHeartbeats 8000000 in
set_option maxRecDepth 100000 in
theorem powers_some (C : Face1) (D : Face2) (w : World) (a : Option Addr) (ca : Nat) (l : List Nat) (b i j x : Nat) (hl : l.length ≤ 40) (hb : b < 4294967296) (hi : i ≤ 200) (hj : j ≤ 200) (hA : Num w (.slice a l.length ca) x) (hx : (wdig x).length ≤ 40) (h0 : x ≠ 0) :
    Calls Try.prog 7 #[.slice a l.length ca, .int .u32 b, .int .i64 i, .int .i64 j] w fun e w' => e = .returned (.bool true) ∧ Below w.heap.size w w' := by
  have bw := Below.refl w.heap.size w
  have q1 := wdig_pow_len (e := i) hb
  have q2 := wdig_pow_len (e := j) hb
  have q3 := wdig_pow_len (e := i + j) hb
  have q4 := wdig_pow_len (b := 2) (e := j) (by decide)
  have q5 := wdig_prod_len (b ^ i) (b ^ j)
  have q6 := wdig_prod_len x (2 ^ j)
  have q7 := bits_le_words x
  have q8 := bits_le_words (x * 2 ^ j)
  have hfit : ∀ {w v x}, WBig w v x → (wdig x).length ≤ 2000 → Num w v x := fun h h2 => h.num h2
  have E1 := hide (Nat.mul_div_cancel x (Nat.pow_pos (a := 2) (n := j) (by omega)))
  have E2 := hide (Nat.pow_add b i j)
  have E3 := hide (bits_shift h0 j)
  have e4 := bits_ne h0
  clear h0
  go_enter Try.func7, Try.ntmps7
  go_wp2_with fail
  refine (bigs_any D _).mono ?_
  rintro e w1 ⟨rfl, b1⟩
  replace hA := hA.below b1
  replace bw := bw.trans (b1.mono bw.size)
  clear b1
  go_wp2_with fail
  refine (D.pow _ b i hb (by omega)).mono ?_
  rintro e w2 ⟨v1, rfl, h1, b2⟩
  replace hA := hA.below b2
  replace bw := bw.trans (b2.mono bw.size)
  clear b2
  go_wp2_with fail
  refine (D.pow _ b j hb (by omega)).mono ?_
  rintro e w3 ⟨v2, rfl, h2, b3⟩
  replace hA := hA.below b3
  replace h1 := h1.below b3
  replace bw := bw.trans (b3.mono bw.size)
  clear b3
  go_wp2_with fail
  refine (powNN D _ b i j hb (by omega)).mono ?_
  rintro e w4 ⟨v3, rfl, h3, b4⟩
  replace hA := hA.below b4
  replace h1 := h1.below b4
  replace h2 := h2.below b4
  replace bw := bw.trans (b4.mono bw.size)
  clear b4
  go_wp2_with fail
  refine (powN2 D _ j (by omega)).mono ?_
  rintro e w5 ⟨v4, rfl, h4, b5⟩
  replace hA := hA.below b5
  replace h1 := h1.below b5
  replace h2 := h2.below b5
  replace h3 := h3.below b5
  replace bw := bw.trans (b5.mono bw.size)
  clear b5
  go_wp2_with fail
  refine (shiftUpN D _ _ x j hA (by omega)).mono ?_
  rintro e w6 ⟨v5, rfl, h5, b6⟩
  replace hA := hA.below b6
  replace h1 := h1.below b6
  replace h2 := h2.below b6
  replace h3 := h3.below b6
  replace h4 := h4.below b6
  replace bw := bw.trans (b6.mono bw.size)
  clear b6
  go_wp2_with fail
  refine (shiftDownN D _ _ (x * 2 ^ j) j (hfit h5 (by omega)) (by omega)).mono ?_
  rintro e w7 ⟨v6, rfl, h6, b7⟩
  replace hA := hA.below b7
  replace h1 := h1.below b7
  replace h2 := h2.below b7
  replace h3 := h3.below b7
  replace h4 := h4.below b7
  replace h5 := h5.below b7
  replace bw := bw.trans (b7.mono bw.size)
  clear b7
  rw [unhide E1] at h6
  go_wp2_with fail
  refine (mulN C _ _ _ (b ^ i) (b ^ j) (hfit h1 (by omega)) (hfit h2 (by omega))).mono ?_
  rintro e w8 ⟨v7, rfl, h7, b8⟩
  replace hA := hA.below b8
  replace h1 := h1.below b8
  replace h2 := h2.below b8
  replace h3 := h3.below b8
  replace h4 := h4.below b8
  replace h5 := h5.below b8
  replace h6 := h6.below b8
  replace bw := bw.trans (b8.mono bw.size)
  clear b8
  go_wp2_with fail
  refine (equalN _ _ _ _ _ (unhide E2).symm (by omega) h7 h3).mono ?_
  rintro e w9 ⟨rfl, b9⟩
  replace hA := hA.below b9
  replace h1 := h1.below b9
  replace h2 := h2.below b9
  replace h3 := h3.below b9
  replace h4 := h4.below b9
  replace h5 := h5.below b9
  replace h6 := h6.below b9
  replace h7 := h7.below b9
  replace bw := bw.trans (b9.mono bw.size)
  clear b9
  go_wp2_with fail
  refine (mulN C _ _ _ x (2 ^ j) hA (hfit h4 (by omega))).mono ?_
  rintro e w10 ⟨v8, rfl, h8, b10⟩
  replace hA := hA.below b10
  replace h1 := h1.below b10
  replace h2 := h2.below b10
  replace h3 := h3.below b10
  replace h4 := h4.below b10
  replace h5 := h5.below b10
  replace h6 := h6.below b10
  replace h7 := h7.below b10
  replace bw := bw.trans (b10.mono bw.size)
  clear b10
  go_wp2_with fail
  refine (equalN _ _ _ _ _ rfl (by omega) h5 h8).mono ?_
  rintro e w11 ⟨rfl, b11⟩
  replace hA := hA.below b11
  replace h1 := h1.below b11
  replace h2 := h2.below b11
  replace h3 := h3.below b11
  replace h4 := h4.below b11
  replace h5 := h5.below b11
  replace h6 := h6.below b11
  replace h7 := h7.below b11
  replace h8 := h8.below b11
  replace bw := bw.trans (b11.mono bw.size)
  clear b11
  go_wp2_with fail
  refine (trimN C _ _ x hA).mono ?_
  rintro e w12 ⟨v9, rfl, h9, b12⟩
  replace hA := hA.below b12
  replace h1 := h1.below b12
  replace h2 := h2.below b12
  replace h3 := h3.below b12
  replace h4 := h4.below b12
  replace h5 := h5.below b12
  replace h6 := h6.below b12
  replace h7 := h7.below b12
  replace h8 := h8.below b12
  replace bw := bw.trans (b12.mono bw.size)
  clear b12
  go_wp2_with fail
  refine (equalN _ _ _ _ _ rfl (by omega) h6 h9).mono ?_
  rintro e w13 ⟨rfl, b13⟩
  replace hA := hA.below b13
  replace h1 := h1.below b13
  replace h2 := h2.below b13
  replace h3 := h3.below b13
  replace h4 := h4.below b13
  replace h5 := h5.below b13
  replace h6 := h6.below b13
  replace h7 := h7.below b13
  replace h8 := h8.below b13
  replace h9 := h9.below b13
  replace bw := bw.trans (b13.mono bw.size)
  clear b13
  go_wp2_with fail
  refine (lenN C _ _ x hA).mono ?_
  rintro e w14 ⟨rfl, b14⟩
  replace hA := hA.below b14
  replace h1 := h1.below b14
  replace h2 := h2.below b14
  replace h3 := h3.below b14
  replace h4 := h4.below b14
  replace h5 := h5.below b14
  replace h6 := h6.below b14
  replace h7 := h7.below b14
  replace h8 := h8.below b14
  replace h9 := h9.below b14
  replace bw := bw.trans (b14.mono bw.size)
  clear b14
  have t0 : (((bits x : Nat) : Int) == 0) = false := beq_false_of_ne (by omega)
  go_wp2_with fail
  refine (lenN C _ _ (x * 2 ^ j) (hfit h5 (by omega))).mono ?_
  rintro e w15 ⟨rfl, b15⟩
  replace hA := hA.below b15
  replace h1 := h1.below b15
  replace h2 := h2.below b15
  replace h3 := h3.below b15
  replace h4 := h4.below b15
  replace h5 := h5.below b15
  replace h6 := h6.below b15
  replace h7 := h7.below b15
  replace h8 := h8.below b15
  replace h9 := h9.below b15
  replace bw := bw.trans (b15.mono bw.size)
  clear b15
  go_wp2_with fail
  refine (lenN C _ _ x hA).mono ?_
  rintro e w16 ⟨rfl, b16⟩
  replace hA := hA.below b16
  replace h1 := h1.below b16
  replace h2 := h2.below b16
  replace h3 := h3.below b16
  replace h4 := h4.below b16
  replace h5 := h5.below b16
  replace h6 := h6.below b16
  replace h7 := h7.below b16
  replace h8 := h8.below b16
  replace h9 := h9.below b16
  replace bw := bw.trans (b16.mono bw.size)
  clear b16
  rw [unhide E3]
  generalize bits x = z at *
  clear hA C D h1 h2 h3 h4 h5 h6 h7 h8 h9
  go_wp2
  go_ret
  exact ⟨rfl, bw⟩

set_option maxHeartbeats 1000000 in
theorem lawPowers (C : Face1) (D : Face2) (w : World) (a : Option Addr) (ca : Nat) (l : List Nat) (b : Nat) (i j : Int) (hl : l.length ≤ 1152921504606846975) (hca : l.length ≤ ca) (hb : b < 4294967296) (sl : Words32 l) (ra : RowU w a l) :
    Calls Try.prog 7 #[.slice a l.length ca, .int .u32 b, .int .i64 i, .int .i64 j] w fun e w' => e = .returned (.bool true) ∧ Below w.heap.size w w' := by
  have HB := bigs_any D
  by_cases h0 : 40 < l.length
  · clear ra sl C D
    go_enter Try.func7, Try.ntmps7
    go_wp2_with fail
    refine (HB w).mono ?_
    rintro e w1 ⟨rfl, b1⟩
    go_wp2
    go_ret
    exact ⟨rfl, b1⟩
  · by_cases h1 : i < 0
    · clear ra sl C D
      go_enter Try.func7, Try.ntmps7
      go_wp2_with fail
      refine (HB w).mono ?_
      rintro e w1 ⟨rfl, b1⟩
      go_wp2
      go_ret
      exact ⟨rfl, b1⟩
    · by_cases h2 : j < 0
      · clear ra sl C D
        go_enter Try.func7, Try.ntmps7
        go_wp2_with fail
        refine (HB w).mono ?_
        rintro e w1 ⟨rfl, b1⟩
        go_wp2
        go_ret
        exact ⟨rfl, b1⟩
      · by_cases h3 : 200 < i
        · clear ra sl C D
          go_enter Try.func7, Try.ntmps7
          go_wp2_with fail
          refine (HB w).mono ?_
          rintro e w1 ⟨rfl, b1⟩
          go_wp2
          go_ret
          exact ⟨rfl, b1⟩
        · by_cases h4 : 200 < j
          · clear ra sl C D
            go_enter Try.func7, Try.ntmps7
            go_wp2_with fail
            refine (HB w).mono ?_
            rintro e w1 ⟨rfl, b1⟩
            go_wp2
            go_ret
            exact ⟨rfl, b1⟩
          · obtain ⟨i, rfl⟩ : ∃ n : Nat, i = n := ⟨i.toNat, by omega⟩
            obtain ⟨j, rfl⟩ : ∃ n : Nat, j = n := ⟨j.toNat, by omega⟩
            have nA : Num w (.slice a l.length ca) (wval l) := ⟨l, ⟨a, ca, rfl, hca, ra⟩, sl, by omega, rfl⟩
            have e1 := wdig_wval_len sl
            by_cases hx : wval l = 0
            · exact powers_zero C D w a ca l b i j (wval l) (by omega) hb (by omega) (by omega) nA (by omega) hx
            · exact powers_some C D w a ca l b i j (wval l) (by omega) hb (by omega) (by omega) nA (by omega) hx

end Go.Proofs.Ytgfleflfahabeaa.bigs
