/- The walk of the law that Trim, Cmp, Len, Add, Sub, Mul and DivMod answer what the document says, by what each call answers. -/
import Derived.Test.YtgfleflfahabeaaBigFace
set_option linter.unusedVariables false
namespace Go.Proofs.Ytgfleflfahabeaa.bigs
open Go.RowKit

theorem dig_add_len (m n : Nat) : (dig (m + n)).length ≤ (dig m).length + (dig n).length + 1 := by
  apply dig_length_le
  have h1 := lt_pow_dig m
  have h2 := lt_pow_dig n
  have h3 : 10000 ^ (dig m).length ≤ 10000 ^ ((dig m).length + (dig n).length) := Nat.pow_le_pow_right (by omega) (by omega)
  have h4 : 10000 ^ (dig n).length ≤ 10000 ^ ((dig m).length + (dig n).length) := Nat.pow_le_pow_right (by omega) (by omega)
  rw [Nat.pow_succ]
  omega
theorem dig_prod_len (m n : Nat) : (dig (m * n)).length ≤ (dig m).length + (dig n).length := by
  apply dig_length_le
  rw [Nat.pow_add]
  exact Nat.mul_lt_mul'' (lt_pow_dig m) (lt_pow_dig n)
theorem slice_len {w : World} {v : Value} {n : Nat} (h : Lies w v n) : ∃ a c, v = .slice a (dig n).length c := by
  obtain ⟨a, c, e, _⟩ := h
  exact ⟨a, c, e⟩

set_option maxHeartbeats 8000000 in
set_option maxRecDepth 100000 in
theorem tells_less (C : Face1) (w : World) (a b : Option Addr) (ca cb : Nat) (l k : List Nat) (hl : l.length ≤ 40) (hk : k.length ≤ 40) (hca : l.length ≤ ca) (hcb : k.length ≤ cb) (sl : Words32 l) (sk : Words32 k) (ra : RowU w a l) (rb : RowU w b k) (hmn : wval l < wval k) :
    Calls Try.prog 3 #[.slice a l.length ca, .slice b k.length cb] w fun e w' => e = .returned (.bool true) ∧ Below w.heap.size w w' := by
  have lm := wval_len sl
  have ln := wval_len sk
  have hA : WSl w (.slice a l.length ca) l := ⟨a, ca, rfl, hca, ra⟩
  have hB : WSl w (.slice b k.length cb) k := ⟨b, cb, rfl, hcb, rb⟩
  have K1 : ∀ u v, WSl u v l → Hid _ := fun u v h => hide (ofWords_big u v l (by omega) sl h)
  have K2 : ∀ u v, WSl u v k → Hid _ := fun u v h => hide (ofWords_big u v k (by omega) sk h)
  have K3 : ∀ u v, WSl u v l → Hid _ := fun u v h => hide (C.trim u v l h sl (by omega))
  have K4 : ∀ u v t, WSl u v l → WSl u t k → Hid _ := fun u v t h1 h2 => hide (C.cmp u v t l k h1 h2 sl sk (by omega) (by omega))
  have K5 : ∀ u v, WSl u v l → Hid _ := fun u v h => hide (C.len u v l h sl (by omega))
  have K6 : ∀ u v t, WSl u v l → WSl u t k → Hid _ := fun u v t h1 h2 => hide (C.add u v t l k h1 h2 sl sk (by omega) (by omega))
  have K7 : ∀ u v t, WSl u v l → WSl u t k → Hid _ := fun u v t h1 h2 => hide (C.mul u v t l k h1 h2 sl sk (by omega) (by omega))
  have K8 : ∀ u v t, WSl u v l → WSl u t k → Hid _ := fun u v t h1 h2 => hide (C.subLess u v t l k h1 h2 sl sk (by omega) (by omega) hmn)
  have K9 : ∀ u v t, WSl u v l → WSl u t k → Hid _ := fun u v t h1 h2 => hide (C.div u v t l k h1 h2 sl sk (by omega) (by omega) (by omega))
  have bw := Below.refl w.heap.size w
  generalize wval l = m at *
  generalize wval k = n at *
  have q1 := dig_add_len m n
  have q2 := dig_prod_len m n
  have q3 : (dig (m - n)).length ≤ (dig m).length := dig_len_mono (by omega)
  have q4 : (dig (m / n)).length ≤ (dig m).length := dig_len_mono (Nat.div_le_self _ _)
  have q5 : (dig (m % n)).length ≤ (dig m).length := dig_len_mono (Nat.mod_le _ _)
  have p1 := wdig_len m
  have p2 := wdig_len (m + n)
  have p3 := wdig_len (m * n)
  have p4 := wdig_len (m - n)
  have p5 := wdig_len (m / n)
  have p6 := wdig_len (m % n)
  clear ra rb C
  go_enter Try.func3, Try.ntmps3
  go_wp2_with fail
  refine (unhide (K1 _ _ hA)).mono ?_
  rintro e w1 ⟨vx, rfl, hX, b1⟩
  replace hA := hA.below b1
  replace hB := hB.below b1
  replace bw := bw.trans (b1.mono bw.size)
  clear b1
  go_wp2_with fail
  refine (unhide (K2 _ _ hB)).mono ?_
  rintro e w2 ⟨vy, rfl, hY, b2⟩
  replace hA := hA.below b2
  replace hB := hB.below b2
  replace hX := hX.below b2
  replace bw := bw.trans (b2.mono bw.size)
  clear b2
  obtain ⟨ay, cy, rfl⟩ := slice_len hY
  have KO : ∀ u v x, Lies u v m → Lies u x n → n ≠ 0 → Hid _ := fun u v x h1 h2 h3 => hide (over_any u v x m n (by omega) (by omega) h3 h1 h2)
  have hd0 : (dig n).length = 0 ↔ n = 0 := ⟨fun h => dig_nil.1 (List.length_eq_zero_iff.1 h), fun h => by rw [h, dig_zero]; rfl⟩
  go_wp2_with fail
  refine (unhide (K3 _ _ hA)).mono ?_
  rintro e w3 ⟨v3, rfl, hT, b3⟩
  replace hA := hA.below b3
  replace hB := hB.below b3
  replace hX := hX.below b3
  replace hY := hY.below b3
  replace bw := bw.trans (b3.mono bw.size)
  clear b3
  go_wp2_with fail
  refine (words_big _ _ m (by omega) hX).mono ?_
  rintro e w4 ⟨v4, rfl, hU, b4⟩
  replace hA := hA.below b4
  replace hB := hB.below b4
  replace hX := hX.below b4
  replace hY := hY.below b4
  replace hT := hT.below b4
  replace bw := bw.trans (b4.mono bw.size)
  clear b4
  go_wp2_with fail
  refine (equalU_same _ _ _ _ (by omega) hT hU).mono ?_
  rintro e w5 ⟨rfl, b5⟩
  replace hA := hA.below b5
  replace hB := hB.below b5
  replace hX := hX.below b5
  replace hY := hY.below b5
  replace hT := hT.below b5
  replace hU := hU.below b5
  replace bw := bw.trans (b5.mono bw.size)
  clear b5
  clear hT hU
  go_wp2_with fail
  refine (unhide (K4 _ _ _ hA hB)).mono ?_
  rintro e w6 ⟨rfl, b6⟩
  replace hA := hA.below b6
  replace hB := hB.below b6
  replace hX := hX.below b6
  replace hY := hY.below b6
  replace bw := bw.trans (b6.mono bw.size)
  clear b6
  go_wp2_with fail
  refine (against_any _ _ _ m n (by omega) (by omega) hX hY).mono ?_
  rintro e w7 ⟨rfl, rfl⟩
  go_wp2_with fail
  refine (unhide (K5 _ _ hA)).mono ?_
  rintro e w8 ⟨rfl, b8⟩
  replace hA := hA.below b8
  replace hB := hB.below b8
  replace hX := hX.below b8
  replace hY := hY.below b8
  replace bw := bw.trans (b8.mono bw.size)
  clear b8
  go_wp2_with fail
  refine (halvings_any _ _ m (by omega) hX).mono ?_
  rintro e w9 ⟨rfl, b9⟩
  replace hA := hA.below b9
  replace hB := hB.below b9
  replace hX := hX.below b9
  replace hY := hY.below b9
  replace bw := bw.trans (b9.mono bw.size)
  clear b9
  go_wp2_with fail
  refine (unhide (K6 _ _ _ hA hB)).mono ?_
  rintro e w10 ⟨v8, rfl, hT, b10⟩
  replace hA := hA.below b10
  replace hB := hB.below b10
  replace hX := hX.below b10
  replace hY := hY.below b10
  replace bw := bw.trans (b10.mono bw.size)
  clear b10
  go_wp2_with fail
  refine (plus_any _ _ _ m n (by omega) (by omega) hX hY).mono ?_
  rintro e w11 ⟨v9, rfl, hU, _, b11⟩
  replace hA := hA.below b11
  replace hB := hB.below b11
  replace hX := hX.below b11
  replace hY := hY.below b11
  replace hT := hT.below b11
  replace bw := bw.trans (b11.mono bw.size)
  clear b11
  go_wp2_with fail
  refine (words_big _ _ (m + n) (by omega) hU).mono ?_
  rintro e w12 ⟨v10, rfl, hV, b12⟩
  replace hA := hA.below b12
  replace hB := hB.below b12
  replace hX := hX.below b12
  replace hY := hY.below b12
  replace hT := hT.below b12
  replace hU := hU.below b12
  replace bw := bw.trans (b12.mono bw.size)
  clear b12
  go_wp2_with fail
  refine (equalU_same _ _ _ _ (by omega) hT hV).mono ?_
  rintro e w13 ⟨rfl, b13⟩
  replace hA := hA.below b13
  replace hB := hB.below b13
  replace hX := hX.below b13
  replace hY := hY.below b13
  replace hT := hT.below b13
  replace hU := hU.below b13
  replace hV := hV.below b13
  replace bw := bw.trans (b13.mono bw.size)
  clear b13
  clear hT hU hV
  go_wp2_with fail
  refine (unhide (K7 _ _ _ hA hB)).mono ?_
  rintro e w14 ⟨v12, rfl, hT, b14⟩
  replace hA := hA.below b14
  replace hB := hB.below b14
  replace hX := hX.below b14
  replace hY := hY.below b14
  replace bw := bw.trans (b14.mono bw.size)
  clear b14
  go_wp2_with fail
  refine (by_any _ _ _ m n (by omega) (by omega) hX hY).mono ?_
  rintro e w15 ⟨v13, rfl, hU, _, b15⟩
  replace hA := hA.below b15
  replace hB := hB.below b15
  replace hX := hX.below b15
  replace hY := hY.below b15
  replace hT := hT.below b15
  replace bw := bw.trans (b15.mono bw.size)
  clear b15
  go_wp2_with fail
  refine (words_big _ _ (m * n) (by omega) hU).mono ?_
  rintro e w16 ⟨v14, rfl, hV, b16⟩
  replace hA := hA.below b16
  replace hB := hB.below b16
  replace hX := hX.below b16
  replace hY := hY.below b16
  replace hT := hT.below b16
  replace hU := hU.below b16
  replace bw := bw.trans (b16.mono bw.size)
  clear b16
  go_wp2_with fail
  refine (equalU_same _ _ _ _ (by omega) hT hV).mono ?_
  rintro e w17 ⟨rfl, b17⟩
  replace hA := hA.below b17
  replace hB := hB.below b17
  replace hX := hX.below b17
  replace hY := hY.below b17
  replace hT := hT.below b17
  replace hU := hU.below b17
  replace hV := hV.below b17
  replace bw := bw.trans (b17.mono bw.size)
  clear b17
  clear hT hU hV
  go_wp2_with fail
  refine (unhide (K8 _ _ _ hA hB)).mono ?_
  rintro e w18 ⟨a16, c16, rfl, b18⟩
  replace hA := hA.below b18
  replace hB := hB.below b18
  replace hX := hX.below b18
  replace hY := hY.below b18
  replace bw := bw.trans (b18.mono bw.size)
  clear b18
  have tz : sgn m n = -1 := sgn_lt hmn
  go_wp2_with fail
  refine (against_any _ _ _ m n (by omega) (by omega) hX hY).mono ?_
  rintro e w19 ⟨rfl, rfl⟩
  rw [tz]
  have hn0 : n ≠ 0 := by omega
  go_wp2_with fail
  refine (unhide (K9 _ _ _ hA hB)).mono ?_
  rintro e w20 ⟨v21, v22, rfl, hT, hS, b20⟩
  replace hA := hA.below b20
  replace hB := hB.below b20
  replace hX := hX.below b20
  replace hY := hY.below b20
  replace bw := bw.trans (b20.mono bw.size)
  clear b20
  have e0 : (((dig n).length : Int) == 0) = false := beq_false_of_ne (by have := mt hd0.1 hn0; omega)
  go_wp2_with fail
  refine (unhide (KO _ _ _ hX hY hn0)).mono ?_
  rintro e w21 ⟨v23, v24, rfl, hU, hV, _, _, b21⟩
  replace hA := hA.below b21
  replace hB := hB.below b21
  replace hX := hX.below b21
  replace hY := hY.below b21
  replace hT := hT.below b21
  replace hS := hS.below b21
  replace bw := bw.trans (b21.mono bw.size)
  clear b21
  go_wp2_with fail
  refine (words_big _ _ (m / n) (by omega) hU).mono ?_
  rintro e w22 ⟨v25, rfl, hP, b22⟩
  replace hA := hA.below b22
  replace hB := hB.below b22
  replace hX := hX.below b22
  replace hY := hY.below b22
  replace hT := hT.below b22
  replace hS := hS.below b22
  replace hU := hU.below b22
  replace hV := hV.below b22
  replace bw := bw.trans (b22.mono bw.size)
  clear b22
  go_wp2_with fail
  refine (equalU_same _ _ _ _ (by omega) hT hP).mono ?_
  rintro e w23 ⟨rfl, b23⟩
  replace hA := hA.below b23
  replace hB := hB.below b23
  replace hX := hX.below b23
  replace hY := hY.below b23
  replace hT := hT.below b23
  replace hS := hS.below b23
  replace hU := hU.below b23
  replace hV := hV.below b23
  replace hP := hP.below b23
  replace bw := bw.trans (b23.mono bw.size)
  clear b23
  go_wp2_with fail
  refine (words_big _ _ (m % n) (by omega) hV).mono ?_
  rintro e w24 ⟨v27, rfl, hQ, b24⟩
  replace hA := hA.below b24
  replace hB := hB.below b24
  replace hX := hX.below b24
  replace hY := hY.below b24
  replace hT := hT.below b24
  replace hS := hS.below b24
  replace hU := hU.below b24
  replace hV := hV.below b24
  replace hP := hP.below b24
  replace bw := bw.trans (b24.mono bw.size)
  clear b24
  go_wp2_with fail
  refine (equalU_same _ _ _ _ (by omega) hS hQ).mono ?_
  rintro e w25 ⟨rfl, b25⟩
  replace hA := hA.below b25
  replace hB := hB.below b25
  replace hX := hX.below b25
  replace hY := hY.below b25
  replace hT := hT.below b25
  replace hS := hS.below b25
  replace hU := hU.below b25
  replace hV := hV.below b25
  replace hP := hP.below b25
  replace hQ := hQ.below b25
  replace bw := bw.trans (b25.mono bw.size)
  clear b25
  clear hX hY hA hB hd0 KO K1 K2 K3 K4 K5 K6 K7 K8 K9
  go_wp2
  go_ret
  exact ⟨rfl, bw⟩

set_option maxHeartbeats 8000000 in
set_option maxRecDepth 100000 in
theorem tells_div (C : Face1) (w : World) (a b : Option Addr) (ca cb : Nat) (l k : List Nat) (hl : l.length ≤ 40) (hk : k.length ≤ 40) (hca : l.length ≤ ca) (hcb : k.length ≤ cb) (sl : Words32 l) (sk : Words32 k) (ra : RowU w a l) (rb : RowU w b k) (hmn : wval k ≤ wval l) (h0 : wval k ≠ 0) :
    Calls Try.prog 3 #[.slice a l.length ca, .slice b k.length cb] w fun e w' => e = .returned (.bool true) ∧ Below w.heap.size w w' := by
  have lm := wval_len sl
  have ln := wval_len sk
  have hA : WSl w (.slice a l.length ca) l := ⟨a, ca, rfl, hca, ra⟩
  have hB : WSl w (.slice b k.length cb) k := ⟨b, cb, rfl, hcb, rb⟩
  have K1 : ∀ u v, WSl u v l → Hid _ := fun u v h => hide (ofWords_big u v l (by omega) sl h)
  have K2 : ∀ u v, WSl u v k → Hid _ := fun u v h => hide (ofWords_big u v k (by omega) sk h)
  have K3 : ∀ u v, WSl u v l → Hid _ := fun u v h => hide (C.trim u v l h sl (by omega))
  have K4 : ∀ u v t, WSl u v l → WSl u t k → Hid _ := fun u v t h1 h2 => hide (C.cmp u v t l k h1 h2 sl sk (by omega) (by omega))
  have K5 : ∀ u v, WSl u v l → Hid _ := fun u v h => hide (C.len u v l h sl (by omega))
  have K6 : ∀ u v t, WSl u v l → WSl u t k → Hid _ := fun u v t h1 h2 => hide (C.add u v t l k h1 h2 sl sk (by omega) (by omega))
  have K7 : ∀ u v t, WSl u v l → WSl u t k → Hid _ := fun u v t h1 h2 => hide (C.mul u v t l k h1 h2 sl sk (by omega) (by omega))
  have K8 : ∀ u v t, WSl u v l → WSl u t k → Hid _ := fun u v t h1 h2 => hide (C.sub u v t l k h1 h2 sl sk (by omega) (by omega) hmn)
  have K9 : ∀ u v t, WSl u v l → WSl u t k → Hid _ := fun u v t h1 h2 => hide (C.div u v t l k h1 h2 sl sk (by omega) (by omega) h0)
  have bw := Below.refl w.heap.size w
  generalize wval l = m at *
  generalize wval k = n at *
  have q1 := dig_add_len m n
  have q2 := dig_prod_len m n
  have q3 : (dig (m - n)).length ≤ (dig m).length := dig_len_mono (by omega)
  have q4 : (dig (m / n)).length ≤ (dig m).length := dig_len_mono (Nat.div_le_self _ _)
  have q5 : (dig (m % n)).length ≤ (dig m).length := dig_len_mono (Nat.mod_le _ _)
  have p1 := wdig_len m
  have p2 := wdig_len (m + n)
  have p3 := wdig_len (m * n)
  have p4 := wdig_len (m - n)
  have p5 := wdig_len (m / n)
  have p6 := wdig_len (m % n)
  clear ra rb C
  go_enter Try.func3, Try.ntmps3
  go_wp2_with fail
  refine (unhide (K1 _ _ hA)).mono ?_
  rintro e w1 ⟨vx, rfl, hX, b1⟩
  replace hA := hA.below b1
  replace hB := hB.below b1
  replace bw := bw.trans (b1.mono bw.size)
  clear b1
  go_wp2_with fail
  refine (unhide (K2 _ _ hB)).mono ?_
  rintro e w2 ⟨vy, rfl, hY, b2⟩
  replace hA := hA.below b2
  replace hB := hB.below b2
  replace hX := hX.below b2
  replace bw := bw.trans (b2.mono bw.size)
  clear b2
  obtain ⟨ay, cy, rfl⟩ := slice_len hY
  have KO : ∀ u v x, Lies u v m → Lies u x n → n ≠ 0 → Hid _ := fun u v x h1 h2 h3 => hide (over_any u v x m n (by omega) (by omega) h3 h1 h2)
  have hd0 : (dig n).length = 0 ↔ n = 0 := ⟨fun h => dig_nil.1 (List.length_eq_zero_iff.1 h), fun h => by rw [h, dig_zero]; rfl⟩
  go_wp2_with fail
  refine (unhide (K3 _ _ hA)).mono ?_
  rintro e w3 ⟨v3, rfl, hT, b3⟩
  replace hA := hA.below b3
  replace hB := hB.below b3
  replace hX := hX.below b3
  replace hY := hY.below b3
  replace bw := bw.trans (b3.mono bw.size)
  clear b3
  go_wp2_with fail
  refine (words_big _ _ m (by omega) hX).mono ?_
  rintro e w4 ⟨v4, rfl, hU, b4⟩
  replace hA := hA.below b4
  replace hB := hB.below b4
  replace hX := hX.below b4
  replace hY := hY.below b4
  replace hT := hT.below b4
  replace bw := bw.trans (b4.mono bw.size)
  clear b4
  go_wp2_with fail
  refine (equalU_same _ _ _ _ (by omega) hT hU).mono ?_
  rintro e w5 ⟨rfl, b5⟩
  replace hA := hA.below b5
  replace hB := hB.below b5
  replace hX := hX.below b5
  replace hY := hY.below b5
  replace hT := hT.below b5
  replace hU := hU.below b5
  replace bw := bw.trans (b5.mono bw.size)
  clear b5
  clear hT hU
  go_wp2_with fail
  refine (unhide (K4 _ _ _ hA hB)).mono ?_
  rintro e w6 ⟨rfl, b6⟩
  replace hA := hA.below b6
  replace hB := hB.below b6
  replace hX := hX.below b6
  replace hY := hY.below b6
  replace bw := bw.trans (b6.mono bw.size)
  clear b6
  go_wp2_with fail
  refine (against_any _ _ _ m n (by omega) (by omega) hX hY).mono ?_
  rintro e w7 ⟨rfl, rfl⟩
  go_wp2_with fail
  refine (unhide (K5 _ _ hA)).mono ?_
  rintro e w8 ⟨rfl, b8⟩
  replace hA := hA.below b8
  replace hB := hB.below b8
  replace hX := hX.below b8
  replace hY := hY.below b8
  replace bw := bw.trans (b8.mono bw.size)
  clear b8
  go_wp2_with fail
  refine (halvings_any _ _ m (by omega) hX).mono ?_
  rintro e w9 ⟨rfl, b9⟩
  replace hA := hA.below b9
  replace hB := hB.below b9
  replace hX := hX.below b9
  replace hY := hY.below b9
  replace bw := bw.trans (b9.mono bw.size)
  clear b9
  go_wp2_with fail
  refine (unhide (K6 _ _ _ hA hB)).mono ?_
  rintro e w10 ⟨v8, rfl, hT, b10⟩
  replace hA := hA.below b10
  replace hB := hB.below b10
  replace hX := hX.below b10
  replace hY := hY.below b10
  replace bw := bw.trans (b10.mono bw.size)
  clear b10
  go_wp2_with fail
  refine (plus_any _ _ _ m n (by omega) (by omega) hX hY).mono ?_
  rintro e w11 ⟨v9, rfl, hU, _, b11⟩
  replace hA := hA.below b11
  replace hB := hB.below b11
  replace hX := hX.below b11
  replace hY := hY.below b11
  replace hT := hT.below b11
  replace bw := bw.trans (b11.mono bw.size)
  clear b11
  go_wp2_with fail
  refine (words_big _ _ (m + n) (by omega) hU).mono ?_
  rintro e w12 ⟨v10, rfl, hV, b12⟩
  replace hA := hA.below b12
  replace hB := hB.below b12
  replace hX := hX.below b12
  replace hY := hY.below b12
  replace hT := hT.below b12
  replace hU := hU.below b12
  replace bw := bw.trans (b12.mono bw.size)
  clear b12
  go_wp2_with fail
  refine (equalU_same _ _ _ _ (by omega) hT hV).mono ?_
  rintro e w13 ⟨rfl, b13⟩
  replace hA := hA.below b13
  replace hB := hB.below b13
  replace hX := hX.below b13
  replace hY := hY.below b13
  replace hT := hT.below b13
  replace hU := hU.below b13
  replace hV := hV.below b13
  replace bw := bw.trans (b13.mono bw.size)
  clear b13
  clear hT hU hV
  go_wp2_with fail
  refine (unhide (K7 _ _ _ hA hB)).mono ?_
  rintro e w14 ⟨v12, rfl, hT, b14⟩
  replace hA := hA.below b14
  replace hB := hB.below b14
  replace hX := hX.below b14
  replace hY := hY.below b14
  replace bw := bw.trans (b14.mono bw.size)
  clear b14
  go_wp2_with fail
  refine (by_any _ _ _ m n (by omega) (by omega) hX hY).mono ?_
  rintro e w15 ⟨v13, rfl, hU, _, b15⟩
  replace hA := hA.below b15
  replace hB := hB.below b15
  replace hX := hX.below b15
  replace hY := hY.below b15
  replace hT := hT.below b15
  replace bw := bw.trans (b15.mono bw.size)
  clear b15
  go_wp2_with fail
  refine (words_big _ _ (m * n) (by omega) hU).mono ?_
  rintro e w16 ⟨v14, rfl, hV, b16⟩
  replace hA := hA.below b16
  replace hB := hB.below b16
  replace hX := hX.below b16
  replace hY := hY.below b16
  replace hT := hT.below b16
  replace hU := hU.below b16
  replace bw := bw.trans (b16.mono bw.size)
  clear b16
  go_wp2_with fail
  refine (equalU_same _ _ _ _ (by omega) hT hV).mono ?_
  rintro e w17 ⟨rfl, b17⟩
  replace hA := hA.below b17
  replace hB := hB.below b17
  replace hX := hX.below b17
  replace hY := hY.below b17
  replace hT := hT.below b17
  replace hU := hU.below b17
  replace hV := hV.below b17
  replace bw := bw.trans (b17.mono bw.size)
  clear b17
  clear hT hU hV
  go_wp2_with fail
  refine (unhide (K8 _ _ _ hA hB)).mono ?_
  rintro e w18 ⟨v16, rfl, hT, b18⟩
  replace hA := hA.below b18
  replace hB := hB.below b18
  replace hX := hX.below b18
  replace hY := hY.below b18
  replace bw := bw.trans (b18.mono bw.size)
  clear b18
  have tz : 0 ≤ sgn m n := by unfold sgn; rw [if_neg (by omega)]; split <;> omega
  go_wp2_with fail
  refine (against_any _ _ _ m n (by omega) (by omega) hX hY).mono ?_
  rintro e w19 ⟨rfl, rfl⟩
  generalize sgn m n = z at *
  go_wp2_with fail
  refine (minus_any _ _ _ m n (by omega) (by omega) hX hY).mono ?_
  rintro e w20 ⟨v18, rfl, hU, _, b20⟩
  replace hA := hA.below b20
  replace hB := hB.below b20
  replace hX := hX.below b20
  replace hY := hY.below b20
  replace hT := hT.below b20
  replace bw := bw.trans (b20.mono bw.size)
  clear b20
  go_wp2_with fail
  refine (words_big _ _ (m - n) (by omega) hU).mono ?_
  rintro e w21 ⟨v19, rfl, hV, b21⟩
  replace hA := hA.below b21
  replace hB := hB.below b21
  replace hX := hX.below b21
  replace hY := hY.below b21
  replace hT := hT.below b21
  replace hU := hU.below b21
  replace bw := bw.trans (b21.mono bw.size)
  clear b21
  go_wp2_with fail
  refine (equalU_same _ _ _ _ (by omega) hT hV).mono ?_
  rintro e w22 ⟨rfl, b22⟩
  replace hA := hA.below b22
  replace hB := hB.below b22
  replace hX := hX.below b22
  replace hY := hY.below b22
  replace hT := hT.below b22
  replace hU := hU.below b22
  replace hV := hV.below b22
  replace bw := bw.trans (b22.mono bw.size)
  clear b22
  clear hT hU hV
  have hn0 : n ≠ 0 := by omega
  go_wp2_with fail
  refine (unhide (K9 _ _ _ hA hB)).mono ?_
  rintro e w23 ⟨v21, v22, rfl, hT, hS, b23⟩
  replace hA := hA.below b23
  replace hB := hB.below b23
  replace hX := hX.below b23
  replace hY := hY.below b23
  replace bw := bw.trans (b23.mono bw.size)
  clear b23
  have e0 : (((dig n).length : Int) == 0) = false := beq_false_of_ne (by have := mt hd0.1 hn0; omega)
  go_wp2_with fail
  refine (unhide (KO _ _ _ hX hY hn0)).mono ?_
  rintro e w24 ⟨v23, v24, rfl, hU, hV, _, _, b24⟩
  replace hA := hA.below b24
  replace hB := hB.below b24
  replace hX := hX.below b24
  replace hY := hY.below b24
  replace hT := hT.below b24
  replace hS := hS.below b24
  replace bw := bw.trans (b24.mono bw.size)
  clear b24
  go_wp2_with fail
  refine (words_big _ _ (m / n) (by omega) hU).mono ?_
  rintro e w25 ⟨v25, rfl, hP, b25⟩
  replace hA := hA.below b25
  replace hB := hB.below b25
  replace hX := hX.below b25
  replace hY := hY.below b25
  replace hT := hT.below b25
  replace hS := hS.below b25
  replace hU := hU.below b25
  replace hV := hV.below b25
  replace bw := bw.trans (b25.mono bw.size)
  clear b25
  go_wp2_with fail
  refine (equalU_same _ _ _ _ (by omega) hT hP).mono ?_
  rintro e w26 ⟨rfl, b26⟩
  replace hA := hA.below b26
  replace hB := hB.below b26
  replace hX := hX.below b26
  replace hY := hY.below b26
  replace hT := hT.below b26
  replace hS := hS.below b26
  replace hU := hU.below b26
  replace hV := hV.below b26
  replace hP := hP.below b26
  replace bw := bw.trans (b26.mono bw.size)
  clear b26
  go_wp2_with fail
  refine (words_big _ _ (m % n) (by omega) hV).mono ?_
  rintro e w27 ⟨v27, rfl, hQ, b27⟩
  replace hA := hA.below b27
  replace hB := hB.below b27
  replace hX := hX.below b27
  replace hY := hY.below b27
  replace hT := hT.below b27
  replace hS := hS.below b27
  replace hU := hU.below b27
  replace hV := hV.below b27
  replace hP := hP.below b27
  replace bw := bw.trans (b27.mono bw.size)
  clear b27
  go_wp2_with fail
  refine (equalU_same _ _ _ _ (by omega) hS hQ).mono ?_
  rintro e w28 ⟨rfl, b28⟩
  replace hA := hA.below b28
  replace hB := hB.below b28
  replace hX := hX.below b28
  replace hY := hY.below b28
  replace hT := hT.below b28
  replace hS := hS.below b28
  replace hU := hU.below b28
  replace hV := hV.below b28
  replace hP := hP.below b28
  replace hQ := hQ.below b28
  replace bw := bw.trans (b28.mono bw.size)
  clear b28
  clear hX hY hA hB hd0 KO K1 K2 K3 K4 K5 K6 K7 K8 K9
  go_wp2
  go_ret
  exact ⟨rfl, bw⟩

set_option maxHeartbeats 8000000 in
set_option maxRecDepth 100000 in
theorem tells_none (C : Face1) (w : World) (a b : Option Addr) (ca cb : Nat) (l k : List Nat) (hl : l.length ≤ 40) (hk : k.length ≤ 40) (hca : l.length ≤ ca) (hcb : k.length ≤ cb) (sl : Words32 l) (sk : Words32 k) (ra : RowU w a l) (rb : RowU w b k) (h0 : wval k = 0) :
    Calls Try.prog 3 #[.slice a l.length ca, .slice b k.length cb] w fun e w' => e = .returned (.bool true) ∧ Below w.heap.size w w' := by
  have lm := wval_len sl
  have ln := wval_len sk
  have hA : WSl w (.slice a l.length ca) l := ⟨a, ca, rfl, hca, ra⟩
  have hB : WSl w (.slice b k.length cb) k := ⟨b, cb, rfl, hcb, rb⟩
  have K1 : ∀ u v, WSl u v l → Hid _ := fun u v h => hide (ofWords_big u v l (by omega) sl h)
  have K2 : ∀ u v, WSl u v k → Hid _ := fun u v h => hide (ofWords_big u v k (by omega) sk h)
  have K3 : ∀ u v, WSl u v l → Hid _ := fun u v h => hide (C.trim u v l h sl (by omega))
  have K4 : ∀ u v t, WSl u v l → WSl u t k → Hid _ := fun u v t h1 h2 => hide (C.cmp u v t l k h1 h2 sl sk (by omega) (by omega))
  have K5 : ∀ u v, WSl u v l → Hid _ := fun u v h => hide (C.len u v l h sl (by omega))
  have K6 : ∀ u v t, WSl u v l → WSl u t k → Hid _ := fun u v t h1 h2 => hide (C.add u v t l k h1 h2 sl sk (by omega) (by omega))
  have K7 : ∀ u v t, WSl u v l → WSl u t k → Hid _ := fun u v t h1 h2 => hide (C.mul u v t l k h1 h2 sl sk (by omega) (by omega))
  have K8 : ∀ u v t, WSl u v l → WSl u t k → Hid _ := fun u v t h1 h2 => hide (C.sub u v t l k h1 h2 sl sk (by omega) (by omega) (by omega))
  have K9 : ∀ u v t, WSl u v l → WSl u t k → Hid _ := fun u v t h1 h2 => hide (C.divNone u v t l k h1 h2 sl sk (by omega) (by omega) h0)
  have bw := Below.refl w.heap.size w
  generalize wval l = m at *
  generalize wval k = n at *
  have q1 := dig_add_len m n
  have q2 := dig_prod_len m n
  have q3 : (dig (m - n)).length ≤ (dig m).length := dig_len_mono (by omega)
  have q4 : (dig (m / n)).length ≤ (dig m).length := dig_len_mono (Nat.div_le_self _ _)
  have q5 : (dig (m % n)).length ≤ (dig m).length := dig_len_mono (Nat.mod_le _ _)
  have p1 := wdig_len m
  have p2 := wdig_len (m + n)
  have p3 := wdig_len (m * n)
  have p4 := wdig_len (m - n)
  have p5 := wdig_len (m / n)
  have p6 := wdig_len (m % n)
  clear ra rb C
  have H0 := hide h0
  clear h0
  go_enter Try.func3, Try.ntmps3
  go_wp2_with fail
  refine (unhide (K1 _ _ hA)).mono ?_
  rintro e w1 ⟨vx, rfl, hX, b1⟩
  replace hA := hA.below b1
  replace hB := hB.below b1
  replace bw := bw.trans (b1.mono bw.size)
  clear b1
  go_wp2_with fail
  refine (unhide (K2 _ _ hB)).mono ?_
  rintro e w2 ⟨vy, rfl, hY, b2⟩
  replace hA := hA.below b2
  replace hB := hB.below b2
  replace hX := hX.below b2
  replace bw := bw.trans (b2.mono bw.size)
  clear b2
  obtain ⟨ay, cy, rfl⟩ := slice_len hY
  have KO : ∀ u v x, Lies u v m → Lies u x n → n ≠ 0 → Hid _ := fun u v x h1 h2 h3 => hide (over_any u v x m n (by omega) (by omega) h3 h1 h2)
  have hd0 : (dig n).length = 0 ↔ n = 0 := ⟨fun h => dig_nil.1 (List.length_eq_zero_iff.1 h), fun h => by rw [h, dig_zero]; rfl⟩
  go_wp2_with fail
  refine (unhide (K3 _ _ hA)).mono ?_
  rintro e w3 ⟨v3, rfl, hT, b3⟩
  replace hA := hA.below b3
  replace hB := hB.below b3
  replace hX := hX.below b3
  replace hY := hY.below b3
  replace bw := bw.trans (b3.mono bw.size)
  clear b3
  go_wp2_with fail
  refine (words_big _ _ m (by omega) hX).mono ?_
  rintro e w4 ⟨v4, rfl, hU, b4⟩
  replace hA := hA.below b4
  replace hB := hB.below b4
  replace hX := hX.below b4
  replace hY := hY.below b4
  replace hT := hT.below b4
  replace bw := bw.trans (b4.mono bw.size)
  clear b4
  go_wp2_with fail
  refine (equalU_same _ _ _ _ (by omega) hT hU).mono ?_
  rintro e w5 ⟨rfl, b5⟩
  replace hA := hA.below b5
  replace hB := hB.below b5
  replace hX := hX.below b5
  replace hY := hY.below b5
  replace hT := hT.below b5
  replace hU := hU.below b5
  replace bw := bw.trans (b5.mono bw.size)
  clear b5
  clear hT hU
  go_wp2_with fail
  refine (unhide (K4 _ _ _ hA hB)).mono ?_
  rintro e w6 ⟨rfl, b6⟩
  replace hA := hA.below b6
  replace hB := hB.below b6
  replace hX := hX.below b6
  replace hY := hY.below b6
  replace bw := bw.trans (b6.mono bw.size)
  clear b6
  go_wp2_with fail
  refine (against_any _ _ _ m n (by omega) (by omega) hX hY).mono ?_
  rintro e w7 ⟨rfl, rfl⟩
  go_wp2_with fail
  refine (unhide (K5 _ _ hA)).mono ?_
  rintro e w8 ⟨rfl, b8⟩
  replace hA := hA.below b8
  replace hB := hB.below b8
  replace hX := hX.below b8
  replace hY := hY.below b8
  replace bw := bw.trans (b8.mono bw.size)
  clear b8
  go_wp2_with fail
  refine (halvings_any _ _ m (by omega) hX).mono ?_
  rintro e w9 ⟨rfl, b9⟩
  replace hA := hA.below b9
  replace hB := hB.below b9
  replace hX := hX.below b9
  replace hY := hY.below b9
  replace bw := bw.trans (b9.mono bw.size)
  clear b9
  go_wp2_with fail
  refine (unhide (K6 _ _ _ hA hB)).mono ?_
  rintro e w10 ⟨v8, rfl, hT, b10⟩
  replace hA := hA.below b10
  replace hB := hB.below b10
  replace hX := hX.below b10
  replace hY := hY.below b10
  replace bw := bw.trans (b10.mono bw.size)
  clear b10
  go_wp2_with fail
  refine (plus_any _ _ _ m n (by omega) (by omega) hX hY).mono ?_
  rintro e w11 ⟨v9, rfl, hU, _, b11⟩
  replace hA := hA.below b11
  replace hB := hB.below b11
  replace hX := hX.below b11
  replace hY := hY.below b11
  replace hT := hT.below b11
  replace bw := bw.trans (b11.mono bw.size)
  clear b11
  go_wp2_with fail
  refine (words_big _ _ (m + n) (by omega) hU).mono ?_
  rintro e w12 ⟨v10, rfl, hV, b12⟩
  replace hA := hA.below b12
  replace hB := hB.below b12
  replace hX := hX.below b12
  replace hY := hY.below b12
  replace hT := hT.below b12
  replace hU := hU.below b12
  replace bw := bw.trans (b12.mono bw.size)
  clear b12
  go_wp2_with fail
  refine (equalU_same _ _ _ _ (by omega) hT hV).mono ?_
  rintro e w13 ⟨rfl, b13⟩
  replace hA := hA.below b13
  replace hB := hB.below b13
  replace hX := hX.below b13
  replace hY := hY.below b13
  replace hT := hT.below b13
  replace hU := hU.below b13
  replace hV := hV.below b13
  replace bw := bw.trans (b13.mono bw.size)
  clear b13
  clear hT hU hV
  go_wp2_with fail
  refine (unhide (K7 _ _ _ hA hB)).mono ?_
  rintro e w14 ⟨v12, rfl, hT, b14⟩
  replace hA := hA.below b14
  replace hB := hB.below b14
  replace hX := hX.below b14
  replace hY := hY.below b14
  replace bw := bw.trans (b14.mono bw.size)
  clear b14
  go_wp2_with fail
  refine (by_any _ _ _ m n (by omega) (by omega) hX hY).mono ?_
  rintro e w15 ⟨v13, rfl, hU, _, b15⟩
  replace hA := hA.below b15
  replace hB := hB.below b15
  replace hX := hX.below b15
  replace hY := hY.below b15
  replace hT := hT.below b15
  replace bw := bw.trans (b15.mono bw.size)
  clear b15
  go_wp2_with fail
  refine (words_big _ _ (m * n) (by omega) hU).mono ?_
  rintro e w16 ⟨v14, rfl, hV, b16⟩
  replace hA := hA.below b16
  replace hB := hB.below b16
  replace hX := hX.below b16
  replace hY := hY.below b16
  replace hT := hT.below b16
  replace hU := hU.below b16
  replace bw := bw.trans (b16.mono bw.size)
  clear b16
  go_wp2_with fail
  refine (equalU_same _ _ _ _ (by omega) hT hV).mono ?_
  rintro e w17 ⟨rfl, b17⟩
  replace hA := hA.below b17
  replace hB := hB.below b17
  replace hX := hX.below b17
  replace hY := hY.below b17
  replace hT := hT.below b17
  replace hU := hU.below b17
  replace hV := hV.below b17
  replace bw := bw.trans (b17.mono bw.size)
  clear b17
  clear hT hU hV
  go_wp2_with fail
  refine (unhide (K8 _ _ _ hA hB)).mono ?_
  rintro e w18 ⟨v16, rfl, hT, b18⟩
  replace hA := hA.below b18
  replace hB := hB.below b18
  replace hX := hX.below b18
  replace hY := hY.below b18
  replace bw := bw.trans (b18.mono bw.size)
  clear b18
  have tz : 0 ≤ sgn m n := by unfold sgn; rw [if_neg (by have := unhide H0; omega)]; split <;> omega
  go_wp2_with fail
  refine (against_any _ _ _ m n (by omega) (by omega) hX hY).mono ?_
  rintro e w19 ⟨rfl, rfl⟩
  generalize sgn m n = z at *
  go_wp2_with fail
  refine (minus_any _ _ _ m n (by omega) (by have := unhide H0; omega) hX hY).mono ?_
  rintro e w20 ⟨v18, rfl, hU, _, b20⟩
  replace hA := hA.below b20
  replace hB := hB.below b20
  replace hX := hX.below b20
  replace hY := hY.below b20
  replace hT := hT.below b20
  replace bw := bw.trans (b20.mono bw.size)
  clear b20
  go_wp2_with fail
  refine (words_big _ _ (m - n) (by omega) hU).mono ?_
  rintro e w21 ⟨v19, rfl, hV, b21⟩
  replace hA := hA.below b21
  replace hB := hB.below b21
  replace hX := hX.below b21
  replace hY := hY.below b21
  replace hT := hT.below b21
  replace hU := hU.below b21
  replace bw := bw.trans (b21.mono bw.size)
  clear b21
  go_wp2_with fail
  refine (equalU_same _ _ _ _ (by omega) hT hV).mono ?_
  rintro e w22 ⟨rfl, b22⟩
  replace hA := hA.below b22
  replace hB := hB.below b22
  replace hX := hX.below b22
  replace hY := hY.below b22
  replace hT := hT.below b22
  replace hU := hU.below b22
  replace hV := hV.below b22
  replace bw := bw.trans (b22.mono bw.size)
  clear b22
  clear hT hU hV
  go_wp2_with fail
  refine (unhide (K9 _ _ _ hA hB)).mono ?_
  rintro e w23 ⟨a21, c21, a22, c22, rfl, b23⟩
  replace hA := hA.below b23
  replace hB := hB.below b23
  replace hX := hX.below b23
  replace hY := hY.below b23
  replace bw := bw.trans (b23.mono bw.size)
  clear b23
  have e0 : (dig n).length = 0 := hd0.2 (unhide H0)
  rw [e0]
  clear hX hY hA hB hd0 KO K1 K2 K3 K4 K5 K6 K7 K8 K9 e0
  go_wp2
  go_ret
  exact ⟨rfl, bw⟩

set_option maxHeartbeats 1000000 in
theorem lawTells (C : Face1) (w : World) (a b : Option Addr) (ca cb : Nat) (l k : List Nat) (hl : l.length ≤ 1152921504606846975) (hk : k.length ≤ 1152921504606846975) (hca : l.length ≤ ca) (hcb : k.length ≤ cb) (sl : Words32 l) (sk : Words32 k) (ra : RowU w a l) (rb : RowU w b k) :
    Calls Try.prog 3 #[.slice a l.length ca, .slice b k.length cb] w fun e w' => e = .returned (.bool true) ∧ Below w.heap.size w w' := by
  by_cases h1 : 40 < l.length
  · clear ra rb sl sk C
    go_enter Try.func3, Try.ntmps3
    go_wp2
    go_ret
    exact ⟨rfl, Below.refl _ _⟩
  · by_cases h2 : 40 < k.length
    · clear ra rb sl sk C
      go_enter Try.func3, Try.ntmps3
      go_wp2
      go_ret
      exact ⟨rfl, Below.refl _ _⟩
    · by_cases h0 : wval k = 0
      · exact tells_none C w a b ca cb l k (by omega) (by omega) hca hcb sl sk ra rb h0
      · by_cases h : wval l < wval k
        · exact tells_less C w a b ca cb l k (by omega) (by omega) hca hcb sl sk ra rb h
        · exact tells_div C w a b ca cb l k (by omega) (by omega) hca hcb sl sk ra rb (by omega) h0
end Go.Proofs.Ytgfleflfahabeaa.bigs
