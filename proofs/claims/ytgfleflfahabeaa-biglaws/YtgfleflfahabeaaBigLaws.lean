/- The walks of the laws of sums, products and of the division with a rest, by what each call of package big answers. -/
import Derived.Test.YtgfleflfahabeaaBigFace
import Derived.Test.YtgfleflfahabeaaBigDecs
set_option linter.unusedVariables false
namespace Go.Proofs.Ytgfleflfahabeaa.bigs
open Go.RowKit


/-- A slice of words that tells n. -/
def Num (w : World) (v : Value) (n : Nat) : Prop := ∃ l, WSl w v l ∧ Words32 l ∧ l.length ≤ 2000 ∧ wval l = n
theorem Num.below {w w' : World} {v : Value} {n : Nat} (h : Num w v n) (hb : Below w.heap.size w w') : Num w' v n := by
  obtain ⟨l, h1, h2⟩ := h
  exact ⟨l, h1.below hb, h2⟩
theorem WBig.num {w : World} {v : Value} {n : Nat} (h : WBig w v n) (hl : (wdig n).length ≤ 2000) : Num w v n := ⟨wdig n, h, words_wdig n, hl, wval_wdig n⟩
theorem trimN (C : Face1) (w : World) (v : Value) (n : Nat) (h : Num w v n) : Calls Try.prog 11 #[v] w fun e w' => ∃ v', e = .returned v' ∧ WBig w' v' n ∧ Below w.heap.size w w' := by
  obtain ⟨l, h1, h2, h3, rfl⟩ := h
  exact C.trim w v l h1 h2 h3
theorem cmpN (C : Face1) (w : World) (v u : Value) (m n : Nat) (h : Num w v m) (k : Num w u n) : Calls Try.prog 13 #[v, u] w fun e w' => e = .returned (.int .i64 (sgn m n)) ∧ Below w.heap.size w w' := by
  obtain ⟨l, h1, h2, h3, rfl⟩ := h
  obtain ⟨r, k1, k2, k3, rfl⟩ := k
  exact C.cmp w v u l r h1 k1 h2 k2 h3 k3
theorem lenN (C : Face1) (w : World) (v : Value) (n : Nat) (h : Num w v n) : Calls Try.prog 15 #[v] w fun e w' => e = .returned (.int .i64 (bits n)) ∧ Below w.heap.size w w' := by
  obtain ⟨l, h1, h2, h3, rfl⟩ := h
  exact C.len w v l h1 h2 h3
theorem addN (C : Face1) (w : World) (v u : Value) (m n : Nat) (h : Num w v m) (k : Num w u n) : Calls Try.prog 17 #[v, u] w fun e w' => ∃ v', e = .returned v' ∧ WBig w' v' (m + n) ∧ Below w.heap.size w w' := by
  obtain ⟨l, h1, h2, h3, rfl⟩ := h
  obtain ⟨r, k1, k2, k3, rfl⟩ := k
  exact C.add w v u l r h1 k1 h2 k2 h3 k3
theorem mulN (C : Face1) (w : World) (v u : Value) (m n : Nat) (h : Num w v m) (k : Num w u n) : Calls Try.prog 19 #[v, u] w fun e w' => ∃ v', e = .returned v' ∧ WBig w' v' (m * n) ∧ Below w.heap.size w w' := by
  obtain ⟨l, h1, h2, h3, rfl⟩ := h
  obtain ⟨r, k1, k2, k3, rfl⟩ := k
  exact C.mul w v u l r h1 k1 h2 k2 h3 k3
theorem subN (C : Face1) (w : World) (v u : Value) (m n : Nat) (h : Num w v m) (k : Num w u n) (hle : n ≤ m) : Calls Try.prog 21 #[v, u] w fun e w' => ∃ v', e = .returned (.tuple #[v', .int .i64 0]) ∧ WBig w' v' (m - n) ∧ Below w.heap.size w w' := by
  obtain ⟨l, h1, h2, h3, rfl⟩ := h
  obtain ⟨r, k1, k2, k3, rfl⟩ := k
  exact C.sub w v u l r h1 k1 h2 k2 h3 k3 hle
theorem divN (C : Face1) (w : World) (v u : Value) (m n : Nat) (h : Num w v m) (k : Num w u n) (h0 : n ≠ 0) : Calls Try.prog 23 #[v, u] w fun e w' => ∃ v1 v2, e = .returned (.tuple #[v1, v2, .int .i64 0]) ∧ WBig w' v1 (m / n) ∧ WBig w' v2 (m % n) ∧ Below w.heap.size w w' := by
  obtain ⟨l, h1, h2, h3, rfl⟩ := h
  obtain ⟨r, k1, k2, k3, rfl⟩ := k
  exact C.div w v u l r h1 k1 h2 k2 h3 k3 h0
theorem divNoneN (C : Face1) (w : World) (v u : Value) (m n : Nat) (h : Num w v m) (k : Num w u n) (h0 : n = 0) : Calls Try.prog 23 #[v, u] w fun e w' => ∃ a c a' c', e = .returned (.tuple #[.slice a 0 c, .slice a' 0 c', .int .i64 1]) ∧ Below w.heap.size w w' := by
  obtain ⟨l, h1, h2, h3, rfl⟩ := h
  obtain ⟨r, k1, k2, k3, rfl⟩ := k
  exact C.divNone w v u l r h1 k1 h2 k2 h3 k3 h0
theorem equalN (w : World) (va vb : Value) (m n : Nat) (e : m = n) (hl : (wdig m).length ≤ 2000) (hA : WBig w va m) (hB : WBig w vb n) :
    Calls Try.prog 10 #[va, vb] w fun e w' => e = .returned (.bool true) ∧ Below w.heap.size w w' := by
  subst e
  exact equalU_same w va vb (wdig m) (by omega) hA hB
theorem bits_ne {n : Nat} (h : n ≠ 0) : bits n ≠ 0 := by rw [bits_pos h]; omega


set_option maxHeartbeats 8000000 in
set_option maxRecDepth 100000 in
theorem laws_in (C : Face1) (HB : ∀ w : World, Calls Try.prog 32 #[] w fun e w' => e = .returned (.bool true) ∧ Below w.heap.size w w') (w : World) (a b c : Option Addr) (ca cb cc : Nat) (l k r : List Nat) (m n p : Nat) (hl : l.length ≤ 40) (hk : k.length ≤ 40) (hr : r.length ≤ 40) (hA : Num w (.slice a l.length ca) m) (hB : Num w (.slice b k.length cb) n) (hP : Num w (.slice c r.length cc) p) (hm : (wdig m).length ≤ 40) (hn : (wdig n).length ≤ 40) (hp : (wdig p).length ≤ 40) :
    Calls Try.prog 5 #[.slice a l.length ca, .slice b k.length cb, .slice c r.length cc] w fun e w' => e = .returned (.bool true) ∧ Below w.heap.size w w' := by
  have bw := Below.refl w.heap.size w
  have q1 := wdig_add_len m n
  have q2 := wdig_add_len n m
  have q3 := wdig_add_len n p
  have q4 := wdig_add_len (m + n) p
  have q5 := wdig_add_len m (n + p)
  have q6 := wdig_prod_len m n
  have q7 := wdig_prod_len n m
  have q8 := wdig_prod_len (m * n) p
  have q9 := wdig_prod_len n p
  have q10 := wdig_prod_len m (n * p)
  have q11 := wdig_prod_len m (n + p)
  have q12 := wdig_prod_len m p
  have q13 := wdig_add_len (m * n) (m * p)
  have es : m + n - n = m := by omega
  have ES := hide es
  clear es
  have hfit : ∀ {w v x}, WBig w v x → (wdig x).length ≤ 2000 → Num w v x := fun h h2 => h.num h2
  go_enter Try.func5, Try.ntmps5
  go_wp2_with fail
  refine (HB _).mono ?_
  rintro e w1 ⟨rfl, b1⟩
  replace hA := hA.below b1
  replace hB := hB.below b1
  replace hP := hP.below b1
  replace bw := bw.trans (b1.mono bw.size)
  clear b1
  go_wp2_with fail
  refine (addN C _ _ _ m n hA hB).mono ?_
  rintro e w2 ⟨vs, rfl, hS, b2⟩
  replace hA := hA.below b2
  replace hB := hB.below b2
  replace hP := hP.below b2
  replace bw := bw.trans (b2.mono bw.size)
  clear b2
  go_wp2_with fail
  refine (subN C _ _ _ (m + n) n (hfit hS (by omega)) hB (by omega)).mono ?_
  rintro e w3 ⟨vd, rfl, hD, b3⟩
  replace hA := hA.below b3
  replace hB := hB.below b3
  replace hP := hP.below b3
  replace hS := hS.below b3
  replace bw := bw.trans (b3.mono bw.size)
  clear b3
  go_wp2_with fail
  refine (addN C _ _ _ n m hB hA).mono ?_
  rintro e w4 ⟨v1, rfl, h1, b4⟩
  replace hA := hA.below b4
  replace hB := hB.below b4
  replace hP := hP.below b4
  replace hS := hS.below b4
  replace hD := hD.below b4
  replace bw := bw.trans (b4.mono bw.size)
  clear b4
  go_wp2_with fail
  refine (equalN _ _ _ _ _ (Nat.add_comm m n) (by omega) hS h1).mono ?_
  rintro e w5 ⟨rfl, b5⟩
  replace hA := hA.below b5
  replace hB := hB.below b5
  replace hP := hP.below b5
  replace hS := hS.below b5
  replace hD := hD.below b5
  replace h1 := h1.below b5
  replace bw := bw.trans (b5.mono bw.size)
  clear b5
  clear h1
  go_wp2_with fail
  refine (addN C _ _ _ (m + n) p (hfit hS (by omega)) hP).mono ?_
  rintro e w6 ⟨v1, rfl, h1, b6⟩
  replace hA := hA.below b6
  replace hB := hB.below b6
  replace hP := hP.below b6
  replace hS := hS.below b6
  replace hD := hD.below b6
  replace bw := bw.trans (b6.mono bw.size)
  clear b6
  go_wp2_with fail
  refine (addN C _ _ _ n p hB hP).mono ?_
  rintro e w7 ⟨v2, rfl, h2, b7⟩
  replace hA := hA.below b7
  replace hB := hB.below b7
  replace hP := hP.below b7
  replace hS := hS.below b7
  replace hD := hD.below b7
  replace h1 := h1.below b7
  replace bw := bw.trans (b7.mono bw.size)
  clear b7
  go_wp2_with fail
  refine (addN C _ _ _ m (n + p) hA (hfit h2 (by omega))).mono ?_
  rintro e w8 ⟨v3, rfl, h3, b8⟩
  replace hA := hA.below b8
  replace hB := hB.below b8
  replace hP := hP.below b8
  replace hS := hS.below b8
  replace hD := hD.below b8
  replace h1 := h1.below b8
  replace h2 := h2.below b8
  replace bw := bw.trans (b8.mono bw.size)
  clear b8
  go_wp2_with fail
  refine (equalN _ _ _ _ _ (Nat.add_assoc m n p) (by omega) h1 h3).mono ?_
  rintro e w9 ⟨rfl, b9⟩
  replace hA := hA.below b9
  replace hB := hB.below b9
  replace hP := hP.below b9
  replace hS := hS.below b9
  replace hD := hD.below b9
  replace h1 := h1.below b9
  replace h2 := h2.below b9
  replace h3 := h3.below b9
  replace bw := bw.trans (b9.mono bw.size)
  clear b9
  clear h1 h2 h3
  go_wp2_with fail
  refine (mulN C _ _ _ m n hA hB).mono ?_
  rintro e w10 ⟨v1, rfl, h1, b10⟩
  replace hA := hA.below b10
  replace hB := hB.below b10
  replace hP := hP.below b10
  replace hS := hS.below b10
  replace hD := hD.below b10
  replace bw := bw.trans (b10.mono bw.size)
  clear b10
  go_wp2_with fail
  refine (mulN C _ _ _ n m hB hA).mono ?_
  rintro e w11 ⟨v2, rfl, h2, b11⟩
  replace hA := hA.below b11
  replace hB := hB.below b11
  replace hP := hP.below b11
  replace hS := hS.below b11
  replace hD := hD.below b11
  replace h1 := h1.below b11
  replace bw := bw.trans (b11.mono bw.size)
  clear b11
  go_wp2_with fail
  refine (equalN _ _ _ _ _ (Nat.mul_comm m n) (by omega) h1 h2).mono ?_
  rintro e w12 ⟨rfl, b12⟩
  replace hA := hA.below b12
  replace hB := hB.below b12
  replace hP := hP.below b12
  replace hS := hS.below b12
  replace hD := hD.below b12
  replace h1 := h1.below b12
  replace h2 := h2.below b12
  replace bw := bw.trans (b12.mono bw.size)
  clear b12
  clear h1 h2
  go_wp2_with fail
  refine (mulN C _ _ _ m n hA hB).mono ?_
  rintro e w13 ⟨v1, rfl, h1, b13⟩
  replace hA := hA.below b13
  replace hB := hB.below b13
  replace hP := hP.below b13
  replace hS := hS.below b13
  replace hD := hD.below b13
  replace bw := bw.trans (b13.mono bw.size)
  clear b13
  go_wp2_with fail
  refine (mulN C _ _ _ (m * n) p (hfit h1 (by omega)) hP).mono ?_
  rintro e w14 ⟨v2, rfl, h2, b14⟩
  replace hA := hA.below b14
  replace hB := hB.below b14
  replace hP := hP.below b14
  replace hS := hS.below b14
  replace hD := hD.below b14
  replace h1 := h1.below b14
  replace bw := bw.trans (b14.mono bw.size)
  clear b14
  go_wp2_with fail
  refine (mulN C _ _ _ n p hB hP).mono ?_
  rintro e w15 ⟨v3, rfl, h3, b15⟩
  replace hA := hA.below b15
  replace hB := hB.below b15
  replace hP := hP.below b15
  replace hS := hS.below b15
  replace hD := hD.below b15
  replace h1 := h1.below b15
  replace h2 := h2.below b15
  replace bw := bw.trans (b15.mono bw.size)
  clear b15
  go_wp2_with fail
  refine (mulN C _ _ _ m (n * p) hA (hfit h3 (by omega))).mono ?_
  rintro e w16 ⟨v4, rfl, h4, b16⟩
  replace hA := hA.below b16
  replace hB := hB.below b16
  replace hP := hP.below b16
  replace hS := hS.below b16
  replace hD := hD.below b16
  replace h1 := h1.below b16
  replace h2 := h2.below b16
  replace h3 := h3.below b16
  replace bw := bw.trans (b16.mono bw.size)
  clear b16
  go_wp2_with fail
  refine (equalN _ _ _ _ _ (Nat.mul_assoc m n p) (by omega) h2 h4).mono ?_
  rintro e w17 ⟨rfl, b17⟩
  replace hA := hA.below b17
  replace hB := hB.below b17
  replace hP := hP.below b17
  replace hS := hS.below b17
  replace hD := hD.below b17
  replace h1 := h1.below b17
  replace h2 := h2.below b17
  replace h3 := h3.below b17
  replace h4 := h4.below b17
  replace bw := bw.trans (b17.mono bw.size)
  clear b17
  clear h1 h2 h3 h4
  go_wp2_with fail
  refine (addN C _ _ _ n p hB hP).mono ?_
  rintro e w18 ⟨v1, rfl, h1, b18⟩
  replace hA := hA.below b18
  replace hB := hB.below b18
  replace hP := hP.below b18
  replace hS := hS.below b18
  replace hD := hD.below b18
  replace bw := bw.trans (b18.mono bw.size)
  clear b18
  go_wp2_with fail
  refine (mulN C _ _ _ m (n + p) hA (hfit h1 (by omega))).mono ?_
  rintro e w19 ⟨v2, rfl, h2, b19⟩
  replace hA := hA.below b19
  replace hB := hB.below b19
  replace hP := hP.below b19
  replace hS := hS.below b19
  replace hD := hD.below b19
  replace h1 := h1.below b19
  replace bw := bw.trans (b19.mono bw.size)
  clear b19
  go_wp2_with fail
  refine (mulN C _ _ _ m n hA hB).mono ?_
  rintro e w20 ⟨v3, rfl, h3, b20⟩
  replace hA := hA.below b20
  replace hB := hB.below b20
  replace hP := hP.below b20
  replace hS := hS.below b20
  replace hD := hD.below b20
  replace h1 := h1.below b20
  replace h2 := h2.below b20
  replace bw := bw.trans (b20.mono bw.size)
  clear b20
  go_wp2_with fail
  refine (mulN C _ _ _ m p hA hP).mono ?_
  rintro e w21 ⟨v4, rfl, h4, b21⟩
  replace hA := hA.below b21
  replace hB := hB.below b21
  replace hP := hP.below b21
  replace hS := hS.below b21
  replace hD := hD.below b21
  replace h1 := h1.below b21
  replace h2 := h2.below b21
  replace h3 := h3.below b21
  replace bw := bw.trans (b21.mono bw.size)
  clear b21
  go_wp2_with fail
  refine (addN C _ _ _ (m * n) (m * p) (hfit h3 (by omega)) (hfit h4 (by omega))).mono ?_
  rintro e w22 ⟨v5, rfl, h5, b22⟩
  replace hA := hA.below b22
  replace hB := hB.below b22
  replace hP := hP.below b22
  replace hS := hS.below b22
  replace hD := hD.below b22
  replace h1 := h1.below b22
  replace h2 := h2.below b22
  replace h3 := h3.below b22
  replace h4 := h4.below b22
  replace bw := bw.trans (b22.mono bw.size)
  clear b22
  go_wp2_with fail
  refine (equalN _ _ _ _ _ (Nat.mul_add m n p) (by omega) h2 h5).mono ?_
  rintro e w23 ⟨rfl, b23⟩
  replace hA := hA.below b23
  replace hB := hB.below b23
  replace hP := hP.below b23
  replace hS := hS.below b23
  replace hD := hD.below b23
  replace h1 := h1.below b23
  replace h2 := h2.below b23
  replace h3 := h3.below b23
  replace h4 := h4.below b23
  replace h5 := h5.below b23
  replace bw := bw.trans (b23.mono bw.size)
  clear b23
  clear h1 h2 h3 h4 h5
  go_wp2_with fail
  refine (trimN C _ _ m hA).mono ?_
  rintro e w24 ⟨v1, rfl, h1, b24⟩
  replace hA := hA.below b24
  replace hB := hB.below b24
  replace hP := hP.below b24
  replace hS := hS.below b24
  replace hD := hD.below b24
  replace bw := bw.trans (b24.mono bw.size)
  clear b24
  go_wp2_with fail
  refine (equalN _ _ _ _ _ (unhide ES) (by rw [unhide ES]; omega) hD h1).mono ?_
  rintro e w25 ⟨rfl, b25⟩
  replace hA := hA.below b25
  replace hB := hB.below b25
  replace hP := hP.below b25
  replace hS := hS.below b25
  replace hD := hD.below b25
  replace h1 := h1.below b25
  replace bw := bw.trans (b25.mono bw.size)
  clear b25
  clear hA hB hP hS hD h1 C HB
  go_wp2
  go_ret
  exact ⟨rfl, bw⟩

set_option maxHeartbeats 8000000 in
set_option maxRecDepth 100000 in
theorem back_none (C : Face1) (HB : ∀ w : World, Calls Try.prog 32 #[] w fun e w' => e = .returned (.bool true) ∧ Below w.heap.size w w') (w : World) (a b c : Option Addr) (ca cb cc : Nat) (l k r : List Nat) (m n p : Nat) (hl : l.length ≤ 40) (hk : k.length ≤ 40) (hr : r.length ≤ 40) (hA : Num w (.slice a l.length ca) m) (hB : Num w (.slice b k.length cb) n) (hP : Num w (.slice c r.length cc) p) (hm : (wdig m).length ≤ 40) (hn : (wdig n).length ≤ 40) (hp : (wdig p).length ≤ 40) (h0 : n = 0) :
    Calls Try.prog 6 #[.slice a l.length ca, .slice b k.length cb, .slice c r.length cc] w fun e w' => e = .returned (.bool true) ∧ Below w.heap.size w w' := by
  have bw := Below.refl w.heap.size w
  have q1 := wdig_mono_len (Nat.div_le_self m n)
  have q2 := wdig_mono_len (Nat.mod_le m n)
  have q3 := wdig_prod_len (m / n) n
  have q4 := wdig_add_len (m / n * n) (m % n)
  have q5 := wdig_prod_len m n
  have q6 := wdig_add_len (m * n) p
  have hfit : ∀ {w v x}, WBig w v x → (wdig x).length ≤ 2000 → Num w v x := fun h h2 => h.num h2
  have K : ∀ u v x, Num u v m → Num u x n → Hid _ := fun u v x h1 h2 => hide (divNoneN C u v x m n h1 h2 h0)
  have e0 : bits n = 0 := by rw [h0, bits_zero]
  have E0 := hide e0
  clear e0 h0
  go_enter Try.func6, Try.ntmps6
  go_wp2_with fail
  refine (HB _).mono ?_
  rintro e w1 ⟨rfl, b1⟩
  replace hA := hA.below b1
  replace hB := hB.below b1
  replace hP := hP.below b1
  replace bw := bw.trans (b1.mono bw.size)
  clear b1
  go_wp2_with fail
  refine (unhide (K _ _ _ hA hB)).mono ?_
  rintro e w2 ⟨a1, c1, a2, c2, rfl, b2⟩
  replace hA := hA.below b2
  replace hB := hB.below b2
  replace hP := hP.below b2
  replace bw := bw.trans (b2.mono bw.size)
  clear b2
  go_wp2_with fail
  refine (lenN C _ _ n hB).mono ?_
  rintro e w3 ⟨rfl, b3⟩
  replace hA := hA.below b3
  replace hB := hB.below b3
  replace hP := hP.below b3
  replace bw := bw.trans (b3.mono bw.size)
  clear b3
  rw [unhide E0]
  clear hA hB hP C HB K
  go_wp2
  go_ret
  exact ⟨rfl, bw⟩

set_option maxHeartbeats 8000000 in
set_option maxRecDepth 100000 in
theorem back_more (C : Face1) (HB : ∀ w : World, Calls Try.prog 32 #[] w fun e w' => e = .returned (.bool true) ∧ Below w.heap.size w w') (w : World) (a b c : Option Addr) (ca cb cc : Nat) (l k r : List Nat) (m n p : Nat) (hl : l.length ≤ 40) (hk : k.length ≤ 40) (hr : r.length ≤ 40) (hA : Num w (.slice a l.length ca) m) (hB : Num w (.slice b k.length cb) n) (hP : Num w (.slice c r.length cc) p) (hm : (wdig m).length ≤ 40) (hn : (wdig n).length ≤ 40) (hp : (wdig p).length ≤ 40) (h0 : n ≠ 0) (hpn : n ≤ p) :
    Calls Try.prog 6 #[.slice a l.length ca, .slice b k.length cb, .slice c r.length cc] w fun e w' => e = .returned (.bool true) ∧ Below w.heap.size w w' := by
  have bw := Below.refl w.heap.size w
  have q1 := wdig_mono_len (Nat.div_le_self m n)
  have q2 := wdig_mono_len (Nat.mod_le m n)
  have q3 := wdig_prod_len (m / n) n
  have q4 := wdig_add_len (m / n * n) (m % n)
  have q5 := wdig_prod_len m n
  have q6 := wdig_add_len (m * n) p
  have hfit : ∀ {w v x}, WBig w v x → (wdig x).length ≤ 2000 → Num w v x := fun h h2 => h.num h2
  have H0 := hide h0
  clear h0
  have e1 : sgn (m % n) n = -1 := sgn_lt (Nat.mod_lt _ (by have := unhide H0; omega))
  have e2 : sgn (m / n * n + m % n) m = 0 := sgn_eq (by rw [Nat.mul_comm]; exact Nat.div_add_mod m n)
  have e3 := bits_ne (unhide H0)
  have E1 := hide e1
  have E2 := hide e2
  clear e1 e2
  go_enter Try.func6, Try.ntmps6
  go_wp2_with fail
  refine (HB _).mono ?_
  rintro e w1 ⟨rfl, b1⟩
  replace hA := hA.below b1
  replace hB := hB.below b1
  replace hP := hP.below b1
  replace bw := bw.trans (b1.mono bw.size)
  clear b1
  go_wp2_with fail
  refine (divN C _ _ _ m n hA hB (unhide H0)).mono ?_
  rintro e w2 ⟨vq, vl, rfl, hQ, hR, b2⟩
  replace hA := hA.below b2
  replace hB := hB.below b2
  replace hP := hP.below b2
  replace bw := bw.trans (b2.mono bw.size)
  clear b2
  go_wp2_with fail
  refine (lenN C _ _ n hB).mono ?_
  rintro e w3 ⟨rfl, b3⟩
  replace hA := hA.below b3
  replace hB := hB.below b3
  replace hP := hP.below b3
  replace hQ := hQ.below b3
  replace hR := hR.below b3
  replace bw := bw.trans (b3.mono bw.size)
  clear b3
  generalize bits n = z at *
  go_wp2_with fail
  refine (cmpN C _ _ _ (m % n) n (hfit hR (by omega)) hB).mono ?_
  rintro e w4 ⟨rfl, b4⟩
  replace hA := hA.below b4
  replace hB := hB.below b4
  replace hP := hP.below b4
  replace hQ := hQ.below b4
  replace hR := hR.below b4
  replace bw := bw.trans (b4.mono bw.size)
  clear b4
  rw [unhide E1]
  go_wp2_with fail
  refine (mulN C _ _ _ (m / n) n (hfit hQ (by omega)) hB).mono ?_
  rintro e w5 ⟨v1, rfl, h1, b5⟩
  replace hA := hA.below b5
  replace hB := hB.below b5
  replace hP := hP.below b5
  replace hQ := hQ.below b5
  replace hR := hR.below b5
  replace bw := bw.trans (b5.mono bw.size)
  clear b5
  go_wp2_with fail
  refine (addN C _ _ _ (m / n * n) (m % n) (hfit h1 (by omega)) (hfit hR (by omega))).mono ?_
  rintro e w6 ⟨v2, rfl, h2, b6⟩
  replace hA := hA.below b6
  replace hB := hB.below b6
  replace hP := hP.below b6
  replace hQ := hQ.below b6
  replace hR := hR.below b6
  replace h1 := h1.below b6
  replace bw := bw.trans (b6.mono bw.size)
  clear b6
  go_wp2_with fail
  refine (cmpN C _ _ _ (m / n * n + m % n) m (hfit h2 (by omega)) hA).mono ?_
  rintro e w7 ⟨rfl, b7⟩
  replace hA := hA.below b7
  replace hB := hB.below b7
  replace hP := hP.below b7
  replace hQ := hQ.below b7
  replace hR := hR.below b7
  replace h1 := h1.below b7
  replace h2 := h2.below b7
  replace bw := bw.trans (b7.mono bw.size)
  clear b7
  rw [unhide E2]
  clear h1 h2 hQ hR
  go_wp2_with fail
  refine (cmpN C _ _ _ p n hP hB).mono ?_
  rintro e w8 ⟨rfl, b8⟩
  replace hA := hA.below b8
  replace hB := hB.below b8
  replace hP := hP.below b8
  replace bw := bw.trans (b8.mono bw.size)
  clear b8
  have e5 : 0 ≤ sgn p n := by unfold sgn; rw [if_neg (by omega)]; split <;> omega
  generalize sgn p n = y at *
  clear hA hB hP C HB
  go_wp2
  go_ret
  exact ⟨rfl, bw⟩

set_option maxHeartbeats 8000000 in
set_option maxRecDepth 100000 in
theorem back_one (C : Face1) (HB : ∀ w : World, Calls Try.prog 32 #[] w fun e w' => e = .returned (.bool true) ∧ Below w.heap.size w w') (w : World) (a b c : Option Addr) (ca cb cc : Nat) (l k r : List Nat) (m n p : Nat) (hl : l.length ≤ 40) (hk : k.length ≤ 40) (hr : r.length ≤ 40) (hA : Num w (.slice a l.length ca) m) (hB : Num w (.slice b k.length cb) n) (hP : Num w (.slice c r.length cc) p) (hm : (wdig m).length ≤ 40) (hn : (wdig n).length ≤ 40) (hp : (wdig p).length ≤ 40) (h0 : n ≠ 0) (hpn : p < n) :
    Calls Try.prog 6 #[.slice a l.length ca, .slice b k.length cb, .slice c r.length cc] w fun e w' => e = .returned (.bool true) ∧ Below w.heap.size w w' := by
  have bw := Below.refl w.heap.size w
  have q1 := wdig_mono_len (Nat.div_le_self m n)
  have q2 := wdig_mono_len (Nat.mod_le m n)
  have q3 := wdig_prod_len (m / n) n
  have q4 := wdig_add_len (m / n * n) (m % n)
  have q5 := wdig_prod_len m n
  have q6 := wdig_add_len (m * n) p
  have hfit : ∀ {w v x}, WBig w v x → (wdig x).length ≤ 2000 → Num w v x := fun h h2 => h.num h2
  have H0 := hide h0
  clear h0
  have e1 : sgn (m % n) n = -1 := sgn_lt (Nat.mod_lt _ (by have := unhide H0; omega))
  have e2 : sgn (m / n * n + m % n) m = 0 := sgn_eq (by rw [Nat.mul_comm]; exact Nat.div_add_mod m n)
  have e3 := bits_ne (unhide H0)
  have e4 := hide (over_end (m := m * n + p) (n := n) (Q := m) (r := p) rfl)
  have E1 := hide e1
  have E2 := hide e2
  clear e1 e2
  go_enter Try.func6, Try.ntmps6
  go_wp2_with fail
  refine (HB _).mono ?_
  rintro e w1 ⟨rfl, b1⟩
  replace hA := hA.below b1
  replace hB := hB.below b1
  replace hP := hP.below b1
  replace bw := bw.trans (b1.mono bw.size)
  clear b1
  go_wp2_with fail
  refine (divN C _ _ _ m n hA hB (unhide H0)).mono ?_
  rintro e w2 ⟨vq, vl, rfl, hQ, hR, b2⟩
  replace hA := hA.below b2
  replace hB := hB.below b2
  replace hP := hP.below b2
  replace bw := bw.trans (b2.mono bw.size)
  clear b2
  go_wp2_with fail
  refine (lenN C _ _ n hB).mono ?_
  rintro e w3 ⟨rfl, b3⟩
  replace hA := hA.below b3
  replace hB := hB.below b3
  replace hP := hP.below b3
  replace hQ := hQ.below b3
  replace hR := hR.below b3
  replace bw := bw.trans (b3.mono bw.size)
  clear b3
  generalize bits n = z at *
  go_wp2_with fail
  refine (cmpN C _ _ _ (m % n) n (hfit hR (by omega)) hB).mono ?_
  rintro e w4 ⟨rfl, b4⟩
  replace hA := hA.below b4
  replace hB := hB.below b4
  replace hP := hP.below b4
  replace hQ := hQ.below b4
  replace hR := hR.below b4
  replace bw := bw.trans (b4.mono bw.size)
  clear b4
  rw [unhide E1]
  go_wp2_with fail
  refine (mulN C _ _ _ (m / n) n (hfit hQ (by omega)) hB).mono ?_
  rintro e w5 ⟨v1, rfl, h1, b5⟩
  replace hA := hA.below b5
  replace hB := hB.below b5
  replace hP := hP.below b5
  replace hQ := hQ.below b5
  replace hR := hR.below b5
  replace bw := bw.trans (b5.mono bw.size)
  clear b5
  go_wp2_with fail
  refine (addN C _ _ _ (m / n * n) (m % n) (hfit h1 (by omega)) (hfit hR (by omega))).mono ?_
  rintro e w6 ⟨v2, rfl, h2, b6⟩
  replace hA := hA.below b6
  replace hB := hB.below b6
  replace hP := hP.below b6
  replace hQ := hQ.below b6
  replace hR := hR.below b6
  replace h1 := h1.below b6
  replace bw := bw.trans (b6.mono bw.size)
  clear b6
  go_wp2_with fail
  refine (cmpN C _ _ _ (m / n * n + m % n) m (hfit h2 (by omega)) hA).mono ?_
  rintro e w7 ⟨rfl, b7⟩
  replace hA := hA.below b7
  replace hB := hB.below b7
  replace hP := hP.below b7
  replace hQ := hQ.below b7
  replace hR := hR.below b7
  replace h1 := h1.below b7
  replace h2 := h2.below b7
  replace bw := bw.trans (b7.mono bw.size)
  clear b7
  rw [unhide E2]
  clear h1 h2 hQ hR
  go_wp2_with fail
  refine (cmpN C _ _ _ p n hP hB).mono ?_
  rintro e w8 ⟨rfl, b8⟩
  replace hA := hA.below b8
  replace hB := hB.below b8
  replace hP := hP.below b8
  replace bw := bw.trans (b8.mono bw.size)
  clear b8
  have e5 : sgn p n = -1 := sgn_lt hpn
  rw [e5]
  go_wp2_with fail
  refine (mulN C _ _ _ m n hA hB).mono ?_
  rintro e w9 ⟨v1, rfl, h1, b9⟩
  replace hA := hA.below b9
  replace hB := hB.below b9
  replace hP := hP.below b9
  replace bw := bw.trans (b9.mono bw.size)
  clear b9
  go_wp2_with fail
  refine (addN C _ _ _ (m * n) p (hfit h1 (by omega)) hP).mono ?_
  rintro e w10 ⟨v2, rfl, h2, b10⟩
  replace hA := hA.below b10
  replace hB := hB.below b10
  replace hP := hP.below b10
  replace h1 := h1.below b10
  replace bw := bw.trans (b10.mono bw.size)
  clear b10
  go_wp2_with fail
  refine (divN C _ _ _ (m * n + p) n (hfit h2 (by omega)) hB (unhide H0)).mono ?_
  rintro e w11 ⟨v3, v4, rfl, h3, h4, b11⟩
  replace hA := hA.below b11
  replace hB := hB.below b11
  replace hP := hP.below b11
  replace h1 := h1.below b11
  replace h2 := h2.below b11
  replace bw := bw.trans (b11.mono bw.size)
  clear b11
  rw [(unhide e4 hpn).1] at h3
  rw [(unhide e4 hpn).2] at h4
  clear h1 h2
  go_wp2_with fail
  refine (trimN C _ _ m hA).mono ?_
  rintro e w12 ⟨v5, rfl, h5, b12⟩
  replace hA := hA.below b12
  replace hB := hB.below b12
  replace hP := hP.below b12
  replace h3 := h3.below b12
  replace h4 := h4.below b12
  replace bw := bw.trans (b12.mono bw.size)
  clear b12
  go_wp2_with fail
  refine (equalN _ _ _ _ _ rfl (by omega) h3 h5).mono ?_
  rintro e w13 ⟨rfl, b13⟩
  replace hA := hA.below b13
  replace hB := hB.below b13
  replace hP := hP.below b13
  replace h3 := h3.below b13
  replace h4 := h4.below b13
  replace h5 := h5.below b13
  replace bw := bw.trans (b13.mono bw.size)
  clear b13
  go_wp2_with fail
  refine (trimN C _ _ p hP).mono ?_
  rintro e w14 ⟨v6, rfl, h6, b14⟩
  replace hA := hA.below b14
  replace hB := hB.below b14
  replace hP := hP.below b14
  replace h3 := h3.below b14
  replace h4 := h4.below b14
  replace h5 := h5.below b14
  replace bw := bw.trans (b14.mono bw.size)
  clear b14
  go_wp2_with fail
  refine (equalN _ _ _ _ _ rfl (by omega) h4 h6).mono ?_
  rintro e w15 ⟨rfl, b15⟩
  replace hA := hA.below b15
  replace hB := hB.below b15
  replace hP := hP.below b15
  replace h3 := h3.below b15
  replace h4 := h4.below b15
  replace h5 := h5.below b15
  replace h6 := h6.below b15
  replace bw := bw.trans (b15.mono bw.size)
  clear b15
  clear hA hB hP C HB h3 h4 h5 h6 e4
  go_wp2
  go_ret
  exact ⟨rfl, bw⟩

set_option maxHeartbeats 1000000 in
theorem lawLaws (C : Face1) (HB : ∀ w : World, Calls Try.prog 32 #[] w fun e w' => e = .returned (.bool true) ∧ Below w.heap.size w w') (w : World) (a b c : Option Addr) (ca cb cc : Nat) (l k r : List Nat) (hl : l.length ≤ 1152921504606846975) (hk : k.length ≤ 1152921504606846975) (hr : r.length ≤ 1152921504606846975) (hca : l.length ≤ ca) (hcb : k.length ≤ cb) (hcc : r.length ≤ cc) (sl : Words32 l) (sk : Words32 k) (sr : Words32 r) (ra : RowU w a l) (rb : RowU w b k) (rc : RowU w c r) :
    Calls Try.prog 5 #[.slice a l.length ca, .slice b k.length cb, .slice c r.length cc] w fun e w' => e = .returned (.bool true) ∧ Below w.heap.size w w' := by
  by_cases h1 : 40 < l.length
  · clear ra rb rc sl sk sr C
    go_enter Try.func5, Try.ntmps5
    go_wp2_with fail
    refine (HB w).mono ?_
    rintro e w1 ⟨rfl, b1⟩
    go_wp2
    go_ret
    exact ⟨rfl, b1⟩
  · by_cases h2 : 40 < k.length
    · clear ra rb rc sl sk sr C
      go_enter Try.func5, Try.ntmps5
      go_wp2_with fail
      refine (HB w).mono ?_
      rintro e w1 ⟨rfl, b1⟩
      go_wp2
      go_ret
      exact ⟨rfl, b1⟩
    · by_cases h3 : 40 < r.length
      · clear ra rb rc sl sk sr C
        go_enter Try.func5, Try.ntmps5
        go_wp2_with fail
        refine (HB w).mono ?_
        rintro e w1 ⟨rfl, b1⟩
        go_wp2
        go_ret
        exact ⟨rfl, b1⟩
      · have nA : Num w (.slice a l.length ca) (wval l) := ⟨l, ⟨a, ca, rfl, hca, ra⟩, sl, by omega, rfl⟩
        have nB : Num w (.slice b k.length cb) (wval k) := ⟨k, ⟨b, cb, rfl, hcb, rb⟩, sk, by omega, rfl⟩
        have nP : Num w (.slice c r.length cc) (wval r) := ⟨r, ⟨c, cc, rfl, hcc, rc⟩, sr, by omega, rfl⟩
        have e1 := wdig_wval_len sl
        have e2 := wdig_wval_len sk
        have e3 := wdig_wval_len sr
        exact laws_in C HB w a b c ca cb cc l k r _ _ _ (by omega) (by omega) (by omega) nA nB nP (by omega) (by omega) (by omega)

set_option maxHeartbeats 1000000 in
theorem lawBack (C : Face1) (HB : ∀ w : World, Calls Try.prog 32 #[] w fun e w' => e = .returned (.bool true) ∧ Below w.heap.size w w') (w : World) (a b c : Option Addr) (ca cb cc : Nat) (l k r : List Nat) (hl : l.length ≤ 1152921504606846975) (hk : k.length ≤ 1152921504606846975) (hr : r.length ≤ 1152921504606846975) (hca : l.length ≤ ca) (hcb : k.length ≤ cb) (hcc : r.length ≤ cc) (sl : Words32 l) (sk : Words32 k) (sr : Words32 r) (ra : RowU w a l) (rb : RowU w b k) (rc : RowU w c r) :
    Calls Try.prog 6 #[.slice a l.length ca, .slice b k.length cb, .slice c r.length cc] w fun e w' => e = .returned (.bool true) ∧ Below w.heap.size w w' := by
  by_cases h1 : 40 < l.length
  · clear ra rb rc sl sk sr C
    go_enter Try.func6, Try.ntmps6
    go_wp2_with fail
    refine (HB w).mono ?_
    rintro e w1 ⟨rfl, b1⟩
    go_wp2
    go_ret
    exact ⟨rfl, b1⟩
  · by_cases h2 : 40 < k.length
    · clear ra rb rc sl sk sr C
      go_enter Try.func6, Try.ntmps6
      go_wp2_with fail
      refine (HB w).mono ?_
      rintro e w1 ⟨rfl, b1⟩
      go_wp2
      go_ret
      exact ⟨rfl, b1⟩
    · by_cases h3 : 40 < r.length
      · clear ra rb rc sl sk sr C
        go_enter Try.func6, Try.ntmps6
        go_wp2_with fail
        refine (HB w).mono ?_
        rintro e w1 ⟨rfl, b1⟩
        go_wp2
        go_ret
        exact ⟨rfl, b1⟩
      · have nA : Num w (.slice a l.length ca) (wval l) := ⟨l, ⟨a, ca, rfl, hca, ra⟩, sl, by omega, rfl⟩
        have nB : Num w (.slice b k.length cb) (wval k) := ⟨k, ⟨b, cb, rfl, hcb, rb⟩, sk, by omega, rfl⟩
        have nP : Num w (.slice c r.length cc) (wval r) := ⟨r, ⟨c, cc, rfl, hcc, rc⟩, sr, by omega, rfl⟩
        have e1 := wdig_wval_len sl
        have e2 := wdig_wval_len sk
        have e3 := wdig_wval_len sr
        by_cases h0 : wval k = 0
        · exact back_none C HB w a b c ca cb cc l k r _ _ _ (by omega) (by omega) (by omega) nA nB nP (by omega) (by omega) (by omega) h0
        · by_cases hp : wval r < wval k
          · exact back_one C HB w a b c ca cb cc l k r _ _ _ (by omega) (by omega) (by omega) nA nB nP (by omega) (by omega) (by omega) h0 hp
          · exact back_more C HB w a b c ca cb cc l k r _ _ _ (by omega) (by omega) (by omega) nA nB nP (by omega) (by omega) (by omega) h0 (by omega)

end Go.Proofs.Ytgfleflfahabeaa.bigs
