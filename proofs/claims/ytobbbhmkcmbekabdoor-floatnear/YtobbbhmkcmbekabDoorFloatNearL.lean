/- The walk of Clinger's law: no other fraction is nearer. -/
import Derived.Test.YtobbbhmkcmbekabDoorFloatExact
import Derived.Laws.BitsAllLaws
set_option linter.unusedVariables false
namespace Go.Proofs.YtobbbhmkcmbekabDoor.bigs
open Go.RowKit

theorem andNot_sign (x : Nat) (hx : x < 18446744073709551616) : Go.bits .andNot .u64 (x : Int) 9223372036854775808 = ((x % 9223372036854775808 : Nat) : Int) := by
  have h := u64_andNot_nat x 9223372036854775808 hx (by decide)
  have e : (18446744073709551615 - 9223372036854775808 : Nat) = 2 ^ 63 - 1 := by decide
  rw [e, Nat.and_two_pow_sub_one_eq_mod] at h
  exact h
theorem and_low (x : Nat) (hx : x < 18446744073709551616) : Go.bits .and .u64 (x : Int) 1 = ((x % 2 : Nat) : Int) := by
  have h := bits_mask .u64 64 (by decide) wraps64 1 (by decide) (x : Int) (by omega) (by omega)
  have e : ((2 : Int) ^ 1 - 1) = 1 := by decide
  rw [e] at h
  rw [h]
  omega
theorem pow10_len (n : Nat) (h : n ≤ 400) : (wdig (10 ^ n)).length ≤ 401 := by have := wdig_pow_len (b := 10) (e := n) (by decide); omega
theorem frac_len (r : Nat) (hr : r < 9218868437227405312) : (wdig ((fparts r).1 * 2 ^ ((fparts r).2.1).toNat)).length ≤ 1000 ∧ (wdig (2 ^ (-(fparts r).2.1).toNat)).length ≤ 1100 := by
  obtain ⟨-, -, p1, p2, -, p3⟩ := parts_frac r hr
  have h1 := wdig_shift_len (m := (fparts r).1) (N := ((fparts r).2.1).toNat)
  have h2 := wdig_len_lt (n := (fparts r).1) (k := 2) (Nat.lt_trans p3 (by decide))
  have h3 := wdig_pow_len (b := 2) (e := (-(fparts r).2.1).toNat) (by decide)
  omega
theorem dist_le (a b : Nat) : distOf a b ≤ max a b := by unfold distOf; split <;> omega
theorem dist_len {a b n : Nat} (h1 : (wdig a).length ≤ n) (h2 : (wdig b).length ≤ n) : (wdig (distOf a b)).length ≤ n := by
  rcases Nat.le_total a b with h | h
  · exact Nat.le_trans (wdig_mono (Nat.le_trans (dist_le a b) (by omega))) h2
  · exact Nat.le_trans (wdig_mono (Nat.le_trans (dist_le a b) (by omega))) h1
theorem prod_len {a b m n : Nat} (h1 : (wdig a).length ≤ m) (h2 : (wdig b).length ≤ n) : (wdig (a * b)).length ≤ m + n := by have := wdig_prod_len a b; omega
set_option maxHeartbeats 16000000 in
set_option maxRecDepth 100000 in
theorem nearIn (w : World) (a : Option Addr) (ca : Nat) (l : List Nat) (x : Int) (o s r : Nat) (hA : WSl w (.slice a l.length ca) l) (sl : Words32 l) (ll : l.length ≤ 10) (hx1 : -400 ≤ x) (hx2 : x ≤ 400) (ho : Go.bits .andNot .u64 (o : Int) 9223372036854775808 = (s : Int)) (hs : s < 9218868437227405312) (hr : r < 9218868437227405312)
    (K1 : Hid (Calls Tryd.prog 6 #[.slice a l.length ca, .int .i64 x] w fun e w' => e = .returned (.tuple #[.int .u64 r, .int .i64 0]) ∧ NearD (wval l) x r ∧ Below w.heap.size w w')) :
    Calls Tryd.prog 3 #[.slice a l.length ca, .int .i64 x, .int .u64 o] w fun e w' => e = .returned (.bool true) ∧ Below w.heap.size w w' := by
  have K0 := hide (floats_any w)
  obtain ⟨U, hU⟩ : ∃ U : Nat, U = x.toNat := ⟨_, rfl⟩
  obtain ⟨D, hD⟩ : ∃ D : Nat, D = (-x).toNat := ⟨_, rfl⟩
  have m1 : max x 0 = (U : Int) := by omega
  have m2 : max (-x) 0 = (D : Int) := by omega
  have hA0 : Nm w (.slice a l.length ca) (wval l) := ⟨l, hA, sl, by omega, rfl⟩
  have hml : (wdig (wval l)).length ≤ 10 := Nat.le_trans (wdig_len_words sl) ll
  have pU := pow10_len U (by omega)
  have pD := pow10_len D (by omega)
  have nl := prod_len hml pU
  have K2 : ∀ w, Hid (Calls Tryd.prog 8 #[.int .u32 10, .int .i64 U] w fun e w' => ∃ v', e = .returned (.tuple #[v', .int .i64 0]) ∧ WBig w' v' (10 ^ U) ∧ Below w.heap.size w w') := fun w => hide (pow_any w 10 U (by decide) (by omega))
  have K3 : ∀ w, Hid (Calls Tryd.prog 8 #[.int .u32 10, .int .i64 D] w fun e w' => ∃ v', e = .returned (.tuple #[v', .int .i64 0]) ∧ WBig w' v' (10 ^ D) ∧ Below w.heap.size w w') := fun w => hide (pow_any w 10 D (by decide) (by omega))
  have K4 : ∀ w u, Nm w (.slice a l.length ca) (wval l) → WBig w u (10 ^ U) → Hid (Calls Tryd.prog 10 #[.slice a l.length ca, u] w fun e w' => ∃ v', e = .returned v' ∧ WBig w' v' (wval l * 10 ^ U) ∧ Below w.heap.size w w') := fun w u h k => hide (nm_mul w _ u _ _ h (nm_big k (by omega)))
  obtain ⟨lr1, lr2⟩ := frac_len r hr
  obtain ⟨ls1, ls2⟩ := frac_len s hs
  have er := frac_eq r hr
  have es := frac_eq s hs
  have K5 : ∀ w, Hid _ := fun w => hide (exact_any w r hr)
  have K6 : ∀ w, Hid _ := fun w => hide (exact_any w s hs)
  have FAR : NearD (wval l) x r → s ≠ r → _ := fun h k => nearD_far h hr k
  rw [← hU, ← hD] at FAR
  have pr : 0 < 2 ^ (-(fparts r).2.1).toNat := Nat.pow_pos (by decide)
  have ps : 0 < 2 ^ (-(fparts s).2.1).toNat := Nat.pow_pos (by decide)
  generalize (fparts r).1 * 2 ^ ((fparts r).2.1).toNat = A at *
  generalize 2 ^ (-(fparts r).2.1).toNat = B at *
  generalize (fparts s).1 * 2 ^ ((fparts s).2.1).toNat = C at *
  generalize 2 ^ (-(fparts s).2.1).toNat = E at *
  obtain ⟨LF1, LF2⟩ := law_far (num := wval l * 10 ^ U) (den := 10 ^ D) (r := r) (s := s) pr ps (p10 D) er es
  have q1 := prod_len nl lr2
  have q2 := prod_len lr1 pD
  have q3 := prod_len nl ls2
  have q4 := prod_len ls1 pD
  have q5 := prod_len pD lr2
  have q6 := prod_len pD ls2
  have d1 := dist_len (n := 1520) (Nat.le_trans q1 (by omega)) (Nat.le_trans q2 (by omega))
  have d2 := dist_len (n := 1520) (Nat.le_trans q3 (by omega)) (Nat.le_trans q4 (by omega))
  have z1 := prod_len d1 q6
  have z2 := prod_len d2 q5
  have K7 : ∀ w vn vd va vb, WBig w vn (wval l * 10 ^ U) → WBig w vd (10 ^ D) → Nm w va A → Nm w vb B → Hid _ := fun w vn vd va vb h1 h2 h3 h4 => hide (apart_any w vn vd va vb _ _ _ _ (nm_big h1 (by omega)) (nm_big h2 (by omega)) h3 h4 (by omega) (by omega))
  have K8 : ∀ w vn vd va vb, WBig w vn (wval l * 10 ^ U) → WBig w vd (10 ^ D) → Nm w va C → Nm w vb E → Hid _ := fun w vn vd va vb h1 h2 h3 h4 => hide (apart_any w vn vd va vb _ _ _ _ (nm_big h1 (by omega)) (nm_big h2 (by omega)) h3 h4 (by omega) (by omega))
  have K9 : ∀ w v u, WBig w v (distOf (wval l * 10 ^ U * B) (A * 10 ^ D)) → WBig w u (10 ^ D * E) → Hid _ := fun w v u h k => hide (nm_mul w v u _ _ (nm_big h (by omega)) (nm_big k (by omega)))
  have K10 : ∀ w v u, WBig w v (distOf (wval l * 10 ^ U * E) (C * 10 ^ D)) → WBig w u (10 ^ D * B) → Hid _ := fun w v u h k => hide (nm_mul w v u _ _ (nm_big h (by omega)) (nm_big k (by omega)))
  have K11 : ∀ w v u, WBig w v (distOf (wval l * 10 ^ U * B) (A * 10 ^ D) * (10 ^ D * E)) → WBig w u (distOf (wval l * 10 ^ U * E) (C * 10 ^ D) * (10 ^ D * B)) → Hid _ := fun w v u h k => hide (nm_cmp w v u _ _ (nm_big h (by omega)) (nm_big k (by omega)))
  have SG : NearD (wval l) x r → Hid (s = r ∨ sgn (distOf (wval l * 10 ^ U * B) (A * 10 ^ D) * (10 ^ D * E)) (distOf (wval l * 10 ^ U * E) (C * 10 ^ D) * (10 ^ D * B)) = -1 ∨ (sgn (distOf (wval l * 10 ^ U * B) (A * 10 ^ D) * (10 ^ D * E)) (distOf (wval l * 10 ^ U * E) (C * 10 ^ D) * (10 ^ D * B)) = 0 ∧ r % 2 = 0)) := fun h => hide (by
    by_cases c : s = r
    · exact .inl c
    · right
      rcases FAR h c with f | ⟨f1, f2⟩
      · exact .inl (sgn_lt (LF1.2 f))
      · exact .inr ⟨sgn_eq (LF2.2 f1), f2⟩)
  clear FAR LF1 LF2 q1 q2 q3 q4 q5 q6 d1 d2 z1 z2 er es pr ps lr1 lr2 ls1 ls2 nl pU pD hml
  have hand := and_low r (by omega)
  have hr1 : ¬ (9218868437227405312 : Int) ≤ (r : Int) := by omega
  have hs1 : ¬ (9218868437227405312 : Int) ≤ (s : Int) := by omega
  generalize distOf (wval l * 10 ^ U * B) (A * 10 ^ D) = X1 at *
  generalize distOf (wval l * 10 ^ U * E) (C * 10 ^ D) = X2 at *
  generalize wval l * 10 ^ U = N at *
  generalize 10 ^ U = T1 at *
  generalize 10 ^ D = T2 at *
  generalize T2 * B = Y1 at *
  generalize T2 * E = Y2 at *
  generalize X1 * Y2 = Z1 at *
  generalize X2 * Y1 = Z2 at *
  have i1 : ¬ (10 : Int) < (l.length : Int) := by omega
  have i3 : ¬ x < -400 := by omega
  have i4 : ¬ (400 : Int) < x := by omega
  clear hU hD
  have bRI : (0 : Int) ≤ (r : Int) := by omega
  have bSI : (0 : Int) ≤ (s : Int) := by omega
  have uRI : (r : Int) < 9218868437227405312 := by omega
  have uSI : (s : Int) < 9218868437227405312 := by omega
  clear hr hs hr1 hs1
  generalize hRI : (r : Int) = rI at *
  generalize hSI : (s : Int) = sI at *
  have HEQ : Hid (s = r → sI = rI) := hide (fun h => by rw [← hSI, ← hRI, h])
  clear hRI hSI
  generalize hpar : ((r % 2 : Nat) : Int) = par at *
  have HPAR := hide hpar
  clear hpar
  go_enter Tryd.func3, Tryd.ntmps3
  go_wp2_with fail
  refine (unhide K0).mono ?_
  rintro e w0 ⟨rfl, rfl⟩
  clear K0
  go_wp2_with fail
  refine (unhide K1).mono ?_
  rintro e w1 ⟨rfl, hr2, b1⟩
  have S1 := SG hr2
  clear SG hr2 K1
  go_wp2_with fail
  refine (unhide (K2 w1)).mono ?_
  rintro e w2 ⟨v2, rfl, h2, b2⟩
  have bw2 := b1.trans (b2.mono b1.size)
  clear b1 K2
  go_wp2_with fail
  refine (unhide (K3 w2)).mono ?_
  rintro e w3 ⟨v3, rfl, h3, b3⟩
  have bw3 := bw2.trans (b3.mono bw2.size)
  have K4' := K4 w3 v2 (hA0.below bw3) (h2.below b3)
  clear b2 bw2 K3 K4 h2 b3
  go_wp2_with fail
  refine (unhide K4').mono ?_
  rintro e w4 ⟨v4, rfl, h4, b4⟩
  have bw4 := bw3.trans (b4.mono bw3.size)
  have h3' := h3.below b4
  clear K4' h3 b4 bw3
  go_wp2_with fail
  refine (unhide (K5 w4)).mono ?_
  rintro e w5 ⟨v5, u5, rfl, h5, g5, b5⟩
  have bw5 := bw4.trans (b5.mono bw4.size)
  have h3'' := h3'.below b5
  have h4' := h4.below b5
  clear K5 b5 bw4 h3' h4
  go_wp2_with fail
  refine (unhide (K6 w5)).mono ?_
  rintro e w6 ⟨v6, u6, rfl, h6, g6, b6⟩
  have bw6 := bw5.trans (b6.mono bw5.size)
  have n6 := h4'.below b6
  have d6 := h3''.below b6
  have K7' := K7 w6 v4 v3 v5 u5 n6 d6 (h5.below b6) (g5.below b6)
  clear K6 K7 h4' h3'' h5 g5 b6 bw5
  go_wp2_with fail
  refine (unhide K7').mono ?_
  rintro e w7 ⟨v7, u7, rfl, h7, g7, b7⟩
  have bw7 := bw6.trans (b7.mono bw6.size)
  have K8' := K8 w7 v4 v3 v6 u6 (n6.below b7) (d6.below b7) (h6.below b7) (g6.below b7)
  clear K7' K8 n6 d6 h6 g6 b7 bw6
  go_wp2_with fail
  refine (unhide K8').mono ?_
  rintro e w8 ⟨v8, u8', rfl, h8, g8, b8⟩
  have bw8 := bw7.trans (b8.mono bw7.size)
  have K9' := K9 w8 v7 u8' (h7.below b8) g8
  have g7' := g7.below b8
  clear K8' K9 h7 g7 g8 b8 bw7
  go_wp2_with fail
  refine (unhide K9').mono ?_
  rintro e w9 ⟨v9, rfl, h9, b9⟩
  have bw9 := bw8.trans (b9.mono bw8.size)
  have K10' := K10 w9 v8 u7 (h8.below b9) (g7'.below b9)
  clear K9' K10 h8 g7' b9 bw8
  go_wp2_with fail
  refine (unhide K10').mono ?_
  rintro e w10 ⟨v10, rfl, h10, b10⟩
  have bw10 := bw9.trans (b10.mono bw9.size)
  have K11' := K11 w10 v9 v10 (h9.below b10) h10
  clear K10' K11 h9 h10 b10 bw9
  go_wp2_with fail
  refine (unhide K11').mono ?_
  rintro e w11 ⟨rfl, b11⟩
  have bw11 := bw10.trans (b11.mono bw10.size)
  clear K11' b11 bw10 hA hA0
  rcases unhide S1 with e1 | e1 | ⟨e1, e2⟩
  · have e3 := unhide HEQ e1
    subst e3
    clear S1 HEQ e1
    go_wp2
    all_goals (go_ret; exact ⟨rfl, bw11⟩)
  · rw [e1]
    clear S1 e1
    go_wp2
    go_ret
    exact ⟨rfl, bw11⟩
  · rw [e1]
    have e3 := unhide HPAR
    rw [e2] at e3
    subst e3
    clear S1 e1 e2 HPAR
    go_wp2
    all_goals (go_ret; exact ⟨rfl, bw11⟩)
set_option maxHeartbeats 16000000 in
set_option maxRecDepth 100000 in
theorem nearInf (w : World) (a : Option Addr) (ca : Nat) (l : List Nat) (x : Int) (o s : Nat) (hA : WSl w (.slice a l.length ca) l) (sl : Words32 l) (ll : l.length ≤ 10) (hx1 : -400 ≤ x) (hx2 : x ≤ 400) (ho : Go.bits .andNot .u64 (o : Int) 9223372036854775808 = (s : Int)) (hs : s < 9218868437227405312)
    (hinf : NearD (wval l) x 9218868437227405312)
    (K1 : Hid (Calls Tryd.prog 6 #[.slice a l.length ca, .int .i64 x] w fun e w' => e = .returned (.tuple #[.int .u64 9218868437227405312, .int .i64 0]) ∧ Below w.heap.size w w')) :
    Calls Tryd.prog 3 #[.slice a l.length ca, .int .i64 x, .int .u64 o] w fun e w' => e = .returned (.bool true) ∧ Below w.heap.size w w' := by
  have K0 := hide (floats_any w)
  have LE := nearD_inf hinf
  obtain ⟨U, hU⟩ : ∃ U : Nat, U = x.toNat := ⟨_, rfl⟩
  obtain ⟨D, hD⟩ : ∃ D : Nat, D = (-x).toNat := ⟨_, rfl⟩
  rw [← hU, ← hD] at LE
  have m1 : max x 0 = (U : Int) := by omega
  have m2 : max (-x) 0 = (D : Int) := by omega
  have hA0 : Nm w (.slice a l.length ca) (wval l) := ⟨l, hA, sl, by omega, rfl⟩
  have hml : (wdig (wval l)).length ≤ 10 := Nat.le_trans (wdig_len_words sl) ll
  have pU := pow10_len U (by omega)
  have pD := pow10_len D (by omega)
  have nl := prod_len hml pU
  have K2 : ∀ w, Hid (Calls Tryd.prog 8 #[.int .u32 10, .int .i64 U] w fun e w' => ∃ v', e = .returned (.tuple #[v', .int .i64 0]) ∧ WBig w' v' (10 ^ U) ∧ Below w.heap.size w w') := fun w => hide (pow_any w 10 U (by decide) (by omega))
  have K3 : ∀ w, Hid (Calls Tryd.prog 8 #[.int .u32 10, .int .i64 D] w fun e w' => ∃ v', e = .returned (.tuple #[v', .int .i64 0]) ∧ WBig w' v' (10 ^ D) ∧ Below w.heap.size w w') := fun w => hide (pow_any w 10 D (by decide) (by omega))
  have K4 : ∀ w u, Nm w (.slice a l.length ca) (wval l) → WBig w u (10 ^ U) → Hid (Calls Tryd.prog 10 #[.slice a l.length ca, u] w fun e w' => ∃ v', e = .returned v' ∧ WBig w' v' (wval l * 10 ^ U) ∧ Below w.heap.size w w') := fun w u h k => hide (nm_mul w _ u _ _ h (nm_big k (by omega)))
  have w2 : wval [4294967295, 4194303] = 18014398509481983 := by simp [wval]
  have KS : ∀ w v, WSl w v [4294967295, 4194303] → Hid (Calls Tryd.prog 7 #[v, .int .i64 970] w fun e w' => ∃ v', e = .returned (.tuple #[v', .int .i64 0]) ∧ WBig w' v' (18014398509481983 * 2 ^ c970) ∧ Below w.heap.size w w') := fun w v hv => by
    have h := shiftUp_any w v [4294967295, 4194303] c970 hv (words_cons.2 ⟨by decide, words_one (by decide)⟩) (by simp) (by decide)
    have e970 : ((c970 : Nat) : Int) = 970 := rfl
    rw [w2, e970] at h
    exact hide h
  have ql : (wdig (18014398509481983 * 2 ^ c970)).length ≤ 1000 := by
    have h1 := wdig_shift_len (m := 18014398509481983) (N := c970)
    have h2 := wdig_len_lt (n := 18014398509481983) (k := 2) (by decide)
    have h3 : c970 = 970 := rfl
    omega
  have q2 := prod_len ql pD
  have K5 : ∀ w v u, WBig w v (18014398509481983 * 2 ^ c970) → WBig w u (10 ^ D) → Hid (Calls Tryd.prog 10 #[v, u] w fun e w' => ∃ v', e = .returned v' ∧ WBig w' v' (18014398509481983 * 2 ^ c970 * 10 ^ D) ∧ Below w.heap.size w w') := fun w v u h k => hide (nm_mul w v u _ _ (nm_big h (by omega)) (nm_big k (by omega)))
  have K6 : ∀ w v u, WBig w v (wval l * 10 ^ U) → WBig w u (18014398509481983 * 2 ^ c970 * 10 ^ D) → Hid (Calls Tryd.prog 9 #[v, u] w fun e w' => e = .returned (.int .i64 (sgn (wval l * 10 ^ U) (18014398509481983 * 2 ^ c970 * 10 ^ D))) ∧ Below w.heap.size w w') := fun w v u h k => hide (nm_cmp w v u _ _ (nm_big h (by omega)) (nm_big k (by omega)))
  have SG := sgn_ge LE
  clear LE q2 ql nl pU pD hml hinf w2
  generalize 18014398509481983 * 2 ^ c970 * 10 ^ D = Q at *
  generalize 18014398509481983 * 2 ^ c970 = M at *
  generalize wval l * 10 ^ U = N at *
  generalize 10 ^ U = T1 at *
  generalize 10 ^ D = T2 at *
  generalize sgn N Q = sg at *
  have i1 : ¬ (10 : Int) < (l.length : Int) := by omega
  have i3 : ¬ x < -400 := by omega
  have i4 : ¬ (400 : Int) < x := by omega
  have bSI : (0 : Int) ≤ (s : Int) := by omega
  have uSI : (s : Int) < 9218868437227405312 := by omega
  clear hU hD hs
  generalize (s : Int) = sI at *
  go_enter Tryd.func3, Tryd.ntmps3
  go_wp2_with fail
  refine (unhide K0).mono ?_
  rintro e w0 ⟨rfl, rfl⟩
  clear K0
  go_wp2_with fail
  refine (unhide K1).mono ?_
  rintro e w1 ⟨rfl, b1⟩
  clear K1
  have q1 : WSl (w1.alloc (.cells #[.int .u32 ((4294967295 : Nat) : Int), .int .u32 ((4194303 : Nat) : Int)] 30)) (.slice (some ⟨w1.heap.size, 0, none⟩) 2 2) [4294967295, 4194303] := ⟨_, _, rfl, by simp, lit_two w1 4294967295 4194303⟩
  have b2 : Below w1.heap.size w1 (w1.alloc (.cells #[.int .u32 ((4294967295 : Nat) : Int), .int .u32 ((4194303 : Nat) : Int)] 30)) := (Below.refl _ _).alloc (Nat.le_refl _) _
  have bw2 := b1.trans (b2.mono b1.size)
  have KS' := KS _ _ q1
  clear KS q1 b2 b1
  go_wp2_with fail
  refine (unhide KS').mono ?_
  rintro e w3 ⟨v3, rfl, h3, b3⟩
  have bw3 := bw2.trans (b3.mono bw2.size)
  clear KS' b3 bw2
  go_wp2_with fail
  refine (unhide (K2 w3)).mono ?_
  rintro e w4 ⟨v4, rfl, h4, b4⟩
  have bw4 := bw3.trans (b4.mono bw3.size)
  have h3' := h3.below b4
  clear K2 b4 bw3 h3
  go_wp2_with fail
  refine (unhide (K3 w4)).mono ?_
  rintro e w5 ⟨v5, rfl, h5, b5⟩
  have bw5 := bw4.trans (b5.mono bw4.size)
  have h3'' := h3'.below b5
  have K4' := K4 w5 v4 (hA0.below bw5) (h4.below b5)
  clear K3 K4 b5 bw4 h3' h4
  go_wp2_with fail
  refine (unhide K4').mono ?_
  rintro e w6 ⟨v6, rfl, h6, b6⟩
  have bw6 := bw5.trans (b6.mono bw5.size)
  have K5' := K5 w6 v3 v5 (h3''.below b6) (h5.below b6)
  clear K4' K5 b6 bw5 h3'' h5
  go_wp2_with fail
  refine (unhide K5').mono ?_
  rintro e w7 ⟨v7, rfl, h7, b7⟩
  have bw7 := bw6.trans (b7.mono bw6.size)
  have K6' := K6 w7 v6 v7 (h6.below b7) h7
  clear K5' K6 b7 bw6 h6 h7 hA hA0
  go_wp2_with fail
  refine (unhide K6').mono ?_
  rintro e w8 ⟨rfl, b8⟩
  have bw8 := bw7.trans (b8.mono bw7.size)
  clear K6' b8 bw7
  go_wp2
  go_ret
  exact ⟨by first | rfl | simp [SG], bw8⟩
set_option maxHeartbeats 8000000 in
set_option maxRecDepth 100000 in
theorem nearOut (w : World) (a : Option Addr) (ca : Nat) (l : List Nat) (x : Int) (o s : Nat) (ll : l.length ≤ 1152921504606846975) (ho : Go.bits .andNot .u64 (o : Int) 9223372036854775808 = (s : Int)) (hs : s < 18446744073709551616) (h : 10 < l.length ∨ x < -400 ∨ 400 < x ∨ 9218868437227405312 ≤ s) :
    Calls Tryd.prog 3 #[.slice a l.length ca, .int .i64 x, .int .u64 o] w fun e w' => e = .returned (.bool true) ∧ Below w.heap.size w w' := by
  have K0 := hide (floats_any w)
  have h' : (10 : Int) < (l.length : Int) ∨ x < -400 ∨ 400 < x ∨ (9218868437227405312 : Int) ≤ (s : Int) := by omega
  clear h hs
  generalize (s : Int) = sI at *
  by_cases h1 : (10 : Int) < (l.length : Int)
  · clear h'
    go_enter Tryd.func3, Tryd.ntmps3
    go_wp2_with fail
    refine (unhide K0).mono ?_
    rintro e w0 ⟨rfl, rfl⟩
    go_wp2
    go_ret
    exact ⟨rfl, Below.refl _ _⟩
  · by_cases h3 : x < -400
    · clear h'
      go_enter Tryd.func3, Tryd.ntmps3
      go_wp2_with fail
      refine (unhide K0).mono ?_
      rintro e w0 ⟨rfl, rfl⟩
      go_wp2
      go_ret
      exact ⟨rfl, Below.refl _ _⟩
    · by_cases h4 : 400 < x
      · clear h'
        go_enter Tryd.func3, Tryd.ntmps3
        go_wp2_with fail
        refine (unhide K0).mono ?_
        rintro e w0 ⟨rfl, rfl⟩
        go_wp2
        go_ret
        exact ⟨rfl, Below.refl _ _⟩
      · have h6 : (9218868437227405312 : Int) ≤ sI := by omega
        clear h'
        go_enter Tryd.func3, Tryd.ntmps3
        go_wp2_with fail
        refine (unhide K0).mono ?_
        rintro e w0 ⟨rfl, rfl⟩
        go_wp2
        go_ret
        exact ⟨rfl, Below.refl _ _⟩
theorem nearD_exists (m : Nat) (x : Int) : ∃ r, NearD m x r := by
  by_cases h : m = 0
  · exact ⟨0, .inl ⟨h, rfl⟩⟩
  · obtain ⟨r, hr⟩ := near_exists (m * 10 ^ x.toNat) (10 ^ (-x).toNat) (p10 _)
    exact ⟨r, .inr ⟨h, hr⟩⟩
theorem lawNear (w : World) (a : Option Addr) (ca : Nat) (l : List Nat) (x : Int) (o : Nat) (ll : l.length ≤ 1152921504606846975) (hca : l.length ≤ ca) (sl : Words32 l) (ra : RowU w a l) (hO : o < 18446744073709551616) :
    Calls Tryd.prog 3 #[.slice a l.length ca, .int .i64 x, .int .u64 o] w fun e w' => e = .returned (.bool true) ∧ Below w.heap.size w w' := by
  have ho := andNot_sign o hO
  have hs : o % 9223372036854775808 < 18446744073709551616 := by omega
  generalize o % 9223372036854775808 = s at *
  by_cases h : 10 < l.length ∨ x < -400 ∨ 400 < x ∨ 9218868437227405312 ≤ s
  · exact nearOut w a ca l x o s ll ho hs h
  · have hA : WSl w (.slice a l.length ca) l := ⟨_, _, rfl, hca, ra⟩
    have l10 : l.length ≤ 10 := by omega
    obtain ⟨r, hr⟩ := nearD_exists (wval l) x
    have K := nearW_any w _ l x hA sl (by omega) (by have := bits_words sl; omega) (by omega) (by omega)
    have hrr := nearD_range hr
    by_cases c : r = 9218868437227405312
    · subst c
      refine nearInf w a ca l x o s hA sl l10 (by omega) (by omega) ho (by omega) hr (hide (K.mono ?_))
      rintro e w' ⟨r', rfl, h', b⟩
      rw [← nearD_unique hr h']
      exact ⟨rfl, b⟩
    · refine nearIn w a ca l x o s r hA sl l10 (by omega) (by omega) ho (by omega) (by omega) (hide (K.mono ?_))
      rintro e w' ⟨r', rfl, h', b⟩
      rw [← nearD_unique hr h']
      exact ⟨rfl, hr, b⟩
end Go.Proofs.YtobbbhmkcmbekabDoor.bigs
