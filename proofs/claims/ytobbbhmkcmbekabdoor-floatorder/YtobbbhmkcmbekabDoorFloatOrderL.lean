/- The walk of the law that a greater number has no lesser fraction. -/
import Derived.Test.YtobbbhmkcmbekabDoorFloatAlive
set_option linter.unusedVariables false
namespace Go.Proofs.YtobbbhmkcmbekabDoor.bigs
open Go.RowKit

set_option maxHeartbeats 8000000 in
set_option maxRecDepth 100000 in
theorem orderIn (w : World) (a b : Option Addr) (ca cb : Nat) (l m : List Nat) (x : Int) (k : Nat) (hA : WSl w (.slice a l.length ca) l) (hB : WSl w (.slice b m.length cb) m) (sl : Words32 l) (sm : Words32 m) (ll : l.length ≤ 10) (lm : m.length ≤ 10) (hx1 : -400 ≤ x) (hx2 : x ≤ 400) (hk : k ≤ 20) :
    Calls Tryd.prog 4 #[.slice a l.length ca, .slice b m.length cb, .int .i64 x, .int .i64 k] w fun e w' => e = .returned (.bool true) ∧ Below w.heap.size w w' := by
  have K0 := hide (floats_any w)
  have K1 := hide (nearW_any w _ l x hA sl (by omega) (by have := bits_words sl; omega) (by omega) (by omega))
  have K2 : ∀ w, WSl w (.slice b m.length cb) m → Hid (Calls Tryd.prog 6 #[.slice b m.length cb, .int .i64 x] w fun e w' => ∃ r : Nat, e = .returned (.tuple #[.int .u64 r, .int .i64 0]) ∧ NearD (wval m) x r ∧ Below w.heap.size w w') := fun w hB => hide (nearW_any w _ m x hB sm (by omega) (by have := bits_words sm; omega) (by omega) (by omega))
  have K3 : ∀ w, Hid (Calls Tryd.prog 8 #[.int .u32 10, .int .i64 k] w fun e w' => ∃ v', e = .returned (.tuple #[v', .int .i64 0]) ∧ WBig w' v' (10 ^ k) ∧ Below w.heap.size w w') := fun w => hide (pow_any w 10 k (by decide) (by omega))
  have hpl : (wdig (10 ^ k)).length ≤ 21 := by have := wdig_pow_len (b := 10) (e := k) (by decide); omega
  have K4 : ∀ w u, WSl w (.slice a l.length ca) l → WBig w u (10 ^ k) → Hid (Calls Tryd.prog 10 #[.slice a l.length ca, u] w fun e w' => ∃ v', e = .returned v' ∧ WBig w' v' (wval l * 10 ^ k) ∧ Below w.heap.size w w') := fun w u hv hu => by
    have h := mul_any w _ u l (wdig (10 ^ k)) hv hu sl (words_wdig _) (by omega) (by omega)
    rw [wval_wdig] at h
    exact hide h
  have hml : (wdig (wval l * 10 ^ k)).length ≤ 31 := by have := wdig_prod_len (wval l) (10 ^ k); have := wdig_len_words sl; omega
  have K5 : ∀ w v, WBig w v (wval l * 10 ^ k) → Hid (Calls Tryd.prog 6 #[v, .int .i64 (x - k)] w fun e w' => ∃ r : Nat, e = .returned (.tuple #[.int .u64 r, .int .i64 0]) ∧ NearD (wval l * 10 ^ k) (x - k) r ∧ Below w.heap.size w w') := fun w v hv => by
    have h := nearW_any w v (wdig (wval l * 10 ^ k)) (x - k) hv (words_wdig _) (by omega) (by have := bits_le_words (wval l * 10 ^ k); rw [wval_wdig]; omega) (by omega) (by omega)
    rw [wval_wdig] at h
    exact hide h
  have K6 : ∀ w, WSl w (.slice a l.length ca) l → WSl w (.slice b m.length cb) m → Hid (Calls Tryd.prog 9 #[.slice a l.length ca, .slice b m.length cb] w fun e w' => e = .returned (.int .i64 (sgn (wval l) (wval m))) ∧ Below w.heap.size w w') := fun w hA hB => hide (cmp_any w _ _ l m hA hB sl sm (by omega) (by omega))
  have MO : ∀ r s, NearD (wval l) x r → NearD (wval m) x s → Hid (wval l ≤ wval m → r ≤ s) := fun r s h h' => hide (fun c => nearD_mono c h h')
  have SC : ∀ r s, NearD (wval l) x r → NearD (wval l * 10 ^ k) (x - k) s → Hid (r = s) := fun r s h h' => hide (nearD_unique (nearD_scale h) h')
  have SG : Hid (¬ wval l ≤ wval m → sgn (wval l) (wval m) = 1) := hide (fun c => sgn_gt (by omega))
  have SG2 : Hid (wval l ≤ wval m → ¬ 0 < sgn (wval l) (wval m)) := hide (fun c => by rcases Nat.lt_or_eq_of_le c with h | h; (rw [sgn_lt h]; decide); (rw [sgn_eq h]; decide))
  clear hpl hml
  generalize hP : wval l * 10 ^ k = P at *
  clear hP
  generalize 10 ^ k = T at *
  have i1 : ¬ (10 : Int) < (l.length : Int) := by omega
  have i2 : ¬ (10 : Int) < (m.length : Int) := by omega
  have i3 : ¬ x < -400 := by omega
  have i4 : ¬ (400 : Int) < x := by omega
  have i5 : ¬ (k : Int) < 0 := by omega
  have i6 : ¬ (20 : Int) < (k : Int) := by omega
  go_enter Tryd.func4, Tryd.ntmps4
  go_wp2_with fail
  refine (unhide K0).mono ?_
  rintro e w0 ⟨rfl, rfl⟩
  clear K0
  go_wp2_with fail
  refine (unhide K1).mono ?_
  rintro e w1 ⟨r1, rfl, hr1, b1⟩
  have HA1 := hA.below b1
  have K2' := K2 w1 (hB.below b1)
  have HR1 := hide hr1
  clear K1 K2 hr1
  go_wp2_with fail
  refine (unhide K2').mono ?_
  rintro e w2 ⟨r2, rfl, hr2, b2⟩
  have bw2 := b1.trans (b2.mono b1.size)
  have M := MO r1 r2 (unhide HR1) hr2
  clear MO hr2 K2' b1 b2 HA1
  go_wp2_with fail
  refine (unhide (K3 w2)).mono ?_
  rintro e w3 ⟨v3, rfl, h3, b3⟩
  have bw3 := bw2.trans (b3.mono bw2.size)
  have K4' := K4 w3 v3 (hA.below bw3) h3
  clear K3 K4 b3 bw2 h3
  go_wp2_with fail
  refine (unhide K4').mono ?_
  rintro e w4 ⟨v4, rfl, h4, b4⟩
  have bw4 := bw3.trans (b4.mono bw3.size)
  have K5' := K5 w4 v4 h4
  clear K4' K5 b4 bw3 h4
  go_wp2_with fail
  refine (unhide K5').mono ?_
  rintro e w5 ⟨r3, rfl, hr3, b5⟩
  have e13 := unhide (SC r1 r3 (unhide HR1) hr3)
  subst e13
  have bw5 := bw4.trans (b5.mono bw4.size)
  have K6' := K6 w5 (hA.below bw5) (hB.below bw5)
  clear SC hr3 HR1 K5' K6 bw4 b5 hA hB
  generalize sgn (wval l) (wval m) = sg at *
  by_cases c : wval l ≤ wval m
  · have t1 := unhide SG2 c
    have t2 : (r1 : Int) ≤ (r2 : Int) := by have := unhide M c; omega
    clear SG SG2 M c
    go_wp2_with fail
    refine (unhide K6').mono ?_
    rintro e w6 ⟨rfl, b6⟩
    have bw6 := bw5.trans (b6.mono bw5.size)
    clear K6' b6 bw5
    go_wp2
    go_ret
    exact ⟨rfl, bw6⟩
  · have t1 := unhide SG c
    subst t1
    clear SG SG2 M c
    go_wp2_with fail
    refine (unhide K6').mono ?_
    rintro e w6 ⟨rfl, b6⟩
    have bw6 := bw5.trans (b6.mono bw5.size)
    clear K6' b6 bw5
    go_wp2
    go_ret
    exact ⟨rfl, bw6⟩
set_option maxHeartbeats 8000000 in
set_option maxRecDepth 100000 in
theorem orderOut (w : World) (a b : Option Addr) (ca cb : Nat) (l m : List Nat) (x k : Int) (ll : l.length ≤ 1152921504606846975) (lm : m.length ≤ 1152921504606846975) (h : 10 < l.length ∨ 10 < m.length ∨ x < -400 ∨ 400 < x ∨ k < 0 ∨ 20 < k) :
    Calls Tryd.prog 4 #[.slice a l.length ca, .slice b m.length cb, .int .i64 x, .int .i64 k] w fun e w' => e = .returned (.bool true) ∧ Below w.heap.size w w' := by
  have K0 := hide (floats_any w)
  by_cases h1 : (10 : Int) < (l.length : Int)
  · go_enter Tryd.func4, Tryd.ntmps4
    go_wp2_with fail
    refine (unhide K0).mono ?_
    rintro e w0 ⟨rfl, rfl⟩
    go_wp2
    go_ret
    exact ⟨rfl, Below.refl _ _⟩
  · by_cases h2 : (10 : Int) < (m.length : Int)
    · go_enter Tryd.func4, Tryd.ntmps4
      go_wp2_with fail
      refine (unhide K0).mono ?_
      rintro e w0 ⟨rfl, rfl⟩
      go_wp2
      go_ret
      exact ⟨rfl, Below.refl _ _⟩
    · by_cases h3 : x < -400
      · go_enter Tryd.func4, Tryd.ntmps4
        go_wp2_with fail
        refine (unhide K0).mono ?_
        rintro e w0 ⟨rfl, rfl⟩
        go_wp2
        go_ret
        exact ⟨rfl, Below.refl _ _⟩
      · by_cases h4 : 400 < x
        · go_enter Tryd.func4, Tryd.ntmps4
          go_wp2_with fail
          refine (unhide K0).mono ?_
          rintro e w0 ⟨rfl, rfl⟩
          go_wp2
          go_ret
          exact ⟨rfl, Below.refl _ _⟩
        · by_cases h5 : k < 0
          · go_enter Tryd.func4, Tryd.ntmps4
            go_wp2_with fail
            refine (unhide K0).mono ?_
            rintro e w0 ⟨rfl, rfl⟩
            go_wp2
            go_ret
            exact ⟨rfl, Below.refl _ _⟩
          · have h6 : 20 < k := by omega
            clear h
            go_enter Tryd.func4, Tryd.ntmps4
            go_wp2_with fail
            refine (unhide K0).mono ?_
            rintro e w0 ⟨rfl, rfl⟩
            go_wp2
            go_ret
            exact ⟨rfl, Below.refl _ _⟩
theorem lawOrder (w : World) (a b : Option Addr) (ca cb : Nat) (l m : List Nat) (x k : Int) (ll : l.length ≤ 1152921504606846975) (lm : m.length ≤ 1152921504606846975) (hca : l.length ≤ ca) (hcb : m.length ≤ cb) (sl : Words32 l) (sm : Words32 m) (ra : RowU w a l) (rb : RowU w b m) :
    Calls Tryd.prog 4 #[.slice a l.length ca, .slice b m.length cb, .int .i64 x, .int .i64 k] w fun e w' => e = .returned (.bool true) ∧ Below w.heap.size w w' := by
  by_cases h : 10 < l.length ∨ 10 < m.length ∨ x < -400 ∨ 400 < x ∨ k < 0 ∨ 20 < k
  · exact orderOut w a b ca cb l m x k ll lm h
  · obtain ⟨n, rfl⟩ : ∃ n : Nat, k = n := ⟨k.toNat, by omega⟩
    exact orderIn w a b ca cb l m x n ⟨_, _, rfl, hca, ra⟩ ⟨_, _, rfl, hcb, rb⟩ sl sm (by omega) (by omega) (by omega) (by omega) (by omega)
end Go.Proofs.YtobbbhmkcmbekabDoor.bigs
