/- What Near of package float answers, as the document says it; and the walk of the law over it. -/
import Derived.Test.YtobbbhmkcmbekaaFloatTexts
import Derived.Test.YtobbbhmkcmbekaaBigFace
set_option linter.unusedVariables false
namespace Go.Proofs.Ytobbbhmkcmbekaa.bigs
open Go.RowKit

structure FaceNear : Prop where
  nil : ∀ (w : World) (v : Value) (l : List Nat) (x : Int), WSl w v l → Words32 l → l.length ≤ 45 → wval l = 0 → -1000 ≤ x → x ≤ 1000 → Calls Try.prog 4 #[v, .int .i64 x] w fun e w' => e = .returned (.tuple #[.int .u64 0, .int .i64 0]) ∧ Below w.heap.size w w'
  up : ∀ (w : World) (v : Value) (l : List Nat) (N : Nat), WSl w v l → Words32 l → l.length ≤ 45 → wval l ≠ 0 → bits (wval l) ≤ 1280 → N ≤ 1000 → Calls Try.prog 4 #[v, .int .i64 N] w fun e w' => ∃ r : Nat, e = .returned (.tuple #[.int .u64 r, .int .i64 0]) ∧ Near (wval l * 10 ^ N) 1 r ∧ Below w.heap.size w w'
  down : ∀ (w : World) (v : Value) (l : List Nat) (N : Nat), WSl w v l → Words32 l → l.length ≤ 45 → wval l ≠ 0 → bits (wval l) ≤ 1280 → 1 ≤ N → N ≤ 1000 → Calls Try.prog 4 #[v, .int .i64 (-(N : Int))] w fun e w' => ∃ r : Nat, e = .returned (.tuple #[.int .u64 r, .int .i64 0]) ∧ Near (wval l) (10 ^ N) r ∧ Below w.heap.size w w'
  large : ∀ (w : World) (v : Value) (l : List Nat) (x : Int), WSl w v l → Words32 l → l.length ≤ 45 → (1280 < bits (wval l) ∨ x < -1000 ∨ 1000 < x) → Calls Try.prog 4 #[v, .int .i64 x] w fun e w' => e = .returned (.tuple #[.int .u64 0, .int .i64 2]) ∧ Below w.heap.size w w'

set_option maxHeartbeats 8000000 in
set_option maxRecDepth 100000 in
theorem nearsLarge (C : FaceNear) (w : World) (v : Value) (l : List Nat) (x : Int) (hA : WSl w v l) (sl : Words32 l) (hl : l.length ≤ 45) (hx : 1280 < bits (wval l) ∨ x < -1000 ∨ 1000 < x) :
    Calls Try.prog 3 #[v, .int .i64 x] w fun e w' => e = .returned (.bool true) ∧ Below w.heap.size w w' := by
  have lm := wval_len sl
  have K1 := hide (C.large w v l x hA sl hl hx)
  have K2 : ∀ u v, WSl u v l → Hid _ := fun u v h => hide (ofWords_big u v l (by omega) sl h)
  have hA' := hA
  obtain ⟨a, ca, rfl, hca, ra⟩ := hA
  have t45 : ¬ (45 : Int) < (l.length : Int) := by omega
  clear ra hca C
  generalize wval l = m at *
  have hbl : bits m ≤ 10000 := by have := bits_len m; omega
  by_cases h1 : 1280 < bits m
  · have i1 : (1280 : Int) < (bits m : Int) := by omega
    go_enter Try.func3, Try.ntmps3
    go_wp2_with fail
    refine (unhide K1).mono ?_
    rintro e w1 ⟨rfl, b1⟩
    go_wp2_with fail
    refine (unhide (K2 _ _ (hA'.below b1))).mono ?_
    rintro e w2 ⟨v2, rfl, hX, b2⟩
    go_wp2_with fail
    refine (halvings_any _ _ m (by omega) hX).mono ?_
    rintro e w3 ⟨rfl, b3⟩
    have bw := b1.trans ((b2.trans (b3.mono b2.size)).mono b1.size)
    clear hX b1 b2 b3
    go_wp2
    go_ret
    exact ⟨rfl, bw⟩
  · have i1 : ¬ (1280 : Int) < (bits m : Int) := by omega
    by_cases h2 : x < -1000
    · go_enter Try.func3, Try.ntmps3
      go_wp2_with fail
      refine (unhide K1).mono ?_
      rintro e w1 ⟨rfl, b1⟩
      go_wp2_with fail
      refine (unhide (K2 _ _ (hA'.below b1))).mono ?_
      rintro e w2 ⟨v2, rfl, hX, b2⟩
      go_wp2_with fail
      refine (halvings_any _ _ m (by omega) hX).mono ?_
      rintro e w3 ⟨rfl, b3⟩
      have bw := b1.trans ((b2.trans (b3.mono b2.size)).mono b1.size)
      clear hX b1 b2 b3
      go_wp2
      go_ret
      exact ⟨rfl, bw⟩
    · have h3 : 1000 < x := by omega
      go_enter Try.func3, Try.ntmps3
      go_wp2_with fail
      refine (unhide K1).mono ?_
      rintro e w1 ⟨rfl, b1⟩
      go_wp2_with fail
      refine (unhide (K2 _ _ (hA'.below b1))).mono ?_
      rintro e w2 ⟨v2, rfl, hX, b2⟩
      go_wp2_with fail
      refine (halvings_any _ _ m (by omega) hX).mono ?_
      rintro e w3 ⟨rfl, b3⟩
      have bw := b1.trans ((b2.trans (b3.mono b2.size)).mono b1.size)
      clear hX b1 b2 b3
      go_wp2
      go_ret
      exact ⟨rfl, bw⟩

set_option maxHeartbeats 8000000 in
set_option maxRecDepth 100000 in
theorem nearsUp (C : FaceNear) (w : World) (v : Value) (l : List Nat) (N : Nat) (hA : WSl w v l) (sl : Words32 l) (hl : l.length ≤ 45) (h0 : wval l ≠ 0) (hb : bits (wval l) ≤ 1280) (hN : N ≤ 1000) :
    Calls Try.prog 3 #[v, .int .i64 N] w fun e w' => e = .returned (.bool true) ∧ Below w.heap.size w w' := by
  have lm := wval_len sl
  have K1 := hide (C.up w v l N hA sl hl h0 hb hN)
  have K2 : ∀ u v, WSl u v l → Hid _ := fun u v h => hide (ofWords_big u v l (by omega) sl h)
  have hA' := hA
  obtain ⟨a, ca, rfl, hca, ra⟩ := hA
  have t45 : ¬ (45 : Int) < (l.length : Int) := by omega
  clear ra hca C
  generalize wval l = m at *
  have i1 : ¬ (1280 : Int) < (bits m : Int) := by omega
  have i2 : ¬ (N : Int) < -1000 := by omega
  have i3 : ¬ (1000 : Int) < (N : Int) := by omega
  go_enter Try.func3, Try.ntmps3
  go_wp2_with fail
  refine (unhide K1).mono ?_
  rintro e w1 ⟨r, rfl, hr, b1⟩
  have HR := hide hr
  clear hr
  go_wp2_with fail
  refine (unhide (K2 _ _ (hA'.below b1))).mono ?_
  rintro e w2 ⟨v2, rfl, hX, b2⟩
  go_wp2_with fail
  refine (halvings_any _ _ m (by omega) hX).mono ?_
  rintro e w3 ⟨rfl, b3⟩
  have bw := b1.trans ((b2.trans (b3.mono b2.size)).mono b1.size)
  have hX3 := hX.below b3
  clear hX b1 b2 b3
  go_wp2_with fail
  refine (nearestOf_up _ _ m N (by omega) h0 hN hX3).mono ?_
  rintro e w4 ⟨r', rfl, hr', _, b4⟩
  have e := near_unique (unhide HR) hr'
  subst e
  have bw4 := bw.trans (b4.mono bw.size)
  clear hr' HR bw b4 hX3
  go_wp2
  go_ret
  exact ⟨rfl, bw4⟩
set_option maxHeartbeats 8000000 in
set_option maxRecDepth 100000 in
theorem nearsDown (C : FaceNear) (w : World) (v : Value) (l : List Nat) (N : Nat) (hA : WSl w v l) (sl : Words32 l) (hl : l.length ≤ 45) (h0 : wval l ≠ 0) (hb : bits (wval l) ≤ 1280) (hN1 : 1 ≤ N) (hN : N ≤ 1000) :
    Calls Try.prog 3 #[v, .int .i64 (-(N : Int))] w fun e w' => e = .returned (.bool true) ∧ Below w.heap.size w w' := by
  have lm := wval_len sl
  have K1 := hide (C.down w v l N hA sl hl h0 hb hN1 hN)
  have K2 : ∀ u v, WSl u v l → Hid _ := fun u v h => hide (ofWords_big u v l (by omega) sl h)
  have hA' := hA
  obtain ⟨a, ca, rfl, hca, ra⟩ := hA
  have t45 : ¬ (45 : Int) < (l.length : Int) := by omega
  clear ra hca C
  generalize wval l = m at *
  have i1 : ¬ (1280 : Int) < (bits m : Int) := by omega
  have i2 : ¬ -(N : Int) < -1000 := by omega
  have i3 : ¬ (1000 : Int) < -(N : Int) := by omega
  go_enter Try.func3, Try.ntmps3
  go_wp2_with fail
  refine (unhide K1).mono ?_
  rintro e w1 ⟨r, rfl, hr, b1⟩
  have HR := hide hr
  clear hr
  go_wp2_with fail
  refine (unhide (K2 _ _ (hA'.below b1))).mono ?_
  rintro e w2 ⟨v2, rfl, hX, b2⟩
  go_wp2_with fail
  refine (halvings_any _ _ m (by omega) hX).mono ?_
  rintro e w3 ⟨rfl, b3⟩
  have bw := b1.trans ((b2.trans (b3.mono b2.size)).mono b1.size)
  have hX3 := hX.below b3
  clear hX b1 b2 b3
  go_wp2_with fail
  refine (nearestOf_down _ _ m N (by omega) h0 hN hN1 hX3).mono ?_
  rintro e w4 ⟨r', rfl, hr', _, b4⟩
  have e := near_unique (unhide HR) hr'
  subst e
  have bw4 := bw.trans (b4.mono bw.size)
  clear hr' HR bw b4 hX3
  go_wp2
  go_ret
  exact ⟨rfl, bw4⟩
set_option maxHeartbeats 8000000 in
set_option maxRecDepth 100000 in
theorem nearsNil (C : FaceNear) (w : World) (v : Value) (l : List Nat) (x : Int) (hA : WSl w v l) (sl : Words32 l) (hl : l.length ≤ 45) (h0 : wval l = 0) (hx1 : -1000 ≤ x) (hx2 : x ≤ 1000) :
    Calls Try.prog 3 #[v, .int .i64 x] w fun e w' => e = .returned (.bool true) ∧ Below w.heap.size w w' := by
  have lm := wval_len sl
  have K1 := hide (C.nil w v l x hA sl hl h0 hx1 hx2)
  have K2 : ∀ u v, WSl u v l → Hid _ := fun u v h => hide (ofWords_big u v l (by omega) sl h)
  have hA' := hA
  obtain ⟨a, ca, rfl, hca, ra⟩ := hA
  have t45 : ¬ (45 : Int) < (l.length : Int) := by omega
  clear ra hca C
  rw [h0] at K2
  have q0 : (dig 0).length ≤ 0 := by rw [dig_zero]; simp
  have hb0 : bits 0 = 0 := bits_zero
  clear h0
  have i2 : ¬ x < -1000 := by omega
  have i3 : ¬ (1000 : Int) < x := by omega
  go_enter Try.func3, Try.ntmps3
  go_wp2_with fail
  refine (unhide K1).mono ?_
  rintro e w1 ⟨rfl, b1⟩
  go_wp2_with fail
  refine (unhide (K2 _ _ (hA'.below b1))).mono ?_
  rintro e w2 ⟨v2, rfl, hX, b2⟩
  go_wp2_with fail
  refine (halvings_any _ _ 0 (by omega) hX).mono ?_
  rintro e w3 ⟨rfl, b3⟩
  rw [hb0]
  have bw := b1.trans ((b2.trans (b3.mono b2.size)).mono b1.size)
  have hX3 := hX.below b3
  clear hX b1 b2 b3
  go_wp2_with fail
  refine (nearestOf_nil _ _ x hX3).mono ?_
  rintro e w4 ⟨rfl, b4⟩
  have bw4 := bw.trans (b4.mono bw.size)
  clear bw b4 hX3
  go_wp2
  go_ret
  exact ⟨rfl, bw4⟩

set_option maxHeartbeats 2000000 in
set_option maxRecDepth 100000 in
theorem nearsWide (w : World) (a : Option Addr) (ca : Nat) (l : List Nat) (x : Int) (hl : 45 < l.length) (hl2 : l.length ≤ 1152921504606846975) :
    Calls Try.prog 3 #[.slice a l.length ca, .int .i64 x] w fun e w' => e = .returned (.bool true) ∧ Below w.heap.size w w' := by
  have t45 : (45 : Int) < (l.length : Int) := by omega
  go_enter Try.func3, Try.ntmps3
  go_wp2
  go_ret
  exact ⟨rfl, Below.refl _ _⟩
theorem lawNears (C : FaceNear) (w : World) (a : Option Addr) (ca : Nat) (l : List Nat) (x : Int) (hl : l.length ≤ 1152921504606846975) (hca : l.length ≤ ca) (sl : Words32 l) (ra : RowU w a l) :
    Calls Try.prog 3 #[.slice a l.length ca, .int .i64 x] w fun e w' => e = .returned (.bool true) ∧ Below w.heap.size w w' := by
  by_cases h45 : 45 < l.length
  · exact nearsWide w a ca l x h45 hl
  · have hA : WSl w (.slice a l.length ca) l := ⟨a, ca, rfl, hca, ra⟩
    by_cases hx : 1280 < bits (wval l) ∨ x < -1000 ∨ 1000 < x
    · exact nearsLarge C w _ l x hA sl (by omega) hx
    · by_cases h0 : wval l = 0
      · exact nearsNil C w _ l x hA sl (by omega) h0 (by omega) (by omega)
      · by_cases hx0 : 0 ≤ x
        · obtain ⟨N, rfl⟩ : ∃ N : Nat, x = N := ⟨x.toNat, by omega⟩
          exact nearsUp C w _ l N hA sl (by omega) h0 (by omega) (by omega)
        · obtain ⟨N, rfl⟩ : ∃ N : Nat, x = -(N : Int) := ⟨(-x).toNat, by omega⟩
          exact nearsDown C w _ l N hA sl (by omega) h0 (by omega) (by omega) (by omega)
end Go.Proofs.Ytobbbhmkcmbekaa.bigs
