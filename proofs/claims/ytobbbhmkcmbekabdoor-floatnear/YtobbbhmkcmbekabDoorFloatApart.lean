/- The walk of the laws' own helper: apart. -/
import Derived.Test.YtobbbhmkcmbekabDoorFloatCling
set_option linter.unusedVariables false
namespace Go.Proofs.YtobbbhmkcmbekabDoor.bigs
open Go.RowKit

/-- A number in words, not too long. -/
def Nm (w : World) (v : Value) (n : Nat) : Prop := ∃ l, WSl w v l ∧ Words32 l ∧ l.length ≤ 20000 ∧ wval l = n
theorem Nm.below {w w' : World} {v : Value} {n : Nat} (h : Nm w v n) (hb : Below w.heap.size w w') : Nm w' v n := by
  obtain ⟨l, h1, h2⟩ := h
  exact ⟨l, h1.below hb, h2⟩
theorem nm_big {w : World} {v : Value} {n : Nat} (h : WBig w v n) (hl : (wdig n).length ≤ 20000) : Nm w v n := ⟨_, h, words_wdig _, hl, wval_wdig _⟩
theorem nm_mul (w : World) (v u : Value) (m n : Nat) (h : Nm w v m) (k : Nm w u n) : Calls Tryd.prog 10 #[v, u] w fun e w' => ∃ v', e = .returned v' ∧ WBig w' v' (m * n) ∧ Below w.heap.size w w' := by
  obtain ⟨l, h1, h2, h3, h4⟩ := h
  obtain ⟨l', k1, k2, k3, k4⟩ := k
  have r := mul_any w v u l l' h1 k1 h2 k2 (by omega) (by omega)
  rwa [h4, k4] at r
theorem nm_cmp (w : World) (v u : Value) (m n : Nat) (h : Nm w v m) (k : Nm w u n) : Calls Tryd.prog 9 #[v, u] w fun e w' => e = .returned (.int .i64 (sgn m n)) ∧ Below w.heap.size w w' := by
  obtain ⟨l, h1, h2, h3, h4⟩ := h
  obtain ⟨l', k1, k2, k3, k4⟩ := k
  have r := cmp_any w v u l l' h1 k1 h2 k2 (by omega) (by omega)
  rwa [h4, k4] at r
theorem nm_sub (w : World) (v u : Value) (m n : Nat) (h : Nm w v m) (k : Nm w u n) (hle : n ≤ m) : Calls Tryd.prog 23 #[v, u] w fun e w' => ∃ v', e = .returned (.tuple #[v', .int .i64 0]) ∧ WBig w' v' (m - n) ∧ Below w.heap.size w w' := by
  obtain ⟨l, h1, h2, h3, h4⟩ := h
  obtain ⟨l', k1, k2, k3, k4⟩ := k
  have r := sub_any w v u l l' h1 k1 h2 k2 (by omega) (by omega) (by omega)
  rwa [h4, k4] at r
set_option maxHeartbeats 8000000 in
set_option maxRecDepth 100000 in
theorem apart_any (w : World) (va vb vc vd : Value) (a b c d : Nat) (ha : Nm w va a) (hb : Nm w vb b) (hc : Nm w vc c) (hd : Nm w vd d) (l1 : (wdig (a * d)).length ≤ 20000) (l2 : (wdig (c * b)).length ≤ 20000) :
    Calls Tryd.prog 12 #[va, vb, vc, vd] w fun e w' => ∃ v u, e = .returned (.tuple #[v, u]) ∧ WBig w' v (distOf (a * d) (c * b)) ∧ WBig w' u (b * d) ∧ Below w.heap.size w w' := by
  have K1 := hide (nm_mul w va vd a d ha hd)
  have K2 : ∀ w, Nm w vc c → Nm w vb b → Hid (Calls Tryd.prog 10 #[vc, vb] w fun e w' => ∃ v', e = .returned v' ∧ WBig w' v' (c * b) ∧ Below w.heap.size w w') := fun w h k => hide (nm_mul w vc vb c b h k)
  have K3 : ∀ w v u, WBig w v (a * d) → WBig w u (c * b) → Hid (Calls Tryd.prog 9 #[v, u] w fun e w' => e = .returned (.int .i64 (sgn (a * d) (c * b))) ∧ Below w.heap.size w w') := fun w v u h k => hide (nm_cmp w v u _ _ (nm_big h l1) (nm_big k l2))
  have K4 : ∀ w v u, WBig w v (a * d) → WBig w u (c * b) → c * b ≤ a * d → Hid (Calls Tryd.prog 23 #[v, u] w fun e w' => ∃ v', e = .returned (.tuple #[v', .int .i64 0]) ∧ WBig w' v' (a * d - c * b) ∧ Below w.heap.size w w') := fun w v u h k g => hide (nm_sub w v u _ _ (nm_big h l1) (nm_big k l2) g)
  have K5 : ∀ w v u, WBig w v (c * b) → WBig w u (a * d) → a * d ≤ c * b → Hid (Calls Tryd.prog 23 #[v, u] w fun e w' => ∃ v', e = .returned (.tuple #[v', .int .i64 0]) ∧ WBig w' v' (c * b - a * d) ∧ Below w.heap.size w w') := fun w v u h k g => hide (nm_sub w v u _ _ (nm_big h l2) (nm_big k l1) g)
  have K6 : ∀ w, Nm w vb b → Nm w vd d → Hid (Calls Tryd.prog 10 #[vb, vd] w fun e w' => ∃ v', e = .returned v' ∧ WBig w' v' (b * d) ∧ Below w.heap.size w w') := fun w h k => hide (nm_mul w vb vd b d h k)
  unfold distOf
  clear l1 l2
  generalize a * d = p at *
  generalize c * b = q at *
  generalize b * d = y at *
  by_cases g : p < q
  · rw [if_pos g]
    have sg : sgn p q = -1 := sgn_lt g
    rw [sg] at K3
    have g2 : p ≤ q := by omega
    clear sg K4
    generalize q - p = z at *
    go_enter Tryd.func12, Tryd.ntmps12
    go_wp2_with fail
    refine (unhide K1).mono ?_
    rintro e w1 ⟨v1, rfl, h1, b1⟩
    have K2' := K2 w1 (hc.below b1) (hb.below b1)
    clear K1 K2
    go_wp2_with fail
    refine (unhide K2').mono ?_
    rintro e w2 ⟨v2, rfl, h2, b2⟩
    have bw2 := b1.trans (b2.mono b1.size)
    have h1' := h1.below b2
    have K3' := K3 w2 v1 v2 h1' h2
    clear K2' K3 h1 b1 b2
    go_wp2_with fail
    refine (unhide K3').mono ?_
    rintro e w3 ⟨rfl, b3⟩
    have bw3 := bw2.trans (b3.mono bw2.size)
    have K5' := K5 w3 v2 v1 (h2.below b3) (h1'.below b3) g2
    clear K3' K5 h1' h2 b3 bw2
    go_wp2_with fail
    refine (unhide K5').mono ?_
    rintro e w4 ⟨v4, rfl, h4, b4⟩
    have bw4 := bw3.trans (b4.mono bw3.size)
    have K6' := K6 w4 (hb.below bw4) (hd.below bw4)
    have H4 := hide h4
    clear K5' K6 b4 bw3 h4 ha hb hc hd
    go_wp2_with fail
    refine (unhide K6').mono ?_
    rintro e w5 ⟨v5, rfl, h5, b5⟩
    have bw5 := bw4.trans (b5.mono bw4.size)
    have H4' := hide ((unhide H4).below b5)
    have H5 := hide h5
    clear K6' H4 h5 b5 bw4
    go_wp2
    go_ret2
    exact ⟨_, _, rfl, unhide H4', unhide H5, bw5⟩
  · rw [if_neg g]
    have sg : ¬ sgn p q < 0 := by rcases Nat.lt_or_eq_of_le (Nat.le_of_not_lt g) with h | h; (rw [sgn_gt h]; decide); (rw [sgn_eq h.symm]; decide)
    have g2 : q ≤ p := by omega
    clear K5
    generalize p - q = z at *
    generalize sgn p q = sg' at *
    go_enter Tryd.func12, Tryd.ntmps12
    go_wp2_with fail
    refine (unhide K1).mono ?_
    rintro e w1 ⟨v1, rfl, h1, b1⟩
    have K2' := K2 w1 (hc.below b1) (hb.below b1)
    clear K1 K2
    go_wp2_with fail
    refine (unhide K2').mono ?_
    rintro e w2 ⟨v2, rfl, h2, b2⟩
    have bw2 := b1.trans (b2.mono b1.size)
    have h1' := h1.below b2
    have K3' := K3 w2 v1 v2 h1' h2
    clear K2' K3 h1 b1 b2
    go_wp2_with fail
    refine (unhide K3').mono ?_
    rintro e w3 ⟨rfl, b3⟩
    have bw3 := bw2.trans (b3.mono bw2.size)
    have K5' := K4 w3 v1 v2 (h1'.below b3) (h2.below b3) g2
    clear K3' K4 h1' h2 b3 bw2
    go_wp2_with fail
    refine (unhide K5').mono ?_
    rintro e w4 ⟨v4, rfl, h4, b4⟩
    have bw4 := bw3.trans (b4.mono bw3.size)
    have K6' := K6 w4 (hb.below bw4) (hd.below bw4)
    have H4 := hide h4
    clear K5' K6 b4 bw3 h4 ha hb hc hd
    go_wp2_with fail
    refine (unhide K6').mono ?_
    rintro e w5 ⟨v5, rfl, h5, b5⟩
    have bw5 := bw4.trans (b5.mono bw4.size)
    have H4' := hide ((unhide H4).below b5)
    have H5 := hide h5
    clear K6' H4 h5 b5 bw4
    go_wp2
    go_ret2
    exact ⟨_, _, rfl, unhide H4', unhide H5, bw5⟩
end Go.Proofs.YtobbbhmkcmbekabDoor.bigs
