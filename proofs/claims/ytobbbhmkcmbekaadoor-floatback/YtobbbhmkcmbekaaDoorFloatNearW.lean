/- The walks of package float: nearest, Near. -/
import Derived.Test.YtobbbhmkcmbekaaDoorFloatRnd
set_option linter.unusedVariables false
namespace Go.Proofs.YtobbbhmkcmbekaaDoor.bigs
open Go.RowKit

theorem bits_over (x k : Nat) : (k < bits x ↔ 2 ^ k ≤ x) := by
  by_cases h : x = 0
  · subst h
    rw [bits_zero]
    have := Nat.pow_pos (n := k) (show 0 < 2 by omega)
    omega
  · have h1 := bits_lt x
    have h2 := bits_ge h
    constructor
    · intro c
      have := Nat.pow_le_pow_right (n := 2) (by omega) (show k + 1 ≤ bits x by omega)
      rw [Nat.pow_succ] at this
      omega
    · intro c
      by_cases d : k < bits x
      · exact d
      · have := Nat.pow_le_pow_right (n := 2) (by omega) (show bits x ≤ k by omega)
        omega
theorem min_bits (E R : Nat) : ((min 9218868437227405312 (E * 4503599627370496 + R) : Nat) : Int) = min ((E : Int) * 4503599627370496 + (R : Int)) 9218868437227405312 := by omega
theorem ret_u64 (a b : Int) (h : a = b) : Ending.returned (.int .u64 a) = Ending.returned (.int .u64 b) := by rw [h]
/-- A division that is stored into a block of another one. -/
theorem divOf_set {w : World} {d : Value} {A B b : Nat} {a1 a2 a3 : Option Addr} {n1 c1 n2 c2 n3 c3 : Nat} (hd : DivOf w d A B) (bk : Blk w b #[.slice a1 n1 c1, .slice a2 n2 c2, .slice a3 n3 c3] 80) :
    ∀ a4 n4 c4 a5 n5 c5 a6 n6 c6, d = .agg #[.slice a4 n4 c4, .slice a5 n5 c5, .slice a6 n6 c6] → DivOf (((w.setCell ⟨b, 0, none⟩ (.slice a4 n4 c4)).setCell ⟨b, 1, none⟩ (.slice a5 n5 c5)).setCell ⟨b, 2, none⟩ (.slice a6 n6 c6)) d A B := by
  intro a4 n4 c4 a5 n5 c5 a6 n6 c6 e
  obtain ⟨x1, m1, y1, x2, m2, y2, x3, m3, y3, e2, h1, h2, k, h3, h4⟩ := hd
  have no : NoWord #[.slice a1 n1 c1, .slice a2 n2 c2, .slice a3 n3 c3] := noWord_slice3 _ _ _ (fun _ h => by cases h) (fun _ h => by cases h) (fun _ h => by cases h)
  refine ⟨x1, m1, y1, x2, m2, y2, x3, m3, y3, e2, ?_, ?_, k, ?_, h4⟩
  · exact WSl.set3 h1 bk no _ _ _ (fun _ h => by cases h) (fun _ h => by cases h)
  · exact WSl.set3 h2 bk no _ _ _ (fun _ h => by cases h) (fun _ h => by cases h)
  · exact WSl.set3 h3 bk no _ _ _ (fun _ h => by cases h) (fun _ h => by cases h)
set_option maxHeartbeats 4000000 in
set_option maxRecDepth 100000 in
theorem nearest_none (w : World) (v u : Value) (l : List Nat) (hv : WSl w v l) (sl : Words32 l) (ll : l.length ≤ 2000) (h0 : wval l = 0) :
    Calls Tryd.prog 42 #[v, u] w fun e w' => e = .returned (.int .u64 0) ∧ Below w.heap.size w w' := by
  have k1 := len_any w v l hv sl (by omega)
  rw [h0, bits_zero] at k1
  have K1 := hide k1
  clear k1
  go_enter Tryd.func42, Tryd.ntmps42
  go_wp2_with fail
  refine (unhide K1).mono ?_
  rintro e w1 ⟨rfl, b1⟩
  go_wp2
  go_ret
  exact ⟨rfl, b1⟩
set_option maxHeartbeats 4000000 in
set_option maxRecDepth 100000 in
theorem nearest_large (w : World) (v u : Value) (l k : List Nat) (hv : WSl w v l) (hu : WSl w u k) (sl : Words32 l) (sk : Words32 k) (ll : l.length ≤ 2000) (lk : k.length ≤ 2000) (h0 : wval l ≠ 0) (hk : bits (wval k) + 1024 < bits (wval l)) :
    Calls Tryd.prog 42 #[v, u] w fun e w' => e = .returned (.int .u64 9218868437227405312) ∧ Below w.heap.size w w' := by
  have K1 : ∀ w, WSl w v l → Hid _ := fun w hv => hide (len_any w v l hv sl (by omega))
  have K2 : ∀ w, WSl w u k → Hid _ := fun w hu => hide (len_any w u k hu sk (by omega))
  have m1 := bits_one h0
  have m2 := bits_le_words (wval l)
  have m3 := wdig_len_words sl
  have m4 := bits_le_words (wval k)
  have m5 := wdig_len_words sk
  have hb : bits (wval l) ≤ 64000 := by omega
  clear m2 m3 m4 m5 h0
  generalize bits (wval l) = p at *
  generalize bits (wval k) = q at *
  have t1 : ((p : Int) == 0) = false := beq_false_of_ne (by omega)
  have t2 : (1024 : Int) < (p : Int) - (q : Int) := by omega
  go_enter Tryd.func42, Tryd.ntmps42
  go_wp2_with fail
  refine (unhide (K1 w hv)).mono ?_
  rintro e w1 ⟨rfl, b1⟩
  go_wp2_with fail
  refine (unhide (K1 w1 (hv.below b1))).mono ?_
  rintro e w2 ⟨rfl, b2⟩
  go_wp2_with fail
  refine (unhide (K2 w2 ((hu.below b1).below b2))).mono ?_
  rintro e w3 ⟨rfl, b3⟩
  have bw := b1.trans ((b2.trans (b3.mono b2.size)).mono b1.size)
  clear b1 b2 b3 hv hu K1 K2
  go_wp2
  go_ret
  exact ⟨rfl, bw⟩
set_option maxHeartbeats 8000000 in
set_option maxRecDepth 100000 in
theorem nearest_some (w : World) (v u : Value) (l k : List Nat) (E : Nat) (hv : WSl w v l) (hu : WSl w u k) (sl : Words32 l) (sk : Words32 k) (ll : l.length ≤ 2000) (lk : k.length ≤ 2000) (h0 : wval l ≠ 0) (hk0 : wval k ≠ 0) (hk : ¬ bits (wval k) + 1024 < bits (wval l))
    (hE : E = bits (wval l) + 1021 - bits (wval k)) (hq : wval l * 2 ^ (1074 - E) / (wval k * 2 ^ (E - 1074)) < 18014398509481984) :
    Calls Tryd.prog 42 #[v, u] w fun e w' => ∃ r : Nat, e = .returned (.int .u64 r) ∧ Near (wval l) (wval k) r ∧ Below w.heap.size w w' := by
  have K1 : ∀ w, WSl w v l → Hid (Calls Tryd.prog 41 #[v] w fun e w' => e = .returned (.int .i64 (bits (wval l))) ∧ Below w.heap.size w w') := fun w hv => hide (len_any w v l hv sl (by omega))
  have K2 : ∀ w, WSl w u k → Hid (Calls Tryd.prog 41 #[u] w fun e w' => e = .returned (.int .i64 (bits (wval k))) ∧ Below w.heap.size w w') := fun w hu => hide (len_any w u k hu sk (by omega))
  have K3 : ∀ w, WSl w v l → WSl w u k → Hid (Calls Tryd.prog 71 #[v, u, .int .i64 ((E : Int) - 1074)] w fun e w' => ∃ d, e = .returned d ∧ DivOf w' d (wval l * 2 ^ (1074 - E)) (wval k * 2 ^ (E - 1074)) ∧ Below w.heap.size w w') := fun w hv hu => by
    have h := divide_any w v u l k ((E : Int) - 1074) hv hu sl sk ll lk (by omega) (by omega) hk0
    rw [show (-((E : Int) - 1074)).toNat = 1074 - E by omega, show ((E : Int) - 1074).toNat = E - 1074 by omega] at h
    exact hide h
  have K4 : ∀ w, WSl w v l → WSl w u k → Hid (Calls Tryd.prog 71 #[v, u, .int .i64 ((E : Int) - 1074 + 1)] w fun e w' => ∃ d, e = .returned d ∧ DivOf w' d (wval l * 2 ^ (1074 - (E + 1))) (wval k * 2 ^ (E + 1 - 1074)) ∧ Below w.heap.size w w') := fun w hv hu => by
    have h := divide_any w v u l k ((E : Int) - 1074 + 1) hv hu sl sk ll lk (by omega) (by omega) hk0
    rw [show (-((E : Int) - 1074 + 1)).toNat = 1074 - (E + 1) by omega, show ((E : Int) - 1074 + 1).toNat = E + 1 - 1074 by omega] at h
    exact hide h
  obtain ⟨P1, P2⟩ := prog_near (Nat.pos_of_ne_zero hk0) (bits_lt (wval l)) (bits_ge h0) (bits_lt (wval k)) (bits_ge hk0)
  rw [← hE] at P1 P2
  have hp1 := bits_one h0
  have hB : 0 < wval k * 2 ^ (E - 1074) := Nat.mul_pos (Nat.pos_of_ne_zero hk0) (Nat.pow_pos (by decide))
  have hB2 : 0 < wval k * 2 ^ (E + 1 - 1074) := Nat.mul_pos (Nat.pos_of_ne_zero hk0) (Nat.pow_pos (by decide))
  obtain ⟨D1, D2⟩ := prog_div (m := wval l) (E := E) (Nat.pos_of_ne_zero hk0)
  obtain ⟨D3, D4⟩ := prog_div (m := wval l) (E := E + 1) (Nat.pos_of_ne_zero hk0)
  have hbb : bits (wval l) ≤ 64000 := by have := bits_le_words (wval l); have := wdig_len_words sl; omega
  have hbk : bits (wval k) ≤ 64000 := by have := bits_le_words (wval k); have := wdig_len_words sk; omega
  have hm : max ((bits (wval l) : Int) - (bits (wval k) : Int) - 53) (-1074) = (E : Int) - 1074 := by omega
  have t1 : ((bits (wval l) : Int) == 0) = false := beq_false_of_ne (by omega)
  have t2 : ¬ (1024 : Int) < (bits (wval l) : Int) - (bits (wval k) : Int) := by omega
  have hEb : E ≤ 2045 := by omega
  have HP1 := hide P1
  have HP2 := hide P2
  have HD1 := hide D1
  have HD2 := hide D2
  have HD3 := hide D3
  have HD4 := hide D4
  clear P1 P2 D1 D2 D3 D4 hE
  generalize bits (wval l) = p at *
  generalize bits (wval k) = q at *
  go_enter Tryd.func42, Tryd.ntmps42
  go_wp2_with fail
  refine (unhide (K1 w hv)).mono ?_
  rintro e w1 ⟨rfl, b1⟩
  go_wp2_with fail
  refine (unhide (K1 w1 (hv.below b1))).mono ?_
  rintro e w2 ⟨rfl, b2⟩
  go_wp2_with fail
  refine (unhide (K2 w2 ((hu.below b1).below b2))).mono ?_
  rintro e w3 ⟨rfl, b3⟩
  have bw := b1.trans ((b2.trans (b3.mono b2.size)).mono b1.size)
  have hv3 := hv.below bw
  have hu3 := hu.below bw
  have K3' := K3 w3 hv3 hu3
  clear b1 b2 b3 K1 K2 K3
  go_wp2_with fail
  refine (unhide K3').mono ?_
  rintro e w4 ⟨d, rfl, hd, b4⟩
  have HD := hide hd
  obtain ⟨a1, n1, c1, a2, n2, c2, a3, n3, c3, rfl, f1, f2, kk, f3, _⟩ := hd
  clear f2 f3 K3'
  go_wp2_with fail
  have bw4 := bw.trans (b4.mono bw.size)
  have b5 : Below w4.heap.size w4 (w4.alloc (.cells #[.slice a1 n1 c1, .slice a2 n2 c2, .slice a3 n3 c3] 80)) := (Below.refl _ _).alloc (Nat.le_refl _) _
  have h4 : w.heap.size ≤ w4.heap.size := bw4.size
  have bk5 := blk_alloc w4 #[.slice a1 n1 c1, .slice a2 n2 c2, .slice a3 n3 c3] 80
  generalize w4.alloc (.cells #[.slice a1 n1 c1, .slice a2 n2 c2, .slice a3 n3 c3] 80) = w5 at *
  have k6 := len_any w5 _ _ (f1.below b5) (words_wdig _) (by have := wdig_len_lt (n := wval l * 2 ^ (1074 - E) / (wval k * 2 ^ (E - 1074))) (k := 2) (Nat.lt_trans hq (by decide)); omega)
  rw [wval_wdig] at k6
  have K6 := hide k6
  clear k6 f1
  have bo := bits_over (wval l * 2 ^ (1074 - E) / (wval k * 2 ^ (E - 1074))) 53
  have bu := bits_le (n := wval l * 2 ^ (1074 - E) / (wval k * 2 ^ (E - 1074))) (k := 54) hq
  refine (unhide K6).mono ?_
  rintro e w6 ⟨rfl, b6⟩
  have bw5 := bw4.trans (b5.mono bw4.size)
  have bw6 := bw5.trans (b6.mono bw5.size)
  have bk6 := bk5.below b6
  have r0 := bk6.cell 0 _ rfl
  have r1 := bk6.cell 1 _ rfl
  have r2 := bk6.cell 2 _ rfl
  have HD6 := hide ((((unhide HD).below b5).below b6))
  have hv6 := hv.below bw6
  have hu6 := hu.below bw6
  have K7 := hide (rounded_any w6 _ _ _ (unhide HD6) (Nat.lt_trans hq (by decide)) hB)
  clear b4 b5 b6 bk5 bw bw4 bw5 hv3 hu3 HD K6 hv hu
  by_cases g : 53 < bits (wval l * 2 ^ (1074 - E) / (wval k * 2 ^ (E - 1074)))
  · have g0 := bo.1 g
    have g1 : ¬ wval l * 2 ^ (1074 - E) / (wval k * 2 ^ (E - 1074)) < 9007199254740992 := fun c => Nat.lt_irrefl _ (Nat.lt_of_lt_of_le c g0)
    have N0 := (unhide HP2) (fun c => g1 ((unhide HD1).2 c))
    have N1 := N0
    rw [unhide HD4] at N1
    have q1 := rnd_le N0.1
    rw [unhide HD4] at q1
    have hq2 := (unhide HD3).2 N0.1
    have NN := hide (near_ofE (Nat.pos_of_ne_zero hk0) N1)
    have t3 : (53 : Int) < ((bits (wval l * 2 ^ (1074 - E) / (wval k * 2 ^ (E - 1074))) : Nat) : Int) := by omega
    have K8 := K4 w6 hv6 hu6
    have K9 : ∀ w d, DivOf w d (wval l * 2 ^ (1074 - (E + 1))) (wval k * 2 ^ (E + 1 - 1074)) → Hid (Calls Tryd.prog 72 #[d] w fun e w' => e = .returned (.int .u64 (rnd (wval l * 2 ^ (1074 - (E + 1))) (wval k * 2 ^ (E + 1 - 1074)))) ∧ Below w.heap.size w w') := fun w d hd => hide (rounded_any w d _ _ hd (Nat.lt_trans hq2 (by decide)) hB2)
    clear HP1 HP2 HD1 HD2 HD3 HD4 g g0 g1 N0 N1 bo hq hq2 hB hB2 K4 K7
    generalize rnd (wval l * 2 ^ (1074 - (E + 1))) (wval k * 2 ^ (E + 1 - 1074)) = R at *
    generalize bits (wval l * 2 ^ (1074 - E) / (wval k * 2 ^ (E - 1074))) = bq at *
    go_wp2_with fail
    refine (unhide K8).mono ?_
    rintro e w7 ⟨d, rfl, hd, b7⟩
    have bk7 := bk6.below b7
    have bw7 := bw6.trans (b7.mono bw6.size)
    have hd8 := hide (divOf_set (b := w4.heap.size) hd bk7)
    have bw8 : ∀ x y z, Hid _ := fun x y z => hide (below_set3 (b := w4.heap.size) bw7 h4 x y z)
    obtain ⟨a4, n4, c4, a5, n5, c5, a6, n6, c6, rfl, f4, _⟩ := hd
    have s0 := bk7.cell 0 _ rfl
    have s1 := bk7.cell 1 _ rfl
    have s2 := bk7.cell 2 _ rfl
    have z0 := bk7.froz 0
    have z1 := bk7.froz 1
    have z2 := bk7.froz 2
    have F := bk7.set3 (.slice a4 n4 c4) (.slice a5 n5 c5) (.slice a6 n6 c6)
    have F0 := F.cell 0 _ rfl
    have F1 := F.cell 1 _ rfl
    have F2 := F.cell 2 _ rfl
    clear r0 r1 r2 b7 bw6 bk6 bk7 K8 f4 F
    go_wp2_with fail
    have BB := unhide (bw8 (.slice a4 n4 c4) (.slice a5 n5 c5) (.slice a6 n6 c6))
    have hd9 := unhide hd8 _ _ _ _ _ _ _ _ _ rfl
    refine (unhide (K9 _ _ hd9)).mono ?_
    rintro e w9 ⟨rfl, b9⟩
    have bw9 := BB.trans (b9.mono BB.size)
    clear b9 BB hd9 hd8 bw8 F0 F1 F2 s0 s1 s2 z0 z1 z2 K9 bw7
    go_wp2
    go_ret
    refine ⟨_, ?_, unhide NN, bw9⟩
    exact ret_u64 _ _ (by rw [min_bits, Int.natCast_add, show (E : Int) - 1074 + 1 + 1074 = (E : Int) + ((1 : Nat) : Int) by omega])
  · have g1 : wval l * 2 ^ (1074 - E) / (wval k * 2 ^ (E - 1074)) < 9007199254740992 := Nat.lt_of_not_le (fun c => g (bo.2 c))
    have N1 := (unhide HP1) ((unhide HD1).1 g1)
    rw [unhide HD2] at N1
    have q1 := rnd_le ((unhide HD1).1 g1)
    rw [unhide HD2] at q1
    have NN := hide (near_ofE (Nat.pos_of_ne_zero hk0) N1)
    have t3 : ¬ (53 : Int) < ((bits (wval l * 2 ^ (1074 - E) / (wval k * 2 ^ (E - 1074))) : Nat) : Int) := by omega
    clear HP1 HP2 HD1 HD2 HD3 HD4 g g1 N1 bo hq hB hB2
    generalize rnd (wval l * 2 ^ (1074 - E)) (wval k * 2 ^ (E - 1074)) = R at *
    generalize bits (wval l * 2 ^ (1074 - E) / (wval k * 2 ^ (E - 1074))) = bq at *
    go_wp2_with fail
    refine (unhide K7).mono ?_
    rintro e w7 ⟨rfl, b7⟩
    have bw7 := bw6.trans (b7.mono bw6.size)
    clear r0 r1 r2 b7 bw6
    go_wp2
    go_ret
    refine ⟨_, ?_, unhide NN, bw7⟩
    exact ret_u64 _ _ (by rw [min_bits])
theorem quo_small {m n E : Nat} (hn : 0 < n) (h : m * T74 < n * 2 ^ E * 18014398509481984) : m * 2 ^ (1074 - E) / (n * 2 ^ (E - 1074)) < 18014398509481984 := by
  obtain ⟨T, hT, e1, e2⟩ := prog_shift (m := m) (n := n) (E := E)
  have hB : 0 < n * 2 ^ (E - 1074) := Nat.mul_pos hn (Nat.pow_pos (by decide))
  rw [e1, e2, Nat.mul_assoc (n * 2 ^ (E - 1074)) T, Nat.mul_comm T, ← Nat.mul_assoc, Nat.mul_lt_mul_right hT] at h
  rw [Nat.div_lt_iff_lt_mul hB, Nat.mul_comm 18014398509481984]
  exact h
/-- The nearest fraction, whatever is handed in. -/
theorem nearest_prog (w : World) (v u : Value) (l k : List Nat) (hv : WSl w v l) (hu : WSl w u k) (sl : Words32 l) (sk : Words32 k) (ll : l.length ≤ 2000) (lk : k.length ≤ 2000) (h0 : wval l ≠ 0) (hk0 : wval k ≠ 0) :
    Calls Tryd.prog 42 #[v, u] w fun e w' => ∃ r : Nat, e = .returned (.int .u64 r) ∧ Near (wval l) (wval k) r ∧ Below w.heap.size w w' := by
  by_cases c : bits (wval k) + 1024 < bits (wval l)
  · refine (nearest_large w v u l k hv hu sl sk ll lk h0 c).mono ?_
    rintro e w' ⟨rfl, b⟩
    exact ⟨9218868437227405312, rfl, prog_large (Nat.pos_of_ne_zero hk0) (bits_lt _) (bits_ge h0) (bits_lt _) (bits_ge hk0) c, b⟩
  · exact nearest_some w v u l k _ hv hu sl sk ll lk h0 hk0 c rfl (quo_small (Nat.pos_of_ne_zero hk0) (prog_over (bits_lt _) (bits_ge hk0)))
theorem pow10_words {n : Nat} (h : n ≤ 1000) : (wdig (10 ^ n)).length ≤ 1001 := by have := wdig_pow_len (b := 10) (e := n) (by decide); omega
set_option maxHeartbeats 8000000 in
set_option maxRecDepth 100000 in
theorem nearW_large (w : World) (v : Value) (l : List Nat) (x : Int) (hv : WSl w v l) (sl : Words32 l) (ll : l.length ≤ 45) (hx : 1280 < bits (wval l) ∨ x < -1000 ∨ 1000 < x) :
    Calls Tryd.prog 18 #[v, .int .i64 x] w fun e w' => e = .returned (.tuple #[.int .u64 0, .int .i64 2]) ∧ Below w.heap.size w w' := by
  have K1 := hide (len_any w v l hv sl (by omega))
  generalize bits (wval l) = m at *
  by_cases h1 : 1280 < m
  · have i1 : (1280 : Int) < (m : Int) := by omega
    clear hv
    go_enter Tryd.func18, Tryd.ntmps18
    go_wp2_with fail
    refine (unhide K1).mono ?_
    rintro e w1 ⟨rfl, b1⟩
    go_wp2
    go_ret2
    exact ⟨rfl, b1⟩
  · have i1 : ¬ (1280 : Int) < (m : Int) := by omega
    clear hv
    by_cases h2 : x < -1000
    · go_enter Tryd.func18, Tryd.ntmps18
      go_wp2_with fail
      refine (unhide K1).mono ?_
      rintro e w1 ⟨rfl, b1⟩
      go_wp2
      go_ret2
      exact ⟨rfl, b1⟩
    · have h3 : 1000 < x := by omega
      go_enter Tryd.func18, Tryd.ntmps18
      go_wp2_with fail
      refine (unhide K1).mono ?_
      rintro e w1 ⟨rfl, b1⟩
      go_wp2
      go_ret2
      exact ⟨rfl, b1⟩
set_option maxHeartbeats 8000000 in
set_option maxRecDepth 100000 in
theorem nearW_down (w : World) (v : Value) (l : List Nat) (N : Nat) (hv : WSl w v l) (sl : Words32 l) (ll : l.length ≤ 45) (h0 : wval l ≠ 0) (hb : bits (wval l) ≤ 1280) (hN1 : 1 ≤ N) (hN : N ≤ 1000) :
    Calls Tryd.prog 18 #[v, .int .i64 (-(N : Int))] w fun e w' => ∃ r : Nat, e = .returned (.tuple #[.int .u64 r, .int .i64 0]) ∧ Near (wval l) (10 ^ N) r ∧ Below w.heap.size w w' := by
  have K1 := hide (len_any w v l hv sl (by omega))
  have K2 : ∀ w, Hid _ := fun w => hide (tenTo_any w N hN)
  have K3 : ∀ w u, WSl w v l → WBig w u (10 ^ N) → Hid (Calls Tryd.prog 42 #[v, u] w fun e w' => ∃ r : Nat, e = .returned (.int .u64 r) ∧ Near (wval l) (10 ^ N) r ∧ Below w.heap.size w w') := fun w u hv hu => by
    have h := nearest_prog w v u l (wdig (10 ^ N)) hv hu sl (words_wdig _) (by omega) (by have := pow10_words hN; omega) h0 (by rw [wval_wdig]; exact Nat.ne_of_gt (Nat.pow_pos (by decide)))
    rw [wval_wdig] at h
    exact hide h
  generalize 10 ^ N = T at *
  have i1 : ¬ (1280 : Int) < (bits (wval l) : Int) := by omega
  have i2 : ¬ -(N : Int) < -1000 := by omega
  have i3 : ¬ (1000 : Int) < -(N : Int) := by omega
  have i4 : -(N : Int) < 0 := by omega
  generalize bits (wval l) = m at *
  go_enter Tryd.func18, Tryd.ntmps18
  go_wp2_with fail
  refine (unhide K1).mono ?_
  rintro e w1 ⟨rfl, b1⟩
  go_wp2_with fail
  refine (unhide (K2 w1)).mono ?_
  rintro e w2 ⟨v2, rfl, h2, b2⟩
  have bw2 := b1.trans (b2.mono b1.size)
  have K4 := K3 w2 v2 (hv.below bw2) h2
  clear K1 K2 K3 b1 b2 hv h2
  go_wp2_with fail
  refine (unhide K4).mono ?_
  rintro e w3 ⟨r, rfl, hr, b3⟩
  have HR := hide hr
  have bw3 := bw2.trans (b3.mono bw2.size)
  clear hr b3 bw2 K4
  go_wp2
  go_ret2
  exact ⟨r, rfl, unhide HR, bw3⟩
set_option maxHeartbeats 8000000 in
set_option maxRecDepth 100000 in
theorem nearW_up (w : World) (v : Value) (l : List Nat) (N : Nat) (hv : WSl w v l) (sl : Words32 l) (ll : l.length ≤ 45) (h0 : wval l ≠ 0) (hb : bits (wval l) ≤ 1280) (hN : N ≤ 1000) :
    Calls Tryd.prog 18 #[v, .int .i64 N] w fun e w' => ∃ r : Nat, e = .returned (.tuple #[.int .u64 r, .int .i64 0]) ∧ Near (wval l * 10 ^ N) 1 r ∧ Below w.heap.size w w' := by
  have K1 := hide (len_any w v l hv sl (by omega))
  have K2 : ∀ w, Hid _ := fun w => hide (tenTo_any w N hN)
  have hT : 10 ^ N ≠ 0 := Nat.ne_of_gt (Nat.pow_pos (by decide))
  have hTl := pow10_words hN
  have hPl : (wdig (wval l * 10 ^ N)).length ≤ 2000 := by have := wdig_prod_len (wval l) (10 ^ N); have := wdig_len_words sl; omega
  have K3 : ∀ w u, WSl w v l → WBig w u (10 ^ N) → Hid (Calls Tryd.prog 44 #[v, u] w fun e w' => ∃ v', e = .returned v' ∧ WBig w' v' (wval l * 10 ^ N) ∧ Below w.heap.size w w') := fun w u hv hu => by
    have h := mul_any w v u l (wdig (10 ^ N)) hv hu sl (words_wdig _) (by omega) (by omega)
    rw [wval_wdig] at h
    exact hide h
  have K5 : ∀ w v u, WBig w v (wval l * 10 ^ N) → WSl w u [1] → Hid (Calls Tryd.prog 42 #[v, u] w fun e w' => ∃ r : Nat, e = .returned (.int .u64 r) ∧ Near (wval l * 10 ^ N) 1 r ∧ Below w.heap.size w w') := fun w v u hv hu => by
    have h := nearest_prog w v u (wdig (wval l * 10 ^ N)) [1] hv hu (words_wdig _) (words_one (by decide)) hPl (by simp) (by rw [wval_wdig]; exact Nat.mul_ne_zero h0 hT) (by rw [wval_one]; decide)
    rw [wval_wdig, wval_one] at h
    exact hide h
  clear hT hTl hPl
  generalize hP : wval l * 10 ^ N = P at *
  clear hP
  generalize 10 ^ N = T at *
  have i1 : ¬ (1280 : Int) < (bits (wval l) : Int) := by omega
  have i2 : ¬ (N : Int) < -1000 := by omega
  have i3 : ¬ (1000 : Int) < (N : Int) := by omega
  have i4 : ¬ (N : Int) < 0 := by omega
  generalize bits (wval l) = m at *
  go_enter Tryd.func18, Tryd.ntmps18
  go_wp2_with fail
  refine (unhide K1).mono ?_
  rintro e w1 ⟨rfl, b1⟩
  go_wp2_with fail
  refine (unhide (K2 w1)).mono ?_
  rintro e w2 ⟨v2, rfl, h2, b2⟩
  have bw2 := b1.trans (b2.mono b1.size)
  have K4 := K3 w2 v2 (hv.below bw2) h2
  clear K1 K2 K3 b1 b2 hv h2
  go_wp2_with fail
  refine (unhide K4).mono ?_
  rintro e w3 ⟨v3, rfl, h3, b3⟩
  have bw3 := bw2.trans (b3.mono bw2.size)
  have b4 : Below w3.heap.size w3 (w3.alloc (.cells #[.int .u32 1] 40)) := (Below.refl _ _).alloc (Nat.le_refl _) _
  have K6 := K5 _ _ _ (h3.below b4) ⟨_, 1, rfl, by simp, lit_row w3 1⟩
  have bw4 := bw3.trans (b4.mono bw3.size)
  clear K4 K5 b3 bw2 h3 b4 bw3
  go_wp2_with fail
  refine (unhide K6).mono ?_
  rintro e w5 ⟨r, rfl, hr, b5⟩
  have HR := hide hr
  have bw5 := bw4.trans (b5.mono bw4.size)
  clear hr b5 bw4 K6
  go_wp2
  go_ret2
  exact ⟨r, rfl, unhide HR, bw5⟩
set_option maxHeartbeats 8000000 in
set_option maxRecDepth 100000 in
theorem nearW_nilDown (w : World) (v : Value) (l : List Nat) (N : Nat) (hv : WSl w v l) (sl : Words32 l) (ll : l.length ≤ 45) (h0 : wval l = 0) (hN1 : 1 ≤ N) (hN : N ≤ 1000) :
    Calls Tryd.prog 18 #[v, .int .i64 (-(N : Int))] w fun e w' => e = .returned (.tuple #[.int .u64 0, .int .i64 0]) ∧ Below w.heap.size w w' := by
  have K1 := hide (len_any w v l hv sl (by omega))
  have K2 : ∀ w, Hid _ := fun w => hide (tenTo_any w N hN)
  have K3 : ∀ w u, WSl w v l → WBig w u (10 ^ N) → Hid (Calls Tryd.prog 42 #[v, u] w fun e w' => e = .returned (.int .u64 0) ∧ Below w.heap.size w w') := fun w u hv hu => hide (nearest_none w v u l hv sl (by omega) h0)
  have hb : bits (wval l) ≤ 1280 := by rw [h0, bits_zero]; omega
  generalize 10 ^ N = T at *
  have i1 : ¬ (1280 : Int) < (bits (wval l) : Int) := by omega
  have i2 : ¬ -(N : Int) < -1000 := by omega
  have i3 : ¬ (1000 : Int) < -(N : Int) := by omega
  have i4 : -(N : Int) < 0 := by omega
  generalize bits (wval l) = m at *
  go_enter Tryd.func18, Tryd.ntmps18
  go_wp2_with fail
  refine (unhide K1).mono ?_
  rintro e w1 ⟨rfl, b1⟩
  go_wp2_with fail
  refine (unhide (K2 w1)).mono ?_
  rintro e w2 ⟨v2, rfl, h2, b2⟩
  have bw2 := b1.trans (b2.mono b1.size)
  have K4 := K3 w2 v2 (hv.below bw2) h2
  clear K1 K2 K3 b1 b2 hv h2
  go_wp2_with fail
  refine (unhide K4).mono ?_
  rintro e w3 ⟨rfl, b3⟩
  have bw3 := bw2.trans (b3.mono bw2.size)
  clear b3 bw2 K4
  go_wp2
  go_ret2
  exact ⟨rfl, bw3⟩
set_option maxHeartbeats 8000000 in
set_option maxRecDepth 100000 in
theorem nearW_nilUp (w : World) (v : Value) (l : List Nat) (N : Nat) (hv : WSl w v l) (sl : Words32 l) (ll : l.length ≤ 45) (h0 : wval l = 0) (hN : N ≤ 1000) :
    Calls Tryd.prog 18 #[v, .int .i64 N] w fun e w' => e = .returned (.tuple #[.int .u64 0, .int .i64 0]) ∧ Below w.heap.size w w' := by
  have K1 := hide (len_any w v l hv sl (by omega))
  have K2 : ∀ w, Hid _ := fun w => hide (tenTo_any w N hN)
  have hT : 10 ^ N ≠ 0 := Nat.ne_of_gt (Nat.pow_pos (by decide))
  have hTl := pow10_words hN
  have hPl : (wdig (wval l * 10 ^ N)).length ≤ 2000 := by have := wdig_prod_len (wval l) (10 ^ N); have := wdig_len_words sl; omega
  have K3 : ∀ w u, WSl w v l → WBig w u (10 ^ N) → Hid (Calls Tryd.prog 44 #[v, u] w fun e w' => ∃ v', e = .returned v' ∧ WBig w' v' (wval l * 10 ^ N) ∧ Below w.heap.size w w') := fun w u hv hu => by
    have h := mul_any w v u l (wdig (10 ^ N)) hv hu sl (words_wdig _) (by omega) (by omega)
    rw [wval_wdig] at h
    exact hide h
  have K5 : ∀ w v u, WBig w v (wval l * 10 ^ N) → WSl w u [1] → Hid (Calls Tryd.prog 42 #[v, u] w fun e w' => e = .returned (.int .u64 0) ∧ Below w.heap.size w w') := fun w v u hv hu => hide (nearest_none w v u (wdig (wval l * 10 ^ N)) hv (words_wdig _) hPl (by rw [wval_wdig, h0, Nat.zero_mul]))
  have hb : bits (wval l) ≤ 1280 := by rw [h0, bits_zero]; omega
  clear hT hTl hPl
  generalize hP : wval l * 10 ^ N = P at *
  clear hP
  generalize 10 ^ N = T at *
  have i1 : ¬ (1280 : Int) < (bits (wval l) : Int) := by omega
  have i2 : ¬ (N : Int) < -1000 := by omega
  have i3 : ¬ (1000 : Int) < (N : Int) := by omega
  have i4 : ¬ (N : Int) < 0 := by omega
  generalize bits (wval l) = m at *
  go_enter Tryd.func18, Tryd.ntmps18
  go_wp2_with fail
  refine (unhide K1).mono ?_
  rintro e w1 ⟨rfl, b1⟩
  go_wp2_with fail
  refine (unhide (K2 w1)).mono ?_
  rintro e w2 ⟨v2, rfl, h2, b2⟩
  have bw2 := b1.trans (b2.mono b1.size)
  have K4 := K3 w2 v2 (hv.below bw2) h2
  clear K1 K2 K3 b1 b2 hv h2
  go_wp2_with fail
  refine (unhide K4).mono ?_
  rintro e w3 ⟨v3, rfl, h3, b3⟩
  have bw3 := bw2.trans (b3.mono bw2.size)
  have b4 : Below w3.heap.size w3 (w3.alloc (.cells #[.int .u32 1] 40)) := (Below.refl _ _).alloc (Nat.le_refl _) _
  have K6 := K5 _ _ _ (h3.below b4) ⟨_, 1, rfl, by simp, lit_row w3 1⟩
  have bw4 := bw3.trans (b4.mono bw3.size)
  clear K4 K5 b3 bw2 h3 b4 bw3
  go_wp2_with fail
  refine (unhide K6).mono ?_
  rintro e w5 ⟨rfl, b5⟩
  have bw5 := bw4.trans (b5.mono bw4.size)
  clear b5 bw4 K6
  go_wp2
  go_ret2
  exact ⟨rfl, bw5⟩
theorem nearW_nil (w : World) (v : Value) (l : List Nat) (x : Int) (hv : WSl w v l) (sl : Words32 l) (ll : l.length ≤ 45) (h0 : wval l = 0) (hx1 : -1000 ≤ x) (hx2 : x ≤ 1000) :
    Calls Tryd.prog 18 #[v, .int .i64 x] w fun e w' => e = .returned (.tuple #[.int .u64 0, .int .i64 0]) ∧ Below w.heap.size w w' := by
  by_cases c : 0 ≤ x
  · obtain ⟨N, rfl⟩ : ∃ N : Nat, x = N := ⟨x.toNat, by omega⟩
    exact nearW_nilUp w v l N hv sl ll h0 (by omega)
  · obtain ⟨N, rfl⟩ : ∃ N : Nat, x = -(N : Int) := ⟨(-x).toNat, by omega⟩
    exact nearW_nilDown w v l N hv sl ll h0 (by omega) (by omega)
end Go.Proofs.YtobbbhmkcmbekaaDoor.bigs
