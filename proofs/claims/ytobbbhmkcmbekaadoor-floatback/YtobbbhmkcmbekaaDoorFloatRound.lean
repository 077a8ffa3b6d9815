/- The walks of package float: small, large, tenTo, divide, rounded, nearest, Near. -/
import Derived.Test.YtobbbhmkcmbekaaDoorFloatBlk
import Derived.Deep.CutRange
set_option linter.unusedVariables false
namespace Go.Proofs.YtobbbhmkcmbekaaDoor.bigs
open Go.RowKit

theorem or_high (n x : Nat) (hn : n < 4294967296) (hx : x < 4294967296) : Go.bits .or .u64 (n : Int) ((x : Int) * 4294967296) = ((n + x * 4294967296 : Nat) : Int) := by
  have h := or_word x n hx hn
  have c : Go.bits .or .u64 (n : Int) ((x : Int) * 4294967296) = Go.bits .or .u64 ((x : Int) * 4294967296) (n : Int) := by
    unfold Go.bits
    simp only [BitVec.or_comm]
  rw [c, h, Nat.add_comm]
theorem or_none (x : Nat) (hx : x < 4294967296) : Go.bits .or .u64 0 (x : Int) = (x : Int) := by
  have h := or_word 0 x (by omega) hx
  simpa using h
set_option maxHeartbeats 4000000 in
set_option maxRecDepth 100000 in
theorem smallW_any (w : World) (v : Value) (l : List Nat) (hv : WSl w v l) (sl : Words32 l) (hl : l.length ≤ 2) :
    Calls Tryd.prog 56 #[v] w fun e w' => e = .returned (.int .u64 (wval l)) ∧ w' = w := by
  obtain ⟨a, ca, rfl, hca, ra⟩ := hv
  go_enter Tryd.func56, Tryd.ntmps56
  go_wp2
  go_loopw [8, 3] (fun i n wr => ∃ k : Nat, k ≤ l.length ∧ i = .int .i64 k ∧ n = .int .u64 (wval (l.take k)) ∧ wr = w) (fun i _ _ => l.length - (intOf i).toNat)
  case atStart => exact ⟨0, Nat.zero_le _, rfl, rfl, rfl⟩
  case round =>
    obtain ⟨k, hk, rfl, rfl, rfl⟩ := hrel
    by_cases hlt : k < l.length
    · obtain ⟨ba, oa, rfl, hba, hca⟩ := ra (by intro e; rw [e] at hlt; simp at hlt)
      have c1 := hca k hlt
      have x1 : l.getD k 0 < 4294967296 := sl k hlt
      have hs := wval_take_next l k
      have H : Hid (wval (l.take (k + 1)) = wval (l.take k) + 4294967296 ^ k * l.getD k 0) := hide hs
      clear hs hca ra
      have hk2 : k = 0 ∨ k = 1 := by omega
      rcases hk2 with rfl | rfl
      · have z : wval (l.take 0) = 0 := rfl
        rw [Nat.add_zero] at c1
        have o := or_none _ x1
        rw [z]
        generalize l.getD 0 0 = x at *
        go_wp2
        go_roundw
        case rel => exact ⟨1, by omega, by go_num, by rw [unhide H, z]; simp, by trivial⟩
        case measure => simp [intOf]; omega
      · have z : wval (l.take 1) < 4294967296 := by
          have := wval_lt (words_take sl 1)
          have e : (l.take 1).length = 1 := by rw [List.length_take]; omega
          rw [e] at this
          simpa using this
        have o := or_high (wval (l.take 1)) _ z x1
        generalize wval (l.take 1) = y at *
        generalize l.getD 1 0 = x at *
        go_wp2
        go_roundw
        case rel => exact ⟨2, by omega, by go_num, by rw [unhide H]; simp [Nat.mul_comm], by trivial⟩
        case measure => simp [intOf]; omega
    · have hkl : k = l.length := by omega
      subst hkl
      rw [List.take_length]
      go_wp2
      go_ret
      exact ⟨rfl, rfl⟩
theorem small_big (w : World) (v : Value) (n : Nat) (hv : WBig w v n) (hn : n < 18446744073709551616) :
    Calls Tryd.prog 56 #[v] w fun e w' => e = .returned (.int .u64 n) ∧ w' = w := by
  have h := smallW_any w v (wdig n) hv (words_wdig n) (wdig_len_lt (by simpa using hn))
  rwa [wval_wdig] at h
set_option maxHeartbeats 4000000 in
set_option maxRecDepth 100000 in
theorem large_any (w : World) (n : Nat) (hn : n < 18446744073709551616) :
    Calls Tryd.prog 76 #[.int .u64 n] w fun e w' => ∃ v l, e = .returned v ∧ WSl w' v l ∧ Words32 l ∧ l.length = 2 ∧ wval l = n ∧ Below w.heap.size w w' := by
  obtain ⟨hi, h1⟩ : ∃ hi, hi = n / 4294967296 := ⟨_, rfl⟩
  obtain ⟨lo, h2⟩ : ∃ lo, lo = n % 4294967296 := ⟨_, rfl⟩
  have n1 : (n : Int) / 4294967296 = (hi : Int) := by omega
  have n2 : (n : Int) % 4294967296 = (lo : Int) := by omega
  have n3 : (hi : Int) % 4294967296 = (hi : Int) := by omega
  have hh : hi < 4294967296 := by omega
  have hl : lo < 4294967296 := by omega
  have hs : n = lo + 4294967296 * hi := by omega
  have HS := hide hs
  clear h1 h2 hs
  go_enter Tryd.func76, Tryd.ntmps76
  go_wp2
  go_ret
  exact ⟨_, [lo, hi], rfl, ⟨_, _, rfl, by simp, lit_two w lo hi⟩, words_cons.2 ⟨hl, words_one hh⟩, rfl, by rw [unhide HS]; simp [wval], (Below.refl _ _).alloc (Nat.le_refl _) _⟩
set_option maxHeartbeats 4000000 in
set_option maxRecDepth 100000 in
theorem tenTo_any (w : World) (n : Nat) (hn : n ≤ 1000) :
    Calls Tryd.prog 43 #[.int .i64 n] w fun e w' => ∃ v, e = .returned v ∧ WBig w' v (10 ^ n) ∧ Below w.heap.size w w' := by
  have K1 := hide (pow_any w 10 n (by omega) hn)
  generalize 10 ^ n = T at *
  go_enter Tryd.func43, Tryd.ntmps43
  go_wp2_with fail
  refine (unhide K1).mono ?_
  rintro e w1 ⟨v1, rfl, h1, b1⟩
  have H1 := hide h1
  clear h1 K1
  go_wp2
  go_ret
  exact ⟨_, rfl, unhide H1, b1⟩
theorem no3 : NoWord #[.slice none 0 0, .slice none 0 0, .slice none 0 0] := noWord_slice3 _ _ _ (fun _ h => by cases h) (fun _ h => by cases h) (fun _ h => by cases h)
theorem wdig_shift_len {m N : Nat} : (wdig (m * 2 ^ N)).length ≤ (wdig m).length + N + 1 := by
  have h := wdig_prod_len m (2 ^ N)
  have h2 := wdig_pow_len (b := 2) (e := N) (by decide)
  omega
theorem wsl_noword {w : World} {v : Value} {l : List Nat} (h : WSl w v l) : ∀ q, v ≠ .int .u32 q := by
  obtain ⟨a, c, rfl, _⟩ := h
  intro q e
  cases e
theorem divide_end {w2 : World} {v1 v2 v3 : Value} {n1 n2 : Nat} (b : Nat) (bk : Blk w2 b #[.slice none 0 0, .slice none 0 0, .slice none 0 0] 80) {k3 : List Nat} (h1 : WBig w2 v1 n1) (h2 : WBig w2 v2 n2) (h3 : WSl w2 v3 k3) :
    (((w2.setCell ⟨b, 0, none⟩ v1).setCell ⟨b, 1, none⟩ v2).setCell ⟨b, 2, none⟩ v3).cell? ⟨b, 0, none⟩ = some v1 ∧ (((w2.setCell ⟨b, 0, none⟩ v1).setCell ⟨b, 1, none⟩ v2).setCell ⟨b, 2, none⟩ v3).cell? ⟨b, 1, none⟩ = some v2 ∧
    (((w2.setCell ⟨b, 0, none⟩ v1).setCell ⟨b, 1, none⟩ v2).setCell ⟨b, 2, none⟩ v3).cell? ⟨b, 2, none⟩ = some v3 ∧ WBig (((w2.setCell ⟨b, 0, none⟩ v1).setCell ⟨b, 1, none⟩ v2).setCell ⟨b, 2, none⟩ v3) v1 n1 ∧
    WBig (((w2.setCell ⟨b, 0, none⟩ v1).setCell ⟨b, 1, none⟩ v2).setCell ⟨b, 2, none⟩ v3) v2 n2 ∧ WSl (((w2.setCell ⟨b, 0, none⟩ v1).setCell ⟨b, 1, none⟩ v2).setCell ⟨b, 2, none⟩ v3) v3 k3 := by
  have F := bk.set3 v1 v2 v3
  have m1 := wsl_noword h1
  have m2 := wsl_noword h2
  exact ⟨F.cell 0 _ rfl, F.cell 1 _ rfl, F.cell 2 _ rfl, WSl.set3 h1 bk no3 _ _ _ m1 m2, WSl.set3 h2 bk no3 _ _ _ m1 m2, WSl.set3 h3 bk no3 _ _ _ m1 m2⟩
set_option maxHeartbeats 4000000 in
set_option maxRecDepth 100000 in
theorem divide_up (w : World) (v u : Value) (l k : List Nat) (N B : Nat) (hv : WSl w v l) (hu : WSl w u k) (sl : Words32 l) (sk : Words32 k) (ll : l.length ≤ 2000) (lk : k.length ≤ 2000) (hN : N ≤ 4000) (h0 : wval k ≠ 0) (hB : B = wval k * 2 ^ N) :
    Calls Tryd.prog 71 #[v, u, .int .i64 N] w fun e w' => ∃ v1 v2 v3, e = .returned (.agg #[v1, v2, v3]) ∧ WBig w' v1 (wval l / B) ∧ WBig w' v2 (wval l % B) ∧ WBig w' v3 B ∧ Below w.heap.size w w' := by
  have hB0 : B ≠ 0 := by rw [hB]; exact Nat.mul_ne_zero h0 (Nat.ne_of_gt (Nat.pow_pos (by decide)))
  have hBl : (wdig B).length ≤ 300000 := by rw [hB]; have := wdig_shift_len (m := wval k) (N := N); have := wdig_len_words sk; omega
  have K1 : ∀ w, WSl w u k → Hid (Calls Tryd.prog 88 #[u, .int .i64 N] w fun e w' => ∃ v', e = .returned (.tuple #[v', .int .i64 0]) ∧ WBig w' v' B ∧ Below w.heap.size w w') := fun w hu => by rw [hB]; exact hide (shiftUp_any w u k N hu sk (by omega) hN)
  have K2 : ∀ w u, WSl w v l → WBig w u B → Hid (Calls Tryd.prog 89 #[v, u] w fun e w' => ∃ v1 v2, e = .returned (.tuple #[v1, v2, .int .i64 0]) ∧ WBig w' v1 (wval l / B) ∧ WBig w' v2 (wval l % B) ∧ Below w.heap.size w w') := fun w u hv hu => by
    have h := div_any w v u l (wdig B) hv hu sl (words_wdig _) (by omega) hBl (by rw [wval_wdig]; exact hB0)
    rw [wval_wdig] at h
    exact hide h
  clear hB hBl hB0
  have i1 : ¬ ((N : Int) < 0) := by omega
  go_enter Tryd.func71, Tryd.ntmps71
  go_wp2_with fail
  have b0 : Below w.heap.size w (w.alloc (.cells #[.slice none 0 0, .slice none 0 0, .slice none 0 0] 80)) := (Below.refl _ _).alloc (Nat.le_refl _) _
  have bk0 := blk_alloc w #[.slice none 0 0, .slice none 0 0, .slice none 0 0] 80
  generalize w.alloc (.cells #[.slice none 0 0, .slice none 0 0, .slice none 0 0] 80) = w0 at *
  refine (unhide (K1 w0 (hu.below b0))).mono ?_
  rintro e w1 ⟨v1, rfl, h1, b1⟩
  have hv1 := (hv.below b0).below b1
  have H1 := hide h1
  have K3 := K2 w1 v1 hv1 h1
  obtain ⟨a1, q1, rfl, _, _⟩ := h1
  clear hv1 K1 K2
  go_wp2_with fail
  refine (unhide K3).mono ?_
  rintro e w2 ⟨v2, v3, rfl, h2, h3, b2⟩
  have bk2 := (bk0.below b1).below b2
  have bw := b0.trans (b1.mono b0.size |>.trans (b2.mono (Nat.le_trans b0.size b1.size)))
  have FIN := hide (divide_end w.heap.size bk2 h2 h3 ((unhide H1).below b2))
  have BF : ∀ u1 u2 u3, Hid _ := fun u1 u2 u3 => hide (below_set3 (b := w.heap.size) bw (Nat.le_refl _) u1 u2 u3)
  obtain ⟨a2, q2, rfl, _, _⟩ := h2
  obtain ⟨a3, q3, rfl, _, _⟩ := h3
  have c0 := bk2.cell 0 _ rfl
  have c1 := bk2.cell 1 _ rfl
  have c2 := bk2.cell 2 _ rfl
  have z0 := bk2.froz 0
  have z1 := bk2.froz 1
  have z2 := bk2.froz 2
  clear K3 bk0 bk2 b0 b1 b2 H1 bw
  generalize (wdig B).length = n1 at *
  generalize (wdig (wval l / B)).length = n2 at *
  generalize (wdig (wval l % B)).length = n3 at *
  go_wp2
  have FI := unhide FIN
  have BB := unhide (BF (.slice a2 n2 q2) (.slice a3 n3 q3) (.slice a1 n1 q1))
  clear FIN BF c0 c1 c2 z0 z1 z2
  generalize (((w2.setCell ⟨w.heap.size, 0, none⟩ (.slice a2 n2 q2)).setCell ⟨w.heap.size, 1, none⟩ (.slice a3 n3 q3)).setCell ⟨w.heap.size, 2, none⟩ (.slice a1 n1 q1)) = wF at *
  obtain ⟨f0, f1, f2, F1, F2, F3⟩ := FI
  refine bodyPost_ret (v := .agg #[.slice a2 n2 q2, .slice a3 n3 q3, .slice a1 n1 q1]) (by simp [results, Tryd.results71, go_sem, f0, f1, f2]) rfl ?_
  exact ⟨_, _, _, rfl, F1, F2, F3, BB⟩
set_option maxHeartbeats 4000000 in
set_option maxRecDepth 100000 in
theorem divide_down (w : World) (v u : Value) (l k : List Nat) (N A : Nat) (hv : WSl w v l) (hu : WSl w u k) (sl : Words32 l) (sk : Words32 k) (ll : l.length ≤ 2000) (lk : k.length ≤ 2000) (hN : N ≤ 4000) (hN1 : 1 ≤ N) (h0 : wval k ≠ 0) (hA : A = wval l * 2 ^ N) :
    Calls Tryd.prog 71 #[v, u, .int .i64 (-(N : Int))] w fun e w' => ∃ v1 v2 v3, e = .returned (.agg #[v1, v2, v3]) ∧ WBig w' v1 (A / wval k) ∧ WBig w' v2 (A % wval k) ∧ WSl w' v3 k ∧ Below w.heap.size w w' := by
  have hAl : (wdig A).length ≤ 300000 := by rw [hA]; have := wdig_shift_len (m := wval l) (N := N); have := wdig_len_words sl; omega
  have K1 : ∀ w, WSl w v l → Hid (Calls Tryd.prog 88 #[v, .int .i64 N] w fun e w' => ∃ v', e = .returned (.tuple #[v', .int .i64 0]) ∧ WBig w' v' A ∧ Below w.heap.size w w') := fun w hu => by rw [hA]; exact hide (shiftUp_any w v l N hu sl (by omega) hN)
  have K2 : ∀ w v, WBig w v A → WSl w u k → Hid (Calls Tryd.prog 89 #[v, u] w fun e w' => ∃ v1 v2, e = .returned (.tuple #[v1, v2, .int .i64 0]) ∧ WBig w' v1 (A / wval k) ∧ WBig w' v2 (A % wval k) ∧ Below w.heap.size w w') := fun w v hv hu => by
    have h := div_any w v u (wdig A) k hv hu (words_wdig _) sk hAl (by omega) h0
    rw [wval_wdig] at h
    exact hide h
  clear hA hAl h0
  have i1 : -(N : Int) < 0 := by omega
  go_enter Tryd.func71, Tryd.ntmps71
  go_wp2_with fail
  have b0 : Below w.heap.size w (w.alloc (.cells #[.slice none 0 0, .slice none 0 0, .slice none 0 0] 80)) := (Below.refl _ _).alloc (Nat.le_refl _) _
  have bk0 := blk_alloc w #[.slice none 0 0, .slice none 0 0, .slice none 0 0] 80
  generalize w.alloc (.cells #[.slice none 0 0, .slice none 0 0, .slice none 0 0] 80) = w0 at *
  refine (unhide (K1 w0 (hv.below b0))).mono ?_
  rintro e w1 ⟨v1, rfl, h1, b1⟩
  have hu1 := (hu.below b0).below b1
  have HU := hide hu1
  have K3 := K2 w1 v1 h1 hu1
  obtain ⟨a1, q1, rfl, _, _⟩ := h1
  clear hu1 K1 K2
  go_wp2_with fail
  refine (unhide K3).mono ?_
  rintro e w2 ⟨v2, v3, rfl, h2, h3, b2⟩
  have bk2 := (bk0.below b1).below b2
  have bw := b0.trans (b1.mono b0.size |>.trans (b2.mono (Nat.le_trans b0.size b1.size)))
  have FIN := hide (divide_end w.heap.size bk2 h2 h3 ((unhide HU).below b2))
  have BF : ∀ u1 u2 u3, Hid _ := fun u1 u2 u3 => hide (below_set3 (b := w.heap.size) bw (Nat.le_refl _) u1 u2 u3)
  obtain ⟨a2, q2, rfl, _, _⟩ := h2
  obtain ⟨a3, q3, rfl, _, _⟩ := h3
  obtain ⟨a4, q4, rfl, _, _⟩ := hu
  have c0 := bk2.cell 0 _ rfl
  have c1 := bk2.cell 1 _ rfl
  have c2 := bk2.cell 2 _ rfl
  have z0 := bk2.froz 0
  have z1 := bk2.froz 1
  have z2 := bk2.froz 2
  clear K3 bk0 bk2 b0 b1 b2 HU bw
  generalize (wdig A).length = n1 at *
  generalize (wdig (A / wval k)).length = n2 at *
  generalize (wdig (A % wval k)).length = n3 at *
  go_wp2
  have FI := unhide FIN
  have BB := unhide (BF (.slice a2 n2 q2) (.slice a3 n3 q3) (.slice a4 k.length q4))
  clear FIN BF c0 c1 c2 z0 z1 z2
  generalize (((w2.setCell ⟨w.heap.size, 0, none⟩ (.slice a2 n2 q2)).setCell ⟨w.heap.size, 1, none⟩ (.slice a3 n3 q3)).setCell ⟨w.heap.size, 2, none⟩ (.slice a4 k.length q4)) = wF at *
  obtain ⟨f0, f1, f2, F1, F2, F3⟩ := FI
  refine bodyPost_ret (v := .agg #[.slice a2 n2 q2, .slice a3 n3 q3, .slice a4 k.length q4]) (by simp [results, Tryd.results71, go_sem, f0, f1, f2]) rfl ?_
  exact ⟨_, _, _, rfl, F1, F2, F3, BB⟩
/-- divide, at whatever exponent. -/
def DivOf (w : World) (v : Value) (A B : Nat) : Prop := ∃ a1 n1 c1 a2 n2 c2 a3 n3 c3, v = .agg #[.slice a1 n1 c1, .slice a2 n2 c2, .slice a3 n3 c3] ∧ WBig w (.slice a1 n1 c1) (A / B) ∧ WBig w (.slice a2 n2 c2) (A % B) ∧ ∃ k : List Nat, WSl w (.slice a3 n3 c3) k ∧ Words32 k ∧ k.length ≤ 10000 ∧ wval k = B
theorem divOf {w : World} {v1 v2 v3 : Value} {A B : Nat} {k : List Nat} (h1 : WBig w v1 (A / B)) (h2 : WBig w v2 (A % B)) (h3 : WSl w v3 k) (sk : Words32 k) (lk : k.length ≤ 10000) (hk : wval k = B) : DivOf w (.agg #[v1, v2, v3]) A B := by
  have m1 := h1
  have m2 := h2
  have m3 := h3
  obtain ⟨a1, c1, rfl, _⟩ := h1
  obtain ⟨a2, c2, rfl, _⟩ := h2
  obtain ⟨a3, c3, rfl, _⟩ := h3
  exact ⟨_, _, _, _, _, _, _, _, _, rfl, m1, m2, k, m3, sk, lk, hk⟩
theorem DivOf.below {w w' : World} {v : Value} {A B : Nat} (h : DivOf w v A B) (hb : Below w.heap.size w w') : DivOf w' v A B := by
  obtain ⟨a1, n1, c1, a2, n2, c2, a3, n3, c3, e, h1, h2, k, h3, h4⟩ := h
  exact ⟨a1, n1, c1, a2, n2, c2, a3, n3, c3, e, h1.below hb, h2.below hb, k, h3.below hb, h4⟩
theorem divide_any (w : World) (v u : Value) (l k : List Nat) (x : Int) (hv : WSl w v l) (hu : WSl w u k) (sl : Words32 l) (sk : Words32 k) (ll : l.length ≤ 2000) (lk : k.length ≤ 2000) (hx1 : -4000 ≤ x) (hx2 : x ≤ 4000) (h0 : wval k ≠ 0) :
    Calls Tryd.prog 71 #[v, u, .int .i64 x] w fun e w' => ∃ d, e = .returned d ∧ DivOf w' d (wval l * 2 ^ (-x).toNat) (wval k * 2 ^ x.toNat) ∧ Below w.heap.size w w' := by
  by_cases c : 0 ≤ x
  · obtain ⟨N, rfl⟩ : ∃ N : Nat, x = N := ⟨x.toNat, by omega⟩
    rw [show (-(N : Int)).toNat = 0 by omega, show ((N : Int)).toNat = N by omega, Nat.pow_zero, Nat.mul_one]
    refine (divide_up w v u l k N _ hv hu sl sk ll lk (by omega) h0 rfl).mono ?_
    rintro e w' ⟨v1, v2, v3, rfl, h1, h2, h3, b⟩
    refine ⟨_, rfl, divOf h1 h2 h3 (words_wdig _) ?_ (wval_wdig _), b⟩
    have := wdig_shift_len (m := wval k) (N := N)
    have := wdig_len_words sk
    omega
  · obtain ⟨N, rfl⟩ : ∃ N : Nat, x = -(N : Int) := ⟨(-x).toNat, by omega⟩
    rw [show (-(-(N : Int))).toNat = N by omega, show (-(N : Int)).toNat = 0 by omega, Nat.pow_zero, Nat.mul_one]
    refine (divide_down w v u l k N _ hv hu sl sk ll lk (by omega) (by omega) h0 rfl).mono ?_
    rintro e w' ⟨v1, v2, v3, rfl, h1, h2, h3, b⟩
    exact ⟨_, rfl, divOf h1 h2 h3 sk (by omega) rfl, b⟩
end Go.Proofs.YtobbbhmkcmbekaaDoor.bigs
