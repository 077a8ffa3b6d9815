/- Of our texts, what this claim reaches. -/
import Derived.Test.YtnbfnjhbmeocfabGreatDoorPssAW
import Derived.Deep.CutRange
set_option linter.unusedVariables false
set_option maxHeartbeats 4000000
set_option maxRecDepth 100000
namespace Go.Proofs.YtnbfnjhbmeocfabGreatDoor.bigs
open Go.RowKit
theorem or_high (n x : Nat) (hn : n < 4294967296) (hx : x < 4294967296) : Go.bits .or .u64 (n : Int) ((x : Int) * 4294967296) = ((n + x * 4294967296 : Nat) : Int) := by
 have h := or_word x n hx hn
 have c : Go.bits .or .u64 (n : Int) ((x : Int) * 4294967296) = Go.bits .or .u64 ((x : Int) * 4294967296) (n : Int) := by
  unfold Go.bits
  simp only [BitVec.or_comm]
 rw [c, h, Nat.add_comm]
theorem or_none (x : Nat) (hx : x < 4294967296) : Go.bits .or .u64 0 (x : Int) = (x : Int) := by
 have h := or_word 0 x (by omega) hx
 simpa using h
theorem smallW_any (w : World) (v : Value) (l : List Nat) (hv : WSl w v l) (sl : Words32 l) (hl : l.length ≤ 2) :
  Calls Tryz.prog 190 #[v] w fun e w' => e = .returned (.int .u64 (wval l)) ∧ w' = w := by
 obtain ⟨a, ca, rfl, hca, ra⟩ := hv
 go_enter Tryz.func190, Tryz.ntmps190
 go_wp2
 go_loopw [8, 3] (fun i n wr => ∃ k : Nat, k ≤ l.length ∧ i = .int .i64 k ∧ n = .int .u64 (wval (l.take k)) ∧ wr = w) (fun i _ _ => l.length - (intOf i).toNat)
 case atStart => exact ⟨0, Nat.zero_le _, rfl, rfl, rfl⟩
 case round =>
  obtain ⟨k, hk, rfl, rfl, rfl⟩ := hrel
  by_cases hlt : k < l.length
  ·obtain ⟨ba, oa, rfl, hba, hca⟩ := ra (by intro e; rw [e] at hlt; simp at hlt)
   have c1 := hca k hlt
   have x1 : l.getD k 0 < 4294967296 := sl k hlt
   have hs := wval_take_next l k
   have H : Hid (wval (l.take (k + 1)) = wval (l.take k) + 4294967296 ^ k * l.getD k 0) := hide hs
   clear hs hca ra
   have hk2 : k = 0 ∨ k = 1 := by omega
   rcases hk2 with rfl | rfl
   ·have z : wval (l.take 0) = 0 := rfl
    rw [Nat.add_zero] at c1
    have o := or_none _ x1
    rw [z]
    generalize l.getD 0 0 = x at *
    go_wp2
    go_roundw
    case rel => exact ⟨1, by omega, by go_num, by rw [unhide H, z]; simp, by trivial⟩
    case measure => simp [intOf]; omega
   ·have z : wval (l.take 1) < 4294967296 := by
     have := wval_lt (words_take sl 1)
     have e : (l.take 1).length = 1 := by rw [List.length_take]; omega
     rw [e] at this
     simpa using this
    have o := or_high (wval (l.take 1)) _ z x1
    generalize wval (l.take 1) = y at *
    generalize l.getD 1 0 = x at *
    go_wp2
    go_roundw
    case rel => exact ⟨2, by omega, by go_num, by rw [unhide H]; simp [Nat.mul_comm], by trivial⟩
    case measure => simp [intOf]; omega
  ·have hkl : k = l.length := by omega
   subst hkl
   rw [List.take_length]
   go_wp2
   go_ret
   exact ⟨rfl, rfl⟩
theorem small_big (w : World) (v : Value) (n : Nat) (hv : WBig w v n) (hn : n < 18446744073709551616) :
  Calls Tryz.prog 190 #[v] w fun e w' => e = .returned (.int .u64 n) ∧ w' = w := by
 have h := smallW_any w v (wdig n) hv (words_wdig n) (wdig_len_lt (by simpa using hn))
 rwa [wval_wdig] at h
theorem large_any (w : World) (n : Nat) (hn : n < 18446744073709551616) :
  Calls Tryz.prog 217 #[.int .u64 n] w fun e w' => ∃ v l, e = .returned v ∧ WSl w' v l ∧ Words32 l ∧ l.length = 2 ∧ wval l = n ∧ Below w.heap.size w w' := by
 obtain ⟨hi, h1⟩ : ∃ hi, hi = n / 4294967296 := ⟨_, rfl⟩
 obtain ⟨lo, h2⟩ : ∃ lo, lo = n % 4294967296 := ⟨_, rfl⟩
 have n1 : (n : Int) / 4294967296 = (hi : Int) := by omega
 have n2 : (n : Int) % 4294967296 = (lo : Int) := by omega
 have n3 : (hi : Int) % 4294967296 = (hi : Int) := by omega
 have hh : hi < 4294967296 := by omega
 have hl : lo < 4294967296 := by omega
 have hs : n = lo + 4294967296 * hi := by omega
 have HS := hide hs
 clear h1 h2 hs
 go_enter Tryz.func217, Tryz.ntmps217
 go_wp2
 go_ret
 exact ⟨_, [lo, hi], rfl, ⟨_, _, rfl, by simp, lit_two w lo hi⟩, words_cons.2 ⟨hl, words_one hh⟩, rfl, by rw [unhide HS]; simp [wval], (Below.refl _ _).alloc (Nat.le_refl _) _⟩
theorem tenTo_any (w : World) (n : Nat) (hn : n ≤ 1000) :
  Calls Tryz.prog 205 #[.int .i64 n] w fun e w' => ∃ v, e = .returned v ∧ WBig w' v (10 ^ n) ∧ Below w.heap.size w w' := by
 have K1 := hide (pow_any w 10 n (by omega) hn)
 generalize 10 ^ n = T at *
 go_enter Tryz.func205, Tryz.ntmps205
 go_wp2_with fail
 refine (unhide K1).mono ?_
 rintro e w1 ⟨v1, rfl, h1, b1⟩
 have H1 := hide h1
 clear h1 K1
 go_wp2
 go_ret
 exact ⟨_, rfl, unhide H1, b1⟩
theorem no3 : NoWord #[.slice none 0 0, .slice none 0 0, .slice none 0 0] := noWord_slice3 _ _ _ (fun _ h => by cases h) (fun _ h => by cases h) (fun _ h => by cases h)
theorem wdig_shift_len {m N : Nat} : (wdig (m * 2 ^ N)).length ≤ (wdig m).length + N + 1 := by
 have h := wdig_prod_len m (2 ^ N)
 have h2 := wdig_pow_len (b := 2) (e := N) (by decide)
 omega
theorem wsl_noword {w : World} {v : Value} {l : List Nat} (h : WSl w v l) : ∀ q, v ≠ .int .u32 q := by
 obtain ⟨a, c, rfl, _⟩ := h
 intro q e
 cases e
theorem divide_end {w2 : World} {v1 v2 v3 : Value} {n1 n2 : Nat} (b : Nat) (bk : Blk w2 b #[.slice none 0 0, .slice none 0 0, .slice none 0 0] 235) {k3 : List Nat} (h1 : WBig w2 v1 n1) (h2 : WBig w2 v2 n2) (h3 : WSl w2 v3 k3) :
  (((w2.setCell ⟨b, 0, none⟩ v1).setCell ⟨b, 1, none⟩ v2).setCell ⟨b, 2, none⟩ v3).cell? ⟨b, 0, none⟩ = some v1 ∧ (((w2.setCell ⟨b, 0, none⟩ v1).setCell ⟨b, 1, none⟩ v2).setCell ⟨b, 2, none⟩ v3).cell? ⟨b, 1, none⟩ = some v2 ∧
  (((w2.setCell ⟨b, 0, none⟩ v1).setCell ⟨b, 1, none⟩ v2).setCell ⟨b, 2, none⟩ v3).cell? ⟨b, 2, none⟩ = some v3 ∧ WBig (((w2.setCell ⟨b, 0, none⟩ v1).setCell ⟨b, 1, none⟩ v2).setCell ⟨b, 2, none⟩ v3) v1 n1 ∧
  WBig (((w2.setCell ⟨b, 0, none⟩ v1).setCell ⟨b, 1, none⟩ v2).setCell ⟨b, 2, none⟩ v3) v2 n2 ∧ WSl (((w2.setCell ⟨b, 0, none⟩ v1).setCell ⟨b, 1, none⟩ v2).setCell ⟨b, 2, none⟩ v3) v3 k3 := by
 have F := bk.set3 v1 v2 v3
 have m1 := wsl_noword h1
 have m2 := wsl_noword h2
 exact ⟨F.cell 0 _ rfl, F.cell 1 _ rfl, F.cell 2 _ rfl, WSl.set3 h1 bk no3 _ _ _ m1 m2, WSl.set3 h2 bk no3 _ _ _ m1 m2, WSl.set3 h3 bk no3 _ _ _ m1 m2⟩
theorem divide_up (w : World) (v u : Value) (l k : List Nat) (N B : Nat) (hv : WSl w v l) (hu : WSl w u k) (sl : Words32 l) (sk : Words32 k) (ll : l.length ≤ 2000) (lk : k.length ≤ 2000) (hN : N ≤ 4000) (h0 : wval k ≠ 0) (hB : B = wval k * 2 ^ N) :
  Calls Tryz.prog 216 #[v, u, .int .i64 N] w fun e w' => ∃ v1 v2 v3, e = .returned (.agg #[v1, v2, v3]) ∧ WBig w' v1 (wval l / B) ∧ WBig w' v2 (wval l % B) ∧ WBig w' v3 B ∧ Below w.heap.size w w' := by
 have hB0 : B ≠ 0 := by rw [hB]; exact Nat.mul_ne_zero h0 (Nat.ne_of_gt (Nat.pow_pos (by decide)))
 have hBl : (wdig B).length ≤ 300000 := by rw [hB]; have := wdig_shift_len (m := wval k) (N := N); have := wdig_len_words sk; omega
 have K1 : ∀ w, WSl w u k → Hid (Calls Tryz.prog 228 #[u, .int .i64 N] w fun e w' => ∃ v', e = .returned (.tuple #[v', .int .i64 0]) ∧ WBig w' v' B ∧ Below w.heap.size w w') := fun w hu => by rw [hB]; exact hide (shiftUp_any w u k N hu sk (by omega) hN)
 have K2 : ∀ w u, WSl w v l → WBig w u B → Hid (Calls Tryz.prog 229 #[v, u] w fun e w' => ∃ v1 v2, e = .returned (.tuple #[v1, v2, .int .i64 0]) ∧ WBig w' v1 (wval l / B) ∧ WBig w' v2 (wval l % B) ∧ Below w.heap.size w w') := fun w u hv hu => by
  have h := div_any w v u l (wdig B) hv hu sl (words_wdig _) (by omega) hBl (by rw [wval_wdig]; exact hB0)
  rw [wval_wdig] at h
  exact hide h
 clear hB hBl hB0
 have i1 : ¬ ((N : Int) < 0) := by omega
 go_enter Tryz.func216, Tryz.ntmps216
 go_wp2_with fail
 have b0 : Below w.heap.size w (w.alloc (.cells #[.slice none 0 0, .slice none 0 0, .slice none 0 0] 235)) := (Below.refl _ _).alloc (Nat.le_refl _) _
 have bk0 := blk_alloc w #[.slice none 0 0, .slice none 0 0, .slice none 0 0] 235
 generalize w.alloc (.cells #[.slice none 0 0, .slice none 0 0, .slice none 0 0] 235) = w0 at *
 refine (unhide (K1 w0 (hu.below b0))).mono ?_
 rintro e w1 ⟨v1, rfl, h1, b1⟩
 have hv1 := (hv.below b0).below b1
 have H1 := hide h1
 have K3 := K2 w1 v1 hv1 h1
 obtain ⟨a1, q1, rfl, _, _⟩ := h1
 clear hv1 K1 K2
 go_wp2_with fail
 refine (unhide K3).mono ?_
 rintro e w2 ⟨v2, v3, rfl, h2, h3, b2⟩
 have bk2 := (bk0.below b1).below b2
 have bw := b0.trans (b1.mono b0.size |>.trans (b2.mono (Nat.le_trans b0.size b1.size)))
 have FIN := hide (divide_end w.heap.size bk2 h2 h3 ((unhide H1).below b2))
 have BF : ∀ u1 u2 u3, Hid _ := fun u1 u2 u3 => hide (below_set3 (b := w.heap.size) bw (Nat.le_refl _) u1 u2 u3)
 obtain ⟨a2, q2, rfl, _, _⟩ := h2
 obtain ⟨a3, q3, rfl, _, _⟩ := h3
 have c0 := bk2.cell 0 _ rfl
 have c1 := bk2.cell 1 _ rfl
 have c2 := bk2.cell 2 _ rfl
 have z0 := bk2.froz 0
 have z1 := bk2.froz 1
 have z2 := bk2.froz 2
 clear K3 bk0 bk2 b0 b1 b2 H1 bw
 generalize (wdig B).length = n1 at *
 generalize (wdig (wval l / B)).length = n2 at *
 generalize (wdig (wval l % B)).length = n3 at *
 go_wp2
 have FI := unhide FIN
 have BB := unhide (BF (.slice a2 n2 q2) (.slice a3 n3 q3) (.slice a1 n1 q1))
 clear FIN BF c0 c1 c2 z0 z1 z2
 generalize (((w2.setCell ⟨w.heap.size, 0, none⟩ (.slice a2 n2 q2)).setCell ⟨w.heap.size, 1, none⟩ (.slice a3 n3 q3)).setCell ⟨w.heap.size, 2, none⟩ (.slice a1 n1 q1)) = wF at *
 obtain ⟨f0, f1, f2, F1, F2, F3⟩ := FI
 refine bodyPost_ret (v := .agg #[.slice a2 n2 q2, .slice a3 n3 q3, .slice a1 n1 q1]) (by simp [results, Tryz.results216, go_sem, f0, f1, f2]) rfl ?_
 exact ⟨_, _, _, rfl, F1, F2, F3, BB⟩
theorem divide_down (w : World) (v u : Value) (l k : List Nat) (N A : Nat) (hv : WSl w v l) (hu : WSl w u k) (sl : Words32 l) (sk : Words32 k) (ll : l.length ≤ 2000) (lk : k.length ≤ 2000) (hN : N ≤ 4000) (hN1 : 1 ≤ N) (h0 : wval k ≠ 0) (hA : A = wval l * 2 ^ N) :
  Calls Tryz.prog 216 #[v, u, .int .i64 (-(N : Int))] w fun e w' => ∃ v1 v2 v3, e = .returned (.agg #[v1, v2, v3]) ∧ WBig w' v1 (A / wval k) ∧ WBig w' v2 (A % wval k) ∧ WSl w' v3 k ∧ Below w.heap.size w w' := by
 have hAl : (wdig A).length ≤ 300000 := by rw [hA]; have := wdig_shift_len (m := wval l) (N := N); have := wdig_len_words sl; omega
 have K1 : ∀ w, WSl w v l → Hid (Calls Tryz.prog 228 #[v, .int .i64 N] w fun e w' => ∃ v', e = .returned (.tuple #[v', .int .i64 0]) ∧ WBig w' v' A ∧ Below w.heap.size w w') := fun w hu => by rw [hA]; exact hide (shiftUp_any w v l N hu sl (by omega) hN)
 have K2 : ∀ w v, WBig w v A → WSl w u k → Hid (Calls Tryz.prog 229 #[v, u] w fun e w' => ∃ v1 v2, e = .returned (.tuple #[v1, v2, .int .i64 0]) ∧ WBig w' v1 (A / wval k) ∧ WBig w' v2 (A % wval k) ∧ Below w.heap.size w w') := fun w v hv hu => by
  have h := div_any w v u (wdig A) k hv hu (words_wdig _) sk hAl (by omega) h0
  rw [wval_wdig] at h
  exact hide h
 clear hA hAl h0
 have i1 : -(N : Int) < 0 := by omega
 go_enter Tryz.func216, Tryz.ntmps216
 go_wp2_with fail
 have b0 : Below w.heap.size w (w.alloc (.cells #[.slice none 0 0, .slice none 0 0, .slice none 0 0] 235)) := (Below.refl _ _).alloc (Nat.le_refl _) _
 have bk0 := blk_alloc w #[.slice none 0 0, .slice none 0 0, .slice none 0 0] 235
 generalize w.alloc (.cells #[.slice none 0 0, .slice none 0 0, .slice none 0 0] 235) = w0 at *
 refine (unhide (K1 w0 (hv.below b0))).mono ?_
 rintro e w1 ⟨v1, rfl, h1, b1⟩
 have hu1 := (hu.below b0).below b1
 have HU := hide hu1
 have K3 := K2 w1 v1 h1 hu1
 obtain ⟨a1, q1, rfl, _, _⟩ := h1
 clear hu1 K1 K2
 go_wp2_with fail
 refine (unhide K3).mono ?_
 rintro e w2 ⟨v2, v3, rfl, h2, h3, b2⟩
 have bk2 := (bk0.below b1).below b2
 have bw := b0.trans (b1.mono b0.size |>.trans (b2.mono (Nat.le_trans b0.size b1.size)))
 have FIN := hide (divide_end w.heap.size bk2 h2 h3 ((unhide HU).below b2))
 have BF : ∀ u1 u2 u3, Hid _ := fun u1 u2 u3 => hide (below_set3 (b := w.heap.size) bw (Nat.le_refl _) u1 u2 u3)
 obtain ⟨a2, q2, rfl, _, _⟩ := h2
 obtain ⟨a3, q3, rfl, _, _⟩ := h3
 obtain ⟨a4, q4, rfl, _, _⟩ := hu
 have c0 := bk2.cell 0 _ rfl
 have c1 := bk2.cell 1 _ rfl
 have c2 := bk2.cell 2 _ rfl
 have z0 := bk2.froz 0
 have z1 := bk2.froz 1
 have z2 := bk2.froz 2
 clear K3 bk0 bk2 b0 b1 b2 HU bw
 generalize (wdig A).length = n1 at *
 generalize (wdig (A / wval k)).length = n2 at *
 generalize (wdig (A % wval k)).length = n3 at *
 go_wp2
 have FI := unhide FIN
 have BB := unhide (BF (.slice a2 n2 q2) (.slice a3 n3 q3) (.slice a4 k.length q4))
 clear FIN BF c0 c1 c2 z0 z1 z2
 generalize (((w2.setCell ⟨w.heap.size, 0, none⟩ (.slice a2 n2 q2)).setCell ⟨w.heap.size, 1, none⟩ (.slice a3 n3 q3)).setCell ⟨w.heap.size, 2, none⟩ (.slice a4 k.length q4)) = wF at *
 obtain ⟨f0, f1, f2, F1, F2, F3⟩ := FI
 refine bodyPost_ret (v := .agg #[.slice a2 n2 q2, .slice a3 n3 q3, .slice a4 k.length q4]) (by simp [results, Tryz.results216, go_sem, f0, f1, f2]) rfl ?_
 exact ⟨_, _, _, rfl, F1, F2, F3, BB⟩
def DivOf (w : World) (v : Value) (A B : Nat) : Prop := ∃ a1 n1 c1 a2 n2 c2 a3 n3 c3, v = .agg #[.slice a1 n1 c1, .slice a2 n2 c2, .slice a3 n3 c3] ∧ WBig w (.slice a1 n1 c1) (A / B) ∧ WBig w (.slice a2 n2 c2) (A % B) ∧ ∃ k : List Nat, WSl w (.slice a3 n3 c3) k ∧ Words32 k ∧ k.length ≤ 10000 ∧ wval k = B
theorem divOf {w : World} {v1 v2 v3 : Value} {A B : Nat} {k : List Nat} (h1 : WBig w v1 (A / B)) (h2 : WBig w v2 (A % B)) (h3 : WSl w v3 k) (sk : Words32 k) (lk : k.length ≤ 10000) (hk : wval k = B) : DivOf w (.agg #[v1, v2, v3]) A B := by
 have m1 := h1
 have m2 := h2
 have m3 := h3
 obtain ⟨a1, c1, rfl, _⟩ := h1
 obtain ⟨a2, c2, rfl, _⟩ := h2
 obtain ⟨a3, c3, rfl, _⟩ := h3
 exact ⟨_, _, _, _, _, _, _, _, _, rfl, m1, m2, k, m3, sk, lk, hk⟩
theorem DivOf.below {w w' : World} {v : Value} {A B : Nat} (h : DivOf w v A B) (hb : Below w.heap.size w w') : DivOf w' v A B := by
 obtain ⟨a1, n1, c1, a2, n2, c2, a3, n3, c3, e, h1, h2, k, h3, h4⟩ := h
 exact ⟨a1, n1, c1, a2, n2, c2, a3, n3, c3, e, h1.below hb, h2.below hb, k, h3.below hb, h4⟩
theorem divide_any (w : World) (v u : Value) (l k : List Nat) (x : Int) (hv : WSl w v l) (hu : WSl w u k) (sl : Words32 l) (sk : Words32 k) (ll : l.length ≤ 2000) (lk : k.length ≤ 2000) (hx1 : -4000 ≤ x) (hx2 : x ≤ 4000) (h0 : wval k ≠ 0) :
  Calls Tryz.prog 216 #[v, u, .int .i64 x] w fun e w' => ∃ d, e = .returned d ∧ DivOf w' d (wval l * 2 ^ (-x).toNat) (wval k * 2 ^ x.toNat) ∧ Below w.heap.size w w' := by
 by_cases c : 0 ≤ x
 ·obtain ⟨N, rfl⟩ : ∃ N : Nat, x = N := ⟨x.toNat, by omega⟩
  rw [show (-(N : Int)).toNat = 0 by omega, show ((N : Int)).toNat = N by omega, Nat.pow_zero, Nat.mul_one]
  refine (divide_up w v u l k N _ hv hu sl sk ll lk (by omega) h0 rfl).mono ?_
  rintro e w' ⟨v1, v2, v3, rfl, h1, h2, h3, b⟩
  refine ⟨_, rfl, divOf h1 h2 h3 (words_wdig _) ?_ (wval_wdig _), b⟩
  have := wdig_shift_len (m := wval k) (N := N)
  have := wdig_len_words sk
  omega
 ·obtain ⟨N, rfl⟩ : ∃ N : Nat, x = -(N : Int) := ⟨(-x).toNat, by omega⟩
  rw [show (-(-(N : Int))).toNat = N by omega, show (-(N : Int)).toNat = 0 by omega, Nat.pow_zero, Nat.mul_one]
  refine (divide_down w v u l k N _ hv hu sl sk ll lk (by omega) (by omega) h0 rfl).mono ?_
  rintro e w' ⟨v1, v2, v3, rfl, h1, h2, h3, b⟩
  exact ⟨_, rfl, divOf h1 h2 h3 sk (by omega) rfl, b⟩
end Go.Proofs.YtnbfnjhbmeocfabGreatDoor.bigs
namespace Go.Proofs.YtnbfnjhbmeocfabGreatDoor.bigs
open Go.RowKit
theorem divOf_set {w : World} {d : Value} {A B b : Nat} {a1 a2 a3 : Option Addr} {n1 c1 n2 c2 n3 c3 : Nat} (hd : DivOf w d A B) (bk : Blk w b #[.slice a1 n1 c1, .slice a2 n2 c2, .slice a3 n3 c3] 235) :
  ∀ a4 n4 c4 a5 n5 c5 a6 n6 c6, d = .agg #[.slice a4 n4 c4, .slice a5 n5 c5, .slice a6 n6 c6] → DivOf (((w.setCell ⟨b, 0, none⟩ (.slice a4 n4 c4)).setCell ⟨b, 1, none⟩ (.slice a5 n5 c5)).setCell ⟨b, 2, none⟩ (.slice a6 n6 c6)) d A B := by
 intro a4 n4 c4 a5 n5 c5 a6 n6 c6 e
 obtain ⟨x1, m1, y1, x2, m2, y2, x3, m3, y3, e2, h1, h2, k, h3, h4⟩ := hd
 have no : NoWord #[.slice a1 n1 c1, .slice a2 n2 c2, .slice a3 n3 c3] := noWord_slice3 _ _ _ (fun _ h => by cases h) (fun _ h => by cases h) (fun _ h => by cases h)
 refine ⟨x1, m1, y1, x2, m2, y2, x3, m3, y3, e2, ?_, ?_, k, ?_, h4⟩
 ·exact WSl.set3 h1 bk no _ _ _ (fun _ h => by cases h) (fun _ h => by cases h)
 ·exact WSl.set3 h2 bk no _ _ _ (fun _ h => by cases h) (fun _ h => by cases h)
 ·exact WSl.set3 h3 bk no _ _ _ (fun _ h => by cases h) (fun _ h => by cases h)
theorem pow10_words {n : Nat} (h : n ≤ 1000) : (wdig (10 ^ n)).length ≤ 1001 := by have := wdig_pow_len (b := 10) (e := n) (by decide); omega
end Go.Proofs.YtnbfnjhbmeocfabGreatDoor.bigs
namespace Go.Proofs.YtnbfnjhbmeocfabGreatDoor.bigs
open Go.RowKit
theorem and_2047 (x : Nat) (hx : x < 18446744073709551616) : Go.bits .and .u64 (x : Int) 2047 = ((x % 2048 : Nat) : Int) := by
 have h := bits_mask .u64 64 (by decide) wraps64 11 (by decide) (x : Int) (by omega) (by omega)
 have e : ((2 : Int) ^ 11 - 1) = 2047 := by decide
 rw [e] at h
 rw [h]
 omega
theorem and_frac (x : Nat) (hx : x < 18446744073709551616) : Go.bits .and .u64 (x : Int) 4503599627370495 = ((x % 4503599627370496 : Nat) : Int) := by
 have h := bits_mask .u64 64 (by decide) wraps64 52 (by decide) (x : Int) (by omega) (by omega)
 have e : ((2 : Int) ^ 52 - 1) = 4503599627370495 := by decide
 rw [e] at h
 rw [h]
 omega
theorem or_hidden (x : Nat) (hx : x < 4503599627370496) : Go.bits .or .u64 4503599627370496 (x : Int) = ((x + 4503599627370496 : Nat) : Int) := by
 have h := bits_join .u64 64 (by decide) wraps64 52 4503599627370496 (x : Int) (by omega) (by omega) (by omega) (by omega) (by omega) (by omega)
 rw [h]
 omega
theorem ret_mid (x y : Value) (a b : Int) (h : a = b) : Ending.returned (.tuple #[x, .int .i64 a, y]) = Ending.returned (.tuple #[x, .int .i64 b, y]) := by rw [h]
theorem partsW_any (w : World) (b : Nat) (hb : b < 18446744073709551616) :
  Calls Tryz.prog 99 #[.int .u64 b] w fun e w' => e = .returned (.tuple #[.int .u64 (fparts b).1, .int .i64 (fparts b).2.1, .int .i64 (fparts b).2.2]) ∧ w' = w := by
 obtain ⟨s, hs⟩ : ∃ s, s = b / 4503599627370496 := ⟨_, rfl⟩
 have n0 : (b : Int) / 4503599627370496 = (s : Int) := by omega
 have hs2 : s < 18446744073709551616 := by omega
 have n1 := and_frac b hb
 have n2 := and_2047 s hs2
 have h1 : b % 4503599627370496 < 4503599627370496 := by omega
 have h2 : s % 2048 < 2048 := by omega
 have n3 := or_hidden _ h1
 unfold fparts
 rw [← hs]
 clear hs hs2
 generalize b % 4503599627370496 = f at *
 generalize s % 2048 = e at *
 by_cases c1 : e = 2047
 ·rw [if_pos c1]
  subst c1
  by_cases c2 : f = 0
  ·rw [if_pos c2]
   subst c2
   go_enter Tryz.func99, Tryz.ntmps99
   go_wp2
   go_ret3
   exact ⟨rfl, rfl⟩
  ·rw [if_neg c2]
   have c3 : ((f : Int) == 0) = false := beq_false_of_ne (by omega)
   go_enter Tryz.func99, Tryz.ntmps99
   go_wp2
   go_ret3
   exact ⟨rfl, rfl⟩
 ·rw [if_neg c1]
  have c4 : ((e : Int) == 2047) = false := beq_false_of_ne (by omega)
  by_cases c2 : e = 0
  ·rw [if_pos c2]
   subst c2
   go_enter Tryz.func99, Tryz.ntmps99
   go_wp2
   go_ret3
   exact ⟨rfl, rfl⟩
  ·rw [if_neg c2]
   have c3 : ((e : Int) == 0) = false := beq_false_of_ne (by omega)
   go_enter Tryz.func99, Tryz.ntmps99
   go_wp2
   go_ret3
   refine ⟨?_, rfl⟩
   exact ret_mid _ _ _ _ (by omega)
end Go.Proofs.YtnbfnjhbmeocfabGreatDoor.bigs
namespace Go.Proofs.YtnbfnjhbmeocfabGreatDoor.bigs
open Go.RowKit
def NearD (m : Nat) (x : Int) (r : Nat) : Prop := (m = 0 ∧ r = 0) ∨ (m ≠ 0 ∧ Near (m * 10 ^ x.toNat) (10 ^ (-x).toNat) r)
theorem near_unscale {a b c r : Nat} (hb : 0 < b) (hc : 0 < c) (h : Near (a * c) (b * c) r) : Near a b r := by
 obtain ⟨s, hs⟩ := near_exists a b hb
 have e := near_unique h (near_scale hc hs)
 rw [e]
 exact hs
theorem near_ratio {a b c d r : Nat} (hb : 0 < b) (hd : 0 < d) (e : a * d = c * b) (h : Near a b r) : Near c d r := by
 have h1 := near_scale hd h
 rw [e, Nat.mul_comm b d] at h1
 exact near_unscale hd hb h1
theorem p10 (n : Nat) : 0 < (10 : Nat) ^ n := Nat.pow_pos (by decide)
theorem nearD_unique {m r s : Nat} {x : Int} (h : NearD m x r) (k : NearD m x s) : r = s := by
 rcases h with ⟨a, b⟩ | ⟨a, b⟩ <;> rcases k with ⟨c, d⟩ | ⟨c, d⟩
 ·rw [b, d]
 ·exact absurd a c
 ·exact absurd c a
 ·exact near_unique b d
theorem nearD_scale {m r k : Nat} {x : Int} (h : NearD m x r) : NearD (m * 10 ^ k) (x - k) r := by
 rcases h with ⟨a, b⟩ | ⟨a, b⟩
 ·exact .inl ⟨by rw [a, Nat.zero_mul], b⟩
 ·refine .inr ⟨Nat.mul_ne_zero a (Nat.ne_of_gt (p10 k)), near_ratio (p10 _) (p10 _) ?_ b⟩
  rw [Nat.mul_assoc, ← Nat.pow_add, Nat.mul_assoc, ← Nat.pow_add, Nat.mul_assoc, ← Nat.pow_add]
  congr 2
  omega
end Go.Proofs.YtnbfnjhbmeocfabGreatDoor.bigs
namespace Go.Proofs.YtnbfnjhbmeocfabGreatDoor.bigs
open Go.RowKit
def NonD (l : List UInt8) : Prop := ∀ b r, l = b :: r → ¬ (48 ≤ b.toNat ∧ b.toNat ≤ 57)
def AllD (l : List UInt8) : Prop := l ≠ [] ∧ Dig10 l
theorem nonD_nil : NonD [] := fun _ _ h => by cases h
theorem nonD_cons {b : UInt8} {r : List UInt8} (h : ¬ (48 ≤ b.toNat ∧ b.toNat ≤ 57)) : NonD (b :: r) := fun b' r' e => by
 injection e with e1 e2
 rw [← e1]; exact h
theorem dig10_cons {b : UInt8} {l : List UInt8} : Dig10 (b :: l) ↔ (48 ≤ b.toNat ∧ b.toNat ≤ 57) ∧ Dig10 l := by
 unfold Dig10
 constructor
 ·intro h; exact ⟨h b (by simp), fun x hx => h x (by simp [hx])⟩
 ·rintro ⟨h1, h2⟩ x hx
  rcases List.mem_cons.1 hx with rfl | h
  ·exact h1
  ·exact h2 x h
theorem split_digits : ∀ {W R W' R' : List UInt8}, W ++ R = W' ++ R' → Dig10 W → Dig10 W' → NonD R → NonD R' → W = W' ∧ R = R' := by
 intro W
 induction W with
 | nil =>
  intro R W' R' h _ d' n _
  cases W' with
  | nil => exact ⟨rfl, h⟩
  | cons b r => exact absurd (dig10_cons.1 d').1 (n b (r ++ R') h)
 | cons a W ih =>
  intro R W' R' h d d' n n'
  cases W' with
  | nil => exact absurd (dig10_cons.1 d).1 (n' a (W ++ R) h.symm)
  | cons b r =>
   injection h with h1 h2
   subst h1
   obtain ⟨e1, e2⟩ := ih h2 (dig10_cons.1 d).2 (dig10_cons.1 d').2 n n'
   exact ⟨by rw [e1], e2⟩
def Exp (Z : List UInt8) (x : Int) : Prop := (∃ X, Z = 45 :: X ∧ AllD X ∧ x = -((dec X : Nat) : Int)) ∨ (∃ X, Z = 43 :: X ∧ AllD X ∧ x = ((dec X : Nat) : Int)) ∨ (AllD Z ∧ x = ((dec Z : Nat) : Int))
def Rest (R P : List UInt8) (x : Int) : Prop := (R = 46 :: P ∧ AllD P ∧ x = 0) ∨ (∃ Z, R = 46 :: (P ++ 101 :: Z) ∧ AllD P ∧ Exp Z x) ∨ (∃ Z, R = 101 :: Z ∧ P = [] ∧ Exp Z x)
def Num (t W P : List UInt8) (x : Int) : Prop := ∃ R, t = W ++ R ∧ AllD W ∧ (W.length = 1 ∨ W.getD 0 0 ≠ 48) ∧ Rest R P x
theorem rest_nonD {R P : List UInt8} {x : Int} (h : Rest R P x) : NonD R := by
 rcases h with ⟨rfl, _⟩ | ⟨Z, rfl, _⟩ | ⟨Z, rfl, _⟩ <;> exact nonD_cons (by decide)
theorem num_split {t W R W' P : List UInt8} {x : Int} (e : t = W ++ R) (d : Dig10 W) (n : NonD R) (h : Num t W' P x) : W' = W ∧ Rest R P x := by
 obtain ⟨R', e', a, _, r⟩ := h
 obtain ⟨h1, h2⟩ := split_digits (e.symm.trans e') d a.2 n (rest_nonD r)
 subst h1 h2
 exact ⟨rfl, r⟩
theorem exp_digits {Z : List UInt8} {x : Int} (h : Exp Z x) (c : ∀ X, Z ≠ 45 :: X ∧ Z ≠ 43 :: X) : AllD Z ∧ x = ((dec Z : Nat) : Int) := by
 rcases h with ⟨X, e, _⟩ | ⟨X, e, _⟩ | h
 ·exact absurd e (c X).1
 ·exact absurd e (c X).2
 ·exact h
theorem exp_minus {X : List UInt8} {x : Int} (h : Exp (45 :: X) x) : AllD X ∧ x = -((dec X : Nat) : Int) := by
 rcases h with ⟨Y, e, h⟩ | ⟨Y, e, _⟩ | ⟨h, _⟩
 ·injection e with _ e2; subst e2; exact h
 ·injection e with e1 _; exact absurd e1 (by decide)
 ·exact absurd (dig10_cons.1 h.2).1 (by decide)
theorem exp_plus {X : List UInt8} {x : Int} (h : Exp (43 :: X) x) : AllD X ∧ x = ((dec X : Nat) : Int) := by
 rcases h with ⟨Y, e, _⟩ | ⟨Y, e, h⟩ | ⟨h, _⟩
 ·injection e with e1 _; exact absurd e1 (by decide)
 ·injection e with _ e2; subst e2; exact h
 ·exact absurd (dig10_cons.1 h.2).1 (by decide)
theorem exp_unique {Z : List UInt8} {x y : Int} (h : Exp Z x) (k : Exp Z y) : x = y := by
 by_cases c1 : ∃ X, Z = 45 :: X
 ·obtain ⟨X, rfl⟩ := c1
  rw [(exp_minus h).2, (exp_minus k).2]
 ·by_cases c2 : ∃ X, Z = 43 :: X
  ·obtain ⟨X, rfl⟩ := c2
   rw [(exp_plus h).2, (exp_plus k).2]
  ·have c : ∀ X, Z ≠ 45 :: X ∧ Z ≠ 43 :: X := fun X => ⟨fun e => c1 ⟨X, e⟩, fun e => c2 ⟨X, e⟩⟩
   rw [(exp_digits h c).2, (exp_digits k c).2]
theorem rest_point {P R P' : List UInt8} {x : Int} (d : Dig10 P) (n : NonD R) (h : Rest (46 :: (P ++ R)) P' x) : P' = P ∧ P ≠ [] ∧ ((R = [] ∧ x = 0) ∨ (∃ Z, R = 101 :: Z ∧ Exp Z x)) := by
 rcases h with ⟨e, a, rfl⟩ | ⟨Z, e, a, ex⟩ | ⟨Z, e, _⟩
 ·injection e with _ e2
  have e3 : P ++ R = P' ++ [] := by rw [e2, List.append_nil]
  obtain ⟨h1, h2⟩ := split_digits e3 d a.2 n nonD_nil
  subst h1
  exact ⟨rfl, a.1, .inl ⟨h2, rfl⟩⟩
 ·injection e with _ e2
  obtain ⟨h1, h2⟩ := split_digits e2 d a.2 n (nonD_cons (by decide))
  subst h1
  exact ⟨rfl, a.1, .inr ⟨Z, h2, ex⟩⟩
 ·injection e with e1 _; exact absurd e1 (by decide)
theorem rest_exp {Z P : List UInt8} {x : Int} (h : Rest (101 :: Z) P x) : P = [] ∧ Exp Z x := by
 rcases h with ⟨e, _⟩ | ⟨Z', e, _⟩ | ⟨Z', e, p, ex⟩
 ·injection e with e1 _; exact absurd e1 (by decide)
 ·injection e with e1 _; exact absurd e1 (by decide)
 ·injection e with _ e2; subst e2; exact ⟨p, ex⟩
theorem rest_other {b : UInt8} {r P : List UInt8} {x : Int} (h1 : b ≠ 46) (h2 : b ≠ 101) (h : Rest (b :: r) P x) : False := by
 rcases h with ⟨e, _⟩ | ⟨Z', e, _⟩ | ⟨Z', e, _⟩
 ·injection e with e1 _; exact h1 e1
 ·injection e with e1 _; exact h1 e1
 ·injection e with e1 _; exact h2 e1
theorem rest_nil {P : List UInt8} {x : Int} (h : Rest [] P x) : False := by
 rcases h with ⟨e, _⟩ | ⟨Z', e, _⟩ | ⟨Z', e, _⟩ <;> cases e
theorem dig_split : ∀ (R : List UInt8), ∃ P S, R = P ++ S ∧ Dig10 P ∧ NonD S := by
 intro R
 induction R with
 | nil => exact ⟨[], [], rfl, fun b hb => (by cases hb), nonD_nil⟩
 | cons b r ih =>
  by_cases c : 48 ≤ b.toNat ∧ b.toNat ≤ 57
  ·obtain ⟨P, S, e, d, n⟩ := ih
   exact ⟨b :: P, S, by rw [e]; rfl, dig10_cons.2 ⟨c, d⟩, n⟩
  ·exact ⟨[], b :: r, rfl, fun b hb => (by cases hb), nonD_cons c⟩
theorem rest_unique {R P P' : List UInt8} {x y : Int} (h : Rest R P x) (k : Rest R P' y) : P = P' ∧ x = y := by
 cases R with
 | nil => exact absurd h rest_nil
 | cons b r =>
  by_cases c1 : b = 46
  ·subst c1
   obtain ⟨Q, S, rfl, d, n⟩ := dig_split r
   obtain ⟨a1, _, a2⟩ := rest_point d n h
   obtain ⟨b1, _, b2⟩ := rest_point d n k
   refine ⟨by rw [a1, b1], ?_⟩
   rcases a2 with ⟨s, e⟩ | ⟨Z, s, e⟩ <;> rcases b2 with ⟨s', e'⟩ | ⟨Z', s', e'⟩
   ·rw [e, e']
   ·rw [s] at s'; cases s'
   ·rw [s'] at s; cases s
   ·rw [s] at s'
    injection s' with _ s2
    subst s2
    exact exp_unique e e'
  ·by_cases c2 : b = 101
   ·subst c2
    obtain ⟨a1, a2⟩ := rest_exp h
    obtain ⟨b1, b2⟩ := rest_exp k
    exact ⟨by rw [a1, b1], exp_unique a2 b2⟩
   ·exact absurd h (rest_other c1 c2)
theorem num_unique {t W P W' P' : List UInt8} {x y : Int} (h : Num t W P x) (k : Num t W' P' y) : W = W' ∧ P = P' ∧ x = y := by
 obtain ⟨R, e, a, _, r⟩ := h
 obtain ⟨h1, h2⟩ := num_split e a.2 (rest_nonD r) k
 obtain ⟨h3, h4⟩ := rest_unique r h2
 exact ⟨h1.symm, h3, h4⟩
def Res (t : List UInt8) (sg v : Nat) (e : Int) : Prop :=
 (∃ W P x r, Num t W P x ∧ NearD (dec (W ++ P)) (x - (P.length : Int)) r ∧ ((r = 9218868437227405312 ∧ v = 0 ∧ e = 7) ∨ (r ≠ 9218868437227405312 ∧ v = sg + r ∧ e = 0))) ∨ ((¬ ∃ W P x, Num t W P x) ∧ v = 0 ∧ e = 4)
theorem res_unique {t : List UInt8} {sg v v' : Nat} {e e' : Int} (h : Res t sg v e) (k : Res t sg v' e') : v = v' ∧ e = e' := by
 rcases h with ⟨W, P, x, r, n, d, c⟩ | ⟨n, a, b⟩ <;> rcases k with ⟨W', P', x', r', n', d', c'⟩ | ⟨n', a', b'⟩
 ·obtain ⟨h1, h2, h3⟩ := num_unique n n'
  subst h1 h2 h3
  have hr := nearD_unique d d'
  subst hr
  rcases c with ⟨c1, c2, c3⟩ | ⟨c1, c2, c3⟩ <;> rcases c' with ⟨d1, d2, d3⟩ | ⟨d1, d2, d3⟩
  ·exact ⟨by rw [c2, d2], by rw [c3, d3]⟩
  ·exact absurd c1 d1
  ·exact absurd d1 c1
  ·exact ⟨by rw [c2, d2], by rw [c3, d3]⟩
 ·exact absurd ⟨W, P, x, n⟩ n'
 ·exact absurd ⟨W', P', x', n'⟩ n
 ·exact ⟨by rw [a, a'], by rw [b, b']⟩
end Go.Proofs.YtnbfnjhbmeocfabGreatDoor.bigs
