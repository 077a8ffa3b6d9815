/- Of our texts, what this claim reaches. -/
import Derived.Test.YtnbfnjhbmeocfaaGreatDoorPgoAY
import Derived.Test.YtnbfnjhbmeocfaaGreatDoorPgoAV
set_option linter.unusedVariables false
namespace Go.Proofs.YtnbfnjhbmeocfaaGreatDoor.bigs
open Go.RowKit

set_option maxHeartbeats 4000000 in
theorem shiftUp_any (w : World) (v : Value) (l : List Nat) (n : Nat) (hv : WSl w v l) (sl : Words32 l) (ll : l.length ≤ 300000) (hn : n ≤ 4000) :
    Calls Tryz.prog 235 #[v, .int .i64 n] w fun e w' => ∃ v', e = .returned (.tuple #[v', .int .i64 0]) ∧ WBig w' v' (wval l * 2 ^ n) ∧ Below w.heap.size w w' := by
  have K1 := hide (wcut_big w v l (by omega) hv sl)
  have hl1 : (wdig (wval l)).length ≤ 300000 := Nat.le_trans (wdig_len_words sl) ll
  have hn1 : ¬ (4000 < (n : Int)) := by omega
  have hn2 : (0 : Int) ≤ (n : Int) := by omega
  generalize hT : wval l * 2 ^ n = T at *
  have HT := hide hT
  clear hT
  go_enter Tryz.func235, Tryz.ntmps235
  go_wp2_with fail
  refine (unhide K1).mono ?_
  rintro e w1 ⟨v1, rfl, hv1, _, rfl⟩
  have k2 := shiftLeft_any w1 v1 (wdig (wval l)) n hv1 (words_wdig _) (by omega) (by omega)
  rw [wval_wdig, unhide HT] at k2
  have K2 := hide k2
  clear k2 K1 hv1 hv
  go_wp2_with fail
  refine (unhide K2).mono ?_
  rintro e w2 ⟨L, rfl, hL, sL, hvL, own2, b2⟩
  have K3 := hide (wcut_big w2 _ L (by omega) ⟨_, _, rfl, Nat.le_refl _, own2.row⟩ sL)
  rw [hvL] at K3
  clear K2 hL hvL sL own2
  go_wp2_with fail
  refine (unhide K3).mono ?_
  rintro e w3 ⟨v3, rfl, hv3, _, rfl⟩
  have H3 := hide hv3
  clear hv3 K3
  go_wp2
  go_ret2
  exact ⟨_, rfl, unhide H3, b2⟩
theorem RowU.drop {w : World} {b o : Nat} {l : List Nat} (h : RowU w (some ⟨b, o, none⟩) l) (k : Nat) (hk : k < l.length) : RowU w (some ⟨b, o + k, none⟩) (l.drop k) := by
  intro h0
  obtain ⟨b', o', e, hlt, hc⟩ := h (by intro e; rw [e] at hk; simp at hk)
  cases e
  refine ⟨b, o + k, rfl, hlt, fun j hj => ?_⟩
  rw [List.length_drop] at hj
  have h1 := hc (k + j) (by omega)
  rw [Nat.add_assoc, h1]
  simp [List.getD]

theorem mul_big (w : World) (v u : Value) (x y : Nat) (hv : WBig w v x) (hu : WBig w u y) (lx : (wdig x).length ≤ 400000) (ly : (wdig y).length ≤ 400000) :
    Calls Tryz.prog 166 #[v, u] w fun e w' => ∃ v', e = .returned v' ∧ WBig w' v' (x * y) ∧ Below w.heap.size w w' := by
  have h := mul_any w v u (wdig x) (wdig y) hv hu (words_wdig x) (words_wdig y) lx ly
  rwa [wval_wdig, wval_wdig] at h
theorem mul_word (w : World) (v u : Value) (x y : Nat) (hv : WBig w v x) (hu : WSl w u [y]) (hy : y < 4294967296) (lx : (wdig x).length ≤ 400000) :
    Calls Tryz.prog 166 #[v, u] w fun e w' => ∃ v', e = .returned v' ∧ WBig w' v' (x * y) ∧ Below w.heap.size w w' := by
  have h := mul_any w v u (wdig x) [y] hv hu (words_wdig x) (words_one hy) lx (by simp)
  rwa [wval_wdig, wval_one] at h
theorem pow_words {b k : Nat} (hb : b < 4294967296) : (wdig (b ^ k)).length ≤ k + 1 := by
  apply wdig_len_lt
  have h1 : b ^ k ≤ 4294967296 ^ k := Nat.pow_le_pow_left (by omega) _
  have h2 : 4294967296 ^ k < 4294967296 ^ (k + 1) := Nat.pow_lt_pow_right (by omega) (by omega)
  omega
theorem half_next (n i : Nat) : n / 2 ^ i = 2 * (n / 2 ^ (i + 1)) + n / 2 ^ i % 2 := by
  have e : n / 2 ^ (i + 1) = n / 2 ^ i / 2 := by rw [Nat.div_div_eq_div_mul, Nat.pow_succ]
  rw [e]
  omega
theorem and_one (x : Nat) (hx : x ≤ 1000) : Go.bits .and .i64 (x : Int) 1 = ((x % 2 : Nat) : Int) := by
  have h := bits_mask .i64 62 (by decide) (fun n h1 h2 => by simp [IntKind.wrap, IntKind.bits, IntKind.signed]; omega) 1 (by decide) (x : Int) (by omega) (by omega)
  have e : ((2 : Int) ^ 1 - 1) = 1 := by decide
  rw [e] at h
  rw [h]
  omega
theorem one_big (w : World) : WBig (w.alloc (.cells #[.int .u32 1] 222)) (.slice (some ⟨w.heap.size, 0, none⟩) 1 1) 1 := by
  have e : wdig 1 = [1] := by rw [wdig_pos (by omega)]; simp [wdig_zero]
  refine ⟨_, 1, by rw [e]; rfl, by rw [e]; simp, ?_⟩
  rw [e]
  exact lit_row w 1

set_option maxHeartbeats 4000000 in
set_option maxRecDepth 100000 in
theorem pow_any (w : World) (b n : Nat) (hb : b < 4294967296) (hn : n ≤ 1000) :
    Calls Tryz.prog 207 #[.int .u32 b, .int .i64 n] w fun e w' => ∃ v', e = .returned (.tuple #[v', .int .i64 0]) ∧ WBig w' v' (b ^ n) ∧ Below w.heap.size w w' := by
  have hn1 : ¬ ((n : Int) < 0) := by omega
  have hn2 : ¬ (1000 < (n : Int)) := by omega
  have KL : ∀ wz : World, Hid _ := fun wz => hide (lenU_small n wz (by omega))
  have hbits : bits n ≤ 10 := bits_le (k := 10) (by omega)
  have H0 : Hid (n / 2 ^ bits n = 0) := Nat.div_eq_of_lt (bits_lt n)
  generalize bits n = B at *
  have hb1 : Below w.heap.size w (w.alloc (.cells #[.int .u32 (b : Int)] 222)) := (Below.refl _ w).alloc (Nat.le_refl _) _
  have hb2 : Below w.heap.size w ((w.alloc (.cells #[.int .u32 (b : Int)] 222)).alloc (.cells #[.int .u32 1] 222)) := hb1.alloc hb1.size _
  have hbase : WSl ((w.alloc (.cells #[.int .u32 (b : Int)] 222)).alloc (.cells #[.int .u32 1] 222)) (.slice (some ⟨w.heap.size, 0, none⟩) 1 1) [b] := ⟨_, 1, rfl, by simp, (lit_row w b).below ((Below.refl _ _).alloc (Nat.le_refl _) _)⟩
  have hone := one_big (w.alloc (.cells #[.int .u32 (b : Int)] 222))
  have hsz : (w.alloc (.cells #[.int .u32 (b : Int)] 222)).heap.size = w.heap.size + 1 := by simp
  rw [hsz] at hone
  have HBASE := hide hbase
  have HONE := hide hone
  have HB2 := hide hb2
  have KZ := KL ((w.alloc (.cells #[.int .u32 (b : Int)] 222)).alloc (.cells #[.int .u32 1] 222))
  clear hbase hone hb2 hb1 hsz KL
  go_enter Tryz.func207, Tryz.ntmps207
  go_wp2_with fail
  refine (unhide KZ).mono ?_
  rintro e w1 ⟨rfl, hw1⟩
  subst hw1
  clear KZ
  go_wp2_with fail
  go_loopw [7, 8] (fun pv bit wr => ∃ j : Nat, bit = .int .i64 ((j : Int) - 1) ∧ j ≤ B ∧ Hid (WBig wr pv (b ^ (n / 2 ^ j))) ∧ Hid (WSl wr (.slice (some ⟨w.heap.size, 0, none⟩) 1 1) [b]) ∧ Below w.heap.size w wr) (fun _ bit _ => (intOf bit + 1).toNat)
  case atStart => exact ⟨B, rfl, Nat.le_refl _, by show WBig _ _ _; rw [H0.out]; exact unhide HONE, HBASE, unhide HB2⟩
  case round =>
    clear HONE HBASE HB2
    obtain ⟨j, rfl, hjB, hP, hBa, hbw⟩ := hrel
    cases j with
    | zero =>
      have HF : Hid (WBig wr u7 (b ^ n)) := by have h := hP.out; rwa [Nat.pow_zero, Nat.div_one] at h
      clear hP hBa
      go_wp2
      go_ret2
      exact ⟨_, rfl, unhide HF, hbw⟩
    | succ i =>
      have e0 : ((i + 1 : Nat) : Int) - 1 = (i : Int) := by omega
      rw [e0]
      have hm1 : n / 2 ^ (i + 1) ≤ n := Nat.div_le_self _ _
      have hl1 := pow_words (k := n / 2 ^ (i + 1)) hb
      have KM := hide (mul_big wr u7 u7 _ _ hP.out hP.out (by omega) (by omega))
      have hx := half_next n i
      have hx1 : n / 2 ^ i ≤ n := Nat.div_le_self _ _
      have hsh : (n : Int) / 2 ^ i = ((n / 2 ^ i : Nat) : Int) := by simp
      have hand := and_one (n / 2 ^ i) (by omega)
      have hpar : n / 2 ^ i % 2 = 0 ∨ n / 2 ^ i % 2 = 1 := by omega
      have hlp := pow_words (k := 2 * (n / 2 ^ (i + 1))) hb
      generalize n / 2 ^ (i + 1) = m at *
      rw [← Nat.pow_add, ← Nat.two_mul] at KM
      generalize hq : n / 2 ^ i = x at *
      have HQ := hide hq
      clear hq
      rcases hpar with h2 | h2
      · have HX : Hid (b ^ (2 * m) = b ^ (n / 2 ^ i)) := by show _ = _; rw [unhide HQ]; congr 1; omega
        rw [h2] at hand
        clear hP h2 hx
        go_wp2_with fail
        refine (unhide KM).mono ?_
        rintro e w2 ⟨v2, rfl, hv2, b2⟩
        have HV : Hid (WBig w2 v2 (b ^ (n / 2 ^ i))) := by show WBig _ _ _; rw [← HX.out]; exact hv2
        have HBa2 := hide ((unhide hBa).below b2)
        have hbw2 := hbw.trans (b2.mono hbw.size)
        clear hv2 KM b2
        go_wp2
        go_roundw
        case rel => exact ⟨i, by go_num, by omega, HV, HBa2, hbw2⟩
        case measure => simp only [intOf]; omega
      · have HX : Hid (b ^ (2 * m) * b = b ^ (n / 2 ^ i)) := by show _ = _; rw [unhide HQ, ← Nat.pow_succ]; congr 1; omega
        rw [h2] at hand
        clear hP h2
        go_wp2_with fail
        refine (unhide KM).mono ?_
        rintro e w2 ⟨v2, rfl, hv2, b2⟩
        have HBa2 := (unhide hBa).below b2
        have hbw2 := hbw.trans (b2.mono hbw.size)
        have k3 := mul_word w2 v2 _ _ b hv2 HBa2 hb (by omega)
        rw [HX.out] at k3
        have K3 := hide k3
        clear hv2 KM b2 k3 hx
        go_wp2_with fail
        refine (unhide K3).mono ?_
        rintro e w3 ⟨v3, rfl, hv3, b3⟩
        have HV := hide hv3
        have HBa3 := hide (HBa2.below b3)
        have hbw3 := hbw2.trans (b3.mono hbw2.size)
        clear hv3 K3 b3 HBa2
        go_wp2
        go_roundw
        case rel => exact ⟨i, by go_num, by omega, HV, HBa3, hbw3⟩
        case measure => simp only [intOf]; omega
end Go.Proofs.YtnbfnjhbmeocfaaGreatDoor.bigs
set_option linter.unusedVariables false
namespace Go.Proofs.YtnbfnjhbmeocfaaGreatDoor.bigs
open Go.RowKit

theorem ten_round {D M : List Nat} {k q d : Nat} (hD : D.length = k) (h : wval D + 4294967296 ^ k * q = 10 * wval (M.take k) + d) :
    wval (D ++ [(q + M.getD k 0 * 10) % 4294967296]) + 4294967296 ^ (k + 1) * ((q + M.getD k 0 * 10) / 4294967296) = 10 * wval (M.take (k + 1)) + d := by
  rw [wval_append, wval_one, hD, wval_take_next]
  generalize M.getD k 0 = x
  have e : 4294967296 ^ (k + 1) * ((q + x * 10) / 4294967296) = 4294967296 ^ k * (4294967296 * ((q + x * 10) / 4294967296)) := by rw [Nat.pow_succ, Nat.mul_assoc]
  have e2 : 4294967296 ^ k * ((q + x * 10) % 4294967296) + 4294967296 ^ k * (4294967296 * ((q + x * 10) / 4294967296)) = 4294967296 ^ k * q + 10 * (4294967296 ^ k * x) := by
    rw [← Nat.mul_add, Nat.mod_add_div, Nat.mul_add, Nat.mul_comm x, Nat.mul_left_comm]
  omega
theorem ten_end {D M : List Nat} {d q : Nat} (hD : D.length = M.length) (sD : Words32 D) (h : wval D + 4294967296 ^ M.length * q = 10 * wval M + d) (hq : q < 4294967296) (hM : M = wdig (wval M)) :
    (q = 0 → D = wdig (10 * wval M + d)) ∧ (q ≠ 0 → D ++ [q] = wdig (10 * wval M + d)) := by
  constructor
  · intro h0
    rw [h0, Nat.mul_zero, Nat.add_zero] at h
    rw [← h]
    symm
    apply wdig_uniq sD
    by_cases e : M = []
    · left; rw [e] at hD; exact List.eq_nil_of_length_eq_zero hD
    · right
      intro hz
      have hm0 : wval M ≠ 0 := fun e0 => e (by rw [hM, e0, wdig_zero])
      have hl := wdig_pos_len hm0
      rw [← hM] at hl
      have h1 : 4294967296 ^ (M.length - 1) ≤ wval M := by
        have hlast := wdig_last hm0
        rw [← hM] at hlast
        have hs : Words32 M := by rw [hM]; exact words_wdig _
        have hd := wdrop_div M (M.length - 1) hs
        rw [wdrop_val, List.drop_of_length_le (by omega), show wval [] = 0 from rfl, Nat.mul_zero, Nat.add_zero] at hd
        by_cases hh : 4294967296 ^ (M.length - 1) ≤ wval M
        · exact hh
        · exfalso
          exact hlast (by rw [hd]; exact Nat.div_eq_of_lt (by omega))
      have h2 : wval D < 4294967296 ^ (M.length - 1) := by
        have ht := wval_take_next D (M.length - 1)
        rw [show M.length - 1 + 1 = D.length by omega, List.take_length, show M.length - 1 = D.length - 1 by omega, hz, Nat.mul_zero, Nat.add_zero] at ht
        have hlt := wval_lt (words_take sD (D.length - 1))
        rw [List.length_take, Nat.min_eq_left (by omega)] at hlt
        rw [ht, show M.length - 1 = D.length - 1 by omega]
        exact hlt
      omega
  · intro h0
    rw [← h]
    symm
    have e : wval (D ++ [q]) = wval D + 4294967296 ^ M.length * q := by rw [wval_append, wval_one, hD]
    rw [← e]
    apply wdig_uniq (words_append.2 ⟨sD, words_one hq⟩)
    right
    rw [List.length_append, List.length_singleton, Nat.add_sub_cancel]
    rw [List.getD, List.getElem?_append_right (Nat.le_refl _), Nat.sub_self]
    exact h0

theorem own_base {w : World} {g c B : Nat} {l : List Nat} (h : Own w g c l) (hB : B ≤ g) : w.ownsRow B 222 1 (.slice (some ⟨g, 0, none⟩) l.length c) l.length (l.map wrd) := by
  refine ⟨h.1, ?_⟩
  rcases h.2 with h' | ⟨g', cap, cur, e, _, r⟩
  · simp at h'
  · simp only [Value.slice.injEq, Option.some.injEq, Addr.mk.injEq, and_true, true_and] at e
    obtain ⟨rfl, rfl⟩ := e
    exact .inr ⟨g, c, cur, rfl, hB, r⟩

set_option maxHeartbeats 4000000 in
set_option maxRecDepth 100000 in
theorem timesTen_any (w : World) (B : Nat) (v : Value) (n d : Nat) (hB : B ≤ w.heap.size) (hl : (wdig n).length ≤ 900000) (hd : d ≤ 9) (own : w.ownsRow B 222 1 v (wdig n).length ((wdig n).map wrd)) :
    Calls Tryz.prog 158 #[v, .int .u8 d] w fun e w' => ∃ v', e = .returned v' ∧ w'.ownsRow B 222 1 v' (wdig (10 * n + d)).length ((wdig (10 * n + d)).map wrd) ∧ Below B w w' := by
  obtain ⟨i0, hi, hz0, hz1, hz2⟩ := info_parts infoU
  by_cases h0 : n = 0
  · subst h0
    rw [wdig_zero] at own
    rw [Nat.mul_zero, Nat.zero_add]
    obtain ⟨vb, vc, rfl⟩ := own_slice own
    have own' : w.ownsRow B 222 1 (.slice vb 0 vc) 0 [] := own
    clear own
    by_cases hd0 : d = 0
    · subst hd0
      rw [wdig_zero]
      go_enter Tryz.func158, Tryz.ntmps158
      go_wp2
      go_loopw [5, 12] (fun cc i wr => i = .int .i64 0 ∧ cc = .int .u64 0 ∧ wr = w) (fun _ _ _ => 0)
      case atStart => exact ⟨rfl, rfl, rfl⟩
      case round =>
        obtain ⟨rfl, rfl, rfl⟩ := hrel
        go_wp2
        go_ret
        exact ⟨_, rfl, own', Below.refl _ _⟩
    · have hdd : wdig d = [d] := by rw [wdig_pos hd0, Nat.mod_eq_of_lt (by omega), Nat.div_eq_of_lt (by omega), wdig_zero]
      rw [hdd]
      have hd1 : 0 < d := by omega
      clear hdd hd0
      go_enter Tryz.func158, Tryz.ntmps158
      go_wp2
      go_loopw [5, 12] (fun cc i wr => i = .int .i64 0 ∧ cc = .int .u64 d ∧ wr = w) (fun _ _ _ => 0)
      case atStart => exact ⟨rfl, rfl, rfl⟩
      case round =>
        obtain ⟨rfl, rfl, rfl⟩ := hrel
        go_wp2_with (at_builtin; refine wpList_append_own _ rfl _ _ 168 rfl B 222 i0 (.int .u32 0) 1 4 Tryz.underlying168 hi hz0 hz1 hz2 rfl (by decide) _ _ _ rfl (own'.alloc _) ⟨wr.heap.size, 0, none⟩ 1 1 [.int .u32 (d : Int)] rfl rfl ?c1 ?c2 ?c3 ?c4 ?c5 ?_)
        case c1 => exact cell_one_new _ _ _
        case c2 => intro u hu; simp at hu; subst hu; rfl
        case c3 => unfold maxLen; omega
        case c4 => omega
        case c5 => simp; omega
        intro v' w3 hown' hgrow _
        have hbw2 : Below B wr w3 := ((Below.refl B wr).alloc hB _).grown hgrow (by simp; omega) (own_ge own')
        clear hgrow own'
        go_wp2
        go_ret
        exact ⟨_, rfl, by simpa [wrd] using hown', hbw2⟩
  · have hne : wdig n ≠ [] := fun e => h0 (wdig_nil.1 e)
    obtain ⟨g, c, rfl, own1, hg⟩ := own_of own hne
    have sM := words_wdig n
    have HVM := hide (wval_wdig n)
    have HEND : Hid (∀ (D : List Nat) (q : Nat), D.length = (wdig n).length → Words32 D → wval D + 4294967296 ^ (wdig n).length * q = 10 * n + d → q < 4294967296 → (q = 0 → D = wdig (10 * n + d)) ∧ (q ≠ 0 → D ++ [q] = wdig (10 * n + d))) := fun D q h1 h2 h3 h4 => by
      have h := ten_end (M := wdig n) (d := d) h1 h2 (by rw [wval_wdig]; exact h3) h4 (by rw [wval_wdig])
      rwa [wval_wdig] at h
    generalize wdig (10 * n + d) = E at *
    generalize wdig n = M at *
    have hgB : B ≤ g := hg
    go_enter Tryz.func158, Tryz.ntmps158
    go_wp2
    go_loopw [5, 12] (fun cc i wr => ∃ (k q : Nat) (D : List Nat), i = .int .i64 k ∧ cc = .int .u64 q ∧ q ≤ 9 ∧ k ≤ M.length ∧ Hid (D.length = k) ∧ Hid (Words32 D) ∧ Hid (wval D + 4294967296 ^ k * q = 10 * wval (M.take k) + d) ∧
      Own wr g c (D ++ M.drop k) ∧ w.grownBy wr (some g)) (fun _ i _ => M.length - (intOf i).toNat)
    case atStart => exact ⟨0, d, [], rfl, rfl, hd, Nat.zero_le _, rfl, words_nil, by show _ = _; simp [wval], own1, grown_refl _ _⟩
    case round =>
      clear own1 own
      obtain ⟨k, q, D, rfl, rfl, hq, hkM, hD, sD, hval, hown, hgr⟩ := hrel
      by_cases hlt : k < M.length
      · have hlen : (D ++ M.drop k).length = M.length := front_len hD.out hkM
        have c1 : wr.cell? ⟨g, k, none⟩ = some (.int .u32 ((M.getD k 0 : Nat) : Int)) := by
          rw [hown.cell k (by omega), front_get hD.out hlt]
        have f1 := hown.froz k
        have x1 := words_getD sM k
        have hval2 : Hid (wval (D ++ [(q + M.getD k 0 * 10) % 4294967296]) + 4294967296 ^ (k + 1) * ((q + M.getD k 0 * 10) / 4294967296) = 10 * wval (M.take (k + 1)) + d) := ten_round hD.out hval.out
        have sD2 : Hid (Words32 (D ++ [(q + M.getD k 0 * 10) % 4294967296])) := words_append.2 ⟨sD.out, words_one (by omega)⟩
        have hD2 : Hid (∀ d, (D ++ [d]).length = k + 1) := fun d => by rw [List.length_append, hD.out]; rfl
        have hset : Hid (∀ d : Nat, Own (wr.setCell ⟨g, k, none⟩ (.int .u32 (d : Int))) g c ((D ++ [d]) ++ M.drop (k + 1))) := fun d => by
          have h := hown.set k d
          rwa [front_set hD.out hlt] at h
        have hgr2 : Hid (∀ u, w.grownBy (wr.setCell ⟨g, k, none⟩ u) (some g)) := fun u => grown_cell hgr _ u
        have i1 : (k : Int) < (M.length : Int) := by omega
        clear hval sD hown hgr hlen
        generalize M.getD k 0 = x at *
        go_wp2
        go_roundw
        case rel =>
          have ed : (((q : Int) + (x : Int) * 10) % 4294967296) = (((q + x * 10) % 4294967296 : Nat) : Int) := by omega
          refine ⟨k + 1, (q + x * 10) / 4294967296, D ++ [(q + x * 10) % 4294967296], by go_num, by go_num, by omega, by omega, hD2.out _, sD2, hval2, ?_, hgr2.out _⟩
          rw [ed]
          exact hset.out _
        case measure => simp only [intOf]; omega
      · have hkl : k = M.length := by omega
        have hfin : Hid ((q = 0 → D = E) ∧ (q ≠ 0 → D ++ [q] = E)) := by
          refine HEND.out D q (by rw [hD.out, hkl]) sD.out ?_ (by omega)
          have h := hval.out
          rwa [hkl, List.take_length, unhide HVM] at h
        have own2 : Own wr g c D := by rwa [hkl, List.drop_length, List.append_nil] at hown
        have hDM : Hid (D.length = M.length) := by show _ = _; rw [hD.out, hkl]
        have ownB := own_base own2 hgB
        rw [hDM.out] at ownB
        have hbw : Below B w wr := below_of_grown hgr hgB hB
        clear hkl hval hown hD hgr own2
        by_cases hq0 : q = 0
        · subst hq0
          have e := hfin.out.1 rfl
          have HO : Hid (wr.ownsRow B 222 1 (.slice (some ⟨g, 0, none⟩) M.length c) E.length (E.map wrd)) := by
            show World.ownsRow _ _ _ _ _ _ _
            rw [← e, hDM.out]; exact ownB
          clear e ownB hfin
          go_wp2
          go_ret
          exact ⟨_, rfl, unhide HO, hbw⟩
        · have e := hfin.out.2 hq0
          have HE := hide e
          have hq1 : 0 < q := by omega
          clear e hfin hq0
          go_wp2_with (at_builtin; refine wpList_append_own _ rfl _ _ 168 rfl B 222 i0 (.int .u32 0) 1 4 Tryz.underlying168 hi hz0 hz1 hz2 rfl (by decide) _ _ _ rfl (ownB.alloc _) ⟨wr.heap.size, 0, none⟩ 1 1 [.int .u32 (q : Int)] rfl rfl ?c1 ?c2 ?c3 ?c4 ?c5 ?_)
          case c1 => exact cell_one_new _ _ _
          case c2 => intro u hu; simp at hu; subst hu; rfl
          case c3 => unfold maxLen; omega
          case c4 => omega
          case c5 => have := hbw.size; simp; omega
          intro v' w3 hown' hgrow _
          have hbw2 : Below B w w3 := (hbw.alloc (Nat.le_trans hB hbw.size) _).grown hgrow (by have := hbw.size; simp; omega) (own_ge ownB)
          have HO : Hid (w3.ownsRow B 222 1 v' E.length (E.map wrd)) := by
            show World.ownsRow _ _ _ _ _ _ _
            rw [← unhide HE, List.length_append, hDM.out]
            simpa [wrd] using hown'
          clear hgrow ownB hown'
          go_wp2
          go_ret
          exact ⟨_, rfl, unhide HO, hbw2⟩

set_option maxHeartbeats 4000000 in
set_option maxRecDepth 100000 in
theorem isNumeral_none (w : World) (s : ByteArray) (h0 : s.size = 0) :
    Calls Tryz.prog 157 #[.string s] w fun e w' => e = .returned (.bool false) ∧ w' = w := by
  obtain rfl : s = ⟨#[]⟩ := by
    apply ByteArray.ext
    exact Array.eq_empty_of_size_eq_zero h0
  go_enter Tryz.func157, Tryz.ntmps157
  go_wp2
  go_ret
  exact ⟨rfl, rfl⟩
theorem isEmpty_false {s : ByteArray} (h : 0 < s.size) : s.toList.isEmpty = false ∧ ¬ s.toList = [] := by
  have e : s.toList ≠ [] := by
    rw [ByteArray.toList_eq]
    intro e
    have h2 := blen_list s
    rw [e] at h2
    simp at h2
    omega
  exact ⟨List.isEmpty_eq_false_iff.2 e, e⟩
set_option maxHeartbeats 4000000 in
set_option maxRecDepth 100000 in
theorem isNumeral_zero (w : World) (s : ByteArray) (h0 : 0 < s.size) (hs : s.size ≤ 1000) (h48 : (s[0]'h0).toNat = 48) (h1 : 1 < s.size) :
    Calls Tryz.prog 157 #[.string s] w fun e w' => e = .returned (.bool false) ∧ w' = w := by
  obtain ⟨e1, e2⟩ := isEmpty_false h0
  have t1 : (1 : Int) < (s.size : Int) := by omega
  go_enter Tryz.func157, Tryz.ntmps157
  go_wp2
  go_ret
  exact ⟨rfl, rfl⟩
set_option maxHeartbeats 8000000 in
set_option maxRecDepth 100000 in
theorem isNumeral_some (w : World) (s : ByteArray) (h0 : 0 < s.size) (hs : s.size ≤ 1000) (hh : (s[0]'h0).toNat ≠ 48 ∨ s.size = 1) (r : Bool) (hr : Hid (r = true ↔ Dig10 s.data.toList)) :
    Calls Tryz.prog 157 #[.string s] w fun e w' => e = .returned (.bool r) ∧ w' = w := by
  obtain ⟨e1, e2⟩ := isEmpty_false h0
  by_cases h48 : (s[0]'h0).toNat = 48
  · have t1 : ¬ (1 : Int) < (s.size : Int) := by omega
    have HH := hide hh
    clear hh
    go_enter Tryz.func157, Tryz.ntmps157
    go_wp2
    go_loopw [3] (fun i wr => ∃ k : Nat, i = .int .i64 k ∧ k ≤ s.size ∧ Hid (Dig10 (s.data.toList.take k)) ∧ wr = w) (fun i _ => s.size - (intOf i).toNat)
    case atStart => exact ⟨0, rfl, Nat.zero_le _, by intro b hb; simp at hb, rfl⟩
    case round =>
      obtain ⟨k, rfl, hk, hdg, rfl⟩ := hrel
      by_cases hlt : k < s.size
      · have hmem : s[k]'hlt ∈ s.data.toList := by rw [← bget s k hlt, List.getD, List.getElem?_eq_getElem (by rw [blen_list]; exact hlt)]; simp
        have hbad : Hid (¬ (48 ≤ (s[k]'hlt).toNat ∧ (s[k]'hlt).toNat ≤ 57) → ¬ Dig10 s.data.toList) := fun h h2 => h (h2 _ hmem)
        have hgood : Hid (48 ≤ (s[k]'hlt).toNat ∧ (s[k]'hlt).toNat ≤ 57 → Dig10 (s.data.toList.take (k + 1))) := fun h => by
          rw [btake_succ s.data.toList k (by rw [blen_list]; exact hlt), bget s k hlt]
          intro b hb
          rcases List.mem_append.1 hb with h1 | h1
          · exact hdg.out b h1
          · simp at h1; subst h1; exact h
        have i1 : (k : Int) < (s.size : Int) := by omega
        have i0 : (0 : Int) ≤ (k : Int) := by omega
        clear hdg
        by_cases hx1 : (s[k]'hlt).toNat < 48
        · have HB := hide (hbad.out (by omega))
          clear hbad hgood hmem
          go_wp2
          go_ret
          rw [show r = false from Bool.eq_false_iff.2 (fun h => unhide HB (hr.out.1 h))]
          exact ⟨rfl, rfl⟩
        · by_cases hx2 : 57 < (s[k]'hlt).toNat
          · have HB := hide (hbad.out (by omega))
            clear hbad hgood hmem
            go_wp2
            go_ret
            rw [show r = false from Bool.eq_false_iff.2 (fun h => unhide HB (hr.out.1 h))]
            exact ⟨rfl, rfl⟩
          · have HG := hide (hgood.out (by omega))
            clear hbad hgood hmem
            go_wp2
            go_roundw
            case rel => exact ⟨k + 1, by go_num, by omega, HG, by trivial⟩
            case measure => simp only [intOf]; omega
      · have hks : k = s.size := by omega
        have HD : Hid (Dig10 s.data.toList) := by
          have h := hdg.out
          rwa [hks, ← blen_list, List.take_length] at h
        clear hks hdg
        go_wp2
        go_ret
        rw [hr.out.2 (unhide HD)]
        exact ⟨rfl, rfl⟩
  · have t1 : ((((s[0]'h0).toNat : Nat) : Int) == 48) = false := beq_false_of_ne (by omega)
    have HH := hide hh
    clear hh
    go_enter Tryz.func157, Tryz.ntmps157
    go_wp2
    go_loopw [3] (fun i wr => ∃ k : Nat, i = .int .i64 k ∧ k ≤ s.size ∧ Hid (Dig10 (s.data.toList.take k)) ∧ wr = w) (fun i _ => s.size - (intOf i).toNat)
    case atStart => exact ⟨0, rfl, Nat.zero_le _, by intro b hb; simp at hb, rfl⟩
    case round =>
      obtain ⟨k, rfl, hk, hdg, rfl⟩ := hrel
      by_cases hlt : k < s.size
      · have hmem : s[k]'hlt ∈ s.data.toList := by rw [← bget s k hlt, List.getD, List.getElem?_eq_getElem (by rw [blen_list]; exact hlt)]; simp
        have hbad : Hid (¬ (48 ≤ (s[k]'hlt).toNat ∧ (s[k]'hlt).toNat ≤ 57) → ¬ Dig10 s.data.toList) := fun h h2 => h (h2 _ hmem)
        have hgood : Hid (48 ≤ (s[k]'hlt).toNat ∧ (s[k]'hlt).toNat ≤ 57 → Dig10 (s.data.toList.take (k + 1))) := fun h => by
          rw [btake_succ s.data.toList k (by rw [blen_list]; exact hlt), bget s k hlt]
          intro b hb
          rcases List.mem_append.1 hb with h1 | h1
          · exact hdg.out b h1
          · simp at h1; subst h1; exact h
        have i1 : (k : Int) < (s.size : Int) := by omega
        have i0 : (0 : Int) ≤ (k : Int) := by omega
        clear hdg
        by_cases hx1 : (s[k]'hlt).toNat < 48
        · have HB := hide (hbad.out (by omega))
          clear hbad hgood hmem
          go_wp2
          go_ret
          rw [show r = false from Bool.eq_false_iff.2 (fun h => unhide HB (hr.out.1 h))]
          exact ⟨rfl, rfl⟩
        · by_cases hx2 : 57 < (s[k]'hlt).toNat
          · have HB := hide (hbad.out (by omega))
            clear hbad hgood hmem
            go_wp2
            go_ret
            rw [show r = false from Bool.eq_false_iff.2 (fun h => unhide HB (hr.out.1 h))]
            exact ⟨rfl, rfl⟩
          · have HG := hide (hgood.out (by omega))
            clear hbad hgood hmem
            go_wp2
            go_roundw
            case rel => exact ⟨k + 1, by go_num, by omega, HG, by trivial⟩
            case measure => simp only [intOf]; omega
      · have hks : k = s.size := by omega
        have HD : Hid (Dig10 s.data.toList) := by
          have h := hdg.out
          rwa [hks, ← blen_list, List.take_length] at h
        clear hks hdg
        go_wp2
        go_ret
        rw [hr.out.2 (unhide HD)]
        exact ⟨rfl, rfl⟩

theorem dec_take_next {l : List UInt8} {k : Nat} (hk : k < l.length) : dec (l.take (k + 1)) = 10 * dec (l.take k) + ((l.getD k 0).toNat - 48) := by
  rw [btake_succ l k hk, dec_snoc]
  omega
theorem dec_words {l : List UInt8} (h : Dig10 l) : (wdig (dec l)).length ≤ l.length := by
  apply wdig_len_lt
  have h1 := dec_lt h
  have h2 : 10 ^ l.length ≤ 4294967296 ^ l.length := Nat.pow_le_pow_left (by omega) _
  omega

set_option maxHeartbeats 8000000 in
set_option maxRecDepth 100000 in
theorem read_any (w : World) (s : ByteArray) (hs : s.size ≤ 1000) (hf : Form s.data.toList) :
    Calls Tryz.prog 100 #[.string s] w fun e w' => ∃ v', e = .returned (.tuple #[v', .int .i64 0]) ∧ WBig w' v' (dec s.data.toList) ∧ Below w.heap.size w w' := by
  obtain ⟨hf1, hf2, hf3⟩ := hf
  have h0 : 0 < s.size := by rw [← blen_list]; exact List.length_pos_iff.2 hf1
  have hh : (s[0]'h0).toNat ≠ 48 ∨ s.size = 1 := by
    rcases hf3 with h | h
    · left
      rw [bget s 0 h0] at h
      intro e
      exact h (UInt8.toNat_inj.1 e)
    · right
      rw [← blen_list]; exact h
  have K1 := hide (isNumeral_some w s h0 hs hh true ⟨fun _ => hf2, fun _ => rfl⟩)
  have t1 : ¬ (1000 : Int) < (s.size : Int) := by omega
  have HD := hide hf2
  clear hf1 hf2 hf3 hh
  go_enter Tryz.func100, Tryz.ntmps100
  go_wp2_with fail
  refine (unhide K1).mono ?_
  rintro e w1 ⟨rfl, rfl⟩
  clear K1
  go_wp2_with fail
  go_loopw [4, 5] (fun v i wr => ∃ k : Nat, i = .int .i64 k ∧ k ≤ s.size ∧ Hid (wr.ownsRow w1.heap.size 222 1 v (wdig (dec (s.data.toList.take k))).length ((wdig (dec (s.data.toList.take k))).map wrd)) ∧ Below w1.heap.size w1 wr) (fun _ i _ => s.size - (intOf i).toNat)
  case atStart => exact ⟨0, rfl, Nat.zero_le _, by show World.ownsRow _ _ _ _ _ _ _; rw [List.take_zero, dec_nil, wdig_zero]; exact World.ownsRow_nil _ _ _ _, Below.refl _ _⟩
  case round =>
    obtain ⟨k, rfl, hk, hown, hbw⟩ := hrel
    by_cases hlt : k < s.size
    · have hb := HD.out _ (show s.data.toList.getD k 0 ∈ s.data.toList by rw [List.getD, List.getElem?_eq_getElem (by rw [blen_list]; exact hlt)]; simp)
      have hn := dec_take_next (l := s.data.toList) (k := k) (by rw [blen_list]; exact hlt)
      have hlen := dec_words (dig10_take HD.out k)
      rw [List.length_take] at hlen
      have k2 := timesTen_any wr w1.heap.size u4 (dec (s.data.toList.take k)) ((s.data.toList.getD k 0).toNat - 48) hbw.size (by omega) (by omega) hown.out
      rw [← hn] at k2
      rw [bget s k hlt] at hb k2
      have hx : ((((s[k]'hlt).toNat : Nat) : Int) - 48) = (((s[k]'hlt).toNat - 48 : Nat) : Int) := by omega
      have K2 := hide k2
      have i1 : (k : Int) < (s.size : Int) := by omega
      have i0 : (0 : Int) ≤ (k : Int) := by omega
      clear k2 hown hlen hn
      generalize (s[k]'hlt).toNat - 48 = d at *
      go_wp2_with fail
      refine (unhide K2).mono ?_
      rintro e w2 ⟨v2, rfl, hown2, b2⟩
      have HO := hide hown2
      have hbw2 : Below w1.heap.size w1 w2 := hbw.trans b2
      clear K2 hown2 b2
      go_wp2
      go_roundw
      case rel => exact ⟨k + 1, by go_num, by omega, HO, hbw2⟩
      case measure => simp only [intOf]; omega
    · have hks : k = s.size := by omega
      have HF : Hid (WBig wr u4 (dec s.data.toList)) := by
        have h := hown.out
        rw [hks, ← blen_list, List.take_length] at h
        exact wsl_own h
      clear hks hown
      go_wp2
      go_ret2
      exact ⟨_, rfl, unhide HF, hbw⟩
theorem isNumeral_bad (w : World) (s : ByteArray) (hs : s.size ≤ 1000) (hf : ¬ Form s.data.toList) :
    Calls Tryz.prog 157 #[.string s] w fun e w' => e = .returned (.bool false) ∧ w' = w := by
  by_cases h0 : s.size = 0
  · exact isNumeral_none w s h0
  · have h0' : 0 < s.size := by omega
    by_cases h48 : (s[0]'h0').toNat = 48 ∧ 1 < s.size
    · exact isNumeral_zero w s h0' hs h48.1 h48.2
    · have hh : (s[0]'h0').toNat ≠ 48 ∨ s.size = 1 := by
        by_cases e : (s[0]'h0').toNat = 48
        · right
          by_cases e1 : 1 < s.size
          · exact absurd ⟨e, e1⟩ h48
          · omega
        · exact .inl e
      refine isNumeral_some w s h0' hs hh false ⟨fun h => (Bool.noConfusion h), fun hd => absurd ?_ hf⟩
      refine ⟨fun e => ?_, hd, ?_⟩
      · have h2 := blen_list s
        rw [e] at h2
        simp at h2
        omega
      · rcases hh with h | h
        · left
          rw [bget s 0 h0']
          intro e
          exact h (by rw [e]; rfl)
        · right
          rw [blen_list]; exact h
theorem readForm_any (w : World) (s : ByteArray) (hs : s.size ≤ 1000) (hf : ¬ Form s.data.toList) :
    Calls Tryz.prog 100 #[.string s] w fun e w' => ∃ a cap, e = .returned (.tuple #[.slice a 0 cap, .int .i64 4]) ∧ Below w.heap.size w w' := by
  have t1 : ¬ (1000 : Int) < (s.size : Int) := by omega
  have K1 := hide (isNumeral_bad w s hs hf)
  clear hf
  go_enter Tryz.func100, Tryz.ntmps100
  go_wp2_with fail
  refine (unhide K1).mono ?_
  rintro e w1 ⟨rfl, rfl⟩
  go_wp2
  go_ret2
  exact ⟨_, _, rfl, Below.refl _ _⟩
end Go.Proofs.YtnbfnjhbmeocfaaGreatDoor.bigs
