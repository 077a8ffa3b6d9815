/- The walks of package big: DivMod; the first face. -/
import Derived.Test.YtobbbhmkcmbekaaDoorWordLongWalk
set_option linter.unusedVariables false
namespace Go.Proofs.YtobbbhmkcmbekaaDoor.bigs
open Go.RowKit

theorem lit_row (w : World) (x : Nat) : RowU (w.alloc (.cells #[.int .u32 (x : Int)] 40)) (some ⟨w.heap.size, 0, none⟩) [x] := fun _ => by
  refine ⟨w.heap.size, 0, rfl, by simp, fun j hj => ?_⟩
  have : j = 0 := by simp at hj; exact hj
  subst this
  exact cell_one_new _ _ _ 0 _ rfl
theorem big_nil (w : World) (n : Nat) (h : n = 0) : WBig w (.slice none 0 0) n := by
  subst h
  exact ⟨none, 0, by rw [wdig_zero]; rfl, by rw [wdig_zero]; simp, by rw [wdig_zero]; exact fun h => absurd rfl h⟩

theorem divNone_any (w : World) (v u : Value) (l k : List Nat) (hu : WSl w u k) (sk : Words32 k) (lk : k.length ≤ 300000) (h0 : wval k = 0) :
    Calls Tryd.prog 89 #[v, u] w fun e w' => ∃ a c a' c', e = .returned (.tuple #[.slice a 0 c, .slice a' 0 c', .int .i64 1]) ∧ Below w.heap.size w w' := by
  obtain ⟨ab, cb, rfl, hcb, rb⟩ := hu
  have K1 := hide (wcut_any w ab k cb (by omega) hcb rb sk)
  rw [h0, wdig_zero] at K1
  go_enter Tryd.func89, Tryd.ntmps89
  go_wp2_with fail
  refine (unhide K1).mono ?_
  rintro e w1 ⟨rfl, rfl⟩
  go_wp2
  go_ret3
  exact ⟨_, _, _, _, rfl, Below.refl _ _⟩

set_option maxHeartbeats 8000000 in
set_option maxRecDepth 100000 in
theorem div_any (w : World) (v u : Value) (l k : List Nat) (hv : WSl w v l) (hu : WSl w u k) (sl : Words32 l) (sk : Words32 k) (ll : l.length ≤ 300000) (lk : k.length ≤ 300000) (h0 : wval k ≠ 0) :
    Calls Tryd.prog 89 #[v, u] w fun e w' => ∃ v1 v2, e = .returned (.tuple #[v1, v2, .int .i64 0]) ∧ WBig w' v1 (wval l / wval k) ∧ WBig w' v2 (wval l % wval k) ∧ Below w.heap.size w w' := by
  obtain ⟨ab, cb, rfl, hcb, rb⟩ := hu
  have K1 := hide (wcut_any w ab k cb (by omega) hcb rb sk)
  have hub : WSl w (.slice ab (wdig (wval k)).length cb) (wdig (wval k)) := ⟨_, _, rfl, Nat.le_trans (wdig_len_words sk) hcb, rb.cut sk⟩
  have lB : (wdig (wval k)).length ≤ 300000 := Nat.le_trans (wdig_len_words sk) lk
  have K2 := hide (cmp_any w v _ l _ hv hub sl (words_wdig (wval k)) (by omega) (by omega))
  rw [wval_wdig] at K2
  have hp := wdig_pos_len h0
  have hz : (((wdig (wval k)).length : Nat) == 0) = false := beq_false_of_ne (by omega)
  have hz' : ((((wdig (wval k)).length : Nat) : Int) == 0) = false := beq_false_of_ne (by omega)
  have hmL := wdig_len_words sl
  generalize hm : wval l = m at *
  generalize hn : wval k = n at *
  have HM := hide hm
  clear hm hn rb hcb
  by_cases hlt : m < n
  · rw [sgn_lt hlt] at K2
    have HQ : Hid (m / n = 0 ∧ m % n = m) := ⟨Nat.div_eq_of_lt hlt, Nat.mod_eq_of_lt hlt⟩
    generalize hq : m / n = q at *
    generalize hr : m % n = r at *
    clear hq hr
    go_enter Tryd.func89, Tryd.ntmps89
    go_wp2_with fail
    refine (unhide K1).mono ?_
    rintro e w1 ⟨rfl, rfl⟩
    go_wp2_with fail
    refine (unhide K2).mono ?_
    rintro e w2 ⟨rfl, b2⟩
    have K3 := hide (trim_own w2 v l (hv.below b2) sl (by omega))
    rw [unhide HM] at K3
    clear K1 K2
    go_wp2_with fail
    refine (unhide K3).mono ?_
    rintro e w3 ⟨v3, rfl, hown3, b3⟩
    have HB : Hid (WBig w3 v3 r) := by show WBig w3 v3 r; rw [HQ.out.2]; exact wsl_own hown3
    clear hown3 K3
    go_wp2
    go_ret3
    exact ⟨_, _, rfl, big_nil _ _ HQ.out.1, unhide HB, b2.trans (b3.mono b2.size)⟩
  · have hs := sgn_ge (show n ≤ m by omega)
    generalize sgn m n = s at *
    have hs' : ¬ (s < 0) := by omega
    have hm0 : m ≠ 0 := by omega
    by_cases h1 : (wdig n).length = 1
    · obtain ⟨x, hx⟩ : ∃ x, wdig n = [x] := by
        cases e : wdig n with
        | nil => rw [e] at h1; simp at h1
        | cons y t =>
          cases t with
          | nil => exact ⟨y, rfl⟩
          | cons z t => rw [e] at h1; simp at h1
      have hxw : x < 4294967296 := by
        have h := words_getD (words_wdig n) 0
        rw [hx] at h
        exact h
      have hxn : x = n := by
        have h := wval_wdig n
        rw [hx, wval_one] at h
        exact h
      have hx0 : x ≠ 0 := by omega
      obtain ⟨ab', cb', e', hcb', rb'⟩ := hub
      cases e'
      rw [hx] at rb'
      obtain ⟨b3, o3, rfl, hb3, hc3⟩ := rb' (by simp)
      have c3 : w.cell? ⟨b3, o3, none⟩ = some (.int .u32 (x : Int)) := hc3 0 (by simp)
      have sD := words_wdig m
      have hD0 : wdig m ≠ [] := fun e => hm0 (wdig_nil.1 e)
      have HVD := hide (wval_wdig m)
      have lD : (wdig m).length ≤ 300000 := by omega
      rw [h1] at K1 K2
      rw [← hxn]
      have HRX : Hid (m % x < x) := Nat.mod_lt _ (by omega)
      clear hc3 rb' hcb' hz hz' hp hx hxn h1 lB h0 hlt hs hm0
      generalize hq : m / x = q at *
      generalize hr : m % x = r at *
      have HQ := hide hq
      have HR := hide hr
      have hrx : r < x := HRX.out
      clear hq hr
      go_enter Tryd.func89, Tryd.ntmps89
      go_wp2_with fail
      refine (unhide K1).mono ?_
      rintro e w1 ⟨rfl, rfl⟩
      go_wp2_with fail
      refine (unhide K2).mono ?_
      rintro e w2 ⟨rfl, b2⟩
      have K3 := hide (trim_own w2 v l (hv.below b2) sl (by omega))
      rw [unhide HM] at K3
      clear K1 K2
      go_wp2_with fail
      refine (unhide K3).mono ?_
      rintro e w3 ⟨v3, rfl, hown3, b3'⟩
      obtain ⟨g, c, rfl, own3, hg⟩ := own_of hown3 hD0
      have b13 := b2.trans (b3'.mono b2.size)
      have hgw : w1.heap.size ≤ g := Nat.le_trans b2.size hg
      have c4 : w3.cell? ⟨b3, o3, none⟩ = some (.int .u32 (x : Int)) := cell_keep b13 c3
      have k4 := divideByWord_any w3 g c c x (wdig m) [] (by omega) sD hx0 hxw (by rw [List.append_nil]; exact own3)
      rw [unhide HVD, unhide HQ, unhide HR] at k4
      have K4 := hide k4
      clear k4 own3 hown3 K3 c3 b2 b3'
      go_wp2_with fail
      refine (unhide K4).mono ?_
      rintro e w4 ⟨M', rfl, hM', sM', hvM', own4, hgr4⟩
      rw [List.append_nil] at own4
      have b14 : Below w1.heap.size w1 w4 := b13.trans (below_of_grown hgr4 hgw b13.size)
      have C5 := hide (wcut_any w4 (some ⟨g, 0, none⟩) M' c (by omega) own4.cap own4.row sM')
      have HW5 : Hid (RowU w4 (some ⟨g, 0, none⟩) (wdig q) ∧ (wdig q).length ≤ c) := by
        refine ⟨?_, ?_⟩
        · rw [← hvM']; exact own4.row.cut sM'
        · rw [← hvM']; exact Nat.le_trans (wdig_len_words sM') own4.cap
      rw [hM', hvM'] at C5
      have C6 := hide (wcut_any (w4.alloc (.cells #[.int .u32 (r : Int)] 40)) (some ⟨w4.heap.size, 0, none⟩) [r] 1 (by simp) (by simp) (lit_row w4 r) (words_one (by omega)))
      have HW6 : Hid (RowU (w4.alloc (.cells #[.int .u32 (r : Int)] 40)) (some ⟨w4.heap.size, 0, none⟩) (wdig r) ∧ (wdig r).length ≤ 1) := by
        have h1 := (lit_row w4 r).cut (words_one (by omega))
        have h2 := wdig_len_words (words_one (show r < 4294967296 by omega))
        rw [wval_one] at h1 h2
        exact ⟨h1, h2⟩
      rw [wval_one] at C6
      have b15 : Below w1.heap.size w1 (w4.alloc (.cells #[.int .u32 (r : Int)] 40)) := b14.alloc b14.size _
      have HW5' : Hid (RowU (w4.alloc (.cells #[.int .u32 (r : Int)] 40)) (some ⟨g, 0, none⟩) (wdig q)) := HW5.out.1.below ((Below.refl _ w4).alloc (Nat.le_refl _) _)
      clear hvM' hM' sM' own4 hgr4 K4
      go_wp2_with fail
      refine (unhide C5).mono ?_
      rintro e w5 ⟨rfl, rfl⟩
      go_wp2_with fail
      refine (unhide C6).mono ?_
      rintro e w6 ⟨rfl, rfl⟩
      go_wp2
      go_ret3
      exact ⟨.slice (some ⟨g, 0, none⟩) (wdig q).length c, .slice (some ⟨w5.heap.size, 0, none⟩) (wdig r).length 1, rfl, ⟨_, _, rfl, HW5.out.2, HW5'.out⟩, ⟨_, _, rfl, HW6.out.2, HW6.out.1⟩, b15⟩
    · obtain ⟨t, ht⟩ : ∃ t, (wdig n).length = t + 1 := ⟨(wdig n).length - 1, by omega⟩
      have h1' : ((((wdig n).length : Nat) : Int) == 1) = false := beq_false_of_ne (by omega)
      have h1n : (((wdig n).length : Nat) == 1) = false := beq_false_of_ne (by omega)
      obtain ⟨aa, ca, rfl, hca, ra⟩ := hv
      have hle : n ≤ m := by omega
      have hlm : (wdig m).length ≤ 300000 := by omega
      have HT := hide ht
      generalize hq : m / n = q at *
      generalize hr : m % n = r at *
      have HQ := hide hq
      have HR := hide hr
      clear hq hr ht h0 hlt hs hm0
      go_enter Tryd.func89, Tryd.ntmps89
      go_wp2_with fail
      refine (unhide K1).mono ?_
      rintro e w1 ⟨rfl, rfl⟩
      go_wp2_with fail
      refine (unhide K2).mono ?_
      rintro e w2 ⟨rfl, b2⟩
      have ra2 := ra.below b2
      have C3 := hide (wcut_any w2 aa l ca (by omega) hca ra2 sl)
      have hA : WBig w2 (.slice aa (wdig m).length ca) m := ⟨_, _, rfl, by omega, by have h := ra2.cut sl; rwa [unhide HM] at h⟩
      rw [unhide HM] at C3
      have k4 := divideLong_any w2 _ _ m n t hA (hub.below b2) (unhide HT) hle hlm
      rw [unhide HQ, unhide HR] at k4
      have K4 := hide k4
      clear k4 hA hub K1 K2 ra2
      go_wp2_with fail
      refine (unhide C3).mono ?_
      rintro e w3 ⟨rfl, rfl⟩
      go_wp2_with fail
      refine (unhide K4).mono ?_
      rintro e w4 ⟨v4, v5, Q, R, rfl, hQ, hR, sQ, sR, lQ, lR, vQ, vR, b4⟩
      have C5 := hide (wcut_big w4 v4 Q (by omega) hQ sQ)
      have C6 := hide (wcut_big w4 v5 R (by omega) hR sR)
      rw [vQ] at C5
      rw [vR] at C6
      clear K4 hQ hR sQ sR lQ lR vQ vR
      go_wp2_with fail
      refine (unhide C5).mono ?_
      rintro e w5 ⟨v6, rfl, hv6, _, rfl⟩
      go_wp2_with fail
      refine (unhide C6).mono ?_
      rintro e w6 ⟨v7, rfl, hv7, _, rfl⟩
      have H6 := hide hv6
      have H7 := hide hv7
      clear hv6 hv7 C5 C6
      go_wp2
      go_ret3
      exact ⟨v6, v7, rfl, unhide H6, unhide H7, b2.trans (b4.mono b2.size)⟩

end Go.Proofs.YtobbbhmkcmbekaaDoor.bigs
