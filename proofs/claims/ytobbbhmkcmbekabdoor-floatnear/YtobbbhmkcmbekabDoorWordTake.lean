/- The walks of package big: Sub. -/
import Derived.Test.YtobbbhmkcmbekabDoorWordAdd
set_option linter.unusedVariables false
namespace Go.Proofs.YtobbbhmkcmbekabDoor.bigs
open Go.RowKit

theorem sgn_ge {m n : Nat} (h : n ≤ m) : 0 ≤ sgn m n := by unfold sgn; rw [if_neg (by omega)]; split <;> omega
theorem take_fits {M D B : List Nat} {q : Nat} (sM : Words32 M) (hl : M.length = D.length) (hle : wval B ≤ wval D) (h : wval M + 1 * wval B = wval D + 4294967296 ^ D.length * q) : wval M = wval D - wval B := by
  have l1 := wval_lt sM
  rw [hl] at l1
  by_cases h0 : q = 0
  · subst h0; omega
  · have : 4294967296 ^ D.length * 1 ≤ 4294967296 ^ D.length * q := Nat.mul_le_mul_left _ (by omega)
    omega

set_option maxHeartbeats 8000000 in
set_option maxRecDepth 100000 in
theorem sub_any (w : World) (v u : Value) (l k : List Nat) (hv : WSl w v l) (hu : WSl w u k) (sl : Words32 l) (sk : Words32 k) (ll : l.length ≤ 900000) (lk : k.length ≤ 900000) (hle : wval k ≤ wval l) :
    Calls Tryd.prog 23 #[v, u] w fun e w' => ∃ v', e = .returned (.tuple #[v', .int .i64 0]) ∧ WBig w' v' (wval l - wval k) ∧ Below w.heap.size w w' := by
  have K1 := hide (cmp_any w v u l k hv hu sl sk (by omega) (by omega))
  have hs := sgn_ge hle
  generalize sgn (wval l) (wval k) = s at *
  have hs' : ¬ (s < 0) := by omega
  generalize hR : wval l - wval k = R
  have HR := hide hR
  clear hR
  go_enter Tryd.func23, Tryd.ntmps23
  go_wp2_with fail
  refine (unhide K1).mono ?_
  rintro e w1 ⟨rfl, b1⟩
  have K2 := hide (trim_own w1 v l (hv.below b1) sl (by omega))
  clear K1
  go_wp2_with fail
  refine (unhide K2).mono ?_
  rintro e w2 ⟨v2, rfl, hown2, b2⟩
  have b12 := b1.trans (b2.mono b1.size)
  obtain ⟨ab, cb, rfl, hcb, rb⟩ := hu.below b12
  have K3 := hide (wcut_any w2 ab k cb (by omega) hcb rb sk)
  have hrB : WSl w (.slice ab (wdig (wval k)).length cb) (wdig (wval k)) := by
    obtain ⟨ab', cb', e, _, rb'⟩ := hu
    cases e
    exact ⟨ab, cb, rfl, Nat.le_trans (wdig_len_words sk) hcb, rb'.cut sk⟩
  clear K2 rb
  by_cases h0 : wval l = 0
  · have hk0 : wval k = 0 := by omega
    rw [h0, wdig_zero] at hown2
    rw [hk0, wdig_zero] at K3
    have HR0 : Hid (R = 0) := by show R = 0; rw [← unhide HR]; omega
    obtain ⟨a2, c2, rfl, hc2, hr2⟩ := rowU_own (l := []) hown2
    have K4 := hide (takeTimes_nil w2 a2 c2 1 (.slice ab 0 cb))
    have K5 := hide (wcut_any w2 a2 [] c2 (by simp) hc2 hr2 words_nil)
    rw [show wdig (wval []) = [] from wdig_zero] at K5
    clear hown2 hr2 hrB hs hv hu h0 hk0 hle HR
    go_wp2_with fail
    refine (unhide K3).mono ?_
    rintro e w3 ⟨rfl, rfl⟩
    go_wp2_with fail
    refine (unhide K4).mono ?_
    rintro e w4 ⟨rfl, rfl⟩
    go_wp2_with fail
    refine (unhide K5).mono ?_
    rintro e w5 ⟨rfl, rfl⟩
    go_wp2
    go_ret2
    exact ⟨_, rfl, ⟨a2, c2, by rw [HR0.out, wdig_zero]; rfl, by rw [HR0.out, wdig_zero]; simp, by rw [HR0.out, wdig_zero]; exact fun h => absurd rfl h⟩, b12⟩
  · have hne : wdig (wval l) ≠ [] := fun e => h0 (wdig_nil.1 e)
    obtain ⟨g, c, rfl, own2, hg⟩ := own_of hown2 hne
    have hgw : w.heap.size ≤ g := Nat.le_trans b1.size hg
    have sD := words_wdig (wval l)
    have sB := words_wdig (wval k)
    have lD : (wdig (wval l)).length ≤ 900000 := Nat.le_trans (wdig_len_words sl) ll
    have hBD : (wdig (wval k)).length ≤ (wdig (wval l)).length := wdig_mono hle
    have HV : Hid (wval (wdig (wval l)) - wval (wdig (wval k)) = R ∧ wval (wdig (wval k)) ≤ wval (wdig (wval l))) := by
      show _ ∧ _
      rw [wval_wdig, wval_wdig]
      exact ⟨unhide HR, hle⟩
    clear hown2 hne h0 sl sk hv hu hle HR
    generalize wdig (wval l) = D at *
    generalize wdig (wval k) = B at *
    have c4 := takeTimes_any w2 g c 0 c 1 [] D [] B (.slice ab B.length cb) rfl hBD (by omega) sD sB (by omega) (by rw [List.nil_append, List.append_nil]; exact own2) (hrB.below b12) (wsl_apart hrB hgw)
    have K4 := hide c4
    clear c4 own2 hrB
    go_wp2_with fail
    refine (unhide K3).mono ?_
    rintro e w3 ⟨rfl, rfl⟩
    go_wp2_with fail
    refine (unhide K4).mono ?_
    rintro e w4 ⟨M', q, b', rfl, hbq, hM', sM', hval', own4, hgr4⟩
    rw [List.nil_append, List.append_nil] at own4
    have hv4 : wval M' = R := by rw [take_fits sM' hM' HV.out.2 hval', HV.out.1]
    have b4 : Below w.heap.size w w4 := b12.trans (below_of_grown hgr4 hgw b12.size)
    have C5 := hide (wcut_any w4 (some ⟨g, 0, none⟩) M' c (by omega) own4.cap own4.row sM')
    have R5 := hide (own4.row.cut sM')
    have L5 : Hid ((wdig (wval M')).length ≤ c) := Nat.le_trans (wdig_len_words sM') own4.cap
    rw [hM', hv4] at C5
    rw [hv4] at R5 L5
    clear K4 K3 own4 hgr4 hval' hM' sM' hv4 hbq HV
    go_wp2_with fail
    refine (unhide C5).mono ?_
    rintro e w5 ⟨rfl, rfl⟩
    go_wp2
    go_ret2
    exact ⟨_, rfl, ⟨_, _, rfl, L5.out, unhide R5⟩, b4⟩

theorem subLess_any (w : World) (v u : Value) (l k : List Nat) (hv : WSl w v l) (hu : WSl w u k) (sl : Words32 l) (sk : Words32 k) (ll : l.length ≤ 900000) (lk : k.length ≤ 900000) (hlt : wval l < wval k) :
    Calls Tryd.prog 23 #[v, u] w fun e w' => ∃ a cap, e = .returned (.tuple #[.slice a 0 cap, .int .i64 1]) ∧ Below w.heap.size w w' := by
  have K1 := hide (cmp_any w v u l k hv hu sl sk (by omega) (by omega))
  rw [sgn_lt hlt] at K1
  go_enter Tryd.func23, Tryd.ntmps23
  go_wp2_with fail
  refine (unhide K1).mono ?_
  rintro e w1 ⟨rfl, b1⟩
  go_wp2
  go_ret2
  exact ⟨_, _, rfl, b1⟩
end Go.Proofs.YtobbbhmkcmbekabDoor.bigs
