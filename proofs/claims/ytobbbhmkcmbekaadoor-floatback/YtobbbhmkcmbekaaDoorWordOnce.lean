/- The walks of package big: divideOnce. -/
import Derived.Test.YtobbbhmkcmbekaaDoorWordDiv
set_option linter.unusedVariables false
namespace Go.Proofs.YtobbbhmkcmbekaaDoor.bigs
open Go.RowKit

theorem WSl.kept {w w' : World} {v : Value} {l : List Nat} {g : Nat} (h : WSl w v l) (hg : w.grownBy w' (some g)) (hne : l ≠ [] → v.ownBlock ≠ some g) : WSl w' v l := by
  obtain ⟨a, cap, rfl, hc, hr⟩ := h
  refine ⟨a, cap, rfl, hc, ?_⟩
  by_cases h0 : l = []
  · intro h; exact absurd h0 h
  · exact hr.kept hg (fun b o s e hb => hne h0 (by rw [e, hb]; rfl))
/-- The guess is not too little. -/
theorem guess_ge {M B : List Nat} {t : Nat} (sM : Words32 M) (hM : M.length = t + 2) (hB : B.length = t + 1) (ht : B.getD t 0 ≠ 0) (sB : Words32 B) :
    wval M / wval B ≤ (M.getD (t + 1) 0 * 4294967296 + M.getD t 0) / B.getD t 0 := by
  have h1 := wdrop_div M t sM
  rw [wdrop_val, wdrop_val, List.drop_of_length_le (by omega), show wval [] = 0 from rfl] at h1
  obtain ⟨x, e, hx⟩ := wsplit_val B t sB
  rw [wdrop_val, List.drop_of_length_le (by omega), show wval [] = 0 from rfl] at e
  have e2 : M.getD (t + 1) 0 * 4294967296 + M.getD t 0 = wval M / 4294967296 ^ t := by omega
  rw [e2, Nat.div_div_eq_div_mul]
  refine Nat.div_le_div_left ?_ ?_
  · rw [Nat.mul_zero, Nat.add_zero] at e; omega
  · have : 0 < 4294967296 ^ t := Nat.pow_pos (by omega)
    exact Nat.mul_pos this (by omega)
theorem once_small {M1 B : List Nat} {m n G q X : Nat} (h : wval M1 + G * wval B = m + X * 4294967296 * q) (h1 : wval M1 < X * 4294967296) (hB : wval B < X) (hG : G < 4294967296) (hm : q ≠ 0 → True) : q ≤ 1 := by
  have h2 : G * wval B ≤ 4294967296 * X := Nat.mul_le_mul (by omega) (by omega)
  have h3 : q ≤ 1 ∨ 2 ≤ q := by omega
  rcases h3 with h3 | h3
  · exact h3
  · have h4 : X * 4294967296 * 2 ≤ X * 4294967296 * q := Nat.mul_le_mul_left _ h3
    have h5 : G * wval B < 4294967296 * X := by
      by_cases e : wval B = 0
      · rw [e]; simp; omega
      · exact Nat.mul_lt_mul_of_lt_of_le hG (by omega) (by omega)
    omega
theorem once_end {a b m G : Nat} (h : a + G * b = m) (hq : m / b ≤ G) (hb : 0 < b) : G = m / b ∧ a = m % b := by
  have h1 : G ≤ m / b := by
    rw [Nat.le_div_iff_mul_le hb]
    omega
  have e : G = m / b := by omega
  refine ⟨e, ?_⟩
  have := Nat.div_add_mod m b
  rw [← e, Nat.mul_comm] at this
  omega
theorem once_back {a a2 b m G X : Nat} {c : Bool} (h : a + G * b = m + X * Bool.toNat true) (ha : a < X) (h2 : a2 + X * c.toNat = a + b) (hq : m / b ≤ G) (hb : 0 < b) :
    0 < G ∧ m / b ≤ G - 1 ∧ a2 + (G - 1) * b = m + X * (!c).toNat := by
  have e1 : X * Bool.toNat true = X := by rw [show Bool.toNat true = 1 from rfl, Nat.mul_one]
  have hgt : m < G * b := by omega
  have h3 : m / b < G := Nat.div_lt_of_lt_mul (by rw [Nat.mul_comm]; exact hgt)
  have e2 : (G - 1) * b + b = G * b := by
    obtain ⟨k, rfl⟩ : ∃ k, G = k + 1 := ⟨G - 1, by have := Nat.lt_of_le_of_lt (Nat.zero_le _) h3; omega⟩
    rw [Nat.add_sub_cancel, Nat.add_mul, Nat.one_mul]
  refine ⟨Nat.lt_of_le_of_lt (Nat.zero_le _) h3, Nat.le_sub_one_of_lt h3, ?_⟩
  clear h3 hq
  cases c with
  | false =>
    have e3 : X * Bool.toNat false = 0 := by rw [show Bool.toNat false = 0 from rfl, Nat.mul_zero]
    have e4 : X * (!false).toNat = X := by rw [show (!false).toNat = 1 from rfl, Nat.mul_one]
    omega
  | true =>
    have e4 : X * (!true).toNat = 0 := by rw [show (!true).toNat = 0 from rfl, Nat.mul_zero]
    omega

set_option maxHeartbeats 8000000 in
set_option maxRecDepth 100000 in
theorem divideOnce_any (w : World) (g c o ca t : Nat) (P M S B : List Nat) (vb : Value) (ho : P.length = o) (hM : M.length = t + 2) (hB : B.length = t + 1) (ht : B.getD t 0 ≠ 0) (htl : t ≤ 900000) (sM : Words32 M) (sB : Words32 B)
    (hlt : wval M < wval B * 4294967296) (own : Own w g c (P ++ (M ++ S))) (hvb : WSl w vb B) (hne : B ≠ [] → vb.ownBlock ≠ some g) :
    Calls Tryd.prog 128 #[.slice (some ⟨g, o, none⟩) (t + 2 : Nat) ca, vb] w fun e w' => ∃ (M' : List Nat), e = .returned (.int .u32 ((wval M / wval B : Nat) : Int)) ∧ M'.length = t + 2 ∧ Words32 M' ∧
      wval M' = wval M % wval B ∧ Own w' g c (P ++ (M' ++ S)) ∧ w.grownBy w' (some g) := by
  have hB0 : B ≠ [] := by intro e; rw [e] at hB; simp at hB
  have hge := guess_ge sM hM hB ht sB
  have hlt2 : wval M / wval B < 4294967296 := Nat.div_lt_of_lt_mul hlt
  have hbpos : 0 < wval B := by
    by_cases e : wval B = 0
    · rw [e] at hlt; simp at hlt
    · omega
  have hwB : wval B < 4294967296 ^ (t + 1) := by have := wval_lt sB; rwa [hB] at this
  have c1 : w.cell? ⟨g, P.length + (t + 1), none⟩ = some (.int .u32 ((M.getD (t + 1) 0 : Nat) : Int)) := own.cellMid (t + 1) (by omega)
  have c2 : w.cell? ⟨g, P.length + t, none⟩ = some (.int .u32 ((M.getD t 0 : Nat) : Int)) := own.cellMid t (by omega)
  have x1 := words_getD sM (t + 1)
  have x2 := words_getD sM t
  have x3 := words_getD sB t
  obtain ⟨ab, cb, rfl, hcb, rb⟩ := hvb
  obtain ⟨b3, o3, rfl, hb3, hc3⟩ := rb hB0
  have c3 : w.cell? ⟨b3, o3 + t, none⟩ = some (.int .u32 ((B.getD t 0 : Nat) : Int)) := hc3 t (by omega)
  have hvb : WSl w (.slice (some ⟨b3, o3, none⟩) (t + 1) cb) B := ⟨_, cb, by rw [hB], by omega, rb⟩
  have hnb : B ≠ [] → (Value.slice (some ⟨b3, o3, none⟩) (t + 1) cb).ownBlock ≠ some g := hne
  subst ho
  have KT : ∀ (wz : World) (G : Nat), G < 4294967296 → Own wz g c (P ++ (M ++ S)) → WSl wz (.slice (some ⟨b3, o3, none⟩) (t + 1) cb) B → Hid _ := fun wz G hG hO hW => hide (takeTimes_any wz g c P.length ca G P M S B _ rfl (by omega) (by omega) sM sB hG hO hW hnb)
  have KA : ∀ (wz : World) (M1 : List Nat), M1.length = t + 2 → Words32 M1 → Own wz g c (P ++ (M1 ++ S)) → WSl wz (.slice (some ⟨b3, o3, none⟩) (t + 1) cb) B → Hid _ := fun wz M1 h1 h2 hO hW => hide (addTo_any wz g c P.length ca P M1 S B _ rfl (by omega) (by omega) h2 sB hO hW hnb)
  rw [hM] at KT
  have hor := or_word (M.getD (t + 1) 0) (M.getD t 0) x1 x2
  have ht' : ((B.getD t 0 : Nat) : Int) ≠ 0 := by omega
  have ht2 : (((B.getD t 0 : Nat) : Int) == 0) = false := beq_false_of_ne ht'
  have hh : M.getD (t + 1) 0 * 4294967296 + M.getD t 0 < 18446744073709551616 := by omega
  have e0 : ((t + 1 : Nat) : Int) - 1 = (t : Int) := by omega
  rw [hB]
  have HB := hide hB
  have HM := hide hM
  have HWB := hide hwB
  have HSM := hide sM
  clear rb hc3 hB hM ht sM sB hne hB0 hwB hlt
  generalize M.getD (t + 1) 0 = m1 at *
  generalize M.getD t 0 = m0 at *
  generalize B.getD t 0 = bt at *
  generalize m1 * 4294967296 + m0 = h at *
  have q1 : (h : Int) / (bt : Int) = ((h / bt : Nat) : Int) := by simp
  have hq64 : h / bt ≤ h := Nat.div_le_self _ _
  generalize h / bt = G0 at *
  have hmn : min ((G0 : Nat) : Int) 4294967295 = ((min G0 4294967295 : Nat) : Int) := by omega
  have hGG : min G0 4294967295 < 4294967296 := by omega
  have hG : Hid (wval M / wval B ≤ min G0 4294967295) := by show _ ≤ _; omega
  generalize min G0 4294967295 = G1 at *
  clear hge
  go_enter Tryd.func128, Tryd.ntmps128
  go_wp2_with fail
  go_quiet (fail)
  have c3z : (w.drewN nq).cell? ⟨b3, o3 + t, none⟩ = some (.int .u32 (bt : Int)) := c3
  have ownz : Own (w.drewN nq) g c (P ++ (M ++ S)) := own
  have hgz : w.grownBy (w.drewN nq) (some g) := grown_drew (grown_refl _ _) _
  have KZ := KT (w.drewN nq) G1 (by omega) ownz (hvb.kept hgz hnb)
  clear c1 c2 c3 own ownz KT
  generalize w.drewN nq = wz at *
  go_wp2_with fail
  refine (unhide KZ).mono ?_
  rintro e w1 ⟨M1, q, b', rfl, hbq, hM1, sM1, hval1, own1, hg1⟩
  have hq1 : q ≤ 1 := by
    have h1 := wval_lt sM1
    rw [hM1, Nat.pow_succ] at h1
    rw [Nat.pow_succ] at hval1
    exact once_small (n := 0) hval1 h1 (unhide HWB) (by omega) (fun _ => trivial)
  have hval2 : wval M1 + G1 * wval B = wval M + 4294967296 ^ (t + 2) * b'.toNat := by
    rw [hval1]
    congr 2
    cases b' with
    | false => have : ¬ 0 < q := fun h => by simpa using hbq.2 h
               show q = 0
               omega
    | true => have := hbq.1 rfl
              show q = 1
              omega
  have HV1 := hide hval2
  have hgw1 := grown_trans hgz hg1
  clear hval1 hval2 hbq hq1 KZ hgz hg1 c3z
  have hkey := hide (⟨hM1, sM1, unhide HV1, own1, hgw1⟩ : M1.length = t + 2 ∧ Words32 M1 ∧ wval M1 + G1 * wval B = wval M + 4294967296 ^ (t + 2) * b'.toNat ∧ Own w1 g c (P ++ (M1 ++ S)) ∧ w.grownBy w1 (some g))
  clear hM1 sM1 HV1 own1 hgw1
  go_wp2_with fail
  go_loopw [7, 8] (fun gg bb wr => ∃ (G : Nat) (b : Bool) (M1 : List Nat), gg = .int .u32 G ∧ bb = .bool b ∧ G < 4294967296 ∧ Hid (wval M / wval B ≤ G) ∧ Hid (M1.length = t + 2 ∧ Words32 M1 ∧ wval M1 + G * wval B = wval M + 4294967296 ^ (t + 2) * b.toNat ∧ Own wr g c (P ++ (M1 ++ S)) ∧ w.grownBy wr (some g))) (fun gg _ _ => (intOf gg).toNat)
  case atStart => exact ⟨G1, b', M1, rfl, rfl, by omega, hG, hkey⟩
  case round =>
    clear hkey
    obtain ⟨G, b, M1, rfl, rfl, hGW, hGq, hk⟩ := hrel
    cases b with
    | false =>
      have hfin : Hid (G = wval M / wval B ∧ wval M1 = wval M % wval B) := by
        refine once_end ?_ hGq.out hbpos
        have h := hk.out.2.2.1
        rwa [show Bool.toNat false = 0 from rfl, Nat.mul_zero, Nat.add_zero] at h
      go_wp2
      go_ret
      rw [← hfin.out.1]
      exact ⟨M1, rfl, hk.out.1, hk.out.2.1, hfin.out.2, hk.out.2.2.2.1, hk.out.2.2.2.2⟩
    | true =>
      have KB := KA wr M1 hk.out.1 hk.out.2.1 hk.out.2.2.2.1 (hvb.kept hk.out.2.2.2.2 hnb)
      rw [hk.out.1] at KB
      have hpre : ∀ (M2 : List Nat) (c : Bool), wval M2 + 4294967296 ^ (t + 2) * c.toNat = wval M1 + wval B → Hid (0 < G ∧ wval M / wval B ≤ G - 1 ∧ wval M2 + (G - 1) * wval B = wval M + 4294967296 ^ (t + 2) * (!c).toNat) := fun M2 c h => by
        have h1 := wval_lt hk.out.2.1
        rw [hk.out.1] at h1
        exact once_back hk.out.2.2.1 h1 h hGq.out hbpos
      have HP := hide hpre
      have HG1 := hide hk.out.2.2.2.2
      clear KA hpre hk hGq
      go_wp2_with fail
      refine (unhide KB).mono ?_
      rintro e w2 ⟨M2, b2, rfl, hM2, sM2, hval2, own2, hg2⟩
      have hP := (unhide HP M2 b2 hval2).out
      have hG1 : 0 < G := hP.1
      have HK : Hid (M2.length = t + 2 ∧ Words32 M2 ∧ wval M2 + (G - 1) * wval B = wval M + 4294967296 ^ (t + 2) * (!b2).toNat ∧ Own w2 g c (P ++ (M2 ++ S)) ∧ w.grownBy w2 (some g)) := ⟨hM2, sM2, hP.2.2, own2, grown_trans (unhide HG1) hg2⟩
      have HQ := hide hP.2.1
      clear hM2 sM2 hval2 own2 hg2 hP HP HG1 KB
      go_wp2
      go_roundw
      case rel => exact ⟨G - 1, !b2, M2, by congr 1; omega, rfl, by omega, unhide HQ, HK⟩
      case measure => simp only [intOf]; omega
end Go.Proofs.YtobbbhmkcmbekaaDoor.bigs
