/- The walks of package big: divideLong. -/
import Derived.Test.YtobbbhmkcmbekaaDoorWordLong
set_option linter.unusedVariables false
namespace Go.Proofs.YtobbbhmkcmbekaaDoor.bigs
open Go.RowKit

theorem pow_zero_mul (d q : Nat) : d * 4294967296 ^ 0 * q = d * q := by rw [Nat.pow_zero, Nat.mul_one]

set_option maxHeartbeats 8000000 in
set_option maxRecDepth 100000 in
theorem divideLong_any (w : World) (va vb : Value) (m n t : Nat) (hA : WBig w va m) (hB : WBig w vb n) (hnt : (wdig n).length = t + 1) (hle : n ≤ m) (lm : (wdig m).length ≤ 300000) :
    Calls Tryd.prog 111 #[va, vb] w fun e w' => ∃ v1 v2 Q R, e = .returned (.tuple #[v1, v2]) ∧ WSl w' v1 Q ∧ WSl w' v2 R ∧ Words32 Q ∧ Words32 R ∧ Q.length ≤ 400000 ∧ R.length ≤ 400000 ∧ wval Q = m / n ∧ wval R = m % n ∧ Below w.heap.size w w' := by
  obtain ⟨i0, hi, hz0, hz1, hz2⟩ := info_parts infoU
  have hBv := hB
  have hAv := hA
  obtain ⟨aa, ca, rfl, hca, ra⟩ := hA
  obtain ⟨ab, cb, rfl, hcb, rb⟩ := hB
  have hlen := wdig_mono hle
  have hn0 : n ≠ 0 := by intro e; rw [e, wdig_zero] at hnt; simp at hnt
  have hl := wdig_last hn0
  rw [hnt, Nat.add_sub_cancel] at hl
  have hw := words_getD (words_wdig n) t
  obtain ⟨b3, o3, rfl, hb3, hc3⟩ := rb (fun e => hn0 (wdig_nil.1 e))
  have c3 := hc3 t (by omega)
  have K1 := hide (leading_any ((wdig n).getD t 0) w hw)
  obtain ⟨s, hs⟩ : ∃ s, s = 32 - bits ((wdig n).getD t 0) := ⟨_, rfl⟩
  obtain ⟨N1, N2, N3⟩ := norm_len hnt s hs
  rw [← hs] at K1
  have hml := lt_pow_words m
  obtain ⟨a, ha⟩ : ∃ a, (wdig m).length = a + t := ⟨(wdig m).length - t, by omega⟩
  have hst : m * 2 ^ s / 4294967296 ^ a < n * 2 ^ s := long_start N1 N3 (by rw [← ha]; exact hml)
  have K2 := hide (shiftLeft_any w (.slice (some ⟨b3, o3, none⟩) (wdig n).length cb) (wdig n) s ⟨_, cb, rfl, hcb, rb⟩ (words_wdig n) (by omega) (by omega))
  have hDl : (wdig (n * 2 ^ s)).length = t + 1 := by
    have h1 := wdig_len_lt N2
    have h2 : 4294967296 ^ t ≤ n * 2 ^ s := by
      have : 1 * 4294967296 ^ t ≤ 2147483648 * 4294967296 ^ t := Nat.mul_le_mul_right _ (by omega)
      omega
    have h3 := wdig_length_ge h2
    omega
  have hdpos : 0 < n * 2 ^ s := Nat.mul_pos (by omega) (Nat.pow_pos (by omega))
  have hDt : (wdig (n * 2 ^ s)).getD t 0 ≠ 0 := by
    have h := wdig_last (n := n * 2 ^ s) (by omega)
    rwa [hDl, Nat.add_sub_cancel] at h
  have HEND : Hid (∀ r q, r + n * 2 ^ s * q = m * 2 ^ s → r < n * 2 ^ s → q = m / n ∧ r / 2 ^ s = m % n) := fun r q h1 h2 => long_end h1 h2
  rw [wval_wdig] at K2
  have HML := hide (wval_wdig m)
  have HNT := hide hnt
  rw [hnt]
  rw [hnt] at K2
  have e0 : ((t + 1 : Nat) : Int) - 1 = (t : Int) := by omega
  have htl : t ≤ 300000 := by omega
  have hal : a ≤ 300000 := by omega
  have hat : a + t ≤ 300000 := by omega
  have HST := hide hst
  have HN2 := hide N2
  have HHA := hide ha
  clear hc3 rb hcb hlen hl hs N1 N2 hml hst ha hnt
  generalize (wdig n).getD t 0 = bt at *
  go_enter Tryd.func111, Tryd.ntmps111
  go_wp2_with fail
  refine (unhide K1).mono ?_
  rintro e w1 ⟨rfl, rfl⟩
  clear K1
  go_wp2_with fail
  refine (unhide K2).mono ?_
  rintro e w2 ⟨L1, rfl, hL1, sL1, hv1, own1, b2⟩
  have hL1' : L1.length = t + 2 := by omega
  have C3 := hide (wcut_any w2 (some ⟨w1.heap.size, 0, none⟩) L1 L1.length (by omega) (Nat.le_refl _) own1.row sL1)
  have R3 := own1.row.cut sL1
  rw [hv1] at C3 R3
  rw [hDl] at C3
  rw [hL1'] at C3
  rw [hL1']
  clear K2 hv1 sL1 hL1
  go_wp2_with fail
  refine (unhide C3).mono ?_
  rintro e w3 ⟨rfl, rfl⟩
  have K4 := hide (shiftLeft_any w3 (.slice aa (wdig m).length ca) (wdig m) s (hAv.below b2) (words_wdig m) (by omega) (by omega))
  rw [unhide HML] at K4
  clear C3
  go_wp2_with fail
  refine (unhide K4).mono ?_
  rintro e w4 ⟨L2, rfl, hL2, sL2, hv2, own2, b4⟩
  have hs0 : s / 32 = 0 := by omega
  have hL2' : L2.length = a + t + 1 := by rw [hL2, unhide HHA, hs0]
  have hlt1 : w1.heap.size < w3.heap.size := own1.lt
  have R4 := R3.below b4
  have b14 := b2.trans (b4.mono b2.size)
  rw [hL2'] at own2
  rw [hL2']
  clear K4 R3 own1 hL2 hs0 hL1'
  go_wp2_with (at_make; refine wpList_make_full _ rfl _ _ 36 rfl w4.heap.size 40 i0 (.int .u32 0) 1 Tryd.underlying36 hi hz0 hz1 _ _ _ _ a rfl rfl (by omega) (by omega) ?b2 ?b3 ?b4 ?_)
  case b2 => rw [hz2]; omega
  case b3 => unfold maxLen; omega
  case b4 => exact Nat.le_refl _
  intro w5 hown5 hgrow5
  have b45 : Below w4.heap.size w4 w5 := (Below.refl _ w4).grown hgrow5 (Nat.le_refl _) (fun k h => by cases h)
  have own5 : Own w5 w4.heap.size a (List.replicate a 0) := own_made hown5
  have hlt2 : w3.heap.size < w4.heap.size := own2.lt
  have R5 := R4.below b45
  have own25 := own2.below b45
  have b15 := b14.trans (b45.mono b14.size)
  clear hgrow5 hown5 R4 own2 b14 b45 b4 b2
  have HS0 : Hid (wval L2 + n * 2 ^ s * 4294967296 ^ a * wval ((List.replicate a 0).drop a) = m * 2 ^ s) := by
    show _ = _
    rw [List.drop_of_length_le (by simp), show wval [] = 0 from rfl, Nat.mul_zero, Nat.add_zero, hv2]
  have HS1 : Hid (wval (L2.drop a) < n * 2 ^ s) := by
    show _ < _
    rw [wdrop_div _ _ sL2, hv2]
    exact unhide HST
  clear HST hv2
  have HSD := hide (words_wdig (n * 2 ^ s))
  have HVD := hide (wval_wdig (n * 2 ^ s))
  have HMID : Hid (∀ (R : List Nat) (i : Nat), Words32 R → R.length = a + t + 1 → i < a → wval (R.drop (i + 1)) < n * 2 ^ s → R = R.take i ++ ((R.drop i).take (t + 2) ++ (R.drop i).drop (t + 2)) ∧ (R.take i).length = i ∧ ((R.drop i).take (t + 2)).length = t + 2 ∧ Words32 ((R.drop i).take (t + 2)) ∧ wval ((R.drop i).drop (t + 2)) = 0 ∧ wval ((R.drop i).take (t + 2)) < n * 2 ^ s * 4294967296) :=
    fun R i h1 h2 h3 h4 => mid_split h1 (by omega) (unhide HN2) h4
  generalize wdig (n * 2 ^ s) = D at *
  generalize hds : n * 2 ^ s = d at *
  have HDS := hide hds
  clear hds HN2
  generalize hg2 : w3.heap.size = g2 at *
  generalize hg4 : w4.heap.size = g4 at *
  clear hg2 hg4
  go_wp2_with fail
  go_loopw [10] (fun i wr => ∃ (j : Nat) (R Q : List Nat), i = .int .i64 ((j : Int) - 1) ∧ j ≤ a ∧ R.length = a + t + 1 ∧ Q.length = a ∧ Hid (Words32 R) ∧ Hid (Words32 Q) ∧ Hid (wval R + d * 4294967296 ^ j * wval (Q.drop j) = m * 2 ^ s) ∧ Hid (wval (R.drop j) < d) ∧
    Hid (Own wr g2 (a + t + 1) R) ∧ Hid (Own wr g4 a Q) ∧ Hid (RowU wr (some ⟨w1.heap.size, 0, none⟩) D) ∧ Below w1.heap.size w1 wr) (fun i _ => (intOf i + 1).toNat)
  case atStart => exact ⟨a, L2, List.replicate a 0, rfl, Nat.le_refl _, hL2', by simp, sL2, words_zero _, HS0, HS1, own25, own5, R5, b15⟩
  case round =>
    clear own25 own5 R5 b15 HS0 HS1 sL2 hL2'
    obtain ⟨j, R, Q, rfl, hja, hRl, hQl, sR, sQ, hval, hless, hoR, hoQ, hrD, hbw⟩ := hrel
    cases j with
    | zero =>
      have hfin : Hid (wval Q = m / n ∧ wval R / 2 ^ s = m % n) := by
        have h := hval.out
        have h2 := hless.out
        rw [pow_zero_mul, List.drop_zero] at h
        rw [List.drop_zero] at h2
        exact HEND.out _ _ h h2
      have C6 := hide (wcut_any wr (some ⟨g2, 0, none⟩) R (a + t + 1) (by omega) (by omega) (unhide hoR).row sR.out)
      have hw6 : WSl wr (.slice (some ⟨g2, 0, none⟩) (wdig (wval R)).length (a + t + 1)) (wdig (wval R)) := ⟨_, _, rfl, by have := wdig_len_words sR.out; omega, (unhide hoR).row.cut sR.out⟩
      have hl6 : (wdig (wval R)).length ≤ 400000 := by have := wdig_len_words sR.out; omega
      have C7 := hide (shiftRight_any wr _ _ s hw6 (words_wdig _) hl6 (by omega))
      rw [wval_wdig, hfin.out.2] at C7
      have HWQ : Hid (WSl wr (.slice (some ⟨g4, 0, none⟩) a a) Q) := ⟨_, _, by rw [hQl], by omega, (unhide hoQ).row⟩
      rw [hRl] at C6
      clear hval hless hoR hoQ hrD hw6
      generalize (wdig (wval R)).length = lr at *
      go_wp2_with fail
      refine (unhide C6).mono ?_
      rintro e w6 ⟨rfl, rfl⟩
      go_wp2_with fail
      refine (unhide C7).mono ?_
      rintro e w7 ⟨L3, rfl, hL3, sL3, hv3, own3, b7⟩
      have HF : Hid (WSl w7 (.slice (some ⟨w6.heap.size, 0, none⟩) L3.length L3.length) L3) := ⟨_, _, rfl, Nat.le_refl _, own3.row⟩
      have HWQ7 := hide ((unhide HWQ).below b7)
      have b17 := hbw.trans (b7.mono hbw.size)
      have HL3 := hide hL3
      clear own3 C7 C6 hL3
      go_wp2
      go_ret2
      exact ⟨.slice (some ⟨g4, 0, none⟩) a a, .slice (some ⟨w6.heap.size, 0, none⟩) L3.length L3.length, Q, L3, rfl, unhide HWQ7, unhide HF, sQ.out, sL3, by omega, by have := unhide HL3; omega, hfin.out.1, hv3, b17⟩
    | succ i =>
      have e1 : ((i + 1 : Nat) : Int) - 1 = (i : Int) := by omega
      rw [e1]
      obtain ⟨m1, m2, m3, m4, m5, m6⟩ := HMID.out R i sR.out hRl (by omega) hless.out
      have hoR2 := unhide hoR
      rw [m1] at hoR2
      have hne : D ≠ [] → (Value.slice (some ⟨w1.heap.size, 0, none⟩) (t + 1) (t + 2)).ownBlock ≠ some g2 := fun _ e => by
        have e' : some w1.heap.size = some g2 := e
        simp at e'
        omega
      have hwD : WSl wr (.slice (some ⟨w1.heap.size, 0, none⟩) (t + 1) (t + 2)) D := ⟨_, _, by rw [hDl], by omega, unhide hrD⟩
      have KD : ∀ ca', Hid _ := fun ca' => hide (divideOnce_any wr g2 (a + t + 1) i ca' t (R.take i) ((R.drop i).take (t + 2)) ((R.drop i).drop (t + 2)) D _ m2 m3 hDl hDt (by omega) m4 HSD.out (by rw [HVD.out]; exact m6) hoR2 hwD hne)
      have hqW : wval ((R.drop i).take (t + 2)) / wval D < 4294967296 := Nat.div_lt_of_lt_mul (by rw [HVD.out]; exact m6)
      have HNX : Hid (∀ (M' : List Nat) (q : Nat), M'.length = t + 2 → wval M' = wval ((R.drop i).take (t + 2)) % wval D → q = wval ((R.drop i).take (t + 2)) / wval D → wval (R.take i ++ (M' ++ (R.drop i).drop (t + 2))) + d * 4294967296 ^ i * (q + 4294967296 * wval (Q.drop (i + 1))) = m * 2 ^ s ∧ wval ((R.take i ++ (M' ++ (R.drop i).drop (t + 2))).drop i) < d) := fun M' q h1 h2 h3 => by
        rw [HVD.out] at h2 h3
        exact long_next sR.out (by omega) m5 h1 hdpos h2 h3 hval.out
      have HLN : Hid (∀ M' : List Nat, M'.length = t + 2 → (R.take i ++ (M' ++ (R.drop i).drop (t + 2))).length = a + t + 1) := fun M' h => by
        rw [List.length_append, List.length_append, h, m2, List.length_drop, List.length_drop]; omega
      have HWD : Hid (∀ M' : List Nat, Words32 M' → Words32 (R.take i ++ (M' ++ (R.drop i).drop (t + 2)))) := fun M' h => words_append.2 ⟨words_take sR.out _, words_append.2 ⟨h, words_drop (words_drop sR.out _) _⟩⟩
      have HQN : Hid (∀ q, wval ((Q.set i q).drop i) = q + 4294967296 * wval (Q.drop (i + 1))) := fun q => quo_next (by omega)
      have HQS : Hid (∀ q, q < 4294967296 → Words32 (Q.set i q)) := fun q h => words_set sQ.out h
      have i1 : (i : Int) < (a : Int) := by omega
      have i2 : (i : Int) ≤ (i : Int) + ((t : Int) + 1) + 1 := by omega
      have i3 : (i : Int) + ((t : Int) + 1) + 1 ≤ ((a + t + 1 : Nat) : Int) := by omega
      generalize hqq : wval ((R.drop i).take (t + 2)) / wval D = q at *
      have HQQ := hide hqq
      clear hqq m1 m2 m3 m4 m5 m6 hoR hoR2 hval hless sR hwD hne hRl
      go_wp2_with fail
      rw [show i + (t + 1) + 1 - i = t + 2 by omega]
      refine (unhide (KD _)).mono ?_
      rintro e w6 ⟨M', rfl, hM', sM', hvM', own6, hgr6⟩
      have hoQ6 := (unhide hoQ).kept hgr6 (by omega)
      have hrD6 := (unhide hrD).kept hgr6 (fun b o s e => by simp at e; omega)
      have b6 : Below w1.heap.size w1 w6 := hbw.trans (below_of_grown hgr6 (by omega) hbw.size)
      have cQ := hoQ6.cell i (by omega)
      have fQ := hoQ6.froz i
      have hset : Hid (Own (w6.setCell ⟨g4, i, none⟩ (.int .u32 (q : Int))) g4 a (Q.set i q)) := hoQ6.set i q
      have hgr7 : w6.grownBy (w6.setCell ⟨g4, i, none⟩ (.int .u32 (q : Int))) (some g4) := grown_cell (grown_refl _ _) _ _
      have hoR7 := hide (own6.kept hgr7 (by omega))
      have hrD7 := hide (hrD6.kept hgr7 (fun b o s e => by simp at e; omega))
      have b7 : Hid (Below w1.heap.size w1 (w6.setCell ⟨g4, i, none⟩ (.int .u32 (q : Int)))) := b6.setCell (by show w1.heap.size ≤ g4; omega) _
      have HN := hide (HNX.out M' q hM' hvM' rfl)
      have HL := hide (HLN.out M' hM')
      have HWM := hide (HWD.out M' sM')
      clear hoQ6 hrD6 b6 hgr7 own6 hgr6 KD hvM' hM' sM' HNX HLN HWD
      generalize Q.getD i 0 = qz at *
      go_wp2
      go_roundw
      case rel =>
        refine ⟨i, R.take i ++ (M' ++ (R.drop i).drop (t + 2)), Q.set i q, by go_num, by omega, unhide HL, by rw [List.length_set]; exact hQl, unhide HWM, HQS.out q hqW, ?_, (unhide HN).2, unhide hoR7, hset, unhide hrD7, unhide b7⟩
        show _ = _
        rw [HQN.out q]
        exact (unhide HN).1
      case measure => simp only [intOf]; omega
end Go.Proofs.YtobbbhmkcmbekaaDoor.bigs
