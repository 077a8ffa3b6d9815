/- The walk of the law that esc answers what the document says. -/
import Derived.Test.YtfgmjnfinbmkpaaDoorEscRefU
set_option linter.unusedVariables false
namespace Go.Proofs.YtfgmjnfinbmkpaaDoor.escs
open Go.RowKit
open utfs

theorem resT_len {q : List UInt8} {R : Res} (h : R = unq q) : (resT R).length ≤ q.length := by
  subst h
  cases hu : unq q with
  | inl e => simp [resT]
  | inr p =>
    obtain ⟨rs, k⟩ := p
    obtain ⟨_, a, _, b, _⟩ := unq_got hu
    simp only [resT]
    omega
set_option maxHeartbeats 4000000 in
set_option maxRecDepth 100000 in
theorem lawTellsE (w : World) (s q : ByteArray) (hs : s.size ≤ 1048576) (hq : q.size ≤ 1048576) (hT : EscTabs w) :
    Calls Tryd.prog 3 #[.string s, .string q] w fun e w' => e = .returned (.bool true) ∧ Below w.heap.size w w' := by
  have HT := hide hT
  have KQ := hide (quote_any w s (by omega) hT)
  have KK := fun W hW => hide (key_any W s (by omega) hW)
  have KP := fun W => hide (badPlace_any s W (by omega))
  have KB := fun W => hide (bare_any W s)
  have KR := fun W => hide (bareR_any W s (by omega))
  have KU := fun W (hW : EscTabs W) => hide (unquote_any W q (by omega) hW.utf _ (hide rfl))
  have KV := fun W => hide (unquoted_any W q (by omega) _ (hide rfl))
  have ER : ∀ R, R = unq q.data.toList → (resE R = 0 ∨ (resE R ≠ 0 ∧ (⟨(resT R).toArray⟩ : ByteArray) = ⟨#[]⟩ ∧ resN R = 0)) := fun R h => by
    cases R with
    | inl e => right; have := unq_bad h.symm; exact ⟨by simp only [resE]; omega, rfl, rfl⟩
    | inr p => exact .inl rfl
  have ER := ER _ rfl
  generalize unq q.data.toList = R at *
  generalize hrt : (⟨(resT R).toArray⟩ : ByteArray) = rt at *
  generalize resN R = rn at *
  generalize resE R = re at *
  clear hT hrt
  by_cases hb : 0 ≤ bad s.data.toList
  · have q1 : quoT s.data.toList = [] := by unfold quoT; rw [if_pos hb]
    have q2 : quoE s.data.toList = 3 := by unfold quoE; rw [if_pos hb]
    have hnb : bareL s.data.toList = false := by
      cases h : bareL s.data.toList with
      | false => rfl
      | true => have := bare_good h; omega
    have k1 : keyT s.data.toList = [] := by unfold keyT; rw [if_neg (by rw [hnb]; decide), if_pos hb]
    have k2 : keyE s.data.toList = 3 := by unfold keyE; rw [if_neg (by rw [hnb]; decide), if_pos hb]
    rw [q1, q2] at KQ
    simp only [k1, k2] at KK
    rw [hnb] at KB KR
    clear q1 q2 k1 k2 hnb
    generalize bad s.data.toList = v at *
    rcases ER with e0 | ⟨e0, e1, e2⟩
    · skip
      subst e0
      go_enter Tryd.func3, Tryd.ntmps3
      go_wp2_with fail
      refine (unhide (KQ)).mono ?_
      rintro _ w1 ⟨rfl, b1⟩
      have B1 := hide b1
      clear b1
      go_wp2_with fail
      refine (unhide (KK w1 ((unhide HT).below (unhide B1)))).mono ?_
      rintro _ w2 ⟨rfl, b2⟩
      have B2 := hide ((unhide B1).trans (b2.mono (unhide B1).size))
      clear b2
      go_wp2_with fail
      refine (unhide (KP w2)).mono ?_
      rintro _ w3 ⟨rfl, b3⟩
      have B3 := hide ((unhide B2).trans (b3.mono (unhide B2).size))
      clear b3
      go_wp2_with fail
      refine (unhide (KU w3 ((unhide HT).below (unhide B3)))).mono ?_
      rintro _ w4 ⟨rfl, b4⟩
      have B4 := hide ((unhide B3).trans (b4.mono (unhide B3).size))
      clear b4
      go_wp2_with fail
      refine (unhide (KV w4)).mono ?_
      rintro _ w5 ⟨rfl, b5⟩
      have B5 := hide ((unhide B4).trans (b5.mono (unhide B4).size))
      clear b5
      go_wp2_with fail
      refine (unhide (KB w5)).mono ?_
      rintro _ wx ⟨rfl, hw⟩
      rw [hw]
      clear hw
      go_wp2_with fail
      refine (unhide (KR w5)).mono ?_
      rintro _ wx ⟨rfl, hw⟩
      rw [hw]
      clear hw
      go_wp2
      go_ret
      exact ⟨by first | rfl | simp, unhide B5⟩
    · skip
      have ie : (re != 0) = true := by simp only [bne_iff_ne]; exact e0
      subst e1
      subst e2
      clear e0
      go_enter Tryd.func3, Tryd.ntmps3
      go_wp2_with fail
      refine (unhide (KQ)).mono ?_
      rintro _ w1 ⟨rfl, b1⟩
      have B1 := hide b1
      clear b1
      go_wp2_with fail
      refine (unhide (KK w1 ((unhide HT).below (unhide B1)))).mono ?_
      rintro _ w2 ⟨rfl, b2⟩
      have B2 := hide ((unhide B1).trans (b2.mono (unhide B1).size))
      clear b2
      go_wp2_with fail
      refine (unhide (KP w2)).mono ?_
      rintro _ w3 ⟨rfl, b3⟩
      have B3 := hide ((unhide B2).trans (b3.mono (unhide B2).size))
      clear b3
      go_wp2_with fail
      refine (unhide (KU w3 ((unhide HT).below (unhide B3)))).mono ?_
      rintro _ w4 ⟨rfl, b4⟩
      have B4 := hide ((unhide B3).trans (b4.mono (unhide B3).size))
      clear b4
      go_wp2_with fail
      refine (unhide (KV w4)).mono ?_
      rintro _ w5 ⟨rfl, b5⟩
      have B5 := hide ((unhide B4).trans (b5.mono (unhide B4).size))
      clear b5
      go_wp2_with fail
      refine (unhide (KB w5)).mono ?_
      rintro _ wx ⟨rfl, hw⟩
      rw [hw]
      clear hw
      go_wp2_with fail
      refine (unhide (KR w5)).mono ?_
      rintro _ wx ⟨rfl, hw⟩
      rw [hw]
      clear hw
      go_wp2
      go_ret
      exact ⟨by first | rfl | simp, unhide B5⟩
  · have q1 : quoT s.data.toList = quoteL (runes s.data.toList) := by unfold quoT; rw [if_neg hb]
    have q2 : quoE s.data.toList = 0 := by unfold quoE; rw [if_neg hb]
    have k2 : keyE s.data.toList = 0 := by unfold keyE; rw [if_neg hb, ite_self]
    obtain ⟨hl, hsc⟩ := good_runes (l := s.data.toList) (by omega)
    have KX := fun W => hide (quoted_any W s _ hs hl hsc)
    have KY := fun W => hide (keyText_any W s hs (by omega))
    rw [q1, q2] at KQ
    simp only [k2] at KK
    clear q1 q2 k2 hl hsc
    generalize (⟨(quoteL (runes s.data.toList)).toArray⟩ : ByteArray) = qt at *
    generalize (⟨(keyT s.data.toList).toArray⟩ : ByteArray) = kt at *
    generalize bareL s.data.toList = bb at *
    generalize bad s.data.toList = v at *
    rcases ER with e0 | ⟨e0, e1, e2⟩
    · skip
      subst e0
      go_enter Tryd.func3, Tryd.ntmps3
      go_wp2_with fail
      refine (unhide (KQ)).mono ?_
      rintro _ w1 ⟨rfl, b1⟩
      have B1 := hide b1
      clear b1
      go_wp2_with fail
      refine (unhide (KK w1 ((unhide HT).below (unhide B1)))).mono ?_
      rintro _ w2 ⟨rfl, b2⟩
      have B2 := hide ((unhide B1).trans (b2.mono (unhide B1).size))
      clear b2
      go_wp2_with fail
      refine (unhide (KP w2)).mono ?_
      rintro _ w3 ⟨rfl, b3⟩
      have B3 := hide ((unhide B2).trans (b3.mono (unhide B2).size))
      clear b3
      go_wp2_with fail
      refine (unhide (KX w3)).mono ?_
      rintro _ w4 ⟨rfl, b4⟩
      have B4 := hide ((unhide B3).trans (b4.mono (unhide B3).size))
      clear b4
      go_wp2_with fail
      refine (unhide (KY w4)).mono ?_
      rintro _ w5 ⟨rfl, b5⟩
      have B5 := hide ((unhide B4).trans (b5.mono (unhide B4).size))
      clear b5
      go_wp2_with fail
      refine (unhide (KU w5 ((unhide HT).below (unhide B5)))).mono ?_
      rintro _ w6 ⟨rfl, b6⟩
      have B6 := hide ((unhide B5).trans (b6.mono (unhide B5).size))
      clear b6
      go_wp2_with fail
      refine (unhide (KV w6)).mono ?_
      rintro _ w7 ⟨rfl, b7⟩
      have B7 := hide ((unhide B6).trans (b7.mono (unhide B6).size))
      clear b7
      go_wp2_with fail
      refine (unhide (KB w7)).mono ?_
      rintro _ wx ⟨rfl, hw⟩
      rw [hw]
      clear hw
      go_wp2_with fail
      refine (unhide (KR w7)).mono ?_
      rintro _ wx ⟨rfl, hw⟩
      rw [hw]
      clear hw
      go_wp2
      go_ret
      exact ⟨by first | rfl | simp, unhide B7⟩
    · skip
      have ie : (re != 0) = true := by simp only [bne_iff_ne]; exact e0
      subst e1
      subst e2
      clear e0
      go_enter Tryd.func3, Tryd.ntmps3
      go_wp2_with fail
      refine (unhide (KQ)).mono ?_
      rintro _ w1 ⟨rfl, b1⟩
      have B1 := hide b1
      clear b1
      go_wp2_with fail
      refine (unhide (KK w1 ((unhide HT).below (unhide B1)))).mono ?_
      rintro _ w2 ⟨rfl, b2⟩
      have B2 := hide ((unhide B1).trans (b2.mono (unhide B1).size))
      clear b2
      go_wp2_with fail
      refine (unhide (KP w2)).mono ?_
      rintro _ w3 ⟨rfl, b3⟩
      have B3 := hide ((unhide B2).trans (b3.mono (unhide B2).size))
      clear b3
      go_wp2_with fail
      refine (unhide (KX w3)).mono ?_
      rintro _ w4 ⟨rfl, b4⟩
      have B4 := hide ((unhide B3).trans (b4.mono (unhide B3).size))
      clear b4
      go_wp2_with fail
      refine (unhide (KY w4)).mono ?_
      rintro _ w5 ⟨rfl, b5⟩
      have B5 := hide ((unhide B4).trans (b5.mono (unhide B4).size))
      clear b5
      go_wp2_with fail
      refine (unhide (KU w5 ((unhide HT).below (unhide B5)))).mono ?_
      rintro _ w6 ⟨rfl, b6⟩
      have B6 := hide ((unhide B5).trans (b6.mono (unhide B5).size))
      clear b6
      go_wp2_with fail
      refine (unhide (KV w6)).mono ?_
      rintro _ w7 ⟨rfl, b7⟩
      have B7 := hide ((unhide B6).trans (b7.mono (unhide B6).size))
      clear b7
      go_wp2_with fail
      refine (unhide (KB w7)).mono ?_
      rintro _ wx ⟨rfl, hw⟩
      rw [hw]
      clear hw
      go_wp2_with fail
      refine (unhide (KR w7)).mono ?_
      rintro _ wx ⟨rfl, hw⟩
      rw [hw]
      clear hw
      go_wp2
      go_ret
      exact ⟨by first | rfl | simp, unhide B7⟩
end Go.Proofs.YtfgmjnfinbmkpaaDoor.escs
