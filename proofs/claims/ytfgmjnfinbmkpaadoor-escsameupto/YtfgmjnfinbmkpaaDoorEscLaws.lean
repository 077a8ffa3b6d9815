/- The walks of the laws on texts between quotes: they come back; what is said is told anew; keys. -/
import Derived.Test.YtfgmjnfinbmkpaaDoorEscMore
set_option linter.unusedVariables false
namespace Go.Proofs.YtfgmjnfinbmkpaaDoor.escs
open Go.RowKit
open utfs
open bigs (u8_eq)

theorem cat_bytes (a : List UInt8) (b : ByteArray) (h : a.length + b.size ≤ 9223372036854775807) (u : World) : (Op.stringOp .add ⟨a.toArray⟩ b).run Tryd.prog u = .ok (.string ⟨(a ++ b.data.toList).toArray⟩) u := by
  have := catL a b.data.toList (by rw [len_list]; exact h) u
  rwa [text_of (s := b) rfl] at this
set_option maxHeartbeats 2000000 in
set_option maxRecDepth 100000 in
theorem lawBackE (w : World) (s t : ByteArray) (hs : s.size ≤ 1048576) (ht : t.size ≤ 1048576) (hT : EscTabs w) :
    Calls Tryd.prog 4 #[.string s, .string t] w fun e w' => e = .returned (.bool true) ∧ Below w.heap.size w w' := by
  have KE := hide (escs_any w)
  have HT := hide hT
  by_cases hb : 0 ≤ bad s.data.toList
  · have KQ := hide (quote_bad s w (by omega) hT.utf hb)
    have HB := hide hb
    clear hT hb
    go_enter Tryd.func4, Tryd.ntmps4
    go_wp2_with fail
    refine (unhide KE).mono ?_
    rintro _ w1 ⟨rfl, hw⟩
    rw [hw]
    clear hw KE
    go_wp2_with fail
    refine (unhide KQ).mono ?_
    rintro _ w1 ⟨rfl, b1⟩
    have KB := hide (bad_any s w1 (by omega) ((unhide HT).below b1).utf)
    have B1 := hide b1
    have i1 := unhide HB
    clear b1 KQ
    generalize bad s.data.toList = v at *
    go_wp2_with fail
    refine (unhide KB).mono ?_
    rintro _ w2 ⟨rfl, b2⟩
    have B2 := hide ((unhide B1).trans (b2.mono (unhide B1).size))
    clear b2 KB B1
    go_wp2
    go_ret
    exact ⟨by simp <;> omega, unhide B2⟩
  · obtain ⟨hl, hsc⟩ := good_runes (l := s.data.toList) (by omega)
    generalize runes s.data.toList = rs at *
    have KQ := hide (quote_good s rs w (by omega) hT.utf hT.bru hl hsc)
    obtain ⟨g1, g2⟩ := quoteL_good hsc
    have hlen := quoteL_len hsc
    rw [← hl, len_list] at hlen
    have hu := unq_back rs t.data.toList hsc
    have es := text_of hl
    clear hT hb
    generalize quoteL rs = Q at *
    have hq : (⟨Q.toArray⟩ : ByteArray).data.toList = Q := rfl
    have hqs : (⟨Q.toArray⟩ : ByteArray).size = Q.length := size_bytes Q
    have a1 := cat_bytes Q t (by omega)
    have hc : (⟨(Q ++ t.data.toList).toArray⟩ : ByteArray).size ≤ 1073741824 := by rw [size_bytes, List.length_append, len_list]; omega
    have HU : Hid (Sum.inr (rs, Q.length) = unq (⟨(Q ++ t.data.toList).toArray⟩ : ByteArray).data.toList) := hide hu.symm
    have KU : ∀ W, EscTabs W → Hid (Calls Tryd.prog 12 #[.string ⟨(Q ++ t.data.toList).toArray⟩] W fun e w' => e = .returned (.tuple #[.string s, .int .i64 ((⟨Q.toArray⟩ : ByteArray).size : Int), .int .i64 0]) ∧ Below W.heap.size W w') := fun W hW => hide (by
      have := unquote_any W _ hc hW.utf _ HU
      simp only [resT, resN, resE] at this
      rw [es, ← hqs] at this
      exact this)
    have KC : ∀ W, Hid (Calls Tryd.prog 18 #[.string ⟨Q.toArray⟩, .string ⟨#[10]⟩] W fun e w' => e = .returned (.bool false) ∧ w' = W) := fun W => hide (by
      have := Tryd.strings_Contains_one ⟨Q.toArray⟩ 10 W
      rw [hq, index_none Q 10 g2] at this
      exact this)
    have KB : ∀ W, EscTabs W → Hid (Calls Tryd.prog 17 #[.string ⟨Q.toArray⟩] W fun e w' => e = .returned (.int .i64 (-1)) ∧ Below W.heap.size W w') := fun W hW => hide (by
      have := bad_any ⟨Q.toArray⟩ W (by omega) hW.utf
      rw [hq, g1] at this
      exact this)
    clear HU hc hu es hq hqs g1 g2 hl hsc
    generalize (⟨Q.toArray⟩ : ByteArray) = q at *
    generalize (⟨(Q ++ t.data.toList).toArray⟩ : ByteArray) = qt at *
    go_enter Tryd.func4, Tryd.ntmps4
    go_wp2_with fail
    refine (unhide KE).mono ?_
    rintro _ w1 ⟨rfl, hw⟩
    rw [hw]
    clear hw KE
    go_wp2_with fail
    refine (unhide KQ).mono ?_
    rintro _ w1 ⟨rfl, b1⟩
    have B1 := hide b1
    clear b1 KQ
    go_wp2_with fail
    refine (unhide (KU w1 ((unhide HT).below (unhide B1)))).mono ?_
    rintro _ w2 ⟨rfl, b2⟩
    have B2 := hide ((unhide B1).trans (b2.mono (unhide B1).size))
    clear b2 B1 KU
    go_wp2_with fail
    refine (unhide (KC w2)).mono ?_
    rintro _ w3 ⟨rfl, hw⟩
    rw [hw]
    clear hw KC
    go_wp2_with fail
    refine (unhide (KB w2 ((unhide HT).below (unhide B2)))).mono ?_
    rintro _ w3 ⟨rfl, b3⟩
    have B3 := hide ((unhide B2).trans (b3.mono (unhide B2).size))
    clear b3 B2 KB
    go_wp2
    go_ret
    exact ⟨rfl, unhide B3⟩
set_option maxHeartbeats 2000000 in
set_option maxRecDepth 100000 in
theorem lawSameE (w : World) (s : ByteArray) (hs : s.size ≤ 1048576) (hT : EscTabs w) :
    Calls Tryd.prog 5 #[.string s] w fun e w' => e = .returned (.bool true) ∧ Below w.heap.size w w' := by
  have KE := hide (escs_any w)
  have HT := hide hT
  have KU := unquote_any w s (by omega) hT.utf _ (hide rfl)
  cases hu : unq s.data.toList with
  | inl e =>
    have he := unq_bad hu
    have ie : (e != 0) = true := by simp only [bne_iff_ne]; omega
    rw [hu] at KU
    simp only [resT, resN, resE] at KU
    have KU := hide KU
    clear hu he hT HT
    go_enter Tryd.func5, Tryd.ntmps5
    go_wp2_with fail
    refine (unhide KE).mono ?_
    rintro _ w1 ⟨rfl, hw⟩
    rw [hw]
    clear hw KE
    go_wp2_with fail
    refine (unhide KU).mono ?_
    rintro _ w1 ⟨rfl, b1⟩
    have B1 := hide b1
    clear b1 KU
    go_wp2
    go_ret
    exact ⟨rfl, unhide B1⟩
  | inr p =>
    obtain ⟨rs, k⟩ := p
    obtain ⟨k2, ks, hsc, kl, k34, e, he⟩ := unq_got hu
    rw [len_list] at ks
    rw [hu] at KU
    simp only [resT, resN, resE] at KU
    have KU := hide KU
    have hlen := quoteL_len hsc
    have hub := unq_back rs [] hsc
    rw [List.append_nil] at hub
    have hq : (⟨(quoteL rs).toArray⟩ : ByteArray).size = (quoteL rs).length := size_bytes _
    have hz : (⟨(enc rs).toArray⟩ : ByteArray).size = (enc rs).length := size_bytes _
    have KQ : ∀ W, EscTabs W → Hid (Calls Tryd.prog 7 #[.string ⟨(enc rs).toArray⟩] W fun e w' => e = .returned (.tuple #[.string ⟨(quoteL rs).toArray⟩, .int .i64 0]) ∧ Below W.heap.size W w') := fun W hW => hide (quote_good _ rs W (by rw [hz]; omega) hW.utf hW.bru rfl hsc)
    have KV : ∀ W, EscTabs W → Hid (Calls Tryd.prog 12 #[.string ⟨(quoteL rs).toArray⟩] W fun e w' => e = .returned (.tuple #[.string ⟨(enc rs).toArray⟩, .int .i64 ((⟨(quoteL rs).toArray⟩ : ByteArray).size : Int), .int .i64 0]) ∧ Below W.heap.size W w') := fun W hW => hide (by
      have := unquote_any W ⟨(quoteL rs).toArray⟩ (by rw [hq]; omega) hW.utf (.inr (rs, (quoteL rs).length)) (hide hub.symm)
      simp only [resT, resN, resE] at this
      rw [← hq] at this
      exact this)
    have KW : ∀ W, EscTabs W → Hid (Calls Tryd.prog 12 #[.string (s.extract 0 (k - 1))] W fun x w' => x = .returned (.tuple #[.string ⟨#[]⟩, .int .i64 0, .int .i64 e]) ∧ Below W.heap.size W w') := fun W hW => hide (by
      exact unquote_any W (s.extract 0 (k - 1)) (by rw [ByteArray.size_extract]; omega) hW.utf (.inl e) (hide (by rw [ext_take]; exact he.symm)))
    have hne := unq_bad he
    have ie : (e != 0) = true := by simp only [bne_iff_ne]; omega
    have hk1 : k - 1 < s.size := by omega
    have e34 : s[k - 1]'hk1 = 34 ↔ (s[k - 1]'hk1).toNat = 34 := u8_eq (s[k - 1]'hk1) 34 (by decide)
    have h34 : s[k - 1]'hk1 = 34 := by
      obtain ⟨h', e'⟩ := byteAt s (k - 1) hk1
      rw [← e', ← k34]
      simp [List.getD, List.getElem?_eq_getElem h']
    have n34 := e34.1 h34
    have b34 : (((s[k - 1]'hk1).toNat : Int) != 34) = false := by rw [show ((s[k - 1]'hk1).toNat : Int) = 34 by omega]; rfl
    clear e34 h34 n34 hne he hub k34 hu hT hsc
    generalize (⟨(quoteL rs).toArray⟩ : ByteArray) = q at *
    generalize (⟨(enc rs).toArray⟩ : ByteArray) = z at *
    obtain ⟨m, rfl⟩ : ∃ m, k = m + 1 := ⟨k - 1, by omega⟩
    have em : m + 1 - 1 = m := by omega
    simp only [em] at b34 KW hk1
    have y1 : IntKind.i64.wrap (((m + 1 : Nat) : Int) - 1) = (m : Int) := by simp [IntKind.wrap, IntKind.bits, IntKind.signed]; omega
    have i2 : ¬ ((m + 1 : Nat) : Int) < 2 := by omega
    have i3 : ¬ ((m + 1 : Nat) : Int) > (s.size : Int) := by omega
    have j0 : (0 : Int) ≤ (m : Int) := by omega
    have j1 : (m : Int) < (s.size : Int) := by omega
    have j2 : (m : Int) ≤ (s.size : Int) := by omega
    go_enter Tryd.func5, Tryd.ntmps5
    go_wp2_with fail
    refine (unhide KE).mono ?_
    rintro _ w1 ⟨rfl, hw⟩
    rw [hw]
    clear hw KE
    go_wp2_with fail
    refine (unhide KU).mono ?_
    rintro _ w1 ⟨rfl, b1⟩
    have B1 := hide b1
    clear b1 KU
    go_wp2_with fail
    refine (unhide (KQ w1 ((unhide HT).below (unhide B1)))).mono ?_
    rintro _ w2 ⟨rfl, b2⟩
    have B2 := hide ((unhide B1).trans (b2.mono (unhide B1).size))
    clear b2 B1 KQ
    go_wp2_with fail
    refine (unhide (KV w2 ((unhide HT).below (unhide B2)))).mono ?_
    rintro _ w3 ⟨rfl, b3⟩
    have B3 := hide ((unhide B2).trans (b3.mono (unhide B2).size))
    clear b3 B2 KV
    go_wp2_with fail
    refine (unhide (KW w3 ((unhide HT).below (unhide B3)))).mono ?_
    rintro _ w4 ⟨rfl, b4⟩
    have B4 := hide ((unhide B3).trans (b4.mono (unhide B3).size))
    clear b4 B3 KW
    go_wp2
    go_ret
    exact ⟨rfl, unhide B4⟩
set_option maxHeartbeats 2000000 in
set_option maxRecDepth 100000 in
theorem lawKeyE (w : World) (s : ByteArray) (hs : s.size ≤ 1048576) (hT : EscTabs w) :
    Calls Tryd.prog 6 #[.string s] w fun e w' => e = .returned (.bool true) ∧ Below w.heap.size w w' := by
  have KE := hide (escs_any w)
  have HT := hide hT
  have KK := key_any w s (by omega) hT
  have KR := fun W => bare_any W s
  cases hb : bareL s.data.toList with
  | true =>
    have e1 : keyT s.data.toList = s.data.toList := by unfold keyT; rw [if_pos hb]
    have e2 : keyE s.data.toList = 0 := by unfold keyE; rw [if_pos hb]
    rw [e1, e2, text_of (s := s) rfl] at KK
    have KB : ∀ W, EscTabs W → Hid (Calls Tryd.prog 17 #[.string s] W fun e w' => e = .returned (.int .i64 (-1)) ∧ Below W.heap.size W w') := fun W hW => hide (by
      have := bad_any s W (by omega) hW.utf
      rw [bare_good hb] at this
      exact this)
    rw [hb] at KR
    have KR := fun W => hide (KR W)
    have KK := hide KK
    clear hT hb e1 e2
    go_enter Tryd.func6, Tryd.ntmps6
    go_wp2_with fail
    refine (unhide KE).mono ?_
    rintro _ w1 ⟨rfl, hw⟩
    rw [hw]
    clear hw KE
    go_wp2_with fail
    refine (unhide KK).mono ?_
    rintro _ w1 ⟨rfl, b1⟩
    have B1 := hide b1
    clear b1 KK
    go_wp2_with fail
    refine (unhide (KR w1)).mono ?_
    rintro _ w2 ⟨rfl, hw⟩
    rw [hw]
    clear hw KR
    go_wp2_with fail
    refine (unhide (KB w1 ((unhide HT).below (unhide B1)))).mono ?_
    rintro _ w2 ⟨rfl, b2⟩
    have B2 := hide ((unhide B1).trans (b2.mono (unhide B1).size))
    clear b2 B1 KB
    go_wp2
    go_ret
    exact ⟨rfl, unhide B2⟩
  | false =>
    rw [hb] at KR
    by_cases hbad : 0 ≤ bad s.data.toList
    · have e1 : keyT s.data.toList = [] := by unfold keyT; rw [if_neg (by rw [hb]; decide), if_pos hbad]
      have e2 : keyE s.data.toList = 3 := by unfold keyE; rw [if_neg (by rw [hb]; decide), if_pos hbad]
      rw [e1, e2] at KK
      have KB : ∀ W, EscTabs W → Hid (Calls Tryd.prog 17 #[.string s] W fun e w' => e = .returned (.int .i64 (bad s.data.toList)) ∧ Below W.heap.size W w') := fun W hW => hide (bad_any s W (by omega) hW.utf)
      have KR := fun W => hide (KR W)
      have KK := hide KK
      clear hT hb e1 e2
      generalize bad s.data.toList = v at *
      go_enter Tryd.func6, Tryd.ntmps6
      go_wp2_with fail
      refine (unhide KE).mono ?_
      rintro _ w1 ⟨rfl, hw⟩
      rw [hw]
      clear hw KE
      go_wp2_with fail
      refine (unhide KK).mono ?_
      rintro _ w1 ⟨rfl, b1⟩
      have B1 := hide b1
      clear b1 KK
      go_wp2_with fail
      refine (unhide (KB w1 ((unhide HT).below (unhide B1)))).mono ?_
      rintro _ w2 ⟨rfl, b2⟩
      have B2 := hide ((unhide B1).trans (b2.mono (unhide B1).size))
      clear b2 B1 KB
      go_wp2_with fail
      refine (unhide (KR w2)).mono ?_
      rintro _ w3 ⟨rfl, hw⟩
      rw [hw]
      clear hw KR
      go_wp2
      go_ret
      exact ⟨by simp <;> omega, unhide B2⟩
    · have e1 : keyT s.data.toList = quoteL (runes s.data.toList) := by unfold keyT; rw [if_neg (by rw [hb]; decide), if_neg hbad]
      have e2 : keyE s.data.toList = 0 := by unfold keyE; rw [if_neg (by rw [hb]; decide), if_neg hbad]
      rw [e1, e2] at KK
      obtain ⟨hl, hsc⟩ := good_runes (l := s.data.toList) (by omega)
      clear e1 e2
      generalize runes s.data.toList = rs at *
      have hlen := quoteL_len hsc
      rw [← hl, len_list] at hlen
      have hub := unq_back rs [] hsc
      rw [List.append_nil] at hub
      have hq : (⟨(quoteL rs).toArray⟩ : ByteArray).size = (quoteL rs).length := size_bytes _
      have es := text_of hl
      have KV : ∀ W, EscTabs W → Hid (Calls Tryd.prog 12 #[.string ⟨(quoteL rs).toArray⟩] W fun e w' => e = .returned (.tuple #[.string s, .int .i64 ((⟨(quoteL rs).toArray⟩ : ByteArray).size : Int), .int .i64 0]) ∧ Below W.heap.size W w') := fun W hW => hide (by
        have := unquote_any W ⟨(quoteL rs).toArray⟩ (by rw [hq]; omega) hW.utf (.inr (rs, (quoteL rs).length)) (hide hub.symm)
        simp only [resT, resN, resE] at this
        rw [← hq, es] at this
        exact this)
      have KR := fun W => hide (KR W)
      have KK := hide KK
      clear hT hb hbad hl hsc hub hq es
      generalize (⟨(quoteL rs).toArray⟩ : ByteArray) = q at *
      go_enter Tryd.func6, Tryd.ntmps6
      go_wp2_with fail
      refine (unhide KE).mono ?_
      rintro _ w1 ⟨rfl, hw⟩
      rw [hw]
      clear hw KE
      go_wp2_with fail
      refine (unhide KK).mono ?_
      rintro _ w1 ⟨rfl, b1⟩
      have B1 := hide b1
      clear b1 KK
      go_wp2_with fail
      refine (unhide (KR w1)).mono ?_
      rintro _ w2 ⟨rfl, hw⟩
      rw [hw]
      clear hw KR
      go_wp2_with fail
      refine (unhide (KV w1 ((unhide HT).below (unhide B1)))).mono ?_
      rintro _ w2 ⟨rfl, b2⟩
      have B2 := hide ((unhide B1).trans (b2.mono (unhide B1).size))
      clear b2 B1 KV
      go_wp2
      go_ret
      exact ⟨rfl, unhide B2⟩
end Go.Proofs.YtfgmjnfinbmkpaaDoor.escs
