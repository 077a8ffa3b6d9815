/- The walk of the law that no code begins within another one. -/
import Derived.Test.YtealhdpieoiikaaDoorSync
set_option linter.unusedVariables false
namespace Go.Proofs.YtealhdpieoiikaaDoor.walks
open Go.RowKit
open plain

theorem next_front (rs : List Int) (hs : ∀ r ∈ rs, sc r = true) (j : Nat) (hj : j < rs.length) :
    nextN ((enc rs).drop (enc (rs.take j)).length) = (Lib.encodeRune rs[j]).length ∧ (enc (rs.take (j + 1))).length = (enc (rs.take j)).length + (Lib.encodeRune rs[j]).length := by
  obtain ⟨e1, e2⟩ := front_step rs hs j hj
  refine ⟨?_, e2⟩
  unfold nextN
  rw [if_neg, e1]
  intro e
  have := congrArg List.length e
  have := front_lt rs j hj
  rw [List.length_drop] at *
  simp only [List.length_nil] at *
  omega

/-- Next at a place where a code begins -/
theorem next_at (s : ByteArray) (rs : List Int) (hl : s.data.toList = enc rs) (hs : ∀ r ∈ rs, sc r = true) (j pos : Nat) (hj : j < rs.length) (hp : pos = (enc (rs.take j)).length) (w : World) (hT : Lib.Utf8Tabs 0 1 w) :
    ∃ n : Nat, 1 ≤ n ∧ n ≤ 4 ∧ pos + n = (enc (rs.take (j + 1))).length ∧ Calls Tryd.prog 9 #[.string (s.extract pos s.size)] w fun e w' => ∃ r, e = .returned (.tuple #[.int .i32 r, .int .i64 n]) ∧ Below w.heap.size w w' := by
  obtain ⟨e1, e2⟩ := next_front rs hs j hj
  have h4 := encodeRune_length rs[j]
  refine ⟨(Lib.encodeRune rs[j]).length, h4.1, h4.2, by omega, ?_⟩
  have h := next_any (s.extract pos s.size) w hT
  rw [ext_drop, hl, hp, e1] at h
  rw [hp]
  exact h.mono fun e w' ⟨a, b⟩ => ⟨_, a, b⟩

theorem bad_join (s t : ByteArray) (rs qs : List Int) (h1 : s.data.toList = enc rs) (h2 : ∀ r ∈ rs, sc r = true) (h3 : t.data.toList = enc qs) (h4 : ∀ r ∈ qs, sc r = true) : bad (s ++ t).data.toList = -1 := by
  rw [ByteArray.data_append, Array.toList_append, h1, h3, ← enc_append]
  exact bad_enc (fun r hr => (List.mem_append.1 hr).elim (h2 r) (h4 r))

set_option maxHeartbeats 2000000 in
set_option maxRecDepth 100000 in
theorem lawSync (s t : ByteArray) (k : Int) (w : World) (hs : s.size ≤ 140737488351232) (ht : t.size ≤ 140737488351232) (hk0 : -9223372036854775808 ≤ k) (hk1 : k ≤ 9223372036854775807) (hT : Lib.Utf8Tabs 0 1 w) :
    Calls Tryd.prog 6 #[.string s, .string t, .int .i64 k] w fun e w' => e = .returned (.bool true) ∧ Below w.heap.size w w' := by
  by_cases hg : bad s.data.toList < 0
  · by_cases hg2 : bad t.data.toList < 0
    · obtain ⟨h1, h2⟩ := good_runes hg
      obtain ⟨h3, h4⟩ := good_runes hg2
      have k1 : bad s.data.toList = -1 := by have := bad_cases s.data.toList; omega
      have k2 : bad t.data.toList = -1 := by have := bad_cases t.data.toList; omega
      have K1 := hide k1
      have K2 := hide k2
      have H1 := hide h1
      have H2 := hide h2
      have H3 := hide h3
      have H4 := hide h4
      clear hg hg2 k1 k2 h1 h2 h3 h4
      generalize runes s.data.toList = rs at *
      generalize runes t.data.toList = qs at *
      go_enter Tryd.func6, Tryd.ntmps6
      go_wp2_with (go_at_call 23; refine (utfs_any _).mono ?_; rintro e w' ⟨rfl, rfl⟩)
      have c1 := bad_any s _ (by omega) hT
      rw [K1.out] at c1
      refine c1.mono ?_
      clear c1
      rintro e w1 ⟨rfl, b1⟩
      go_wp2_with fail
      have c2 := bad_any t w1 (by omega) (Utf8Tabs_below hT b1)
      rw [K2.out] at c2
      refine c2.mono ?_
      clear c2
      rintro e w2 ⟨rfl, b2⟩
      have b12 := b1.trans (b2.mono b1.size)
      go_wp2_with fail
      have c3 := bad_any (s ++ t) w2 (by rw [ByteArray.size_append]; omega) (Utf8Tabs_below hT b12)
      rw [bad_join s t rs qs H1.out H2.out H3.out H4.out] at c3
      refine c3.mono ?_
      clear c3
      rintro e w3 ⟨rfl, b3⟩
      have b13 := b12.trans (b3.mono b12.size)
      have hse : s.size = (enc rs).length := by rw [← len_list, H1.out]
      have HSE := hide hse
      clear hse
      go_wp2_with fail
      go_loopw [7, 8] (fun v i wr => ∃ (pos j : Nat), i = .int .i64 pos ∧ j ≤ rs.length ∧ Hid (pos = (enc (rs.take j)).length) ∧ v = .bool (isB rs j k) ∧ Below w3.heap.size w3 wr) (fun _ i _ => s.size - (intOf i).toNat)
      case atStart => exact ⟨0, 0, rfl, Nat.zero_le _, rfl, rfl, Below.refl _ _⟩
      case round =>
        obtain ⟨pos, j, rfl, hj, hpos, rfl, hbw⟩ := hrel
        have b1w := b13.trans (hbw.mono b13.size)
        have hpl : pos ≤ s.size := by
          have h1 := front_le rs j
          have h2 := hpos.out
          have h3 := HSE.out
          omega
        by_cases hp : pos < s.size
        · have hjl : j < rs.length := by
            by_cases h : j < rs.length
            · exact h
            · have h1 := front_all rs j (by omega)
              have h2 := HSE.out
              have h3 := hpos.out
              omega
          obtain ⟨n, hn1, hn4, hpn, hc⟩ := next_at s rs H1.out H2.out j pos hjl hpos.out wr (Utf8Tabs_below hT b1w)
          have HC := hide hc
          have HP := hide hpn
          have hle : pos + n ≤ s.size := by
            have h1 := front_le rs (j + 1)
            have h2 := HSE.out
            omega
          have hB : Hid (isB rs (j + 1) k = (isB rs j k || ((pos : Int) == k))) := by
            show isB rs (j + 1) k = _
            rw [isB_succ, ← hpos.out]
            congr 1
            exact Bool.eq_iff_iff.2 (by simp; exact eq_comm)
          clear hc hpn
          generalize isB rs j k = B at *
          cases B with
          | true =>
            rw [Bool.true_or] at hB
            go_wp2_with fail
            refine (unhide HC).mono ?_
            rintro e w4 ⟨r, rfl, b4⟩
            go_wp2_with fail
            go_roundw
            case rel => exact ⟨pos + n, j + 1, by go_num, by omega, HP, by rw [hB.out], hbw.trans (b4.mono hbw.size)⟩
            case measure => simp [intOf]; omega
          | false =>
            rw [Bool.false_or] at hB
            go_wp2_with fail
            refine (unhide HC).mono ?_
            rintro e w4 ⟨r, rfl, b4⟩
            go_wp2_with fail
            go_roundw
            case rel => exact ⟨pos + n, j + 1, by go_num, by omega, HP, by rw [hB.out], hbw.trans (b4.mono hbw.size)⟩
            case measure => simp [intOf]; omega
        · have hjl : j = rs.length := by
            by_cases h : j < rs.length
            · have h1 := front_lt rs j h
              have h2 := HSE.out
              have h3 := hpos.out
              omega
            · omega
          subst hjl
          by_cases hk : 0 ≤ k ∧ k < s.size
          · obtain ⟨m, rfl⟩ := Int.eq_ofNat_of_zero_le hk.1
            have hm : m < s.size := by omega
            have hm' : m < (enc rs).length := by have := HSE.out; omega
            have f1 := sync_drop rs H2.out m hm'
            have f2 := sync_take rs H2.out m hm'
            rw [← H1.out] at f1 f2
            have c5 := fun w => bad_any (s.extract m s.size) w (by rw [ByteArray.size_extract]; omega)
            have c6 := fun w => bad_any (s.extract 0 m) w (by rw [ByteArray.size_extract]; omega)
            simp only [ext_drop, ext_take] at c5 c6
            have C5 := hide c5
            have C6 := hide c6
            clear hk c5 c6
            have HT := hide (Utf8Tabs_below hT b1w)
            generalize isB rs rs.length (m : Int) = B at *
            generalize bad (s.data.toList.drop m) = x5 at *
            generalize bad (s.data.toList.take m) = x6 at *
            cases B with
            | true =>
              have g1 : x5 < 0 := f1.2 rfl
              have g2 : x6 < 0 := f2.2 rfl
              have t1 : decide (x5 < 0) = true := decide_eq_true g1
              have t2 : decide (x6 < 0) = true := decide_eq_true g2
              clear f1 f2
              go_wp2_with fail
              refine (unhide C5 _ HT.out).mono ?_
              rintro e w5 ⟨rfl, b5⟩
              go_wp2_with fail
              refine (unhide C6 _ (Utf8Tabs_below HT.out b5)).mono ?_
              rintro e w6 ⟨rfl, b6⟩
              go_wp2_with fail
              go_ret
              exact ⟨rfl, (b1w.trans (b5.mono b1w.size)).trans (b6.mono (b1w.trans (b5.mono b1w.size)).size)⟩
            | false =>
              have g1 : ¬ x5 < 0 := fun h => by have := f1.1 h; cases this
              have g2 : ¬ x6 < 0 := fun h => by have := f2.1 h; cases this
              have t1 : decide (x5 < 0) = false := decide_eq_false g1
              have t2 : decide (x6 < 0) = false := decide_eq_false g2
              clear f1 f2
              go_wp2_with fail
              refine (unhide C5 _ HT.out).mono ?_
              rintro e w5 ⟨rfl, b5⟩
              go_wp2_with fail
              refine (unhide C6 _ (Utf8Tabs_below HT.out b5)).mono ?_
              rintro e w6 ⟨rfl, b6⟩
              go_wp2_with fail
              go_ret
              exact ⟨rfl, (b1w.trans (b5.mono b1w.size)).trans (b6.mono (b1w.trans (b5.mono b1w.size)).size)⟩
          · by_cases hk2 : k < 0
            · go_wp2_with fail
              go_ret
              exact ⟨rfl, b1w⟩
            · have hk3 : (s.size : Int) ≤ k := by omega
              clear hk
              go_wp2_with fail
              go_ret
              exact ⟨rfl, b1w⟩
    · have hg2' := Int.not_lt.1 hg2
      have k1 : bad s.data.toList = -1 := by have := bad_cases s.data.toList; omega
      have K1 := hide k1
      clear hg2 hg k1
      go_enter Tryd.func6, Tryd.ntmps6
      go_wp2_with (go_at_call 23; refine (utfs_any _).mono ?_; rintro e w' ⟨rfl, rfl⟩)
      have c1 := bad_any s _ (by omega) hT
      rw [K1.out] at c1
      refine c1.mono ?_
      clear c1
      rintro e w1 ⟨rfl, b1⟩
      go_wp2_with fail
      refine (bad_any t w1 (by omega) (Utf8Tabs_below hT b1)).mono ?_
      rintro e w2 ⟨rfl, b2⟩
      have b12 := b1.trans (b2.mono b1.size)
      go_wp2_with fail
      go_ret
      exact ⟨rfl, b12⟩
  · have hg' := Int.not_lt.1 hg
    clear hg
    go_enter Tryd.func6, Tryd.ntmps6
    go_wp2_with (go_at_call 23; refine (utfs_any _).mono ?_; rintro e w' ⟨rfl, rfl⟩)
    refine (bad_any s _ (by omega) hT).mono ?_
    rintro e w1 ⟨rfl, b1⟩
    go_wp2_with fail
    go_ret
    exact ⟨rfl, b1⟩
end Go.Proofs.YtealhdpieoiikaaDoor.walks
