/- The walks of the document's letter, isDigit, Bare, KeyText. -/
import Derived.Test.YtfgmjnfinbmkpaaDoorEscRefQ
set_option linter.unusedVariables false
namespace Go.Proofs.YtfgmjnfinbmkpaaDoor.escs
open Go.RowKit
open utfs

def isL (n : Nat) : Bool := decide ((97 ≤ n ∧ n ≤ 122) ∨ (65 ≤ n ∧ n ≤ 90))
def isD (n : Nat) : Bool := decide (48 ≤ n ∧ n ≤ 57)
set_option maxHeartbeats 4000000 in
set_option maxRecDepth 100000 in
theorem letter_any (w : World) (n : Nat) (hn : n < 256) :
    Calls Tryd.prog 32 #[.int .u8 (n : Int)] w fun e w' => e = .returned (.bool (isL n)) ∧ w' = w := by
  have key : ∀ b : Bool, isL n = b → Calls Tryd.prog 32 #[.int .u8 (n : Int)] w (fun e w' => e = .returned (.bool b) ∧ w' = w) → Calls Tryd.prog 32 #[.int .u8 (n : Int)] w (fun e w' => e = .returned (.bool (isL n)) ∧ w' = w) := fun b e h => by rw [e]; exact h
  by_cases i1 : (n : Int) ≥ 97
  · by_cases i2 : (n : Int) ≤ 122
    · refine key true (decide_eq_true (by omega)) ?_
      clear key
      go_enter Tryd.func32, Tryd.ntmps32
      go_wp2
      go_ret
      exact ⟨rfl, rfl⟩
    · refine key false (decide_eq_false (by omega)) ?_
      clear key
      have i3 : (n : Int) ≥ 65 := by omega
      have i4 : ¬ (n : Int) ≤ 90 := by omega
      have t4 : decide ((n : Int) ≤ 90) = false := decide_eq_false i4
      go_enter Tryd.func32, Tryd.ntmps32
      go_wp2
      go_ret
      exact ⟨rfl, rfl⟩
  · by_cases i3 : (n : Int) ≥ 65
    · by_cases i4 : (n : Int) ≤ 90
      · refine key true (decide_eq_true (by omega)) ?_
        clear key
        have t4 : decide ((n : Int) ≤ 90) = true := decide_eq_true i4
        go_enter Tryd.func32, Tryd.ntmps32
        go_wp2
        go_ret
        exact ⟨rfl, rfl⟩
      · refine key false (decide_eq_false (by omega)) ?_
        clear key
        have t4 : decide ((n : Int) ≤ 90) = false := decide_eq_false i4
        go_enter Tryd.func32, Tryd.ntmps32
        go_wp2
        go_ret
        exact ⟨rfl, rfl⟩
    · refine key false (decide_eq_false (by omega)) ?_
      clear key
      go_enter Tryd.func32, Tryd.ntmps32
      go_wp2
      go_ret
      exact ⟨rfl, rfl⟩
set_option maxHeartbeats 4000000 in
set_option maxRecDepth 100000 in
theorem isDigitE (w : World) (s : ByteArray) (i : Nat) (h : i < s.size) (hs : s.size ≤ 1073741824) :
    Calls Tryd.prog 33 #[.string s, .int .i64 i] w fun e w' => e = .returned (.bool (isD (s[i]'h).toNat)) ∧ w' = w := by
  have key : ∀ b : Bool, isD (s[i]'h).toNat = b → Calls Tryd.prog 33 #[.string s, .int .i64 i] w (fun e w' => e = .returned (.bool b) ∧ w' = w) → Calls Tryd.prog 33 #[.string s, .int .i64 i] w (fun e w' => e = .returned (.bool (isD (s[i]'h).toNat)) ∧ w' = w) := fun b e h => by rw [e]; exact h
  have t : (i : Int) < (s.size : Int) := by omega
  have t0 : (0 : Int) ≤ (i : Int) := by omega
  by_cases h1 : 48 ≤ (s[i]'h).toNat
  · by_cases h2 : (s[i]'h).toNat ≤ 57
    · refine key true (decide_eq_true ⟨h1, h2⟩) ?_
      clear key
      have t3 : decide ((((s[i]'h).toNat : Nat) : Int) ≤ 57) = true := decide_eq_true (by omega)
      go_enter Tryd.func33, Tryd.ntmps33
      go_wp2
      go_ret
      exact ⟨rfl, rfl⟩
    · refine key false (decide_eq_false (by omega)) ?_
      clear key
      have t3 : decide ((((s[i]'h).toNat : Nat) : Int) ≤ 57) = false := decide_eq_false (by omega)
      go_enter Tryd.func33, Tryd.ntmps33
      go_wp2
      go_ret
      exact ⟨rfl, rfl⟩
  · refine key false (decide_eq_false (by omega)) ?_
    clear key
    go_enter Tryd.func33, Tryd.ntmps33
    go_wp2
    go_ret
    exact ⟨rfl, rfl⟩
theorem opK_eq (n : Nat) : opK n = (isL n || decide (n = 95)) := by
  unfold opK isL
  rw [← Bool.decide_or]
  exact decide_eq_decide.2 (by omega)
theorem inK_eq (n : Nat) : inK n = (isL n || decide (n = 95) || decide (n = 45) || isD n) := by
  unfold inK
  rw [opK_eq]
  cases isL n <;> cases h95 : decide (n = 95) <;> simp [isD]
  rw [Bool.or_comm]
theorem bare_val {s : ByteArray} (h : isV s.data.toList = true) : bareL s.data.toList = false := by
  unfold bareL
  rw [h]
  simp
set_option maxHeartbeats 4000000 in
set_option maxRecDepth 100000 in
theorem bareR_any (w : World) (s : ByteArray) (hs : s.size ≤ 1073741824) :
    Calls Tryd.prog 15 #[.string s] w fun e w' => e = .returned (.bool (bareL s.data.toList)) ∧ w' = w := by
  by_cases h0 : s.size = 0
  · rw [bare_size (.inl h0)]
    have i1 : (s.size : Int) < 1 := by omega
    clear h0
    go_enter Tryd.func15, Tryd.ntmps15
    go_wp2
    go_ret
    exact ⟨rfl, rfl⟩
  · have i1 : ¬ (s.size : Int) < 1 := by omega
    have hp : 0 < s.size := by omega
    clear h0
    by_cases h1 : 100 < s.size
    · rw [bare_size (.inr h1)]
      have i2 : (s.size : Int) > 100 := by omega
      go_enter Tryd.func15, Tryd.ntmps15
      go_wp2
      go_ret
      exact ⟨rfl, rfl⟩
    · have i2 : ¬ (s.size : Int) > 100 := by omega
      have hs100 : s.size ≤ 100 := by omega
      clear h1
      have hv : isV s.data.toList = isV s.toList := by rw [ByteArray.toList_eq]
      cases v0 : s.toList == [110, 117, 108, 108] with
      | true =>
        rw [bare_val (by rw [hv]; unfold isV; rw [v0]; rfl)]
        clear hv
        go_enter Tryd.func15, Tryd.ntmps15
        go_wp2
        go_ret
        exact ⟨rfl, rfl⟩
      | false =>
        cases v1 : s.toList == [116, 114, 117, 101] with
        | true =>
          rw [bare_val (by rw [hv]; unfold isV; rw [v0, v1]; rfl)]
          clear hv
          go_enter Tryd.func15, Tryd.ntmps15
          go_wp2
          go_ret
          exact ⟨rfl, rfl⟩
        | false =>
          cases v2 : s.toList == [102, 97, 108, 115, 101] with
          | true =>
            rw [bare_val (by rw [hv]; unfold isV; rw [v0, v1, v2]; rfl)]
            clear hv
            go_enter Tryd.func15, Tryd.ntmps15
            go_wp2
            go_ret
            exact ⟨rfl, rfl⟩
          | false =>
            cases v3 : s.toList == [110, 97, 110] with
            | true =>
              rw [bare_val (by rw [hv]; unfold isV; rw [v0, v1, v2, v3]; rfl)]
              clear hv
              go_enter Tryd.func15, Tryd.ntmps15
              go_wp2
              go_ret
              exact ⟨rfl, rfl⟩
            | false =>
              cases v4 : s.toList == [105, 110, 102] with
              | true =>
                rw [bare_val (by rw [hv]; unfold isV; rw [v0, v1, v2, v3, v4]; rfl)]
                clear hv
                go_enter Tryd.func15, Tryd.ntmps15
                go_wp2
                go_ret
                exact ⟨rfl, rfl⟩
              | false =>
                have nv : isV s.data.toList = false := by rw [hv]; unfold isV; rw [v0, v1, v2, v3, v4]; rfl
                have BY := hide (bare_yes hp hs100)
                rw [nv] at BY
                clear hv nv
                go_enter Tryd.func15, Tryd.ntmps15
                go_wp2_with fail
                go_loopw [3] (fun i wr => ∃ k : Nat, k ≤ s.size ∧ i = .int .i64 k ∧ Hid ((s.data.toList.take k).all (fun c => inK c.toNat) = true) ∧ Hid (0 < k → opK (s[0]'hp).toNat = true) ∧ wr = w) (fun i _ => s.size - (intOf i).toNat)
                case atStart => exact ⟨0, Nat.zero_le _, rfl, rfl, fun h => absurd h (by omega), rfl⟩
                case round =>
                  obtain ⟨k, hk, rfl, hall, hop, hw⟩ := hrel
                  subst hw
                  by_cases hlt : k < s.size
                  · have i3 : (k : Int) < (s.size : Int) := by omega
                    have j0 : (0 : Int) ≤ (k : Int) := by omega
                    have KL := hide (letter_any wr (s[k]'hlt).toNat (UInt8.toNat_lt _))
                    have KD := hide (isDigitE wr s k hlt hs)
                    have BI := hide (bare_in hlt)
                    have AM := hide (all_more hlt (unhide hall))
                    have eo := opK_eq (s[k]'hlt).toNat
                    have ei := inK_eq (s[k]'hlt).toNat
                    have OP : Hid (opK (s[k]'hlt).toNat = true → 0 < k + 1 → opK (s[0]'hp).toNat = true) := hide (fun h _ => by
                      by_cases k0 : k = 0
                      · subst k0; exact h
                      · exact unhide hop (by omega))
                    have BO : Hid (k = 0 → opK (s[k]'hlt).toNat = false → bareL s.data.toList = false) := hide (fun k0 h => by
                      subst k0; exact bare_open hp h)
                    have u := UInt8.toNat_lt (s[k]'hlt)
                    generalize opK (s[k]'hlt).toNat = ok at *
                    generalize inK (s[k]'hlt).toNat = ik at *
                    generalize isL (s[k]'hlt).toNat = lk at *
                    generalize isD (s[k]'hlt).toNat = dk at *
                    cases lk with
                    | true =>
                      rw [Bool.true_or] at eo
                      rw [Bool.true_or, Bool.true_or, Bool.true_or] at ei
                      have A2 := hide (unhide AM ei)
                      have O2 := hide (unhide OP eo)
                      clear BI AM BO OP hall hop eo ei KD BY
                      go_wp2_with fail
                      refine (unhide KL).mono ?_
                      rintro _ w2 ⟨rfl, hw⟩
                      rw [hw]
                      clear hw KL
                      go_wp2
                      go_roundw
                      case rel => exact ⟨k + 1, by omega, by go_num, A2, O2, by first | rfl | trivial⟩
                      case measure => simp [intOf]; omega
                    | false =>
                      rw [Bool.false_or] at eo
                      rw [Bool.false_or] at ei
                      by_cases c95 : (s[k]'hlt).toNat = 95
                      · rw [decide_eq_true c95] at eo ei
                        rw [Bool.true_or, Bool.true_or] at ei
                        have A2 := hide (unhide AM ei)
                        have O2 := hide (unhide OP eo)
                        have b95 : (((s[k]'hlt).toNat : Int) == 95) = true := by rw [show ((s[k]'hlt).toNat : Int) = 95 by omega]; rfl
                        clear BI AM BO OP hall hop eo ei KD BY c95
                        go_wp2_with fail
                        refine (unhide KL).mono ?_
                        rintro _ w2 ⟨rfl, hw⟩
                        rw [hw]
                        clear hw KL
                        go_wp2
                        go_roundw
                        case rel => exact ⟨k + 1, by omega, by go_num, A2, O2, by first | rfl | trivial⟩
                        case measure => simp [intOf]; omega
                      · rw [decide_eq_false c95] at eo ei
                        rw [Bool.false_or] at ei
                        have b95 : (((s[k]'hlt).toNat : Int) == 95) = false := beq_false_of_ne (by omega)
                        by_cases k0 : k = 0
                        · have F := hide (unhide BO k0 eo)
                          have bk : ((k : Int) == 0) = true := by rw [k0]; rfl
                          clear BI AM BO OP hall hop eo ei KD BY c95 k0
                          go_wp2_with fail
                          refine (unhide KL).mono ?_
                          rintro _ w2 ⟨rfl, hw⟩
                          rw [hw]
                          clear hw KL
                          go_wp2
                          go_ret
                          rw [unhide F]
                          exact ⟨rfl, rfl⟩
                        · have bk : ((k : Int) == 0) = false := beq_false_of_ne (by omega)
                          have O2 : Hid (0 < k + 1 → opK (s[0]'hp).toNat = true) := hide (fun _ => unhide hop (by omega))
                          by_cases c45 : (s[k]'hlt).toNat = 45
                          · rw [decide_eq_true c45, Bool.true_or] at ei
                            have A2 := hide (unhide AM ei)
                            have b45 : (((s[k]'hlt).toNat : Int) != 45) = false := by rw [show ((s[k]'hlt).toNat : Int) = 45 by omega]; rfl
                            clear BI AM BO OP hall hop eo ei KD BY c95 k0 c45
                            go_wp2_with fail
                            refine (unhide KL).mono ?_
                            rintro _ w2 ⟨rfl, hw⟩
                            rw [hw]
                            clear hw KL
                            go_wp2
                            go_roundw
                            case rel => exact ⟨k + 1, by omega, by go_num, A2, O2, by first | rfl | trivial⟩
                            case measure => simp [intOf]; omega
                          · rw [decide_eq_false c45, Bool.false_or] at ei
                            have b45 : (((s[k]'hlt).toNat : Int) != 45) = true := by simp only [bne_iff_ne]; omega
                            cases dk with
                            | true =>
                              have A2 := hide (unhide AM ei)
                              clear BI AM BO OP hall hop eo ei BY c95 k0 c45
                              go_wp2_with fail
                              refine (unhide KL).mono ?_
                              rintro _ w2 ⟨rfl, hw⟩
                              rw [hw]
                              clear hw KL
                              go_wp2_with fail
                              refine (unhide KD).mono ?_
                              rintro _ w2 ⟨rfl, hw⟩
                              rw [hw]
                              clear hw KD
                              go_wp2
                              go_roundw
                              case rel => exact ⟨k + 1, by omega, by go_num, A2, O2, by first | rfl | trivial⟩
                              case measure => simp [intOf]; omega
                            | false =>
                              have F := hide (unhide BI ei)
                              clear BI AM BO OP hall hop eo ei BY c95 k0 c45
                              go_wp2_with fail
                              refine (unhide KL).mono ?_
                              rintro _ w2 ⟨rfl, hw⟩
                              rw [hw]
                              clear hw KL
                              go_wp2_with fail
                              refine (unhide KD).mono ?_
                              rintro _ w2 ⟨rfl, hw⟩
                              rw [hw]
                              clear hw KD
                              go_wp2
                              go_ret
                              rw [unhide F]
                              exact ⟨rfl, rfl⟩
                  · have hkl : k = s.size := by omega
                    have hall2 := unhide hall
                    rw [hkl, ← len_list, List.take_length] at hall2
                    have F := hide (unhide BY (unhide hop (by omega)) hall2)
                    have i3 : ¬ (k : Int) < (s.size : Int) := by omega
                    clear hall hall2 BY hkl hop
                    go_wp2
                    go_ret
                    rw [unhide F]
                    exact ⟨rfl, rfl⟩
set_option maxHeartbeats 1000000 in
set_option maxRecDepth 100000 in
theorem keyText_any (w : World) (s : ByteArray) (hs : s.size ≤ 1048576) (hb : bad s.data.toList < 0) :
    Calls Tryd.prog 11 #[.string s] w fun e w' => e = .returned (.string ⟨(keyT s.data.toList).toArray⟩) ∧ Below w.heap.size w w' := by
  have KB := hide (bareR_any w s (by omega))
  obtain ⟨hl, hsc⟩ := good_runes hb
  have KQ := hide (quoted_any w s _ hs hl hsc)
  have e1 : keyT s.data.toList = if bareL s.data.toList = true then s.data.toList else quoteL (runes s.data.toList) := by
    unfold keyT
    rw [if_neg (show ¬ 0 ≤ bad s.data.toList by omega)]
  rw [e1]
  have et : (⟨s.data.toList.toArray⟩ : ByteArray) = s := text_of rfl
  clear e1 hl hsc hb
  generalize bareL s.data.toList = b at *
  generalize quoteL (runes s.data.toList) = T at *
  cases b with
  | true =>
    rw [if_pos rfl, et]
    clear et KQ
    go_enter Tryd.func11, Tryd.ntmps11
    go_wp2_with fail
    refine (unhide KB).mono ?_
    rintro _ w1 ⟨rfl, hw⟩
    rw [hw]
    clear hw
    go_wp2
    go_ret
    exact ⟨rfl, Below.refl _ _⟩
  | false =>
    rw [if_neg (by decide)]
    clear et
    go_enter Tryd.func11, Tryd.ntmps11
    go_wp2_with fail
    refine (unhide KB).mono ?_
    rintro _ w1 ⟨rfl, hw⟩
    rw [hw]
    clear hw
    go_wp2_with fail
    refine (unhide KQ).mono ?_
    rintro _ w1 ⟨rfl, b1⟩
    have B1 := hide b1
    clear b1 KQ KB
    go_wp2
    go_ret
    exact ⟨rfl, unhide B1⟩
end Go.Proofs.YtfgmjnfinbmkpaaDoor.escs
