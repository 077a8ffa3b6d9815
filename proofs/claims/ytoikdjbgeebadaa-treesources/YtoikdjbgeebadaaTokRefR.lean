/- The walks of the document's answer: one of these bytes, letters, runs. -/
import Derived.Test.YtoikdjbgeebadaaTokRunW
set_option linter.unusedVariables false
namespace Go.Proofs.Ytoikdjbgeebadaa.toks
open Go.RowKit

theorem some_more {c : UInt8} {t : ByteArray} {k : Nat} (h : k < t.size) (hn : (t.data.toList.take k).contains c = false) (hc : t[k]'h ≠ c) : (t.data.toList.take (k + 1)).contains c = false := by
  have hl : k < t.data.toList.length := by rw [len_list]; exact h
  rw [List.take_succ_eq_append_getElem hl]
  have e : t.data.toList[k]'hl = t[k]'h := rfl
  rw [e]
  have : (([t[k]'h] : List UInt8).contains c) = false := by
    simp only [List.contains_cons, List.contains_nil, Bool.or_false]
    exact beq_false_of_ne (Ne.symm hc)
  rw [List.contains_eq_any_beq, List.any_append, ← List.contains_eq_any_beq, ← List.contains_eq_any_beq, hn, this]
  rfl
theorem some_here {c : UInt8} {t : ByteArray} {k : Nat} (h : k < t.size) (hc : t[k]'h = c) : t.data.toList.contains c = true := by
  have hl : k < t.data.toList.length := by rw [len_list]; exact h
  rw [List.contains_iff_mem, ← hc]
  exact List.getElem_mem hl
theorem u8_ne {a b : UInt8} (h : a ≠ b) : ((a.toNat : Int) == (b.toNat : Int)) = false := beq_false_of_ne (fun e => h (UInt8.toNat_inj.1 (by omega)))
set_option maxHeartbeats 400000 in
set_option maxRecDepth 100000 in
theorem oneOf_any (w : World) (c : UInt8) (t : ByteArray) (ht : t.size ≤ 100) :
    Calls Try.prog 32 #[.int .u8 (c.toNat : Int), .string t] w fun e w' => e = .returned (.bool (t.data.toList.contains c)) ∧ w' = w := by
  go_enter Try.func32, Try.ntmps32
  go_wp2_with fail
  go_loopw [5] (fun i wr => ∃ k : Nat, k ≤ t.size ∧ i = .int .i64 k ∧ Hid ((t.data.toList.take k).contains c = false) ∧ wr = w) (fun i _ => t.size - (intOf i).toNat)
  case atStart => exact ⟨0, Nat.zero_le _, rfl, rfl, rfl⟩
  case round =>
    obtain ⟨k, hk, rfl, hn, hw⟩ := hrel
    subst hw
    by_cases hlt : k < t.size
    · have i1 : (k : Int) < (t.size : Int) := by omega
      by_cases hc : t[k]'hlt = c
      · have E := hide (some_here hlt hc)
        have j1 : (((t[k]'hlt).toNat : Int) == (c.toNat : Int)) = true := by rw [hc]; exact beq_self_eq_true _
        clear hc hn
        go_wp2
        go_ret
        rw [unhide E]
        exact ⟨rfl, rfl⟩
      · have E := hide (some_more hlt (unhide hn) hc)
        have j1 : (((t[k]'hlt).toNat : Int) == (c.toNat : Int)) = false := u8_ne hc
        clear hc hn
        go_wp2
        go_roundw
        case rel => exact ⟨k + 1, by omega, by go_num, E, by first | rfl | trivial⟩
        case measure => simp only [intOf]; omega
    · have hkl : k = t.size := by omega
      have E := unhide hn
      rw [hkl, ← len_list, List.take_length] at E
      have E := hide E
      clear hn hkl
      go_wp2
      go_ret
      rw [unhide E]
      exact ⟨rfl, rfl⟩
theorem one_blank (c : UInt8) : (⟨#[32, 9, 13]⟩ : ByteArray).data.toList.contains c = isB c := by
  show ([32, 9, 13] : List UInt8).contains c = _
  unfold isB
  simp only [List.contains_cons, List.contains_nil, Bool.or_false, Bool.or_assoc]
theorem one_mark (c : UInt8) : (⟨#[123, 125, 91, 93, 58, 61, 44]⟩ : ByteArray).data.toList.contains c = isM c := by
  show ([123, 125, 91, 93, 58, 61, 44] : List UInt8).contains c = _
  unfold isM
  simp only [List.contains_cons, List.contains_nil, Bool.or_false, Bool.or_assoc]
theorem one_sign (c : UInt8) : (⟨#[95, 45, 43, 46]⟩ : ByteArray).data.toList.contains c = decide (c.toNat = 95 ∨ c.toNat = 45 ∨ c.toNat = 43 ∨ c.toNat = 46) := by
  show ([95, 45, 43, 46] : List UInt8).contains c = _
  simp only [List.contains_cons, List.contains_nil, Bool.or_false]
  have e : ∀ k : UInt8, (c == k) = decide (c.toNat = k.toNat) := fun k => by
    rw [Bool.eq_iff_iff, beq_iff_eq, decide_eq_true_iff]
    exact ⟨fun h => by rw [h], fun h => UInt8.toNat_inj.1 h⟩
  rw [e, e, e, e, ← Bool.decide_or, ← Bool.decide_or, ← Bool.decide_or]
  rfl
set_option maxHeartbeats 400000 in
theorem blankC_any (w : World) (c : UInt8) :
    Calls Try.prog 31 #[.int .u8 (c.toNat : Int)] w fun e w' => e = .returned (.bool (isB c)) ∧ w' = w := by
  have K := hide (oneOf_any w c ⟨#[32, 9, 13]⟩ (by decide))
  rw [one_blank] at K
  go_enter Try.func31, Try.ntmps31
  go_wp2_with fail
  refine (unhide K).mono ?_
  rintro e w2 ⟨rfl, hw⟩
  rw [hw]
  clear hw K
  go_wp2
  go_ret
  exact ⟨rfl, rfl⟩
set_option maxHeartbeats 400000 in
theorem lineC_any (w : World) (c : UInt8) :
    Calls Try.prog 33 #[.int .u8 (c.toNat : Int)] w fun e w' => e = .returned (.bool (noL c)) ∧ w' = w := by
  by_cases h : c = 10
  · have e : noL c = false := by rw [h]; rfl
    have j1 : ((c.toNat : Int) == 10) = true := b_eq 10 h
    have j2 : ((c.toNat : Int) != 10) = false := b_eq' 10 h
    rw [e]
    clear h e
    go_enter Try.func33, Try.ntmps33
    go_wp2
    go_ret
    exact ⟨rfl, rfl⟩
  · have e : noL c = true := by unfold noL; simpa using h
    have j1 : ((c.toNat : Int) == 10) = false := b_ne 10 h
    have j2 : ((c.toNat : Int) != 10) = true := b_ne' 10 h
    rw [e]
    clear h e
    go_enter Try.func33, Try.ntmps33
    go_wp2
    go_ret
    exact ⟨rfl, rfl⟩
set_option maxHeartbeats 1000000 in
theorem letterT_any (w : World) (n : Nat) :
    Calls Try.prog 35 #[.int .u8 (n : Int)] w fun e w' => e = .returned (.bool (decide ((97 ≤ n ∧ n ≤ 122) ∨ (65 ≤ n ∧ n ≤ 90)))) ∧ w' = w := by
  by_cases a1 : (97 : Int) ≤ (n : Int)
  · have d1 : decide ((97 : Int) ≤ (n : Int)) = true := decide_eq_true a1
    have d1' : decide ((n : Int) ≥ 97) = true := decide_eq_true a1
    by_cases a2 : (n : Int) ≤ 122
    · rw [decide_eq_true (by omega)]
      go_enter Try.func35, Try.ntmps35; go_wp2; go_ret; exact ⟨rfl, rfl⟩
    · rw [decide_eq_false (by omega)]
      have d2 : decide ((n : Int) ≤ 122) = false := decide_eq_false a2
      have a3 : (65 : Int) ≤ (n : Int) := by omega
      have a4 : ¬ (n : Int) ≤ 90 := by omega
      go_enter Try.func35, Try.ntmps35; go_wp2; go_ret; exact ⟨rfl, rfl⟩
  · have d1 : decide ((97 : Int) ≤ (n : Int)) = false := decide_eq_false a1
    have d1' : decide ((n : Int) ≥ 97) = false := decide_eq_false a1
    by_cases a3 : (65 : Int) ≤ (n : Int)
    · by_cases a4 : (n : Int) ≤ 90
      · rw [decide_eq_true (by omega)]
        go_enter Try.func35, Try.ntmps35; go_wp2; go_ret; exact ⟨rfl, rfl⟩
      · rw [decide_eq_false (by omega)]
        go_enter Try.func35, Try.ntmps35; go_wp2; go_ret; exact ⟨rfl, rfl⟩
    · rw [decide_eq_false (by omega)]
      go_enter Try.func35, Try.ntmps35; go_wp2; go_ret; exact ⟨rfl, rfl⟩
theorem isW_parts (c : UInt8) : isW c = (decide ((97 ≤ c.toNat ∧ c.toNat ≤ 122) ∨ (65 ≤ c.toNat ∧ c.toNat ≤ 90)) || decide (48 ≤ c.toNat ∧ c.toNat ≤ 57) || decide (c.toNat = 95 ∨ c.toNat = 45 ∨ c.toNat = 43 ∨ c.toNat = 46)) := by
  unfold isW
  rw [← Bool.decide_or, ← Bool.decide_or]
  apply decide_eq_decide.2
  omega
set_option maxHeartbeats 1000000 in
theorem wordC_any (w : World) (c : UInt8) :
    Calls Try.prog 34 #[.int .u8 (c.toNat : Int)] w fun e w' => e = .returned (.bool (isW c)) ∧ w' = w := by
  have K1 := hide (letterT_any w c.toNat)
  have K2 := hide (oneOf_any w c ⟨#[95, 45, 43, 46]⟩ (by decide))
  rw [one_sign] at K2
  rw [isW_parts]
  generalize decide ((97 ≤ c.toNat ∧ c.toNat ≤ 122) ∨ (65 ≤ c.toNat ∧ c.toNat ≤ 90)) = x1 at *
  generalize decide (c.toNat = 95 ∨ c.toNat = 45 ∨ c.toNat = 43 ∨ c.toNat = 46) = x3 at *
  generalize c.toNat = n at *
  cases x1 with
  | true =>
    rw [Bool.true_or, Bool.true_or]
    go_enter Try.func34, Try.ntmps34
    go_wp2_with fail
    refine (unhide K1).mono ?_
    rintro e w2 ⟨rfl, hw⟩
    rw [hw]
    clear hw K1 K2
    go_wp2
    go_ret
    exact ⟨rfl, rfl⟩
  | false =>
    rw [Bool.false_or]
    by_cases a1 : (48 : Int) ≤ (n : Int)
    · have d1 : decide ((48 : Int) ≤ (n : Int)) = true := decide_eq_true a1
      have d1' : decide ((n : Int) ≥ 48) = true := decide_eq_true a1
      by_cases a2 : (n : Int) ≤ 57
      · rw [decide_eq_true (by omega), Bool.true_or]
        go_enter Try.func34, Try.ntmps34
        go_wp2_with fail
        refine (unhide K1).mono ?_
        rintro e w2 ⟨rfl, hw⟩
        rw [hw]
        clear hw K1 K2
        go_wp2
        go_ret
        exact ⟨rfl, rfl⟩
      · rw [decide_eq_false (by omega), Bool.false_or]
        have d2 : decide ((n : Int) ≤ 57) = false := decide_eq_false a2
        go_enter Try.func34, Try.ntmps34
        go_wp2_with fail
        refine (unhide K1).mono ?_
        rintro e w2 ⟨rfl, hw⟩
        rw [hw]
        clear hw K1
        go_wp2_with fail
        refine (unhide K2).mono ?_
        rintro e w2 ⟨rfl, hw⟩
        rw [hw]
        clear hw K2
        go_wp2
        go_ret
        exact ⟨rfl, rfl⟩
    · rw [decide_eq_false (by omega), Bool.false_or]
      have d1 : decide ((48 : Int) ≤ (n : Int)) = false := decide_eq_false a1
      have d1' : decide ((n : Int) ≥ 48) = false := decide_eq_false a1
      go_enter Try.func34, Try.ntmps34
      go_wp2_with fail
      refine (unhide K1).mono ?_
      rintro e w2 ⟨rfl, hw⟩
      rw [hw]
      clear hw K1
      go_wp2_with fail
      refine (unhide K2).mono ?_
      rintro e w2 ⟨rfl, hw⟩
      rw [hw]
      clear hw K2
      go_wp2
      go_ret
      exact ⟨rfl, rfl⟩
set_option maxHeartbeats 1000000 in
set_option maxRecDepth 100000 in
theorem run1_any (w : World) (s : ByteArray) (hs : s.size ≤ 20000) :
    Calls Try.prog 30 #[.string s, .func (.func 31) #[] #[]] w fun e w' => e = .returned (.int .i64 ((runL isB s.data.toList : Nat) : Int)) ∧ w' = w := by
  go_enter Try.func30, Try.ntmps30
  go_wp2_with fail
  go_loopw [5] (fun i wr => ∃ k : Nat, k ≤ s.size ∧ i = .int .i64 k ∧ Hid (0 + runL isB (s.data.toList.drop 0) = k + runL isB (s.data.toList.drop k)) ∧ wr = w) (fun i _ => s.size - (intOf i).toNat)
  case atStart => exact ⟨0, Nat.zero_le _, rfl, hide rfl, rfl⟩
  case round =>
    obtain ⟨k, hk, rfl, hr, hw⟩ := hrel
    subst hw
    by_cases hlt : k < s.size
    · have KI := hide (blankC_any wr (s[k]'hlt))
      have RM := hide (run_more (p := isB) (a := 0) hlt)
      have RH := hide (run_here (p := isB) (a := 0) hlt)
      generalize isB (s[k]'hlt) = o at *
      have i1 : (k : Int) < (s.size : Int) := by omega
      cases o with
      | true =>
        have RM2 := hide (unhide RM rfl (unhide hr))
        clear RM RH hr
        go_wp2_with fail
        refine (unhide KI).mono ?_
        rintro e w2 ⟨rfl, hw⟩
        rw [hw]
        clear hw KI
        go_wp2
        go_roundw
        case rel => exact ⟨k + 1, by omega, by go_num, RM2, by first | rfl | trivial⟩
        case measure => simp [intOf]; omega
      | false =>
        have RH2 := unhide RH rfl (unhide hr)
        rw [Nat.zero_add, List.drop_zero] at RH2
        have RH2 := hide RH2
        clear RM RH hr
        go_wp2_with fail
        refine (unhide KI).mono ?_
        rintro e w2 ⟨rfl, hw⟩
        rw [hw]
        clear hw KI
        go_wp2
        go_ret
        rw [unhide RH2]
        exact ⟨rfl, rfl⟩
    · have RO := run_over (p := isB) (a := 0) (Nat.le_of_not_lt hlt) (unhide hr)
      rw [Nat.zero_add, List.drop_zero] at RO
      have RO := hide RO
      clear hr
      have d1 : decide ((k : Int) < (s.size : Int)) = false := decide_eq_false (by omega)
      go_wp2
      go_ret
      rw [unhide RO]
      exact ⟨rfl, rfl⟩
set_option maxHeartbeats 1000000 in
set_option maxRecDepth 100000 in
theorem run2_any (w : World) (s : ByteArray) (hs : s.size ≤ 20000) :
    Calls Try.prog 30 #[.string s, .func (.func 33) #[] #[]] w fun e w' => e = .returned (.int .i64 ((runL noL s.data.toList : Nat) : Int)) ∧ w' = w := by
  go_enter Try.func30, Try.ntmps30
  go_wp2_with fail
  go_loopw [5] (fun i wr => ∃ k : Nat, k ≤ s.size ∧ i = .int .i64 k ∧ Hid (0 + runL noL (s.data.toList.drop 0) = k + runL noL (s.data.toList.drop k)) ∧ wr = w) (fun i _ => s.size - (intOf i).toNat)
  case atStart => exact ⟨0, Nat.zero_le _, rfl, hide rfl, rfl⟩
  case round =>
    obtain ⟨k, hk, rfl, hr, hw⟩ := hrel
    subst hw
    by_cases hlt : k < s.size
    · have KI := hide (lineC_any wr (s[k]'hlt))
      have RM := hide (run_more (p := noL) (a := 0) hlt)
      have RH := hide (run_here (p := noL) (a := 0) hlt)
      generalize noL (s[k]'hlt) = o at *
      have i1 : (k : Int) < (s.size : Int) := by omega
      cases o with
      | true =>
        have RM2 := hide (unhide RM rfl (unhide hr))
        clear RM RH hr
        go_wp2_with fail
        refine (unhide KI).mono ?_
        rintro e w2 ⟨rfl, hw⟩
        rw [hw]
        clear hw KI
        go_wp2
        go_roundw
        case rel => exact ⟨k + 1, by omega, by go_num, RM2, by first | rfl | trivial⟩
        case measure => simp [intOf]; omega
      | false =>
        have RH2 := unhide RH rfl (unhide hr)
        rw [Nat.zero_add, List.drop_zero] at RH2
        have RH2 := hide RH2
        clear RM RH hr
        go_wp2_with fail
        refine (unhide KI).mono ?_
        rintro e w2 ⟨rfl, hw⟩
        rw [hw]
        clear hw KI
        go_wp2
        go_ret
        rw [unhide RH2]
        exact ⟨rfl, rfl⟩
    · have RO := run_over (p := noL) (a := 0) (Nat.le_of_not_lt hlt) (unhide hr)
      rw [Nat.zero_add, List.drop_zero] at RO
      have RO := hide RO
      clear hr
      have d1 : decide ((k : Int) < (s.size : Int)) = false := decide_eq_false (by omega)
      go_wp2
      go_ret
      rw [unhide RO]
      exact ⟨rfl, rfl⟩
set_option maxHeartbeats 1000000 in
set_option maxRecDepth 100000 in
theorem run3_any (w : World) (s : ByteArray) (hs : s.size ≤ 20000) :
    Calls Try.prog 30 #[.string s, .func (.func 34) #[] #[]] w fun e w' => e = .returned (.int .i64 ((runL isW s.data.toList : Nat) : Int)) ∧ w' = w := by
  go_enter Try.func30, Try.ntmps30
  go_wp2_with fail
  go_loopw [5] (fun i wr => ∃ k : Nat, k ≤ s.size ∧ i = .int .i64 k ∧ Hid (0 + runL isW (s.data.toList.drop 0) = k + runL isW (s.data.toList.drop k)) ∧ wr = w) (fun i _ => s.size - (intOf i).toNat)
  case atStart => exact ⟨0, Nat.zero_le _, rfl, hide rfl, rfl⟩
  case round =>
    obtain ⟨k, hk, rfl, hr, hw⟩ := hrel
    subst hw
    by_cases hlt : k < s.size
    · have KI := hide (wordC_any wr (s[k]'hlt))
      have RM := hide (run_more (p := isW) (a := 0) hlt)
      have RH := hide (run_here (p := isW) (a := 0) hlt)
      generalize isW (s[k]'hlt) = o at *
      have i1 : (k : Int) < (s.size : Int) := by omega
      cases o with
      | true =>
        have RM2 := hide (unhide RM rfl (unhide hr))
        clear RM RH hr
        go_wp2_with fail
        refine (unhide KI).mono ?_
        rintro e w2 ⟨rfl, hw⟩
        rw [hw]
        clear hw KI
        go_wp2
        go_roundw
        case rel => exact ⟨k + 1, by omega, by go_num, RM2, by first | rfl | trivial⟩
        case measure => simp [intOf]; omega
      | false =>
        have RH2 := unhide RH rfl (unhide hr)
        rw [Nat.zero_add, List.drop_zero] at RH2
        have RH2 := hide RH2
        clear RM RH hr
        go_wp2_with fail
        refine (unhide KI).mono ?_
        rintro e w2 ⟨rfl, hw⟩
        rw [hw]
        clear hw KI
        go_wp2
        go_ret
        rw [unhide RH2]
        exact ⟨rfl, rfl⟩
    · have RO := run_over (p := isW) (a := 0) (Nat.le_of_not_lt hlt) (unhide hr)
      rw [Nat.zero_add, List.drop_zero] at RO
      have RO := hide RO
      clear hr
      have d1 : decide ((k : Int) < (s.size : Int)) = false := decide_eq_false (by omega)
      go_wp2
      go_ret
      rw [unhide RO]
      exact ⟨rfl, rfl⟩
end Go.Proofs.Ytoikdjbgeebadaa.toks
