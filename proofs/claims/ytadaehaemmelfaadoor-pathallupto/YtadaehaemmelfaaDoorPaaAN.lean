/- Of our texts, what this claim reaches. -/
import Derived.Test.YtadaehaemmelfaaDoorPaaAL
import Derived.Test.YtadaehaemmelfaaDoorPaaAM
set_option linter.unusedVariables false
set_option maxHeartbeats 4000000
set_option maxRecDepth 100000
namespace Go.Proofs.YtadaehaemmelfaaDoor.escs
open Go.RowKit
open utfs
def opK (n : Nat) : Bool := decide ((97 ≤ n ∧ n ≤ 122) ∨ (65 ≤ n ∧ n ≤ 90) ∨ n = 95)
def inK (n : Nat) : Bool := opK n || decide ((48 ≤ n ∧ n ≤ 57) ∨ n = 45)
def isV (l : List UInt8) : Bool := (l == [110, 117, 108, 108]) || (l == [116, 114, 117, 101]) || (l == [102, 97, 108, 115, 101]) || (l == [110, 97, 110]) || (l == [105, 110, 102])
def bareL (l : List UInt8) : Bool := decide (1 ≤ l.length ∧ l.length ≤ 100) && opK (l.headD 0).toNat && l.all (fun c => inK c.toNat) && !isV l
theorem opensKey_any (w : World) (n : Nat) (hn : n < 256) :
  Calls Tryd.prog 103 #[.int .u8 (n : Int)] w fun e w' => e = .returned (.bool (opK n)) ∧ w' = w := by
 have key : ∀ b : Bool, opK n = b → Calls Tryd.prog 103 #[.int .u8 (n : Int)] w (fun e w' => e = .returned (.bool b) ∧ w' = w) → Calls Tryd.prog 103 #[.int .u8 (n : Int)] w (fun e w' => e = .returned (.bool (opK n)) ∧ w' = w) := fun b e h => by rw [e]; exact h
 by_cases i1 : (97 : Int) ≤ (n : Int)
 ·by_cases i2 : (n : Int) ≤ 122
  ·refine key true (decide_eq_true (by omega)) ?_
   clear key
   go_enter Tryd.func103, Tryd.ntmps103
   go_wp2
   go_ret
   exact ⟨rfl, rfl⟩
  ·refine key false (decide_eq_false (by omega)) ?_
   clear key
   have i3 : (65 : Int) ≤ (n : Int) := by omega
   have i4 : ¬ (n : Int) ≤ 90 := by omega
   have i5 : ((n : Int) == 95) = false := beq_false_of_ne (by omega)
   go_enter Tryd.func103, Tryd.ntmps103
   go_wp2
   go_ret
   exact ⟨rfl, rfl⟩
 ·by_cases i3 : (65 : Int) ≤ (n : Int)
  ·by_cases i4 : (n : Int) ≤ 90
   ·refine key true (decide_eq_true (by omega)) ?_
    clear key
    go_enter Tryd.func103, Tryd.ntmps103
    go_wp2
    go_ret
    exact ⟨rfl, rfl⟩
   ·by_cases i5 : (n : Int) = 95
    ·refine key true (decide_eq_true (by omega)) ?_
     clear key
     have i6 : ((n : Int) == 95) = true := by rw [i5]; rfl
     have I5 := hide i5
     clear i5
     go_enter Tryd.func103, Tryd.ntmps103
     go_wp2
     go_ret
     exact ⟨rfl, rfl⟩
    ·refine key false (decide_eq_false (by omega)) ?_
     clear key
     have i6 : ((n : Int) == 95) = false := beq_false_of_ne i5
     clear i5
     go_enter Tryd.func103, Tryd.ntmps103
     go_wp2
     go_ret
     exact ⟨rfl, rfl⟩
  ·refine key false (decide_eq_false (by omega)) ?_
   clear key
   have i5 : ((n : Int) == 95) = false := beq_false_of_ne (by omega)
   go_enter Tryd.func103, Tryd.ntmps103
   go_wp2
   go_ret
   exact ⟨rfl, rfl⟩
theorem inKey_any (w : World) (n : Nat) (hn : n < 256) :
  Calls Tryd.prog 104 #[.int .u8 (n : Int)] w fun e w' => e = .returned (.bool (inK n)) ∧ w' = w := by
 have key : ∀ b : Bool, inK n = b → Calls Tryd.prog 104 #[.int .u8 (n : Int)] w (fun e w' => e = .returned (.bool b) ∧ w' = w) → Calls Tryd.prog 104 #[.int .u8 (n : Int)] w (fun e w' => e = .returned (.bool (inK n)) ∧ w' = w) := fun b e h => by rw [e]; exact h
 have K := hide (opensKey_any w n hn)
 have hi : inK n = (opK n || decide ((48 ≤ n ∧ n ≤ 57) ∨ n = 45)) := rfl
 generalize opK n = o at *
 cases o with
 | true =>
  refine key true (by rw [hi]; rfl) ?_
  clear key hi
  go_enter Tryd.func104, Tryd.ntmps104
  go_wp2_with fail
  refine (unhide K).mono ?_
  rintro e w' ⟨rfl, rfl⟩
  go_wp2
  go_ret
  exact ⟨rfl, rfl⟩
 | false =>
  rw [Bool.false_or] at hi
  by_cases i1 : (48 : Int) ≤ (n : Int)
  ·by_cases i2 : (n : Int) ≤ 57
   ·refine key true (by rw [hi]; exact decide_eq_true (by omega)) ?_
    clear key hi
    go_enter Tryd.func104, Tryd.ntmps104
    go_wp2_with fail
    refine (unhide K).mono ?_
    rintro e w' ⟨rfl, rfl⟩
    go_wp2
    go_ret
    exact ⟨rfl, rfl⟩
   ·refine key false (by rw [hi]; exact decide_eq_false (by omega)) ?_
    clear key hi
    have i5 : ((n : Int) == 45) = false := beq_false_of_ne (by omega)
    have t2 : decide ((n : Int) ≤ 57) = false := decide_eq_false i2
    go_enter Tryd.func104, Tryd.ntmps104
    go_wp2_with fail
    refine (unhide K).mono ?_
    rintro e w' ⟨rfl, rfl⟩
    go_wp2
    go_ret
    exact ⟨rfl, rfl⟩
  ·by_cases i5 : (n : Int) = 45
   ·refine key true (by rw [hi]; exact decide_eq_true (by omega)) ?_
    clear key hi
    have i6 : ((n : Int) == 45) = true := by rw [i5]; rfl
    have I5 := hide i5
    clear i5
    go_enter Tryd.func104, Tryd.ntmps104
    go_wp2_with fail
    refine (unhide K).mono ?_
    rintro e w' ⟨rfl, rfl⟩
    go_wp2
    go_ret
    exact ⟨rfl, rfl⟩
   ·refine key false (by rw [hi]; exact decide_eq_false (by omega)) ?_
    clear key hi
    have i6 : ((n : Int) == 45) = false := beq_false_of_ne i5
    clear i5
    go_enter Tryd.func104, Tryd.ntmps104
    go_wp2_with fail
    refine (unhide K).mono ?_
    rintro e w' ⟨rfl, rfl⟩
    go_wp2
    go_ret
    exact ⟨rfl, rfl⟩
theorem isValue_any (w : World) (s : ByteArray) :
  Calls Tryd.prog 105 #[.string s] w fun e w' => e = .returned (.bool (isV s.data.toList)) ∧ w' = w := by
 have key : ∀ b : Bool, isV s.toList = b → Calls Tryd.prog 105 #[.string s] w (fun e w' => e = .returned (.bool b) ∧ w' = w) → Calls Tryd.prog 105 #[.string s] w (fun e w' => e = .returned (.bool (isV s.data.toList)) ∧ w' = w) := fun b e h => by rw [← ByteArray.toList_eq, e]; exact h
 cases h1 : s.toList == [110, 117, 108, 108] with
 | true =>
  refine key true (by unfold isV; rw [h1]; rfl) ?_
  clear key
  go_enter Tryd.func105, Tryd.ntmps105
  go_wp2
  go_ret
  exact ⟨rfl, rfl⟩
 | false =>
  cases h2 : s.toList == [116, 114, 117, 101] with
  | true =>
   refine key true (by unfold isV; rw [h1, h2]; rfl) ?_
   clear key
   go_enter Tryd.func105, Tryd.ntmps105
   go_wp2
   go_ret
   exact ⟨rfl, rfl⟩
  | false =>
   cases h3 : s.toList == [102, 97, 108, 115, 101] with
   | true =>
    refine key true (by unfold isV; rw [h1, h2, h3]; rfl) ?_
    clear key
    go_enter Tryd.func105, Tryd.ntmps105
    go_wp2
    go_ret
    exact ⟨rfl, rfl⟩
   | false =>
    cases h4 : s.toList == [110, 97, 110] with
    | true =>
     refine key true (by unfold isV; rw [h1, h2, h3, h4]; rfl) ?_
     clear key
     go_enter Tryd.func105, Tryd.ntmps105
     go_wp2
     go_ret
     exact ⟨rfl, rfl⟩
    | false =>
     cases h5 : s.toList == [105, 110, 102] with
     | true =>
      refine key true (by unfold isV; rw [h1, h2, h3, h4, h5]; rfl) ?_
      clear key
      go_enter Tryd.func105, Tryd.ntmps105
      go_wp2
      go_ret
      exact ⟨rfl, rfl⟩
     | false =>
      refine key false (by unfold isV; rw [h1, h2, h3, h4, h5]; rfl) ?_
      clear key
      go_enter Tryd.func105, Tryd.ntmps105
      go_wp2
      go_ret
      exact ⟨rfl, rfl⟩
theorem byteAt (s : ByteArray) (k : Nat) (h : k < s.size) : ∃ h' : k < s.data.toList.length, s.data.toList[k] = s[k]'h := ⟨by rw [len_list]; exact h, rfl⟩
theorem headAt (s : ByteArray) (h : 0 < s.size) : s.data.toList.headD 0 = s[0]'h := by
 obtain ⟨h', e⟩ := byteAt s 0 h
 rw [← e]
 generalize s.data.toList = l at *
 match l, h' with
 | a :: b, _ => rfl
theorem emptyNo (s : ByteArray) (h : 0 < s.size) : s.toList.isEmpty = false := by
 rw [ByteArray.toList_eq, List.isEmpty_eq_false_iff]
 intro e
 have := congrArg List.length e
 rw [len_list] at this
 simp only [List.length_nil] at this
 omega
theorem emptyYes (s : ByteArray) (h : s.size = 0) : s.toList.isEmpty = true := by
 rw [ByteArray.toList_eq, List.isEmpty_iff]
 apply List.eq_nil_of_length_eq_zero
 rw [len_list]; exact h
theorem bare_size {s : ByteArray} (h : s.size = 0 ∨ 100 < s.size) : bareL s.data.toList = false := by
 unfold bareL
 rw [len_list, decide_eq_false (by omega)]
 rfl
theorem bare_open {s : ByteArray} (h : 0 < s.size) (ho : opK (s[0]'h).toNat = false) : bareL s.data.toList = false := by
 unfold bareL
 rw [headAt s h, ho]
 simp
theorem bare_in {s : ByteArray} {k : Nat} (h : k < s.size) (ho : inK (s[k]'h).toNat = false) : bareL s.data.toList = false := by
 obtain ⟨h', e⟩ := byteAt s k h
 have : s.data.toList.all (fun c => inK c.toNat) = false := by
  rw [List.all_eq_false]
  exact ⟨s.data.toList[k], List.getElem_mem h', by rw [e, ho]; simp⟩
 unfold bareL
 rw [this]
 simp
theorem bare_yes {s : ByteArray} (h : 0 < s.size) (h1 : s.size ≤ 100) (ho : opK (s[0]'h).toNat = true) (ha : s.data.toList.all (fun c => inK c.toNat) = true) : bareL s.data.toList = !isV s.data.toList := by
 unfold bareL
 rw [headAt s h, ho, ha, len_list, decide_eq_true ⟨h, h1⟩]
 simp
theorem all_more {s : ByteArray} {k : Nat} (h : k < s.size) (ha : (s.data.toList.take k).all (fun c => inK c.toNat) = true) (ho : inK (s[k]'h).toNat = true) : (s.data.toList.take (k + 1)).all (fun c => inK c.toNat) = true := by
 obtain ⟨h', e⟩ := byteAt s k h
 rw [List.take_succ_eq_append_getElem h', List.all_append, ha, e]
 simp [ho]
theorem bare_any (w : World) (s : ByteArray) :
  Calls Tryd.prog 87 #[.string s] w fun e w' => e = .returned (.bool (bareL s.data.toList)) ∧ w' = w := by
 by_cases h0 : s.size = 0
 ·rw [bare_size (.inl h0)]
  have e0 := emptyYes s h0
  clear h0
  go_enter Tryd.func87, Tryd.ntmps87
  go_wp2
  go_ret
  exact ⟨rfl, rfl⟩
 ·have hp : 0 < s.size := by omega
  have e0 := emptyNo s hp
  by_cases h1 : 100 < s.size
  ·rw [bare_size (.inr h1)]
   have i1 : (s.size : Int) > 100 := by omega
   clear h0
   go_enter Tryd.func87, Tryd.ntmps87
   go_wp2
   go_ret
   exact ⟨rfl, rfl⟩
  ·have i1 : ¬ (s.size : Int) > 100 := by omega
   have hs100 : s.size ≤ 100 := by omega
   have KO := hide (opensKey_any w (s[0]'hp).toNat (UInt8.toNat_lt _))
   have BO := hide (bare_open hp)
   have BY := hide (bare_yes hp hs100)
   generalize opK (s[0]'hp).toNat = o at *
   cases o with
   | false =>
    rw [unhide BO rfl]
    clear BO BY h0 h1
    go_enter Tryd.func87, Tryd.ntmps87
    go_wp2_with fail
    refine (unhide KO).mono ?_
    rintro e w' ⟨rfl, rfl⟩
    go_wp2
    go_ret
    exact ⟨rfl, rfl⟩
   | true =>
    have BY2 := hide (unhide BY rfl)
    clear BO BY h0 h1
    go_enter Tryd.func87, Tryd.ntmps87
    go_wp2_with fail
    refine (unhide KO).mono ?_
    rintro e w' ⟨rfl, hw⟩
    rw [hw]
    clear hw KO
    go_wp2_with fail
    go_loopw [19] (fun i wr => ∃ k : Nat, k ≤ s.size ∧ i = .int .i64 k ∧ Hid ((s.data.toList.take k).all (fun c => inK c.toNat) = true) ∧ wr = w) (fun i _ => s.size - (intOf i).toNat)
    case atStart => exact ⟨0, Nat.zero_le _, rfl, rfl, rfl⟩
    case round =>
     obtain ⟨k, hk, rfl, hall, hw⟩ := hrel
     subst hw
     by_cases hlt : k < s.size
     ·have KI := hide (inKey_any wr (s[k]'hlt).toNat (UInt8.toNat_lt _))
      have BI := hide (bare_in hlt)
      have AM := hide (all_more hlt (unhide hall))
      generalize inK (s[k]'hlt).toNat = o at *
      cases o with
      | true =>
       have AM2 := hide (unhide AM rfl)
       clear BI AM hall
       go_wp2_with fail
       refine (unhide KI).mono ?_
       rintro e w2 ⟨rfl, hw⟩
       rw [hw]
       clear hw KI
       go_wp2
       go_roundw
       case rel => exact ⟨k + 1, by omega, by go_num, AM2, by first | rfl | trivial⟩
       case measure => simp [intOf]; omega
      | false =>
       have BI2 := hide (unhide BI rfl)
       clear AM hall BI
       go_wp2_with fail
       refine (unhide KI).mono ?_
       rintro e w2 ⟨rfl, hw⟩
       rw [hw]
       clear hw KI
       go_wp2
       go_ret
       rw [unhide BI2]
       exact ⟨rfl, rfl⟩
     ·have hkl : k = s.size := by omega
      have hall2 := unhide hall
      rw [hkl, ← len_list, List.take_length] at hall2
      have BZ := hide (unhide BY2 hall2)
      clear hall hall2 BY2 hkl
      have KV := hide (isValue_any wr s)
      go_wp2_with fail
      refine (unhide KV).mono ?_
      rintro e w2 ⟨rfl, hw⟩
      rw [hw]
      clear hw KV
      generalize isV s.data.toList = v at *
      go_wp2
      go_ret
      rw [unhide BZ]
      exact ⟨rfl, rfl⟩
end Go.Proofs.YtadaehaemmelfaaDoor.escs
