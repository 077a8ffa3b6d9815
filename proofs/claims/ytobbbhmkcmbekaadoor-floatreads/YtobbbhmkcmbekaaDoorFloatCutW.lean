/- The walks of package float: isDigits, exponentOf; strings.Cut at one byte. -/
import Derived.Test.YtobbbhmkcmbekaaDoorFloatParse
import Derived.Test.YtobbbhmkcmbekaaDoorShelf
import Derived.BigQuiet
import Derived.Deep.CutRange
set_option linter.unusedVariables false
namespace Go.Proofs.YtobbbhmkcmbekaaDoor.bigs
open Go.RowKit

theorem byte_get (s : ByteArray) (k : Nat) (h : k < s.size) : s.data.toList[k]? = some (s[k]'h) := by
  rw [List.getElem?_eq_getElem (by rw [blen_list]; exact h)]
  rfl
theorem take_dig {l : List UInt8} {k : Nat} {b : UInt8} (h : Dig10 (l.take k)) (hb : l[k]? = some b) (hd : 48 ≤ b.toNat ∧ b.toNat ≤ 57) : Dig10 (l.take (k + 1)) := by
  rw [List.take_add_one, hb]
  intro x hx
  rcases List.mem_append.1 hx with h1 | h1
  · exact h x h1
  · simp at h1; rw [h1]; exact hd
theorem not_dig {l : List UInt8} {k : Nat} {b : UInt8} (hb : l[k]? = some b) (hd : ¬ (48 ≤ b.toNat ∧ b.toNat ≤ 57)) : ¬ AllD l := by
  intro h
  exact hd (h.2 b (List.mem_of_getElem? hb))
set_option maxHeartbeats 8000000 in
set_option maxRecDepth 100000 in
theorem isDigitsW_any (w : World) (s : ByteArray) (f : Bool) (hs : s.size ≤ 80) (hf : Hid (f = true ↔ AllD s.data.toList)) :
    Calls Tryd.prog 66 #[.string s] w fun e w' => e = .returned (.bool f) ∧ w' = w := by
  go_enter Tryd.func66, Tryd.ntmps66
  go_wp2
  go_loopw [3] (fun i wr => ∃ k : Nat, k ≤ s.size ∧ i = .int .i64 k ∧ Dig10 (s.data.toList.take k) ∧ wr = w) (fun i _ => s.size - (intOf i).toNat)
  case atStart => exact ⟨0, Nat.zero_le _, rfl, (fun b hb => by simp at hb), rfl⟩
  case round =>
    obtain ⟨k, hk, rfl, hd, rfl⟩ := hrel
    by_cases hlt : k < s.size
    · have hb := byte_get s k hlt
      have HB := hide hb
      have HDG := hide hd
      have lt' : (k : Int) < (s.size : Int) := by omega
      have u := UInt8.toNat_lt (s[k]'hlt)
      clear hb hd
      by_cases c1 : (s[k]'hlt).toNat < 48
      · have c1' : ((s[k]'hlt).toNat : Int) < 48 := by omega
        have F : Hid (f = false) := hide (by cases hfe : f with | false => rfl | true => exact absurd ((unhide hf).1 hfe) (not_dig (unhide HB) (by omega)))
        clear hf HB HDG
        go_wp2
        go_ret
        rw [unhide F]
        exact ⟨rfl, rfl⟩
      · have c1' : ¬ ((s[k]'hlt).toNat : Int) < 48 := by omega
        by_cases c2 : 57 < (s[k]'hlt).toNat
        · have c2' : (57 : Int) < ((s[k]'hlt).toNat : Int) := by omega
          have F : Hid (f = false) := hide (by cases hfe : f with | false => rfl | true => exact absurd ((unhide hf).1 hfe) (not_dig (unhide HB) (by omega)))
          clear hf HB HDG
          go_wp2
          go_ret
          rw [unhide F]
          exact ⟨rfl, rfl⟩
        · have c2' : ¬ (57 : Int) < ((s[k]'hlt).toNat : Int) := by omega
          have HN := hide (take_dig (unhide HDG) (unhide HB) (by omega))
          clear HB HDG
          go_wp2
          go_roundw
          case rel => exact ⟨k + 1, by omega, by go_num, unhide HN, by trivial⟩
          case measure => simp [intOf]; omega
    · have hkl : k = s.size := by omega
      have nl : ¬ (k : Int) < (s.size : Int) := by omega
      subst hkl
      have HDG := hide hd
      have F : Hid (f = !s.toList.isEmpty) := hide (by
        have e : s.data.toList.take s.size = s.data.toList := by rw [← blen_list, List.take_length]
        rw [e] at hd
        have e2 : s.toList = s.data.toList := ByteArray.toList_eq s
        rw [e2]
        cases hl : s.data.toList with
        | nil =>
          cases hfe : f with
          | false => rfl
          | true => exact absurd hl ((unhide hf).1 hfe).1
        | cons b r =>
          have : f = true := (unhide hf).2 ⟨by rw [hl]; simp, hd⟩
          rw [this]
          rfl)
      clear hf hd HDG
      go_wp2
      go_ret
      rw [unhide F]
      exact ⟨rfl, rfl⟩
/-- An exponent as the program caps it. -/
def Cap (x y : Int) : Prop := x = y ∨ (1080 ≤ x ∧ y = 1080) ∨ (x ≤ -1080 ∧ y = -1080)
theorem cap_min (n : Nat) : Cap (n : Int) ((min n 1080 : Nat) : Int) := by unfold Cap; omega
theorem cap_neg {x y : Int} (h : Cap x y) : Cap (-x) (-y) := by unfold Cap at *; omega
theorem dec_take {l : List UInt8} {k : Nat} {b : UInt8} (hb : l[k]? = some b) : dec (l.take (k + 1)) = dec (l.take k) * 10 + (b.toNat - 48) := by
  rw [List.take_add_one, hb]
  exact dec_snoc _ _
set_option maxHeartbeats 8000000 in
set_option maxRecDepth 100000 in
/-- The loop of exponentOf, behind the signs. -/
theorem exponentW_core (w : World) (z c1 X : ByteArray) (neg f : Bool) (hX : X.size ≤ 80)
    (K1 : Hid (Calls Tryd.prog 34 #[.string z, .string ⟨#[45]⟩] w fun e w' => e = .returned (.tuple #[.string c1, .bool neg]) ∧ w' = w))
    (K2 : Hid (neg = false → Calls Tryd.prog 83 #[.string c1, .string ⟨#[43]⟩] w fun e w' => e = .returned (.string X) ∧ w' = w)) (hc : Hid (neg = true → c1 = X)) (hf : Hid (f = true ↔ AllD X.data.toList)) :
    Calls Tryd.prog 67 #[.string z] w fun e w' => e = .returned (if f then .tuple #[.int .i64 (if neg then -((min (dec X.data.toList) 1080 : Nat) : Int) else ((min (dec X.data.toList) 1080 : Nat) : Int)), .bool true] else .tuple #[.int .i64 0, .bool false]) ∧ w' = w := by
  have K3 := hide (isDigitsW_any w X f hX hf)
  cases hn : neg with
  | true =>
    subst hn
    have e1 := unhide hc rfl
    subst e1
    cases hfe : f with
    | false =>
      subst hfe
      clear K2 hc hf
      go_enter Tryd.func67, Tryd.ntmps67
      go_wp2_with fail
      refine (unhide K1).mono ?_
      rintro e w1 ⟨rfl, rfl⟩
      go_wp2_with fail
      refine (unhide K3).mono ?_
      rintro e w2 ⟨rfl, rfl⟩
      go_wp2
      go_ret2
      exact ⟨rfl, rfl⟩
    | true =>
      subst hfe
      have HD := hide ((unhide hf).1 rfl).2
      clear K2 hc hf
      go_enter Tryd.func67, Tryd.ntmps67
      go_wp2_with fail
      refine (unhide K1).mono ?_
      rintro e w1 ⟨rfl, rfl⟩
      go_wp2_with fail
      refine (unhide K3).mono ?_
      rintro e w2 ⟨rfl, rfl⟩
      clear K1 K3
      go_wp2
      go_loopw [6, 5] (fun i a wr => ∃ k : Nat, k ≤ c1.size ∧ i = .int .i64 k ∧ a = .int .i64 ((min (dec (c1.data.toList.take k)) 1080 : Nat) : Int) ∧ wr = w2) (fun i _ _ => c1.size - (intOf i).toNat)
      case atStart => exact ⟨0, Nat.zero_le _, rfl, rfl, rfl⟩
      case round =>
        obtain ⟨k, hk, rfl, rfl, rfl⟩ := hrel
        by_cases hlt : k < c1.size
        · have hb := byte_get c1 k hlt
          have dg := unhide HD _ (List.mem_of_getElem? hb)
          have HN := hide (dec_take hb)
          have lt' : (k : Int) < (c1.size : Int) := by omega
          have g1 : (48 : Int) ≤ ((c1[k]'hlt).toNat : Int) := by omega
          have g2 : ((c1[k]'hlt).toNat : Int) ≤ 57 := by omega
          clear hb dg
          generalize hm : min (dec (c1.data.toList.take k)) 1080 = m at *
          have m2 : m ≤ 1080 := by omega
          have HM := hide hm
          clear hm
          go_wp2
          go_roundw
          case rel => exact ⟨k + 1, by omega, by go_num, by have h1 := unhide HN; have h2 := unhide HM; rw [h1]; congr 1; omega, by trivial⟩
          case measure => simp [intOf]; omega
        · have hkl : k = c1.size := by omega
          have nl : ¬ (k : Int) < (c1.size : Int) := by omega
          subst hkl
          have e2 : c1.data.toList.take c1.size = c1.data.toList := by rw [← blen_list, List.take_length]
          rw [e2]
          have m2 : min (dec c1.data.toList) 1080 ≤ 1080 := by omega
          generalize hm : min (dec c1.data.toList) 1080 = m at *
          have HM := hide hm
          clear hm
          go_wp2
          go_ret2
          refine ⟨?_, rfl⟩
          rw [unhide HM]
          rfl
  | false =>
    subst hn
    have K2' := hide (unhide K2 rfl)
    cases hfe : f with
    | false =>
      subst hfe
      clear K2 hc hf
      go_enter Tryd.func67, Tryd.ntmps67
      go_wp2_with fail
      refine (unhide K1).mono ?_
      rintro e w1 ⟨rfl, rfl⟩
      go_wp2_with fail
      refine (unhide K2').mono ?_
      rintro e w1b ⟨rfl, rfl⟩
      go_wp2_with fail
      refine (unhide K3).mono ?_
      rintro e w2 ⟨rfl, rfl⟩
      go_wp2
      go_ret2
      exact ⟨rfl, rfl⟩
    | true =>
      subst hfe
      have HD := hide ((unhide hf).1 rfl).2
      clear K2 hc hf
      go_enter Tryd.func67, Tryd.ntmps67
      go_wp2_with fail
      refine (unhide K1).mono ?_
      rintro e w1 ⟨rfl, rfl⟩
      go_wp2_with fail
      refine (unhide K2').mono ?_
      rintro e w1b ⟨rfl, rfl⟩
      go_wp2_with fail
      refine (unhide K3).mono ?_
      rintro e w2 ⟨rfl, rfl⟩
      clear K1 K3 K2'
      go_wp2
      go_loopw [6, 5] (fun i a wr => ∃ k : Nat, k ≤ X.size ∧ i = .int .i64 k ∧ a = .int .i64 ((min (dec (X.data.toList.take k)) 1080 : Nat) : Int) ∧ wr = w2) (fun i _ _ => X.size - (intOf i).toNat)
      case atStart => exact ⟨0, Nat.zero_le _, rfl, rfl, rfl⟩
      case round =>
        obtain ⟨k, hk, rfl, rfl, rfl⟩ := hrel
        by_cases hlt : k < X.size
        · have hb := byte_get X k hlt
          have dg := unhide HD _ (List.mem_of_getElem? hb)
          have HN := hide (dec_take hb)
          have lt' : (k : Int) < (X.size : Int) := by omega
          have g1 : (48 : Int) ≤ ((X[k]'hlt).toNat : Int) := by omega
          have g2 : ((X[k]'hlt).toNat : Int) ≤ 57 := by omega
          clear hb dg
          generalize hm : min (dec (X.data.toList.take k)) 1080 = m at *
          have m2 : m ≤ 1080 := by omega
          have HM := hide hm
          clear hm
          go_wp2
          go_roundw
          case rel => exact ⟨k + 1, by omega, by go_num, by have h1 := unhide HN; have h2 := unhide HM; rw [h1]; congr 1; omega, by trivial⟩
          case measure => simp [intOf]; omega
        · have hkl : k = X.size := by omega
          have nl : ¬ (k : Int) < (X.size : Int) := by omega
          subst hkl
          have e2 : X.data.toList.take X.size = X.data.toList := by rw [← blen_list, List.take_length]
          rw [e2]
          have m2 : min (dec X.data.toList) 1080 ≤ 1080 := by omega
          generalize hm : min (dec X.data.toList) 1080 = m at *
          have HM := hide hm
          clear hm
          go_wp2
          go_ret2
          refine ⟨?_, rfl⟩
          rw [unhide HM]
          rfl
end Go.Proofs.YtobbbhmkcmbekaaDoor.bigs
