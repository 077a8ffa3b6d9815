/- The walks of the cutter: runs, texts. -/
import Derived.Test.YtoikdjbgeebadaaTokBlk
set_option linter.unusedVariables false
namespace Go.Proofs.Ytoikdjbgeebadaa.toks
open Go.RowKit

theorem run_more {p : UInt8 → Bool} {s : ByteArray} {a k : Nat} (h : k < s.size) (hp : p (s[k]'h) = true) (hr : a + runL p (s.data.toList.drop a) = k + runL p (s.data.toList.drop k)) : a + runL p (s.data.toList.drop a) = (k + 1) + runL p (s.data.toList.drop (k + 1)) := by
  rw [hr, run_step (by rw [len_list]; exact h) (by rw [byte_at s k h]; exact hp)]
  omega
theorem run_here {p : UInt8 → Bool} {s : ByteArray} {a k : Nat} (h : k < s.size) (hp : p (s[k]'h) = false) (hr : a + runL p (s.data.toList.drop a) = k + runL p (s.data.toList.drop k)) : a + runL p (s.data.toList.drop a) = k := by
  rw [hr, run_stop (by rw [len_list]; exact h) (by rw [byte_at s k h]; exact hp)]
  omega
theorem run_over {p : UInt8 → Bool} {s : ByteArray} {a k : Nat} (h : s.size ≤ k) (hr : a + runL p (s.data.toList.drop a) = k + runL p (s.data.toList.drop k)) : a + runL p (s.data.toList.drop a) = k := by
  rw [hr, run_end (by rw [len_list]; exact h)]
  omega
set_option maxHeartbeats 1000000 in
set_option maxRecDepth 100000 in
theorem runB_any (w : World) (B : Nat) (s : ByteArray) (m : Nat) (b : Bool) (a : Nat) (ha : a ≤ s.size) (hs : s.size ≤ 20000) (hc : Ctr w B s m b) :
    Calls Try.prog 37 #[.pointer (some ⟨B, 0, none⟩), .int .i64 (a : Int), .func (.func 36) #[] #[]] w fun e w' => e = .returned (.int .i64 ((a + runL isB (s.data.toList.drop a) : Nat) : Int)) ∧ w' = w := by
  have c0 := hc.cell 0 _ rfl
  clear hc
  go_enter Try.func37, Try.ntmps37
  go_wp2_with fail
  go_loopw [1] (fun i wr => ∃ k : Nat, k ≤ s.size ∧ i = .int .i64 k ∧ Hid (a + runL isB (s.data.toList.drop a) = k + runL isB (s.data.toList.drop k)) ∧ wr = w) (fun i _ => s.size - (intOf i).toNat)
  case atStart => exact ⟨a, ha, rfl, hide rfl, rfl⟩
  case round =>
    obtain ⟨k, hk, rfl, hr, hw⟩ := hrel
    subst hw
    by_cases hlt : k < s.size
    · have KI := hide (isBlank_any wr (s[k]'hlt))
      have RM := hide (run_more (p := isB) (a := a) hlt)
      have RH := hide (run_here (p := isB) (a := a) hlt)
      generalize isB (s[k]'hlt) = o at *
      have i1 : (k : Int) < (s.size : Int) := by omega
      cases o with
      | true =>
        have RM2 := hide (unhide RM rfl (unhide hr))
        clear RM RH hr
        go_wp2_with fail
        refine (unhide KI).mono ?_
        rintro e w2 ⟨rfl, hw⟩
        rw [hw]
        clear hw KI
        go_wp2
        go_roundw
        case rel => exact ⟨k + 1, by omega, by go_num, RM2, by first | rfl | trivial⟩
        case measure => simp [intOf]; omega
      | false =>
        have RH2 := hide (unhide RH rfl (unhide hr))
        clear RM RH hr
        go_wp2_with fail
        refine (unhide KI).mono ?_
        rintro e w2 ⟨rfl, hw⟩
        rw [hw]
        clear hw KI
        go_wp2
        go_ret
        rw [unhide RH2]
        exact ⟨rfl, rfl⟩
    · have RO := hide (run_over (p := isB) (a := a) (Nat.le_of_not_lt hlt) (unhide hr))
      have hks : k = s.size := by omega
      clear hr
      have d1 : decide ((k : Int) < (s.size : Int)) = false := decide_eq_false (by omega)
      clear hks
      go_wp2
      go_ret
      rw [unhide RO]
      exact ⟨rfl, rfl⟩
set_option maxHeartbeats 1000000 in
set_option maxRecDepth 100000 in
theorem runW_any (w : World) (B : Nat) (s : ByteArray) (m : Nat) (b : Bool) (a : Nat) (ha : a ≤ s.size) (hs : s.size ≤ 20000) (hc : Ctr w B s m b) :
    Calls Try.prog 37 #[.pointer (some ⟨B, 0, none⟩), .int .i64 (a : Int), .func (.func 39) #[] #[]] w fun e w' => e = .returned (.int .i64 ((a + runL isW (s.data.toList.drop a) : Nat) : Int)) ∧ w' = w := by
  have c0 := hc.cell 0 _ rfl
  clear hc
  go_enter Try.func37, Try.ntmps37
  go_wp2_with fail
  go_loopw [1] (fun i wr => ∃ k : Nat, k ≤ s.size ∧ i = .int .i64 k ∧ Hid (a + runL isW (s.data.toList.drop a) = k + runL isW (s.data.toList.drop k)) ∧ wr = w) (fun i _ => s.size - (intOf i).toNat)
  case atStart => exact ⟨a, ha, rfl, hide rfl, rfl⟩
  case round =>
    obtain ⟨k, hk, rfl, hr, hw⟩ := hrel
    subst hw
    by_cases hlt : k < s.size
    · have KI := hide (inWord_any wr (s[k]'hlt))
      have RM := hide (run_more (p := isW) (a := a) hlt)
      have RH := hide (run_here (p := isW) (a := a) hlt)
      generalize isW (s[k]'hlt) = o at *
      have i1 : (k : Int) < (s.size : Int) := by omega
      cases o with
      | true =>
        have RM2 := hide (unhide RM rfl (unhide hr))
        clear RM RH hr
        go_wp2_with fail
        refine (unhide KI).mono ?_
        rintro e w2 ⟨rfl, hw⟩
        rw [hw]
        clear hw KI
        go_wp2
        go_roundw
        case rel => exact ⟨k + 1, by omega, by go_num, RM2, by first | rfl | trivial⟩
        case measure => simp [intOf]; omega
      | false =>
        have RH2 := hide (unhide RH rfl (unhide hr))
        clear RM RH hr
        go_wp2_with fail
        refine (unhide KI).mono ?_
        rintro e w2 ⟨rfl, hw⟩
        rw [hw]
        clear hw KI
        go_wp2
        go_ret
        rw [unhide RH2]
        exact ⟨rfl, rfl⟩
    · have RO := hide (run_over (p := isW) (a := a) (Nat.le_of_not_lt hlt) (unhide hr))
      have hks : k = s.size := by omega
      clear hr
      have d1 : decide ((k : Int) < (s.size : Int)) = false := decide_eq_false (by omega)
      clear hks
      go_wp2
      go_ret
      rw [unhide RO]
      exact ⟨rfl, rfl⟩
theorem b_eq {c : UInt8} (k : UInt8) (h : c = k) : ((c.toNat : Int) == (k.toNat : Int)) = true := by rw [h]; exact beq_self_eq_true _
theorem b_ne {c : UInt8} (k : UInt8) (h : c ≠ k) : ((c.toNat : Int) == (k.toNat : Int)) = false := beq_false_of_ne (fun e => h (UInt8.toNat_inj.1 (by omega)))
theorem b_eq' {c : UInt8} (k : UInt8) (h : c = k) : ((c.toNat : Int) != (k.toNat : Int)) = false := by unfold bne; rw [b_eq k h]; rfl
theorem b_ne' {c : UInt8} (k : UInt8) (h : c ≠ k) : ((c.toNat : Int) != (k.toNat : Int)) = true := by unfold bne; rw [b_ne k h]; rfl
theorem Ctr.text {w : World} {B : Nat} {s : ByteArray} {m : Nat} {b : Bool} (h : Ctr w B s m b) (e : Nat) : Ctr (w.setCell ⟨B, 1, none⟩ (.int .i64 (e : Int))) B s e b := by
  have := h.set 1 (.int .i64 (e : Int))
  simpa [Ctr] using this
theorem Ctr.note {w : World} {B : Nat} {s : ByteArray} {m : Nat} {b : Bool} (h : Ctr w B s m b) : Ctr (w.setCell ⟨B, 2, none⟩ (.bool true)) B s m true := by
  have := h.set 2 (.bool true)
  simpa [Ctr] using this
set_option maxHeartbeats 1000000 in
set_option maxRecDepth 100000 in
theorem text_low (w : World) (B : Nat) (s : ByteArray) (m : Nat) (b : Bool) (a : Nat) (ha : a < s.size) (hs : s.size ≤ 20000) (hc : Ctr w B s m b) (hm : a < m) :
    Calls Try.prog 42 #[.pointer (some ⟨B, 0, none⟩), .int .i64 (a : Int)] w fun e w' => e = .returned (.tuple #[.int .i64 0, .bool false]) ∧ w' = w := by
  have c1 := hc.cell 1 _ rfl
  clear hc
  have d1 : decide ((a : Int) < (m : Int)) = true := decide_eq_true (by omega)
  have i1 : (a : Int) < (m : Int) := by omega
  go_enter Try.func42, Try.ntmps42
  go_wp2
  go_ret2
  exact ⟨rfl, rfl⟩
set_option maxHeartbeats 1000000 in
set_option maxRecDepth 100000 in
theorem text_no (w : World) (B : Nat) (s : ByteArray) (m : Nat) (b : Bool) (a : Nat) (ha : a < s.size) (hs : s.size ≤ 20000) (hc : Ctr w B s m b) (h34 : s[a]'ha ≠ 34) :
    Calls Try.prog 42 #[.pointer (some ⟨B, 0, none⟩), .int .i64 (a : Int)] w fun e w' => e = .returned (.tuple #[.int .i64 0, .bool false]) ∧ w' = w := by
  by_cases hm : a < m
  · exact text_low w B s m b a ha hs hc hm
  have c0 := hc.cell 0 _ rfl
  have c1 := hc.cell 1 _ rfl
  clear hc
  have i2 : (((s[a]'ha).toNat : Int) == 34) = false := b_ne 34 h34
  have i3 : (((s[a]'ha).toNat : Int) != 34) = true := b_ne' 34 h34
  have d1 : decide ((a : Int) < (m : Int)) = false := decide_eq_false (by omega)
  have d0 : decide (a < m) = false := decide_eq_false (by omega)
  clear h34
  go_enter Try.func42, Try.ntmps42
  go_wp2
  go_ret2
  exact ⟨rfl, rfl⟩
theorem wayS_two {s : ByteArray} {a e : Nat} (w : Way s.data.toList a e) (h : e + 1 < s.size) (h0 : e < s.size) (h1 : s[e]'h0 = 92) (h2 : s[e + 1]'h ≠ 10) : Way s.data.toList a (e + 2) :=
  way_two w (by rw [len_list]; exact h) h1 h2
theorem wayS_next {s : ByteArray} {a e : Nat} (w : Way s.data.toList a e) (h : e < s.size) (h1 : s[e]'h ≠ 34) (h2 : s[e]'h ≠ 10) (h3 : s[e]'h = 92 → ∀ h : e + 1 < s.size, s[e + 1]'h = 10) : Way s.data.toList a (e + 1) :=
  way_next w (by rw [len_list]; exact h) h1 h2 (fun q h' => h3 q (by rw [len_list] at h'; exact h'))
theorem wayS_hit {s : ByteArray} {a e : Nat} (w : Way s.data.toList a e) (h : e < s.size) (h1 : s[e]'h = 34) : shutN (s.data.toList.drop (a + 1)) = e - a :=
  way_hit w (by rw [len_list]; exact h) h1
theorem wayS_end {s : ByteArray} {a e : Nat} (w : Way s.data.toList a e) (h : s.size ≤ e ∨ ∃ h : e < s.size, s[e]'h = 10) : shutN (s.data.toList.drop (a + 1)) = 0 ∧ NoText s.data.toList a e := by
  refine way_none w ?_
  rcases h with h | ⟨h, h1⟩
  · exact shut_end (by rw [len_list]; exact h)
  · exact shut_line (by rw [len_list]; exact h) h1
set_option maxHeartbeats 2000000 in
set_option maxRecDepth 100000 in
theorem text_quote (w : World) (B : Nat) (s : ByteArray) (m : Nat) (b : Bool) (a : Nat) (ha : a < s.size) (hs : s.size ≤ 20000) (hc : Ctr w B s m b) (hm : m ≤ a) (h34 : s[a]'ha = 34) :
    Calls Try.prog 42 #[.pointer (some ⟨B, 0, none⟩), .int .i64 (a : Int)] w fun e w' =>
      (e = .returned (.tuple #[.int .i64 ((a + 1 + shutN (s.data.toList.drop (a + 1)) : Nat) : Int), .bool true]) ∧ shutN (s.data.toList.drop (a + 1)) ≠ 0 ∧ w' = w) ∨
      (∃ q : Nat, e = .returned (.tuple #[.int .i64 0, .bool false]) ∧ shutN (s.data.toList.drop (a + 1)) = 0 ∧ NoText s.data.toList a q ∧ q ≤ s.size ∧ w' = w.setCell ⟨B, 1, none⟩ (.int .i64 (q : Int))) := by
  have c0 := hc.cell 0 _ rfl
  have c1 := hc.cell 1 _ rfl
  have f1 := hc.froz 1
  clear hc
  have i2 : (((s[a]'ha).toNat : Int) == 34) = true := b_eq 34 h34
  have i3 : (((s[a]'ha).toNat : Int) != 34) = false := b_eq' 34 h34
  have d1 : decide ((a : Int) < (m : Int)) = false := decide_eq_false (by omega)
  have d0 : decide (a < m) = false := decide_eq_false (by omega)
  have W0 := hide (way_start (l := s.data.toList) (a := a) (by rw [len_list]; exact ha))
  clear h34
  go_enter Try.func42, Try.ntmps42
  go_wp2_with fail
  clear i2 i3
  go_loopw [6] (fun i wr => ∃ k : Nat, k ≤ s.size ∧ i = .int .i64 k ∧ Hid (Way s.data.toList a k) ∧ wr = w) (fun i _ => s.size - (intOf i).toNat)
  case atStart => exact ⟨a + 1, ha, by go_num, W0, rfl⟩
  case round =>
    obtain ⟨k, hk, rfl, hW, hw⟩ := hrel
    subst hw
    have hak := (unhide hW).lo
    by_cases hlt : k < s.size
    · have i1 : (k : Int) < (s.size : Int) := by omega
      by_cases h10 : s[k]'hlt = 10
      · have E := hide (wayS_end (unhide hW) (.inr ⟨hlt, h10⟩))
        have j1 : (((s[k]'hlt).toNat : Int) == 10) = true := b_eq 10 h10
        have j2 : (((s[k]'hlt).toNat : Int) != 10) = false := b_eq' 10 h10
        clear h10 hW W0
        go_wp2
        go_ret2
        exact .inr ⟨k, rfl, (unhide E).1, (unhide E).2, hk, rfl⟩
      · have j1 : (((s[k]'hlt).toNat : Int) == 10) = false := b_ne 10 h10
        have j2 : (((s[k]'hlt).toNat : Int) != 10) = true := b_ne' 10 h10
        by_cases h3 : s[k]'hlt = 34
        · have E := hide (wayS_hit (unhide hW) hlt h3)
          have j3 : (((s[k]'hlt).toNat : Int) == 34) = true := b_eq 34 h3
          clear h10 h3 hW W0
          go_wp2
          go_ret2
          refine .inl ⟨?_, ?_, rfl⟩
          · rw [unhide E, show a + 1 + (k - a) = k + 1 by omega]
            go_num
          · rw [unhide E]; omega
        · have j3 : (((s[k]'hlt).toNat : Int) == 34) = false := b_ne 34 h3
          by_cases h9 : s[k]'hlt = 92
          · have j4 : (((s[k]'hlt).toNat : Int) == 92) = true := b_eq 92 h9
            by_cases hl2 : k + 1 < s.size
            · have i4 : (k : Int) + 1 < (s.size : Int) := by omega
              by_cases h11 : s[k + 1]'hl2 = 10
              · have E := hide (wayS_next (unhide hW) hlt h3 h10 (fun _ _ => h11))
                have j5 : (((s[k + 1]'hl2).toNat : Int) == 10) = true := b_eq 10 h11
                have j6 : (((s[k + 1]'hl2).toNat : Int) != 10) = false := b_eq' 10 h11
                clear h10 h3 h9 h11 hW W0
                go_wp2
                go_roundw
                case rel => exact ⟨k + 1, by omega, by go_num, E, by first | rfl | trivial⟩
                case measure => simp [intOf]; omega
              · have E := hide (wayS_two (unhide hW) hl2 hlt h9 h11)
                have j5 : (((s[k + 1]'hl2).toNat : Int) == 10) = false := b_ne 10 h11
                have j6 : (((s[k + 1]'hl2).toNat : Int) != 10) = true := b_ne' 10 h11
                clear h10 h3 h9 h11 hW W0
                go_wp2
                go_roundw
                case rel => exact ⟨k + 2, by omega, by go_num, E, by first | rfl | trivial⟩
                case measure => simp [intOf]; omega
            · have E := hide (wayS_next (unhide hW) hlt h3 h10 (fun _ h => absurd h hl2))
              have d4 : decide ((k : Int) + 1 < (s.size : Int)) = false := decide_eq_false (by omega)
              clear h10 h3 h9 hW W0
              go_wp2
              go_roundw
              case rel => exact ⟨k + 1, by omega, by go_num, E, by first | rfl | trivial⟩
              case measure => simp [intOf]; omega
          · have E := hide (wayS_next (unhide hW) hlt h3 h10 (fun h => absurd h h9))
            have j4 : (((s[k]'hlt).toNat : Int) == 92) = false := b_ne 92 h9
            clear h10 h3 h9 hW W0
            go_wp2
            go_roundw
            case rel => exact ⟨k + 1, by omega, by go_num, E, by first | rfl | trivial⟩
            case measure => simp [intOf]; omega
    · have E := hide (wayS_end (unhide hW) (.inl (Nat.le_of_not_lt hlt)))
      have d4 : decide ((k : Int) < (s.size : Int)) = false := decide_eq_false (by omega)
      clear hW W0
      go_wp2
      go_ret2
      exact .inr ⟨k, rfl, (unhide E).1, (unhide E).2, hk, rfl⟩
end Go.Proofs.Ytoikdjbgeebadaa.toks
