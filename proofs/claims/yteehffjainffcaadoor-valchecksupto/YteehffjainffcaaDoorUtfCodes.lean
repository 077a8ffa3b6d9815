/- The walk of the document's Code at codes of several bytes. -/
import Derived.Test.YteehffjainffcaaDoorUtfCode
set_option linter.unusedVariables false
namespace Go.Proofs.YteehffjainffcaaDoor.utfs
open Go.RowKit

theorem two_of {P : Nat → Prop} {k : Nat} (h1 : 1 ≤ k) (h2 : k < 3) (h : ¬ P k) : ¬ P 1 ∨ ¬ P 2 := by
  rcases (show k = 1 ∨ k = 2 by omega) with e | e
  · subst e; exact .inl h
  · subst e; exact .inr h
theorem three_of {P : Nat → Prop} {k : Nat} (h1 : 1 ≤ k) (h2 : k < 4) (h : ¬ P k) : ¬ P 1 ∨ ¬ P 2 ∨ ¬ P 3 := by
  rcases (show k = 1 ∨ k = 2 ∨ k = 3 by omega) with e | e | e
  · subst e; exact .inl h
  · subst e; exact .inr (.inl h)
  · subst e; exact .inr (.inr h)

set_option maxHeartbeats 2000000 in
set_option maxRecDepth 100000 in
theorem code_2 (s : ByteArray) (w : World) (hs : s.size ≤ 9223372036854775807) (h0 : 0 < s.size) (hb : 192 ≤ byt s.data.toList 0 ∧ byt s.data.toList 0 < 224) :
    Calls Tryd.prog 24 #[.string s] w fun e w' => e = .returned (.tuple #[.int .i32 (nextR s.data.toList), .int .i64 (nextN s.data.toList)]) ∧ Below w.heap.size w w' := by
  have hl := list_ne s h0
  have hne : s.toList.isEmpty = false := not_empty s h0
  have g0 := by_get s 0 h0
  have b0 : 192 ≤ s[0].toNat ∧ s[0].toNat < 224 := by rw [← g0]; exact hb
  have G0 := hide g0
  have HB := hide hb
  have HLN := hide (len_list s)
  clear g0 hb
  by_cases hlen : s.size < 2
  · have hbad := class2_bad s.data.toList hl HB.out (.inl (by rw [len_list]; omega))
    rw [hbad.1, hbad.2]
    clear hbad hl
    go_enter Tryd.func24, Tryd.ntmps24
    go_wp2
    go_region
    go_wp2
    go_ret2
    exact ⟨rfl, (Below.refl _ w).drew⟩
  · have ta128 : decide ((s[0].toNat : Int) < 128) = false := decide_eq_false (by omega)
    have tb192 : decide (192 ≤ (s[0].toNat : Int)) = true := decide_eq_true (by omega)
    have ta224 : decide ((s[0].toNat : Int) < 224) = true := decide_eq_true (by omega)
    go_enter Tryd.func24, Tryd.ntmps24
    go_wp2
    go_region
    go_wp2
    go_loopw [6, 7] (fun r i wr => ∃ k : Nat, Below w.heap.size w wr ∧ 1 ≤ k ∧ k ≤ 2 ∧ i = .int .i64 k ∧ r = .int .i64 (val s.data.toList 192 k) ∧ Hid (∀ j, 1 ≤ j → j < k → cont s.data.toList j)) (fun _ i _ => 2 - (intOf i).toNat)
    case atStart =>
      refine ⟨1, (Below.refl _ w).drew, by omega, by omega, rfl, ?_, fun j h1 h2 => by omega⟩
      have v1 : val s.data.toList 192 1 = (byt s.data.toList 0 : Int) - 192 := rfl
      rw [v1, G0.out]
    case round =>
      obtain ⟨k, hbw, hk1, hk2, rfl, rfl, hcon⟩ := hrel
      have hvb := val_bound s.data.toList 192 (by have := HB.out; omega) (by have := HB.out; omega) k hk1 (by omega) hcon.out
      have hvs := hide (val_succ s.data.toList 192 k hk1)
      by_cases hlt : k < 2
      · have hks : k < s.size := by omega
        have gk := by_get s k hks
        have hk255 := by_lt s.data.toList k
        have GK := hide gk
        by_cases hct : cont s.data.toList k
        · have hct' : 128 ≤ s[k].toNat ∧ s[k].toNat < 192 := by rw [← GK.out]; exact hct
          have hcon2 : Hid (∀ j, 1 ≤ j → j < k + 1 → cont s.data.toList j) := fun j h1 h2 => by
            by_cases e : j = k
            · subst e; exact hct
            · exact hcon.out j h1 (by omega)
          clear hct gk
          generalize val s.data.toList 192 k = v at *
          go_wp2
          go_roundw
          case rel => exact ⟨k + 1, hbw, by omega, by omega, by go_num, by rw [hvs.out, GK.out], hcon2⟩
          case measure => simp [intOf]; omega
        · have hbad := class2_bad s.data.toList hl HB.out (.inr (by rwa [show k = 1 by omega] at hct))
          have hct' : s[k].toNat < 128 ∨ 192 ≤ s[k].toNat := by
            have : ¬ (128 ≤ byt s.data.toList k ∧ byt s.data.toList k < 192) := hct
            rw [GK.out] at this
            omega
          have HBAD := hide hbad
          clear hct gk hbad
          generalize val s.data.toList 192 k = v at *
          rcases hct' with hct' | hct'
          · go_wp2
            go_ret2
            rw [HBAD.out.1, HBAD.out.2]
            exact ⟨rfl, hbw⟩
          · go_wp2
            go_ret2
            rw [HBAD.out.1, HBAD.out.2]
            exact ⟨rfl, hbw⟩
      · obtain rfl : k = 2 := by omega
        have hc := hcon.out
        obtain ⟨q1, q2⟩ := class2 s.data.toList hl HB.out (by rw [len_list]; omega) (hc 1 (by omega) (by omega))
        clear hc hvs
        generalize val s.data.toList 192 2 = v at *
        by_cases hle : v < 128
        · have hbad := hide (q2 (.inl hle))
          clear q1 q2
          go_wp2
          go_ret2
          rw [hbad.out.1, hbad.out.2]
          exact ⟨rfl, hbw⟩
        · cases hsc : sc v with
          | true =>
            have hgood := hide (q1 ⟨by omega, hsc⟩)
            have hsv := sc_true hsc
            have hc := scalar_any v wr
            rw [hsc] at hc
            have HC := hide hc
            clear q1 q2 hc hsc
            go_wp2_with fail
            refine (unhide HC).mono ?_
            rintro e w1 ⟨rfl, rfl⟩
            go_wp2_with fail
            go_ret2
            rw [hgood.out.1, hgood.out.2]
            exact ⟨rfl, hbw⟩
          | false =>
            have hbad := hide (q2 (.inr hsc))
            have hc := scalar_any v wr
            rw [hsc] at hc
            have HC := hide hc
            clear q1 q2 hc hsc
            go_wp2_with fail
            refine (unhide HC).mono ?_
            rintro e w1 ⟨rfl, rfl⟩
            go_wp2_with fail
            go_ret2
            rw [hbad.out.1, hbad.out.2]
            exact ⟨rfl, hbw⟩

set_option maxHeartbeats 2000000 in
set_option maxRecDepth 100000 in
theorem code_3 (s : ByteArray) (w : World) (hs : s.size ≤ 9223372036854775807) (h0 : 0 < s.size) (hb : 224 ≤ byt s.data.toList 0 ∧ byt s.data.toList 0 < 240) :
    Calls Tryd.prog 24 #[.string s] w fun e w' => e = .returned (.tuple #[.int .i32 (nextR s.data.toList), .int .i64 (nextN s.data.toList)]) ∧ Below w.heap.size w w' := by
  have hl := list_ne s h0
  have hne : s.toList.isEmpty = false := not_empty s h0
  have g0 := by_get s 0 h0
  have b0 : 224 ≤ s[0].toNat ∧ s[0].toNat < 240 := by rw [← g0]; exact hb
  have G0 := hide g0
  have HB := hide hb
  have HLN := hide (len_list s)
  clear g0 hb
  by_cases hlen : s.size < 3
  · have hbad := class3_bad s.data.toList hl HB.out (.inl (by rw [len_list]; omega))
    rw [hbad.1, hbad.2]
    clear hbad hl
    go_enter Tryd.func24, Tryd.ntmps24
    go_wp2
    go_region
    go_wp2
    go_ret2
    exact ⟨rfl, (Below.refl _ w).drew⟩
  · have ta128 : decide ((s[0].toNat : Int) < 128) = false := decide_eq_false (by omega)
    have tb192 : decide (192 ≤ (s[0].toNat : Int)) = true := decide_eq_true (by omega)
    have ta224 : decide ((s[0].toNat : Int) < 224) = false := decide_eq_false (by omega)
    have tb224 : decide (224 ≤ (s[0].toNat : Int)) = true := decide_eq_true (by omega)
    have ta240 : decide ((s[0].toNat : Int) < 240) = true := decide_eq_true (by omega)
    go_enter Tryd.func24, Tryd.ntmps24
    go_wp2
    go_region
    go_wp2
    go_loopw [6, 7] (fun r i wr => ∃ k : Nat, Below w.heap.size w wr ∧ 1 ≤ k ∧ k ≤ 3 ∧ i = .int .i64 k ∧ r = .int .i64 (val s.data.toList 224 k) ∧ Hid (∀ j, 1 ≤ j → j < k → cont s.data.toList j)) (fun _ i _ => 3 - (intOf i).toNat)
    case atStart =>
      refine ⟨1, (Below.refl _ w).drew, by omega, by omega, rfl, ?_, fun j h1 h2 => by omega⟩
      have v1 : val s.data.toList 224 1 = (byt s.data.toList 0 : Int) - 224 := rfl
      rw [v1, G0.out]
    case round =>
      obtain ⟨k, hbw, hk1, hk2, rfl, rfl, hcon⟩ := hrel
      have hvb := val_bound s.data.toList 224 (by have := HB.out; omega) (by have := HB.out; omega) k hk1 (by omega) hcon.out
      have hvs := hide (val_succ s.data.toList 224 k hk1)
      by_cases hlt : k < 3
      · have hks : k < s.size := by omega
        have gk := by_get s k hks
        have hk255 := by_lt s.data.toList k
        have GK := hide gk
        by_cases hct : cont s.data.toList k
        · have hct' : 128 ≤ s[k].toNat ∧ s[k].toNat < 192 := by rw [← GK.out]; exact hct
          have hcon2 : Hid (∀ j, 1 ≤ j → j < k + 1 → cont s.data.toList j) := fun j h1 h2 => by
            by_cases e : j = k
            · subst e; exact hct
            · exact hcon.out j h1 (by omega)
          clear hct gk
          generalize val s.data.toList 224 k = v at *
          go_wp2
          go_roundw
          case rel => exact ⟨k + 1, hbw, by omega, by omega, by go_num, by rw [hvs.out, GK.out], hcon2⟩
          case measure => simp [intOf]; omega
        · have hbad := class3_bad s.data.toList hl HB.out (.inr (two_of hk1 hlt hct))
          have hct' : s[k].toNat < 128 ∨ 192 ≤ s[k].toNat := by
            have : ¬ (128 ≤ byt s.data.toList k ∧ byt s.data.toList k < 192) := hct
            rw [GK.out] at this
            omega
          have HBAD := hide hbad
          clear hct gk hbad
          generalize val s.data.toList 224 k = v at *
          rcases hct' with hct' | hct'
          · go_wp2
            go_ret2
            rw [HBAD.out.1, HBAD.out.2]
            exact ⟨rfl, hbw⟩
          · go_wp2
            go_ret2
            rw [HBAD.out.1, HBAD.out.2]
            exact ⟨rfl, hbw⟩
      · obtain rfl : k = 3 := by omega
        have hc := hcon.out
        obtain ⟨q1, q2⟩ := class3 s.data.toList hl HB.out (by rw [len_list]; omega) (hc 1 (by omega) (by omega)) (hc 2 (by omega) (by omega))
        clear hc hvs
        generalize val s.data.toList 224 3 = v at *
        by_cases hle : v < 2048
        · have hbad := hide (q2 (.inl hle))
          clear q1 q2
          go_wp2
          go_ret2
          rw [hbad.out.1, hbad.out.2]
          exact ⟨rfl, hbw⟩
        · cases hsc : sc v with
          | true =>
            have hgood := hide (q1 ⟨by omega, hsc⟩)
            have hsv := sc_true hsc
            have hc := scalar_any v wr
            rw [hsc] at hc
            have HC := hide hc
            clear q1 q2 hc hsc
            go_wp2_with fail
            refine (unhide HC).mono ?_
            rintro e w1 ⟨rfl, rfl⟩
            go_wp2_with fail
            go_ret2
            rw [hgood.out.1, hgood.out.2]
            exact ⟨rfl, hbw⟩
          | false =>
            have hbad := hide (q2 (.inr hsc))
            have hc := scalar_any v wr
            rw [hsc] at hc
            have HC := hide hc
            clear q1 q2 hc hsc
            go_wp2_with fail
            refine (unhide HC).mono ?_
            rintro e w1 ⟨rfl, rfl⟩
            go_wp2_with fail
            go_ret2
            rw [hbad.out.1, hbad.out.2]
            exact ⟨rfl, hbw⟩

set_option maxHeartbeats 2000000 in
set_option maxRecDepth 100000 in
theorem code_4 (s : ByteArray) (w : World) (hs : s.size ≤ 9223372036854775807) (h0 : 0 < s.size) (hb : 240 ≤ byt s.data.toList 0 ∧ byt s.data.toList 0 < 248) :
    Calls Tryd.prog 24 #[.string s] w fun e w' => e = .returned (.tuple #[.int .i32 (nextR s.data.toList), .int .i64 (nextN s.data.toList)]) ∧ Below w.heap.size w w' := by
  have hl := list_ne s h0
  have hne : s.toList.isEmpty = false := not_empty s h0
  have g0 := by_get s 0 h0
  have b0 : 240 ≤ s[0].toNat ∧ s[0].toNat < 248 := by rw [← g0]; exact hb
  have G0 := hide g0
  have HB := hide hb
  have HLN := hide (len_list s)
  clear g0 hb
  by_cases hlen : s.size < 4
  · have hbad := class4_bad s.data.toList hl HB.out (.inl (by rw [len_list]; omega))
    rw [hbad.1, hbad.2]
    clear hbad hl
    go_enter Tryd.func24, Tryd.ntmps24
    go_wp2
    go_region
    go_wp2
    go_ret2
    exact ⟨rfl, (Below.refl _ w).drew⟩
  · have ta128 : decide ((s[0].toNat : Int) < 128) = false := decide_eq_false (by omega)
    have tb192 : decide (192 ≤ (s[0].toNat : Int)) = true := decide_eq_true (by omega)
    have ta224 : decide ((s[0].toNat : Int) < 224) = false := decide_eq_false (by omega)
    have tb224 : decide (224 ≤ (s[0].toNat : Int)) = true := decide_eq_true (by omega)
    have ta240 : decide ((s[0].toNat : Int) < 240) = false := decide_eq_false (by omega)
    have tb240 : decide (240 ≤ (s[0].toNat : Int)) = true := decide_eq_true (by omega)
    have ta248 : decide ((s[0].toNat : Int) < 248) = true := decide_eq_true (by omega)
    go_enter Tryd.func24, Tryd.ntmps24
    go_wp2
    go_region
    go_wp2
    go_loopw [6, 7] (fun r i wr => ∃ k : Nat, Below w.heap.size w wr ∧ 1 ≤ k ∧ k ≤ 4 ∧ i = .int .i64 k ∧ r = .int .i64 (val s.data.toList 240 k) ∧ Hid (∀ j, 1 ≤ j → j < k → cont s.data.toList j)) (fun _ i _ => 4 - (intOf i).toNat)
    case atStart =>
      refine ⟨1, (Below.refl _ w).drew, by omega, by omega, rfl, ?_, fun j h1 h2 => by omega⟩
      have v1 : val s.data.toList 240 1 = (byt s.data.toList 0 : Int) - 240 := rfl
      rw [v1, G0.out]
    case round =>
      obtain ⟨k, hbw, hk1, hk2, rfl, rfl, hcon⟩ := hrel
      have hvb := val_bound s.data.toList 240 (by have := HB.out; omega) (by have := HB.out; omega) k hk1 (by omega) hcon.out
      have hvs := hide (val_succ s.data.toList 240 k hk1)
      by_cases hlt : k < 4
      · have hks : k < s.size := by omega
        have gk := by_get s k hks
        have hk255 := by_lt s.data.toList k
        have GK := hide gk
        by_cases hct : cont s.data.toList k
        · have hct' : 128 ≤ s[k].toNat ∧ s[k].toNat < 192 := by rw [← GK.out]; exact hct
          have hcon2 : Hid (∀ j, 1 ≤ j → j < k + 1 → cont s.data.toList j) := fun j h1 h2 => by
            by_cases e : j = k
            · subst e; exact hct
            · exact hcon.out j h1 (by omega)
          clear hct gk
          generalize val s.data.toList 240 k = v at *
          go_wp2
          go_roundw
          case rel => exact ⟨k + 1, hbw, by omega, by omega, by go_num, by rw [hvs.out, GK.out], hcon2⟩
          case measure => simp [intOf]; omega
        · have hbad := class4_bad s.data.toList hl HB.out (.inr (three_of hk1 hlt hct))
          have hct' : s[k].toNat < 128 ∨ 192 ≤ s[k].toNat := by
            have : ¬ (128 ≤ byt s.data.toList k ∧ byt s.data.toList k < 192) := hct
            rw [GK.out] at this
            omega
          have HBAD := hide hbad
          clear hct gk hbad
          generalize val s.data.toList 240 k = v at *
          rcases hct' with hct' | hct'
          · go_wp2
            go_ret2
            rw [HBAD.out.1, HBAD.out.2]
            exact ⟨rfl, hbw⟩
          · go_wp2
            go_ret2
            rw [HBAD.out.1, HBAD.out.2]
            exact ⟨rfl, hbw⟩
      · obtain rfl : k = 4 := by omega
        have hc := hcon.out
        obtain ⟨q1, q2⟩ := class4 s.data.toList hl HB.out (by rw [len_list]; omega) (hc 1 (by omega) (by omega)) (hc 2 (by omega) (by omega)) (hc 3 (by omega) (by omega))
        clear hc hvs
        generalize val s.data.toList 240 4 = v at *
        by_cases hle : v < 65536
        · have hbad := hide (q2 (.inl hle))
          clear q1 q2
          go_wp2
          go_ret2
          rw [hbad.out.1, hbad.out.2]
          exact ⟨rfl, hbw⟩
        · cases hsc : sc v with
          | true =>
            have hgood := hide (q1 ⟨by omega, hsc⟩)
            have hsv := sc_true hsc
            have hc := scalar_any v wr
            rw [hsc] at hc
            have HC := hide hc
            clear q1 q2 hc hsc
            go_wp2_with fail
            refine (unhide HC).mono ?_
            rintro e w1 ⟨rfl, rfl⟩
            go_wp2_with fail
            go_ret2
            rw [hgood.out.1, hgood.out.2]
            exact ⟨rfl, hbw⟩
          | false =>
            have hbad := hide (q2 (.inr hsc))
            have hc := scalar_any v wr
            rw [hsc] at hc
            have HC := hide hc
            clear q1 q2 hc hsc
            go_wp2_with fail
            refine (unhide HC).mono ?_
            rintro e w1 ⟨rfl, rfl⟩
            go_wp2_with fail
            go_ret2
            rw [hbad.out.1, hbad.out.2]
            exact ⟨rfl, hbw⟩

theorem code_any (s : ByteArray) (w : World) (hs : s.size ≤ 9223372036854775807) :
    Calls Tryd.prog 24 #[.string s] w fun e w' => e = .returned (.tuple #[.int .i32 (nextR s.data.toList), .int .i64 (nextN s.data.toList)]) ∧ Below w.heap.size w w' := by
  by_cases h0 : 0 < s.size
  · have hl := list_ne s h0
    by_cases h1 : byt s.data.toList 0 < 128
    · have h := code_one s w hs h0 h1
      obtain ⟨e1, e2⟩ := class1 s.data.toList hl h1
      rw [e1, e2]; exact h
    · by_cases h2 : byt s.data.toList 0 < 192
      · have h := code_lowbad s w hs h0 ⟨by omega, h2⟩
        obtain ⟨e1, e2⟩ := class0 s.data.toList hl (.inl ⟨by omega, h2⟩)
        rw [e1, e2]; exact h
      · by_cases h3 : byt s.data.toList 0 < 224
        · exact code_2 s w hs h0 ⟨by omega, h3⟩
        · by_cases h4 : byt s.data.toList 0 < 240
          · exact code_3 s w hs h0 ⟨by omega, h4⟩
          · by_cases h5 : byt s.data.toList 0 < 248
            · exact code_4 s w hs h0 ⟨by omega, h5⟩
            · have h := code_highbad s w hs h0 (by omega)
              obtain ⟨e1, e2⟩ := class0 s.data.toList hl (.inr (by omega))
              rw [e1, e2]; exact h
  · have hz : s.size = 0 := by omega
    have h := code_empty s w hz
    have e : s.data.toList = [] := List.eq_nil_of_length_eq_zero (by rw [len_list]; exact hz)
    have e1 : nextR s.data.toList = -1 := by simp [nextR, e]
    have e2 : nextN s.data.toList = 0 := by simp [nextN, e]
    rw [e1, e2]; exact h
end Go.Proofs.YteehffjainffcaaDoor.utfs
