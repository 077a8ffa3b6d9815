/- Of our texts, what this claim reaches. -/
import Derived.Test.YtnbfnjhbmeocfaaGreatDoorPblBD
import Derived.Test.YtnbfnjhbmeocfaaGreatDoorPblAS
import Derived.Deep.QuietTactic
import Derived.BigQuiet
set_option linter.unusedVariables false
set_option maxHeartbeats 4000000
set_option maxRecDepth 100000
namespace Go.Proofs.YtnbfnjhbmeocfaaGreatDoor.escs
open Go.RowKit
open utfs
open bigs (hexv hexv_le hexv_dec hexv_small hexv_great hexv_none ndrop ndrop_end nlen)
def saidR : Said → Int
 | .inl _ => 0
 | .inr (r, _) => r
def saidN : Said → Nat
 | .inl _ => 0
 | .inr (_, n) => n
def saidE : Said → Int
 | .inl e => e
 | .inr (_, _) => 0
def hexD (c : UInt8) : Int := if hexv c < 16 then (hexv c : Int) else -1
theorem digitE_any (w : World) (c : UInt8) :
  Calls Tryz.prog 279 #[.int .u8 (c.toNat : Int)] w fun e w' => e = .returned (.int .i32 (hexD c)) ∧ w' = w := by
 have u := UInt8.toNat_lt c
 have D := @hexv_dec c
 have S := @hexv_small c
 have G := @hexv_great c
 have N := @hexv_none c
 have HD : hexD c = if hexv c < 16 then (hexv c : Int) else -1 := rfl
 have key : ∀ b : Int, hexD c = b → Calls Tryz.prog 279 #[.int .u8 (c.toNat : Int)] w (fun e w' => e = .returned (.int .i32 b) ∧ w' = w) → Calls Tryz.prog 279 #[.int .u8 (c.toNat : Int)] w (fun e w' => e = .returned (.int .i32 (hexD c)) ∧ w' = w) := fun b e h => by rw [e]; exact h
 generalize hexD c = o at *
 generalize hexv c = v at *
 generalize c.toNat = n at *
 by_cases a1 : 48 ≤ n ∧ n ≤ 57
 ·have V := D a1.1 a1.2
  refine key ((n : Int) - 48) (by rw [HD, V, if_pos (by omega)]; omega) ?_
  obtain ⟨b1, b2⟩ := a1
  have i1 : (48 : Int) ≤ (n : Int) := by omega
  have i2 : (n : Int) ≤ 57 := by omega
  clear D S G N V HD key
  go_enter Tryz.func279, Tryz.ntmps279
  go_wp2
  go_ret
  refine ⟨?_, rfl⟩
  go_num
 ·by_cases a2 : 97 ≤ n ∧ n ≤ 102
  ·have V := S a2.1 a2.2
   refine key ((n : Int) - 97 + 10) (by rw [HD, V, if_pos (by omega)]; omega) ?_
   obtain ⟨b1, b2⟩ := a2
   have i1 : (48 : Int) ≤ (n : Int) := by omega
   have i2 : ¬ (n : Int) ≤ 57 := by omega
   have i3 : (97 : Int) ≤ (n : Int) := by omega
   have i4 : (n : Int) ≤ 102 := by omega
   clear D S G N a1 V HD key
   go_enter Tryz.func279, Tryz.ntmps279
   go_wp2
   go_ret
   refine ⟨?_, rfl⟩
   go_num
  ·by_cases a3 : 65 ≤ n ∧ n ≤ 70
   ·have V := G a3.1 a3.2
    refine key ((n : Int) - 65 + 10) (by rw [HD, V, if_pos (by omega)]; omega) ?_
    obtain ⟨b1, b2⟩ := a3
    have i1 : (48 : Int) ≤ (n : Int) := by omega
    have i2 : ¬ (n : Int) ≤ 57 := by omega
    have i3 : ¬ (97 : Int) ≤ (n : Int) := by omega
    have i5 : (65 : Int) ≤ (n : Int) := by omega
    have i6 : (n : Int) ≤ 70 := by omega
    clear D S G N a1 a2 V HD key
    go_enter Tryz.func279, Tryz.ntmps279
    go_wp2
    go_ret
    refine ⟨?_, rfl⟩
    go_num
   ·have V := N a1 a2 a3
    refine key (-1) (by rw [HD, V, if_neg (by omega)]) ?_
    clear D S G N V HD key
    by_cases b1 : n < 48
    ·have i1 : ¬ (48 : Int) ≤ (n : Int) := by omega
     have i3 : ¬ (97 : Int) ≤ (n : Int) := by omega
     have i5 : ¬ (65 : Int) ≤ (n : Int) := by omega
     clear a1 a2 a3
     go_enter Tryz.func279, Tryz.ntmps279
     go_wp2
     go_ret
     exact ⟨rfl, rfl⟩
    ·have i1 : (48 : Int) ≤ (n : Int) := by omega
     have i2 : ¬ (n : Int) ≤ 57 := by omega
     by_cases b2 : n < 65
     ·have i3 : ¬ (97 : Int) ≤ (n : Int) := by omega
      have i5 : ¬ (65 : Int) ≤ (n : Int) := by omega
      clear a1 a2 a3
      go_enter Tryz.func279, Tryz.ntmps279
      go_wp2
      go_ret
      exact ⟨rfl, rfl⟩
     ·have i5 : (65 : Int) ≤ (n : Int) := by omega
      have i6 : ¬ (n : Int) ≤ 70 := by omega
      by_cases b3 : n < 97
      ·have i3 : ¬ (97 : Int) ≤ (n : Int) := by omega
       clear a1 a2 a3
       go_enter Tryz.func279, Tryz.ntmps279
       go_wp2
       go_ret
       exact ⟨rfl, rfl⟩
      ·have i3 : (97 : Int) ≤ (n : Int) := by omega
       have i4 : ¬ (n : Int) ≤ 102 := by omega
       clear a1 a2 a3
       go_enter Tryz.func279, Tryz.ntmps279
       go_wp2
       go_ret
       exact ⟨rfl, rfl⟩
theorem hexF_zero (v : Nat) (l : List UInt8) : hexF 0 v l = (v, 0) := rfl
theorem hexF_nil (f v : Nat) : hexF f v [] = (v, 0) := by cases f <;> rfl
theorem hexF_yes {f v : Nat} {c : UInt8} {l : List UInt8} (h : hexv c < 16) : hexF (f + 1) v (c :: l) = ((hexF f (v * 16 + hexv c) l).1, (hexF f (v * 16 + hexv c) l).2 + 1) := by rw [hexF, if_pos h]
theorem hexF_no {f v : Nat} {c : UInt8} {l : List UInt8} (h : ¬ hexv c < 16) : hexF (f + 1) v (c :: l) = (v, 0) := by rw [hexF, if_neg h]
def Upto (L : List UInt8) (v k : Nat) : Prop := hexF 6 0 L = ((hexF (6 - k) v (L.drop k)).1, k + (hexF (6 - k) v (L.drop k)).2)
theorem upto_more {s : ByteArray} {v k : Nat} (hk : k < s.size) (h6 : k < 6) (h : Upto s.data.toList v k) (hx : hexv (s[k]'hk) < 16) : Upto s.data.toList (v * 16 + hexv (s[k]'hk)) (k + 1) := by
 unfold Upto at *
 rw [h, ndrop s k hk, show 6 - k = (6 - (k + 1)) + 1 by omega, hexF_yes hx]
 simp only
 apply Prod.ext
 ·rfl
 ·simp only; omega
theorem upto_stop {s : ByteArray} {v k : Nat} (h : Upto s.data.toList v k) (hx : ¬ k < s.size ∨ ¬ k < 6 ∨ ∃ hk : k < s.size, ¬ hexv (s[k]'hk) < 16) : hexF 6 0 s.data.toList = (v, k) := by
 unfold Upto at h
 rw [h]
 have key : hexF (6 - k) v (s.data.toList.drop k) = (v, 0) := by
  rcases hx with hx | hx | ⟨hk, hx⟩
  ·rw [List.drop_of_length_le (by rw [len_list]; omega), hexF_nil]
  ·rw [show 6 - k = 0 by omega, hexF_zero]
  ·rw [ndrop s k hk]
   rcases Nat.lt_or_ge k 6 with q | q
   ·rw [show 6 - k = (6 - (k + 1)) + 1 by omega, hexF_no hx]
   ·rw [show 6 - k = 0 by omega, hexF_zero]
 rw [key]
 simp
theorem prefix_head (l : List UInt8) (c : UInt8) : Lib.hasPrefix l [c] = decide (l.head? = some c) := by
 cases l with
 | nil => rfl
 | cons a r =>
  by_cases e : a = c
  ·subst e; simp [Lib.hasPrefix]
  ·simp [Lib.hasPrefix, List.isPrefixOf, Ne.symm e, e]
theorem numQ_none {L : List UInt8} {v : Nat} (h : hexF 6 0 L = (v, 0)) : numQ L = .inl 4 := by
 unfold numQ
 rw [h, if_pos (.inl rfl)]
theorem numQ_open {L : List UInt8} {v k : Nat} (h : hexF 6 0 L = (v, k)) (hh : (L.drop k).head? ≠ some 125) : numQ L = .inl 4 := by
 unfold numQ
 rw [h, if_pos (.inr hh)]
theorem numQ_shut {L : List UInt8} {v k : Nat} (h : hexF 6 0 L = (v, k)) (hk : k ≠ 0) (hh : (L.drop k).head? = some 125) : numQ L = if sc (v : Int) = true then .inr ((v : Int), (k + 4)) else .inl 3 := by
 unfold numQ
 rw [h, if_neg (by rw [hh]; simp [hk])]
theorem shl_four (v : Nat) (h : v < 1048576) : IntKind.i32.wrap ((v : Int) * 16) = ((v * 16 : Nat) : Int) := by
 simp [IntKind.wrap, IntKind.bits, IntKind.signed]
 omega
theorem numb_any (w : World) (s : ByteArray) (hs : s.size ≤ 1073741824) (Q : Said) (hQ : Hid (Q = numQ s.data.toList)) :
  Calls Tryz.prog 267 #[.string s] w fun e w' => e = .returned (.tuple #[.int .i32 (saidR Q), .int .i64 (saidN Q : Int), .int .i64 (saidE Q)]) ∧ Below w.heap.size w w' := by
 have KD : ∀ (c : UInt8) (W : World), Hid (Calls Tryz.prog 279 #[.int .u8 (c.toNat : Int)] W fun e w' => e = .returned (.int .i32 (hexD c)) ∧ w' = W) := fun c W => hide (digitE_any W c)
 go_enter Tryz.func267, Tryz.ntmps267
 go_wp2_with fail
 go_loopw [5, 6] (fun r n wr => ∃ v k : Nat, r = .int .i32 (v : Int) ∧ n = .int .i64 (k : Int) ∧ k ≤ 6 ∧ k ≤ s.size ∧ Hid (v < 16 ^ k) ∧ Hid (Upto s.data.toList v k) ∧ Hid (Below w.heap.size w wr)) (fun _ n _ => s.size - (intOf n).toNat)
 case atStart => exact ⟨0, 0, rfl, rfl, by omega, by omega, hide (by decide), hide (by unfold Upto; simp), hide (Below.refl _ _)⟩
 case round =>
  obtain ⟨v, k, rfl, rfl, k6, hks, hv, hU, hB⟩ := hrel
  by_cases c1 : k < s.size
  ·have i1 : (k : Int) < (s.size : Int) := by omega
   by_cases c2 : k < 6
   ·have i2 : (k : Int) < 6 := by omega
    have v20 : v < 1048576 := Nat.lt_of_lt_of_le (unhide hv) (Nat.pow_le_pow_right (by decide) (show k ≤ 5 by omega))
    have KC := KD (s[k]'c1)
    have UM := hide (upto_more c1 c2 (unhide hU))
    by_cases c3 : hexv (s[k]'c1) < 16
    ·have hD : hexD (s[k]'c1) = (hexv (s[k]'c1) : Int) := by unfold hexD; rw [if_pos c3]
     rw [hD] at KC
     have UM2 := hide (unhide UM c3)
     have hv2 : Hid (v * 16 + hexv (s[k]'c1) < 16 ^ (k + 1)) := hide (by have := unhide hv; rw [Nat.pow_succ]; omega)
     have y1 := shl_four v v20
     have y2 : IntKind.i32.wrap (((v * 16 : Nat) : Int) + (hexv (s[k]'c1) : Int)) = ((v * 16 + hexv (s[k]'c1) : Nat) : Int) := by
      simp [IntKind.wrap, IntKind.bits, IntKind.signed]
      omega
     have i3 : (hexv (s[k]'c1) : Int) ≥ 0 := by omega
     clear hD UM hv hU hQ KD
     generalize hexv (s[k]'c1) = d at *
     go_wp2_with fail
     refine (unhide (KC wr)).mono ?_
     rintro _ w1 ⟨rfl, hw⟩
     rw [hw]
     clear hw
     go_wp2_with fail
     refine (unhide (KC wr)).mono ?_
     rintro _ w1 ⟨rfl, hw⟩
     rw [hw]
     clear hw
     go_wp2
     go_roundw
     case rel => exact ⟨v * 16 + d, k + 1, by go_num, by go_num, by omega, by omega, hv2, UM2, hB⟩
     case measure => simp [intOf]; omega
    ·have hD : hexD (s[k]'c1) = -1 := by unfold hexD; rw [if_neg c3]
     rw [hD] at KC
     clear UM v20 hD
     go_wp2_with fail
     refine (unhide (KC wr)).mono ?_
     rintro _ W0 ⟨rfl, hw⟩
     have BB : Hid (Below w.heap.size w W0) := hide (by rw [hw]; exact unhide hB)
     clear hw hB KC KD
     have hF := upto_stop (unhide hU) (.inr (.inr ⟨c1, c3⟩))
     have v24 : v < 16777216 := Nat.lt_of_lt_of_le (unhide hv) (Nat.pow_le_pow_right (by decide) k6)
     have s0 : (0 : Int) ≤ (k : Int) := by omega
     have s1 : (k : Int) ≤ (s.size : Int) := by omega
     have KP := hide (Tryz.strings_HasPrefix (s.extract k s.size) ⟨#[125]⟩ W0)
     rw [ext_drop] at KP
     have KP : Hid (Calls Tryz.prog 132 #[.string (s.extract k s.size), .string ⟨#[125]⟩] W0 fun e w' => e = .returned (.bool (decide ((s.data.toList.drop k).head? = some 125))) ∧ w' = W0) := hide (by rw [← prefix_head]; exact unhide KP)
     by_cases k0 : k = 0
     ·have F : Hid (Q = .inl 4) := hide (by rw [unhide hQ]; exact numQ_none (by rw [hF, k0]))
      have i0 : ((k : Int) == 0) = true := by rw [k0]; rfl
      clear hF hv hU hQ KP k0
      go_wp2
      refine bodyPost_ret (v := .tuple #[.int .i32 0, .int .i64 0, .int .i64 4]) (by simp [results, Tryz.results267, go_sem]) rfl ?_
      rw [unhide F]
      exact ⟨rfl, unhide BB⟩
     ·have i0 : ((k : Int) == 0) = false := beq_false_of_ne (by omega)
      by_cases hh : (s.data.toList.drop k).head? = some 125
      ·rw [decide_eq_true hh] at KP
       have F := numQ_shut hF k0 hh
       have KS := hide (size_any (v : Int) W0)
       have hz := sizeZ_zero (v : Int)
       generalize sizeZ (v : Int) = z at *
       cases hsc : sc (v : Int) with
       | true =>
        rw [hsc, if_pos rfl] at F
        have F : Hid (Q = .inr ((v : Int), (k + 4))) := hide (by rw [unhide hQ]; exact F)
        rw [hsc] at hz
        have hz : (z == 0) = false := hz
        have y : ((3 : Int) + (k : Int) + 1) = ((k + 4 : Nat) : Int) := by omega
        clear hF hv hU hQ k0 hh hsc
        go_wp2_with fail
        refine (unhide KP).mono ?_
        rintro _ w1 ⟨rfl, rfl⟩
        go_wp2_with fail
        refine (unhide KS).mono ?_
        rintro _ w1 ⟨rfl, rfl⟩
        go_wp2
        refine bodyPost_ret (v := .tuple #[.int .i32 (v : Int), .int .i64 ((k + 4 : Nat) : Int), .int .i64 0]) (by simp [results, Tryz.results267, go_sem] <;> omega) rfl ?_
        rw [unhide F]
        exact ⟨rfl, unhide BB⟩
       | false =>
        rw [hsc, if_neg (by decide)] at F
        have F : Hid (Q = .inl 3) := hide (by rw [unhide hQ]; exact F)
        rw [hsc] at hz
        have hz : (z == 0) = true := hz
        clear hF hv hU hQ k0 hh hsc
        go_wp2_with fail
        refine (unhide KP).mono ?_
        rintro _ w1 ⟨rfl, rfl⟩
        go_wp2_with fail
        refine (unhide KS).mono ?_
        rintro _ w1 ⟨rfl, rfl⟩
        go_wp2
        refine bodyPost_ret (v := .tuple #[.int .i32 0, .int .i64 0, .int .i64 3]) (by simp [results, Tryz.results267, go_sem]) rfl ?_
        rw [unhide F]
        exact ⟨rfl, unhide BB⟩
      ·rw [decide_eq_false hh] at KP
       have F : Hid (Q = .inl 4) := hide (by rw [unhide hQ]; exact numQ_open hF hh)
       clear hF hv hU hQ k0 hh
       go_wp2_with fail
       refine (unhide KP).mono ?_
       rintro _ w1 ⟨rfl, rfl⟩
       go_wp2
       refine bodyPost_ret (v := .tuple #[.int .i32 0, .int .i64 0, .int .i64 4]) (by simp [results, Tryz.results267, go_sem]) rfl ?_
       rw [unhide F]
       exact ⟨rfl, unhide BB⟩
   ·have i2 : ¬ (k : Int) < 6 := by omega
    have t2 : decide ((k : Int) < 6) = false := decide_eq_false i2
    have BB := hB
    clear KD hB
    generalize wr = W0 at *
    have hF := upto_stop (unhide hU) (.inr (.inl c2))
    have v24 : v < 16777216 := Nat.lt_of_lt_of_le (unhide hv) (Nat.pow_le_pow_right (by decide) k6)
    have s0 : (0 : Int) ≤ (k : Int) := by omega
    have s1 : (k : Int) ≤ (s.size : Int) := by omega
    have KP := hide (Tryz.strings_HasPrefix (s.extract k s.size) ⟨#[125]⟩ W0)
    rw [ext_drop] at KP
    have KP : Hid (Calls Tryz.prog 132 #[.string (s.extract k s.size), .string ⟨#[125]⟩] W0 fun e w' => e = .returned (.bool (decide ((s.data.toList.drop k).head? = some 125))) ∧ w' = W0) := hide (by rw [← prefix_head]; exact unhide KP)
    by_cases k0 : k = 0
    ·have F : Hid (Q = .inl 4) := hide (by rw [unhide hQ]; exact numQ_none (by rw [hF, k0]))
     have i0 : ((k : Int) == 0) = true := by rw [k0]; rfl
     clear hF hv hU hQ KP k0
     go_wp2
     refine bodyPost_ret (v := .tuple #[.int .i32 0, .int .i64 0, .int .i64 4]) (by simp [results, Tryz.results267, go_sem]) rfl ?_
     rw [unhide F]
     exact ⟨rfl, unhide BB⟩
    ·have i0 : ((k : Int) == 0) = false := beq_false_of_ne (by omega)
     by_cases hh : (s.data.toList.drop k).head? = some 125
     ·rw [decide_eq_true hh] at KP
      have F := numQ_shut hF k0 hh
      have KS := hide (size_any (v : Int) W0)
      have hz := sizeZ_zero (v : Int)
      generalize sizeZ (v : Int) = z at *
      cases hsc : sc (v : Int) with
      | true =>
       rw [hsc, if_pos rfl] at F
       have F : Hid (Q = .inr ((v : Int), (k + 4))) := hide (by rw [unhide hQ]; exact F)
       rw [hsc] at hz
       have hz : (z == 0) = false := hz
       have y : ((3 : Int) + (k : Int) + 1) = ((k + 4 : Nat) : Int) := by omega
       clear hF hv hU hQ k0 hh hsc
       go_wp2_with fail
       refine (unhide KP).mono ?_
       rintro _ w1 ⟨rfl, rfl⟩
       go_wp2_with fail
       refine (unhide KS).mono ?_
       rintro _ w1 ⟨rfl, rfl⟩
       go_wp2
       refine bodyPost_ret (v := .tuple #[.int .i32 (v : Int), .int .i64 ((k + 4 : Nat) : Int), .int .i64 0]) (by simp [results, Tryz.results267, go_sem] <;> omega) rfl ?_
       rw [unhide F]
       exact ⟨rfl, unhide BB⟩
      | false =>
       rw [hsc, if_neg (by decide)] at F
       have F : Hid (Q = .inl 3) := hide (by rw [unhide hQ]; exact F)
       rw [hsc] at hz
       have hz : (z == 0) = true := hz
       clear hF hv hU hQ k0 hh hsc
       go_wp2_with fail
       refine (unhide KP).mono ?_
       rintro _ w1 ⟨rfl, rfl⟩
       go_wp2_with fail
       refine (unhide KS).mono ?_
       rintro _ w1 ⟨rfl, rfl⟩
       go_wp2
       refine bodyPost_ret (v := .tuple #[.int .i32 0, .int .i64 0, .int .i64 3]) (by simp [results, Tryz.results267, go_sem]) rfl ?_
       rw [unhide F]
       exact ⟨rfl, unhide BB⟩
     ·rw [decide_eq_false hh] at KP
      have F : Hid (Q = .inl 4) := hide (by rw [unhide hQ]; exact numQ_open hF hh)
      clear hF hv hU hQ k0 hh
      go_wp2_with fail
      refine (unhide KP).mono ?_
      rintro _ w1 ⟨rfl, rfl⟩
      go_wp2
      refine bodyPost_ret (v := .tuple #[.int .i32 0, .int .i64 0, .int .i64 4]) (by simp [results, Tryz.results267, go_sem]) rfl ?_
      rw [unhide F]
      exact ⟨rfl, unhide BB⟩
  ·have i1 : ¬ (k : Int) < (s.size : Int) := by omega
   have t1 : decide ((k : Int) < (s.size : Int)) = false := decide_eq_false i1
   have BB := hB
   clear KD hB
   generalize wr = W0 at *
   have hF := upto_stop (unhide hU) (.inl c1)
   have v24 : v < 16777216 := Nat.lt_of_lt_of_le (unhide hv) (Nat.pow_le_pow_right (by decide) k6)
   have s0 : (0 : Int) ≤ (k : Int) := by omega
   have s1 : (k : Int) ≤ (s.size : Int) := by omega
   have KP := hide (Tryz.strings_HasPrefix (s.extract k s.size) ⟨#[125]⟩ W0)
   rw [ext_drop] at KP
   have KP : Hid (Calls Tryz.prog 132 #[.string (s.extract k s.size), .string ⟨#[125]⟩] W0 fun e w' => e = .returned (.bool (decide ((s.data.toList.drop k).head? = some 125))) ∧ w' = W0) := hide (by rw [← prefix_head]; exact unhide KP)
   by_cases k0 : k = 0
   ·have F : Hid (Q = .inl 4) := hide (by rw [unhide hQ]; exact numQ_none (by rw [hF, k0]))
    have i0 : ((k : Int) == 0) = true := by rw [k0]; rfl
    clear hF hv hU hQ KP k0
    go_wp2
    refine bodyPost_ret (v := .tuple #[.int .i32 0, .int .i64 0, .int .i64 4]) (by simp [results, Tryz.results267, go_sem]) rfl ?_
    rw [unhide F]
    exact ⟨rfl, unhide BB⟩
   ·have i0 : ((k : Int) == 0) = false := beq_false_of_ne (by omega)
    by_cases hh : (s.data.toList.drop k).head? = some 125
    ·rw [decide_eq_true hh] at KP
     have F := numQ_shut hF k0 hh
     have KS := hide (size_any (v : Int) W0)
     have hz := sizeZ_zero (v : Int)
     generalize sizeZ (v : Int) = z at *
     cases hsc : sc (v : Int) with
     | true =>
      rw [hsc, if_pos rfl] at F
      have F : Hid (Q = .inr ((v : Int), (k + 4))) := hide (by rw [unhide hQ]; exact F)
      rw [hsc] at hz
      have hz : (z == 0) = false := hz
      have y : ((3 : Int) + (k : Int) + 1) = ((k + 4 : Nat) : Int) := by omega
      clear hF hv hU hQ k0 hh hsc
      go_wp2_with fail
      refine (unhide KP).mono ?_
      rintro _ w1 ⟨rfl, rfl⟩
      go_wp2_with fail
      refine (unhide KS).mono ?_
      rintro _ w1 ⟨rfl, rfl⟩
      go_wp2
      refine bodyPost_ret (v := .tuple #[.int .i32 (v : Int), .int .i64 ((k + 4 : Nat) : Int), .int .i64 0]) (by simp [results, Tryz.results267, go_sem] <;> omega) rfl ?_
      rw [unhide F]
      exact ⟨rfl, unhide BB⟩
     | false =>
      rw [hsc, if_neg (by decide)] at F
      have F : Hid (Q = .inl 3) := hide (by rw [unhide hQ]; exact F)
      rw [hsc] at hz
      have hz : (z == 0) = true := hz
      clear hF hv hU hQ k0 hh hsc
      go_wp2_with fail
      refine (unhide KP).mono ?_
      rintro _ w1 ⟨rfl, rfl⟩
      go_wp2_with fail
      refine (unhide KS).mono ?_
      rintro _ w1 ⟨rfl, rfl⟩
      go_wp2
      refine bodyPost_ret (v := .tuple #[.int .i32 0, .int .i64 0, .int .i64 3]) (by simp [results, Tryz.results267, go_sem]) rfl ?_
      rw [unhide F]
      exact ⟨rfl, unhide BB⟩
    ·rw [decide_eq_false hh] at KP
     have F : Hid (Q = .inl 4) := hide (by rw [unhide hQ]; exact numQ_open hF hh)
     clear hF hv hU hQ k0 hh
     go_wp2_with fail
     refine (unhide KP).mono ?_
     rintro _ w1 ⟨rfl, rfl⟩
     go_wp2
     refine bodyPost_ret (v := .tuple #[.int .i32 0, .int .i64 0, .int .i64 4]) (by simp [results, Tryz.results267, go_sem]) rfl ?_
     rw [unhide F]
     exact ⟨rfl, unhide BB⟩
end Go.Proofs.YtnbfnjhbmeocfaaGreatDoor.escs
