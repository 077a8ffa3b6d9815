/- Of our texts, what this claim reaches. -/
import Derived.Test.YticcibefchffmaaDoorPpbAM
import Derived.Test.YticcibefchffmaaDoorPpbAO
import Derived.Deep.QuietTactic
import Derived.BigQuiet
import Derived.Test.YticcibefchffmaaDoorPpbAI
set_option linter.unusedVariables false
set_option maxHeartbeats 8000000
set_option maxRecDepth 100000
namespace Go.Proofs.YticcibefchffmaaDoor.escs
open Go.RowKit
open utfs
open bigs (hexv hexv_le hexv_dec hexv_small hexv_great hexv_none ndrop ndrop_end nlen)
def saidR : Said → Int
 | .inl _ => 0
 | .inr (r, _) => r
def saidN : Said → Nat
 | .inl _ => 0
 | .inr (_, n) => n
def saidE : Said → Int
 | .inl e => e
 | .inr (_, _) => 0
def hexD (c : UInt8) : Int := if hexv c < 16 then (hexv c : Int) else -1
theorem digitE_any (w : World) (c : UInt8) :
  Calls Tryd.prog 137 #[.int .u8 (c.toNat : Int)] w fun e w' => e = .returned (.int .i32 (hexD c)) ∧ w' = w := by
 have u := UInt8.toNat_lt c
 have D := @hexv_dec c
 have S := @hexv_small c
 have G := @hexv_great c
 have N := @hexv_none c
 have HD : hexD c = if hexv c < 16 then (hexv c : Int) else -1 := rfl
 have key : ∀ b : Int, hexD c = b → Calls Tryd.prog 137 #[.int .u8 (c.toNat : Int)] w (fun e w' => e = .returned (.int .i32 b) ∧ w' = w) → Calls Tryd.prog 137 #[.int .u8 (c.toNat : Int)] w (fun e w' => e = .returned (.int .i32 (hexD c)) ∧ w' = w) := fun b e h => by rw [e]; exact h
 generalize hexD c = o at *
 generalize hexv c = v at *
 generalize c.toNat = n at *
 by_cases a1 : 48 ≤ n ∧ n ≤ 57
 ·have V := D a1.1 a1.2
  refine key ((n : Int) - 48) (by rw [HD, V, if_pos (by omega)]; omega) ?_
  obtain ⟨b1, b2⟩ := a1
  have i1 : (48 : Int) ≤ (n : Int) := by omega
  have i2 : (n : Int) ≤ 57 := by omega
  clear D S G N V HD key
  go_enter Tryd.func137, Tryd.ntmps137
  go_wp2
  go_ret
  refine ⟨?_, rfl⟩
  go_num
 ·by_cases a2 : 97 ≤ n ∧ n ≤ 102
  ·have V := S a2.1 a2.2
   refine key ((n : Int) - 97 + 10) (by rw [HD, V, if_pos (by omega)]; omega) ?_
   obtain ⟨b1, b2⟩ := a2
   have i1 : (48 : Int) ≤ (n : Int) := by omega
   have i2 : ¬ (n : Int) ≤ 57 := by omega
   have i3 : (97 : Int) ≤ (n : Int) := by omega
   have i4 : (n : Int) ≤ 102 := by omega
   clear D S G N a1 V HD key
   go_enter Tryd.func137, Tryd.ntmps137
   go_wp2
   go_ret
   refine ⟨?_, rfl⟩
   go_num
  ·by_cases a3 : 65 ≤ n ∧ n ≤ 70
   ·have V := G a3.1 a3.2
    refine key ((n : Int) - 65 + 10) (by rw [HD, V, if_pos (by omega)]; omega) ?_
    obtain ⟨b1, b2⟩ := a3
    have i1 : (48 : Int) ≤ (n : Int) := by omega
    have i2 : ¬ (n : Int) ≤ 57 := by omega
    have i3 : ¬ (97 : Int) ≤ (n : Int) := by omega
    have i5 : (65 : Int) ≤ (n : Int) := by omega
    have i6 : (n : Int) ≤ 70 := by omega
    clear D S G N a1 a2 V HD key
    go_enter Tryd.func137, Tryd.ntmps137
    go_wp2
    go_ret
    refine ⟨?_, rfl⟩
    go_num
   ·have V := N a1 a2 a3
    refine key (-1) (by rw [HD, V, if_neg (by omega)]) ?_
    clear D S G N V HD key
    by_cases b1 : n < 48
    ·have i1 : ¬ (48 : Int) ≤ (n : Int) := by omega
     have i3 : ¬ (97 : Int) ≤ (n : Int) := by omega
     have i5 : ¬ (65 : Int) ≤ (n : Int) := by omega
     clear a1 a2 a3
     go_enter Tryd.func137, Tryd.ntmps137
     go_wp2
     go_ret
     exact ⟨rfl, rfl⟩
    ·have i1 : (48 : Int) ≤ (n : Int) := by omega
     have i2 : ¬ (n : Int) ≤ 57 := by omega
     by_cases b2 : n < 65
     ·have i3 : ¬ (97 : Int) ≤ (n : Int) := by omega
      have i5 : ¬ (65 : Int) ≤ (n : Int) := by omega
      clear a1 a2 a3
      go_enter Tryd.func137, Tryd.ntmps137
      go_wp2
      go_ret
      exact ⟨rfl, rfl⟩
     ·have i5 : (65 : Int) ≤ (n : Int) := by omega
      have i6 : ¬ (n : Int) ≤ 70 := by omega
      by_cases b3 : n < 97
      ·have i3 : ¬ (97 : Int) ≤ (n : Int) := by omega
       clear a1 a2 a3
       go_enter Tryd.func137, Tryd.ntmps137
       go_wp2
       go_ret
       exact ⟨rfl, rfl⟩
      ·have i3 : (97 : Int) ≤ (n : Int) := by omega
       have i4 : ¬ (n : Int) ≤ 102 := by omega
       clear a1 a2 a3
       go_enter Tryd.func137, Tryd.ntmps137
       go_wp2
       go_ret
       exact ⟨rfl, rfl⟩
theorem hexF_zero (v : Nat) (l : List UInt8) : hexF 0 v l = (v, 0) := rfl
theorem hexF_nil (f v : Nat) : hexF f v [] = (v, 0) := by cases f <;> rfl
theorem hexF_yes {f v : Nat} {c : UInt8} {l : List UInt8} (h : hexv c < 16) : hexF (f + 1) v (c :: l) = ((hexF f (v * 16 + hexv c) l).1, (hexF f (v * 16 + hexv c) l).2 + 1) := by rw [hexF, if_pos h]
theorem hexF_no {f v : Nat} {c : UInt8} {l : List UInt8} (h : ¬ hexv c < 16) : hexF (f + 1) v (c :: l) = (v, 0) := by rw [hexF, if_neg h]
def Upto (L : List UInt8) (v k : Nat) : Prop := hexF 6 0 L = ((hexF (6 - k) v (L.drop k)).1, k + (hexF (6 - k) v (L.drop k)).2)
theorem upto_more {s : ByteArray} {v k : Nat} (hk : k < s.size) (h6 : k < 6) (h : Upto s.data.toList v k) (hx : hexv (s[k]'hk) < 16) : Upto s.data.toList (v * 16 + hexv (s[k]'hk)) (k + 1) := by
 unfold Upto at *
 rw [h, ndrop s k hk, show 6 - k = (6 - (k + 1)) + 1 by omega, hexF_yes hx]
 simp only
 apply Prod.ext
 ·rfl
 ·simp only; omega
theorem upto_stop {s : ByteArray} {v k : Nat} (h : Upto s.data.toList v k) (hx : ¬ k < s.size ∨ ¬ k < 6 ∨ ∃ hk : k < s.size, ¬ hexv (s[k]'hk) < 16) : hexF 6 0 s.data.toList = (v, k) := by
 unfold Upto at h
 rw [h]
 have key : hexF (6 - k) v (s.data.toList.drop k) = (v, 0) := by
  rcases hx with hx | hx | ⟨hk, hx⟩
  ·rw [List.drop_of_length_le (by rw [len_list]; omega), hexF_nil]
  ·rw [show 6 - k = 0 by omega, hexF_zero]
  ·rw [ndrop s k hk]
   rcases Nat.lt_or_ge k 6 with q | q
   ·rw [show 6 - k = (6 - (k + 1)) + 1 by omega, hexF_no hx]
   ·rw [show 6 - k = 0 by omega, hexF_zero]
 rw [key]
 simp
theorem prefix_head (l : List UInt8) (c : UInt8) : Lib.hasPrefix l [c] = decide (l.head? = some c) := by
 cases l with
 | nil => rfl
 | cons a r =>
  by_cases e : a = c
  ·subst e; simp [Lib.hasPrefix]
  ·simp [Lib.hasPrefix, List.isPrefixOf, Ne.symm e, e]
theorem numQ_none {L : List UInt8} {v : Nat} (h : hexF 6 0 L = (v, 0)) : numQ L = .inl 4 := by
 unfold numQ
 rw [h, if_pos (.inl rfl)]
theorem numQ_open {L : List UInt8} {v k : Nat} (h : hexF 6 0 L = (v, k)) (hh : (L.drop k).head? ≠ some 125) : numQ L = .inl 4 := by
 unfold numQ
 rw [h, if_pos (.inr hh)]
theorem numQ_shut {L : List UInt8} {v k : Nat} (h : hexF 6 0 L = (v, k)) (hk : k ≠ 0) (hh : (L.drop k).head? = some 125) : numQ L = if sc (v : Int) = true then .inr ((v : Int), (k + 4)) else .inl 3 := by
 unfold numQ
 rw [h, if_neg (by rw [hh]; simp [hk])]
theorem shl_four (v : Nat) (h : v < 1048576) : IntKind.i32.wrap ((v : Int) * 16) = ((v * 16 : Nat) : Int) := by
 simp [IntKind.wrap, IntKind.bits, IntKind.signed]
 omega
theorem numb_any (w : World) (s : ByteArray) (hs : s.size ≤ 1073741824) (Q : Said) (hQ : Hid (Q = numQ s.data.toList)) :
  Calls Tryd.prog 134 #[.string s] w fun e w' => e = .returned (.tuple #[.int .i32 (saidR Q), .int .i64 (saidN Q : Int), .int .i64 (saidE Q)]) ∧ Below w.heap.size w w' := by
 have KD : ∀ (c : UInt8) (W : World), Hid (Calls Tryd.prog 137 #[.int .u8 (c.toNat : Int)] W fun e w' => e = .returned (.int .i32 (hexD c)) ∧ w' = W) := fun c W => hide (digitE_any W c)
 go_enter Tryd.func134, Tryd.ntmps134
 go_wp2_with fail
 go_loopw [5, 6] (fun r n wr => ∃ v k : Nat, r = .int .i32 (v : Int) ∧ n = .int .i64 (k : Int) ∧ k ≤ 6 ∧ k ≤ s.size ∧ Hid (v < 16 ^ k) ∧ Hid (Upto s.data.toList v k) ∧ Hid (Below w.heap.size w wr)) (fun _ n _ => s.size - (intOf n).toNat)
 case atStart => exact ⟨0, 0, rfl, rfl, by omega, by omega, hide (by decide), hide (by unfold Upto; simp), hide (Below.refl _ _)⟩
 case round =>
  obtain ⟨v, k, rfl, rfl, k6, hks, hv, hU, hB⟩ := hrel
  by_cases c1 : k < s.size
  ·have i1 : (k : Int) < (s.size : Int) := by omega
   by_cases c2 : k < 6
   ·have i2 : (k : Int) < 6 := by omega
    have v20 : v < 1048576 := Nat.lt_of_lt_of_le (unhide hv) (Nat.pow_le_pow_right (by decide) (show k ≤ 5 by omega))
    have KC := KD (s[k]'c1)
    have UM := hide (upto_more c1 c2 (unhide hU))
    by_cases c3 : hexv (s[k]'c1) < 16
    ·have hD : hexD (s[k]'c1) = (hexv (s[k]'c1) : Int) := by unfold hexD; rw [if_pos c3]
     rw [hD] at KC
     have UM2 := hide (unhide UM c3)
     have hv2 : Hid (v * 16 + hexv (s[k]'c1) < 16 ^ (k + 1)) := hide (by have := unhide hv; rw [Nat.pow_succ]; omega)
     have y1 := shl_four v v20
     have y2 : IntKind.i32.wrap (((v * 16 : Nat) : Int) + (hexv (s[k]'c1) : Int)) = ((v * 16 + hexv (s[k]'c1) : Nat) : Int) := by
      simp [IntKind.wrap, IntKind.bits, IntKind.signed]
      omega
     have i3 : (hexv (s[k]'c1) : Int) ≥ 0 := by omega
     clear hD UM hv hU hQ KD
     generalize hexv (s[k]'c1) = d at *
     go_wp2_with fail
     refine (unhide (KC wr)).mono ?_
     rintro _ w1 ⟨rfl, hw⟩
     rw [hw]
     clear hw
     go_wp2_with fail
     refine (unhide (KC wr)).mono ?_
     rintro _ w1 ⟨rfl, hw⟩
     rw [hw]
     clear hw
     go_wp2
     go_roundw
     case rel => exact ⟨v * 16 + d, k + 1, by go_num, by go_num, by omega, by omega, hv2, UM2, hB⟩
     case measure => simp [intOf]; omega
    ·have hD : hexD (s[k]'c1) = -1 := by unfold hexD; rw [if_neg c3]
     rw [hD] at KC
     clear UM v20 hD
     go_wp2_with fail
     refine (unhide (KC wr)).mono ?_
     rintro _ W0 ⟨rfl, hw⟩
     have BB : Hid (Below w.heap.size w W0) := hide (by rw [hw]; exact unhide hB)
     clear hw hB KC KD
     have hF := upto_stop (unhide hU) (.inr (.inr ⟨c1, c3⟩))
     have v24 : v < 16777216 := Nat.lt_of_lt_of_le (unhide hv) (Nat.pow_le_pow_right (by decide) k6)
     have s0 : (0 : Int) ≤ (k : Int) := by omega
     have s1 : (k : Int) ≤ (s.size : Int) := by omega
     have KP := hide (Tryd.strings_HasPrefix (s.extract k s.size) ⟨#[125]⟩ W0)
     rw [ext_drop] at KP
     have KP : Hid (Calls Tryd.prog 93 #[.string (s.extract k s.size), .string ⟨#[125]⟩] W0 fun e w' => e = .returned (.bool (decide ((s.data.toList.drop k).head? = some 125))) ∧ w' = W0) := hide (by rw [← prefix_head]; exact unhide KP)
     by_cases k0 : k = 0
     ·have F : Hid (Q = .inl 4) := hide (by rw [unhide hQ]; exact numQ_none (by rw [hF, k0]))
      have i0 : ((k : Int) == 0) = true := by rw [k0]; rfl
      clear hF hv hU hQ KP k0
      go_wp2
      refine bodyPost_ret (v := .tuple #[.int .i32 0, .int .i64 0, .int .i64 4]) (by simp [results, Tryd.results134, go_sem]) rfl ?_
      rw [unhide F]
      exact ⟨rfl, unhide BB⟩
     ·have i0 : ((k : Int) == 0) = false := beq_false_of_ne (by omega)
      by_cases hh : (s.data.toList.drop k).head? = some 125
      ·rw [decide_eq_true hh] at KP
       have F := numQ_shut hF k0 hh
       have KS := hide (size_any (v : Int) W0)
       have hz := sizeZ_zero (v : Int)
       generalize sizeZ (v : Int) = z at *
       cases hsc : sc (v : Int) with
       | true =>
        rw [hsc, if_pos rfl] at F
        have F : Hid (Q = .inr ((v : Int), (k + 4))) := hide (by rw [unhide hQ]; exact F)
        rw [hsc] at hz
        have hz : (z == 0) = false := hz
        have y : ((3 : Int) + (k : Int) + 1) = ((k + 4 : Nat) : Int) := by omega
        clear hF hv hU hQ k0 hh hsc
        go_wp2_with fail
        refine (unhide KP).mono ?_
        rintro _ w1 ⟨rfl, rfl⟩
        go_wp2_with fail
        refine (unhide KS).mono ?_
        rintro _ w1 ⟨rfl, rfl⟩
        go_wp2
        refine bodyPost_ret (v := .tuple #[.int .i32 (v : Int), .int .i64 ((k + 4 : Nat) : Int), .int .i64 0]) (by simp [results, Tryd.results134, go_sem] <;> omega) rfl ?_
        rw [unhide F]
        exact ⟨rfl, unhide BB⟩
       | false =>
        rw [hsc, if_neg (by decide)] at F
        have F : Hid (Q = .inl 3) := hide (by rw [unhide hQ]; exact F)
        rw [hsc] at hz
        have hz : (z == 0) = true := hz
        clear hF hv hU hQ k0 hh hsc
        go_wp2_with fail
        refine (unhide KP).mono ?_
        rintro _ w1 ⟨rfl, rfl⟩
        go_wp2_with fail
        refine (unhide KS).mono ?_
        rintro _ w1 ⟨rfl, rfl⟩
        go_wp2
        refine bodyPost_ret (v := .tuple #[.int .i32 0, .int .i64 0, .int .i64 3]) (by simp [results, Tryd.results134, go_sem]) rfl ?_
        rw [unhide F]
        exact ⟨rfl, unhide BB⟩
      ·rw [decide_eq_false hh] at KP
       have F : Hid (Q = .inl 4) := hide (by rw [unhide hQ]; exact numQ_open hF hh)
       clear hF hv hU hQ k0 hh
       go_wp2_with fail
       refine (unhide KP).mono ?_
       rintro _ w1 ⟨rfl, rfl⟩
       go_wp2
       refine bodyPost_ret (v := .tuple #[.int .i32 0, .int .i64 0, .int .i64 4]) (by simp [results, Tryd.results134, go_sem]) rfl ?_
       rw [unhide F]
       exact ⟨rfl, unhide BB⟩
   ·have i2 : ¬ (k : Int) < 6 := by omega
    have t2 : decide ((k : Int) < 6) = false := decide_eq_false i2
    have BB := hB
    clear KD hB
    generalize wr = W0 at *
    have hF := upto_stop (unhide hU) (.inr (.inl c2))
    have v24 : v < 16777216 := Nat.lt_of_lt_of_le (unhide hv) (Nat.pow_le_pow_right (by decide) k6)
    have s0 : (0 : Int) ≤ (k : Int) := by omega
    have s1 : (k : Int) ≤ (s.size : Int) := by omega
    have KP := hide (Tryd.strings_HasPrefix (s.extract k s.size) ⟨#[125]⟩ W0)
    rw [ext_drop] at KP
    have KP : Hid (Calls Tryd.prog 93 #[.string (s.extract k s.size), .string ⟨#[125]⟩] W0 fun e w' => e = .returned (.bool (decide ((s.data.toList.drop k).head? = some 125))) ∧ w' = W0) := hide (by rw [← prefix_head]; exact unhide KP)
    by_cases k0 : k = 0
    ·have F : Hid (Q = .inl 4) := hide (by rw [unhide hQ]; exact numQ_none (by rw [hF, k0]))
     have i0 : ((k : Int) == 0) = true := by rw [k0]; rfl
     clear hF hv hU hQ KP k0
     go_wp2
     refine bodyPost_ret (v := .tuple #[.int .i32 0, .int .i64 0, .int .i64 4]) (by simp [results, Tryd.results134, go_sem]) rfl ?_
     rw [unhide F]
     exact ⟨rfl, unhide BB⟩
    ·have i0 : ((k : Int) == 0) = false := beq_false_of_ne (by omega)
     by_cases hh : (s.data.toList.drop k).head? = some 125
     ·rw [decide_eq_true hh] at KP
      have F := numQ_shut hF k0 hh
      have KS := hide (size_any (v : Int) W0)
      have hz := sizeZ_zero (v : Int)
      generalize sizeZ (v : Int) = z at *
      cases hsc : sc (v : Int) with
      | true =>
       rw [hsc, if_pos rfl] at F
       have F : Hid (Q = .inr ((v : Int), (k + 4))) := hide (by rw [unhide hQ]; exact F)
       rw [hsc] at hz
       have hz : (z == 0) = false := hz
       have y : ((3 : Int) + (k : Int) + 1) = ((k + 4 : Nat) : Int) := by omega
       clear hF hv hU hQ k0 hh hsc
       go_wp2_with fail
       refine (unhide KP).mono ?_
       rintro _ w1 ⟨rfl, rfl⟩
       go_wp2_with fail
       refine (unhide KS).mono ?_
       rintro _ w1 ⟨rfl, rfl⟩
       go_wp2
       refine bodyPost_ret (v := .tuple #[.int .i32 (v : Int), .int .i64 ((k + 4 : Nat) : Int), .int .i64 0]) (by simp [results, Tryd.results134, go_sem] <;> omega) rfl ?_
       rw [unhide F]
       exact ⟨rfl, unhide BB⟩
      | false =>
       rw [hsc, if_neg (by decide)] at F
       have F : Hid (Q = .inl 3) := hide (by rw [unhide hQ]; exact F)
       rw [hsc] at hz
       have hz : (z == 0) = true := hz
       clear hF hv hU hQ k0 hh hsc
       go_wp2_with fail
       refine (unhide KP).mono ?_
       rintro _ w1 ⟨rfl, rfl⟩
       go_wp2_with fail
       refine (unhide KS).mono ?_
       rintro _ w1 ⟨rfl, rfl⟩
       go_wp2
       refine bodyPost_ret (v := .tuple #[.int .i32 0, .int .i64 0, .int .i64 3]) (by simp [results, Tryd.results134, go_sem]) rfl ?_
       rw [unhide F]
       exact ⟨rfl, unhide BB⟩
     ·rw [decide_eq_false hh] at KP
      have F : Hid (Q = .inl 4) := hide (by rw [unhide hQ]; exact numQ_open hF hh)
      clear hF hv hU hQ k0 hh
      go_wp2_with fail
      refine (unhide KP).mono ?_
      rintro _ w1 ⟨rfl, rfl⟩
      go_wp2
      refine bodyPost_ret (v := .tuple #[.int .i32 0, .int .i64 0, .int .i64 4]) (by simp [results, Tryd.results134, go_sem]) rfl ?_
      rw [unhide F]
      exact ⟨rfl, unhide BB⟩
  ·have i1 : ¬ (k : Int) < (s.size : Int) := by omega
   have t1 : decide ((k : Int) < (s.size : Int)) = false := decide_eq_false i1
   have BB := hB
   clear KD hB
   generalize wr = W0 at *
   have hF := upto_stop (unhide hU) (.inl c1)
   have v24 : v < 16777216 := Nat.lt_of_lt_of_le (unhide hv) (Nat.pow_le_pow_right (by decide) k6)
   have s0 : (0 : Int) ≤ (k : Int) := by omega
   have s1 : (k : Int) ≤ (s.size : Int) := by omega
   have KP := hide (Tryd.strings_HasPrefix (s.extract k s.size) ⟨#[125]⟩ W0)
   rw [ext_drop] at KP
   have KP : Hid (Calls Tryd.prog 93 #[.string (s.extract k s.size), .string ⟨#[125]⟩] W0 fun e w' => e = .returned (.bool (decide ((s.data.toList.drop k).head? = some 125))) ∧ w' = W0) := hide (by rw [← prefix_head]; exact unhide KP)
   by_cases k0 : k = 0
   ·have F : Hid (Q = .inl 4) := hide (by rw [unhide hQ]; exact numQ_none (by rw [hF, k0]))
    have i0 : ((k : Int) == 0) = true := by rw [k0]; rfl
    clear hF hv hU hQ KP k0
    go_wp2
    refine bodyPost_ret (v := .tuple #[.int .i32 0, .int .i64 0, .int .i64 4]) (by simp [results, Tryd.results134, go_sem]) rfl ?_
    rw [unhide F]
    exact ⟨rfl, unhide BB⟩
   ·have i0 : ((k : Int) == 0) = false := beq_false_of_ne (by omega)
    by_cases hh : (s.data.toList.drop k).head? = some 125
    ·rw [decide_eq_true hh] at KP
     have F := numQ_shut hF k0 hh
     have KS := hide (size_any (v : Int) W0)
     have hz := sizeZ_zero (v : Int)
     generalize sizeZ (v : Int) = z at *
     cases hsc : sc (v : Int) with
     | true =>
      rw [hsc, if_pos rfl] at F
      have F : Hid (Q = .inr ((v : Int), (k + 4))) := hide (by rw [unhide hQ]; exact F)
      rw [hsc] at hz
      have hz : (z == 0) = false := hz
      have y : ((3 : Int) + (k : Int) + 1) = ((k + 4 : Nat) : Int) := by omega
      clear hF hv hU hQ k0 hh hsc
      go_wp2_with fail
      refine (unhide KP).mono ?_
      rintro _ w1 ⟨rfl, rfl⟩
      go_wp2_with fail
      refine (unhide KS).mono ?_
      rintro _ w1 ⟨rfl, rfl⟩
      go_wp2
      refine bodyPost_ret (v := .tuple #[.int .i32 (v : Int), .int .i64 ((k + 4 : Nat) : Int), .int .i64 0]) (by simp [results, Tryd.results134, go_sem] <;> omega) rfl ?_
      rw [unhide F]
      exact ⟨rfl, unhide BB⟩
     | false =>
      rw [hsc, if_neg (by decide)] at F
      have F : Hid (Q = .inl 3) := hide (by rw [unhide hQ]; exact F)
      rw [hsc] at hz
      have hz : (z == 0) = true := hz
      clear hF hv hU hQ k0 hh hsc
      go_wp2_with fail
      refine (unhide KP).mono ?_
      rintro _ w1 ⟨rfl, rfl⟩
      go_wp2_with fail
      refine (unhide KS).mono ?_
      rintro _ w1 ⟨rfl, rfl⟩
      go_wp2
      refine bodyPost_ret (v := .tuple #[.int .i32 0, .int .i64 0, .int .i64 3]) (by simp [results, Tryd.results134, go_sem]) rfl ?_
      rw [unhide F]
      exact ⟨rfl, unhide BB⟩
    ·rw [decide_eq_false hh] at KP
     have F : Hid (Q = .inl 4) := hide (by rw [unhide hQ]; exact numQ_open hF hh)
     clear hF hv hU hQ k0 hh
     go_wp2_with fail
     refine (unhide KP).mono ?_
     rintro _ w1 ⟨rfl, rfl⟩
     go_wp2
     refine bodyPost_ret (v := .tuple #[.int .i32 0, .int .i64 0, .int .i64 4]) (by simp [results, Tryd.results134, go_sem]) rfl ?_
     rw [unhide F]
     exact ⟨rfl, unhide BB⟩
end Go.Proofs.YticcibefchffmaaDoor.escs
namespace Go.Proofs.YticcibefchffmaaDoor.bigs
open Go.RowKit
theorem prefixW_good (w : World) (b : Nat) (hb : GoodB b) :
  Calls Tryd.prog 128 #[.int .i64 (b : Int)] w fun e w' => e = .returned (.tuple #[.string ⟨(preB b).toArray⟩, .bool true]) ∧ w' = w := by
 rcases hb with rfl | rfl | rfl | rfl
 all_goals
  go_enter Tryd.func128, Tryd.ntmps128
  go_wp2
  go_ret2
  exact ⟨rfl, rfl⟩
theorem cut2_yes (c : UInt8) (r : List UInt8) : Lib.hasPrefix (48 :: c :: r) [48, c] = true ∧ Lib.trimPrefix (48 :: c :: r) [48, c] = r := by
 have h : Lib.hasPrefix (48 :: c :: r) [48, c] = true := by simp [Lib.hasPrefix]
 exact ⟨h, by unfold Lib.trimPrefix; rw [if_pos h]; rfl⟩
theorem cut2_no {c : UInt8} {l : List UInt8} (hn : ∀ r, l ≠ 48 :: c :: r) : Lib.hasPrefix l [48, c] = false := by
 cases l with
 | nil => rfl
 | cons b r =>
  cases r with
  | nil => simp [Lib.hasPrefix, List.isPrefixOf]
  | cons d r =>
   by_cases e1 : b = 48
   ·have : d ≠ c := fun e => hn r (by rw [e1, e])
    simp [Lib.hasPrefix, List.isPrefixOf, Ne.symm this]
   ·simp [Lib.hasPrefix, List.isPrefixOf, Ne.symm e1]
theorem cut1 (l : List UInt8) : Lib.hasPrefix l [45] = (signCut l).1 ∧ Lib.trimPrefix l [45] = (signCut l).2 := by
 cases l with
 | nil => exact ⟨rfl, rfl⟩
 | cons b r =>
  by_cases e : b = 45
  ·subst e
   have h : Lib.hasPrefix (45 :: r) [45] = true := by simp [Lib.hasPrefix]
   refine ⟨by rw [h]; rfl, ?_⟩
   unfold Lib.trimPrefix
   rw [if_pos h]
   rfl
  ·have h : Lib.hasPrefix (b :: r) [45] = false := by simp [Lib.hasPrefix, List.isPrefixOf, Ne.symm e]
   refine ⟨by rw [h, signCut, if_neg e], ?_⟩
   unfold Lib.trimPrefix
   rw [if_neg (by rw [h]; decide), signCut, if_neg e]
theorem baseCut_none {l : List UInt8} (h2 : ∀ r, l ≠ 48 :: 98 :: r) (h8 : ∀ r, l ≠ 48 :: 111 :: r) (h16 : ∀ r, l ≠ 48 :: 120 :: r) : baseCut l = (10, l) := by
 cases l with
 | nil => rfl
 | cons c r =>
  cases r with
  | nil => rfl
  | cons d r =>
   simp only [baseCut]
   by_cases e : c = 48
   ·subst e
    rw [if_pos rfl, if_neg (fun e => h2 r (by rw [e])), if_neg (fun e => h8 r (by rw [e])), if_neg (fun e => h16 r (by rw [e]))]
   ·rw [if_neg e]
theorem baseCut_good (l : List UInt8) : GoodB (baseCut l).1 ∧ (baseCut l).2.length ≤ l.length := by
 unfold GoodB
 by_cases h2 : ∃ r, l = 48 :: 98 :: r
 ·obtain ⟨r, rfl⟩ := h2
  exact ⟨.inl rfl, by simp [baseCut]; omega⟩
 ·by_cases h8 : ∃ r, l = 48 :: 111 :: r
  ·obtain ⟨r, rfl⟩ := h8
   exact ⟨.inr (.inl rfl), by simp [baseCut]; omega⟩
  ·by_cases h16 : ∃ r, l = 48 :: 120 :: r
   ·obtain ⟨r, rfl⟩ := h16
    exact ⟨.inr (.inr (.inr rfl)), by simp [baseCut]; omega⟩
   ·rw [baseCut_none (fun r e => h2 ⟨r, e⟩) (fun r e => h8 ⟨r, e⟩) (fun r e => h16 ⟨r, e⟩)]
    exact ⟨.inr (.inr (.inl rfl)), Nat.le_refl _⟩
theorem signCut_len (l : List UInt8) : (signCut l).2.length ≤ l.length := by
 cases l with
 | nil => exact Nat.le_refl _
 | cons c r => simp only [signCut]; split <;> simp
theorem cutBaseW_core (w : World) (s r2 r8 r16 out : ByteArray) (f2 f8 f16 : Bool) (base : Nat)
  (K2 : Hid (Calls Tryd.prog 51 #[.string s, .string ⟨#[48, 98]⟩] w fun e w' => e = .returned (.tuple #[.string r2, .bool f2]) ∧ w' = w))
  (K8 : Hid (Calls Tryd.prog 51 #[.string s, .string ⟨#[48, 111]⟩] w fun e w' => e = .returned (.tuple #[.string r8, .bool f8]) ∧ w' = w))
  (K16 : Hid (Calls Tryd.prog 51 #[.string s, .string ⟨#[48, 120]⟩] w fun e w' => e = .returned (.tuple #[.string r16, .bool f16]) ∧ w' = w))
  (h2 : Hid (f2 = true → out = r2 ∧ base = 2)) (h8 : Hid (f2 = false → f8 = true → out = r8 ∧ base = 8)) (h16 : Hid (f2 = false → f8 = false → f16 = true → out = r16 ∧ base = 16)) (h10 : Hid (f2 = false → f8 = false → f16 = false → out = s ∧ base = 10)) :
  Calls Tryd.prog 112 #[.string s] w fun e w' => e = .returned (.tuple #[.string out, .int .u64 (base : Int)]) ∧ w' = w := by
 have p2 := prefixW_good w 2 (.inl rfl)
 have p8 := prefixW_good w 8 (.inr (.inl rfl))
 have p16 := prefixW_good w 16 (.inr (.inr (.inr rfl)))
 rw [show ((2 : Nat) : Int) = 2 by rfl, show (preB 2).toArray = #[48, 98] by rfl] at p2
 rw [show ((8 : Nat) : Int) = 8 by rfl, show (preB 8).toArray = #[48, 111] by rfl] at p8
 rw [show ((16 : Nat) : Int) = 16 by rfl, show (preB 16).toArray = #[48, 120] by rfl] at p16
 have P2 := hide p2
 have P8 := hide p8
 have P16 := hide p16
 clear p2 p8 p16
 have x0 : ∀ W, (Instr.index 166 (.agg #[.int .i64 2, .int .i64 8, .int .i64 16]) (.int .i64 0)).run Tryd.prog W = .ok (.int .i64 2) W := fun W => by simp [Instr.index, run_underlying Tryd.underlying166, asIntOf, go_sem]
 have x1 : ∀ W, (Instr.index 166 (.agg #[.int .i64 2, .int .i64 8, .int .i64 16]) (.int .i64 1)).run Tryd.prog W = .ok (.int .i64 8) W := fun W => by simp [Instr.index, run_underlying Tryd.underlying166, asIntOf, go_sem]
 have x2 : ∀ W, (Instr.index 166 (.agg #[.int .i64 2, .int .i64 8, .int .i64 16]) (.int .i64 2)).run Tryd.prog W = .ok (.int .i64 16) W := fun W => by simp [Instr.index, run_underlying Tryd.underlying166, asIntOf, go_sem]
 go_enter Tryd.func112, Tryd.ntmps112
 go_wp2
 go_loopw [11] (fun i wr => ∃ k : Nat, k ≤ 3 ∧ i = .int .i64 k ∧ Hid (1 ≤ k → f2 = false) ∧ Hid (2 ≤ k → f8 = false) ∧ Hid (3 ≤ k → f16 = false) ∧ wr = w) (fun i _ => 3 - (intOf i).toNat)
 case atStart => exact ⟨0, by omega, rfl, hide (by omega), hide (by omega), hide (by omega), rfl⟩
 case round =>
  obtain ⟨k, hk, rfl, g2, g8, g16, rfl⟩ := hrel
  have hk4 : k = 0 ∨ k = 1 ∨ k = 2 ∨ k = 3 := by omega
  rcases hk4 with rfl | rfl | rfl | rfl
  ·clear P8 P16 K8 K16 g2 g8 g16
   cases f2 with
   | true =>
    have E := hide (unhide h2 rfl)
    clear h2 h8 h16 h10
    go_wp2_with fail
    refine (unhide P2).mono ?_
    rintro _ w2 ⟨rfl, rfl⟩
    go_wp2_with fail
    refine (unhide K2).mono ?_
    rintro _ w3 ⟨rfl, rfl⟩
    clear P2 K2
    go_wp2
    go_ret2
    rw [(unhide E).1, (unhide E).2]
    exact ⟨rfl, rfl⟩
   | false =>
    clear h2 h8 h16 h10
    go_wp2_with fail
    refine (unhide P2).mono ?_
    rintro _ w2 ⟨rfl, rfl⟩
    go_wp2_with fail
    refine (unhide K2).mono ?_
    rintro _ w3 ⟨rfl, rfl⟩
    clear P2 K2
    go_wp2
    go_roundw
    case rel => exact ⟨1, by omega, by go_num, by first | exact hide (fun _ => rfl) | exact hide (by omega) | simp [Hid], by first | exact hide (fun _ => rfl) | exact hide (by omega) | simp [Hid], by first | exact hide (fun _ => rfl) | exact hide (by omega) | simp [Hid], by trivial⟩
    case measure => simp [intOf]
  ·have z2 := unhide g2 (by omega)
   subst z2
   clear P2 P16 K2 K16 g2 g8 g16
   cases f8 with
   | true =>
    have E := hide (unhide h8 rfl rfl)
    clear h2 h8 h16 h10
    go_wp2_with fail
    refine (unhide P8).mono ?_
    rintro _ w2 ⟨rfl, rfl⟩
    go_wp2_with fail
    refine (unhide K8).mono ?_
    rintro _ w3 ⟨rfl, rfl⟩
    clear P8 K8
    go_wp2
    go_ret2
    rw [(unhide E).1, (unhide E).2]
    exact ⟨rfl, rfl⟩
   | false =>
    clear h2 h8 h16 h10
    go_wp2_with fail
    refine (unhide P8).mono ?_
    rintro _ w2 ⟨rfl, rfl⟩
    go_wp2_with fail
    refine (unhide K8).mono ?_
    rintro _ w3 ⟨rfl, rfl⟩
    clear P8 K8
    go_wp2
    go_roundw
    case rel => exact ⟨2, by omega, by go_num, by first | exact hide (fun _ => rfl) | exact hide (by omega) | simp [Hid], by first | exact hide (fun _ => rfl) | exact hide (by omega) | simp [Hid], by first | exact hide (fun _ => rfl) | exact hide (by omega) | simp [Hid], by trivial⟩
    case measure => simp [intOf]
  ·have z2 := unhide g2 (by omega)
   have z8 := unhide g8 (by omega)
   subst z2 z8
   clear P2 P8 K2 K8 g2 g8 g16
   cases f16 with
   | true =>
    have E := hide (unhide h16 rfl rfl rfl)
    clear h2 h8 h16 h10
    go_wp2_with fail
    refine (unhide P16).mono ?_
    rintro _ w2 ⟨rfl, rfl⟩
    go_wp2_with fail
    refine (unhide K16).mono ?_
    rintro _ w3 ⟨rfl, rfl⟩
    clear P16 K16
    go_wp2
    go_ret2
    rw [(unhide E).1, (unhide E).2]
    exact ⟨rfl, rfl⟩
   | false =>
    clear h2 h8 h16 h10
    go_wp2_with fail
    refine (unhide P16).mono ?_
    rintro _ w2 ⟨rfl, rfl⟩
    go_wp2_with fail
    refine (unhide K16).mono ?_
    rintro _ w3 ⟨rfl, rfl⟩
    clear P16 K16
    go_wp2
    go_roundw
    case rel => exact ⟨3, by omega, by go_num, by first | exact hide (fun _ => rfl) | exact hide (by omega) | simp [Hid], by first | exact hide (fun _ => rfl) | exact hide (by omega) | simp [Hid], by first | exact hide (fun _ => rfl) | exact hide (by omega) | simp [Hid], by trivial⟩
    case measure => simp [intOf]
  ·have E := hide (unhide h10 (unhide g2 (by omega)) (unhide g8 (by omega)) (unhide g16 (by omega)))
   clear P2 P8 P16 K2 K8 K16 g2 g8 g16 h2 h8 h16 h10
   go_wp2
   go_ret2
   rw [(unhide E).1, (unhide E).2]
   exact ⟨rfl, rfl⟩
theorem cutBaseW_any (w : World) (s : ByteArray) :
  Calls Tryd.prog 112 #[.string s] w fun e w' => e = .returned (.tuple #[.string ⟨(baseCut s.data.toList).2.toArray⟩, .int .u64 (((baseCut s.data.toList).1 : Nat) : Int)]) ∧ w' = w := by
 have K2 := Tryd.strings_CutPrefix s ⟨#[48, 98]⟩ w
 have K8 := Tryd.strings_CutPrefix s ⟨#[48, 111]⟩ w
 have K16 := Tryd.strings_CutPrefix s ⟨#[48, 120]⟩ w
 rw [show (⟨#[48, 98]⟩ : ByteArray).data.toList = [48, 98] by rfl] at K2
 rw [show (⟨#[48, 111]⟩ : ByteArray).data.toList = [48, 111] by rfl] at K8
 rw [show (⟨#[48, 120]⟩ : ByteArray).data.toList = [48, 120] by rfl] at K16
 refine cutBaseW_core w s _ _ _ _ _ _ _ _ (hide K2) (hide K8) (hide K16) ?_ ?_ ?_ ?_
 all_goals clear K2 K8 K16
 all_goals unfold Hid
 all_goals
  by_cases h2 : ∃ r, s.data.toList = 48 :: 98 :: r
  ·obtain ⟨r, e⟩ := h2
   rw [e, (cut2_yes 98 r).1]
   simp [(cut2_yes 98 r).2, baseCut]
  ·have n2 : ∀ r, s.data.toList ≠ 48 :: 98 :: r := fun r e => h2 ⟨r, e⟩
   rw [cut2_no n2]
   by_cases h8 : ∃ r, s.data.toList = 48 :: 111 :: r
   ·obtain ⟨r, e⟩ := h8
    rw [e]
    simp [(cut2_yes 111 r).1, (cut2_yes 111 r).2, baseCut]
   ·have n8 : ∀ r, s.data.toList ≠ 48 :: 111 :: r := fun r e => h8 ⟨r, e⟩
    by_cases h16 : ∃ r, s.data.toList = 48 :: 120 :: r
    ·obtain ⟨r, e⟩ := h16
     try simp only [cut2_no n8]
     rw [e]
     simp [(cut2_yes 120 r).1, (cut2_yes 120 r).2, baseCut]
    ·have n16 : ∀ r, s.data.toList ≠ 48 :: 120 :: r := fun r e => h16 ⟨r, e⟩
     simp [cut2_no n8, cut2_no n16, baseCut_none n2 n8 n16]
theorem i64_neg (X : Nat) (h : X ≤ 9223372036854775808) : IntKind.i64.wrap (IntKind.u64.wrap (-(X : Int))) = -(X : Int) := by
 simp [IntKind.wrap, IntKind.bits, IntKind.signed]
 omega
theorem i64_pos (X : Nat) (h : X ≤ 9223372036854775807) : IntKind.i64.wrap (X : Int) = (X : Int) := by
 simp [IntKind.wrap, IntKind.bits, IntKind.signed]
 omega
theorem readN_core (w : World) (s c1 ds : ByteArray) (below f g : Bool) (base lim X : Nat) (R : Int × Int) (hs : s.size ≤ 80) (hl : lim = limitOf below) (hX : g = true → X ≤ lim)
  (K1 : Hid (Calls Tryd.prog 51 #[.string s, .string ⟨#[45]⟩] w fun e w' => e = .returned (.tuple #[.string c1, .bool below]) ∧ w' = w))
  (K2 : Hid (Calls Tryd.prog 112 #[.string c1] w fun e w' => e = .returned (.tuple #[.string ds, .int .u64 (base : Int)]) ∧ w' = w))
  (K3 : Hid (Calls Tryd.prog 113 #[.string ds, .int .u64 (base : Int)] w fun e w' => e = .returned (.bool f) ∧ w' = w))
  (K4 : Hid (Calls Tryd.prog 114 #[.string ds, .int .u64 (base : Int), .int .u64 (lim : Int)] w fun e w' => e = .returned (.tuple #[.int .u64 (X : Int), .bool g]) ∧ w' = w))
  (hR : Hid (R = if f = false then (0, 4) else if g = false then (0, 7) else (if below then -(X : Int) else (X : Int), 0))) :
  Calls Tryd.prog 97 #[.string s] w fun e w' => e = .returned (.tuple #[.int .i64 R.1, .int .i64 R.2]) ∧ w' = w := by
 have i0 : ¬ (s.size : Int) > 80 := by omega
 have i00 : ¬ (80 : Int) < (s.size : Int) := by omega
 cases f with
 | false =>
  have E : R = (0, 4) := by rw [unhide hR]; rfl
  subst E
  clear hR K4 hX hl
  go_enter Tryd.func97, Tryd.ntmps97
  go_wp2_with fail
  refine (unhide K1).mono ?_
  rintro _ w1 ⟨rfl, rfl⟩
  go_wp2_with fail
  refine (unhide K2).mono ?_
  rintro _ w2 ⟨rfl, rfl⟩
  go_wp2_with fail
  refine (unhide K3).mono ?_
  rintro _ w3 ⟨rfl, rfl⟩
  clear K1 K2 K3
  go_wp2
  go_ret2
  exact ⟨rfl, rfl⟩
 | true =>
  cases below with
  | false =>
   have hl' : lim = 9223372036854775807 := hl
   subst hl'
   cases g with
   | false =>
    have E : R = (0, 7) := by rw [unhide hR]; rfl
    subst E
    clear hR hX hl
    go_enter Tryd.func97, Tryd.ntmps97
    go_wp2_with fail
    refine (unhide K1).mono ?_
    rintro _ w1 ⟨rfl, rfl⟩
    go_wp2_with fail
    refine (unhide K2).mono ?_
    rintro _ w2 ⟨rfl, rfl⟩
    go_wp2_with fail
    refine (unhide K3).mono ?_
    rintro _ w3 ⟨rfl, rfl⟩
    go_wp2_with fail
    refine (unhide K4).mono ?_
    rintro _ w4 ⟨rfl, rfl⟩
    clear K1 K2 K3 K4
    go_wp2
    go_ret2
    exact ⟨rfl, rfl⟩
   | true =>
    have E : R = ((X : Int), 0) := by rw [unhide hR]; rfl
    subst E
    have y := i64_pos X (hX rfl)
    clear hR hX hl
    go_enter Tryd.func97, Tryd.ntmps97
    go_wp2_with fail
    refine (unhide K1).mono ?_
    rintro _ w1 ⟨rfl, rfl⟩
    go_wp2_with fail
    refine (unhide K2).mono ?_
    rintro _ w2 ⟨rfl, rfl⟩
    go_wp2_with fail
    refine (unhide K3).mono ?_
    rintro _ w3 ⟨rfl, rfl⟩
    go_wp2_with fail
    refine (unhide K4).mono ?_
    rintro _ w4 ⟨rfl, rfl⟩
    clear K1 K2 K3 K4
    go_wp2
    go_ret2
    exact ⟨rfl, rfl⟩
  | true =>
   have hl' : lim = 9223372036854775808 := hl
   subst hl'
   cases g with
   | false =>
    have E : R = (0, 7) := by rw [unhide hR]; rfl
    subst E
    clear hR hX hl
    go_enter Tryd.func97, Tryd.ntmps97
    go_wp2_with fail
    refine (unhide K1).mono ?_
    rintro _ w1 ⟨rfl, rfl⟩
    go_wp2_with fail
    refine (unhide K2).mono ?_
    rintro _ w2 ⟨rfl, rfl⟩
    go_wp2_with fail
    refine (unhide K3).mono ?_
    rintro _ w3 ⟨rfl, rfl⟩
    go_wp2_with fail
    refine (unhide K4).mono ?_
    rintro _ w4 ⟨rfl, rfl⟩
    clear K1 K2 K3 K4
    go_wp2
    go_ret2
    exact ⟨rfl, rfl⟩
   | true =>
    have E : R = (-(X : Int), 0) := by rw [unhide hR]; rfl
    subst E
    have y := i64_neg X (hX rfl)
    clear hR hX hl
    go_enter Tryd.func97, Tryd.ntmps97
    go_wp2_with fail
    refine (unhide K1).mono ?_
    rintro _ w1 ⟨rfl, rfl⟩
    go_wp2_with fail
    refine (unhide K2).mono ?_
    rintro _ w2 ⟨rfl, rfl⟩
    go_wp2_with fail
    refine (unhide K3).mono ?_
    rintro _ w3 ⟨rfl, rfl⟩
    go_wp2_with fail
    refine (unhide K4).mono ?_
    rintro _ w4 ⟨rfl, rfl⟩
    clear K1 K2 K3 K4
    go_wp2
    go_ret2
    exact ⟨rfl, rfl⟩
theorem nsize (l : List UInt8) : (⟨l.toArray⟩ : ByteArray).size = l.length := by simp [ByteArray.size]
theorem readN_any (w : World) (s : ByteArray) :
  Calls Tryd.prog 97 #[.string s] w fun e w' => e = .returned (.tuple #[.int .i64 (numRes s.data.toList).1, .int .i64 (numRes s.data.toList).2]) ∧ w' = w := by
 by_cases h : 80 < s.size
 ·have E : numRes s.data.toList = (0, 2) := by unfold numRes; rw [nlen, if_pos h]
  rw [E]
  have i0 : (s.size : Int) > 80 := by omega
  have i00 : (80 : Int) < (s.size : Int) := by omega
  clear E
  go_enter Tryd.func97, Tryd.ntmps97
  go_wp2
  go_ret2
  exact ⟨rfl, rfl⟩
 ·have K1 := Tryd.strings_CutPrefix s ⟨#[45]⟩ w
  rw [show (⟨#[45]⟩ : ByteArray).data.toList = [45] by rfl, (cut1 s.data.toList).1, (cut1 s.data.toList).2] at K1
  have E : numRes s.data.toList = bodyRes (signCut s.data.toList).1 (baseCut (signCut s.data.toList).2).1 (baseCut (signCut s.data.toList).2).2 := by unfold numRes; rw [nlen, if_neg h]
  have L1 := signCut_len s.data.toList
  rw [E]
  clear E
  generalize signCut s.data.toList = sg at *
  obtain ⟨below, t⟩ := sg
  simp only at *
  have K2 := cutBaseW_any w ⟨t.toArray⟩
  obtain ⟨G, L2⟩ := baseCut_good t
  simp only at K2
  generalize baseCut t = bc at *
  obtain ⟨base, d⟩ := bc
  simp only at *
  rw [nlen] at L1
  have hd : (⟨d.toArray⟩ : ByteArray).size ≤ 80 := by rw [nsize]; omega
  have b16 : base ≤ 16 := by unfold GoodB at G; omega
  have b2 : 2 ≤ base := by unfold GoodB at G; omega
  have K3 := formedW_any w ⟨d.toArray⟩ base (formedL base d) hd b16 rfl
  have lim1 : 16 ≤ limitOf below := by unfold limitOf; split <;> omega
  have lim2 : limitOf below < 18446744073709551616 := by unfold limitOf; split <;> omega
  by_cases c : valG base 0 d ≤ limitOf below
  ·have K4 := sizeW_any w ⟨d.toArray⟩ base (limitOf below) (valG base 0 d) (valG base 0 d) true hd b16 b2 lim1 lim2 rfl (hide (.inl ⟨rfl, rfl, c⟩))
   refine readN_core w s ⟨t.toArray⟩ ⟨d.toArray⟩ below (formedL base d) true base (limitOf below) (valG base 0 d) _ (by omega) rfl (fun _ => c) (hide K1) (hide K2) (hide K3) (hide K4) (hide ?_)
   unfold bodyRes
   rw [if_neg (show ¬ limitOf below < valG base 0 d by omega)]
   simp
  ·have K4 := sizeW_any w ⟨d.toArray⟩ base (limitOf below) (valG base 0 d) 0 false hd b16 b2 lim1 lim2 rfl (hide (.inr ⟨rfl, rfl, by omega⟩))
   refine readN_core w s ⟨t.toArray⟩ ⟨d.toArray⟩ below (formedL base d) false base (limitOf below) 0 _ (by omega) rfl (fun h => by cases h) (hide K1) (hide K2) (hide K3) (hide K4) (hide ?_)
   unfold bodyRes
   rw [if_pos (show limitOf below < valG base 0 d by omega)]
   simp
end Go.Proofs.YticcibefchffmaaDoor.bigs
namespace Go.Proofs.YticcibefchffmaaDoor.bigs
open Go.RowKit
theorem res_kinds (l : List UInt8) : (numRes l).2 = 0 ∨ ((numRes l).1 = 0 ∧ ((numRes l).2 = 2 ∨ (numRes l).2 = 4 ∨ (numRes l).2 = 7)) := by
 unfold numRes
 split
 ·exact .inr ⟨rfl, .inl rfl⟩
 ·unfold bodyRes
  split
  ·exact .inr ⟨rfl, .inr (.inl rfl)⟩
  ·split
   ·exact .inr ⟨rfl, .inr (.inr rfl)⟩
   ·exact .inl rfl
theorem res_good {l : List UInt8} (h : (numRes l).2 = 0) : l.length ≤ 80 ∧ formedL (baseCut (signCut l).2).1 (baseCut (signCut l).2).2 = true ∧ valG (baseCut (signCut l).2).1 0 (baseCut (signCut l).2).2 ≤ limitOf (signCut l).1 ∧ (numRes l).1 = if (signCut l).1 then -((valG (baseCut (signCut l).2).1 0 (baseCut (signCut l).2).2 : Nat) : Int) else ((valG (baseCut (signCut l).2).1 0 (baseCut (signCut l).2).2 : Nat) : Int) := by
 unfold numRes at *
 by_cases c : 80 < l.length
 ·rw [if_pos c] at h; exact absurd h (by decide)
 ·rw [if_neg c] at h ⊢
  unfold bodyRes at *
  generalize (signCut l).1 = below at *
  generalize baseCut (signCut l).2 = bd at *
  by_cases c1 : formedL bd.1 bd.2 = false
  ·rw [if_pos c1] at h; exact absurd h (by decide)
  ·rw [if_neg c1] at h ⊢
   by_cases c2 : limitOf below < valG bd.1 0 bd.2
   ·rw [if_pos c2] at h; exact absurd h (by decide)
   ·rw [if_neg c2] at h ⊢
    exact ⟨by omega, by simpa using c1, by omega, rfl⟩
theorem res_range (l : List UInt8) : -9223372036854775808 ≤ (numRes l).1 ∧ (numRes l).1 ≤ 9223372036854775807 := by
 rcases res_kinds l with h | ⟨h, _⟩
 ·obtain ⟨_, _, h3, h4⟩ := res_good h
  rw [h4]
  generalize valG (baseCut (signCut l).2).1 0 (baseCut (signCut l).2).2 = V at *
  cases hb : (signCut l).1 with
  | true => rw [hb] at h3; simp only [limitOf, if_true] at h3 ⊢; omega
  | false => rw [hb] at h3; simp only [limitOf, Bool.false_eq_true, if_false] at h3 ⊢; omega
 ·rw [h]; omega
end Go.Proofs.YticcibefchffmaaDoor.bigs
