/- Of our texts, what this claim reaches. -/
import Derived.Test.YticcibefchffmaaDoorPpbAP
import Derived.Test.YticcibefchffmaaDoorPpbAR
import Derived.Test.YticcibefchffmaaDoorPpbAI
import Derived.Lib.IndexAny
import Derived.Lib.IndexMore
set_option linter.unusedVariables false
set_option maxHeartbeats 4000000
set_option maxRecDepth 100000
namespace Go.Proofs.YticcibefchffmaaDoor.escs
open Go.RowKit
open utfs
open bigs (ndrop ndrop_end nlen u8_eq)
theorem cut3_yes (r : List UInt8) : Lib.hasPrefix (92 :: 117 :: 123 :: r) [92, 117, 123] = true ∧ Lib.trimPrefix (92 :: 117 :: 123 :: r) [92, 117, 123] = r := by
 have h : Lib.hasPrefix (92 :: 117 :: 123 :: r) [92, 117, 123] = true := by simp [Lib.hasPrefix]
 exact ⟨h, by unfold Lib.trimPrefix; rw [if_pos h]; rfl⟩
theorem cut3_no {t : List UInt8} (hn : t.take 2 ≠ [117, 123]) : Lib.hasPrefix (92 :: t) [92, 117, 123] = false := by
 match t, hn with
 | [], _ => rfl
 | [a], _ => simp [Lib.hasPrefix, List.isPrefixOf]
 | a :: b :: r, hn =>
  by_cases e1 : a = 117
  ·have : b ≠ 123 := fun e => hn (by rw [e1, e]; simp)
   simp [Lib.hasPrefix, List.isPrefixOf, Ne.symm this]
  ·simp [Lib.hasPrefix, List.isPrefixOf, Ne.symm e1]
theorem head_cons {s : ByteArray} (h : 0 < s.size) : s.data.toList = (s[0]'h) :: s.data.toList.drop 1 := by
 have := ndrop s 0 h
 rwa [List.drop_zero] at this
theorem escQ_none {t : List UInt8} (ht : t = []) : escQ t = .inl 4 := by rw [ht]; rfl
theorem escQ_one {c : UInt8} {t : List UInt8} (h : (c :: t).take 2 ≠ [117, 123]) : escQ (c :: t) = if c = 34 ∨ c = 92 ∨ c = 47 then .inr ((c.toNat : Int), 2) else if c = 110 then .inr (10, 2) else if c = 116 then .inr (9, 2) else if c = 114 then .inr (13, 2) else .inl 4 := by
 unfold escQ
 rw [if_neg h]
theorem size_bytes (l : List UInt8) : (⟨l.toArray⟩ : ByteArray).size = l.length := by show l.toArray.size = _; rw [List.size_toArray]
theorem escaped_any (w : World) (s : ByteArray) (hs : s.size ≤ 1073741824) (h0 : 0 < s.size) (h92 : s[0]'h0 = 92) (Q : Said) (hQ : Hid (Q = escQ (s.data.toList.drop 1))) :
  Calls Tryd.prog 122 #[.string s] w fun e w' => e = .returned (.tuple #[.int .i32 (saidR Q), .int .i64 (saidN Q : Int), .int .i64 (saidE Q)]) ∧ Below w.heap.size w w' := by
 have KC := Tryd.strings_CutPrefix s ⟨#[92, 117, 123]⟩ w
 rw [head_cons h0, h92] at KC
 by_cases h2 : (s.data.toList.drop 1).take 2 = [117, 123]
 ·obtain ⟨r, hr⟩ := two_front h2
  have hl := congrArg List.length hr
  rw [List.length_drop, len_list] at hl
  simp only [List.length_cons] at hl
  have q : Hid (Q = numQ (⟨r.toArray⟩ : ByteArray).data.toList) := hide (by
   rw [unhide hQ, hr]
   unfold escQ
   rw [if_pos (by simp)]
   rfl)
  have KN := hide (numb_any w ⟨r.toArray⟩ (by rw [size_bytes]; omega) Q q)
  have e3 : (⟨#[92, 117, 123]⟩ : ByteArray).data.toList = [92, 117, 123] := rfl
  rw [hr, e3, (cut3_yes r).1, (cut3_yes r).2] at KC
  have KC := hide KC
  clear hQ q hr h2 hl e3
  generalize saidR Q = a1 at *
  generalize saidN Q = a2 at *
  generalize saidE Q = a3 at *
  go_enter Tryd.func122, Tryd.ntmps122
  go_wp2_with fail
  refine (unhide KC).mono ?_
  rintro _ w1 ⟨rfl, hw⟩
  rw [hw]
  clear hw
  go_wp2_with fail
  refine (unhide KN).mono ?_
  rintro _ w1 ⟨rfl, b1⟩
  have B1 := hide b1
  clear b1 KN KC
  go_wp2
  refine bodyPost_ret (v := .tuple #[.int .i32 a1, .int .i64 (a2 : Int), .int .i64 a3]) (by simp [results, Tryd.results122, go_sem]) rfl ?_
  exact ⟨rfl, unhide B1⟩
 ·have e3 : (⟨#[92, 117, 123]⟩ : ByteArray).data.toList = [92, 117, 123] := rfl
  rw [e3, cut3_no h2] at KC
  generalize Lib.trimPrefix (92 :: s.data.toList.drop 1) [92, 117, 123] = R at *
  have KC := hide KC
  clear e3
  by_cases h1 : s.size < 2
  ·have F : Hid (Q = .inl 4) := hide (by
    rw [unhide hQ]
    exact escQ_none (List.drop_of_length_le (by rw [len_list]; omega)))
   have i1 : (s.size : Int) < 2 := by omega
   clear hQ h2 h92
   go_enter Tryd.func122, Tryd.ntmps122
   go_wp2_with fail
   refine (unhide KC).mono ?_
   rintro _ w1 ⟨rfl, hw⟩
   rw [hw]
   clear hw
   go_wp2
   refine bodyPost_ret (v := .tuple #[.int .i32 0, .int .i64 0, .int .i64 4]) (by simp [results, Tryd.results122, go_sem]) rfl ?_
   rw [unhide F]
   exact ⟨rfl, Below.refl _ _⟩
  ·have i1 : ¬ (s.size : Int) < 2 := by omega
   have g1 : 1 < s.size := by omega
   have j1 : (1 : Int) < (s.size : Int) := by omega
   have hc := ndrop s 1 g1
   rw [hc] at h2
   have q := unhide hQ
   rw [hc, escQ_one h2] at q
   have eqv : ∀ n : Nat, n < 256 → (s[1]'g1 = UInt8.ofNat n ↔ (s[1]'g1).toNat = n) := fun n hn => u8_eq _ n hn
   have e34 : s[1]'g1 = 34 ↔ (s[1]'g1).toNat = 34 := eqv 34 (by decide)
   have e92 : s[1]'g1 = 92 ↔ (s[1]'g1).toNat = 92 := eqv 92 (by decide)
   have e47 : s[1]'g1 = 47 ↔ (s[1]'g1).toNat = 47 := eqv 47 (by decide)
   have e110 : s[1]'g1 = 110 ↔ (s[1]'g1).toNat = 110 := eqv 110 (by decide)
   have e116 : s[1]'g1 = 116 ↔ (s[1]'g1).toNat = 116 := eqv 116 (by decide)
   have e114 : s[1]'g1 = 114 ↔ (s[1]'g1).toNat = 114 := eqv 114 (by decide)
   have u := UInt8.toNat_lt (s[1]'g1)
   clear hQ h2 h92 hc eqv
   by_cases c0 : (s[1]'g1).toNat = 34
   ·have F : Hid (Q = .inr (((s[1]'g1).toNat : Int), 2)) := hide (by
     rw [q]
     rw [if_pos (by exact .inl (e34.2 c0))])
    have b34 : (((s[1]'g1).toNat : Int) == 34) = true := by rw [show ((s[1]'g1).toNat : Int) = 34 by omega]; rfl
    clear q e34 e92 e47 e110 e116 e114 c0
    go_enter Tryd.func122, Tryd.ntmps122
    go_wp2_with fail
    refine (unhide KC).mono ?_
    rintro _ w1 ⟨rfl, hw⟩
    rw [hw]
    clear hw
    go_wp2
    refine bodyPost_ret (v := .tuple #[.int .i32 ((s[1]'g1).toNat : Int), .int .i64 2, .int .i64 0]) (by simp [results, Tryd.results122, go_sem]) rfl ?_
    rw [unhide F]
    exact ⟨rfl, Below.refl _ _⟩
   ·skip
    by_cases c1 : (s[1]'g1).toNat = 92
    ·have F : Hid (Q = .inr (((s[1]'g1).toNat : Int), 2)) := hide (by
      rw [q]
      rw [if_pos (by exact .inr (.inl (e92.2 c1)))])
     have b34 : (((s[1]'g1).toNat : Int) == 34) = false := beq_false_of_ne (by omega)
     have b92 : (((s[1]'g1).toNat : Int) == 92) = true := by rw [show ((s[1]'g1).toNat : Int) = 92 by omega]; rfl
     clear q e34 e92 e47 e110 e116 e114 c0 c1
     go_enter Tryd.func122, Tryd.ntmps122
     go_wp2_with fail
     refine (unhide KC).mono ?_
     rintro _ w1 ⟨rfl, hw⟩
     rw [hw]
     clear hw
     go_wp2
     refine bodyPost_ret (v := .tuple #[.int .i32 ((s[1]'g1).toNat : Int), .int .i64 2, .int .i64 0]) (by simp [results, Tryd.results122, go_sem]) rfl ?_
     rw [unhide F]
     exact ⟨rfl, Below.refl _ _⟩
    ·skip
     by_cases c2 : (s[1]'g1).toNat = 47
     ·have F : Hid (Q = .inr (((s[1]'g1).toNat : Int), 2)) := hide (by
       rw [q]
       rw [if_pos (by exact .inr (.inr (e47.2 c2)))])
      have b34 : (((s[1]'g1).toNat : Int) == 34) = false := beq_false_of_ne (by omega)
      have b92 : (((s[1]'g1).toNat : Int) == 92) = false := beq_false_of_ne (by omega)
      have b47 : (((s[1]'g1).toNat : Int) == 47) = true := by rw [show ((s[1]'g1).toNat : Int) = 47 by omega]; rfl
      clear q e34 e92 e47 e110 e116 e114 c0 c1 c2
      go_enter Tryd.func122, Tryd.ntmps122
      go_wp2_with fail
      refine (unhide KC).mono ?_
      rintro _ w1 ⟨rfl, hw⟩
      rw [hw]
      clear hw
      go_wp2
      refine bodyPost_ret (v := .tuple #[.int .i32 ((s[1]'g1).toNat : Int), .int .i64 2, .int .i64 0]) (by simp [results, Tryd.results122, go_sem]) rfl ?_
      rw [unhide F]
      exact ⟨rfl, Below.refl _ _⟩
     ·skip
      by_cases c3 : (s[1]'g1).toNat = 110
      ·have F : Hid (Q = .inr (10, 2)) := hide (by
        rw [q]
        rw [if_neg (by rintro (h | h | h); exact c0 (e34.1 h); exact c1 (e92.1 h); exact c2 (e47.1 h))]
        rw [if_pos (e110.2 c3)])
       have b34 : (((s[1]'g1).toNat : Int) == 34) = false := beq_false_of_ne (by omega)
       have b92 : (((s[1]'g1).toNat : Int) == 92) = false := beq_false_of_ne (by omega)
       have b47 : (((s[1]'g1).toNat : Int) == 47) = false := beq_false_of_ne (by omega)
       have b110 : (((s[1]'g1).toNat : Int) == 110) = true := by rw [show ((s[1]'g1).toNat : Int) = 110 by omega]; rfl
       clear q e34 e92 e47 e110 e116 e114 c0 c1 c2 c3
       go_enter Tryd.func122, Tryd.ntmps122
       go_wp2_with fail
       refine (unhide KC).mono ?_
       rintro _ w1 ⟨rfl, hw⟩
       rw [hw]
       clear hw
       go_wp2
       refine bodyPost_ret (v := .tuple #[.int .i32 10, .int .i64 2, .int .i64 0]) (by simp [results, Tryd.results122, go_sem]) rfl ?_
       rw [unhide F]
       exact ⟨rfl, Below.refl _ _⟩
      ·skip
       by_cases c4 : (s[1]'g1).toNat = 116
       ·have F : Hid (Q = .inr (9, 2)) := hide (by
         rw [q]
         rw [if_neg (by rintro (h | h | h); exact c0 (e34.1 h); exact c1 (e92.1 h); exact c2 (e47.1 h))]
         rw [if_neg (fun h => c3 (e110.1 h))]
         rw [if_pos (e116.2 c4)])
        have b34 : (((s[1]'g1).toNat : Int) == 34) = false := beq_false_of_ne (by omega)
        have b92 : (((s[1]'g1).toNat : Int) == 92) = false := beq_false_of_ne (by omega)
        have b47 : (((s[1]'g1).toNat : Int) == 47) = false := beq_false_of_ne (by omega)
        have b110 : (((s[1]'g1).toNat : Int) == 110) = false := beq_false_of_ne (by omega)
        have b116 : (((s[1]'g1).toNat : Int) == 116) = true := by rw [show ((s[1]'g1).toNat : Int) = 116 by omega]; rfl
        clear q e34 e92 e47 e110 e116 e114 c0 c1 c2 c3 c4
        go_enter Tryd.func122, Tryd.ntmps122
        go_wp2_with fail
        refine (unhide KC).mono ?_
        rintro _ w1 ⟨rfl, hw⟩
        rw [hw]
        clear hw
        go_wp2
        refine bodyPost_ret (v := .tuple #[.int .i32 9, .int .i64 2, .int .i64 0]) (by simp [results, Tryd.results122, go_sem]) rfl ?_
        rw [unhide F]
        exact ⟨rfl, Below.refl _ _⟩
       ·skip
        by_cases c5 : (s[1]'g1).toNat = 114
        ·have F : Hid (Q = .inr (13, 2)) := hide (by
          rw [q]
          rw [if_neg (by rintro (h | h | h); exact c0 (e34.1 h); exact c1 (e92.1 h); exact c2 (e47.1 h))]
          rw [if_neg (fun h => c3 (e110.1 h))]
          rw [if_neg (fun h => c4 (e116.1 h))]
          rw [if_pos (e114.2 c5)])
         have b34 : (((s[1]'g1).toNat : Int) == 34) = false := beq_false_of_ne (by omega)
         have b92 : (((s[1]'g1).toNat : Int) == 92) = false := beq_false_of_ne (by omega)
         have b47 : (((s[1]'g1).toNat : Int) == 47) = false := beq_false_of_ne (by omega)
         have b110 : (((s[1]'g1).toNat : Int) == 110) = false := beq_false_of_ne (by omega)
         have b116 : (((s[1]'g1).toNat : Int) == 116) = false := beq_false_of_ne (by omega)
         have b114 : (((s[1]'g1).toNat : Int) == 114) = true := by rw [show ((s[1]'g1).toNat : Int) = 114 by omega]; rfl
         clear q e34 e92 e47 e110 e116 e114 c0 c1 c2 c3 c4 c5
         go_enter Tryd.func122, Tryd.ntmps122
         go_wp2_with fail
         refine (unhide KC).mono ?_
         rintro _ w1 ⟨rfl, hw⟩
         rw [hw]
         clear hw
         go_wp2
         refine bodyPost_ret (v := .tuple #[.int .i32 13, .int .i64 2, .int .i64 0]) (by simp [results, Tryd.results122, go_sem]) rfl ?_
         rw [unhide F]
         exact ⟨rfl, Below.refl _ _⟩
        ·have F : Hid (Q = .inl 4) := hide (by
          rw [q]
          rw [if_neg (by rintro (h | h | h); exact c0 (e34.1 h); exact c1 (e92.1 h); exact c2 (e47.1 h))]
          rw [if_neg (fun h => c3 (e110.1 h))]
          rw [if_neg (fun h => c4 (e116.1 h))]
          rw [if_neg (fun h => c5 (e114.1 h))])
         have b34 : (((s[1]'g1).toNat : Int) == 34) = false := beq_false_of_ne (by omega)
         have b92 : (((s[1]'g1).toNat : Int) == 92) = false := beq_false_of_ne (by omega)
         have b47 : (((s[1]'g1).toNat : Int) == 47) = false := beq_false_of_ne (by omega)
         have b110 : (((s[1]'g1).toNat : Int) == 110) = false := beq_false_of_ne (by omega)
         have b116 : (((s[1]'g1).toNat : Int) == 116) = false := beq_false_of_ne (by omega)
         have b114 : (((s[1]'g1).toNat : Int) == 114) = false := beq_false_of_ne (by omega)
         clear q e34 e92 e47 e110 e116 e114 c0 c1 c2 c3 c4 c5
         go_enter Tryd.func122, Tryd.ntmps122
         go_wp2_with fail
         refine (unhide KC).mono ?_
         rintro _ w1 ⟨rfl, hw⟩
         rw [hw]
         clear hw
         go_wp2
         refine bodyPost_ret (v := .tuple #[.int .i32 0, .int .i64 0, .int .i64 4]) (by simp [results, Tryd.results122, go_sem]) rfl ?_
         rw [unhide F]
         exact ⟨rfl, Below.refl _ _⟩
theorem nextQ_line {c : UInt8} {t : List UInt8} (h : c = 10) : nextQ (c :: t) = .inl 4 := by unfold nextQ; rw [List.headD_cons, if_pos h]
theorem nextQ_stroke {c : UInt8} {t : List UInt8} (h : c = 92) : nextQ (c :: t) = escQ t := by
 subst h
 unfold nextQ
 rw [List.headD_cons, if_neg (by decide), if_pos rfl]
 rfl
theorem nextQ_else {c : UInt8} {t : List UInt8} (h1 : c ≠ 10) (h2 : c ≠ 92) : nextQ (c :: t) = if badB (c :: t) = true then .inl 3 else .inr (((Lib.decodeL (c :: t)).1 : Int), (Lib.decodeL (c :: t)).2) := by
 unfold nextQ
 rw [List.headD_cons, if_neg h1, if_neg h2]
theorem nextE_any (w : World) (s : ByteArray) (hs : s.size ≤ 1073741824) (h0 : 0 < s.size) (hT : Lib.Utf8Tabs 2 3 w) (Q : Said) (hQ : Hid (Q = nextQ s.data.toList)) :
  Calls Tryd.prog 106 #[.string s] w fun e w' => e = .returned (.tuple #[.int .i32 (saidR Q), .int .i64 (saidN Q : Int), .int .i64 (saidE Q)]) ∧ Below w.heap.size w w' := by
 have hc := head_cons h0
 have e10 : s[0]'h0 = 10 ↔ (s[0]'h0).toNat = 10 := u8_eq (s[0]'h0) 10 (by decide)
 have e92 : s[0]'h0 = 92 ↔ (s[0]'h0).toNat = 92 := u8_eq (s[0]'h0) 92 (by decide)
 have j0 : (0 : Int) < (s.size : Int) := by omega
 by_cases c1 : (s[0]'h0).toNat = 10
 ·have F : Hid (Q = .inl 4) := hide (by rw [unhide hQ, hc, nextQ_line (e10.2 c1)])
  have b10 : (((s[0]'h0).toNat : Int) == 10) = true := by rw [show ((s[0]'h0).toNat : Int) = 10 by omega]; rfl
  clear hQ hc e10 e92 c1 hT
  go_enter Tryd.func106, Tryd.ntmps106
  go_wp2
  refine bodyPost_ret (v := .tuple #[.int .i32 0, .int .i64 0, .int .i64 4]) (by simp [results, Tryd.results106, go_sem]) rfl ?_
  rw [unhide F]
  exact ⟨rfl, Below.refl _ _⟩
 ·have b10 : (((s[0]'h0).toNat : Int) == 10) = false := beq_false_of_ne (by omega)
  by_cases c2 : (s[0]'h0).toNat = 92
  ·have q : Hid (Q = escQ (s.data.toList.drop 1)) := hide (by rw [unhide hQ, hc, nextQ_stroke (e92.2 c2)]; rfl)
   have K := hide (escaped_any w s hs h0 (e92.2 c2) Q q)
   have b92 : (((s[0]'h0).toNat : Int) == 92) = true := by rw [show ((s[0]'h0).toNat : Int) = 92 by omega]; rfl
   clear hQ hc e10 e92 c1 c2 hT q
   generalize saidR Q = a1 at *
   generalize saidN Q = a2 at *
   generalize saidE Q = a3 at *
   go_enter Tryd.func106, Tryd.ntmps106
   go_wp2_with fail
   refine (unhide K).mono ?_
   rintro _ w1 ⟨rfl, b1⟩
   have B1 := hide b1
   clear b1 K
   go_wp2
   refine bodyPost_ret (v := .tuple #[.int .i32 a1, .int .i64 (a2 : Int), .int .i64 a3]) (by simp [results, Tryd.results106, go_sem]) rfl ?_
   exact ⟨rfl, unhide B1⟩
  ·have b92 : (((s[0]'h0).toNat : Int) == 92) = false := beq_false_of_ne (by omega)
   have q := unhide hQ
   have hne : s.data.toList ≠ [] := by rw [hc]; simp
   rw [hc, nextQ_else (fun h => c1 (e10.1 h)) (fun h => c2 (e92.1 h)), ← hc] at q
   have K := hide (next_any s w hT)
   have hneg := nextR_neg hne
   have hR : nextR s.data.toList = if badB s.data.toList = true then -1 else ((Lib.decodeL s.data.toList).1 : Int) := by unfold nextR; rw [if_neg hne]
   have hN : nextN s.data.toList = (Lib.decodeL s.data.toList).2 := by unfold nextN; rw [if_neg hne]
   clear hQ hc e10 e92 c1 c2 hT hne
   cases hb : badB s.data.toList with
   | true =>
    rw [hb, if_pos rfl] at q
    have F := hide q
    rw [hb] at hneg
    have i1 : nextR s.data.toList < 0 := hneg.2 rfl
    clear q hneg hR hN hb
    generalize nextR s.data.toList = r at *
    generalize nextN s.data.toList = n at *
    go_enter Tryd.func106, Tryd.ntmps106
    go_wp2_with fail
    refine (unhide K).mono ?_
    rintro _ w1 ⟨rfl, b1⟩
    have B1 := hide b1
    clear b1 K
    go_wp2
    refine bodyPost_ret (v := .tuple #[.int .i32 0, .int .i64 0, .int .i64 3]) (by simp [results, Tryd.results106, go_sem]) rfl ?_
    rw [unhide F]
    exact ⟨rfl, unhide B1⟩
   | false =>
    rw [hb, if_neg (by decide)] at q hR
    rw [← hR, ← hN] at q
    have F := hide q
    rw [hb] at hneg
    have i1 : ¬ nextR s.data.toList < 0 := fun h => by have := hneg.1 h; cases this
    clear q hneg hR hN hb
    generalize nextR s.data.toList = r at *
    generalize nextN s.data.toList = n at *
    go_enter Tryd.func106, Tryd.ntmps106
    go_wp2_with fail
    refine (unhide K).mono ?_
    rintro _ w1 ⟨rfl, b1⟩
    have B1 := hide b1
    clear b1 K
    go_wp2
    refine bodyPost_ret (v := .tuple #[.int .i32 r, .int .i64 (n : Int), .int .i64 0]) (by simp [results, Tryd.results106, go_sem]) rfl ?_
    rw [unhide F]
    exact ⟨rfl, unhide B1⟩
end Go.Proofs.YticcibefchffmaaDoor.escs
namespace Go.Proofs.YticcibefchffmaaDoor.escs
open Go.RowKit
open utfs
open bigs (ndrop ndrop_end nlen u8_eq)
def resT : Res → List UInt8
 | .inl _ => []
 | .inr (rs, _) => enc rs
def resN : Res → Nat
 | .inl _ => 0
 | .inr (_, n) => n
def resE : Res → Int
 | .inl e => e
 | .inr (_, _) => 0
def resAfter (acc : List Int) (k : Nat) : Res → Res
 | .inl e => .inl e
 | .inr (rs, n) => .inr ((acc ++ rs), (k + n))
theorem after_more (acc : List Int) (k : Nat) (r : Int) (n : Nat) (R : Res) : resAfter acc k (resMore r n R) = resAfter (acc ++ [r]) (k + n) R := by
 cases R with
 | inl e => rfl
 | inr p =>
  obtain ⟨rs, m⟩ := p
  simp only [resMore, resAfter, Sum.inr.injEq, Prod.mk.injEq]
  exact ⟨by simp, by omega⟩
def At (L : List UInt8) (acc : List Int) (k f : Nat) : Prop := unq L = resAfter acc k (unqF f (L.drop k))
theorem at_start {s : ByteArray} (h0 : 0 < s.size) (h : s[0]'h0 = 34) : At s.data.toList [] 1 s.size := by
 have e := head_cons h0
 have hl : (s.data.toList.drop 1).length + 1 = s.size := by rw [List.length_drop, len_list]; omega
 unfold At
 have e2 : unq s.data.toList = unq (34 :: s.data.toList.drop 1) := by
  conv => lhs; rw [e]
  rw [h]
 rw [e2, unq, if_pos rfl, hl]
 cases unqF s.size (s.data.toList.drop 1) with
 | inl e => rfl
 | inr p =>
  obtain ⟨rs, k⟩ := p
  simp only [resAfter, Sum.inr.injEq, Prod.mk.injEq]
  exact ⟨rfl, by omega⟩
theorem at_more {s : ByteArray} {acc : List Int} {k f : Nat} {r : Int} {n : Nat} (hk : k < s.size) (h : At s.data.toList acc k (f + 1)) (h34 : s[k]'hk ≠ 34) (hn : nextQ (s.data.toList.drop k) = .inr (r, n)) : At s.data.toList (acc ++ [r]) (k + n) f := by
 unfold At at *
 have hd := ndrop s k hk
 rw [h]
 rw [hd] at hn
 have : unqF (f + 1) (s.data.toList.drop k) = resMore r n (unqF f ((s.data.toList.drop k).drop n)) := by
  rw [hd, unqF, if_neg h34, hn]
 rw [this, after_more, List.drop_drop]
theorem at_fails {s : ByteArray} {acc : List Int} {k f : Nat} {e : Int} (hk : k < s.size) (h : At s.data.toList acc k (f + 1)) (h34 : s[k]'hk ≠ 34) (hn : nextQ (s.data.toList.drop k) = .inl e) : unq s.data.toList = .inl e := by
 unfold At at *
 have hd := ndrop s k hk
 rw [h]
 rw [hd] at hn
 rw [hd, unqF, if_neg h34, hn]
 rfl
theorem at_stop {s : ByteArray} {acc : List Int} {k f : Nat} (hk : k < s.size) (h : At s.data.toList acc k (f + 1)) (h34 : s[k]'hk = 34) : unq s.data.toList = .inr (acc, (k + 1)) := by
 unfold At at *
 rw [h, ndrop s k hk, unqF, if_pos h34]
 simp [resAfter]
theorem at_end {s : ByteArray} {acc : List Int} {k f : Nat} (hk : s.size ≤ k) (h : At s.data.toList acc k (f + 1)) : unq s.data.toList = .inl 4 := by
 unfold At at *
 rw [h, List.drop_of_length_le (by rw [len_list]; omega), unqF]
 rfl
theorem unq_front {s : ByteArray} (h : s.size = 0 ∨ ∃ h0 : 0 < s.size, s[0]'h0 ≠ 34) : unq s.data.toList = .inl 4 := by
 rcases h with h | ⟨h0, h⟩
 ·have : s.data.toList = [] := List.eq_nil_of_length_eq_zero (by rw [len_list]; exact h)
  rw [this]
  rfl
 ·rw [head_cons h0, unq, if_neg h]
theorem unquote_any (w : World) (s : ByteArray) (hs : s.size ≤ 1073741824) (hT : Lib.Utf8Tabs 2 3 w) (R : Res) (hR : Hid (R = unq s.data.toList)) :
  Calls Tryd.prog 94 #[.string s] w fun e w' => e = .returned (.tuple #[.string ⟨(resT R).toArray⟩, .int .i64 (resN R : Int), .int .i64 (resE R)]) ∧ Below w.heap.size w w' := by
 by_cases h0 : s.size = 0
 ·have F : Hid (R = .inl 4) := hide (by rw [unhide hR]; exact unq_front (.inl h0))
  have e0 := emptyYes s h0
  clear hR hT h0
  go_enter Tryd.func94, Tryd.ntmps94
  go_wp2
  refine bodyPost_ret (v := .tuple #[.string ⟨#[]⟩, .int .i64 0, .int .i64 4]) (by simp [results, Tryd.results94, go_sem]) rfl ?_
  rw [unhide F]
  exact ⟨rfl, Below.refl _ _⟩
 ·have hp : 0 < s.size := by omega
  have e0 := emptyNo s hp
  have j0 : (0 : Int) < (s.size : Int) := by omega
  have e34 : s[0]'hp = 34 ↔ (s[0]'hp).toNat = 34 := u8_eq (s[0]'hp) 34 (by decide)
  clear h0
  by_cases c : (s[0]'hp).toNat = 34
  ·have hA := at_start hp (e34.2 c)
   have b34 : (((s[0]'hp).toNat : Int) != 34) = false := by rw [show ((s[0]'hp).toNat : Int) = 34 by omega]; rfl
   have HA := hide hA
   have HT := hide hT
   have I0 : Hid (Bld w.heap.size w.heap.size (enc []) (w.alloc (.cells #[.pointer none, .slice none 0 0] 60))) := hide (Lib.IsBuilderF.of (Lib.fresh_isBuilder 60 5 w))
   have B0 : Hid (Below w.heap.size w (w.alloc (.cells #[.pointer none, .slice none 0 0] 60))) := hide ((Below.refl _ w).alloc (Nat.le_refl _) _)
   clear e34 c hA hT
   go_enter Tryd.func94, Tryd.ntmps94
   go_wp2_with fail
   go_loopw [6] (fun a wr => ∃ (k f : Nat) (acc : List Int), a = .int .i64 (k : Int) ∧ 1 ≤ k ∧ k ≤ s.size ∧ s.size + 1 ≤ k + f ∧ Hid (At s.data.toList acc k f) ∧ Hid ((enc acc).length ≤ k) ∧ Hid (Bld w.heap.size w.heap.size (enc acc) wr) ∧ Hid (Below w.heap.size w wr)) (fun a _ => s.size - (intOf a).toNat)
   case atStart => exact ⟨1, s.size, [], rfl, by omega, by omega, by omega, HA, hide (by simp [enc]), I0, B0⟩
   case round =>
    obtain ⟨k, f', acc, rfl, k1, ks, kf, hAt, hle, hI, hB⟩ := hrel
    obtain ⟨f, rfl⟩ : ∃ f, f' = f + 1 := ⟨f' - 1, by omega⟩
    clear HA I0 B0
    have hsz := (unhide hB).size
    by_cases ck : k < s.size
    ·have i1 : (k : Int) < (s.size : Int) := by omega
     have s0 : (0 : Int) ≤ (k : Int) := by omega
     have s1 : (k : Int) ≤ (s.size : Int) := by omega
     have e34 : s[k]'ck = 34 ↔ (s[k]'ck).toNat = 34 := u8_eq (s[k]'ck) 34 (by decide)
     by_cases c : (s[k]'ck).toNat = 34
     ·have F : Hid (R = .inr (acc, (k + 1))) := hide (by rw [unhide hR]; exact at_stop ck (unhide hAt) (e34.2 c))
      have b34k : (((s[k]'ck).toNat : Int) != 34) = false := by rw [show ((s[k]'ck).toNat : Int) = 34 by omega]; rfl
      have ne1 : ((k : Int) == (s.size : Int)) = false := beq_false_of_ne (by omega)
      clear hR hAt e34 c
      go_wp2_with fail
      refine (text_b w.heap.size w.heap.size (enc acc) wr (unhide hI) hsz).mono ?_
      rintro _ w2 ⟨rfl, b2⟩
      have B2 := hide ((unhide hB).trans b2)
      clear b2 hB hI
      go_wp2
      refine bodyPost_ret (v := .tuple #[.string ⟨(enc acc).toArray⟩, .int .i64 ((k + 1 : Nat) : Int), .int .i64 0]) (by simp [results, Tryd.results94, go_sem] <;> omega) rfl ?_
      rw [unhide F]
      exact ⟨rfl, unhide B2⟩
     ·have b34k : (((s[k]'ck).toNat : Int) != 34) = true := by simp only [bne_iff_ne]; omega
      have n34 : s[k]'ck ≠ 34 := fun h => c (e34.1 h)
      have hxs : (s.extract k s.size).size = s.size - k := by rw [ByteArray.size_extract]; omega
      have K := nextE_any wr (s.extract k s.size) (by rw [hxs]; omega) (by rw [hxs]; omega) (Utf8Tabs_below (unhide HT) (unhide hB)) (nextQ (s.data.toList.drop k)) (hide (by rw [ext_drop]))
      have hne : s.data.toList.drop k ≠ [] := by rw [ndrop s k ck]; simp
      cases hn : nextQ (s.data.toList.drop k) with
      | inl e =>
       have F : Hid (R = .inl e) := hide (by rw [unhide hR]; exact at_fails ck (unhide hAt) n34 hn)
       have he := nextQ_fails hn
       have ie : (e != 0) = true := by simp only [bne_iff_ne]; omega
       rw [hn] at K
       simp only [saidR, saidN, saidE] at K
       have K := hide K
       clear hn hR hAt e34 c n34 hne he hI hxs
       go_wp2_with fail
       refine (unhide K).mono ?_
       rintro _ w2 ⟨rfl, b2⟩
       have B2 := hide ((unhide hB).trans (b2.mono hsz))
       clear b2 hB K
       go_wp2
       refine bodyPost_ret (v := .tuple #[.string ⟨#[]⟩, .int .i64 0, .int .i64 e]) (by simp [results, Tryd.results94, go_sem]) rfl ?_
       rw [unhide F]
       exact ⟨rfl, unhide B2⟩
      | inr p =>
       obtain ⟨r, n⟩ := p
       obtain ⟨n1, n2, hsc, n4, _⟩ := says_front hne hn
       rw [List.length_drop, len_list] at n2
       have A2 : Hid (At s.data.toList (acc ++ [r]) (k + n) f) := hide (at_more ck (unhide hAt) n34 hn)
       have L2 : Hid ((enc (acc ++ [r])).length ≤ k + n) := hide (by rw [enc_append, enc_one, List.length_append]; have := unhide hle; omega)
       have E2 : Hid (enc (acc ++ [r]) = enc acc ++ Lib.encodeRune r) := hide (by rw [enc_append, enc_one])
       rw [hn] at K
       simp only [saidR, saidN, saidE] at K
       have K := hide K
       have hlen : (enc acc).length ≤ 1073741824 := by have := unhide hle; omega
       clear hn hAt e34 c n34 hne hxs n4 hle
       generalize enc acc = X at *
       go_wp2_with fail
       refine (unhide K).mono ?_
       rintro _ w2 ⟨rfl, b2⟩
       have I2 := hide ((unhide hI).below b2)
       have B2 := hide ((unhide hB).trans (b2.mono hsz))
       have s2 := b2.size
       clear b2 hB hI K
       go_wp2_with fail
       refine (rune_b w.heap.size w.heap.size X r hsc w2 (unhide I2) (by omega) (by omega)).mono ?_
       rintro _ w3 ⟨⟨m, rfl⟩, i3, b3, _⟩
       have I3 := hide i3
       have B3 := hide ((unhide B2).trans b3)
       clear i3 b3 I2 B2
       go_wp2
       go_roundw
       case rel => exact ⟨k + n, f, acc ++ [r], by go_num, by omega, by omega, by omega, A2, L2, hide (by rw [unhide E2]; exact unhide I3), B3⟩
       case measure => simp [intOf]; omega
    ·have F : Hid (R = .inl 4) := hide (by rw [unhide hR]; exact at_end (by omega) (unhide hAt))
     have i1 : ¬ (k : Int) < (s.size : Int) := by omega
     have t1 : decide ((k : Int) < (s.size : Int)) = false := decide_eq_false i1
     have eq1 : ((k : Int) == (s.size : Int)) = true := by rw [show (k : Int) = (s.size : Int) by omega]; simp
     clear hR hAt hle hI
     go_wp2
     refine bodyPost_ret (v := .tuple #[.string ⟨#[]⟩, .int .i64 0, .int .i64 4]) (by simp [results, Tryd.results94, go_sem]) rfl ?_
     rw [unhide F]
     exact ⟨rfl, unhide hB⟩
  ·have F : Hid (R = .inl 4) := hide (by rw [unhide hR]; exact unq_front (.inr ⟨hp, fun h => c (e34.1 h)⟩))
   have b34 : (((s[0]'hp).toNat : Int) != 34) = true := by simp only [bne_iff_ne]; omega
   clear hR hT e34 c
   go_enter Tryd.func94, Tryd.ntmps94
   go_wp2
   refine bodyPost_ret (v := .tuple #[.string ⟨#[]⟩, .int .i64 0, .int .i64 4]) (by simp [results, Tryd.results94, go_sem]) rfl ?_
   rw [unhide F]
   exact ⟨rfl, Below.refl _ _⟩
end Go.Proofs.YticcibefchffmaaDoor.escs
namespace Go.Proofs.YticcibefchffmaaDoor.escs
open Go.RowKit
open utfs
open bigs (hexc digB bru64 tabKeep)
theorem quoteL_len {rs : List Int} (h : ∀ r ∈ rs, sc r = true) : (quoteL rs).length ≤ 6 * (enc rs).length + 2 := by
 have := qs_le rs h
 unfold quoteL
 simp only [List.length_cons, List.length_append, List.length_nil]
 omega
structure EscTabs (w : World) : Prop where
 utf : Lib.Utf8Tabs 2 3 w
 bru : Lib.TabIs Tryd.prog w "math/bits.deBruijn64tab" .u8 bru64
theorem EscTabs.below {w w' : World} (h : EscTabs w) (hb : Below w.heap.size w w') : EscTabs w' := ⟨Utf8Tabs_below h.utf hb, tabKeep h.bru hb⟩
theorem text_of {s : ByteArray} {l : List UInt8} (h : s.data.toList = l) : (⟨l.toArray⟩ : ByteArray) = s := by
 rw [← h]
def keyT (l : List UInt8) : List UInt8 := if bareL l = true then l else if 0 ≤ bad l then [] else quoteL (runes l)
def keyE (l : List UInt8) : Int := if bareL l = true then 0 else if 0 ≤ bad l then 3 else 0
def quoT (l : List UInt8) : List UInt8 := if 0 ≤ bad l then [] else quoteL (runes l)
def quoE (l : List UInt8) : Int := if 0 ≤ bad l then 3 else 0
theorem quote_any (w : World) (s : ByteArray) (hs : s.size ≤ 1073741824) (hT : EscTabs w) :
  Calls Tryd.prog 71 #[.string s] w fun e w' => e = .returned (.tuple #[.string ⟨(quoT s.data.toList).toArray⟩, .int .i64 (quoE s.data.toList)]) ∧ Below w.heap.size w w' := by
 unfold quoT quoE
 by_cases h : 0 ≤ bad s.data.toList
 ·rw [if_pos h, if_pos h]
  exact quote_bad s w (by omega) hT.utf h
 ·rw [if_neg h, if_neg h]
  obtain ⟨a, b⟩ := good_runes (l := s.data.toList) (by omega)
  exact quote_good s _ w hs hT.utf hT.bru a b
theorem key_any (w : World) (s : ByteArray) (hs : s.size ≤ 1073741824) (hT : EscTabs w) :
  Calls Tryd.prog 49 #[.string s] w fun e w' => e = .returned (.tuple #[.string ⟨(keyT s.data.toList).toArray⟩, .int .i64 (keyE s.data.toList)]) ∧ Below w.heap.size w w' := by
 have KB := hide (bare_any w s)
 have KQ := hide (quote_any w s hs hT)
 have e1 : keyT s.data.toList = if bareL s.data.toList = true then s.data.toList else quoT s.data.toList := rfl
 have e2 : keyE s.data.toList = if bareL s.data.toList = true then 0 else quoE s.data.toList := rfl
 rw [e1, e2]
 have et : (⟨s.data.toList.toArray⟩ : ByteArray) = s := text_of rfl
 clear hT e1 e2
 generalize bareL s.data.toList = b at *
 generalize quoT s.data.toList = T at *
 generalize quoE s.data.toList = E at *
 cases b with
 | true =>
  rw [if_pos rfl, if_pos rfl, et]
  clear et KQ
  go_enter Tryd.func49, Tryd.ntmps49
  go_wp2_with fail
  refine (unhide KB).mono ?_
  rintro _ w1 ⟨rfl, hw⟩
  rw [hw]
  clear hw
  go_wp2
  go_ret2
  exact ⟨rfl, Below.refl _ _⟩
 | false =>
  rw [if_neg (by decide), if_neg (by decide)]
  clear et
  go_enter Tryd.func49, Tryd.ntmps49
  go_wp2_with fail
  refine (unhide KB).mono ?_
  rintro _ w1 ⟨rfl, hw⟩
  rw [hw]
  clear hw
  go_wp2_with fail
  refine (unhide KQ).mono ?_
  rintro _ w1 ⟨rfl, b1⟩
  have B1 := hide b1
  clear b1 KQ KB
  go_wp2
  go_ret2
  exact ⟨rfl, unhide B1⟩
end Go.Proofs.YticcibefchffmaaDoor.escs
namespace Go.Proofs.YticcibefchffmaaDoor.paths
open utfs (bad enc runes sc)
open escs (keyT bareL quoteL unq resT resN resE)
open bigs (tellB numRes digB hexc)
abbrev St : Type := List UInt8 × Int
def chkS (x : St) : Int := if x.2 < -1 ∨ (-1 < x.2 ∧ x.1 ≠ []) then 1 else if 100 < x.1.length then 2 else if 0 ≤ bad x.1 then 3 else 0
def chkL : List St → Int
 | [] => 0
 | x :: l => if chkS x = 0 then chkL l else chkS x
def chkP (p : List St) : Int := if 20 < p.length then 5 else chkL p
def stT (x : St) : List UInt8 := if x.2 = -1 then 46 :: keyT x.1 else 91 :: (tellB 10 x.2 ++ [93])
def tailT : List St → List UInt8
 | [] => []
 | x :: l => stT x ++ tailT l
def pathT (p : List St) : List UInt8 := 36 :: tailT p
theorem tailT_app : ∀ (p q : List St), tailT (p ++ q) = tailT p ++ tailT q
 | [], q => rfl
 | x :: p, q => by show stT x ++ tailT (p ++ q) = _; rw [tailT_app p q, ← List.append_assoc]; rfl
theorem chkS_parts {x : St} (h : chkS x = 0) : -1 ≤ x.2 ∧ (x.2 = -1 ∨ (0 ≤ x.2 ∧ x.1 = [])) ∧ x.1.length ≤ 100 ∧ bad x.1 < 0 := by
 unfold chkS at h
 split at h
 ·omega
 ·rename_i h1
  split at h
  ·omega
  ·split at h
   ·omega
   ·refine ⟨by omega, ?_, by omega, by omega⟩
    by_cases e : x.2 = -1
    ·exact .inl e
    ·exact .inr ⟨by omega, Classical.byContradiction fun hn => h1 (.inr ⟨by omega, hn⟩)⟩
theorem chkL_mem : ∀ {p : List St}, chkL p = 0 → ∀ x ∈ p, chkS x = 0
 | [], _, x, hx => absurd hx (List.not_mem_nil)
 | y :: l, h, x, hx => by
  unfold chkL at h
  split at h
  ·rename_i h1
   rcases List.mem_cons.1 hx with rfl | hx
   ·exact h1
   ·exact chkL_mem h x hx
  ·rename_i h1
   exact absurd h h1
theorem chkP_parts {p : List St} (h : chkP p = 0) : p.length ≤ 20 ∧ ∀ x ∈ p, chkS x = 0 := by
 unfold chkP at h
 split at h
 ·omega
 ·exact ⟨by omega, chkL_mem h⟩
def cutK (l : List UInt8) : St × List UInt8 × Bool :=
 if l.head? = some 34 then ((resT (unq l), -1), l.drop (resN (unq l)), decide (resE (unq l) = 0))
 else if Lib.indexAny l [46, 91] < 0 then ((l, -1), [], true) else ((l.take (Lib.indexAny l [46, 91]).toNat, -1), l.drop (Lib.indexAny l [46, 91]).toNat, true)
def cutD (l : List UInt8) : St × List UInt8 × Bool :=
 (([], (numRes (Lib.cut l [93]).1).1), (Lib.cut l [93]).2.1, (Lib.cut l [93]).2.2 && decide ((numRes (Lib.cut l [93]).1).2 = 0 ∧ 0 ≤ (numRes (Lib.cut l [93]).1).1 ∧ (numRes (Lib.cut l [93]).1).1 ≤ 4611686018427387904))
def cutS : List UInt8 → St × List UInt8 × Bool
 | 46 :: l => cutK l
 | 91 :: l => cutD l
 | _ => (([], 0), [], false)
def rdF : Nat → List St → List UInt8 → Bool → List St × Bool
 | 0, p, _, ok => (p, ok)
 | n + 1, p, l, ok => if ok = true ∧ l ≠ [] then rdF n (p ++ [(cutS l).1]) (cutS l).2.1 (cutS l).2.2 else (p, ok)
def rdP (l : List UInt8) : List St × Bool :=
 match l with
 | 36 :: t => rdF 21 [] t true
 | _ => rdF 21 [] l false
def ReadTo (l : List UInt8) (x : List St ⊕ Unit) : Prop :=
 (x = .inl (rdP l).1 ∧ (rdP l).2 = true ∧ chkP (rdP l).1 = 0 ∧ pathT (rdP l).1 = l) ∨ (x = .inr () ∧ ((rdP l).2 = false ∨ chkP (rdP l).1 ≠ 0 ∨ pathT (rdP l).1 ≠ l))
theorem head_tail {p : List St} : tailT p = [] ∨ ∃ c r, tailT p = c :: r ∧ (c = 46 ∨ c = 91) := by
 cases p with
 | nil => exact .inl rfl
 | cons x p =>
  right
  show ∃ c r, stT x ++ tailT p = c :: r ∧ _
  unfold stT
  split
  ·exact ⟨46, _, rfl, .inl rfl⟩
  ·exact ⟨91, _, rfl, .inr rfl⟩
theorem any_hit {k : List UInt8} {c : UInt8} {r : List UInt8} (h : ∀ b ∈ k, b ≠ 46 ∧ b ≠ 91) (hc : c = 46 ∨ c = 91) : Lib.indexAny (k ++ c :: r) [46, 91] = k.length := by
 refine Lib.indexAny_hit (x := c) ?_ ?_ ?_
 ·intro j b hj hb
  rw [List.getElem?_append_left hj] at hb
  have := h b (List.mem_of_getElem? hb)
  simp [this.1, this.2]
 ·rw [List.getElem?_append_right (Nat.le_refl _), Nat.sub_self]
  rfl
 ·rcases hc with rfl | rfl <;> decide
theorem any_none {k : List UInt8} (h : ∀ b ∈ k, b ≠ 46 ∧ b ≠ 91) : Lib.indexAny k [46, 91] = -1 := by
 refine Lib.indexAny_none ?_
 intro j b _ hb
 have := h b (List.mem_of_getElem? hb)
 simp [this.1, this.2]
theorem index_hit {k r : List UInt8} {c : UInt8} (h : c ∉ k) : Lib.index (k ++ c :: r) [c] = k.length := by
 induction k with
 | nil => simp [Lib.index]
 | cons b k ih =>
  have h1 : c ≠ b := fun e => h (by rw [e]; exact List.mem_cons_self)
  have ih := ih (fun m => h (List.mem_cons_of_mem _ m))
  rw [List.cons_append, Lib.index, ih]
  have e1 : ([c] : List UInt8).isPrefixOf (b :: (k ++ c :: r)) = false := by
   simp [List.isPrefixOf, h1]
  rw [e1]
  have e2 : ((k.length : Int) == -1) = false := beq_false_of_ne (by omega)
  rw [e2]
  simp
theorem cut_hit {k r : List UInt8} (h : (93 : UInt8) ∉ k) : Lib.cut (k ++ 93 :: r) [93] = (k, r, true) := by
 unfold Lib.cut
 rw [index_hit h, if_pos (by omega)]
 simp
theorem hexc_ten {d : Nat} (h : d < 10) : (48 ≤ (hexc d).toNat ∧ (hexc d).toNat ≤ 57) := by
 have : ∀ k : Fin 10, 48 ≤ (hexc k).toNat ∧ (hexc k).toNat ≤ 57 := by decide
 exact this ⟨d, h⟩
theorem dig_ten : ∀ (n : Nat), ∀ c ∈ digB 10 n, 48 ≤ c.toNat ∧ c.toNat ≤ 57 := by
 intro n
 induction n using Nat.strongRecOn with
 | ind n ih =>
  intro c hc
  by_cases h : n < 10
  ·rw [bigs.digB_low h] at hc
   obtain rfl := List.mem_singleton.1 hc
   exact hexc_ten h
  ·rw [bigs.digB_high (by omega) (by omega)] at hc
   rcases List.mem_append.1 hc with hc | hc
   ·exact ih (n / 10) (by omega) c hc
   ·obtain rfl := List.mem_singleton.1 hc
    exact hexc_ten (by omega)
theorem tell_ten {n : Int} (h : 0 ≤ n) : tellB 10 n = digB 10 n.natAbs := by
 unfold tellB
 rw [if_neg (by omega)]
 rfl
theorem bare_parts {k : List UInt8} (h : bareL k = true) : k ≠ [] ∧ (∀ b ∈ k, b ≠ 46 ∧ b ≠ 91 ∧ b ≠ 34) := by
 unfold bareL at h
 simp only [Bool.and_eq_true, decide_eq_true_eq] at h
 refine ⟨fun e => by rw [e] at h; simp at h, fun b hb => ?_⟩
 have h2 := List.all_eq_true.1 h.1.2 b hb
 refine ⟨?_, ?_, ?_⟩ <;> rintro rfl <;> exact absurd h2 (by decide)
theorem cutS_back (x : St) (r : List UInt8) (h : chkS x = 0) (hi : x.2 ≤ 4611686018427387904) (hr : r = [] ∨ ∃ c t, r = c :: t ∧ (c = 46 ∨ c = 91)) : cutS (stT x ++ r) = (x, r, true) := by
 obtain ⟨h1, h2, h3, h4⟩ := chkS_parts h
 obtain ⟨k, i⟩ := x
 dsimp only at h1 h2 h3 h4 hi
 by_cases e : i = -1
 ·subst e
  unfold stT
  rw [if_pos rfl]
  show cutK (keyT k ++ r) = _
  by_cases hb : bareL k = true
  ·have ek : keyT k = k := by unfold keyT; rw [if_pos hb]
   rw [ek]
   obtain ⟨hne, hno⟩ := bare_parts hb
   have hh : ¬ (k ++ r).head? = some 34 := by
    cases k with
    | nil => exact absurd rfl hne
    | cons b k =>
     intro e
     rw [List.cons_append, List.head?_cons] at e
     injection e with e
     exact (hno b List.mem_cons_self).2.2 e
   have hn2 : ∀ b ∈ k, b ≠ 46 ∧ b ≠ 91 := fun b hb => ⟨(hno b hb).1, (hno b hb).2.1⟩
   unfold cutK
   rw [if_neg hh]
   rcases hr with rfl | ⟨c, t, rfl, hc⟩
   ·rw [List.append_nil, any_none hn2, if_pos (by omega)]
   ·rw [any_hit hn2 hc, if_neg (by omega)]
    simp
  ·obtain ⟨he, hs⟩ := utfs.good_runes h4
   have ek : keyT k = quoteL (runes k) := by unfold keyT; rw [if_neg hb, if_neg (by omega)]
   rw [ek]
   have hu := escs.unq_back (runes k) r hs
   have hh : (quoteL (runes k) ++ r).head? = some 34 := by unfold quoteL; rfl
   unfold cutK
   rw [if_pos hh, hu]
   show ((enc (runes k), (-1 : Int)), (quoteL (runes k) ++ r).drop (quoteL (runes k)).length, decide ((0 : Int) = 0)) = _
   rw [← he]
   simp
 ·have h5 : 0 ≤ i ∧ k = [] := by rcases h2 with h2 | h2; exact absurd h2 e; exact h2
  obtain ⟨h5, rfl⟩ := h5
  unfold stT
  rw [if_neg e]
  show cutD (tellB 10 i ++ [93] ++ r) = _
  rw [List.append_assoc]
  show cutD (tellB 10 i ++ 93 :: r) = _
  have hn : (93 : UInt8) ∉ tellB 10 i := by
   rw [tell_ten h5]
   intro hm
   have := dig_ten _ _ hm
   revert this
   decide
  unfold cutD
  rw [cut_hit hn]
  have hrd := bigs.read_tell (b := 10) (.inr (.inr (.inl rfl))) i (by omega) (by omega)
  dsimp only
  rw [hrd]
  simp [h5, hi]
theorem stT_ne (x : St) : stT x ≠ [] := by unfold stT; split <;> simp
theorem rdF_back : ∀ (p : List St) (n : Nat) (acc : List St), p.length < n → (∀ x ∈ p, chkS x = 0 ∧ x.2 ≤ 4611686018427387904) → rdF n acc (tailT p) true = (acc ++ p, true)
 | [], n, acc, hn, _ => by
  cases n with
  | zero => exact absurd hn (Nat.not_lt_zero _)
  | succ n =>
   unfold rdF tailT
   rw [if_neg (fun h => h.2 rfl), List.append_nil]
 | x :: p, n, acc, hn, h => by
  cases n with
  | zero => exact absurd hn (Nat.not_lt_zero _)
  | succ n =>
   have hx := h x List.mem_cons_self
   have hb := cutS_back x (tailT p) hx.1 hx.2 head_tail
   have hne : tailT (x :: p) ≠ [] := by
    show stT x ++ tailT p ≠ []
    intro e
    exact stT_ne x (List.append_eq_nil_iff.1 e).1
   unfold rdF
   rw [if_pos ⟨rfl, hne⟩]
   show rdF n (acc ++ [(cutS (stT x ++ tailT p)).1]) (cutS (stT x ++ tailT p)).2.1 (cutS (stT x ++ tailT p)).2.2 = _
   rw [hb]
   dsimp only
   rw [rdF_back p n (acc ++ [x]) (by simp only [List.length_cons] at hn; omega) (fun y hy => h y (List.mem_cons_of_mem _ hy)), List.append_assoc]
   rfl
theorem read_back {p : List St} (h : chkP p = 0) (hi : ∀ x ∈ p, x.2 ≤ 4611686018427387904) {x : List St ⊕ Unit} (hR : ReadTo (pathT p) x) : x = .inl p := by
 obtain ⟨h1, h2⟩ := chkP_parts h
 have e : rdP (pathT p) = (p, true) := by
  show rdF 21 [] (tailT p) true = _
  rw [rdF_back p 21 [] (by omega) (fun x hx => ⟨h2 x hx, hi x hx⟩)]
  rfl
 rcases hR with ⟨rfl, _⟩ | ⟨rfl, h⟩
 ·rw [e]
 ·rw [e] at h
  rcases h with h | h | h
  ·cases h
  ·exact absurd (by assumption) h
  ·exact absurd rfl h
end Go.Proofs.YticcibefchffmaaDoor.paths
