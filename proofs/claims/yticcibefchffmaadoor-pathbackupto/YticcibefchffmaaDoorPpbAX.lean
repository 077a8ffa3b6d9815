/- Of our texts, what this claim reaches. -/
import Derived.Test.YticcibefchffmaaDoorPpbAV
import Derived.Test.YticcibefchffmaaDoorPpbAT
set_option linter.unusedVariables false
set_option maxHeartbeats 8000000
set_option maxRecDepth 100000
namespace Go.Proofs.YticcibefchffmaaDoor.paths
open Go.RowKit
open utfs (hide unhide)
theorem paths_yes (w : World) (hT : PTabs w) : Calls Tryd.prog 22 #[] w fun e w' => e = .returned (.bool true) ∧ Below w.heap.size w w' := by
 have KT := hide (text_any w none 0 [] (fun h => absurd rfl h) (by decide) hT)
 have e1 : txtT [] = [36] := rfl
 have e2 : chkP [] = 0 := rfl
 rw [e1, e2] at KT
 clear hT e1 e2
 go_enter Tryd.func22, Tryd.ntmps22
 go_wp2_with fail
 refine (unhide KT).mono ?_
 rintro _ w1 ⟨rfl, b1⟩
 have B1 := hide b1
 clear KT b1
 go_wp2
 go_ret
 exact ⟨rfl, B1.out⟩
theorem samePath_any (w : World) (p q : Option Addr) (c d : Nat) (P Q : List St) (h1 : LiesP w p P) (h2 : LiesP w q Q) (l1 : P.length ≤ 9223372036854775807) (l2 : Q.length ≤ 9223372036854775807) :
  Calls Tryd.prog 23 #[.slice p P.length c, .slice q Q.length d] w fun e w' => e = .returned (.bool (decide (P = Q))) ∧ Below w.heap.size w w' := by
 have K := hide (equalP_any w p q c d P Q h1 h2 l1 l2)
 clear h1 h2
 go_enter Tryd.func23, Tryd.ntmps23
 go_wp2_with fail
 refine (unhide K).mono ?_
 rintro _ w1 ⟨rfl, b1⟩
 have B1 := hide b1
 clear K b1
 go_wp2
 go_ret
 exact ⟨rfl, B1.out⟩
def tooL (P : List St) (j : Nat) : Bool := (P.take j).any (fun x => decide (4611686018427387904 < x.2))
def errL (P : List St) (j : Nat) : Int := if tooL P j = true then 1 else chkP P
theorem tooL_succ {P : List St} {j : Nat} (h : j < P.length) : tooL P (j + 1) = (tooL P j || decide (4611686018427387904 < (P[j]).2)) := by
 unfold tooL
 rw [List.take_succ_eq_append_getElem h, List.any_append]
 simp
theorem readTo_yes {l : List UInt8} {P : List St} (h : ReadTo l (.inl P)) : chkP P = 0 ∧ pathT P = l := by
 rcases h with ⟨e, _, h1, h2⟩ | ⟨e, _⟩
 ·injection e with e
  subst e
  exact ⟨h1, h2⟩
 ·cases e
theorem lawPathBack (W : World) (p : Option Addr) (c : Nat) (P : List St) (s : ByteArray) (hP : LiesP W p P) (hl : P.length ≤ 9223372036854775807) (hs : s.size ≤ 1048576) (hT : PTabs W) (hM : MaxP W) :
  Calls Tryd.prog 5 #[.slice p P.length c, .string s] W fun e W' => e = .returned (.bool true) ∧ Below W.heap.size W W' := by
 have K0 := hide (paths_yes W hT)
 have HP := hide hP
 have HT := hide hT
 have HM := hide hM
 clear hP hT hM
 go_enter Tryd.func5, Tryd.ntmps5
 go_wp2_with fail
 refine (unhide K0).mono ?_
 rintro _ w1 ⟨rfl, b1⟩
 have K1 := hide (text_any w1 p c P (HP.out.keep b1) hl (HT.out.below b1))
 have B1 := hide b1
 clear K0 b1
 go_wp2_with fail
 refine (unhide K1).mono ?_
 rintro _ w2 ⟨rfl, b2⟩
 have B2 := hide (B1.out.trans (b2.mono B1.out.size))
 clear K1 b2 B1
 obtain ⟨tx, htx⟩ : ∃ tx, tx = txtT P := ⟨_, rfl⟩
 rw [← htx]
 have HX := hide htx
 clear htx
 obtain ⟨ce, hce⟩ : ∃ ce, ce = chkP P := ⟨_, rfl⟩
 rw [← hce]
 have HC := hide hce
 clear hce
 go_wp2_with fail
 go_loopw [6, 24] (fun e i wr => ∃ j : Nat, j ≤ P.length ∧ i = .int .i64 j ∧ e = .int .i64 (errL P j) ∧ Hid (Below W.heap.size W wr)) (fun _ i _ => P.length - (intOf i).toNat)
 case atStart => exact ⟨0, Nat.zero_le _, rfl, by rw [show errL P 0 = chkP P from rfl, ← HC.out], B2⟩
 case round =>
  obtain ⟨j, hj, rfl, rfl, hB⟩ := hrel
  by_cases hlt : j < P.length
  ·obtain ⟨B, o, key, rfl, hBn, hk1, hk2, hk3, c0, c1⟩ := HP.out.at hlt
   have q0 := (hB.out.cell (p := ⟨B, o + j * 2, none⟩) (by omega)).trans c0
   have q1 := (hB.out.cell (p := ⟨B, o + j * 2 + 1, none⟩) (by omega)).trans c1
   have hbA : Hid (Below W.heap.size W (wr.alloc (.cells #[.string key, .int .i64 (P[j]).2] 50))) := hide (hB.out.alloc (by have := hB.out.size; omega) _)
   have hsc := tooL_succ hlt
   have i1 : (j : Int) < (P.length : Int) := by omega
   clear c0 c1 hk1 hk2 hB
   generalize hx : (P[j]).2 = xi at *
   by_cases hg : xi > 4611686018427387904
   ·have HE : Hid (errL P (j + 1) = 1) := hide (by unfold errL; rw [hsc, decide_eq_true hg, Bool.or_true, if_pos rfl])
    clear hsc hx
    generalize errL P j = ej at *
    go_wp2
    go_roundw
    case rel => exact ⟨j + 1, hlt, by go_num, by rw [HE.out], hbA⟩
    case measure => simp only [intOf]; omega
   ·have HE : Hid (errL P (j + 1) = errL P j) := hide (by unfold errL; rw [hsc, decide_eq_false hg, Bool.or_false])
    clear hsc hx
    go_wp2
    go_roundw
    case rel => exact ⟨j + 1, hlt, by go_num, by rw [HE.out], hbA⟩
    case measure => simp only [intOf]; omega
  ·obtain rfl : j = P.length := by omega
   have g0 : ¬ (P.length : Int) < (P.length : Int) := by omega
   by_cases he : errL P P.length = 0
   ·have hall : tooL P P.length = false ∧ chkP P = 0 := by
     unfold errL at he
     split at he
     ·omega
     ·rename_i h
      exact ⟨by simpa using h, he⟩
    rw [he]
    have hle : ∀ x ∈ P, x.2 ≤ 4611686018427387904 := fun x hx => by
     have h := hall.1
     unfold tooL at h
     rw [List.take_length, List.any_eq_false] at h
     have := h x hx
     simp only [decide_eq_true_eq] at this
     omega
    have hxt : tx = pathT P := by rw [HX.out]; unfold txtT; rw [if_pos hall.2]
    have hl20 := (chkP_parts hall.2).1
    have hlen : (pathT P).length ≤ 20000 := by
     have := tailT_len P (fun x hx => by
      obtain ⟨q, hq, rfl⟩ := List.getElem_of_mem hx
      obtain ⟨_, _, _, _, _, _, _, k3, _⟩ := HP.out.at hq
      exact stT_len ((chkP_parts hall.2).2 _ hx) k3)
     show (36 :: tailT P).length ≤ _
     rw [List.length_cons]
     omega
    have KR := hide (read_any wr ⟨(pathT P).toArray⟩ (by rw [valus.size_mk]; omega) (HT.out.below hB.out) (HM.out.below hB.out))
    have HRB : Hid (∀ y, ReadTo (pathT P) y → y = .inl P) := hide (fun y hy => read_back hall.2 hle hy)
    rw [hxt]
    clear he hall hle hxt hlen
    go_wp2_with fail
    refine (unhide KR).mono ?_
    rintro _ w3 ⟨h3, b3⟩
    have B3 := hide (hB.out.trans (b3.mono (by have := hB.out.size; omega)))
    clear KR b3 hB
    rcases h3 with ⟨Q, q, cq, rfl, hcq, hLq, hRq⟩ | ⟨rfl, hRq⟩
    ·have hQ := HRB.out _ hRq
     injection hQ with hQ
     subst hQ
     have KS := hide (samePath_any w3 p q c cq Q Q (HP.out.keep B3.out) hLq hl hl)
     rw [decide_eq_true (rfl : Q = Q)] at KS
     clear hRq hLq HRB
     go_wp2_with fail
     refine (unhide KS).mono ?_
     rintro _ w4 ⟨rfl, b4⟩
     have HB := hide (B3.out.trans (b4.mono (by have := B3.out.size; omega)))
     clear KS b4 B3
     generalize w4 = X at *
     have KR := hide (read_any X s (by omega) (HT.out.below HB.out) (HM.out.below HB.out))
     go_wp2_with fail
     refine (unhide KR).mono ?_
     rintro _ w5 ⟨h5, b5⟩
     have B5 : Hid (Below W.heap.size W w5) := hide (HB.out.trans (b5.mono (by have := HB.out.size; omega)))
     clear KR b5 HB
     rcases h5 with ⟨R, qr, cq, rfl, hcq, hLq, hRr⟩ | ⟨rfl, _⟩
     ·obtain ⟨g1, g2⟩ := readTo_yes hRr
      have hRl := (chkP_parts g1).1
      have KT := hide (text_any w5 qr cq R hLq (by omega) (HT.out.below B5.out))
      have hx : txtT R = s.data.toList := by unfold txtT; rw [if_pos g1]; exact g2
      rw [hx, g1, show (⟨s.data.toList.toArray⟩ : ByteArray) = s from by simp] at KT
      clear hRr hLq g1 g2 hx
      go_wp2_with fail
      refine (unhide KT).mono ?_
      rintro _ w6 ⟨rfl, b6⟩
      have B6 := hide (B5.out.trans (b6.mono (by have := B5.out.size; omega)))
      clear KT b6 B5
      go_wp2
      go_ret
      exact ⟨rfl, B6.out⟩
     ·go_wp2
      go_ret
      exact ⟨rfl, B5.out⟩
    ·have hQ := HRB.out _ hRq
     cases hQ
   ·have hne : (errL P P.length == 0) = false := beq_false_of_ne he
    have HB := hB
    clear he hB
    generalize errL P P.length = ej at *
    generalize wr = X at *
    have KR := hide (read_any X s (by omega) (HT.out.below HB.out) (HM.out.below HB.out))
    go_wp2_with fail
    refine (unhide KR).mono ?_
    rintro _ w5 ⟨h5, b5⟩
    have B5 : Hid (Below W.heap.size W w5) := hide (HB.out.trans (b5.mono (by have := HB.out.size; omega)))
    clear KR b5 HB
    rcases h5 with ⟨Q, q, cq, rfl, hcq, hLq, hRq⟩ | ⟨rfl, _⟩
    ·obtain ⟨g1, g2⟩ := readTo_yes hRq
     have hQl := (chkP_parts g1).1
     have KT := hide (text_any w5 q cq Q hLq (by omega) (HT.out.below B5.out))
     have hx : txtT Q = s.data.toList := by unfold txtT; rw [if_pos g1]; exact g2
     rw [hx, g1, show (⟨s.data.toList.toArray⟩ : ByteArray) = s from by simp] at KT
     clear hRq hLq g1 g2 hx
     go_wp2_with fail
     refine (unhide KT).mono ?_
     rintro _ w6 ⟨rfl, b6⟩
     have B6 := hide (B5.out.trans (b6.mono (by have := B5.out.size; omega)))
     clear KT b6 B5
     go_wp2
     go_ret
     exact ⟨rfl, B6.out⟩
    ·go_wp2
     go_ret
     exact ⟨rfl, B5.out⟩
end Go.Proofs.YticcibefchffmaaDoor.paths
