/- Of our texts, what this claim reaches. -/
import Derived.Test.YtadaehaemmelfaaDoorPaaAS
import Derived.Test.YtadaehaemmelfaaDoorPaaAO
import Derived.Test.YtadaehaemmelfaaDoorPaaAQ
set_option linter.unusedVariables false
set_option maxHeartbeats 4000000
set_option maxRecDepth 100000
namespace Go.Proofs.YtadaehaemmelfaaDoor.paths
open Go.RowKit
open utfs (bad hide unhide)
open escs (Bld Kept EscTabs keyT keyE catL)
open bigs (NumTabs tellB)
structure PTabs (w : World) : Prop where
 esc : EscTabs w
 num : NumTabs w
theorem PTabs.below {w w' : World} (h : PTabs w) (hb : Below w.heap.size w w') : PTabs w' := ⟨h.esc.below hb, h.num.below hb⟩
theorem keyT_len {k : List UInt8} (h : bad k < 0) : (keyT k).length ≤ 6 * k.length + 2 := by
 unfold keyT
 split
 ·omega
 ·rw [if_neg (by omega)]
  obtain ⟨e, hs⟩ := utfs.good_runes h
  have := escs.quoteL_len hs
  rw [← e] at this
  exact this
theorem stT_len {x : St} (h : chkS x = 0) (hi : -9223372036854775808 ≤ x.2 ∧ x.2 ≤ 9223372036854775807) : (stT x).length ≤ 700 := by
 obtain ⟨h1, h2, h3, h4⟩ := chkS_parts h
 have l1 := keyT_len h4
 have l2 := bigs.tell_len (b := 10) (.inr (.inr (.inl rfl))) x.2 hi.1 hi.2
 unfold stT
 split <;> simp <;> omega
theorem tailT_len : ∀ (P : List St), (∀ x ∈ P, (stT x).length ≤ 700) → (tailT P).length ≤ 700 * P.length
 | [], _ => Nat.zero_le _
 | x :: P, h => by
  have h1 := h x List.mem_cons_self
  have h2 := tailT_len P (fun y hy => h y (List.mem_cons_of_mem _ hy))
  show (stT x ++ tailT P).length ≤ 700 * (P.length + 1)
  rw [List.length_append]
  omega
theorem writeStep_any (B b : Nat) (l : List UInt8) (w : World) (h : Bld B b l w) (hl : l.length ≤ 1000000) (hB : B ≤ w.heap.size) (key : ByteArray) (i : Int) (hk : key.size ≤ 100) (hbad : bad key.data.toList < 0) (hi : -9223372036854775808 ≤ i ∧ i ≤ 9223372036854775807) (hT : PTabs w) :
  Calls Tryd.prog 53 #[.pointer (some ⟨b, 0, none⟩), .agg #[.string key, .int .i64 i]] w fun e w' => e = .returned (.tuple #[]) ∧ Bld B b (l ++ stT (key.data.toList, i)) w' ∧ Below B w w' ∧ Kept b w w' := by
 have b0 : Below w.heap.size w (w.alloc (.cells #[.string key, .int .i64 i] 60)) := (Below.refl _ w).alloc (Nat.le_refl _) _
 have hT1 := hT.below b0
 have h1 := h.below b0
 have lk := keyT_len hbad
 have hlen : key.data.toList.length = key.size := rfl
 have B0 := hide b0
 have hsz : B ≤ (w.alloc (.cells #[.string key, .int .i64 i] 60)).heap.size := by simp; omega
 by_cases e : i = -1
 ·subst e
  have KE := hide (escs.key_any _ key (by omega) hT1.esc)
  have E : Hid (stT (key.data.toList, -1) = 46 :: keyT key.data.toList) := hide (by unfold stT; rw [if_pos rfl])
  have hc : ∀ u, (Op.stringOp .add ⟨#[46]⟩ ⟨(keyT key.data.toList).toArray⟩).run Tryd.prog u = .ok (.string ⟨(46 :: keyT key.data.toList).toArray⟩) u := fun u => catL [46] (keyT key.data.toList) (by simp; omega) u
  have H1 := hide h1
  have hx : (keyT key.data.toList).length ≤ 602 := by omega
  clear h h1 hT hT1 lk hlen b0
  generalize keyT key.data.toList = K at *
  generalize keyE key.data.toList = ke at *
  go_enter Tryd.func53, Tryd.ntmps53
  go_wp2_with fail
  refine (unhide KE).mono ?_
  rintro _ w1 ⟨rfl, b1⟩
  have H2 := hide (H1.out.below b1)
  have B1 := hide (B0.out.trans (b1.mono B0.out.size))
  have hs1 : B ≤ w1.heap.size := by have := B1.out.size; omega
  clear b1 KE H1 B0 hsz
  go_wp2_with fail
  refine (escs.str_b B b l (46 :: K) w1 H2.out (by simp; omega) hs1).mono ?_
  rintro _ w2 ⟨⟨n, rfl⟩, i2, b2, o2⟩
  have I2 := hide i2
  have B2 := hide ((B1.out.mono hB).trans b2)
  have O2 := hide ((Kept.below B1.out).trans o2)
  clear i2 b2 o2 B1 H2
  go_wp2
  (try simp only [Exit.inBlock, Exit.then])
  refine bodyPost_ret (results_none rfl _ _ _) rfl ?_
  rw [E.out]
  exact ⟨rfl, I2.out, B2.out, O2.out⟩
 ·have KN := hide (bigs.textN_any (w.alloc (.cells #[.string key, .int .i64 i] 60)) i hi.1 hi.2 hT1.num)
  have l2 := bigs.tell_len (b := 10) (.inr (.inr (.inl rfl))) i hi.1 hi.2
  have E : Hid (stT (key.data.toList, i) = 91 :: (tellB 10 i ++ [93])) := hide (by unfold stT; rw [if_neg e])
  have e1 : (i == -1) = false := beq_false_of_ne e
  have H1 := hide h1
  clear h h1 hT hT1 lk hlen b0
  generalize tellB 10 i = K at *
  have hc : ∀ u, (Op.stringOp .add ⟨#[91]⟩ ⟨K.toArray⟩).run Tryd.prog u = .ok (.string ⟨(91 :: K).toArray⟩) u := fun u => catL [91] K (by simp; omega) u
  have hc2 : ∀ u, (Op.stringOp .add ⟨(91 :: K).toArray⟩ ⟨#[93]⟩).run Tryd.prog u = .ok (.string ⟨(91 :: (K ++ [93])).toArray⟩) u := fun u => catL (91 :: K) [93] (by simp; omega) u
  go_enter Tryd.func53, Tryd.ntmps53
  go_wp2_with fail
  refine (unhide KN).mono ?_
  rintro _ w1 ⟨rfl, b1⟩
  have H2 := hide (H1.out.below b1)
  have B1 := hide (B0.out.trans (b1.mono B0.out.size))
  have hs1 : B ≤ w1.heap.size := by have := B1.out.size; omega
  clear b1 KN H1 B0 hsz
  go_wp2_with fail
  refine (escs.str_b B b l (91 :: (K ++ [93])) w1 H2.out (by simp; omega) hs1).mono ?_
  rintro _ w2 ⟨⟨n, rfl⟩, i2, b2, o2⟩
  have I2 := hide i2
  have B2 := hide ((B1.out.mono hB).trans b2)
  have O2 := hide ((Kept.below B1.out).trans o2)
  clear i2 b2 o2 B1 H2
  go_wp2
  go_end0
  rw [E.out]
  exact ⟨rfl, I2.out, B2.out, O2.out⟩
def txtT (P : List St) : List UInt8 := if chkP P = 0 then pathT P else []
theorem text_any (w : World) (p : Option Addr) (c : Nat) (P : List St) (hP : LiesP w p P) (hl : P.length ≤ 9223372036854775807) (hT : PTabs w) :
  Calls Tryd.prog 36 #[.slice p P.length c] w fun e w' => e = .returned (.tuple #[.string ⟨(txtT P).toArray⟩, .int .i64 (chkP P)]) ∧ Below w.heap.size w w' := by
 have KC := hide (check_any w p c P hP hl hT.esc.utf)
 by_cases e : chkP P = 0
 ·have E : Hid (txtT P = pathT P) := hide (by unfold txtT; rw [if_pos e])
  obtain ⟨hl20, hall⟩ := chkP_parts e
  rw [e] at KC
  have HP := hide hP
  have HT := hide hT
  have HA := hide hall
  have HE := hide e
  clear e hP hT hall
  go_enter Tryd.func36, Tryd.ntmps36
  go_wp2_with fail
  refine (unhide KC).mono ?_
  rintro _ w1 ⟨rfl, b1⟩
  have T1 := hide (HT.out.below b1)
  have P1 := hide (HP.out.keep b1)
  have B1 := hide b1
  have hPB : ∀ B o, p = some ⟨B, o, none⟩ → P.length ≠ 0 → B < w1.heap.size := fun B o e hn => by
   obtain ⟨B', o', e', hB, _⟩ := P1.out hn
   rw [e'] at e
   injection e with e
   injection e with e
   omega
  have HPB := hide hPB
  clear KC b1 HT HP hPB
  have I0 : Hid (Bld w1.heap.size w1.heap.size [] (w1.alloc (.cells #[.pointer none, .slice none 0 0] 99))) := hide (Lib.IsBuilderF.of (Lib.fresh_isBuilder 99 5 w1))
  go_wp2_with fail
  refine (escs.str_b w1.heap.size w1.heap.size [] [36] _ (unhide I0) (by simp) (by simp)).mono ?_
  rintro _ w2 ⟨⟨n2, rfl⟩, i2, b2, o2⟩
  have b2' : Below w1.heap.size w1 w2 := ((Below.refl _ w1).alloc (Nat.le_refl _) _).trans b2
  have lt2 : w1.heap.size < w2.heap.size := by have := b2.size; simp at this; omega
  have I2 := hide i2
  have B2 := hide b2'
  clear i2 b2 b2' o2 I0
  have hN : w.heap.size ≤ w1.heap.size := (unhide B1).size
  generalize hNN : w1.heap.size = N at I2 B2 lt2 hN HPB ⊢
  go_wp2_with fail
  go_loopw [16] (fun i wr => ∃ j : Nat, i = .int .i64 j ∧ j ≤ P.length ∧ Hid (Bld N N (36 :: tailT (P.take j)) wr) ∧ Hid (Below N w1 wr) ∧ N < wr.heap.size) (fun i _ => P.length - (intOf i).toNat)
  case atStart => exact ⟨0, rfl, Nat.zero_le _, I2, B2, lt2⟩
  case round =>
   obtain ⟨j, rfl, hj, hI, hB, hNw⟩ := hrel
   have LL := tailT_len (P.take j) (fun x hx => by
    have hm := List.mem_of_mem_take hx
    obtain ⟨q, hq, rfl⟩ := List.getElem_of_mem hm
    obtain ⟨_, _, key, _, _, _, _, k3, _⟩ := P1.out.at hq
    exact stT_len (HA.out _ hm) k3)
   rw [List.length_take] at LL
   by_cases hlt : j < P.length
   ·obtain ⟨B, o, key, rfl, hBn, hk1, hk2, hk3, c0, c1⟩ := P1.out.at hlt
    have hB2 := HPB.out B o rfl (by omega)
    have q0 := (hB.out.cell (p := ⟨B, o + j * 2, none⟩) hB2).trans c0
    have q1 := (hB.out.cell (p := ⟨B, o + j * 2 + 1, none⟩) hB2).trans c1
    have hs := chkS_parts (HA.out _ (List.getElem_mem hlt))
    have hb1 : Below N w1 (wr.alloc (.cells #[.string key, .int .i64 (P[j]).2] 60)) := hB.out.alloc (by omega) _
    have hTr := T1.out.below (by rw [hNN]; exact hb1)
    have hI1 := hI.out.below ((Below.refl _ wr).alloc (Nat.le_refl _) (.cells #[.string key, .int .i64 (P[j]).2] 60))
    have hkl : key.size = (P[j]).1.length := by rw [← hk1]; rfl
    have KW := hide (writeStep_any N N (36 :: tailT (P.take j)) _ hI1 (by simp only [List.length_cons]; omega) (by simp; omega) key (P[j]).2 (by omega) (by rw [hk1]; exact hs.2.2.2) hk3 hTr)
    rw [hk1] at KW
    have ht : 36 :: tailT (P.take (j + 1)) = 36 :: tailT (P.take j) ++ stT ((P[j]).1, (P[j]).2) := by
     rw [List.take_succ_eq_append_getElem hlt, tailT_app]
     show _ = _ :: (_ ++ _)
     simp [tailT]
    have HTT := hide ht
    have HB1 := hide hb1
    clear LL hk1 hk2 hk3 hkl hs hb1 hTr hI1 ht c0 c1 hI hB
    generalize (P[j]).2 = xi at *
    generalize (P[j]).1 = xk at *
    go_wp2_with fail
    refine (unhide KW).mono ?_
    rintro _ w3 ⟨rfl, i3, b3, o3⟩
    have I3 := hide i3
    have B3 := hide (HB1.out.trans b3)
    have hN3 : N < w3.heap.size := by have := b3.size; simp at this; omega
    clear i3 b3 o3 KW HB1
    go_wp2
    go_roundw
    case rel => exact ⟨j + 1, by congr 1, by omega, hide (by rw [HTT.out]; exact I3.out), B3, hN3⟩
    case measure => simp only [intOf]; omega
   ·obtain rfl : j = P.length := by omega
    have g0 : ¬ (P.length : Int) < (P.length : Int) := by omega
    have KS := hide (escs.text_b N N _ wr hI.out (by omega))
    rw [List.take_length] at KS
    clear hI LL
    go_wp2_with fail
    refine (unhide KS).mono ?_
    rintro _ w3 ⟨rfl, b3⟩
    have B3 := hide (B1.out.trans ((hB.out.trans b3).mono hN))
    clear b3 KS
    go_wp2
    go_ret2
    rw [E.out, HE.out]
    exact ⟨rfl, B3.out⟩
 ·have E : Hid (txtT P = []) := hide (by unfold txtT; rw [if_neg e])
  have e1 : (chkP P != 0) = true := bne_iff_ne.2 e
  clear hP hT e
  go_enter Tryd.func36, Tryd.ntmps36
  go_wp2_with fail
  refine (unhide KC).mono ?_
  rintro _ w1 ⟨rfl, b1⟩
  have B1 := hide b1
  clear b1 KC
  go_wp2
  go_ret2
  rw [E.out]
  exact ⟨rfl, B1.out⟩
end Go.Proofs.YtadaehaemmelfaaDoor.paths
