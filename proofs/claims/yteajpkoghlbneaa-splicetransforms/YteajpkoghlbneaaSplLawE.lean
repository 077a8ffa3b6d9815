/- The law SpliceComposes. -/
import Derived.Test.YteajpkoghlbneaaSplComposedR
import Derived.Test.YteajpkoghlbneaaSplCompW
set_option linter.unusedVariables false
namespace Go.Proofs.Yteajpkoghlbneaa.spls
open Go.RowKit

set_option maxHeartbeats 4000000 in
set_option maxRecDepth 100000 in
theorem sameChange_any (w : World) (p q : Option Addr) (c d : Nat) (P Q : List Pt) (h1 : LiesQ w p P) (h2 : LiesQ w q Q) (l1 : P.length ≤ 9223372036854775807) (l2 : Q.length ≤ 9223372036854775807) :
    Calls Try.prog 8 #[.slice p P.length c, .slice q Q.length d] w fun e w' => e = .returned (.bool (decide (P = Q))) ∧ Below w.heap.size w w' := by
  by_cases hl : P.length = Q.length
  · have j0 : ((P.length : Int) != (Q.length : Int)) = false := bne_eq_false_iff_eq.2 (by rw [hl])
    have HP := hide h1
    have HQ := hide h2
    have HL := hide hl
    clear h1 h2 hl
    go_enter Try.func8, Try.ntmps8
    go_wp2_with fail
    go_loopw [13] (fun i wr => ∃ k : Nat, k ≤ P.length ∧ i = .int .i64 k ∧ Hid (P.take k = Q.take k) ∧ Below w.heap.size w wr) (fun i _ => P.length - (intOf i).toNat)
    case atStart => exact ⟨0, Nat.zero_le _, rfl, hide rfl, Below.refl _ _⟩
    case round =>
      obtain ⟨k, hk, rfl, HE, hbw⟩ := hrel
      by_cases hlt : k < P.length
      · obtain ⟨B1, o1, rfl, b1, _, x3⟩ := HP.out.at hlt
        obtain ⟨B2, o2, rfl, b2, _, y3⟩ := HQ.out.at (show k < Q.length by have := HL.out; omega)
        obtain ⟨p0, p1, p2⟩ := x3.below hbw b1
        obtain ⟨q0, q1, q2⟩ := y3.below hbw b2
        have eq := eqPart (P[k]).1 (P[k]).2.1 (Q[k]).1 (Q[k]).2.1 ⟨(P[k]).2.2.toArray⟩ ⟨(Q[k]).2.2.toArray⟩ _ _ _ rfl rfl rfl
        rw [part_eq] at eq
        have i1 : (k : Int) < (P.length : Int) := by omega
        have i1' : (k : Int) < (Q.length : Int) := by have := HL.out; omega
        have i3' : k < Q.length := by omega
        have i2 : (0 : Int) ≤ (k : Int) := by omega
        obtain ⟨bb, hbb⟩ : ∃ bb, decide (P[k] = Q[k]) = bb := ⟨_, rfl⟩
        rw [hbb] at eq
        have HD2 : Hid (bb = true ↔ P[k] = Q[k]) := hide (by rw [← hbb]; simp)
        clear hbb x3 y3
        generalize (P[k]).1 = z1 at *
        generalize (Q[k]).1 = z2 at *
        generalize (P[k]).2.1 = z3 at *
        generalize (Q[k]).2.1 = z4 at *
        generalize (⟨(P[k]).2.2.toArray⟩ : ByteArray) = z5 at *
        generalize (⟨(Q[k]).2.2.toArray⟩ : ByteArray) = z6 at *
        cases bb with
        | true =>
          have HT := hide (take_eq HE.out hlt (by omega) (HD2.out.1 rfl))
          go_wp2_with fail
          go_quiet (fail)
          have hbw2 := below_drewN hbw nq
          clear hbw p0 p1 q0 q1 eq p2 q2
          generalize wr.drewN nq = w2 at *
          go_wp2
          go_roundw
          case rel => exact ⟨k + 1, hlt, by go_num, HT, hbw2⟩
          case measure => simp only [intOf]; omega
        | false =>
          have HN : Hid (decide (P = Q) = false) := hide (decide_eq_false (fun e => by subst e; exact Bool.noConfusion (HD2.out.2 rfl)))
          go_wp2_with fail
          go_quiet (fail)
          have hbw2 := below_drewN hbw nq
          clear hbw p0 p1 q0 q1 eq p2 q2
          generalize wr.drewN nq = w2 at *
          go_wp2
          go_ret
          exact ⟨by rw [HN.out]; rfl, hbw2⟩
      · have HT : Hid (decide (P = Q) = true) := hide (decide_eq_true (by
          have e := HE.out
          rw [List.take_of_length_le (by omega), List.take_of_length_le (by have := HL.out; omega)] at e
          exact e))
        go_wp2
        go_ret
        exact ⟨by rw [HT.out]; rfl, hbw⟩
  · have HN : Hid (decide (P = Q) = false) := hide (decide_eq_false (fun e => hl (by rw [e])))
    have j0 : ((P.length : Int) != (Q.length : Int)) = true := by simp; omega
    have j1 : ¬ (P.length : Int) = (Q.length : Int) := by omega
    clear h1 h2
    go_enter Try.func8, Try.ntmps8
    go_wp2
    go_ret
    exact ⟨by rw [HN.out]; rfl, Below.refl _ _⟩
/-- What is wrong with two changes, one behind the other. -/
def matB (A B : List Pt) : Int := if erB A B ≠ 0 then erB A B else if ov (exL B) ≠ mk (exL A) then 1 else 0
set_option maxHeartbeats 8000000 in
set_option maxRecDepth 100000 in
theorem match_behind (w : World) (p q : Option Addr) (c d : Nat) (A B : List Pt) (hA : LiesQ w p A) (hB : LiesQ w q B) (la : A.length ≤ 9223372036854775807) (lb : B.length ≤ 9223372036854775807) :
    Calls Try.prog 5 #[.slice p A.length c, .slice q B.length d, .bool true] w fun e w' => e = .returned (.int .i64 (matB A B)) ∧ Below w.heap.size w w' := by
  have K1 := hide (changeFault_any w p c A hA la)
  have HB := hide hB
  clear hA hB
  go_enter Try.func5, Try.ntmps5
  go_wp2_with fail
  refine (unhide K1).mono ?_
  rintro _ w1 ⟨rfl, b1⟩
  have K2 := hide (changeFault_any w1 q d B (HB.out.keep b1) lb)
  have B1 := hide b1
  clear K1 b1
  go_wp2_with fail
  refine (unhide K2).mono ?_
  rintro _ w2 ⟨rfl, b2⟩
  have b3 := B1.out.trans (b2.mono B1.out.size)
  clear K2 b2 B1
  by_cases za : chk A = 0
  · by_cases zb : chk B = 0
    · have h0 : erB A B = 0 := by unfold erB; rw [if_neg (fun h => h za)]; exact zb
      have eM : szM A = mk (exL A) := if_pos za
      have eO : szO B = ov (exL B) := if_pos zb
      have o1 := (chk_ok za).2.2.2
      have o2 := (chk_ok zb).2.2.1
      rw [za, zb, eM, eO]
      by_cases hm : ov (exL B) = mk (exL A)
      · have HE : Hid (matB A B = 0) := hide (by unfold matB; rw [if_neg (fun h => h h0), if_neg (fun h => h hm)])
        have i1 : ((ov (exL B) : Int) != (mk (exL A) : Int)) = false := by rw [hm]; simp
        have HM := hide hm
        clear za zb h0 eM eO hm
        generalize ov (exL B) = ob at *
        generalize mk (exL A) = ma at *
        generalize szO A = za1 at *
        generalize szM B = zb1 at *
        go_wp2
        go_ret
        exact ⟨by rw [HE.out]; rfl, b3⟩
      · have HE : Hid (matB A B = 1) := hide (by unfold matB; rw [if_neg (fun h => h h0), if_pos hm])
        have i1 : ((ov (exL B) : Int) != (mk (exL A) : Int)) = true := by simp; omega
        have i2 : ¬ (ov (exL B) : Int) = (mk (exL A) : Int) := by omega
        have HM := hide hm
        clear za zb h0 eM eO hm
        generalize ov (exL B) = ob at *
        generalize mk (exL A) = ma at *
        generalize szO A = za1 at *
        generalize szM B = zb1 at *
        go_wp2
        go_ret
        exact ⟨by rw [HE.out]; rfl, b3⟩
    · have HE : Hid (matB A B = chk B) := hide (by
        have h0 : erB A B = chk B := by unfold erB; rw [if_neg (fun h => h za)]
        unfold matB; rw [h0, if_pos zb])
      rw [za]
      have e2 : (chk B == 0) = false := beq_false_of_ne zb
      have e3 : (chk B != 0) = true := by simp [zb]
      clear za
      generalize chk B = er at *
      generalize szO A = y1 at *
      generalize szM A = y2 at *
      generalize szO B = y3 at *
      generalize szM B = y4 at *
      go_wp2
      go_ret
      exact ⟨by rw [HE.out]; rfl, b3⟩
  · have HE : Hid (matB A B = chk A) := hide (by
      have h0 : erB A B = chk A := by unfold erB; rw [if_pos za]
      unfold matB; rw [h0, if_pos za])
    have e2 : (chk A == 0) = false := beq_false_of_ne za
    have e3 : (chk A != 0) = true := by simp [za]
    generalize chk A = er at *
    generalize chk B = er2 at *
    generalize szO A = y1 at *
    generalize szM A = y2 at *
    generalize szO B = y3 at *
    generalize szM B = y4 at *
    go_wp2
    go_ret
    exact ⟨by rw [HE.out]; rfl, b3⟩
/-- The normal ones of both do the same. -/
theorem cmpN_doc {A B : List Pt} (h : ov (exL B) = mk (exL A)) : nf (cmp (exL B) (exL A)) = cmpN A B := by
  unfold cmpN
  have h1 : mk (exL A) = ov (exL B) := h.symm
  have h2 : mk (nrm (exL A)) = ov (nrm (exL B)) := by rw [mk_nrm, ov_nrm, h]
  refine nf_of (nrm_of_act ?_ ?_)
  · rw [ov_cmp _ _ h1, ov_cmp _ _ h2, ov_nrm]
  · rw [ov_cmp _ _ h1, act_cmp ptA _ _ _ h1 (whole_len _ _), act_cmp ptA _ _ _ h2 (by rw [whole_len, ov_nrm]), act_nrm ptA (exL A) _ (whole_len _ _), act_nrm ptA (exL B) _ (by rw [act_len ptA _ _ (whole_len _ _), h])]
theorem matB_ok {A B : List Pt} (h : matB A B = 0) : chk A = 0 ∧ chk B = 0 ∧ ov (exL B) = mk (exL A) ∧ cmpE A B = if chk (cmpN A B) ≠ 0 then 2 else 0 := by
  unfold matB at h
  split at h
  · rename_i h1; exact absurd h h1
  · rename_i h1
    obtain ⟨a, b⟩ := erB_ok (Classical.byContradiction h1)
    split at h
    · omega
    · rename_i h2
      exact ⟨a, b, Classical.byContradiction h2, by unfold cmpE; rw [if_neg h1, if_neg h2]⟩
theorem matB_bad {A B : List Pt} (h : matB A B ≠ 0) : cmpE A B = matB A B ∧ cmpC A B = [] := by
  have e : cmpE A B = matB A B := by
    unfold matB at h
    unfold cmpE matB
    split
    · rfl
    · split
      · rfl
      · rename_i h1 h2
        rw [if_neg h1, if_neg h2] at h
        exact absurd rfl h
  exact ⟨e, if_neg (by rw [e]; exact h)⟩
theorem cmpC_good (A B : List Pt) : chk (cmpC A B) = 0 := by
  unfold cmpC
  split
  · rename_i h; exact (cmpE_ok h).2.2.2
  · exact chk_nil0
end Go.Proofs.Yteajpkoghlbneaa.spls
