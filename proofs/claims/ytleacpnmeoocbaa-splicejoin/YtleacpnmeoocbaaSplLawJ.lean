/- The law SpliceJoin. -/
import Derived.Test.YtleacpnmeoocbaaSplLawA
import Derived.Test.YtleacpnmeoocbaaSplCompW
set_option linter.unusedVariables false
namespace Go.Proofs.Ytleacpnmeoocbaa.spls
open Go.RowKit

theorem cmpC_fine (A B : List Pt) : chk (cmpC A B) = 0 := by
  unfold cmpC
  split
  · rename_i h; exact (cmpE_ok h).2.2.2
  · exact chk_nil0
/-- Two as one do what the two do. -/
theorem join_text {s : List UInt8} {A B : List Pt} (h1 : chkO s A = 0) (h2 : chkO (appT s A) B = 0) (h3 : cmpE A B = 0) : chkO s (cmpC A B) = 0 ∧ appT s (cmpC A B) = appT (appT s A) B := by
  obtain ⟨a1, a2⟩ := chkO_ok h1
  obtain ⟨b1, b2⟩ := chkO_ok h2
  obtain ⟨_, _, hm, hg⟩ := cmpE_ok h3
  have e : cmpC A B = cmpN A B := if_pos h3
  have hmm : mk (nrm (exL A)) = ov (nrm (exL B)) := by rw [mk_nrm, ov_nrm, hm]
  have eA : appT s A = act id (exL A) s := if_pos h1
  have hov : ov (exL (cmpN A B)) = ov (exL A) := by unfold cmpN; rw [ex_nf, ov_nrm, ov_cmp _ _ hmm, ov_nrm]
  rw [e]
  have h0 : chkO s (cmpN A B) = 0 := chkO_zero hg (by rw [hov]; exact a2)
  refine ⟨h0, ?_⟩
  have e1 : appT s (cmpN A B) = act id (exL (cmpN A B)) s := if_pos h0
  have e2 : appT (appT s A) B = act id (exL B) (appT s A) := if_pos h2
  rw [e1, e2, eA]
  unfold cmpN
  rw [ex_nf, act_nrm id _ _ (by rw [ov_cmp _ _ hmm, ov_nrm]; exact a2), act_cmp id _ _ _ hmm (by rw [ov_nrm]; exact a2), act_nrm id (exL A) s a2, act_nrm id (exL B) _ (by rw [act_len id _ _ a2, hm])]
/-- Of three it is no matter which two are joined first. -/
theorem join_three {A B C : List Pt} (h1 : cmpE A B = 0) (h2 : cmpE B C = 0) (h3 : cmpE (cmpC A B) C = 0) (h4 : cmpE A (cmpC B C) = 0) : cmpC (cmpC A B) C = cmpC A (cmpC B C) := by
  obtain ⟨_, _, m1, _⟩ := cmpE_ok h1
  obtain ⟨_, _, m2, _⟩ := cmpE_ok h2
  have e1 : cmpC A B = cmpN A B := if_pos h1
  have e2 : cmpC B C = cmpN B C := if_pos h2
  have e3 : cmpC (cmpC A B) C = cmpN (cmpC A B) C := if_pos h3
  have e4 : cmpC A (cmpC B C) = cmpN A (cmpC B C) := if_pos h4
  rw [e3, e4, e1, e2]
  unfold cmpN
  rw [ex_nf, ex_nf, nrm_nrm, nrm_nrm]
  refine nf_of ?_
  exact cmp_three (nrm (exL A)) (nrm (exL B)) (nrm (exL C)) (by rw [mk_nrm, ov_nrm, m1]) (by rw [mk_nrm, ov_nrm, m2])
set_option maxHeartbeats 8000000 in
set_option maxRecDepth 100000 in
theorem lawSpliceJoin (W : World) (s : ByteArray) (p q r : Option Addr) (c d e' : Nat) (A B C : List Pt) (hA : LiesQ W p A) (hB : LiesQ W q B) (hC : LiesQ W r C) (la : A.length ≤ 9223372036854775807) (lb : B.length ≤ 9223372036854775807) (lc : C.length ≤ 9223372036854775807) :
    Calls Try.prog 8 #[.string s, .slice p A.length c, .slice q B.length d, .slice r C.length e'] W fun e W' => e = .returned (.bool true) ∧ Below W.heap.size W W' := by
  have K0 := hide (splices_yes W)
  have HA := hide hA
  have HB := hide hB
  have HC := hide hC
  clear hA hB hC
  go_enter Try.func8, Try.ntmps8
  go_wp2_with fail
  refine (unhide K0).mono ?_
  rintro _ w1 ⟨rfl, b1⟩
  have K1 := hide (apply_any w1 s p c A (HA.out.keep b1) la)
  clear K0
  go_wp2_with fail
  refine (unhide K1).mono ?_
  rintro _ w2 ⟨rfl, b2'⟩
  have b2 := b1.trans (b2'.mono b1.size)
  have K2 := apply_any w2 ⟨(appT s.data.toList A).toArray⟩ q d B (HB.out.keep b2) lb
  rw [show (⟨(appT s.data.toList A).toArray⟩ : ByteArray).data.toList = appT s.data.toList A from rfl] at K2
  have K2H := hide K2
  clear K1 K2 b1 b2'
  go_wp2_with fail
  refine (unhide K2H).mono ?_
  rintro _ w3 ⟨rfl, b3'⟩
  have b3 := b2.trans (b3'.mono b2.size)
  have K3 := hide (composeF_any w3 p q c d A B (HA.out.keep b3) (HB.out.keep b3) la lb)
  clear K2H b2 b3'
  go_wp2_with fail
  refine (unhide K3).mono ?_
  rintro _ w4 ⟨v, rfl, hv, b4'⟩
  have b4 := b3.trans (b4'.mono b3.size)
  clear K3 b3 b4'
  have fAB := cmpC_fine A B
  obtain ⟨pv, cv, rfl, _, _, LV, _⟩ := hv.lies (good_rng fAB)
  have lv := (chk_ok fAB).1
  have HLV := hide LV
  clear hv LV
  by_cases z1 : chkO s.data.toList A = 0
  · by_cases z2 : chkO (appT s.data.toList A) B = 0
    · by_cases z3 : cmpE A B = 0
      · obtain ⟨j1, j2⟩ := join_text z1 z2 z3
        rw [z1, z2, z3]
        have K4 := apply_any w4 s pv cv (cmpC A B) HLV.out (by omega)
        rw [j1, j2] at K4
        have K4H := hide K4
        have HZ3 := hide z3
        clear K4 j1 j2 z1 z2 z3
        generalize (⟨(appT s.data.toList A).toArray⟩ : ByteArray) = T1 at *
        generalize (⟨(appT (appT s.data.toList A) B).toArray⟩ : ByteArray) = T2 at *
        go_wp2_with fail
        refine (unhide K4H).mono ?_
        rintro _ w5 ⟨rfl, b5'⟩
        have b5 := b4.trans (b5'.mono b4.size)
        have HLV5 := hide (HLV.out.keep b5')
        have K5 := hide (composeF_any w5 q r d e' B C (HB.out.keep b5) (HC.out.keep b5) lb lc)
        clear K4H b4 b5' HLV
        go_wp2_with fail
        refine (unhide K5).mono ?_
        rintro _ w6 ⟨u, rfl, hu, b6'⟩
        have b6 := b5.trans (b6'.mono b5.size)
        have HLV6 := hide (HLV5.out.keep b6')
        have fBC := cmpC_fine B C
        obtain ⟨pu, cu, rfl, _, _, LU, _⟩ := hu.lies (good_rng fBC)
        have lu := (chk_ok fBC).1
        have HLU := hide LU
        clear K5 b5 b6' HLV5 hu LU
        by_cases z4 : cmpE B C = 0
        · rw [z4]
          have HZ4 := hide z4
          have K6 := hide (composeF_any w6 pv r cv e' (cmpC A B) C HLV6.out (HC.out.keep b6) (by omega) lc)
          clear z4
          go_wp2_with fail
          refine (unhide K6).mono ?_
          rintro _ w7 ⟨x, rfl, hx, b7'⟩
          have b7 := b6.trans (b7'.mono b6.size)
          have K7 := hide (composeF_any w7 p pu c cu A (cmpC B C) (HA.out.keep b7) (HLU.out.keep b7') la (by omega))
          have fX := cmpC_fine (cmpC A B) C
          obtain ⟨px, cx, rfl, _, _, LX, _⟩ := hx.lies (good_rng fX)
          have lx := (chk_ok fX).1
          have HLX := hide LX
          clear K6 b6 b7' HLV6 HLU hx LX
          go_wp2_with fail
          refine (unhide K7).mono ?_
          rintro _ w8 ⟨y, rfl, hy, b8'⟩
          have b8 := b7.trans (b8'.mono b7.size)
          have fY := cmpC_fine A (cmpC B C)
          obtain ⟨py, cy, rfl, _, _, LY, _⟩ := hy.lies (good_rng fY)
          have ly := (chk_ok fY).1
          have K8 := hide (equal_any w8 px py cx cy _ _ (HLX.out.keep b8') LY (by omega) (by omega))
          clear K7 b7 b8' HLX hy LY fX fY fAB fBC
          by_cases z5 : cmpE (cmpC A B) C = 0
          · by_cases z6 : cmpE A (cmpC B C) = 0
            · have ej := join_three HZ3.out HZ4.out z5 z6
              rw [z5, z6]
              rw [show decide (cmpC (cmpC A B) C = cmpC A (cmpC B C)) = true from decide_eq_true ej] at K8
              clear z5 z6 ej
              generalize (cmpC (cmpC A B) C).length = l1 at *
              generalize (cmpC A (cmpC B C)).length = l2 at *
              go_wp2_with fail
              refine (unhide K8).mono ?_
              rintro _ w9 ⟨rfl, b9'⟩
              have b9 := b8.trans (b9'.mono b8.size)
              clear K8 b8 b9'
              go_wp2
              go_ret
              exact ⟨rfl, b9⟩
            · rw [z5]
              have e2 : (cmpE A (cmpC B C) == 0) = false := beq_false_of_ne z6
              have e3 : (cmpE A (cmpC B C) != 0) = true := by simp [z6]
              clear K8 z5
              generalize cmpE A (cmpC B C) = er at *
              go_wp2
              go_ret
              exact ⟨rfl, b8⟩
          · have e2 : (cmpE (cmpC A B) C == 0) = false := beq_false_of_ne z5
            have e3 : (cmpE (cmpC A B) C != 0) = true := by simp [z5]
            clear K8
            generalize cmpE (cmpC A B) C = er at *
            generalize cmpE A (cmpC B C) = er2 at *
            go_wp2
            go_ret
            exact ⟨rfl, b8⟩
        · have e2 : (cmpE B C == 0) = false := beq_false_of_ne z4
          have e3 : (cmpE B C != 0) = true := by simp [z4]
          clear fBC fAB
          generalize cmpE B C = er at *
          go_wp2
          go_ret
          exact ⟨rfl, b6⟩
      · rw [z1, z2]
        have e2 : (cmpE A B == 0) = false := beq_false_of_ne z3
        have e3 : (cmpE A B != 0) = true := by simp [z3]
        clear fAB
        generalize cmpE A B = er at *
        go_wp2
        go_ret
        exact ⟨rfl, b4⟩
    · rw [z1]
      have e2 : (chkO (appT s.data.toList A) B == 0) = false := beq_false_of_ne z2
      have e3 : (chkO (appT s.data.toList A) B != 0) = true := by simp [z2]
      clear fAB
      generalize cmpE A B = er2 at *
      generalize chkO (appT s.data.toList A) B = er at *
      go_wp2
      go_ret
      exact ⟨rfl, b4⟩
  · have e2 : (chkO s.data.toList A == 0) = false := beq_false_of_ne z1
    have e3 : (chkO s.data.toList A != 0) = true := by simp [z1]
    clear fAB
    generalize cmpE A B = er2 at *
    generalize chkO (appT s.data.toList A) B = er1 at *
    generalize chkO s.data.toList A = er at *
    go_wp2
    go_ret
    exact ⟨rfl, b4⟩
end Go.Proofs.Ytleacpnmeoocbaa.spls
