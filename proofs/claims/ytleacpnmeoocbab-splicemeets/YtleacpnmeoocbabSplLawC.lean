/- The law SpliceMeets. -/
import Derived.Test.YtleacpnmeoocbabSplLawA
import Derived.Test.YtleacpnmeoocbabSplTransW
set_option linter.unusedVariables false
namespace Go.Proofs.Ytleacpnmeoocbab.spls
open Go.RowKit

theorem trC1_fine (A B : List Pt) : chk (trC1 A B) = 0 := by
  unfold trC1
  split
  · rename_i h; exact (trE_ok h).2.2.2.1
  · exact chk_nil0
theorem trC2_fine (A B : List Pt) : chk (trC2 A B) = 0 := by
  unfold trC2
  split
  · rename_i h; exact (trE_ok h).2.2.2.2
  · exact chk_nil0
/-- Whichever comes first. -/
theorem meets {s : List UInt8} {A B : List Pt} (h1 : chkO s A = 0) (h2 : chkO s B = 0) (h3 : trE A B = 0) : chkO (appT s A) (trC2 A B) = 0 ∧ chkO (appT s B) (trC1 A B) = 0 ∧ appT (appT s A) (trC2 A B) = appT (appT s B) (trC1 A B) := by
  obtain ⟨a1, a2⟩ := chkO_ok h1
  obtain ⟨b1, b2⟩ := chkO_ok h2
  obtain ⟨_, _, hm, g1, g2⟩ := trE_ok h3
  have e1 : trC1 A B = trL A B := if_pos h3
  have e2 : trC2 A B = trR A B := if_pos h3
  have eA : appT s A = act id (exL A) s := if_pos h1
  have eB : appT s B = act id (exL B) s := if_pos h2
  have hmm : ov (nrm (exL A)) = ov (nrm (exL B)) := by rw [ov_nrm, ov_nrm, hm]
  obtain ⟨o1, o2, o3⟩ := tr_all id (nrm (exL A)) (nrm (exL B)) s hmm (by rw [ov_nrm]; exact a2)
  rw [act_nrm id _ _ a2, act_nrm id _ _ b2] at o3
  have oL : ov (exL (trL A B)) = mk (exL B) := by unfold trL; rw [ex_nf, ov_nrm, o1, mk_nrm]
  have oR : ov (exL (trR A B)) = mk (exL A) := by unfold trR; rw [ex_nf, ov_nrm, o2, mk_nrm]
  have lA : (appT s A).length = mk (exL A) := by rw [eA, act_len id _ _ a2]
  have lB : (appT s B).length = mk (exL B) := by rw [eB, act_len id _ _ b2]
  rw [e1, e2]
  have c1 : chkO (appT s A) (trR A B) = 0 := chkO_zero g2 (by rw [lA, oR])
  have c2 : chkO (appT s B) (trL A B) = 0 := chkO_zero g1 (by rw [lB, oL])
  refine ⟨c1, c2, ?_⟩
  have f1 : appT (appT s A) (trR A B) = act id (exL (trR A B)) (appT s A) := if_pos c1
  have f2 : appT (appT s B) (trL A B) = act id (exL (trL A B)) (appT s B) := if_pos c2
  rw [f1, f2]
  unfold trL trR
  rw [ex_nf, ex_nf, act_nrm id _ _ (by rw [lA, o2, mk_nrm]), act_nrm id _ _ (by rw [lB, o1, mk_nrm]), eA, eB]
  exact o3
set_option maxHeartbeats 8000000 in
set_option maxRecDepth 100000 in
theorem lawSpliceMeets (W : World) (s : ByteArray) (p q : Option Addr) (c d : Nat) (A B : List Pt) (hA : LiesQ W p A) (hB : LiesQ W q B) (la : A.length ≤ 9223372036854775807) (lb : B.length ≤ 9223372036854775807) :
    Calls Try.prog 4 #[.string s, .slice p A.length c, .slice q B.length d] W fun e W' => e = .returned (.bool true) ∧ Below W.heap.size W W' := by
  have K0 := hide (splices_yes W)
  have HA := hide hA
  have HB := hide hB
  clear hA hB
  go_enter Try.func4, Try.ntmps4
  go_wp2_with fail
  refine (unhide K0).mono ?_
  rintro _ w1 ⟨rfl, b1⟩
  have K1 := hide (transformF_any w1 p q c d A B (HA.out.keep b1) (HB.out.keep b1) la lb)
  clear K0
  go_wp2_with fail
  refine (unhide K1).mono ?_
  rintro _ w2 ⟨v, u, rfl, hv, hu, b2'⟩
  have b2 := b1.trans (b2'.mono b1.size)
  have f1 := trC1_fine A B
  have f2 := trC2_fine A B
  obtain ⟨pv, cv, rfl, _, _, LV, _⟩ := hv.lies (good_rng f1)
  obtain ⟨pu, cu, rfl, _, _, LU, _⟩ := hu.lies (good_rng f2)
  have lv := (chk_ok f1).1
  have lu := (chk_ok f2).1
  have HLV := hide (And.intro LV LU)
  have K2 := hide (apply_any w2 s p c A (HA.out.keep b2) la)
  clear K1 b1 b2' hv hu LV LU f1 f2
  have HE : Hid (trE A B ≠ 0 → trC1 A B = [] ∧ trC2 A B = []) := hide fun h => ⟨if_neg h, if_neg h⟩
  go_wp2_with fail
  refine (unhide K2).mono ?_
  rintro _ w3 ⟨rfl, b3'⟩
  have b3 := b2.trans (b3'.mono b2.size)
  have HLV3 := hide (And.intro (HLV.out.1.keep b3') (HLV.out.2.keep b3'))
  have K3 := hide (apply_any w3 s q d B (HB.out.keep b3) lb)
  clear K2 b2 b3' HLV
  go_wp2_with fail
  refine (unhide K3).mono ?_
  rintro _ w4 ⟨rfl, b4'⟩
  have b4 := b3.trans (b4'.mono b3.size)
  have HLV4 := hide (And.intro (HLV3.out.1.keep b4') (HLV3.out.2.keep b4'))
  clear K3 b3 b4' HLV3
  by_cases z3 : trE A B = 0
  · rw [z3]
    by_cases z1 : chkO s.data.toList A = 0
    · by_cases z2 : chkO s.data.toList B = 0
      · obtain ⟨m1, m2, m3⟩ := meets z1 z2 z3
        rw [z1, z2]
        have K4 := apply_any w4 ⟨(appT s.data.toList A).toArray⟩ pu cu (trC2 A B) HLV4.out.2 (by omega)
        rw [show (⟨(appT s.data.toList A).toArray⟩ : ByteArray).data.toList = appT s.data.toList A from rfl, m1, m3] at K4
        have K4H := hide K4
        have HK5 : Hid (∀ w5, Below w4.heap.size w4 w5 → Calls Try.prog 12 #[.string ⟨(appT s.data.toList B).toArray⟩, .slice pv (trC1 A B).length cv] w5 fun e w' => e = .returned (.tuple #[.string ⟨(appT (appT s.data.toList B) (trC1 A B)).toArray⟩, .int .i64 0]) ∧ Below w5.heap.size w5 w') := hide fun w5 h5 => by
          have K5 := apply_any w5 ⟨(appT s.data.toList B).toArray⟩ pv cv (trC1 A B) (HLV4.out.1.keep h5) (by omega)
          rw [show (⟨(appT s.data.toList B).toArray⟩ : ByteArray).data.toList = appT s.data.toList B from rfl, m2] at K5
          exact K5
        clear K4 m1 m2 m3 z1 z2 z3
        generalize (⟨(appT s.data.toList A).toArray⟩ : ByteArray) = T1 at *
        generalize (⟨(appT s.data.toList B).toArray⟩ : ByteArray) = T2 at *
        generalize (⟨(appT (appT s.data.toList B) (trC1 A B)).toArray⟩ : ByteArray) = T3 at *
        go_wp2_with fail
        refine (unhide K4H).mono ?_
        rintro _ w5 ⟨rfl, b5'⟩
        have b5 := b4.trans (b5'.mono b4.size)
        have K5 := hide (HK5.out w5 b5')
        clear K4H b4 b5' HK5
        go_wp2_with fail
        refine (unhide K5).mono ?_
        rintro _ w6 ⟨rfl, b6'⟩
        have b6 := b5.trans (b6'.mono b5.size)
        clear K5 b5 b6'
        go_wp2
        go_ret
        exact ⟨rfl, b6⟩
      · rw [z1]
        have e2 : (chkO s.data.toList B == 0) = false := beq_false_of_ne z2
        have e3 : (chkO s.data.toList B != 0) = true := by simp [z2]
        clear z1 z3
        generalize chkO s.data.toList B = er at *
        generalize (trC1 A B).length = l1 at *
        generalize (trC2 A B).length = l2 at *
        by_cases q1 : l1 = 0
        · subst q1
          by_cases q2 : l2 = 0
          · subst q2
            go_wp2
            go_ret
            exact ⟨rfl, b4⟩
          · have i2 : ((l2 : Int) == 0) = false := beq_false_of_ne (by omega)
            go_wp2
            go_ret
            exact ⟨rfl, b4⟩
        · have i1 : ((l1 : Int) == 0) = false := beq_false_of_ne (by omega)
          go_wp2
          go_ret
          exact ⟨rfl, b4⟩
    · have e2 : (chkO s.data.toList A == 0) = false := beq_false_of_ne z1
      have e3 : (chkO s.data.toList A != 0) = true := by simp [z1]
      clear z3
      generalize chkO s.data.toList A = er at *
      generalize chkO s.data.toList B = er2 at *
      generalize (trC1 A B).length = l1 at *
      generalize (trC2 A B).length = l2 at *
      by_cases q1 : l1 = 0
      · subst q1
        by_cases q2 : l2 = 0
        · subst q2
          go_wp2
          go_ret
          exact ⟨rfl, b4⟩
        · have i2 : ((l2 : Int) == 0) = false := beq_false_of_ne (by omega)
          go_wp2
          go_ret
          exact ⟨rfl, b4⟩
      · have i1 : ((l1 : Int) == 0) = false := beq_false_of_ne (by omega)
        go_wp2
        go_ret
        exact ⟨rfl, b4⟩
  · obtain ⟨c1, c2⟩ := HE.out z3
    rw [c1, c2]
    have e2 : (trE A B == 0) = false := beq_false_of_ne z3
    have e3 : (trE A B != 0) = true := by simp [z3]
    clear HLV4 lv lu c1 c2 HE
    generalize trE A B = er at *
    generalize chkO s.data.toList A = er1 at *
    generalize chkO s.data.toList B = er2 at *
    go_wp2
    go_ret
    exact ⟨rfl, b4⟩
end Go.Proofs.Ytleacpnmeoocbab.spls
