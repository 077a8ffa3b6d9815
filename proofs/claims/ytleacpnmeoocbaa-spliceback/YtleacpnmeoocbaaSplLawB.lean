/- The law SpliceBack. -/
import Derived.Test.YtleacpnmeoocbaaSplLawA
set_option linter.unusedVariables false
namespace Go.Proofs.Ytleacpnmeoocbaa.spls
open Go.RowKit

theorem appT_of {s : List UInt8} {L : List Pt} (h : chkO s L = 0) : appT s L = act id (exL L) s := if_pos h
theorem invC_of {s : List UInt8} {L : List Pt} (h : chkO s L = 0) : invC s L = nf (inv (exL L) s) := if_pos h
theorem back_facts {s : List UInt8} {L : List Pt} (h : chkO s L = 0) (hl : (invC s L).length ≤ 400) :
    chk (invC s L) = 0 ∧ chkO (appT s L) (invC s L) = 0 ∧ appT (appT s L) (invC s L) = s ∧ invC (appT s L) (invC s L) = nrmC L := by
  obtain ⟨h1, h2⟩ := chkO_ok h
  obtain ⟨g1, g2, g3, g4⟩ := chk_ok h1
  have ho : ov (exL (invC s L)) = mk (exL L) := by rw [invC_of h, ex_nf, ov_nrm, ov_inv]
  have hm : mk (exL (invC s L)) = ov (exL L) := by rw [invC_of h, ex_nf, mk_nrm, mk_inv]
  have hg : chk (invC s L) = 0 := chk_okL (by rw [invC_of h]; exact nf_ok _) hl (by omega) (by omega)
  have hlen : (appT s L).length = ov (exL (invC s L)) := by rw [appT_of h, act_len id _ _ h2, ho]
  have hO := chkO_zero hg hlen
  refine ⟨hg, hO, ?_, ?_⟩
  · rw [appT_of hO, invC_of h, ex_nf, appT_of h, nrm_act_back _ _ h2]
  · rw [invC_of hO, nrmC_of h1, invC_of h, ex_nf, appT_of h]
    exact nf_of (nrm_back _ _ h2)
set_option maxHeartbeats 8000000 in
set_option maxRecDepth 100000 in
theorem lawSpliceBack (W : World) (s : ByteArray) (p : Option Addr) (c : Nat) (L : List Pt) (hL : LiesQ W p L) (hl : L.length ≤ 9223372036854775807) :
    Calls Try.prog 7 #[.string s, .slice p L.length c] W fun e W' => e = .returned (.bool true) ∧ Below W.heap.size W W' := by
  have K0 := hide (splices_yes W)
  have HL := hide hL
  clear hL
  go_enter Try.func7, Try.ntmps7
  go_wp2_with fail
  refine (unhide K0).mono ?_
  rintro _ w1 ⟨rfl, b1⟩
  have K1 := hide (apply_any w1 s p c L (HL.out.keep b1) hl)
  clear K0
  go_wp2_with fail
  refine (unhide K1).mono ?_
  rintro _ w2 ⟨rfl, b2'⟩
  have b2 := b1.trans (b2'.mono b1.size)
  have K2 := hide (invert_any w2 s p c L (HL.out.keep b2) hl)
  clear K1 b2' b1
  go_wp2_with fail
  refine (unhide K2).mono ?_
  rintro _ w3 ⟨v, rfl, hv, b3'⟩
  have b3 := b2.trans (b3'.mono b2.size)
  clear K2 b3' b2
  by_cases hz : chkO s.data.toList L = 0
  · by_cases h4 : (invC s.data.toList L).length ≤ 400
    · obtain ⟨E1, E2, E3, E4⟩ := back_facts hz h4
      have hz1 := (chkO_ok hz).1
      obtain ⟨q, cq, rfl, hcq, hcm, hLQ, hqB⟩ := hv.lies (good_rng E1)
      have i4 : ¬ ((invC s.data.toList L).length : Int) > 400 := by omega
      have EN := nrmC_good L
      have EN4 := (chk_ok EN).1
      rw [hz]
      generalize hT : appT s.data.toList L = T at *
      generalize hI : invC s.data.toList L = I at *
      have K3 := hide (apply_any w3 ⟨T.toArray⟩ q cq I hLQ (by omega))
      rw [show (⟨T.toArray⟩ : ByteArray).data.toList = T from rfl, E2, E3, mk_list] at K3
      have HQ := hide hLQ
      clear hLQ hv hqB
      go_wp2_with fail
      refine (unhide K3).mono ?_
      rintro _ w4 ⟨rfl, b4'⟩
      have b4 := b3.trans (b4'.mono b3.size)
      have HQ4 := hide (HQ.out.keep b4')
      have K4 := hide (invert_any w4 ⟨T.toArray⟩ q cq I HQ4.out (by omega))
      rw [show (⟨T.toArray⟩ : ByteArray).data.toList = T from rfl, E2, E4] at K4
      clear K3 b4' b3 HQ
      go_wp2_with fail
      refine (unhide K4).mono ?_
      rintro _ w5 ⟨v5, rfl, hv5, b5'⟩
      have b5 := b4.trans (b5'.mono b4.size)
      obtain ⟨q5, cq5, rfl, hcq5, hcm5, hLQ5, hqB5⟩ := hv5.lies (good_rng EN)
      have HQ5 := hide hLQ5
      have K5 := hide (norm_any w5 p c L (HL.out.keep b5) hl)
      rw [hz1] at K5
      clear K4 b5' b4 HQ4 hv5 hLQ5 hqB5
      go_wp2_with fail
      refine (unhide K5).mono ?_
      rintro _ w6 ⟨v6, rfl, hv6, b6'⟩
      have b6 := b5.trans (b6'.mono b5.size)
      obtain ⟨q6, cq6, rfl, hcq6, hcm6, hLQ6, hqB6⟩ := hv6.lies (good_rng EN)
      have K6 := hide (equal_any w6 q5 q6 cq5 cq6 _ _ (HQ5.out.keep b6') hLQ6 (by omega) (by omega))
      rw [show decide (nrmC L = nrmC L) = true from by simp] at K6
      clear K5 b6' b5 HQ5 hv6 hLQ6 hqB6 E1 E2 E3 E4 EN hz hz1 hI hT
      generalize nrmC L = N at *
      go_wp2_with fail
      refine (unhide K6).mono ?_
      rintro _ w8 ⟨rfl, b8'⟩
      have b8 := b6.trans (b8'.mono b6.size)
      clear K6 b8' b6
      go_wp2
      go_ret
      exact ⟨rfl, b8⟩
    · rw [hz]
      obtain ⟨q, cq, rfl, hcq, hcm⟩ := own_form hv
      have i4 : ((invC s.data.toList L).length : Int) > 400 := by omega
      clear hv
      generalize (invC s.data.toList L).length = n at *
      go_wp2
      go_ret
      exact ⟨rfl, b3⟩
  · have hT : appT s.data.toList L = [] := if_neg hz
    have hI : invC s.data.toList L = [] := if_neg hz
    rw [hI] at hv
    obtain ⟨q, cq, rfl, hcq, hcm⟩ := own_form hv
    have e2 : (chkO s.data.toList L == 0) = false := beq_false_of_ne hz
    have e3 : (chkO s.data.toList L != 0) = true := by simp [hz]
    rw [hT]
    clear hv hT hI hcq
    generalize chkO s.data.toList L = er at *
    go_wp2
    go_ret
    exact ⟨rfl, b3⟩
end Go.Proofs.Ytleacpnmeoocbaa.spls
