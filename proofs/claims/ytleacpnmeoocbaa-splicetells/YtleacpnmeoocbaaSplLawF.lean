/- The law SpliceTells. -/
import Derived.Test.YtleacpnmeoocbaaSplLawE
import Derived.Test.YtleacpnmeoocbaaSplLawA
import Derived.Test.YtleacpnmeoocbaaSplInvW
import Derived.Test.YtleacpnmeoocbaaSplBackR
set_option linter.unusedVariables false
namespace Go.Proofs.Ytleacpnmeoocbaa.spls
open Go.RowKit

set_option maxHeartbeats 8000000 in
set_option maxRecDepth 100000 in
theorem tellsA (W : World) (s : ByteArray) (p : Option Addr) (c : Nat) (L : List Pt) (hL : LiesQ W p L) (hl : L.length ≤ 9223372036854775807) (hz : chkO s.data.toList L = 0) :
    Calls Try.prog 3 #[.string s, .slice p L.length c] W fun e W' => e = .returned (.bool true) ∧ Below W.heap.size W W' := by
  have hsl := len_list s
  obtain ⟨hc, hso⟩ := chkO_ok hz
  have HOz := hide hz
  have HZO : Hid (szO L = s.size) := hide (by rw [show szO L = ov (exL L) from if_pos hc]; omega)
  have HI : Hid (invC s.data.toList L = nf (inv (exL L) s.data.toList)) := hide (if_pos hz)
  have HT : Hid (appT s.data.toList L = act id (exL L) s.data.toList) := hide (if_pos hz)
  obtain ⟨g1, g2, g3, g4⟩ := chk_ok hc
  have HN : Hid (nrmC L = nf (exL L)) := hide (nrmC_of hc)
  have HC := hide hc
  have hgn := nf_good hc
  have HRN := hide (good_rng hgn)
  have hln := (chk_ok hgn).1
  have HKN : Hid (∀ w', LiesQ w' p L → Calls Try.prog 15 #[.slice p L.length c] w' fun e w'' => ∃ v, e = .returned v ∧ OwnP w'' w'.heap.size v (nf (exL L)) ∧ Below w'.heap.size w' w'') := hide fun w' h => normalD_any w' p c L h hc
  have okI : okL (nf (inv (exL L) s.data.toList)) := nf_ok _
  have oI : ov (exL (nf (inv (exL L) s.data.toList))) ≤ 20000 := by rw [ex_nf, ov_nrm, ov_inv]; exact g4
  have mI : mk (exL (nf (inv (exL L) s.data.toList))) ≤ 20000 := by rw [ex_nf, mk_nrm, mk_inv]; exact g3
  have lI : (nf (inv (exL L) s.data.toList)).length ≤ 40000 := by have := okL_len okI; omega
  have HRI : Hid (∀ x ∈ nf (inv (exL L) s.data.toList), rng x) := hide fun x hx => chkP_rng (okL_chkP okI oI mI x hx)
  obtain ⟨T, hT⟩ : ∃ T : ByteArray, (⟨(act id (exL L) s.data.toList).toArray⟩ : ByteArray) = T := ⟨_, rfl⟩
  have HKC : Hid (∀ w', LiesQ w' p L → Calls Try.prog 16 #[.string s, .slice p L.length c] w' fun e w'' => e = .returned (.string T) ∧ Below w'.heap.size w' w'') := hide fun w' h => by rw [← hT]; exact changed_any w' s p c L h hz
  have HKB : Hid (∀ w', LiesQ w' p L → Calls Try.prog 17 #[.string s, .slice p L.length c] w' fun e w'' => ∃ v, e = .returned v ∧ OwnP w'' w'.heap.size v (nf (inv (exL L) s.data.toList)) ∧ Below w'.heap.size w' w'') := hide fun w' h => backwards_any w' s p c L h hz
  have HTT := hide hT
  have z1 : ((s.size : Int) != (s.size : Int)) = false := by simp
  clear hso okI oI mI hT hz
  generalize hII : nf (inv (exL L) s.data.toList) = I at *
  generalize hNN : nf (exL L) = N at *
  clear hNN hgn hc g1 g2 g3 g4
  clear hII
  obtain ⟨zm, hzm⟩ : ∃ zm, szM L = zm := ⟨_, rfl⟩
  have HZM := hide hzm
  have z2 : ((zm : Int) != (zm : Int)) = false := by simp
  have HL := hide hL
  have K0 := changeFault_any W p c L hL hl
  rw [HC.out, HZO.out, HZM.out] at K0
  have K0H := hide K0
  clear K0 hL hzm
  go_enter Try.func3, Try.ntmps3
  go_wp2_with fail
  refine (unhide K0H).mono ?_
  rintro _ w1 ⟨rfl, b1⟩
  have K1 := norm_any w1 p c L (HL.out.keep b1) hl
  rw [HC.out, HN.out] at K1
  have K1H := hide K1
  have B1 := hide b1
  clear K1 K0H b1
  go_wp2_with fail
  refine (unhide K1H).mono ?_
  rintro _ w2 ⟨v, rfl, hv, b2⟩
  obtain ⟨pv, cv, rfl, hcv, hcm, LV, _⟩ := hv.lies HRN.out
  have HLV := hide LV
  clear LV
  have B2 := hide (B1.out.trans (b2.mono B1.out.size))
  have K2 := sizesF_any w2 p c L (HL.out.keep B2.out) hl
  rw [HC.out, HZO.out, HZM.out] at K2
  have K2H := hide K2
  clear K2 K1H b2 B1 hv
  go_wp2_with fail
  refine (unhide K2H).mono ?_
  rintro _ w3 ⟨rfl, b3⟩
  have B3 := hide (B2.out.trans (b3.mono B2.out.size))
  have HLV3 := hide (HLV.out.keep b3)
  have K3 := apply_any w3 s p c L (HL.out.keep B3.out) hl
  rw [HT.out, HOz.out, HTT.out] at K3
  have K3H := hide K3
  clear K3 K2H b3 B2 HLV
  go_wp2_with fail
  refine (unhide K3H).mono ?_
  rintro _ w4 ⟨rfl, b4⟩
  have B4 := hide (B3.out.trans (b4.mono B3.out.size))
  have HLV4 := hide (HLV3.out.keep b4)
  have K4 := invert_any w4 s p c L (HL.out.keep B4.out) hl
  rw [HI.out, HOz.out] at K4
  have K4H := hide K4
  clear K4 K3H b4 B3 HLV3
  go_wp2_with fail
  refine (unhide K4H).mono ?_
  rintro _ w5 ⟨u, rfl, hu, b5⟩
  have B5 := hide (B4.out.trans (b5.mono B4.out.size))
  obtain ⟨pu, cu, rfl, hcu, hcum, LU, _⟩ := hu.lies HRI.out
  have HLU := hide LU
  clear LU
  have HLV5 := hide (HLV4.out.keep b5)
  have K5 := hide (HKN.out w5 (HL.out.keep B5.out))
  clear K4H b5 B4 hu HLV4 HKN
  go_wp2_with fail
  refine (unhide K5).mono ?_
  rintro _ w6 ⟨x, rfl, hx, b6⟩
  have B6 := hide (B5.out.trans (b6.mono B5.out.size))
  obtain ⟨px, cx, rfl, hcx, hcxm, LX, _⟩ := hx.lies HRN.out
  have K6 := sameChange_any w6 pv px cv cx N N (HLV5.out.keep b6) LX (by omega) (by omega)
  rw [show decide (N = N) = true from by simp] at K6
  have K6H := hide K6
  have HLU6 := hide (HLU.out.keep b6)
  clear K6 K5 LX hx b6 B5 HLV5 HLU
  go_wp2_with fail
  refine (unhide K6H).mono ?_
  rintro _ w7 ⟨rfl, b7⟩
  have B7 := hide (B6.out.trans (b7.mono B6.out.size))
  have HLU7 := hide (HLU6.out.keep b7)
  have K7 := hide (HKC.out w7 (HL.out.keep B7.out))
  clear K6H b7 B6 HLU6 HKC
  go_wp2_with fail
  refine (unhide K7).mono ?_
  rintro _ w8 ⟨rfl, b8⟩
  have B8 := hide (B7.out.trans (b8.mono B7.out.size))
  have HLU8 := hide (HLU7.out.keep b8)
  have K8 := hide (HKB.out w8 (HL.out.keep B8.out))
  clear K7 b8 B7 HLU7 HKB
  go_wp2_with fail
  refine (unhide K8).mono ?_
  rintro _ w9 ⟨y, rfl, hy, b9⟩
  have B9 := hide (B8.out.trans (b9.mono B8.out.size))
  obtain ⟨py, cy, rfl, hcy, hcym, LY, _⟩ := hy.lies HRI.out
  have K9 := sameChange_any w9 pu py cu cy I I (HLU8.out.keep b9) LY (by omega) (by omega)
  rw [show decide (I = I) = true from by simp] at K9
  have K9H := hide K9
  clear K9 K8 LY hy b9 B8 HLU8
  go_wp2_with fail
  refine (unhide K9H).mono ?_
  rintro _ w10 ⟨rfl, b10⟩
  have hb := B9.out.trans (b10.mono B9.out.size)
  clear K9H b10 B9
  go_wp2
  go_ret
  exact ⟨rfl, hb⟩
set_option maxHeartbeats 8000000 in
set_option maxRecDepth 100000 in
theorem tellsB (W : World) (s : ByteArray) (p : Option Addr) (c : Nat) (L : List Pt) (hL : LiesQ W p L) (hl : L.length ≤ 9223372036854775807) (hc : chk L = 0) (hne : ov (exL L) ≠ s.size) :
    Calls Try.prog 3 #[.string s, .slice p L.length c] W fun e W' => e = .returned (.bool true) ∧ Below W.heap.size W W' := by
  have hsl := len_list s
  have hz : chkO s.data.toList L = 1 := by unfold chkO; rw [if_neg (fun h => h hc), if_pos (by rw [hsl]; exact hne)]
  have hz0 : ¬ chkO s.data.toList L = 0 := by rw [hz]; decide
  have HOz := hide hz
  have HZO : Hid (szO L = ov (exL L)) := hide (if_pos hc)
  have HI : Hid (invC s.data.toList L = []) := hide (if_neg hz0)
  have HT : Hid (appT s.data.toList L = []) := hide (if_neg hz0)
  obtain ⟨g1, g2, g3, g4⟩ := chk_ok hc
  have HN : Hid (nrmC L = nf (exL L)) := hide (nrmC_of hc)
  have HC := hide hc
  have hgn := nf_good hc
  have HRN := hide (good_rng hgn)
  have hln := (chk_ok hgn).1
  have HKN : Hid (∀ w', LiesQ w' p L → Calls Try.prog 15 #[.slice p L.length c] w' fun e w'' => ∃ v, e = .returned v ∧ OwnP w'' w'.heap.size v (nf (exL L)) ∧ Below w'.heap.size w' w'') := hide fun w' h => normalD_any w' p c L h hc
  have z0 : ((ov (exL L) : Int) != (ov (exL L) : Int)) = false := by simp
  have z1 : ((ov (exL L) : Int) != (s.size : Int)) = true := by simp; omega
  clear hz hz0 hne
  generalize ov (exL L) = zo at *
  generalize hNN : nf (exL L) = N at *
  clear hNN hgn hc g1 g2 g3 g4
  obtain ⟨zm, hzm⟩ : ∃ zm, szM L = zm := ⟨_, rfl⟩
  have HZM := hide hzm
  have z2 : ((zm : Int) != (zm : Int)) = false := by simp
  have HL := hide hL
  have K0 := changeFault_any W p c L hL hl
  rw [HC.out, HZO.out, HZM.out] at K0
  have K0H := hide K0
  clear K0 hL hzm
  go_enter Try.func3, Try.ntmps3
  go_wp2_with fail
  refine (unhide K0H).mono ?_
  rintro _ w1 ⟨rfl, b1⟩
  have K1 := norm_any w1 p c L (HL.out.keep b1) hl
  rw [HC.out, HN.out] at K1
  have K1H := hide K1
  have B1 := hide b1
  clear K1 K0H b1
  go_wp2_with fail
  refine (unhide K1H).mono ?_
  rintro _ w2 ⟨v, rfl, hv, b2⟩
  obtain ⟨pv, cv, rfl, hcv, hcm, LV, _⟩ := hv.lies HRN.out
  have HLV := hide LV
  clear LV
  have B2 := hide (B1.out.trans (b2.mono B1.out.size))
  have K2 := sizesF_any w2 p c L (HL.out.keep B2.out) hl
  rw [HC.out, HZO.out, HZM.out] at K2
  have K2H := hide K2
  clear K2 K1H b2 B1 hv
  go_wp2_with fail
  refine (unhide K2H).mono ?_
  rintro _ w3 ⟨rfl, b3⟩
  have B3 := hide (B2.out.trans (b3.mono B2.out.size))
  have HLV3 := hide (HLV.out.keep b3)
  have K3 := apply_any w3 s p c L (HL.out.keep B3.out) hl
  rw [HT.out, HOz.out] at K3
  have K3H := hide K3
  clear K3 K2H b3 B2 HLV
  go_wp2_with fail
  refine (unhide K3H).mono ?_
  rintro _ w4 ⟨rfl, b4⟩
  have B4 := hide (B3.out.trans (b4.mono B3.out.size))
  have HLV4 := hide (HLV3.out.keep b4)
  have K4 := invert_any w4 s p c L (HL.out.keep B4.out) hl
  rw [HI.out, HOz.out] at K4
  have K4H := hide K4
  clear K4 K3H b4 B3 HLV3
  go_wp2_with fail
  refine (unhide K4H).mono ?_
  rintro _ w5 ⟨u, rfl, hu, b5⟩
  have B5 := hide (B4.out.trans (b5.mono B4.out.size))
  obtain ⟨pu, cu, rfl, hcu, hcum⟩ := own_form hu
  have HLV5 := hide (HLV4.out.keep b5)
  have K5 := hide (HKN.out w5 (HL.out.keep B5.out))
  clear K4H b5 B4 hu HLV4 HKN
  go_wp2_with fail
  refine (unhide K5).mono ?_
  rintro _ w6 ⟨x, rfl, hx, b6⟩
  have B6 := hide (B5.out.trans (b6.mono B5.out.size))
  obtain ⟨px, cx, rfl, hcx, hcxm, LX, _⟩ := hx.lies HRN.out
  have K6 := sameChange_any w6 pv px cv cx N N (HLV5.out.keep b6) LX (by omega) (by omega)
  rw [show decide (N = N) = true from by simp] at K6
  have K6H := hide K6
  clear K6 K5 LX hx b6 B5 HLV5
  go_wp2_with fail
  refine (unhide K6H).mono ?_
  rintro _ w7 ⟨rfl, b7⟩
  have B7 := hide (B6.out.trans (b7.mono B6.out.size))
  have hb := B7.out
  clear K6H b7 B6 B7 hcu
  go_wp2
  go_ret
  exact ⟨rfl, hb⟩
set_option maxHeartbeats 8000000 in
set_option maxRecDepth 100000 in
theorem tellsC (W : World) (s : ByteArray) (p : Option Addr) (c : Nat) (L : List Pt) (hL : LiesQ W p L) (hl : L.length ≤ 9223372036854775807) (hc : chk L ≠ 0) :
    Calls Try.prog 3 #[.string s, .slice p L.length c] W fun e W' => e = .returned (.bool true) ∧ Below W.heap.size W W' := by
  have hsl := len_list s
  have hz : chkO s.data.toList L = chk L := if_pos hc
  have hz0 : ¬ chkO s.data.toList L = 0 := by rw [hz]; exact hc
  obtain ⟨er, her⟩ : ∃ er, chk L = er := ⟨_, rfl⟩
  have HN : Hid (nrmC L = []) := hide (if_neg hc)
  have HOz : Hid (chkO s.data.toList L = er) := hide (by rw [hz, her])
  have HC := hide her
  have HZO : Hid (szO L = 0) := hide (if_neg hc)
  have HI : Hid (invC s.data.toList L = []) := hide (if_neg hz0)
  have HT : Hid (appT s.data.toList L = []) := hide (if_neg hz0)
  have hn0 : er ≠ 0 := fun h => hc (by rw [her, h])
  have f1 : (er == 0) = false := beq_false_of_ne hn0
  have f2 : (er != 0) = true := by simp [hn0]
  have f3 : (er == er) = true := by simp
  have f4 : (er != er) = false := by simp
  clear hz hz0 hc her
  obtain ⟨zm, hzm⟩ : ∃ zm, szM L = zm := ⟨_, rfl⟩
  have HZM := hide hzm
  have z2 : ((zm : Int) != (zm : Int)) = false := by simp
  have HL := hide hL
  have K0 := changeFault_any W p c L hL hl
  rw [HC.out, HZO.out, HZM.out] at K0
  have K0H := hide K0
  clear K0 hL hzm
  go_enter Try.func3, Try.ntmps3
  go_wp2_with fail
  refine (unhide K0H).mono ?_
  rintro _ w1 ⟨rfl, b1⟩
  have K1 := norm_any w1 p c L (HL.out.keep b1) hl
  rw [HC.out, HN.out] at K1
  have K1H := hide K1
  have B1 := hide b1
  clear K1 K0H b1
  go_wp2_with fail
  refine (unhide K1H).mono ?_
  rintro _ w2 ⟨v, rfl, hv, b2⟩
  obtain ⟨pv, cv, rfl, hcv, hcm⟩ := own_form hv
  have B2 := hide (B1.out.trans (b2.mono B1.out.size))
  have K2 := sizesF_any w2 p c L (HL.out.keep B2.out) hl
  rw [HC.out, HZO.out, HZM.out] at K2
  have K2H := hide K2
  clear K2 K1H b2 B1 hv
  go_wp2_with fail
  refine (unhide K2H).mono ?_
  rintro _ w3 ⟨rfl, b3⟩
  have B3 := hide (B2.out.trans (b3.mono B2.out.size))
  have K3 := apply_any w3 s p c L (HL.out.keep B3.out) hl
  rw [HT.out, HOz.out] at K3
  have K3H := hide K3
  clear K3 K2H b3 B2
  go_wp2_with fail
  refine (unhide K3H).mono ?_
  rintro _ w4 ⟨rfl, b4⟩
  have B4 := hide (B3.out.trans (b4.mono B3.out.size))
  have K4 := invert_any w4 s p c L (HL.out.keep B4.out) hl
  rw [HI.out, HOz.out] at K4
  have K4H := hide K4
  clear K4 K3H b4 B3
  go_wp2_with fail
  refine (unhide K4H).mono ?_
  rintro _ w5 ⟨u, rfl, hu, b5⟩
  have B5 := hide (B4.out.trans (b5.mono B4.out.size))
  obtain ⟨pu, cu, rfl, hcu, hcum⟩ := own_form hu
  have hb := B5.out
  clear K4H b5 B4 B5 hu hcv hcu
  go_wp2
  go_ret
  exact ⟨rfl, hb⟩
theorem lawSpliceTells (W : World) (s : ByteArray) (p : Option Addr) (c : Nat) (L : List Pt) (hL : LiesQ W p L) (hl : L.length ≤ 9223372036854775807) :
    Calls Try.prog 3 #[.string s, .slice p L.length c] W fun e W' => e = .returned (.bool true) ∧ Below W.heap.size W W' := by
  by_cases hc : chk L = 0
  · by_cases ho : ov (exL L) = s.size
    · exact tellsA W s p c L hL hl (by unfold chkO; rw [if_neg (fun h => h hc), if_neg (fun h => h (by rw [len_list]; exact ho))])
    · exact tellsB W s p c L hL hl hc ho
  · exact tellsC W s p c L hL hl hc
end Go.Proofs.Ytleacpnmeoocbaa.spls
