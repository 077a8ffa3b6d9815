/- The law SpliceNothing. -/
import Derived.Test.YtleacpnmeoocbabSplLawC
set_option linter.unusedVariables false
namespace Go.Proofs.Ytleacpnmeoocbab.spls
open Go.RowKit

theorem nrm_keeps : ∀ n, nrm (keepsM n) = keepsM n
  | 0 => rfl
  | n + 1 => by
    have ih := nrm_keeps n
    unfold nrm at ih ⊢
    rw [keepsM_succ]
    show none :: go (keepsM n) [] 0 = _
    rw [ih]
/-- To keep so many bytes. -/
def kp (n : Nat) : List Pt := [(1, (n : Int), [])]
theorem ex_kp (n : Nat) : exL (kp n) = keepsM n := by unfold kp; rw [exL_one, ex_keep, Int.toNat_natCast]
theorem chk_kp {n : Nat} (h : n ≤ 20000) : chk (kp n) = 0 := by
  refine chk_zero (by show 1 ≤ 400; decide) (fun p hp => ?_) (by rw [ex_kp, ov_keeps]; exact h) (by rw [ex_kp, mk_keeps]; exact h)
  rw [List.mem_singleton.1 hp]
  exact chkP_zero (.inl ⟨rfl, by show (0 : Int) ≤ (n : Int); omega, by show (n : Int) ≤ 20000; omega, rfl⟩)
theorem nothing {C : List Pt} (h : chk C = 0) :
    (cmpE (kp (szO C)) C = 0 ∧ cmpC (kp (szO C)) C = nrmC C) ∧ (cmpE C (kp (szM C)) = 0 ∧ cmpC C (kp (szM C)) = nrmC C) ∧
    (trE (kp (szO C)) C = 0 ∧ trC1 (kp (szO C)) C = nrmC (kp (szM C)) ∧ trC2 (kp (szO C)) C = nrmC C) ∧ chk (kp (szM C)) = 0 := by
  obtain ⟨_, _, c3, c4⟩ := chk_ok h
  have eO : szO C = ov (exL C) := if_pos h
  have eM : szM C = mk (exL C) := if_pos h
  have eN : nrmC C = nf (exL C) := if_pos h
  have kO : chk (kp (szO C)) = 0 := chk_kp (by rw [eO]; exact c3)
  have kM : chk (kp (szM C)) = 0 := chk_kp (by rw [eM]; exact c4)
  have gN : chk (nf (exL C)) = 0 := nf_good h
  have n1 : cmpN (kp (szO C)) C = nf (exL C) := by
    unfold cmpN
    rw [ex_kp, nrm_keeps, eO, ← ov_nrm, keeps_cmp, nf_nrm]
  have n2 : cmpN C (kp (szM C)) = nf (exL C) := by
    unfold cmpN
    rw [ex_kp, nrm_keeps, eM, ← mk_nrm, cmp_keeps, nf_nrm]
  have n3 : trL (kp (szO C)) C = nf (keepsM (mk (exL C))) := by
    unfold trL
    rw [ex_kp, nrm_keeps, eO, ← ov_nrm, keeps_tr, mk_nrm]
  have n4 : trR (kp (szO C)) C = nf (exL C) := by
    unfold trR
    rw [ex_kp, nrm_keeps, eO, ← ov_nrm, keeps_tr, nf_nrm]
  have n5 : nrmC (kp (szM C)) = nf (keepsM (mk (exL C))) := by
    rw [show nrmC (kp (szM C)) = nf (exL (kp (szM C))) from if_pos kM, ex_kp, eM]
  have g5 : chk (nf (keepsM (mk (exL C)))) = 0 := by rw [← n5]; exact nrmC_good _
  have z1 : cmpE (kp (szO C)) C = 0 := cmpE_zero kO h (by rw [ex_kp, mk_keeps, eO]) (by rw [n1]; exact gN)
  have z2 : cmpE C (kp (szM C)) = 0 := cmpE_zero h kM (by rw [ex_kp, ov_keeps, eM]) (by rw [n2]; exact gN)
  have z3 : trE (kp (szO C)) C = 0 := trE_zero kO h (by rw [ex_kp, ov_keeps, eO]) (by rw [n3]; exact g5) (by rw [n4]; exact gN)
  have y1 : cmpC (kp (szO C)) C = cmpN (kp (szO C)) C := if_pos z1
  have y2 : cmpC C (kp (szM C)) = cmpN C (kp (szM C)) := if_pos z2
  have y3 : trC1 (kp (szO C)) C = trL (kp (szO C)) C := if_pos z3
  have y4 : trC2 (kp (szO C)) C = trR (kp (szO C)) C := if_pos z3
  exact ⟨⟨z1, by rw [y1, n1, eN]⟩, ⟨z2, by rw [y2, n2, eN]⟩, ⟨z3, by rw [y3, n3, n5], by rw [y4, n4, eN]⟩, kM⟩
set_option maxHeartbeats 2000000 in
set_option maxRecDepth 100000 in
theorem keepC_any (w : World) (n : Nat) : Calls Try.prog 8 #[.int .i64 (n : Int)] w fun e w' => e = .returned (.slice (some ⟨w.heap.size, 0, none⟩) 1 1) ∧ w' = w.alloc (.cells #[.int .i64 1, .int .i64 (n : Int), .string ⟨#[]⟩] 30) := by
  go_enter Try.func8, Try.ntmps8
  go_wp2
  go_ret
  exact ⟨rfl, rfl⟩
/-- A change that keeps so many, laid anew. -/
theorem keepC_lies (w : World) (n : Nat) (hn : n ≤ 20000) : Calls Try.prog 8 #[.int .i64 (n : Int)] w fun e w' => ∃ q, e = .returned (.slice q 1 1) ∧ LiesQ w' q (kp n) ∧ Below w.heap.size w w' := by
  refine (keepC_any w n).mono ?_
  rintro e w' ⟨rfl, rfl⟩
  exact ⟨_, rfl, lies_one w (1, (n : Int), []) ⟨by show _ ≤ (1 : Int) ∧ (1 : Int) ≤ _; omega, by show _ ≤ (n : Int) ∧ (n : Int) ≤ _; omega, Nat.zero_le _⟩, (Below.refl _ w).alloc (Nat.le_refl _) _⟩
set_option maxHeartbeats 16000000 in
set_option maxRecDepth 100000 in
theorem lawSpliceNothing (W : World) (p : Option Addr) (c : Nat) (C : List Pt) (hC : LiesQ W p C) (lc : C.length ≤ 9223372036854775807) :
    Calls Try.prog 3 #[.slice p C.length c] W fun e W' => e = .returned (.bool true) ∧ Below W.heap.size W W' := by
  have K0 := hide (splices_yes W)
  have HC := hide hC
  clear hC
  go_enter Try.func3, Try.ntmps3
  go_wp2_with fail
  refine (unhide K0).mono ?_
  rintro _ w1 ⟨rfl, b1⟩
  have K1 := hide (norm_any w1 p c C (HC.out.keep b1) lc)
  clear K0
  go_wp2_with fail
  refine (unhide K1).mono ?_
  rintro _ w2 ⟨v, rfl, hv, b2'⟩
  have b2 := b1.trans (b2'.mono b1.size)
  have fN := nrmC_good C
  obtain ⟨pn, cn, rfl, _, _, LN, _⟩ := hv.lies (good_rng fN)
  have ln := (chk_ok fN).1
  have HLN := hide LN
  have K2 := hide (sizesF_any w2 p c C (HC.out.keep b2) lc)
  clear K1 b1 b2' hv LN
  go_wp2_with fail
  refine (unhide K2).mono ?_
  rintro _ w3 ⟨rfl, b3'⟩
  have b3 := b2.trans (b3'.mono b2.size)
  have HN3 := hide (HLN.out.keep b3')
  clear K2 b2 b3' HLN
  by_cases hz : chk C = 0
  · rw [hz]
    obtain ⟨⟨z1, y1⟩, ⟨z2, y2⟩, ⟨z3, y3, y4⟩, z4⟩ := nothing hz
    have fM := nrmC_good (kp (szM C))
    have lm := (chk_ok fM).1
    have sO : szO C ≤ 20000 := by rw [show szO C = ov (exL C) from if_pos hz]; exact (chk_ok hz).2.2.1
    have sM : szM C ≤ 20000 := by rw [show szM C = mk (exL C) from if_pos hz]; exact (chk_ok hz).2.2.2
    have HF := hide (And.intro z1 (And.intro y1 (And.intro z2 (And.intro y2 (And.intro z3 (And.intro y3 (And.intro y4 z4)))))))
    have HG := hide (And.intro fN fM)
    have KK1 := hide (keepC_lies w3 (szO C) sO)
    have HLK : Hid (∀ n, (kp n).length = 1) := hide fun n => rfl
    clear z1 y1 z2 y2 z3 y3 y4 z4 hz fN fM
    generalize hsO : szO C = so at *
    generalize hsM : szM C = sm at *
    generalize hN : nrmC C = N at *
    go_wp2_with fail
    refine (unhide KK1).mono ?_
    rintro _ w4 ⟨q1, rfl, L1, b4'⟩
    have b4 := b3.trans (b4'.mono b3.size)
    have HN4 := hide (HN3.out.keep b4')
    have KA := composeF_any w4 q1 p 1 c (kp so) C L1 (HC.out.keep b4) (by rw [HLK.out]; decide) lc
    rw [HF.out.1, HF.out.2.1, HLK.out] at KA
    have KAH := hide KA
    clear KK1 b3 b4' HN3 L1 KA
    go_wp2_with fail
    refine (unhide KAH).mono ?_
    rintro _ w5 ⟨va, rfl, hva, b5'⟩
    have b5 := b4.trans (b5'.mono b4.size)
    have HN5 := hide (HN4.out.keep b5')
    obtain ⟨pa, ca, rfl, _, _, LA, _⟩ := hva.lies (good_rng HG.out.1)
    have HA5 := hide LA
    have KK2 := hide (keepC_lies w5 sm sM)
    clear KAH b4 b5' HN4 hva LA
    go_wp2_with fail
    refine (unhide KK2).mono ?_
    rintro _ w6 ⟨q2, rfl, L2, b6'⟩
    have b6 := b5.trans (b6'.mono b5.size)
    have HN6 := hide (And.intro (HN5.out.keep b6') (HA5.out.keep b6'))
    have KB := composeF_any w6 p q2 c 1 C (kp sm) (HC.out.keep b6) L2 lc (by rw [HLK.out]; decide)
    rw [HF.out.2.2.1, HF.out.2.2.2.1, HLK.out] at KB
    have KBH := hide KB
    clear KK2 b5 b6' HN5 HA5 L2 KB
    go_wp2_with fail
    refine (unhide KBH).mono ?_
    rintro _ w7 ⟨vb, rfl, hvb, b7'⟩
    have b7 := b6.trans (b7'.mono b6.size)
    obtain ⟨pb, cb, rfl, _, _, LB, _⟩ := hvb.lies (good_rng HG.out.1)
    have HN7 := hide (And.intro (HN6.out.1.keep b7') (And.intro (HN6.out.2.keep b7') LB))
    have KK3 := hide (keepC_lies w7 so sO)
    clear KBH b6 b7' HN6 hvb LB
    go_wp2_with fail
    refine (unhide KK3).mono ?_
    rintro _ w8 ⟨q3, rfl, L3, b8'⟩
    have b8 := b7.trans (b8'.mono b7.size)
    have HN8 := hide (And.intro (HN7.out.1.keep b8') (And.intro (HN7.out.2.1.keep b8') (HN7.out.2.2.keep b8')))
    have KT := transformF_any w8 q3 p 1 c (kp so) C L3 (HC.out.keep b8) (by rw [HLK.out]; decide) lc
    rw [HF.out.2.2.2.2.1, HF.out.2.2.2.2.2.1, HF.out.2.2.2.2.2.2.1, HLK.out] at KT
    have KTH := hide KT
    clear KK3 b7 b8' HN7 L3 KT
    go_wp2_with fail
    refine (unhide KTH).mono ?_
    rintro _ w9 ⟨vx, vy, rfl, hvx, hvy, b9'⟩
    have b9 := b8.trans (b9'.mono b8.size)
    obtain ⟨px, cx, rfl, _, _, LX, _⟩ := hvx.lies (good_rng HG.out.2)
    obtain ⟨py, cy, rfl, _, _, LY, _⟩ := hvy.lies (good_rng HG.out.1)
    have HN9 := hide (And.intro (HN8.out.1.keep b9') (And.intro (HN8.out.2.1.keep b9') (And.intro (HN8.out.2.2.keep b9') (And.intro LX LY))))
    have KK4 := hide (keepC_lies w9 sm sM)
    clear KTH b8 b9' HN8 hvx hvy LX LY
    go_wp2_with fail
    refine (unhide KK4).mono ?_
    rintro _ wa ⟨q4, rfl, L4, ba'⟩
    have ba := b9.trans (ba'.mono b9.size)
    have HNa := hide (And.intro (HN9.out.1.keep ba') (And.intro (HN9.out.2.1.keep ba') (And.intro (HN9.out.2.2.1.keep ba') (And.intro (HN9.out.2.2.2.1.keep ba') (HN9.out.2.2.2.2.keep ba')))))
    have KL := norm_any wa q4 1 (kp sm) L4 (by rw [HLK.out]; decide)
    rw [HF.out.2.2.2.2.2.2.2, HLK.out] at KL
    have KLH := hide KL
    clear KK4 b9 ba' HN9 L4 KL
    go_wp2_with fail
    refine (unhide KLH).mono ?_
    rintro _ wb ⟨vl, rfl, hvl, bb'⟩
    have bb := ba.trans (bb'.mono ba.size)
    obtain ⟨pl, cl, rfl, _, _, LL, _⟩ := hvl.lies (good_rng HG.out.2)
    have HNb := hide (And.intro (HNa.out.1.keep bb') (And.intro (HNa.out.2.1.keep bb') (And.intro (HNa.out.2.2.1.keep bb') (And.intro (HNa.out.2.2.2.1.keep bb') (And.intro (HNa.out.2.2.2.2.keep bb') LL)))))
    have E1 := hide (equal_any wb pa pn ca cn N N HNb.out.2.1 HNb.out.1 (by omega) (by omega))
    rw [show decide (N = N) = true from by simp] at E1
    clear KLH ba bb' HNa hvl LL HF hN hsO hsM
    generalize nrmC (kp sm) = Mm at *
    go_wp2_with fail
    refine (unhide E1).mono ?_
    rintro _ wc ⟨rfl, bc'⟩
    have bc := bb.trans (bc'.mono bb.size)
    have HNc := hide (And.intro (HNb.out.1.keep bc') (And.intro (HNb.out.2.2.1.keep bc') (And.intro (HNb.out.2.2.2.1.keep bc') (And.intro (HNb.out.2.2.2.2.1.keep bc') (HNb.out.2.2.2.2.2.keep bc')))))
    have E2 := hide (equal_any wc pb pn cb cn N N HNc.out.2.1 HNc.out.1 (by omega) (by omega))
    rw [show decide (N = N) = true from by simp] at E2
    clear E1 bb bc' HNb
    go_wp2_with fail
    refine (unhide E2).mono ?_
    rintro _ wd ⟨rfl, bd'⟩
    have bd := bc.trans (bd'.mono bc.size)
    have HNd := hide (And.intro (HNc.out.1.keep bd') (And.intro (HNc.out.2.2.1.keep bd') (And.intro (HNc.out.2.2.2.1.keep bd') (HNc.out.2.2.2.2.keep bd'))))
    have E3 := hide (equal_any wd px pl cx cl Mm Mm HNd.out.2.1 HNd.out.2.2.2 (by omega) (by omega))
    rw [show decide (Mm = Mm) = true from by simp] at E3
    clear E2 bc bd' HNc
    go_wp2_with fail
    refine (unhide E3).mono ?_
    rintro _ we ⟨rfl, be'⟩
    have be := bd.trans (be'.mono bd.size)
    have E4 := hide (equal_any we py pn cy cn N N (HNd.out.2.2.1.keep be') (HNd.out.1.keep be') (by omega) (by omega))
    rw [show decide (N = N) = true from by simp] at E4
    clear E3 bd be' HNd
    go_wp2_with fail
    refine (unhide E4).mono ?_
    rintro _ wf ⟨rfl, bf'⟩
    have bf := be.trans (bf'.mono be.size)
    clear E4 be bf'
    go_wp2
    go_ret
    exact ⟨rfl, bf⟩
  · have eO : szO C = 0 := if_neg hz
    have eM : szM C = 0 := if_neg hz
    rw [eO, eM]
    have e2 : (chk C == 0) = false := beq_false_of_ne hz
    have e3 : (chk C != 0) = true := by simp [hz]
    clear eO eM fN HN3 ln
    generalize chk C = er at *
    go_wp2
    go_ret
    exact ⟨rfl, b3⟩
end Go.Proofs.Ytleacpnmeoocbab.spls
