/- The walks of package splice: Transform. -/
import Derived.Test.YteajpkoghlbneaaSplTrLW
import Derived.Test.YteajpkoghlbneaaSplCompW
set_option linter.unusedVariables false
namespace Go.Proofs.Yteajpkoghlbneaa.spls
open Go.RowKit

theorem okL_rng {L : List Pt} (h : okL L) (h3 : ov (exL L) ≤ 40000) (h4 : mk (exL L) ≤ 40000) : ∀ p ∈ L, rng p := fun p hp => by
  obtain ⟨f1, f2⟩ := part_fits hp
  obtain ⟨k, n, s⟩ := p
  rcases h _ hp with ⟨a, b, c⟩ | ⟨a, b, c⟩ | ⟨a, b, c⟩
  · replace a : k = 1 := a
    replace b : 0 < n := b
    replace c : s = [] := c
    subst a c
    rw [ex_keep, ov_keeps] at f1
    exact ⟨by show _ ≤ (1 : Int) ∧ (1 : Int) ≤ _; omega, by show _ ≤ n ∧ n ≤ _; omega, Nat.zero_le _⟩
  · replace a : k = 2 := a
    replace b : 0 < n := b
    replace c : s = [] := c
    subst a c
    rw [ex_cut, ov_cuts] at f1
    exact ⟨by show _ ≤ (2 : Int) ∧ (2 : Int) ≤ _; omega, by show _ ≤ n ∧ n ≤ _; omega, Nat.zero_le _⟩
  · replace a : k = 3 := a
    replace b : n = 0 := b
    subst a b
    rw [ex_put, mk_puts] at f2
    exact ⟨by show _ ≤ (3 : Int) ∧ (3 : Int) ≤ _; omega, by show _ ≤ (0 : Int) ∧ (0 : Int) ≤ _; omega, by show s.length ≤ _; omega⟩
theorem trN_mk : ∀ b, mk (trN b).1 ≤ mk b ∧ mk (trN b).2 ≤ mk b
  | [] => ⟨Nat.le_refl _, Nat.le_refl _⟩
  | none :: b => by have := trN_mk b; show mk (trN b).1 ≤ mk b + 1 ∧ mk (trN b).2 ≤ mk b + 1; omega
  | some none :: b => trN_mk b
  | some (some y) :: b => by have := trN_mk b; show mk (trN b).1 + 1 ≤ mk b + 1 ∧ mk (trN b).2 + 1 ≤ mk b + 1; omega
theorem tr_mk : ∀ a b, mk (tr a b).1 ≤ mk a + mk b ∧ mk (tr a b).2 ≤ mk a + mk b
  | [], b => by have := trN_mk b; show mk (trN b).1 ≤ 0 + mk b ∧ mk (trN b).2 ≤ 0 + mk b; omega
  | none :: a, b => by
    show mk (trK (tr a) b).1 ≤ (mk a + 1) + mk b ∧ mk (trK (tr a) b).2 ≤ (mk a + 1) + mk b
    induction b with
    | nil => exact ⟨Nat.zero_le _, Nat.zero_le _⟩
    | cons m b ih =>
      rcases m with _ | _ | y
      · have := tr_mk a b; show mk (tr a b).1 + 1 ≤ mk a + 1 + (mk b + 1) ∧ mk (tr a b).2 + 1 ≤ mk a + 1 + (mk b + 1); omega
      · have := tr_mk a b; show mk (tr a b).1 ≤ mk a + 1 + mk b ∧ mk (tr a b).2 ≤ mk a + 1 + mk b; omega
      · show mk (trK (tr a) b).1 + 1 ≤ mk a + 1 + (mk b + 1) ∧ mk (trK (tr a) b).2 + 1 ≤ mk a + 1 + (mk b + 1); omega
  | some none :: a, b => by
    show mk (trC (tr a) b).1 ≤ mk a + mk b ∧ mk (trC (tr a) b).2 ≤ mk a + mk b
    induction b with
    | nil => exact ⟨Nat.zero_le _, Nat.zero_le _⟩
    | cons m b ih =>
      rcases m with _ | _ | y
      · have := tr_mk a b; show mk (tr a b).1 ≤ mk a + (mk b + 1) ∧ mk (tr a b).2 ≤ mk a + (mk b + 1); omega
      · exact tr_mk a b
      · show mk (trC (tr a) b).1 + 1 ≤ mk a + (mk b + 1) ∧ mk (trC (tr a) b).2 + 1 ≤ mk a + (mk b + 1); omega
  | some (some x) :: a, b => by have := tr_mk a b; show mk (tr a b).1 + 1 ≤ mk a + 1 + mk b ∧ mk (tr a b).2 + 1 ≤ mk a + 1 + mk b; omega
/-- What Transform makes, and what is wrong with it. -/
def trL (A B : List Pt) : List Pt := nf (tr (nrm (exL A)) (nrm (exL B))).1
def trR (A B : List Pt) : List Pt := nf (tr (nrm (exL A)) (nrm (exL B))).2
def trE (A B : List Pt) : Int := if erB A B ≠ 0 then erB A B else if ov (exL B) ≠ ov (exL A) then 1 else if chk (trL A B) ≠ 0 ∨ chk (trR A B) ≠ 0 then 2 else 0
def trC1 (A B : List Pt) : List Pt := if trE A B = 0 then trL A B else []
def trC2 (A B : List Pt) : List Pt := if trE A B = 0 then trR A B else []
theorem trE_ok {A B : List Pt} (h : trE A B = 0) : chk A = 0 ∧ chk B = 0 ∧ ov (exL B) = ov (exL A) ∧ chk (trL A B) = 0 ∧ chk (trR A B) = 0 := by
  unfold trE at h
  split at h
  · rename_i h1; exact absurd h h1
  · rename_i h1
    obtain ⟨a, b⟩ := erB_ok (Classical.byContradiction h1)
    split at h
    · omega
    · rename_i h2
      split at h
      · omega
      · rename_i h3
        exact ⟨a, b, Classical.byContradiction h2, Classical.byContradiction fun e => h3 (.inl e), Classical.byContradiction fun e => h3 (.inr e)⟩
theorem trE_zero {A B : List Pt} (h1 : chk A = 0) (h2 : chk B = 0) (h3 : ov (exL B) = ov (exL A)) (h4 : chk (trL A B) = 0) (h5 : chk (trR A B) = 0) : trE A B = 0 := by
  have h0 : erB A B = 0 := by unfold erB; rw [if_neg (fun h => h h1)]; exact h2
  unfold trE
  rw [if_neg (fun h => h h0), if_neg (fun h => h h3), if_neg (fun h => h.elim (fun h => h h4) (fun h => h h5))]
theorem tr_facts {A B : List Pt} (h1 : chk A = 0) (h2 : chk B = 0) (h3 : ov (exL B) = ov (exL A)) : TI (tr (nrm (exL A)) (nrm (exL B))).1 (tr (nrm (exL A)) (nrm (exL B))).2 (nrmC A) (nrmC B) [] [] ∧ (ov (tr (nrm (exL A)) (nrm (exL B))).1 ≤ 40000 ∧ mk (tr (nrm (exL A)) (nrm (exL B))).1 ≤ 40000) ∧ ov (tr (nrm (exL A)) (nrm (exL B))).2 ≤ 40000 ∧ mk (tr (nrm (exL A)) (nrm (exL B))).2 ≤ 40000 := by
  have eA : nrmC A = nf (exL A) := if_pos h1
  have eB : nrmC B = nf (exL B) := if_pos h2
  obtain ⟨_, _, a3, a4⟩ := chk_ok h1
  obtain ⟨_, _, b3, b4⟩ := chk_ok h2
  have hm : ov (nrm (exL A)) = ov (nrm (exL B)) := by rw [ov_nrm, ov_nrm, h3]
  obtain ⟨o1, o2, _⟩ := tr_all ptA (nrm (exL A)) (nrm (exL B)) (whole 0 (ov (nrm (exL A)))) hm (whole_len _ _)
  have hmk := tr_mk (nrm (exL A)) (nrm (exL B))
  rw [mk_nrm] at o1 o2
  rw [mk_nrm, mk_nrm] at hmk
  rw [eA, eB]
  exact ⟨⟨nf_ok _, nf_ok _, by rw [ex_nf, ex_nf]; exact hm, by rw [ex_nf, ex_nf]; rfl, by rw [ex_nf, ex_nf]; rfl, by rw [ex_nf, ov_nrm]; exact a3, by rw [ex_nf, mk_nrm]; exact a4, by rw [ex_nf, mk_nrm]; exact b4⟩, ⟨by omega, by omega⟩, by omega, by omega⟩
set_option maxHeartbeats 8000000 in
set_option maxRecDepth 100000 in
theorem transformF_any (w : World) (p q : Option Addr) (c d : Nat) (A B : List Pt) (hA : LiesQ w p A) (hB : LiesQ w q B) (la : A.length ≤ 9223372036854775807) (lb : B.length ≤ 9223372036854775807) :
    Calls Try.prog 4 #[.slice p A.length c, .slice q B.length d] w fun e w' => ∃ v u, e = .returned (.tuple #[v, u, .int .i64 (trE A B)]) ∧ OwnP w' w.heap.size v (trC1 A B) ∧ OwnP w' w.heap.size u (trC2 A B) ∧ Below w.heap.size w w' := by
  have K1 := hide (normBoth_any w p q c d A B hA hB la lb)
  clear hA hB
  go_enter Try.func4, Try.ntmps4
  go_wp2_with fail
  refine (unhide K1).mono ?_
  rintro e w1 ⟨v1, v2, rfl, hv1, hv2, hap, b1⟩
  clear K1
  obtain ⟨p1, c1, rfl, _⟩ := own_form hv1
  obtain ⟨p2, c2, rfl, _⟩ := own_form hv2
  by_cases hz : erB A B = 0
  · obtain ⟨z1, z2⟩ := erB_ok hz
    have hnA : norB A B A = nrmC A := if_pos hz
    have hnB : norB A B B = nrmC B := if_pos hz
    rw [hnA] at hv1
    rw [hnB] at hv2
    rw [hz, hnA, hnB]
    rw [hnA, hnB] at hap
    have fA := nrmC_fine A
    have fB := nrmC_fine B
    obtain ⟨q1, d1, e1, _, _, L1, _⟩ := hv1.lies (fine_rng fA)
    obtain ⟨q2, d2, e2, _, _, L2, _⟩ := hv2.lies (fine_rng fB)
    have L1' : LiesQ w1 p1 (nrmC A) := by injection e1 with a b c; subst a; exact L1
    have L2' : LiesQ w1 p2 (nrmC B) := by injection e2 with a b c; subst a; exact L2
    obtain ⟨ga1, ga2, ga3, ga4⟩ := chk_ok fA
    obtain ⟨gb1, gb2, gb3, gb4⟩ := chk_ok fB
    have oA : ov (exL (nrmC A)) = ov (exL A) := by rw [show nrmC A = nf (exL A) from if_pos z1, ex_nf, ov_nrm]
    have oB : ov (exL (nrmC B)) = ov (exL B) := by rw [show nrmC B = nf (exL B) from if_pos z2, ex_nf, ov_nrm]
    have K2 := hide (sizes_any w1 p1 c1 (nrmC A) L1' (by omega) ga2)
    rw [oA] at K2
    have HK3 : Hid (∀ u, Below w1.heap.size w1 u → Calls Try.prog 10 #[.slice p2 (nrmC B).length c2] u fun e w' => e = .returned (.tuple #[.int .i64 (ov (exL B) : Int), .int .i64 (mk (exL (nrmC B)) : Int)]) ∧ Below u.heap.size u w') := hide fun u hu => by
      have := sizes_any u p2 c2 (nrmC B) (L2'.keep hu) (by omega) gb2
      rw [oB] at this
      exact this
    have HV := hide (And.intro hv1 (And.intro hv2 hap))
    have B1 := hide b1
    have HZ := hide (And.intro z1 (And.intro z2 hz))
    have hmA : ov (exL A) ≤ 20000 := by omega
    have hoB : ov (exL B) ≤ 20000 := by omega
    clear hv1 hv2 hap b1 e1 e2 L1 L2 L1' L2' ga1 ga2 ga3 ga4 gb1 gb2 gb3 gb4 oA oB fA fB hnA hnB hz z1 z2
    generalize mk (exL (nrmC A)) = zz1 at *
    generalize mk (exL (nrmC B)) = zz2 at *
    go_wp2_with fail
    refine (unhide K2).mono ?_
    rintro e w2 ⟨rfl, b2⟩
    have K3 := hide (HK3.out w2 b2)
    clear K2 HK3
    go_wp2_with fail
    refine (unhide K3).mono ?_
    rintro e w3 ⟨rfl, b3⟩
    have b13 := b2.trans (b3.mono b2.size)
    have HV3 : Hid (OwnP w3 w.heap.size (.slice p1 (nrmC A).length c1) (nrmC A) ∧ OwnP w3 w.heap.size (.slice p2 (nrmC B).length c2) (nrmC B) ∧ Below w.heap.size w w3) := hide ⟨own_chg HV.out.1 (Chg.of_below b13 (fun _ => False)) (fun _ _ h => h), own_chg HV.out.2.1 (Chg.of_below b13 (fun _ => False)) (fun _ _ h => h), B1.out.trans (b13.mono B1.out.size)⟩
    clear K3 b2 b3 b13
    by_cases hs : ov (exL B) = ov (exL A)
    · obtain ⟨ti, f0⟩ := tr_facts HZ.out.1 HZ.out.2.1 hs
      have K4 := hide (transform_any w3 _ _ (nrmC A) (nrmC B) _ _ _ _ HV3.out.1 HV3.out.2.1 HV.out.2.2 ti f0)
      have i1 : ((ov (exL B) : Int) != (ov (exL A) : Int)) = false := by rw [hs]; simp
      have HS := hide hs
      have okL1 : okL (trL A B) := nf_ok _
      have okR1 : okL (trR A B) := nf_ok _
      have oL : ov (exL (trL A B)) ≤ 40000 := by unfold trL; rw [ex_nf, ov_nrm]; exact f0.1.1
      have mL : mk (exL (trL A B)) ≤ 40000 := by unfold trL; rw [ex_nf, mk_nrm]; exact f0.1.2
      have oR : ov (exL (trR A B)) ≤ 40000 := by unfold trR; rw [ex_nf, ov_nrm]; exact f0.2.1
      have mR : mk (exL (trR A B)) ≤ 40000 := by unfold trR; rw [ex_nf, mk_nrm]; exact f0.2.2
      have lL : (trL A B).length ≤ 80000 := by have := okL_len okL1; omega
      have lR : (trR A B).length ≤ 80000 := by have := okL_len okR1; omega
      have HPN := hide (And.intro (okL_rng okL1 oL mL) (okL_rng okR1 oR mR))
      have HE0 : Hid (trE A B = if chk (trL A B) ≠ 0 ∨ chk (trR A B) ≠ 0 then 2 else 0) := hide (by unfold trE; rw [if_neg (fun h => h HZ.out.2.2), if_neg (fun h => h hs)])
      have HNN : Hid (nf (tr (nrm (exL A)) (nrm (exL B))).1 = trL A B ∧ nf (tr (nrm (exL A)) (nrm (exL B))).2 = trR A B) := hide ⟨rfl, rfl⟩
      clear hs ti f0 okL1 okR1 oL mL oR mR
      generalize ov (exL B) = ob at *
      generalize ov (exL A) = oa at *
      go_wp2_with fail
      refine (unhide K4).mono ?_
      rintro e w4 ⟨v, u, rfl, hv, hu, hc⟩
      rw [HNN.out.1] at hv
      rw [HNN.out.2] at hu
      obtain ⟨pv, cv, rfl, hcv, hcm, LV, _⟩ := hv.lies HPN.out.1
      obtain ⟨pu, cu, rfl, hcu, hcm', LU, _⟩ := hu.lies HPN.out.2
      have b4 : Below w.heap.size w w4 := HV3.out.2.2.trans (hc.below (fun b hb => hb.elim (fun e => (World.ownsRow.lt HV3.out.1 b e).1) (fun e => (World.ownsRow.lt HV3.out.2.1 b e).1)) HV3.out.2.2.size)
      have K5 := hide (check_any w4 pv cv (trL A B) LV (by omega))
      have lower : ∀ {v : Value} {L : List Pt}, OwnP w4 w3.heap.size v L → OwnP w4 w.heap.size v L := fun {v L} h => own_base (by
        refine ⟨h.1, ?_⟩
        rcases h.2 with h | ⟨g, cap, cur, hv', _, hr⟩
        · exact .inl h
        · exact .inr ⟨g, cap, cur, hv', Nat.zero_le _, hr⟩) (fun g hg => Nat.le_trans HV3.out.2.2.size (World.ownsRow.lt h g hg).1)
      have HO := hide (And.intro (lower hv) (And.intro (lower hu) LU))
      have B4 := hide b4
      clear K4 hv hu hc LV LU b4 lower
      by_cases hg : chk (trL A B) = 0
      · rw [hg] at K5
        by_cases hg2 : chk (trR A B) = 0
        · have HE : Hid (trE A B = 0 ∧ trC1 A B = trL A B ∧ trC2 A B = trR A B) := hide (by
            have h0 : trE A B = 0 := by rw [HE0.out, if_neg (fun h => h.elim (fun h => h hg) (fun h => h hg2))]
            exact ⟨h0, if_pos h0, if_pos h0⟩)
          have HG2 := hide hg2
          clear hg hg2
          go_wp2_with fail
          refine (unhide K5).mono ?_
          rintro e w5 ⟨rfl, b5⟩
          have K6 := hide (check_any w5 pu cu (trR A B) (HO.out.2.2.keep b5) (by omega))
          rw [HG2.out] at K6
          have b6 := B4.out.trans (b5.mono B4.out.size)
          have B6 := hide b6
          have HO5 : Hid (OwnP w5 w.heap.size (.slice pv (trL A B).length cv) (trL A B) ∧ OwnP w5 w.heap.size (.slice pu (trR A B).length cu) (trR A B)) := hide ⟨own_chg HO.out.1 (Chg.of_below b5 (fun _ => False)) (fun _ _ h => h), own_chg HO.out.2.1 (Chg.of_below b5 (fun _ => False)) (fun _ _ h => h)⟩
          clear K5 b5 b6 HO
          go_wp2_with fail
          refine (unhide K6).mono ?_
          rintro e w6 ⟨rfl, b7⟩
          have b8 := B6.out.trans (b7.mono B6.out.size)
          have HO6 : Hid (OwnP w6 w.heap.size (.slice pv (trL A B).length cv) (trL A B) ∧ OwnP w6 w.heap.size (.slice pu (trR A B).length cu) (trR A B)) := hide ⟨own_chg HO5.out.1 (Chg.of_below b7 (fun _ => False)) (fun _ _ h => h), own_chg HO5.out.2 (Chg.of_below b7 (fun _ => False)) (fun _ _ h => h)⟩
          clear K6 b7
          go_wp2
          go_ret3
          rw [HE.out.1, HE.out.2.1, HE.out.2.2]
          exact ⟨_, _, rfl, HO6.out.1, HO6.out.2, b8⟩
        · have HE : Hid (trE A B = 2 ∧ trC1 A B = [] ∧ trC2 A B = []) := hide (by
            have h0 : trE A B = 2 := by rw [HE0.out, if_pos (.inr hg2)]
            exact ⟨h0, if_neg (by rw [h0]; decide), if_neg (by rw [h0]; decide)⟩)
          have e2 : (chk (trR A B) == 0) = false := beq_false_of_ne hg2
          have e3 : (chk (trR A B) != 0) = true := by simp [hg2]
          clear hg
          have HLR := hide lR
          go_wp2_with fail
          refine (unhide K5).mono ?_
          rintro e w5 ⟨rfl, b5⟩
          have K6 := hide (check_any w5 pu cu (trR A B) (HO.out.2.2.keep b5) (by have := HLR.out; omega))
          have b6 := B4.out.trans (b5.mono B4.out.size)
          have B6 := hide b6
          clear K5 b5 b6 HO
          generalize chk (trR A B) = er at *
          go_wp2_with fail
          refine (unhide K6).mono ?_
          rintro e w6 ⟨rfl, b7⟩
          have b8 := B6.out.trans (b7.mono B6.out.size)
          clear K6 b7
          go_wp2
          go_ret3
          rw [HE.out.1, HE.out.2.1, HE.out.2.2]
          exact ⟨_, _, rfl, World.ownsRow_nil _ _ _ _, World.ownsRow_nil _ _ _ _, b8⟩
      · have HE : Hid (trE A B = 2 ∧ trC1 A B = [] ∧ trC2 A B = []) := hide (by
          have h0 : trE A B = 2 := by rw [HE0.out, if_pos (.inl hg)]
          exact ⟨h0, if_neg (by rw [h0]; decide), if_neg (by rw [h0]; decide)⟩)
        have e2 : (chk (trL A B) == 0) = false := beq_false_of_ne hg
        have e3 : (chk (trL A B) != 0) = true := by simp [hg]
        generalize chk (trL A B) = er at *
        go_wp2_with fail
        refine (unhide K5).mono ?_
        rintro e w5 ⟨rfl, b5⟩
        have b6 := B4.out.trans (b5.mono B4.out.size)
        clear K5 b5
        go_wp2
        go_ret3
        rw [HE.out.1, HE.out.2.1, HE.out.2.2]
        exact ⟨_, _, rfl, World.ownsRow_nil _ _ _ _, World.ownsRow_nil _ _ _ _, b6⟩
    · have HE : Hid (trE A B = 1 ∧ trC1 A B = [] ∧ trC2 A B = []) := hide (by
        have h0 : trE A B = 1 := by unfold trE; rw [if_neg (fun h => h HZ.out.2.2), if_pos hs]
        exact ⟨h0, if_neg (by rw [h0]; decide), if_neg (by rw [h0]; decide)⟩)
      have i1 : ((ov (exL B) : Int) != (ov (exL A) : Int)) = true := by simp; omega
      have i2 : ¬ (ov (exL B) : Int) = (ov (exL A) : Int) := by omega
      have HS := hide hs
      clear hs
      generalize ov (exL B) = ob at *
      generalize ov (exL A) = oa at *
      go_wp2
      go_ret3
      rw [HE.out.1, HE.out.2.1, HE.out.2.2]
      exact ⟨_, _, rfl, World.ownsRow_nil _ _ _ _, World.ownsRow_nil _ _ _ _, HV3.out.2.2⟩
  · have HE : Hid (trE A B = erB A B ∧ trC1 A B = [] ∧ trC2 A B = []) := hide (by
      have h0 : trE A B = erB A B := by unfold trE; rw [if_pos hz]
      exact ⟨h0, if_neg (by rw [h0]; exact hz), if_neg (by rw [h0]; exact hz)⟩)
    have e2 : (erB A B == 0) = false := beq_false_of_ne hz
    have e3 : (erB A B != 0) = true := by simp [hz]
    clear hv1 hv2 hap
    generalize erB A B = er at *
    generalize (norB A B A).length = l1 at *
    generalize (norB A B B).length = l2 at *
    go_wp2
    go_ret3
    rw [HE.out.1, HE.out.2.1, HE.out.2.2]
    exact ⟨_, _, rfl, World.ownsRow_nil _ _ _ _, World.ownsRow_nil _ _ _ _, b1⟩
end Go.Proofs.Yteajpkoghlbneaa.spls
