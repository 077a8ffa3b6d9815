/- The law SpliceTransforms. -/
import Derived.Test.YteajpkoghlbneaaSplLawE
import Derived.Test.YteajpkoghlbneaaSplOverR
set_option linter.unusedVariables false
namespace Go.Proofs.Yteajpkoghlbneaa.spls
open Go.RowKit

/-- What is wrong with two changes of one text. -/
def matF (A B : List Pt) : Int := if erB A B ≠ 0 then erB A B else if ov (exL B) ≠ ov (exL A) then 1 else 0
set_option maxHeartbeats 8000000 in
set_option maxRecDepth 100000 in
theorem match_front (w : World) (p q : Option Addr) (c d : Nat) (A B : List Pt) (hA : LiesQ w p A) (hB : LiesQ w q B) (la : A.length ≤ 9223372036854775807) (lb : B.length ≤ 9223372036854775807) :
    Calls Try.prog 5 #[.slice p A.length c, .slice q B.length d, .bool false] w fun e w' => e = .returned (.int .i64 (matF A B)) ∧ Below w.heap.size w w' := by
  have K1 := hide (changeFault_any w p c A hA la)
  have HB := hide hB
  clear hA hB
  go_enter Try.func5, Try.ntmps5
  go_wp2_with fail
  refine (unhide K1).mono ?_
  rintro _ w1 ⟨rfl, b1⟩
  have K2 := hide (changeFault_any w1 q d B (HB.out.keep b1) lb)
  have B1 := hide b1
  clear K1 b1
  go_wp2_with fail
  refine (unhide K2).mono ?_
  rintro _ w2 ⟨rfl, b2⟩
  have b3 := B1.out.trans (b2.mono B1.out.size)
  clear K2 b2 B1
  by_cases za : chk A = 0
  · by_cases zb : chk B = 0
    · have h0 : erB A B = 0 := by unfold erB; rw [if_neg (fun h => h za)]; exact zb
      have eM : szO A = ov (exL A) := if_pos za
      have eO : szO B = ov (exL B) := if_pos zb
      have o1 := (chk_ok za).2.2.1
      have o2 := (chk_ok zb).2.2.1
      rw [za, zb, eM, eO]
      by_cases hm : ov (exL B) = ov (exL A)
      · have HE : Hid (matF A B = 0) := hide (by unfold matF; rw [if_neg (fun h => h h0), if_neg (fun h => h hm)])
        have i1 : ((ov (exL B) : Int) != (ov (exL A) : Int)) = false := by rw [hm]; simp
        have HM := hide hm
        clear za zb h0 eM eO hm
        generalize ov (exL B) = ob at *
        generalize ov (exL A) = ma at *
        generalize szM A = za1 at *
        generalize szM B = zb1 at *
        go_wp2
        go_ret
        exact ⟨by rw [HE.out]; rfl, b3⟩
      · have HE : Hid (matF A B = 1) := hide (by unfold matF; rw [if_neg (fun h => h h0), if_pos hm])
        have i1 : ((ov (exL B) : Int) != (ov (exL A) : Int)) = true := by simp; omega
        have i2 : ¬ (ov (exL B) : Int) = (ov (exL A) : Int) := by omega
        have HM := hide hm
        clear za zb h0 eM eO hm
        generalize ov (exL B) = ob at *
        generalize ov (exL A) = ma at *
        generalize szM A = za1 at *
        generalize szM B = zb1 at *
        go_wp2
        go_ret
        exact ⟨by rw [HE.out]; rfl, b3⟩
    · have HE : Hid (matF A B = chk B) := hide (by
        have h0 : erB A B = chk B := by unfold erB; rw [if_neg (fun h => h za)]
        unfold matF; rw [h0, if_pos zb])
      rw [za]
      have e2 : (chk B == 0) = false := beq_false_of_ne zb
      have e3 : (chk B != 0) = true := by simp [zb]
      clear za
      generalize chk B = er at *
      generalize szO A = y1 at *
      generalize szM A = y2 at *
      generalize szO B = y3 at *
      generalize szM B = y4 at *
      go_wp2
      go_ret
      exact ⟨by rw [HE.out]; rfl, b3⟩
  · have HE : Hid (matF A B = chk A) := hide (by
      have h0 : erB A B = chk A := by unfold erB; rw [if_pos za]
      unfold matF; rw [h0, if_pos za])
    have e2 : (chk A == 0) = false := beq_false_of_ne za
    have e3 : (chk A != 0) = true := by simp [za]
    generalize chk A = er at *
    generalize chk B = er2 at *
    generalize szO A = y1 at *
    generalize szM A = y2 at *
    generalize szO B = y3 at *
    generalize szM B = y4 at *
    go_wp2
    go_ret
    exact ⟨by rw [HE.out]; rfl, b3⟩
theorem matF_ok {A B : List Pt} (h : matF A B = 0) : chk A = 0 ∧ chk B = 0 ∧ ov (exL B) = ov (exL A) ∧ trE A B = if chk (trL A B) ≠ 0 ∨ chk (trR A B) ≠ 0 then 2 else 0 := by
  unfold matF at h
  split at h
  · rename_i h1; exact absurd h h1
  · rename_i h1
    obtain ⟨a, b⟩ := erB_ok (Classical.byContradiction h1)
    split at h
    · omega
    · rename_i h2
      exact ⟨a, b, Classical.byContradiction h2, by unfold trE; rw [if_neg h1, if_neg h2]⟩
theorem matF_bad {A B : List Pt} (h : matF A B ≠ 0) : trE A B = matF A B ∧ trC1 A B = [] ∧ trC2 A B = [] := by
  have e : trE A B = matF A B := by
    unfold matF at h
    unfold trE matF
    split
    · rfl
    · split
      · rfl
      · rename_i h1 h2
        rw [if_neg h1, if_neg h2] at h
        exact absurd rfl h
  exact ⟨e, if_neg (by rw [e]; exact h), if_neg (by rw [e]; exact h)⟩
theorem trC1_good (A B : List Pt) : chk (trC1 A B) = 0 := by
  unfold trC1
  split
  · rename_i h; exact (trE_ok h).2.2.2.1
  · exact chk_nil0
theorem trC2_good (A B : List Pt) : chk (trC2 A B) = 0 := by
  unfold trC2
  split
  · rename_i h; exact (trE_ok h).2.2.2.2
  · exact chk_nil0
theorem tr_okP {A B : List Pt} (h1 : chk A = 0) (h2 : chk B = 0) (h3 : ov (exL B) = ov (exL A)) : ((∀ x ∈ trL A B, rng x) ∧ (trL A B).length ≤ 100000) ∧ (∀ x ∈ trR A B, rng x) ∧ (trR A B).length ≤ 100000 := by
  obtain ⟨_, ⟨t1, t2⟩, t3, t4⟩ := tr_facts h1 h2 h3
  have aux : ∀ x : List M, ov x ≤ 40000 → mk x ≤ 40000 → (∀ y ∈ nf x, rng y) ∧ (nf x).length ≤ 100000 := fun x a b => by
    have k1 : ov (exL (nf x)) ≤ 40000 := by rw [ex_nf, ov_nrm]; exact a
    have k2 : mk (exL (nf x)) ≤ 40000 := by rw [ex_nf, mk_nrm]; exact b
    refine ⟨okL_rng (nf_ok x) k1 k2, ?_⟩
    have := okL_len (nf_ok x)
    omega
  exact ⟨aux _ t1 t2, aux _ t3 t4⟩
set_option maxHeartbeats 8000000 in
set_option maxRecDepth 100000 in
theorem lawSpliceTransforms (W : World) (p q : Option Addr) (c d : Nat) (A B : List Pt) (hA : LiesQ W p A) (hB : LiesQ W q B) (la : A.length ≤ 9223372036854775807) (lb : B.length ≤ 9223372036854775807) :
    Calls Try.prog 3 #[.slice p A.length c, .slice q B.length d] W fun e W' => e = .returned (.bool true) ∧ Below W.heap.size W W' := by
  have K1 := hide (transformF_any W p q c d A B hA hB la lb)
  have HA := hide hA
  have HB := hide hB
  clear hA hB
  go_enter Try.func3, Try.ntmps3
  go_wp2_with fail
  refine (unhide K1).mono ?_
  rintro _ w1 ⟨v, u, rfl, hv, hu, b1⟩
  have f1 := trC1_good A B
  have f2 := trC2_good A B
  obtain ⟨pv, cv, rfl, _, _, LV, _⟩ := hv.lies (fine_rng f1)
  obtain ⟨pu, cu, rfl, _, _, LU, _⟩ := hu.lies (fine_rng f2)
  have lv := (chk_ok f1).1
  have lu := (chk_ok f2).1
  have HLV := hide (And.intro LV LU)
  have K2 := hide (match_front w1 p q c d A B (HA.out.keep b1) (HB.out.keep b1) la lb)
  have B1 := hide b1
  clear K1 hv hu LV LU b1 f1 f2
  go_wp2_with fail
  refine (unhide K2).mono ?_
  rintro _ w2 ⟨rfl, b2⟩
  have B2 := hide (B1.out.trans (b2.mono B1.out.size))
  have HLV2 := hide (And.intro (HLV.out.1.keep b2) (HLV.out.2.keep b2))
  clear K2 b2 B1 HLV
  by_cases hz : matF A B = 0
  · obtain ⟨za, zb, hm, hE⟩ := matF_ok hz
    have K3 := over_any w2 p q c d A B (HA.out.keep B2.out) (HB.out.keep B2.out) za zb hm
    obtain ⟨⟨k1, k2⟩, k3, k4⟩ := tr_okP za zb hm
    have K3H := hide K3
    have HE := hide hE
    have HK := hide (And.intro k1 k3)
    rw [hz]
    clear K3 hz za zb hm hE k1 k3
    go_wp2_with fail
    refine (unhide K3H).mono ?_
    rintro _ w3 ⟨v5, u5, rfl, hv5, hu5, b3⟩
    have B3 := hide (B2.out.trans (b3.mono B2.out.size))
    have HLV3 := hide (And.intro (HLV2.out.1.keep b3) (HLV2.out.2.keep b3))
    obtain ⟨p5, c5, rfl, _, _, L5, _⟩ := hv5.lies HK.out.1
    obtain ⟨p6, c6, rfl, _, _, L6, _⟩ := hu5.lies HK.out.2
    have HL5 := hide (And.intro L5 L6)
    have K4 := hide (changeFault_any w3 p5 c5 (trL A B) L5 (by omega))
    clear K3H b3 B2 HLV2 hv5 hu5 L5 L6
    have HK5 : Hid (∀ w4, Below w3.heap.size w3 w4 → Calls Try.prog 7 #[.slice p6 (trR A B).length c6] w4 fun e w' => e = .returned (.tuple #[.int .i64 (szO (trR A B)), .int .i64 (szM (trR A B)), .int .i64 (chk (trR A B))]) ∧ Below w4.heap.size w4 w') := hide fun w4 h4 => changeFault_any w4 p6 c6 _ (HL5.out.2.keep h4) (by omega)
    go_wp2_with fail
    refine (unhide K4).mono ?_
    rintro _ w4 ⟨rfl, b4⟩
    have K5 := hide (HK5.out w4 b4)
    have B4 := hide (B3.out.trans (b4.mono B3.out.size))
    have HLV4 := hide (And.intro (HLV3.out.1.keep b4) (HLV3.out.2.keep b4))
    have HL54 := hide (And.intro (HL5.out.1.keep b4) (HL5.out.2.keep b4))
    clear K4 b4 B3 HLV3 HL5 HK5
    generalize szO (trL A B) = y1 at *
    generalize szM (trL A B) = y2 at *
    go_wp2_with fail
    refine (unhide K5).mono ?_
    rintro _ w5 ⟨rfl, b5⟩
    have B5 := hide (B4.out.trans (b5.mono B4.out.size))
    have HLV5 := hide (And.intro (HLV4.out.1.keep b5) (HLV4.out.2.keep b5))
    have HL55 := hide (And.intro (HL54.out.1.keep b5) (HL54.out.2.keep b5))
    clear K5 b5 B4 HLV4 HL54
    generalize szO (trR A B) = y3 at *
    generalize szM (trR A B) = y4 at *
    by_cases hg : chk (trL A B) = 0
    · by_cases hg2 : chk (trR A B) = 0
      · have e0 : trE A B = 0 := by rw [HE.out, if_neg (fun h => h.elim (fun h => h hg) (fun h => h hg2))]
        have eC : trC1 A B = trL A B := if_pos e0
        have eD : trC2 A B = trR A B := if_pos e0
        rw [hg, hg2]
        rw [e0, eC, eD]
        rw [eC, eD] at HLV5
        rw [eC] at lv
        rw [eD] at lu
        clear hg hg2 e0 eC eD HE
        have K6 := sameChange_any w5 pv p5 cv c5 _ _ HLV5.out.1 HL55.out.1 (by omega) (by omega)
        rw [show decide (trL A B = trL A B) = true from by simp] at K6
        have K6H := hide K6
        have HK7 : Hid (∀ w6, Below w5.heap.size w5 w6 → Calls Try.prog 8 #[.slice pu (trR A B).length cu, .slice p6 (trR A B).length c6] w6 fun e w' => e = .returned (.bool true) ∧ Below w6.heap.size w6 w') := hide fun w6 h6 => by
          have := sameChange_any w6 pu p6 cu c6 _ _ (HLV5.out.2.keep h6) (HL55.out.2.keep h6) (by omega) (by omega)
          rw [show decide (trR A B = trR A B) = true from by simp] at this
          exact this
        clear K6
        go_wp2_with fail
        refine (unhide K6H).mono ?_
        rintro _ w6 ⟨rfl, b6⟩
        have K7 := hide (HK7.out w6 b6)
        have B6 := hide (B5.out.trans (b6.mono B5.out.size))
        clear K6H b6 B5 HLV5 HL55 HK7
        go_wp2_with fail
        refine (unhide K7).mono ?_
        rintro _ w7 ⟨rfl, b7⟩
        have b8 := B6.out.trans (b7.mono B6.out.size)
        clear K7 b7 B6
        go_wp2
        go_ret
        exact ⟨rfl, b8⟩
      · have e0 : trE A B = 2 := by rw [HE.out, if_pos (.inr hg2)]
        have eC : trC1 A B = [] := if_neg (by rw [e0]; decide)
        have eD : trC2 A B = [] := if_neg (by rw [e0]; decide)
        rw [hg]
        rw [e0, eC, eD]
        have e2 : (chk (trR A B) == 0) = false := beq_false_of_ne hg2
        have e3 : (chk (trR A B) != 0) = true := by simp [hg2]
        have hb := B5.out
        clear e0 eC eD HE HLV5 HL55 lv lu hg B5
        generalize chk (trR A B) = er at *
        go_wp2
        go_ret
        exact ⟨rfl, hb⟩
    · have e0 : trE A B = 2 := by rw [HE.out, if_pos (.inl hg)]
      have eC : trC1 A B = [] := if_neg (by rw [e0]; decide)
      have eD : trC2 A B = [] := if_neg (by rw [e0]; decide)
      rw [e0, eC, eD]
      have e2 : (chk (trL A B) == 0) = false := beq_false_of_ne hg
      have e3 : (chk (trL A B) != 0) = true := by simp [hg]
      have hb := B5.out
      clear e0 eC eD HE HLV5 HL55 lv lu B5
      generalize chk (trL A B) = er at *
      generalize chk (trR A B) = er2 at *
      go_wp2
      go_ret
      exact ⟨rfl, hb⟩
  · obtain ⟨hE, hC, hD⟩ := matF_bad hz
    rw [hE, hC, hD]
    have e2 : (matF A B == 0) = false := beq_false_of_ne hz
    have e3 : (matF A B != 0) = true := by simp [hz]
    have hb := B2.out
    clear hE hC hD HLV2 lv lu B2
    generalize matF A B = er at *
    go_wp2
    go_ret
    exact ⟨rfl, hb⟩
end Go.Proofs.Yteajpkoghlbneaa.spls
