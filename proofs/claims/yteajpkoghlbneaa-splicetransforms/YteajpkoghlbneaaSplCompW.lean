/- The walks of package splice: normBoth, Compose. -/
import Derived.Test.YteajpkoghlbneaaSplCmpLW
set_option linter.unusedVariables false
namespace Go.Proofs.Yteajpkoghlbneaa.spls
open Go.RowKit

theorem chk_nil0 : chk [] = 0 := by decide
theorem nrmC_fine (L : List Pt) : chk (nrmC L) = 0 := by
  unfold nrmC
  split
  · rename_i h; exact nf_good h
  · exact chk_nil0
theorem fine_rng {L : List Pt} (h : chk L = 0) : ∀ x ∈ L, rng x := fun x hx => chkP_rng ((chk_ok h).2.1 x hx)
theorem okL_chkP {L : List Pt} (h : okL L) (h3 : ov (exL L) ≤ 20000) (h4 : mk (exL L) ≤ 20000) : ∀ p ∈ L, chkP p = 0 := fun p hp => by
  refine chkP_zero ?_
  obtain ⟨f1, f2⟩ := part_fits hp
  obtain ⟨k, n, s⟩ := p
  rcases h _ hp with ⟨a, b, c⟩ | ⟨a, b, c⟩ | ⟨a, b, c⟩
  · replace a : k = 1 := a
    subst a
    rw [ex_keep, ov_keeps] at f1
    exact .inl ⟨rfl, Int.le_of_lt b, by show n ≤ 20000; omega, c⟩
  · replace a : k = 2 := a
    subst a
    rw [ex_cut, ov_cuts] at f1
    exact .inr (.inl ⟨rfl, Int.le_of_lt b, by show n ≤ 20000; omega, c⟩)
  · replace a : k = 3 := a
    subst a
    rw [ex_put, mk_puts] at f2
    exact .inr (.inr ⟨rfl, b, by show s.length ≤ 20000; omega⟩)
def erB (A B : List Pt) : Int := if chk A ≠ 0 then chk A else chk B
def norB (A B C : List Pt) : List Pt := if erB A B = 0 then nrmC C else []
theorem erB_ok {A B : List Pt} (h : erB A B = 0) : chk A = 0 ∧ chk B = 0 := by
  unfold erB at h
  split at h
  · rename_i h1; exact absurd h h1
  · rename_i h1; exact ⟨Classical.byContradiction h1, h⟩
set_option maxHeartbeats 8000000 in
set_option maxRecDepth 100000 in
theorem normBoth_any (w : World) (p q : Option Addr) (c d : Nat) (A B : List Pt) (hA : LiesQ w p A) (hB : LiesQ w q B) (la : A.length ≤ 9223372036854775807) (lb : B.length ≤ 9223372036854775807) :
    Calls Try.prog 9 #[.slice p A.length c, .slice q B.length d] w fun e w' => ∃ v1 v2, e = .returned (.tuple #[v1, v2, .int .i64 (erB A B)]) ∧ OwnP w' w.heap.size v1 (norB A B A) ∧ OwnP w' w.heap.size v2 (norB A B B) ∧ (∀ g, v1.ownBlock = some g → v2.ownBlock ≠ some g) ∧ Below w.heap.size w w' := by
  have K1 := hide (norm_any w p c A hA la)
  have HB := hide hB
  clear hA hB
  go_enter Try.func9, Try.ntmps9
  go_wp2_with fail
  refine (unhide K1).mono ?_
  rintro e w1 ⟨v1, rfl, hv1, b1⟩
  clear K1
  by_cases hz : chk A = 0
  · have K2 := hide (norm_any w1 q d B (HB.out.keep b1) lb)
    have HE : Hid (erB A B = chk B) := hide (by unfold erB; rw [if_neg (fun h => h hz)])
    rw [hz]
    have HV := hide hv1
    obtain ⟨p1, n1, c1, rfl⟩ : ∃ q N c, v1 = .slice q N c := by obtain ⟨q, c, e, _⟩ := own_form hv1; exact ⟨_, _, _, e⟩
    have B1 := hide b1
    clear hv1 b1
    go_wp2_with fail
    refine (unhide K2).mono ?_
    rintro e w2 ⟨v2, rfl, hv2, b2⟩
    clear K2
    obtain ⟨p2, n2, c2, rfl⟩ : ∃ q N c, v2 = .slice q N c := by obtain ⟨q, c, e, _⟩ := own_form hv2; exact ⟨_, _, _, e⟩
    have hb2 := B1.out.trans (b2.mono B1.out.size)
    have hv1' : OwnP w2 w.heap.size (.slice p1 n1 c1) (nrmC A) := own_chg HV.out (Chg.of_below b2 (fun _ => False)) (fun _ _ h => h)
    have hv2' : OwnP w2 w.heap.size (.slice p2 n2 c2) (nrmC B) := own_base (own_chg (w := w2) (w' := w2) (by
      refine ⟨hv2.1, ?_⟩
      rcases hv2.2 with h | ⟨g, cap, cur, hv, _, hr⟩
      · exact .inl h
      · exact .inr ⟨g, cap, cur, hv, Nat.zero_le _, hr⟩) (Chg.refl (fun _ => False) w2) (fun _ _ h => h)) (fun g hg => Nat.le_trans B1.out.size (World.ownsRow.lt hv2 g hg).1)
    have hap : ∀ g, (Value.slice p1 n1 c1).ownBlock = some g → (Value.slice p2 n2 c2).ownBlock ≠ some g := fun g hg hg2 => by
      have a := own_lt HV.out g hg
      have b := (World.ownsRow.lt hv2 g hg2).1
      omega
    have HR := hide (And.intro hv1' (And.intro hv2' (And.intro hap hb2)))
    clear hv1' hv2' hap hb2 b2 hv2 HV
    by_cases hy : chk B = 0
    · have HN : Hid (erB A B = 0 ∧ norB A B A = nrmC A ∧ norB A B B = nrmC B) := hide (by
        have h0 : erB A B = 0 := by rw [HE.out, hy]
        exact ⟨h0, if_pos h0, if_pos h0⟩)
      rw [hy]
      clear hz hy
      go_wp2
      go_ret3
      rw [HN.out.1, HN.out.2.1, HN.out.2.2]
      exact ⟨_, _, rfl, HR.out⟩
    · have HN : Hid (norB A B A = [] ∧ norB A B B = []) := hide (by
        have h0 : ¬ erB A B = 0 := by rw [HE.out]; exact hy
        exact ⟨if_neg h0, if_neg h0⟩)
      have e2 : (chk B == 0) = false := beq_false_of_ne hy
      have e3 : (chk B != 0) = true := by simp [hy]
      clear hz
      generalize chk B = er at *
      go_wp2
      go_ret3
      rw [HE.out, HN.out.1, HN.out.2]
      exact ⟨_, _, rfl, World.ownsRow_nil _ _ _ _, World.ownsRow_nil _ _ _ _, fun g hg => (by cases hg), HR.out.2.2.2⟩
  · have HN : Hid (erB A B = chk A ∧ norB A B A = [] ∧ norB A B B = []) := hide (by
      have h1 : erB A B = chk A := by unfold erB; rw [if_pos hz]
      have h0 : ¬ erB A B = 0 := by rw [h1]; exact hz
      exact ⟨h1, if_neg h0, if_neg h0⟩)
    have e2 : (chk A == 0) = false := beq_false_of_ne hz
    have e3 : (chk A != 0) = true := by simp [hz]
    obtain ⟨p1, n1, c1, rfl⟩ : ∃ q N c, v1 = .slice q N c := by obtain ⟨q, c, e, _⟩ := own_form hv1; exact ⟨_, _, _, e⟩
    clear hv1
    generalize chk A = er at *
    go_wp2
    go_ret3
    rw [HN.out.1, HN.out.2.1, HN.out.2.2]
    exact ⟨_, _, rfl, World.ownsRow_nil _ _ _ _, World.ownsRow_nil _ _ _ _, fun g hg => (by cases hg), b1⟩
/-- What Compose makes, and what is wrong with it. -/
def cmpN (A B : List Pt) : List Pt := nf (cmp (nrm (exL B)) (nrm (exL A)))
def cmpE (A B : List Pt) : Int := if erB A B ≠ 0 then erB A B else if ov (exL B) ≠ mk (exL A) then 1 else if chk (cmpN A B) ≠ 0 then 2 else 0
def cmpC (A B : List Pt) : List Pt := if cmpE A B = 0 then cmpN A B else []
theorem cmpE_ok {A B : List Pt} (h : cmpE A B = 0) : chk A = 0 ∧ chk B = 0 ∧ ov (exL B) = mk (exL A) ∧ chk (cmpN A B) = 0 := by
  unfold cmpE at h
  split at h
  · rename_i h1; exact absurd h h1
  · rename_i h1
    obtain ⟨a, b⟩ := erB_ok (Classical.byContradiction h1)
    split at h
    · omega
    · rename_i h2
      split at h
      · omega
      · rename_i h3
        exact ⟨a, b, Classical.byContradiction h2, Classical.byContradiction h3⟩
theorem cmpE_zero {A B : List Pt} (h1 : chk A = 0) (h2 : chk B = 0) (h3 : ov (exL B) = mk (exL A)) (h4 : chk (cmpN A B) = 0) : cmpE A B = 0 := by
  have h0 : erB A B = 0 := by unfold erB; rw [if_neg (fun h => h h1)]; exact h2
  unfold cmpE
  rw [if_neg (fun h => h h0), if_neg (fun h => h h3), if_neg (fun h => h h4)]
theorem cmpN_facts {A B : List Pt} (h1 : chk A = 0) (h2 : chk B = 0) (h3 : ov (exL B) = mk (exL A)) : CI (cmp (exL (nrmC B)) (exL (nrmC A))) (nrmC A) (nrmC B) [] ∧ cmp (exL (nrmC B)) (exL (nrmC A)) = cmp (nrm (exL B)) (nrm (exL A)) ∧ ov (cmp (nrm (exL B)) (nrm (exL A))) ≤ 20000 ∧ mk (cmp (nrm (exL B)) (nrm (exL A))) ≤ 20000 := by
  have eA : nrmC A = nf (exL A) := if_pos h1
  have eB : nrmC B = nf (exL B) := if_pos h2
  obtain ⟨_, _, a3, a4⟩ := chk_ok h1
  obtain ⟨_, _, b3, b4⟩ := chk_ok h2
  have hm : mk (nrm (exL A)) = ov (nrm (exL B)) := by rw [mk_nrm, ov_nrm, h3]
  rw [eA, eB, ex_nf, ex_nf]
  refine ⟨⟨nf_ok _, nf_ok _, by rw [ex_nf, ex_nf]; exact hm, by rw [ex_nf, ex_nf]; rfl, by rw [ex_nf, ov_nrm]; exact a3, by rw [ex_nf, mk_nrm]; exact a4, by rw [ex_nf, mk_nrm]; exact b4⟩, rfl, by rw [ov_cmp _ _ hm, ov_nrm]; exact a3, by rw [mk_cmp _ _ hm, mk_nrm]; exact b4⟩
end Go.Proofs.Yteajpkoghlbneaa.spls
