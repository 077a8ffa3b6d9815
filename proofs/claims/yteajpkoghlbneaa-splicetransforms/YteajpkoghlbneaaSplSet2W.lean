/- The walks of package splice: settle. -/
import Derived.Test.YteajpkoghlbneaaSplSet1W
import Derived.Deep.DrawnRows
import Derived.Deep.RegionLaw
set_option linter.unusedVariables false
namespace Go.Proofs.Yteajpkoghlbneaa.spls
open Go.RowKit
attribute [local go_sem ↓] Go.wp_at_zero Go.wp_at_succ
set_option maxHeartbeats 16000000 in
set_option maxRecDepth 100000 in
theorem settle11 (X : Nat → Prop) (R : Nat) (S : WS) (w : World) (h : Wr X R S w) (hp : 0 < S.2.1.length) (hc : 0 < S.2.2) (hl : S.1.length ≤ 100000) (hpl : S.2.1.length ≤ 1000000000) (hcl : S.2.2 ≤ 1000000000) :
    Calls Try.prog 30 #[.pointer (some ⟨R, 0, none⟩)] w fun e w' => e = .returned (.tuple #[]) ∧ WrTo X R (stl S, [], 0) w w' := by
  have hp' : S.2.1 ≠ [] := List.length_pos_iff.1 hp
  have hc' : S.2.2 ≠ 0 := by omega
  have HST : Hid (stl S = S.1 ++ [(3, 0, S.2.1)] ++ [(2, (S.2.2 : Int), [])]) := hide (by unfold stl putP cutP; rw [if_neg hp', if_neg hc']; simp)
  clear hp' hc'
  obtain ⟨hR, v, u, hb, hv, hu, h1, h2⟩ := h
  obtain ⟨pu, cu, rfl, hcu, hcm⟩ := own_form hu
  obtain ⟨pv, nv, cv, rfl⟩ : ∃ q N c, v = .slice q N c := by obtain ⟨q, c, e, _⟩ := own_form hv; exact ⟨_, _, _, e⟩
  have c0 : (w).cell? ⟨R, 0, none⟩ = some (.slice pv nv cv) := hb.cell 0 _ rfl
  have c1 : (w).cell? ⟨R, 1, none⟩ = some (.slice pu S.2.1.length cu) := hb.cell 1 _ rfl
  have c2 : (w).cell? ⟨R, 2, none⟩ = some (.int .i64 (S.2.2 : Int)) := hb.cell 2 _ rfl
  have f1 := hb.froz 1
  have f2 := hb.froz 2
  have cd1 : Chg (fun _ => False) w w.drew := Chg.of_below ((Below.refl _ w).drew) _
  have hbd1 : Blk w.drew R _ _ := hb.chg cd1 (fun h => h)
  have hvd1 : OwnP w.drew 0 _ (S.1) := own_chg hv cd1 (fun _ _ h => h)
  have hud1 : OwnB w.drew _ S.2.1 := own_chg hu cd1 (fun _ _ h => h)
  obtain ⟨v1, W1, hrun1, ho1, hcg1, hat1⟩ := push_part w.drew _ (S.1) hvd1 (3, 0, S.2.1) (by first | omega | (simp; omega)) 22
  obtain ⟨hbW1, hWr1⟩ := Wr.parts (S := (S.1, S.2)) (X := X) hR hbd1 hud1 hvd1 h1 h2 ho1 hcg1 hat1
  obtain ⟨q1, N1, k1, rfl⟩ : ∃ q N c, v1 = .slice q N c := by obtain ⟨q, c, e, _⟩ := own_form ho1; exact ⟨_, _, _, e⟩
  have hru1 : (Builtin.append_ #[22, 22] 22 #[.slice pv nv cv, .slice (some ⟨w.heap.size, 0, none⟩) 1 1]).run Try.prog (w.alloc (.cells #[.int .i64 3, .int .i64 0, .string ⟨S.2.1.toArray⟩] 46)).drew = .ok (.slice q1 N1 k1) W1 := hrun1
  have ba1 : Below w.drew.heap.size w.drew (w.drew.alloc (.cells #[.int .i64 3, .int .i64 0, .string ⟨S.2.1.toArray⟩] 46)) := (Below.refl _ w.drew).alloc (Nat.le_refl _) _
  have cv1 := conv_own w.drew _ _ hud1
  have cw1 : (convert 51 9 (.slice pu S.2.1.length cu)).run Try.prog (w.alloc (.cells #[.int .i64 3, .int .i64 0, .string ⟨S.2.1.toArray⟩] 46)).drew = .ok (.string ⟨S.2.1.toArray⟩) (w.alloc (.cells #[.int .i64 3, .int .i64 0, .string ⟨S.2.1.toArray⟩] 46)).drew := conv_own (w.drew.alloc (.cells #[.int .i64 3, .int .i64 0, .string ⟨S.2.1.toArray⟩] 46)) _ _ (own_chg hud1 (Chg.of_below ba1 (fun _ => False)) (fun _ _ h => h))
  clear ba1
  have hba1 : Blk (w.alloc (.cells #[.int .i64 3, .int .i64 0, .string ⟨S.2.1.toArray⟩] 46)) R _ _ := hb.alloc _
  have a10 : ((w.alloc (.cells #[.int .i64 3, .int .i64 0, .string ⟨S.2.1.toArray⟩] 46))).cell? ⟨R, 0, none⟩ = some (.slice pv nv cv) := hba1.cell 0 _ rfl
  have a11 : ((w.alloc (.cells #[.int .i64 3, .int .i64 0, .string ⟨S.2.1.toArray⟩] 46))).cell? ⟨R, 1, none⟩ = some (.slice pu S.2.1.length cu) := hba1.cell 1 _ rfl
  have a12 : ((w.alloc (.cells #[.int .i64 3, .int .i64 0, .string ⟨S.2.1.toArray⟩] 46))).cell? ⟨R, 2, none⟩ = some (.int .i64 (S.2.2 : Int)) := hba1.cell 2 _ rfl
  have d10 : (w.drew).cell? ⟨R, 0, none⟩ = some (.slice pv nv cv) := hbd1.cell 0 _ rfl
  have d11 : (w.drew).cell? ⟨R, 1, none⟩ = some (.slice pu S.2.1.length cu) := hbd1.cell 1 _ rfl
  have d12 : (w.drew).cell? ⟨R, 2, none⟩ = some (.int .i64 (S.2.2 : Int)) := hbd1.cell 2 _ rfl
  have e10 : (W1).cell? ⟨R, 0, none⟩ = some (.slice pv nv cv) := hbW1.cell 0 _ rfl
  have e11 : (W1).cell? ⟨R, 1, none⟩ = some (.slice pu S.2.1.length cu) := hbW1.cell 1 _ rfl
  have e12 : (W1).cell? ⟨R, 2, none⟩ = some (.int .i64 (S.2.2 : Int)) := hbW1.cell 2 _ rfl
  have g10 := hbW1.froz 0
  have HW1 := hide (WrTo.of_drew hWr1)
  clear cd1 hbd1 hvd1 hud1 hrun1 ho1 hcg1 hat1 hbW1 hba1 hWr1
  clear hb hv hu h1 h2 hR
  generalize hN : S.2.1.length = N at *
  generalize hC : S.2.2 = C at *
  generalize hU : (⟨S.2.1.toArray⟩ : ByteArray) = U at *
  have i1 : (0 : Int) < (N : Int) := by omega
  have HN := hide (And.intro hN (And.intro hC hU))
  clear hN hC hU
  go_enter Try.func30, Try.ntmps30
  go_wp2_with fail
  go_region_law ((refine step_append_run (by rfl) _ _ _ _ (by rfl) _ _ (by rfl) (by rfl) _ _ hru1 ?_))
  all_goals
    generalize hZ : (World.setCell W1 ⟨R, 0, none⟩ (.slice q1 N1 k1)) = Z at *
    obtain ⟨hR, zv, zu, zb, zhv, zhu, z1, z2⟩ := HW1.out.1
    clear c0 c1 c2 f1 f2 a10 a11 a12 d10 d11 d12 e10 g10 hru1 cv1 cw1
    obtain ⟨pu, cu, rfl, hcu, hcm⟩ := own_form zhu
    obtain ⟨pv, nv, cv, rfl⟩ : ∃ q N c, zv = .slice q N c := by obtain ⟨q, c, e, _⟩ := own_form zhv; exact ⟨_, _, _, e⟩
    have c0 : (Z).cell? ⟨R, 0, none⟩ = some (.slice pv nv cv) := zb.cell 0 _ rfl
    have c1 : (Z).cell? ⟨R, 1, none⟩ = some (.slice pu S.2.1.length cu) := zb.cell 1 _ rfl
    have c2 : (Z).cell? ⟨R, 2, none⟩ = some (.int .i64 (S.2.2 : Int)) := zb.cell 2 _ rfl
    have cd2 : Chg (fun _ => False) Z Z.drew := Chg.of_below ((Below.refl _ Z).drew) _
    have hbd2 : Blk Z.drew R _ _ := zb.chg cd2 (fun h => h)
    have hvd2 : OwnP Z.drew 0 _ (S.1 ++ [(3, 0, S.2.1)]) := own_chg zhv cd2 (fun _ _ h => h)
    have hud2 : OwnB Z.drew _ S.2.1 := own_chg zhu cd2 (fun _ _ h => h)
    obtain ⟨v2, W2, hrun2, ho2, hcg2, hat2⟩ := push_part Z.drew _ (S.1 ++ [(3, 0, S.2.1)]) hvd2 (2, (S.2.2 : Int), []) (by first | omega | (simp; omega)) 22
    obtain ⟨hbW2, hWr2⟩ := Wr.parts (S := (S.1 ++ [(3, 0, S.2.1)], S.2)) (X := (wid X w Z)) hR hbd2 hud2 hvd2 z1 z2 ho2 hcg2 hat2
    obtain ⟨q2, N2, k2, rfl⟩ : ∃ q N c, v2 = .slice q N c := by obtain ⟨q, c, e, _⟩ := own_form ho2; exact ⟨_, _, _, e⟩
    have hru2 : (Builtin.append_ #[22, 22] 22 #[.slice pv nv cv, .slice (some ⟨Z.heap.size, 0, none⟩) 1 1]).run Try.prog (Z.alloc (.cells #[.int .i64 2, .int .i64 (S.2.2 : Int), .string ⟨#[]⟩] 46)).drew = .ok (.slice q2 N2 k2) W2 := hrun2
    have hba2 : Blk (Z.alloc (.cells #[.int .i64 2, .int .i64 (S.2.2 : Int), .string ⟨#[]⟩] 46)) R _ _ := zb.alloc _
    have a20 : ((Z.alloc (.cells #[.int .i64 2, .int .i64 (S.2.2 : Int), .string ⟨#[]⟩] 46))).cell? ⟨R, 0, none⟩ = some (.slice pv nv cv) := hba2.cell 0 _ rfl
    have a21 : ((Z.alloc (.cells #[.int .i64 2, .int .i64 (S.2.2 : Int), .string ⟨#[]⟩] 46))).cell? ⟨R, 1, none⟩ = some (.slice pu S.2.1.length cu) := hba2.cell 1 _ rfl
    have a22 : ((Z.alloc (.cells #[.int .i64 2, .int .i64 (S.2.2 : Int), .string ⟨#[]⟩] 46))).cell? ⟨R, 2, none⟩ = some (.int .i64 (S.2.2 : Int)) := hba2.cell 2 _ rfl
    have d20 : (Z.drew).cell? ⟨R, 0, none⟩ = some (.slice pv nv cv) := hbd2.cell 0 _ rfl
    have d21 : (Z.drew).cell? ⟨R, 1, none⟩ = some (.slice pu S.2.1.length cu) := hbd2.cell 1 _ rfl
    have d22 : (Z.drew).cell? ⟨R, 2, none⟩ = some (.int .i64 (S.2.2 : Int)) := hbd2.cell 2 _ rfl
    have e20 : (W2).cell? ⟨R, 0, none⟩ = some (.slice pv nv cv) := hbW2.cell 0 _ rfl
    have e21 : (W2).cell? ⟨R, 1, none⟩ = some (.slice pu S.2.1.length cu) := hbW2.cell 1 _ rfl
    have e22 : (W2).cell? ⟨R, 2, none⟩ = some (.int .i64 (S.2.2 : Int)) := hbW2.cell 2 _ rfl
    have g20 := hbW2.froz 0
    have HW2 := hide (WrTo.of_drew hWr2)
    clear cd2 hbd2 hvd2 hud2 hrun2 ho2 hcg2 hat2 hbW2 hba2 hWr2
    clear zb zhv zhu z1 z2 hR
    simp only [HN.out.1, HN.out.2.1] at c0 c1 c2 hru2 a20 a21 a22 d20 d21 d22 e20 e21 e22
    go_wp2_with fail
    go_region_law ((refine step_append_run (by rfl) _ _ _ _ (by rfl) _ _ (by rfl) (by rfl) _ _ hru2 ?_))
    all_goals
      generalize hY : (World.setCell W2 ⟨R, 0, none⟩ (.slice q2 N2 k2)) = Y at *
      obtain ⟨_, zv, zu, zb, _, zhu, _⟩ := HW2.out.1
      obtain ⟨pz, cz, rfl, _⟩ := own_form zhu
      have z1 := zb.cell 1 _ rfl
      clear zhu
      have x2 : Y.cell? ⟨R, 2, none⟩ = some (.int .i64 (C : Int)) := by rw [zb.cell 2 _ rfl]; show some (Value.int .i64 ((S.2.2 : Nat) : Int)) = _; rw [HN.out.2.1]
      have y1 := zb.froz 1
      have y2 := zb.froz 2
      clear zb
      go_wp2
      go_end0
      exact ⟨rfl, by rw [HST.out, ← HN.out.2.1]; exact WrTo.trans (WrTo.trans HW1.out HW2.out) (Wr.clear ((WrTo.trans HW1.out HW2.out).1))⟩
theorem settle_any (X : Nat → Prop) (R : Nat) (S : WS) (w : World) (h : Wr X R S w) (hl : S.1.length ≤ 100000) (hpl : S.2.1.length ≤ 1000000000) (hcl : S.2.2 ≤ 1000000000) :
    Calls Try.prog 30 #[.pointer (some ⟨R, 0, none⟩)] w fun e w' => e = .returned (.tuple #[]) ∧ WrTo X R (stl S, [], 0) w w' := by
  by_cases hp : S.2.1.length = 0
  · by_cases hc : S.2.2 = 0
    · exact settle00 X R S w h hp hc hl hpl hcl
    · exact settle01 X R S w h hp (by omega) hl hpl hcl
  · by_cases hc : S.2.2 = 0
    · exact settle10 X R S w h (by omega) hc hl hpl hcl
    · exact settle11 X R S w h (by omega) (by omega) hl hpl hcl
end Go.Proofs.Yteajpkoghlbneaa.spls
