/- The walks of package splice: settle. -/
import Derived.Test.YteajpkoghlbneaaSplSetW
import Derived.Deep.DrawnRows
import Derived.Deep.RegionLaw
set_option linter.unusedVariables false
namespace Go.Proofs.Yteajpkoghlbneaa.spls
open Go.RowKit
attribute [local go_sem ↓] Go.wp_at_zero Go.wp_at_succ
theorem step_append_run {P : Program} {w : World} {ops : Array Oper} {o : Oper} {a : Act} {K : Act → World → Prop} {Q : Exit → Act → World → Prop} {E : Prop} (hgd : o.guard = none) (s x : Operand) (t tn : TypeId)
    (ho : o.op = .call { callee := .builtin .append, args := #[s, x], argTypes := #[t, tn] }) (vs vx : Value) (hs : a.eval s = vs) (hx : a.eval x = vx)
    (v' : Value) (w' : World) (hr : (Builtin.append_ #[t, tn] o.type #[vs, vx]).run P w = .ok v' w') (h : K (a.put o.dst v') w') : if Region.wanted o (yielded ops a.tmps) = true then Oper.wp P o a w K Q else E := by
  have hw : Region.wanted o (yielded ops a.tmps) = true := by simp [Region.wanted, hgd]
  rw [if_pos hw]
  exact Lib.wp_append_run w s x t tn ho vs vx hs hx v' w' hr h
/-- What is held back is forgotten. -/
theorem Wr.clear {X : Nat → Prop} {R : Nat} {S : WS} {w : World} (h : Wr X R S w) : WrTo X R (S.1, [], 0) w ((w.setCell ⟨R, 1, none⟩ (.slice none 0 0)).setCell ⟨R, 2, none⟩ (.int .i64 0)) := by
  obtain ⟨hR, v, u, hb, hv, hu, h1, h2⟩ := h
  have hc' : Chg (fun b => b = R) w ((w.setCell ⟨R, 1, none⟩ (.slice none 0 0)).setCell ⟨R, 2, none⟩ (.int .i64 0)) := ((Chg.refl (fun b => b = R) w).set (B := R) (.inl rfl) 1 _).set (B := R) (.inl rfl) 2 _
  exact ⟨⟨.inl hR, v, _, (hb.set 1 _).set 2 _, own_chg hv hc' (fun g hg => (h1 g hg).2), World.ownsRow_nil _ _ _ _, fun g hg => ⟨.inl (h1 g hg).1, (h1 g hg).2⟩, fun g hg => (by cases hg)⟩, hc'.mono (fun q _ e => by rw [e]; exact hR)⟩
theorem Wr.drew {X : Nat → Prop} {R : Nat} {S : WS} {w : World} (h : Wr X R S w) : Wr X R S w.drew := h.chg (Y := fun _ => False) (Chg.of_below ((Below.refl _ w).drew) _) (fun _ _ _ h => h)
theorem WrTo.of_drew {X : Nat → Prop} {R : Nat} {S : WS} {w w' : World} (h : WrTo X R S w.drew w') : WrTo X R S w w' := ⟨h.1, h.2.os, h.2.tape, h.2.output, h.2.size, h.2.block⟩
set_option maxHeartbeats 16000000 in
set_option maxRecDepth 100000 in
theorem settle00 (X : Nat → Prop) (R : Nat) (S : WS) (w : World) (h : Wr X R S w) (hp : S.2.1.length = 0) (hc : S.2.2 = 0) (hl : S.1.length ≤ 100000) (hpl : S.2.1.length ≤ 1000000000) (hcl : S.2.2 ≤ 1000000000) :
    Calls Try.prog 30 #[.pointer (some ⟨R, 0, none⟩)] w fun e w' => e = .returned (.tuple #[]) ∧ WrTo X R (stl S, [], 0) w w' := by
  have hp' : S.2.1 = [] := List.eq_nil_of_length_eq_zero hp
  have HST : Hid (stl S = S.1) := hide (by unfold stl putP cutP; rw [if_pos hp', if_pos hc]; simp)
  clear hp'
  obtain ⟨hR, v, u, hb, hv, hu, h1, h2⟩ := h
  obtain ⟨pu, cu, rfl, hcu, hcm⟩ := own_form hu
  obtain ⟨pv, nv, cv, rfl⟩ : ∃ q N c, v = .slice q N c := by obtain ⟨q, c, e, _⟩ := own_form hv; exact ⟨_, _, _, e⟩
  have c0 : (w).cell? ⟨R, 0, none⟩ = some (.slice pv nv cv) := hb.cell 0 _ rfl
  have c1 : (w).cell? ⟨R, 1, none⟩ = some (.slice pu S.2.1.length cu) := hb.cell 1 _ rfl
  have c2 : (w).cell? ⟨R, 2, none⟩ = some (.int .i64 (S.2.2 : Int)) := hb.cell 2 _ rfl
  have f1 := hb.froz 1
  have f2 := hb.froz 2
  have HW0 := hide (show WrTo X R S w w from WrTo.refl ⟨hR, _, _, hb, hv, hu, h1, h2⟩)
  clear hb hv hu h1 h2 hR
  generalize hN : S.2.1.length = N at *
  generalize hC : S.2.2 = C at *
  generalize hU : (⟨S.2.1.toArray⟩ : ByteArray) = U at *
  have i1 : ¬ (0 : Int) < (N : Int) := by omega
  have HN := hide (And.intro hN (And.intro hC hU))
  clear hN hC hU
  have HP := hide hp
  clear hp
  have HC := hide hc
  subst hc
  go_enter Try.func30, Try.ntmps30
  go_wp2
  go_end0
  exact ⟨rfl, by rw [HST.out]; exact WrTo.trans HW0.out (Wr.clear (HW0.out.1))⟩
set_option maxHeartbeats 16000000 in
set_option maxRecDepth 100000 in
theorem settle10 (X : Nat → Prop) (R : Nat) (S : WS) (w : World) (h : Wr X R S w) (hp : 0 < S.2.1.length) (hc : S.2.2 = 0) (hl : S.1.length ≤ 100000) (hpl : S.2.1.length ≤ 1000000000) (hcl : S.2.2 ≤ 1000000000) :
    Calls Try.prog 30 #[.pointer (some ⟨R, 0, none⟩)] w fun e w' => e = .returned (.tuple #[]) ∧ WrTo X R (stl S, [], 0) w w' := by
  have hp' : S.2.1 ≠ [] := List.length_pos_iff.1 hp
  have HST : Hid (stl S = S.1 ++ [(3, 0, S.2.1)]) := hide (by unfold stl putP cutP; rw [if_neg hp', if_pos hc]; simp)
  clear hp'
  obtain ⟨hR, v, u, hb, hv, hu, h1, h2⟩ := h
  obtain ⟨pu, cu, rfl, hcu, hcm⟩ := own_form hu
  obtain ⟨pv, nv, cv, rfl⟩ : ∃ q N c, v = .slice q N c := by obtain ⟨q, c, e, _⟩ := own_form hv; exact ⟨_, _, _, e⟩
  have c0 : (w).cell? ⟨R, 0, none⟩ = some (.slice pv nv cv) := hb.cell 0 _ rfl
  have c1 : (w).cell? ⟨R, 1, none⟩ = some (.slice pu S.2.1.length cu) := hb.cell 1 _ rfl
  have c2 : (w).cell? ⟨R, 2, none⟩ = some (.int .i64 (S.2.2 : Int)) := hb.cell 2 _ rfl
  have f1 := hb.froz 1
  have f2 := hb.froz 2
  have cd1 : Chg (fun _ => False) w w.drew := Chg.of_below ((Below.refl _ w).drew) _
  have hbd1 : Blk w.drew R _ _ := hb.chg cd1 (fun h => h)
  have hvd1 : OwnP w.drew 0 _ (S.1) := own_chg hv cd1 (fun _ _ h => h)
  have hud1 : OwnB w.drew _ S.2.1 := own_chg hu cd1 (fun _ _ h => h)
  obtain ⟨v1, W1, hrun1, ho1, hcg1, hat1⟩ := push_part w.drew _ (S.1) hvd1 (3, 0, S.2.1) (by first | omega | (simp; omega)) 22
  obtain ⟨hbW1, hWr1⟩ := Wr.parts (S := (S.1, S.2)) (X := X) hR hbd1 hud1 hvd1 h1 h2 ho1 hcg1 hat1
  obtain ⟨q1, N1, k1, rfl⟩ : ∃ q N c, v1 = .slice q N c := by obtain ⟨q, c, e, _⟩ := own_form ho1; exact ⟨_, _, _, e⟩
  have hru1 : (Builtin.append_ #[22, 22] 22 #[.slice pv nv cv, .slice (some ⟨w.heap.size, 0, none⟩) 1 1]).run Try.prog (w.alloc (.cells #[.int .i64 3, .int .i64 0, .string ⟨S.2.1.toArray⟩] 46)).drew = .ok (.slice q1 N1 k1) W1 := hrun1
  have ba1 : Below w.drew.heap.size w.drew (w.drew.alloc (.cells #[.int .i64 3, .int .i64 0, .string ⟨S.2.1.toArray⟩] 46)) := (Below.refl _ w.drew).alloc (Nat.le_refl _) _
  have cv1 := conv_own w.drew _ _ hud1
  have cw1 : (convert 51 9 (.slice pu S.2.1.length cu)).run Try.prog (w.alloc (.cells #[.int .i64 3, .int .i64 0, .string ⟨S.2.1.toArray⟩] 46)).drew = .ok (.string ⟨S.2.1.toArray⟩) (w.alloc (.cells #[.int .i64 3, .int .i64 0, .string ⟨S.2.1.toArray⟩] 46)).drew := conv_own (w.drew.alloc (.cells #[.int .i64 3, .int .i64 0, .string ⟨S.2.1.toArray⟩] 46)) _ _ (own_chg hud1 (Chg.of_below ba1 (fun _ => False)) (fun _ _ h => h))
  clear ba1
  have hba1 : Blk (w.alloc (.cells #[.int .i64 3, .int .i64 0, .string ⟨S.2.1.toArray⟩] 46)) R _ _ := hb.alloc _
  have a10 : ((w.alloc (.cells #[.int .i64 3, .int .i64 0, .string ⟨S.2.1.toArray⟩] 46))).cell? ⟨R, 0, none⟩ = some (.slice pv nv cv) := hba1.cell 0 _ rfl
  have a11 : ((w.alloc (.cells #[.int .i64 3, .int .i64 0, .string ⟨S.2.1.toArray⟩] 46))).cell? ⟨R, 1, none⟩ = some (.slice pu S.2.1.length cu) := hba1.cell 1 _ rfl
  have a12 : ((w.alloc (.cells #[.int .i64 3, .int .i64 0, .string ⟨S.2.1.toArray⟩] 46))).cell? ⟨R, 2, none⟩ = some (.int .i64 (S.2.2 : Int)) := hba1.cell 2 _ rfl
  have d10 : (w.drew).cell? ⟨R, 0, none⟩ = some (.slice pv nv cv) := hbd1.cell 0 _ rfl
  have d11 : (w.drew).cell? ⟨R, 1, none⟩ = some (.slice pu S.2.1.length cu) := hbd1.cell 1 _ rfl
  have d12 : (w.drew).cell? ⟨R, 2, none⟩ = some (.int .i64 (S.2.2 : Int)) := hbd1.cell 2 _ rfl
  have e10 : (W1).cell? ⟨R, 0, none⟩ = some (.slice pv nv cv) := hbW1.cell 0 _ rfl
  have e11 : (W1).cell? ⟨R, 1, none⟩ = some (.slice pu S.2.1.length cu) := hbW1.cell 1 _ rfl
  have e12 : (W1).cell? ⟨R, 2, none⟩ = some (.int .i64 (S.2.2 : Int)) := hbW1.cell 2 _ rfl
  have g10 := hbW1.froz 0
  have HW1 := hide (WrTo.of_drew hWr1)
  clear cd1 hbd1 hvd1 hud1 hrun1 ho1 hcg1 hat1 hbW1 hba1 hWr1
  clear hb hv hu h1 h2 hR
  generalize hN : S.2.1.length = N at *
  generalize hC : S.2.2 = C at *
  generalize hU : (⟨S.2.1.toArray⟩ : ByteArray) = U at *
  have i1 : (0 : Int) < (N : Int) := by omega
  have HN := hide (And.intro hN (And.intro hC hU))
  clear hN hC hU
  have HC := hide hc
  subst hc
  go_enter Try.func30, Try.ntmps30
  go_wp2_with fail
  go_region_law ((refine step_append_run (by rfl) _ _ _ _ (by rfl) _ _ (by rfl) (by rfl) _ _ hru1 ?_))
  all_goals
    generalize hZ : (World.setCell W1 ⟨R, 0, none⟩ (.slice q1 N1 k1)) = Z at *
    obtain ⟨_, zv, zu, zb, _, zhu, _⟩ := HW1.out.1
    obtain ⟨pz, cz, rfl, _⟩ := own_form zhu
    have z1 := zb.cell 1 _ rfl
    clear zhu
    have z2 : Z.cell? ⟨R, 2, none⟩ = some (.int .i64 (0 : Int)) := by rw [zb.cell 2 _ rfl]; show some (Value.int .i64 ((S.2.2 : Nat) : Int)) = _; rw [HN.out.2.1]; rfl
    have y1 := zb.froz 1
    have y2 := zb.froz 2
    clear zb
    go_wp2
    go_end0
    exact ⟨rfl, by rw [HST.out]; exact WrTo.trans HW1.out (Wr.clear (HW1.out.1))⟩
set_option maxHeartbeats 16000000 in
set_option maxRecDepth 100000 in
theorem settle01 (X : Nat → Prop) (R : Nat) (S : WS) (w : World) (h : Wr X R S w) (hp : S.2.1.length = 0) (hc : 0 < S.2.2) (hl : S.1.length ≤ 100000) (hpl : S.2.1.length ≤ 1000000000) (hcl : S.2.2 ≤ 1000000000) :
    Calls Try.prog 30 #[.pointer (some ⟨R, 0, none⟩)] w fun e w' => e = .returned (.tuple #[]) ∧ WrTo X R (stl S, [], 0) w w' := by
  have hp' : S.2.1 = [] := List.eq_nil_of_length_eq_zero hp
  have hc' : S.2.2 ≠ 0 := by omega
  have HST : Hid (stl S = S.1 ++ [(2, (S.2.2 : Int), [])]) := hide (by unfold stl putP cutP; rw [if_pos hp', if_neg hc']; simp)
  clear hp' hc'
  obtain ⟨hR, v, u, hb, hv, hu, h1, h2⟩ := h
  obtain ⟨pu, cu, rfl, hcu, hcm⟩ := own_form hu
  obtain ⟨pv, nv, cv, rfl⟩ : ∃ q N c, v = .slice q N c := by obtain ⟨q, c, e, _⟩ := own_form hv; exact ⟨_, _, _, e⟩
  have c0 : (w).cell? ⟨R, 0, none⟩ = some (.slice pv nv cv) := hb.cell 0 _ rfl
  have c1 : (w).cell? ⟨R, 1, none⟩ = some (.slice pu S.2.1.length cu) := hb.cell 1 _ rfl
  have c2 : (w).cell? ⟨R, 2, none⟩ = some (.int .i64 (S.2.2 : Int)) := hb.cell 2 _ rfl
  have f1 := hb.froz 1
  have f2 := hb.froz 2
  have cd2 : Chg (fun _ => False) w w.drew := Chg.of_below ((Below.refl _ w).drew) _
  have hbd2 : Blk w.drew R _ _ := hb.chg cd2 (fun h => h)
  have hvd2 : OwnP w.drew 0 _ (S.1) := own_chg hv cd2 (fun _ _ h => h)
  have hud2 : OwnB w.drew _ S.2.1 := own_chg hu cd2 (fun _ _ h => h)
  obtain ⟨v2, W2, hrun2, ho2, hcg2, hat2⟩ := push_part w.drew _ (S.1) hvd2 (2, (S.2.2 : Int), []) (by first | omega | (simp; omega)) 22
  obtain ⟨hbW2, hWr2⟩ := Wr.parts (S := (S.1, S.2)) (X := X) hR hbd2 hud2 hvd2 h1 h2 ho2 hcg2 hat2
  obtain ⟨q2, N2, k2, rfl⟩ : ∃ q N c, v2 = .slice q N c := by obtain ⟨q, c, e, _⟩ := own_form ho2; exact ⟨_, _, _, e⟩
  have hru2 : (Builtin.append_ #[22, 22] 22 #[.slice pv nv cv, .slice (some ⟨w.heap.size, 0, none⟩) 1 1]).run Try.prog (w.alloc (.cells #[.int .i64 2, .int .i64 (S.2.2 : Int), .string ⟨#[]⟩] 46)).drew = .ok (.slice q2 N2 k2) W2 := hrun2
  have hba2 : Blk (w.alloc (.cells #[.int .i64 2, .int .i64 (S.2.2 : Int), .string ⟨#[]⟩] 46)) R _ _ := hb.alloc _
  have a20 : ((w.alloc (.cells #[.int .i64 2, .int .i64 (S.2.2 : Int), .string ⟨#[]⟩] 46))).cell? ⟨R, 0, none⟩ = some (.slice pv nv cv) := hba2.cell 0 _ rfl
  have a21 : ((w.alloc (.cells #[.int .i64 2, .int .i64 (S.2.2 : Int), .string ⟨#[]⟩] 46))).cell? ⟨R, 1, none⟩ = some (.slice pu S.2.1.length cu) := hba2.cell 1 _ rfl
  have a22 : ((w.alloc (.cells #[.int .i64 2, .int .i64 (S.2.2 : Int), .string ⟨#[]⟩] 46))).cell? ⟨R, 2, none⟩ = some (.int .i64 (S.2.2 : Int)) := hba2.cell 2 _ rfl
  have d20 : (w.drew).cell? ⟨R, 0, none⟩ = some (.slice pv nv cv) := hbd2.cell 0 _ rfl
  have d21 : (w.drew).cell? ⟨R, 1, none⟩ = some (.slice pu S.2.1.length cu) := hbd2.cell 1 _ rfl
  have d22 : (w.drew).cell? ⟨R, 2, none⟩ = some (.int .i64 (S.2.2 : Int)) := hbd2.cell 2 _ rfl
  have e20 : (W2).cell? ⟨R, 0, none⟩ = some (.slice pv nv cv) := hbW2.cell 0 _ rfl
  have e21 : (W2).cell? ⟨R, 1, none⟩ = some (.slice pu S.2.1.length cu) := hbW2.cell 1 _ rfl
  have e22 : (W2).cell? ⟨R, 2, none⟩ = some (.int .i64 (S.2.2 : Int)) := hbW2.cell 2 _ rfl
  have g20 := hbW2.froz 0
  have HW2 := hide (WrTo.of_drew hWr2)
  clear cd2 hbd2 hvd2 hud2 hrun2 ho2 hcg2 hat2 hbW2 hba2 hWr2
  clear hb hv hu h1 h2 hR
  generalize hN : S.2.1.length = N at *
  generalize hC : S.2.2 = C at *
  generalize hU : (⟨S.2.1.toArray⟩ : ByteArray) = U at *
  have i1 : ¬ (0 : Int) < (N : Int) := by omega
  have HN := hide (And.intro hN (And.intro hC hU))
  clear hN hC hU
  have HP := hide hp
  clear hp
  go_enter Try.func30, Try.ntmps30
  go_wp2_with fail
  go_region_law ((refine step_append_run (by rfl) _ _ _ _ (by rfl) _ _ (by rfl) (by rfl) _ _ hru2 ?_))
  all_goals
    generalize hZ : (World.setCell W2 ⟨R, 0, none⟩ (.slice q2 N2 k2)) = Z at *
    obtain ⟨_, zv, zu, zb, _, zhu, _⟩ := HW2.out.1
    obtain ⟨pz, cz, rfl, _⟩ := own_form zhu
    have z1 := zb.cell 1 _ rfl
    clear zhu
    have z2 : Z.cell? ⟨R, 2, none⟩ = some (.int .i64 (C : Int)) := by rw [zb.cell 2 _ rfl]; show some (Value.int .i64 ((S.2.2 : Nat) : Int)) = _; rw [HN.out.2.1]
    have y1 := zb.froz 1
    have y2 := zb.froz 2
    clear zb
    go_wp2
    go_end0
    exact ⟨rfl, by rw [HST.out]; exact WrTo.trans HW2.out (Wr.clear (HW2.out.1))⟩
end Go.Proofs.Yteajpkoghlbneaa.spls
