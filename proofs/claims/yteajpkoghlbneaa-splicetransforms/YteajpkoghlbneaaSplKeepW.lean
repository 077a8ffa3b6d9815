/- The walks of package splice: keep, change, add. -/
import Derived.Test.YteajpkoghlbneaaSplSet2W
set_option linter.unusedVariables false
namespace Go.Proofs.Yteajpkoghlbneaa.spls
open Go.RowKit

/-- One cell of a row of one's own is another one. -/
theorem own_put {w : World} {base e d n g c i : Nat} {xs : List Value} (h : w.ownsRow base e d (.slice (some ⟨g, 0, none⟩) n c) n xs) (hi : i < n * d) (u : Value) : (w.setCell ⟨g, i, none⟩ u).ownsRow base e d (.slice (some ⟨g, 0, none⟩) n c) n (xs.set i u) := by
  rcases h with ⟨h1, h2⟩
  refine ⟨by rw [List.length_set]; exact h1, ?_⟩
  rcases h2 with ⟨hv, _⟩ | ⟨g', cap, cur, hv, hb, hg, r1, r2, r3, r4⟩
  · cases hv
  · have e1 : g' = g ∧ cap = c := by injection hv with a b c; injection a with a; injection a with a; exact ⟨a.symm, c.symm⟩
    obtain ⟨rfl, rfl⟩ := e1
    refine .inr ⟨g', cap, cur.setIfInBounds i u, rfl, hb, Blk.set (cs := cur) (t := e) hg i u, r1, r2, by simpa using r3, ?_⟩
    rw [Array.toList_setIfInBounds, List.take_set, r4]
theorem own_succ {W : World} {base e d k : Nat} {v : Value} {xs : List Value} (h : W.ownsRow base e d v (k + 1) xs) : ∃ g cap, v = .slice (some ⟨g, 0, none⟩) (k + 1) cap := by
  rcases h.2 with ⟨_, h0⟩ | ⟨g, cap, cur, hv, _⟩
  · omega
  · exact ⟨g, cap, hv⟩
theorem flat_last (D : List Pt) (m n : Int) : ((D ++ [(1, m, [])]).flatMap ptC).set (D.length * 3 + 1) (.int .i64 (m + n)) = (D ++ [(1, m + n, [])]).flatMap ptC := by
  rw [List.flatMap_append, List.flatMap_append, ← pt_len D]
  have e : ∀ (A B : List Value) (u : Value), (A ++ B).set (A.length + 1) u = A ++ B.set 1 u := fun A B u => by rw [List.set_append_right _ _ (by omega)]; congr 2; omega
  rw [e]
  rfl
theorem add_last (D : List Pt) (m : Int) (n : Nat) : addK (D ++ [(1, m, [])]) n = D ++ [(1, m + (n : Int), [])] := by
  unfold addK
  rw [if_pos (by simp [lastK])]
  simp [lastN]
theorem add_other {L : List Pt} (h : lastK L = false) (n : Nat) : addK L n = L ++ [(1, (n : Int), [])] := by
  unfold addK
  rw [if_neg (by rw [h]; decide)]
/-- The last part of a row. -/
theorem last_of {L : List Pt} (h : okL L) : (L = [] ∧ lastK L = false) ∨ (∃ D m, L = D ++ [(1, m, [])] ∧ 0 < m) ∨ (∃ D x, L = D ++ [x] ∧ x.1 ≠ 1 ∧ lastK L = false) := by
  by_cases h0 : L = []
  · subst h0; exact .inl ⟨rfl, rfl⟩
  · have hne := List.dropLast_concat_getLast h0
    by_cases hk : lastK L = true
    · obtain ⟨m, hm, e, _⟩ := last_parts h hk
      exact .inr (.inl ⟨_, m, e, hm⟩)
    · have hk : lastK L = false := by simpa using hk
      refine .inr (.inr ⟨L.dropLast, L.getLast h0, hne.symm, fun e => ?_, hk⟩)
      unfold lastK at hk
      rw [List.getLast?_eq_some_getLast h0] at hk
      simp [e] at hk
set_option maxHeartbeats 4000000 in
set_option maxRecDepth 100000 in
theorem wkeep_zero (X : Nat → Prop) (R : Nat) (S : WS) (w : World) (h : Wr X R S w) :
    Calls Try.prog 21 #[.pointer (some ⟨R, 0, none⟩), .int .i64 0] w fun e w' => e = .returned (.tuple #[]) ∧ WrTo X R (wK 0 S) w w' := by
  have H := hide (WrTo.refl h)
  clear h
  go_enter Try.func21, Try.ntmps21
  go_wp2
  (try simp only [Exit.inBlock, Exit.then])
  refine bodyPost_ret (results_none rfl _ _ _) rfl ?_
  exact ⟨rfl, H.out⟩
set_option maxHeartbeats 8000000 in
set_option maxRecDepth 100000 in
theorem wkeep_pos (X : Nat → Prop) (R : Nat) (S : WS) (w : World) (n : Nat) (h : Wr X R S w) (hS : okL S.1) (hn : 0 < n) (hn2 : n ≤ 1000000000) (hl : S.1.length ≤ 100000) (hpl : S.2.1.length ≤ 1000000000) (hcl : S.2.2 ≤ 1000000000) (hN : ∀ x ∈ S.1, x.2.1 ≤ 1000000000) :
    Calls Try.prog 21 #[.pointer (some ⟨R, 0, none⟩), .int .i64 (n : Int)] w fun e w' => e = .returned (.tuple #[]) ∧ WrTo X R (wK n S) w w' := by
  have KS := hide (settle_any X R S w h hl hpl hcl)
  have HE : Hid (wK n S = (addK (stl S) n, [], 0)) := hide (by unfold wK; rw [if_neg (by omega)])
  have hok := okL_stl hS
  have hbig : ∀ x ∈ stl S, x.2.1 ≤ 1000000000 := fun x hx => by
    unfold stl at hx
    rcases List.mem_append.1 hx with hx | hx
    · exact hN x hx
    · rcases List.mem_append.1 hx with hx | hx
      · unfold putP at hx
        split at hx
        · exact absurd hx List.not_mem_nil
        · rw [List.mem_singleton.1 hx]; show (0 : Int) ≤ _; decide
      · unfold cutP at hx
        split at hx
        · exact absurd hx List.not_mem_nil
        · rw [List.mem_singleton.1 hx]; show (S.2.2 : Int) ≤ _; omega
  have hlen : (stl S).length ≤ 100002 := by
    have := wlen_eq S
    have a := nP_le S.2.1
    have b := nC_le S.2.2
    show wlen S ≤ _
    omega
  have hz : ((n : Int) == 0) = false := beq_false_of_ne (by omega)
  generalize stl S = L at *
  clear h hl hpl hcl hN hS
  rcases last_of hok with ⟨rfl, hk⟩ | ⟨D, m, rfl, hm⟩ | ⟨D, x, rfl, hx, hk⟩
  · rw [add_other hk] at HE
    go_enter Try.func21, Try.ntmps21
    go_wp2_with fail
    refine (unhide KS).mono ?_
    rintro e W ⟨rfl, hW⟩
    have HW := hide hW
    obtain ⟨⟨hR, v, u, hb, hv, hu, h1, h2⟩, hcg⟩ := hW
    obtain ⟨pv, cv, rfl, hcv, hcm⟩ := own_form hv
    obtain ⟨v', W', hrun, ho, hc, hat⟩ := push_part W _ [] hv (1, (n : Int), []) (by simp) 22
    obtain ⟨hbW, hWr⟩ := Wr.parts (S := ([], [], 0)) (X := wid X w W) hR hb hu hv h1 h2 ho hc hat
    obtain ⟨q', N', c', rfl⟩ : ∃ q N c, v' = .slice q N c := by obtain ⟨q, c, e, _⟩ := own_form ho; exact ⟨_, _, _, e⟩
    have hrun2 : (Builtin.append_ #[22, 22] 22 #[.slice pv 0 cv, .slice (some ⟨W.heap.size, 0, none⟩) 1 1]).run Try.prog (W.alloc (.cells #[.int .i64 1, .int .i64 (n : Int), .string ⟨#[]⟩] 46)) = .ok (.slice q' N' c') W' := hrun
    have c0 : W.cell? ⟨R, 0, none⟩ = some (.slice pv 0 cv) := hb.cell 0 _ rfl
    have d0 := (hb.alloc (.cells #[.int .i64 1, .int .i64 (n : Int), .string ⟨#[]⟩] 46)).cell 0 _ rfl
    have e0 := hbW.cell 0 _ rfl
    have g0 := hbW.froz 0
    have HR := hide hWr
    clear hR hb hv hu h1 h2 hcg ho hc hat hbW hWr hrun KS
    go_wp2_with (at_builtin; refine Lib.wpList_append_run _ rfl _ _ _ _ rfl _ _ rfl rfl _ _ hrun2 ?_)
    go_end0
    exact ⟨rfl, by rw [HE.out]; exact WrTo.trans HW.out HR.out⟩
  · rw [add_last] at HE
    have hm2 : m ≤ 1000000000 := hbig (1, m, []) (by simp)
    have hD : D.length ≤ 100002 := by simp at hlen; omega
    clear hok hbig hlen
    go_enter Try.func21, Try.ntmps21
    go_wp2_with fail
    refine (unhide KS).mono ?_
    rintro e W ⟨rfl, hW⟩
    have HW := hide hW
    obtain ⟨⟨hR, v, u, hb, hv, hu, h1, h2⟩, hcg⟩ := hW
    have hlL : (D ++ [((1 : Int), m, ([] : List UInt8))]).length = D.length + 1 := by simp
    have hv' : W.ownsRow 0 46 3 v (D.length + 1) ((D ++ [((1 : Int), m, ([] : List UInt8))]).flatMap ptC) := by rw [← hlL]; exact hv
    obtain ⟨g, cv, rfl⟩ := own_succ hv'
    have hcell := fun i (hi : i < (D.length + 1) * 3) => hv'.cellAt i hi
    have hge := pt_get (D ++ [((1 : Int), m, ([] : List UInt8))]) D.length (by simp)
    have y0 : W.cell? ⟨g, D.length * 3, none⟩ = some (.int .i64 1) := by rw [hcell _ (by omega), hge.1]; simp
    have y1 : W.cell? ⟨g, D.length * 3 + 1, none⟩ = some (.int .i64 m) := by rw [hcell _ (by omega), hge.2.1]; simp
    have y2 : W.frozen? ⟨g, D.length * 3 + 1, none⟩ = false := by
      rcases hv'.2 with ⟨hv0, _⟩ | ⟨g', cap, cur, hv0, _, hg', _⟩
      · cases hv0
      · have : g' = g := by injection hv0 with a; injection a with a; injection a with a; exact a.symm
        subst this
        exact Blk.froz (cs := cur) (t := 46) hg' _
    have c0 : W.cell? ⟨R, 0, none⟩ = some (.slice (some ⟨g, 0, none⟩) (D.length + 1) cv) := hb.cell 0 _ rfl
    have HF : Hid (WrTo (wid X w W) R (D ++ [(1, m + (n : Int), [])], [], 0) W (W.setCell ⟨g, D.length * 3 + 1, none⟩ (.int .i64 (m + (n : Int))))) := hide (by
      have hgR := h1 g rfl
      have hcc : Chg (fun b => b = g) W (W.setCell ⟨g, D.length * 3 + 1, none⟩ (.int .i64 (m + (n : Int)))) := (Chg.refl (fun b => b = g) W).set (B := g) (.inl rfl) _ _
      have hO := own_put hv' (i := D.length * 3 + 1) (by omega) (.int .i64 (m + (n : Int)))
      rw [flat_last] at hO
      have ap := own_apart hv hu (by decide) g rfl
      refine ⟨⟨.inl hR, _, u, hb.chg hcc (fun e => hgR.2 e.symm), ?_, own_chg hu hcc (fun g' hg' e => ap (by rw [← e]; exact hg')), fun g' hg' => ⟨.inl (h1 g' hg').1, (h1 g' hg').2⟩, fun g' hg' => ⟨.inl (h2 g' hg').1, (h2 g' hg').2⟩⟩, hcc.mono (fun q _ e => by rw [e]; exact hgR.1)⟩
      show World.ownsRow _ 0 _ 3 _ (D ++ [((1 : Int), m + (n : Int), ([] : List UInt8))]).length _
      rw [show (D ++ [((1 : Int), m + (n : Int), ([] : List UInt8))]).length = D.length + 1 from by simp]
      exact hO)
    clear hR hb hv hu h1 h2 hcg hv' hcell hge KS hlL
    generalize D.length = k at *
    go_wp2
    (try simp only [Exit.inBlock, Exit.then])
    refine bodyPost_ret (results_none rfl _ _ _) rfl ?_
    exact ⟨rfl, by rw [HE.out]; exact WrTo.trans HW.out HF.out⟩
  · rw [add_other hk] at HE
    have hD : D.length ≤ 100002 := by simp at hlen; omega
    have hx1 : (x.1 == 1) = false := beq_false_of_ne hx
    clear hok hbig hlen
    go_enter Try.func21, Try.ntmps21
    go_wp2_with fail
    refine (unhide KS).mono ?_
    rintro e W ⟨rfl, hW⟩
    have HW := hide hW
    obtain ⟨⟨hR, v, u, hb, hv, hu, h1, h2⟩, hcg⟩ := hW
    have hlL : (D ++ [x]).length = D.length + 1 := by simp
    have hv' : W.ownsRow 0 46 3 v (D.length + 1) ((D ++ [x]).flatMap ptC) := by rw [← hlL]; exact hv
    obtain ⟨g, cv, rfl⟩ := own_succ hv'
    have hge := pt_get (D ++ [x]) D.length (by simp)
    have y0 : W.cell? ⟨g, D.length * 3, none⟩ = some (.int .i64 x.1) := by rw [hv'.cellAt _ (by omega), hge.1]; simp
    obtain ⟨v', W', hrun, ho, hc, hat⟩ := push_part W _ (D ++ [x]) hv (1, (n : Int), []) (by rw [hlL]; omega) 22
    obtain ⟨hbW, hWr⟩ := Wr.parts (S := (D ++ [x], [], 0)) (X := wid X w W) hR hb hu hv h1 h2 ho hc hat
    obtain ⟨q', N', c', rfl⟩ : ∃ q N c, v' = .slice q N c := by obtain ⟨q, c, e, _⟩ := own_form ho; exact ⟨_, _, _, e⟩
    have hrun2 : (Builtin.append_ #[22, 22] 22 #[.slice (some ⟨g, 0, none⟩) (D.length + 1) cv, .slice (some ⟨W.heap.size, 0, none⟩) 1 1]).run Try.prog (W.alloc (.cells #[.int .i64 1, .int .i64 (n : Int), .string ⟨#[]⟩] 46)) = .ok (.slice q' N' c') W' := hrun
    have c0 : W.cell? ⟨R, 0, none⟩ = some (.slice (some ⟨g, 0, none⟩) (D.length + 1) cv) := hb.cell 0 _ rfl
    have d0 : (W.alloc (.cells #[.int .i64 1, .int .i64 (n : Int), .string ⟨#[]⟩] 46)).cell? ⟨R, 0, none⟩ = some (.slice (some ⟨g, 0, none⟩) (D.length + 1) cv) := (hb.alloc (.cells #[.int .i64 1, .int .i64 (n : Int), .string ⟨#[]⟩] 46)).cell 0 _ rfl
    have e0 : W'.cell? ⟨R, 0, none⟩ = some (.slice (some ⟨g, 0, none⟩) (D.length + 1) cv) := hbW.cell 0 _ rfl
    have g0 := hbW.froz 0
    have HR := hide hWr
    clear hR hb hv hu h1 h2 hcg ho hc hat hbW hWr hrun hv' hge KS hlL
    generalize D.length = k at *
    generalize x.1 = xk at *
    go_wp2_with (at_builtin; refine Lib.wpList_append_run _ rfl _ _ _ _ rfl _ _ rfl rfl _ _ hrun2 ?_)
    go_end0
    exact ⟨rfl, by rw [HE.out]; exact WrTo.trans HW.out HR.out⟩
theorem wkeep_any (X : Nat → Prop) (R : Nat) (S : WS) (w : World) (n : Nat) (h : Wr X R S w) (hS : okL S.1) (hn2 : n ≤ 1000000000) (hl : S.1.length ≤ 100000) (hpl : S.2.1.length ≤ 1000000000) (hcl : S.2.2 ≤ 1000000000) (hN : ∀ x ∈ S.1, x.2.1 ≤ 1000000000) :
    Calls Try.prog 21 #[.pointer (some ⟨R, 0, none⟩), .int .i64 (n : Int)] w fun e w' => e = .returned (.tuple #[]) ∧ WrTo X R (wK n S) w w' := by
  by_cases h0 : n = 0
  · subst h0
    exact wkeep_zero X R S w h
  · exact wkeep_pos X R S w n h hS (by omega) hn2 hl hpl hcl hN
set_option maxHeartbeats 4000000 in
set_option maxRecDepth 100000 in
theorem wchange_any (X : Nat → Prop) (R : Nat) (S : WS) (w : World) (h : Wr X R S w) (hl : S.1.length ≤ 100000) (hpl : S.2.1.length ≤ 1000000000) (hcl : S.2.2 ≤ 1000000000) :
    Calls Try.prog 25 #[.pointer (some ⟨R, 0, none⟩)] w fun e w' => ∃ v, e = .returned v ∧ OwnP w' 0 v (stl S) ∧ (∀ g, v.ownBlock = some g → wid X w w' g) ∧ Chg X w w' := by
  have KS := hide (settle_any X R S w h hl hpl hcl)
  clear h
  go_enter Try.func25, Try.ntmps25
  go_wp2_with fail
  refine (unhide KS).mono ?_
  rintro e W ⟨rfl, hW⟩
  obtain ⟨⟨hR, v, u, hb, hv, hu, h1, h2⟩, hcg⟩ := hW
  have HV : Hid (OwnP W 0 v (stl S) ∧ (∀ g, v.ownBlock = some g → wid X w W g) ∧ Chg X w W) := hide ⟨hv, fun g hg => (h1 g hg).1, hcg⟩
  obtain ⟨pv, nv, cv, rfl⟩ : ∃ q N c, v = .slice q N c := by obtain ⟨q, c, e, _⟩ := own_form hv; exact ⟨_, _, _, e⟩
  have c0 : W.cell? ⟨R, 0, none⟩ = some (.slice pv nv cv) := hb.cell 0 _ rfl
  clear hR hb hv hu h1 h2 hcg KS
  go_wp2
  go_ret
  exact ⟨_, rfl, HV.out⟩
end Go.Proofs.Yteajpkoghlbneaa.spls
