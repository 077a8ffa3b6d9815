/- A region that draws its order, by what holds of every state on the way. -/
import Derived.Test.YtobbbhmkcmbekaaDoorFloatClos
set_option linter.unusedVariables false
namespace Go.Proofs.YtobbbhmkcmbekaaDoor.bigs
open Go.RowKit

section
variable {P : Program} {ops : Array Oper} {md : Region.Mode} {Q : Exit → Act → World → Prop} {I : Array Bool → Act → World → Prop}

theorem count_set {l : List Bool} {i : Nat} (h : l[i]? = some false) : (l.set i true).count false + 1 = l.count false := by
  induction l generalizing i with
  | nil => cases h
  | cons b r ih =>
    cases i with
    | zero =>
      have e : b = false := by simpa using h
      subst e
      simp
    | succ i =>
      have := ih (i := i) (by simpa using h)
      rw [List.set_cons_succ, List.count_cons, List.count_cons]
      omega
theorem wpAny_by (step : ∀ s a w, s.size = ops.size → I s a w → ∀ i ∈ Region.ready md ops s, wpOp P ops Q i (fun a' w' => I (s.setIfInBounds i true) a' w') a w)
    (fin : ∀ s a w, s.size = ops.size → I s a w → Region.ready md ops s = [] → Q .normal a w) :
    ∀ (n : Nat) (s : Array Bool) (a : Act) (w : World), s.size = ops.size → s.toList.count false ≤ n → I s a w → wpAny P md ops Q n s a w := by
  intro n
  induction n with
  | zero =>
    intro s a w hs hc hI
    have hr : Region.ready md ops s = [] := by
      refine List.eq_nil_iff_forall_not_mem.2 fun i hi => ?_
      have h1 := (mem_ready.1 hi).1
      have hlt : i < s.size := by
        rcases Nat.lt_or_ge i s.size with h | h
        · exact h
        · simp [Array.getElem?_eq_none h] at h1
      have h2 : s.toList[i]? = some false := by
        simp [hlt] at h1
        simp [hlt, h1]
      have := count_set h2
      omega
    exact ⟨hr, fin s a w hs hI hr⟩
  | succ n ih =>
    intro s a w hs hc hI
    refine ⟨fun hr => fin s a w hs hI hr, fun i hi => wpOp_mono (fun a' w' h => ih _ a' w' (by simp [hs]) ?_ h) (step s a w hs hI i hi)⟩
    have h1 := (mem_ready.1 hi).1
    have hlt : i < s.size := by
      rcases Nat.lt_or_ge i s.size with h | h
      · exact h
      · simp [Array.getElem?_eq_none h] at h1
    have h2 : s.toList[i]? = some false := by
      simp [hlt] at h1
      simp [hlt, h1]
    have := count_set h2
    rw [Array.toList_setIfInBounds]
    omega
theorem region_by {id : Nat} {a : Act} {w : World} (hm : P.follows .mixedOrders = true)
    (step : ∀ s a w, s.size = ops.size → I s a w → ∀ i ∈ Region.ready .any ops s, wpOp P ops Q i (fun a' w' => I (s.setIfInBounds i true) a' w') a w)
    (fin : ∀ s a w, s.size = ops.size → I s a w → Region.ready .any ops s = [] → Q .normal a w)
    (h : I (Array.replicate ops.size false) a { w with drawn := w.drawn + 1 }) : (Code.region id ops true).wp P Q a w := by
  refine wp_region_any hm (wpAny_by step fin _ _ _ _ (by simp) ?_ h)
  simp
end
/-- A frame in which some slots are written: the k-th by the k-th value, where the k-th has come up. -/
def fr : List (Nat × Value) → Nat → Array Bool → Act → Act
  | [], _, _, a => a
  | (d, v) :: r, k, s, a => fr r (k + 1) s (if s.getD k false then a.put (some d) v else a)
theorem put_size (a : Act) (d : Option Nat) (v : Value) : (a.put d v).tmps.size = a.tmps.size := by
  cases d <;> simp [Act.put]
theorem eval_put_ne {a : Act} {d k : Nat} {v : Value} (h : k ≠ d) : (a.put (some d) v).eval (.tmp k) = a.eval (.tmp k) := by
  simp [Act.put, Act.eval, Ne.symm h]
theorem eval_put_eq {a : Act} {d : Nat} {v : Value} (h : d < a.tmps.size) : (a.put (some d) v).eval (.tmp d) = v := by
  simp [Act.put, Act.eval, h]
theorem fr_other : ∀ (l : List (Nat × Value)) (k : Nat) (s : Array Bool) (a : Act) (x : Nat), (∀ p ∈ l, p.1 ≠ x) → (fr l k s a).eval (.tmp x) = a.eval (.tmp x)
  | [], _, _, _, _, _ => rfl
  | (d, v) :: r, k, s, a, x, h => by
    show (fr r (k + 1) s _).eval _ = _
    rw [fr_other r (k + 1) s _ x (fun p hp => h p (List.mem_cons_of_mem _ hp))]
    split
    · exact eval_put_ne (fun e => h (d, v) (by simp) e.symm)
    · rfl
theorem fr_at : ∀ (l : List (Nat × Value)) (k : Nat) (s : Array Bool) (a : Act) (j d : Nat) (v : Value), l[j]? = some (d, v) → (l.map (·.1)).Nodup → d < a.tmps.size → s.getD (k + j) false = true → (fr l k s a).eval (.tmp d) = v
  | [], _, _, _, _, _, _, h, _, _, _ => by cases h
  | (d', v') :: r, k, s, a, 0, d, v, h, nd, hd, hs => by
    have e : (d', v') = (d, v) := by simpa using h
    injection e with e1 e2
    subst e1 e2
    show (fr r (k + 1) s _).eval _ = _
    rw [Nat.add_zero] at hs
    rw [hs, if_pos rfl, fr_other r (k + 1) s _ d' ?_]
    · exact eval_put_eq hd
    · intro p hp e
      rw [List.map_cons, List.nodup_cons] at nd
      exact nd.1 (List.mem_map.2 ⟨p, hp, e⟩)
  | (d', v') :: r, k, s, a, j + 1, d, v, h, nd, hd, hs => by
    show (fr r (k + 1) s _).eval _ = _
    refine fr_at r (k + 1) s _ j d v (by simpa using h) ?_ ?_ (by rwa [show k + 1 + j = k + (j + 1) by omega])
    · rw [List.map_cons, List.nodup_cons] at nd
      exact nd.2
    · split
      · rw [put_size]; exact hd
      · exact hd
theorem fr_put : ∀ (l : List (Nat × Value)) (k : Nat) (s : Array Bool) (a : Act) (x : Nat) (u : Value), (∀ p ∈ l, p.1 ≠ x) → (fr l k s a).put (some x) u = fr l k s (a.put (some x) u)
  | [], _, _, _, _, _, _ => rfl
  | (d, v) :: r, k, s, a, x, u, h => by
    show (fr r (k + 1) s _).put _ _ = fr r (k + 1) s _
    rw [fr_put r (k + 1) s _ x u (fun p hp => h p (List.mem_cons_of_mem _ hp))]
    congr 1
    split
    · have hne : d ≠ x := h (d, v) (by simp)
      simp only [Act.put]
      congr 1
      rw [Array.setIfInBounds_comm _ _ hne]
    · rfl
theorem fr_same : ∀ (l : List (Nat × Value)) (k : Nat) (s s' : Array Bool) (a : Act), (∀ j, j < l.length → s.getD (k + j) false = s'.getD (k + j) false) → fr l k s a = fr l k s' a
  | [], _, _, _, _, _ => rfl
  | (d, v) :: r, k, s, s', a, h => by
    show fr r (k + 1) s _ = fr r (k + 1) s' _
    have h0 := h 0 (by simp)
    rw [Nat.add_zero] at h0
    rw [h0]
    exact fr_same r (k + 1) s s' _ (fun j hj => by have := h (j + 1) (by simp; omega); rwa [show k + (j + 1) = k + 1 + j by omega] at this)
theorem fr_set : ∀ (l : List (Nat × Value)) (k : Nat) (s : Array Bool) (a : Act) (j d : Nat) (v : Value), l[j]? = some (d, v) → (l.map (·.1)).Nodup → k + j < s.size → s.getD (k + j) false = false → fr l k (s.setIfInBounds (k + j) true) a = (fr l k s a).put (some d) v
  | [], _, _, _, _, _, _, h, _, _, _ => by cases h
  | (d', v') :: r, k, s, a, 0, d, v, h, nd, hk, hs => by
    have e : (d', v') = (d, v) := by simpa using h
    injection e with e1 e2
    subst e1 e2
    rw [Nat.add_zero] at *
    show fr r (k + 1) _ _ = (fr r (k + 1) s _).put _ _
    rw [List.map_cons, List.nodup_cons] at nd
    rw [hs, fr_put r (k + 1) s _ d' v' (fun p hp e => nd.1 (List.mem_map.2 ⟨p, hp, e⟩))]
    have e0 : (s.setIfInBounds k true).getD k false = true := by simp [hk]
    rw [e0, if_pos rfl, if_neg (by decide)]
    refine fr_same r (k + 1) _ s _ (fun j _ => ?_)
    rw [getD_set_ne false (by omega)]
  | (d', v') :: r, k, s, a, j + 1, d, v, h, nd, hk, hs => by
    show fr r (k + 1) _ _ = (fr r (k + 1) s _).put _ _
    rw [List.map_cons, List.nodup_cons] at nd
    have e0 : (s.setIfInBounds (k + (j + 1)) true).getD k false = s.getD k false := getD_set_ne false (by omega)
    rw [e0]
    have := fr_set r (k + 1) s (if s.getD k false then a.put (some d') v' else a) j d v (by simpa using h) nd.2 (by omega) (by rwa [show k + 1 + j = k + (j + 1) by omega])
    rwa [show k + 1 + j = k + (j + 1) by omega] at this
theorem fr_all : ∀ (l : List (Nat × Value)) (k : Nat) (s : Array Bool) (a : Act), (∀ j, j < l.length → s.getD (k + j) false = true) → fr l k s a = l.foldl (fun a p => a.put (some p.1) p.2) a
  | [], _, _, _, _ => rfl
  | (d, v) :: r, k, s, a, h => by
    show fr r (k + 1) s _ = _
    have h0 := h 0 (by simp)
    rw [Nat.add_zero] at h0
    rw [h0, if_pos rfl]
    exact fr_all r (k + 1) s _ (fun j hj => by have := h (j + 1) (by simp; omega); rwa [show k + (j + 1) = k + 1 + j by omega] at this)
theorem wpOp_run {P : Program} {ops : Array Oper} {Q : Exit → Act → World → Prop} {i : Nat} {K : Act → World → Prop} {a : Act} {w : World} {o : Oper} (ho : ops[i]? = some o) (hg : o.guard = none) (h : o.wp P a w K Q) : wpOp P ops Q i K a w := by
  unfold wpOp
  rw [ho]
  have e : Region.wanted o (yielded ops a.tmps) = true := by simp [Region.wanted, hg]
  simp only [e, if_true]
  exact .inl h
set_option maxRecDepth 100000 in
theorem run_faddr (a : Act) (w : World) (K : Act → World → Prop) (Q : Exit → Act → World → Prop) (o : Oper) (x b : Nat) (hx : a.tmps[x]?.getD undef = .pointer (some ⟨b, 0, none⟩)) (ho : o.op = .fieldAddr 80 (.tmp x) 0) (h : K (a.put o.dst (.pointer (some ⟨b, 0, none⟩))) w) : o.wp Tryd.prog a w K Q := by
  unfold Oper.wp execOp
  rw [ho]
  go_simp
  exact h
set_option maxRecDepth 100000 in
theorem run_load36 (a : Act) (w : World) (K : Act → World → Prop) (Q : Exit → Act → World → Prop) (o : Oper) (x b : Nat) (v : Value) (hx : a.tmps[x]?.getD undef = .pointer (some ⟨b, 0, none⟩)) (hc : w.cell? ⟨b, 0, none⟩ = some v) (ho : o.op = .load 36 (.tmp x)) (h : K (a.put o.dst v) w) : o.wp Tryd.prog a w K Q := by
  unfold Oper.wp execOp
  rw [ho]
  go_simp
  exact h
set_option maxRecDepth 100000 in
theorem run_load3 (a : Act) (w : World) (K : Act → World → Prop) (Q : Exit → Act → World → Prop) (o : Oper) (x b : Nat) (v : Value) (hx : a.tmps[x]?.getD undef = .pointer (some ⟨b, 0, none⟩)) (hc : w.cell? ⟨b, 0, none⟩ = some v) (ho : o.op = .load 3 (.tmp x)) (h : K (a.put o.dst v) w) : o.wp Tryd.prog a w K Q := by
  unfold Oper.wp execOp
  rw [ho]
  go_simp
  exact h
set_option maxRecDepth 100000 in
theorem run_load80 (a : Act) (w : World) (K : Act → World → Prop) (Q : Exit → Act → World → Prop) (o : Oper) (x b : Nat) (v1 v2 v3 : Value) (hx : a.tmps[x]?.getD undef = .pointer (some ⟨b, 0, none⟩)) (hc0 : w.cell? ⟨b, 0, none⟩ = some v1) (hc1 : w.cell? ⟨b, 1, none⟩ = some v2) (hc2 : w.cell? ⟨b, 2, none⟩ = some v3) (ho : o.op = .load 80 (.tmp x)) (h : K (a.put o.dst (.agg #[v1, v2, v3])) w) : o.wp Tryd.prog a w K Q := by
  unfold Oper.wp execOp
  rw [ho]
  go_simp
  exact h
set_option maxRecDepth 100000 in
theorem run_callS (a : Act) (w : World) (K : Act → World → Prop) (Q : Exit → Act → World → Prop) (o : Oper) (x : Nat) (v : Value) (hx : a.tmps[x]?.getD undef = v) (ho : o.op = .call { callee := .value (.func 56), args := #[.tmp x], argTypes := #[36] }) (h : Calls Tryd.prog 56 #[v] w fun e w' => ∃ u, e = .returned u ∧ K (a.put o.dst u) w') : o.wp Tryd.prog a w K Q := by
  have hf := Tryd.func56
  unfold Oper.wp execOp
  rw [ho]
  go_simp
  refine h.mono ?_
  rintro e w' ⟨u, rfl, hk⟩
  exact hk
set_option maxRecDepth 100000 in
theorem run_callE (a : Act) (w : World) (K : Act → World → Prop) (Q : Exit → Act → World → Prop) (o : Oper) (x : Nat) (v : Value) (hx : a.tmps[x]?.getD undef = v) (ho : o.op = .call { callee := .value (.func 57), args := #[.tmp x], argTypes := #[80] }) (h : Calls Tryd.prog 57 #[v] w fun e w' => ∃ u, e = .returned u ∧ K (a.put o.dst u) w') : o.wp Tryd.prog a w K Q := by
  have hf := Tryd.func57
  unfold Oper.wp execOp
  rw [ho]
  go_simp
  refine h.mono ?_
  rintro e w' ⟨u, rfl, hk⟩
  exact hk
set_option maxRecDepth 100000 in
theorem run_not (a : Act) (w : World) (K : Act → World → Prop) (Q : Exit → Act → World → Prop) (o : Oper) (x : Nat) (c : Bool) (hx : a.tmps[x]?.getD undef = .bool c) (ho : o.op = .unOp .not 4 (.tmp x)) (h : K (a.put o.dst (.bool !c)) w) : o.wp Tryd.prog a w K Q := by
  unfold Oper.wp execOp
  rw [ho]
  go_simp
  exact h
set_option maxRecDepth 100000 in
theorem run_build (a : Act) (w : World) (K : Act → World → Prop) (Q : Exit → Act → World → Prop) (o : Oper) (x1 x2 x3 x4 x5 : Nat) (y1 y2 y3 t : Int) (c : Bool) (h1 : a.tmps[x1]?.getD undef = .int .u64 y1) (h2 : a.tmps[x2]?.getD undef = .int .u64 y2) (h3 : a.tmps[x3]?.getD undef = .int .u64 y3) (h4 : a.tmps[x4]?.getD undef = .bool c) (h5 : a.tmps[x5]?.getD undef = .int .i64 t) (ho : o.op = .build 47 #[(0, .tmp x1), (1, .tmp x2), (2, .tmp x3), (3, .tmp x4), (4, .tmp x5)]) (h : K (a.put o.dst (.agg #[.int .u64 y1, .int .u64 y2, .int .u64 y3, .bool c, .int .i64 t])) w) : o.wp Tryd.prog a w K Q := by
  unfold Oper.wp execOp
  rw [ho]
  go_simp
  exact h
set_option maxRecDepth 100000 in
theorem run_alloc (a : Act) (w : World) (K : Act → World → Prop) (Q : Exit → Act → World → Prop) (o : Oper)  (ho : o.op = .alloc 47) (h : K (a.put o.dst (.pointer (some ⟨w.heap.size, 0, none⟩))) (w.alloc (.cells #[.int .u64 0, .int .u64 0, .int .u64 0, .bool false, .int .i64 0] 47))) : o.wp Tryd.prog a w K Q := by
  unfold Oper.wp execOp
  rw [ho]
  go_simp
  exact h
set_option maxRecDepth 100000 in
theorem run_store (a : Act) (w : World) (K : Act → World → Prop) (Q : Exit → Act → World → Prop) (o : Oper) (x y b : Nat) (u1 u2 u3 u4 u5 : Value) (y1 y2 y3 t : Int) (c : Bool) (hx : a.tmps[x]?.getD undef = .pointer (some ⟨b, 0, none⟩)) (hy : a.tmps[y]?.getD undef = .agg #[.int .u64 y1, .int .u64 y2, .int .u64 y3, .bool c, .int .i64 t]) (bk : Blk w b #[u1, u2, u3, u4, u5] 47) (ho : o.op = .store 47 (.tmp x) (.tmp y)) (h : K (a.put o.dst undef) (((((w.setCell ⟨b, 0, none⟩ (.int .u64 y1)).setCell ⟨b, 1, none⟩ (.int .u64 y2)).setCell ⟨b, 2, none⟩ (.int .u64 y3)).setCell ⟨b, 3, none⟩ (.bool c)).setCell ⟨b, 4, none⟩ (.int .i64 t))) : o.wp Tryd.prog a w K Q := by
  have c0 := bk.cell 0 _ rfl
  have c1 := bk.cell 1 _ rfl
  have c2 := bk.cell 2 _ rfl
  have c3 := bk.cell 3 _ rfl
  have c4 := bk.cell 4 _ rfl
  have z0 := bk.froz 0
  have z1 := bk.froz 1
  have z2 := bk.froz 2
  have z3 := bk.froz 3
  have z4 := bk.froz 4
  clear bk
  unfold Oper.wp execOp
  rw [ho]
  go_simp
  exact h
end Go.Proofs.YtobbbhmkcmbekaaDoor.bigs
