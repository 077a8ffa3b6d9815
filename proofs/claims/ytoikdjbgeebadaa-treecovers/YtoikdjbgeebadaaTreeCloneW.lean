/- The walk of slices.Clone over nodes; what covers goes through: plain mathematics. -/
import Derived.Test.YtoikdjbgeebadaaTreeAloneP
import Derived.Lib.SliceRun
set_option linter.unusedVariables false
namespace Go.Proofs.Ytoikdjbgeebadaa.trees
open Go.RowKit
open toks

/-- Where the next kid may begin. -/
def atK (a : Nat) (kids : List T) : Nat → Nat
  | 0 => a
  | i + 1 => endT (kids.getD i (nd 0 0 0 []))
theorem atK_cons (a : Nat) (t : T) (r : List T) (i : Nat) : atK a (t :: r) (i + 1) = atK (endT t) r i := by
  cases i with
  | zero => rfl
  | succ i => simp [atK]
theorem covL_at (ll : List Tk) (e : Nat) : ∀ (kids : List T) (a : Nat), CovL ll e a kids → (∀ (i : Nat) (h : i < kids.length), ∃ k a' e' l', kids[i] = nd k a' e' l' ∧ atK a kids i ≤ a' ∧ a' ≤ e' ∧ e' ≤ e ∧ Clear ll (atK a kids i) a') ∧ atK a kids kids.length ≤ e ∧ Clear ll (atK a kids kids.length) e
  | [], a, h => ⟨fun i h => by simp at h, h.1, h.2⟩
  | t :: r, a, h => by
    obtain ⟨k, a', e', l', rfl, h1, h2, h3, h4, h5⟩ := h
    obtain ⟨i1, i2, i3⟩ := covL_at ll e r e' h5
    refine ⟨fun i hi => ?_, ?_, ?_⟩
    · cases i with
      | zero => exact ⟨k, a', e', l', rfl, h1, h2, h3, h4⟩
      | succ i =>
        rw [atK_cons, endT_nd]
        exact i1 i (by simpa using hi)
    · rw [List.length_cons, atK_cons, endT_nd]
      exact i2
    · rw [List.length_cons, atK_cons, endT_nd]
      exact i3
/-- The cells of kids, one list a kid. -/
theorem kids_cells {ok : Nat → Prop} {f : Nat} {w : World} {b o : Nat} {l : List T} (h : ∀ (j : Nat) (h : j < l.length), ∃ x0 x1 x2 x3, w.cell? ⟨b, o + j * 4, none⟩ = some x0 ∧ w.cell? ⟨b, o + j * 4 + 1, none⟩ = some x1 ∧ w.cell? ⟨b, o + j * 4 + 2, none⟩ = some x2 ∧ w.cell? ⟨b, o + j * 4 + 3, none⟩ = some x3 ∧ Lies ok f w [x0, x1, x2, x3] l[j]) :
    ∃ vss : List (List Value), KidsIn ok f w vss l ∧ ∀ (j i : Nat) (h : j < vss.length), i < 4 → w.cell? ⟨b, o + j * 4 + i, none⟩ = vss[j][i]? := by
  have key : ∀ n, n ≤ l.length → ∃ vss : List (List Value), vss.length = n ∧ ∀ (j : Nat) (hj : j < vss.length) (hj' : j < l.length), Lies ok f w vss[j] l[j] ∧ ∀ i, i < 4 → w.cell? ⟨b, o + j * 4 + i, none⟩ = vss[j][i]? := by
    intro n
    induction n with
    | zero => exact fun _ => ⟨[], rfl, fun j hj => by simp at hj⟩
    | succ n ih =>
      intro hn
      obtain ⟨vss, h1, h2⟩ := ih (by omega)
      obtain ⟨x0, x1, x2, x3, g0, g1, g2, g3, hL⟩ := h n (by omega)
      refine ⟨vss ++ [[x0, x1, x2, x3]], by simp [h1], fun j hj hj' => ?_⟩
      by_cases e : j < vss.length
      · rw [List.getElem_append_left e]
        exact h2 j e hj'
      · have hjn : j = n := by simp at hj; omega
        subst hjn
        have hg : (vss ++ [[x0, x1, x2, x3]])[j] = [x0, x1, x2, x3] := by
          rw [List.getElem_append_right (by omega)]
          simp [h1]
        rw [hg]
        refine ⟨hL, fun i hi => ?_⟩
        match i, hi with
        | 0, _ => exact g0
        | 1, _ => exact g1
        | 2, _ => exact g2
        | 3, _ => exact g3
  obtain ⟨vss, h1, h2⟩ := key l.length (Nat.le_refl _)
  exact ⟨vss, ⟨h1, fun j hj hj' => (h2 j hj hj').1⟩, fun j i hj hi => (h2 j hj (by omega)).2 i hi⟩
theorem add_cell (b o j : Nat) : (⟨b, o, none⟩ : Addr).add j = ⟨b, o + j, none⟩ := by
  unfold Addr.add
  split <;> simp_all
theorem Lies.one {ok : Nat → Prop} {f : Nat} {w : World} {vs : List Value} {t : T} (h : Lies ok f w vs t) : ∀ u ∈ vs, u.oneCell' = true := by
  cases f with
  | zero => exact h.elim
  | succ f =>
    obtain ⟨k, a, e, l, p, cap, _, rfl, _⟩ := h
    intro u hu
    simp at hu
    rcases hu with rfl | rfl | rfl | rfl <;> rfl
set_option maxHeartbeats 2000000 in
set_option maxRecDepth 100000 in
theorem clone_any {ok : Nat → Prop} {f : Nat} (w : World) (p : Option Addr) (c : Nat) (l : List T) (vss : List (List Value)) (hl : l.length ≤ 20000) (hk : KidsIn ok f w vss l) (hrow : l ≠ [] → ∃ b o, p = some ⟨b, o, none⟩ ∧ ∀ (j i : Nat) (h : j < vss.length), i < 4 → w.cell? ⟨b, o + j * 4 + i, none⟩ = vss[j][i]?) :
    Calls Try.prog 23 #[.slice p l.length c] w fun e w' => ∃ v, e = .returned v ∧ w'.ownsRow w.heap.size 24 4 v l.length vss.flatten ∧ Below w.heap.size w w' := by
  obtain ⟨i0, hinf, hz0, hz1, hz2⟩ := info_parts infoNode
  have q22 : ∀ (w : World) (a : Option Addr) (n c n' c' : Nat), (binOp .eql 22 (.slice a n c) (.slice none n' c')).run Try.prog w = .ok (.bool a.isNone) w := fun w a n c n' c' => Lib.run_eql_slice_nil w _ _ a n c n' c' Try.underlying22
  by_cases hle : l = []
  · have hv : vss = [] := List.eq_nil_of_length_eq_zero (by rw [hk.len, hle]; rfl)
    subst hle hv
    cases p with
    | none =>
      go_enter Try.func23, Try.ntmps23
      go_wp2
      go_ret
      exact ⟨_, rfl, World.ownsRow_nil _ _ _ _, Below.refl _ _⟩
    | some ad =>
      have ho := World.ownsRow_lit (base := w.heap.size) (e := 24) (size := 4) w #[] 0 (Nat.le_refl _) (by decide) rfl
      have HO := hide ho
      have HB := hide ((Below.refl _ w).alloc (Nat.le_refl _) (.cells #[] 24))
      clear hk hrow ho
      go_enter Try.func23, Try.ntmps23
      go_wp2_with (at_builtin; refine wpList_append_fits _ rfl _ _ 22 rfl w.heap.size 24 i0 4 Try.underlying22 hinf hz1 _ 0 0 [] rfl (unhide HO) ad 0 c [] rfl rfl (fun j u hu => by simp at hu) (fun u hu => by cases hu) (Nat.le_refl _) ?_)
      intro wx hown2 hg2
      have HX := hide hown2
      have BX := hide ((unhide HB).grown hg2 (by simp) (fun k hk => by injection hk with hk; omega))
      clear hown2 hg2 HO HB
      go_wp2
      go_ret
      exact ⟨_, rfl, unhide HX, unhide BX⟩
  · obtain ⟨b, o, rfl, hc⟩ := hrow hle
    have hlp := List.length_pos_iff.2 hle
    have ho := World.ownsRow_lit (base := w.heap.size) (e := 24) (size := 4) w #[] 0 (Nat.le_refl _) (by decide) rfl
    have hfl := flat4_len vss hk.lens
    rw [hk.len] at hfl
    have hbl : b < w.heap.size := by
      have h0 : 0 < vss.length := by rw [hk.len]; exact hlp
      have := hc 0 0 h0 (by decide)
      have hl4 := (hk.each 0 h0 hlp).len
      rw [List.getElem?_eq_getElem (by omega)] at this
      exact World.block_lt_of_cell? w _ this
    have hnews : ∀ (j : Nat) (u : Value), vss.flatten[j]? = some u → (w.alloc (.cells #[] 24)).cell? ((⟨b, o, none⟩ : Addr).add j) = some u := fun j u hu => by
      rw [add_cell, World.cell?_of_block (w := w) (w' := w.alloc (.cells #[] 24)) (a := ⟨b, o + j, none⟩) (Below.heap_alloc _ _ _ hbl)]
      have hj : j < vss.flatten.length := by
        rcases Nat.lt_or_ge j vss.flatten.length with h | h
        · exact h
        · rw [List.getElem?_eq_none h] at hu; cases hu
      have e1 : j = j / 4 * 4 + j % 4 := by omega
      have hjv : j / 4 < vss.length := by rw [hk.len]; omega
      have h2 := hc (j / 4) (j % 4) hjv (Nat.mod_lt _ (by decide))
      have h3 := flat4_get vss hk.lens (j / 4) (j % 4) hjv (Nat.mod_lt _ (by decide))
      rw [← e1] at h3
      rw [show o + j / 4 * 4 + j % 4 = o + j by omega] at h2
      rw [h2, ← h3, hu]
    have h1c : ∀ u ∈ vss.flatten, u.oneCell' = true := fun u hu => by
      obtain ⟨vs, hvs, hu⟩ := List.mem_flatten.1 hu
      obtain ⟨j, hj, e⟩ := List.getElem_of_mem hvs
      rw [← e] at hu
      exact (hk.each j hj (by rw [← hk.len]; exact hj)).one u hu
    have HN := hide hnews
    have H1 := hide h1c
    have HB := hide ((Below.refl _ w).alloc (Nat.le_refl _) (.cells #[] 24))
    clear hk hrow hc hnews h1c
    generalize vss.flatten = xs at *
    go_enter Try.func23, Try.ntmps23
    go_wp2_with (at_builtin; refine wpList_append_lies _ rfl _ _ 22 rfl w.heap.size 24 i0 (.agg #[.int .i64 0, .int .i64 0, .int .i64 0, .slice none 0 0]) 4 48 Try.underlying22 hinf hz0 hz1 hz2 rfl (by decide) _ _ _ rfl ho ⟨b, o, none⟩ l.length c xs rfl hfl (unhide HN) (unhide H1) hlp (by unfold maxLen; omega) (by omega) (by simp) (w.heap.size + 1) (by simp) ?_)
    intro g cap' wx hown2 hg2 hat hlt2
    have HO := hide hown2
    have BX := hide ((unhide HB).grown hg2 (by simp) (fun k hk => by have := own_ge4 ho k hk; omega))
    clear hown2 hg2 hat hlt2 HB HN H1
    go_wp2
    go_ret
    exact ⟨_, rfl, unhide HO, unhide BX⟩
end Go.Proofs.Ytoikdjbgeebadaa.trees
