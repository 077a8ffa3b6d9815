/- The program's Pack. -/
import Derived.Test.YtdpoiagnjdajbaaDoorPtelAR
import Derived.Test.YtdpoiagnjdajbaaDoorPtelAX
import Derived.Test.YtdpoiagnjdajbaaDoorPtelAY
import Derived.Test.YtdpoiagnjdajbaaDoorPtelBA
set_option linter.unusedVariables false
namespace Go.Proofs.YtdpoiagnjdajbaaDoor.valus
open Go.RowKit Go.Shelf

set_option maxRecDepth 100000 in
theorem appV_all : ∀ (f : Nat) (t : V), GoodV f t → AppV f t
  | 0, _, h => h.elim
  | f + 1, t, hgood => by
    intro n0 w v l ok a0 a1 a2 a3 a4 a5 m hok hl hO hn0 hG hm hlen
    obtain ⟨k, n, b, s, L, E, pL, pE, cL, cE, rfl, hv, ⟨h1, h2, h3, h4⟩, ⟨h5, h6, h7, h8⟩, rL, rE⟩ := hl
    simp only [List.cons.injEq, and_true] at hv
    obtain ⟨rfl, rfl, rfl, rfl, rfl, rfl⟩ := hv
    obtain ⟨q, ⟨s1, s2⟩, gl, ge⟩ := hgood
    rw [opn_mk] at q s1 s2 gl ge
    simp only at s1 s2 gl ge
    have hsz : s.data.toList.length = s.size := by simp
    have hn : nodesV (f + 1) (mkV (k, n, b, s.data.toList) L E) = sumOf (nodesV f) L + sumOf (nodesV f) (E.map fun x => (opnE x).2) + 1 := by
      show sumOf (nodesV f) (parts _) + 1 = _
      rw [parts_mk, sumOf_append]
    rw [hn] at hlen
    have hk : k = 0 ∨ k = 1 ∨ k = 2 ∨ k = 3 ∨ k = 4 ∨ k = 5 ∨ k = 6 := by have h0 := q.k; simp only at h0; omega
    rcases hk with rfl | rfl | rfl | rfl | rfl | rfl | rfl
    · exact val0_any n0 w v l n b s pL pE L.length cL E.length cE hO hn0 (by omega)
    · have h01 := q.b rfl
      simp only at h01
      rcases h01 with rfl | rfl
      · exact val1_any n0 w v l 0 (.inl rfl) b s pL pE L.length cL E.length cE hO hn0 (by omega)
      · exact val1_any n0 w v l 1 (.inr rfl) b s pL pE L.length cL E.length cE hO hn0 (by omega)
    · exact val2_any n0 w v l n h2 b s pL pE L.length cL E.length cE hO hn0 (by omega)
    · exact val3_any n0 w v l n b h3 s pL pE L.length cL E.length cE hO hn0 (by omega)
    · exact val4_any n0 w v l n b s pL pE L.length cL E.length cE hO hn0 (by omega) m hG hm (by omega)
    · have g5 : ∀ y, y ∈ L → (encV f y).length + 1000 ≤ 10000 * nodesV f y := fun y hy => encV_len f y (gl y hy)
      have l5 : l.length + 10000 * sumOf (nodesV f) L + 10000 ≤ 700000000 := by omega
      exact val5_any f n0 w v l ok n b s pL pE L cL E.length cE m hok rL ⟨h5, h6⟩ hO hn0 hG hm (fun y hy => appV_all f y (gl y hy)) g5 l5
    · have g6 : ∀ x, x ∈ E → (opnE x).1.length ≤ 100 ∧ (encV f (opnE x).2).length + 1000 ≤ 10000 * nodesV f (opnE x).2 := fun x hx => ⟨s2 x hx, encV_len f _ (ge x hx)⟩
      have l6 : l.length + 10000 * sumOf (nodesV f) (E.map fun x => (opnE x).2) + 10000 ≤ 700000000 := by omega
      exact val6_any f n0 w v l ok n b s pL pE E L.length cL cE m hok rE ⟨h7, h8⟩ hO hn0 hG hm (fun x hx => appV_all f _ (ge x hx)) g6 l6

/-- What Pack answers. -/
def PackRes (n0 f : Nat) (t : V) (e : Ending) (w' : World) : Prop :=
  (faultV oneV t = 0 ∧ ∃ v', e = .returned (.tuple #[v', .int .i64 0]) ∧ OwnB n0 w' v' (encV f t)) ∨ (faultV oneV t ≠ 0 ∧ e = .returned (.tuple #[.slice none 0 0, .int .i64 (faultV oneV t)]))
set_option maxHeartbeats 4000000 in
set_option maxRecDepth 100000 in
theorem pack_any (f : Nat) (w : World) (t : V) (a0 a1 a2 a3 a4 a5 : Value) (hl : LiesV (fun b => b < w.heap.size) f w [a0, a1, a2, a3, a4, a5] t) (hn : nodesV f t ≤ 10000000) (hT : Lib.Utf8Tabs 1 2 w) (m : Int) (hm : w.cell? ⟨0, 0, none⟩ = some (.int .i64 m)) :
    Calls Tryd.prog 7 #[.agg #[a0, a1, a2, a3, a4, a5]] w fun e w' => PackRes w.heap.size f t e w' ∧ Below w.heap.size w w' := by
  have hGl := World.block_lt_of_cell? w _ hm
  obtain ⟨k, n, b, s, pL, nL, cL, pE, nE, cE, rfl, rfl, rfl, rfl, rfl, rfl⟩ := hl.form
  obtain ⟨W1, hW1⟩ : ∃ W1, W1 = w.alloc (.cells #[.int .i64 k, .int .i64 n, .int .u64 (b : Int), .string s, .slice pL nL cL, .slice pE nE cE] 26) := ⟨_, rfl⟩
  have b1 : Below w.heap.size w W1 := by rw [hW1]; exact (Below.refl _ w).alloc (Nat.le_refl _) _
  have s1 : W1.heap.size = w.heap.size + 1 := by rw [hW1]; simp
  have hbk : Blk W1 w.heap.size #[.int .i64 k, .int .i64 n, .int .u64 (b : Int), .string s, .slice pL nL cL, .slice pE nE cE] 26 := by rw [hW1]; exact blk_alloc _ _ _
  have HC := hide (callsIn_wide.1 (check_any f W1 t _ _ _ _ _ _ (hl.kept (fun b h => by omega) b1.size (fun b h _ => b1.block b h)) hn (Utf8Tabs_below hT b1)))
  have H1 := hide hW1
  have HR : ∀ w2, Below W1.heap.size W1 w2 → faultV oneV t = 0 → Hid (Calls Tryd.prog 21 #[.slice none 0 0, .agg #[.int .i64 k, .int .i64 n, .int .u64 (b : Int), .string s, .slice pL nL cL, .slice pE nE cE]] w2 fun e w' => ∃ v', e = .returned v' ∧ OwnB w.heap.size w' v' (encV f t) ∧ Below w.heap.size w w') := fun w2 b2 h0 => by
    have hb2 : Below w.heap.size w w2 := b1.trans (b2.mono (by omega))
    have hgood := good_lies hl h0
    have hsz := good_sizes hl.isV h0
    have C := appV_all f t hgood w.heap.size w2 (.slice none 0 0) [] (fun b => b < w.heap.size) _ _ _ _ _ _ m (fun _ h => h) (hl.kept (fun _ h => h) hb2.size (fun b h _ => hb2.block b h)) (OwnB.nil _ _) hb2.size hGl ((hb2.cell (p := ⟨0, 0, none⟩) hGl).trans hm) (by simp only [List.length_nil]; omega)
    exact hide (C.mono fun e w' ⟨v', e1, e2, e3⟩ => ⟨v', e1, by simpa using e2, hb2.trans (e3.to_below hb2.size (fun g hg => by cases hg))⟩)
  rw [hW1] at HC
  clear hW1 hl hT hm
  by_cases h0 : faultV oneV t = 0
  · have HP : ∀ v' w', OwnB w.heap.size w' v' (encV f t) → Hid (PackRes w.heap.size f t (.returned (.tuple #[v', .int .i64 0])) w') := fun v' w' h => hide (.inl ⟨h0, v', rfl, h⟩)
    have HQ : ∀ w2, Below W1.heap.size W1 w2 → Hid (Calls Tryd.prog 21 #[.slice none 0 0, .agg #[.int .i64 k, .int .i64 n, .int .u64 (b : Int), .string s, .slice pL nL cL, .slice pE nE cE]] w2 fun e w' => ∃ v', e = .returned v' ∧ OwnB w.heap.size w' v' (encV f t) ∧ Below w.heap.size w w') := fun w2 b2 => HR w2 b2 h0
    rw [h0] at HC
    clear h0 HR
    go_enter Tryd.func7, Tryd.ntmps7
    go_wp2_with (first
      | (go_at_call 14; refine (unhide HC).mono ?_; rintro e w2 ⟨rfl, b2⟩; rw [← H1.out] at b2; have z0 := (hbk.below b2).cell 0 _ rfl; have z1 := (hbk.below b2).cell 1 _ rfl; have z2 := (hbk.below b2).cell 2 _ rfl; have z3 := (hbk.below b2).cell 3 _ rfl; have z4 := (hbk.below b2).cell 4 _ rfl; have z5 := (hbk.below b2).cell 5 _ rfl)
      | (go_at_call 21; refine (unhide (HQ _ b2)).mono ?_; rintro e w3 ⟨v3, rfl, ho3, hb3⟩))
    refine bodyPost_ret (v := .tuple #[v3, .int .i64 0]) (by simp [results, Tryd.f7, go_sem]) rfl ?_
    exact ⟨(HP _ _ ho3).out, hb3⟩
  · have hr := h0
    have HP : Hid (∀ w', PackRes w.heap.size f t (.returned (.tuple #[.slice none 0 0, .int .i64 (faultV oneV t)])) w') := hide fun w' => .inr ⟨hr, rfl⟩
    have g4 : (faultV oneV t != 0) = true := bne_iff_ne.2 h0
    clear hr HR
    generalize faultV oneV t = fv at HC HP g4 h0
    go_enter Tryd.func7, Tryd.ntmps7
    go_wp2_with (go_at_call 14; refine (unhide HC).mono ?_; rintro e w2 ⟨rfl, b2⟩; rw [← H1.out] at b2)
    refine bodyPost_ret (v := .tuple #[.slice none 0 0, .int .i64 fv]) (by simp [results, Tryd.f7, go_sem]) rfl ?_
    exact ⟨HP.out _, b1.trans (b2.mono (by omega))⟩
end Go.Proofs.YtdpoiagnjdajbaaDoor.valus
/- The statements' own try of Pack. -/
set_option linter.unusedVariables false
namespace Go.Proofs.YtdpoiagnjdajbaaDoor.valus
open Go.RowKit Go.Shelf

def zeroT : V := mkV (0, 0, 0, []) [] []
theorem zero_one : oneV zeroT = 0 := by
  unfold oneV zeroT
  rw [opn_mk]
  have hk : KindOk 0 0 0 ([] : List UInt8) ([] : List V).length ([] : List V).length := ⟨⟨by omega, by omega⟩, .inl rfl, fun h => .inl rfl, .inl rfl, .inl rfl, .inl rfl, .inl rfl, fun h => absurd h (by decide)⟩
  simp only
  rw [if_neg (fun h => h hk), if_neg (by simp), if_neg (by decide)]
  rfl
theorem zero_good : faultV oneV zeroT = 0 := fault_zero.2 ⟨1999, by
  show (if oneV zeroT = 0 then recL (recV oneV 19) 1999 (parts zeroT) else .inl (oneV zeroT)) = .inr 1999
  rw [if_pos zero_one]
  rfl⟩
theorem zero_lies (ok : Nat → Prop) (w : World) : LiesV ok 1 w [.int .i64 0, .int .i64 0, .int .u64 0, .string ⟨#[]⟩, .slice none 0 0, .slice none 0 0] zeroT :=
  ⟨0, 0, 0, ⟨#[]⟩, [], [], none, none, 0, 0, rfl, rfl, ⟨⟨by omega, by omega⟩, ⟨by omega, by omega⟩, by omega, by decide⟩, ⟨Nat.le_refl _, Nat.zero_le _, Nat.le_refl _, Nat.zero_le _⟩, fun h => absurd rfl h, fun h => absurd rfl h⟩
set_option maxHeartbeats 4000000 in
set_option maxRecDepth 100000 in
theorem packs_any (w : World) (hT : Lib.Utf8Tabs 1 2 w) (m : Int) (hm : w.cell? ⟨0, 0, none⟩ = some (.int .i64 m)) :
    Calls Tryd.prog 13 #[] w fun e w' => e = .returned (.bool true) ∧ Below w.heap.size w w' := by
  have K := pack_any 1 w zeroT _ _ _ _ _ _ (zero_lies _ w) (by decide) hT m hm
  have HK : Hid (Calls Tryd.prog 7 #[.agg #[.int .i64 0, .int .i64 0, .int .u64 0, .string ⟨#[]⟩, .slice none 0 0, .slice none 0 0]] w fun e w' => (∃ g cap, e = .returned (.tuple #[.slice (some ⟨g, 0, none⟩) 1 cap, .int .i64 0])) ∧ Below w.heap.size w w') := hide (K.mono fun e w' ⟨h1, h2⟩ => ⟨by
    rcases h1 with ⟨_, v', h3, h4⟩ | ⟨h3, _⟩
    · obtain ⟨g, cap, hv, _, _⟩ := h4.form (by decide)
      exact ⟨g, cap, by rw [h3, hv]; rfl⟩
    · exact absurd zero_good h3, h2⟩)
  clear K hT hm
  go_enter Tryd.func13, Tryd.ntmps13
  go_wp2_with (go_at_call 7; refine (unhide HK).mono ?_; rintro e w3 ⟨⟨g, cap, rfl⟩, b3⟩)
  go_ret
  exact ⟨rfl, b3⟩
end Go.Proofs.YtdpoiagnjdajbaaDoor.valus
