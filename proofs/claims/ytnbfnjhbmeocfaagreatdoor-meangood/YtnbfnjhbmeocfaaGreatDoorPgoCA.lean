/- Of our texts, what this claim reaches. -/
import Derived.Test.YtnbfnjhbmeocfaaGreatDoorPgoBZ
import Derived.Test.YtnbfnjhbmeocfaaGreatDoorPgoBT
import Derived.Test.YtnbfnjhbmeocfaaGreatDoorPgoAE
set_option linter.unusedVariables false
namespace Go.Proofs.YtnbfnjhbmeocfaaGreatDoor.valus
open Go.RowKit Go.Shelf
open trees (nd pd sols placeOf)
open toks (toksL MaxOk)
theorem meanAns_unique {s : ByteArray} {x y : V ⊕ (Int × Int)} (h : MeanAns s x) (k : MeanAns s y) : x = y := by
  have U := meanR_unique (fun keys => keyR_fun s (toksL s.data.toList) keys) (leafR_fun s (toksL s.data.toList)) 20
  rcases h with ⟨h1, h2⟩ | ⟨h1, h⟩ <;> rcases k with ⟨k1, k2⟩ | ⟨k1, k⟩
  · rw [h2, k2]
  · omega
  · omega
  · rcases h with ⟨c, ts, h2, h3⟩ | ⟨t, h2, h⟩ <;> rcases k with ⟨c', ts', k2, k3⟩ | ⟨t', k2, k⟩
    · rw [h2] at k2
      injection k2 with k2
      injection k2 with e1 e2
      rw [h3, k3, e1, e2]
    · rw [h2] at k2
      cases k2
    · rw [h2] at k2
      cases k2
    · rw [h2] at k2
      injection k2 with k2
      injection k2 with k2 _
      subst k2
      rcases h with ⟨pq, h3, h4⟩ | ⟨v, h3, h4⟩ <;> rcases k with ⟨rs, k3, k4⟩ | ⟨u, k3, k4⟩
      · have e := U _ _ _ h3 k3
        rw [h4, k4, e]
      · have e := U _ _ _ h3 k3
        cases e
      · have e := U _ _ _ h3 k3
        cases e
      · have e := U _ _ _ h3 k3
        injection e with e
        subst e
        rcases h4 with ⟨a, b⟩ | ⟨a, b⟩ <;> rcases k4 with ⟨c, d⟩ | ⟨c, d⟩
        · rw [b, d]
        · exact absurd a c
        · exact absurd c a
        · rw [b, d]
theorem listTo_bad {R : trees.T → V ⊕ (Int × Int) → Prop} {Q : Int × Int → Prop} (hR : ∀ t pq, R t (.inr pq) → Q pq) : ∀ (l : List trees.T) (acc : List V) (pq : Int × Int), ListTo R l acc (.inr pq) → Q pq
  | [], _, _, h => by cases h
  | t :: l, acc, pq, h => by
    rcases h with ⟨v, _, h2⟩ | ⟨rs, h1, h2⟩
    · exact listTo_bad hR l _ _ h2
    · injection h2 with h2
      rw [h2]
      exact hR _ _ h1
theorem tabTo_bad {kr : KR} {R : trees.T → V ⊕ (Int × Int) → Prop} {Q : Int × Int → Prop} (hk : ∀ keys j pq, kr keys j (.inr pq) → Q pq) (hR : ∀ t pq, R t (.inr pq) → Q pq) : ∀ (l : List trees.T) (acc : List V) (pq : Int × Int), TabTo kr R l acc (.inr pq) → Q pq
  | [], _, _, h => by
    obtain ⟨E, _, _, h⟩ := h
    cases h
  | t :: l, acc, pq, h => by
    obtain ⟨ek, ea, ee, kk, ka, ke, v, _, h⟩ := h
    rcases h with ⟨key, _, h⟩ | ⟨rs, h1, h2⟩
    · rcases h with ⟨y, _, h2⟩ | ⟨rs, h1, h2⟩
      · exact tabTo_bad hk hR l _ _ h2
      · injection h2 with h2
        rw [h2]
        exact hR _ _ h1
    · injection h2 with h2
      rw [h2]
      exact hk _ _ _ h1
theorem meanR_bad {kr : KR} {lf : LR} {Q : Int × Int → Prop} (hk : ∀ keys j pq, kr keys j (.inr pq) → Q pq) (hl : ∀ j pq, lf j (.inr pq) → Q pq) : ∀ (f : Nat) (t : trees.T) (pq : Int × Int), MeanR kr lf f t (.inr pq) → Q pq
  | 0, _, _, h => h.elim
  | f + 1, t, pq, h => by
    obtain ⟨k, a, e, l, rfl, h⟩ := h
    rcases h with ⟨_, h⟩ | ⟨_, h⟩ | ⟨_, _, h⟩
    · exact tabTo_bad hk (meanR_bad hk hl f) _ _ _ h
    · exact listTo_bad (meanR_bad hk hl f) _ _ _ h
    · exact hl _ _ h
theorem placeM_le {s : ByteArray} {l : List toks.Tk} (g : trees.Good s l) (te : List trees.Sym) : placeOf s l te ≤ s.size := by
  cases te with
  | nil => exact Nat.le_refl _
  | cons x r =>
    show (l.getD x.2 ⟨0, 0, 0⟩).fro ≤ s.size
    by_cases h : x.2 < l.length
    · rw [List.getD_eq_getElem?_getD, List.getElem?_eq_getElem h]
      exact Nat.le_of_lt (g.fro _ h)
    · rw [List.getD_eq_getElem?_getD, List.getElem?_eq_none (by omega)]
      exact Nat.zero_le _
theorem ans_place {s : ByteArray} {pq : Int × Int} (h : MeanAns s (.inr pq)) : (0 ≤ pq.1 ∧ pq.1 ≤ (s.size : Int)) ∧ pq.2 ≠ 0 := by
  rcases h with ⟨h1, h2⟩ | ⟨h1, h⟩
  · injection h2 with h2
    subst h2
    exact ⟨⟨by simp, by simp⟩, by decide⟩
  · have g := trees.good s h1
    rcases h with ⟨c, ts, h2, h3⟩ | ⟨t, h2, h⟩
    · injection h3 with h3
      subst h3
      have := placeM_le g ts
      obtain ⟨_, _, _, hc⟩ := trees.pd_bad h2
      refine ⟨⟨by simp, by simp only; omega⟩, ?_⟩
      rcases hc with rfl | ⟨rfl, _⟩ <;> simp
    · rcases h with ⟨rs, h3, h4⟩ | ⟨v, _, h4⟩
      · injection h4 with h4
        subst h4
        refine meanR_bad (Q := fun pq => (0 ≤ pq.1 ∧ pq.1 ≤ (s.size : Int)) ∧ pq.2 ≠ 0) (fun keys j pq h => ?_) (fun j pq h => ?_) 20 t _ h3
        · obtain ⟨hj, key, ke, _, h⟩ := h
          have := g.fro j hj
          rcases h with ⟨_, _, h⟩ | ⟨_, _, h⟩ | ⟨h0, h⟩
          · cases h
          · injection h with h
            subst h
            exact ⟨⟨by simp, by simp only; omega⟩, by simp⟩
          · injection h with h
            subst h
            exact ⟨⟨by simp, by simp only; omega⟩, h0⟩
        · obtain ⟨hj, lab, er, _, h⟩ := h
          have := g.fro j hj
          rcases h with ⟨_, h⟩ | ⟨h0, h⟩
          · cases h
          · injection h with h
            subst h
            exact ⟨⟨by simp, by simp only; omega⟩, h0⟩
      · rcases h4 with ⟨_, h4⟩ | ⟨h5, h4⟩
        · cases h4
        · injection h4 with h4
          subst h4
          exact ⟨⟨by simp, by simp⟩, h5⟩
def oneT : V := mkV (2, 1, 0, []) [] []
theorem one_one : oneV oneT = 0 := by
  unfold oneV oneT
  rw [opn_mk]
  have hk : KindOk 2 1 0 ([] : List UInt8) ([] : List V).length ([] : List V).length := by unfold KindOk; simp; decide
  simp only
  rw [if_neg (fun h => h hk), if_neg (by simp), if_neg (by decide)]
  rfl
theorem one_good : faultV oneV oneT = 0 := fault_zero.2 ⟨1999, by
  show (if oneV oneT = 0 then recL (recV oneV 19) 1999 (parts oneT) else .inl (oneV oneT)) = .inr 1999
  rw [if_pos one_one]
  rfl⟩
theorem one_means : MeanAns ⟨#[49]⟩ (.inl oneT) := by
  refine .inr ⟨by decide, .inr ⟨nd 1 0 1 [], rfl, .inr ⟨oneT, ⟨1, 0, 1, [], rfl, .inr (.inr ⟨by decide, by decide, by decide, (2, 1, 0, []), 0, ?_, .inl ⟨rfl, rfl⟩⟩)⟩, .inl ⟨one_good, rfl⟩⟩⟩⟩
  show WordTo [49] (2, 1, 0, []) 0
  exact .inr (.inr (.inr ⟨by decide, .inl ⟨by decide, by decide, rfl⟩⟩))
set_option maxHeartbeats 4000000 in
set_option maxRecDepth 100000 in
theorem means_any (w : World) (hM : MaxOk w) (hT : Lib.Utf8Tabs 1 2 w) :
    Calls Tryz.prog 14 #[] w fun e w' => e = .returned (.bool true) ∧ Below w.heap.size w w' := by
  have K := mean_any w ⟨#[49]⟩ hM hT
  have HK : Hid (Calls Tryz.prog 11 #[.string ⟨#[49]⟩] w fun e w' => (∃ (pL : Option Addr) (nL cL : Nat) (pE : Option Addr) (nE cE : Nat) (z : ByteArray) (k : Int) (b : Nat), e = .returned (.tuple #[.agg #[.int .i64 k, .int .i64 1, .int .u64 (b : Int), .string z, .slice pL nL cL, .slice pE nE cE], .int .i64 0, .int .i64 0])) ∧ Below w.heap.size w w') := hide (K.mono fun e w' ⟨h1, h2⟩ => ⟨by
    rcases h1 with ⟨vk, nn, b, z, pL, nL, cL, pE, nE, cE, v, rfl, h3, h4⟩ | ⟨pq, _, h3⟩
    · have e := meanAns_unique h3 one_means
      injection e with e
      subst e
      obtain ⟨k, n, b', s', L, E, pL', pE', cL', cE', e1, e2, _⟩ := h4
      obtain ⟨e3, _, _⟩ := mkV_inj e1
      injection e2 with _ e2
      injection e2 with e2 _
      injection e2 with _ e2
      injection e3 with _ e3
      injection e3 with e3 _
      rw [e2, ← e3]
      exact ⟨_, _, _, _, _, _, _, _, _, rfl⟩
    · exact absurd (meanAns_unique h3 one_means) (by simp), h2⟩)
  clear K hT hM
  go_enter Tryz.func14, Tryz.ntmps14
  go_upto_region 2 with (go_at_call 11; refine (unhide HK).mono ?_; rintro e w3 ⟨⟨pL, nL, cL, pE, nE, cE, z, k, b, rfl⟩, b3⟩)
  have hX := blk_alloc w3 #[.int .i64 k, .int .i64 1, .int .u64 (b : Int), .string z, .slice pL nL cL, .slice pE nE cE] 26
  have x1 := hX.cell 1 _ rfl
  have FIN := hide (b3.trans (((Below.refl _ w3).alloc (Nat.le_refl _) (.cells #[.int .i64 k, .int .i64 1, .int .u64 (b : Int), .string z, .slice pL nL cL, .slice pE nE cE] 26)).mono b3.size))
  clear hX b3 HK
  go_wp2
  go_ret
  exact ⟨rfl, FIN.out⟩
theorem zero_lies' (ok : Nat → Prop) (w : World) : LiesV ok 1 w [.int .i64 0, .int .i64 0, .int .u64 0, .string ⟨#[]⟩, .slice none 0 0, .slice none 0 0] (mkV (0, 0, 0, []) [] []) :=
  ⟨0, 0, 0, ⟨#[]⟩, [], [], none, none, 0, 0, rfl, rfl, ⟨⟨by omega, by omega⟩, ⟨by omega, by omega⟩, by omega, by decide⟩, ⟨Nat.le_refl _, Nat.zero_le _, Nat.le_refl _, Nat.zero_le _⟩, fun h => absurd rfl h, fun h => absurd rfl h⟩
set_option maxHeartbeats 8000000 in
set_option maxRecDepth 100000 in
theorem lawMeanGood (w : World) (s : ByteArray) (hs : s.size ≤ 9223372036854775807) (hM : MaxOk w) (hT : Lib.Utf8Tabs 1 2 w) :
    Calls Tryz.prog 6 #[.string s] w fun e w' => e = .returned (.bool true) ∧ Below w.heap.size w w' := by
  have K0 := hide (means_any w hM hT)
  have K1 : ∀ v, Hid (Below w.heap.size w v → Calls Tryz.prog 11 #[.string s] v (MeanW s v)) := fun v hb => mean_any v s (hM.below (Nat.le_refl _) hb) (Utf8Tabs_below hT hb)
  have HT := hide hT
  clear hM hT
  go_enter Tryz.func6, Tryz.ntmps6
  go_upto_region 3 with (go_at_call 14; refine (unhide K0).mono ?_; rintro e w1 ⟨rfl, b1⟩)
  have HC := hide (unhide (K1 w1) b1)
  have HB1 := hide b1
  clear b1 K0 K1
  go_upto_region 4 with (go_at_call 11; refine (unhide HC).mono ?_; rintro e w2 ⟨hres, b2⟩; rcases hres with ⟨vk, nn, b, z, pL, nL, cL, pE, nE, cE, v, rfl, hA, hl⟩ | ⟨⟨p1, p2⟩, rfl, hA⟩)
  · have b12 := HB1.out.trans (b2.mono HB1.out.size)
    have bV : Below w2.heap.size w2 (w2.alloc (.cells #[.int .i64 vk, .int .i64 nn, .int .u64 (b : Int), .string z, .slice pL nL cL, .slice pE nE cE] 26)) := (Below.refl _ w2).alloc (Nat.le_refl _) _
    have hf : faultV oneV v = 0 ∧ nodesV 40 v ≤ 10000000 := by
      rcases hA with ⟨_, h⟩ | ⟨_, ⟨_, _, _, h⟩ | ⟨t, _, ⟨_, _, h⟩ | ⟨u, h1, ⟨h2, h3⟩ | ⟨_, h⟩⟩⟩⟩
      · cases h
      · cases h
      · cases h
      · injection h3 with h3
        subst h3
        exact ⟨h2, by have := (good_sizes hl.isV h2).2; omega⟩
      · cases h
    have hl2 : LiesV (fun q => q < (w2.alloc (.cells #[.int .i64 vk, .int .i64 nn, .int .u64 (b : Int), .string z, .slice pL nL cL, .slice pE nE cE] 26)).heap.size) 40 (w2.alloc (.cells #[.int .i64 vk, .int .i64 nn, .int .u64 (b : Int), .string z, .slice pL nL cL, .slice pE nE cE] 26)) [.int .i64 vk, .int .i64 nn, .int .u64 (b : Int), .string z, .slice pL nL cL, .slice pE nE cE] v := hl.kept (fun q hq => Nat.lt_of_lt_of_le hq.2 bV.size) bV.size (fun q hq _ => bV.block q hq.2)
    have KC := callsIn_wide.1 (check_any 40 _ v _ _ _ _ _ _ hl2 hf.2 (Utf8Tabs_below HT.out (b12.trans (bV.mono b12.size))))
    rw [hf.1] at KC
    have HKC := hide KC
    have FIN := hide (b12.trans (bV.mono b12.size))
    have hX := blk_alloc w2 #[.int .i64 vk, .int .i64 nn, .int .u64 (b : Int), .string z, .slice pL nL cL, .slice pE nE cE] 26
    have x0 := hX.cell 0 _ rfl
    have x1 := hX.cell 1 _ rfl
    have x2 := hX.cell 2 _ rfl
    have x3 := hX.cell 3 _ rfl
    have x4 := hX.cell 4 _ rfl
    have x5 := hX.cell 5 _ rfl
    clear b12 bV hf hl2 KC hX hl hA b2 HC HB1 HT
    go_wp2_with (go_at_call 17; refine (unhide HKC).mono ?_; rintro e w3 ⟨rfl, b3⟩)
    go_ret
    exact ⟨rfl, FIN.out.trans (b3.mono FIN.out.size)⟩
  · have b12 := HB1.out.trans (b2.mono HB1.out.size)
    have bV : Below w2.heap.size w2 (w2.alloc (.cells #[.int .i64 0, .int .i64 0, .int .u64 0, .string ⟨#[]⟩, .slice none 0 0, .slice none 0 0] 26)) := (Below.refl _ w2).alloc (Nat.le_refl _) _
    obtain ⟨⟨h0, h1⟩, h2⟩ := ans_place hA
    simp only at h0 h1 h2
    have g1 : (p2 != 0) = true := bne_iff_ne.2 h2
    have HKA := hide (alike_same 1 1 (mkV (0, 0, 0, []) [] []) (w2.alloc (.cells #[.int .i64 0, .int .i64 0, .int .u64 0, .string ⟨#[]⟩, .slice none 0 0, .slice none 0 0] 26)) _ _ _ _ _ _ _ _ _ _ _ _ (zero_lies' _ _) (zero_lies' _ _))
    have FIN := hide (b12.trans (bV.mono b12.size))
    have hX := blk_alloc w2 #[.int .i64 0, .int .i64 0, .int .u64 0, .string ⟨#[]⟩, .slice none 0 0, .slice none 0 0] 26
    have x0 := hX.cell 0 _ rfl
    have x1 := hX.cell 1 _ rfl
    have x2 := hX.cell 2 _ rfl
    have x3 := hX.cell 3 _ rfl
    have x4 := hX.cell 4 _ rfl
    have x5 := hX.cell 5 _ rfl
    have d0 : decide (p1 ≥ 0) = true := decide_eq_true h0
    have d1 : decide (p1 ≤ (s.size : Int)) = true := decide_eq_true h1
    clear b12 bV hX hA b2 HC HB1 HT h2
    go_wp2_with (go_at_call 18; refine (unhide HKA).mono ?_; rintro e w3 ⟨rfl, b3⟩)
    go_ret
    exact ⟨rfl, FIN.out.trans (b3.mono FIN.out.size)⟩
end Go.Proofs.YtnbfnjhbmeocfaaGreatDoor.valus
