/- The walk of the law that Parse answers what the document says. -/
import Derived.Test.YtoikdjbgeebadaaPartAM
import Derived.Test.YtoikdjbgeebadaaPartAJ
set_option linter.unusedVariables false
namespace Go.Proofs.Ytoikdjbgeebadaa.trees
open Go.RowKit
open toks

theorem same_zero (w : World) : Calls Try.prog 10 #[(.agg #[.int .i64 0, .int .i64 0, .int .i64 0, .slice none 0 0]), (.agg #[.int .i64 0, .int .i64 0, .int .i64 0, .slice none 0 0])] w fun e w' => e = .returned (.bool true) ∧ Below w.heap.size w w' :=
  same_any 1 (fun _ => True) (fun _ => True) w (nd 0 0 0 []) _ _ _ _ _ _ _ _ (lies_leaf _ 0 w 0 0 0) (lies_leaf _ 0 w 0 0 0) ⟨0, 0, 0, [], rfl, Nat.zero_le _, fun j h => by simp at h⟩
set_option maxHeartbeats 4000000 in
set_option maxRecDepth 100000 in
theorem lawParses (w : World) (s : ByteArray) (hM : MaxOk w) :
    Calls Try.prog 3 #[.string s] w fun e w' => e = .returned (.bool true) ∧ Below w.heap.size w w' := by
  have KZ : ∀ u, Hid _ := fun u => hide (same_zero u)
  by_cases hs : 20000 < s.size
  · have K1 := hide (parse_large w s hs)
    have K2 : ∀ u, Hid _ := fun u => hide (parsed_large u s hs)
    clear hM
    go_enter Try.func3, Try.ntmps3
    go_wp2_with fail
    refine (unhide K1).mono ?_
    rintro e w1 ⟨rfl, b1⟩
    dsimp only
    have b1' := b1.alloc b1.size (.cells #[.int .i64 0, .int .i64 0, .int .i64 0, .slice none 0 0] 24)
    have na := hide (blk_alloc w1 #[.int .i64 0, .int .i64 0, .int .i64 0, .slice none 0 0] 24)
    have B1 := hide b1'
    clear K1 b1 b1'
    go_wp2_with fail
    refine (unhide (K2 _)).mono ?_
    rintro e w2 ⟨rfl, b2⟩
    dsimp only
    have B2 := hide (((unhide B1).trans (b2.mono (unhide B1).size)).alloc (Nat.le_trans (unhide B1).size b2.size) (.cells #[.int .i64 0, .int .i64 0, .int .i64 0, .slice none 0 0] 24))
    obtain ⟨c0, c1, c2, c3⟩ := Blk.cells4 (Blk.alloc (Blk.below (unhide na) b2) (.cells #[.int .i64 0, .int .i64 0, .int .i64 0, .slice none 0 0] 24))
    clear K2 b2 B1 na
    go_wp2_with fail
    refine (unhide (KZ _)).mono ?_
    rintro e w3 ⟨rfl, b3⟩
    dsimp only
    have B3 := hide ((unhide B2).trans (b3.mono (unhide B2).size))
    clear KZ b3 B2 c0 c1 c2 c3
    go_wp2
    go_ret
    exact ⟨rfl, unhide B3⟩
  have hs : s.size ≤ 20000 := by omega
  have K1 := hide (parse_any w s hs hM)
  have K2 : ∀ u, Hid _ := fun u => hide (parsed_any u s hs)
  have hpl := place_le (good s hs)
  rcases docR_cases (toksL s.data.toList).length (sols s.data.toList) with ⟨c, te, hd, hp, hc⟩ | ⟨t, hd, hp⟩
  · rw [hd] at K1 K2
    have hz := hpl te
    clear hM hd hp hpl
    have hc5 : c ≤ 5 := by omega
    obtain ⟨z, ez⟩ : ∃ z, placeOf s (toksL s.data.toList) te = z := ⟨_, rfl⟩
    have EZ := hide ez
    rw [ez] at hz
    clear ez hc
    go_enter Try.func3, Try.ntmps3
    go_wp2_with fail
    refine (unhide K1).mono ?_
    rintro e w1 ⟨b1, rfl⟩
    dsimp only
    rw [unhide EZ]
    have b1' := b1.alloc b1.size (.cells #[.int .i64 0, .int .i64 0, .int .i64 0, .slice none 0 0] 24)
    have na := hide (blk_alloc w1 #[.int .i64 0, .int .i64 0, .int .i64 0, .slice none 0 0] 24)
    have B1 := hide b1'
    clear K1 b1 b1'
    go_wp2_with fail
    refine (unhide (K2 _)).mono ?_
    rintro e w2 ⟨b2, rfl⟩
    dsimp only
    rw [unhide EZ]
    have B2 := hide (((unhide B1).trans (b2.mono (unhide B1).size)).alloc (Nat.le_trans (unhide B1).size b2.size) (.cells #[.int .i64 0, .int .i64 0, .int .i64 0, .slice none 0 0] 24))
    obtain ⟨c0, c1, c2, c3⟩ := Blk.cells4 (Blk.alloc (Blk.below (unhide na) b2) (.cells #[.int .i64 0, .int .i64 0, .int .i64 0, .slice none 0 0] 24))
    clear K2 b2 B1 na
    go_wp2_with fail
    refine (unhide (KZ _)).mono ?_
    rintro e w3 ⟨rfl, b3⟩
    dsimp only
    have B3 := hide ((unhide B2).trans (b3.mono (unhide B2).size))
    clear KZ b3 B2 c0 c1 c2 c3
    go_wp2
    go_ret
    exact ⟨rfl, unhide B3⟩
  · rw [hd] at K1 K2
    have SL := hide (doc_slim s hs hp (toksL s.data.toList).length)
    clear hM hd hp hpl KZ
    generalize nd 6 0 (toksL s.data.toList).length [t] = tt at *
    go_enter Try.func3, Try.ntmps3
    go_wp2_with fail
    refine (unhide K1).mono ?_
    rintro e w1 ⟨b1, u0, u1, u2, u3, rfl, hL1⟩
    dsimp only
    obtain ⟨k0, a0, e0, pk, nk, ck, rfl, rfl, rfl, rfl⟩ := hL1.form
    have b1' := b1.alloc b1.size (.cells #[.int .i64 (k0 : Int), .int .i64 (a0 : Int), .int .i64 (e0 : Int), .slice pk nk ck] 24)
    have na := hide (blk_alloc w1 #[.int .i64 (k0 : Int), .int .i64 (a0 : Int), .int .i64 (e0 : Int), .slice pk nk ck] 24)
    have L1 := hide (hL1.below ((Below.refl _ w1).alloc (Nat.le_refl _) (.cells #[.int .i64 (k0 : Int), .int .i64 (a0 : Int), .int .i64 (e0 : Int), .slice pk nk ck] 24)))
    have B1 := hide b1'
    clear K1 b1 b1' hL1
    go_wp2_with fail
    refine (unhide (K2 _)).mono ?_
    rintro e w2 ⟨b2, v0, v1, v2, v3, rfl, hL2⟩
    dsimp only
    obtain ⟨k2, a2, e2, p2, n2, c2, rfl, rfl, rfl, rfl⟩ := hL2.form
    have bb : Below w2.heap.size w2 (w2.alloc (.cells #[.int .i64 (k2 : Int), .int .i64 (a2 : Int), .int .i64 (e2 : Int), .slice p2 n2 c2] 24)) := (Below.refl _ w2).alloc (Nat.le_refl _) _
    have B2 := hide (((unhide B1).trans (b2.mono (unhide B1).size)).alloc (Nat.le_trans (unhide B1).size b2.size) (.cells #[.int .i64 (k2 : Int), .int .i64 (a2 : Int), .int .i64 (e2 : Int), .slice p2 n2 c2] 24))
    have KS := hide (same_any 41 _ _ _ tt _ _ _ _ _ _ _ _ (((unhide L1).below b2).below bb) (hL2.below bb) (unhide SL))
    obtain ⟨x0, x1, x2, x3⟩ := Blk.cells4 (Blk.below (Blk.below (unhide na) b2) bb)
    obtain ⟨y0, y1, y2, y3⟩ := Blk.cells4 (blk_alloc w2 #[.int .i64 (k2 : Int), .int .i64 (a2 : Int), .int .i64 (e2 : Int), .slice p2 n2 c2] 24)
    clear K2 b2 B1 na hL2 L1 SL bb
    go_wp2_with fail
    refine (unhide KS).mono ?_
    rintro e w3 ⟨rfl, b3⟩
    dsimp only
    have B3 := hide ((unhide B2).trans (b3.mono (unhide B2).size))
    clear KS b3 B2 x0 x1 x2 x3 y0 y1 y2 y3
    go_wp2
    go_ret
    exact ⟨rfl, unhide B3⟩
end Go.Proofs.Ytoikdjbgeebadaa.trees
