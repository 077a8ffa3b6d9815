/- The walk of the law that a document's nodes cover it. -/
import Derived.Test.YtoikdjbgeebadaaTreeCovX
set_option linter.unusedVariables false
namespace Go.Proofs.Ytoikdjbgeebadaa.trees
open Go.RowKit
open toks

theorem covers_any (s : ByteArray) (ta : Option Addr) (tc : Nat) (ll : List Tk) (hll : ll.length ≤ 20000) (hlne : ll ≠ []) (htc : ll.length ≤ tc) : ∀ (f : Nat) (ok : Nat → Prop) (w : World) (t : T) (u0 u1 u2 u3 : Value), RowT w ta ll → Lies ok f w [u0, u1, u2, u3] t → Slim 20000 f t → CovT ll f t → Calls Try.prog 15 #[.string s, .slice ta ll.length tc, .agg #[u0, u1, u2, u3]] w fun e w' => e = .returned (.bool true) ∧ Below w.heap.size w w'
  | 0, _, _, _, _, _, _, _, _, h, _, _ => h.elim
  | f + 1, ok, w, t, u0, u1, u2, u3, hr, hL, hs, hc => covers_step s ta tc ll hll hlne htc f (covers_any s ta tc ll hll hlne htc f) ok w t u0 u1 u2 u3 hr hL hs hc
theorem doc_toks {L : List UInt8} {t : T} {r : List Sym} (h : pd (sols L) = .inr (t, r)) : toksL L ≠ [] := by
  intro e
  have hs : sols L = [] := by unfold sols; rw [e]; rfl
  rw [hs] at h
  unfold pd at h
  rw [pv_nil] at h
  cases h
set_option maxHeartbeats 4000000 in
set_option maxRecDepth 100000 in
theorem lawCovers (w : World) (s : ByteArray) (hM : MaxOk w) :
    Calls Try.prog 5 #[.string s] w fun e w' => e = .returned (.bool true) ∧ Below w.heap.size w w' := by
  have K0 := hide (trees_any w hM)
  by_cases hs : 20000 < s.size
  · have K1 : ∀ u, Hid _ := fun u => hide (parse_large u s hs)
    clear hM
    go_enter Try.func5, Try.ntmps5
    go_wp2_with fail
    refine (unhide K0).mono ?_
    rintro e w1 ⟨rfl, b1⟩
    dsimp only
    have B1 := hide b1
    clear K0 b1
    go_wp2_with fail
    refine (unhide (K1 w1)).mono ?_
    rintro e w2 ⟨rfl, b2⟩
    dsimp only
    have B2 := hide ((((unhide B1).trans (b2.mono (unhide B1).size))).alloc (Nat.le_trans (unhide B1).size b2.size) (.cells #[.int .i64 0, .int .i64 0, .int .i64 0, .slice none 0 0] 24))
    clear K1 b2 B1
    go_wp2
    go_ret
    exact ⟨rfl, unhide B2⟩
  have hs : s.size ≤ 20000 := by omega
  have K1 : ∀ u, Below w.heap.size w u → Hid _ := fun u hu => hide (parse_any u s hs (hM.below (Nat.le_refl _) hu))
  rcases docR_cases (toksL s.data.toList).length (sols s.data.toList) with ⟨c, te, hd, hp, hc⟩ | ⟨t0, hd, hp⟩
  · rw [hd] at K1
    have jc1 : ((c : Int) == 0) = false := beq_false_of_ne (by omega)
    have jc2 : ((c : Int) != 0) = true := by unfold bne; rw [jc1]; rfl
    clear hd hp hM hc
    go_enter Try.func5, Try.ntmps5
    go_wp2_with fail
    refine (unhide K0).mono ?_
    rintro e w1 ⟨rfl, b1⟩
    dsimp only
    have K1a := K1 w1 b1
    have B1 := hide b1
    clear K0 b1 K1
    go_wp2_with fail
    refine (unhide K1a).mono ?_
    rintro e w2 ⟨b2, rfl⟩
    dsimp only
    generalize placeOf s (toksL s.data.toList) te = z at *
    have B3 := hide ((((unhide B1).trans (b2.mono (unhide B1).size))).alloc (Nat.le_trans (unhide B1).size b2.size) (.cells #[.int .i64 0, .int .i64 0, .int .i64 0, .slice none 0 0] 24))
    clear K1a b2 B1
    go_wp2
    go_ret
    exact ⟨rfl, unhide B3⟩
  rw [hd] at K1
  have KC : ∀ u, Below w.heap.size w u → Hid _ := fun u hu => hide (cut_any s u hs (hM.below (Nat.le_refl _) hu))
  have SL := hide (slim_up _ _ _ (doc_slim s hs hp (toksL s.data.toList).length))
  have CV := hide (doc_cov s.data.toList t0 hp)
  have hne := doc_toks hp
  have hll := (good s hs).len
  clear hd hM hp
  generalize toksL s.data.toList = ll at *
  go_enter Try.func5, Try.ntmps5
  go_wp2_with fail
  refine (unhide K0).mono ?_
  rintro e w1 ⟨rfl, b1⟩
  dsimp only
  have K1a := K1 w1 b1
  have B1 := hide b1
  clear K0 b1 K1
  go_wp2_with fail
  refine (unhide K1a).mono ?_
  rintro e w2 ⟨b2, u0, u1, u2, u3, rfl, hL⟩
  dsimp only
  have hb12 := (unhide B1).trans (b2.mono (unhide B1).size)
  have HL := hide hL
  obtain ⟨rfl, rfl, rfl, p, c, rfl, hcl⟩ := hL.node
  have ba : Below w2.heap.size w2 (w2.alloc (.cells #[.int .i64 6, .int .i64 0, .int .i64 (ll.length : Int), .slice p 1 c] 24)) := (Below.refl _ w2).alloc (Nat.le_refl _) _
  have hb3 := hb12.alloc hb12.size (.cells #[.int .i64 6, .int .i64 0, .int .i64 (ll.length : Int), .slice p 1 c] 24)
  have KCa := KC _ hb3
  have B3 := hide hb3
  have HL3 := hide ((unhide HL).below ba)
  have NB := hide (blk_alloc w2 #[.int .i64 6, .int .i64 0, .int .i64 (ll.length : Int), .slice p 1 c] 24)
  clear K1a KC b2 hb12 hL hcl B1 ba hb3 HL
  go_wp2_with fail
  refine (unhide KCa).mono ?_
  rintro e w4 ⟨v, rfl, ⟨ta, tc, rfl, htc, row⟩, b4⟩
  dsimp only
  have B4 := hide ((unhide B3).trans (b4.mono (unhide B3).size))
  have KV := hide (covers_any s ta tc ll hll hne htc 42 _ w4 (nd 6 0 ll.length [t0]) _ _ _ _ row ((unhide HL3).below b4).up (unhide SL) (unhide CV))
  obtain ⟨x0, x1, x2, x3⟩ := Blk.cells4 (Blk.below (unhide NB) b4)
  clear KCa row b4 B3 HL3 NB SL CV
  go_wp2_with fail
  refine (unhide KV).mono ?_
  rintro e w5 ⟨rfl, b5⟩
  dsimp only
  have B5 := hide ((unhide B4).trans (b5.mono (unhide B4).size))
  clear KV b5 B4 x0 x1 x2 x3
  go_wp2
  go_ret
  exact ⟨rfl, unhide B5⟩
end Go.Proofs.Ytoikdjbgeebadaa.trees
