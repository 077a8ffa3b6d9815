/- The walk of the law that Source answers what the document says. -/
import Derived.Test.YtoikdjbgeebadaaTreeSrcW
import Derived.Test.YtoikdjbgeebadaaTokRefT
import Derived.Test.YtoikdjbgeebadaaTreeRdW
set_option linter.unusedVariables false
namespace Go.Proofs.Ytoikdjbgeebadaa.trees
open Go.RowKit
open toks

set_option maxHeartbeats 4000000 in
set_option maxRecDepth 100000 in
theorem lawSources (w : World) (s : ByteArray) (k at' en : Int) (p : Option Addr) (n c : Nat) (ha : -9223372036854775808 ≤ at' ∧ at' ≤ 9223372036854775807) (he : -9223372036854775808 ≤ en ∧ en ≤ 9223372036854775807) (hM : MaxOk w) :
    Calls Try.prog 4 #[.string s, .agg #[.int .i64 k, .int .i64 at', .int .i64 en, .slice p n c]] w fun e w' => e = .returned (.bool true) ∧ Below w.heap.size w w' := by
  have b1 := (Below.refl _ w).alloc (Nat.le_refl _) (.cells #[.int .i64 k, .int .i64 at', .int .i64 en, .slice p n c] 24)
  have nb := blk_alloc w #[.int .i64 k, .int .i64 at', .int .i64 en, .slice p n c] 24
  have B1 := hide b1
  have NB := hide nb
  by_cases hs : 20000 < s.size
  · have K1 : ∀ u, Hid _ := fun u => hide (tokens_large s u hs)
    have K2 : ∀ u, Hid _ := fun u => hide (source_large u s k at' en p n c hs)
    clear hM b1 nb hs ha he
    go_enter Try.func4, Try.ntmps4
    go_wp2_with fail
    refine (unhide (K1 _)).mono ?_
    rintro e w1 ⟨rfl, hw⟩
    rw [hw]
    dsimp only
    clear hw K1
    obtain ⟨c0, c1, c2, c3⟩ := Blk.cells4 (unhide NB)
    go_wp2_with fail
    refine (unhide (K2 _)).mono ?_
    rintro e w2 ⟨rfl, b2⟩
    dsimp only
    have B2 := hide ((unhide B1).trans (b2.mono (unhide B1).size))
    clear K2 b2 B1 NB c0 c1 c2 c3
    go_wp2
    go_ret
    exact ⟨rfl, unhide B2⟩
  have hs : s.size ≤ 20000 := by omega
  have K1 : Hid _ := hide (tokens_any s (w.alloc (.cells #[.int .i64 k, .int .i64 at', .int .i64 en, .slice p n c] 24)) hs)
  by_cases hg : 0 ≤ at' ∧ at' < en ∧ en ≤ ((toksL s.data.toList).length : Int)
  · obtain ⟨A, rfl⟩ : ∃ A : Nat, at' = A := ⟨at'.toNat, by omega⟩
    obtain ⟨E, rfl⟩ : ∃ E : Nat, en = (E : Int) + 1 := ⟨(en - 1).toNat, by omega⟩
    have hAE : A ≤ E := by omega
    have hE : E < (toksL s.data.toList).length := by omega
    have K2 : ∀ u, Below w.heap.size w u → Hid _ := fun u hu => hide (source_good u s k A E p n c hs (hM.below (Nat.le_refl _) hu) hAE hE)
    obtain ⟨hp1, hp2⟩ := src_parts s hAE hE
    have hl := (good s hs).len
    clear hM b1 nb hg ha he
    generalize toksL s.data.toList = l at *
    have i1 : (A : Int) ≥ 0 := by omega
    have d1 : decide ((A : Int) ≥ 0) = true := decide_eq_true i1
    have i2 : (A : Int) < (E : Int) + 1 := by omega
    have d2 : decide ((A : Int) < (E : Int) + 1) = true := decide_eq_true i2
    have i3 : (E : Int) + 1 ≤ (l.length : Int) := by omega
    have d3 : decide ((E : Int) + 1 ≤ (l.length : Int)) = true := decide_eq_true i3
    have i4 : (A : Int) < (l.length : Int) := by omega
    have i5 : (E : Int) < (l.length : Int) := by omega
    have hA : A < l.length := by omega
    have EF : Hid (srcN s l A E = s.extract l[A].fro l[E].til) := hide (by unfold srcN; rw [getD_tk' hE, getD_tk' hA])
    rw [getD_tk' hE] at hp1 hp2
    rw [getD_tk' hA] at hp1
    go_enter Try.func4, Try.ntmps4
    go_wp2_with fail
    refine (unhide K1).mono ?_
    rintro e w1 ⟨v, rfl, ⟨a, cap, rfl, hcap, row⟩, b2⟩
    dsimp only
    obtain ⟨c0, c1, c2, c3⟩ := Blk.cells4 (Blk.below (unhide NB) b2)
    have b3 := (unhide B1).trans (b2.mono (unhide B1).size)
    have B3 := hide b3
    have K2a : ∀ nq, Hid _ := fun nq => K2 (w1.drewN nq) (below_drewN b3 nq)
    obtain ⟨b, o, rfl, hb, q⟩ := row (fun e => by rw [e] at hE; simp at hE)
    obtain ⟨_, x2, _⟩ := q A hA
    obtain ⟨_, _, x3⟩ := q E hE
    clear K1 K2 row b2 b3 NB B1 q
    generalize l[A].fro = y1 at *
    generalize l[E].til = y2 at *
    have j1 : (y1 : Int) ≤ (y2 : Int) := by omega
    have j2 : (y2 : Int) ≤ (s.size : Int) := by omega
    go_wp2_with fail
    go_quiet (fail)
    have K3 := K2a nq
    rw [unhide EF] at K3
    generalize s.extract y1 y2 = X at *
    clear K2a EF
    go_wp2_with fail
    refine (unhide K3).mono ?_
    rintro e w4 ⟨rfl, b4⟩
    dsimp only
    have B4 := hide ((below_drewN (unhide B3) nq).trans (b4.mono (unhide B3).size))
    clear K3 b4 B3 c0 c1 c2 c3 x2 x3
    go_wp2
    go_ret
    exact ⟨rfl, unhide B4⟩
  · have K2 : ∀ u, Below w.heap.size w u → Hid _ := fun u hu => hide (source_bad u s k at' en p n c hs (hM.below (Nat.le_refl _) hu) hg)
    have hl := (good s hs).len
    clear hM b1 nb
    generalize toksL s.data.toList = l at *
    have hlz : (l.length : Int) ≤ 20000 := by omega
    by_cases h1 : at' ≥ 0
    · have d1 : decide (at' ≥ 0) = true := decide_eq_true h1
      by_cases h2 : at' < en
      · have d2 : decide (at' < en) = true := decide_eq_true h2
        have h3 : ¬ en ≤ (l.length : Int) := by omega
        have d3 : decide (en ≤ (l.length : Int)) = false := decide_eq_false h3
        clear hg
        go_enter Try.func4, Try.ntmps4
        go_wp2_with fail
        refine (unhide K1).mono ?_
        rintro e w1 ⟨v, rfl, ⟨a, cap, rfl, hcap, row⟩, b2⟩
        dsimp only
        obtain ⟨c0, c1, c2, c3⟩ := Blk.cells4 (Blk.below (unhide NB) b2)
        have b3 := (unhide B1).trans (b2.mono (unhide B1).size)
        have B3 := hide b3
        have K3 := K2 w1 b3
        clear K1 K2 row b2 b3 NB B1
        go_wp2_with fail
        refine (unhide K3).mono ?_
        rintro e w4 ⟨rfl, b4⟩
        dsimp only
        have B4 := hide ((unhide B3).trans (b4.mono (unhide B3).size))
        clear K3 b4 B3 c0 c1 c2 c3
        go_wp2
        go_ret
        exact ⟨rfl, unhide B4⟩
      · have d2 : decide (at' < en) = false := decide_eq_false h2
        clear hg
        go_enter Try.func4, Try.ntmps4
        go_wp2_with fail
        refine (unhide K1).mono ?_
        rintro e w1 ⟨v, rfl, ⟨a, cap, rfl, hcap, row⟩, b2⟩
        dsimp only
        obtain ⟨c0, c1, c2, c3⟩ := Blk.cells4 (Blk.below (unhide NB) b2)
        have b3 := (unhide B1).trans (b2.mono (unhide B1).size)
        have B3 := hide b3
        have K3 := K2 w1 b3
        clear K1 K2 row b2 b3 NB B1
        go_wp2_with fail
        refine (unhide K3).mono ?_
        rintro e w4 ⟨rfl, b4⟩
        dsimp only
        have B4 := hide ((unhide B3).trans (b4.mono (unhide B3).size))
        clear K3 b4 B3 c0 c1 c2 c3
        go_wp2
        go_ret
        exact ⟨rfl, unhide B4⟩
    · have d1 : decide (at' ≥ 0) = false := decide_eq_false h1
      clear hg
      go_enter Try.func4, Try.ntmps4
      go_wp2_with fail
      refine (unhide K1).mono ?_
      rintro e w1 ⟨v, rfl, ⟨a, cap, rfl, hcap, row⟩, b2⟩
      dsimp only
      obtain ⟨c0, c1, c2, c3⟩ := Blk.cells4 (Blk.below (unhide NB) b2)
      have b3 := (unhide B1).trans (b2.mono (unhide B1).size)
      have B3 := hide b3
      have K3 := K2 w1 b3
      clear K1 K2 row b2 b3 NB B1
      go_wp2_with fail
      refine (unhide K3).mono ?_
      rintro e w4 ⟨rfl, b4⟩
      dsimp only
      have B4 := hide ((unhide B3).trans (b4.mono (unhide B3).size))
      clear K3 b4 B3 c0 c1 c2 c3
      go_wp2
      go_ret
      exact ⟨rfl, unhide B4⟩
end Go.Proofs.Ytoikdjbgeebadaa.trees
