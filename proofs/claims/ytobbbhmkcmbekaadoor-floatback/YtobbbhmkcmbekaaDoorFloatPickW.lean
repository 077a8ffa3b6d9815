/- The walk of package float: span.nearestOf. -/
import Derived.Test.YtobbbhmkcmbekaaDoorFloatSpan13
import Derived.BigQuiet
set_option linter.unusedVariables false
namespace Go.Proofs.YtobbbhmkcmbekaaDoor.bigs
open Go.RowKit
/-- What nearestOf answers: R the rest, D the multiple below, P the one above, H half a unit, q how many units lie below. -/
def nearV (lo hi R D P H q : Int) (more : Bool) : Int × Bool :=
  if D < lo then (P, decide (P ≤ hi)) else if hi < P ∨ R < H then (D, true) else if R = H ∧ more = false ∧ q % 2 = 0 then (D, true) else (P, true)
set_option maxHeartbeats 4000000 in
set_option maxRecDepth 100000 in
theorem nearestOf_any (w : World) (lo A hi U R D P H q x : Int) (more ok : Bool) (tn : Int) (hU : 2 ≤ U) (hR : A % U = R) (hD : A - R = D) (hP : D + U = P) (hH : U / 2 = H) (hq : D / U = q) (hA : 0 ≤ A) (hl : 0 ≤ lo) (hh : 0 ≤ hi) (hD0 : 0 ≤ D) (hP0 : P < 18446744073709551616) (hl2 : lo < 18446744073709551616) (hh2 : hi < 18446744073709551616)
    (hx : nearV lo hi R D P H q more = (x, ok)) :
    Calls Tryd.prog 58 #[.agg #[.int .u64 lo, .int .u64 A, .int .u64 hi, .bool more, .int .i64 tn], .int .u64 U] w fun e w' => e = .returned (.tuple #[.int .u64 x, .bool ok]) ∧ Below w.heap.size w w' := by
  have R0 : 0 ≤ R := by rw [← hR]; exact Int.emod_nonneg _ (by omega)
  have R1 : R < U := by rw [← hR]; exact Int.emod_lt_of_pos _ (by omega)
  have wr1 : IntKind.u64.wrap (A - R) = D := by
    rw [hD]
    simp [IntKind.wrap, IntKind.bits, IntKind.signed]
    omega
  have wr2 : IntKind.u64.wrap (D + U) = P := by
    rw [hP]
    simp [IntKind.wrap, IntKind.bits, IntKind.signed]
    omega
  have q0 : 0 ≤ q := by rw [← hq]; exact Int.ediv_nonneg hD0 (by omega)
  have q1 : q ≤ D := by rw [← hq]; exact Int.ediv_le_self _ hD0
  have wr3 : IntKind.u64.wrap (D.tdiv U) = q := by
    rw [Int.tdiv_eq_ediv_of_nonneg hD0, hq]
    simp [IntKind.wrap, IntKind.bits, IntKind.signed]
    omega
  have wr4 : q.tmod 2 = q % 2 := Int.tmod_eq_emod_of_nonneg q0
  have HX := hide hx
  have P0 : 0 ≤ P := by omega
  have A1 : A < 18446744073709551616 := by omega
  have U1 : U < 18446744073709551616 := by omega
  clear hx hD hP
  go_enter Tryd.func58, Tryd.ntmps58
  have b0 : Below w.heap.size w (w.alloc (.cells #[.int .u64 lo, .int .u64 A, .int .u64 hi, .bool more, .int .i64 tn] 47)) := (Below.refl _ _).alloc (Nat.le_refl _) _
  have bk := blk_alloc w #[.int .u64 lo, .int .u64 A, .int .u64 hi, .bool more, .int .i64 tn] 47
  go_upto_region 1 with fail
  generalize w.alloc (.cells #[.int .u64 lo, .int .u64 A, .int .u64 hi, .bool more, .int .i64 tn] 47) = w1 at *
  have r0 := bk.cell 0 _ rfl
  have r1 := bk.cell 1 _ rfl
  have r2 := bk.cell 2 _ rfl
  have r3 := bk.cell 3 _ rfl
  have n0 : U ≠ 0 := by omega
  have B0 := hide b0
  clear bk b0
  go_upto_region 4 with fail
  by_cases c1 : D < lo
  · have E : Hid ((P, decide (P ≤ hi)) = (x, ok)) := hide (by have := unhide HX; unfold nearV at this; rwa [if_pos c1] at this)
    clear HX
    go_upto_region 5 with fail
    go_quiet (fail)
    go_wp2
    have e := Prod.mk.inj (unhide E)
    rw [← e.1, ← e.2]
    refine bodyPost_ret (v := .tuple #[.int .u64 P, .bool (decide (P ≤ hi))]) (by simp [results, Tryd.results58, go_sem]) rfl ⟨rfl, below_drewN (unhide B0) _⟩
  · have E : Hid ((if hi < P ∨ R < H then (D, true) else if R = H ∧ more = false ∧ q % 2 = 0 then (D, true) else (P, true)) = (x, ok)) := hide (by have := unhide HX; unfold nearV at this; rwa [if_neg c1] at this)
    clear HX
    by_cases c2 : hi < P
    · have E2 : Hid ((D, true) = (x, ok)) := hide (by have := unhide E; rwa [if_pos (.inl c2)] at this)
      clear E
      go_wp2
      have e := Prod.mk.inj (unhide E2)
      rw [← e.1, ← e.2]
      refine bodyPost_ret (v := .tuple #[.int .u64 D, .bool true]) (by simp [results, Tryd.results58, go_sem]) rfl ⟨rfl, unhide B0⟩
    · by_cases c3 : R < H
      · have E2 : Hid ((D, true) = (x, ok)) := hide (by have := unhide E; rwa [if_pos (.inr c3)] at this)
        clear E
        go_wp2
        have e := Prod.mk.inj (unhide E2)
        rw [← e.1, ← e.2]
        refine bodyPost_ret (v := .tuple #[.int .u64 D, .bool true]) (by simp [results, Tryd.results58, go_sem]) rfl ⟨rfl, unhide B0⟩
      · have E2 : Hid ((if R = H ∧ more = false ∧ q % 2 = 0 then (D, true) else (P, true)) = (x, ok)) := hide (by have := unhide E; rwa [if_neg (by omega)] at this)
        clear E
        go_upto_region 8 with fail
        by_cases c4 : R = H
        · cases more with
          | false =>
            by_cases c5 : q % 2 = 0
            · have y5 : (q % 2 == 0) = true := by rw [c5]; rfl
              have E3 : Hid ((D, true) = (x, ok)) := hide (by have := unhide E2; rwa [if_pos ⟨c4, rfl, c5⟩] at this)
              clear E2
              go_wp2
              have e := Prod.mk.inj (unhide E3)
              rw [← e.1, ← e.2]
              refine bodyPost_ret (v := .tuple #[.int .u64 D, .bool true]) (by simp [results, Tryd.results58, go_sem]) rfl ⟨rfl, unhide B0⟩
            · have y5 : (q % 2 == 0) = false := beq_false_of_ne c5
              have E3 : Hid ((P, true) = (x, ok)) := hide (by have := unhide E2; rwa [if_neg (fun h => c5 h.2.2)] at this)
              clear E2
              go_wp2
              have e := Prod.mk.inj (unhide E3)
              rw [← e.1, ← e.2]
              refine bodyPost_ret (v := .tuple #[.int .u64 P, .bool true]) (by simp [results, Tryd.results58, go_sem]) rfl ⟨rfl, unhide B0⟩
          | true =>
            have E3 : Hid ((P, true) = (x, ok)) := hide (by have := unhide E2; rwa [if_neg (fun h => by cases h.2.1)] at this)
            clear E2
            go_wp2
            have e := Prod.mk.inj (unhide E3)
            rw [← e.1, ← e.2]
            refine bodyPost_ret (v := .tuple #[.int .u64 P, .bool true]) (by simp [results, Tryd.results58, go_sem]) rfl ⟨rfl, unhide B0⟩
        · have E3 : Hid ((P, true) = (x, ok)) := hide (by have := unhide E2; rwa [if_neg (fun h => c4 h.1)] at this)
          clear E2
          go_wp2
          have e := Prod.mk.inj (unhide E3)
          rw [← e.1, ← e.2]
          refine bodyPost_ret (v := .tuple #[.int .u64 P, .bool true]) (by simp [results, Tryd.results58, go_sem]) rfl ⟨rfl, unhide B0⟩
end Go.Proofs.YtobbbhmkcmbekaaDoor.bigs
