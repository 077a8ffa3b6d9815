/- What nearestOf answers is the pick of its level. -/
import Derived.Test.YtobbbhmkcmbekaaDoorFloatPickW
set_option linter.unusedVariables false
namespace Go.Proofs.YtobbbhmkcmbekaaDoor.bigs
open Go.RowKit
theorem near_pick {r c u a : Nat} (h0 : 0 < r) (ha : a = fX r / 10 ^ c) (hu : 1 ≤ u) : ∃ (x : Nat) (ok : Bool), nearV (sLow r c : Nat) (sHigh r c : Nat) ((a % 10 ^ u : Nat) : Int) ((a / 10 ^ u * 10 ^ u : Nat) : Int) ((a / 10 ^ u * 10 ^ u + 10 ^ u : Nat) : Int) ((10 ^ u / 2 : Nat) : Int) ((a / 10 ^ u : Nat) : Int) (!decide (fX r % 10 ^ c = 0)) = ((x : Int), ok) ∧ x ≤ a / 10 ^ u * 10 ^ u + 10 ^ u ∧ (ok = true → Pick r (c + u) (x * 10 ^ c)) ∧ (ok = false → ¬ Good r (c + u)) := by
  have hlow := near_low (u := u) h0 ha
  have hdown := near_down h0 ha hu
  have hup := near_up h0 ha hu
  have hm : ((!decide (fX r % 10 ^ c = 0)) = false) ↔ fX r % 10 ^ c = 0 := by simp
  generalize (!decide (fX r % 10 ^ c = 0)) = more at *
  have hq : ((a / 10 ^ u : Nat) : Int) % 2 = 0 ↔ a / 10 ^ u % 2 = 0 := by omega
  generalize hqq : ((a / 10 ^ u : Nat) : Int) = q at *
  clear hqq
  generalize a / 10 ^ u * 10 ^ u = D at *
  generalize a % 10 ^ u = R at *
  generalize 10 ^ u / 2 = H at *
  have hU : D ≤ D + 10 ^ u := Nat.le_add_right _ _
  generalize D + 10 ^ u = P at *
  generalize sLow r c = lo at *
  generalize sHigh r c = hi at *
  by_cases c1 : D < lo
  · refine ⟨P, decide (P ≤ hi), ?_, Nat.le_refl _, ?_, ?_⟩
    · unfold nearV
      rw [if_pos (by omega)]
      congr 1
      exact decide_eq_decide.2 (by omega)
    · intro h
      exact (hlow c1).1 (of_decide_eq_true h)
    · intro h
      exact (hlow c1).2 (of_decide_eq_false h)
  · by_cases c2 : hi < P ∨ R < H
    · refine ⟨D, true, ?_, hU, ?_, ?_⟩
      · unfold nearV
        rw [if_neg (by omega), if_pos (by omega)]
      · intro _
        exact hdown c1 (by rcases c2 with h | h; exact .inl h; exact .inr (.inl h))
      · intro h
        cases h
    · by_cases c3 : R = H ∧ more = false ∧ q % 2 = 0
      · refine ⟨D, true, ?_, hU, ?_, ?_⟩
        · unfold nearV
          rw [if_neg (by omega), if_neg (by omega), if_pos ⟨by omega, c3.2.1, c3.2.2⟩]
        · intro _
          exact hdown c1 (.inr (.inr ⟨c3.1, hm.1 c3.2.1, hq.1 c3.2.2⟩))
        · intro h
          cases h
      · refine ⟨P, true, ?_, Nat.le_refl _, ?_, ?_⟩
        · unfold nearV
          rw [if_neg (by omega), if_neg (by omega), if_neg (fun h => c3 ⟨by omega, h.2.1, h.2.2⟩)]
        · intro _
          exact hup c1 (by omega) (by omega) (fun h => c3 ⟨h.1, hm.2 h.2.1, hq.2 h.2.2⟩)
        · intro h
          cases h
/-- nearestOf, over the span of r in units of 10^c and a unit of 10^u. -/
theorem nearestOf_pick (w : World) (r c u a lo hi : Nat) (UI tn : Int) (more : Bool) (hUI : UI = ((10 ^ u : Nat) : Int)) (h0 : 0 < r) (ha : a = fX r / 10 ^ c) (hu : 1 ≤ u) (hlo : lo = sLow r c) (hhi : hi = sHigh r c) (hmore : more = !decide (fX r % 10 ^ c = 0)) (hau : 10 ^ u ≤ a) (hab : a < 9000000000000000000) (hl2 : lo < 18446744073709551616) (hh2 : hi < 18446744073709551616) : ∃ (x : Nat) (ok : Bool), x < 18446744073709551616 ∧ (ok = true → Pick r (c + u) (x * 10 ^ c)) ∧ (ok = false → ¬ Good r (c + u)) ∧
    Calls Tryd.prog 58 #[.agg #[.int .u64 lo, .int .u64 a, .int .u64 hi, .bool more, .int .i64 tn], .int .u64 UI] w fun e w' => e = .returned (.tuple #[.int .u64 x, .bool ok]) ∧ Below w.heap.size w w' := by
  obtain ⟨x, ok, h, hx, h1, h2⟩ := near_pick h0 ha hu
  rw [← hlo, ← hhi, ← hmore] at h
  have e1 := Nat.div_add_mod a (10 ^ u)
  have e2 : a / 10 ^ u * 10 ^ u ≤ a := Nat.div_mul_le_self _ _
  rw [Nat.mul_comm] at e1
  have t2 : 2 ≤ 10 ^ u := by
    obtain ⟨v, rfl⟩ : ∃ v, u = v + 1 := ⟨u - 1, by omega⟩
    have := pow10_pos v
    rw [Nat.pow_succ]
    omega
  have k1 : ((a : Nat) : Int) % UI = ((a % 10 ^ u : Nat) : Int) := by rw [hUI]; exact (Int.natCast_emod _ _).symm
  have k2 : ((a / 10 ^ u * 10 ^ u : Nat) : Int) / UI = ((a / 10 ^ u : Nat) : Int) := by
    rw [hUI, ← Int.natCast_ediv, Nat.mul_div_cancel _ (by omega)]
  have k3 : UI / 2 = ((10 ^ u / 2 : Nat) : Int) := by rw [hUI]; omega
  refine ⟨x, ok, by omega, h1, h2, nearestOf_any w lo a hi UI _ _ _ _ _ x more ok tn (by omega) k1 ?_ ?_ k3 k2 (by omega) (by omega) (by omega) (by omega) (by omega) (by omega) (by omega) h⟩
  · omega
  · rw [hUI]; omega
end Go.Proofs.YtobbbhmkcmbekaaDoor.bigs
