/- The walk of package float: span.shortest. -/
import Derived.Test.YtobbbhmkcmbekaaDoorFloatPickL
set_option linter.unusedVariables false
namespace Go.Proofs.YtobbbhmkcmbekaaDoor.bigs
open Go.RowKit
theorem top_level {r c u a i : Nat} (ha : a = fX r / 10 ^ c) (h : a / 10 ^ u < 10) (hi : c + u < i) : ¬ 10 ^ i ≤ fX r := by
  intro hle
  have h1 : a < 10 ^ (u + 1) := by
    rw [Nat.pow_succ, Nat.mul_comm]
    exact (Nat.div_lt_iff_lt_mul (pow10_pos u)).1 h
  have h2 : fX r < 10 ^ (u + 1) * 10 ^ c := by
    rw [ha] at h1
    exact (Nat.div_lt_iff_lt_mul (pow10_pos c)).1 h1
  rw [← Nat.pow_add] at h2
  have h3 : (10 : Nat) ^ (u + 1 + c) ≤ 10 ^ i := Nat.pow_le_pow_right (by omega) (by omega)
  omega
theorem level_le {r c u a : Nat} (ha : a = fX r / 10 ^ c) (h : 10 ^ u ≤ a) : 10 ^ (c + u) ≤ fX r := by
  rw [Nat.pow_add, Nat.mul_comm]
  rw [ha] at h
  exact (Nat.le_div_iff_mul_le (pow10_pos c)).1 h
theorem good_one {r c a : Nat} (h0 : 0 < r) (ha : a = fX r / 10 ^ c) (h : 100000000000000000 ≤ a) : Good r (c + 1) := by
  refine good_fine h0 ?_
  rw [ha] at h
  have := (Nat.le_div_iff_mul_le (pow10_pos c)).1 h
  rw [Nat.pow_succ]
  omega
set_option maxHeartbeats 4000000 in
set_option maxRecDepth 100000 in
theorem shortest_any (w : World) (r c a lo hi : Nat) (tn : Int) (more : Bool) (h0 : 0 < r) (ha : a = fX r / 10 ^ c) (hlo : lo = sLow r c) (hhi : hi = sHigh r c) (hmore : more = !decide (fX r % 10 ^ c = 0)) (hab1 : 100000000000000000 ≤ a) (hab : a < 9000000000000000000) (hl2 : lo < 18446744073709551616) (hh2 : hi < 18446744073709551616) :
    Calls Tryd.prog 24 #[.agg #[.int .u64 lo, .int .u64 a, .int .u64 hi, .bool more, .int .i64 tn]] w fun e w' => (∃ x : Nat, e = .returned (.int .u64 x) ∧ x < 18446744073709551616 ∧ ∃ j, Best r j (x * 10 ^ c)) ∧ Below w.heap.size w w' := by
  have KN : Hid (∀ (w' : World) (u : Nat) (UI : Int), UI = ((10 ^ u : Nat) : Int) → 1 ≤ u → 10 ^ u ≤ a → ∃ (x : Nat) (ok : Bool), x < 18446744073709551616 ∧ (ok = true → Pick r (c + u) (x * 10 ^ c)) ∧ (ok = false → ¬ Good r (c + u)) ∧
    Calls Tryd.prog 58 #[.agg #[.int .u64 lo, .int .u64 a, .int .u64 hi, .bool more, .int .i64 tn], .int .u64 UI] w' fun e w'' => e = .returned (.tuple #[.int .u64 x, .bool ok]) ∧ Below w'.heap.size w' w'') := hide (fun w' u UI e1 e2 e3 => nearestOf_pick w' r c u a lo hi UI tn more e1 h0 ha e2 hlo hhi hmore e3 hab hl2 hh2)
  have HT : Hid (∀ u i, a / 10 ^ u < 10 → c + u < i → ¬ 10 ^ i ≤ fX r) := hide (fun u i h k => top_level ha h k)
  have HL : Hid (∀ u, 10 ^ u ≤ a → 10 ^ (c + u) ≤ fX r) := hide (fun u h => level_le ha h)
  have HG : Hid (Good r (c + 1)) := hide (good_one h0 ha hab1)
  clear hlo hhi hmore ha h0 hl2 hh2
  go_enter Tryd.func24, Tryd.ntmps24
  have b0 : Below w.heap.size w (w.alloc (.cells #[.int .u64 lo, .int .u64 a, .int .u64 hi, .bool more, .int .i64 tn] 47)) := (Below.refl _ _).alloc (Nat.le_refl _) _
  have bk := blk_alloc w #[.int .u64 lo, .int .u64 a, .int .u64 hi, .bool more, .int .i64 tn] 47
  go_upto_region 1 with fail
  generalize w.alloc (.cells #[.int .u64 lo, .int .u64 a, .int .u64 hi, .bool more, .int .i64 tn] 47) = w1 at *
  have r0 := bk.cell 0 _ rfl
  have r1 := bk.cell 1 _ rfl
  have r2 := bk.cell 2 _ rfl
  have r3 := bk.cell 3 _ rfl
  have r4 := bk.cell 4 _ rfl
  have BK := hide bk
  have B0 := hide b0
  clear bk b0
  go_wp2
  go_loopw [3] (fun v wr => ∃ (u : Nat) (UI : Int), v = .int .u64 UI ∧ Hid (UI = ((10 ^ u : Nat) : Int)) ∧ 1 ≤ u ∧ 10 ≤ UI ∧ UI ≤ (a : Int) ∧ wr = w1) (fun v _ => a - (intOf v).toNat)
  case atStart => exact ⟨1, 10, rfl, hide rfl, Nat.le_refl _, by omega, by omega, by trivial⟩
  case round =>
    obtain ⟨u, UI, rfl, hUI, hu, hU1, hU2, rfl⟩ := hrel
    obtain ⟨Q, hQ⟩ : ∃ Q : Int, Q = (a : Int) / UI := ⟨_, rfl⟩
    have wr1 : IntKind.u64.wrap ((a : Int) / UI) = Q := by
      rw [← hQ]
      have q0 : 0 ≤ Q := by rw [hQ]; exact Int.ediv_nonneg (by omega) (by omega)
      have q1 : Q ≤ a := by rw [hQ]; exact Int.ediv_le_self _ (by omega)
      simp [IntKind.wrap, IntKind.bits, IntKind.signed]
      omega
    have n0 : UI ≠ 0 := by omega
    by_cases c1 : 10 ≤ Q
    · have hm : UI * 10 ≤ a := by
        rw [hQ] at c1
        have := (Int.le_ediv_iff_mul_le (by omega : 0 < UI)).1 c1
        omega
      have wr2 : IntKind.u64.wrap (UI * 10) = UI * 10 := by
        simp [IntKind.wrap, IntKind.bits, IntKind.signed]
        omega
      have HM : Hid (UI * 10 = ((10 ^ (u + 1) : Nat) : Int)) := hide (by rw [unhide hUI, Nat.pow_succ]; omega)
      have HB := hide hm
      clear hQ hm
      go_wp2
      go_roundw
      case rel => exact ⟨u + 1, UI * 10, by first | rfl | trivial, HM, by omega, by omega, unhide HB, by trivial⟩
      case measure => have := unhide HB; simp only [intOf]; omega
    · have HTOP : Hid (∀ i, c + u < i → ¬ 10 ^ i ≤ fX r) := hide (fun i k => unhide HT u i (by
        have e : ((a / 10 ^ u : Nat) : Int) = Q := by rw [hQ, unhide hUI]; exact Int.natCast_ediv _ _
        omega) k)
      have HU2 : Hid (10 ^ u ≤ a) := hide (by have := unhide hUI; omega)
      clear hQ
      obtain ⟨x, ok, hx, hp, hn, K⟩ := unhide KN wr u UI (unhide hUI) hu (unhide HU2)
      have HP := hide (And.intro hp hn)
      clear hp hn
      go_wp2_with fail
      refine K.mono ?_
      rintro e w2 ⟨rfl, b2⟩
      have bw2 := hide ((unhide B0).trans (b2.mono (unhide B0).size))
      have BK2 := hide ((unhide BK).below b2)
      clear K b2 r0 r1 r2 r3 r4 wr1
      go_wp2_with fail
      go_loopw [3, 4, 5] (fun v vx vo wr => ∃ (u : Nat) (UI : Int) (x : Nat) (ok : Bool), v = .int .u64 UI ∧ vx = .int .u64 x ∧ vo = .bool ok ∧ Hid (UI = ((10 ^ u : Nat) : Int)) ∧ 1 ≤ u ∧ 10 ≤ UI ∧ UI ≤ (a : Int) ∧ x < 18446744073709551616 ∧ Hid ((ok = true → Pick r (c + u) (x * 10 ^ c)) ∧ (ok = false → ¬ Good r (c + u))) ∧ Hid (∀ i, c + u < i → 10 ^ i ≤ fX r → ¬ Good r i) ∧ Hid (Below w.heap.size w wr) ∧ Hid (Blk wr w.heap.size #[.int .u64 lo, .int .u64 a, .int .u64 hi, .bool more, .int .i64 tn] 47)) (fun v _ _ _ => (intOf v).toNat)
      case atStart => exact ⟨u, UI, x, ok, rfl, rfl, rfl, hUI, hu, hU1, hU2, hx, HP, hide (fun i k h => absurd h (unhide HTOP i k)), bw2, BK2⟩
      case round =>
        clear HP HTOP HU2 bw2 BK2 hUI hu hU1 hU2 hx n0 c1
        obtain ⟨u, UI, x, ok, rfl, rfl, rfl, hUI, hu, hU1, hU2, hx, HP, HN, hB, hK⟩ := hrel
        have HU2 : Hid (10 ^ u ≤ a) := hide (by have := unhide hUI; omega)
        cases ok with
        | true =>
          have HBEST : Hid (∃ j, Best r j (x * 10 ^ c)) := hide ⟨c + u, unhide HL u (unhide HU2), (unhide HP).1 rfl, unhide HN⟩
          clear HP HN
          go_wp2_with fail
          go_ret
          exact ⟨⟨x, rfl, hx, unhide HBEST⟩, unhide hB⟩
        | false =>
          by_cases c2 : 10 < UI
          · obtain ⟨v, hv⟩ : ∃ v, u = v + 1 := ⟨u - 1, by omega⟩
            have HD : Hid (UI / 10 = ((10 ^ v : Nat) : Int)) := hide (by have := unhide hUI; rw [hv, Nat.pow_succ] at this; omega)
            have hv1 : 1 ≤ v := by
              rcases Nat.eq_zero_or_pos v with e | e
              · exfalso
                have := unhide HD
                rw [e] at this
                have := unhide hUI
                rw [hv, e] at this
                omega
              · exact e
            have HNEW : Hid (∀ i, c + v < i → 10 ^ i ≤ fX r → ¬ Good r i) := hide (fun i k h => by
              rcases Nat.lt_or_ge (c + u) i with g | g
              · exact unhide HN i g h
              · have e : i = c + u := by omega
                rw [e]
                exact (unhide HP).2 rfl)
            have d1 : 10 ≤ UI / 10 := by
              have := unhide HD
              obtain ⟨z, rfl⟩ : ∃ z, v = z + 1 := ⟨v - 1, by omega⟩
              have := pow10_pos z
              rw [Nat.pow_succ] at *
              omega
            have d2 : UI / 10 ≤ (a : Int) := by omega
            have HV2 : Hid (10 ^ v ≤ a) := hide (by have := unhide HD; omega)
            obtain ⟨x2, ok2, hx2, hp, hn, K⟩ := unhide KN wr v (UI / 10) (unhide HD) hv1 (unhide HV2)
            have HP2 := hide (And.intro hp hn)
            have HMEAS : Hid ((UI / 10).toNat < UI.toNat) := hide (by omega)
            generalize hVI : UI / 10 = VI at *
            have r0 := (unhide hK).cell 0 _ rfl
            have r1 := (unhide hK).cell 1 _ rfl
            have r2 := (unhide hK).cell 2 _ rfl
            have r3 := (unhide hK).cell 3 _ rfl
            have r4 := (unhide hK).cell 4 _ rfl
            clear hp hn HP HN hv
            go_wp2_with fail
            refine K.mono ?_
            rintro e w3 ⟨rfl, b3⟩
            have bw3 := hide ((unhide hB).trans (b3.mono (unhide hB).size))
            have BK3 := hide ((unhide hK).below b3)
            clear K b3 r0 r1 r2 r3 r4 hB hK
            go_wp2_with fail
            go_roundw
            case rel => exact ⟨v, VI, x2, ok2, by first | rfl | trivial, by first | rfl | trivial, by first | rfl | trivial, HD, hv1, d1, d2, hx2, HP2, HNEW, bw3, BK3⟩
            case measure => exact unhide HMEAS
          · exfalso
            have e : u = 1 := by
              rcases Nat.lt_or_ge 1 u with g | g
              · exfalso
                obtain ⟨z, rfl⟩ : ∃ z, u = z + 2 := ⟨u - 2, by omega⟩
                have := unhide hUI
                have p := pow10_pos z
                rw [Nat.pow_succ, Nat.pow_succ] at this
                omega
              · omega
            rw [e] at HP
            exact (unhide HP).2 rfl (unhide HG)
end Go.Proofs.YtobbbhmkcmbekaaDoor.bigs
