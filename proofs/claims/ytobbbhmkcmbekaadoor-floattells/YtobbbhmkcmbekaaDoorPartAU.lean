/- The document's ShortOf: plain mathematics, and the walk of its closure. -/
import Derived.Test.YtobbbhmkcmbekaaDoorPartAQ
import Derived.Test.YtobbbhmkcmbekaaDoorPartAE
import Derived.Deep.QuietTactic
import Derived.BigQuiet
import Derived.Deep.CutRange
import Derived.Deep.RegionWith
set_option linter.unusedVariables false
namespace Go.Proofs.YtobbbhmkcmbekaaDoor.bigs
open Go.RowKit

theorem units (q E : Nat) : q * 2 ^ E * wF = q * 5 ^ sc * 2 ^ (E + 4) := by
  have e : c80 = sc := rfl
  rw [wF_eq2, e, Nat.pow_add]
  have e2 : (2 : Nat) ^ 4 = 16 := rfl
  rw [e2]
  generalize 5 ^ sc = z
  generalize 2 ^ E = y
  simp only [Nat.mul_assoc, Nat.mul_comm, Nat.mul_left_comm]
theorem fX_told (r : Nat) : fX r = mant r * 5 ^ sc * 2 ^ (r / 4503599627370496 - 1 + 6) := by
  unfold fX fval step
  rw [units, Nat.pow_add, Nat.pow_add]
  generalize 5 ^ sc = z
  generalize 2 ^ (r / 4503599627370496 - 1) = y
  generalize mant r = m
  have e2 : (2 : Nat) ^ 4 = 16 := rfl
  have e3 : (2 : Nat) ^ 6 = 16 * 4 := rfl
  rw [e2, e3]
  simp only [Nat.mul_assoc, Nat.mul_comm, Nat.mul_left_comm]
theorem fH_told (r : Nat) : fH r = (2 * mant r + 1) * 5 ^ sc * 2 ^ (r / 4503599627370496 - 1 + 5) := by
  unfold fH mid step
  rw [units, Nat.pow_add, Nat.pow_add]
  generalize 5 ^ sc = z
  generalize 2 ^ (r / 4503599627370496 - 1) = y
  generalize mant r = m
  have e2 : (2 : Nat) ^ 4 = 16 := rfl
  have e3 : (2 : Nat) ^ 5 = 16 * 2 := rfl
  have e4 : 4 * m + 2 = (2 * m + 1) * 2 := by omega
  rw [e2, e3, e4]
  simp only [Nat.mul_assoc, Nat.mul_comm, Nat.mul_left_comm]
theorem fL_told (r : Nat) (h : 0 < r) : (mant r = 4503599627370496 ∧ 0 < r / 4503599627370496 - 1 → fL r = (4 * mant r - 1) * 5 ^ sc * 2 ^ (r / 4503599627370496 - 1 + 4)) ∧ (¬ (mant r = 4503599627370496 ∧ 0 < r / 4503599627370496 - 1) → fL r = (2 * mant r - 1) * 5 ^ sc * 2 ^ (r / 4503599627370496 - 1 + 5)) := by
  obtain ⟨bel, hb, e⟩ := fL_eq r h
  unfold step at e
  rw [units] at e
  constructor
  · intro c
    rcases hb with ⟨_, _, hb⟩ | ⟨hb, _⟩
    · rw [e, hb]
    · exact absurd c hb
  · intro c
    rcases hb with ⟨h1, h2, _⟩ | ⟨_, hb⟩
    · exact absurd ⟨h1, h2⟩ c
    · rw [e, hb, Nat.pow_add, Nat.pow_add]
      generalize 5 ^ sc = z
      generalize 2 ^ (r / 4503599627370496 - 1) = y
      generalize mant r = m
      have e2 : (2 : Nat) ^ 4 = 16 := rfl
      have e3 : (2 : Nat) ^ 5 = 16 * 2 := rfl
      have e4 : 4 * m - 2 = (2 * m - 1) * 2 := by omega
      rw [e2, e3, e4]
      simp only [Nat.mul_assoc, Nat.mul_comm, Nat.mul_left_comm]
theorem dec_zeros (l : List UInt8) (j : Nat) : dec (l ++ (zeros j).data.toList) = dec l * 10 ^ j := by
  have e : (zeros j).data.toList = List.replicate j 48 := by unfold zeros; simp
  rw [e, dec_append, List.length_replicate]
  have : ∀ j, dec (List.replicate j 48) = 0 := by
    intro j
    induction j with
    | zero => rfl
    | succ j ih =>
      rw [List.replicate_succ, dec_cons, ih]
      simp
  rw [this]
  rfl
theorem front_dec {X n : Nat} (hn : n ≤ (decs X).length) : dec ((decs X).take n) = X / 10 ^ ((decs X).length - n) := by
  have h := dec_part (l := decs X) hn (Nat.le_refl _)
  have h2 := dec_part_lt (decs_form X).2.1 hn (Nat.le_refl _)
  rw [List.take_length, dec_decs] at h
  rw [List.take_length] at h2
  generalize dec ((decs X).drop n) = t at *
  generalize dec ((decs X).take n) = D at *
  generalize 10 ^ ((decs X).length - n) = P at *
  rw [h, Nat.mul_comm, Nat.mul_add_div (by omega), Nat.div_eq_of_lt h2]
  rfl
theorem level_lt {X i : Nat} (h : 10 ^ i ≤ X) : i < (decs X).length := by
  have h1 := dec_lt (decs_form X).2.1
  rw [dec_decs] at h1
  exact (Nat.pow_lt_pow_iff_right (by decide)).1 (Nat.lt_of_le_of_lt h h1)
theorem up_plain {X j : Nat} : upOf X j = if lowOf X j = X then lowOf X j else (X / 10 ^ j + 1) * 10 ^ j := by
  unfold upOf
  split
  · rfl
  · unfold lowOf
    rw [Nat.add_mul, Nat.one_mul]
theorem up_le (X j : Nat) : X ≤ upOf X j := by
  unfold upOf
  have := lt_lowOf X j
  split
  · omega
  · omega
/-- Which of the two is picked. -/
theorem pick_of {r j : Nat} {x y b : Bool} (hx : x = true ↔ Okay r (lowOf (fX r) j)) (hy : y = true ↔ Okay r (upOf (fX r) j)) (hxy : ¬ (x = false ∧ y = false)) (hb : b = true ↔ (x = false ∨ (y = true ∧ Upper (fX r) j))) : Pick r j (if b then upOf (fX r) j else lowOf (fX r) j) := by
  unfold Pick
  cases x with
  | false =>
    cases y with
    | false => exact absurd ⟨rfl, rfl⟩ hxy
    | true =>
      left
      have : b = true := hb.2 (.inl rfl)
      rw [if_pos this]
      exact ⟨(fun h => by have := hx.2 h; cases this), hy.1 rfl, rfl⟩
  | true =>
    cases y with
    | false =>
      right; left
      have : ¬ b = true := fun h => by rcases hb.1 h with h | ⟨h, _⟩ <;> cases h
      rw [if_neg this]
      exact ⟨hx.1 rfl, (fun h => by have := hy.2 h; cases this), rfl⟩
    | true =>
      right; right
      refine ⟨hx.1 rfl, hy.1 rfl, ?_⟩
      by_cases u : Upper (fX r) j
      · left
        rw [if_pos (hb.2 (.inr ⟨rfl, u⟩))]
        exact ⟨u, rfl⟩
      · right
        have : ¬ b = true := fun h => by
          rcases hb.1 h with h | ⟨_, h⟩
          · cases h
          · exact u h
        rw [if_neg this]
        exact ⟨u, rfl⟩
theorem okay_flag {r : Nat} {n : Nat} : Okay r n ↔ ((fL r < n ∧ n < fH r) ∨ (mant r % 2 = 0 ∧ fL r ≤ n ∧ n ≤ fH r)) := by
  unfold Okay
  rw [mant_par]
end Go.Proofs.YtobbbhmkcmbekaaDoor.bigs
/- The document's ShortOf: the walk of its closure. -/
set_option linter.unusedVariables false
namespace Go.Proofs.YtobbbhmkcmbekaaDoor.bigs
open Go.RowKit
set_option maxHeartbeats 8000000 in
set_option maxRecDepth 100000 in
/-- The closure of ShortOf. -/
theorem okC_any (w : World) (vx vl vh : Value) (bl bh bm n lo hi m : Nat) (f : Bool) (hn : (dig n).length ≤ 1048576) (hlo : (dig lo).length ≤ 1048576) (hhi : (dig hi).length ≤ 1048576) (Lx : Lies w vx n) (Ll : Lies w vl lo) (Lh : Lies w vh hi)
    (kl : Blk w bl #[vl] 52) (kh : Blk w bh #[vh] 52) (km : Blk w bm #[.int .u64 (m : Int)] 22) (hm : m < 18446744073709551616) (hf : Hid (f = true ↔ ((lo < n ∧ n < hi) ∨ (m % 2 = 0 ∧ lo ≤ n ∧ n ≤ hi)))) :
    Calls Tryd.prog 27 #[vx, .pointer (some ⟨bl, 0, none⟩), .pointer (some ⟨bh, 0, none⟩), .pointer (some ⟨bm, 0, none⟩)] w fun e w' => e = .returned (.bool f) ∧ Below w.heap.size w w' := by
  have K1 : ∀ W, Below w.heap.size w W → Hid (Calls Tryd.prog 28 #[vl, vx] W fun e w' => e = .returned (.int .i64 (sgn lo n)) ∧ w' = W) := fun W hW => hide (against_any W vl vx lo n hlo hn (Ll.below hW) (Lx.below hW))
  have K2 : ∀ W, Below w.heap.size w W → Hid (Calls Tryd.prog 28 #[vx, vh] W fun e w' => e = .returned (.int .i64 (sgn n hi)) ∧ w' = W) := fun W hW => hide (against_any W vx vh n hi hn hhi (Lx.below hW) (Lh.below hW))
  have c1 := kl.cell 0 _ rfl
  have c2 := kh.cell 0 _ rfl
  have KM := hide km
  obtain ⟨al, cl, rfl, _⟩ := Ll
  obtain ⟨ah, ch, rfl, _⟩ := Lh
  obtain ⟨ax, cx, rfl, _⟩ := Lx
  have S1 : Hid (f = ((decide (sgn lo n < 0) && decide (sgn n hi < 0)) || (decide (m % 2 = 0) && decide (sgn lo n ≤ 0) && decide (sgn n hi ≤ 0)))) := hide (by
    rw [Bool.eq_iff_iff, unhide hf]
    simp only [Bool.or_eq_true, Bool.and_eq_true, decide_eq_true_eq]
    unfold sgn
    constructor
    · rintro (⟨h1, h2⟩ | ⟨h0, h1, h2⟩)
      · left
        rw [if_pos h1, if_pos h2]
        decide
      · right
        refine ⟨⟨h0, ?_⟩, ?_⟩
        · split
          · decide
          · rw [if_neg (by omega)]; decide
        · split
          · decide
          · rw [if_neg (by omega)]; decide
    · rintro (⟨h1, h2⟩ | ⟨⟨h0, h1⟩, h2⟩)
      · left
        split at h1
        · split at h2
          · exact ⟨by assumption, by assumption⟩
          · split at h2 <;> exact absurd h2 (by decide)
        · split at h1 <;> exact absurd h1 (by decide)
      · right
        refine ⟨h0, ?_, ?_⟩
        · split at h1
          · omega
          · split at h1
            · exact absurd h1 (by decide)
            · omega
        · split at h2
          · omega
          · split at h2
            · exact absurd h2 (by decide)
            · omega)
  have ea : sgn lo n = -1 ∨ sgn lo n = 0 ∨ sgn lo n = 1 := by unfold sgn; split; exact .inl rfl; split; exact .inr (.inr rfl); exact .inr (.inl rfl)
  have eb : sgn n hi = -1 ∨ sgn n hi = 0 ∨ sgn n hi = 1 := by unfold sgn; split; exact .inl rfl; split; exact .inr (.inr rfl); exact .inr (.inl rfl)
  generalize sgn lo n = a at *
  generalize sgn n hi = b at *
  clear hf kl kh km
  generalize (dig lo).length = nl at *
  generalize (dig hi).length = nh at *
  generalize (dig n).length = nx at *
  go_enter Tryd.func27, Tryd.ntmps27
  go_upto_region 1 with fail
  go_cut [6, 7] from 8 to 13 (fun s6 s7 wx => s6 = .int .i64 a ∧ s7 = .int .i64 b ∧ Hid (Below w.heap.size w wx))
  case first =>
    go_region_with (first
      | (go_at_call_of 28 (Value.slice al nl cl); refine (unhide (K1 _ (by first | exact Below.refl _ _ | exact (Below.refl _ _).drew | exact below_drewN (Below.refl _ _) _))).mono ?_; rintro _ w3 ⟨rfl, rfl⟩)
      | (go_at_call_of 28 (Value.slice ax nx cx); refine (unhide (K2 _ (by first | exact Below.refl _ _ | exact (Below.refl _ _).drew | exact below_drewN (Below.refl _ _) _))).mono ?_; rintro _ w4 ⟨rfl, rfl⟩))
    all_goals
      go_wp2_with fail
      go_meet
      exact ⟨rfl, rfl, hide (by first | exact Below.refl _ _ | exact (Below.refl _ _).drew | exact below_drewN (Below.refl _ _) _)⟩
  case rest =>
  obtain ⟨rfl, rfl, hB⟩ := hcut
  have c3 := ((unhide KM).below (unhide hB)).cell 0 _ rfl
  clear K1 K2 KM c1 c2
  have r2 : (m : Int) % 2 = ((m % 2 : Nat) : Int) := by omega
  by_cases par : m % 2 = 0
  · have i5 : (((m : Int) % 2) == 0) = true := by rw [r2, par]; rfl
    have d : decide (m % 2 = 0) = true := decide_eq_true par
    rw [d] at S1
    clear d par r2
    rcases ea with rfl | rfl | rfl <;> rcases eb with rfl | rfl | rfl
    all_goals
      go_wp2
      go_ret
      rw [unhide S1]
      exact ⟨rfl, unhide hB⟩
  · have i5 : (((m : Int) % 2) == 0) = false := beq_false_of_ne (by omega)
    have d : decide (m % 2 = 0) = false := decide_eq_false par
    rw [d] at S1
    clear d par r2
    rcases ea with rfl | rfl | rfl <;> rcases eb with rfl | rfl | rfl
    all_goals
      go_wp2
      go_ret
      rw [unhide S1]
      exact ⟨rfl, unhide hB⟩
end Go.Proofs.YtobbbhmkcmbekaaDoor.bigs
