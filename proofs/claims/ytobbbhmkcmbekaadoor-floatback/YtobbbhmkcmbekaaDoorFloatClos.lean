/- The walk of package float: the closure of spanOf. -/
import Derived.Test.YtobbbhmkcmbekaaDoorFloatIn
import Derived.Test.YtobbbhmkcmbekaaDoorShelf
import Derived.Deep.CutRange
set_option linter.unusedVariables false
set_option linter.unusedSimpArgs false
namespace Go.Proofs.YtobbbhmkcmbekaaDoor.bigs
open Go.RowKit

/-- q * 2^(e - 2) in units of 10^ten, told by Y = q * 2^(e + 1074) * wF and 10^c, c = ten + 1080. -/
def UnitOf (w : World) (d : Value) (Y c : Nat) : Prop := ∃ A B, DivOf w d A B ∧ 0 < B ∧ A / B = Y / 10 ^ c ∧ (A % B = 0 ↔ Y % 10 ^ c = 0)
theorem UnitOf.below {w w' : World} {d : Value} {Y c : Nat} (h : UnitOf w d Y c) (hb : Below w.heap.size w w') : UnitOf w' d Y c := by
  obtain ⟨A, B, h1, h2⟩ := h
  exact ⟨A, B, h1.below hb, h2⟩
theorem T10_eq : T10 = 10 ^ c80 := by unfold T10; exact Eq.refl _
theorem wF_eq2 : wF = 16 * 5 ^ c80 := by unfold wF; exact Eq.refl _
theorem two_units {e : Int} (h1 : -1074 ≤ e) : 2 ^ (e - 2).toNat * 2 ^ c80 = 2 ^ (e + 1074).toNat * 16 * 2 ^ (-(e - 2)).toNat := by
  have e16 : (16 : Nat) = 2 ^ 4 := rfl
  have ec : c80 = 1080 := rfl
  rw [e16, ← Nat.pow_add, ← Nat.pow_add, ← Nat.pow_add, ec]
  congr 1
  omega
theorem unit_up {w : World} {d : Value} {q N : Nat} {e : Int} (h1 : -1074 ≤ e) (h : DivOf w d (q * 2 ^ (e - 2).toNat) (10 ^ N * 2 ^ (-(e - 2)).toNat)) : UnitOf w d (q * 2 ^ (e + 1074).toNat * wF) (N + 1080) := by
  have hB : 0 < 10 ^ N * 2 ^ (-(e - 2)).toNat := Nat.mul_pos (pow10_pos N) (Nat.pow_pos (by decide))
  have hx : q * 2 ^ (e - 2).toNat * 10 ^ (N + 1080) = q * 2 ^ (e + 1074).toNat * wF * (10 ^ N * 2 ^ (-(e - 2)).toNat) := by
    have k := two_units h1
    have ec : N + 1080 = N + c80 := rfl
    rw [ec, Nat.pow_add, pow_ten c80, wF_eq2]
    generalize 2 ^ (e - 2).toNat = a at *
    generalize 2 ^ (e + 1074).toNat = b at *
    generalize 2 ^ (-(e - 2)).toNat = f at *
    generalize 2 ^ c80 = g at *
    generalize 5 ^ c80 = z at *
    generalize 10 ^ N = t
    calc q * a * (t * (g * z)) = q * t * z * (a * g) := by simp only [Nat.mul_assoc, Nat.mul_comm, Nat.mul_left_comm]
      _ = q * t * z * (b * 16 * f) := by rw [k]
      _ = q * b * (16 * z) * (t * f) := by simp only [Nat.mul_assoc, Nat.mul_comm, Nat.mul_left_comm]
  obtain ⟨k1, k2⟩ := div_cross hB (pow10_pos (N + 1080)) hx
  exact ⟨_, _, h, hB, k1, k2⟩
theorem unit_down {w : World} {d : Value} {q N : Nat} {e : Int} (h1 : -1074 ≤ e) (hN : N ≤ 1080) (h : DivOf w d (q * 10 ^ N * 2 ^ (e - 2).toNat) (1 * 2 ^ (-(e - 2)).toNat)) : UnitOf w d (q * 2 ^ (e + 1074).toNat * wF) (1080 - N) := by
  have hB : 0 < 1 * 2 ^ (-(e - 2)).toNat := Nat.mul_pos (by decide) (Nat.pow_pos (by decide))
  have hx : q * 10 ^ N * 2 ^ (e - 2).toNat * 10 ^ (1080 - N) = q * 2 ^ (e + 1074).toNat * wF * (1 * 2 ^ (-(e - 2)).toNat) := by
    have k := two_units h1
    have ec : N + (1080 - N) = c80 := by show N + (1080 - N) = 1080; omega
    have et : 10 ^ N * 10 ^ (1080 - N) = 2 ^ c80 * 5 ^ c80 := by rw [← Nat.pow_add, ec, pow_ten]
    rw [wF_eq2]
    generalize 2 ^ (e - 2).toNat = a at *
    generalize 2 ^ (e + 1074).toNat = b at *
    generalize 2 ^ (-(e - 2)).toNat = f at *
    generalize 2 ^ c80 = g at *
    generalize 5 ^ c80 = z at *
    generalize 10 ^ (1080 - N) = s at *
    generalize 10 ^ N = t at *
    calc q * t * a * s = q * a * (t * s) := by simp only [Nat.mul_assoc, Nat.mul_comm, Nat.mul_left_comm]
      _ = q * a * (g * z) := by rw [et]
      _ = q * z * (a * g) := by simp only [Nat.mul_assoc, Nat.mul_comm, Nat.mul_left_comm]
      _ = q * z * (b * 16 * f) := by rw [k]
      _ = q * b * (16 * z) * (1 * f) := by rw [Nat.one_mul]; simp only [Nat.mul_assoc, Nat.mul_comm, Nat.mul_left_comm]
  obtain ⟨k1, k2⟩ := div_cross hB (pow10_pos (1080 - N)) hx
  exact ⟨_, _, h, hB, k1, k2⟩
/-- inUnits, whatever the unit. -/
theorem inUnits_any (w : World) (q : Nat) (e t : Int) (hq : q < 18446744073709551616) (h1 : -1074 ≤ e) (h2 : e ≤ 971) (t1 : -400 ≤ t) (t2 : t ≤ 400) :
    Calls Tryd.prog 55 #[.int .u64 q, .int .i64 (e - 2), .int .i64 t] w fun r w' => ∃ d, r = .returned d ∧ UnitOf w' d (q * 2 ^ (e + 1074).toNat * wF) (t + 1080).toNat ∧ Below w.heap.size w w' := by
  by_cases c : 0 ≤ t
  · obtain ⟨N, rfl⟩ : ∃ N : Nat, t = N := ⟨t.toNat, by omega⟩
    refine (inUnits_up w q N (e - 2) hq (by omega) (by omega) (by omega)).mono ?_
    rintro r w' ⟨d, rfl, hd, b⟩
    rw [show ((N : Int) + 1080).toNat = N + 1080 by omega]
    exact ⟨d, rfl, unit_up h1 hd, b⟩
  · obtain ⟨N, rfl⟩ : ∃ N : Nat, t = -(N : Int) := ⟨(-t).toNat, by omega⟩
    refine (inUnits_down w q N (e - 2) hq (by omega) (by omega) (by omega) (by omega)).mono ?_
    rintro r w' ⟨d, rfl, hd, b⟩
    rw [show (-(N : Int) + 1080).toNat = 1080 - N by omega]
    exact ⟨d, rfl, unit_down h1 (by omega) hd, b⟩
theorem unitOf_set {w : World} {d : Value} {Y c b : Nat} {a1 a2 a3 : Option Addr} {n1 c1 n2 c2 n3 c3 : Nat} (hd : UnitOf w d Y c) (bk : Blk w b #[.slice a1 n1 c1, .slice a2 n2 c2, .slice a3 n3 c3] 80) :
    ∀ a4 n4 c4 a5 n5 c5 a6 n6 c6, d = .agg #[.slice a4 n4 c4, .slice a5 n5 c5, .slice a6 n6 c6] → UnitOf (((w.setCell ⟨b, 0, none⟩ (.slice a4 n4 c4)).setCell ⟨b, 1, none⟩ (.slice a5 n5 c5)).setCell ⟨b, 2, none⟩ (.slice a6 n6 c6)) d Y c := by
  intro a4 n4 c4 a5 n5 c5 a6 n6 c6 e
  obtain ⟨A, B, h1, h2⟩ := hd
  exact ⟨A, B, divOf_set h1 bk _ _ _ _ _ _ _ _ _ e, h2⟩
set_option maxHeartbeats 8000000 in
set_option maxRecDepth 100000 in
theorem inC_any (w : World) (q : Nat) (qI : Int) (e t : Int) (b1 b2 : Nat) (hqI : qI = q) (hq : q < 18446744073709551616) (h1 : -1074 ≤ e) (h2 : e ≤ 971) (t1 : -400 ≤ t) (t2 : t ≤ 400) (k1 : Blk w b1 #[.int .i64 e] 3) (k2 : Blk w b2 #[.int .i64 t] 3) :
    Calls Tryd.prog 54 #[.int .u64 qI, .pointer (some ⟨b1, 0, none⟩), .pointer (some ⟨b2, 0, none⟩)] w fun r w' => ∃ d, r = .returned d ∧ UnitOf w' d (q * 2 ^ (e + 1074).toNat * wF) (t + 1080).toNat ∧ Below w.heap.size w w' := by
  have K1 : ∀ w, Hid _ := fun w => hide (inUnits_any w q e t hq h1 h2 t1 t2)
  rw [← hqI] at K1
  clear hqI hq
  generalize q * 2 ^ (e + 1074).toNat * wF = Y at *
  generalize (t + 1080).toNat = c at *
  have b0 : Below w.heap.size w (w.alloc (.cells #[.slice none 0 0, .slice none 0 0, .slice none 0 0] 80)) := (Below.refl _ _).alloc (Nat.le_refl _) _
  have bk0 := blk_alloc w #[.slice none 0 0, .slice none 0 0, .slice none 0 0] 80
  have r1 := (k1.alloc (.cells #[.slice none 0 0, .slice none 0 0, .slice none 0 0] 80)).cell 0 _ rfl
  have r2 := (k2.alloc (.cells #[.slice none 0 0, .slice none 0 0, .slice none 0 0] 80)).cell 0 _ rfl
  have l1 := k1.lt
  have l2 := k2.lt
  clear k1 k2
  go_enter Tryd.func54, Tryd.ntmps54
  go_wp2_with fail
  generalize w.alloc (.cells #[.slice none 0 0, .slice none 0 0, .slice none 0 0] 80) = w0 at *
  refine (unhide (K1 w0)).mono ?_
  rintro r w3 ⟨d, rfl, hd, b3⟩
  have bw3 := b0.trans (b3.mono b0.size)
  have bk3 := bk0.below b3
  have FD := hide (unitOf_set (b := w.heap.size) hd bk3)
  have BF : ∀ u1 u2 u3, Hid _ := fun u1 u2 u3 => hide (below_set3 (b := w.heap.size) bw3 (Nat.le_refl _) u1 u2 u3)
  obtain ⟨A, B, ⟨a4, n4, c4, a5, n5, c5, a6, n6, c6, rfl, _⟩, _⟩ := hd
  have c0 := bk3.cell 0 _ rfl
  have c1 := bk3.cell 1 _ rfl
  have c2 := bk3.cell 2 _ rfl
  have z0 := bk3.froz 0
  have z1 := bk3.froz 1
  have z2 := bk3.froz 2
  have F := bk3.set3 (.slice a4 n4 c4) (.slice a5 n5 c5) (.slice a6 n6 c6)
  have FC := hide (And.intro (F.cell 0 _ rfl) (And.intro (F.cell 1 _ rfl) (F.cell 2 _ rfl)))
  clear K1 b3 b0 bk0 bk3 F bw3 r1 r2
  go_wp2
  have FI := unhide FD _ _ _ _ _ _ _ _ _ rfl
  have BB := unhide (BF (.slice a4 n4 c4) (.slice a5 n5 c5) (.slice a6 n6 c6))
  obtain ⟨f0, f1, f2⟩ := unhide FC
  clear FD BF FC c0 c1 c2 z0 z1 z2
  generalize (((w3.setCell ⟨w.heap.size, 0, none⟩ (.slice a4 n4 c4)).setCell ⟨w.heap.size, 1, none⟩ (.slice a5 n5 c5)).setCell ⟨w.heap.size, 2, none⟩ (.slice a6 n6 c6)) = wF at *
  refine bodyPost_ret (v := .agg #[.slice a4 n4 c4, .slice a5 n5 c5, .slice a6 n6 c6]) (by simp [results, Tryd.results54, go_sem, f0, f1, f2]) rfl ?_
  exact ⟨_, rfl, FI, BB⟩
end Go.Proofs.YtobbbhmkcmbekaaDoor.bigs
