/- Two changes held against each other: slices.Equal over parts. -/
import Derived.Test.YtleacpnmeoocbaaSplBlk
set_option linter.unusedVariables false
namespace Go.Proofs.Ytleacpnmeoocbaa.spls
open Go.RowKit

set_option maxHeartbeats 400000 in
theorem eqPart (a1 a2 b1 b2 : Int) (k1 k2 : ByteArray) (x y z : Bool) (hx : (a1 == b1) = x) (hy : (a2 == b2) = y) (hz : (k1.toList == k2.toList) = z) (w : World) : (Op.equalIn 10000 45 (.agg #[.int .i64 a1, .int .i64 a2, .string k1]) (.agg #[.int .i64 b1, .int .i64 b2, .string k2])).run Try.prog w = .ok (x && (y && z)) w := by
  have u3 := Try.underlying3
  have u9 := Try.underlying9
  have hS : Try.prog.underlying 45 = some (.struct (Try.prog.fieldsOf 45)) := by kernel_rfl
  have hp : Try.prog.stoodInHeld 45 = false := by kernel_rfl
  rw [show (10000 : Nat) = 9999 + 1 from rfl, run_equalIn_agg w 9999 45 _ _ hS hp]
  simp only [Program.fieldsOf, Try.underlying45]
  cases x <;> cases y <;> cases z <;> go_simp
theorem part_eq (x y : Pt) : ((x.1 == y.1) && ((x.2.1 == y.2.1) && ((⟨x.2.2.toArray⟩ : ByteArray).toList == (⟨y.2.2.toArray⟩ : ByteArray).toList))) = decide (x = y) := by
  rw [ByteArray.toList_eq, ByteArray.toList_eq]
  obtain ⟨a, b, c⟩ := x
  obtain ⟨d, e, f⟩ := y
  by_cases h1 : a = d
  · subst h1
    by_cases h2 : b = e
    · subst h2
      by_cases h3 : c = f
      · subst h3; simp
      · simp [h3]
    · simp [h2]
  · simp [h1]
theorem take_eq {P Q : List Pt} {k : Nat} (h : P.take k = Q.take k) (hp : k < P.length) (hq : k < Q.length) (e : P[k] = Q[k]) : P.take (k + 1) = Q.take (k + 1) := by
  rw [List.take_succ_eq_append_getElem hp, List.take_succ_eq_append_getElem hq, h, e]
set_option maxHeartbeats 4000000 in
set_option maxRecDepth 100000 in
theorem equal_any (w : World) (p q : Option Addr) (c d : Nat) (P Q : List Pt) (h1 : LiesQ w p P) (h2 : LiesQ w q Q) (l1 : P.length ≤ 9223372036854775807) (l2 : Q.length ≤ 9223372036854775807) :
    Calls Try.prog 24 #[.slice p P.length c, .slice q Q.length d] w fun e w' => e = .returned (.bool (decide (P = Q))) ∧ Below w.heap.size w w' := by
  by_cases hl : P.length = Q.length
  · have j0 : ((P.length : Int) != (Q.length : Int)) = false := bne_eq_false_iff_eq.2 (by rw [hl])
    have HP := hide h1
    have HQ := hide h2
    have HL := hide hl
    clear h1 h2 hl
    go_enter Try.func24, Try.ntmps24
    go_wp2_with fail
    go_loopw [13] (fun i wr => ∃ k : Nat, k ≤ P.length ∧ i = .int .i64 k ∧ Hid (P.take k = Q.take k) ∧ Below w.heap.size w wr) (fun i _ => P.length - (intOf i).toNat)
    case atStart => exact ⟨0, Nat.zero_le _, rfl, hide rfl, Below.refl _ _⟩
    case round =>
      obtain ⟨k, hk, rfl, HE, hbw⟩ := hrel
      by_cases hlt : k < P.length
      · obtain ⟨B1, o1, rfl, b1, _, x3⟩ := HP.out.at hlt
        obtain ⟨B2, o2, rfl, b2, _, y3⟩ := HQ.out.at (show k < Q.length by have := HL.out; omega)
        obtain ⟨p0, p1, p2⟩ := x3.below hbw b1
        obtain ⟨q0, q1, q2⟩ := y3.below hbw b2
        have eq := eqPart (P[k]).1 (P[k]).2.1 (Q[k]).1 (Q[k]).2.1 ⟨(P[k]).2.2.toArray⟩ ⟨(Q[k]).2.2.toArray⟩ _ _ _ rfl rfl rfl
        rw [part_eq] at eq
        have i1 : (k : Int) < (P.length : Int) := by omega
        have i1' : (k : Int) < (Q.length : Int) := by have := HL.out; omega
        have i3' : k < Q.length := by omega
        have i2 : (0 : Int) ≤ (k : Int) := by omega
        obtain ⟨bb, hbb⟩ : ∃ bb, decide (P[k] = Q[k]) = bb := ⟨_, rfl⟩
        rw [hbb] at eq
        have HD2 : Hid (bb = true ↔ P[k] = Q[k]) := hide (by rw [← hbb]; simp)
        clear hbb x3 y3
        generalize (P[k]).1 = z1 at *
        generalize (Q[k]).1 = z2 at *
        generalize (P[k]).2.1 = z3 at *
        generalize (Q[k]).2.1 = z4 at *
        generalize (⟨(P[k]).2.2.toArray⟩ : ByteArray) = z5 at *
        generalize (⟨(Q[k]).2.2.toArray⟩ : ByteArray) = z6 at *
        cases bb with
        | true =>
          have HT := hide (take_eq HE.out hlt (by omega) (HD2.out.1 rfl))
          go_wp2_with fail
          go_quiet (fail)
          have hbw2 := below_drewN hbw nq
          clear hbw p0 p1 q0 q1 eq p2 q2
          generalize wr.drewN nq = w2 at *
          go_wp2
          go_roundw
          case rel => exact ⟨k + 1, hlt, by go_num, HT, hbw2⟩
          case measure => simp only [intOf]; omega
        | false =>
          have HN : Hid (decide (P = Q) = false) := hide (decide_eq_false (fun e => by subst e; exact Bool.noConfusion (HD2.out.2 rfl)))
          go_wp2_with fail
          go_quiet (fail)
          have hbw2 := below_drewN hbw nq
          clear hbw p0 p1 q0 q1 eq p2 q2
          generalize wr.drewN nq = w2 at *
          go_wp2
          go_ret
          exact ⟨by rw [HN.out]; rfl, hbw2⟩
      · have HT : Hid (decide (P = Q) = true) := hide (decide_eq_true (by
          have e := HE.out
          rw [List.take_of_length_le (by omega), List.take_of_length_le (by have := HL.out; omega)] at e
          exact e))
        go_wp2
        go_ret
        exact ⟨by rw [HT.out]; rfl, hbw⟩
  · have HN : Hid (decide (P = Q) = false) := hide (decide_eq_false (fun e => hl (by rw [e])))
    have j0 : ((P.length : Int) != (Q.length : Int)) = true := by simp; omega
    have j1 : ¬ (P.length : Int) = (Q.length : Int) := by omega
    clear h1 h2
    go_enter Try.func24, Try.ntmps24
    go_wp2
    go_ret
    exact ⟨by rw [HN.out]; rfl, Below.refl _ _⟩
end Go.Proofs.Ytleacpnmeoocbaa.spls
