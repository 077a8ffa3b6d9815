/- The walks of what the laws of tokens share: Solid, what is alive, lists of tokens that are the same. -/
import Derived.Test.YtokcfmddgndadaaTokCutW
import Derived.Laws.StructEq
set_option linter.unusedVariables false
namespace Go.Proofs.Ytokcfmddgndadaa.toks
open Go.RowKit

set_option maxHeartbeats 400000 in
theorem eqTok (a b c : Int) (w : World) : (Op.equalIn 10000 28 (.agg #[.int .i64 a, .int .i64 b, .int .i64 c]) (.agg #[.int .i64 a, .int .i64 b, .int .i64 c])).run Try.prog w = .ok true w := by
  have u3 := Try.underlying3
  have hS : Try.prog.underlying 28 = some (.struct (Try.prog.fieldsOf 28)) := by kernel_rfl
  have hp : Try.prog.stoodInHeld 28 = false := by kernel_rfl
  rw [show (10000 : Nat) = 9999 + 1 from rfl, run_equalIn_agg w 9999 28 _ _ hS hp]
  simp only [Program.fieldsOf, Try.underlying28]
  go_simp
set_option maxHeartbeats 400000 in
theorem solid_any (w : World) (k : Int) (h0 : -9223372036854775808 ≤ k) (h1 : k ≤ 9223372036854775807) :
    Calls Try.prog 10 #[.int .i64 k] w fun e w' => e = .returned (.bool (decide (4 ≤ k ∧ k ≤ 7))) ∧ w' = w := by
  by_cases a1 : 4 ≤ k
  · by_cases a2 : k ≤ 7
    · rw [decide_eq_true ⟨a1, a2⟩]
      go_enter Try.func10, Try.ntmps10
      go_wp2
      go_ret
      exact ⟨rfl, rfl⟩
    · rw [decide_eq_false (fun h => a2 h.2)]
      have d2 : decide (k ≤ 7) = false := decide_eq_false a2
      go_enter Try.func10, Try.ntmps10
      go_wp2
      go_ret
      exact ⟨rfl, rfl⟩
  · rw [decide_eq_false (fun h => a1 h.1)]
    have d1 : decide (4 ≤ k) = false := decide_eq_false a1
    go_enter Try.func10, Try.ntmps10
    go_wp2
    go_ret
    exact ⟨rfl, rfl⟩
set_option maxHeartbeats 400000 in
theorem toks_any (w : World) (hM : MaxOk w) : Calls Try.prog 11 #[] w fun e w' => e = .returned (.bool true) ∧ Below w.heap.size w w' := by
  have K := hide (cut_any ⟨#[97]⟩ w (by decide) hM)
  have e0 : toksL (⟨#[97]⟩ : ByteArray).data.toList = [⟨4, 0, 1⟩] := rfl
  rw [e0] at K
  clear e0 hM
  go_enter Try.func11, Try.ntmps11
  go_wp2_with fail
  refine (unhide K).mono ?_
  rintro e w1 ⟨v, rfl, ⟨a, cap, rfl, _, _⟩, hb⟩
  go_wp2
  go_ret
  exact ⟨rfl, hb⟩
set_option maxHeartbeats 2000000 in
set_option maxRecDepth 100000 in
theorem equal_same (w : World) (u v : Value) (l : List Tk) (hl : l.length ≤ 20000) (h1 : Toks w u l) (h2 : Toks w v l) :
    Calls Try.prog 9 #[u, v] w fun e w' => e = .returned (.bool true) ∧ Below w.heap.size w w' := by
  obtain ⟨a1, c1, rfl, hc1, r1⟩ := h1
  obtain ⟨a2, c2, rfl, hc2, r2⟩ := h2
  have R1 := hide r1
  have R2 := hide r2
  have j0 : ((l.length : Int) != (l.length : Int)) = false := by unfold bne; rw [beq_self_eq_true]; rfl
  clear r1 r2
  go_enter Try.func9, Try.ntmps9
  go_wp2_with fail
  go_loopw [13] (fun i wr => ∃ k : Nat, k ≤ l.length ∧ i = .int .i64 k ∧ Below w.heap.size w wr) (fun i _ => l.length - (intOf i).toNat)
  case atStart => exact ⟨0, Nat.zero_le _, rfl, Below.refl _ _⟩
  case round =>
    obtain ⟨k, hk, rfl, hbw⟩ := hrel
    by_cases hlt : k < l.length
    · have hne : l ≠ [] := fun e => by rw [e] at hlt; simp at hlt
      obtain ⟨b1, o1, rfl, hb1, q1⟩ := (unhide R1).below hbw hne
      obtain ⟨b2, o2, rfl, hb2, q2⟩ := (unhide R2).below hbw hne
      obtain ⟨x1, x2, x3⟩ := q1 k hlt
      obtain ⟨y1, y2, y3⟩ := q2 k hlt
      have eq := eqTok (l[k].kind : Int) (l[k].fro : Int) (l[k].til : Int)
      clear q1 q2
      generalize (l[k].kind : Int) = z1 at *
      generalize (l[k].fro : Int) = z2 at *
      generalize (l[k].til : Int) = z3 at *
      have i1 : (k : Int) < (l.length : Int) := by omega
      have i2 : (0 : Int) ≤ (k : Int) := by omega
      go_wp2_with fail
      go_quiet (fail)
      have hbw2 := below_drewN hbw nq
      clear hbw x1 x2 x3 y1 y2 y3 eq
      generalize wr.drewN nq = w2 at *
      go_wp2
      go_roundw
      case rel => exact ⟨k + 1, hlt, by go_num, hbw2⟩
      case measure => simp only [intOf]; omega
    · go_wp2
      go_ret
      exact ⟨rfl, hbw⟩
end Go.Proofs.Ytokcfmddgndadaa.toks
