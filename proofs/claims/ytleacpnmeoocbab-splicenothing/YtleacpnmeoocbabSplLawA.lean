/- The laws SpliceNorm, SpliceBack. -/
import Derived.Test.YtleacpnmeoocbabSplInvW
import Derived.Test.YtleacpnmeoocbabSplEqW
set_option linter.unusedVariables false
namespace Go.Proofs.Ytleacpnmeoocbab.spls
open Go.RowKit

theorem lies_one (w : World) (x : Pt) (hx : rng x) : LiesQ (w.alloc (.cells #[.int .i64 x.1, .int .i64 x.2.1, .string ⟨x.2.2.toArray⟩] 30)) (some ⟨w.heap.size, 0, none⟩) [x] := fun _ => by
  refine ⟨w.heap.size, 0, rfl, by simp, fun j y hy => ?_⟩
  have hb := blk_alloc w #[.int .i64 x.1, .int .i64 x.2.1, .string ⟨x.2.2.toArray⟩] 30
  cases j with
  | zero =>
    have : x = y := by simpa using hy
    subst this
    exact ⟨hx, hb.cell 0 _ rfl, hb.cell 1 _ rfl, hb.cell 2 _ rfl⟩
  | succ j => simp at hy
set_option maxHeartbeats 4000000 in
set_option maxRecDepth 100000 in
theorem splices_yes (w : World) : Calls Try.prog 5 #[] w fun e w' => e = .returned (.bool true) ∧ Below w.heap.size w w' := by
  have hb : Below w.heap.size w (w.alloc (.cells #[.int .i64 3, .int .i64 0, .string ⟨#[120]⟩] 30)) := (Below.refl _ w).alloc (Nat.le_refl _) _
  have K := hide (apply_any (w.alloc (.cells #[.int .i64 3, .int .i64 0, .string ⟨#[120]⟩] 30)) ⟨#[]⟩ _ 1 [(3, 0, [120])] (lies_one w (3, 0, [120]) ⟨by decide, by decide, by decide⟩) (by decide))
  have e1 : chkO (⟨#[]⟩ : ByteArray).data.toList [(3, 0, [120])] = 0 := by decide
  have e2 : appT (⟨#[]⟩ : ByteArray).data.toList [(3, 0, [120])] = [120] := by unfold appT; rw [if_pos e1]; rfl
  rw [e1, e2] at K
  have HB := hide hb
  clear hb e1 e2
  go_enter Try.func5, Try.ntmps5
  go_wp2_with fail
  refine (unhide K).mono ?_
  rintro _ w1 ⟨rfl, b1⟩
  have hb1 := HB.out.trans (b1.mono HB.out.size)
  clear K b1 HB
  go_wp2
  go_ret
  exact ⟨rfl, hb1⟩
theorem chk_nil : chk [] = 0 := by decide
theorem nrmC_good (L : List Pt) : chk (nrmC L) = 0 := by
  unfold nrmC
  split
  · rename_i h; exact nf_good h
  · exact chk_nil
theorem good_rng {L : List Pt} (h : chk L = 0) : ∀ x ∈ L, rng x := fun x hx => chkP_rng ((chk_ok h).2.1 x hx)
theorem nrmC_of {L : List Pt} (h : chk L = 0) : nrmC L = nf (exL L) := if_pos h
theorem nrmC_twice (L : List Pt) : nrmC (nrmC L) = nrmC L := by
  rw [nrmC_of (nrmC_good L)]
  by_cases h : chk L = 0
  · rw [nrmC_of h, ex_nf, nf_nrm]
  · have : nrmC L = [] := if_neg h
    rw [this]
    rfl
theorem szO_of {L : List Pt} (h : chk L = 0) : szO L = ov (exL L) := if_pos h
theorem szM_of {L : List Pt} (h : chk L = 0) : szM L = mk (exL L) := if_pos h
theorem szO_nrm {L : List Pt} (h : chk L = 0) : szO (nrmC L) = szO L := by rw [szO_of (nrmC_good L), szO_of h, nrmC_of h, ex_nf, ov_nrm]
theorem szM_nrm {L : List Pt} (h : chk L = 0) : szM (nrmC L) = szM L := by rw [szM_of (nrmC_good L), szM_of h, nrmC_of h, ex_nf, mk_nrm]
theorem chkO_nrm {L : List Pt} (s : List UInt8) (h : chk L = 0) : chkO s (nrmC L) = chkO s L := by
  unfold chkO
  rw [nrmC_good, h, nrmC_of h, ex_nf, ov_nrm]
theorem appT_nrm {L : List Pt} (s : List UInt8) (h : chk L = 0) : appT s (nrmC L) = appT s L := by
  unfold appT
  rw [chkO_nrm s h]
  split
  · rename_i h1
    rw [nrmC_of h, ex_nf, act_nrm id _ _ (chkO_ok h1).2]
  · rfl
theorem appT_len {L : List Pt} {s : List UInt8} (h : chkO s L = 0) : s.length = szO L ∧ (appT s L).length = szM L := by
  obtain ⟨h1, h2⟩ := chkO_ok h
  rw [szO_of h1, szM_of h1]
  refine ⟨h2, ?_⟩
  unfold appT
  rw [if_pos h, act_len id _ _ h2]
end Go.Proofs.Ytleacpnmeoocbab.spls
