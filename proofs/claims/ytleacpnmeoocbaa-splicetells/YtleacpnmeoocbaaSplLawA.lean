/- The laws SpliceNorm, SpliceBack. -/
import Derived.Test.YtleacpnmeoocbaaSplInvW
import Derived.Test.YtleacpnmeoocbaaSplEqW
set_option linter.unusedVariables false
namespace Go.Proofs.Ytleacpnmeoocbaa.spls
open Go.RowKit

theorem lies_one (w : World) (x : Pt) (hx : rng x) : LiesQ (w.alloc (.cells #[.int .i64 x.1, .int .i64 x.2.1, .string ⟨x.2.2.toArray⟩] 45)) (some ⟨w.heap.size, 0, none⟩) [x] := fun _ => by
  refine ⟨w.heap.size, 0, rfl, by simp, fun j y hy => ?_⟩
  have hb := blk_alloc w #[.int .i64 x.1, .int .i64 x.2.1, .string ⟨x.2.2.toArray⟩] 45
  cases j with
  | zero =>
    have : x = y := by simpa using hy
    subst this
    exact ⟨hx, hb.cell 0 _ rfl, hb.cell 1 _ rfl, hb.cell 2 _ rfl⟩
  | succ j => simp at hy
set_option maxHeartbeats 4000000 in
set_option maxRecDepth 100000 in
theorem splices_yes (w : World) : Calls Try.prog 23 #[] w fun e w' => e = .returned (.bool true) ∧ Below w.heap.size w w' := by
  have hb : Below w.heap.size w (w.alloc (.cells #[.int .i64 3, .int .i64 0, .string ⟨#[120]⟩] 45)) := (Below.refl _ w).alloc (Nat.le_refl _) _
  have K := hide (apply_any (w.alloc (.cells #[.int .i64 3, .int .i64 0, .string ⟨#[120]⟩] 45)) ⟨#[]⟩ _ 1 [(3, 0, [120])] (lies_one w (3, 0, [120]) ⟨by decide, by decide, by decide⟩) (by decide))
  have e1 : chkO (⟨#[]⟩ : ByteArray).data.toList [(3, 0, [120])] = 0 := by decide
  have e2 : appT (⟨#[]⟩ : ByteArray).data.toList [(3, 0, [120])] = [120] := by unfold appT; rw [if_pos e1]; rfl
  rw [e1, e2] at K
  have HB := hide hb
  clear hb e1 e2
  go_enter Try.func23, Try.ntmps23
  go_wp2_with fail
  refine (unhide K).mono ?_
  rintro _ w1 ⟨rfl, b1⟩
  have hb1 := HB.out.trans (b1.mono HB.out.size)
  clear K b1 HB
  go_wp2
  go_ret
  exact ⟨rfl, hb1⟩
theorem chk_nil : chk [] = 0 := by decide
theorem nrmC_good (L : List Pt) : chk (nrmC L) = 0 := by
  unfold nrmC
  split
  · rename_i h; exact nf_good h
  · exact chk_nil
theorem good_rng {L : List Pt} (h : chk L = 0) : ∀ x ∈ L, rng x := fun x hx => chkP_rng ((chk_ok h).2.1 x hx)
theorem nrmC_of {L : List Pt} (h : chk L = 0) : nrmC L = nf (exL L) := if_pos h
theorem nrmC_twice (L : List Pt) : nrmC (nrmC L) = nrmC L := by
  rw [nrmC_of (nrmC_good L)]
  by_cases h : chk L = 0
  · rw [nrmC_of h, ex_nf, nf_nrm]
  · have : nrmC L = [] := if_neg h
    rw [this]
    rfl
theorem szO_of {L : List Pt} (h : chk L = 0) : szO L = ov (exL L) := if_pos h
theorem szM_of {L : List Pt} (h : chk L = 0) : szM L = mk (exL L) := if_pos h
theorem szO_nrm {L : List Pt} (h : chk L = 0) : szO (nrmC L) = szO L := by rw [szO_of (nrmC_good L), szO_of h, nrmC_of h, ex_nf, ov_nrm]
theorem szM_nrm {L : List Pt} (h : chk L = 0) : szM (nrmC L) = szM L := by rw [szM_of (nrmC_good L), szM_of h, nrmC_of h, ex_nf, mk_nrm]
theorem chkO_nrm {L : List Pt} (s : List UInt8) (h : chk L = 0) : chkO s (nrmC L) = chkO s L := by
  unfold chkO
  rw [nrmC_good, h, nrmC_of h, ex_nf, ov_nrm]
theorem appT_nrm {L : List Pt} (s : List UInt8) (h : chk L = 0) : appT s (nrmC L) = appT s L := by
  unfold appT
  rw [chkO_nrm s h]
  split
  · rename_i h1
    rw [nrmC_of h, ex_nf, act_nrm id _ _ (chkO_ok h1).2]
  · rfl
theorem appT_len {L : List Pt} {s : List UInt8} (h : chkO s L = 0) : s.length = szO L ∧ (appT s L).length = szM L := by
  obtain ⟨h1, h2⟩ := chkO_ok h
  rw [szO_of h1, szM_of h1]
  refine ⟨h2, ?_⟩
  unfold appT
  rw [if_pos h, act_len id _ _ h2]
set_option maxHeartbeats 8000000 in
set_option maxRecDepth 100000 in
theorem lawSpliceNorm (W : World) (s : ByteArray) (p : Option Addr) (c : Nat) (L : List Pt) (hL : LiesQ W p L) (hl : L.length ≤ 9223372036854775807) :
    Calls Try.prog 6 #[.string s, .slice p L.length c] W fun e W' => e = .returned (.bool true) ∧ Below W.heap.size W W' := by
  have K0 := hide (splices_yes W)
  have HL := hide hL
  clear hL
  go_enter Try.func6, Try.ntmps6
  go_wp2_with fail
  refine (unhide K0).mono ?_
  rintro _ w1 ⟨rfl, b1⟩
  have K1 := hide (norm_any w1 p c L (HL.out.keep b1) hl)
  clear K0
  go_wp2_with fail
  refine (unhide K1).mono ?_
  rintro _ w2 ⟨v, rfl, hv, b2'⟩
  have b2 := b1.trans (b2'.mono b1.size)
  clear K1 b2' b1
  have hgood := nrmC_good L
  obtain ⟨q, cq, rfl, hcq, hcm, hLQ, hqB⟩ := hv.lies (good_rng hgood)
  have hn400 := (chk_ok hgood).1
  by_cases hz : chk L = 0
  · rw [hz]
    have HZ := hide hz
    have E1 := nrmC_twice L
    have E2 := szO_nrm hz
    have E3 := szM_nrm hz
    have E4 := chkO_nrm s.data.toList hz
    have E5 := appT_nrm s.data.toList hz
    have E6 := appT_len (L := L) (s := s.data.toList)
    generalize hn : nrmC L = N at *
    have K2 := hide (norm_any w2 q cq N hLQ (by omega))
    rw [hgood, E1] at K2
    have HQ := hide hLQ
    have HV := hide hv
    clear hLQ hv hqB hz
    go_wp2_with fail
    refine (unhide K2).mono ?_
    rintro _ w3 ⟨v3, rfl, hv3, b3'⟩
    have b3 := b2.trans (b3'.mono b2.size)
    have HQ3 := hide (HQ.out.keep b3')
    obtain ⟨q3, cq3, rfl, hcq3, hcm3, hLQ3, hqB3⟩ := hv3.lies (good_rng hgood)
    have HR3 := hide hLQ3
    have K3 := hide (sizesF_any w3 p c L (HL.out.keep b3) hl)
    rw [HZ.out] at K3
    clear K2 b3' b2 hv3 hLQ3 hqB3 HQ
    go_wp2_with fail
    refine (unhide K3).mono ?_
    rintro _ w4 ⟨rfl, b4'⟩
    have b4 := b3.trans (b4'.mono b3.size)
    have HQ4 := hide (HQ3.out.keep b4')
    have HR4 := hide (HR3.out.keep b4')
    have K4 := hide (sizesF_any w4 q cq N HQ4.out (by omega))
    rw [hgood, E2, E3] at K4
    clear K3 b4' b3 HQ3 HR3
    go_wp2_with fail
    refine (unhide K4).mono ?_
    rintro _ w5 ⟨rfl, b5'⟩
    have b5 := b4.trans (b5'.mono b4.size)
    have HQ5 := hide (HQ4.out.keep b5')
    have HR5 := hide (HR4.out.keep b5')
    have K5 := hide (apply_any w5 s p c L (HL.out.keep b5) hl)
    clear K4 b5' b4 HQ4 HR4
    go_wp2_with fail
    refine (unhide K5).mono ?_
    rintro _ w6 ⟨rfl, b6'⟩
    have b6 := b5.trans (b6'.mono b5.size)
    have HQ6 := hide (HQ5.out.keep b6')
    have HR6 := hide (HR5.out.keep b6')
    have K6 := hide (apply_any w6 s q cq N HQ6.out (by omega))
    rw [E4, E5] at K6
    clear K5 b6' b5 HQ5 HR5
    go_wp2_with fail
    refine (unhide K6).mono ?_
    rintro _ w7 ⟨rfl, b7'⟩
    have b7 := b6.trans (b7'.mono b6.size)
    have K7 := hide (equal_any w7 q q3 cq cq3 N N (HQ6.out.keep b7') (HR6.out.keep b7') (by omega) (by omega))
    rw [show decide (N = N) = true from by simp] at K7
    have hsl := len_list s
    have hts := size_mk (appT s.data.toList L)
    clear K6 b7' b6 HQ6 HR6 E1 E2 E3 E4 E5
    generalize hA : appT s.data.toList L = A at *
    generalize szO L = a at *
    generalize szM L = b at *
    generalize (⟨A.toArray⟩ : ByteArray) = T at *
    by_cases he : chkO s.data.toList L = 0
    · obtain ⟨f1, f2⟩ := E6 he
      have f3 : s.size = a := by omega
      have f4 : T.size = b := by omega
      rw [he]
      subst f3 f4
      clear E6 he f1 f2 hsl hts
      go_wp2_with fail
      refine (unhide K7).mono ?_
      rintro _ w8 ⟨rfl, b8'⟩
      have b8 := b7.trans (b8'.mono b7.size)
      clear K7 b8' b7
      go_wp2
      go_ret
      exact ⟨rfl, b8⟩
    · have e2 : (chkO s.data.toList L == 0) = false := beq_false_of_ne he
      have e3 : (chkO s.data.toList L != 0) = true := by simp [he]
      clear E6
      generalize chkO s.data.toList L = er at *
      go_wp2_with fail
      refine (unhide K7).mono ?_
      rintro _ w8 ⟨rfl, b8'⟩
      have b8 := b7.trans (b8'.mono b7.size)
      clear K7 b8' b7
      go_wp2
      go_ret
      exact ⟨rfl, b8⟩
  · have hN : nrmC L = [] := if_neg hz
    have e2 : (chk L == 0) = false := beq_false_of_ne hz
    have e3 : (chk L != 0) = true := by simp [hz]
    rw [hN]
    clear hv hLQ hqB hgood hn400 hN hcq
    generalize chk L = er at *
    go_wp2
    go_ret
    exact ⟨rfl, b2⟩
end Go.Proofs.Ytleacpnmeoocbaa.spls
