/- The walk of the law's moved: the same node, its tokens so many less. -/
import Derived.Test.YtoikdjbgeebadaaTreeSlim
set_option linter.unusedVariables false
namespace Go.Proofs.Ytoikdjbgeebadaa.trees
open Go.RowKit
open toks

set_option maxHeartbeats 4000000 in
set_option maxRecDepth 100000 in
theorem moved_step (ll : List Tk) (hll : ll.length ≤ 20000) (b f : Nat) (ih : ∀ (ok ok' : Nat → Prop) (w : World) (t t' : T) (a0 a1 a2 a3 b0 b1 b2 b3 : Value), Lies ok f w [a0, a1, a2, a3] t → Lies ok' f w [b0, b1, b2, b3] t' → MvT b f t t' → Slim 20000 f t → CovT ll f t → Calls Try.prog 16 #[.agg #[a0, a1, a2, a3], .agg #[b0, b1, b2, b3], .int .i64 (b : Int)] w fun e w' => e = .returned (.bool true) ∧ Below w.heap.size w w')
    (ok ok' : Nat → Prop) (w : World) (t t' : T) (a0 a1 a2 a3 b0 b1 b2 b3 : Value) (ha : Lies ok (f + 1) w [a0, a1, a2, a3] t) (hb : Lies ok' (f + 1) w [b0, b1, b2, b3] t') (hm : MvT b (f + 1) t t') (hs : Slim 20000 (f + 1) t) (hc : CovT ll (f + 1) t) :
    Calls Try.prog 16 #[.agg #[a0, a1, a2, a3], .agg #[b0, b1, b2, b3], .int .i64 (b : Int)] w fun e w' => e = .returned (.bool true) ∧ Below w.heap.size w w' := by
  obtain ⟨k, a, e, l, l', rfl, rfl, hll', hmk⟩ := hm
  have hsl : l.length ≤ 20000 ∧ ∀ (j : Nat) (h : j < l.length), Slim 20000 f l[j] := by
    obtain ⟨_, _, _, _, hs1, hl, hsl⟩ := hs
    obtain ⟨rfl, rfl, rfl, rfl⟩ := nd_inj hs1
    exact ⟨hl, hsl⟩
  have hcl : a + b ≤ e + b ∧ e + b ≤ ll.length ∧ ∀ (j : Nat) (h : j < l.length), CovT ll f l[j] := by
    obtain ⟨_, _, _, _, hc1, hae, hel, _, hcl⟩ := hc
    obtain ⟨_, h2, h3, rfl⟩ := nd_inj hc1
    exact ⟨by omega, by omega, hcl⟩
  obtain ⟨hl, hsl⟩ := hsl
  obtain ⟨hae, hel, hcl⟩ := hcl
  clear hs hc
  have HA := hide ha
  have HBb := hide hb
  have HS := hide hsl
  have HC := hide hcl
  have HM := hide hmk
  have IH := hide ih
  obtain ⟨pa, ca, rfl, rfl, rfl, rfl, hca, _⟩ := ha.kids
  obtain ⟨pb, cb, rfl, rfl, rfl, rfl, hcb, _⟩ := hb.kids
  have hb0 : b ≤ 20000 := by omega
  have ea : ((a + b : Nat) : Int) = (a : Int) + (b : Int) := by omega
  have ee : ((e + b : Nat) : Int) = (e : Int) + (b : Int) := by omega
  have hcb' : l'.length = l.length := hll'.symm
  rw [ea, ee, hcb']
  have HA1 : Hid (Lies ok (f + 1) w [.int .i64 (k : Int), .int .i64 ((a : Int) + (b : Int)), .int .i64 ((e : Int) + (b : Int)), .slice pa l.length ca] (nd k (a + b) (e + b) l)) := hide (by have := unhide HA; rw [ea, ee] at this; exact this)
  have HB1 : Hid (Lies ok' (f + 1) w [.int .i64 (k : Int), .int .i64 (a : Int), .int .i64 (e : Int), .slice pb l.length cb] (nd k a e l')) := hide (by have := unhide HBb; rw [hcb'] at this; exact this)
  have HLL := hide hll'
  clear ha hb hsl ih hcl hmk HA HBb ea ee hcb' hll' hcb
  have b0 : Below w.heap.size w ((w.alloc (.cells #[.int .i64 (k : Int), .int .i64 ((a : Int) + (b : Int)), .int .i64 ((e : Int) + (b : Int)), .slice pa l.length ca] 24)).alloc (.cells #[.int .i64 (k : Int), .int .i64 (a : Int), .int .i64 (e : Int), .slice pb l.length cb] 24)) := ((Below.refl _ w).alloc (Nat.le_refl _) _).alloc (by simp) _
  have na := Blk.alloc (blk_alloc w #[.int .i64 (k : Int), .int .i64 ((a : Int) + (b : Int)), .int .i64 ((e : Int) + (b : Int)), .slice pa l.length ca] 24) (.cells #[.int .i64 (k : Int), .int .i64 (a : Int), .int .i64 (e : Int), .slice pb l.length cb] 24)
  have nb := blk_alloc (w.alloc (.cells #[.int .i64 (k : Int), .int .i64 ((a : Int) + (b : Int)), .int .i64 ((e : Int) + (b : Int)), .slice pa l.length ca] 24)) #[.int .i64 (k : Int), .int .i64 (a : Int), .int .i64 (e : Int), .slice pb l.length cb] 24
  have e1 : (w.alloc (.cells #[.int .i64 (k : Int), .int .i64 ((a : Int) + (b : Int)), .int .i64 ((e : Int) + (b : Int)), .slice pa l.length ca] 24)).heap.size = w.heap.size + 1 := by simp
  rw [e1] at nb
  have B0 := hide b0
  have NA := hide na
  have NB := hide nb
  clear na nb e1 b0
  go_enter Try.func16, Try.ntmps16
  go_upto_region 1 with fail
  generalize (w.alloc (.cells #[.int .i64 (k : Int), .int .i64 ((a : Int) + (b : Int)), .int .i64 ((e : Int) + (b : Int)), .slice pa l.length ca] 24)).alloc (.cells #[.int .i64 (k : Int), .int .i64 (a : Int), .int .i64 (e : Int), .slice pb l.length cb] 24) = w0 at *
  obtain ⟨c0, c1, c2, c3⟩ := Blk.cells4 (unhide NA)
  obtain ⟨d0, d1, d2, d3⟩ := Blk.cells4 (unhide NB)
  have s1 : (a : Int) + (b : Int) - (b : Int) = (a : Int) := by omega
  have s2 : (e : Int) + (b : Int) - (b : Int) = (e : Int) := by omega
  go_wp2_with fail
  clear c0 c1 c2 c3 d0 d1 d2 d3
  go_loopw [43] (fun i wr => ∃ j : Nat, j ≤ l.length ∧ i = .int .i64 j ∧ Hid (Below w0.heap.size w0 wr)) (fun i _ => l.length - (intOf i).toNat)
  case atStart => exact ⟨0, Nat.zero_le _, rfl, hide (Below.refl _ _)⟩
  case round =>
    obtain ⟨j, hj, rfl, HW⟩ := hrel
    by_cases hlt : j < l.length
    · have hne : l ≠ [] := fun e => by rw [e] at hlt; simp at hlt
      have hlt' : j < l'.length := by rw [← unhide HLL]; exact hlt
      have hne' : l' ≠ [] := fun e => by rw [e] at hlt'; simp at hlt'
      have bw := (unhide B0).trans ((unhide HW).mono (unhide B0).size)
      obtain ⟨_, _, _, _, _, e4, _, qa⟩ := ((unhide HA1).below bw).kids
      injection e4 with e5 e6 e7
      subst e5 e7
      obtain ⟨ba, oa, rfl, hba, qa⟩ := qa hne
      obtain ⟨x0, x1, x2, x3, g0, g1, g2, g3, hLa⟩ := qa j hlt
      obtain ⟨_, _, _, _, _, e4, _, qb⟩ := ((unhide HB1).below bw).kids
      injection e4 with e5 e6 e7
      subst e5 e7
      obtain ⟨bb, ob, rfl, hbb, qb⟩ := qb hne'
      obtain ⟨z0, z1, z2, z3, i0, i1, i2, i3, hLb⟩ := qb j hlt'
      have hsj := unhide HS j hlt
      have hcj := unhide HC j hlt
      have hmj := unhide HM j hlt hlt'
      have KK : ∀ n, Hid _ := fun n => hide (unhide IH ok ok' (wr.drewN n) l[j] l'[j] x0 x1 x2 x3 z0 z1 z2 z3 (hLa.below (below_drewN (Below.refl _ _) n)) (hLb.below (below_drewN (Below.refl _ _) n)) hmj hsj hcj)
      obtain ⟨k1, a1, e1, p1, n1, c1, rfl, rfl, rfl, rfl⟩ := hLa.form
      obtain ⟨k2, a2, e2, p2, n2, c2, rfl, rfl, rfl, rfl⟩ := hLb.form
      have q3 := Blk.cell (Blk.below (unhide NA) (unhide HW)) 3 _ rfl
      have r3 := Blk.cell (Blk.below (unhide NB) (unhide HW)) 3 _ rfl
      have i1' : (j : Int) < (l.length : Int) := by omega
      clear hLa hLb hsj hcj hmj bw qa qb e6
      go_upto_region 6 with fail
      go_cut [58] from 46 to 57 (fun s58 wx => s58 = .bool false ∧ Hid (Below w0.heap.size w0 wx))
      case first =>
        go_region_with (go_at_call 16
                        refine (unhide (KK 1)).mono ?_
                        rintro e w3 ⟨rfl, b3⟩
                        have B3 : Hid (Below w0.heap.size w0 w3) := hide ((below_drewN (unhide HW) 1).trans (b3.mono (unhide HW).size))
                        clear b3)
        all_goals
          go_wp2_with fail
          go_meet
          exact ⟨rfl, B3⟩
      case rest =>
      obtain ⟨rfl, HX⟩ := hcut
      clear KK q3 r3 g0 g1 g2 g3 i0 i1 i2 i3
      go_wp2
      go_roundw
      case rel => exact ⟨j + 1, hlt, by go_num, HX⟩
      case measure => simp only [intOf]; omega
    · go_wp2
      go_ret
      exact ⟨rfl, (unhide B0).trans ((unhide HW).mono (unhide B0).size)⟩
theorem moved_any (ll : List Tk) (hll : ll.length ≤ 20000) (b : Nat) : ∀ (f : Nat) (ok ok' : Nat → Prop) (w : World) (t t' : T) (a0 a1 a2 a3 b0 b1 b2 b3 : Value), Lies ok f w [a0, a1, a2, a3] t → Lies ok' f w [b0, b1, b2, b3] t' → MvT b f t t' → Slim 20000 f t → CovT ll f t → Calls Try.prog 16 #[.agg #[a0, a1, a2, a3], .agg #[b0, b1, b2, b3], .int .i64 (b : Int)] w fun e w' => e = .returned (.bool true) ∧ Below w.heap.size w w'
  | 0, _, _, _, _, _, _, _, _, _, _, _, _, _, h, _, _, _, _ => h.elim
  | f + 1, ok, ok', w, t, t', a0, a1, a2, a3, b0, b1, b2, b3, ha, hb, hm, hs, hc => moved_step ll hll b f (moved_any ll hll b f) ok ok' w t t' a0 a1 a2 a3 b0 b1 b2 b3 ha hb hm hs hc
end Go.Proofs.Ytoikdjbgeebadaa.trees
