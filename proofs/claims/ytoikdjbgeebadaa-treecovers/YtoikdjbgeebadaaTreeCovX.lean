/- The walk of the law's covers. -/
import Derived.Test.YtoikdjbgeebadaaTreeCovW
set_option linter.unusedVariables false
namespace Go.Proofs.Ytoikdjbgeebadaa.trees
open Go.RowKit
open toks

theorem kids_vss {ok : Nat → Prop} {f : Nat} {w : World} {u0 u1 u2 u3 : Value} {k a e : Nat} {l : List T} (h : Lies ok (f + 1) w [u0, u1, u2, u3] (nd k a e l)) : ∃ p c, u0 = .int .i64 (k : Int) ∧ u1 = .int .i64 (a : Int) ∧ u2 = .int .i64 (e : Int) ∧ u3 = .slice p l.length c ∧ ∃ vss : List (List Value), KidsIn ok f w vss l ∧ (l ≠ [] → ∃ b o, p = some ⟨b, o, none⟩ ∧ b < w.heap.size ∧ ∀ (j i : Nat) (h : j < vss.length), i < 4 → w.cell? ⟨b, o + j * 4 + i, none⟩ = vss[j][i]?) := by
  obtain ⟨p, c, h0, h1, h2, h3, _, hk⟩ := h.kids
  refine ⟨p, c, h0, h1, h2, h3, ?_⟩
  by_cases hl : l = []
  · subst hl
    exact ⟨[], kidsIn_nil _ _ _, fun h => absurd rfl h⟩
  · obtain ⟨b, o, hp, hlt, hj⟩ := hk hl
    obtain ⟨vss, v1, v2⟩ := kids_cells hj
    exact ⟨vss, v1, fun _ => ⟨b, o, hp, hlt, v2⟩⟩
set_option maxHeartbeats 4000000 in
set_option maxRecDepth 100000 in
theorem covers_step (s : ByteArray) (ta : Option Addr) (tc : Nat) (ll : List Tk) (hll : ll.length ≤ 20000) (hlne : ll ≠ []) (htc : ll.length ≤ tc) (f : Nat)
    (ih : ∀ (ok : Nat → Prop) (w : World) (t : T) (u0 u1 u2 u3 : Value), RowT w ta ll → Lies ok f w [u0, u1, u2, u3] t → Slim 20000 f t → CovT ll f t → Calls Try.prog 15 #[.string s, .slice ta ll.length tc, .agg #[u0, u1, u2, u3]] w fun e w' => e = .returned (.bool true) ∧ Below w.heap.size w w')
    (ok : Nat → Prop) (w : World) (t : T) (u0 u1 u2 u3 : Value) (hrow : RowT w ta ll) (hL : Lies ok (f + 1) w [u0, u1, u2, u3] t) (hs : Slim 20000 (f + 1) t) (hc : CovT ll (f + 1) t) :
    Calls Try.prog 15 #[.string s, .slice ta ll.length tc, .agg #[u0, u1, u2, u3]] w fun e w' => e = .returned (.bool true) ∧ Below w.heap.size w w' := by
  obtain ⟨k, a, e, l, rfl⟩ := hL.nd
  obtain ⟨hl, hsl⟩ := slim_nd hs
  obtain ⟨hae, hel, hcl, hck⟩ := cov_nd hc
  have HL := hide hL
  obtain ⟨p, c, rfl, rfl, rfl, rfl, vss, hkin, hvr⟩ := kids_vss hL
  have HPL := hide (cplan ll hae hcl)
  have KC : ∀ u, Below w.heap.size w u → Hid (Calls Try.prog 23 #[.slice p l.length c] u fun e w' => ∃ v, e = .returned v ∧ w'.ownsRow u.heap.size 24 4 v l.length vss.flatten ∧ Below u.heap.size u w') := fun u hu => hide (clone_any u p c l vss hl (hkin.kept hu.size (fun b _ hb => hu.block b hb)) (fun h => by
    obtain ⟨b, o, e1, e2, e3⟩ := hvr h
    exact ⟨b, o, e1, fun j i hj hi => by rw [hu.cell (p := ⟨b, o + j * 4 + i, none⟩) e2]; exact e3 j i hj hi⟩))
  have HK := hide hkin
  have HS := hide hsl
  have HC := hide hck
  have IH := hide ih
  have HROW := hide hrow
  have b0 : Below w.heap.size w (w.alloc (.cells #[.int .i64 (k : Int), .int .i64 (a : Int), .int .i64 (e : Int), .slice p l.length c] 24)) := (Below.refl _ w).alloc (Nat.le_refl _) _
  have nb := blk_alloc w #[.int .i64 (k : Int), .int .i64 (a : Int), .int .i64 (e : Int), .slice p l.length c] 24
  have B0 := hide b0
  have NB := hide nb
  obtain ⟨i0, hinf, hz0, hz1, hz2⟩ := info_parts infoNode
  clear hL hs hc hsl hcl hck hkin hvr ih hrow b0 nb
  go_enter Try.func15, Try.ntmps15
  go_upto_region 2 with fail
  have hNs : w.heap.size < (w.alloc (.cells #[.int .i64 (k : Int), .int .i64 (a : Int), .int .i64 (e : Int), .slice p l.length c] 24)).heap.size := by simp
  generalize w.alloc (.cells #[.int .i64 (k : Int), .int .i64 (a : Int), .int .i64 (e : Int), .slice p l.length c] 24) = w0 at *
  obtain ⟨c0, c1, c2, c3⟩ := Blk.cells4 (unhide NB)
  generalize hNn : w.heap.size = N at *
  go_cut [25, 26, 27] from 16 to 24 (fun s25 s26 s27 wx => ∃ g cap, s25 = .slice (some ⟨g, 0, none⟩) (l.length + 1) cap ∧ s26 = .int .i64 ((l.length : Int) + 1) ∧ s27 = .int .i64 0 ∧ l.length + 1 ≤ cap ∧ Hid (CRow wx g l.length (numA e l) (numE e l)) ∧ Hid (Below w0.heap.size w0 wx))
  case first =>
    have hs1 : 1 ≤ w0.heap.size := by omega
    go_region_held_law (fun w' => w'.cell? ⟨N, 2, none⟩ = some (.int .i64 (e : Int)) ∧ w'.cell? ⟨N, 3, none⟩ = some (.slice p l.length c)) (go_keep)
      (first | (go_at_call 23
                refine (unhide (KC _ (by first | exact (unhide B0).drew | exact ((unhide B0).alloc (Nat.le_of_lt hNs) _).drew))).mono ?_
                rintro er wa ⟨v, rfl, hown, ba⟩
                have e2 : wa.cell? ⟨N, 2, none⟩ = some (.int .i64 (e : Int)) := by first | exact (ba.cell (p := ⟨N, 2, none⟩) (by simpa using hNs)).trans c2 | exact (ba.cell (p := ⟨N, 2, none⟩) (by simp; omega)).trans ((((Below.refl _ w0).alloc (Nat.le_refl _) _).drew.cell (p := ⟨N, 2, none⟩) hNs).trans c2)
                have e3 : wa.cell? ⟨N, 3, none⟩ = some (.slice p l.length c) := by first | exact (ba.cell (p := ⟨N, 3, none⟩) (by simpa using hNs)).trans c3 | exact (ba.cell (p := ⟨N, 3, none⟩) (by simp; omega)).trans ((((Below.refl _ w0).alloc (Nat.le_refl _) _).drew.cell (p := ⟨N, 3, none⟩) hNs).trans c3)
                dsimp only)
             | (refine step_append_lies _ rfl _ _ 22 rfl w0.heap.size 24 i0 (.agg #[.int .i64 0, .int .i64 0, .int .i64 0, .slice none 0 0]) 4 48 Try.underlying22 hinf hz0 hz1 hz2 rfl (by decide) v l.length vss.flatten rfl (hown.alloc _) ⟨wa.heap.size, 0, none⟩ 1 1 [.int .i64 0, .int .i64 (e : Int), .int .i64 (e : Int), .slice none 0 0] rfl rfl (cell_four_new wa _ _ _ _ 24) (by intro u hu; simp at hu; rcases hu with rfl | rfl | rfl <;> rfl) (by decide) (by unfold maxLen; omega) (by omega) (by have := ba.size; simp at this ⊢; omega) (wa.heap.size + 1) (by simp) ?_
                intro g cap wx hown2 hg2 hat hlt2
                have RX : Hid (CRow wx g l.length (numA e l) (numE e l) ∧ l.length + 1 ≤ cap ∧ Below w0.heap.size w0 wx) := hide ⟨crow_own (unhide HK) hown2, (by rcases hown2.2 with ⟨h, _⟩ | ⟨g', cap', cur, h, _, _, h5, _⟩ <;> (injection h with h1 h2 h3; first | (subst h3; exact h5) | (exfalso; cases h1))), ((((Below.refl _ w0).drew.trans ba).alloc ba.size _).grown hg2 (by have := ba.size; simp at this ⊢; omega) (fun k hk => own_ge4 hown k hk))⟩
                have f2 := ((unhide RX).2.2.cell (p := ⟨N, 2, none⟩) hNs).trans c2
                have f3 := ((unhide RX).2.2.cell (p := ⟨N, 3, none⟩) hNs).trans c3
                clear hown2 hg2 hat hlt2
                simp only [List.getElem_toArray, List.getElem_cons_succ, List.getElem_cons_zero])
             | (refine step_append_lies _ rfl _ _ 22 rfl (w0.heap.size + 1) 24 i0 (.agg #[.int .i64 0, .int .i64 0, .int .i64 0, .slice none 0 0]) 4 48 Try.underlying22 hinf hz0 hz1 hz2 rfl (by decide) v l.length vss.flatten rfl (by simpa using hown) ⟨w0.heap.size, 0, none⟩ 1 1 [.int .i64 0, .int .i64 (e : Int), .int .i64 (e : Int), .slice none 0 0] rfl rfl (World.news_of_block (Blk.below (show Blk (w0.alloc (.cells #[.int .i64 0, .int .i64 (e : Int), .int .i64 (e : Int), .slice none 0 0] 24)).drew w0.heap.size #[.int .i64 0, .int .i64 (e : Int), .int .i64 (e : Int), .slice none 0 0] 24 from blk_alloc w0 _ _) ba)) (by intro u hu; simp at hu; rcases hu with rfl | rfl | rfl <;> rfl) (by decide) (by unfold maxLen; omega) (by omega) (by have := ba.size; simp at this ⊢; omega) wa.heap.size rfl ?_
                intro g cap wx hown2 hg2 hat hlt2
                have RX : Hid (CRow wx g l.length (numA e l) (numE e l) ∧ l.length + 1 ≤ cap ∧ Below w0.heap.size w0 wx) := hide ⟨crow_own (unhide HK) hown2, (by rcases hown2.2 with ⟨h, _⟩ | ⟨g', cap', cur, h, _, _, h5, _⟩ <;> (injection h with h1 h2 h3; first | (subst h3; exact h5) | (exfalso; cases h1))), ((((Below.refl _ w0).alloc (Nat.le_refl _) _).drew.trans (ba.mono (by simp))).grown hg2 (by have := ba.size; simp at this ⊢; omega) (fun k hk => by have := own_ge4 hown k hk; simp at this; omega))⟩
                have f2 := ((unhide RX).2.2.cell (p := ⟨N, 2, none⟩) hNs).trans c2
                have f3 := ((unhide RX).2.2.cell (p := ⟨N, 3, none⟩) hNs).trans c3
                clear hown2 hg2 hat hlt2
                simp only [List.getElem_toArray, List.getElem_cons_succ, List.getElem_cons_zero]))
    all_goals
      go_wp2_with fail
      go_meet
      exact ⟨_, _, rfl, by first | rfl | go_num, rfl, (unhide RX).2.1, hide (unhide RX).1, hide (unhide RX).2.2⟩
  case rest =>
  obtain ⟨g, cap, rfl, rfl, rfl, hcap, HR, HW0⟩ := hcut
  have NB1 := hide (Blk.below (unhide NB) (unhide HW0))
  have hbw : Below w.heap.size w wc := by rw [hNn]; exact (unhide B0).trans ((unhide HW0).mono (by omega))
  have HBW := hide hbw
  clear c0 c1 c2 c3 KC hinf hz0 hz1 hz2 i0 HW0 NB hbw
  have ROW1 := hide ((unhide HROW).below (unhide HBW))
  go_wp2_with fail
  go_loopw [7, 27] (fun sa si wr => ∃ i : Nat, i ≤ l.length + 1 ∧ si = .int .i64 i ∧ sa = .int .i64 (atN a e l i : Int) ∧ Hid (Below wc.heap.size wc wr)) (fun _ si _ => l.length + 1 - (intOf si).toNat)
  case atStart => exact ⟨0, Nat.zero_le _, rfl, rfl, hide (Below.refl _ _)⟩
  case round =>
    obtain ⟨i, hi, rfl, rfl, HW⟩ := hrel
    by_cases hlt : i < l.length + 1
    · obtain ⟨p1, p2, p3, p4, p5⟩ := (unhide HPL).here i (by omega)
      obtain ⟨k0, q0, n0, r0, g0, g1, g2, g3⟩ := ((unhide HR).below (unhide HW)).cells i (by omega)
      have HP4 := hide p4
      have HP5 := hide p5
      generalize atN a e l i = A0 at *
      generalize numA e l i = A1 at *
      generalize numE e l i = A2 at *
      have i1 : (i : Int) < (l.length : Int) + 1 := by omega
      have i2 : ¬ (A1 : Int) < (A0 : Int) := by omega
      have i3 : ¬ (A2 : Int) < (A1 : Int) := by omega
      have i4 : ¬ (A2 : Int) > (e : Int) := by omega
      have i5 : ¬ (e : Int) > (ll.length : Int) := by omega
      have d2 : decide ((A1 : Int) < (A0 : Int)) = false := decide_eq_false i2
      have d3 : decide ((A2 : Int) < (A1 : Int)) = false := decide_eq_false i3
      have d4 : decide ((A2 : Int) > (e : Int)) = false := decide_eq_false i4
      have d5 : decide ((e : Int) > (ll.length : Int)) = false := decide_eq_false i5
      have bq := (unhide HW).alloc (unhide HW).size (.cells #[.int .i64 (k0 : Int), .int .i64 (A1 : Int), .int .i64 (A2 : Int), .slice q0 n0 r0] 24)
      have kb := hide (blk_alloc wr #[.int .i64 (k0 : Int), .int .i64 (A1 : Int), .int .i64 (A2 : Int), .slice q0 n0 r0] 24)
      have BQ := hide bq
      have NQ := hide (Blk.below (unhide NB1) bq)
      have RQ := hide ((unhide ROW1).below bq)
      obtain ⟨x0, x1, x2, x3⟩ := Blk.cells4 (unhide NQ)
      obtain ⟨y0, y1, y2, y3⟩ := Blk.cells4 (unhide kb)
      obtain ⟨tb, tof, htb, hlb, _⟩ := unhide ROW1 hlne
      subst htb
      have s1 : (A0 : Int) ≤ (A1 : Int) := by omega
      have s2 : (A1 : Int) ≤ (tc : Int) := by omega
      clear p4 p5 bq
      have e61 : ((A1 - A0 : Nat) : Int) = (A1 : Int) - (A0 : Int) := by omega
      by_cases hct : tc = A0
      · have hA : A1 = A0 := by omega
        subst hA
        subst hct
        go_wp2_with fail
        clear g0 g1 g2 g3 x0 x1 x2 y0 y1
        generalize hwq : wr.alloc (.cells #[.int .i64 (k0 : Int), .int .i64 (tc : Int), .int .i64 (A2 : Int), .slice q0 n0 r0] 24) = wq at *
        generalize wr.heap.size = KB at *
        clear hwq
        go_loopw [62] (fun s62 wz => s62 = .int .i64 0 ∧ Hid (Below wq.heap.size wq wz)) (fun _ _ => 0)
        case atStart => exact ⟨rfl, hide (Below.refl _ _)⟩
        case round =>
          obtain ⟨rfl, HZ⟩ := hrel
          clear x3
          have kz := Blk.cell (Blk.below (unhide kb) (unhide HZ)) 2 (.int .i64 (A2 : Int)) rfl
          have BZ : Hid (Below wc.heap.size wc wr) := hide ((unhide BQ).trans ((unhide HZ).mono (unhide BQ).size))
          go_wp2
          go_roundw
          case rel => exact ⟨i + 1, by omega, by go_num, by rw [unhide HP5], BZ⟩
          case measure => simp only [intOf]; omega
      · go_wp2_with fail
        clear g0 g1 g2 g3 x0 x1 x2 y0 y1
        generalize hwq : wr.alloc (.cells #[.int .i64 (k0 : Int), .int .i64 (A1 : Int), .int .i64 (A2 : Int), .slice q0 n0 r0] 24) = wq at *
        generalize wr.heap.size = KB at *
        clear hwq
        go_loopw [62] (fun s62 wz => ∃ j : Nat, j ≤ A1 - A0 ∧ s62 = .int .i64 j ∧ Hid (Below wq.heap.size wq wz)) (fun s62 _ => A1 - A0 - (intOf s62).toNat)
        case atStart => exact ⟨0, Nat.zero_le _, rfl, hide (Below.refl _ _)⟩
        case round =>
          obtain ⟨j, hj, rfl, HZ⟩ := hrel
          by_cases hjl : j < A1 - A0
          · have hm : A0 + j < ll.length := by omega
            obtain ⟨tb', tof', htb', _, qt⟩ := ((unhide RQ).below (unhide HZ)) hlne
            injection htb' with htb'
            injection htb' with t1 t2
            subst t1 t2
            obtain ⟨v1, v2, v3⟩ := qt (A0 + j) hm
            rw [show tof + (A0 + j) * 3 = tof + A0 * 3 + j * 3 by omega] at v1 v2 v3
            have i7 : (j : Int) < ((A1 - A0 : Nat) : Int) := by omega
            have i8 : (j : Int) < (A1 : Int) - (A0 : Int) := by omega
            have bt := (unhide HZ).alloc (unhide HZ).size (.cells #[.int .i64 (ll[A0 + j].kind : Int), .int .i64 (ll[A0 + j].fro : Int), .int .i64 (ll[A0 + j].til : Int)] 34)
            have z3 := Blk.cell (Blk.below (unhide NQ) bt) 3 _ rfl
            have BT := hide bt
            have HCL : Hid (0 < l.length → ll[A0 + j].kind ≠ 4 ∧ ll[A0 + j].kind ≠ 5 ∧ ll[A0 + j].kind ≠ 7) := hide (fun h => unhide HP4 h (A0 + j) hm (by omega) (by omega))
            clear qt bt x3
            generalize ll[A0 + j].kind = zk at *
            generalize ll[A0 + j].fro = zf at *
            generalize ll[A0 + j].til = zt at *
            by_cases hl0 : 0 < l.length
            · obtain ⟨h4, h5, h7⟩ := unhide HCL hl0
              have j4 : ((zk : Int) == 4) = false := beq_false_of_ne (by omega)
              have j5 : ((zk : Int) == 5) = false := beq_false_of_ne (by omega)
              have j7 : ((zk : Int) == 7) = false := beq_false_of_ne (by omega)
              have i9 : (l.length : Int) > 0 := by omega
              go_wp2
              go_roundw
              case rel => exact ⟨j + 1, by omega, by go_num, BT⟩
              case measure => simp only [intOf]; omega
            · have i9 : ¬ (l.length : Int) > 0 := by omega
              have d9 : decide ((l.length : Int) > 0) = false := decide_eq_false i9
              have d8 : decide (0 < l.length) = false := decide_eq_false hl0
              go_wp2
              go_roundw
              case rel => exact ⟨j + 1, by omega, by go_num, BT⟩
              case measure => simp only [intOf]; omega
          · have hje : j = A1 - A0 := by omega
            have i7 : ¬ (j : Int) < ((A1 - A0 : Nat) : Int) := by omega
            have i8 : ¬ (j : Int) < (A1 : Int) - (A0 : Int) := by omega
            have HJE := hide hje
            clear hje x3
            have kz := Blk.cell (Blk.below (unhide kb) (unhide HZ)) 2 (.int .i64 (A2 : Int)) rfl
            have BZ : Hid (Below wc.heap.size wc wr) := hide ((unhide BQ).trans ((unhide HZ).mono (unhide BQ).size))
            go_wp2
            go_roundw
            case rel => exact ⟨i + 1, by omega, by go_num, by rw [unhide HP5], BZ⟩
            case measure => simp only [intOf]; omega
    · have bw := unhide HW
      have x3 := Blk.cell (Blk.below (unhide NB1) bw) 3 _ rfl
      have i1 : ¬ (i : Int) < (l.length : Int) + 1 := by omega
      have BWR := hide ((unhide HBW).trans (bw.mono (unhide HBW).size))
      clear bw
      go_wp2_with fail
      clear x3
      go_loopw [92] (fun s92 wz => ∃ j : Nat, j ≤ l.length ∧ s92 = .int .i64 j ∧ Hid (Below wr.heap.size wr wz)) (fun s92 _ => l.length - (intOf s92).toNat)
      case atStart => exact ⟨0, Nat.zero_le _, rfl, hide (Below.refl _ _)⟩
      case round =>
        obtain ⟨j, hj, rfl, HZ⟩ := hrel
        by_cases hjl : j < l.length
        · have hne : l ≠ [] := fun e => by rw [e] at hjl; simp at hjl
          have bz := (unhide BWR).trans ((unhide HZ).mono (unhide BWR).size)
          obtain ⟨_, _, _, _, _, e4, _, qa⟩ := ((unhide HL).below bz).kids
          injection e4 with e5 e6 e7
          subst e5 e7
          obtain ⟨ba, oa, rfl, hba, qa⟩ := qa hne
          obtain ⟨v0, v1, v2, v3, g0, g1, g2, g3, hLa⟩ := qa j hjl
          have hsj := unhide HS j hjl
          have hcj := unhide HC j hjl
          obtain ⟨k1, a1, e1, p1, n1, c1, rfl, rfl, rfl, rfl⟩ := hLa.form
          have bt : Below wr.heap.size wr (wr.alloc (.cells #[.int .i64 (k1 : Int), .int .i64 (a1 : Int), .int .i64 (e1 : Int), .slice p1 n1 c1] 24)) := (Below.refl _ wr).alloc (Nat.le_refl _) _
          have KK := hide (unhide IH ok (wr.alloc (.cells #[.int .i64 (k1 : Int), .int .i64 (a1 : Int), .int .i64 (e1 : Int), .slice p1 n1 c1] 24)) l[j] _ _ _ _ (((unhide HROW).below bz).below bt) (hLa.below bt) hsj hcj)
          obtain ⟨y0, y1, y2, y3⟩ := Blk.cells4 (blk_alloc wr #[.int .i64 (k1 : Int), .int .i64 (a1 : Int), .int .i64 (e1 : Int), .slice p1 n1 c1] 24)
          have BT := hide ((unhide HZ).trans (bt.mono (unhide HZ).size))
          have i7 : (j : Int) < (l.length : Int) := by omega
          clear hLa hsj hcj qa e6 bt bz
          go_wp2_with fail
          refine (unhide KK).mono ?_
          rintro er w9 ⟨rfl, b9⟩
          dsimp only
          have B9 := hide ((unhide BT).trans (b9.mono (unhide BT).size))
          clear KK b9 g0 g1 g2 g3 y0 y1 y2 y3 BT
          go_wp2
          go_roundw
          case rel => exact ⟨j + 1, hjl, by go_num, B9⟩
          case measure => simp only [intOf]; omega
        · have i7 : ¬ (j : Int) < (l.length : Int) := by omega
          have B9 := hide ((unhide BWR).trans ((unhide HZ).mono (unhide BWR).size))
          go_wp2
          go_ret
          rw [hNn] at B9
          exact ⟨rfl, unhide B9⟩
end Go.Proofs.Ytoikdjbgeebadaa.trees
