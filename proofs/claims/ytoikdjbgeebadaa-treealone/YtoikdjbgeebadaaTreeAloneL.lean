/- The walk of the law that each value of a document is one alone, and of the same nodes. -/
import Derived.Test.YtoikdjbgeebadaaTreeAloneP
import Derived.Deep.RegionHeld
set_option linter.unusedVariables false
namespace Go.Proofs.Ytoikdjbgeebadaa.trees
open Go.RowKit
open toks

/-- A list of numbers that came in. -/
def PathIn (w : World) (a : Option Addr) (zs : List Int) : Prop :=
  zs ≠ [] → ∃ b o, a = some ⟨b, o, none⟩ ∧ b < w.heap.size ∧ ∀ j (h : j < zs.length), w.cell? ⟨b, o + j, none⟩ = some (.int .i64 zs[j])
theorem PathIn.below {w w' : World} {a : Option Addr} {zs : List Int} (h : PathIn w a zs) (hb : Below w.heap.size w w') : PathIn w' a zs := by
  intro h0
  obtain ⟨b, o, e, hlt, hc⟩ := h h0
  exact ⟨b, o, e, Nat.lt_of_lt_of_le hlt hb.size, fun j hj => by rw [hb.cell (p := ⟨b, o + j, none⟩) hlt]; exact hc j hj⟩
/-- The variable's block, and what else stands. -/
structure AInv (w : World) (L : List UInt8) (ll : List Tk) (N : Nat) (pa : Option Addr) (zs : List Int) (t : T) (u0 u1 u2 u3 : Value) (wr : World) : Prop where
  nb : Blk wr N #[u0, u1, u2, u3] 24
  kn : Know L ll (fun b => b ≠ N) wr [u0, u1, u2, u3] t
  bel : Below w.heap.size w wr
  path : PathIn wr pa zs
  lt : w.heap.size ≤ N
  pn : ∀ b o, pa = some ⟨b, o, none⟩ → zs ≠ [] → b < N
theorem AInv.below {w : World} {L : List UInt8} {ll : List Tk} {N : Nat} {pa : Option Addr} {zs : List Int} {t : T} {u0 u1 u2 u3 : Value} {wr wa : World} (h : AInv w L ll N pa zs t u0 u1 u2 u3 wr) (hb : Below wr.heap.size wr wa) : AInv w L ll N pa zs t u0 u1 u2 u3 wa :=
  ⟨h.nb.below hb, h.kn.below hb, h.bel.trans (hb.mono h.bel.size), h.path.below hb, h.lt, h.pn⟩
/-- The variable holds a kid now. -/
theorem AInv.put {w : World} {L : List UInt8} {ll : List Tk} {N : Nat} {pa : Option Addr} {zs : List Int} {t t' : T} {u0 u1 u2 u3 v0 v1 v2 v3 : Value} {wr : World} (h : AInv w L ll N pa zs t u0 u1 u2 u3 wr) (hk : Know L ll (fun b => b ≠ N) wr [v0, v1, v2, v3] t') : AInv w L ll N pa zs t' v0 v1 v2 v3 (put4 wr N v0 v1 v2 v3) := by
  refine ⟨put4_blk h.nb _ _ _ _, hk.kept (by rw [put4_size]; exact Nat.le_refl _) (fun b hb _ => put4_heap hb _ _ _ _), below_put4 h.bel h.lt _ _ _ _, ?_, h.lt, h.pn⟩
  intro h0
  obtain ⟨b, o, e, hlt, hc⟩ := h.path h0
  have hbN := h.pn b o e h0
  refine ⟨b, o, e, by rw [put4_size]; exact hlt, fun j hj => ?_⟩
  rw [World.cell?_of_block (w := wr) (w' := put4 wr N v0 v1 v2 v3) (a := ⟨b, o + j, none⟩) (put4_heap (show b ≠ N by omega) _ _ _ _)]
  exact hc j hj
set_option maxHeartbeats 4000000 in
set_option maxRecDepth 100000 in
theorem alone_large (w : World) (s : ByteArray) (pa : Option Addr) (pn pc : Nat) (hs : 20000 < s.size) (hM : MaxOk w) :
    Calls Try.prog 6 #[.string s, .slice pa pn pc] w fun e w' => e = .returned (.bool true) ∧ Below w.heap.size w w' := by
  have K0 := hide (trees_any w hM)
  have K1 : ∀ u, Hid _ := fun u => hide (parse_large u s hs)
  clear hM
  go_enter Try.func6, Try.ntmps6
  go_wp2_with fail
  refine (unhide K0).mono ?_
  rintro e w1 ⟨rfl, b1⟩
  dsimp only
  have B1 := hide b1
  clear K0 b1
  go_wp2_with fail
  refine (unhide (K1 w1)).mono ?_
  rintro e w2 ⟨rfl, b2⟩
  dsimp only
  have B2 := hide ((((unhide B1).trans (b2.mono (unhide B1).size))).alloc (Nat.le_trans (unhide B1).size b2.size) (.cells #[.int .i64 0, .int .i64 0, .int .i64 0, .slice none 0 0] 24))
  clear K1 b2 B1
  go_wp2
  go_ret
  exact ⟨rfl, unhide B2⟩
set_option maxHeartbeats 4000000 in
set_option maxRecDepth 100000 in
theorem lawAlone (w : World) (s : ByteArray) (pa : Option Addr) (pc : Nat) (zs : List Int) (hpath : PathIn w pa zs) (hzl : (zs.length : Int) ≤ 9223372036854775807) (hzb : ∀ j (h : j < zs.length), -9223372036854775808 ≤ zs[j] ∧ zs[j] ≤ 9223372036854775807) (hM : MaxOk w) :
    Calls Try.prog 6 #[.string s, .slice pa zs.length pc] w fun e w' => e = .returned (.bool true) ∧ Below w.heap.size w w' := by
  by_cases hs : 20000 < s.size
  · exact alone_large w s pa _ pc hs hM
  have hs : s.size ≤ 20000 := by omega
  have K0 := hide (trees_any w hM)
  have K1 : ∀ u, Below w.heap.size w u → Hid _ := fun u hu => hide (parse_any u s hs (hM.below (Nat.le_refl _) hu))
  rcases docR_cases (toksL s.data.toList).length (sols s.data.toList) with ⟨c, te, hd, hp, hc⟩ | ⟨t0, hd, hp⟩
  · rw [hd] at K1
    have jc1 : ((c : Int) == 0) = false := beq_false_of_ne (by omega)
    have jc2 : ((c : Int) != 0) = true := by unfold bne; rw [jc1]; rfl
    clear hd hp hM hc
    go_enter Try.func6, Try.ntmps6
    go_wp2_with fail
    refine (unhide K0).mono ?_
    rintro e w1 ⟨rfl, b1⟩
    dsimp only
    have K1a := K1 w1 b1
    have B1 := hide b1
    clear K0 b1 K1
    go_wp2_with fail
    refine (unhide K1a).mono ?_
    rintro e w2 ⟨b2, rfl⟩
    dsimp only
    generalize placeOf s (toksL s.data.toList) te = z at *
    have B3 := hide ((((unhide B1).trans (b2.mono (unhide B1).size))).alloc (Nat.le_trans (unhide B1).size b2.size) (.cells #[.int .i64 0, .int .i64 0, .int .i64 0, .slice none 0 0] 24))
    clear K1a b2 B1
    go_wp2
    go_ret
    exact ⟨rfl, unhide B3⟩
  rw [hd] at K1
  have HMX := hide hM
  have HP := hide hp
  have HPA := hide hpath
  have HZB := hide hzb
  have ML : ∀ u, Below w.heap.size w u → MaxOk u := fun u hu => hM.below (Nat.le_refl _) hu
  have HML := hide ML
  clear hd hM ML hpath hp hzb
  go_enter Try.func6, Try.ntmps6
  go_wp2_with fail
  refine (unhide K0).mono ?_
  rintro e w1 ⟨rfl, b1⟩
  dsimp only
  have K1a := K1 w1 b1
  have B1 := hide b1
  clear K0 b1 K1
  go_wp2_with fail
  refine (unhide K1a).mono ?_
  rintro e w2 ⟨b2, u0, u1, u2, u3, rfl, hL⟩
  dsimp only
  have hb12 := (unhide B1).trans (b2.mono (unhide B1).size)
  have hkn := know_doc s hs (unhide HP) hL
  obtain ⟨rfl, rfl, rfl, p, c, rfl, hcl⟩ := hL.node
  have I0 : Hid (AInv w s.data.toList (toksL s.data.toList) w2.heap.size pa zs (nd 6 0 (toksL s.data.toList).length [t0]) (.int .i64 6) (.int .i64 0) (.int .i64 ((toksL s.data.toList).length : Int)) (.slice p [t0].length c) (w2.alloc (.cells #[.int .i64 6, .int .i64 0, .int .i64 ((toksL s.data.toList).length : Int), .slice p [t0].length c] 24))) := hide (by
    have ba := (Below.refl _ w2).alloc (Nat.le_refl _) (.cells #[.int .i64 6, .int .i64 0, .int .i64 ((toksL s.data.toList).length : Int), .slice p [t0].length c] 24)
    have hb3 := hb12.alloc hb12.size (.cells #[.int .i64 6, .int .i64 0, .int .i64 ((toksL s.data.toList).length : Int), .slice p [t0].length c] 24)
    have k1 : Know s.data.toList (toksL s.data.toList) (fun b => b ≠ w2.heap.size) w2 _ _ := ⟨hkn.lies.own.weaken (fun b hb => by omega), hkn.role, hkn.slim, hkn.cov⟩
    refine ⟨blk_alloc w2 _ _, k1.below ba, hb3, (unhide HPA).below hb3, hb12.size, fun b o e h0 => ?_⟩
    obtain ⟨b', o', e', hlt, _⟩ := unhide HPA h0
    rw [e'] at e
    injection e with e
    injection e with e1 e2
    have := hb12.size
    omega)
  have hll := (good s hs).len
  clear K1a b2 hb12 hkn hL hcl B1 HPA
  go_wp2_with fail
  generalize w2.alloc (.cells #[.int .i64 6, .int .i64 0, .int .i64 ((toksL s.data.toList).length : Int), .slice p [t0].length c] 24) = w3 at *
  generalize w2.heap.size = N at *
  have hnl : (toksL s.data.toList).length ≤ 20000 := hll
  go_loopw [8] (fun i wr => ∃ (j : Nat) (t : T) (u0 u1 u2 u3 : Value), j ≤ zs.length ∧ i = .int .i64 j ∧ Hid (AInv w s.data.toList (toksL s.data.toList) N pa zs t u0 u1 u2 u3 wr)) (fun i _ => zs.length - (intOf i).toNat)
  case atStart => exact ⟨0, _, _, _, _, _, Nat.zero_le _, rfl, I0⟩
  case round =>
    obtain ⟨j, t, u0, u1, u2, u3, hj, rfl, HI⟩ := hrel
    obtain ⟨k, a, e, l, rfl⟩ := (unhide HI).kn.lies.nd
    obtain ⟨pk, ck, rfl, rfl, rfl, rfl, hl, hel, hkids⟩ := (unhide HI).kn.kid
    have n3 := Blk.cell (unhide HI).nb 3 (.slice pk l.length ck) rfl
    by_cases hlt : j < zs.length
    · have i1 : (j : Int) < (zs.length : Int) := by omega
      by_cases hle : l = []
      · have hl0 : l.length = 0 := by rw [hle]; rfl
        have i2 : ¬ (l.length : Int) > 0 := by omega
        have d2 : decide ((l.length : Int) > 0) = false := decide_eq_false i2
        have d3 : decide (0 < l.length) = false := decide_eq_false (by omega)
        have HL0 := hide hl0
        clear hle hl0 hkids
        rcases role_kind (unhide HI).kn.role with ⟨rfl, _⟩ | ⟨rfl, _⟩ | ⟨rfl, hl2, hv1⟩ | ⟨hk135, seg, hpart, hval⟩
        · obtain ⟨z0, z1, z2, z3⟩ := Blk.cells4 (unhide HI).nb
          have B9 := hide (unhide HI).bel
          go_wp2
          go_ret
          exact ⟨rfl, unhide B9⟩
        · obtain ⟨z0, z1, z2, z3⟩ := Blk.cells4 (unhide HI).nb
          have B9 := hide (unhide HI).bel
          go_wp2
          go_ret
          exact ⟨rfl, unhide B9⟩
        · exact absurd hl2 (by have := unhide HL0; omega)
        · obtain ⟨E, X, t', rfl, haE, hE, hX, hXs, hpd, hmv⟩ := alone_plain s hs hpart hval
          have eE : ((E + 1 : Nat) : Int) = (E : Int) + 1 := by omega
          have KSo : ∀ u, Below w.heap.size w u → Hid _ := fun u hu => hide (source_good u s (k : Int) a E pk l.length ck hs (unhide HML u hu) haE hE)
          rw [hX] at KSo
          have KPa : ∀ u, Below w.heap.size w u → Hid _ := fun u hu => hide (parse_any u X hXs (unhide HML u hu))
          have hdX : docR (toksL X.data.toList).length (sols X.data.toList) = .inr (nd 6 0 (toksL X.data.toList).length [t'], []) := docR_good (val_alone (pd_val hpd).2)
          rw [hdX] at KPa
          rw [eE] at HI
          have HMV := hide hmv
          have k4 : ((k : Int) == 4) = false := beq_false_of_ne (by omega)
          have k2 : ((k : Int) == 2) = false := beq_false_of_ne (by omega)
          have k6 : ((k : Int) == 6) = false := beq_false_of_ne (by omega)
          obtain ⟨z0, z1, z2, z3⟩ := Blk.cells4 (unhide HI).nb
          have KS1 := KSo _ (unhide HI).bel
          clear hpart hval hX hdX hpd hmv haE hE KSo
          go_wp2_with fail
          refine (unhide KS1).mono ?_
          rintro er wA ⟨rfl, bA⟩
          dsimp only
          have IA := hide ((unhide HI).below bA)
          have KP1 := KPa _ (unhide IA).bel
          clear KS1 bA z0 z1 z2 z3 HI KPa
          go_wp2_with fail
          refine (unhide KP1).mono ?_
          rintro er wB ⟨bB, v0, v1, v2, v3, rfl, hLB⟩
          dsimp only
          generalize (toksL X.data.toList).length = nX at *
          obtain ⟨pB0, cB0, rfl, rfl, rfl, rfl, hcB, qB⟩ := hLB.kids
          obtain ⟨bb, ob, rfl, hbb, qB⟩ := qB (by simp)
          obtain ⟨x0, x1, x2, x3, g0, g1, g2, g3, hL1⟩ := qB 0 (by simp)
          rw [Nat.zero_mul, Nat.add_zero] at g0 g1 g2 g3
          obtain ⟨k1, a1', e1', p1, n1, c1, rfl, rfl, rfl, rfl⟩ := hL1.form
          have bC : Below wB.heap.size wB (wB.alloc (.cells #[.int .i64 6, .int .i64 0, .int .i64 (nX : Int), .slice (some ⟨bb, ob, none⟩) 1 cB0] 24)) := (Below.refl _ wB).alloc (Nat.le_refl _) _
          have IC := ((unhide IA).below bB).below bC
          have mb := blk_alloc wB #[.int .i64 6, .int .i64 0, .int .i64 (nX : Int), .slice (some ⟨bb, ob, none⟩) 1 cB0] 24
          have f0 := (bC.cell (p := ⟨bb, ob, none⟩) hbb).trans g0
          have f1 := (bC.cell (p := ⟨bb, ob + 1, none⟩) hbb).trans g1
          have f2 := (bC.cell (p := ⟨bb, ob + 2, none⟩) hbb).trans g2
          have f3 := (bC.cell (p := ⟨bb, ob + 3, none⟩) hbb).trans g3
          have KM : ∀ n, Hid _ := fun n => hide (moved_any (toksL s.data.toList) hll a 42 (fun b => b ≠ N) _ ((wB.alloc (.cells #[.int .i64 6, .int .i64 0, .int .i64 (nX : Int), .slice (some ⟨bb, ob, none⟩) 1 cB0] 24)).drewN n) (nd k a (E + 1) l) t' _ _ _ _ _ _ _ _ (IC.kn.lies.below (below_drewN (Below.refl _ _) n)) (((hL1.to (show 40 ≤ 42 by decide)).below bC).below (below_drewN (Below.refl _ _) n)) (unhide HMV) IC.kn.slim IC.kn.cov)
          obtain ⟨z0, z1, z2, z3⟩ := Blk.cells4 IC.nb
          have m3 := Blk.cell mb 3 _ rfl
          have HIC := hide IC
          clear KP1 bB hLB qB g0 g1 g2 g3 hL1 bC IC mb IA HMV
          go_wp2_with fail
          generalize (wB.alloc (.cells #[.int .i64 6, .int .i64 0, .int .i64 (nX : Int), .slice (some ⟨bb, ob, none⟩) 1 cB0] 24)) = wC at *
          generalize wB.heap.size = NM at *
          go_region_held (fun w' => w'.cell? ⟨N, 0, none⟩ = some (.int .i64 (k : Int)) ∧ w'.cell? ⟨N, 1, none⟩ = some (.int .i64 (a : Int)) ∧ w'.cell? ⟨N, 2, none⟩ = some (.int .i64 ((E : Int) + 1)) ∧ w'.cell? ⟨N, 3, none⟩ = some (.slice pk l.length ck) ∧ w'.cell? ⟨NM, 3, none⟩ = some (.slice (some ⟨bb, ob, none⟩) 1 cB0) ∧ w'.cell? ⟨bb, ob, none⟩ = some (.int .i64 (k1 : Int)) ∧ w'.cell? ⟨bb, ob + 1, none⟩ = some (.int .i64 (a1' : Int)) ∧ w'.cell? ⟨bb, ob + 2, none⟩ = some (.int .i64 (e1' : Int)) ∧ w'.cell? ⟨bb, ob + 3, none⟩ = some (.slice p1 n1 c1)) (go_keep)
            (first | (go_at_call 16
                      refine (unhide (KM 1)).mono ?_
                      rintro er w9 ⟨rfl, b9⟩
                      have hzN := World.block_lt_of_cell? _ _ z0
                      have hzM := World.block_lt_of_cell? _ _ m3
                      have hzb := World.block_lt_of_cell? _ _ f0
                      have s0 := (b9.cell (p := ⟨N, 0, none⟩) hzN).trans z0
                      have s1 := (b9.cell (p := ⟨N, 1, none⟩) hzN).trans z1
                      have s2 := (b9.cell (p := ⟨N, 2, none⟩) hzN).trans z2
                      have s3 := (b9.cell (p := ⟨N, 3, none⟩) hzN).trans z3
                      have s4 := (b9.cell (p := ⟨NM, 3, none⟩) hzM).trans m3
                      have s5 := (b9.cell (p := ⟨bb, ob, none⟩) hzb).trans f0
                      have s6 := (b9.cell (p := ⟨bb, ob + 1, none⟩) hzb).trans f1
                      have s7 := (b9.cell (p := ⟨bb, ob + 2, none⟩) hzb).trans f2
                      have s8 := (b9.cell (p := ⟨bb, ob + 3, none⟩) hzb).trans f3
                      have B9 := hide ((below_drewN (unhide HIC).bel 1).trans (b9.mono (unhide HIC).bel.size))
                      clear b9 hzN hzM hzb))
          all_goals
            go_wp2
            go_ret
            exact ⟨rfl, unhide B9⟩
      · have hlp := List.length_pos_iff.2 hle
        have i2 : (l.length : Int) > 0 := by omega
        have d3 : decide (0 < l.length) = true := decide_eq_true hlp
        have hz := unhide HZB j hlt
        obtain ⟨b, o, rfl, hok, hb, q⟩ := hkids hle
        obtain ⟨m, J, r1, m1, m2, m3, r2, r3, hJ⟩ := index_ok zs[j] l.length hlp hl
        obtain ⟨x0, x1, x2, x3, g0, g1, g2, g3, hkj⟩ := q J hJ
        have hne : zs ≠ [] := fun e => by rw [e] at hlt; simp at hlt
        obtain ⟨bp, op, rfl, hbp, qp⟩ := (unhide HI).path hne
        have xp := qp j hlt
        obtain ⟨k1, a1, e1, p1, n1, c1, rfl, rfl, rfl, rfl⟩ := hkj.lies.form
        obtain ⟨z0, z1, z2, z3⟩ := Blk.cells4 (unhide HI).nb
        obtain ⟨y0, y1, y2, y3⟩ := Blk.froz4 (unhide HI).nb
        have I2 := hide (((unhide HI).put hkj).below ((Below.refl _ _).drew))
        generalize zs[j] = x at *
        have i4 : (J : Int) < (l.length : Int) := by omega
        clear q qp hkj hkids n3
        go_wp2_with fail
        go_region
        clear z0 z1 z2 z3 y0 y1 y2 y3 g0 g1 g2 g3 xp
        go_wp2
        go_roundw
        case rel => exact ⟨j + 1, _, _, _, _, _, hlt, by go_num, I2⟩
        case measure => simp only [intOf]; omega
    · have i1 : ¬ (j : Int) < (zs.length : Int) := by omega
      have d1 : decide ((j : Int) < (zs.length : Int)) = false := decide_eq_false i1
      have d1' : decide (j < zs.length) = false := decide_eq_false (by omega)
      clear hkids
      rcases role_kind (unhide HI).kn.role with ⟨rfl, _⟩ | ⟨rfl, _⟩ | ⟨rfl, hl2, hv1⟩ | ⟨hk135, seg, hpart, hval⟩
      · obtain ⟨z0, z1, z2, z3⟩ := Blk.cells4 (unhide HI).nb
        have B9 := hide (unhide HI).bel
        go_wp2
        go_ret
        exact ⟨rfl, unhide B9⟩
      · obtain ⟨z0, z1, z2, z3⟩ := Blk.cells4 (unhide HI).nb
        have B9 := hide (unhide HI).bel
        go_wp2
        go_ret
        exact ⟨rfl, unhide B9⟩
      · obtain ⟨_, _, _, _, _, e4, _, _, hkids⟩ := (unhide HI).kn.kid
        injection e4 with e5 e6 e7
        subst e5 e7
        have hle : l ≠ [] := fun e => by rw [e] at hl2; simp at hl2
        obtain ⟨b, o, rfl, hok, hb, q⟩ := hkids hle
        obtain ⟨x0, x1, x2, x3, g0, g1, g2, g3, hkj⟩ := q 1 (by omega)
        obtain ⟨seg, hpart, hval0⟩ := hv1 (by omega)
        obtain ⟨k, a1, e1, l1, hl1⟩ := hkj.lies.nd
        rw [hl1] at hkj hval0
        have hval := hval0
        obtain ⟨pk1, ck1, rfl, rfl, rfl, rfl, hl1', hel1, _⟩ := hkj.kid
        obtain ⟨z0, z1, z2, z3⟩ := Blk.cells4 (unhide HI).nb
        obtain ⟨y0, y1, y2, y3⟩ := Blk.froz4 (unhide HI).nb
        have I2 := hide ((unhide HI).put hkj)
        rw [Nat.one_mul] at g0 g1 g2 g3
        have hk135 : k = 1 ∨ k = 3 ∨ k = 5 := by
          rcases val_kids hval with ⟨h1, _⟩ | ⟨h1, _⟩ | ⟨h1, _⟩
          · exact .inl h1
          · exact .inr (.inl h1)
          · exact .inr (.inr h1)
        have hl2' : l.length = 2 := hl2
        clear q hkj hkids hv1 hle e6 hval0 hl1 n3
        rw [hl2'] at *
        go_upto_region 12 with fail
        clear z0 z1 z2 z3 y0 y1 y2 y3 g0 g1 g2 g3
        clear HI
        have HI : Hid (AInv w s.data.toList (toksL s.data.toList) N pa zs (nd k a1 e1 l1) (.int .i64 (k : Int)) (.int .i64 (a1 : Int)) (.int .i64 (e1 : Int)) (.slice pk1 l1.length ck1) ((((wr.setCell ⟨N, 0, none⟩ (.int .i64 (k : Int))).setCell ⟨N, 1, none⟩ (.int .i64 (a1 : Int))).setCell ⟨N, 2, none⟩ (.int .i64 (e1 : Int))).setCell ⟨N, 3, none⟩ (.slice pk1 l1.length ck1))) := I2
        clear I2
        generalize ((((wr.setCell ⟨N, 0, none⟩ (.int .i64 (k : Int))).setCell ⟨N, 1, none⟩ (.int .i64 (a1 : Int))).setCell ⟨N, 2, none⟩ (.int .i64 (e1 : Int))).setCell ⟨N, 3, none⟩ (.slice pk1 l1.length ck1)) = wz at *
        obtain ⟨E, X, t', rfl, haE, hE, hX, hXs, hpd, hmv⟩ := alone_plain s hs hpart hval
        have eE : ((E + 1 : Nat) : Int) = (E : Int) + 1 := by omega
        have KSo : ∀ u, Below w.heap.size w u → Hid _ := fun u hu => hide (source_good u s (k : Int) a1 E pk1 l1.length ck1 hs (unhide HML u hu) haE hE)
        rw [hX] at KSo
        have KPa : ∀ u, Below w.heap.size w u → Hid _ := fun u hu => hide (parse_any u X hXs (unhide HML u hu))
        have hdX : docR (toksL X.data.toList).length (sols X.data.toList) = .inr (nd 6 0 (toksL X.data.toList).length [t'], []) := docR_good (val_alone (pd_val hpd).2)
        rw [hdX] at KPa
        rw [eE] at HI
        have HMV := hide hmv
        have k4 : ((k : Int) == 4) = false := beq_false_of_ne (by omega)
        have k2 : ((k : Int) == 2) = false := beq_false_of_ne (by omega)
        have k6 : ((k : Int) == 6) = false := beq_false_of_ne (by omega)
        obtain ⟨z0, z1, z2, z3⟩ := Blk.cells4 (unhide HI).nb
        have KS1 := KSo _ (unhide HI).bel
        clear hpart hval hX hdX hpd hmv haE hE KSo
        go_wp2_with fail
        refine (unhide KS1).mono ?_
        rintro er wA ⟨rfl, bA⟩
        dsimp only
        have IA := hide ((unhide HI).below bA)
        have KP1 := KPa _ (unhide IA).bel
        clear KS1 bA z0 z1 z2 z3 HI KPa
        go_wp2_with fail
        refine (unhide KP1).mono ?_
        rintro er wB ⟨bB, v0, v1, v2, v3, rfl, hLB⟩
        dsimp only
        generalize (toksL X.data.toList).length = nX at *
        obtain ⟨pB0, cB0, rfl, rfl, rfl, rfl, hcB, qB⟩ := hLB.kids
        obtain ⟨bb, ob, rfl, hbb, qB⟩ := qB (by simp)
        obtain ⟨x0, x1, x2, x3, g0, g1, g2, g3, hL1⟩ := qB 0 (by simp)
        rw [Nat.zero_mul, Nat.add_zero] at g0 g1 g2 g3
        obtain ⟨k1, a1', e1', p1, n1, c1, rfl, rfl, rfl, rfl⟩ := hL1.form
        have bC : Below wB.heap.size wB (wB.alloc (.cells #[.int .i64 6, .int .i64 0, .int .i64 (nX : Int), .slice (some ⟨bb, ob, none⟩) 1 cB0] 24)) := (Below.refl _ wB).alloc (Nat.le_refl _) _
        have IC := ((unhide IA).below bB).below bC
        have mb := blk_alloc wB #[.int .i64 6, .int .i64 0, .int .i64 (nX : Int), .slice (some ⟨bb, ob, none⟩) 1 cB0] 24
        have f0 := (bC.cell (p := ⟨bb, ob, none⟩) hbb).trans g0
        have f1 := (bC.cell (p := ⟨bb, ob + 1, none⟩) hbb).trans g1
        have f2 := (bC.cell (p := ⟨bb, ob + 2, none⟩) hbb).trans g2
        have f3 := (bC.cell (p := ⟨bb, ob + 3, none⟩) hbb).trans g3
        have KM : ∀ n, Hid _ := fun n => hide (moved_any (toksL s.data.toList) hll a1 42 (fun b => b ≠ N) _ ((wB.alloc (.cells #[.int .i64 6, .int .i64 0, .int .i64 (nX : Int), .slice (some ⟨bb, ob, none⟩) 1 cB0] 24)).drewN n) (nd k a1 (E + 1) l1) t' _ _ _ _ _ _ _ _ (IC.kn.lies.below (below_drewN (Below.refl _ _) n)) (((hL1.to (show 40 ≤ 42 by decide)).below bC).below (below_drewN (Below.refl _ _) n)) (unhide HMV) IC.kn.slim IC.kn.cov)
        obtain ⟨z0, z1, z2, z3⟩ := Blk.cells4 IC.nb
        have m3 := Blk.cell mb 3 _ rfl
        have HIC := hide IC
        clear KP1 bB hLB qB g0 g1 g2 g3 hL1 bC IC mb IA HMV
        go_wp2_with fail
        generalize (wB.alloc (.cells #[.int .i64 6, .int .i64 0, .int .i64 (nX : Int), .slice (some ⟨bb, ob, none⟩) 1 cB0] 24)) = wC at *
        generalize wB.heap.size = NM at *
        go_region_held (fun w' => w'.cell? ⟨N, 0, none⟩ = some (.int .i64 (k : Int)) ∧ w'.cell? ⟨N, 1, none⟩ = some (.int .i64 (a1 : Int)) ∧ w'.cell? ⟨N, 2, none⟩ = some (.int .i64 ((E : Int) + 1)) ∧ w'.cell? ⟨N, 3, none⟩ = some (.slice pk1 l1.length ck1) ∧ w'.cell? ⟨NM, 3, none⟩ = some (.slice (some ⟨bb, ob, none⟩) 1 cB0) ∧ w'.cell? ⟨bb, ob, none⟩ = some (.int .i64 (k1 : Int)) ∧ w'.cell? ⟨bb, ob + 1, none⟩ = some (.int .i64 (a1' : Int)) ∧ w'.cell? ⟨bb, ob + 2, none⟩ = some (.int .i64 (e1' : Int)) ∧ w'.cell? ⟨bb, ob + 3, none⟩ = some (.slice p1 n1 c1)) (go_keep)
          (first | (go_at_call 16
                    refine (unhide (KM 1)).mono ?_
                    rintro er w9 ⟨rfl, b9⟩
                    have hzN := World.block_lt_of_cell? _ _ z0
                    have hzM := World.block_lt_of_cell? _ _ m3
                    have hzb := World.block_lt_of_cell? _ _ f0
                    have s0 := (b9.cell (p := ⟨N, 0, none⟩) hzN).trans z0
                    have s1 := (b9.cell (p := ⟨N, 1, none⟩) hzN).trans z1
                    have s2 := (b9.cell (p := ⟨N, 2, none⟩) hzN).trans z2
                    have s3 := (b9.cell (p := ⟨N, 3, none⟩) hzN).trans z3
                    have s4 := (b9.cell (p := ⟨NM, 3, none⟩) hzM).trans m3
                    have s5 := (b9.cell (p := ⟨bb, ob, none⟩) hzb).trans f0
                    have s6 := (b9.cell (p := ⟨bb, ob + 1, none⟩) hzb).trans f1
                    have s7 := (b9.cell (p := ⟨bb, ob + 2, none⟩) hzb).trans f2
                    have s8 := (b9.cell (p := ⟨bb, ob + 3, none⟩) hzb).trans f3
                    have B9 := hide ((below_drewN (unhide HIC).bel 1).trans (b9.mono (unhide HIC).bel.size))
                    clear b9 hzN hzM hzb))
        all_goals
          go_wp2
          go_ret
          exact ⟨rfl, unhide B9⟩
      · obtain ⟨E, X, t', rfl, haE, hE, hX, hXs, hpd, hmv⟩ := alone_plain s hs hpart hval
        have eE : ((E + 1 : Nat) : Int) = (E : Int) + 1 := by omega
        have KSo : ∀ u, Below w.heap.size w u → Hid _ := fun u hu => hide (source_good u s (k : Int) a E pk l.length ck hs (unhide HML u hu) haE hE)
        rw [hX] at KSo
        have KPa : ∀ u, Below w.heap.size w u → Hid _ := fun u hu => hide (parse_any u X hXs (unhide HML u hu))
        have hdX : docR (toksL X.data.toList).length (sols X.data.toList) = .inr (nd 6 0 (toksL X.data.toList).length [t'], []) := docR_good (val_alone (pd_val hpd).2)
        rw [hdX] at KPa
        rw [eE] at HI
        have HMV := hide hmv
        have k4 : ((k : Int) == 4) = false := beq_false_of_ne (by omega)
        have k2 : ((k : Int) == 2) = false := beq_false_of_ne (by omega)
        have k6 : ((k : Int) == 6) = false := beq_false_of_ne (by omega)
        obtain ⟨z0, z1, z2, z3⟩ := Blk.cells4 (unhide HI).nb
        have KS1 := KSo _ (unhide HI).bel
        clear hpart hval hX hdX hpd hmv haE hE KSo
        go_wp2_with fail
        refine (unhide KS1).mono ?_
        rintro er wA ⟨rfl, bA⟩
        dsimp only
        have IA := hide ((unhide HI).below bA)
        have KP1 := KPa _ (unhide IA).bel
        clear KS1 bA z0 z1 z2 z3 HI KPa
        go_wp2_with fail
        refine (unhide KP1).mono ?_
        rintro er wB ⟨bB, v0, v1, v2, v3, rfl, hLB⟩
        dsimp only
        generalize (toksL X.data.toList).length = nX at *
        obtain ⟨pB0, cB0, rfl, rfl, rfl, rfl, hcB, qB⟩ := hLB.kids
        obtain ⟨bb, ob, rfl, hbb, qB⟩ := qB (by simp)
        obtain ⟨x0, x1, x2, x3, g0, g1, g2, g3, hL1⟩ := qB 0 (by simp)
        rw [Nat.zero_mul, Nat.add_zero] at g0 g1 g2 g3
        obtain ⟨k1, a1', e1', p1, n1, c1, rfl, rfl, rfl, rfl⟩ := hL1.form
        have bC : Below wB.heap.size wB (wB.alloc (.cells #[.int .i64 6, .int .i64 0, .int .i64 (nX : Int), .slice (some ⟨bb, ob, none⟩) 1 cB0] 24)) := (Below.refl _ wB).alloc (Nat.le_refl _) _
        have IC := ((unhide IA).below bB).below bC
        have mb := blk_alloc wB #[.int .i64 6, .int .i64 0, .int .i64 (nX : Int), .slice (some ⟨bb, ob, none⟩) 1 cB0] 24
        have f0 := (bC.cell (p := ⟨bb, ob, none⟩) hbb).trans g0
        have f1 := (bC.cell (p := ⟨bb, ob + 1, none⟩) hbb).trans g1
        have f2 := (bC.cell (p := ⟨bb, ob + 2, none⟩) hbb).trans g2
        have f3 := (bC.cell (p := ⟨bb, ob + 3, none⟩) hbb).trans g3
        have KM : ∀ n, Hid _ := fun n => hide (moved_any (toksL s.data.toList) hll a 42 (fun b => b ≠ N) _ ((wB.alloc (.cells #[.int .i64 6, .int .i64 0, .int .i64 (nX : Int), .slice (some ⟨bb, ob, none⟩) 1 cB0] 24)).drewN n) (nd k a (E + 1) l) t' _ _ _ _ _ _ _ _ (IC.kn.lies.below (below_drewN (Below.refl _ _) n)) (((hL1.to (show 40 ≤ 42 by decide)).below bC).below (below_drewN (Below.refl _ _) n)) (unhide HMV) IC.kn.slim IC.kn.cov)
        obtain ⟨z0, z1, z2, z3⟩ := Blk.cells4 IC.nb
        have m3 := Blk.cell mb 3 _ rfl
        have HIC := hide IC
        clear KP1 bB hLB qB g0 g1 g2 g3 hL1 bC IC mb IA HMV
        go_wp2_with fail
        generalize (wB.alloc (.cells #[.int .i64 6, .int .i64 0, .int .i64 (nX : Int), .slice (some ⟨bb, ob, none⟩) 1 cB0] 24)) = wC at *
        generalize wB.heap.size = NM at *
        go_region_held (fun w' => w'.cell? ⟨N, 0, none⟩ = some (.int .i64 (k : Int)) ∧ w'.cell? ⟨N, 1, none⟩ = some (.int .i64 (a : Int)) ∧ w'.cell? ⟨N, 2, none⟩ = some (.int .i64 ((E : Int) + 1)) ∧ w'.cell? ⟨N, 3, none⟩ = some (.slice pk l.length ck) ∧ w'.cell? ⟨NM, 3, none⟩ = some (.slice (some ⟨bb, ob, none⟩) 1 cB0) ∧ w'.cell? ⟨bb, ob, none⟩ = some (.int .i64 (k1 : Int)) ∧ w'.cell? ⟨bb, ob + 1, none⟩ = some (.int .i64 (a1' : Int)) ∧ w'.cell? ⟨bb, ob + 2, none⟩ = some (.int .i64 (e1' : Int)) ∧ w'.cell? ⟨bb, ob + 3, none⟩ = some (.slice p1 n1 c1)) (go_keep)
          (first | (go_at_call 16
                    refine (unhide (KM 1)).mono ?_
                    rintro er w9 ⟨rfl, b9⟩
                    have hzN := World.block_lt_of_cell? _ _ z0
                    have hzM := World.block_lt_of_cell? _ _ m3
                    have hzb := World.block_lt_of_cell? _ _ f0
                    have s0 := (b9.cell (p := ⟨N, 0, none⟩) hzN).trans z0
                    have s1 := (b9.cell (p := ⟨N, 1, none⟩) hzN).trans z1
                    have s2 := (b9.cell (p := ⟨N, 2, none⟩) hzN).trans z2
                    have s3 := (b9.cell (p := ⟨N, 3, none⟩) hzN).trans z3
                    have s4 := (b9.cell (p := ⟨NM, 3, none⟩) hzM).trans m3
                    have s5 := (b9.cell (p := ⟨bb, ob, none⟩) hzb).trans f0
                    have s6 := (b9.cell (p := ⟨bb, ob + 1, none⟩) hzb).trans f1
                    have s7 := (b9.cell (p := ⟨bb, ob + 2, none⟩) hzb).trans f2
                    have s8 := (b9.cell (p := ⟨bb, ob + 3, none⟩) hzb).trans f3
                    have B9 := hide ((below_drewN (unhide HIC).bel 1).trans (b9.mono (unhide HIC).bel.size))
                    clear b9 hzN hzM hzb))
        all_goals
          go_wp2
          go_ret
          exact ⟨rfl, unhide B9⟩
end Go.Proofs.Ytoikdjbgeebadaa.trees
