/- The document's Over. -/
import Derived.Test.YteajpkoghlbneaaSplPutsR
import Derived.Test.YteajpkoghlbneaaSplTransW
set_option linter.unusedVariables false
namespace Go.Proofs.Yteajpkoghlbneaa.spls
open Go.RowKit

/-- What stands at a place of both. -/
theorem ovr_at (x y : List M) (n a : Nat) (hx : ov x = n) (hy : ov y = n) (ha : a ≤ n) :
    ∃ pa qa X1 X2, (pRow n x)[a]? = some pa ∧ (pRow n y)[a]? = some qa ∧ (ovr ((dec x).1.drop a) (dec x).2 ((dec y).1.drop a) (dec y).2).1 = putsM pa ++ (keepsM qa.length ++ X1) ∧ (ovr ((dec x).1.drop a) (dec x).2 ((dec y).1.drop a) (dec y).2).2 = keepsM pa.length ++ (putsM qa ++ X2) ∧
      ((a = n ∧ X1 = [] ∧ X2 = []) ∨ (a < n ∧ ∃ s t, (sRow n x)[a]? = some s ∧ (sRow n y)[a]? = some t ∧ X1 = mid s t ++ (ovr ((dec x).1.drop (a + 1)) (dec x).2 ((dec y).1.drop (a + 1)) (dec y).2).1 ∧ X2 = mid t s ++ (ovr ((dec x).1.drop (a + 1)) (dec x).2 ((dec y).1.drop (a + 1)) (dec y).2).2)) := by
  have lx := dec_ov x
  have ly := dec_ov y
  rw [pRow_end hx, pRow_end hy, sRow_end hx, sRow_end hy]
  by_cases h : a < n
  · have h1 : a < (dec x).1.length := by omega
    have h2 : a < (dec y).1.length := by omega
    rw [List.drop_eq_getElem_cons h1, List.drop_eq_getElem_cons h2]
    refine ⟨((dec x).1[a]).1, ((dec y).1[a]).1, _, _, ?_, ?_, rfl, rfl, .inr ⟨h, ((dec x).1[a]).2, ((dec y).1[a]).2, ?_, ?_, rfl, rfl⟩⟩
    · rw [List.getElem?_append_left (by rw [List.length_map]; exact h1), List.getElem?_map, List.getElem?_eq_getElem h1]; rfl
    · rw [List.getElem?_append_left (by rw [List.length_map]; exact h2), List.getElem?_map, List.getElem?_eq_getElem h2]; rfl
    · rw [List.getElem?_map, List.getElem?_eq_getElem h1]; rfl
    · rw [List.getElem?_map, List.getElem?_eq_getElem h2]; rfl
  · have e : a = n := by omega
    rw [List.drop_eq_nil_of_le (show (dec x).1.length ≤ a by omega), List.drop_eq_nil_of_le (show (dec y).1.length ≤ a by omega)]
    refine ⟨(dec x).2, (dec y).2, [], [], ?_, ?_, rfl, rfl, .inl ⟨e, rfl, rfl⟩⟩
    · rw [List.getElem?_append_right (by rw [List.length_map]; omega), List.length_map, show a - (dec x).1.length = 0 from by omega]; rfl
    · rw [List.getElem?_append_right (by rw [List.length_map]; omega), List.length_map, show a - (dec y).1.length = 0 from by omega]; rfl
theorem GG.le {O : List At} {X : List M} {i : Nat} {R : List At} {N : Nat} (h : GG O X i R N) : O.length ≤ R.length ∧ i ≤ N := by
  have h1 := congrArg List.length h.row
  have h2 := h.num
  rw [List.length_append] at h1
  omega
/-- Two rows that grow, apart. -/
structure LR (base : Nat) (w : World) (v u : Value) (O P : List At) : Prop where
  one : OwnA w base v O
  two : OwnA w base u P
  apart : ∀ g, v.ownBlock = some g → u.ownBlock ≠ some g
theorem LR.left {base : Nat} {w w' : World} {v u v' : Value} {O P O' : List At} (h : LR base w v u O P) (hg : GrA base w w' v v') (ho : OwnA w' base v' O') : LR base w' v' u O' P :=
  ⟨ho, own_chg h.two hg.chg (fun g e1 e2 => h.apart g e2 e1), fun g e1 e2 => by
    have hlt := (World.ownsRow.lt h.two g e2).2
    by_cases hv : v.ownBlock = some g
    · exact h.apart g hv e2
    · exact hg.away g hlt hv e1⟩
theorem LR.right {base : Nat} {w w' : World} {v u u' : Value} {O P P' : List At} (h : LR base w v u O P) (hg : GrA base w w' u u') (ho : OwnA w' base u' P') : LR base w' v u' O P' :=
  ⟨own_chg h.one hg.chg (fun g e1 e2 => h.apart g e1 e2), ho, fun g e1 e2 => by
    have hlt := (World.ownsRow.lt h.one g e1).2
    by_cases hv : u.ownBlock = some g
    · exact h.apart g e1 hv
    · exact hg.away g hlt hv e2⟩
theorem own_up {w : World} {base b2 : Nat} {v : Value} {L : List Pt} (h : OwnP w b2 v L) (hb : base ≤ b2) : OwnP w base v L := own_base (by
  refine ⟨h.1, ?_⟩
  rcases h.2 with k | ⟨g, cap, cur, hv', _, hr⟩
  · exact .inl k
  · exact .inr ⟨g, cap, cur, hv', Nat.zero_le _, hr⟩) (fun g hg => Nat.le_trans hb (World.ownsRow.lt h g hg).1)
set_option maxHeartbeats 16000000 in
set_option maxRecDepth 100000 in
theorem over_any (w : World) (p q : Option Addr) (c d : Nat) (A B : List Pt) (hA : LiesQ w p A) (hB : LiesQ w q B) (za : chk A = 0) (zb : chk B = 0) (hm : ov (exL B) = ov (exL A)) :
    Calls Try.prog 6 #[.slice p A.length c, .slice q B.length d] w fun e w' => ∃ v u, e = .returned (.tuple #[v, u]) ∧ OwnP w' w.heap.size v (trL A B) ∧ OwnP w' w.heap.size u (trR A B) ∧ Below w.heap.size w w' := by
  obtain ⟨a1, a2, a3, a4⟩ := chk_ok za
  have K1 := hide (changeFault_any w p c A hA (by omega))
  rw [za, show szO A = ov (exL A) from if_pos za] at K1
  have HA := hide hA
  have HB := hide hB
  have HZ := hide (And.intro za zb)
  obtain ⟨_, ⟨t1, t2⟩, t3, t4⟩ := tr_facts za zb hm
  have hx : ov (nrm (exL A)) = ov (exL A) := ov_nrm _
  have hy : ov (nrm (exL B)) = ov (exL A) := by rw [ov_nrm, hm]
  have hM := hide hm
  have HD1 : Hid (dfin (drun ([], [], 0, 0) (act ptA (tr (nrm (exL A)) (nrm (exL B))).1 (whole 0 (ov (tr (nrm (exL A)) (nrm (exL B))).1)))) (ov (tr (nrm (exL A)) (nrm (exL B))).1) = trL A B) := hide (doc_nf _)
  have HD2 : Hid (dfin (drun ([], [], 0, 0) (act ptA (tr (nrm (exL A)) (nrm (exL B))).2 (whole 0 (ov (tr (nrm (exL A)) (nrm (exL B))).2)))) (ov (tr (nrm (exL A)) (nrm (exL B))).2) = trR A B) := hide (doc_nf _)
  have HR1 : Hid ((act ptA (tr (nrm (exL A)) (nrm (exL B))).1 (whole 0 (ov (tr (nrm (exL A)) (nrm (exL B))).1))).length ≤ 40000 ∧ ∀ a ∈ act ptA (tr (nrm (exL A)) (nrm (exL B))).1 (whole 0 (ov (tr (nrm (exL A)) (nrm (exL B))).1)), -1 ≤ a.1 ∧ a.1 ≤ 1000000) := hide ⟨by rw [act_len ptA _ _ (whole_len _ _)]; exact t2, fun a ha => by
    rcases act_mem _ _ _ ha with h | h
    · have := whole_mem (ov (tr (nrm (exL A)) (nrm (exL B))).1) 0 a h; omega
    · omega⟩
  have HR2 : Hid ((act ptA (tr (nrm (exL A)) (nrm (exL B))).2 (whole 0 (ov (tr (nrm (exL A)) (nrm (exL B))).2))).length ≤ 40000 ∧ ∀ a ∈ act ptA (tr (nrm (exL A)) (nrm (exL B))).2 (whole 0 (ov (tr (nrm (exL A)) (nrm (exL B))).2)), -1 ≤ a.1 ∧ a.1 ≤ 1000000) := hide ⟨by rw [act_len ptA _ _ (whole_len _ _)]; exact t4, fun a ha => by
    rcases act_mem _ _ _ ha with h | h
    · have := whole_mem (ov (tr (nrm (exL A)) (nrm (exL B))).2) 0 a h; omega
    · omega⟩
  have hG : ∀ x y, ov x = ov (exL A) → ov y = ov (exL A) → GG [] (ovr ((dec x).1.drop 0) (dec x).2 ((dec y).1.drop 0) (dec y).2).1 0 (act ptA (tr x y).1 (whole 0 (ov (tr x y).1))) (ov (tr x y).1) ∧ GG [] (ovr ((dec x).1.drop 0) (dec x).2 ((dec y).1.drop 0) (dec y).2).2 0 (act ptA (tr x y).2 (whole 0 (ov (tr x y).2))) (ov (tr x y).2) := fun x y h1 h2 => by
    have e := tr_xp (dec x).1 (dec x).2 (dec y).1 (dec y).2 (by rw [dec_ov, dec_ov, h1, h2])
    rw [xp_dec, xp_dec] at e
    rw [List.drop_zero, List.drop_zero, ← e]
    exact ⟨⟨by rw [List.nil_append], Nat.zero_add _⟩, ⟨by rw [List.nil_append], Nat.zero_add _⟩⟩
  have HG := hide (hG _ _ hx hy)
  have HXY := hide (And.intro hx hy)
  have hn2 : ov (exL A) ≤ 20000 := by omega
  clear hA hB za zb hm hG hx hy
  generalize hXa : nrm (exL A) = X at *
  generalize hYb : nrm (exL B) = Y at *
  generalize act ptA (tr X Y).1 (whole 0 (ov (tr X Y).1)) = R1 at *
  generalize act ptA (tr X Y).2 (whole 0 (ov (tr X Y).2)) = R2 at *
  generalize ov (tr X Y).1 = N1 at *
  generalize ov (tr X Y).2 = N2 at *
  have HX := hide hXa
  have HY := hide hYb
  clear hXa hYb t2 t4
  generalize hoa : ov (exL A) = n at *
  have HOA := hide hoa
  clear hoa
  generalize szM A = zz at *
  go_enter Try.func6, Try.ntmps6
  go_wp2_with fail
  refine (unhide K1).mono ?_
  rintro _ w1 ⟨rfl, b1'⟩
  have K2 := puts_any w1 p c A (HA.out.keep b1') HZ.out.1 n HOA.out
  rw [HX.out] at K2
  have K2H := hide K2
  have B1 := hide b1'
  clear K1 b1' K2
  go_wp2_with fail
  refine (unhide K2H).mono ?_
  rintro _ w2 ⟨g1, h1, rfl, x1, x2, x3, x4, b2'⟩
  have B2 := hide (B1.out.trans (b2'.mono B1.out.size))
  have K3 := puts_any w2 q d B (HB.out.keep B2.out) HZ.out.2 n hM.out
  rw [HY.out] at K3
  have K3H := hide K3
  have HS1 := hide (And.intro x1 x2)
  clear K2H b2' B1 K3 x1 x2 x3 x4
  go_wp2_with fail
  refine (unhide K3H).mono ?_
  rintro _ w4 ⟨g2, h2, rfl, y1, y2, y3, y4, b4'⟩
  have B4 := hide (B2.out.trans (b4'.mono B2.out.size))
  have HCE : Hid (∀ wr, Below w4.heap.size w4 wr → (∀ j s, (pRow n X)[j]? = some s → wr.cell? ⟨g1, j, none⟩ = some (.string ⟨s.toArray⟩)) ∧ (∀ j s, (pRow n Y)[j]? = some s → wr.cell? ⟨g2, j, none⟩ = some (.string ⟨s.toArray⟩)) ∧ (∀ j s, (sRow n X)[j]? = some s → wr.cell? ⟨h1, j, none⟩ = some (.bool s)) ∧ (∀ j s, (sRow n Y)[j]? = some s → wr.cell? ⟨h2, j, none⟩ = some (.bool s))) := hide fun wr hb => by
    obtain ⟨x1, x2⟩ := HS1.out
    have e1 : PB w4 g1 (pRow n X) := Blk.below x1 b4' (Blk.lt x1)
    have e2 : SB w4 h1 (sRow n X) := Blk.below x2 b4' (Blk.lt x2)
    have f1 : PB wr g1 (pRow n X) := Blk.below e1 hb (Blk.lt e1)
    have f2 : SB wr h1 (sRow n X) := Blk.below e2 hb (Blk.lt e2)
    have f3 : PB wr g2 (pRow n Y) := Blk.below y1 hb (Blk.lt y1)
    have f4 : SB wr h2 (sRow n Y) := Blk.below y2 hb (Blk.lt y2)
    exact ⟨fun j s h => f1.at h, fun j s h => f3.at h, fun j s h => f2.at h, fun j s h => f4.at h⟩
  clear K3H b4' B2 HS1 y1 y2 y3 y4 HA HB HZ hM HX HY
  go_wp2_with fail
  go_loopw [13, 14, 15, 16, 19] (fun v u i k a wr => ∃ (av iv kv : Nat) (O1 O2 : List At), a = .int .i64 av ∧ av ≤ n ∧ i = .int .i64 iv ∧ iv ≤ 40000 ∧ k = .int .i64 kv ∧ kv ≤ 40000 ∧ (∃ q m k, v = .slice q m k) ∧ (∃ q m k, u = .slice q m k) ∧ Hid (LR w4.heap.size wr v u O1 O2) ∧ Hid (GG O1 (ovr ((dec X).1.drop av) (dec X).2 ((dec Y).1.drop av) (dec Y).2).1 iv R1 N1 ∧ GG O2 (ovr ((dec X).1.drop av) (dec X).2 ((dec Y).1.drop av) (dec Y).2).2 kv R2 N2) ∧ Hid (Below w4.heap.size w4 wr)) (fun _ _ _ _ a _ => n - (intOf a).toNat)
  case atStart => exact ⟨0, 0, 0, [], [], rfl, Nat.zero_le _, rfl, Nat.zero_le _, rfl, Nat.zero_le _, ⟨_, _, _, rfl⟩, ⟨_, _, _, rfl⟩, hide ⟨World.ownsRow_nil _ _ _ _, World.ownsRow_nil _ _ _ _, fun g h => by cases h⟩, HG, hide (Below.refl _ _)⟩
  case round =>
    obtain ⟨av, iv, kv, O1, O2, rfl, hav, rfl, hiv, rfl, hkv, ⟨v1, v2, v3, rfl⟩, ⟨u1, u2, u3, rfl⟩, HL, HQ, HBW⟩ := hrel
    obtain ⟨pa, qa, Z1, Z2, e1, e2, e3, e4, e5⟩ := ovr_at X Y n av HXY.out.1 HXY.out.2 hav
    obtain ⟨gg1, gg2⟩ := HQ.out
    rw [e3] at gg1
    rw [e4] at gg2
    have gp1 := gg1.puts
    have gk1 := gp1.keeps
    have gk2 := gg2.keeps
    have gp2 := gk2.puts
    have l1 := gp1.le
    have l2 := gk1.le
    have l3 := gk2.le
    have l4 := gp2.le
    have hr1 := HR1.out.1
    have hr2 := HR2.out.1
    simp only [List.length_append, List.length_map, whole_len] at l1 l2 l3 l4
    have hs1 : (⟨pa.toArray⟩ : ByteArray).size = pa.length := size_mk pa
    have hs2 : (⟨qa.toArray⟩ : ByteArray).size = qa.length := size_mk qa
    have ht1 : Hid ((⟨pa.toArray⟩ : ByteArray).data.toList = pa) := hide (by show pa.toArray.toList = pa; simp)
    have ht2 : Hid ((⟨qa.toArray⟩ : ByteArray).data.toList = qa) := hide (by show qa.toArray.toList = qa; simp)
    have HC1 : Hid (∀ u, Below w4.heap.size w4 u → u.cell? ⟨g1, av, none⟩ = some (.string ⟨pa.toArray⟩) ∧ u.cell? ⟨g2, av, none⟩ = some (.string ⟨qa.toArray⟩)) := hide fun u hu => ⟨(HCE.out u hu).1 av pa e1, (HCE.out u hu).2.1 av qa e2⟩
    clear e1 e2 e3 e4 HQ
    generalize (⟨pa.toArray⟩ : ByteArray) = SP at *
    generalize (⟨qa.toArray⟩ : ByteArray) = SQ at *
    rw [← hs2] at gk1 l2 l4
    rw [← hs1] at gk2 gp2 l1 l2 l3 l4
    have HE5 := hide e5
    have HG2 := hide (And.intro gk1 gp2)
    have i1 : (av : Int) ≤ (n : Int) := by omega
    have i2 : (av : Int) < (n : Int) + 1 := by omega
    have i3 : (0 : Int) ≤ (av : Int) := by omega
    have i4 : av < n + 1 := by omega
    have KT := text_r wr w4.heap.size HBW.out.size _ O1 SP HL.out.one (by omega)
    rw [ht1.out] at KT
    have KTH := hide KT
    have M1 : Hid (O1.length + SP.size ≤ 40000 ∧ O1.length + SP.size + SQ.size ≤ 40000 ∧ O2.length + SP.size ≤ 40000 ∧ O2.length + SP.size + SQ.size ≤ 40000 ∧ pa.length = SP.size ∧ qa.length = SQ.size) := hide (by omega)
    have j1 : iv + SQ.size ≤ 40000 := by omega
    have j2 : kv + SP.size ≤ 40000 := by omega
    obtain ⟨cp, cq⟩ := HC1.out wr HBW.out
    clear e5 gg1 gg2 gp1 gk1 gk2 gp2 l1 l2 l3 l4 KT hr1 hr2 hs1 hs2
    go_wp2_with fail
    refine (unhide KTH).mono ?_
    rintro _ wa ⟨qa1, qa2, qa3, rfl, ho, hg⟩
    have HLa := hide (HL.out.left hg ho)
    have HBa := hide (HBW.out.trans hg.bel)
    have KK := hide (keep_r wa w4.heap.size HBa.out.size _ _ iv SQ.size HLa.out.one (by rw [List.length_append, List.length_map]; have := M1.out; omega) (by omega))
    obtain ⟨cpa, cqa⟩ := HC1.out wa HBa.out
    clear KTH ho hg cp cq HL HBW
    go_wp2_with fail
    refine (unhide KK).mono ?_
    rintro _ wb ⟨qb1, qb2, qb3, rfl, ho, hg⟩
    have HLb := hide (HLa.out.left hg ho)
    have HBb := hide (HBa.out.trans hg.bel)
    have KL := hide (keep_r wb w4.heap.size HBb.out.size _ _ kv SP.size HLb.out.two (by have := M1.out; omega) (by omega))
    obtain ⟨cpb, cqb⟩ := HC1.out wb HBb.out
    clear KK ho hg cpa cqa HLa HBa
    go_wp2_with fail
    refine (unhide KL).mono ?_
    rintro _ wc ⟨qc1, qc2, qc3, rfl, ho, hg⟩
    have HLc := hide (HLb.out.right hg ho)
    have HBc := hide (HBb.out.trans hg.bel)
    have KM0 := text_r wc w4.heap.size HBc.out.size _ _ SQ HLc.out.two (by rw [List.length_append, whole_len]; have := M1.out; omega)
    rw [ht2.out] at KM0
    have KM := hide KM0
    obtain ⟨cpc, cqc⟩ := HC1.out wc HBc.out
    clear KL ho hg cpb cqb HLb HBb KM0
    go_wp2_with fail
    refine (unhide KM).mono ?_
    rintro _ wd ⟨qd1, qd2, qd3, rfl, ho, hg⟩
    have HLd := hide (HLc.out.right hg ho)
    have HBd := hide (HBc.out.trans hg.bel)
    obtain ⟨cpd, cqd⟩ := HC1.out wd HBd.out
    clear KM ho hg cpc cqc HLc HBc ht1 ht2
    rcases HE5.out with ⟨e, z1, z2⟩ | ⟨e, s, t, z1, z2, z3, z4⟩
    · subst z1 z2
      obtain ⟨r1, r2⟩ := HG2.out.1.done
      obtain ⟨r3, r4⟩ := HG2.out.2.done
      have HLe : Hid (LR w4.heap.size wd (.slice qb1 qb2 qb3) (.slice qd1 qd2 qd3) R1 R2) := hide (by have := HLd.out; rw [r1, r3] at this; exact this)
      subst e
      have HR4 := hide (And.intro r2 r4)
      have HHC := hide (And.intro HR1.out (And.intro HR2.out (And.intro HD1.out HD2.out)))
      clear HE5 HG2 HLd r1 r2 r3 r4 HCE HC1 M1 HR1 HR2 HD1 HD2
      obtain ⟨pv, cv, hev, hcv, hmv, LV, hnv⟩ := HLe.out.one.lies
      obtain ⟨pu, cu, heu, hcu, hmu, LU, hnu⟩ := HLe.out.two.lies
      injection hev with ev1 ev2 ev3
      injection heu with eu1 eu2 eu3
      subst ev1 ev2 ev3 eu1 eu2 eu3
      obtain ⟨⟨hl1, hm1⟩, ⟨hl2, hm2⟩, hd1, hd2⟩ := HHC.out
      have KA := normalOf_any wd qb1 qb3 R1 (iv + SQ.size) LV hm1 (by omega) (by omega)
      rw [HR4.out.1, hd1, ← HR4.out.1, Int.natCast_add] at KA
      have KAH := hide KA
      have KB : Hid (∀ wz, Below wd.heap.size wd wz → Calls Try.prog 16 #[.slice qd1 R2.length qd3, .int .i64 ((kv : Int) + (SP.size : Int))] wz fun e w' => ∃ v, e = .returned v ∧ OwnP w' wz.heap.size v (trR A B) ∧ Below wz.heap.size wz w') := hide fun wz hz => by
        have := normalOf_any wz qd1 qd3 R2 (kv + SP.size) (LU.keep hz) hm2 (by omega) (by omega)
        rwa [HR4.out.2, hd2, ← HR4.out.2, Int.natCast_add] at this
      have HW := hide (B4.out.trans (HBd.out.mono B4.out.size))
      clear KA HHC HLe LV LU hm1 hm2 hd1 hd2 hnv hnu hcv hcu hmv hmu HG HBd
      go_wp2_with fail
      refine (unhide KAH).mono ?_
      rintro _ we ⟨ve, rfl, hve, be⟩
      have KC := hide (KB.out we be)
      obtain ⟨qe1, ne1, ke1, rfl⟩ : ∃ q N c, ve = .slice q N c := by obtain ⟨q, c, e, _⟩ := own_form hve; exact ⟨_, _, _, e⟩
      have HVE := hide hve
      have BE := hide be
      clear KAH hve be KB
      go_wp2_with fail
      refine (unhide KC).mono ?_
      rintro _ wf ⟨vf, rfl, hvf, bf⟩
      obtain ⟨qf1, nf1, kf1, rfl⟩ : ∃ q N c, vf = .slice q N c := by obtain ⟨q, c, e, _⟩ := own_form hvf; exact ⟨_, _, _, e⟩
      have HFIN : Hid (OwnP wf w.heap.size (.slice qe1 ne1 ke1) (trL A B) ∧ OwnP wf w.heap.size (.slice qf1 nf1 kf1) (trR A B) ∧ Below w.heap.size w wf) := hide (by
        have z0 := HW.out
        have z1 := BE.out
        refine ⟨own_up (own_chg HVE.out (Chg.of_below bf (fun _ => False)) (fun _ _ h => h)) z0.size, own_up hvf (Nat.le_trans z0.size z1.size), (z0.trans (z1.mono z0.size)).trans (bf.mono (Nat.le_trans z0.size z1.size))⟩)
      clear KC hvf bf BE HVE HW
      go_wp2
      refine bodyPost_ret (v := .tuple #[.slice qe1 ne1 ke1, .slice qf1 nf1 kf1]) (by simp [results, Try.results6, go_sem]) rfl ?_
      exact ⟨_, _, rfl, HFIN.out⟩
    · have hsc : Hid (∀ u, Below w4.heap.size w4 u → u.cell? ⟨h1, av, none⟩ = some (.bool s) ∧ u.cell? ⟨h2, av, none⟩ = some (.bool t)) := hide fun u hu => ⟨(HCE.out u hu).2.2.1 av s z1, (HCE.out u hu).2.2.2 av t z2⟩
      have i5 : (av : Int) < (n : Int) := by omega
      have i6 : ¬ (av : Int) = (n : Int) := by omega
      obtain ⟨dp, dq⟩ := hsc.out wd HBd.out
      have HM2 := hide (And.intro (HG2.out.1.le) (HG2.out.2.le))
      rw [z3, z4] at HG2
      clear z1 z2 z3 z4 HE5 HCE
      cases s <;> cases t
      · have HQ2 := HG2
        have HLF := HLd
        clear HG2 hsc HC1
        go_wp2
        go_roundw
        case rel => exact ⟨av + 1, iv + SQ.size, kv + SP.size, _, _, by go_num, e, by go_num, j1, by go_num, j2, ⟨_, _, _, rfl⟩, ⟨_, _, _, rfl⟩, HLF, HQ2, HBd⟩
        case measure => simp only [intOf]; omega
      · have HQ2 := hide (And.intro HG2.out.1.cut HG2.out.2)
        have HLF := HLd
        have j3 : iv + SQ.size + 1 ≤ 40000 := by have := HQ2.out.1.le; omega
        clear HG2 hsc HC1
        go_wp2
        go_roundw
        case rel => exact ⟨av + 1, iv + SQ.size + 1, kv + SP.size, _, _, by go_num, e, by go_num, j3, by go_num, j2, ⟨_, _, _, rfl⟩, ⟨_, _, _, rfl⟩, HLF, HQ2, HBd⟩
        case measure => simp only [intOf]; omega
      · have HQ2 := hide (And.intro HG2.out.1 HG2.out.2.cut)
        have HLF := HLd
        have j3 : kv + SP.size + 1 ≤ 40000 := by have := HQ2.out.2.le; omega
        clear HG2 hsc HC1
        go_wp2
        go_roundw
        case rel => exact ⟨av + 1, iv + SQ.size, kv + SP.size + 1, _, _, by go_num, e, by go_num, j1, by go_num, j3, ⟨_, _, _, rfl⟩, ⟨_, _, _, rfl⟩, HLF, HQ2, HBd⟩
        case measure => simp only [intOf]; omega
      · have g1k := GG.keeps (q := 1) HG2.out.1
        have g2k := GG.keeps (q := 1) HG2.out.2
        have l1 := g1k.le
        have l2 := g2k.le
        have M2 := HM2.out
        have r1 := HR1.out.1
        have r2 := HR2.out.1
        have HQ2 := hide (And.intro g1k g2k)
        rw [List.length_append, whole_len] at l1 l2
        have KI := keep_r wd w4.heap.size HBd.out.size _ _ (iv + SQ.size) 1 HLd.out.one (by omega) (by omega)
        rw [Int.natCast_add] at KI
        have KIH := hide KI
        have j3 : iv + SQ.size + 1 ≤ 40000 := by omega
        have j4 : kv + SP.size + 1 ≤ 40000 := by omega
        have HM3 := hide l2
        clear HG2 HC1 g1k g2k l1 l2 M2 HM2 KI r1
        go_wp2_with fail
        refine (unhide KIH).mono ?_
        rintro _ we ⟨qe1, qe2, qe3, rfl, ho, hg⟩
        have HLe := hide (HLd.out.left hg ho)
        have HBe := hide (HBd.out.trans hg.bel)
        have KJ := keep_r we w4.heap.size HBe.out.size _ _ (kv + SP.size) 1 HLe.out.two (by have := HM3.out; omega) (by omega)
        rw [Int.natCast_add] at KJ
        have KJH := hide KJ
        clear KIH ho hg HLd HBd dp dq KJ
        go_wp2_with fail
        refine (unhide KJH).mono ?_
        rintro _ wf ⟨qf1, qf2, qf3, rfl, ho, hg⟩
        have HLf := hide (HLe.out.right hg ho)
        have HBf := hide (HBe.out.trans hg.bel)
        obtain ⟨dp, dq⟩ := hsc.out wf HBf.out
        clear KJH ho hg HLe HBe hsc
        go_wp2
        go_roundw
        case rel => exact ⟨av + 1, iv + SQ.size + 1, kv + SP.size + 1, _, _, by go_num, e, by go_num, j3, by go_num, j4, ⟨_, _, _, rfl⟩, ⟨_, _, _, rfl⟩, HLf, HQ2, HBf⟩
        case measure => simp only [intOf]; omega
end Go.Proofs.Yteajpkoghlbneaa.spls
