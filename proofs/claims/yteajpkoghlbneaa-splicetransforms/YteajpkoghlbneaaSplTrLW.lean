/- The walks of package splice: transform's loop. -/
import Derived.Test.YteajpkoghlbneaaSplTrBW
set_option linter.unusedVariables false
namespace Go.Proofs.Yteajpkoghlbneaa.spls
open Go.RowKit

/-- Both writers end. -/
theorem changes_any {w : World} {n1 RA RB R D : Nat} {XA XB XO : Nat → Prop} {Kp : List (Nat × Array Value)} {A B : List Pt} {S T : WS} {wr : World} (G : Geo w n1 XA XB XO) (h : Bo2 w n1 RA RB R D XA XB XO Kp A B S T wr) (hF : Fits S 40000) (hF2 : Fits T 40000) :
    Calls Try.prog 25 #[.pointer (some ⟨R, 0, none⟩)] wr fun e w' => ∃ v, e = .returned v ∧ (∃ q n c, v = .slice q n c) ∧ Calls Try.prog 25 #[.pointer (some ⟨D, 0, none⟩)] w' fun e w2 => ∃ u, e = .returned u ∧ OwnP w2 w.heap.size v (stl S) ∧ OwnP w2 w.heap.size u (stl T) ∧ Chg XO w w2 := by
  refine (h.change G (std_wr D T) hF).mono ?_
  rintro e w' ⟨v, rfl, hv, hc, hlt, XZ, hZ, hX⟩
  refine ⟨v, rfl, by obtain ⟨q, c, e, _⟩ := own_form hv; exact ⟨_, _, _, e⟩, ?_⟩
  refine (wchange_any XZ D T w' hZ (by have := hF2.len; omega) (by have := hF2.put; omega) (by have := hF2.cut; omega)).mono ?_
  rintro e w2 ⟨u, rfl, hu, hg, hc2⟩
  refine ⟨u, rfl, own_chg hv hc2 (fun g hg' e => (hX g e).2.2 hg'), own_base hu (fun g hg' => ?_), hc.trans (hc2.mono (fun b hb e => .inr ⟨(hX b e).1, hb⟩))⟩
  rcases hg g hg' with h | h
  · exact (hX g h).1
  · have := hc.size; omega
set_option maxHeartbeats 16000000 in
set_option maxRecDepth 100000 in
theorem transform_any (w : World) (v1 v2 : Value) (A0 B0 : List Pt) (b1 b2 : Nat) (zl zr : List M) (h1 : OwnP w b1 v1 A0) (h2 : OwnP w b2 v2 B0) (hne : ∀ g, v1.ownBlock = some g → v2.ownBlock ≠ some g) (hI : TI zl zr A0 B0 [] []) (hz : (ov zl ≤ 40000 ∧ mk zl ≤ 40000) ∧ ov zr ≤ 40000 ∧ mk zr ≤ 40000) :
    Calls Try.prog 11 #[v1, v2] w fun e w' => ∃ v u, e = .returned (.tuple #[v, u]) ∧ OwnP w' w.heap.size v (nf zl) ∧ OwnP w' w.heap.size u (nf zr) ∧ Chg (XOs v1 v2) w w' := by
  have G := geo_start w v1 v2 A0 B0 b1 b2 1 h1 h2 hne
  have HB0 : Hid (∀ wl, wl = (((w.alloc (.cells #[v1] 50)).alloc (.cells #[v2] 50)).alloc (.cells #[.slice none 0 0, .slice none 0 0, .int .i64 0] 53)).alloc (.cells #[.slice none 0 0, .slice none 0 0, .int .i64 0] 53) → Bo2 w (w.heap.size + 3 + 1) w.heap.size (w.heap.size + 1) (w.heap.size + 2) (w.heap.size + 3) (XAs w v1) (XBs w v2) (XOs v1 v2) [] A0 B0 w0 w0 wl) := hide fun wl hw => bo_start2 w v1 v2 A0 B0 b1 b2 h1 h2 wl hw
  obtain ⟨p1, n1, c1, rfl⟩ : ∃ q N c, v1 = .slice q N c := by obtain ⟨q, c, e, _⟩ := own_form h1; exact ⟨_, _, _, e⟩
  obtain ⟨p2, n2, c2, rfl⟩ : ∃ q N c, v2 = .slice q N c := by obtain ⟨q, c, e, _⟩ := own_form h2; exact ⟨_, _, _, e⟩
  generalize hXA : XAs w (.slice p1 n1 c1) = XA at *
  generalize hXB : XBs w (.slice p2 n2 c2) = XB at *
  generalize hXO : XOs (.slice p1 n1 c1) (.slice p2 n2 c2) = XO at *
  have HI := hide hI
  have HG := hide G
  have HZ := hide hz
  clear h1 h2 hne hI G hz hXA hXB hXO
  go_enter Try.func11, Try.ntmps11
  go_wp2_with fail
  generalize hwl : (((w.alloc (.cells #[.slice p1 n1 c1] 50)).alloc (.cells #[.slice p2 n2 c2] 50)).alloc (.cells #[.slice none 0 0, .slice none 0 0, .int .i64 0] 53)).alloc (.cells #[.slice none 0 0, .slice none 0 0, .int .i64 0] 53) = wl at *
  have HBO := hide (HB0.out wl rfl)
  clear HB0
  generalize hRA : w.heap.size = RA at *
  go_loopw [12] (fun u wr => ∃ (A B : List Pt) (y x : List M), Hid (TI zl zr A B y x) ∧ Hid (Bo2 w (RA + 3 + 1) RA (RA + 1) (RA + 2) (RA + 3) XA XB XO [] A B (wrun w0 y) (wrun w0 x) wr)) (fun _ wr => remR wr RA + remR wr (RA + 1))
  case atStart => exact ⟨A0, B0, [], [], HI, HBO⟩
  case round =>
    obtain ⟨A, B, y, x, HC, HBo⟩ := hrel
    have hl1 : A.length ≤ 1000000 := len_le HC.out.a HC.out.oa HC.out.ma
    have hl2 : B.length ≤ 1000000 := len_le HC.out.b (by have := HC.out.m; have := HC.out.oa; omega) HC.out.mb
    obtain ⟨qA, cA, x0⟩ := HBo.out.rdA.cell
    obtain ⟨qB, cB, x1⟩ := HBo.out.rdB.cell
    have KD := hide (done_any wr qA qB A.length B.length cA cB hl1 hl2)
    have HREM := hide HBo.out.rem
    by_cases hdn : A = [] ∧ B = []
    · obtain ⟨rfl, rfl⟩ := hdn
      have HF := hide (ti_fits HC.out HZ.out.1.1 HZ.out.1.2 HZ.out.2.1 HZ.out.2.2)
      have HY : Hid (stl (wrun w0 y) = nf zl ∧ stl (wrun w0 x) = nf zr) := hide (by
        rw [← HC.out.l, ← HC.out.r]
        show _ = nf (y ++ []) ∧ _ = nf (x ++ [])
        rw [List.append_nil, List.append_nil]
        exact ⟨rfl, rfl⟩)
      clear HC
      go_wp2_with fail
      refine (unhide KD).mono ?_
      rintro e w1 ⟨rfl, b1⟩
      have KC1 := hide (changes_any HG.out (HBo.out.below HG.out (std_wr _ _) b1) HF.out.1 HF.out.2)
      clear KD b1 x0 x1 HBo
      go_wp2_with fail
      refine (unhide KC1).mono ?_
      rintro e w2 ⟨v, rfl, ⟨a1, a2, a3, rfl⟩, hk⟩
      have KC2 := hide hk
      clear hk KC1
      go_wp2_with fail
      refine (unhide KC2).mono ?_
      rintro e w3 ⟨u, rfl, hv, hu, hc⟩
      rw [HY.out.1] at hv
      rw [HY.out.2] at hu
      obtain ⟨a4, a5, a6, rfl⟩ : ∃ q N c, u = .slice q N c := by obtain ⟨q, c, e, _⟩ := own_form hu; exact ⟨_, _, _, e⟩
      have HV := hide (And.intro hv (And.intro hu hc))
      clear hv hu hc KC2
      go_wp2
      go_ret2
      exact ⟨_, _, rfl, HV.out⟩
    · have hdd : decide (A.length + B.length = 0) = false := decide_eq_false (fun e => hdn ⟨List.eq_nil_of_length_eq_zero (by omega), List.eq_nil_of_length_eq_zero (by omega)⟩)
      rw [hdd] at KD
      have HDN := hide hdn
      clear hdn hdd
      go_wp2_with fail
      refine (unhide KD).mono ?_
      rintro e wa1 ⟨rfl, b1⟩
      have B1 := hide (HBo.out.below HG.out (std_wr _ _) b1)
      have KN1 := hide (next_any XA RA A wa1 B1.out.rdA hl1)
      clear KD b1 x0 x1 HBo
      go_wp2_with fail
      refine (unhide KN1).mono ?_
      rintro e wa2 ⟨rfl, b2⟩
      have B2 := hide (B1.out.below HG.out (std_wr _ _) b2)
      have KN2 := hide (next_any XB (RA + 1) B wa2 B2.out.rdB hl2)
      clear KN1 b2 B1
      go_wp2_with fail
      refine (unhide KN2).mono ?_
      rintro e wa3 ⟨rfl, b3⟩
      have B3 := hide (B2.out.below HG.out (std_wr _ _) b3)
      have B4 := hide ((B3.out.box HG.out (std_wr _ _) #[.int .i64 (hd A).1, .int .i64 (hd A).2.1, .string ⟨(hd A).2.2.toArray⟩]).box HG.out (std_wr _ _) #[.int .i64 (hd B).1, .int .i64 (hd B).2.1, .string ⟨(hd B).2.2.toArray⟩])
      have hsP : (wa3.alloc (.cells #[.int .i64 (hd A).1, .int .i64 (hd A).2.1, .string ⟨(hd A).2.2.toArray⟩] 46)).heap.size = wa3.heap.size + 1 := by simp
      rw [hsP] at B4
      clear KN2 b3 B2 B3 hsP
      have hFF := ti_fits HC.out HZ.out.1.1 HZ.out.1.2 HZ.out.2.1 HZ.out.2.2
      by_cases hp : (hd A).1 = 3
      · obtain ⟨s, A', rfl⟩ := head_put HC.out.a hp
        have hss : s.length ≤ 20000 := by have := HC.out.ma; rw [exL_cons, ex_put, mk_app, mk_puts] at this; omega
        rw [hd_cons] at B4 ⊢
        dsimp only at B4 ⊢
        generalize (hd B).1 = pk at *
        generalize (hd B).2.1 = pn at *
        generalize (⟨(hd B).2.2.toArray⟩ : ByteArray) = PS at *
        have hszS := size_mk s
        have KW := hide (B4.out.write HG.out (std_wr _ _) (F := 20) (args := #[.pointer (some ⟨RA + 2, 0, none⟩), .string ⟨s.toArray⟩]) (S' := wP s (wrun w0 y)) (fun X hX => wput_any X (RA + 2) (wrun w0 y) _ ⟨s.toArray⟩ hX (by have := hFF.1.put; omega)))
        have HC2 := hide (ti_a HC.out)
        have HY : Hid (wP s (wrun w0 y) = wrun w0 (y ++ putsM s) ∧ wK s.length (wrun w0 x) = wrun w0 (x ++ keepsM s.length)) := hide ⟨by rw [wrun_app, wrun_puts], by rw [wrun_app, wrun_keeps]⟩
        have okq := ok_one HC.out.a
        have HOK := hide okq
        generalize (⟨s.toArray⟩ : ByteArray) = SS at *
        have hSS : SS.size ≤ 20000 := by omega
        have HTK : Hid (tk SS.size (3, 0, s) A' = A') := hide (by unfold tk; rw [if_pos (by rw [szP_text]; exact hszS)])
        have HPOS : Hid (0 < SS.size) := hide (by have := szP_pos okq; rw [szP_text] at this; omega)
        have HLB : Hid (A'.length ≤ 1000000) := hide (by rw [List.length_cons] at hl1; omega)
        have HFF := hide hFF
        rw [← hszS] at HY HC2
        have HSZ := hide hszS
        clear okq hFF HC hp hl1 hl2 B4 hszS hss
        go_wp2_with fail
        refine (unhide KW).mono ?_
        rintro e wa5 ⟨rfl, B5'⟩
        have B5 := hide B5'
        have kq := B5'.kept (List.mem_cons_of_mem _ List.mem_cons_self)
        have d0 := kq.cell 0 _ rfl
        have d1 := kq.cell 1 _ rfl
        have d2 := kq.cell 2 _ rfl
        clear kq B5' KW
        have KS := hide (size_any wa5 3 0 SS hSS ⟨by decide, by decide⟩)
        rw [Int.add_zero] at KS
        go_wp2_with fail
        refine (unhide KS).mono ?_
        rintro e wa6 ⟨rfl, hw6⟩
        have B6 := hide (B5.out.below HG.out (std_wr _ _) (w' := wa6) (by rw [hw6]; exact (Below.refl _ wa5).alloc (Nat.le_refl _) _))
        have KK := hide (Bo2.write2 HG.out B6.out (F := 21) (args := #[.pointer (some ⟨RA + 3, 0, none⟩), .int .i64 (SS.size : Int)]) (T' := wK SS.size (wrun w0 x)) (fun X hX => wkeep_any X (RA + 3) (wrun w0 x) _ SS.size hX HFF.out.2.ok (by omega) (by have := HFF.out.2.len; omega) (by have := HFF.out.2.put; omega) (by have := HFF.out.2.cut; omega) (fun z hz => by have := HFF.out.2.big z hz; omega)))
        clear KS hw6 d0 d1 d2 B5
        go_wp2_with fail
        refine (unhide KK).mono ?_
        rintro e wa7 ⟨rfl, B7'⟩
        have B7 := hide B7'
        have kq := B7'.kept (List.mem_cons_of_mem _ List.mem_cons_self)
        have d0 := kq.cell 0 _ rfl
        have d1 := kq.cell 1 _ rfl
        have d2 := kq.cell 2 _ rfl
        clear kq B7' KK B6
        have KS := hide (size_any wa7 3 0 SS hSS ⟨by decide, by decide⟩)
        rw [Int.add_zero] at KS
        go_wp2_with fail
        refine (unhide KS).mono ?_
        rintro e wa8 ⟨rfl, hw8⟩
        have B8 := hide (B7.out.below HG.out (std_wr _ _) (w' := wa8) (by rw [hw8]; exact (Below.refl _ wa7).alloc (Nat.le_refl _) _))
        have KT := hide (B8.out.takeA HG.out (std_wr _ _) (n := SS.size) HOK.out (by rw [szP_text]; exact Nat.le_of_eq HSZ.out) (by rw [szP_text, ← HSZ.out]; exact hSS) HLB.out)
        clear KS hw8 d0 d1 d2 B7
        go_wp2_with fail
        refine (unhide KT).mono ?_
        rintro e wa9 ⟨rfl, B9'⟩
        rw [HTK.out] at B9'
        have B9 := hide (B9'.fewer (Kq := []) (fun k hk => absurd hk List.not_mem_nil))
        rw [HY.out.1, HY.out.2] at B9
        have HR9 := hide B9'.rem
        clear KT B9' B8
        go_wp2
        go_roundw
        case rel => exact ⟨A', B, _, _, HC2, B9⟩
        case measure =>
          rw [HREM.out, HR9.out]
          have e1 : tot ((3, 0, s) :: A') = szP (3, 0, s) + tot A' := rfl
          have := HPOS.out
          have := HSZ.out
          rw [e1, szP_text]
          omega
      · have hnp := noPut_hd HC.out.a hp
        have j3 : ((hd A).1 == 3) = false := beq_false_of_ne hp
        by_cases hq : (hd B).1 = 3
        · obtain ⟨s, B', rfl⟩ := head_put HC.out.b hq
          have hss : s.length ≤ 20000 := by have := HC.out.mb; rw [exL_cons, ex_put, mk_app, mk_puts] at this; omega
          rw [hd_cons] at B4 ⊢
          dsimp only at B4 ⊢
          generalize (hd A).1 = pk at *
          generalize (hd A).2.1 = pn at *
          generalize (⟨(hd A).2.2.toArray⟩ : ByteArray) = PS at *
          have hszS := size_mk s
          have KW := hide (Bo2.write2 HG.out B4.out (F := 20) (args := #[.pointer (some ⟨RA + 3, 0, none⟩), .string ⟨s.toArray⟩]) (T' := wP s (wrun w0 x)) (fun X hX => wput_any X (RA + 3) (wrun w0 x) _ ⟨s.toArray⟩ hX (by have := hFF.2.put; omega)))
          have HC2 := hide (ti_b HC.out hnp)
          have HY : Hid (wP s (wrun w0 x) = wrun w0 (x ++ putsM s) ∧ wK s.length (wrun w0 y) = wrun w0 (y ++ keepsM s.length)) := hide ⟨by rw [wrun_app, wrun_puts], by rw [wrun_app, wrun_keeps]⟩
          have okq := ok_one HC.out.b
          have HOK := hide okq
          generalize (⟨s.toArray⟩ : ByteArray) = SS at *
          have hSS : SS.size ≤ 20000 := by omega
          have HTK : Hid (tk SS.size (3, 0, s) B' = B') := hide (by unfold tk; rw [if_pos (by rw [szP_text]; exact hszS)])
          have HPOS : Hid (0 < SS.size) := hide (by have := szP_pos okq; rw [szP_text] at this; omega)
          have HLB : Hid (B'.length ≤ 1000000) := hide (by rw [List.length_cons] at hl2; omega)
          have HFF := hide hFF
          rw [← hszS] at HY HC2
          have HSZ := hide hszS
          clear okq hFF HC hq hl1 hl2 B4 hszS hss hnp
          go_wp2_with fail
          refine (unhide KW).mono ?_
          rintro e wa5 ⟨rfl, B5'⟩
          have B5 := hide B5'
          have kq := B5'.kept List.mem_cons_self
          have d0 := kq.cell 0 _ rfl
          have d1 := kq.cell 1 _ rfl
          have d2 := kq.cell 2 _ rfl
          clear kq B5' KW
          have KS := hide (size_any wa5 3 0 SS hSS ⟨by decide, by decide⟩)
          rw [Int.add_zero] at KS
          go_wp2_with fail
          refine (unhide KS).mono ?_
          rintro e wa6 ⟨rfl, hw6⟩
          have B6 := hide (B5.out.below HG.out (std_wr _ _) (w' := wa6) (by rw [hw6]; exact (Below.refl _ wa5).alloc (Nat.le_refl _) _))
          have KK := hide (B6.out.write HG.out (std_wr _ _) (F := 21) (args := #[.pointer (some ⟨RA + 2, 0, none⟩), .int .i64 (SS.size : Int)]) (S' := wK SS.size (wrun w0 y)) (fun X hX => wkeep_any X (RA + 2) (wrun w0 y) _ SS.size hX HFF.out.1.ok (by omega) (by have := HFF.out.1.len; omega) (by have := HFF.out.1.put; omega) (by have := HFF.out.1.cut; omega) (fun z hz => by have := HFF.out.1.big z hz; omega)))
          clear KS hw6 d0 d1 d2 B5
          go_wp2_with fail
          refine (unhide KK).mono ?_
          rintro e wa7 ⟨rfl, B7'⟩
          have B7 := hide B7'
          have kq := B7'.kept List.mem_cons_self
          have d0 := kq.cell 0 _ rfl
          have d1 := kq.cell 1 _ rfl
          have d2 := kq.cell 2 _ rfl
          clear kq B7' KK B6
          have KS := hide (size_any wa7 3 0 SS hSS ⟨by decide, by decide⟩)
          rw [Int.add_zero] at KS
          go_wp2_with fail
          refine (unhide KS).mono ?_
          rintro e wa8 ⟨rfl, hw8⟩
          have B8 := hide (B7.out.below HG.out (std_wr _ _) (w' := wa8) (by rw [hw8]; exact (Below.refl _ wa7).alloc (Nat.le_refl _) _))
          have KT := hide (B8.out.takeB HG.out (std_wr _ _) (n := SS.size) HOK.out (by rw [szP_text]; exact Nat.le_of_eq HSZ.out) (by rw [szP_text, ← HSZ.out]; exact hSS) HLB.out)
          clear KS hw8 d0 d1 d2 B7
          go_wp2_with fail
          refine (unhide KT).mono ?_
          rintro e wa9 ⟨rfl, B9'⟩
          rw [HTK.out] at B9'
          have B9 := hide (B9'.fewer (Kq := []) (fun k hk => absurd hk List.not_mem_nil))
          rw [HY.out.1, HY.out.2] at B9
          have HR9 := hide B9'.rem
          clear KT B9' B8
          go_wp2
          go_roundw
          case rel => exact ⟨A, B', _, _, HC2, B9⟩
          case measure =>
            rw [HREM.out, HR9.out]
            have e1 : tot ((3, 0, s) :: B') = szP (3, 0, s) + tot B' := rfl
            have := HPOS.out
            have := HSZ.out
            rw [e1, szP_text]
            omega
        · have j4 : ((hd B).1 == 3) = false := beq_false_of_ne hq
          obtain ⟨p, A', q, B', rfl, rfl, hpk, hqk⟩ := ti_heads HC.out HDN.out hp hq
          have hF := hFF
          have okp := ok_one HC.out.a
          have okq := ok_one HC.out.b
          have hsp := sz_le okp HC.out.oa HC.out.ma
          have hsq := sz_le okq (by have := HC.out.m; have := HC.out.oa; omega) HC.out.mb
          rw [hd_cons] at hq hp j3 j4
          rw [hd_cons, hd_cons] at B4
          rw [hd_cons, hd_cons]
          have j2 : (p.1 == 3) = false := beq_false_of_ne hp
          have hpz : szP p = p.2.1.toNat + (⟨p.2.2.toArray⟩ : ByteArray).size := by rw [size_mk]; rfl
          have hqz : szP q = q.2.1.toNat + (⟨q.2.2.toArray⟩ : ByteArray).size := by rw [size_mk]; rfl
          have hpn : 0 ≤ p.2.1 := by rcases okp with ⟨_, a, _⟩ | ⟨_, a, _⟩ | ⟨_, a, _⟩ <;> omega
          have hqn : 0 ≤ q.2.1 := by rcases okq with ⟨_, a, _⟩ | ⟨_, a, _⟩ | ⟨_, a, _⟩ <;> omega
          have KP : Hid (∀ u, Calls Try.prog 22 #[.agg #[.int .i64 p.1, .int .i64 p.2.1, .string ⟨p.2.2.toArray⟩]] u fun e w' => e = .returned (.int .i64 (szP p : Int)) ∧ Below u.heap.size u w') := hide fun u => (size_any u p.1 p.2.1 ⟨p.2.2.toArray⟩ (by omega) ⟨hpn, by omega⟩).mono fun e w' h => ⟨by rw [h.1]; congr 2; omega, by rw [h.2]; exact (Below.refl _ u).alloc (Nat.le_refl _) _⟩
          have KQ : Hid (∀ u, Calls Try.prog 22 #[.agg #[.int .i64 q.1, .int .i64 q.2.1, .string ⟨q.2.2.toArray⟩]] u fun e w' => e = .returned (.int .i64 (szP q : Int)) ∧ Below u.heap.size u w') := hide fun u => (size_any u q.1 q.2.1 ⟨q.2.2.toArray⟩ (by omega) ⟨hqn, by omega⟩).mono fun e w' h => ⟨by rw [h.1]; congr 2; omega, by rw [h.2]; exact (Below.refl _ u).alloc (Nat.le_refl _) _⟩
          obtain ⟨n, hn⟩ : ∃ n, n = min (szP p) (szP q) := ⟨_, rfl⟩
          have hn1 : n ≤ szP p := by omega
          have hn2 : n ≤ szP q := by omega
          have hn0 : 0 < n := by have := szP_pos okp; have := szP_pos okq; omega
          have HC2 := hide (ti_both HC.out hpk hqk hn1 hn2)
          have HF := hide hF
          have HTT : Hid (tot (tk n p A') + n = tot (p :: A') ∧ tot (tk n q B') + n = tot (q :: B')) := hide ⟨tk_tot okp hn1, tk_tot okq hn2⟩
          have HCB := hide (And.intro hpk hqk)
          have HOK := hide (And.intro okp okq)
          have HNS := hide (And.intro hn1 (And.intro hn2 (And.intro hsp (And.intro hsq hn0))))
          have hn20 : n ≤ 20000 := by omega
          have HLL : Hid (A'.length ≤ 1000000 ∧ B'.length ≤ 1000000) := hide (by rw [List.length_cons] at hl1 hl2; omega)
          have HMN := hide hn
          have g1 : szP p ≤ 20000 := hsp
          have g2 : szP q ≤ 20000 := hsq
          generalize hspn : szP p = sp at *
          generalize hsqn : szP q = sq at *
          have HSP := hide (And.intro hspn hsqn)
          clear hF HC okp okq hsp hsq hpz hqz hpn hqn hn1 hn2 hn0 hl1 hl2 hn hnp hpk hqk hspn hsqn hFF
          generalize hpc : p.1 = pk at *
          generalize hpd : p.2.1 = pn at *
          generalize hpe : (⟨p.2.2.toArray⟩ : ByteArray) = PS at *
          generalize hqc : q.1 = qk at *
          generalize hqd : q.2.1 = qn at *
          generalize hqe : (⟨q.2.2.toArray⟩ : ByteArray) = QS at *
          have HPE := hide (And.intro hpc (And.intro hpd (And.intro hpe (And.intro hqc (And.intro hqd hqe)))))
          clear hpc hpd hpe hqc hqd hqe
          go_upto_region 5 with fail
          generalize (wa3.alloc (.cells #[.int .i64 pk, .int .i64 pn, .string PS] 46)).alloc (.cells #[.int .i64 qk, .int .i64 qn, .string QS] 46) = W4 at *
          generalize wa3.heap.size = bp at *
          have hkp := B4.out.kept (List.mem_cons_of_mem _ List.mem_cons_self)
          have hkq := B4.out.kept List.mem_cons_self
          have z0 : W4.cell? ⟨bp, 0, none⟩ = some (.int .i64 pk) := hkp.cell 0 _ rfl
          have z1 : W4.cell? ⟨bp, 1, none⟩ = some (.int .i64 pn) := hkp.cell 1 _ rfl
          have z2 : W4.cell? ⟨bp, 2, none⟩ = some (.string PS) := hkp.cell 2 _ rfl
          have z3 : W4.cell? ⟨bp + 1, 0, none⟩ = some (.int .i64 qk) := hkq.cell 0 _ rfl
          have z4 : W4.cell? ⟨bp + 1, 1, none⟩ = some (.int .i64 qn) := hkq.cell 1 _ rfl
          have z5 : W4.cell? ⟨bp + 1, 2, none⟩ = some (.string QS) := hkq.cell 2 _ rfl
          have HCL : Hid (∀ u, Below W4.heap.size W4 u → u.cell? ⟨bp, 0, none⟩ = some (.int .i64 pk) ∧ u.cell? ⟨bp, 1, none⟩ = some (.int .i64 pn) ∧ u.cell? ⟨bp, 2, none⟩ = some (.string PS) ∧ u.cell? ⟨bp + 1, 0, none⟩ = some (.int .i64 qk) ∧ u.cell? ⟨bp + 1, 1, none⟩ = some (.int .i64 qn) ∧ u.cell? ⟨bp + 1, 2, none⟩ = some (.string QS)) := hide fun u hu => ⟨(hkp.below hu hkp.lt).cell 0 _ rfl, (hkp.below hu hkp.lt).cell 1 _ rfl, (hkp.below hu hkp.lt).cell 2 _ rfl, (hkq.below hu hkq.lt).cell 0 _ rfl, (hkq.below hu hkq.lt).cell 1 _ rfl, (hkq.below hu hkq.lt).cell 2 _ rfl⟩
          have KP2 : Hid (∀ u, Below W4.heap.size W4 u → Calls Try.prog 22 #[.agg #[.int .i64 pk, .int .i64 pn, .string PS]] u fun e w' => e = .returned (.int .i64 (sp : Int)) ∧ Below W4.heap.size W4 w') := hide fun u hu => (KP.out u).mono fun e w' h => ⟨h.1, hu.trans (h.2.mono hu.size)⟩
          have KQ2 : Hid (∀ u, Below W4.heap.size W4 u → Calls Try.prog 22 #[.agg #[.int .i64 qk, .int .i64 qn, .string QS]] u fun e w' => e = .returned (.int .i64 (sq : Int)) ∧ Below W4.heap.size W4 w') := hide fun u hu => (KQ.out u).mono fun e w' h => ⟨h.1, hu.trans (h.2.mono hu.size)⟩
          have g0 : Below W4.heap.size W4 W4.drew := (Below.refl _ W4).drew
          clear hkp hkq KP KQ
          go_region_held3 (fun w' => w'.cell? ⟨bp, 0, none⟩ = some (.int .i64 pk) ∧ w'.cell? ⟨bp, 1, none⟩ = some (.int .i64 pn) ∧ w'.cell? ⟨bp, 2, none⟩ = some (.string PS) ∧ w'.cell? ⟨bp + 1, 0, none⟩ = some (.int .i64 qk) ∧ w'.cell? ⟨bp + 1, 1, none⟩ = some (.int .i64 qn) ∧ w'.cell? ⟨bp + 1, 2, none⟩ = some (.string QS)) (go_keep)
            (first
              | (go_at_call 22; refine (KP2.out _ (by assumption)).mono ?_; rintro e w9 ⟨rfl, G9⟩; obtain ⟨s0, s1, s2, s3, s4, s5⟩ := HCL.out _ G9)
              | (go_at_call 22; refine (KQ2.out _ (by assumption)).mono ?_; rintro e w9 ⟨rfl, G9⟩; obtain ⟨s0, s1, s2, s3, s4, s5⟩ := HCL.out _ G9))
          have hmin : (if sq < sp then (sq : Int) else (sp : Int)) = (n : Int) := by rw [HMN.out]; split <;> omega
          rw [hmin]
          have B5 := hide (B4.out.below HG.out (std_wr _ _) G9)
          have KB := transformBytes_any HG.out B5.out p q n HF.out.1 HF.out.2 (by rw [HPE.out.1]; exact HCB.out.1) (by rw [HPE.out.2.2.2.1]; exact HCB.out.2) hn20
          dsimp only [agg3] at KB
          rw [HPE.out.1, HPE.out.2.1, HPE.out.2.2.1, HPE.out.2.2.2.1, HPE.out.2.2.2.2.1, HPE.out.2.2.2.2.2, ← wrun_app, ← wrun_app] at KB
          have KBH := hide KB
          clear KB B4 hmin z0 z1 z2 z3 z4 z5 g0 G9 KP2 KQ2 HCL
          go_wp2_with fail
          refine (unhide KBH).mono ?_
          rintro e wb1 ⟨rfl, C1'⟩
          have KT := hide (C1'.takeA HG.out (std_wr _ _) (n := n) HOK.out.1 (by rw [HSP.out.1]; exact HNS.out.1) (by rw [HSP.out.1]; exact HNS.out.2.2.1) HLL.out.1)
          clear KBH C1' s0 s1 s2 s3 s4 s5
          go_wp2_with fail
          refine (unhide KT).mono ?_
          rintro e wb2 ⟨rfl, C2'⟩
          have KT2 := hide (C2'.takeB HG.out (std_wr _ _) (n := n) HOK.out.2 (by rw [HSP.out.2]; exact HNS.out.2.1) (by rw [HSP.out.2]; exact HNS.out.2.2.2.1) HLL.out.2)
          clear KT C2' B5
          go_wp2_with fail
          refine (unhide KT2).mono ?_
          rintro e wb3 ⟨rfl, C3'⟩
          have C3 := hide (C3'.fewer (Kq := []) (fun k hk => absurd hk List.not_mem_nil))
          have HR3 := hide C3'.rem
          clear KT2 C3'
          go_wp2
          go_roundw
          case rel => exact ⟨_, _, _, _, HC2, C3⟩
          case measure =>
            rw [HREM.out, HR3.out]
            have e1 := HTT.out
            have e2 := HNS.out.2.2.2.2
            omega
end Go.Proofs.Yteajpkoghlbneaa.spls
