/- The document's Backwards. -/
import Derived.Test.YtleacpnmeoocbaaSplChangedR
import Derived.Test.YtleacpnmeoocbaaSplBackP
set_option linter.unusedVariables false
namespace Go.Proofs.Ytleacpnmeoocbaa.spls
open Go.RowKit

theorem back_step (s : List UInt8) (t n : Nat) (h : n < t) (hn : n < s.length) : (s.take t).drop n = s[n] :: (s.take t).drop (n + 1) := by
  rw [List.drop_eq_getElem_cons (show n < (s.take t).length by rw [List.length_take]; omega), List.getElem_take]
theorem push_away (w : World) (base : Nat) (hbs : base ≤ w.heap.size) (v : Value) (l : List At) (a : At) (h : OwnA w base v l) (hl : l.length + 1 ≤ 10000000) (ty : TypeId) (v' : Value) (W' : World)
    (hrun : (Builtin.append_ #[67, 67] ty #[v, .slice (some ⟨w.heap.size, 0, none⟩) 1 1]).run Try.prog (w.alloc (.cells #[.int .i64 a.1, .int .u8 (a.2.toNat : Int)] 71)) = .ok v' W') (b : Nat) (hb : b < w.heap.size) (hn : v.ownBlock ≠ some b) : v'.ownBlock ≠ some b := by
  obtain ⟨i0, hi, hz0, hz1, hz2⟩ := info_parts infoAtom
  have hbw : Below w.heap.size w (w.alloc (.cells #[.int .i64 a.1, .int .u8 (a.2.toNat : Int)] 71)) := (Below.refl _ w).alloc (Nat.le_refl _) _
  have h1 : OwnA (w.alloc (.cells #[.int .i64 a.1, .int .u8 (a.2.toNat : Int)] 71)) base v l := own_chg h (Chg.of_below hbw (fun _ => False)) (fun _ _ h => h)
  obtain ⟨v2, W2, hrun2, _, _, _, hat⟩ := run_append_own_at (P := Try.prog) _ base 67 ty 71 i0 _ 2 16 Try.underlying67 hi hz0 hz1 hz2 rfl (by decide) v _ _ h1 ⟨w.heap.size, 0, none⟩ 1 1 ([a].flatMap atC) (at_len [a]) (two_newA w _ _ _) (at_one [a]) (by unfold maxLen; omega) (by omega) (Nat.le_trans hbs hbw.size)
  rw [hrun] at hrun2
  injection hrun2 with e1 e2
  rw [e1]
  rcases hat with h | h
  · rw [h]; exact hn
  · rw [h]
    intro e
    injection e with e
    have := hbw.size
    omega
set_option maxHeartbeats 16000000 in
set_option maxRecDepth 100000 in
theorem backwards_any (w : World) (s : ByteArray) (p : Option Addr) (c : Nat) (A : List Pt) (hA : LiesQ w p A) (zo : chkO s.data.toList A = 0) :
    Calls Try.prog 17 #[.string s, .slice p A.length c] w fun e w' => ∃ v, e = .returned v ∧ OwnP w' w.heap.size v (nf (inv (exL A) s.data.toList)) ∧ Below w.heap.size w w' := by
  obtain ⟨za, hso⟩ := chkO_ok zo
  obtain ⟨a1, a2, a3, a4⟩ := chk_ok za
  have hsl := len_list s
  have HA := hide hA
  have HG := hide a2
  have HD := hide (back_all s.data.toList (exL A) hso.symm)
  have K2 := hide (whole_any w s.size (by omega))
  have hss : s.size ≤ 20000 := by omega
  have HOA : Hid (ov (exL A) = s.size) := hide (by omega)
  have HSL := hide hsl
  clear hA za a2 zo hso a3 hsl
  go_enter Try.func17, Try.ntmps17
  go_wp2_with fail
  refine (unhide K2).mono ?_
  rintro _ w2 ⟨v2, rfl, hv2, b2'⟩
  have B2 := hide b2'
  obtain ⟨p2, c2, rfl, hc2, hm2, L2, hn2⟩ := hv2.lies
  have hwl := whole_len 0 s.size
  have K3 := atomsOf_any w2 p2 c2 (whole 0 s.size) L2 hc2 hm2 hn2 p c A (HA.out.keep B2.out) (by omega) HG.out (by rw [hwl, HOA.out]; exact Nat.le_refl _) (by omega) (by omega)
  rw [HOA.out, List.take_of_length_le (by omega)] at K3
  have K3H := hide K3
  have HWL := hide hwl
  clear K2 b2' hv2 L2 K3 hwl hc2 hm2 hn2
  go_wp2_with fail
  refine (unhide K3H).mono ?_
  rintro _ w4 ⟨v4, rfl, hv4, b4'⟩
  have B4 := hide (B2.out.trans (b4'.mono B2.out.size))
  obtain ⟨p4, c4, rfl, hc4, hm4, L4, hn4⟩ := hv4.lies
  have hal : (act ptA (exL A) (whole 0 s.size)).length = mk (exL A) := act_len ptA _ _ (by rw [HWL.out, HOA.out])
  have HMEM : Hid (∀ a ∈ act ptA (exL A) (whole 0 s.size), -1 ≤ a.1 ∧ a.1 < (s.size : Int)) := hide fun a ha => by
    rcases act_mem _ _ _ ha with h | h
    · have := whole_mem s.size 0 a h; omega
    · omega
  have HBK : Hid (bkA s.data.toList (act ptA (exL A) (whole 0 s.size)) 0 0 = act ptA (inv (exL A) s.data.toList) (whole 0 (mk (exL A)))) := hide (by have := HD.out; rw [HOA.out] at this; exact this)
  have HRL : Hid ((act ptA (inv (exL A) s.data.toList) (whole 0 (mk (exL A)))).length = s.size) := hide (by rw [act_len ptA _ _ (by rw [whole_len, ov_inv]), mk_inv]; exact HOA.out)
  have HDN : Hid (dfin (drun ([], [], 0, 0) (act ptA (inv (exL A) s.data.toList) (whole 0 (mk (exL A))))) (act ptA (exL A) (whole 0 s.size)).length = nf (inv (exL A) s.data.toList)) := hide (by have := doc_nf (inv (exL A) s.data.toList); rw [ov_inv] at this; rw [hal]; exact this)
  have HRM : Hid (∀ a ∈ act ptA (inv (exL A) s.data.toList) (whole 0 (mk (exL A))), -1 ≤ a.1 ∧ a.1 ≤ 1000000) := hide fun a ha => by
    rcases act_mem _ _ _ ha with h | h
    · have := whole_mem (mk (exL A)) 0 a h; omega
    · omega
  have hlen : (act ptA (exL A) (whole 0 s.size)).length ≤ 20000 := by omega
  have HL4 := hide L4
  clear K3H b4' B2 hv4 L4 hal hc4 hm4 hn4 HD
  generalize act ptA (inv (exL A) s.data.toList) (whole 0 (mk (exL A))) = R at *
  generalize act ptA (exL A) (whole 0 s.size) = l at *
  go_wp2_with fail
  go_loopw [6, 7, 17] (fun v nx i wr => ∃ (j n : Nat) (O : List At), i = .int .i64 j ∧ j ≤ l.length ∧ nx = .int .i64 n ∧ n ≤ s.size ∧ (∃ q m k, v = .slice q m k) ∧ Hid (OwnA wr w4.heap.size v O) ∧ Hid (O ++ bkA s.data.toList (l.drop j) j n = R) ∧ Below w4.heap.size w4 wr) (fun _ _ i _ => l.length - (intOf i).toNat)
  case atStart => exact ⟨0, 0, [], rfl, Nat.zero_le _, rfl, Nat.zero_le _, ⟨_, _, _, rfl⟩, hide (World.ownsRow_nil _ _ _ _), hide HBK.out, Below.refl _ _⟩
  case round =>
    obtain ⟨j, n, O, rfl, hj, rfl, hn, ⟨vq, vm, vk, rfl⟩, HO, HQ, hbw⟩ := hrel
    by_cases hlt : j < l.length
    · obtain ⟨B, oo, rfl, hB, c0, c1⟩ := HL4.out.at hlt
      have x0 := (hbw.cell (p := ⟨B, oo + j * 2, none⟩) hB).trans c0
      have x1 := (hbw.cell (p := ⟨B, oo + j * 2 + 1, none⟩) hB).trans c1
      have hra := HMEM.out _ (List.getElem_mem hlt)
      have HT : Hid (O ++ bkA s.data.toList (l[j] :: l.drop (j + 1)) j n = R) := hide (by rw [← List.drop_eq_getElem_cons hlt]; exact HQ.out)
      have hb1 : Below w4.heap.size w4 (wr.alloc (.cells #[.int .i64 l[j].1, .int .u8 (l[j].2.toNat : Int)] 71)) := hbw.alloc hbw.size _
      have hOA : OwnA (wr.alloc (.cells #[.int .i64 l[j].1, .int .u8 (l[j].2.toNat : Int)] 71)) w4.heap.size _ _ := own_chg HO.out ((Chg.refl (fun _ => False) wr).alloc _) (fun _ _ h => h)
      have hbl := blk_alloc wr #[.int .i64 l[j].1, .int .u8 (l[j].2.toNat : Int)] 71
      have hnb : (Value.slice vq vm vk).ownBlock ≠ some wr.heap.size := fun e => by have := (World.ownsRow.lt HO.out _ e).2; omega
      clear c0 c1 HO HQ
      generalize hlj : l[j] = aa at *
      obtain ⟨av, ac⟩ := aa
      dsimp only at x0 x1 hra hb1 hOA hbl
      by_cases hneg : av < 0
      · have HE : Hid (O ++ bkA s.data.toList (l.drop (j + 1)) (j + 1) n = R) := hide (by have := HT.out; unfold bkA at this; rw [if_pos hneg] at this; exact this)
        have HB2 := hide hb1
        have HOA2 := hide hOA
        clear hb1 HT hlj hbw hOA hbl hnb
        go_wp2
        go_roundw
        case rel => exact ⟨j + 1, n, O, by go_num, hlt, rfl, hn, ⟨_, _, _, rfl⟩, HOA2, HE, HB2.out⟩
        case measure => simp only [intOf]; omega
      · obtain ⟨tq, rfl⟩ : ∃ tq : Nat, av = (tq : Int) := ⟨av.toNat, by omega⟩
        have htq : tq < s.size := by omega
        have HE : Hid (O ++ (((s.data.toList.take tq).drop n).map ptA ++ ((j : Int), 0) :: bkA s.data.toList (l.drop (j + 1)) (j + 1) (tq + 1)) = R) := hide (by have := HT.out; unfold bkA at this; rw [if_neg hneg] at this; exact this)
        have HB2 := hide hb1
        have HOA2 := hide hOA
        have HBL := hide hbl
        clear hb1 HT hlj hOA hbl
        generalize hRR : bkA s.data.toList (l.drop (j + 1)) (j + 1) (tq + 1) = RR at *
        have HRR := hide hRR
        clear hRR
        go_wp2_with fail
        generalize hW1 : wr.alloc (.cells #[.int .i64 (tq : Int), .int .u8 (ac.toNat : Int)] 71) = w1 at *
        generalize hbp : wr.heap.size = bp at *
        clear hbw
        go_loopw [6, 7] (fun v nx wq => ∃ (n' : Nat) (O' : List At), nx = .int .i64 n' ∧ n' ≤ s.size ∧ (∃ q m k, v = .slice q m k) ∧ v.ownBlock ≠ some bp ∧ Hid (OwnA wq w4.heap.size v O') ∧ Hid (O' ++ (((s.data.toList.take tq).drop n').map ptA ++ ((j : Int), 0) :: RR) = R) ∧ Hid (Blk wq bp #[.int .i64 (tq : Int), .int .u8 (ac.toNat : Int)] 71 ∧ Below w4.heap.size w4 wq)) (fun _ nx _ => s.size - (intOf nx).toNat)
        case atStart => exact ⟨n, O, rfl, hn, ⟨_, _, _, rfl⟩, hnb, HOA2, HE, hide ⟨HBL.out, HB2.out⟩⟩
        case round =>
          obtain ⟨n', O', rfl, hn', ⟨wq1, wq2, wq3, rfl⟩, hnb', HO, HQ, HX⟩ := hrel
          have d0 : wr.cell? ⟨bp, 0, none⟩ = some (.int .i64 (tq : Int)) := HX.out.1.cell 0 _ rfl
          have hOl : O'.length ≤ 20000 := by have := congrArg List.length HQ.out; rw [List.length_append, HRL.out] at this; omega
          have hbpw : bp < wr.heap.size := HX.out.1.lt
          by_cases hil : n' < tq
          · have his : n' < s.size := by omega
            have hit : n' < s.data.toList.length := by rw [HSL.out]; exact his
            have hbyte : s[n'] = s.data.toList[n'] := rfl
            obtain ⟨v', W', hrun, ho, ⟨e1, e2, e3, rfl⟩, hb', hch⟩ := push_atom wr w4.heap.size HX.out.2.size _ _ ((-1 : Int), s.data.toList[n']) HO.out (by omega) 67
            have hnb2 := push_away wr w4.heap.size HX.out.2.size _ _ _ HO.out (by omega) 67 _ _ hrun bp hbpw hnb'
            rw [← hbyte] at hrun
            have hrun2 : (Builtin.append_ #[67, 67] 67 #[.slice wq1 wq2 wq3, .slice (some ⟨wr.heap.size, 0, none⟩) 1 1]).run Try.prog (wr.alloc (.cells #[.int .i64 (-1), .int .u8 (s[n'].toNat : Int)] 71)) = .ok (.slice e1 e2 e3) W' := hrun
            have HQ2 : Hid ((O' ++ [((-1 : Int), s.data.toList[n'])]) ++ (((s.data.toList.take tq).drop (n' + 1)).map ptA ++ ((j : Int), 0) :: RR) = R) := hide (by
              have := HQ.out
              rw [back_step s.data.toList tq n' hil hit] at this
              rw [List.append_assoc]
              exact this)
            have HO2 := hide ho
            have HX2 : Hid (Blk W' bp #[.int .i64 (tq : Int), .int .u8 (ac.toNat : Int)] 71 ∧ Below w4.heap.size w4 W') := hide ⟨HX.out.1.chg hch (fun e => hnb' e), HX.out.2.trans hb'⟩
            have i1 : (n' : Int) < (s.size : Int) := by omega
            have i2 : (0 : Int) ≤ (n' : Int) := by omega
            have i3 : (n' : Int) < (tq : Int) := by omega
            clear hrun ho hb' hch HO HX hbyte HQ hbpw
            go_wp2_with (at_builtin; refine Lib.wpList_append_run _ rfl _ _ _ _ rfl _ _ rfl rfl _ _ hrun2 ?_)
            go_roundw
            case rel => exact ⟨n' + 1, _, by go_num, his, ⟨_, _, _, rfl⟩, hnb2, HO2, HQ2, HX2⟩
            case measure => simp only [intOf]; omega
          · obtain ⟨v', W', hrun, ho, ⟨e1, e2, e3, rfl⟩, hb', hch⟩ := push_atom wr w4.heap.size HX.out.2.size _ _ (((j : Nat) : Int), 0) HO.out (by omega) 67
            have hrun2 : (Builtin.append_ #[67, 67] 67 #[.slice wq1 wq2 wq3, .slice (some ⟨wr.heap.size, 0, none⟩) 1 1]).run Try.prog (wr.alloc (.cells #[.int .i64 (j : Int), .int .u8 0] 71)) = .ok (.slice e1 e2 e3) W' := hrun
            have HQ2 : Hid ((O' ++ [((j : Int), 0)]) ++ RR = R) := hide (by
              have := HQ.out
              rw [List.drop_eq_nil_of_le (show (s.data.toList.take tq).length ≤ n' by rw [List.length_take]; omega)] at this
              rw [List.append_assoc]
              exact this)
            have HO2 := hide ho
            have hX2 : Blk W' bp #[.int .i64 (tq : Int), .int .u8 (ac.toNat : Int)] 71 ∧ Below w4.heap.size w4 W' := ⟨HX.out.1.chg hch (fun e => hnb' e), HX.out.2.trans hb'⟩
            have d1 : W'.cell? ⟨bp, 0, none⟩ = some (.int .i64 (tq : Int)) := hX2.1.cell 0 _ rfl
            have HB3 := hide hX2.2
            have i3 : ¬ (n' : Int) < (tq : Int) := by omega
            clear hrun ho hb' hch HO HX HQ hbpw hX2
            go_wp2_with (at_builtin; refine Lib.wpList_append_run _ rfl _ _ _ _ rfl _ _ rfl rfl _ _ hrun2 ?_)
            go_roundw
            case rel => exact ⟨j + 1, tq + 1, _, by go_num, hlt, by go_num, htq, ⟨_, _, _, rfl⟩, HO2, hide (by rw [HRR.out]; exact HQ2.out), HB3.out⟩
            case measure => simp only [intOf]; omega
    · have hjl : j = l.length := by omega
      have HF : Hid (O ++ (s.data.toList.drop n).map ptA = R) := hide (by have := HQ.out; rw [hjl, List.drop_length] at this; exact this)
      have i1 : ¬ (j : Int) < (l.length : Int) := by omega
      have HB2 := hide hbw
      clear HQ hjl hbw
      go_wp2_with fail
      go_loopw [6, 7] (fun v nx wq => ∃ (n' : Nat) (O' : List At), nx = .int .i64 n' ∧ n' ≤ s.size ∧ (∃ q m k, v = .slice q m k) ∧ Hid (OwnA wq w4.heap.size v O') ∧ Hid (O' ++ (s.data.toList.drop n').map ptA = R) ∧ Hid (Below w4.heap.size w4 wq)) (fun _ nx _ => s.size - (intOf nx).toNat)
      case atStart => exact ⟨n, O, rfl, hn, ⟨_, _, _, rfl⟩, HO, HF, HB2⟩
      case round =>
        obtain ⟨n', O', rfl, hn', ⟨wq1, wq2, wq3, rfl⟩, HO, HQ, HX⟩ := hrel
        have hOl : O'.length ≤ 20000 := by have := congrArg List.length HQ.out; rw [List.length_append, HRL.out] at this; omega
        by_cases his : n' < s.size
        · have hit : n' < s.data.toList.length := by rw [HSL.out]; exact his
          have hbyte : s[n'] = s.data.toList[n'] := rfl
          obtain ⟨v', W', hrun, ho, ⟨e1, e2, e3, rfl⟩, hb', hch⟩ := push_atom wr w4.heap.size HX.out.size _ _ ((-1 : Int), s.data.toList[n']) HO.out (by omega) 67
          rw [← hbyte] at hrun
          have hrun2 : (Builtin.append_ #[67, 67] 67 #[.slice wq1 wq2 wq3, .slice (some ⟨wr.heap.size, 0, none⟩) 1 1]).run Try.prog (wr.alloc (.cells #[.int .i64 (-1), .int .u8 (s[n'].toNat : Int)] 71)) = .ok (.slice e1 e2 e3) W' := hrun
          have HQ2 : Hid ((O' ++ [((-1 : Int), s.data.toList[n'])]) ++ (s.data.toList.drop (n' + 1)).map ptA = R) := hide (by
            have := HQ.out
            rw [List.drop_eq_getElem_cons hit] at this
            rw [List.append_assoc]
            exact this)
          have HO2 := hide ho
          have HX2 := hide (HX.out.trans hb')
          have i1' : (n' : Int) < (s.size : Int) := by omega
          have i2 : (0 : Int) ≤ (n' : Int) := by omega
          clear hrun ho hb' hch HO HX hbyte HQ
          go_wp2_with (at_builtin; refine Lib.wpList_append_run _ rfl _ _ _ _ rfl _ _ rfl rfl _ _ hrun2 ?_)
          go_roundw
          case rel => exact ⟨n' + 1, _, by go_num, his, ⟨_, _, _, rfl⟩, HO2, HQ2, HX2⟩
          case measure => simp only [intOf]; omega
        · have hOR : O' = R := by
            have := HQ.out
            rw [List.drop_eq_nil_of_le (show s.data.toList.length ≤ n' by rw [HSL.out]; omega)] at this
            simpa using this
          subst hOR
          have i1' : ¬ (n' : Int) < (s.size : Int) := by omega
          have hv8 := HO.out
          obtain ⟨p8, c8, he8, hc8, hm8, L8, hn8⟩ := hv8.lies
          injection he8 with u1 u2 u3
          subst u1 u2 u3
          have K5 := normalOf_any wr wq1 wq3 O' l.length L8 HRM.out (by omega) (by omega)
          rw [HDN.out] at K5
          have K5H := hide K5
          have B8 := hide (B4.out.trans (HX.out.mono B4.out.size))
          clear K5 L8 hn8 hv8 HO HX HQ hc8 hm8
          go_wp2_with fail
          refine (unhide K5H).mono ?_
          rintro _ w5 ⟨v5, rfl, hv5, b5'⟩
          have HV : Hid (OwnP w5 w.heap.size v5 (nf (inv (exL A) s.data.toList))) := hide (own_base (by
            refine ⟨hv5.1, ?_⟩
            rcases hv5.2 with h | ⟨g, cap, cur, hv', _, hr⟩
            · exact .inl h
            · exact .inr ⟨g, cap, cur, hv', Nat.zero_le _, hr⟩) (fun g hg => Nat.le_trans B8.out.size (World.ownsRow.lt hv5 g hg).1))
          have b6 := B8.out.trans (b5'.mono B8.out.size)
          obtain ⟨q5, n5, k5, rfl⟩ : ∃ q N c, v5 = .slice q N c := by obtain ⟨q, c, e, _⟩ := own_form hv5; exact ⟨_, _, _, e⟩
          clear K5H b5' B8 hv5
          go_wp2
          go_ret
          exact ⟨_, rfl, HV.out, b6⟩
end Go.Proofs.Ytleacpnmeoocbaa.spls
