/- The document's Normal and Changed. -/
import Derived.Test.YtleacpnmeoocbaaSplComposedR
set_option linter.unusedVariables false
namespace Go.Proofs.Ytleacpnmeoocbaa.spls
open Go.RowKit

set_option maxHeartbeats 8000000 in
set_option maxRecDepth 100000 in
theorem normalD_any (w : World) (p : Option Addr) (c : Nat) (A : List Pt) (hA : LiesQ w p A) (za : chk A = 0) :
    Calls Try.prog 15 #[.slice p A.length c] w fun e w' => ∃ v, e = .returned v ∧ OwnP w' w.heap.size v (nf (exL A)) ∧ Below w.heap.size w w' := by
  obtain ⟨a1, a2, a3, a4⟩ := chk_ok za
  have K1 := hide (changeFault_any w p c A hA (by omega))
  rw [za, show szO A = ov (exL A) from if_pos za] at K1
  have HA := hide hA
  have HG := hide a2
  have HD := hide (doc_nf (exL A))
  clear hA za a2
  generalize hoa : ov (exL A) = oa at *
  have HOA := hide hoa
  clear hoa
  generalize szM A = zz at *
  go_enter Try.func15, Try.ntmps15
  go_wp2_with fail
  refine (unhide K1).mono ?_
  rintro _ w1 ⟨rfl, b1'⟩
  have K2 := hide (whole_any w1 oa (by omega))
  have B1 := hide b1'
  clear K1 b1'
  go_wp2_with fail
  refine (unhide K2).mono ?_
  rintro _ w2 ⟨v2, rfl, hv2, b2'⟩
  have B2 := hide (B1.out.trans (b2'.mono B1.out.size))
  obtain ⟨p2, c2, rfl, hc2, hm2, L2, hn2⟩ := hv2.lies
  have hwl := whole_len 0 oa
  have K3 := atomsOf_any w2 p2 c2 (whole 0 oa) L2 hc2 hm2 hn2 p c A (HA.out.keep B2.out) (by omega) HG.out (by rw [hwl, HOA.out]; exact Nat.le_refl _) (by omega) (by omega)
  rw [HOA.out, List.take_of_length_le (by omega)] at K3
  have K3H := hide K3
  have HWL := hide hwl
  clear K2 b2' B1 hv2 L2 K3 hwl hc2 hm2 hn2
  go_wp2_with fail
  refine (unhide K3H).mono ?_
  rintro _ w4 ⟨v4, rfl, hv4, b4'⟩
  have B4 := hide (B2.out.trans (b4'.mono B2.out.size))
  obtain ⟨p4, c4, rfl, hc4, hm4, L4, hn4⟩ := hv4.lies
  have hal : (act ptA (exL A) (whole 0 oa)).length = mk (exL A) := act_len ptA _ _ (by rw [HWL.out, HOA.out])
  have K5 := normalOf_any w4 p4 c4 _ oa L4 (fun a ha => by
    rcases act_mem _ _ _ ha with h | h
    · have := whole_mem oa 0 a h; omega
    · omega) (by rw [hal]; omega) (by omega)
  rw [HD.out] at K5
  have K5H := hide K5
  clear K3H b4' B2 hv4 L4 K5 hal hc4 hm4 hn4
  go_wp2_with fail
  refine (unhide K5H).mono ?_
  rintro _ w5 ⟨v5, rfl, hv5, b5'⟩
  have HV : Hid (OwnP w5 w.heap.size v5 (nf (exL A))) := hide (own_base (by
    refine ⟨hv5.1, ?_⟩
    rcases hv5.2 with h | ⟨g, cap, cur, hv', _, hr⟩
    · exact .inl h
    · exact .inr ⟨g, cap, cur, hv', Nat.zero_le _, hr⟩) (fun g hg => Nat.le_trans B4.out.size (World.ownsRow.lt hv5 g hg).1))
  have b6 := B4.out.trans (b5'.mono B4.out.size)
  obtain ⟨q5, n5, k5, rfl⟩ : ∃ q N c, v5 = .slice q N c := by obtain ⟨q, c, e, _⟩ := own_form hv5; exact ⟨_, _, _, e⟩
  clear K5H b5' B4 hv5
  go_wp2
  go_ret
  exact ⟨_, rfl, HV.out, b6⟩
/-- The byte that an atom is. -/
def val (s : List UInt8) (a : At) : UInt8 := if a.1 < 0 then a.2 else s.getD a.1.toNat 0
theorem whole_val (s : List UInt8) : ∀ (k i : Nat), i + k = s.length → (whole i k).map (val s) = s.drop i
  | 0, i, h => by rw [List.drop_eq_nil_of_le (show s.length ≤ i by omega)]; rfl
  | k + 1, i, h => by
    show val s ((i : Int), 0) :: (whole (i + 1) k).map (val s) = _
    have hi : i < s.length := by omega
    rw [whole_val s k (i + 1) (by omega), List.drop_eq_getElem_cons hi]
    congr 1
    unfold val
    rw [if_neg (by show ¬ (i : Int) < 0; omega)]
    show s.getD ((i : Int)).toNat 0 = _
    rw [Int.toNat_natCast, List.getD, List.getElem?_eq_getElem (by omega)]
    rfl
theorem act_val (x : List M) (s : List UInt8) (h : s.length = ov x) : (act ptA x (whole 0 s.length)).map (val s) = act id x s := by
  rw [← act_map ptA (val s), whole_val s s.length 0 (by omega), List.drop_zero]
  congr 1
set_option maxHeartbeats 8000000 in
set_option maxRecDepth 100000 in
theorem changed_any (w : World) (s : ByteArray) (p : Option Addr) (c : Nat) (A : List Pt) (hA : LiesQ w p A) (zo : chkO s.data.toList A = 0) :
    Calls Try.prog 16 #[.string s, .slice p A.length c] w fun e w' => e = .returned (.string ⟨(act id (exL A) s.data.toList).toArray⟩) ∧ Below w.heap.size w w' := by
  obtain ⟨za, hso⟩ := chkO_ok zo
  obtain ⟨a1, a2, a3, a4⟩ := chk_ok za
  have hsl := len_list s
  have HA := hide hA
  have HG := hide a2
  have HD := hide (act_val (exL A) s.data.toList hso)
  have K2 := hide (whole_any w s.size (by omega))
  have hss : s.size ≤ 20000 := by omega
  have HOA : Hid (ov (exL A) = s.size) := hide (by omega)
  have HSL := hide hsl
  clear hA za a2 zo hso a3 hsl
  go_enter Try.func16, Try.ntmps16
  go_wp2_with fail
  refine (unhide K2).mono ?_
  rintro _ w2 ⟨v2, rfl, hv2, b2'⟩
  have B2 := hide b2'
  obtain ⟨p2, c2, rfl, hc2, hm2, L2, hn2⟩ := hv2.lies
  have hwl := whole_len 0 s.size
  have K3 := atomsOf_any w2 p2 c2 (whole 0 s.size) L2 hc2 hm2 hn2 p c A (HA.out.keep B2.out) (by omega) HG.out (by rw [hwl, HOA.out]; exact Nat.le_refl _) (by omega) (by omega)
  rw [HOA.out, List.take_of_length_le (by omega)] at K3
  have K3H := hide K3
  have HWL := hide hwl
  clear K2 b2' hv2 L2 K3 hwl hc2 hm2 hn2
  go_wp2_with fail
  refine (unhide K3H).mono ?_
  rintro _ w4 ⟨v4, rfl, hv4, b4'⟩
  have B4 := hide (B2.out.trans (b4'.mono B2.out.size))
  obtain ⟨p4, c4, rfl, hc4, hm4, L4, hn4⟩ := hv4.lies
  have hal : (act ptA (exL A) (whole 0 s.size)).length = mk (exL A) := act_len ptA _ _ (by rw [HWL.out, HOA.out])
  have HMEM : Hid (∀ a ∈ act ptA (exL A) (whole 0 s.size), -1 ≤ a.1 ∧ a.1 < (s.size : Int)) := hide fun a ha => by
    rcases act_mem _ _ _ ha with h | h
    · have := whole_mem s.size 0 a h; omega
    · omega
  have HD2 : Hid ((act ptA (exL A) (whole 0 s.size)).map (val s.data.toList) = act id (exL A) s.data.toList) := hide (by have := HD.out; rw [HSL.out] at this; exact this)
  have hlen : (act ptA (exL A) (whole 0 s.size)).length ≤ 20000 := by omega
  have HL4 := hide L4
  clear K3H b4' B2 hv4 L4 hal hc4 hm4 hn4 HD
  generalize act ptA (exL A) (whole 0 s.size) = l at *
  go_wp2_with fail
  go_loopw [5, 14] (fun v i wr => ∃ (j : Nat) (o : List UInt8), i = .int .i64 j ∧ j ≤ l.length ∧ v = .string ⟨o.toArray⟩ ∧ o.length ≤ j ∧ Hid (o = (l.take j).map (val s.data.toList)) ∧ Below w4.heap.size w4 wr) (fun _ i _ => l.length - (intOf i).toNat)
  case atStart => exact ⟨0, [], rfl, Nat.zero_le _, rfl, Nat.zero_le _, hide rfl, Below.refl _ _⟩
  case round =>
    obtain ⟨j, o, rfl, hj, rfl, hol, HO, hbw⟩ := hrel
    by_cases hlt : j < l.length
    · obtain ⟨B, oo, rfl, hB, c0, c1⟩ := HL4.out.at hlt
      have x0 := (hbw.cell (p := ⟨B, oo + j * 2, none⟩) hB).trans c0
      have x1 := (hbw.cell (p := ⟨B, oo + j * 2 + 1, none⟩) hB).trans c1
      have hra := HMEM.out _ (List.getElem_mem hlt)
      have HT : Hid ((l.take (j + 1)).map (val s.data.toList) = o ++ [val s.data.toList l[j]]) := hide (by rw [List.take_succ_eq_append_getElem hlt, List.map_append, HO.out]; rfl)
      have hb1 : Below w4.heap.size w4 (wr.alloc (.cells #[.int .i64 l[j].1, .int .u8 (l[j].2.toNat : Int)] 71)) := hbw.alloc hbw.size _
      clear c0 c1 HO
      generalize hlj : l[j] = aa at *
      obtain ⟨av, ac⟩ := aa
      dsimp only at x0 x1 hra hb1
      by_cases hneg : av < 0
      · have HE : Hid (o ++ [ac] = (l.take (j + 1)).map (val s.data.toList)) := hide (by rw [HT.out]; unfold val; rw [if_pos hneg])
        have hcat := catA o [ac] (by simp; omega)
        have hcv := conv_byte ac (wr.alloc (.cells #[.int .i64 av, .int .u8 (ac.toNat : Int)] 71))
        rw [show (wr.alloc (.cells #[.int .i64 av, .int .u8 (ac.toNat : Int)] 71)).heap.size = wr.heap.size + 1 from by simp] at hcv
        have hb2 : Below w4.heap.size w4 ((wr.alloc (.cells #[.int .i64 av, .int .u8 (ac.toNat : Int)] 71)).alloc (.cells #[.int .u8 (ac.toNat : Int)] 5)) := hb1.alloc hb1.size _
        have hlen2 : (o ++ [ac]).length ≤ j + 1 := by rw [List.length_append]; simp; omega
        rw [show (⟨[ac].toArray⟩ : ByteArray) = ⟨#[ac]⟩ from rfl] at hcat
        have HB2 := hide hb2
        clear hb1 hb2 HT hlj hbw
        go_wp2
        go_roundw
        case rel => exact ⟨j + 1, o ++ [ac], by go_num, hlt, rfl, hlen2, HE, HB2.out⟩
        case measure => simp only [intOf]; omega
      · obtain ⟨tq, rfl⟩ : ∃ tq : Nat, av = (tq : Int) := ⟨av.toNat, by omega⟩
        have htq : tq < s.size := by omega
        have hext : s.extract tq (tq + 1) = ⟨[s.data.toList.getD tq 0].toArray⟩ := by
          rw [← mk_list (s.extract tq (tq + 1)), ext_list]
          congr 2
          rw [List.drop_take, show tq + 1 - tq = 1 from by omega, List.drop_eq_getElem_cons (by rw [HSL.out]; exact htq)]
          simp [List.getD, List.getElem?_eq_getElem (show tq < s.data.toList.length by rw [HSL.out]; exact htq)]
        have HE : Hid (o ++ [s.data.toList.getD tq 0] = (l.take (j + 1)).map (val s.data.toList)) := hide (by rw [HT.out]; unfold val; rw [if_neg hneg]; rfl)
        have hcat := catA o [s.data.toList.getD tq 0] (by simp; omega)
        rw [← hext] at hcat
        have hlen2 : (o ++ [s.data.toList.getD tq 0]).length ≤ j + 1 := by rw [List.length_append]; simp; omega
        have i1 : (0 : Int) ≤ (tq : Int) := by omega
        have i2 : (tq : Int) ≤ (tq : Int) + 1 := by omega
        have i3 : (tq : Int) + 1 ≤ (s.size : Int) := by omega
        have HB2 := hide hb1
        clear hb1 HT hlj hbw hext htq
        generalize s.data.toList.getD tq 0 = sb at *
        go_wp2
        go_roundw
        case rel => exact ⟨j + 1, o ++ [sb], by go_num, hlt, rfl, hlen2, HE, HB2.out⟩
        case measure => simp only [intOf]; omega
    · have hjl : j = l.length := by omega
      have HF : Hid (o = act id (exL A) s.data.toList) := hide (by rw [HO.out, hjl, List.take_length, HD2.out])
      have i1 : ¬ (j : Int) < (l.length : Int) := by omega
      have hb9 := B4.out.trans (hbw.mono B4.out.size)
      clear HO hjl hbw B4
      go_wp2
      go_ret
      exact ⟨by rw [HF.out]; rfl, hb9⟩
end Go.Proofs.Ytleacpnmeoocbaa.spls
