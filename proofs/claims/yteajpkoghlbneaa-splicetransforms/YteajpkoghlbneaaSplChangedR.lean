/- The document's Normal and Changed. -/
import Derived.Test.YteajpkoghlbneaaSplComposedR
set_option linter.unusedVariables false
namespace Go.Proofs.Yteajpkoghlbneaa.spls
open Go.RowKit

set_option maxHeartbeats 8000000 in
set_option maxRecDepth 100000 in
theorem normalD_any (w : World) (p : Option Addr) (c : Nat) (A : List Pt) (hA : LiesQ w p A) (za : chk A = 0) :
    Calls Try.prog 27 #[.slice p A.length c] w fun e w' => ∃ v, e = .returned v ∧ OwnP w' w.heap.size v (nf (exL A)) ∧ Below w.heap.size w w' := by
  obtain ⟨a1, a2, a3, a4⟩ := chk_ok za
  have K1 := hide (changeFault_any w p c A hA (by omega))
  rw [za, show szO A = ov (exL A) from if_pos za] at K1
  have HA := hide hA
  have HG := hide a2
  have HD := hide (doc_nf (exL A))
  clear hA za a2
  generalize hoa : ov (exL A) = oa at *
  have HOA := hide hoa
  clear hoa
  generalize szM A = zz at *
  go_enter Try.func27, Try.ntmps27
  go_wp2_with fail
  refine (unhide K1).mono ?_
  rintro _ w1 ⟨rfl, b1'⟩
  have K2 := hide (whole_any w1 oa (by omega))
  have B1 := hide b1'
  clear K1 b1'
  go_wp2_with fail
  refine (unhide K2).mono ?_
  rintro _ w2 ⟨v2, rfl, hv2, b2'⟩
  have B2 := hide (B1.out.trans (b2'.mono B1.out.size))
  obtain ⟨p2, c2, rfl, hc2, hm2, L2, hn2⟩ := hv2.lies
  have hwl := whole_len 0 oa
  have K3 := atomsOf_any w2 p2 c2 (whole 0 oa) L2 hc2 hm2 hn2 p c A (HA.out.keep B2.out) (by omega) HG.out (by rw [hwl, HOA.out]; exact Nat.le_refl _) (by omega) (by omega)
  rw [HOA.out, List.take_of_length_le (by omega)] at K3
  have K3H := hide K3
  have HWL := hide hwl
  clear K2 b2' B1 hv2 L2 K3 hwl hc2 hm2 hn2
  go_wp2_with fail
  refine (unhide K3H).mono ?_
  rintro _ w4 ⟨v4, rfl, hv4, b4'⟩
  have B4 := hide (B2.out.trans (b4'.mono B2.out.size))
  obtain ⟨p4, c4, rfl, hc4, hm4, L4, hn4⟩ := hv4.lies
  have hal : (act ptA (exL A) (whole 0 oa)).length = mk (exL A) := act_len ptA _ _ (by rw [HWL.out, HOA.out])
  have K5 := normalOf_any w4 p4 c4 _ oa L4 (fun a ha => by
    rcases act_mem _ _ _ ha with h | h
    · have := whole_mem oa 0 a h; omega
    · omega) (by rw [hal]; omega) (by omega)
  rw [HD.out] at K5
  have K5H := hide K5
  clear K3H b4' B2 hv4 L4 K5 hal hc4 hm4 hn4
  go_wp2_with fail
  refine (unhide K5H).mono ?_
  rintro _ w5 ⟨v5, rfl, hv5, b5'⟩
  have HV : Hid (OwnP w5 w.heap.size v5 (nf (exL A))) := hide (own_base (by
    refine ⟨hv5.1, ?_⟩
    rcases hv5.2 with h | ⟨g, cap, cur, hv', _, hr⟩
    · exact .inl h
    · exact .inr ⟨g, cap, cur, hv', Nat.zero_le _, hr⟩) (fun g hg => Nat.le_trans B4.out.size (World.ownsRow.lt hv5 g hg).1))
  have b6 := B4.out.trans (b5'.mono B4.out.size)
  obtain ⟨q5, n5, k5, rfl⟩ : ∃ q N c, v5 = .slice q N c := by obtain ⟨q, c, e, _⟩ := own_form hv5; exact ⟨_, _, _, e⟩
  clear K5H b5' B4 hv5
  go_wp2
  go_ret
  exact ⟨_, rfl, HV.out, b6⟩
/-- The byte that an atom is. -/
def val (s : List UInt8) (a : At) : UInt8 := if a.1 < 0 then a.2 else s.getD a.1.toNat 0
theorem whole_val (s : List UInt8) : ∀ (k i : Nat), i + k = s.length → (whole i k).map (val s) = s.drop i
  | 0, i, h => by rw [List.drop_eq_nil_of_le (show s.length ≤ i by omega)]; rfl
  | k + 1, i, h => by
    show val s ((i : Int), 0) :: (whole (i + 1) k).map (val s) = _
    have hi : i < s.length := by omega
    rw [whole_val s k (i + 1) (by omega), List.drop_eq_getElem_cons hi]
    congr 1
    unfold val
    rw [if_neg (by show ¬ (i : Int) < 0; omega)]
    show s.getD ((i : Int)).toNat 0 = _
    rw [Int.toNat_natCast, List.getD, List.getElem?_eq_getElem (by omega)]
    rfl
theorem act_val (x : List M) (s : List UInt8) (h : s.length = ov x) : (act ptA x (whole 0 s.length)).map (val s) = act id x s := by
  rw [← act_map ptA (val s), whole_val s s.length 0 (by omega), List.drop_zero]
  congr 1
end Go.Proofs.Yteajpkoghlbneaa.spls
