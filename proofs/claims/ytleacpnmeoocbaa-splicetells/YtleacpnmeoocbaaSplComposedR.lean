/- The document's Composed, SameChange, match. -/
import Derived.Test.YtleacpnmeoocbaaSplNormalR
import Derived.Test.YtleacpnmeoocbaaSplAtomsR
import Derived.Test.YtleacpnmeoocbaaSplFaultR
import Derived.Test.YtleacpnmeoocbaaSplEqW
set_option linter.unusedVariables false
namespace Go.Proofs.Ytleacpnmeoocbaa.spls
open Go.RowKit

theorem act_mem : ∀ (x : List M) (l : List At) (a : At), a ∈ act ptA x l → a ∈ l ∨ a.1 = -1
  | [], l, a, h => by simp [act] at h
  | none :: x, [], a, h => by simp [act] at h
  | none :: x, b :: l, a, h => by
    rcases List.mem_cons.1 h with rfl | h
    · exact .inl List.mem_cons_self
    · exact (act_mem x l a h).imp (List.mem_cons_of_mem _) id
  | some none :: x, l, a, h => (act_mem x l.tail a h).imp List.mem_of_mem_tail id
  | some (some b) :: x, l, a, h => by
    rcases List.mem_cons.1 h with rfl | h
    · exact .inr rfl
    · exact act_mem x l a h
theorem whole_mem : ∀ (n i : Nat) (a : At), a ∈ whole i n → 0 ≤ a.1 ∧ a.1 < ((i + n : Nat) : Int)
  | 0, i, a, h => by simp [whole] at h
  | n + 1, i, a, h => by
    rcases List.mem_cons.1 h with rfl | h
    · show (0 : Int) ≤ (i : Int) ∧ (i : Int) < _; omega
    · have := whole_mem n (i + 1) a h
      omega
set_option maxHeartbeats 8000000 in
set_option maxRecDepth 100000 in
theorem composed_any (w : World) (p q : Option Addr) (c d : Nat) (A B : List Pt) (hA : LiesQ w p A) (hB : LiesQ w q B) (za : chk A = 0) (zb : chk B = 0) (hm : ov (exL B) = mk (exL A)) :
    Calls Try.prog 20 #[.slice p A.length c, .slice q B.length d] w fun e w' => ∃ v, e = .returned v ∧ OwnP w' w.heap.size v (nf (cmp (exL B) (exL A))) ∧ Below w.heap.size w w' := by
  obtain ⟨a1, a2, a3, a4⟩ := chk_ok za
  obtain ⟨b1, b2, b3, b4⟩ := chk_ok zb
  have K1 := hide (changeFault_any w p c A hA (by omega))
  rw [za, show szO A = ov (exL A) from if_pos za] at K1
  have HA := hide hA
  have HB := hide hB
  have HG := hide (And.intro a2 b2)
  have HD := hide (doc_cmp (exL A) (exL B) hm.symm)
  have HM := hide hm
  clear hA hB za zb a2 b2 hm
  generalize hoa : ov (exL A) = oa at *
  have HOA := hide hoa
  clear hoa
  generalize szM A = zz at *
  go_enter Try.func20, Try.ntmps20
  go_wp2_with fail
  refine (unhide K1).mono ?_
  rintro _ w1 ⟨rfl, b1'⟩
  have K2 := hide (whole_any w1 oa (by omega))
  have B1 := hide b1'
  clear K1 b1'
  go_wp2_with fail
  refine (unhide K2).mono ?_
  rintro _ w2 ⟨v2, rfl, hv2, b2'⟩
  have B2 := hide (B1.out.trans (b2'.mono B1.out.size))
  obtain ⟨p2, c2, rfl, hc2, hm2, L2, hn2⟩ := hv2.lies
  have hwl := whole_len 0 oa
  have K3 := atomsOf_any w2 p2 c2 (whole 0 oa) L2 hc2 hm2 hn2 p c A (HA.out.keep B2.out) (by omega) HG.out.1 (by rw [hwl, HOA.out]; exact Nat.le_refl _) (by omega) (by omega)
  rw [HOA.out, List.take_of_length_le (by omega)] at K3
  have K3H := hide K3
  have HWL := hide hwl
  clear K2 b2' B1 hv2 L2 K3 hwl hc2 hm2 hn2
  go_wp2_with fail
  refine (unhide K3H).mono ?_
  rintro _ w3 ⟨v3, rfl, hv3, b3'⟩
  have B3 := hide (B2.out.trans (b3'.mono B2.out.size))
  obtain ⟨p3, c3, rfl, hc3, hm3, L3, hn3⟩ := hv3.lies
  have hal : (act ptA (exL A) (whole 0 oa)).length = mk (exL A) := act_len ptA _ _ (by rw [HWL.out, HOA.out])
  have K4 := atomsOf_any w3 p3 c3 _ L3 hc3 hm3 hn3 q d B (HB.out.keep B3.out) (by omega) HG.out.2 (by rw [hal]; exact Nat.le_of_eq HM.out) (by omega) (by rw [hal]; omega)
  rw [HM.out, ← hal, List.take_length] at K4
  have K4H := hide K4
  have HAL := hide hal
  clear K3H b3' B2 hv3 L3 K4 hal hc3 hm3 hn3
  go_wp2_with fail
  refine (unhide K4H).mono ?_
  rintro _ w4 ⟨v4, rfl, hv4, b4'⟩
  have B4 := hide (B3.out.trans (b4'.mono B3.out.size))
  obtain ⟨p4, c4, rfl, hc4, hm4, L4, hn4⟩ := hv4.lies
  have hal2 : (act ptA (exL B) (act ptA (exL A) (whole 0 oa))).length = mk (exL B) := act_len ptA _ _ (by rw [HAL.out, HM.out])
  have K5 := normalOf_any w4 p4 c4 _ oa L4 (fun a ha => by
    rcases act_mem _ _ _ ha with h | h
    · rcases act_mem _ _ _ h with h | h
      · have := whole_mem oa 0 a h; omega
      · omega
    · omega) (by rw [hal2]; omega) (by omega)
  rw [HD.out] at K5
  have K5H := hide K5
  clear K4H b4' B3 hv4 L4 K5 hal2 hc4 hm4 hn4
  go_wp2_with fail
  refine (unhide K5H).mono ?_
  rintro _ w5 ⟨v5, rfl, hv5, b5'⟩
  have HV : Hid (OwnP w5 w.heap.size v5 (nf (cmp (exL B) (exL A)))) := hide (own_base (by
    refine ⟨hv5.1, ?_⟩
    rcases hv5.2 with h | ⟨g, cap, cur, hv', _, hr⟩
    · exact .inl h
    · exact .inr ⟨g, cap, cur, hv', Nat.zero_le _, hr⟩) (fun g hg => Nat.le_trans B4.out.size (World.ownsRow.lt hv5 g hg).1))
  have b6 := B4.out.trans (b5'.mono B4.out.size)
  obtain ⟨q5, n5, k5, rfl⟩ : ∃ q N c, v5 = .slice q N c := by obtain ⟨q, c, e, _⟩ := own_form hv5; exact ⟨_, _, _, e⟩
  clear K5H b5' B4 hv5
  go_wp2
  go_ret
  exact ⟨_, rfl, HV.out, b6⟩
end Go.Proofs.Ytleacpnmeoocbaa.spls
