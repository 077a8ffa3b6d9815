/- The document's ChangeFault. -/
import Derived.Test.YteajpkoghlbneaaSplNormW
set_option linter.unusedVariables false
namespace Go.Proofs.Yteajpkoghlbneaa.spls
open Go.RowKit

theorem chk_stop {L : List Pt} (h4 : L.length ≤ 400) {j : Nat} (hj : j < L.length) (hacc : chkL (L.drop j) = chkL L) {e : Int} (he : chkP L[j] = e) (hne : e ≠ 0) : chk L = e ∧ szO L = 0 ∧ szM L = 0 := by
  have h1 : chkL L = e := by rw [← hacc, chkL_at hj, he, if_neg hne]
  have h2 : chk L = e := by unfold chk; rw [if_neg (by omega), if_pos (by rw [h1]; exact hne), h1]
  exact ⟨h2, if_neg (by rw [h2]; exact hne), if_neg (by rw [h2]; exact hne)⟩
theorem chk_on {L : List Pt} {j : Nat} (hj : j < L.length) (hacc : chkL (L.drop j) = chkL L) (he : chkP L[j] = 0) : chkL (L.drop (j + 1)) = chkL L := by
  rw [← hacc, chkL_at hj, he, if_pos rfl]
set_option maxHeartbeats 16000000 in
set_option maxRecDepth 100000 in
theorem changeFault_any (w : World) (p : Option Addr) (c : Nat) (L : List Pt) (hL : LiesQ w p L) (hl : L.length ≤ 9223372036854775807) :
    Calls Try.prog 7 #[.slice p L.length c] w fun e w' => e = .returned (.tuple #[.int .i64 (szO L : Int), .int .i64 (szM L : Int), .int .i64 (chk L)]) ∧ Below w.heap.size w w' := by
  by_cases i0 : (L.length : Int) > 400
  · have E : Hid (chk L = 2 ∧ szO L = 0 ∧ szM L = 0) := hide (by
      have h2 : chk L = 2 := by unfold chk; rw [if_pos (by omega)]
      exact ⟨h2, if_neg (by rw [h2]; decide), if_neg (by rw [h2]; decide)⟩)
    go_enter Try.func7, Try.ntmps7
    go_wp2
    go_ret3
    rw [E.out.1, E.out.2.1, E.out.2.2]
    exact ⟨rfl, Below.refl _ _⟩
  have h400 : L.length ≤ 400 := by omega
  have HL := hide hL
  clear hL
  go_enter Try.func7, Try.ntmps7
  go_wp2_with fail
  go_loopw [5, 6, 14] (fun a b i wr => ∃ (j oo mm : Nat), i = .int .i64 j ∧ j ≤ L.length ∧ a = .int .i64 (oo : Int) ∧ b = .int .i64 (mm : Int) ∧ Hid (oo = ov (exL (L.take j)) ∧ mm = mk (exL (L.take j))) ∧ (oo ≤ j * 20000 ∧ mm ≤ j * 20000) ∧ Hid (chkL (L.drop j) = chkL L) ∧ Below w.heap.size w wr) (fun _ _ i _ => L.length - (intOf i).toNat)
  case atStart => exact ⟨0, 0, 0, rfl, Nat.zero_le _, rfl, rfl, hide ⟨rfl, rfl⟩, ⟨Nat.zero_le _, Nat.zero_le _⟩, hide rfl, Below.refl _ _⟩
  case round =>
    obtain ⟨j, oo, mm, rfl, hj, rfl, rfl, HS, ⟨m1, m2⟩, HA, hbw⟩ := hrel
    by_cases hlt : j < L.length
    · obtain ⟨B, o, rfl, hB, hr, h3⟩ := HL.out.at hlt
      obtain ⟨c0, c1, c2⟩ := h3.below hbw hB
      have hsz := size_mk (L[j]).2.2
      have hbA : Below w.heap.size w (wr.alloc (.cells #[.int .i64 (L[j]).1, .int .i64 (L[j]).2.1, .string ⟨(L[j]).2.2.toArray⟩] 46)) := hbw.alloc hbw.size _
      have HB := hide hbA
      have HT : Hid (ov (exL (L.take (j + 1))) = oo + ov (ex L[j]) ∧ mk (exL (L.take (j + 1))) = mm + mk (ex L[j])) := hide (by rw [exL_take hlt, ov_app, mk_app, HS.out.1, HS.out.2]; exact ⟨rfl, rfl⟩)
      have HSTOP : Hid (∀ e, chkP L[j] = e → e ≠ 0 → chk L = e ∧ szO L = 0 ∧ szM L = 0) := hide fun e he hne => chk_stop h400 hlt HA.out he hne
      have HON : Hid (chkP L[j] = 0 → chkL (L.drop (j + 1)) = chkL L) := hide fun he => chk_on hlt HA.out he
      have hrn := hr.2.2
      clear h3 hbA hr HS HA
      generalize L[j] = q at *
      obtain ⟨k, n, t⟩ := q
      dsimp only at c0 c1 c2 hsz HB hrn
      have hTl : (⟨t.toArray⟩ : ByteArray).data.toList = t := rfl
      generalize (⟨t.toArray⟩ : ByteArray) = S at *
      by_cases k1 : k = 1
      · subst k1
        by_cases n1 : n < 0
        · have E := hide (HSTOP.out 1 (by unfold chkP; rw [if_neg (by show ¬ ((1 : Int) ≠ 1 ∧ (1 : Int) ≠ 2 ∧ (1 : Int) ≠ 3); omega), if_pos (.inl n1)]) (by decide))
          clear HSTOP HON HT hTl
          go_wp2
          go_ret3
          rw [E.out.1, E.out.2.1, E.out.2.2]
          exact ⟨rfl, HB.out⟩
        by_cases n2 : n > 20000
        · have E := hide (HSTOP.out 1 (by unfold chkP; rw [if_neg (by show ¬ ((1 : Int) ≠ 1 ∧ (1 : Int) ≠ 2 ∧ (1 : Int) ≠ 3); omega), if_pos (.inr n2)]) (by decide))
          clear HSTOP HON HT hTl
          go_wp2
          go_ret3
          rw [E.out.1, E.out.2.1, E.out.2.2]
          exact ⟨rfl, HB.out⟩
        obtain ⟨nb, hnb⟩ : ∃ nb, (n == 0) = nb := ⟨_, rfl⟩
        have hnb2 : (n != 0) = !nb := by rw [← hnb]; rfl
        by_cases s1 : (S.size : Int) > 20000
        · have E := hide (HSTOP.out 2 (by unfold chkP; rw [if_neg (by show ¬ ((1 : Int) ≠ 1 ∧ (1 : Int) ≠ 2 ∧ (1 : Int) ≠ 3); omega), if_neg (by show ¬ (n < 0 ∨ 20000 < n); omega), if_neg (by show ¬ ((1 : Int) = 3 ∧ n ≠ 0); omega), if_pos (by show 20000 < t.length; omega)]) (by decide))
          cases nb
          · clear HSTOP HON HT hTl
            go_wp2
            go_ret3
            rw [E.out.1, E.out.2.1, E.out.2.2]
            exact ⟨rfl, HB.out⟩
          · clear HSTOP HON HT hTl
            go_wp2
            go_ret3
            rw [E.out.1, E.out.2.1, E.out.2.2]
            exact ⟨rfl, HB.out⟩
        by_cases s2 : S.size = 0
        · have H0 := hide (HON.out (by unfold chkP; rw [if_neg (by show ¬ ((1 : Int) ≠ 1 ∧ (1 : Int) ≠ 2 ∧ (1 : Int) ≠ 3); omega), if_neg (by show ¬ (n < 0 ∨ 20000 < n); omega), if_neg (by show ¬ ((1 : Int) = 3 ∧ n ≠ 0); omega), if_neg (by show ¬ 20000 < t.length; omega), if_neg (fun h => h.2 (List.eq_nil_of_length_eq_zero (by show t.length = 0; omega)))]))
          have s3 := isEmptyYes S s2
          have HE : Hid (oo + n.toNat = ov (exL (L.take (j + 1))) ∧ mm + n.toNat = mk (exL (L.take (j + 1)))) := hide (by have := HT.out; rw [ex_keep, ov_keeps, mk_keeps] at this; omega)
          clear HSTOP HON HT hTl s2
          cases nb
          · go_wp2
            go_roundw
            case rel => exact ⟨j + 1, oo + n.toNat, mm + n.toNat, by go_num, hlt, by first | rfl | (congr 1; omega), by first | rfl | (congr 1; omega), HE, ⟨by omega, by omega⟩, H0, HB.out⟩
            case measure => simp only [intOf]; omega
          · go_wp2
            go_roundw
            case rel => exact ⟨j + 1, oo + n.toNat, mm + n.toNat, by go_num, hlt, by first | rfl | (congr 1; omega), by first | rfl | (congr 1; omega), HE, ⟨by omega, by omega⟩, H0, HB.out⟩
            case measure => simp only [intOf]; omega
        · have E := hide (HSTOP.out 1 (by unfold chkP; rw [if_neg (by show ¬ ((1 : Int) ≠ 1 ∧ (1 : Int) ≠ 2 ∧ (1 : Int) ≠ 3); omega), if_neg (by show ¬ (n < 0 ∨ 20000 < n); omega), if_neg (by show ¬ ((1 : Int) = 3 ∧ n ≠ 0); omega), if_neg (by show ¬ 20000 < t.length; omega), if_pos ⟨by show (1 : Int) ≠ 3; decide, fun h => s2 (by have h2 : t = [] := h; rw [hsz, h2]; rfl)⟩]) (by decide))
          have s3 := isEmptyNo S (by omega)
          cases nb
          · clear HSTOP HON HT hTl
            go_wp2
            go_ret3
            rw [E.out.1, E.out.2.1, E.out.2.2]
            exact ⟨rfl, HB.out⟩
          · clear HSTOP HON HT hTl
            go_wp2
            go_ret3
            rw [E.out.1, E.out.2.1, E.out.2.2]
            exact ⟨rfl, HB.out⟩
      by_cases k2 : k = 2
      · subst k2
        by_cases n1 : n < 0
        · have E := hide (HSTOP.out 1 (by unfold chkP; rw [if_neg (by show ¬ ((2 : Int) ≠ 1 ∧ (2 : Int) ≠ 2 ∧ (2 : Int) ≠ 3); omega), if_pos (.inl n1)]) (by decide))
          clear HSTOP HON HT hTl
          go_wp2
          go_ret3
          rw [E.out.1, E.out.2.1, E.out.2.2]
          exact ⟨rfl, HB.out⟩
        by_cases n2 : n > 20000
        · have E := hide (HSTOP.out 1 (by unfold chkP; rw [if_neg (by show ¬ ((2 : Int) ≠ 1 ∧ (2 : Int) ≠ 2 ∧ (2 : Int) ≠ 3); omega), if_pos (.inr n2)]) (by decide))
          clear HSTOP HON HT hTl
          go_wp2
          go_ret3
          rw [E.out.1, E.out.2.1, E.out.2.2]
          exact ⟨rfl, HB.out⟩
        obtain ⟨nb, hnb⟩ : ∃ nb, (n == 0) = nb := ⟨_, rfl⟩
        have hnb2 : (n != 0) = !nb := by rw [← hnb]; rfl
        by_cases s1 : (S.size : Int) > 20000
        · have E := hide (HSTOP.out 2 (by unfold chkP; rw [if_neg (by show ¬ ((2 : Int) ≠ 1 ∧ (2 : Int) ≠ 2 ∧ (2 : Int) ≠ 3); omega), if_neg (by show ¬ (n < 0 ∨ 20000 < n); omega), if_neg (by show ¬ ((2 : Int) = 3 ∧ n ≠ 0); omega), if_pos (by show 20000 < t.length; omega)]) (by decide))
          cases nb
          · clear HSTOP HON HT hTl
            go_wp2
            go_ret3
            rw [E.out.1, E.out.2.1, E.out.2.2]
            exact ⟨rfl, HB.out⟩
          · clear HSTOP HON HT hTl
            go_wp2
            go_ret3
            rw [E.out.1, E.out.2.1, E.out.2.2]
            exact ⟨rfl, HB.out⟩
        by_cases s2 : S.size = 0
        · have H0 := hide (HON.out (by unfold chkP; rw [if_neg (by show ¬ ((2 : Int) ≠ 1 ∧ (2 : Int) ≠ 2 ∧ (2 : Int) ≠ 3); omega), if_neg (by show ¬ (n < 0 ∨ 20000 < n); omega), if_neg (by show ¬ ((2 : Int) = 3 ∧ n ≠ 0); omega), if_neg (by show ¬ 20000 < t.length; omega), if_neg (fun h => h.2 (List.eq_nil_of_length_eq_zero (by show t.length = 0; omega)))]))
          have s3 := isEmptyYes S s2
          have HE : Hid (oo + n.toNat = ov (exL (L.take (j + 1))) ∧ mm = mk (exL (L.take (j + 1)))) := hide (by have := HT.out; rw [ex_cut, ov_cuts, mk_cuts] at this; omega)
          clear HSTOP HON HT hTl s2
          cases nb
          · go_wp2
            go_roundw
            case rel => exact ⟨j + 1, oo + n.toNat, mm, by go_num, hlt, by first | rfl | (congr 1; omega), by first | rfl | (congr 1; omega), HE, ⟨by omega, by omega⟩, H0, HB.out⟩
            case measure => simp only [intOf]; omega
          · go_wp2
            go_roundw
            case rel => exact ⟨j + 1, oo + n.toNat, mm, by go_num, hlt, by first | rfl | (congr 1; omega), by first | rfl | (congr 1; omega), HE, ⟨by omega, by omega⟩, H0, HB.out⟩
            case measure => simp only [intOf]; omega
        · have E := hide (HSTOP.out 1 (by unfold chkP; rw [if_neg (by show ¬ ((2 : Int) ≠ 1 ∧ (2 : Int) ≠ 2 ∧ (2 : Int) ≠ 3); omega), if_neg (by show ¬ (n < 0 ∨ 20000 < n); omega), if_neg (by show ¬ ((2 : Int) = 3 ∧ n ≠ 0); omega), if_neg (by show ¬ 20000 < t.length; omega), if_pos ⟨by show (2 : Int) ≠ 3; decide, fun h => s2 (by have h2 : t = [] := h; rw [hsz, h2]; rfl)⟩]) (by decide))
          have s3 := isEmptyNo S (by omega)
          cases nb
          · clear HSTOP HON HT hTl
            go_wp2
            go_ret3
            rw [E.out.1, E.out.2.1, E.out.2.2]
            exact ⟨rfl, HB.out⟩
          · clear HSTOP HON HT hTl
            go_wp2
            go_ret3
            rw [E.out.1, E.out.2.1, E.out.2.2]
            exact ⟨rfl, HB.out⟩
      by_cases k3 : k = 3
      · subst k3
        by_cases n1 : n < 0
        · have E := hide (HSTOP.out 1 (by unfold chkP; rw [if_neg (by show ¬ ((3 : Int) ≠ 1 ∧ (3 : Int) ≠ 2 ∧ (3 : Int) ≠ 3); omega), if_pos (.inl n1)]) (by decide))
          clear HSTOP HON HT hTl
          go_wp2
          go_ret3
          rw [E.out.1, E.out.2.1, E.out.2.2]
          exact ⟨rfl, HB.out⟩
        by_cases n2 : n > 20000
        · have E := hide (HSTOP.out 1 (by unfold chkP; rw [if_neg (by show ¬ ((3 : Int) ≠ 1 ∧ (3 : Int) ≠ 2 ∧ (3 : Int) ≠ 3); omega), if_pos (.inr n2)]) (by decide))
          clear HSTOP HON HT hTl
          go_wp2
          go_ret3
          rw [E.out.1, E.out.2.1, E.out.2.2]
          exact ⟨rfl, HB.out⟩
        by_cases n3 : n ≠ 0
        · have E := hide (HSTOP.out 1 (by unfold chkP; rw [if_neg (by show ¬ ((3 : Int) ≠ 1 ∧ (3 : Int) ≠ 2 ∧ (3 : Int) ≠ 3); omega), if_neg (by show ¬ (n < 0 ∨ 20000 < n); omega), if_pos ⟨rfl, n3⟩]) (by decide))
          have n4 : (n == 0) = false := beq_false_of_ne n3
          have n5 : (n != 0) = true := by simp [n3]
          clear HSTOP HON HT hTl
          go_wp2
          go_ret3
          rw [E.out.1, E.out.2.1, E.out.2.2]
          exact ⟨rfl, HB.out⟩
        have n3 : n = 0 := Classical.byContradiction n3
        subst n3
        by_cases s1 : (S.size : Int) > 20000
        · have E := hide (HSTOP.out 2 (by unfold chkP; rw [if_neg (by show ¬ ((3 : Int) ≠ 1 ∧ (3 : Int) ≠ 2 ∧ (3 : Int) ≠ 3); omega), if_neg (by show ¬ ((0 : Int) < 0 ∨ (20000 : Int) < 0); omega), if_neg (by show ¬ ((3 : Int) = 3 ∧ (0 : Int) ≠ 0); omega), if_pos (by show 20000 < t.length; omega)]) (by decide))
          clear HSTOP HON HT hTl
          go_wp2
          go_ret3
          rw [E.out.1, E.out.2.1, E.out.2.2]
          exact ⟨rfl, HB.out⟩
        have H0 := hide (HON.out (by unfold chkP; rw [if_neg (by show ¬ ((3 : Int) ≠ 1 ∧ (3 : Int) ≠ 2 ∧ (3 : Int) ≠ 3); omega), if_neg (by show ¬ ((0 : Int) < 0 ∨ (20000 : Int) < 0); omega), if_neg (by show ¬ ((3 : Int) = 3 ∧ (0 : Int) ≠ 0); omega), if_neg (by show ¬ 20000 < t.length; omega), if_neg (by show ¬ ((3 : Int) ≠ 3 ∧ _); exact fun h => h.1 rfl)]))
        have HE : Hid (oo = ov (exL (L.take (j + 1))) ∧ mm + S.size = mk (exL (L.take (j + 1)))) := hide (by have := HT.out; rw [ex_put, ov_puts, mk_puts] at this; omega)
        have hss : S.size ≤ 20000 := by omega
        by_cases s2 : S.size = 0
        · have s3 := isEmptyYes S s2
          clear HSTOP HON HT hTl
          have HS2 := hide s2
          clear s2
          go_wp2
          go_roundw
          case rel => exact ⟨j + 1, oo, mm + S.size, by go_num, hlt, rfl, by first | rfl | (congr 1; omega), HE, ⟨by omega, by omega⟩, H0, HB.out⟩
          case measure => simp only [intOf]; omega
        · have s3 := isEmptyNo S (by omega)
          clear HSTOP HON HT hTl s2
          go_wp2
          go_roundw
          case rel => exact ⟨j + 1, oo, mm + S.size, by go_num, hlt, rfl, by first | rfl | (congr 1; omega), HE, ⟨by omega, by omega⟩, H0, HB.out⟩
          case measure => simp only [intOf]; omega
      have j1 : (k == 1) = false := beq_false_of_ne k1
      have j2 : (k == 2) = false := beq_false_of_ne k2
      have j3 : (k == 3) = false := beq_false_of_ne k3
      have l1 : (k != 1) = true := by simp [k1]
      have l2 : (k != 2) = true := by simp [k2]
      have l3 : (k != 3) = true := by simp [k3]
      have E := hide (HSTOP.out 10 (by unfold chkP; rw [if_pos ⟨k1, k2, k3⟩]) (by decide))
      clear HSTOP HON HT hTl
      go_wp2
      go_ret3
      rw [E.out.1, E.out.2.1, E.out.2.2]
      exact ⟨rfl, HB.out⟩
    · have hjl : j = L.length := by omega
      have h0 : chkL L = 0 := by rw [← HA.out, hjl]; exact nil_at
      have HF : Hid (oo = ov (exL L) ∧ mm = mk (exL L)) := hide (by have := HS.out; rw [hjl, List.take_length] at this; exact this)
      have HE : Hid (chk L = if 20000 < oo ∨ 20000 < mm then 2 else 0) := hide (by unfold chk; rw [if_neg (by omega), if_neg (fun h => h h0), ← HF.out.1, ← HF.out.2])
      have i1 : ¬ (j : Int) < (L.length : Int) := by omega
      clear HS hjl h0 HA
      by_cases t1 : (oo : Int) > 20000
      · have E : Hid (chk L = 2 ∧ szO L = 0 ∧ szM L = 0) := hide (by
          have h2 : chk L = 2 := by rw [HE.out, if_pos (.inl (by omega))]
          exact ⟨h2, if_neg (by rw [h2]; decide), if_neg (by rw [h2]; decide)⟩)
        go_wp2
        go_ret3
        rw [E.out.1, E.out.2.1, E.out.2.2]
        exact ⟨rfl, hbw⟩
      by_cases t2 : (mm : Int) > 20000
      · have E : Hid (chk L = 2 ∧ szO L = 0 ∧ szM L = 0) := hide (by
          have h2 : chk L = 2 := by rw [HE.out, if_pos (.inr (by omega))]
          exact ⟨h2, if_neg (by rw [h2]; decide), if_neg (by rw [h2]; decide)⟩)
        go_wp2
        go_ret3
        rw [E.out.1, E.out.2.1, E.out.2.2]
        exact ⟨rfl, hbw⟩
      · have E : Hid (chk L = 0 ∧ szO L = oo ∧ szM L = mm) := hide (by
          have h2 : chk L = 0 := by rw [HE.out, if_neg (by omega)]
          exact ⟨h2, by rw [HF.out.1]; exact if_pos h2, by rw [HF.out.2]; exact if_pos h2⟩)
        go_wp2
        go_ret3
        rw [E.out.1, E.out.2.1, E.out.2.2]
        exact ⟨rfl, hbw⟩
end Go.Proofs.Yteajpkoghlbneaa.spls
