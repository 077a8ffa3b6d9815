/- The law NumUnder. -/
import Derived.Test.YtjlbbmpefjkamaaDoorNumUnderW
set_option linter.unusedVariables false
namespace Go.Proofs.YtjlbbmpefjkamaaDoor.bigs
open Go.RowKit

set_option maxHeartbeats 8000000 in
set_option maxRecDepth 100000 in
theorem under_bad (w : World) (s : ByteArray) (a n e : Int) (h1 : (e == 0) = false) (h2 : ¬ e = 0)
    (KN : Hid (Calls Tryd.prog 12 #[] w fun e w' => e = .returned (.bool true) ∧ w' = w)) (K1 : Hid (Calls Tryd.prog 7 #[.string s] w fun x w' => x = .returned (.tuple #[.int .i64 n, .int .i64 e]) ∧ w' = w)) :
    Calls Tryd.prog 5 #[.string s, .int .i64 a] w fun e w' => e = .returned (.bool true) ∧ Below w.heap.size w w' := by
  go_enter Tryd.func5, Tryd.ntmps5
  go_wp2_with fail
  refine (unhide KN).mono ?_
  rintro _ w1 ⟨rfl, rfl⟩
  go_wp2_with fail
  refine (unhide K1).mono ?_
  rintro _ w2 ⟨rfl, rfl⟩
  clear KN K1
  go_wp2
  go_ret
  exact ⟨rfl, Below.refl _ _⟩
set_option maxHeartbeats 8000000 in
set_option maxRecDepth 100000 in
theorem under_low (w : World) (s : ByteArray) (a n : Int) (h1 : a < 1)
    (KN : Hid (Calls Tryd.prog 12 #[] w fun e w' => e = .returned (.bool true) ∧ w' = w)) (K1 : Hid (Calls Tryd.prog 7 #[.string s] w fun x w' => x = .returned (.tuple #[.int .i64 n, .int .i64 0]) ∧ w' = w)) :
    Calls Tryd.prog 5 #[.string s, .int .i64 a] w fun e w' => e = .returned (.bool true) ∧ Below w.heap.size w w' := by
  go_enter Tryd.func5, Tryd.ntmps5
  go_wp2_with fail
  refine (unhide KN).mono ?_
  rintro _ w1 ⟨rfl, rfl⟩
  go_wp2_with fail
  refine (unhide K1).mono ?_
  rintro _ w2 ⟨rfl, rfl⟩
  clear KN K1
  go_wp2
  go_ret
  exact ⟨rfl, Below.refl _ _⟩
set_option maxHeartbeats 8000000 in
set_option maxRecDepth 100000 in
theorem under_high (w : World) (s : ByteArray) (a n : Int) (h1 : ¬ a < 1) (h2 : a ≥ (s.size : Int))
    (KN : Hid (Calls Tryd.prog 12 #[] w fun e w' => e = .returned (.bool true) ∧ w' = w)) (K1 : Hid (Calls Tryd.prog 7 #[.string s] w fun x w' => x = .returned (.tuple #[.int .i64 n, .int .i64 0]) ∧ w' = w)) :
    Calls Tryd.prog 5 #[.string s, .int .i64 a] w fun e w' => e = .returned (.bool true) ∧ Below w.heap.size w w' := by
  go_enter Tryd.func5, Tryd.ntmps5
  go_wp2_with fail
  refine (unhide KN).mono ?_
  rintro _ w1 ⟨rfl, rfl⟩
  go_wp2_with fail
  refine (unhide K1).mono ?_
  rintro _ w2 ⟨rfl, rfl⟩
  clear KN K1
  go_wp2
  go_ret
  exact ⟨rfl, Below.refl _ _⟩
set_option maxHeartbeats 8000000 in
set_option maxRecDepth 100000 in
theorem under_long (w : World) (s : ByteArray) (a n : Int) (h1 : ¬ a < 1) (h2 : ¬ a ≥ (s.size : Int)) (h3 : (s.size : Int) ≥ 80)
    (KN : Hid (Calls Tryd.prog 12 #[] w fun e w' => e = .returned (.bool true) ∧ w' = w)) (K1 : Hid (Calls Tryd.prog 7 #[.string s] w fun x w' => x = .returned (.tuple #[.int .i64 n, .int .i64 0]) ∧ w' = w)) :
    Calls Tryd.prog 5 #[.string s, .int .i64 a] w fun e w' => e = .returned (.bool true) ∧ Below w.heap.size w w' := by
  go_enter Tryd.func5, Tryd.ntmps5
  go_wp2_with fail
  refine (unhide KN).mono ?_
  rintro _ w1 ⟨rfl, rfl⟩
  go_wp2_with fail
  refine (unhide K1).mono ?_
  rintro _ w2 ⟨rfl, rfl⟩
  clear KN K1
  go_wp2
  go_ret
  exact ⟨rfl, Below.refl _ _⟩
theorem get_list (s : ByteArray) (i : Nat) (h : i < s.size) : s.data.toList[i]'(by rw [nlen]; exact h) = s[i]'h := rfl
theorem get_eq (s : ByteArray) (i : Nat) (h : i < s.size) (c : UInt8) (e : s.data.toList[i]? = some c) : s[i]'h = c := by
  rw [List.getElem?_eq_getElem (by rw [nlen]; exact h)] at e
  exact Option.some.inj e
/-- Where the digits begin. -/
def fromL (l : List UInt8) : Nat := l.length - (baseCut (signCut l).2).2.length
theorem ext_list (s : ByteArray) (a b : Nat) : (s.extract a b).data.toList = (s.data.toList.take b).drop a := by
  rw [ByteArray.data_extract, Array.toList_extract]
  simp [List.extract, List.drop_take]
theorem base_none {y : UInt8} {r : List UInt8} (q : ¬ (y = 120 ∨ y = 111 ∨ y = 98)) : baseCut (48 :: y :: r) = (10, 48 :: y :: r) :=
  baseCut_none (fun r' e => q (.inr (.inr (by injection e with _ e; injection e)))) (fun r' e => q (.inr (.inl (by injection e with _ e; injection e)))) (fun r' e => q (.inl (by injection e with _ e; injection e)))
theorem ins_bytes (s : ByteArray) (m : Nat) : ((s.extract 0 m ++ ⟨#[95]⟩) ++ s.extract m s.size).data.toList = ins s.data.toList m := by
  rw [list_add, list_add]
  have e1 : (s.extract 0 m).data.toList = s.data.toList.take m := by rw [ext_list, List.drop_zero]
  have e2 : (s.extract m s.size).data.toList = s.data.toList.drop m := by rw [ext_list, List.take_of_length_le (by rw [nlen]; exact Nat.le_refl _)]
  rw [e1, e2]
  unfold ins
  rw [List.append_assoc]
  rfl
theorem index_yes (c : UInt8) (h : c = 120 ∨ c = 111 ∨ c = 98) : Lib.indexByte [120, 111, 98] c ≥ 0 := by
  rcases h with rfl | rfl | rfl <;> decide
set_option maxHeartbeats 8000000 in
theorem lawUnder (w : World) (s : ByteArray) (a : Int) :
    Calls Tryd.prog 5 #[.string s, .int .i64 a] w fun e w' => e = .returned (.bool true) ∧ Below w.heap.size w w' := by
  have KN := hide (nums_any w)
  have k1 := readN_any w s
  have hl := nlen s
  rcases res_kinds s.data.toList with h | ⟨g1, g2⟩
  · rw [h] at k1
    obtain ⟨n, hn⟩ : ∃ n, n = (numRes s.data.toList).1 := ⟨_, rfl⟩
    rw [← hn] at k1
    by_cases c1 : a < 1
    · exact under_low w s a n c1 KN (hide k1)
    · by_cases c2 : a ≥ (s.size : Int)
      · exact under_high w s a n c1 c2 KN (hide k1)
      · by_cases c3 : (s.size : Int) ≥ 80
        · exact under_long w s a n c1 c2 c3 KN (hide k1)
        · obtain ⟨m, rfl⟩ : ∃ m : Nat, a = (m : Int) := ⟨a.toNat, by omega⟩
          obtain ⟨j, hm⟩ : ∃ j, m = j + 1 := ⟨m - 1, by omega⟩
          have h0 : 0 < s.size := by omega
          have hj : j < s.size := by omega
          have hms : m < s.size := by omega
          have h80 : s.size < 80 := by omega
          have j4 : IntKind.i64.wrap ((m : Int) - 1) = (j : Int) := by simp [IntKind.wrap, IntKind.bits, IntKind.signed]; omega
          obtain ⟨good1, good2, good3, good4⟩ := res_good h
          -- the last part of each way
          have last : ∀ F : Nat, s.size = F + (baseCut (signCut s.data.toList).2).2.length → F < m →
              (((((s[j]'hj).toNat < 256 ∧ ¬ isHex (s[j]'hj).toNat) ∨ (isHex (s[j]'hj).toNat ∧ ¬ isHex (s[m]'hms).toNat)) ∨ (isHex (s[j]'hj).toNat ∧ isHex (s[m]'hms).toNat ∧ numRes (ins s.data.toList m) = numRes s.data.toList))) := by
            intro F hF hlt
            have u := UInt8.toNat_lt (s[j]'hj)
            by_cases d1 : isHex (s[j]'hj).toNat
            · by_cases d2 : isHex (s[m]'hms).toNat
              · right
                refine ⟨d1, d2, ?_⟩
                have e1 : m = F + ((m - F - 1) + 1) := by omega
                have e2 : j = F + (m - F - 1) := by omega
                have n1 : (s[j]'hj) ≠ 95 := by
                  intro e; rw [e] at d1; exact absurd d1 (by unfold isHex; decide)
                have n2 : (s[m]'hms) ≠ 95 := by
                  intro e; rw [e] at d2; exact absurd d2 (by unfold isHex; decide)
                have U := under_law (l := s.data.toList) (p := F) (j := m - F - 1) h (by omega) (by omega) (by omega) (by
                  have : s.data.toList[F + (m - F - 1)]? = s.data.toList[j]? := by rw [← e2]
                  rw [List.getElem?_eq_getElem (by omega), List.getElem?_eq_getElem (by omega)] at this
                  rw [Option.some.inj this]; exact n1) (by
                  have : s.data.toList[F + (m - F - 1 + 1)]? = s.data.toList[m]? := by rw [← e1]
                  rw [List.getElem?_eq_getElem (by omega), List.getElem?_eq_getElem (by omega)] at this
                  rw [Option.some.inj this]; exact n2)
                rwa [← e1] at U
              · exact .inl (.inr ⟨d1, d2⟩)
            · exact .inl (.inl ⟨u, d1⟩)
          have ta : ∀ (b1 : isHex (s[j]'hj).toNat), Hid (Calls Tryd.prog 13 #[.int .u8 ((s[j]'hj).toNat : Int)] w fun e w' => e = .returned (.bool true) ∧ w' = w) := fun b1 => hide (digC_yes w _ b1)
          have tb : ∀ (b1 : isHex (s[m]'hms).toNat), Hid (Calls Tryd.prog 13 #[.int .u8 ((s[m]'hms).toNat : Int)] w fun e w' => e = .returned (.bool true) ∧ w' = w) := fun b1 => hide (digC_yes w _ b1)
          have tc : ∀ (b0 : (s[j]'hj).toNat < 256) (b1 : ¬ isHex (s[j]'hj).toNat), Hid (Calls Tryd.prog 13 #[.int .u8 ((s[j]'hj).toNat : Int)] w fun e w' => e = .returned (.bool false) ∧ w' = w) := fun b0 b1 => hide (digC_no w _ b0 b1)
          have td : ∀ (b1 : ¬ isHex (s[m]'hms).toNat), Hid (Calls Tryd.prog 13 #[.int .u8 ((s[m]'hms).toNat : Int)] w fun e w' => e = .returned (.bool false) ∧ w' = w) := fun b1 => hide (digC_no w _ (UInt8.toNat_lt _) b1)
          have sz95 : (⟨#[95]⟩ : ByteArray).size = 1 := rfl
          have hadd1 : ∀ u : World, (Op.stringOp .add (s.extract 0 m) ⟨#[95]⟩).run Tryd.prog u = .ok (.string (s.extract 0 m ++ ⟨#[95]⟩)) u := fun u => run_string_add_sum _ _ _ (by rw [ByteArray.size_extract]; omega)
          have hadd2 : ∀ u : World, (Op.stringOp .add (s.extract 0 m ++ ⟨#[95]⟩) (s.extract m s.size)).run Tryd.prog u = .ok (.string ((s.extract 0 m ++ ⟨#[95]⟩) ++ s.extract m s.size)) u := fun u => run_string_add_sum _ _ _ (by rw [ByteArray.size_append, ByteArray.size_extract, ByteArray.size_extract]; omega)
          have K2 : numRes (ins s.data.toList m) = numRes s.data.toList → ∀ u : World, Hid (Calls Tryd.prog 7 #[.string ((s.extract 0 m ++ ⟨#[95]⟩) ++ s.extract m s.size)] u fun e w' => e = .returned (.tuple #[.int .i64 n, .int .i64 0]) ∧ w' = u) := fun e u => hide (by
            have k := readN_any u ((s.extract 0 m ++ ⟨#[95]⟩) ++ s.extract m s.size)
            rw [ins_bytes, e, h, ← hn] at k
            exact k)
          have q0 : (0 : Int) ≤ (m : Int) := by omega
          have q1 : (m : Int) ≤ (s.size : Int) := by omega
          have i64lt : ∀ (x : UInt8) (k : Nat), k < 256 → ((((x.toNat : Nat) : Int) == (k : Int)) = true ↔ x = UInt8.ofNat k) := fun x k hk => by
            rw [u8_eq x k hk, beq_iff_eq]; omega
          by_cases sg : (s[0]'h0) = 45
          · -- a sign
            have i1 : (((s[0]'h0).toNat : Int) == 45) = true := (i64lt _ 45 (by decide)).2 sg
            obtain ⟨t, ht⟩ : ∃ t, s.data.toList = 45 :: t := ⟨s.data.toList.drop 1, by
              have := ndrop s 0 h0
              rw [List.drop_zero, sg] at this
              exact this⟩
            have es : signCut s.data.toList = (true, t) := by rw [ht, signCut, if_pos rfl]
            have htl : s.size = t.length + 1 := by rw [← hl, ht]; rfl
            rw [es] at last good2
            simp only at last good2
            by_cases p1 : s.size ≤ 2
            · exact under_1ale w s n m j (hide hm) h0 hj hms h80 c1 c2 c3 j4 KN (hide k1) i1 (by omega) (by omega) (by omega)
            · have h1 : 1 < s.size := by omega
              have h2 : 2 < s.size := by omega
              obtain ⟨x, y, r, hr⟩ : ∃ x y r, t = x :: y :: r := by
                cases t with
                | nil => simp at htl; omega
                | cons x t => cases t with
                  | nil => simp at htl; omega
                  | cons y r => exact ⟨x, y, r, rfl⟩
              have hx : (s[1]'h1) = x := get_eq s 1 h1 x (by rw [ht, hr]; rfl)
              have hy : (s[2]'h2) = y := get_eq s 2 h2 y (by rw [ht, hr]; rfl)
              by_cases p2 : x = 48
              · have i3 : (((s[1]'h1).toNat : Int) == 48) = true := (i64lt _ 48 (by decide)).2 (by rw [hx, p2]; rfl)
                have p3 : y = 120 ∨ y = 111 ∨ y = 98 := by
                  rcases Classical.em (y = 120 ∨ y = 111 ∨ y = 98) with q | q
                  · exact q
                  · exfalso
                    have : baseCut t = (10, t) := by
                      rw [hr, p2]
                      exact base_none q
                    rw [this, hr, p2] at good2
                    simp [formedL] at good2
                have hF : s.size = 3 + (baseCut t).2.length := by
                  rw [htl, hr, p2]
                  rcases p3 with rfl | rfl | rfl <;> simp [baseCut] <;> omega
                have KX := hide (indexC w (s[2]'h2))
                have xp : Lib.indexByte [120, 111, 98] (s[2]'h2) ≥ 0 := by rw [hy]; exact index_yes y p3
                by_cases p4 : m ≤ 3
                · exact under_1dle w s n m j (hide hm) h0 hj hms h80 c1 c2 c3 j4 KN (hide k1) i1 (by omega) h1 i3 h2 _ xp KX (by omega)
                · rcases last 3 hF (by omega) with (⟨b0, b1⟩ | ⟨b1, b2⟩) | ⟨b1, b2, b3⟩
                  · exact under_1dn1 w s n m j (hide hm) h0 hj hms h80 c1 c2 c3 j4 KN (hide k1) i1 (by omega) h1 i3 h2 _ xp KX (by omega) (tc b0 b1)
                  · exact under_1dn2 w s n m j (hide hm) h0 hj hms h80 c1 c2 c3 j4 KN (hide k1) i1 (by omega) h1 i3 h2 _ xp KX (by omega) (ta b1) (td b2)
                  · exact under_1dok w s n m j (hide hm) h0 hj hms h80 c1 c2 c3 j4 KN (hide k1) i1 (by omega) h1 i3 h2 _ xp KX (by omega) (ta b1) (tb b2) _ _ hadd1 hadd2 q0 q1 (K2 b3)
              · have i3 : (((s[1]'h1).toNat : Int) == 48) = false := by
                  rcases hb : (((s[1]'h1).toNat : Int) == 48) with _ | _
                  · rfl
                  · exact absurd ((i64lt _ 48 (by decide)).1 hb) (by rw [hx]; exact p2)
                have hF : s.size = 1 + (baseCut t).2.length := by
                  rw [htl, hr]
                  simp only [baseCut]
                  rw [if_neg p2]
                  simp
                  omega
                by_cases p4 : m ≤ 1
                · exact under_1ble w s n m j (hide hm) h0 hj hms h80 c1 c2 c3 j4 KN (hide k1) i1 (by omega) h1 i3 (by omega)
                · rcases last 1 hF (by omega) with (⟨b0, b1⟩ | ⟨b1, b2⟩) | ⟨b1, b2, b3⟩
                  · exact under_1bn1 w s n m j (hide hm) h0 hj hms h80 c1 c2 c3 j4 KN (hide k1) i1 (by omega) h1 i3 (by omega) (tc b0 b1)
                  · exact under_1bn2 w s n m j (hide hm) h0 hj hms h80 c1 c2 c3 j4 KN (hide k1) i1 (by omega) h1 i3 (by omega) (ta b1) (td b2)
                  · exact under_1bok w s n m j (hide hm) h0 hj hms h80 c1 c2 c3 j4 KN (hide k1) i1 (by omega) h1 i3 (by omega) (ta b1) (tb b2) _ _ hadd1 hadd2 q0 q1 (K2 b3)
          · -- no sign
            have i1 : (((s[0]'h0).toNat : Int) == 45) = false := by
              rcases hb : (((s[0]'h0).toNat : Int) == 45) with _ | _
              · rfl
              · exact absurd ((i64lt _ 45 (by decide)).1 hb) sg
            have h2 : 1 < s.size := by omega
            obtain ⟨x, y, r, hr⟩ : ∃ x y r, s.data.toList = x :: y :: r := by
              cases ht : s.data.toList with
              | nil => rw [ht] at hl; simp at hl; omega
              | cons x t => cases t with
                | nil => rw [ht] at hl; simp at hl; omega
                | cons y r => exact ⟨x, y, r, rfl⟩
            have hx : (s[0]'h0) = x := get_eq s 0 h0 x (by rw [hr]; rfl)
            have hy : (s[1]'h2) = y := get_eq s 1 h2 y (by rw [hr]; rfl)
            have es : signCut s.data.toList = (false, s.data.toList) := by
              rw [hr, signCut, if_neg (by rw [← hx]; exact sg)]
            rw [es] at last good2
            simp only at last good2
            by_cases p2 : x = 48
            · have i3 : (((s[0]'h0).toNat : Int) == 48) = true := (i64lt _ 48 (by decide)).2 (by rw [hx, p2]; rfl)
              have p3 : y = 120 ∨ y = 111 ∨ y = 98 := by
                rcases Classical.em (y = 120 ∨ y = 111 ∨ y = 98) with q | q
                · exact q
                · exfalso
                  have : baseCut s.data.toList = (10, s.data.toList) := by
                    rw [hr, p2]
                    exact base_none q
                  rw [this, hr, p2] at good2
                  simp [formedL] at good2
              have hF : s.size = 2 + (baseCut s.data.toList).2.length := by
                rw [← hl, hr, p2]
                rcases p3 with rfl | rfl | rfl <;> simp [baseCut] <;> omega
              have KX := hide (indexC w (s[1]'h2))
              have xp : Lib.indexByte [120, 111, 98] (s[1]'h2) ≥ 0 := by rw [hy]; exact index_yes y p3
              by_cases p4 : m ≤ 2
              · exact under_0dle w s n m j (hide hm) h0 hj hms h80 c1 c2 c3 j4 KN (hide k1) i1 (by omega) h0 i3 h2 _ xp KX (by omega)
              · rcases last 2 hF (by omega) with (⟨b0, b1⟩ | ⟨b1, b2⟩) | ⟨b1, b2, b3⟩
                · exact under_0dn1 w s n m j (hide hm) h0 hj hms h80 c1 c2 c3 j4 KN (hide k1) i1 (by omega) h0 i3 h2 _ xp KX (by omega) (tc b0 b1)
                · exact under_0dn2 w s n m j (hide hm) h0 hj hms h80 c1 c2 c3 j4 KN (hide k1) i1 (by omega) h0 i3 h2 _ xp KX (by omega) (ta b1) (td b2)
                · exact under_0dok w s n m j (hide hm) h0 hj hms h80 c1 c2 c3 j4 KN (hide k1) i1 (by omega) h0 i3 h2 _ xp KX (by omega) (ta b1) (tb b2) _ _ hadd1 hadd2 q0 q1 (K2 b3)
            · have i3 : (((s[0]'h0).toNat : Int) == 48) = false := by
                rcases hb : (((s[0]'h0).toNat : Int) == 48) with _ | _
                · rfl
                · exact absurd ((i64lt _ 48 (by decide)).1 hb) (by rw [hx]; exact p2)
              have hF : s.size = 0 + (baseCut s.data.toList).2.length := by
                rw [Nat.zero_add, ← hl, hr]
                simp only [baseCut]
                rw [if_neg p2]
              rcases last 0 hF (by omega) with (⟨b0, b1⟩ | ⟨b1, b2⟩) | ⟨b1, b2, b3⟩
              · exact under_0bn1 w s n m j (hide hm) h0 hj hms h80 c1 c2 c3 j4 KN (hide k1) i1 (by omega) h0 i3 (by omega) (tc b0 b1)
              · exact under_0bn2 w s n m j (hide hm) h0 hj hms h80 c1 c2 c3 j4 KN (hide k1) i1 (by omega) h0 i3 (by omega) (ta b1) (td b2)
              · exact under_0bok w s n m j (hide hm) h0 hj hms h80 c1 c2 c3 j4 KN (hide k1) i1 (by omega) h0 i3 (by omega) (ta b1) (tb b2) _ _ hadd1 hadd2 q0 q1 (K2 b3)
  · rw [g1] at k1
    exact under_bad w s a 0 _ (beq_false_of_ne (by omega)) (by omega) KN (hide k1)
end Go.Proofs.YtjlbbmpefjkamaaDoor.bigs
