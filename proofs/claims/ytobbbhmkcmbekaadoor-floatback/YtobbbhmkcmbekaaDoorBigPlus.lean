/- The walks of the document's answer: Plus, Against. -/
import Derived.Test.YtobbbhmkcmbekaaDoorBigCut
set_option linter.unusedVariables false
namespace Go.Proofs.YtobbbhmkcmbekaaDoor.bigs
open Go.RowKit

theorem val_take_next (l : List Nat) (k : Nat) : val (l.take (k + 1)) = val (l.take k) + 10000 ^ k * l.getD k 0 := by
  by_cases h : k < l.length
  · exact val_take_succ l k h
  · have e : l.getD k 0 = 0 := by rw [List.getD, List.getElem?_eq_none (by omega)]; rfl
    rw [e, List.take_of_length_le (by omega), List.take_of_length_le (by omega)]
    omega
/-- A round of the sum. -/
theorem plus_round {l a b : List Nat} {i c : Nat} (hi : l.length = i) (h : val l + 10000 ^ i * c = val (a.take i) + val (b.take i)) :
    val (l ++ [(c + (a.getD i 0 + b.getD i 0)) % 10000]) + 10000 ^ (i + 1) * ((c + (a.getD i 0 + b.getD i 0)) / 10000) = val (a.take (i + 1)) + val (b.take (i + 1)) := by
  rw [val_append, val_one, hi, val_take_next, val_take_next]
  generalize a.getD i 0 = x
  generalize b.getD i 0 = y
  have e : 10000 ^ (i + 1) * ((c + (x + y)) / 10000) = 10000 ^ i * (10000 * ((c + (x + y)) / 10000)) := by rw [Nat.pow_succ, Nat.mul_assoc]
  have e2 : 10000 ^ i * ((c + (x + y)) % 10000) + 10000 ^ i * (10000 * ((c + (x + y)) / 10000)) = 10000 ^ i * c + (10000 ^ i * x + 10000 ^ i * y) := by
    rw [← Nat.mul_add, Nat.mod_add_div, Nat.mul_add, Nat.mul_add]
  omega

set_option maxHeartbeats 4000000 in
set_option maxRecDepth 100000 in
theorem plus_any (w : World) (va vb : Value) (m n : Nat) (hm : (dig m).length ≤ 1048576) (hn : (dig n).length ≤ 1048576) (ha : Lies w va m) (hb : Lies w vb n) :
    Calls Tryd.prog 31 #[va, vb] w fun e w' => ∃ v, e = .returned v ∧ Lies w' v (m + n) ∧ Fresh w.heap.size v ∧ Below w.heap.size w w' := by
  obtain ⟨i0, hi, hz0, hz1, hz2⟩ := info_parts infoInt
  obtain ⟨aa, ca, rfl, hca, ra⟩ := ha
  obtain ⟨ab, cb, rfl, hcb, rb⟩ := hb
  have sa := small_dig m
  have sb := small_dig n
  have hv : Hid (val (dig m) + val (dig n) = m + n) := by show _ = _; rw [val_dig, val_dig]
  generalize dig m = A at *
  generalize dig n = B at *
  go_enter Tryd.func31, Tryd.ntmps31
  go_wp2
  go_loopw [5, 6, 7] (fun v c i wr => ∃ (k q : Nat) (l : List Nat), i = .int .i64 k ∧ c = .int .i64 q ∧ l.length = k ∧ q ≤ 1 ∧ (k ≤ max A.length B.length ∨ q = 0) ∧ k ≤ max A.length B.length + 1 ∧ Hid (Small10 l) ∧
    Hid (val l + 10000 ^ k * q = val (A.take k) + val (B.take k)) ∧ wr.ownsRow w.heap.size 3 1 v k (l.map num) ∧ Below w.heap.size w wr) (fun _ _ i _ => max A.length B.length + 1 - (intOf i).toNat)
  case atStart => exact ⟨0, 0, [], rfl, rfl, rfl, by omega, by omega, by omega, small_nil, by show _ = _; simp [val], World.ownsRow_nil _ _ _ _, Below.refl _ _⟩
  case round =>
    obtain ⟨k, q, l, rfl, rfl, hlk, hq, hkq, hkM, hsm, hval, hown, hbw⟩ := hrel
    by_cases hgo : k < A.length ∨ k < B.length ∨ 0 < q
    · have xa := small_getD sa k
      have xb := small_getD sb k
      have ea : A.length ≤ k → A.getD k 0 = 0 := fun h => by rw [List.getD, List.getElem?_eq_none h]; rfl
      have eb : B.length ≤ k → B.getD k 0 = 0 := fun h => by rw [List.getD, List.getElem?_eq_none h]; rfl
      have hval2 : Hid (val (l ++ [(q + (A.getD k 0 + B.getD k 0)) % 10000]) + 10000 ^ (k + 1) * ((q + (A.getD k 0 + B.getD k 0)) / 10000) = val (A.take (k + 1)) + val (B.take (k + 1))) := plus_round hlk hval.out
      have hsm2 : Hid (Small10 (l ++ [(q + (A.getD k 0 + B.getD k 0)) % 10000])) := small_append.2 ⟨hsm.out, small_cons.2 ⟨by omega, small_nil⟩⟩
      have C1 : ∀ w', Below w.heap.size w w' → Hid _ := fun w' h => hide (at_any w' aa A ca k (by omega) (ra.below h))
      have C2 : ∀ w', Below w.heap.size w w' → Hid _ := fun w' h => hide (at_any w' ab B cb k (by omega) (rb.below h))
      have hk2 : k + 1 ≤ max A.length B.length ∨ (q + (A.getD k 0 + B.getD k 0)) / 10000 = 0 := by
        by_cases h : k + 1 ≤ max A.length B.length
        · exact .inl h
        · have := ea (by omega)
          have := eb (by omega)
          right
          omega
      clear hval hsm ea eb
      generalize A.getD k 0 = x at *
      generalize B.getD k 0 = y at *
      have hgo' : k < A.length ∨ (¬ k < A.length ∧ k < B.length) ∨ (¬ k < A.length ∧ ¬ k < B.length ∧ 0 < q) := by omega
      clear hgo
      rcases hgo' with h1 | ⟨h1, h2⟩ | ⟨h1, h2, h3⟩
      all_goals
        go_wp2_with fail
        refine (unhide (C1 wr hbw)).mono ?_
        rintro e w1 ⟨rfl, rfl⟩
        go_wp2_with fail
        refine (unhide (C2 _ hbw)).mono ?_
        rintro e w2 ⟨rfl, rfl⟩
        go_wp2_with (at_builtin; refine wpList_append_own _ rfl _ _ 51 rfl w.heap.size 3 i0 (.int .i64 0) 1 8 Tryd.underlying51 hi hz0 hz1 hz2 rfl (by decide) _ _ _ rfl (hown.alloc _) ⟨w2.heap.size, 0, none⟩ 1 1 [.int .i64 (((q + (x + y)) % 10000 : Nat) : Int)] rfl rfl ?c1 ?c2 ?c3 ?c4 ?c5 ?_)
        case c1 => exact cell_one_new _ _ _
        case c2 => intro u hu; simp at hu; subst hu; rfl
        case c3 => unfold maxLen; omega
        case c4 => omega
        case c5 => have := hbw.size; simp; omega
        intro v' w3 hown' hgrow _
        have hbw2 : Below w.heap.size w w3 := (hbw.alloc hbw.size _).grown hgrow (by have := hbw.size; simp; omega) (own_ge hown)
        clear hgrow hown
        go_wp2
        go_roundw
        case rel =>
          refine ⟨k + 1, (q + (x + y)) / 10000, l ++ [(q + (x + y)) % 10000], by go_num, by go_num, by simp [hlk], by omega, hk2, by omega, hsm2, hval2, ?_, hbw2⟩
          simpa [num] using hown'
        case measure => simp only [intOf]; omega
    · have h1 : ¬ k < A.length := by omega
      have h2 : ¬ k < B.length := by omega
      have h3 : q = 0 := by omega
      subst h3
      have e : val l = m + n := by
        have := hval.out
        rw [List.take_of_length_le (by omega), List.take_of_length_le (by omega), hv.out] at this
        omega
      subst hlk
      have hfr := hide (own_ge hown)
      obtain ⟨a, cap, rfl, hc, hr⟩ := row_own hown
      have C1 := hide (cut_any wr a l cap (by omega) hc hr hsm.out)
      rw [e] at C1
      clear hval hown hr hsm e
      go_wp2_with fail
      refine (unhide C1).mono ?_
      rintro e w1 ⟨v, rfl, hL, hob, rfl⟩
      have HO := hide hob
      clear hob
      go_wp2
      go_ret
      exact ⟨_, rfl, hL, fun g hg => unhide hfr g (by rw [← unhide HO]; exact hg), hbw⟩

/-- The order of two numbers by their digits. -/
def sgn (m n : Nat) : Int := if m < n then -1 else if n < m then 1 else 0
theorem drop_val (l : List Nat) (k : Nat) : val (l.drop k) = l.getD k 0 + 10000 * val (l.drop (k + 1)) := by
  by_cases h : k < l.length
  · rw [List.drop_eq_getElem_cons h, val]
    simp [List.getD, List.getElem?_eq_getElem h]
  · have e : l.getD k 0 = 0 := by rw [List.getD, List.getElem?_eq_none (by omega)]; rfl
    rw [e, List.drop_of_length_le (by omega), List.drop_of_length_le (by omega)]
    rfl
theorem small_take {l : List Nat} (h : Small10 l) (k : Nat) : Small10 (l.take k) := by
  rw [← List.take_append_drop k l, small_append] at h
  exact h.1
theorem small_drop {l : List Nat} (h : Small10 l) (k : Nat) : Small10 (l.drop k) := by
  rw [← List.take_append_drop k l, small_append] at h
  exact h.2
theorem split_val (l : List Nat) (k : Nat) (hs : Small10 l) : ∃ t, val l = t + 10000 ^ k * val (l.drop k) ∧ t < 10000 ^ k := by
  refine ⟨val (l.take k), ?_, ?_⟩
  · by_cases h : k ≤ l.length
    · have := val_append (l.take k) (l.drop k)
      rw [List.take_append_drop, List.length_take, Nat.min_eq_left h] at this
      exact this
    · rw [List.drop_of_length_le (by omega), List.take_of_length_le (by omega)]
      simp [val]
  · have h1 := val_lt (small_take hs k)
    have h2 : 10000 ^ (l.take k).length ≤ 10000 ^ k := Nat.pow_le_pow_right (by omega) (List.length_take_le k l)
    omega
theorem less_of_drop {a b : List Nat} {k : Nat} (ha : Small10 a) (hb : Small10 b) (h : val (a.drop k) < val (b.drop k)) : val a < val b := by
  obtain ⟨t, e1, l1⟩ := split_val a k ha
  obtain ⟨u, e2, l2⟩ := split_val b k hb
  have : 10000 ^ k * (val (a.drop k) + 1) ≤ 10000 ^ k * val (b.drop k) := Nat.mul_le_mul_left _ h
  rw [Nat.mul_add, Nat.mul_one] at this
  omega
theorem sgn_lt {m n : Nat} (h : m < n) : sgn m n = -1 := by unfold sgn; rw [if_pos h]
theorem sgn_gt {m n : Nat} (h : n < m) : sgn m n = 1 := by unfold sgn; rw [if_neg (by omega), if_pos h]
theorem sgn_eq {m n : Nat} (h : m = n) : sgn m n = 0 := by subst h; unfold sgn; rw [if_neg (by omega), if_neg (by omega)]

set_option maxHeartbeats 4000000 in
set_option maxRecDepth 100000 in
theorem against_any (w : World) (va vb : Value) (m n : Nat) (hm : (dig m).length ≤ 1048576) (hn : (dig n).length ≤ 1048576) (ha : Lies w va m) (hb : Lies w vb n) :
    Calls Tryd.prog 28 #[va, vb] w fun e w' => e = .returned (.int .i64 (sgn m n)) ∧ w' = w := by
  obtain ⟨aa, ca, rfl, hca, ra⟩ := ha
  obtain ⟨ab, cb, rfl, hcb, rb⟩ := hb
  have sa := small_dig m
  have sb := small_dig n
  have va := val_dig m
  have vb := val_dig n
  have HE : Hid (val (dig m) = m ∧ val (dig n) = n) := ⟨va, vb⟩
  clear va vb
  generalize dig m = A at *
  generalize dig n = B at *
  have C1 : ∀ k, Hid _ := fun k => hide (at_any w aa A ca k (by omega) ra)
  have C2 : ∀ k, Hid _ := fun k => hide (at_any w ab B cb k (by omega) rb)
  go_enter Tryd.func28, Tryd.ntmps28
  go_wp2
  all_goals
    go_loopw [5] (fun i wr => ∃ k : Nat, i = .int .i64 ((k : Int) - 1) ∧ k ≤ 1048576 ∧ Hid (val (A.drop k) = val (B.drop k)) ∧ wr = w) (fun i _ => (intOf i + 1).toNat)
    case atStart =>
      refine ⟨max A.length B.length, ?_, by omega, ?_, rfl⟩
      · congr 1
        omega
      · show _ = _
        rw [List.drop_of_length_le (by omega), List.drop_of_length_le (by omega)]
    case round =>
      obtain ⟨k, rfl, hk, hd, rfl⟩ := hrel
      cases k with
      | zero =>
        have e : sgn m n = 0 := by
          apply sgn_eq
          have := hd.out
          rw [List.drop_zero, List.drop_zero, HE.out.1, HE.out.2] at this
          exact this
        have E := hide e
        clear e
        clear hd
        go_wp2
        go_ret
        rw [unhide E]
        exact ⟨rfl, rfl⟩
      | succ j =>
        have e0 : ((j + 1 : Nat) : Int) - 1 = (j : Int) := by omega
        rw [e0]
        have D1 := drop_val A j
        have D2 := drop_val B j
        rw [hd.out] at D1
        have K1 := C1 j
        have K2 := C2 j
        rcases Nat.lt_trichotomy (A.getD j 0) (B.getD j 0) with h | h | h
        · have e : sgn m n = -1 := by
            apply sgn_lt
            rw [← HE.out.1, ← HE.out.2]
            exact less_of_drop (k := j) sa sb (by omega)
          have E := hide e
          clear e
          clear D1 D2 hd C1 C2
          generalize A.getD j 0 = x at *
          generalize B.getD j 0 = y at *
          go_wp2_with fail
          refine (unhide K1).mono ?_
          rintro e w1 ⟨rfl, rfl⟩
          go_wp2_with fail
          refine (unhide K2).mono ?_
          rintro e w1 ⟨rfl, rfl⟩
          go_wp2
          go_ret
          rw [unhide E]
          exact ⟨rfl, rfl⟩
        · have hd2 : Hid (val (A.drop j) = val (B.drop j)) := by show _ = _; rw [D1, D2, h]
          rw [h] at K1
          clear D1 D2 hd C1 C2 h
          generalize B.getD j 0 = y at *
          go_wp2_with fail
          refine (unhide K1).mono ?_
          rintro e w1 ⟨rfl, rfl⟩
          go_wp2_with fail
          refine (unhide K2).mono ?_
          rintro e w1 ⟨rfl, rfl⟩
          go_wp2_with fail
          refine (unhide K1).mono ?_
          rintro e w1 ⟨rfl, rfl⟩
          go_wp2_with fail
          refine (unhide K2).mono ?_
          rintro e w1 ⟨rfl, rfl⟩
          go_wp2
          go_roundw
          case rel => exact ⟨j, rfl, by omega, hd2, by trivial⟩
          case measure => simp only [intOf]; omega
        · have e : sgn m n = 1 := by
            apply sgn_gt
            rw [← HE.out.1, ← HE.out.2]
            exact less_of_drop (k := j) sb sa (by omega)
          have E := hide e
          clear e
          clear D1 D2 hd C1 C2
          generalize A.getD j 0 = x at *
          generalize B.getD j 0 = y at *
          go_wp2_with fail
          refine (unhide K1).mono ?_
          rintro e w1 ⟨rfl, rfl⟩
          go_wp2_with fail
          refine (unhide K2).mono ?_
          rintro e w1 ⟨rfl, rfl⟩
          go_wp2_with fail
          refine (unhide K1).mono ?_
          rintro e w1 ⟨rfl, rfl⟩
          go_wp2_with fail
          refine (unhide K2).mono ?_
          rintro e w1 ⟨rfl, rfl⟩
          go_wp2
          go_ret
          rw [unhide E]
          exact ⟨rfl, rfl⟩
end Go.Proofs.YtobbbhmkcmbekaaDoor.bigs
