/- The walks of the document's answer: Minus. -/
import Derived.Test.YtobbbhmkcmbekaaDoorBigPlus
import Derived.Deep.QuietTactic
import Derived.BigQuiet
set_option linter.unusedVariables false
namespace Go.Proofs.YtobbbhmkcmbekaaDoor.bigs
open Go.RowKit

theorem made_zero (n : Nat) : (madeCells #[Value.int .i64 0] n).toList = (List.replicate n 0).map num := by
  rw [toList_madeCells_one]
  simp [num]
theorem small_zero (n : Nat) : Small10 (List.replicate n 0) := by
  intro j hj
  rw [List.length_replicate] at hj
  simp [List.getD, hj]
theorem take_set_next (l : List Nat) (k d : Nat) (h : k < l.length) : (l.set k d).take (k + 1) = l.take k ++ [d] := by
  rw [take_succ _ _ (by simpa using h), List.take_set_of_le (by omega)]
  simp [List.getD, h]
theorem small_set {l : List Nat} {k d : Nat} (hs : Small10 l) (hd : d < 10000) : Small10 (l.set k d) := by
  intro j hj
  rw [List.length_set] at hj
  by_cases e : k = j
  · subst e
    simp [List.getD, hj, hd]
  · rw [List.getD, List.getElem?_set_ne e]
    exact hs j hj
/-- A round of the difference: d is what is told, and p what is borrowed. -/
theorem minus_round {l a b : List Nat} {k q d p : Nat} (hk : k < l.length) (h : val (l.take k) + val (b.take k) = val (a.take k) + 10000 ^ k * q) (hd : d + b.getD k 0 + q = a.getD k 0 + 10000 * p) :
    val ((l.set k d).take (k + 1)) + val (b.take (k + 1)) = val (a.take (k + 1)) + 10000 ^ (k + 1) * p := by
  rw [take_set_next l k d hk, val_append, val_one, List.length_take, Nat.min_eq_left (by omega), val_take_next, val_take_next]
  generalize a.getD k 0 = x at *
  generalize b.getD k 0 = y at *
  have e : 10000 ^ (k + 1) * p = 10000 ^ k * (10000 * p) := by rw [Nat.pow_succ, Nat.mul_assoc]
  have e2 : 10000 ^ k * d + 10000 ^ k * y + 10000 ^ k * q = 10000 ^ k * x + 10000 ^ k * (10000 * p) := by
    rw [← Nat.mul_add, ← Nat.mul_add, ← Nat.mul_add, hd]
  omega
theorem dig_len_mono {m n : Nat} (h : m ≤ n) : (dig m).length ≤ (dig n).length := dig_length_le (Nat.lt_of_le_of_lt h (lt_pow_dig n))
theorem minus_end {l : List Nat} {m n q : Nat} (hnm : n ≤ m) (hl : l.length = (dig m).length) (hs : Small10 l) (h : val l + val ((dig n).take (dig m).length) = m + 10000 ^ (dig m).length * q) : val l = m - n := by
  have h1 := val_lt hs
  rw [hl] at h1
  rw [List.take_of_length_le (dig_len_mono hnm), val_dig] at h
  cases q with
  | zero => omega
  | succ q =>
    have : 10000 ^ (dig m).length * (q + 1) = 10000 ^ (dig m).length * q + 10000 ^ (dig m).length := by rw [Nat.mul_add, Nat.mul_one]
    omega

set_option maxHeartbeats 4000000 in
set_option maxRecDepth 100000 in
theorem minus_any (w : World) (va vb : Value) (m n : Nat) (hm : (dig m).length ≤ 1048576) (hnm : n ≤ m) (ha : Lies w va m) (hb : Lies w vb n) :
    Calls Tryd.prog 33 #[va, vb] w fun e w' => ∃ v, e = .returned v ∧ Lies w' v (m - n) ∧ Fresh w.heap.size v ∧ Below w.heap.size w w' := by
  obtain ⟨i0, hi, hz0, hz1, hz2⟩ := info_parts infoInt
  have hn := Nat.le_trans (dig_len_mono hnm) hm
  obtain ⟨aa, ca, rfl, hca, ra⟩ := ha
  obtain ⟨ab, cb, rfl, hcb, rb⟩ := hb
  have sa := small_dig m
  have sb := small_dig n
  have HE : Hid (∀ l q, l.length = (dig m).length → Small10 l → val l + val ((dig n).take (dig m).length) = val ((dig m).take (dig m).length) + 10000 ^ (dig m).length * q → val l = m - n) := fun l q h1 h2 h3 => by
    rw [List.take_length, val_dig] at h3
    exact minus_end hnm h1 h2 h3
  generalize dig m = A at *
  generalize dig n = B at *
  go_enter Tryd.func33, Tryd.ntmps33
  go_wp2_with (at_make; refine wpList_make_full _ rfl _ _ 51 rfl w.heap.size 3 i0 (.int .i64 0) 1 Tryd.underlying51 hi hz0 hz1 _ _ _ _ A.length rfl rfl (by omega) (by omega) ?b2 ?b3 ?b4 ?_)
  case b2 => rw [hz2]; omega
  case b3 => unfold maxLen; omega
  case b4 => exact Nat.le_refl _
  intro w1 hown1 hgrow1
  rw [made_zero] at hown1
  have hbw1 : Below w.heap.size w w1 := (Below.refl _ w).grown hgrow1 (Nat.le_refl _) (fun k h => by cases h)
  clear hgrow1
  go_wp2
  go_loopw [6, 14] (fun c i wr => ∃ (k q : Nat) (l : List Nat), i = .int .i64 k ∧ c = .int .i64 q ∧ k ≤ A.length ∧ q ≤ 1 ∧ l.length = A.length ∧ Hid (Small10 l) ∧ Hid (val (l.take k) + val (B.take k) = val (A.take k) + 10000 ^ k * q) ∧
    wr.ownsRow w.heap.size 3 1 (.slice (some ⟨w.heap.size, 0, none⟩) A.length A.length) A.length (l.map num) ∧ Below w.heap.size w wr) (fun _ i _ => A.length - (intOf i).toNat)
  case atStart => exact ⟨0, 0, List.replicate A.length 0, rfl, rfl, Nat.zero_le _, by omega, by simp, small_zero _, by show _ = _; simp [val], hown1, hbw1⟩
  case round =>
    obtain ⟨k, q, l, rfl, rfl, hk, hq, hll, hsm, hval, hown, hbw⟩ := hrel
    by_cases hlt : k < A.length
    · obtain ⟨b, o, rfl, hba, hca'⟩ := ra (by intro e; rw [e] at hlt; simp at hlt)
      have c1 : wr.cell? ⟨b, o + k, none⟩ = some (.int .i64 ((A.getD k 0 : Nat) : Int)) := by rw [hbw.cell (p := ⟨b, o + k, none⟩) hba]; exact hca' k hlt
      have c2 : wr.cell? ⟨w.heap.size, k, none⟩ = some (.int .i64 ((l.getD k 0 : Nat) : Int)) := by
        rw [hown.cellAt k (by omega)]
        simp [num, List.getD, hll, hlt]
      have f2 := hown.frozenAt k
      have xa := small_getD sa k
      have xb := small_getD sb k
      have C2 : ∀ n, Hid _ := fun n => hide (at_any (wr.drewN n) ab B cb k (by omega) (rb.below (below_drewN hbw n)))
      have HR : Hid (∀ d p, d + B.getD k 0 + q = A.getD k 0 + 10000 * p → val ((l.set k d).take (k + 1)) + val (B.take (k + 1)) = val (A.take (k + 1)) + 10000 ^ (k + 1) * p) := fun d p h => minus_round (by omega) hval.out h
      have HS : Hid (∀ d, d < 10000 → Small10 (l.set k d)) := fun d h => small_set hsm.out h
      have i1 : (k : Int) < (A.length : Int) := by omega
      clear hca' hval hsm
      generalize A.getD k 0 = x at *
      generalize B.getD k 0 = y at *
      by_cases hxy : y + q ≤ x
      · have t1 : decide (((x : Int) - y - q) < 0) = false := decide_eq_false (by omega)
        go_wp2_with fail
        go_quiet ((go_at_call 62; exact Calls.quiet_of_same (unhide (C2 _))))
        go_wp2
        go_roundw
        case rel =>
          have ed : ((x : Int) - y - q : Int) = ((x - y - q : Nat) : Int) := by omega
          have hown2 : (wr.drewN nq).ownsRow w.heap.size 3 1 (.slice (some ⟨w.heap.size, 0, none⟩) A.length A.length) A.length (l.map num) := hown
          have hst := hown2.stored k (num (x - y - q))
          refine ⟨k + 1, 0, l.set k (x - y - q), by go_num, rfl, by omega, by omega, by simp [hll], HS.out _ (by omega), HR.out _ _ (by omega), ?_, ?_⟩
          · rw [ed, List.map_set]
            exact hst.1
          · exact (below_drewN hbw nq).setCell (Nat.le_refl _) _
        case measure => simp only [intOf]; omega
      · have t1 : decide (((x : Int) - y - q) < 0) = true := decide_eq_true (by omega)
        go_wp2_with fail
        go_quiet ((go_at_call 62; exact Calls.quiet_of_same (unhide (C2 _))))
        go_wp2
        go_roundw
        case rel =>
          have ed : ((x : Int) - y - q + 10000 : Int) = ((x + 10000 - y - q : Nat) : Int) := by omega
          have hown2 : (wr.drewN nq).ownsRow w.heap.size 3 1 (.slice (some ⟨w.heap.size, 0, none⟩) A.length A.length) A.length (l.map num) := hown
          have hst := hown2.stored k (num (x + 10000 - y - q))
          refine ⟨k + 1, 1, l.set k (x + 10000 - y - q), by go_num, rfl, by omega, by omega, by simp [hll], HS.out _ (by omega), HR.out _ _ (by omega), ?_, ?_⟩
          · rw [ed, List.map_set]
            exact hst.1
          · exact (below_drewN hbw nq).setCell (Nat.le_refl _) _
        case measure => simp only [intOf]; omega
    · have hkl : k = A.length := by omega
      have e : val l = m - n := HE.out l q hll hsm.out (by have h := hval.out; rw [hkl, List.take_of_length_le (by omega : l.length ≤ A.length)] at h; exact h)
      have hfr := hide (own_ge hown)
      obtain ⟨g, cap, hv, hc, hr⟩ := row_own (l := l) (w := wr) (base := w.heap.size) (v := .slice (some ⟨w.heap.size, 0, none⟩) A.length A.length) (by rw [hll]; exact hown)
      have C1 := hide (cut_any wr g l cap (by omega) hc hr hsm.out)
      rw [← hv, e] at C1
      clear hval hown hr hsm e hv hc
      go_wp2_with fail
      refine (unhide C1).mono ?_
      rintro e w2 ⟨v, rfl, hL, hob, rfl⟩
      have HO := hide hob
      clear hob
      go_wp2
      go_ret
      exact ⟨_, rfl, hL, fun g hg => unhide hfr g (by rw [← unhide HO]; exact hg), hbw⟩
end Go.Proofs.YtobbbhmkcmbekaaDoor.bigs
