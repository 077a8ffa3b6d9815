/- The walks of the document's answer: Minus. -/
import Derived.Test.YtobbbhmkcmbekaaDoorPartAB
import Derived.Deep.QuietTactic
import Derived.BigQuiet
set_option linter.unusedVariables false
namespace Go.Proofs.YtobbbhmkcmbekaaDoor.bigs
open Go.RowKit

theorem made_zero (n : Nat) : (madeCells #[Value.int .i64 0] n).toList = (List.replicate n 0).map num := by
  rw [toList_madeCells_one]
  simp [num]
theorem small_zero (n : Nat) : Small10 (List.replicate n 0) := by
  intro j hj
  rw [List.length_replicate] at hj
  simp [List.getD, hj]
theorem take_set_next (l : List Nat) (k d : Nat) (h : k < l.length) : (l.set k d).take (k + 1) = l.take k ++ [d] := by
  rw [take_succ _ _ (by simpa using h), List.take_set_of_le (by omega)]
  simp [List.getD, h]
theorem small_set {l : List Nat} {k d : Nat} (hs : Small10 l) (hd : d < 10000) : Small10 (l.set k d) := by
  intro j hj
  rw [List.length_set] at hj
  by_cases e : k = j
  · subst e
    simp [List.getD, hj, hd]
  · rw [List.getD, List.getElem?_set_ne e]
    exact hs j hj
/-- A round of the difference: d is what is told, and p what is borrowed. -/
theorem minus_round {l a b : List Nat} {k q d p : Nat} (hk : k < l.length) (h : val (l.take k) + val (b.take k) = val (a.take k) + 10000 ^ k * q) (hd : d + b.getD k 0 + q = a.getD k 0 + 10000 * p) :
    val ((l.set k d).take (k + 1)) + val (b.take (k + 1)) = val (a.take (k + 1)) + 10000 ^ (k + 1) * p := by
  rw [take_set_next l k d hk, val_append, val_one, List.length_take, Nat.min_eq_left (by omega), val_take_next, val_take_next]
  generalize a.getD k 0 = x at *
  generalize b.getD k 0 = y at *
  have e : 10000 ^ (k + 1) * p = 10000 ^ k * (10000 * p) := by rw [Nat.pow_succ, Nat.mul_assoc]
  have e2 : 10000 ^ k * d + 10000 ^ k * y + 10000 ^ k * q = 10000 ^ k * x + 10000 ^ k * (10000 * p) := by
    rw [← Nat.mul_add, ← Nat.mul_add, ← Nat.mul_add, hd]
  omega
theorem dig_len_mono {m n : Nat} (h : m ≤ n) : (dig m).length ≤ (dig n).length := dig_length_le (Nat.lt_of_le_of_lt h (lt_pow_dig n))
theorem minus_end {l : List Nat} {m n q : Nat} (hnm : n ≤ m) (hl : l.length = (dig m).length) (hs : Small10 l) (h : val l + val ((dig n).take (dig m).length) = m + 10000 ^ (dig m).length * q) : val l = m - n := by
  have h1 := val_lt hs
  rw [hl] at h1
  rw [List.take_of_length_le (dig_len_mono hnm), val_dig] at h
  cases q with
  | zero => omega
  | succ q =>
    have : 10000 ^ (dig m).length * (q + 1) = 10000 ^ (dig m).length * q + 10000 ^ (dig m).length := by rw [Nat.mul_add, Nat.mul_one]
    omega

set_option maxHeartbeats 4000000 in
set_option maxRecDepth 100000 in
theorem minus_any (w : World) (va vb : Value) (m n : Nat) (hm : (dig m).length ≤ 1048576) (hnm : n ≤ m) (ha : Lies w va m) (hb : Lies w vb n) :
    Calls Tryd.prog 33 #[va, vb] w fun e w' => ∃ v, e = .returned v ∧ Lies w' v (m - n) ∧ Fresh w.heap.size v ∧ Below w.heap.size w w' := by
  obtain ⟨i0, hi, hz0, hz1, hz2⟩ := info_parts infoInt
  have hn := Nat.le_trans (dig_len_mono hnm) hm
  obtain ⟨aa, ca, rfl, hca, ra⟩ := ha
  obtain ⟨ab, cb, rfl, hcb, rb⟩ := hb
  have sa := small_dig m
  have sb := small_dig n
  have HE : Hid (∀ l q, l.length = (dig m).length → Small10 l → val l + val ((dig n).take (dig m).length) = val ((dig m).take (dig m).length) + 10000 ^ (dig m).length * q → val l = m - n) := fun l q h1 h2 h3 => by
    rw [List.take_length, val_dig] at h3
    exact minus_end hnm h1 h2 h3
  generalize dig m = A at *
  generalize dig n = B at *
  go_enter Tryd.func33, Tryd.ntmps33
  go_wp2_with (at_make; refine wpList_make_full _ rfl _ _ 51 rfl w.heap.size 3 i0 (.int .i64 0) 1 Tryd.underlying51 hi hz0 hz1 _ _ _ _ A.length rfl rfl (by omega) (by omega) ?b2 ?b3 ?b4 ?_)
  case b2 => rw [hz2]; omega
  case b3 => unfold maxLen; omega
  case b4 => exact Nat.le_refl _
  intro w1 hown1 hgrow1
  rw [made_zero] at hown1
  have hbw1 : Below w.heap.size w w1 := (Below.refl _ w).grown hgrow1 (Nat.le_refl _) (fun k h => by cases h)
  clear hgrow1
  go_wp2
  go_loopw [6, 14] (fun c i wr => ∃ (k q : Nat) (l : List Nat), i = .int .i64 k ∧ c = .int .i64 q ∧ k ≤ A.length ∧ q ≤ 1 ∧ l.length = A.length ∧ Hid (Small10 l) ∧ Hid (val (l.take k) + val (B.take k) = val (A.take k) + 10000 ^ k * q) ∧
    wr.ownsRow w.heap.size 3 1 (.slice (some ⟨w.heap.size, 0, none⟩) A.length A.length) A.length (l.map num) ∧ Below w.heap.size w wr) (fun _ i _ => A.length - (intOf i).toNat)
  case atStart => exact ⟨0, 0, List.replicate A.length 0, rfl, rfl, Nat.zero_le _, by omega, by simp, small_zero _, by show _ = _; simp [val], hown1, hbw1⟩
  case round =>
    obtain ⟨k, q, l, rfl, rfl, hk, hq, hll, hsm, hval, hown, hbw⟩ := hrel
    by_cases hlt : k < A.length
    · obtain ⟨b, o, rfl, hba, hca'⟩ := ra (by intro e; rw [e] at hlt; simp at hlt)
      have c1 : wr.cell? ⟨b, o + k, none⟩ = some (.int .i64 ((A.getD k 0 : Nat) : Int)) := by rw [hbw.cell (p := ⟨b, o + k, none⟩) hba]; exact hca' k hlt
      have c2 : wr.cell? ⟨w.heap.size, k, none⟩ = some (.int .i64 ((l.getD k 0 : Nat) : Int)) := by
        rw [hown.cellAt k (by omega)]
        simp [num, List.getD, hll, hlt]
      have f2 := hown.frozenAt k
      have xa := small_getD sa k
      have xb := small_getD sb k
      have C2 : ∀ n, Hid _ := fun n => hide (at_any (wr.drewN n) ab B cb k (by omega) (rb.below (below_drewN hbw n)))
      have HR : Hid (∀ d p, d + B.getD k 0 + q = A.getD k 0 + 10000 * p → val ((l.set k d).take (k + 1)) + val (B.take (k + 1)) = val (A.take (k + 1)) + 10000 ^ (k + 1) * p) := fun d p h => minus_round (by omega) hval.out h
      have HS : Hid (∀ d, d < 10000 → Small10 (l.set k d)) := fun d h => small_set hsm.out h
      have i1 : (k : Int) < (A.length : Int) := by omega
      clear hca' hval hsm
      generalize A.getD k 0 = x at *
      generalize B.getD k 0 = y at *
      by_cases hxy : y + q ≤ x
      · have t1 : decide (((x : Int) - y - q) < 0) = false := decide_eq_false (by omega)
        go_wp2_with fail
        go_quiet ((go_at_call 62; exact Calls.quiet_of_same (unhide (C2 _))))
        go_wp2
        go_roundw
        case rel =>
          have ed : ((x : Int) - y - q : Int) = ((x - y - q : Nat) : Int) := by omega
          have hown2 : (wr.drewN nq).ownsRow w.heap.size 3 1 (.slice (some ⟨w.heap.size, 0, none⟩) A.length A.length) A.length (l.map num) := hown
          have hst := hown2.stored k (num (x - y - q))
          refine ⟨k + 1, 0, l.set k (x - y - q), by go_num, rfl, by omega, by omega, by simp [hll], HS.out _ (by omega), HR.out _ _ (by omega), ?_, ?_⟩
          · rw [ed, List.map_set]
            exact hst.1
          · exact (below_drewN hbw nq).setCell (Nat.le_refl _) _
        case measure => simp only [intOf]; omega
      · have t1 : decide (((x : Int) - y - q) < 0) = true := decide_eq_true (by omega)
        go_wp2_with fail
        go_quiet ((go_at_call 62; exact Calls.quiet_of_same (unhide (C2 _))))
        go_wp2
        go_roundw
        case rel =>
          have ed : ((x : Int) - y - q + 10000 : Int) = ((x + 10000 - y - q : Nat) : Int) := by omega
          have hown2 : (wr.drewN nq).ownsRow w.heap.size 3 1 (.slice (some ⟨w.heap.size, 0, none⟩) A.length A.length) A.length (l.map num) := hown
          have hst := hown2.stored k (num (x + 10000 - y - q))
          refine ⟨k + 1, 1, l.set k (x + 10000 - y - q), by go_num, rfl, by omega, by omega, by simp [hll], HS.out _ (by omega), HR.out _ _ (by omega), ?_, ?_⟩
          · rw [ed, List.map_set]
            exact hst.1
          · exact (below_drewN hbw nq).setCell (Nat.le_refl _) _
        case measure => simp only [intOf]; omega
    · have hkl : k = A.length := by omega
      have e : val l = m - n := HE.out l q hll hsm.out (by have h := hval.out; rw [hkl, List.take_of_length_le (by omega : l.length ≤ A.length)] at h; exact h)
      have hfr := hide (own_ge hown)
      obtain ⟨g, cap, hv, hc, hr⟩ := row_own (l := l) (w := wr) (base := w.heap.size) (v := .slice (some ⟨w.heap.size, 0, none⟩) A.length A.length) (by rw [hll]; exact hown)
      have C1 := hide (cut_any wr g l cap (by omega) hc hr hsm.out)
      rw [← hv, e] at C1
      clear hval hown hr hsm e hv hc
      go_wp2_with fail
      refine (unhide C1).mono ?_
      rintro e w2 ⟨v, rfl, hL, hob, rfl⟩
      have HO := hide hob
      clear hob
      go_wp2
      go_ret
      exact ⟨_, rfl, hL, fun g hg => unhide hfr g (by rw [← unhide HO]; exact hg), hbw⟩
end Go.Proofs.YtobbbhmkcmbekaaDoor.bigs
/- The walks of the document's answer: By. -/
set_option linter.unusedVariables false
namespace Go.Proofs.YtobbbhmkcmbekaaDoor.bigs
open Go.RowKit

theorem val_set (l : List Nat) (d : Nat) : ∀ j, j < l.length → val (l.set j d) + 10000 ^ j * l.getD j 0 = val l + 10000 ^ j * d := by
  induction l with
  | nil => intro j h; simp at h
  | cons x l ih =>
    intro j h
    cases j with
    | zero => simp [val]; omega
    | succ j =>
      have := ih j (by simpa using h)
      simp only [List.set_cons_succ, val, List.getD_cons_succ, Nat.pow_succ]
      have e1 : 10000 ^ j * 10000 * l.getD j 0 = 10000 * (10000 ^ j * l.getD j 0) := by rw [Nat.mul_comm (10000 ^ j), Nat.mul_assoc]
      have e2 : 10000 ^ j * 10000 * d = 10000 * (10000 ^ j * d) := by rw [Nat.mul_comm (10000 ^ j), Nat.mul_assoc]
      omega
/-- Nothing stands from place k on. -/
def Nought (l : List Nat) (k : Nat) : Prop := ∀ j, k ≤ j → l.getD j 0 = 0
theorem nought_set {l : List Nat} {k j d : Nat} (h : Nought l k) (hj : j < k) : Nought (l.set j d) k := by
  intro i hi
  rw [List.getD, List.getElem?_set_ne (by omega)]
  exact h i hi
theorem nought_set' {l : List Nat} {k d : Nat} (h : Nought l k) : Nought (l.set k d) (k + 1) := by
  intro i hi
  rw [List.getD, List.getElem?_set_ne (by omega)]
  exact h i (by omega)
theorem nought_zero (n : Nat) : Nought (List.replicate n 0) 0 := by
  intro j _
  by_cases h : j < n
  · simp [List.getD, h]
  · rw [List.getD, List.getElem?_eq_none (by simp; omega)]; rfl
theorem val_zero (n : Nat) : val (List.replicate n 0) = 0 := by
  induction n with
  | zero => rfl
  | succ n ih => rw [List.replicate_succ, val, ih]
/-- A round of the product. -/
theorem by_round {l b : List Nat} {i k q a X : Nat} (hj : i + k < l.length) (h : val l + 10000 ^ (i + k) * q = X + 10000 ^ i * a * val (b.take k)) :
    val (l.set (i + k) ((q + (l.getD (i + k) 0 + a * b.getD k 0)) % 10000)) + 10000 ^ (i + (k + 1)) * ((q + (l.getD (i + k) 0 + a * b.getD k 0)) / 10000) = X + 10000 ^ i * a * val (b.take (k + 1)) := by
  have h1 := val_set l ((q + (l.getD (i + k) 0 + a * b.getD k 0)) % 10000) (i + k) hj
  rw [val_take_next]
  generalize l.getD (i + k) 0 = z at *
  generalize b.getD k 0 = y at *
  have e1 : 10000 ^ (i + (k + 1)) * ((q + (z + a * y)) / 10000) = 10000 ^ (i + k) * (10000 * ((q + (z + a * y)) / 10000)) := by rw [← Nat.add_assoc, Nat.pow_succ, Nat.mul_assoc]
  have e2 : 10000 ^ (i + k) * ((q + (z + a * y)) % 10000) + 10000 ^ (i + k) * (10000 * ((q + (z + a * y)) / 10000)) = 10000 ^ (i + k) * q + (10000 ^ (i + k) * z + 10000 ^ (i + k) * (a * y)) := by
    rw [← Nat.mul_add, Nat.mod_add_div, Nat.mul_add, Nat.mul_add]
  have e3 : 10000 ^ i * a * (val (b.take k) + 10000 ^ k * y) = 10000 ^ i * a * val (b.take k) + 10000 ^ (i + k) * (a * y) := by
    rw [Nat.mul_add, Nat.pow_add, Nat.mul_assoc, Nat.mul_assoc, Nat.mul_assoc, Nat.mul_left_comm a]
  omega
theorem by_next {l a b : List Nat} {i q : Nat} (h : val l = val (a.take i) * val b + 10000 ^ i * a.getD i 0 * val b) : val l = val (a.take (i + 1)) * val b := by
  rw [h, val_take_next, Nat.add_mul]

set_option maxHeartbeats 4000000 in
set_option maxRecDepth 100000 in
theorem by_any (w : World) (va vb : Value) (m n : Nat) (hm : (dig m).length ≤ 1048576) (hn : (dig n).length ≤ 1048576) (ha : Lies w va m) (hb : Lies w vb n) :
    Calls Tryd.prog 60 #[va, vb] w fun e w' => ∃ v, e = .returned v ∧ Lies w' v (m * n) ∧ Fresh w.heap.size v ∧ Below w.heap.size w w' := by
  obtain ⟨i0, hi, hz0, hz1, hz2⟩ := info_parts infoInt
  obtain ⟨aa, ca, rfl, hca, ra⟩ := ha
  obtain ⟨ab, cb, rfl, hcb, rb⟩ := hb
  have sa := small_dig m
  have sb := small_dig n
  have HE : Hid (val ((dig m).take (dig m).length) * val (dig n) = m * n) := by show _ = _; rw [List.take_length, val_dig, val_dig]
  generalize dig m = A at *
  generalize dig n = B at *
  go_enter Tryd.func60, Tryd.ntmps60
  go_wp2_with (at_make; refine wpList_make_full _ rfl _ _ 51 rfl w.heap.size 3 i0 (.int .i64 0) 1 Tryd.underlying51 hi hz0 hz1 _ _ _ _ (A.length + B.length + 1) rfl rfl (by omega) (by omega) ?b2 ?b3 ?b4 ?_)
  case b2 => rw [hz2]; omega
  case b3 => unfold maxLen; omega
  case b4 => exact Nat.le_refl _
  intro w1 hown1 hgrow1
  rw [made_zero] at hown1
  have hbw1 : Below w.heap.size w w1 := (Below.refl _ w).grown hgrow1 (Nat.le_refl _) (fun k h => by cases h)
  clear hgrow1
  go_wp2
  go_loopw [18] (fun i wr => ∃ (k : Nat) (l : List Nat), i = .int .i64 k ∧ k ≤ A.length ∧ l.length = A.length + B.length + 1 ∧ Hid (Small10 l) ∧ Hid (Nought l (k + B.length)) ∧ Hid (val l = val (A.take k) * val B) ∧
    wr.ownsRow w.heap.size 3 1 (.slice (some ⟨w.heap.size, 0, none⟩) (A.length + B.length + 1) (A.length + B.length + 1)) (A.length + B.length + 1) (l.map num) ∧ Below w.heap.size w wr) (fun i _ => A.length - (intOf i).toNat)
  case atStart => exact ⟨0, List.replicate (A.length + B.length + 1) 0, rfl, Nat.zero_le _, by simp, small_zero _, fun j _ => nought_zero _ j (Nat.zero_le _), by show _ = _; rw [val_zero]; simp [val], hown1, hbw1⟩
  case round =>
    obtain ⟨i, l, rfl, hiA, hll, hsm, hno, hval, hown, hbw⟩ := hrel
    by_cases hlt : i < A.length
    · obtain ⟨b, o, rfl, hba, hca'⟩ := ra (by intro e; rw [e] at hlt; simp at hlt)
      have hca2 := hca' i hlt
      have xa := small_getD sa i
      have HN : Hid (∀ l : List Nat, val l = val (A.take i) * val B + 10000 ^ i * A.getD i 0 * val B → val l = val (A.take (i + 1)) * val B) := fun l h => by_next (q := 0) h
      clear hca' hown1 hbw1
      generalize hx : A.getD i 0 = x at *
      have HX := hide hx
      clear hx
      generalize hXX : val (A.take i) * val B = X at *
      have HXX := hide hXX
      clear hXX
      go_wp2_with fail
      go_loopw [7, 8] (fun c kk wr => ∃ (k q : Nat) (l : List Nat), kk = .int .i64 k ∧ c = .int .i64 q ∧ q < 10000 ∧ k ≤ B.length + 1 ∧ (k ≤ B.length ∨ q = 0) ∧ l.length = A.length + B.length + 1 ∧ Hid (Small10 l) ∧
        Hid (if k ≤ B.length then Nought l (i + B.length) else Nought l (i + B.length + 1)) ∧ Hid (val l + 10000 ^ (i + k) * q = X + 10000 ^ i * x * val (B.take k)) ∧
        wr.ownsRow w.heap.size 3 1 (.slice (some ⟨w.heap.size, 0, none⟩) (A.length + B.length + 1) (A.length + B.length + 1)) (A.length + B.length + 1) (l.map num) ∧ Below w.heap.size w wr) (fun _ kk _ => B.length + 1 - (intOf kk).toNat)
      case atStart => exact ⟨0, 0, l, rfl, rfl, by omega, by omega, by omega, hll, hsm, by show ite _ _ _; rw [if_pos (Nat.zero_le _)]; exact hno.out, by show _ = _; rw [hval.out]; simp [val], hown, hbw⟩
      case round =>
        clear hown hbw hsm hno hval hll
        obtain ⟨k, q, l, rfl, rfl, hq, hkB, hkq, hll, hsm, hno, hval, hown, hbw⟩ := hrel
        by_cases hgo : k < B.length ∨ 0 < q
        · have xb := small_getD sb k
          have eb : B.length ≤ k → B.getD k 0 = 0 := fun h => by rw [List.getD, List.getElem?_eq_none h]; rfl
          have hkB2 : k ≤ B.length := by omega
          have hno2 : Nought l (i + B.length) := by have h := hno.out; rwa [if_pos hkB2] at h
          have xz := small_getD hsm.out (i + k)
          have ez : B.length ≤ k → l.getD (i + k) 0 = 0 := fun h => hno2 (i + k) (by omega)
          have c1 : wr.cell? ⟨b, o + i, none⟩ = some (.int .i64 ((x : Nat) : Int)) := by rw [hbw.cell (p := ⟨b, o + i, none⟩) hba]; exact hca2
          have c2 : wr.cell? ⟨w.heap.size, i + k, none⟩ = some (.int .i64 ((l.getD (i + k) 0 : Nat) : Int)) := by
            rw [hown.cellAt (i + k) (by omega)]
            simp [num, List.getD, show i + k < l.length by omega]
          have f2 := hown.frozenAt (i + k)
          have C2 : ∀ n, Hid _ := fun n => hide (at_any (wr.drewN n) ab B cb k (by omega) (rb.below (below_drewN hbw n)))
          have hval2 : Hid (val (l.set (i + k) ((q + (l.getD (i + k) 0 + x * B.getD k 0)) % 10000)) + 10000 ^ (i + (k + 1)) * ((q + (l.getD (i + k) 0 + x * B.getD k 0)) / 10000) = X + 10000 ^ i * x * val (B.take (k + 1))) := by_round (by omega) hval.out
          have hsm2 : Hid (∀ d, d < 10000 → Small10 (l.set (i + k) d)) := fun d h => small_set hsm.out h
          have hno3 : Hid (∀ d, if k + 1 ≤ B.length then Nought (l.set (i + k) d) (i + B.length) else Nought (l.set (i + k) d) (i + B.length + 1)) := fun d => by
            by_cases h : k + 1 ≤ B.length
            · rw [if_pos h]; exact nought_set hno2 (by omega)
            · rw [if_neg h]
              have e : k = B.length := by omega
              rw [e]; exact nought_set' hno2
          have i1 : (i : Int) < (A.length : Int) := by omega
          have i2 : (i : Int) + (k : Int) < ((A.length + B.length + 1 : Nat) : Int) := by omega
          generalize B.getD k 0 = y at *
          generalize l.getD (i + k) 0 = z at *
          have hp : x * y ≤ 9999 * 9999 := Nat.mul_le_mul (by omega) (by omega)
          have hp0 : B.length ≤ k → x * y = 0 := fun h => by rw [eb h]; rfl
          have hpi : (x : Int) * (y : Int) = ((x * y : Nat) : Int) := by rw [Int.natCast_mul]
          generalize x * y = p at *
          clear hno hno2 hval hsm hca2
          have hgo' : k < B.length ∨ (¬ k < B.length ∧ 0 < q) := by omega
          clear hgo
          have hk2 : k + 1 ≤ B.length ∨ (q + (z + p)) / 10000 = 0 := by
            by_cases h : k + 1 ≤ B.length
            · exact .inl h
            · have := ez (by omega)
              have := hp0 (by omega)
              right; omega
          clear eb ez hp0
          rcases hgo' with h1 | ⟨h1, h2⟩
          · go_wp2_with fail
            go_quiet ((go_at_call 62; exact Calls.quiet_of_same (unhide (C2 _))))
            go_wp2
            go_roundw
            case rel =>
              have ed : (((q : Int) + ((z : Int) + (p : Int))) % 10000) = (((q + (z + p)) % 10000 : Nat) : Int) := by omega
              have hown2 : (wr.drewN nq).ownsRow w.heap.size 3 1 (.slice (some ⟨w.heap.size, 0, none⟩) (A.length + B.length + 1) (A.length + B.length + 1)) (A.length + B.length + 1) (l.map num) := hown
              have hst := hown2.stored (i + k) (num ((q + (z + p)) % 10000))
              refine ⟨k + 1, (q + (z + p)) / 10000, l.set (i + k) ((q + (z + p)) % 10000), by go_num, by congr 1, by omega, by omega, hk2, by simp [hll], hsm2.out _ (by omega), hno3.out _, hval2, ?_, ?_⟩
              · rw [ed, List.map_set]
                exact hst.1
              · exact (below_drewN hbw nq).setCell (Nat.le_refl _) _
            case measure => simp only [intOf]; omega
          · have h3 : ¬ ((k : Int) < (B.length : Int)) := by omega
            go_wp2_with fail
            go_quiet ((go_at_call 62; exact Calls.quiet_of_same (unhide (C2 _))))
            go_wp2
            go_roundw
            case rel =>
              have ed : (((q : Int) + ((z : Int) + (p : Int))) % 10000) = (((q + (z + p)) % 10000 : Nat) : Int) := by omega
              have hown2 : (wr.drewN nq).ownsRow w.heap.size 3 1 (.slice (some ⟨w.heap.size, 0, none⟩) (A.length + B.length + 1) (A.length + B.length + 1)) (A.length + B.length + 1) (l.map num) := hown
              have hst := hown2.stored (i + k) (num ((q + (z + p)) % 10000))
              refine ⟨k + 1, (q + (z + p)) / 10000, l.set (i + k) ((q + (z + p)) % 10000), by go_num, by congr 1, by omega, by omega, hk2, by simp [hll], hsm2.out _ (by omega), hno3.out _, hval2, ?_, ?_⟩
              · rw [ed, List.map_set]
                exact hst.1
              · exact (below_drewN hbw nq).setCell (Nat.le_refl _) _
            case measure => simp only [intOf]; omega
        · have q0 : q = 0 := by omega
          have hkB3 : B.length ≤ k := by omega
          subst q0
          have hval2 : Hid (val l = val (A.take (i + 1)) * val B) := by
            refine HN.out l ?_
            have h := hval.out
            rw [List.take_of_length_le hkB3] at h
            omega
          have hno2 : Hid (Nought l (i + 1 + B.length)) := fun j hj => by
            have h := hno.out
            by_cases e : k ≤ B.length
            · rw [if_pos e] at h; exact h j (by omega)
            · rw [if_neg e] at h; exact h j (by omega)
          clear hval hno hca2
          go_wp2
          go_roundw
          case rel => exact ⟨i + 1, l, by go_num, by omega, hll, hsm, hno2, hval2, hown, hbw⟩
          case measure => simp only [intOf]; omega
    · have hkl : i = A.length := by omega
      have e : val l = m * n := by rw [hval.out, hkl]; exact HE.out
      have hfr := hide (own_ge hown)
      obtain ⟨g, cap, hv, hc, hr⟩ := row_own (l := l) (w := wr) (base := w.heap.size) (v := .slice (some ⟨w.heap.size, 0, none⟩) (A.length + B.length + 1) (A.length + B.length + 1)) (by rw [hll]; exact hown)
      have C1 := hide (cut_any wr g l cap (by omega) hc hr hsm.out)
      rw [← hv, e] at C1
      clear hval hown hr hsm e hv hc hno
      go_wp2_with fail
      refine (unhide C1).mono ?_
      rintro e w2 ⟨v, rfl, hL, hob, rfl⟩
      have HO := hide hob
      clear hob
      go_wp2
      go_ret
      exact ⟨_, rfl, hL, fun g hg => unhide hfr g (by rw [← unhide HO]; exact hg), hbw⟩
end Go.Proofs.YtobbbhmkcmbekaaDoor.bigs
/- The walks of the document's answer: Over. -/
set_option linter.unusedVariables false
namespace Go.Proofs.YtobbbhmkcmbekaaDoor.bigs
open Go.RowKit

theorem append_types (w : World) (ty : TypeId) (b a : Option Addr) (n c m d : Nat) :
    (Builtin.append_ #[51, 52] ty #[.slice b n c, .slice a m d]).run Tryd.prog w = (Builtin.append_ #[51, 51] ty #[.slice b n c, .slice a m d]).run Tryd.prog w := by
  simp [Builtin.append_, Sem.run_bind, run_underlying Tryd.underlying51, run_underlying Tryd.underlying52]
theorem own_slice {w : World} {base e n : Nat} {v : Value} {xs : List Value} (h : w.ownsRow base e 1 v n xs) : ∃ b c, v = .slice b n c := by
  rcases h.2 with ⟨rfl, rfl⟩ | ⟨g, cap, cur, rfl, _⟩
  · exact ⟨_, _, rfl⟩
  · exact ⟨_, _, rfl⟩

theorem run_append_row (w : World) (ty : TypeId) (base : Nat) (v : Value) (n : Nat) (xs : List Value) (hown : w.ownsRow base 3 1 v n xs) (a : Option Addr) (l : List Nat) (c : Nat) (hr : Row w a l)
    (hb : (n + l.length) * 8 ≤ 140737488355328) (hbase : base ≤ w.heap.size) :
    ∃ v' w', (Builtin.append_ #[51, 52] ty #[v, .slice a l.length c]).run Tryd.prog w = .ok v' w' ∧ w'.ownsRow base 3 1 v' (n + l.length) (xs ++ l.map num) ∧ w.grownBy w' v.ownBlock := by
  obtain ⟨i0, hi, hz0, hz1, hz2⟩ := info_parts infoInt
  obtain ⟨vb, vc, rfl⟩ := own_slice hown
  rw [append_types]
  cases a with
  | none =>
    have hl : l = [] := by
      by_cases h : l = []
      · exact h
      · obtain ⟨b, o, e, _⟩ := hr h
        cases e
    subst hl
    refine ⟨.slice vb n vc, w, ?_, by simpa using hown, ⟨rfl, rfl, rfl, Nat.le_refl _, fun _ _ _ => rfl⟩⟩
    rcases hown.2 with ⟨e, rfl⟩ | ⟨g, cap, cur, e, hbg, hg, hnc, _⟩
    · rw [e]
      simp [Builtin.append_, run_underlying Tryd.underlying51, sizeOf, typeInfo, hi, Builtin.lenOf, Builtin.firstCells]
    · rw [e]
      simp [Builtin.append_, run_underlying Tryd.underlying51, sizeOf, typeInfo, hi, Builtin.lenOf, Builtin.firstCells, hnc, storeCells]
  | some ad =>
    obtain ⟨v', w', h1, h2, h3, _⟩ := run_append_own (P := Tryd.prog) w base 51 ty 3 i0 (.int .i64 0) 1 8 Tryd.underlying51 hi hz0 hz1 hz2 rfl (by decide) _ n xs hown ad l.length c (l.map num) (by simp) (fun j u hu => by
      have hj : j < l.length := by
        have := (List.getElem?_eq_some_iff.1 hu).1
        simpa using this
      obtain ⟨b, o, e, _, hc⟩ := hr (by intro e; rw [e] at hj; simp at hj)
      cases e
      have hcj := hc j hj
      have hu' : u = .int .i64 ((l.getD j 0 : Nat) : Int) := by
        rw [List.getElem?_map, List.getElem?_eq_getElem hj] at hu
        simp at hu
        rw [← hu]
        simp [num, List.getD, List.getElem?_eq_getElem hj]
      rw [hu']
      have hadd : (⟨b, o, none⟩ : Addr).add j = ⟨b, o + j, none⟩ := by unfold Addr.add; split <;> simp_all
      rw [hadd]
      exact hcj) (fun u hu => by
        obtain ⟨x, _, rfl⟩ := List.mem_map.1 hu
        rfl) (by unfold maxLen; omega) hb hbase
    exact ⟨v', w', h1, h2, h3⟩

theorem wpList_append_row (w : World) {ops : Array Oper} {rest : List Oper} {o : Oper} {a : Act} {Q : Exit → Act → World → Prop} (hgd : o.guard = none) (s x : Operand)
    (ho : o.op = .call { callee := .builtin .append, args := #[s, x], argTypes := #[51, 52] }) (base : Nat) (v : Value) (n : Nat) (xs : List Value) (hs : a.eval s = v) (hown : w.ownsRow base 3 1 v n xs)
    (ad : Option Addr) (l : List Nat) (c : Nat) (hx : a.eval x = .slice ad l.length c) (hr : Row w ad l) (hb : (n + l.length) * 8 ≤ 140737488355328) (hbase : base ≤ w.heap.size)
    (h : ∀ v' w', w'.ownsRow base 3 1 v' (n + l.length) (xs ++ l.map num) → w.grownBy w' v.ownBlock → wpList Tryd.prog ops Q rest (a.put o.dst v') w') : wpList Tryd.prog ops Q (o :: rest) a w := by
  refine wpList_plain hgd fun K hK => ?_
  obtain ⟨v', w', h1, h2, h3⟩ := run_append_row w o.type base v n xs hown ad l c hr hb hbase
  unfold Oper.wp execOp
  simp only [ho, resolve, invoke, builtin, Sem.run_bind, Sem.run_pure, Result.andThen_ok, List.map_toArray, List.map_cons, List.map_nil, hs, hx, h1]
  exact hK _ _ (h v' w' h2 h3)

theorem own_heap {w : World} {base e n c g : Nat} {xs : List Value} (h : w.ownsRow base e 1 (.slice (some ⟨g, 0, none⟩) n c) n xs) : ∃ cur, w.heap[g]? = some (.cells cur e (0, 0)) := by
  rcases h.2 with ⟨h, _⟩ | ⟨g', cap, cur, h, _, hg, _⟩
  · cases h
  · simp only [Value.slice.injEq, Option.some.injEq, Addr.mk.injEq, and_true, true_and] at h
    obtain ⟨rfl, _⟩ := h
    exact ⟨cur, hg⟩
theorem own_below {w w' : World} {base e n : Nat} {v : Value} {xs : List Value} (h : w.ownsRow base e 1 v n xs) (hb : Below w.heap.size w w') : w'.ownsRow base e 1 v n xs := by
  refine ⟨h.1, ?_⟩
  rcases h.2 with hn | ⟨g, cap, cur, e, h1, hg, rest⟩
  · exact .inl hn
  · refine .inr ⟨g, cap, cur, e, h1, ?_, rest⟩
    rw [hb.block g (Array.getElem?_eq_some_iff.1 hg).1]
    exact hg
theorem Lies.setCell {w : World} {v : Value} {n : Nat} (h : Lies w v n) (g k : Nat) (u : Value) (hne : ∀ b, v.ownBlock = some b → b ≠ g) : Lies (w.setCell ⟨g, k, none⟩ u) v n := by
  obtain ⟨a, cap, rfl, hc, hr⟩ := h
  refine ⟨a, cap, rfl, hc, fun h0 => ?_⟩
  obtain ⟨b, o, rfl, hb, hcell⟩ := hr h0
  have hbg := hne b rfl
  refine ⟨b, o, rfl, by simpa using hb, fun j hj => ?_⟩
  rw [← hcell j hj]
  exact World.cell?_of_block (Below.heap_setCell w ⟨g, k, none⟩ u b hbg)
theorem dig_mul_len {n d : Nat} (h : d < 10000) : (dig (n * d)).length ≤ (dig n).length + 1 := by
  apply dig_length_le
  rw [Nat.pow_succ]
  have h1 := lt_pow_dig n
  by_cases h0 : d = 0
  · subst h0
    have : 0 < 10000 ^ (dig n).length := Nat.pow_pos (by omega)
    omega
  · have h2 : n * d < 10000 ^ (dig n).length * d := Nat.mul_lt_mul_of_pos_right h1 (by omega)
    have h3 : 10000 ^ (dig n).length * d ≤ 10000 ^ (dig n).length * 10000 := Nat.mul_le_mul_left _ (by omega)
    omega
theorem dig_lt_len {n R : Nat} (h : R < n * 10000) : (dig R).length ≤ (dig n).length + 1 := by
  apply dig_length_le
  rw [Nat.pow_succ]
  have h1 := lt_pow_dig n
  exact Nat.lt_of_lt_of_le h (Nat.mul_le_mul_right _ (Nat.le_of_lt h1))
theorem dig_one_len {d : Nat} (h : d < 10000) : (dig d).length ≤ 1 := dig_length_le (by simpa using h)
theorem drop_set_val (l : List Nat) (k d : Nat) (h : k < l.length) : val ((l.set k d).drop k) = d + 10000 * val (l.drop (k + 1)) := by
  rw [drop_val]
  have e1 : (l.set k d).getD k 0 = d := by simp [List.getD, h]
  have e2 : (l.set k d).drop (k + 1) = l.drop (k + 1) := by rw [List.drop_set_of_lt (by omega)]
  rw [e1, e2]
/-- A round of the division. -/
theorem over_round {H Q r n a lo : Nat} (h : H = Q * n + r) (hlo : n * lo ≤ a + 10000 * r) : a + 10000 * H = (lo + 10000 * Q) * n + (a + 10000 * r - n * lo) := by
  rw [h, Nat.add_mul, Nat.mul_comm lo n, Nat.mul_assoc]
  omega
theorem over_end {m n Q r : Nat} (h : m = Q * n + r) (hr : r < n) : m / n = Q ∧ m % n = r := by
  refine (Nat.div_mod_unique (by omega)).2 ⟨?_, hr⟩
  rw [h, Nat.mul_comm]
  omega

end Go.Proofs.YtobbbhmkcmbekaaDoor.bigs
