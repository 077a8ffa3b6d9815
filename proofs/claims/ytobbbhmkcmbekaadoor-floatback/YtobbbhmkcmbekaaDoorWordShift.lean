/- The walks of package big: shiftLeft, shiftRight. -/
import Derived.Test.YtobbbhmkcmbekaaDoorWordOnce
set_option linter.unusedVariables false
namespace Go.Proofs.YtobbbhmkcmbekaaDoor.bigs
open Go.RowKit

theorem or_low (z u s : Nat) (hs : s ≤ 32) (hz : z < 2 ^ s) (hu : u < 2 ^ (32 - s)) : Go.bits .or .u32 (z : Int) ((2 ^ s * u : Nat) : Int) = ((z + 2 ^ s * u : Nat) : Int) ∧ z + 2 ^ s * u < 4294967296 := by
  have e : 2 ^ s * 2 ^ (32 - s) = 4294967296 := by rw [← Nat.pow_add, show s + (32 - s) = 32 by omega]
  have h1 : 2 ^ s * (u + 1) ≤ 2 ^ s * 2 ^ (32 - s) := Nat.mul_le_mul_left _ hu
  rw [Nat.mul_add, Nat.mul_one, e] at h1
  refine ⟨?_, by omega⟩
  have hc : Go.bits .or .u32 (z : Int) ((2 ^ s * u : Nat) : Int) = Go.bits .or .u32 ((2 ^ s * u : Nat) : Int) (z : Int) := by simp only [Go.bits, BitVec.or_comm]
  rw [hc, bits_join .u32 32 (by decide) wraps32 s _ _ (by omega) ?_ ?_ (by omega) ?_ ?_]
  · omega
  · simp
  · have : (2 : Int) ^ 32 = 4294967296 := by decide
    rw [this]; omega
  · have : ((z : Nat) : Int) < ((2 ^ s : Nat) : Int) := by omega
    simpa using this
  · have : (2 : Int) ^ 32 = 4294967296 := by decide
    rw [this]; omega
/-- A word, shifted, in two. -/
theorem wide_parts (x s : Nat) (hs : s < 32) (hx : x < 4294967296) : (x * 2 ^ s) % 4294967296 = 2 ^ s * (x % 2 ^ (32 - s)) ∧ (x * 2 ^ s) / 4294967296 = x / 2 ^ (32 - s) ∧ x / 2 ^ (32 - s) < 2 ^ s ∧ x * 2 ^ s < 18446744073709551616 ∧ x % 2 ^ (32 - s) < 2 ^ (32 - s) ∧ 2 ^ s ≤ 2147483648 := by
  have e : 2 ^ s * 2 ^ (32 - s) = 4294967296 := by rw [← Nat.pow_add, show s + (32 - s) = 32 by omega]
  have hp : 0 < 2 ^ (32 - s) := Nat.pow_pos (by omega)
  have hp2 : 0 < 2 ^ s := Nat.pow_pos (by omega)
  have h31 : 2 ^ s ≤ 2147483648 := Nat.pow_le_pow_right (n := 2) (by omega) (show s ≤ 31 by omega)
  refine ⟨?_, ?_, ?_, ?_, Nat.mod_lt _ hp, h31⟩
  · rw [← e, Nat.mul_comm x, Nat.mul_mod_mul_left]
  · rw [← e, Nat.mul_comm x, Nat.mul_div_mul_left _ _ hp2]
  · exact Nat.div_lt_of_lt_mul (by rw [Nat.mul_comm, e]; exact hx)
  · have : x * 2 ^ s ≤ 4294967295 * 2147483648 := Nat.mul_le_mul (by omega) h31
    omega
/-- A round of the shift to the left. -/
theorem left_round {L : List Nat} {j x s X : Nat} (hj : j + 1 < L.length) (hz : L.getD (j + 1) 0 = 0) :
    wval ((L.set j (L.getD j 0 + (x * 2 ^ s) % 4294967296)).set (j + 1) ((x * 2 ^ s) / 4294967296)) = wval L + 4294967296 ^ j * (x * 2 ^ s) := by
  have h1 := wval_set L (L.getD j 0 + (x * 2 ^ s) % 4294967296) j (by omega)
  have h2 := wval_set (L.set j (L.getD j 0 + (x * 2 ^ s) % 4294967296)) ((x * 2 ^ s) / 4294967296) (j + 1) (by simpa using hj)
  have e : (L.set j (L.getD j 0 + (x * 2 ^ s) % 4294967296)).getD (j + 1) 0 = 0 := by
    rw [List.getD, List.getElem?_set_ne (by omega)]; exact hz
  rw [e, Nat.mul_zero] at h2
  generalize x * 2 ^ s = d at *
  have e2 : 4294967296 ^ (j + 1) * (d / 4294967296) = 4294967296 ^ j * (4294967296 * (d / 4294967296)) := by rw [Nat.pow_succ, Nat.mul_assoc]
  have e3 : 4294967296 ^ j * (L.getD j 0 + d % 4294967296) + 4294967296 ^ j * (4294967296 * (d / 4294967296)) = 4294967296 ^ j * L.getD j 0 + 4294967296 ^ j * d := by
    rw [← Nat.mul_add, Nat.add_assoc, Nat.mod_add_div, Nat.mul_add]
  omega

set_option maxHeartbeats 8000000 in
set_option maxRecDepth 100000 in
theorem shiftLeft_any (w : World) (v : Value) (l : List Nat) (n : Nat) (hv : WSl w v l) (sl : Words32 l) (ll : l.length ≤ 400000) (hn : n ≤ 100000) :
    Calls Tryd.prog 109 #[v, .int .i64 n] w fun e w' => ∃ L : List Nat, e = .returned (.slice (some ⟨w.heap.size, 0, none⟩) L.length L.length) ∧ L.length = l.length + n / 32 + 1 ∧ Words32 L ∧ wval L = wval l * 2 ^ n ∧
      Own w' w.heap.size L.length L ∧ Below w.heap.size w w' := by
  obtain ⟨i0, hi, hz0, hz1, hz2⟩ := info_parts infoU
  obtain ⟨aa, ca, rfl, hca, ra⟩ := hv
  have HP : Hid (wval l * 2 ^ n = wval (l.take l.length) * 2 ^ (n % 32) * 4294967296 ^ (n / 32)) := by
    show _ = _
    rw [List.take_length, Nat.mul_assoc, show (4294967296 : Nat) = 2 ^ 32 from rfl, ← Nat.pow_mul, ← Nat.pow_add, Nat.add_comm, Nat.div_add_mod]
  generalize wval l * 2 ^ n = T at *
  have hs : n % 32 < 32 := by omega
  have hm : n / 32 ≤ 100000 := by omega
  have n1 : (n : Int) / 32 = ((n / 32 : Nat) : Int) := by omega
  have n2 : (n : Int) % 32 = ((n % 32 : Nat) : Int) := by omega
  generalize n % 32 = s at *
  generalize n / 32 = m at *
  go_enter Tryd.func109, Tryd.ntmps109
  go_wp2_with (at_make; refine wpList_make_full _ rfl _ _ 36 rfl w.heap.size 40 i0 (.int .u32 0) 1 Tryd.underlying36 hi hz0 hz1 _ _ _ _ (l.length + m + 1) rfl rfl (by omega) (by omega) ?b2 ?b3 ?b4 ?_)
  case b2 => rw [hz2]; omega
  case b3 => unfold maxLen; omega
  case b4 => exact Nat.le_refl _
  intro w2 hown2 hgrow2
  have hb2 : Below w.heap.size w w2 := (Below.refl _ w).grown hgrow2 (Nat.le_refl _) (fun k h => by cases h)
  have own2 : Own w2 w.heap.size (l.length + m + 1) (List.replicate (l.length + m + 1) 0) := own_made hown2
  clear hgrow2 hown2
  go_wp2_with fail
  go_loopw [23] (fun i wr => ∃ (k : Nat) (L : List Nat), i = .int .i64 k ∧ k ≤ l.length ∧ L.length = l.length + m + 1 ∧ Hid (Words32 L) ∧ Hid (Nought L (k + m + 1)) ∧ Hid (L.getD (k + m) 0 < 2 ^ s) ∧ Hid (wval L = wval (l.take k) * 2 ^ s * 4294967296 ^ m) ∧
    Own wr w.heap.size (l.length + m + 1) L ∧ Below w.heap.size w wr) (fun i _ => l.length - (intOf i).toNat)
  case atStart =>
    refine ⟨0, List.replicate (l.length + m + 1) 0, rfl, Nat.zero_le _, by simp, words_zero _, fun j _ => nought_zero _ j (Nat.zero_le _), ?_, by show _ = _; rw [wval_zero]; simp [wval], own2, hb2⟩
    show _ < _
    rw [nought_zero _ _ (Nat.zero_le _)]
    exact Nat.pow_pos (by omega)
  case round =>
    clear own2 hb2
    obtain ⟨k, L, rfl, hkl, hll, hsm, hno, hlow, hval, hown, hbw⟩ := hrel
    by_cases hlt : k < l.length
    · obtain ⟨b, o, rfl, hba, hca'⟩ := ra (by intro e; rw [e] at hlt; simp at hlt)
      have c1 : wr.cell? ⟨b, o + k, none⟩ = some (.int .u32 ((l.getD k 0 : Nat) : Int)) := by rw [hbw.cell (p := ⟨b, o + k, none⟩) hba]; exact hca' k hlt
      have xa := words_getD sl k
      obtain ⟨p1, p2, p3, p4, p5, p6⟩ := wide_parts (l.getD k 0) s hs xa
      obtain ⟨o1, o2⟩ := or_low (L.getD (k + m) 0) _ s (by omega) hlow.out p5
      have hz : L.getD (k + m + 1) 0 = 0 := hno.out _ (Nat.le_refl _)
      have hr := left_round (L := L) (j := k + m) (x := l.getD k 0) (s := s) (X := 0) (by omega) hz
      have hval2 : Hid (wval ((L.set (k + m) (L.getD (k + m) 0 + (l.getD k 0 * 2 ^ s) % 4294967296)).set (k + m + 1) ((l.getD k 0 * 2 ^ s) / 4294967296)) = wval (l.take (k + 1)) * 2 ^ s * 4294967296 ^ m) := by
        show _ = _
        rw [hr, hval.out, wval_take_next, Nat.add_mul, Nat.add_mul]
        congr 1
        rw [Nat.pow_add, Nat.mul_assoc, Nat.mul_assoc, Nat.mul_assoc, Nat.mul_comm (4294967296 ^ m), Nat.mul_assoc]
      have c2 : wr.cell? ⟨w.heap.size, k + m, none⟩ = some (.int .u32 ((L.getD (k + m) 0 : Nat) : Int)) := hown.cell (k + m) (by omega)
      have f2 := hown.froz (k + m)
      rw [← p1] at o1 o2
      have hset : Hid (∀ d1 d2 : Nat, Own ((wr.setCell ⟨w.heap.size, k + m, none⟩ (.int .u32 (d1 : Int))).setCell ⟨w.heap.size, k + m + 1, none⟩ (.int .u32 (d2 : Int))) w.heap.size (l.length + m + 1) ((L.set (k + m) d1).set (k + m + 1) d2)) := fun d1 d2 => (hown.set (k + m) d1).set (k + m + 1) d2
      have hbw2 : Hid (∀ u u', Below w.heap.size w ((wr.setCell ⟨w.heap.size, k + m, none⟩ u).setCell ⟨w.heap.size, k + m + 1, none⟩ u')) := fun u u' => (hbw.setCell (Nat.le_refl _) u).setCell (Nat.le_refl _) u'
      have hsm2 : Hid (∀ d1 d2, d1 < 4294967296 → d2 < 4294967296 → Words32 ((L.set (k + m) d1).set (k + m + 1) d2)) := fun d1 d2 h1 h2 => words_set (words_set hsm.out h1) h2
      have hno2 : Hid (∀ d1 d2, Nought ((L.set (k + m) d1).set (k + m + 1) d2) (k + 1 + m + 1)) := fun d1 d2 => by
        have h := nought_set' (d := d2) (nought_set (d := d1) (j := k + m) hno.out (by omega))
        rwa [show k + m + 1 + 1 = k + 1 + m + 1 by omega] at h
      have hlow2 : Hid (∀ d1 d2, ((L.set (k + m) d1).set (k + m + 1) d2).getD (k + 1 + m) 0 = d2) := fun d1 d2 => by
        rw [show k + 1 + m = k + m + 1 by omega]
        rw [List.getD, List.getElem?_set_self (by simp; omega)]
        rfl
      have c4 : ∀ d1 : Nat, (wr.setCell ⟨w.heap.size, k + m, none⟩ (.int .u32 (d1 : Int))).cell? ⟨w.heap.size, k + m + 1, none⟩ = some (.int .u32 0) := fun d1 => by
        rw [(hown.set (k + m) d1).cell (k + m + 1) (by simp; omega), List.getD, List.getElem?_set_ne (by omega)]
        have hz' := hz
        rw [List.getD] at hz'
        rw [hz']
        rfl
      have f4 : ∀ d1 : Nat, (wr.setCell ⟨w.heap.size, k + m, none⟩ (.int .u32 (d1 : Int))).frozen? ⟨w.heap.size, k + m + 1, none⟩ = false := fun d1 => (hown.set (k + m) d1).froz _
      have hw : ((l.getD k 0 : Nat) : Int) * 2 ^ s = ((l.getD k 0 * 2 ^ s : Nat) : Int) := by simp
      have i1 : (k : Int) < (l.length : Int) := by omega
      have i2 : (k : Int) + (m : Int) < ((l.length + m + 1 : Nat) : Int) := by omega
      have i3 : (k : Int) + (m : Int) + 1 < ((l.length + m + 1 : Nat) : Int) := by omega
      rw [← p2] at p3
      have P3 := hide p3
      clear hca' hval hsm hno hown hbw hlow hr p1 p2 p3 p5 p6 hz
      generalize L.getD (k + m) 0 = z at *
      generalize l.getD k 0 = x at *
      generalize x * 2 ^ s = wd at *
      have q1 : (wd : Int) % 4294967296 = ((wd % 4294967296 : Nat) : Int) := by omega
      have q2 : (wd : Int) / 4294967296 = ((wd / 4294967296 : Nat) : Int) := by omega
      have q3 : wd / 4294967296 < 4294967296 := by omega
      generalize wd % 4294967296 = lo at *
      generalize wd / 4294967296 = hg at *
      have c5 := c4 (z + lo)
      have f5 := f4 (z + lo)
      generalize z + lo = d1 at *
      clear c4 f4
      go_wp2
      go_roundw
      case rel => exact ⟨k + 1, (L.set (k + m) d1).set (k + m + 1) hg, by go_num, by omega, by simp [hll], hsm2.out _ _ o2 q3, hno2.out _ _, by show _ < _; rw [hlow2.out]; exact unhide P3, hval2, hset.out _ _, hbw2.out _ _⟩
      case measure => simp only [intOf]; omega
    · have hkl2 : k = l.length := by omega
      have e : Hid (wval L = T) := by show _ = _; rw [hval.out, hkl2]; exact HP.out.symm
      have HL := hide hll
      clear hval hno hlow hkl2
      go_wp2
      go_ret
      refine ⟨L, ?_, hll, hsm.out, e.out, ?_, hbw⟩
      · rw [hll]; rfl
      · rw [hll]; exact hown

/-- A word, shifted to the right, in two. -/
theorem low_parts (x n : Nat) (hn : n < 32) (hx : x < 4294967296) : x * 4294967296 / 2 ^ n = x * 2 ^ (32 - n) ∧ (x * 2 ^ (32 - n)) / 4294967296 = x / 2 ^ n ∧ (x * 2 ^ (32 - n)) % 4294967296 = 2 ^ (32 - n) * (x % 2 ^ n) ∧ x % 2 ^ n < 2 ^ (32 - (32 - n)) ∧ x / 2 ^ n < 2 ^ (32 - n) ∧ x * 2 ^ (32 - n) < 18446744073709551616 ∧ x / 2 ^ n < 4294967296 := by
  have e : 2 ^ (32 - n) * 2 ^ n = 4294967296 := by rw [← Nat.pow_add, show 32 - n + n = 32 by omega]
  have hp : 0 < 2 ^ n := Nat.pow_pos (by omega)
  have hp2 : 0 < 2 ^ (32 - n) := Nat.pow_pos (by omega)
  have h32 : 2 ^ (32 - n) ≤ 4294967296 := Nat.pow_le_pow_right (n := 2) (by omega) (show 32 - n ≤ 32 by omega)
  refine ⟨?_, ?_, ?_, ?_, ?_, ?_, Nat.lt_of_le_of_lt (Nat.div_le_self _ _) hx⟩
  · rw [← e, ← Nat.mul_assoc, Nat.mul_div_cancel _ hp]
  · rw [← e, Nat.mul_comm x, Nat.mul_div_mul_left _ _ hp2]
  · rw [← e, Nat.mul_comm x, Nat.mul_mod_mul_left]
  · rw [show 32 - (32 - n) = n by omega]; exact Nat.mod_lt _ hp
  · exact Nat.div_lt_of_lt_mul (by rw [Nat.mul_comm, e]; exact hx)
  · have : x * 2 ^ (32 - n) ≤ 4294967295 * 4294967296 := Nat.mul_le_mul (by omega) h32
    omega
theorem right_first {x n : Nat} {l : List Nat} (h : l.getD 0 0 = x) : wval (l.take 1) / 2 ^ n = x / 2 ^ n := by
  rw [show (1 : Nat) = 0 + 1 from rfl, wval_take_next, h]
  simp [wval]
theorem right_next (l : List Nat) (k n : Nat) (hn : n < 32) : wval (l.take (k + 1 + 1)) / 2 ^ n = wval (l.take (k + 1)) / 2 ^ n + 4294967296 ^ k * (l.getD (k + 1) 0 * 2 ^ (32 - n)) := by
  have e : 2 ^ (32 - n) * 2 ^ n = 4294967296 := by rw [← Nat.pow_add, show 32 - n + n = 32 by omega]
  have hp : 0 < 2 ^ n := Nat.pow_pos (by omega)
  rw [wval_take_next l (k + 1)]
  have e2 : 4294967296 ^ (k + 1) * l.getD (k + 1) 0 = 2 ^ n * (4294967296 ^ k * (l.getD (k + 1) 0 * 2 ^ (32 - n))) := by
    rw [Nat.pow_succ]
    rw (config := { occs := .pos [2] }) [← e]
    rw [Nat.mul_comm (2 ^ n), Nat.mul_assoc, Nat.mul_assoc, Nat.mul_assoc, Nat.mul_comm (l.getD (k + 1) 0), Nat.mul_assoc, Nat.mul_comm (2 ^ n)]
  rw [e2, Nat.add_mul_div_left _ _ hp]
/-- A round of the shift to the right. -/
theorem right_round {L : List Nat} {k d h : Nat} (hk : k + 1 < L.length) (hz : L.getD (k + 1) 0 = 0) :
    wval ((L.set (k + 1) (d / 4294967296)).set k (L.getD k 0 + d % 4294967296)) = wval L + 4294967296 ^ k * d := by
  have h1 := wval_set L (d / 4294967296) (k + 1) hk
  have h2 := wval_set (L.set (k + 1) (d / 4294967296)) (L.getD k 0 + d % 4294967296) k (by simp; omega)
  have e : (L.set (k + 1) (d / 4294967296)).getD k 0 = L.getD k 0 := by
    rw [List.getD, List.getElem?_set_ne (by omega)]; rfl
  rw [e] at h2
  rw [hz, Nat.mul_zero] at h1
  have e2 : 4294967296 ^ (k + 1) * (d / 4294967296) = 4294967296 ^ k * (4294967296 * (d / 4294967296)) := by rw [Nat.pow_succ, Nat.mul_assoc]
  have e3 : 4294967296 ^ k * (L.getD k 0 + d % 4294967296) + 4294967296 ^ k * (4294967296 * (d / 4294967296)) = 4294967296 ^ k * L.getD k 0 + 4294967296 ^ k * d := by
    rw [← Nat.mul_add, Nat.add_assoc, Nat.mod_add_div, Nat.mul_add]
  omega

set_option maxHeartbeats 8000000 in
set_option maxRecDepth 100000 in
theorem shiftRight_any (w : World) (v : Value) (l : List Nat) (n : Nat) (hv : WSl w v l) (sl : Words32 l) (ll : l.length ≤ 400000) (hn : n < 32) :
    Calls Tryd.prog 110 #[v, .int .i64 n] w fun e w' => ∃ L : List Nat, e = .returned (.slice (some ⟨w.heap.size, 0, none⟩) L.length L.length) ∧ L.length = l.length ∧ Words32 L ∧ wval L = wval l / 2 ^ n ∧
      Own w' w.heap.size L.length L ∧ Below w.heap.size w w' := by
  obtain ⟨i0, hi, hz0, hz1, hz2⟩ := info_parts infoU
  obtain ⟨aa, ca, rfl, hca, ra⟩ := hv
  go_enter Tryd.func110, Tryd.ntmps110
  go_wp2_with (at_make; refine wpList_make_full _ rfl _ _ 36 rfl w.heap.size 40 i0 (.int .u32 0) 1 Tryd.underlying36 hi hz0 hz1 _ _ _ _ l.length rfl rfl (by omega) (by omega) ?b2 ?b3 ?b4 ?_)
  case b2 => rw [hz2]; omega
  case b3 => unfold maxLen; omega
  case b4 => exact Nat.le_refl _
  intro w2 hown2 hgrow2
  have hb2 : Below w.heap.size w w2 := (Below.refl _ w).grown hgrow2 (Nat.le_refl _) (fun k h => by cases h)
  have own2 : Own w2 w.heap.size l.length (List.replicate l.length 0) := own_made hown2
  clear hgrow2 hown2
  go_wp2_with fail
  go_loopw [14] (fun i wr => ∃ (k : Nat) (L : List Nat), i = .int .i64 k ∧ k ≤ l.length ∧ L.length = l.length ∧ Hid (Words32 L) ∧ Hid (Nought L k) ∧ Hid (∀ j, k = j + 1 → L.getD j 0 < 2 ^ (32 - n)) ∧ Hid (wval L = wval (l.take k) / 2 ^ n) ∧
    Own wr w.heap.size l.length L ∧ Below w.heap.size w wr) (fun i _ => l.length - (intOf i).toNat)
  case atStart => exact ⟨0, List.replicate l.length 0, rfl, Nat.zero_le _, by simp, words_zero _, fun j _ => nought_zero _ j (Nat.zero_le _), fun j h => by omega, by show _ = _; rw [wval_zero]; simp [wval], own2, hb2⟩
  case round =>
    clear own2 hb2
    obtain ⟨k, L, rfl, hkl, hll, hsm, hno, hlow, hval, hown, hbw⟩ := hrel
    by_cases hlt : k < l.length
    · obtain ⟨b, o, rfl, hba, hca'⟩ := ra (by intro e; rw [e] at hlt; simp at hlt)
      have c1 : wr.cell? ⟨b, o + k, none⟩ = some (.int .u32 ((l.getD k 0 : Nat) : Int)) := by rw [hbw.cell (p := ⟨b, o + k, none⟩) hba]; exact hca' k hlt
      have xa := words_getD sl k
      obtain ⟨p1, p2, p3, p4, p5, p6, p7⟩ := low_parts (l.getD k 0) n hn xa
      have hz : L.getD k 0 = 0 := hno.out _ (Nat.le_refl _)
      have c2 : wr.cell? ⟨w.heap.size, k, none⟩ = some (.int .u32 0) := by rw [hown.cell k (by omega), hz]; rfl
      have f2 := hown.froz k
      have i1 : (k : Int) < (l.length : Int) := by omega
      have hw : ((l.getD k 0 : Nat) : Int) * 4294967296 / 2 ^ n = ((l.getD k 0 * 2 ^ (32 - n) : Nat) : Int) := by
        rw [← p1]; simp
      have hx64 : l.getD k 0 * 4294967296 < 18446744073709551616 := by omega
      clear hca'
      cases k with
      | zero =>
        have hval2 : Hid (wval (L.set 0 (l.getD 0 0 / 2 ^ n)) = wval (l.take (0 + 1)) / 2 ^ n) := by
          show _ = _
          have h := wval_set L (l.getD 0 0 / 2 ^ n) 0 (by omega)
          rw [right_first rfl]
          have h2 := hval.out
          rw [hz, Nat.mul_zero, Nat.pow_zero, Nat.one_mul] at h
          rw [List.take_zero, show wval [] = 0 from rfl, Nat.zero_div] at h2
          generalize l.getD 0 0 / 2 ^ n = y at *
          omega
        have hset : Hid (∀ d : Nat, Own (wr.setCell ⟨w.heap.size, 0, none⟩ (.int .u32 (d : Int))) w.heap.size l.length (L.set 0 d)) := fun d => hown.set 0 d
        have hbw2 : Hid (∀ u, Below w.heap.size w (wr.setCell ⟨w.heap.size, 0, none⟩ u)) := fun u => hbw.setCell (Nat.le_refl _) u
        have hsm2 : Hid (∀ d, d < 4294967296 → Words32 (L.set 0 d)) := fun d h => words_set hsm.out h
        have hno2 : Hid (∀ d, Nought (L.set 0 d) (0 + 1)) := fun d => nought_set' hno.out
        have hlow2 : Hid (∀ d, d < 2 ^ (32 - n) → ∀ j, 0 + 1 = j + 1 → (L.set 0 d).getD j 0 < 2 ^ (32 - n)) := fun d h j e => by
          have : j = 0 := by omega
          subst this
          rw [List.getD, List.getElem?_set_self (by omega)]
          exact h
        rw [Nat.add_zero] at c1
        have P5 := hide p5
        have P2 := hide p2
        have HV := hide hval2
        rw [← p2] at p7
        clear hval hsm hno hown hbw hlow p1 p2 p3 p4 p5 hz hval2
        generalize hxx : l.getD 0 0 / 2 ^ n = hg at *
        clear hxx
        generalize l.getD 0 0 = x at *
        generalize x * 2 ^ (32 - n) = wd at *
        have q2 : (wd : Int) / 4294967296 = ((wd / 4294967296 : Nat) : Int) := by omega
        rw [unhide P2] at q2 p7
        go_wp2
        go_roundw
        case rel => exact ⟨0 + 1, L.set 0 hg, by go_num, by omega, by simp [hll], hsm2.out _ p7, hno2.out _, hlow2.out _ (unhide P5), (unhide HV).out, hset.out _, hbw2.out _⟩
        case measure => simp only [intOf]; omega
      | succ j =>
        obtain ⟨o1, o2⟩ := or_low (L.getD j 0) _ (32 - n) (by omega) (hlow.out j rfl) p4
        have hval2 : Hid (wval ((L.set (j + 1) (l.getD (j + 1) 0 * 2 ^ (32 - n) / 4294967296)).set j (L.getD j 0 + l.getD (j + 1) 0 * 2 ^ (32 - n) % 4294967296)) = wval (l.take (j + 1 + 1)) / 2 ^ n) := by
          show _ = _
          rw [right_round (h := 0) (by omega) hz, right_next l j n hn, hval.out]
        have c3 : ∀ d1 : Nat, (wr.setCell ⟨w.heap.size, j + 1, none⟩ (.int .u32 (d1 : Int))).cell? ⟨w.heap.size, j, none⟩ = some (.int .u32 ((L.getD j 0 : Nat) : Int)) := fun d1 => by
          rw [(hown.set (j + 1) d1).cell j (by simp; omega), List.getD, List.getElem?_set_ne (by omega)]
          rfl
        have f3 : ∀ d1 : Nat, (wr.setCell ⟨w.heap.size, j + 1, none⟩ (.int .u32 (d1 : Int))).frozen? ⟨w.heap.size, j, none⟩ = false := fun d1 => (hown.set (j + 1) d1).froz _
        have hset : Hid (∀ d1 d2 : Nat, Own ((wr.setCell ⟨w.heap.size, j + 1, none⟩ (.int .u32 (d1 : Int))).setCell ⟨w.heap.size, j, none⟩ (.int .u32 (d2 : Int))) w.heap.size l.length ((L.set (j + 1) d1).set j d2)) := fun d1 d2 => (hown.set (j + 1) d1).set j d2
        have hbw2 : Hid (∀ u u', Below w.heap.size w ((wr.setCell ⟨w.heap.size, j + 1, none⟩ u).setCell ⟨w.heap.size, j, none⟩ u')) := fun u u' => (hbw.setCell (Nat.le_refl _) u).setCell (Nat.le_refl _) u'
        have hsm2 : Hid (∀ d1 d2, d1 < 4294967296 → d2 < 4294967296 → Words32 ((L.set (j + 1) d1).set j d2)) := fun d1 d2 h1 h2 => words_set (words_set hsm.out h1) h2
        have hno2 : Hid (∀ d1 d2, Nought ((L.set (j + 1) d1).set j d2) (j + 1 + 1)) := fun d1 d2 => nought_set (nought_set' hno.out) (by omega)
        have hlow2 : Hid (∀ d1 d2, d1 < 2 ^ (32 - n) → ∀ i, j + 1 + 1 = i + 1 → ((L.set (j + 1) d1).set j d2).getD i 0 < 2 ^ (32 - n)) := fun d1 d2 h i e => by
          have : i = j + 1 := by omega
          subst this
          rw [List.getD, List.getElem?_set_ne (by omega), List.getElem?_set_self (by omega)]
          exact h
        rw [← p3] at o1 o2
        rw [← p2] at p5 p7
        have P5 := hide p5
        clear hval hsm hno hown hbw hlow p1 p2 p3 p4 p5 hz
        generalize L.getD j 0 = z at *
        generalize l.getD (j + 1) 0 = x at *
        generalize x * 2 ^ (32 - n) = wd at *
        have q1 : (wd : Int) % 4294967296 = ((wd % 4294967296 : Nat) : Int) := by omega
        have q2 : (wd : Int) / 4294967296 = ((wd / 4294967296 : Nat) : Int) := by omega
        generalize wd % 4294967296 = lo at *
        generalize wd / 4294967296 = hg at *
        have c4 := c3 hg
        have f4 := f3 hg
        clear c3 f3
        generalize z + lo = d1 at *
        have e0 : ((j + 1 : Nat) : Int) - 1 = (j : Int) := by omega
        have i2 : (j : Int) < (l.length : Int) := by omega
        go_wp2
        go_roundw
        case rel => exact ⟨j + 1 + 1, (L.set (j + 1) hg).set j d1, by go_num, by omega, by simp [hll], hsm2.out _ _ p7 o2, hno2.out _ _, hlow2.out _ _ (unhide P5), hval2, hset.out _ _, hbw2.out _ _⟩
        case measure => simp only [intOf]; omega
    · have hkl2 : k = l.length := by omega
      have e : Hid (wval L = wval l / 2 ^ n) := by show _ = _; rw [hval.out, hkl2, List.take_length]
      clear hval hno hlow hkl2
      go_wp2
      go_ret
      refine ⟨L, ?_, hll, hsm.out, e.out, ?_, hbw⟩
      · rw [hll]; rfl
      · rw [hll]; exact hown
end Go.Proofs.YtobbbhmkcmbekaaDoor.bigs
