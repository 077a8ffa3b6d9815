/- The walks of package big: Mul. -/
import Derived.Test.YtobbbhmkcmbekaaDoorWordAdd
set_option linter.unusedVariables false
namespace Go.Proofs.YtobbbhmkcmbekaaDoor.bigs
open Go.RowKit

theorem mul_round {l b : List Nat} {i k q a X : Nat} (hj : i + k < l.length) (h : wval l + 4294967296 ^ (i + k) * q = X + 4294967296 ^ i * a * wval (b.take k)) :
    wval (l.set (i + k) ((q + (a * b.getD k 0 + l.getD (i + k) 0)) % 4294967296)) + 4294967296 ^ (i + (k + 1)) * ((q + (a * b.getD k 0 + l.getD (i + k) 0)) / 4294967296) = X + 4294967296 ^ i * a * wval (b.take (k + 1)) := by
  have h1 := wval_set l ((q + (a * b.getD k 0 + l.getD (i + k) 0)) % 4294967296) (i + k) hj
  rw [wval_take_next]
  generalize l.getD (i + k) 0 = z at *
  generalize b.getD k 0 = y at *
  have e1 : 4294967296 ^ (i + (k + 1)) * ((q + (a * y + z)) / 4294967296) = 4294967296 ^ (i + k) * (4294967296 * ((q + (a * y + z)) / 4294967296)) := by rw [← Nat.add_assoc, Nat.pow_succ, Nat.mul_assoc]
  have e2 : 4294967296 ^ (i + k) * ((q + (a * y + z)) % 4294967296) + 4294967296 ^ (i + k) * (4294967296 * ((q + (a * y + z)) / 4294967296)) = 4294967296 ^ (i + k) * q + (4294967296 ^ (i + k) * (a * y) + 4294967296 ^ (i + k) * z) := by
    rw [← Nat.mul_add, Nat.mod_add_div, Nat.mul_add, Nat.mul_add]
  have e3 : 4294967296 ^ i * a * (wval (b.take k) + 4294967296 ^ k * y) = 4294967296 ^ i * a * wval (b.take k) + 4294967296 ^ (i + k) * (a * y) := by
    rw [Nat.mul_add, Nat.pow_add, Nat.mul_assoc, Nat.mul_assoc, Nat.mul_assoc, Nat.mul_left_comm a]
  omega
theorem mul_next {l a b : List Nat} {i : Nat} (h : wval l = wval (a.take i) * wval b + 4294967296 ^ i * a.getD i 0 * wval b) : wval l = wval (a.take (i + 1)) * wval b := by
  rw [h, wval_take_next, Nat.add_mul]

set_option maxHeartbeats 8000000 in
set_option maxRecDepth 100000 in
theorem mul_any (w : World) (v u : Value) (l k : List Nat) (hv : WSl w v l) (hu : WSl w u k) (sl : Words32 l) (sk : Words32 k) (ll : l.length ≤ 400000) (lk : k.length ≤ 400000) :
    Calls Tryd.prog 44 #[v, u] w fun e w' => ∃ v', e = .returned v' ∧ WBig w' v' (wval l * wval k) ∧ Below w.heap.size w w' := by
  obtain ⟨i0, hi, hz0, hz1, hz2⟩ := info_parts infoU
  obtain ⟨aa, ca, rfl, hca, ra⟩ := hv
  obtain ⟨ab, cb, rfl, hcb, rb⟩ := hu
  have K1 := hide (wcut_any w aa l ca (by omega) hca ra sl)
  have K2 := hide (wcut_any w ab k cb (by omega) hcb rb sk)
  have rA := ra.cut sl
  have rB := rb.cut sk
  have lA : (wdig (wval l)).length ≤ 400000 := Nat.le_trans (wdig_len_words sl) ll
  have lB : (wdig (wval k)).length ≤ 400000 := Nat.le_trans (wdig_len_words sk) lk
  have sA := words_wdig (wval l)
  have sB := words_wdig (wval k)
  have HE : Hid (wval ((wdig (wval l)).take (wdig (wval l)).length) * wval (wdig (wval k)) = wval l * wval k) := by show _ = _; rw [List.take_length, wval_wdig, wval_wdig]
  clear ra rb sl sk
  generalize wdig (wval l) = A at *
  generalize wdig (wval k) = B at *
  generalize wval l * wval k = S at *
  go_enter Tryd.func44, Tryd.ntmps44
  go_wp2_with fail
  refine (unhide K1).mono ?_
  rintro e w1 ⟨rfl, rfl⟩
  go_wp2_with fail
  refine (unhide K2).mono ?_
  rintro e w1 ⟨rfl, rfl⟩
  clear K1 K2
  go_wp2_with (at_make; refine wpList_make_full _ rfl _ _ 36 rfl w1.heap.size 40 i0 (.int .u32 0) 1 Tryd.underlying36 hi hz0 hz1 _ _ _ _ (A.length + B.length) rfl rfl (by omega) (by omega) ?b2 ?b3 ?b4 ?_)
  case b2 => rw [hz2]; omega
  case b3 => unfold maxLen; omega
  case b4 => exact Nat.le_refl _
  intro w2 hown2 hgrow2
  have hb2 : Below w1.heap.size w1 w2 := (Below.refl _ w1).grown hgrow2 (Nat.le_refl _) (fun k h => by cases h)
  have own2 : Own w2 w1.heap.size (A.length + B.length) (List.replicate (A.length + B.length) 0) := own_made hown2
  clear hgrow2 hown2
  go_wp2_with fail
  go_loopw [23] (fun i wr => ∃ (k : Nat) (L : List Nat), i = .int .i64 k ∧ k ≤ A.length ∧ L.length = A.length + B.length ∧ Hid (Words32 L) ∧ Hid (Nought L (k + B.length)) ∧ Hid (wval L = wval (A.take k) * wval B) ∧
    Own wr w1.heap.size (A.length + B.length) L ∧ Below w1.heap.size w1 wr) (fun i _ => A.length - (intOf i).toNat)
  case atStart => exact ⟨0, List.replicate (A.length + B.length) 0, rfl, Nat.zero_le _, by simp, words_zero _, fun j _ => nought_zero _ j (Nat.zero_le _), by show _ = _; rw [wval_zero]; simp [wval], own2, hb2⟩
  case round =>
    clear own2 hb2
    obtain ⟨i, L, rfl, hiA, hll, hsm, hno, hval, hown, hbw⟩ := hrel
    by_cases hlt : i < A.length
    · obtain ⟨b, o, rfl, hba, hca'⟩ := rA (by intro e; rw [e] at hlt; simp at hlt)
      have hca2 := hca' i hlt
      have xa := words_getD sA i
      have HN : Hid (∀ l : List Nat, wval l = wval (A.take i) * wval B + 4294967296 ^ i * A.getD i 0 * wval B → wval l = wval (A.take (i + 1)) * wval B) := fun l h => mul_next h
      have c1 : wr.cell? ⟨b, o + i, none⟩ = some (.int .u32 ((A.getD i 0 : Nat) : Int)) := by rw [hbw.cell (p := ⟨b, o + i, none⟩) hba]; exact hca2
      have i1 : (i : Int) < (A.length : Int) := by omega
      clear hca' hca2
      generalize hx : A.getD i 0 = x at *
      have HX := hide hx
      clear hx
      generalize hXX : wval (A.take i) * wval B = X at *
      have HXX := hide hXX
      clear hXX
      go_wp2_with fail
      go_loopw [8, 30] (fun cc kk wr => ∃ (k q : Nat) (L : List Nat), kk = .int .i64 k ∧ cc = .int .u64 q ∧ q < 4294967296 ∧ k ≤ B.length ∧ L.length = A.length + B.length ∧ Hid (Words32 L) ∧
        Hid (Nought L (i + B.length)) ∧ Hid (wval L + 4294967296 ^ (i + k) * q = X + 4294967296 ^ i * x * wval (B.take k)) ∧
        Own wr w1.heap.size (A.length + B.length) L ∧ Below w1.heap.size w1 wr) (fun _ kk _ => B.length - (intOf kk).toNat)
      case atStart => exact ⟨0, 0, L, rfl, rfl, by omega, by omega, hll, hsm, hno, by show _ = _; rw [hval.out]; simp [wval], hown, hbw⟩
      case round =>
        clear hown hbw hsm hno hval hll c1
        obtain ⟨k, q, L, rfl, rfl, hq, hkB, hll, hsm, hno, hval, hown, hbw⟩ := hrel
        by_cases hgo : k < B.length
        · obtain ⟨b2, o2, rfl, hbb, hcb'⟩ := rB (by intro e; rw [e] at hgo; simp at hgo)
          have xb := words_getD sB k
          have xz := words_getD hsm.out (i + k)
          have c2 : wr.cell? ⟨b2, o2 + k, none⟩ = some (.int .u32 ((B.getD k 0 : Nat) : Int)) := by rw [hbw.cell (p := ⟨b2, o2 + k, none⟩) hbb]; exact hcb' k hgo
          have c3 : wr.cell? ⟨w1.heap.size, i + k, none⟩ = some (.int .u32 ((L.getD (i + k) 0 : Nat) : Int)) := hown.cell (i + k) (by omega)
          have f3 := hown.froz (i + k)
          have hval2 : Hid (wval (L.set (i + k) ((q + (x * B.getD k 0 + L.getD (i + k) 0)) % 4294967296)) + 4294967296 ^ (i + (k + 1)) * ((q + (x * B.getD k 0 + L.getD (i + k) 0)) / 4294967296) = X + 4294967296 ^ i * x * wval (B.take (k + 1))) := mul_round (by omega) hval.out
          have hsm2 : Hid (∀ d, d < 4294967296 → Words32 (L.set (i + k) d)) := fun d h => words_set hsm.out h
          have hno2 : Hid (∀ d, Nought (L.set (i + k) d) (i + B.length)) := fun d => nought_set hno.out (by omega)
          have hset : Hid (∀ d : Nat, Own (wr.setCell ⟨w1.heap.size, i + k, none⟩ (.int .u32 (d : Int))) w1.heap.size (A.length + B.length) (L.set (i + k) d)) := fun d => hown.set (i + k) d
          have hbw2 : Hid (∀ u, Below w1.heap.size w1 (wr.setCell ⟨w1.heap.size, i + k, none⟩ u)) := fun u => hbw.setCell (Nat.le_refl _) u
          have i2 : (k : Int) < (B.length : Int) := by omega
          have i3 : (i : Int) + (k : Int) < ((A.length + B.length : Nat) : Int) := by omega
          clear hcb' hval hsm hno hown hbw
          generalize B.getD k 0 = y at *
          generalize L.getD (i + k) 0 = z at *
          have hp : x * y ≤ 4294967295 * 4294967295 := Nat.mul_le_mul (by omega) (by omega)
          have hpi : (x : Int) * (y : Int) = ((x * y : Nat) : Int) := by rw [Int.natCast_mul]
          generalize x * y = p at *
          go_wp2
          go_roundw
          case rel =>
            have ed : (((q : Int) + ((p : Int) + (z : Int))) % 4294967296) = (((q + (p + z)) % 4294967296 : Nat) : Int) := by omega
            refine ⟨k + 1, (q + (p + z)) / 4294967296, L.set (i + k) ((q + (p + z)) % 4294967296), by go_num, by go_num, by omega, by omega, by simp [hll], hsm2.out _ (by omega), hno2.out _, hval2, ?_, hbw2.out _⟩
            rw [ed]
            exact hset.out _
          case measure => simp only [intOf]; omega
        · have hkB2 : k = B.length := by omega
          have hz : L.getD (i + B.length) 0 = 0 := hno.out _ (Nat.le_refl _)
          have c3 : wr.cell? ⟨w1.heap.size, i + B.length, none⟩ = some (.int .u32 0) := by
            rw [hown.cell (i + B.length) (by omega), hz]; rfl
          have f3 := hown.froz (i + B.length)
          have hval2 : Hid (wval (L.set (i + B.length) q) = wval (A.take (i + 1)) * wval B) := by
            refine HN.out _ ?_
            have h := hval.out
            have h2 := wval_set L q (i + B.length) (by omega)
            rw [hkB2, List.take_length] at h
            rw [hz, Nat.mul_zero] at h2
            omega
          have hsm2 : Hid (Words32 (L.set (i + B.length) q)) := words_set hsm.out hq
          have hno2 : Hid (Nought (L.set (i + B.length) q) (i + 1 + B.length)) := by
            have h := nought_set' (d := q) hno.out
            rwa [show i + B.length + 1 = i + 1 + B.length by omega] at h
          have hset : Hid (Own (wr.setCell ⟨w1.heap.size, i + B.length, none⟩ (.int .u32 (q : Int))) w1.heap.size (A.length + B.length) (L.set (i + B.length) q)) := hown.set _ q
          have hbw2 : Hid (∀ u, Below w1.heap.size w1 (wr.setCell ⟨w1.heap.size, i + B.length, none⟩ u)) := fun u => hbw.setCell (Nat.le_refl _) u
          have i2 : ¬ (k : Int) < (B.length : Int) := by omega
          have i3 : (i : Int) + (B.length : Int) < ((A.length + B.length : Nat) : Int) := by omega
          clear hval hsm hno hown hbw hkB2 hz HN
          go_wp2
          go_roundw
          case rel => exact ⟨i + 1, L.set (i + B.length) q, by go_num, by omega, by simp [hll], hsm2, hno2, hval2, hset, hbw2.out _⟩
          case measure => simp only [intOf]; omega
    · have hkl : i = A.length := by omega
      have e : wval L = S := by rw [hval.out, hkl]; exact HE.out
      have C1 := hide (wcut_any wr (some ⟨w1.heap.size, 0, none⟩) L (A.length + B.length) (by omega) (by omega) hown.row hsm.out)
      have R1 := hide (hown.row.cut hsm.out)
      have L1 : Hid ((wdig (wval L)).length ≤ A.length + B.length) := by have := wdig_len_words hsm.out; show _ ≤ _; omega
      rw [hll, e] at C1
      rw [e] at R1 L1
      clear hval hown hsm e hno hkl hll
      go_wp2_with fail
      refine (unhide C1).mono ?_
      rintro e w2 ⟨rfl, rfl⟩
      go_wp2
      go_ret
      exact ⟨_, rfl, ⟨_, _, rfl, L1.out, unhide R1⟩, hbw⟩
end Go.Proofs.YtobbbhmkcmbekaaDoor.bigs
