/- The walks of package big: addTo, takeTimes. -/
import Derived.Test.YtobbbhmkcmbekaaDoorWordCut
set_option linter.unusedVariables false
namespace Go.Proofs.YtobbbhmkcmbekaaDoor.bigs
open Go.RowKit

/-- What was there ahead of a block lies in another. -/
theorem wsl_apart {w : World} {v : Value} {l : List Nat} {g : Nat} (h : WSl w v l) (hg : w.heap.size ≤ g) : l ≠ [] → v.ownBlock ≠ some g := by
  obtain ⟨a, c, rfl, _, hr⟩ := h
  intro h0 e
  obtain ⟨b, o, rfl, hb, _⟩ := hr h0
  have e' : some b = some g := e
  simp at e'
  omega
/-- A round of the sum. -/
theorem add_round {D M B : List Nat} {k q : Nat} (hD : D.length = k) (h : wval D + 4294967296 ^ k * q = wval (M.take k) + wval (B.take k)) :
    wval (D ++ [(q + M.getD k 0 + B.getD k 0) % 4294967296]) + 4294967296 ^ (k + 1) * ((q + M.getD k 0 + B.getD k 0) / 4294967296) = wval (M.take (k + 1)) + wval (B.take (k + 1)) := by
  rw [wval_append, wval_one, hD, wval_take_next, wval_take_next]
  generalize M.getD k 0 = x
  generalize B.getD k 0 = y
  have e : 4294967296 ^ (k + 1) * ((q + x + y) / 4294967296) = 4294967296 ^ k * (4294967296 * ((q + x + y) / 4294967296)) := by rw [Nat.pow_succ, Nat.mul_assoc]
  have e2 : 4294967296 ^ k * ((q + x + y) % 4294967296) + 4294967296 ^ k * (4294967296 * ((q + x + y) / 4294967296)) = 4294967296 ^ k * q + 4294967296 ^ k * x + 4294967296 ^ k * y := by
    rw [← Nat.mul_add, Nat.mod_add_div, Nat.mul_add, Nat.mul_add]
  omega
theorem getD_past {l : List Nat} {k : Nat} (h : l.length ≤ k) : l.getD k 0 = 0 := by rw [List.getD, List.getElem?_eq_none h]; rfl

set_option maxHeartbeats 4000000 in
set_option maxRecDepth 100000 in
theorem addTo_any (w : World) (g c o ca : Nat) (P M S B : List Nat) (vb : Value) (ho : P.length = o) (hBM : B.length ≤ M.length) (hM : M.length ≤ 1000000) (sM : Words32 M) (sB : Words32 B)
    (own : Own w g c (P ++ (M ++ S))) (hB : WSl w vb B) (hne : B ≠ [] → vb.ownBlock ≠ some g) :
    Calls Tryd.prog 113 #[.slice (some ⟨g, o, none⟩) M.length ca, vb] w fun e w' => ∃ (M' : List Nat) (b : Bool), e = .returned (.bool b) ∧ M'.length = M.length ∧ Words32 M' ∧
      wval M' + 4294967296 ^ M.length * b.toNat = wval M + wval B ∧ Own w' g c (P ++ (M' ++ S)) ∧ w.grownBy w' (some g) := by
  obtain ⟨ab, cb, rfl, hcb, rb⟩ := hB
  have hne' : B ≠ [] → ∀ b o s, ab = some ⟨b, o, s⟩ → b ≠ g := fun h0 b o s e h => hne h0 (by rw [e, h]; rfl)
  clear hne
  subst ho
  go_enter Tryd.func113, Tryd.ntmps113
  go_wp2
  go_loopw [5, 10] (fun cc i wr => ∃ (k q : Nat) (D : List Nat), i = .int .i64 k ∧ cc = .int .u64 q ∧ q ≤ 1 ∧ k ≤ M.length ∧ Hid (D.length = k) ∧ Hid (Words32 D) ∧ Hid (wval D + 4294967296 ^ k * q = wval (M.take k) + wval (B.take k)) ∧
    Own wr g c (P ++ ((D ++ M.drop k) ++ S)) ∧ w.grownBy wr (some g)) (fun _ i _ => M.length - (intOf i).toNat)
  case atStart => exact ⟨0, 0, [], rfl, rfl, by omega, Nat.zero_le _, rfl, words_nil, by show _ = _; simp [wval], own, grown_refl _ _⟩
  case round =>
    clear own
    obtain ⟨k, q, D, rfl, rfl, hq, hkM, hD, sD, hval, hown, hgr⟩ := hrel
    by_cases hlt : k < M.length
    · have hlen : (D ++ M.drop k).length = M.length := front_len hD.out hkM
      have c1 : wr.cell? ⟨g, P.length + k, none⟩ = some (.int .u32 ((M.getD k 0 : Nat) : Int)) := by
        rw [hown.cellMid k (by omega), front_get hD.out hlt]
      have f1 := hown.froz (P.length + k)
      have x1 := words_getD sM k
      have x2 := words_getD sB k
      have hval2 : Hid (wval (D ++ [(q + M.getD k 0 + B.getD k 0) % 4294967296]) + 4294967296 ^ (k + 1) * ((q + M.getD k 0 + B.getD k 0) / 4294967296) = wval (M.take (k + 1)) + wval (B.take (k + 1))) := add_round hD.out hval.out
      have sD2 : Hid (Words32 (D ++ [(q + M.getD k 0 + B.getD k 0) % 4294967296])) := words_append.2 ⟨sD.out, words_one (by omega)⟩
      have hD2 : Hid (∀ d, (D ++ [d]).length = k + 1) := fun d => by rw [List.length_append, hD.out]; rfl
      have hset : Hid (∀ d : Nat, Own (wr.setCell ⟨g, P.length + k, none⟩ (.int .u32 (d : Int))) g c (P ++ (((D ++ [d]) ++ M.drop (k + 1)) ++ S))) := fun d => by
        have h := hown.setMid k d (by omega)
        rwa [front_set hD.out hlt] at h
      have hgr2 : Hid (∀ u, w.grownBy (wr.setCell ⟨g, P.length + k, none⟩ u) (some g)) := fun u => grown_cell hgr _ u
      have i1 : (k : Int) < (M.length : Int) := by omega
      by_cases hb : k < B.length
      · obtain ⟨b, ob, rfl, hbb, hcb'⟩ := rb (by intro e; rw [e] at hb; simp at hb)
        have hbg := hne' (by intro e; rw [e] at hb; simp at hb) b ob none rfl
        have c2 : wr.cell? ⟨b, ob + k, none⟩ = some (.int .u32 ((B.getD k 0 : Nat) : Int)) := hgr.cell (hcb' k hb) (fun e => hbg (by simpa using e))
        have i2 : (k : Int) < (B.length : Int) := by omega
        clear hcb' hne' hval sD hown hgr hlen rb
        generalize M.getD k 0 = x at *
        generalize B.getD k 0 = y at *
        go_wp2
        go_roundw
        case rel =>
          have ed : (((q : Int) + (x : Int) + (y : Int)) % 4294967296) = (((q + x + y) % 4294967296 : Nat) : Int) := by omega
          refine ⟨k + 1, (q + x + y) / 4294967296, D ++ [(q + x + y) % 4294967296], by go_num, by go_num, by omega, by omega, hD2.out _, sD2, hval2, ?_, hgr2.out _⟩
          rw [ed]
          exact hset.out _
        case measure => simp only [intOf]; omega
      · have e0 : B.getD k 0 = 0 := getD_past (by omega)
        have i2 : ¬ (k : Int) < (B.length : Int) := by omega
        rw [e0] at hval2 sD2
        clear hne' hval sD hown hgr hlen rb x2 e0
        generalize M.getD k 0 = x at *
        go_wp2
        go_roundw
        case rel =>
          have ed : (((q : Int) + (x : Int)) % 4294967296) = (((q + x + 0) % 4294967296 : Nat) : Int) := by omega
          refine ⟨k + 1, (q + x + 0) / 4294967296, D ++ [(q + x + 0) % 4294967296], by go_num, by congr 1, by omega, by omega, hD2.out _, sD2, hval2, ?_, hgr2.out _⟩
          rw [ed]
          exact hset.out _
        case measure => simp only [intOf]; omega
    · have hkl : k = M.length := by omega
      have HK := hide hkl
      have hfin : Hid (D.length = M.length ∧ wval D + 4294967296 ^ M.length * q = wval M + wval B ∧ Own wr g c (P ++ (D ++ S))) := by
        refine ⟨by rw [hD.out, hkl], ?_, ?_⟩
        · have h := hval.out
          rwa [hkl, List.take_length, List.take_of_length_le hBM] at h
        · rwa [hkl, List.drop_length, List.append_nil] at hown
      clear hkl hval hown hD
      have h01 : q = 0 ∨ q = 1 := by omega
      rcases h01 with rfl | rfl
      · go_wp2
        go_ret
        exact ⟨D, false, rfl, hfin.out.1, sD.out, hfin.out.2.1, hfin.out.2.2, hgr⟩
      · go_wp2
        go_ret
        exact ⟨D, true, rfl, hfin.out.1, sD.out, hfin.out.2.1, hfin.out.2.2, hgr⟩

/-- A round of what is taken. -/
theorem take_round {D M B : List Nat} {k q q' n d : Nat} (hD : D.length = k) (h : wval D + n * wval (B.take k) = wval (M.take k) + 4294967296 ^ k * q) (hd : q + B.getD k 0 * n + d = M.getD k 0 + 4294967296 * q') :
    wval (D ++ [d]) + n * wval (B.take (k + 1)) = wval (M.take (k + 1)) + 4294967296 ^ (k + 1) * q' := by
  rw [wval_append, wval_one, hD, wval_take_next, wval_take_next]
  generalize M.getD k 0 = x at *
  generalize B.getD k 0 = y at *
  have e : 4294967296 ^ (k + 1) * q' = 4294967296 ^ k * (4294967296 * q') := by rw [Nat.pow_succ, Nat.mul_assoc]
  have e2 : n * (wval (B.take k) + 4294967296 ^ k * y) = n * wval (B.take k) + 4294967296 ^ k * (y * n) := by rw [Nat.mul_add, Nat.mul_left_comm, Nat.mul_comm n y]
  have e3 : 4294967296 ^ k * q + 4294967296 ^ k * (y * n) + 4294967296 ^ k * d = 4294967296 ^ k * x + 4294967296 ^ k * (4294967296 * q') := by rw [← Nat.mul_add, ← Nat.mul_add, ← Nat.mul_add, hd]
  omega

set_option maxHeartbeats 8000000 in
set_option maxRecDepth 100000 in
theorem takeTimes_any (w : World) (g c o ca n : Nat) (P M S B : List Nat) (vb : Value) (ho : P.length = o) (hBM : B.length ≤ M.length) (hM : M.length ≤ 1000000) (sM : Words32 M) (sB : Words32 B) (hn : n < 4294967296)
    (own : Own w g c (P ++ (M ++ S))) (hB : WSl w vb B) (hne : B ≠ [] → vb.ownBlock ≠ some g) :
    Calls Tryd.prog 135 #[.slice (some ⟨g, o, none⟩) M.length ca, vb, .int .u32 n] w fun e w' => ∃ (M' : List Nat) (q : Nat) (b : Bool), e = .returned (.bool b) ∧ (b = true ↔ 0 < q) ∧ M'.length = M.length ∧ Words32 M' ∧
      wval M' + n * wval B = wval M + 4294967296 ^ M.length * q ∧ Own w' g c (P ++ (M' ++ S)) ∧ w.grownBy w' (some g) := by
  obtain ⟨ab, cb, rfl, hcb, rb⟩ := hB
  have hne' : B ≠ [] → ∀ b o s, ab = some ⟨b, o, s⟩ → b ≠ g := fun h0 b o s e h => hne h0 (by rw [e, h]; rfl)
  clear hne
  subst ho
  go_enter Tryd.func135, Tryd.ntmps135
  go_wp2
  go_loopw [7, 13] (fun cc i wr => ∃ (k q : Nat) (D : List Nat), i = .int .i64 k ∧ cc = .int .u64 q ∧ q < 4294967296 ∧ k ≤ M.length ∧ Hid (D.length = k) ∧ Hid (Words32 D) ∧ Hid (wval D + n * wval (B.take k) = wval (M.take k) + 4294967296 ^ k * q) ∧
    Own wr g c (P ++ ((D ++ M.drop k) ++ S)) ∧ w.grownBy wr (some g)) (fun _ i _ => M.length - (intOf i).toNat)
  case atStart => exact ⟨0, 0, [], rfl, rfl, by omega, Nat.zero_le _, rfl, words_nil, by show _ = _; simp [wval], own, grown_refl _ _⟩
  case round =>
    clear own
    obtain ⟨k, q, D, rfl, rfl, hq, hkM, hD, sD, hval, hown, hgr⟩ := hrel
    by_cases hlt : k < M.length
    · have hlen : (D ++ M.drop k).length = M.length := front_len hD.out hkM
      have c1 : wr.cell? ⟨g, P.length + k, none⟩ = some (.int .u32 ((M.getD k 0 : Nat) : Int)) := by
        rw [hown.cellMid k (by omega), front_get hD.out hlt]
      have f1 := hown.froz (P.length + k)
      have x1 := words_getD sM k
      have x2 := words_getD sB k
      have hval2 : Hid (∀ d q', q + B.getD k 0 * n + d = M.getD k 0 + 4294967296 * q' → wval (D ++ [d]) + n * wval (B.take (k + 1)) = wval (M.take (k + 1)) + 4294967296 ^ (k + 1) * q') := fun d q' h => take_round hD.out hval.out h
      have sD2 : Hid (∀ d, d < 4294967296 → Words32 (D ++ [d])) := fun d h => words_append.2 ⟨sD.out, words_one h⟩
      have hD2 : Hid (∀ d, (D ++ [d]).length = k + 1) := fun d => by rw [List.length_append, hD.out]; rfl
      have hset : Hid (∀ d : Nat, Own (wr.setCell ⟨g, P.length + k, none⟩ (.int .u32 (d : Int))) g c (P ++ (((D ++ [d]) ++ M.drop (k + 1)) ++ S))) := fun d => by
        have h := hown.setMid k d (by omega)
        rwa [front_set hD.out hlt] at h
      have hgr2 : Hid (∀ u, w.grownBy (wr.setCell ⟨g, P.length + k, none⟩ u) (some g)) := fun u => grown_cell hgr _ u
      have i1 : (k : Int) < (M.length : Int) := by omega
      by_cases hb : k < B.length
      · obtain ⟨b, ob, rfl, hbb, hcb'⟩ := rb (by intro e; rw [e] at hb; simp at hb)
        have hbg := hne' (by intro e; rw [e] at hb; simp at hb) b ob none rfl
        have c2 : wr.cell? ⟨b, ob + k, none⟩ = some (.int .u32 ((B.getD k 0 : Nat) : Int)) := hgr.cell (hcb' k hb) (fun e => hbg (by simpa using e))
        have i2 : (k : Int) < (B.length : Int) := by omega
        clear hcb' hne' hval sD hown hgr hlen rb
        generalize M.getD k 0 = x at *
        generalize B.getD k 0 = y at *
        have hp : y * n ≤ 4294967295 * 4294967295 := Nat.mul_le_mul (by omega) (by omega)
        have hpi : (y : Int) * (n : Int) = ((y * n : Nat) : Int) := by rw [Int.natCast_mul]
        generalize y * n = p at *
        by_cases hbo : x < (q + p) % 4294967296
        · go_wp2
          go_roundw
          case rel =>
            have ed : (((x : Int) - ((q : Int) + (p : Int))) % 4294967296) = ((x + 4294967296 - (q + p) % 4294967296 : Nat) : Int) := by omega
            refine ⟨k + 1, (q + p) / 4294967296 + 1, D ++ [x + 4294967296 - (q + p) % 4294967296], by go_num, by go_num, by omega, by omega, hD2.out _, sD2.out _ (by omega), hval2.out _ _ (by omega), ?_, hgr2.out _⟩
            rw [ed]
            exact hset.out _
          case measure => simp only [intOf]; omega
        · go_wp2
          go_roundw
          case rel =>
            have ed : (((x : Int) - ((q : Int) + (p : Int)) % 4294967296)) = ((x - (q + p) % 4294967296 : Nat) : Int) := by omega
            refine ⟨k + 1, (q + p) / 4294967296, D ++ [x - (q + p) % 4294967296], by go_num, by go_num, by omega, by omega, hD2.out _, sD2.out _ (by omega), hval2.out _ _ (by omega), ?_, hgr2.out _⟩
            rw [ed]
            exact hset.out _
          case measure => simp only [intOf]; omega
      · have e0 : B.getD k 0 = 0 := getD_past (by omega)
        have i2 : ¬ (k : Int) < (B.length : Int) := by omega
        have hval3 : Hid (∀ d q', q + d = M.getD k 0 + 4294967296 * q' → wval (D ++ [d]) + n * wval (B.take (k + 1)) = wval (M.take (k + 1)) + 4294967296 ^ (k + 1) * q') := fun d q' h => hval2.out d q' (by rw [e0]; omega)
        clear hne' hval hval2 sD hown hgr hlen rb x2 e0
        generalize M.getD k 0 = x at *
        by_cases hbo : x < q
        · go_wp2
          go_roundw
          case rel =>
            have ed : (((x : Int) - (q : Int)) % 4294967296) = ((x + 4294967296 - q : Nat) : Int) := by omega
            refine ⟨k + 1, 1, D ++ [x + 4294967296 - q], by go_num, by go_num, by omega, by omega, hD2.out _, sD2.out _ (by omega), hval3.out _ _ (by omega), ?_, hgr2.out _⟩
            rw [ed]
            exact hset.out _
          case measure => simp only [intOf]; omega
        · go_wp2
          go_roundw
          case rel =>
            have ed : ((x : Int) - (q : Int)) = ((x - q : Nat) : Int) := by omega
            refine ⟨k + 1, 0, D ++ [x - q], by go_num, by go_num, by omega, by omega, hD2.out _, sD2.out _ (by omega), hval3.out _ _ (by omega), ?_, hgr2.out _⟩
            rw [ed]
            exact hset.out _
          case measure => simp only [intOf]; omega
    · have hkl : k = M.length := by omega
      have hfin : Hid (D.length = M.length ∧ wval D + n * wval B = wval M + 4294967296 ^ M.length * q ∧ Own wr g c (P ++ (D ++ S))) := by
        refine ⟨by rw [hD.out, hkl], ?_, ?_⟩
        · have h := hval.out
          rwa [hkl, List.take_length, List.take_of_length_le hBM] at h
        · rwa [hkl, List.drop_length, List.append_nil] at hown
      clear hkl hval hown hD
      by_cases h0 : q = 0
      · subst h0
        go_wp2
        go_ret
        exact ⟨D, 0, false, rfl, by simp, hfin.out.1, sD.out, hfin.out.2.1, hfin.out.2.2, hgr⟩
      · have t0 : decide (0 < q) = true := decide_eq_true (by omega)
        go_wp2
        go_ret
        exact ⟨D, q, true, rfl, by simp; omega, hfin.out.1, sD.out, hfin.out.2.1, hfin.out.2.2, hgr⟩
theorem takeTimes_nil (w : World) (a : Option Addr) (ca n : Nat) (vb : Value) :
    Calls Tryd.prog 135 #[.slice a 0 ca, vb, .int .u32 n] w fun e w' => e = .returned (.bool false) ∧ w' = w := by
  go_enter Tryd.func135, Tryd.ntmps135
  go_wp2
  go_loopw [7, 13] (fun cc i wr => i = .int .i64 0 ∧ cc = .int .u64 0 ∧ wr = w) (fun _ _ _ => 0)
  case atStart => exact ⟨rfl, rfl, rfl⟩
  case round =>
    obtain ⟨rfl, rfl, rfl⟩ := hrel
    go_wp2
    go_ret
    exact ⟨rfl, rfl⟩
end Go.Proofs.YtobbbhmkcmbekaaDoor.bigs
