/- The walks of package big: divideByWord, divideOnce. -/
import Derived.Test.YtobbbhmkcmbekaaDoorWordMul
import Derived.Test.YtobbbhmkcmbekaaDoorWordTake
import Derived.Laws.BitsLemmas
set_option linter.unusedVariables false
namespace Go.Proofs.YtobbbhmkcmbekaaDoor.bigs
open Go.RowKit

theorem wraps64 : ∀ n : Int, 0 ≤ n → n < 2 ^ 64 → IntKind.u64.wrap n = n := fun n h1 h2 => by
  simp [IntKind.wrap, IntKind.bits, IntKind.signed]
  omega
theorem wraps32 : ∀ n : Int, 0 ≤ n → n < 2 ^ 32 → IntKind.u32.wrap n = n := fun n h1 h2 => by
  simp [IntKind.wrap, IntKind.bits, IntKind.signed]
  omega
theorem or_word (r x : Nat) (hr : r < 4294967296) (hx : x < 4294967296) : Go.bits .or .u64 ((r : Int) * 4294967296) (x : Int) = ((r * 4294967296 + x : Nat) : Int) := by
  rw [bits_join .u64 64 (by decide) wraps64 32 _ _ (by omega) (by omega) (by omega) (by omega) (by omega) (by omega)]
  omega
/-- A round of the division by a word. -/
theorem divw_round {M D : List Nat} {i b r s d r' : Nat} (h : wval (M.drop (i + 1)) = b * wval D + r) (hs : s = r * 4294967296 + M.getD i 0) (hd : s = b * d + r') :
    wval (M.drop i) = b * wval (d :: D) + r' := by
  rw [wdrop_val, h, wval]
  generalize M.getD i 0 = x at *
  have e : b * (d + 4294967296 * wval D) = b * d + 4294967296 * (b * wval D) := by rw [Nat.mul_add, Nat.mul_left_comm]
  omega
theorem back_get {M D : List Nat} {i : Nat} (hi : i < M.length) : (M.take (i + 1) ++ D).getD i 0 = M.getD i 0 := by
  rw [List.getD, List.getElem?_append_left (by rw [List.length_take]; omega), List.getElem?_take_of_lt (by omega)]
  rfl
theorem back_set {M D : List Nat} {i d : Nat} (hi : i < M.length) : (M.take (i + 1) ++ D).set i d = M.take i ++ (d :: D) := by
  rw [utake_succ M i hi, List.append_assoc, List.set_append_right _ _ (by rw [List.length_take]; omega), List.length_take, Nat.min_eq_left (by omega), Nat.sub_self]
  rfl

set_option maxHeartbeats 8000000 in
set_option maxRecDepth 100000 in
theorem divideByWord_any (w : World) (g c ca b : Nat) (M S : List Nat) (hM : M.length ≤ 1000000) (sM : Words32 M) (hb0 : b ≠ 0) (hb : b < 4294967296) (own : Own w g c (M ++ S)) :
    Calls Tryd.prog 47 #[.slice (some ⟨g, 0, none⟩) M.length ca, .int .u32 b] w fun e w' => ∃ (M' : List Nat), e = .returned (.int .u32 ((wval M % b : Nat) : Int)) ∧ M'.length = M.length ∧ Words32 M' ∧
      wval M' = wval M / b ∧ Own w' g c (M' ++ S) ∧ w.grownBy w' (some g) := by
  have hbi : (b : Int) ≠ 0 := by omega
  have hbi' : ((b : Int) == 0) = false := beq_false_of_ne hbi
  go_enter Tryd.func47, Tryd.ntmps47
  go_wp2
  go_loopw [5, 6] (fun cc i wr => ∃ (j r : Nat) (D : List Nat), i = .int .i64 ((j : Int) - 1) ∧ cc = .int .u64 r ∧ r < b ∧ j ≤ M.length ∧ Hid (D.length = M.length - j) ∧ Hid (Words32 D) ∧ Hid (wval (M.drop j) = b * wval D + r) ∧
    Own wr g c ((M.take j ++ D) ++ S) ∧ w.grownBy wr (some g)) (fun _ i _ => (intOf i + 1).toNat)
  case atStart => exact ⟨M.length, 0, [], rfl, rfl, by omega, Nat.le_refl _, by show _ = _; simp, words_nil, by show _ = _; rw [List.drop_length]; simp [wval], by rw [List.take_length, List.append_nil]; exact own, grown_refl _ _⟩
  case round =>
    clear own
    obtain ⟨j, r, D, rfl, rfl, hr, hjM, hD, sD, hval, hown, hgr⟩ := hrel
    cases j with
    | zero =>
      have hfin : Hid (D.length = M.length ∧ wval D = wval M / b ∧ r = wval M % b ∧ Own wr g c (D ++ S)) := by
        have h := hval.out
        rw [List.drop_zero] at h
        rw [List.take_zero, List.nil_append] at hown
        have h1 := hD.out
        have h2 : wval M / b = wval D := by rw [h, Nat.mul_add_div (by omega), Nat.div_eq_of_lt hr]; omega
        have h3 : wval M % b = r := by rw [h, Nat.mul_add_mod, Nat.mod_eq_of_lt hr]
        exact ⟨by omega, h2.symm, h3.symm, hown⟩
      clear hval hown hD
      go_wp2
      go_ret
      rw [← hfin.out.2.2.1]
      exact ⟨D, rfl, hfin.out.1, sD.out, hfin.out.2.1, hfin.out.2.2.2, hgr⟩
    | succ i =>
      have e0 : ((i + 1 : Nat) : Int) - 1 = (i : Int) := by omega
      rw [e0]
      have hi : i < M.length := by omega
      have hlen : (M.take (i + 1) ++ D).length = M.length := by rw [List.length_append, List.length_take, hD.out]; omega
      have c1 : wr.cell? ⟨g, i, none⟩ = some (.int .u32 ((M.getD i 0 : Nat) : Int)) := by
        have h := Own.cellMid (P := []) (M := M.take (i + 1) ++ D) (S := S) (by rw [List.nil_append]; exact hown) i (by omega)
        rw [back_get hi] at h
        simpa using h
      have f1 := hown.froz i
      have x1 := words_getD sM i
      have hset : Hid (∀ d : Nat, Own (wr.setCell ⟨g, i, none⟩ (.int .u32 (d : Int))) g c ((M.take i ++ (d :: D)) ++ S)) := fun d => by
        have h := Own.setMid (P := []) (M := M.take (i + 1) ++ D) (S := S) (by rw [List.nil_append]; exact hown) i d (by omega)
        rw [back_set hi] at h
        simpa using h
      have hgr2 : Hid (∀ u, w.grownBy (wr.setCell ⟨g, i, none⟩ u) (some g)) := fun u => grown_cell hgr _ u
      have hval2 : Hid (∀ s d r', s = r * 4294967296 + M.getD i 0 → s = b * d + r' → wval (M.drop i) = b * wval (d :: D) + r') := fun s d r' h1 h2 => divw_round hval.out h1 h2
      have i1 : (i : Int) < (M.length : Int) := by omega
      have hD2 : Hid (∀ d, (d :: D).length = M.length - i) := fun d => by rw [List.length_cons, hD.out]; omega
      have sD2 : Hid (∀ d, d < 4294967296 → Words32 (d :: D)) := fun d h => words_cons.2 ⟨h, sD.out⟩
      clear hval hown hgr hlen hD sD
      generalize M.getD i 0 = x at *
      have hor := or_word r x (by omega) x1
      obtain ⟨s, hs⟩ : ∃ s, s = r * 4294967296 + x := ⟨_, rfl⟩
      rw [← hs] at hor
      have hsb : s < 4294967296 * b := by
        have h : (r + 1) * 4294967296 ≤ b * 4294967296 := Nat.mul_le_mul_right _ (by omega)
        omega
      have hs64 : s < 18446744073709551616 := by omega
      have hd : s / b < 4294967296 := Nat.div_lt_of_lt_mul (by rw [Nat.mul_comm]; exact hsb)
      have hm : s % b < b := Nat.mod_lt _ (by omega)
      have q1 : (s : Int) / (b : Int) = ((s / b : Nat) : Int) := by simp
      have q2 : (s : Int) % (b : Int) = ((s % b : Nat) : Int) := by simp
      have HV : Hid (s = b * (s / b) + s % b) := (Nat.div_add_mod s b).symm
      have HS := hide hs
      clear hs
      generalize s / b = d at *
      generalize s % b = r' at *
      clear hsb
      go_wp2
      go_roundw
      case rel => exact ⟨i, r', d :: D, by go_num, by go_num, by omega, by omega, hD2.out _, sD2.out _ hd, hval2.out _ _ _ (unhide HS) HV.out, hset.out _, hgr2.out _⟩
      case measure => simp only [intOf]; omega

end Go.Proofs.YtobbbhmkcmbekaaDoor.bigs
