/- What the calls of package big answer, as the document says it, in the words of the walks; and slices.Equal over words. -/
import Derived.Test.YtgfleflfahabeaaBigText
set_option linter.unusedVariables false
namespace Go.Proofs.Ytgfleflfahabeaa.bigs
open Go.RowKit

/-- A slice of words. -/
def WSl (w : World) (v : Value) (l : List Nat) : Prop := ∃ a cap, v = .slice a l.length cap ∧ l.length ≤ cap ∧ RowU w a l
/-- The words of a number. -/
def WBig (w : World) (v : Value) (n : Nat) : Prop := WSl w v (wdig n)
theorem WSl.below {w w' : World} {v : Value} {l : List Nat} (h : WSl w v l) (hb : Below w.heap.size w w') : WSl w' v l := by
  obtain ⟨a, cap, e, hc, hr⟩ := h
  exact ⟨a, cap, e, hc, hr.below hb⟩
theorem WBig.below {w w' : World} {v : Value} {n : Nat} (h : WBig w v n) (hb : Below w.heap.size w w') : WBig w' v n := WSl.below h hb
theorem words_wdig (n : Nat) : Words32 (wdig n) := by
  induction n using Nat.strongRecOn with
  | ind n ih =>
    by_cases h : n = 0
    · subst h; rw [wdig_zero]; intro j hj; simp at hj
    · rw [wdig_pos h]; exact words_cons.2 ⟨by omega, ih _ (by omega)⟩

theorem utake_succ (l : List Nat) (k : Nat) (h : k < l.length) : l.take (k + 1) = l.take k ++ [l.getD k 0] := take_succ l k h

set_option maxHeartbeats 2000000 in
set_option maxRecDepth 100000 in
theorem equalU_any (w : World) (va vb : Value) (l m : List Nat) (hl : l.length ≤ 140737488355328) (hm : m.length ≤ 140737488355328) (hA : WSl w va l) (hB : WSl w vb m) :
    Calls Try.prog 10 #[va, vb] w fun e w' => e = .returned (.bool (decide (l = m))) ∧ Below w.heap.size w w' := by
  obtain ⟨a, ca, rfl, _, hL⟩ := hA
  obtain ⟨b, cb, rfl, _, hM⟩ := hB
  by_cases hlm : l.length = m.length
  · have hne : (((l.length : Nat) : Int) != (m.length : Nat)) = false := by simp [hlm]
    have le1 : l.length ≤ m.length := by omega
    have le2 : m.length ≤ l.length := by omega
    have HLM := hide hlm
    clear hlm
    go_enter Try.func10, Try.ntmps10
    go_wp2
    go_loopw [13] (fun i wr => ∃ k : Nat, k ≤ l.length ∧ i = .int .i64 k ∧ l.take k = m.take k ∧ Below w.heap.size w wr) (fun i _ => l.length - (intOf i).toNat)
    case atStart => exact ⟨0, Nat.zero_le _, rfl, rfl, Below.refl _ _⟩
    case round =>
      obtain ⟨k, hk, rfl, hsame, hbw⟩ := hrel
      by_cases hlt : k < l.length
      · obtain ⟨ba, oa, rfl, hba, hca⟩ := hL (by intro e; rw [e] at hlt; simp at hlt)
        obtain ⟨bb, ob, rfl, hbb, hcb⟩ := hM (by intro e; rw [e] at le1; simp at le1; rw [le1] at hlt; simp at hlt)
        have c1 : wr.cell? ⟨ba, oa + k, none⟩ = some (.int .u32 ((l.getD k 0 : Nat) : Int)) := by rw [hbw.cell (p := ⟨ba, oa + k, none⟩) hba]; exact hca k hlt
        have c2 : wr.cell? ⟨bb, ob + k, none⟩ = some (.int .u32 ((m.getD k 0 : Nat) : Int)) := by rw [hbw.cell (p := ⟨bb, ob + k, none⟩) hbb]; exact hcb k (by omega)
        have hkm : k < m.length := by omega
        have hs1 := take_succ l k hlt
        have hs2 := take_succ m k hkm
        by_cases hxy : l.getD k 0 = m.getD k 0
        · have HR : Hid (l.take (k + 1) = m.take (k + 1)) := by rw [hs1, hs2, hsame, hxy]; rfl
          have t1 : (((l.getD k 0 : Nat) : Int) != ((m.getD k 0 : Nat) : Int)) = false := by rw [hxy]; simp
          clear hca hcb hL hM hs1 hs2 hsame hxy
          generalize l.getD k 0 = x at *
          generalize m.getD k 0 = y at *
          go_wp2_with fail
          go_quiet (fail)
          go_wp2
          go_roundw
          case rel => exact ⟨k + 1, by omega, by go_num, HR.out, below_drewN hbw _⟩
          case measure => simp [intOf]; omega
        · have HR : Hid (decide (l = m) = false) := by
            have : l ≠ m := fun e => hxy (by subst e; rfl)
            show decide (l = m) = false
            simp [this]
          have t1 : (((l.getD k 0 : Nat) : Int) != ((m.getD k 0 : Nat) : Int)) = true := by simp only [bne_iff_ne]; intro e; exact hxy (by omega)
          clear hca hcb hL hM hs1 hs2 hsame hxy
          generalize l.getD k 0 = x at *
          generalize m.getD k 0 = y at *
          go_wp2_with fail
          go_quiet (fail)
          go_wp2
          go_ret
          rw [HR.out]
          exact ⟨rfl, below_drewN hbw _⟩
      · have hkl : k = l.length := by omega
        have HR : Hid (decide (l = m) = true) := by
          show decide (l = m) = true
          subst hkl
          rw [List.take_length, HLM.out, List.take_length] at hsame
          simp [hsame]
        clear hsame
        go_wp2
        go_ret
        rw [HR.out]
        exact ⟨rfl, hbw⟩
  · have hne : (((l.length : Nat) : Int) != (m.length : Nat)) = true := by simp only [bne_iff_ne]; omega
    have HR : Hid (decide (l = m) = false) := by
      have : l ≠ m := fun e => hlm (by rw [e])
      show decide (l = m) = false
      simp [this]
    clear hlm
    go_enter Try.func10, Try.ntmps10
    go_wp2
    go_ret
    rw [HR.out]
    exact ⟨rfl, Below.refl _ _⟩
theorem equalU_same (w : World) (va vb : Value) (l : List Nat) (hl : l.length ≤ 140737488355328) (hA : WSl w va l) (hB : WSl w vb l) :
    Calls Try.prog 10 #[va, vb] w fun e w' => e = .returned (.bool true) ∧ Below w.heap.size w w' := by
  have h := equalU_any w va vb l l hl hl hA hB
  rwa [decide_eq_true (rfl : l = l)] at h
theorem words_big (w : World) (va : Value) (n : Nat) (hn : (dig n).length ≤ 1000000) (ha : Lies w va n) :
    Calls Try.prog 12 #[va] w fun e w' => ∃ v, e = .returned v ∧ WBig w' v n ∧ Below w.heap.size w w' :=
  (words_any w va n hn ha).mono fun e w' ⟨a, cap, h1, h2, h3, h4⟩ => ⟨_, h1, ⟨a, cap, rfl, h2, h3⟩, h4⟩
theorem ofWords_big (w : World) (v : Value) (l : List Nat) (hl : l.length ≤ 100000) (hs : Words32 l) (h : WSl w v l) :
    Calls Try.prog 9 #[v] w fun e w' => ∃ v, e = .returned v ∧ Lies w' v (wval l) ∧ Below w.heap.size w w' := by
  obtain ⟨a, cap, rfl, hc, hr⟩ := h
  exact ofWords_any w a cap l hl hs hr

/-- The calls that a law over two numbers makes. -/
structure Face1 : Prop where
  trim : ∀ (w : World) (v : Value) (l : List Nat), WSl w v l → Words32 l → l.length ≤ 2000 → Calls Try.prog 11 #[v] w fun e w' => ∃ v', e = .returned v' ∧ WBig w' v' (wval l) ∧ Below w.heap.size w w'
  cmp : ∀ (w : World) (v u : Value) (l k : List Nat), WSl w v l → WSl w u k → Words32 l → Words32 k → l.length ≤ 2000 → k.length ≤ 2000 → Calls Try.prog 13 #[v, u] w fun e w' => e = .returned (.int .i64 (sgn (wval l) (wval k))) ∧ Below w.heap.size w w'
  len : ∀ (w : World) (v : Value) (l : List Nat), WSl w v l → Words32 l → l.length ≤ 2000 → Calls Try.prog 15 #[v] w fun e w' => e = .returned (.int .i64 (bits (wval l))) ∧ Below w.heap.size w w'
  add : ∀ (w : World) (v u : Value) (l k : List Nat), WSl w v l → WSl w u k → Words32 l → Words32 k → l.length ≤ 2000 → k.length ≤ 2000 → Calls Try.prog 17 #[v, u] w fun e w' => ∃ v', e = .returned v' ∧ WBig w' v' (wval l + wval k) ∧ Below w.heap.size w w'
  mul : ∀ (w : World) (v u : Value) (l k : List Nat), WSl w v l → WSl w u k → Words32 l → Words32 k → l.length ≤ 2000 → k.length ≤ 2000 → Calls Try.prog 19 #[v, u] w fun e w' => ∃ v', e = .returned v' ∧ WBig w' v' (wval l * wval k) ∧ Below w.heap.size w w'
  sub : ∀ (w : World) (v u : Value) (l k : List Nat), WSl w v l → WSl w u k → Words32 l → Words32 k → l.length ≤ 2000 → k.length ≤ 2000 → wval k ≤ wval l → Calls Try.prog 21 #[v, u] w fun e w' => ∃ v', e = .returned (.tuple #[v', .int .i64 0]) ∧ WBig w' v' (wval l - wval k) ∧ Below w.heap.size w w'
  subLess : ∀ (w : World) (v u : Value) (l k : List Nat), WSl w v l → WSl w u k → Words32 l → Words32 k → l.length ≤ 2000 → k.length ≤ 2000 → wval l < wval k → Calls Try.prog 21 #[v, u] w fun e w' => ∃ a cap, e = .returned (.tuple #[.slice a 0 cap, .int .i64 1]) ∧ Below w.heap.size w w'
  div : ∀ (w : World) (v u : Value) (l k : List Nat), WSl w v l → WSl w u k → Words32 l → Words32 k → l.length ≤ 2000 → k.length ≤ 2000 → wval k ≠ 0 → Calls Try.prog 23 #[v, u] w fun e w' => ∃ v1 v2, e = .returned (.tuple #[v1, v2, .int .i64 0]) ∧ WBig w' v1 (wval l / wval k) ∧ WBig w' v2 (wval l % wval k) ∧ Below w.heap.size w w'
  divNone : ∀ (w : World) (v u : Value) (l k : List Nat), WSl w v l → WSl w u k → Words32 l → Words32 k → l.length ≤ 2000 → k.length ≤ 2000 → wval k = 0 → Calls Try.prog 23 #[v, u] w fun e w' => ∃ a c a' c', e = .returned (.tuple #[.slice a 0 c, .slice a' 0 c', .int .i64 1]) ∧ Below w.heap.size w w'
end Go.Proofs.Ytgfleflfahabeaa.bigs
