/- Read of package float, whatever is handed in. -/
import Derived.Test.YtobbbhmkcmbekaaDoorFloatReadW
set_option linter.unusedVariables false
namespace Go.Proofs.YtobbbhmkcmbekaaDoor.bigs
open Go.RowKit

def Sign (l t : List UInt8) (sg : Nat) : Prop := (l = 45 :: t ∧ sg = 9223372036854775808) ∨ ((∀ r, l ≠ 45 :: r) ∧ t = l ∧ sg = 0)
def ReadsTo (l : List UInt8) (v : Nat) (x : Int) : Prop :=
  (80 < l.length ∧ v = 0 ∧ x = 2) ∨ (l.length ≤ 80 ∧ l = [110, 97, 110] ∧ v = 9221120237041090561 ∧ x = 0) ∨
  (l.length ≤ 80 ∧ l ≠ [110, 97, 110] ∧ ∃ t sg, Sign l t sg ∧ ((t = [105, 110, 102] ∧ v = sg + 9218868437227405312 ∧ x = 0) ∨ (t ≠ [105, 110, 102] ∧ Res t sg v x)))
theorem sign_unique {l t t' : List UInt8} {sg sg' : Nat} (h : Sign l t sg) (k : Sign l t' sg') : t = t' ∧ sg = sg' := by
  rcases h with ⟨a, b⟩ | ⟨a, b, c⟩ <;> rcases k with ⟨a', b'⟩ | ⟨a', b', c'⟩
  · rw [a] at a'; injection a' with _ e; exact ⟨e, by rw [b, b']⟩
  · exact absurd a (a' t)
  · exact absurd a' (a t')
  · exact ⟨by rw [b, b'], by rw [c, c']⟩
theorem reads_unique {l : List UInt8} {v v' : Nat} {x x' : Int} (h : ReadsTo l v x) (k : ReadsTo l v' x') : v = v' ∧ x = x' := by
  rcases h with ⟨a, b, c⟩ | ⟨a, b, c, d⟩ | ⟨a, b, t, sg, s, r⟩ <;> rcases k with ⟨a', b', c'⟩ | ⟨a', b', c', d'⟩ | ⟨a', b', t', sg', s', r'⟩
  · exact ⟨by rw [b, b'], by rw [c, c']⟩
  · omega
  · omega
  · omega
  · exact ⟨by rw [c, c'], by rw [d, d']⟩
  · exact absurd b b'
  · omega
  · exact absurd b' b
  · obtain ⟨e1, e2⟩ := sign_unique s s'
    subst e1 e2
    rcases r with ⟨r1, r2, r3⟩ | ⟨r1, r2⟩ <;> rcases r' with ⟨q1, q2, q3⟩ | ⟨q1, q2⟩
    · exact ⟨by rw [r2, q2], by rw [r3, q3]⟩
    · exact absurd r1 q1
    · exact absurd q1 r1
    · exact res_unique r2 q2
theorem list_beq {s : ByteArray} {l : List UInt8} : (s.toList == l) = decide (s.data.toList = l) := by
  rw [ByteArray.toList_eq]
  by_cases h : s.data.toList = l
  · rw [decide_eq_true h, h]; simp
  · rw [decide_eq_false h]; simp [h]
theorem sign_exists (l : List UInt8) : ∃ t sg, Sign l t sg ∧ t.length ≤ l.length ∧ ((Lib.hasPrefix l [45] = true ∧ Lib.trimPrefix l [45] = t ∧ sg = 9223372036854775808) ∨ (Lib.hasPrefix l [45] = false ∧ Lib.trimPrefix l [45] = t ∧ sg = 0)) := by
  by_cases h : ∃ r, l = 45 :: r
  · obtain ⟨r, rfl⟩ := h
    exact ⟨r, _, .inl ⟨rfl, rfl⟩, by simp, .inl ⟨(pre_yes 45 r).1, (pre_yes 45 r).2, rfl⟩⟩
  · have n : ∀ r, l ≠ 45 :: r := fun r e => h ⟨r, e⟩
    exact ⟨l, _, .inr ⟨n, rfl, rfl⟩, Nat.le_refl _, .inr ⟨(pre_no n).1, (pre_no n).2, rfl⟩⟩
set_option maxHeartbeats 8000000 in
set_option maxRecDepth 100000 in
theorem readW_large (w : World) (s : ByteArray) (hs : 80 < s.size) (hs2 : s.size ≤ 140737488355328) :
    Calls Tryd.prog 14 #[.string s] w fun e w' => e = .returned (.tuple #[.int .u64 0, .int .i64 2]) ∧ Below w.heap.size w w' := by
  have i1 : (80 : Int) < (s.size : Int) := by omega
  go_enter Tryd.func14, Tryd.ntmps14
  go_wp2
  go_ret2
  exact ⟨rfl, Below.refl _ _⟩
set_option maxHeartbeats 8000000 in
set_option maxRecDepth 100000 in
theorem readW_nan (w : World) (s : ByteArray) (hs : s.size ≤ 80) (hn : (s.toList == [110, 97, 110]) = true) :
    Calls Tryd.prog 14 #[.string s] w fun e w' => e = .returned (.tuple #[.int .u64 9221120237041090561, .int .i64 0]) ∧ Below w.heap.size w w' := by
  have i1 : ¬ (80 : Int) < (s.size : Int) := by omega
  go_enter Tryd.func14, Tryd.ntmps14
  go_wp2
  go_ret2
  exact ⟨rfl, Below.refl _ _⟩
set_option maxHeartbeats 8000000 in
set_option maxRecDepth 100000 in
theorem readW_inf (w : World) (s t : ByteArray) (neg : Bool) (hs : s.size ≤ 80) (hn : (s.toList == [110, 97, 110]) = false) (hi : (t.toList == [105, 110, 102]) = true)
    (K1 : Hid (Calls Tryd.prog 34 #[.string s, .string ⟨#[45]⟩] w fun e w' => e = .returned (.tuple #[.string t, .bool neg]) ∧ w' = w)) :
    Calls Tryd.prog 14 #[.string s] w fun e w' => e = .returned (.tuple #[.int .u64 (if neg then 18442240474082181120 else 9218868437227405312), .int .i64 0]) ∧ Below w.heap.size w w' := by
  have i1 : ¬ (80 : Int) < (s.size : Int) := by omega
  have o1 : Go.bits .or .u64 0 9218868437227405312 = 9218868437227405312 := by decide
  have o2 : Go.bits .or .u64 9223372036854775808 9218868437227405312 = 18442240474082181120 := by decide
  cases neg with
  | false =>
    go_enter Tryd.func14, Tryd.ntmps14
    go_wp2_with fail
    refine (unhide K1).mono ?_
    rintro e w1 ⟨rfl, rfl⟩
    go_wp2
    go_ret2
    exact ⟨rfl, Below.refl _ _⟩
  | true =>
    go_enter Tryd.func14, Tryd.ntmps14
    go_wp2_with fail
    refine (unhide K1).mono ?_
    rintro e w1 ⟨rfl, rfl⟩
    go_wp2
    go_ret2
    exact ⟨rfl, Below.refl _ _⟩
/-- Read, whatever is handed in. -/
theorem readW_any (w : World) (s : ByteArray) (hs2 : s.size ≤ 140737488355328) :
    Calls Tryd.prog 14 #[.string s] w fun e w' => ∃ (v : Nat) (x : Int), e = .returned (.tuple #[.int .u64 v, .int .i64 x]) ∧ ReadsTo s.data.toList v x ∧ Below w.heap.size w w' := by
  have sl := blen_list s
  by_cases h1 : 80 < s.size
  · refine (readW_large w s h1 hs2).mono ?_
    rintro e w' ⟨rfl, b⟩
    exact ⟨0, 2, rfl, .inl ⟨by omega, rfl, rfl⟩, b⟩
  · by_cases h2 : s.data.toList = [110, 97, 110]
    · refine (readW_nan w s (by omega) (by rw [list_beq]; exact decide_eq_true h2)).mono ?_
      rintro e w' ⟨rfl, b⟩
      exact ⟨9221120237041090561, 0, rfl, .inr (.inl ⟨by omega, h2, rfl, rfl⟩), b⟩
    · have n2 : (s.toList == [110, 97, 110]) = false := by rw [list_beq]; exact decide_eq_false h2
      obtain ⟨t, sg, S, tl, pq⟩ := sign_exists s.data.toList
      have K1 := Tryd.strings_CutPrefix s ⟨#[45]⟩ w
      have e45 : (⟨#[45]⟩ : ByteArray).data.toList = [45] := rfl
      rw [e45] at K1
      have tsz : (⟨t.toArray⟩ : ByteArray).size ≤ 80 := by rw [arr_size]; omega
      have td : (⟨t.toArray⟩ : ByteArray).data.toList = t := rfl
      obtain ⟨neg, hneg, KK, hsg⟩ : ∃ neg, Lib.hasPrefix s.data.toList [45] = neg ∧ Lib.trimPrefix s.data.toList [45] = t ∧ sg = if neg then 9223372036854775808 else 0 := by
        rcases pq with ⟨a, b, c⟩ | ⟨a, b, c⟩
        · exact ⟨true, a, b, c⟩
        · exact ⟨false, a, b, c⟩
      rw [hneg, KK] at K1
      by_cases h3 : t = [105, 110, 102]
      · refine (readW_inf w s ⟨t.toArray⟩ neg (by omega) n2 (by rw [list_beq]; exact decide_eq_true h3) (hide K1)).mono ?_
        rintro e w' ⟨rfl, b⟩
        refine ⟨sg + 9218868437227405312, 0, ?_, .inr (.inr ⟨by omega, h2, t, sg, S, .inl ⟨h3, rfl, rfl⟩⟩), b⟩
        rw [hsg]
        cases neg <;> rfl
      · refine (readW_core w s ⟨t.toArray⟩ neg sg (by omega) tsz n2 (by rw [list_beq]; exact decide_eq_false h3) (hide K1) hsg).mono ?_
        rintro e w' ⟨v, x, rfl, r, b⟩
        exact ⟨v, x, rfl, .inr (.inr ⟨by omega, h2, t, sg, S, .inr ⟨h3, r⟩⟩), b⟩
end Go.Proofs.YtobbbhmkcmbekaaDoor.bigs
