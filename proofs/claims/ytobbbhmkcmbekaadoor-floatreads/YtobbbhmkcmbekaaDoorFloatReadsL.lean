/- The document's ReadFloat, whatever is handed in; the walk of the law. -/
import Derived.Test.YtobbbhmkcmbekaaDoorFloatReadRef
set_option linter.unusedVariables false
namespace Go.Proofs.YtobbbhmkcmbekaaDoor.bigs
open Go.RowKit

set_option maxHeartbeats 8000000 in
set_option maxRecDepth 100000 in
theorem refRead_large (w : World) (s : ByteArray) (hs : 80 < s.size) (hs2 : s.size ≤ 140737488355328) :
    Calls Tryd.prog 15 #[.string s] w fun e w' => e = .returned (.tuple #[.int .u64 0, .int .i64 2]) ∧ Below w.heap.size w w' := by
  have i1 : (80 : Int) < (s.size : Int) := by omega
  go_enter Tryd.func15, Tryd.ntmps15
  go_wp2
  go_ret2
  exact ⟨rfl, Below.refl _ _⟩
set_option maxHeartbeats 8000000 in
set_option maxRecDepth 100000 in
theorem refRead_nan (w : World) (s : ByteArray) (hs : s.size ≤ 80) (hn : (s.toList == [110, 97, 110]) = true) :
    Calls Tryd.prog 15 #[.string s] w fun e w' => e = .returned (.tuple #[.int .u64 9221120237041090561, .int .i64 0]) ∧ Below w.heap.size w w' := by
  have i1 : ¬ (80 : Int) < (s.size : Int) := by omega
  go_enter Tryd.func15, Tryd.ntmps15
  go_wp2
  go_ret2
  exact ⟨rfl, Below.refl _ _⟩
set_option maxHeartbeats 8000000 in
set_option maxRecDepth 100000 in
theorem refRead_inf (w : World) (s : ByteArray) (hn : (s.toList == [110, 97, 110]) = false) (hi : s.data.toList = [105, 110, 102]) :
    Calls Tryd.prog 15 #[.string s] w fun e w' => e = .returned (.tuple #[.int .u64 9218868437227405312, .int .i64 0]) ∧ Below w.heap.size w w' := by
  have hsz : s.size = 3 := by rw [← blen_list, hi]; rfl
  have h0 : 0 < s.size := by omega
  have i1 : ¬ (80 : Int) < (s.size : Int) := by omega
  have li : (0 : Int) < (s.size : Int) := by omega
  obtain ⟨ie1, ie2⟩ := isEmpty_false h0
  have hii : (s.toList == [105, 110, 102]) = true := by rw [list_beq]; exact decide_eq_true hi
  have hb := byte_get s 0 h0
  rw [hi] at hb
  have e0 : (105 : UInt8) = s[0]'h0 := by simpa using hb
  have c45 : (((s[0]'h0).toNat : Int) == 45) = false := by rw [← e0]; rfl
  clear hb e0 hi hsz
  go_enter Tryd.func15, Tryd.ntmps15
  go_wp2
  go_ret2
  exact ⟨rfl, Below.refl _ _⟩
set_option maxHeartbeats 8000000 in
set_option maxRecDepth 100000 in
theorem refRead_neginf (w : World) (s : ByteArray) (hn : (s.toList == [110, 97, 110]) = false) (hi : s.data.toList = [45, 105, 110, 102]) :
    Calls Tryd.prog 15 #[.string s] w fun e w' => e = .returned (.tuple #[.int .u64 18442240474082181120, .int .i64 0]) ∧ Below w.heap.size w w' := by
  have hsz : s.size = 4 := by rw [← blen_list, hi]; rfl
  have h0 : 0 < s.size := by omega
  have i1 : ¬ (80 : Int) < (s.size : Int) := by omega
  have li : (0 : Int) < (s.size : Int) := by omega
  have li1 : (1 : Int) ≤ (s.size : Int) := by omega
  obtain ⟨ie1, ie2⟩ := isEmpty_false h0
  have hii : ((s.extract 1 s.size).toList == [105, 110, 102]) = true := by
    rw [list_beq]
    refine decide_eq_true ?_
    rw [ext_toList, ← blen_list, List.take_length, hi]
    rfl
  have hb := byte_get s 0 h0
  rw [hi] at hb
  have e0 : (45 : UInt8) = s[0]'h0 := by simpa using hb
  have c45 : (((s[0]'h0).toNat : Int) == 45) = true := by rw [← e0]; rfl
  clear hb e0 hi hsz
  go_enter Tryd.func15, Tryd.ntmps15
  go_wp2_with fail
  go_quiet (fail)
  go_wp2
  go_ret2
  exact ⟨rfl, below_drewN (Below.refl _ _) _⟩
theorem refRead_any (w : World) (s : ByteArray) (hs2 : s.size ≤ 140737488355328) :
    Calls Tryd.prog 15 #[.string s] w fun e w' => ∃ (v : Nat) (x : Int), e = .returned (.tuple #[.int .u64 v, .int .i64 x]) ∧ ReadsTo s.data.toList v x ∧ Below w.heap.size w w' := by
  have sl := blen_list s
  by_cases h1 : 80 < s.size
  · refine (refRead_large w s h1 hs2).mono ?_
    rintro e w' ⟨rfl, b⟩
    exact ⟨0, 2, rfl, .inl ⟨by omega, rfl, rfl⟩, b⟩
  · by_cases h2 : s.data.toList = [110, 97, 110]
    · refine (refRead_nan w s (by omega) (by rw [list_beq]; exact decide_eq_true h2)).mono ?_
      rintro e w' ⟨rfl, b⟩
      exact ⟨9221120237041090561, 0, rfl, .inr (.inl ⟨by omega, h2, rfl, rfl⟩), b⟩
    · have n2 : (s.toList == [110, 97, 110]) = false := by rw [list_beq]; exact decide_eq_false h2
      obtain ⟨t, sg, S, tl, _⟩ := sign_exists s.data.toList
      have tsz : (⟨t.toArray⟩ : ByteArray).size ≤ 80 := by rw [arr_size]; omega
      by_cases h3 : t = [105, 110, 102]
      · subst h3
        rcases S with ⟨e1, e2⟩ | ⟨e0, e1, e2⟩
        · refine (refRead_neginf w s n2 e1).mono ?_
          rintro e w' ⟨rfl, b⟩
          exact ⟨18442240474082181120, 0, rfl, .inr (.inr ⟨by omega, h2, _, sg, .inl ⟨e1, e2⟩, .inl ⟨rfl, by rw [e2], rfl⟩⟩), b⟩
        · refine (refRead_inf w s n2 e1.symm).mono ?_
          rintro e w' ⟨rfl, b⟩
          exact ⟨9218868437227405312, 0, rfl, .inr (.inr ⟨by omega, h2, _, sg, .inr ⟨e0, e1, e2⟩, .inl ⟨rfl, by rw [e2], rfl⟩⟩), b⟩
      · have hsg : (s.data.toList = 45 :: (⟨t.toArray⟩ : ByteArray).data.toList ∧ sg = 9223372036854775808) ∨ ((∀ r, s.data.toList ≠ 45 :: r) ∧ (⟨t.toArray⟩ : ByteArray) = s ∧ sg = 0) := by
          rcases S with ⟨e1, e2⟩ | ⟨e0, e1, e2⟩
          · exact .inl ⟨e1, e2⟩
          · exact .inr ⟨e0, by rw [e1], e2⟩
        refine (refRead_core w s ⟨t.toArray⟩ sg (by omega) tsz n2 (by rw [list_beq]; exact decide_eq_false h3) hsg).mono ?_
        rintro e w' ⟨v, x, rfl, r, b⟩
        exact ⟨v, x, rfl, .inr (.inr ⟨by omega, h2, t, sg, S, .inr ⟨h3, r⟩⟩), b⟩
set_option maxHeartbeats 8000000 in
set_option maxRecDepth 100000 in
theorem lawReads (w : World) (s : ByteArray) (hs : s.size ≤ 140737488355328) :
    Calls Tryd.prog 5 #[.string s] w fun e w' => e = .returned (.bool true) ∧ Below w.heap.size w w' := by
  have K1 := hide (readW_any w s hs)
  have K2 : ∀ w, Hid _ := fun w => hide (refRead_any w s hs)
  go_enter Tryd.func5, Tryd.ntmps5
  go_wp2_with fail
  refine (unhide K1).mono ?_
  rintro e w1 ⟨v, x, rfl, r1, b1⟩
  have R1 := hide r1
  clear r1 K1
  go_wp2_with fail
  refine (unhide (K2 w1)).mono ?_
  rintro e w2 ⟨v', x', rfl, r2, b2⟩
  obtain ⟨q1, q2⟩ := reads_unique (unhide R1) r2
  subst q1 q2
  have bw := b1.trans (b2.mono b1.size)
  clear R1 r2 K2 b1 b2
  generalize (v : Int) = vI at *
  go_wp2
  go_ret
  exact ⟨rfl, bw⟩
end Go.Proofs.YtobbbhmkcmbekaaDoor.bigs
