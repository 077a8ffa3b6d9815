/- The walk of the law that lines with a byte 10 between make the text. -/
import Derived.Test.YtekfnjihgahonaaStarts
set_option linter.unusedVariables false
namespace Go.Proofs.Ytekfnjihgahonaa.walks
open Go.RowKit
open plain

theorem info9 : (Try.prog.info? 9).map (fun i => (i.zero, i.size, i.bytes)) = some (some (.string ⟨#[]⟩), 1, 16) := by kernel_rfl

/-- The lines as far as line k, with a byte 10 between, are the text as far as that line. -/
def Made (l : List UInt8) (k : Nat) (xs : List ByteArray) : Prop := k = 0 ∨ ∃ a b, Ln l k a b ∧ Lib.join (xs.map (·.data.toList)) [10] = l.take b

theorem made_next {s : ByteArray} {k a b : Nat} {xs : List ByteArray} (h : Made s.data.toList k xs) (hl : xs.length = k) (hL : Ln s.data.toList (k + 1) a b) : Made s.data.toList (k + 1) (xs ++ [s.extract a b]) := by
  refine .inr ⟨a, b, hL, ?_⟩
  rw [List.map_append, List.map_cons, List.map_nil, ext_list]
  rcases h with h | ⟨a0, b0, hL0, hj⟩
  · have : xs = [] := List.eq_nil_of_length_eq_zero (by omega)
    subst this
    have ha : a = 0 := by
      refine st_inj hL.st ⟨Nat.zero_le _, .inl rfl⟩ ?_
      have := hL.num
      rw [cnt_zero]
      omega
    subst ha
    simp [Lib.join_one]
  · obtain ⟨h1, h2, h3⟩ := ln_next hL0 hL
    have hk : xs ≠ [] := by
      intro e
      subst e
      have := hL0.num
      simp at hl
      omega
    rw [join_snoc _ _ (by simpa using hk), hj]
    subst h3
    have hb := hL.ab
    have e1 : s.data.toList.take b = s.data.toList.take (b0 + 1) ++ (s.data.toList.take b).drop (b0 + 1) := by
      have := (List.take_append_drop (b0 + 1) (s.data.toList.take b)).symm
      rwa [List.take_take, Nat.min_eq_left hb] at this
    rw [take_succ _ _ h1, h2, List.append_assoc, List.singleton_append] at e1
    exact e1.symm
theorem made_all {s : ByteArray} {xs : List ByteArray} (h : Made s.data.toList (s.data.toList.count 10 + 1) xs) : Lib.join (xs.map (·.data.toList)) [10] = s.data.toList := by
  rcases h with h | ⟨a, b, hL, hj⟩
  · omega
  · rw [hj, ln_last hL, List.take_length]

theorem contains_no (s : ByteArray) (n a b : Nat) (hL : Ln s.data.toList n a b) (w : World) :
    Calls Try.prog 14 #[.string (s.extract a b), .string ⟨#[10]⟩] w fun e w' => e = .returned (.bool false) ∧ w' = w := by
  have c := Try.strings_Contains_one (s.extract a b) 10 w
  rw [ext_list, no_ten hL] at c
  exact c
theorem join_all (s : ByteArray) (g cap : Nat) (xs : List ByteArray) (base : Nat) (w : World) (hs : s.size ≤ 1048576) (hl : xs.length ≤ 1048577)
    (hown : w.ownsRow base 9 1 (.slice (some ⟨g, 0, none⟩) xs.length cap) xs.length (xs.map Value.string)) (hg : g < w.heap.size) (hj : Lib.join (xs.map (·.data.toList)) [10] = s.data.toList) :
    Calls Try.prog 15 #[.slice (some ⟨g, 0, none⟩) xs.length cap, .string ⟨#[10]⟩] w fun e w' => e = .returned (.string s) ∧ Below w.heap.size w w' := by
  have hc : xs.length ≤ cap := by
    rcases hown.2 with ⟨h, _⟩ | ⟨g', cap', cur, h, _, _, hle, _⟩
    · cases h
    · simp only [Value.slice.injEq] at h
      omega
  have c := Try.strings_Join g 0 cap xs ⟨#[10]⟩ w (fun j x hx => by
    have hj : j < xs.length := (List.getElem?_eq_some_iff.1 hx).1
    rw [Nat.zero_add, hown.cellAt j (by omega)]
    simp [hx]) hg (by omega) hc (by
      have e : Lib.join (xs.map (·.data.toList)) (⟨#[10]⟩ : ByteArray).data.toList = s.data.toList := hj
      rw [e, len_list]; omega)
  have e : Lib.join (xs.map (·.data.toList)) (⟨#[10]⟩ : ByteArray).data.toList = s.data.toList := hj
  rw [e] at c
  have e2 : (⟨s.data.toList.toArray⟩ : ByteArray) = s := by simp
  rwa [e2] at c

set_option maxHeartbeats 2000000 in
set_option maxRecDepth 100000 in
theorem lawLines (s : ByteArray) (w : World) (hs : s.size ≤ 1048576) :
    Calls Try.prog 5 #[.string s] w fun e w' => e = .returned (.bool true) ∧ Below w.heap.size w w' := by
  obtain ⟨i0, hi, hz0, hz1, hz2⟩ := info_parts info9
  have C := hide (places_any w)
  have hN : (stK s.data.toList s.size).length = s.data.toList.count 10 + 1 := by
    have := stK_length s.data.toList s.size (by rw [len_list]; exact Nat.le_refl _)
    rw [this, ← len_list s, cnt_all]
  have hcl : s.data.toList.count 10 ≤ s.size := by
    have := cnt_le s.data.toList s.size
    rwa [← len_list s, cnt_all, len_list s] at this
  have C1 : ∀ w, Hid _ := fun w => hide (starts_any s w hs)
  have C2 : ∀ w, Hid _ := fun w => hide (line_none s ((s.data.toList.count 10 : Int) + 1 + 1) w (by omega) (by omega) (.inr (by omega)))
  have HX : Hid (∀ k, k ≤ s.data.toList.count 10 → ∃ a b, Ln s.data.toList (k + 1) a b) := fun k hk => ln_exists (by omega) (by omega)
  have HJ : Hid (∀ xs, Made s.data.toList (s.data.toList.count 10 + 1) xs → Lib.join (xs.map (·.data.toList)) [10] = s.data.toList) := fun xs h => made_all h
  rw [hN] at C1
  clear hN
  generalize s.data.toList.count 10 = N at *
  go_enter Try.func5, Try.ntmps5
  go_wp2_with fail
  refine (unhide C).mono ?_
  rintro e w1 ⟨rfl, b1⟩
  go_wp2_with fail
  refine (unhide (C1 _)).mono ?_
  rintro e w2 ⟨bk, cap, rfl, _, b2⟩
  have b12 := b1.trans (b2.mono b1.size)
  clear C C1 b1 b2
  go_wp2_with fail
  go_loopw [4, 5] (fun v i wr => ∃ (k : Nat) (xs : List ByteArray), k ≤ N + 1 ∧ i = .int .i64 ((k : Int) + 1) ∧ xs.length = k ∧ wr.ownsRow w2.heap.size 9 1 v k (xs.map Value.string) ∧ Hid (Made s.data.toList k xs) ∧ Below w2.heap.size w2 wr) (fun _ i _ => N + 2 - (intOf i).toNat)
  case atStart =>
    exact ⟨0, [], Nat.zero_le _, rfl, rfl, World.ownsRow_nil _ _ _ _, .inl rfl, Below.refl _ _⟩
  case round =>
    obtain ⟨k, xs, hk, rfl, hxl, hown, hmade, hbw⟩ := hrel
    by_cases hlt : k < N + 1
    · obtain ⟨a, b, hL⟩ := HX.out k (by omega)
      have C3 : ∀ w, Hid _ := fun w => hide (line_in s (k + 1) a b w (by omega) hL)
      have C4 : ∀ w, Hid _ := fun w => hide (contains_no s (k + 1) a b hL w)
      have hmade2 : Hid (Made s.data.toList (k + 1) (xs ++ [s.extract a b])) := made_next hmade.out hxl hL
      have e1 : ((k + 1 : Nat) : Int) = (k : Int) + 1 := by omega
      rw [e1] at C3
      clear hL e1 hmade
      generalize s.extract a b = x at *
      go_wp2_with fail
      refine (unhide (C3 _)).mono ?_
      rintro e w3 ⟨rfl, rfl⟩
      go_wp2_with fail
      refine (unhide (C4 _)).mono ?_
      rintro e w3 ⟨rfl, rfl⟩
      go_wp2_with (at_builtin; refine wpList_append_own _ rfl _ _ 23 rfl w2.heap.size 9 i0 (.string ⟨#[]⟩) 1 16 Try.underlying23 hi hz0 hz1 hz2 rfl (by decide) _ _ _ rfl (hown.alloc _) ⟨w3.heap.size, 0, none⟩ 1 1 [.string x] rfl rfl ?c1 ?c2 ?c3 ?c4 ?c5 ?_)
      case c1 => exact cell_one_new _ _ _
      case c2 => intro u hu; simp at hu; subst hu; rfl
      case c3 => unfold maxLen; omega
      case c4 => omega
      case c5 => have := hbw.size; simp; omega
      intro v' w4 hown' hgrow _
      have hbw2 : Below w2.heap.size w2 w4 := (hbw.alloc hbw.size _).grown hgrow (by have := hbw.size; simp; omega) (own_ge hown)
      clear hgrow hown
      go_wp2
      go_roundw
      case rel =>
        refine ⟨k + 1, xs ++ [x], by omega, by go_num, by simp [hxl], ?_, hmade2, hbw2⟩
        simpa using hown'
      case measure => simp only [intOf]; omega
    · have hkN : k = N + 1 := by omega
      subst hkN
      have hj := HJ.out xs hmade.out
      have HJ2 := hide hj
      clear hj hmade
      obtain ⟨g, cap2, rfl, hg1, hg2⟩ := hown.form (by omega)
      rw [← hxl] at hown
      have C5 := hide (join_all s g cap2 xs w2.heap.size wr hs (by omega) hown hg2 HJ2.out)
      rw [hxl] at C5
      clear hown HJ2 hg1 hg2
      go_wp2_with fail
      refine (unhide (C2 _)).mono ?_
      rintro e w3 ⟨rfl, rfl⟩
      go_wp2_with fail
      refine (unhide C5).mono ?_
      rintro e w4 ⟨rfl, b4⟩
      have b14 := b12.trans ((hbw.trans (b4.mono hbw.size)).mono b12.size)
      go_wp2
      go_ret
      exact ⟨rfl, b14⟩
end Go.Proofs.Ytekfnjihgahonaa.walks
