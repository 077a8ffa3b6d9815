/- The walks of package utf: startsBad, Bad. -/
import Derived.Test.YtealhdpieoiikaaDoorWalks
set_option linter.unusedVariables false
namespace Go.Proofs.YtealhdpieoiikaaDoor.walks
open Go.RowKit
open plain

theorem nextR_neg {l : List UInt8} (h : l ≠ []) : (nextR l < 0) ↔ badB l = true := by
  unfold nextR
  rw [if_neg h]
  by_cases hb : badB l = true
  · simp [hb]
  · simp only [hb]; simp

set_option maxHeartbeats 400000 in
theorem startsBad_any (s : ByteArray) (w : World) (hT : Lib.Utf8Tabs 0 1 w) (h : s.data.toList ≠ []) :
    Calls Tryd.prog 26 #[.string s] w fun e w' => e = .returned (.bool (badB s.data.toList)) ∧ Below w.heap.size w w' := by
  have hn := nextR_neg h
  have hc := next_any s w hT
  have HC := hide hc
  clear hc hT h
  generalize nextR s.data.toList = r at *
  generalize nextN s.data.toList = n at *
  cases hb : badB s.data.toList with
  | true =>
    rw [hb] at hn
    have h0 : r < 0 := hn.2 rfl
    clear hn hb
    go_enter Tryd.func26, Tryd.ntmps26
    go_wp2_with (go_at_call 9; refine (unhide HC).mono ?_; rintro e w' ⟨rfl, hb⟩)
    go_ret
    exact ⟨by simp, hb⟩
  | false =>
    rw [hb] at hn
    have h0 : ¬ r < 0 := fun h => by have := hn.1 h; simp at this
    clear hn hb
    go_enter Tryd.func26, Tryd.ntmps26
    go_wp2_with (go_at_call 9; refine (unhide HC).mono ?_; rintro e w' ⟨rfl, hb⟩)
    go_ret
    exact ⟨by simp; omega, hb⟩

theorem ext_drop (s : ByteArray) (k : Nat) : (s.extract k s.size).data.toList = s.data.toList.drop k := by
  rw [ByteArray.data_extract, Array.toList_extract, List.extract_eq_take_drop]
  apply List.take_of_length_le
  rw [List.length_drop, Array.length_toList]
  exact Nat.le_refl _
theorem ext_take (s : ByteArray) (k : Nat) : (s.extract 0 k).data.toList = s.data.toList.take k := by
  rw [ByteArray.data_extract, Array.toList_extract, List.extract_eq_take_drop]
  simp
theorem len_list (s : ByteArray) : s.data.toList.length = s.size := Array.length_toList

set_option maxHeartbeats 2000000 in
set_option maxRecDepth 100000 in
theorem bad_any (s : ByteArray) (w : World) (hs : s.size ≤ 9223372036854775807) (hT : Lib.Utf8Tabs 0 1 w) :
    Calls Tryd.prog 16 #[.string s] w fun e w' => e = .returned (.int .i64 (bad s.data.toList)) ∧ Below w.heap.size w w' := by
  go_enter Tryd.func16, Tryd.ntmps16
  go_wp2
  go_loopw [] (fun wr => ∃ (pos fuel : Nat), wr.heap[w.heap.size]? = some (.stringIter s pos) ∧ Below w.heap.size w wr ∧ badF fuel pos (s.data.toList.drop pos) = bad s.data.toList ∧ s.size ≤ pos + fuel) (fun wr => s.size - wr.iterPos w.heap.size)
  case atStart =>
    refine ⟨0, s.size, ?_, (Below.refl _ w).alloc (Nat.le_refl _) _, rfl, by omega⟩
    have := World.iter_heap w s 0
    simpa using this
  case round =>
    obtain ⟨pos, fuel, hit, hbw, hacc, hfu⟩ := hrel
    have hsz : w.heap.size < wr.heap.size := (Array.getElem?_eq_some_iff.1 hit).1
    by_cases hp : pos < s.size
    · have hnx : ∀ ty, (Instr.next (.pointer (some ⟨w.heap.size, 0, none⟩)) true ty).run Tryd.prog wr = _ := fun ty => Lib.run_next_any_at wr w.heap.size s pos ty hit hp
      have hl : s.data.toList.drop pos ≠ [] := by
        intro e
        have := congrArg List.length e
        rw [List.length_drop, Array.length_toList] at this
        simp only [List.length_nil] at this
        have h2 : s.data.size = s.size := rfl
        omega
      have hd := Lib.decodeL_drop s pos
      have hwd := width_ge (s.data.toList.drop pos)
      rw [hd] at hwd
      obtain ⟨f, rfl⟩ : ∃ f, fuel = f + 1 := ⟨fuel - 1, by omega⟩
      have hstep : badF (f + 1) pos (s.data.toList.drop pos) = if badB (s.data.toList.drop pos) = true then (pos : Int) else badF f (pos + (Utf8.decode s pos).2) (s.data.toList.drop (pos + (Utf8.decode s pos).2)) := by
        simp only [badF]
        rw [if_neg hl, hd, List.drop_drop]
      rw [hstep] at hacc
      have hit2 := Lib.iterAt_heap wr w.heap.size s pos (pos + (Utf8.decode s pos).2) hit
      have hbw2 := Lib.below_iterAt hbw (k := w.heap.size) (by omega) s (pos + (Utf8.decode s pos).2)
      have HA := hide hacc
      clear hacc hstep
      by_cases h65 : (Utf8.decode s pos).1 = 65533
      · have t1 : (((Utf8.decode s pos).1 : Int) == 65533) = true := by simp [h65]
        have H65 := hide h65
        clear h65
        have hsb := startsBad_any (s.extract pos s.size) _ (Utf8Tabs_below hT hbw2) (by rw [ext_drop]; exact hl)
        rw [ext_drop] at hsb
        have HSB := hide hsb
        clear hsb
        cases hbb : badB (s.data.toList.drop pos) with
        | true =>
          rw [hbb] at HSB HA
          rw [if_pos rfl] at HA
          clear hbb
          go_wp2_with (go_at_call 26; refine (unhide HSB).mono ?_; rintro e w1 ⟨rfl, hb1⟩)
          go_ret
          rw [← unhide HA]
          exact ⟨rfl, hbw2.trans (hb1.mono (by rw [Lib.iterAt_size]; omega))⟩
        | false =>
          rw [hbb] at HSB HA
          rw [if_neg (by simp)] at HA
          clear hbb
          go_wp2_with (go_at_call 26; refine (unhide HSB).mono ?_; rintro e w1 ⟨rfl, hb1⟩)
          have hit3 : w1.heap[w.heap.size]? = some (.stringIter s (pos + (Utf8.decode s pos).2)) := by
            rw [hb1.block _ (by rw [Lib.iterAt_size]; omega)]; exact hit2
          go_roundw
          case rel => exact ⟨_, f, hit3, hbw2.trans (hb1.mono (by rw [Lib.iterAt_size]; omega)), unhide HA, by omega⟩
          case measure =>
            simp only [World.iterPos, hit3, hit]
            omega
      · have t1 : (((Utf8.decode s pos).1 : Int) == 65533) = false := by simp; omega
        have hbb : badB (s.data.toList.drop pos) = false := decide_eq_false (by rw [hd]; omega)
        rw [hbb, if_neg (by simp)] at HA
        clear h65 hbb
        go_wp2
        go_roundw
        case rel => exact ⟨_, f, hit2, hbw2, unhide HA, by omega⟩
        case measure =>
          simp only [World.iterPos, hit2, hit]
          omega
    · have hnx : ∀ ty, (Instr.next (.pointer (some ⟨w.heap.size, 0, none⟩)) true ty).run Tryd.prog wr = _ := fun ty => Lib.run_next_end_at wr w.heap.size s pos ty hit hp
      have hl : s.data.toList.drop pos = [] := List.drop_of_length_le (by rw [len_list]; omega)
      rw [hl, badF_nil] at hacc
      have HA := hide hacc
      clear hacc hl
      go_wp2
      go_ret
      rw [← unhide HA]
      exact ⟨rfl, hbw⟩
end Go.Proofs.YtealhdpieoiikaaDoor.walks
