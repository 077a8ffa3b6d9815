/- Of our texts, what this claim reaches. -/
import Derived.Test.YtadaehaemmelfaaDoorPabAJ
import Derived.Test.YtadaehaemmelfaaDoorPabAK
import Derived.Lib.OthersKept
import Derived.WalkKit
import Derived.BigCall
import Derived.Lib.ItoaNum
set_option linter.unusedVariables false
set_option maxHeartbeats 2000000
set_option maxRecDepth 100000
namespace Go.Proofs.YtadaehaemmelfaaDoor.utfs
open Go.RowKit
theorem hide {p : Prop} (h : p) : Hid p := h
theorem unhide {p : Prop} (h : Hid p) : p := h
def nextR (l : List UInt8) : Int := if l = [] then -1 else if badB l = true then -1 else ((Lib.decodeL l).1 : Int)
def nextN (l : List UInt8) : Nat := if l = [] then 0 else (Lib.decodeL l).2
theorem decodeGo_eq (s : ByteArray) : Lib.decodeGo s = if s.data.toList = [] then (65533, 0) else Lib.decodeL s.data.toList := by
 unfold Lib.decodeGo
 have h := Lib.decodeL_drop s 0
 rw [List.drop_zero] at h
 by_cases h0 : s.data.toList = []
 ·rw [if_pos h0, if_pos]
  have := congrArg List.length h0
  rw [Array.length_toList] at this
  exact this
 ·rw [if_neg h0, if_neg, h]
  intro e
  apply h0
  apply List.eq_nil_of_length_eq_zero
  rw [Array.length_toList]
  exact e
theorem badB_width {l : List UInt8} (hb : badB l = false) (h65 : (Lib.decodeL l).1 = 65533) (hw : (Lib.decodeL l).2 ≤ 1) (h1 : 1 ≤ (Lib.decodeL l).2) : False := by
 have := of_decide_eq_false hb
 exact this ⟨h65, by omega⟩
theorem width_ge (l : List UInt8) : 1 ≤ (Lib.decodeL l).2 := by unfold Lib.decodeL; exact Lib.width_pos _ _
theorem next_any (s : ByteArray) (w : World) (hT : Lib.Utf8Tabs 1 2 w) :
  Calls Tryd.prog 90 #[.string s] w fun e w' => e = .returned (.tuple #[.int .i32 (nextR s.data.toList), .int .i64 (nextN s.data.toList)]) ∧ Below w.heap.size w w' := by
 have hd := decodeGo_eq s
 have hw := width_ge s.data.toList
 by_cases h0 : s.data.toList = []
 ·have e1 : (Lib.decodeGo s) = (65533, 0) := by rw [hd, if_pos h0]
  have e2 : nextR s.data.toList = -1 := by simp [nextR, h0]
  have e3 : nextN s.data.toList = 0 := by simp [nextN, h0]
  rw [e2, e3]
  have hc := Tryd.utf8_DecodeRuneInString s w hT
  rw [e1] at hc
  have HC := hide hc
  clear hc e1 e2 e3 hd hw h0 hT
  go_enter Tryd.func90, Tryd.ntmps90
  go_wp2_with (go_at_call 109; refine (unhide HC).mono ?_; rintro e w' ⟨rfl, hb⟩)
  go_ret2
  exact ⟨rfl, hb⟩
 ·cases hb : badB s.data.toList with
  | true =>
   obtain ⟨ed, _⟩ := badB_true h0 hb
   have e1 : (Lib.decodeGo s) = (65533, 1) := by rw [hd, if_neg h0, ed]
   have e2 : nextR s.data.toList = -1 := by simp [nextR, h0, hb]
   have e3 : nextN s.data.toList = 1 := by simp [nextN, h0, ed]
   rw [e2, e3]
   have hc := Tryd.utf8_DecodeRuneInString s w hT
   rw [e1] at hc
   have HC := hide hc
   clear hc e1 e2 e3 hd hw h0 hT ed hb
   go_enter Tryd.func90, Tryd.ntmps90
   go_wp2_with (go_at_call 109; refine (unhide HC).mono ?_; rintro e w' ⟨rfl, hb⟩)
   go_ret2
   exact ⟨rfl, hb⟩
  | false =>
   have e1 : (Lib.decodeGo s) = Lib.decodeL s.data.toList := by rw [hd, if_neg h0]
   have e2 : nextR s.data.toList = ((Lib.decodeL s.data.toList).1 : Int) := by simp [nextR, h0, hb]
   have e3 : nextN s.data.toList = (Lib.decodeL s.data.toList).2 := by simp [nextN, h0]
   have hx := fun h65 hw1 => badB_width hb h65 hw1 hw
   rw [e2, e3]
   have hc := Tryd.utf8_DecodeRuneInString s w hT
   rw [e1] at hc
   have HC := hide hc
   clear hc e1 e2 e3 hd h0 hT hb
   generalize (Lib.decodeL s.data.toList).1 = r at *
   generalize (Lib.decodeL s.data.toList).2 = n at *
   by_cases h65 : r = 65533
   ·have hn : ¬ n ≤ 1 := fun h => hx h65 h
    have t1 : ((r : Int) == 65533) = true := by simp [h65]
    have t2 : decide ((n : Int) ≤ 1) = false := by simp; omega
    have H5 := hide h65
    clear hx h65
    go_enter Tryd.func90, Tryd.ntmps90
    go_wp2_with (go_at_call 109; refine (unhide HC).mono ?_; rintro e w' ⟨rfl, hb⟩)
    go_ret2
    exact ⟨rfl, hb⟩
   ·have t1 : ((r : Int) == 65533) = false := by simp; omega
    clear hx h65
    go_enter Tryd.func90, Tryd.ntmps90
    go_wp2_with (go_at_call 109; refine (unhide HC).mono ?_; rintro e w' ⟨rfl, hb⟩)
    go_ret2
    exact ⟨rfl, hb⟩
theorem nextR_neg {l : List UInt8} (h : l ≠ []) : (nextR l < 0) ↔ badB l = true := by
 unfold nextR
 rw [if_neg h]
 by_cases hb : badB l = true
 ·simp [hb]
 ·simp only [hb]; simp
theorem startsBad_any (s : ByteArray) (w : World) (hT : Lib.Utf8Tabs 1 2 w) (h : s.data.toList ≠ []) :
  Calls Tryd.prog 75 #[.string s] w fun e w' => e = .returned (.bool (badB s.data.toList)) ∧ Below w.heap.size w w' := by
 have hn := nextR_neg h
 have hc := next_any s w hT
 have HC := hide hc
 clear hc hT h
 generalize nextR s.data.toList = r at *
 generalize nextN s.data.toList = n at *
 cases hb : badB s.data.toList with
 | true =>
  rw [hb] at hn
  have h0 : r < 0 := hn.2 rfl
  clear hn hb
  go_enter Tryd.func75, Tryd.ntmps75
  go_wp2_with (go_at_call 90; refine (unhide HC).mono ?_; rintro e w' ⟨rfl, hb⟩)
  go_ret
  exact ⟨by simp, hb⟩
 | false =>
  rw [hb] at hn
  have h0 : ¬ r < 0 := fun h => by have := hn.1 h; simp at this
  clear hn hb
  go_enter Tryd.func75, Tryd.ntmps75
  go_wp2_with (go_at_call 90; refine (unhide HC).mono ?_; rintro e w' ⟨rfl, hb⟩)
  go_ret
  exact ⟨by simp; omega, hb⟩
theorem ext_drop (s : ByteArray) (k : Nat) : (s.extract k s.size).data.toList = s.data.toList.drop k := by
 rw [ByteArray.data_extract, Array.toList_extract, List.extract_eq_take_drop]
 apply List.take_of_length_le
 rw [List.length_drop, Array.length_toList]
 exact Nat.le_refl _
theorem len_list (s : ByteArray) : s.data.toList.length = s.size := Array.length_toList
theorem bad_any (s : ByteArray) (w : World) (hs : s.size ≤ 9223372036854775807) (hT : Lib.Utf8Tabs 1 2 w) :
  Calls Tryd.prog 58 #[.string s] w fun e w' => e = .returned (.int .i64 (bad s.data.toList)) ∧ Below w.heap.size w w' := by
 go_enter Tryd.func58, Tryd.ntmps58
 go_wp2
 go_loopw [] (fun wr => ∃ (pos fuel : Nat), wr.heap[w.heap.size]? = some (.stringIter s pos) ∧ Below w.heap.size w wr ∧ badF fuel pos (s.data.toList.drop pos) = bad s.data.toList ∧ s.size ≤ pos + fuel) (fun wr => s.size - wr.iterPos w.heap.size)
 case atStart =>
  refine ⟨0, s.size, ?_, (Below.refl _ w).alloc (Nat.le_refl _) _, rfl, by omega⟩
  have := World.iter_heap w s 0
  simpa using this
 case round =>
  obtain ⟨pos, fuel, hit, hbw, hacc, hfu⟩ := hrel
  have hsz : w.heap.size < wr.heap.size := (Array.getElem?_eq_some_iff.1 hit).1
  by_cases hp : pos < s.size
  ·have hnx : ∀ ty, (Instr.next (.pointer (some ⟨w.heap.size, 0, none⟩)) true ty).run Tryd.prog wr = _ := fun ty => Lib.run_next_any_at wr w.heap.size s pos ty hit hp
   have hl : s.data.toList.drop pos ≠ [] := by
    intro e
    have := congrArg List.length e
    rw [List.length_drop, Array.length_toList] at this
    simp only [List.length_nil] at this
    have h2 : s.data.size = s.size := rfl
    omega
   have hd := Lib.decodeL_drop s pos
   have hwd := width_ge (s.data.toList.drop pos)
   rw [hd] at hwd
   obtain ⟨f, rfl⟩ : ∃ f, fuel = f + 1 := ⟨fuel - 1, by omega⟩
   have hstep : badF (f + 1) pos (s.data.toList.drop pos) = if badB (s.data.toList.drop pos) = true then (pos : Int) else badF f (pos + (Utf8.decode s pos).2) (s.data.toList.drop (pos + (Utf8.decode s pos).2)) := by
    simp only [badF]
    rw [if_neg hl, hd, List.drop_drop]
   rw [hstep] at hacc
   have hit2 := Lib.iterAt_heap wr w.heap.size s pos (pos + (Utf8.decode s pos).2) hit
   have hbw2 := Lib.below_iterAt hbw (k := w.heap.size) (by omega) s (pos + (Utf8.decode s pos).2)
   have HA := hide hacc
   clear hacc hstep
   by_cases h65 : (Utf8.decode s pos).1 = 65533
   ·have t1 : (((Utf8.decode s pos).1 : Int) == 65533) = true := by simp [h65]
    have H65 := hide h65
    clear h65
    have hsb := startsBad_any (s.extract pos s.size) _ (Utf8Tabs_below hT hbw2) (by rw [ext_drop]; exact hl)
    rw [ext_drop] at hsb
    have HSB := hide hsb
    clear hsb
    cases hbb : badB (s.data.toList.drop pos) with
    | true =>
     rw [hbb] at HSB HA
     rw [if_pos rfl] at HA
     clear hbb
     go_wp2_with (go_at_call 75; refine (unhide HSB).mono ?_; rintro e w1 ⟨rfl, hb1⟩)
     go_ret
     rw [← unhide HA]
     exact ⟨rfl, hbw2.trans (hb1.mono (by rw [Lib.iterAt_size]; omega))⟩
    | false =>
     rw [hbb] at HSB HA
     rw [if_neg (by simp)] at HA
     clear hbb
     go_wp2_with (go_at_call 75; refine (unhide HSB).mono ?_; rintro e w1 ⟨rfl, hb1⟩)
     have hit3 : w1.heap[w.heap.size]? = some (.stringIter s (pos + (Utf8.decode s pos).2)) := by
      rw [hb1.block _ (by rw [Lib.iterAt_size]; omega)]; exact hit2
     go_roundw
     case rel => exact ⟨_, f, hit3, hbw2.trans (hb1.mono (by rw [Lib.iterAt_size]; omega)), unhide HA, by omega⟩
     case measure =>
      simp only [World.iterPos, hit3, hit]
      omega
   ·have t1 : (((Utf8.decode s pos).1 : Int) == 65533) = false := by simp; omega
    have hbb : badB (s.data.toList.drop pos) = false := decide_eq_false (by rw [hd]; omega)
    rw [hbb, if_neg (by simp)] at HA
    clear h65 hbb
    go_wp2
    go_roundw
    case rel => exact ⟨_, f, hit2, hbw2, unhide HA, by omega⟩
    case measure =>
     simp only [World.iterPos, hit2, hit]
     omega
  ·have hnx : ∀ ty, (Instr.next (.pointer (some ⟨w.heap.size, 0, none⟩)) true ty).run Tryd.prog wr = _ := fun ty => Lib.run_next_end_at wr w.heap.size s pos ty hit hp
   have hl : s.data.toList.drop pos = [] := List.drop_of_length_le (by rw [len_list]; omega)
   rw [hl, badF_nil] at hacc
   have HA := hide hacc
   clear hacc hl
   go_wp2
   go_ret
   rw [← unhide HA]
   exact ⟨rfl, hbw⟩
end Go.Proofs.YtadaehaemmelfaaDoor.utfs
namespace Go.Proofs.YtadaehaemmelfaaDoor.escs
open Go.RowKit
open utfs
theorem emptyNo (s : ByteArray) (h : 0 < s.size) : s.toList.isEmpty = false := by
 rw [ByteArray.toList_eq, List.isEmpty_eq_false_iff]
 intro e
 have := congrArg List.length e
 rw [len_list] at this
 simp only [List.length_nil] at this
 omega
theorem emptyYes (s : ByteArray) (h : s.size = 0) : s.toList.isEmpty = true := by
 rw [ByteArray.toList_eq, List.isEmpty_iff]
 apply List.eq_nil_of_length_eq_zero
 rw [len_list]; exact h
end Go.Proofs.YtadaehaemmelfaaDoor.escs
