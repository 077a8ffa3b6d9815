/- The walks of package utf: Size, Next, startsBad, Bad. -/
import Derived.Test.YtealhdpieoiikaaDoorShelf
import Derived.Test.YtealhdpieoiikaaDoorPlain
import Derived.WalkKit
import Derived.BigCall
set_option linter.unusedVariables false
namespace Go.Proofs.YtealhdpieoiikaaDoor.walks
open Go.RowKit
open plain

theorem hide {p : Prop} (h : p) : Hid p := h
theorem unhide {p : Prop} (h : Hid p) : p := h

/-- Next: the scalar, and its size -/
def nextR (l : List UInt8) : Int := if l = [] then -1 else if badB l = true then -1 else ((Lib.decodeL l).1 : Int)
def nextN (l : List UInt8) : Nat := if l = [] then 0 else (Lib.decodeL l).2

theorem decodeGo_eq (s : ByteArray) : Lib.decodeGo s = if s.data.toList = [] then (65533, 0) else Lib.decodeL s.data.toList := by
  unfold Lib.decodeGo
  have h := Lib.decodeL_drop s 0
  rw [List.drop_zero] at h
  by_cases h0 : s.data.toList = []
  · rw [if_pos h0, if_pos]
    have := congrArg List.length h0
    rw [Array.length_toList] at this
    exact this
  · rw [if_neg h0, if_neg, h]
    intro e
    apply h0
    apply List.eq_nil_of_length_eq_zero
    rw [Array.length_toList]
    exact e

theorem badB_width {l : List UInt8} (hb : badB l = false) (h65 : (Lib.decodeL l).1 = 65533) (hw : (Lib.decodeL l).2 ≤ 1) (h1 : 1 ≤ (Lib.decodeL l).2) : False := by
  have := of_decide_eq_false hb
  exact this ⟨h65, by omega⟩
theorem width_ge (l : List UInt8) : 1 ≤ (Lib.decodeL l).2 := by unfold Lib.decodeL; exact Lib.width_pos _ _

set_option maxHeartbeats 1000000 in
theorem next_any (s : ByteArray) (w : World) (hT : Lib.Utf8Tabs 0 1 w) :
    Calls Tryd.prog 9 #[.string s] w fun e w' => e = .returned (.tuple #[.int .i32 (nextR s.data.toList), .int .i64 (nextN s.data.toList)]) ∧ Below w.heap.size w w' := by
  have hd := decodeGo_eq s
  have hw := width_ge s.data.toList
  by_cases h0 : s.data.toList = []
  · have e1 : (Lib.decodeGo s) = (65533, 0) := by rw [hd, if_pos h0]
    have e2 : nextR s.data.toList = -1 := by simp [nextR, h0]
    have e3 : nextN s.data.toList = 0 := by simp [nextN, h0]
    rw [e2, e3]
    have hc := Tryd.utf8_DecodeRuneInString s w hT
    rw [e1] at hc
    have HC := hide hc
    clear hc e1 e2 e3 hd hw h0 hT
    go_enter Tryd.func9, Tryd.ntmps9
    go_wp2_with (go_at_call 24; refine (unhide HC).mono ?_; rintro e w' ⟨rfl, hb⟩)
    go_ret2
    exact ⟨rfl, hb⟩
  · cases hb : badB s.data.toList with
    | true =>
      obtain ⟨ed, _⟩ := badB_true h0 hb
      have e1 : (Lib.decodeGo s) = (65533, 1) := by rw [hd, if_neg h0, ed]
      have e2 : nextR s.data.toList = -1 := by simp [nextR, h0, hb]
      have e3 : nextN s.data.toList = 1 := by simp [nextN, h0, ed]
      rw [e2, e3]
      have hc := Tryd.utf8_DecodeRuneInString s w hT
      rw [e1] at hc
      have HC := hide hc
      clear hc e1 e2 e3 hd hw h0 hT ed hb
      go_enter Tryd.func9, Tryd.ntmps9
      go_wp2_with (go_at_call 24; refine (unhide HC).mono ?_; rintro e w' ⟨rfl, hb⟩)
      go_ret2
      exact ⟨rfl, hb⟩
    | false =>
      have e1 : (Lib.decodeGo s) = Lib.decodeL s.data.toList := by rw [hd, if_neg h0]
      have e2 : nextR s.data.toList = ((Lib.decodeL s.data.toList).1 : Int) := by simp [nextR, h0, hb]
      have e3 : nextN s.data.toList = (Lib.decodeL s.data.toList).2 := by simp [nextN, h0]
      have hx := fun h65 hw1 => badB_width hb h65 hw1 hw
      rw [e2, e3]
      have hc := Tryd.utf8_DecodeRuneInString s w hT
      rw [e1] at hc
      have HC := hide hc
      clear hc e1 e2 e3 hd h0 hT hb
      generalize (Lib.decodeL s.data.toList).1 = r at *
      generalize (Lib.decodeL s.data.toList).2 = n at *
      by_cases h65 : r = 65533
      · have hn : ¬ n ≤ 1 := fun h => hx h65 h
        have t1 : ((r : Int) == 65533) = true := by simp [h65]
        have t2 : decide ((n : Int) ≤ 1) = false := by simp; omega
        have H5 := hide h65
        clear hx h65
        go_enter Tryd.func9, Tryd.ntmps9
        go_wp2_with (go_at_call 24; refine (unhide HC).mono ?_; rintro e w' ⟨rfl, hb⟩)
        go_ret2
        exact ⟨rfl, hb⟩
      · have t1 : ((r : Int) == 65533) = false := by simp; omega
        clear hx h65
        go_enter Tryd.func9, Tryd.ntmps9
        go_wp2_with (go_at_call 24; refine (unhide HC).mono ?_; rintro e w' ⟨rfl, hb⟩)
        go_ret2
        exact ⟨rfl, hb⟩
end Go.Proofs.YtealhdpieoiikaaDoor.walks
