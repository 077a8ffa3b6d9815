/- The walks of the document's BadPlace, Scalars. -/
import Derived.Test.YteehffjainffcaaDoorUtfCodes
import Derived.Test.YteehffjainffcaaDoorUtfRunes
set_option linter.unusedVariables false
namespace Go.Proofs.YteehffjainffcaaDoor.utfs
open Go.RowKit

theorem width_le {l : List UInt8} (h : l ≠ []) : (Lib.decodeL l).2 ≤ l.length := by
  rcases read_one l h with ⟨e, _⟩ | ⟨r, rest, hs, hl, e⟩
  · rw [e]
    cases l with
    | nil => exact absurd rfl h
    | cons a b => simp
  · rw [e, hl, List.length_append]; simp only; omega
theorem nextN_pos {l : List UInt8} (h : l ≠ []) : nextN l = (Lib.decodeL l).2 := by simp [nextN, h]
theorem drop_ne (s : ByteArray) (pos : Nat) (hp : pos < s.size) : s.data.toList.drop pos ≠ [] := by
  intro e
  have := congrArg List.length e
  rw [List.length_drop, len_list] at this
  simp only [List.length_nil] at this
  omega

set_option maxHeartbeats 2000000 in
set_option maxRecDepth 100000 in
theorem badPlace_any (s : ByteArray) (w : World) (hs : s.size ≤ 140737488355328) :
    Calls Tryd.prog 18 #[.string s] w fun e w' => e = .returned (.int .i64 (bad s.data.toList)) ∧ Below w.heap.size w w' := by
  go_enter Tryd.func18, Tryd.ntmps18
  go_wp2
  go_loopw [3] (fun i wr => ∃ (pos fuel : Nat), i = .int .i64 pos ∧ pos ≤ s.size ∧ Below w.heap.size w wr ∧ Hid (badF fuel pos (s.data.toList.drop pos) = bad s.data.toList) ∧ s.size ≤ pos + fuel) (fun i _ => s.size - (intOf i).toNat)
  case atStart => exact ⟨0, s.size, rfl, Nat.zero_le _, Below.refl _ _, rfl, by omega⟩
  case round =>
    obtain ⟨pos, fuel, rfl, hle, hbw, hacc, hfu⟩ := hrel
    by_cases hp : pos < s.size
    · have hl := drop_ne s pos hp
      have hwl := width_le hl
      rw [List.length_drop, len_list] at hwl
      have hwd := width_ge (s.data.toList.drop pos)
      obtain ⟨f, rfl⟩ : ∃ f, fuel = f + 1 := ⟨fuel - 1, by omega⟩
      have hc := code_any (s.extract pos s.size) wr (by rw [ByteArray.size_extract]; omega)
      rw [ext_drop, nextN_pos hl] at hc
      have hneg := nextR_neg hl
      have hstep : badF (f + 1) pos (s.data.toList.drop pos) = if badB (s.data.toList.drop pos) = true then (pos : Int) else badF f (pos + (Lib.decodeL (s.data.toList.drop pos)).2) (s.data.toList.drop (pos + (Lib.decodeL (s.data.toList.drop pos)).2)) := by
        simp only [badF]
        rw [if_neg hl, List.drop_drop]
      have h2 := hacc.out
      rw [hstep] at h2
      have HA := hide h2
      have HC := hide hc
      clear hc h2 hstep hacc
      generalize nextR (s.data.toList.drop pos) = r at *
      generalize (Lib.decodeL (s.data.toList.drop pos)).2 = n at *
      cases hbb : badB (s.data.toList.drop pos) with
      | true =>
        rw [hbb] at HA hneg
        rw [if_pos rfl] at HA
        have hr : r < 0 := hneg.2 rfl
        clear hbb hneg
        go_wp2_with fail
        refine (unhide HC).mono ?_
        rintro e w1 ⟨rfl, b1⟩
        go_wp2_with fail
        go_ret
        rw [← HA.out]
        exact ⟨rfl, hbw.trans (b1.mono hbw.size)⟩
      | false =>
        rw [hbb] at HA hneg
        rw [if_neg (by simp)] at HA
        have hr : ¬ r < 0 := fun h => by have := hneg.1 h; cases this
        clear hbb hneg
        go_wp2_with fail
        refine (unhide HC).mono ?_
        rintro e w1 ⟨rfl, b1⟩
        go_wp2_with fail
        go_roundw
        case rel => exact ⟨pos + n, f, by go_num, by omega, hbw.trans (b1.mono hbw.size), HA, by omega⟩
        case measure => simp [intOf]; omega
    · have hl : s.data.toList.drop pos = [] := List.drop_of_length_le (by rw [len_list]; omega)
      have h2 := hacc.out
      rw [hl, badF_nil] at h2
      have HA := hide h2
      clear h2 hl hacc
      go_wp2
      go_ret
      rw [← HA.out]
      exact ⟨rfl, hbw⟩

theorem next_enc {r : Int} (hs : sc r = true) (rest : List UInt8) : nextR (Lib.encodeRune r ++ rest) = r ∧ nextN (Lib.encodeRune r ++ rest) = (Lib.encodeRune r).length := by
  have h := sc_true hs
  refine next_good (enc_ne r rest) (dec_enc hs rest) h.1 (fun h1 => ?_)
  rcases code_forms hs with ⟨a, e⟩ | ⟨a, b, e⟩ | ⟨a, b, e⟩ | ⟨a, e⟩
  · omega
  · rw [e] at h1; simp at h1
  · rw [e] at h1; simp at h1
  · rw [e] at h1; simp at h1

/-- the length of a string's value -/
def strLen : Value → Nat
  | .string s => s.size
  | _ => 0
theorem ownR_below {w w' : World} {base : Nat} {e : TypeId} {v : Value} {n : Nat} {xs : List Value} (h : w.ownsRow base e 1 v n xs) (hb : Below w.heap.size w w') : w'.ownsRow base e 1 v n xs := by
  refine ⟨h.1, ?_⟩
  rcases h.2 with h2 | ⟨g, cap, cur, e1, e2, hg, e3⟩
  · exact .inl h2
  · exact .inr ⟨g, cap, cur, e1, e2, by rw [hb.block g (Array.getElem?_eq_some_iff.1 hg).1]; exact hg, e3⟩

end Go.Proofs.YteehffjainffcaaDoor.utfs
