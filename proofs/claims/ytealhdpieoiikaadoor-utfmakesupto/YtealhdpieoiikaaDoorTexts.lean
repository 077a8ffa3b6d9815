/- The walks of package utf: Size, Text, Clean, Cut; and slices.Equal over runes. -/
import Derived.Test.YtealhdpieoiikaaDoorRunes
import Derived.Deep.QuietTactic
import Derived.BigQuiet
set_option linter.unusedVariables false
namespace Go.Proofs.YtealhdpieoiikaaDoor.walks
open Go.RowKit
open plain

set_option maxHeartbeats 400000 in
theorem size_any (r : Int) (w : World) :
    Calls Tryd.prog 15 #[.int .i32 r] w fun e w' => e = .returned (.int .i64 (sizeZ r)) ∧ w' = w := by
  have key : ∀ n : Int, sizeZ r = n → Calls Tryd.prog 15 #[.int .i32 r] w (fun e w' => e = .returned (.int .i64 n) ∧ w' = w) →
      Calls Tryd.prog 15 #[.int .i32 r] w fun e w' => e = .returned (.int .i64 (sizeZ r)) ∧ w' = w := fun n e h => by rw [e]; exact h
  by_cases h0 : r < 0
  · refine key 0 (by have : sc r = false := decide_eq_false (by omega); simp [sizeZ, this]) ?_
    clear key
    go_enter Tryd.func15, Tryd.ntmps15
    go_wp2
    go_ret
    exact ⟨rfl, rfl⟩
  · by_cases h1 : 55296 ≤ r
    · by_cases h2 : r ≤ 57343
      · refine key 0 (by have : sc r = false := decide_eq_false (by omega); simp [sizeZ, this]) ?_
        clear key
        go_enter Tryd.func15, Tryd.ntmps15
        go_wp2
        go_ret
        exact ⟨rfl, rfl⟩
      · by_cases h3 : 1114111 < r
        · refine key 0 (by have : sc r = false := decide_eq_false (by omega); simp [sizeZ, this]) ?_
          clear key
          go_enter Tryd.func15, Tryd.ntmps15
          go_wp2
          go_ret
          exact ⟨rfl, rfl⟩
        · have hs : sc r = true := decide_eq_true (by omega)
          by_cases h4 : r < 65536
          · refine key 3 (by simp only [sizeZ, hs, if_true]; rw [if_neg (by omega), if_neg (by omega), if_pos h4]) ?_
            clear key hs
            go_enter Tryd.func15, Tryd.ntmps15
            go_wp2
            go_ret
            exact ⟨rfl, rfl⟩
          · refine key 4 (by simp only [sizeZ, hs, if_true]; rw [if_neg (by omega), if_neg (by omega), if_neg h4]) ?_
            clear key hs
            go_enter Tryd.func15, Tryd.ntmps15
            go_wp2
            go_ret
            exact ⟨rfl, rfl⟩
    · have hs : sc r = true := decide_eq_true (by omega)
      by_cases h2 : r < 128
      · refine key 1 (by simp only [sizeZ, hs, if_true]; rw [if_pos h2]) ?_
        clear key hs
        go_enter Tryd.func15, Tryd.ntmps15
        go_wp2
        go_ret
        exact ⟨rfl, rfl⟩
      · by_cases h3 : r < 2048
        · refine key 2 (by simp only [sizeZ, hs, if_true]; rw [if_neg h2, if_pos h3]) ?_
          clear key hs
          go_enter Tryd.func15, Tryd.ntmps15
          go_wp2
          go_ret
          exact ⟨rfl, rfl⟩
        · refine key 3 (by simp only [sizeZ, hs, if_true]; rw [if_neg h2, if_neg h3, if_pos (by omega)]) ?_
          clear key hs
          go_enter Tryd.func15, Tryd.ntmps15
          go_wp2
          go_ret
          exact ⟨rfl, rfl⟩

/-- What Text answers. -/
def textB (l : List Int) : List UInt8 := if l.all sc then enc l else []
def textE (l : List Int) : Int := if l.all sc then 0 else 3

theorem take_succ (l : List Int) (k : Nat) (h : k < l.length) : l.take (k + 1) = l.take k ++ [l.getD k 0] := by
  rw [List.take_succ_eq_append_getElem h]
  simp [List.getD, List.getElem?_eq_getElem h]
theorem all_take (l : List Int) (k : Nat) (h : k < l.length) (ha : (l.take k).all sc = true) (hb : sc (l.getD k 0) = true) : (l.take (k + 1)).all sc = true := by
  rw [take_succ l k h, List.all_append, ha]; simpa using hb
theorem not_all (l : List Int) (k : Nat) (h : k < l.length) (hb : sc (l.getD k 0) = false) : l.all sc = false := by
  cases e : l.all sc with
  | false => rfl
  | true =>
    rw [List.all_eq_true] at e
    have := e (l.getD k 0) (by simp [List.getD, List.getElem?_eq_getElem h])
    rw [hb] at this; cases this

set_option maxHeartbeats 1000000 in
set_option maxRecDepth 100000 in
theorem text_any (a : Option Addr) (l : List Int) (cap : Nat) (w : World) (hl : 4 * l.length ≤ 140737488355328) (hE : Elems w a l) (hF : Fit l) :
    Calls Tryd.prog 19 #[.slice a l.length cap] w fun e w' => e = .returned (.tuple #[.string ⟨(textB l).toArray⟩, .int .i64 (textE l)]) ∧ Below w.heap.size w w' := by
  go_enter Tryd.func19, Tryd.ntmps19
  go_wp2
  go_loopw [9] (fun i wr => ∃ k : Nat, k ≤ l.length ∧ i = .int .i64 k ∧ (l.take k).all sc = true ∧ Lib.IsBuilderF 49 5 w.heap.size w.heap.size (Lib.byteCells (enc (l.take k))) wr ∧ Below w.heap.size w wr) (fun i _ => l.length - (intOf i).toNat)
  case atStart =>
    refine ⟨0, Nat.zero_le _, rfl, rfl, Lib.IsBuilderF.of (Lib.fresh_isBuilder 49 5 w), (Below.refl _ w).alloc (Nat.le_refl _) _⟩
  case round =>
    obtain ⟨k, hk, rfl, hall, hI, hbw⟩ := hrel
    by_cases hlt : k < l.length
    · obtain ⟨b, o, rfl, hb, hc⟩ := hE (by omega)
      have hcell : wr.cell? ⟨b, o + k, none⟩ = some (.int .i32 (l.getD k 0)) := by
        rw [hbw.cell (p := ⟨b, o + k, none⟩) hb]; exact hc k hlt
      obtain ⟨hf0, hf1⟩ := hF k hlt
      have hlen : (enc (l.take k)).length ≤ 4 * k := by
        have := enc_length (l.take k)
        have := List.length_take_le k l
        omega
      have hts : Hid (l.take (k + 1) = l.take k ++ [l.getD k 0]) := take_succ l k hlt
      have hat : Hid (sc (l.getD k 0) = true → (l.take (k + 1)).all sc = true) := fun h => all_take l k hlt hall h
      have hna : Hid (sc (l.getD k 0) = false → l.all sc = false) := fun h => not_all l k hlt h
      have hz := sizeZ_zero (l.getD k 0)
      have HE : Hid (∀ j, j < l.length → w.cell? ⟨b, o + j, none⟩ = some (.int .i32 (l.getD j 0))) := hc
      clear hc hE hF
      generalize l.getD k 0 = r at *
      cases hs : sc r with
      | true =>
        rw [hs] at hz
        have hz' : (sizeZ r == 0) = false := hz
        have HS : Hid (sc r = true) := hs
        clear hz hs
        go_wp2_with (first
          | (go_at_call 15; refine (size_any _ _).mono ?_; rintro e w' ⟨rfl, rfl⟩)
          | (go_at_call 27; refine (Tryd.Builder_WriteRune_k w.heap.size w.heap.size _ _ (by omega) (by omega) _ hI (by rw [Lib.byteCells_length]; omega) hbw.size).mono ?_))
        rintro e W1 ⟨rfl, h1, b1, k1⟩
        go_wp2
        go_roundw
        case rel =>
          refine ⟨k + 1, by omega, by go_num, hat.out HS.out, ?_, hbw.trans b1⟩
          rw [hts.out, enc_append, enc_one, Lib.byteCells_append, Lib.byteCells_encodeRune]
          exact Or.inr h1
        case measure => simp [intOf]; omega
      | false =>
        rw [hs] at hz
        have hz' : (sizeZ r == 0) = true := hz
        have HS : Hid (sc r = false) := hs
        clear hz hs
        go_wp2_with (go_at_call 15; refine (size_any _ _).mono ?_; rintro e w' ⟨rfl, rfl⟩)
        go_ret2
        have hn := hna.out HS.out
        refine ⟨?_, hbw⟩
        simp [textB, textE, hn]
    · have hkl : k = l.length := by omega
      subst hkl
      rw [List.take_length] at hall hI
      go_wp2_with (go_at_call 28; refine (Tryd.Builder_String_any_k w.heap.size w.heap.size (enc l) _ hI hbw.size).mono ?_)
      rintro e W1 ⟨rfl, _, b1, _⟩
      go_wp2
      go_ret2
      refine ⟨?_, hbw.trans b1⟩
      simp [textB, textE, hall]

set_option maxHeartbeats 400000 in
theorem utfs_any (w : World) : Calls Tryd.prog 23 #[] w fun e w' => e = .returned (.bool true) ∧ w' = w := by
  go_enter Tryd.func23, Tryd.ntmps23
  go_wp2_with (go_at_call 15; refine (size_any _ _).mono ?_; rintro e w' ⟨rfl, rfl⟩)
  go_ret
  exact ⟨rfl, rfl⟩

set_option maxHeartbeats 2000000 in
set_option maxRecDepth 100000 in
theorem clean_any (s : ByteArray) (w : World) (hs : s.size ≤ 35184372088832) :
    Calls Tryd.prog 20 #[.string s] w fun e w' => e = .returned (.string ⟨(enc (runes s.data.toList)).toArray⟩) ∧ Below w.heap.size w w' := by
  go_enter Tryd.func20, Tryd.ntmps20
  go_wp2
  go_loopw [] (fun wr => ∃ (pos fuel : Nat) (acc : List Int), Lib.IsBuilderF 49 5 w.heap.size w.heap.size (Lib.byteCells (enc acc)) wr ∧ wr.heap[w.heap.size + 1]? = some (.stringIter s pos) ∧ Below w.heap.size w wr ∧ acc ++ decF fuel (s.data.toList.drop pos) = runes s.data.toList ∧ s.size ≤ pos + fuel ∧ (enc acc).length ≤ 4 * pos) (fun wr => s.size - wr.iterPos (w.heap.size + 1))
  case atStart =>
    refine ⟨0, s.size, [], (Lib.IsBuilderF.of (Lib.fresh_isBuilder 49 5 w)).alloc _, ?_, ((Below.refl _ w).alloc (Nat.le_refl _) _).alloc (by simp) _, rfl, by omega, by simp [enc]⟩
    have := World.iter_heap (w.alloc (.cells #[.pointer none, .slice none 0 0] 49)) s 0
    simpa using this
  case round =>
    obtain ⟨pos, fuel, acc, hI, hit, hbw, hacc, hfu, hal⟩ := hrel
    have hsz : w.heap.size + 1 < wr.heap.size := (Array.getElem?_eq_some_iff.1 hit).1
    by_cases hp : pos < s.size
    · have hnx : ∀ ty, (Instr.next (.pointer (some ⟨w.heap.size + 1, 0, none⟩)) true ty).run Tryd.prog wr = _ := fun ty => Lib.run_next_any_at wr (w.heap.size + 1) s pos ty hit hp
      have hl : s.data.toList.drop pos ≠ [] := by
        intro e
        have := congrArg List.length e
        rw [List.length_drop, len_list] at this
        simp only [List.length_nil] at this
        omega
      have hd := Lib.decodeL_drop s pos
      have hwd := width_ge (s.data.toList.drop pos)
      rw [hd] at hwd
      have hd1 := decode_le s pos
      obtain ⟨f, rfl⟩ : ∃ f, fuel = f + 1 := ⟨fuel - 1, by omega⟩
      have hstep : decF (f + 1) (s.data.toList.drop pos) = ((Utf8.decode s pos).1 : Int) :: decF f (s.data.toList.drop (pos + (Utf8.decode s pos).2)) := by
        simp only [decF]
        rw [if_neg hl, hd, List.drop_drop]
      rw [hstep] at hacc
      have hI2 := hI.iterAt hit (pos + (Utf8.decode s pos).2)
      have hit2 := Lib.iterAt_heap wr (w.heap.size + 1) s pos (pos + (Utf8.decode s pos).2) hit
      have hbw2 := Lib.below_iterAt hbw (k := w.heap.size + 1) (by omega) s (pos + (Utf8.decode s pos).2)
      have hsz2 : w.heap.size ≤ (wr.iterAt (w.heap.size + 1) s (pos + (Utf8.decode s pos).2)).heap.size := by rw [Lib.iterAt_size]; omega
      have HA := hide hacc
      clear hacc hstep
      go_wp2_with (go_at_call 27; refine (Tryd.Builder_WriteRune_k w.heap.size w.heap.size _ _ (by omega) (by omega) _ hI2 (by rw [Lib.byteCells_length]; omega) hsz2).mono ?_)
      rintro e W1 ⟨rfl, h1, b1, k1⟩
      go_wp2
      go_roundw
      case rel =>
        have hl4 := encodeRune_length ((Utf8.decode s pos).1 : Int)
        refine ⟨pos + (Utf8.decode s pos).2, f, acc ++ [((Utf8.decode s pos).1 : Int)], ?_, k1.iter hit2 (by omega), hbw2.trans b1, ?_, by omega, ?_⟩
        · rw [enc_append, enc_one, Lib.byteCells_append, Lib.byteCells_encodeRune]; exact Or.inr h1
        · rw [← unhide HA]; simp
        · rw [enc_append, enc_one, List.length_append]; omega
      case measure =>
        simp only [World.iterPos, k1.iter hit2 (by omega), hit]
        omega
    · have hnx : ∀ ty, (Instr.next (.pointer (some ⟨w.heap.size + 1, 0, none⟩)) true ty).run Tryd.prog wr = _ := fun ty => Lib.run_next_end_at wr (w.heap.size + 1) s pos ty hit hp
      have hl : s.data.toList.drop pos = [] := List.drop_of_length_le (by rw [len_list]; omega)
      rw [hl, decF_nil, List.append_nil] at hacc
      have HA := hide hacc
      clear hacc hl
      go_wp2_with (go_at_call 28; refine (Tryd.Builder_String_any_k w.heap.size w.heap.size (enc acc) _ hI (by omega)).mono ?_)
      rintro e W1 ⟨rfl, _, b1, _⟩
      go_wp2
      go_ret
      rw [← unhide HA]
      exact ⟨rfl, hbw.trans b1⟩

set_option maxHeartbeats 2000000 in
set_option maxRecDepth 100000 in
theorem equal_any (a b : Option Addr) (l m : List Int) (ca cb : Nat) (w : World) (hl : l.length ≤ 140737488355328) (hm : m.length ≤ 140737488355328) (hL : Elems w a l) (hM : Elems w b m) :
    Calls Tryd.prog 17 #[.slice a l.length ca, .slice b m.length cb] w fun e w' => e = .returned (.bool (decide (l = m))) ∧ Below w.heap.size w w' := by
  by_cases hlm : l.length = m.length
  · have hne : (((l.length : Nat) : Int) != (m.length : Nat)) = false := by simp [hlm]
    have le1 : l.length ≤ m.length := by omega
    have le2 : m.length ≤ l.length := by omega
    have HLM := hide hlm
    clear hlm
    go_enter Tryd.func17, Tryd.ntmps17
    go_wp2
    go_loopw [13] (fun i wr => ∃ k : Nat, k ≤ l.length ∧ i = .int .i64 k ∧ l.take k = m.take k ∧ Below w.heap.size w wr) (fun i _ => l.length - (intOf i).toNat)
    case atStart => exact ⟨0, Nat.zero_le _, rfl, rfl, Below.refl _ _⟩
    case round =>
      obtain ⟨k, hk, rfl, hsame, hbw⟩ := hrel
      by_cases hlt : k < l.length
      · obtain ⟨ba, oa, rfl, hba, hca⟩ := hL (by omega)
        obtain ⟨bb, ob, rfl, hbb, hcb⟩ := hM (by omega)
        have c1 : wr.cell? ⟨ba, oa + k, none⟩ = some (.int .i32 (l.getD k 0)) := by rw [hbw.cell (p := ⟨ba, oa + k, none⟩) hba]; exact hca k hlt
        have c2 : wr.cell? ⟨bb, ob + k, none⟩ = some (.int .i32 (m.getD k 0)) := by rw [hbw.cell (p := ⟨bb, ob + k, none⟩) hbb]; exact hcb k (by omega)
        have hkm : k < m.length := by omega
        have hs1 := take_succ l k hlt
        have hs2 := take_succ m k hkm
        have g1 : l.getD k 0 = l[k]'hlt := by simp [List.getD, List.getElem?_eq_getElem hlt]
        have g2 : m.getD k 0 = m[k]'hkm := by simp [List.getD, List.getElem?_eq_getElem hkm]
        by_cases hxy : l.getD k 0 = m.getD k 0
        · have HR : Hid (l.take (k + 1) = m.take (k + 1)) := by rw [hs1, hs2, hsame, hxy]; rfl
          have t1 : (l.getD k 0 != m.getD k 0) = false := by rw [hxy]; simp
          clear hca hcb hL hM hs1 hs2 hsame hxy g1 g2
          generalize l.getD k 0 = x at *
          generalize m.getD k 0 = y at *
          go_wp2_with fail
          go_quiet (fail)
          go_wp2
          go_roundw
          case rel => exact ⟨k + 1, by omega, by go_num, HR.out, below_drewN hbw _⟩
          case measure => simp [intOf]; omega
        · have HR : Hid (decide (l = m) = false) := by
            have : l ≠ m := fun e => hxy (by subst e; rfl)
            show decide (l = m) = false
            simp [this]
          have t1 : (l.getD k 0 != m.getD k 0) = true := by simp only [bne_iff_ne]; exact hxy
          clear hca hcb hL hM hs1 hs2 hsame hxy g1 g2
          generalize l.getD k 0 = x at *
          generalize m.getD k 0 = y at *
          go_wp2_with fail
          go_quiet (fail)
          go_wp2
          go_ret
          rw [HR.out]
          exact ⟨rfl, below_drewN hbw _⟩
      · have hkl : k = l.length := by omega
        have HR : Hid (decide (l = m) = true) := by
          show decide (l = m) = true
          subst hkl
          rw [List.take_length, HLM.out, List.take_length] at hsame
          simp [hsame]
        clear hsame
        go_wp2
        go_ret
        rw [HR.out]
        exact ⟨rfl, hbw⟩
  · have hne : (((l.length : Nat) : Int) != (m.length : Nat)) = true := by simp only [bne_iff_ne]; omega
    have HR : Hid (decide (l = m) = false) := by
      have : l ≠ m := fun e => hlm (by rw [e])
      show decide (l = m) = false
      simp [this]
    clear hlm
    go_enter Tryd.func17, Tryd.ntmps17
    go_wp2
    go_ret
    rw [HR.out]
    exact ⟨rfl, Below.refl _ _⟩
end Go.Proofs.YtealhdpieoiikaaDoor.walks
