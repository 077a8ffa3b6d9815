/- The walk of package utf's Cut. -/
import Derived.Test.YtealhdpieoiikaaDoorTexts
set_option linter.unusedVariables false
namespace Go.Proofs.YtealhdpieoiikaaDoor.walks
open Go.RowKit
open plain

theorem enc_split (rs : List Int) (k : Nat) : enc rs = enc (rs.take k) ++ enc (rs.drop k) := by
  rw [← enc_append, List.take_append_drop]
theorem drop_front (rs : List Int) (k : Nat) : (enc rs).drop (enc (rs.take k)).length = enc (rs.drop k) := by
  rw [enc_split rs k]; simp
theorem take_front (rs : List Int) (k : Nat) : (enc rs).take (enc (rs.take k)).length = enc (rs.take k) := by
  rw [enc_split rs k]; simp
theorem front_le (rs : List Int) (k : Nat) : (enc (rs.take k)).length ≤ (enc rs).length := by
  rw [enc_split rs k, List.length_append]; omega
theorem front_lt (rs : List Int) (k : Nat) (h : k < rs.length) : (enc (rs.take k)).length < (enc rs).length := by
  rw [enc_split rs k, List.length_append, List.drop_eq_getElem_cons h, enc_cons, List.length_append]
  have := encodeRune_length rs[k]
  omega
theorem front_all (rs : List Int) (k : Nat) (h : rs.length ≤ k) : (enc (rs.take k)).length = (enc rs).length := by
  rw [List.take_of_length_le h]
theorem front_step (rs : List Int) (hs : ∀ r ∈ rs, sc r = true) (k : Nat) (h : k < rs.length) :
    Lib.decodeL ((enc rs).drop (enc (rs.take k)).length) = (rs[k].toNat, (Lib.encodeRune rs[k]).length) ∧
    (enc (rs.take (k + 1))).length = (enc (rs.take k)).length + (Lib.encodeRune rs[k]).length := by
  rw [drop_front, List.drop_eq_getElem_cons h, enc_cons, List.take_succ_eq_append_getElem h, enc_append, enc_one, List.length_append]
  exact ⟨dec_enc (hs _ (List.getElem_mem h)) _, rfl⟩

/-- what Cut answers of a good text -/
def cutK (rs : List Int) (n : Int) : Int := if 0 ≤ n ∧ n ≤ rs.length then ((enc (rs.take n.toNat)).length : Nat) else 0
def cutE (rs : List Int) (n : Int) : Int := if 0 ≤ n ∧ n ≤ rs.length then 0 else 1

set_option maxHeartbeats 1000000 in
theorem cut_bad (s : ByteArray) (n : Int) (w : World) (hs : s.size ≤ 9223372036854775807) (hT : Lib.Utf8Tabs 0 1 w) (hb : 0 ≤ bad s.data.toList) :
    Calls Tryd.prog 22 #[.string s, .int .i64 n] w fun e w' => e = .returned (.tuple #[.int .i64 0, .int .i64 3]) ∧ Below w.heap.size w w' := by
  have hc := bad_any s w hs hT
  have HC := hide hc
  clear hc hT
  generalize bad s.data.toList = b at *
  go_enter Tryd.func22, Tryd.ntmps22
  go_wp2_with (go_at_call 16; refine (unhide HC).mono ?_; rintro e w' ⟨rfl, hb⟩)
  go_ret2
  exact ⟨rfl, hb⟩

set_option maxHeartbeats 2000000 in
set_option maxRecDepth 100000 in
theorem cut_good (s : ByteArray) (n : Int) (rs : List Int) (w : World) (hs : s.size ≤ 1073741824) (hT : Lib.Utf8Tabs 0 1 w) (hl : s.data.toList = enc rs) (hsc : ∀ r ∈ rs, sc r = true) (hrl : rs.length ≤ 1073741824) :
    Calls Tryd.prog 22 #[.string s, .int .i64 n] w fun e w' => e = .returned (.tuple #[.int .i64 (cutK rs n), .int .i64 (cutE rs n)]) ∧ Below w.heap.size w w' := by
  have hc := bad_any s w (by omega) hT
  rw [hl, bad_enc hsc] at hc
  have HC := hide hc
  have HL := hide hl
  have hse : s.size = (enc rs).length := by rw [← len_list, hl]
  have HSE := hide hse
  clear hc hT hl hse
  go_enter Tryd.func22, Tryd.ntmps22
  go_wp2_with (go_at_call 16; refine (unhide HC).mono ?_; rintro e w1 ⟨rfl, hb1⟩)
  go_loopw [6] (fun v wr => ∃ (pos k : Nat), wr.heap[w1.heap.size]? = some (.stringIter s pos) ∧ Below w1.heap.size w1 wr ∧ v = .int .i64 k ∧ k ≤ rs.length ∧ Hid (pos = (enc (rs.take k)).length) ∧ (n < 0 ∨ (k : Int) ≤ n)) (fun _ wr => s.size - wr.iterPos w1.heap.size)
  case atStart =>
    refine ⟨0, 0, ?_, (Below.refl _ w1).alloc (Nat.le_refl _) _, rfl, Nat.zero_le _, rfl, by omega⟩
    have := World.iter_heap w1 s 0
    simpa using this
  case round =>
    obtain ⟨pos, k, hit, hbw, rfl, hk, hpos, hn⟩ := hrel
    have hsz : w1.heap.size < wr.heap.size := (Array.getElem?_eq_some_iff.1 hit).1
    by_cases hp : pos < s.size
    · have hnx : ∀ ty, (Instr.next (.pointer (some ⟨w1.heap.size, 0, none⟩)) true ty).run Tryd.prog wr = _ := fun ty => Lib.run_next_any_at wr w1.heap.size s pos ty hit hp
      have hkl : k < rs.length := by
        by_cases h : k < rs.length
        · exact h
        · have := front_all rs k (by omega)
          have := HSE.out
          have := hpos.out
          omega
      obtain ⟨e1, e2⟩ := front_step rs hsc k hkl
      rw [← hpos.out, ← HL.out, Lib.decodeL_drop] at e1
      have hwd := encodeRune_length rs[k]
      have hit2 := Lib.iterAt_heap wr w1.heap.size s pos (pos + (Utf8.decode s pos).2) hit
      have hbw2 := Lib.below_iterAt hbw (k := w1.heap.size) (by omega) s (pos + (Utf8.decode s pos).2)
      have hpos2 : Hid (pos + (Utf8.decode s pos).2 = (enc (rs.take (k + 1))).length) := by
        show pos + (Utf8.decode s pos).2 = _
        rw [e1, e2, hpos.out]
      have hw1 : 1 ≤ (Utf8.decode s pos).2 := by rw [e1]; exact hwd.1
      clear e1 e2 hwd
      by_cases hkn : (k : Int) = n
      · have t1 : ((k : Int) == n) = true := by simp [hkn]
        have hK : Hid (cutK rs n = pos ∧ cutE rs n = 0) := by
          have h0 : 0 ≤ n ∧ n ≤ rs.length := by omega
          refine ⟨?_, by simp [cutE, h0]⟩
          simp only [cutK, h0, and_self, if_true]
          rw [hpos.out, ← hkn, Int.toNat_natCast]
        clear hkn hn
        go_wp2
        go_ret2
        rw [hK.out.1, hK.out.2]
        exact ⟨rfl, hb1.trans (hbw2.mono hb1.size)⟩
      · have t1 : ((k : Int) == n) = false := by simp [hkn]
        have hn' : n < 0 ∨ ((k + 1 : Nat) : Int) ≤ n := by omega
        have HN := hide hn'
        clear hkn hn hn'
        go_wp2
        go_roundw
        case rel => exact ⟨_, k + 1, hit2, hbw2, by go_num, by omega, hpos2, HN.out⟩
        case measure =>
          simp only [World.iterPos, hit2, hit]
          omega
    · have hnx : ∀ ty, (Instr.next (.pointer (some ⟨w1.heap.size, 0, none⟩)) true ty).run Tryd.prog wr = _ := fun ty => Lib.run_next_end_at wr w1.heap.size s pos ty hit hp
      have hkl : k = rs.length := by
        by_cases h : k < rs.length
        · have := front_lt rs k h
          have := HSE.out
          have := hpos.out
          omega
        · omega
      subst hkl
      by_cases hkn : (rs.length : Int) = n
      · have t1 : ((rs.length : Int) == n) = true := by simp [hkn]
        have hK : Hid (cutK rs n = s.size ∧ cutE rs n = 0) := by
          have h0 : 0 ≤ n ∧ n ≤ rs.length := by omega
          refine ⟨?_, by simp [cutE, h0]⟩
          simp only [cutK, h0, and_self, if_true]
          rw [← hkn, Int.toNat_natCast, List.take_length, HSE.out]
        clear hkn hn
        go_wp2
        go_ret2
        rw [hK.out.1, hK.out.2]
        exact ⟨rfl, hb1.trans (hbw.mono hb1.size)⟩
      · have t1 : ((rs.length : Int) == n) = false := by simp [hkn]
        have hK : Hid (cutK rs n = 0 ∧ cutE rs n = 1) := by
          have h0 : ¬ (0 ≤ n ∧ n ≤ rs.length) := by omega
          exact ⟨by simp only [cutK, h0, if_false], by simp only [cutE, h0, if_false]⟩
        clear hkn hn
        go_wp2
        go_ret2
        rw [hK.out.1, hK.out.2]
        exact ⟨rfl, hb1.trans (hbw.mono hb1.size)⟩
end Go.Proofs.YtealhdpieoiikaaDoor.walks
