/- The walk of the document's answer: where each line begins, and what it says. -/
import Derived.Test.YtekfnjihgahonaaStarts
set_option linter.unusedVariables false
namespace Go.Proofs.Ytekfnjihgahonaa.walks
open Go.RowKit
open plain

theorem infoS : (Try.prog.info? 9).map (fun i => (i.zero, i.size, i.bytes)) = some (some (.string ⟨#[]⟩), 1, 16) := by kernel_rfl
/-- A text as a value. -/
def str (x : List UInt8) : Value := .string ⟨x.toArray⟩
/-- The elements of a slice of texts lie in memory. -/
def Strs (w : World) (b : Nat) (l : List (List UInt8)) : Prop := b < w.heap.size ∧ ∀ j, j < l.length → w.cell? ⟨b, j, none⟩ = some (.string ⟨(l.getD j []).toArray⟩)
theorem Strs.below {w w' : World} {b : Nat} {l : List (List UInt8)} (h : Strs w b l) (hb : Below w.heap.size w w') : Strs w' b l := by
  refine ⟨Nat.lt_of_lt_of_le h.1 hb.size, fun j hj => ?_⟩
  rw [hb.cell (p := ⟨b, j, none⟩) h.1]
  exact h.2 j hj
theorem strs_own {w : World} {base g cap : Nat} {l : List (List UInt8)} (h : w.ownsRow base 9 1 (.slice (some ⟨g, 0, none⟩) l.length cap) l.length (l.map str)) (hg : g < w.heap.size) : Strs w g l := by
  refine ⟨hg, fun j hj => ?_⟩
  rw [h.cellAt j (by omega)]
  simp [str, List.getD, List.getElem?_eq_getElem hj]

theorem syK_len (l : List UInt8) : ∀ k, k ≤ l.length → ∀ j, ((syK l k).getD j []).length ≤ k
  | 0, _, 0 => Nat.le_refl _
  | 0, _, j + 1 => by simp [syK, List.getD]
  | k + 1, h, j => by
    have ih := syK_len l k (by omega)
    by_cases e : l.getD k 0 = 10
    · rw [syK_hit e]
      by_cases hj : j < (syK l k).length
      · rw [getD_left _ _ _ _ hj]; have := ih j; omega
      · by_cases hj2 : j = (syK l k).length
        · rw [getD_last _ _ _ _ hj2]; simp
        · rw [List.getD, List.getElem?_eq_none (by simp; omega)]; simp
    · rw [syK_miss e]
      by_cases hj : cnt l k = j
      · subst hj
        have := ih (cnt l k)
        simp only [List.getD, List.getElem?_set_self (show cnt l k < (syK l k).length by rw [syK_length l k (by omega)]; omega)] at this ⊢
        simp at this ⊢
        omega
      · have := ih j
        simp only [List.getD, List.getElem?_set_ne hj] at this ⊢
        omega
theorem size_mk (x : List UInt8) : (⟨x.toArray⟩ : ByteArray).size = x.length := by simp [ByteArray.size]
theorem ext_one (s : ByteArray) (k : Nat) (h : k < s.size) (x : List UInt8) : (⟨x.toArray⟩ : ByteArray) ++ s.extract k (k + 1) = ⟨(x ++ [s.data.toList.getD k 0]).toArray⟩ := by
  apply ByteArray.ext
  rw [ByteArray.data_append]
  apply Array.toList_inj.1
  rw [Array.toList_append, ext_list, take_succ _ _ (by rw [len_list]; exact h), List.drop_append_of_le_length (by rw [List.length_take, len_list]; omega), List.drop_of_length_le (by rw [List.length_take]; omega)]
  simp

set_option maxHeartbeats 2000000 in
set_option maxRecDepth 100000 in
theorem linesOf_any (s : ByteArray) (w : World) (hs : s.size ≤ 1048576) :
    Calls Try.prog 7 #[.string s] w fun e w' => ∃ b1 c1 b2 c2, e = .returned (.tuple #[.slice (some ⟨b1, 0, none⟩) (cnt s.data.toList s.size + 1) c1, .slice (some ⟨b2, 0, none⟩) (cnt s.data.toList s.size + 1) c2]) ∧
      Nums w' b1 (stK s.data.toList s.size) ∧ Strs w' b2 (syK s.data.toList s.size) ∧ Below w.heap.size w w' := by
  obtain ⟨i0, hi, hz0, hz1, hz2⟩ := info_parts info3
  obtain ⟨i9, hi9, hy0, hy1, hy2⟩ := info_parts infoS
  go_enter Try.func7, Try.ntmps7
  go_wp2
  go_loopw [4, 5, 6] (fun u v i wr => ∃ k g1 c1 g2 c2 : Nat, k ≤ s.size ∧ i = .int .i64 k ∧ u = .slice (some ⟨g1, 0, none⟩) (cnt s.data.toList k + 1) c1 ∧ v = .slice (some ⟨g2, 0, none⟩) (cnt s.data.toList k + 1) c2 ∧ g1 ≠ g2 ∧ g1 < wr.heap.size ∧ g2 < wr.heap.size ∧
      wr.ownsRow w.heap.size 3 1 (.slice (some ⟨g1, 0, none⟩) (cnt s.data.toList k + 1) c1) (cnt s.data.toList k + 1) ((stK s.data.toList k).map num) ∧ wr.ownsRow w.heap.size 9 1 (.slice (some ⟨g2, 0, none⟩) (cnt s.data.toList k + 1) c2) (cnt s.data.toList k + 1) ((syK s.data.toList k).map str) ∧ Below w.heap.size w wr) (fun _ _ i _ => s.size - (intOf i).toNat)
  case atStart =>
    have e0 := cnt_zero s.data.toList
    refine ⟨0, w.heap.size, 1, w.heap.size + 1, 1, Nat.zero_le _, rfl, by rw [e0], by rw [e0], by omega, by simp only [World.alloc, Array.size_push]; omega, by simp, ?_, ?_, ((Below.refl _ w).alloc (Nat.le_refl _) _).alloc (by simp) _⟩
    · rw [e0]
      exact (World.ownsRow_lit w #[.int .i64 0] 1 (Nat.le_refl _) (by decide) rfl).alloc _
    · rw [e0]
      have := World.ownsRow_lit (base := w.heap.size) (e := 9) (size := 1) (w.alloc (.cells #[.int .i64 0] 3)) #[.string ⟨#[]⟩] 1 (by simp) (by decide) rfl
      simpa [str, syK] using this
  case round =>
    obtain ⟨k, g1, c1, g2, c2, hk, rfl, rfl, rfl, hne, hl1, hl2, hown1, hown2, hbw⟩ := hrel
    have hlen := syK_length s.data.toList k (by rw [len_list]; exact hk)
    have hcl := cnt_le s.data.toList k
    by_cases hlt : k < s.size
    · have hbyte : s.data.toList.getD k 0 = s[k]'hlt := by
        rw [List.getD, List.getElem?_eq_getElem (by rw [len_list]; exact hlt)]
        simp [ByteArray.getElem_eq_getElem_data]
      by_cases ht : s.data.toList.getD k 0 = 10
      · have hb : (((s[k]'hlt).toNat : Int) == 10) = true := by rw [← hbyte, ht]; rfl
        have HS := hide (stK_hit ht)
        have HY := hide (syK_hit ht)
        have HC := hide (cnt_hit (l := s.data.toList) (k := k) (by rw [len_list]; exact hlt) ht)
        clear hbyte ht
        generalize hm : cnt s.data.toList k = m at *
        go_wp2_with (at_builtin; refine wpList_append_lies _ rfl _ _ 22 rfl w.heap.size 3 i0 (.int .i64 0) 1 8 Try.underlying22 hi hz0 hz1 hz2 rfl (by decide) _ _ _ rfl (hown1.alloc _) ⟨wr.heap.size, 0, none⟩ 1 1 [.int .i64 ((k : Int) + 1)] rfl rfl ?c1 ?c2 ?c3 ?c4 ?c5 ?c6 (wr.heap.size + 1) ?c7 ?_)
        case c1 => exact cell_one_new _ _ _
        case c2 => intro u hu; simp at hu; subst hu; rfl
        case c3 => decide
        case c4 => unfold maxLen; omega
        case c5 => omega
        case c6 => have := hbw.size; simp; omega
        case c7 => simp
        intro g3 c3 w3 hown3 hgrow3 hg3 hl3
        have hg3' : g3 ≠ g2 := by
          rcases hg3 with h | h
          · simp [Value.ownBlock] at h
            omega
          · omega
        have hz3 : wr.heap.size + 1 ≤ w3.heap.size := by have := hgrow3.size; simp at this; omega
        have hown4 := (hown2.alloc (.cells #[.int .i64 ((k : Int) + 1)] 3)).kept hgrow3 (.inr (by simp [Value.ownBlock]; omega))
        have hbw3 : Below w.heap.size w w3 := (hbw.alloc hbw.size _).grown hgrow3 (by have := hbw.size; simp; omega) (own_ge hown1)
        clear hgrow3 hown1 hown2 hbw hg3
        go_wp2_with (at_builtin; refine wpList_append_lies _ rfl _ _ 23 rfl w.heap.size 9 i9 (.string ⟨#[]⟩) 1 16 Try.underlying23 hi9 hy0 hy1 hy2 rfl (by decide) _ _ _ rfl (hown4.alloc _) ⟨w3.heap.size, 0, none⟩ 1 1 [.string ⟨#[]⟩] rfl rfl ?d1 ?d2 ?d3 ?d4 ?d5 ?d6 (w3.heap.size + 1) ?d7 ?_)
        case d1 => exact cell_one_new _ _ _
        case d2 => intro u hu; simp at hu; subst hu; rfl
        case d3 => decide
        case d4 => unfold maxLen; omega
        case d5 => omega
        case d6 => have := hbw3.size; simp; omega
        case d7 => simp
        intro g5 c5 w5 hown5 hgrow5 hg5 hl5
        have hg5' : g3 ≠ g5 := by
          rcases hg5 with h | h
          · simp [Value.ownBlock] at h
            omega
          · omega
        have hz5 : w3.heap.size + 1 ≤ w5.heap.size := by have := hgrow5.size; simp at this; omega
        have hown6 := (hown3.alloc (.cells #[.string ⟨#[]⟩] 9)).kept hgrow5 (.inr (by simp [Value.ownBlock]; omega))
        have hbw5 : Below w.heap.size w w5 := (hbw3.alloc hbw3.size _).grown hgrow5 (by have := hbw3.size; simp; omega) (own_ge hown4)
        clear hgrow5 hown3 hown4 hbw3 hg5
        go_wp2
        go_roundw
        case rel =>
          refine ⟨k + 1, g3, c3, g5, c5, by omega, by go_num, by rw [unhide HC], by rw [unhide HC], hg5', by omega, hl5, ?_, ?_, hbw5⟩
          · rw [unhide HC, unhide HS]
            simpa [num] using hown6
          · rw [unhide HC, unhide HY]
            simpa [str] using hown5
        case measure => simp only [intOf]; omega
      · have hb : (((s[k]'hlt).toNat : Int) == 10) = false := by
          rw [← hbyte]
          apply beq_false_of_ne
          intro e
          apply ht
          apply UInt8.toNat_inj.1
          show _ = 10
          omega
        have HS := hide (stK_miss ht)
        have HY := hide (syK_miss ht)
        have HC := hide (cnt_miss (l := s.data.toList) (k := k) (by rw [len_list]; exact hlt) ht)
        have hcell : wr.cell? ⟨g2, cnt s.data.toList k, none⟩ = some (.string ⟨((syK s.data.toList k).getD (cnt s.data.toList k) []).toArray⟩) := by
          rw [hown2.cellAt _ (by omega)]
          simp [str, List.getD, hlen]
        have hfro := hown2.frozenAt (cnt s.data.toList k)
        have hxl := syK_len s.data.toList k (by rw [len_list]; exact hk) (cnt s.data.toList k)
        have hadd : ∀ u : World, (Op.stringOp .add ⟨((syK s.data.toList k).getD (cnt s.data.toList k) []).toArray⟩ (s.extract k (k + 1))).run Try.prog u = .ok (.string ⟨((syK s.data.toList k).getD (cnt s.data.toList k) [] ++ [s.data.toList.getD k 0]).toArray⟩) u := fun u => by
          rw [run_string_add_sum _ _ _ (by rw [size_mk, ByteArray.size_extract]; omega), ext_one s k hlt]
        clear hbyte ht
        generalize hm : cnt s.data.toList k = m at *
        generalize (syK s.data.toList k).getD m [] = x at *
        generalize s.data.toList.getD k 0 = y at *
        have q0 : (0 : Int) ≤ k := by omega
        have q1 : (k : Int) ≤ (k : Int) + 1 := by omega
        have q2 : (k : Int) + 1 ≤ (s.size : Int) := by omega
        go_wp2_with fail
        go_region
        go_wp2
        have hst := hown2.stored m (.string ⟨(x ++ [y]).toArray⟩)
        have hk1 := hown1.kept hst.2 (.inr (by simp [Value.ownBlock]; omega))
        have hbw5 : Below w.heap.size w (wr.setCell ⟨g2, m, none⟩ (.string ⟨(x ++ [y]).toArray⟩)).drew := (hbw.setCell (own_ge hown2 g2 rfl) _).drew
        have hl5 : wr.heap.size ≤ (wr.setCell ⟨g2, m, none⟩ (.string ⟨(x ++ [y]).toArray⟩)).drew.heap.size := hst.2.size
        go_roundw
        case rel =>
          refine ⟨k + 1, g1, c1, g2, c2, by omega, by go_num, by rw [unhide HC], by rw [unhide HC], hne, Nat.lt_of_lt_of_le hl1 hl5, Nat.lt_of_lt_of_le hl2 hl5, ?_, ?_, hbw5⟩
          · rw [unhide HC, unhide HS]
            exact hk1
          · rw [unhide HC, unhide HY, List.map_set]
            exact hst.1
        case measure => simp only [intOf]; omega
    · have hks : k = s.size := by omega
      subst hks
      have e1 := stK_length s.data.toList s.size (by rw [len_list]; exact hk)
      have n1 := nums_own (l := stK s.data.toList s.size) (by rw [e1]; exact hown1) hl1
      have n2 := strs_own (l := syK s.data.toList s.size) (by rw [hlen]; exact hown2) hl2
      go_wp2
      go_ret2
      exact ⟨g1, c1, g2, c2, rfl, n1, n2, hbw⟩
end Go.Proofs.Ytekfnjihgahonaa.walks
