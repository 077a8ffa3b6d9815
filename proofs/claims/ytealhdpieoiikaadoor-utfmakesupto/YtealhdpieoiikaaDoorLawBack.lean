/- The walk of the law that texts and runes come back. -/
import Derived.Test.YtealhdpieoiikaaDoorCut
set_option linter.unusedVariables false
namespace Go.Proofs.YtealhdpieoiikaaDoor.walks
open Go.RowKit
open plain

theorem textE_yes {l : List Int} (h : l.all sc = true) : textE l = 0 := by simp [textE, h]
theorem textE_no {l : List Int} (h : l.all sc = false) : textE l = 3 := by simp [textE, h]
theorem textB_yes {l : List Int} (h : l.all sc = true) : textB l = enc l := by simp [textB, h]
theorem textB_no {l : List Int} (h : l.all sc = false) : textB l = [] := by simp [textB, h]
theorem all_sc {l : List Int} (h : ∀ r ∈ l, sc r = true) : l.all sc = true := List.all_eq_true.2 h

/-- Text of the runes of a good text is that text. -/
theorem text_back (s : ByteArray) (a : Option Addr) (cap : Nat) (w : World) (hs : s.size ≤ 1073741824) (hb : bad s.data.toList < 0) (hE : Elems w a (runes s.data.toList)) :
    Calls Tryd.prog 19 #[.slice a (runes s.data.toList).length cap] w fun e w' => e = .returned (.tuple #[.string s, .int .i64 0]) ∧ Below w.heap.size w w' := by
  obtain ⟨h1, h2⟩ := good_runes hb
  have hl := decF_length s.data.toList.length s.data.toList
  have hl' : (runes s.data.toList).length ≤ s.data.toList.length := hl
  rw [len_list] at hl'
  have h := text_any a (runes s.data.toList) cap w (by omega) hE (fit_sc h2)
  rw [textB_yes (all_sc h2), textE_yes (all_sc h2), ← h1] at h
  exact h

/-- the text of scalars, as a text of Go's -/
theorem enc_size (l : List Int) : (⟨(enc l).toArray⟩ : ByteArray).size ≤ 4 * l.length := by
  show (enc l).toArray.size ≤ _
  rw [List.size_toArray]
  exact enc_length l

/-- Runes of the text of scalars are those scalars. -/
theorem runes_back (l : List Int) (w : World) (hl : l.length ≤ 1048576) (hs : ∀ r ∈ l, sc r = true) (hT : Lib.Utf8Tabs 0 1 w) :
    Calls Tryd.prog 13 #[.string ⟨(enc l).toArray⟩] w fun e w' => ∃ a cap, e = .returned (.tuple #[.slice a l.length cap, .int .i64 0]) ∧ Elems w' a l ∧ Below w.heap.size w w' := by
  have hz := enc_size l
  have h := runes_good ⟨(enc l).toArray⟩ w (by omega) hT (by show bad (enc l) < 0; rw [bad_enc hs]; omega)
  have e : runes (⟨(enc l).toArray⟩ : ByteArray).data.toList = l := runes_enc hs
  rw [e] at h
  exact h
theorem equal_self (a b : Option Addr) (l : List Int) (ca cb : Nat) (w : World) (hl : l.length ≤ 1048576) (hL : Elems w a l) (hM : Elems w b l) :
    Calls Tryd.prog 17 #[.slice a l.length ca, .slice b l.length cb] w fun e w' => e = .returned (.bool true) ∧ Below w.heap.size w w' := by
  have h := equal_any a b l l ca cb w (by omega) (by omega) hL hM
  rw [decide_eq_true rfl] at h
  exact h

set_option maxHeartbeats 4000000 in
set_option maxRecDepth 100000 in
theorem lawBack (s : ByteArray) (a : Option Addr) (l : List Int) (cap : Nat) (w : World) (hs : s.size ≤ 1048576) (hl : l.length ≤ 1048576) (hE : Elems w a l) (hF : Fit l) (hT : Lib.Utf8Tabs 0 1 w) :
    Calls Tryd.prog 5 #[.string s, .slice a l.length cap] w fun e w' => e = .returned (.bool true) ∧ Below w.heap.size w w' := by
  cases hy : l.all sc with
  | true =>
    have hsc : ∀ r ∈ l, sc r = true := List.all_eq_true.1 hy
    have HY := hide hy
    have HSC := hide hsc
    clear hy hsc
    by_cases hg : bad s.data.toList < 0
    · have HG := hide hg
      clear hg
      go_enter Tryd.func5, Tryd.ntmps5
      go_wp2_with (go_at_call 23; refine (utfs_any _).mono ?_; rintro e w' ⟨rfl, rfl⟩)
      refine (runes_good s _ (by omega) hT HG.out).mono ?_
      rintro e w1 ⟨a1, c1, rfl, e1, b1⟩
      go_wp2_with fail
      refine (text_back s a1 c1 _ (by omega) HG.out e1).mono ?_
      rintro e w2 ⟨rfl, b2⟩
      have b12 := b1.trans (b2.mono b1.size)
      go_wp2_with fail
      have k3 := bad_any s w2 (by omega) (Utf8Tabs_below hT b12)
      refine k3.mono ?_
      clear k3
      rintro e w3 ⟨rfl, b3⟩
      have b13 := b12.trans (b3.mono b12.size)
      have hgg : bad s.data.toList < 0 := HG.out
      go_wp2_with fail
      have k4 := text_any a l cap w3 (by omega) (hE.below b13) hF
      rw [textB_yes HY.out, textE_yes HY.out] at k4
      refine k4.mono ?_
      clear k4
      rintro e w4 ⟨rfl, b4⟩
      have b14 := b13.trans (b4.mono b13.size)
      go_wp2_with fail
      refine (runes_back l w4 hl HSC.out (Utf8Tabs_below hT b14)).mono ?_
      rintro e w5 ⟨a5, c5, rfl, e5, b5⟩
      have b15 := b14.trans (b5.mono b14.size)
      go_wp2_with fail
      refine (equal_self a a5 l cap c5 w5 hl (hE.below b15) e5).mono ?_
      rintro e w6 ⟨rfl, b6⟩
      have b16 := b15.trans (b6.mono b15.size)
      go_wp2_with fail
      go_ret
      exact ⟨rfl, b16⟩
    · have HG := hide (Int.not_lt.1 hg)
      clear hg
      go_enter Tryd.func5, Tryd.ntmps5
      go_wp2_with (go_at_call 23; refine (utfs_any _).mono ?_; rintro e w' ⟨rfl, rfl⟩)
      refine (runes_bad s _ (by omega) hT HG.out).mono ?_
      rintro e w3 ⟨rfl, b13⟩
      go_wp2_with fail
      have k4 := text_any a l cap w3 (by omega) (hE.below b13) hF
      rw [textB_yes HY.out, textE_yes HY.out] at k4
      refine k4.mono ?_
      clear k4
      rintro e w4 ⟨rfl, b4⟩
      have b14 := b13.trans (b4.mono b13.size)
      go_wp2_with fail
      refine (runes_back l w4 hl HSC.out (Utf8Tabs_below hT b14)).mono ?_
      rintro e w5 ⟨a5, c5, rfl, e5, b5⟩
      have b15 := b14.trans (b5.mono b14.size)
      go_wp2_with fail
      refine (equal_self a a5 l cap c5 w5 hl (hE.below b15) e5).mono ?_
      rintro e w6 ⟨rfl, b6⟩
      have b16 := b15.trans (b6.mono b15.size)
      go_wp2_with fail
      go_ret
      exact ⟨rfl, b16⟩
  | false =>
    have HY := hide hy
    clear hy
    by_cases hg : bad s.data.toList < 0
    · have HG := hide hg
      clear hg
      go_enter Tryd.func5, Tryd.ntmps5
      go_wp2_with (go_at_call 23; refine (utfs_any _).mono ?_; rintro e w' ⟨rfl, rfl⟩)
      refine (runes_good s _ (by omega) hT HG.out).mono ?_
      rintro e w1 ⟨a1, c1, rfl, e1, b1⟩
      go_wp2_with fail
      refine (text_back s a1 c1 _ (by omega) HG.out e1).mono ?_
      rintro e w2 ⟨rfl, b2⟩
      have b12 := b1.trans (b2.mono b1.size)
      go_wp2_with fail
      have k3 := bad_any s w2 (by omega) (Utf8Tabs_below hT b12)
      refine k3.mono ?_
      clear k3
      rintro e w3 ⟨rfl, b3⟩
      have b13 := b12.trans (b3.mono b12.size)
      have hgg : bad s.data.toList < 0 := HG.out
      go_wp2_with fail
      have k4 := text_any a l cap w3 (by omega) (hE.below b13) hF
      rw [textB_no HY.out, textE_no HY.out] at k4
      refine k4.mono ?_
      clear k4
      rintro e w4 ⟨rfl, b4⟩
      have b14 := b13.trans (b4.mono b13.size)
      go_wp2_with fail
      go_ret
      exact ⟨rfl, b14⟩
    · have HG := hide (Int.not_lt.1 hg)
      clear hg
      go_enter Tryd.func5, Tryd.ntmps5
      go_wp2_with (go_at_call 23; refine (utfs_any _).mono ?_; rintro e w' ⟨rfl, rfl⟩)
      refine (runes_bad s _ (by omega) hT HG.out).mono ?_
      rintro e w3 ⟨rfl, b13⟩
      go_wp2_with fail
      have k4 := text_any a l cap w3 (by omega) (hE.below b13) hF
      rw [textB_no HY.out, textE_no HY.out] at k4
      refine k4.mono ?_
      clear k4
      rintro e w4 ⟨rfl, b4⟩
      have b14 := b13.trans (b4.mono b13.size)
      go_wp2_with fail
      go_ret
      exact ⟨rfl, b14⟩
end Go.Proofs.YtealhdpieoiikaaDoor.walks
