/- The walk of the law that Next, Bad, Runes and Size answer as the document says. -/
import Derived.Test.YtealhdpieoiikaaDoorRefs
set_option linter.unusedVariables false
namespace Go.Proofs.YtealhdpieoiikaaDoor.walks
open Go.RowKit
open plain

theorem size_code {n : Int} (h : sc n = true) : sizeZ n = (Lib.encodeRune n).length := by
  have s := sc_true h
  simp only [sizeZ, h, if_true]
  rcases code_forms h with ⟨a, e⟩ | ⟨a, b, e⟩ | ⟨a, b, e⟩ | ⟨a, e⟩
  · rw [e, if_pos (by omega)]; rfl
  · rw [e, if_neg (by omega), if_pos (by omega)]; rfl
  · rw [e, if_neg (by omega), if_neg (by omega), if_pos (by omega)]; rfl
  · rw [e, if_neg (by omega), if_neg (by omega), if_neg (by omega)]; rfl
theorem size_none {n : Int} (h : sc n = false) : sizeZ n = 0 := by simp [sizeZ, h]

set_option maxHeartbeats 2000000 in
set_option maxRecDepth 100000 in
theorem lawTells (s : ByteArray) (n : Int) (w : World) (hs : s.size ≤ 1048576) (hn0 : -2147483648 ≤ n) (hn1 : n ≤ 2147483647) (hT : Lib.Utf8Tabs 0 1 w) :
    Calls Tryd.prog 3 #[.string s, .int .i32 n] w fun e w' => e = .returned (.bool true) ∧ Below w.heap.size w w' := by
  cases hsc : sc n with
  | true =>
    have hz := hide (size_code hsc)
    have HSC := hide hsc
    clear hsc
    by_cases hg : bad s.data.toList < 0
    · have HG := hide hg
      clear hg
      go_enter Tryd.func3, Tryd.ntmps3
      go_wp2_with fail
      refine (next_any s w hT).mono ?_
      rintro e w1 ⟨rfl, b1⟩
      go_wp2_with fail
      refine (code_any s w1 (by omega)).mono ?_
      rintro e w2 ⟨rfl, b2⟩
      have b12 := b1.trans (b2.mono b1.size)
      generalize nextR s.data.toList = r at *
      generalize nextN s.data.toList = k at *
      go_wp2_with fail
      have c3 := scalar_any n w2
      rw [HSC.out] at c3
      refine c3.mono ?_
      clear c3
      rintro e w3 ⟨rfl, rfl⟩
      go_wp2_with fail
      refine (codeOf_any n _ HSC.out).mono ?_
      rintro e w4 ⟨rfl, b4⟩
      have b14 := b12.trans (b4.mono b12.size)
      go_wp2_with fail
      generalize (Lib.encodeRune n).length = m at *
      refine (runes_good s _ (by omega) (Utf8Tabs_below hT b14) HG.out).mono ?_
      rintro e w5 ⟨a5, c5, rfl, e5, b5⟩
      have b15 := b14.trans (b5.mono b14.size)
      have hbn : bad s.data.toList < 0 := HG.out
      generalize hrs : runes s.data.toList = rs at *
      have HRS := hide hrs
      clear hrs
      go_wp2_with fail
      refine (badPlace_any s w5 (by omega)).mono ?_
      rintro e w6 ⟨rfl, b6⟩
      have b16 := b15.trans (b6.mono b15.size)
      go_wp2_with fail
      have c7 := size_any n w6
      rw [hz.out] at c7
      refine c7.mono ?_
      clear c7
      rintro e w7 ⟨rfl, rfl⟩
      go_wp2_with fail
      refine (bad_any s _ (by omega) (Utf8Tabs_below hT b16)).mono ?_
      rintro e w8 ⟨rfl, b8⟩
      have b18 := b16.trans (b8.mono b16.size)
      go_wp2_with fail
      refine (scalars_any s rs w8 (by omega) (by rw [← HRS.out]; exact (good_runes HG.out).1) (by rw [← HRS.out]; exact (good_runes HG.out).2)).mono ?_
      rintro e w9 ⟨a9, c9, rfl, e9, _, b9⟩
      have b19 := b18.trans (b9.mono b18.size)
      go_wp2_with fail
      have hrl : rs.length ≤ 1048576 := by
        have h : (runes s.data.toList).length ≤ s.data.toList.length := decF_length _ _
        rw [len_list, HRS.out] at h
        omega
      refine (equal_self a5 a9 rs c5 c9 w9 hrl (((e5.below b6).below b8).below b9) e9).mono ?_
      rintro e w10 ⟨rfl, b10⟩
      have b110 := b19.trans (b10.mono b19.size)
      go_wp2_with fail
      go_ret
      exact ⟨rfl, b110⟩
    · have HG := hide (Int.not_lt.1 hg)
      clear hg
      go_enter Tryd.func3, Tryd.ntmps3
      go_wp2_with fail
      refine (next_any s w hT).mono ?_
      rintro e w1 ⟨rfl, b1⟩
      go_wp2_with fail
      refine (code_any s w1 (by omega)).mono ?_
      rintro e w2 ⟨rfl, b2⟩
      have b12 := b1.trans (b2.mono b1.size)
      generalize nextR s.data.toList = r at *
      generalize nextN s.data.toList = k at *
      go_wp2_with fail
      have c3 := scalar_any n w2
      rw [HSC.out] at c3
      refine c3.mono ?_
      clear c3
      rintro e w3 ⟨rfl, rfl⟩
      go_wp2_with fail
      refine (codeOf_any n _ HSC.out).mono ?_
      rintro e w4 ⟨rfl, b4⟩
      have b14 := b12.trans (b4.mono b12.size)
      go_wp2_with fail
      generalize (Lib.encodeRune n).length = m at *
      refine (runes_bad s _ (by omega) (Utf8Tabs_below hT b14) HG.out).mono ?_
      rintro e w5 ⟨rfl, b5⟩
      have b15 := b14.trans (b5.mono b14.size)
      have hbn : 0 ≤ bad s.data.toList := HG.out
      go_wp2_with fail
      refine (badPlace_any s w5 (by omega)).mono ?_
      rintro e w6 ⟨rfl, b6⟩
      have b16 := b15.trans (b6.mono b15.size)
      go_wp2_with fail
      have c7 := size_any n w6
      rw [hz.out] at c7
      refine c7.mono ?_
      clear c7
      rintro e w7 ⟨rfl, rfl⟩
      go_wp2_with fail
      refine (bad_any s _ (by omega) (Utf8Tabs_below hT b16)).mono ?_
      rintro e w8 ⟨rfl, b8⟩
      have b18 := b16.trans (b8.mono b16.size)
      go_wp2_with fail
      go_ret
      exact ⟨rfl, b18⟩
  | false =>
    have hz := hide (size_none hsc)
    have HSC := hide hsc
    clear hsc
    by_cases hg : bad s.data.toList < 0
    · have HG := hide hg
      clear hg
      go_enter Tryd.func3, Tryd.ntmps3
      go_wp2_with fail
      refine (next_any s w hT).mono ?_
      rintro e w1 ⟨rfl, b1⟩
      go_wp2_with fail
      refine (code_any s w1 (by omega)).mono ?_
      rintro e w2 ⟨rfl, b2⟩
      have b12 := b1.trans (b2.mono b1.size)
      generalize nextR s.data.toList = r at *
      generalize nextN s.data.toList = k at *
      go_wp2_with fail
      have c3 := scalar_any n w2
      rw [HSC.out] at c3
      refine c3.mono ?_
      clear c3
      rintro e w3 ⟨rfl, rfl⟩
      go_wp2_with fail
      have b14 := b12
      refine (runes_good s _ (by omega) (Utf8Tabs_below hT b14) HG.out).mono ?_
      rintro e w5 ⟨a5, c5, rfl, e5, b5⟩
      have b15 := b14.trans (b5.mono b14.size)
      have hbn : bad s.data.toList < 0 := HG.out
      generalize hrs : runes s.data.toList = rs at *
      have HRS := hide hrs
      clear hrs
      go_wp2_with fail
      refine (badPlace_any s w5 (by omega)).mono ?_
      rintro e w6 ⟨rfl, b6⟩
      have b16 := b15.trans (b6.mono b15.size)
      go_wp2_with fail
      have c7 := size_any n w6
      rw [hz.out] at c7
      refine c7.mono ?_
      clear c7
      rintro e w7 ⟨rfl, rfl⟩
      go_wp2_with fail
      refine (bad_any s _ (by omega) (Utf8Tabs_below hT b16)).mono ?_
      rintro e w8 ⟨rfl, b8⟩
      have b18 := b16.trans (b8.mono b16.size)
      go_wp2_with fail
      refine (scalars_any s rs w8 (by omega) (by rw [← HRS.out]; exact (good_runes HG.out).1) (by rw [← HRS.out]; exact (good_runes HG.out).2)).mono ?_
      rintro e w9 ⟨a9, c9, rfl, e9, _, b9⟩
      have b19 := b18.trans (b9.mono b18.size)
      go_wp2_with fail
      have hrl : rs.length ≤ 1048576 := by
        have h : (runes s.data.toList).length ≤ s.data.toList.length := decF_length _ _
        rw [len_list, HRS.out] at h
        omega
      refine (equal_self a5 a9 rs c5 c9 w9 hrl (((e5.below b6).below b8).below b9) e9).mono ?_
      rintro e w10 ⟨rfl, b10⟩
      have b110 := b19.trans (b10.mono b19.size)
      go_wp2_with fail
      go_ret
      exact ⟨rfl, b110⟩
    · have HG := hide (Int.not_lt.1 hg)
      clear hg
      go_enter Tryd.func3, Tryd.ntmps3
      go_wp2_with fail
      refine (next_any s w hT).mono ?_
      rintro e w1 ⟨rfl, b1⟩
      go_wp2_with fail
      refine (code_any s w1 (by omega)).mono ?_
      rintro e w2 ⟨rfl, b2⟩
      have b12 := b1.trans (b2.mono b1.size)
      generalize nextR s.data.toList = r at *
      generalize nextN s.data.toList = k at *
      go_wp2_with fail
      have c3 := scalar_any n w2
      rw [HSC.out] at c3
      refine c3.mono ?_
      clear c3
      rintro e w3 ⟨rfl, rfl⟩
      go_wp2_with fail
      have b14 := b12
      refine (runes_bad s _ (by omega) (Utf8Tabs_below hT b14) HG.out).mono ?_
      rintro e w5 ⟨rfl, b5⟩
      have b15 := b14.trans (b5.mono b14.size)
      have hbn : 0 ≤ bad s.data.toList := HG.out
      go_wp2_with fail
      refine (badPlace_any s w5 (by omega)).mono ?_
      rintro e w6 ⟨rfl, b6⟩
      have b16 := b15.trans (b6.mono b15.size)
      go_wp2_with fail
      have c7 := size_any n w6
      rw [hz.out] at c7
      refine c7.mono ?_
      clear c7
      rintro e w7 ⟨rfl, rfl⟩
      go_wp2_with fail
      refine (bad_any s _ (by omega) (Utf8Tabs_below hT b16)).mono ?_
      rintro e w8 ⟨rfl, b8⟩
      have b18 := b16.trans (b8.mono b16.size)
      go_wp2_with fail
      go_ret
      exact ⟨rfl, b18⟩
end Go.Proofs.YtealhdpieoiikaaDoor.walks
