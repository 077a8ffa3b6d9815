/- The walk of the law on Clean. -/
import Derived.Test.YtealhdpieoiikaaDoorCut
set_option linter.unusedVariables false
namespace Go.Proofs.YtealhdpieoiikaaDoor.walks
open Go.RowKit
open plain

theorem runes_length (l : List UInt8) : (runes l).length ≤ l.length := decF_length _ _
theorem good_bytes {s : ByteArray} (h : bad s.data.toList < 0) : (⟨(enc (runes s.data.toList)).toArray⟩ : ByteArray) = s := by
  rw [← (good_runes h).1]

/-- what Clean leaves is clean -/
theorem clean_again (s : ByteArray) (hs : s.size ≤ 1048576) : ∃ c : ByteArray, c = ⟨(enc (runes s.data.toList)).toArray⟩ ∧ bad c.data.toList = -1 ∧
    (⟨(enc (runes c.data.toList)).toArray⟩ : ByteArray) = c ∧ c.size ≤ 35184372088832 := by
  refine ⟨_, rfl, bad_enc (runes_sc _), ?_, ?_⟩
  · show (⟨(enc (runes (enc (runes s.data.toList)))).toArray⟩ : ByteArray) = _
    rw [runes_enc (runes_sc _)]
  · have h1 := enc_length (runes s.data.toList)
    have h2 := runes_length s.data.toList
    rw [len_list] at h2
    show (enc (runes s.data.toList)).toArray.size ≤ _
    rw [List.size_toArray]
    omega

set_option maxHeartbeats 2000000 in
set_option maxRecDepth 100000 in
theorem lawClean (s : ByteArray) (w : World) (hs : s.size ≤ 1048576) (hT : Lib.Utf8Tabs 0 1 w) :
    Calls Tryd.prog 7 #[.string s] w fun e w' => e = .returned (.bool true) ∧ Below w.heap.size w w' := by
  obtain ⟨c, hc, hb, hcc, hcs⟩ := clean_again s hs
  have k1 := clean_any s w (by omega)
  rw [← hc] at k1
  have HC := hide hc
  have HB := hide hb
  have HCC := hide hcc
  have HK1 := hide k1
  clear k1 hc hb hcc
  by_cases hg : bad s.data.toList < 0
  · obtain rfl : c = s := by rw [HC.out]; exact good_bytes hg
    clear hg
    go_enter Tryd.func7, Tryd.ntmps7
    go_wp2_with (go_at_call 23; refine (utfs_any _).mono ?_; rintro e w' ⟨rfl, rfl⟩)
    refine (unhide HK1).mono ?_
    rintro e w1 ⟨rfl, b1⟩
    go_wp2_with fail
    have k2 := bad_any c w1 (by omega) (Utf8Tabs_below hT b1)
    rw [HB.out] at k2
    refine k2.mono ?_
    clear k2
    rintro e w2 ⟨rfl, b2⟩
    have b12 := b1.trans (b2.mono b1.size)
    go_wp2_with fail
    have k3 := clean_any c w2 (by omega)
    rw [HCC.out] at k3
    refine k3.mono ?_
    clear k3
    rintro e w3 ⟨rfl, b3⟩
    have b13 := b12.trans (b3.mono b12.size)
    go_wp2_with fail
    have k4 := bad_any c w3 (by omega) (Utf8Tabs_below hT b13)
    rw [HB.out] at k4
    refine k4.mono ?_
    clear k4
    rintro e w4 ⟨rfl, b4⟩
    have b14 := b13.trans (b4.mono b13.size)
    go_wp2_with fail
    go_ret
    exact ⟨rfl, b14⟩
  · have hg' : 0 ≤ bad s.data.toList := by omega
    clear hg
    go_enter Tryd.func7, Tryd.ntmps7
    go_wp2_with (go_at_call 23; refine (utfs_any _).mono ?_; rintro e w' ⟨rfl, rfl⟩)
    refine (unhide HK1).mono ?_
    rintro e w1 ⟨rfl, b1⟩
    go_wp2_with fail
    have k2 := bad_any c w1 (by omega) (Utf8Tabs_below hT b1)
    rw [HB.out] at k2
    refine k2.mono ?_
    clear k2
    rintro e w2 ⟨rfl, b2⟩
    have b12 := b1.trans (b2.mono b1.size)
    go_wp2_with fail
    have k3 := clean_any c w2 (by omega)
    rw [HCC.out] at k3
    refine k3.mono ?_
    clear k3
    rintro e w3 ⟨rfl, b3⟩
    have b13 := b12.trans (b3.mono b12.size)
    go_wp2_with fail
    have k4 := bad_any s w3 (by omega) (Utf8Tabs_below hT b13)
    refine k4.mono ?_
    clear k4
    rintro e w4 ⟨rfl, b4⟩
    have b14 := b13.trans (b4.mono b13.size)
    go_wp2_with fail
    go_ret
    exact ⟨rfl, b14⟩
end Go.Proofs.YtealhdpieoiikaaDoor.walks
