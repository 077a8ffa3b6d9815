/- The walk of the law on Cut. -/
import Derived.Test.YtealhdpieoiikaaDoorLawBack
set_option linter.unusedVariables false
namespace Go.Proofs.YtealhdpieoiikaaDoor.walks
open Go.RowKit
open plain

/-- the two parts of a good text at a cut -/
theorem cut_parts (s : ByteArray) (rs : List Int) (hl : s.data.toList = enc rs) (n : Nat) (hn : n ≤ rs.length) :
    (enc (rs.take n)).length ≤ s.size ∧ s.extract 0 (enc (rs.take n)).length = ⟨(enc (rs.take n)).toArray⟩ ∧ s.extract (enc (rs.take n)).length s.size = ⟨(enc (rs.drop n)).toArray⟩ := by
  refine ⟨?_, ?_, ?_⟩
  · rw [← len_list, hl]; exact front_le rs n
  · apply ByteArray.ext
    apply Array.toList_inj.1
    rw [ext_take, hl, take_front]
  · apply ByteArray.ext
    apply Array.toList_inj.1
    rw [ext_drop, hl, drop_front]

theorem elems_take {w : World} {a : Option Addr} {l : List Int} (h : Elems w a l) (m : Nat) : Elems w a (l.take m) := by
  intro h0
  have hle := List.length_take_le m l
  have hle' := List.length_take_le' m l
  obtain ⟨b, o, e, hb, hc⟩ := h (by omega)
  refine ⟨b, o, e, hb, fun j hj => ?_⟩
  rw [hc j (by omega)]
  have : j < m := by omega
  simp [List.getD, this]
theorem elems_drop {w : World} {a : Option Addr} {l : List Int} (h : Elems w a l) (m c : Nat) (hc : l.length ≤ c) (hm : m ≤ l.length) :
    Elems w (if c = m then a else Option.map (fun x => x.add m) a) (l.drop m) := by
  intro h0
  rw [List.length_drop] at h0
  obtain ⟨b, o, rfl, hb, hcc⟩ := h (by omega)
  refine ⟨b, o + m, ?_, hb, fun j hj => ?_⟩
  · rw [if_neg (by omega)]; simp [Addr.add]
  · rw [List.length_drop] at hj
    rw [Nat.add_assoc, hcc (m + j) (by omega)]
    simp [List.getD, List.getElem?_drop]

set_option maxHeartbeats 1000000 in
set_option maxRecDepth 100000 in
theorem lawCuts (s : ByteArray) (n : Int) (w : World) (hs : s.size ≤ 1048576) (hT : Lib.Utf8Tabs 0 1 w) :
    Calls Tryd.prog 8 #[.string s, .int .i64 n] w fun e w' => e = .returned (.bool true) ∧ Below w.heap.size w w' := by
  by_cases hg : bad s.data.toList < 0
  · obtain ⟨hl, hsc⟩ := good_runes hg
    have hrl : (runes s.data.toList).length ≤ 1048576 := by
      have h : (runes s.data.toList).length ≤ s.data.toList.length := decF_length _ _
      rw [len_list] at h
      omega
    have k1 := runes_good_cap s w (by omega) hT hg
    have K1 := hide k1
    have HL := hide hl
    have HSC := hide hsc
    clear k1 hg hl hsc
    generalize runes s.data.toList = rs at *
    by_cases hn : 0 ≤ n ∧ n ≤ rs.length
    · obtain ⟨m, rfl⟩ := Int.eq_ofNat_of_zero_le hn.1
      have hm : m ≤ rs.length := by omega
      obtain ⟨p1, p2, p3⟩ := cut_parts s rs HL.out m hm
      have eK : cutK rs (m : Int) = ((enc (rs.take m)).length : Nat) := by simp [cutK, hm]
      have eE : cutE rs (m : Int) = 0 := by simp [cutE, hm]
      have P2 := hide p2
      have P3 := hide p3
      have EK := hide eK
      have EE := hide eE
      clear p2 p3 eK eE hn
      generalize (enc (rs.take m)).length = K at *
      have ht : Hid ((rs.take m).length = m) := by show (rs.take m).length = m; simp; omega
      have hd : Hid ((rs.drop m).length = rs.length - m) := by show (rs.drop m).length = _; simp
      go_enter Tryd.func8, Tryd.ntmps8
      go_wp2_with (go_at_call 23; refine (utfs_any _).mono ?_; rintro e w' ⟨rfl, rfl⟩)
      refine (unhide K1).mono ?_
      rintro e w1 ⟨a1, c1, rfl, e1, hc1, b1⟩
      go_wp2_with fail
      have k2 := cut_good s (m : Int) rs w1 (by omega) (Utf8Tabs_below hT b1) HL.out HSC.out (by omega)
      rw [EK.out, EE.out] at k2
      refine k2.mono ?_
      clear k2
      rintro e w2 ⟨rfl, b2⟩
      have b12 := b1.trans (b2.mono b1.size)
      go_wp2_with fail
      have k3 := runes_back (rs.take m) w2 (by have := ht.out; omega) (fun r hr => HSC.out r (List.mem_of_mem_take hr)) (Utf8Tabs_below hT b12)
      rw [← P2.out, ht.out] at k3
      refine k3.mono ?_
      clear k3
      rintro e w3 ⟨a3, c3, rfl, e3, b3⟩
      have b13 := b12.trans (b3.mono b12.size)
      go_wp2_with fail
      have k4 := runes_back (rs.drop m) w3 (by have := hd.out; omega) (fun r hr => HSC.out r (List.mem_of_mem_drop hr)) (Utf8Tabs_below hT b13)
      rw [← P3.out, hd.out] at k4
      refine k4.mono ?_
      clear k4
      rintro e w4 ⟨a4, c4, rfl, e4, b4⟩
      have b14 := b13.trans (b4.mono b13.size)
      go_wp2_with fail
      have k5 := equal_self a3 a1 (rs.take m) c3 c1 w4 (by have := ht.out; omega) (e3.below b4) (elems_take (((e1.below b2).below b3).below b4) m)
      rw [ht.out] at k5
      refine k5.mono ?_
      clear k5
      rintro e w5 ⟨rfl, b5⟩
      have b15 := b14.trans (b5.mono b14.size)
      have E5 := elems_drop ((((e1.below b2).below b3).below b4).below b5) m c1 hc1 hm
      have ka : c1 = m → Calls Tryd.prog 17 #[.slice a4 (rs.length - m) c4, .slice a1 (rs.length - m) 0] w5 fun e w' => e = .returned (.bool true) ∧ Below w5.heap.size w5 w' := fun hcm => by
        rw [if_pos hcm] at E5
        have k6 := equal_self a4 a1 (rs.drop m) c4 0 w5 (by have := hd.out; omega) (e4.below b5) E5
        rw [hd.out] at k6
        exact k6
      have kb : ¬ c1 = m → Calls Tryd.prog 17 #[.slice a4 (rs.length - m) c4, .slice (Option.map (fun x => x.add m) a1) (rs.length - m) (c1 - m)] w5 fun e w' => e = .returned (.bool true) ∧ Below w5.heap.size w5 w' := fun hcm => by
        rw [if_neg hcm] at E5
        have k6 := equal_self a4 (Option.map (fun x => x.add m) a1) (rs.drop m) c4 (c1 - m) w5 (by have := hd.out; omega) (e4.below b5) E5
        rw [hd.out] at k6
        exact k6
      have KA := hide ka
      have KB := hide kb
      clear ka kb E5 K1
      go_wp2_with fail
      · refine (unhide KA (by omega)).mono ?_
        rintro e w6 ⟨rfl, b6⟩
        have b16 := b15.trans (b6.mono b15.size)
        go_wp2_with fail
        go_ret
        exact ⟨rfl, b16⟩
      · refine (unhide KB (by omega)).mono ?_
        rintro e w6 ⟨rfl, b6⟩
        have b16 := b15.trans (b6.mono b15.size)
        go_wp2_with fail
        go_ret
        exact ⟨rfl, b16⟩
    · have eK : cutK rs n = 0 := by simp only [cutK, hn, if_false]
      have eE : cutE rs n = 1 := by simp only [cutE, hn, if_false]
      have EK := hide eK
      have EE := hide eE
      clear eK eE hn
      go_enter Tryd.func8, Tryd.ntmps8
      go_wp2_with (go_at_call 23; refine (utfs_any _).mono ?_; rintro e w' ⟨rfl, rfl⟩)
      refine (unhide K1).mono ?_
      rintro e w1 ⟨a1, c1, rfl, e1, hc1, b1⟩
      go_wp2_with fail
      have k2 := cut_good s n rs w1 (by omega) (Utf8Tabs_below hT b1) HL.out HSC.out (by omega)
      rw [EK.out, EE.out] at k2
      refine k2.mono ?_
      clear k2
      rintro e w2 ⟨rfl, b2⟩
      have b12 := b1.trans (b2.mono b1.size)
      go_wp2_with fail
      go_ret
      exact ⟨rfl, b12⟩
  · have hg' := Int.not_lt.1 hg
    have k1 := runes_bad s w (by omega) hT hg'
    have K1 := hide k1
    have HG := hide hg'
    clear k1 hg hg'
    go_enter Tryd.func8, Tryd.ntmps8
    go_wp2_with (go_at_call 23; refine (utfs_any _).mono ?_; rintro e w' ⟨rfl, rfl⟩)
    refine (unhide K1).mono ?_
    rintro e w1 ⟨rfl, b1⟩
    go_wp2_with fail
    refine (cut_bad s n w1 (by omega) (Utf8Tabs_below hT b1) HG.out).mono ?_
    rintro e w2 ⟨rfl, b2⟩
    have b12 := b1.trans (b2.mono b1.size)
    go_wp2_with fail
    go_ret
    exact ⟨rfl, b12⟩
end Go.Proofs.YtealhdpieoiikaaDoor.walks
