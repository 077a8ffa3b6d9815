/- The walk of the law that Text, Clean and Cut answer as the document says. -/
import Derived.Test.YtealhdpieoiikaaDoorCleans
import Derived.Test.YtealhdpieoiikaaDoorLawCuts
set_option linter.unusedVariables false
namespace Go.Proofs.YtealhdpieoiikaaDoor.walks
open Go.RowKit
open plain

theorem filter_snoc_yes (l : List Int) (k : Nat) (h : k < l.length) (hs : sc (l.getD k 0) = true) : enc ((l.take (k + 1)).filter sc) = enc ((l.take k).filter sc) ++ Lib.encodeRune (l.getD k 0) := by
  rw [take_succ l k h, List.filter_append, enc_append]
  congr 1
  rw [List.filter_cons_of_pos hs, List.filter_nil, enc_one]
theorem filter_snoc_no (l : List Int) (k : Nat) (h : k < l.length) (hs : sc (l.getD k 0) = false) : (l.take (k + 1)).filter sc = (l.take k).filter sc := by
  rw [take_succ l k h, List.filter_append, List.filter_cons_of_neg (by rw [hs]; simp), List.filter_nil, List.append_nil]
theorem textE_snoc_yes (l : List Int) (k : Nat) (h : k < l.length) (hs : sc (l.getD k 0) = true) : textE (l.take (k + 1)) = textE (l.take k) := by
  unfold textE
  rw [take_succ l k h, List.all_append]
  simp only [List.all_cons, List.all_nil, hs, Bool.and_true]
theorem textE_snoc_no (l : List Int) (k : Nat) (h : k < l.length) (hs : sc (l.getD k 0) = false) : textE (l.take (k + 1)) = 3 := by
  unfold textE
  rw [take_succ l k h, List.all_append]
  simp only [List.all_cons, List.all_nil, hs, Bool.and_true, Bool.and_false]
  rfl
theorem filter_all {l : List Int} (h : l.all sc = true) : l.filter sc = l := List.filter_eq_self.2 (fun r hr => List.all_eq_true.1 h r hr)
theorem textE_zero {l : List Int} (h : textE l = 0) : l.all sc = true := by
  cases e : l.all sc with
  | true => rfl
  | false => rw [textE_no e] at h; cases h

set_option maxHeartbeats 4000000 in
set_option maxRecDepth 100000 in
theorem lawMakes (a : Option Addr) (l : List Int) (cap : Nat) (s : ByteArray) (n : Int) (w : World) (hl : l.length ≤ 1048576) (hs : s.size ≤ 1048576) (hE : Elems w a l) (hF : Fit l) (hn0 : -9223372036854775808 ≤ n) (hn1 : n ≤ 9223372036854775807) (hT : Lib.Utf8Tabs 0 1 w) :
    Calls Tryd.prog 4 #[.slice a l.length cap, .string s, .int .i64 n] w fun e w' => e = .returned (.bool true) ∧ Below w.heap.size w w' := by
  go_enter Tryd.func4, Tryd.ntmps4
  go_wp2
  go_loopw [7, 8, 21] (fun v b i wr => ∃ (k : Nat) (o : ByteArray), k ≤ l.length ∧ i = .int .i64 k ∧ v = .string o ∧ Hid (o.data.toList = enc ((l.take k).filter sc)) ∧ b = .int .i64 (textE (l.take k)) ∧ Below w.heap.size w wr ∧ o.size ≤ 4 * k) (fun _ _ i _ => l.length - (intOf i).toNat)
  case atStart => exact ⟨0, ⟨#[]⟩, Nat.zero_le _, rfl, rfl, rfl, rfl, Below.refl _ _, by show 0 ≤ 4 * 0; omega⟩
  case round =>
    obtain ⟨k, o, hk, rfl, rfl, ho, rfl, hbw, hos⟩ := hrel
    by_cases hlt : k < l.length
    · obtain ⟨b, off, rfl, hb, hc⟩ := hE (by omega)
      have hcell : wr.cell? ⟨b, off + k, none⟩ = some (.int .i32 (l.getD k 0)) := by
        rw [hbw.cell (p := ⟨b, off + k, none⟩) hb]; exact hc k hlt
      obtain ⟨hf0, hf1⟩ := hF k hlt
      have HC := hide hc
      cases hsc : sc (l.getD k 0) with
      | true =>
        have f1 := hide (filter_snoc_yes l k hlt hsc)
        have f2 := hide (textE_snoc_yes l k hlt hsc)
        have HSC := hide hsc
        have h4 := encodeRune_length (l.getD k 0)
        have c1 := scalar_any (l.getD k 0) wr
        rw [hsc] at c1
        have C1 := hide c1
        clear hc hsc c1
        generalize l.getD k 0 = r at *
        generalize textE (l.take k) = E at *
        go_wp2_with fail
        refine (unhide C1).mono ?_
        rintro e w1 ⟨rfl, rfl⟩
        go_wp2_with fail
        refine (codeOf_any r _ HSC.out).mono ?_
        rintro e w2 ⟨rfl, b2⟩
        have hq : (⟨(Lib.encodeRune r).toArray⟩ : ByteArray).size ≤ 4 := by
          show (Lib.encodeRune r).toArray.size ≤ 4
          rw [List.size_toArray]; exact h4.2
        have hap : Hid ((o ++ (⟨(Lib.encodeRune r).toArray⟩ : ByteArray)).data.toList = enc ((l.take (k + 1)).filter sc)) := by
          show (o ++ (⟨(Lib.encodeRune r).toArray⟩ : ByteArray)).data.toList = _
          rw [app_list, ho.out, f1.out]
        have hsz : Hid ((o ++ (⟨(Lib.encodeRune r).toArray⟩ : ByteArray)).size ≤ 4 * (k + 1)) := by
          show (o ++ (⟨(Lib.encodeRune r).toArray⟩ : ByteArray)).size ≤ _
          rw [ByteArray.size_append]; omega
        generalize (⟨(Lib.encodeRune r).toArray⟩ : ByteArray) = q at *
        clear h4
        go_wp2_with fail
        go_roundw
        case rel => exact ⟨k + 1, _, by omega, by go_num, rfl, hap, by rw [f2.out], hbw.trans (b2.mono hbw.size), hsz.out⟩
        case measure => simp [intOf]; omega
      | false =>
        have f1 := hide (filter_snoc_no l k hlt hsc)
        have f2 := hide (textE_snoc_no l k hlt hsc)
        have c1 := scalar_any (l.getD k 0) wr
        rw [hsc] at c1
        have C1 := hide c1
        clear hc hsc c1
        generalize l.getD k 0 = r at *
        generalize textE (l.take k) = E at *
        go_wp2_with fail
        refine (unhide C1).mono ?_
        rintro e w1 ⟨rfl, rfl⟩
        go_wp2_with fail
        go_roundw
        case rel => exact ⟨k + 1, o, by omega, by go_num, rfl, by rw [f1.out]; exact ho, by rw [f2.out], hbw, by omega⟩
        case measure => simp [intOf]; omega
    · obtain rfl : k = l.length := by omega
      have ho' := ho.out
      rw [List.take_length] at ho'
      simp only [List.take_length]
      have HO := hide ho'
      clear ho' ho
      have hrl : (runes s.data.toList).length ≤ 1048576 := by
        have h : (runes s.data.toList).length ≤ s.data.toList.length := decF_length _ _
        rw [len_list] at h
        omega
      cases hy : l.all sc with
      | true =>
        by_cases hg : bad s.data.toList < 0
        · have HG := hide hg
          have HLS := hide (good_runes hg)
          clear hg
          by_cases hn : 0 ≤ n ∧ n ≤ (runes s.data.toList).length
          · obtain ⟨m, rfl⟩ := Int.eq_ofNat_of_zero_le hn.1
            have hm : m ≤ (runes s.data.toList).length := by omega
            have eK : cutK (runes s.data.toList) (m : Int) = ((enc ((runes s.data.toList).take m)).length : Nat) := by simp [cutK, hm]
            have eE : cutE (runes s.data.toList) (m : Int) = 0 := by simp [cutE, hm]
            have EK := hide eK
            have EE := hide eE
            have hbneg : bad s.data.toList < 0 := HG.out
            have t1 : decide ((m : Int) < 0) = false := decide_eq_false (by omega)
            have t2 : decide ((runes s.data.toList).length < m) = false := decide_eq_false (by omega)
            have t3 : decide (0 ≤ bad s.data.toList) = false := decide_eq_false (by omega)
            clear eK eE hn
            have HY := hide hy
            have hoe : o = ⟨(enc l).toArray⟩ := by
              apply ByteArray.ext
              apply Array.toList_inj.1
              rw [HO.out, filter_all HY.out]
            have kt := text_any a l cap wr (by omega) (hE.below hbw) hF
            rw [textB_yes hy, textE_yes hy, ← hoe] at kt
            rw [textE_yes hy]
            have KT := hide kt
            clear kt hoe hy
            go_wp2_with fail
            refine (unhide KT).mono ?_
            rintro e w1 ⟨rfl, b1⟩
            have b01 := hbw.trans (b1.mono hbw.size)
            go_wp2_with fail
            refine (clean_any s w1 (by omega)).mono ?_
            rintro e w2 ⟨rfl, b2⟩
            have b02 := b01.trans (b2.mono b01.size)
            go_wp2_with fail
            refine (cleaned_any s w2 (by omega)).mono ?_
            rintro e w3 ⟨rfl, b3⟩
            have b03 := b02.trans (b3.mono b02.size)
            generalize (⟨(enc (runes s.data.toList)).toArray⟩ : ByteArray) = cl at *
            go_wp2_with fail
            have k4 := cut_good s (m : Int) (runes s.data.toList) w3 (by omega) (Utf8Tabs_below hT b03) HLS.out.1 HLS.out.2 (by omega)
            rw [EK.out, EE.out] at k4
            refine k4.mono ?_
            clear k4
            rintro e w4 ⟨rfl, b4⟩
            have b04 := b03.trans (b4.mono b03.size)
            go_wp2_with fail
            refine (badPlace_any s w4 (by omega)).mono ?_
            rintro e w5 ⟨rfl, b5⟩
            have b05 := b04.trans (b5.mono b04.size)
            have hbn : bad s.data.toList < 0 := HG.out
            go_wp2_with fail
            refine (scalars_any s (runes s.data.toList) w5 (by omega) HLS.out.1 HLS.out.2).mono ?_
            rintro e w6 ⟨a6, c6, rfl, e6, hc6, b6⟩
            have b06 := b05.trans (b6.mono b05.size)
            have E6 := elems_take e6 m
            have hl6 : Hid (((runes s.data.toList).take m).length = m) := by show ((runes s.data.toList).take m).length = m; simp; omega
            have hS6 : Hid (∀ r ∈ (runes s.data.toList).take m, sc r = true) := fun r hr => HLS.out.2 r (List.mem_of_mem_take hr)
            go_wp2_with fail
            generalize (runes s.data.toList).take m = ts at *
            go_loopw [16, 92] (fun v i wr2 => ∃ j : Nat, j ≤ m ∧ i = .int .i64 j ∧ v = .int .i64 ((enc (ts.take j)).length : Nat) ∧ Below w6.heap.size w6 wr2) (fun _ i _ => m - (intOf i).toNat)
            case atStart => exact ⟨0, Nat.zero_le _, rfl, rfl, Below.refl _ _⟩
            case round =>
              obtain ⟨j, hj, rfl, rfl, hbw7⟩ := hrel
              have b07 := b06.trans (hbw7.mono b06.size)
              have hq := enc_length (ts.take j)
              have hq2 : (ts.take j).length ≤ j := List.length_take_le j ts
              by_cases hjl : j < m
              · have hjt : j < ts.length := by rw [hl6.out]; exact hjl
                obtain ⟨b, off, rfl, hb, hc⟩ := E6 (by omega)
                have hcell : wr.cell? ⟨b, off + j, none⟩ = some (.int .i32 (ts.getD j 0)) := by
                  rw [hbw7.cell (p := ⟨b, off + j, none⟩) hb]; exact hc j hjt
                have hrs : sc (ts.getD j 0) = true := hS6.out _ (by simp [List.getD, List.getElem?_eq_getElem hjt])
                have HRS := hide hrs
                have hbd := sc_true hrs
                have h4 := encodeRune_length (ts.getD j 0)
                have hst : Hid ((enc (ts.take (j + 1))).length = (enc (ts.take j)).length + (Lib.encodeRune (ts.getD j 0)).length) := by
                  show (enc (ts.take (j + 1))).length = _
                  rw [take_succ ts j hjt, enc_append, enc_one, List.length_append]
                clear hc hrs
                generalize ts.getD j 0 = r at *
                generalize (enc (ts.take j)).length = x at *
                go_wp2_with fail
                refine (codeOf_any r _ HRS.out).mono ?_
                rintro e w8 ⟨rfl, b8⟩
                go_wp2_with fail
                go_roundw
                case rel => exact ⟨j + 1, by omega, by go_num, by rw [hst.out]; go_num, hbw7.trans (b8.mono hbw7.size)⟩
                case measure => simp [intOf]; omega
              · obtain rfl : j = m := by omega
                have htk : ts.take j = ts := List.take_of_length_le (by rw [hl6.out]; exact Nat.le_refl _)
                rw [htk]
                go_wp2
                go_ret
                exact ⟨rfl, b07⟩
          · have eK : cutK (runes s.data.toList) n = 0 := by simp only [cutK, hn, if_false]
            have eE : cutE (runes s.data.toList) n = 1 := by simp only [cutE, hn, if_false]
            have EK := hide eK
            have EE := hide eE
            clear eK eE
            have HY := hide hy
            have hoe : o = ⟨(enc l).toArray⟩ := by
              apply ByteArray.ext
              apply Array.toList_inj.1
              rw [HO.out, filter_all HY.out]
            have kt := text_any a l cap wr (by omega) (hE.below hbw) hF
            rw [textB_yes hy, textE_yes hy, ← hoe] at kt
            rw [textE_yes hy]
            have KT := hide kt
            clear kt hoe hy
            go_wp2_with fail
            refine (unhide KT).mono ?_
            rintro e w1 ⟨rfl, b1⟩
            have b01 := hbw.trans (b1.mono hbw.size)
            go_wp2_with fail
            refine (clean_any s w1 (by omega)).mono ?_
            rintro e w2 ⟨rfl, b2⟩
            have b02 := b01.trans (b2.mono b01.size)
            go_wp2_with fail
            refine (cleaned_any s w2 (by omega)).mono ?_
            rintro e w3 ⟨rfl, b3⟩
            have b03 := b02.trans (b3.mono b02.size)
            generalize (⟨(enc (runes s.data.toList)).toArray⟩ : ByteArray) = cl at *
            go_wp2_with fail
            have k4 := cut_good s n (runes s.data.toList) w3 (by omega) (Utf8Tabs_below hT b03) HLS.out.1 HLS.out.2 (by omega)
            rw [EK.out, EE.out] at k4
            refine k4.mono ?_
            clear k4
            rintro e w4 ⟨rfl, b4⟩
            have b04 := b03.trans (b4.mono b03.size)
            go_wp2_with fail
            refine (badPlace_any s w4 (by omega)).mono ?_
            rintro e w5 ⟨rfl, b5⟩
            have b05 := b04.trans (b5.mono b04.size)
            have hbn : bad s.data.toList < 0 := HG.out
            go_wp2_with fail
            refine (scalars_any s (runes s.data.toList) w5 (by omega) HLS.out.1 HLS.out.2).mono ?_
            rintro e w6 ⟨a6, c6, rfl, e6, hc6, b6⟩
            have b06 := b05.trans (b6.mono b05.size)
            by_cases hneg : n < 0
            · go_wp2_with fail
              go_ret
              exact ⟨rfl, b06⟩
            · have hgt : ((runes s.data.toList).length : Int) < n := by omega
              go_wp2_with fail
              go_ret
              exact ⟨rfl, b06⟩
        · have HG := hide (Int.not_lt.1 hg)
          clear hg
          have HY := hide hy
          have hoe : o = ⟨(enc l).toArray⟩ := by
            apply ByteArray.ext
            apply Array.toList_inj.1
            rw [HO.out, filter_all HY.out]
          have kt := text_any a l cap wr (by omega) (hE.below hbw) hF
          rw [textB_yes hy, textE_yes hy, ← hoe] at kt
          rw [textE_yes hy]
          have KT := hide kt
          clear kt hoe hy
          go_wp2_with fail
          refine (unhide KT).mono ?_
          rintro e w1 ⟨rfl, b1⟩
          have b01 := hbw.trans (b1.mono hbw.size)
          go_wp2_with fail
          refine (clean_any s w1 (by omega)).mono ?_
          rintro e w2 ⟨rfl, b2⟩
          have b02 := b01.trans (b2.mono b01.size)
          go_wp2_with fail
          refine (cleaned_any s w2 (by omega)).mono ?_
          rintro e w3 ⟨rfl, b3⟩
          have b03 := b02.trans (b3.mono b02.size)
          generalize (⟨(enc (runes s.data.toList)).toArray⟩ : ByteArray) = cl at *
          go_wp2_with fail
          refine (cut_bad s n w3 (by omega) (Utf8Tabs_below hT b03) HG.out).mono ?_
          rintro e w4 ⟨rfl, b4⟩
          have b04 := b03.trans (b4.mono b03.size)
          go_wp2_with fail
          refine (badPlace_any s w4 (by omega)).mono ?_
          rintro e w5 ⟨rfl, b5⟩
          have b05 := b04.trans (b5.mono b04.size)
          have hbn : 0 ≤ bad s.data.toList := HG.out
          go_wp2_with fail
          go_ret
          exact ⟨rfl, b05⟩
      | false =>
        by_cases hg : bad s.data.toList < 0
        · have HG := hide hg
          have HLS := hide (good_runes hg)
          clear hg
          by_cases hn : 0 ≤ n ∧ n ≤ (runes s.data.toList).length
          · obtain ⟨m, rfl⟩ := Int.eq_ofNat_of_zero_le hn.1
            have hm : m ≤ (runes s.data.toList).length := by omega
            have eK : cutK (runes s.data.toList) (m : Int) = ((enc ((runes s.data.toList).take m)).length : Nat) := by simp [cutK, hm]
            have eE : cutE (runes s.data.toList) (m : Int) = 0 := by simp [cutE, hm]
            have EK := hide eK
            have EE := hide eE
            have hbneg : bad s.data.toList < 0 := HG.out
            have t1 : decide ((m : Int) < 0) = false := decide_eq_false (by omega)
            have t2 : decide ((runes s.data.toList).length < m) = false := decide_eq_false (by omega)
            have t3 : decide (0 ≤ bad s.data.toList) = false := decide_eq_false (by omega)
            clear eK eE hn
            have kt := text_any a l cap wr (by omega) (hE.below hbw) hF
            rw [textB_no hy, textE_no hy] at kt
            rw [textE_no hy]
            have KT := hide kt
            clear kt hy
            go_wp2_with fail
            refine (unhide KT).mono ?_
            rintro e w1 ⟨rfl, b1⟩
            have b01 := hbw.trans (b1.mono hbw.size)
            go_wp2_with fail
            refine (clean_any s w1 (by omega)).mono ?_
            rintro e w2 ⟨rfl, b2⟩
            have b02 := b01.trans (b2.mono b01.size)
            go_wp2_with fail
            refine (cleaned_any s w2 (by omega)).mono ?_
            rintro e w3 ⟨rfl, b3⟩
            have b03 := b02.trans (b3.mono b02.size)
            generalize (⟨(enc (runes s.data.toList)).toArray⟩ : ByteArray) = cl at *
            go_wp2_with fail
            have k4 := cut_good s (m : Int) (runes s.data.toList) w3 (by omega) (Utf8Tabs_below hT b03) HLS.out.1 HLS.out.2 (by omega)
            rw [EK.out, EE.out] at k4
            refine k4.mono ?_
            clear k4
            rintro e w4 ⟨rfl, b4⟩
            have b04 := b03.trans (b4.mono b03.size)
            go_wp2_with fail
            refine (badPlace_any s w4 (by omega)).mono ?_
            rintro e w5 ⟨rfl, b5⟩
            have b05 := b04.trans (b5.mono b04.size)
            have hbn : bad s.data.toList < 0 := HG.out
            go_wp2_with fail
            refine (scalars_any s (runes s.data.toList) w5 (by omega) HLS.out.1 HLS.out.2).mono ?_
            rintro e w6 ⟨a6, c6, rfl, e6, hc6, b6⟩
            have b06 := b05.trans (b6.mono b05.size)
            have E6 := elems_take e6 m
            have hl6 : Hid (((runes s.data.toList).take m).length = m) := by show ((runes s.data.toList).take m).length = m; simp; omega
            have hS6 : Hid (∀ r ∈ (runes s.data.toList).take m, sc r = true) := fun r hr => HLS.out.2 r (List.mem_of_mem_take hr)
            go_wp2_with fail
            generalize (runes s.data.toList).take m = ts at *
            go_loopw [16, 92] (fun v i wr2 => ∃ j : Nat, j ≤ m ∧ i = .int .i64 j ∧ v = .int .i64 ((enc (ts.take j)).length : Nat) ∧ Below w6.heap.size w6 wr2) (fun _ i _ => m - (intOf i).toNat)
            case atStart => exact ⟨0, Nat.zero_le _, rfl, rfl, Below.refl _ _⟩
            case round =>
              obtain ⟨j, hj, rfl, rfl, hbw7⟩ := hrel
              have b07 := b06.trans (hbw7.mono b06.size)
              have hq := enc_length (ts.take j)
              have hq2 : (ts.take j).length ≤ j := List.length_take_le j ts
              by_cases hjl : j < m
              · have hjt : j < ts.length := by rw [hl6.out]; exact hjl
                obtain ⟨b, off, rfl, hb, hc⟩ := E6 (by omega)
                have hcell : wr.cell? ⟨b, off + j, none⟩ = some (.int .i32 (ts.getD j 0)) := by
                  rw [hbw7.cell (p := ⟨b, off + j, none⟩) hb]; exact hc j hjt
                have hrs : sc (ts.getD j 0) = true := hS6.out _ (by simp [List.getD, List.getElem?_eq_getElem hjt])
                have HRS := hide hrs
                have hbd := sc_true hrs
                have h4 := encodeRune_length (ts.getD j 0)
                have hst : Hid ((enc (ts.take (j + 1))).length = (enc (ts.take j)).length + (Lib.encodeRune (ts.getD j 0)).length) := by
                  show (enc (ts.take (j + 1))).length = _
                  rw [take_succ ts j hjt, enc_append, enc_one, List.length_append]
                clear hc hrs
                generalize ts.getD j 0 = r at *
                generalize (enc (ts.take j)).length = x at *
                go_wp2_with fail
                refine (codeOf_any r _ HRS.out).mono ?_
                rintro e w8 ⟨rfl, b8⟩
                go_wp2_with fail
                go_roundw
                case rel => exact ⟨j + 1, by omega, by go_num, by rw [hst.out]; go_num, hbw7.trans (b8.mono hbw7.size)⟩
                case measure => simp [intOf]; omega
              · obtain rfl : j = m := by omega
                have htk : ts.take j = ts := List.take_of_length_le (by rw [hl6.out]; exact Nat.le_refl _)
                rw [htk]
                go_wp2
                go_ret
                exact ⟨rfl, b07⟩
          · have eK : cutK (runes s.data.toList) n = 0 := by simp only [cutK, hn, if_false]
            have eE : cutE (runes s.data.toList) n = 1 := by simp only [cutE, hn, if_false]
            have EK := hide eK
            have EE := hide eE
            clear eK eE
            have kt := text_any a l cap wr (by omega) (hE.below hbw) hF
            rw [textB_no hy, textE_no hy] at kt
            rw [textE_no hy]
            have KT := hide kt
            clear kt hy
            go_wp2_with fail
            refine (unhide KT).mono ?_
            rintro e w1 ⟨rfl, b1⟩
            have b01 := hbw.trans (b1.mono hbw.size)
            go_wp2_with fail
            refine (clean_any s w1 (by omega)).mono ?_
            rintro e w2 ⟨rfl, b2⟩
            have b02 := b01.trans (b2.mono b01.size)
            go_wp2_with fail
            refine (cleaned_any s w2 (by omega)).mono ?_
            rintro e w3 ⟨rfl, b3⟩
            have b03 := b02.trans (b3.mono b02.size)
            generalize (⟨(enc (runes s.data.toList)).toArray⟩ : ByteArray) = cl at *
            go_wp2_with fail
            have k4 := cut_good s n (runes s.data.toList) w3 (by omega) (Utf8Tabs_below hT b03) HLS.out.1 HLS.out.2 (by omega)
            rw [EK.out, EE.out] at k4
            refine k4.mono ?_
            clear k4
            rintro e w4 ⟨rfl, b4⟩
            have b04 := b03.trans (b4.mono b03.size)
            go_wp2_with fail
            refine (badPlace_any s w4 (by omega)).mono ?_
            rintro e w5 ⟨rfl, b5⟩
            have b05 := b04.trans (b5.mono b04.size)
            have hbn : bad s.data.toList < 0 := HG.out
            go_wp2_with fail
            refine (scalars_any s (runes s.data.toList) w5 (by omega) HLS.out.1 HLS.out.2).mono ?_
            rintro e w6 ⟨a6, c6, rfl, e6, hc6, b6⟩
            have b06 := b05.trans (b6.mono b05.size)
            by_cases hneg : n < 0
            · go_wp2_with fail
              go_ret
              exact ⟨rfl, b06⟩
            · have hgt : ((runes s.data.toList).length : Int) < n := by omega
              go_wp2_with fail
              go_ret
              exact ⟨rfl, b06⟩
        · have HG := hide (Int.not_lt.1 hg)
          clear hg
          have kt := text_any a l cap wr (by omega) (hE.below hbw) hF
          rw [textB_no hy, textE_no hy] at kt
          rw [textE_no hy]
          have KT := hide kt
          clear kt hy
          go_wp2_with fail
          refine (unhide KT).mono ?_
          rintro e w1 ⟨rfl, b1⟩
          have b01 := hbw.trans (b1.mono hbw.size)
          go_wp2_with fail
          refine (clean_any s w1 (by omega)).mono ?_
          rintro e w2 ⟨rfl, b2⟩
          have b02 := b01.trans (b2.mono b01.size)
          go_wp2_with fail
          refine (cleaned_any s w2 (by omega)).mono ?_
          rintro e w3 ⟨rfl, b3⟩
          have b03 := b02.trans (b3.mono b02.size)
          generalize (⟨(enc (runes s.data.toList)).toArray⟩ : ByteArray) = cl at *
          go_wp2_with fail
          refine (cut_bad s n w3 (by omega) (Utf8Tabs_below hT b03) HG.out).mono ?_
          rintro e w4 ⟨rfl, b4⟩
          have b04 := b03.trans (b4.mono b03.size)
          go_wp2_with fail
          refine (badPlace_any s w4 (by omega)).mono ?_
          rintro e w5 ⟨rfl, b5⟩
          have b05 := b04.trans (b5.mono b04.size)
          have hbn : 0 ≤ bad s.data.toList := HG.out
          go_wp2_with fail
          go_ret
          exact ⟨rfl, b05⟩
end Go.Proofs.YtealhdpieoiikaaDoor.walks
