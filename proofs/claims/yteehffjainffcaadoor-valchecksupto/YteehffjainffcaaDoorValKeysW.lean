/- The program's checkKeys. -/
import Derived.Test.YteehffjainffcaaDoorValOneP
import Derived.Test.YteehffjainffcaaDoorValBlk
import Derived.Test.YteehffjainffcaaDoorUtfNext
import Derived.WalkLawsBesides
set_option linter.unusedVariables false
namespace Go.Proofs.YteehffjainffcaaDoor.valus
open Go.RowKit

/-- The key ahead of place j. -/
def prevK (l : List (List UInt8)) (j : Nat) : Option (List UInt8) := if j = 0 then none else l[j - 1]?
/-- An entry's row, key by key. -/
abbrev RowE (ok : Nat → Prop) (f : Nat) (w : World) (p : Option Addr) (E : List V) : Prop := RowIn ok w p 7 E.length (fun j us => ∃ (key : ByteArray) (y : V) (xs : List Value), E[j]? = some (ent key.data.toList y) ∧ us = .string key :: xs ∧ key.size ≤ maxLen ∧ LiesV ok f w xs y)

set_option maxHeartbeats 4000000 in
set_option maxRecDepth 100000 in
theorem checkKeys_any (ok : Nat → Prop) (f : Nat) (w : World) (E : List V) (pE : Option Addr) (cE : Nat) (hE : RowE ok f w pE E) (h1 : E.length ≤ cE) (h2 : cE ≤ maxLen) (hT : Lib.Utf8Tabs 0 1 w) :
    Calls Tryd.prog 16 #[.slice pE E.length cE] w fun e w' => e = .returned (.int .i64 (keysF none (keysV E))) ∧ Below w.heap.size w w' := by
  have h3 : E.length ≤ 9223372036854775807 := by unfold maxLen at h2; omega
  go_enter Tryd.func16, Tryd.ntmps16
  go_wp2
  go_loopw [7] (fun i wr => ∃ j : Nat, i = .int .i64 j ∧ j ≤ E.length ∧ Hid (keysF (prevK (keysV E) j) ((keysV E).drop j) = keysF none (keysV E)) ∧ Below w.heap.size w wr) (fun i _ => E.length - (intOf i).toNat)
  case atStart => exact ⟨0, rfl, Nat.zero_le _, rfl, Below.refl _ _⟩
  case round =>
    obtain ⟨j, rfl, hj, hacc, hbw⟩ := hrel
    by_cases hlt : j < E.length
    · obtain ⟨B, o, rfl, _, hBl, x0, x1, x2, x3, x4, x5, x6, ⟨key, y, xs, hy, hus, hks, hly⟩, k0, k1, k2, k3, k4, k5, k6⟩ := hE.seven hlt
      cases hus
      obtain ⟨vk, vn, vb, vs, vpL, vnL, vcL, vpE, vnE, vcE, rfl, rfl, rfl, rfl, rfl, rfl⟩ := hly.form
      have q0 := (hbw.cell (p := ⟨B, o + j * 7, none⟩) hBl).trans k0
      have q1 := (hbw.cell (p := ⟨B, o + j * 7 + 1, none⟩) hBl).trans k1
      have q2 := (hbw.cell (p := ⟨B, o + j * 7 + 2, none⟩) hBl).trans k2
      have q3 := (hbw.cell (p := ⟨B, o + j * 7 + 3, none⟩) hBl).trans k3
      have q4 := (hbw.cell (p := ⟨B, o + j * 7 + 4, none⟩) hBl).trans k4
      have q5 := (hbw.cell (p := ⟨B, o + j * 7 + 5, none⟩) hBl).trans k5
      have q6 := (hbw.cell (p := ⟨B, o + j * 7 + 6, none⟩) hBl).trans k6
      have hkey : (keysV E)[j]? = some key.data.toList := by rw [keysV, List.getElem?_map, hy]; rfl
      have hstep := keysF_at (p := prevK (keysV E) j) hkey
      rw [hacc.out] at hstep
      have hprev : prevK (keysV E) (j + 1) = some key.data.toList := by rw [prevK, if_neg (by omega)]; exact hkey
      have hlen : key.data.toList.length = key.size := len_list key
      clear k0 k1 k2 k3 k4 k5 k6 hacc
      obtain ⟨A, hA⟩ : ∃ A, A = wr.alloc (.cells #[.string key, .int .i64 vk, .int .i64 vn, .int .u64 (vb : Int), .string vs, .slice vpL vnL vcL, .slice vpE vnE vcE] 34) := ⟨_, rfl⟩
      have hblk : Blk A wr.heap.size #[.string key, .int .i64 vk, .int .i64 vn, .int .u64 (vb : Int), .string vs, .slice vpL vnL vcL, .slice vpE vnE vcE] 34 := by rw [hA]; exact blk_alloc _ _ _
      have hbA : Below w.heap.size w A := by rw [hA]; exact hbw.alloc (by have := hbw.size; omega) _
      have a0 := hblk.cell 0 _ rfl
      rw [hA] at a0
      by_cases hbig : 100 < key.size
      · have hk0 : keyF (prevK (keysV E) j) key.data.toList = 2 := by unfold keyF; rw [if_pos (by omega)]
        rw [hk0, if_neg (by decide)] at hstep
        have d1 : (key.size : Int) > 100 := by omega
        have HS := hide hstep
        clear hstep hk0
        go_wp2
        go_ret
        rw [← hA]
        exact ⟨by rw [HS.out]; rfl, hbA⟩
      · have d1 : ¬ (key.size : Int) > 100 := by omega
        have hbad := utfs.bad_any key A (by unfold maxLen at hks; omega) (Utf8Tabs_below hT hbA)
        rw [hA] at hbad
        have HB := hide hbad
        clear hbad
        by_cases hbd : 0 ≤ utfs.bad key.data.toList
        · have hk0 : keyF (prevK (keysV E) j) key.data.toList = 3 := by unfold keyF; rw [if_neg (by omega), if_pos hbd]
          rw [hk0, if_neg (by decide)] at hstep
          have HS := hide hstep
          clear hstep hk0
          go_wp2_with (go_at_call 15; refine (unhide HB).mono ?_; rintro e w1 ⟨rfl, hb1⟩)
          go_ret
          rw [← hA] at hb1
          exact ⟨by rw [HS.out]; rfl, hbA.trans (hb1.mono hbA.size)⟩
        · have hkf : keyF (prevK (keysV E) j) key.data.toList = aheadF (prevK (keysV E) j) key.data.toList := by unfold keyF; rw [if_neg (by omega), if_neg hbd]
          by_cases hj0 : j = 0
          · have hk0 : keyF (prevK (keysV E) j) key.data.toList = 0 := by rw [hkf, hj0]; rfl
            rw [if_pos hk0] at hstep
            have HS := hide hstep
            have HJ := hide hj0
            clear hstep hk0 hkf hj0
            go_wp2_with (go_at_call 15; refine (unhide HB).mono ?_; rintro e w1 ⟨rfl, hb1⟩)
            rw [← hA] at hb1
            have d3 : decide (0 < (j : Int)) = false := decide_eq_false (by have := HJ.out; omega)
            have d4 : decide (0 < j) = false := decide_eq_false (by have := HJ.out; omega)
            have hmix : (Tryd.prog).follows .mixedOrders = true := by kernel_rfl
            have a1 := (hb1.cell (p := ⟨wr.heap.size, 0, none⟩) hblk.lt).trans (hblk.cell 0 _ rfl)
            go_quiet (fail)
            clear d3 d4
            go_wp2
            go_roundw
            case rel => exact ⟨j + 1, by simp, by omega, by rw [hprev]; exact HS.out.symm, below_drewN (hbA.trans (hb1.mono hbA.size)) _⟩
            case measure => simp [intOf]; omega
          · obtain ⟨i, rfl⟩ : ∃ i, j = i + 1 := ⟨j - 1, by omega⟩
            obtain ⟨B', o', eB, _, _, z0, z1, z2, z3, z4, z5, z6, ⟨kp, yp, xsp, hyp, husp, hksp, _⟩, p0, _⟩ := hE.seven (show i < E.length by omega)
            cases husp
            cases eB
            have r0 := (hbw.cell (p := ⟨B, o + i * 7, none⟩) hBl).trans p0
            have hpk : prevK (keysV E) (i + 1) = some kp.data.toList := by rw [prevK, if_neg (by omega), Nat.add_sub_cancel, keysV, List.getElem?_map, hyp]; rfl
            rw [hpk] at hkf hstep
            have HS := hide hstep
            have HK := hide hkf
            clear hstep hkf hj0 p0
            go_wp2_with (go_at_call 15; refine (unhide HB).mono ?_; rintro e w1 ⟨rfl, hb1⟩)
            rw [← hA] at hb1
            have hmix : (Tryd.prog).follows .mixedOrders = true := by kernel_rfl
            have a1 := (hb1.cell (p := ⟨wr.heap.size, 0, none⟩) hblk.lt).trans (hblk.cell 0 _ rfl)
            have r1 : w1.cell? ⟨B, o + i * 7, none⟩ = some (.string kp) := (hb1.cell (p := ⟨B, o + i * 7, none⟩) (by have := hbA.size; simp only; omega)).trans (((hbA.cell (p := ⟨B, o + i * 7, none⟩) hBl).trans ((hbw.cell (p := ⟨B, o + i * 7, none⟩) hBl).symm)).trans r0)
            have d3 : decide (0 < ((i : Int) + 1)) = true := decide_eq_true (by omega)
            have d4 : decide (0 < i + 1) = true := decide_eq_true (by omega)
            go_quiet (fail)
            clear d3 d4
            rw [ByteArray.toList_eq, ByteArray.toList_eq, le_less]
            have hkf : keyF (some kp.data.toList) key.data.toList = if Op.bytesLess kp.data.toList key.data.toList = true then 0 else 14 := HK.out
            cases hl : Op.bytesLess kp.data.toList key.data.toList with
            | true =>
              rw [hl, if_pos rfl] at hkf
              have hs2 := HS.out
              rw [if_pos hkf] at hs2
              have HS2 := hide hs2
              clear hs2 hkf
              go_wp2
              go_roundw
              case rel => exact ⟨i + 2, by simp; omega, by omega, by rw [hprev]; exact HS2.out.symm, below_drewN (hbA.trans (hb1.mono hbA.size)) _⟩
              case measure => simp [intOf]; omega
            | false =>
              rw [hl, if_neg (by decide)] at hkf
              have hs2 := HS.out
              rw [hkf, if_neg (by decide)] at hs2
              have HS2 := hide hs2
              clear hs2 hkf
              go_wp2
              go_ret
              exact ⟨by rw [HS2.out]; rfl, below_drewN (hbA.trans (hb1.mono hbA.size)) _⟩
    · obtain rfl : j = E.length := by omega
      have hz : keysF none (keysV E) = 0 := by rw [← hacc.out, List.drop_eq_nil_of_le (by simp [keysV])]; rfl
      go_wp2
      go_ret
      exact ⟨by rw [hz]; rfl, hbw⟩
end Go.Proofs.YteehffjainffcaaDoor.valus
