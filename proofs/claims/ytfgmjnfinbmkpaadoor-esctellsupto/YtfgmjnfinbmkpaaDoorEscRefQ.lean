/- The walk of the document's Quoted. -/
import Derived.Test.YtfgmjnfinbmkpaaDoorEscMore
import Derived.Test.YtfgmjnfinbmkpaaDoorUtfRefs
set_option linter.unusedVariables false
namespace Go.Proofs.YtfgmjnfinbmkpaaDoor.escs
open Go.RowKit
open utfs
open bigs (hexc digB digB_low digB_high)

theorem cat_sb (S : ByteArray) (x : List UInt8) (h : S.size + x.length ≤ 9223372036854775807) :
    ∃ T : ByteArray, T.data.toList = S.data.toList ++ x ∧ T.size = S.size + x.length ∧ ∀ u : World, (Op.stringOp .add S ⟨x.toArray⟩).run Tryd.prog u = .ok (.string T) u := by
  refine ⟨⟨(S.data.toList ++ x).toArray⟩, rfl, by rw [size_bytes, List.length_append, len_list], fun u => ?_⟩
  have := catL S.data.toList x (by rw [len_list]; exact h) u
  rwa [text_of (s := S) rfl] at this
def dgsE : ByteArray := ⟨#[48, 49, 50, 51, 52, 53, 54, 55, 56, 57, 97, 98, 99, 100, 101, 102]⟩
theorem dgsE_at (d : Nat) (h : d < 16) : dgsE.extract d (d + 1) = ⟨#[hexc d]⟩ := by
  have : ∀ k : Fin 16, (dgsE.extract k.1 (k.1 + 1)).data = #[hexc k.1] := by decide +kernel
  exact ByteArray.ext (this ⟨d, h⟩)
theorem qs_take {rs : List Int} {k : Nat} (h : k < rs.length) (S T : List UInt8) (x : List UInt8) (hS : S = 34 :: qs (rs.take k)) (hx : qr (rs.getD k 0) = x) (hT : T = S ++ x) : T = 34 :: qs (rs.take (k + 1)) := by
  have e : rs.take (k + 1) = rs.take k ++ [rs.getD k 0] := by
    rw [List.take_succ_eq_append_getElem h]
    simp [List.getD, List.getElem?_eq_getElem h]
  rw [e, qs_append, qs_one, hx, hT, hS]
  rfl
theorem i32_id (x : Int) (h0 : -2147483648 ≤ x) (h1 : x ≤ 2147483647) : IntKind.i32.wrap x = x := by
  simp [IntKind.wrap, IntKind.bits, IntKind.signed]
  omega
set_option maxHeartbeats 4000000 in
set_option maxRecDepth 100000 in
theorem quoted_any (w : World) (s : ByteArray) (rs : List Int) (hs : s.size ≤ 1048576) (hl : s.data.toList = enc rs) (hsc : ∀ r ∈ rs, sc r = true) :
    Calls Tryd.prog 10 #[.string s] w fun e w' => e = .returned (.string ⟨(quoteL rs).toArray⟩) ∧ Below w.heap.size w w' := by
  have KS := hide (scalars_any s rs w (by omega) hl hsc)
  have hrl : rs.length ≤ 1048576 := by
    have h1 := congrArg List.length hl
    rw [len_list] at h1
    have h2 : rs.length ≤ (enc rs).length := by
      clear h1 hl KS
      induction rs with
      | nil => simp
      | cons r rs ih =>
        have := ih (fun q hq => hsc q (List.mem_cons_of_mem _ hq))
        have h4 := encodeRune_length r
        rw [enc_cons, List.length_append, List.length_cons]
        omega
    omega
  have HSC := hide hsc
  clear hl hsc
  go_enter Tryd.func10, Tryd.ntmps10
  go_wp2_with fail
  refine (unhide KS).mono ?_
  rintro _ w1 ⟨a, cap, rfl, hE, hcap, b1⟩
  have B1 := hide b1
  have HE := hide hE
  clear b1 hE KS
  go_wp2_with fail
  go_loopw [3, 9] (fun out i wr => ∃ (S : ByteArray) (k : Nat), out = .string S ∧ i = .int .i64 (k : Int) ∧ k ≤ rs.length ∧ S.size ≤ 6 * k + 1 ∧ Hid (S.data.toList = 34 :: qs (rs.take k)) ∧ Hid (Below w1.heap.size w1 wr)) (fun _ i _ => rs.length - (intOf i).toNat)
  case atStart => exact ⟨⟨#[34]⟩, 0, rfl, rfl, Nat.zero_le _, by decide, hide rfl, hide (Below.refl _ _)⟩
  case round =>
    obtain ⟨S, k, rfl, rfl, hk, hz, hS, hB⟩ := hrel
    by_cases hlt : k < rs.length
    · obtain ⟨b, of, rfl, hb, hc⟩ := (unhide HE) (by omega)
      have hcell : wr.cell? ⟨b, of + k, none⟩ = some (.int .i32 (rs.getD k 0)) := by
        rw [(unhide hB).cell (p := ⟨b, of + k, none⟩) hb]; exact hc k hlt
      have hr : sc (rs.getD k 0) = true := (unhide HSC) _ (by simp [List.getD, List.getElem?_eq_getElem hlt])
      have h0 := sc_true hr
      have QT := fun T x => hide (qs_take hlt S.data.toList T x (unhide hS))
      have i1 : (k : Int) < (rs.length : Int) := by omega
      clear hc hb HE HSC hS
      generalize rs.getD k 0 = r at *
      by_cases c34 : r = 34
      · have HX : qr r = [92, 34] := by rw [c34]; rfl
        obtain ⟨T, tl, tz, ta⟩ := cat_sb S [92, 34] (by simp; omega)
        have zT : T.size ≤ 6 * (k + 1) + 1 := by rw [tz]; simp; omega
        have HT : Hid (T.data.toList = 34 :: qs (rs.take (k + 1))) := hide (unhide (QT T.data.toList [92, 34]) HX tl)
        have b34 : (r == 34) = true := by rw [c34]; rfl
        clear QT HX tl tz c34 h0 hr
        go_wp2
        go_roundw
        case rel => exact ⟨T, k + 1, by first | rfl | simp, by go_num, by omega, zT, HT, hB⟩
        case measure => simp [intOf]; omega
      · have b34 : (r == 34) = false := beq_false_of_ne c34
        by_cases c92 : r = 92
        · have HX : qr r = [92, 92] := by rw [c92]; rfl
          obtain ⟨T, tl, tz, ta⟩ := cat_sb S [92, 92] (by simp; omega)
          have zT : T.size ≤ 6 * (k + 1) + 1 := by rw [tz]; simp; omega
          have HT : Hid (T.data.toList = 34 :: qs (rs.take (k + 1))) := hide (unhide (QT T.data.toList [92, 92]) HX tl)
          have b92 : (r == 92) = true := by rw [c92]; rfl
          clear QT HX tl tz c92 h0 hr
          go_wp2
          go_roundw
          case rel => exact ⟨T, k + 1, by first | rfl | simp, by go_num, by omega, zT, HT, hB⟩
          case measure => simp [intOf]; omega
        · have b92 : (r == 92) = false := beq_false_of_ne c92
          by_cases c10 : r = 10
          · have HX : qr r = [92, 110] := by rw [c10]; rfl
            obtain ⟨T, tl, tz, ta⟩ := cat_sb S [92, 110] (by simp; omega)
            have zT : T.size ≤ 6 * (k + 1) + 1 := by rw [tz]; simp; omega
            have HT : Hid (T.data.toList = 34 :: qs (rs.take (k + 1))) := hide (unhide (QT T.data.toList [92, 110]) HX tl)
            have b10 : (r == 10) = true := by rw [c10]; rfl
            clear QT HX tl tz c10 h0 hr
            go_wp2
            go_roundw
            case rel => exact ⟨T, k + 1, by first | rfl | simp, by go_num, by omega, zT, HT, hB⟩
            case measure => simp [intOf]; omega
          · have b10 : (r == 10) = false := beq_false_of_ne c10
            by_cases c9 : r = 9
            · have HX : qr r = [92, 116] := by rw [c9]; rfl
              obtain ⟨T, tl, tz, ta⟩ := cat_sb S [92, 116] (by simp; omega)
              have zT : T.size ≤ 6 * (k + 1) + 1 := by rw [tz]; simp; omega
              have HT : Hid (T.data.toList = 34 :: qs (rs.take (k + 1))) := hide (unhide (QT T.data.toList [92, 116]) HX tl)
              have b9 : (r == 9) = true := by rw [c9]; rfl
              clear QT HX tl tz c9 h0 hr
              go_wp2
              go_roundw
              case rel => exact ⟨T, k + 1, by first | rfl | simp, by go_num, by omega, zT, HT, hB⟩
              case measure => simp [intOf]; omega
            · have b9 : (r == 9) = false := beq_false_of_ne c9
              by_cases c13 : r = 13
              · have HX : qr r = [92, 114] := by rw [c13]; rfl
                obtain ⟨T, tl, tz, ta⟩ := cat_sb S [92, 114] (by simp; omega)
                have zT : T.size ≤ 6 * (k + 1) + 1 := by rw [tz]; simp; omega
                have HT : Hid (T.data.toList = 34 :: qs (rs.take (k + 1))) := hide (unhide (QT T.data.toList [92, 114]) HX tl)
                have b13 : (r == 13) = true := by rw [c13]; rfl
                clear QT HX tl tz c13 h0 hr
                go_wp2
                go_roundw
                case rel => exact ⟨T, k + 1, by first | rfl | simp, by go_num, by omega, zT, HT, hB⟩
                case measure => simp [intOf]; omega
              · have b13 : (r == 13) = false := beq_false_of_ne c13
                by_cases c16 : r < 16
                · obtain ⟨d, rfl⟩ : ∃ d : Nat, r = d := ⟨r.toNat, by omega⟩
                  have hd : d < 16 := by omega
                  have hext : (⟨#[48, 49, 50, 51, 52, 53, 54, 55, 56, 57, 97, 98, 99, 100, 101, 102]⟩ : ByteArray).extract d (d + 1) = ⟨#[hexc d]⟩ := dgsE_at d hd
                  have z1 : IntKind.i32.wrap ((d : Int) + 1) = ((d + 1 : Nat) : Int) := by rw [i32_id _ (by omega) (by omega)]; omega
                  have p0 : (0 : Int) ≤ (d : Int) := by omega
                  have p1 : (d : Int) ≤ ((d + 1 : Nat) : Int) := by omega
                  have p2 : ((d + 1 : Nat) : Int) ≤ 16 := by omega
                  have HX : qr (d : Int) = [92, 117, 123] ++ [hexc d] ++ [125] := by rw [qr_hex (.inl (by omega)) c10 c9 c13, Int.toNat_natCast, digB_low hd]; rfl
                  have a1 := catL [92, 117, 123] [hexc d] (by simp)
                  have a2 := catL ([92, 117, 123] ++ [hexc d]) [125] (by simp)
                  obtain ⟨T, tl, tz, ta⟩ := cat_sb S ([92, 117, 123] ++ [hexc d] ++ [125]) (by simp; omega)
                  have zT : T.size ≤ 6 * (k + 1) + 1 := by rw [tz]; simp; omega
                  have HT : Hid (T.data.toList = 34 :: qs (rs.take (k + 1))) := hide (unhide (QT T.data.toList ([92, 117, 123] ++ [hexc d] ++ [125])) HX tl)
                  clear QT HX tl tz h0 hr c10 c9 c13 c34 c92
                  generalize [92, 117, 123] ++ [hexc d] ++ [125] = X2 at *
                  generalize [92, 117, 123] ++ [hexc d] = X1 at *
                  generalize hexc d = ch at *
                  generalize hdd : d + 1 = d1 at *
                  clear hdd
                  go_wp2
                  go_roundw
                  case rel => exact ⟨T, k + 1, by first | rfl | simp, by go_num, by omega, zT, HT, hB⟩
                  case measure => simp [intOf]; omega
                · by_cases c32 : r < 32
                  · obtain ⟨d, rfl⟩ : ∃ d : Nat, r = ((d + 16 : Nat) : Int) := ⟨r.toNat - 16, by omega⟩
                    have hd : d < 16 := by omega
                    have hext : (⟨#[48, 49, 50, 51, 52, 53, 54, 55, 56, 57, 97, 98, 99, 100, 101, 102]⟩ : ByteArray).extract d (d + 1) = ⟨#[hexc d]⟩ := dgsE_at d hd
                    have z1 : IntKind.i32.wrap (((d + 16 : Nat) : Int) - 16) = (d : Int) := by rw [i32_id _ (by omega) (by omega)]; omega
                    have z2 : IntKind.i32.wrap (((d + 16 : Nat) : Int) - 15) = ((d + 1 : Nat) : Int) := by rw [i32_id _ (by omega) (by omega)]; omega
                    have p0 : (0 : Int) ≤ (d : Int) := by omega
                    have p1 : (d : Int) ≤ ((d + 1 : Nat) : Int) := by omega
                    have p2 : ((d + 1 : Nat) : Int) ≤ 16 := by omega
                    have HX : qr ((d + 16 : Nat) : Int) = [92, 117, 123, 49] ++ [hexc d] ++ [125] := by
                      rw [qr_hex (.inl (by omega)) c10 c9 c13, Int.toNat_natCast, digB_high (by decide) (by omega), digB_low (b := 16) (n := (d + 16) / 16) (by omega), show (d + 16) / 16 = 1 by omega, show (d + 16) % 16 = d by omega]
                      rfl
                    have a1 := catL [92, 117, 123, 49] [hexc d] (by simp)
                    have a2 := catL ([92, 117, 123, 49] ++ [hexc d]) [125] (by simp)
                    obtain ⟨T, tl, tz, ta⟩ := cat_sb S ([92, 117, 123, 49] ++ [hexc d] ++ [125]) (by simp; omega)
                    have zT : T.size ≤ 6 * (k + 1) + 1 := by rw [tz]; simp; omega
                    have HT : Hid (T.data.toList = 34 :: qs (rs.take (k + 1))) := hide (unhide (QT T.data.toList ([92, 117, 123, 49] ++ [hexc d] ++ [125])) HX tl)
                    clear QT HX tl tz h0 hr c10 c9 c13 c34 c92
                    generalize [92, 117, 123, 49] ++ [hexc d] ++ [125] = X2 at *
                    generalize [92, 117, 123, 49] ++ [hexc d] = X1 at *
                    generalize hexc d = ch at *
                    generalize ((d + 16 : Nat) : Int) = r at *
                    generalize hdd : d + 1 = d1 at *
                    clear hdd
                    go_wp2
                    go_roundw
                    case rel => exact ⟨T, k + 1, by first | rfl | simp, by go_num, by omega, zT, HT, hB⟩
                    case measure => simp [intOf]; omega
                  · by_cases c127 : r = 127
                    · have HX : qr r = [92, 117, 123, 55, 102, 125] := by rw [c127, qr_hex (.inr rfl) (by decide) (by decide) (by decide)]; decide +kernel
                      obtain ⟨T, tl, tz, ta⟩ := cat_sb S [92, 117, 123, 55, 102, 125] (by simp; omega)
                      have zT : T.size ≤ 6 * (k + 1) + 1 := by rw [tz]; simp; omega
                      have HT : Hid (T.data.toList = 34 :: qs (rs.take (k + 1))) := hide (unhide (QT T.data.toList [92, 117, 123, 55, 102, 125]) HX tl)
                      have b127 : (r == 127) = true := by rw [c127]; rfl
                      clear QT HX tl tz c127 h0 hr c10 c9 c13 c34 c92
                      go_wp2
                      go_roundw
                      case rel => exact ⟨T, k + 1, by first | rfl | simp, by go_num, by omega, zT, HT, hB⟩
                      case measure => simp [intOf]; omega
                    · have b127 : (r == 127) = false := beq_false_of_ne c127
                      have HX : qr r = Lib.encodeRune r := qr_plain (by omega) c127 c34 c92
                      have h4 := encodeRune_length r
                      have KC := hide (codeOf_any r wr hr)
                      have i3 : 32 ≤ r := by omega
                      have i4 : r ≤ 1114111 := by omega
                      obtain ⟨T, tl, tz, ta⟩ := cat_sb S (Lib.encodeRune r) (by omega)
                      have zT : T.size ≤ 6 * (k + 1) + 1 := by rw [tz]; omega
                      have HT : Hid (T.data.toList = 34 :: qs (rs.take (k + 1))) := hide (unhide (QT T.data.toList (Lib.encodeRune r)) HX tl)
                      clear QT HX tl tz c127 h0 hr c10 c9 c13 c34 c92 h4
                      generalize Lib.encodeRune r = X at *
                      go_wp2_with fail
                      refine (unhide KC).mono ?_
                      rintro _ w2 ⟨rfl, b2⟩
                      have B2 := hide ((unhide hB).trans (b2.mono (unhide hB).size))
                      clear b2 KC hB
                      go_wp2
                      go_roundw
                      case rel => exact ⟨T, k + 1, by first | rfl | simp, by go_num, by omega, zT, HT, B2⟩
                      case measure => simp [intOf]; omega
    · have hkl : k = rs.length := by omega
      have hS2 := unhide hS
      rw [hkl, List.take_length] at hS2
      obtain ⟨T, tl, tz, ta⟩ := cat_sb S [34] (by simp; omega)
      have HT : Hid ((⟨(quoteL rs).toArray⟩ : ByteArray) = T) := hide (text_of (by rw [tl, hS2]; rfl))
      have i1 : ¬ (k : Int) < (rs.length : Int) := by omega
      clear hS hS2 tl tz hkl
      go_wp2
      go_ret
      rw [unhide HT]
      exact ⟨rfl, (unhide B1).trans ((unhide hB).mono (unhide B1).size)⟩
end Go.Proofs.YtfgmjnfinbmkpaaDoor.escs
