/- The walk of the document's Unquoted. -/
import Derived.Test.YtfgmjnfinbmkpaaDoorEscRefP
set_option linter.unusedVariables false
namespace Go.Proofs.YtfgmjnfinbmkpaaDoor.escs
open Go.RowKit
open utfs
open bigs (ndrop hexv hexd hexd_lt hexW_any u8_eq)

set_option maxHeartbeats 8000000 in
set_option maxRecDepth 100000 in
theorem unquoted_any (w : World) (s : ByteArray) (hs : s.size ≤ 1073741824) (R : Res) (hR : Hid (R = unq s.data.toList)) :
    Calls Tryd.prog 13 #[.string s] w fun e w' => e = .returned (.tuple #[.string ⟨(resT R).toArray⟩, .int .i64 (resN R : Int), .int .i64 (resE R)]) ∧ Below w.heap.size w w' := by
  by_cases h0 : s.size = 0
  · have F : Hid (R = .inl 4) := hide (by rw [unhide hR]; exact unq_front (.inl h0))
    have e0 := emptyYes s h0
    clear hR h0
    go_enter Tryd.func13, Tryd.ntmps13
    go_wp2
    refine bodyPost_ret (v := .tuple #[.string ⟨#[]⟩, .int .i64 0, .int .i64 4]) (by simp [results, Tryd.results13, go_sem]) rfl ?_
    rw [unhide F]
    exact ⟨rfl, Below.refl _ _⟩
  · have hp : 0 < s.size := by omega
    have e0 := emptyNo s hp
    have j0 : (0 : Int) < (s.size : Int) := by omega
    have e34 : s[0]'hp = 34 ↔ (s[0]'hp).toNat = 34 := u8_eq (s[0]'hp) 34 (by decide)
    clear h0
    by_cases c : (s[0]'hp).toNat = 34
    · have HA := hide (at_start hp (e34.2 c))
      have b34 : (((s[0]'hp).toNat : Int) != 34) = false := by rw [show ((s[0]'hp).toNat : Int) = 34 by omega]; rfl
      clear e34 c
      go_enter Tryd.func13, Tryd.ntmps13
      go_wp2_with fail
      go_loopw [5, 6] (fun a b wr => ∃ (S : ByteArray) (k f : Nat) (acc : List Int), a = .string S ∧ b = .int .i64 (k : Int) ∧ 1 ≤ k ∧ k ≤ s.size ∧ s.size + 1 ≤ k + f ∧ S.size ≤ k ∧ Hid (S.data.toList = enc acc) ∧ Hid (At s.data.toList acc k f) ∧ Hid (Below w.heap.size w wr)) (fun _ b _ => s.size - (intOf b).toNat)
      case atStart => exact ⟨⟨#[]⟩, 1, s.size, [], rfl, rfl, by omega, by omega, by omega, Nat.zero_le _, hide rfl, HA, hide (Below.refl _ _)⟩
      case round =>
        obtain ⟨S, k, f', acc, rfl, rfl, k1, ks, kf, hz, hS, hAt, hB⟩ := hrel
        obtain ⟨f, rfl⟩ : ∃ f, f' = f + 1 := ⟨f' - 1, by omega⟩
        clear HA b34 j0 e0
        have hsz := (unhide hB).size
        by_cases ck : k < s.size
        · have i1 : ¬ (k : Int) ≥ (s.size : Int) := by omega
          have s0 : (0 : Int) ≤ (k : Int) := by omega
          have s1 : (k : Int) ≤ (s.size : Int) := by omega
          have s2 : (k : Int) < (s.size : Int) := by omega
          have u := UInt8.toNat_lt (s[k]'ck)
          have e10 : s[k]'ck = 10 ↔ (s[k]'ck).toNat = 10 := u8_eq (s[k]'ck) 10 (by decide)
          have e34 : s[k]'ck = 34 ↔ (s[k]'ck).toNat = 34 := u8_eq (s[k]'ck) 34 (by decide)
          have e92 : s[k]'ck = 92 ↔ (s[k]'ck).toNat = 92 := u8_eq (s[k]'ck) 92 (by decide)
          by_cases c10 : (s[k]'ck).toNat = 10
          · have F : Hid (R = .inl 4) := hide (by rw [unhide hR]; exact at_fails ck (unhide hAt) (fun h => by have := e34.1 h; omega) (by rw [ndrop s k ck, nextQ_line (e10.2 c10)]))
            have b10 : (((s[k]'ck).toNat : Int) == 10) = true := by rw [show ((s[k]'ck).toNat : Int) = 10 by omega]; rfl
            clear hR hAt hS e10 e34 e92 c10
            go_wp2
            refine bodyPost_ret (v := .tuple #[.string ⟨#[]⟩, .int .i64 0, .int .i64 4]) (by simp [results, Tryd.results13, go_sem]) rfl ?_
            rw [unhide F]
            exact ⟨rfl, unhide hB⟩
          · have b10 : (((s[k]'ck).toNat : Int) == 10) = false := beq_false_of_ne (by omega)
            by_cases c34 : (s[k]'ck).toNat = 34
            · have F : Hid (R = .inr (acc, (k + 1))) := hide (by rw [unhide hR]; exact at_stop ck (unhide hAt) (e34.2 c34))
              have b34 : (((s[k]'ck).toNat : Int) == 34) = true := by rw [show ((s[k]'ck).toNat : Int) = 34 by omega]; rfl
              have ES : Hid ((⟨(enc acc).toArray⟩ : ByteArray) = S) := hide (text_of (unhide hS))
              clear hR hAt hS e10 e34 e92 c10 c34
              go_wp2
              refine bodyPost_ret (v := .tuple #[.string S, .int .i64 ((k + 1 : Nat) : Int), .int .i64 0]) (by simp [results, Tryd.results13, go_sem] <;> omega) rfl ?_
              rw [unhide F]
              simp only [resT, resN, resE]
              rw [unhide ES]
              exact ⟨rfl, unhide hB⟩
            · have b34 : (((s[k]'ck).toNat : Int) == 34) = false := beq_false_of_ne (by omega)
              have n34 : s[k]'ck ≠ 34 := fun h => c34 (e34.1 h)
              have AM := fun r n => hide (at_more (r := r) (n := n) ck (unhide hAt) n34)
              have AF := fun e => hide (at_fails (e := e) ck (unhide hAt) n34)
              have hne : s.data.toList.drop k ≠ [] := by rw [ndrop s k ck]; simp
              have SF := fun r n => hide (says_front (r := r) (m := n) hne)
              by_cases c92 : (s[k]'ck).toNat = 92
              · have b92 : (((s[k]'ck).toNat : Int) != 92) = false := by rw [show ((s[k]'ck).toNat : Int) = 92 by omega]; rfl
                have NE := next_esc ck (e92.2 c92)
                rw [NE] at AM AF SF
                clear NE e10 e34 e92 c10 c34 c92 n34 hne hAt
                have y1 : IntKind.i64.wrap ((k : Int) + 1) = ((k + 1 : Nat) : Int) := by simp [IntKind.wrap, IntKind.bits, IntKind.signed]; omega
                have y2 : IntKind.i64.wrap (((k + 1 : Nat) : Int) + 1) = ((k + 2 : Nat) : Int) := by simp [IntKind.wrap, IntKind.bits, IntKind.signed]; omega
                by_cases cl : k + 1 < s.size
                · have i2 : ¬ ((k + 1 : Nat) : Int) ≥ (s.size : Int) := by omega
                  have q0 : (0 : Int) ≤ ((k + 1 : Nat) : Int) := by omega
                  have q1 : ((k + 1 : Nat) : Int) ≤ ((k + 2 : Nat) : Int) := by omega
                  have q2 : ((k + 2 : Nat) : Int) ≤ (s.size : Int) := by omega
                  have q3 : ((k + 1 : Nat) : Int) < (s.size : Int) := by omega
                  have e34 : s[k + 1]'cl = 34 ↔ (s[k + 1]'cl).toNat = 34 := u8_eq (s[k + 1]'cl) 34 (by decide)
                  have e92 : s[k + 1]'cl = 92 ↔ (s[k + 1]'cl).toNat = 92 := u8_eq (s[k + 1]'cl) 92 (by decide)
                  have e47 : s[k + 1]'cl = 47 ↔ (s[k + 1]'cl).toNat = 47 := u8_eq (s[k + 1]'cl) 47 (by decide)
                  have e110 : s[k + 1]'cl = 110 ↔ (s[k + 1]'cl).toNat = 110 := u8_eq (s[k + 1]'cl) 110 (by decide)
                  have e116 : s[k + 1]'cl = 116 ↔ (s[k + 1]'cl).toNat = 116 := u8_eq (s[k + 1]'cl) 116 (by decide)
                  have e114 : s[k + 1]'cl = 114 ↔ (s[k + 1]'cl).toNat = 114 := u8_eq (s[k + 1]'cl) 114 (by decide)
                  have e117 : s[k + 1]'cl = 117 ↔ (s[k + 1]'cl).toNat = 117 := u8_eq (s[k + 1]'cl) 117 (by decide)
                  by_cases d34 : (s[k + 1]'cl).toNat = 34
                  · have hn := escQ_self cl (.inl (e34.2 d34))
                    obtain ⟨T, tl, tz, ta⟩ := cat_bb S (s.extract (k + 1) (k + 2)) (by rw [ext_size s (by omega)]; omega)
                    rw [ext_size s (by omega)] at tz
                    have sl := slice_of s (k + 1) (k + 2) ((k : Int) + 1) ((k : Int) + 1 + 1) (by omega) (by omega) (by omega) (by omega)
                    have HT : Hid (T.data.toList = enc (acc ++ [((s[k + 1]'cl).toNat : Int)])) := hide (enc_more (unhide hS) (by rw [tl, ext_one cl]) (enc_byte (by omega)))
                    have A2 := hide (unhide (AM _ _) hn)
                    have zT : T.size ≤ k + 2 := by omega
                    have b34' : (((s[k + 1]'cl).toNat : Int) == 34) = true := by rw [show ((s[k + 1]'cl).toNat : Int) = 34 by omega]; rfl
                    clear AM AF SF hn hS hR tl tz e34 e92 e47 e110 e116 e114 e117 d34
                    go_wp2
                    go_roundw
                    case rel => exact ⟨T, k + 2, f, acc ++ [((s[k + 1]'cl).toNat : Int)], by first | rfl | simp, by first | rfl | go_num, by omega, by omega, by omega, zT, HT, A2, hB⟩
                    case measure => simp [intOf]; omega
                  · skip
                    by_cases d92 : (s[k + 1]'cl).toNat = 92
                    · have hn := escQ_self cl (.inr (.inl (e92.2 d92)))
                      obtain ⟨T, tl, tz, ta⟩ := cat_bb S (s.extract (k + 1) (k + 2)) (by rw [ext_size s (by omega)]; omega)
                      rw [ext_size s (by omega)] at tz
                      have sl := slice_of s (k + 1) (k + 2) ((k : Int) + 1) ((k : Int) + 1 + 1) (by omega) (by omega) (by omega) (by omega)
                      have HT : Hid (T.data.toList = enc (acc ++ [((s[k + 1]'cl).toNat : Int)])) := hide (enc_more (unhide hS) (by rw [tl, ext_one cl]) (enc_byte (by omega)))
                      have A2 := hide (unhide (AM _ _) hn)
                      have zT : T.size ≤ k + 2 := by omega
                      have b34' : (((s[k + 1]'cl).toNat : Int) == 34) = false := beq_false_of_ne (by omega)
                      have b92' : (((s[k + 1]'cl).toNat : Int) == 92) = true := by rw [show ((s[k + 1]'cl).toNat : Int) = 92 by omega]; rfl
                      clear AM AF SF hn hS hR tl tz e34 e92 e47 e110 e116 e114 e117 d34 d92
                      go_wp2
                      go_roundw
                      case rel => exact ⟨T, k + 2, f, acc ++ [((s[k + 1]'cl).toNat : Int)], by first | rfl | simp, by first | rfl | go_num, by omega, by omega, by omega, zT, HT, A2, hB⟩
                      case measure => simp [intOf]; omega
                    · skip
                      by_cases d47 : (s[k + 1]'cl).toNat = 47
                      · have hn := escQ_self cl (.inr (.inr (e47.2 d47)))
                        obtain ⟨T, tl, tz, ta⟩ := cat_bb S (s.extract (k + 1) (k + 2)) (by rw [ext_size s (by omega)]; omega)
                        rw [ext_size s (by omega)] at tz
                        have sl := slice_of s (k + 1) (k + 2) ((k : Int) + 1) ((k : Int) + 1 + 1) (by omega) (by omega) (by omega) (by omega)
                        have HT : Hid (T.data.toList = enc (acc ++ [((s[k + 1]'cl).toNat : Int)])) := hide (enc_more (unhide hS) (by rw [tl, ext_one cl]) (enc_byte (by omega)))
                        have A2 := hide (unhide (AM _ _) hn)
                        have zT : T.size ≤ k + 2 := by omega
                        have b34' : (((s[k + 1]'cl).toNat : Int) == 34) = false := beq_false_of_ne (by omega)
                        have b92' : (((s[k + 1]'cl).toNat : Int) == 92) = false := beq_false_of_ne (by omega)
                        have b47' : (((s[k + 1]'cl).toNat : Int) == 47) = true := by rw [show ((s[k + 1]'cl).toNat : Int) = 47 by omega]; rfl
                        clear AM AF SF hn hS hR tl tz e34 e92 e47 e110 e116 e114 e117 d34 d92 d47
                        go_wp2
                        go_roundw
                        case rel => exact ⟨T, k + 2, f, acc ++ [((s[k + 1]'cl).toNat : Int)], by first | rfl | simp, by first | rfl | go_num, by omega, by omega, by omega, zT, HT, A2, hB⟩
                        case measure => simp [intOf]; omega
                      · skip
                        by_cases d110 : (s[k + 1]'cl).toNat = 110
                        · have hn := escQ_n cl (e110.2 d110)
                          obtain ⟨T, tl, tz, ta⟩ := cat_sb S [10] (by simp; omega)
                          rw [show ([10] : List UInt8).length = 1 from rfl] at tz
                          have HT : Hid (T.data.toList = enc (acc ++ [10])) := hide (enc_more (unhide hS) tl rfl)
                          have A2 := hide (unhide (AM _ _) hn)
                          have zT : T.size ≤ k + 2 := by omega
                          have b34' : (((s[k + 1]'cl).toNat : Int) == 34) = false := beq_false_of_ne (by omega)
                          have b92' : (((s[k + 1]'cl).toNat : Int) == 92) = false := beq_false_of_ne (by omega)
                          have b47' : (((s[k + 1]'cl).toNat : Int) == 47) = false := beq_false_of_ne (by omega)
                          have b110' : (((s[k + 1]'cl).toNat : Int) == 110) = true := by rw [show ((s[k + 1]'cl).toNat : Int) = 110 by omega]; rfl
                          clear AM AF SF hn hS hR tl tz e34 e92 e47 e110 e116 e114 e117 d34 d92 d47 d110
                          go_wp2
                          go_roundw
                          case rel => exact ⟨T, k + 2, f, acc ++ [10], by first | rfl | simp, by first | rfl | go_num, by omega, by omega, by omega, zT, HT, A2, hB⟩
                          case measure => simp [intOf]; omega
                        · skip
                          by_cases d116 : (s[k + 1]'cl).toNat = 116
                          · have hn := escQ_t cl (e116.2 d116)
                            obtain ⟨T, tl, tz, ta⟩ := cat_sb S [9] (by simp; omega)
                            rw [show ([9] : List UInt8).length = 1 from rfl] at tz
                            have HT : Hid (T.data.toList = enc (acc ++ [9])) := hide (enc_more (unhide hS) tl rfl)
                            have A2 := hide (unhide (AM _ _) hn)
                            have zT : T.size ≤ k + 2 := by omega
                            have b34' : (((s[k + 1]'cl).toNat : Int) == 34) = false := beq_false_of_ne (by omega)
                            have b92' : (((s[k + 1]'cl).toNat : Int) == 92) = false := beq_false_of_ne (by omega)
                            have b47' : (((s[k + 1]'cl).toNat : Int) == 47) = false := beq_false_of_ne (by omega)
                            have b110' : (((s[k + 1]'cl).toNat : Int) == 110) = false := beq_false_of_ne (by omega)
                            have b116' : (((s[k + 1]'cl).toNat : Int) == 116) = true := by rw [show ((s[k + 1]'cl).toNat : Int) = 116 by omega]; rfl
                            clear AM AF SF hn hS hR tl tz e34 e92 e47 e110 e116 e114 e117 d34 d92 d47 d110 d116
                            go_wp2
                            go_roundw
                            case rel => exact ⟨T, k + 2, f, acc ++ [9], by first | rfl | simp, by first | rfl | go_num, by omega, by omega, by omega, zT, HT, A2, hB⟩
                            case measure => simp [intOf]; omega
                          · skip
                            by_cases d114 : (s[k + 1]'cl).toNat = 114
                            · have hn := escQ_r cl (e114.2 d114)
                              obtain ⟨T, tl, tz, ta⟩ := cat_sb S [13] (by simp; omega)
                              rw [show ([13] : List UInt8).length = 1 from rfl] at tz
                              have HT : Hid (T.data.toList = enc (acc ++ [13])) := hide (enc_more (unhide hS) tl rfl)
                              have A2 := hide (unhide (AM _ _) hn)
                              have zT : T.size ≤ k + 2 := by omega
                              have b34' : (((s[k + 1]'cl).toNat : Int) == 34) = false := beq_false_of_ne (by omega)
                              have b92' : (((s[k + 1]'cl).toNat : Int) == 92) = false := beq_false_of_ne (by omega)
                              have b47' : (((s[k + 1]'cl).toNat : Int) == 47) = false := beq_false_of_ne (by omega)
                              have b110' : (((s[k + 1]'cl).toNat : Int) == 110) = false := beq_false_of_ne (by omega)
                              have b116' : (((s[k + 1]'cl).toNat : Int) == 116) = false := beq_false_of_ne (by omega)
                              have b114' : (((s[k + 1]'cl).toNat : Int) == 114) = true := by rw [show ((s[k + 1]'cl).toNat : Int) = 114 by omega]; rfl
                              clear AM AF SF hn hS hR tl tz e34 e92 e47 e110 e116 e114 e117 d34 d92 d47 d110 d116 d114
                              go_wp2
                              go_roundw
                              case rel => exact ⟨T, k + 2, f, acc ++ [13], by first | rfl | simp, by first | rfl | go_num, by omega, by omega, by omega, zT, HT, A2, hB⟩
                              case measure => simp [intOf]; omega
                            · skip
                              by_cases d117 : (s[k + 1]'cl).toNat = 117
                              · have y3 : IntKind.i64.wrap (((k + 2 : Nat) : Int) + 1) = ((k + 3 : Nat) : Int) := by simp [IntKind.wrap, IntKind.bits, IntKind.signed]; omega
                                have b34' : (((s[k + 1]'cl).toNat : Int) == 34) = false := beq_false_of_ne (by omega)
                                have b92' : (((s[k + 1]'cl).toNat : Int) == 92) = false := beq_false_of_ne (by omega)
                                have b47' : (((s[k + 1]'cl).toNat : Int) == 47) = false := beq_false_of_ne (by omega)
                                have b110' : (((s[k + 1]'cl).toNat : Int) == 110) = false := beq_false_of_ne (by omega)
                                have b116' : (((s[k + 1]'cl).toNat : Int) == 116) = false := beq_false_of_ne (by omega)
                                have b114' : (((s[k + 1]'cl).toNat : Int) == 114) = false := beq_false_of_ne (by omega)
                                have b117' : (((s[k + 1]'cl).toNat : Int) == 117) = true := by rw [show ((s[k + 1]'cl).toNat : Int) = 117 by omega]; rfl
                                have c117 := e117.2 d117
                                clear e34 e92 e47 e110 e116 e114 e117 d34 d92 d47 d110 d116 d114 d117
                                by_cases cm : k + 2 < s.size
                                · have i3 : ¬ ((k + 2 : Nat) : Int) ≥ (s.size : Int) := by omega
                                  have q4 : (0 : Int) ≤ ((k + 2 : Nat) : Int) := by omega
                                  have q5 : ((k + 2 : Nat) : Int) < (s.size : Int) := by omega
                                  have e123 : s[k + 2]'cm = 123 ↔ (s[k + 2]'cm).toNat = 123 := u8_eq (s[k + 2]'cm) 123 (by decide)
                                  by_cases d123 : (s[k + 2]'cm).toNat = 123
                                  · have b123 : (((s[k + 2]'cm).toNat : Int) != 123) = false := by rw [show ((s[k + 2]'cm).toNat : Int) = 123 by omega]; rfl
                                    have NQ := escQ_num cl c117 cm (e123.2 d123)
                                    rw [NQ] at AM AF SF
                                    clear NQ c117 e123 d123
                                    have KD : ∀ (c : UInt8) (W : World), Hid (Calls Tryd.prog 27 #[.int .u8 (c.toNat : Int)] W fun e w' => e = .returned (.int .i64 ((hexd c : Nat) : Int)) ∧ w' = W) := fun c W => hide (hexW_any W c)
                                    go_wp2_with fail
                                    clear b10 b34 b92 y1 y2 y3 u
                                    go_loopw [6, 9, 10] (fun i n m wr2 => ∃ v j p : Nat, i = .int .i64 (p : Int) ∧ n = .int .i64 (v : Int) ∧ m = .int .i64 (j : Int) ∧ Hid (p = k + 3 + j) ∧ k + 3 ≤ p ∧ j ≤ 7 ∧ p ≤ s.size ∧ Hid (v < 16 ^ j) ∧ Hid (Up7 s.data.toList (k + 3) v j) ∧ Hid (Below w.heap.size w wr2)) (fun i _ _ _ => s.size - (intOf i).toNat)
                                    case atStart => exact ⟨0, 0, k + 3, by first | rfl | (simp; omega) | go_num, by first | rfl | simp, by first | rfl | simp, hide rfl, by omega, by omega, by omega, hide (by decide), hide (up7_start _ _), hB⟩
                                    case round =>
                                      obtain ⟨v, j, p, rfl, rfl, rfl, hp3, kp, j7, ps, hv, hU, hB2⟩ := hrel
                                      clear hB
                                      have hsz2 := (unhide hB2).size
                                      have vb : v < 268435456 := Nat.lt_of_lt_of_le (unhide hv) (Nat.pow_le_pow_right (by decide) j7)
                                      by_cases cp : p < s.size
                                      · have i1 : (p : Int) < (s.size : Int) := by omega
                                        have s0 : (0 : Int) ≤ (p : Int) := by omega
                                        have KC := KD (s[p]'cp)
                                        by_cases cx : hexv (s[p]'cp) < 16
                                        · have hd := hexd_digit cx
                                          rw [hd] at KC
                                          have i2 : ((hexv (s[p]'cp) : Nat) : Int) < 16 := by omega
                                          by_cases c7 : j < 7
                                          · have i3 : (j : Int) < 7 := by omega
                                            have U2 := hide (up7_next (unhide hp3) cp c7 (unhide hU) cx)
                                            have V2 : Hid (v * 16 + hexv (s[p]'cp) < 16 ^ (j + 1)) := hide (by have := unhide hv; rw [Nat.pow_succ]; omega)
                                            have P2 : Hid (p + 1 = k + 3 + (j + 1)) := hide (by have := unhide hp3; omega)
                                            have MJ : Hid (p < s.size) := hide cp
                                            clear hd AM AF SF hS hR hU hv KD
                                            generalize hexv (s[p]'cp) = d at *
                                            go_wp2_with fail
                                            refine (unhide (KC _)).mono ?_
                                            rintro _ w2 ⟨rfl, hw⟩
                                            rw [hw]
                                            clear hw
                                            go_wp2_with fail
                                            refine (unhide (KC _)).mono ?_
                                            rintro _ w2 ⟨rfl, hw⟩
                                            rw [hw]
                                            clear hw
                                            go_wp2
                                            go_roundw
                                            case rel => exact ⟨v * 16 + d, j + 1, p + 1, by first | rfl | go_num, by first | rfl | go_num, by first | rfl | go_num, P2, by omega, by omega, by omega, V2, U2, hB2⟩
                                            case measure => have := unhide MJ; simp [intOf]; omega
                                          · have i3 : ¬ (j : Int) < 7 := by omega
                                            have t3 : decide ((j : Int) < 7) = false := decide_eq_false i3
                                            have F : Hid (R = .inl 4) := hide (by rw [unhide hR]; exact unhide (AF _) (num7_over (up7_end (unhide hp3) (unhide hU) (.inr (.inl c7))) (by omega)))
                                            have g1 : ¬ (j : Int) < 1 := by omega
                                            have g2 : (j : Int) > 6 := by omega
                                            clear hd AM AF SF hS hR hU hv KD
                                            generalize hexv (s[p]'cp) = d at *
                                            go_wp2_with fail
                                            refine (unhide (KC _)).mono ?_
                                            rintro _ w2 ⟨rfl, hw⟩
                                            rw [hw]
                                            clear hw KC
                                            skip
                                            go_wp2
                                            refine bodyPost_ret (v := .tuple #[.string ⟨#[]⟩, .int .i64 0, .int .i64 4]) (by simp [results, Tryd.results13, go_sem]) rfl ?_
                                            rw [unhide F]
                                            exact ⟨rfl, unhide hB2⟩
                                        · have hd := hexd_none cx
                                          rw [hd] at KC
                                          have hF := up7_end (unhide hp3) (unhide hU) (.inr (.inr ⟨cp, cx⟩))
                                          clear hd KD hU hv
                                          by_cases cj : j < 1
                                          · have g1 : (j : Int) < 1 := by omega
                                            have F : Hid (R = .inl 4) := hide (by rw [unhide hR]; exact unhide (AF _) (num7_none (v := v) (by rw [hF, show j = 0 by omega])))
                                            clear AM AF SF hS hR hF
                                            go_wp2_with fail
                                            refine (unhide (KC _)).mono ?_
                                            rintro _ w2 ⟨rfl, hw⟩
                                            rw [hw]
                                            clear hw KC
                                            skip
                                            go_wp2
                                            refine bodyPost_ret (v := .tuple #[.string ⟨#[]⟩, .int .i64 0, .int .i64 4]) (by simp [results, Tryd.results13, go_sem]) rfl ?_
                                            rw [unhide F]
                                            exact ⟨rfl, unhide hB2⟩
                                          · have g1 : ¬ (j : Int) < 1 := by omega
                                            by_cases cg : 6 < j
                                            · have g2 : (j : Int) > 6 := by omega
                                              have F : Hid (R = .inl 4) := hide (by rw [unhide hR]; exact unhide (AF _) (num7_over hF cg))
                                              clear AM AF SF hS hR hF
                                              go_wp2_with fail
                                              refine (unhide (KC _)).mono ?_
                                              rintro _ w2 ⟨rfl, hw⟩
                                              rw [hw]
                                              clear hw KC
                                              skip
                                              go_wp2
                                              refine bodyPost_ret (v := .tuple #[.string ⟨#[]⟩, .int .i64 0, .int .i64 4]) (by simp [results, Tryd.results13, go_sem]) rfl ?_
                                              rw [unhide F]
                                              exact ⟨rfl, unhide hB2⟩
                                            · have g2 : ¬ (j : Int) > 6 := by omega
                                              have g3 : ¬ (p : Int) ≥ (s.size : Int) := by omega
                                              have hh := drop_head cp
                                              have hdd : (s.data.toList.drop (k + 3)).drop j = s.data.toList.drop p := by rw [List.drop_drop, unhide hp3]
                                              have e125 : s[p]'cp = 125 ↔ (s[p]'cp).toNat = 125 := u8_eq (s[p]'cp) 125 (by decide)
                                              by_cases c125 : (s[p]'cp).toNat = 125
                                              · have b125 : (((s[p]'cp).toNat : Int) != 125) = false := by rw [show ((s[p]'cp).toNat : Int) = 125 by omega]; rfl
                                                have NQ := num7_shut hF (by omega) (by omega) (by rw [hdd, hh, e125.2 c125])
                                                have KS := fun W => hide (scalar_any (v : Int) W)
                                                have i5 : ((v : Nat) : Int) ≤ 268435456 := by omega
                                                cases hsc : sc (v : Int) with
                                                | true =>
                                                  rw [hsc, if_pos rfl] at NQ
                                                  rw [hsc] at KS
                                                  have A2 := unhide (AM _ _) NQ
                                                  rw [show k + (j + 4) = p + 1 by have := unhide hp3; omega] at A2
                                                  have A2 := hide A2
                                                  have KO := fun W => hide (codeOf_any (v : Int) W hsc)
                                                  have h4 := encodeRune_length (v : Int)
                                                  obtain ⟨T, tl, tz, ta⟩ := cat_sb S (Lib.encodeRune (v : Int)) (by omega)
                                                  have HT : Hid (T.data.toList = enc (acc ++ [(v : Int)])) := hide (enc_more (unhide hS) tl rfl)
                                                  have zT : T.size ≤ p + 1 := by have := unhide hp3; omega
                                                  clear AM AF SF hS hR hF NQ hsc tl tz h4 e125 c125 hh hdd
                                                  generalize Lib.encodeRune (v : Int) = X at *
                                                  go_wp2_with fail
                                                  refine (unhide (KC _)).mono ?_
                                                  rintro _ w2 ⟨rfl, hw⟩
                                                  rw [hw]
                                                  clear hw KC
                                                  go_wp2_with fail
                                                  refine (unhide (KS _)).mono ?_
                                                  rintro _ w2 ⟨rfl, hw⟩
                                                  rw [hw]
                                                  clear hw KS
                                                  go_wp2_with fail
                                                  refine (unhide (KO _)).mono ?_
                                                  rintro _ w2 ⟨rfl, b2⟩
                                                  have B2 := hide ((unhide hB2).trans (b2.mono hsz2))
                                                  clear b2 KO hB2
                                                  go_wp2
                                                  go_roundw
                                                  case rel => exact ⟨T, p + 1, f, acc ++ [(v : Int)], by first | rfl | simp, by first | rfl | go_num, by omega, by omega, by omega, zT, HT, A2, B2⟩
                                                  case measure => simp [intOf]; omega
                                                | false =>
                                                  rw [hsc, if_neg (by decide)] at NQ
                                                  rw [hsc] at KS
                                                  have F : Hid (R = .inl 3) := hide (by rw [unhide hR]; exact unhide (AF _) NQ)
                                                  clear AM AF SF hS hR hF NQ hsc e125 c125 hh hdd
                                                  go_wp2_with fail
                                                  refine (unhide (KC _)).mono ?_
                                                  rintro _ w2 ⟨rfl, hw⟩
                                                  rw [hw]
                                                  clear hw KC
                                                  go_wp2_with fail
                                                  refine (unhide (KS _)).mono ?_
                                                  rintro _ w2 ⟨rfl, hw⟩
                                                  rw [hw]
                                                  clear hw KS
                                                  skip
                                                  go_wp2
                                                  refine bodyPost_ret (v := .tuple #[.string ⟨#[]⟩, .int .i64 0, .int .i64 3]) (by simp [results, Tryd.results13, go_sem]) rfl ?_
                                                  rw [unhide F]
                                                  exact ⟨rfl, unhide hB2⟩
                                              · have b125 : (((s[p]'cp).toNat : Int) != 125) = true := by simp only [bne_iff_ne]; omega
                                                have F : Hid (R = .inl 4) := hide (by rw [unhide hR]; exact unhide (AF _) (num7_open hF (by omega) (by rw [hdd, hh]; intro h; injection h with h; exact c125 (e125.1 h))))
                                                clear AM AF SF hS hR hF e125 c125 hh hdd
                                                go_wp2_with fail
                                                refine (unhide (KC _)).mono ?_
                                                rintro _ w2 ⟨rfl, hw⟩
                                                rw [hw]
                                                clear hw KC
                                                skip
                                                go_wp2
                                                refine bodyPost_ret (v := .tuple #[.string ⟨#[]⟩, .int .i64 0, .int .i64 4]) (by simp [results, Tryd.results13, go_sem]) rfl ?_
                                                rw [unhide F]
                                                exact ⟨rfl, unhide hB2⟩
                                      · have i1 : ¬ (p : Int) < (s.size : Int) := by omega
                                        have t1 : decide ((p : Int) < (s.size : Int)) = false := decide_eq_false i1
                                        have hF := up7_end (unhide hp3) (unhide hU) (.inl cp)
                                        have hdd : (s.data.toList.drop (k + 3)).drop j = s.data.toList.drop p := by rw [List.drop_drop, unhide hp3]
                                        have F : Hid (R = .inl 4) := hide (by
                                          rw [unhide hR]
                                          by_cases cj : j = 0
                                          · exact unhide (AF _) (num7_none (v := v) (by rw [hF, cj]))
                                          · by_cases cg : 6 < j
                                            · exact unhide (AF _) (num7_over hF cg)
                                            · exact unhide (AF _) (num7_open hF (by omega) (by rw [hdd, drop_none cp]; simp)))
                                        clear AM AF SF hS hR hF hU hv KD hdd
                                        by_cases cj : j < 1
                                        · have g1 : (j : Int) < 1 := by omega
                                          skip
                                          go_wp2
                                          refine bodyPost_ret (v := .tuple #[.string ⟨#[]⟩, .int .i64 0, .int .i64 4]) (by simp [results, Tryd.results13, go_sem]) rfl ?_
                                          rw [unhide F]
                                          exact ⟨rfl, unhide hB2⟩
                                        · have g1 : ¬ (j : Int) < 1 := by omega
                                          by_cases cg : 6 < j
                                          · have g2 : (j : Int) > 6 := by omega
                                            skip
                                            go_wp2
                                            refine bodyPost_ret (v := .tuple #[.string ⟨#[]⟩, .int .i64 0, .int .i64 4]) (by simp [results, Tryd.results13, go_sem]) rfl ?_
                                            rw [unhide F]
                                            exact ⟨rfl, unhide hB2⟩
                                          · have g2 : ¬ (j : Int) > 6 := by omega
                                            have g3 : (p : Int) ≥ (s.size : Int) := by omega
                                            skip
                                            go_wp2
                                            refine bodyPost_ret (v := .tuple #[.string ⟨#[]⟩, .int .i64 0, .int .i64 4]) (by simp [results, Tryd.results13, go_sem]) rfl ?_
                                            rw [unhide F]
                                            exact ⟨rfl, unhide hB2⟩
                                  · have b123 : (((s[k + 2]'cm).toNat : Int) != 123) = true := by simp only [bne_iff_ne]; omega
                                    have F : Hid (R = .inl 4) := hide (by rw [unhide hR]; exact unhide (AF _) (escQ_u cl c117 (by rw [drop_head cm]; intro h; injection h with h; exact d123 (e123.1 h))))
                                    clear AM AF SF hR hS e123 d123 c117
                                    go_wp2
                                    refine bodyPost_ret (v := .tuple #[.string ⟨#[]⟩, .int .i64 0, .int .i64 4]) (by simp [results, Tryd.results13, go_sem]) rfl ?_
                                    rw [unhide F]
                                    exact ⟨rfl, unhide hB⟩
                                · have i3 : ((k + 2 : Nat) : Int) ≥ (s.size : Int) := by omega
                                  have F : Hid (R = .inl 4) := hide (by rw [unhide hR]; exact unhide (AF _) (escQ_u cl c117 (by rw [drop_none cm]; simp)))
                                  clear AM AF SF hR hS c117
                                  go_wp2
                                  refine bodyPost_ret (v := .tuple #[.string ⟨#[]⟩, .int .i64 0, .int .i64 4]) (by simp [results, Tryd.results13, go_sem]) rfl ?_
                                  rw [unhide F]
                                  exact ⟨rfl, unhide hB⟩
                              · have F : Hid (R = .inl 4) := hide (by rw [unhide hR]; exact unhide (AF _) (escQ_else cl (fun h => d34 (e34.1 h)) (fun h => d92 (e92.1 h)) (fun h => d47 (e47.1 h)) (fun h => d110 (e110.1 h)) (fun h => d116 (e116.1 h)) (fun h => d114 (e114.1 h)) (fun h => d117 (e117.1 h))))
                                have b34' : (((s[k + 1]'cl).toNat : Int) == 34) = false := beq_false_of_ne (by omega)
                                have b92' : (((s[k + 1]'cl).toNat : Int) == 92) = false := beq_false_of_ne (by omega)
                                have b47' : (((s[k + 1]'cl).toNat : Int) == 47) = false := beq_false_of_ne (by omega)
                                have b110' : (((s[k + 1]'cl).toNat : Int) == 110) = false := beq_false_of_ne (by omega)
                                have b116' : (((s[k + 1]'cl).toNat : Int) == 116) = false := beq_false_of_ne (by omega)
                                have b114' : (((s[k + 1]'cl).toNat : Int) == 114) = false := beq_false_of_ne (by omega)
                                have b117' : (((s[k + 1]'cl).toNat : Int) == 117) = false := beq_false_of_ne (by omega)
                                clear AM AF SF hR hS e34 e92 e47 e110 e116 e114 e117 d34 d92 d47 d110 d116 d114 d117
                                go_wp2
                                refine bodyPost_ret (v := .tuple #[.string ⟨#[]⟩, .int .i64 0, .int .i64 4]) (by simp [results, Tryd.results13, go_sem]) rfl ?_
                                rw [unhide F]
                                exact ⟨rfl, unhide hB⟩
                · have i2 : ((k + 1 : Nat) : Int) ≥ (s.size : Int) := by omega
                  have F : Hid (R = .inl 4) := hide (by rw [unhide hR]; exact unhide (AF _) (escQ_end cl))
                  clear AM AF SF hR hS
                  go_wp2
                  refine bodyPost_ret (v := .tuple #[.string ⟨#[]⟩, .int .i64 0, .int .i64 4]) (by simp [results, Tryd.results13, go_sem]) rfl ?_
                  rw [unhide F]
                  exact ⟨rfl, unhide hB⟩
              · have b92 : (((s[k]'ck).toNat : Int) != 92) = true := by simp only [bne_iff_ne]; omega
                have NE := nextQ_else (c := s[k]'ck) (t := s.data.toList.drop (k + 1)) (fun h => c10 (e10.1 h)) (fun h => c92 (e92.1 h))
                rw [← ndrop s k ck] at NE
                have KC := code_any (s.extract k s.size) wr (by rw [ext_size s (Nat.le_refl _)]; omega)
                rw [ext_drop] at KC
                have KC := hide KC
                have hneg := nextR_neg hne
                have hRR : nextR (s.data.toList.drop k) = if badB (s.data.toList.drop k) = true then -1 else ((Lib.decodeL (s.data.toList.drop k)).1 : Int) := by unfold nextR; rw [if_neg hne]
                have hNN : nextN (s.data.toList.drop k) = (Lib.decodeL (s.data.toList.drop k)).2 := by unfold nextN; rw [if_neg hne]
                cases hb : badB (s.data.toList.drop k) with
                | true =>
                  rw [hb, if_pos rfl] at NE
                  have F : Hid (R = .inl 3) := hide (by rw [unhide hR]; exact unhide (AF _) NE)
                  rw [hb] at hneg
                  have r0 : nextR (s.data.toList.drop k) < 0 := hneg.2 rfl
                  clear hneg hRR hNN NE AM AF SF hb hR hS e10 e34 e92 c10 c34 c92 n34 hne hAt
                  generalize nextR (s.data.toList.drop k) = r at *
                  generalize nextN (s.data.toList.drop k) = n at *
                  go_wp2_with fail
                  refine (unhide KC).mono ?_
                  rintro _ w2 ⟨rfl, b2⟩
                  have B2 := hide ((unhide hB).trans (b2.mono hsz))
                  clear b2 KC hB
                  skip
                  go_wp2
                  refine bodyPost_ret (v := .tuple #[.string ⟨#[]⟩, .int .i64 0, .int .i64 3]) (by simp [results, Tryd.results13, go_sem]) rfl ?_
                  rw [unhide F]
                  exact ⟨rfl, unhide B2⟩
                | false =>
                  rw [hb, if_neg (by decide)] at NE hRR
                  rw [← hRR, ← hNN] at NE
                  have A2 := unhide (AM _ _) NE
                  obtain ⟨n1, n2, hsc, n4, _⟩ := unhide (SF _ _) NE
                  rw [List.length_drop, len_list] at n2
                  rw [hb] at hneg
                  have r0 : ¬ nextR (s.data.toList.drop k) < 0 := fun h => by have := hneg.1 h; cases this
                  have hx : (s.extract k (k + nextN (s.data.toList.drop k))).data.toList = Lib.encodeRune (nextR (s.data.toList.drop k)) := by
                    obtain ⟨q, rest, hq, eq, ed⟩ := badB_false hne hb
                    have hq0 := sc_true hq
                    rw [hRR, hNN, ed, ext_mid, eq]
                    simp only
                    rw [show ((q.toNat : Nat) : Int) = q by omega, show k + (Lib.encodeRune q).length - k = (Lib.encodeRune q).length by omega, List.take_left' rfl]
                  have A2 := hide A2
                  clear hneg hRR hNN NE AM AF SF hb hR e10 e34 e92 c10 c34 c92 n34 hne hAt n4 hsc
                  generalize nextR (s.data.toList.drop k) = r at *
                  generalize nextN (s.data.toList.drop k) = n at *
                  obtain ⟨T, tl, tz, ta⟩ := cat_bb S (s.extract k (k + n)) (by rw [ext_size s (by omega)]; omega)
                  rw [ext_size s (by omega)] at tz
                  have HT : Hid (T.data.toList = enc (acc ++ [r])) := hide (enc_more (unhide hS) (by rw [tl, hx]) rfl)
                  have zT : T.size ≤ k + n := by omega
                  have sl := slice_of s k (k + n) (k : Int) ((k : Int) + (n : Int)) rfl (by omega) (by omega) (by omega)
                  have yn : IntKind.i64.wrap ((k : Int) + (n : Int)) = ((k + n : Nat) : Int) := by simp [IntKind.wrap, IntKind.bits, IntKind.signed]; omega
                  have q1 : (k : Int) ≤ ((k + n : Nat) : Int) := by omega
                  have q2 : ((k + n : Nat) : Int) ≤ (s.size : Int) := by omega
                  clear tl tz hx hS
                  go_wp2_with fail
                  refine (unhide KC).mono ?_
                  rintro _ w2 ⟨rfl, b2⟩
                  have B2 := hide ((unhide hB).trans (b2.mono hsz))
                  clear b2 KC hB
                  go_wp2
                  go_roundw
                  case rel => exact ⟨T, k + n, f, acc ++ [r], by first | rfl | simp, by first | rfl | go_num, by omega, by omega, by omega, zT, HT, A2, B2⟩
                  case measure => simp [intOf]; omega
        · have i1 : (k : Int) ≥ (s.size : Int) := by omega
          have F : Hid (R = .inl 4) := hide (by rw [unhide hR]; exact at_end (by omega) (unhide hAt))
          clear hR hAt hS
          go_wp2
          refine bodyPost_ret (v := .tuple #[.string ⟨#[]⟩, .int .i64 0, .int .i64 4]) (by simp [results, Tryd.results13, go_sem]) rfl ?_
          rw [unhide F]
          exact ⟨rfl, unhide hB⟩
    · have F : Hid (R = .inl 4) := hide (by rw [unhide hR]; exact unq_front (.inr ⟨hp, fun h => c (e34.1 h)⟩))
      have b34 : (((s[0]'hp).toNat : Int) != 34) = true := by simp only [bne_iff_ne]; omega
      clear hR e34 c
      go_enter Tryd.func13, Tryd.ntmps13
      go_wp2
      refine bodyPost_ret (v := .tuple #[.string ⟨#[]⟩, .int .i64 0, .int .i64 4]) (by simp [results, Tryd.results13, go_sem]) rfl ?_
      rw [unhide F]
      exact ⟨rfl, Below.refl _ _⟩
end Go.Proofs.YtfgmjnfinbmkpaaDoor.escs
