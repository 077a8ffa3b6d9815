/- The walk of esc.Unquote. -/
import Derived.Test.YtfgmjnfinbmkpaaDoorEscUnqW
set_option linter.unusedVariables false
namespace Go.Proofs.YtfgmjnfinbmkpaaDoor.escs
open Go.RowKit
open utfs
open bigs (ndrop ndrop_end nlen u8_eq)

/-- What Unquote answers. -/
def resT : Res → List UInt8
  | .inl _ => []
  | .inr (rs, _) => enc rs
def resN : Res → Nat
  | .inl _ => 0
  | .inr (_, n) => n
def resE : Res → Int
  | .inl e => e
  | .inr (_, _) => 0
/-- What is read behind what has been read. -/
def resAfter (acc : List Int) (k : Nat) : Res → Res
  | .inl e => .inl e
  | .inr (rs, n) => .inr ((acc ++ rs), (k + n))
theorem after_more (acc : List Int) (k : Nat) (r : Int) (n : Nat) (R : Res) : resAfter acc k (resMore r n R) = resAfter (acc ++ [r]) (k + n) R := by
  cases R with
  | inl e => rfl
  | inr p =>
    obtain ⟨rs, m⟩ := p
    simp only [resMore, resAfter, Sum.inr.injEq, Prod.mk.injEq]
    exact ⟨by simp, by omega⟩
/-- The state of the reading: k bytes have been read, they say acc. -/
def At (L : List UInt8) (acc : List Int) (k f : Nat) : Prop := unq L = resAfter acc k (unqF f (L.drop k))
theorem at_start {s : ByteArray} (h0 : 0 < s.size) (h : s[0]'h0 = 34) : At s.data.toList [] 1 s.size := by
  have e := head_cons h0
  have hl : (s.data.toList.drop 1).length + 1 = s.size := by rw [List.length_drop, len_list]; omega
  unfold At
  have e2 : unq s.data.toList = unq (34 :: s.data.toList.drop 1) := by
    conv => lhs; rw [e]
    rw [h]
  rw [e2, unq, if_pos rfl, hl]
  cases unqF s.size (s.data.toList.drop 1) with
  | inl e => rfl
  | inr p =>
    obtain ⟨rs, k⟩ := p
    simp only [resAfter, Sum.inr.injEq, Prod.mk.injEq]
    exact ⟨rfl, by omega⟩
theorem at_more {s : ByteArray} {acc : List Int} {k f : Nat} {r : Int} {n : Nat} (hk : k < s.size) (h : At s.data.toList acc k (f + 1)) (h34 : s[k]'hk ≠ 34) (hn : nextQ (s.data.toList.drop k) = .inr (r, n)) : At s.data.toList (acc ++ [r]) (k + n) f := by
  unfold At at *
  have hd := ndrop s k hk
  rw [h]
  rw [hd] at hn
  have : unqF (f + 1) (s.data.toList.drop k) = resMore r n (unqF f ((s.data.toList.drop k).drop n)) := by
    rw [hd, unqF, if_neg h34, hn]
  rw [this, after_more, List.drop_drop]
theorem at_fails {s : ByteArray} {acc : List Int} {k f : Nat} {e : Int} (hk : k < s.size) (h : At s.data.toList acc k (f + 1)) (h34 : s[k]'hk ≠ 34) (hn : nextQ (s.data.toList.drop k) = .inl e) : unq s.data.toList = .inl e := by
  unfold At at *
  have hd := ndrop s k hk
  rw [h]
  rw [hd] at hn
  rw [hd, unqF, if_neg h34, hn]
  rfl
theorem at_stop {s : ByteArray} {acc : List Int} {k f : Nat} (hk : k < s.size) (h : At s.data.toList acc k (f + 1)) (h34 : s[k]'hk = 34) : unq s.data.toList = .inr (acc, (k + 1)) := by
  unfold At at *
  rw [h, ndrop s k hk, unqF, if_pos h34]
  simp [resAfter]
theorem at_end {s : ByteArray} {acc : List Int} {k f : Nat} (hk : s.size ≤ k) (h : At s.data.toList acc k (f + 1)) : unq s.data.toList = .inl 4 := by
  unfold At at *
  rw [h, List.drop_of_length_le (by rw [len_list]; omega), unqF]
  rfl
theorem unq_front {s : ByteArray} (h : s.size = 0 ∨ ∃ h0 : 0 < s.size, s[0]'h0 ≠ 34) : unq s.data.toList = .inl 4 := by
  rcases h with h | ⟨h0, h⟩
  · have : s.data.toList = [] := List.eq_nil_of_length_eq_zero (by rw [len_list]; exact h)
    rw [this]
    rfl
  · rw [head_cons h0, unq, if_neg h]
set_option maxHeartbeats 4000000 in
set_option maxRecDepth 100000 in
theorem unquote_any (w : World) (s : ByteArray) (hs : s.size ≤ 1073741824) (hT : Lib.Utf8Tabs 2 3 w) (R : Res) (hR : Hid (R = unq s.data.toList)) :
    Calls Tryd.prog 12 #[.string s] w fun e w' => e = .returned (.tuple #[.string ⟨(resT R).toArray⟩, .int .i64 (resN R : Int), .int .i64 (resE R)]) ∧ Below w.heap.size w w' := by
  by_cases h0 : s.size = 0
  · have F : Hid (R = .inl 4) := hide (by rw [unhide hR]; exact unq_front (.inl h0))
    have e0 := emptyYes s h0
    clear hR hT h0
    go_enter Tryd.func12, Tryd.ntmps12
    go_wp2
    refine bodyPost_ret (v := .tuple #[.string ⟨#[]⟩, .int .i64 0, .int .i64 4]) (by simp [results, Tryd.results12, go_sem]) rfl ?_
    rw [unhide F]
    exact ⟨rfl, Below.refl _ _⟩
  · have hp : 0 < s.size := by omega
    have e0 := emptyNo s hp
    have j0 : (0 : Int) < (s.size : Int) := by omega
    have e34 : s[0]'hp = 34 ↔ (s[0]'hp).toNat = 34 := u8_eq (s[0]'hp) 34 (by decide)
    clear h0
    by_cases c : (s[0]'hp).toNat = 34
    · have hA := at_start hp (e34.2 c)
      have b34 : (((s[0]'hp).toNat : Int) != 34) = false := by rw [show ((s[0]'hp).toNat : Int) = 34 by omega]; rfl
      have HA := hide hA
      have HT := hide hT
      have I0 : Hid (Bld w.heap.size w.heap.size (enc []) (w.alloc (.cells #[.pointer none, .slice none 0 0] 35))) := hide (Lib.IsBuilderF.of (Lib.fresh_isBuilder 35 5 w))
      have B0 : Hid (Below w.heap.size w (w.alloc (.cells #[.pointer none, .slice none 0 0] 35))) := hide ((Below.refl _ w).alloc (Nat.le_refl _) _)
      clear e34 c hA hT
      go_enter Tryd.func12, Tryd.ntmps12
      go_wp2_with fail
      go_loopw [6] (fun a wr => ∃ (k f : Nat) (acc : List Int), a = .int .i64 (k : Int) ∧ 1 ≤ k ∧ k ≤ s.size ∧ s.size + 1 ≤ k + f ∧ Hid (At s.data.toList acc k f) ∧ Hid ((enc acc).length ≤ k) ∧ Hid (Bld w.heap.size w.heap.size (enc acc) wr) ∧ Hid (Below w.heap.size w wr)) (fun a _ => s.size - (intOf a).toNat)
      case atStart => exact ⟨1, s.size, [], rfl, by omega, by omega, by omega, HA, hide (by simp [enc]), I0, B0⟩
      case round =>
        obtain ⟨k, f', acc, rfl, k1, ks, kf, hAt, hle, hI, hB⟩ := hrel
        obtain ⟨f, rfl⟩ : ∃ f, f' = f + 1 := ⟨f' - 1, by omega⟩
        clear HA I0 B0
        have hsz := (unhide hB).size
        by_cases ck : k < s.size
        · have i1 : (k : Int) < (s.size : Int) := by omega
          have s0 : (0 : Int) ≤ (k : Int) := by omega
          have s1 : (k : Int) ≤ (s.size : Int) := by omega
          have e34 : s[k]'ck = 34 ↔ (s[k]'ck).toNat = 34 := u8_eq (s[k]'ck) 34 (by decide)
          by_cases c : (s[k]'ck).toNat = 34
          · have F : Hid (R = .inr (acc, (k + 1))) := hide (by rw [unhide hR]; exact at_stop ck (unhide hAt) (e34.2 c))
            have b34k : (((s[k]'ck).toNat : Int) != 34) = false := by rw [show ((s[k]'ck).toNat : Int) = 34 by omega]; rfl
            have ne1 : ((k : Int) == (s.size : Int)) = false := beq_false_of_ne (by omega)
            clear hR hAt e34 c
            go_wp2_with fail
            refine (text_b w.heap.size w.heap.size (enc acc) wr (unhide hI) hsz).mono ?_
            rintro _ w2 ⟨rfl, b2⟩
            have B2 := hide ((unhide hB).trans b2)
            clear b2 hB hI
            go_wp2
            refine bodyPost_ret (v := .tuple #[.string ⟨(enc acc).toArray⟩, .int .i64 ((k + 1 : Nat) : Int), .int .i64 0]) (by simp [results, Tryd.results12, go_sem] <;> omega) rfl ?_
            rw [unhide F]
            exact ⟨rfl, unhide B2⟩
          · have b34k : (((s[k]'ck).toNat : Int) != 34) = true := by simp only [bne_iff_ne]; omega
            have n34 : s[k]'ck ≠ 34 := fun h => c (e34.1 h)
            have hxs : (s.extract k s.size).size = s.size - k := by rw [ByteArray.size_extract]; omega
            have K := nextE_any wr (s.extract k s.size) (by rw [hxs]; omega) (by rw [hxs]; omega) (Utf8Tabs_below (unhide HT) (unhide hB)) (nextQ (s.data.toList.drop k)) (hide (by rw [ext_drop]))
            have hne : s.data.toList.drop k ≠ [] := by rw [ndrop s k ck]; simp
            cases hn : nextQ (s.data.toList.drop k) with
            | inl e =>
              have F : Hid (R = .inl e) := hide (by rw [unhide hR]; exact at_fails ck (unhide hAt) n34 hn)
              have he := nextQ_fails hn
              have ie : (e != 0) = true := by simp only [bne_iff_ne]; omega
              rw [hn] at K
              simp only [saidR, saidN, saidE] at K
              have K := hide K
              clear hn hR hAt e34 c n34 hne he hI hxs
              go_wp2_with fail
              refine (unhide K).mono ?_
              rintro _ w2 ⟨rfl, b2⟩
              have B2 := hide ((unhide hB).trans (b2.mono hsz))
              clear b2 hB K
              go_wp2
              refine bodyPost_ret (v := .tuple #[.string ⟨#[]⟩, .int .i64 0, .int .i64 e]) (by simp [results, Tryd.results12, go_sem]) rfl ?_
              rw [unhide F]
              exact ⟨rfl, unhide B2⟩
            | inr p =>
              obtain ⟨r, n⟩ := p
              obtain ⟨n1, n2, hsc, n4, _⟩ := says_front hne hn
              rw [List.length_drop, len_list] at n2
              have A2 : Hid (At s.data.toList (acc ++ [r]) (k + n) f) := hide (at_more ck (unhide hAt) n34 hn)
              have L2 : Hid ((enc (acc ++ [r])).length ≤ k + n) := hide (by rw [enc_append, enc_one, List.length_append]; have := unhide hle; omega)
              have E2 : Hid (enc (acc ++ [r]) = enc acc ++ Lib.encodeRune r) := hide (by rw [enc_append, enc_one])
              rw [hn] at K
              simp only [saidR, saidN, saidE] at K
              have K := hide K
              have hlen : (enc acc).length ≤ 1073741824 := by have := unhide hle; omega
              clear hn hAt e34 c n34 hne hxs n4 hle
              generalize enc acc = X at *
              go_wp2_with fail
              refine (unhide K).mono ?_
              rintro _ w2 ⟨rfl, b2⟩
              have I2 := hide ((unhide hI).below b2)
              have B2 := hide ((unhide hB).trans (b2.mono hsz))
              have s2 := b2.size
              clear b2 hB hI K
              go_wp2_with fail
              refine (rune_b w.heap.size w.heap.size X r hsc w2 (unhide I2) (by omega) (by omega)).mono ?_
              rintro _ w3 ⟨⟨m, rfl⟩, i3, b3, _⟩
              have I3 := hide i3
              have B3 := hide ((unhide B2).trans b3)
              clear i3 b3 I2 B2
              go_wp2
              go_roundw
              case rel => exact ⟨k + n, f, acc ++ [r], by go_num, by omega, by omega, by omega, A2, L2, hide (by rw [unhide E2]; exact unhide I3), B3⟩
              case measure => simp [intOf]; omega
        · have F : Hid (R = .inl 4) := hide (by rw [unhide hR]; exact at_end (by omega) (unhide hAt))
          have i1 : ¬ (k : Int) < (s.size : Int) := by omega
          have t1 : decide ((k : Int) < (s.size : Int)) = false := decide_eq_false i1
          have eq1 : ((k : Int) == (s.size : Int)) = true := by rw [show (k : Int) = (s.size : Int) by omega]; simp
          clear hR hAt hle hI
          go_wp2
          refine bodyPost_ret (v := .tuple #[.string ⟨#[]⟩, .int .i64 0, .int .i64 4]) (by simp [results, Tryd.results12, go_sem]) rfl ?_
          rw [unhide F]
          exact ⟨rfl, unhide hB⟩
    · have F : Hid (R = .inl 4) := hide (by rw [unhide hR]; exact unq_front (.inr ⟨hp, fun h => c (e34.1 h)⟩))
      have b34 : (((s[0]'hp).toNat : Int) != 34) = true := by simp only [bne_iff_ne]; omega
      clear hR hT e34 c
      go_enter Tryd.func12, Tryd.ntmps12
      go_wp2
      refine bodyPost_ret (v := .tuple #[.string ⟨#[]⟩, .int .i64 0, .int .i64 4]) (by simp [results, Tryd.results12, go_sem]) rfl ?_
      rw [unhide F]
      exact ⟨rfl, Below.refl _ _⟩
end Go.Proofs.YtfgmjnfinbmkpaaDoor.escs
