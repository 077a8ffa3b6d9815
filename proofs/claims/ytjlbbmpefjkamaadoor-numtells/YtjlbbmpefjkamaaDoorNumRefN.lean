/- The document's hexOf and Numeral. -/
import Derived.Test.YtjlbbmpefjkamaaDoorNumRefT
import Derived.Test.YtjlbbmpefjkamaaDoorRefHex
import Derived.Test.YtjlbbmpefjkamaaDoorBigPower
import Derived.Deep.CutRange
set_option linter.unusedVariables false
namespace Go.Proofs.YtjlbbmpefjkamaaDoor.bigs
open Go.RowKit
/-- Does a digit stand ahead of a place? -/
def prevD (l : List UInt8) : Nat → Bool
  | 0 => false
  | k + 1 => decide (l[k]? ≠ some 95)
theorem round_len {x k b d : Nat} (hb : b ≤ 16) (hd : d < 16) (h : x < 10000 ^ k) : x * b + d < 10000 ^ (k + 1) := by
  have h1 : x * b ≤ x * 16 := Nat.mul_le_mul_left x hb
  rw [Nat.pow_succ]
  omega
theorem dig_80 {x k : Nat} (hk : k ≤ 81) (h : x < 10000 ^ k) : (dig x).length ≤ 1048576 := by
  have := dig_length_le h
  omega
theorem empty_no (s : ByteArray) (h : 0 < s.size) : s.toList.isEmpty = false ∧ s.toList ≠ [] := by
  have h1 : s.data.toList ≠ [] := fun e => by have := nlen s; rw [e] at this; simp at this; omega
  refine ⟨str_empty s h1, ?_⟩
  rw [ByteArray.toList_eq]; exact h1
theorem form_last {b : Nat} (hb : b ≤ 16) : ∀ (l : List UInt8) (q : Bool), formG b q (l ++ [95]) = false := by
  intro l
  induction l with
  | nil =>
    intro q
    rw [List.nil_append, formG]
    split
    · rfl
    · rw [if_pos (by rw [hexv_low]; exact hb)]
  | cons a r ih =>
    intro q
    rw [List.cons_append, formG]
    split
    · exact ih false
    · split
      · rfl
      · exact ih true
theorem form_bad {b : Nat} (hb : b ≤ 16) {D : ByteArray} (h : D.size = 0 ∨ D.data.toList[0]? = some 95 ∨ D.data.toList[D.size - 1]? = some 95) : formG b false D.data.toList = false := by
  have hl := nlen D
  generalize D.data.toList = l at *
  rcases h with h | h | h
  · have : l = [] := List.eq_nil_of_length_eq_zero (by omega)
    rw [this]; rfl
  · cases l with
    | nil => simp at h
    | cons a r =>
      have : a = 95 := by simpa using h
      rw [this, formG, if_neg (by simp), if_pos (by rw [hexv_low]; exact hb)]
  · rw [← hl] at h
    have hlt : l.length - 1 < l.length := (List.getElem?_eq_some_iff.1 h).1
    have e : l = l.take (l.length - 1) ++ [95] := by
      have e1 := List.take_append_drop (l.length - 1) l
      rw [List.drop_eq_getElem_cons hlt, (List.getElem?_eq_some_iff.1 h).2, List.drop_of_length_le (by omega)] at e1
      exact e1.symm
    rw [e]
    exact form_last hb _ _
theorem lies_nil (w : World) : Lies w (.slice none 0 0) 0 := ⟨none, 0, by rw [dig_zero]; rfl, by rw [dig_zero]; simp, by rw [dig_zero]; exact fun h => absurd rfl h⟩
set_option maxHeartbeats 16000000 in
set_option maxRecDepth 100000 in
theorem refNum_core (w : World) (s t D : ByteArray) (below z bad f : Bool) (b : Nat) (hs : s.size ≤ 80) (hts : t.size ≤ 80) (hDs : D.size ≤ 80) (b16 : b ≤ 16) (b2 : 2 ≤ b)
    (hsg : Hid ((below = true ∧ ∃ h : 0 < s.size, (s[0]'h).toNat = 45 ∧ s.extract 1 s.size = t) ∨ (below = false ∧ t = s ∧ ∀ h : 0 < s.size, (s[0]'h).toNat ≠ 45)))
    (hz : Hid ((z = true ∧ ∃ (h0 : 0 < t.size) (h1 : 1 < t.size), (t[0]'h0).toNat = 48 ∧ (((t[1]'h1).toNat = 120 ∧ b = 16 ∧ t.extract 2 t.size = D) ∨ ((t[1]'h1).toNat = 111 ∧ b = 8 ∧ t.extract 2 t.size = D) ∨ ((t[1]'h1).toNat = 98 ∧ b = 2 ∧ t.extract 2 t.size = D) ∨ ((t[1]'h1).toNat ≠ 120 ∧ (t[1]'h1).toNat ≠ 111 ∧ (t[1]'h1).toNat ≠ 98 ∧ f = false))) ∨ (z = false ∧ b = 10 ∧ D = t ∧ ∀ (h0 : 0 < t.size), 1 < t.size → (t[0]'h0).toNat ≠ 48)))
    (hbad : Hid (bad = true ↔ (D.size = 0 ∨ D.data.toList[0]? = some 95 ∨ D.data.toList[D.size - 1]? = some 95)))
    (hf : Hid (f = formG b false D.data.toList ∨ (z = true ∧ f = false ∧ ∃ (h1 : 1 < t.size), (t[1]'h1).toNat ≠ 120 ∧ (t[1]'h1).toNat ≠ 111 ∧ (t[1]'h1).toNat ≠ 98))) :
    Calls Tryd.prog 19 #[.string s] w fun e w' => ∃ v, e = .returned (.tuple #[.bool below, v, .bool f]) ∧ (f = true → Lies w' v (valG b 0 D.data.toList)) ∧ Below w.heap.size w w' := by
  go_enter Tryd.func19, Tryd.ntmps19
  go_upto_region 1 with fail
  go_cut [14] from 8 to 13 (fun s14 wx => s14 = .bool below ∧ w = wx)
  case first =>
    by_cases h0 : 0 < s.size
    · obtain ⟨ie1, ie2⟩ := empty_no s h0
      have li : (0 : Int) < (s.size : Int) := by omega
      have F : Hid (below = (((s[0]'h0).toNat : Int) == 45)) := hide (by
        rcases unhide hsg with ⟨e, _, h, _⟩ | ⟨e, _, h⟩
        · rw [e, h]; rfl
        · rw [e]; exact (beq_false_of_ne (by have := h h0; omega)).symm)
      clear hsg hz hbad hf
      go_wp2
      go_meet
      case rel => exact ⟨by rw [unhide F], by trivial⟩
    · have ie : s.toList = [] := by
        rw [ByteArray.toList_eq]
        exact List.eq_nil_of_length_eq_zero (by rw [nlen]; omega)
      have F : Hid (below = false) := hide (by
        rcases unhide hsg with ⟨_, h, _⟩ | ⟨e, _⟩
        · exact absurd h h0
        · exact e)
      clear hsg hz hbad hf
      go_wp2
      go_meet
      case rel => exact ⟨by rw [unhide F], by trivial⟩
  case rest =>
  obtain ⟨rfl, rfl⟩ := hcut
  go_upto_if 14 with fail
  go_cut [0, 2] from 15 to 16 (fun s0 s2 wx => s0 = .string t ∧ s2 = .bool below ∧ Below w.heap.size w wx)
  case first =>
    cases hn : below with
    | false =>
      subst hn
      have F : t = s := by
        rcases unhide hsg with ⟨e, _⟩ | ⟨_, e, _⟩
        · cases e
        · exact e
      subst F
      clear hsg hz hbad hf
      go_wp2
      go_meet
      case rel => exact ⟨rfl, rfl, Below.refl _ _⟩
    | true =>
      subst hn
      obtain ⟨h0, F⟩ : ∃ h0 : 0 < s.size, s.extract 1 s.size = t := by
        rcases unhide hsg with ⟨_, h, _, e⟩ | ⟨e, _⟩
        · exact ⟨h, e⟩
        · cases e
      have q1 : (1 : Int) ≤ (s.size : Int) := by omega
      clear hsg hz hbad hf
      go_wp2_with fail
      go_quiet (fail)
      go_wp2
      go_meet
      case rel => exact ⟨by first | rfl | (rw [F]) | (simp [F]), by first | rfl | trivial, below_drewN (Below.refl _ _) _⟩
  case rest =>
  obtain ⟨rfl, rfl, hbw⟩ := hcut
  clear hsg
  have HBW := hide hbw
  clear hbw
  generalize wc = w2 at *
  go_upto_region 4 with fail
  go_cut [24] from 17 to 23 (fun s24 wx => s24 = .bool z ∧ w2 = wx)
  case first =>
    by_cases h1 : 1 < t.size
    · have h0 : 0 < t.size := by omega
      have li : (1 : Int) < (t.size : Int) := by omega
      have F : Hid (z = (((t[0]'h0).toNat : Int) == 48)) := hide (by
        rcases unhide hz with ⟨e, _, _, h, _⟩ | ⟨e, _, _, h⟩
        · rw [e, h]; rfl
        · rw [e]; exact (beq_false_of_ne (by have := h h0 h1; omega)).symm)
      clear hz hbad hf HBW
      go_wp2
      go_meet
      case rel => exact ⟨by rw [unhide F], by trivial⟩
    · have li : ¬ (1 : Int) < (t.size : Int) := by omega
      have F : Hid (z = false) := hide (by
        rcases unhide hz with ⟨_, _, h, _⟩ | ⟨e, _⟩
        · exact absurd h h1
        · exact e)
      clear hz hbad hf HBW
      go_wp2
      go_meet
      case rel => exact ⟨by rw [unhide F], by trivial⟩
  case rest =>
  obtain ⟨rfl, rfl⟩ := hcut
  go_upto_if 24 with fail
  go_cut [0, 2, 3, 5] from 25 to 37 (fun s0 s2 s3 s5 wx => s0 = .string D ∧ s2 = .bool below ∧ s3 = .slice none 0 0 ∧ s5 = .int .i64 (b : Int) ∧ Hid (f = formG b false D.data.toList) ∧ w2 = wx)
  case first =>
    cases hn : z with
    | false =>
      subst hn
      obtain ⟨F1, F2⟩ : b = 10 ∧ D = t := by
        rcases unhide hz with ⟨e, _⟩ | ⟨_, e1, e2, _⟩
        · cases e
        · exact ⟨e1, e2⟩
      have FF : Hid (f = formG b false D.data.toList) := hide (by
        rcases unhide hf with e | ⟨e, _⟩
        · exact e
        · cases e)
      subst F1 F2
      clear hz hbad hf HBW
      go_wp2
      go_meet
      case rel => exact ⟨rfl, rfl, rfl, rfl, FF, by trivial⟩
    | true =>
      subst hn
      obtain ⟨h0, h1, e48, way⟩ : ∃ (h0 : 0 < t.size) (h1 : 1 < t.size), (t[0]'h0).toNat = 48 ∧ (((t[1]'h1).toNat = 120 ∧ b = 16 ∧ t.extract 2 t.size = D) ∨ ((t[1]'h1).toNat = 111 ∧ b = 8 ∧ t.extract 2 t.size = D) ∨ ((t[1]'h1).toNat = 98 ∧ b = 2 ∧ t.extract 2 t.size = D) ∨ ((t[1]'h1).toNat ≠ 120 ∧ (t[1]'h1).toNat ≠ 111 ∧ (t[1]'h1).toNat ≠ 98 ∧ f = false)) := by
        rcases unhide hz with ⟨_, e⟩ | ⟨e, _⟩
        · exact e
        · cases e
      have l1 : (1 : Int) < (t.size : Int) := by omega
      have l2 : (2 : Int) ≤ (t.size : Int) := by omega
      have FF : ((t[1]'h1).toNat = 120 ∨ (t[1]'h1).toNat = 111 ∨ (t[1]'h1).toNat = 98) → Hid (f = formG b false D.data.toList) := fun h => hide (by
        rcases unhide hf with e | ⟨_, _, _, g1, g2, g3⟩
        · exact e
        · rcases h with h | h | h
          · exact absurd h g1
          · exact absurd h g2
          · exact absurd h g3)
      clear hz hbad hf e48
      rcases way with ⟨c, rfl, F⟩ | ⟨c, rfl, F⟩ | ⟨c, rfl, F⟩ | ⟨c1, c2, c3, rfl⟩
      · have FF := FF (.inl c)
        have i1 : (((t[1]'h1).toNat : Int) == 120) = true := by rw [c]; rfl
        clear c HBW
        go_wp2
        go_meet
        case rel => exact ⟨by first | rfl | (rw [F]) | (simp [F]), by first | rfl | trivial, by first | rfl | trivial, by first | rfl | trivial, FF, by trivial⟩
      · have FF := FF (.inr (.inl c))
        have i0 : (((t[1]'h1).toNat : Int) == 120) = false := beq_false_of_ne (by omega)
        have i1 : (((t[1]'h1).toNat : Int) == 111) = true := by rw [c]; rfl
        clear c HBW
        go_wp2
        go_meet
        case rel => exact ⟨by first | rfl | (rw [F]) | (simp [F]), by first | rfl | trivial, by first | rfl | trivial, by first | rfl | trivial, FF, by trivial⟩
      · have FF := FF (.inr (.inr c))
        have i0 : (((t[1]'h1).toNat : Int) == 120) = false := beq_false_of_ne (by omega)
        have i00 : (((t[1]'h1).toNat : Int) == 111) = false := beq_false_of_ne (by omega)
        have i1 : (((t[1]'h1).toNat : Int) == 98) = true := by rw [c]; rfl
        clear c HBW
        go_wp2
        go_meet
        case rel => exact ⟨by first | rfl | (rw [F]) | (simp [F]), by first | rfl | trivial, by first | rfl | trivial, by first | rfl | trivial, FF, by trivial⟩
      · have i0 : (((t[1]'h1).toNat : Int) == 120) = false := beq_false_of_ne (by omega)
        have i00 : (((t[1]'h1).toNat : Int) == 111) = false := beq_false_of_ne (by omega)
        have i1 : (((t[1]'h1).toNat : Int) == 98) = false := beq_false_of_ne (by omega)
        clear c1 c2 c3 FF
        go_wp2
        go_ret3
        exact ⟨_, rfl, (fun h => by cases h), unhide HBW⟩
  case rest =>
  obtain ⟨rfl, rfl, rfl, rfl, FF, rfl⟩ := hcut
  clear hz hf
  go_upto_region 15 with fail
  go_cut [52] from 38 to 51 (fun s52 wx => s52 = .bool bad ∧ w2 = wx)
  case first =>
    by_cases h0 : 0 < D.size
    · obtain ⟨ie1, ie2⟩ := empty_no D h0
      have li : (0 : Int) < (D.size : Int) := by omega
      have g0 : D.data.toList[0]? = some (D[0]'h0) := List.getElem?_eq_getElem (by rw [nlen]; exact h0)
      by_cases c0 : (D[0]'h0).toNat = 95
      · have i1 : (((D[0]'h0).toNat : Int) == 95) = true := by rw [c0]; rfl
        have F : Hid (bad = true) := hide ((unhide hbad).2 (.inr (.inl (by rw [g0, (u8_eq _ 95 (by decide)).2 c0]; rfl))))
        clear hbad FF HBW g0 c0
        go_wp2
        go_meet
        case rel => exact ⟨by rw [unhide F], by trivial⟩
      · have i1 : (((D[0]'h0).toNat : Int) == 95) = false := beq_false_of_ne (by omega)
        obtain ⟨m, hm⟩ : ∃ m, m = D.size - 1 := ⟨_, rfl⟩
        have hmD : m < D.size := by omega
        have gm : D.data.toList[m]? = some (D[m]'hmD) := List.getElem?_eq_getElem (by rw [nlen]; exact hmD)
        have y1 : IntKind.i64.wrap ((D.size : Int) - 1) = (m : Int) := by rw [i64_id _ (by omega) (by omega)]; omega
        have lm : (m : Int) < (D.size : Int) := by omega
        have F : Hid (bad = (((D[m]'hmD).toNat : Int) == 95)) := hide (by
          rw [Bool.eq_iff_iff, unhide hbad, ← hm, beq_iff_eq]
          constructor
          · rintro (e | e | e)
            · omega
            · rw [g0] at e
              have e2 := Option.some.inj e
              exact absurd (by rw [e2]; rfl) c0
            · rw [gm] at e
              rw [Option.some.inj e]
              rfl
          · intro e
            right; right
            rw [gm, (u8_eq (D[m]'hmD) 95 (by decide)).2 (by omega)]
            rfl)
        clear hbad FF HBW g0 c0 gm hm
        go_wp2
        go_meet
        case rel => exact ⟨by rw [unhide F], by trivial⟩
    · have ie : D.toList = [] := by
        rw [ByteArray.toList_eq]
        exact List.eq_nil_of_length_eq_zero (by rw [nlen]; omega)
      have F : Hid (bad = true) := hide ((unhide hbad).2 (.inl (by omega)))
      clear hbad FF HBW
      go_wp2
      go_meet
      case rel => exact ⟨by rw [unhide F], by trivial⟩
  case rest =>
  obtain ⟨rfl, rfl⟩ := hcut
  cases hn : bad with
  | true =>
    subst hn
    have F : Hid (f = false) := hide (by rw [unhide FF]; exact form_bad b16 ((unhide hbad).1 rfl))
    clear hbad FF
    go_wp2
    go_ret3
    rw [unhide F]
    exact ⟨_, rfl, (fun h => by cases h), unhide HBW⟩
  | false =>
    subst hn
    have HG : Hid (0 < D.size ∧ D.data.toList[0]? ≠ some 95 ∧ D.data.toList[D.size - 1]? ≠ some 95) := hide (by
      exact ⟨Nat.pos_of_ne_zero fun e => absurd ((unhide hbad).2 (.inl e)) (by decide), fun e => absurd ((unhide hbad).2 (.inr (.inl e))) (by decide), fun e => absurd ((unhide hbad).2 (.inr (.inr e))) (by decide)⟩)
    clear hbad
    have yb : IntKind.u64.wrap (b : Int) = (b : Int) := u64_wrap _ (by omega) (by omega)
    have KB : ∀ W, Hid (Calls Tryd.prog 30 #[.int .u64 (b : Int)] W fun e w' => ∃ v, e = .returned v ∧ Lies w' v b ∧ Fresh W.heap.size v ∧ Below W.heap.size W w') := fun W => hide (small_any b W (by omega))
    go_wp2_with fail
    go_loopw [2, 3, 6] (fun m n i wr => ∃ (k x : Nat), m = .bool below ∧ Hid (Lies wr n x) ∧ i = .int .i64 (k : Int) ∧ k ≤ D.size ∧ Hid (f = formG b (prevD D.data.toList k) (D.data.toList.drop k)) ∧ Hid (valG b 0 D.data.toList = valG b x (D.data.toList.drop k)) ∧ Hid (x < 10000 ^ k) ∧ Hid (Below w.heap.size w wr)) (fun _ _ i _ => D.size - (intOf i).toNat)
    case atStart => exact ⟨0, 0, rfl, hide (lies_nil _), rfl, Nat.zero_le _, hide (by rw [List.drop_zero]; exact unhide FF), hide (by rw [List.drop_zero]), hide (by simp), HBW⟩
    case round =>
      obtain ⟨k, x, rfl, hLx, rfl, hk, hF, hV, hX, hB⟩ := hrel
      clear FF HBW
      by_cases hlt : k < D.size
      · have lt' : (k : Int) < (D.size : Int) := by omega
        have dr := ndrop D k hlt
        have gk : D.data.toList[k]? = some (D[k]'hlt) := List.getElem?_eq_getElem (by rw [nlen]; exact hlt)
        by_cases c1 : (D[k]'hlt).toNat = 95
        · have i1 : (((D[k]'hlt).toNat : Int) == 95) = true := by rw [c1]; rfl
          have c2 : (D[k]'hlt) = 95 := (u8_eq _ 95 (by decide)).2 c1
          have hk0 : k ≠ 0 := by
            rintro rfl
            exact (unhide HG).2.1 (by rw [gk, c2])
          obtain ⟨j, hj⟩ : ∃ j, k = j + 1 := ⟨k - 1, by omega⟩
          have hjD : j < D.size := by omega
          have gj : D.data.toList[j]? = some (D[j]'hjD) := List.getElem?_eq_getElem (by rw [nlen]; exact hjD)
          have y1 : IntKind.i64.wrap ((k : Int) - 1) = (j : Int) := by rw [i64_id _ (by omega) (by omega)]; omega
          have lj : (j : Int) < (D.size : Int) := by omega
          by_cases c3 : (D[j]'hjD).toNat = 95
          · have i2 : (((D[j]'hjD).toNat : Int) == 95) = true := by rw [c3]; rfl
            have F : Hid (f = false) := hide (by
              have p : prevD D.data.toList k = false := by
                rw [hj, prevD, gj, (u8_eq _ 95 (by decide)).2 c3]
                rfl
              rw [unhide hF, p, dr, formG, if_neg (by simp), if_pos (by rw [c2, hexv_low]; exact b16)])
            clear hF hV hX hLx dr gk c1 c2 gj c3 hj HG KB
            go_wp2
            go_ret3
            rw [unhide F]
            exact ⟨_, rfl, (fun h => by cases h), unhide hB⟩
          · have i2 : (((D[j]'hjD).toNat : Int) == 95) = false := beq_false_of_ne (by omega)
            have p : prevD D.data.toList k = true := by
              rw [hj, prevD, gj]
              exact decide_eq_true (fun e => c3 (by rw [Option.some.inj e]; rfl))
            have p2 : prevD D.data.toList (k + 1) = false := by
              rw [prevD, gk, c2]
              rfl
            have NF : Hid (f = formG b (prevD D.data.toList (k + 1)) (D.data.toList.drop (k + 1))) := hide (by
              rw [p2, unhide hF, p, dr, formG, if_pos ⟨c2, rfl⟩])
            have NV : Hid (valG b 0 D.data.toList = valG b x (D.data.toList.drop (k + 1))) := hide (by rw [unhide hV, dr, valG, if_pos c2])
            have NX : Hid (x < 10000 ^ (k + 1)) := hide (Nat.lt_of_lt_of_le (unhide hX) (Nat.pow_le_pow_right (by decide) (by omega)))
            clear hF hV hX dr gk c1 c2 gj c3 hj KB p p2
            go_wp2
            go_roundw
            case rel => exact ⟨k + 1, x, rfl, hLx, by go_num, by omega, NF, NV, NX, hB⟩
            case measure => simp [intOf]; omega
        · have i1 : (((D[k]'hlt).toNat : Int) == 95) = false := beq_false_of_ne (by omega)
          have c2 : (D[k]'hlt) ≠ 95 := fun e => c1 (by rw [e]; rfl)
          have KH := hide (hexW_any wr (D[k]'hlt))
          by_cases c3 : b ≤ hexv (D[k]'hlt)
          · have F : Hid (f = false) := hide (by rw [unhide hF, dr, formG, if_neg (fun h => c2 h.1), if_pos c3])
            have g1 : b ≤ hexd (D[k]'hlt) := (hexd_ge b16).2 c3
            generalize hexd (D[k]'hlt) = hd at *
            have g2 : (hd : Int) ≥ (b : Int) := by omega
            clear hF hV hX hLx dr gk c1 c2 c3 HG KB
            go_wp2_with fail
            refine (unhide KH).mono ?_
            rintro _ w3 ⟨rfl, rfl⟩
            clear KH
            go_wp2
            go_ret3
            rw [unhide F]
            exact ⟨_, rfl, (fun h => by cases h), unhide hB⟩
          · have g1 : ¬ b ≤ hexd (D[k]'hlt) := fun h => c3 ((hexd_ge b16).1 h)
            have e1 := hexd_lt b16 c3
            have NF : Hid (f = formG b (prevD D.data.toList (k + 1)) (D.data.toList.drop (k + 1))) := hide (by
              have p2 : prevD D.data.toList (k + 1) = true := by
                rw [prevD, gk]
                exact decide_eq_true (fun e => c2 (Option.some.inj e))
              rw [p2, unhide hF, dr, formG, if_neg (fun h => c2 h.1), if_neg c3])
            rw [← e1] at c3
            have NV : Hid (valG b 0 D.data.toList = valG b (x * b + hexd (D[k]'hlt)) (D.data.toList.drop (k + 1))) := hide (by rw [unhide hV, dr, valG, if_neg c2, e1])
            have NX : Hid (x * b + hexd (D[k]'hlt) < 10000 ^ (k + 1)) := hide (round_len b16 (by omega) (unhide hX))
            clear hF hV dr gk c1 c2 e1
            generalize hexd (D[k]'hlt) = hd at *
            have g2 : ¬ (hd : Int) ≥ (b : Int) := by omega
            have yd : IntKind.u64.wrap (hd : Int) = (hd : Int) := u64_wrap _ (by omega) (by omega)
            have KD : ∀ W, Hid (Calls Tryd.prog 30 #[.int .u64 (hd : Int)] W fun e w' => ∃ v, e = .returned v ∧ Lies w' v hd ∧ Fresh W.heap.size v ∧ Below W.heap.size W w') := fun W => hide (small_any hd W (by omega))
            have LX : Hid ((dig x).length ≤ 1048576) := hide (dig_80 (k := k) (by omega) (unhide hX))
            have LXB : Hid ((dig (x * b)).length ≤ 1048576) := hide (dig_80 (k := k + 1) (by omega) (by have := unhide NX; omega))
            have LB : Hid ((dig b).length ≤ 1048576) := hide (dig_80 (k := 1) (by omega) (by omega))
            have LD : Hid ((dig hd).length ≤ 1048576) := hide (dig_80 (k := 1) (by omega) (by omega))
            clear hX
            go_wp2_with fail
            refine (unhide KH).mono ?_
            rintro _ w3 ⟨rfl, rfl⟩
            clear KH
            go_wp2_with fail
            refine (unhide (KB _)).mono ?_
            rintro _ w4 ⟨v4, rfl, L4, _, b4⟩
            have hLx4 := (unhide hLx).below b4
            have B4 := hide ((unhide hB).trans (b4.mono (unhide hB).size))
            clear hLx hB b4 KB
            go_wp2_with fail
            refine (by_any _ _ _ x b (unhide LX) (unhide LB) hLx4 L4).mono ?_
            rintro _ w5 ⟨v5, rfl, L5, _, b5⟩
            have B5 := hide ((unhide B4).trans (b5.mono (unhide B4).size))
            clear hLx4 L4 B4 b5
            go_wp2_with fail
            refine (unhide (KD _)).mono ?_
            rintro _ w6 ⟨v6, rfl, L6, _, b6⟩
            have L56 := L5.below b6
            have B6 := hide ((unhide B5).trans (b6.mono (unhide B5).size))
            clear L5 b6 KD B5
            go_wp2_with fail
            refine (plus_any _ _ _ (x * b) hd (unhide LXB) (unhide LD) L56 L6).mono ?_
            rintro _ w7 ⟨v7, rfl, L7, _, b7⟩
            have B7 := hide ((unhide B6).trans (b7.mono (unhide B6).size))
            have HL7 := hide L7
            clear L56 L6 B6 b7 L7 LX LXB LB LD
            go_wp2
            go_roundw
            case rel => exact ⟨k + 1, x * b + hd, rfl, HL7, by go_num, by omega, NF, NV, NX, B7⟩
            case measure => simp [intOf]; omega
      · have hkl : k = D.size := by omega
        have nl : ¬ (k : Int) < (D.size : Int) := by omega
        have F : Hid (f = true) := hide (by
          rw [unhide hF, hkl, ndrop_end, formG]
          obtain ⟨g1, _, g3⟩ := unhide HG
          obtain ⟨j, hj⟩ : ∃ j, D.size = j + 1 := ⟨D.size - 1, by omega⟩
          rw [hj, prevD]
          rw [hj, Nat.add_sub_cancel] at g3
          exact decide_eq_true g3)
        have V : Hid (valG b 0 D.data.toList = x) := hide (by rw [unhide hV, hkl, ndrop_end, valG])
        clear hF hV hX HG KB hkl
        go_wp2
        go_ret3
        rw [unhide F, unhide V]
        exact ⟨_, rfl, fun _ => unhide hLx, unhide hB⟩

end Go.Proofs.YtjlbbmpefjkamaaDoor.bigs
