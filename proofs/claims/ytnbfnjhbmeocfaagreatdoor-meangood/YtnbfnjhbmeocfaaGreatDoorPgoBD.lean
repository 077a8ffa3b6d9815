/- Of our texts, what this claim reaches. -/
import Derived.Test.YtnbfnjhbmeocfaaGreatDoorPgoBC
import Derived.Test.YtnbfnjhbmeocfaaGreatDoorPgoAZ
set_option linter.unusedVariables false
namespace Go.Proofs.YtnbfnjhbmeocfaaGreatDoor.bigs
open Go.RowKit

theorem dec_trim : ∀ l : List UInt8, dec (Lib.trimLeftB l 48) = dec l := by
  intro l
  induction l with
  | nil => rfl
  | cons b r ih =>
    unfold Lib.trimLeftB
    rw [List.dropWhile_cons]
    split
    · rename_i h
      have e : b = 48 := by simpa using h
      have ih' : dec (r.dropWhile (· == 48)) = dec r := ih
      rw [ih', e, dec_cons]
      simp
    · rfl
theorem trim_dig {l : List UInt8} (h : Dig10 l) : Dig10 (Lib.trimLeftB l 48) := fun b hb => h b ((List.dropWhile_sublist _).subset hb)
theorem trim_len (l : List UInt8) : (Lib.trimLeftB l 48).length ≤ l.length := (List.dropWhile_sublist _).length_le
theorem trim_head (l : List UInt8) : Lib.trimLeftB l 48 = [] ∨ (Lib.trimLeftB l 48).getD 0 0 ≠ 48 := by
  induction l with
  | nil => exact .inl rfl
  | cons b r ih =>
    unfold Lib.trimLeftB at *
    rw [List.dropWhile_cons]
    split
    · exact ih
    · rename_i h
      right
      simpa using h
theorem readT_any (w : World) (S : ByteArray) (hs : S.size ≤ 80) (d : Dig10 S.data.toList) (h : S.data.toList = [] ∨ S.data.toList.getD 0 0 ≠ 48) :
    Calls Tryz.prog 100 #[.string S] w fun e w' => ∃ v' x, e = .returned (.tuple #[v', .int .i64 x]) ∧ WBig w' v' (dec S.data.toList) ∧ Below w.heap.size w w' := by
  rcases h with h | h
  · refine (readForm_any w S (by omega) (fun f => f.1 h)).mono ?_
    rintro e w' ⟨a, cap, rfl, b⟩
    refine ⟨_, _, rfl, ?_, b⟩
    rw [h, dec_nil]
    exact ⟨a, cap, by rw [wdig_zero]; rfl, by rw [wdig_zero]; simp, by rw [wdig_zero]; exact fun h => absurd rfl h⟩
  · by_cases c : S.data.toList = []
    · rw [c] at h
      refine (readForm_any w S (by omega) (fun f => f.1 c)).mono ?_
      rintro e w' ⟨a, cap, rfl, b⟩
      refine ⟨_, _, rfl, ?_, b⟩
      rw [c, dec_nil]
      exact ⟨a, cap, by rw [wdig_zero]; rfl, by rw [wdig_zero]; simp, by rw [wdig_zero]; exact fun h => absurd rfl h⟩
    · refine (read_any w S (by omega) ⟨c, d, .inl h⟩).mono ?_
      rintro e w' ⟨v, rfl, hv, b⟩
      exact ⟨_, _, rfl, hv, b⟩
theorem dec_words9 {l : List UInt8} (d : Dig10 l) (h : l.length ≤ 80) : (wdig (dec l)).length ≤ 9 := by
  have h1 := dec_lt d
  have h2 : 10 ^ l.length ≤ 10 ^ 80 := Nat.pow_le_pow_right (by decide) h
  refine wdig_len_lt (Nat.lt_of_lt_of_le h1 (Nat.le_trans h2 ?_))
  decide
set_option maxHeartbeats 8000000 in
set_option maxRecDepth 100000 in
theorem nearN_any (w : World) (D : ByteArray) (y cl : Int) (hD : D.size ≤ 80) (d : Dig10 D.data.toList) (hc : max (-1000) (min y 1000) = cl) :
    Calls Tryz.prog 51 #[.agg #[.string D, .int .i64 y]] w fun e w' => ∃ r : Nat, e = .returned (.int .u64 r) ∧ NearD (dec D.data.toList) cl r ∧ Below w.heap.size w w' := by
  have e48 : (⟨#[48]⟩ : ByteArray).data.toList = [48] := rfl
  have K1 : ∀ w, Hid _ := fun w => hide (Tryz.strings_TrimLeft_one D 48 (by decide) w)
  have hl := trim_len D.data.toList
  rw [blen_list] at hl
  have K2 : ∀ w, Hid (Calls Tryz.prog 100 #[.string ⟨(Lib.trimLeftB D.data.toList 48).toArray⟩] w fun e w' => ∃ v' x, e = .returned (.tuple #[v', .int .i64 x]) ∧ WBig w' v' (dec D.data.toList) ∧ Below w.heap.size w w') := fun w => by
    have h := readT_any w ⟨(Lib.trimLeftB D.data.toList 48).toArray⟩ (by rw [arr_size]; omega) (trim_dig d) (trim_head _)
    have e : (⟨(Lib.trimLeftB D.data.toList 48).toArray⟩ : ByteArray).data.toList = Lib.trimLeftB D.data.toList 48 := rfl
    rw [e, dec_trim] at h
    exact hide h
  have hw := dec_words9 d (by rw [blen_list]; exact hD)
  have K3 : ∀ w v, WBig w v (dec D.data.toList) → Hid (Calls Tryz.prog 102 #[v, .int .i64 cl] w fun e w' => ∃ r : Nat, e = .returned (.tuple #[.int .u64 r, .int .i64 0]) ∧ NearD (dec D.data.toList) cl r ∧ Below w.heap.size w w') := fun w v hv => by
    have h := nearW_any w v (wdig (dec D.data.toList)) cl hv (words_wdig _) (by omega) (by rw [wval_wdig]; have := bits_le_words (dec D.data.toList); omega) (by omega) (by omega)
    rw [wval_wdig] at h
    exact hide h
  clear hl hw
  generalize dec D.data.toList = m at *
  have b0 : Below w.heap.size w (w.alloc (.cells #[.string D, .int .i64 y] 95)) := (Below.refl _ _).alloc (Nat.le_refl _) _
  have bk0 := blk_alloc w #[.string D, .int .i64 y] 95
  go_enter Tryz.func51, Tryz.ntmps51
  go_wp2_with fail
  generalize w.alloc (.cells #[.string D, .int .i64 y] 95) = w0 at *
  refine (unhide (K1 w0)).mono ?_
  rintro e w1 ⟨rfl, rfl⟩
  clear K1
  go_wp2_with fail
  refine (unhide (K2 w1)).mono ?_
  rintro e w2 ⟨v2, x2, rfl, h2, b2⟩
  have bw2 := b0.trans (b2.mono b0.size)
  have r1 := (bk0.below b2).cell 1 _ rfl
  have K4 := K3 w2 v2 h2
  clear K2 K3 h2 b2 b0 bk0
  go_wp2_with fail
  refine (unhide K4).mono ?_
  rintro e w3 ⟨r, rfl, hr, b3⟩
  have HR := hide hr
  have bw3 := bw2.trans (b3.mono bw2.size)
  clear hr b3 bw2 K4
  go_wp2
  go_ret
  exact ⟨r, rfl, unhide HR, bw3⟩
theorem or_sign (r : Nat) (hr : r < 9223372036854775808) : Go.bits .or .u64 9223372036854775808 (r : Int) = ((9223372036854775808 + r : Nat) : Int) := by
  have h := bits_join .u64 64 (by decide) wraps64 63 9223372036854775808 (r : Int) (by omega) (by omega) (by omega) (by omega) (by omega) (by omega)
  rw [h]
  omega
theorem or_zero (r : Nat) (hr : r < 9223372036854775808) : Go.bits .or .u64 0 (r : Int) = ((0 + r : Nat) : Int) := by
  have h := bits_join .u64 64 (by decide) wraps64 63 0 (r : Int) (by omega) (by omega) (by omega) (by omega) (by omega) (by omega)
  rw [h]
  omega
theorem num_len {t W P : List UInt8} {x : Int} (h : Num t W P x) : (W ++ P).length ≤ t.length ∧ Dig10 (W ++ P) := by
  obtain ⟨R, e, a, _, r⟩ := h
  have d : ∀ P, Dig10 P → Dig10 (W ++ P) := fun P hp b hb => by
    rcases List.mem_append.1 hb with h | h
    · exact a.2 b h
    · exact hp b h
  rcases r with ⟨rfl, p, _⟩ | ⟨Z, rfl, p, _⟩ | ⟨Z, rfl, rfl, _⟩
  · exact ⟨by rw [e]; simp, d P p.2⟩
  · exact ⟨by rw [e]; simp; omega, d P p.2⟩
  · exact ⟨by rw [e]; simp, d [] (fun b hb => by cases hb)⟩
theorem cap_alike {x z cl : Int} {p : Nat} (h : Cap x z) (hp : p ≤ 80) (hc : max (-1000) (min (z - (p : Int)) 1000) = cl) : Alike cl (x - (p : Int)) := by
  unfold Cap at h
  unfold Alike
  omega
set_option maxHeartbeats 8000000 in
set_option maxRecDepth 100000 in
theorem readW_core (w : World) (s t : ByteArray) (neg : Bool) (sg : Nat) (hs : s.size ≤ 80) (ht : t.size ≤ 80) (hnan : (s.toList == [110, 97, 110]) = false) (hinf : (t.toList == [105, 110, 102]) = false)
    (K1 : Hid (Calls Tryz.prog 46 #[.string s, .string ⟨#[45]⟩] w fun e w' => e = .returned (.tuple #[.string t, .bool neg]) ∧ w' = w)) (hsg : sg = if neg then 9223372036854775808 else 0) :
    Calls Tryz.prog 26 #[.string s] w fun e w' => ∃ (v : Nat) (x : Int), e = .returned (.tuple #[.int .u64 v, .int .i64 x]) ∧ Res t.data.toList sg v x ∧ Below w.heap.size w w' := by
  have K2 : ∀ w, Hid _ := fun w => hide (numeralW_any0 w t ht (hide (fun w => cutS_any w t 101 ht)))
  have i1 : ¬ (80 : Int) < (s.size : Int) := by omega
  have HS := hide hsg
  clear hsg
  cases hn : neg with
  | false =>
    subst hn
    have es : sg = 0 := unhide HS
    subst es
    clear HS
    go_enter Tryz.func26, Tryz.ntmps26
    go_wp2_with fail
    refine (unhide K1).mono ?_
    rintro e w1 ⟨rfl, rfl⟩
    go_wp2_with fail
    refine (unhide (K2 w1)).mono ?_
    rintro e w2 ⟨D, y, f, rfl, hres, b2⟩
    clear K1 K2
    rcases hres with ⟨rfl, W, P, x, z, hnum, hD, hcap, hy⟩ | ⟨rfl, hno⟩
    · obtain ⟨l1, l2⟩ := num_len hnum
      have hDl : D.size ≤ 80 := by rw [← blen_list, hD]; rw [blen_list] at l1; omega
      have hP : P.length ≤ 80 := by rw [List.length_append, blen_list] at l1; omega
      have b3 : Below w2.heap.size w2 (w2.alloc (.cells #[.string D, .int .i64 y] 95)) := (Below.refl _ _).alloc (Nat.le_refl _) _
      have K3 := hide (nearN_any (w2.alloc (.cells #[.string D, .int .i64 y] 95)) D y _ hDl (by rw [hD]; exact l2) rfl)
      have al := cap_alike hcap hP (by rw [← hy])
      have FN : ∀ r, NearD (dec D.data.toList) (max (-1000) (min y 1000)) r → Hid (NearD (dec (W ++ P)) (x - (P.length : Int)) r) := fun r h => hide (alike_near (by
        have := dec_lt l2
        refine Nat.lt_of_lt_of_le this (Nat.pow_le_pow_right (by decide) ?_)
        rw [blen_list] at l1
        omega) al (by rw [← hD]; exact h))
      have HNUM := hide hnum
      have bw3 := b2.trans (b3.mono b2.size)
      clear hnum hD hcap hy l1 l2 hP al b2 b3
      go_wp2_with fail
      refine (unhide K3).mono ?_
      rintro e w4 ⟨r, rfl, hr, b4⟩
      have hrr := nearD_range hr
      have HN := FN r hr
      have bw4 := bw3.trans (b4.mono bw3.size)
      clear FN hr K3 b4 bw3
      by_cases hi : r = 9218868437227405312
      · subst hi
        have FR : Hid (Res t.data.toList 0 0 7) := hide (.inl ⟨W, P, x, _, unhide HNUM, unhide HN, .inl ⟨rfl, rfl, rfl⟩⟩)
        clear HNUM HN
        go_wp2
        go_ret2
        exact ⟨0, 7, rfl, unhide FR, bw4⟩
      · have FR : Hid (Res t.data.toList 0 (0 + r) 0) := hide (.inl ⟨W, P, x, r, unhide HNUM, unhide HN, .inr ⟨hi, rfl, rfl⟩⟩)
        have ho := or_zero r (by omega)
        have hne : ((r : Int) == 9218868437227405312) = false := beq_false_of_ne (by omega)
        have hz : (((0 + r : Nat)) : Int) = (r : Int) := by omega
        rw [hz] at ho
        clear HNUM HN hi hrr hz
        generalize hRI : (r : Int) = rI at *
        have HRI := hide hRI
        clear hRI
        go_wp2
        go_ret2
        refine ⟨0 + r, 0, ?_, unhide FR, bw4⟩
        rw [Nat.zero_add, unhide HRI]
        rfl
    · have FR : Hid (Res t.data.toList 0 0 4) := hide (.inr ⟨hno, rfl, rfl⟩)
      have b3 : Below w2.heap.size w2 (w2.alloc (.cells #[.string D, .int .i64 y] 95)) := (Below.refl _ _).alloc (Nat.le_refl _) _
      have bw3 := b2.trans (b3.mono b2.size)
      clear hno b2 b3
      go_wp2
      go_ret2
      exact ⟨0, 4, rfl, unhide FR, bw3⟩
  | true =>
    subst hn
    have es : sg = 9223372036854775808 := unhide HS
    subst es
    clear HS
    go_enter Tryz.func26, Tryz.ntmps26
    go_wp2_with fail
    refine (unhide K1).mono ?_
    rintro e w1 ⟨rfl, rfl⟩
    go_wp2_with fail
    refine (unhide (K2 w1)).mono ?_
    rintro e w2 ⟨D, y, f, rfl, hres, b2⟩
    clear K1 K2
    rcases hres with ⟨rfl, W, P, x, z, hnum, hD, hcap, hy⟩ | ⟨rfl, hno⟩
    · obtain ⟨l1, l2⟩ := num_len hnum
      have hDl : D.size ≤ 80 := by rw [← blen_list, hD]; rw [blen_list] at l1; omega
      have hP : P.length ≤ 80 := by rw [List.length_append, blen_list] at l1; omega
      have b3 : Below w2.heap.size w2 (w2.alloc (.cells #[.string D, .int .i64 y] 95)) := (Below.refl _ _).alloc (Nat.le_refl _) _
      have K3 := hide (nearN_any (w2.alloc (.cells #[.string D, .int .i64 y] 95)) D y _ hDl (by rw [hD]; exact l2) rfl)
      have al := cap_alike hcap hP (by rw [← hy])
      have FN : ∀ r, NearD (dec D.data.toList) (max (-1000) (min y 1000)) r → Hid (NearD (dec (W ++ P)) (x - (P.length : Int)) r) := fun r h => hide (alike_near (by
        have := dec_lt l2
        refine Nat.lt_of_lt_of_le this (Nat.pow_le_pow_right (by decide) ?_)
        rw [blen_list] at l1
        omega) al (by rw [← hD]; exact h))
      have HNUM := hide hnum
      have bw3 := b2.trans (b3.mono b2.size)
      clear hnum hD hcap hy l1 l2 hP al b2 b3
      go_wp2_with fail
      refine (unhide K3).mono ?_
      rintro e w4 ⟨r, rfl, hr, b4⟩
      have hrr := nearD_range hr
      have HN := FN r hr
      have bw4 := bw3.trans (b4.mono bw3.size)
      clear FN hr K3 b4 bw3
      by_cases hi : r = 9218868437227405312
      · subst hi
        have FR : Hid (Res t.data.toList 9223372036854775808 0 7) := hide (.inl ⟨W, P, x, _, unhide HNUM, unhide HN, .inl ⟨rfl, rfl, rfl⟩⟩)
        clear HNUM HN
        go_wp2
        go_ret2
        exact ⟨0, 7, rfl, unhide FR, bw4⟩
      · have FR : Hid (Res t.data.toList 9223372036854775808 (9223372036854775808 + r) 0) := hide (.inl ⟨W, P, x, r, unhide HNUM, unhide HN, .inr ⟨hi, rfl, rfl⟩⟩)
        have ho := or_sign r (by omega)
        have hne : ((r : Int) == 9218868437227405312) = false := beq_false_of_ne (by omega)
        clear HNUM HN hi hrr
        generalize hRI : (r : Int) = rI at *
        generalize hQI : (((9223372036854775808 + r : Nat)) : Int) = qI at *
        have HQI := hide hQI
        clear hRI hQI
        go_wp2
        go_ret2
        refine ⟨9223372036854775808 + r, 0, ?_, unhide FR, bw4⟩
        rw [unhide HQI]
        rfl
    · have FR : Hid (Res t.data.toList 9223372036854775808 0 4) := hide (.inr ⟨hno, rfl, rfl⟩)
      have b3 : Below w2.heap.size w2 (w2.alloc (.cells #[.string D, .int .i64 y] 95)) := (Below.refl _ _).alloc (Nat.le_refl _) _
      have bw3 := b2.trans (b3.mono b2.size)
      clear hno b2 b3
      go_wp2
      go_ret2
      exact ⟨0, 4, rfl, unhide FR, bw3⟩
end Go.Proofs.YtnbfnjhbmeocfaaGreatDoor.bigs
set_option linter.unusedVariables false
namespace Go.Proofs.YtnbfnjhbmeocfaaGreatDoor.bigs
open Go.RowKit

def Sign (l t : List UInt8) (sg : Nat) : Prop := (l = 45 :: t ∧ sg = 9223372036854775808) ∨ ((∀ r, l ≠ 45 :: r) ∧ t = l ∧ sg = 0)
def ReadsTo (l : List UInt8) (v : Nat) (x : Int) : Prop :=
  (80 < l.length ∧ v = 0 ∧ x = 2) ∨ (l.length ≤ 80 ∧ l = [110, 97, 110] ∧ v = 9221120237041090561 ∧ x = 0) ∨
  (l.length ≤ 80 ∧ l ≠ [110, 97, 110] ∧ ∃ t sg, Sign l t sg ∧ ((t = [105, 110, 102] ∧ v = sg + 9218868437227405312 ∧ x = 0) ∨ (t ≠ [105, 110, 102] ∧ Res t sg v x)))
theorem sign_unique {l t t' : List UInt8} {sg sg' : Nat} (h : Sign l t sg) (k : Sign l t' sg') : t = t' ∧ sg = sg' := by
  rcases h with ⟨a, b⟩ | ⟨a, b, c⟩ <;> rcases k with ⟨a', b'⟩ | ⟨a', b', c'⟩
  · rw [a] at a'; injection a' with _ e; exact ⟨e, by rw [b, b']⟩
  · exact absurd a (a' t)
  · exact absurd a' (a t')
  · exact ⟨by rw [b, b'], by rw [c, c']⟩
theorem reads_unique {l : List UInt8} {v v' : Nat} {x x' : Int} (h : ReadsTo l v x) (k : ReadsTo l v' x') : v = v' ∧ x = x' := by
  rcases h with ⟨a, b, c⟩ | ⟨a, b, c, d⟩ | ⟨a, b, t, sg, s, r⟩ <;> rcases k with ⟨a', b', c'⟩ | ⟨a', b', c', d'⟩ | ⟨a', b', t', sg', s', r'⟩
  · exact ⟨by rw [b, b'], by rw [c, c']⟩
  · omega
  · omega
  · omega
  · exact ⟨by rw [c, c'], by rw [d, d']⟩
  · exact absurd b b'
  · omega
  · exact absurd b' b
  · obtain ⟨e1, e2⟩ := sign_unique s s'
    subst e1 e2
    rcases r with ⟨r1, r2, r3⟩ | ⟨r1, r2⟩ <;> rcases r' with ⟨q1, q2, q3⟩ | ⟨q1, q2⟩
    · exact ⟨by rw [r2, q2], by rw [r3, q3]⟩
    · exact absurd r1 q1
    · exact absurd q1 r1
    · exact res_unique r2 q2
theorem list_beq {s : ByteArray} {l : List UInt8} : (s.toList == l) = decide (s.data.toList = l) := by
  rw [ByteArray.toList_eq]
  by_cases h : s.data.toList = l
  · rw [decide_eq_true h, h]; simp
  · rw [decide_eq_false h]; simp [h]
theorem sign_exists (l : List UInt8) : ∃ t sg, Sign l t sg ∧ t.length ≤ l.length ∧ ((Lib.hasPrefix l [45] = true ∧ Lib.trimPrefix l [45] = t ∧ sg = 9223372036854775808) ∨ (Lib.hasPrefix l [45] = false ∧ Lib.trimPrefix l [45] = t ∧ sg = 0)) := by
  by_cases h : ∃ r, l = 45 :: r
  · obtain ⟨r, rfl⟩ := h
    exact ⟨r, _, .inl ⟨rfl, rfl⟩, by simp, .inl ⟨(pre_yes 45 r).1, (pre_yes 45 r).2, rfl⟩⟩
  · have n : ∀ r, l ≠ 45 :: r := fun r e => h ⟨r, e⟩
    exact ⟨l, _, .inr ⟨n, rfl, rfl⟩, Nat.le_refl _, .inr ⟨(pre_no n).1, (pre_no n).2, rfl⟩⟩
set_option maxHeartbeats 8000000 in
set_option maxRecDepth 100000 in
theorem readW_large (w : World) (s : ByteArray) (hs : 80 < s.size) (hs2 : s.size ≤ 140737488355328) :
    Calls Tryz.prog 26 #[.string s] w fun e w' => e = .returned (.tuple #[.int .u64 0, .int .i64 2]) ∧ Below w.heap.size w w' := by
  have i1 : (80 : Int) < (s.size : Int) := by omega
  go_enter Tryz.func26, Tryz.ntmps26
  go_wp2
  go_ret2
  exact ⟨rfl, Below.refl _ _⟩
set_option maxHeartbeats 8000000 in
set_option maxRecDepth 100000 in
theorem readW_nan (w : World) (s : ByteArray) (hs : s.size ≤ 80) (hn : (s.toList == [110, 97, 110]) = true) :
    Calls Tryz.prog 26 #[.string s] w fun e w' => e = .returned (.tuple #[.int .u64 9221120237041090561, .int .i64 0]) ∧ Below w.heap.size w w' := by
  have i1 : ¬ (80 : Int) < (s.size : Int) := by omega
  go_enter Tryz.func26, Tryz.ntmps26
  go_wp2
  go_ret2
  exact ⟨rfl, Below.refl _ _⟩
set_option maxHeartbeats 8000000 in
set_option maxRecDepth 100000 in
theorem readW_inf (w : World) (s t : ByteArray) (neg : Bool) (hs : s.size ≤ 80) (hn : (s.toList == [110, 97, 110]) = false) (hi : (t.toList == [105, 110, 102]) = true)
    (K1 : Hid (Calls Tryz.prog 46 #[.string s, .string ⟨#[45]⟩] w fun e w' => e = .returned (.tuple #[.string t, .bool neg]) ∧ w' = w)) :
    Calls Tryz.prog 26 #[.string s] w fun e w' => e = .returned (.tuple #[.int .u64 (if neg then 18442240474082181120 else 9218868437227405312), .int .i64 0]) ∧ Below w.heap.size w w' := by
  have i1 : ¬ (80 : Int) < (s.size : Int) := by omega
  have o1 : Go.bits .or .u64 0 9218868437227405312 = 9218868437227405312 := by decide
  have o2 : Go.bits .or .u64 9223372036854775808 9218868437227405312 = 18442240474082181120 := by decide
  cases neg with
  | false =>
    go_enter Tryz.func26, Tryz.ntmps26
    go_wp2_with fail
    refine (unhide K1).mono ?_
    rintro e w1 ⟨rfl, rfl⟩
    go_wp2
    go_ret2
    exact ⟨rfl, Below.refl _ _⟩
  | true =>
    go_enter Tryz.func26, Tryz.ntmps26
    go_wp2_with fail
    refine (unhide K1).mono ?_
    rintro e w1 ⟨rfl, rfl⟩
    go_wp2
    go_ret2
    exact ⟨rfl, Below.refl _ _⟩
theorem readW_any (w : World) (s : ByteArray) (hs2 : s.size ≤ 140737488355328) :
    Calls Tryz.prog 26 #[.string s] w fun e w' => ∃ (v : Nat) (x : Int), e = .returned (.tuple #[.int .u64 v, .int .i64 x]) ∧ ReadsTo s.data.toList v x ∧ Below w.heap.size w w' := by
  have sl := blen_list s
  by_cases h1 : 80 < s.size
  · refine (readW_large w s h1 hs2).mono ?_
    rintro e w' ⟨rfl, b⟩
    exact ⟨0, 2, rfl, .inl ⟨by omega, rfl, rfl⟩, b⟩
  · by_cases h2 : s.data.toList = [110, 97, 110]
    · refine (readW_nan w s (by omega) (by rw [list_beq]; exact decide_eq_true h2)).mono ?_
      rintro e w' ⟨rfl, b⟩
      exact ⟨9221120237041090561, 0, rfl, .inr (.inl ⟨by omega, h2, rfl, rfl⟩), b⟩
    · have n2 : (s.toList == [110, 97, 110]) = false := by rw [list_beq]; exact decide_eq_false h2
      obtain ⟨t, sg, S, tl, pq⟩ := sign_exists s.data.toList
      have K1 := Tryz.strings_CutPrefix s ⟨#[45]⟩ w
      have e45 : (⟨#[45]⟩ : ByteArray).data.toList = [45] := rfl
      rw [e45] at K1
      have tsz : (⟨t.toArray⟩ : ByteArray).size ≤ 80 := by rw [arr_size]; omega
      have td : (⟨t.toArray⟩ : ByteArray).data.toList = t := rfl
      obtain ⟨neg, hneg, KK, hsg⟩ : ∃ neg, Lib.hasPrefix s.data.toList [45] = neg ∧ Lib.trimPrefix s.data.toList [45] = t ∧ sg = if neg then 9223372036854775808 else 0 := by
        rcases pq with ⟨a, b, c⟩ | ⟨a, b, c⟩
        · exact ⟨true, a, b, c⟩
        · exact ⟨false, a, b, c⟩
      rw [hneg, KK] at K1
      by_cases h3 : t = [105, 110, 102]
      · refine (readW_inf w s ⟨t.toArray⟩ neg (by omega) n2 (by rw [list_beq]; exact decide_eq_true h3) (hide K1)).mono ?_
        rintro e w' ⟨rfl, b⟩
        refine ⟨sg + 9218868437227405312, 0, ?_, .inr (.inr ⟨by omega, h2, t, sg, S, .inl ⟨h3, rfl, rfl⟩⟩), b⟩
        rw [hsg]
        cases neg <;> rfl
      · refine (readW_core w s ⟨t.toArray⟩ neg sg (by omega) tsz n2 (by rw [list_beq]; exact decide_eq_false h3) (hide K1) hsg).mono ?_
        rintro e w' ⟨v, x, rfl, r, b⟩
        exact ⟨v, x, rfl, .inr (.inr ⟨by omega, h2, t, sg, S, .inr ⟨h3, r⟩⟩), b⟩
end Go.Proofs.YtnbfnjhbmeocfaaGreatDoor.bigs
