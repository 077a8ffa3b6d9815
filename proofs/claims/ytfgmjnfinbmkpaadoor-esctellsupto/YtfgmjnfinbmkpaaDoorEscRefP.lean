/- Plain facts for the document's Unquoted: it reads up to seven digits. -/
import Derived.Test.YtfgmjnfinbmkpaaDoorEscRefK
import Derived.Test.YtfgmjnfinbmkpaaDoorRefHex
set_option linter.unusedVariables false
namespace Go.Proofs.YtfgmjnfinbmkpaaDoor.escs
open Go.RowKit
open utfs
open bigs (ndrop hexv hexd u8_eq)

theorem hexF_cut : ∀ (f v : Nat) (l : List UInt8), (hexF (f + 1) v l).2 ≤ f → hexF f v l = hexF (f + 1) v l
  | 0, v, [], _ => rfl
  | 0, v, c :: l, h => by
    by_cases hc : hexv c < 16
    · rw [hexF_yes hc] at h; simp at h
    · rw [hexF_no hc]; rfl
  | f + 1, v, [], _ => rfl
  | f + 1, v, c :: l, h => by
    by_cases hc : hexv c < 16
    · rw [hexF_yes hc] at h
      simp only at h
      rw [hexF_yes hc, hexF_yes hc, hexF_cut f (v * 16 + hexv c) l (by omega)]
    · rw [hexF_no hc, hexF_no hc]
theorem hexF_over : ∀ (f v : Nat) (l : List UInt8), (hexF (f + 1) v l).2 = f + 1 → (hexF f v l).2 = f ∧ ∃ c, (l.drop f).head? = some c ∧ hexv c < 16
  | 0, v, [], h => by simp [hexF] at h
  | 0, v, c :: l, h => by
    by_cases hc : hexv c < 16
    · exact ⟨rfl, c, rfl, hc⟩
    · rw [hexF_no hc] at h; simp at h
  | f + 1, v, [], h => by simp [hexF] at h
  | f + 1, v, c :: l, h => by
    by_cases hc : hexv c < 16
    · rw [hexF_yes hc] at h
      simp only at h
      obtain ⟨a, d, b1, b2⟩ := hexF_over f (v * 16 + hexv c) l (by omega)
      rw [hexF_yes hc]
      exact ⟨by simp only; omega, d, b1, b2⟩
    · rw [hexF_no hc] at h; simp at h
theorem num7_none {l : List UInt8} {v : Nat} (h : hexF 7 0 l = (v, 0)) : numQ l = .inl 4 := numQ_none (v := v) (by rw [hexF_cut 6 0 l (by rw [h]; simp), h])
theorem num7_over {l : List UInt8} {v m : Nat} (h : hexF 7 0 l = (v, m)) (hm : 6 < m) : numQ l = .inl 4 := by
  have hl := (hexF_le 7 0 l).1
  rw [h] at hl
  simp only at hl
  obtain ⟨a, c, b1, b2⟩ := hexF_over 6 0 l (by rw [h]; simp only; omega)
  refine numQ_open (v := (hexF 6 0 l).1) (k := (hexF 6 0 l).2) rfl ?_
  rw [a, b1]
  intro e
  injection e with e
  rw [e, hexv_close] at b2
  omega
theorem num7_open {l : List UInt8} {v m : Nat} (h : hexF 7 0 l = (v, m)) (hm : m ≤ 6) (hh : (l.drop m).head? ≠ some 125) : numQ l = .inl 4 := numQ_open (v := v) (k := m) (by rw [hexF_cut 6 0 l (by rw [h]; exact hm), h]) hh
theorem num7_shut {l : List UInt8} {v m : Nat} (h : hexF 7 0 l = (v, m)) (h0 : m ≠ 0) (hm : m ≤ 6) (hh : (l.drop m).head? = some 125) : numQ l = if sc (v : Int) = true then .inr ((v : Int), (m + 4)) else .inl 3 := numQ_shut (v := v) (k := m) (by rw [hexF_cut 6 0 l (by rw [h]; exact hm), h]) h0 hh
/-- What is read so far, up to seven digits behind place p. -/
def Up7 (L : List UInt8) (p v j : Nat) : Prop := hexF 7 0 (L.drop p) = ((hexF (7 - j) v (L.drop (p + j))).1, j + (hexF (7 - j) v (L.drop (p + j))).2)
theorem up7_start (L : List UInt8) (p : Nat) : Up7 L p 0 0 := by unfold Up7; simp
theorem up7_more {s : ByteArray} {p v j : Nat} (hk : p + j < s.size) (h7 : j < 7) (h : Up7 s.data.toList p v j) (hx : hexv (s[p + j]'hk) < 16) : Up7 s.data.toList p (v * 16 + hexv (s[p + j]'hk)) (j + 1) := by
  unfold Up7 at *
  rw [h, ndrop s (p + j) hk, show 7 - j = (7 - (j + 1)) + 1 by omega, hexF_yes hx]
  simp only
  apply Prod.ext
  · rfl
  · simp only [Nat.add_assoc]; omega
theorem up7_stop {s : ByteArray} {p v j : Nat} (h : Up7 s.data.toList p v j) (hx : ¬ p + j < s.size ∨ ¬ j < 7 ∨ ∃ hk : p + j < s.size, ¬ hexv (s[p + j]'hk) < 16) : hexF 7 0 (s.data.toList.drop p) = (v, j) := by
  unfold Up7 at h
  rw [h]
  have key : hexF (7 - j) v (s.data.toList.drop (p + j)) = (v, 0) := by
    rcases hx with hx | hx | ⟨hk, hx⟩
    · rw [List.drop_of_length_le (by rw [len_list]; omega), hexF_nil]
    · rw [show 7 - j = 0 by omega, hexF_zero]
    · rw [ndrop s (p + j) hk]
      rcases Nat.lt_or_ge j 7 with q | q
      · rw [show 7 - j = (7 - (j + 1)) + 1 by omega, hexF_no hx]
      · rw [show 7 - j = 0 by omega, hexF_zero]
  rw [key]
  simp
theorem up7_lt {L : List UInt8} {v m : Nat} (h : hexF 7 0 L = (v, m)) : v < 268435456 := by
  have := hexF_lt 7 0 L
  rw [h] at this
  simpa using this
theorem drop_head {s : ByteArray} {i : Nat} (h : i < s.size) : (s.data.toList.drop i).head? = some (s[i]'h) := by rw [ndrop s i h]; rfl
theorem drop_none {s : ByteArray} {i : Nat} (h : ¬ i < s.size) : (s.data.toList.drop i).head? = none := by rw [List.drop_of_length_le (by rw [len_list]; omega)]; rfl
/-- behind a stroke -/
theorem next_esc {s : ByteArray} {k : Nat} (h : k < s.size) (h92 : s[k]'h = 92) : nextQ (s.data.toList.drop k) = escQ (s.data.toList.drop (k + 1)) := by
  rw [ndrop s k h, nextQ_stroke h92]
theorem escQ_end {s : ByteArray} {k : Nat} (h : ¬ k < s.size) : escQ (s.data.toList.drop k) = .inl 4 := escQ_none (List.drop_of_length_le (by rw [len_list]; omega))
theorem take_two_ne {c : UInt8} {t : List UInt8} (h : c ≠ 117) : (c :: t).take 2 ≠ [117, 123] := fun e => by
  rw [List.take_succ_cons] at e
  injection e with e1 e2
  exact h e1
theorem escQ_self {s : ByteArray} {k : Nat} (h : k < s.size) (hc : s[k]'h = 34 ∨ s[k]'h = 92 ∨ s[k]'h = 47) : escQ (s.data.toList.drop k) = .inr (((s[k]'h).toNat : Int), 2) := by
  rw [ndrop s k h, escQ_one (take_two_ne (by rcases hc with e | e | e <;> rw [e] <;> decide)), if_pos hc]
theorem escQ_n {s : ByteArray} {k : Nat} (h : k < s.size) (hc : s[k]'h = 110) : escQ (s.data.toList.drop k) = .inr (10, 2) := by
  rw [ndrop s k h, hc]
  simp [escQ]
theorem escQ_t {s : ByteArray} {k : Nat} (h : k < s.size) (hc : s[k]'h = 116) : escQ (s.data.toList.drop k) = .inr (9, 2) := by
  rw [ndrop s k h, hc]
  simp [escQ]
theorem escQ_r {s : ByteArray} {k : Nat} (h : k < s.size) (hc : s[k]'h = 114) : escQ (s.data.toList.drop k) = .inr (13, 2) := by
  rw [ndrop s k h, hc]
  simp [escQ]
theorem escQ_else {s : ByteArray} {k : Nat} (h : k < s.size) (h0 : s[k]'h ≠ 34) (h1 : s[k]'h ≠ 92) (h2 : s[k]'h ≠ 47) (h3 : s[k]'h ≠ 110) (h4 : s[k]'h ≠ 116) (h5 : s[k]'h ≠ 114) (h6 : s[k]'h ≠ 117) : escQ (s.data.toList.drop k) = .inl 4 := by
  rw [ndrop s k h, escQ_one (take_two_ne h6), if_neg (by rintro (e | e | e); exact h0 e; exact h1 e; exact h2 e), if_neg h3, if_neg h4, if_neg h5]
theorem escQ_u {s : ByteArray} {k : Nat} (h : k < s.size) (hc : s[k]'h = 117) (hn : (s.data.toList.drop (k + 1)).head? ≠ some 123) : escQ (s.data.toList.drop k) = .inl 4 := by
  rw [ndrop s k h, hc]
  have : (117 :: s.data.toList.drop (k + 1)).take 2 ≠ [117, 123] := fun e => by
    obtain ⟨r, hr⟩ := two_front e
    injection hr with _ e2
    rw [e2] at hn
    exact hn rfl
  rw [escQ_one this, if_neg (by decide), if_neg (by decide), if_neg (by decide), if_neg (by decide)]
theorem escQ_num {s : ByteArray} {k : Nat} (h : k < s.size) (hc : s[k]'h = 117) (h2 : k + 1 < s.size) (hn : s[k + 1]'h2 = 123) : escQ (s.data.toList.drop k) = numQ (s.data.toList.drop (k + 2)) := by
  rw [ndrop s k h, hc, ndrop s (k + 1) h2, hn]
  unfold escQ
  rw [if_pos (by simp)]
  rfl
theorem cat_bb (S X : ByteArray) (h : S.size + X.size ≤ 9223372036854775807) :
    ∃ T : ByteArray, T.data.toList = S.data.toList ++ X.data.toList ∧ T.size = S.size + X.size ∧ ∀ u : World, (Op.stringOp .add S X).run Tryd.prog u = .ok (.string T) u := by
  obtain ⟨T, a, b, c⟩ := cat_sb S X.data.toList (by rw [len_list]; exact h)
  rw [len_list] at b
  rw [text_of (s := X) rfl] at c
  exact ⟨T, a, b, c⟩
theorem ext_mid (s : ByteArray) (a b : Nat) : (s.extract a b).data.toList = (s.data.toList.drop a).take (b - a) := by
  rw [ByteArray.data_extract, Array.toList_extract, List.extract_eq_take_drop]
theorem ext_one {s : ByteArray} {k : Nat} (h : k < s.size) : (s.extract k (k + 1)).data.toList = [s[k]'h] := by
  rw [ext_mid, ndrop s k h, show k + 1 - k = 1 by omega]
  rfl
theorem ext_size (s : ByteArray) {a b : Nat} (h : b ≤ s.size) : (s.extract a b).size = b - a := by
  rw [ByteArray.size_extract]; omega
theorem enc_more {S T : List UInt8} {acc : List Int} {r : Int} {x : List UInt8} (hS : S = enc acc) (hT : T = S ++ x) (hx : x = Lib.encodeRune r) : T = enc (acc ++ [r]) := by
  rw [enc_append, enc_one, hT, hS, hx]
theorem enc_byte {c : UInt8} (h : c.toNat < 128) : [c] = Lib.encodeRune (c.toNat : Int) := by
  rw [enc_low (by omega) (by omega)]
  simp
theorem slice_of (s : ByteArray) (a b : Nat) (x y : Int) (hx : x = (a : Int)) (hy : y = (b : Int)) (h1 : a ≤ b) (h2 : b ≤ s.size) (W : World) : (Instr.slice 9 (.string s) (some (.int .i64 x)) (some (.int .i64 y)) none).run Tryd.prog W = .ok (.string (s.extract a b)) W := by
  subst hx
  subst hy
  rw [run_slice_string W 9 s .i64 .i64 (a : Int) (b : Int) Tryd.underlying9 (by omega) (by omega) (by omega)]
  simp
theorem up7_next {s : ByteArray} {p v j i : Nat} (hi : i = p + j) (hk : i < s.size) (h7 : j < 7) (h : Up7 s.data.toList p v j) (hx : hexv (s[i]'hk) < 16) : Up7 s.data.toList p (v * 16 + hexv (s[i]'hk)) (j + 1) := by
  subst hi
  exact up7_more hk h7 h hx
theorem up7_end {s : ByteArray} {p v j i : Nat} (hi : i = p + j) (h : Up7 s.data.toList p v j) (hx : ¬ i < s.size ∨ ¬ j < 7 ∨ ∃ hk : i < s.size, ¬ hexv (s[i]'hk) < 16) : hexF 7 0 (s.data.toList.drop p) = (v, j) := by
  subst hi
  exact up7_stop h hx
theorem hexd_digit {c : UInt8} (h : hexv c < 16) : hexd c = hexv c := by unfold hexd; rw [if_neg (by omega)]
theorem hexd_none {c : UInt8} (h : ¬ hexv c < 16) : hexd c = 99 := by
  have := bigs.hexv_le c
  unfold hexd
  rw [if_pos (by omega)]
end Go.Proofs.YtfgmjnfinbmkpaaDoor.escs
