/- What is told between quotes is a good text with no line in it; keys; esc.Key. -/
import Derived.Test.YtfgmjnfinbmkpaaDoorEscUnquote
set_option linter.unusedVariables false
namespace Go.Proofs.YtfgmjnfinbmkpaaDoor.escs
open Go.RowKit
open utfs
open bigs (hexc digB bru64 tabKeep)

/-- bytes below 128 are their own scalars -/
theorem ascii_enc : ∀ (l : List UInt8), (∀ c ∈ l, c.toNat < 128) → ∃ ls : List Int, (∀ r ∈ ls, sc r = true) ∧ l = enc ls
  | [], _ => ⟨[], by simp, rfl⟩
  | c :: l, h => by
    obtain ⟨ls, h1, h2⟩ := ascii_enc l (fun d hd => h d (List.mem_cons_of_mem _ hd))
    have hc := h c List.mem_cons_self
    refine ⟨(c.toNat : Int) :: ls, ?_, ?_⟩
    · intro r hr
      rcases List.mem_cons.1 hr with rfl | hr
      · exact sc_low (by omega) (by omega)
      · exact h1 r hr
    · rw [enc_cons, enc_low (by omega) (by omega), ← h2]
      simp
theorem hexc_low {d : Nat} (h : d < 16) : (hexc d).toNat < 128 ∧ hexc d ≠ 10 := by
  have : ∀ k : Fin 16, (hexc k).toNat < 128 ∧ hexc k ≠ 10 := by decide
  exact this ⟨d, h⟩
theorem qr_good {r : Int} (hs : sc r = true) : (∃ ls : List Int, (∀ q ∈ ls, sc q = true) ∧ qr r = enc ls) ∧ (10 : UInt8) ∉ qr r := by
  have h0 := sc_true hs
  rcases qr_cases r hs with h | ⟨h, h34, h92, h10, h9, h13⟩ | ⟨h, h127, h34, h92⟩
  · rcases h with rfl | rfl | rfl | rfl | rfl
    all_goals exact ⟨ascii_enc _ (by decide), by decide⟩
  · rw [qr_hex h h10 h9 h13]
    rcases hex_two h0.1 h with ⟨d, hd, _, eg⟩ | ⟨a, d, ha, hd, _, eg⟩
    · rw [eg]
      have x := hexc_low hd
      refine ⟨ascii_enc _ ?_, ?_⟩
      · simp [x.1]
      · simp [Ne.symm x.2]
    · rw [eg]
      have x := hexc_low hd
      have y := hexc_low ha
      refine ⟨ascii_enc _ ?_, ?_⟩
      · simp [x.1, y.1]
      · simp [Ne.symm x.2, Ne.symm y.2]
  · rw [qr_plain h h127 h34 h92]
    refine ⟨⟨[r], by simpa using hs, by rw [enc_one]⟩, ?_⟩
    have ten : ∀ x : Int, 0 ≤ x → x < 256 → x ≠ 10 → (10 : UInt8) ≠ x.toNat.toUInt8 := fun x a b c e => by
      have := congrArg UInt8.toNat e
      rw [byte_toNat a b] at this
      have t : (10 : UInt8).toNat = 10 := rfl
      omega
    rcases code_forms hs with ⟨a, e⟩ | ⟨a, b, e⟩ | ⟨a, b, e⟩ | ⟨a, e⟩ <;> rw [e]
    · simp only [List.mem_singleton]
      exact ten _ (by omega) (by omega) (by omega)
    · simp only [List.mem_cons, List.not_mem_nil, or_false, not_or]
      exact ⟨ten _ (by omega) (by omega) (by omega), ten _ (by omega) (by omega) (by omega)⟩
    · simp only [List.mem_cons, List.not_mem_nil, or_false, not_or]
      exact ⟨ten _ (by omega) (by omega) (by omega), ten _ (by omega) (by omega) (by omega), ten _ (by omega) (by omega) (by omega)⟩
    · simp only [List.mem_cons, List.not_mem_nil, or_false, not_or]
      exact ⟨ten _ (by omega) (by omega) (by omega), ten _ (by omega) (by omega) (by omega), ten _ (by omega) (by omega) (by omega), ten _ (by omega) (by omega) (by omega)⟩
theorem qs_good : ∀ (rs : List Int), (∀ r ∈ rs, sc r = true) → (∃ ls : List Int, (∀ q ∈ ls, sc q = true) ∧ qs rs = enc ls) ∧ (10 : UInt8) ∉ qs rs
  | [], _ => ⟨⟨[], by simp, rfl⟩, by simp [qs]⟩
  | r :: rs, h => by
    obtain ⟨⟨l1, a1, e1⟩, n1⟩ := qr_good (h r List.mem_cons_self)
    obtain ⟨⟨l2, a2, e2⟩, n2⟩ := qs_good rs (fun q hq => h q (List.mem_cons_of_mem _ hq))
    rw [qs_cons]
    refine ⟨⟨l1 ++ l2, ?_, by rw [enc_append, e1, e2]⟩, ?_⟩
    · intro q hq
      rcases List.mem_append.1 hq with k | k
      · exact a1 q k
      · exact a2 q k
    · intro k
      rcases List.mem_append.1 k with k | k
      · exact n1 k
      · exact n2 k
theorem quoteL_good {rs : List Int} (h : ∀ r ∈ rs, sc r = true) : bad (quoteL rs) = -1 ∧ (10 : UInt8) ∉ quoteL rs := by
  obtain ⟨⟨ls, a, e⟩, n⟩ := qs_good rs h
  have he : quoteL rs = enc (34 :: (ls ++ [34])) := by
    have e34 : Lib.encodeRune 34 = [34] := by decide
    unfold quoteL
    rw [enc_cons, enc_append, enc_one, e34, e]
    rfl
  refine ⟨?_, ?_⟩
  · rw [he]
    apply bad_enc
    intro r hr
    rcases List.mem_cons.1 hr with rfl | hr
    · rfl
    · rcases List.mem_append.1 hr with k | k
      · exact a r k
      · simp only [List.mem_singleton] at k
        rw [k]; rfl
  · unfold quoteL
    intro k
    rcases List.mem_cons.1 k with k | k
    · cases k
    · rcases List.mem_append.1 k with k | k
      · exact n k
      · simp only [List.mem_singleton] at k
        cases k
theorem index_none : ∀ (l : List UInt8) (c : UInt8), c ∉ l → Lib.indexByte l c = -1
  | [], _, _ => rfl
  | b :: l, c, h => by
    have h1 : (b == c) = false := beq_false_of_ne (fun e => h (by rw [e]; exact List.mem_cons_self))
    have ih := index_none l c (fun k => h (List.mem_cons_of_mem _ k))
    unfold Lib.indexByte
    rw [h1, ih]
    rfl
theorem quoteL_len {rs : List Int} (h : ∀ r ∈ rs, sc r = true) : (quoteL rs).length ≤ 6 * (enc rs).length + 2 := by
  have := qs_le rs h
  unfold quoteL
  simp only [List.length_cons, List.length_append, List.length_nil]
  omega
theorem bare_good {l : List UInt8} (h : bareL l = true) : bad l = -1 := by
  have ha : l.all (fun c => inK c.toNat) = true := by
    unfold bareL at h
    simp only [Bool.and_eq_true] at h
    exact h.1.2
  obtain ⟨ls, a, e⟩ := ascii_enc l (fun c hc => by
    have := List.all_eq_true.1 ha c hc
    unfold inK opK at this
    simp only [Bool.or_eq_true, decide_eq_true_eq] at this
    omega)
  rw [e]
  exact bad_enc a
/-- The tables that package esc reads. -/
structure EscTabs (w : World) : Prop where
  utf : Lib.Utf8Tabs 2 3 w
  bru : Lib.TabIs Tryd.prog w "math/bits.deBruijn64tab" .u8 bru64
theorem EscTabs.below {w w' : World} (h : EscTabs w) (hb : Below w.heap.size w w') : EscTabs w' := ⟨Utf8Tabs_below h.utf hb, tabKeep h.bru hb⟩
theorem text_of {s : ByteArray} {l : List UInt8} (h : s.data.toList = l) : (⟨l.toArray⟩ : ByteArray) = s := by
  rw [← h]
/-- What Key answers. -/
def keyT (l : List UInt8) : List UInt8 := if bareL l = true then l else if 0 ≤ bad l then [] else quoteL (runes l)
def keyE (l : List UInt8) : Int := if bareL l = true then 0 else if 0 ≤ bad l then 3 else 0
def quoT (l : List UInt8) : List UInt8 := if 0 ≤ bad l then [] else quoteL (runes l)
def quoE (l : List UInt8) : Int := if 0 ≤ bad l then 3 else 0
theorem quote_any (w : World) (s : ByteArray) (hs : s.size ≤ 1073741824) (hT : EscTabs w) :
    Calls Tryd.prog 7 #[.string s] w fun e w' => e = .returned (.tuple #[.string ⟨(quoT s.data.toList).toArray⟩, .int .i64 (quoE s.data.toList)]) ∧ Below w.heap.size w w' := by
  unfold quoT quoE
  by_cases h : 0 ≤ bad s.data.toList
  · rw [if_pos h, if_pos h]
    exact quote_bad s w (by omega) hT.utf h
  · rw [if_neg h, if_neg h]
    obtain ⟨a, b⟩ := good_runes (l := s.data.toList) (by omega)
    exact quote_good s _ w hs hT.utf hT.bru a b
set_option maxHeartbeats 1000000 in
set_option maxRecDepth 100000 in
theorem key_any (w : World) (s : ByteArray) (hs : s.size ≤ 1073741824) (hT : EscTabs w) :
    Calls Tryd.prog 8 #[.string s] w fun e w' => e = .returned (.tuple #[.string ⟨(keyT s.data.toList).toArray⟩, .int .i64 (keyE s.data.toList)]) ∧ Below w.heap.size w w' := by
  have KB := hide (bare_any w s)
  have KQ := hide (quote_any w s hs hT)
  have e1 : keyT s.data.toList = if bareL s.data.toList = true then s.data.toList else quoT s.data.toList := rfl
  have e2 : keyE s.data.toList = if bareL s.data.toList = true then 0 else quoE s.data.toList := rfl
  rw [e1, e2]
  have et : (⟨s.data.toList.toArray⟩ : ByteArray) = s := text_of rfl
  clear hT e1 e2
  generalize bareL s.data.toList = b at *
  generalize quoT s.data.toList = T at *
  generalize quoE s.data.toList = E at *
  cases b with
  | true =>
    rw [if_pos rfl, if_pos rfl, et]
    clear et KQ
    go_enter Tryd.func8, Tryd.ntmps8
    go_wp2_with fail
    refine (unhide KB).mono ?_
    rintro _ w1 ⟨rfl, hw⟩
    rw [hw]
    clear hw
    go_wp2
    go_ret2
    exact ⟨rfl, Below.refl _ _⟩
  | false =>
    rw [if_neg (by decide), if_neg (by decide)]
    clear et
    go_enter Tryd.func8, Tryd.ntmps8
    go_wp2_with fail
    refine (unhide KB).mono ?_
    rintro _ w1 ⟨rfl, hw⟩
    rw [hw]
    clear hw
    go_wp2_with fail
    refine (unhide KQ).mono ?_
    rintro _ w1 ⟨rfl, b1⟩
    have B1 := hide b1
    clear b1 KQ KB
    go_wp2
    go_ret2
    exact ⟨rfl, unhide B1⟩
set_option maxHeartbeats 400000 in
theorem escs_any (w : World) : Calls Tryd.prog 16 #[] w fun e w' => e = .returned (.bool true) ∧ w' = w := by
  have K := bare_any w ⟨#[97]⟩
  have hb : bareL (⟨#[97]⟩ : ByteArray).data.toList = true := by decide
  rw [hb] at K
  have K := hide K
  clear hb
  go_enter Tryd.func16, Tryd.ntmps16
  go_wp2_with fail
  refine (unhide K).mono ?_
  rintro _ w1 ⟨rfl, hw⟩
  rw [hw]
  clear hw
  go_wp2
  go_ret
  exact ⟨rfl, rfl⟩
end Go.Proofs.YtfgmjnfinbmkpaaDoor.escs
