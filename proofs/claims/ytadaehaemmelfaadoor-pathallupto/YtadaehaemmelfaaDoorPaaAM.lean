/- Of our texts, what this claim reaches. -/
import Derived.Test.YtadaehaemmelfaaDoorPaaAK
import Derived.Test.YtadaehaemmelfaaDoorPaaAJ
set_option linter.unusedVariables false
namespace Go.Proofs.YtadaehaemmelfaaDoor.escs
open utfs
open bigs (hexc digB digB_low digB_high)
def qr (r : Int) : List UInt8 :=
 if r = 34 then [92, 34] else if r = 92 then [92, 92] else if r = 10 then [92, 110] else if r = 9 then [92, 116] else if r = 13 then [92, 114]
 else if r < 32 ∨ r = 127 then [92, 117, 123] ++ (digB 16 r.toNat ++ [125]) else Lib.encodeRune r
def qs (rs : List Int) : List UInt8 := rs.flatMap qr
def quoteL (rs : List Int) : List UInt8 := 34 :: (qs rs ++ [34])
theorem qs_cons (r : Int) (rs : List Int) : qs (r :: rs) = qr r ++ qs rs := by simp [qs]
theorem qs_append (a b : List Int) : qs (a ++ b) = qs a ++ qs b := by simp [qs]
theorem qs_one (r : Int) : qs [r] = qr r := by simp [qs]
theorem qr_cases (r : Int) (h : sc r = true) : (r = 34 ∨ r = 92 ∨ r = 10 ∨ r = 9 ∨ r = 13) ∨ ((r < 32 ∨ r = 127) ∧ r ≠ 34 ∧ r ≠ 92 ∧ r ≠ 10 ∧ r ≠ 9 ∧ r ≠ 13) ∨ (32 ≤ r ∧ r ≠ 127 ∧ r ≠ 34 ∧ r ≠ 92) := by omega
theorem qr_hex {r : Int} (h : r < 32 ∨ r = 127) (h1 : r ≠ 10) (h2 : r ≠ 9) (h3 : r ≠ 13) : qr r = 92 :: 117 :: 123 :: (digB 16 r.toNat ++ [125]) := by
 unfold qr
 rw [if_neg (by omega), if_neg (by omega), if_neg h1, if_neg h2, if_neg h3, if_pos h]
 rfl
theorem qr_plain {r : Int} (h0 : 32 ≤ r) (h1 : r ≠ 127) (h2 : r ≠ 34) (h3 : r ≠ 92) : qr r = Lib.encodeRune r := by
 unfold qr
 rw [if_neg h2, if_neg h3, if_neg (by omega), if_neg (by omega), if_neg (by omega), if_neg (by omega)]
theorem hex_two {r : Int} (h0 : 0 ≤ r) (h : r < 32 ∨ r = 127) : (∃ d, d < 16 ∧ r.toNat = d ∧ digB 16 r.toNat = [hexc d]) ∨ (∃ a d, a < 16 ∧ d < 16 ∧ r.toNat = a * 16 + d ∧ digB 16 r.toNat = [hexc a, hexc d]) := by
 by_cases c : r.toNat < 16
 ·exact .inl ⟨r.toNat, c, rfl, digB_low c⟩
 ·refine .inr ⟨r.toNat / 16, r.toNat % 16, by omega, by omega, by omega, ?_⟩
  rw [digB_high (by decide) (by omega), digB_low (b := 16) (n := r.toNat / 16) (by omega)]
  rfl
theorem qr_le {r : Int} (hs : sc r = true) : (qr r).length ≤ 6 ∧ (qr r).length ≤ 6 * (Lib.encodeRune r).length := by
 have h0 := sc_true hs
 have h4 := encodeRune_length r
 have key : (qr r).length ≤ 6 := by
  rcases qr_cases r hs with h | ⟨h, h34, h92, h10, h9, h13⟩ | ⟨h, h127, h34, h92⟩
  ·rcases h with rfl | rfl | rfl | rfl | rfl <;> decide
  ·rw [qr_hex h h10 h9 h13]
   rcases hex_two h0.1 h with ⟨d, _, _, eg⟩ | ⟨a, d, _, _, _, eg⟩ <;> rw [eg] <;> simp
  ·rw [qr_plain h h127 h34 h92]; omega
 exact ⟨key, by omega⟩
theorem qs_le : ∀ (rs : List Int), (∀ r ∈ rs, sc r = true) → (qs rs).length ≤ 6 * (enc rs).length
 | [], _ => by simp [qs]
 | r :: rs, h => by
  have a := qr_le (h r List.mem_cons_self)
  have b := qs_le rs (fun q hq => h q (List.mem_cons_of_mem _ hq))
  rw [qs_cons, enc_cons, List.length_append, List.length_append]
  omega
end Go.Proofs.YtadaehaemmelfaaDoor.escs
