/- The walks of package num: digitOf, formed, sizeWithin. -/
import Derived.Test.YtfgmjnfinbmkpaaDoorNumPlain
import Derived.Test.YtfgmjnfinbmkpaaDoorBigCut
set_option linter.unusedVariables false
namespace Go.Proofs.YtfgmjnfinbmkpaaDoor.bigs
open Go.RowKit

theorem nlen (s : ByteArray) : s.data.toList.length = s.size := by rw [Array.length_toList]; rfl
theorem ndrop (s : ByteArray) (k : Nat) (h : k < s.size) : s.data.toList.drop k = (s[k]'h) :: s.data.toList.drop (k + 1) := by
  rw [List.drop_eq_getElem_cons (by rw [nlen]; exact h)]
  rfl
theorem ndrop_end (s : ByteArray) : s.data.toList.drop s.size = [] := by rw [← nlen, List.drop_length]
theorem hexv_dec {c : UInt8} (h1 : 48 ≤ c.toNat) (h2 : c.toNat ≤ 57) : hexv c = c.toNat - 48 := by unfold hexv; rw [if_pos ⟨h1, h2⟩]
theorem hexv_small {c : UInt8} (h1 : 97 ≤ c.toNat) (h2 : c.toNat ≤ 102) : hexv c = c.toNat - 97 + 10 := by unfold hexv; rw [if_neg (by omega), if_pos ⟨h1, h2⟩]
theorem hexv_great {c : UInt8} (h1 : 65 ≤ c.toNat) (h2 : c.toNat ≤ 70) : hexv c = c.toNat - 65 + 10 := by unfold hexv; rw [if_neg (by omega), if_neg (by omega), if_pos ⟨h1, h2⟩]
theorem hexv_none {c : UInt8} (h1 : ¬ (48 ≤ c.toNat ∧ c.toNat ≤ 57)) (h2 : ¬ (97 ≤ c.toNat ∧ c.toNat ≤ 102)) (h3 : ¬ (65 ≤ c.toNat ∧ c.toNat ≤ 70)) : hexv c = 16 := by unfold hexv; rw [if_neg h1, if_neg h2, if_neg h3]
/-- What one more byte makes of the form. -/
theorem form_step (b : Nat) (q : Bool) (s : ByteArray) (k : Nat) (h : k < s.size) : formG b q (s.data.toList.drop k) = if (s[k]'h) = 95 ∧ q = true then formG b false (s.data.toList.drop (k + 1)) else if b ≤ hexv (s[k]'h) then false else formG b true (s.data.toList.drop (k + 1)) := by
  rw [ndrop s k h, formG]
theorem u8_eq (a : UInt8) (n : Nat) (hn : n < 256) : a = UInt8.ofNat n ↔ a.toNat = n := by
  constructor
  · intro h; rw [h]; simp [UInt8.toNat_ofNat']; omega
  · intro h; rw [← h]; simp
/-- What one more byte makes of the number. -/
theorem valG_step (b n : Nat) (s : ByteArray) (k : Nat) (h : k < s.size) : valG b n (s.data.toList.drop k) = if (s[k]'h) = 95 then valG b n (s.data.toList.drop (k + 1)) else valG b (n * b + hexv (s[k]'h)) (s.data.toList.drop (k + 1)) := by
  rw [ndrop s k h, valG]
theorem u64_wrap (x : Int) (h0 : 0 ≤ x) (h1 : x < 18446744073709551616) : IntKind.u64.wrap x = x := by
  simp [IntKind.wrap, IntKind.bits, IntKind.signed]
  omega
theorem room {lim d b n : Nat} (hb : 0 < b) (hd : d ≤ lim) : n ≤ (lim - d) / b ↔ n * b + d ≤ lim := by
  rw [Nat.le_div_iff_mul_le hb]
  omega
end Go.Proofs.YtfgmjnfinbmkpaaDoor.bigs
