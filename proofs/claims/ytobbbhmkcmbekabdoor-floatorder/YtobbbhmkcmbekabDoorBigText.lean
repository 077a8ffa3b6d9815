/- The walks of the document's answer: Digits. -/
import Derived.Test.YtobbbhmkcmbekabDoorBigDec
import Derived.Laws.BytesString
import Derived.Laws.Cells
import Derived.Laws.Concat
import Derived.Lib.Strings
set_option linter.unusedVariables false
namespace Go.Proofs.YtobbbhmkcmbekabDoor.bigs
open Go.RowKit

/-- The decimal digits of a number, the greatest first; none of 0. -/
def toDecG : Nat → Nat → List UInt8
  | 0, _ => []
  | f + 1, n => if n = 0 then [] else toDecG f (n / 10) ++ [UInt8.ofNat (48 + n % 10)]
theorem toDecG_zero (f : Nat) : toDecG f 0 = [] := by cases f <;> rfl
theorem toDecG_same (n : Nat) : ∀ (f g : Nat), n ≤ f → n ≤ g → toDecG f n = toDecG g n := by
  induction n using Nat.strongRecOn with
  | ind n ih =>
    intro f g hf hg
    by_cases h : n = 0
    · rw [h, toDecG_zero, toDecG_zero]
    · obtain ⟨f', rfl⟩ : ∃ f', f = f' + 1 := ⟨f - 1, by omega⟩
      obtain ⟨g', rfl⟩ : ∃ g', g = g' + 1 := ⟨g - 1, by omega⟩
      rw [toDecG, toDecG, if_neg h, if_neg h, ih (n / 10) (by omega) f' g' (by omega) (by omega)]
def toDec (n : Nat) : List UInt8 := toDecG n n
/-- The text of a number. -/
def decs (n : Nat) : List UInt8 := if n = 0 then [48] else toDec n
theorem toDec_zero : toDec 0 = [] := rfl
theorem toDec_pos {n : Nat} (h : n ≠ 0) : toDec n = toDec (n / 10) ++ [UInt8.ofNat (48 + n % 10)] := by
  obtain ⟨m, rfl⟩ : ∃ m, n = m + 1 := ⟨n - 1, by omega⟩
  unfold toDec
  rw [toDecG, if_neg h, toDecG_same ((m + 1) / 10) m ((m + 1) / 10) (by omega) (Nat.le_refl _)]
theorem byte_of (k : Nat) (h : k < 256) : (UInt8.ofNat k).toNat = k := by simp [UInt8.toNat_ofNat']; omega
theorem dig10_append {a b : List UInt8} : Dig10 (a ++ b) ↔ Dig10 a ∧ Dig10 b := by
  constructor
  · intro h
    exact ⟨fun x hx => h x (List.mem_append_left _ hx), fun x hx => h x (List.mem_append_right _ hx)⟩
  · rintro ⟨h1, h2⟩ x hx
    rcases List.mem_append.1 hx with h | h
    · exact h1 x h
    · exact h2 x h
theorem toDec_dig (n : Nat) : Dig10 (toDec n) := by
  induction n using Nat.strongRecOn with
  | ind n ih =>
    by_cases h : n = 0
    · subst h; rw [toDec_zero]; intro b hb; cases hb
    · rw [toDec_pos h, dig10_append]
      refine ⟨ih _ (by omega), ?_⟩
      intro b hb
      rw [List.mem_singleton] at hb
      subst hb
      rw [byte_of _ (by omega)]
      omega
theorem dec_toDec (n : Nat) : dec (toDec n) = n := by
  induction n using Nat.strongRecOn with
  | ind n ih =>
    by_cases h : n = 0
    · subst h; rw [toDec_zero]; rfl
    · rw [toDec_pos h, dec_snoc, ih _ (by omega), byte_of _ (by omega)]
      omega
theorem toDec_uniq : ∀ (k : Nat) (l : List UInt8), l.length = k → Dig10 l → (l = [] ∨ l.getD 0 0 ≠ 48) → toDec (dec l) = l
  | 0, l, hk, _, _ => by
    have : l = [] := List.eq_nil_of_length_eq_zero hk
    subst this
    exact toDec_zero
  | k + 1, l, hk, hd, hh => by
    rcases List.eq_nil_or_concat l with e | ⟨a, b, e⟩
    · subst e; simp at hk
    · subst e
      rw [List.concat_eq_append] at *
      obtain ⟨h1, h2⟩ := dig10_append.1 hd
      have hb := h2 b (List.mem_singleton_self b)
      have hak : a.length = k := by simp at hk; exact hk
      have ha : a = [] ∨ a.getD 0 0 ≠ 48 := by
        cases a with
        | nil => exact .inl rfl
        | cons x r =>
          right
          rcases hh with hh | hh
          · simp at hh
          · simpa using hh
      have ih := toDec_uniq k a hak h1 ha
      have hne : dec (a ++ [b]) ≠ 0 := by
        intro e
        rw [dec_snoc] at e
        have e0 : dec a = 0 := by omega
        rw [e0, toDec_zero] at ih
        subst ih
        rcases hh with hh | hh
        · simp at hh
        · have hb2 : b.toNat = 48 := by simp [dec] at e; omega
          apply hh
          have : b = 48 := UInt8.toNat_inj.1 hb2
          rw [this]; rfl
      rw [toDec_pos hne]
      have e1 : dec (a ++ [b]) / 10 = dec a := by rw [dec_snoc]; omega
      have e2 : 48 + dec (a ++ [b]) % 10 = b.toNat := by rw [dec_snoc]; omega
      rw [e1, e2, ih]
      congr 2
      exact UInt8.toNat_inj.1 (byte_of _ (by omega))
/-- A round of the digits of one place. -/
theorem told_round {l : List UInt8} {V i r a : Nat} (hl : l.length = 4 * i + r) (h : dec l = V + 10 ^ (4 * i) * (a % 10 ^ r)) :
    dec (UInt8.ofNat (48 + a / 10 ^ r % 10) :: l) = V + 10 ^ (4 * i) * (a % 10 ^ (r + 1)) := by
  rw [dec_cons, byte_of _ (by omega), hl, h, Nat.mod_pow_succ, Nat.mul_add, ← Nat.mul_assoc (10 ^ (4 * i)), ← Nat.pow_add]
  have e : 48 + a / 10 ^ r % 10 - 48 = a / 10 ^ r % 10 := by omega
  rw [e, Nat.mul_comm (a / 10 ^ r % 10)]
  omega
theorem told_next (A : List Nat) (i : Nat) (h : A.getD i 0 < 10000) : val (A.take i) + 10 ^ (4 * i) * (A.getD i 0 % 10 ^ 4) = val (A.take (i + 1)) := by
  rw [val_take_next, Nat.mod_eq_of_lt (show A.getD i 0 < 10 ^ 4 from h), Nat.pow_mul]

theorem conv_one (x : Nat) (w : World) :
    (convert 80 9 (.slice (some ⟨w.heap.size, 0, none⟩) 1 1)).run Tryd.prog (w.alloc (.cells #[.int .u8 (48 + (x : Int) % 10)] 5)) = .ok (.string ⟨#[UInt8.ofNat (48 + x % 10)]⟩) (w.alloc (.cells #[.int .u8 (48 + (x : Int) % 10)] 5)) := by
  rw [run_convert_bytes_string _ 80 9 5 _ _ _ Tryd.underlying80 Tryd.underlying5 Tryd.underlying9]
  have h := run_loadCells_list (P := Tryd.prog) (w := w.alloc (.cells #[.int .u8 (48 + (x : Int) % 10)] 5)) ⟨w.heap.size, 0, none⟩ [.int .u8 (48 + (x : Int) % 10)] (cell_one_new _ _ _)
  rw [run_bytesToString _ _ 1 1 [48 + (x : Int) % 10] h]
  have e : (48 + (x : Int) % 10).toNat = 48 + x % 10 := by omega
  simp only [List.foldl_cons, List.foldl_nil, e]
  rfl
theorem cat_one (c : UInt8) (t : ByteArray) : (⟨#[c]⟩ : ByteArray) ++ t = ⟨(c :: t.data.toList).toArray⟩ := by
  apply ByteArray.ext
  rw [ByteArray.data_append]
  apply Array.toList_inj.1
  simp

end Go.Proofs.YtobbbhmkcmbekabDoor.bigs
