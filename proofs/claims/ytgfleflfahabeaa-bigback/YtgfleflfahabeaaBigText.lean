/- The walks of the document's answer: Digits. -/
import Derived.Test.YtgfleflfahabeaaBigDec
import Derived.Laws.BytesString
import Derived.Laws.Cells
import Derived.Laws.Concat
import Derived.Lib.Strings
set_option linter.unusedVariables false
namespace Go.Proofs.Ytgfleflfahabeaa.bigs
open Go.RowKit

/-- The decimal digits of a number, the greatest first; none of 0. -/
def toDecG : Nat → Nat → List UInt8
  | 0, _ => []
  | f + 1, n => if n = 0 then [] else toDecG f (n / 10) ++ [UInt8.ofNat (48 + n % 10)]
theorem toDecG_zero (f : Nat) : toDecG f 0 = [] := by cases f <;> rfl
theorem toDecG_same (n : Nat) : ∀ (f g : Nat), n ≤ f → n ≤ g → toDecG f n = toDecG g n := by
  induction n using Nat.strongRecOn with
  | ind n ih =>
    intro f g hf hg
    by_cases h : n = 0
    · rw [h, toDecG_zero, toDecG_zero]
    · obtain ⟨f', rfl⟩ : ∃ f', f = f' + 1 := ⟨f - 1, by omega⟩
      obtain ⟨g', rfl⟩ : ∃ g', g = g' + 1 := ⟨g - 1, by omega⟩
      rw [toDecG, toDecG, if_neg h, if_neg h, ih (n / 10) (by omega) f' g' (by omega) (by omega)]
def toDec (n : Nat) : List UInt8 := toDecG n n
/-- The text of a number. -/
def decs (n : Nat) : List UInt8 := if n = 0 then [48] else toDec n
theorem toDec_zero : toDec 0 = [] := rfl
theorem toDec_pos {n : Nat} (h : n ≠ 0) : toDec n = toDec (n / 10) ++ [UInt8.ofNat (48 + n % 10)] := by
  obtain ⟨m, rfl⟩ : ∃ m, n = m + 1 := ⟨n - 1, by omega⟩
  unfold toDec
  rw [toDecG, if_neg h, toDecG_same ((m + 1) / 10) m ((m + 1) / 10) (by omega) (Nat.le_refl _)]
theorem byte_of (k : Nat) (h : k < 256) : (UInt8.ofNat k).toNat = k := by simp [UInt8.toNat_ofNat']; omega
theorem dig10_append {a b : List UInt8} : Dig10 (a ++ b) ↔ Dig10 a ∧ Dig10 b := by
  constructor
  · intro h
    exact ⟨fun x hx => h x (List.mem_append_left _ hx), fun x hx => h x (List.mem_append_right _ hx)⟩
  · rintro ⟨h1, h2⟩ x hx
    rcases List.mem_append.1 hx with h | h
    · exact h1 x h
    · exact h2 x h
theorem toDec_dig (n : Nat) : Dig10 (toDec n) := by
  induction n using Nat.strongRecOn with
  | ind n ih =>
    by_cases h : n = 0
    · subst h; rw [toDec_zero]; intro b hb; cases hb
    · rw [toDec_pos h, dig10_append]
      refine ⟨ih _ (by omega), ?_⟩
      intro b hb
      rw [List.mem_singleton] at hb
      subst hb
      rw [byte_of _ (by omega)]
      omega
theorem dec_toDec (n : Nat) : dec (toDec n) = n := by
  induction n using Nat.strongRecOn with
  | ind n ih =>
    by_cases h : n = 0
    · subst h; rw [toDec_zero]; rfl
    · rw [toDec_pos h, dec_snoc, ih _ (by omega), byte_of _ (by omega)]
      omega
theorem toDec_uniq : ∀ (k : Nat) (l : List UInt8), l.length = k → Dig10 l → (l = [] ∨ l.getD 0 0 ≠ 48) → toDec (dec l) = l
  | 0, l, hk, _, _ => by
    have : l = [] := List.eq_nil_of_length_eq_zero hk
    subst this
    exact toDec_zero
  | k + 1, l, hk, hd, hh => by
    rcases List.eq_nil_or_concat l with e | ⟨a, b, e⟩
    · subst e; simp at hk
    · subst e
      rw [List.concat_eq_append] at *
      obtain ⟨h1, h2⟩ := dig10_append.1 hd
      have hb := h2 b (List.mem_singleton_self b)
      have hak : a.length = k := by simp at hk; exact hk
      have ha : a = [] ∨ a.getD 0 0 ≠ 48 := by
        cases a with
        | nil => exact .inl rfl
        | cons x r =>
          right
          rcases hh with hh | hh
          · simp at hh
          · simpa using hh
      have ih := toDec_uniq k a hak h1 ha
      have hne : dec (a ++ [b]) ≠ 0 := by
        intro e
        rw [dec_snoc] at e
        have e0 : dec a = 0 := by omega
        rw [e0, toDec_zero] at ih
        subst ih
        rcases hh with hh | hh
        · simp at hh
        · have hb2 : b.toNat = 48 := by simp [dec] at e; omega
          apply hh
          have : b = 48 := UInt8.toNat_inj.1 hb2
          rw [this]; rfl
      rw [toDec_pos hne]
      have e1 : dec (a ++ [b]) / 10 = dec a := by rw [dec_snoc]; omega
      have e2 : 48 + dec (a ++ [b]) % 10 = b.toNat := by rw [dec_snoc]; omega
      rw [e1, e2, ih]
      congr 2
      exact UInt8.toNat_inj.1 (byte_of _ (by omega))
/-- A round of the digits of one place. -/
theorem told_round {l : List UInt8} {V i r a : Nat} (hl : l.length = 4 * i + r) (h : dec l = V + 10 ^ (4 * i) * (a % 10 ^ r)) :
    dec (UInt8.ofNat (48 + a / 10 ^ r % 10) :: l) = V + 10 ^ (4 * i) * (a % 10 ^ (r + 1)) := by
  rw [dec_cons, byte_of _ (by omega), hl, h, Nat.mod_pow_succ, Nat.mul_add, ← Nat.mul_assoc (10 ^ (4 * i)), ← Nat.pow_add]
  have e : 48 + a / 10 ^ r % 10 - 48 = a / 10 ^ r % 10 := by omega
  rw [e, Nat.mul_comm (a / 10 ^ r % 10)]
  omega
theorem told_next (A : List Nat) (i : Nat) (h : A.getD i 0 < 10000) : val (A.take i) + 10 ^ (4 * i) * (A.getD i 0 % 10 ^ 4) = val (A.take (i + 1)) := by
  rw [val_take_next, Nat.mod_eq_of_lt (show A.getD i 0 < 10 ^ 4 from h), Nat.pow_mul]

theorem conv_one (x : Nat) (w : World) :
    (convert 70 9 (.slice (some ⟨w.heap.size, 0, none⟩) 1 1)).run Try.prog (w.alloc (.cells #[.int .u8 (48 + (x : Int) % 10)] 5)) = .ok (.string ⟨#[UInt8.ofNat (48 + x % 10)]⟩) (w.alloc (.cells #[.int .u8 (48 + (x : Int) % 10)] 5)) := by
  rw [run_convert_bytes_string _ 70 9 5 _ _ _ Try.underlying70 Try.underlying5 Try.underlying9]
  have h := run_loadCells_list (P := Try.prog) (w := w.alloc (.cells #[.int .u8 (48 + (x : Int) % 10)] 5)) ⟨w.heap.size, 0, none⟩ [.int .u8 (48 + (x : Int) % 10)] (cell_one_new _ _ _)
  rw [run_bytesToString _ _ 1 1 [48 + (x : Int) % 10] h]
  have e : (48 + (x : Int) % 10).toNat = 48 + x % 10 := by omega
  simp only [List.foldl_cons, List.foldl_nil, e]
  rfl
theorem cat_one (c : UInt8) (t : ByteArray) : (⟨#[c]⟩ : ByteArray) ++ t = ⟨(c :: t.data.toList).toArray⟩ := by
  apply ByteArray.ext
  rw [ByteArray.data_append]
  apply Array.toList_inj.1
  simp

set_option maxHeartbeats 8000000 in
set_option maxRecDepth 100000 in
theorem digits_any (w : World) (va : Value) (n : Nat) (hn : (dig n).length ≤ 100000) (ha : Lies w va n) :
    Calls Try.prog 30 #[va] w fun e w' => e = .returned (.string ⟨(decs n).toArray⟩) ∧ Below w.heap.size w w' := by
  obtain ⟨aa, ca, rfl, hca, ra⟩ := ha
  have sa := small_dig n
  have HV : Hid (val ((dig n).take (dig n).length) = n) := by show _ = _; rw [List.take_length, val_dig]
  generalize dig n = A at *
  go_enter Try.func30, Try.ntmps30
  go_wp2
  go_loopw [3, 8] (fun vs vi wr => ∃ (i : Nat) (t : ByteArray), vi = .int .i64 i ∧ vs = .string t ∧ i ≤ A.length ∧ t.size = 4 * i ∧ Hid (Dig10 t.data.toList) ∧ Hid (dec t.data.toList = val (A.take i)) ∧ Below w.heap.size w wr) (fun _ vi _ => A.length - (intOf vi).toNat)
  case atStart => exact ⟨0, ⟨#[]⟩, rfl, rfl, Nat.zero_le _, rfl, (fun b hb => by cases hb), rfl, Below.refl _ _⟩
  case round =>
    obtain ⟨i, t, rfl, rfl, hi, hts, hdt, hval, hbw⟩ := hrel
    by_cases hlt : i < A.length
    · obtain ⟨b, o, rfl, hb, hc⟩ := ra (by intro e; rw [e] at hlt; simp at hlt)
      have c1 : wr.cell? ⟨b, o + i, none⟩ = some (.int .i64 ((A.getD i 0 : Nat) : Int)) := by rw [hbw.cell (p := ⟨b, o + i, none⟩) hb]; exact hc i hlt
      have hx := small_getD sa i
      have HN := hide (told_next A i hx)
      clear hc
      generalize A.getD i 0 = a at *
      generalize val (A.take i) = V at *
      go_wp2_with fail
      go_loopw [3, 5, 15] (fun vs vx vr wq => ∃ (r : Nat) (t : ByteArray), vr = .int .i64 r ∧ vs = .string t ∧ vx = .int .i64 ((a / 10 ^ r : Nat) : Int) ∧ r ≤ 4 ∧ t.size = 4 * i + r ∧ Hid (Dig10 t.data.toList) ∧ Hid (dec t.data.toList = V + 10 ^ (4 * i) * (a % 10 ^ r)) ∧ Below w.heap.size w wq) (fun _ _ vr _ => 4 - (intOf vr).toNat)
      case atStart => exact ⟨0, t, rfl, rfl, by simp, by omega, by omega, hdt, by show _ = _; rw [hval.out]; simp [Nat.mod_one], hbw⟩
      case round =>
        clear hbw hval hdt hts
        obtain ⟨r, t, rfl, rfl, rfl, hr, hts, hdt, hval, hbw⟩ := hrel
        by_cases hr4 : r < 4
        · have hr2 := hide (told_round (i := i) (r := r) (a := a) (V := V) (l := t.data.toList) (by rw [blen_list]; exact hts) hval.out)
          have hd10 : a / 10 ^ r ≤ a := Nat.div_le_self _ _
          have hnx : Hid (a / 10 ^ r / 10 = a / 10 ^ (r + 1)) := by show _ = _; rw [Nat.div_div_eq_div_mul, Nat.pow_succ]
          generalize a / 10 ^ r = x at *
          have hcv := conv_one x
          obtain ⟨c, hc⟩ : ∃ c : UInt8, c = UInt8.ofNat (48 + x % 10) := ⟨_, rfl⟩
          have hcn : c.toNat = 48 + x % 10 := by rw [hc, byte_of _ (by omega)]
          rw [← hc] at hr2
          simp only [← hc] at hcv
          clear hc
          have hsz : ((⟨#[c]⟩ : ByteArray) ++ t).size = 4 * i + (r + 1) := by
            rw [ByteArray.size_append]
            show 1 + t.size = _
            omega
          have hdt2 : Hid (Dig10 ((⟨#[c]⟩ : ByteArray) ++ t).data.toList) := by
            rw [cat_one]
            intro b hb
            rcases List.mem_cons.1 hb with h | h
            · rw [h, hcn]; omega
            · exact hdt.out b h
          have hval2 : Hid (dec ((⟨#[c]⟩ : ByteArray) ++ t).data.toList = V + 10 ^ (4 * i) * (a % 10 ^ (r + 1))) := by
            rw [cat_one]
            exact hr2.out
          have hbw2 : Below w.heap.size w (wr.alloc (.cells #[.int .u8 (48 + (x : Int) % 10)] 5)) := hbw.alloc hbw.size _
          clear hr2 hval hdt hcn
          go_wp2
          go_roundw
          case rel => exact ⟨r + 1, _, by go_num, rfl, by rw [← unhide hnx]; congr 1, by omega, hsz, hdt2, hval2, hbw2⟩
          case measure => simp only [intOf]; omega
        · have hr5 : r = 4 := by omega
          subst hr5
          have hval2 : Hid (dec t.data.toList = val (A.take (i + 1))) := by show _ = _; rw [hval.out]; exact unhide HN
          clear hval HN
          go_wp2
          go_roundw
          case rel => exact ⟨i + 1, t, by go_num, rfl, by omega, by omega, hdt, hval2, hbw⟩
          case measure => simp only [intOf]; omega
    · have hie : i = A.length := by omega
      have hval2 : Hid (dec t.data.toList = n) := by show _ = _; rw [hval.out, hie]; exact HV.out
      clear hval HV
      subst hie
      go_wp2_with fail
      go_loopw [3] (fun vs wq => ∃ t : ByteArray, vs = .string t ∧ t.size ≤ 400000 ∧ Hid (Dig10 t.data.toList) ∧ Hid (dec t.data.toList = n) ∧ wq = wr) (fun vs _ => tlen vs)
      case atStart => exact ⟨t, rfl, by omega, hdt, hval2, rfl⟩
      case round =>
        clear hval2 hdt hts
        obtain ⟨t, rfl, hts, hdt, hval, rfl⟩ := hrel
        by_cases h0 : t.size = 0
        · have e1 : t.data.toList = [] := List.eq_nil_of_length_eq_zero (by rw [blen_list]; exact h0)
          have e2 : n = 0 := by rw [← hval.out, e1]; rfl
          have e3 : t = ⟨#[]⟩ := by apply ByteArray.ext; apply Array.toList_inj.1; rw [e1]
          have HE : Hid (decs n = [48]) := by show _ = _; unfold decs; rw [if_pos e2]
          subst e3
          clear hval hdt e1 e2
          go_wp2
          go_ret
          rw [unhide HE]
          exact ⟨rfl, hbw⟩
        · have hb := bget t 0 (by omega)
          by_cases h48 : t.data.toList.getD 0 0 = 48
          · have tb : (((t[0]'(by omega)).toNat : Int) == 48) = true := by rw [← hb, h48]; rfl
            have hsp : t.data.toList = 48 :: t.data.toList.drop 1 := by
              cases e : t.data.toList with
              | nil => rw [← blen_list, e] at h0; simp at h0
              | cons y z => rw [e] at h48; simp at h48; rw [h48]; rfl
            have hsl : (t.extract 1 t.size).data.toList = t.data.toList.drop 1 := by
              have e : (t.extract 1 t.size).data.toList = (t.data.toList.take t.size).drop 1 := by simp [List.drop_take]
              rw [e, List.take_of_length_le (by rw [blen_list]; exact Nat.le_refl _)]
            have hdt2 : Hid (Dig10 (t.extract 1 t.size).data.toList) := by rw [hsl]; exact dig10_drop hdt.out 1
            have hval2 : Hid (dec (t.extract 1 t.size).data.toList = n) := by
              show _ = _
              rw [hsl]
              have h := hval.out
              rw [hsp, dec_cons] at h
              have e48 : (48 : UInt8).toNat - 48 = 0 := rfl
              rw [e48, Nat.zero_mul, Nat.zero_add] at h
              exact h
            clear hsp hsl hval hdt hb h48
            go_wp2
            go_roundw
            case rel => exact ⟨t.extract 1 t.size, rfl, by rw [ByteArray.size_extract]; omega, hdt2, hval2, by trivial⟩
            case measure => simp only [tlen]; rw [ByteArray.size_extract]; omega
          · have tb : (((t[0]'(by omega)).toNat : Int) == 48) = false := by
              rw [← hb]
              apply beq_false_of_ne
              intro e
              apply h48
              apply UInt8.toNat_inj.1
              show _ = 48
              omega
            have hun : toDec n = t.data.toList := by
              rw [← hval.out]
              exact toDec_uniq _ _ rfl hdt.out (.inr h48)
            have hne : t.data.toList ≠ [] := fun e => by rw [← blen_list, e] at h0; simp at h0
            have HE : Hid (decs n = t.data.toList) := by
              show _ = _
              unfold decs
              rw [if_neg (fun e => by rw [e, toDec_zero] at hun; exact hne hun.symm), hun]
            have hemp : t.toList.isEmpty = false := by
              rw [ByteArray.toList_eq t]
              cases e : t.data.toList with
              | nil => exact absurd e hne
              | cons y z => rfl
            clear hval hdt hb h48 hun hne
            go_wp2
            go_ret
            rw [unhide HE]
            refine ⟨?_, hbw⟩
            congr 2
end Go.Proofs.Ytgfleflfahabeaa.bigs
