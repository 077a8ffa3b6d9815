/- The walks of the document's answer: Digits. -/
import Derived.Test.YtobbbhmkcmbekaaDoorPartAD
import Derived.Laws.BytesString
import Derived.Laws.Cells
import Derived.Laws.Concat
import Derived.Lib.Strings
set_option linter.unusedVariables false
namespace Go.Proofs.YtobbbhmkcmbekaaDoor.bigs
open Go.RowKit

/-- The decimal digits of a number, the greatest first; none of 0. -/
def toDecG : Nat → Nat → List UInt8
  | 0, _ => []
  | f + 1, n => if n = 0 then [] else toDecG f (n / 10) ++ [UInt8.ofNat (48 + n % 10)]
theorem toDecG_zero (f : Nat) : toDecG f 0 = [] := by cases f <;> rfl
theorem toDecG_same (n : Nat) : ∀ (f g : Nat), n ≤ f → n ≤ g → toDecG f n = toDecG g n := by
  induction n using Nat.strongRecOn with
  | ind n ih =>
    intro f g hf hg
    by_cases h : n = 0
    · rw [h, toDecG_zero, toDecG_zero]
    · obtain ⟨f', rfl⟩ : ∃ f', f = f' + 1 := ⟨f - 1, by omega⟩
      obtain ⟨g', rfl⟩ : ∃ g', g = g' + 1 := ⟨g - 1, by omega⟩
      rw [toDecG, toDecG, if_neg h, if_neg h, ih (n / 10) (by omega) f' g' (by omega) (by omega)]
def toDec (n : Nat) : List UInt8 := toDecG n n
/-- The text of a number. -/
def decs (n : Nat) : List UInt8 := if n = 0 then [48] else toDec n
theorem toDec_zero : toDec 0 = [] := rfl
theorem toDec_pos {n : Nat} (h : n ≠ 0) : toDec n = toDec (n / 10) ++ [UInt8.ofNat (48 + n % 10)] := by
  obtain ⟨m, rfl⟩ : ∃ m, n = m + 1 := ⟨n - 1, by omega⟩
  unfold toDec
  rw [toDecG, if_neg h, toDecG_same ((m + 1) / 10) m ((m + 1) / 10) (by omega) (Nat.le_refl _)]
theorem byte_of (k : Nat) (h : k < 256) : (UInt8.ofNat k).toNat = k := by simp [UInt8.toNat_ofNat']; omega
theorem dig10_append {a b : List UInt8} : Dig10 (a ++ b) ↔ Dig10 a ∧ Dig10 b := by
  constructor
  · intro h
    exact ⟨fun x hx => h x (List.mem_append_left _ hx), fun x hx => h x (List.mem_append_right _ hx)⟩
  · rintro ⟨h1, h2⟩ x hx
    rcases List.mem_append.1 hx with h | h
    · exact h1 x h
    · exact h2 x h
theorem toDec_dig (n : Nat) : Dig10 (toDec n) := by
  induction n using Nat.strongRecOn with
  | ind n ih =>
    by_cases h : n = 0
    · subst h; rw [toDec_zero]; intro b hb; cases hb
    · rw [toDec_pos h, dig10_append]
      refine ⟨ih _ (by omega), ?_⟩
      intro b hb
      rw [List.mem_singleton] at hb
      subst hb
      rw [byte_of _ (by omega)]
      omega
theorem dec_toDec (n : Nat) : dec (toDec n) = n := by
  induction n using Nat.strongRecOn with
  | ind n ih =>
    by_cases h : n = 0
    · subst h; rw [toDec_zero]; rfl
    · rw [toDec_pos h, dec_snoc, ih _ (by omega), byte_of _ (by omega)]
      omega
theorem toDec_uniq : ∀ (k : Nat) (l : List UInt8), l.length = k → Dig10 l → (l = [] ∨ l.getD 0 0 ≠ 48) → toDec (dec l) = l
  | 0, l, hk, _, _ => by
    have : l = [] := List.eq_nil_of_length_eq_zero hk
    subst this
    exact toDec_zero
  | k + 1, l, hk, hd, hh => by
    rcases List.eq_nil_or_concat l with e | ⟨a, b, e⟩
    · subst e; simp at hk
    · subst e
      rw [List.concat_eq_append] at *
      obtain ⟨h1, h2⟩ := dig10_append.1 hd
      have hb := h2 b (List.mem_singleton_self b)
      have hak : a.length = k := by simp at hk; exact hk
      have ha : a = [] ∨ a.getD 0 0 ≠ 48 := by
        cases a with
        | nil => exact .inl rfl
        | cons x r =>
          right
          rcases hh with hh | hh
          · simp at hh
          · simpa using hh
      have ih := toDec_uniq k a hak h1 ha
      have hne : dec (a ++ [b]) ≠ 0 := by
        intro e
        rw [dec_snoc] at e
        have e0 : dec a = 0 := by omega
        rw [e0, toDec_zero] at ih
        subst ih
        rcases hh with hh | hh
        · simp at hh
        · have hb2 : b.toNat = 48 := by simp [dec] at e; omega
          apply hh
          have : b = 48 := UInt8.toNat_inj.1 hb2
          rw [this]; rfl
      rw [toDec_pos hne]
      have e1 : dec (a ++ [b]) / 10 = dec a := by rw [dec_snoc]; omega
      have e2 : 48 + dec (a ++ [b]) % 10 = b.toNat := by rw [dec_snoc]; omega
      rw [e1, e2, ih]
      congr 2
      exact UInt8.toNat_inj.1 (byte_of _ (by omega))
/-- A round of the digits of one place. -/
theorem told_round {l : List UInt8} {V i r a : Nat} (hl : l.length = 4 * i + r) (h : dec l = V + 10 ^ (4 * i) * (a % 10 ^ r)) :
    dec (UInt8.ofNat (48 + a / 10 ^ r % 10) :: l) = V + 10 ^ (4 * i) * (a % 10 ^ (r + 1)) := by
  rw [dec_cons, byte_of _ (by omega), hl, h, Nat.mod_pow_succ, Nat.mul_add, ← Nat.mul_assoc (10 ^ (4 * i)), ← Nat.pow_add]
  have e : 48 + a / 10 ^ r % 10 - 48 = a / 10 ^ r % 10 := by omega
  rw [e, Nat.mul_comm (a / 10 ^ r % 10)]
  omega
theorem told_next (A : List Nat) (i : Nat) (h : A.getD i 0 < 10000) : val (A.take i) + 10 ^ (4 * i) * (A.getD i 0 % 10 ^ 4) = val (A.take (i + 1)) := by
  rw [val_take_next, Nat.mod_eq_of_lt (show A.getD i 0 < 10 ^ 4 from h), Nat.pow_mul]

theorem conv_one (x : Nat) (w : World) :
    (convert 73 9 (.slice (some ⟨w.heap.size, 0, none⟩) 1 1)).run Tryd.prog (w.alloc (.cells #[.int .u8 (48 + (x : Int) % 10)] 5)) = .ok (.string ⟨#[UInt8.ofNat (48 + x % 10)]⟩) (w.alloc (.cells #[.int .u8 (48 + (x : Int) % 10)] 5)) := by
  rw [run_convert_bytes_string _ 73 9 5 _ _ _ Tryd.underlying73 Tryd.underlying5 Tryd.underlying9]
  have h := run_loadCells_list (P := Tryd.prog) (w := w.alloc (.cells #[.int .u8 (48 + (x : Int) % 10)] 5)) ⟨w.heap.size, 0, none⟩ [.int .u8 (48 + (x : Int) % 10)] (cell_one_new _ _ _)
  rw [run_bytesToString _ _ 1 1 [48 + (x : Int) % 10] h]
  have e : (48 + (x : Int) % 10).toNat = 48 + x % 10 := by omega
  simp only [List.foldl_cons, List.foldl_nil, e]
  rfl
theorem cat_one (c : UInt8) (t : ByteArray) : (⟨#[c]⟩ : ByteArray) ++ t = ⟨(c :: t.data.toList).toArray⟩ := by
  apply ByteArray.ext
  rw [ByteArray.data_append]
  apply Array.toList_inj.1
  simp

set_option maxHeartbeats 8000000 in
set_option maxRecDepth 100000 in
theorem digits_any (w : World) (va : Value) (n : Nat) (hn : (dig n).length ≤ 100000) (ha : Lies w va n) :
    Calls Tryd.prog 29 #[va] w fun e w' => e = .returned (.string ⟨(decs n).toArray⟩) ∧ Below w.heap.size w w' := by
  obtain ⟨aa, ca, rfl, hca, ra⟩ := ha
  have sa := small_dig n
  have HV : Hid (val ((dig n).take (dig n).length) = n) := by show _ = _; rw [List.take_length, val_dig]
  generalize dig n = A at *
  go_enter Tryd.func29, Tryd.ntmps29
  go_wp2
  go_loopw [3, 8] (fun vs vi wr => ∃ (i : Nat) (t : ByteArray), vi = .int .i64 i ∧ vs = .string t ∧ i ≤ A.length ∧ t.size = 4 * i ∧ Hid (Dig10 t.data.toList) ∧ Hid (dec t.data.toList = val (A.take i)) ∧ Below w.heap.size w wr) (fun _ vi _ => A.length - (intOf vi).toNat)
  case atStart => exact ⟨0, ⟨#[]⟩, rfl, rfl, Nat.zero_le _, rfl, (fun b hb => by cases hb), rfl, Below.refl _ _⟩
  case round =>
    obtain ⟨i, t, rfl, rfl, hi, hts, hdt, hval, hbw⟩ := hrel
    by_cases hlt : i < A.length
    · obtain ⟨b, o, rfl, hb, hc⟩ := ra (by intro e; rw [e] at hlt; simp at hlt)
      have c1 : wr.cell? ⟨b, o + i, none⟩ = some (.int .i64 ((A.getD i 0 : Nat) : Int)) := by rw [hbw.cell (p := ⟨b, o + i, none⟩) hb]; exact hc i hlt
      have hx := small_getD sa i
      have HN := hide (told_next A i hx)
      clear hc
      generalize A.getD i 0 = a at *
      generalize val (A.take i) = V at *
      go_wp2_with fail
      go_loopw [3, 5, 15] (fun vs vx vr wq => ∃ (r : Nat) (t : ByteArray), vr = .int .i64 r ∧ vs = .string t ∧ vx = .int .i64 ((a / 10 ^ r : Nat) : Int) ∧ r ≤ 4 ∧ t.size = 4 * i + r ∧ Hid (Dig10 t.data.toList) ∧ Hid (dec t.data.toList = V + 10 ^ (4 * i) * (a % 10 ^ r)) ∧ Below w.heap.size w wq) (fun _ _ vr _ => 4 - (intOf vr).toNat)
      case atStart => exact ⟨0, t, rfl, rfl, by simp, by omega, by omega, hdt, by show _ = _; rw [hval.out]; simp [Nat.mod_one], hbw⟩
      case round =>
        clear hbw hval hdt hts
        obtain ⟨r, t, rfl, rfl, rfl, hr, hts, hdt, hval, hbw⟩ := hrel
        by_cases hr4 : r < 4
        · have hr2 := hide (told_round (i := i) (r := r) (a := a) (V := V) (l := t.data.toList) (by rw [blen_list]; exact hts) hval.out)
          have hd10 : a / 10 ^ r ≤ a := Nat.div_le_self _ _
          have hnx : Hid (a / 10 ^ r / 10 = a / 10 ^ (r + 1)) := by show _ = _; rw [Nat.div_div_eq_div_mul, Nat.pow_succ]
          generalize a / 10 ^ r = x at *
          have hcv := conv_one x
          obtain ⟨c, hc⟩ : ∃ c : UInt8, c = UInt8.ofNat (48 + x % 10) := ⟨_, rfl⟩
          have hcn : c.toNat = 48 + x % 10 := by rw [hc, byte_of _ (by omega)]
          rw [← hc] at hr2
          simp only [← hc] at hcv
          clear hc
          have hsz : ((⟨#[c]⟩ : ByteArray) ++ t).size = 4 * i + (r + 1) := by
            rw [ByteArray.size_append]
            show 1 + t.size = _
            omega
          have hdt2 : Hid (Dig10 ((⟨#[c]⟩ : ByteArray) ++ t).data.toList) := by
            rw [cat_one]
            intro b hb
            rcases List.mem_cons.1 hb with h | h
            · rw [h, hcn]; omega
            · exact hdt.out b h
          have hval2 : Hid (dec ((⟨#[c]⟩ : ByteArray) ++ t).data.toList = V + 10 ^ (4 * i) * (a % 10 ^ (r + 1))) := by
            rw [cat_one]
            exact hr2.out
          have hbw2 : Below w.heap.size w (wr.alloc (.cells #[.int .u8 (48 + (x : Int) % 10)] 5)) := hbw.alloc hbw.size _
          clear hr2 hval hdt hcn
          go_wp2
          go_roundw
          case rel => exact ⟨r + 1, _, by go_num, rfl, by rw [← unhide hnx]; congr 1, by omega, hsz, hdt2, hval2, hbw2⟩
          case measure => simp only [intOf]; omega
        · have hr5 : r = 4 := by omega
          subst hr5
          have hval2 : Hid (dec t.data.toList = val (A.take (i + 1))) := by show _ = _; rw [hval.out]; exact unhide HN
          clear hval HN
          go_wp2
          go_roundw
          case rel => exact ⟨i + 1, t, by go_num, rfl, by omega, by omega, hdt, hval2, hbw⟩
          case measure => simp only [intOf]; omega
    · have hie : i = A.length := by omega
      have hval2 : Hid (dec t.data.toList = n) := by show _ = _; rw [hval.out, hie]; exact HV.out
      clear hval HV
      subst hie
      go_wp2_with fail
      go_loopw [3] (fun vs wq => ∃ t : ByteArray, vs = .string t ∧ t.size ≤ 400000 ∧ Hid (Dig10 t.data.toList) ∧ Hid (dec t.data.toList = n) ∧ wq = wr) (fun vs _ => tlen vs)
      case atStart => exact ⟨t, rfl, by omega, hdt, hval2, rfl⟩
      case round =>
        clear hval2 hdt hts
        obtain ⟨t, rfl, hts, hdt, hval, rfl⟩ := hrel
        by_cases h0 : t.size = 0
        · have e1 : t.data.toList = [] := List.eq_nil_of_length_eq_zero (by rw [blen_list]; exact h0)
          have e2 : n = 0 := by rw [← hval.out, e1]; rfl
          have e3 : t = ⟨#[]⟩ := by apply ByteArray.ext; apply Array.toList_inj.1; rw [e1]
          have HE : Hid (decs n = [48]) := by show _ = _; unfold decs; rw [if_pos e2]
          subst e3
          clear hval hdt e1 e2
          go_wp2
          go_ret
          rw [unhide HE]
          exact ⟨rfl, hbw⟩
        · have hb := bget t 0 (by omega)
          by_cases h48 : t.data.toList.getD 0 0 = 48
          · have tb : (((t[0]'(by omega)).toNat : Int) == 48) = true := by rw [← hb, h48]; rfl
            have hsp : t.data.toList = 48 :: t.data.toList.drop 1 := by
              cases e : t.data.toList with
              | nil => rw [← blen_list, e] at h0; simp at h0
              | cons y z => rw [e] at h48; simp at h48; rw [h48]; rfl
            have hsl : (t.extract 1 t.size).data.toList = t.data.toList.drop 1 := by
              have e : (t.extract 1 t.size).data.toList = (t.data.toList.take t.size).drop 1 := by simp [List.drop_take]
              rw [e, List.take_of_length_le (by rw [blen_list]; exact Nat.le_refl _)]
            have hdt2 : Hid (Dig10 (t.extract 1 t.size).data.toList) := by rw [hsl]; exact dig10_drop hdt.out 1
            have hval2 : Hid (dec (t.extract 1 t.size).data.toList = n) := by
              show _ = _
              rw [hsl]
              have h := hval.out
              rw [hsp, dec_cons] at h
              have e48 : (48 : UInt8).toNat - 48 = 0 := rfl
              rw [e48, Nat.zero_mul, Nat.zero_add] at h
              exact h
            clear hsp hsl hval hdt hb h48
            go_wp2
            go_roundw
            case rel => exact ⟨t.extract 1 t.size, rfl, by rw [ByteArray.size_extract]; omega, hdt2, hval2, by trivial⟩
            case measure => simp only [tlen]; rw [ByteArray.size_extract]; omega
          · have tb : (((t[0]'(by omega)).toNat : Int) == 48) = false := by
              rw [← hb]
              apply beq_false_of_ne
              intro e
              apply h48
              apply UInt8.toNat_inj.1
              show _ = 48
              omega
            have hun : toDec n = t.data.toList := by
              rw [← hval.out]
              exact toDec_uniq _ _ rfl hdt.out (.inr h48)
            have hne : t.data.toList ≠ [] := fun e => by rw [← blen_list, e] at h0; simp at h0
            have HE : Hid (decs n = t.data.toList) := by
              show _ = _
              unfold decs
              rw [if_neg (fun e => by rw [e, toDec_zero] at hun; exact hne hun.symm), hun]
            have hemp : t.toList.isEmpty = false := by
              rw [ByteArray.toList_eq t]
              cases e : t.data.toList with
              | nil => exact absurd e hne
              | cons y z => rfl
            clear hval hdt hb h48 hun hne
            go_wp2
            go_ret
            rw [unhide HE]
            refine ⟨?_, hbw⟩
            congr 2
end Go.Proofs.YtobbbhmkcmbekaaDoor.bigs
/- What the calls of package big answer, as the document says it, in the words of the walks; and slices.Equal over words. -/
set_option linter.unusedVariables false
namespace Go.Proofs.YtobbbhmkcmbekaaDoor.bigs
open Go.RowKit

/-- A slice of words. -/
def WSl (w : World) (v : Value) (l : List Nat) : Prop := ∃ a cap, v = .slice a l.length cap ∧ l.length ≤ cap ∧ RowU w a l
/-- The words of a number. -/
def WBig (w : World) (v : Value) (n : Nat) : Prop := WSl w v (wdig n)
theorem WSl.below {w w' : World} {v : Value} {l : List Nat} (h : WSl w v l) (hb : Below w.heap.size w w') : WSl w' v l := by
  obtain ⟨a, cap, e, hc, hr⟩ := h
  exact ⟨a, cap, e, hc, hr.below hb⟩
theorem WBig.below {w w' : World} {v : Value} {n : Nat} (h : WBig w v n) (hb : Below w.heap.size w w') : WBig w' v n := WSl.below h hb
theorem words_wdig (n : Nat) : Words32 (wdig n) := by
  induction n using Nat.strongRecOn with
  | ind n ih =>
    by_cases h : n = 0
    · subst h; rw [wdig_zero]; intro j hj; simp at hj
    · rw [wdig_pos h]; exact words_cons.2 ⟨by omega, ih _ (by omega)⟩

theorem utake_succ (l : List Nat) (k : Nat) (h : k < l.length) : l.take (k + 1) = l.take k ++ [l.getD k 0] := take_succ l k h

end Go.Proofs.YtobbbhmkcmbekaaDoor.bigs
/- The nearest fraction, plain. -/
set_option linter.unusedVariables false
namespace Go.Proofs.YtobbbhmkcmbekaaDoor.bigs
open Go.RowKit

/-- The nearest whole number, of two as near the even one. -/
def rnd (n d : Nat) : Nat := if d < 2 * (n % d) ∨ (2 * (n % d) = d ∧ n / d % 2 = 1) then n / d + 1 else n / d
/-- The bits of q * 2^e. -/
def packed (q : Nat) (e : Int) : Nat :=
  if q = 9007199254740992 then (if 971 < e + 1 then 9218868437227405312 else (e + 1 + 1074).toNat * 4503599627370496 + 4503599627370496)
  else if 971 < e then 9218868437227405312 else if q < 4503599627370496 then q else (e + 1074).toNat * 4503599627370496 + q
/-- The bits r are those of the fraction that is nearest to num / den. -/
def Near (num den r : Nat) : Prop := ∃ a b : Nat, a ≤ 1074 ∧ (a = 0 ∨ num * 2 ^ (a - 1) < den * 4503599627370496) ∧ (a = 1074 ∨ den * 4503599627370496 ≤ num * 2 ^ a) ∧
  (b = 0 ∨ den * 2 ^ (b - 1) * 9007199254740992 ≤ num * 2 ^ a) ∧ num * 2 ^ a < den * 2 ^ b * 9007199254740992 ∧ r = packed (rnd (num * 2 ^ a) (den * 2 ^ b)) ((b : Int) - (a : Int))
theorem shift_mono (x : Nat) {a b : Nat} (h : a ≤ b) : x * 2 ^ a ≤ x * 2 ^ b := Nat.mul_le_mul_left _ (Nat.pow_le_pow_right (by omega) h)
theorem near_unique {num den r r' : Nat} (h : Near num den r) (h' : Near num den r') : r = r' := by
  obtain ⟨a, b, h1, h2, h3, h4, h5, h6⟩ := h
  obtain ⟨a', b', k1, k2, k3, k4, k5, k6⟩ := h'
  have ea : a = a' := by
    rcases Nat.lt_trichotomy a a' with hlt | he | hgt
    · have m := shift_mono num (show a ≤ a' - 1 by omega)
      rcases k2 with e | e
      · omega
      · rcases h3 with e3 | e3 <;> omega
    · exact he
    · have m := shift_mono num (show a' ≤ a - 1 by omega)
      rcases h2 with e | e
      · omega
      · rcases k3 with e3 | e3 <;> omega
  subst ea
  have eb : b = b' := by
    rcases Nat.lt_trichotomy b b' with hlt | he | hgt
    · have m := Nat.mul_le_mul_right 9007199254740992 (shift_mono den (show b ≤ b' - 1 by omega))
      rcases k4 with e | e <;> omega
    · exact he
    · have m := Nat.mul_le_mul_right 9007199254740992 (shift_mono den (show b' ≤ b - 1 by omega))
      rcases h4 with e | e <;> omega
  subst eb
  rw [h6, k6]
theorem dig_prod_lenF (m n : Nat) : (dig (m * n)).length ≤ (dig m).length + (dig n).length := by
  apply dig_length_le
  rw [Nat.pow_add]
  exact Nat.mul_lt_mul'' (lt_pow_dig m) (lt_pow_dig n)
theorem log_len {b N : Nat} (h : 2 ^ b ≤ N) : b < 14 * (dig N).length := by
  have h1 := lt_pow_dig N
  have h2 : 10000 ^ (dig N).length ≤ (2 ^ 14) ^ (dig N).length := Nat.pow_le_pow_left (by decide) _
  rw [← Nat.pow_mul] at h2
  have h3 : 2 ^ b < 2 ^ (14 * (dig N).length) := by omega
  exact (Nat.pow_lt_pow_iff_right (by omega)).1 h3
theorem double_next (x a : Nat) : x * 2 ^ a + x * 2 ^ a = x * 2 ^ (a + 1) := by rw [Nat.pow_succ, ← Nat.mul_assoc]; omega
theorem quo_less {c q d N X : Nat} (h : c + q * d = N) (hN : N < d * X) (hd : 0 < d) : q < X := by
  have h1 : q * d < X * d := by rw [Nat.mul_comm X]; omega
  exact Nat.lt_of_mul_lt_mul_right h1
theorem long_rnd {c q d N : Nat} (h : c + q * d = N) (hc : c < d) : N / d = q ∧ N % d = c := by
  have hd : 0 < d := by omega
  rw [← h, Nat.add_comm, Nat.mul_comm]
  exact ⟨by rw [Nat.mul_add_div hd, Nat.div_eq_of_lt hc]; omega, by rw [Nat.mul_add_mod, Nat.mod_eq_of_lt hc]⟩
theorem rnd_up {c q d N : Nat} (h : c + q * d = N) (hc : c < d) (hu : d < c + c ∨ (c + c = d ∧ q % 2 = 1)) : rnd N d = q + 1 := by
  obtain ⟨e1, e2⟩ := long_rnd h hc
  unfold rnd
  rw [e1, e2, if_pos (by omega)]
theorem rnd_down {c q d N : Nat} (h : c + q * d = N) (hc : c < d) (hu : ¬ (d < c + c ∨ (c + c = d ∧ q % 2 = 1))) : rnd N d = q := by
  obtain ⟨e1, e2⟩ := long_rnd h hc
  unfold rnd
  rw [e1, e2, if_neg (by omega)]
theorem bit_take {c q d N P : Nat} (h : c + q * d = N) (hc : d * P ≤ c) : c - d * P + (q + P) * d = N := by
  rw [Nat.add_mul, Nat.mul_comm P]
  omega
/-- What FloatParts tells. -/
def fparts (b : Nat) : Nat × Int × Int :=
  if b / 4503599627370496 % 2048 = 2047 then (if b % 4503599627370496 = 0 then (0, 0, 1) else (0, 0, 2))
  else if b / 4503599627370496 % 2048 = 0 then (b % 4503599627370496, -1074, 0) else (b % 4503599627370496 + 4503599627370496, ((b / 4503599627370496 % 2048 : Nat) : Int) - 1075, 0)
end Go.Proofs.YtobbbhmkcmbekaaDoor.bigs
/- The nearest fraction: scale and order, plain. -/
set_option linter.unusedVariables false
namespace Go.Proofs.YtobbbhmkcmbekaaDoor.bigs

theorem rnd_scale (x y c : Nat) (hc : 0 < c) : rnd (x * c) (y * c) = rnd x y := by
  unfold rnd
  rw [Nat.mul_div_mul_right _ _ hc, Nat.mul_mod_mul_right, ← Nat.mul_assoc]
  have e1 : (y * c < 2 * (x % y) * c) ↔ y < 2 * (x % y) := Nat.mul_lt_mul_right hc
  have e2 : (2 * (x % y) * c = y * c) ↔ 2 * (x % y) = y := ⟨fun h => Nat.eq_of_mul_eq_mul_right hc h, fun h => by rw [h]⟩
  simp only [e1, e2]
theorem near_scale {num den r c : Nat} (hc : 0 < c) (h : Near num den r) : Near (num * c) (den * c) r := by
  obtain ⟨a, b, h1, h2, h3, h4, h5, h6⟩ := h
  have s : ∀ x y z : Nat, x * c * y = x * y * c := fun x y z => by rw [Nat.mul_assoc, Nat.mul_comm c, Nat.mul_assoc]
  refine ⟨a, b, h1, ?_, ?_, ?_, ?_, ?_⟩
  · rcases h2 with h | h
    · exact .inl h
    · right
      rw [s _ _ 0, s _ _ 0]
      exact Nat.mul_lt_mul_of_pos_right h hc
  · rcases h3 with h | h
    · exact .inl h
    · right
      rw [s _ _ 0, s _ _ 0]
      exact Nat.mul_le_mul_right _ h
  · rcases h4 with h | h
    · exact .inl h
    · right
      rw [s _ _ 0, s _ _ 0, s _ _ 0]
      exact Nat.mul_le_mul_right _ h
  · rw [s _ _ 0, s _ _ 0, s _ _ 0]
    exact Nat.mul_lt_mul_of_pos_right h5 hc
  · rw [s _ _ 0, s den _ 0, rnd_scale _ _ _ hc]
    exact h6
theorem rnd_le {N d M : Nat} (h : N < d * M) : rnd N d ≤ M := by
  have h1 : N / d < M := Nat.div_lt_of_lt_mul h
  unfold rnd
  split <;> omega
theorem rnd_ge {N d M : Nat} (hd : 0 < d) (h : d * M ≤ N) : M ≤ rnd N d := by
  have h1 : M ≤ N / d := (Nat.le_div_iff_mul_le hd).2 (by rw [Nat.mul_comm]; exact h)
  unfold rnd
  split <;> omega
theorem rnd_mono {N N' d : Nat} (h : N ≤ N') (hd : 0 < d) : rnd N d ≤ rnd N' d := by
  have h1 : N / d ≤ N' / d := Nat.div_le_div_right h
  have e1 := Nat.div_add_mod N d
  have e2 := Nat.div_add_mod N' d
  have l1 := Nat.mod_lt N hd
  have l2 := Nat.mod_lt N' hd
  unfold rnd
  by_cases he : N / d = N' / d
  · rw [he] at e1
    have hm : N % d ≤ N' % d := by omega
    rw [he]
    split <;> split <;> omega
  · split <;> split <;> omega
/-- The bits, in one form. -/
theorem packed_min {q : Nat} {e : Int} (hq : q ≤ 9007199254740992) (he : -1074 ≤ e) (hn : 4503599627370496 ≤ q ∨ e = -1074) : packed q e = min 9218868437227405312 ((e + 1074).toNat * 4503599627370496 + q) := by
  unfold packed
  obtain ⟨E, hE⟩ : ∃ E : Nat, e + 1074 = (E : Int) := ⟨(e + 1074).toNat, by omega⟩
  have e1 : (e + 1074).toNat = E := by omega
  have e2 : (e + 1 + 1074).toNat = E + 1 := by omega
  rw [e1, e2]
  by_cases h1 : q = 9007199254740992
  · rw [if_pos h1]
    subst h1
    by_cases h2 : 971 < e + 1
    · rw [if_pos h2, Nat.min_eq_left (by omega)]
    · rw [if_neg h2, Nat.min_eq_right (by omega)]
      omega
  · rw [if_neg h1]
    by_cases h2 : 971 < e
    · rw [if_pos h2, Nat.min_eq_left (by omega)]
    · rw [if_neg h2]
      by_cases h3 : q < 4503599627370496
      · rw [if_pos h3, Nat.min_eq_right (by omega)]
        omega
      · rw [if_neg h3, Nat.min_eq_right (by omega)]
theorem near_side {num den a b : Nat} (h2 : a = 0 ∨ num * 2 ^ (a - 1) < den * 4503599627370496) (h4 : b = 0 ∨ den * 2 ^ (b - 1) * 9007199254740992 ≤ num * 2 ^ a) : a = 0 ∨ b = 0 := by
  rcases h2 with h | h
  · exact .inl h
  · rcases h4 with k | k
    · exact .inr k
    · by_cases ha : a = 0
      · exact .inl ha
      · exfalso
        have e := double_next num (a - 1)
        rw [show a - 1 + 1 = a by omega] at e
        have hY : den * 1 ≤ den * 2 ^ (b - 1) := Nat.mul_le_mul_left _ (Nat.pow_pos (by omega))
        rw [← e] at k
        generalize num * 2 ^ (a - 1) = X at *
        generalize den * 2 ^ (b - 1) = Y at *
        omega
theorem near_norm {num den a b : Nat} (h3 : a = 1074 ∨ den * 4503599627370496 ≤ num * 2 ^ a) (h4 : b = 0 ∨ den * 2 ^ (b - 1) * 9007199254740992 ≤ num * 2 ^ a) (hs : a = 0 ∨ b = 0) :
    den * 2 ^ b * 4503599627370496 ≤ num * 2 ^ a ∨ (b : Int) - (a : Int) = -1074 := by
  by_cases hb : b = 0
  · rcases h3 with h | h
    · right; omega
    · left; rw [hb, Nat.pow_zero, Nat.mul_one]; exact h
  · left
    rcases h4 with k | k
    · exact absurd k hb
    · have e := double_next den (b - 1)
      rw [show b - 1 + 1 = b by omega] at e
      rw [← e]
      have e2 : ∀ Y : Nat, (Y + Y) * 4503599627370496 = Y * 9007199254740992 := fun Y => by omega
      rw [e2]
      exact k
theorem exp_ge {a b : Nat} (h : a ≤ 1074) : -1074 ≤ (b : Int) - (a : Int) := by omega
/-- A greater number has no lesser fraction. -/
theorem near_mono {num num' den r r' : Nat} (hd : 0 < den) (hle : num ≤ num') (h : Near num den r) (h' : Near num' den r') : r ≤ r' := by
  obtain ⟨a, b, h1, h2, h3, h4, h5, h6⟩ := h
  obtain ⟨a', b', k1, k2, k3, k4, k5, k6⟩ := h'
  have s := near_side h2 h4
  have s' := near_side k2 k4
  have n := near_norm h3 h4 s
  have n' := near_norm k3 k4 s'
  have ha : a' ≤ a := by
    by_cases c : a' ≤ a
    · exact c
    · exfalso
      rcases k2 with e | e
      · exact c (by rw [e]; exact Nat.zero_le _)
      · have m1 := shift_mono num (Nat.le_sub_one_of_lt (Nat.lt_of_not_le c))
        have m2 : num * 2 ^ (a' - 1) ≤ num' * 2 ^ (a' - 1) := Nat.mul_le_mul_right _ hle
        rcases h3 with e3 | e3
        · exact c (by rw [e3]; exact k1)
        · have m3 := Nat.le_trans e3 (Nat.le_trans m1 m2)
          exact Nat.lt_irrefl _ (Nat.lt_of_le_of_lt m3 e)
  have hb : b ≤ b' := by
    by_cases c : b ≤ b'
    · exact c
    · exfalso
      have a0 : a = 0 := by
        rcases s with z | z
        · exact z
        · exact absurd (by rw [z]; exact Nat.zero_le _) c
      rcases h4 with e | e
      · exact c (by rw [e]; exact Nat.zero_le _)
      · rw [a0, Nat.pow_zero, Nat.mul_one] at e
        have m1 : den * 2 ^ b' * 9007199254740992 ≤ den * 2 ^ (b - 1) * 9007199254740992 := Nat.mul_le_mul_right _ (shift_mono den (Nat.le_sub_one_of_lt (Nat.lt_of_not_le c)))
        have m2 : num' * 1 ≤ num' * 2 ^ a' := Nat.mul_le_mul_left _ (Nat.pow_pos (by omega))
        rw [Nat.mul_one] at m2
        exact Nat.lt_irrefl _ (Nat.lt_of_le_of_lt (Nat.le_trans m1 (Nat.le_trans e (Nat.le_trans hle m2))) k5)
  have hdb : 0 < den * 2 ^ b := Nat.mul_pos hd (Nat.pow_pos (by omega))
  have hdb' : 0 < den * 2 ^ b' := Nat.mul_pos hd (Nat.pow_pos (by omega))
  have q := rnd_le h5
  have q' := rnd_le k5
  have g : 4503599627370496 ≤ rnd (num * 2 ^ a) (den * 2 ^ b) ∨ (b : Int) - (a : Int) = -1074 := by
    rcases n with e | e
    · exact .inl (rnd_ge hdb e)
    · exact .inr e
  have g' : 4503599627370496 ≤ rnd (num' * 2 ^ a') (den * 2 ^ b') ∨ (b' : Int) - (a' : Int) = -1074 := by
    rcases n' with e | e
    · exact .inl (rnd_ge hdb' e)
    · exact .inr e
  rw [h6, k6, packed_min q (exp_ge h1) g, packed_min q' (exp_ge k1) g']
  by_cases he : a = a' ∧ b = b'
  · obtain ⟨rfl, rfl⟩ := he
    have m := rnd_mono (Nat.mul_le_mul_right (2 ^ a) hle) hdb
    clear h2 h3 h4 h5 h6 k2 k3 k4 k5 k6 n n' hdb hdb' hd hle
    generalize rnd (num * 2 ^ a) (den * 2 ^ b) = x at *
    generalize rnd (num' * 2 ^ a) (den * 2 ^ b) = y at *
    omega
  · clear h2 h3 h4 h5 h6 k2 k3 k4 k5 k6 n n' hdb hdb' hd hle
    generalize rnd (num * 2 ^ a) (den * 2 ^ b) = x at *
    generalize rnd (num' * 2 ^ a') (den * 2 ^ b') = y at *
    omega
end Go.Proofs.YtobbbhmkcmbekaaDoor.bigs
/- The nearest fraction, as the span of the numbers that it is nearest to; plain. -/
set_option linter.unusedVariables false
namespace Go.Proofs.YtobbbhmkcmbekaaDoor.bigs

theorem pow_split (x : Nat) {a b c : Nat} (h : a = b + c) : x * 2 ^ a = x * 2 ^ b * 2 ^ c := by rw [h, Nat.pow_add, Nat.mul_assoc]
/-- The powers, under names. -/
def c74 : Nat := 1074
def T74 : Nat := 2 ^ c74
def T76 : Nat := 4 * T74
theorem T74_split (x : Nat) {b c : Nat} (h : 1074 = b + c) : x * T74 = x * 2 ^ b * 2 ^ c := by
  have e : c74 = b + c := h
  unfold T74
  rw [e, Nat.pow_add, Nat.mul_assoc]
/-- Near, by one exponent. -/
def NearE (num den E r : Nat) : Prop := num * T74 < den * 2 ^ E * 9007199254740992 ∧ (E = 0 ∨ den * 2 ^ E * 4503599627370496 ≤ num * T74) ∧
  r = min 9218868437227405312 (E * 4503599627370496 + rnd (num * T74) (den * 2 ^ E))
theorem nearE_of {num den r : Nat} (hd : 0 < den) (h : Near num den r) : ∃ E, NearE num den E r := by
  obtain ⟨a, b, h1, h2, h3, h4, h5, h6⟩ := h
  have s := near_side h2 h4
  have n := near_norm h3 h4 s
  have hdb : 0 < den * 2 ^ b := Nat.mul_pos hd (Nat.pow_pos (by omega))
  have q := rnd_le h5
  have g : 4503599627370496 ≤ rnd (num * 2 ^ a) (den * 2 ^ b) ∨ (b : Int) - (a : Int) = -1074 := by
    rcases n with e | e
    · exact .inl (rnd_ge hdb e)
    · exact .inr e
  rw [packed_min q (exp_ge h1) g] at h6
  have eE : ((b : Int) - (a : Int) + 1074).toNat = b + 1074 - a := by omega
  rw [eE] at h6
  clear eE
  obtain ⟨T, hT, e1, e2⟩ : ∃ T, 0 < T ∧ num * T74 = num * 2 ^ a * T ∧ den * 2 ^ (b + 1074 - a) = den * 2 ^ b * T := by
    refine ⟨2 ^ (1074 - a), Nat.pow_pos (by decide), T74_split _ (by omega), pow_split _ (by omega)⟩
  refine ⟨b + 1074 - a, ?_, ?_, ?_⟩
  · rw [e1, e2, Nat.mul_assoc (den * 2 ^ b), Nat.mul_comm T, ← Nat.mul_assoc]
    exact Nat.mul_lt_mul_of_pos_right h5 hT
  · rcases n with e | e
    · right
      rw [e1, e2, Nat.mul_assoc (den * 2 ^ b), Nat.mul_comm T, ← Nat.mul_assoc]
      exact Nat.mul_le_mul_right _ e
    · left
      omega
  · rw [e1, e2, rnd_scale _ _ _ hT]
    exact h6
theorem shift_back (E : Nat) : (((E - 1074 : Nat) : Int) - ((1074 - E : Nat) : Int) + 1074).toNat = E := by omega
theorem shift_le (E : Nat) : 1074 - E ≤ 1074 := by omega
theorem near_ofE {num den E r : Nat} (hd : 0 < den) (h : NearE num den E r) : Near num den r := by
  obtain ⟨h1, h2, h3⟩ := h
  obtain ⟨T, hT, e1, e2⟩ : ∃ T, 0 < T ∧ num * T74 = num * 2 ^ (1074 - E) * T ∧ den * 2 ^ E = den * 2 ^ (E - 1074) * T := by
    refine ⟨2 ^ (1074 - (1074 - E)), Nat.pow_pos (by decide), T74_split _ (by omega), pow_split _ (by omega)⟩
  have hdb : 0 < den * 2 ^ (E - 1074) := Nat.mul_pos hd (Nat.pow_pos (by omega))
  have k1 : num * 2 ^ (1074 - E) < den * 2 ^ (E - 1074) * 9007199254740992 := by
    rw [e1, e2, Nat.mul_assoc (den * 2 ^ (E - 1074)), Nat.mul_comm T, ← Nat.mul_assoc] at h1
    exact Nat.lt_of_mul_lt_mul_right h1
  have k2 : E = 0 ∨ den * 2 ^ (E - 1074) * 4503599627370496 ≤ num * 2 ^ (1074 - E) := by
    rcases h2 with h | h
    · exact .inl h
    · right
      rw [e1, e2, Nat.mul_assoc (den * 2 ^ (E - 1074)), Nat.mul_comm T, ← Nat.mul_assoc] at h
      exact Nat.le_of_mul_le_mul_right h hT
  have q := rnd_le k1
  rw [e1, e2, rnd_scale _ _ _ hT] at h3
  clear e1 e2 h1 h2
  refine ⟨1074 - E, E - 1074, by omega, ?_, ?_, ?_, k1, ?_⟩
  · by_cases c : 1074 - E = 0
    · exact .inl c
    · right
      rw [show E - 1074 = 0 by omega, Nat.pow_zero, Nat.mul_one] at k1
      have e := double_next num (1074 - E - 1)
      rw [show 1074 - E - 1 + 1 = 1074 - E by omega] at e
      rw [← e] at k1
      clear e k2 h3 q hdb
      generalize num * 2 ^ (1074 - E - 1) = X at *
      omega
  · rcases k2 with h | h
    · left; omega
    · right
      refine Nat.le_trans (Nat.mul_le_mul_right _ ?_) h
      exact Nat.le_mul_of_pos_right _ (Nat.pow_pos (by omega))
  · by_cases c : E - 1074 = 0
    · exact .inl c
    · right
      rcases k2 with h | h
      · omega
      · have e := double_next den (E - 1074 - 1)
        rw [show E - 1074 - 1 + 1 = E - 1074 by omega] at e
        rw [← e] at h
        refine Nat.le_trans ?_ h
        clear e h k1 h3 q hdb
        generalize den * 2 ^ (E - 1074 - 1) = X at *
        omega
  · have eE : (((E - 1074 : Nat) : Int) - ((1074 - E : Nat) : Int) + 1074).toNat = E := shift_back E
    have g : 4503599627370496 ≤ rnd (num * 2 ^ (1074 - E)) (den * 2 ^ (E - 1074)) ∨ ((E - 1074 : Nat) : Int) - ((1074 - E : Nat) : Int) = -1074 := by
      rcases k2 with h | h
      · subst h
        exact .inr rfl
      · exact .inl (rnd_ge hdb h)
    rw [packed_min q (exp_ge (shift_le E)) g, eE]
    exact h3
theorem nearE_exists (num den : Nat) (hd : 0 < den) : ∃ E r, NearE num den E r := by
  have h : ∀ E, num * T74 < den * 2 ^ E * 9007199254740992 → ∃ E r, NearE num den E r := by
    intro E
    induction E with
    | zero => intro h; exact ⟨0, _, h, .inl rfl, rfl⟩
    | succ E ih =>
      intro h
      by_cases c : num * T74 < den * 2 ^ E * 9007199254740992
      · exact ih c
      · refine ⟨E + 1, _, h, .inr ?_, rfl⟩
        rw [← double_next]
        generalize den * 2 ^ E = X at *
        generalize num * T74 = Y at *
        clear h ih
        omega
  refine h (num * T74) ?_
  have h1 : num * T74 < 2 ^ (num * T74) := Nat.lt_two_pow_self
  generalize num * T74 = Y at *
  refine Nat.lt_of_lt_of_le h1 ?_
  rw [Nat.mul_comm den, Nat.mul_assoc]
  exact Nat.le_mul_of_pos_right _ (Nat.mul_pos hd (by omega))
theorem near_exists (num den : Nat) (hd : 0 < den) : ∃ r, Near num den r := by
  obtain ⟨E, r, h⟩ := nearE_exists num den hd
  exact ⟨r, near_ofE hd h⟩
/-- The whole number of a fraction's bits, and its unit. -/
def mant (r : Nat) : Nat := if r < 4503599627370496 then r else r % 4503599627370496 + 4503599627370496
def step (r : Nat) : Nat := 2 ^ (r / 4503599627370496 - 1)
/-- A fraction in units of 2^-1076, and the place half way to the next. -/
def fval (r : Nat) : Nat := 4 * mant r * step r
def mid (r : Nat) : Nat := (4 * mant r + 2) * step r
theorem step_pos (r : Nat) : 0 < step r := Nat.pow_pos (by omega)
theorem fval_succ (r : Nat) : fval (r + 1) = fval r + 4 * step r := by
  unfold fval mant step
  by_cases c : (r + 1) % 4503599627370496 = 0
  · by_cases c1 : r < 4503599627370496
    · have e : r = 4503599627370495 := by omega
      subst e
      rfl
    · rw [if_neg (by omega), if_neg c1, c, show (r + 1) / 4503599627370496 - 1 = (r / 4503599627370496 - 1) + 1 by omega, Nat.pow_succ, show r % 4503599627370496 = 4503599627370495 by omega]
      generalize 2 ^ (r / 4503599627370496 - 1) = S
      omega
  · rw [show (r + 1) / 4503599627370496 = r / 4503599627370496 by omega]
    generalize 2 ^ (r / 4503599627370496 - 1) = S
    have e : ∀ x : Nat, 4 * (x + 1) * S = 4 * x * S + 4 * S := fun x => by rw [Nat.mul_add, Nat.add_mul]
    by_cases c1 : r + 1 < 4503599627370496
    · rw [if_pos c1, if_pos (by omega), e]
    · rw [if_neg c1, if_neg (by omega), ← e]
      congr 2
      omega
theorem mid_eq (r : Nat) : mid r = fval r + 2 * step r := by
  unfold mid fval
  rw [Nat.add_mul]
theorem fval_mono {r s : Nat} (h : r ≤ s) : fval r ≤ fval s := by
  induction h with
  | refl => exact Nat.le_refl _
  | step _ ih => rw [fval_succ]; omega
theorem fval_lt {r s : Nat} (h : r < s) : fval r < fval s := by
  have h1 := fval_mono (show r + 1 ≤ s by omega)
  have h2 := fval_succ r
  have h3 := step_pos r
  omega
theorem mid_mono {r s : Nat} (h : r ≤ s) : mid r ≤ mid s := by
  by_cases c : r = s
  · rw [c]; exact Nat.le_refl _
  · have h1 := fval_mono (show r + 1 ≤ s by omega)
    have h2 := fval_succ r
    rw [mid_eq, mid_eq]
    omega
theorem mid_lt {r s : Nat} (h : r < s) : mid r < mid s := by
  have h1 := fval_mono (show r + 1 ≤ s by omega)
  have h2 := fval_succ r
  have h3 := step_pos r
  have h4 := step_pos s
  rw [mid_eq, mid_eq]
  omega
/-- num / den lies above (below) the half way place under (over) r, or on it, if r is even. -/
def Over (num den r : Nat) : Prop := r = 0 ∨ mid (r - 1) * den < num * T76 ∨ (mid (r - 1) * den = num * T76 ∧ r % 2 = 0)
def Under (num den r : Nat) : Prop := num * T76 < mid r * den ∨ (num * T76 = mid r * den ∧ r % 2 = 0)
theorem rnd_span (n d : Nat) (hd : 0 < d) : (2 * n < (2 * rnd n d + 1) * d ∨ (2 * n = (2 * rnd n d + 1) * d ∧ rnd n d % 2 = 0)) ∧
    ((2 * rnd n d) * d < 2 * n + d ∨ ((2 * rnd n d) * d = 2 * n + d ∧ rnd n d % 2 = 0)) := by
  have e1 := Nat.div_add_mod n d
  have l1 := Nat.mod_lt n hd
  unfold rnd
  generalize n / d = Q at *
  generalize n % d = c at *
  split
  · rename_i h
    have x1 : (2 * (Q + 1) + 1) * d = 2 * (d * Q) + 3 * d := by rw [Nat.add_mul, Nat.mul_assoc, Nat.add_mul, Nat.mul_comm Q]; omega
    have x2 : 2 * (Q + 1) * d = 2 * (d * Q) + 2 * d := by rw [Nat.mul_assoc, Nat.add_mul, Nat.mul_comm Q]; omega
    rw [x1, x2]
    generalize d * Q = Z at *
    omega
  · rename_i h
    have x1 : (2 * Q + 1) * d = 2 * (d * Q) + d := by rw [Nat.add_mul, Nat.mul_assoc, Nat.mul_comm Q]; omega
    have x2 : 2 * Q * d = 2 * (d * Q) := by rw [Nat.mul_assoc, Nat.mul_comm Q]
    rw [x1, x2]
    generalize d * Q = Z at *
    omega
theorem mant_of {E q : Nat} (h1 : q < 9007199254740992) (h2 : E = 0 ∨ 4503599627370496 ≤ q) : mant (E * 4503599627370496 + q) = q ∧ step (E * 4503599627370496 + q) = 2 ^ E := by
  unfold mant step
  by_cases c : q < 4503599627370496
  · have e : E = 0 := by omega
    subst e
    rw [if_pos (by omega)]
    refine ⟨by omega, ?_⟩
    congr 1
    omega
  · rw [if_neg (by omega)]
    refine ⟨by omega, ?_⟩
    congr 1
    omega
theorem mid_of {E q : Nat} (h1 : q < 9007199254740992) (h2 : E = 0 ∨ 4503599627370496 ≤ q) : mid (E * 4503599627370496 + q) = (4 * q + 2) * 2 ^ E := by
  obtain ⟨e1, e2⟩ := mant_of h1 h2
  unfold mid
  rw [e1, e2]
theorem four_X (n : Nat) : n * T76 = 4 * (n * T74) := by
  unfold T76
  generalize T74 = T
  rw [Nat.mul_left_comm]
theorem par_of (E q : Nat) : (E * 4503599627370496 + q) % 2 = q % 2 := by omega
theorem spanOver_pow {D X : Nat} (hD : 0 < D + D) (h : (D + D) * 4503599627370496 ≤ X) : (4 * 9007199254740991 + 2) * D < 4 * X := by omega
theorem spanOver_any {q X Y Z D : Nat} (e : Y + 2 * D = 2 * Z) (s : Z < 2 * X + D ∨ (Z = 2 * X + D ∧ q % 2 = 0)) : Y < 4 * X ∨ (Y = 4 * X ∧ q % 2 = 0) := by omega
theorem spanUnder_pow {D X : Nat} (hD : 0 < D) (h : X < D * 9007199254740992) : 4 * X < (4 * 4503599627370496 + 2) * (D + D) := by omega
theorem spanUnder_any {q X Y : Nat} (s : 2 * X < Y ∨ (2 * X = Y ∧ q % 2 = 0)) : 4 * X < 2 * Y ∨ (4 * X = 2 * Y ∧ q % 2 = 0) := by omega
theorem times_pow (c E den : Nat) : c * 2 ^ E * den = c * (den * 2 ^ E) := by rw [Nat.mul_assoc, Nat.mul_comm (2 ^ E)]
theorem span_over {X den E q : Nat} (hD : 0 < den * 2 ^ E) (q1 : q ≤ 9007199254740992) (q2 : E = 0 ∨ 4503599627370496 ≤ q) (h2 : E = 0 ∨ den * 2 ^ E * 4503599627370496 ≤ X)
    (s2 : (2 * q) * (den * 2 ^ E) < 2 * X + den * 2 ^ E ∨ ((2 * q) * (den * 2 ^ E) = 2 * X + den * 2 ^ E ∧ q % 2 = 0)) (z : E * 4503599627370496 + q ≠ 0) :
    mid (E * 4503599627370496 + q - 1) * den < 4 * X ∨ (mid (E * 4503599627370496 + q - 1) * den = 4 * X ∧ q % 2 = 0) := by
  by_cases c : E ≠ 0 ∧ q = 4503599627370496
  · obtain ⟨c1, c2⟩ := c
    subst c2
    obtain ⟨E', rfl⟩ : ∃ E', E = E' + 1 := ⟨E - 1, (Nat.succ_pred c1).symm⟩
    have e0 : (E' + 1) * 4503599627370496 + 4503599627370496 - 1 = E' * 4503599627370496 + 9007199254740991 := by clear hD q1 q2 h2 s2 z c1; omega
    rw [e0, mid_of (by decide) (.inr (by decide)), times_pow]
    left
    rcases h2 with h | h
    · exact absurd h c1
    · rw [← double_next] at h hD
      exact spanOver_pow hD h
  · clear h2
    have c3 : 1 ≤ q := by clear s2 hD; omega
    have e0 : E * 4503599627370496 + q - 1 = E * 4503599627370496 + (q - 1) := by clear hD q1 q2 s2 z c; omega
    have c4 : E = 0 ∨ 4503599627370496 ≤ q - 1 := by clear hD s2 z e0; omega
    have c5 : q - 1 < 9007199254740992 := by clear hD s2 z e0 c4 q2 c; omega
    rw [e0, mid_of c5 c4, times_pow]
    have e : (4 * (q - 1) + 2) * (den * 2 ^ E) + 2 * (den * 2 ^ E) = 2 * (2 * q * (den * 2 ^ E)) := by
      have e1 : 4 * (q - 1) + 2 + 2 = 2 * (2 * q) := by clear s2 hD c4 c5 e0 z c q2; omega
      rw [← Nat.add_mul, e1, Nat.mul_assoc]
    exact spanOver_any e s2
theorem span_under {X den E q : Nat} (hD : 0 < den * 2 ^ E) (q1 : q ≤ 9007199254740992) (q2 : E = 0 ∨ 4503599627370496 ≤ q) (h1 : X < den * 2 ^ E * 9007199254740992)
    (s1 : 2 * X < (2 * q + 1) * (den * 2 ^ E) ∨ (2 * X = (2 * q + 1) * (den * 2 ^ E) ∧ q % 2 = 0)) :
    4 * X < mid (E * 4503599627370496 + q) * den ∨ (4 * X = mid (E * 4503599627370496 + q) * den ∧ q % 2 = 0) := by
  by_cases c : q = 9007199254740992
  · subst c
    have e0 : E * 4503599627370496 + 9007199254740992 = (E + 1) * 4503599627370496 + 4503599627370496 := by clear hD q1 q2 h1 s1; omega
    rw [e0, mid_of (by decide) (.inr (Nat.le_refl _)), times_pow, ← double_next]
    left
    exact spanUnder_pow hD h1
  · have c5 : q < 9007199254740992 := Nat.lt_of_le_of_ne q1 c
    rw [mid_of c5 q2, times_pow]
    have e : (4 * q + 2) * (den * 2 ^ E) = 2 * ((2 * q + 1) * (den * 2 ^ E)) := by
      have e1 : 4 * q + 2 = 2 * (2 * q + 1) := by clear hD q1 q2 h1 s1 c c5; omega
      rw [e1, Nat.mul_assoc]
    rw [e]
    exact spanUnder_any s1
theorem span_of {num den E : Nat} (hd : 0 < den) (h1 : num * T74 < den * 2 ^ E * 9007199254740992) (h2 : E = 0 ∨ den * 2 ^ E * 4503599627370496 ≤ num * T74) :
    Over num den (E * 4503599627370496 + rnd (num * T74) (den * 2 ^ E)) ∧ Under num den (E * 4503599627370496 + rnd (num * T74) (den * 2 ^ E)) := by
  have hD : 0 < den * 2 ^ E := Nat.mul_pos hd (Nat.pow_pos (by decide))
  have q1 := rnd_le h1
  have q2 : E = 0 ∨ 4503599627370496 ≤ rnd (num * T74) (den * 2 ^ E) := by
    rcases h2 with h | h
    · exact .inl h
    · exact .inr (rnd_ge hD h)
  obtain ⟨s1, s2⟩ := rnd_span (num * T74) (den * 2 ^ E) hD
  unfold Over Under
  rw [four_X]
  generalize num * T74 = X at *
  generalize rnd X (den * 2 ^ E) = q at *
  rw [par_of]
  constructor
  · by_cases z : E * 4503599627370496 + q = 0
    · exact .inl z
    · exact .inr (span_over hD q1 q2 h2 s2 z)
  · exact span_under hD q1 q2 h1 s1
/-- What Near tells. -/
theorem near_span {num den r : Nat} (hd : 0 < den) (h : Near num den r) : r ≤ 9218868437227405312 ∧ Over num den r ∧ (r < 9218868437227405312 → Under num den r) := by
  obtain ⟨E, h1, h2, h3⟩ := nearE_of hd h
  obtain ⟨s1, s2⟩ := span_of hd h1 h2
  generalize E * 4503599627370496 + rnd (num * T74) (den * 2 ^ E) = R at *
  refine ⟨by omega, ?_, ?_⟩
  · by_cases c : R ≤ 9218868437227405312
    · rw [h3, Nat.min_eq_right c]
      exact s1
    · have e : r = 9218868437227405312 := by omega
      rw [e]
      right
      have m := Nat.mul_le_mul_right den (mid_mono (show 9218868437227405312 - 1 ≤ R - 1 by omega))
      have m2 : mid (R - 1) * den ≤ num * T76 := by
        rcases s1 with s | s | s
        · omega
        · omega
        · omega
      generalize num * T76 = X at *
      generalize mid (9218868437227405312 - 1) * den = Y at *
      generalize mid (R - 1) * den = Z at *
      omega
  · intro hr
    rw [h3, Nat.min_eq_right (by omega)]
    exact s2
theorem over_under {num den r s : Nat} (hd : 0 < den) (hu : Under num den r) (ho : Over num den s) : s ≤ r := by
  by_cases c : s ≤ r
  · exact c
  · exfalso
    have m := Nat.mul_le_mul_right den (mid_mono (show r ≤ s - 1 by omega))
    unfold Over Under at *
    by_cases c2 : s = r + 1
    · subst c2
      rw [show r + 1 - 1 = r by omega] at ho
      generalize num * T76 = X at *
      generalize mid r * den = Y at *
      omega
    · have m2 := Nat.mul_lt_mul_of_pos_right (mid_lt (show r < s - 1 by omega)) hd
      generalize num * T76 = X at *
      generalize mid r * den = Y at *
      generalize mid (s - 1) * den = Z at *
      omega
/-- And it is told by that. -/
theorem near_of_span {num den r : Nat} (hd : 0 < den) (hr : r < 9218868437227405312) (ho : Over num den r) (hu : Under num den r) : Near num den r := by
  obtain ⟨s, h⟩ := near_exists num den hd
  obtain ⟨h1, h2, h3⟩ := near_span hd h
  have l1 := over_under hd hu h2
  have l2 := over_under hd (h3 (by omega)) ho
  have e : s = r := by omega
  rw [← e]
  exact h
theorem near_of_inf {num den : Nat} (hd : 0 < den) (ho : Over num den 9218868437227405312) : Near num den 9218868437227405312 := by
  obtain ⟨s, h⟩ := near_exists num den hd
  obtain ⟨h1, h2, h3⟩ := near_span hd h
  by_cases c : s = 9218868437227405312
  · rw [← c]; exact h
  · have l2 := over_under hd (h3 (by omega)) ho
    omega
end Go.Proofs.YtobbbhmkcmbekaaDoor.bigs
/- The shortest digits of a fraction, plain: the levels at which a number of few digits lies beside it. -/
set_option linter.unusedVariables false
namespace Go.Proofs.YtobbbhmkcmbekaaDoor.bigs

/-- 10^1080 / 2^1076. -/
def c80 : Nat := 1080
def wF : Nat := 16 * 5 ^ c80
def T10 : Nat := 10 ^ c80
theorem pow_ten (n : Nat) : (10 : Nat) ^ n = 2 ^ n * 5 ^ n := Nat.mul_pow 2 5 n
theorem two80 : 2 ^ c80 = T76 * 16 := by
  have e : c80 = c74 + 6 := rfl
  rw [e, Nat.pow_add]
  unfold T76 T74
  generalize 2 ^ c74 = T
  omega
theorem wF_eq : T76 * wF = T10 := by
  unfold wF T10
  rw [pow_ten, two80, Nat.mul_assoc]
theorem wF_pos : 0 < wF := Nat.mul_pos (by decide) (Nat.pow_pos (by decide))
theorem T10_split (x : Nat) {b c : Nat} (h : 1080 = b + c) : x * T10 = x * 10 ^ b * 10 ^ c := by
  have e : c80 = b + c := h
  unfold T10
  rw [e, Nat.pow_add, Nat.mul_assoc]
/-- A fraction, and the half way places beside it, in units of 10^-1080. -/
def fX (r : Nat) : Nat := fval r * wF
def fH (r : Nat) : Nat := mid r * wF
def fL (r : Nat) : Nat := mid (r - 1) * wF
def Okay (r x : Nat) : Prop := (fL r < x ∧ x < fH r) ∨ (r % 2 = 0 ∧ fL r ≤ x ∧ x ≤ fH r)
theorem scale_lt {m num den x : Nat} (hd : 0 < den) (hx : num * T10 = x * den) : (m * den < num * T76 ↔ m * wF < x) ∧ (m * den = num * T76 ↔ m * wF = x) ∧ (num * T76 < m * den ↔ x < m * wF) := by
  rw [← wF_eq, ← Nat.mul_assoc] at hx
  have e : ∀ y, y * den * wF = y * wF * den := fun y => by rw [Nat.mul_assoc, Nat.mul_comm den, Nat.mul_assoc]
  have hw := wF_pos
  generalize num * T76 = N at *
  have l1 : m * den < N ↔ m * wF < x := by
    rw [← Nat.mul_lt_mul_right hw, hx, e]
    exact Nat.mul_lt_mul_right hd
  have l2 : N < m * den ↔ x < m * wF := by
    rw [← Nat.mul_lt_mul_right hw, hx, e]
    exact Nat.mul_lt_mul_right hd
  exact ⟨l1, by omega, l2⟩
theorem near_okay {num den r x : Nat} (hd : 0 < den) (h0 : 0 < r) (hr : r < 9218868437227405312) (hx : num * T10 = x * den) : Near num den r ↔ Okay r x := by
  obtain ⟨a1, a2, a3⟩ := scale_lt (m := mid (r - 1)) hd hx
  obtain ⟨b1, b2, b3⟩ := scale_lt (m := mid r) hd hx
  have key : Over num den r ∧ Under num den r ↔ Okay r x := by
    unfold Over Under Okay fL fH
    rw [a1, a2, b3, eq_comm (a := num * T76), b2]
    generalize mid (r - 1) * wF = A
    generalize mid r * wF = B
    omega
  constructor
  · intro h
    obtain ⟨_, h2, h3⟩ := near_span hd h
    exact key.1 ⟨h2, h3 hr⟩
  · intro h
    obtain ⟨h2, h3⟩ := key.2 h
    exact near_of_span hd hr h2 h3
theorem below_of (r : Nat) (h : 0 < r) : fL r < fX r ∧ fX r < fH r := by
  unfold fL fX fH
  have h1 := fval_succ (r - 1)
  rw [show r - 1 + 1 = r by omega] at h1
  have h2 := mid_eq (r - 1)
  have h3 := mid_eq r
  have h4 := step_pos r
  have h5 := step_pos (r - 1)
  exact ⟨Nat.mul_lt_mul_of_pos_right (by omega) wF_pos, Nat.mul_lt_mul_of_pos_right (by omega) wF_pos⟩
theorem okay_self (r : Nat) (h : 0 < r) : Okay r (fX r) := .inl (below_of r h)
theorem okay_between {r x y z : Nat} (h1 : Okay r x) (h2 : Okay r z) (h3 : x ≤ y) (h4 : y ≤ z) : Okay r y := by unfold Okay at *; omega
/-- The numbers beside X at a level. -/
def lowOf (X j : Nat) : Nat := X / 10 ^ j * 10 ^ j
def upOf (X j : Nat) : Nat := if lowOf X j = X then lowOf X j else lowOf X j + 10 ^ j
def Upper (X j : Nat) : Prop := upOf X j - X < X - lowOf X j ∨ (upOf X j - X = X - lowOf X j ∧ X / 10 ^ j % 2 = 1)
def Good (r j : Nat) : Prop := Okay r (lowOf (fX r) j) ∨ Okay r (upOf (fX r) j)
def Pick (r j p : Nat) : Prop :=
  (¬ Okay r (lowOf (fX r) j) ∧ Okay r (upOf (fX r) j) ∧ p = upOf (fX r) j) ∨
  (Okay r (lowOf (fX r) j) ∧ ¬ Okay r (upOf (fX r) j) ∧ p = lowOf (fX r) j) ∨
  (Okay r (lowOf (fX r) j) ∧ Okay r (upOf (fX r) j) ∧ ((Upper (fX r) j ∧ p = upOf (fX r) j) ∨ (¬ Upper (fX r) j ∧ p = lowOf (fX r) j)))
def Best (r j p : Nat) : Prop := 10 ^ j ≤ fX r ∧ Pick r j p ∧ ∀ i, j < i → 10 ^ i ≤ fX r → ¬ Good r i
theorem pick_good {r j p : Nat} (h : Pick r j p) : Good r j := by unfold Pick Good at *; rcases h with h | h | h <;> simp_all
theorem pick_okay {r j p : Nat} (h : Pick r j p) : Okay r p := by
  unfold Pick at h
  rcases h with ⟨_, h, rfl⟩ | ⟨h, _, rfl⟩ | ⟨h1, h2, ⟨_, rfl⟩ | ⟨_, rfl⟩⟩ <;> assumption
theorem pick_unique {r j p q : Nat} (h : Pick r j p) (k : Pick r j q) : p = q := by
  unfold Pick at h k
  rcases h with ⟨a, b, rfl⟩ | ⟨a, b, rfl⟩ | ⟨a, b, ⟨c, rfl⟩ | ⟨c, rfl⟩⟩ <;> rcases k with ⟨a', b', rfl⟩ | ⟨a', b', rfl⟩ | ⟨a', b', ⟨c', rfl⟩ | ⟨c', rfl⟩⟩ <;> first | rfl | contradiction
theorem best_unique {r j p i q : Nat} (h : Best r j p) (k : Best r i q) : p = q := by
  obtain ⟨h1, h2, h3⟩ := h
  obtain ⟨k1, k2, k3⟩ := k
  rcases Nat.lt_trichotomy i j with c | c | c
  · exact absurd (pick_good h2) (k3 j c h1)
  · subst c; exact pick_unique h2 k2
  · exact absurd (pick_good k2) (h3 i c k1)
theorem lowOf_le (X j : Nat) : lowOf X j ≤ X := Nat.div_mul_le_self _ _
theorem lt_lowOf (X j : Nat) : X < lowOf X j + 10 ^ j := by
  unfold lowOf
  have := Nat.div_add_mod X (10 ^ j)
  have h := Nat.mod_lt X (show 0 < 10 ^ j from Nat.pow_pos (by omega))
  rw [Nat.mul_comm]
  omega
theorem mant_lt (r : Nat) : mant r < 9007199254740992 := by unfold mant; split <;> omega
theorem step_down (r : Nat) (h : 0 < r) : step (r - 1) = step r ∨ (step r = 2 * step (r - 1) ∧ mant r = 4503599627370496) := by
  unfold step mant
  by_cases c : r % 4503599627370496 = 0
  · by_cases c1 : r / 4503599627370496 = 1
    · left; rw [c1, show (r - 1) / 4503599627370496 = 0 by omega]
    · right
      rw [if_neg (by omega), c, show r / 4503599627370496 - 1 = ((r - 1) / 4503599627370496 - 1) + 1 by omega, Nat.pow_succ]
      exact ⟨by rw [Nat.mul_comm], rfl⟩
  · left
    congr 2
    omega
/-- The span is wider than a unit of the 17th digit. -/
theorem wide {r : Nat} (h : 0 < r) : fX r < (fH r - fL r) * 10000000000000000 := by
  unfold fX fH fL
  have hw := wF_pos
  rw [← Nat.sub_mul, Nat.mul_assoc, Nat.mul_comm wF, ← Nat.mul_assoc]
  refine Nat.mul_lt_mul_of_pos_right ?_ hw
  have h1 := fval_succ (r - 1)
  rw [show r - 1 + 1 = r by omega] at h1
  have h2 := mid_eq (r - 1)
  have h3 := mid_eq r
  have e : mid r - mid (r - 1) = 2 * step r + 2 * step (r - 1) := by omega
  rw [e]
  have m := mant_lt r
  have s := step_pos r
  have e2 : fval r = 4 * (mant r * step r) := by unfold fval; rw [Nat.mul_assoc]
  rw [e2]
  clear e e2 h1 h2 h3
  rcases step_down r h with d | ⟨d1, d2⟩
  · rw [d]
    have := Nat.mul_lt_mul_of_pos_right m s
    generalize mant r * step r = Z at *
    omega
  · rw [d2]
    omega
theorem good_fine {r i : Nat} (h : 0 < r) (hi : 10 ^ i * 10000000000000000 ≤ fX r) : Good r i := by
  by_cases g : Good r i
  · exact g
  · exfalso
    have w := wide h
    have b := below_of r h
    have l1 := lowOf_le (fX r) i
    have l2 := lt_lowOf (fX r) i
    unfold Good upOf at g
    by_cases c : lowOf (fX r) i = fX r
    · rw [c] at g
      exact g (.inl (okay_self r h))
    · rw [if_neg c] at g
      unfold Okay at g
      generalize 10 ^ i = T at *
      generalize lowOf (fX r) i = A at *
      generalize fX r = X at *
      generalize fL r = L at *
      generalize fH r = H at *
      omega
theorem pow10_pos (j : Nat) : 0 < (10 : Nat) ^ j := Nat.pow_pos (by omega)
/-- A number with few digits in the span: then the level of as many is good. -/
theorem good_of_few {r n c i j : Nat} (h0 : 0 < r) (hn : n < 10 ^ c) (ho : Okay r (n * 10 ^ i)) (hX : 10 ^ (c + j) ≤ fX r * 10) : Good r j := by
  by_cases hc : c = 0
  · exfalso
    subst hc
    have hz : n = 0 := by rw [Nat.pow_zero] at hn; omega
    subst hz
    have p : 0 < mid (r - 1) := by rw [mid_eq]; have := step_pos (r - 1); omega
    have q : 0 < fL r := Nat.mul_pos p wF_pos
    unfold Okay at ho
    omega
  have P := pow10_pos j
  have front : 10 ^ (c - 1) * 10 ^ j ≤ lowOf (fX r) j := by
    unfold lowOf
    refine Nat.mul_le_mul_right _ ((Nat.le_div_iff_mul_le P).2 ?_)
    rw [show c + j = (c - 1 + j) + 1 by omega, Nat.pow_succ] at hX
    rw [← Nat.pow_add]
    omega
  have l1 := lowOf_le (fX r) j
  have l2 := lt_lowOf (fX r) j
  by_cases ci : i < j
  · have small : n * 10 ^ i ≤ lowOf (fX r) j := by
      refine Nat.le_trans ?_ front
      have h1 : n * 10 ^ i ≤ 10 ^ c * 10 ^ i := Nat.mul_le_mul_right _ (by omega)
      refine Nat.le_trans h1 ?_
      rw [← Nat.pow_add, ← Nat.pow_add]
      exact Nat.pow_le_pow_right (by omega) (by omega)
    exact .inl (okay_between ho (okay_self r h0) small l1)
  · obtain ⟨d, rfl⟩ : ∃ d, i = j + d := ⟨i - j, by omega⟩
    have em : n * 10 ^ (j + d) = n * 10 ^ d * 10 ^ j := by rw [Nat.pow_add, Nat.mul_comm (10 ^ j), Nat.mul_assoc]
    rw [em] at ho
    generalize n * 10 ^ d = m at *
    by_cases cm : m * 10 ^ j ≤ fX r
    · left
      refine okay_between ho (okay_self r h0) ?_ l1
      unfold lowOf
      exact Nat.mul_le_mul_right _ ((Nat.le_div_iff_mul_le P).2 cm)
    · right
      unfold upOf
      split
      · rename_i e
        rw [e]
        exact okay_self r h0
      · refine okay_between (okay_self r h0) ho (by omega) ?_
        have : fX r / 10 ^ j < m := Nat.div_lt_of_lt_mul (by rw [Nat.mul_comm]; omega)
        unfold lowOf
        have e : fX r / 10 ^ j * 10 ^ j + 10 ^ j = (fX r / 10 ^ j + 1) * 10 ^ j := by rw [Nat.add_mul, Nat.one_mul]
        rw [e]
        exact Nat.mul_le_mul_right _ (by omega)
theorem dvd_ten_le {d t j m : Nat} (h : d * 10 ^ t = m * 10 ^ j) (hd : d % 10 ≠ 0) : j ≤ t := by
  by_cases c : j ≤ t
  · exact c
  · exfalso
    obtain ⟨e, rfl⟩ : ∃ e, j = t + (e + 1) := ⟨j - t - 1, by omega⟩
    rw [Nat.pow_add, ← Nat.mul_assoc, Nat.mul_comm m, Nat.mul_assoc, Nat.mul_comm (10 ^ t)] at h
    have h1 := Nat.eq_of_mul_eq_mul_right (pow10_pos t) h
    rw [Nat.pow_succ, ← Nat.mul_assoc] at h1
    omega
theorem ten_unique {d t e s : Nat} (h : d * 10 ^ t = e * 10 ^ s) (hd : d % 10 ≠ 0) (he : e % 10 ≠ 0) : d = e ∧ t = s := by
  have a := dvd_ten_le h hd
  have b := dvd_ten_le h.symm he
  have c : t = s := by omega
  subst c
  exact ⟨Nat.eq_of_mul_eq_mul_right (pow10_pos t) h, rfl⟩
theorem best_multiple {r j p : Nat} (h : Pick r j p) : ∃ m, p = m * 10 ^ j ∧ m ≤ fX r / 10 ^ j + 1 := by
  have e1 : ∃ m, lowOf (fX r) j = m * 10 ^ j ∧ m ≤ fX r / 10 ^ j + 1 := ⟨_, rfl, by omega⟩
  have e2 : ∃ m, upOf (fX r) j = m * 10 ^ j ∧ m ≤ fX r / 10 ^ j + 1 := by
    unfold upOf
    split
    · exact e1
    · refine ⟨fX r / 10 ^ j + 1, ?_, Nat.le_refl _⟩
      rw [Nat.add_mul, Nat.one_mul]
      rfl
  unfold Pick at h
  rcases h with ⟨_, h, rfl⟩ | ⟨h, _, rfl⟩ | ⟨h1, h2, ⟨_, rfl⟩ | ⟨_, rfl⟩⟩ <;> assumption
/-- No digits are told that are more than needed. -/
theorem best_least {r j p d t n c i : Nat} (h0 : 0 < r) (hb : Best r j p) (hp : d * 10 ^ t = p) (hd : d % 10 ≠ 0) (hn : n < 10 ^ c) (hc : 10 ^ c ≤ d) (ho : Okay r (n * 10 ^ i)) : False := by
  obtain ⟨h1, h2, h3⟩ := hb
  obtain ⟨m, rfl, hm⟩ := best_multiple h2
  have jt := dvd_ten_le hp hd
  have dm : d ≤ m := by
    obtain ⟨e, rfl⟩ : ∃ e, t = j + e := ⟨t - j, by omega⟩
    rw [Nat.pow_add, Nat.mul_comm (10 ^ j), ← Nat.mul_assoc] at hp
    have := Nat.eq_of_mul_eq_mul_right (pow10_pos j) hp
    rw [← this]
    exact Nat.le_mul_of_pos_right _ (pow10_pos e)
  -- 10^c ≤ d ≤ front + 1, and d is no multiple of ten: so 10^c ≤ front, or c = 0
  by_cases c0 : c = 0
  · subst c0
    have hz : n = 0 := by rw [Nat.pow_zero] at hn; omega
    subst hz
    have p : 0 < mid (r - 1) := by rw [mid_eq]; have := step_pos (r - 1); omega
    have q : 0 < fL r := Nat.mul_pos p wF_pos
    unfold Okay at ho
    omega
  have cf : 10 ^ c ≤ fX r / 10 ^ j := by
    by_cases z : 10 ^ c = fX r / 10 ^ j + 1
    · exfalso
      have e : d = 10 ^ c := by omega
      rw [show c = (c - 1) + 1 by omega, Nat.pow_succ] at e
      omega
    · omega
  have big : 10 ^ (c + j) ≤ fX r := by
    rw [Nat.pow_add]
    exact (Nat.le_div_iff_mul_le (pow10_pos j)).1 cf
  have g := good_of_few (j := j + 1) h0 hn ho (by rw [← Nat.add_assoc, Nat.pow_succ]; omega)
  exact h3 (j + 1) (by omega) (Nat.le_trans (Nat.pow_le_pow_right (by omega) (by omega)) big) g
/-- At most 17 digits. -/
theorem best_17 {r j p d t : Nat} (h0 : 0 < r) (hb : Best r j p) (hp : d * 10 ^ t = p) (hd : d % 10 ≠ 0) : d < 100000000000000000 := by
  by_cases c : d < 100000000000000000
  · exact c
  · exfalso
    obtain ⟨h1, h2, h3⟩ := hb
    obtain ⟨m, rfl, hm⟩ := best_multiple h2
    have jt := dvd_ten_le hp hd
    have dm : d ≤ m := by
      obtain ⟨e, rfl⟩ : ∃ e, t = j + e := ⟨t - j, by omega⟩
      rw [Nat.pow_add, Nat.mul_comm (10 ^ j), ← Nat.mul_assoc] at hp
      have := Nat.eq_of_mul_eq_mul_right (pow10_pos j) hp
      rw [← this]
      exact Nat.le_mul_of_pos_right _ (pow10_pos e)
    have cf : 100000000000000000 ≤ fX r / 10 ^ j := by omega
    have big := (Nat.le_div_iff_mul_le (pow10_pos j)).1 cf
    have e10 : (10 : Nat) ^ (j + 1) = 10 * 10 ^ j := by rw [Nat.pow_succ, Nat.mul_comm]
    have g := good_fine (i := j + 1) h0 (by rw [e10]; generalize (10 : Nat) ^ j = T at *; omega)
    exact h3 (j + 1) (by omega) (by rw [e10]; generalize (10 : Nat) ^ j = T at *; omega) g
end Go.Proofs.YtobbbhmkcmbekaaDoor.bigs
/- The program's units of a fraction, plain: floorLog10, and the ladder of units. -/
set_option linter.unusedVariables false
namespace Go.Proofs.YtobbbhmkcmbekaaDoor.bigs

/-- The power of ten under 2^N * 5^1080. -/
def logOf (N : Nat) : Nat := (N * 1262611 + 3166228440) / 4194304
def logFits (N : Nat) : Bool := decide (10 ^ logOf N ≤ 2 ^ N * 5 ^ c80 ∧ 2 ^ N * 5 ^ c80 < 10 ^ (logOf N + 1))
def allFit (k : Nat) : Nat → Bool
  | 0 => true
  | n + 1 => logFits (k + n) && allFit k n
theorem allFit_at {k : Nat} : ∀ n, allFit k n = true → ∀ i, i < n → logFits (k + i) = true
  | 0, _, i, hi => by omega
  | n + 1, h, i, hi => by
    unfold allFit at h
    rw [Bool.and_eq_true] at h
    by_cases c : i = n
    · rw [c]; exact h.1
    · exact allFit_at n h.2 i (by omega)
theorem fits1 : allFit 6 500 = true := by decide +kernel
theorem fits2 : allFit 506 500 = true := by decide +kernel
theorem fits3 : allFit 1006 500 = true := by decide +kernel
theorem fits4 : allFit 1506 598 = true := by decide +kernel
theorem log_fits {N : Nat} (h1 : 6 ≤ N) (h2 : N < 2104) : 10 ^ logOf N ≤ 2 ^ N * 5 ^ c80 ∧ 2 ^ N * 5 ^ c80 < 10 ^ (logOf N + 1) := by
  have h : logFits N = true := by
    by_cases a : N < 506
    · have := allFit_at _ fits1 (N - 6) (by omega)
      rwa [show 6 + (N - 6) = N by omega] at this
    · by_cases b : N < 1006
      · have := allFit_at _ fits2 (N - 506) (by omega)
        rwa [show 506 + (N - 506) = N by omega] at this
      · by_cases c : N < 1506
        · have := allFit_at _ fits3 (N - 1006) (by omega)
          rwa [show 1006 + (N - 1006) = N by omega] at this
        · have := allFit_at _ fits4 (N - 1506) (by omega)
          rwa [show 1506 + (N - 1506) = N by omega] at this
  exact of_decide_eq_true h
theorem fX_eq (r E : Nat) (hs : step r = 2 ^ E) : fX r = mant r * (2 ^ (E + 6) * 5 ^ c80) := by
  unfold fX fval wF
  rw [hs, Nat.pow_add]
  generalize 2 ^ E = T
  generalize 5 ^ c80 = F
  generalize mant r = m
  have e : (2 : Nat) ^ 6 = 64 := rfl
  rw [e, Nat.mul_assoc 4 m T, Nat.mul_mul_mul_comm 4 (m * T) 16 F, Nat.mul_comm T 64, Nat.mul_assoc 64 T F, Nat.mul_left_comm m 64, Nat.mul_assoc m T F]
/-- The fraction has 18 or 19 digits in the program's unit. -/
theorem at_range {r E b : Nat} (hs : step r = 2 ^ E) (hb1 : 2 ^ b ≤ mant r) (hb2 : mant r < 2 ^ (b + 1)) (hE : E ≤ 2045) (hb : b ≤ 52) :
    10 ^ (logOf (b + E + 6)) ≤ fX r ∧ fX r < 2 * 10 ^ (logOf (b + E + 6) + 1) := by
  obtain ⟨h1, h2⟩ := log_fits (N := b + E + 6) (by omega) (by omega)
  rw [fX_eq r E hs]
  rw [Nat.add_assoc b, Nat.pow_add, Nat.mul_assoc] at h1 h2
  rw [Nat.pow_succ] at hb2
  generalize 2 ^ (E + 6) * 5 ^ c80 = F at *
  rw [Nat.add_assoc b]
  constructor
  · exact Nat.le_trans h1 (Nat.mul_le_mul_right _ hb1)
  · have a1 : mant r * F ≤ 2 ^ b * 2 * F := Nat.mul_le_mul_right _ (by omega)
    have a2 : 2 ^ b * 2 * F = 2 * (2 ^ b * F) := by rw [Nat.mul_comm (2 ^ b), Nat.mul_assoc]
    omega
theorem div_cross {N D Y P : Nat} (hD : 0 < D) (hP : 0 < P) (h : N * P = Y * D) : N / D = Y / P ∧ (N % D = 0 ↔ Y % P = 0) := by
  constructor
  · rw [← Nat.mul_div_mul_right N D hP, h, Nat.mul_comm D P, Nat.mul_div_mul_right _ _ hD]
  · have e : N % D * P = Y % P * D := by rw [← Nat.mul_mod_mul_right, h, Nat.mul_comm D P, Nat.mul_mod_mul_right]
    constructor
    · intro h0
      rw [h0, Nat.zero_mul] at e
      rcases Nat.mul_eq_zero.1 e.symm with k | k <;> omega
    · intro h0
      rw [h0, Nat.zero_mul] at e
      rcases Nat.mul_eq_zero.1 e with k | k <;> omega
/-- The span in units of 10^c: low and high as the program has them. -/
def sLow (r c : Nat) : Nat := fL r / 10 ^ c + (if r % 2 = 1 ∨ fL r % 10 ^ c ≠ 0 then 1 else 0)
def sHigh (r c : Nat) : Nat := fH r / 10 ^ c - (if r % 2 = 1 ∧ fH r % 10 ^ c = 0 then 1 else 0)
theorem times_split (Y P x : Nat) (hP : 0 < P) : (x * P < Y ↔ x < Y / P ∨ (x = Y / P ∧ Y % P ≠ 0)) ∧ (x * P = Y ↔ x = Y / P ∧ Y % P = 0) := by
  have e := Nat.div_add_mod Y P
  have l := Nat.mod_lt Y hP
  generalize Y / P = q at *
  generalize Y % P = s at *
  rcases Nat.lt_trichotomy x q with c | c | c
  · have h := Nat.mul_le_mul_right P (show x + 1 ≤ q by omega)
    rw [Nat.add_mul, Nat.one_mul, Nat.mul_comm q] at h
    omega
  · subst c
    rw [Nat.mul_comm x]
    omega
  · have h := Nat.mul_le_mul_right P (show q + 1 ≤ x by omega)
    rw [Nat.add_mul, Nat.one_mul, Nat.mul_comm q] at h
    omega
theorem low_okay {r c x : Nat} (h0 : 0 < r) (hx : x * 10 ^ c ≤ fX r) : x < sLow r c ↔ ¬ Okay r (x * 10 ^ c) := by
  obtain ⟨a1, a2⟩ := times_split (fL r) (10 ^ c) x (pow10_pos c)
  obtain ⟨b1, b2⟩ := below_of r h0
  unfold Okay sLow
  generalize x * 10 ^ c = y at *
  generalize fL r / 10 ^ c = q at *
  generalize fL r % 10 ^ c = s at *
  generalize fL r = L at *
  generalize fH r = H at *
  generalize fX r = X at *
  split <;> omega
theorem high_okay {r c x : Nat} (h0 : 0 < r) (hx : fX r ≤ x * 10 ^ c) : x ≤ sHigh r c ↔ Okay r (x * 10 ^ c) := by
  obtain ⟨a1, a2⟩ := times_split (fH r) (10 ^ c) x (pow10_pos c)
  obtain ⟨b1, b2⟩ := below_of r h0
  unfold Okay sHigh
  have hx0 : x ≠ 0 := by intro e; subst e; rw [Nat.zero_mul] at hx; omega
  generalize x * 10 ^ c = y at *
  generalize fH r / 10 ^ c = q at *
  generalize fH r % 10 ^ c = s at *
  generalize fL r = L at *
  generalize fH r = H at *
  generalize fX r = X at *
  split <;> omega
/-- What nearestOf sees at a unit of 10^u, at being fX / 10^c. -/
theorem at_low {X c u a : Nat} (ha : a = X / 10 ^ c) : lowOf X (c + u) = a / 10 ^ u * 10 ^ u * 10 ^ c ∧ X / 10 ^ (c + u) = a / 10 ^ u := by
  have e : X / 10 ^ (c + u) = a / 10 ^ u := by rw [ha, Nat.pow_add, Nat.div_div_eq_div_mul]
  refine ⟨?_, e⟩
  unfold lowOf
  rw [e, Nat.pow_add, Nat.mul_comm (10 ^ c), Nat.mul_assoc]
theorem at_parts {X c u a : Nat} (ha : a = X / 10 ^ c) : X = lowOf X (c + u) + (a % 10 ^ u * 10 ^ c + X % 10 ^ c) ∧ X % 10 ^ c < 10 ^ c := by
  have e1 := Nat.div_add_mod X (10 ^ c)
  have e2 := Nat.div_add_mod a (10 ^ u)
  refine ⟨?_, Nat.mod_lt _ (pow10_pos c)⟩
  rw [(at_low ha).1]
  rw [← ha] at e1
  have e3 : a * 10 ^ c = a / 10 ^ u * 10 ^ u * 10 ^ c + a % 10 ^ u * 10 ^ c := by rw [← Nat.add_mul, Nat.mul_comm (a / 10 ^ u), e2]
  rw [Nat.mul_comm (10 ^ c)] at e1
  omega
theorem half_ten (u : Nat) (hu : 1 ≤ u) : 10 ^ u / 2 * 2 = 10 ^ u := by
  obtain ⟨v, rfl⟩ : ∃ v, u = v + 1 := ⟨u - 1, by omega⟩
  rw [Nat.pow_succ]
  omega
/-- Its answers: the number that is picked, or that there is none. -/
theorem near_down {r c u a : Nat} (h0 : 0 < r) (ha : a = fX r / 10 ^ c) (hu : 1 ≤ u) (hd : ¬ a / 10 ^ u * 10 ^ u < sLow r c)
    (hc : sHigh r c < a / 10 ^ u * 10 ^ u + 10 ^ u ∨ a % 10 ^ u < 10 ^ u / 2 ∨ (a % 10 ^ u = 10 ^ u / 2 ∧ fX r % 10 ^ c = 0 ∧ a / 10 ^ u % 2 = 0)) :
    Pick r (c + u) (a / 10 ^ u * 10 ^ u * 10 ^ c) := by
  obtain ⟨e1, e2⟩ := at_low (u := u) ha
  obtain ⟨e3, e4⟩ := at_parts (u := u) ha
  have le := lowOf_le (fX r) (c + u)
  rw [low_okay h0 (by rw [← e1]; exact le), ← e1, Classical.not_not] at hd
  rw [← e1]
  unfold Pick
  by_cases s : lowOf (fX r) (c + u) = fX r
  · right; right
    have eu : upOf (fX r) (c + u) = lowOf (fX r) (c + u) := by unfold upOf; rw [if_pos s]
    rw [eu]
    refine ⟨hd, hd, ?_⟩
    by_cases t : Upper (fX r) (c + u)
    · exact .inl ⟨t, rfl⟩
    · exact .inr ⟨t, rfl⟩
  · have eu : upOf (fX r) (c + u) = lowOf (fX r) (c + u) + 10 ^ (c + u) := by unfold upOf; rw [if_neg s]
    have eu2 : upOf (fX r) (c + u) = (a / 10 ^ u * 10 ^ u + 10 ^ u) * 10 ^ c := by rw [eu, e1, Nat.add_mul, Nat.pow_add, Nat.mul_comm (10 ^ c)]
    have lt := lt_lowOf (fX r) (c + u)
    rw [← eu] at lt
    by_cases t : Okay r (upOf (fX r) (c + u))
    · right; right
      refine ⟨hd, t, .inr ⟨?_, rfl⟩⟩
      rw [eu2, ← high_okay h0 (by rw [← eu2]; omega)] at t
      have hc' : a % 10 ^ u < 10 ^ u / 2 ∨ (a % 10 ^ u = 10 ^ u / 2 ∧ fX r % 10 ^ c = 0 ∧ a / 10 ^ u % 2 = 0) := by
        rcases hc with k | k
        · omega
        · exact k
      have hh := half_ten u hu
      have ep : 10 ^ (c + u) = 2 * (10 ^ u / 2 * 10 ^ c) := by
        rw [Nat.pow_add, Nat.mul_comm (10 ^ c)]
        rw [← Nat.mul_assoc, Nat.mul_comm 2, hh]
      unfold Upper
      rw [e2]
      rcases hc' with k | ⟨k1, k2, k3⟩
      · have k2 := Nat.mul_le_mul_right (10 ^ c) (show a % 10 ^ u + 1 ≤ 10 ^ u / 2 by omega)
        rw [Nat.add_mul, Nat.one_mul] at k2
        generalize a % 10 ^ u * 10 ^ c = A at *
        generalize 10 ^ u / 2 * 10 ^ c = B at *
        generalize fX r % 10 ^ c = C at *
        generalize lowOf (fX r) (c + u) = D at *
        generalize upOf (fX r) (c + u) = U at *
        generalize fX r = X at *
        clear hd ha e1 e2 eu2 hh t
        generalize 10 ^ (c + u) = G at *
        generalize 10 ^ c = K at *
        omega
      · rw [k1] at e3
        generalize 10 ^ u / 2 * 10 ^ c = B at *
        generalize fX r % 10 ^ c = C at *
        generalize lowOf (fX r) (c + u) = D at *
        generalize upOf (fX r) (c + u) = U at *
        generalize fX r = X at *
        clear hd ha e1 e2 eu2 hh t
        generalize 10 ^ (c + u) = G at *
        generalize 10 ^ c = K at *
        omega
    · right; left
      exact ⟨hd, t, rfl⟩
theorem up_eq {r c u a : Nat} (ha : a = fX r / 10 ^ c) (s : lowOf (fX r) (c + u) ≠ fX r) : upOf (fX r) (c + u) = (a / 10 ^ u * 10 ^ u + 10 ^ u) * 10 ^ c := by
  obtain ⟨e1, e2⟩ := at_low (u := u) ha
  have eu : upOf (fX r) (c + u) = lowOf (fX r) (c + u) + 10 ^ (c + u) := by unfold upOf; rw [if_neg s]
  rw [eu, e1, Nat.add_mul, Nat.pow_add, Nat.mul_comm (10 ^ c)]
theorem up_ge {r c u : Nat} (s : lowOf (fX r) (c + u) ≠ fX r) : fX r ≤ upOf (fX r) (c + u) := by
  have lt := lt_lowOf (fX r) (c + u)
  unfold upOf
  rw [if_neg s]
  omega
/-- down is too low. -/
theorem near_low {r c u a : Nat} (h0 : 0 < r) (ha : a = fX r / 10 ^ c) (hd : a / 10 ^ u * 10 ^ u < sLow r c) :
    (a / 10 ^ u * 10 ^ u + 10 ^ u ≤ sHigh r c → Pick r (c + u) ((a / 10 ^ u * 10 ^ u + 10 ^ u) * 10 ^ c)) ∧ (¬ a / 10 ^ u * 10 ^ u + 10 ^ u ≤ sHigh r c → ¬ Good r (c + u)) := by
  obtain ⟨e1, e2⟩ := at_low (u := u) ha
  have le := lowOf_le (fX r) (c + u)
  rw [low_okay h0 (by rw [← e1]; exact le), ← e1] at hd
  have s : lowOf (fX r) (c + u) ≠ fX r := fun e => hd (by rw [e]; exact okay_self r h0)
  have eu := up_eq ha s
  have ge := up_ge s
  rw [high_okay h0 (by rw [← eu]; exact ge), ← eu]
  constructor
  · intro t
    left
    exact ⟨hd, t, rfl⟩
  · intro t g
    exact g.elim hd t
theorem near_up {r c u a : Nat} (h0 : 0 < r) (ha : a = fX r / 10 ^ c) (hu : 1 ≤ u) (hd : ¬ a / 10 ^ u * 10 ^ u < sLow r c) (h1 : a / 10 ^ u * 10 ^ u + 10 ^ u ≤ sHigh r c) (h2 : 10 ^ u / 2 ≤ a % 10 ^ u)
    (h3 : ¬ (a % 10 ^ u = 10 ^ u / 2 ∧ fX r % 10 ^ c = 0 ∧ a / 10 ^ u % 2 = 0)) : Pick r (c + u) ((a / 10 ^ u * 10 ^ u + 10 ^ u) * 10 ^ c) := by
  obtain ⟨e1, e2⟩ := at_low (u := u) ha
  obtain ⟨e3, e4⟩ := at_parts (u := u) ha
  have le := lowOf_le (fX r) (c + u)
  have hh := half_ten u hu
  have hp := pow10_pos u
  have hc := pow10_pos c
  have s : lowOf (fX r) (c + u) ≠ fX r := by
    intro e
    have : a % 10 ^ u * 10 ^ c = 0 := by omega
    rcases Nat.mul_eq_zero.1 this with k | k <;> omega
  rw [low_okay h0 (by rw [← e1]; exact le), ← e1, Classical.not_not] at hd
  have eu := up_eq ha s
  have ge := up_ge s
  rw [high_okay h0 (by rw [← eu]; exact ge), ← eu] at h1
  rw [← eu]
  right; right
  refine ⟨hd, h1, .inl ⟨?_, rfl⟩⟩
  have ea : upOf (fX r) (c + u) = lowOf (fX r) (c + u) + 10 ^ (c + u) := by unfold upOf; rw [if_neg s]
  have ep : 10 ^ (c + u) = 2 * (10 ^ u / 2 * 10 ^ c) := by
    rw [Nat.pow_add, Nat.mul_comm (10 ^ c)]
    rw [← Nat.mul_assoc, Nat.mul_comm 2, hh]
  unfold Upper
  rw [e2]
  by_cases k : a % 10 ^ u = 10 ^ u / 2
  · rw [k] at e3
    generalize 10 ^ u / 2 * 10 ^ c = B at *
    generalize fX r % 10 ^ c = C at *
    generalize lowOf (fX r) (c + u) = D at *
    generalize upOf (fX r) (c + u) = U at *
    generalize fX r = X at *
    clear hd ha e1 e2 eu hh h1
    generalize 10 ^ (c + u) = G at *
    generalize 10 ^ c = K at *
    omega
  · have k2 := Nat.mul_le_mul_right (10 ^ c) (show 10 ^ u / 2 + 1 ≤ a % 10 ^ u by omega)
    rw [Nat.add_mul, Nat.one_mul] at k2
    generalize a % 10 ^ u * 10 ^ c = A at *
    generalize 10 ^ u / 2 * 10 ^ c = B at *
    generalize fX r % 10 ^ c = C at *
    generalize lowOf (fX r) (c + u) = D at *
    generalize upOf (fX r) (c + u) = U at *
    generalize fX r = X at *
    clear hd ha e1 e2 eu hh h1
    generalize 10 ^ (c + u) = G at *
    generalize 10 ^ c = K at *
    omega
end Go.Proofs.YtobbbhmkcmbekaaDoor.bigs
/- The program's way to the nearest fraction, plain. -/
set_option linter.unusedVariables false
namespace Go.Proofs.YtobbbhmkcmbekaaDoor.bigs

theorem prog_shift {m n E : Nat} : ∃ T, 0 < T ∧ m * T74 = m * 2 ^ (1074 - E) * T ∧ n * 2 ^ E = n * 2 ^ (E - 1074) * T :=
  ⟨2 ^ (1074 - (1074 - E)), Nat.pow_pos (by decide), T74_split _ (by omega), pow_split _ (by omega)⟩
theorem prog_over {m n Lu Lb : Nat} (hm : m < 2 ^ Lu) (hn : 2 ^ Lb ≤ 2 * n) : m * T74 < n * 2 ^ (Lu + 1021 - Lb) * 18014398509481984 := by
  have h1 : m * T74 < 2 ^ Lu * T74 := Nat.mul_lt_mul_of_pos_right hm (Nat.pow_pos (by decide))
  refine Nat.lt_of_lt_of_le h1 ?_
  have e : 2 ^ Lu * T74 = 2 ^ (Lu + c74) := by unfold T74; rw [Nat.pow_add]
  have e2 : n * 2 ^ (Lu + 1021 - Lb) * 18014398509481984 = 2 * n * 2 ^ (Lu + 1021 - Lb) * 2 ^ 53 := by
    rw [show (2 : Nat) ^ 53 = 9007199254740992 from rfl, Nat.mul_assoc 2]
    generalize n * 2 ^ (Lu + 1021 - Lb) = X
    omega
  rw [e, e2]
  have h2 : 2 ^ Lb * 2 ^ (Lu + 1021 - Lb) * 2 ^ 53 ≤ 2 * n * 2 ^ (Lu + 1021 - Lb) * 2 ^ 53 := Nat.mul_le_mul_right _ (Nat.mul_le_mul_right _ hn)
  refine Nat.le_trans ?_ h2
  rw [← Nat.pow_add, ← Nat.pow_add]
  refine Nat.pow_le_pow_right (by decide) ?_
  show Lu + 1074 ≤ _
  omega
theorem prog_under {m n Lu Lb : Nat} (hm : 2 ^ Lu ≤ 2 * m) (hn : n < 2 ^ Lb) (h : Lb < Lu + 1021) : n * 2 ^ (Lu + 1021 - Lb) * 4503599627370496 ≤ m * T74 := by
  have h1 : n * 2 ^ (Lu + 1021 - Lb) * 2 ^ 52 ≤ 2 ^ Lb * 2 ^ (Lu + 1021 - Lb) * 2 ^ 52 := Nat.mul_le_mul_right _ (Nat.mul_le_mul_right _ (Nat.le_of_lt hn))
  rw [show (2 : Nat) ^ 52 = 4503599627370496 from rfl] at h1
  refine Nat.le_trans h1 ?_
  rw [show (4503599627370496 : Nat) = 2 ^ 52 from rfl, ← Nat.pow_add, ← Nat.pow_add]
  have h2 : 2 ^ Lu * T74 ≤ 2 * m * T74 := Nat.mul_le_mul_right _ hm
  have e : 2 ^ Lu * T74 = 2 ^ (Lu + c74) := by unfold T74; rw [Nat.pow_add]
  have ex : Lu + c74 = (Lb + (Lu + 1021 - Lb) + 52) + 1 := by
    show Lu + 1074 = _
    clear h1 h2 e hm hn
    omega
  have e2 : 2 ^ (Lu + c74) = 2 * 2 ^ (Lb + (Lu + 1021 - Lb) + 52) := by rw [ex, Nat.pow_succ, Nat.mul_comm]
  rw [e, e2, Nat.mul_assoc] at h2
  omega
theorem twice_lt {X Y : Nat} (o : Y < X * 18014398509481984) : Y < (X + X) * 9007199254740992 := by
  have e : (X + X) * 9007199254740992 = X * 18014398509481984 := by rw [← Nat.two_mul, Nat.mul_comm 2 X, Nat.mul_assoc]
  rw [e]
  exact o
theorem twice_le {X Y : Nat} (h : ¬ Y < X * 9007199254740992) : (X + X) * 4503599627370496 ≤ Y := by omega
/-- The exponent is right at once, or by one more. -/
theorem prog_near {m n Lu Lb : Nat} (h0 : 0 < n) (hm1 : m < 2 ^ Lu) (hm2 : 2 ^ Lu ≤ 2 * m) (hn1 : n < 2 ^ Lb) (hn2 : 2 ^ Lb ≤ 2 * n) :
    (m * T74 < n * 2 ^ (Lu + 1021 - Lb) * 9007199254740992 → NearE m n (Lu + 1021 - Lb) (min 9218868437227405312 ((Lu + 1021 - Lb) * 4503599627370496 + rnd (m * T74) (n * 2 ^ (Lu + 1021 - Lb))))) ∧
    (¬ m * T74 < n * 2 ^ (Lu + 1021 - Lb) * 9007199254740992 → NearE m n (Lu + 1021 - Lb + 1) (min 9218868437227405312 ((Lu + 1021 - Lb + 1) * 4503599627370496 + rnd (m * T74) (n * 2 ^ (Lu + 1021 - Lb + 1))))) := by
  constructor
  · intro h
    refine ⟨h, ?_, rfl⟩
    by_cases c : Lu + 1021 - Lb = 0
    · exact .inl c
    · exact .inr (prog_under hm2 hn1 (by omega))
  · intro h
    have o := prog_over hm1 hn2
    refine ⟨?_, .inr ?_, rfl⟩
    · rw [← double_next]
      exact twice_lt o
    · rw [← double_next]
      exact twice_le h
theorem nearE_large {m n E r : Nat} (hn : 0 < n) (h : NearE m n E r) (hE : 2046 ≤ E) : r = 9218868437227405312 := by
  obtain ⟨h1, h2, h3⟩ := h
  have q : 4503599627370496 ≤ rnd (m * T74) (n * 2 ^ E) := by
    rcases h2 with h | h
    · omega
    · exact rnd_ge (Nat.mul_pos hn (Nat.pow_pos (by decide))) h
  rw [h3, Nat.min_eq_left]
  clear h1 h2 h3
  omega
theorem prog_large {m n Lu Lb : Nat} (h0 : 0 < n) (hm1 : m < 2 ^ Lu) (hm2 : 2 ^ Lu ≤ 2 * m) (hn1 : n < 2 ^ Lb) (hn2 : 2 ^ Lb ≤ 2 * n) (h : Lb + 1024 < Lu) : Near m n 9218868437227405312 := by
  obtain ⟨p1, p2⟩ := prog_near h0 hm1 hm2 hn1 hn2
  by_cases c : m * T74 < n * 2 ^ (Lu + 1021 - Lb) * 9007199254740992
  · have e := nearE_large h0 (p1 c) (by omega)
    have := near_ofE h0 (p1 c)
    rwa [e] at this
  · have e := nearE_large h0 (p2 c) (by omega)
    have := near_ofE h0 (p2 c)
    rwa [e] at this
/-- In the words of the division: A / B, A = m * 2^(1074 - E), B = n * 2^(E - 1074). -/
theorem prog_div {m n E : Nat} (hn : 0 < n) : (m * 2 ^ (1074 - E) / (n * 2 ^ (E - 1074)) < 9007199254740992 ↔ m * T74 < n * 2 ^ E * 9007199254740992) ∧ rnd (m * T74) (n * 2 ^ E) = rnd (m * 2 ^ (1074 - E)) (n * 2 ^ (E - 1074)) := by
  obtain ⟨T, hT, e1, e2⟩ := prog_shift (m := m) (n := n) (E := E)
  have hB : 0 < n * 2 ^ (E - 1074) := Nat.mul_pos hn (Nat.pow_pos (by decide))
  constructor
  · rw [Nat.div_lt_iff_lt_mul hB, e1, e2, Nat.mul_comm 9007199254740992, Nat.mul_assoc (n * 2 ^ (E - 1074)) T, Nat.mul_comm T, ← Nat.mul_assoc, Nat.mul_lt_mul_right hT]
  · rw [e1, e2, rnd_scale _ _ _ hT]
theorem rnd_next (A B : Nat) (hB : 0 < B) : rnd A B = A / B + (if B < A % B + A % B ∨ (A % B + A % B = B ∧ A / B % 2 = 1) then 1 else 0) := by
  unfold rnd
  by_cases h : B < A % B + A % B ∨ (A % B + A % B = B ∧ A / B % 2 = 1)
  · rw [if_pos h, if_pos (by omega)]
  · rw [if_neg h, if_neg (by omega)]
    rfl
end Go.Proofs.YtobbbhmkcmbekaaDoor.bigs
/- Numbers as words: plain mathematics, and rows of words that a call owns. -/
set_option linter.unusedVariables false
namespace Go.Proofs.YtobbbhmkcmbekaaDoor.bigs
open Go.RowKit

theorem words_nil : Words32 [] := fun j h => absurd h (by simp)
theorem words_append {a b : List Nat} : Words32 (a ++ b) ↔ Words32 a ∧ Words32 b := by
  induction a with
  | nil => simp [words_nil]
  | cons x a ih => rw [List.cons_append, words_cons, words_cons, ih, and_assoc]
theorem words_one {d : Nat} (h : d < 4294967296) : Words32 [d] := words_cons.2 ⟨h, words_nil⟩
theorem wval_append (a b : List Nat) : wval (a ++ b) = wval a + 4294967296 ^ a.length * wval b := by
  induction a with
  | nil => simp [wval]
  | cons x a ih =>
    rw [List.cons_append, wval, wval, ih, List.length_cons, Nat.pow_succ]
    have : 4294967296 ^ a.length * 4294967296 * wval b = 4294967296 * (4294967296 ^ a.length * wval b) := by rw [Nat.mul_comm (4294967296 ^ a.length), Nat.mul_assoc]
    rw [this]
    omega
theorem wval_one (d : Nat) : wval [d] = d := by simp [wval]
theorem words_take {l : List Nat} (h : Words32 l) (k : Nat) : Words32 (l.take k) := by
  rw [← List.take_append_drop k l, words_append] at h
  exact h.1
theorem wval_take_next (l : List Nat) (k : Nat) : wval (l.take (k + 1)) = wval (l.take k) + 4294967296 ^ k * l.getD k 0 := by
  by_cases h : k < l.length
  · rw [utake_succ l k h, wval_append, wval_one, List.length_take, Nat.min_eq_left (by omega)]
  · have e : l.getD k 0 = 0 := by rw [List.getD, List.getElem?_eq_none (by omega)]; rfl
    rw [e, List.take_of_length_le (by omega), List.take_of_length_le (by omega)]
    omega
theorem wval_set (l : List Nat) (d : Nat) : ∀ j, j < l.length → wval (l.set j d) + 4294967296 ^ j * l.getD j 0 = wval l + 4294967296 ^ j * d := by
  induction l with
  | nil => intro j h; simp at h
  | cons x l ih =>
    intro j h
    cases j with
    | zero => simp [wval]; omega
    | succ j =>
      have := ih j (by simpa using h)
      simp only [List.set_cons_succ, wval, List.getD_cons_succ, Nat.pow_succ]
      have e1 : 4294967296 ^ j * 4294967296 * l.getD j 0 = 4294967296 * (4294967296 ^ j * l.getD j 0) := by rw [Nat.mul_comm (4294967296 ^ j), Nat.mul_assoc]
      have e2 : 4294967296 ^ j * 4294967296 * d = 4294967296 * (4294967296 ^ j * d) := by rw [Nat.mul_comm (4294967296 ^ j), Nat.mul_assoc]
      omega
theorem words_set {l : List Nat} {j d : Nat} (h : Words32 l) (hd : d < 4294967296) : Words32 (l.set j d) := by
  intro i hi
  rw [List.length_set] at hi
  by_cases e : i = j
  · subst e; simp [List.getD, hi]; exact hd
  · rw [List.getD, List.getElem?_set_ne (by omega)]; exact h i hi
theorem wval_zero (n : Nat) : wval (List.replicate n 0) = 0 := by
  induction n with
  | zero => rfl
  | succ n ih => rw [List.replicate_succ, wval, ih]
theorem words_zero (n : Nat) : Words32 (List.replicate n 0) := by
  intro j hj
  rw [List.length_replicate] at hj
  simp [List.getD, hj]
theorem wdig_nil {n : Nat} : wdig n = [] ↔ n = 0 := by
  constructor
  · intro h; rw [← wval_wdig n, h]; rfl
  · rintro rfl; exact wdig_zero
theorem wdig_pos_len {n : Nat} (h : n ≠ 0) : 0 < (wdig n).length := by
  cases e : wdig n with
  | nil => exact absurd (wdig_nil.1 e) h
  | cons x r => simp
theorem wdig_is_take : ∀ (l : List Nat), Words32 l → l.take (wdig (wval l)).length = wdig (wval l)
  | [], _ => by show _ = wdig 0; rw [wdig_zero]; simp
  | d :: r, h => by
    obtain ⟨h1, h2⟩ := words_cons.1 h
    have ih := wdig_is_take r h2
    by_cases h0 : wval (d :: r) = 0
    · rw [h0, wdig_zero]; simp
    · rw [wdig_pos h0]
      have e1 : wval (d :: r) % 4294967296 = d := by rw [wval]; omega
      have e2 : wval (d :: r) / 4294967296 = wval r := by rw [wval]; omega
      rw [e1, e2, List.length_cons, List.take_succ_cons, ih]
theorem wdig_len_lt {n k : Nat} (h : n < 4294967296 ^ k) : (wdig n).length ≤ k := by
  induction k generalizing n with
  | zero =>
    have : n = 0 := by simpa using h
    subst this
    rw [wdig_zero]; simp
  | succ k ih =>
    by_cases h0 : n = 0
    · subst h0; rw [wdig_zero]; simp
    · rw [wdig_pos h0, List.length_cons]
      have : n / 4294967296 < 4294967296 ^ k := by
        rw [Nat.pow_succ] at h
        exact Nat.div_lt_of_lt_mul (by omega)
      have := ih this
      omega
theorem lt_pow_words (n : Nat) : n < 4294967296 ^ (wdig n).length := by have := wval_lt (words_wdig n); rwa [wval_wdig] at this
theorem wdig_length_ge {n k : Nat} (h : 4294967296 ^ k ≤ n) : k < (wdig n).length := by
  have h1 := lt_pow_words n
  by_cases e : k < (wdig n).length
  · exact e
  · have : 4294967296 ^ (wdig n).length ≤ 4294967296 ^ k := Nat.pow_le_pow_right (by omega) (by omega)
    omega
theorem wdig_len_words {l : List Nat} (h : Words32 l) : (wdig (wval l)).length ≤ l.length := wdig_len_lt (wval_lt h)
theorem wdig_mono {m n : Nat} (h : m ≤ n) : (wdig m).length ≤ (wdig n).length := wdig_len_lt (Nat.lt_of_le_of_lt h (lt_pow_words n))
theorem wdig_lt_of_len {m n : Nat} (h : (wdig m).length < (wdig n).length) : m < n := by
  by_cases e : m < n
  · exact e
  · have := wdig_mono (show n ≤ m by omega)
    omega
theorem wdig_last {n : Nat} (h : n ≠ 0) : (wdig n).getD ((wdig n).length - 1) 0 ≠ 0 := by
  induction n using Nat.strongRecOn with
  | ind n ih =>
    rw [wdig_pos h]
    by_cases e : n / 4294967296 = 0
    · rw [e, wdig_zero]
      simp
      omega
    · have hp := wdig_pos_len e
      have e1 : (n % 4294967296 :: wdig (n / 4294967296)).length - 1 = ((wdig (n / 4294967296)).length - 1) + 1 := by rw [List.length_cons]; omega
      rw [e1, List.getD_cons_succ]
      exact ih _ (by omega) e
/-- A list of words whose last is not 0 is the words of what it tells. -/
theorem wdig_uniq : ∀ {l : List Nat}, Words32 l → (l = [] ∨ l.getD (l.length - 1) 0 ≠ 0) → wdig (wval l) = l
  | [], _, _ => wdig_zero
  | d :: r, h, hl => by
    obtain ⟨h1, h2⟩ := words_cons.1 h
    have hr : r = [] ∨ r.getD (r.length - 1) 0 ≠ 0 := by
      by_cases e : r = []
      · exact .inl e
      · right
        rcases hl with hl | hl
        · cases hl
        · have hp : 0 < r.length := List.length_pos_iff.2 e
          have e1 : (d :: r).length - 1 = (r.length - 1) + 1 := by rw [List.length_cons]; omega
          rw [e1, List.getD_cons_succ] at hl
          exact hl
    have ih := wdig_uniq h2 hr
    have hne : wval (d :: r) ≠ 0 := by
      intro e
      rw [wval] at e
      have e0 : wval r = 0 := by omega
      rw [e0, wdig_zero] at ih
      subst ih
      rcases hl with hl | hl
      · cases hl
      · simp at hl
        omega
    rw [wdig_pos hne]
    have e1 : wval (d :: r) % 4294967296 = d := by rw [wval]; omega
    have e2 : wval (d :: r) / 4294967296 = wval r := by rw [wval]; omega
    rw [e1, e2, ih]
theorem wsplit_val (l : List Nat) (k : Nat) (hs : Words32 l) : ∃ t, wval l = t + 4294967296 ^ k * wval (l.drop k) ∧ t < 4294967296 ^ k := by
  refine ⟨wval (l.take k), ?_, ?_⟩
  · by_cases h : k ≤ l.length
    · have := wval_append (l.take k) (l.drop k)
      rw [List.take_append_drop, List.length_take, Nat.min_eq_left h] at this
      exact this
    · rw [List.drop_of_length_le (by omega), List.take_of_length_le (by omega)]
      simp [wval]
  · have h1 := wval_lt (words_take hs k)
    have h2 : 4294967296 ^ (l.take k).length ≤ 4294967296 ^ k := Nat.pow_le_pow_right (by omega) (List.length_take_le k l)
    omega
theorem wdrop_div (l : List Nat) (k : Nat) (hs : Words32 l) : wval (l.drop k) = wval l / 4294967296 ^ k := by
  obtain ⟨t, e, h⟩ := wsplit_val l k hs
  have hp : 0 < 4294967296 ^ k := Nat.pow_pos (by omega)
  rw [e, Nat.add_mul_div_left _ _ hp, Nat.div_eq_of_lt h]
  omega
theorem wless_of_drop {a b : List Nat} {k : Nat} (ha : Words32 a) (hb : Words32 b) (h : wval (a.drop k) < wval (b.drop k)) : wval a < wval b := by
  obtain ⟨t, e1, l1⟩ := wsplit_val a k ha
  obtain ⟨u, e2, l2⟩ := wsplit_val b k hb
  have : 4294967296 ^ k * (wval (a.drop k) + 1) ≤ 4294967296 ^ k * wval (b.drop k) := Nat.mul_le_mul_left _ h
  rw [Nat.mul_add, Nat.mul_one] at this
  omega

theorem RowU.take {w : World} {a : Option Addr} {l : List Nat} (h : RowU w a l) (k : Nat) : RowU w a (l.take k) := by
  intro h0
  have hl : l ≠ [] := fun e => h0 (by rw [e, List.take_nil])
  obtain ⟨b, o, e, hlt, hc⟩ := h hl
  refine ⟨b, o, e, hlt, fun j hj => ?_⟩
  rw [List.length_take] at hj
  rw [hc j (by omega)]
  simp [List.getD, show j < k by omega]
/-- The words of a number lie where the list lay. -/
theorem RowU.cut {w : World} {a : Option Addr} {l : List Nat} (h : RowU w a l) (hs : Words32 l) : RowU w a (wdig (wval l)) := by
  rw [← wdig_is_take l hs]
  exact h.take _
theorem RowU.kept {w w' : World} {a : Option Addr} {l : List Nat} {g : Nat} (h : RowU w a l) (hg : w.grownBy w' (some g)) (hne : ∀ b o s, a = some ⟨b, o, s⟩ → b ≠ g) : RowU w' a l := by
  intro h0
  obtain ⟨b, o, rfl, hb, hc⟩ := h h0
  have hbg := hne b o none rfl
  refine ⟨b, o, rfl, Nat.lt_of_lt_of_le hb hg.size, fun j hj => ?_⟩
  exact hg.cell (hc j hj) (fun e => hbg (by simpa using e))
theorem grown_refl (w : World) (row : Option Nat) : w.grownBy w row := ⟨rfl, rfl, rfl, Nat.le_refl _, fun _ _ _ => rfl⟩
theorem grown_trans {a b c : World} {row : Option Nat} (h : a.grownBy b row) (k : b.grownBy c row) : a.grownBy c row :=
  ⟨k.os.trans h.os, k.tape.trans h.tape, k.output.trans h.output, Nat.le_trans h.size k.size, fun i hi hn => (k.block i (Nat.lt_of_lt_of_le hi h.size) hn).trans (h.block i hi hn)⟩
theorem grown_cell {a b : World} {g : Nat} (h : a.grownBy b (some g)) (j : Nat) (u : Value) : a.grownBy (b.setCell ⟨g, j, none⟩ u) (some g) :=
  grown_trans h ⟨rfl, rfl, rfl, by simp [World.setCell], fun k hk hn => Below.heap_setCell _ _ _ _ (fun e => hn (by rw [e]))⟩
theorem grown_drew {a b : World} {row : Option Nat} (h : a.grownBy b row) (n : Nat) : a.grownBy (b.drewN n) row := ⟨h.os, h.tape, h.output, h.size, h.block⟩
theorem below_of_grown {a b : World} {g B : Nat} (h : a.grownBy b (some g)) (hB : B ≤ g) (hB' : B ≤ a.heap.size) : Below B a b :=
  (Below.refl _ a).grown h hB' (fun k e => by simp at e; omega)

/-- A row of words that the call may write, from its block's first cell on. -/
def Own (w : World) (g c : Nat) (l : List Nat) : Prop := w.ownsRow 0 40 1 (.slice (some ⟨g, 0, none⟩) l.length c) l.length (l.map wrd)
theorem Own.cell {w : World} {g c : Nat} {l : List Nat} (h : Own w g c l) (j : Nat) (hj : j < l.length) : w.cell? ⟨g, j, none⟩ = some (.int .u32 ((l.getD j 0 : Nat) : Int)) := by
  rw [World.ownsRow.cellAt h j (by omega)]
  simp [wrd, List.getD, hj]
theorem Own.froz {w : World} {g c : Nat} {l : List Nat} (h : Own w g c l) (j : Nat) : w.frozen? ⟨g, j, none⟩ = false := World.ownsRow.frozenAt h j
theorem Own.set {w : World} {g c : Nat} {l : List Nat} (h : Own w g c l) (j d : Nat) : Own (w.setCell ⟨g, j, none⟩ (.int .u32 (d : Int))) g c (l.set j d) := by
  have := (World.ownsRow.stored h j (.int .u32 (d : Int))).1
  unfold Own
  rw [List.length_set, List.map_set]
  exact this
theorem Own.lt {w : World} {g c : Nat} {l : List Nat} (h : Own w g c l) : g < w.heap.size := (World.ownsRow.lt h g rfl).2
theorem Own.below {w w' : World} {g c : Nat} {l : List Nat} (h : Own w g c l) (hb : Below w.heap.size w w') : Own w' g c l := own_below h hb
theorem Own.kept {w w' : World} {g c r : Nat} {l : List Nat} (h : Own w g c l) (hg : w.grownBy w' (some r)) (hne : g ≠ r) : Own w' g c l :=
  World.ownsRow.kept h hg (.inr (by simpa [Value.ownBlock] using hne))
theorem Own.row {w : World} {g c : Nat} {l : List Nat} (h : Own w g c l) : RowU w (some ⟨g, 0, none⟩) l := fun _ => ⟨g, 0, rfl, h.lt, fun j hj => by rw [Nat.zero_add]; exact h.cell j hj⟩
theorem Own.cap {w : World} {g c : Nat} {l : List Nat} (h : Own w g c l) : l.length ≤ c := by
  obtain ⟨a, cap, hv, hc, _⟩ := rowU_own h
  cases hv
  exact hc
/-- The row within a row. -/
theorem Own.mid {w : World} {g c : Nat} {P M S : List Nat} (h : Own w g c (P ++ (M ++ S))) : RowU w (some ⟨g, P.length, none⟩) M := fun _ => ⟨g, P.length, rfl, h.lt, fun j hj => by
  rw [h.cell (P.length + j) (by simp; omega)]
  simp [List.getD, List.getElem?_append_right, List.getElem?_append_left hj]⟩
theorem Own.cellMid {w : World} {g c : Nat} {P M S : List Nat} (h : Own w g c (P ++ (M ++ S))) (j : Nat) (hj : j < M.length) : w.cell? ⟨g, P.length + j, none⟩ = some (.int .u32 ((M.getD j 0 : Nat) : Int)) := by
  rw [h.cell (P.length + j) (by simp; omega)]
  simp [List.getD, List.getElem?_append_right, List.getElem?_append_left hj]
theorem Own.setMid {w : World} {g c : Nat} {P M S : List Nat} (h : Own w g c (P ++ (M ++ S))) (j d : Nat) (hj : j < M.length) : Own (w.setCell ⟨g, P.length + j, none⟩ (.int .u32 (d : Int))) g c (P ++ (M.set j d ++ S)) := by
  have := h.set (P.length + j) d
  rwa [List.set_append_right _ _ (by omega), Nat.add_sub_cancel_left, List.set_append_left _ _ hj] at this
/-- What is done, and what is not yet. -/
theorem front_get {D M : List Nat} {k : Nat} (hD : D.length = k) (hk : k < M.length) : (D ++ M.drop k).getD k 0 = M.getD k 0 := by
  subst hD
  simp [List.getD, List.getElem?_append_right]
theorem front_set {D M : List Nat} {k d : Nat} (hD : D.length = k) (hk : k < M.length) : (D ++ M.drop k).set k d = (D ++ [d]) ++ M.drop (k + 1) := by
  subst hD
  rw [List.set_append_right _ _ (Nat.le_refl _), Nat.sub_self, List.drop_eq_getElem_cons hk, List.set_cons_zero, List.append_assoc]
  rfl
theorem front_len {D M : List Nat} {k : Nat} (hD : D.length = k) (hk : k ≤ M.length) : (D ++ M.drop k).length = M.length := by
  rw [List.length_append, List.length_drop]
  omega
/-- A made row. -/
theorem own_made {w : World} {B g n : Nat} (h : w.ownsRow B 40 1 (.slice (some ⟨g, 0, none⟩) n n) n (madeCells #[.int .u32 0] n).toList) : Own w g n (List.replicate n 0) := by
  have e : (madeCells #[Value.int .u32 0] n).toList = (List.replicate n 0).map wrd := by
    rw [toList_madeCells_one]
    simp [wrd]
  rw [e] at h
  refine ⟨by simp, ?_⟩
  rcases h.2 with h' | ⟨g', cap, cur, e1, _, r⟩
  · simp at h'
  · right
    refine ⟨g', cap, cur, by rw [List.length_replicate]; exact e1, Nat.zero_le _, ?_⟩
    rw [List.length_replicate]
    exact r
end Go.Proofs.YtobbbhmkcmbekaaDoor.bigs
/- Decimal digits and words, plain: what the walks of texts and shifts need. -/
set_option linter.unusedVariables false
namespace Go.Proofs.YtobbbhmkcmbekaaDoor.bigs
open Go.RowKit

theorem wdig_length_le {n k : Nat} (h : n < 4294967296 ^ k) : (wdig n).length ≤ k := by
  induction k generalizing n with
  | zero =>
    have : n = 0 := by simpa using h
    subst this
    rw [wdig_zero]; simp
  | succ k ih =>
    by_cases h0 : n = 0
    · subst h0; rw [wdig_zero]; simp
    · rw [wdig_pos h0, List.length_cons]
      have : n / 4294967296 < 4294967296 ^ k := by
        rw [Nat.pow_succ] at h
        exact Nat.div_lt_of_lt_mul (by omega)
      have := ih this
      omega
theorem lt_pow_wdig (n : Nat) : n < 4294967296 ^ (wdig n).length := by have := wval_lt (words_wdig n); rwa [wval_wdig] at this
theorem wdig_add_len (m n : Nat) : (wdig (m + n)).length ≤ (wdig m).length + (wdig n).length + 1 := by
  apply wdig_length_le
  have h1 := lt_pow_wdig m
  have h2 := lt_pow_wdig n
  have h3 : 4294967296 ^ (wdig m).length ≤ 4294967296 ^ ((wdig m).length + (wdig n).length) := Nat.pow_le_pow_right (by omega) (by omega)
  have h4 : 4294967296 ^ (wdig n).length ≤ 4294967296 ^ ((wdig m).length + (wdig n).length) := Nat.pow_le_pow_right (by omega) (by omega)
  rw [Nat.pow_succ]
  omega
theorem wdig_prod_len (m n : Nat) : (wdig (m * n)).length ≤ (wdig m).length + (wdig n).length := by
  apply wdig_length_le
  rw [Nat.pow_add]
  exact Nat.mul_lt_mul'' (lt_pow_wdig m) (lt_pow_wdig n)
theorem wdig_mono_len {m n : Nat} (h : m ≤ n) : (wdig m).length ≤ (wdig n).length := wdig_length_le (Nat.lt_of_le_of_lt h (lt_pow_wdig n))
theorem wdig_wval_len {l : List Nat} (h : Words32 l) : (wdig (wval l)).length ≤ l.length := wdig_length_le (wval_lt h)
def Form (l : List UInt8) : Prop := l ≠ [] ∧ Dig10 l ∧ (l.getD 0 0 ≠ 48 ∨ l.length = 1)
theorem wdig_pow_len {b e : Nat} (hb : b < 4294967296) : (wdig (b ^ e)).length ≤ e + 1 := by
  apply wdig_length_le
  have h1 : b ^ e ≤ 4294967296 ^ e := Nat.pow_le_pow_left (Nat.le_of_lt hb) _
  have h2 : 4294967296 ^ e < 4294967296 ^ (e + 1) := Nat.pow_lt_pow_right (by omega) (by omega)
  omega
theorem bits_shift {x : Nat} (h : x ≠ 0) : ∀ n, bits (x * 2 ^ n) = bits x + n
  | 0 => by simp
  | n + 1 => by
    have hp : 0 < 2 ^ n := Nat.pow_pos (by omega)
    have hne : x * 2 ^ (n + 1) ≠ 0 := Nat.mul_ne_zero h (by rw [Nat.pow_succ]; omega)
    rw [bits_pos hne]
    have e : x * 2 ^ (n + 1) / 2 = x * 2 ^ n := by rw [Nat.pow_succ, ← Nat.mul_assoc, Nat.mul_div_cancel _ (by omega)]
    rw [e, bits_shift h n]
    omega
theorem bits_le_words (n : Nat) : bits n ≤ 32 * (wdig n).length := by
  apply bits_le
  have h1 := lt_pow_wdig n
  have h2 : (4294967296 : Nat) = 2 ^ 32 := by decide
  rw [h2, ← Nat.pow_mul] at h1
  exact h1


theorem toDec_ne {n : Nat} (h : n ≠ 0) : toDec n ≠ [] := by rw [toDec_pos h]; simp
theorem toDec_head {n : Nat} (h : n ≠ 0) : (toDec n).getD 0 0 ≠ 48 := by
  induction n using Nat.strongRecOn with
  | ind n ih =>
    rw [toDec_pos h]
    by_cases h1 : n / 10 = 0
    · rw [h1, toDec_zero]
      intro e
      have e2 : (UInt8.ofNat (48 + n % 10)).toNat = 48 := by
        have e3 : UInt8.ofNat (48 + n % 10) = 48 := by simpa using e
        rw [e3]; rfl
      rw [byte_of _ (by omega)] at e2
      omega
    · have hne := toDec_ne h1
      have := ih (n / 10) (by omega) h1
      cases hc : toDec (n / 10) with
      | nil => exact absurd hc hne
      | cons x r => rw [hc] at this; simpa using this
theorem decs_form (n : Nat) : Form (decs n) := by
  unfold decs
  by_cases h : n = 0
  · rw [if_pos h]
    refine ⟨by simp, fun b hb => ?_, .inr rfl⟩
    rw [List.mem_singleton] at hb
    subst hb
    decide
  · rw [if_neg h]
    exact ⟨toDec_ne h, toDec_dig n, .inl (toDec_head h)⟩
theorem dec_decs (n : Nat) : dec (decs n) = n := by
  unfold decs
  by_cases h : n = 0
  · rw [if_pos h, h]; rfl
  · rw [if_neg h, dec_toDec]
theorem decs_dec {l : List UInt8} (h : Form l) : decs (dec l) = l := by
  obtain ⟨h1, h2, h3⟩ := h
  by_cases h48 : l.getD 0 0 = 48
  · have hl : l.length = 1 := by rcases h3 with h | h; (· exact absurd h48 h); exact h
    cases l with
    | nil => exact absurd rfl h1
    | cons x r =>
      have hr : r = [] := List.eq_nil_of_length_eq_zero (by simpa using hl)
      subst hr
      have hx : x = 48 := by simpa using h48
      subst hx
      unfold decs
      rw [if_pos (show dec [48] = 0 from rfl)]
  · have e := toDec_uniq _ l rfl h2 (.inr h48)
    unfold decs
    rw [if_neg (fun e0 => by rw [e0, toDec_zero] at e; exact h1 e.symm), e]
theorem toDec_length_le {n k : Nat} (h : n < 10 ^ k) : (toDec n).length ≤ k := by
  induction k generalizing n with
  | zero =>
    have : n = 0 := by simpa using h
    subst this
    rw [toDec_zero]; simp
  | succ k ih =>
    by_cases h0 : n = 0
    · subst h0; rw [toDec_zero]; simp
    · rw [toDec_pos h0, List.length_append, List.length_singleton]
      have : n / 10 < 10 ^ k := by rw [Nat.pow_succ] at h; exact Nat.div_lt_of_lt_mul (by omega)
      have := ih this
      omega
theorem decs_length_le {n k : Nat} (h : n < 10 ^ k) (hk : 1 ≤ k) : (decs n).length ≤ k := by
  unfold decs
  by_cases h0 : n = 0
  · rw [if_pos h0]; simpa using hk
  · rw [if_neg h0]; exact toDec_length_le h
theorem decs_mono {m n : Nat} (h : m ≤ n) : (decs m).length ≤ (decs n).length := by
  have h1 := dec_lt (decs_form n).2.1
  rw [dec_decs] at h1
  exact decs_length_le (Nat.lt_of_le_of_lt h h1) (List.length_pos_iff.2 (decs_form n).1)
theorem less_of_dec : ∀ (l m : List UInt8), l.length = m.length → Dig10 l → Dig10 m → dec l < dec m → Op.bytesLess l m = true
  | [], [], _, _, _, h => by simp [dec] at h
  | a :: l, b :: m, hl, h1, h2, h => by
    have hlm : l.length = m.length := by simpa using hl
    have d1 : Dig10 l := fun x hx => h1 x (List.mem_cons_of_mem _ hx)
    have d2 : Dig10 m := fun x hx => h2 x (List.mem_cons_of_mem _ hx)
    have a1 := h1 a List.mem_cons_self
    have b1 := h2 b List.mem_cons_self
    have l2 := dec_lt d2
    rw [dec_cons, dec_cons, hlm] at h
    rcases Nat.lt_trichotomy a.toNat b.toNat with c | c | c
    · have : a < b := UInt8.lt_iff_toNat_lt.2 c
      simp [Op.bytesLess, this]
    · have e : a = b := UInt8.toNat_inj.1 c
      subst e
      have := less_of_dec l m hlm d1 d2 (by omega)
      simp [Op.bytesLess, this]
    · exfalso
      have : (b.toNat - 48 + 1) * 10 ^ m.length ≤ (a.toNat - 48) * 10 ^ m.length := Nat.mul_le_mul_right _ (by omega)
      rw [Nat.add_mul, Nat.one_mul] at this
      omega
  | [], _ :: _, h, _, _, _ => by simp at h
  | _ :: _, [], h, _, _, _ => by simp at h
theorem decs_words {x : Nat} (h : (wdig x).length ≤ 100) : (decs x).length ≤ 1000 := by
  have h1 := lt_pow_wdig x
  generalize (wdig x).length = k at *
  by_cases h0 : k = 0
  · subst h0
    have : x = 0 := by simpa using h1
    subst this
    unfold decs
    rw [if_pos rfl]
    simp
  · have h3 : 4294967296 ^ k ≤ (10 ^ 10) ^ k := Nat.pow_le_pow_left (by decide) _
    rw [← Nat.pow_mul] at h3
    have := decs_length_le (n := x) (k := 10 * k) (Nat.lt_of_lt_of_le h1 h3) (by omega)
    omega
theorem wdig_dec_len {v s : Nat} (h : v < 10 ^ s) (hs : s ≤ 1000) : (wdig v).length ≤ 2000 := by
  have := wdig_length_le (n := v) (k := s) (Nat.lt_of_lt_of_le h (Nat.pow_le_pow_left (by decide) _))
  omega
end Go.Proofs.YtobbbhmkcmbekaaDoor.bigs
/- The walks of the document's answer: FloatParts, Nearest, NearestOf. -/
set_option linter.unusedVariables false
namespace Go.Proofs.YtobbbhmkcmbekaaDoor.bigs
open Go.RowKit

set_option maxHeartbeats 2000000 in
set_option maxRecDepth 100000 in
theorem parts_any (w : World) (b : Nat) (hb : b < 18446744073709551616) :
    Calls Tryd.prog 9 #[.int .u64 b] w fun e w' => e = .returned (.tuple #[.int .u64 (fparts b).1, .int .i64 (fparts b).2.1, .int .i64 (fparts b).2.2]) ∧ w' = w := by
  have n1 : (b : Int) % 4503599627370496 = ((b % 4503599627370496 : Nat) : Int) := by omega
  have n2 : (b : Int) / 4503599627370496 % 2048 = ((b / 4503599627370496 % 2048 : Nat) : Int) := by omega
  have h1 : b % 4503599627370496 < 4503599627370496 := by omega
  have h2 : b / 4503599627370496 % 2048 < 2048 := by omega
  unfold fparts
  generalize b % 4503599627370496 = f at *
  generalize b / 4503599627370496 % 2048 = e at *
  by_cases c1 : e = 2047
  · rw [if_pos c1]
    subst c1
    by_cases c2 : f = 0
    · rw [if_pos c2]
      subst c2
      go_enter Tryd.func9, Tryd.ntmps9
      go_wp2
      go_ret3
      exact ⟨rfl, rfl⟩
    · rw [if_neg c2]
      have c3 : ((f : Int) == 0) = false := beq_false_of_ne (by omega)
      go_enter Tryd.func9, Tryd.ntmps9
      go_wp2
      go_ret3
      exact ⟨rfl, rfl⟩
  · rw [if_neg c1]
    have c4 : ((e : Int) == 2047) = false := beq_false_of_ne (by omega)
    by_cases c2 : e = 0
    · rw [if_pos c2]
      subst c2
      go_enter Tryd.func9, Tryd.ntmps9
      go_wp2
      go_ret3
      refine ⟨?_, rfl⟩
      rw [← n1]
      rfl
    · rw [if_neg c2]
      have c3 : ((e : Int) == 0) = false := beq_false_of_ne (by omega)
      go_enter Tryd.func9, Tryd.ntmps9
      go_wp2
      go_ret3
      refine ⟨?_, rfl⟩
      first | rfl | (congr 3 <;> omega)

theorem sgn_ge' {m n : Nat} (h : n ≤ m) : ¬ sgn m n < 0 := by unfold sgn; rw [if_neg (by omega)]; split <;> omega
theorem x54 {N d : Nat} (h : N < d * 9007199254740992) : N < d * 2 ^ 54 :=
  Nat.lt_of_lt_of_le h (Nat.mul_le_mul_left d (by decide))
theorem small_num (n : Nat) (i : Int) (w : World) (h : i = (n : Int)) (hn : n < 18446744073709551616) : Calls Tryd.prog 32 #[.int .u64 i] w fun e w' => ∃ v, e = .returned v ∧ Lies w' v n ∧ Fresh w.heap.size v ∧ Below w.heap.size w w' := by
  subst h
  exact small_any n w hn

set_option maxHeartbeats 16000000 in
set_option maxRecDepth 100000 in
theorem nearest_any (w : World) (va vb : Value) (num den : Nat) (hm : (dig num).length ≤ 10000) (hn : (dig den).length ≤ 10000) (hn0 : num ≠ 0) (hd0 : den ≠ 0) (ha : Lies w va num) (hb : Lies w vb den) :
    Calls Tryd.prog 69 #[va, vb] w fun e w' => ∃ r : Nat, e = .returned (.int .u64 r) ∧ Near num den r ∧ r < 18446744073709551616 ∧ Below w.heap.size w w' := by
  have l52 : (dig 4503599627370496).length ≤ 5 := dig_length_le (by decide)
  have l53 : (dig 9007199254740992).length ≤ 5 := dig_length_le (by decide)
  have q1 := dig_prod_lenF den 4503599627370496
  have HL : Hid (∀ a, a ≤ 1074 → (dig (num * 2 ^ a)).length ≤ 16000) := fun a h => by
    have h1 := dig_prod_lenF num (2 ^ a)
    have h2 := pow_len (b := 2) (e := a) (by decide)
    omega
  go_enter Tryd.func69, Tryd.ntmps69
  go_wp2_with fail
  go_loopw [0, 5] (fun vn ve wr => ∃ a : Nat, ve = .int .i64 (-(a : Int)) ∧ a ≤ 1074 ∧ Hid (Lies wr vn (num * 2 ^ a)) ∧ Hid (Lies wr vb den) ∧ Hid (a = 0 ∨ num * 2 ^ (a - 1) < den * 4503599627370496) ∧ Below w.heap.size w wr) (fun _ ve _ => (1074 + intOf ve).toNat)
  case atStart => exact ⟨0, rfl, by omega, by show Lies _ _ _; rw [Nat.pow_zero, Nat.mul_one]; exact ha, hb, .inl rfl, Below.refl _ _⟩
  case round =>
    clear ha hb
    obtain ⟨a, rfl, haM, hLn, hLd, hcond, hbw⟩ := hrel
    have hla := HL.out a haM
    go_wp2_with fail
    refine (small_num 4503599627370496 _ wr rfl (by decide)).mono ?_
    rintro e w2 ⟨v2, rfl, hL2, _, b2⟩
    have hLn2 := (unhide hLn).below b2
    have hLd2 := (unhide hLd).below b2
    have hbw2 := hbw.trans (b2.mono hbw.size)
    clear hLn hLd hbw b2
    go_wp2_with fail
    refine (by_any _ _ _ den 4503599627370496 (by omega) (by omega) hLd2 hL2).mono ?_
    rintro e w3 ⟨v3, rfl, hL3, _, b3⟩
    have hLn3 := hLn2.below b3
    have hLd3 := hLd2.below b3
    have hbw3 := hbw2.trans (b3.mono hbw2.size)
    clear hLn2 hLd2 hbw2 b3 hL2
    by_cases hlt : num * 2 ^ a < den * 4503599627370496
    · go_wp2_with fail
      refine (against_any _ _ _ (num * 2 ^ a) (den * 4503599627370496) (by omega) (by omega) hLn3 hL3).mono ?_
      rintro e w4 ⟨rfl, rfl⟩
      rw [sgn_lt hlt]
      by_cases ha2 : a < 1074
      · have HC := hide hlt
        have i1 : (-1074 : Int) < -(a : Int) := by omega
        clear hlt hL3 hcond
        go_wp2_with fail
        refine (plus_any _ _ _ (num * 2 ^ a) (num * 2 ^ a) (by omega) (by omega) hLn3 hLn3).mono ?_
        rintro e w5 ⟨v5, rfl, hL5, _, b5⟩
        rw [double_next] at hL5
        have HN := hide hL5
        have HD := hide (hLd3.below b5)
        have hbw5 := hbw3.trans (b5.mono hbw3.size)
        clear hL5 hLn3 hLd3 hbw3 b5
        go_wp2
        go_roundw
        case rel => exact ⟨a + 1, by congr 1; omega, by omega, HN, HD, .inr (by rw [Nat.add_sub_cancel]; exact unhide HC), hbw5⟩
        case measure => simp only [intOf]; omega
      · have HA : Hid (a = 1074 ∨ den * 4503599627370496 ≤ num * 2 ^ a) := .inl (by omega)
        have i1 : ¬ (-1074 : Int) < -(a : Int) := by omega
        clear hlt ha2
        have hNl : (dig (num * 2 ^ a)).length ≤ 16000 := hla
        have HNE : Hid (∀ (b r : Nat), (b = 0 ∨ den * 2 ^ (b - 1) * 9007199254740992 ≤ num * 2 ^ a) → num * 2 ^ a < den * 2 ^ b * 9007199254740992 → r = packed (rnd (num * 2 ^ a) (den * 2 ^ b)) ((b : Int) - (a : Int)) → Near num den r) := fun b r h1 h2 h3 => ⟨a, b, haM, hcond.out, HA.out, h1, h2, h3⟩
        have HN := hide hLn3
        have HD := hide hLd3
        clear hLn3 hLd3 hL3 HA hcond HL hla q1 l52
        have hNp : 0 < num * 2 ^ a := Nat.mul_pos (by omega) (Nat.pow_pos (by omega))
        generalize num * 2 ^ a = N at *
        go_wp2_with fail
        go_loopw [1, 5] (fun vd ve wr => ∃ b d : Nat, ve = .int .i64 ((b : Int) - (a : Int)) ∧ Hid (d = den * 2 ^ b) ∧ Hid (Lies wr vd d) ∧ Hid (Lies wr u0 N) ∧ Hid (b = 0 ∨ den * 2 ^ (b - 1) * 9007199254740992 ≤ N) ∧ Hid (d ≤ N ∨ b = 0) ∧ b ≤ 300000 ∧ 0 < d ∧ Below w.heap.size w wr) (fun _ ve _ => (300001 - (a : Int) - intOf ve).toNat)
        case atStart => exact ⟨0, den, by congr 1; omega, by show _ = _; rw [Nat.pow_zero, Nat.mul_one], HD, HN, .inl rfl, .inr rfl, by omega, by omega, hbw3⟩
        case round =>
          clear HD HN hbw3
          obtain ⟨b, d, rfl, hdd, hLd, hLn, hcb, hdb, hb3, hdp, hbw⟩ := hrel
          have hdl : (dig d).length ≤ 16000 := by
            rcases hdb.out with h | h
            · exact Nat.le_trans (dig_len_mono h) hNl
            · have h2 := hdd.out
              rw [h, Nat.pow_zero, Nat.mul_one] at h2
              rw [h2]; omega
          have hpl := dig_prod_lenF d 9007199254740992
          go_wp2_with fail
          refine (small_num 9007199254740992 _ wr rfl (by decide)).mono ?_
          rintro e w12 ⟨v2, rfl, hL2, _, b2⟩
          have hLn2 := (unhide hLn).below b2
          have hLd2 := (unhide hLd).below b2
          have hbw2 := hbw.trans (b2.mono hbw.size)
          clear hLn hLd hbw b2
          go_wp2_with fail
          refine (by_any _ _ _ d 9007199254740992 (by omega) (by omega) hLd2 hL2).mono ?_
          rintro e w13 ⟨v3, rfl, hL3, _, b3⟩
          have hLn3 := hLn2.below b3
          have hLd3 := hLd2.below b3
          have hbw3 := hbw2.trans (b3.mono hbw2.size)
          clear hLn2 hLd2 hbw2 b3 hL2
          by_cases hge : d * 9007199254740992 ≤ N
          · have hs := sgn_ge' hge
            go_wp2_with fail
            refine (against_any _ _ _ N (d * 9007199254740992) (by omega) (by omega) hLn3 hL3).mono ?_
            rintro e w14 ⟨rfl, rfl⟩
            generalize sgn N (d * 9007199254740992) = sg at *
            have HC := hide hge
            have hb4 : b + 1 ≤ 300000 := by
              have h1 : 2 ^ b ≤ N := by
                have h2 : 1 * 2 ^ b ≤ den * 2 ^ b := Nat.mul_le_mul_right _ (by omega)
                rw [← hdd.out] at h2
                omega
              have h3 := log_len h1
              omega
            have hdb2 : Hid (d + d ≤ N ∨ b + 1 = 0) := .inl (by omega)
            have hdd2 : Hid (d + d = den * 2 ^ (b + 1)) := by show _ = _; rw [← double_next, ← hdd.out]
            have HCC : Hid (b + 1 = 0 ∨ den * 2 ^ (b + 1 - 1) * 9007199254740992 ≤ N) := .inr (by rw [Nat.add_sub_cancel, ← hdd.out]; exact hge)
            clear hge hL3 hcb hdb hdd HC
            go_wp2_with fail
            refine (plus_any _ _ _ d d (by omega) (by omega) hLd3 hLd3).mono ?_
            rintro e w15 ⟨v5, rfl, hL5, _, b5⟩
            have HD := hide hL5
            have HN := hide (hLn3.below b5)
            have hbw5 := hbw3.trans (b5.mono hbw3.size)
            clear hL5 hLn3 hLd3 hbw3 b5
            go_wp2
            go_roundw
            case rel => exact ⟨b + 1, d + d, by congr 1; omega, hdd2, HD, HN, HCC, hdb2, hb4, by omega, hbw5⟩
            case measure => simp only [intOf]; omega
          · have hlt2 : N < d * 9007199254740992 := by omega
            go_wp2_with fail
            refine (against_any _ _ _ N (d * 9007199254740992) (by omega) (by omega) hLn3 hL3).mono ?_
            rintro e w14 ⟨rfl, rfl⟩
            rw [sgn_lt hlt2]
            have HNB : Hid (∀ r : Nat, r = packed (rnd N d) ((b : Int) - (a : Int)) → Near num den r) := fun r h => HNE.out b r hcb.out (by rw [← hdd.out]; exact hlt2) (by rw [← hdd.out]; exact h)
            have HN := hide hLn3
            have HD := hide hLd3
            have HX := hide hlt2
            clear hcb hdb hL3 hge hlt2 HNE hLn3 hLd3 hpl hdd
            have hNd := hNl
            go_wp2_with fail
            go_loopw [0, 6, 7] (fun vn vq vi wr => ∃ (j q c : Nat), vi = .int .i64 ((j : Int) - 1) ∧ vq = .int .u64 q ∧ j ≤ 54 ∧ Hid (Lies wr vn c) ∧ Hid (Lies wr u1 d) ∧ Hid (c + q * d = N) ∧ Hid (c < d * 2 ^ j) ∧ q < 9007199254740992 ∧ Below w.heap.size w wr) (fun _ _ vi _ => (intOf vi + 1).toNat)
            case atStart => exact ⟨54, 0, N, rfl, rfl, by omega, HN, HD, by show _ = _; rw [Nat.zero_mul, Nat.add_zero], x54 (unhide HX), by omega, hbw3⟩
            case round =>
              clear HN HD hbw3
              obtain ⟨j, q, c, rfl, rfl, hj, hLc, hLd, hsum, hcl, hq, hbw⟩ := hrel
              have hcN : c ≤ N := by have h := hsum.out; omega
              have hcl2 : (dig c).length ≤ 16000 := Nat.le_trans (dig_len_mono hcN) hNd
              cases j with
              | zero =>
                have hc0 : c < d := by have h := hcl.out; rwa [Nat.pow_zero, Nat.mul_one] at h
                have hc2 : (dig (c + c)).length ≤ 32001 := by
                  have h := dig_prod_lenF 2 c
                  rw [Nat.two_mul] at h
                  have h2 : (dig 2).length ≤ 1 := dig_length_le (by decide)
                  omega
                clear hcl
                go_wp2_with fail
                refine (plus_any _ _ _ c c (by omega) (by omega) (unhide hLc) (unhide hLc)).mono ?_
                rintro e w21 ⟨v21, rfl, hL21, _, b21⟩
                have hLd21 := (unhide hLd).below b21
                have hbw21 := hbw.trans (b21.mono hbw.size)
                clear hLc hLd hbw b21
                go_wp2_with fail
                refine (against_any _ _ _ (c + c) d (by omega) (by omega) hL21 hLd21).mono ?_
                rintro e w22 ⟨rfl, rfl⟩
                have hsumo := hsum.out
                clear hL21 hLd21
                rcases Nat.lt_trichotomy (c + c) d with hl | he | hg
                · rw [sgn_lt hl]
                  have HR : Hid (rnd N d = q) := rnd_down hsumo hc0 (by omega)
                  clear hsumo hl hsum
                  have hQ : q ≤ 9007199254740992 := by omega
                  by_cases k1 : q = 9007199254740992
                  · have t1 : (((q : Int)) == (9007199254740992 : Int)) = true := by simp only [beq_iff_eq]; omega
                    have t1n : (q == 9007199254740992) = true := by simp only [beq_iff_eq]; exact k1
                    have K1 := hide k1
                    clear k1
                    by_cases k2 : 971 < (b : Int) - (a : Int) + 1
                    · have HF : Hid (Near num den 9218868437227405312) := HNB.out _ (by rw [HR.out]; unfold packed; rw [if_pos (unhide K1), if_pos k2])
                      go_wp2
                      go_ret
                      exact ⟨9218868437227405312, rfl, unhide HF, by omega, hbw21⟩
                    · have HF : Hid (Near num den (((b : Int) - (a : Int) + 1 + 1074).toNat * 4503599627370496 + 4503599627370496)) := HNB.out _ (by rw [HR.out]; unfold packed; rw [if_pos (unhide K1), if_neg k2])
                      obtain ⟨E, hE⟩ : ∃ E : Nat, (b : Int) - (a : Int) + 1 + 1074 = (E : Int) := ⟨((b : Int) - (a : Int) + 1 + 1074).toNat, by omega⟩
                      have hEl : E ≤ 2045 := by omega
                      rw [hE, Int.toNat_natCast] at HF
                      go_wp2
                      go_ret
                      exact ⟨E * 4503599627370496 + 4503599627370496, by congr 2, unhide HF, by omega, hbw21⟩
                  · have t1 : (((q : Int)) == (9007199254740992 : Int)) = false := beq_false_of_ne (by omega)
                    have t1n : (q == 9007199254740992) = false := beq_false_of_ne k1
                    by_cases k2 : 971 < (b : Int) - (a : Int)
                    · have HF : Hid (Near num den 9218868437227405312) := HNB.out _ (by rw [HR.out]; unfold packed; rw [if_neg k1, if_pos k2])
                      go_wp2
                      go_ret
                      exact ⟨9218868437227405312, rfl, unhide HF, by omega, hbw21⟩
                    · by_cases k3 : q < 4503599627370496
                      · have HF : Hid (Near num den (q)) := HNB.out _ (by rw [HR.out]; unfold packed; rw [if_neg k1, if_neg k2, if_pos k3])
                        have z0 : (0 : Int) ≤ (q : Int) := by omega
                        have z1 : ((q : Int) < (4503599627370496 : Int)) := by omega
                        have z2 : (q : Int) ≤ 9007199254740992 := by omega
                        have hr64 : q < 18446744073709551616 := by omega
                        have HR64 := hide hr64
                        clear k1 k3 hQ hr64 hq t1n
                        generalize hz : (q : Int) = Z at *
                        have HZ := hide hz
                        clear hz
                        go_wp2
                        go_ret
                        exact ⟨q, by rw [← unhide HZ]; congr 2, unhide HF, unhide HR64, hbw21⟩
                      · have HF : Hid (Near num den (((b : Int) - (a : Int) + 1074).toNat * 4503599627370496 + (q))) := HNB.out _ (by rw [HR.out]; unfold packed; rw [if_neg k1, if_neg k2, if_neg k3])
                        obtain ⟨E, hE⟩ : ∃ E : Nat, (b : Int) - (a : Int) + 1074 = (E : Int) := ⟨((b : Int) - (a : Int) + 1074).toNat, by omega⟩
                        have hEl : E ≤ 2045 := by omega
                        rw [hE, Int.toNat_natCast] at HF
                        have z0 : (0 : Int) ≤ (q : Int) := by omega
                        have z1 : ¬ ((q : Int) < (4503599627370496 : Int)) := by omega
                        have z2 : (q : Int) ≤ 9007199254740992 := by omega
                        have hr64 : E * 4503599627370496 + (q) < 18446744073709551616 := by omega
                        have HR64 := hide hr64
                        clear k1 k3 hQ hr64 hq t1n
                        generalize hz : (q : Int) = Z at *
                        have HZ := hide hz
                        clear hz
                        go_wp2
                        go_ret
                        exact ⟨E * 4503599627370496 + (q), by rw [← unhide HZ]; congr 2, unhide HF, unhide HR64, hbw21⟩
                · rw [sgn_eq he]
                  by_cases ho : q % 2 = 1
                  · have HR : Hid (rnd N d = q + 1) := rnd_up hsumo hc0 (.inr ⟨he, ho⟩)
                    have to : (((q : Int) % 2) == 1) = true := by simp only [beq_iff_eq]; omega
                    clear hsumo he hsum ho
                    have hQ : q + 1 ≤ 9007199254740992 := by omega
                    by_cases k1 : q + 1 = 9007199254740992
                    · have t1 : (((q : Int) + 1) == (9007199254740992 : Int)) = true := by simp only [beq_iff_eq]; omega
                      have t1n : (q + 1 == 9007199254740992) = true := by simp only [beq_iff_eq]; exact k1
                      have K1 := hide k1
                      clear k1
                      by_cases k2 : 971 < (b : Int) - (a : Int) + 1
                      · have HF : Hid (Near num den 9218868437227405312) := HNB.out _ (by rw [HR.out]; unfold packed; rw [if_pos (unhide K1), if_pos k2])
                        go_wp2
                        go_ret
                        exact ⟨9218868437227405312, rfl, unhide HF, by omega, hbw21⟩
                      · have HF : Hid (Near num den (((b : Int) - (a : Int) + 1 + 1074).toNat * 4503599627370496 + 4503599627370496)) := HNB.out _ (by rw [HR.out]; unfold packed; rw [if_pos (unhide K1), if_neg k2])
                        obtain ⟨E, hE⟩ : ∃ E : Nat, (b : Int) - (a : Int) + 1 + 1074 = (E : Int) := ⟨((b : Int) - (a : Int) + 1 + 1074).toNat, by omega⟩
                        have hEl : E ≤ 2045 := by omega
                        rw [hE, Int.toNat_natCast] at HF
                        go_wp2
                        go_ret
                        exact ⟨E * 4503599627370496 + 4503599627370496, by congr 2, unhide HF, by omega, hbw21⟩
                    · have t1 : (((q : Int) + 1) == (9007199254740992 : Int)) = false := beq_false_of_ne (by omega)
                      have t1n : (q + 1 == 9007199254740992) = false := beq_false_of_ne k1
                      by_cases k2 : 971 < (b : Int) - (a : Int)
                      · have HF : Hid (Near num den 9218868437227405312) := HNB.out _ (by rw [HR.out]; unfold packed; rw [if_neg k1, if_pos k2])
                        go_wp2
                        go_ret
                        exact ⟨9218868437227405312, rfl, unhide HF, by omega, hbw21⟩
                      · by_cases k3 : q + 1 < 4503599627370496
                        · have HF : Hid (Near num den (q + 1)) := HNB.out _ (by rw [HR.out]; unfold packed; rw [if_neg k1, if_neg k2, if_pos k3])
                          have z0 : (0 : Int) ≤ (q : Int) := by omega
                          have z1 : ((q : Int) + 1 < (4503599627370496 : Int)) := by omega
                          have z2 : (q : Int) ≤ 9007199254740992 := by omega
                          have hr64 : q + 1 < 18446744073709551616 := by omega
                          have HR64 := hide hr64
                          clear k1 k3 hQ hr64 hq t1n
                          generalize hz : (q : Int) = Z at *
                          have HZ := hide hz
                          clear hz
                          go_wp2
                          go_ret
                          exact ⟨q + 1, by rw [← unhide HZ]; congr 2, unhide HF, unhide HR64, hbw21⟩
                        · have HF : Hid (Near num den (((b : Int) - (a : Int) + 1074).toNat * 4503599627370496 + (q + 1))) := HNB.out _ (by rw [HR.out]; unfold packed; rw [if_neg k1, if_neg k2, if_neg k3])
                          obtain ⟨E, hE⟩ : ∃ E : Nat, (b : Int) - (a : Int) + 1074 = (E : Int) := ⟨((b : Int) - (a : Int) + 1074).toNat, by omega⟩
                          have hEl : E ≤ 2045 := by omega
                          rw [hE, Int.toNat_natCast] at HF
                          have z0 : (0 : Int) ≤ (q : Int) := by omega
                          have z1 : ¬ ((q : Int) + 1 < (4503599627370496 : Int)) := by omega
                          have z2 : (q : Int) ≤ 9007199254740992 := by omega
                          have hr64 : E * 4503599627370496 + (q + 1) < 18446744073709551616 := by omega
                          have HR64 := hide hr64
                          clear k1 k3 hQ hr64 hq t1n
                          generalize hz : (q : Int) = Z at *
                          have HZ := hide hz
                          clear hz
                          go_wp2
                          go_ret
                          exact ⟨E * 4503599627370496 + (q + 1), by rw [← unhide HZ]; congr 2, unhide HF, unhide HR64, hbw21⟩
                  · have HR : Hid (rnd N d = q) := rnd_down hsumo hc0 (by omega)
                    have to : (((q : Int) % 2) == 1) = false := beq_false_of_ne (by omega)
                    clear hsumo he hsum
                    have hQ : q ≤ 9007199254740992 := by omega
                    by_cases k1 : q = 9007199254740992
                    · have t1 : (((q : Int)) == (9007199254740992 : Int)) = true := by simp only [beq_iff_eq]; omega
                      have t1n : (q == 9007199254740992) = true := by simp only [beq_iff_eq]; exact k1
                      have K1 := hide k1
                      clear k1
                      by_cases k2 : 971 < (b : Int) - (a : Int) + 1
                      · have HF : Hid (Near num den 9218868437227405312) := HNB.out _ (by rw [HR.out]; unfold packed; rw [if_pos (unhide K1), if_pos k2])
                        go_wp2
                        go_ret
                        exact ⟨9218868437227405312, rfl, unhide HF, by omega, hbw21⟩
                      · have HF : Hid (Near num den (((b : Int) - (a : Int) + 1 + 1074).toNat * 4503599627370496 + 4503599627370496)) := HNB.out _ (by rw [HR.out]; unfold packed; rw [if_pos (unhide K1), if_neg k2])
                        obtain ⟨E, hE⟩ : ∃ E : Nat, (b : Int) - (a : Int) + 1 + 1074 = (E : Int) := ⟨((b : Int) - (a : Int) + 1 + 1074).toNat, by omega⟩
                        have hEl : E ≤ 2045 := by omega
                        rw [hE, Int.toNat_natCast] at HF
                        go_wp2
                        go_ret
                        exact ⟨E * 4503599627370496 + 4503599627370496, by congr 2, unhide HF, by omega, hbw21⟩
                    · have t1 : (((q : Int)) == (9007199254740992 : Int)) = false := beq_false_of_ne (by omega)
                      have t1n : (q == 9007199254740992) = false := beq_false_of_ne k1
                      by_cases k2 : 971 < (b : Int) - (a : Int)
                      · have HF : Hid (Near num den 9218868437227405312) := HNB.out _ (by rw [HR.out]; unfold packed; rw [if_neg k1, if_pos k2])
                        go_wp2
                        go_ret
                        exact ⟨9218868437227405312, rfl, unhide HF, by omega, hbw21⟩
                      · by_cases k3 : q < 4503599627370496
                        · have HF : Hid (Near num den (q)) := HNB.out _ (by rw [HR.out]; unfold packed; rw [if_neg k1, if_neg k2, if_pos k3])
                          have z0 : (0 : Int) ≤ (q : Int) := by omega
                          have z1 : ((q : Int) < (4503599627370496 : Int)) := by omega
                          have z2 : (q : Int) ≤ 9007199254740992 := by omega
                          have hr64 : q < 18446744073709551616 := by omega
                          have HR64 := hide hr64
                          clear k1 k3 hQ hr64 hq t1n
                          generalize hz : (q : Int) = Z at *
                          have HZ := hide hz
                          clear hz
                          go_wp2
                          go_ret
                          exact ⟨q, by rw [← unhide HZ]; congr 2, unhide HF, unhide HR64, hbw21⟩
                        · have HF : Hid (Near num den (((b : Int) - (a : Int) + 1074).toNat * 4503599627370496 + (q))) := HNB.out _ (by rw [HR.out]; unfold packed; rw [if_neg k1, if_neg k2, if_neg k3])
                          obtain ⟨E, hE⟩ : ∃ E : Nat, (b : Int) - (a : Int) + 1074 = (E : Int) := ⟨((b : Int) - (a : Int) + 1074).toNat, by omega⟩
                          have hEl : E ≤ 2045 := by omega
                          rw [hE, Int.toNat_natCast] at HF
                          have z0 : (0 : Int) ≤ (q : Int) := by omega
                          have z1 : ¬ ((q : Int) < (4503599627370496 : Int)) := by omega
                          have z2 : (q : Int) ≤ 9007199254740992 := by omega
                          have hr64 : E * 4503599627370496 + (q) < 18446744073709551616 := by omega
                          have HR64 := hide hr64
                          clear k1 k3 hQ hr64 hq t1n
                          generalize hz : (q : Int) = Z at *
                          have HZ := hide hz
                          clear hz
                          go_wp2
                          go_ret
                          exact ⟨E * 4503599627370496 + (q), by rw [← unhide HZ]; congr 2, unhide HF, unhide HR64, hbw21⟩
                · rw [sgn_gt hg]
                  have HR : Hid (rnd N d = q + 1) := rnd_up hsumo hc0 (.inl hg)
                  clear hsumo hg hsum
                  have hQ : q + 1 ≤ 9007199254740992 := by omega
                  by_cases k1 : q + 1 = 9007199254740992
                  · have t1 : (((q : Int) + 1) == (9007199254740992 : Int)) = true := by simp only [beq_iff_eq]; omega
                    have t1n : (q + 1 == 9007199254740992) = true := by simp only [beq_iff_eq]; exact k1
                    have K1 := hide k1
                    clear k1
                    by_cases k2 : 971 < (b : Int) - (a : Int) + 1
                    · have HF : Hid (Near num den 9218868437227405312) := HNB.out _ (by rw [HR.out]; unfold packed; rw [if_pos (unhide K1), if_pos k2])
                      go_wp2
                      go_ret
                      exact ⟨9218868437227405312, rfl, unhide HF, by omega, hbw21⟩
                    · have HF : Hid (Near num den (((b : Int) - (a : Int) + 1 + 1074).toNat * 4503599627370496 + 4503599627370496)) := HNB.out _ (by rw [HR.out]; unfold packed; rw [if_pos (unhide K1), if_neg k2])
                      obtain ⟨E, hE⟩ : ∃ E : Nat, (b : Int) - (a : Int) + 1 + 1074 = (E : Int) := ⟨((b : Int) - (a : Int) + 1 + 1074).toNat, by omega⟩
                      have hEl : E ≤ 2045 := by omega
                      rw [hE, Int.toNat_natCast] at HF
                      go_wp2
                      go_ret
                      exact ⟨E * 4503599627370496 + 4503599627370496, by congr 2, unhide HF, by omega, hbw21⟩
                  · have t1 : (((q : Int) + 1) == (9007199254740992 : Int)) = false := beq_false_of_ne (by omega)
                    have t1n : (q + 1 == 9007199254740992) = false := beq_false_of_ne k1
                    by_cases k2 : 971 < (b : Int) - (a : Int)
                    · have HF : Hid (Near num den 9218868437227405312) := HNB.out _ (by rw [HR.out]; unfold packed; rw [if_neg k1, if_pos k2])
                      go_wp2
                      go_ret
                      exact ⟨9218868437227405312, rfl, unhide HF, by omega, hbw21⟩
                    · by_cases k3 : q + 1 < 4503599627370496
                      · have HF : Hid (Near num den (q + 1)) := HNB.out _ (by rw [HR.out]; unfold packed; rw [if_neg k1, if_neg k2, if_pos k3])
                        have z0 : (0 : Int) ≤ (q : Int) := by omega
                        have z1 : ((q : Int) + 1 < (4503599627370496 : Int)) := by omega
                        have z2 : (q : Int) ≤ 9007199254740992 := by omega
                        have hr64 : q + 1 < 18446744073709551616 := by omega
                        have HR64 := hide hr64
                        clear k1 k3 hQ hr64 hq t1n
                        generalize hz : (q : Int) = Z at *
                        have HZ := hide hz
                        clear hz
                        go_wp2
                        go_ret
                        exact ⟨q + 1, by rw [← unhide HZ]; congr 2, unhide HF, unhide HR64, hbw21⟩
                      · have HF : Hid (Near num den (((b : Int) - (a : Int) + 1074).toNat * 4503599627370496 + (q + 1))) := HNB.out _ (by rw [HR.out]; unfold packed; rw [if_neg k1, if_neg k2, if_neg k3])
                        obtain ⟨E, hE⟩ : ∃ E : Nat, (b : Int) - (a : Int) + 1074 = (E : Int) := ⟨((b : Int) - (a : Int) + 1074).toNat, by omega⟩
                        have hEl : E ≤ 2045 := by omega
                        rw [hE, Int.toNat_natCast] at HF
                        have z0 : (0 : Int) ≤ (q : Int) := by omega
                        have z1 : ¬ ((q : Int) + 1 < (4503599627370496 : Int)) := by omega
                        have z2 : (q : Int) ≤ 9007199254740992 := by omega
                        have hr64 : E * 4503599627370496 + (q + 1) < 18446744073709551616 := by omega
                        have HR64 := hide hr64
                        clear k1 k3 hQ hr64 hq t1n
                        generalize hz : (q : Int) = Z at *
                        have HZ := hide hz
                        clear hz
                        go_wp2
                        go_ret
                        exact ⟨E * 4503599627370496 + (q + 1), by rw [← unhide HZ]; congr 2, unhide HF, unhide HR64, hbw21⟩
              | succ i =>
                have e0 : ((i + 1 : Nat) : Int) - 1 = (i : Int) := by omega
                rw [e0]
                have hP : 2 ^ i ≤ 9007199254740992 := Nat.pow_le_pow_right (n := 2) (by omega) (show i ≤ 53 by omega)
                have hPl := pow_len (b := 2) (e := i) (by decide)
                have hpr := dig_prod_lenF d (2 ^ i)
                have hsh : (2 : Int) ^ i = ((2 ^ i : Nat) : Int) := by simp
                have hcl3 : Hid (c < d * 2 ^ i + d * 2 ^ i) := by show _ < _; rw [double_next]; exact hcl.out
                clear hcl
                generalize hPI : 2 ^ i = P at *
                go_wp2_with fail
                refine (small_num P _ wr rfl (by omega)).mono ?_
                rintro e w31 ⟨v31, rfl, hL31, _, b31⟩
                have hLc1 := (unhide hLc).below b31
                have hLd1 := (unhide hLd).below b31
                have hbw1 := hbw.trans (b31.mono hbw.size)
                clear hLc hLd hbw b31
                go_wp2_with fail
                refine (by_any _ _ _ d P (by omega) (by omega) hLd1 hL31).mono ?_
                rintro e w32 ⟨v32, rfl, hL32, _, b32⟩
                have hLc2 := hLc1.below b32
                have hLd2 := hLd1.below b32
                have hbw2 := hbw1.trans (b32.mono hbw1.size)
                clear hLc1 hLd1 hbw1 b32 hL31
                by_cases hge3 : d * P ≤ c
                · have hs3 := sgn_ge' hge3
                  have hsum2 : Hid (c - d * P + (q + P) * d = N) := bit_take hsum.out hge3
                  have hq2 : q + P < 9007199254740992 := quo_less hsum2.out (unhide HX) hdp
                  have hcl4 : Hid (c - d * P < d * P) := by show _ < _; have h := hcl3.out; omega
                  go_wp2_with fail
                  refine (against_any _ _ _ c (d * P) (by omega) (by omega) hLc2 hL32).mono ?_
                  rintro e w33 ⟨rfl, rfl⟩
                  generalize sgn c (d * P) = sg3 at *
                  go_wp2_with fail
                  refine (minus_any _ _ _ c (d * P) (by omega) hge3 hLc2 hL32).mono ?_
                  rintro e w34 ⟨v34, rfl, hL34, _, b34⟩
                  have HC := hide hL34
                  have HD := hide (hLd2.below b34)
                  have hbw4 := hbw2.trans (b34.mono hbw2.size)
                  have HPI := hide hPI
                  clear hL34 hLc2 hLd2 hbw2 b34 hL32 hge3 hcl3 hsum hPI
                  go_wp2
                  go_roundw
                  case rel => exact ⟨i, q + P, c - d * P, by go_num, by go_num, by omega, HC, HD, hsum2, by show _ < _; rw [unhide HPI]; exact hcl4.out, hq2, hbw4⟩
                  case measure => simp only [intOf]; omega
                · have hlt3 : c < d * P := Nat.lt_of_not_le hge3
                  go_wp2_with fail
                  refine (against_any _ _ _ c (d * P) (by omega) (by omega) hLc2 hL32).mono ?_
                  rintro e w33 ⟨rfl, rfl⟩
                  rw [sgn_lt hlt3]
                  have HC := hide hLc2
                  have HD := hide hLd2
                  have HL3 := hide hlt3
                  have HPI := hide hPI
                  clear hLc2 hLd2 hL32 hge3 hcl3 hlt3 hPI
                  go_wp2
                  go_roundw
                  case rel => exact ⟨i, q, c, by go_num, rfl, by omega, HC, HD, hsum, by show _ < _; rw [unhide HPI]; exact unhide HL3, hq, hbw2⟩
                  case measure => simp only [intOf]; omega
    · have HA : Hid (a = 1074 ∨ den * 4503599627370496 ≤ num * 2 ^ a) := .inr (Nat.le_of_not_lt hlt)
      obtain ⟨sg0, hsg0, hs⟩ : ∃ sg, sgn (num * 2 ^ a) (den * 4503599627370496) = sg ∧ ¬ sg < 0 := ⟨_, rfl, sgn_ge' (Nat.le_of_not_lt hlt)⟩
      have HSG := hide hsg0
      clear hsg0
      go_wp2_with fail
      refine (against_any _ _ _ (num * 2 ^ a) (den * 4503599627370496) (by omega) (by omega) hLn3 hL3).mono ?_
      rintro e w4 ⟨rfl, rfl⟩
      rw [unhide HSG]
      clear hlt HSG
      have hNl : (dig (num * 2 ^ a)).length ≤ 16000 := hla
      have HNE : Hid (∀ (b r : Nat), (b = 0 ∨ den * 2 ^ (b - 1) * 9007199254740992 ≤ num * 2 ^ a) → num * 2 ^ a < den * 2 ^ b * 9007199254740992 → r = packed (rnd (num * 2 ^ a) (den * 2 ^ b)) ((b : Int) - (a : Int)) → Near num den r) := fun b r h1 h2 h3 => ⟨a, b, haM, hcond.out, HA.out, h1, h2, h3⟩
      have HN := hide hLn3
      have HD := hide hLd3
      clear hLn3 hLd3 hL3 HA hcond HL hla q1 l52
      have hNp : 0 < num * 2 ^ a := Nat.mul_pos (by omega) (Nat.pow_pos (by omega))
      generalize num * 2 ^ a = N at *
      go_wp2_with fail
      go_loopw [1, 5] (fun vd ve wr => ∃ b d : Nat, ve = .int .i64 ((b : Int) - (a : Int)) ∧ Hid (d = den * 2 ^ b) ∧ Hid (Lies wr vd d) ∧ Hid (Lies wr u0 N) ∧ Hid (b = 0 ∨ den * 2 ^ (b - 1) * 9007199254740992 ≤ N) ∧ Hid (d ≤ N ∨ b = 0) ∧ b ≤ 300000 ∧ 0 < d ∧ Below w.heap.size w wr) (fun _ ve _ => (300001 - (a : Int) - intOf ve).toNat)
      case atStart => exact ⟨0, den, by congr 1; omega, by show _ = _; rw [Nat.pow_zero, Nat.mul_one], HD, HN, .inl rfl, .inr rfl, by omega, by omega, hbw3⟩
      case round =>
        clear HD HN hbw3
        obtain ⟨b, d, rfl, hdd, hLd, hLn, hcb, hdb, hb3, hdp, hbw⟩ := hrel
        have hdl : (dig d).length ≤ 16000 := by
          rcases hdb.out with h | h
          · exact Nat.le_trans (dig_len_mono h) hNl
          · have h2 := hdd.out
            rw [h, Nat.pow_zero, Nat.mul_one] at h2
            rw [h2]; omega
        have hpl := dig_prod_lenF d 9007199254740992
        go_wp2_with fail
        refine (small_num 9007199254740992 _ wr rfl (by decide)).mono ?_
        rintro e w12 ⟨v2, rfl, hL2, _, b2⟩
        have hLn2 := (unhide hLn).below b2
        have hLd2 := (unhide hLd).below b2
        have hbw2 := hbw.trans (b2.mono hbw.size)
        clear hLn hLd hbw b2
        go_wp2_with fail
        refine (by_any _ _ _ d 9007199254740992 (by omega) (by omega) hLd2 hL2).mono ?_
        rintro e w13 ⟨v3, rfl, hL3, _, b3⟩
        have hLn3 := hLn2.below b3
        have hLd3 := hLd2.below b3
        have hbw3 := hbw2.trans (b3.mono hbw2.size)
        clear hLn2 hLd2 hbw2 b3 hL2
        by_cases hge : d * 9007199254740992 ≤ N
        · have hs := sgn_ge' hge
          go_wp2_with fail
          refine (against_any _ _ _ N (d * 9007199254740992) (by omega) (by omega) hLn3 hL3).mono ?_
          rintro e w14 ⟨rfl, rfl⟩
          generalize sgn N (d * 9007199254740992) = sg at *
          have HC := hide hge
          have hb4 : b + 1 ≤ 300000 := by
            have h1 : 2 ^ b ≤ N := by
              have h2 : 1 * 2 ^ b ≤ den * 2 ^ b := Nat.mul_le_mul_right _ (by omega)
              rw [← hdd.out] at h2
              omega
            have h3 := log_len h1
            omega
          have hdb2 : Hid (d + d ≤ N ∨ b + 1 = 0) := .inl (by omega)
          have hdd2 : Hid (d + d = den * 2 ^ (b + 1)) := by show _ = _; rw [← double_next, ← hdd.out]
          have HCC : Hid (b + 1 = 0 ∨ den * 2 ^ (b + 1 - 1) * 9007199254740992 ≤ N) := .inr (by rw [Nat.add_sub_cancel, ← hdd.out]; exact hge)
          clear hge hL3 hcb hdb hdd HC
          go_wp2_with fail
          refine (plus_any _ _ _ d d (by omega) (by omega) hLd3 hLd3).mono ?_
          rintro e w15 ⟨v5, rfl, hL5, _, b5⟩
          have HD := hide hL5
          have HN := hide (hLn3.below b5)
          have hbw5 := hbw3.trans (b5.mono hbw3.size)
          clear hL5 hLn3 hLd3 hbw3 b5
          go_wp2
          go_roundw
          case rel => exact ⟨b + 1, d + d, by congr 1; omega, hdd2, HD, HN, HCC, hdb2, hb4, by omega, hbw5⟩
          case measure => simp only [intOf]; omega
        · have hlt2 : N < d * 9007199254740992 := by omega
          go_wp2_with fail
          refine (against_any _ _ _ N (d * 9007199254740992) (by omega) (by omega) hLn3 hL3).mono ?_
          rintro e w14 ⟨rfl, rfl⟩
          rw [sgn_lt hlt2]
          have HNB : Hid (∀ r : Nat, r = packed (rnd N d) ((b : Int) - (a : Int)) → Near num den r) := fun r h => HNE.out b r hcb.out (by rw [← hdd.out]; exact hlt2) (by rw [← hdd.out]; exact h)
          have HN := hide hLn3
          have HD := hide hLd3
          have HX := hide hlt2
          clear hcb hdb hL3 hge hlt2 HNE hLn3 hLd3 hpl hdd
          have hNd := hNl
          go_wp2_with fail
          go_loopw [0, 6, 7] (fun vn vq vi wr => ∃ (j q c : Nat), vi = .int .i64 ((j : Int) - 1) ∧ vq = .int .u64 q ∧ j ≤ 54 ∧ Hid (Lies wr vn c) ∧ Hid (Lies wr u1 d) ∧ Hid (c + q * d = N) ∧ Hid (c < d * 2 ^ j) ∧ q < 9007199254740992 ∧ Below w.heap.size w wr) (fun _ _ vi _ => (intOf vi + 1).toNat)
          case atStart => exact ⟨54, 0, N, rfl, rfl, by omega, HN, HD, by show _ = _; rw [Nat.zero_mul, Nat.add_zero], x54 (unhide HX), by omega, hbw3⟩
          case round =>
            clear HN HD hbw3
            obtain ⟨j, q, c, rfl, rfl, hj, hLc, hLd, hsum, hcl, hq, hbw⟩ := hrel
            have hcN : c ≤ N := by have h := hsum.out; omega
            have hcl2 : (dig c).length ≤ 16000 := Nat.le_trans (dig_len_mono hcN) hNd
            cases j with
            | zero =>
              have hc0 : c < d := by have h := hcl.out; rwa [Nat.pow_zero, Nat.mul_one] at h
              have hc2 : (dig (c + c)).length ≤ 32001 := by
                have h := dig_prod_lenF 2 c
                rw [Nat.two_mul] at h
                have h2 : (dig 2).length ≤ 1 := dig_length_le (by decide)
                omega
              clear hcl
              go_wp2_with fail
              refine (plus_any _ _ _ c c (by omega) (by omega) (unhide hLc) (unhide hLc)).mono ?_
              rintro e w21 ⟨v21, rfl, hL21, _, b21⟩
              have hLd21 := (unhide hLd).below b21
              have hbw21 := hbw.trans (b21.mono hbw.size)
              clear hLc hLd hbw b21
              go_wp2_with fail
              refine (against_any _ _ _ (c + c) d (by omega) (by omega) hL21 hLd21).mono ?_
              rintro e w22 ⟨rfl, rfl⟩
              have hsumo := hsum.out
              clear hL21 hLd21
              rcases Nat.lt_trichotomy (c + c) d with hl | he | hg
              · rw [sgn_lt hl]
                have HR : Hid (rnd N d = q) := rnd_down hsumo hc0 (by omega)
                clear hsumo hl hsum
                have hQ : q ≤ 9007199254740992 := by omega
                by_cases k1 : q = 9007199254740992
                · have t1 : (((q : Int)) == (9007199254740992 : Int)) = true := by simp only [beq_iff_eq]; omega
                  have t1n : (q == 9007199254740992) = true := by simp only [beq_iff_eq]; exact k1
                  have K1 := hide k1
                  clear k1
                  by_cases k2 : 971 < (b : Int) - (a : Int) + 1
                  · have HF : Hid (Near num den 9218868437227405312) := HNB.out _ (by rw [HR.out]; unfold packed; rw [if_pos (unhide K1), if_pos k2])
                    go_wp2
                    go_ret
                    exact ⟨9218868437227405312, rfl, unhide HF, by omega, hbw21⟩
                  · have HF : Hid (Near num den (((b : Int) - (a : Int) + 1 + 1074).toNat * 4503599627370496 + 4503599627370496)) := HNB.out _ (by rw [HR.out]; unfold packed; rw [if_pos (unhide K1), if_neg k2])
                    obtain ⟨E, hE⟩ : ∃ E : Nat, (b : Int) - (a : Int) + 1 + 1074 = (E : Int) := ⟨((b : Int) - (a : Int) + 1 + 1074).toNat, by omega⟩
                    have hEl : E ≤ 2045 := by omega
                    rw [hE, Int.toNat_natCast] at HF
                    go_wp2
                    go_ret
                    exact ⟨E * 4503599627370496 + 4503599627370496, by congr 2, unhide HF, by omega, hbw21⟩
                · have t1 : (((q : Int)) == (9007199254740992 : Int)) = false := beq_false_of_ne (by omega)
                  have t1n : (q == 9007199254740992) = false := beq_false_of_ne k1
                  by_cases k2 : 971 < (b : Int) - (a : Int)
                  · have HF : Hid (Near num den 9218868437227405312) := HNB.out _ (by rw [HR.out]; unfold packed; rw [if_neg k1, if_pos k2])
                    go_wp2
                    go_ret
                    exact ⟨9218868437227405312, rfl, unhide HF, by omega, hbw21⟩
                  · by_cases k3 : q < 4503599627370496
                    · have HF : Hid (Near num den (q)) := HNB.out _ (by rw [HR.out]; unfold packed; rw [if_neg k1, if_neg k2, if_pos k3])
                      have z0 : (0 : Int) ≤ (q : Int) := by omega
                      have z1 : ((q : Int) < (4503599627370496 : Int)) := by omega
                      have z2 : (q : Int) ≤ 9007199254740992 := by omega
                      have hr64 : q < 18446744073709551616 := by omega
                      have HR64 := hide hr64
                      clear k1 k3 hQ hr64 hq t1n
                      generalize hz : (q : Int) = Z at *
                      have HZ := hide hz
                      clear hz
                      go_wp2
                      go_ret
                      exact ⟨q, by rw [← unhide HZ]; congr 2, unhide HF, unhide HR64, hbw21⟩
                    · have HF : Hid (Near num den (((b : Int) - (a : Int) + 1074).toNat * 4503599627370496 + (q))) := HNB.out _ (by rw [HR.out]; unfold packed; rw [if_neg k1, if_neg k2, if_neg k3])
                      obtain ⟨E, hE⟩ : ∃ E : Nat, (b : Int) - (a : Int) + 1074 = (E : Int) := ⟨((b : Int) - (a : Int) + 1074).toNat, by omega⟩
                      have hEl : E ≤ 2045 := by omega
                      rw [hE, Int.toNat_natCast] at HF
                      have z0 : (0 : Int) ≤ (q : Int) := by omega
                      have z1 : ¬ ((q : Int) < (4503599627370496 : Int)) := by omega
                      have z2 : (q : Int) ≤ 9007199254740992 := by omega
                      have hr64 : E * 4503599627370496 + (q) < 18446744073709551616 := by omega
                      have HR64 := hide hr64
                      clear k1 k3 hQ hr64 hq t1n
                      generalize hz : (q : Int) = Z at *
                      have HZ := hide hz
                      clear hz
                      go_wp2
                      go_ret
                      exact ⟨E * 4503599627370496 + (q), by rw [← unhide HZ]; congr 2, unhide HF, unhide HR64, hbw21⟩
              · rw [sgn_eq he]
                by_cases ho : q % 2 = 1
                · have HR : Hid (rnd N d = q + 1) := rnd_up hsumo hc0 (.inr ⟨he, ho⟩)
                  have to : (((q : Int) % 2) == 1) = true := by simp only [beq_iff_eq]; omega
                  clear hsumo he hsum ho
                  have hQ : q + 1 ≤ 9007199254740992 := by omega
                  by_cases k1 : q + 1 = 9007199254740992
                  · have t1 : (((q : Int) + 1) == (9007199254740992 : Int)) = true := by simp only [beq_iff_eq]; omega
                    have t1n : (q + 1 == 9007199254740992) = true := by simp only [beq_iff_eq]; exact k1
                    have K1 := hide k1
                    clear k1
                    by_cases k2 : 971 < (b : Int) - (a : Int) + 1
                    · have HF : Hid (Near num den 9218868437227405312) := HNB.out _ (by rw [HR.out]; unfold packed; rw [if_pos (unhide K1), if_pos k2])
                      go_wp2
                      go_ret
                      exact ⟨9218868437227405312, rfl, unhide HF, by omega, hbw21⟩
                    · have HF : Hid (Near num den (((b : Int) - (a : Int) + 1 + 1074).toNat * 4503599627370496 + 4503599627370496)) := HNB.out _ (by rw [HR.out]; unfold packed; rw [if_pos (unhide K1), if_neg k2])
                      obtain ⟨E, hE⟩ : ∃ E : Nat, (b : Int) - (a : Int) + 1 + 1074 = (E : Int) := ⟨((b : Int) - (a : Int) + 1 + 1074).toNat, by omega⟩
                      have hEl : E ≤ 2045 := by omega
                      rw [hE, Int.toNat_natCast] at HF
                      go_wp2
                      go_ret
                      exact ⟨E * 4503599627370496 + 4503599627370496, by congr 2, unhide HF, by omega, hbw21⟩
                  · have t1 : (((q : Int) + 1) == (9007199254740992 : Int)) = false := beq_false_of_ne (by omega)
                    have t1n : (q + 1 == 9007199254740992) = false := beq_false_of_ne k1
                    by_cases k2 : 971 < (b : Int) - (a : Int)
                    · have HF : Hid (Near num den 9218868437227405312) := HNB.out _ (by rw [HR.out]; unfold packed; rw [if_neg k1, if_pos k2])
                      go_wp2
                      go_ret
                      exact ⟨9218868437227405312, rfl, unhide HF, by omega, hbw21⟩
                    · by_cases k3 : q + 1 < 4503599627370496
                      · have HF : Hid (Near num den (q + 1)) := HNB.out _ (by rw [HR.out]; unfold packed; rw [if_neg k1, if_neg k2, if_pos k3])
                        have z0 : (0 : Int) ≤ (q : Int) := by omega
                        have z1 : ((q : Int) + 1 < (4503599627370496 : Int)) := by omega
                        have z2 : (q : Int) ≤ 9007199254740992 := by omega
                        have hr64 : q + 1 < 18446744073709551616 := by omega
                        have HR64 := hide hr64
                        clear k1 k3 hQ hr64 hq t1n
                        generalize hz : (q : Int) = Z at *
                        have HZ := hide hz
                        clear hz
                        go_wp2
                        go_ret
                        exact ⟨q + 1, by rw [← unhide HZ]; congr 2, unhide HF, unhide HR64, hbw21⟩
                      · have HF : Hid (Near num den (((b : Int) - (a : Int) + 1074).toNat * 4503599627370496 + (q + 1))) := HNB.out _ (by rw [HR.out]; unfold packed; rw [if_neg k1, if_neg k2, if_neg k3])
                        obtain ⟨E, hE⟩ : ∃ E : Nat, (b : Int) - (a : Int) + 1074 = (E : Int) := ⟨((b : Int) - (a : Int) + 1074).toNat, by omega⟩
                        have hEl : E ≤ 2045 := by omega
                        rw [hE, Int.toNat_natCast] at HF
                        have z0 : (0 : Int) ≤ (q : Int) := by omega
                        have z1 : ¬ ((q : Int) + 1 < (4503599627370496 : Int)) := by omega
                        have z2 : (q : Int) ≤ 9007199254740992 := by omega
                        have hr64 : E * 4503599627370496 + (q + 1) < 18446744073709551616 := by omega
                        have HR64 := hide hr64
                        clear k1 k3 hQ hr64 hq t1n
                        generalize hz : (q : Int) = Z at *
                        have HZ := hide hz
                        clear hz
                        go_wp2
                        go_ret
                        exact ⟨E * 4503599627370496 + (q + 1), by rw [← unhide HZ]; congr 2, unhide HF, unhide HR64, hbw21⟩
                · have HR : Hid (rnd N d = q) := rnd_down hsumo hc0 (by omega)
                  have to : (((q : Int) % 2) == 1) = false := beq_false_of_ne (by omega)
                  clear hsumo he hsum
                  have hQ : q ≤ 9007199254740992 := by omega
                  by_cases k1 : q = 9007199254740992
                  · have t1 : (((q : Int)) == (9007199254740992 : Int)) = true := by simp only [beq_iff_eq]; omega
                    have t1n : (q == 9007199254740992) = true := by simp only [beq_iff_eq]; exact k1
                    have K1 := hide k1
                    clear k1
                    by_cases k2 : 971 < (b : Int) - (a : Int) + 1
                    · have HF : Hid (Near num den 9218868437227405312) := HNB.out _ (by rw [HR.out]; unfold packed; rw [if_pos (unhide K1), if_pos k2])
                      go_wp2
                      go_ret
                      exact ⟨9218868437227405312, rfl, unhide HF, by omega, hbw21⟩
                    · have HF : Hid (Near num den (((b : Int) - (a : Int) + 1 + 1074).toNat * 4503599627370496 + 4503599627370496)) := HNB.out _ (by rw [HR.out]; unfold packed; rw [if_pos (unhide K1), if_neg k2])
                      obtain ⟨E, hE⟩ : ∃ E : Nat, (b : Int) - (a : Int) + 1 + 1074 = (E : Int) := ⟨((b : Int) - (a : Int) + 1 + 1074).toNat, by omega⟩
                      have hEl : E ≤ 2045 := by omega
                      rw [hE, Int.toNat_natCast] at HF
                      go_wp2
                      go_ret
                      exact ⟨E * 4503599627370496 + 4503599627370496, by congr 2, unhide HF, by omega, hbw21⟩
                  · have t1 : (((q : Int)) == (9007199254740992 : Int)) = false := beq_false_of_ne (by omega)
                    have t1n : (q == 9007199254740992) = false := beq_false_of_ne k1
                    by_cases k2 : 971 < (b : Int) - (a : Int)
                    · have HF : Hid (Near num den 9218868437227405312) := HNB.out _ (by rw [HR.out]; unfold packed; rw [if_neg k1, if_pos k2])
                      go_wp2
                      go_ret
                      exact ⟨9218868437227405312, rfl, unhide HF, by omega, hbw21⟩
                    · by_cases k3 : q < 4503599627370496
                      · have HF : Hid (Near num den (q)) := HNB.out _ (by rw [HR.out]; unfold packed; rw [if_neg k1, if_neg k2, if_pos k3])
                        have z0 : (0 : Int) ≤ (q : Int) := by omega
                        have z1 : ((q : Int) < (4503599627370496 : Int)) := by omega
                        have z2 : (q : Int) ≤ 9007199254740992 := by omega
                        have hr64 : q < 18446744073709551616 := by omega
                        have HR64 := hide hr64
                        clear k1 k3 hQ hr64 hq t1n
                        generalize hz : (q : Int) = Z at *
                        have HZ := hide hz
                        clear hz
                        go_wp2
                        go_ret
                        exact ⟨q, by rw [← unhide HZ]; congr 2, unhide HF, unhide HR64, hbw21⟩
                      · have HF : Hid (Near num den (((b : Int) - (a : Int) + 1074).toNat * 4503599627370496 + (q))) := HNB.out _ (by rw [HR.out]; unfold packed; rw [if_neg k1, if_neg k2, if_neg k3])
                        obtain ⟨E, hE⟩ : ∃ E : Nat, (b : Int) - (a : Int) + 1074 = (E : Int) := ⟨((b : Int) - (a : Int) + 1074).toNat, by omega⟩
                        have hEl : E ≤ 2045 := by omega
                        rw [hE, Int.toNat_natCast] at HF
                        have z0 : (0 : Int) ≤ (q : Int) := by omega
                        have z1 : ¬ ((q : Int) < (4503599627370496 : Int)) := by omega
                        have z2 : (q : Int) ≤ 9007199254740992 := by omega
                        have hr64 : E * 4503599627370496 + (q) < 18446744073709551616 := by omega
                        have HR64 := hide hr64
                        clear k1 k3 hQ hr64 hq t1n
                        generalize hz : (q : Int) = Z at *
                        have HZ := hide hz
                        clear hz
                        go_wp2
                        go_ret
                        exact ⟨E * 4503599627370496 + (q), by rw [← unhide HZ]; congr 2, unhide HF, unhide HR64, hbw21⟩
              · rw [sgn_gt hg]
                have HR : Hid (rnd N d = q + 1) := rnd_up hsumo hc0 (.inl hg)
                clear hsumo hg hsum
                have hQ : q + 1 ≤ 9007199254740992 := by omega
                by_cases k1 : q + 1 = 9007199254740992
                · have t1 : (((q : Int) + 1) == (9007199254740992 : Int)) = true := by simp only [beq_iff_eq]; omega
                  have t1n : (q + 1 == 9007199254740992) = true := by simp only [beq_iff_eq]; exact k1
                  have K1 := hide k1
                  clear k1
                  by_cases k2 : 971 < (b : Int) - (a : Int) + 1
                  · have HF : Hid (Near num den 9218868437227405312) := HNB.out _ (by rw [HR.out]; unfold packed; rw [if_pos (unhide K1), if_pos k2])
                    go_wp2
                    go_ret
                    exact ⟨9218868437227405312, rfl, unhide HF, by omega, hbw21⟩
                  · have HF : Hid (Near num den (((b : Int) - (a : Int) + 1 + 1074).toNat * 4503599627370496 + 4503599627370496)) := HNB.out _ (by rw [HR.out]; unfold packed; rw [if_pos (unhide K1), if_neg k2])
                    obtain ⟨E, hE⟩ : ∃ E : Nat, (b : Int) - (a : Int) + 1 + 1074 = (E : Int) := ⟨((b : Int) - (a : Int) + 1 + 1074).toNat, by omega⟩
                    have hEl : E ≤ 2045 := by omega
                    rw [hE, Int.toNat_natCast] at HF
                    go_wp2
                    go_ret
                    exact ⟨E * 4503599627370496 + 4503599627370496, by congr 2, unhide HF, by omega, hbw21⟩
                · have t1 : (((q : Int) + 1) == (9007199254740992 : Int)) = false := beq_false_of_ne (by omega)
                  have t1n : (q + 1 == 9007199254740992) = false := beq_false_of_ne k1
                  by_cases k2 : 971 < (b : Int) - (a : Int)
                  · have HF : Hid (Near num den 9218868437227405312) := HNB.out _ (by rw [HR.out]; unfold packed; rw [if_neg k1, if_pos k2])
                    go_wp2
                    go_ret
                    exact ⟨9218868437227405312, rfl, unhide HF, by omega, hbw21⟩
                  · by_cases k3 : q + 1 < 4503599627370496
                    · have HF : Hid (Near num den (q + 1)) := HNB.out _ (by rw [HR.out]; unfold packed; rw [if_neg k1, if_neg k2, if_pos k3])
                      have z0 : (0 : Int) ≤ (q : Int) := by omega
                      have z1 : ((q : Int) + 1 < (4503599627370496 : Int)) := by omega
                      have z2 : (q : Int) ≤ 9007199254740992 := by omega
                      have hr64 : q + 1 < 18446744073709551616 := by omega
                      have HR64 := hide hr64
                      clear k1 k3 hQ hr64 hq t1n
                      generalize hz : (q : Int) = Z at *
                      have HZ := hide hz
                      clear hz
                      go_wp2
                      go_ret
                      exact ⟨q + 1, by rw [← unhide HZ]; congr 2, unhide HF, unhide HR64, hbw21⟩
                    · have HF : Hid (Near num den (((b : Int) - (a : Int) + 1074).toNat * 4503599627370496 + (q + 1))) := HNB.out _ (by rw [HR.out]; unfold packed; rw [if_neg k1, if_neg k2, if_neg k3])
                      obtain ⟨E, hE⟩ : ∃ E : Nat, (b : Int) - (a : Int) + 1074 = (E : Int) := ⟨((b : Int) - (a : Int) + 1074).toNat, by omega⟩
                      have hEl : E ≤ 2045 := by omega
                      rw [hE, Int.toNat_natCast] at HF
                      have z0 : (0 : Int) ≤ (q : Int) := by omega
                      have z1 : ¬ ((q : Int) + 1 < (4503599627370496 : Int)) := by omega
                      have z2 : (q : Int) ≤ 9007199254740992 := by omega
                      have hr64 : E * 4503599627370496 + (q + 1) < 18446744073709551616 := by omega
                      have HR64 := hide hr64
                      clear k1 k3 hQ hr64 hq t1n
                      generalize hz : (q : Int) = Z at *
                      have HZ := hide hz
                      clear hz
                      go_wp2
                      go_ret
                      exact ⟨E * 4503599627370496 + (q + 1), by rw [← unhide HZ]; congr 2, unhide HF, unhide HR64, hbw21⟩
            | succ i =>
              have e0 : ((i + 1 : Nat) : Int) - 1 = (i : Int) := by omega
              rw [e0]
              have hP : 2 ^ i ≤ 9007199254740992 := Nat.pow_le_pow_right (n := 2) (by omega) (show i ≤ 53 by omega)
              have hPl := pow_len (b := 2) (e := i) (by decide)
              have hpr := dig_prod_lenF d (2 ^ i)
              have hsh : (2 : Int) ^ i = ((2 ^ i : Nat) : Int) := by simp
              have hcl3 : Hid (c < d * 2 ^ i + d * 2 ^ i) := by show _ < _; rw [double_next]; exact hcl.out
              clear hcl
              generalize hPI : 2 ^ i = P at *
              go_wp2_with fail
              refine (small_num P _ wr rfl (by omega)).mono ?_
              rintro e w31 ⟨v31, rfl, hL31, _, b31⟩
              have hLc1 := (unhide hLc).below b31
              have hLd1 := (unhide hLd).below b31
              have hbw1 := hbw.trans (b31.mono hbw.size)
              clear hLc hLd hbw b31
              go_wp2_with fail
              refine (by_any _ _ _ d P (by omega) (by omega) hLd1 hL31).mono ?_
              rintro e w32 ⟨v32, rfl, hL32, _, b32⟩
              have hLc2 := hLc1.below b32
              have hLd2 := hLd1.below b32
              have hbw2 := hbw1.trans (b32.mono hbw1.size)
              clear hLc1 hLd1 hbw1 b32 hL31
              by_cases hge3 : d * P ≤ c
              · have hs3 := sgn_ge' hge3
                have hsum2 : Hid (c - d * P + (q + P) * d = N) := bit_take hsum.out hge3
                have hq2 : q + P < 9007199254740992 := quo_less hsum2.out (unhide HX) hdp
                have hcl4 : Hid (c - d * P < d * P) := by show _ < _; have h := hcl3.out; omega
                go_wp2_with fail
                refine (against_any _ _ _ c (d * P) (by omega) (by omega) hLc2 hL32).mono ?_
                rintro e w33 ⟨rfl, rfl⟩
                generalize sgn c (d * P) = sg3 at *
                go_wp2_with fail
                refine (minus_any _ _ _ c (d * P) (by omega) hge3 hLc2 hL32).mono ?_
                rintro e w34 ⟨v34, rfl, hL34, _, b34⟩
                have HC := hide hL34
                have HD := hide (hLd2.below b34)
                have hbw4 := hbw2.trans (b34.mono hbw2.size)
                have HPI := hide hPI
                clear hL34 hLc2 hLd2 hbw2 b34 hL32 hge3 hcl3 hsum hPI
                go_wp2
                go_roundw
                case rel => exact ⟨i, q + P, c - d * P, by go_num, by go_num, by omega, HC, HD, hsum2, by show _ < _; rw [unhide HPI]; exact hcl4.out, hq2, hbw4⟩
                case measure => simp only [intOf]; omega
              · have hlt3 : c < d * P := Nat.lt_of_not_le hge3
                go_wp2_with fail
                refine (against_any _ _ _ c (d * P) (by omega) (by omega) hLc2 hL32).mono ?_
                rintro e w33 ⟨rfl, rfl⟩
                rw [sgn_lt hlt3]
                have HC := hide hLc2
                have HD := hide hLd2
                have HL3 := hide hlt3
                have HPI := hide hPI
                clear hLc2 hLd2 hL32 hge3 hcl3 hlt3 hPI
                go_wp2
                go_roundw
                case rel => exact ⟨i, q, c, by go_num, rfl, by omega, HC, HD, hsum, by show _ < _; rw [unhide HPI]; exact unhide HL3, hq, hbw2⟩
                case measure => simp only [intOf]; omega
end Go.Proofs.YtobbbhmkcmbekaaDoor.bigs
/- The walks of the document's answer: NearestOf, scaledUp, isDigit. -/
set_option linter.unusedVariables false
namespace Go.Proofs.YtobbbhmkcmbekaaDoor.bigs
open Go.RowKit

theorem power_ten (u : World) (N : Nat) (hN : N ≤ 50000) : Calls Tryd.prog 61 #[.int .u64 10, .int .i64 N] u fun e w' => ∃ v, e = .returned v ∧ Lies w' v (10 ^ N) ∧ Below u.heap.size u w' := power_any u 10 N (by decide) hN
theorem small_one (u : World) : Calls Tryd.prog 32 #[.int .u64 1] u fun e w' => ∃ v, e = .returned v ∧ Lies w' v 1 ∧ Fresh u.heap.size v ∧ Below u.heap.size u w' := small_any 1 u (by decide)

set_option maxHeartbeats 2000000 in
theorem nearestOf_nil (w : World) (va : Value) (x : Int) (ha : Lies w va 0) :
    Calls Tryd.prog 38 #[va, .int .i64 x] w fun e w' => e = .returned (.int .u64 0) ∧ Below w.heap.size w w' := by
  obtain ⟨aa, ca, rfl, hca, ra⟩ := ha
  rw [dig_zero, List.length_nil]
  clear hca ra
  go_enter Tryd.func38, Tryd.ntmps38
  go_wp2
  go_ret
  exact ⟨rfl, Below.refl _ _⟩

set_option maxHeartbeats 4000000 in
theorem nearestOf_up (w : World) (va : Value) (m N : Nat) (hm : (dig m).length ≤ 4000) (hm0 : m ≠ 0) (hN : N ≤ 1000) (ha : Lies w va m) :
    Calls Tryd.prog 38 #[va, .int .i64 N] w fun e w' => ∃ r : Nat, e = .returned (.int .u64 r) ∧ Near (m * 10 ^ N) 1 r ∧ r < 18446744073709551616 ∧ Below w.heap.size w w' := by
  have hp : 0 < (dig m).length := by
    cases e : dig m with
    | nil => exact absurd (dig_nil.1 e) hm0
    | cons x r => simp
  have ha' := ha
  obtain ⟨aa, ca, rfl, hca, ra⟩ := ha
  have q1 := dig_prod_lenF m (10 ^ N)
  have q2 := pow_len (b := 10) (e := N) (by decide)
  have q3 : (dig 1).length ≤ 1 := dig_length_le (by decide)
  have hne : m * 10 ^ N ≠ 0 := Nat.ne_of_gt (Nat.mul_pos (by omega) (Nat.pow_pos (by omega)))
  have hz : ((((dig m).length : Nat) : Int) == 0) = false := beq_false_of_ne (by omega)
  have hz' : (((dig m).length : Nat) == 0) = false := beq_false_of_ne (by omega)
  have hn0 : ¬ (N : Int) < 0 := by omega
  clear ra hca
  go_enter Tryd.func38, Tryd.ntmps38
  go_wp2_with fail
  refine (power_ten w N (by omega)).mono ?_
  rintro e w1 ⟨v1, rfl, hL1, b1⟩
  go_wp2_with fail
  refine (by_any _ _ _ m (10 ^ N) (by omega) (by omega) (ha'.below b1) hL1).mono ?_
  rintro e w2 ⟨v2, rfl, hL2, _, b2⟩
  go_wp2_with fail
  refine (small_one w2).mono ?_
  rintro e w3 ⟨v3, rfl, hL3, _, b3⟩
  have hL2' := hL2.below b3
  have bw := b1.trans ((b2.trans (b3.mono b2.size)).mono b1.size)
  clear hL1 hL2 b1 b2 b3 ha'
  go_wp2_with fail
  refine (nearest_any _ _ _ (m * 10 ^ N) 1 (by omega) (by omega) hne (by omega) hL2' hL3).mono ?_
  rintro e w4 ⟨r, rfl, hr, hr2, b4⟩
  have HR := hide hr
  have HR2 := hide hr2
  clear hr hr2
  go_wp2
  go_ret
  exact ⟨r, rfl, unhide HR, unhide HR2, bw.trans (b4.mono bw.size)⟩

set_option maxHeartbeats 4000000 in
theorem nearestOf_down (w : World) (va : Value) (m N : Nat) (hm : (dig m).length ≤ 4000) (hm0 : m ≠ 0) (hN : N ≤ 1000) (hN1 : 1 ≤ N) (ha : Lies w va m) :
    Calls Tryd.prog 38 #[va, .int .i64 (-(N : Int))] w fun e w' => ∃ r : Nat, e = .returned (.int .u64 r) ∧ Near m (10 ^ N) r ∧ r < 18446744073709551616 ∧ Below w.heap.size w w' := by
  have hp : 0 < (dig m).length := by
    cases e : dig m with
    | nil => exact absurd (dig_nil.1 e) hm0
    | cons x r => simp
  have ha' := ha
  obtain ⟨aa, ca, rfl, hca, ra⟩ := ha
  have q2 := pow_len (b := 10) (e := N) (by decide)
  have hne : 10 ^ N ≠ 0 := Nat.ne_of_gt (Nat.pow_pos (by omega))
  have hz : ((((dig m).length : Nat) : Int) == 0) = false := beq_false_of_ne (by omega)
  have hz' : (((dig m).length : Nat) == 0) = false := beq_false_of_ne (by omega)
  have hn0 : -(N : Int) < 0 := by omega
  clear ra hca
  go_enter Tryd.func38, Tryd.ntmps38
  go_wp2_with fail
  refine (power_ten w N (by omega)).mono ?_
  rintro e w1 ⟨v1, rfl, hL1, b1⟩
  go_wp2_with fail
  refine (nearest_any _ _ _ m (10 ^ N) (by omega) (by omega) hm0 hne (ha'.below b1) hL1).mono ?_
  rintro e w4 ⟨r, rfl, hr, hr2, b4⟩
  have HR := hide hr
  have HR2 := hide hr2
  clear hr hr2
  go_wp2
  go_ret
  exact ⟨r, rfl, unhide HR, unhide HR2, b1.trans (b4.mono b1.size)⟩

/-- The scale of the document's decimals. -/
def sc : Nat := 1080
theorem power_five (u : World) : Calls Tryd.prog 61 #[.int .u64 5, .int .i64 1080] u fun e w' => ∃ v, e = .returned v ∧ Lies w' v (5 ^ sc) ∧ Below u.heap.size u w' := power_any u 5 sc (by decide) (by decide)
theorem power_two' (u : World) (N : Nat) (hN : N ≤ 50000) : Calls Tryd.prog 61 #[.int .u64 2, .int .i64 N] u fun e w' => ∃ v, e = .returned v ∧ Lies w' v (2 ^ N) ∧ Below u.heap.size u w' := power_any u 2 N (by decide) hN
theorem five_len : (dig (5 ^ sc)).length ≤ 5401 := pow_len (b := 5) (e := sc) (by decide)

set_option maxHeartbeats 4000000 in
theorem scaledUp_any (w : World) (m E : Nat) (e : Int) (hm : m < 18446744073709551616) (hE : e + 1080 = (E : Int)) (hE2 : E ≤ 3000) :
    Calls Tryd.prog 26 #[.int .u64 m, .int .i64 e] w fun r w' => ∃ v, r = .returned v ∧ Lies w' v (m * 5 ^ sc * 2 ^ E) ∧ Below w.heap.size w w' := by
  have q0 : (dig m).length ≤ 5 := dig_length_le (Nat.lt_of_lt_of_le hm (by decide))
  have q1 := five_len
  have q2 := dig_prod_lenF m (5 ^ sc)
  have q3 := pow_len (b := 2) (e := E) (by decide)
  generalize hF : 5 ^ sc = F at *
  have KF : ∀ u : World, Hid _ := fun u => hide (power_five u)
  rw [hF] at KF
  clear hF
  go_enter Tryd.func26, Tryd.ntmps26
  go_wp2_with fail
  refine (small_any m w hm).mono ?_
  rintro e w1 ⟨v1, rfl, hL1, _, b1⟩
  go_wp2_with fail
  refine (unhide (KF w1)).mono ?_
  rintro e w2 ⟨v2, rfl, hL2, b2⟩
  go_wp2_with fail
  refine (by_any _ _ _ m F (by omega) (by omega) (hL1.below b2) hL2).mono ?_
  rintro e w3 ⟨v3, rfl, hL3, _, b3⟩
  have bw := b1.trans ((b2.trans (b3.mono b2.size)).mono b1.size)
  clear hL1 hL2 b1 b2 b3 KF
  go_wp2_with fail
  refine (power_two' w3 E (by omega)).mono ?_
  rintro e w4 ⟨v4, rfl, hL4, b4⟩
  have hL3' := hL3.below b4
  have bw4 := bw.trans (b4.mono bw.size)
  clear hL3 b4 bw
  go_wp2_with fail
  refine (by_any _ _ _ (m * F) (2 ^ E) (by omega) (by omega) hL3' hL4).mono ?_
  rintro e w5 ⟨v5, rfl, hL5, _, b5⟩
  go_wp2
  go_ret
  exact ⟨_, rfl, hL5, bw4.trans (b5.mono bw4.size)⟩
end Go.Proofs.YtobbbhmkcmbekaaDoor.bigs
/- The walks of the document's answer: isDigit, noughts, below, Decimal. -/
set_option linter.unusedVariables false
namespace Go.Proofs.YtobbbhmkcmbekaaDoor.bigs
open Go.RowKit

set_option maxHeartbeats 2000000 in
theorem isDigit_past (w : World) (s : ByteArray) (i : Nat) (hs : s.size ≤ 1000000) (h : s.size ≤ i) (hi : i ≤ 1000000) :
    Calls Tryd.prog 37 #[.string s, .int .i64 i] w fun e w' => e = .returned (.bool false) ∧ w' = w := by
  have t : ¬ (i : Int) < (s.size : Int) := by omega
  go_enter Tryd.func37, Tryd.ntmps37
  go_wp2
  go_ret
  exact ⟨rfl, rfl⟩
set_option maxHeartbeats 2000000 in
theorem isDigit_in (w : World) (s : ByteArray) (i : Nat) (hs : s.size ≤ 1000000) (h : i < s.size) (b : Bool) (hb : Hid (b = true ↔ (48 ≤ (s[i]'h).toNat ∧ (s[i]'h).toNat ≤ 57))) :
    Calls Tryd.prog 37 #[.string s, .int .i64 i] w fun e w' => e = .returned (.bool b) ∧ w' = w := by
  have t : (i : Int) < (s.size : Int) := by omega
  have t0 : (0 : Int) ≤ (i : Int) := by omega
  by_cases h1 : 48 ≤ (s[i]'h).toNat
  · by_cases h2 : (s[i]'h).toNat ≤ 57
    · rw [hb.out.2 ⟨h1, h2⟩]
      have t3 : decide ((((s[i]'h).toNat : Nat) : Int) ≤ 57) = true := decide_eq_true (by omega)
      go_enter Tryd.func37, Tryd.ntmps37
      go_wp2
      go_ret
      exact ⟨rfl, rfl⟩
    · rw [show b = false from Bool.eq_false_iff.2 (fun e => h2 (hb.out.1 e).2)]
      have t3 : decide ((((s[i]'h).toNat : Nat) : Int) ≤ 57) = false := decide_eq_false (by omega)
      go_enter Tryd.func37, Tryd.ntmps37
      go_wp2
      go_ret
      exact ⟨rfl, rfl⟩
  · rw [show b = false from Bool.eq_false_iff.2 (fun e => h1 (hb.out.1 e).1)]
    go_enter Tryd.func37, Tryd.ntmps37
    go_wp2
    go_ret
    exact ⟨rfl, rfl⟩

/-- A text of noughts. -/
def zeros (n : Nat) : ByteArray := ⟨(List.replicate n 48).toArray⟩
theorem zeros_next (n : Nat) : zeros n ++ (⟨#[48]⟩ : ByteArray) = zeros (n + 1) := by
  apply ByteArray.ext
  rw [ByteArray.data_append]
  apply Array.toList_inj.1
  simp [zeros, List.replicate_succ']
theorem zeros_size (n : Nat) : (zeros n).size = n := by
  show (List.replicate n (48 : UInt8)).toArray.size = n
  simp

set_option maxHeartbeats 4000000 in
set_option maxRecDepth 100000 in
theorem noughts_any (w : World) (n : Nat) (hn : n ≤ 100000) :
    Calls Tryd.prog 21 #[.int .i64 n] w fun e w' => e = .returned (.string (zeros n)) ∧ Below w.heap.size w w' := by
  go_enter Tryd.func21, Tryd.ntmps21
  go_wp2
  go_loopw [3, 5] (fun vs vk wr => ∃ (k : Nat) (t : ByteArray), vs = .string t ∧ Hid (t = zeros k) ∧ vk = .int .i64 k ∧ k ≤ n ∧ t.size = k ∧ Below w.heap.size w wr) (fun _ vk _ => n - (intOf vk).toNat)
  case atStart => exact ⟨0, ⟨#[]⟩, rfl, rfl, rfl, Nat.zero_le _, rfl, Below.refl _ _⟩
  case round =>
    obtain ⟨k, t, rfl, ht, rfl, hk, hts, hbw⟩ := hrel
    by_cases hlt : k < n
    · have h2 : Hid (t ++ (⟨#[48]⟩ : ByteArray) = zeros (k + 1)) := by show _ = _; rw [ht.out, zeros_next]
      have hs2 : (t ++ (⟨#[48]⟩ : ByteArray)).size = k + 1 := by rw [h2.out, zeros_size]
      have i1 : (k : Int) < (n : Int) := by omega
      go_wp2
      go_roundw
      case rel => exact ⟨k + 1, t ++ (⟨#[48]⟩ : ByteArray), rfl, h2, by go_num, by omega, hs2, hbw⟩
      case measure => simp only [intOf]; omega
    · have hkn : k = n := by omega
      have HE : Hid (t = zeros n) := by show _ = _; rw [ht.out, hkn]
      have i1 : ¬ (k : Int) < (n : Int) := by omega
      clear hkn ht
      go_wp2
      go_ret
      rw [HE.out]
      exact ⟨rfl, hbw⟩

/-- The text of a number up to 0, by its distance. -/
theorem conv_digit (x : Nat) (w : World) :
    (convert 73 9 (.slice (some ⟨w.heap.size, 0, none⟩) 1 1)).run Tryd.prog (w.alloc (.cells #[.int .u8 (48 + (x : Int) % 10)] 5)) = .ok (.string ⟨#[UInt8.ofNat (48 + x % 10)]⟩) (w.alloc (.cells #[.int .u8 (48 + (x : Int) % 10)] 5)) := conv_one x w
theorem toDec_one {n : Nat} (h0 : n ≠ 0) (h : n < 10) : toDec n = [UInt8.ofNat (48 + n % 10)] := by
  rw [toDec_pos h0, Nat.div_eq_of_lt h, toDec_zero]
  rfl
theorem decs_one {n : Nat} (h : n < 10) : (⟨#[UInt8.ofNat (48 + n % 10)]⟩ : ByteArray) = ⟨(decs n).toArray⟩ := by
  unfold decs
  by_cases h0 : n = 0
  · subst h0; rfl
  · rw [if_neg h0, toDec_one h0 h]
theorem decs_more {n : Nat} (h : 10 ≤ n) : (⟨(decs (n / 10)).toArray⟩ : ByteArray) ++ (⟨#[UInt8.ofNat (48 + n % 10)]⟩ : ByteArray) = ⟨(decs n).toArray⟩ := by
  have h1 : n / 10 ≠ 0 := by omega
  have h2 : n ≠ 0 := by omega
  apply ByteArray.ext
  rw [ByteArray.data_append]
  apply Array.toList_inj.1
  unfold decs
  rw [if_neg h1, if_neg h2, toDec_pos h2]
  simp

theorem toDec_small (n : Nat) : (toDec n).length ≤ n := by
  induction n using Nat.strongRecOn with
  | ind n ih =>
    by_cases h0 : n = 0
    · subst h0; rw [toDec_zero]; simp
    · rw [toDec_pos h0, List.length_append, List.length_singleton]
      have := ih (n / 10) (by omega)
      omega
theorem decs_small {n : Nat} (h : n ≤ 1000000) : (⟨(decs n).toArray⟩ : ByteArray).size ≤ 1000001 := by
  show (decs n).toArray.size ≤ _
  rw [List.size_toArray]
  unfold decs
  by_cases h0 : n = 0
  · rw [if_pos h0]; simp
  · rw [if_neg h0]
    have := toDec_small n
    omega

set_option maxHeartbeats 4000000 in
set_option maxRecDepth 100000 in
theorem below_any (n : Nat) : ∀ (w : World), n ≤ 1000000 →
    Calls Tryd.prog 51 #[.int .i64 (-(n : Int))] w fun e w' => e = .returned (.string ⟨(decs n).toArray⟩) ∧ Below w.heap.size w w' := by
  induction n using Nat.strongRecOn with
  | ind n ih =>
    intro w hn
    have q1 : Int.tmod (-(n : Int)) 10 = -((n % 10 : Nat) : Int) := by rw [Int.neg_tmod, Int.tmod_eq_emod_of_nonneg (by omega)]; simp
    have q2 : Int.tdiv (-(n : Int)) 10 = -((n / 10 : Nat) : Int) := by rw [Int.neg_tdiv]; simp
    have hb : Below w.heap.size w (w.alloc (.cells #[.int .u8 (48 + (n : Int) % 10)] 5)) := (Below.refl _ w).alloc (Nat.le_refl _) _
    have hcv := conv_digit n w
    have q3 : ((n % 10 : Nat) : Int) = (n : Int) % 10 := by omega
    by_cases h10 : n < 10
    · have i1 : (-10 : Int) < -(n : Int) := by omega
      rw [decs_one h10] at hcv
      go_enter Tryd.func51, Tryd.ntmps51
      go_wp2
      go_ret
      exact ⟨rfl, hb⟩
    · have i1 : ¬ (-10 : Int) < -(n : Int) := by omega
      have K := hide (ih (n / 10) (by omega) (w.alloc (.cells #[.int .u8 (48 + (n : Int) % 10)] 5)) (by omega))
      have HE := hide (decs_more (show 10 ≤ n by omega))
      have hl1 := hide (decs_small (show n / 10 ≤ 1000000 by omega))
      clear ih
      have hs2 : (⟨#[UInt8.ofNat (48 + n % 10)]⟩ : ByteArray).size = 1 := rfl
      generalize (⟨#[UInt8.ofNat (48 + n % 10)]⟩ : ByteArray) = t2 at *
      go_enter Tryd.func51, Tryd.ntmps51
      go_wp2_with fail
      refine (unhide K).mono ?_
      rintro e w2 ⟨rfl, b2⟩
      have hl2 : (⟨(decs (n / 10)).toArray⟩ : ByteArray).size ≤ 1000001 := unhide hl1
      generalize (⟨(decs (n / 10)).toArray⟩ : ByteArray) = t1 at *
      go_wp2
      go_ret
      rw [← unhide HE]
      exact ⟨rfl, hb.trans (b2.mono hb.size)⟩

set_option maxHeartbeats 4000000 in
set_option maxRecDepth 100000 in
theorem decimal_up (w : World) (n : Nat) (hn : n ≤ 1000000) :
    Calls Tryd.prog 22 #[.int .i64 n] w fun e w' => e = .returned (.string ⟨(decs n).toArray⟩) ∧ Below w.heap.size w w' := by
  have K := hide (below_any n w hn)
  have i1 : ¬ (n : Int) < 0 := by omega
  go_enter Tryd.func22, Tryd.ntmps22
  go_wp2_with fail
  refine (unhide K).mono ?_
  rintro e w1 ⟨rfl, b1⟩
  go_wp2
  go_ret
  exact ⟨rfl, b1⟩
set_option maxHeartbeats 4000000 in
set_option maxRecDepth 100000 in
theorem decimal_down (w : World) (n : Nat) (hn : n ≤ 1000000) (hn1 : 1 ≤ n) :
    Calls Tryd.prog 22 #[.int .i64 (-(n : Int))] w fun e w' => e = .returned (.string ((⟨#[45]⟩ : ByteArray) ++ ⟨(decs n).toArray⟩)) ∧ Below w.heap.size w w' := by
  have K := hide (below_any n w hn)
  have i1 : -(n : Int) < 0 := by omega
  have hl := decs_small hn
  generalize (⟨(decs n).toArray⟩ : ByteArray) = t at *
  go_enter Tryd.func22, Tryd.ntmps22
  go_wp2_with fail
  refine (unhide K).mono ?_
  rintro e w1 ⟨rfl, b1⟩
  go_wp2
  go_ret
  exact ⟨rfl, b1⟩
end Go.Proofs.YtobbbhmkcmbekaaDoor.bigs
