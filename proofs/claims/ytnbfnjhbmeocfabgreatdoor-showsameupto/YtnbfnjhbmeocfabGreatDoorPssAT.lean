/- Of our texts, what this claim reaches. -/
import Derived.Test.YtnbfnjhbmeocfabGreatDoorPssAS
import Derived.Laws.BytesString
import Derived.Laws.Cells
import Derived.Laws.Concat
import Derived.Lib.Strings
set_option linter.unusedVariables false
namespace Go.Proofs.YtnbfnjhbmeocfabGreatDoor.bigs
open Go.RowKit
def toDecG : Nat → Nat → List UInt8
 | 0, _ => []
 | f + 1, n => if n = 0 then [] else toDecG f (n / 10) ++ [UInt8.ofNat (48 + n % 10)]
theorem toDecG_zero (f : Nat) : toDecG f 0 = [] := by cases f <;> rfl
theorem toDecG_same (n : Nat) : ∀ (f g : Nat), n ≤ f → n ≤ g → toDecG f n = toDecG g n := by
 induction n using Nat.strongRecOn with
 | ind n ih =>
  intro f g hf hg
  by_cases h : n = 0
  ·rw [h, toDecG_zero, toDecG_zero]
  ·obtain ⟨f', rfl⟩ : ∃ f', f = f' + 1 := ⟨f - 1, by omega⟩
   obtain ⟨g', rfl⟩ : ∃ g', g = g' + 1 := ⟨g - 1, by omega⟩
   rw [toDecG, toDecG, if_neg h, if_neg h, ih (n / 10) (by omega) f' g' (by omega) (by omega)]
def toDec (n : Nat) : List UInt8 := toDecG n n
def decs (n : Nat) : List UInt8 := if n = 0 then [48] else toDec n
theorem toDec_zero : toDec 0 = [] := rfl
theorem toDec_pos {n : Nat} (h : n ≠ 0) : toDec n = toDec (n / 10) ++ [UInt8.ofNat (48 + n % 10)] := by
 obtain ⟨m, rfl⟩ : ∃ m, n = m + 1 := ⟨n - 1, by omega⟩
 unfold toDec
 rw [toDecG, if_neg h, toDecG_same ((m + 1) / 10) m ((m + 1) / 10) (by omega) (Nat.le_refl _)]
theorem byte_of (k : Nat) (h : k < 256) : (UInt8.ofNat k).toNat = k := by simp [UInt8.toNat_ofNat']; omega
theorem dig10_append {a b : List UInt8} : Dig10 (a ++ b) ↔ Dig10 a ∧ Dig10 b := by
 constructor
 ·intro h
  exact ⟨fun x hx => h x (List.mem_append_left _ hx), fun x hx => h x (List.mem_append_right _ hx)⟩
 ·rintro ⟨h1, h2⟩ x hx
  rcases List.mem_append.1 hx with h | h
  ·exact h1 x h
  ·exact h2 x h
theorem toDec_dig (n : Nat) : Dig10 (toDec n) := by
 induction n using Nat.strongRecOn with
 | ind n ih =>
  by_cases h : n = 0
  ·subst h; rw [toDec_zero]; intro b hb; cases hb
  ·rw [toDec_pos h, dig10_append]
   refine ⟨ih _ (by omega), ?_⟩
   intro b hb
   rw [List.mem_singleton] at hb
   subst hb
   rw [byte_of _ (by omega)]
   omega
theorem dec_toDec (n : Nat) : dec (toDec n) = n := by
 induction n using Nat.strongRecOn with
 | ind n ih =>
  by_cases h : n = 0
  ·subst h; rw [toDec_zero]; rfl
  ·rw [toDec_pos h, dec_snoc, ih _ (by omega), byte_of _ (by omega)]
   omega
end Go.Proofs.YtnbfnjhbmeocfabGreatDoor.bigs
namespace Go.Proofs.YtnbfnjhbmeocfabGreatDoor.bigs
open Go.RowKit
def rnd (n d : Nat) : Nat := if d < 2 * (n % d) ∨ (2 * (n % d) = d ∧ n / d % 2 = 1) then n / d + 1 else n / d
def packed (q : Nat) (e : Int) : Nat :=
 if q = 9007199254740992 then (if 971 < e + 1 then 9218868437227405312 else (e + 1 + 1074).toNat * 4503599627370496 + 4503599627370496)
 else if 971 < e then 9218868437227405312 else if q < 4503599627370496 then q else (e + 1074).toNat * 4503599627370496 + q
def Near (num den r : Nat) : Prop := ∃ a b : Nat, a ≤ 1074 ∧ (a = 0 ∨ num * 2 ^ (a - 1) < den * 4503599627370496) ∧ (a = 1074 ∨ den * 4503599627370496 ≤ num * 2 ^ a) ∧
 (b = 0 ∨ den * 2 ^ (b - 1) * 9007199254740992 ≤ num * 2 ^ a) ∧ num * 2 ^ a < den * 2 ^ b * 9007199254740992 ∧ r = packed (rnd (num * 2 ^ a) (den * 2 ^ b)) ((b : Int) - (a : Int))
theorem shift_mono (x : Nat) {a b : Nat} (h : a ≤ b) : x * 2 ^ a ≤ x * 2 ^ b := Nat.mul_le_mul_left _ (Nat.pow_le_pow_right (by omega) h)
theorem near_unique {num den r r' : Nat} (h : Near num den r) (h' : Near num den r') : r = r' := by
 obtain ⟨a, b, h1, h2, h3, h4, h5, h6⟩ := h
 obtain ⟨a', b', k1, k2, k3, k4, k5, k6⟩ := h'
 have ea : a = a' := by
  rcases Nat.lt_trichotomy a a' with hlt | he | hgt
  ·have m := shift_mono num (show a ≤ a' - 1 by omega)
   rcases k2 with e | e
   ·omega
   ·rcases h3 with e3 | e3 <;> omega
  ·exact he
  ·have m := shift_mono num (show a' ≤ a - 1 by omega)
   rcases h2 with e | e
   ·omega
   ·rcases k3 with e3 | e3 <;> omega
 subst ea
 have eb : b = b' := by
  rcases Nat.lt_trichotomy b b' with hlt | he | hgt
  ·have m := Nat.mul_le_mul_right 9007199254740992 (shift_mono den (show b ≤ b' - 1 by omega))
   rcases k4 with e | e <;> omega
  ·exact he
  ·have m := Nat.mul_le_mul_right 9007199254740992 (shift_mono den (show b' ≤ b - 1 by omega))
   rcases h4 with e | e <;> omega
 subst eb
 rw [h6, k6]
theorem double_next (x a : Nat) : x * 2 ^ a + x * 2 ^ a = x * 2 ^ (a + 1) := by rw [Nat.pow_succ, ← Nat.mul_assoc]; omega
def fparts (b : Nat) : Nat × Int × Int :=
 if b / 4503599627370496 % 2048 = 2047 then (if b % 4503599627370496 = 0 then (0, 0, 1) else (0, 0, 2))
 else if b / 4503599627370496 % 2048 = 0 then (b % 4503599627370496, -1074, 0) else (b % 4503599627370496 + 4503599627370496, ((b / 4503599627370496 % 2048 : Nat) : Int) - 1075, 0)
end Go.Proofs.YtnbfnjhbmeocfabGreatDoor.bigs
namespace Go.Proofs.YtnbfnjhbmeocfabGreatDoor.bigs
theorem rnd_scale (x y c : Nat) (hc : 0 < c) : rnd (x * c) (y * c) = rnd x y := by
 unfold rnd
 rw [Nat.mul_div_mul_right _ _ hc, Nat.mul_mod_mul_right, ← Nat.mul_assoc]
 have e1 : (y * c < 2 * (x % y) * c) ↔ y < 2 * (x % y) := Nat.mul_lt_mul_right hc
 have e2 : (2 * (x % y) * c = y * c) ↔ 2 * (x % y) = y := ⟨fun h => Nat.eq_of_mul_eq_mul_right hc h, fun h => by rw [h]⟩
 simp only [e1, e2]
theorem near_scale {num den r c : Nat} (hc : 0 < c) (h : Near num den r) : Near (num * c) (den * c) r := by
 obtain ⟨a, b, h1, h2, h3, h4, h5, h6⟩ := h
 have s : ∀ x y z : Nat, x * c * y = x * y * c := fun x y z => by rw [Nat.mul_assoc, Nat.mul_comm c, Nat.mul_assoc]
 refine ⟨a, b, h1, ?_, ?_, ?_, ?_, ?_⟩
 ·rcases h2 with h | h
  ·exact .inl h
  ·right
   rw [s _ _ 0, s _ _ 0]
   exact Nat.mul_lt_mul_of_pos_right h hc
 ·rcases h3 with h | h
  ·exact .inl h
  ·right
   rw [s _ _ 0, s _ _ 0]
   exact Nat.mul_le_mul_right _ h
 ·rcases h4 with h | h
  ·exact .inl h
  ·right
   rw [s _ _ 0, s _ _ 0, s _ _ 0]
   exact Nat.mul_le_mul_right _ h
 ·rw [s _ _ 0, s _ _ 0, s _ _ 0]
  exact Nat.mul_lt_mul_of_pos_right h5 hc
 ·rw [s _ _ 0, s den _ 0, rnd_scale _ _ _ hc]
  exact h6
theorem rnd_le {N d M : Nat} (h : N < d * M) : rnd N d ≤ M := by
 have h1 : N / d < M := Nat.div_lt_of_lt_mul h
 unfold rnd
 split <;> omega
theorem rnd_ge {N d M : Nat} (hd : 0 < d) (h : d * M ≤ N) : M ≤ rnd N d := by
 have h1 : M ≤ N / d := (Nat.le_div_iff_mul_le hd).2 (by rw [Nat.mul_comm]; exact h)
 unfold rnd
 split <;> omega
theorem packed_min {q : Nat} {e : Int} (hq : q ≤ 9007199254740992) (he : -1074 ≤ e) (hn : 4503599627370496 ≤ q ∨ e = -1074) : packed q e = min 9218868437227405312 ((e + 1074).toNat * 4503599627370496 + q) := by
 unfold packed
 obtain ⟨E, hE⟩ : ∃ E : Nat, e + 1074 = (E : Int) := ⟨(e + 1074).toNat, by omega⟩
 have e1 : (e + 1074).toNat = E := by omega
 have e2 : (e + 1 + 1074).toNat = E + 1 := by omega
 rw [e1, e2]
 by_cases h1 : q = 9007199254740992
 ·rw [if_pos h1]
  subst h1
  by_cases h2 : 971 < e + 1
  ·rw [if_pos h2, Nat.min_eq_left (by omega)]
  ·rw [if_neg h2, Nat.min_eq_right (by omega)]
   omega
 ·rw [if_neg h1]
  by_cases h2 : 971 < e
  ·rw [if_pos h2, Nat.min_eq_left (by omega)]
  ·rw [if_neg h2]
   by_cases h3 : q < 4503599627370496
   ·rw [if_pos h3, Nat.min_eq_right (by omega)]
    omega
   ·rw [if_neg h3, Nat.min_eq_right (by omega)]
theorem near_side {num den a b : Nat} (h2 : a = 0 ∨ num * 2 ^ (a - 1) < den * 4503599627370496) (h4 : b = 0 ∨ den * 2 ^ (b - 1) * 9007199254740992 ≤ num * 2 ^ a) : a = 0 ∨ b = 0 := by
 rcases h2 with h | h
 ·exact .inl h
 ·rcases h4 with k | k
  ·exact .inr k
  ·by_cases ha : a = 0
   ·exact .inl ha
   ·exfalso
    have e := double_next num (a - 1)
    rw [show a - 1 + 1 = a by omega] at e
    have hY : den * 1 ≤ den * 2 ^ (b - 1) := Nat.mul_le_mul_left _ (Nat.pow_pos (by omega))
    rw [← e] at k
    generalize num * 2 ^ (a - 1) = X at *
    generalize den * 2 ^ (b - 1) = Y at *
    omega
theorem near_norm {num den a b : Nat} (h3 : a = 1074 ∨ den * 4503599627370496 ≤ num * 2 ^ a) (h4 : b = 0 ∨ den * 2 ^ (b - 1) * 9007199254740992 ≤ num * 2 ^ a) (hs : a = 0 ∨ b = 0) :
  den * 2 ^ b * 4503599627370496 ≤ num * 2 ^ a ∨ (b : Int) - (a : Int) = -1074 := by
 by_cases hb : b = 0
 ·rcases h3 with h | h
  ·right; omega
  ·left; rw [hb, Nat.pow_zero, Nat.mul_one]; exact h
 ·left
  rcases h4 with k | k
  ·exact absurd k hb
  ·have e := double_next den (b - 1)
   rw [show b - 1 + 1 = b by omega] at e
   rw [← e]
   have e2 : ∀ Y : Nat, (Y + Y) * 4503599627370496 = Y * 9007199254740992 := fun Y => by omega
   rw [e2]
   exact k
theorem exp_ge {a b : Nat} (h : a ≤ 1074) : -1074 ≤ (b : Int) - (a : Int) := by omega
end Go.Proofs.YtnbfnjhbmeocfabGreatDoor.bigs
namespace Go.Proofs.YtnbfnjhbmeocfabGreatDoor.bigs
theorem pow_split (x : Nat) {a b c : Nat} (h : a = b + c) : x * 2 ^ a = x * 2 ^ b * 2 ^ c := by rw [h, Nat.pow_add, Nat.mul_assoc]
def c74 : Nat := 1074
def T74 : Nat := 2 ^ c74
def T76 : Nat := 4 * T74
theorem T74_split (x : Nat) {b c : Nat} (h : 1074 = b + c) : x * T74 = x * 2 ^ b * 2 ^ c := by
 have e : c74 = b + c := h
 unfold T74
 rw [e, Nat.pow_add, Nat.mul_assoc]
def NearE (num den E r : Nat) : Prop := num * T74 < den * 2 ^ E * 9007199254740992 ∧ (E = 0 ∨ den * 2 ^ E * 4503599627370496 ≤ num * T74) ∧
 r = min 9218868437227405312 (E * 4503599627370496 + rnd (num * T74) (den * 2 ^ E))
theorem nearE_of {num den r : Nat} (hd : 0 < den) (h : Near num den r) : ∃ E, NearE num den E r := by
 obtain ⟨a, b, h1, h2, h3, h4, h5, h6⟩ := h
 have s := near_side h2 h4
 have n := near_norm h3 h4 s
 have hdb : 0 < den * 2 ^ b := Nat.mul_pos hd (Nat.pow_pos (by omega))
 have q := rnd_le h5
 have g : 4503599627370496 ≤ rnd (num * 2 ^ a) (den * 2 ^ b) ∨ (b : Int) - (a : Int) = -1074 := by
  rcases n with e | e
  ·exact .inl (rnd_ge hdb e)
  ·exact .inr e
 rw [packed_min q (exp_ge h1) g] at h6
 have eE : ((b : Int) - (a : Int) + 1074).toNat = b + 1074 - a := by omega
 rw [eE] at h6
 clear eE
 obtain ⟨T, hT, e1, e2⟩ : ∃ T, 0 < T ∧ num * T74 = num * 2 ^ a * T ∧ den * 2 ^ (b + 1074 - a) = den * 2 ^ b * T := by
  refine ⟨2 ^ (1074 - a), Nat.pow_pos (by decide), T74_split _ (by omega), pow_split _ (by omega)⟩
 refine ⟨b + 1074 - a, ?_, ?_, ?_⟩
 ·rw [e1, e2, Nat.mul_assoc (den * 2 ^ b), Nat.mul_comm T, ← Nat.mul_assoc]
  exact Nat.mul_lt_mul_of_pos_right h5 hT
 ·rcases n with e | e
  ·right
   rw [e1, e2, Nat.mul_assoc (den * 2 ^ b), Nat.mul_comm T, ← Nat.mul_assoc]
   exact Nat.mul_le_mul_right _ e
  ·left
   omega
 ·rw [e1, e2, rnd_scale _ _ _ hT]
  exact h6
theorem shift_back (E : Nat) : (((E - 1074 : Nat) : Int) - ((1074 - E : Nat) : Int) + 1074).toNat = E := by omega
theorem shift_le (E : Nat) : 1074 - E ≤ 1074 := by omega
theorem near_ofE {num den E r : Nat} (hd : 0 < den) (h : NearE num den E r) : Near num den r := by
 obtain ⟨h1, h2, h3⟩ := h
 obtain ⟨T, hT, e1, e2⟩ : ∃ T, 0 < T ∧ num * T74 = num * 2 ^ (1074 - E) * T ∧ den * 2 ^ E = den * 2 ^ (E - 1074) * T := by
  refine ⟨2 ^ (1074 - (1074 - E)), Nat.pow_pos (by decide), T74_split _ (by omega), pow_split _ (by omega)⟩
 have hdb : 0 < den * 2 ^ (E - 1074) := Nat.mul_pos hd (Nat.pow_pos (by omega))
 have k1 : num * 2 ^ (1074 - E) < den * 2 ^ (E - 1074) * 9007199254740992 := by
  rw [e1, e2, Nat.mul_assoc (den * 2 ^ (E - 1074)), Nat.mul_comm T, ← Nat.mul_assoc] at h1
  exact Nat.lt_of_mul_lt_mul_right h1
 have k2 : E = 0 ∨ den * 2 ^ (E - 1074) * 4503599627370496 ≤ num * 2 ^ (1074 - E) := by
  rcases h2 with h | h
  ·exact .inl h
  ·right
   rw [e1, e2, Nat.mul_assoc (den * 2 ^ (E - 1074)), Nat.mul_comm T, ← Nat.mul_assoc] at h
   exact Nat.le_of_mul_le_mul_right h hT
 have q := rnd_le k1
 rw [e1, e2, rnd_scale _ _ _ hT] at h3
 clear e1 e2 h1 h2
 refine ⟨1074 - E, E - 1074, by omega, ?_, ?_, ?_, k1, ?_⟩
 ·by_cases c : 1074 - E = 0
  ·exact .inl c
  ·right
   rw [show E - 1074 = 0 by omega, Nat.pow_zero, Nat.mul_one] at k1
   have e := double_next num (1074 - E - 1)
   rw [show 1074 - E - 1 + 1 = 1074 - E by omega] at e
   rw [← e] at k1
   clear e k2 h3 q hdb
   generalize num * 2 ^ (1074 - E - 1) = X at *
   omega
 ·rcases k2 with h | h
  ·left; omega
  ·right
   refine Nat.le_trans (Nat.mul_le_mul_right _ ?_) h
   exact Nat.le_mul_of_pos_right _ (Nat.pow_pos (by omega))
 ·by_cases c : E - 1074 = 0
  ·exact .inl c
  ·right
   rcases k2 with h | h
   ·omega
   ·have e := double_next den (E - 1074 - 1)
    rw [show E - 1074 - 1 + 1 = E - 1074 by omega] at e
    rw [← e] at h
    refine Nat.le_trans ?_ h
    clear e h k1 h3 q hdb
    generalize den * 2 ^ (E - 1074 - 1) = X at *
    omega
 ·have eE : (((E - 1074 : Nat) : Int) - ((1074 - E : Nat) : Int) + 1074).toNat = E := shift_back E
  have g : 4503599627370496 ≤ rnd (num * 2 ^ (1074 - E)) (den * 2 ^ (E - 1074)) ∨ ((E - 1074 : Nat) : Int) - ((1074 - E : Nat) : Int) = -1074 := by
   rcases k2 with h | h
   ·subst h
    exact .inr rfl
   ·exact .inl (rnd_ge hdb h)
  rw [packed_min q (exp_ge (shift_le E)) g, eE]
  exact h3
theorem nearE_exists (num den : Nat) (hd : 0 < den) : ∃ E r, NearE num den E r := by
 have h : ∀ E, num * T74 < den * 2 ^ E * 9007199254740992 → ∃ E r, NearE num den E r := by
  intro E
  induction E with
  | zero => intro h; exact ⟨0, _, h, .inl rfl, rfl⟩
  | succ E ih =>
   intro h
   by_cases c : num * T74 < den * 2 ^ E * 9007199254740992
   ·exact ih c
   ·refine ⟨E + 1, _, h, .inr ?_, rfl⟩
    rw [← double_next]
    generalize den * 2 ^ E = X at *
    generalize num * T74 = Y at *
    clear h ih
    omega
 refine h (num * T74) ?_
 have h1 : num * T74 < 2 ^ (num * T74) := Nat.lt_two_pow_self
 generalize num * T74 = Y at *
 refine Nat.lt_of_lt_of_le h1 ?_
 rw [Nat.mul_comm den, Nat.mul_assoc]
 exact Nat.le_mul_of_pos_right _ (Nat.mul_pos hd (by omega))
theorem near_exists (num den : Nat) (hd : 0 < den) : ∃ r, Near num den r := by
 obtain ⟨E, r, h⟩ := nearE_exists num den hd
 exact ⟨r, near_ofE hd h⟩
def mant (r : Nat) : Nat := if r < 4503599627370496 then r else r % 4503599627370496 + 4503599627370496
def step (r : Nat) : Nat := 2 ^ (r / 4503599627370496 - 1)
def fval (r : Nat) : Nat := 4 * mant r * step r
def mid (r : Nat) : Nat := (4 * mant r + 2) * step r
theorem step_pos (r : Nat) : 0 < step r := Nat.pow_pos (by omega)
theorem fval_succ (r : Nat) : fval (r + 1) = fval r + 4 * step r := by
 unfold fval mant step
 by_cases c : (r + 1) % 4503599627370496 = 0
 ·by_cases c1 : r < 4503599627370496
  ·have e : r = 4503599627370495 := by omega
   subst e
   rfl
  ·rw [if_neg (by omega), if_neg c1, c, show (r + 1) / 4503599627370496 - 1 = (r / 4503599627370496 - 1) + 1 by omega, Nat.pow_succ, show r % 4503599627370496 = 4503599627370495 by omega]
   generalize 2 ^ (r / 4503599627370496 - 1) = S
   omega
 ·rw [show (r + 1) / 4503599627370496 = r / 4503599627370496 by omega]
  generalize 2 ^ (r / 4503599627370496 - 1) = S
  have e : ∀ x : Nat, 4 * (x + 1) * S = 4 * x * S + 4 * S := fun x => by rw [Nat.mul_add, Nat.add_mul]
  by_cases c1 : r + 1 < 4503599627370496
  ·rw [if_pos c1, if_pos (by omega), e]
  ·rw [if_neg c1, if_neg (by omega), ← e]
   congr 2
   omega
theorem mid_eq (r : Nat) : mid r = fval r + 2 * step r := by
 unfold mid fval
 rw [Nat.add_mul]
theorem fval_mono {r s : Nat} (h : r ≤ s) : fval r ≤ fval s := by
 induction h with
 | refl => exact Nat.le_refl _
 | step _ ih => rw [fval_succ]; omega
theorem fval_lt {r s : Nat} (h : r < s) : fval r < fval s := by
 have h1 := fval_mono (show r + 1 ≤ s by omega)
 have h2 := fval_succ r
 have h3 := step_pos r
 omega
theorem mid_mono {r s : Nat} (h : r ≤ s) : mid r ≤ mid s := by
 by_cases c : r = s
 ·rw [c]; exact Nat.le_refl _
 ·have h1 := fval_mono (show r + 1 ≤ s by omega)
  have h2 := fval_succ r
  rw [mid_eq, mid_eq]
  omega
theorem mid_lt {r s : Nat} (h : r < s) : mid r < mid s := by
 have h1 := fval_mono (show r + 1 ≤ s by omega)
 have h2 := fval_succ r
 have h3 := step_pos r
 have h4 := step_pos s
 rw [mid_eq, mid_eq]
 omega
def Over (num den r : Nat) : Prop := r = 0 ∨ mid (r - 1) * den < num * T76 ∨ (mid (r - 1) * den = num * T76 ∧ r % 2 = 0)
def Under (num den r : Nat) : Prop := num * T76 < mid r * den ∨ (num * T76 = mid r * den ∧ r % 2 = 0)
theorem rnd_span (n d : Nat) (hd : 0 < d) : (2 * n < (2 * rnd n d + 1) * d ∨ (2 * n = (2 * rnd n d + 1) * d ∧ rnd n d % 2 = 0)) ∧
  ((2 * rnd n d) * d < 2 * n + d ∨ ((2 * rnd n d) * d = 2 * n + d ∧ rnd n d % 2 = 0)) := by
 have e1 := Nat.div_add_mod n d
 have l1 := Nat.mod_lt n hd
 unfold rnd
 generalize n / d = Q at *
 generalize n % d = c at *
 split
 ·rename_i h
  have x1 : (2 * (Q + 1) + 1) * d = 2 * (d * Q) + 3 * d := by rw [Nat.add_mul, Nat.mul_assoc, Nat.add_mul, Nat.mul_comm Q]; omega
  have x2 : 2 * (Q + 1) * d = 2 * (d * Q) + 2 * d := by rw [Nat.mul_assoc, Nat.add_mul, Nat.mul_comm Q]; omega
  rw [x1, x2]
  generalize d * Q = Z at *
  omega
 ·rename_i h
  have x1 : (2 * Q + 1) * d = 2 * (d * Q) + d := by rw [Nat.add_mul, Nat.mul_assoc, Nat.mul_comm Q]; omega
  have x2 : 2 * Q * d = 2 * (d * Q) := by rw [Nat.mul_assoc, Nat.mul_comm Q]
  rw [x1, x2]
  generalize d * Q = Z at *
  omega
theorem mant_of {E q : Nat} (h1 : q < 9007199254740992) (h2 : E = 0 ∨ 4503599627370496 ≤ q) : mant (E * 4503599627370496 + q) = q ∧ step (E * 4503599627370496 + q) = 2 ^ E := by
 unfold mant step
 by_cases c : q < 4503599627370496
 ·have e : E = 0 := by omega
  subst e
  rw [if_pos (by omega)]
  refine ⟨by omega, ?_⟩
  congr 1
  omega
 ·rw [if_neg (by omega)]
  refine ⟨by omega, ?_⟩
  congr 1
  omega
theorem mid_of {E q : Nat} (h1 : q < 9007199254740992) (h2 : E = 0 ∨ 4503599627370496 ≤ q) : mid (E * 4503599627370496 + q) = (4 * q + 2) * 2 ^ E := by
 obtain ⟨e1, e2⟩ := mant_of h1 h2
 unfold mid
 rw [e1, e2]
theorem four_X (n : Nat) : n * T76 = 4 * (n * T74) := by
 unfold T76
 generalize T74 = T
 rw [Nat.mul_left_comm]
theorem par_of (E q : Nat) : (E * 4503599627370496 + q) % 2 = q % 2 := by omega
theorem spanOver_pow {D X : Nat} (hD : 0 < D + D) (h : (D + D) * 4503599627370496 ≤ X) : (4 * 9007199254740991 + 2) * D < 4 * X := by omega
theorem spanOver_any {q X Y Z D : Nat} (e : Y + 2 * D = 2 * Z) (s : Z < 2 * X + D ∨ (Z = 2 * X + D ∧ q % 2 = 0)) : Y < 4 * X ∨ (Y = 4 * X ∧ q % 2 = 0) := by omega
theorem spanUnder_pow {D X : Nat} (hD : 0 < D) (h : X < D * 9007199254740992) : 4 * X < (4 * 4503599627370496 + 2) * (D + D) := by omega
theorem spanUnder_any {q X Y : Nat} (s : 2 * X < Y ∨ (2 * X = Y ∧ q % 2 = 0)) : 4 * X < 2 * Y ∨ (4 * X = 2 * Y ∧ q % 2 = 0) := by omega
theorem times_pow (c E den : Nat) : c * 2 ^ E * den = c * (den * 2 ^ E) := by rw [Nat.mul_assoc, Nat.mul_comm (2 ^ E)]
theorem span_over {X den E q : Nat} (hD : 0 < den * 2 ^ E) (q1 : q ≤ 9007199254740992) (q2 : E = 0 ∨ 4503599627370496 ≤ q) (h2 : E = 0 ∨ den * 2 ^ E * 4503599627370496 ≤ X)
  (s2 : (2 * q) * (den * 2 ^ E) < 2 * X + den * 2 ^ E ∨ ((2 * q) * (den * 2 ^ E) = 2 * X + den * 2 ^ E ∧ q % 2 = 0)) (z : E * 4503599627370496 + q ≠ 0) :
  mid (E * 4503599627370496 + q - 1) * den < 4 * X ∨ (mid (E * 4503599627370496 + q - 1) * den = 4 * X ∧ q % 2 = 0) := by
 by_cases c : E ≠ 0 ∧ q = 4503599627370496
 ·obtain ⟨c1, c2⟩ := c
  subst c2
  obtain ⟨E', rfl⟩ : ∃ E', E = E' + 1 := ⟨E - 1, (Nat.succ_pred c1).symm⟩
  have e0 : (E' + 1) * 4503599627370496 + 4503599627370496 - 1 = E' * 4503599627370496 + 9007199254740991 := by clear hD q1 q2 h2 s2 z c1; omega
  rw [e0, mid_of (by decide) (.inr (by decide)), times_pow]
  left
  rcases h2 with h | h
  ·exact absurd h c1
  ·rw [← double_next] at h hD
   exact spanOver_pow hD h
 ·clear h2
  have c3 : 1 ≤ q := by clear s2 hD; omega
  have e0 : E * 4503599627370496 + q - 1 = E * 4503599627370496 + (q - 1) := by clear hD q1 q2 s2 z c; omega
  have c4 : E = 0 ∨ 4503599627370496 ≤ q - 1 := by clear hD s2 z e0; omega
  have c5 : q - 1 < 9007199254740992 := by clear hD s2 z e0 c4 q2 c; omega
  rw [e0, mid_of c5 c4, times_pow]
  have e : (4 * (q - 1) + 2) * (den * 2 ^ E) + 2 * (den * 2 ^ E) = 2 * (2 * q * (den * 2 ^ E)) := by
   have e1 : 4 * (q - 1) + 2 + 2 = 2 * (2 * q) := by clear s2 hD c4 c5 e0 z c q2; omega
   rw [← Nat.add_mul, e1, Nat.mul_assoc]
  exact spanOver_any e s2
theorem span_under {X den E q : Nat} (hD : 0 < den * 2 ^ E) (q1 : q ≤ 9007199254740992) (q2 : E = 0 ∨ 4503599627370496 ≤ q) (h1 : X < den * 2 ^ E * 9007199254740992)
  (s1 : 2 * X < (2 * q + 1) * (den * 2 ^ E) ∨ (2 * X = (2 * q + 1) * (den * 2 ^ E) ∧ q % 2 = 0)) :
  4 * X < mid (E * 4503599627370496 + q) * den ∨ (4 * X = mid (E * 4503599627370496 + q) * den ∧ q % 2 = 0) := by
 by_cases c : q = 9007199254740992
 ·subst c
  have e0 : E * 4503599627370496 + 9007199254740992 = (E + 1) * 4503599627370496 + 4503599627370496 := by clear hD q1 q2 h1 s1; omega
  rw [e0, mid_of (by decide) (.inr (Nat.le_refl _)), times_pow, ← double_next]
  left
  exact spanUnder_pow hD h1
 ·have c5 : q < 9007199254740992 := Nat.lt_of_le_of_ne q1 c
  rw [mid_of c5 q2, times_pow]
  have e : (4 * q + 2) * (den * 2 ^ E) = 2 * ((2 * q + 1) * (den * 2 ^ E)) := by
   have e1 : 4 * q + 2 = 2 * (2 * q + 1) := by clear hD q1 q2 h1 s1 c c5; omega
   rw [e1, Nat.mul_assoc]
  rw [e]
  exact spanUnder_any s1
theorem span_of {num den E : Nat} (hd : 0 < den) (h1 : num * T74 < den * 2 ^ E * 9007199254740992) (h2 : E = 0 ∨ den * 2 ^ E * 4503599627370496 ≤ num * T74) :
  Over num den (E * 4503599627370496 + rnd (num * T74) (den * 2 ^ E)) ∧ Under num den (E * 4503599627370496 + rnd (num * T74) (den * 2 ^ E)) := by
 have hD : 0 < den * 2 ^ E := Nat.mul_pos hd (Nat.pow_pos (by decide))
 have q1 := rnd_le h1
 have q2 : E = 0 ∨ 4503599627370496 ≤ rnd (num * T74) (den * 2 ^ E) := by
  rcases h2 with h | h
  ·exact .inl h
  ·exact .inr (rnd_ge hD h)
 obtain ⟨s1, s2⟩ := rnd_span (num * T74) (den * 2 ^ E) hD
 unfold Over Under
 rw [four_X]
 generalize num * T74 = X at *
 generalize rnd X (den * 2 ^ E) = q at *
 rw [par_of]
 constructor
 ·by_cases z : E * 4503599627370496 + q = 0
  ·exact .inl z
  ·exact .inr (span_over hD q1 q2 h2 s2 z)
 ·exact span_under hD q1 q2 h1 s1
theorem near_span {num den r : Nat} (hd : 0 < den) (h : Near num den r) : r ≤ 9218868437227405312 ∧ Over num den r ∧ (r < 9218868437227405312 → Under num den r) := by
 obtain ⟨E, h1, h2, h3⟩ := nearE_of hd h
 obtain ⟨s1, s2⟩ := span_of hd h1 h2
 generalize E * 4503599627370496 + rnd (num * T74) (den * 2 ^ E) = R at *
 refine ⟨by omega, ?_, ?_⟩
 ·by_cases c : R ≤ 9218868437227405312
  ·rw [h3, Nat.min_eq_right c]
   exact s1
  ·have e : r = 9218868437227405312 := by omega
   rw [e]
   right
   have m := Nat.mul_le_mul_right den (mid_mono (show 9218868437227405312 - 1 ≤ R - 1 by omega))
   have m2 : mid (R - 1) * den ≤ num * T76 := by
    rcases s1 with s | s | s
    ·omega
    ·omega
    ·omega
   generalize num * T76 = X at *
   generalize mid (9218868437227405312 - 1) * den = Y at *
   generalize mid (R - 1) * den = Z at *
   omega
 ·intro hr
  rw [h3, Nat.min_eq_right (by omega)]
  exact s2
theorem over_under {num den r s : Nat} (hd : 0 < den) (hu : Under num den r) (ho : Over num den s) : s ≤ r := by
 by_cases c : s ≤ r
 ·exact c
 ·exfalso
  have m := Nat.mul_le_mul_right den (mid_mono (show r ≤ s - 1 by omega))
  unfold Over Under at *
  by_cases c2 : s = r + 1
  ·subst c2
   rw [show r + 1 - 1 = r by omega] at ho
   generalize num * T76 = X at *
   generalize mid r * den = Y at *
   omega
  ·have m2 := Nat.mul_lt_mul_of_pos_right (mid_lt (show r < s - 1 by omega)) hd
   generalize num * T76 = X at *
   generalize mid r * den = Y at *
   generalize mid (s - 1) * den = Z at *
   omega
theorem near_of_span {num den r : Nat} (hd : 0 < den) (hr : r < 9218868437227405312) (ho : Over num den r) (hu : Under num den r) : Near num den r := by
 obtain ⟨s, h⟩ := near_exists num den hd
 obtain ⟨h1, h2, h3⟩ := near_span hd h
 have l1 := over_under hd hu h2
 have l2 := over_under hd (h3 (by omega)) ho
 have e : s = r := by omega
 rw [← e]
 exact h
end Go.Proofs.YtnbfnjhbmeocfabGreatDoor.bigs
namespace Go.Proofs.YtnbfnjhbmeocfabGreatDoor.bigs
def c80 : Nat := 1080
def wF : Nat := 16 * 5 ^ c80
def T10 : Nat := 10 ^ c80
theorem pow_ten (n : Nat) : (10 : Nat) ^ n = 2 ^ n * 5 ^ n := Nat.mul_pow 2 5 n
theorem two80 : 2 ^ c80 = T76 * 16 := by
 have e : c80 = c74 + 6 := rfl
 rw [e, Nat.pow_add]
 unfold T76 T74
 generalize 2 ^ c74 = T
 omega
theorem wF_eq : T76 * wF = T10 := by
 unfold wF T10
 rw [pow_ten, two80, Nat.mul_assoc]
theorem wF_pos : 0 < wF := Nat.mul_pos (by decide) (Nat.pow_pos (by decide))
theorem T10_split (x : Nat) {b c : Nat} (h : 1080 = b + c) : x * T10 = x * 10 ^ b * 10 ^ c := by
 have e : c80 = b + c := h
 unfold T10
 rw [e, Nat.pow_add, Nat.mul_assoc]
def fX (r : Nat) : Nat := fval r * wF
def fH (r : Nat) : Nat := mid r * wF
def fL (r : Nat) : Nat := mid (r - 1) * wF
def Okay (r x : Nat) : Prop := (fL r < x ∧ x < fH r) ∨ (r % 2 = 0 ∧ fL r ≤ x ∧ x ≤ fH r)
theorem scale_lt {m num den x : Nat} (hd : 0 < den) (hx : num * T10 = x * den) : (m * den < num * T76 ↔ m * wF < x) ∧ (m * den = num * T76 ↔ m * wF = x) ∧ (num * T76 < m * den ↔ x < m * wF) := by
 rw [← wF_eq, ← Nat.mul_assoc] at hx
 have e : ∀ y, y * den * wF = y * wF * den := fun y => by rw [Nat.mul_assoc, Nat.mul_comm den, Nat.mul_assoc]
 have hw := wF_pos
 generalize num * T76 = N at *
 have l1 : m * den < N ↔ m * wF < x := by
  rw [← Nat.mul_lt_mul_right hw, hx, e]
  exact Nat.mul_lt_mul_right hd
 have l2 : N < m * den ↔ x < m * wF := by
  rw [← Nat.mul_lt_mul_right hw, hx, e]
  exact Nat.mul_lt_mul_right hd
 exact ⟨l1, by omega, l2⟩
theorem near_okay {num den r x : Nat} (hd : 0 < den) (h0 : 0 < r) (hr : r < 9218868437227405312) (hx : num * T10 = x * den) : Near num den r ↔ Okay r x := by
 obtain ⟨a1, a2, a3⟩ := scale_lt (m := mid (r - 1)) hd hx
 obtain ⟨b1, b2, b3⟩ := scale_lt (m := mid r) hd hx
 have key : Over num den r ∧ Under num den r ↔ Okay r x := by
  unfold Over Under Okay fL fH
  rw [a1, a2, b3, eq_comm (a := num * T76), b2]
  generalize mid (r - 1) * wF = A
  generalize mid r * wF = B
  omega
 constructor
 ·intro h
  obtain ⟨_, h2, h3⟩ := near_span hd h
  exact key.1 ⟨h2, h3 hr⟩
 ·intro h
  obtain ⟨h2, h3⟩ := key.2 h
  exact near_of_span hd hr h2 h3
theorem below_of (r : Nat) (h : 0 < r) : fL r < fX r ∧ fX r < fH r := by
 unfold fL fX fH
 have h1 := fval_succ (r - 1)
 rw [show r - 1 + 1 = r by omega] at h1
 have h2 := mid_eq (r - 1)
 have h3 := mid_eq r
 have h4 := step_pos r
 have h5 := step_pos (r - 1)
 exact ⟨Nat.mul_lt_mul_of_pos_right (by omega) wF_pos, Nat.mul_lt_mul_of_pos_right (by omega) wF_pos⟩
theorem okay_self (r : Nat) (h : 0 < r) : Okay r (fX r) := .inl (below_of r h)
def lowOf (X j : Nat) : Nat := X / 10 ^ j * 10 ^ j
def upOf (X j : Nat) : Nat := if lowOf X j = X then lowOf X j else lowOf X j + 10 ^ j
def Upper (X j : Nat) : Prop := upOf X j - X < X - lowOf X j ∨ (upOf X j - X = X - lowOf X j ∧ X / 10 ^ j % 2 = 1)
def Good (r j : Nat) : Prop := Okay r (lowOf (fX r) j) ∨ Okay r (upOf (fX r) j)
def Pick (r j p : Nat) : Prop :=
 (¬ Okay r (lowOf (fX r) j) ∧ Okay r (upOf (fX r) j) ∧ p = upOf (fX r) j) ∨
 (Okay r (lowOf (fX r) j) ∧ ¬ Okay r (upOf (fX r) j) ∧ p = lowOf (fX r) j) ∨
 (Okay r (lowOf (fX r) j) ∧ Okay r (upOf (fX r) j) ∧ ((Upper (fX r) j ∧ p = upOf (fX r) j) ∨ (¬ Upper (fX r) j ∧ p = lowOf (fX r) j)))
def Best (r j p : Nat) : Prop := 10 ^ j ≤ fX r ∧ Pick r j p ∧ ∀ i, j < i → 10 ^ i ≤ fX r → ¬ Good r i
theorem pick_good {r j p : Nat} (h : Pick r j p) : Good r j := by unfold Pick Good at *; rcases h with h | h | h <;> simp_all
theorem pick_okay {r j p : Nat} (h : Pick r j p) : Okay r p := by
 unfold Pick at h
 rcases h with ⟨_, h, rfl⟩ | ⟨h, _, rfl⟩ | ⟨h1, h2, ⟨_, rfl⟩ | ⟨_, rfl⟩⟩ <;> assumption
theorem pick_unique {r j p q : Nat} (h : Pick r j p) (k : Pick r j q) : p = q := by
 unfold Pick at h k
 rcases h with ⟨a, b, rfl⟩ | ⟨a, b, rfl⟩ | ⟨a, b, ⟨c, rfl⟩ | ⟨c, rfl⟩⟩ <;> rcases k with ⟨a', b', rfl⟩ | ⟨a', b', rfl⟩ | ⟨a', b', ⟨c', rfl⟩ | ⟨c', rfl⟩⟩ <;> first | rfl | contradiction
theorem best_unique {r j p i q : Nat} (h : Best r j p) (k : Best r i q) : p = q := by
 obtain ⟨h1, h2, h3⟩ := h
 obtain ⟨k1, k2, k3⟩ := k
 rcases Nat.lt_trichotomy i j with c | c | c
 ·exact absurd (pick_good h2) (k3 j c h1)
 ·subst c; exact pick_unique h2 k2
 ·exact absurd (pick_good k2) (h3 i c k1)
theorem lowOf_le (X j : Nat) : lowOf X j ≤ X := Nat.div_mul_le_self _ _
theorem lt_lowOf (X j : Nat) : X < lowOf X j + 10 ^ j := by
 unfold lowOf
 have := Nat.div_add_mod X (10 ^ j)
 have h := Nat.mod_lt X (show 0 < 10 ^ j from Nat.pow_pos (by omega))
 rw [Nat.mul_comm]
 omega
theorem mant_lt (r : Nat) : mant r < 9007199254740992 := by unfold mant; split <;> omega
theorem step_down (r : Nat) (h : 0 < r) : step (r - 1) = step r ∨ (step r = 2 * step (r - 1) ∧ mant r = 4503599627370496) := by
 unfold step mant
 by_cases c : r % 4503599627370496 = 0
 ·by_cases c1 : r / 4503599627370496 = 1
  ·left; rw [c1, show (r - 1) / 4503599627370496 = 0 by omega]
  ·right
   rw [if_neg (by omega), c, show r / 4503599627370496 - 1 = ((r - 1) / 4503599627370496 - 1) + 1 by omega, Nat.pow_succ]
   exact ⟨by rw [Nat.mul_comm], rfl⟩
 ·left
  congr 2
  omega
theorem wide {r : Nat} (h : 0 < r) : fX r < (fH r - fL r) * 10000000000000000 := by
 unfold fX fH fL
 have hw := wF_pos
 rw [← Nat.sub_mul, Nat.mul_assoc, Nat.mul_comm wF, ← Nat.mul_assoc]
 refine Nat.mul_lt_mul_of_pos_right ?_ hw
 have h1 := fval_succ (r - 1)
 rw [show r - 1 + 1 = r by omega] at h1
 have h2 := mid_eq (r - 1)
 have h3 := mid_eq r
 have e : mid r - mid (r - 1) = 2 * step r + 2 * step (r - 1) := by omega
 rw [e]
 have m := mant_lt r
 have s := step_pos r
 have e2 : fval r = 4 * (mant r * step r) := by unfold fval; rw [Nat.mul_assoc]
 rw [e2]
 clear e e2 h1 h2 h3
 rcases step_down r h with d | ⟨d1, d2⟩
 ·rw [d]
  have := Nat.mul_lt_mul_of_pos_right m s
  generalize mant r * step r = Z at *
  omega
 ·rw [d2]
  omega
theorem good_fine {r i : Nat} (h : 0 < r) (hi : 10 ^ i * 10000000000000000 ≤ fX r) : Good r i := by
 by_cases g : Good r i
 ·exact g
 ·exfalso
  have w := wide h
  have b := below_of r h
  have l1 := lowOf_le (fX r) i
  have l2 := lt_lowOf (fX r) i
  unfold Good upOf at g
  by_cases c : lowOf (fX r) i = fX r
  ·rw [c] at g
   exact g (.inl (okay_self r h))
  ·rw [if_neg c] at g
   unfold Okay at g
   generalize 10 ^ i = T at *
   generalize lowOf (fX r) i = A at *
   generalize fX r = X at *
   generalize fL r = L at *
   generalize fH r = H at *
   omega
theorem pow10_pos (j : Nat) : 0 < (10 : Nat) ^ j := Nat.pow_pos (by omega)
theorem dvd_ten_le {d t j m : Nat} (h : d * 10 ^ t = m * 10 ^ j) (hd : d % 10 ≠ 0) : j ≤ t := by
 by_cases c : j ≤ t
 ·exact c
 ·exfalso
  obtain ⟨e, rfl⟩ : ∃ e, j = t + (e + 1) := ⟨j - t - 1, by omega⟩
  rw [Nat.pow_add, ← Nat.mul_assoc, Nat.mul_comm m, Nat.mul_assoc, Nat.mul_comm (10 ^ t)] at h
  have h1 := Nat.eq_of_mul_eq_mul_right (pow10_pos t) h
  rw [Nat.pow_succ, ← Nat.mul_assoc] at h1
  omega
theorem ten_unique {d t e s : Nat} (h : d * 10 ^ t = e * 10 ^ s) (hd : d % 10 ≠ 0) (he : e % 10 ≠ 0) : d = e ∧ t = s := by
 have a := dvd_ten_le h hd
 have b := dvd_ten_le h.symm he
 have c : t = s := by omega
 subst c
 exact ⟨Nat.eq_of_mul_eq_mul_right (pow10_pos t) h, rfl⟩
theorem best_multiple {r j p : Nat} (h : Pick r j p) : ∃ m, p = m * 10 ^ j ∧ m ≤ fX r / 10 ^ j + 1 := by
 have e1 : ∃ m, lowOf (fX r) j = m * 10 ^ j ∧ m ≤ fX r / 10 ^ j + 1 := ⟨_, rfl, by omega⟩
 have e2 : ∃ m, upOf (fX r) j = m * 10 ^ j ∧ m ≤ fX r / 10 ^ j + 1 := by
  unfold upOf
  split
  ·exact e1
  ·refine ⟨fX r / 10 ^ j + 1, ?_, Nat.le_refl _⟩
   rw [Nat.add_mul, Nat.one_mul]
   rfl
 unfold Pick at h
 rcases h with ⟨_, h, rfl⟩ | ⟨h, _, rfl⟩ | ⟨h1, h2, ⟨_, rfl⟩ | ⟨_, rfl⟩⟩ <;> assumption
theorem best_17 {r j p d t : Nat} (h0 : 0 < r) (hb : Best r j p) (hp : d * 10 ^ t = p) (hd : d % 10 ≠ 0) : d < 100000000000000000 := by
 by_cases c : d < 100000000000000000
 ·exact c
 ·exfalso
  obtain ⟨h1, h2, h3⟩ := hb
  obtain ⟨m, rfl, hm⟩ := best_multiple h2
  have jt := dvd_ten_le hp hd
  have dm : d ≤ m := by
   obtain ⟨e, rfl⟩ : ∃ e, t = j + e := ⟨t - j, by omega⟩
   rw [Nat.pow_add, Nat.mul_comm (10 ^ j), ← Nat.mul_assoc] at hp
   have := Nat.eq_of_mul_eq_mul_right (pow10_pos j) hp
   rw [← this]
   exact Nat.le_mul_of_pos_right _ (pow10_pos e)
  have cf : 100000000000000000 ≤ fX r / 10 ^ j := by omega
  have big := (Nat.le_div_iff_mul_le (pow10_pos j)).1 cf
  have e10 : (10 : Nat) ^ (j + 1) = 10 * 10 ^ j := by rw [Nat.pow_succ, Nat.mul_comm]
  have g := good_fine (i := j + 1) h0 (by rw [e10]; generalize (10 : Nat) ^ j = T at *; omega)
  exact h3 (j + 1) (by omega) (by rw [e10]; generalize (10 : Nat) ^ j = T at *; omega) g
end Go.Proofs.YtnbfnjhbmeocfabGreatDoor.bigs
namespace Go.Proofs.YtnbfnjhbmeocfabGreatDoor.bigs
def logOf (N : Nat) : Nat := (N * 1262611 + 3166228440) / 4194304
def logFits (N : Nat) : Bool := decide (10 ^ logOf N ≤ 2 ^ N * 5 ^ c80 ∧ 2 ^ N * 5 ^ c80 < 10 ^ (logOf N + 1))
def allFit (k : Nat) : Nat → Bool
 | 0 => true
 | n + 1 => logFits (k + n) && allFit k n
theorem allFit_at {k : Nat} : ∀ n, allFit k n = true → ∀ i, i < n → logFits (k + i) = true
 | 0, _, i, hi => by omega
 | n + 1, h, i, hi => by
  unfold allFit at h
  rw [Bool.and_eq_true] at h
  by_cases c : i = n
  ·rw [c]; exact h.1
  ·exact allFit_at n h.2 i (by omega)
theorem fits1 : allFit 6 500 = true := by decide +kernel
theorem fits2 : allFit 506 500 = true := by decide +kernel
theorem fits3 : allFit 1006 500 = true := by decide +kernel
theorem fits4 : allFit 1506 598 = true := by decide +kernel
theorem log_fits {N : Nat} (h1 : 6 ≤ N) (h2 : N < 2104) : 10 ^ logOf N ≤ 2 ^ N * 5 ^ c80 ∧ 2 ^ N * 5 ^ c80 < 10 ^ (logOf N + 1) := by
 have h : logFits N = true := by
  by_cases a : N < 506
  ·have := allFit_at _ fits1 (N - 6) (by omega)
   rwa [show 6 + (N - 6) = N by omega] at this
  ·by_cases b : N < 1006
   ·have := allFit_at _ fits2 (N - 506) (by omega)
    rwa [show 506 + (N - 506) = N by omega] at this
   ·by_cases c : N < 1506
    ·have := allFit_at _ fits3 (N - 1006) (by omega)
     rwa [show 1006 + (N - 1006) = N by omega] at this
    ·have := allFit_at _ fits4 (N - 1506) (by omega)
     rwa [show 1506 + (N - 1506) = N by omega] at this
 exact of_decide_eq_true h
theorem fX_eq (r E : Nat) (hs : step r = 2 ^ E) : fX r = mant r * (2 ^ (E + 6) * 5 ^ c80) := by
 unfold fX fval wF
 rw [hs, Nat.pow_add]
 generalize 2 ^ E = T
 generalize 5 ^ c80 = F
 generalize mant r = m
 have e : (2 : Nat) ^ 6 = 64 := rfl
 rw [e, Nat.mul_assoc 4 m T, Nat.mul_mul_mul_comm 4 (m * T) 16 F, Nat.mul_comm T 64, Nat.mul_assoc 64 T F, Nat.mul_left_comm m 64, Nat.mul_assoc m T F]
theorem at_range {r E b : Nat} (hs : step r = 2 ^ E) (hb1 : 2 ^ b ≤ mant r) (hb2 : mant r < 2 ^ (b + 1)) (hE : E ≤ 2045) (hb : b ≤ 52) :
  10 ^ (logOf (b + E + 6)) ≤ fX r ∧ fX r < 2 * 10 ^ (logOf (b + E + 6) + 1) := by
 obtain ⟨h1, h2⟩ := log_fits (N := b + E + 6) (by omega) (by omega)
 rw [fX_eq r E hs]
 rw [Nat.add_assoc b, Nat.pow_add, Nat.mul_assoc] at h1 h2
 rw [Nat.pow_succ] at hb2
 generalize 2 ^ (E + 6) * 5 ^ c80 = F at *
 rw [Nat.add_assoc b]
 constructor
 ·exact Nat.le_trans h1 (Nat.mul_le_mul_right _ hb1)
 ·have a1 : mant r * F ≤ 2 ^ b * 2 * F := Nat.mul_le_mul_right _ (by omega)
  have a2 : 2 ^ b * 2 * F = 2 * (2 ^ b * F) := by rw [Nat.mul_comm (2 ^ b), Nat.mul_assoc]
  omega
theorem div_cross {N D Y P : Nat} (hD : 0 < D) (hP : 0 < P) (h : N * P = Y * D) : N / D = Y / P ∧ (N % D = 0 ↔ Y % P = 0) := by
 constructor
 ·rw [← Nat.mul_div_mul_right N D hP, h, Nat.mul_comm D P, Nat.mul_div_mul_right _ _ hD]
 ·have e : N % D * P = Y % P * D := by rw [← Nat.mul_mod_mul_right, h, Nat.mul_comm D P, Nat.mul_mod_mul_right]
  constructor
  ·intro h0
   rw [h0, Nat.zero_mul] at e
   rcases Nat.mul_eq_zero.1 e.symm with k | k <;> omega
  ·intro h0
   rw [h0, Nat.zero_mul] at e
   rcases Nat.mul_eq_zero.1 e with k | k <;> omega
def sLow (r c : Nat) : Nat := fL r / 10 ^ c + (if r % 2 = 1 ∨ fL r % 10 ^ c ≠ 0 then 1 else 0)
def sHigh (r c : Nat) : Nat := fH r / 10 ^ c - (if r % 2 = 1 ∧ fH r % 10 ^ c = 0 then 1 else 0)
theorem times_split (Y P x : Nat) (hP : 0 < P) : (x * P < Y ↔ x < Y / P ∨ (x = Y / P ∧ Y % P ≠ 0)) ∧ (x * P = Y ↔ x = Y / P ∧ Y % P = 0) := by
 have e := Nat.div_add_mod Y P
 have l := Nat.mod_lt Y hP
 generalize Y / P = q at *
 generalize Y % P = s at *
 rcases Nat.lt_trichotomy x q with c | c | c
 ·have h := Nat.mul_le_mul_right P (show x + 1 ≤ q by omega)
  rw [Nat.add_mul, Nat.one_mul, Nat.mul_comm q] at h
  omega
 ·subst c
  rw [Nat.mul_comm x]
  omega
 ·have h := Nat.mul_le_mul_right P (show q + 1 ≤ x by omega)
  rw [Nat.add_mul, Nat.one_mul, Nat.mul_comm q] at h
  omega
theorem low_okay {r c x : Nat} (h0 : 0 < r) (hx : x * 10 ^ c ≤ fX r) : x < sLow r c ↔ ¬ Okay r (x * 10 ^ c) := by
 obtain ⟨a1, a2⟩ := times_split (fL r) (10 ^ c) x (pow10_pos c)
 obtain ⟨b1, b2⟩ := below_of r h0
 unfold Okay sLow
 generalize x * 10 ^ c = y at *
 generalize fL r / 10 ^ c = q at *
 generalize fL r % 10 ^ c = s at *
 generalize fL r = L at *
 generalize fH r = H at *
 generalize fX r = X at *
 split <;> omega
theorem high_okay {r c x : Nat} (h0 : 0 < r) (hx : fX r ≤ x * 10 ^ c) : x ≤ sHigh r c ↔ Okay r (x * 10 ^ c) := by
 obtain ⟨a1, a2⟩ := times_split (fH r) (10 ^ c) x (pow10_pos c)
 obtain ⟨b1, b2⟩ := below_of r h0
 unfold Okay sHigh
 have hx0 : x ≠ 0 := by intro e; subst e; rw [Nat.zero_mul] at hx; omega
 generalize x * 10 ^ c = y at *
 generalize fH r / 10 ^ c = q at *
 generalize fH r % 10 ^ c = s at *
 generalize fL r = L at *
 generalize fH r = H at *
 generalize fX r = X at *
 split <;> omega
theorem at_low {X c u a : Nat} (ha : a = X / 10 ^ c) : lowOf X (c + u) = a / 10 ^ u * 10 ^ u * 10 ^ c ∧ X / 10 ^ (c + u) = a / 10 ^ u := by
 have e : X / 10 ^ (c + u) = a / 10 ^ u := by rw [ha, Nat.pow_add, Nat.div_div_eq_div_mul]
 refine ⟨?_, e⟩
 unfold lowOf
 rw [e, Nat.pow_add, Nat.mul_comm (10 ^ c), Nat.mul_assoc]
theorem at_parts {X c u a : Nat} (ha : a = X / 10 ^ c) : X = lowOf X (c + u) + (a % 10 ^ u * 10 ^ c + X % 10 ^ c) ∧ X % 10 ^ c < 10 ^ c := by
 have e1 := Nat.div_add_mod X (10 ^ c)
 have e2 := Nat.div_add_mod a (10 ^ u)
 refine ⟨?_, Nat.mod_lt _ (pow10_pos c)⟩
 rw [(at_low ha).1]
 rw [← ha] at e1
 have e3 : a * 10 ^ c = a / 10 ^ u * 10 ^ u * 10 ^ c + a % 10 ^ u * 10 ^ c := by rw [← Nat.add_mul, Nat.mul_comm (a / 10 ^ u), e2]
 rw [Nat.mul_comm (10 ^ c)] at e1
 omega
theorem half_ten (u : Nat) (hu : 1 ≤ u) : 10 ^ u / 2 * 2 = 10 ^ u := by
 obtain ⟨v, rfl⟩ : ∃ v, u = v + 1 := ⟨u - 1, by omega⟩
 rw [Nat.pow_succ]
 omega
theorem near_down {r c u a : Nat} (h0 : 0 < r) (ha : a = fX r / 10 ^ c) (hu : 1 ≤ u) (hd : ¬ a / 10 ^ u * 10 ^ u < sLow r c)
  (hc : sHigh r c < a / 10 ^ u * 10 ^ u + 10 ^ u ∨ a % 10 ^ u < 10 ^ u / 2 ∨ (a % 10 ^ u = 10 ^ u / 2 ∧ fX r % 10 ^ c = 0 ∧ a / 10 ^ u % 2 = 0)) :
  Pick r (c + u) (a / 10 ^ u * 10 ^ u * 10 ^ c) := by
 obtain ⟨e1, e2⟩ := at_low (u := u) ha
 obtain ⟨e3, e4⟩ := at_parts (u := u) ha
 have le := lowOf_le (fX r) (c + u)
 rw [low_okay h0 (by rw [← e1]; exact le), ← e1, Classical.not_not] at hd
 rw [← e1]
 unfold Pick
 by_cases s : lowOf (fX r) (c + u) = fX r
 ·right; right
  have eu : upOf (fX r) (c + u) = lowOf (fX r) (c + u) := by unfold upOf; rw [if_pos s]
  rw [eu]
  refine ⟨hd, hd, ?_⟩
  by_cases t : Upper (fX r) (c + u)
  ·exact .inl ⟨t, rfl⟩
  ·exact .inr ⟨t, rfl⟩
 ·have eu : upOf (fX r) (c + u) = lowOf (fX r) (c + u) + 10 ^ (c + u) := by unfold upOf; rw [if_neg s]
  have eu2 : upOf (fX r) (c + u) = (a / 10 ^ u * 10 ^ u + 10 ^ u) * 10 ^ c := by rw [eu, e1, Nat.add_mul, Nat.pow_add, Nat.mul_comm (10 ^ c)]
  have lt := lt_lowOf (fX r) (c + u)
  rw [← eu] at lt
  by_cases t : Okay r (upOf (fX r) (c + u))
  ·right; right
   refine ⟨hd, t, .inr ⟨?_, rfl⟩⟩
   rw [eu2, ← high_okay h0 (by rw [← eu2]; omega)] at t
   have hc' : a % 10 ^ u < 10 ^ u / 2 ∨ (a % 10 ^ u = 10 ^ u / 2 ∧ fX r % 10 ^ c = 0 ∧ a / 10 ^ u % 2 = 0) := by
    rcases hc with k | k
    ·omega
    ·exact k
   have hh := half_ten u hu
   have ep : 10 ^ (c + u) = 2 * (10 ^ u / 2 * 10 ^ c) := by
    rw [Nat.pow_add, Nat.mul_comm (10 ^ c)]
    rw [← Nat.mul_assoc, Nat.mul_comm 2, hh]
   unfold Upper
   rw [e2]
   rcases hc' with k | ⟨k1, k2, k3⟩
   ·have k2 := Nat.mul_le_mul_right (10 ^ c) (show a % 10 ^ u + 1 ≤ 10 ^ u / 2 by omega)
    rw [Nat.add_mul, Nat.one_mul] at k2
    generalize a % 10 ^ u * 10 ^ c = A at *
    generalize 10 ^ u / 2 * 10 ^ c = B at *
    generalize fX r % 10 ^ c = C at *
    generalize lowOf (fX r) (c + u) = D at *
    generalize upOf (fX r) (c + u) = U at *
    generalize fX r = X at *
    clear hd ha e1 e2 eu2 hh t
    generalize 10 ^ (c + u) = G at *
    generalize 10 ^ c = K at *
    omega
   ·rw [k1] at e3
    generalize 10 ^ u / 2 * 10 ^ c = B at *
    generalize fX r % 10 ^ c = C at *
    generalize lowOf (fX r) (c + u) = D at *
    generalize upOf (fX r) (c + u) = U at *
    generalize fX r = X at *
    clear hd ha e1 e2 eu2 hh t
    generalize 10 ^ (c + u) = G at *
    generalize 10 ^ c = K at *
    omega
  ·right; left
   exact ⟨hd, t, rfl⟩
theorem up_eq {r c u a : Nat} (ha : a = fX r / 10 ^ c) (s : lowOf (fX r) (c + u) ≠ fX r) : upOf (fX r) (c + u) = (a / 10 ^ u * 10 ^ u + 10 ^ u) * 10 ^ c := by
 obtain ⟨e1, e2⟩ := at_low (u := u) ha
 have eu : upOf (fX r) (c + u) = lowOf (fX r) (c + u) + 10 ^ (c + u) := by unfold upOf; rw [if_neg s]
 rw [eu, e1, Nat.add_mul, Nat.pow_add, Nat.mul_comm (10 ^ c)]
theorem up_ge {r c u : Nat} (s : lowOf (fX r) (c + u) ≠ fX r) : fX r ≤ upOf (fX r) (c + u) := by
 have lt := lt_lowOf (fX r) (c + u)
 unfold upOf
 rw [if_neg s]
 omega
theorem near_low {r c u a : Nat} (h0 : 0 < r) (ha : a = fX r / 10 ^ c) (hd : a / 10 ^ u * 10 ^ u < sLow r c) :
  (a / 10 ^ u * 10 ^ u + 10 ^ u ≤ sHigh r c → Pick r (c + u) ((a / 10 ^ u * 10 ^ u + 10 ^ u) * 10 ^ c)) ∧ (¬ a / 10 ^ u * 10 ^ u + 10 ^ u ≤ sHigh r c → ¬ Good r (c + u)) := by
 obtain ⟨e1, e2⟩ := at_low (u := u) ha
 have le := lowOf_le (fX r) (c + u)
 rw [low_okay h0 (by rw [← e1]; exact le), ← e1] at hd
 have s : lowOf (fX r) (c + u) ≠ fX r := fun e => hd (by rw [e]; exact okay_self r h0)
 have eu := up_eq ha s
 have ge := up_ge s
 rw [high_okay h0 (by rw [← eu]; exact ge), ← eu]
 constructor
 ·intro t
  left
  exact ⟨hd, t, rfl⟩
 ·intro t g
  exact g.elim hd t
theorem near_up {r c u a : Nat} (h0 : 0 < r) (ha : a = fX r / 10 ^ c) (hu : 1 ≤ u) (hd : ¬ a / 10 ^ u * 10 ^ u < sLow r c) (h1 : a / 10 ^ u * 10 ^ u + 10 ^ u ≤ sHigh r c) (h2 : 10 ^ u / 2 ≤ a % 10 ^ u)
  (h3 : ¬ (a % 10 ^ u = 10 ^ u / 2 ∧ fX r % 10 ^ c = 0 ∧ a / 10 ^ u % 2 = 0)) : Pick r (c + u) ((a / 10 ^ u * 10 ^ u + 10 ^ u) * 10 ^ c) := by
 obtain ⟨e1, e2⟩ := at_low (u := u) ha
 obtain ⟨e3, e4⟩ := at_parts (u := u) ha
 have le := lowOf_le (fX r) (c + u)
 have hh := half_ten u hu
 have hp := pow10_pos u
 have hc := pow10_pos c
 have s : lowOf (fX r) (c + u) ≠ fX r := by
  intro e
  have : a % 10 ^ u * 10 ^ c = 0 := by omega
  rcases Nat.mul_eq_zero.1 this with k | k <;> omega
 rw [low_okay h0 (by rw [← e1]; exact le), ← e1, Classical.not_not] at hd
 have eu := up_eq ha s
 have ge := up_ge s
 rw [high_okay h0 (by rw [← eu]; exact ge), ← eu] at h1
 rw [← eu]
 right; right
 refine ⟨hd, h1, .inl ⟨?_, rfl⟩⟩
 have ea : upOf (fX r) (c + u) = lowOf (fX r) (c + u) + 10 ^ (c + u) := by unfold upOf; rw [if_neg s]
 have ep : 10 ^ (c + u) = 2 * (10 ^ u / 2 * 10 ^ c) := by
  rw [Nat.pow_add, Nat.mul_comm (10 ^ c)]
  rw [← Nat.mul_assoc, Nat.mul_comm 2, hh]
 unfold Upper
 rw [e2]
 by_cases k : a % 10 ^ u = 10 ^ u / 2
 ·rw [k] at e3
  generalize 10 ^ u / 2 * 10 ^ c = B at *
  generalize fX r % 10 ^ c = C at *
  generalize lowOf (fX r) (c + u) = D at *
  generalize upOf (fX r) (c + u) = U at *
  generalize fX r = X at *
  clear hd ha e1 e2 eu hh h1
  generalize 10 ^ (c + u) = G at *
  generalize 10 ^ c = K at *
  omega
 ·have k2 := Nat.mul_le_mul_right (10 ^ c) (show 10 ^ u / 2 + 1 ≤ a % 10 ^ u by omega)
  rw [Nat.add_mul, Nat.one_mul] at k2
  generalize a % 10 ^ u * 10 ^ c = A at *
  generalize 10 ^ u / 2 * 10 ^ c = B at *
  generalize fX r % 10 ^ c = C at *
  generalize lowOf (fX r) (c + u) = D at *
  generalize upOf (fX r) (c + u) = U at *
  generalize fX r = X at *
  clear hd ha e1 e2 eu hh h1
  generalize 10 ^ (c + u) = G at *
  generalize 10 ^ c = K at *
  omega
end Go.Proofs.YtnbfnjhbmeocfabGreatDoor.bigs
namespace Go.Proofs.YtnbfnjhbmeocfabGreatDoor.bigs
open Go.RowKit
def WSl (w : World) (v : Value) (l : List Nat) : Prop := ∃ a cap, v = .slice a l.length cap ∧ l.length ≤ cap ∧ RowU w a l
def WBig (w : World) (v : Value) (n : Nat) : Prop := WSl w v (wdig n)
theorem WSl.below {w w' : World} {v : Value} {l : List Nat} (h : WSl w v l) (hb : Below w.heap.size w w') : WSl w' v l := by
 obtain ⟨a, cap, e, hc, hr⟩ := h
 exact ⟨a, cap, e, hc, hr.below hb⟩
theorem WBig.below {w w' : World} {v : Value} {n : Nat} (h : WBig w v n) (hb : Below w.heap.size w w') : WBig w' v n := WSl.below h hb
theorem words_wdig (n : Nat) : Words32 (wdig n) := by
 induction n using Nat.strongRecOn with
 | ind n ih =>
  by_cases h : n = 0
  ·subst h; rw [wdig_zero]; intro j hj; simp at hj
  ·rw [wdig_pos h]; exact words_cons.2 ⟨by omega, ih _ (by omega)⟩
theorem utake_succ (l : List Nat) (k : Nat) (h : k < l.length) : l.take (k + 1) = l.take k ++ [l.getD k 0] := take_succ l k h
end Go.Proofs.YtnbfnjhbmeocfabGreatDoor.bigs
namespace Go.Proofs.YtnbfnjhbmeocfabGreatDoor.bigs
open Go.RowKit
theorem words_nil : Words32 [] := fun j h => absurd h (by simp)
theorem words_append {a b : List Nat} : Words32 (a ++ b) ↔ Words32 a ∧ Words32 b := by
 induction a with
 | nil => simp [words_nil]
 | cons x a ih => rw [List.cons_append, words_cons, words_cons, ih, and_assoc]
theorem words_one {d : Nat} (h : d < 4294967296) : Words32 [d] := words_cons.2 ⟨h, words_nil⟩
theorem wval_append (a b : List Nat) : wval (a ++ b) = wval a + 4294967296 ^ a.length * wval b := by
 induction a with
 | nil => simp [wval]
 | cons x a ih =>
  rw [List.cons_append, wval, wval, ih, List.length_cons, Nat.pow_succ]
  have : 4294967296 ^ a.length * 4294967296 * wval b = 4294967296 * (4294967296 ^ a.length * wval b) := by rw [Nat.mul_comm (4294967296 ^ a.length), Nat.mul_assoc]
  rw [this]
  omega
theorem wval_one (d : Nat) : wval [d] = d := by simp [wval]
theorem words_take {l : List Nat} (h : Words32 l) (k : Nat) : Words32 (l.take k) := by
 rw [← List.take_append_drop k l, words_append] at h
 exact h.1
theorem wval_take_next (l : List Nat) (k : Nat) : wval (l.take (k + 1)) = wval (l.take k) + 4294967296 ^ k * l.getD k 0 := by
 by_cases h : k < l.length
 ·rw [utake_succ l k h, wval_append, wval_one, List.length_take, Nat.min_eq_left (by omega)]
 ·have e : l.getD k 0 = 0 := by rw [List.getD, List.getElem?_eq_none (by omega)]; rfl
  rw [e, List.take_of_length_le (by omega), List.take_of_length_le (by omega)]
  omega
theorem wval_set (l : List Nat) (d : Nat) : ∀ j, j < l.length → wval (l.set j d) + 4294967296 ^ j * l.getD j 0 = wval l + 4294967296 ^ j * d := by
 induction l with
 | nil => intro j h; simp at h
 | cons x l ih =>
  intro j h
  cases j with
  | zero => simp [wval]; omega
  | succ j =>
   have := ih j (by simpa using h)
   simp only [List.set_cons_succ, wval, List.getD_cons_succ, Nat.pow_succ]
   have e1 : 4294967296 ^ j * 4294967296 * l.getD j 0 = 4294967296 * (4294967296 ^ j * l.getD j 0) := by rw [Nat.mul_comm (4294967296 ^ j), Nat.mul_assoc]
   have e2 : 4294967296 ^ j * 4294967296 * d = 4294967296 * (4294967296 ^ j * d) := by rw [Nat.mul_comm (4294967296 ^ j), Nat.mul_assoc]
   omega
theorem words_set {l : List Nat} {j d : Nat} (h : Words32 l) (hd : d < 4294967296) : Words32 (l.set j d) := by
 intro i hi
 rw [List.length_set] at hi
 by_cases e : i = j
 ·subst e; simp [List.getD, hi]; exact hd
 ·rw [List.getD, List.getElem?_set_ne (by omega)]; exact h i hi
theorem wval_zero (n : Nat) : wval (List.replicate n 0) = 0 := by
 induction n with
 | zero => rfl
 | succ n ih => rw [List.replicate_succ, wval, ih]
theorem words_zero (n : Nat) : Words32 (List.replicate n 0) := by
 intro j hj
 rw [List.length_replicate] at hj
 simp [List.getD, hj]
theorem wdig_nil {n : Nat} : wdig n = [] ↔ n = 0 := by
 constructor
 ·intro h; rw [← wval_wdig n, h]; rfl
 ·rintro rfl; exact wdig_zero
theorem wdig_pos_len {n : Nat} (h : n ≠ 0) : 0 < (wdig n).length := by
 cases e : wdig n with
 | nil => exact absurd (wdig_nil.1 e) h
 | cons x r => simp
theorem wdig_is_take : ∀ (l : List Nat), Words32 l → l.take (wdig (wval l)).length = wdig (wval l)
 | [], _ => by show _ = wdig 0; rw [wdig_zero]; simp
 | d :: r, h => by
  obtain ⟨h1, h2⟩ := words_cons.1 h
  have ih := wdig_is_take r h2
  by_cases h0 : wval (d :: r) = 0
  ·rw [h0, wdig_zero]; simp
  ·rw [wdig_pos h0]
   have e1 : wval (d :: r) % 4294967296 = d := by rw [wval]; omega
   have e2 : wval (d :: r) / 4294967296 = wval r := by rw [wval]; omega
   rw [e1, e2, List.length_cons, List.take_succ_cons, ih]
theorem wdig_len_lt {n k : Nat} (h : n < 4294967296 ^ k) : (wdig n).length ≤ k := by
 induction k generalizing n with
 | zero =>
  have : n = 0 := by simpa using h
  subst this
  rw [wdig_zero]; simp
 | succ k ih =>
  by_cases h0 : n = 0
  ·subst h0; rw [wdig_zero]; simp
  ·rw [wdig_pos h0, List.length_cons]
   have : n / 4294967296 < 4294967296 ^ k := by
    rw [Nat.pow_succ] at h
    exact Nat.div_lt_of_lt_mul (by omega)
   have := ih this
   omega
theorem lt_pow_words (n : Nat) : n < 4294967296 ^ (wdig n).length := by have := wval_lt (words_wdig n); rwa [wval_wdig] at this
theorem wdig_length_ge {n k : Nat} (h : 4294967296 ^ k ≤ n) : k < (wdig n).length := by
 have h1 := lt_pow_words n
 by_cases e : k < (wdig n).length
 ·exact e
 ·have : 4294967296 ^ (wdig n).length ≤ 4294967296 ^ k := Nat.pow_le_pow_right (by omega) (by omega)
  omega
theorem wdig_len_words {l : List Nat} (h : Words32 l) : (wdig (wval l)).length ≤ l.length := wdig_len_lt (wval_lt h)
theorem wdig_mono {m n : Nat} (h : m ≤ n) : (wdig m).length ≤ (wdig n).length := wdig_len_lt (Nat.lt_of_le_of_lt h (lt_pow_words n))
theorem wdig_lt_of_len {m n : Nat} (h : (wdig m).length < (wdig n).length) : m < n := by
 by_cases e : m < n
 ·exact e
 ·have := wdig_mono (show n ≤ m by omega)
  omega
theorem wdig_last {n : Nat} (h : n ≠ 0) : (wdig n).getD ((wdig n).length - 1) 0 ≠ 0 := by
 induction n using Nat.strongRecOn with
 | ind n ih =>
  rw [wdig_pos h]
  by_cases e : n / 4294967296 = 0
  ·rw [e, wdig_zero]
   simp
   omega
  ·have hp := wdig_pos_len e
   have e1 : (n % 4294967296 :: wdig (n / 4294967296)).length - 1 = ((wdig (n / 4294967296)).length - 1) + 1 := by rw [List.length_cons]; omega
   rw [e1, List.getD_cons_succ]
   exact ih _ (by omega) e
theorem wdig_uniq : ∀ {l : List Nat}, Words32 l → (l = [] ∨ l.getD (l.length - 1) 0 ≠ 0) → wdig (wval l) = l
 | [], _, _ => wdig_zero
 | d :: r, h, hl => by
  obtain ⟨h1, h2⟩ := words_cons.1 h
  have hr : r = [] ∨ r.getD (r.length - 1) 0 ≠ 0 := by
   by_cases e : r = []
   ·exact .inl e
   ·right
    rcases hl with hl | hl
    ·cases hl
    ·have hp : 0 < r.length := List.length_pos_iff.2 e
     have e1 : (d :: r).length - 1 = (r.length - 1) + 1 := by rw [List.length_cons]; omega
     rw [e1, List.getD_cons_succ] at hl
     exact hl
  have ih := wdig_uniq h2 hr
  have hne : wval (d :: r) ≠ 0 := by
   intro e
   rw [wval] at e
   have e0 : wval r = 0 := by omega
   rw [e0, wdig_zero] at ih
   subst ih
   rcases hl with hl | hl
   ·cases hl
   ·simp at hl
    omega
  rw [wdig_pos hne]
  have e1 : wval (d :: r) % 4294967296 = d := by rw [wval]; omega
  have e2 : wval (d :: r) / 4294967296 = wval r := by rw [wval]; omega
  rw [e1, e2, ih]
theorem wsplit_val (l : List Nat) (k : Nat) (hs : Words32 l) : ∃ t, wval l = t + 4294967296 ^ k * wval (l.drop k) ∧ t < 4294967296 ^ k := by
 refine ⟨wval (l.take k), ?_, ?_⟩
 ·by_cases h : k ≤ l.length
  ·have := wval_append (l.take k) (l.drop k)
   rw [List.take_append_drop, List.length_take, Nat.min_eq_left h] at this
   exact this
  ·rw [List.drop_of_length_le (by omega), List.take_of_length_le (by omega)]
   simp [wval]
 ·have h1 := wval_lt (words_take hs k)
  have h2 : 4294967296 ^ (l.take k).length ≤ 4294967296 ^ k := Nat.pow_le_pow_right (by omega) (List.length_take_le k l)
  omega
theorem wdrop_div (l : List Nat) (k : Nat) (hs : Words32 l) : wval (l.drop k) = wval l / 4294967296 ^ k := by
 obtain ⟨t, e, h⟩ := wsplit_val l k hs
 have hp : 0 < 4294967296 ^ k := Nat.pow_pos (by omega)
 rw [e, Nat.add_mul_div_left _ _ hp, Nat.div_eq_of_lt h]
 omega
theorem wless_of_drop {a b : List Nat} {k : Nat} (ha : Words32 a) (hb : Words32 b) (h : wval (a.drop k) < wval (b.drop k)) : wval a < wval b := by
 obtain ⟨t, e1, l1⟩ := wsplit_val a k ha
 obtain ⟨u, e2, l2⟩ := wsplit_val b k hb
 have : 4294967296 ^ k * (wval (a.drop k) + 1) ≤ 4294967296 ^ k * wval (b.drop k) := Nat.mul_le_mul_left _ h
 rw [Nat.mul_add, Nat.mul_one] at this
 omega
theorem RowU.take {w : World} {a : Option Addr} {l : List Nat} (h : RowU w a l) (k : Nat) : RowU w a (l.take k) := by
 intro h0
 have hl : l ≠ [] := fun e => h0 (by rw [e, List.take_nil])
 obtain ⟨b, o, e, hlt, hc⟩ := h hl
 refine ⟨b, o, e, hlt, fun j hj => ?_⟩
 rw [List.length_take] at hj
 rw [hc j (by omega)]
 simp [List.getD, show j < k by omega]
theorem RowU.cut {w : World} {a : Option Addr} {l : List Nat} (h : RowU w a l) (hs : Words32 l) : RowU w a (wdig (wval l)) := by
 rw [← wdig_is_take l hs]
 exact h.take _
theorem RowU.kept {w w' : World} {a : Option Addr} {l : List Nat} {g : Nat} (h : RowU w a l) (hg : w.grownBy w' (some g)) (hne : ∀ b o s, a = some ⟨b, o, s⟩ → b ≠ g) : RowU w' a l := by
 intro h0
 obtain ⟨b, o, rfl, hb, hc⟩ := h h0
 have hbg := hne b o none rfl
 refine ⟨b, o, rfl, Nat.lt_of_lt_of_le hb hg.size, fun j hj => ?_⟩
 exact hg.cell (hc j hj) (fun e => hbg (by simpa using e))
theorem grown_refl (w : World) (row : Option Nat) : w.grownBy w row := ⟨rfl, rfl, rfl, Nat.le_refl _, fun _ _ _ => rfl⟩
theorem grown_trans {a b c : World} {row : Option Nat} (h : a.grownBy b row) (k : b.grownBy c row) : a.grownBy c row :=
 ⟨k.os.trans h.os, k.tape.trans h.tape, k.output.trans h.output, Nat.le_trans h.size k.size, fun i hi hn => (k.block i (Nat.lt_of_lt_of_le hi h.size) hn).trans (h.block i hi hn)⟩
theorem grown_cell {a b : World} {g : Nat} (h : a.grownBy b (some g)) (j : Nat) (u : Value) : a.grownBy (b.setCell ⟨g, j, none⟩ u) (some g) :=
 grown_trans h ⟨rfl, rfl, rfl, by simp [World.setCell], fun k hk hn => Below.heap_setCell _ _ _ _ (fun e => hn (by rw [e]))⟩
theorem grown_drew {a b : World} {row : Option Nat} (h : a.grownBy b row) (n : Nat) : a.grownBy (b.drewN n) row := ⟨h.os, h.tape, h.output, h.size, h.block⟩
theorem below_of_grown {a b : World} {g B : Nat} (h : a.grownBy b (some g)) (hB : B ≤ g) (hB' : B ≤ a.heap.size) : Below B a b :=
 (Below.refl _ a).grown h hB' (fun k e => by simp at e; omega)
def Own (w : World) (g c : Nat) (l : List Nat) : Prop := w.ownsRow 0 130 1 (.slice (some ⟨g, 0, none⟩) l.length c) l.length (l.map wrd)
theorem Own.cell {w : World} {g c : Nat} {l : List Nat} (h : Own w g c l) (j : Nat) (hj : j < l.length) : w.cell? ⟨g, j, none⟩ = some (.int .u32 ((l.getD j 0 : Nat) : Int)) := by
 rw [World.ownsRow.cellAt h j (by omega)]
 simp [wrd, List.getD, hj]
theorem Own.froz {w : World} {g c : Nat} {l : List Nat} (h : Own w g c l) (j : Nat) : w.frozen? ⟨g, j, none⟩ = false := World.ownsRow.frozenAt h j
theorem Own.set {w : World} {g c : Nat} {l : List Nat} (h : Own w g c l) (j d : Nat) : Own (w.setCell ⟨g, j, none⟩ (.int .u32 (d : Int))) g c (l.set j d) := by
 have := (World.ownsRow.stored h j (.int .u32 (d : Int))).1
 unfold Own
 rw [List.length_set, List.map_set]
 exact this
theorem Own.lt {w : World} {g c : Nat} {l : List Nat} (h : Own w g c l) : g < w.heap.size := (World.ownsRow.lt h g rfl).2
theorem Own.below {w w' : World} {g c : Nat} {l : List Nat} (h : Own w g c l) (hb : Below w.heap.size w w') : Own w' g c l := own_below h hb
theorem Own.kept {w w' : World} {g c r : Nat} {l : List Nat} (h : Own w g c l) (hg : w.grownBy w' (some r)) (hne : g ≠ r) : Own w' g c l :=
 World.ownsRow.kept h hg (.inr (by simpa [Value.ownBlock] using hne))
theorem Own.row {w : World} {g c : Nat} {l : List Nat} (h : Own w g c l) : RowU w (some ⟨g, 0, none⟩) l := fun _ => ⟨g, 0, rfl, h.lt, fun j hj => by rw [Nat.zero_add]; exact h.cell j hj⟩
theorem Own.cap {w : World} {g c : Nat} {l : List Nat} (h : Own w g c l) : l.length ≤ c := by
 obtain ⟨a, cap, hv, hc, _⟩ := rowU_own h
 cases hv
 exact hc
theorem Own.mid {w : World} {g c : Nat} {P M S : List Nat} (h : Own w g c (P ++ (M ++ S))) : RowU w (some ⟨g, P.length, none⟩) M := fun _ => ⟨g, P.length, rfl, h.lt, fun j hj => by
 rw [h.cell (P.length + j) (by simp; omega)]
 simp [List.getD, List.getElem?_append_right, List.getElem?_append_left hj]⟩
theorem Own.cellMid {w : World} {g c : Nat} {P M S : List Nat} (h : Own w g c (P ++ (M ++ S))) (j : Nat) (hj : j < M.length) : w.cell? ⟨g, P.length + j, none⟩ = some (.int .u32 ((M.getD j 0 : Nat) : Int)) := by
 rw [h.cell (P.length + j) (by simp; omega)]
 simp [List.getD, List.getElem?_append_right, List.getElem?_append_left hj]
theorem Own.setMid {w : World} {g c : Nat} {P M S : List Nat} (h : Own w g c (P ++ (M ++ S))) (j d : Nat) (hj : j < M.length) : Own (w.setCell ⟨g, P.length + j, none⟩ (.int .u32 (d : Int))) g c (P ++ (M.set j d ++ S)) := by
 have := h.set (P.length + j) d
 rwa [List.set_append_right _ _ (by omega), Nat.add_sub_cancel_left, List.set_append_left _ _ hj] at this
theorem front_get {D M : List Nat} {k : Nat} (hD : D.length = k) (hk : k < M.length) : (D ++ M.drop k).getD k 0 = M.getD k 0 := by
 subst hD
 simp [List.getD, List.getElem?_append_right]
theorem front_set {D M : List Nat} {k d : Nat} (hD : D.length = k) (hk : k < M.length) : (D ++ M.drop k).set k d = (D ++ [d]) ++ M.drop (k + 1) := by
 subst hD
 rw [List.set_append_right _ _ (Nat.le_refl _), Nat.sub_self, List.drop_eq_getElem_cons hk, List.set_cons_zero, List.append_assoc]
 rfl
theorem front_len {D M : List Nat} {k : Nat} (hD : D.length = k) (hk : k ≤ M.length) : (D ++ M.drop k).length = M.length := by
 rw [List.length_append, List.length_drop]
 omega
theorem own_made {w : World} {B g n : Nat} (h : w.ownsRow B 130 1 (.slice (some ⟨g, 0, none⟩) n n) n (madeCells #[.int .u32 0] n).toList) : Own w g n (List.replicate n 0) := by
 have e : (madeCells #[Value.int .u32 0] n).toList = (List.replicate n 0).map wrd := by
  rw [toList_madeCells_one]
  simp [wrd]
 rw [e] at h
 refine ⟨by simp, ?_⟩
 rcases h.2 with h' | ⟨g', cap, cur, e1, _, r⟩
 ·simp at h'
 ·right
  refine ⟨g', cap, cur, by rw [List.length_replicate]; exact e1, Nat.zero_le _, ?_⟩
  rw [List.length_replicate]
  exact r
end Go.Proofs.YtnbfnjhbmeocfabGreatDoor.bigs
namespace Go.Proofs.YtnbfnjhbmeocfabGreatDoor.bigs
open Go.RowKit
theorem wdig_length_le {n k : Nat} (h : n < 4294967296 ^ k) : (wdig n).length ≤ k := by
 induction k generalizing n with
 | zero =>
  have : n = 0 := by simpa using h
  subst this
  rw [wdig_zero]; simp
 | succ k ih =>
  by_cases h0 : n = 0
  ·subst h0; rw [wdig_zero]; simp
  ·rw [wdig_pos h0, List.length_cons]
   have : n / 4294967296 < 4294967296 ^ k := by
    rw [Nat.pow_succ] at h
    exact Nat.div_lt_of_lt_mul (by omega)
   have := ih this
   omega
theorem lt_pow_wdig (n : Nat) : n < 4294967296 ^ (wdig n).length := by have := wval_lt (words_wdig n); rwa [wval_wdig] at this
theorem wdig_prod_len (m n : Nat) : (wdig (m * n)).length ≤ (wdig m).length + (wdig n).length := by
 apply wdig_length_le
 rw [Nat.pow_add]
 exact Nat.mul_lt_mul'' (lt_pow_wdig m) (lt_pow_wdig n)
def Form (l : List UInt8) : Prop := l ≠ [] ∧ Dig10 l ∧ (l.getD 0 0 ≠ 48 ∨ l.length = 1)
theorem wdig_pow_len {b e : Nat} (hb : b < 4294967296) : (wdig (b ^ e)).length ≤ e + 1 := by
 apply wdig_length_le
 have h1 : b ^ e ≤ 4294967296 ^ e := Nat.pow_le_pow_left (Nat.le_of_lt hb) _
 have h2 : 4294967296 ^ e < 4294967296 ^ (e + 1) := Nat.pow_lt_pow_right (by omega) (by omega)
 omega
theorem toDec_ne {n : Nat} (h : n ≠ 0) : toDec n ≠ [] := by rw [toDec_pos h]; simp
theorem toDec_head {n : Nat} (h : n ≠ 0) : (toDec n).getD 0 0 ≠ 48 := by
 induction n using Nat.strongRecOn with
 | ind n ih =>
  rw [toDec_pos h]
  by_cases h1 : n / 10 = 0
  ·rw [h1, toDec_zero]
   intro e
   have e2 : (UInt8.ofNat (48 + n % 10)).toNat = 48 := by
    have e3 : UInt8.ofNat (48 + n % 10) = 48 := by simpa using e
    rw [e3]; rfl
   rw [byte_of _ (by omega)] at e2
   omega
  ·have hne := toDec_ne h1
   have := ih (n / 10) (by omega) h1
   cases hc : toDec (n / 10) with
   | nil => exact absurd hc hne
   | cons x r => rw [hc] at this; simpa using this
theorem decs_form (n : Nat) : Form (decs n) := by
 unfold decs
 by_cases h : n = 0
 ·rw [if_pos h]
  refine ⟨by simp, fun b hb => ?_, .inr rfl⟩
  rw [List.mem_singleton] at hb
  subst hb
  decide
 ·rw [if_neg h]
  exact ⟨toDec_ne h, toDec_dig n, .inl (toDec_head h)⟩
theorem dec_decs (n : Nat) : dec (decs n) = n := by
 unfold decs
 by_cases h : n = 0
 ·rw [if_pos h, h]; rfl
 ·rw [if_neg h, dec_toDec]
theorem toDec_length_le {n k : Nat} (h : n < 10 ^ k) : (toDec n).length ≤ k := by
 induction k generalizing n with
 | zero =>
  have : n = 0 := by simpa using h
  subst this
  rw [toDec_zero]; simp
 | succ k ih =>
  by_cases h0 : n = 0
  ·subst h0; rw [toDec_zero]; simp
  ·rw [toDec_pos h0, List.length_append, List.length_singleton]
   have : n / 10 < 10 ^ k := by rw [Nat.pow_succ] at h; exact Nat.div_lt_of_lt_mul (by omega)
   have := ih this
   omega
theorem decs_length_le {n k : Nat} (h : n < 10 ^ k) (hk : 1 ≤ k) : (decs n).length ≤ k := by
 unfold decs
 by_cases h0 : n = 0
 ·rw [if_pos h0]; simpa using hk
 ·rw [if_neg h0]; exact toDec_length_le h
end Go.Proofs.YtnbfnjhbmeocfabGreatDoor.bigs
namespace Go.Proofs.YtnbfnjhbmeocfabGreatDoor.bigs
open Go.RowKit
def sc : Nat := 1080
end Go.Proofs.YtnbfnjhbmeocfabGreatDoor.bigs
namespace Go.Proofs.YtnbfnjhbmeocfabGreatDoor.bigs
open Go.RowKit
def zeros (n : Nat) : ByteArray := ⟨(List.replicate n 48).toArray⟩
theorem zeros_size (n : Nat) : (zeros n).size = n := by
 show (List.replicate n (48 : UInt8)).toArray.size = n
 simp
end Go.Proofs.YtnbfnjhbmeocfabGreatDoor.bigs
