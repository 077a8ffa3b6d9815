/- The form of a fraction's text, plain. -/
import Derived.Test.YtobbbhmkcmbekaaDoorFloatCling
set_option linter.unusedVariables false
namespace Go.Proofs.YtobbbhmkcmbekaaDoor.bigs
open Go.RowKit

def NonD (l : List UInt8) : Prop := ∀ b r, l = b :: r → ¬ (48 ≤ b.toNat ∧ b.toNat ≤ 57)
def AllD (l : List UInt8) : Prop := l ≠ [] ∧ Dig10 l
theorem nonD_nil : NonD [] := fun _ _ h => by cases h
theorem nonD_cons {b : UInt8} {r : List UInt8} (h : ¬ (48 ≤ b.toNat ∧ b.toNat ≤ 57)) : NonD (b :: r) := fun b' r' e => by
  injection e with e1 e2
  rw [← e1]; exact h
theorem dig10_cons {b : UInt8} {l : List UInt8} : Dig10 (b :: l) ↔ (48 ≤ b.toNat ∧ b.toNat ≤ 57) ∧ Dig10 l := by
  unfold Dig10
  constructor
  · intro h; exact ⟨h b (by simp), fun x hx => h x (by simp [hx])⟩
  · rintro ⟨h1, h2⟩ x hx
    rcases List.mem_cons.1 hx with rfl | h
    · exact h1
    · exact h2 x h
theorem split_digits : ∀ {W R W' R' : List UInt8}, W ++ R = W' ++ R' → Dig10 W → Dig10 W' → NonD R → NonD R' → W = W' ∧ R = R' := by
  intro W
  induction W with
  | nil =>
    intro R W' R' h _ d' n _
    cases W' with
    | nil => exact ⟨rfl, h⟩
    | cons b r => exact absurd (dig10_cons.1 d').1 (n b (r ++ R') h)
  | cons a W ih =>
    intro R W' R' h d d' n n'
    cases W' with
    | nil => exact absurd (dig10_cons.1 d).1 (n' a (W ++ R) h.symm)
    | cons b r =>
      injection h with h1 h2
      subst h1
      obtain ⟨e1, e2⟩ := ih h2 (dig10_cons.1 d).2 (dig10_cons.1 d').2 n n'
      exact ⟨by rw [e1], e2⟩
def Exp (Z : List UInt8) (x : Int) : Prop := (∃ X, Z = 45 :: X ∧ AllD X ∧ x = -((dec X : Nat) : Int)) ∨ (∃ X, Z = 43 :: X ∧ AllD X ∧ x = ((dec X : Nat) : Int)) ∨ (AllD Z ∧ x = ((dec Z : Nat) : Int))
def Rest (R P : List UInt8) (x : Int) : Prop := (R = 46 :: P ∧ AllD P ∧ x = 0) ∨ (∃ Z, R = 46 :: (P ++ 101 :: Z) ∧ AllD P ∧ Exp Z x) ∨ (∃ Z, R = 101 :: Z ∧ P = [] ∧ Exp Z x)
def Num (t W P : List UInt8) (x : Int) : Prop := ∃ R, t = W ++ R ∧ AllD W ∧ (W.length = 1 ∨ W.getD 0 0 ≠ 48) ∧ Rest R P x
theorem rest_nonD {R P : List UInt8} {x : Int} (h : Rest R P x) : NonD R := by
  rcases h with ⟨rfl, _⟩ | ⟨Z, rfl, _⟩ | ⟨Z, rfl, _⟩ <;> exact nonD_cons (by decide)
theorem num_split {t W R W' P : List UInt8} {x : Int} (e : t = W ++ R) (d : Dig10 W) (n : NonD R) (h : Num t W' P x) : W' = W ∧ Rest R P x := by
  obtain ⟨R', e', a, _, r⟩ := h
  obtain ⟨h1, h2⟩ := split_digits (e.symm.trans e') d a.2 n (rest_nonD r)
  subst h1 h2
  exact ⟨rfl, r⟩
theorem exp_digits {Z : List UInt8} {x : Int} (h : Exp Z x) (c : ∀ X, Z ≠ 45 :: X ∧ Z ≠ 43 :: X) : AllD Z ∧ x = ((dec Z : Nat) : Int) := by
  rcases h with ⟨X, e, _⟩ | ⟨X, e, _⟩ | h
  · exact absurd e (c X).1
  · exact absurd e (c X).2
  · exact h
theorem exp_minus {X : List UInt8} {x : Int} (h : Exp (45 :: X) x) : AllD X ∧ x = -((dec X : Nat) : Int) := by
  rcases h with ⟨Y, e, h⟩ | ⟨Y, e, _⟩ | ⟨h, _⟩
  · injection e with _ e2; subst e2; exact h
  · injection e with e1 _; exact absurd e1 (by decide)
  · exact absurd (dig10_cons.1 h.2).1 (by decide)
theorem exp_plus {X : List UInt8} {x : Int} (h : Exp (43 :: X) x) : AllD X ∧ x = ((dec X : Nat) : Int) := by
  rcases h with ⟨Y, e, _⟩ | ⟨Y, e, h⟩ | ⟨h, _⟩
  · injection e with e1 _; exact absurd e1 (by decide)
  · injection e with _ e2; subst e2; exact h
  · exact absurd (dig10_cons.1 h.2).1 (by decide)
theorem exp_unique {Z : List UInt8} {x y : Int} (h : Exp Z x) (k : Exp Z y) : x = y := by
  by_cases c1 : ∃ X, Z = 45 :: X
  · obtain ⟨X, rfl⟩ := c1
    rw [(exp_minus h).2, (exp_minus k).2]
  · by_cases c2 : ∃ X, Z = 43 :: X
    · obtain ⟨X, rfl⟩ := c2
      rw [(exp_plus h).2, (exp_plus k).2]
    · have c : ∀ X, Z ≠ 45 :: X ∧ Z ≠ 43 :: X := fun X => ⟨fun e => c1 ⟨X, e⟩, fun e => c2 ⟨X, e⟩⟩
      rw [(exp_digits h c).2, (exp_digits k c).2]
/-- Behind the point: digits, then nothing, or an exponent. -/
theorem rest_point {P R P' : List UInt8} {x : Int} (d : Dig10 P) (n : NonD R) (h : Rest (46 :: (P ++ R)) P' x) : P' = P ∧ P ≠ [] ∧ ((R = [] ∧ x = 0) ∨ (∃ Z, R = 101 :: Z ∧ Exp Z x)) := by
  rcases h with ⟨e, a, rfl⟩ | ⟨Z, e, a, ex⟩ | ⟨Z, e, _⟩
  · injection e with _ e2
    have e3 : P ++ R = P' ++ [] := by rw [e2, List.append_nil]
    obtain ⟨h1, h2⟩ := split_digits e3 d a.2 n nonD_nil
    subst h1
    exact ⟨rfl, a.1, .inl ⟨h2, rfl⟩⟩
  · injection e with _ e2
    obtain ⟨h1, h2⟩ := split_digits e2 d a.2 n (nonD_cons (by decide))
    subst h1
    exact ⟨rfl, a.1, .inr ⟨Z, h2, ex⟩⟩
  · injection e with e1 _; exact absurd e1 (by decide)
theorem rest_exp {Z P : List UInt8} {x : Int} (h : Rest (101 :: Z) P x) : P = [] ∧ Exp Z x := by
  rcases h with ⟨e, _⟩ | ⟨Z', e, _⟩ | ⟨Z', e, p, ex⟩
  · injection e with e1 _; exact absurd e1 (by decide)
  · injection e with e1 _; exact absurd e1 (by decide)
  · injection e with _ e2; subst e2; exact ⟨p, ex⟩
theorem rest_other {b : UInt8} {r P : List UInt8} {x : Int} (h1 : b ≠ 46) (h2 : b ≠ 101) (h : Rest (b :: r) P x) : False := by
  rcases h with ⟨e, _⟩ | ⟨Z', e, _⟩ | ⟨Z', e, _⟩
  · injection e with e1 _; exact h1 e1
  · injection e with e1 _; exact h1 e1
  · injection e with e1 _; exact h2 e1
theorem rest_nil {P : List UInt8} {x : Int} (h : Rest [] P x) : False := by
  rcases h with ⟨e, _⟩ | ⟨Z', e, _⟩ | ⟨Z', e, _⟩ <;> cases e
theorem dig_split : ∀ (R : List UInt8), ∃ P S, R = P ++ S ∧ Dig10 P ∧ NonD S := by
  intro R
  induction R with
  | nil => exact ⟨[], [], rfl, fun b hb => (by cases hb), nonD_nil⟩
  | cons b r ih =>
    by_cases c : 48 ≤ b.toNat ∧ b.toNat ≤ 57
    · obtain ⟨P, S, e, d, n⟩ := ih
      exact ⟨b :: P, S, by rw [e]; rfl, dig10_cons.2 ⟨c, d⟩, n⟩
    · exact ⟨[], b :: r, rfl, fun b hb => (by cases hb), nonD_cons c⟩
theorem rest_unique {R P P' : List UInt8} {x y : Int} (h : Rest R P x) (k : Rest R P' y) : P = P' ∧ x = y := by
  cases R with
  | nil => exact absurd h rest_nil
  | cons b r =>
    by_cases c1 : b = 46
    · subst c1
      obtain ⟨Q, S, rfl, d, n⟩ := dig_split r
      obtain ⟨a1, _, a2⟩ := rest_point d n h
      obtain ⟨b1, _, b2⟩ := rest_point d n k
      refine ⟨by rw [a1, b1], ?_⟩
      rcases a2 with ⟨s, e⟩ | ⟨Z, s, e⟩ <;> rcases b2 with ⟨s', e'⟩ | ⟨Z', s', e'⟩
      · rw [e, e']
      · rw [s] at s'; cases s'
      · rw [s'] at s; cases s
      · rw [s] at s'
        injection s' with _ s2
        subst s2
        exact exp_unique e e'
    · by_cases c2 : b = 101
      · subst c2
        obtain ⟨a1, a2⟩ := rest_exp h
        obtain ⟨b1, b2⟩ := rest_exp k
        exact ⟨by rw [a1, b1], exp_unique a2 b2⟩
      · exact absurd h (rest_other c1 c2)
theorem num_unique {t W P W' P' : List UInt8} {x y : Int} (h : Num t W P x) (k : Num t W' P' y) : W = W' ∧ P = P' ∧ x = y := by
  obtain ⟨R, e, a, _, r⟩ := h
  obtain ⟨h1, h2⟩ := num_split e a.2 (rest_nonD r) k
  obtain ⟨h3, h4⟩ := rest_unique r h2
  exact ⟨h1.symm, h3, h4⟩
/-- What reading tells of a text without its sign. -/
def Res (t : List UInt8) (sg v : Nat) (e : Int) : Prop :=
  (∃ W P x r, Num t W P x ∧ NearD (dec (W ++ P)) (x - (P.length : Int)) r ∧ ((r = 9218868437227405312 ∧ v = 0 ∧ e = 7) ∨ (r ≠ 9218868437227405312 ∧ v = sg + r ∧ e = 0))) ∨ ((¬ ∃ W P x, Num t W P x) ∧ v = 0 ∧ e = 4)
theorem res_unique {t : List UInt8} {sg v v' : Nat} {e e' : Int} (h : Res t sg v e) (k : Res t sg v' e') : v = v' ∧ e = e' := by
  rcases h with ⟨W, P, x, r, n, d, c⟩ | ⟨n, a, b⟩ <;> rcases k with ⟨W', P', x', r', n', d', c'⟩ | ⟨n', a', b'⟩
  · obtain ⟨h1, h2, h3⟩ := num_unique n n'
    subst h1 h2 h3
    have hr := nearD_unique d d'
    subst hr
    rcases c with ⟨c1, c2, c3⟩ | ⟨c1, c2, c3⟩ <;> rcases c' with ⟨d1, d2, d3⟩ | ⟨d1, d2, d3⟩
    · exact ⟨by rw [c2, d2], by rw [c3, d3]⟩
    · exact absurd c1 d1
    · exact absurd d1 c1
    · exact ⟨by rw [c2, d2], by rw [c3, d3]⟩
  · exact absurd ⟨W, P, x, n⟩ n'
  · exact absurd ⟨W', P', x', n'⟩ n
  · exact ⟨by rw [a, a'], by rw [b, b']⟩
/-- What is far off is 0, or infinite. -/
theorem ten_two (k : Nat) : (2 : Nat) ^ (3 * k) ≤ 10 ^ k := by
  rw [Nat.pow_mul]
  exact Nat.pow_le_pow_left (by decide) k
theorem mid_zero : mid 0 = 2 := by unfold mid mant step; rw [if_pos (by decide)]
theorem nearD_none {m : Nat} {x : Int} (hm : m < 10 ^ 80) (hx : x < -500) : NearD m x 0 := by
  by_cases h : m = 0
  · exact .inl ⟨h, rfl⟩
  · refine .inr ⟨h, near_of_span (p10 _) (by decide) (.inl rfl) (.inl ?_)⟩
    rw [mid_zero, show x.toNat = 0 by omega, Nat.pow_zero, Nat.mul_one]
    obtain ⟨k, hk⟩ : ∃ k, (-x).toNat = 80 + k := ⟨(-x).toNat - 80, by omega⟩
    have hk2 : 420 < k := by omega
    rw [hk, Nat.pow_add]
    have h1 : T76 ≤ 10 ^ k := by
      refine Nat.le_trans ?_ (ten_two k)
      have e : T76 = 2 ^ (c74 + 2) := by rw [T76_eq, Nat.pow_add, Nat.mul_comm]
      rw [e]
      refine Nat.pow_le_pow_right (by decide) ?_
      show 1074 + 2 ≤ 3 * k
      omega
    have h2 : m * T76 < 10 ^ 80 * T76 := Nat.mul_lt_mul_of_pos_right hm (Nat.mul_pos (by decide) (Nat.pow_pos (by decide)))
    have h3 : 10 ^ 80 * T76 ≤ 10 ^ 80 * 10 ^ k := Nat.mul_le_mul_left _ h1
    generalize 10 ^ 80 * 10 ^ k = A at *
    omega
theorem nearD_all {m : Nat} {x : Int} (hm : m ≠ 0) (hx : 400 < x) : NearD m x 9218868437227405312 := by
  refine .inr ⟨hm, near_of_inf (p10 _) (.inr (.inl ?_))⟩
  rw [show 9218868437227405312 - 1 = 9218868437227405311 from rfl, mid_last, show (-x).toNat = 0 by omega, Nat.pow_zero, Nat.mul_one]
  refine Nat.mul_lt_mul_of_pos_right ?_ (Nat.mul_pos (by decide) (Nat.pow_pos (by decide)))
  have h1 : 18014398509481983 * 2 ^ c970 < 2 ^ 54 * 2 ^ c970 := Nat.mul_lt_mul_of_pos_right (by decide) (Nat.pow_pos (by decide))
  refine Nat.lt_of_lt_of_le h1 ?_
  have h2 : 2 ^ 54 * 2 ^ c970 ≤ 2 ^ (3 * x.toNat) := by
    rw [← Nat.pow_add]
    refine Nat.pow_le_pow_right (by decide) ?_
    show 54 + 970 ≤ _
    omega
  refine Nat.le_trans h2 (Nat.le_trans (ten_two _) ?_)
  exact Nat.le_mul_of_pos_left _ (Nat.pos_of_ne_zero hm)
/-- Two exponents that are one, or both far off. -/
def Alike (x y : Int) : Prop := x = y ∨ (400 < x ∧ 400 < y) ∨ (x < -500 ∧ y < -500)
theorem alike_near {m r : Nat} {x y : Int} (hm : m < 10 ^ 80) (h : Alike x y) (k : NearD m x r) : NearD m y r := by
  rcases h with rfl | ⟨h1, h2⟩ | ⟨h1, h2⟩
  · exact k
  · by_cases z : m = 0
    · rcases k with ⟨_, b⟩ | ⟨a, _⟩
      · exact .inl ⟨z, b⟩
      · exact absurd z a
    · rw [nearD_unique k (nearD_all z h1)]
      exact nearD_all z h2
  · rw [nearD_unique k (nearD_none hm h1)]
    exact nearD_none hm h2
end Go.Proofs.YtobbbhmkcmbekaaDoor.bigs
