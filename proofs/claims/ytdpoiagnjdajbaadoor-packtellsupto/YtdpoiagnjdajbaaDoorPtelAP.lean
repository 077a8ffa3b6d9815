/- Values as bytes: plain mathematics: the order of the bytes is that of the values. -/
import Derived.Test.YtdpoiagnjdajbaaDoorPtelAA
import Derived.Test.YtdpoiagnjdajbaaDoorPtelAO
import Derived.Test.YtdpoiagnjdajbaaDoorPtelAB
set_option linter.unusedVariables false
namespace Go.Proofs.YtdpoiagnjdajbaaDoor.valus

/-- So many bytes of a number, the greatest first. -/
def encB : Nat → Nat → List UInt8
  | 0, _ => []
  | k + 1, m => UInt8.ofNat (m / 256 ^ k % 256) :: encB k m
/-- A text's bytes, a 0 among them marked, and the end. -/
def chainF : List UInt8 → List UInt8
  | [] => []
  | c :: r => if c = 0 then 0 :: 255 :: chainF r else c :: chainF r
def chainL (s : List UInt8) : List UInt8 := chainF s ++ [0, 0]
/-- The bits of a fraction, turned. -/
def turnF (f : Nat) : Nat := if f < 9223372036854775808 then f + 9223372036854775808 else 18446744073709551615 - f
def listL (e : V → List UInt8) : List V → List UInt8
  | [] => [0]
  | x :: r => 1 :: (e x ++ listL e r)
def tabL (e : V → List UInt8) : List V → List UInt8
  | [] => [0]
  | x :: r => 1 :: (chainL (opnE x).1 ++ (e (opnE x).2 ++ tabL e r))
/-- What stands behind the byte of the kind. -/
def bodyL (e : V → List UInt8) (x : Lab) (L E : List V) : List UInt8 :=
  if x.1 = 1 then [UInt8.ofNat (x.2.1 % 256).toNat] else if x.1 = 2 then encB 8 (x.2.1 + 9223372036854775808).toNat else if x.1 = 3 then encB 8 (turnF x.2.2.1)
  else if x.1 = 4 then chainL x.2.2.2 else if x.1 = 5 then listL e L else if x.1 = 6 then tabL e E else []
def encV : Nat → V → List UInt8
  | 0, _ => []
  | n + 1, v => UInt8.ofNat ((opn v).1.1 + 1).toNat :: bodyL (encV n) (opn v).1 (opn v).2.1 (opn v).2.2

theorem chainF_cons (c : UInt8) (r : List UInt8) : chainF (c :: r) = if c = 0 then 0 :: 255 :: chainF r else c :: chainF r := rfl
theorem cmpB_cons (x y : UInt8) (p q : List UInt8) : cmpB (x :: p) (y :: q) = thenC (cmpI (x.toNat : Int) (y.toNat : Int)) (cmpB p q) := rfl
theorem cmpI_same (a : Int) : cmpI a a = .eq := (cmpI_ord.same a a trivial trivial).2 rfl
theorem cmpI_lt {a b : Int} (h : a < b) : cmpI a b = .lt := by unfold cmpI; rw [if_pos h]
theorem cmpI_gt {a b : Int} (h : b < a) : cmpI a b = .gt := by unfold cmpI; rw [if_neg (by omega), if_neg (by omega)]
theorem thenC_as (x y z : Ordering) : thenC (thenC x y) z = thenC x (thenC y z) := by cases x <;> rfl
theorem cmpI_plus (a b c : Int) : cmpI (a + c) (b + c) = cmpI a b := by
  unfold cmpI
  by_cases h1 : a < b
  · rw [if_pos h1, if_pos (by omega)]
  · rw [if_neg h1, if_neg (by omega)]
    by_cases h2 : a = b
    · rw [if_pos h2, if_pos (by omega)]
    · rw [if_neg h2, if_neg (by omega)]
theorem u8_small {n : Nat} (h : n < 256) : (UInt8.ofNat n).toNat = n := by
  rw [UInt8.toNat_ofNat']
  exact Nat.mod_eq_of_lt h
/-- Numbers. -/
theorem encB_ord : ∀ (k m n : Nat) (p q : List UInt8), m / 256 ^ k = n / 256 ^ k → cmpB (encB k m ++ p) (encB k n ++ q) = thenC (cmpI (m : Int) (n : Int)) (cmpB p q)
  | 0, m, n, p, q, h => by
    rw [Nat.pow_zero, Nat.div_one, Nat.div_one] at h
    rw [h, cmpI_same]
    rfl
  | k + 1, m, n, p, q, h => by
    show cmpB (UInt8.ofNat (m / 256 ^ k % 256) :: (encB k m ++ p)) (UInt8.ofNat (n / 256 ^ k % 256) :: (encB k n ++ q)) = _
    rw [cmpB_cons, u8_small (Nat.mod_lt _ (by omega)), u8_small (Nat.mod_lt _ (by omega))]
    rw [Nat.pow_succ, ← Nat.div_div_eq_div_mul, ← Nat.div_div_eq_div_mul] at h
    have hm := Nat.div_add_mod (m / 256 ^ k) 256
    have hn := Nat.div_add_mod (n / 256 ^ k) 256
    by_cases he : m / 256 ^ k = n / 256 ^ k
    · rw [he, cmpI_same]
      exact encB_ord k m n p q he
    · have hp : 0 < 256 ^ k := Nat.pow_pos (by omega)
      generalize 256 ^ k = P at *
      rcases Nat.lt_or_ge (m / P % 256) (n / P % 256) with hlt | hge
      · have : m < n := by
          have h1 : m / P < n / P := by omega
          exact Nat.lt_of_not_le fun hle => by have := Nat.div_le_div_right (c := P) hle; omega
        rw [cmpI_lt (by omega : ((m / P % 256 : Nat) : Int) < ((n / P % 256 : Nat) : Int)), cmpI_lt (by omega : (m : Int) < (n : Int))]
        rfl
      · have : n < m := by
          have h1 : n / P < m / P := by omega
          exact Nat.lt_of_not_le fun hle => by have := Nat.div_le_div_right (c := P) hle; omega
        rw [cmpI_gt (by omega : ((n / P % 256 : Nat) : Int) < ((m / P % 256 : Nat) : Int)), cmpI_gt (by omega : (n : Int) < (m : Int))]
        rfl
theorem enc8_ord {m n : Nat} (hm : m < 18446744073709551616) (hn : n < 18446744073709551616) (p q : List UInt8) : cmpB (encB 8 m ++ p) (encB 8 n ++ q) = thenC (cmpI (m : Int) (n : Int)) (cmpB p q) :=
  encB_ord 8 m n p q (by rw [Nat.div_eq_of_lt (by simpa using hm), Nat.div_eq_of_lt (by simpa using hn)])
theorem u8_pos {c : UInt8} (h : c ≠ 0) : 0 < c.toNat := by
  rcases Nat.eq_zero_or_pos c.toNat with h0 | h0
  · exact absurd (UInt8.toNat_inj.1 h0) h
  · exact h0
/-- Texts. -/
theorem chain_ord : ∀ (s t p q : List UInt8), cmpB (chainF s ++ (0 :: 0 :: p)) (chainF t ++ (0 :: 0 :: q)) = thenC (cmpB s t) (cmpB p q)
  | [], [], p, q => rfl
  | [], d :: t, p, q => by
    rw [chainF_cons]
    show cmpB (0 :: 0 :: p) _ = _
    have e : cmpB [] (d :: t) = .lt := rfl
    rw [e]
    by_cases h : d = 0
    · rw [if_pos h]
      rfl
    · rw [if_neg h]
      show cmpB (0 :: 0 :: p) (d :: (chainF t ++ (0 :: 0 :: q))) = .lt
      rw [cmpB_cons, cmpI_lt (by have := u8_pos h; show ((0 : Nat) : Int) < _; omega)]
      rfl
  | c :: s, [], p, q => by
    rw [chainF_cons]
    show cmpB _ (0 :: 0 :: q) = _
    have e : cmpB (c :: s) [] = .gt := rfl
    rw [e]
    by_cases h : c = 0
    · rw [if_pos h]
      rfl
    · rw [if_neg h]
      show cmpB (c :: (chainF s ++ (0 :: 0 :: p))) (0 :: 0 :: q) = .gt
      rw [cmpB_cons, cmpI_gt (by have := u8_pos h; show ((0 : Nat) : Int) < _; omega)]
      rfl
  | c :: s, d :: t, p, q => by
    have ih := chain_ord s t p q
    rw [cmpB_cons, thenC_as, ← ih, chainF_cons, chainF_cons]
    by_cases h : c = 0
    · by_cases g : d = 0
      · rw [if_pos h, if_pos g, h, g]
        rfl
      · rw [if_pos h, if_neg g, h]
        show cmpB (0 :: (255 :: (chainF s ++ (0 :: 0 :: p)))) (d :: (chainF t ++ (0 :: 0 :: q))) = _
        rw [cmpB_cons, cmpI_lt (by have := u8_pos g; show ((0 : Nat) : Int) < _; omega)]
        rfl
    · by_cases g : d = 0
      · rw [if_neg h, if_pos g, g]
        show cmpB (c :: (chainF s ++ (0 :: 0 :: p))) (0 :: (255 :: (chainF t ++ (0 :: 0 :: q)))) = _
        rw [cmpB_cons, cmpI_gt (by have := u8_pos h; show ((0 : Nat) : Int) < _; omega)]
        rfl
      · rw [if_neg h, if_neg g]
        rfl
theorem chainL_ord (s t p q : List UInt8) : cmpB (chainL s ++ p) (chainL t ++ q) = thenC (cmpB s t) (cmpB p q) := by
  unfold chainL
  rw [List.append_assoc, List.append_assoc]
  exact chain_ord s t p q
/-- Lists. -/
theorem listL_ord {e : V → List UInt8} {c : V → V → Ordering} : ∀ (L M : List V), (∀ x ∈ L, ∀ y ∈ M, ∀ p q, cmpB (e x ++ p) (e y ++ q) = thenC (c x y) (cmpB p q)) → ∀ p q, cmpB (listL e L ++ p) (listL e M ++ q) = thenC (cmpL c L M) (cmpB p q)
  | [], [], _, p, q => rfl
  | [], y :: t, _, p, q => rfl
  | x :: r, [], _, p, q => rfl
  | x :: r, y :: t, h, p, q => by
    have ih := listL_ord r t (fun a ha b hb => h a (by simp [ha]) b (by simp [hb])) p q
    show cmpB (1 :: ((e x ++ listL e r) ++ p)) (1 :: ((e y ++ listL e t) ++ q)) = thenC (thenC (c x y) (cmpL c r t)) _
    rw [cmpB_cons, List.append_assoc, List.append_assoc, h x (by simp) y (by simp), ih, thenC_as]
    rfl
theorem tabL_ord {e : V → List UInt8} {c : V → V → Ordering} : ∀ (E F : List V), (∀ x ∈ E, ∀ y ∈ F, ∀ p q, cmpB (e (opnE x).2 ++ p) (e (opnE y).2 ++ q) = thenC (c (opnE x).2 (opnE y).2) (cmpB p q)) → ∀ p q, cmpB (tabL e E ++ p) (tabL e F ++ q) = thenC (cmpL (cmpE c) E F) (cmpB p q)
  | [], [], _, p, q => rfl
  | [], y :: t, _, p, q => rfl
  | x :: r, [], _, p, q => rfl
  | x :: r, y :: t, h, p, q => by
    have ih := tabL_ord r t (fun a ha b hb => h a (by simp [ha]) b (by simp [hb])) p q
    show cmpB (1 :: ((chainL (opnE x).1 ++ (e (opnE x).2 ++ tabL e r)) ++ p)) (1 :: ((chainL (opnE y).1 ++ (e (opnE y).2 ++ tabL e t)) ++ q)) = thenC (thenC (thenC (cmpB (opnE x).1 (opnE y).1) (c (opnE x).2 (opnE y).2)) (cmpL (cmpE c) r t)) _
    simp only [List.append_assoc]
    rw [cmpB_cons, chainL_ord, h x (by simp) y (by simp), ih, thenC_as, thenC_as]
    rfl
/-- What a kind has, and nothing else. -/
structure OfKind (x : Lab) (L E : List V) : Prop where
  k : 0 ≤ x.1 ∧ x.1 ≤ 6
  n : x.2.1 ≠ 0 → x.1 = 1 ∨ x.1 = 2
  b : x.1 = 1 → x.2.1 = 0 ∨ x.2.1 = 1
  i : -9223372036854775808 ≤ x.2.1 ∧ x.2.1 ≤ 9223372036854775807
  f : x.2.2.1 ≠ 0 → x.1 = 3
  u : x.2.2.1 < 18446744073709551616
  s : x.2.2.2 ≠ [] → x.1 = 4
  l : L ≠ [] → x.1 = 5
  e : E ≠ [] → x.1 = 6
theorem turnF_key {f : Nat} (h : f < 18446744073709551616) : (turnF f : Int) = fkey f + 9223372036854775808 := by
  unfold turnF fkey
  split <;> omega
theorem turnF_lt {f : Nat} (h : f < 18446744073709551616) : turnF f < 18446744073709551616 := by
  unfold turnF
  split <;> omega
theorem not_or {P : Prop} {a : Int} (h : a ≠ 0 → P) (hp : ¬ P) : a = 0 := Decidable.byContradiction fun e => hp (h e)
theorem not_orN {P : Prop} {a : Nat} (h : a ≠ 0 → P) (hp : ¬ P) : a = 0 := Decidable.byContradiction fun e => hp (h e)
theorem not_orL {α : Type} {P : Prop} {a : List α} (h : a ≠ [] → P) (hp : ¬ P) : a = [] := by
  cases a with
  | nil => rfl
  | cons x r => exact absurd (h (by simp)) hp
theorem u8_kind {k : Int} (h : 0 ≤ k ∧ k ≤ 6) : ((UInt8.ofNat (k + 1).toNat).toNat : Int) = k + 1 := by
  rw [u8_small (by omega)]
  omega
/-- The kinds are the same: what stands behind tells. -/
theorem body_ord {e : V → List UInt8} {c : V → V → Ordering} {x y : Lab} {L M E F : List V} (hx : OfKind x L E) (hy : OfKind y M F) (hk : x.1 = y.1)
    (hL : ∀ a ∈ L, ∀ b ∈ M, ∀ p q, cmpB (e a ++ p) (e b ++ q) = thenC (c a b) (cmpB p q)) (hE : ∀ a ∈ E, ∀ b ∈ F, ∀ p q, cmpB (e (opnE a).2 ++ p) (e (opnE b).2 ++ q) = thenC (c (opnE a).2 (opnE b).2) (cmpB p q)) (p q : List UInt8) :
    cmpB (bodyL e x L E ++ p) (bodyL e y M F ++ q) = thenC (thenC (thenC (cmpI x.2.1 y.2.1) (thenC (cmpI (fkey x.2.2.1) (fkey y.2.2.1)) (cmpB x.2.2.2 y.2.2.2))) (thenC (cmpL c L M) (cmpL (cmpE c) E F))) (cmpB p q) := by
  have noN : x.1 ≠ 1 → x.1 ≠ 2 → x.2.1 = 0 ∧ y.2.1 = 0 := fun h1 h2 => ⟨not_or hx.n (by omega), not_or hy.n (by omega)⟩
  have noF : x.1 ≠ 3 → x.2.2.1 = 0 ∧ y.2.2.1 = 0 := fun h => ⟨not_orN hx.f (by omega), not_orN hy.f (by omega)⟩
  have noS : x.1 ≠ 4 → x.2.2.2 = [] ∧ y.2.2.2 = [] := fun h => ⟨not_orL hx.s (by omega), not_orL hy.s (by omega)⟩
  have noL : x.1 ≠ 5 → L = [] ∧ M = [] := fun h => ⟨not_orL hx.l (by omega), not_orL hy.l (by omega)⟩
  have noE : x.1 ≠ 6 → E = [] ∧ F = [] := fun h => ⟨not_orL hx.e (by omega), not_orL hy.e (by omega)⟩
  have eF : cmpI (fkey 0) (fkey 0) = .eq := cmpI_same _
  have eN : cmpI 0 0 = .eq := cmpI_same 0
  have eS : cmpB [] [] = .eq := rfl
  have eL : cmpL c ([] : List V) [] = .eq := rfl
  have eE : cmpL (cmpE c) ([] : List V) [] = .eq := rfl
  have tE : ∀ o, thenC .eq o = o := fun o => rfl
  have tN : ∀ o, thenC o .eq = o := fun o => by cases o <;> rfl
  unfold bodyL
  rw [← hk]
  by_cases k1 : x.1 = 1
  · obtain ⟨f1, f2⟩ := noF (by omega)
    obtain ⟨s1, s2⟩ := noS (by omega)
    obtain ⟨l1, l2⟩ := noL (by omega)
    obtain ⟨e1, e2⟩ := noE (by omega)
    rw [if_pos k1, if_pos k1, f1, f2, s1, s2, l1, l2, e1, e2]
    simp only [eF, eS, eL, eE, tE, tN]
    have h1 := hx.b k1
    have h2 := hy.b (by omega)
    show cmpB (_ :: p) (_ :: q) = _
    rw [cmpB_cons, u8_small (by omega), u8_small (by omega)]
    congr 1
    have g1 : (((x.2.1 % 256).toNat : Nat) : Int) = x.2.1 := by omega
    have g2 : (((y.2.1 % 256).toNat : Nat) : Int) = y.2.1 := by omega
    rw [g1, g2]
  · by_cases k2 : x.1 = 2
    · obtain ⟨f1, f2⟩ := noF (by omega)
      obtain ⟨s1, s2⟩ := noS (by omega)
      obtain ⟨l1, l2⟩ := noL (by omega)
      obtain ⟨e1, e2⟩ := noE (by omega)
      have i1 := hx.i
      have i2 := hy.i
      rw [if_neg k1, if_pos k2, if_neg k1, if_pos k2, f1, f2, s1, s2, l1, l2, e1, e2]
      simp only [eF, eS, eL, eE, tE, tN]
      rw [enc8_ord (by omega) (by omega)]
      have g1 : (((x.2.1 + 9223372036854775808).toNat : Nat) : Int) = x.2.1 + 9223372036854775808 := by omega
      have g2 : (((y.2.1 + 9223372036854775808).toNat : Nat) : Int) = y.2.1 + 9223372036854775808 := by omega
      rw [g1, g2, cmpI_plus]
    · obtain ⟨n1, n2⟩ := noN k1 k2
      rw [if_neg k1, if_neg k2, if_neg k1, if_neg k2, n1, n2, eN, tE]
      by_cases k3 : x.1 = 3
      · obtain ⟨s1, s2⟩ := noS (by omega)
        obtain ⟨l1, l2⟩ := noL (by omega)
        obtain ⟨e1, e2⟩ := noE (by omega)
        rw [if_pos k3, if_pos k3, s1, s2, l1, l2, e1, e2]
        simp only [eS, eL, eE, tE, tN]
        rw [enc8_ord (turnF_lt hx.u) (turnF_lt hy.u), turnF_key hx.u, turnF_key hy.u, cmpI_plus]
      · obtain ⟨f1, f2⟩ := noF k3
        rw [if_neg k3, if_neg k3, f1, f2, eF, tE]
        by_cases k4 : x.1 = 4
        · obtain ⟨l1, l2⟩ := noL (by omega)
          obtain ⟨e1, e2⟩ := noE (by omega)
          rw [if_pos k4, if_pos k4, l1, l2, e1, e2]
          simp only [eL, eE, tE, tN]
          exact chainL_ord _ _ _ _
        · obtain ⟨s1, s2⟩ := noS k4
          rw [if_neg k4, if_neg k4, s1, s2, eS, tE]
          by_cases k5 : x.1 = 5
          · obtain ⟨e1, e2⟩ := noE (by omega)
            rw [if_pos k5, if_pos k5, e1, e2, eE, tN]
            exact listL_ord L M hL p q
          · obtain ⟨l1, l2⟩ := noL k5
            rw [if_neg k5, if_neg k5, l1, l2, eL, tE]
            by_cases k6 : x.1 = 6
            · rw [if_pos k6, if_pos k6]
              exact tabL_ord E F hE p q
            · obtain ⟨e1, e2⟩ := noE k6
              rw [if_neg k6, if_neg k6, e1, e2]
              rfl
end Go.Proofs.YtdpoiagnjdajbaaDoor.valus
/- Good values as bytes: their order, their length. -/
set_option linter.unusedVariables false
namespace Go.Proofs.YtdpoiagnjdajbaaDoor.valus
open Go.RowKit

/-- Every value in it has what its kind has, and is not too long. -/
def GoodV : Nat → V → Prop
  | 0, _ => False
  | n + 1, v => OfKind (opn v).1 (opn v).2.1 (opn v).2.2 ∧ ((opn v).1.2.2.2.length ≤ 4000 ∧ ∀ e ∈ (opn v).2.2, (opnE e).1.length ≤ 100) ∧ (∀ y ∈ (opn v).2.1, GoodV n y) ∧ ∀ e ∈ (opn v).2.2, GoodV n (opnE e).2
theorem encV_ord : ∀ (n : Nat) (a b : V), GoodV n a → GoodV n b → ∀ p q, cmpB (encV n a ++ p) (encV n b ++ q) = thenC (cmpV n a b) (cmpB p q)
  | 0, _, _, h, _, _, _ => h.elim
  | n + 1, a, b, ⟨ka, _, la, ea⟩, ⟨kb, _, lb, eb⟩, p, q => by
    show cmpB (UInt8.ofNat ((opn a).1.1 + 1).toNat :: (bodyL (encV n) (opn a).1 (opn a).2.1 (opn a).2.2 ++ p)) (UInt8.ofNat ((opn b).1.1 + 1).toNat :: (bodyL (encV n) (opn b).1 (opn b).2.1 (opn b).2.2 ++ q)) = thenC (thenC (thenC (cmpI (opn a).1.1 (opn b).1.1) _) _) _
    rw [cmpB_cons, u8_kind ka.k, u8_kind kb.k, cmpI_plus]
    by_cases hk : (opn a).1.1 = (opn b).1.1
    · have hb := body_ord (e := encV n) (c := cmpV n) ka kb hk (fun x hx y hy => encV_ord n x y (la x hx) (lb y hy)) (fun x hx y hy => encV_ord n _ _ (ea x hx) (eb y hy)) p q
      rw [hb, hk, cmpI_same]
      rfl
    · rcases Int.lt_or_gt_of_ne hk with h | h
      · rw [cmpI_lt h]
        rfl
      · rw [cmpI_gt h]
        rfl
theorem cmpB_same (l : List UInt8) : cmpB l l = .eq := (cmpB_ord.same l l trivial trivial).2 rfl
/-- The order of the bytes. -/
theorem encV_cmp {n : Nat} {a b : V} (ha : GoodV n a) (hb : GoodV n b) : cmpB (encV n a) (encV n b) = cmpV n a b := by
  have := encV_ord n a b ha hb [] []
  rw [List.append_nil, List.append_nil, cmpB_same] at this
  rw [this]
  cases cmpV n a b <;> rfl
/-- None is the beginning of another's. -/
theorem encV_front {n : Nat} {a b : V} (ha : GoodV n a) (hb : GoodV n b) {r : List UInt8} (h : encV n a = encV n b ++ r) : cmpV n a b = .eq := by
  have := encV_ord n a b ha hb [] r
  rw [List.append_nil, h, cmpB_same] at this
  exact (thenC_eq.1 this.symm).1

theorem keysF_len : ∀ (l : List (List UInt8)) (p : Option (List UInt8)), keysF p l = 0 → ∀ k ∈ l, k.length ≤ 100
  | [], _, _, k, hk => by cases hk
  | x :: r, p, h, k, hk => by
    have h' : (if keyF p x = 0 then keysF (some x) r else keyF p x) = 0 := h
    by_cases h0 : keyF p x = 0
    · rw [if_pos h0] at h'
      rcases List.mem_cons.1 hk with rfl | hk
      · unfold keyF at h0
        by_cases h1 : 100 < k.length
        · rw [if_pos h1] at h0
          cases h0
        · omega
      · exact keysF_len r _ h' k hk
    · rw [if_neg h0] at h'
      exact absurd h' h0
theorem good_lies : ∀ {f : Nat} {ok : Nat → Prop} {w : World} {vs : List Value} {t : V}, LiesV ok f w vs t → faultV oneV t = 0 → GoodV f t
  | 0, _, _, _, _, h, _ => h.elim
  | f + 1, ok, w, vs, t, h, hf => by
    obtain ⟨k, n, b, s, L, E, pL, pE, cL, cE, rfl, rfl, ⟨h1, h2, h3, h4⟩, h5, rL, rE⟩ := h
    have h1v := good_one hf
    unfold oneV at h1v
    rw [opn_mk] at h1v
    simp only at h1v
    by_cases hk : KindOk k n b s.data.toList L.length E.length
    · rw [if_neg (fun h => h hk)] at h1v
      by_cases hb : 4000 < s.data.toList.length ∨ 200 < L.length ∨ 200 < E.length
      · rw [if_pos hb] at h1v
        cases h1v
      · rw [if_neg hb] at h1v
        have hks : keysF none (keysV E) = 0 := by
          by_cases hu : 0 ≤ utfs.bad s.data.toList
          · rw [if_pos hu] at h1v
            cases h1v
          · rw [if_neg hu] at h1v
            exact h1v
        obtain ⟨q1, q2, q3, q4, q5, q6, q7, _⟩ := hk
        refine ⟨⟨q1, fun h => q2.resolve_left h, q3, h2, fun h => q4.resolve_left h, h3, fun h => q5.resolve_left h, fun h => q6.resolve_left (fun e => h (List.eq_nil_of_length_eq_zero e)), fun h => q7.resolve_left (fun e => h (List.eq_nil_of_length_eq_zero e))⟩, ⟨?_, fun e he => ?_⟩, fun y hy => ?_, fun e he => ?_⟩
        · rw [opn_mk]
          simp only
          omega
        · rw [opn_mk] at he
          exact keysF_len _ _ hks _ (List.mem_map.2 ⟨e, he, rfl⟩)
        · rw [opn_mk] at hy
          simp only at hy
          obtain ⟨j, hj, ej⟩ := List.getElem_of_mem hy
          obtain ⟨B, o, _, _, _, hr⟩ := rL (by omega)
          obtain ⟨us, _, _, z, hz, hlz⟩ := hr j hj
          rw [List.getElem?_eq_getElem hj, ej] at hz
          injection hz with hz
          rw [hz]
          rw [hz] at hy
          exact good_lies hlz (good_part hf (by rw [parts_mk]; exact List.mem_append_left _ hy))
        · rw [opn_mk] at he
          simp only at he
          obtain ⟨j, hj, ej⟩ := List.getElem_of_mem he
          obtain ⟨B, o, _, _, _, hr⟩ := rE (by omega)
          obtain ⟨us, _, _, key, z, xs, hz, _, _, hlz⟩ := hr j hj
          rw [List.getElem?_eq_getElem hj, ej] at hz
          injection hz with hz
          have hp : z ∈ parts (mkV (k, n, b, s.data.toList) L E) := by
            rw [parts_mk]
            exact List.mem_append_right _ (List.mem_map.2 ⟨e, he, by rw [hz, opnE_ent]⟩)
          rw [hz, opnE_ent]
          exact good_lies hlz (good_part hf hp)
    · rw [if_pos hk] at h1v
      cases h1v
/-- How long. -/
theorem encB_len : ∀ (k m : Nat), (encB k m).length = k
  | 0, _ => rfl
  | k + 1, m => by
    show (encB k m).length + 1 = k + 1
    rw [encB_len k m]
theorem chainF_len : ∀ s : List UInt8, (chainF s).length ≤ 2 * s.length
  | [] => Nat.zero_le _
  | c :: r => by
    have := chainF_len r
    rw [chainF_cons]
    split
    · simp only [List.length_cons]
      omega
    · simp only [List.length_cons]
      omega
theorem chainL_len (s : List UInt8) : (chainL s).length ≤ 2 * s.length + 2 := by
  have := chainF_len s
  unfold chainL
  rw [List.length_append]
  simp only [List.length_cons, List.length_nil]
  omega
theorem listL_len {e : V → List UInt8} {c : V → Nat} : ∀ L : List V, (∀ x ∈ L, (e x).length + 1 ≤ 10000 * c x) → (listL e L).length ≤ 10000 * sumOf c L + 1
  | [], _ => by simp [listL]
  | x :: r, h => by
    have h1 := h x (by simp)
    have h2 := listL_len (c := c) r (fun y hy => h y (by simp [hy]))
    have e2 : sumOf c (x :: r) = c x + sumOf c r := rfl
    show (e x ++ listL e r).length + 1 ≤ _
    rw [List.length_append, e2]
    omega
theorem tabL_len {e : V → List UInt8} {c : V → Nat} : ∀ E : List V, (∀ x ∈ E, (opnE x).1.length ≤ 100 ∧ (e (opnE x).2).length + 1000 ≤ 10000 * c (opnE x).2) → (tabL e E).length ≤ 10000 * sumOf c (E.map fun x => (opnE x).2) + 1
  | [], _ => by simp [tabL]
  | x :: r, h => by
    obtain ⟨h0, h1⟩ := h x (by simp)
    have h2 := tabL_len (c := c) r (fun y hy => h y (by simp [hy]))
    have h3 := chainL_len (opnE x).1
    have e2 : sumOf c ((x :: r).map fun x => (opnE x).2) = c (opnE x).2 + sumOf c (r.map fun x => (opnE x).2) := rfl
    show (chainL (opnE x).1 ++ (e (opnE x).2 ++ tabL e r)).length + 1 ≤ _
    rw [List.length_append, List.length_append, e2]
    omega
theorem encV_len : ∀ (n : Nat) (v : V), GoodV n v → (encV n v).length + 1000 ≤ 10000 * nodesV n v
  | 0, _, h => h.elim
  | n + 1, v, ⟨k, ⟨s1, s2⟩, l, e⟩ => by
    have hn : nodesV (n + 1) v = sumOf (nodesV n) (parts v) + 1 := rfl
    have hp : sumOf (nodesV n) (parts v) = sumOf (nodesV n) (opn v).2.1 + sumOf (nodesV n) ((opn v).2.2.map fun x => (opnE x).2) := sumOf_append _ _ _
    have hL := listL_len (e := encV n) (c := nodesV n) (opn v).2.1 (fun x hx => by have := encV_len n x (l x hx); omega)
    have hE := tabL_len (e := encV n) (c := nodesV n) (opn v).2.2 (fun x hx => ⟨s2 x hx, encV_len n _ (e x hx)⟩)
    have hb : (bodyL (encV n) (opn v).1 (opn v).2.1 (opn v).2.2).length ≤ 10000 * sumOf (nodesV n) (parts v) + 8002 := by
      unfold bodyL
      split
      · simp only [List.length_cons, List.length_nil]
        omega
      · split
        · rw [encB_len]
          omega
        · split
          · rw [encB_len]
            omega
          · split
            · have := chainL_len (opn v).1.2.2.2
              omega
            · split
              · omega
              · split
                · omega
                · simp only [List.length_nil]
                  omega
    show (bodyL _ _ _ _).length + 1 + 1000 ≤ _
    rw [hn]
    omega
end Go.Proofs.YtdpoiagnjdajbaaDoor.valus
/- A reader of bytes, from the front: plain mathematics. -/
set_option linter.unusedVariables false
namespace Go.Proofs.YtdpoiagnjdajbaaDoor.valus

/-- What is left, whether it has failed, how many values were begun. -/
abbrev St := List UInt8 × Bool × Nat
def failM (s : St) : St := ([], true, s.2.2)
def byteM (s : St) : UInt8 × St := match s.1 with | [] => (0, failM s) | c :: r => (c, r, s.2.1, s.2.2)
def insideM (s : St) : Bool × St := if (byteM s).1 = 255 then (true, (byteM s).2) else if (byteM s).1 = 0 then (false, (byteM s).2) else (false, failM (byteM s).2)
def hasM (s : St) : Bool × St := if (byteM s).1 = 1 then (true, (byteM s).2) else if (byteM s).1 = 0 then (false, (byteM s).2) else (false, failM (byteM s).2)
def numM : Nat → Nat → St → Nat × St
  | 0, m, s => (m, s)
  | k + 1, m, s => numM k (m * 256 + (byteM s).1.toNat) (byteM s).2
theorem byteM_cons (c : UInt8) (r : List UInt8) (x : Bool × Nat) : byteM (c :: r, x) = (c, r, x) := rfl
theorem byteM_len (s : St) : (byteM s).2.1.length ≤ s.1.length := by
  unfold byteM failM
  split
  · exact Nat.zero_le _
  · rename_i c r h
    rw [h]
    exact Nat.le_succ _
/-- What was written is read. -/
theorem numM_enc : ∀ (k m a : Nat) (p : List UInt8) (x : Bool × Nat), numM k a (encB k m ++ p, x) = (a * 256 ^ k + m % 256 ^ k, p, x)
  | 0, m, a, p, x => by simp [numM, encB, Nat.mod_one]
  | k + 1, m, a, p, x => by
    show numM k (a * 256 + (UInt8.ofNat (m / 256 ^ k % 256)).toNat) (encB k m ++ p, x) = _
    rw [u8_small (Nat.mod_lt _ (by omega)), numM_enc k m _ p x]
    congr 1
    have h1 : m % 256 ^ (k + 1) = m % 256 ^ k + 256 ^ k * (m / 256 ^ k % 256) := by rw [Nat.pow_succ, Nat.mod_mul]
    rw [h1, Nat.pow_succ, Nat.add_mul, Nat.mul_assoc, Nat.mul_comm 256 (256 ^ k), Nat.mul_comm (m / 256 ^ k % 256)]
    omega
theorem numM_lt : ∀ (k a : Nat) (s : St), (numM k a s).1 < (a + 1) * 256 ^ k
  | 0, a, s => by simp [numM]
  | k + 1, a, s => by
    have h := numM_lt k (a * 256 + (byteM s).1.toNat) (byteM s).2
    have hb := (byteM s).1.toNat_lt
    show (numM k (a * 256 + (byteM s).1.toNat) (byteM s).2).1 < _
    refine Nat.lt_of_lt_of_le h ?_
    rw [Nat.pow_succ, Nat.mul_comm (256 ^ k) 256, ← Nat.mul_assoc]
    exact Nat.mul_le_mul_right _ (by omega)
theorem numM_snoc : ∀ (k a : Nat) (s : St), numM (k + 1) a s = ((numM k a s).1 * 256 + (byteM (numM k a s).2).1.toNat, (byteM (numM k a s).2).2)
  | 0, a, s => rfl
  | k + 1, a, s => by
    show numM (k + 1) (a * 256 + (byteM s).1.toNat) (byteM s).2 = _
    rw [numM_snoc k]
    rfl
end Go.Proofs.YtdpoiagnjdajbaaDoor.valus
