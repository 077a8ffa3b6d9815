/- Of our texts, what this claim reaches. -/
import GoSem.ClaimWide
set_option linter.unusedVariables false
namespace Go.Proofs.YtadaehaemmelfaaDoor.valus
structure IsOrd {α : Type} (P : α → Prop) (c : α → α → Ordering) : Prop where
 swap : ∀ a b, P a → P b → c b a = (c a b).swap
 same : ∀ a b, P a → P b → (c a b = .eq ↔ a = b)
 trans : ∀ a b d, P a → P b → P d → c a b = .lt → c b d = .lt → c a d = .lt
theorem IsOrd.refl {α : Type} {P : α → Prop} {c : α → α → Ordering} (h : IsOrd P c) {a : α} (ha : P a) : c a a = .eq := (h.same a a ha ha).2 rfl
theorem IsOrd.mono {α : Type} {P Q : α → Prop} {c : α → α → Ordering} (h : IsOrd P c) (hq : ∀ a, Q a → P a) : IsOrd Q c :=
 ⟨fun a b ha hb => h.swap a b (hq a ha) (hq b hb), fun a b ha hb => h.same a b (hq a ha) (hq b hb), fun a b d ha hb hd => h.trans a b d (hq a ha) (hq b hb) (hq d hd)⟩
def cmpI (a b : Int) : Ordering := if a < b then .lt else if a = b then .eq else .gt
theorem cmpI_ord : IsOrd (fun _ => True) cmpI := by
 refine ⟨fun a b _ _ => ?_, fun a b _ _ => ?_, fun a b d _ _ _ h1 h2 => ?_⟩
 ·unfold cmpI
  by_cases h1 : a < b
  ·rw [if_pos h1, if_neg (by omega), if_neg (by omega)]; rfl
  ·by_cases h2 : a = b
   ·rw [if_neg h1, if_pos h2, if_neg (by omega), if_pos h2.symm]; rfl
   ·rw [if_neg h1, if_neg h2, if_pos (by omega)]; rfl
 ·unfold cmpI
  by_cases h1 : a < b
  ·rw [if_pos h1]
   exact ⟨fun h => (by cases h), fun h => (by omega)⟩
  ·by_cases h2 : a = b
   ·rw [if_neg h1, if_pos h2]
    exact ⟨fun _ => h2, fun _ => rfl⟩
   ·rw [if_neg h1, if_neg h2]
    exact ⟨fun h => (by cases h), fun h => absurd h h2⟩
 ·have e : ∀ x y, cmpI x y = .lt → x < y := fun x y h => by
   unfold cmpI at h
   by_cases h1 : x < y
   ·exact h1
   ·by_cases h2 : x = y
    ·rw [if_neg h1, if_pos h2] at h; cases h
    ·rw [if_neg h1, if_neg h2] at h; cases h
  unfold cmpI
  rw [if_pos (Int.lt_trans (e _ _ h1) (e _ _ h2))]
theorem IsOrd.key {α β : Type} {P : β → Prop} {Q : α → Prop} {c : β → β → Ordering} (h : IsOrd P c) (f : α → β) (hp : ∀ a, Q a → P (f a)) (hi : ∀ a b, Q a → Q b → f a = f b → a = b) : IsOrd Q (fun a b => c (f a) (f b)) :=
 ⟨fun a b ha hb => h.swap _ _ (hp a ha) (hp b hb), fun a b ha hb => ⟨fun e => hi a b ha hb ((h.same _ _ (hp a ha) (hp b hb)).1 e), fun e => by subst e; exact h.refl (hp a ha)⟩, fun a b d ha hb hd => h.trans _ _ _ (hp a ha) (hp b hb) (hp d hd)⟩
def thenC (x y : Ordering) : Ordering := match x with | .eq => y | _ => x
theorem thenC_lt {x y : Ordering} (h : thenC x y = .lt) : x = .lt ∨ (x = .eq ∧ y = .lt) := by
 cases x with
 | lt => exact .inl rfl
 | eq => exact .inr ⟨rfl, h⟩
 | gt => cases h
theorem thenC_eq {x y : Ordering} : thenC x y = .eq ↔ x = .eq ∧ y = .eq := by
 cases x with
 | lt => exact ⟨fun h => (by cases h), fun h => (by cases h.1)⟩
 | eq => exact ⟨fun h => ⟨rfl, h⟩, fun h => h.2⟩
 | gt => exact ⟨fun h => (by cases h), fun h => (by cases h.1)⟩
theorem thenC_swap (x y : Ordering) : (thenC x y).swap = thenC x.swap y.swap := by cases x <;> rfl
def cmpL {α : Type} (c : α → α → Ordering) : List α → List α → Ordering
 | [], [] => .eq
 | [], _ :: _ => .lt
 | _ :: _, [] => .gt
 | x :: r, y :: t => thenC (c x y) (cmpL c r t)
theorem IsOrd.list {α : Type} {P : α → Prop} {c : α → α → Ordering} (h : IsOrd P c) : IsOrd (fun l : List α => ∀ x ∈ l, P x) (cmpL c) := by
 have sw : ∀ a b : List α, (∀ x ∈ a, P x) → (∀ x ∈ b, P x) → cmpL c b a = (cmpL c a b).swap := by
  intro a
  induction a with
  | nil => intro b _ _; cases b <;> rfl
  | cons x r ih =>
   intro b ha hb
   cases b with
   | nil => rfl
   | cons y t =>
    show thenC _ _ = (thenC _ _).swap
    rw [thenC_swap, h.swap x y (ha x (by simp)) (hb y (by simp)), ih t (fun z hz => ha z (by simp [hz])) (fun z hz => hb z (by simp [hz]))]
 have sm : ∀ a b : List α, (∀ x ∈ a, P x) → (∀ x ∈ b, P x) → (cmpL c a b = .eq ↔ a = b) := by
  intro a
  induction a with
  | nil =>
   intro b _ _
   cases b with
   | nil => exact ⟨fun _ => rfl, fun _ => rfl⟩
   | cons y t => exact ⟨fun h => (by cases h), fun h => (by cases h)⟩
  | cons x r ih =>
   intro b ha hb
   cases b with
   | nil => exact ⟨fun h => (by cases h), fun h => (by cases h)⟩
   | cons y t =>
    show thenC _ _ = .eq ↔ _
    rw [thenC_eq, h.same x y (ha x (by simp)) (hb y (by simp)), ih t (fun z hz => ha z (by simp [hz])) (fun z hz => hb z (by simp [hz]))]
    exact ⟨fun e => by rw [e.1, e.2], fun e => by injection e with e1 e2; exact ⟨e1, e2⟩⟩
 refine ⟨sw, sm, ?_⟩
 intro a
 induction a with
 | nil =>
  intro b d _ _ _ h1 h2
  cases b with
  | nil => cases h1
  | cons y t =>
   cases d with
   | nil => cases h2
   | cons z u => rfl
 | cons x r ih =>
  intro b d ha hb hd h1 h2
  cases b with
  | nil => cases h1
  | cons y t =>
   cases d with
   | nil => cases h2
   | cons z u =>
    have hx := ha x (by simp)
    have hy := hb y (by simp)
    have hz := hd z (by simp)
    show thenC _ _ = .lt
    rcases thenC_lt h1 with a1 | ⟨a1, b1⟩
    ·rcases thenC_lt h2 with a2 | ⟨a2, b2⟩
     ·rw [h.trans x y z hx hy hz a1 a2]; rfl
     ·have e := (h.same y z hy hz).1 a2
      rw [← e, a1]; rfl
    ·have e := (h.same x y hx hy).1 a1
     rcases thenC_lt h2 with a2 | ⟨a2, b2⟩
     ·rw [e, a2]; rfl
     ·rw [e, a2]
      exact ih t u (fun z hz => ha z (by simp [hz])) (fun z hz => hb z (by simp [hz])) (fun z hz => hd z (by simp [hz])) b1 b2
def cmpB : List UInt8 → List UInt8 → Ordering := cmpL (fun a b => cmpI (a.toNat : Int) (b.toNat : Int))
theorem cmpB_ord : IsOrd (fun _ => True) cmpB := by
 have h : IsOrd (fun _ : UInt8 => True) (fun a b => cmpI (a.toNat : Int) (b.toNat : Int)) := cmpI_ord.key (fun a : UInt8 => (a.toNat : Int)) (fun _ _ => trivial) (fun a b _ _ e => UInt8.toNat_inj.1 (by omega))
 exact h.list.mono (fun _ _ x _ => trivial)
end Go.Proofs.YtadaehaemmelfaaDoor.valus
namespace Go.Proofs.YtadaehaemmelfaaDoor.valus
abbrev Lab := Int × Int × Nat × List UInt8
abbrev V := DataW Lab
def mkV (x : Lab) (L E : List V) : V := .slice L (.held x :: E)
def ent (k : List UInt8) (v : V) : V := mkV (0, 0, 0, k) [v] []
def opn : V → Lab × List V × List V
 | .slice L (.held x :: E) => (x, L, E)
 | _ => ((0, 0, 0, []), [], [])
theorem opn_mk (x : Lab) (L E : List V) : opn (mkV x L E) = (x, L, E) := rfl
def opnE (e : V) : List UInt8 × V := ((opn e).1.2.2.2, (opn e).2.1.headD .nil)
theorem opnE_ent (k : List UInt8) (v : V) : opnE (ent k v) = (k, v) := rfl
theorem mkV_inj {x y : Lab} {L M E F : List V} (h : mkV x L E = mkV y M F) : x = y ∧ L = M ∧ E = F := by
 have e := congrArg opn h
 rw [opn_mk, opn_mk] at e
 injection e with e1 e2
 injection e2 with e3 e4
 exact ⟨e1, e3, e4⟩
theorem ent_inj {k m : List UInt8} {v u : V} (h : ent k v = ent m u) : k = m ∧ v = u := by
 have e := congrArg opnE h
 rw [opnE_ent, opnE_ent] at e
 injection e with e1 e2
 exact ⟨e1, e2⟩
def IsV : Nat → V → Prop
 | 0, _ => False
 | n + 1, v => ∃ x L E, v = mkV x L E ∧ x.2.2.1 < 18446744073709551616 ∧ (∀ y ∈ L, IsV n y) ∧ ∀ e ∈ E, ∃ k y, e = ent k y ∧ IsV n y
def IsE (n : Nat) (e : V) : Prop := ∃ k y, e = ent k y ∧ IsV n y
theorem IsV.mk {n : Nat} {x : Lab} {L E : List V} : IsV (n + 1) (mkV x L E) ↔ x.2.2.1 < 18446744073709551616 ∧ (∀ y ∈ L, IsV n y) ∧ ∀ e ∈ E, IsE n e := by
 constructor
 ·rintro ⟨x', L', E', h, a, b, c⟩
  obtain ⟨h1, h2, h3⟩ := mkV_inj h
  subst h1; subst h2; subst h3
  exact ⟨a, b, c⟩
 ·rintro ⟨a, b, c⟩
  exact ⟨x, L, E, rfl, a, b, c⟩
end Go.Proofs.YtadaehaemmelfaaDoor.valus
namespace Go.Proofs.YtadaehaemmelfaaDoor.valus
def parts (v : V) : List V := (opn v).2.1 ++ (opn v).2.2.map (fun e => (opnE e).2)
theorem parts_mk (x : Lab) (L E : List V) : parts (mkV x L E) = L ++ E.map (fun e => (opnE e).2) := rfl
theorem IsV.part {n : Nat} {v y : V} (h : IsV (n + 1) v) (hy : y ∈ parts v) : IsV n y := by
 obtain ⟨x, L, E, rfl, a, b, c⟩ := h
 rw [parts_mk, List.mem_append, List.mem_map] at hy
 rcases hy with hy | ⟨e, he, rfl⟩
 ·exact b y hy
 ·obtain ⟨k, z, rfl, hz⟩ := c e he
  exact hz
def maxOf (q : V → Nat) : List V → Nat
 | [] => 0
 | x :: r => max (q x) (maxOf q r)
def sumOf (q : V → Nat) : List V → Nat
 | [] => 0
 | x :: r => q x + sumOf q r
theorem maxOf_append (q : V → Nat) : ∀ l m : List V, maxOf q (l ++ m) = max (maxOf q l) (maxOf q m)
 | [], m => by show maxOf q m = max 0 _; omega
 | x :: r, m => by
  show max _ (maxOf q (r ++ m)) = max (max _ _) _
  rw [maxOf_append q r m]
  omega
theorem sumOf_append (q : V → Nat) : ∀ l m : List V, sumOf q (l ++ m) = sumOf q l + sumOf q m
 | [], m => by show sumOf q m = 0 + _; omega
 | x :: r, m => by
  show _ + sumOf q (r ++ m) = _ + _ + _
  rw [sumOf_append q r m]
  omega
theorem maxOf_congr {p q : V → Nat} : ∀ {l : List V}, (∀ x ∈ l, p x = q x) → maxOf p l = maxOf q l
 | [], _ => rfl
 | x :: r, h => by
  show max _ _ = max _ _
  rw [h x (by simp), maxOf_congr (fun y hy => h y (by simp [hy]))]
theorem sumOf_congr {p q : V → Nat} : ∀ {l : List V}, (∀ x ∈ l, p x = q x) → sumOf p l = sumOf q l
 | [], _ => rfl
 | x :: r, h => by
  show _ + _ = _ + _
  rw [h x (by simp), sumOf_congr (fun y hy => h y (by simp [hy]))]
theorem le_maxOf {q : V → Nat} : ∀ {l : List V} {x : V}, x ∈ l → q x ≤ maxOf q l
 | y :: r, x, h => by
  show _ ≤ max _ _
  rcases List.mem_cons.1 h with rfl | h
  ·omega
  ·have := le_maxOf (q := q) h
   omega
theorem maxOf_le {q : V → Nat} {b : Nat} : ∀ {l : List V}, (∀ x ∈ l, q x ≤ b) → maxOf q l ≤ b
 | [], _ => Nat.zero_le _
 | x :: r, h => by
  show max _ _ ≤ b
  have h1 := h x (by simp)
  have h2 := maxOf_le (q := q) (b := b) (l := r) (fun y hy => h y (by simp [hy]))
  omega
theorem le_sumOf {q : V → Nat} : ∀ {l : List V} {x : V}, x ∈ l → q x ≤ sumOf q l
 | y :: r, x, h => by
  show _ ≤ _ + _
  rcases List.mem_cons.1 h with rfl | h
  ·omega
  ·have := le_sumOf (q := q) h
   omega
def depthV : Nat → V → Nat
 | 0, _ => 0
 | n + 1, v => maxOf (depthV n) (parts v) + 1
def nodesV : Nat → V → Nat
 | 0, _ => 0
 | n + 1, v => sumOf (nodesV n) (parts v) + 1
theorem depthV_more : ∀ {n : Nat} {v : V}, IsV n v → depthV (n + 1) v = depthV n v
 | 0, _, h => h.elim
 | n + 1, v, h => by
  show maxOf (depthV (n + 1)) _ + 1 = maxOf (depthV n) _ + 1
  rw [maxOf_congr (fun x hx => depthV_more (h.part hx))]
theorem nodesV_more : ∀ {n : Nat} {v : V}, IsV n v → nodesV (n + 1) v = nodesV n v
 | 0, _, h => h.elim
 | n + 1, v, h => by
  show sumOf (nodesV (n + 1)) _ + 1 = sumOf (nodesV n) _ + 1
  rw [sumOf_congr (fun x hx => nodesV_more (h.part hx))]
def chk (one : V → Int) : Nat → List (V × Nat) → Int
 | _, [] => 0
 | 0, _ :: _ => 2
 | f + 1, (v, d) :: r => if 20 ≤ d then 5 else if one v = 0 then chk one f ((parts v).map (fun y => (y, d + 1)) ++ r) else one v
def recL (q : Nat → V → Int ⊕ Nat) : Nat → List V → Int ⊕ Nat
 | f, [] => .inr f
 | f, x :: r => match q f x with
  | .inl e => .inl e
  | .inr g => recL q g r
def recV (one : V → Int) : Nat → Nat → V → Int ⊕ Nat
 | _, 0, _ => .inl 2
 | 0, _ + 1, _ => .inl 5
 | l + 1, f + 1, v => if one v = 0 then recL (recV one l) f (parts v) else .inl (one v)
def fin (s : Int ⊕ Nat) (k : Nat → Int) : Int := match s with | .inl e => e | .inr g => k g
theorem chk_list {one : V → Int} {l : Nat} (h : ∀ v f r, chk one f ((v, 20 - l) :: r) = fin (recV one l f v) (fun g => chk one g r)) : ∀ (ps : List V) (f : Nat) (r : List (V × Nat)), chk one f (ps.map (fun y => (y, 20 - l)) ++ r) = fin (recL (recV one l) f ps) (fun g => chk one g r)
 | [], f, r => rfl
 | x :: ps, f, r => by
  rw [List.map_cons, List.cons_append, h]
  show _ = fin (match recV one l f x with | .inl e => .inl e | .inr g => recL (recV one l) g ps) _
  cases recV one l f x with
  | inl e => rfl
  | inr g => exact chk_list h ps g r
theorem chk_one (one : V → Int) : ∀ (l : Nat), l ≤ 20 → ∀ v f r, chk one f ((v, 20 - l) :: r) = fin (recV one l f v) (fun g => chk one g r)
 | l, _, v, 0, r => by cases l <;> rfl
 | 0, _, v, f + 1, r => rfl
 | l + 1, hl, v, f + 1, r => by
  have ih := chk_list (chk_one one l (by omega)) (parts v) f r
  show (if 20 ≤ 20 - (l + 1) then 5 else if one v = 0 then _ else one v) = fin (if one v = 0 then _ else _) _
  rw [if_neg (by omega)]
  by_cases h0 : one v = 0
  ·rw [if_pos h0, if_pos h0, ← ih]
   have e : 20 - (l + 1) + 1 = 20 - l := by omega
   rw [e]
  ·rw [if_neg h0, if_neg h0]
   rfl
def faultV (one : V → Int) (v : V) : Int := chk one 2000 [(v, 0)]
theorem faultV_rec (one : V → Int) (v : V) : faultV one v = fin (recV one 20 2000 v) (fun _ => 0) := by
 refine (chk_one one 20 (Nat.le_refl _) v 2000 []).trans ?_
 cases recV one 20 2000 v with
 | inl e => rfl
 | inr g => cases g <;> rfl
end Go.Proofs.YtadaehaemmelfaaDoor.valus
namespace Go.Proofs.YtadaehaemmelfaaDoor.valus
theorem recL_more {q p : Nat → V → Int ⊕ Nat} {k : Nat} (h : ∀ x f g, q f x = .inr g → p (f + k) x = .inr (g + k)) : ∀ {ps : List V} {f g : Nat}, recL q f ps = .inr g → recL p (f + k) ps = .inr (g + k)
 | [], f, g, e => by
  injection e with e
  rw [← e]
  rfl
 | x :: ps, f, g, e => by
  show (match p (f + k) x with | .inl e => Sum.inl e | .inr g => recL p g ps) = _
  cases hx : q f x with
  | inl z =>
   have e' : (match q f x with | .inl e => Sum.inl e | .inr g => recL q g ps) = .inr g := e
   rw [hx] at e'
   cases e'
  | inr z =>
   have e' : (match q f x with | .inl e => Sum.inl e | .inr g => recL q g ps) = .inr g := e
   rw [hx] at e'
   rw [h x f z hx]
   exact recL_more h e'
theorem recV_more (one : V → Int) (k : Nat) : ∀ (l : Nat) (v : V) (f g : Nat), recV one l f v = .inr g → recV one (l + 1) (f + k) v = .inr (g + k)
 | l, v, 0, g, e => by cases l <;> cases e
 | 0, v, f + 1, g, e => by cases e
 | l + 1, v, f + 1, g, e => by
  have e' : (if one v = 0 then recL (recV one l) f (parts v) else .inl (one v)) = .inr g := e
  have hf : f + 1 + k = (f + k) + 1 := by omega
  rw [hf]
  show (if one v = 0 then recL (recV one (l + 1)) (f + k) (parts v) else .inl (one v)) = .inr (g + k)
  by_cases h0 : one v = 0
  ·rw [if_pos h0] at e' ⊢
   exact recL_more (recV_more one k l) e'
  ·rw [if_neg h0] at e'
   cases e'
theorem recL_count {q : Nat → V → Int ⊕ Nat} {c d : V → Nat} {b : Nat} : ∀ {ps : List V} {f g : Nat}, (∀ x ∈ ps, ∀ f g, q f x = .inr g → f = g + c x ∧ d x ≤ b) → recL q f ps = .inr g → f = g + sumOf c ps ∧ ∀ x ∈ ps, d x ≤ b
 | [], f, g, h, e => by
  injection e with e
  exact ⟨e, fun x hx => by cases hx⟩
 | x :: ps, f, g, h, e => by
  have e' : (match q f x with | .inl e => Sum.inl e | .inr g => recL q g ps) = .inr g := e
  cases hx : q f x with
  | inl z =>
   rw [hx] at e'
   cases e'
  | inr z =>
   rw [hx] at e'
   obtain ⟨a1, a2⟩ := h x (by simp) f z hx
   obtain ⟨b1, b2⟩ := recL_count (ps := ps) (fun y hy => h y (by simp [hy])) e'
   refine ⟨?_, fun y hy => ?_⟩
   ·show f = g + (c x + sumOf c ps)
    omega
   ·rcases List.mem_cons.1 hy with rfl | hy
    ·exact a2
    ·exact b2 y hy
theorem recV_count (one : V → Int) : ∀ (l n : Nat) (v : V) (f g : Nat), IsV n v → recV one l f v = .inr g → f = g + nodesV n v ∧ depthV n v ≤ l
 | l, _, v, 0, g, _, e => by cases l <;> cases e
 | 0, _, v, f + 1, g, _, e => by cases e
 | l + 1, 0, v, f + 1, g, h, e => h.elim
 | l + 1, n + 1, v, f + 1, g, h, e => by
  have e' : (if one v = 0 then recL (recV one l) f (parts v) else .inl (one v)) = .inr g := e
  by_cases h0 : one v = 0
  ·rw [if_pos h0] at e'
   obtain ⟨a, b⟩ := recL_count (c := nodesV n) (d := depthV n) (b := l) (fun x hx f g hg => recV_count one l n x f g (h.part hx) hg) e'
   refine ⟨?_, Nat.succ_le_succ (maxOf_le b)⟩
   show f + 1 = g + (sumOf (nodesV n) (parts v) + 1)
   omega
  ·rw [if_neg h0] at e'
   cases e'
theorem recL_each {q : Nat → V → Int ⊕ Nat} : ∀ {ps : List V} {f g : Nat}, (∀ x f g, q f x = .inr g → g ≤ f) → recL q f ps = .inr g → ∀ x ∈ ps, ∃ f' g', f' ≤ f ∧ q f' x = .inr g'
 | [], f, g, h, e, x, hx => by cases hx
 | x :: ps, f, g, h, e, y, hy => by
  have e' : (match q f x with | .inl e => Sum.inl e | .inr g => recL q g ps) = .inr g := e
  cases hx : q f x with
  | inl z =>
   rw [hx] at e'
   cases e'
  | inr z =>
   rw [hx] at e'
   rcases List.mem_cons.1 hy with rfl | hy
   ·exact ⟨f, z, Nat.le_refl _, hx⟩
   ·obtain ⟨f', g', a, b⟩ := recL_each h e' y hy
    exact ⟨f', g', Nat.le_trans a (h x f z hx), b⟩
theorem recL_le {q : Nat → V → Int ⊕ Nat} (h : ∀ x f g, q f x = .inr g → g ≤ f) : ∀ {ps : List V} {f g : Nat}, recL q f ps = .inr g → g ≤ f
 | [], f, g, e => by
  injection e with e
  omega
 | x :: ps, f, g, e => by
  have e' : (match q f x with | .inl e => Sum.inl e | .inr g => recL q g ps) = .inr g := e
  cases hx : q f x with
  | inl z =>
   rw [hx] at e'
   cases e'
  | inr z =>
   rw [hx] at e'
   exact Nat.le_trans (recL_le h e') (h x f z hx)
theorem recV_le (one : V → Int) : ∀ (l : Nat) (v : V) (f g : Nat), recV one l f v = .inr g → g ≤ f
 | l, v, 0, g, e => by cases l <;> cases e
 | 0, v, f + 1, g, e => by cases e
 | l + 1, v, f + 1, g, e => by
  have e' : (if one v = 0 then recL (recV one l) f (parts v) else .inl (one v)) = .inr g := e
  by_cases h0 : one v = 0
  ·rw [if_pos h0] at e'
   exact Nat.le_succ_of_le (recL_le (recV_le one l) e')
  ·rw [if_neg h0] at e'
   cases e'
theorem recL_ne {q : Nat → V → Int ⊕ Nat} (h : ∀ x f, q f x ≠ .inl 0) : ∀ {ps : List V} {f : Nat}, recL q f ps ≠ .inl 0
 | [], f => fun e => by cases e
 | x :: ps, f => by
  show (match q f x with | .inl e => Sum.inl e | .inr g => recL q g ps) ≠ _
  cases hx : q f x with
  | inl z =>
   intro e
   injection e with e
   rw [e] at hx
   exact h x f hx
  | inr z => exact recL_ne h
theorem recV_ne (one : V → Int) : ∀ (l : Nat) (v : V) (f : Nat), recV one l f v ≠ .inl 0
 | l, v, 0 => fun e => by cases l <;> cases e
 | 0, v, f + 1 => fun e => by cases e
 | l + 1, v, f + 1 => by
  show (if one v = 0 then recL (recV one l) f (parts v) else .inl (one v)) ≠ _
  by_cases h0 : one v = 0
  ·rw [if_pos h0]
   exact recL_ne (recV_ne one l)
  ·rw [if_neg h0]
   intro e
   injection e with e
   exact h0 e
theorem fault_zero {one : V → Int} {v : V} : faultV one v = 0 ↔ ∃ g, recV one 20 2000 v = .inr g := by
 rw [faultV_rec]
 cases h : recV one 20 2000 v with
 | inl e =>
  constructor
  ·intro e0
   have e1 : e = 0 := e0
   rw [e1] at h
   exact absurd h (recV_ne one 20 v 2000)
  ·rintro ⟨g, hg⟩
   cases hg
 | inr g => exact ⟨fun _ => ⟨g, rfl⟩, fun _ => rfl⟩
theorem good_part {one : V → Int} {v x : V} (h : faultV one v = 0) (hx : x ∈ parts v) : faultV one x = 0 := by
 obtain ⟨g, hg⟩ := fault_zero.1 h
 have e' : (if one v = 0 then recL (recV one 19) 1999 (parts v) else .inl (one v)) = .inr g := hg
 by_cases h0 : one v = 0
 ·rw [if_pos h0] at e'
  obtain ⟨f', g', a, b⟩ := recL_each (recV_le one 19) e' x hx
  refine fault_zero.2 ⟨g' + (2000 - f'), ?_⟩
  have c := recV_more one (2000 - f') 19 x f' g' b
  have d : f' + (2000 - f') = 2000 := by omega
  rw [d] at c
  exact c
 ·rw [if_neg h0] at e'
  cases e'
theorem good_sizes {one : V → Int} {n : Nat} {v : V} (hv : IsV n v) (h : faultV one v = 0) : depthV n v ≤ 20 ∧ nodesV n v ≤ 2000 := by
 obtain ⟨g, hg⟩ := fault_zero.1 h
 obtain ⟨a, b⟩ := recV_count one 20 n v 2000 g hv hg
 exact ⟨b, by omega⟩
theorem good_one {one : V → Int} {v : V} (h : faultV one v = 0) : one v = 0 := by
 obtain ⟨g, hg⟩ := fault_zero.1 h
 have e' : (if one v = 0 then recL (recV one 19) 1999 (parts v) else .inl (one v)) = .inr g := hg
 by_cases h0 : one v = 0
 ·exact h0
 ·rw [if_neg h0] at e'
  cases e'
end Go.Proofs.YtadaehaemmelfaaDoor.valus
