/- Of our texts, what this claim reaches. -/
import GoSem.ClaimWide
set_option linter.unusedVariables false
namespace Go.Proofs.YtnbfnjhbmeocfabGreatDoor.valus
structure IsOrd {α : Type} (P : α → Prop) (c : α → α → Ordering) : Prop where
 swap : ∀ a b, P a → P b → c b a = (c a b).swap
 same : ∀ a b, P a → P b → (c a b = .eq ↔ a = b)
 trans : ∀ a b d, P a → P b → P d → c a b = .lt → c b d = .lt → c a d = .lt
theorem IsOrd.refl {α : Type} {P : α → Prop} {c : α → α → Ordering} (h : IsOrd P c) {a : α} (ha : P a) : c a a = .eq := (h.same a a ha ha).2 rfl
theorem IsOrd.mono {α : Type} {P Q : α → Prop} {c : α → α → Ordering} (h : IsOrd P c) (hq : ∀ a, Q a → P a) : IsOrd Q c :=
 ⟨fun a b ha hb => h.swap a b (hq a ha) (hq b hb), fun a b ha hb => h.same a b (hq a ha) (hq b hb), fun a b d ha hb hd => h.trans a b d (hq a ha) (hq b hb) (hq d hd)⟩
def cmpI (a b : Int) : Ordering := if a < b then .lt else if a = b then .eq else .gt
theorem cmpI_ord : IsOrd (fun _ => True) cmpI := by
 refine ⟨fun a b _ _ => ?_, fun a b _ _ => ?_, fun a b d _ _ _ h1 h2 => ?_⟩
 ·unfold cmpI
  by_cases h1 : a < b
  ·rw [if_pos h1, if_neg (by omega), if_neg (by omega)]; rfl
  ·by_cases h2 : a = b
   ·rw [if_neg h1, if_pos h2, if_neg (by omega), if_pos h2.symm]; rfl
   ·rw [if_neg h1, if_neg h2, if_pos (by omega)]; rfl
 ·unfold cmpI
  by_cases h1 : a < b
  ·rw [if_pos h1]
   exact ⟨fun h => (by cases h), fun h => (by omega)⟩
  ·by_cases h2 : a = b
   ·rw [if_neg h1, if_pos h2]
    exact ⟨fun _ => h2, fun _ => rfl⟩
   ·rw [if_neg h1, if_neg h2]
    exact ⟨fun h => (by cases h), fun h => absurd h h2⟩
 ·have e : ∀ x y, cmpI x y = .lt → x < y := fun x y h => by
   unfold cmpI at h
   by_cases h1 : x < y
   ·exact h1
   ·by_cases h2 : x = y
    ·rw [if_neg h1, if_pos h2] at h; cases h
    ·rw [if_neg h1, if_neg h2] at h; cases h
  unfold cmpI
  rw [if_pos (Int.lt_trans (e _ _ h1) (e _ _ h2))]
theorem IsOrd.key {α β : Type} {P : β → Prop} {Q : α → Prop} {c : β → β → Ordering} (h : IsOrd P c) (f : α → β) (hp : ∀ a, Q a → P (f a)) (hi : ∀ a b, Q a → Q b → f a = f b → a = b) : IsOrd Q (fun a b => c (f a) (f b)) :=
 ⟨fun a b ha hb => h.swap _ _ (hp a ha) (hp b hb), fun a b ha hb => ⟨fun e => hi a b ha hb ((h.same _ _ (hp a ha) (hp b hb)).1 e), fun e => by subst e; exact h.refl (hp a ha)⟩, fun a b d ha hb hd => h.trans _ _ _ (hp a ha) (hp b hb) (hp d hd)⟩
def thenC (x y : Ordering) : Ordering := match x with | .eq => y | _ => x
theorem thenC_lt {x y : Ordering} (h : thenC x y = .lt) : x = .lt ∨ (x = .eq ∧ y = .lt) := by
 cases x with
 | lt => exact .inl rfl
 | eq => exact .inr ⟨rfl, h⟩
 | gt => cases h
theorem thenC_eq {x y : Ordering} : thenC x y = .eq ↔ x = .eq ∧ y = .eq := by
 cases x with
 | lt => exact ⟨fun h => (by cases h), fun h => (by cases h.1)⟩
 | eq => exact ⟨fun h => ⟨rfl, h⟩, fun h => h.2⟩
 | gt => exact ⟨fun h => (by cases h), fun h => (by cases h.1)⟩
theorem thenC_swap (x y : Ordering) : (thenC x y).swap = thenC x.swap y.swap := by cases x <;> rfl
theorem IsOrd.pair {α β : Type} {P : α → Prop} {Q : β → Prop} {c : α → α → Ordering} {d : β → β → Ordering} (h : IsOrd P c) (g : IsOrd Q d) : IsOrd (fun p : α × β => P p.1 ∧ Q p.2) (fun p q => thenC (c p.1 q.1) (d p.2 q.2)) := by
 refine ⟨fun p q hp hq => ?_, fun p q hp hq => ?_, fun p q r hp hq hr h1 h2 => ?_⟩
 ·rw [thenC_swap, h.swap _ _ hp.1 hq.1, g.swap _ _ hp.2 hq.2]
 ·rw [thenC_eq, h.same _ _ hp.1 hq.1, g.same _ _ hp.2 hq.2]
  exact ⟨fun e => Prod.ext e.1 e.2, fun e => by rw [e]; exact ⟨rfl, rfl⟩⟩
 ·rcases thenC_lt h1 with a1 | ⟨a1, b1⟩
  ·rcases thenC_lt h2 with a2 | ⟨a2, b2⟩
   ·rw [h.trans _ _ _ hp.1 hq.1 hr.1 a1 a2]; rfl
   ·have e := (h.same _ _ hq.1 hr.1).1 a2
    rw [← e, a1]
    rfl
  ·have e := (h.same _ _ hp.1 hq.1).1 a1
   rcases thenC_lt h2 with a2 | ⟨a2, b2⟩
   ·rw [e, a2]; rfl
   ·rw [e, a2]
    exact g.trans _ _ _ hp.2 hq.2 hr.2 b1 b2
def cmpL {α : Type} (c : α → α → Ordering) : List α → List α → Ordering
 | [], [] => .eq
 | [], _ :: _ => .lt
 | _ :: _, [] => .gt
 | x :: r, y :: t => thenC (c x y) (cmpL c r t)
theorem IsOrd.list {α : Type} {P : α → Prop} {c : α → α → Ordering} (h : IsOrd P c) : IsOrd (fun l : List α => ∀ x ∈ l, P x) (cmpL c) := by
 have sw : ∀ a b : List α, (∀ x ∈ a, P x) → (∀ x ∈ b, P x) → cmpL c b a = (cmpL c a b).swap := by
  intro a
  induction a with
  | nil => intro b _ _; cases b <;> rfl
  | cons x r ih =>
   intro b ha hb
   cases b with
   | nil => rfl
   | cons y t =>
    show thenC _ _ = (thenC _ _).swap
    rw [thenC_swap, h.swap x y (ha x (by simp)) (hb y (by simp)), ih t (fun z hz => ha z (by simp [hz])) (fun z hz => hb z (by simp [hz]))]
 have sm : ∀ a b : List α, (∀ x ∈ a, P x) → (∀ x ∈ b, P x) → (cmpL c a b = .eq ↔ a = b) := by
  intro a
  induction a with
  | nil =>
   intro b _ _
   cases b with
   | nil => exact ⟨fun _ => rfl, fun _ => rfl⟩
   | cons y t => exact ⟨fun h => (by cases h), fun h => (by cases h)⟩
  | cons x r ih =>
   intro b ha hb
   cases b with
   | nil => exact ⟨fun h => (by cases h), fun h => (by cases h)⟩
   | cons y t =>
    show thenC _ _ = .eq ↔ _
    rw [thenC_eq, h.same x y (ha x (by simp)) (hb y (by simp)), ih t (fun z hz => ha z (by simp [hz])) (fun z hz => hb z (by simp [hz]))]
    exact ⟨fun e => by rw [e.1, e.2], fun e => by injection e with e1 e2; exact ⟨e1, e2⟩⟩
 refine ⟨sw, sm, ?_⟩
 intro a
 induction a with
 | nil =>
  intro b d _ _ _ h1 h2
  cases b with
  | nil => cases h1
  | cons y t =>
   cases d with
   | nil => cases h2
   | cons z u => rfl
 | cons x r ih =>
  intro b d ha hb hd h1 h2
  cases b with
  | nil => cases h1
  | cons y t =>
   cases d with
   | nil => cases h2
   | cons z u =>
    have hx := ha x (by simp)
    have hy := hb y (by simp)
    have hz := hd z (by simp)
    show thenC _ _ = .lt
    rcases thenC_lt h1 with a1 | ⟨a1, b1⟩
    ·rcases thenC_lt h2 with a2 | ⟨a2, b2⟩
     ·rw [h.trans x y z hx hy hz a1 a2]; rfl
     ·have e := (h.same y z hy hz).1 a2
      rw [← e, a1]; rfl
    ·have e := (h.same x y hx hy).1 a1
     rcases thenC_lt h2 with a2 | ⟨a2, b2⟩
     ·rw [e, a2]; rfl
     ·rw [e, a2]
      exact ih t u (fun z hz => ha z (by simp [hz])) (fun z hz => hb z (by simp [hz])) (fun z hz => hd z (by simp [hz])) b1 b2
def ordI (x : Ordering) : Int := match x with | .lt => -1 | .eq => 0 | .gt => 1
theorem ordI_zero {x : Ordering} : ordI x = 0 ↔ x = .eq := by cases x <;> simp [ordI]
def cmpB : List UInt8 → List UInt8 → Ordering := cmpL (fun a b => cmpI (a.toNat : Int) (b.toNat : Int))
theorem cmpB_ord : IsOrd (fun _ => True) cmpB := by
 have h : IsOrd (fun _ : UInt8 => True) (fun a b => cmpI (a.toNat : Int) (b.toNat : Int)) := cmpI_ord.key (fun a : UInt8 => (a.toNat : Int)) (fun _ _ => trivial) (fun a b _ _ e => UInt8.toNat_inj.1 (by omega))
 exact h.list.mono (fun _ _ x _ => trivial)
def fkey (f : Nat) : Int := if f < 9223372036854775808 then (f : Int) else -(f : Int) - 1 + 9223372036854775808
theorem fkey_ord : IsOrd (fun f : Nat => f < 18446744073709551616) (fun a b => cmpI (fkey a) (fkey b)) := by
 refine cmpI_ord.key fkey (fun _ _ => trivial) (fun a b ha hb e => ?_)
 unfold fkey at e
 split at e <;> split at e <;> omega
end Go.Proofs.YtnbfnjhbmeocfabGreatDoor.valus
namespace Go.Proofs.YtnbfnjhbmeocfabGreatDoor.valus
abbrev Lab := Int × Int × Nat × List UInt8
abbrev V := DataW Lab
def mkV (x : Lab) (L E : List V) : V := .slice L (.held x :: E)
def ent (k : List UInt8) (v : V) : V := mkV (0, 0, 0, k) [v] []
def opn : V → Lab × List V × List V
 | .slice L (.held x :: E) => (x, L, E)
 | _ => ((0, 0, 0, []), [], [])
theorem opn_mk (x : Lab) (L E : List V) : opn (mkV x L E) = (x, L, E) := rfl
def opnE (e : V) : List UInt8 × V := ((opn e).1.2.2.2, (opn e).2.1.headD .nil)
theorem opnE_ent (k : List UInt8) (v : V) : opnE (ent k v) = (k, v) := rfl
theorem mkV_inj {x y : Lab} {L M E F : List V} (h : mkV x L E = mkV y M F) : x = y ∧ L = M ∧ E = F := by
 have e := congrArg opn h
 rw [opn_mk, opn_mk] at e
 injection e with e1 e2
 injection e2 with e3 e4
 exact ⟨e1, e3, e4⟩
def IsV : Nat → V → Prop
 | 0, _ => False
 | n + 1, v => ∃ x L E, v = mkV x L E ∧ x.2.2.1 < 18446744073709551616 ∧ (∀ y ∈ L, IsV n y) ∧ ∀ e ∈ E, ∃ k y, e = ent k y ∧ IsV n y
def IsE (n : Nat) (e : V) : Prop := ∃ k y, e = ent k y ∧ IsV n y
theorem IsV.mk {n : Nat} {x : Lab} {L E : List V} : IsV (n + 1) (mkV x L E) ↔ x.2.2.1 < 18446744073709551616 ∧ (∀ y ∈ L, IsV n y) ∧ ∀ e ∈ E, IsE n e := by
 constructor
 ·rintro ⟨x', L', E', h, a, b, c⟩
  obtain ⟨h1, h2, h3⟩ := mkV_inj h
  subst h1; subst h2; subst h3
  exact ⟨a, b, c⟩
 ·rintro ⟨a, b, c⟩
  exact ⟨x, L, E, rfl, a, b, c⟩
theorem IsV.more : ∀ {n : Nat} {v : V}, IsV n v → IsV (n + 1) v
 | 0, _, h => h.elim
 | n + 1, _, ⟨x, L, E, e, a, b, c⟩ => ⟨x, L, E, e, a, fun y hy => (b y hy).more, fun z hz => by
  obtain ⟨k, y, h1, h2⟩ := c z hz
  exact ⟨k, y, h1, h2.more⟩⟩
theorem IsV.le {n m : Nat} {v : V} (h : IsV n v) (hm : n ≤ m) : IsV m v := by
 obtain ⟨d, rfl⟩ := Nat.le.dest hm
 induction d with
 | zero => exact h
 | succ d ih => exact (ih (by omega)).more
def cmpLab (x y : Lab) : Ordering := thenC (cmpI x.1 y.1) (thenC (cmpI x.2.1 y.2.1) (thenC (cmpI (fkey x.2.2.1) (fkey y.2.2.1)) (cmpB x.2.2.2 y.2.2.2)))
theorem cmpLab_ord : IsOrd (fun x : Lab => x.2.2.1 < 18446744073709551616) cmpLab :=
 (cmpI_ord.pair (cmpI_ord.pair (fkey_ord.pair cmpB_ord))).mono (fun x h => ⟨trivial, trivial, h, trivial⟩)
def cmpE (c : V → V → Ordering) (e f : V) : Ordering := thenC (cmpB (opnE e).1 (opnE f).1) (c (opnE e).2 (opnE f).2)
def cmpV : Nat → V → V → Ordering
 | 0, _, _ => .eq
 | n + 1, a, b => thenC (cmpLab (opn a).1 (opn b).1) (thenC (cmpL (cmpV n) (opn a).2.1 (opn b).2.1) (cmpL (cmpE (cmpV n)) (opn a).2.2 (opn b).2.2))
theorem cmpE_ord {n : Nat} {c : V → V → Ordering} (h : IsOrd (IsV n) c) : IsOrd (IsE n) (cmpE c) := by
 refine (cmpB_ord.pair h).key opnE (fun e he => ?_) (fun e f he hf hx => ?_)
 ·obtain ⟨k, y, rfl, b⟩ := he
  exact ⟨trivial, b⟩
 ·obtain ⟨k, y, rfl, b⟩ := he
  obtain ⟨m, z, rfl, b'⟩ := hf
  rw [opnE_ent, opnE_ent] at hx
  injection hx with h1 h2
  rw [h1, h2]
theorem cmpV_ord : ∀ n : Nat, IsOrd (IsV n) (cmpV n)
 | 0 => ⟨fun _ _ h => h.elim, fun _ _ h => h.elim, fun _ _ _ h => h.elim⟩
 | n + 1 => by
  have ih := cmpV_ord n
  refine (cmpLab_ord.pair (ih.list.pair (cmpE_ord ih).list)).key opn (fun v hv => ?_) (fun v u hv hu hx => ?_)
  ·obtain ⟨x, L, E, rfl, a, b, c⟩ := hv
   exact ⟨a, b, c⟩
  ·obtain ⟨x, L, E, rfl, a, b, c⟩ := hv
   obtain ⟨x', L', E', rfl, a', b', c'⟩ := hu
   rw [opn_mk, opn_mk] at hx
   injection hx with h1 h2
   injection h2 with h3 h4
   rw [h1, h3, h4]
theorem cmpL_congr {α : Type} {c d : α → α → Ordering} : ∀ {l m : List α}, (∀ x ∈ l, ∀ y ∈ m, c x y = d x y) → cmpL c l m = cmpL d l m
 | [], [], _ => rfl
 | [], _ :: _, _ => rfl
 | _ :: _, [], _ => rfl
 | x :: r, y :: t, h => by
  show thenC _ _ = thenC _ _
  rw [h x (by simp) y (by simp), cmpL_congr (fun a ha b hb => h a (by simp [ha]) b (by simp [hb]))]
theorem cmpV_more : ∀ {n : Nat} {a b : V}, IsV n a → IsV n b → cmpV (n + 1) a b = cmpV n a b
 | 0, _, _, h, _ => h.elim
 | n + 1, a, b, ha, hb => by
  obtain ⟨x, L, E, rfl, a1, b1, c1⟩ := ha
  obtain ⟨y, M, F, rfl, a2, b2, c2⟩ := hb
  show thenC _ (thenC (cmpL (cmpV (n + 1)) L M) (cmpL (cmpE (cmpV (n + 1))) E F)) = thenC _ (thenC (cmpL (cmpV n) L M) (cmpL (cmpE (cmpV n)) E F))
  rw [cmpL_congr (fun u hu v hv => cmpV_more (b1 u hu) (b2 v hv)), cmpL_congr (c := cmpE (cmpV (n + 1))) (d := cmpE (cmpV n)) (fun u hu v hv => by
   obtain ⟨k, p, rfl, hp⟩ := c1 u hu
   obtain ⟨m, q, rfl, hq⟩ := c2 v hv
   show thenC _ (cmpV (n + 1) p q) = thenC _ (cmpV n p q)
   rw [cmpV_more hp hq])]
end Go.Proofs.YtnbfnjhbmeocfabGreatDoor.valus
namespace Go.Proofs.YtnbfnjhbmeocfabGreatDoor.valus
def parts (v : V) : List V := (opn v).2.1 ++ (opn v).2.2.map (fun e => (opnE e).2)
theorem parts_mk (x : Lab) (L E : List V) : parts (mkV x L E) = L ++ E.map (fun e => (opnE e).2) := rfl
theorem IsV.part {n : Nat} {v y : V} (h : IsV (n + 1) v) (hy : y ∈ parts v) : IsV n y := by
 obtain ⟨x, L, E, rfl, a, b, c⟩ := h
 rw [parts_mk, List.mem_append, List.mem_map] at hy
 rcases hy with hy | ⟨e, he, rfl⟩
 ·exact b y hy
 ·obtain ⟨k, z, rfl, hz⟩ := c e he
  exact hz
def maxOf (q : V → Nat) : List V → Nat
 | [] => 0
 | x :: r => max (q x) (maxOf q r)
def sumOf (q : V → Nat) : List V → Nat
 | [] => 0
 | x :: r => q x + sumOf q r
theorem maxOf_append (q : V → Nat) : ∀ l m : List V, maxOf q (l ++ m) = max (maxOf q l) (maxOf q m)
 | [], m => by show maxOf q m = max 0 _; omega
 | x :: r, m => by
  show max _ (maxOf q (r ++ m)) = max (max _ _) _
  rw [maxOf_append q r m]
  omega
theorem sumOf_append (q : V → Nat) : ∀ l m : List V, sumOf q (l ++ m) = sumOf q l + sumOf q m
 | [], m => by show sumOf q m = 0 + _; omega
 | x :: r, m => by
  show _ + sumOf q (r ++ m) = _ + _ + _
  rw [sumOf_append q r m]
  omega
theorem maxOf_congr {p q : V → Nat} : ∀ {l : List V}, (∀ x ∈ l, p x = q x) → maxOf p l = maxOf q l
 | [], _ => rfl
 | x :: r, h => by
  show max _ _ = max _ _
  rw [h x (by simp), maxOf_congr (fun y hy => h y (by simp [hy]))]
theorem sumOf_congr {p q : V → Nat} : ∀ {l : List V}, (∀ x ∈ l, p x = q x) → sumOf p l = sumOf q l
 | [], _ => rfl
 | x :: r, h => by
  show _ + _ = _ + _
  rw [h x (by simp), sumOf_congr (fun y hy => h y (by simp [hy]))]
theorem le_maxOf {q : V → Nat} : ∀ {l : List V} {x : V}, x ∈ l → q x ≤ maxOf q l
 | y :: r, x, h => by
  show _ ≤ max _ _
  rcases List.mem_cons.1 h with rfl | h
  ·omega
  ·have := le_maxOf (q := q) h
   omega
theorem maxOf_le {q : V → Nat} {b : Nat} : ∀ {l : List V}, (∀ x ∈ l, q x ≤ b) → maxOf q l ≤ b
 | [], _ => Nat.zero_le _
 | x :: r, h => by
  show max _ _ ≤ b
  have h1 := h x (by simp)
  have h2 := maxOf_le (q := q) (b := b) (l := r) (fun y hy => h y (by simp [hy]))
  omega
def depthV : Nat → V → Nat
 | 0, _ => 0
 | n + 1, v => maxOf (depthV n) (parts v) + 1
def nodesV : Nat → V → Nat
 | 0, _ => 0
 | n + 1, v => sumOf (nodesV n) (parts v) + 1
theorem depthV_more : ∀ {n : Nat} {v : V}, IsV n v → depthV (n + 1) v = depthV n v
 | 0, _, h => h.elim
 | n + 1, v, h => by
  show maxOf (depthV (n + 1)) _ + 1 = maxOf (depthV n) _ + 1
  rw [maxOf_congr (fun x hx => depthV_more (h.part hx))]
theorem nodesV_more : ∀ {n : Nat} {v : V}, IsV n v → nodesV (n + 1) v = nodesV n v
 | 0, _, h => h.elim
 | n + 1, v, h => by
  show sumOf (nodesV (n + 1)) _ + 1 = sumOf (nodesV n) _ + 1
  rw [sumOf_congr (fun x hx => nodesV_more (h.part hx))]
theorem depthV_le {n m : Nat} {v : V} (h : IsV n v) (hm : n ≤ m) : depthV m v = depthV n v := by
 obtain ⟨d, rfl⟩ := Nat.le.dest hm
 induction d with
 | zero => rfl
 | succ d ih => exact (depthV_more (n := n + d) (h.le (by omega))).trans (ih (by omega))
theorem nodesV_le {n m : Nat} {v : V} (h : IsV n v) (hm : n ≤ m) : nodesV m v = nodesV n v := by
 obtain ⟨d, rfl⟩ := Nat.le.dest hm
 induction d with
 | zero => rfl
 | succ d ih => exact (nodesV_more (n := n + d) (h.le (by omega))).trans (ih (by omega))
def chk (one : V → Int) : Nat → List (V × Nat) → Int
 | _, [] => 0
 | 0, _ :: _ => 2
 | f + 1, (v, d) :: r => if 20 ≤ d then 5 else if one v = 0 then chk one f ((parts v).map (fun y => (y, d + 1)) ++ r) else one v
def recL (q : Nat → V → Int ⊕ Nat) : Nat → List V → Int ⊕ Nat
 | f, [] => .inr f
 | f, x :: r => match q f x with
  | .inl e => .inl e
  | .inr g => recL q g r
def recV (one : V → Int) : Nat → Nat → V → Int ⊕ Nat
 | _, 0, _ => .inl 2
 | 0, _ + 1, _ => .inl 5
 | l + 1, f + 1, v => if one v = 0 then recL (recV one l) f (parts v) else .inl (one v)
def fin (s : Int ⊕ Nat) (k : Nat → Int) : Int := match s with | .inl e => e | .inr g => k g
theorem chk_list {one : V → Int} {l : Nat} (h : ∀ v f r, chk one f ((v, 20 - l) :: r) = fin (recV one l f v) (fun g => chk one g r)) : ∀ (ps : List V) (f : Nat) (r : List (V × Nat)), chk one f (ps.map (fun y => (y, 20 - l)) ++ r) = fin (recL (recV one l) f ps) (fun g => chk one g r)
 | [], f, r => rfl
 | x :: ps, f, r => by
  rw [List.map_cons, List.cons_append, h]
  show _ = fin (match recV one l f x with | .inl e => .inl e | .inr g => recL (recV one l) g ps) _
  cases recV one l f x with
  | inl e => rfl
  | inr g => exact chk_list h ps g r
theorem chk_one (one : V → Int) : ∀ (l : Nat), l ≤ 20 → ∀ v f r, chk one f ((v, 20 - l) :: r) = fin (recV one l f v) (fun g => chk one g r)
 | l, _, v, 0, r => by cases l <;> rfl
 | 0, _, v, f + 1, r => rfl
 | l + 1, hl, v, f + 1, r => by
  have ih := chk_list (chk_one one l (by omega)) (parts v) f r
  show (if 20 ≤ 20 - (l + 1) then 5 else if one v = 0 then _ else one v) = fin (if one v = 0 then _ else _) _
  rw [if_neg (by omega)]
  by_cases h0 : one v = 0
  ·rw [if_pos h0, if_pos h0, ← ih]
   have e : 20 - (l + 1) + 1 = 20 - l := by omega
   rw [e]
  ·rw [if_neg h0, if_neg h0]
   rfl
def faultV (one : V → Int) (v : V) : Int := chk one 2000 [(v, 0)]
theorem faultV_rec (one : V → Int) (v : V) : faultV one v = fin (recV one 20 2000 v) (fun _ => 0) := by
 refine (chk_one one 20 (Nat.le_refl _) v 2000 []).trans ?_
 cases recV one 20 2000 v with
 | inl e => rfl
 | inr g => cases g <;> rfl
end Go.Proofs.YtnbfnjhbmeocfabGreatDoor.valus
namespace Go.Proofs.YtnbfnjhbmeocfabGreatDoor.bigs
theorem take_succ (l : List Nat) (k : Nat) (h : k < l.length) : l.take (k + 1) = l.take k ++ [l.getD k 0] := by
 rw [List.take_succ_eq_append_getElem h]
 simp [List.getD, List.getElem?_eq_getElem h]
end Go.Proofs.YtnbfnjhbmeocfabGreatDoor.bigs
namespace Go.Proofs.YtnbfnjhbmeocfabGreatDoor.valus
theorem recL_more {q p : Nat → V → Int ⊕ Nat} {k : Nat} (h : ∀ x f g, q f x = .inr g → p (f + k) x = .inr (g + k)) : ∀ {ps : List V} {f g : Nat}, recL q f ps = .inr g → recL p (f + k) ps = .inr (g + k)
 | [], f, g, e => by
  injection e with e
  rw [← e]
  rfl
 | x :: ps, f, g, e => by
  show (match p (f + k) x with | .inl e => Sum.inl e | .inr g => recL p g ps) = _
  cases hx : q f x with
  | inl z =>
   have e' : (match q f x with | .inl e => Sum.inl e | .inr g => recL q g ps) = .inr g := e
   rw [hx] at e'
   cases e'
  | inr z =>
   have e' : (match q f x with | .inl e => Sum.inl e | .inr g => recL q g ps) = .inr g := e
   rw [hx] at e'
   rw [h x f z hx]
   exact recL_more h e'
theorem recV_more (one : V → Int) (k : Nat) : ∀ (l : Nat) (v : V) (f g : Nat), recV one l f v = .inr g → recV one (l + 1) (f + k) v = .inr (g + k)
 | l, v, 0, g, e => by cases l <;> cases e
 | 0, v, f + 1, g, e => by cases e
 | l + 1, v, f + 1, g, e => by
  have e' : (if one v = 0 then recL (recV one l) f (parts v) else .inl (one v)) = .inr g := e
  have hf : f + 1 + k = (f + k) + 1 := by omega
  rw [hf]
  show (if one v = 0 then recL (recV one (l + 1)) (f + k) (parts v) else .inl (one v)) = .inr (g + k)
  by_cases h0 : one v = 0
  ·rw [if_pos h0] at e' ⊢
   exact recL_more (recV_more one k l) e'
  ·rw [if_neg h0] at e'
   cases e'
theorem recL_count {q : Nat → V → Int ⊕ Nat} {c d : V → Nat} {b : Nat} : ∀ {ps : List V} {f g : Nat}, (∀ x ∈ ps, ∀ f g, q f x = .inr g → f = g + c x ∧ d x ≤ b) → recL q f ps = .inr g → f = g + sumOf c ps ∧ ∀ x ∈ ps, d x ≤ b
 | [], f, g, h, e => by
  injection e with e
  exact ⟨e, fun x hx => by cases hx⟩
 | x :: ps, f, g, h, e => by
  have e' : (match q f x with | .inl e => Sum.inl e | .inr g => recL q g ps) = .inr g := e
  cases hx : q f x with
  | inl z =>
   rw [hx] at e'
   cases e'
  | inr z =>
   rw [hx] at e'
   obtain ⟨a1, a2⟩ := h x (by simp) f z hx
   obtain ⟨b1, b2⟩ := recL_count (ps := ps) (fun y hy => h y (by simp [hy])) e'
   refine ⟨?_, fun y hy => ?_⟩
   ·show f = g + (c x + sumOf c ps)
    omega
   ·rcases List.mem_cons.1 hy with rfl | hy
    ·exact a2
    ·exact b2 y hy
theorem recV_count (one : V → Int) : ∀ (l n : Nat) (v : V) (f g : Nat), IsV n v → recV one l f v = .inr g → f = g + nodesV n v ∧ depthV n v ≤ l
 | l, _, v, 0, g, _, e => by cases l <;> cases e
 | 0, _, v, f + 1, g, _, e => by cases e
 | l + 1, 0, v, f + 1, g, h, e => h.elim
 | l + 1, n + 1, v, f + 1, g, h, e => by
  have e' : (if one v = 0 then recL (recV one l) f (parts v) else .inl (one v)) = .inr g := e
  by_cases h0 : one v = 0
  ·rw [if_pos h0] at e'
   obtain ⟨a, b⟩ := recL_count (c := nodesV n) (d := depthV n) (b := l) (fun x hx f g hg => recV_count one l n x f g (h.part hx) hg) e'
   refine ⟨?_, Nat.succ_le_succ (maxOf_le b)⟩
   show f + 1 = g + (sumOf (nodesV n) (parts v) + 1)
   omega
  ·rw [if_neg h0] at e'
   cases e'
theorem recL_each {q : Nat → V → Int ⊕ Nat} : ∀ {ps : List V} {f g : Nat}, (∀ x f g, q f x = .inr g → g ≤ f) → recL q f ps = .inr g → ∀ x ∈ ps, ∃ f' g', f' ≤ f ∧ q f' x = .inr g'
 | [], f, g, h, e, x, hx => by cases hx
 | x :: ps, f, g, h, e, y, hy => by
  have e' : (match q f x with | .inl e => Sum.inl e | .inr g => recL q g ps) = .inr g := e
  cases hx : q f x with
  | inl z =>
   rw [hx] at e'
   cases e'
  | inr z =>
   rw [hx] at e'
   rcases List.mem_cons.1 hy with rfl | hy
   ·exact ⟨f, z, Nat.le_refl _, hx⟩
   ·obtain ⟨f', g', a, b⟩ := recL_each h e' y hy
    exact ⟨f', g', Nat.le_trans a (h x f z hx), b⟩
theorem recL_le {q : Nat → V → Int ⊕ Nat} (h : ∀ x f g, q f x = .inr g → g ≤ f) : ∀ {ps : List V} {f g : Nat}, recL q f ps = .inr g → g ≤ f
 | [], f, g, e => by
  injection e with e
  omega
 | x :: ps, f, g, e => by
  have e' : (match q f x with | .inl e => Sum.inl e | .inr g => recL q g ps) = .inr g := e
  cases hx : q f x with
  | inl z =>
   rw [hx] at e'
   cases e'
  | inr z =>
   rw [hx] at e'
   exact Nat.le_trans (recL_le h e') (h x f z hx)
theorem recV_le (one : V → Int) : ∀ (l : Nat) (v : V) (f g : Nat), recV one l f v = .inr g → g ≤ f
 | l, v, 0, g, e => by cases l <;> cases e
 | 0, v, f + 1, g, e => by cases e
 | l + 1, v, f + 1, g, e => by
  have e' : (if one v = 0 then recL (recV one l) f (parts v) else .inl (one v)) = .inr g := e
  by_cases h0 : one v = 0
  ·rw [if_pos h0] at e'
   exact Nat.le_succ_of_le (recL_le (recV_le one l) e')
  ·rw [if_neg h0] at e'
   cases e'
theorem recL_ne {q : Nat → V → Int ⊕ Nat} (h : ∀ x f, q f x ≠ .inl 0) : ∀ {ps : List V} {f : Nat}, recL q f ps ≠ .inl 0
 | [], f => fun e => by cases e
 | x :: ps, f => by
  show (match q f x with | .inl e => Sum.inl e | .inr g => recL q g ps) ≠ _
  cases hx : q f x with
  | inl z =>
   intro e
   injection e with e
   rw [e] at hx
   exact h x f hx
  | inr z => exact recL_ne h
theorem recV_ne (one : V → Int) : ∀ (l : Nat) (v : V) (f : Nat), recV one l f v ≠ .inl 0
 | l, v, 0 => fun e => by cases l <;> cases e
 | 0, v, f + 1 => fun e => by cases e
 | l + 1, v, f + 1 => by
  show (if one v = 0 then recL (recV one l) f (parts v) else .inl (one v)) ≠ _
  by_cases h0 : one v = 0
  ·rw [if_pos h0]
   exact recL_ne (recV_ne one l)
  ·rw [if_neg h0]
   intro e
   injection e with e
   exact h0 e
theorem fault_zero {one : V → Int} {v : V} : faultV one v = 0 ↔ ∃ g, recV one 20 2000 v = .inr g := by
 rw [faultV_rec]
 cases h : recV one 20 2000 v with
 | inl e =>
  constructor
  ·intro e0
   have e1 : e = 0 := e0
   rw [e1] at h
   exact absurd h (recV_ne one 20 v 2000)
  ·rintro ⟨g, hg⟩
   cases hg
 | inr g => exact ⟨fun _ => ⟨g, rfl⟩, fun _ => rfl⟩
theorem good_part {one : V → Int} {v x : V} (h : faultV one v = 0) (hx : x ∈ parts v) : faultV one x = 0 := by
 obtain ⟨g, hg⟩ := fault_zero.1 h
 have e' : (if one v = 0 then recL (recV one 19) 1999 (parts v) else .inl (one v)) = .inr g := hg
 by_cases h0 : one v = 0
 ·rw [if_pos h0] at e'
  obtain ⟨f', g', a, b⟩ := recL_each (recV_le one 19) e' x hx
  refine fault_zero.2 ⟨g' + (2000 - f'), ?_⟩
  have c := recV_more one (2000 - f') 19 x f' g' b
  have d : f' + (2000 - f') = 2000 := by omega
  rw [d] at c
  exact c
 ·rw [if_neg h0] at e'
  cases e'
theorem good_sizes {one : V → Int} {n : Nat} {v : V} (hv : IsV n v) (h : faultV one v = 0) : depthV n v ≤ 20 ∧ nodesV n v ≤ 2000 := by
 obtain ⟨g, hg⟩ := fault_zero.1 h
 obtain ⟨a, b⟩ := recV_count one 20 n v 2000 g hv hg
 exact ⟨b, by omega⟩
theorem good_one {one : V → Int} {v : V} (h : faultV one v = 0) : one v = 0 := by
 obtain ⟨g, hg⟩ := fault_zero.1 h
 have e' : (if one v = 0 then recL (recV one 19) 1999 (parts v) else .inl (one v)) = .inr g := hg
 by_cases h0 : one v = 0
 ·exact h0
 ·rw [if_neg h0] at e'
  cases e'
end Go.Proofs.YtnbfnjhbmeocfabGreatDoor.valus
namespace Go.Proofs.YtnbfnjhbmeocfabGreatDoor.toks
def isB (c : UInt8) : Bool := c == 32 || c == 9 || c == 13
def isW (c : UInt8) : Bool := decide ((97 ≤ c.toNat ∧ c.toNat ≤ 122) ∨ (65 ≤ c.toNat ∧ c.toNat ≤ 90) ∨ (48 ≤ c.toNat ∧ c.toNat ≤ 57) ∨ c.toNat = 95 ∨ c.toNat = 45 ∨ c.toNat = 43 ∨ c.toNat = 46)
def isM (c : UInt8) : Bool := c == 123 || c == 125 || c == 91 || c == 93 || c == 58 || c == 61 || c == 44
def noL (c : UInt8) : Bool := c != 10
def runL (p : UInt8 → Bool) : List UInt8 → Nat
 | [] => 0
 | c :: l => if p c = true then runL p l + 1 else 0
def closeN : List UInt8 → Nat
 | [] => 0
 | [_] => 0
 | a :: b :: l => if a = 42 ∧ b = 47 then 2 else if closeN (b :: l) = 0 then 0 else closeN (b :: l) + 1
def shutN : List UInt8 → Nat
 | [] => 0
 | [c] => if c = 34 then 1 else 0
 | c :: d :: l => if c = 34 then 1 else if c = 10 then 0 else if c = 92 then (if d = 10 then 0 else if shutN l = 0 then 0 else shutN l + 2) else if shutN (d :: l) = 0 then 0 else shutN (d :: l) + 1
def tokK (l : List UInt8) : Nat × Nat :=
 match l with
 | [] => (0, 0)
 | c :: t =>
  if isB c = true then (1, runL isB (c :: t))
  else if c = 10 then (2, 1)
  else if c = 35 then (3, runL noL (c :: t))
  else if isW c = true then (4, runL isW (c :: t))
  else if isM c = true then (6, 1)
  else if c = 34 ∧ shutN t ≠ 0 then (5, shutN t + 1)
  else if c = 47 ∧ t.head? = some 42 ∧ closeN (t.drop 1) ≠ 0 then (3, closeN (t.drop 1) + 2)
  else (7, 1)
structure Tk where
 kind : Nat
 fro : Nat
 til : Nat
theorem runL_le (p : UInt8 → Bool) : ∀ l : List UInt8, runL p l ≤ l.length
 | [] => Nat.le_refl _
 | c :: l => by
  have := runL_le p l
  unfold runL
  split
  ·simp only [List.length_cons]; omega
  ·exact Nat.zero_le _
theorem closeN_le : ∀ l : List UInt8, closeN l ≤ l.length
 | [] => Nat.le_refl _
 | [_] => Nat.zero_le _
 | a :: b :: l => by
  have := closeN_le (b :: l)
  unfold closeN
  simp only [List.length_cons] at this ⊢
  split
  ·omega
  ·split
   ·omega
   ·omega
theorem shutN_le : ∀ l : List UInt8, shutN l ≤ l.length
 | [] => Nat.le_refl _
 | [c] => by unfold shutN; split <;> simp
 | c :: d :: l => by
  have h1 := shutN_le l
  have h2 := shutN_le (d :: l)
  unfold shutN
  simp only [List.length_cons] at h2 ⊢
  split
  ·omega
  ·split
   ·omega
   ·split
    ·split
     ·omega
     ·split <;> omega
    ·split <;> omega
theorem runL_one {p : UInt8 → Bool} {c : UInt8} {t : List UInt8} (h : p c = true) : runL p (c :: t) = runL p t + 1 := by rw [runL, if_pos h]
theorem tokK_size {l : List UInt8} (h : l ≠ []) : 1 ≤ (tokK l).2 ∧ (tokK l).2 ≤ l.length ∧ 1 ≤ (tokK l).1 ∧ (tokK l).1 ≤ 7 := by
 match l, h with
 | c :: t, _ =>
  have r1 := runL_le isB (c :: t)
  have r2 := runL_le noL (c :: t)
  have r3 := runL_le isW (c :: t)
  have s1 := shutN_le t
  have s2 := closeN_le (t.drop 1)
  rw [List.length_drop] at s2
  simp only [List.length_cons] at r1 r2 r3 ⊢
  unfold tokK
  simp only
  split
  ·rename_i hc; rw [runL_one hc] at r1 ⊢; simp only; omega
  ·split
   ·simp only; omega
   ·split
    ·rename_i hc
     have : noL c = true := by rw [hc]; rfl
     rw [runL_one this] at r2 ⊢; simp only; omega
    ·split
     ·rename_i hc; rw [runL_one hc] at r3 ⊢; simp only; omega
     ·split
      ·simp only; omega
      ·split
       ·simp only; omega
       ·split
        ·rename_i hc
         have : t ≠ [] := fun e => by rw [e] at hc; simp at hc
         have := List.length_pos_iff.2 this
         simp only; omega
        ·simp only; omega
end Go.Proofs.YtnbfnjhbmeocfabGreatDoor.toks
namespace Go.Proofs.YtnbfnjhbmeocfabGreatDoor.trees
abbrev T := DataW (Nat × Nat × Nat)
def nd (k a e : Nat) (l : List T) : T := .slice l [.held (k, a, e)]
theorem nd_inj {k a e k' a' e' : Nat} {l l' : List T} (h : nd k a e l = nd k' a' e' l') : k = k' ∧ a = a' ∧ e = e' ∧ l = l' := by
 unfold nd at h
 injection h with h1 h2
 injection h2 with h3 _
 injection h3 with h4
 injection h4 with h5 h6
 injection h6 with h7 h8
 exact ⟨h5, h7, h8, h1⟩
def endT : T → Nat
 | .slice _ [.held (_, _, e)] => e
 | _ => 0
abbrev Sym := UInt8 × Nat
abbrev R := (Nat × List Sym) ⊕ (T × List Sym)
def entP (q : List Sym → R) : List Sym → R
 | [] => .inl (4, [])
 | x :: r =>
  if x.1 = 120 then
   match r with
   | [] => .inl (4, [])
   | m :: r1 =>
    if m.1 = 58 ∨ m.1 = 61 then
     match q r1 with
     | .inl e => .inl e
     | .inr (v, r2) => .inr (nd 4 x.2 (endT v) [nd 2 x.2 (x.2 + 1) [], v], r2)
    else .inl (4, m :: r1)
  else .inl (4, x :: r)
def loopP (q : List Sym → R) (ec : UInt8) (kind i : Nat) : Nat → List T → List Sym → R
 | 0, _, ts => .inl (4, ts)
 | _ + 1, _, [] => .inl (4, [])
 | f + 1, acc, x :: r =>
  if x.1 = ec then .inr (nd kind i (x.2 + 1) acc, r)
  else
   match q (x :: r) with
   | .inl e => .inl e
   | .inr (_, []) => .inl (4, [])
   | .inr (t, y :: r2) =>
    if y.1 = 44 then loopP q ec kind i f (acc ++ [t]) r2
    else if y.1 = ec then .inr (nd kind i (y.2 + 1) (acc ++ [t]), r2)
    else .inl (4, y :: r2)
def pv : Nat → List Sym → R
 | _, [] => .inl (4, [])
 | 0, x :: r => if x.1 = 120 ∨ x.1 = 123 ∨ x.1 = 91 then .inl (5, x :: r) else .inl (4, x :: r)
 | lv + 1, x :: r =>
  if x.1 = 120 then .inr (nd 1 x.2 (x.2 + 1) [], r)
  else if x.1 = 123 then loopP (entP (pv lv)) 125 3 x.2 (r.length + 1) [] r
  else if x.1 = 91 then loopP (pv lv) 93 5 x.2 (r.length + 1) [] r
  else .inl (4, x :: r)
theorem pv_nil (lv : Nat) : pv lv [] = .inl (4, []) := by cases lv <;> rfl
def Kids (q : List Sym → R) (ec : UInt8) : List T → List Sym → Nat → List Sym → Prop
 | [], ts, e, r => ∃ x : Sym, x.1 = ec ∧ ts = x :: r ∧ e = x.2 + 1
 | t :: l, ts, e, r => ∃ (x : Sym) (r0 : List Sym) (y : Sym) (r1 : List Sym), ts = x :: r0 ∧ x.1 ≠ ec ∧ q ts = .inr (t, y :: r1) ∧ ((y.1 = 44 ∧ Kids q ec l r1 e r) ∨ (y.1 ≠ 44 ∧ y.1 = ec ∧ l = [] ∧ e = y.2 + 1 ∧ r = r1))
theorem loop_kids (q : List Sym → R) (ec : UInt8) (kind i : Nat) : ∀ (f : Nat) (acc : List T) (ts : List Sym) (t : T) (r : List Sym), loopP q ec kind i f acc ts = .inr (t, r) → ∃ l e, t = nd kind i e (acc ++ l) ∧ Kids q ec l ts e r
 | 0, acc, ts, t, r, h => by cases h
 | f + 1, acc, [], t, r, h => by cases h
 | f + 1, acc, x :: r0, t, r, h => by
  unfold loopP at h
  split at h
  ·rename_i hx
   injection h with h
   injection h with h1 h2
   exact ⟨[], x.2 + 1, by rw [← h1, List.append_nil], x, hx, by rw [h2], rfl⟩
  ·rename_i hx
   split at h
   ·cases h
   ·cases h
   ·rename_i t1 y r2 hq
    split at h
    ·rename_i hy
     obtain ⟨l, e, e1, hk⟩ := loop_kids q ec kind i f _ _ _ _ h
     exact ⟨t1 :: l, e, by rw [e1, List.append_assoc]; rfl, x, r0, y, r2, rfl, hx, hq, .inl ⟨hy, hk⟩⟩
    ·rename_i hy
     split at h
     ·rename_i hy2
      injection h with h
      injection h with h1 h2
      exact ⟨[t1], y.2 + 1, h1.symm, x, r0, y, r2, rfl, hx, hq, .inr ⟨hy, hy2, rfl, rfl, h2.symm⟩⟩
     ·cases h
structure Loc (q : List Sym → R) : Prop where
 good : ∀ ts t r, q ts = .inr (t, r) → ∃ p, p ≠ [] ∧ ts = p ++ r ∧ ∀ r', q (p ++ r') = .inr (t, r')
 bad : ∀ ts e r, q ts = .inl (e, r) → ∃ p, ts = p ++ r ∧ (e = 4 → q p = .inl (4, [])) ∧ (e = 4 ∨ (e = 5 ∧ r ≠ []))
theorem kids_loc {q : List Sym → R} {ec : UInt8} (hq : Loc q) : ∀ (l : List T) (ts : List Sym) (e : Nat) (r : List Sym), Kids q ec l ts e r → ∃ p, p ≠ [] ∧ ts = p ++ r ∧ l.length < p.length ∧ ∀ r', Kids q ec l (p ++ r') e r'
 | [], ts, e, r, h => by
  obtain ⟨x, hx, rfl, rfl⟩ := h
  exact ⟨[x], by simp, rfl, by simp, fun r' => ⟨x, hx, rfl, rfl⟩⟩
 | t :: l, ts, e, r, h => by
  obtain ⟨x, r0, y, r1, rfl, hx, hqt, h⟩ := h
  obtain ⟨p, hp, e1, h2⟩ := hq.good _ _ _ hqt
  obtain ⟨p0, rfl⟩ : ∃ p0, p = x :: p0 := by
   cases p with
   | nil => exact absurd rfl hp
   | cons a b => rw [List.cons_append] at e1; injection e1 with e1 _; exact ⟨b, by rw [e1]⟩
  rcases h with ⟨hy, hk⟩ | ⟨hy, hy2, rfl, rfl, rfl⟩
  ·obtain ⟨p', _, rfl, hl', hk'⟩ := kids_loc hq l _ _ _ hk
   refine ⟨x :: p0 ++ y :: p', by simp, by rw [e1]; simp, by simp; omega, fun r' => ?_⟩
   refine ⟨x, p0 ++ y :: p' ++ r', y, p' ++ r', by simp, hx, ?_, .inl ⟨hy, hk' r'⟩⟩
   have := h2 (y :: (p' ++ r'))
   rw [← this]
   simp
  ·refine ⟨x :: p0 ++ [y], by simp, by rw [e1]; simp, by simp, fun r' => ?_⟩
   refine ⟨x, p0 ++ y :: r', y, r', by simp, hx, ?_, .inr ⟨hy, hy2, rfl, rfl, rfl⟩⟩
   have := h2 (y :: r')
   rw [← this]
   simp
theorem kids_loop {q : List Sym → R} {ec : UInt8} (kind i : Nat) (hec : ec ≠ 44) : ∀ (l : List T) (f : Nat) (acc : List T) (ts : List Sym) (e : Nat) (r : List Sym), Kids q ec l ts e r → l.length < f → loopP q ec kind i f acc ts = .inr (nd kind i e (acc ++ l), r)
 | [], f + 1, acc, ts, e, r, h, _ => by
  obtain ⟨x, hx, rfl, rfl⟩ := h
  rw [loopP, if_pos hx, List.append_nil]
 | t :: l, f + 1, acc, ts, e, r, h, hf => by
  obtain ⟨x, r0, y, r1, rfl, hx, hqt, h⟩ := h
  rw [loopP, if_neg hx, hqt]
  rcases h with ⟨hy, hk⟩ | ⟨hy, hy2, rfl, rfl, rfl⟩
  ·simp only
   rw [if_pos hy, kids_loop kind i hec l f _ _ _ _ hk (by simp at hf; omega), List.append_assoc]
   rfl
  ·simp only
   rw [if_neg hy, if_pos hy2]
theorem loop_good {q : List Sym → R} {ec : UInt8} {kind i f : Nat} {acc : List T} {ts : List Sym} {t : T} {r : List Sym} (hq : Loc q) (hec : ec ≠ 44) (h : loopP q ec kind i f acc ts = .inr (t, r)) :
  ∃ p, p ≠ [] ∧ ts = p ++ r ∧ ∀ f' r', (p ++ r').length < f' → loopP q ec kind i f' acc (p ++ r') = .inr (t, r') := by
 obtain ⟨l, e, rfl, hk⟩ := loop_kids q ec kind i f acc ts t r h
 obtain ⟨p, hp, e1, hl, hk'⟩ := kids_loc hq l ts e r hk
 refine ⟨p, hp, e1, fun f' r' hf => kids_loop kind i hec l f' acc _ e r' (hk' r') ?_⟩
 rw [List.length_append] at hf
 omega
theorem loop_bad {q : List Sym → R} {ec : UInt8} {kind i : Nat} (hq : Loc q) (hec : ec ≠ 44) : ∀ (f : Nat) (acc : List T) (ts : List Sym) (e : Nat) (r : List Sym), ts.length < f → loopP q ec kind i f acc ts = .inl (e, r) →
  ∃ p, ts = p ++ r ∧ (e = 4 → ∀ f', p.length < f' → loopP q ec kind i f' acc p = .inl (4, [])) ∧ (e = 4 ∨ (e = 5 ∧ r ≠ []))
 | 0, acc, ts, e, r, hf, h => by omega
 | f + 1, acc, [], e, r, hf, h => by
  unfold loopP at h
  injection h with h
  injection h with h1 h2
  subst h1 h2
  refine ⟨[], rfl, fun _ f' hf' => ?_, .inl rfl⟩
  cases f' with
  | zero => simp at hf'
  | succ f' => rfl
 | f + 1, acc, x :: r0, e, r, hf, h => by
  unfold loopP at h
  split at h
  ·cases h
  ·rename_i hx
   split at h
   ·rename_i e1 hq1
    injection h with h
    subst h
    obtain ⟨p, e2, h4, h5⟩ := hq.bad _ _ _ hq1
    refine ⟨p, e2, fun he f' hf' => ?_, h5⟩
    cases f' with
    | zero => omega
    | succ f' =>
     have hp := h4 he
     cases p with
     | nil => rfl
     | cons a b =>
      rw [List.cons_append] at e2
      injection e2 with e3 _
      subst e3
      rw [loopP, if_neg hx, hp]
   ·rename_i t1 hq1
    injection h with h
    injection h with h1 h2
    subst h1 h2
    refine ⟨x :: r0, by simp, fun _ f' hf' => ?_, .inl rfl⟩
    cases f' with
    | zero => omega
    | succ f' => rw [loopP, if_neg hx, hq1]
   ·rename_i t1 y r2 hq1
    obtain ⟨p, hp, e1, h2⟩ := hq.good _ _ _ hq1
    obtain ⟨p0, rfl⟩ : ∃ p0, p = x :: p0 := by
     cases p with
     | nil => exact absurd rfl hp
     | cons a b => rw [List.cons_append] at e1; injection e1 with e1 _; exact ⟨b, by rw [e1]⟩
    split at h
    ·rename_i hy
     have hlen := congrArg List.length e1
     simp only [List.length_cons, List.length_append] at hlen hf
     obtain ⟨p', rfl, h4, h5⟩ := loop_bad hq hec f _ _ _ _ (by omega) h
     refine ⟨x :: p0 ++ y :: p', by rw [e1]; simp, fun he f' hf' => ?_, h5⟩
     cases f' with
     | zero => omega
     | succ f' =>
      have h3 := h2 (y :: p')
      rw [List.cons_append] at h3 ⊢
      simp only [List.length_cons, List.length_append] at hf'
      rw [loopP, if_neg hx, h3]
      simp only
      rw [if_pos hy, h4 he f' (by omega)]
    ·rename_i hy
     split at h
     ·cases h
     ·rename_i hy2
      injection h with h
      injection h with h1 h3
      subst h1 h3
      refine ⟨x :: p0, e1, fun _ f' hf' => ?_, .inl rfl⟩
      cases f' with
      | zero => omega
      | succ f' =>
       have h3 := h2 []
       rw [List.append_nil] at h3
       rw [loopP, if_neg hx, h3]
theorem ent_one (q : List Sym → R) (x : Sym) : entP q [x] = if x.1 = 120 then .inl (4, []) else .inl (4, [x]) := rfl
theorem ent_two (q : List Sym → R) (x m : Sym) (r1 : List Sym) : entP q (x :: m :: r1) = if x.1 = 120 then (if m.1 = 58 ∨ m.1 = 61 then (match q r1 with | .inl e => .inl e | .inr (v, r2) => .inr (nd 4 x.2 (endT v) [nd 2 x.2 (x.2 + 1) [], v], r2)) else .inl (4, m :: r1)) else .inl (4, x :: m :: r1) := rfl
theorem ent_loc {q : List Sym → R} (hq : Loc q) : Loc (entP q) := by
 refine ⟨fun ts t r h => ?_, fun ts e r h => ?_⟩
 ·match ts with
  | [] => cases h
  | [x] =>
   rw [ent_one] at h
   split at h <;> cases h
  | x :: m :: r1 =>
   rw [ent_two] at h
   split at h
   ·rename_i hx
    split at h
    ·rename_i hm
     split at h
     ·cases h
     ·rename_i v r2 hv
      injection h with h
      injection h with h1 h2
      subst h1 h2
      obtain ⟨p, hp, e1, h3⟩ := hq.good _ _ _ hv
      refine ⟨x :: m :: p, by simp, by rw [e1]; rfl, fun r' => ?_⟩
      rw [List.cons_append, List.cons_append, ent_two, if_pos hx, if_pos hm, h3 r']
    ·cases h
   ·cases h
 ·match ts with
  | [] =>
   injection h with h
   injection h with h1 h2
   subst h1 h2
   exact ⟨[], rfl, fun _ => rfl, .inl rfl⟩
  | [x] =>
   rw [ent_one] at h
   split at h
   ·rename_i hx
    injection h with h
    injection h with h1 h2
    subst h1 h2
    refine ⟨[x], rfl, fun _ => ?_, .inl rfl⟩
    rw [ent_one, if_pos hx]
   ·injection h with h
    injection h with h1 h2
    subst h1 h2
    exact ⟨[], rfl, fun _ => rfl, .inl rfl⟩
  | x :: m :: r1 =>
   rw [ent_two] at h
   split at h
   ·rename_i hx
    split at h
    ·rename_i hm
     split at h
     ·rename_i e1 hv
      injection h with h
      subst h
      obtain ⟨p, e2, h3, h4⟩ := hq.bad _ _ _ hv
      refine ⟨x :: m :: p, by rw [e2]; rfl, fun he => ?_, h4⟩
      rw [ent_two, if_pos hx, if_pos hm, h3 he]
     ·cases h
    ·injection h with h
     injection h with h1 h2
     subst h1 h2
     refine ⟨[x], rfl, fun _ => ?_, .inl rfl⟩
     rw [ent_one, if_pos hx]
   ·injection h with h
    injection h with h1 h2
    subst h1 h2
    exact ⟨[], rfl, fun _ => rfl, .inl rfl⟩
theorem pv_loc : ∀ lv, Loc (pv lv)
 | 0 => by
  refine ⟨fun ts t r h => ?_, fun ts e r h => ?_⟩
  ·cases ts with
   | nil => cases h
   | cons x r0 => unfold pv at h; split at h <;> cases h
  ·cases ts with
   | nil =>
    injection h with h
    injection h with h1 h2
    subst h1 h2
    exact ⟨[], rfl, fun _ => rfl, .inl rfl⟩
   | cons x r0 =>
    unfold pv at h
    split at h
    ·injection h with h
     injection h with h1 h2
     subst h1 h2
     exact ⟨[], rfl, (fun h => by cases h), .inr ⟨rfl, by simp⟩⟩
    ·injection h with h
     injection h with h1 h2
     subst h1 h2
     exact ⟨[], rfl, fun _ => rfl, .inl rfl⟩
 | lv + 1 => by
  have ih := pv_loc lv
  have ie := ent_loc ih
  refine ⟨fun ts t r h => ?_, fun ts e r h => ?_⟩
  ·cases ts with
   | nil => cases h
   | cons x r0 =>
    unfold pv at h
    split at h
    ·rename_i hx
     injection h with h
     injection h with h1 h2
     subst h1 h2
     exact ⟨[x], by simp, rfl, fun r' => by rw [List.cons_append, pv, if_pos hx]; rfl⟩
    ·rename_i hx
     split at h
     ·rename_i hx2
      obtain ⟨p, hp, e1, h2⟩ := loop_good ie (by decide) h
      refine ⟨x :: p, by simp, by rw [e1]; rfl, fun r' => ?_⟩
      rw [List.cons_append, pv, if_neg hx, if_pos hx2]
      exact h2 _ r' (Nat.lt_succ_self _)
     ·rename_i hx2
      split at h
      ·rename_i hx3
       obtain ⟨p, hp, e1, h2⟩ := loop_good ih (by decide) h
       refine ⟨x :: p, by simp, by rw [e1]; rfl, fun r' => ?_⟩
       rw [List.cons_append, pv, if_neg hx, if_neg hx2, if_pos hx3]
       exact h2 _ r' (Nat.lt_succ_self _)
      ·cases h
  ·cases ts with
   | nil =>
    injection h with h
    injection h with h1 h2
    subst h1 h2
    exact ⟨[], rfl, fun _ => pv_nil _, .inl rfl⟩
   | cons x r0 =>
    unfold pv at h
    split at h
    ·cases h
    ·rename_i hx
     split at h
     ·rename_i hx2
      obtain ⟨p, e1, h3, h4⟩ := loop_bad ie (by decide) _ _ _ _ _ (Nat.lt_succ_self _) h
      refine ⟨x :: p, by rw [e1]; rfl, fun he => ?_, h4⟩
      rw [pv, if_neg hx, if_pos hx2]
      exact h3 he _ (Nat.lt_succ_self _)
     ·rename_i hx2
      split at h
      ·rename_i hx3
       obtain ⟨p, e1, h3, h4⟩ := loop_bad ih (by decide) _ _ _ _ _ (Nat.lt_succ_self _) h
       refine ⟨x :: p, by rw [e1]; rfl, fun he => ?_, h4⟩
       rw [pv, if_neg hx, if_neg hx2, if_pos hx3]
       exact h3 he _ (Nat.lt_succ_self _)
      ·injection h with h
       injection h with h1 h2
       subst h1 h2
       exact ⟨[], rfl, fun _ => pv_nil _, .inl rfl⟩
end Go.Proofs.YtnbfnjhbmeocfabGreatDoor.trees
namespace Go.Proofs.YtnbfnjhbmeocfabGreatDoor.valus
section
variable {β : Type}
theorem cmpB_asym {a b : List UInt8} (h : cmpB a b = .lt) : ¬ cmpB b a = .lt := by
 rw [cmpB_ord.swap a b trivial trivial, h]
 decide
theorem cmpB_trans {a b c : List UInt8} (h : cmpB a b = .lt) (g : cmpB b c = .lt) : cmpB a c = .lt := cmpB_ord.trans a b c trivial trivial trivial h g
end
end Go.Proofs.YtnbfnjhbmeocfabGreatDoor.valus
namespace Go.Proofs.YtnbfnjhbmeocfabGreatDoor.trees
def KSeg (q : List Sym → R) (ec : UInt8) : List T → List Sym → Nat → Prop
 | [], ts, e => ∃ y : Sym, y.1 = ec ∧ ts = [y] ∧ e = y.2 + 1
 | t :: l, ts, e => ∃ (seg : List Sym) (y : Sym) (rest : List Sym), seg ≠ [] ∧ q seg = .inr (t, []) ∧ ts = seg ++ y :: rest ∧ ((y.1 = 44 ∧ KSeg q ec l rest e) ∨ (y.1 = ec ∧ l = [] ∧ rest = [] ∧ e = y.2 + 1))
theorem kids_seg {q : List Sym → R} {ec : UInt8} (hq : Loc q) : ∀ (l : List T) (ts : List Sym) (e : Nat), Kids q ec l ts e [] → KSeg q ec l ts e
 | [], ts, e, h => by
  obtain ⟨x, hx, e1, e2⟩ := h
  exact ⟨x, hx, e1, e2⟩
 | t :: l, ts, e, h => by
  obtain ⟨x, r0, y, r1, rfl, hx, hqt, h⟩ := h
  obtain ⟨p, hp, e1, h2⟩ := hq.good _ _ _ hqt
  have h3 := h2 []
  rw [List.append_nil] at h3
  refine ⟨p, y, r1, hp, h3, e1, ?_⟩
  rcases h with ⟨hy, hk⟩ | ⟨_, hy2, rfl, rfl, rfl⟩
  ·exact .inl ⟨hy, kids_seg hq l _ _ hk⟩
  ·exact .inr ⟨hy2, rfl, rfl, rfl⟩
theorem pv_form {lv : Nat} {seg : List Sym} {t : T} (h : pv lv seg = .inr (t, [])) : ∃ lv', lv = lv' + 1 ∧
  ((∃ x : Sym, seg = [x] ∧ x.1 = 120 ∧ t = nd 1 x.2 (x.2 + 1) []) ∨
   (∃ (x : Sym) (ts : List Sym) (l : List T) (e : Nat), seg = x :: ts ∧ x.1 = 123 ∧ t = nd 3 x.2 e l ∧ KSeg (entP (pv lv')) 125 l ts e) ∨
   (∃ (x : Sym) (ts : List Sym) (l : List T) (e : Nat), seg = x :: ts ∧ x.1 = 91 ∧ t = nd 5 x.2 e l ∧ KSeg (pv lv') 93 l ts e)) := by
 cases lv with
 | zero =>
  cases seg with
  | nil => cases h
  | cons x r => unfold pv at h; split at h <;> cases h
 | succ lv =>
  refine ⟨lv, rfl, ?_⟩
  cases seg with
  | nil => cases h
  | cons x r =>
   rw [pv] at h
   split at h
   ·rename_i hx
    injection h with h
    injection h with h1 h2
    subst h1 h2
    exact .inl ⟨x, rfl, hx, rfl⟩
   ·split at h
    ·rename_i hx
     obtain ⟨l, e, rfl, hk⟩ := loop_kids _ _ _ _ _ _ _ _ _ h
     exact .inr (.inl ⟨x, r, l, e, rfl, hx, rfl, kids_seg (ent_loc (pv_loc lv)) l r e hk⟩)
    ·split at h
     ·rename_i hx
      obtain ⟨l, e, rfl, hk⟩ := loop_kids _ _ _ _ _ _ _ _ _ h
      exact .inr (.inr ⟨x, r, l, e, rfl, hx, rfl, kids_seg (pv_loc lv) l r e hk⟩)
     ·cases h
def Part (seg ts : List Sym) : Prop := ∃ pre post, ts = pre ++ (seg ++ post)
theorem Part.trans {a b c : List Sym} (h : Part a b) (h' : Part b c) : Part a c := by
 obtain ⟨p, q, rfl⟩ := h
 obtain ⟨p', q', rfl⟩ := h'
 exact ⟨p' ++ p, q ++ q', by simp⟩
end Go.Proofs.YtnbfnjhbmeocfabGreatDoor.trees
namespace Go.Proofs.YtnbfnjhbmeocfabGreatDoor.trees
open toks
def symOf (L : List UInt8) (t : Tk) : UInt8 := if t.kind = 6 then L.getD t.fro 0 else if t.kind = 7 then 63 else 120
def solF (L : List UInt8) : Nat → List Tk → List Sym
 | _, [] => []
 | i, t :: r => if 3 < t.kind then (symOf L t, i) :: solF L (i + 1) r else solF L (i + 1) r
theorem sol_yes {L : List UInt8} {i : Nat} {t : Tk} {r : List Tk} (h : 3 < t.kind) : solF L i (t :: r) = (symOf L t, i) :: solF L (i + 1) r := by rw [solF, if_pos h]
theorem sol_no {L : List UInt8} {i : Nat} {t : Tk} {r : List Tk} (h : ¬ 3 < t.kind) : solF L i (t :: r) = solF L (i + 1) r := by rw [solF, if_neg h]
theorem sol_in (L : List UInt8) : ∀ (l : List Tk) (i : Nat) (x : Sym), x ∈ solF L i l → i ≤ x.2 ∧ ∃ h : x.2 - i < l.length, 3 < l[x.2 - i].kind ∧ x.1 = symOf L l[x.2 - i]
 | [], i, x, h => by cases h
 | t :: l, i, x, h => by
  have go : x ∈ solF L (i + 1) l → i ≤ x.2 ∧ ∃ h : x.2 - i < (t :: l).length, 3 < (t :: l)[x.2 - i].kind ∧ x.1 = symOf L (t :: l)[x.2 - i] := fun hm => by
   obtain ⟨h1, h2, h3, h4⟩ := sol_in L l (i + 1) x hm
   refine ⟨by omega, by simp only [List.length_cons]; omega, ?_⟩
   have e : (t :: l)[x.2 - i]'(by simp only [List.length_cons]; omega) = l[x.2 - (i + 1)] := by
    have : x.2 - i = (x.2 - (i + 1)) + 1 := by omega
    simp only [this, List.getElem_cons_succ]
   rw [e]
   exact ⟨h3, h4⟩
  by_cases hk : 3 < t.kind
  ·rw [sol_yes hk] at h
   rcases List.mem_cons.1 h with rfl | h
   ·refine ⟨Nat.le_refl _, by simp, ?_⟩
    simp only [Nat.sub_self, List.getElem_cons_zero]
    exact ⟨hk, trivial⟩
   ·exact go h
  ·rw [sol_no hk] at h
   exact go h
end Go.Proofs.YtnbfnjhbmeocfabGreatDoor.trees
