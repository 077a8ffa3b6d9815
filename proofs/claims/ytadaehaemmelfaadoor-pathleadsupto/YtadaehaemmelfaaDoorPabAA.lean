/- Of our texts, what this claim reaches. -/
import GoSem.ClaimWide
set_option linter.unusedVariables false
namespace Go.Proofs.YtadaehaemmelfaaDoor.valus
structure IsOrd {α : Type} (P : α → Prop) (c : α → α → Ordering) : Prop where
 swap : ∀ a b, P a → P b → c b a = (c a b).swap
 same : ∀ a b, P a → P b → (c a b = .eq ↔ a = b)
 trans : ∀ a b d, P a → P b → P d → c a b = .lt → c b d = .lt → c a d = .lt
theorem IsOrd.refl {α : Type} {P : α → Prop} {c : α → α → Ordering} (h : IsOrd P c) {a : α} (ha : P a) : c a a = .eq := (h.same a a ha ha).2 rfl
theorem IsOrd.mono {α : Type} {P Q : α → Prop} {c : α → α → Ordering} (h : IsOrd P c) (hq : ∀ a, Q a → P a) : IsOrd Q c :=
 ⟨fun a b ha hb => h.swap a b (hq a ha) (hq b hb), fun a b ha hb => h.same a b (hq a ha) (hq b hb), fun a b d ha hb hd => h.trans a b d (hq a ha) (hq b hb) (hq d hd)⟩
def cmpI (a b : Int) : Ordering := if a < b then .lt else if a = b then .eq else .gt
theorem cmpI_ord : IsOrd (fun _ => True) cmpI := by
 refine ⟨fun a b _ _ => ?_, fun a b _ _ => ?_, fun a b d _ _ _ h1 h2 => ?_⟩
 ·unfold cmpI
  by_cases h1 : a < b
  ·rw [if_pos h1, if_neg (by omega), if_neg (by omega)]; rfl
  ·by_cases h2 : a = b
   ·rw [if_neg h1, if_pos h2, if_neg (by omega), if_pos h2.symm]; rfl
   ·rw [if_neg h1, if_neg h2, if_pos (by omega)]; rfl
 ·unfold cmpI
  by_cases h1 : a < b
  ·rw [if_pos h1]
   exact ⟨fun h => (by cases h), fun h => (by omega)⟩
  ·by_cases h2 : a = b
   ·rw [if_neg h1, if_pos h2]
    exact ⟨fun _ => h2, fun _ => rfl⟩
   ·rw [if_neg h1, if_neg h2]
    exact ⟨fun h => (by cases h), fun h => absurd h h2⟩
 ·have e : ∀ x y, cmpI x y = .lt → x < y := fun x y h => by
   unfold cmpI at h
   by_cases h1 : x < y
   ·exact h1
   ·by_cases h2 : x = y
    ·rw [if_neg h1, if_pos h2] at h; cases h
    ·rw [if_neg h1, if_neg h2] at h; cases h
  unfold cmpI
  rw [if_pos (Int.lt_trans (e _ _ h1) (e _ _ h2))]
theorem IsOrd.key {α β : Type} {P : β → Prop} {Q : α → Prop} {c : β → β → Ordering} (h : IsOrd P c) (f : α → β) (hp : ∀ a, Q a → P (f a)) (hi : ∀ a b, Q a → Q b → f a = f b → a = b) : IsOrd Q (fun a b => c (f a) (f b)) :=
 ⟨fun a b ha hb => h.swap _ _ (hp a ha) (hp b hb), fun a b ha hb => ⟨fun e => hi a b ha hb ((h.same _ _ (hp a ha) (hp b hb)).1 e), fun e => by subst e; exact h.refl (hp a ha)⟩, fun a b d ha hb hd => h.trans _ _ _ (hp a ha) (hp b hb) (hp d hd)⟩
def thenC (x y : Ordering) : Ordering := match x with | .eq => y | _ => x
theorem thenC_lt {x y : Ordering} (h : thenC x y = .lt) : x = .lt ∨ (x = .eq ∧ y = .lt) := by
 cases x with
 | lt => exact .inl rfl
 | eq => exact .inr ⟨rfl, h⟩
 | gt => cases h
theorem thenC_eq {x y : Ordering} : thenC x y = .eq ↔ x = .eq ∧ y = .eq := by
 cases x with
 | lt => exact ⟨fun h => (by cases h), fun h => (by cases h.1)⟩
 | eq => exact ⟨fun h => ⟨rfl, h⟩, fun h => h.2⟩
 | gt => exact ⟨fun h => (by cases h), fun h => (by cases h.1)⟩
theorem thenC_swap (x y : Ordering) : (thenC x y).swap = thenC x.swap y.swap := by cases x <;> rfl
theorem IsOrd.pair {α β : Type} {P : α → Prop} {Q : β → Prop} {c : α → α → Ordering} {d : β → β → Ordering} (h : IsOrd P c) (g : IsOrd Q d) : IsOrd (fun p : α × β => P p.1 ∧ Q p.2) (fun p q => thenC (c p.1 q.1) (d p.2 q.2)) := by
 refine ⟨fun p q hp hq => ?_, fun p q hp hq => ?_, fun p q r hp hq hr h1 h2 => ?_⟩
 ·rw [thenC_swap, h.swap _ _ hp.1 hq.1, g.swap _ _ hp.2 hq.2]
 ·rw [thenC_eq, h.same _ _ hp.1 hq.1, g.same _ _ hp.2 hq.2]
  exact ⟨fun e => Prod.ext e.1 e.2, fun e => by rw [e]; exact ⟨rfl, rfl⟩⟩
 ·rcases thenC_lt h1 with a1 | ⟨a1, b1⟩
  ·rcases thenC_lt h2 with a2 | ⟨a2, b2⟩
   ·rw [h.trans _ _ _ hp.1 hq.1 hr.1 a1 a2]; rfl
   ·have e := (h.same _ _ hq.1 hr.1).1 a2
    rw [← e, a1]
    rfl
  ·have e := (h.same _ _ hp.1 hq.1).1 a1
   rcases thenC_lt h2 with a2 | ⟨a2, b2⟩
   ·rw [e, a2]; rfl
   ·rw [e, a2]
    exact g.trans _ _ _ hp.2 hq.2 hr.2 b1 b2
def cmpL {α : Type} (c : α → α → Ordering) : List α → List α → Ordering
 | [], [] => .eq
 | [], _ :: _ => .lt
 | _ :: _, [] => .gt
 | x :: r, y :: t => thenC (c x y) (cmpL c r t)
theorem IsOrd.list {α : Type} {P : α → Prop} {c : α → α → Ordering} (h : IsOrd P c) : IsOrd (fun l : List α => ∀ x ∈ l, P x) (cmpL c) := by
 have sw : ∀ a b : List α, (∀ x ∈ a, P x) → (∀ x ∈ b, P x) → cmpL c b a = (cmpL c a b).swap := by
  intro a
  induction a with
  | nil => intro b _ _; cases b <;> rfl
  | cons x r ih =>
   intro b ha hb
   cases b with
   | nil => rfl
   | cons y t =>
    show thenC _ _ = (thenC _ _).swap
    rw [thenC_swap, h.swap x y (ha x (by simp)) (hb y (by simp)), ih t (fun z hz => ha z (by simp [hz])) (fun z hz => hb z (by simp [hz]))]
 have sm : ∀ a b : List α, (∀ x ∈ a, P x) → (∀ x ∈ b, P x) → (cmpL c a b = .eq ↔ a = b) := by
  intro a
  induction a with
  | nil =>
   intro b _ _
   cases b with
   | nil => exact ⟨fun _ => rfl, fun _ => rfl⟩
   | cons y t => exact ⟨fun h => (by cases h), fun h => (by cases h)⟩
  | cons x r ih =>
   intro b ha hb
   cases b with
   | nil => exact ⟨fun h => (by cases h), fun h => (by cases h)⟩
   | cons y t =>
    show thenC _ _ = .eq ↔ _
    rw [thenC_eq, h.same x y (ha x (by simp)) (hb y (by simp)), ih t (fun z hz => ha z (by simp [hz])) (fun z hz => hb z (by simp [hz]))]
    exact ⟨fun e => by rw [e.1, e.2], fun e => by injection e with e1 e2; exact ⟨e1, e2⟩⟩
 refine ⟨sw, sm, ?_⟩
 intro a
 induction a with
 | nil =>
  intro b d _ _ _ h1 h2
  cases b with
  | nil => cases h1
  | cons y t =>
   cases d with
   | nil => cases h2
   | cons z u => rfl
 | cons x r ih =>
  intro b d ha hb hd h1 h2
  cases b with
  | nil => cases h1
  | cons y t =>
   cases d with
   | nil => cases h2
   | cons z u =>
    have hx := ha x (by simp)
    have hy := hb y (by simp)
    have hz := hd z (by simp)
    show thenC _ _ = .lt
    rcases thenC_lt h1 with a1 | ⟨a1, b1⟩
    ·rcases thenC_lt h2 with a2 | ⟨a2, b2⟩
     ·rw [h.trans x y z hx hy hz a1 a2]; rfl
     ·have e := (h.same y z hy hz).1 a2
      rw [← e, a1]; rfl
    ·have e := (h.same x y hx hy).1 a1
     rcases thenC_lt h2 with a2 | ⟨a2, b2⟩
     ·rw [e, a2]; rfl
     ·rw [e, a2]
      exact ih t u (fun z hz => ha z (by simp [hz])) (fun z hz => hb z (by simp [hz])) (fun z hz => hd z (by simp [hz])) b1 b2
def ordI (x : Ordering) : Int := match x with | .lt => -1 | .eq => 0 | .gt => 1
theorem ordI_zero {x : Ordering} : ordI x = 0 ↔ x = .eq := by cases x <;> simp [ordI]
def cmpB : List UInt8 → List UInt8 → Ordering := cmpL (fun a b => cmpI (a.toNat : Int) (b.toNat : Int))
theorem cmpB_ord : IsOrd (fun _ => True) cmpB := by
 have h : IsOrd (fun _ : UInt8 => True) (fun a b => cmpI (a.toNat : Int) (b.toNat : Int)) := cmpI_ord.key (fun a : UInt8 => (a.toNat : Int)) (fun _ _ => trivial) (fun a b _ _ e => UInt8.toNat_inj.1 (by omega))
 exact h.list.mono (fun _ _ x _ => trivial)
def fkey (f : Nat) : Int := if f < 9223372036854775808 then (f : Int) else -(f : Int) - 1 + 9223372036854775808
theorem fkey_ord : IsOrd (fun f : Nat => f < 18446744073709551616) (fun a b => cmpI (fkey a) (fkey b)) := by
 refine cmpI_ord.key fkey (fun _ _ => trivial) (fun a b ha hb e => ?_)
 unfold fkey at e
 split at e <;> split at e <;> omega
end Go.Proofs.YtadaehaemmelfaaDoor.valus
namespace Go.Proofs.YtadaehaemmelfaaDoor.valus
abbrev Lab := Int × Int × Nat × List UInt8
abbrev V := DataW Lab
def mkV (x : Lab) (L E : List V) : V := .slice L (.held x :: E)
def ent (k : List UInt8) (v : V) : V := mkV (0, 0, 0, k) [v] []
def opn : V → Lab × List V × List V
 | .slice L (.held x :: E) => (x, L, E)
 | _ => ((0, 0, 0, []), [], [])
theorem opn_mk (x : Lab) (L E : List V) : opn (mkV x L E) = (x, L, E) := rfl
def opnE (e : V) : List UInt8 × V := ((opn e).1.2.2.2, (opn e).2.1.headD .nil)
theorem opnE_ent (k : List UInt8) (v : V) : opnE (ent k v) = (k, v) := rfl
theorem mkV_inj {x y : Lab} {L M E F : List V} (h : mkV x L E = mkV y M F) : x = y ∧ L = M ∧ E = F := by
 have e := congrArg opn h
 rw [opn_mk, opn_mk] at e
 injection e with e1 e2
 injection e2 with e3 e4
 exact ⟨e1, e3, e4⟩
def IsV : Nat → V → Prop
 | 0, _ => False
 | n + 1, v => ∃ x L E, v = mkV x L E ∧ x.2.2.1 < 18446744073709551616 ∧ (∀ y ∈ L, IsV n y) ∧ ∀ e ∈ E, ∃ k y, e = ent k y ∧ IsV n y
def IsE (n : Nat) (e : V) : Prop := ∃ k y, e = ent k y ∧ IsV n y
theorem IsV.mk {n : Nat} {x : Lab} {L E : List V} : IsV (n + 1) (mkV x L E) ↔ x.2.2.1 < 18446744073709551616 ∧ (∀ y ∈ L, IsV n y) ∧ ∀ e ∈ E, IsE n e := by
 constructor
 ·rintro ⟨x', L', E', h, a, b, c⟩
  obtain ⟨h1, h2, h3⟩ := mkV_inj h
  subst h1; subst h2; subst h3
  exact ⟨a, b, c⟩
 ·rintro ⟨a, b, c⟩
  exact ⟨x, L, E, rfl, a, b, c⟩
def cmpLab (x y : Lab) : Ordering := thenC (cmpI x.1 y.1) (thenC (cmpI x.2.1 y.2.1) (thenC (cmpI (fkey x.2.2.1) (fkey y.2.2.1)) (cmpB x.2.2.2 y.2.2.2)))
theorem cmpLab_ord : IsOrd (fun x : Lab => x.2.2.1 < 18446744073709551616) cmpLab :=
 (cmpI_ord.pair (cmpI_ord.pair (fkey_ord.pair cmpB_ord))).mono (fun x h => ⟨trivial, trivial, h, trivial⟩)
def cmpE (c : V → V → Ordering) (e f : V) : Ordering := thenC (cmpB (opnE e).1 (opnE f).1) (c (opnE e).2 (opnE f).2)
def cmpV : Nat → V → V → Ordering
 | 0, _, _ => .eq
 | n + 1, a, b => thenC (cmpLab (opn a).1 (opn b).1) (thenC (cmpL (cmpV n) (opn a).2.1 (opn b).2.1) (cmpL (cmpE (cmpV n)) (opn a).2.2 (opn b).2.2))
theorem cmpE_ord {n : Nat} {c : V → V → Ordering} (h : IsOrd (IsV n) c) : IsOrd (IsE n) (cmpE c) := by
 refine (cmpB_ord.pair h).key opnE (fun e he => ?_) (fun e f he hf hx => ?_)
 ·obtain ⟨k, y, rfl, b⟩ := he
  exact ⟨trivial, b⟩
 ·obtain ⟨k, y, rfl, b⟩ := he
  obtain ⟨m, z, rfl, b'⟩ := hf
  rw [opnE_ent, opnE_ent] at hx
  injection hx with h1 h2
  rw [h1, h2]
theorem cmpV_ord : ∀ n : Nat, IsOrd (IsV n) (cmpV n)
 | 0 => ⟨fun _ _ h => h.elim, fun _ _ h => h.elim, fun _ _ _ h => h.elim⟩
 | n + 1 => by
  have ih := cmpV_ord n
  refine (cmpLab_ord.pair (ih.list.pair (cmpE_ord ih).list)).key opn (fun v hv => ?_) (fun v u hv hu hx => ?_)
  ·obtain ⟨x, L, E, rfl, a, b, c⟩ := hv
   exact ⟨a, b, c⟩
  ·obtain ⟨x, L, E, rfl, a, b, c⟩ := hv
   obtain ⟨x', L', E', rfl, a', b', c'⟩ := hu
   rw [opn_mk, opn_mk] at hx
   injection hx with h1 h2
   injection h2 with h3 h4
   rw [h1, h3, h4]
end Go.Proofs.YtadaehaemmelfaaDoor.valus
namespace Go.Proofs.YtadaehaemmelfaaDoor.valus
def parts (v : V) : List V := (opn v).2.1 ++ (opn v).2.2.map (fun e => (opnE e).2)
theorem parts_mk (x : Lab) (L E : List V) : parts (mkV x L E) = L ++ E.map (fun e => (opnE e).2) := rfl
theorem IsV.part {n : Nat} {v y : V} (h : IsV (n + 1) v) (hy : y ∈ parts v) : IsV n y := by
 obtain ⟨x, L, E, rfl, a, b, c⟩ := h
 rw [parts_mk, List.mem_append, List.mem_map] at hy
 rcases hy with hy | ⟨e, he, rfl⟩
 ·exact b y hy
 ·obtain ⟨k, z, rfl, hz⟩ := c e he
  exact hz
def maxOf (q : V → Nat) : List V → Nat
 | [] => 0
 | x :: r => max (q x) (maxOf q r)
def sumOf (q : V → Nat) : List V → Nat
 | [] => 0
 | x :: r => q x + sumOf q r
theorem maxOf_append (q : V → Nat) : ∀ l m : List V, maxOf q (l ++ m) = max (maxOf q l) (maxOf q m)
 | [], m => by show maxOf q m = max 0 _; omega
 | x :: r, m => by
  show max _ (maxOf q (r ++ m)) = max (max _ _) _
  rw [maxOf_append q r m]
  omega
theorem sumOf_append (q : V → Nat) : ∀ l m : List V, sumOf q (l ++ m) = sumOf q l + sumOf q m
 | [], m => by show sumOf q m = 0 + _; omega
 | x :: r, m => by
  show _ + sumOf q (r ++ m) = _ + _ + _
  rw [sumOf_append q r m]
  omega
theorem maxOf_congr {p q : V → Nat} : ∀ {l : List V}, (∀ x ∈ l, p x = q x) → maxOf p l = maxOf q l
 | [], _ => rfl
 | x :: r, h => by
  show max _ _ = max _ _
  rw [h x (by simp), maxOf_congr (fun y hy => h y (by simp [hy]))]
theorem sumOf_congr {p q : V → Nat} : ∀ {l : List V}, (∀ x ∈ l, p x = q x) → sumOf p l = sumOf q l
 | [], _ => rfl
 | x :: r, h => by
  show _ + _ = _ + _
  rw [h x (by simp), sumOf_congr (fun y hy => h y (by simp [hy]))]
theorem le_maxOf {q : V → Nat} : ∀ {l : List V} {x : V}, x ∈ l → q x ≤ maxOf q l
 | y :: r, x, h => by
  show _ ≤ max _ _
  rcases List.mem_cons.1 h with rfl | h
  ·omega
  ·have := le_maxOf (q := q) h
   omega
theorem maxOf_le {q : V → Nat} {b : Nat} : ∀ {l : List V}, (∀ x ∈ l, q x ≤ b) → maxOf q l ≤ b
 | [], _ => Nat.zero_le _
 | x :: r, h => by
  show max _ _ ≤ b
  have h1 := h x (by simp)
  have h2 := maxOf_le (q := q) (b := b) (l := r) (fun y hy => h y (by simp [hy]))
  omega
theorem le_sumOf {q : V → Nat} : ∀ {l : List V} {x : V}, x ∈ l → q x ≤ sumOf q l
 | y :: r, x, h => by
  show _ ≤ _ + _
  rcases List.mem_cons.1 h with rfl | h
  ·omega
  ·have := le_sumOf (q := q) h
   omega
theorem max_le_sum {p q : V → Nat} : ∀ {l : List V}, (∀ x ∈ l, p x ≤ q x) → maxOf p l ≤ sumOf q l
 | [], _ => Nat.le_refl _
 | x :: r, h => by
  show max _ _ ≤ _ + _
  have h1 := h x (by simp)
  have h2 := max_le_sum (p := p) (q := q) (l := r) (fun y hy => h y (by simp [hy]))
  omega
def depthV : Nat → V → Nat
 | 0, _ => 0
 | n + 1, v => maxOf (depthV n) (parts v) + 1
def nodesV : Nat → V → Nat
 | 0, _ => 0
 | n + 1, v => sumOf (nodesV n) (parts v) + 1
theorem depthV_more : ∀ {n : Nat} {v : V}, IsV n v → depthV (n + 1) v = depthV n v
 | 0, _, h => h.elim
 | n + 1, v, h => by
  show maxOf (depthV (n + 1)) _ + 1 = maxOf (depthV n) _ + 1
  rw [maxOf_congr (fun x hx => depthV_more (h.part hx))]
theorem nodesV_more : ∀ {n : Nat} {v : V}, IsV n v → nodesV (n + 1) v = nodesV n v
 | 0, _, h => h.elim
 | n + 1, v, h => by
  show sumOf (nodesV (n + 1)) _ + 1 = sumOf (nodesV n) _ + 1
  rw [sumOf_congr (fun x hx => nodesV_more (h.part hx))]
theorem depth_level : ∀ {n : Nat} {v : V}, depthV n v ≤ n
 | 0, _ => Nat.le_refl _
 | n + 1, v => Nat.succ_le_succ (maxOf_le (fun x _ => depth_level))
theorem depth_nodes : ∀ {n : Nat} {v : V}, depthV n v ≤ nodesV n v
 | 0, _ => Nat.le_refl _
 | n + 1, v => Nat.succ_le_succ (max_le_sum (fun x _ => depth_nodes))
end Go.Proofs.YtadaehaemmelfaaDoor.valus
