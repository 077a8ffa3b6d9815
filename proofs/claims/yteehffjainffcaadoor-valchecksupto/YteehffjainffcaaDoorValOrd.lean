/- Orders: put together, and list by list: plain mathematics. -/
import GoSem.ClaimWide
set_option linter.unusedVariables false
namespace Go.Proofs.YteehffjainffcaaDoor.valus

/-- A way to compare that is one order on what P holds of. -/
structure IsOrd {α : Type} (P : α → Prop) (c : α → α → Ordering) : Prop where
  swap : ∀ a b, P a → P b → c b a = (c a b).swap
  same : ∀ a b, P a → P b → (c a b = .eq ↔ a = b)
  trans : ∀ a b d, P a → P b → P d → c a b = .lt → c b d = .lt → c a d = .lt
theorem IsOrd.refl {α : Type} {P : α → Prop} {c : α → α → Ordering} (h : IsOrd P c) {a : α} (ha : P a) : c a a = .eq := (h.same a a ha ha).2 rfl
theorem IsOrd.mono {α : Type} {P Q : α → Prop} {c : α → α → Ordering} (h : IsOrd P c) (hq : ∀ a, Q a → P a) : IsOrd Q c :=
  ⟨fun a b ha hb => h.swap a b (hq a ha) (hq b hb), fun a b ha hb => h.same a b (hq a ha) (hq b hb), fun a b d ha hb hd => h.trans a b d (hq a ha) (hq b hb) (hq d hd)⟩
/-- Neither above: neither above. -/
theorem IsOrd.le_trans {α : Type} {P : α → Prop} {c : α → α → Ordering} (h : IsOrd P c) {a b d : α} (ha : P a) (hb : P b) (hd : P d) (h1 : c a b ≠ .gt) (h2 : c b d ≠ .gt) : c a d ≠ .gt := by
  cases e1 : c a b with
  | gt => exact absurd e1 h1
  | eq =>
    have := (h.same a b ha hb).1 e1
    subst this
    exact h2
  | lt =>
    cases e2 : c b d with
    | gt => exact absurd e2 h2
    | eq =>
      have := (h.same b d hb hd).1 e2
      subst this
      rw [e1]
      decide
    | lt =>
      rw [h.trans a b d ha hb hd e1 e2]
      decide
/-- By numbers. -/
def cmpI (a b : Int) : Ordering := if a < b then .lt else if a = b then .eq else .gt
theorem cmpI_ord : IsOrd (fun _ => True) cmpI := by
  refine ⟨fun a b _ _ => ?_, fun a b _ _ => ?_, fun a b d _ _ _ h1 h2 => ?_⟩
  · unfold cmpI
    by_cases h1 : a < b
    · rw [if_pos h1, if_neg (by omega), if_neg (by omega)]; rfl
    · by_cases h2 : a = b
      · rw [if_neg h1, if_pos h2, if_neg (by omega), if_pos h2.symm]; rfl
      · rw [if_neg h1, if_neg h2, if_pos (by omega)]; rfl
  · unfold cmpI
    by_cases h1 : a < b
    · rw [if_pos h1]
      exact ⟨fun h => (by cases h), fun h => (by omega)⟩
    · by_cases h2 : a = b
      · rw [if_neg h1, if_pos h2]
        exact ⟨fun _ => h2, fun _ => rfl⟩
      · rw [if_neg h1, if_neg h2]
        exact ⟨fun h => (by cases h), fun h => absurd h h2⟩
  · have e : ∀ x y, cmpI x y = .lt → x < y := fun x y h => by
      unfold cmpI at h
      by_cases h1 : x < y
      · exact h1
      · by_cases h2 : x = y
        · rw [if_neg h1, if_pos h2] at h; cases h
        · rw [if_neg h1, if_neg h2] at h; cases h
    unfold cmpI
    rw [if_pos (Int.lt_trans (e _ _ h1) (e _ _ h2))]
/-- By a number that tells them apart. -/
theorem IsOrd.key {α β : Type} {P : β → Prop} {Q : α → Prop} {c : β → β → Ordering} (h : IsOrd P c) (f : α → β) (hp : ∀ a, Q a → P (f a)) (hi : ∀ a b, Q a → Q b → f a = f b → a = b) : IsOrd Q (fun a b => c (f a) (f b)) :=
  ⟨fun a b ha hb => h.swap _ _ (hp a ha) (hp b hb), fun a b ha hb => ⟨fun e => hi a b ha hb ((h.same _ _ (hp a ha) (hp b hb)).1 e), fun e => by subst e; exact h.refl (hp a ha)⟩, fun a b d ha hb hd => h.trans _ _ _ (hp a ha) (hp b hb) (hp d hd)⟩
/-- First by the one, then by the other. -/
def thenC (x y : Ordering) : Ordering := match x with | .eq => y | _ => x
theorem thenC_lt {x y : Ordering} (h : thenC x y = .lt) : x = .lt ∨ (x = .eq ∧ y = .lt) := by
  cases x with
  | lt => exact .inl rfl
  | eq => exact .inr ⟨rfl, h⟩
  | gt => cases h
theorem thenC_eq {x y : Ordering} : thenC x y = .eq ↔ x = .eq ∧ y = .eq := by
  cases x with
  | lt => exact ⟨fun h => (by cases h), fun h => (by cases h.1)⟩
  | eq => exact ⟨fun h => ⟨rfl, h⟩, fun h => h.2⟩
  | gt => exact ⟨fun h => (by cases h), fun h => (by cases h.1)⟩
theorem thenC_swap (x y : Ordering) : (thenC x y).swap = thenC x.swap y.swap := by cases x <;> rfl
theorem IsOrd.pair {α β : Type} {P : α → Prop} {Q : β → Prop} {c : α → α → Ordering} {d : β → β → Ordering} (h : IsOrd P c) (g : IsOrd Q d) : IsOrd (fun p : α × β => P p.1 ∧ Q p.2) (fun p q => thenC (c p.1 q.1) (d p.2 q.2)) := by
  refine ⟨fun p q hp hq => ?_, fun p q hp hq => ?_, fun p q r hp hq hr h1 h2 => ?_⟩
  · rw [thenC_swap, h.swap _ _ hp.1 hq.1, g.swap _ _ hp.2 hq.2]
  · rw [thenC_eq, h.same _ _ hp.1 hq.1, g.same _ _ hp.2 hq.2]
    exact ⟨fun e => Prod.ext e.1 e.2, fun e => by rw [e]; exact ⟨rfl, rfl⟩⟩
  · rcases thenC_lt h1 with a1 | ⟨a1, b1⟩
    · rcases thenC_lt h2 with a2 | ⟨a2, b2⟩
      · rw [h.trans _ _ _ hp.1 hq.1 hr.1 a1 a2]; rfl
      · have e := (h.same _ _ hq.1 hr.1).1 a2
        rw [← e, a1]
        rfl
    · have e := (h.same _ _ hp.1 hq.1).1 a1
      rcases thenC_lt h2 with a2 | ⟨a2, b2⟩
      · rw [e, a2]; rfl
      · rw [e, a2]
        exact g.trans _ _ _ hp.2 hq.2 hr.2 b1 b2
/-- Lists, element by element; of one that is the beginning of the other the shorter one is below. -/
def cmpL {α : Type} (c : α → α → Ordering) : List α → List α → Ordering
  | [], [] => .eq
  | [], _ :: _ => .lt
  | _ :: _, [] => .gt
  | x :: r, y :: t => thenC (c x y) (cmpL c r t)
theorem IsOrd.list {α : Type} {P : α → Prop} {c : α → α → Ordering} (h : IsOrd P c) : IsOrd (fun l : List α => ∀ x ∈ l, P x) (cmpL c) := by
  have sw : ∀ a b : List α, (∀ x ∈ a, P x) → (∀ x ∈ b, P x) → cmpL c b a = (cmpL c a b).swap := by
    intro a
    induction a with
    | nil => intro b _ _; cases b <;> rfl
    | cons x r ih =>
      intro b ha hb
      cases b with
      | nil => rfl
      | cons y t =>
        show thenC _ _ = (thenC _ _).swap
        rw [thenC_swap, h.swap x y (ha x (by simp)) (hb y (by simp)), ih t (fun z hz => ha z (by simp [hz])) (fun z hz => hb z (by simp [hz]))]
  have sm : ∀ a b : List α, (∀ x ∈ a, P x) → (∀ x ∈ b, P x) → (cmpL c a b = .eq ↔ a = b) := by
    intro a
    induction a with
    | nil =>
      intro b _ _
      cases b with
      | nil => exact ⟨fun _ => rfl, fun _ => rfl⟩
      | cons y t => exact ⟨fun h => (by cases h), fun h => (by cases h)⟩
    | cons x r ih =>
      intro b ha hb
      cases b with
      | nil => exact ⟨fun h => (by cases h), fun h => (by cases h)⟩
      | cons y t =>
        show thenC _ _ = .eq ↔ _
        rw [thenC_eq, h.same x y (ha x (by simp)) (hb y (by simp)), ih t (fun z hz => ha z (by simp [hz])) (fun z hz => hb z (by simp [hz]))]
        exact ⟨fun e => by rw [e.1, e.2], fun e => by injection e with e1 e2; exact ⟨e1, e2⟩⟩
  refine ⟨sw, sm, ?_⟩
  intro a
  induction a with
  | nil =>
    intro b d _ _ _ h1 h2
    cases b with
    | nil => cases h1
    | cons y t =>
      cases d with
      | nil => cases h2
      | cons z u => rfl
  | cons x r ih =>
    intro b d ha hb hd h1 h2
    cases b with
    | nil => cases h1
    | cons y t =>
      cases d with
      | nil => cases h2
      | cons z u =>
        have hx := ha x (by simp)
        have hy := hb y (by simp)
        have hz := hd z (by simp)
        show thenC _ _ = .lt
        rcases thenC_lt h1 with a1 | ⟨a1, b1⟩
        · rcases thenC_lt h2 with a2 | ⟨a2, b2⟩
          · rw [h.trans x y z hx hy hz a1 a2]; rfl
          · have e := (h.same y z hy hz).1 a2
            rw [← e, a1]; rfl
        · have e := (h.same x y hx hy).1 a1
          rcases thenC_lt h2 with a2 | ⟨a2, b2⟩
          · rw [e, a2]; rfl
          · rw [e, a2]
            exact ih t u (fun z hz => ha z (by simp [hz])) (fun z hz => hb z (by simp [hz])) (fun z hz => hd z (by simp [hz])) b1 b2
/-- As a number: -1, 0, 1. -/
def ordI (x : Ordering) : Int := match x with | .lt => -1 | .eq => 0 | .gt => 1
theorem ordI_swap (x : Ordering) : ordI x.swap = - ordI x := by cases x <;> rfl
theorem ordI_zero {x : Ordering} : ordI x = 0 ↔ x = .eq := by cases x <;> simp [ordI]
theorem ordI_pos {x : Ordering} : 0 < ordI x ↔ x = .gt := by cases x <;> simp [ordI]
/-- Bytes. -/
def cmpB : List UInt8 → List UInt8 → Ordering := cmpL (fun a b => cmpI (a.toNat : Int) (b.toNat : Int))
theorem cmpB_ord : IsOrd (fun _ => True) cmpB := by
  have h : IsOrd (fun _ : UInt8 => True) (fun a b => cmpI (a.toNat : Int) (b.toNat : Int)) := cmpI_ord.key (fun a : UInt8 => (a.toNat : Int)) (fun _ _ => trivial) (fun a b _ _ e => UInt8.toNat_inj.1 (by omega))
  exact h.list.mono (fun _ _ x _ => trivial)
/-- The bits of a fraction: the place of them in their order. -/
def fkey (f : Nat) : Int := if f < 9223372036854775808 then (f : Int) else -(f : Int) - 1 + 9223372036854775808
theorem fkey_ord : IsOrd (fun f : Nat => f < 18446744073709551616) (fun a b => cmpI (fkey a) (fkey b)) := by
  refine cmpI_ord.key fkey (fun _ _ => trivial) (fun a b ha hb e => ?_)
  unfold fkey at e
  split at e <;> split at e <;> omega
end Go.Proofs.YteehffjainffcaaDoor.valus
