/- Values as trees: their order, their sizes, and what is wrong with them: plain mathematics. -/
import Derived.Test.YteehffjainffcaaDoorValOrd
set_option linter.unusedVariables false
namespace Go.Proofs.YteehffjainffcaaDoor.valus

/-- What stands at a value itself: its kind, its number, its bits, its text. -/
abbrev Lab := Int × Int × Nat × List UInt8
abbrev V := DataW Lab
def mkV (x : Lab) (L E : List V) : V := .slice L (.held x :: E)
/-- An entry: its key, its value. -/
def ent (k : List UInt8) (v : V) : V := mkV (0, 0, 0, k) [v] []
def opn : V → Lab × List V × List V
  | .slice L (.held x :: E) => (x, L, E)
  | _ => ((0, 0, 0, []), [], [])
theorem opn_mk (x : Lab) (L E : List V) : opn (mkV x L E) = (x, L, E) := rfl
def opnE (e : V) : List UInt8 × V := ((opn e).1.2.2.2, (opn e).2.1.headD .nil)
theorem opnE_ent (k : List UInt8) (v : V) : opnE (ent k v) = (k, v) := rfl
theorem mkV_inj {x y : Lab} {L M E F : List V} (h : mkV x L E = mkV y M F) : x = y ∧ L = M ∧ E = F := by
  have e := congrArg opn h
  rw [opn_mk, opn_mk] at e
  injection e with e1 e2
  injection e2 with e3 e4
  exact ⟨e1, e3, e4⟩
theorem ent_inj {k m : List UInt8} {v u : V} (h : ent k v = ent m u) : k = m ∧ v = u := by
  have e := congrArg opnE h
  rw [opnE_ent, opnE_ent] at e
  injection e with e1 e2
  exact ⟨e1, e2⟩
/-- A value of at most so many levels. -/
def IsV : Nat → V → Prop
  | 0, _ => False
  | n + 1, v => ∃ x L E, v = mkV x L E ∧ x.2.2.1 < 18446744073709551616 ∧ (∀ y ∈ L, IsV n y) ∧ ∀ e ∈ E, ∃ k y, e = ent k y ∧ IsV n y
/-- An entry whose value has at most so many levels. -/
def IsE (n : Nat) (e : V) : Prop := ∃ k y, e = ent k y ∧ IsV n y
theorem IsV.mk {n : Nat} {x : Lab} {L E : List V} : IsV (n + 1) (mkV x L E) ↔ x.2.2.1 < 18446744073709551616 ∧ (∀ y ∈ L, IsV n y) ∧ ∀ e ∈ E, IsE n e := by
  constructor
  · rintro ⟨x', L', E', h, a, b, c⟩
    obtain ⟨h1, h2, h3⟩ := mkV_inj h
    subst h1; subst h2; subst h3
    exact ⟨a, b, c⟩
  · rintro ⟨a, b, c⟩
    exact ⟨x, L, E, rfl, a, b, c⟩
theorem IsE.ent {n : Nat} {k : List UInt8} {v : V} : IsE n (ent k v) ↔ IsV n v := by
  constructor
  · rintro ⟨k', y, h, a⟩
    obtain ⟨_, h2⟩ := ent_inj h
    subst h2
    exact a
  · exact fun h => ⟨k, v, rfl, h⟩
theorem IsV.more : ∀ {n : Nat} {v : V}, IsV n v → IsV (n + 1) v
  | 0, _, h => h.elim
  | n + 1, _, ⟨x, L, E, e, a, b, c⟩ => ⟨x, L, E, e, a, fun y hy => (b y hy).more, fun z hz => by
    obtain ⟨k, y, h1, h2⟩ := c z hz
    exact ⟨k, y, h1, h2.more⟩⟩
theorem IsV.le {n m : Nat} {v : V} (h : IsV n v) (hm : n ≤ m) : IsV m v := by
  obtain ⟨d, rfl⟩ := Nat.le.dest hm
  induction d with
  | zero => exact h
  | succ d ih => exact (ih (by omega)).more
theorem IsE.le {n m : Nat} {e : V} (h : IsE n e) (hm : n ≤ m) : IsE m e := by
  obtain ⟨k, y, a, b⟩ := h
  exact ⟨k, y, a, b.le hm⟩
/-- What stands at the values themselves. -/
def cmpLab (x y : Lab) : Ordering := thenC (cmpI x.1 y.1) (thenC (cmpI x.2.1 y.2.1) (thenC (cmpI (fkey x.2.2.1) (fkey y.2.2.1)) (cmpB x.2.2.2 y.2.2.2)))
theorem cmpLab_ord : IsOrd (fun x : Lab => x.2.2.1 < 18446744073709551616) cmpLab :=
  (cmpI_ord.pair (cmpI_ord.pair (fkey_ord.pair cmpB_ord))).mono (fun x h => ⟨trivial, trivial, h, trivial⟩)
/-- Entries, their values by c. -/
def cmpE (c : V → V → Ordering) (e f : V) : Ordering := thenC (cmpB (opnE e).1 (opnE f).1) (c (opnE e).2 (opnE f).2)
/-- Values. -/
def cmpV : Nat → V → V → Ordering
  | 0, _, _ => .eq
  | n + 1, a, b => thenC (cmpLab (opn a).1 (opn b).1) (thenC (cmpL (cmpV n) (opn a).2.1 (opn b).2.1) (cmpL (cmpE (cmpV n)) (opn a).2.2 (opn b).2.2))
theorem cmpE_ord {n : Nat} {c : V → V → Ordering} (h : IsOrd (IsV n) c) : IsOrd (IsE n) (cmpE c) := by
  refine (cmpB_ord.pair h).key opnE (fun e he => ?_) (fun e f he hf hx => ?_)
  · obtain ⟨k, y, rfl, b⟩ := he
    exact ⟨trivial, b⟩
  · obtain ⟨k, y, rfl, b⟩ := he
    obtain ⟨m, z, rfl, b'⟩ := hf
    rw [opnE_ent, opnE_ent] at hx
    injection hx with h1 h2
    rw [h1, h2]
theorem cmpV_ord : ∀ n : Nat, IsOrd (IsV n) (cmpV n)
  | 0 => ⟨fun _ _ h => h.elim, fun _ _ h => h.elim, fun _ _ _ h => h.elim⟩
  | n + 1 => by
    have ih := cmpV_ord n
    refine (cmpLab_ord.pair (ih.list.pair (cmpE_ord ih).list)).key opn (fun v hv => ?_) (fun v u hv hu hx => ?_)
    · obtain ⟨x, L, E, rfl, a, b, c⟩ := hv
      exact ⟨a, b, c⟩
    · obtain ⟨x, L, E, rfl, a, b, c⟩ := hv
      obtain ⟨x', L', E', rfl, a', b', c'⟩ := hu
      rw [opn_mk, opn_mk] at hx
      injection hx with h1 h2
      injection h2 with h3 h4
      rw [h1, h3, h4]
theorem cmpL_congr {α : Type} {c d : α → α → Ordering} : ∀ {l m : List α}, (∀ x ∈ l, ∀ y ∈ m, c x y = d x y) → cmpL c l m = cmpL d l m
  | [], [], _ => rfl
  | [], _ :: _, _ => rfl
  | _ :: _, [], _ => rfl
  | x :: r, y :: t, h => by
    show thenC _ _ = thenC _ _
    rw [h x (by simp) y (by simp), cmpL_congr (fun a ha b hb => h a (by simp [ha]) b (by simp [hb]))]
theorem cmpV_more : ∀ {n : Nat} {a b : V}, IsV n a → IsV n b → cmpV (n + 1) a b = cmpV n a b
  | 0, _, _, h, _ => h.elim
  | n + 1, a, b, ha, hb => by
    obtain ⟨x, L, E, rfl, a1, b1, c1⟩ := ha
    obtain ⟨y, M, F, rfl, a2, b2, c2⟩ := hb
    show thenC _ (thenC (cmpL (cmpV (n + 1)) L M) (cmpL (cmpE (cmpV (n + 1))) E F)) = thenC _ (thenC (cmpL (cmpV n) L M) (cmpL (cmpE (cmpV n)) E F))
    rw [cmpL_congr (fun u hu v hv => cmpV_more (b1 u hu) (b2 v hv)), cmpL_congr (c := cmpE (cmpV (n + 1))) (d := cmpE (cmpV n)) (fun u hu v hv => by
      obtain ⟨k, p, rfl, hp⟩ := c1 u hu
      obtain ⟨m, q, rfl, hq⟩ := c2 v hv
      show thenC _ (cmpV (n + 1) p q) = thenC _ (cmpV n p q)
      rw [cmpV_more hp hq])]
theorem cmpV_le {n m : Nat} {a b : V} (ha : IsV n a) (hb : IsV n b) (hm : n ≤ m) : cmpV m a b = cmpV n a b := by
  obtain ⟨d, rfl⟩ := Nat.le.dest hm
  induction d with
  | zero => rfl
  | succ d ih => exact (cmpV_more (n := n + d) (ha.le (by omega)) (hb.le (by omega))).trans (ih (by omega))
end Go.Proofs.YteehffjainffcaaDoor.valus
