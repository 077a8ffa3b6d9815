/- Of our texts, what this claim reaches. -/
import Derived.Test.YtnbfnjhbmeocfabGreatDoorPssBL
import Derived.Test.YtnbfnjhbmeocfabGreatDoorPssAI
import Derived.Shelf.SlSortCmp.WholeK
import Derived.Test.YtnbfnjhbmeocfabGreatDoorProg
import Derived.Test.YtnbfnjhbmeocfabGreatDoorPssAA
import Derived.Test.YtnbfnjhbmeocfabGreatDoorPssAF
import Derived.Shelf.SlSortCmp.NoneTotal
set_option linter.unusedVariables false
namespace Go.Proofs.YtnbfnjhbmeocfabGreatDoor.valus
open Go.RowKit Go.Shelf
open trees (nd)
def AscE (E : List V) : Prop := E.Pairwise (fun a b => cmpB (opnE a).1 (opnE b).1 = .lt)
def TabTo (kr : List (List UInt8) → Nat → List UInt8 ⊕ (Int × Int) → Prop) (Rl : trees.T → V ⊕ (Int × Int) → Prop) : List trees.T → List V → V ⊕ (Int × Int) → Prop
 | [], acc, x => ∃ E, E.Perm acc ∧ AscE E ∧ x = .inl (mkV (6, 0, 0, []) [] E)
 | t :: r, acc, x => ∃ ek ea ee kk ka ke v, t = nd ek ea ee [nd kk ka ke [], v] ∧
   ((∃ key, kr (acc.map (fun e => (opnE e).1)) ka (.inl key) ∧ ((∃ y, Rl v (.inl y) ∧ TabTo kr Rl r (acc ++ [ent key y]) x) ∨ ∃ pq, Rl v (.inr pq) ∧ x = .inr pq)) ∨ ∃ pq, kr (acc.map (fun e => (opnE e).1)) ka (.inr pq) ∧ x = .inr pq)
end Go.Proofs.YtnbfnjhbmeocfabGreatDoor.valus
namespace Go.Proofs.YtnbfnjhbmeocfabGreatDoor.valus
open trees (nd Sym pv entP KSeg)
def MeanR (kr : List (List UInt8) → Nat → List UInt8 ⊕ (Int × Int) → Prop) (lf : Nat → V ⊕ (Int × Int) → Prop) : Nat → trees.T → V ⊕ (Int × Int) → Prop
 | 0, _, _ => False
 | f + 1, t, x => ∃ k a e l, t = nd k a e l ∧ ((k = 3 ∧ TabTo kr (MeanR kr lf f) l [] x) ∨ (k = 5 ∧ ListTo (MeanR kr lf f) l [] x) ∨ (k ≠ 3 ∧ k ≠ 5 ∧ lf a x))
end Go.Proofs.YtnbfnjhbmeocfabGreatDoor.valus
namespace Go.Proofs.YtnbfnjhbmeocfabGreatDoor.valus
open trees (nd Sym pv entP KSeg)
abbrev KR := List (List UInt8) → Nat → List UInt8 ⊕ (Int × Int) → Prop
abbrev LR := Nat → V ⊕ (Int × Int) → Prop
def keysE (E : List V) : List (List UInt8) := E.map (fun e => (opnE e).1)
def Each (R : trees.T → V ⊕ (Int × Int) → Prop) : List trees.T → List V → Prop
 | [], [] => True
 | t :: l, v :: vs => R t (.inl v) ∧ Each R l vs
 | _, _ => False
theorem listTo_each {R : trees.T → V ⊕ (Int × Int) → Prop} : ∀ (l : List trees.T) (acc : List V) (v : V), ListTo R l acc (.inl v) ↔ ∃ vs, Each R l vs ∧ v = mkV (5, 0, 0, []) (acc ++ vs) []
 | [], acc, v => by
  constructor
  ·intro h
   injection h with h
   exact ⟨[], trivial, by rw [h, List.append_nil]⟩
  ·rintro ⟨vs, h1, h2⟩
   cases vs with
   | nil => rw [h2, List.append_nil]; rfl
   | cons a b => exact h1.elim
 | t :: l, acc, v => by
  constructor
  ·intro h
   rcases h with ⟨y, h1, h2⟩ | ⟨pq, _, h2⟩
   ·obtain ⟨vs, h3, h4⟩ := (listTo_each l _ v).1 h2
    exact ⟨y :: vs, ⟨h1, h3⟩, by rw [h4, List.append_assoc]; rfl⟩
   ·cases h2
  ·rintro ⟨vs, h1, h2⟩
   cases vs with
   | nil => exact h1.elim
   | cons y vs => exact .inl ⟨y, h1.1, (listTo_each l _ v).2 ⟨vs, h1.2, by rw [h2, List.append_assoc]; rfl⟩⟩
def EachE (kr : KR) (R : trees.T → V ⊕ (Int × Int) → Prop) : List (List UInt8) → List trees.T → List V → Prop
 | _, [], [] => True
 | keys, t :: l, e :: es => ∃ ek ea ee kk ka ke v key y, t = nd ek ea ee [nd kk ka ke [], v] ∧ kr keys ka (.inl key) ∧ R v (.inl y) ∧ e = ent key y ∧ EachE kr R (keys ++ [key]) l es
 | _, _, _ => False
theorem keysE_snoc (acc : List V) (key : List UInt8) (y : V) : keysE (acc ++ [ent key y]) = keysE acc ++ [key] := by
 unfold keysE
 rw [List.map_append]
 rfl
theorem tabTo_each {kr : KR} {R : trees.T → V ⊕ (Int × Int) → Prop} : ∀ (l : List trees.T) (acc : List V) (v : V), TabTo kr R l acc (.inl v) ↔ ∃ es, EachE kr R (keysE acc) l es ∧ ∃ E, E.Perm (acc ++ es) ∧ AscE E ∧ v = mkV (6, 0, 0, []) [] E
 | [], acc, v => by
  constructor
  ·rintro ⟨E, h1, h2, h3⟩
   injection h3 with h3
   exact ⟨[], trivial, E, by rw [List.append_nil]; exact h1, h2, h3⟩
  ·rintro ⟨es, h1, E, h2, h3, h4⟩
   cases es with
   | nil => exact ⟨E, by rw [List.append_nil] at h2; exact h2, h3, by rw [h4]⟩
   | cons a b => exact h1.elim
 | t :: l, acc, v => by
  constructor
  ·rintro ⟨ek, ea, ee, kk, ka, ke, y, h0, h⟩
   rcases h with ⟨key, h1, h2⟩ | ⟨pq, _, h2⟩
   ·rcases h2 with ⟨z, h3, h4⟩ | ⟨pq, _, h4⟩
    ·obtain ⟨es, h5, E, h6, h7, h8⟩ := (tabTo_each l _ v).1 h4
     rw [keysE_snoc] at h5
     exact ⟨ent key z :: es, ⟨ek, ea, ee, kk, ka, ke, y, key, z, h0, h1, h3, rfl, h5⟩, E, by rw [List.append_assoc] at h6; exact h6, h7, h8⟩
    ·cases h4
   ·cases h2
  ·rintro ⟨es, h1, E, h6, h7, h8⟩
   cases es with
   | nil => exact h1.elim
   | cons e es =>
    obtain ⟨ek, ea, ee, kk, ka, ke, y, key, z, h0, h1, h3, rfl, h5⟩ := h1
    refine ⟨ek, ea, ee, kk, ka, ke, y, h0, .inl ⟨key, h1, .inl ⟨z, h3, (tabTo_each l _ v).2 ⟨es, ?_, E, ?_, h7, h8⟩⟩⟩⟩
    ·rw [keysE_snoc]
     exact h5
    ·rw [List.append_assoc]
     exact h6
end Go.Proofs.YtnbfnjhbmeocfabGreatDoor.valus
namespace Go.Proofs.YtnbfnjhbmeocfabGreatDoor.valus
open trees (nd)
def Fun1 {α β : Type} (R : α → β → Prop) : Prop := ∀ a x y, R a x → R a y → x = y
theorem listTo_unique {R : trees.T → V ⊕ (Int × Int) → Prop} (hR : Fun1 R) : ∀ (l : List trees.T) (acc : List V) (x y : V ⊕ (Int × Int)), ListTo R l acc x → ListTo R l acc y → x = y
 | [], _, _, _, h, k => by rw [h, k]
 | t :: l, acc, x, y, h, k => by
  rcases h with ⟨v, h1, h2⟩ | ⟨pq, h1, h2⟩ <;> rcases k with ⟨u, k1, k2⟩ | ⟨rs, k1, k2⟩
  ·have e := hR _ _ _ h1 k1
   injection e with e
   subst e
   exact listTo_unique hR l _ _ _ h2 k2
  ·have e := hR _ _ _ h1 k1
   cases e
  ·have e := hR _ _ _ h1 k1
   cases e
  ·have e := hR _ _ _ h1 k1
   rw [h2, k2, e]
theorem asc_unique {E F acc : List V} (h : E.Perm acc) (h2 : AscE E) (k : F.Perm acc) (k2 : AscE F) : E = F :=
 List.Perm.eq_of_pairwise (fun a b _ _ h1 h2 => absurd h2 (cmpB_asym h1)) h2 k2 (h.trans k.symm)
theorem tabTo_unique {kr : KR} {R : trees.T → V ⊕ (Int × Int) → Prop} (hk : ∀ keys, Fun1 (kr keys)) (hR : Fun1 R) : ∀ (l : List trees.T) (acc : List V) (x y : V ⊕ (Int × Int)), TabTo kr R l acc x → TabTo kr R l acc y → x = y
 | [], _, _, _, ⟨E, h1, h2, h3⟩, ⟨F, k1, k2, k3⟩ => by rw [h3, k3, asc_unique h1 h2 k1 k2]
 | t :: l, acc, x, y, h, k => by
  obtain ⟨ek, ea, ee, kk, ka, ke, v, e, h⟩ := h
  obtain ⟨ek', ea', ee', kk', ka', ke', v', e', k⟩ := k
  rw [e] at e'
  obtain ⟨_, _, _, e2⟩ := trees.nd_inj e'
  injection e2 with e3 e4
  injection e4 with e4 _
  obtain ⟨_, rfl, _, _⟩ := trees.nd_inj e3
  subst e4
  rcases h with ⟨key, h1, h2⟩ | ⟨pq, h1, h2⟩ <;> rcases k with ⟨key', k1, k2⟩ | ⟨rs, k1, k2⟩
  ·have q := hk _ _ _ _ h1 k1
   injection q with q
   subst q
   rcases h2 with ⟨z, h3, h4⟩ | ⟨pq, h3, h4⟩ <;> rcases k2 with ⟨z', k3, k4⟩ | ⟨rs, k3, k4⟩
   ·have q := hR _ _ _ h3 k3
    injection q with q
    subst q
    exact tabTo_unique hk hR l _ _ _ h4 k4
   ·have q := hR _ _ _ h3 k3
    cases q
   ·have q := hR _ _ _ h3 k3
    cases q
   ·rw [h4, k4, hR _ _ _ h3 k3]
  ·have q := hk _ _ _ _ h1 k1
   cases q
  ·have q := hk _ _ _ _ h1 k1
   cases q
  ·have q := hk _ _ _ _ h1 k1
   injection q with q
   rw [h2, k2, q]
theorem meanR_unique {kr : KR} {lf : LR} (hk : ∀ keys, Fun1 (kr keys)) (hl : Fun1 lf) : ∀ (f : Nat), Fun1 (MeanR kr lf f)
 | 0 => fun _ _ _ h => h.elim
 | f + 1 => fun t x y h k => by
  have ih := meanR_unique hk hl f
  obtain ⟨k1, a, e, l, rfl, h⟩ := h
  obtain ⟨k2, a', e', l', e2, k⟩ := k
  obtain ⟨rfl, rfl, rfl, rfl⟩ := trees.nd_inj e2
  rcases h with ⟨h1, h2⟩ | ⟨h1, h2⟩ | ⟨h1, h2, h3⟩ <;> rcases k with ⟨k1, k2⟩ | ⟨k1, k2⟩ | ⟨k1, k2, k3⟩
  ·exact tabTo_unique hk ih _ _ _ _ h2 k2
  ·omega
  ·exact absurd h1 k1
  ·omega
  ·exact listTo_unique ih _ _ _ _ h2 k2
  ·exact absurd h1 k2
  ·exact absurd k1 h1
  ·exact absurd k1 h2
  ·exact hl _ _ _ h3 k3
theorem wordTo_unique {l : List UInt8} {x y : Lab} {e f : Int} (h : WordTo l x e) (k : WordTo l y f) : x = y ∧ e = f := by
 rcases h with ⟨h1, h2, h3⟩ | ⟨h1, h2, h3⟩ | ⟨h1, h2, h3⟩ | ⟨⟨n1, n2, n3⟩, h⟩ <;> rcases k with ⟨k1, k2, k3⟩ | ⟨k1, k2, k3⟩ | ⟨k1, k2, k3⟩ | ⟨⟨m1, m2, m3⟩, k⟩
 ·exact ⟨by rw [h2, k2], by rw [h3, k3]⟩
 ·rw [h1] at k1; cases k1
 ·rw [h1] at k1; cases k1
 ·exact absurd h1 m1
 ·rw [h1] at k1; cases k1
 ·exact ⟨by rw [h2, k2], by rw [h3, k3]⟩
 ·rw [h1] at k1; cases k1
 ·exact absurd h1 m2
 ·rw [h1] at k1; cases k1
 ·rw [h1] at k1; cases k1
 ·exact ⟨by rw [h2, k2], by rw [h3, k3]⟩
 ·exact absurd h1 m3
 ·exact absurd k1 n1
 ·exact absurd k1 n2
 ·exact absurd k1 n3
 ·rcases h with ⟨h1, h2, h3⟩ | ⟨h1, v, h2, h3⟩ <;> rcases k with ⟨k1, k2, k3⟩ | ⟨k1, u, k2, k3⟩
  ·subst h2 k2
   exact ⟨by rw [h3, k3], rfl⟩
  ·exact absurd k1 h1
  ·exact absurd h1 k1
  ·obtain ⟨q1, q2⟩ := bigs.reads_unique h2 k2
   subst q1 q2
   exact ⟨by rw [h3, k3], rfl⟩
theorem leafTo_unique {src : List UInt8} {k : Nat} {x y : Lab} {e f : Int} (h : LeafTo src k x e) (g : LeafTo src k y f) : x = y ∧ e = f := by
 unfold LeafTo at h g
 by_cases hk : k = 4
 ·rw [if_pos hk] at h g
  exact wordTo_unique h g
 ·rw [if_neg hk] at h g
  obtain ⟨h1, h2⟩ := h
  obtain ⟨g1, g2⟩ := g
  subst h1 g1
  exact ⟨by rw [h2, g2], rfl⟩
theorem keyTo_unique {src : List UInt8} {k : Nat} {x y : List UInt8} {e f : Int} (h : KeyTo src k x e) (g : KeyTo src k y f) : x = y ∧ e = f := by
 unfold KeyTo at h g
 by_cases hk : k = 4
 ·rw [if_pos hk] at h g
  by_cases hb : escs.bareL src = true
  ·rw [if_pos hb] at h g
   exact ⟨by rw [h.1, g.1], by rw [h.2, g.2]⟩
  ·rw [if_neg hb] at h g
   exact ⟨by rw [h.1, g.1], by rw [h.2, g.2]⟩
 ·rw [if_neg hk] at h g
  exact ⟨by rw [h.1, g.1], by rw [h.2, g.2]⟩
abbrev Tok2 := Nat × List UInt8
def LeafG (ct : Nat → Tok2) (pl : Nat → Int) (j : Nat) (x : V ⊕ (Int × Int)) : Prop :=
 ∃ (lab : Lab) (er : Int), LeafTo (ct j).2 (ct j).1 lab er ∧ ((er = 0 ∧ x = .inl (mkV lab [] [])) ∨ (er ≠ 0 ∧ x = .inr (pl j, er)))
def KeyG (ct : Nat → Tok2) (pl : Nat → Int) (keys : List (List UInt8)) (j : Nat) (x : List UInt8 ⊕ (Int × Int)) : Prop :=
 ∃ (key : List UInt8) (ke : Int), KeyTo (ct j).2 (ct j).1 key ke ∧ ((ke = 0 ∧ key ∉ keys ∧ x = .inl key) ∨ (ke = 0 ∧ key ∈ keys ∧ x = .inr (pl j, 6)) ∨ (ke ≠ 0 ∧ x = .inr (pl j, ke)))
theorem leafG_fun (ct : Nat → Tok2) (pl : Nat → Int) : Fun1 (LeafG ct pl) := fun j x y h k => by
 obtain ⟨lab, er, h1, h2⟩ := h
 obtain ⟨lab', er', k1, k2⟩ := k
 obtain ⟨rfl, rfl⟩ := leafTo_unique h1 k1
 rcases h2 with ⟨a, b⟩ | ⟨a, b⟩ <;> rcases k2 with ⟨c, d⟩ | ⟨c, d⟩
 ·rw [b, d]
 ·exact absurd a c
 ·exact absurd c a
 ·rw [b, d]
theorem keyG_fun (ct : Nat → Tok2) (pl : Nat → Int) (keys : List (List UInt8)) : Fun1 (KeyG ct pl keys) := fun j x y h k => by
 obtain ⟨key, ke, h1, h2⟩ := h
 obtain ⟨key', ke', k1, k2⟩ := k
 obtain ⟨rfl, rfl⟩ := keyTo_unique h1 k1
 rcases h2 with ⟨a, b, c⟩ | ⟨a, b, c⟩ | ⟨a, c⟩ <;> rcases k2 with ⟨a', b', c'⟩ | ⟨a', b', c'⟩ | ⟨a', c'⟩
 ·rw [c, c']
 ·exact absurd b' b
 ·exact absurd a a'
 ·exact absurd b b'
 ·rw [c, c']
 ·exact absurd a a'
 ·exact absurd a' a
 ·exact absurd a' a
 ·rw [c, c']
end Go.Proofs.YtnbfnjhbmeocfabGreatDoor.valus
namespace Go.Proofs.YtnbfnjhbmeocfabGreatDoor.valus
open trees (nd Sym pv entP KSeg)
def SegL (G : List Tok2 → V → Prop) : List V → List Tok2 → Prop
 | [], B => B = [(6, [93])]
 | v :: vs, B => ∃ seg c rest, seg ≠ [] ∧ G seg v ∧ B = seg ++ c :: rest ∧ ((c = (6, [44]) ∧ SegL G vs rest) ∨ (c = (6, [93]) ∧ vs = [] ∧ rest = []))
def SegE (G : List Tok2 → V → Prop) : List (List UInt8) → List V → List Tok2 → Prop
 | _, [], B => B = [(6, [125])]
 | keys, e :: es, B => ∃ kt m sv c rest key y, (kt.1 = 4 ∨ kt.1 = 5) ∧ KeyTo kt.2 kt.1 key 0 ∧ key ∉ keys ∧ (m = (6, [58]) ∨ m = (6, [61])) ∧ G sv y ∧ e = ent key y ∧ B = kt :: m :: (sv ++ c :: rest) ∧ ((c = (6, [44]) ∧ SegE G (keys ++ [key]) es rest) ∨ (c = (6, [125]) ∧ es = [] ∧ rest = []))
def Gr : Nat → List Tok2 → V → Prop
 | 0, _, _ => False
 | lv + 1, S, v => (∃ k src lab, S = [(k, src)] ∧ (k = 4 ∨ k = 5) ∧ LeafTo src k lab 0 ∧ v = mkV lab [] []) ∨
   (∃ B vs, S = (6, [91]) :: B ∧ SegL (Gr lv) vs B ∧ v = mkV (5, 0, 0, []) vs []) ∨
   (∃ B es E, S = (6, [123]) :: B ∧ SegE (Gr lv) [] es B ∧ E.Perm es ∧ AscE E ∧ v = mkV (6, 0, 0, []) [] E)
structure Fits (ct : Nat → Tok2) (x : Sym) : Prop where
 one : x.1 = 120 ↔ ((ct x.2).1 = 4 ∨ (ct x.2).1 = 5)
 mark : ∀ m : UInt8, m ≠ 120 → m ≠ 63 → (x.1 = m ↔ ct x.2 = (6, [m]))
def cont (ct : Nat → Tok2) (ts : List Sym) : List Tok2 := ts.map (fun x => ct x.2)
section
variable {ct : Nat → Tok2} {pl : Nat → Int}
theorem pv_head {lv : Nat} {ts : List Sym} {t : trees.T} (h : pv lv ts = .inr (t, [])) : ∃ x r, ts = x :: r ∧ (x.1 = 120 ∨ x.1 = 123 ∨ x.1 = 91) := by
 obtain ⟨lv', _, hfm⟩ := trees.pv_form h
 rcases hfm with ⟨x, rfl, hx, _⟩ | ⟨x, ts, _, _, rfl, hx, _⟩ | ⟨x, ts, _, _, rfl, hx, _⟩
 ·exact ⟨x, [], rfl, .inl hx⟩
 ·exact ⟨x, ts, rfl, .inr (.inl hx)⟩
 ·exact ⟨x, ts, rfl, .inr (.inr hx)⟩
theorem loc_all {q : List Sym → trees.R} (hq : trees.Loc q) {seg : List Sym} {t : trees.T} (h : q seg = .inr (t, [])) (r : List Sym) : q (seg ++ r) = .inr (t, r) := by
 obtain ⟨p, _, e, h2⟩ := hq.good _ _ _ h
 rw [List.append_nil] at e
 rw [e]
 exact h2 r
theorem gr_segL {lv : Nat} (ih : ∀ (ts : List Sym) (v : V), (∀ x ∈ ts, Fits ct x) → Gr lv (cont ct ts) v → ∃ t, pv lv ts = .inr (t, []) ∧ MeanR (KeyG ct pl) (LeafG ct pl) lv t (.inl v)) : ∀ (vs : List V) (ts : List Sym), (∀ x ∈ ts, Fits ct x) → SegL (Gr lv) vs (cont ct ts) → ∃ l e, trees.Kids (pv lv) 93 l ts e [] ∧ Each (MeanR (KeyG ct pl) (LeafG ct pl) lv) l vs
 | [], ts, hf, h => by
  obtain ⟨y, r, rfl, h1, h2⟩ := List.map_eq_cons_iff.1 h
  rw [List.map_eq_nil_iff] at h2
  subst h2
  exact ⟨[], y.2 + 1, ⟨y, ((hf y (by simp)).mark 93 (by decide) (by decide)).2 h1, rfl, rfl⟩, trivial⟩
 | v :: vs, ts, hf, h => by
  obtain ⟨seg, c, rest, h1, h2, h3, h4⟩ := h
  obtain ⟨ts1, ts2, rfl, e1, e2⟩ := List.map_eq_append_iff.1 h3
  obtain ⟨y, ts3, rfl, e3, e4⟩ := List.map_eq_cons_iff.1 e2
  subst e1
  have hy := hf y (by simp)
  obtain ⟨t, p1, p2⟩ := ih ts1 v (fun x hx => hf x (by simp [hx])) h2
  obtain ⟨x, r, hxr, hx⟩ := pv_head p1
  have hq := loc_all (trees.pv_loc lv) p1 (y :: ts3)
  rcases h4 with ⟨rfl, h5⟩ | ⟨rfl, rfl, h5⟩
  ·subst e4
   obtain ⟨l, e, q1, q2⟩ := gr_segL ih vs ts3 (fun x hx => hf x (by simp [hx])) h5
   refine ⟨t :: l, e, ⟨x, r ++ y :: ts3, y, ts3, by rw [hxr]; rfl, ?_, hq, .inl ⟨(hy.mark 44 (by decide) (by decide)).2 e3, q1⟩⟩, p2, q2⟩
   rcases hx with hx | hx | hx <;> rw [hx] <;> decide
  ·subst h5
   rw [List.map_eq_nil_iff] at e4
   subst e4
   have hy3 := (hy.mark 93 (by decide) (by decide)).2 e3
   refine ⟨[t], y.2 + 1, ⟨x, r ++ [y], y, [], by rw [hxr]; rfl, ?_, hq, .inr ⟨by rw [hy3]; decide, hy3, rfl, rfl, rfl⟩⟩, p2, trivial⟩
   rcases hx with hx | hx | hx <;> rw [hx] <;> decide
theorem gr_segE {lv : Nat} (ih : ∀ (ts : List Sym) (v : V), (∀ x ∈ ts, Fits ct x) → Gr lv (cont ct ts) v → ∃ t, pv lv ts = .inr (t, []) ∧ MeanR (KeyG ct pl) (LeafG ct pl) lv t (.inl v)) : ∀ (es : List V) (keys : List (List UInt8)) (ts : List Sym), (∀ x ∈ ts, Fits ct x) → SegE (Gr lv) keys es (cont ct ts) → ∃ l e, trees.Kids (entP (pv lv)) 125 l ts e [] ∧ EachE (KeyG ct pl) (MeanR (KeyG ct pl) (LeafG ct pl) lv) keys l es
 | [], keys, ts, hf, h => by
  obtain ⟨y, r, rfl, h1, h2⟩ := List.map_eq_cons_iff.1 h
  rw [List.map_eq_nil_iff] at h2
  subst h2
  exact ⟨[], y.2 + 1, ⟨y, ((hf y (by simp)).mark 125 (by decide) (by decide)).2 h1, rfl, rfl⟩, trivial⟩
 | e :: es, keys, ts, hf, h => by
  obtain ⟨kt, m, sv, c, rest, key, z, h1, h2, h3, h4, h5, rfl, h7, h8⟩ := h
  obtain ⟨x, r1, rfl, a1, a2⟩ := List.map_eq_cons_iff.1 h7
  obtain ⟨mm, r2, rfl, a3, a4⟩ := List.map_eq_cons_iff.1 a2
  obtain ⟨ts1, ts2, rfl, e1, e2⟩ := List.map_eq_append_iff.1 a4
  obtain ⟨y, ts3, rfl, e3, e4⟩ := List.map_eq_cons_iff.1 e2
  subst e1
  have hy := hf y (by simp)
  obtain ⟨t, p1, p2⟩ := ih ts1 z (fun x hx => hf x (by simp [hx])) h5
  have hx : x.1 = 120 := (hf x (by simp)).one.2 (by rw [a1]; exact h1)
  have hm : mm.1 = 58 ∨ mm.1 = 61 := by
   rcases h4 with h4 | h4
   ·exact .inl (((hf mm (by simp)).mark 58 (by decide) (by decide)).2 (a3.trans h4))
   ·exact .inr (((hf mm (by simp)).mark 61 (by decide) (by decide)).2 (a3.trans h4))
  have hq : entP (pv lv) (x :: mm :: (ts1 ++ y :: ts3)) = .inr (nd 4 x.2 (trees.endT t) [nd 2 x.2 (x.2 + 1) [], t], y :: ts3) := by
   rw [trees.ent_two, if_pos hx, if_pos hm, loc_all (trees.pv_loc lv) p1 (y :: ts3)]
  have hkg : KeyG ct pl keys x.2 (.inl key) := ⟨key, 0, by rw [a1]; exact h2, .inl ⟨rfl, h3, rfl⟩⟩
  rcases h8 with ⟨rfl, h9⟩ | ⟨rfl, rfl, h9⟩
  ·subst e4
   obtain ⟨l, e, q1, q2⟩ := gr_segE ih es _ ts3 (fun x hx => hf x (by simp [hx])) h9
   exact ⟨_ :: l, e, ⟨x, _, y, ts3, rfl, by rw [hx]; decide, hq, .inl ⟨(hy.mark 44 (by decide) (by decide)).2 e3, q1⟩⟩, _, _, _, _, _, _, t, key, z, rfl, hkg, p2, rfl, q2⟩
  ·subst h9
   rw [List.map_eq_nil_iff] at e4
   subst e4
   have hy3 := (hy.mark 125 (by decide) (by decide)).2 e3
   exact ⟨[_], y.2 + 1, ⟨x, _, y, [], rfl, by rw [hx]; decide, hq, .inr ⟨by rw [hy3]; decide, hy3, rfl, rfl, rfl⟩⟩, _, _, _, _, _, _, t, key, z, rfl, hkg, p2, rfl, trivial⟩
theorem kids_lt {q : List Sym → trees.R} {ec : UInt8} (hq : trees.Loc q) {l : List trees.T} {ts : List Sym} {e : Nat} {r : List Sym} (h : trees.Kids q ec l ts e r) : l.length < ts.length + 1 := by
 obtain ⟨p, _, e1, h2, _⟩ := trees.kids_loc hq l ts e r h
 rw [e1, List.length_append]
 omega
theorem gr_num : ∀ (lv : Nat) (ts : List Sym) (v : V), (∀ x ∈ ts, Fits ct x) → Gr lv (cont ct ts) v → ∃ t, pv lv ts = .inr (t, []) ∧ MeanR (KeyG ct pl) (LeafG ct pl) lv t (.inl v)
 | 0, _, _, _, h => h.elim
 | lv + 1, ts, v, hf, h => by
  have ih := gr_num lv
  rcases h with ⟨k, src, lab, h1, h2, h3, rfl⟩ | ⟨B, vs, h1, h2, rfl⟩ | ⟨B, es, E, h1, h2, h3, h4, rfl⟩
  ·obtain ⟨x, r, rfl, a1, a2⟩ := List.map_eq_cons_iff.1 h1
   rw [List.map_eq_nil_iff] at a2
   subst a2
   have hx : x.1 = 120 := (hf x (by simp)).one.2 (by rw [a1]; exact h2)
   refine ⟨nd 1 x.2 (x.2 + 1) [], by rw [pv, if_pos hx], 1, x.2, x.2 + 1, [], rfl, .inr (.inr ⟨by decide, by decide, lab, 0, ?_, .inl ⟨rfl, rfl⟩⟩)⟩
   rw [a1]
   exact h3
  ·obtain ⟨x, r, rfl, a1, rfl⟩ := List.map_eq_cons_iff.1 h1
   obtain ⟨l, e, q1, q2⟩ := gr_segL ih vs r (fun y hy => hf y (by simp [hy])) h2
   have hx := ((hf x (by simp)).mark 91 (by decide) (by decide)).2 a1
   refine ⟨nd 5 x.2 e l, ?_, 5, x.2, e, l, rfl, .inr (.inl ⟨rfl, (listTo_each _ _ _).2 ⟨vs, q2, by rw [List.nil_append]⟩⟩)⟩
   rw [pv, if_neg (by rw [hx]; decide), if_neg (by rw [hx]; decide), if_pos hx]
   exact trees.kids_loop 5 x.2 (by decide) l _ [] r e [] q1 (kids_lt (trees.pv_loc lv) q1)
  ·obtain ⟨x, r, rfl, a1, rfl⟩ := List.map_eq_cons_iff.1 h1
   obtain ⟨l, e, q1, q2⟩ := gr_segE ih es [] r (fun y hy => hf y (by simp [hy])) h2
   have hx := ((hf x (by simp)).mark 123 (by decide) (by decide)).2 a1
   refine ⟨nd 3 x.2 e l, ?_, 3, x.2, e, l, rfl, .inl ⟨rfl, (tabTo_each _ _ _).2 ⟨es, q2, E, by rw [List.nil_append]; exact h3, h4, rfl⟩⟩⟩
   rw [pv, if_neg (by rw [hx]; decide), if_pos hx]
   exact trees.kids_loop 3 x.2 (by decide) l _ [] r e [] q1 (kids_lt (trees.ent_loc (trees.pv_loc lv)) q1)
end
end Go.Proofs.YtnbfnjhbmeocfabGreatDoor.valus
