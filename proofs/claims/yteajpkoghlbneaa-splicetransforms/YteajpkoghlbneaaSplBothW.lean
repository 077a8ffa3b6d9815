/- Two readers, a writer, and what else stands, in one state. -/
import Derived.Test.YteajpkoghlbneaaSplCmpBW
set_option linter.unusedVariables false
namespace Go.Proofs.Yteajpkoghlbneaa.spls
open Go.RowKit

/-- What does not change: where the readers lie. -/
structure Geo (w : World) (n1 : Nat) (XA XB XO : Nat → Prop) : Prop where
  a : ∀ b, XA b → b < n1
  b : ∀ b, XB b → b < n1
  ab : ∀ b, XA b → ¬ XB b
  oa : ∀ b, XA b → b < w.heap.size → XO b
  ob : ∀ b, XB b → b < w.heap.size → XO b
  n : w.heap.size ≤ n1
abbrev Std (Z : (Nat → Prop) → World → Prop) : Prop := ∀ (X Y : Nat → Prop) (w w' : World), Z X w → Chg Y w w' → (∀ b, b < w.heap.size → X b → ¬ Y b) → Z X w'
def Bo (w : World) (n1 RA RB R : Nat) (XA XB XO : Nat → Prop) (Z : (Nat → Prop) → World → Prop) (Kp : List (Nat × Array Value)) (A B : List Pt) (S : WS) (wr : World) : Prop :=
  ∃ XW XZ : Nat → Prop, Rd XA RA A wr ∧ Rd XB RB B wr ∧ Wr XW R S wr ∧ Z XZ wr ∧ (∀ b, XW b → ¬ XA b ∧ ¬ XB b ∧ ¬ XZ b ∧ w.heap.size ≤ b ∧ b < wr.heap.size) ∧ (∀ b, XZ b → ¬ XA b ∧ ¬ XB b ∧ w.heap.size ≤ b ∧ b < wr.heap.size) ∧ Chg XO w wr ∧ n1 ≤ wr.heap.size ∧ ∀ k ∈ Kp, Blk wr k.1 k.2 46 ∧ n1 ≤ k.1 ∧ ¬ XW k.1 ∧ ¬ XZ k.1
section
variable {w : World} {n1 RA RB R : Nat} {XA XB XO : Nat → Prop} {Z : (Nat → Prop) → World → Prop} {Kp : List (Nat × Array Value)} {A B : List Pt} {S : WS} {wr : World}
theorem Bo.size (h : Bo w n1 RA RB R XA XB XO Z Kp A B S wr) : n1 ≤ wr.heap.size := by
  obtain ⟨XW, XZ, _, _, _, _, _, _, _, h, _⟩ := h
  exact h
theorem Bo.rdA (h : Bo w n1 RA RB R XA XB XO Z Kp A B S wr) : Rd XA RA A wr := by
  obtain ⟨XW, XZ, h, _⟩ := h
  exact h
theorem Bo.rdB (h : Bo w n1 RA RB R XA XB XO Z Kp A B S wr) : Rd XB RB B wr := by
  obtain ⟨XW, XZ, _, h, _⟩ := h
  exact h
theorem Bo.chg (h : Bo w n1 RA RB R XA XB XO Z Kp A B S wr) : Chg XO w wr := by
  obtain ⟨XW, XZ, _, _, _, _, _, _, h, _⟩ := h
  exact h
theorem Bo.kept (h : Bo w n1 RA RB R XA XB XO Z Kp A B S wr) {k : Nat × Array Value} (hk : k ∈ Kp) : Blk wr k.1 k.2 46 := by
  obtain ⟨XW, XZ, _, _, _, _, _, _, _, _, h⟩ := h
  exact (h k hk).1
theorem Bo.fewer (h : Bo w n1 RA RB R XA XB XO Z Kp A B S wr) {Kq : List (Nat × Array Value)} (hs : ∀ k ∈ Kq, k ∈ Kp) : Bo w n1 RA RB R XA XB XO Z Kq A B S wr := by
  obtain ⟨XW, XZ, h1, h2, h3, h4, h5, h6, h7, h8, h9⟩ := h
  exact ⟨XW, XZ, h1, h2, h3, h4, h5, h6, h7, h8, fun k hk => h9 k (hs k hk)⟩
/-- New blocks. -/
theorem Bo.below (G : Geo w n1 XA XB XO) (hZ : Std Z) (h : Bo w n1 RA RB R XA XB XO Z Kp A B S wr) {w' : World} (hb : Below wr.heap.size wr w') : Bo w n1 RA RB R XA XB XO Z Kp A B S w' := by
  obtain ⟨XW, XZ, h1, h2, h3, h4, h5, h6, h7, h8, h9⟩ := h
  have hc : Chg (fun _ => False) wr w' := Chg.of_below hb _
  have hs := hb.size
  refine ⟨XW, XZ, h1.chg hc (fun _ _ _ h => h), h2.chg hc (fun _ _ _ h => h), h3.chg hc (fun _ _ _ h => h), hZ _ _ _ _ h4 hc (fun _ _ _ h => h), fun b hb' => ?_, fun b hb' => ?_, h7.trans (hc.mono (fun _ _ h => h.elim)), by omega, fun k hk => ?_⟩
  · obtain ⟨a, b, c, d, e⟩ := h5 b hb'
    exact ⟨a, b, c, d, by omega⟩
  · obtain ⟨a, b, c, d⟩ := h6 b hb'
    exact ⟨a, b, c, by omega⟩
  · obtain ⟨a, b, c, d⟩ := h9 k hk
    exact ⟨a.chg hc (fun h => h), b, c, d⟩
/-- A box is laid. -/
theorem Bo.box (G : Geo w n1 XA XB XO) (hZ : Std Z) (h : Bo w n1 RA RB R XA XB XO Z Kp A B S wr) (cs : Array Value) : Bo w n1 RA RB R XA XB XO Z ((wr.heap.size, cs) :: Kp) A B S (wr.alloc (.cells cs 46)) := by
  obtain ⟨XW, XZ, h1, h2, h3, h4, h5, h6, h7, h8, h9⟩ := h
  have hc : Chg (fun _ => False) wr (wr.alloc (.cells cs 46)) := (Chg.refl _ wr).alloc _
  have hs : (wr.alloc (.cells cs 46)).heap.size = wr.heap.size + 1 := by simp
  refine ⟨XW, XZ, h1.chg hc (fun _ _ _ h => h), h2.chg hc (fun _ _ _ h => h), h3.chg hc (fun _ _ _ h => h), hZ _ _ _ _ h4 hc (fun _ _ _ h => h), fun b hb' => ?_, fun b hb' => ?_, h7.trans (hc.mono (fun _ _ h => h.elim)), by omega, fun k hk => ?_⟩
  · obtain ⟨a, b, c, d, e⟩ := h5 b hb'
    exact ⟨a, b, c, d, by omega⟩
  · obtain ⟨a, b, c, d⟩ := h6 b hb'
    exact ⟨a, b, c, by omega⟩
  · rcases List.mem_cons.1 hk with rfl | hk
    · exact ⟨blk_alloc wr cs 46, h8, fun e => by have := (h5 _ e).2.2.2.2; omega, fun e => by have := (h6 _ e).2.2.2; omega⟩
    · obtain ⟨a, b, c, d⟩ := h9 k hk
      exact ⟨a.chg hc (fun h => h), b, c, d⟩
/-- The writer writes. -/
theorem Bo.write (G : Geo w n1 XA XB XO) (hZ : Std Z) (h : Bo w n1 RA RB R XA XB XO Z Kp A B S wr) {F : Nat} {args : Array Value} {S' : WS} (hf : ∀ X, Wr X R S wr → Calls Try.prog F args wr fun e w' => e = .returned (.tuple #[]) ∧ WrTo X R S' wr w') :
    Calls Try.prog F args wr fun e w' => e = .returned (.tuple #[]) ∧ Bo w n1 RA RB R XA XB XO Z Kp A B S' w' := by
  obtain ⟨XW, XZ, h1, h2, h3, h4, h5, h6, h7, h8, h9⟩ := h
  have g1 := G.n
  refine (hf XW h3).mono ?_
  rintro e w' ⟨rfl, hw, hc⟩
  have hs := hc.size
  refine ⟨rfl, wid XW wr w', XZ, h1.chg hc (fun b _ hb e => (h5 b e).1 hb), h2.chg hc (fun b _ hb e => (h5 b e).2.1 hb), hw, hZ _ _ _ _ h4 hc (fun b _ hb e => (h5 b e).2.2.1 hb), fun b hb => ?_, fun b hb => ?_, h7.trans (hc.mono (fun b hb e => .inr ⟨(h5 b e).2.2.2.1, hb⟩)), by omega, fun k hk => ?_⟩
  · rcases hb with hb | hb
    · obtain ⟨a, b, c, d, e⟩ := h5 b hb
      exact ⟨a, b, c, d, by omega⟩
    · exact ⟨fun e => by have := G.a b e; omega, fun e => by have := G.b b e; omega, fun e => by have := (h6 b e).2.2.2; omega, by omega, hb.2⟩
  · obtain ⟨a, b, c, d⟩ := h6 b hb
    exact ⟨a, b, c, by omega⟩
  · obtain ⟨a, b, c, d⟩ := h9 k hk
    have hlt := a.lt
    exact ⟨a.chg hc c, b, fun e => e.elim c (fun e => by omega), d⟩
/-- The first reader takes. -/
theorem Bo.takeA {x : Pt} {n : Nat} (G : Geo w n1 XA XB XO) (hZ : Std Z) (h : Bo w n1 RA RB R XA XB XO Z Kp (x :: A) B S wr) (hx : okP x) (hn : n ≤ szP x) (hm : szP x ≤ 20000) (hl : A.length ≤ 1000000) :
    Calls Try.prog 23 #[.pointer (some ⟨RA, 0, none⟩), .int .i64 (n : Int)] wr fun e w' => e = .returned (.tuple #[]) ∧ Bo w n1 RA RB R XA XB XO Z Kp (tk n x A) B S w' := by
  obtain ⟨XW, XZ, h1, h2, h3, h4, h5, h6, h7, h8, h9⟩ := h
  have g1 := G.n
  refine (take_any XA RA x n A wr h1 hx hn hm hl).mono ?_
  rintro e w' ⟨rfl, hr, hc⟩
  have hs := hc.size
  refine ⟨rfl, XW, XZ, hr, h2.chg hc (fun b _ hb e => G.ab b e hb), h3.chg hc (fun b _ hb => (h5 b hb).1), hZ _ _ _ _ h4 hc (fun b _ hb => (h6 b hb).1), fun b hb => ?_, fun b hb => ?_, h7.trans (hc.mono (fun b hb e => (Nat.lt_or_ge b w.heap.size).elim (fun hlt => .inl (G.oa b e hlt)) (fun hge => .inr ⟨hge, hb⟩))), by omega, fun k hk => ?_⟩
  · obtain ⟨a, b, c, d, e⟩ := h5 b hb
    exact ⟨a, b, c, d, by omega⟩
  · obtain ⟨a, b, c, d⟩ := h6 b hb
    exact ⟨a, b, c, by omega⟩
  · obtain ⟨a, b, c, d⟩ := h9 k hk
    exact ⟨a.chg hc (fun e => by have := G.a _ e; omega), b, c, d⟩
/-- The second reader takes. -/
theorem Bo.takeB {x : Pt} {n : Nat} (G : Geo w n1 XA XB XO) (hZ : Std Z) (h : Bo w n1 RA RB R XA XB XO Z Kp A (x :: B) S wr) (hx : okP x) (hn : n ≤ szP x) (hm : szP x ≤ 20000) (hl : B.length ≤ 1000000) :
    Calls Try.prog 23 #[.pointer (some ⟨RB, 0, none⟩), .int .i64 (n : Int)] wr fun e w' => e = .returned (.tuple #[]) ∧ Bo w n1 RA RB R XA XB XO Z Kp A (tk n x B) S w' := by
  obtain ⟨XW, XZ, h1, h2, h3, h4, h5, h6, h7, h8, h9⟩ := h
  have g1 := G.n
  refine (take_any XB RB x n B wr h2 hx hn hm hl).mono ?_
  rintro e w' ⟨rfl, hr, hc⟩
  have hs := hc.size
  refine ⟨rfl, XW, XZ, h1.chg hc (fun b _ hb => G.ab b hb), hr, h3.chg hc (fun b _ hb => (h5 b hb).2.1), hZ _ _ _ _ h4 hc (fun b _ hb => (h6 b hb).2.1), fun b hb => ?_, fun b hb => ?_, h7.trans (hc.mono (fun b hb e => (Nat.lt_or_ge b w.heap.size).elim (fun hlt => .inl (G.ob b e hlt)) (fun hge => .inr ⟨hge, hb⟩))), by omega, fun k hk => ?_⟩
  · obtain ⟨a, b, c, d, e⟩ := h5 b hb
    exact ⟨a, b, c, d, by omega⟩
  · obtain ⟨a, b, c, d⟩ := h6 b hb
    exact ⟨a, b, c, by omega⟩
  · obtain ⟨a, b, c, d⟩ := h9 k hk
    exact ⟨a.chg hc (fun e => by have := G.b _ e; omega), b, c, d⟩
/-- What is written in the end. -/
theorem Bo.change (G : Geo w n1 XA XB XO) (hZ : Std Z) (h : Bo w n1 RA RB R XA XB XO Z Kp A B S wr) (hF : Fits S 40000) :
    Calls Try.prog 25 #[.pointer (some ⟨R, 0, none⟩)] wr fun e w' => ∃ v, e = .returned v ∧ OwnP w' w.heap.size v (stl S) ∧ Chg XO w w' ∧ (∀ g, v.ownBlock = some g → g < w'.heap.size) ∧ ∃ XZ, Z XZ w' ∧ (∀ b, XZ b → w.heap.size ≤ b ∧ b < wr.heap.size ∧ v.ownBlock ≠ some b) := by
  obtain ⟨XW, XZ, h1, h2, h3, h4, h5, h6, h7, h8, h9⟩ := h
  have g1 := G.n
  refine (wchange_any XW R S wr h3 (by have := hF.len; omega) (by have := hF.put; omega) (by have := hF.cut; omega)).mono ?_
  rintro e w' ⟨v, rfl, hv, hg, hc⟩
  refine ⟨v, rfl, own_base hv (fun g hg' => ?_), h7.trans (hc.mono (fun b hb e => .inr ⟨(h5 b e).2.2.2.1, hb⟩)), fun g hg' => own_lt hv g hg', XZ, hZ _ _ _ _ h4 hc (fun b _ hb e => (h5 b e).2.2.1 hb), fun b hb => ⟨(h6 b hb).2.2.1, (h6 b hb).2.2.2, fun e => ?_⟩⟩
  · rcases hg g hg' with h | h
    · exact (h5 g h).2.2.2.1
    · omega
  · rcases hg b e with h | h
    · exact (h5 b h).2.2.1 hb
    · have := (h6 b hb).2.2.2; omega
end
/-- Two writers change places. -/
theorem Bo.swap {w : World} {n1 RA RB R R2 : Nat} {XA XB XO : Nat → Prop} {Kp : List (Nat × Array Value)} {A B : List Pt} {S S2 : WS} {wr : World} (h : Bo w n1 RA RB R XA XB XO (fun X u => Wr X R2 S2 u) Kp A B S wr) : Bo w n1 RA RB R2 XA XB XO (fun X u => Wr X R S u) Kp A B S2 wr := by
  obtain ⟨XW, XZ, h1, h2, h3, h4, h5, h6, h7, h8, h9⟩ := h
  exact ⟨XZ, XW, h1, h2, h4, h3, fun b hb => ⟨(h6 b hb).1, (h6 b hb).2.1, fun e => (h5 b e).2.2.1 hb, (h6 b hb).2.2⟩, fun b hb => ⟨(h5 b hb).1, (h5 b hb).2.1, (h5 b hb).2.2.2⟩, h7, h8, fun k hk => ⟨(h9 k hk).1, (h9 k hk).2.1, (h9 k hk).2.2.2, (h9 k hk).2.2.1⟩⟩
theorem std_wr (R : Nat) (S : WS) : Std (fun X u => Wr X R S u) := fun X Y w w' h hc hd => h.chg hc hd
theorem std_none : Std (fun _ _ => True) := fun _ _ _ _ _ _ _ => trivial
/-! How much is left, by the memory itself. -/
def cellN : Option Value → Nat
  | some (.int _ n) => n.toNat
  | some (.string s) => s.size
  | _ => 0
def remP (w : World) (g : Nat) : Nat → Nat → Nat
  | 0, o => 0
  | n + 1, o => cellN (w.cell? ⟨g, o + 1, none⟩) + cellN (w.cell? ⟨g, o + 2, none⟩) + remP w g n (o + 3)
def remV (w : World) : Option Value → Nat
  | some (.slice (some a) n _) => remP w a.block n a.off
  | _ => 0
def remR (w : World) (R : Nat) : Nat := remV w (w.cell? ⟨R, 0, none⟩)
theorem remP_tot {w : World} {g : Nat} : ∀ (A : List Pt) (o : Nat), (∀ (j : Nat) (x : Pt), A[j]? = some x → w.cell? ⟨g, o + j * 3 + 1, none⟩ = some (.int .i64 x.2.1) ∧ w.cell? ⟨g, o + j * 3 + 2, none⟩ = some (.string ⟨x.2.2.toArray⟩)) → remP w g A.length o = tot A
  | [], o, h => rfl
  | x :: A, o, h => by
    have h0 := h 0 x rfl
    rw [Nat.zero_mul, Nat.add_zero] at h0
    have ih := remP_tot A (o + 3) (fun j y hy => by
      have := h (j + 1) y (by simpa using hy)
      rw [show o + (j + 1) * 3 = o + 3 + j * 3 from by omega] at this
      exact this)
    show cellN (w.cell? ⟨g, o + 1, none⟩) + cellN (w.cell? ⟨g, o + 2, none⟩) + remP w g A.length (o + 3) = szP x + tot A
    rw [h0.1, h0.2, ih]
    show x.2.1.toNat + (⟨x.2.2.toArray⟩ : ByteArray).size + _ = _
    rw [size_mk]
    rfl
theorem rem_tot {X : Nat → Prop} {R : Nat} {A : List Pt} {w : World} (h : Rd X R A w) : remR w R = tot A := by
  obtain ⟨_, p, c, hb, _, _, h3⟩ := h
  unfold remR
  rw [hb.cell 0 _ rfl]
  by_cases hA : A = []
  · subst hA
    show remV w (some (.slice p 0 c)) = 0
    cases p <;> rfl
  · obtain ⟨g, o, cur, rfl, _, _, hbg, hcur⟩ := h3 hA
    exact remP_tot A o (fun j x hx => ⟨hbg.cell _ _ (hcur j x hx).2.1, hbg.cell _ _ (hcur j x hx).2.2⟩)
theorem Rd.cell {X : Nat → Prop} {R : Nat} {A : List Pt} {w : World} (h : Rd X R A w) : ∃ p c, w.cell? ⟨R, 0, none⟩ = some (.slice p A.length c) := by
  obtain ⟨_, p, c, hb, _⟩ := h
  exact ⟨p, c, hb.cell 0 _ rfl⟩
theorem Bo.rem {w : World} {n1 RA RB R : Nat} {XA XB XO : Nat → Prop} {Z : (Nat → Prop) → World → Prop} {Kp : List (Nat × Array Value)} {A B : List Pt} {S : WS} {wr : World} (h : Bo w n1 RA RB R XA XB XO Z Kp A B S wr) : remR wr RA + remR wr RB = tot A + tot B := by
  obtain ⟨XW, XZ, h1, h2, _⟩ := h
  rw [rem_tot h1, rem_tot h2]
end Go.Proofs.Yteajpkoghlbneaa.spls
