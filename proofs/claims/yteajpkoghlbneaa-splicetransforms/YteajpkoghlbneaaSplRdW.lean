/- The walks of package splice: the reader of a normal change. -/
import Derived.Test.YteajpkoghlbneaaSplNormW
set_option linter.unusedVariables false
namespace Go.Proofs.Yteajpkoghlbneaa.spls
open Go.RowKit

/-- A reader in block R: what is left of a change lies in block g (of X both). -/
def Rd (X : Nat → Prop) (R : Nat) (A : List Pt) (w : World) : Prop :=
  X R ∧ ∃ (p : Option Addr) (c : Nat), Blk w R #[.slice p A.length c] 50 ∧ A.length ≤ c ∧ c ≤ maxLen ∧ (A ≠ [] → ∃ (g o : Nat) (cur : Array Value), p = some ⟨g, o, none⟩ ∧ X g ∧ g ≠ R ∧ Blk w g cur 46 ∧ ∀ (j : Nat) (x : Pt), A[j]? = some x → cur[o + j * 3]? = some (.int .i64 x.1) ∧ cur[o + j * 3 + 1]? = some (.int .i64 x.2.1) ∧ cur[o + j * 3 + 2]? = some (.string ⟨x.2.2.toArray⟩))
theorem Rd.lt {X : Nat → Prop} {R : Nat} {A : List Pt} {w : World} (h : Rd X R A w) : R < w.heap.size := by
  obtain ⟨_, p, c, hb, _⟩ := h
  exact hb.lt
theorem Rd.chg {X Y : Nat → Prop} {R : Nat} {A : List Pt} {w w' : World} (h : Rd X R A w) (hc : Chg Y w w') (hd : ∀ b, b < w.heap.size → X b → ¬ Y b) : Rd X R A w' := by
  obtain ⟨hR, p, c, hb, h1, h2, h3⟩ := h
  refine ⟨hR, p, c, hb.chg hc (hd R hb.lt hR), h1, h2, fun hA => ?_⟩
  obtain ⟨g, o, cur, e, hg, hne, hbg, hcur⟩ := h3 hA
  exact ⟨g, o, cur, e, hg, hne, hbg.chg hc (hd g hbg.lt hg), hcur⟩
theorem Rd.alloc {X : Nat → Prop} {R : Nat} {A : List Pt} {w : World} (h : Rd X R A w) (o : Obj) : Rd X R A (w.alloc o) :=
  h.chg (Y := fun _ => False) ((Chg.refl _ w).alloc o) (fun _ _ _ h => h)
/-- A row of one's own, to be read. -/
theorem rd_new {w : World} {R base : Nat} {v : Value} {L : List Pt} (hv : OwnP w base v L) (hb : Blk w R #[v] 50) : Rd (fun b => b = R ∨ v.ownBlock = some b) R L w := by
  refine ⟨.inl rfl, ?_⟩
  have hv' := hv
  rcases hv.2 with ⟨rfl, h0⟩ | ⟨g, cap, cur, rfl, hbg, hg, h1, h2, h3, h4⟩
  · have : L = [] := List.eq_nil_of_length_eq_zero h0
    subst this
    exact ⟨none, 0, hb, Nat.le_refl _, Nat.zero_le _, fun h => absurd rfl h⟩
  · refine ⟨_, cap, hb, h1, h2, fun _ => ⟨g, 0, cur, rfl, .inr rfl, ?_, hg, fun j x hx => ?_⟩⟩
    · exact fun e => by
        subst e
        have : Blk w g cur 46 := hg
        unfold Blk at this hb
        rw [hb] at this
        injection this with e2
        injection e2 with _ e3
        exact absurd e3 (by decide)
    · obtain ⟨hj, hx⟩ := List.getElem?_eq_some_iff.1 hx
      subst hx
      obtain ⟨g0, g1, g2⟩ := pt_get L j hj
      have hc : ∀ i, i < L.length * 3 → cur[0 + i]? = (L.flatMap ptC)[i]? := fun i hi => by
        rw [Nat.zero_add, ← h4, List.getElem?_take_of_lt hi, Array.getElem?_toList]
      rw [Nat.zero_add] at *
      have e0 := hc (j * 3) (by omega)
      have e1 := hc (j * 3 + 1) (by omega)
      have e2 := hc (j * 3 + 2) (by omega)
      rw [Nat.zero_add] at e0 e1 e2
      exact ⟨e0.trans g0, e1.trans g1, e2.trans g2⟩
set_option maxHeartbeats 2000000 in
set_option maxRecDepth 100000 in
theorem done_any (w : World) (p q : Option Addr) (a b c d : Nat) (ha : a ≤ 1000000) (hb : b ≤ 1000000) :
    Calls Try.prog 18 #[.agg #[.slice p a c], .agg #[.slice q b d]] w fun e w' => e = .returned (.bool (decide (a + b = 0))) ∧ Below w.heap.size w w' := by
  have HB : Hid (Below w.heap.size w ((w.alloc (.cells #[.slice p a c] 50)).alloc (.cells #[.slice q b d] 50))) := hide (((Below.refl _ w).alloc (Nat.le_refl _) _).alloc (by simp) _)
  by_cases h : a + b = 0
  · have e1 : decide (a + b = 0) = true := decide_eq_true h
    have ha0 : a = 0 := by omega
    have hb0 : b = 0 := by omega
    subst ha0 hb0
    clear h e1
    go_enter Try.func18, Try.ntmps18
    go_wp2
    go_ret
    exact ⟨rfl, HB.out⟩
  · have e1 : decide (a + b = 0) = false := decide_eq_false h
    rw [e1]
    have i1 : (((a : Int) + (b : Int)) == 0) = false := beq_false_of_ne (by omega)
    have i2 : ¬ ((a : Int) + (b : Int) = 0) := by omega
    clear h e1
    go_enter Try.func18, Try.ntmps18
    go_wp2
    go_ret
    exact ⟨by first | rfl | (rw [i1]; rfl), HB.out⟩
set_option maxHeartbeats 2000000 in
set_option maxRecDepth 100000 in
theorem next_some (X : Nat → Prop) (R : Nat) (x : Pt) (A : List Pt) (w : World) (h : Rd X R (x :: A) w) (hl : (x :: A).length ≤ 1000000) :
    Calls Try.prog 19 #[.pointer (some ⟨R, 0, none⟩)] w fun e w' => e = .returned (.agg #[.int .i64 x.1, .int .i64 x.2.1, .string ⟨x.2.2.toArray⟩]) ∧ Below w.heap.size w w' := by
  obtain ⟨hR, p, c, hb, h1, h2, h3⟩ := h
  obtain ⟨g, o, cur, rfl, hg, hne, hbg, hcur⟩ := h3 (by simp)
  obtain ⟨y0, y1, y2⟩ := hcur 0 x rfl
  rw [Nat.zero_mul, Nat.add_zero] at y0 y1 y2
  have hw := blk_alloc w #[.int .i64 0, .int .i64 0, .string ⟨#[]⟩] 46
  have c0 : (w.alloc (.cells #[.int .i64 0, .int .i64 0, .string ⟨#[]⟩] 46)).cell? ⟨R, 0, none⟩ = some (.slice (some ⟨g, o, none⟩) (A.length + 1) c) := (hb.alloc _).cell 0 _ rfl
  have z0 := (hbg.alloc (.cells #[.int .i64 0, .int .i64 0, .string ⟨#[]⟩] 46)).cell _ _ y0
  have z1 := (hbg.alloc (.cells #[.int .i64 0, .int .i64 0, .string ⟨#[]⟩] 46)).cell _ _ y1
  have z2 := (hbg.alloc (.cells #[.int .i64 0, .int .i64 0, .string ⟨#[]⟩] 46)).cell _ _ y2
  have hbel : Below w.heap.size w (w.alloc (.cells #[.int .i64 0, .int .i64 0, .string ⟨#[]⟩] 46)) := (Below.refl _ w).alloc (Nat.le_refl _) _
  have HW := hide hw
  have HB := hide hbel
  rw [List.length_cons] at hl
  clear hb h1 h2 h3 hbg hcur y0 y1 y2 hw hbel hg hne hR
  generalize x.1 = k at *
  generalize x.2.1 = n at *
  generalize (⟨x.2.2.toArray⟩ : ByteArray) = s at *
  generalize A.length = m at *
  go_enter Try.func19, Try.ntmps19
  go_wp2
  refine bodyPost_ret (v := .agg #[.int .i64 k, .int .i64 n, .string s]) (by simp [results, Try.results19, go_sem]) rfl ?_
  exact ⟨rfl, (Below.refl _ w).alloc (Nat.le_refl _) _⟩
set_option maxHeartbeats 2000000 in
set_option maxRecDepth 100000 in
theorem next_none (X : Nat → Prop) (R : Nat) (w : World) (h : Rd X R [] w) :
    Calls Try.prog 19 #[.pointer (some ⟨R, 0, none⟩)] w fun e w' => e = .returned (.agg #[.int .i64 0, .int .i64 0, .string ⟨#[]⟩]) ∧ Below w.heap.size w w' := by
  obtain ⟨hR, p, c, hb, h1, h2, h3⟩ := h
  have c0 : (w.alloc (.cells #[.int .i64 0, .int .i64 0, .string ⟨#[]⟩] 46)).cell? ⟨R, 0, none⟩ = some (.slice p 0 c) := (hb.alloc _).cell 0 _ rfl
  clear hb h1 h2 h3 hR
  go_enter Try.func19, Try.ntmps19
  go_wp2
  refine bodyPost_ret (v := .agg #[.int .i64 0, .int .i64 0, .string ⟨#[]⟩]) (by simp [results, Try.results19, go_sem]) rfl ?_
  exact ⟨rfl, (Below.refl _ w).alloc (Nat.le_refl _) _⟩
/-- The first part is another one. -/
theorem rd_head {X : Nat → Prop} {R g o c : Nat} {x y : Pt} {A : List Pt} {cur : Array Value} {w : World} (i : Nat) (u : Value) (hR : X R) (hb : Blk w R #[.slice (some ⟨g, o, none⟩) (x :: A).length c] 50) (h1 : (x :: A).length ≤ c) (h2 : c ≤ maxLen) (hg : X g) (hne : g ≠ R) (hbg : Blk w g cur 46)
    (hcur : ∀ (j : Nat) (z : Pt), (x :: A)[j]? = some z → cur[o + j * 3]? = some (.int .i64 z.1) ∧ cur[o + j * 3 + 1]? = some (.int .i64 z.2.1) ∧ cur[o + j * 3 + 2]? = some (.string ⟨z.2.2.toArray⟩))
    (hi : i < 3) (hy : (cur.setIfInBounds (o + i) u)[o]? = some (.int .i64 y.1) ∧ (cur.setIfInBounds (o + i) u)[o + 1]? = some (.int .i64 y.2.1) ∧ (cur.setIfInBounds (o + i) u)[o + 2]? = some (.string ⟨y.2.2.toArray⟩)) :
    Rd X R (y :: A) (w.setCell ⟨g, o + i, none⟩ u) ∧ Chg X w (w.setCell ⟨g, o + i, none⟩ u) := by
  refine ⟨⟨hR, _, c, hb.set_other _ _ (fun e => hne e.symm), h1, h2, fun _ => ⟨g, o, _, rfl, hg, hne, hbg.set (o + i) u, fun j z hz => ?_⟩⟩, (Chg.refl X w).set (.inl hg) _ _⟩
  cases j with
  | zero =>
    have : y = z := by simpa using hz
    subst this
    rw [Nat.zero_mul, Nat.add_zero]
    exact hy
  | succ j =>
    obtain ⟨a, b, c⟩ := hcur (j + 1) z (by simpa using hz)
    refine ⟨?_, ?_, ?_⟩
    · rw [Array.getElem?_setIfInBounds_ne (by omega)]; exact a
    · rw [Array.getElem?_setIfInBounds_ne (by omega)]; exact b
    · rw [Array.getElem?_setIfInBounds_ne (by omega)]; exact c
/-- The first part is left behind. -/
theorem rd_tail {X : Nat → Prop} {R g o c : Nat} {x : Pt} {A : List Pt} {w : World} (h : Rd X R (x :: A) w) (hb : Blk w R #[.slice (some ⟨g, o, none⟩) (x :: A).length c] 50) (q : Option Addr) (hq : A ≠ [] → q = some ⟨g, o + 3, none⟩) (c' : Nat) (hc : A.length ≤ c') (hc2 : c' ≤ maxLen) :
    Rd X R A (w.setCell ⟨R, 0, none⟩ (.slice q A.length c')) ∧ Chg X w (w.setCell ⟨R, 0, none⟩ (.slice q A.length c')) := by
  obtain ⟨hR, p, c1, hb1, h1, h2, h3⟩ := h
  refine ⟨⟨hR, q, c', hb.set 0 _, hc, hc2, fun hA => ?_⟩, (Chg.refl X w).set (.inl hR) _ _⟩
  obtain ⟨g1, o1, cur, e, hg, hne, hbg, hcur⟩ := h3 (by simp)
  have e2 : p = some ⟨g, o, none⟩ := by
    unfold Blk at hb hb1
    rw [hb] at hb1
    injection hb1 with e3
    injection e3 with e3
    have e4 := congrArg Array.toList e3
    simp at e4
    exact e4.1.symm
  rw [e2] at e
  injection e with e
  injection e with e e'
  subst e e'
  refine ⟨g, o + 3, cur, hq hA, hg, hne, hbg.set_other _ _ hne, fun j z hz => ?_⟩
  obtain ⟨a, b, c⟩ := hcur (j + 1) z (by simpa using hz)
  rw [show o + 3 + j * 3 = o + (j + 1) * 3 from by omega]
  exact ⟨a, b, c⟩
end Go.Proofs.Yteajpkoghlbneaa.spls
