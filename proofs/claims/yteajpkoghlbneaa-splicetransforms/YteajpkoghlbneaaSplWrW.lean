/- The walks of package splice: the writer. -/
import Derived.Test.YteajpkoghlbneaaSplBlk
import Derived.Lib.AppendStr
import Derived.Lib.AppendZeros
import Derived.Laws.BytesString
import Derived.Deep.RegionHeld3
set_option linter.unusedVariables false
namespace Go.Proofs.Yteajpkoghlbneaa.spls
open Go.RowKit

def cellB (c : UInt8) : Value := .int .u8 (c.toNat : Int)
abbrev OwnB (w : World) (v : Value) (l : List UInt8) : Prop := w.ownsRow 0 5 1 v l.length (l.map cellB)
/-- A writer in block R; it and its rows lie in blocks of X. -/
def Wr (X : Nat → Prop) (R : Nat) (S : WS) (w : World) : Prop :=
  X R ∧ ∃ v u, Blk w R #[v, u, .int .i64 (S.2.2 : Int)] 53 ∧ OwnP w 0 v S.1 ∧ OwnB w u S.2.1 ∧ (∀ g, v.ownBlock = some g → X g ∧ g ≠ R) ∧ (∀ g, u.ownBlock = some g → X g ∧ g ≠ R)
theorem own_type {w : World} {base e d n b : Nat} {v : Value} {xs : List Value} (h : w.ownsRow base e d v n xs) {cs : Array Value} {t : Nat} (hb : Blk w b cs t) (hne : e ≠ t) : ∀ g, v.ownBlock = some g → g ≠ b := fun g hg e1 => by
  subst e1
  rcases h.2 with ⟨hv, _⟩ | ⟨g', cap, cur, hv, _, hg', _⟩
  · rw [hv] at hg; cases hg
  · rw [hv] at hg
    have : g' = g := by injection hg
    subst this
    unfold Blk at hb
    rw [hb] at hg'
    injection hg' with e2
    injection e2 with _ e3
    exact hne e3.symm
theorem own_apart {w : World} {v u : Value} {n m d d' e e' : Nat} {xs ys : List Value} (h : w.ownsRow 0 e d v n xs) (k : w.ownsRow 0 e' d' u m ys) (hne : e ≠ e') : ∀ g, v.ownBlock = some g → u.ownBlock ≠ some g := fun g hg hu => by
  rcases k.2 with ⟨hv, _⟩ | ⟨g', cap, cur, hv, _, hg', _⟩
  · rw [hv] at hu; cases hu
  · rw [hv] at hu
    have : g' = g := by injection hu
    subst this
    exact own_type h (cs := cur) (t := e') hg' hne g' hg rfl
theorem own_form {w : World} {base e d n : Nat} {v : Value} {xs : List Value} (h : w.ownsRow base e d v n xs) : ∃ p c, v = .slice p n c ∧ n ≤ c ∧ c ≤ maxLen := by
  rcases h.2 with ⟨hv, h0⟩ | ⟨g, cap, cur, hv, _, _, h1, h2, _⟩
  · exact ⟨none, 0, by rw [hv, h0], by omega, Nat.zero_le _⟩
  · exact ⟨_, cap, hv, h1, h2⟩
theorem own_lt {w : World} {base e d n : Nat} {v : Value} {xs : List Value} (h : w.ownsRow base e d v n xs) : ∀ g, v.ownBlock = some g → g < w.heap.size := fun g hg => (World.ownsRow.lt h g hg).2
theorem Wr.mono {X Y : Nat → Prop} {R : Nat} {S : WS} {w : World} (h : Wr X R S w) (hm : ∀ b, b < w.heap.size → X b → Y b) : Wr Y R S w := by
  obtain ⟨hR, v, u, hb, hv, hu, h1, h2⟩ := h
  exact ⟨hm R hb.lt hR, v, u, hb, hv, hu, fun g hg => ⟨hm g (own_lt hv g hg) (h1 g hg).1, (h1 g hg).2⟩, fun g hg => ⟨hm g (own_lt hu g hg) (h2 g hg).1, (h2 g hg).2⟩⟩
theorem Wr.lt {X : Nat → Prop} {R : Nat} {S : WS} {w : World} (h : Wr X R S w) : R < w.heap.size := by
  obtain ⟨hR, v, u, hb, _⟩ := h
  exact hb.lt
/-- The writer stands where its blocks do. -/
theorem Wr.chg {X Y : Nat → Prop} {R : Nat} {S : WS} {w w' : World} (h : Wr X R S w) (hc : Chg Y w w') (hd : ∀ b, b < w.heap.size → X b → ¬ Y b) : Wr X R S w' := by
  obtain ⟨hR, v, u, hb, hv, hu, h1, h2⟩ := h
  exact ⟨hR, v, u, hb.chg hc (hd R hb.lt hR), own_chg hv hc (fun g hg => hd g (own_lt hv g hg) (h1 g hg).1), own_chg hu hc (fun g hg => hd g (own_lt hu g hg) (h2 g hg).1), h1, h2⟩
/-- What a call does to a writer. -/
abbrev WrTo (X : Nat → Prop) (R : Nat) (S : WS) (w w' : World) : Prop := Wr (wid X w w') R S w' ∧ Chg X w w'
theorem WrTo.trans {X : Nat → Prop} {R : Nat} {S T : WS} {a b c : World} (h : WrTo X R S a b) (k : WrTo (wid X a b) R T b c) : WrTo X R T a c := by
  refine ⟨k.1.mono (fun q _ hq => ?_), h.2.trans k.2⟩
  have s1 := h.2.size
  have s2 := k.2.size
  rcases hq with (hq | hq) | hq
  · exact .inl hq
  · exact .inr ⟨hq.1, by omega⟩
  · exact .inr ⟨by omega, hq.2⟩
theorem WrTo.refl {X : Nat → Prop} {R : Nat} {S : WS} {w : World} (h : Wr X R S w) : WrTo X R S w w := ⟨h.mono fun _ _ h => .inl h, Chg.refl _ _⟩
/-- A new writer. -/
theorem wr_new (w : World) : Wr (fun b => b = w.heap.size) w.heap.size w0 (w.alloc (.cells #[.slice none 0 0, .slice none 0 0, .int .i64 0] 53)) :=
  ⟨rfl, _, _, blk_alloc w _ _, World.ownsRow_nil _ _ _ _, World.ownsRow_nil _ _ _ _, fun g hg => (by cases hg), fun g hg => (by cases hg)⟩
set_option maxHeartbeats 1000000 in
set_option maxRecDepth 100000 in
theorem wcut_any (X : Nat → Prop) (R : Nat) (S : WS) (w : World) (n : Nat) (h : Wr X R S w) (hn : S.2.2 + n ≤ 1000000000) :
    Calls Try.prog 31 #[.pointer (some ⟨R, 0, none⟩), .int .i64 (n : Int)] w fun e w' => e = .returned (.tuple #[]) ∧ WrTo X R (wC n S) w w' := by
  obtain ⟨hR, v, u, hb, hv, hu, h1, h2⟩ := h
  have c2 := hb.cell 2 _ rfl
  have f2 := hb.froz 2
  have HB := hide hb
  have HV := hide hv
  have HU := hide hu
  have H1 := hide h1
  have H2 := hide h2
  have HR := hide hR
  clear hb hv hu h1 h2 hR
  generalize hS : S.2.2 = k at *
  go_enter Try.func31, Try.ntmps31
  go_wp2
  go_end0
  have hc : Chg X w (w.setCell ⟨R, 2, none⟩ (.int .i64 ((k : Int) + (n : Int)))) := (Chg.refl X w).set (.inl HR.out) 2 _
  have hc' : Chg (fun b => b = R) w (w.setCell ⟨R, 2, none⟩ (.int .i64 ((k : Int) + (n : Int)))) := (Chg.refl (fun b => b = R) w).set (B := R) (.inl rfl) 2 _
  refine ⟨rfl, ⟨.inl HR.out, v, u, ?_, own_chg HV.out hc' (fun g hg => (H1.out g hg).2), own_chg HU.out hc' (fun g hg => (H2.out g hg).2), fun g hg => ⟨.inl (H1.out g hg).1, (H1.out g hg).2⟩, fun g hg => ⟨.inl (H2.out g hg).1, (H2.out g hg).2⟩⟩, hc⟩
  have := HB.out.set 2 (.int .i64 ((k : Int) + (n : Int)))
  show Blk _ R #[v, u, .int .i64 ((S.2.2 + n : Nat) : Int)] _
  rw [hS, Int.natCast_add]
  exact this
/-- append of a text to bytes of one's own, and where they lie then. -/
theorem push_str (w : World) (u : Value) (l : List UInt8) (h : OwnB w u l) (s : ByteArray) (hlen : l.length + s.size ≤ 1000000000) (ty : TypeId) :
    ∃ v' W', (Builtin.append_ #[51, 9] ty #[u, .string s]).run Try.prog w = .ok v' W' ∧ OwnB W' v' (l ++ s.data.toList) ∧ w.grownBy W' u.ownBlock ∧ (v'.ownBlock = u.ownBlock ∨ ∃ g, v'.ownBlock = some g ∧ w.heap.size ≤ g) := by
  obtain ⟨i0, hi, hz0, hz1, hz2⟩ := info_parts infoB
  obtain ⟨v', W', hr, ho, hg, hnil⟩ := Lib.run_append_own_string (P := Try.prog) w 0 51 9 ty 5 i0 Try.underlying51 Try.underlying9 hi hz0 hz1 hz2 _ _ _ h s (by unfold maxLen; omega) (by omega) (Nat.zero_le _)
  have hsz : s.data.toList.length = s.size := len_list s
  refine ⟨v', W', hr, ?_, hg, ?_⟩
  · show W'.ownsRow 0 _ 1 v' (l ++ s.data.toList).length ((l ++ s.data.toList).map cellB)
    rw [List.length_append, List.map_append, hsz]
    have e : s.data.toList.map cellB = Lib.strCells s := rfl
    rw [e]
    exact ho
  · rcases h.2 with ⟨h1, h2⟩ | ⟨g1, cap1, cur, h1, h2, h3, h4, h5, h6, h7⟩
    · by_cases hm : s.size = 0
      · have := hnil.2 ⟨h1, hm⟩
        rw [this, h1]
        exact .inl rfl
      · have hl0 : l.length = 0 := h2
        have := run_append_nil_string (P := Try.prog) w 51 9 ty 5 i0 _ Try.underlying51 Try.underlying9 hi hz0 s (by omega) (by omega) (by rw [hz2]; omega)
        rw [h1] at hr
        rw [hr] at this
        injection this with e1 e2
        rw [e1]
        exact .inr ⟨_, rfl, Nat.le_refl _⟩
    · subst h1
      by_cases hroom : l.length + s.size ≤ cap1
      · have := Lib.run_append_room_string (P := Try.prog) w 51 9 ty 5 i0 Try.underlying51 Try.underlying9 hi hz1 g1 l.length cap1 cur h3 s hroom (by omega)
        rw [hr] at this
        injection this with e1 e2
        rw [e1]
        exact .inl rfl
      · have := Lib.run_append_grow_string (P := Try.prog) w 51 9 ty 5 i0 _ Try.underlying51 Try.underlying9 hi hz0 ⟨g1, 0, none⟩ l.length cap1 (l.map cellB) (by rw [hz1]; simp) (World.ownsRow.cells (g := g1) h rfl) s (by omega) (by omega) (by rw [hz2]; exact growslice_fits (by omega) (by omega))
        rw [hr] at this
        injection this with e1 e2
        rw [e1]
        exact .inr ⟨_, rfl, Nat.le_refl _⟩
set_option maxHeartbeats 1000000 in
set_option maxRecDepth 100000 in
theorem wput_any (X : Nat → Prop) (R : Nat) (S : WS) (w : World) (s : ByteArray) (h : Wr X R S w) (hn : S.2.1.length + s.size ≤ 1000000000) :
    Calls Try.prog 20 #[.pointer (some ⟨R, 0, none⟩), .string s] w fun e w' => e = .returned (.tuple #[]) ∧ WrTo X R (wP s.data.toList S) w w' := by
  obtain ⟨hR, v, u, hb, hv, hu, h1, h2⟩ := h
  obtain ⟨v', W', hrun, ho, hg, hat⟩ := push_str w u S.2.1 hu s hn 51
  have c1 := hb.cell 1 _ rfl
  have hb2 : Blk W' R #[v, u, .int .i64 (S.2.2 : Int)] 53 := (hg.block R hb.lt (fun e => (h2 R e.symm).2 rfl)).trans hb
  have d1 := hb2.cell 1 _ rfl
  have f1 := hb2.froz 1
  have hcg : Chg X w W' := Chg.of_grown hg (fun g e => (h2 g e).1)
  have ap := own_apart hv hu (by decide)
  have hv2 : OwnP W' 0 v S.1 := World.ownsRow.kept hv hg (Classical.byCases (fun e : v.ownBlock = none => .inl e) (fun e => .inr (fun e2 => by
    cases hvv : v.ownBlock with
    | none => exact e hvv
    | some g => rw [hvv] at e2; exact ap g hvv e2.symm)))
  have hne' : ∀ g, v'.ownBlock = some g → wid X w W' g ∧ g ≠ R := fun g hg' => by
    refine ⟨?_, own_type ho hb2 (by decide) g hg'⟩
    rcases hat with e | ⟨g2, e, hge⟩
    · rw [e] at hg'; exact .inl (h2 g hg').1
    · rw [e] at hg'
      injection hg' with hg'
      subst hg'
      exact .inr ⟨hge, own_lt ho _ e⟩
  obtain ⟨q, cq, hq, _⟩ := own_form hu
  obtain ⟨q', N', cq', hq'⟩ : ∃ q N c, v' = .slice q N c := by obtain ⟨q, c, e, _⟩ := own_form ho; exact ⟨_, _, _, e⟩
  have HH := hide (And.intro hb2 (And.intro hcg (And.intro hv2 (And.intro ho (And.intro hne' (And.intro h1 hR))))))
  have HS : Hid ((l : Nat) → l = S.2.2 → l = S.2.2) := hide (fun _ h => h)
  clear hb hv hu h1 h2 hR hb2 hcg ap hv2 ho hne' hat hg hn HS
  subst hq hq'
  go_enter Try.func20, Try.ntmps20
  go_wp2_with (at_builtin; refine Lib.wpList_append_run _ rfl _ _ _ _ rfl _ _ rfl rfl _ _ hrun ?_)
  go_end0
  obtain ⟨hb2, hcg, hv2, ho, hne', h1, hR⟩ := HH.out
  generalize hU : (Value.slice q' N' cq') = U at *
  have hc : Chg X w (W'.setCell ⟨R, 1, none⟩ U) := hcg.set (.inl hR) 1 _
  have hc' : Chg (fun b => b = R) W' (W'.setCell ⟨R, 1, none⟩ U) := (Chg.refl (fun b => b = R) W').set (B := R) (.inl rfl) 1 _
  have es : (W'.setCell ⟨R, 1, none⟩ U).heap.size = W'.heap.size := by simp [World.setCell]
  refine ⟨rfl, ⟨.inl hR, v, U, hb2.set 1 U, own_chg hv2 hc' (fun g hg => (h1 g hg).2), own_chg ho hc' (fun g hg => (hne' g hg).2), fun g hg => ⟨.inl (h1 g hg).1, (h1 g hg).2⟩, fun g hg => ⟨?_, (hne' g hg).2⟩⟩, hc⟩
  have := (hne' g hg).1
  unfold wid at *
  rw [es]
  exact this
end Go.Proofs.Yteajpkoghlbneaa.spls
