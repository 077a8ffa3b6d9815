/- How a value that came in is opened, level by level. -/
import Derived.Test.YtdpoiagnjdajbaaDoorPtelAB
import Derived.OpenShut
set_option linter.unusedVariables false
namespace Go.Proofs.YtdpoiagnjdajbaaDoor.valus
open Go.RowKit Go.ChangeShapes Go.WideShapes

theorem pick {α : Type} {Q : Nat → α → Prop} : ∀ (n : Nat), (∀ j, j < n → ∃ y, Q j y) → ∃ l : List α, l.length = n ∧ ∀ j y, l[j]? = some y → Q j y
  | 0, _ => ⟨[], rfl, fun j y h => by simp at h⟩
  | n + 1, h => by
    obtain ⟨l, hl, hq⟩ := pick n (fun j hj => h j (by omega))
    obtain ⟨y, hy⟩ := h n (by omega)
    refine ⟨l ++ [y], by simp [hl], fun j z hz => ?_⟩
    by_cases hj : j < l.length
    · rw [List.getElem?_append_left hj] at hz
      exact hq j z hz
    · rw [List.getElem?_append_right (by omega)] at hz
      have h0 : j - l.length = 0 := by
        have := (List.getElem?_eq_some_iff.1 hz).1
        simp at this
        omega
      rw [h0] at hz
      injection hz with hz
      have : j = n := by omega
      rw [this, ← hz]
      exact hy
/-- The types of values and entries in a program. -/
structure Typed (P : Program) (tV tE tL tM tI tN tU tS : TypeId) (fV fE : Array Field) : Prop where
  v : P.underlying tV = some (.struct fV)
  e : P.underlying tE = some (.struct fE)
  l : P.underlying tL = some (.slice tV)
  m : P.underlying tM = some (.slice tE)
  i : P.underlying tI = some (.int .i64)
  n : P.underlying tN = some (.int .i64)
  u : P.underlying tU = some (.int .u64)
  s : P.underlying tS = some .string
  cv : P.cellsOf tV = 6
  ce : P.cellsOf tE = 7
  cl : P.cellsOf tL = 1
  cm : P.cellsOf tM = 1
  ci : P.cellsOf tI = 1
  cn : P.cellsOf tN = 1
  cu : P.cellsOf tU = 1
  cs : P.cellsOf tS = 1
  v0 : ∃ f, fV[0]? = some f ∧ f.offset = 0 ∧ f.type = tI
  v1 : ∃ f, fV[1]? = some f ∧ f.offset = 1 ∧ f.type = tN
  v2 : ∃ f, fV[2]? = some f ∧ f.offset = 2 ∧ f.type = tU
  v3 : ∃ f, fV[3]? = some f ∧ f.offset = 3 ∧ f.type = tS
  v4 : ∃ f, fV[4]? = some f ∧ f.offset = 4 ∧ f.type = tL
  v5 : ∃ f, fV[5]? = some f ∧ f.offset = 5 ∧ f.type = tM
  e0 : ∃ f, fE[0]? = some f ∧ f.offset = 0 ∧ f.type = tS
  e1 : ∃ f, fE[1]? = some f ∧ f.offset = 1 ∧ f.type = tV
section
variable {H : Type} {enc : TypeId × Value → H} {P : Program} {w : World} {spare : Nat → Bool} {held : Bool}
/-- A field's cells, opened. -/
theorem field {fs : Array Field} {cs : List Value} {n : Nat} {xs : List (DataW H × List MemPlace)} {i off : Nat} {t : TypeId} (hx : xs.length = fs.size)
    (h : ∀ (i : Nat) (f : Field), fs[i]? = some f → DataW.trod enc P w 0 spare held n f.type ((cs.drop f.offset).take (P.cellsOf f.type)) = xs[i]?) (hf : ∃ f, fs[i]? = some f ∧ f.offset = off ∧ f.type = t) :
    ∃ x, DataW.trod enc P w 0 spare held n t ((cs.drop off).take (P.cellsOf t)) = some x := by
  obtain ⟨f, h1, rfl, rfl⟩ := hf
  have hi : i < xs.length := by
    rw [hx]
    exact (Array.getElem?_eq_some_iff.1 h1).1
  exact ⟨xs[i], by rw [h i f h1, List.getElem?_eq_getElem hi]⟩
/-- A row that came in. -/
theorem row {t e : TypeId} {d fuel : Nat} {cs : List Value} {x : DataW H × List MemPlace} (hd : 0 < d) (ht : P.underlying t = some (.slice e)) (hc : P.cellsOf e = d) (h : DataW.trod enc P w 0 spare held fuel t cs = some x) :
    ∃ (p : Option Addr) (len cap n : Nat), cs = [.slice p len cap] ∧ len ≤ cap ∧ cap ≤ maxLen ∧ n ≤ fuel ∧ (len ≠ 0 → n < fuel) ∧ RowIn (fun _ => True) w p d len (fun _ us => ∃ y, DataW.trod enc P w 0 spare held n e us = some y) := by
  rcases DataW.trod_slice ht h with ⟨rfl, _⟩ | ⟨a, len, cap, elems, rest, n, rfl, rfl, rfl, hb, hl, hm, hlen, hel, hsp, hns⟩
  · exact ⟨none, 0, 0, 0, rfl, Nat.le_refl _, Nat.zero_le _, Nat.zero_le _, fun h => absurd rfl h, fun h => absurd rfl h⟩
  · refine ⟨some a, len, cap, n, rfl, hl, hm, Nat.le_succ _, fun _ => Nat.lt_succ_self _, fun h0 => ?_⟩
    have each : ∀ j, j < len → ∃ us : List Value, us.length = d ∧ (∀ i, i < d → w.cell? ((a.add (j * d)).add i) = us[i]?) ∧ ∃ y, DataW.trod enc P w 0 spare held n e us = some y := by
      intro j hj
      have h1 := hel j hj
      rw [List.getElem?_eq_getElem (by omega), hc, Option.bind_eq_some_iff] at h1
      obtain ⟨us, g1, g2⟩ := h1
      obtain ⟨_, g3, g4⟩ := World.cells?_some g1
      exact ⟨us, g3, g4, _, g2⟩
    have hz : ∃ v, w.cell? a = some v := by
      obtain ⟨us, g1, g2, _⟩ := each 0 (by omega)
      have g3 := g2 0 hd
      rw [List.getElem?_eq_getElem (by omega)] at g3
      refine ⟨us[0], ?_⟩
      rw [← g3]
      simp [Addr.add]
    obtain ⟨v, hv⟩ := hz
    have hspot := World.cell?_spot hv
    obtain ⟨b, off, spot⟩ := a
    have hs : spot = none := hspot
    subst hs
    have hlt : b < w.heap.size := DataW.trod_lt _ _ _ _ h (.cell b off) (List.mem_append_left _ (MemPlace.mem_row.2 ⟨0, by rw [hc]; exact Nat.mul_pos (by omega) hd, by simp⟩))
    refine ⟨b, off, rfl, trivial, hlt, fun j hj => ?_⟩
    obtain ⟨us, g1, g2, g3⟩ := each j hj
    refine ⟨us, g1, fun i hi => ?_, g3⟩
    have g4 := g2 i hi
    rw [add_plain, add_plain] at g4
    exact g4
variable {tV tE tL tM tI tN tU tS : TypeId} {fV fE : Array Field}
theorem opens (T : Typed P tV tE tL tM tI tN tU tS fV fE) : ∀ (k fuel : Nat) (cs : List Value) (x : DataW H × List MemPlace), fuel ≤ k → DataW.trod enc P w 0 spare held fuel tV cs = some x → ∃ t, LiesV (fun _ => True) k w cs t
  | 0, 0, cs, x, _, h => by simp [DataW.trod] at h
  | k + 1, fuel, cs, x, hk, h => by
    obtain ⟨xs, n, rfl, _, hlen, hxs, hf⟩ := DataW.trod_struct T.v h
    rw [T.cv] at hlen
    match cs, hlen with
    | [c0, c1, c2, c3, c4, c5], _ =>
      obtain ⟨x0, h0⟩ := field hxs hf T.v0
      obtain ⟨x1, h1⟩ := field hxs hf T.v1
      obtain ⟨x2, h2⟩ := field hxs hf T.v2
      obtain ⟨x3, h3⟩ := field hxs hf T.v3
      obtain ⟨x4, h4⟩ := field hxs hf T.v4
      obtain ⟨x5, h5⟩ := field hxs hf T.v5
      rw [T.ci] at h0
      rw [T.cn] at h1
      rw [T.cu] at h2
      rw [T.cs] at h3
      rw [T.cl] at h4
      rw [T.cm] at h5
      obtain ⟨z0, e0, _, w0⟩ := DataW.trod_int T.i h0
      obtain ⟨z1, e1, _, w1⟩ := DataW.trod_int T.n h1
      obtain ⟨z2, e2, _, w2⟩ := DataW.trod_int T.u h2
      obtain ⟨z3, e3, _, w3⟩ := DataW.trod_string T.s h3
      obtain ⟨p4, l4, a4, n4, e4, b4, m4, k4, q4, r4⟩ := row (by omega) T.l T.cv h4
      obtain ⟨p5, l5, a5, n5, e5, b5, m5, k5, q5, r5⟩ := row (by omega) T.m T.ce h5
      simp only [List.drop, List.take] at e0 e1 e2 e3 e4 e5
      injection e0 with e0
      injection e1 with e1
      injection e2 with e2
      injection e3 with e3
      injection e4 with e4
      injection e5 with e5
      subst e0 e1 e2 e3 e4 e5
      have j0 := bounds_i64 w0
      have j1 := bounds_i64 w1
      have j2 := bounds_u64 w2
      have hL : ∃ L : List V, L.length = l4 ∧ RowIn (fun _ => True) w p4 6 l4 (fun j us => ∃ y, L[j]? = some y ∧ LiesV (fun _ => True) k w us y) := by
        by_cases hz : l4 = 0
        · exact ⟨[], hz.symm, fun h => absurd hz h⟩
        · obtain ⟨B, o, hp, hok, hlt, hr⟩ := r4 hz
          obtain ⟨L, hL, hq⟩ := pick (Q := fun j y => ∃ us : List Value, us.length = 6 ∧ (∀ i, i < 6 → w.cell? ⟨B, o + j * 6 + i, none⟩ = us[i]?) ∧ LiesV (fun _ => True) k w us y) l4 (fun j hj => by
            obtain ⟨us, u1, u2, y, u3⟩ := hr j hj
            obtain ⟨t, ht⟩ := opens T k n4 us y (by omega) u3
            exact ⟨t, us, u1, u2, ht⟩)
          refine ⟨L, hL, fun _ => ⟨B, o, hp, hok, hlt, fun j hj => ?_⟩⟩
          have hj' : j < L.length := by omega
          obtain ⟨us, u1, u2, u3⟩ := hq j L[j] (List.getElem?_eq_getElem hj')
          exact ⟨us, u1, u2, L[j], List.getElem?_eq_getElem hj', u3⟩
      have hE : ∃ E : List V, E.length = l5 ∧ RowIn (fun _ => True) w p5 7 l5 (fun j us => ∃ (key : ByteArray) (y : V) (xs : List Value), E[j]? = some (ent key.data.toList y) ∧ us = .string key :: xs ∧ key.size ≤ maxLen ∧ LiesV (fun _ => True) k w xs y) := by
        by_cases hz : l5 = 0
        · exact ⟨[], hz.symm, fun h => absurd hz h⟩
        · obtain ⟨B, o, hp, hok, hlt, hr⟩ := r5 hz
          obtain ⟨E, hE, hq⟩ := pick (Q := fun j y => ∃ us : List Value, us.length = 7 ∧ (∀ i, i < 7 → w.cell? ⟨B, o + j * 7 + i, none⟩ = us[i]?) ∧ ∃ (key : ByteArray) (z : V) (xs : List Value), y = ent key.data.toList z ∧ us = .string key :: xs ∧ key.size ≤ maxLen ∧ LiesV (fun _ => True) k w xs z) l5 (fun j hj => by
            obtain ⟨us, u1, u2, y, u3⟩ := hr j hj
            obtain ⟨ys, n', hn', _, _, hys, hg⟩ := DataW.trod_struct T.e u3
            obtain ⟨y0, g0⟩ := field hys hg T.e0
            obtain ⟨y1, g1⟩ := field hys hg T.e1
            rw [T.cs] at g0
            rw [T.cv] at g1
            match us, u1 with
            | [d0, d1, d2, d3, d4, d5, d6], u1 =>
              obtain ⟨key, ek, _, wk⟩ := DataW.trod_string T.s g0
              simp only [List.drop, List.take] at ek g1
              injection ek with ek
              subst ek
              obtain ⟨t, ht⟩ := opens T k n' _ y1 (by omega) g1
              exact ⟨ent key.data.toList t, _, u1, u2, key, t, _, rfl, rfl, wk, ht⟩)
          refine ⟨E, hE, fun _ => ⟨B, o, hp, hok, hlt, fun j hj => ?_⟩⟩
          have hj' : j < E.length := by omega
          obtain ⟨us, u1, u2, key, z, xs, u3, u4, u5, u6⟩ := hq j E[j] (List.getElem?_eq_getElem hj')
          exact ⟨us, u1, u2, key, z, xs, by rw [List.getElem?_eq_getElem hj', u3], u4, u5, u6⟩
      obtain ⟨L, hL1, hL2⟩ := hL
      obtain ⟨E, hE1, hE2⟩ := hE
      subst hL1 hE1
      refine ⟨mkV (z0, z1, z2.toNat, z3.data.toList) L E, z0, z1, z2.toNat, z3, L, E, p4, p5, a4, a5, rfl, ?_, ⟨j0, j1, by omega, w3⟩, ⟨b4, m4, b5, m5⟩, hL2, hE2⟩
      rw [Int.toNat_of_nonneg j2.1]
/-- Entries that came in. -/
theorem opens_ents (T : Typed P tV tE tL tM tI tN tU tS fV fE) {k fuel : Nat} {cs : List Value} {x : DataW H × List MemPlace} (hk : fuel ≤ k) (h : DataW.trod enc P w 0 spare held fuel tM cs = some x) :
    ∃ (p : Option Addr) (cap : Nat) (E : List V), cs = [.slice p E.length cap] ∧ E.length ≤ cap ∧ cap ≤ maxLen ∧ RowIn (fun _ => True) w p 7 E.length (fun j us => ∃ (key : ByteArray) (y : V) (xs : List Value), E[j]? = some (ent key.data.toList y) ∧ us = .string key :: xs ∧ key.size ≤ maxLen ∧ LiesV (fun _ => True) k w xs y) := by
  obtain ⟨p5, l5, a5, n5, e5, b5, m5, k5, q5, r5⟩ := row (by omega) T.m T.ce h
  by_cases hz : l5 = 0
  · subst hz
    exact ⟨p5, a5, [], e5, b5, m5, fun h => absurd rfl h⟩
  · obtain ⟨B, o, hp, hok, hlt, hr⟩ := r5 hz
    obtain ⟨E, hE, hq⟩ := pick (Q := fun j y => ∃ us : List Value, us.length = 7 ∧ (∀ i, i < 7 → w.cell? ⟨B, o + j * 7 + i, none⟩ = us[i]?) ∧ ∃ (key : ByteArray) (z : V) (xs : List Value), y = ent key.data.toList z ∧ us = .string key :: xs ∧ key.size ≤ maxLen ∧ LiesV (fun _ => True) k w xs z) l5 (fun j hj => by
      obtain ⟨us, u1, u2, y, u3⟩ := hr j hj
      obtain ⟨ys, n', hn', _, _, hys, hg⟩ := DataW.trod_struct T.e u3
      obtain ⟨y0, g0⟩ := field hys hg T.e0
      obtain ⟨y1, g1⟩ := field hys hg T.e1
      rw [T.cs] at g0
      rw [T.cv] at g1
      match us, u1 with
      | [d0, d1, d2, d3, d4, d5, d6], u1 =>
        obtain ⟨key, ek, _, wk⟩ := DataW.trod_string T.s g0
        simp only [List.drop, List.take] at ek g1
        injection ek with ek
        subst ek
        obtain ⟨t, ht⟩ := opens T k n' _ y1 (by omega) g1
        exact ⟨ent key.data.toList t, _, u1, u2, key, t, _, rfl, rfl, wk, ht⟩)
    subst hE
    refine ⟨p5, a5, E, e5, b5, m5, fun _ => ⟨B, o, hp, hok, hlt, fun j hj => ?_⟩⟩
    obtain ⟨us, u1, u2, key, z, xs, u3, u4, u5, u6⟩ := hq j E[j] (List.getElem?_eq_getElem hj)
    exact ⟨us, u1, u2, key, z, xs, by rw [List.getElem?_eq_getElem hj, u3], u4, u5, u6⟩
end
end Go.Proofs.YtdpoiagnjdajbaaDoor.valus
