/- Of our texts, what this claim reaches. -/
import Derived.Test.YtadaehaemmelfaaDoorPabAG
import Derived.Test.YtadaehaemmelfaaDoorPabAF
import Derived.Test.YtadaehaemmelfaaDoorPabAA
import Derived.Test.YtadaehaemmelfaaDoorPabAC
set_option linter.unusedVariables false
namespace Go.Proofs.YtadaehaemmelfaaDoor.valus
open Go.RowKit
theorem kidsTo_get (p : Option Addr) (d k : Nat) (a : Int) (n i : Nat) (h : i < (kidsTo p d k a n).length) : (kidsTo p d k a n)[i] = kidAt p d k a i := by simp [kidsTo]
def todoS (s : List (Nd × V)) : List Nd := s.map Prod.fst
def leftS (f : Nat) (s : List (Nd × V)) : Nat := sumOf (nodesV f) (s.map Prod.snd)
theorem leftS_cons (f : Nat) (p : Nd × V) (s : List (Nd × V)) : leftS f (p :: s) = nodesV f p.2 + leftS f s := rfl
theorem leftS_append (f : Nat) (a b : List (Nd × V)) : leftS f (a ++ b) = leftS f a + leftS f b := by
 unfold leftS
 rw [List.map_append, sumOf_append]
theorem nodes_parts {f : Nat} {t : V} (h : IsV f t) : nodesV f t = sumOf (nodesV f) (parts t) + 1 := by
 rw [← nodesV_more h]
 rfl
theorem nodes_pos {f : Nat} {t : V} (h : IsV f t) : 1 ≤ nodesV f t := by
 rw [nodes_parts h]
 omega
theorem KidsN.put {M : Nat → Prop} {W : World} {x : Nd} {kids : List Nd} {l : Nat} {o : Obj} (o' : Obj) (h : KidsN M W x kids) (hl : W.heap[l]? = some o) (ho : o.isCells = false) : KidsN M (W.putObj l o') x kids := by
 obtain ⟨pL, pE, nL, cL, nE, cE, nx1, lx1, v4, v5, r⟩ := h
 have hne : x.1 ≠ l := fun e => by
  obtain ⟨o2, h2, h3⟩ := cells_of_cell v4
  simp only at h2
  rw [e, hl] at h2
  cases h2
  rw [ho] at h3
  cases h3
 refine ⟨pL, pE, nL, cL, nE, cE, nx1, by rw [World.putObj_size]; exact lx1, ?_, ?_, r⟩
 ·exact (World.cell?_of_block (World.putObj_heap_other hne)).trans v4
 ·exact (World.cell?_of_block (World.putObj_heap_other hne)).trans v5
end Go.Proofs.YtadaehaemmelfaaDoor.valus
namespace Go.Proofs.YtadaehaemmelfaaDoor.valus
open Go.RowKit Go.ChangeShapes Go.WideShapes
def sumB {H : Type} (bk : DataW H → Nat) : List (DataW H) → Nat
 | [] => 0
 | d :: r => bk d + sumB bk r
theorem sum_le {H : Type} {bk : DataW H → Nat} {q : V → Nat} : ∀ {L : List V} {es : List (DataW H × List MemPlace)}, L.length = es.length → (∀ (j : Nat) (y : V) (e : DataW H × List MemPlace), L[j]? = some y → es[j]? = some e → q y ≤ bk e.1) → sumOf q L ≤ sumB bk (es.map (·.1))
 | [], [], _, _ => Nat.le_refl _
 | y :: L, e :: es, hl, h => by
  have h0 := h 0 y e rfl rfl
  have h1 := sum_le (L := L) (es := es) (by simpa using hl) (fun j z e' hz he => h (j + 1) z e' (by simpa using hz) (by simpa using he))
  show q y + sumOf q L ≤ bk e.1 + sumB bk (es.map (·.1))
  omega
theorem sumOf_map (q : V → Nat) (g : V → V) : ∀ E : List V, sumOf q (E.map g) = sumOf (fun e => q (g e)) E
 | [] => rfl
 | e :: E => by
  show q (g e) + sumOf q (E.map g) = q (g e) + sumOf (fun e => q (g e)) E
  rw [sumOf_map q g E]
theorem le_sumB {H : Type} {bk : DataW H → Nat} : ∀ {l : List (DataW H)} {d : DataW H}, d ∈ l → bk d ≤ sumB bk l
 | x :: l, d, h => by
  show bk d ≤ bk x + sumB bk l
  rcases List.mem_cons.1 h with rfl | h
  ·omega
  ·have := le_sumB (bk := bk) h
   omega
theorem two_sumB {H : Type} {bk : DataW H → Nat} {l : List (DataW H)} {i j : Nat} {a b : DataW H} (hij : i < j) (ha : l[i]? = some a) (hb : l[j]? = some b) : bk a + bk b ≤ sumB bk l := by
 induction l generalizing i j with
 | nil => simp at ha
 | cons x l ih =>
  show bk a + bk b ≤ bk x + sumB bk l
  cases j with
  | zero => omega
  | succ j =>
   rw [List.getElem?_cons_succ] at hb
   cases i with
   | zero =>
    simp only [List.getElem?_cons_zero, Option.some.injEq] at ha
    subst ha
    have := le_sumB (bk := bk) (List.mem_of_getElem? hb)
    omega
   | succ i =>
    rw [List.getElem?_cons_succ] at ha
    have := ih (by omega) ha hb
    omega
section
variable {H : Type} {enc : TypeId × Value → H} {P : Program} {w : World} {spare : Nat → Bool} {held : Bool} {bk : DataW H → Nat}
theorem fieldB {fs : Array Field} {cs : List Value} {n : Nat} {xs : List (DataW H × List MemPlace)} {i off : Nat} {t : TypeId} (hx : xs.length = fs.size)
  (h : ∀ (i : Nat) (f : Field), fs[i]? = some f → DataW.trod enc P w 0 spare held n f.type ((cs.drop f.offset).take (P.cellsOf f.type)) = xs[i]?) (hf : ∃ f, fs[i]? = some f ∧ f.offset = off ∧ f.type = t) :
  ∃ x, xs[i]? = some x ∧ DataW.trod enc P w 0 spare held n t ((cs.drop off).take (P.cellsOf t)) = some x := by
 obtain ⟨f, h1, rfl, rfl⟩ := hf
 have hi : i < xs.length := by
  rw [hx]
  exact (Array.getElem?_eq_some_iff.1 h1).1
 exact ⟨xs[i], List.getElem?_eq_getElem hi, by rw [h i f h1, List.getElem?_eq_getElem hi]⟩
theorem rowB (hs : ∀ es sp, sumB bk es ≤ bk (.slice es sp)) {t e : TypeId} {d fuel : Nat} {cs : List Value} {x : DataW H × List MemPlace} (hd : 0 < d) (ht : P.underlying t = some (.slice e)) (hc : P.cellsOf e = d) (h : DataW.trod enc P w 0 spare held fuel t cs = some x) :
  ∃ (p : Option Addr) (len cap n : Nat) (es : List (DataW H × List MemPlace)), cs = [.slice p len cap] ∧ len ≤ cap ∧ cap ≤ maxLen ∧ n ≤ fuel ∧ (len ≠ 0 → n < fuel) ∧ es.length = len ∧ sumB bk (es.map (·.1)) ≤ bk x.1 ∧ RowIn (fun _ => True) w p d len (fun j us => ∃ y, es[j]? = some y ∧ DataW.trod enc P w 0 spare held n e us = some y) := by
 rcases DataW.trod_slice ht h with ⟨rfl, _⟩ | ⟨a, len, cap, elems, rest, n, rfl, rfl, rfl, hb, hl, hm, hlen, hel, hsp, hns⟩
 ·exact ⟨none, 0, 0, 0, [], rfl, Nat.le_refl _, Nat.zero_le _, Nat.zero_le _, fun h => absurd rfl h, rfl, Nat.zero_le _, fun h => absurd rfl h⟩
 ·refine ⟨some a, len, cap, n, elems, rfl, hl, hm, Nat.le_succ _, fun _ => Nat.lt_succ_self _, hlen, hs _ _, fun h0 => ?_⟩
  have each : ∀ j, j < len → ∃ us : List Value, us.length = d ∧ (∀ i, i < d → w.cell? ((a.add (j * d)).add i) = us[i]?) ∧ ∃ y, elems[j]? = some y ∧ DataW.trod enc P w 0 spare held n e us = some y := by
   intro j hj
   have h1 := hel j hj
   rw [List.getElem?_eq_getElem (by omega), hc, Option.bind_eq_some_iff] at h1
   obtain ⟨us, g1, g2⟩ := h1
   obtain ⟨_, g3, g4⟩ := World.cells?_some g1
   exact ⟨us, g3, g4, elems[j]'(by omega), List.getElem?_eq_getElem (by omega), g2⟩
  have hz : ∃ v, w.cell? a = some v := by
   obtain ⟨us, g1, g2, _⟩ := each 0 (by omega)
   have g3 := g2 0 hd
   rw [List.getElem?_eq_getElem (by omega)] at g3
   refine ⟨us[0], ?_⟩
   rw [← g3]
   simp [Addr.add]
  obtain ⟨v, hv⟩ := hz
  have hspot := World.cell?_spot hv
  obtain ⟨b, off, spot⟩ := a
  have hs : spot = none := hspot
  subst hs
  have hlt : b < w.heap.size := DataW.trod_lt _ _ _ _ h (.cell b off) (List.mem_append_left _ (MemPlace.mem_row.2 ⟨0, by rw [hc]; exact Nat.mul_pos (by omega) hd, by simp⟩))
  refine ⟨b, off, rfl, trivial, hlt, fun j hj => ?_⟩
  obtain ⟨us, g1, g2, g3⟩ := each j hj
  refine ⟨us, g1, fun i hi => ?_, g3⟩
  have g4 := g2 i hi
  rw [add_plain, add_plain] at g4
  exact g4
variable {tV tE tL tM tI tN tU tS : TypeId} {fV fE : Array Field}
theorem opensB (ha : ∀ ps, sumB bk ps + 1 ≤ bk (.agg ps)) (hs : ∀ es sp, sumB bk es ≤ bk (.slice es sp)) (T : Typed P tV tE tL tM tI tN tU tS fV fE) : ∀ (k fuel : Nat) (cs : List Value) (x : DataW H × List MemPlace), fuel ≤ k → DataW.trod enc P w 0 spare held fuel tV cs = some x → ∃ t, LiesV (fun _ => True) k w cs t ∧ nodesV k t ≤ bk x.1
 | 0, 0, cs, x, _, h => by simp [DataW.trod] at h
 | k + 1, fuel, cs, x, hk, h => by
  obtain ⟨xs, n, rfl, hx, hlen, hxs, hf⟩ := DataW.trod_struct T.v h
  rw [T.cv] at hlen
  match cs, hlen with
  | [c0, c1, c2, c3, c4, c5], _ =>
   obtain ⟨x0, i0, h0⟩ := fieldB hxs hf T.v0
   obtain ⟨x1, i1, h1⟩ := fieldB hxs hf T.v1
   obtain ⟨x2, i2, h2⟩ := fieldB hxs hf T.v2
   obtain ⟨x3, i3, h3⟩ := fieldB hxs hf T.v3
   obtain ⟨x4, i4, h4⟩ := fieldB hxs hf T.v4
   obtain ⟨x5, i5, h5⟩ := fieldB hxs hf T.v5
   rw [T.ci] at h0
   rw [T.cn] at h1
   rw [T.cu] at h2
   rw [T.cs] at h3
   rw [T.cl] at h4
   rw [T.cm] at h5
   obtain ⟨z0, e0, _, w0⟩ := DataW.trod_int T.i h0
   obtain ⟨z1, e1, _, w1⟩ := DataW.trod_int T.n h1
   obtain ⟨z2, e2, _, w2⟩ := DataW.trod_int T.u h2
   obtain ⟨z3, e3, _, w3⟩ := DataW.trod_string T.s h3
   obtain ⟨p4, l4, a4, n4, es4, e4, b4, m4, k4, q4, el4, sm4, r4⟩ := rowB (bk := bk) hs (by omega) T.l T.cv h4
   obtain ⟨p5, l5, a5, n5, es5, e5, b5, m5, k5, q5, el5, sm5, r5⟩ := rowB (bk := bk) hs (by omega) T.m T.ce h5
   simp only [List.drop, List.take] at e0 e1 e2 e3 e4 e5
   injection e0 with e0
   injection e1 with e1
   injection e2 with e2
   injection e3 with e3
   injection e4 with e4
   injection e5 with e5
   subst e0 e1 e2 e3 e4 e5
   have j0 := bounds_i64 w0
   have j1 := bounds_i64 w1
   have j2 := bounds_u64 w2
   have hL : ∃ L : List V, L.length = l4 ∧ sumOf (nodesV k) L ≤ bk x4.1 ∧ RowIn (fun _ => True) w p4 6 l4 (fun j us => ∃ y, L[j]? = some y ∧ LiesV (fun _ => True) k w us y) := by
    by_cases hz : l4 = 0
    ·exact ⟨[], hz.symm, Nat.zero_le _, fun h => absurd hz h⟩
    ·obtain ⟨B, o, hp, hok, hlt, hr⟩ := r4 hz
     obtain ⟨L, hL, hq⟩ := pick (Q := fun j y => ∃ us : List Value, us.length = 6 ∧ (∀ i, i < 6 → w.cell? ⟨B, o + j * 6 + i, none⟩ = us[i]?) ∧ LiesV (fun _ => True) k w us y ∧ ∃ e, es4[j]? = some e ∧ nodesV k y ≤ bk e.1) l4 (fun j hj => by
      obtain ⟨us, u1, u2, y, u5, u3⟩ := hr j hj
      obtain ⟨t, ht, hb⟩ := opensB ha hs T k n4 us y (by omega) u3
      exact ⟨t, us, u1, u2, ht, y, u5, hb⟩)
     refine ⟨L, hL, Nat.le_trans (sum_le (es := es4) (by omega) (fun j y e hy he => by
      obtain ⟨_, _, _, _, e', he', hb⟩ := hq j y hy
      rw [he] at he'
      injection he' with he'
      rw [he']
      exact hb)) sm4, fun _ => ⟨B, o, hp, hok, hlt, fun j hj => ?_⟩⟩
     have hj' : j < L.length := by omega
     obtain ⟨us, u1, u2, u3, _⟩ := hq j L[j] (List.getElem?_eq_getElem hj')
     exact ⟨us, u1, u2, L[j], List.getElem?_eq_getElem hj', u3⟩
   have hE : ∃ E : List V, E.length = l5 ∧ sumOf (fun e => nodesV k (opnE e).2) E ≤ bk x5.1 ∧ RowIn (fun _ => True) w p5 7 l5 (fun j us => ∃ (key : ByteArray) (y : V) (xs : List Value), E[j]? = some (ent key.data.toList y) ∧ us = .string key :: xs ∧ key.size ≤ maxLen ∧ LiesV (fun _ => True) k w xs y) := by
    by_cases hz : l5 = 0
    ·exact ⟨[], hz.symm, Nat.zero_le _, fun h => absurd hz h⟩
    ·obtain ⟨B, o, hp, hok, hlt, hr⟩ := r5 hz
     obtain ⟨E, hE, hq⟩ := pick (Q := fun j y => ∃ us : List Value, us.length = 7 ∧ (∀ i, i < 7 → w.cell? ⟨B, o + j * 7 + i, none⟩ = us[i]?) ∧ ∃ (key : ByteArray) (z : V) (xs : List Value), y = ent key.data.toList z ∧ us = .string key :: xs ∧ key.size ≤ maxLen ∧ LiesV (fun _ => True) k w xs z ∧ ∃ e, es5[j]? = some e ∧ nodesV k z ≤ bk e.1) l5 (fun j hj => by
      obtain ⟨us, u1, u2, y, u7, u3⟩ := hr j hj
      obtain ⟨ys, n', hn', hy', _, hys, hg⟩ := DataW.trod_struct T.e u3
      obtain ⟨y0, _, g0⟩ := fieldB hys hg T.e0
      obtain ⟨y1, iy, g1⟩ := fieldB hys hg T.e1
      rw [T.cs] at g0
      rw [T.cv] at g1
      match us, u1 with
      | [d0, d1, d2, d3, d4, d5, d6], u1 =>
       obtain ⟨key, ek, _, wk⟩ := DataW.trod_string T.s g0
       simp only [List.drop, List.take] at ek g1
       injection ek with ek
       subst ek
       obtain ⟨t, ht, hb⟩ := opensB ha hs T k n' _ y1 (by omega) g1
       exact ⟨ent key.data.toList t, _, u1, u2, key, t, _, rfl, rfl, wk, ht, y, u7, by
        rw [hy']
        have h1 := ha (ys.map (·.1))
        have h2 : bk y1.1 ≤ sumB bk (ys.map (·.1)) := le_sumB (List.mem_map.2 ⟨y1, List.mem_of_getElem? iy, rfl⟩)
        show nodesV k t ≤ bk (.agg (ys.map (·.1)))
        omega⟩)
     refine ⟨E, hE, Nat.le_trans (sum_le (es := es5) (by omega) (fun j y e hy he => by
      obtain ⟨_, _, _, key, z, xs, rfl, _, _, _, e', he', hb⟩ := hq j y hy
      rw [he] at he'
      injection he' with he'
      rw [he', opnE_ent]
      exact hb)) sm5, fun _ => ⟨B, o, hp, hok, hlt, fun j hj => ?_⟩⟩
     have hj' : j < E.length := by omega
     obtain ⟨us, u1, u2, key, z, xs, u3, u4, u5, u6, _⟩ := hq j E[j] (List.getElem?_eq_getElem hj')
     exact ⟨us, u1, u2, key, z, xs, by rw [List.getElem?_eq_getElem hj', u3], u4, u5, u6⟩
   obtain ⟨L, hL1, hL3, hL2⟩ := hL
   obtain ⟨E, hE1, hE3, hE2⟩ := hE
   subst hL1 hE1
   refine ⟨mkV (z0, z1, z2.toNat, z3.data.toList) L E, ⟨z0, z1, z2.toNat, z3, L, E, p4, p5, a4, a5, rfl, ?_, ⟨j0, j1, by omega, w3⟩, ⟨b4, m4, b5, m5⟩, hL2, hE2⟩, ?_⟩
   ·rw [Int.toNat_of_nonneg j2.1]
   ·have h1 := ha (xs.map (·.1))
    have h2 : bk x4.1 + bk x5.1 ≤ sumB bk (xs.map (·.1)) := two_sumB (i := 4) (j := 5) (by omega) (by rw [List.getElem?_map, i4]; rfl) (by rw [List.getElem?_map, i5]; rfl)
    have h3 : nodesV (k + 1) (mkV (z0, z1, z2.toNat, z3.data.toList) L E) = sumOf (nodesV k) (L ++ E.map (fun e => (opnE e).2)) + 1 := rfl
    have h4 := sumOf_map (nodesV k) (fun e => (opnE e).2) E
    rw [hx, h3, sumOf_append, h4]
    show _ ≤ bk (.agg (xs.map (·.1)))
    omega
end
end Go.Proofs.YtadaehaemmelfaaDoor.valus
