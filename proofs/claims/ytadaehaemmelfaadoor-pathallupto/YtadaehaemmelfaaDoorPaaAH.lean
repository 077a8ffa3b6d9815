/- Of our texts, what this claim reaches. -/
import Derived.Test.YtadaehaemmelfaaDoorPaaAG
import Derived.Test.YtadaehaemmelfaaDoorPaaAF
import Derived.Test.YtadaehaemmelfaaDoorPaaAA
import Derived.Test.YtadaehaemmelfaaDoorPaaAC
import Derived.Test.YtadaehaemmelfaaDoorPaaAE
set_option linter.unusedVariables false
set_option maxHeartbeats 4000000
set_option maxRecDepth 100000
namespace Go.Proofs.YtadaehaemmelfaaDoor.valus
open Go.RowKit
def At (ok : Nat → Prop) (f : Nat) (W : World) (x : Nd) (t : V) : Prop := ok x.1 ∧ x.1 < W.heap.size ∧ ∃ us : List Value, (∀ i, i < 6 → W.cell? ⟨x.1, x.2.1 + i, none⟩ = us[i]?) ∧ LiesV ok f W us t
theorem At.isV {ok : Nat → Prop} {f : Nat} {W : World} {x : Nd} {t : V} (h : At ok f W x t) : IsV f t := by
 obtain ⟨_, _, us, _, h⟩ := h
 exact h.isV
theorem kidsTo_get (p : Option Addr) (d k : Nat) (a : Int) (n i : Nat) (h : i < (kidsTo p d k a n).length) : (kidsTo p d k a n)[i] = kidAt p d k a i := by simp [kidsTo]
theorem At.kids {ok : Nat → Prop} {f : Nat} {W : World} {x : Nd} {t : V} (h : At ok f W x t) (a : Int) : ∃ (pL pE : Option Addr) (nL cL nE cE : Nat) (ks : List (Nd × V)), W.cell? ⟨x.1, x.2.1 + 4, none⟩ = some (.slice pL nL cL) ∧ W.cell? ⟨x.1, x.2.1 + 5, none⟩ = some (.slice pE nE cE) ∧
  (nL ≠ 0 → ∃ b q, pL = some ⟨b, q, none⟩) ∧ (nE ≠ 0 → ∃ b q, pE = some ⟨b, q, none⟩) ∧ ks.map Prod.fst = kidsTo pL 6 0 a nL ++ kidsTo pE 7 1 a nE ∧ ks.map Prod.snd = parts t ∧ ∀ k, k ∈ ks → At ok f W k.1 k.2 ∧ k.1.2.2 = a := by
 obtain ⟨hok, hlt, us, hus, hl⟩ := h
 cases f with
 | zero => exact hl.elim
 | succ f =>
  obtain ⟨k, n, b, s, L, E, pL, pE, cL, cE, rfl, rfl, h3, h4, hL, hE⟩ := hl
  refine ⟨pL, pE, L.length, cL, E.length, cE, (kidsTo pL 6 0 a L.length).zip L ++ (kidsTo pE 7 1 a E.length).zip (E.map fun e => (opnE e).2), hus 4 (by omega), hus 5 (by omega), fun hn => ?_, fun hn => ?_, ?_, ?_, fun q hq => ?_⟩
  ·obtain ⟨B, o, hp, _⟩ := hL hn
   exact ⟨B, o, hp⟩
  ·obtain ⟨B, o, hp, _⟩ := hE hn
   exact ⟨B, o, hp⟩
  ·rw [List.map_append, List.map_fst_zip (by rw [kidsTo_len]; exact Nat.le_refl _), List.map_fst_zip (by rw [kidsTo_len, List.length_map]; exact Nat.le_refl _)]
  ·rw [List.map_append, List.map_snd_zip (by rw [kidsTo_len]; exact Nat.le_refl _), List.map_snd_zip (by rw [kidsTo_len, List.length_map]; exact Nat.le_refl _), parts_mk]
  ·rcases List.mem_append.1 hq with hq | hq
   ·obtain ⟨j, hj, e⟩ := List.getElem_of_mem hq
    have hj0 := hj
    rw [List.length_zip, kidsTo_len, Nat.min_self] at hj0
    rw [List.getElem_zip, kidsTo_get] at e
    obtain ⟨B, o, rfl, hb, hbl, hk⟩ := hL (by omega)
    obtain ⟨vs, v1, v2, y, hy, hly⟩ := hk j hj0
    rw [List.getElem?_eq_getElem hj0] at hy
    injection hy with hy
    rw [← e]
    refine ⟨⟨hb, hbl, vs, fun i hi => ?_, ?_⟩, rfl⟩
    ·exact v2 i hi
    ·rw [hy]
     exact hly.up
   ·obtain ⟨j, hj, e⟩ := List.getElem_of_mem hq
    have hj0 := hj
    rw [List.length_zip, kidsTo_len, List.length_map, Nat.min_self] at hj0
    rw [List.getElem_zip, kidsTo_get, List.getElem_map] at e
    obtain ⟨B, o, rfl, hb, hbl, hk⟩ := hE (by omega)
    obtain ⟨vs, v1, v2, key, y, xs, hy, rfl, _, hly⟩ := hk j hj0
    rw [List.getElem?_eq_getElem hj0] at hy
    injection hy with hy
    rw [← e]
    refine ⟨⟨hb, hbl, xs, fun i hi => ?_, ?_⟩, rfl⟩
    ·have := v2 (i + 1) (by omega)
     rw [List.getElem?_cons_succ] at this
     rw [← this]
     show W.cell? ⟨B, o + j * 7 + 1 + i, none⟩ = _
     congr 2
     omega
    ·rw [hy, opnE_ent]
     exact hly.up
def todoS (s : List (Nd × V)) : List Nd := s.map Prod.fst
def leftS (f : Nat) (s : List (Nd × V)) : Nat := sumOf (nodesV f) (s.map Prod.snd)
theorem leftS_cons (f : Nat) (p : Nd × V) (s : List (Nd × V)) : leftS f (p :: s) = nodesV f p.2 + leftS f s := rfl
theorem leftS_append (f : Nat) (a b : List (Nd × V)) : leftS f (a ++ b) = leftS f a + leftS f b := by
 unfold leftS
 rw [List.map_append, sumOf_append]
theorem nodes_parts {f : Nat} {t : V} (h : IsV f t) : nodesV f t = sumOf (nodesV f) (parts t) + 1 := by
 rw [← nodesV_more h]
 rfl
theorem nodes_pos {f : Nat} {t : V} (h : IsV f t) : 1 ≤ nodesV f t := by
 rw [nodes_parts h]
 omega
structure Still (n1 : Nat) (C : Nat → Prop) (f : Nat) (Wb : World) (M : Nat → Prop) (s : List (Nd × V)) (W : World) : Prop where
 mine : ∀ b, M b → n1 ≤ b
 base : n1 ≤ Wb.heap.size
 turn : Turns (fun b => C b ∨ n1 ≤ b) Wb W
 lies : ∀ p, p ∈ s → At (fun b => b < n1 ∧ ¬ C b) f Wb p.1 p.2
theorem Still.abides {n1 : Nat} {C : Nat → Prop} {f : Nat} {Wb : World} {M M' : Nat → Prop} {s : List (Nd × V)} {W W' : World} (h : Still n1 C f Wb M s W) (ht : Turns (fun b => M b ∨ (n1 ≤ b ∧ ∃ o : Obj, W.heap[b]? = some o ∧ o.isCells = false)) W W') (hm : ∀ b, M' b → M b ∨ W.heap.size ≤ b) : Still n1 C f Wb M' s W' := by
 have hs := h.turn.size
 have hb := h.base
 refine ⟨fun b hb' => (hm b hb').elim (h.mine b) (fun h => by omega), hb, h.turn.trans ht (fun b _ hb => hb.elim (fun h' => .inr (h.mine b h')) (fun h' => .inr h'.1)), h.lies⟩
theorem Still.box {n1 : Nat} {C : Nat → Prop} {f : Nat} {Wb : World} {M : Nat → Prop} {s : List (Nd × V)} {W W' : World} {B : Nat} {t : TypeId} {v : Value} (h : Still n1 C f Wb M s W) (hB : B < n1) (hb : Boxed W B t v) (ht : Turns (fun b => M b ∨ (n1 ≤ b ∧ ∃ o : Obj, W.heap[b]? = some o ∧ o.isCells = false)) W W') : Boxed W' B t v := by
 refine (ht.block B hb.lt (fun hx => ?_)).trans hb
 rcases hx with hx | hx
 ·have := h.mine B hx
  omega
 ·omega
theorem Still.round {n1 : Nat} {C : Nat → Prop} {f : Nat} {Wb : World} {M : Nat → Prop} {s : List (Nd × V)} {W W' : World} (h : Still n1 C f Wb M s W) (ht : Turns (fun b => C b ∨ n1 ≤ b) W W') : Still n1 C f Wb M s W' :=
 ⟨h.mine, h.base, h.turn.trans ht (fun b _ h => h), h.lies⟩
theorem Still.next {n1 : Nat} {C : Nat → Prop} {f : Nat} {Wb : World} {M : Nat → Prop} {p : Nd × V} {s : List (Nd × V)} {W : World} (h : Still n1 C f Wb M (p :: s) W) : ∃ ks : List (Nd × V), KidsN M W p.1 (ks.map Prod.fst) ∧ ks.map Prod.snd = parts p.2 ∧ Still n1 C f Wb M (ks ++ s) W ∧ (∀ k, k ∈ ks → k.1.2.2 = IntKind.i64.wrap (p.1.2.2 + 1)) ∧ leftS f (ks ++ s) + 1 = leftS f (p :: s) := by
 have hp := h.lies p (by simp)
 obtain ⟨pL, pE, nL, cL, nE, cE, ks, c4, c5, hL, hE, hf, hsnd, hk⟩ := hp.kids (IntKind.i64.wrap (p.1.2.2 + 1))
 have hx := hp.1
 have hlt := hp.2.1
 have hs := h.turn.size
 refine ⟨ks, ⟨pL, pE, nL, cL, nE, cE, fun hm => ?_, by omega, ?_, ?_, hL, hE, hf⟩, hsnd, ⟨h.mine, h.base, h.turn, fun q hq => ?_⟩, fun k hk' => (hk k hk').2, ?_⟩
 ·have := h.mine _ hm
  omega
 ·exact (h.turn.cell (p := ⟨p.1.1, p.1.2.1 + 4, none⟩) hlt (fun hx' => hx'.elim hx.2 (fun h' => by simp only at h'; omega))).trans c4
 ·exact (h.turn.cell (p := ⟨p.1.1, p.1.2.1 + 5, none⟩) hlt (fun hx' => hx'.elim hx.2 (fun h' => by simp only at h'; omega))).trans c5
 ·rcases List.mem_append.1 hq with hq | hq
  ·exact (hk q hq).1
  ·exact h.lies q (by simp [hq])
 ·rw [leftS_append, leftS_cons, nodes_parts hp.isV, leftS, hsnd]
  omega
theorem still_start {n1 : Nat} {C M : Nat → Prop} {f B : Nat} {w Wb W2 : World} {us : List Value} {t : V} (hl : LiesV (fun b => b < w.heap.size) f w us t) (hb : Below w.heap.size w Wb) (hB : ∀ i, i < 6 → Wb.cell? ⟨B, 0 + i, none⟩ = us[i]?) (hBn : B < n1) (hCB : ¬ C B) (hw : w.heap.size ≤ n1) (hC : ∀ b, b < w.heap.size → ¬ C b) (hn1 : n1 ≤ Wb.heap.size) (hM : ∀ b, M b → n1 ≤ b)
  (ht : Turns (fun b => C b ∨ n1 ≤ b) Wb W2) : Still n1 C f Wb M [((B, 0, 0), t)] W2 :=
 ⟨hM, hn1, ht, fun p hp => by
  rw [List.mem_singleton.1 hp]
  exact ⟨⟨hBn, hCB⟩, by simp only; omega, us, hB, hl.kept (fun b h => ⟨by omega, hC b h⟩) hb.size (fun b h _ => hb.block b h)⟩⟩
theorem KidsN.put {M : Nat → Prop} {W : World} {x : Nd} {kids : List Nd} {l : Nat} {o : Obj} (o' : Obj) (h : KidsN M W x kids) (hl : W.heap[l]? = some o) (ho : o.isCells = false) : KidsN M (W.putObj l o') x kids := by
 obtain ⟨pL, pE, nL, cL, nE, cE, nx1, lx1, v4, v5, r⟩ := h
 have hne : x.1 ≠ l := fun e => by
  obtain ⟨o2, h2, h3⟩ := cells_of_cell v4
  simp only at h2
  rw [e, hl] at h2
  cases h2
  rw [ho] at h3
  cases h3
 refine ⟨pL, pE, nL, cL, nE, cE, nx1, by rw [World.putObj_size]; exact lx1, ?_, ?_, r⟩
 ·exact (World.cell?_of_block (World.putObj_heap_other hne)).trans v4
 ·exact (World.cell?_of_block (World.putObj_heap_other hne)).trans v5
theorem todo_len {f n1 : Nat} {C M : Nat → Prop} {Wb W : World} : ∀ {s : List (Nd × V)}, Still n1 C f Wb M s W → (todoS s).length ≤ leftS f s
 | [], _ => Nat.zero_le _
 | p :: s, h => by
  have := todo_len (s := s) ⟨h.mine, h.base, h.turn, fun q hq => h.lies q (by simp [hq])⟩
  have := nodes_pos (h.lies p (by simp)).isV
  rw [leftS_cons]
  simp only [todoS, List.map_cons, List.length_cons] at *
  omega
end Go.Proofs.YtadaehaemmelfaaDoor.valus
namespace Go.Proofs.YtadaehaemmelfaaDoor.valus
open Go.RowKit Go.ChangeShapes Go.WideShapes
def sumB {H : Type} (bk : DataW H → Nat) : List (DataW H) → Nat
 | [] => 0
 | d :: r => bk d + sumB bk r
theorem sum_le {H : Type} {bk : DataW H → Nat} {q : V → Nat} : ∀ {L : List V} {es : List (DataW H × List MemPlace)}, L.length = es.length → (∀ (j : Nat) (y : V) (e : DataW H × List MemPlace), L[j]? = some y → es[j]? = some e → q y ≤ bk e.1) → sumOf q L ≤ sumB bk (es.map (·.1))
 | [], [], _, _ => Nat.le_refl _
 | y :: L, e :: es, hl, h => by
  have h0 := h 0 y e rfl rfl
  have h1 := sum_le (L := L) (es := es) (by simpa using hl) (fun j z e' hz he => h (j + 1) z e' (by simpa using hz) (by simpa using he))
  show q y + sumOf q L ≤ bk e.1 + sumB bk (es.map (·.1))
  omega
theorem sumOf_map (q : V → Nat) (g : V → V) : ∀ E : List V, sumOf q (E.map g) = sumOf (fun e => q (g e)) E
 | [] => rfl
 | e :: E => by
  show q (g e) + sumOf q (E.map g) = q (g e) + sumOf (fun e => q (g e)) E
  rw [sumOf_map q g E]
theorem le_sumB {H : Type} {bk : DataW H → Nat} : ∀ {l : List (DataW H)} {d : DataW H}, d ∈ l → bk d ≤ sumB bk l
 | x :: l, d, h => by
  show bk d ≤ bk x + sumB bk l
  rcases List.mem_cons.1 h with rfl | h
  ·omega
  ·have := le_sumB (bk := bk) h
   omega
theorem two_sumB {H : Type} {bk : DataW H → Nat} {l : List (DataW H)} {i j : Nat} {a b : DataW H} (hij : i < j) (ha : l[i]? = some a) (hb : l[j]? = some b) : bk a + bk b ≤ sumB bk l := by
 induction l generalizing i j with
 | nil => simp at ha
 | cons x l ih =>
  show bk a + bk b ≤ bk x + sumB bk l
  cases j with
  | zero => omega
  | succ j =>
   rw [List.getElem?_cons_succ] at hb
   cases i with
   | zero =>
    simp only [List.getElem?_cons_zero, Option.some.injEq] at ha
    subst ha
    have := le_sumB (bk := bk) (List.mem_of_getElem? hb)
    omega
   | succ i =>
    rw [List.getElem?_cons_succ] at ha
    have := ih (by omega) ha hb
    omega
section
variable {H : Type} {enc : TypeId × Value → H} {P : Program} {w : World} {spare : Nat → Bool} {held : Bool} {bk : DataW H → Nat}
theorem fieldB {fs : Array Field} {cs : List Value} {n : Nat} {xs : List (DataW H × List MemPlace)} {i off : Nat} {t : TypeId} (hx : xs.length = fs.size)
  (h : ∀ (i : Nat) (f : Field), fs[i]? = some f → DataW.trod enc P w 0 spare held n f.type ((cs.drop f.offset).take (P.cellsOf f.type)) = xs[i]?) (hf : ∃ f, fs[i]? = some f ∧ f.offset = off ∧ f.type = t) :
  ∃ x, xs[i]? = some x ∧ DataW.trod enc P w 0 spare held n t ((cs.drop off).take (P.cellsOf t)) = some x := by
 obtain ⟨f, h1, rfl, rfl⟩ := hf
 have hi : i < xs.length := by
  rw [hx]
  exact (Array.getElem?_eq_some_iff.1 h1).1
 exact ⟨xs[i], List.getElem?_eq_getElem hi, by rw [h i f h1, List.getElem?_eq_getElem hi]⟩
theorem rowB (hs : ∀ es sp, sumB bk es ≤ bk (.slice es sp)) {t e : TypeId} {d fuel : Nat} {cs : List Value} {x : DataW H × List MemPlace} (hd : 0 < d) (ht : P.underlying t = some (.slice e)) (hc : P.cellsOf e = d) (h : DataW.trod enc P w 0 spare held fuel t cs = some x) :
  ∃ (p : Option Addr) (len cap n : Nat) (es : List (DataW H × List MemPlace)), cs = [.slice p len cap] ∧ len ≤ cap ∧ cap ≤ maxLen ∧ n ≤ fuel ∧ (len ≠ 0 → n < fuel) ∧ es.length = len ∧ sumB bk (es.map (·.1)) ≤ bk x.1 ∧ RowIn (fun _ => True) w p d len (fun j us => ∃ y, es[j]? = some y ∧ DataW.trod enc P w 0 spare held n e us = some y) := by
 rcases DataW.trod_slice ht h with ⟨rfl, _⟩ | ⟨a, len, cap, elems, rest, n, rfl, rfl, rfl, hb, hl, hm, hlen, hel, hsp, hns⟩
 ·exact ⟨none, 0, 0, 0, [], rfl, Nat.le_refl _, Nat.zero_le _, Nat.zero_le _, fun h => absurd rfl h, rfl, Nat.zero_le _, fun h => absurd rfl h⟩
 ·refine ⟨some a, len, cap, n, elems, rfl, hl, hm, Nat.le_succ _, fun _ => Nat.lt_succ_self _, hlen, hs _ _, fun h0 => ?_⟩
  have each : ∀ j, j < len → ∃ us : List Value, us.length = d ∧ (∀ i, i < d → w.cell? ((a.add (j * d)).add i) = us[i]?) ∧ ∃ y, elems[j]? = some y ∧ DataW.trod enc P w 0 spare held n e us = some y := by
   intro j hj
   have h1 := hel j hj
   rw [List.getElem?_eq_getElem (by omega), hc, Option.bind_eq_some_iff] at h1
   obtain ⟨us, g1, g2⟩ := h1
   obtain ⟨_, g3, g4⟩ := World.cells?_some g1
   exact ⟨us, g3, g4, elems[j]'(by omega), List.getElem?_eq_getElem (by omega), g2⟩
  have hz : ∃ v, w.cell? a = some v := by
   obtain ⟨us, g1, g2, _⟩ := each 0 (by omega)
   have g3 := g2 0 hd
   rw [List.getElem?_eq_getElem (by omega)] at g3
   refine ⟨us[0], ?_⟩
   rw [← g3]
   simp [Addr.add]
  obtain ⟨v, hv⟩ := hz
  have hspot := World.cell?_spot hv
  obtain ⟨b, off, spot⟩ := a
  have hs : spot = none := hspot
  subst hs
  have hlt : b < w.heap.size := DataW.trod_lt _ _ _ _ h (.cell b off) (List.mem_append_left _ (MemPlace.mem_row.2 ⟨0, by rw [hc]; exact Nat.mul_pos (by omega) hd, by simp⟩))
  refine ⟨b, off, rfl, trivial, hlt, fun j hj => ?_⟩
  obtain ⟨us, g1, g2, g3⟩ := each j hj
  refine ⟨us, g1, fun i hi => ?_, g3⟩
  have g4 := g2 i hi
  rw [add_plain, add_plain] at g4
  exact g4
variable {tV tE tL tM tI tN tU tS : TypeId} {fV fE : Array Field}
theorem opensB (ha : ∀ ps, sumB bk ps + 1 ≤ bk (.agg ps)) (hs : ∀ es sp, sumB bk es ≤ bk (.slice es sp)) (T : Typed P tV tE tL tM tI tN tU tS fV fE) : ∀ (k fuel : Nat) (cs : List Value) (x : DataW H × List MemPlace), fuel ≤ k → DataW.trod enc P w 0 spare held fuel tV cs = some x → ∃ t, LiesV (fun _ => True) k w cs t ∧ nodesV k t ≤ bk x.1
 | 0, 0, cs, x, _, h => by simp [DataW.trod] at h
 | k + 1, fuel, cs, x, hk, h => by
  obtain ⟨xs, n, rfl, hx, hlen, hxs, hf⟩ := DataW.trod_struct T.v h
  rw [T.cv] at hlen
  match cs, hlen with
  | [c0, c1, c2, c3, c4, c5], _ =>
   obtain ⟨x0, i0, h0⟩ := fieldB hxs hf T.v0
   obtain ⟨x1, i1, h1⟩ := fieldB hxs hf T.v1
   obtain ⟨x2, i2, h2⟩ := fieldB hxs hf T.v2
   obtain ⟨x3, i3, h3⟩ := fieldB hxs hf T.v3
   obtain ⟨x4, i4, h4⟩ := fieldB hxs hf T.v4
   obtain ⟨x5, i5, h5⟩ := fieldB hxs hf T.v5
   rw [T.ci] at h0
   rw [T.cn] at h1
   rw [T.cu] at h2
   rw [T.cs] at h3
   rw [T.cl] at h4
   rw [T.cm] at h5
   obtain ⟨z0, e0, _, w0⟩ := DataW.trod_int T.i h0
   obtain ⟨z1, e1, _, w1⟩ := DataW.trod_int T.n h1
   obtain ⟨z2, e2, _, w2⟩ := DataW.trod_int T.u h2
   obtain ⟨z3, e3, _, w3⟩ := DataW.trod_string T.s h3
   obtain ⟨p4, l4, a4, n4, es4, e4, b4, m4, k4, q4, el4, sm4, r4⟩ := rowB (bk := bk) hs (by omega) T.l T.cv h4
   obtain ⟨p5, l5, a5, n5, es5, e5, b5, m5, k5, q5, el5, sm5, r5⟩ := rowB (bk := bk) hs (by omega) T.m T.ce h5
   simp only [List.drop, List.take] at e0 e1 e2 e3 e4 e5
   injection e0 with e0
   injection e1 with e1
   injection e2 with e2
   injection e3 with e3
   injection e4 with e4
   injection e5 with e5
   subst e0 e1 e2 e3 e4 e5
   have j0 := bounds_i64 w0
   have j1 := bounds_i64 w1
   have j2 := bounds_u64 w2
   have hL : ∃ L : List V, L.length = l4 ∧ sumOf (nodesV k) L ≤ bk x4.1 ∧ RowIn (fun _ => True) w p4 6 l4 (fun j us => ∃ y, L[j]? = some y ∧ LiesV (fun _ => True) k w us y) := by
    by_cases hz : l4 = 0
    ·exact ⟨[], hz.symm, Nat.zero_le _, fun h => absurd hz h⟩
    ·obtain ⟨B, o, hp, hok, hlt, hr⟩ := r4 hz
     obtain ⟨L, hL, hq⟩ := pick (Q := fun j y => ∃ us : List Value, us.length = 6 ∧ (∀ i, i < 6 → w.cell? ⟨B, o + j * 6 + i, none⟩ = us[i]?) ∧ LiesV (fun _ => True) k w us y ∧ ∃ e, es4[j]? = some e ∧ nodesV k y ≤ bk e.1) l4 (fun j hj => by
      obtain ⟨us, u1, u2, y, u5, u3⟩ := hr j hj
      obtain ⟨t, ht, hb⟩ := opensB ha hs T k n4 us y (by omega) u3
      exact ⟨t, us, u1, u2, ht, y, u5, hb⟩)
     refine ⟨L, hL, Nat.le_trans (sum_le (es := es4) (by omega) (fun j y e hy he => by
      obtain ⟨_, _, _, _, e', he', hb⟩ := hq j y hy
      rw [he] at he'
      injection he' with he'
      rw [he']
      exact hb)) sm4, fun _ => ⟨B, o, hp, hok, hlt, fun j hj => ?_⟩⟩
     have hj' : j < L.length := by omega
     obtain ⟨us, u1, u2, u3, _⟩ := hq j L[j] (List.getElem?_eq_getElem hj')
     exact ⟨us, u1, u2, L[j], List.getElem?_eq_getElem hj', u3⟩
   have hE : ∃ E : List V, E.length = l5 ∧ sumOf (fun e => nodesV k (opnE e).2) E ≤ bk x5.1 ∧ RowIn (fun _ => True) w p5 7 l5 (fun j us => ∃ (key : ByteArray) (y : V) (xs : List Value), E[j]? = some (ent key.data.toList y) ∧ us = .string key :: xs ∧ key.size ≤ maxLen ∧ LiesV (fun _ => True) k w xs y) := by
    by_cases hz : l5 = 0
    ·exact ⟨[], hz.symm, Nat.zero_le _, fun h => absurd hz h⟩
    ·obtain ⟨B, o, hp, hok, hlt, hr⟩ := r5 hz
     obtain ⟨E, hE, hq⟩ := pick (Q := fun j y => ∃ us : List Value, us.length = 7 ∧ (∀ i, i < 7 → w.cell? ⟨B, o + j * 7 + i, none⟩ = us[i]?) ∧ ∃ (key : ByteArray) (z : V) (xs : List Value), y = ent key.data.toList z ∧ us = .string key :: xs ∧ key.size ≤ maxLen ∧ LiesV (fun _ => True) k w xs z ∧ ∃ e, es5[j]? = some e ∧ nodesV k z ≤ bk e.1) l5 (fun j hj => by
      obtain ⟨us, u1, u2, y, u7, u3⟩ := hr j hj
      obtain ⟨ys, n', hn', hy', _, hys, hg⟩ := DataW.trod_struct T.e u3
      obtain ⟨y0, _, g0⟩ := fieldB hys hg T.e0
      obtain ⟨y1, iy, g1⟩ := fieldB hys hg T.e1
      rw [T.cs] at g0
      rw [T.cv] at g1
      match us, u1 with
      | [d0, d1, d2, d3, d4, d5, d6], u1 =>
       obtain ⟨key, ek, _, wk⟩ := DataW.trod_string T.s g0
       simp only [List.drop, List.take] at ek g1
       injection ek with ek
       subst ek
       obtain ⟨t, ht, hb⟩ := opensB ha hs T k n' _ y1 (by omega) g1
       exact ⟨ent key.data.toList t, _, u1, u2, key, t, _, rfl, rfl, wk, ht, y, u7, by
        rw [hy']
        have h1 := ha (ys.map (·.1))
        have h2 : bk y1.1 ≤ sumB bk (ys.map (·.1)) := le_sumB (List.mem_map.2 ⟨y1, List.mem_of_getElem? iy, rfl⟩)
        show nodesV k t ≤ bk (.agg (ys.map (·.1)))
        omega⟩)
     refine ⟨E, hE, Nat.le_trans (sum_le (es := es5) (by omega) (fun j y e hy he => by
      obtain ⟨_, _, _, key, z, xs, rfl, _, _, _, e', he', hb⟩ := hq j y hy
      rw [he] at he'
      injection he' with he'
      rw [he', opnE_ent]
      exact hb)) sm5, fun _ => ⟨B, o, hp, hok, hlt, fun j hj => ?_⟩⟩
     have hj' : j < E.length := by omega
     obtain ⟨us, u1, u2, key, z, xs, u3, u4, u5, u6, _⟩ := hq j E[j] (List.getElem?_eq_getElem hj')
     exact ⟨us, u1, u2, key, z, xs, by rw [List.getElem?_eq_getElem hj', u3], u4, u5, u6⟩
   obtain ⟨L, hL1, hL3, hL2⟩ := hL
   obtain ⟨E, hE1, hE3, hE2⟩ := hE
   subst hL1 hE1
   refine ⟨mkV (z0, z1, z2.toNat, z3.data.toList) L E, ⟨z0, z1, z2.toNat, z3, L, E, p4, p5, a4, a5, rfl, ?_, ⟨j0, j1, by omega, w3⟩, ⟨b4, m4, b5, m5⟩, hL2, hE2⟩, ?_⟩
   ·rw [Int.toNat_of_nonneg j2.1]
   ·have h1 := ha (xs.map (·.1))
    have h2 : bk x4.1 + bk x5.1 ≤ sumB bk (xs.map (·.1)) := two_sumB (i := 4) (j := 5) (by omega) (by rw [List.getElem?_map, i4]; rfl) (by rw [List.getElem?_map, i5]; rfl)
    have h3 : nodesV (k + 1) (mkV (z0, z1, z2.toNat, z3.data.toList) L E) = sumOf (nodesV k) (L ++ E.map (fun e => (opnE e).2)) + 1 := rfl
    have h4 := sumOf_map (nodesV k) (fun e => (opnE e).2) E
    rw [hx, h3, sumOf_append, h4]
    show _ ≤ bk (.agg (xs.map (·.1)))
    omega
end
end Go.Proofs.YtadaehaemmelfaaDoor.valus
namespace Go.Proofs.YtadaehaemmelfaaDoor.valus
open Go.RowKit Go.Shelf
attribute [local go_sem] Oper.semAt_some
theorem walkN_any (B o : Nat) (w : World) :
  CallsIn Fence.wide 7 Tryd.prog 55 #[.agg #[.pointer (some ⟨B, o, none⟩), .int .i64 0], .func (.func 56) #[] #[]] w fun e w' => e = .returned (.func (.func 71) #[] #[.pointer (some ⟨w.heap.size, 0, none⟩), .pointer (some ⟨w.heap.size + 1, 0, none⟩)]) ∧
   w' = (w.alloc (.cells #[.pointer (some ⟨B, o, none⟩), .int .i64 0] 77)).alloc (.cells #[.func (.func 56) #[] #[]] 107) := by
 refine callsIn_of_wp Tryd.func55 rfl trivial ?_ rfl
 simp only [Tryd.ntmps55, List.size_toArray, List.length_cons, List.length_nil, Nat.reduceAdd, Nat.reduceSub, Array.replicate_succ, Array.replicate_zero, List.push_toArray, List.append_toArray, List.nil_append, List.cons_append]
 gi_wp2
 go_ret
 exact ⟨rfl, rfl⟩
theorem nodesN_any (B o : Nat) (w : World) :
  CallsIn Fence.wide 8 Tryd.prog 37 #[.pointer (some ⟨B, o, none⟩)] w fun e w' => e = .returned (.func (.func 71) #[] #[.pointer (some ⟨w.heap.size, 0, none⟩), .pointer (some ⟨w.heap.size + 1, 0, none⟩)]) ∧
   w' = (w.alloc (.cells #[.pointer (some ⟨B, o, none⟩), .int .i64 0] 77)).alloc (.cells #[.func (.func 56) #[] #[]] 107) := by
 refine callsIn_of_wp Tryd.func37 rfl trivial ?_ rfl
 simp only [Tryd.ntmps37, List.size_toArray, List.length_cons, List.length_nil, Nat.reduceAdd, Nat.reduceSub, Array.replicate_succ, Array.replicate_zero, List.push_toArray, List.append_toArray, List.nil_append, List.cons_append]
 gi_wp2_with (refine ⟨trivial, ?_⟩; gi_at_call 55; refine (walkN_any B o w).mono ?_; rintro e w' ⟨rfl, rfl⟩)
 go_ret
 exact ⟨rfl, rfl⟩
theorem nodes_any (f : Nat) (w : World) (t : V) (a0 a1 a2 a3 a4 a5 : Value) (hl : LiesV (fun b => b < w.heap.size) f w [a0, a1, a2, a3, a4, a5] t) (hn : nodesV f t ≤ 10000000) :
  CallsIn Fence.wide 9 Tryd.prog 17 #[.agg #[a0, a1, a2, a3, a4, a5]] w fun e w' => e = .returned (.int .i64 (nodesV f t : Int)) ∧ Below w.heap.size w w' := by
 obtain ⟨k, n, b, s, pL, nL, cL, pE, nE, cE, rfl, rfl, rfl, rfl, rfl, rfl⟩ := hl.form
 refine callsIn_of_wp_marks Tryd.func17 rfl trivial ?_ rfl
 simp only [Tryd.ntmps17, List.size_toArray, List.length_cons, List.length_nil, Nat.reduceAdd, Nat.reduceSub, Array.replicate_succ, Array.replicate_zero, List.push_toArray, List.append_toArray, List.nil_append, List.cons_append]
 gi_wp2
 obtain ⟨Wb, hWb⟩ : ∃ Wb, Wb = (w.alloc (.cells #[.int .i64 k, .int .i64 n, .int .u64 (b : Int), .string s, .slice pL nL cL, .slice pE nE cE] 26)).alloc (.cells #[.int .i64 0] 3) := ⟨_, rfl⟩
 rw [← hWb]
 have sb : Wb.heap.size = w.heap.size + 2 := by rw [hWb]; simp
 have tb : Below w.heap.size w Wb := by rw [hWb]; exact ((Below.refl _ w).alloc (Nat.le_refl _) _).alloc (by simp) _
 have vb : Blk Wb w.heap.size #[.int .i64 k, .int .i64 n, .int .u64 (b : Int), .string s, .slice pL nL cL, .slice pE nE cE] 26 := by rw [hWb]; exact (blk_alloc w _ _).alloc _
 have cb : Boxed Wb (w.heap.size + 1) 3 (.int .i64 0) := by
  rw [hWb]
  have := Boxed.new (w.alloc (.cells #[.int .i64 k, .int .i64 n, .int .u64 (b : Int), .string s, .slice pL nL cL, .slice pE nE cE] 26)) 3 (.int .i64 0)
  rwa [World.size_alloc] at this
 clear hWb
 refine ⟨trivial, (nodesN_any _ _ _).mono ?_⟩
 rintro e w' ⟨rfl, rfl⟩
 gi_wp2
 obtain ⟨W2, hW2⟩ : ∃ W2, W2 = (Wb.alloc (.cells #[.pointer (some ⟨w.heap.size, 0, none⟩), .int .i64 0] 77)).alloc (.cells #[.func (.func 56) #[] #[]] 107) := ⟨_, rfl⟩
 rw [← hW2]
 have s2 : W2.heap.size = Wb.heap.size + 2 := by rw [hW2]; simp
 have t2 : Turns (fun _ => False) Wb W2 := by rw [hW2]; exact (Turns.alloc _ _ _).trans (Turns.alloc (fun _ => False) _ _) (fun _ _ h => h)
 have x1 : W2.heap[w.heap.size + 2]? = some (.cells #[.pointer (some ⟨w.heap.size, 0, none⟩), .int .i64 0] 77) := by rw [← sb, hW2]; exact (blk_alloc Wb _ _).alloc _
 have x2 : W2.heap[w.heap.size + 2 + 1]? = some (.cells #[.func (.func 56) #[] #[]] 107) := by
  rw [← sb, hW2]
  have := blk_alloc (Wb.alloc (.cells #[.pointer (some ⟨w.heap.size, 0, none⟩), .int .i64 0] 77)) #[.func (.func 56) #[] #[]] 107
  rwa [World.size_alloc] at this
 clear hW2
 refine wpIn_range_walk (lb := #[.pointer (some ⟨w.heap.size + 2, 0, none⟩), .pointer (some ⟨w.heap.size + 2 + 1, 0, none⟩)]) rfl (enters_of Tryd.func71 (by kernel_rfl) rfl)
  (walkN_in (w.heap.size + 2) (w.heap.size + 2 + 1) (w.heap.size, 0, 0) todoS (leftS f) W2 x1 x2) (Below.refl _ _) rfl (fun M W x kids l o o' h _ h2 h3 => h.put o' h2 h3)
  (w.heap.size + 2) (by omega)
  (fun M st W => Still (w.heap.size + 2) (fun b => b = w.heap.size + 1) f Wb M st W ∧ leftS f st ≤ nodesV f t ∧ Boxed W (w.heap.size + 1) 3 (.int .i64 ((nodesV f t - leftS f st : Nat) : Int)))
  (fun _ _ _ _ => False) ?ab (fun c M M' s W W' h _ _ => h) [((w.heap.size, 0, 0), t)] rfl (fun b h => by omega) ?start (fun M st X h => by have := todo_len h.1; omega)
  (fun x a' W => a' = { tmps := #[.agg #[.int .i64 k, .int .i64 n, .int .u64 (b : Int), .string s, .slice pL nL cL, .slice pE nE cE], .pointer (some ⟨w.heap.size, 0, none⟩), .int .i64 0, .pointer (some ⟨w.heap.size + 1, 0, none⟩), .func (.func 71) #[] #[.pointer (some ⟨w.heap.size + 2, 0, none⟩), .pointer (some ⟨w.heap.size + 2 + 1, 0, none⟩)], encN x, undef, undef, undef], defers := [] })
  (fun x a' W l o o' h _ _ => h) ?assign ?body ?done (fun D c M W _ h _ => h.elim)
 case ab =>
  rintro M M' st A B ⟨hS, hle, hbx⟩ ht hm
  exact ⟨hS.abides ht hm, hle, hS.box (by omega) hbx ht⟩
 case start =>
  have e0 : leftS f [((w.heap.size, 0, 0), t)] = nodesV f t := by rw [leftS_cons]; rfl
  refine ⟨still_start hl tb (fun i hi => ?_) (by omega) (by omega) (by omega) (fun b hb => by omega) (by omega) (fun b hb => by omega) (t2.mono fun _ _ h => h.elim), by rw [e0]; exact Nat.le_refl _, ?_⟩
  ·rw [Nat.zero_add]
   match i, hi with
   | 0, _ => exact vb.cell 0 _ rfl
   | 1, _ => exact vb.cell 1 _ rfl
   | 2, _ => exact vb.cell 2 _ rfl
   | 3, _ => exact vb.cell 3 _ rfl
   | 4, _ => exact vb.cell 4 _ rfl
   | 5, _ => exact vb.cell 5 _ rfl
  ·rw [e0, Nat.sub_self]
   exact (t2.block _ cb.lt (fun h => h)).trans cb
 case assign =>
  intro l x W K hK
  gi_wp2
  exact hK _ _ (Turns.refl _ _) (by simp)
 case body =>
  rintro l M st x rest a' W hlw ⟨r, hr⟩ rfl ⟨hS, hle, hbx⟩ hM ht
  cases st with
  | nil => cases ht
  | cons p st =>
   simp only [todoS, List.map_cons, List.cons.injEq] at ht
   obtain ⟨rfl, rfl⟩ := ht
   have c1 := hbx.cell
   have f1 := hbx.frozen
   gi_wp2
   obtain ⟨c, hc⟩ : ∃ c : Value, c = Value.int IntKind.i64 (((nodesV f t - leftS f (p :: st) : Nat) : Int) + 1) := ⟨_, rfl⟩
   rw [← hc]
   have hS1 := hS.round (W' := W.setCell ⟨w.heap.size + 1, 0, none⟩ c) (Turns.setCell _ _ _ (.inl rfl))
   obtain ⟨ks, hkd, hks, hS2, _, hleft⟩ := hS1.next
   refine ⟨⟨(KeepsOthers.setCell _ _ _).from _, Turns.setCell (M := fun b => ¬ M b) _ _ _ (fun hm => by have : w.heap.size + 2 ≤ w.heap.size + 1 := hS.mine _ hm; omega)⟩, ks ++ st, ks.map Prod.fst, ⟨hS2, by omega, ?_⟩, by simp [todoS], by omega, hkd⟩
   have e1 : ((nodesV f t - leftS f (ks ++ st) : Nat) : Int) = ((nodesV f t - leftS f (p :: st) : Nat) : Int) + 1 := by omega
   rw [e1, ← hc]
   exact hbx.set c
 case done =>
  rintro D M st W hD ht ⟨hS, hle, hbx⟩ hdf
  obtain rfl : st = [] := List.map_eq_nil_iff.1 ht
  have c1 := hbx.cell
  have e0 : nodesV f t - leftS f [] = nodesV f t := rfl
  rw [e0] at c1
  gi_wp2
  refine ⟨by simp, .inl ⟨_, _, rfl, run_takeDeferred hdf, ?_⟩⟩
  refine ⟨_, results_tmp rfl _ _ _, rfl, ?_⟩
  exact tb.trans (((hS.turn.trans (Turns.putObj (M := fun b => w.heap.size + 2 ≤ b) _ _ _ (by omega)) (fun b _ h => .inr h)).below (n := w.heap.size) (by omega) (fun b h => by omega)))
end Go.Proofs.YtadaehaemmelfaaDoor.valus
