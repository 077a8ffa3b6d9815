/- Of our texts, what this claim reaches. -/
import Derived.Test.YtnbfnjhbmeocfaaGreatDoorPgoAF
import Derived.Test.YtnbfnjhbmeocfaaGreatDoorPgoAE
import Derived.Test.YtnbfnjhbmeocfaaGreatDoorPgoAA
import Derived.Test.YtnbfnjhbmeocfaaGreatDoorPgoAD
set_option linter.unusedVariables false
namespace Go.Proofs.YtnbfnjhbmeocfaaGreatDoor.valus
open Go.RowKit

def At (ok : Nat → Prop) (f : Nat) (W : World) (x : Nd) (t : V) : Prop := ok x.1 ∧ x.1 < W.heap.size ∧ ∃ us : List Value, (∀ i, i < 6 → W.cell? ⟨x.1, x.2.1 + i, none⟩ = us[i]?) ∧ LiesV ok f W us t
theorem At.isV {ok : Nat → Prop} {f : Nat} {W : World} {x : Nd} {t : V} (h : At ok f W x t) : IsV f t := by
  obtain ⟨_, _, us, _, h⟩ := h
  exact h.isV
theorem kidsTo_get (p : Option Addr) (d k : Nat) (a : Int) (n i : Nat) (h : i < (kidsTo p d k a n).length) : (kidsTo p d k a n)[i] = kidAt p d k a i := by simp [kidsTo]

theorem At.kids {ok : Nat → Prop} {f : Nat} {W : World} {x : Nd} {t : V} (h : At ok f W x t) (a : Int) : ∃ (pL pE : Option Addr) (nL cL nE cE : Nat) (ks : List (Nd × V)), W.cell? ⟨x.1, x.2.1 + 4, none⟩ = some (.slice pL nL cL) ∧ W.cell? ⟨x.1, x.2.1 + 5, none⟩ = some (.slice pE nE cE) ∧
    (nL ≠ 0 → ∃ b q, pL = some ⟨b, q, none⟩) ∧ (nE ≠ 0 → ∃ b q, pE = some ⟨b, q, none⟩) ∧ ks.map Prod.fst = kidsTo pL 6 0 a nL ++ kidsTo pE 7 1 a nE ∧ ks.map Prod.snd = parts t ∧ ∀ k, k ∈ ks → At ok f W k.1 k.2 ∧ k.1.2.2 = a := by
  obtain ⟨hok, hlt, us, hus, hl⟩ := h
  cases f with
  | zero => exact hl.elim
  | succ f =>
    obtain ⟨k, n, b, s, L, E, pL, pE, cL, cE, rfl, rfl, h3, h4, hL, hE⟩ := hl
    refine ⟨pL, pE, L.length, cL, E.length, cE, (kidsTo pL 6 0 a L.length).zip L ++ (kidsTo pE 7 1 a E.length).zip (E.map fun e => (opnE e).2), hus 4 (by omega), hus 5 (by omega), fun hn => ?_, fun hn => ?_, ?_, ?_, fun q hq => ?_⟩
    · obtain ⟨B, o, hp, _⟩ := hL hn
      exact ⟨B, o, hp⟩
    · obtain ⟨B, o, hp, _⟩ := hE hn
      exact ⟨B, o, hp⟩
    · rw [List.map_append, List.map_fst_zip (by rw [kidsTo_len]; exact Nat.le_refl _), List.map_fst_zip (by rw [kidsTo_len, List.length_map]; exact Nat.le_refl _)]
    · rw [List.map_append, List.map_snd_zip (by rw [kidsTo_len]; exact Nat.le_refl _), List.map_snd_zip (by rw [kidsTo_len, List.length_map]; exact Nat.le_refl _), parts_mk]
    · rcases List.mem_append.1 hq with hq | hq
      · obtain ⟨j, hj, e⟩ := List.getElem_of_mem hq
        have hj0 := hj
        rw [List.length_zip, kidsTo_len, Nat.min_self] at hj0
        rw [List.getElem_zip, kidsTo_get] at e
        obtain ⟨B, o, rfl, hb, hbl, hk⟩ := hL (by omega)
        obtain ⟨vs, v1, v2, y, hy, hly⟩ := hk j hj0
        rw [List.getElem?_eq_getElem hj0] at hy
        injection hy with hy
        rw [← e]
        refine ⟨⟨hb, hbl, vs, fun i hi => ?_, ?_⟩, rfl⟩
        · exact v2 i hi
        · rw [hy]
          exact hly.up
      · obtain ⟨j, hj, e⟩ := List.getElem_of_mem hq
        have hj0 := hj
        rw [List.length_zip, kidsTo_len, List.length_map, Nat.min_self] at hj0
        rw [List.getElem_zip, kidsTo_get, List.getElem_map] at e
        obtain ⟨B, o, rfl, hb, hbl, hk⟩ := hE (by omega)
        obtain ⟨vs, v1, v2, key, y, xs, hy, rfl, _, hly⟩ := hk j hj0
        rw [List.getElem?_eq_getElem hj0] at hy
        injection hy with hy
        rw [← e]
        refine ⟨⟨hb, hbl, xs, fun i hi => ?_, ?_⟩, rfl⟩
        · have := v2 (i + 1) (by omega)
          rw [List.getElem?_cons_succ] at this
          rw [← this]
          show W.cell? ⟨B, o + j * 7 + 1 + i, none⟩ = _
          congr 2
          omega
        · rw [hy, opnE_ent]
          exact hly.up

def todoS (s : List (Nd × V)) : List Nd := s.map Prod.fst
def leftS (f : Nat) (s : List (Nd × V)) : Nat := sumOf (nodesV f) (s.map Prod.snd)
theorem leftS_cons (f : Nat) (p : Nd × V) (s : List (Nd × V)) : leftS f (p :: s) = nodesV f p.2 + leftS f s := rfl
theorem leftS_append (f : Nat) (a b : List (Nd × V)) : leftS f (a ++ b) = leftS f a + leftS f b := by
  unfold leftS
  rw [List.map_append, sumOf_append]
theorem nodes_parts {f : Nat} {t : V} (h : IsV f t) : nodesV f t = sumOf (nodesV f) (parts t) + 1 := by
  rw [← nodesV_more h]
  rfl
theorem nodes_pos {f : Nat} {t : V} (h : IsV f t) : 1 ≤ nodesV f t := by
  rw [nodes_parts h]
  omega
structure Still (n1 : Nat) (C : Nat → Prop) (f : Nat) (Wb : World) (M : Nat → Prop) (s : List (Nd × V)) (W : World) : Prop where
  mine : ∀ b, M b → n1 ≤ b
  base : n1 ≤ Wb.heap.size
  turn : Turns (fun b => C b ∨ n1 ≤ b) Wb W
  lies : ∀ p, p ∈ s → At (fun b => b < n1 ∧ ¬ C b) f Wb p.1 p.2
theorem Still.abides {n1 : Nat} {C : Nat → Prop} {f : Nat} {Wb : World} {M M' : Nat → Prop} {s : List (Nd × V)} {W W' : World} (h : Still n1 C f Wb M s W) (ht : Turns (fun b => M b ∨ (n1 ≤ b ∧ ∃ o : Obj, W.heap[b]? = some o ∧ o.isCells = false)) W W') (hm : ∀ b, M' b → M b ∨ W.heap.size ≤ b) : Still n1 C f Wb M' s W' := by
  have hs := h.turn.size
  have hb := h.base
  refine ⟨fun b hb' => (hm b hb').elim (h.mine b) (fun h => by omega), hb, h.turn.trans ht (fun b _ hb => hb.elim (fun h' => .inr (h.mine b h')) (fun h' => .inr h'.1)), h.lies⟩
theorem Still.box {n1 : Nat} {C : Nat → Prop} {f : Nat} {Wb : World} {M : Nat → Prop} {s : List (Nd × V)} {W W' : World} {B : Nat} {t : TypeId} {v : Value} (h : Still n1 C f Wb M s W) (hB : B < n1) (hb : Boxed W B t v) (ht : Turns (fun b => M b ∨ (n1 ≤ b ∧ ∃ o : Obj, W.heap[b]? = some o ∧ o.isCells = false)) W W') : Boxed W' B t v := by
  refine (ht.block B hb.lt (fun hx => ?_)).trans hb
  rcases hx with hx | hx
  · have := h.mine B hx
    omega
  · omega
theorem Still.round {n1 : Nat} {C : Nat → Prop} {f : Nat} {Wb : World} {M : Nat → Prop} {s : List (Nd × V)} {W W' : World} (h : Still n1 C f Wb M s W) (ht : Turns (fun b => C b ∨ n1 ≤ b) W W') : Still n1 C f Wb M s W' :=
  ⟨h.mine, h.base, h.turn.trans ht (fun b _ h => h), h.lies⟩
theorem Still.next {n1 : Nat} {C : Nat → Prop} {f : Nat} {Wb : World} {M : Nat → Prop} {p : Nd × V} {s : List (Nd × V)} {W : World} (h : Still n1 C f Wb M (p :: s) W) : ∃ ks : List (Nd × V), KidsN M W p.1 (ks.map Prod.fst) ∧ ks.map Prod.snd = parts p.2 ∧ Still n1 C f Wb M (ks ++ s) W ∧ (∀ k, k ∈ ks → k.1.2.2 = IntKind.i64.wrap (p.1.2.2 + 1)) ∧ leftS f (ks ++ s) + 1 = leftS f (p :: s) := by
  have hp := h.lies p (by simp)
  obtain ⟨pL, pE, nL, cL, nE, cE, ks, c4, c5, hL, hE, hf, hsnd, hk⟩ := hp.kids (IntKind.i64.wrap (p.1.2.2 + 1))
  have hx := hp.1
  have hlt := hp.2.1
  have hs := h.turn.size
  refine ⟨ks, ⟨pL, pE, nL, cL, nE, cE, fun hm => ?_, by omega, ?_, ?_, hL, hE, hf⟩, hsnd, ⟨h.mine, h.base, h.turn, fun q hq => ?_⟩, fun k hk' => (hk k hk').2, ?_⟩
  · have := h.mine _ hm
    omega
  · exact (h.turn.cell (p := ⟨p.1.1, p.1.2.1 + 4, none⟩) hlt (fun hx' => hx'.elim hx.2 (fun h' => by simp only at h'; omega))).trans c4
  · exact (h.turn.cell (p := ⟨p.1.1, p.1.2.1 + 5, none⟩) hlt (fun hx' => hx'.elim hx.2 (fun h' => by simp only at h'; omega))).trans c5
  · rcases List.mem_append.1 hq with hq | hq
    · exact (hk q hq).1
    · exact h.lies q (by simp [hq])
  · rw [leftS_append, leftS_cons, nodes_parts hp.isV, leftS, hsnd]
    omega
theorem still_start {n1 : Nat} {C M : Nat → Prop} {f B : Nat} {w Wb W2 : World} {us : List Value} {t : V} (hl : LiesV (fun b => b < w.heap.size) f w us t) (hb : Below w.heap.size w Wb) (hB : ∀ i, i < 6 → Wb.cell? ⟨B, 0 + i, none⟩ = us[i]?) (hBn : B < n1) (hCB : ¬ C B) (hw : w.heap.size ≤ n1) (hC : ∀ b, b < w.heap.size → ¬ C b) (hn1 : n1 ≤ Wb.heap.size) (hM : ∀ b, M b → n1 ≤ b)
    (ht : Turns (fun b => C b ∨ n1 ≤ b) Wb W2) : Still n1 C f Wb M [((B, 0, 0), t)] W2 :=
  ⟨hM, hn1, ht, fun p hp => by
    rw [List.mem_singleton.1 hp]
    exact ⟨⟨hBn, hCB⟩, by simp only; omega, us, hB, hl.kept (fun b h => ⟨by omega, hC b h⟩) hb.size (fun b h _ => hb.block b h)⟩⟩
theorem KidsN.put {M : Nat → Prop} {W : World} {x : Nd} {kids : List Nd} {l : Nat} {o : Obj} (o' : Obj) (h : KidsN M W x kids) (hl : W.heap[l]? = some o) (ho : o.isCells = false) : KidsN M (W.putObj l o') x kids := by
  obtain ⟨pL, pE, nL, cL, nE, cE, nx1, lx1, v4, v5, r⟩ := h
  have hne : x.1 ≠ l := fun e => by
    obtain ⟨o2, h2, h3⟩ := cells_of_cell v4
    simp only at h2
    rw [e, hl] at h2
    cases h2
    rw [ho] at h3
    cases h3
  refine ⟨pL, pE, nL, cL, nE, cE, nx1, by rw [World.putObj_size]; exact lx1, ?_, ?_, r⟩
  · exact (World.cell?_of_block (World.putObj_heap_other hne)).trans v4
  · exact (World.cell?_of_block (World.putObj_heap_other hne)).trans v5
theorem todo_len {f n1 : Nat} {C M : Nat → Prop} {Wb W : World} : ∀ {s : List (Nd × V)}, Still n1 C f Wb M s W → (todoS s).length ≤ leftS f s
  | [], _ => Nat.zero_le _
  | p :: s, h => by
    have := todo_len (s := s) ⟨h.mine, h.base, h.turn, fun q hq => h.lies q (by simp [hq])⟩
    have := nodes_pos (h.lies p (by simp)).isV
    rw [leftS_cons]
    simp only [todoS, List.map_cons, List.length_cons] at *
    omega
end Go.Proofs.YtnbfnjhbmeocfaaGreatDoor.valus
set_option linter.unusedVariables false
namespace Go.Proofs.YtnbfnjhbmeocfaaGreatDoor.valus
open Go.RowKit Go.Shelf
attribute [local go_sem] Oper.semAt_some

theorem walkN_any (B o : Nat) (w : World) :
    CallsIn Fence.wide 7 Tryz.prog 80 #[.agg #[.pointer (some ⟨B, o, none⟩), .int .i64 0], .func (.func 81) #[] #[]] w fun e w' => e = .returned (.func (.func 141) #[] #[.pointer (some ⟨w.heap.size, 0, none⟩), .pointer (some ⟨w.heap.size + 1, 0, none⟩)]) ∧
      w' = (w.alloc (.cells #[.pointer (some ⟨B, o, none⟩), .int .i64 0] 77)).alloc (.cells #[.func (.func 81) #[] #[]] 141) := by
  refine callsIn_of_wp Tryz.func80 rfl trivial ?_ rfl
  simp only [Tryz.ntmps80, List.size_toArray, List.length_cons, List.length_nil, Nat.reduceAdd, Nat.reduceSub, Array.replicate_succ, Array.replicate_zero, List.push_toArray, List.append_toArray, List.nil_append, List.cons_append]
  gi_wp2
  go_ret
  exact ⟨rfl, rfl⟩
theorem nodesN_any (B o : Nat) (w : World) :
    CallsIn Fence.wide 8 Tryz.prog 37 #[.pointer (some ⟨B, o, none⟩)] w fun e w' => e = .returned (.func (.func 141) #[] #[.pointer (some ⟨w.heap.size, 0, none⟩), .pointer (some ⟨w.heap.size + 1, 0, none⟩)]) ∧
      w' = (w.alloc (.cells #[.pointer (some ⟨B, o, none⟩), .int .i64 0] 77)).alloc (.cells #[.func (.func 81) #[] #[]] 141) := by
  refine callsIn_of_wp Tryz.func37 rfl trivial ?_ rfl
  simp only [Tryz.ntmps37, List.size_toArray, List.length_cons, List.length_nil, Nat.reduceAdd, Nat.reduceSub, Array.replicate_succ, Array.replicate_zero, List.push_toArray, List.append_toArray, List.nil_append, List.cons_append]
  gi_wp2_with (refine ⟨trivial, ?_⟩; gi_at_call 80; refine (walkN_any B o w).mono ?_; rintro e w' ⟨rfl, rfl⟩)
  go_ret
  exact ⟨rfl, rfl⟩

end Go.Proofs.YtnbfnjhbmeocfaaGreatDoor.valus
