/- Rows of so many cells each; slices.Reverse over nodes: the library's contract, laid at this program. -/
import Derived.Test.YteehffjainffcaaDoorValParts
import Derived.Test.YteehffjainffcaaDoorValBlk
import Derived.Shelf.SlicesQ.Reverse
set_option linter.unusedVariables false
namespace Go.Proofs.YteehffjainffcaaDoor.valus
open Go.RowKit Go.Shelf Go.Sort

theorem flat_at {α : Type} (enc : α → List Value) (k : Nat) (h0 : 0 < k) (hk : ∀ x, (enc x).length = k) : ∀ (L : List α) (t : Nat), (L.flatMap enc)[t]? = (L[t / k]?).bind fun x => (enc x)[t % k]?
  | [], t => by simp
  | x :: L, t => by
    rw [List.flatMap_cons]
    by_cases h : t < k
    · rw [List.getElem?_append_left (by rw [hk]; exact h), Nat.div_eq_of_lt h, Nat.mod_eq_of_lt h]
      rfl
    · rw [List.getElem?_append_right (by rw [hk]; omega), hk, flat_at enc k h0 hk L (t - k)]
      have e1 : t / k = (t - k) / k + 1 := by rw [← Nat.add_div_right _ h0, Nat.sub_add_cancel (by omega)]
      have e2 : t % k = (t - k) % k := by rw [← Nat.add_mod_right (t - k) k, Nat.sub_add_cancel (by omega)]
      rw [e1, e2, List.getElem?_cons_succ]
theorem flat_len {α : Type} (enc : α → List Value) (k : Nat) (hk : ∀ x, (enc x).length = k) : ∀ L : List α, (L.flatMap enc).length = L.length * k
  | [] => by simp
  | x :: L => by rw [List.flatMap_cons, List.length_append, hk, flat_len enc k hk L, List.length_cons, Nat.add_mul]; omega
theorem flatK_list {α : Type} [Inhabited α] (enc : α → List Value) (k : Nat) (h0 : 0 < k) (hk : ∀ x, (enc x).length = k) (L : List α) : flatK enc k L.toArray = (L.flatMap enc).toArray := by
  apply Array.ext
  · simp [flat_len enc k hk L]
  · intro t h1 h2
    have ht : t < L.length * k := by simpa [flatK] using h1
    have hd : t / k < L.length := (Nat.div_lt_iff_lt_mul h0).2 ht
    have e := flat_at enc k h0 hk L t
    have g := get_flatK enc k L.toArray t (by simpa using ht)
    rw [getElem!_pos _ t h1] at g
    rw [g]
    have h3 : t < (L.flatMap enc).length := by rw [flat_len enc k hk]; exact ht
    rw [List.getElem?_eq_getElem h3, List.getElem?_eq_getElem hd, Option.bind_some, List.getElem?_eq_getElem (by rw [hk]; exact Nat.mod_lt _ h0)] at e
    injection e with e
    rw [List.getElem_toArray, e]
    have e4 : L.toArray[t / k]! = L[t / k] := by rw [getElem!_pos _ _ (by simpa using hd)]; simp
    rw [e4, getElem!_pos _ _ (by rw [hk]; exact Nat.mod_lt _ h0)]

/-- What the call owns, turned from its place A on. -/
theorem own_turn {α : Type} [Inhabited α] (enc : α → List Value) (k : Nat) (h0 : 0 < k) (hk : ∀ x, (enc x).length = k) {w : World} {E g cap : Nat} (A B C : List α) (hC : C.length = B.length)
    (h : w.ownsRow 0 E k (.slice (some ⟨g, 0, none⟩) (A.length + B.length) cap) (A.length + B.length) ((A ++ B).flatMap enc)) :
    HoldsK enc k w g (A.length * k) B.toArray ∧ ∀ n, (putRowK enc k (Sort.ahead w n) g (A.length * k) C.toArray).ownsRow 0 E k (.slice (some ⟨g, 0, none⟩) (A.length + B.length) cap) (A.length + B.length) ((A ++ C).flatMap enc) ∧ w.grownBy (putRowK enc k (Sort.ahead w n) g (A.length * k) C.toArray) (some g) := by
  obtain ⟨hl, h2 | ⟨g', cap', cur, e, _, hb, hc, hm, hcs, ht⟩⟩ := h
  · obtain ⟨h2, _⟩ := h2
    cases h2
  · cases e
    have lA := flat_len enc k hk A
    have lB := flat_len enc k hk B
    have lC := flat_len enc k hk C
    have hcap : (A.length + B.length) * k ≤ cap * k := Nat.mul_le_mul_right k hc
    rw [Nat.add_mul] at hcap
    rw [Nat.add_mul, List.flatMap_append] at ht
    refine ⟨?_, fun n => ⟨⟨by rw [flat_len enc k hk, List.length_append, hC], .inr ⟨g, cap, putCells id (A.length * k) (flatK enc k C.toArray) cur, rfl, Nat.zero_le _, ?_, hc, hm, by simp [putCells, hcs], ?_⟩⟩, ?_⟩⟩
    · unfold HoldsK
      rw [flatK_list enc k h0 hk]
      intro j hj
      have hj' : j < (B.flatMap enc).length := by simpa using hj
      refine ⟨?_, by simp [World.frozen?, hb]⟩
      have e : (cur.toList.take (A.length * k + B.length * k))[A.length * k + j]? = (B.flatMap enc)[j]? := by
        rw [ht, List.getElem?_append_right (by omega), lA, Nat.add_sub_cancel_left]
      rw [List.getElem?_take, if_pos (by omega), List.getElem?_eq_getElem hj', Array.getElem?_toList] at e
      simp only [World.cell?, hb]
      rw [e]
      simp [List.getElem?_eq_getElem hj']
    · show (w.heap.modify g _)[g]? = _
      rw [Array.getElem?_modify, if_pos rfl, hb]
      rfl
    · rw [flatK_list enc k h0 hk, Nat.add_mul, List.flatMap_append]
      apply List.ext_getElem?
      intro t
      rw [List.getElem?_take]
      by_cases c1 : t < A.length * k + B.length * k
      · rw [if_pos c1]
        have e : (cur.toList.take (A.length * k + B.length * k))[t]? = (A.flatMap enc ++ B.flatMap enc)[t]? := by rw [ht]
        rw [List.getElem?_take, if_pos c1, Array.getElem?_toList] at e
        have hlt : t < cur.size := by omega
        rw [Array.getElem?_toList]
        simp only [putCells, Array.getElem?_mapIdx, Array.getElem?_eq_getElem hlt, Option.map_some, id]
        by_cases c2 : t < A.length * k
        · rw [if_neg (by omega), List.getElem?_append_left (by omega), ← Array.getElem?_eq_getElem hlt, e, List.getElem?_append_left (by omega)]
        · have c3 : t - A.length * k < (C.flatMap enc).length := by rw [lC, hC]; omega
          rw [if_pos ⟨by omega, by simp only [List.size_toArray, lC, hC]; omega⟩, List.getElem?_append_right (by omega), lA, List.getElem?_eq_getElem c3]
          simp [List.getElem?_eq_getElem c3]
      · rw [if_neg c1, List.getElem?_eq_none (by rw [List.length_append, lA, lC, hC]; omega)]
    · refine ⟨rfl, rfl, rfl, by simp [putRowK, Sort.ahead], fun b hb hne => ?_⟩
      show (w.heap.modify g _)[b]? = _
      rw [Array.getElem?_modify, if_neg (fun e => hne (by rw [e]))]

def revN_ren : Ren := ⟨fun | 35 => 20 | n => n, fun | 22 => 54 | 23 => 40 | n => n, fun n => n⟩
theorem revN_lays : SlLaysE0.n35 Tryd.prog revN_ren := {
  mixed := by kernel_rfl
  f35 := ⟨Tryd.f20.name, by kernel_rfl, Tryd.func20.trans (congrArg some (by kernel_rfl))⟩
  t0 := Tryd.underlying0
  a0 := Tryd.isAgg0
  z0 := Tryd.sizeOf0
  v0 := Tryd.zeroValue0
  t3 := Tryd.underlying3
  a3 := Tryd.isAgg3
  z3 := Tryd.sizeOf3
  v3 := Tryd.zeroValue3
  t4 := Tryd.underlying4
  a4 := Tryd.isAgg4
  z4 := Tryd.sizeOf4
  v4 := Tryd.zeroValue4
  t22 := Tryd.underlying54
  a22 := Tryd.isAgg54
  z22 := Tryd.sizeOf54
  v22 := Tryd.zeroValue54 }
/-- A node's two cells. -/
def cellsN (x : Nd) : List Value := [.pointer (some ⟨x.1, x.2.1, none⟩), .int .i64 x.2.2]
theorem cellsN_one (x : Nd) : ∀ v ∈ cellsN x, Value.oneCell' v = true := fun v hv => by simp [cellsN] at hv; rcases hv with rfl | rfl <;> rfl
theorem revN_any (w : World) (g cap ca : Nat) (A B : List Nd) (hn : B.length ≤ 9223372036854775807) (h : w.ownsRow 0 40 2 (.slice (some ⟨g, 0, none⟩) (A.length + B.length) cap) (A.length + B.length) ((A ++ B).flatMap cellsN)) :
    Calls Tryd.prog 20 #[.slice (some ⟨g, A.length * 2, none⟩) B.length ca] w fun e w' => e = .returned (.tuple #[]) ∧ w'.ownsRow 0 40 2 (.slice (some ⟨g, 0, none⟩) (A.length + B.length) cap) (A.length + B.length) ((A ++ B.reverse).flatMap cellsN) ∧ w.grownBy w' (some g) := by
  obtain ⟨hH, hp⟩ := own_turn cellsN 2 (by decide) (fun _ => rfl) A B B.reverse (by simp) h
  have := AnyQ.slices_Reverse revN_lays 2 Tryd.isAgg40 Tryd.sizeOf40 cellsN (fun _ => rfl) cellsN_one g (A.length * 2) ca B.toArray w hH (by simpa using hn)
  simp only [List.size_toArray] at this
  refine this.mono ?_
  rintro e w' ⟨he, n, rfl⟩
  refine ⟨he, ?_⟩
  have e2 : B.toArray.reverse = B.reverse.toArray := by simp
  rw [e2]
  exact hp n
end Go.Proofs.YteehffjainffcaaDoor.valus
