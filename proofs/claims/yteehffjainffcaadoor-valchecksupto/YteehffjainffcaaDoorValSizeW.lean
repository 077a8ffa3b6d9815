/- The walk of the document's Size. -/
import Derived.Test.YteehffjainffcaaDoorValBlk
set_option linter.unusedVariables false
namespace Go.Proofs.YteehffjainffcaaDoor.valus
open Go.RowKit

/-- Depth and nodes as the program reckons them. -/
def stp (q : V → Int × Int) (a : Int × Int) (x : V) : Int × Int := (if a.1 < (q x).1 then (q x).1 else a.1, wrap64 (a.2 + (q x).2))
def sizeW : Nat → V → Int × Int
  | 0, _ => (0, 0)
  | n + 1, v => (wrap64 (((parts v).foldl (stp (sizeW n)) (0, 1)).1 + 1), ((parts v).foldl (stp (sizeW n)) (0, 1)).2)
theorem stp_next {n j c : Nat} (h : j < n) (h1 : n ≤ c) (h2 : c ≤ maxLen) : wrap64 ((j : Int) + 1) = ((j + 1 : Nat) : Int) := by
  have hm : maxLen = 9223372036854775807 := rfl
  rw [hm] at h2
  have hb : (j : Int) + 1 ≤ 9223372036854775807 := by omega
  unfold wrap64
  omega
theorem stp_snoc {q : V → Int × Int} {l : List V} {j : Nat} {y : V} (h : l[j]? = some y) (a : Int × Int) : (l.take (j + 1)).foldl (stp q) a = stp q ((l.take j).foldl (stp q) a) y := by
  rw [List.take_add_one, h, List.foldl_append]
  rfl
set_option maxHeartbeats 4000000 in
set_option maxRecDepth 100000 in
theorem sizeR_step (f : Nat) (ih : ∀ (ok : Nat → Prop) (w : World) (t : V) (a0 a1 a2 a3 a4 a5 : Value), LiesV ok f w [a0, a1, a2, a3, a4, a5] t → Calls Tryd.prog 4 #[.agg #[a0, a1, a2, a3, a4, a5]] w fun e w' => e = .returned (.tuple #[.int .i64 (sizeW f t).1, .int .i64 (sizeW f t).2]) ∧ Below w.heap.size w w')
    (ok : Nat → Prop) (w : World) (t : V) (a0 a1 a2 a3 a4 a5 : Value) (ha : LiesV ok (f + 1) w [a0, a1, a2, a3, a4, a5] t) :
    Calls Tryd.prog 4 #[.agg #[a0, a1, a2, a3, a4, a5]] w fun e w' => e = .returned (.tuple #[.int .i64 (sizeW (f + 1) t).1, .int .i64 (sizeW (f + 1) t).2]) ∧ Below w.heap.size w w' := by
  obtain ⟨k, n, b, s, L, E, pL, pE, cL, cE, rfl, h2, h3, h4, h5, h6⟩ := ha
  simp only [List.cons.injEq, and_true] at h2
  obtain ⟨rfl, rfl, rfl, rfl, rfl, rfl⟩ := h2
  have IH := hide ih
  have H5 := hide h5
  have H6 := hide h6
  obtain ⟨m1, m2, m3, m4⟩ := h4
  clear ih h5 h6 h3
  have b0 : Below w.heap.size w (w.alloc (.cells #[.int .i64 k, .int .i64 n, .int .u64 (b : Int), .string s, .slice pL L.length cL, .slice pE E.length cE] 26)) := (Below.refl _ w).alloc (Nat.le_refl _) _
  have na := blk_alloc w #[.int .i64 k, .int .i64 n, .int .u64 (b : Int), .string s, .slice pL L.length cL, .slice pE E.length cE] 26
  have B0 := hide b0
  have NA := hide na
  clear na b0
  go_enter Tryd.func4, Tryd.ntmps4
  go_upto_region 1 with fail
  generalize (w.alloc (.cells #[.int .i64 k, .int .i64 n, .int .u64 (b : Int), .string s, .slice pL L.length cL, .slice pE E.length cE] 26)) = w0 at *
  obtain ⟨c0, c1, c2, c3, c4, c5⟩ := Blk.cells6 (unhide NA)
  go_wp2_with fail
  clear c0 c1 c2 c3 c4 c5
  go_loopw [4, 5, 17] (fun d m i wr => ∃ j : Nat, j ≤ L.length ∧ i = .int .i64 j ∧ d = .int .i64 ((L.take j).foldl (stp (sizeW f)) (0, 1)).1 ∧ m = .int .i64 ((L.take j).foldl (stp (sizeW f)) (0, 1)).2 ∧ Hid (Below w0.heap.size w0 wr)) (fun _ _ i _ => L.length - (intOf i).toNat)
  case atStart => exact ⟨0, Nat.zero_le _, rfl, rfl, rfl, hide (Below.refl _ _)⟩
  case round =>
    obtain ⟨j, hj, rfl, rfl, rfl, HW⟩ := hrel
    by_cases hlt : j < L.length
    · have bw := (unhide B0).trans ((unhide HW).mono (unhide B0).size)
      have h5 := (unhide H5).kept (ok' := ok) (w' := wr) (Q' := fun j us => ∃ y, L[j]? = some y ∧ LiesV ok f wr us y) (fun _ h => h) bw.size (fun b _ hl => bw.block b hl) (fun j us _ q => by
        obtain ⟨y, q1, q2⟩ := q
        exact ⟨y, q1, q2.below bw⟩)
      obtain ⟨B, o, rfl, hok, hB, x0, x1, x2, x3, x4, x5, ⟨y, hy, hLy⟩, g0, g1, g2, g3, g4, g5⟩ := h5.six hlt
      have i1 : (j : Int) < (L.length : Int) := by omega
      have HY := hide hy
      have HLY := hide hLy
      obtain ⟨k1, n1, b1, s1, pL1, nL1, cL1, pE1, nE1, cE1, rfl, rfl, rfl, rfl, rfl, rfl⟩ := hLy.form
      have bz : Below wr.heap.size wr (wr.alloc (.cells #[.int .i64 k1, .int .i64 n1, .int .u64 (b1 : Int), .string s1, .slice pL1 nL1 cL1, .slice pE1 nE1 cE1] 26)) := (Below.refl _ wr).alloc (Nat.le_refl _) _
      have BZ := hide bz
      have KK := hide (unhide IH ok (wr.alloc (.cells #[.int .i64 k1, .int .i64 n1, .int .u64 (b1 : Int), .string s1, .slice pL1 nL1 cL1, .slice pE1 nE1 cE1] 26)) y _ _ _ _ _ _ (hLy.below bz))
      clear hy hLy h5 bz bw HLY
      go_wp2_with fail
      clear g0 g1 g2 g3 g4 g5
      refine (unhide KK).mono ?_
      rintro e w3 ⟨rfl, b3⟩
      have B3 : Hid (Below w0.heap.size w0 w3) := hide ((unhide HW).trans (((unhide BZ).trans (b3.mono (unhide BZ).size)).mono (unhide HW).size))
      clear b3
      go_wp2_with fail
      rw [stp_next hlt m1 m2]
      refine ⟨⟨j + 1, hlt, rfl, ?_, ?_, B3⟩, by simp only [intOf]; omega⟩
      · rw [stp_snoc (unhide HY)]
        rfl
      · rw [stp_snoc (unhide HY)]
        rfl
    · have e : j = L.length := by omega
      subst e
      rw [List.take_length]
      have i1 : ¬ (L.length : Int) < (L.length : Int) := by omega
      generalize hr : L.foldl (stp (sizeW f)) (0, 1) = r0
      have HR := hide hr
      clear hr
      have q5 := Blk.cell (Blk.below (unhide NA) (unhide HW)) 5 _ rfl
      go_wp2_with fail
      clear q5
      go_loopw [4, 5, 36] (fun d m i wz => ∃ j : Nat, j ≤ E.length ∧ i = .int .i64 j ∧ d = .int .i64 (((E.map (fun e => (opnE e).2)).take j).foldl (stp (sizeW f)) r0).1 ∧ m = .int .i64 (((E.map (fun e => (opnE e).2)).take j).foldl (stp (sizeW f)) r0).2 ∧ Hid (Below w0.heap.size w0 wz)) (fun _ _ i _ => E.length - (intOf i).toNat)
      case atStart => exact ⟨0, Nat.zero_le _, rfl, rfl, rfl, HW⟩
      case round =>
        obtain ⟨j, hj, rfl, rfl, rfl, HX⟩ := hrel
        by_cases hle : j < E.length
        · have bw := (unhide B0).trans ((unhide HX).mono (unhide B0).size)
          have h6 := (unhide H6).kept (ok' := ok) (w' := wr) (Q' := fun j us => ∃ (key : ByteArray) (y : V) (xs : List Value), E[j]? = some (ent key.data.toList y) ∧ us = .string key :: xs ∧ LiesV ok f wr xs y) (fun _ h => h) bw.size (fun b _ hl => bw.block b hl) (fun j us _ q => by
            obtain ⟨key, y, xs, q1, q2, _, q3⟩ := q
            exact ⟨key, y, xs, q1, q2, q3.below bw⟩)
          obtain ⟨B, o, rfl, hok, hB, x, x0, x1, x2, x3, x4, x5, ⟨key, y, xs, hy, hxs, hLy⟩, g, g0, g1, g2, g3, g4, g5⟩ := h6.seven hle
          injection hxs with hx1 hx2
          subst hx1 hx2
          have i2 : (j : Int) < (E.length : Int) := by omega
          have hy' : (E.map (fun e => (opnE e).2))[j]? = some y := by
            rw [List.getElem?_map, hy]
            rfl
          have HY := hide hy'
          obtain ⟨k1, n1, b1, s1, pL1, nL1, cL1, pE1, nE1, cE1, rfl, rfl, rfl, rfl, rfl, rfl⟩ := hLy.form
          have bz : Below wr.heap.size wr (wr.alloc (.cells #[.string key, .int .i64 k1, .int .i64 n1, .int .u64 (b1 : Int), .string s1, .slice pL1 nL1 cL1, .slice pE1 nE1 cE1] 34)) := (Below.refl _ wr).alloc (Nat.le_refl _) _
          have BZ := hide bz
          have KK := hide (unhide IH ok (wr.alloc (.cells #[.string key, .int .i64 k1, .int .i64 n1, .int .u64 (b1 : Int), .string s1, .slice pL1 nL1 cL1, .slice pE1 nE1 cE1] 34)) y _ _ _ _ _ _ (hLy.below bz))
          clear hy hy' hLy h6 bz bw
          go_wp2_with fail
          clear g g0 g1 g2 g3 g4 g5
          refine (unhide KK).mono ?_
          rintro e w3 ⟨rfl, b3⟩
          have B3 : Hid (Below w0.heap.size w0 w3) := hide ((unhide HX).trans (((unhide BZ).trans (b3.mono (unhide BZ).size)).mono (unhide HX).size))
          clear b3
          go_wp2_with fail
          rw [stp_next hle m3 m4]
          refine ⟨⟨j + 1, hle, rfl, ?_, ?_, B3⟩, by simp only [intOf]; omega⟩
          · rw [stp_snoc (unhide HY)]
            rfl
          · rw [stp_snoc (unhide HY)]
            rfl
        · have e : j = E.length := by omega
          subst e
          have e2 : (E.map (fun e => (opnE e).2)).take E.length = E.map (fun e => (opnE e).2) := List.take_of_length_le (by simp)
          rw [e2]
          have i2 : ¬ (E.length : Int) < (E.length : Int) := by omega
          go_wp2_with fail
          go_ret2
          refine ⟨?_, (unhide B0).trans ((unhide HX).mono (unhide B0).size)⟩
          rw [← unhide HR, ← List.foldl_append]
          rfl
theorem sizeR_any : ∀ (f : Nat) (ok : Nat → Prop) (w : World) (t : V) (a0 a1 a2 a3 a4 a5 : Value), LiesV ok f w [a0, a1, a2, a3, a4, a5] t → Calls Tryd.prog 4 #[.agg #[a0, a1, a2, a3, a4, a5]] w fun e w' => e = .returned (.tuple #[.int .i64 (sizeW f t).1, .int .i64 (sizeW f t).2]) ∧ Below w.heap.size w w'
  | 0, _, _, _, _, _, _, _, _, _, h => h.elim
  | f + 1, ok, w, t, a0, a1, a2, a3, a4, a5, h => sizeR_step f (sizeR_any f) ok w t a0 a1 a2 a3 a4 a5 h
end Go.Proofs.YteehffjainffcaaDoor.valus
