/- slices.Insert of one entry into a row of its own: in place, or into a new row. -/
import Derived.Test.YteehffjainffcaaPartAN
import Derived.Lib.AppendZerosOnto
import Derived.Deep.DeepAppendWide
set_option linter.unusedVariables false
namespace Go.Proofs.Yteehffjainffcaa.valus
open Go.RowKit Go.Shelf

set_option maxHeartbeats 4000000 in
set_option maxRecDepth 100000 in
/-- There is room: in place. -/
theorem insert_shift (w : World) (g c n i : Nat) (cur : Array Value) (hg : w.heap[g]? = some (.cells cur 43 (0, 0))) (hcz : cur.size = c * 7) (hc : c ≤ maxLen) (hi : i < n) (hroom : n + 1 ≤ c) (vb : Nat) (vs : List Value) (tv : TypeId) (hv : w.heap[vb]? = some (.cells vs.toArray tv (0, 0))) (hne : vb ≠ g) (hvl : vs.length = 7)
    (h1c : ∀ u ∈ cur.toList.take (n * 7), u.oneCell' = true) (h1v : ∀ u ∈ vs, u.oneCell' = true) :
    Calls Try.prog 20 #[.slice (some ⟨g, 0, none⟩) n c, .int .i64 (i : Int), .slice (some ⟨vb, 0, none⟩) 1 1] w fun e w' =>
      e = .returned (.slice (some ⟨g, 0, none⟩) (n + 1) c) ∧ ∃ X : Array Value, w'.heap[g]? = some (.cells X 43 (0, 0)) ∧ X.size = cur.size ∧ X.toList.take ((n + 1) * 7) = cur.toList.take (i * 7) ++ (vs ++ (cur.toList.take (n * 7)).drop (i * 7)) ∧ w.grownBy w' (some g) := by
  obtain ⟨B, hB⟩ : ∃ B, B = (cur.toList.take (n * 7)).drop (i * 7) := ⟨_, rfl⟩
  have hBl : B.length = (n - i) * 7 := by rw [hB, List.length_drop, List.length_take, Array.length_toList, hcz]; omega
  have mixed : (Try.prog).follows .mixedOrders = true := by kernel_rfl
  have hz1 : ¬ ((i : Int) = (n : Int)) := by omega
  have hz3 : ¬ ((c : Int) < (n : Int) + 1) := by omega
  have hc63 : c ≤ 9223372036854775807 := by unfold maxLen at hc; omega
  have hin : i ≤ n := by omega
  have hw1 : IntKind.i64.wrap ((i : Int) + 1) = (i : Int) + 1 := by rw [IntKind.wrap_i64]; omega
  have hb1 : (0 : Int) ≤ (i : Int) + 1 := by omega
  have htn : ((i : Int) + 1).toNat = i + 1 := by omega
  have hb2 : ¬ (c = i + 1) := by omega
  have hb4 : ¬ (c = i) := by omega
  have hb3 : (i : Int) ≤ (n : Int) + 1 := by omega
  obtain ⟨X1, hX1⟩ : ∃ X1, X1 = (cur.toList.take ((i + 1) * 7) ++ B ++ cur.toList.drop ((i + 1) * 7 + B.length)).toArray := ⟨_, rfl⟩
  obtain ⟨X2, hX2⟩ : ∃ X2, X2 = (X1.toList.take (i * 7) ++ vs ++ X1.toList.drop (i * 7 + vs.length)).toArray := ⟨_, rfl⟩
  have hov : ∀ lb cb, (callFunc 30 #[.slice (some ⟨vb, 0, none⟩) 1 1, .slice (some ⟨g, (i + 1) * 7, none⟩) lb cb]).run Try.prog w = .ok (.value (.bool false)) w := fun lb cb => overlaps7 w vb _ tv hv g _ cur _ hg (by omega) hne 1 1 lb cb
  have hX1s : X1.size = cur.size := by rw [hX1]; simp; omega
  have hcp1 : ∀ ty dc sc, (Builtin.copy_ #[24, 24] ty #[.slice (some ⟨g, (i + 1) * 7, none⟩) (n - i) dc, .slice (some ⟨g, i * 7, none⟩) (n + 1 - i) sc]).run Try.prog w.drew = .ok (goInt ((n - i : Nat) : Int)) (w.drew.setRow g X1) := fun ty dc sc => by
    rw [hX1]
    exact run_copy7 w.drew _ _ ty 43 g ((i + 1) * 7) (n - i) dc ⟨g, i * 7, none⟩ (n + 1 - i) sc cur 43 B Try.underlying24 info7 hg (n - i) (by simp only [Nat.min_def]; split <;> omega) hBl (fun j v hj => by
      rw [Addr.add_lit]
      have hj' : (cur.toList.take (n * 7))[i * 7 + j]? = some v := by rw [hB, List.getElem?_drop] at hj; exact hj
      rw [List.getElem?_take] at hj'
      split at hj'
      · rw [Array.getElem?_toList] at hj'
        have hg' : w.drew.heap[g]? = some (.cells cur 43 (0, 0)) := hg
        simp only [World.cell?, hg']
        exact hj'
      · cases hj') (by omega) (fun v hv => h1c v (by rw [hB] at hv; exact List.mem_of_mem_drop hv))
  obtain ⟨W1, hW1⟩ : ∃ W1, W1 = w.drew.setRow g X1 := ⟨_, rfl⟩
  have hg1 : W1.heap[g]? = some (.cells X1 43 (0, 0)) := by rw [hW1]; exact setRow_heap w.drew g cur X1 43 (0, 0) hg
  have hv1 : W1.heap[vb]? = some (.cells vs.toArray tv (0, 0)) := by rw [hW1, setRow_other _ _ _ _ hne]; exact hv
  have hcp2 : ∀ ty dc, (Builtin.copy_ #[24, 24] ty #[.slice (some ⟨g, i * 7, none⟩) (n + 1 - i) dc, .slice (some ⟨vb, 0, none⟩) 1 1]).run Try.prog W1 = .ok (goInt 1) (W1.setRow g X2) := fun ty dc => by
    rw [hX2]
    exact run_copy7 W1 _ _ ty 43 g (i * 7) (n + 1 - i) dc ⟨vb, 0, none⟩ 1 1 X1 43 vs Try.underlying24 info7 hg1 1 (by simp only [Nat.min_def]; split <;> omega) (by omega) (fun j v hj => by
      rw [Addr.add_lit]
      simp only [World.cell?, hv1]
      simpa using hj) (by omega) h1v
  rw [← hW1] at hcp1
  clear hg1 hv1
  have HW1 := hide hW1
  have HX1 := hide hX1
  have HX2 := hide hX2
  clear hW1 hX1 hX2
  go_enter Try.func20, Try.ntmps20
  go_wp2_with (simp only [hov])
  go_region_law_o (refine step_copy7 rfl _ _ 24 24 rfl _ _ (by simp [Act.eval, Act.put]) (by simp [Act.eval, Act.put]) (hcp1 _ _ _) ?_)
  go_wp2_with (at_builtin; refine wpList_copy7 _ rfl _ _ 24 24 rfl _ _ rfl rfl (hcp2 _ _) ?_)
  go_ret
  have hX1 := HX1.out
  have hX2 := HX2.out
  have hW1 := HW1.out
  have l1 : (cur.toList.take ((i + 1) * 7)).length = (i + 1) * 7 := by rw [List.length_take, Array.length_toList]; omega
  have q1 : X1.toList = cur.toList.take ((i + 1) * 7) ++ (B ++ cur.toList.drop ((i + 1) * 7 + B.length)) := by rw [hX1, List.append_assoc]
  have t1 : X1.toList.take (i * 7) = cur.toList.take (i * 7) := by rw [q1, List.take_append_of_le_length (by omega), List.take_take, Nat.min_eq_left (by omega)]
  have t2 : X1.toList.drop (i * 7 + vs.length) = B ++ cur.toList.drop ((i + 1) * 7 + B.length) := by
    rw [q1, show i * 7 + vs.length = (cur.toList.take ((i + 1) * 7)).length by omega, List.drop_left]
  have q2 : X2.toList = (cur.toList.take (i * 7) ++ (vs ++ B)) ++ cur.toList.drop ((i + 1) * 7 + B.length) := by rw [hX2, t1, t2]; simp [List.append_assoc]
  have l2 : (cur.toList.take (i * 7) ++ (vs ++ B)).length = (n + 1) * 7 := by rw [List.length_append, List.length_append, List.length_take, Array.length_toList]; omega
  refine ⟨rfl, X2, setRow_heap W1 g X1 X2 _ _ (by rw [hW1]; exact setRow_heap w.drew g cur X1 43 (0, 0) hg), ?_, ?_, ?_⟩
  · rw [← Array.length_toList, q2, List.length_append, l2, List.length_drop, Array.length_toList]
    omega
  · rw [q2, ← l2, List.take_left, hB]
  · rw [hW1]
    refine ⟨rfl, rfl, rfl, by simp [World.setRow], fun b hb hne' => ?_⟩
    have hbg : b ≠ g := fun e => hne' (by rw [e])
    rw [setRow_other _ _ _ _ hbg, setRow_other _ _ _ _ hbg]
    rfl
end Go.Proofs.Yteehffjainffcaa.valus
/- slices.Insert of one entry where there is no room: into a new row. -/
set_option linter.unusedVariables false
namespace Go.Proofs.Yteehffjainffcaa.valus
open Go.RowKit Go.Shelf

theorem setRow_size (w : World) (g : Nat) (cs : Array Value) : (w.setRow g cs).heap.size = w.heap.size := by simp [World.setRow]
set_option maxHeartbeats 4000000 in
set_option maxRecDepth 100000 in
theorem insert_grow (w : World) (g c n i : Nat) (cur : Array Value) (hg : w.heap[g]? = some (.cells cur 43 (0, 0))) (hcz : cur.size = c * 7) (hi : i < n) (hnc : n ≤ c) (hroom : c < n + 1) (hbig : n ≤ 10000000) (vb : Nat) (vs : List Value) (tv : TypeId) (hv : w.heap[vb]? = some (.cells vs.toArray tv (0, 0))) (hvl : vs.length = 7)
    (h1c : ∀ u ∈ cur.toList.take (n * 7), u.oneCell' = true) (h1v : ∀ u ∈ vs, u.oneCell' = true) :
    Calls Try.prog 20 #[.slice (some ⟨g, 0, none⟩) n c, .int .i64 (i : Int), .slice (some ⟨vb, 0, none⟩) 1 1] w fun e w' =>
      ∃ G, e = .returned (.slice (some ⟨w.heap.size, 0, none⟩) (n + 1) G) ∧ n + 1 ≤ G ∧ G ≤ maxLen ∧ ∃ X : Array Value, w'.heap[w.heap.size]? = some (.cells X 43 (0, 0)) ∧ X.size = G * 7 ∧ X.toList.take ((n + 1) * 7) = cur.toList.take (i * 7) ++ (vs ++ (cur.toList.take (n * 7)).drop (i * 7)) ∧ w.grownBy w' none := by
  obtain ⟨B, hB⟩ : ∃ B, B = (cur.toList.take (n * 7)).drop (i * 7) := ⟨_, rfl⟩
  have hBl : B.length = (n - i) * 7 := by rw [hB, List.length_drop, List.length_take, Array.length_toList, hcz]; omega
  obtain ⟨A, hA⟩ : ∃ A, A = cur.toList.take (i * 7) := ⟨_, rfl⟩
  have hAl : A.length = i * 7 := by rw [hA, List.length_take, Array.length_toList, hcz]; omega
  have mixed : (Try.prog).follows .mixedOrders = true := by kernel_rfl
  obtain ⟨i0, hi0, hz0, hzs, hzb⟩ := info_parts infoEnt
  have hgw : g < w.heap.size := (Array.getElem?_eq_some_iff.1 hg).1
  have hvw : vb < w.heap.size := (Array.getElem?_eq_some_iff.1 hv).1
  have hz2 : ¬ ((i : Int) = (n : Int)) := by omega
  have hz3 : (c : Int) < (n : Int) + 1 := by omega
  have hkk : (n : Int) + 1 - (i : Int) = ((n + 1 - i : Nat) : Int) := by omega
  have hik : i + (n + 1 - i) = n + 1 := by omega
  have hold : (Builtin.firstCells i0.size i (.slice (some ⟨g, 0, none⟩) i c)).run Try.prog w.drew = .ok A.toArray w.drew := by
    rw [hzs]
    refine run_firstCells_some w.drew 7 i ⟨g, 0, none⟩ i c A hAl (fun j v hj => ?_)
    rw [Addr.add_lit, Nat.zero_add]
    rw [hA, List.getElem?_take] at hj
    split at hj
    · rw [Array.getElem?_toList] at hj
      have hg' : w.drew.heap[g]? = some (.cells cur 43 (0, 0)) := hg
      simp only [World.cell?, hg']
      exact hj
    · cases hj
  obtain ⟨G, hG⟩ : ∃ G, G = grownCap w (n + 1) c 43 := ⟨_, rfl⟩
  obtain ⟨Z1, hZ1⟩ : ∃ Z1 : Array Value, Z1 = Builtin.zeroCells (Value.agg #[.string ⟨#[]⟩, .int .i64 0, .int .i64 0, .int .u64 0, .string ⟨#[]⟩, .slice none 0 0, .slice none 0 0]).cells (n + 1 - i) := ⟨_, rfl⟩
  obtain ⟨Z2, hZ2⟩ : ∃ Z2 : Array Value, Z2 = Builtin.zeroCells (Value.agg #[.string ⟨#[]⟩, .int .i64 0, .int .i64 0, .int .u64 0, .string ⟨#[]⟩, .slice none 0 0, .slice none 0 0]).cells (G - (n + 1)) := ⟨_, rfl⟩
  obtain ⟨ROW, hROW⟩ : ∃ ROW : Array Value, ROW = A.toArray ++ Z1 ++ Z2 := ⟨_, rfl⟩
  have hGn : n + 1 ≤ G := by rw [hG]; exact grownCap_ge w _ _ _
  have hGm : G ≤ maxLen := by rw [hG]; exact grownCap_le_maxLen w (n + 1) c 43 (by unfold maxLen; omega)
  have hG63 : G ≤ 9223372036854775807 := by unfold maxLen at hGm; omega
  have hrz : ∀ ty, (Builtin.append_ #[24, 3] ty #[.slice (some ⟨g, 0, none⟩) i c, .int .i64 ((n : Int) + 1 - (i : Int))]).run Try.prog w = .ok (.slice (some ⟨w.heap.size, 0, none⟩) (n + 1) G) (w.drew.alloc (.cells ROW 43)) := fun ty => by
    have h := Lib.run_append_grow_zeros w 24 3 ty 43 i0 _ .i64 .i64 Try.underlying24 Try.underlying3 hi0 hz0 (some ⟨g, 0, none⟩) i c A hold (n + 1 - i) (by omega) (by omega) (by omega) (by omega) (by rw [hzb]; omega) (by rw [hzb, hik]; exact growslice_fits_wide hroom (by omega))
    rw [hik, ← hG] at h
    rw [hkk, hROW, hZ1, hZ2]
    exact h
  have hRs : ROW.size = G * 7 := by
    rw [hROW, hZ1, hZ2]
    simp [Builtin.zeroCells, Value.cells, hAl]
    omega
  obtain ⟨W1, hW1⟩ : ∃ W1, W1 = w.drew.alloc (.cells ROW 43) := ⟨_, rfl⟩
  rw [← hW1] at hrz
  have hN1 : W1.heap[w.heap.size]? = some (.cells ROW 43 (0, 0)) := by rw [hW1]; exact World.alloc_heap_new w.drew _
  have hb1 : W1.heap[g]? = some (.cells cur 43 (0, 0)) := by rw [hW1]; exact (Below.heap_alloc _ _ _ hgw).trans hg
  have hv1 : W1.heap[vb]? = some (.cells vs.toArray tv (0, 0)) := by rw [hW1]; exact (Below.heap_alloc _ _ _ hvw).trans hv
  obtain ⟨X1, hX1⟩ : ∃ X1, X1 = (ROW.toList.take (i * 7) ++ vs ++ ROW.toList.drop (i * 7 + vs.length)).toArray := ⟨_, rfl⟩
  have hX1s : X1.size = G * 7 := by rw [hX1]; simp; omega
  have hcpA : ∀ ty dc, (Builtin.copy_ #[24, 24] ty #[.slice (some ⟨w.heap.size, i * 7, none⟩) (n + 1 - i) dc, .slice (some ⟨vb, 0, none⟩) 1 1]).run Try.prog W1 = .ok (goInt 1) (W1.setRow w.heap.size X1) := fun ty dc => by
    rw [hX1]
    exact run_copy7 W1 _ _ ty 43 w.heap.size (i * 7) (n + 1 - i) dc ⟨vb, 0, none⟩ 1 1 ROW 43 vs Try.underlying24 info7 hN1 1 (by simp only [Nat.min_def]; split <;> omega) (by omega) (fun j v hj => by
      rw [Addr.add_lit]
      simp only [World.cell?, hv1]
      simpa using hj) (by omega) h1v
  obtain ⟨W2, hW2⟩ : ∃ W2, W2 = W1.setRow w.heap.size X1 := ⟨_, rfl⟩
  rw [← hW2] at hcpA
  have hN2 : W2.heap[w.heap.size]? = some (.cells X1 43 (0, 0)) := by rw [hW2]; exact setRow_heap W1 _ ROW X1 _ _ hN1
  have hb2 : W2.heap[g]? = some (.cells cur 43 (0, 0)) := by rw [hW2, setRow_other _ _ _ _ (by omega)]; exact hb1
  obtain ⟨X2, hX2⟩ : ∃ X2, X2 = (X1.toList.take ((i + 1) * 7) ++ B ++ X1.toList.drop ((i + 1) * 7 + B.length)).toArray := ⟨_, rfl⟩
  have hcpB : ∀ ty dc sc, (Builtin.copy_ #[24, 24] ty #[.slice (some ⟨w.heap.size, (i + 1) * 7, none⟩) (n - i) dc, .slice (some ⟨g, i * 7, none⟩) (n - i) sc]).run Try.prog W2.drew = .ok (goInt ((n - i : Nat) : Int)) (W2.drew.setRow w.heap.size X2) := fun ty dc sc => by
    rw [hX2]
    exact run_copy7 W2.drew _ _ ty 43 w.heap.size ((i + 1) * 7) (n - i) dc ⟨g, i * 7, none⟩ (n - i) sc X1 43 B Try.underlying24 info7 hN2 (n - i) (by simp only [Nat.min_def]; split <;> omega) hBl (fun j v hj => by
      rw [Addr.add_lit]
      have hj' : (cur.toList.take (n * 7))[i * 7 + j]? = some v := by rw [hB, List.getElem?_drop] at hj; exact hj
      rw [List.getElem?_take] at hj'
      split at hj'
      · rw [Array.getElem?_toList] at hj'
        have hg' : W2.drew.heap[g]? = some (.cells cur 43 (0, 0)) := hb2
        simp only [World.cell?, hg']
        exact hj'
      · cases hj') (by omega) (fun v hv => h1c v (by rw [hB] at hv; exact List.mem_of_mem_drop hv))
  have hw1 : IntKind.i64.wrap ((i : Int) + 1) = (i : Int) + 1 := by rw [IntKind.wrap_i64]; omega
  have hw2 : IntKind.i64.wrap ((n : Int) + 1 - (i : Int)) = (n : Int) + 1 - (i : Int) := by rw [IntKind.wrap_i64]; omega
  have hb3 : (0 : Int) ≤ (i : Int) + 1 := by omega
  have htn : ((i : Int) + 1).toNat = i + 1 := by omega
  have hGi : ¬ (G = i) := by omega
  have hGim : ¬ (G = i + 1) := by omega
  have hci : ¬ (c = i) := by omega
  have hc0 : ¬ (c = 0) := by omega
  have hin : i ≤ n := by omega
  have hic : (i : Int) ≤ (c : Int) := by omega
  have hb4 : (i : Int) ≤ (n : Int) := by omega
  have HA := hide hA
  have HAl := hide hAl
  have HG := hide hG
  have HR := hide hROW
  have HW1 := hide hW1
  have HW2 := hide hW2
  have HX1 := hide hX1
  have HX2 := hide hX2
  clear hkk hik hold hA hAl hG hROW hZ1 hZ2 hW1 hW2 hX1 hX2 hN1 hb1 hv1 hb2
  go_enter Try.func20, Try.ntmps20
  go_wp2_with (first
    | (at_builtin; refine Lib.wpList_append_run _ rfl _ _ _ _ rfl _ _ rfl rfl _ _ (hrz _) ?_)
    | (at_builtin; refine wpList_copy7 _ rfl _ _ 24 24 rfl _ _ rfl rfl (hcpA _ _) ?_))
  go_region_law_o (refine step_copy7 rfl _ _ 24 24 rfl _ _ (by simp [Act.eval, Act.put]) (by simp [Act.eval, Act.put]) (hcpB _ _ _) ?_)
  go_wp2
  go_ret
  have l1 : (ROW.toList.take (i * 7)) = A := by
    rw [HR.out]
    simp only [Array.toList_append, List.append_assoc]
    rw [← HAl.out, List.take_left]
  have q1 : X1.toList = (A ++ vs) ++ ROW.toList.drop (i * 7 + vs.length) := by rw [HX1.out, l1]
  have la : (A ++ vs).length = (i + 1) * 7 := by rw [List.length_append, HAl.out]; omega
  have q2 : X2.toList = (A ++ (vs ++ B)) ++ X1.toList.drop ((i + 1) * 7 + B.length) := by
    rw [HX2.out]
    have : X1.toList.take ((i + 1) * 7) = A ++ vs := by rw [q1, ← la, List.take_left]
    rw [this]
    simp [List.append_assoc]
  have l2 : (A ++ (vs ++ B)).length = (n + 1) * 7 := by rw [List.length_append, List.length_append, HAl.out]; omega
  refine ⟨G, rfl, hGn, hGm, X2, setRow_heap W2.drew _ X1 X2 _ _ hN2, ?_, ?_, ?_⟩
  · rw [← Array.length_toList, q2, List.length_append, l2, List.length_drop, Array.length_toList, hX1s]
    omega
  · rw [q2, ← l2, List.take_left, hB, HA.out]
  · rw [HW2.out, HW1.out]
    refine ⟨rfl, rfl, rfl, by
      rw [setRow_size]
      show _ ≤ (World.setRow _ _ _).heap.size
      rw [setRow_size, World.size_alloc]
      exact Nat.le_succ _, fun b hb hne' => ?_⟩
    rw [setRow_other _ _ _ _ (by omega)]
    show (World.setRow _ _ _).heap[b]? = _
    rw [setRow_other _ _ _ _ (by omega)]
    exact Below.heap_alloc _ _ _ hb
end Go.Proofs.Yteehffjainffcaa.valus
/- slices.Insert of one entry, whichever way. -/
set_option linter.unusedVariables false
namespace Go.Proofs.Yteehffjainffcaa.valus
open Go.RowKit Go.Shelf

theorem RowsE.one {ok : Nat → Prop} {f : Nat} {W : World} {key : ByteArray} {xs : List Value} {y : V} (hl : LiesV ok f W xs y) (hk : key.size ≤ maxLen) : RowsE ok f W [ent key.data.toList y] [.string key :: xs] :=
  ⟨rfl, fun i us hi => by
    match i, hi with
    | 0, hi =>
      simp only [List.getElem?_cons_zero, Option.some.injEq] at hi
      subst hi
      exact ⟨by simp [hl.len], key, y, xs, rfl, rfl, hk, hl⟩⟩
/-- The row that is made. -/
theorem own_ins {ok : Nat → Prop} {n0 f : Nat} {X X' : World} {v v' : Value} {F : List V} {rows : List (List Value)} {i : Nat} {key : ByteArray} {xs : List Value} {y : V} (hr : RowsE (okE ok n0 X v) f X F rows) (hl : LiesV (okE ok n0 X v) f X xs y) (hk : key.size ≤ maxLen)
    (ho : X'.ownsRow n0 43 7 v' (F.length + 1) ((rows.take i).flatten ++ ((.string key :: xs) ++ (rows.drop i).flatten))) (hg : X.grownBy X' v.ownBlock) (hat : v'.ownBlock = v.ownBlock ∨ v'.ownBlock = some X.heap.size) : OwnE ok n0 f X' v' (F.take i ++ ent key.data.toList y :: F.drop i) := by
  have okk : ∀ b, okE ok n0 X v b → okE ok n0 X' v' b := fun b hb => ⟨Nat.lt_of_lt_of_le hb.1 hg.size, fun e => hat.elim (fun h => hb.2.1 (e.trans h)) (fun h => by
    have := e.trans h
    injection this with this
    have := hb.1
    omega), hb.2.2⟩
  have h1 := (hr.take i).append ((RowsE.one hl hk).append (hr.drop i))
  have el : (F.take i ++ ent key.data.toList y :: F.drop i).length = F.length + 1 := by simp; omega
  refine ⟨rows.take i ++ ([.string key :: xs] ++ rows.drop i), ?_, h1.kept okk hg.size (fun b hb hlt => hg.block b hlt hb.2.1)⟩
  rw [el]
  simpa using ho
set_option maxHeartbeats 4000000 in
set_option maxRecDepth 100000 in
theorem insert_any {ok : Nat → Prop} {n0 f : Nat} (X : World) (v : Value) (F : List V) (hO : OwnE ok n0 f X v F) (i : Nat) (hi : i ≤ F.length) (hn0 : n0 ≤ X.heap.size) (hlen : F.length ≤ 2000000) (vb : Nat) (key : ByteArray) (xs : List Value) (y : V) (hvb : X.heap[vb]? = some (.cells (.string key :: xs).toArray 43 (0, 0))) (hne : some vb ≠ v.ownBlock) (hk : key.size ≤ maxLen) (hl : LiesV (okE ok n0 X v) f X xs y) :
    Calls Try.prog 20 #[v, .int .i64 (i : Int), .slice (some ⟨vb, 0, none⟩) 1 1] X fun e X' => ∃ v', e = .returned v' ∧ OwnE ok n0 f X' v' (F.take i ++ ent key.data.toList y :: F.drop i) ∧ X.grownBy X' v.ownBlock := by
  obtain ⟨rows, how, hr⟩ := hO
  have hfl := hr.flat
  have h1v : ∀ u ∈ (Value.string key :: xs), u.oneCell' = true := ones7 hl.ones
  have hvl : (Value.string key :: xs).length = 7 := by simp [hl.len]
  have hcut : (rows.take i).flatten = rows.flatten.take (i * 7) ∧ (rows.drop i).flatten = rows.flatten.drop (i * 7) := by
    have e : rows.flatten = (rows.take i).flatten ++ (rows.drop i).flatten := by rw [← List.flatten_append, List.take_append_drop]
    have hl2 : (rows.take i).flatten.length = i * 7 := by rw [(hr.take i).flat, List.length_take, Nat.min_eq_left hi]
    constructor
    · rw [e, ← hl2, List.take_left]
    · rw [e, ← hl2, List.drop_left]
  by_cases hend : i = F.length
  · obtain ⟨i0, hi0, hz0, hz1, hz2⟩ := info_parts infoEnt
    obtain ⟨v', X', hrun, hown', hgrow, _, hat⟩ := run_append_own_at (P := Try.prog) X n0 24 24 43 i0 _ 7 104 Try.underlying24 hi0 hz0 hz1 hz2 rfl (by decide) v _ _ how ⟨vb, 0, none⟩ 1 1 (.string key :: xs) (by omega) (fun j u hj => by
      rw [Addr.add_lit, Nat.zero_add]
      simp only [World.cell?, hvb]
      simpa using hj) h1v (by unfold maxLen; omega) (by omega) hn0
    have hfin : OwnE ok n0 f X' v' (F.take i ++ ent key.data.toList y :: F.drop i) := own_ins (i := i) hr hl hk (by
      rw [hcut.1, hcut.2, hend, List.take_of_length_le (by omega), List.drop_of_length_le (by omega), List.append_nil]
      exact hown') hgrow hat
    have HF := hide hfin
    have Hr := hide hr
    obtain ⟨ob, hob⟩ : ∃ ob, ob = v.ownBlock := ⟨_, rfl⟩
    rw [← hob] at hgrow ⊢
    clear hob hat hne
    clear hfin hr hl hown'
    obtain ⟨p, c, hv⟩ : ∃ p c, v = .slice p F.length c := by
      rcases how.2 with ⟨h1, h2⟩ | ⟨g, cap, cur, h1, _⟩
      · exact ⟨none, 0, by rw [h1, h2]⟩
      · exact ⟨_, _, h1⟩
    subst hv
    have hpc : F.length ≤ c := by
      rcases how.2 with ⟨h1, h2⟩ | ⟨g, cap, cur, h1, _, _, h3, _⟩
      · omega
      · cases h1
        exact h3
    have hc63 : c ≤ 9223372036854775807 := by
      rcases how.2 with ⟨h1, h2⟩ | ⟨g, cap, cur, h1, _, _, _, h4, _⟩
      · simp only [Value.slice.injEq] at h1
        omega
      · cases h1
        unfold maxLen at h4
        omega
    have Hw := hide how
    generalize F.length = nf at *
    subst hend
    have h63 : i ≤ 9223372036854775807 := by omega
    clear how hcut hfl
    go_enter Try.func20, Try.ntmps20
    go_wp2_with (at_builtin; refine Lib.wpList_append_run _ rfl _ _ _ _ rfl _ _ rfl rfl _ _ hrun ?_)
    all_goals
      go_ret
      exact ⟨v', rfl, HF.out, hgrow⟩
  · rcases how.2 with ⟨h1, h2⟩ | ⟨g, c, cur, rfl, hg0, hg, hnc, hcm, hcz, hcur⟩
    · omega
    · have h1c : ∀ u ∈ cur.toList.take (F.length * 7), u.oneCell' = true := fun u hu => by rw [hcur] at hu; exact hr.ones u hu
      have ecur : ∀ (Y : Array Value), Y.toList.take ((F.length + 1) * 7) = cur.toList.take (i * 7) ++ ((.string key :: xs) ++ (cur.toList.take (F.length * 7)).drop (i * 7)) → Y.toList.take ((F.length + 1) * 7) = (rows.take i).flatten ++ ((.string key :: xs) ++ (rows.drop i).flatten) := fun Y hY => by
        have e2 : cur.toList.take (i * 7) = rows.flatten.take (i * 7) := by rw [← hcur, List.take_take, Nat.min_eq_left (by omega)]
        rw [hY, hcur, e2, hcut.1, hcut.2]
      have hne' : vb ≠ g := fun e => hne (by rw [e]; rfl)
      have hxl : ((rows.take i).flatten ++ ((.string key :: xs) ++ (rows.drop i).flatten)).length = (F.length + 1) * 7 := by
        rw [hcut.1, hcut.2]
        simp only [List.length_append, List.length_take, List.length_drop, hfl, hvl]
        omega
      by_cases hroom : F.length + 1 ≤ c
      · refine (insert_shift X g c F.length i cur hg hcz hcm (by omega) hroom vb (.string key :: xs) 43 hvb hne' hvl h1c h1v).mono ?_
        rintro e X' ⟨rfl, Y, y1, y2, y3, y4⟩
        refine ⟨_, rfl, own_ins hr hl hk ⟨hxl, .inr ⟨g, c, Y, rfl, hg0, y1, hroom, hcm, by rw [y2]; exact hcz, ecur Y y3⟩⟩ y4 (.inl rfl), y4⟩
      · refine (insert_grow X g c F.length i cur hg hcz (by omega) hnc (by omega) (by omega) vb (.string key :: xs) 43 hvb hvl h1c h1v).mono ?_
        rintro e X' ⟨G, rfl, g1, g2, Y, y1, y2, y3, y4⟩
        have y5 : X.grownBy X' (some g) := ⟨y4.os, y4.tape, y4.output, y4.size, fun b hb _ => y4.block b hb (by simp)⟩
        exact ⟨_, rfl, own_ins hr hl hk ⟨hxl, .inr ⟨X.heap.size, G, Y, rfl, hn0, y1, g1, g2, y2, ecur Y y3⟩⟩ y5 (.inr rfl), y5⟩
end Go.Proofs.Yteehffjainffcaa.valus
/- The last region of Put: in whatever order. -/
set_option linter.unusedVariables false
namespace Go.Proofs.Yteehffjainffcaa.valus
open Go.RowKit Go.Shelf
attribute [local go_sem] Oper.semAt_some

set_option maxRecDepth 100000 in
set_option maxHeartbeats 4000000 in
theorem putR {Q : Exit → Act → World → Prop} {ops : Array Oper} {D : List Deferred} {t0 t1 t2 t3 t6 t9 t10 t11 t12 t13 t14 t15 t16 t17 t18 t19 t20 t21 t22 t23 t24 t25 t26 v : Value} {W : World} {Bk Bv i : Nat} {key : ByteArray} {ak an : Int} {ab : Nat} {az : ByteArray} {apL : Option Addr} {anL acL : Nat} {apE : Option Addr} {anE acE : Nat} {q0 q1 q2 q3 q4 q5 q6 q7 q8 : String} {f0 f1 f2 f3 f4 f5 f6 f7 f8 : _}
    (H : World → Int → Int → Nat → ByteArray → Option Addr → Nat → Nat → Option Addr → Nat → Nat → Prop) (H2 : World → Value → Prop)
    (h0 : ops[0]? = some { dst := some 19, op := .move (.tmp 7), type := 24, pos := q0, after := f0, guard := none })
    (h1 : ops[1]? = some { dst := some 20, op := .move (.tmp 8), type := 3, pos := q1, after := f1, guard := none })
    (h2 : ops[2]? = some { dst := some 21, op := .load 9 (.tmp 4), type := 9, pos := q2, after := f2, guard := none })
    (h3 : ops[3]? = some { dst := some 22, op := .load 26 (.tmp 5), type := 26, pos := q3, after := f3, guard := none })
    (h4 : ops[4]? = some { dst := some 23, op := .call { callee := .value (.func 21), args := #[.tmp 22], argTypes := #[26] }, type := 26, pos := q4, after := f4, guard := none })
    (h5 : ops[5]? = some { dst := some 24, op := .build 43 #[(0, .tmp 21), (1, .tmp 23)], type := 43, pos := q5, after := f5, guard := none })
    (h6 : ops[6]? = some { dst := some 25, op := .buildSlice 24 1 #[(0, .tmp 24)], type := 24, pos := q6, after := f6, guard := none })
    (h7 : ops[7]? = some { dst := some 26, op := .call { callee := .value (.func 20), args := #[.tmp 19, .tmp 20, .tmp 25], argTypes := #[24, 3, 24] }, type := 24, pos := q7, after := f7, guard := none })
    (h8 : ops[8]? = some { dst := some 6, op := .assign (.tmp 26), type := 24, pos := q8, after := f8, guard := none })
    (r012345678 : Region.ready .any ops #[true, true, true, true, true, true, true, true, true] = [])
    (r01234567 : Region.ready .any ops #[true, true, true, true, true, true, true, true, false] = [8])
    (r0123456 : Region.ready .any ops #[true, true, true, true, true, true, true, false, false] = [7])
    (r012345 : Region.ready .any ops #[true, true, true, true, true, true, false, false, false] = [6])
    (r023456 : Region.ready .any ops #[true, false, true, true, true, true, true, false, false] = [1])
    (r123456 : Region.ready .any ops #[false, true, true, true, true, true, true, false, false] = [0])
    (r01234 : Region.ready .any ops #[true, true, true, true, true, false, false, false, false] = [5])
    (r02345 : Region.ready .any ops #[true, false, true, true, true, true, false, false, false] = [1, 6])
    (r12345 : Region.ready .any ops #[false, true, true, true, true, true, false, false, false] = [0, 6])
    (r23456 : Region.ready .any ops #[false, false, true, true, true, true, true, false, false] = [0, 1])
    (r0123 : Region.ready .any ops #[true, true, true, true, false, false, false, false, false] = [4])
    (r0134 : Region.ready .any ops #[true, true, false, true, true, false, false, false, false] = [2])
    (r0234 : Region.ready .any ops #[true, false, true, true, true, false, false, false, false] = [1, 5])
    (r1234 : Region.ready .any ops #[false, true, true, true, true, false, false, false, false] = [0, 5])
    (r2345 : Region.ready .any ops #[false, false, true, true, true, true, false, false, false] = [0, 1, 6])
    (r012 : Region.ready .any ops #[true, true, true, false, false, false, false, false, false] = [3])
    (r013 : Region.ready .any ops #[true, true, false, true, false, false, false, false, false] = [2, 4])
    (r023 : Region.ready .any ops #[true, false, true, true, false, false, false, false, false] = [1, 4])
    (r034 : Region.ready .any ops #[true, false, false, true, true, false, false, false, false] = [1, 2])
    (r123 : Region.ready .any ops #[false, true, true, true, false, false, false, false, false] = [0, 4])
    (r134 : Region.ready .any ops #[false, true, false, true, true, false, false, false, false] = [0, 2])
    (r234 : Region.ready .any ops #[false, false, true, true, true, false, false, false, false] = [0, 1, 5])
    (r01 : Region.ready .any ops #[true, true, false, false, false, false, false, false, false] = [2, 3])
    (r02 : Region.ready .any ops #[true, false, true, false, false, false, false, false, false] = [1, 3])
    (r03 : Region.ready .any ops #[true, false, false, true, false, false, false, false, false] = [1, 2, 4])
    (r12 : Region.ready .any ops #[false, true, true, false, false, false, false, false, false] = [0, 3])
    (r13 : Region.ready .any ops #[false, true, false, true, false, false, false, false, false] = [0, 2, 4])
    (r23 : Region.ready .any ops #[false, false, true, true, false, false, false, false, false] = [0, 1, 4])
    (r34 : Region.ready .any ops #[false, false, false, true, true, false, false, false, false] = [0, 1, 2])
    (r0 : Region.ready .any ops #[true, false, false, false, false, false, false, false, false] = [1, 2, 3])
    (r1 : Region.ready .any ops #[false, true, false, false, false, false, false, false, false] = [0, 2, 3])
    (r2 : Region.ready .any ops #[false, false, true, false, false, false, false, false, false] = [0, 1, 3])
    (r3 : Region.ready .any ops #[false, false, false, true, false, false, false, false, false] = [0, 1, 2, 4])
    (r : Region.ready .any ops #[false, false, false, false, false, false, false, false, false] = [0, 1, 2, 3])
    (ck : W.cell? ⟨Bk, 0, none⟩ = some (.string key))
    (c0 : W.cell? ⟨Bv, 0, none⟩ = some (.int .i64 ak))
    (c1 : W.cell? ⟨Bv, 1, none⟩ = some (.int .i64 an))
    (c2 : W.cell? ⟨Bv, 2, none⟩ = some (.int .u64 (ab : Int)))
    (c3 : W.cell? ⟨Bv, 3, none⟩ = some (.string az))
    (c4 : W.cell? ⟨Bv, 4, none⟩ = some (.slice apL anL acL))
    (c5 : W.cell? ⟨Bv, 5, none⟩ = some (.slice apE anE acE))
    (hC : CallsIn Fence.wide 8 Try.prog 21 #[(.agg #[.int .i64 ak, .int .i64 an, .int .u64 (ab : Int), .string az, .slice apL anL acL, .slice apE anE acE])] W fun e w1 => ∃ (k n : Int) (b : Nat) (s : ByteArray) (pL : Option Addr) (nL cL : Nat) (pE : Option Addr) (nE cE : Nat), e = .returned (.agg #[.int .i64 k, .int .i64 n, .int .u64 (b : Int), .string s, .slice pL nL cL, .slice pE nE cE]) ∧ H w1 k n b s pL nL cL pE nE cE)
    (hd : ∀ (w1 : World) (k n : Int) (b : Nat) (s : ByteArray) (pL : Option Addr) (nL cL : Nat) (pE : Option Addr) (nE cE : Nat), H w1 k n b s pL nL cL pE nE cE → w1.cell? ⟨Bk, 0, none⟩ = some (.string key))
    (hI : ∀ (w1 : World) (k n : Int) (b : Nat) (s : ByteArray) (pL : Option Addr) (nL cL : Nat) (pE : Option Addr) (nE cE : Nat), H w1 k n b s pL nL cL pE nE cE → CallsIn Fence.wide 8 Try.prog 20 #[v, .int .i64 (i : Int), .slice (some ⟨w1.heap.size, 0, none⟩) 1 1] (w1.alloc (.cells #[.string key, .int .i64 k, .int .i64 n, .int .u64 (b : Int), .string s, .slice pL nL cL, .slice pE nE cE] 43)) fun e w2 => ∃ v', e = .returned v' ∧ H2 w2 v')
    (hQ : ∀ (w1 : World) (k n : Int) (b : Nat) (s : ByteArray) (pL : Option Addr) (nL cL : Nat) (pE : Option Addr) (nE cE : Nat) w2 v', H2 w2 v' → Q .normal { tmps := #[t0, t1, t2, t3, (.pointer (some ⟨Bk, 0, none⟩)), (.pointer (some ⟨Bv, 0, none⟩)), v', v, (.int .i64 (i : Int)), t9, t10, t11, t12, t13, t14, t15, t16, t17, t18, v, (.int .i64 (i : Int)), (.string key), (.agg #[.int .i64 ak, .int .i64 an, .int .u64 (ab : Int), .string az, .slice apL anL acL, .slice apE anE acE]), (.agg #[.int .i64 k, .int .i64 n, .int .u64 (b : Int), .string s, .slice pL nL cL, .slice pE nE cE]), (.agg #[.string key, .int .i64 k, .int .i64 n, .int .u64 (b : Int), .string s, .slice pL nL cL, .slice pE nE cE]), (.slice (some ⟨w1.heap.size, 0, none⟩) 1 1), v'], defers := D } w2) :
    wpAnyIn Fence.wide 9 Try.prog .any ops Q 9 #[false, false, false, false, false, false, false, false, false] { tmps := #[t0, t1, t2, t3, (.pointer (some ⟨Bk, 0, none⟩)), (.pointer (some ⟨Bv, 0, none⟩)), t6, v, (.int .i64 (i : Int)), t9, t10, t11, t12, t13, t14, t15, t16, t17, t18, t19, t20, t21, t22, t23, t24, t25, t26], defers := D } W := by
  have s0123456 : ∀ (w1 : World) (k n : Int) (b : Nat) (s : ByteArray) (pL : Option Addr) (nL cL : Nat) (pE : Option Addr) (nE cE : Nat), H w1 k n b s pL nL cL pE nE cE → wpAnyIn Fence.wide 9 Try.prog .any ops Q 2 #[true, true, true, true, true, true, true, false, false] { tmps := #[t0, t1, t2, t3, (.pointer (some ⟨Bk, 0, none⟩)), (.pointer (some ⟨Bv, 0, none⟩)), t6, v, (.int .i64 (i : Int)), t9, t10, t11, t12, t13, t14, t15, t16, t17, t18, v, (.int .i64 (i : Int)), (.string key), (.agg #[.int .i64 ak, .int .i64 an, .int .u64 (ab : Int), .string az, .slice apL anL acL, .slice apE anE acE]), (.agg #[.int .i64 k, .int .i64 n, .int .u64 (b : Int), .string s, .slice pL nL cL, .slice pE nE cE]), (.agg #[.string key, .int .i64 k, .int .i64 n, .int .u64 (b : Int), .string s, .slice pL nL cL, .slice pE nE cE]), (.slice (some ⟨w1.heap.size, 0, none⟩) 1 1), t26], defers := D } (w1.alloc (.cells #[.string key, .int .i64 k, .int .i64 n, .int .u64 (b : Int), .string s, .slice pL nL cL, .slice pE nE cE] 43)) := by
    intro w1 k n b s pL nL cL pE nE cE hH
    have e0 := hd w1 k n b s pL nL cL pE nE cE hH
    refine wpAnyIn_ready r0123456 (by simp) (AllReadyIn.cons h7 (fun K hK => ?_) AllReadyIn.nil)
    go_simp
    refine ⟨trivial, (hI w1 k n b s pL nL cL pE nE cE hH).mono ?_⟩
    rintro e w2 ⟨v', rfl, hH2⟩
    refine hK _ _ (wpAnyIn_ready r01234567 (by simp) (AllReadyIn.cons h8 (fun K hK => ?_) AllReadyIn.nil))
    go_simp
    exact hK _ _ (wpAnyIn_done r012345678 (hQ w1 k n b s pL nL cL pE nE cE w2 v' hH2) _)
  have s012345 : ∀ (w1 : World) (k n : Int) (b : Nat) (s : ByteArray) (pL : Option Addr) (nL cL : Nat) (pE : Option Addr) (nE cE : Nat), H w1 k n b s pL nL cL pE nE cE → wpAnyIn Fence.wide 9 Try.prog .any ops Q 3 #[true, true, true, true, true, true, false, false, false] { tmps := #[t0, t1, t2, t3, (.pointer (some ⟨Bk, 0, none⟩)), (.pointer (some ⟨Bv, 0, none⟩)), t6, v, (.int .i64 (i : Int)), t9, t10, t11, t12, t13, t14, t15, t16, t17, t18, v, (.int .i64 (i : Int)), (.string key), (.agg #[.int .i64 ak, .int .i64 an, .int .u64 (ab : Int), .string az, .slice apL anL acL, .slice apE anE acE]), (.agg #[.int .i64 k, .int .i64 n, .int .u64 (b : Int), .string s, .slice pL nL cL, .slice pE nE cE]), (.agg #[.string key, .int .i64 k, .int .i64 n, .int .u64 (b : Int), .string s, .slice pL nL cL, .slice pE nE cE]), t25, t26], defers := D } w1 := by
    intro w1 k n b s pL nL cL pE nE cE hH
    have e0 := hd w1 k n b s pL nL cL pE nE cE hH
    refine wpAnyIn_ready r012345 (by simp) ?_
    refine AllReadyIn.cons h6 (fun K hK => ?_) ?_
    · go_simp
      exact hK _ _ (s0123456 w1 k n b s pL nL cL pE nE cE hH)
    exact AllReadyIn.nil
  have s023456 : ∀ (w1 : World) (k n : Int) (b : Nat) (s : ByteArray) (pL : Option Addr) (nL cL : Nat) (pE : Option Addr) (nE cE : Nat), H w1 k n b s pL nL cL pE nE cE → wpAnyIn Fence.wide 9 Try.prog .any ops Q 3 #[true, false, true, true, true, true, true, false, false] { tmps := #[t0, t1, t2, t3, (.pointer (some ⟨Bk, 0, none⟩)), (.pointer (some ⟨Bv, 0, none⟩)), t6, v, (.int .i64 (i : Int)), t9, t10, t11, t12, t13, t14, t15, t16, t17, t18, v, t20, (.string key), (.agg #[.int .i64 ak, .int .i64 an, .int .u64 (ab : Int), .string az, .slice apL anL acL, .slice apE anE acE]), (.agg #[.int .i64 k, .int .i64 n, .int .u64 (b : Int), .string s, .slice pL nL cL, .slice pE nE cE]), (.agg #[.string key, .int .i64 k, .int .i64 n, .int .u64 (b : Int), .string s, .slice pL nL cL, .slice pE nE cE]), (.slice (some ⟨w1.heap.size, 0, none⟩) 1 1), t26], defers := D } (w1.alloc (.cells #[.string key, .int .i64 k, .int .i64 n, .int .u64 (b : Int), .string s, .slice pL nL cL, .slice pE nE cE] 43)) := by
    intro w1 k n b s pL nL cL pE nE cE hH
    have e0 := hd w1 k n b s pL nL cL pE nE cE hH
    refine wpAnyIn_ready r023456 (by simp) ?_
    refine AllReadyIn.cons h1 (fun K hK => ?_) ?_
    · go_simp
      exact hK _ _ (s0123456 w1 k n b s pL nL cL pE nE cE hH)
    exact AllReadyIn.nil
  have s123456 : ∀ (w1 : World) (k n : Int) (b : Nat) (s : ByteArray) (pL : Option Addr) (nL cL : Nat) (pE : Option Addr) (nE cE : Nat), H w1 k n b s pL nL cL pE nE cE → wpAnyIn Fence.wide 9 Try.prog .any ops Q 3 #[false, true, true, true, true, true, true, false, false] { tmps := #[t0, t1, t2, t3, (.pointer (some ⟨Bk, 0, none⟩)), (.pointer (some ⟨Bv, 0, none⟩)), t6, v, (.int .i64 (i : Int)), t9, t10, t11, t12, t13, t14, t15, t16, t17, t18, t19, (.int .i64 (i : Int)), (.string key), (.agg #[.int .i64 ak, .int .i64 an, .int .u64 (ab : Int), .string az, .slice apL anL acL, .slice apE anE acE]), (.agg #[.int .i64 k, .int .i64 n, .int .u64 (b : Int), .string s, .slice pL nL cL, .slice pE nE cE]), (.agg #[.string key, .int .i64 k, .int .i64 n, .int .u64 (b : Int), .string s, .slice pL nL cL, .slice pE nE cE]), (.slice (some ⟨w1.heap.size, 0, none⟩) 1 1), t26], defers := D } (w1.alloc (.cells #[.string key, .int .i64 k, .int .i64 n, .int .u64 (b : Int), .string s, .slice pL nL cL, .slice pE nE cE] 43)) := by
    intro w1 k n b s pL nL cL pE nE cE hH
    have e0 := hd w1 k n b s pL nL cL pE nE cE hH
    refine wpAnyIn_ready r123456 (by simp) ?_
    refine AllReadyIn.cons h0 (fun K hK => ?_) ?_
    · go_simp
      exact hK _ _ (s0123456 w1 k n b s pL nL cL pE nE cE hH)
    exact AllReadyIn.nil
  have s01234 : ∀ (w1 : World) (k n : Int) (b : Nat) (s : ByteArray) (pL : Option Addr) (nL cL : Nat) (pE : Option Addr) (nE cE : Nat), H w1 k n b s pL nL cL pE nE cE → wpAnyIn Fence.wide 9 Try.prog .any ops Q 4 #[true, true, true, true, true, false, false, false, false] { tmps := #[t0, t1, t2, t3, (.pointer (some ⟨Bk, 0, none⟩)), (.pointer (some ⟨Bv, 0, none⟩)), t6, v, (.int .i64 (i : Int)), t9, t10, t11, t12, t13, t14, t15, t16, t17, t18, v, (.int .i64 (i : Int)), (.string key), (.agg #[.int .i64 ak, .int .i64 an, .int .u64 (ab : Int), .string az, .slice apL anL acL, .slice apE anE acE]), (.agg #[.int .i64 k, .int .i64 n, .int .u64 (b : Int), .string s, .slice pL nL cL, .slice pE nE cE]), t24, t25, t26], defers := D } w1 := by
    intro w1 k n b s pL nL cL pE nE cE hH
    have e0 := hd w1 k n b s pL nL cL pE nE cE hH
    refine wpAnyIn_ready r01234 (by simp) ?_
    refine AllReadyIn.cons h5 (fun K hK => ?_) ?_
    · go_simp
      exact hK _ _ (s012345 w1 k n b s pL nL cL pE nE cE hH)
    exact AllReadyIn.nil
  have s02345 : ∀ (w1 : World) (k n : Int) (b : Nat) (s : ByteArray) (pL : Option Addr) (nL cL : Nat) (pE : Option Addr) (nE cE : Nat), H w1 k n b s pL nL cL pE nE cE → wpAnyIn Fence.wide 9 Try.prog .any ops Q 4 #[true, false, true, true, true, true, false, false, false] { tmps := #[t0, t1, t2, t3, (.pointer (some ⟨Bk, 0, none⟩)), (.pointer (some ⟨Bv, 0, none⟩)), t6, v, (.int .i64 (i : Int)), t9, t10, t11, t12, t13, t14, t15, t16, t17, t18, v, t20, (.string key), (.agg #[.int .i64 ak, .int .i64 an, .int .u64 (ab : Int), .string az, .slice apL anL acL, .slice apE anE acE]), (.agg #[.int .i64 k, .int .i64 n, .int .u64 (b : Int), .string s, .slice pL nL cL, .slice pE nE cE]), (.agg #[.string key, .int .i64 k, .int .i64 n, .int .u64 (b : Int), .string s, .slice pL nL cL, .slice pE nE cE]), t25, t26], defers := D } w1 := by
    intro w1 k n b s pL nL cL pE nE cE hH
    have e0 := hd w1 k n b s pL nL cL pE nE cE hH
    refine wpAnyIn_ready r02345 (by simp) ?_
    refine AllReadyIn.cons h1 (fun K hK => ?_) ?_
    · go_simp
      exact hK _ _ (s012345 w1 k n b s pL nL cL pE nE cE hH)
    refine AllReadyIn.cons h6 (fun K hK => ?_) ?_
    · go_simp
      exact hK _ _ (s023456 w1 k n b s pL nL cL pE nE cE hH)
    exact AllReadyIn.nil
  have s12345 : ∀ (w1 : World) (k n : Int) (b : Nat) (s : ByteArray) (pL : Option Addr) (nL cL : Nat) (pE : Option Addr) (nE cE : Nat), H w1 k n b s pL nL cL pE nE cE → wpAnyIn Fence.wide 9 Try.prog .any ops Q 4 #[false, true, true, true, true, true, false, false, false] { tmps := #[t0, t1, t2, t3, (.pointer (some ⟨Bk, 0, none⟩)), (.pointer (some ⟨Bv, 0, none⟩)), t6, v, (.int .i64 (i : Int)), t9, t10, t11, t12, t13, t14, t15, t16, t17, t18, t19, (.int .i64 (i : Int)), (.string key), (.agg #[.int .i64 ak, .int .i64 an, .int .u64 (ab : Int), .string az, .slice apL anL acL, .slice apE anE acE]), (.agg #[.int .i64 k, .int .i64 n, .int .u64 (b : Int), .string s, .slice pL nL cL, .slice pE nE cE]), (.agg #[.string key, .int .i64 k, .int .i64 n, .int .u64 (b : Int), .string s, .slice pL nL cL, .slice pE nE cE]), t25, t26], defers := D } w1 := by
    intro w1 k n b s pL nL cL pE nE cE hH
    have e0 := hd w1 k n b s pL nL cL pE nE cE hH
    refine wpAnyIn_ready r12345 (by simp) ?_
    refine AllReadyIn.cons h0 (fun K hK => ?_) ?_
    · go_simp
      exact hK _ _ (s012345 w1 k n b s pL nL cL pE nE cE hH)
    refine AllReadyIn.cons h6 (fun K hK => ?_) ?_
    · go_simp
      exact hK _ _ (s123456 w1 k n b s pL nL cL pE nE cE hH)
    exact AllReadyIn.nil
  have s23456 : ∀ (w1 : World) (k n : Int) (b : Nat) (s : ByteArray) (pL : Option Addr) (nL cL : Nat) (pE : Option Addr) (nE cE : Nat), H w1 k n b s pL nL cL pE nE cE → wpAnyIn Fence.wide 9 Try.prog .any ops Q 4 #[false, false, true, true, true, true, true, false, false] { tmps := #[t0, t1, t2, t3, (.pointer (some ⟨Bk, 0, none⟩)), (.pointer (some ⟨Bv, 0, none⟩)), t6, v, (.int .i64 (i : Int)), t9, t10, t11, t12, t13, t14, t15, t16, t17, t18, t19, t20, (.string key), (.agg #[.int .i64 ak, .int .i64 an, .int .u64 (ab : Int), .string az, .slice apL anL acL, .slice apE anE acE]), (.agg #[.int .i64 k, .int .i64 n, .int .u64 (b : Int), .string s, .slice pL nL cL, .slice pE nE cE]), (.agg #[.string key, .int .i64 k, .int .i64 n, .int .u64 (b : Int), .string s, .slice pL nL cL, .slice pE nE cE]), (.slice (some ⟨w1.heap.size, 0, none⟩) 1 1), t26], defers := D } (w1.alloc (.cells #[.string key, .int .i64 k, .int .i64 n, .int .u64 (b : Int), .string s, .slice pL nL cL, .slice pE nE cE] 43)) := by
    intro w1 k n b s pL nL cL pE nE cE hH
    have e0 := hd w1 k n b s pL nL cL pE nE cE hH
    refine wpAnyIn_ready r23456 (by simp) ?_
    refine AllReadyIn.cons h0 (fun K hK => ?_) ?_
    · go_simp
      exact hK _ _ (s023456 w1 k n b s pL nL cL pE nE cE hH)
    refine AllReadyIn.cons h1 (fun K hK => ?_) ?_
    · go_simp
      exact hK _ _ (s123456 w1 k n b s pL nL cL pE nE cE hH)
    exact AllReadyIn.nil
  have s0123 : wpAnyIn Fence.wide 9 Try.prog .any ops Q 5 #[true, true, true, true, false, false, false, false, false] { tmps := #[t0, t1, t2, t3, (.pointer (some ⟨Bk, 0, none⟩)), (.pointer (some ⟨Bv, 0, none⟩)), t6, v, (.int .i64 (i : Int)), t9, t10, t11, t12, t13, t14, t15, t16, t17, t18, v, (.int .i64 (i : Int)), (.string key), (.agg #[.int .i64 ak, .int .i64 an, .int .u64 (ab : Int), .string az, .slice apL anL acL, .slice apE anE acE]), t23, t24, t25, t26], defers := D } W := by
    refine wpAnyIn_ready r0123 (by simp) ?_
    refine AllReadyIn.cons h4 (fun K hK => ?_) ?_
    · go_simp
      refine ⟨trivial, hC.mono ?_⟩
      rintro e w1 ⟨k, n, b, s, pL, nL, cL, pE, nE, cE, rfl, hH⟩
      exact hK _ _ (s01234 w1 k n b s pL nL cL pE nE cE hH)
    exact AllReadyIn.nil
  have s0134 : ∀ (w1 : World) (k n : Int) (b : Nat) (s : ByteArray) (pL : Option Addr) (nL cL : Nat) (pE : Option Addr) (nE cE : Nat), H w1 k n b s pL nL cL pE nE cE → wpAnyIn Fence.wide 9 Try.prog .any ops Q 5 #[true, true, false, true, true, false, false, false, false] { tmps := #[t0, t1, t2, t3, (.pointer (some ⟨Bk, 0, none⟩)), (.pointer (some ⟨Bv, 0, none⟩)), t6, v, (.int .i64 (i : Int)), t9, t10, t11, t12, t13, t14, t15, t16, t17, t18, v, (.int .i64 (i : Int)), t21, (.agg #[.int .i64 ak, .int .i64 an, .int .u64 (ab : Int), .string az, .slice apL anL acL, .slice apE anE acE]), (.agg #[.int .i64 k, .int .i64 n, .int .u64 (b : Int), .string s, .slice pL nL cL, .slice pE nE cE]), t24, t25, t26], defers := D } w1 := by
    intro w1 k n b s pL nL cL pE nE cE hH
    have e0 := hd w1 k n b s pL nL cL pE nE cE hH
    refine wpAnyIn_ready r0134 (by simp) ?_
    refine AllReadyIn.cons h2 (fun K hK => ?_) ?_
    · go_simp
      exact hK _ _ (s01234 w1 k n b s pL nL cL pE nE cE hH)
    exact AllReadyIn.nil
  have s0234 : ∀ (w1 : World) (k n : Int) (b : Nat) (s : ByteArray) (pL : Option Addr) (nL cL : Nat) (pE : Option Addr) (nE cE : Nat), H w1 k n b s pL nL cL pE nE cE → wpAnyIn Fence.wide 9 Try.prog .any ops Q 5 #[true, false, true, true, true, false, false, false, false] { tmps := #[t0, t1, t2, t3, (.pointer (some ⟨Bk, 0, none⟩)), (.pointer (some ⟨Bv, 0, none⟩)), t6, v, (.int .i64 (i : Int)), t9, t10, t11, t12, t13, t14, t15, t16, t17, t18, v, t20, (.string key), (.agg #[.int .i64 ak, .int .i64 an, .int .u64 (ab : Int), .string az, .slice apL anL acL, .slice apE anE acE]), (.agg #[.int .i64 k, .int .i64 n, .int .u64 (b : Int), .string s, .slice pL nL cL, .slice pE nE cE]), t24, t25, t26], defers := D } w1 := by
    intro w1 k n b s pL nL cL pE nE cE hH
    have e0 := hd w1 k n b s pL nL cL pE nE cE hH
    refine wpAnyIn_ready r0234 (by simp) ?_
    refine AllReadyIn.cons h1 (fun K hK => ?_) ?_
    · go_simp
      exact hK _ _ (s01234 w1 k n b s pL nL cL pE nE cE hH)
    refine AllReadyIn.cons h5 (fun K hK => ?_) ?_
    · go_simp
      exact hK _ _ (s02345 w1 k n b s pL nL cL pE nE cE hH)
    exact AllReadyIn.nil
  have s1234 : ∀ (w1 : World) (k n : Int) (b : Nat) (s : ByteArray) (pL : Option Addr) (nL cL : Nat) (pE : Option Addr) (nE cE : Nat), H w1 k n b s pL nL cL pE nE cE → wpAnyIn Fence.wide 9 Try.prog .any ops Q 5 #[false, true, true, true, true, false, false, false, false] { tmps := #[t0, t1, t2, t3, (.pointer (some ⟨Bk, 0, none⟩)), (.pointer (some ⟨Bv, 0, none⟩)), t6, v, (.int .i64 (i : Int)), t9, t10, t11, t12, t13, t14, t15, t16, t17, t18, t19, (.int .i64 (i : Int)), (.string key), (.agg #[.int .i64 ak, .int .i64 an, .int .u64 (ab : Int), .string az, .slice apL anL acL, .slice apE anE acE]), (.agg #[.int .i64 k, .int .i64 n, .int .u64 (b : Int), .string s, .slice pL nL cL, .slice pE nE cE]), t24, t25, t26], defers := D } w1 := by
    intro w1 k n b s pL nL cL pE nE cE hH
    have e0 := hd w1 k n b s pL nL cL pE nE cE hH
    refine wpAnyIn_ready r1234 (by simp) ?_
    refine AllReadyIn.cons h0 (fun K hK => ?_) ?_
    · go_simp
      exact hK _ _ (s01234 w1 k n b s pL nL cL pE nE cE hH)
    refine AllReadyIn.cons h5 (fun K hK => ?_) ?_
    · go_simp
      exact hK _ _ (s12345 w1 k n b s pL nL cL pE nE cE hH)
    exact AllReadyIn.nil
  have s2345 : ∀ (w1 : World) (k n : Int) (b : Nat) (s : ByteArray) (pL : Option Addr) (nL cL : Nat) (pE : Option Addr) (nE cE : Nat), H w1 k n b s pL nL cL pE nE cE → wpAnyIn Fence.wide 9 Try.prog .any ops Q 5 #[false, false, true, true, true, true, false, false, false] { tmps := #[t0, t1, t2, t3, (.pointer (some ⟨Bk, 0, none⟩)), (.pointer (some ⟨Bv, 0, none⟩)), t6, v, (.int .i64 (i : Int)), t9, t10, t11, t12, t13, t14, t15, t16, t17, t18, t19, t20, (.string key), (.agg #[.int .i64 ak, .int .i64 an, .int .u64 (ab : Int), .string az, .slice apL anL acL, .slice apE anE acE]), (.agg #[.int .i64 k, .int .i64 n, .int .u64 (b : Int), .string s, .slice pL nL cL, .slice pE nE cE]), (.agg #[.string key, .int .i64 k, .int .i64 n, .int .u64 (b : Int), .string s, .slice pL nL cL, .slice pE nE cE]), t25, t26], defers := D } w1 := by
    intro w1 k n b s pL nL cL pE nE cE hH
    have e0 := hd w1 k n b s pL nL cL pE nE cE hH
    refine wpAnyIn_ready r2345 (by simp) ?_
    refine AllReadyIn.cons h0 (fun K hK => ?_) ?_
    · go_simp
      exact hK _ _ (s02345 w1 k n b s pL nL cL pE nE cE hH)
    refine AllReadyIn.cons h1 (fun K hK => ?_) ?_
    · go_simp
      exact hK _ _ (s12345 w1 k n b s pL nL cL pE nE cE hH)
    refine AllReadyIn.cons h6 (fun K hK => ?_) ?_
    · go_simp
      exact hK _ _ (s23456 w1 k n b s pL nL cL pE nE cE hH)
    exact AllReadyIn.nil
  have s012 : wpAnyIn Fence.wide 9 Try.prog .any ops Q 6 #[true, true, true, false, false, false, false, false, false] { tmps := #[t0, t1, t2, t3, (.pointer (some ⟨Bk, 0, none⟩)), (.pointer (some ⟨Bv, 0, none⟩)), t6, v, (.int .i64 (i : Int)), t9, t10, t11, t12, t13, t14, t15, t16, t17, t18, v, (.int .i64 (i : Int)), (.string key), t22, t23, t24, t25, t26], defers := D } W := by
    refine wpAnyIn_ready r012 (by simp) ?_
    refine AllReadyIn.cons h3 (fun K hK => ?_) ?_
    · go_simp
      exact hK _ _ (s0123)
    exact AllReadyIn.nil
  have s013 : wpAnyIn Fence.wide 9 Try.prog .any ops Q 6 #[true, true, false, true, false, false, false, false, false] { tmps := #[t0, t1, t2, t3, (.pointer (some ⟨Bk, 0, none⟩)), (.pointer (some ⟨Bv, 0, none⟩)), t6, v, (.int .i64 (i : Int)), t9, t10, t11, t12, t13, t14, t15, t16, t17, t18, v, (.int .i64 (i : Int)), t21, (.agg #[.int .i64 ak, .int .i64 an, .int .u64 (ab : Int), .string az, .slice apL anL acL, .slice apE anE acE]), t23, t24, t25, t26], defers := D } W := by
    refine wpAnyIn_ready r013 (by simp) ?_
    refine AllReadyIn.cons h2 (fun K hK => ?_) ?_
    · go_simp
      exact hK _ _ (s0123)
    refine AllReadyIn.cons h4 (fun K hK => ?_) ?_
    · go_simp
      refine ⟨trivial, hC.mono ?_⟩
      rintro e w1 ⟨k, n, b, s, pL, nL, cL, pE, nE, cE, rfl, hH⟩
      exact hK _ _ (s0134 w1 k n b s pL nL cL pE nE cE hH)
    exact AllReadyIn.nil
  have s023 : wpAnyIn Fence.wide 9 Try.prog .any ops Q 6 #[true, false, true, true, false, false, false, false, false] { tmps := #[t0, t1, t2, t3, (.pointer (some ⟨Bk, 0, none⟩)), (.pointer (some ⟨Bv, 0, none⟩)), t6, v, (.int .i64 (i : Int)), t9, t10, t11, t12, t13, t14, t15, t16, t17, t18, v, t20, (.string key), (.agg #[.int .i64 ak, .int .i64 an, .int .u64 (ab : Int), .string az, .slice apL anL acL, .slice apE anE acE]), t23, t24, t25, t26], defers := D } W := by
    refine wpAnyIn_ready r023 (by simp) ?_
    refine AllReadyIn.cons h1 (fun K hK => ?_) ?_
    · go_simp
      exact hK _ _ (s0123)
    refine AllReadyIn.cons h4 (fun K hK => ?_) ?_
    · go_simp
      refine ⟨trivial, hC.mono ?_⟩
      rintro e w1 ⟨k, n, b, s, pL, nL, cL, pE, nE, cE, rfl, hH⟩
      exact hK _ _ (s0234 w1 k n b s pL nL cL pE nE cE hH)
    exact AllReadyIn.nil
  have s034 : ∀ (w1 : World) (k n : Int) (b : Nat) (s : ByteArray) (pL : Option Addr) (nL cL : Nat) (pE : Option Addr) (nE cE : Nat), H w1 k n b s pL nL cL pE nE cE → wpAnyIn Fence.wide 9 Try.prog .any ops Q 6 #[true, false, false, true, true, false, false, false, false] { tmps := #[t0, t1, t2, t3, (.pointer (some ⟨Bk, 0, none⟩)), (.pointer (some ⟨Bv, 0, none⟩)), t6, v, (.int .i64 (i : Int)), t9, t10, t11, t12, t13, t14, t15, t16, t17, t18, v, t20, t21, (.agg #[.int .i64 ak, .int .i64 an, .int .u64 (ab : Int), .string az, .slice apL anL acL, .slice apE anE acE]), (.agg #[.int .i64 k, .int .i64 n, .int .u64 (b : Int), .string s, .slice pL nL cL, .slice pE nE cE]), t24, t25, t26], defers := D } w1 := by
    intro w1 k n b s pL nL cL pE nE cE hH
    have e0 := hd w1 k n b s pL nL cL pE nE cE hH
    refine wpAnyIn_ready r034 (by simp) ?_
    refine AllReadyIn.cons h1 (fun K hK => ?_) ?_
    · go_simp
      exact hK _ _ (s0134 w1 k n b s pL nL cL pE nE cE hH)
    refine AllReadyIn.cons h2 (fun K hK => ?_) ?_
    · go_simp
      exact hK _ _ (s0234 w1 k n b s pL nL cL pE nE cE hH)
    exact AllReadyIn.nil
  have s123 : wpAnyIn Fence.wide 9 Try.prog .any ops Q 6 #[false, true, true, true, false, false, false, false, false] { tmps := #[t0, t1, t2, t3, (.pointer (some ⟨Bk, 0, none⟩)), (.pointer (some ⟨Bv, 0, none⟩)), t6, v, (.int .i64 (i : Int)), t9, t10, t11, t12, t13, t14, t15, t16, t17, t18, t19, (.int .i64 (i : Int)), (.string key), (.agg #[.int .i64 ak, .int .i64 an, .int .u64 (ab : Int), .string az, .slice apL anL acL, .slice apE anE acE]), t23, t24, t25, t26], defers := D } W := by
    refine wpAnyIn_ready r123 (by simp) ?_
    refine AllReadyIn.cons h0 (fun K hK => ?_) ?_
    · go_simp
      exact hK _ _ (s0123)
    refine AllReadyIn.cons h4 (fun K hK => ?_) ?_
    · go_simp
      refine ⟨trivial, hC.mono ?_⟩
      rintro e w1 ⟨k, n, b, s, pL, nL, cL, pE, nE, cE, rfl, hH⟩
      exact hK _ _ (s1234 w1 k n b s pL nL cL pE nE cE hH)
    exact AllReadyIn.nil
  have s134 : ∀ (w1 : World) (k n : Int) (b : Nat) (s : ByteArray) (pL : Option Addr) (nL cL : Nat) (pE : Option Addr) (nE cE : Nat), H w1 k n b s pL nL cL pE nE cE → wpAnyIn Fence.wide 9 Try.prog .any ops Q 6 #[false, true, false, true, true, false, false, false, false] { tmps := #[t0, t1, t2, t3, (.pointer (some ⟨Bk, 0, none⟩)), (.pointer (some ⟨Bv, 0, none⟩)), t6, v, (.int .i64 (i : Int)), t9, t10, t11, t12, t13, t14, t15, t16, t17, t18, t19, (.int .i64 (i : Int)), t21, (.agg #[.int .i64 ak, .int .i64 an, .int .u64 (ab : Int), .string az, .slice apL anL acL, .slice apE anE acE]), (.agg #[.int .i64 k, .int .i64 n, .int .u64 (b : Int), .string s, .slice pL nL cL, .slice pE nE cE]), t24, t25, t26], defers := D } w1 := by
    intro w1 k n b s pL nL cL pE nE cE hH
    have e0 := hd w1 k n b s pL nL cL pE nE cE hH
    refine wpAnyIn_ready r134 (by simp) ?_
    refine AllReadyIn.cons h0 (fun K hK => ?_) ?_
    · go_simp
      exact hK _ _ (s0134 w1 k n b s pL nL cL pE nE cE hH)
    refine AllReadyIn.cons h2 (fun K hK => ?_) ?_
    · go_simp
      exact hK _ _ (s1234 w1 k n b s pL nL cL pE nE cE hH)
    exact AllReadyIn.nil
  have s234 : ∀ (w1 : World) (k n : Int) (b : Nat) (s : ByteArray) (pL : Option Addr) (nL cL : Nat) (pE : Option Addr) (nE cE : Nat), H w1 k n b s pL nL cL pE nE cE → wpAnyIn Fence.wide 9 Try.prog .any ops Q 6 #[false, false, true, true, true, false, false, false, false] { tmps := #[t0, t1, t2, t3, (.pointer (some ⟨Bk, 0, none⟩)), (.pointer (some ⟨Bv, 0, none⟩)), t6, v, (.int .i64 (i : Int)), t9, t10, t11, t12, t13, t14, t15, t16, t17, t18, t19, t20, (.string key), (.agg #[.int .i64 ak, .int .i64 an, .int .u64 (ab : Int), .string az, .slice apL anL acL, .slice apE anE acE]), (.agg #[.int .i64 k, .int .i64 n, .int .u64 (b : Int), .string s, .slice pL nL cL, .slice pE nE cE]), t24, t25, t26], defers := D } w1 := by
    intro w1 k n b s pL nL cL pE nE cE hH
    have e0 := hd w1 k n b s pL nL cL pE nE cE hH
    refine wpAnyIn_ready r234 (by simp) ?_
    refine AllReadyIn.cons h0 (fun K hK => ?_) ?_
    · go_simp
      exact hK _ _ (s0234 w1 k n b s pL nL cL pE nE cE hH)
    refine AllReadyIn.cons h1 (fun K hK => ?_) ?_
    · go_simp
      exact hK _ _ (s1234 w1 k n b s pL nL cL pE nE cE hH)
    refine AllReadyIn.cons h5 (fun K hK => ?_) ?_
    · go_simp
      exact hK _ _ (s2345 w1 k n b s pL nL cL pE nE cE hH)
    exact AllReadyIn.nil
  have s01 : wpAnyIn Fence.wide 9 Try.prog .any ops Q 7 #[true, true, false, false, false, false, false, false, false] { tmps := #[t0, t1, t2, t3, (.pointer (some ⟨Bk, 0, none⟩)), (.pointer (some ⟨Bv, 0, none⟩)), t6, v, (.int .i64 (i : Int)), t9, t10, t11, t12, t13, t14, t15, t16, t17, t18, v, (.int .i64 (i : Int)), t21, t22, t23, t24, t25, t26], defers := D } W := by
    refine wpAnyIn_ready r01 (by simp) ?_
    refine AllReadyIn.cons h2 (fun K hK => ?_) ?_
    · go_simp
      exact hK _ _ (s012)
    refine AllReadyIn.cons h3 (fun K hK => ?_) ?_
    · go_simp
      exact hK _ _ (s013)
    exact AllReadyIn.nil
  have s02 : wpAnyIn Fence.wide 9 Try.prog .any ops Q 7 #[true, false, true, false, false, false, false, false, false] { tmps := #[t0, t1, t2, t3, (.pointer (some ⟨Bk, 0, none⟩)), (.pointer (some ⟨Bv, 0, none⟩)), t6, v, (.int .i64 (i : Int)), t9, t10, t11, t12, t13, t14, t15, t16, t17, t18, v, t20, (.string key), t22, t23, t24, t25, t26], defers := D } W := by
    refine wpAnyIn_ready r02 (by simp) ?_
    refine AllReadyIn.cons h1 (fun K hK => ?_) ?_
    · go_simp
      exact hK _ _ (s012)
    refine AllReadyIn.cons h3 (fun K hK => ?_) ?_
    · go_simp
      exact hK _ _ (s023)
    exact AllReadyIn.nil
  have s03 : wpAnyIn Fence.wide 9 Try.prog .any ops Q 7 #[true, false, false, true, false, false, false, false, false] { tmps := #[t0, t1, t2, t3, (.pointer (some ⟨Bk, 0, none⟩)), (.pointer (some ⟨Bv, 0, none⟩)), t6, v, (.int .i64 (i : Int)), t9, t10, t11, t12, t13, t14, t15, t16, t17, t18, v, t20, t21, (.agg #[.int .i64 ak, .int .i64 an, .int .u64 (ab : Int), .string az, .slice apL anL acL, .slice apE anE acE]), t23, t24, t25, t26], defers := D } W := by
    refine wpAnyIn_ready r03 (by simp) ?_
    refine AllReadyIn.cons h1 (fun K hK => ?_) ?_
    · go_simp
      exact hK _ _ (s013)
    refine AllReadyIn.cons h2 (fun K hK => ?_) ?_
    · go_simp
      exact hK _ _ (s023)
    refine AllReadyIn.cons h4 (fun K hK => ?_) ?_
    · go_simp
      refine ⟨trivial, hC.mono ?_⟩
      rintro e w1 ⟨k, n, b, s, pL, nL, cL, pE, nE, cE, rfl, hH⟩
      exact hK _ _ (s034 w1 k n b s pL nL cL pE nE cE hH)
    exact AllReadyIn.nil
  have s12 : wpAnyIn Fence.wide 9 Try.prog .any ops Q 7 #[false, true, true, false, false, false, false, false, false] { tmps := #[t0, t1, t2, t3, (.pointer (some ⟨Bk, 0, none⟩)), (.pointer (some ⟨Bv, 0, none⟩)), t6, v, (.int .i64 (i : Int)), t9, t10, t11, t12, t13, t14, t15, t16, t17, t18, t19, (.int .i64 (i : Int)), (.string key), t22, t23, t24, t25, t26], defers := D } W := by
    refine wpAnyIn_ready r12 (by simp) ?_
    refine AllReadyIn.cons h0 (fun K hK => ?_) ?_
    · go_simp
      exact hK _ _ (s012)
    refine AllReadyIn.cons h3 (fun K hK => ?_) ?_
    · go_simp
      exact hK _ _ (s123)
    exact AllReadyIn.nil
  have s13 : wpAnyIn Fence.wide 9 Try.prog .any ops Q 7 #[false, true, false, true, false, false, false, false, false] { tmps := #[t0, t1, t2, t3, (.pointer (some ⟨Bk, 0, none⟩)), (.pointer (some ⟨Bv, 0, none⟩)), t6, v, (.int .i64 (i : Int)), t9, t10, t11, t12, t13, t14, t15, t16, t17, t18, t19, (.int .i64 (i : Int)), t21, (.agg #[.int .i64 ak, .int .i64 an, .int .u64 (ab : Int), .string az, .slice apL anL acL, .slice apE anE acE]), t23, t24, t25, t26], defers := D } W := by
    refine wpAnyIn_ready r13 (by simp) ?_
    refine AllReadyIn.cons h0 (fun K hK => ?_) ?_
    · go_simp
      exact hK _ _ (s013)
    refine AllReadyIn.cons h2 (fun K hK => ?_) ?_
    · go_simp
      exact hK _ _ (s123)
    refine AllReadyIn.cons h4 (fun K hK => ?_) ?_
    · go_simp
      refine ⟨trivial, hC.mono ?_⟩
      rintro e w1 ⟨k, n, b, s, pL, nL, cL, pE, nE, cE, rfl, hH⟩
      exact hK _ _ (s134 w1 k n b s pL nL cL pE nE cE hH)
    exact AllReadyIn.nil
  have s23 : wpAnyIn Fence.wide 9 Try.prog .any ops Q 7 #[false, false, true, true, false, false, false, false, false] { tmps := #[t0, t1, t2, t3, (.pointer (some ⟨Bk, 0, none⟩)), (.pointer (some ⟨Bv, 0, none⟩)), t6, v, (.int .i64 (i : Int)), t9, t10, t11, t12, t13, t14, t15, t16, t17, t18, t19, t20, (.string key), (.agg #[.int .i64 ak, .int .i64 an, .int .u64 (ab : Int), .string az, .slice apL anL acL, .slice apE anE acE]), t23, t24, t25, t26], defers := D } W := by
    refine wpAnyIn_ready r23 (by simp) ?_
    refine AllReadyIn.cons h0 (fun K hK => ?_) ?_
    · go_simp
      exact hK _ _ (s023)
    refine AllReadyIn.cons h1 (fun K hK => ?_) ?_
    · go_simp
      exact hK _ _ (s123)
    refine AllReadyIn.cons h4 (fun K hK => ?_) ?_
    · go_simp
      refine ⟨trivial, hC.mono ?_⟩
      rintro e w1 ⟨k, n, b, s, pL, nL, cL, pE, nE, cE, rfl, hH⟩
      exact hK _ _ (s234 w1 k n b s pL nL cL pE nE cE hH)
    exact AllReadyIn.nil
  have s34 : ∀ (w1 : World) (k n : Int) (b : Nat) (s : ByteArray) (pL : Option Addr) (nL cL : Nat) (pE : Option Addr) (nE cE : Nat), H w1 k n b s pL nL cL pE nE cE → wpAnyIn Fence.wide 9 Try.prog .any ops Q 7 #[false, false, false, true, true, false, false, false, false] { tmps := #[t0, t1, t2, t3, (.pointer (some ⟨Bk, 0, none⟩)), (.pointer (some ⟨Bv, 0, none⟩)), t6, v, (.int .i64 (i : Int)), t9, t10, t11, t12, t13, t14, t15, t16, t17, t18, t19, t20, t21, (.agg #[.int .i64 ak, .int .i64 an, .int .u64 (ab : Int), .string az, .slice apL anL acL, .slice apE anE acE]), (.agg #[.int .i64 k, .int .i64 n, .int .u64 (b : Int), .string s, .slice pL nL cL, .slice pE nE cE]), t24, t25, t26], defers := D } w1 := by
    intro w1 k n b s pL nL cL pE nE cE hH
    have e0 := hd w1 k n b s pL nL cL pE nE cE hH
    refine wpAnyIn_ready r34 (by simp) ?_
    refine AllReadyIn.cons h0 (fun K hK => ?_) ?_
    · go_simp
      exact hK _ _ (s034 w1 k n b s pL nL cL pE nE cE hH)
    refine AllReadyIn.cons h1 (fun K hK => ?_) ?_
    · go_simp
      exact hK _ _ (s134 w1 k n b s pL nL cL pE nE cE hH)
    refine AllReadyIn.cons h2 (fun K hK => ?_) ?_
    · go_simp
      exact hK _ _ (s234 w1 k n b s pL nL cL pE nE cE hH)
    exact AllReadyIn.nil
  have s0 : wpAnyIn Fence.wide 9 Try.prog .any ops Q 8 #[true, false, false, false, false, false, false, false, false] { tmps := #[t0, t1, t2, t3, (.pointer (some ⟨Bk, 0, none⟩)), (.pointer (some ⟨Bv, 0, none⟩)), t6, v, (.int .i64 (i : Int)), t9, t10, t11, t12, t13, t14, t15, t16, t17, t18, v, t20, t21, t22, t23, t24, t25, t26], defers := D } W := by
    refine wpAnyIn_ready r0 (by simp) ?_
    refine AllReadyIn.cons h1 (fun K hK => ?_) ?_
    · go_simp
      exact hK _ _ (s01)
    refine AllReadyIn.cons h2 (fun K hK => ?_) ?_
    · go_simp
      exact hK _ _ (s02)
    refine AllReadyIn.cons h3 (fun K hK => ?_) ?_
    · go_simp
      exact hK _ _ (s03)
    exact AllReadyIn.nil
  have s1 : wpAnyIn Fence.wide 9 Try.prog .any ops Q 8 #[false, true, false, false, false, false, false, false, false] { tmps := #[t0, t1, t2, t3, (.pointer (some ⟨Bk, 0, none⟩)), (.pointer (some ⟨Bv, 0, none⟩)), t6, v, (.int .i64 (i : Int)), t9, t10, t11, t12, t13, t14, t15, t16, t17, t18, t19, (.int .i64 (i : Int)), t21, t22, t23, t24, t25, t26], defers := D } W := by
    refine wpAnyIn_ready r1 (by simp) ?_
    refine AllReadyIn.cons h0 (fun K hK => ?_) ?_
    · go_simp
      exact hK _ _ (s01)
    refine AllReadyIn.cons h2 (fun K hK => ?_) ?_
    · go_simp
      exact hK _ _ (s12)
    refine AllReadyIn.cons h3 (fun K hK => ?_) ?_
    · go_simp
      exact hK _ _ (s13)
    exact AllReadyIn.nil
  have s2 : wpAnyIn Fence.wide 9 Try.prog .any ops Q 8 #[false, false, true, false, false, false, false, false, false] { tmps := #[t0, t1, t2, t3, (.pointer (some ⟨Bk, 0, none⟩)), (.pointer (some ⟨Bv, 0, none⟩)), t6, v, (.int .i64 (i : Int)), t9, t10, t11, t12, t13, t14, t15, t16, t17, t18, t19, t20, (.string key), t22, t23, t24, t25, t26], defers := D } W := by
    refine wpAnyIn_ready r2 (by simp) ?_
    refine AllReadyIn.cons h0 (fun K hK => ?_) ?_
    · go_simp
      exact hK _ _ (s02)
    refine AllReadyIn.cons h1 (fun K hK => ?_) ?_
    · go_simp
      exact hK _ _ (s12)
    refine AllReadyIn.cons h3 (fun K hK => ?_) ?_
    · go_simp
      exact hK _ _ (s23)
    exact AllReadyIn.nil
  have s3 : wpAnyIn Fence.wide 9 Try.prog .any ops Q 8 #[false, false, false, true, false, false, false, false, false] { tmps := #[t0, t1, t2, t3, (.pointer (some ⟨Bk, 0, none⟩)), (.pointer (some ⟨Bv, 0, none⟩)), t6, v, (.int .i64 (i : Int)), t9, t10, t11, t12, t13, t14, t15, t16, t17, t18, t19, t20, t21, (.agg #[.int .i64 ak, .int .i64 an, .int .u64 (ab : Int), .string az, .slice apL anL acL, .slice apE anE acE]), t23, t24, t25, t26], defers := D } W := by
    refine wpAnyIn_ready r3 (by simp) ?_
    refine AllReadyIn.cons h0 (fun K hK => ?_) ?_
    · go_simp
      exact hK _ _ (s03)
    refine AllReadyIn.cons h1 (fun K hK => ?_) ?_
    · go_simp
      exact hK _ _ (s13)
    refine AllReadyIn.cons h2 (fun K hK => ?_) ?_
    · go_simp
      exact hK _ _ (s23)
    refine AllReadyIn.cons h4 (fun K hK => ?_) ?_
    · go_simp
      refine ⟨trivial, hC.mono ?_⟩
      rintro e w1 ⟨k, n, b, s, pL, nL, cL, pE, nE, cE, rfl, hH⟩
      exact hK _ _ (s34 w1 k n b s pL nL cL pE nE cE hH)
    exact AllReadyIn.nil
  have s : wpAnyIn Fence.wide 9 Try.prog .any ops Q 9 #[false, false, false, false, false, false, false, false, false] { tmps := #[t0, t1, t2, t3, (.pointer (some ⟨Bk, 0, none⟩)), (.pointer (some ⟨Bv, 0, none⟩)), t6, v, (.int .i64 (i : Int)), t9, t10, t11, t12, t13, t14, t15, t16, t17, t18, t19, t20, t21, t22, t23, t24, t25, t26], defers := D } W := by
    refine wpAnyIn_ready r (by simp) ?_
    refine AllReadyIn.cons h0 (fun K hK => ?_) ?_
    · go_simp
      exact hK _ _ (s0)
    refine AllReadyIn.cons h1 (fun K hK => ?_) ?_
    · go_simp
      exact hK _ _ (s1)
    refine AllReadyIn.cons h2 (fun K hK => ?_) ?_
    · go_simp
      exact hK _ _ (s2)
    refine AllReadyIn.cons h3 (fun K hK => ?_) ?_
    · go_simp
      exact hK _ _ (s3)
    exact AllReadyIn.nil
  exact s

end Go.Proofs.Yteehffjainffcaa.valus
/- The program's Put. -/
set_option linter.unusedVariables false
namespace Go.Proofs.Yteehffjainffcaa.valus
open Go.RowKit Go.Shelf

theorem idx_range (g : List UInt8 → Bool) : ∀ (E : List V) (m : Nat), idx g m E = -1 ∨ ((m : Int) ≤ idx g m E ∧ idx g m E < (m : Int) + (E.length : Int))
  | [], m => .inl rfl
  | e :: l, m => by
    unfold idx
    split
    · exact .inr ⟨Int.le_refl _, by simp only [List.length_cons]; omega⟩
    · rcases idx_range g l (m + 1) with h | h
      · exact .inl h
      · exact .inr ⟨by omega, by simp only [List.length_cons]; omega⟩
set_option maxHeartbeats 8000000 in
set_option maxRecDepth 100000 in
theorem put_any (ok : Nat → Prop) (f : Nat) (w : World) (E : List V) (pE : Option Addr) (cE : Nat) (kk : ByteArray) (y : V) (k n : Int) (b : Nat) (s : ByteArray) (pL : Option Addr) (nL cL : Nat) (pV : Option Addr) (nV cV : Nat) (hE : RowN ok f w pE E) (h1 : E.length ≤ cE) (h2 : cE ≤ maxLen) (hok : ∀ b, ok b → b < w.heap.size) (hn : E.length ≤ 2000000) (hnod : ∀ e, e ∈ E → nodesV f (opnE e).2 ≤ 10000000) (hkk : kk.size ≤ maxLen)
    (hl : LiesV ok f w [.int .i64 k, .int .i64 n, .int .u64 (b : Int), .string s, .slice pL nL cL, .slice pV nV cV] y) (hny : nodesV f y ≤ 10000000) :
    Calls Try.prog 9 #[.slice pE E.length cE, .string kk, .agg #[.int .i64 k, .int .i64 n, .int .u64 (b : Int), .string s, .slice pL nL cL, .slice pV nV cV]] w fun e w' => (∃ p c, e = .returned (.slice p (insV kk.data.toList y (drpV kk.data.toList E)).length c) ∧ (insV kk.data.toList y (drpV kk.data.toList E)).length ≤ c ∧ c ≤ maxLen ∧ RowN (fun _ => True) f w' p (insV kk.data.toList y (drpV kk.data.toList E))) ∧ Below w.heap.size w w' := by
  obtain ⟨Wa, hWa⟩ : ∃ Wa, Wa = (w.alloc (.cells #[.string kk] 9)).alloc (.cells #[.int .i64 k, .int .i64 n, .int .u64 (b : Int), .string s, .slice pL nL cL, .slice pV nV cV] 26) := ⟨_, rfl⟩
  have sWa : Wa.heap.size = w.heap.size + 2 := by rw [hWa]; simp
  have ba : Below w.heap.size w Wa := by rw [hWa]; exact ((Below.refl _ w).alloc (Nat.le_refl _) _).alloc (by simp) _
  have hkb : Blk Wa w.heap.size #[.string kk] 9 := by rw [hWa]; exact (blk_alloc _ _ _).alloc _
  have hvb : Blk Wa (w.heap.size + 1) #[.int .i64 k, .int .i64 n, .int .u64 (b : Int), .string s, .slice pL nL cL, .slice pV nV cV] 26 := by
    rw [hWa]
    have := blk_alloc (w.alloc (.cells #[.string kk] 9)) #[.int .i64 k, .int .i64 n, .int .u64 (b : Int), .string s, .slice pL nL cL, .slice pV nV cV] 26
    rwa [World.size_alloc] at this
  have ck0 : Wa.cell? ⟨w.heap.size, 0, none⟩ = some (.string kk) := hkb.cell 0 _ rfl
  have HD := hide (drop_any ok f Wa E pE cE kk (hE.kept (fun _ h => h) ba.size (fun b _ h => ba.block b h) (fun j us _ ⟨key, y, xs, a1, a2, a3, a4⟩ => ⟨key, y, xs, a1, a2, a3, a4.below ba⟩)) h1 h2 (fun b h => by have := hok b h; omega) (by omega) hnod)
  have HA := hide hWa
  rw [hWa] at HD ck0
  clear hWa hE
  go_enter Try.func9, Try.ntmps9
  go_wp2_with (go_at_call 11; refine (unhide HD).mono ?_; rintro e w1 ⟨v, rfl, hO, hb1⟩)
  rw [← HA.out] at hO hb1
  obtain ⟨p, c, rfl, m1, m2, hR⟩ := hO.row2
  obtain ⟨F, hF⟩ : ∃ F, F = drpV kk.data.toList E := ⟨_, rfl⟩
  have hFl : F.length ≤ 2000000 := by rw [hF]; have := drpV_len kk.data.toList E; omega
  rw [← hF] at hR m1 hO
  rw [← hF]
  have HF := hide hF
  have HO := hide hO
  have ck1 : w1.cell? ⟨w.heap.size, 0, none⟩ = some (.string kk) := (hb1.cell (p := ⟨w.heap.size, 0, none⟩) (by simp only; omega)).trans (hkb.cell 0 _ rfl)
  have HX := hide (putc_index (fun b => b < w1.heap.size) f w1 F p c w.heap.size kk hR m1 m2 ck1)
  have hgt : (fun x => !Op.bytesLess x kk.data.toList && !(x == kk.data.toList)) = gtr kk.data.toList := rfl
  rw [hgt] at HX
  have hrg := idx_range (gtr kk.data.toList) F 0
  obtain ⟨z, hz⟩ : ∃ z, z = idx (gtr kk.data.toList) 0 F := ⟨_, rfl⟩
  have hcut : (cutAt kk.data.toList F : Int) = if z < 0 then (F.length : Int) else z := by
    unfold cutAt
    rw [← hz]
    split <;> omega
  rw [← hz] at HX hrg
  have HZ := hide hz
  clear hz hF hO hR ck0 hgt
  by_cases hneg : z < 0
  · have hi : F.length = cutAt kk.data.toList F := by rw [if_pos hneg] at hcut; omega
    have HI := hide hi
    clear hi hcut hrg
    go_wp2_with (go_at_call 16; refine (unhide HX).mono ?_; rintro e w2 ⟨rfl, hb2⟩)
    obtain ⟨w3, hw3⟩ : ∃ w3, w3 = w2.drew := ⟨_, rfl⟩
    have b3 : Below w1.heap.size w1 w3 := by rw [hw3]; exact hb2.drew
    have b03 : Below Wa.heap.size Wa w3 := hb1.trans (b3.mono hb1.size)
    have ck : w2.drew.cell? ⟨w.heap.size, 0, none⟩ = some (.string kk) := by rw [← hw3]; exact (b03.cell (p := ⟨w.heap.size, 0, none⟩) (by simp only; omega)).trans (hkb.cell 0 _ rfl)
    have cv : ∀ j u, #[.int .i64 k, .int .i64 n, .int .u64 (b : Int), .string s, .slice pL nL cL, .slice pV nV cV][j]? = some u → w2.drew.cell? ⟨w.heap.size + 1, j, none⟩ = some u := fun j u h => by rw [← hw3]; exact (b03.cell (p := ⟨w.heap.size + 1, j, none⟩) (by simp only; omega)).trans (hvb.cell j u h)
    have C := copy_any ok f w2.drew y _ _ _ _ _ _ (fun b hb => by rw [← hw3]; have := hok b hb; have := b03.size; omega) (by rw [← hw3]; exact hl.below (ba.trans (b03.mono (by omega)))) hny
    refine wpIn_wide.1 (wpIn_region_any (n := 9) (by kernel_rfl) (putR (i := F.length) (fun w1' k n b s pL nL cL pE nE cE => LiesV (fun b => ok b ∨ (w3.heap.size ≤ b ∧ b < w1'.heap.size)) f w1' [.int .i64 k, .int .i64 n, .int .u64 (b : Int), .string s, .slice pL nL cL, .slice pE nE cE] y ∧ Below w3.heap.size w3 w1') (fun w4 v4 => OwnE ok Wa.heap.size f w4 v4 (F.take F.length ++ ent kk.data.toList y :: F.drop F.length) ∧ Below w.heap.size w w4) rfl rfl rfl rfl rfl rfl rfl rfl rfl (by kernel_rfl) (by kernel_rfl) (by kernel_rfl) (by kernel_rfl) (by kernel_rfl) (by kernel_rfl) (by kernel_rfl) (by kernel_rfl) (by kernel_rfl) (by kernel_rfl) (by kernel_rfl) (by kernel_rfl) (by kernel_rfl) (by kernel_rfl) (by kernel_rfl) (by kernel_rfl) (by kernel_rfl) (by kernel_rfl) (by kernel_rfl) (by kernel_rfl) (by kernel_rfl) (by kernel_rfl) (by kernel_rfl) (by kernel_rfl) (by kernel_rfl) (by kernel_rfl) (by kernel_rfl) (by kernel_rfl) (by kernel_rfl) (by kernel_rfl) (by kernel_rfl) (by kernel_rfl) (by kernel_rfl) (by kernel_rfl) ck (cv 0 _ rfl) (cv 1 _ rfl) (cv 2 _ rfl) (cv 3 _ rfl) (cv 4 _ rfl) (cv 5 _ rfl) ?holeCF ?holeDF ?holeIF ?holeQF))
    case holeCF =>
      refine (callsIn_wide.2 (callsIn_wide.1 C)).mono ?_
      rintro e w5 ⟨⟨x0, x1, x2, x3, x4, x5, rfl, hx⟩, hb5⟩
      obtain ⟨k, n, b, s, pL, nL, cL, pE, nE, cE, rfl, rfl, rfl, rfl, rfl, rfl⟩ := hx.form
      rw [← hw3] at hx hb5
      exact ⟨k, n, b, s, pL, nL, cL, pE, nE, cE, rfl, hx, hb5⟩
    case holeDF =>
      rintro w5 k n b s pL nL cL pE nE cE ⟨_, hb5⟩
      rw [← hw3] at ck
      exact (hb5.cell (p := ⟨w.heap.size, 0, none⟩) (by simp only; have := b03.size; omega)).trans ck
    case holeIF =>
      rintro w5 k n b s pL nL cL pE nE cE ⟨hx, hb5⟩
      have z3 := b03.size
      have z5 := hb5.size
      have b13 : Below w1.heap.size w1 (w5.alloc (.cells #[.string kk, .int .i64 k, .int .i64 n, .int .u64 (b : Int), .string s, .slice pL nL cL, .slice pE nE cE] 43)) := (b3.trans (hb5.mono (by have := b3.size; omega))).alloc (by have := b3.size; omega) _
      obtain ⟨rows0, how0, _⟩ := HO.out
      have hO5 := HO.out.still b13
      have hL := hx.kept (ok' := okE ok Wa.heap.size (w5.alloc (.cells #[.string kk, .int .i64 k, .int .i64 n, .int .u64 (b : Int), .string s, .slice pL nL cL, .slice pE nE cE] 43)) (.slice p F.length c)) (w' := w5.alloc (.cells #[.string kk, .int .i64 k, .int .i64 n, .int .u64 (b : Int), .string s, .slice pL nL cL, .slice pE nE cE] 43)) (fun b hb => ⟨hb.elim (fun h => by have := hok b h; simp; omega) (fun h => by simp; omega), fun e => by
        have h1 := how0.lt b e.symm
        have := b3.size
        rcases hb with hb | hb
        · have := hok b hb
          omega
        · omega, hb.elim .inl (fun h => .inr (by omega))⟩) (by simp) (fun b _ hlt => Below.heap_alloc _ _ _ hlt)
      have hIN := insert_any (w5.alloc (.cells #[.string kk, .int .i64 k, .int .i64 n, .int .u64 (b : Int), .string s, .slice pL nL cL, .slice pE nE cE] 43)) (.slice p F.length c) F hO5 F.length (by omega) (by simp; omega) hFl w5.heap.size kk [.int .i64 k, .int .i64 n, .int .u64 (b : Int), .string s, .slice pL nL cL, .slice pE nE cE] y (blk_alloc w5 _ _) (fun e => by
        have h1 := how0.lt w5.heap.size e.symm
        have := b3.size
        omega) hkk hL
      refine (callsIn_wide.2 hIN).mono ?_
      rintro e w6 ⟨v6, rfl, hO6, hg6⟩
      refine ⟨v6, rfl, hO6, ?_⟩
      have b6 : Below w.heap.size w (w5.alloc (.cells #[.string kk, .int .i64 k, .int .i64 n, .int .u64 (b : Int), .string s, .slice pL nL cL, .slice pE nE cE] 43)) := (ba.trans (hb1.mono (by omega))).trans (b13.mono (by have := hb1.size; omega))
      exact b6.grown hg6 b6.size (fun q hq => by have := (how0.lt q hq).1; omega)
    case holeQF =>
      rintro w5 k n b s pL nL cL pE nE cE w4 v4 ⟨hO4, hb4⟩
      obtain ⟨p4, c4, hv4, m3, m4, hR4⟩ := hO4.row2
      have hfin : (∃ p c, Ending.returned v4 = .returned (.slice p (insV kk.data.toList y (drpV kk.data.toList E)).length c) ∧ (insV kk.data.toList y (drpV kk.data.toList E)).length ≤ c ∧ c ≤ maxLen ∧ RowN (fun _ => True) f w4 p (insV kk.data.toList y (drpV kk.data.toList E))) ∧ Below w.heap.size w w4 := by
        have eI : insV kk.data.toList y (drpV kk.data.toList E) = F.take F.length ++ ent kk.data.toList y :: F.drop F.length := by unfold insV; rw [← HF.out, ← HI.out]
        rw [eI]
        exact ⟨⟨p4, c4, by rw [hv4], m3, m4, hR4.kept (fun _ _ => trivial) (Nat.le_refl _) (fun _ _ _ => rfl) (fun j us _ ⟨key, y, xs, a1, a2, a3, a4⟩ => ⟨key, y, xs, a1, a2, a3, a4.weaken (fun _ _ => trivial)⟩)⟩, hb4⟩
      have HQ := hide hfin
      clear hfin hR4 hO4 hv4
      go_wp2
      go_ret
      exact HQ.out
  · obtain ⟨i, hi⟩ : ∃ i : Nat, i = cutAt kk.data.toList F := ⟨_, rfl⟩
    have hzi : z = (i : Int) := by rw [if_neg hneg] at hcut; omega
    have hil : i ≤ F.length := by omega
    have HI := hide hi
    have HZI := hide hzi
    clear hi hcut hrg hzi
    go_wp2_with (go_at_call 16; refine (unhide HX).mono ?_; rintro e w2 ⟨rfl, hb2⟩)
    have hzi := HZI.out
    clear HZI
    subst hzi
    obtain ⟨w3, hw3⟩ : ∃ w3, w3 = w2.drew := ⟨_, rfl⟩
    have b3 : Below w1.heap.size w1 w3 := by rw [hw3]; exact hb2.drew
    have b03 : Below Wa.heap.size Wa w3 := hb1.trans (b3.mono hb1.size)
    have ck : w2.drew.cell? ⟨w.heap.size, 0, none⟩ = some (.string kk) := by rw [← hw3]; exact (b03.cell (p := ⟨w.heap.size, 0, none⟩) (by simp only; omega)).trans (hkb.cell 0 _ rfl)
    have cv : ∀ j u, #[.int .i64 k, .int .i64 n, .int .u64 (b : Int), .string s, .slice pL nL cL, .slice pV nV cV][j]? = some u → w2.drew.cell? ⟨w.heap.size + 1, j, none⟩ = some u := fun j u h => by rw [← hw3]; exact (b03.cell (p := ⟨w.heap.size + 1, j, none⟩) (by simp only; omega)).trans (hvb.cell j u h)
    have C := copy_any ok f w2.drew y _ _ _ _ _ _ (fun b hb => by rw [← hw3]; have := hok b hb; have := b03.size; omega) (by rw [← hw3]; exact hl.below (ba.trans (b03.mono (by omega)))) hny
    refine wpIn_wide.1 (wpIn_region_any (n := 9) (by kernel_rfl) (putR (i := i) (fun w1' k n b s pL nL cL pE nE cE => LiesV (fun b => ok b ∨ (w3.heap.size ≤ b ∧ b < w1'.heap.size)) f w1' [.int .i64 k, .int .i64 n, .int .u64 (b : Int), .string s, .slice pL nL cL, .slice pE nE cE] y ∧ Below w3.heap.size w3 w1') (fun w4 v4 => OwnE ok Wa.heap.size f w4 v4 (F.take i ++ ent kk.data.toList y :: F.drop i) ∧ Below w.heap.size w w4) rfl rfl rfl rfl rfl rfl rfl rfl rfl (by kernel_rfl) (by kernel_rfl) (by kernel_rfl) (by kernel_rfl) (by kernel_rfl) (by kernel_rfl) (by kernel_rfl) (by kernel_rfl) (by kernel_rfl) (by kernel_rfl) (by kernel_rfl) (by kernel_rfl) (by kernel_rfl) (by kernel_rfl) (by kernel_rfl) (by kernel_rfl) (by kernel_rfl) (by kernel_rfl) (by kernel_rfl) (by kernel_rfl) (by kernel_rfl) (by kernel_rfl) (by kernel_rfl) (by kernel_rfl) (by kernel_rfl) (by kernel_rfl) (by kernel_rfl) (by kernel_rfl) (by kernel_rfl) (by kernel_rfl) (by kernel_rfl) (by kernel_rfl) (by kernel_rfl) (by kernel_rfl) ck (cv 0 _ rfl) (cv 1 _ rfl) (cv 2 _ rfl) (cv 3 _ rfl) (cv 4 _ rfl) (cv 5 _ rfl) ?holeCi ?holeDi ?holeIi ?holeQi))
    case holeCi =>
      refine (callsIn_wide.2 (callsIn_wide.1 C)).mono ?_
      rintro e w5 ⟨⟨x0, x1, x2, x3, x4, x5, rfl, hx⟩, hb5⟩
      obtain ⟨k, n, b, s, pL, nL, cL, pE, nE, cE, rfl, rfl, rfl, rfl, rfl, rfl⟩ := hx.form
      rw [← hw3] at hx hb5
      exact ⟨k, n, b, s, pL, nL, cL, pE, nE, cE, rfl, hx, hb5⟩
    case holeDi =>
      rintro w5 k n b s pL nL cL pE nE cE ⟨_, hb5⟩
      rw [← hw3] at ck
      exact (hb5.cell (p := ⟨w.heap.size, 0, none⟩) (by simp only; have := b03.size; omega)).trans ck
    case holeIi =>
      rintro w5 k n b s pL nL cL pE nE cE ⟨hx, hb5⟩
      have z3 := b03.size
      have z5 := hb5.size
      have b13 : Below w1.heap.size w1 (w5.alloc (.cells #[.string kk, .int .i64 k, .int .i64 n, .int .u64 (b : Int), .string s, .slice pL nL cL, .slice pE nE cE] 43)) := (b3.trans (hb5.mono (by have := b3.size; omega))).alloc (by have := b3.size; omega) _
      obtain ⟨rows0, how0, _⟩ := HO.out
      have hO5 := HO.out.still b13
      have hL := hx.kept (ok' := okE ok Wa.heap.size (w5.alloc (.cells #[.string kk, .int .i64 k, .int .i64 n, .int .u64 (b : Int), .string s, .slice pL nL cL, .slice pE nE cE] 43)) (.slice p F.length c)) (w' := w5.alloc (.cells #[.string kk, .int .i64 k, .int .i64 n, .int .u64 (b : Int), .string s, .slice pL nL cL, .slice pE nE cE] 43)) (fun b hb => ⟨hb.elim (fun h => by have := hok b h; simp; omega) (fun h => by simp; omega), fun e => by
        have h1 := how0.lt b e.symm
        have := b3.size
        rcases hb with hb | hb
        · have := hok b hb
          omega
        · omega, hb.elim .inl (fun h => .inr (by omega))⟩) (by simp) (fun b _ hlt => Below.heap_alloc _ _ _ hlt)
      have hIN := insert_any (w5.alloc (.cells #[.string kk, .int .i64 k, .int .i64 n, .int .u64 (b : Int), .string s, .slice pL nL cL, .slice pE nE cE] 43)) (.slice p F.length c) F hO5 i (by omega) (by simp; omega) hFl w5.heap.size kk [.int .i64 k, .int .i64 n, .int .u64 (b : Int), .string s, .slice pL nL cL, .slice pE nE cE] y (blk_alloc w5 _ _) (fun e => by
        have h1 := how0.lt w5.heap.size e.symm
        have := b3.size
        omega) hkk hL
      refine (callsIn_wide.2 hIN).mono ?_
      rintro e w6 ⟨v6, rfl, hO6, hg6⟩
      refine ⟨v6, rfl, hO6, ?_⟩
      have b6 : Below w.heap.size w (w5.alloc (.cells #[.string kk, .int .i64 k, .int .i64 n, .int .u64 (b : Int), .string s, .slice pL nL cL, .slice pE nE cE] 43)) := (ba.trans (hb1.mono (by omega))).trans (b13.mono (by have := hb1.size; omega))
      exact b6.grown hg6 b6.size (fun q hq => by have := (how0.lt q hq).1; omega)
    case holeQi =>
      rintro w5 k n b s pL nL cL pE nE cE w4 v4 ⟨hO4, hb4⟩
      obtain ⟨p4, c4, hv4, m3, m4, hR4⟩ := hO4.row2
      have hfin : (∃ p c, Ending.returned v4 = .returned (.slice p (insV kk.data.toList y (drpV kk.data.toList E)).length c) ∧ (insV kk.data.toList y (drpV kk.data.toList E)).length ≤ c ∧ c ≤ maxLen ∧ RowN (fun _ => True) f w4 p (insV kk.data.toList y (drpV kk.data.toList E))) ∧ Below w.heap.size w w4 := by
        have eI : insV kk.data.toList y (drpV kk.data.toList E) = F.take i ++ ent kk.data.toList y :: F.drop i := by unfold insV; rw [← HF.out, ← HI.out]
        rw [eI]
        exact ⟨⟨p4, c4, by rw [hv4], m3, m4, hR4.kept (fun _ _ => trivial) (Nat.le_refl _) (fun _ _ _ => rfl) (fun j us _ ⟨key, y, xs, a1, a2, a3, a4⟩ => ⟨key, y, xs, a1, a2, a3, a4.weaken (fun _ _ => trivial)⟩)⟩, hb4⟩
      have HQ := hide hfin
      clear hfin hR4 hO4 hv4
      go_wp2
      go_ret
      exact HQ.out
end Go.Proofs.Yteehffjainffcaa.valus
