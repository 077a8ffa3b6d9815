/- The program's nodes and Nodes. -/
import Derived.Test.YteehffjainffcaaDoorValStat
import Derived.Test.YteehffjainffcaaDoorValSizeW
set_option linter.unusedVariables false
namespace Go.Proofs.YteehffjainffcaaDoor.valus
open Go.RowKit Go.Shelf
attribute [local go_sem] Oper.semAt_some

theorem walkN_any (B o : Nat) (w : World) :
    CallsIn Fence.wide 7 Tryd.prog 12 #[.agg #[.pointer (some ⟨B, o, none⟩), .int .i64 0], .func (.func 13) #[] #[]] w fun e w' => e = .returned (.func (.func 19) #[] #[.pointer (some ⟨w.heap.size, 0, none⟩), .pointer (some ⟨w.heap.size + 1, 0, none⟩)]) ∧
      w' = (w.alloc (.cells #[.pointer (some ⟨B, o, none⟩), .int .i64 0] 40)).alloc (.cells #[.func (.func 13) #[] #[]] 46) := by
  refine callsIn_of_wp Tryd.func12 rfl trivial ?_ rfl
  simp only [Tryd.ntmps12, List.size_toArray, List.length_cons, List.length_nil, Nat.reduceAdd, Nat.reduceSub, Array.replicate_succ, Array.replicate_zero, List.push_toArray, List.append_toArray, List.nil_append, List.cons_append]
  gi_wp2
  go_ret
  exact ⟨rfl, rfl⟩
theorem nodesN_any (B o : Nat) (w : World) :
    CallsIn Fence.wide 8 Tryd.prog 9 #[.pointer (some ⟨B, o, none⟩)] w fun e w' => e = .returned (.func (.func 19) #[] #[.pointer (some ⟨w.heap.size, 0, none⟩), .pointer (some ⟨w.heap.size + 1, 0, none⟩)]) ∧
      w' = (w.alloc (.cells #[.pointer (some ⟨B, o, none⟩), .int .i64 0] 40)).alloc (.cells #[.func (.func 13) #[] #[]] 46) := by
  refine callsIn_of_wp Tryd.func9 rfl trivial ?_ rfl
  simp only [Tryd.ntmps9, List.size_toArray, List.length_cons, List.length_nil, Nat.reduceAdd, Nat.reduceSub, Array.replicate_succ, Array.replicate_zero, List.push_toArray, List.append_toArray, List.nil_append, List.cons_append]
  gi_wp2_with (refine ⟨trivial, ?_⟩; gi_at_call 12; refine (walkN_any B o w).mono ?_; rintro e w' ⟨rfl, rfl⟩)
  go_ret
  exact ⟨rfl, rfl⟩

set_option maxRecDepth 100000 in
set_option maxHeartbeats 4000000 in
theorem nodes_any (f : Nat) (w : World) (t : V) (a0 a1 a2 a3 a4 a5 : Value) (hl : LiesV (fun b => b < w.heap.size) f w [a0, a1, a2, a3, a4, a5] t) (hn : nodesV f t ≤ 10000000) :
    CallsIn Fence.wide 9 Tryd.prog 8 #[.agg #[a0, a1, a2, a3, a4, a5]] w fun e w' => e = .returned (.int .i64 (nodesV f t : Int)) ∧ Below w.heap.size w w' := by
  obtain ⟨k, n, b, s, pL, nL, cL, pE, nE, cE, rfl, rfl, rfl, rfl, rfl, rfl⟩ := hl.form
  refine callsIn_of_wp_marks Tryd.func8 rfl trivial ?_ rfl
  simp only [Tryd.ntmps8, List.size_toArray, List.length_cons, List.length_nil, Nat.reduceAdd, Nat.reduceSub, Array.replicate_succ, Array.replicate_zero, List.push_toArray, List.append_toArray, List.nil_append, List.cons_append]
  gi_wp2
  obtain ⟨Wb, hWb⟩ : ∃ Wb, Wb = (w.alloc (.cells #[.int .i64 k, .int .i64 n, .int .u64 (b : Int), .string s, .slice pL nL cL, .slice pE nE cE] 26)).alloc (.cells #[.int .i64 0] 3) := ⟨_, rfl⟩
  rw [← hWb]
  have sb : Wb.heap.size = w.heap.size + 2 := by rw [hWb]; simp
  have tb : Below w.heap.size w Wb := by rw [hWb]; exact ((Below.refl _ w).alloc (Nat.le_refl _) _).alloc (by simp) _
  have vb : Blk Wb w.heap.size #[.int .i64 k, .int .i64 n, .int .u64 (b : Int), .string s, .slice pL nL cL, .slice pE nE cE] 26 := by rw [hWb]; exact (blk_alloc w _ _).alloc _
  have cb : Boxed Wb (w.heap.size + 1) 3 (.int .i64 0) := by
    rw [hWb]
    have := Boxed.new (w.alloc (.cells #[.int .i64 k, .int .i64 n, .int .u64 (b : Int), .string s, .slice pL nL cL, .slice pE nE cE] 26)) 3 (.int .i64 0)
    rwa [World.size_alloc] at this
  clear hWb
  refine ⟨trivial, (nodesN_any _ _ _).mono ?_⟩
  rintro e w' ⟨rfl, rfl⟩
  gi_wp2
  obtain ⟨W2, hW2⟩ : ∃ W2, W2 = (Wb.alloc (.cells #[.pointer (some ⟨w.heap.size, 0, none⟩), .int .i64 0] 40)).alloc (.cells #[.func (.func 13) #[] #[]] 46) := ⟨_, rfl⟩
  rw [← hW2]
  have s2 : W2.heap.size = Wb.heap.size + 2 := by rw [hW2]; simp
  have t2 : Turns (fun _ => False) Wb W2 := by rw [hW2]; exact (Turns.alloc _ _ _).trans (Turns.alloc (fun _ => False) _ _) (fun _ _ h => h)
  have x1 : W2.heap[w.heap.size + 2]? = some (.cells #[.pointer (some ⟨w.heap.size, 0, none⟩), .int .i64 0] 40) := by rw [← sb, hW2]; exact (blk_alloc Wb _ _).alloc _
  have x2 : W2.heap[w.heap.size + 2 + 1]? = some (.cells #[.func (.func 13) #[] #[]] 46) := by
    rw [← sb, hW2]
    have := blk_alloc (Wb.alloc (.cells #[.pointer (some ⟨w.heap.size, 0, none⟩), .int .i64 0] 40)) #[.func (.func 13) #[] #[]] 46
    rwa [World.size_alloc] at this
  clear hW2
  refine wpIn_range_walk (lb := #[.pointer (some ⟨w.heap.size + 2, 0, none⟩), .pointer (some ⟨w.heap.size + 2 + 1, 0, none⟩)]) rfl (enters_of Tryd.func19 (by kernel_rfl) rfl)
    (walkN_in (w.heap.size + 2) (w.heap.size + 2 + 1) (w.heap.size, 0, 0) todoS (leftS f) W2 x1 x2) (Below.refl _ _) rfl (fun M W x kids l o o' h _ h2 h3 => h.put o' h2 h3)
    (w.heap.size + 2) (by omega)
    (fun M st W => Still (w.heap.size + 2) (fun b => b = w.heap.size + 1) f Wb M st W ∧ leftS f st ≤ nodesV f t ∧ Boxed W (w.heap.size + 1) 3 (.int .i64 ((nodesV f t - leftS f st : Nat) : Int)))
    (fun _ _ _ _ => False) ?ab (fun c M M' s W W' h _ _ => h) [((w.heap.size, 0, 0), t)] rfl (fun b h => by omega) ?start (fun M st X h => by have := todo_len h.1; omega)
    (fun x a' W => a' = { tmps := #[.agg #[.int .i64 k, .int .i64 n, .int .u64 (b : Int), .string s, .slice pL nL cL, .slice pE nE cE], .pointer (some ⟨w.heap.size, 0, none⟩), .int .i64 0, .pointer (some ⟨w.heap.size + 1, 0, none⟩), .func (.func 19) #[] #[.pointer (some ⟨w.heap.size + 2, 0, none⟩), .pointer (some ⟨w.heap.size + 2 + 1, 0, none⟩)], encN x, undef, undef, undef], defers := [] })
    (fun x a' W l o o' h _ _ => h) ?assign ?body ?done (fun D c M W _ h _ => h.elim)
  case ab =>
    rintro M M' st A B ⟨hS, hle, hbx⟩ ht hm
    exact ⟨hS.abides ht hm, hle, hS.box (by omega) hbx ht⟩
  case start =>
    have e0 : leftS f [((w.heap.size, 0, 0), t)] = nodesV f t := by rw [leftS_cons]; rfl
    refine ⟨still_start hl tb (fun i hi => ?_) (by omega) (by omega) (by omega) (fun b hb => by omega) (by omega) (fun b hb => by omega) (t2.mono fun _ _ h => h.elim), by rw [e0]; exact Nat.le_refl _, ?_⟩
    · rw [Nat.zero_add]
      match i, hi with
      | 0, _ => exact vb.cell 0 _ rfl
      | 1, _ => exact vb.cell 1 _ rfl
      | 2, _ => exact vb.cell 2 _ rfl
      | 3, _ => exact vb.cell 3 _ rfl
      | 4, _ => exact vb.cell 4 _ rfl
      | 5, _ => exact vb.cell 5 _ rfl
    · rw [e0, Nat.sub_self]
      exact (t2.block _ cb.lt (fun h => h)).trans cb
  case assign =>
    intro l x W K hK
    gi_wp2
    exact hK _ _ (Turns.refl _ _) (by simp)
  case body =>
    rintro l M st x rest a' W hlw ⟨r, hr⟩ rfl ⟨hS, hle, hbx⟩ hM ht
    cases st with
    | nil => cases ht
    | cons p st =>
      simp only [todoS, List.map_cons, List.cons.injEq] at ht
      obtain ⟨rfl, rfl⟩ := ht
      have c1 := hbx.cell
      have f1 := hbx.frozen
      gi_wp2
      obtain ⟨c, hc⟩ : ∃ c : Value, c = Value.int IntKind.i64 (((nodesV f t - leftS f (p :: st) : Nat) : Int) + 1) := ⟨_, rfl⟩
      rw [← hc]
      have hS1 := hS.round (W' := W.setCell ⟨w.heap.size + 1, 0, none⟩ c) (Turns.setCell _ _ _ (.inl rfl))
      obtain ⟨ks, hkd, hks, hS2, _, hleft⟩ := hS1.next
      refine ⟨⟨(KeepsOthers.setCell _ _ _).from _, Turns.setCell (M := fun b => ¬ M b) _ _ _ (fun hm => by have : w.heap.size + 2 ≤ w.heap.size + 1 := hS.mine _ hm; omega)⟩, ks ++ st, ks.map Prod.fst, ⟨hS2, by omega, ?_⟩, by simp [todoS], by omega, hkd⟩
      have e1 : ((nodesV f t - leftS f (ks ++ st) : Nat) : Int) = ((nodesV f t - leftS f (p :: st) : Nat) : Int) + 1 := by omega
      rw [e1, ← hc]
      exact hbx.set c
  case done =>
    rintro D M st W hD ht ⟨hS, hle, hbx⟩ hdf
    obtain rfl : st = [] := List.map_eq_nil_iff.1 ht
    have c1 := hbx.cell
    have e0 : nodesV f t - leftS f [] = nodesV f t := rfl
    rw [e0] at c1
    gi_wp2
    refine ⟨by simp, .inl ⟨_, _, rfl, run_takeDeferred hdf, ?_⟩⟩
    refine ⟨_, results_tmp rfl _ _ _, rfl, ?_⟩
    exact tb.trans (((hS.turn.trans (Turns.putObj (M := fun b => w.heap.size + 2 ≤ b) _ _ _ (by omega)) (fun b _ h => .inr h)).below (n := w.heap.size) (by omega) (fun b h => by omega)))
end Go.Proofs.YteehffjainffcaaDoor.valus
