/- The program's Depth. -/
import Derived.Test.YteehffjainffcaaDoorValNodesW
set_option linter.unusedVariables false
namespace Go.Proofs.YteehffjainffcaaDoor.valus
open Go.RowKit Go.Shelf
attribute [local go_sem] Oper.semAt_some

/-- How deep what waits reaches. -/
def reach (f : Nat) : List (Nd × V) → Nat
  | [] => 0
  | p :: s => max (p.1.2.2.toNat + depthV f p.2) (reach f s)
theorem reach_append (f : Nat) : ∀ a b : List (Nd × V), reach f (a ++ b) = max (reach f a) (reach f b)
  | [], b => by simp [reach]
  | p :: a, b => by rw [List.cons_append, reach, reach, reach_append f a b]; omega
theorem depth_parts {f : Nat} {t : V} (h : IsV f t) : depthV f t = maxOf (depthV f) (parts t) + 1 := by
  rw [← depthV_more h]
  rfl
theorem reach_kids (f : Nat) (a : Nat) : ∀ ks : List (Nd × V), (∀ k, k ∈ ks → k.1.2.2 = (a : Int)) → max a (reach f ks) = a + maxOf (depthV f) (ks.map Prod.snd)
  | [], _ => by simp [reach, maxOf]
  | k :: ks, h => by
    have h1 := h k (by simp)
    have h2 := reach_kids f a ks (fun q hq => h q (by simp [hq]))
    simp only [reach, List.map_cons, maxOf]
    rw [h1]
    simp only [Int.toNat_natCast]
    omega
theorem reach_next {f : Nat} {p : Nd × V} {ks s : List (Nd × V)} {cur a : Nat} (hp : IsV f p.2) (ha : p.1.2.2 = (a : Int)) (hk : ∀ k, k ∈ ks → k.1.2.2 = ((a + 1 : Nat) : Int)) (hs : ks.map Prod.snd = parts p.2) :
    max (max cur a + 1) (reach f (ks ++ s)) = max (cur + 1) (reach f (p :: s)) := by
  have h1 := reach_kids f (a + 1) ks hk
  rw [hs] at h1
  have h2 := depth_parts hp
  rw [reach_append]
  simp only [reach]
  rw [ha, h2]
  simp only [Int.toNat_natCast]
  omega

set_option maxRecDepth 100000 in
set_option maxHeartbeats 4000000 in
theorem depth_any (f : Nat) (w : World) (t : V) (a0 a1 a2 a3 a4 a5 : Value) (hl : LiesV (fun b => b < w.heap.size) f w [a0, a1, a2, a3, a4, a5] t) (hn : nodesV f t ≤ 10000000) :
    CallsIn Fence.wide 9 Tryd.prog 7 #[.agg #[a0, a1, a2, a3, a4, a5]] w fun e w' => e = .returned (.int .i64 (depthV f t : Int)) ∧ Below w.heap.size w w' := by
  obtain ⟨k, n, b, s, pL, nL, cL, pE, nE, cE, rfl, rfl, rfl, rfl, rfl, rfl⟩ := hl.form
  refine callsIn_of_wp_marks Tryd.func7 rfl trivial ?_ rfl
  simp only [Tryd.ntmps7, List.size_toArray, List.length_cons, List.length_nil, Nat.reduceAdd, Nat.reduceSub, Array.replicate_succ, Array.replicate_zero, List.push_toArray, List.append_toArray, List.nil_append, List.cons_append]
  gi_wp2
  obtain ⟨Wb, hWb⟩ : ∃ Wb, Wb = (w.alloc (.cells #[.int .i64 k, .int .i64 n, .int .u64 (b : Int), .string s, .slice pL nL cL, .slice pE nE cE] 26)).alloc (.cells #[.int .i64 0] 3) := ⟨_, rfl⟩
  rw [← hWb]
  have sb : Wb.heap.size = w.heap.size + 2 := by rw [hWb]; simp
  have tb : Below w.heap.size w Wb := by rw [hWb]; exact ((Below.refl _ w).alloc (Nat.le_refl _) _).alloc (by simp) _
  have vb : Blk Wb w.heap.size #[.int .i64 k, .int .i64 n, .int .u64 (b : Int), .string s, .slice pL nL cL, .slice pE nE cE] 26 := by rw [hWb]; exact (blk_alloc w _ _).alloc _
  have cb : Boxed Wb (w.heap.size + 1) 3 (.int .i64 0) := by
    rw [hWb]
    have := Boxed.new (w.alloc (.cells #[.int .i64 k, .int .i64 n, .int .u64 (b : Int), .string s, .slice pL nL cL, .slice pE nE cE] 26)) 3 (.int .i64 0)
    rwa [World.size_alloc] at this
  clear hWb
  refine ⟨trivial, (nodesN_any _ _ _).mono ?_⟩
  rintro e w' ⟨rfl, rfl⟩
  gi_wp2
  obtain ⟨W2, hW2⟩ : ∃ W2, W2 = (Wb.alloc (.cells #[.pointer (some ⟨w.heap.size, 0, none⟩), .int .i64 0] 40)).alloc (.cells #[.func (.func 13) #[] #[]] 46) := ⟨_, rfl⟩
  rw [← hW2]
  have s2 : W2.heap.size = Wb.heap.size + 2 := by rw [hW2]; simp
  have t2 : Turns (fun _ => False) Wb W2 := by rw [hW2]; exact (Turns.alloc _ _ _).trans (Turns.alloc (fun _ => False) _ _) (fun _ _ h => h)
  have x1 : W2.heap[w.heap.size + 2]? = some (.cells #[.pointer (some ⟨w.heap.size, 0, none⟩), .int .i64 0] 40) := by rw [← sb, hW2]; exact (blk_alloc Wb _ _).alloc _
  have x2 : W2.heap[w.heap.size + 2 + 1]? = some (.cells #[.func (.func 13) #[] #[]] 46) := by
    rw [← sb, hW2]
    have := blk_alloc (Wb.alloc (.cells #[.pointer (some ⟨w.heap.size, 0, none⟩), .int .i64 0] 40)) #[.func (.func 13) #[] #[]] 46
    rwa [World.size_alloc] at this
  clear hW2
  refine wpIn_range_walk (lb := #[.pointer (some ⟨w.heap.size + 2, 0, none⟩), .pointer (some ⟨w.heap.size + 2 + 1, 0, none⟩)]) rfl (enters_of Tryd.func19 (by kernel_rfl) rfl)
    (walkN_in (w.heap.size + 2) (w.heap.size + 2 + 1) (w.heap.size, 0, 0) todoS (leftS f) W2 x1 x2) (Below.refl _ _) rfl (fun M W x kids l o o' h _ h2 h3 => h.put o' h2 h3)
    (w.heap.size + 2) (by omega)
    (fun M st W => Still (w.heap.size + 2) (fun b => b = w.heap.size + 1) f Wb M st W ∧ leftS f st ≤ nodesV f t ∧ (∀ p, p ∈ st → 0 ≤ p.1.2.2) ∧ ∃ cur : Nat, max (cur + 1) (reach f st) = depthV f t ∧ Boxed W (w.heap.size + 1) 3 (.int .i64 (cur : Int)))
    (fun _ _ _ _ => False) ?ab (fun c M M' s W W' h _ _ => h) [((w.heap.size, 0, 0), t)] rfl (fun b h => by omega) ?start (fun M st X h => by have := todo_len h.1; omega)
    (fun x a' W => ∃ Bx, Blk W Bx #[.pointer (some ⟨x.1, x.2.1, none⟩), .int .i64 x.2.2] 40 ∧ a' = { tmps := #[.agg #[.int .i64 k, .int .i64 n, .int .u64 (b : Int), .string s, .slice pL nL cL, .slice pE nE cE], .pointer (some ⟨w.heap.size, 0, none⟩), .int .i64 0, .pointer (some ⟨w.heap.size + 1, 0, none⟩), .pointer (some ⟨Bx, 0, none⟩), .func (.func 19) #[] #[.pointer (some ⟨w.heap.size + 2, 0, none⟩), .pointer (some ⟨w.heap.size + 2 + 1, 0, none⟩)], encN x, undef, undef, undef, undef, undef, undef], defers := [] })
    ?ax ?assign ?body ?done (fun D c M W _ h _ => h.elim)
  case ab =>
    rintro M M' st A B ⟨hS, hle, hab, cur, hcur, hbx⟩ ht hm
    exact ⟨hS.abides ht hm, hle, hab, cur, hcur, hS.box (by omega) hbx ht⟩
  case start =>
    have e0 : leftS f [((w.heap.size, 0, 0), t)] = nodesV f t := by rw [leftS_cons]; rfl
    refine ⟨still_start hl tb (fun i hi => ?_) (by omega) (by omega) (by omega) (fun b hb => by omega) (by omega) (fun b hb => by omega) (t2.mono fun _ _ h => h.elim), by rw [e0]; exact Nat.le_refl _, by simp, 0, ?_, ?_⟩
    · rw [Nat.zero_add]
      match i, hi with
      | 0, _ => exact vb.cell 0 _ rfl
      | 1, _ => exact vb.cell 1 _ rfl
      | 2, _ => exact vb.cell 2 _ rfl
      | 3, _ => exact vb.cell 3 _ rfl
      | 4, _ => exact vb.cell 4 _ rfl
      | 5, _ => exact vb.cell 5 _ rfl
    · have := depth_pos hl.isV
      simp only [reach, Int.toNat_zero]
      omega
    · exact (t2.block _ cb.lt (fun h => h)).trans cb
  case ax =>
    rintro x a' W l o o' ⟨Bx, hb, ha⟩ h1 h2
    refine ⟨Bx, (World.putObj_heap_other (fun e => ?_)).trans hb, ha⟩
    rw [← e, show W.heap[Bx]? = _ from hb] at h1
    cases h1
    cases h2
  case assign =>
    intro l x W K hK
    simp only [encN] at *
    gi_wp2
    exact hK _ _ (Turns.alloc _ _ _) ⟨W.heap.size, blk_alloc _ _ _, by simp⟩
  case body =>
    rintro l M st x rest a' W hlw ⟨r, hr⟩ ⟨Bx, hbB, rfl⟩ ⟨hS, hle, hab, cur, hcur, hbx⟩ hM ht
    cases st with
    | nil => cases ht
    | cons p st =>
      simp only [todoS, List.map_cons, List.cons.injEq] at ht
      obtain ⟨rfl, rfl⟩ := ht
      have c1 := hbx.cell
      have f1 := hbx.frozen
      have d1 := hbB.cell 1 _ rfl
      obtain ⟨a, ha⟩ : ∃ a : Nat, p.1.2.2 = (a : Int) := ⟨p.1.2.2.toNat, by have := hab p (by simp); omega⟩
      rw [ha] at d1
      have hd1 := depth_nodes (n := f) (v := t)
      have hreach : a ≤ depthV f t ∧ cur ≤ depthV f t := by
        have := hcur
        simp only [reach, ha, Int.toNat_natCast] at this
        omega
      gi_wp2
      obtain ⟨c, hc⟩ : ∃ c : Nat, c = max cur a := ⟨_, rfl⟩
      have ec : max (cur : Int) (a : Int) = (c : Int) := by omega
      rw [ec]
      have hS1 := hS.round (W' := W.setCell ⟨w.heap.size + 1, 0, none⟩ (.int .i64 (c : Int))) (Turns.setCell _ _ _ (.inl rfl))
      obtain ⟨ks, hkd, hks, hS2, hka, hleft⟩ := hS1.next
      have hw : IntKind.i64.wrap (p.1.2.2 + 1) = ((a + 1 : Nat) : Int) := by
        rw [ha, IntWalk.i64_left, IntWalk.wrap64_in _ (by omega)]
        omega
      refine ⟨⟨(KeepsOthers.setCell _ _ _).from _, Turns.setCell (M := fun b => ¬ M b) _ _ _ (fun hm => by have : w.heap.size + 2 ≤ w.heap.size + 1 := hS.mine _ hm; omega)⟩, ks ++ st, ks.map Prod.fst, ⟨hS2, by omega, ?_, c, ?_, hbx.set _⟩, by simp [todoS], by omega, hkd⟩
      · intro q hq
        rcases List.mem_append.1 hq with hq | hq
        · rw [hka q hq, hw]
          omega
        · exact hab q (by simp [hq])
      · rw [hc, ← hcur]
        exact reach_next (hS.lies p (by simp)).isV ha (fun k hk => (hka k hk).trans hw) hks
  case done =>
    rintro D M st W hD ht ⟨hS, hle, hab, cur, hcur, hbx⟩ hdf
    obtain rfl : st = [] := List.map_eq_nil_iff.1 ht
    have c1 := hbx.cell
    have hd1 := depth_nodes (n := f) (v := t)
    have e0 : (cur : Int) + 1 = (depthV f t : Int) := by
      simp only [reach] at hcur
      omega
    have hcl : (cur : Int) < 10000000 := by omega
    gi_wp2
    refine ⟨by simp, .inl ⟨_, _, rfl, run_takeDeferred hdf, ?_⟩⟩
    refine ⟨_, results_tmp rfl _ _ _, rfl, ?_⟩
    exact tb.trans (((hS.turn.trans (Turns.putObj (M := fun b => w.heap.size + 2 ≤ b) _ _ _ (by omega)) (fun b _ h => .inr h)).below (n := w.heap.size) (by omega) (fun b h => by omega)))
end Go.Proofs.YteehffjainffcaaDoor.valus
