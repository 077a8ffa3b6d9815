/- Of our texts, what this claim reaches. -/
import Derived.Test.YtadaehaemmelfaaDoorPabAS
import Derived.Test.YtadaehaemmelfaaDoorPabAH
import Derived.Test.YtadaehaemmelfaaDoorPabAB
import Derived.Maps.OwnIn
set_option linter.unusedVariables false
set_option maxHeartbeats 4000000
set_option maxRecDepth 100000
namespace Go.Proofs.YtadaehaemmelfaaDoor.valus
open Go.RowKit Go.Shelf
def Free (W : World) (b : Nat) : Prop := ∀ i, W.frozen? ⟨b, i, none⟩ = false
theorem Free.set {W : World} {b : Nat} (h : Free W b) (p : Addr) (v : Value) : Free (W.setCell p v) b := fun i => by
 rw [World.frozen?_setCell]
 exact h i
theorem Free.same {W W' : World} {b : Nat} (h : Free W b) (hb : W'.heap[b]? = W.heap[b]?) : Free W' b := fun i => by
 rw [World.frozen?_of_block (w := W) (w' := W') (a := ⟨b, i, none⟩) hb]
 exact h i
theorem append_old {P : Program} (T ty e : TypeId) (inf : TypeInfo) (z : Value) (d bytes : Nat) (ht : P.underlying T = some (.slice e)) (hi : P.info? e = some inf) (hz : inf.zero = some z) (hsize : inf.size = d) (hby : inf.bytes = bytes) (hzs : z.cells.size = d) (hd : 0 < d) (hd7 : bytes ≤ 200)
  {W : World} {p : Option Addr} {n c : Nat} (hn : n ≤ 10000000)
  (hrow : n ≠ 0 → ∃ b q, p = some ⟨b, q, none⟩ ∧ ∀ i, i < n * d → ∃ u, W.cell? ⟨b, q + i, none⟩ = some u ∧ u.oneCell' = true) :
  ∃ p' c' W1, (Builtin.append_ #[T, T] ty #[.slice none 0 0, .slice p n c]).run P W = .ok (.slice p' n c') W1 ∧ W.grownBy W1 none ∧ n ≤ c' ∧ c' ≤ maxLen ∧
   (n ≠ 0 → p' = some ⟨W.heap.size, 0, none⟩ ∧ W.heap.size < W1.heap.size ∧ Free W1 W.heap.size ∧ ∃ b q, p = some ⟨b, q, none⟩ ∧ ∀ i, i < n * d → W1.cell? ⟨W.heap.size, 0 + i, none⟩ = W.cell? ⟨b, q + i, none⟩) := by
 by_cases h0 : n = 0
 ·subst h0
  refine ⟨none, 0, W, ?_, ⟨rfl, rfl, rfl, Nat.le_refl _, fun _ _ _ => rfl⟩, Nat.le_refl _, Nat.zero_le _, fun h => absurd rfl h⟩
  cases p <;> simp [Builtin.append_, run_underlying ht, sizeOf, typeInfo, hi, Builtin.lenOf, Builtin.firstCells, loadCells, loadCellsFrom]
 ·obtain ⟨b, q, rfl, hc⟩ := hrow h0
  obtain ⟨v', W1, hr, h2, h3, h4, h5⟩ := run_append_own_at (P := P) W 0 T ty e inf z d bytes ht hi hz hsize hby hzs hd (.slice none 0 0) 0 [] (World.ownsRow_nil _ _ _ _) ⟨b, q, none⟩ n c
   ((List.range (n * d)).map fun i => (W.cell? ⟨b, q + i, none⟩).getD undef) (by simp)
   (fun j u h => by
    rw [List.getElem?_map] at h
    by_cases hj : j < n * d
    ·rw [List.getElem?_range hj] at h
     obtain ⟨u', hu, _⟩ := hc j hj
     simp only [Option.map_some, Option.some.injEq, hu, Option.getD_some] at h
     rw [← h]
     rw [Addr.add_lit]
     exact hu
    ·rw [List.getElem?_eq_none (by simp; omega)] at h
     cases h)
   (fun u h => by
    obtain ⟨j, hj, e⟩ := List.mem_map.1 h
    obtain ⟨u', hu, h1⟩ := hc j (List.mem_range.1 hj)
    rw [hu] at e
    rw [← e]
    exact h1) (by unfold maxLen; omega) (by rw [Nat.zero_add]; have := Nat.mul_le_mul hn hd7; omega) (Nat.zero_le _)
  rw [Nat.zero_add, List.nil_append] at h2
  obtain ⟨hl, hh⟩ := h2
  rcases hh with ⟨_, h⟩ | ⟨g, cap, cur, rfl, _, hg, k1, k2, k3, k4⟩
  ·exact absurd h h0
  ·have hgs : g = W.heap.size := by
    rcases h5 with h | h
    ·cases h
    ·simpa [Value.ownBlock] using h
   subst hgs
   refine ⟨_, cap, W1, hr, h3, k1, k2, fun _ => ⟨rfl, (Array.getElem?_eq_some_iff.1 hg).1, fun i => by simp [World.frozen?, hg], b, q, rfl, fun i hi => ?_⟩⟩
   obtain ⟨u, hu, _⟩ := hc i hi
   have e1 : cur.toList[i]? = some u := by
    have e2 : (cur.toList.take (n * d))[i]? = some u := by
     rw [k4, List.getElem?_map, List.getElem?_range hi]
     simp [hu]
    rwa [List.getElem?_take_of_lt hi] at e2
   rw [hu, Nat.zero_add]
   rw [Array.getElem?_toList] at e1
   simp [World.cell?, hg, e1]
theorem opIn_append {l n : Nat} {P : Program} {ops : Array Oper} {o : Oper} {a : Act} {w w' : World} {K : Act → World → Prop} {Q : Exit → Act → World → Prop} (s x : Operand) (t : TypeId)
  (ho : o.op = .call { callee := .builtin .append, args := #[s, x], argTypes := #[t, t] }) (hg : o.guard = none) {v u v' : Value} (hs : a.eval s = v) (hx : a.eval x = u)
  (hr : (Builtin.append_ #[t, t] o.type #[v, u]).run P w = .ok v' w') (hK : K (a.put o.dst v') w') :
  if Region.wanted o (yielded ops a.tmps) = true then Oper.wpIn (Fence.wide.inRound l) n P o a w K Q else (∀ f, o.about P w a.eval = some f → (Fence.wide.inRound l).fn f) ∧ K (a.put o.dst undef) w := by
 rw [if_pos (by simp [Region.wanted, hg])]
 unfold Oper.wpIn
 refine ⟨fun _ _ => trivial, ?_⟩
 rw [Oper.semAt_plain _ _ _ (by rw [ho]; intro c hc'; cases hc')]
 simp [execOp, ho, resolve, invoke, builtin, hs, hx, hr, Result.andThen]
 exact hK
end Go.Proofs.YtadaehaemmelfaaDoor.valus
namespace Go.Proofs.YtadaehaemmelfaaDoor.valus
open Go.RowKit Go.Shelf
attribute [local go_sem] Oper.semAt_some
theorem copyL {l : Nat} {Q : Exit → Act → World → Prop} {ops : Array Oper} {D : List Deferred} {t0 t1 t2 t4 t5 t6 t7 t8 t9 t10 t11 t12 t13 t14 t15 t16 t17 t18 t19 t20 t21 t22 t23 t24 t25 t26 : Value} {W W1 : World} {Bx B o n c c' : Nat} {p p' : Option Addr} {q0 q1 q2 q3 q4 q5 q6 q7 q8 q9 q10 : String} {f0 f1 f2 f3 f4 f5 f6 f7 f8 f9 f10 : _}
  (h0 : ops[0]? = some { dst := some 6, op := .fieldAddr 77 (.tmp 3) 0, type := 0, pos := q0, after := f0, guard := none })
  (h1 : ops[1]? = some { dst := some 7, op := .load 58 (.tmp 6), type := 58, pos := q1, after := f1, guard := none })
  (h2 : ops[2]? = some { dst := some 8, op := .fieldAddr 77 (.tmp 3) 0, type := 0, pos := q2, after := f2, guard := none })
  (h3 : ops[3]? = some { dst := some 9, op := .load 58 (.tmp 8), type := 58, pos := q3, after := f3, guard := none })
  (h4 : ops[4]? = some { dst := some 10, op := .nilCheck (.tmp 9), type := 0, pos := q4, after := f4, guard := none })
  (h5 : ops[5]? = some { dst := some 11, op := .fieldAddr 26 (.tmp 10) 4, type := 0, pos := q5, after := f5, guard := none })
  (h6 : ops[6]? = some { dst := some 12, op := .load 23 (.tmp 11), type := 23, pos := q6, after := f6, guard := none })
  (h7 : ops[7]? = some { dst := some 13, op := .call { callee := .builtin .append, args := #[.const (.slice none 0 0), .tmp 12], argTypes := #[23, 23] }, type := 23, pos := q7, after := f7, guard := none })
  (h8 : ops[8]? = some { dst := some 14, op := .nilCheck (.tmp 7), type := 0, pos := q8, after := f8, guard := none })
  (h9 : ops[9]? = some { dst := some 15, op := .fieldAddr 26 (.tmp 14) 4, type := 0, pos := q9, after := f9, guard := none })
  (h10 : ops[10]? = some { dst := none, op := .store 23 (.tmp 15) (.tmp 13), type := 0, pos := q10, after := f10, guard := none })
  (r0_0 : Region.ready .any ops #[false, false, false, false, false, false, false, false, false, false, false] = [0, 2])
  (r0_1 : Region.ready .any ops #[false, false, true, false, false, false, false, false, false, false, false] = [0, 3])
  (r0_2 : Region.ready .any ops #[false, false, true, true, false, false, false, false, false, false, false] = [0, 4])
  (r0_3 : Region.ready .any ops #[false, false, true, true, true, false, false, false, false, false, false] = [0, 5])
  (r0_4 : Region.ready .any ops #[false, false, true, true, true, true, false, false, false, false, false] = [0, 6])
  (r0_5 : Region.ready .any ops #[false, false, true, true, true, true, true, false, false, false, false] = [0, 7])
  (r0_6 : Region.ready .any ops #[false, false, true, true, true, true, true, true, false, false, false] = [0])
  (r1_0 : Region.ready .any ops #[true, false, false, false, false, false, false, false, false, false, false] = [1, 2])
  (r1_1 : Region.ready .any ops #[true, false, true, false, false, false, false, false, false, false, false] = [1, 3])
  (r1_2 : Region.ready .any ops #[true, false, true, true, false, false, false, false, false, false, false] = [1, 4])
  (r1_3 : Region.ready .any ops #[true, false, true, true, true, false, false, false, false, false, false] = [1, 5])
  (r1_4 : Region.ready .any ops #[true, false, true, true, true, true, false, false, false, false, false] = [1, 6])
  (r1_5 : Region.ready .any ops #[true, false, true, true, true, true, true, false, false, false, false] = [1, 7])
  (r1_6 : Region.ready .any ops #[true, false, true, true, true, true, true, true, false, false, false] = [1])
  (r2_0 : Region.ready .any ops #[true, true, false, false, false, false, false, false, false, false, false] = [2])
  (r2_1 : Region.ready .any ops #[true, true, true, false, false, false, false, false, false, false, false] = [3])
  (r2_2 : Region.ready .any ops #[true, true, true, true, false, false, false, false, false, false, false] = [4])
  (r2_3 : Region.ready .any ops #[true, true, true, true, true, false, false, false, false, false, false] = [5])
  (r2_4 : Region.ready .any ops #[true, true, true, true, true, true, false, false, false, false, false] = [6])
  (r2_5 : Region.ready .any ops #[true, true, true, true, true, true, true, false, false, false, false] = [7])
  (r2_6 : Region.ready .any ops #[true, true, true, true, true, true, true, true, false, false, false] = [8])
  (ra : Region.ready .any ops #[true, true, true, true, true, true, true, true, true, false, false] = [9])
  (rb : Region.ready .any ops #[true, true, true, true, true, true, true, true, true, true, false] = [10])
  (rc : Region.ready .any ops #[true, true, true, true, true, true, true, true, true, true, true] = [])
  (c0 : W.cell? ⟨Bx, 0, none⟩ = some (.pointer (some ⟨B, o, none⟩))) (c4 : W.cell? ⟨B, o + 4, none⟩ = some (.slice p n c)) (hrun : (Builtin.append_ #[23, 23] 23 #[.slice none 0 0, .slice p n c]).run Tryd.prog W = .ok (.slice p' n c') W1)
  (d0 : W1.cell? ⟨Bx, 0, none⟩ = some (.pointer (some ⟨B, o, none⟩))) (d4 : W1.cell? ⟨B, o + 4, none⟩ = some (.slice p n c)) (e4 : W1.frozen? ⟨B, o + 4, none⟩ = false)
  (hQ : Q .normal { tmps := #[t0, t1, t2, (.pointer (some ⟨Bx, 0, none⟩)), t4, t5, (.pointer (some ⟨Bx, 0, none⟩)), (.pointer (some ⟨B, o, none⟩)), (.pointer (some ⟨Bx, 0, none⟩)), (.pointer (some ⟨B, o, none⟩)), (.pointer (some ⟨B, o, none⟩)), (.pointer (some ⟨B, o + 4, none⟩)), (.slice p n c), (.slice p' n c'), (.pointer (some ⟨B, o, none⟩)), (.pointer (some ⟨B, o + 4, none⟩)), t16, t17, t18, t19, t20, t21, t22, t23, t24, t25, t26], defers := D } (W1.setCell ⟨B, o + 4, none⟩ (.slice p' n c'))) :
  wpAnyIn (Fence.wide.inRound l) 9 Tryd.prog .any ops Q 11 #[false, false, false, false, false, false, false, false, false, false, false] { tmps := #[t0, t1, t2, (.pointer (some ⟨Bx, 0, none⟩)), t4, t5, t6, t7, t8, t9, t10, t11, t12, t13, t14, t15, t16, t17, t18, t19, t20, t21, t22, t23, t24, t25, t26], defers := D } W := by
 have sc : wpAnyIn (Fence.wide.inRound l) 9 Tryd.prog .any ops Q 0 #[true, true, true, true, true, true, true, true, true, true, true] { tmps := #[t0, t1, t2, (.pointer (some ⟨Bx, 0, none⟩)), t4, t5, (.pointer (some ⟨Bx, 0, none⟩)), (.pointer (some ⟨B, o, none⟩)), (.pointer (some ⟨Bx, 0, none⟩)), (.pointer (some ⟨B, o, none⟩)), (.pointer (some ⟨B, o, none⟩)), (.pointer (some ⟨B, o + 4, none⟩)), (.slice p n c), (.slice p' n c'), (.pointer (some ⟨B, o, none⟩)), (.pointer (some ⟨B, o + 4, none⟩)), t16, t17, t18, t19, t20, t21, t22, t23, t24, t25, t26], defers := D } (W1.setCell ⟨B, o + 4, none⟩ (.slice p' n c')) := wpAnyIn_done rc hQ _
 have sb : wpAnyIn (Fence.wide.inRound l) 9 Tryd.prog .any ops Q 1 #[true, true, true, true, true, true, true, true, true, true, false] { tmps := #[t0, t1, t2, (.pointer (some ⟨Bx, 0, none⟩)), t4, t5, (.pointer (some ⟨Bx, 0, none⟩)), (.pointer (some ⟨B, o, none⟩)), (.pointer (some ⟨Bx, 0, none⟩)), (.pointer (some ⟨B, o, none⟩)), (.pointer (some ⟨B, o, none⟩)), (.pointer (some ⟨B, o + 4, none⟩)), (.slice p n c), (.slice p' n c'), (.pointer (some ⟨B, o, none⟩)), (.pointer (some ⟨B, o + 4, none⟩)), t16, t17, t18, t19, t20, t21, t22, t23, t24, t25, t26], defers := D } W1 := by
  refine wpAnyIn_ready rb (by simp) (AllReadyIn.cons h10 (fun K hK => ?_) AllReadyIn.nil)
  go_simp
  exact hK _ _ sc
 have sa : wpAnyIn (Fence.wide.inRound l) 9 Tryd.prog .any ops Q 2 #[true, true, true, true, true, true, true, true, true, false, false] { tmps := #[t0, t1, t2, (.pointer (some ⟨Bx, 0, none⟩)), t4, t5, (.pointer (some ⟨Bx, 0, none⟩)), (.pointer (some ⟨B, o, none⟩)), (.pointer (some ⟨Bx, 0, none⟩)), (.pointer (some ⟨B, o, none⟩)), (.pointer (some ⟨B, o, none⟩)), (.pointer (some ⟨B, o + 4, none⟩)), (.slice p n c), (.slice p' n c'), (.pointer (some ⟨B, o, none⟩)), t15, t16, t17, t18, t19, t20, t21, t22, t23, t24, t25, t26], defers := D } W1 := by
  refine wpAnyIn_ready ra (by simp) (AllReadyIn.cons h9 (fun K hK => ?_) AllReadyIn.nil)
  go_simp
  exact hK _ _ sb
 have s2_6 : wpAnyIn (Fence.wide.inRound l) 9 Tryd.prog .any ops Q 3 #[true, true, true, true, true, true, true, true, false, false, false] { tmps := #[t0, t1, t2, (.pointer (some ⟨Bx, 0, none⟩)), t4, t5, (.pointer (some ⟨Bx, 0, none⟩)), (.pointer (some ⟨B, o, none⟩)), (.pointer (some ⟨Bx, 0, none⟩)), (.pointer (some ⟨B, o, none⟩)), (.pointer (some ⟨B, o, none⟩)), (.pointer (some ⟨B, o + 4, none⟩)), (.slice p n c), (.slice p' n c'), t14, t15, t16, t17, t18, t19, t20, t21, t22, t23, t24, t25, t26], defers := D } W1 := by
  refine wpAnyIn_ready r2_6 (by simp) (AllReadyIn.cons h8 (fun K hK => ?_) AllReadyIn.nil)
  go_simp
  exact hK _ _ sa
 have s1_6 : wpAnyIn (Fence.wide.inRound l) 9 Tryd.prog .any ops Q 4 #[true, false, true, true, true, true, true, true, false, false, false] { tmps := #[t0, t1, t2, (.pointer (some ⟨Bx, 0, none⟩)), t4, t5, (.pointer (some ⟨Bx, 0, none⟩)), t7, (.pointer (some ⟨Bx, 0, none⟩)), (.pointer (some ⟨B, o, none⟩)), (.pointer (some ⟨B, o, none⟩)), (.pointer (some ⟨B, o + 4, none⟩)), (.slice p n c), (.slice p' n c'), t14, t15, t16, t17, t18, t19, t20, t21, t22, t23, t24, t25, t26], defers := D } W1 := by
  refine wpAnyIn_ready r1_6 (by simp) ?_
  refine AllReadyIn.cons h1 (fun K hK => ?_) ?_
  ·go_simp
   exact hK _ _ s2_6
  exact AllReadyIn.nil
 have s2_5 : wpAnyIn (Fence.wide.inRound l) 9 Tryd.prog .any ops Q 4 #[true, true, true, true, true, true, true, false, false, false, false] { tmps := #[t0, t1, t2, (.pointer (some ⟨Bx, 0, none⟩)), t4, t5, (.pointer (some ⟨Bx, 0, none⟩)), (.pointer (some ⟨B, o, none⟩)), (.pointer (some ⟨Bx, 0, none⟩)), (.pointer (some ⟨B, o, none⟩)), (.pointer (some ⟨B, o, none⟩)), (.pointer (some ⟨B, o + 4, none⟩)), (.slice p n c), t13, t14, t15, t16, t17, t18, t19, t20, t21, t22, t23, t24, t25, t26], defers := D } W := by
  refine wpAnyIn_ready r2_5 (by simp) ?_
  refine AllReadyIn.cons h7 (fun K hK => ?_) ?_
  ·exact opIn_append _ _ _ rfl rfl rfl rfl hrun (hK _ _ s2_6)
  exact AllReadyIn.nil
 have s0_6 : wpAnyIn (Fence.wide.inRound l) 9 Tryd.prog .any ops Q 5 #[false, false, true, true, true, true, true, true, false, false, false] { tmps := #[t0, t1, t2, (.pointer (some ⟨Bx, 0, none⟩)), t4, t5, t6, t7, (.pointer (some ⟨Bx, 0, none⟩)), (.pointer (some ⟨B, o, none⟩)), (.pointer (some ⟨B, o, none⟩)), (.pointer (some ⟨B, o + 4, none⟩)), (.slice p n c), (.slice p' n c'), t14, t15, t16, t17, t18, t19, t20, t21, t22, t23, t24, t25, t26], defers := D } W1 := by
  refine wpAnyIn_ready r0_6 (by simp) ?_
  refine AllReadyIn.cons h0 (fun K hK => ?_) ?_
  ·go_simp
   exact hK _ _ s1_6
  exact AllReadyIn.nil
 have s1_5 : wpAnyIn (Fence.wide.inRound l) 9 Tryd.prog .any ops Q 5 #[true, false, true, true, true, true, true, false, false, false, false] { tmps := #[t0, t1, t2, (.pointer (some ⟨Bx, 0, none⟩)), t4, t5, (.pointer (some ⟨Bx, 0, none⟩)), t7, (.pointer (some ⟨Bx, 0, none⟩)), (.pointer (some ⟨B, o, none⟩)), (.pointer (some ⟨B, o, none⟩)), (.pointer (some ⟨B, o + 4, none⟩)), (.slice p n c), t13, t14, t15, t16, t17, t18, t19, t20, t21, t22, t23, t24, t25, t26], defers := D } W := by
  refine wpAnyIn_ready r1_5 (by simp) ?_
  refine AllReadyIn.cons h1 (fun K hK => ?_) ?_
  ·go_simp
   exact hK _ _ s2_5
  refine AllReadyIn.cons h7 (fun K hK => ?_) ?_
  ·exact opIn_append _ _ _ rfl rfl rfl rfl hrun (hK _ _ s1_6)
  exact AllReadyIn.nil
 have s2_4 : wpAnyIn (Fence.wide.inRound l) 9 Tryd.prog .any ops Q 5 #[true, true, true, true, true, true, false, false, false, false, false] { tmps := #[t0, t1, t2, (.pointer (some ⟨Bx, 0, none⟩)), t4, t5, (.pointer (some ⟨Bx, 0, none⟩)), (.pointer (some ⟨B, o, none⟩)), (.pointer (some ⟨Bx, 0, none⟩)), (.pointer (some ⟨B, o, none⟩)), (.pointer (some ⟨B, o, none⟩)), (.pointer (some ⟨B, o + 4, none⟩)), t12, t13, t14, t15, t16, t17, t18, t19, t20, t21, t22, t23, t24, t25, t26], defers := D } W := by
  refine wpAnyIn_ready r2_4 (by simp) ?_
  refine AllReadyIn.cons h6 (fun K hK => ?_) ?_
  ·go_simp
   exact hK _ _ s2_5
  exact AllReadyIn.nil
 have s0_5 : wpAnyIn (Fence.wide.inRound l) 9 Tryd.prog .any ops Q 6 #[false, false, true, true, true, true, true, false, false, false, false] { tmps := #[t0, t1, t2, (.pointer (some ⟨Bx, 0, none⟩)), t4, t5, t6, t7, (.pointer (some ⟨Bx, 0, none⟩)), (.pointer (some ⟨B, o, none⟩)), (.pointer (some ⟨B, o, none⟩)), (.pointer (some ⟨B, o + 4, none⟩)), (.slice p n c), t13, t14, t15, t16, t17, t18, t19, t20, t21, t22, t23, t24, t25, t26], defers := D } W := by
  refine wpAnyIn_ready r0_5 (by simp) ?_
  refine AllReadyIn.cons h0 (fun K hK => ?_) ?_
  ·go_simp
   exact hK _ _ s1_5
  refine AllReadyIn.cons h7 (fun K hK => ?_) ?_
  ·exact opIn_append _ _ _ rfl rfl rfl rfl hrun (hK _ _ s0_6)
  exact AllReadyIn.nil
 have s1_4 : wpAnyIn (Fence.wide.inRound l) 9 Tryd.prog .any ops Q 6 #[true, false, true, true, true, true, false, false, false, false, false] { tmps := #[t0, t1, t2, (.pointer (some ⟨Bx, 0, none⟩)), t4, t5, (.pointer (some ⟨Bx, 0, none⟩)), t7, (.pointer (some ⟨Bx, 0, none⟩)), (.pointer (some ⟨B, o, none⟩)), (.pointer (some ⟨B, o, none⟩)), (.pointer (some ⟨B, o + 4, none⟩)), t12, t13, t14, t15, t16, t17, t18, t19, t20, t21, t22, t23, t24, t25, t26], defers := D } W := by
  refine wpAnyIn_ready r1_4 (by simp) ?_
  refine AllReadyIn.cons h1 (fun K hK => ?_) ?_
  ·go_simp
   exact hK _ _ s2_4
  refine AllReadyIn.cons h6 (fun K hK => ?_) ?_
  ·go_simp
   exact hK _ _ s1_5
  exact AllReadyIn.nil
 have s2_3 : wpAnyIn (Fence.wide.inRound l) 9 Tryd.prog .any ops Q 6 #[true, true, true, true, true, false, false, false, false, false, false] { tmps := #[t0, t1, t2, (.pointer (some ⟨Bx, 0, none⟩)), t4, t5, (.pointer (some ⟨Bx, 0, none⟩)), (.pointer (some ⟨B, o, none⟩)), (.pointer (some ⟨Bx, 0, none⟩)), (.pointer (some ⟨B, o, none⟩)), (.pointer (some ⟨B, o, none⟩)), t11, t12, t13, t14, t15, t16, t17, t18, t19, t20, t21, t22, t23, t24, t25, t26], defers := D } W := by
  refine wpAnyIn_ready r2_3 (by simp) ?_
  refine AllReadyIn.cons h5 (fun K hK => ?_) ?_
  ·go_simp
   exact hK _ _ s2_4
  exact AllReadyIn.nil
 have s0_4 : wpAnyIn (Fence.wide.inRound l) 9 Tryd.prog .any ops Q 7 #[false, false, true, true, true, true, false, false, false, false, false] { tmps := #[t0, t1, t2, (.pointer (some ⟨Bx, 0, none⟩)), t4, t5, t6, t7, (.pointer (some ⟨Bx, 0, none⟩)), (.pointer (some ⟨B, o, none⟩)), (.pointer (some ⟨B, o, none⟩)), (.pointer (some ⟨B, o + 4, none⟩)), t12, t13, t14, t15, t16, t17, t18, t19, t20, t21, t22, t23, t24, t25, t26], defers := D } W := by
  refine wpAnyIn_ready r0_4 (by simp) ?_
  refine AllReadyIn.cons h0 (fun K hK => ?_) ?_
  ·go_simp
   exact hK _ _ s1_4
  refine AllReadyIn.cons h6 (fun K hK => ?_) ?_
  ·go_simp
   exact hK _ _ s0_5
  exact AllReadyIn.nil
 have s1_3 : wpAnyIn (Fence.wide.inRound l) 9 Tryd.prog .any ops Q 7 #[true, false, true, true, true, false, false, false, false, false, false] { tmps := #[t0, t1, t2, (.pointer (some ⟨Bx, 0, none⟩)), t4, t5, (.pointer (some ⟨Bx, 0, none⟩)), t7, (.pointer (some ⟨Bx, 0, none⟩)), (.pointer (some ⟨B, o, none⟩)), (.pointer (some ⟨B, o, none⟩)), t11, t12, t13, t14, t15, t16, t17, t18, t19, t20, t21, t22, t23, t24, t25, t26], defers := D } W := by
  refine wpAnyIn_ready r1_3 (by simp) ?_
  refine AllReadyIn.cons h1 (fun K hK => ?_) ?_
  ·go_simp
   exact hK _ _ s2_3
  refine AllReadyIn.cons h5 (fun K hK => ?_) ?_
  ·go_simp
   exact hK _ _ s1_4
  exact AllReadyIn.nil
 have s2_2 : wpAnyIn (Fence.wide.inRound l) 9 Tryd.prog .any ops Q 7 #[true, true, true, true, false, false, false, false, false, false, false] { tmps := #[t0, t1, t2, (.pointer (some ⟨Bx, 0, none⟩)), t4, t5, (.pointer (some ⟨Bx, 0, none⟩)), (.pointer (some ⟨B, o, none⟩)), (.pointer (some ⟨Bx, 0, none⟩)), (.pointer (some ⟨B, o, none⟩)), t10, t11, t12, t13, t14, t15, t16, t17, t18, t19, t20, t21, t22, t23, t24, t25, t26], defers := D } W := by
  refine wpAnyIn_ready r2_2 (by simp) ?_
  refine AllReadyIn.cons h4 (fun K hK => ?_) ?_
  ·go_simp
   exact hK _ _ s2_3
  exact AllReadyIn.nil
 have s0_3 : wpAnyIn (Fence.wide.inRound l) 9 Tryd.prog .any ops Q 8 #[false, false, true, true, true, false, false, false, false, false, false] { tmps := #[t0, t1, t2, (.pointer (some ⟨Bx, 0, none⟩)), t4, t5, t6, t7, (.pointer (some ⟨Bx, 0, none⟩)), (.pointer (some ⟨B, o, none⟩)), (.pointer (some ⟨B, o, none⟩)), t11, t12, t13, t14, t15, t16, t17, t18, t19, t20, t21, t22, t23, t24, t25, t26], defers := D } W := by
  refine wpAnyIn_ready r0_3 (by simp) ?_
  refine AllReadyIn.cons h0 (fun K hK => ?_) ?_
  ·go_simp
   exact hK _ _ s1_3
  refine AllReadyIn.cons h5 (fun K hK => ?_) ?_
  ·go_simp
   exact hK _ _ s0_4
  exact AllReadyIn.nil
 have s1_2 : wpAnyIn (Fence.wide.inRound l) 9 Tryd.prog .any ops Q 8 #[true, false, true, true, false, false, false, false, false, false, false] { tmps := #[t0, t1, t2, (.pointer (some ⟨Bx, 0, none⟩)), t4, t5, (.pointer (some ⟨Bx, 0, none⟩)), t7, (.pointer (some ⟨Bx, 0, none⟩)), (.pointer (some ⟨B, o, none⟩)), t10, t11, t12, t13, t14, t15, t16, t17, t18, t19, t20, t21, t22, t23, t24, t25, t26], defers := D } W := by
  refine wpAnyIn_ready r1_2 (by simp) ?_
  refine AllReadyIn.cons h1 (fun K hK => ?_) ?_
  ·go_simp
   exact hK _ _ s2_2
  refine AllReadyIn.cons h4 (fun K hK => ?_) ?_
  ·go_simp
   exact hK _ _ s1_3
  exact AllReadyIn.nil
 have s2_1 : wpAnyIn (Fence.wide.inRound l) 9 Tryd.prog .any ops Q 8 #[true, true, true, false, false, false, false, false, false, false, false] { tmps := #[t0, t1, t2, (.pointer (some ⟨Bx, 0, none⟩)), t4, t5, (.pointer (some ⟨Bx, 0, none⟩)), (.pointer (some ⟨B, o, none⟩)), (.pointer (some ⟨Bx, 0, none⟩)), t9, t10, t11, t12, t13, t14, t15, t16, t17, t18, t19, t20, t21, t22, t23, t24, t25, t26], defers := D } W := by
  refine wpAnyIn_ready r2_1 (by simp) ?_
  refine AllReadyIn.cons h3 (fun K hK => ?_) ?_
  ·go_simp
   exact hK _ _ s2_2
  exact AllReadyIn.nil
 have s0_2 : wpAnyIn (Fence.wide.inRound l) 9 Tryd.prog .any ops Q 9 #[false, false, true, true, false, false, false, false, false, false, false] { tmps := #[t0, t1, t2, (.pointer (some ⟨Bx, 0, none⟩)), t4, t5, t6, t7, (.pointer (some ⟨Bx, 0, none⟩)), (.pointer (some ⟨B, o, none⟩)), t10, t11, t12, t13, t14, t15, t16, t17, t18, t19, t20, t21, t22, t23, t24, t25, t26], defers := D } W := by
  refine wpAnyIn_ready r0_2 (by simp) ?_
  refine AllReadyIn.cons h0 (fun K hK => ?_) ?_
  ·go_simp
   exact hK _ _ s1_2
  refine AllReadyIn.cons h4 (fun K hK => ?_) ?_
  ·go_simp
   exact hK _ _ s0_3
  exact AllReadyIn.nil
 have s1_1 : wpAnyIn (Fence.wide.inRound l) 9 Tryd.prog .any ops Q 9 #[true, false, true, false, false, false, false, false, false, false, false] { tmps := #[t0, t1, t2, (.pointer (some ⟨Bx, 0, none⟩)), t4, t5, (.pointer (some ⟨Bx, 0, none⟩)), t7, (.pointer (some ⟨Bx, 0, none⟩)), t9, t10, t11, t12, t13, t14, t15, t16, t17, t18, t19, t20, t21, t22, t23, t24, t25, t26], defers := D } W := by
  refine wpAnyIn_ready r1_1 (by simp) ?_
  refine AllReadyIn.cons h1 (fun K hK => ?_) ?_
  ·go_simp
   exact hK _ _ s2_1
  refine AllReadyIn.cons h3 (fun K hK => ?_) ?_
  ·go_simp
   exact hK _ _ s1_2
  exact AllReadyIn.nil
 have s2_0 : wpAnyIn (Fence.wide.inRound l) 9 Tryd.prog .any ops Q 9 #[true, true, false, false, false, false, false, false, false, false, false] { tmps := #[t0, t1, t2, (.pointer (some ⟨Bx, 0, none⟩)), t4, t5, (.pointer (some ⟨Bx, 0, none⟩)), (.pointer (some ⟨B, o, none⟩)), t8, t9, t10, t11, t12, t13, t14, t15, t16, t17, t18, t19, t20, t21, t22, t23, t24, t25, t26], defers := D } W := by
  refine wpAnyIn_ready r2_0 (by simp) ?_
  refine AllReadyIn.cons h2 (fun K hK => ?_) ?_
  ·go_simp
   exact hK _ _ s2_1
  exact AllReadyIn.nil
 have s0_1 : wpAnyIn (Fence.wide.inRound l) 9 Tryd.prog .any ops Q 10 #[false, false, true, false, false, false, false, false, false, false, false] { tmps := #[t0, t1, t2, (.pointer (some ⟨Bx, 0, none⟩)), t4, t5, t6, t7, (.pointer (some ⟨Bx, 0, none⟩)), t9, t10, t11, t12, t13, t14, t15, t16, t17, t18, t19, t20, t21, t22, t23, t24, t25, t26], defers := D } W := by
  refine wpAnyIn_ready r0_1 (by simp) ?_
  refine AllReadyIn.cons h0 (fun K hK => ?_) ?_
  ·go_simp
   exact hK _ _ s1_1
  refine AllReadyIn.cons h3 (fun K hK => ?_) ?_
  ·go_simp
   exact hK _ _ s0_2
  exact AllReadyIn.nil
 have s1_0 : wpAnyIn (Fence.wide.inRound l) 9 Tryd.prog .any ops Q 10 #[true, false, false, false, false, false, false, false, false, false, false] { tmps := #[t0, t1, t2, (.pointer (some ⟨Bx, 0, none⟩)), t4, t5, (.pointer (some ⟨Bx, 0, none⟩)), t7, t8, t9, t10, t11, t12, t13, t14, t15, t16, t17, t18, t19, t20, t21, t22, t23, t24, t25, t26], defers := D } W := by
  refine wpAnyIn_ready r1_0 (by simp) ?_
  refine AllReadyIn.cons h1 (fun K hK => ?_) ?_
  ·go_simp
   exact hK _ _ s2_0
  refine AllReadyIn.cons h2 (fun K hK => ?_) ?_
  ·go_simp
   exact hK _ _ s1_1
  exact AllReadyIn.nil
 have s0_0 : wpAnyIn (Fence.wide.inRound l) 9 Tryd.prog .any ops Q 11 #[false, false, false, false, false, false, false, false, false, false, false] { tmps := #[t0, t1, t2, (.pointer (some ⟨Bx, 0, none⟩)), t4, t5, t6, t7, t8, t9, t10, t11, t12, t13, t14, t15, t16, t17, t18, t19, t20, t21, t22, t23, t24, t25, t26], defers := D } W := by
  refine wpAnyIn_ready r0_0 (by simp) ?_
  refine AllReadyIn.cons h0 (fun K hK => ?_) ?_
  ·go_simp
   exact hK _ _ s1_0
  refine AllReadyIn.cons h2 (fun K hK => ?_) ?_
  ·go_simp
   exact hK _ _ s0_1
  exact AllReadyIn.nil
 exact s0_0
theorem copyE {l : Nat} {Q : Exit → Act → World → Prop} {ops : Array Oper} {D : List Deferred} {t0 t1 t2 t4 t5 t6 t7 t8 t9 t10 t11 t12 t13 t14 t15 t16 t17 t18 t19 t20 t21 t22 t23 t24 t25 t26 : Value} {W W1 : World} {Bx B o n c c' : Nat} {p p' : Option Addr} {q0 q1 q2 q3 q4 q5 q6 q7 q8 q9 q10 : String} {f0 f1 f2 f3 f4 f5 f6 f7 f8 f9 f10 : _}
  (h0 : ops[0]? = some { dst := some 16, op := .fieldAddr 77 (.tmp 3) 0, type := 0, pos := q0, after := f0, guard := none })
  (h1 : ops[1]? = some { dst := some 17, op := .load 58 (.tmp 16), type := 58, pos := q1, after := f1, guard := none })
  (h2 : ops[2]? = some { dst := some 18, op := .fieldAddr 77 (.tmp 3) 0, type := 0, pos := q2, after := f2, guard := none })
  (h3 : ops[3]? = some { dst := some 19, op := .load 58 (.tmp 18), type := 58, pos := q3, after := f3, guard := none })
  (h4 : ops[4]? = some { dst := some 20, op := .nilCheck (.tmp 19), type := 0, pos := q4, after := f4, guard := none })
  (h5 : ops[5]? = some { dst := some 21, op := .fieldAddr 26 (.tmp 20) 5, type := 0, pos := q5, after := f5, guard := none })
  (h6 : ops[6]? = some { dst := some 22, op := .load 24 (.tmp 21), type := 24, pos := q6, after := f6, guard := none })
  (h7 : ops[7]? = some { dst := some 23, op := .call { callee := .builtin .append, args := #[.const (.slice none 0 0), .tmp 22], argTypes := #[24, 24] }, type := 24, pos := q7, after := f7, guard := none })
  (h8 : ops[8]? = some { dst := some 24, op := .nilCheck (.tmp 17), type := 0, pos := q8, after := f8, guard := none })
  (h9 : ops[9]? = some { dst := some 25, op := .fieldAddr 26 (.tmp 24) 5, type := 0, pos := q9, after := f9, guard := none })
  (h10 : ops[10]? = some { dst := none, op := .store 24 (.tmp 25) (.tmp 23), type := 0, pos := q10, after := f10, guard := none })
  (r0_0 : Region.ready .any ops #[false, false, false, false, false, false, false, false, false, false, false] = [0, 2])
  (r0_1 : Region.ready .any ops #[false, false, true, false, false, false, false, false, false, false, false] = [0, 3])
  (r0_2 : Region.ready .any ops #[false, false, true, true, false, false, false, false, false, false, false] = [0, 4])
  (r0_3 : Region.ready .any ops #[false, false, true, true, true, false, false, false, false, false, false] = [0, 5])
  (r0_4 : Region.ready .any ops #[false, false, true, true, true, true, false, false, false, false, false] = [0, 6])
  (r0_5 : Region.ready .any ops #[false, false, true, true, true, true, true, false, false, false, false] = [0, 7])
  (r0_6 : Region.ready .any ops #[false, false, true, true, true, true, true, true, false, false, false] = [0])
  (r1_0 : Region.ready .any ops #[true, false, false, false, false, false, false, false, false, false, false] = [1, 2])
  (r1_1 : Region.ready .any ops #[true, false, true, false, false, false, false, false, false, false, false] = [1, 3])
  (r1_2 : Region.ready .any ops #[true, false, true, true, false, false, false, false, false, false, false] = [1, 4])
  (r1_3 : Region.ready .any ops #[true, false, true, true, true, false, false, false, false, false, false] = [1, 5])
  (r1_4 : Region.ready .any ops #[true, false, true, true, true, true, false, false, false, false, false] = [1, 6])
  (r1_5 : Region.ready .any ops #[true, false, true, true, true, true, true, false, false, false, false] = [1, 7])
  (r1_6 : Region.ready .any ops #[true, false, true, true, true, true, true, true, false, false, false] = [1])
  (r2_0 : Region.ready .any ops #[true, true, false, false, false, false, false, false, false, false, false] = [2])
  (r2_1 : Region.ready .any ops #[true, true, true, false, false, false, false, false, false, false, false] = [3])
  (r2_2 : Region.ready .any ops #[true, true, true, true, false, false, false, false, false, false, false] = [4])
  (r2_3 : Region.ready .any ops #[true, true, true, true, true, false, false, false, false, false, false] = [5])
  (r2_4 : Region.ready .any ops #[true, true, true, true, true, true, false, false, false, false, false] = [6])
  (r2_5 : Region.ready .any ops #[true, true, true, true, true, true, true, false, false, false, false] = [7])
  (r2_6 : Region.ready .any ops #[true, true, true, true, true, true, true, true, false, false, false] = [8])
  (ra : Region.ready .any ops #[true, true, true, true, true, true, true, true, true, false, false] = [9])
  (rb : Region.ready .any ops #[true, true, true, true, true, true, true, true, true, true, false] = [10])
  (rc : Region.ready .any ops #[true, true, true, true, true, true, true, true, true, true, true] = [])
  (c0 : W.cell? ⟨Bx, 0, none⟩ = some (.pointer (some ⟨B, o, none⟩))) (c4 : W.cell? ⟨B, o + 5, none⟩ = some (.slice p n c)) (hrun : (Builtin.append_ #[24, 24] 24 #[.slice none 0 0, .slice p n c]).run Tryd.prog W = .ok (.slice p' n c') W1)
  (d0 : W1.cell? ⟨Bx, 0, none⟩ = some (.pointer (some ⟨B, o, none⟩))) (d4 : W1.cell? ⟨B, o + 5, none⟩ = some (.slice p n c)) (e4 : W1.frozen? ⟨B, o + 5, none⟩ = false)
  (hQ : Q .normal { tmps := #[t0, t1, t2, (.pointer (some ⟨Bx, 0, none⟩)), t4, t5, t6, t7, t8, t9, t10, t11, t12, t13, t14, t15, (.pointer (some ⟨Bx, 0, none⟩)), (.pointer (some ⟨B, o, none⟩)), (.pointer (some ⟨Bx, 0, none⟩)), (.pointer (some ⟨B, o, none⟩)), (.pointer (some ⟨B, o, none⟩)), (.pointer (some ⟨B, o + 5, none⟩)), (.slice p n c), (.slice p' n c'), (.pointer (some ⟨B, o, none⟩)), (.pointer (some ⟨B, o + 5, none⟩)), t26], defers := D } (W1.setCell ⟨B, o + 5, none⟩ (.slice p' n c'))) :
  wpAnyIn (Fence.wide.inRound l) 9 Tryd.prog .any ops Q 11 #[false, false, false, false, false, false, false, false, false, false, false] { tmps := #[t0, t1, t2, (.pointer (some ⟨Bx, 0, none⟩)), t4, t5, t6, t7, t8, t9, t10, t11, t12, t13, t14, t15, t16, t17, t18, t19, t20, t21, t22, t23, t24, t25, t26], defers := D } W := by
 have sc : wpAnyIn (Fence.wide.inRound l) 9 Tryd.prog .any ops Q 0 #[true, true, true, true, true, true, true, true, true, true, true] { tmps := #[t0, t1, t2, (.pointer (some ⟨Bx, 0, none⟩)), t4, t5, t6, t7, t8, t9, t10, t11, t12, t13, t14, t15, (.pointer (some ⟨Bx, 0, none⟩)), (.pointer (some ⟨B, o, none⟩)), (.pointer (some ⟨Bx, 0, none⟩)), (.pointer (some ⟨B, o, none⟩)), (.pointer (some ⟨B, o, none⟩)), (.pointer (some ⟨B, o + 5, none⟩)), (.slice p n c), (.slice p' n c'), (.pointer (some ⟨B, o, none⟩)), (.pointer (some ⟨B, o + 5, none⟩)), t26], defers := D } (W1.setCell ⟨B, o + 5, none⟩ (.slice p' n c')) := wpAnyIn_done rc hQ _
 have sb : wpAnyIn (Fence.wide.inRound l) 9 Tryd.prog .any ops Q 1 #[true, true, true, true, true, true, true, true, true, true, false] { tmps := #[t0, t1, t2, (.pointer (some ⟨Bx, 0, none⟩)), t4, t5, t6, t7, t8, t9, t10, t11, t12, t13, t14, t15, (.pointer (some ⟨Bx, 0, none⟩)), (.pointer (some ⟨B, o, none⟩)), (.pointer (some ⟨Bx, 0, none⟩)), (.pointer (some ⟨B, o, none⟩)), (.pointer (some ⟨B, o, none⟩)), (.pointer (some ⟨B, o + 5, none⟩)), (.slice p n c), (.slice p' n c'), (.pointer (some ⟨B, o, none⟩)), (.pointer (some ⟨B, o + 5, none⟩)), t26], defers := D } W1 := by
  refine wpAnyIn_ready rb (by simp) (AllReadyIn.cons h10 (fun K hK => ?_) AllReadyIn.nil)
  go_simp
  exact hK _ _ sc
 have sa : wpAnyIn (Fence.wide.inRound l) 9 Tryd.prog .any ops Q 2 #[true, true, true, true, true, true, true, true, true, false, false] { tmps := #[t0, t1, t2, (.pointer (some ⟨Bx, 0, none⟩)), t4, t5, t6, t7, t8, t9, t10, t11, t12, t13, t14, t15, (.pointer (some ⟨Bx, 0, none⟩)), (.pointer (some ⟨B, o, none⟩)), (.pointer (some ⟨Bx, 0, none⟩)), (.pointer (some ⟨B, o, none⟩)), (.pointer (some ⟨B, o, none⟩)), (.pointer (some ⟨B, o + 5, none⟩)), (.slice p n c), (.slice p' n c'), (.pointer (some ⟨B, o, none⟩)), t25, t26], defers := D } W1 := by
  refine wpAnyIn_ready ra (by simp) (AllReadyIn.cons h9 (fun K hK => ?_) AllReadyIn.nil)
  go_simp
  exact hK _ _ sb
 have s2_6 : wpAnyIn (Fence.wide.inRound l) 9 Tryd.prog .any ops Q 3 #[true, true, true, true, true, true, true, true, false, false, false] { tmps := #[t0, t1, t2, (.pointer (some ⟨Bx, 0, none⟩)), t4, t5, t6, t7, t8, t9, t10, t11, t12, t13, t14, t15, (.pointer (some ⟨Bx, 0, none⟩)), (.pointer (some ⟨B, o, none⟩)), (.pointer (some ⟨Bx, 0, none⟩)), (.pointer (some ⟨B, o, none⟩)), (.pointer (some ⟨B, o, none⟩)), (.pointer (some ⟨B, o + 5, none⟩)), (.slice p n c), (.slice p' n c'), t24, t25, t26], defers := D } W1 := by
  refine wpAnyIn_ready r2_6 (by simp) (AllReadyIn.cons h8 (fun K hK => ?_) AllReadyIn.nil)
  go_simp
  exact hK _ _ sa
 have s1_6 : wpAnyIn (Fence.wide.inRound l) 9 Tryd.prog .any ops Q 4 #[true, false, true, true, true, true, true, true, false, false, false] { tmps := #[t0, t1, t2, (.pointer (some ⟨Bx, 0, none⟩)), t4, t5, t6, t7, t8, t9, t10, t11, t12, t13, t14, t15, (.pointer (some ⟨Bx, 0, none⟩)), t17, (.pointer (some ⟨Bx, 0, none⟩)), (.pointer (some ⟨B, o, none⟩)), (.pointer (some ⟨B, o, none⟩)), (.pointer (some ⟨B, o + 5, none⟩)), (.slice p n c), (.slice p' n c'), t24, t25, t26], defers := D } W1 := by
  refine wpAnyIn_ready r1_6 (by simp) ?_
  refine AllReadyIn.cons h1 (fun K hK => ?_) ?_
  ·go_simp
   exact hK _ _ s2_6
  exact AllReadyIn.nil
 have s2_5 : wpAnyIn (Fence.wide.inRound l) 9 Tryd.prog .any ops Q 4 #[true, true, true, true, true, true, true, false, false, false, false] { tmps := #[t0, t1, t2, (.pointer (some ⟨Bx, 0, none⟩)), t4, t5, t6, t7, t8, t9, t10, t11, t12, t13, t14, t15, (.pointer (some ⟨Bx, 0, none⟩)), (.pointer (some ⟨B, o, none⟩)), (.pointer (some ⟨Bx, 0, none⟩)), (.pointer (some ⟨B, o, none⟩)), (.pointer (some ⟨B, o, none⟩)), (.pointer (some ⟨B, o + 5, none⟩)), (.slice p n c), t23, t24, t25, t26], defers := D } W := by
  refine wpAnyIn_ready r2_5 (by simp) ?_
  refine AllReadyIn.cons h7 (fun K hK => ?_) ?_
  ·exact opIn_append _ _ _ rfl rfl rfl rfl hrun (hK _ _ s2_6)
  exact AllReadyIn.nil
 have s0_6 : wpAnyIn (Fence.wide.inRound l) 9 Tryd.prog .any ops Q 5 #[false, false, true, true, true, true, true, true, false, false, false] { tmps := #[t0, t1, t2, (.pointer (some ⟨Bx, 0, none⟩)), t4, t5, t6, t7, t8, t9, t10, t11, t12, t13, t14, t15, t16, t17, (.pointer (some ⟨Bx, 0, none⟩)), (.pointer (some ⟨B, o, none⟩)), (.pointer (some ⟨B, o, none⟩)), (.pointer (some ⟨B, o + 5, none⟩)), (.slice p n c), (.slice p' n c'), t24, t25, t26], defers := D } W1 := by
  refine wpAnyIn_ready r0_6 (by simp) ?_
  refine AllReadyIn.cons h0 (fun K hK => ?_) ?_
  ·go_simp
   exact hK _ _ s1_6
  exact AllReadyIn.nil
 have s1_5 : wpAnyIn (Fence.wide.inRound l) 9 Tryd.prog .any ops Q 5 #[true, false, true, true, true, true, true, false, false, false, false] { tmps := #[t0, t1, t2, (.pointer (some ⟨Bx, 0, none⟩)), t4, t5, t6, t7, t8, t9, t10, t11, t12, t13, t14, t15, (.pointer (some ⟨Bx, 0, none⟩)), t17, (.pointer (some ⟨Bx, 0, none⟩)), (.pointer (some ⟨B, o, none⟩)), (.pointer (some ⟨B, o, none⟩)), (.pointer (some ⟨B, o + 5, none⟩)), (.slice p n c), t23, t24, t25, t26], defers := D } W := by
  refine wpAnyIn_ready r1_5 (by simp) ?_
  refine AllReadyIn.cons h1 (fun K hK => ?_) ?_
  ·go_simp
   exact hK _ _ s2_5
  refine AllReadyIn.cons h7 (fun K hK => ?_) ?_
  ·exact opIn_append _ _ _ rfl rfl rfl rfl hrun (hK _ _ s1_6)
  exact AllReadyIn.nil
 have s2_4 : wpAnyIn (Fence.wide.inRound l) 9 Tryd.prog .any ops Q 5 #[true, true, true, true, true, true, false, false, false, false, false] { tmps := #[t0, t1, t2, (.pointer (some ⟨Bx, 0, none⟩)), t4, t5, t6, t7, t8, t9, t10, t11, t12, t13, t14, t15, (.pointer (some ⟨Bx, 0, none⟩)), (.pointer (some ⟨B, o, none⟩)), (.pointer (some ⟨Bx, 0, none⟩)), (.pointer (some ⟨B, o, none⟩)), (.pointer (some ⟨B, o, none⟩)), (.pointer (some ⟨B, o + 5, none⟩)), t22, t23, t24, t25, t26], defers := D } W := by
  refine wpAnyIn_ready r2_4 (by simp) ?_
  refine AllReadyIn.cons h6 (fun K hK => ?_) ?_
  ·go_simp
   exact hK _ _ s2_5
  exact AllReadyIn.nil
 have s0_5 : wpAnyIn (Fence.wide.inRound l) 9 Tryd.prog .any ops Q 6 #[false, false, true, true, true, true, true, false, false, false, false] { tmps := #[t0, t1, t2, (.pointer (some ⟨Bx, 0, none⟩)), t4, t5, t6, t7, t8, t9, t10, t11, t12, t13, t14, t15, t16, t17, (.pointer (some ⟨Bx, 0, none⟩)), (.pointer (some ⟨B, o, none⟩)), (.pointer (some ⟨B, o, none⟩)), (.pointer (some ⟨B, o + 5, none⟩)), (.slice p n c), t23, t24, t25, t26], defers := D } W := by
  refine wpAnyIn_ready r0_5 (by simp) ?_
  refine AllReadyIn.cons h0 (fun K hK => ?_) ?_
  ·go_simp
   exact hK _ _ s1_5
  refine AllReadyIn.cons h7 (fun K hK => ?_) ?_
  ·exact opIn_append _ _ _ rfl rfl rfl rfl hrun (hK _ _ s0_6)
  exact AllReadyIn.nil
 have s1_4 : wpAnyIn (Fence.wide.inRound l) 9 Tryd.prog .any ops Q 6 #[true, false, true, true, true, true, false, false, false, false, false] { tmps := #[t0, t1, t2, (.pointer (some ⟨Bx, 0, none⟩)), t4, t5, t6, t7, t8, t9, t10, t11, t12, t13, t14, t15, (.pointer (some ⟨Bx, 0, none⟩)), t17, (.pointer (some ⟨Bx, 0, none⟩)), (.pointer (some ⟨B, o, none⟩)), (.pointer (some ⟨B, o, none⟩)), (.pointer (some ⟨B, o + 5, none⟩)), t22, t23, t24, t25, t26], defers := D } W := by
  refine wpAnyIn_ready r1_4 (by simp) ?_
  refine AllReadyIn.cons h1 (fun K hK => ?_) ?_
  ·go_simp
   exact hK _ _ s2_4
  refine AllReadyIn.cons h6 (fun K hK => ?_) ?_
  ·go_simp
   exact hK _ _ s1_5
  exact AllReadyIn.nil
 have s2_3 : wpAnyIn (Fence.wide.inRound l) 9 Tryd.prog .any ops Q 6 #[true, true, true, true, true, false, false, false, false, false, false] { tmps := #[t0, t1, t2, (.pointer (some ⟨Bx, 0, none⟩)), t4, t5, t6, t7, t8, t9, t10, t11, t12, t13, t14, t15, (.pointer (some ⟨Bx, 0, none⟩)), (.pointer (some ⟨B, o, none⟩)), (.pointer (some ⟨Bx, 0, none⟩)), (.pointer (some ⟨B, o, none⟩)), (.pointer (some ⟨B, o, none⟩)), t21, t22, t23, t24, t25, t26], defers := D } W := by
  refine wpAnyIn_ready r2_3 (by simp) ?_
  refine AllReadyIn.cons h5 (fun K hK => ?_) ?_
  ·go_simp
   exact hK _ _ s2_4
  exact AllReadyIn.nil
 have s0_4 : wpAnyIn (Fence.wide.inRound l) 9 Tryd.prog .any ops Q 7 #[false, false, true, true, true, true, false, false, false, false, false] { tmps := #[t0, t1, t2, (.pointer (some ⟨Bx, 0, none⟩)), t4, t5, t6, t7, t8, t9, t10, t11, t12, t13, t14, t15, t16, t17, (.pointer (some ⟨Bx, 0, none⟩)), (.pointer (some ⟨B, o, none⟩)), (.pointer (some ⟨B, o, none⟩)), (.pointer (some ⟨B, o + 5, none⟩)), t22, t23, t24, t25, t26], defers := D } W := by
  refine wpAnyIn_ready r0_4 (by simp) ?_
  refine AllReadyIn.cons h0 (fun K hK => ?_) ?_
  ·go_simp
   exact hK _ _ s1_4
  refine AllReadyIn.cons h6 (fun K hK => ?_) ?_
  ·go_simp
   exact hK _ _ s0_5
  exact AllReadyIn.nil
 have s1_3 : wpAnyIn (Fence.wide.inRound l) 9 Tryd.prog .any ops Q 7 #[true, false, true, true, true, false, false, false, false, false, false] { tmps := #[t0, t1, t2, (.pointer (some ⟨Bx, 0, none⟩)), t4, t5, t6, t7, t8, t9, t10, t11, t12, t13, t14, t15, (.pointer (some ⟨Bx, 0, none⟩)), t17, (.pointer (some ⟨Bx, 0, none⟩)), (.pointer (some ⟨B, o, none⟩)), (.pointer (some ⟨B, o, none⟩)), t21, t22, t23, t24, t25, t26], defers := D } W := by
  refine wpAnyIn_ready r1_3 (by simp) ?_
  refine AllReadyIn.cons h1 (fun K hK => ?_) ?_
  ·go_simp
   exact hK _ _ s2_3
  refine AllReadyIn.cons h5 (fun K hK => ?_) ?_
  ·go_simp
   exact hK _ _ s1_4
  exact AllReadyIn.nil
 have s2_2 : wpAnyIn (Fence.wide.inRound l) 9 Tryd.prog .any ops Q 7 #[true, true, true, true, false, false, false, false, false, false, false] { tmps := #[t0, t1, t2, (.pointer (some ⟨Bx, 0, none⟩)), t4, t5, t6, t7, t8, t9, t10, t11, t12, t13, t14, t15, (.pointer (some ⟨Bx, 0, none⟩)), (.pointer (some ⟨B, o, none⟩)), (.pointer (some ⟨Bx, 0, none⟩)), (.pointer (some ⟨B, o, none⟩)), t20, t21, t22, t23, t24, t25, t26], defers := D } W := by
  refine wpAnyIn_ready r2_2 (by simp) ?_
  refine AllReadyIn.cons h4 (fun K hK => ?_) ?_
  ·go_simp
   exact hK _ _ s2_3
  exact AllReadyIn.nil
 have s0_3 : wpAnyIn (Fence.wide.inRound l) 9 Tryd.prog .any ops Q 8 #[false, false, true, true, true, false, false, false, false, false, false] { tmps := #[t0, t1, t2, (.pointer (some ⟨Bx, 0, none⟩)), t4, t5, t6, t7, t8, t9, t10, t11, t12, t13, t14, t15, t16, t17, (.pointer (some ⟨Bx, 0, none⟩)), (.pointer (some ⟨B, o, none⟩)), (.pointer (some ⟨B, o, none⟩)), t21, t22, t23, t24, t25, t26], defers := D } W := by
  refine wpAnyIn_ready r0_3 (by simp) ?_
  refine AllReadyIn.cons h0 (fun K hK => ?_) ?_
  ·go_simp
   exact hK _ _ s1_3
  refine AllReadyIn.cons h5 (fun K hK => ?_) ?_
  ·go_simp
   exact hK _ _ s0_4
  exact AllReadyIn.nil
 have s1_2 : wpAnyIn (Fence.wide.inRound l) 9 Tryd.prog .any ops Q 8 #[true, false, true, true, false, false, false, false, false, false, false] { tmps := #[t0, t1, t2, (.pointer (some ⟨Bx, 0, none⟩)), t4, t5, t6, t7, t8, t9, t10, t11, t12, t13, t14, t15, (.pointer (some ⟨Bx, 0, none⟩)), t17, (.pointer (some ⟨Bx, 0, none⟩)), (.pointer (some ⟨B, o, none⟩)), t20, t21, t22, t23, t24, t25, t26], defers := D } W := by
  refine wpAnyIn_ready r1_2 (by simp) ?_
  refine AllReadyIn.cons h1 (fun K hK => ?_) ?_
  ·go_simp
   exact hK _ _ s2_2
  refine AllReadyIn.cons h4 (fun K hK => ?_) ?_
  ·go_simp
   exact hK _ _ s1_3
  exact AllReadyIn.nil
 have s2_1 : wpAnyIn (Fence.wide.inRound l) 9 Tryd.prog .any ops Q 8 #[true, true, true, false, false, false, false, false, false, false, false] { tmps := #[t0, t1, t2, (.pointer (some ⟨Bx, 0, none⟩)), t4, t5, t6, t7, t8, t9, t10, t11, t12, t13, t14, t15, (.pointer (some ⟨Bx, 0, none⟩)), (.pointer (some ⟨B, o, none⟩)), (.pointer (some ⟨Bx, 0, none⟩)), t19, t20, t21, t22, t23, t24, t25, t26], defers := D } W := by
  refine wpAnyIn_ready r2_1 (by simp) ?_
  refine AllReadyIn.cons h3 (fun K hK => ?_) ?_
  ·go_simp
   exact hK _ _ s2_2
  exact AllReadyIn.nil
 have s0_2 : wpAnyIn (Fence.wide.inRound l) 9 Tryd.prog .any ops Q 9 #[false, false, true, true, false, false, false, false, false, false, false] { tmps := #[t0, t1, t2, (.pointer (some ⟨Bx, 0, none⟩)), t4, t5, t6, t7, t8, t9, t10, t11, t12, t13, t14, t15, t16, t17, (.pointer (some ⟨Bx, 0, none⟩)), (.pointer (some ⟨B, o, none⟩)), t20, t21, t22, t23, t24, t25, t26], defers := D } W := by
  refine wpAnyIn_ready r0_2 (by simp) ?_
  refine AllReadyIn.cons h0 (fun K hK => ?_) ?_
  ·go_simp
   exact hK _ _ s1_2
  refine AllReadyIn.cons h4 (fun K hK => ?_) ?_
  ·go_simp
   exact hK _ _ s0_3
  exact AllReadyIn.nil
 have s1_1 : wpAnyIn (Fence.wide.inRound l) 9 Tryd.prog .any ops Q 9 #[true, false, true, false, false, false, false, false, false, false, false] { tmps := #[t0, t1, t2, (.pointer (some ⟨Bx, 0, none⟩)), t4, t5, t6, t7, t8, t9, t10, t11, t12, t13, t14, t15, (.pointer (some ⟨Bx, 0, none⟩)), t17, (.pointer (some ⟨Bx, 0, none⟩)), t19, t20, t21, t22, t23, t24, t25, t26], defers := D } W := by
  refine wpAnyIn_ready r1_1 (by simp) ?_
  refine AllReadyIn.cons h1 (fun K hK => ?_) ?_
  ·go_simp
   exact hK _ _ s2_1
  refine AllReadyIn.cons h3 (fun K hK => ?_) ?_
  ·go_simp
   exact hK _ _ s1_2
  exact AllReadyIn.nil
 have s2_0 : wpAnyIn (Fence.wide.inRound l) 9 Tryd.prog .any ops Q 9 #[true, true, false, false, false, false, false, false, false, false, false] { tmps := #[t0, t1, t2, (.pointer (some ⟨Bx, 0, none⟩)), t4, t5, t6, t7, t8, t9, t10, t11, t12, t13, t14, t15, (.pointer (some ⟨Bx, 0, none⟩)), (.pointer (some ⟨B, o, none⟩)), t18, t19, t20, t21, t22, t23, t24, t25, t26], defers := D } W := by
  refine wpAnyIn_ready r2_0 (by simp) ?_
  refine AllReadyIn.cons h2 (fun K hK => ?_) ?_
  ·go_simp
   exact hK _ _ s2_1
  exact AllReadyIn.nil
 have s0_1 : wpAnyIn (Fence.wide.inRound l) 9 Tryd.prog .any ops Q 10 #[false, false, true, false, false, false, false, false, false, false, false] { tmps := #[t0, t1, t2, (.pointer (some ⟨Bx, 0, none⟩)), t4, t5, t6, t7, t8, t9, t10, t11, t12, t13, t14, t15, t16, t17, (.pointer (some ⟨Bx, 0, none⟩)), t19, t20, t21, t22, t23, t24, t25, t26], defers := D } W := by
  refine wpAnyIn_ready r0_1 (by simp) ?_
  refine AllReadyIn.cons h0 (fun K hK => ?_) ?_
  ·go_simp
   exact hK _ _ s1_1
  refine AllReadyIn.cons h3 (fun K hK => ?_) ?_
  ·go_simp
   exact hK _ _ s0_2
  exact AllReadyIn.nil
 have s1_0 : wpAnyIn (Fence.wide.inRound l) 9 Tryd.prog .any ops Q 10 #[true, false, false, false, false, false, false, false, false, false, false] { tmps := #[t0, t1, t2, (.pointer (some ⟨Bx, 0, none⟩)), t4, t5, t6, t7, t8, t9, t10, t11, t12, t13, t14, t15, (.pointer (some ⟨Bx, 0, none⟩)), t17, t18, t19, t20, t21, t22, t23, t24, t25, t26], defers := D } W := by
  refine wpAnyIn_ready r1_0 (by simp) ?_
  refine AllReadyIn.cons h1 (fun K hK => ?_) ?_
  ·go_simp
   exact hK _ _ s2_0
  refine AllReadyIn.cons h2 (fun K hK => ?_) ?_
  ·go_simp
   exact hK _ _ s1_1
  exact AllReadyIn.nil
 have s0_0 : wpAnyIn (Fence.wide.inRound l) 9 Tryd.prog .any ops Q 11 #[false, false, false, false, false, false, false, false, false, false, false] { tmps := #[t0, t1, t2, (.pointer (some ⟨Bx, 0, none⟩)), t4, t5, t6, t7, t8, t9, t10, t11, t12, t13, t14, t15, t16, t17, t18, t19, t20, t21, t22, t23, t24, t25, t26], defers := D } W := by
  refine wpAnyIn_ready r0_0 (by simp) ?_
  refine AllReadyIn.cons h0 (fun K hK => ?_) ?_
  ·go_simp
   exact hK _ _ s1_0
  refine AllReadyIn.cons h2 (fun K hK => ?_) ?_
  ·go_simp
   exact hK _ _ s0_1
  exact AllReadyIn.nil
 exact s0_0
end Go.Proofs.YtadaehaemmelfaaDoor.valus
namespace Go.Proofs.YtadaehaemmelfaaDoor.valus
open Go.RowKit Go.Shelf
def okC (ok0 : Nat → Prop) (n0 : Nat) (M : Nat → Prop) (W : World) (b : Nat) : Prop := (b < n0 ∧ ok0 b) ∨ (n0 ≤ b ∧ (b < W.heap.size ∧ b ≠ n0 + 1) ∧ ¬ M b ∧ ∃ i v, W.cell? ⟨b, i, none⟩ = some v)
def pl (p : Nd × V) : Nat × Nat := (p.1.1, p.1.2.1)
structure CopyI (ok0 : Nat → Prop) (w : World) (n1 f : Nat) (t : V) (M : Nat → Prop) (s : List (Nd × V)) (W : World) : Prop where
 mine : ∀ b, M b → n1 ≤ b
 lt : w.heap.size + 1 < n1
 size : n1 ≤ W.heap.size
 below : Below w.heap.size w W
 root : ∃ us : List Value, (∀ i, i < 6 → W.cell? ⟨w.heap.size, 0 + i, none⟩ = us[i]?) ∧ LiesV (okC ok0 w.heap.size M W) f W us t
 wait : ∀ p, p ∈ s → (w.heap.size ≤ p.1.1 ∧ ¬ M p.1.1 ∧ p.1.1 < W.heap.size ∧ Free W p.1.1) ∧ ∃ us : List Value, (∀ i, i < 6 → W.cell? ⟨p.1.1, p.1.2.1 + i, none⟩ = us[i]?) ∧ LiesV ok0 f w us p.2
 apart : (s.map pl).Nodup
theorem CopyI.still {ok0 : Nat → Prop} {w : World} {n1 f : Nat} {t : V} {M M' : Nat → Prop} {s : List (Nd × V)} {W W' : World} (h : CopyI ok0 w n1 f t M s W) (ht : Turns (fun b => M b ∨ (n1 ≤ b ∧ ∃ o : Obj, W.heap[b]? = some o ∧ o.isCells = false)) W W') (hm : ∀ b, M' b → M b ∨ W.heap.size ≤ b) : CopyI ok0 w n1 f t M' s W' := by
 have h1 := h.lt
 have h2 := h.size
 have h3 := ht.size
 have old : ∀ b, b < n1 → W'.heap[b]? = W.heap[b]? := fun b hb => ht.block b (by omega) (fun hx => hx.elim (fun hx => by have := h.mine b hx; omega) (fun hx => by omega))
 have new : ∀ b i v, b < W.heap.size → ¬ M b → W.cell? ⟨b, i, none⟩ = some v → W'.heap[b]? = W.heap[b]? := fun b i v hb hM hc => ht.block b hb (fun hx => hx.elim hM (fun hx => by
  obtain ⟨_, o, ho, hi⟩ := hx
  obtain ⟨o2, h2, h3⟩ := cells_of_cell hc
  simp only at h2
  rw [ho] at h2
  cases h2
  rw [hi] at h3
  cases h3))
 have nM : ∀ b, b < W.heap.size → ¬ M b → ¬ M' b := fun b hb hM hx => (hm b hx).elim hM (fun hx => by omega)
 have blk : ∀ b, okC ok0 w.heap.size M W b → W'.heap[b]? = W.heap[b]? := fun b hb => hb.elim (fun hb => old b (by omega)) (fun hb => by
  obtain ⟨_, ⟨hlt, _⟩, hM, i, v, hc⟩ := hb
  exact new b i v hlt hM hc)
 have okk : ∀ b, okC ok0 w.heap.size M W b → okC ok0 w.heap.size M' W' b := fun b hb => by
  have e := blk b hb
  rcases hb with hb | ⟨h0, ⟨hlt, hl1⟩, hM, i, v, hc⟩
  ·exact .inl hb
  ·exact .inr ⟨h0, ⟨by omega, hl1⟩, nM b hlt hM, i, v, (World.cell?_of_block e).trans hc⟩
 refine ⟨fun b hb => (hm b hb).elim (h.mine b) (fun hx => by omega), h1, by omega, h.below.trans (ht.below (n := w.heap.size) (by omega) (fun b hb => hb.elim (fun hx => by have := h.mine b hx; omega) (fun hx => by omega))), ?_, fun p hp => ?_, h.apart⟩
 ·obtain ⟨us, hus, hl⟩ := h.root
  exact ⟨us, fun i hi => (World.cell?_of_block (old w.heap.size (by omega))).trans (hus i hi), hl.kept okk h3 (fun b hb _ => blk b hb)⟩
 ·obtain ⟨⟨g1, g2, g3, g4⟩, us, hus, hl⟩ := h.wait p hp
  have hlen := hl.len
  have e : W'.heap[p.1.1]? = W.heap[p.1.1]? := new _ _ _ g3 g2 ((hus 0 (by omega)).trans (List.getElem?_eq_getElem (by omega)))
  exact ⟨⟨g1, nM _ g3 g2, by omega, g4.same e⟩, us, fun i hi => (World.cell?_of_block e).trans (hus i hi), hl⟩
theorem place_hit {ok : Nat → Prop} {w W : World} {f B o q k i : Nat} {xs : List Value} {z : V} (hk : k = 4 ∨ k = 5) (h3 : ∃ s, W.cell? ⟨B, o + 3, none⟩ = some (.string s)) (h4 : ∃ p n c, W.cell? ⟨B, o + 4, none⟩ = some (.slice p n c)) (h5 : ∃ p n c, W.cell? ⟨B, o + 5, none⟩ = some (.slice p n c))
  (hl : LiesV ok f w xs z) (hx : ∀ i, i < 6 → W.cell? ⟨B, q + i, none⟩ = xs[i]?) (hi : i < 6) (e : q + i = o + k) : q = o := by
 have hlen := hl.len
 match xs, hlen with
 | [x0, x1, x2, x3, x4, x5], _ =>
  obtain ⟨vk, vn, vb, vs, vpL, vnL, vcL, vpE, vnE, vcE, rfl, rfl, rfl, rfl, rfl, rfl⟩ := hl.form
  obtain ⟨s, h3⟩ := h3
  obtain ⟨p4, n4, c4, h4⟩ := h4
  obtain ⟨p5, n5, c5, h5⟩ := h5
  have hc := hx i hi
  rw [e] at hc
  rcases hk with rfl | rfl
  ·rw [h4] at hc
   match i, hi with
   | 0, _ => cases hc
   | 1, _ => cases hc
   | 2, _ => cases hc
   | 3, _ => cases hc
   | 4, _ => omega
   | 5, _ =>
    have := hx 4 (by omega)
    rw [show q + 4 = o + 3 by omega, h3] at this
    cases this
  ·rw [h5] at hc
   match i, hi with
   | 0, _ => cases hc
   | 1, _ => cases hc
   | 2, _ => cases hc
   | 3, _ => cases hc
   | 4, _ =>
    have := hx 3 (by omega)
    rw [show q + 3 = o + 4 by omega, h4] at this
    cases this
   | 5, _ => omega
theorem CopyI.turn {ok0 : Nat → Prop} {w : World} {n1 f : Nat} {t : V} {M : Nat → Prop} {s : List (Nd × V)} {W W1 : World} (h : CopyI ok0 w n1 f t M s W) (hM : ∀ b, M b → b < W.heap.size) {B o k d n c c' : Nat} {p p' : Option Addr} (hk : k = 4 ∨ k = 5) (hd : d = if k = 4 then 6 else 7)
  (b1 : w.heap.size ≤ B) (b2 : ¬ M B) (b3 : B < W.heap.size) (b4 : Free W B) (b5 : ∀ q, q ∈ s → pl q ≠ (B, o)) (h3 : ∃ s, W.cell? ⟨B, o + 3, none⟩ = some (.string s)) (h4 : ∃ p n c, W.cell? ⟨B, o + 4, none⟩ = some (.slice p n c)) (h5 : ∃ p n c, W.cell? ⟨B, o + 5, none⟩ = some (.slice p n c))
  (hc : W.cell? ⟨B, o + k, none⟩ = some (.slice p n c)) (hg : W.grownBy W1 none) (m1 : n ≤ c') (m2 : c' ≤ maxLen)
  (hrow : n ≠ 0 → p' = some ⟨W.heap.size, 0, none⟩ ∧ W.heap.size < W1.heap.size ∧ Free W1 W.heap.size ∧ ∃ b q, p = some ⟨b, q, none⟩ ∧ b < w.heap.size ∧ ok0 b ∧ ∀ i, i < n * d → (W.cell? ⟨b, q + i, none⟩).isSome = true ∧ W1.cell? ⟨W.heap.size, 0 + i, none⟩ = W.cell? ⟨b, q + i, none⟩) :
  CopyI ok0 w n1 f t M s (W1.setCell ⟨B, o + k, none⟩ (.slice p' n c')) ∧ (∀ b, b < W.heap.size → b ≠ B → (W1.setCell ⟨B, o + k, none⟩ (.slice p' n c')).heap[b]? = W.heap[b]?) ∧
   (∀ i, i ≠ o + k → (W1.setCell ⟨B, o + k, none⟩ (.slice p' n c')).cell? ⟨B, i, none⟩ = W.cell? ⟨B, i, none⟩) ∧ (W1.setCell ⟨B, o + k, none⟩ (.slice p' n c')).cell? ⟨B, o + k, none⟩ = some (.slice p' n c') ∧ Free (W1.setCell ⟨B, o + k, none⟩ (.slice p' n c')) B ∧
   (n ≠ 0 → Free (W1.setCell ⟨B, o + k, none⟩ (.slice p' n c')) W.heap.size ∧ ∀ i, (W1.setCell ⟨B, o + k, none⟩ (.slice p' n c')).cell? ⟨W.heap.size, i, none⟩ = W1.cell? ⟨W.heap.size, i, none⟩) ∧ W1.heap.size = (W1.setCell ⟨B, o + k, none⟩ (.slice p' n c')).heap.size := by
 have h1 := h.lt
 have hs1 := h.size
 have hgs := hg.size
 have old : ∀ b, b < W.heap.size → W1.heap[b]? = W.heap[b]? := fun b hb => hg.block b hb (by simp)
 have hcell1 : W1.cell? ⟨B, o + k, none⟩ = some (.slice p n c) := (World.cell?_of_block (old B b3)).trans hc
 obtain ⟨W', hW'⟩ : ∃ W', W' = W1.setCell ⟨B, o + k, none⟩ (.slice p' n c') := ⟨_, rfl⟩
 rw [← hW']
 have hsz : W'.heap.size = W1.heap.size := by rw [hW']; simp [World.setCell]
 have blk : ∀ b, b ≠ B → W'.heap[b]? = W1.heap[b]? := fun b hb => by rw [hW']; exact Below.heap_setCell _ _ _ _ (fun e => hb e)
 have cel : ∀ i, i ≠ o + k → W'.cell? ⟨B, i, none⟩ = W.cell? ⟨B, i, none⟩ := fun i hi => by
  rw [hW']
  refine (World.cell?_setCell_other _ (a := ⟨B, o + k, none⟩) (b := ⟨B, i, none⟩) _ ?_).trans (World.cell?_of_block (old B b3))
  intro e
  injection e with _ e
  omega
 have hit : W'.cell? ⟨B, o + k, none⟩ = some (.slice p' n c') := by rw [hW']; exact World.cell?_setCell_same _ _ _ hcell1
 have hfr : Free W' B := by rw [hW']; exact (b4.same (old B b3)).set _ _
 have same : ∀ b i, b < W.heap.size → ¬ (b = B ∧ i = o + k) → W'.cell? ⟨b, i, none⟩ = W.cell? ⟨b, i, none⟩ := fun b i hb hne => by
  by_cases e : b = B
  ·subst e
   exact cel i (fun e => hne ⟨rfl, e⟩)
  ·exact (World.cell?_of_block (blk b e)).trans (World.cell?_of_block (old b hb))
 have weak : ∀ b, okC ok0 w.heap.size M W b → okC ok0 w.heap.size M W' b := fun b hb => by
  rcases hb with hb | ⟨h0, ⟨hlt, hl1⟩, hM', i, v, hv⟩
  ·exact .inl hb
  ·refine .inr ⟨h0, ⟨by omega, hl1⟩, hM', ?_⟩
   by_cases e : b = B ∧ i = o + k
   ·obtain ⟨rfl, rfl⟩ := e
    exact ⟨_, _, hit⟩
   ·exact ⟨i, v, (same b i hlt e).trans hv⟩
 have okb : ∀ b, okC ok0 w.heap.size M W b → b < W.heap.size := fun b hb => hb.elim (fun hb => by omega) (fun hb => hb.2.1.1)
 have NR : NewRow (okC ok0 w.heap.size M W) (okC ok0 w.heap.size M W') W W' B o k := by
  refine ⟨by omega, weak, hk, h3, h4, h5, fun b i _ hb hne => same b i hb hne, p, n, c, p', c', hc, hit, m1, m2, fun hn => ?_⟩
  obtain ⟨e1, e2, e3, b, q, e4, e5, e6, e7⟩ := hrow hn
  have hne : W.heap.size ≠ B := by omega
  have hq : ∀ i, i < n * (if k = 4 then 6 else 7) → W'.cell? ⟨W.heap.size, 0 + i, none⟩ = W'.cell? ⟨b, q + i, none⟩ := fun i hi => by
   rw [← hd] at hi
   exact (World.cell?_of_block (blk _ hne)).trans ((e7 i hi).2.trans (same b (q + i) (by omega) (fun e => by omega)).symm)
  refine ⟨b, q, W.heap.size, 0, e4, e1, .inr ⟨by omega, ⟨by omega, by omega⟩, fun hx => by have := hM _ hx; omega, 0, ?_⟩, by omega, hq⟩
  have hpos : 0 < n * d := Nat.mul_pos (by omega) (by rw [hd]; split <;> omega)
  obtain ⟨i1, i2⟩ := e7 0 hpos
  obtain ⟨v, hv⟩ := Option.isSome_iff_exists.1 i1
  exact ⟨v, (World.cell?_of_block (blk _ hne)).trans (i2.trans hv)⟩
 refine ⟨⟨h.mine, h1, by omega, ?_, ?_, fun q hq => ?_, h.apart⟩, fun b hb hne => (blk b hne).trans (old b hb), cel, hit, hfr, fun hn => ?_, hsz.symm⟩
 ·refine h.below.trans ⟨?_, ?_, ?_, by omega, fun b hb => (blk b (by omega)).trans (old b (by omega))⟩
  ·rw [hW']; exact hg.os
  ·rw [hW']; exact hg.tape
  ·rw [hW']; exact hg.output
 ·obtain ⟨us, hus, hl⟩ := h.root
  have hlen := hl.len
  have hr : okC ok0 w.heap.size M W w.heap.size := .inr ⟨Nat.le_refl _, ⟨by omega, by omega⟩, fun hx => by have := h.mine _ hx; omega, 0 + 0, _, (hus 0 (by omega)).trans (List.getElem?_eq_getElem (by omega))⟩
  exact NR.elem hr (by omega) hl (NR.value hl) hus
 ·obtain ⟨⟨g1, g2, g3, g4⟩, us, hus, hl⟩ := h.wait q hq
  refine ⟨⟨g1, g2, by omega, ?_⟩, us, fun i hi => ?_, hl⟩
  ·by_cases e : q.1.1 = B
   ·rw [e]; exact hfr
   ·exact g4.same ((blk _ e).trans (old _ g3))
  ·rw [← hus i hi]
   refine same _ _ g3 (fun e => b5 q hq ?_)
   obtain ⟨e1, e2⟩ := e
   have hus' : ∀ i, i < 6 → W.cell? ⟨B, q.1.2.1 + i, none⟩ = us[i]? := fun i hi => by rw [← e1]; exact hus i hi
   have := place_hit hk h3 h4 h5 hl hus' hi e2
   simp only [pl, e1, this]
 ·obtain ⟨e1, e2, e3, _⟩ := hrow hn
  have hne : W.heap.size ≠ B := by omega
  exact ⟨e3.same (blk _ hne), fun i => World.cell?_of_block (blk _ hne)⟩
end Go.Proofs.YtadaehaemmelfaaDoor.valus
namespace Go.Proofs.YtadaehaemmelfaaDoor.valus
open Go.RowKit Go.Shelf
theorem CopyI.tail {ok0 : Nat → Prop} {w : World} {n1 f : Nat} {t : V} {M : Nat → Prop} {p : Nd × V} {s : List (Nd × V)} {W : World} (h : CopyI ok0 w n1 f t M (p :: s) W) : CopyI ok0 w n1 f t M s W ∧ ∀ q, q ∈ s → pl q ≠ pl p := by
 have ha := h.apart
 rw [List.map_cons, List.nodup_cons] at ha
 refine ⟨⟨h.mine, h.lt, h.size, h.below, h.root, fun q hq => h.wait q (by simp [hq]), ha.2⟩, fun q hq e => ha.1 ?_⟩
 rw [← e]
 exact List.mem_map.2 ⟨q, hq, rfl⟩
theorem RowIn.flat {ok : Nat → Prop} {w : World} {p : Option Addr} {d n : Nat} {Q : Nat → List Value → Prop} (h : RowIn ok w p d n Q) (hd : 0 < d) (hQ : ∀ j us, Q j us → ∀ u, u ∈ us → u.oneCell' = true) (hn : n ≠ 0) :
  ∃ b q, p = some ⟨b, q, none⟩ ∧ b < w.heap.size ∧ ok b ∧ ∀ i, i < n * d → ∃ u, w.cell? ⟨b, q + i, none⟩ = some u ∧ u.oneCell' = true := by
 obtain ⟨b, q, hp, hok, hb, hk⟩ := h hn
 refine ⟨b, q, hp, hb, hok, fun i hi => ?_⟩
 have hj : i / d < n := (Nat.div_lt_iff_lt_mul hd).2 hi
 have hr : i % d < d := Nat.mod_lt _ hd
 obtain ⟨us, u1, u2, u3⟩ := hk (i / d) hj
 have e : q + i / d * d + i % d = q + i := by
  have := Nat.div_add_mod i d
  rw [Nat.mul_comm] at this
  omega
 have hc := u2 (i % d) hr
 rw [e, List.getElem?_eq_getElem (by omega)] at hc
 exact ⟨_, hc, hQ _ us u3 _ (List.getElem_mem _)⟩
theorem LiesV.ones {ok : Nat → Prop} {f : Nat} {w : World} {us : List Value} {t : V} (h : LiesV ok f w us t) : ∀ u, u ∈ us → u.oneCell' = true := by
 have hlen := h.len
 match us, hlen with
 | [x0, x1, x2, x3, x4, x5], _ =>
  obtain ⟨vk, vn, vb, vs, vpL, vnL, vcL, vpE, vnE, vcE, rfl, rfl, rfl, rfl, rfl, rfl⟩ := h.form
  intro u hu
  simp only [List.mem_cons, List.not_mem_nil, or_false] at hu
  rcases hu with rfl | rfl | rfl | rfl | rfl | rfl <;> rfl
def Made (n0 : Nat) (w W : World) (M : Nat → Prop) (p p' : Option Addr) (n d g : Nat) : Prop := n ≠ 0 → p' = some ⟨g, 0, none⟩ ∧ (n0 ≤ g ∧ ¬ M g ∧ g < W.heap.size ∧ Free W g) ∧ ∃ b q, p = some ⟨b, q, none⟩ ∧ ∀ i, i < n * d → W.cell? ⟨g, 0 + i, none⟩ = w.cell? ⟨b, q + i, none⟩
theorem len_sum {g : V → Nat} : ∀ {l : List V}, (∀ y, y ∈ l → 1 ≤ g y) → l.length ≤ sumOf g l
 | [], _ => Nat.zero_le _
 | y :: l, h => by
  have h1 := h y (by simp)
  have h2 := len_sum (l := l) (fun z hz => h z (by simp [hz]))
  show l.length + 1 ≤ g y + sumOf g l
  omega
theorem kids_nodup (g d k : Nat) (a : Int) (n : Nat) (hd : 0 < d) : ((kidsTo (some ⟨g, 0, none⟩) d k a n).map fun x => (x.1, x.2.1)).Nodup := by
 rw [kidsTo, List.map_map]
 refine List.Pairwise.map _ (fun i j (hij : i ≠ j) => ?_) List.nodup_range
 intro e
 simp only [Function.comp, kidAt, Option.getD_some, Prod.mk.injEq, true_and] at e
 have : i * d = j * d := by omega
 exact hij (Nat.eq_of_mul_eq_mul_right hd this)
theorem kids_block (g d k : Nat) (a : Int) (n : Nat) {x : Nd} (h : x ∈ kidsTo (some ⟨g, 0, none⟩) d k a n) : x.1 = g := by
 obtain ⟨j, _, rfl⟩ := List.mem_map.1 h
 rfl
theorem CopyI.kids {ok0 : Nat → Prop} {w : World} {n1 f : Nat} {t : V} {M : Nat → Prop} {s : List (Nd × V)} {W : World} (h : CopyI ok0 w n1 f t M s W) {x : Nd} {us : List Value} {z : V} (hl : LiesV ok0 f w us z) {pL pE pL' pE' : Option Addr} {nL nE cL cE cL' cE' g4 g5 : Nat} (u4 : us[4]? = some (.slice pL nL cL)) (u5 : us[5]? = some (.slice pE nE cE))
  (hM : ¬ M x.1) (hx : x.1 < W.heap.size) (c4 : W.cell? ⟨x.1, x.2.1 + 4, none⟩ = some (.slice pL' nL cL')) (c5 : W.cell? ⟨x.1, x.2.1 + 5, none⟩ = some (.slice pE' nE cE')) (mL : Made w.heap.size w W M pL pL' nL 6 g4) (mE : Made w.heap.size w W M pE pE' nE 7 g5) (h45 : nL ≠ 0 → nE ≠ 0 → g4 ≠ g5) (hs : ∀ q, q ∈ s → (nL ≠ 0 → q.1.1 ≠ g4) ∧ (nE ≠ 0 → q.1.1 ≠ g5)) :
  ∃ ks : List (Nd × V), KidsN M W x (ks.map Prod.fst) ∧ ks.map Prod.snd = parts z ∧ CopyI ok0 w n1 f t M (ks ++ s) W ∧ leftS f (ks ++ s) + 1 = leftS f ((x, z) :: s) ∧ ∀ q, q ∈ ks → (nL ≠ 0 ∧ q.1.1 = g4) ∨ (nE ≠ 0 ∧ q.1.1 = g5) := by
 cases f with
 | zero => exact hl.elim
 | succ f =>
  have hz := hl.isV
  obtain ⟨k, n, b, sx, L, E, vL, vE, vcL, vcE, rfl, rfl, h3, h4, hL, hE⟩ := hl
  cases u4
  cases u5
  obtain ⟨a, ha⟩ : ∃ a : Int, a = IntKind.i64.wrap (x.2.2 + 1) := ⟨_, rfl⟩
  have kL : L.length ≠ 0 → pL' = some ⟨g4, 0, none⟩ := fun hn => (mL hn).1
  have kE : E.length ≠ 0 → pE' = some ⟨g5, 0, none⟩ := fun hn => (mE hn).1
  obtain ⟨ks, hks⟩ : ∃ ks, ks = (kidsTo pL' 6 0 a L.length).zip L ++ (kidsTo pE' 7 1 a E.length).zip (E.map fun e => (opnE e).2) := ⟨_, rfl⟩
  have hf : ks.map Prod.fst = kidsTo pL' 6 0 a L.length ++ kidsTo pE' 7 1 a E.length := by
   rw [hks, List.map_append, List.map_fst_zip (by rw [kidsTo_len]; exact Nat.le_refl _), List.map_fst_zip (by rw [kidsTo_len, List.length_map]; exact Nat.le_refl _)]
  have hsnd : ks.map Prod.snd = parts (mkV (k, n, b, sx.data.toList) L E) := by
   rw [hks, List.map_append, List.map_snd_zip (by rw [kidsTo_len]; exact Nat.le_refl _), List.map_snd_zip (by rw [kidsTo_len, List.length_map]; exact Nat.le_refl _), parts_mk]
  have hblk : ∀ q, q ∈ ks → (L.length ≠ 0 ∧ q.1.1 = g4) ∨ (E.length ≠ 0 ∧ q.1.1 = g5) := fun q hq => by
   have hq' : q.1 ∈ ks.map Prod.fst := List.mem_map.2 ⟨q, hq, rfl⟩
   rw [hf] at hq'
   rcases List.mem_append.1 hq' with hq' | hq'
   ·have hn : L.length ≠ 0 := fun e => by rw [e] at hq'; cases hq'
    rw [kL hn] at hq'
    exact .inl ⟨hn, kids_block _ _ _ _ _ hq'⟩
   ·have hn : E.length ≠ 0 := fun e => by rw [e] at hq'; cases hq'
    rw [kE hn] at hq'
    exact .inr ⟨hn, kids_block _ _ _ _ _ hq'⟩
  refine ⟨ks, ⟨pL', pE', L.length, cL', E.length, cE', hM, hx, c4, c5, fun hn => ⟨_, _, kL hn⟩, fun hn => ⟨_, _, kE hn⟩, by rw [hf, ha]⟩, hsnd, ⟨h.mine, h.lt, h.size, h.below, h.root, fun q hq => ?_, ?_⟩, ?_, hblk⟩
  ·rcases List.mem_append.1 hq with hq | hq
   ·rw [hks] at hq
    rcases List.mem_append.1 hq with hq | hq
    ·obtain ⟨j, hj, e⟩ := List.getElem_of_mem hq
     have hj0 := hj
     rw [List.length_zip, kidsTo_len, Nat.min_self] at hj0
     have ep := kL (by omega)
     subst ep
     rw [List.getElem_zip, kidsTo_get] at e
     obtain ⟨_, m2, mb, mq, rfl, m3⟩ := mL (by omega)
     obtain ⟨B, o, eb, hb, hbl, hk⟩ := hL (by omega)
     cases eb
     obtain ⟨vs, v1, v2, y, hy, hly⟩ := hk j hj0
     rw [List.getElem?_eq_getElem hj0] at hy
     injection hy with hy
     rw [← e]
     refine ⟨m2, vs, fun i hi => ?_, ?_⟩
     ·rw [← v2 i hi]
      have h6 : (j + 1) * 6 ≤ L.length * 6 := Nat.mul_le_mul_right 6 hj0
      have := m3 (j * 6 + i) (by omega)
      rw [← Nat.add_assoc, ← Nat.add_assoc] at this
      exact this
     ·rw [hy]
      exact hly.up
    ·obtain ⟨j, hj, e⟩ := List.getElem_of_mem hq
     have hj0 := hj
     rw [List.length_zip, kidsTo_len, List.length_map, Nat.min_self] at hj0
     have ep := kE (by omega)
     subst ep
     rw [List.getElem_zip, kidsTo_get, List.getElem_map] at e
     obtain ⟨_, m2, mb, mq, rfl, m3⟩ := mE (by omega)
     obtain ⟨B, o, eb, hb, hbl, hk⟩ := hE (by omega)
     cases eb
     obtain ⟨vs, v1, v2, key, y, xs, hy, rfl, _, hly⟩ := hk j hj0
     rw [List.getElem?_eq_getElem hj0] at hy
     injection hy with hy
     rw [← e]
     refine ⟨m2, xs, fun i hi => ?_, ?_⟩
     ·have hv := v2 (i + 1) (by omega)
      rw [List.getElem?_cons_succ] at hv
      rw [← hv]
      have h6 : (j + 1) * 7 ≤ E.length * 7 := Nat.mul_le_mul_right 7 hj0
      have := m3 (j * 7 + (i + 1)) (by omega)
      rw [← Nat.add_assoc mq] at this
      rw [← this]
      show W.cell? ⟨g5, 0 + j * 7 + 1 + i, none⟩ = _
      congr 2
      omega
     ·rw [hy, opnE_ent]
      exact hly.up
   ·exact h.wait q hq
  ·rw [List.map_append, List.nodup_append]
   refine ⟨?_, h.apart, ?_⟩
   ·have e : ks.map pl = (ks.map Prod.fst).map fun x => (x.1, x.2.1) := by rw [List.map_map]; rfl
    rw [e, hf, List.map_append, List.nodup_append]
    refine ⟨?_, ?_, ?_⟩
    ·by_cases hn : L.length = 0
     ·rw [hn]; exact List.nodup_nil
     ·rw [kL hn]; exact kids_nodup _ _ _ _ _ (by omega)
    ·by_cases hn : E.length = 0
     ·rw [hn]; exact List.nodup_nil
     ·rw [kE hn]; exact kids_nodup _ _ _ _ _ (by omega)
    ·intro u hu v hv huv
     obtain ⟨u', hu', rfl⟩ := List.mem_map.1 hu
     obtain ⟨v', hv', rfl⟩ := List.mem_map.1 hv
     have hn : L.length ≠ 0 := fun e => by rw [e] at hu'; cases hu'
     have hn' : E.length ≠ 0 := fun e => by rw [e] at hv'; cases hv'
     rw [kL hn] at hu'
     rw [kE hn'] at hv'
     have e1 := kids_block _ _ _ _ _ hu'
     have e2 := kids_block _ _ _ _ _ hv'
     simp only [Prod.mk.injEq] at huv
     exact h45 hn hn' (by rw [← e1, ← e2]; exact huv.1)
   ·intro u hu v hv huv
    obtain ⟨u', hu', rfl⟩ := List.mem_map.1 hu
    obtain ⟨v', hv', rfl⟩ := List.mem_map.1 hv
    simp only [pl, Prod.mk.injEq] at huv
    rcases hblk u' hu' with ⟨hn, e⟩ | ⟨hn, e⟩
    ·exact (hs v' hv').1 hn (by rw [← e]; exact huv.1.symm)
    ·exact (hs v' hv').2 hn (by rw [← e]; exact huv.1.symm)
  ·rw [leftS_append, leftS_cons, nodes_parts hz, leftS, hsnd]
   omega
theorem CopyI.len {ok0 : Nat → Prop} {w : World} {n1 f : Nat} {t : V} {M : Nat → Prop} {W : World} : ∀ {s : List (Nd × V)}, CopyI ok0 w n1 f t M s W → (todoS s).length ≤ leftS f s
 | [], _ => Nat.zero_le _
 | p :: s, h => by
  have h1 := CopyI.len (s := s) h.tail.1
  obtain ⟨_, us, _, hl⟩ := h.wait p (by simp)
  have := nodes_pos hl.isV
  rw [leftS_cons]
  simp only [todoS, List.map_cons, List.length_cons] at *
  omega
end Go.Proofs.YtadaehaemmelfaaDoor.valus
namespace Go.Proofs.YtadaehaemmelfaaDoor.valus
open Go.RowKit Go.Shelf
attribute [local go_sem] Oper.semAt_some
theorem infoVal : (Tryd.prog.info? 26).map (fun i => (i.zero, i.size, i.bytes)) = some (some (.agg #[.int .i64 0, .int .i64 0, .int .u64 0, .string ⟨#[]⟩, .slice none 0 0, .slice none 0 0]), 6, 88) := by kernel_rfl
theorem infoEnt : (Tryd.prog.info? 57).map (fun i => (i.zero, i.size, i.bytes)) = some (some (.agg #[.string ⟨#[]⟩, .int .i64 0, .int .i64 0, .int .u64 0, .string ⟨#[]⟩, .slice none 0 0, .slice none 0 0]), 7, 104) := by kernel_rfl
theorem copy_row {ok0 : Nat → Prop} {w : World} {n1 f : Nat} {t : V} {M : Nat → Prop} {s : List (Nd × V)} {W : World} (h : CopyI ok0 w n1 f t M s W) (T e d bytes : Nat) {z : Value} (hz : z.cells.size = d) (ht : Tryd.prog.underlying T = some (.slice e)) (hi : (Tryd.prog.info? e).map (fun i => (i.zero, i.size, i.bytes)) = some (some z, d, bytes)) (hd : 0 < d) (hby : bytes ≤ 200)
  {p : Option Addr} {n c : Nat} {Q : Nat → List Value → Prop} (hn : n ≤ 10000000) (hR : RowIn ok0 w p d n Q) (hQ : ∀ j us, Q j us → ∀ u, u ∈ us → u.oneCell' = true) :
  ∃ p' c' W1, (Builtin.append_ #[T, T] T #[.slice none 0 0, .slice p n c]).run Tryd.prog W.drew = .ok (.slice p' n c') W1 ∧ W.grownBy W1 none ∧ n ≤ c' ∧ c' ≤ maxLen ∧
   (n ≠ 0 → p' = some ⟨W.heap.size, 0, none⟩ ∧ W.heap.size < W1.heap.size ∧ Free W1 W.heap.size ∧ ∃ b q, p = some ⟨b, q, none⟩ ∧ b < w.heap.size ∧ ok0 b ∧ ∀ i, i < n * d → (W.cell? ⟨b, q + i, none⟩).isSome = true ∧ W1.cell? ⟨W.heap.size, 0 + i, none⟩ = W.cell? ⟨b, q + i, none⟩) := by
 obtain ⟨i0, hi, hz0, hz1, hz2⟩ := info_parts hi
 have hcell : ∀ b i, b < w.heap.size → W.cell? ⟨b, i, none⟩ = w.cell? ⟨b, i, none⟩ := fun b i hb => World.cell?_of_block (h.below.block b hb)
 obtain ⟨p', c', W1, r1, r2, r3, r4, r5⟩ := append_old (P := Tryd.prog) T T e i0 z d bytes ht hi hz0 hz1 hz2 hz hd hby (W := W.drew) (p := p) (n := n) (c := c) hn (fun hne => by
  obtain ⟨b, q, hp, hb, _, hk⟩ := hR.flat hd hQ hne
  refine ⟨b, q, hp, fun i hi => ?_⟩
  obtain ⟨u, hu, h1⟩ := hk i hi
  exact ⟨u, (hcell b _ hb).trans hu, h1⟩)
 refine ⟨p', c', W1, r1, ⟨r2.os, r2.tape, r2.output, r2.size, r2.block⟩, r3, r4, fun hne => ?_⟩
 obtain ⟨e1, e2, e3, b, q, e4, e5⟩ := r5 hne
 obtain ⟨b', q', hp, hb, hok, hk⟩ := hR.flat hd hQ hne
 rw [e4] at hp
 cases hp
 refine ⟨e1, e2, e3, b, q, e4, hb, hok, fun i hi => ⟨?_, e5 i hi⟩⟩
 obtain ⟨u, hu, _⟩ := hk i hi
 rw [hcell b _ hb, hu]
 rfl
theorem put6_turns (W : World) (B : Nat) (u0 u1 u2 u3 u4 u5 : Value) : Turns (fun b => b = B) W (put6 W B u0 u1 u2 u3 u4 u5) := by
 have h := fun (X : World) (i : Nat) (v : Value) => Turns.setCell (M := fun b => b = B) X ⟨B, i, none⟩ v rfl
 exact (((((h W 0 u0).trans (h _ 1 u1) (fun _ _ h => h)).trans (h _ 2 u2) (fun _ _ h => h)).trans (h _ 3 u3) (fun _ _ h => h)).trans (h _ 4 u4) (fun _ _ h => h)).trans (h _ 5 u5) (fun _ _ h => h)
theorem results_copy {w : World} {B : Nat} {u0 u1 u2 u3 u4 u5 : Value} (tmps : Array Value) (h : Blk w B #[u0, u1, u2, u3, u4, u5] 26) (ht : tmps[2]? = some (.pointer (some ⟨B, 0, none⟩)) := by rfl) : (results Tryd.f29 tmps).run Tryd.prog w = .ok (.agg #[u0, u1, u2, u3, u4, u5]) w := by
 obtain ⟨c0, c1, c2, c3, c4, c5⟩ := h.cells6
 simp [results, Tryd.f29, ht, go_sem, c0, c1, c2, c3, c4, c5]
theorem LiesV.rows {ok : Nat → Prop} {f : Nat} {w : World} {us : List Value} {z : V} (h : LiesV ok f w us z) : ∃ (k n : Int) (b : Nat) (s : ByteArray) (pL : Option Addr) (nL cL : Nat) (pE : Option Addr) (nE cE : Nat) (QL QE : Nat → List Value → Prop), us = [.int .i64 k, .int .i64 n, .int .u64 (b : Int), .string s, .slice pL nL cL, .slice pE nE cE] ∧
  RowIn ok w pL 6 nL QL ∧ (∀ j us, QL j us → ∀ u, u ∈ us → u.oneCell' = true) ∧ RowIn ok w pE 7 nE QE ∧ (∀ j us, QE j us → ∀ u, u ∈ us → u.oneCell' = true) ∧ nL + nE ≤ nodesV f z := by
 cases f with
 | zero => exact h.elim
 | succ f =>
  have hz := h.isV
  obtain ⟨k, n, b, s, L, E, pL, pE, cL, cE, rfl, rfl, h3, h4, hL, hE⟩ := h
  refine ⟨k, n, b, s, pL, _, cL, pE, _, cE, _, _, rfl, hL, ?_, hE, ?_, ?_⟩
  ·rintro j us ⟨y, _, hy⟩
   exact hy.ones
  ·rintro j us ⟨key, y, xs, _, rfl, _, hy⟩ u hu
   rcases List.mem_cons.1 hu with rfl | hu
   ·rfl
   ·exact hy.ones u hu
  ·rw [nodes_parts hz, parts_mk]
   have hp : ∀ y, y ∈ L ++ E.map (fun e => (opnE e).2) → 1 ≤ nodesV (f + 1) y := fun y hy => by
    rcases List.mem_append.1 hy with hy | hy
    ·obtain ⟨j, hj, e⟩ := List.getElem_of_mem hy
     obtain ⟨_, _, _, _, _, hk⟩ := hL (by omega)
     obtain ⟨_, _, _, y', hy', hly⟩ := hk j hj
     rw [List.getElem?_eq_getElem hj, e] at hy'
     cases hy'
     exact nodes_pos hly.up.isV
    ·obtain ⟨q, hq, rfl⟩ := List.mem_map.1 hy
     obtain ⟨j, hj, e⟩ := List.getElem_of_mem hq
     obtain ⟨_, _, _, _, _, hk⟩ := hE (by omega)
     obtain ⟨_, _, _, key, y', xs, hy', _, _, hly⟩ := hk j hj
     rw [List.getElem?_eq_getElem hj, e] at hy'
     cases hy'
     rw [opnE_ent]
     exact nodes_pos hly.up.isV
   have := len_sum hp
   rw [List.length_append, List.length_map] at this
   omega
theorem copy_any (ok0 : Nat → Prop) (f : Nat) (w : World) (t : V) (a0 a1 a2 a3 a4 a5 : Value) (hok : ∀ b, ok0 b → b < w.heap.size) (hl : LiesV ok0 f w [a0, a1, a2, a3, a4, a5] t) (hn : nodesV f t ≤ 10000000) :
  CallsIn Fence.wide 9 Tryd.prog 29 #[.agg #[a0, a1, a2, a3, a4, a5]] w fun e w' => (∃ x0 x1 x2 x3 x4 x5, e = .returned (.agg #[x0, x1, x2, x3, x4, x5]) ∧ LiesV (fun b => ok0 b ∨ (w.heap.size ≤ b ∧ b < w'.heap.size)) f w' [x0, x1, x2, x3, x4, x5] t) ∧ Below w.heap.size w w' := by
 obtain ⟨k, n, b, s, pL, nL, cL, pE, nE, cE, rfl, rfl, rfl, rfl, rfl, rfl⟩ := hl.form
 refine callsIn_of_wp_marks Tryd.func29 rfl trivial ?_ rfl
 simp only [Tryd.ntmps29, List.size_toArray, List.length_cons, List.length_nil, Nat.reduceAdd, Nat.reduceSub, Array.replicate_succ, Array.replicate_zero, List.push_toArray, List.append_toArray, List.nil_append, List.cons_append]
 gi_wp2
 obtain ⟨Wb, hWb⟩ : ∃ Wb, Wb = (w.alloc (.cells #[.int .i64 k, .int .i64 n, .int .u64 (b : Int), .string s, .slice pL nL cL, .slice pE nE cE] 26)).alloc (.cells #[.int .i64 0, .int .i64 0, .int .u64 0, .string ⟨#[]⟩, .slice none 0 0, .slice none 0 0] 26) := ⟨_, rfl⟩
 rw [← hWb]
 have sb : Wb.heap.size = w.heap.size + 2 := by rw [hWb]; simp
 have tb : Below w.heap.size w Wb := by rw [hWb]; exact ((Below.refl _ w).alloc (Nat.le_refl _) _).alloc (by simp) _
 have vb : Blk Wb w.heap.size #[.int .i64 k, .int .i64 n, .int .u64 (b : Int), .string s, .slice pL nL cL, .slice pE nE cE] 26 := by rw [hWb]; exact (blk_alloc w _ _).alloc _
 have rb : Blk Wb (w.heap.size + 1) #[.int .i64 0, .int .i64 0, .int .u64 0, .string ⟨#[]⟩, .slice none 0 0, .slice none 0 0] 26 := by
  rw [hWb]
  have := blk_alloc (w.alloc (.cells #[.int .i64 k, .int .i64 n, .int .u64 (b : Int), .string s, .slice pL nL cL, .slice pE nE cE] 26)) #[.int .i64 0, .int .i64 0, .int .u64 0, .string ⟨#[]⟩, .slice none 0 0, .slice none 0 0] 26
  rwa [World.size_alloc] at this
 clear hWb
 refine ⟨trivial, (nodesN_any _ _ _).mono ?_⟩
 rintro e w' ⟨rfl, rfl⟩
 gi_wp2
 obtain ⟨W2, hW2⟩ : ∃ W2, W2 = (Wb.alloc (.cells #[.pointer (some ⟨w.heap.size, 0, none⟩), .int .i64 0] 77)).alloc (.cells #[.func (.func 56) #[] #[]] 107) := ⟨_, rfl⟩
 rw [← hW2]
 have s2 : W2.heap.size = Wb.heap.size + 2 := by rw [hW2]; simp
 have t2 : Turns (fun _ => False) Wb W2 := by rw [hW2]; exact (Turns.alloc _ _ _).trans (Turns.alloc (fun _ => False) _ _) (fun _ _ h => h)
 have x1 : W2.heap[w.heap.size + 2]? = some (.cells #[.pointer (some ⟨w.heap.size, 0, none⟩), .int .i64 0] 77) := by rw [← sb, hW2]; exact (blk_alloc Wb _ _).alloc _
 have x2 : W2.heap[w.heap.size + 2 + 1]? = some (.cells #[.func (.func 56) #[] #[]] 107) := by
  rw [← sb, hW2]
  have := blk_alloc (Wb.alloc (.cells #[.pointer (some ⟨w.heap.size, 0, none⟩), .int .i64 0] 77)) #[.func (.func 56) #[] #[]] 107
  rwa [World.size_alloc] at this
 clear hW2
 refine wpIn_range_walk (lb := #[.pointer (some ⟨w.heap.size + 2, 0, none⟩), .pointer (some ⟨w.heap.size + 2 + 1, 0, none⟩)]) rfl (enters_of Tryd.func71 (by kernel_rfl) rfl)
  (walkN_in (w.heap.size + 2) (w.heap.size + 2 + 1) (w.heap.size, 0, 0) todoS (leftS f) W2 x1 x2) (Below.refl _ _) rfl (fun M W x kids l o o' h _ h2 h3 => h.put o' h2 h3)
  (w.heap.size + 2) (by omega)
  (fun M st W => CopyI ok0 w (w.heap.size + 2) f t M st W ∧ leftS f st ≤ nodesV f t ∧ (∀ p, p ∈ st → p.1.1 ≠ w.heap.size + 1) ∧ Blk W (w.heap.size + 1) #[.int .i64 0, .int .i64 0, .int .u64 0, .string ⟨#[]⟩, .slice none 0 0, .slice none 0 0] 26)
  (fun _ _ _ _ => False)
  ?ab (fun _ _ _ _ _ _ h _ _ => h) [((w.heap.size, 0, 0), t)] rfl (fun b h => by omega) ?start (fun M st X h => by have := h.1.len; omega)
  (fun x a' W => ∃ Bx, Blk W Bx #[.pointer (some ⟨x.1, x.2.1, none⟩), .int .i64 x.2.2] 77 ∧ a' = { tmps := #[.agg #[.int .i64 k, .int .i64 n, .int .u64 (b : Int), .string s, .slice pL nL cL, .slice pE nE cE], .pointer (some ⟨w.heap.size, 0, none⟩), .pointer (some ⟨w.heap.size + 1, 0, none⟩), .pointer (some ⟨Bx, 0, none⟩), .func (.func 71) #[] #[.pointer (some ⟨w.heap.size + 2, 0, none⟩), .pointer (some ⟨w.heap.size + 2 + 1, 0, none⟩)], encN x, undef, undef, undef, undef, undef, undef, undef, undef, undef, undef, undef, undef, undef, undef, undef, undef, undef, undef, undef, undef, undef], defers := [] })
  ?ax ?assign ?body ?done (fun _ _ _ _ _ h _ => h.elim)
 case ab =>
  rintro M M' st A B ⟨hS, hle, hne, hrb⟩ ht hm
  refine ⟨hS.still ht hm, hle, hne, (ht.block _ (by have := hS.size; omega) (fun h => ?_)).trans hrb⟩
  rcases h with h | h
  ·have := hS.mine _ h
   omega
  ·omega
 case start =>
  have e0 : leftS f [((w.heap.size, 0, 0), t)] = nodesV f t := by rw [leftS_cons]; rfl
  have vb2 : Blk W2 w.heap.size #[.int .i64 k, .int .i64 n, .int .u64 (b : Int), .string s, .slice pL nL cL, .slice pE nE cE] 26 := (t2.block _ (by omega) (fun h => h)).trans vb
  have b2 : Below w.heap.size w W2 := tb.trans (t2.below (by omega) (fun _ h => h.elim))
  have hcs : ∀ i, i < 6 → W2.cell? ⟨w.heap.size, 0 + i, none⟩ = [Value.int .i64 k, .int .i64 n, .int .u64 (b : Int), .string s, .slice pL nL cL, .slice pE nE cE][i]? := fun i hi => by
   rw [Nat.zero_add]
   match i, hi with
   | 0, _ => exact vb2.cell 0 _ rfl
   | 1, _ => exact vb2.cell 1 _ rfl
   | 2, _ => exact vb2.cell 2 _ rfl
   | 3, _ => exact vb2.cell 3 _ rfl
   | 4, _ => exact vb2.cell 4 _ rfl
   | 5, _ => exact vb2.cell 5 _ rfl
  refine ⟨⟨fun b h => by omega, by omega, by omega, b2, ⟨_, hcs, hl.kept (fun b hb => .inl ⟨hok b hb, hb⟩) b2.size (fun b _ hb => b2.block b hb)⟩, fun p hp => ?_, by simp⟩, by rw [e0]; exact Nat.le_refl _, by simp, (t2.block _ (by omega) (fun h => h)).trans rb⟩
  rw [List.mem_singleton.1 hp]
  exact ⟨⟨Nat.le_refl _, by simp only; omega, by simp only; omega, fun i => by have h := vb2; unfold Blk at h; simp [World.frozen?, h]⟩, _, hcs, hl⟩
 case ax =>
  rintro x a' W l o o' ⟨Bx, hb, ha⟩ h1 h2
  refine ⟨Bx, (World.putObj_heap_other (fun e => ?_)).trans hb, ha⟩
  rw [← e, show W.heap[Bx]? = _ from hb] at h1
  cases h1
  cases h2
 case assign =>
  intro l x W K hK
  simp only [encN] at *
  gi_wp2
  exact hK _ _ (Turns.alloc _ _ _) ⟨W.heap.size, blk_alloc _ _ _, by simp⟩
 case body =>
  rintro l M st x rest a' W hlw ⟨r, hr⟩ ⟨Bx, hbB, rfl⟩ ⟨hS, hle, hne, hrb⟩ hM ht
  cases st with
  | nil => cases ht
  | cons p st =>
   simp only [todoS, List.map_cons, List.cons.injEq] at ht
   obtain ⟨rfl, rfl⟩ := ht
   obtain ⟨hT, hap⟩ := hS.tail
   obtain ⟨⟨b1, b2, b3, b4⟩, us, hus, hlu⟩ := hS.wait p (by simp)
   obtain ⟨vk, vn, vb', vs, vpL, vnL, vcL, vpE, vnE, vcE, QL, QE, rfl, hRL, hQL, hRE, hQE, hsum⟩ := hlu.rows
   have hB1 : p.1.1 ≠ w.heap.size + 1 := hne p (by simp)
   have hle2 := hle
   rw [leftS_cons] at hle2
   have v3 : W.cell? ⟨p.1.1, p.1.2.1 + 3, none⟩ = some (.string vs) := hus 3 (by omega)
   have v4 : W.cell? ⟨p.1.1, p.1.2.1 + 4, none⟩ = some (.slice vpL vnL vcL) := hus 4 (by omega)
   have v5 : W.cell? ⟨p.1.1, p.1.2.1 + 5, none⟩ = some (.slice vpE vnE vcE) := hus 5 (by omega)
   have nB : Bx ≠ p.1.1 := fun e => by
    have h1 := hbB
    unfold Blk at h1
    rw [e] at h1
    have h2 := v3
    simp [World.cell?, h1] at h2
   have lBx := Blk.lt hbB
   have sz0 := hS.size
   obtain ⟨p4, c4', W1, run1, g1, m1, m2, row1⟩ := copy_row hT 23 26 6 88 rfl Tryd.underlying23 infoVal (by omega) (by omega) (c := vcL) (n := vnL) (by omega) hRL hQL
   have T1 := hT.turn hM (k := 4) (d := 6) (.inl rfl) rfl b1 b2 b3 b4 hap ⟨_, v3⟩ ⟨_, _, _, v4⟩ ⟨_, _, _, v5⟩ v4 g1 m1 m2 row1
   have d0 : W1.cell? ⟨Bx, 0, none⟩ = some (.pointer (some ⟨p.1.1, p.1.2.1, none⟩)) := (World.cell?_of_block (g1.block Bx lBx (by simp))).trans (Blk.cell hbB 0 _ rfl)
   have d4 : W1.cell? ⟨p.1.1, p.1.2.1 + 4, none⟩ = some (.slice vpL vnL vcL) := (World.cell?_of_block (g1.block p.1.1 b3 (by simp))).trans v4
   have e4 : W1.frozen? ⟨p.1.1, p.1.2.1 + 4, none⟩ = false := (b4.same (g1.block p.1.1 b3 (by simp))) _
   obtain ⟨Wm, hWm⟩ : ∃ Wm, Wm = W1.setCell ⟨p.1.1, p.1.2.1 + 4, none⟩ (.slice p4 vnL c4') := ⟨_, rfl⟩
   rw [← hWm] at T1
   obtain ⟨hT', blk', cel', hit', free', new', sz'⟩ := T1
   have sg1 := g1.size
   have hbB' : Blk Wm Bx #[.pointer (some ⟨p.1.1, p.1.2.1, none⟩), .int .i64 p.1.2.2] 77 := (blk' Bx lBx nB).trans hbB
   have v3' := (cel' (p.1.2.1 + 3) (by omega)).trans v3
   have v5' := (cel' (p.1.2.1 + 5) (by omega)).trans v5
   obtain ⟨p5, c5', W3, run2, g2, m3, m4, row2⟩ := copy_row hT' 24 57 7 104 rfl Tryd.underlying24 infoEnt (by omega) (by omega) (c := vcE) (n := vnE) (by omega) hRE hQE
   have T2 := hT'.turn (fun b hb => by have := hM b hb; omega) (k := 5) (d := 7) (.inr rfl) rfl b1 b2 (by omega) free' hap ⟨_, v3'⟩ ⟨_, _, _, hit'⟩ ⟨_, _, _, v5'⟩ v5' g2 m3 m4 row2
   have d0' : W3.cell? ⟨Bx, 0, none⟩ = some (.pointer (some ⟨p.1.1, p.1.2.1, none⟩)) := (World.cell?_of_block (g2.block Bx (by omega) (by simp))).trans (Blk.cell hbB' 0 _ rfl)
   have d5 : W3.cell? ⟨p.1.1, p.1.2.1 + 5, none⟩ = some (.slice vpE vnE vcE) := (World.cell?_of_block (g2.block p.1.1 (by omega) (by simp))).trans v5'
   have e5 : W3.frozen? ⟨p.1.1, p.1.2.1 + 5, none⟩ = false := (free'.same (g2.block p.1.1 (by omega) (by simp))) _
   obtain ⟨Wn, hWn⟩ : ∃ Wn, Wn = W3.setCell ⟨p.1.1, p.1.2.1 + 5, none⟩ (.slice p5 vnE c5') := ⟨_, rfl⟩
   rw [← hWn] at T2
   obtain ⟨hT2, blk2, cel2, hit2, free2, new2, sz2⟩ := T2
   have sg2 := g2.size
   have FIN : walkPost W2.heap.size (fun M st W => CopyI ok0 w (w.heap.size + 2) f t M st W ∧ leftS f st ≤ nodesV f t ∧ (∀ p, p ∈ st → p.1.1 ≠ w.heap.size + 1) ∧ Blk W (w.heap.size + 1) #[.int .i64 0, .int .i64 0, .int .u64 0, .string ⟨#[]⟩, .slice none 0 0, .slice none 0 0] 26) (fun _ _ _ _ => False) todoS (leftS f) KidsN M (p :: st) p.1 (List.map Prod.fst st) W .normal { tmps := #[], defers := [] } Wn := by
    have mL : Made w.heap.size w Wn M vpL p4 vnL 6 W.heap.size := fun hn0 => by
     obtain ⟨i1, i2, i3, ib, iq, i4, ilt, iok, i5⟩ := row1 hn0
     obtain ⟨j1, j2⟩ := new' hn0
     have bl : Wn.heap[W.heap.size]? = Wm.heap[W.heap.size]? := blk2 _ (by omega) (by omega)
     refine ⟨i1, ⟨by omega, fun hx => by have := hM _ hx; omega, by omega, j1.same bl⟩, ib, iq, i4, fun i hi => ?_⟩
     exact (World.cell?_of_block bl).trans ((j2 _).trans ((i5 i hi).2.trans (World.cell?_of_block (hT.below.block ib ilt))))
    have mE : Made w.heap.size w Wn M vpE p5 vnE 7 Wm.heap.size := fun hn0 => by
     obtain ⟨i1, i2, i3, ib, iq, i4, ilt, iok, i5⟩ := row2 hn0
     obtain ⟨j1, j2⟩ := new2 hn0
     refine ⟨i1, ⟨by omega, fun hx => by have := hM _ hx; omega, by omega, j1⟩, ib, iq, i4, fun i hi => ?_⟩
     exact (j2 _).trans ((i5 i hi).2.trans (World.cell?_of_block (hT'.below.block ib ilt)))
    obtain ⟨ks, hkd, hks, hK, hleft, hkb⟩ := hT2.kids (x := p.1) hlu rfl rfl b2 (by omega) ((cel2 (p.1.2.1 + 4) (by omega)).trans hit') hit2 mL mE (fun hn0 _ => by have := (row1 hn0).2.1; omega) (fun q hq => by have := (hT.wait q hq).1.2.2.1; exact ⟨fun _ => by omega, fun _ => by omega⟩)
    have hleft' : leftS f (ks ++ st) + 1 = leftS f (p :: st) := hleft
    have bl1 : ∀ b, b < W.heap.size → b ≠ p.1.1 → Wn.heap[b]? = W.heap[b]? := fun b hb hne => (blk2 b (by omega) hne).trans (blk' b hb hne)
    refine ⟨⟨⟨by omega, fun k o _ hk hc => (bl1 k (Array.getElem?_eq_some_iff.1 hk).1 (fun e => ?_)).trans hk⟩, ⟨hT2.below.os.trans hS.below.os.symm, hT2.below.tape.trans hS.below.tape.symm, hT2.below.output.trans hS.below.output.symm, by omega, fun b hb hnn => bl1 b hb (fun e => hnn (by rw [e]; exact b2))⟩⟩, ks ++ st, ks.map Prod.fst, ⟨hK, by omega, fun q hq => ?_, (bl1 _ (by omega) (fun e => hB1 e.symm)).trans hrb⟩, by simp [todoS], by omega, hkd⟩
    ·obtain ⟨o2, h2, h3⟩ := cells_of_cell v3
     simp only at h2
     rw [← e, hk] at h2
     cases h2
     rw [hc] at h3
     cases h3
    ·rcases List.mem_append.1 hq with hq | hq
     ·rcases hkb q hq with ⟨hn0, e⟩ | ⟨hn0, e⟩
      ·rw [e]; omega
      ·rw [e]; omega
     ·exact hne q (by simp [hq])
   have c0 : W.cell? ⟨Bx, 0, none⟩ = some (.pointer (some ⟨p.1.1, p.1.2.1, none⟩)) := Blk.cell hbB 0 _ rfl
   have c0' : Wm.cell? ⟨Bx, 0, none⟩ = some (.pointer (some ⟨p.1.1, p.1.2.1, none⟩)) := Blk.cell hbB' 0 _ rfl
   have HF := hide FIN
   have H1 := hide hWm
   have H2 := hide hWn
   clear FIN hWm hWn new' new2 row1 row2 blk' blk2 cel' cel2 hT' hT2 hT hS hap hRL hRE hQL hQE
   gi_wp2
   refine wpIn_region_any (by kernel_rfl) ?_
   refine copyL rfl rfl rfl rfl rfl rfl rfl rfl rfl rfl rfl (by kernel_rfl) (by kernel_rfl) (by kernel_rfl) (by kernel_rfl) (by kernel_rfl) (by kernel_rfl) (by kernel_rfl) (by kernel_rfl) (by kernel_rfl) (by kernel_rfl) (by kernel_rfl) (by kernel_rfl) (by kernel_rfl) (by kernel_rfl) (by kernel_rfl) (by kernel_rfl) (by kernel_rfl) (by kernel_rfl) (by kernel_rfl) (by kernel_rfl) (by kernel_rfl) (by kernel_rfl) (by kernel_rfl) (by kernel_rfl) c0 v4 run1 d0 d4 e4 ?_
   rw [← H1.out]
   gi_wp2
   refine wpIn_region_any (by kernel_rfl) ?_
   refine copyE rfl rfl rfl rfl rfl rfl rfl rfl rfl rfl rfl (by kernel_rfl) (by kernel_rfl) (by kernel_rfl) (by kernel_rfl) (by kernel_rfl) (by kernel_rfl) (by kernel_rfl) (by kernel_rfl) (by kernel_rfl) (by kernel_rfl) (by kernel_rfl) (by kernel_rfl) (by kernel_rfl) (by kernel_rfl) (by kernel_rfl) (by kernel_rfl) (by kernel_rfl) (by kernel_rfl) (by kernel_rfl) (by kernel_rfl) (by kernel_rfl) (by kernel_rfl) (by kernel_rfl) (by kernel_rfl) c0' v5' run2 d0' d5 e5 ?_
   rw [← H2.out]
   gi_wp2
   exact HF.out
 case done =>
  rintro D M st W hD ht ⟨hS, hle, hne, hrb⟩ hdf
  obtain ⟨us, hus, hlu⟩ := hS.root
  have hlen := hlu.len
  match us, hlen with
  | [y0, y1, y2, y3, y4, y5], _ =>
   obtain ⟨vk, vn, vbb, vs, vpL, vnL, vcL, vpE, vnE, vcE, rfl, rfl, rfl, rfl, rfl, rfl⟩ := hlu.form
   have r0 := hus 0 (by omega)
   have r1 := hus 1 (by omega)
   have r2 := hus 2 (by omega)
   have r3 := hus 3 (by omega)
   have r4 := hus 4 (by omega)
   have r5 := hus 5 (by omega)
   simp only [Nat.zero_add, Nat.add_zero, List.getElem?_cons_zero, List.getElem?_cons_succ] at r0 r1 r2 r3 r4 r5
   have q0 := hrb.cell 0 _ rfl
   have q1 := hrb.cell 1 _ rfl
   have q2 := hrb.cell 2 _ rfl
   have q3 := hrb.cell 3 _ rfl
   have q4 := hrb.cell 4 _ rfl
   have q5 := hrb.cell 5 _ rfl
   have z0 := Blk.froz hrb 0
   have z1 := Blk.froz hrb 1
   have z2 := Blk.froz hrb 2
   have z3 := Blk.froz hrb 3
   have z4 := Blk.froz hrb 4
   have z5 := Blk.froz hrb 5
   have HS := hide hS
   have HL := hide hlu
   have HU := hide hus
   clear hS hlu hus
   gi_wp2
   have hX := put6_blk hrb (.int .i64 vk) (.int .i64 vn) (.int .u64 (vbb : Int)) (.string vs) (.slice vpL vnL vcL) (.slice vpE vnE vcE)
   have hdl := (Array.getElem?_eq_some_iff.1 hdf).1
   have tX : Turns (fun b => b = w.heap.size + 1) W (put6 W (w.heap.size + 1) (.int .i64 vk) (.int .i64 vn) (.int .u64 (vbb : Int)) (.string vs) (.slice vpL vnL vcL) (.slice vpE vnE vcE)) :=
    put6_turns _ _ _ _ _ _ _ _
   generalize hXX : put6 W (w.heap.size + 1) (.int .i64 vk) (.int .i64 vn) (.int .u64 (vbb : Int)) (.string vs) (.slice vpL vnL vcL) (.slice vpE vnE vcE) = X at hX tX
   simp only [put6] at hXX
   rw [hXX]
   have hdf2 : X.heap[D]? = some (.deferred (some [])) := (tX.block D hdl (by omega)).trans hdf
   have hX2 : Blk (X.putObj D (.deferred none)) (w.heap.size + 1) #[.int .i64 vk, .int .i64 vn, .int .u64 (vbb : Int), .string vs, .slice vpL vnL vcL, .slice vpE vnE vcE] 26 := (World.putObj_heap_other (by omega)).trans hX
   refine ⟨by simp, .inl ⟨_, _, rfl, run_takeDeferred hdf2, ?_⟩⟩
   have tY : Turns (fun b => b = w.heap.size + 1 ∨ b = D) W (X.putObj D (.deferred none)) := (tX.mono fun _ _ h => .inl h).trans (Turns.putObj (M := fun b => b = D) _ _ _ rfl) (fun _ _ h => .inr h)
   refine ⟨_, results_copy _ hX2, ⟨_, _, _, _, _, _, rfl, ?_⟩, HS.out.below.trans (tY.below (n := w.heap.size) (by have := HS.out.size; omega) (fun b h => by omega))⟩
   refine HL.out.kept (fun b hb => hb.elim (fun h => .inl h.2) (fun h => .inr ⟨h.1, Nat.lt_of_lt_of_le h.2.1.1 tY.size⟩)) tY.size (fun b hb hlt => tY.block b hlt (fun hx => ?_))
   rcases hb with hb | ⟨_, ⟨_, h1⟩, _, i, v, hc⟩
   ·omega
   ·rcases hx with hx | hx
    ·exact h1 hx
    ·subst hx
     simp [World.cell?, hdf] at hc
end Go.Proofs.YtadaehaemmelfaaDoor.valus
