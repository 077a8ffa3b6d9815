/- The regions of appendValue's rounds: in whatever order. -/
import Derived.Test.YtdpoiagnjdajbaaDoorPartAR
import Derived.RangeFuncCalls
import Derived.OwnWalkIn
set_option linter.unusedVariables false
namespace Go.Proofs.YtdpoiagnjdajbaaDoor.valus
open Go.RowKit Go.Shelf
attribute [local go_sem] Oper.semAt_some

/-- What append does inside a region of no round. -/
theorem opWide_append' {n : Nat} {P : Program} {ops : Array Oper} {o : Oper} {a : Act} {w w' : World} {K : Act → World → Prop} {Q : Exit → Act → World → Prop} (s x : Operand) (t : TypeId)
    (ho : o.op = .call { callee := .builtin .append, args := #[s, x], argTypes := #[t, t] }) (hg : o.guard = none) {v u v' : Value} (hs : a.eval s = v) (hx : a.eval x = u)
    (hr : (Builtin.append_ #[t, t] o.type #[v, u]).run P w = .ok v' w') (hK : K (a.put o.dst v') w') :
    if Region.wanted o (yielded ops a.tmps) = true then Oper.wpIn Fence.wide n P o a w K Q else (∀ f, o.about P w a.eval = some f → Fence.wide.fn f) ∧ K (a.put o.dst undef) w := by
  rw [if_pos (by simp [Region.wanted, hg])]
  unfold Oper.wpIn
  refine ⟨fun _ _ => trivial, ?_⟩
  rw [Oper.semAt_plain _ _ _ (by rw [ho]; intro c hc'; cases hc')]
  simp [execOp, ho, resolve, invoke, builtin, hs, hx, hr, Result.andThen]
  exact hK

set_option maxRecDepth 100000 in
set_option maxHeartbeats 4000000 in
theorem loop5R {Q : Exit → Act → World → Prop} {ops : Array Oper} {D : List Deferred} {t1 t2 t3 t4 t5 t7 t8 t9 t10 t11 t12 t13 t14 t15 t16 t17 t18 t19 t20 t21 t22 t23 t24 t25 t26 t27 t28 t29 t30 t31 t32 t33 t34 t35 t36 t37 t38 t39 t40 t41 t42 t43 t44 t45 t46 t47 t48 t49 t50 t51 t52 t53 t54 t55 t56 t57 t58 t59 t60 t61 t62 t63 t64 t65 t66 t67 t68 t69 t70 t71 t72 t73 t74 t75 t76 t77 t78 t79 t80 t81 t82 t83 t84 t85 t86 t87 t88 v v1 : Value} {W W2 : World} {Bx : Nat} {k n : Int} {b : Nat} {s : ByteArray} {pL : Option Addr} {nL cL : Nat} {pE : Option Addr} {nE cE : Nat} {q0 q1 q2 q3 q4 q5 : String} {f0 f1 f2 f3 f4 f5 : _} (H : World → Value → Prop)
    (h0 : ops[0]? = some { dst := some 56, op := .move (.tmp 0), type := 27, pos := q0, after := f0, guard := none })
    (h1 : ops[1]? = some { dst := some 57, op := .buildSlice 27 1 #[(0, .const (.int .u8 1))], type := 27, pos := q1, after := f1, guard := none })
    (h2 : ops[2]? = some { dst := some 58, op := .call { callee := .builtin .append, args := #[.tmp 56, .tmp 57], argTypes := #[27, 27] }, type := 27, pos := q2, after := f2, guard := none })
    (h3 : ops[3]? = some { dst := some 59, op := .load 26 (.tmp 6), type := 26, pos := q3, after := f3, guard := none })
    (h4 : ops[4]? = some { dst := some 60, op := .call { callee := .value (.func 21), args := #[.tmp 58, .tmp 59], argTypes := #[27, 26] }, type := 27, pos := q4, after := f4, guard := none })
    (h5 : ops[5]? = some { dst := some 0, op := .assign (.tmp 60), type := 27, pos := q5, after := f5, guard := none })
    (r012345 : Region.ready .any ops #[true, true, true, true, true, true] = [])
    (r01234 : Region.ready .any ops #[true, true, true, true, true, false] = [5])
    (r0123 : Region.ready .any ops #[true, true, true, true, false, false] = [4])
    (r012 : Region.ready .any ops #[true, true, true, false, false, false] = [3])
    (r013 : Region.ready .any ops #[true, true, false, true, false, false] = [2])
    (r01 : Region.ready .any ops #[true, true, false, false, false, false] = [2, 3])
    (r03 : Region.ready .any ops #[true, false, false, true, false, false] = [1])
    (r13 : Region.ready .any ops #[false, true, false, true, false, false] = [0])
    (r0 : Region.ready .any ops #[true, false, false, false, false, false] = [1, 3])
    (r1 : Region.ready .any ops #[false, true, false, false, false, false] = [0, 3])
    (r3 : Region.ready .any ops #[false, false, false, true, false, false] = [0, 1])
    (r : Region.ready .any ops #[false, false, false, false, false, false] = [0, 1, 3])
    (ca0 : W.cell? ⟨Bx, 0, none⟩ = some (.int .i64 k))
    (ca1 : W.cell? ⟨Bx, 1, none⟩ = some (.int .i64 n))
    (ca2 : W.cell? ⟨Bx, 2, none⟩ = some (.int .u64 (b : Int)))
    (ca3 : W.cell? ⟨Bx, 3, none⟩ = some (.string s))
    (ca4 : W.cell? ⟨Bx, 4, none⟩ = some (.slice pL nL cL))
    (ca5 : W.cell? ⟨Bx, 5, none⟩ = some (.slice pE nE cE))
    (cb0 : (W.alloc (.cells #[.int .u8 1] 5)).cell? ⟨Bx, 0, none⟩ = some (.int .i64 k))
    (cb1 : (W.alloc (.cells #[.int .u8 1] 5)).cell? ⟨Bx, 1, none⟩ = some (.int .i64 n))
    (cb2 : (W.alloc (.cells #[.int .u8 1] 5)).cell? ⟨Bx, 2, none⟩ = some (.int .u64 (b : Int)))
    (cb3 : (W.alloc (.cells #[.int .u8 1] 5)).cell? ⟨Bx, 3, none⟩ = some (.string s))
    (cb4 : (W.alloc (.cells #[.int .u8 1] 5)).cell? ⟨Bx, 4, none⟩ = some (.slice pL nL cL))
    (cb5 : (W.alloc (.cells #[.int .u8 1] 5)).cell? ⟨Bx, 5, none⟩ = some (.slice pE nE cE))
    (cc0 : W2.cell? ⟨Bx, 0, none⟩ = some (.int .i64 k))
    (cc1 : W2.cell? ⟨Bx, 1, none⟩ = some (.int .i64 n))
    (cc2 : W2.cell? ⟨Bx, 2, none⟩ = some (.int .u64 (b : Int)))
    (cc3 : W2.cell? ⟨Bx, 3, none⟩ = some (.string s))
    (cc4 : W2.cell? ⟨Bx, 4, none⟩ = some (.slice pL nL cL))
    (cc5 : W2.cell? ⟨Bx, 5, none⟩ = some (.slice pE nE cE))
    (hr : (Builtin.append_ #[27, 27] 27 #[v, .slice (some ⟨W.heap.size, 0, none⟩) 1 1]).run Tryd.prog (W.alloc (.cells #[.int .u8 1] 5)) = .ok v1 W2)
    (hC : CallsIn Fence.wide 8 Tryd.prog 21 #[v1, (.agg #[.int .i64 k, .int .i64 n, .int .u64 (b : Int), .string s, .slice pL nL cL, .slice pE nE cE])] W2 fun e w2 => ∃ v', e = .returned v' ∧ H w2 v')
    (hQ : ∀ w2 v', H w2 v' → Q .normal { tmps := #[v', t1, t2, t3, t4, t5, (.pointer (some ⟨Bx, 0, none⟩)), t7, t8, t9, t10, t11, t12, t13, t14, t15, t16, t17, t18, t19, t20, t21, t22, t23, t24, t25, t26, t27, t28, t29, t30, t31, t32, t33, t34, t35, t36, t37, t38, t39, t40, t41, t42, t43, t44, t45, t46, t47, t48, t49, t50, t51, t52, t53, t54, t55, v, (.slice (some ⟨W.heap.size, 0, none⟩) 1 1), v1, (.agg #[.int .i64 k, .int .i64 n, .int .u64 (b : Int), .string s, .slice pL nL cL, .slice pE nE cE]), v', t61, t62, t63, t64, t65, t66, t67, t68, t69, t70, t71, t72, t73, t74, t75, t76, t77, t78, t79, t80, t81, t82, t83, t84, t85, t86, t87, t88], defers := D } w2) :
    wpAnyIn Fence.wide 9 Tryd.prog .any ops Q 6 #[false, false, false, false, false, false] { tmps := #[v, t1, t2, t3, t4, t5, (.pointer (some ⟨Bx, 0, none⟩)), t7, t8, t9, t10, t11, t12, t13, t14, t15, t16, t17, t18, t19, t20, t21, t22, t23, t24, t25, t26, t27, t28, t29, t30, t31, t32, t33, t34, t35, t36, t37, t38, t39, t40, t41, t42, t43, t44, t45, t46, t47, t48, t49, t50, t51, t52, t53, t54, t55, t56, t57, t58, t59, t60, t61, t62, t63, t64, t65, t66, t67, t68, t69, t70, t71, t72, t73, t74, t75, t76, t77, t78, t79, t80, t81, t82, t83, t84, t85, t86, t87, t88], defers := D } W := by
  have s0123 : wpAnyIn Fence.wide 9 Tryd.prog .any ops Q 2 #[true, true, true, true, false, false] { tmps := #[v, t1, t2, t3, t4, t5, (.pointer (some ⟨Bx, 0, none⟩)), t7, t8, t9, t10, t11, t12, t13, t14, t15, t16, t17, t18, t19, t20, t21, t22, t23, t24, t25, t26, t27, t28, t29, t30, t31, t32, t33, t34, t35, t36, t37, t38, t39, t40, t41, t42, t43, t44, t45, t46, t47, t48, t49, t50, t51, t52, t53, t54, t55, v, (.slice (some ⟨W.heap.size, 0, none⟩) 1 1), v1, (.agg #[.int .i64 k, .int .i64 n, .int .u64 (b : Int), .string s, .slice pL nL cL, .slice pE nE cE]), t60, t61, t62, t63, t64, t65, t66, t67, t68, t69, t70, t71, t72, t73, t74, t75, t76, t77, t78, t79, t80, t81, t82, t83, t84, t85, t86, t87, t88], defers := D } W2 := by
    refine wpAnyIn_ready r0123 (by simp) (AllReadyIn.cons h4 (fun K hK => ?_) AllReadyIn.nil)
    go_simp
    refine ⟨trivial, hC.mono ?_⟩
    rintro e w2 ⟨v', rfl, hH⟩
    refine hK _ _ (wpAnyIn_ready r01234 (by simp) (AllReadyIn.cons h5 (fun K hK => ?_) AllReadyIn.nil))
    go_simp
    exact hK _ _ (wpAnyIn_done r012345 (hQ w2 v' hH) _)
  have s012 : wpAnyIn Fence.wide 9 Tryd.prog .any ops Q 3 #[true, true, true, false, false, false] { tmps := #[v, t1, t2, t3, t4, t5, (.pointer (some ⟨Bx, 0, none⟩)), t7, t8, t9, t10, t11, t12, t13, t14, t15, t16, t17, t18, t19, t20, t21, t22, t23, t24, t25, t26, t27, t28, t29, t30, t31, t32, t33, t34, t35, t36, t37, t38, t39, t40, t41, t42, t43, t44, t45, t46, t47, t48, t49, t50, t51, t52, t53, t54, t55, v, (.slice (some ⟨W.heap.size, 0, none⟩) 1 1), v1, t59, t60, t61, t62, t63, t64, t65, t66, t67, t68, t69, t70, t71, t72, t73, t74, t75, t76, t77, t78, t79, t80, t81, t82, t83, t84, t85, t86, t87, t88], defers := D } W2 := by
    refine wpAnyIn_ready r012 (by simp) ?_
    refine AllReadyIn.cons h3 (fun K hK => ?_) ?_
    · go_simp
      exact hK _ _ s0123
    exact AllReadyIn.nil
  have s013 : wpAnyIn Fence.wide 9 Tryd.prog .any ops Q 3 #[true, true, false, true, false, false] { tmps := #[v, t1, t2, t3, t4, t5, (.pointer (some ⟨Bx, 0, none⟩)), t7, t8, t9, t10, t11, t12, t13, t14, t15, t16, t17, t18, t19, t20, t21, t22, t23, t24, t25, t26, t27, t28, t29, t30, t31, t32, t33, t34, t35, t36, t37, t38, t39, t40, t41, t42, t43, t44, t45, t46, t47, t48, t49, t50, t51, t52, t53, t54, t55, v, (.slice (some ⟨W.heap.size, 0, none⟩) 1 1), t58, (.agg #[.int .i64 k, .int .i64 n, .int .u64 (b : Int), .string s, .slice pL nL cL, .slice pE nE cE]), t60, t61, t62, t63, t64, t65, t66, t67, t68, t69, t70, t71, t72, t73, t74, t75, t76, t77, t78, t79, t80, t81, t82, t83, t84, t85, t86, t87, t88], defers := D } (W.alloc (.cells #[.int .u8 1] 5)) := by
    refine wpAnyIn_ready r013 (by simp) ?_
    refine AllReadyIn.cons h2 (fun K hK => ?_) ?_
    · exact opWide_append' _ _ _ rfl rfl rfl rfl hr (hK _ _ s0123)
    exact AllReadyIn.nil
  have s01 : wpAnyIn Fence.wide 9 Tryd.prog .any ops Q 4 #[true, true, false, false, false, false] { tmps := #[v, t1, t2, t3, t4, t5, (.pointer (some ⟨Bx, 0, none⟩)), t7, t8, t9, t10, t11, t12, t13, t14, t15, t16, t17, t18, t19, t20, t21, t22, t23, t24, t25, t26, t27, t28, t29, t30, t31, t32, t33, t34, t35, t36, t37, t38, t39, t40, t41, t42, t43, t44, t45, t46, t47, t48, t49, t50, t51, t52, t53, t54, t55, v, (.slice (some ⟨W.heap.size, 0, none⟩) 1 1), t58, t59, t60, t61, t62, t63, t64, t65, t66, t67, t68, t69, t70, t71, t72, t73, t74, t75, t76, t77, t78, t79, t80, t81, t82, t83, t84, t85, t86, t87, t88], defers := D } (W.alloc (.cells #[.int .u8 1] 5)) := by
    refine wpAnyIn_ready r01 (by simp) ?_
    refine AllReadyIn.cons h2 (fun K hK => ?_) ?_
    · exact opWide_append' _ _ _ rfl rfl rfl rfl hr (hK _ _ s012)
    refine AllReadyIn.cons h3 (fun K hK => ?_) ?_
    · go_simp
      exact hK _ _ s013
    exact AllReadyIn.nil
  have s03 : wpAnyIn Fence.wide 9 Tryd.prog .any ops Q 4 #[true, false, false, true, false, false] { tmps := #[v, t1, t2, t3, t4, t5, (.pointer (some ⟨Bx, 0, none⟩)), t7, t8, t9, t10, t11, t12, t13, t14, t15, t16, t17, t18, t19, t20, t21, t22, t23, t24, t25, t26, t27, t28, t29, t30, t31, t32, t33, t34, t35, t36, t37, t38, t39, t40, t41, t42, t43, t44, t45, t46, t47, t48, t49, t50, t51, t52, t53, t54, t55, v, t57, t58, (.agg #[.int .i64 k, .int .i64 n, .int .u64 (b : Int), .string s, .slice pL nL cL, .slice pE nE cE]), t60, t61, t62, t63, t64, t65, t66, t67, t68, t69, t70, t71, t72, t73, t74, t75, t76, t77, t78, t79, t80, t81, t82, t83, t84, t85, t86, t87, t88], defers := D } W := by
    refine wpAnyIn_ready r03 (by simp) ?_
    refine AllReadyIn.cons h1 (fun K hK => ?_) ?_
    · go_simp
      exact hK _ _ s013
    exact AllReadyIn.nil
  have s13 : wpAnyIn Fence.wide 9 Tryd.prog .any ops Q 4 #[false, true, false, true, false, false] { tmps := #[v, t1, t2, t3, t4, t5, (.pointer (some ⟨Bx, 0, none⟩)), t7, t8, t9, t10, t11, t12, t13, t14, t15, t16, t17, t18, t19, t20, t21, t22, t23, t24, t25, t26, t27, t28, t29, t30, t31, t32, t33, t34, t35, t36, t37, t38, t39, t40, t41, t42, t43, t44, t45, t46, t47, t48, t49, t50, t51, t52, t53, t54, t55, t56, (.slice (some ⟨W.heap.size, 0, none⟩) 1 1), t58, (.agg #[.int .i64 k, .int .i64 n, .int .u64 (b : Int), .string s, .slice pL nL cL, .slice pE nE cE]), t60, t61, t62, t63, t64, t65, t66, t67, t68, t69, t70, t71, t72, t73, t74, t75, t76, t77, t78, t79, t80, t81, t82, t83, t84, t85, t86, t87, t88], defers := D } (W.alloc (.cells #[.int .u8 1] 5)) := by
    refine wpAnyIn_ready r13 (by simp) ?_
    refine AllReadyIn.cons h0 (fun K hK => ?_) ?_
    · go_simp
      exact hK _ _ s013
    exact AllReadyIn.nil
  have s0 : wpAnyIn Fence.wide 9 Tryd.prog .any ops Q 5 #[true, false, false, false, false, false] { tmps := #[v, t1, t2, t3, t4, t5, (.pointer (some ⟨Bx, 0, none⟩)), t7, t8, t9, t10, t11, t12, t13, t14, t15, t16, t17, t18, t19, t20, t21, t22, t23, t24, t25, t26, t27, t28, t29, t30, t31, t32, t33, t34, t35, t36, t37, t38, t39, t40, t41, t42, t43, t44, t45, t46, t47, t48, t49, t50, t51, t52, t53, t54, t55, v, t57, t58, t59, t60, t61, t62, t63, t64, t65, t66, t67, t68, t69, t70, t71, t72, t73, t74, t75, t76, t77, t78, t79, t80, t81, t82, t83, t84, t85, t86, t87, t88], defers := D } W := by
    refine wpAnyIn_ready r0 (by simp) ?_
    refine AllReadyIn.cons h1 (fun K hK => ?_) ?_
    · go_simp
      exact hK _ _ s01
    refine AllReadyIn.cons h3 (fun K hK => ?_) ?_
    · go_simp
      exact hK _ _ s03
    exact AllReadyIn.nil
  have s1 : wpAnyIn Fence.wide 9 Tryd.prog .any ops Q 5 #[false, true, false, false, false, false] { tmps := #[v, t1, t2, t3, t4, t5, (.pointer (some ⟨Bx, 0, none⟩)), t7, t8, t9, t10, t11, t12, t13, t14, t15, t16, t17, t18, t19, t20, t21, t22, t23, t24, t25, t26, t27, t28, t29, t30, t31, t32, t33, t34, t35, t36, t37, t38, t39, t40, t41, t42, t43, t44, t45, t46, t47, t48, t49, t50, t51, t52, t53, t54, t55, t56, (.slice (some ⟨W.heap.size, 0, none⟩) 1 1), t58, t59, t60, t61, t62, t63, t64, t65, t66, t67, t68, t69, t70, t71, t72, t73, t74, t75, t76, t77, t78, t79, t80, t81, t82, t83, t84, t85, t86, t87, t88], defers := D } (W.alloc (.cells #[.int .u8 1] 5)) := by
    refine wpAnyIn_ready r1 (by simp) ?_
    refine AllReadyIn.cons h0 (fun K hK => ?_) ?_
    · go_simp
      exact hK _ _ s01
    refine AllReadyIn.cons h3 (fun K hK => ?_) ?_
    · go_simp
      exact hK _ _ s13
    exact AllReadyIn.nil
  have s3 : wpAnyIn Fence.wide 9 Tryd.prog .any ops Q 5 #[false, false, false, true, false, false] { tmps := #[v, t1, t2, t3, t4, t5, (.pointer (some ⟨Bx, 0, none⟩)), t7, t8, t9, t10, t11, t12, t13, t14, t15, t16, t17, t18, t19, t20, t21, t22, t23, t24, t25, t26, t27, t28, t29, t30, t31, t32, t33, t34, t35, t36, t37, t38, t39, t40, t41, t42, t43, t44, t45, t46, t47, t48, t49, t50, t51, t52, t53, t54, t55, t56, t57, t58, (.agg #[.int .i64 k, .int .i64 n, .int .u64 (b : Int), .string s, .slice pL nL cL, .slice pE nE cE]), t60, t61, t62, t63, t64, t65, t66, t67, t68, t69, t70, t71, t72, t73, t74, t75, t76, t77, t78, t79, t80, t81, t82, t83, t84, t85, t86, t87, t88], defers := D } W := by
    refine wpAnyIn_ready r3 (by simp) ?_
    refine AllReadyIn.cons h0 (fun K hK => ?_) ?_
    · go_simp
      exact hK _ _ s03
    refine AllReadyIn.cons h1 (fun K hK => ?_) ?_
    · go_simp
      exact hK _ _ s13
    exact AllReadyIn.nil
  have s : wpAnyIn Fence.wide 9 Tryd.prog .any ops Q 6 #[false, false, false, false, false, false] { tmps := #[v, t1, t2, t3, t4, t5, (.pointer (some ⟨Bx, 0, none⟩)), t7, t8, t9, t10, t11, t12, t13, t14, t15, t16, t17, t18, t19, t20, t21, t22, t23, t24, t25, t26, t27, t28, t29, t30, t31, t32, t33, t34, t35, t36, t37, t38, t39, t40, t41, t42, t43, t44, t45, t46, t47, t48, t49, t50, t51, t52, t53, t54, t55, t56, t57, t58, t59, t60, t61, t62, t63, t64, t65, t66, t67, t68, t69, t70, t71, t72, t73, t74, t75, t76, t77, t78, t79, t80, t81, t82, t83, t84, t85, t86, t87, t88], defers := D } W := by
    refine wpAnyIn_ready r (by simp) ?_
    refine AllReadyIn.cons h0 (fun K hK => ?_) ?_
    · go_simp
      exact hK _ _ s0
    refine AllReadyIn.cons h1 (fun K hK => ?_) ?_
    · go_simp
      exact hK _ _ s1
    refine AllReadyIn.cons h3 (fun K hK => ?_) ?_
    · go_simp
      exact hK _ _ s3
    exact AllReadyIn.nil
  exact s

set_option maxRecDepth 100000 in
set_option maxHeartbeats 4000000 in
theorem loop6R {Q : Exit → Act → World → Prop} {ops : Array Oper} {D : List Deferred} {t1 t2 t3 t4 t5 t6 t7 t9 t10 t11 t12 t13 t14 t15 t16 t17 t18 t19 t20 t21 t22 t23 t24 t25 t26 t27 t28 t29 t30 t31 t32 t33 t34 t35 t36 t37 t38 t39 t40 t41 t42 t43 t44 t45 t46 t47 t48 t49 t50 t51 t52 t53 t54 t55 t56 t57 t58 t59 t60 t61 t62 t63 t64 t65 t66 t67 t68 t69 t70 t71 t72 t73 t74 t75 t76 t77 t78 t79 t80 t81 t82 t83 t84 t85 t86 t87 t88 v v1 : Value} {W W2 : World} {Bx : Nat} {key : ByteArray} {q0 q1 q2 q3 q4 q5 q6 : String} {f0 f1 f2 f3 f4 f5 f6 : _} (H : World → Value → Prop)
    (h0 : ops[0]? = some { dst := some 74, op := .move (.tmp 0), type := 27, pos := q0, after := f0, guard := none })
    (h1 : ops[1]? = some { dst := some 75, op := .buildSlice 27 1 #[(0, .const (.int .u8 1))], type := 27, pos := q1, after := f1, guard := none })
    (h2 : ops[2]? = some { dst := some 76, op := .call { callee := .builtin .append, args := #[.tmp 74, .tmp 75], argTypes := #[27, 27] }, type := 27, pos := q2, after := f2, guard := none })
    (h3 : ops[3]? = some { dst := some 77, op := .fieldAddr 54 (.tmp 8) 0, type := 0, pos := q3, after := f3, guard := none })
    (h4 : ops[4]? = some { dst := some 78, op := .load 9 (.tmp 77), type := 9, pos := q4, after := f4, guard := none })
    (h5 : ops[5]? = some { dst := some 79, op := .call { callee := .value (.func 36), args := #[.tmp 76, .tmp 78], argTypes := #[27, 9] }, type := 27, pos := q5, after := f5, guard := none })
    (h6 : ops[6]? = some { dst := some 0, op := .assign (.tmp 79), type := 27, pos := q6, after := f6, guard := none })
    (r0123456 : Region.ready .any ops #[true, true, true, true, true, true, true] = [])
    (r012345 : Region.ready .any ops #[true, true, true, true, true, true, false] = [6])
    (r01234 : Region.ready .any ops #[true, true, true, true, true, false, false] = [5])
    (r0123 : Region.ready .any ops #[true, true, true, true, false, false, false] = [4])
    (r0134 : Region.ready .any ops #[true, true, false, true, true, false, false] = [2])
    (r012 : Region.ready .any ops #[true, true, true, false, false, false, false] = [3])
    (r013 : Region.ready .any ops #[true, true, false, true, false, false, false] = [2, 4])
    (r034 : Region.ready .any ops #[true, false, false, true, true, false, false] = [1])
    (r134 : Region.ready .any ops #[false, true, false, true, true, false, false] = [0])
    (r01 : Region.ready .any ops #[true, true, false, false, false, false, false] = [2, 3])
    (r03 : Region.ready .any ops #[true, false, false, true, false, false, false] = [1, 4])
    (r13 : Region.ready .any ops #[false, true, false, true, false, false, false] = [0, 4])
    (r34 : Region.ready .any ops #[false, false, false, true, true, false, false] = [0, 1])
    (r0 : Region.ready .any ops #[true, false, false, false, false, false, false] = [1, 3])
    (r1 : Region.ready .any ops #[false, true, false, false, false, false, false] = [0, 3])
    (r3 : Region.ready .any ops #[false, false, false, true, false, false, false] = [0, 1, 4])
    (r : Region.ready .any ops #[false, false, false, false, false, false, false] = [0, 1, 3])
    (ca0 : W.cell? ⟨Bx, 0, none⟩ = some (.string key))
    (cb0 : (W.alloc (.cells #[.int .u8 1] 5)).cell? ⟨Bx, 0, none⟩ = some (.string key))
    (cc0 : W2.cell? ⟨Bx, 0, none⟩ = some (.string key))
    (hr : (Builtin.append_ #[27, 27] 27 #[v, .slice (some ⟨W.heap.size, 0, none⟩) 1 1]).run Tryd.prog (W.alloc (.cells #[.int .u8 1] 5)) = .ok v1 W2)
    (hC : CallsIn Fence.wide 8 Tryd.prog 36 #[v1, (.string key)] W2 fun e w2 => ∃ v', e = .returned v' ∧ H w2 v')
    (hQ : ∀ w2 v', H w2 v' → Q .normal { tmps := #[v', t1, t2, t3, t4, t5, t6, t7, (.pointer (some ⟨Bx, 0, none⟩)), t9, t10, t11, t12, t13, t14, t15, t16, t17, t18, t19, t20, t21, t22, t23, t24, t25, t26, t27, t28, t29, t30, t31, t32, t33, t34, t35, t36, t37, t38, t39, t40, t41, t42, t43, t44, t45, t46, t47, t48, t49, t50, t51, t52, t53, t54, t55, t56, t57, t58, t59, t60, t61, t62, t63, t64, t65, t66, t67, t68, t69, t70, t71, t72, t73, v, (.slice (some ⟨W.heap.size, 0, none⟩) 1 1), v1, (.pointer (some ⟨Bx, 0, none⟩)), (.string key), v', t80, t81, t82, t83, t84, t85, t86, t87, t88], defers := D } w2) :
    wpAnyIn Fence.wide 9 Tryd.prog .any ops Q 7 #[false, false, false, false, false, false, false] { tmps := #[v, t1, t2, t3, t4, t5, t6, t7, (.pointer (some ⟨Bx, 0, none⟩)), t9, t10, t11, t12, t13, t14, t15, t16, t17, t18, t19, t20, t21, t22, t23, t24, t25, t26, t27, t28, t29, t30, t31, t32, t33, t34, t35, t36, t37, t38, t39, t40, t41, t42, t43, t44, t45, t46, t47, t48, t49, t50, t51, t52, t53, t54, t55, t56, t57, t58, t59, t60, t61, t62, t63, t64, t65, t66, t67, t68, t69, t70, t71, t72, t73, t74, t75, t76, t77, t78, t79, t80, t81, t82, t83, t84, t85, t86, t87, t88], defers := D } W := by
  have s01234 : wpAnyIn Fence.wide 9 Tryd.prog .any ops Q 2 #[true, true, true, true, true, false, false] { tmps := #[v, t1, t2, t3, t4, t5, t6, t7, (.pointer (some ⟨Bx, 0, none⟩)), t9, t10, t11, t12, t13, t14, t15, t16, t17, t18, t19, t20, t21, t22, t23, t24, t25, t26, t27, t28, t29, t30, t31, t32, t33, t34, t35, t36, t37, t38, t39, t40, t41, t42, t43, t44, t45, t46, t47, t48, t49, t50, t51, t52, t53, t54, t55, t56, t57, t58, t59, t60, t61, t62, t63, t64, t65, t66, t67, t68, t69, t70, t71, t72, t73, v, (.slice (some ⟨W.heap.size, 0, none⟩) 1 1), v1, (.pointer (some ⟨Bx, 0, none⟩)), (.string key), t79, t80, t81, t82, t83, t84, t85, t86, t87, t88], defers := D } W2 := by
    refine wpAnyIn_ready r01234 (by simp) (AllReadyIn.cons h5 (fun K hK => ?_) AllReadyIn.nil)
    go_simp
    refine ⟨trivial, hC.mono ?_⟩
    rintro e w2 ⟨v', rfl, hH⟩
    refine hK _ _ (wpAnyIn_ready r012345 (by simp) (AllReadyIn.cons h6 (fun K hK => ?_) AllReadyIn.nil))
    go_simp
    exact hK _ _ (wpAnyIn_done r0123456 (hQ w2 v' hH) _)
  have s0123 : wpAnyIn Fence.wide 9 Tryd.prog .any ops Q 3 #[true, true, true, true, false, false, false] { tmps := #[v, t1, t2, t3, t4, t5, t6, t7, (.pointer (some ⟨Bx, 0, none⟩)), t9, t10, t11, t12, t13, t14, t15, t16, t17, t18, t19, t20, t21, t22, t23, t24, t25, t26, t27, t28, t29, t30, t31, t32, t33, t34, t35, t36, t37, t38, t39, t40, t41, t42, t43, t44, t45, t46, t47, t48, t49, t50, t51, t52, t53, t54, t55, t56, t57, t58, t59, t60, t61, t62, t63, t64, t65, t66, t67, t68, t69, t70, t71, t72, t73, v, (.slice (some ⟨W.heap.size, 0, none⟩) 1 1), v1, (.pointer (some ⟨Bx, 0, none⟩)), t78, t79, t80, t81, t82, t83, t84, t85, t86, t87, t88], defers := D } W2 := by
    refine wpAnyIn_ready r0123 (by simp) ?_
    refine AllReadyIn.cons h4 (fun K hK => ?_) ?_
    · go_simp
      exact hK _ _ s01234
    exact AllReadyIn.nil
  have s0134 : wpAnyIn Fence.wide 9 Tryd.prog .any ops Q 3 #[true, true, false, true, true, false, false] { tmps := #[v, t1, t2, t3, t4, t5, t6, t7, (.pointer (some ⟨Bx, 0, none⟩)), t9, t10, t11, t12, t13, t14, t15, t16, t17, t18, t19, t20, t21, t22, t23, t24, t25, t26, t27, t28, t29, t30, t31, t32, t33, t34, t35, t36, t37, t38, t39, t40, t41, t42, t43, t44, t45, t46, t47, t48, t49, t50, t51, t52, t53, t54, t55, t56, t57, t58, t59, t60, t61, t62, t63, t64, t65, t66, t67, t68, t69, t70, t71, t72, t73, v, (.slice (some ⟨W.heap.size, 0, none⟩) 1 1), t76, (.pointer (some ⟨Bx, 0, none⟩)), (.string key), t79, t80, t81, t82, t83, t84, t85, t86, t87, t88], defers := D } (W.alloc (.cells #[.int .u8 1] 5)) := by
    refine wpAnyIn_ready r0134 (by simp) ?_
    refine AllReadyIn.cons h2 (fun K hK => ?_) ?_
    · exact opWide_append' _ _ _ rfl rfl rfl rfl hr (hK _ _ s01234)
    exact AllReadyIn.nil
  have s012 : wpAnyIn Fence.wide 9 Tryd.prog .any ops Q 4 #[true, true, true, false, false, false, false] { tmps := #[v, t1, t2, t3, t4, t5, t6, t7, (.pointer (some ⟨Bx, 0, none⟩)), t9, t10, t11, t12, t13, t14, t15, t16, t17, t18, t19, t20, t21, t22, t23, t24, t25, t26, t27, t28, t29, t30, t31, t32, t33, t34, t35, t36, t37, t38, t39, t40, t41, t42, t43, t44, t45, t46, t47, t48, t49, t50, t51, t52, t53, t54, t55, t56, t57, t58, t59, t60, t61, t62, t63, t64, t65, t66, t67, t68, t69, t70, t71, t72, t73, v, (.slice (some ⟨W.heap.size, 0, none⟩) 1 1), v1, t77, t78, t79, t80, t81, t82, t83, t84, t85, t86, t87, t88], defers := D } W2 := by
    refine wpAnyIn_ready r012 (by simp) ?_
    refine AllReadyIn.cons h3 (fun K hK => ?_) ?_
    · go_simp
      exact hK _ _ s0123
    exact AllReadyIn.nil
  have s013 : wpAnyIn Fence.wide 9 Tryd.prog .any ops Q 4 #[true, true, false, true, false, false, false] { tmps := #[v, t1, t2, t3, t4, t5, t6, t7, (.pointer (some ⟨Bx, 0, none⟩)), t9, t10, t11, t12, t13, t14, t15, t16, t17, t18, t19, t20, t21, t22, t23, t24, t25, t26, t27, t28, t29, t30, t31, t32, t33, t34, t35, t36, t37, t38, t39, t40, t41, t42, t43, t44, t45, t46, t47, t48, t49, t50, t51, t52, t53, t54, t55, t56, t57, t58, t59, t60, t61, t62, t63, t64, t65, t66, t67, t68, t69, t70, t71, t72, t73, v, (.slice (some ⟨W.heap.size, 0, none⟩) 1 1), t76, (.pointer (some ⟨Bx, 0, none⟩)), t78, t79, t80, t81, t82, t83, t84, t85, t86, t87, t88], defers := D } (W.alloc (.cells #[.int .u8 1] 5)) := by
    refine wpAnyIn_ready r013 (by simp) ?_
    refine AllReadyIn.cons h2 (fun K hK => ?_) ?_
    · exact opWide_append' _ _ _ rfl rfl rfl rfl hr (hK _ _ s0123)
    refine AllReadyIn.cons h4 (fun K hK => ?_) ?_
    · go_simp
      exact hK _ _ s0134
    exact AllReadyIn.nil
  have s034 : wpAnyIn Fence.wide 9 Tryd.prog .any ops Q 4 #[true, false, false, true, true, false, false] { tmps := #[v, t1, t2, t3, t4, t5, t6, t7, (.pointer (some ⟨Bx, 0, none⟩)), t9, t10, t11, t12, t13, t14, t15, t16, t17, t18, t19, t20, t21, t22, t23, t24, t25, t26, t27, t28, t29, t30, t31, t32, t33, t34, t35, t36, t37, t38, t39, t40, t41, t42, t43, t44, t45, t46, t47, t48, t49, t50, t51, t52, t53, t54, t55, t56, t57, t58, t59, t60, t61, t62, t63, t64, t65, t66, t67, t68, t69, t70, t71, t72, t73, v, t75, t76, (.pointer (some ⟨Bx, 0, none⟩)), (.string key), t79, t80, t81, t82, t83, t84, t85, t86, t87, t88], defers := D } W := by
    refine wpAnyIn_ready r034 (by simp) ?_
    refine AllReadyIn.cons h1 (fun K hK => ?_) ?_
    · go_simp
      exact hK _ _ s0134
    exact AllReadyIn.nil
  have s134 : wpAnyIn Fence.wide 9 Tryd.prog .any ops Q 4 #[false, true, false, true, true, false, false] { tmps := #[v, t1, t2, t3, t4, t5, t6, t7, (.pointer (some ⟨Bx, 0, none⟩)), t9, t10, t11, t12, t13, t14, t15, t16, t17, t18, t19, t20, t21, t22, t23, t24, t25, t26, t27, t28, t29, t30, t31, t32, t33, t34, t35, t36, t37, t38, t39, t40, t41, t42, t43, t44, t45, t46, t47, t48, t49, t50, t51, t52, t53, t54, t55, t56, t57, t58, t59, t60, t61, t62, t63, t64, t65, t66, t67, t68, t69, t70, t71, t72, t73, t74, (.slice (some ⟨W.heap.size, 0, none⟩) 1 1), t76, (.pointer (some ⟨Bx, 0, none⟩)), (.string key), t79, t80, t81, t82, t83, t84, t85, t86, t87, t88], defers := D } (W.alloc (.cells #[.int .u8 1] 5)) := by
    refine wpAnyIn_ready r134 (by simp) ?_
    refine AllReadyIn.cons h0 (fun K hK => ?_) ?_
    · go_simp
      exact hK _ _ s0134
    exact AllReadyIn.nil
  have s01 : wpAnyIn Fence.wide 9 Tryd.prog .any ops Q 5 #[true, true, false, false, false, false, false] { tmps := #[v, t1, t2, t3, t4, t5, t6, t7, (.pointer (some ⟨Bx, 0, none⟩)), t9, t10, t11, t12, t13, t14, t15, t16, t17, t18, t19, t20, t21, t22, t23, t24, t25, t26, t27, t28, t29, t30, t31, t32, t33, t34, t35, t36, t37, t38, t39, t40, t41, t42, t43, t44, t45, t46, t47, t48, t49, t50, t51, t52, t53, t54, t55, t56, t57, t58, t59, t60, t61, t62, t63, t64, t65, t66, t67, t68, t69, t70, t71, t72, t73, v, (.slice (some ⟨W.heap.size, 0, none⟩) 1 1), t76, t77, t78, t79, t80, t81, t82, t83, t84, t85, t86, t87, t88], defers := D } (W.alloc (.cells #[.int .u8 1] 5)) := by
    refine wpAnyIn_ready r01 (by simp) ?_
    refine AllReadyIn.cons h2 (fun K hK => ?_) ?_
    · exact opWide_append' _ _ _ rfl rfl rfl rfl hr (hK _ _ s012)
    refine AllReadyIn.cons h3 (fun K hK => ?_) ?_
    · go_simp
      exact hK _ _ s013
    exact AllReadyIn.nil
  have s03 : wpAnyIn Fence.wide 9 Tryd.prog .any ops Q 5 #[true, false, false, true, false, false, false] { tmps := #[v, t1, t2, t3, t4, t5, t6, t7, (.pointer (some ⟨Bx, 0, none⟩)), t9, t10, t11, t12, t13, t14, t15, t16, t17, t18, t19, t20, t21, t22, t23, t24, t25, t26, t27, t28, t29, t30, t31, t32, t33, t34, t35, t36, t37, t38, t39, t40, t41, t42, t43, t44, t45, t46, t47, t48, t49, t50, t51, t52, t53, t54, t55, t56, t57, t58, t59, t60, t61, t62, t63, t64, t65, t66, t67, t68, t69, t70, t71, t72, t73, v, t75, t76, (.pointer (some ⟨Bx, 0, none⟩)), t78, t79, t80, t81, t82, t83, t84, t85, t86, t87, t88], defers := D } W := by
    refine wpAnyIn_ready r03 (by simp) ?_
    refine AllReadyIn.cons h1 (fun K hK => ?_) ?_
    · go_simp
      exact hK _ _ s013
    refine AllReadyIn.cons h4 (fun K hK => ?_) ?_
    · go_simp
      exact hK _ _ s034
    exact AllReadyIn.nil
  have s13 : wpAnyIn Fence.wide 9 Tryd.prog .any ops Q 5 #[false, true, false, true, false, false, false] { tmps := #[v, t1, t2, t3, t4, t5, t6, t7, (.pointer (some ⟨Bx, 0, none⟩)), t9, t10, t11, t12, t13, t14, t15, t16, t17, t18, t19, t20, t21, t22, t23, t24, t25, t26, t27, t28, t29, t30, t31, t32, t33, t34, t35, t36, t37, t38, t39, t40, t41, t42, t43, t44, t45, t46, t47, t48, t49, t50, t51, t52, t53, t54, t55, t56, t57, t58, t59, t60, t61, t62, t63, t64, t65, t66, t67, t68, t69, t70, t71, t72, t73, t74, (.slice (some ⟨W.heap.size, 0, none⟩) 1 1), t76, (.pointer (some ⟨Bx, 0, none⟩)), t78, t79, t80, t81, t82, t83, t84, t85, t86, t87, t88], defers := D } (W.alloc (.cells #[.int .u8 1] 5)) := by
    refine wpAnyIn_ready r13 (by simp) ?_
    refine AllReadyIn.cons h0 (fun K hK => ?_) ?_
    · go_simp
      exact hK _ _ s013
    refine AllReadyIn.cons h4 (fun K hK => ?_) ?_
    · go_simp
      exact hK _ _ s134
    exact AllReadyIn.nil
  have s34 : wpAnyIn Fence.wide 9 Tryd.prog .any ops Q 5 #[false, false, false, true, true, false, false] { tmps := #[v, t1, t2, t3, t4, t5, t6, t7, (.pointer (some ⟨Bx, 0, none⟩)), t9, t10, t11, t12, t13, t14, t15, t16, t17, t18, t19, t20, t21, t22, t23, t24, t25, t26, t27, t28, t29, t30, t31, t32, t33, t34, t35, t36, t37, t38, t39, t40, t41, t42, t43, t44, t45, t46, t47, t48, t49, t50, t51, t52, t53, t54, t55, t56, t57, t58, t59, t60, t61, t62, t63, t64, t65, t66, t67, t68, t69, t70, t71, t72, t73, t74, t75, t76, (.pointer (some ⟨Bx, 0, none⟩)), (.string key), t79, t80, t81, t82, t83, t84, t85, t86, t87, t88], defers := D } W := by
    refine wpAnyIn_ready r34 (by simp) ?_
    refine AllReadyIn.cons h0 (fun K hK => ?_) ?_
    · go_simp
      exact hK _ _ s034
    refine AllReadyIn.cons h1 (fun K hK => ?_) ?_
    · go_simp
      exact hK _ _ s134
    exact AllReadyIn.nil
  have s0 : wpAnyIn Fence.wide 9 Tryd.prog .any ops Q 6 #[true, false, false, false, false, false, false] { tmps := #[v, t1, t2, t3, t4, t5, t6, t7, (.pointer (some ⟨Bx, 0, none⟩)), t9, t10, t11, t12, t13, t14, t15, t16, t17, t18, t19, t20, t21, t22, t23, t24, t25, t26, t27, t28, t29, t30, t31, t32, t33, t34, t35, t36, t37, t38, t39, t40, t41, t42, t43, t44, t45, t46, t47, t48, t49, t50, t51, t52, t53, t54, t55, t56, t57, t58, t59, t60, t61, t62, t63, t64, t65, t66, t67, t68, t69, t70, t71, t72, t73, v, t75, t76, t77, t78, t79, t80, t81, t82, t83, t84, t85, t86, t87, t88], defers := D } W := by
    refine wpAnyIn_ready r0 (by simp) ?_
    refine AllReadyIn.cons h1 (fun K hK => ?_) ?_
    · go_simp
      exact hK _ _ s01
    refine AllReadyIn.cons h3 (fun K hK => ?_) ?_
    · go_simp
      exact hK _ _ s03
    exact AllReadyIn.nil
  have s1 : wpAnyIn Fence.wide 9 Tryd.prog .any ops Q 6 #[false, true, false, false, false, false, false] { tmps := #[v, t1, t2, t3, t4, t5, t6, t7, (.pointer (some ⟨Bx, 0, none⟩)), t9, t10, t11, t12, t13, t14, t15, t16, t17, t18, t19, t20, t21, t22, t23, t24, t25, t26, t27, t28, t29, t30, t31, t32, t33, t34, t35, t36, t37, t38, t39, t40, t41, t42, t43, t44, t45, t46, t47, t48, t49, t50, t51, t52, t53, t54, t55, t56, t57, t58, t59, t60, t61, t62, t63, t64, t65, t66, t67, t68, t69, t70, t71, t72, t73, t74, (.slice (some ⟨W.heap.size, 0, none⟩) 1 1), t76, t77, t78, t79, t80, t81, t82, t83, t84, t85, t86, t87, t88], defers := D } (W.alloc (.cells #[.int .u8 1] 5)) := by
    refine wpAnyIn_ready r1 (by simp) ?_
    refine AllReadyIn.cons h0 (fun K hK => ?_) ?_
    · go_simp
      exact hK _ _ s01
    refine AllReadyIn.cons h3 (fun K hK => ?_) ?_
    · go_simp
      exact hK _ _ s13
    exact AllReadyIn.nil
  have s3 : wpAnyIn Fence.wide 9 Tryd.prog .any ops Q 6 #[false, false, false, true, false, false, false] { tmps := #[v, t1, t2, t3, t4, t5, t6, t7, (.pointer (some ⟨Bx, 0, none⟩)), t9, t10, t11, t12, t13, t14, t15, t16, t17, t18, t19, t20, t21, t22, t23, t24, t25, t26, t27, t28, t29, t30, t31, t32, t33, t34, t35, t36, t37, t38, t39, t40, t41, t42, t43, t44, t45, t46, t47, t48, t49, t50, t51, t52, t53, t54, t55, t56, t57, t58, t59, t60, t61, t62, t63, t64, t65, t66, t67, t68, t69, t70, t71, t72, t73, t74, t75, t76, (.pointer (some ⟨Bx, 0, none⟩)), t78, t79, t80, t81, t82, t83, t84, t85, t86, t87, t88], defers := D } W := by
    refine wpAnyIn_ready r3 (by simp) ?_
    refine AllReadyIn.cons h0 (fun K hK => ?_) ?_
    · go_simp
      exact hK _ _ s03
    refine AllReadyIn.cons h1 (fun K hK => ?_) ?_
    · go_simp
      exact hK _ _ s13
    refine AllReadyIn.cons h4 (fun K hK => ?_) ?_
    · go_simp
      exact hK _ _ s34
    exact AllReadyIn.nil
  have s : wpAnyIn Fence.wide 9 Tryd.prog .any ops Q 7 #[false, false, false, false, false, false, false] { tmps := #[v, t1, t2, t3, t4, t5, t6, t7, (.pointer (some ⟨Bx, 0, none⟩)), t9, t10, t11, t12, t13, t14, t15, t16, t17, t18, t19, t20, t21, t22, t23, t24, t25, t26, t27, t28, t29, t30, t31, t32, t33, t34, t35, t36, t37, t38, t39, t40, t41, t42, t43, t44, t45, t46, t47, t48, t49, t50, t51, t52, t53, t54, t55, t56, t57, t58, t59, t60, t61, t62, t63, t64, t65, t66, t67, t68, t69, t70, t71, t72, t73, t74, t75, t76, t77, t78, t79, t80, t81, t82, t83, t84, t85, t86, t87, t88], defers := D } W := by
    refine wpAnyIn_ready r (by simp) ?_
    refine AllReadyIn.cons h0 (fun K hK => ?_) ?_
    · go_simp
      exact hK _ _ s0
    refine AllReadyIn.cons h1 (fun K hK => ?_) ?_
    · go_simp
      exact hK _ _ s1
    refine AllReadyIn.cons h3 (fun K hK => ?_) ?_
    · go_simp
      exact hK _ _ s3
    exact AllReadyIn.nil
  exact s

end Go.Proofs.YtdpoiagnjdajbaaDoor.valus
/- Lists as bytes. -/
set_option linter.unusedVariables false
namespace Go.Proofs.YtdpoiagnjdajbaaDoor.valus
open Go.RowKit Go.Shelf

def preL (e : V → List UInt8) (L : List V) : List UInt8 := L.flatMap fun y => 1 :: e y
theorem listL_pre (e : V → List UInt8) : ∀ L : List V, listL e L = preL e L ++ [0]
  | [] => rfl
  | x :: r => by
    show 1 :: (e x ++ listL e r) = (1 :: e x ++ preL e r) ++ [0]
    rw [listL_pre e r]
    simp
theorem preL_succ {e : V → List UInt8} {L : List V} {j : Nat} {y : V} (h : L[j]? = some y) : preL e (L.take (j + 1)) = preL e (L.take j) ++ (1 :: e y) := by
  unfold preL
  rw [List.take_add_one, h, List.flatMap_append]
  simp
theorem preL_len {e : V → List UInt8} {c : V → Nat} : ∀ L : List V, (∀ x ∈ L, (e x).length + 1 ≤ 10000 * c x) → (preL e L).length ≤ 10000 * sumOf c L
  | [], _ => Nat.zero_le _
  | x :: r, h => by
    have h1 := h x (by simp)
    have h2 := preL_len (c := c) r (fun y hy => h y (by simp [hy]))
    have e2 : sumOf c (x :: r) = c x + sumOf c r := rfl
    show (1 :: e x ++ preL e r).length ≤ _
    rw [List.length_append, e2, List.length_cons]
    omega
theorem sumOf_at {c : V → Nat} {L : List V} {j : Nat} {y : V} (h : L[j]? = some y) : sumOf c (L.take j) + c y ≤ sumOf c L := by
  obtain ⟨hlt, he⟩ := List.getElem?_eq_some_iff.1 h
  have e1 : L = L.take j ++ L.drop j := (List.take_append_drop j L).symm
  have e2 : sumOf c L = sumOf c (L.take j) + sumOf c (L.drop j) := by rw [← sumOf_append, ← e1]
  rw [List.drop_eq_getElem_cons hlt, he] at e2
  have e3 : sumOf c (y :: L.drop (j + 1)) = c y + sumOf c (L.drop (j + 1)) := rfl
  omega
set_option maxHeartbeats 8000000 in
set_option maxRecDepth 100000 in
theorem val5_any (f n0 : Nat) (w : World) (v : Value) (l : List UInt8) (ok : Nat → Prop) (n : Int) (b : Nat) (s : ByteArray) (pL pE : Option Addr) (L : List V) (cL nE cE : Nat) (m : Int) (hok : ∀ b, ok b → b < n0) (rL : RowIn ok w pL 6 L.length (fun j us => ∃ y, L[j]? = some y ∧ LiesV ok f w us y)) (hcl : L.length ≤ cL ∧ cL ≤ maxLen) (hO : OwnB n0 w v l) (hn0 : n0 ≤ w.heap.size) (hG : 0 < n0) (hm : w.cell? ⟨0, 0, none⟩ = some (.int .i64 m))
    (ih : ∀ y, y ∈ L → AppV f y) (hgd : ∀ y, y ∈ L → (encV f y).length + 1000 ≤ 10000 * nodesV f y) (hlen : l.length + 10000 * sumOf (nodesV f) L + 10000 ≤ 700000000) :
    Calls Tryd.prog 21 #[v, .agg #[.int .i64 5, .int .i64 n, .int .u64 (b : Int), .string s, .slice pL L.length cL, .slice pE nE cE]] w fun e w' => ∃ v', e = .returned v' ∧ OwnB n0 w' v' (l ++ (6 :: listL (encV f) L)) ∧ Grew w w' v v' := by
  obtain ⟨v1, W2, hr, ho, hg, hbk, hlt, hne⟩ := begin_any n0 w v l hO hn0 #[.int .i64 5, .int .i64 n, .int .u64 (b : Int), .string s, .slice pL L.length cL, .slice pE nE cE] 6 (by omega)
  have hc : cellB 6 = .int .u8 6 := rfl
  rw [hc] at hr
  have c0 := hbk.cell 0 _ rfl
  have c4 := hbk.cell 4 _ rfl
  have hn63 : L.length ≤ 9223372036854775807 := by have := hcl.2; unfold maxLen at this; omega
  have HG0 := hide hg
  have HO0 := hide ho
  have HO := hide hO
  have plen : ∀ j, (preL (encV f) (L.take j)).length ≤ 10000 * sumOf (nodesV f) (L.take j) := fun j => preL_len _ (fun x hx => by have := hgd x (List.mem_of_mem_take hx); omega)
  have HP := hide plen
  clear ho hg hbk hO plen
  go_enter Tryd.func21, Tryd.ntmps21
  go_wp2_with (at_builtin; refine Lib.wpList_append_run _ rfl _ _ _ _ rfl _ _ rfl rfl _ _ hr ?_)
  go_loopw [0, 52] (fun u i wr => ∃ j : Nat, i = .int .i64 j ∧ j ≤ L.length ∧ Hid (OwnB n0 wr u (l ++ (6 :: preL (encV f) (L.take j)))) ∧ Hid (Grew w wr v u)) (fun _ i _ => L.length - (intOf i).toNat)
  case atStart => exact ⟨0, rfl, Nat.zero_le _, HO0, HG0⟩
  case round =>
    obtain ⟨j, rfl, hj, hO', hG'⟩ := hrel
    have hbw := hG'.out.old HO.out hn0
    have hws := hbw.size
    by_cases hlt' : j < L.length
    · obtain ⟨B, o, rfl, hBok, hBl, x0, x1, x2, x3, x4, x5, ⟨y, hy, hly⟩, k0, k1, k2, k3, k4, k5⟩ := rL.six hlt'
      have hyL : y ∈ L := List.mem_iff_getElem?.2 ⟨j, hy⟩
      obtain ⟨yk, yn, yb, ys, ypL, ynL, ycL, ypE, ynE, ycE, rfl, rfl, rfl, rfl, rfl, rfl⟩ := hly.form
      have hBn := hok B hBok
      have r0 := (hbw.cell (p := ⟨B, o + j * 6, none⟩) hBn).trans k0
      have r1 := (hbw.cell (p := ⟨B, o + j * 6 + 1, none⟩) hBn).trans k1
      have r2 := (hbw.cell (p := ⟨B, o + j * 6 + 2, none⟩) hBn).trans k2
      have r3 := (hbw.cell (p := ⟨B, o + j * 6 + 3, none⟩) hBn).trans k3
      have r4 := (hbw.cell (p := ⟨B, o + j * 6 + 4, none⟩) hBn).trans k4
      have r5 := (hbw.cell (p := ⟨B, o + j * 6 + 5, none⟩) hBn).trans k5
      clear k0 k1 k2 k3 k4 k5
      obtain ⟨A, hA⟩ : ∃ A, A = wr.alloc (.cells #[.int .i64 yk, .int .i64 yn, .int .u64 (yb : Int), .string ys, .slice ypL ynL ycL, .slice ypE ynE ycE] 26) := ⟨_, rfl⟩
      have bA : Below wr.heap.size wr A.drew := by rw [hA]; exact ((Below.refl _ wr).alloc (Nat.le_refl _) _).drew
      have sA : A.heap.size = wr.heap.size + 1 := by rw [hA]; simp
      have hblk : Blk A.drew wr.heap.size #[.int .i64 yk, .int .i64 yn, .int .u64 (yb : Int), .string ys, .slice ypL ynL ycL, .slice ypE ynE ycE] 26 := by rw [hA]; exact blk_alloc wr _ _
      have hl5 := HP.out j
      have hs5 := sumOf_at (c := nodesV f) hy
      have hg5 := hgd y hyL
      obtain ⟨v2, W3, hr2, ho2, hg2⟩ := push_one (hO'.out.later bA) (by have := bA.size; omega) 1 (by simp only [List.length_append, List.length_cons]; omega) 27
      have hc1 : cellB 1 = .int .u8 1 := rfl
      rw [hc1] at hr2
      have hgA : Grew w A.drew v u0 := hG'.out.trans (Grew.below bA _)
      have hg3 : Grew w W3 v v2 := hgA.trans hg2
      have hneB : some wr.heap.size ≠ Value.ownBlock u0 := fun e => by have := (hO'.out.lt _ e.symm).2; omega
      have hblk3 : Blk W3 wr.heap.size #[.int .i64 yk, .int .i64 yn, .int .u64 (yb : Int), .string ys, .slice ypL ynL ycL, .slice ypE ynE ycE] 26 := ((hg2.block (b := wr.heap.size) (by show _ < A.heap.size; omega) hneB).1).trans hblk
      have hblk2 : Blk (A.drew.alloc (.cells #[.int .u8 1] 5)) wr.heap.size #[.int .i64 yk, .int .i64 yn, .int .u64 (yb : Int), .string ys, .slice ypL ynL ycL, .slice ypE ynE ycE] 26 := hblk.alloc _
      have hb3 := hg3.old HO.out hn0
      have C := ih y hyL n0 W3 v2 _ ok _ _ _ _ _ _ m hok (hly.kept (fun _ h => h) hb3.size (fun b hb _ => hb3.block b (hok b hb))) ho2 (Nat.le_trans hn0 hb3.size) hG ((hb3.cell (p := ⟨0, 0, none⟩) hG).trans hm) (by simp only [List.length_append, List.length_cons, List.length_nil]; omega)
      have hst : (l ++ 6 :: preL (encV f) (L.take j) ++ [1]) ++ encV f y = l ++ (6 :: preL (encV f) (L.take (j + 1))) := by rw [preL_succ hy]; simp
      have HC := hide C
      have HG3 := hide hg3
      have HS := hide hst
      have HA := hide hA
      clear C hg3 hst ho2 hg2 hgA hb3 hl5 hs5 hg5 hly hA
      go_wp2
      rw [← HA.out]
      refine wpIn_wide.1 (wpIn_region_any (n := 9) (by kernel_rfl) (loop5R (fun w4 v4 => OwnB n0 w4 v4 (l ++ (6 :: preL (encV f) (L.take (j + 1)))) ∧ Grew w w4 v v4) rfl rfl rfl rfl rfl rfl (by kernel_rfl) (by kernel_rfl) (by kernel_rfl) (by kernel_rfl) (by kernel_rfl) (by kernel_rfl) (by kernel_rfl) (by kernel_rfl) (by kernel_rfl) (by kernel_rfl) (by kernel_rfl) (by kernel_rfl) (hblk.cell 0 _ rfl) (hblk.cell 1 _ rfl) (hblk.cell 2 _ rfl) (hblk.cell 3 _ rfl) (hblk.cell 4 _ rfl) (hblk.cell 5 _ rfl) (hblk2.cell 0 _ rfl) (hblk2.cell 1 _ rfl) (hblk2.cell 2 _ rfl) (hblk2.cell 3 _ rfl) (hblk2.cell 4 _ rfl) (hblk2.cell 5 _ rfl) (hblk3.cell 0 _ rfl) (hblk3.cell 1 _ rfl) (hblk3.cell 2 _ rfl) (hblk3.cell 3 _ rfl) (hblk3.cell 4 _ rfl) (hblk3.cell 5 _ rfl) hr2 ?holeC ?holeQ))
      case holeC =>
        refine (callsIn_wide.2 HC.out).mono ?_
        rintro e w4 ⟨v4, rfl, ho4, hg4⟩
        exact ⟨v4, rfl, by rw [← HS.out]; exact ho4, HG3.out.trans hg4⟩
      case holeQ =>
        rintro w4 v4 ⟨ho4, hg4⟩
        have HO4 := hide ho4
        have HG4 := hide hg4
        clear ho4 hg4
        go_wp2
        go_roundw
        case rel => exact ⟨j + 1, by congr 1, by omega, HO4, HG4⟩
        case measure => simp only [intOf]; omega
    · have g0 : ¬ (j : Int) < (L.length : Int) := by omega
      have hjL : j = L.length := by omega
      have hl5 := HP.out j
      have hs5 : sumOf (nodesV f) (L.take j) ≤ sumOf (nodesV f) L := by rw [hjL, List.take_length]; exact Nat.le_refl _
      obtain ⟨v2, W3, hr2, ho2, hg2⟩ := push_one hO'.out (by omega) 0 (by simp only [List.length_append, List.length_cons]; omega) 27
      have hc1 : cellB 0 = .int .u8 0 := rfl
      rw [hc1] at hr2
      have hfin : OwnB n0 W3 v2 (l ++ (6 :: listL (encV f) L)) := by
        rw [hjL, List.take_length] at ho2
        rw [listL_pre]
        simpa using ho2
      have HO4 := hide hfin
      have HG4 := hide (hG'.out.trans hg2)
      clear hfin ho2 hg2 hl5 hs5 hjL hc1
      go_wp2_with (at_builtin; refine Lib.wpList_append_run _ rfl _ _ _ _ rfl _ _ rfl rfl _ _ hr2 ?_)
      go_ret
      exact ⟨v2, rfl, HO4.out, HG4.out⟩
end Go.Proofs.YtdpoiagnjdajbaaDoor.valus
/- Tables as bytes. -/
set_option linter.unusedVariables false
namespace Go.Proofs.YtdpoiagnjdajbaaDoor.valus
open Go.RowKit Go.Shelf

def preE (e : V → List UInt8) (E : List V) : List UInt8 := E.flatMap fun x => 1 :: (chainL (opnE x).1 ++ e (opnE x).2)
theorem tabL_pre (e : V → List UInt8) : ∀ E : List V, tabL e E = preE e E ++ [0]
  | [] => rfl
  | x :: r => by
    show 1 :: (chainL (opnE x).1 ++ (e (opnE x).2 ++ tabL e r)) = (1 :: (chainL (opnE x).1 ++ e (opnE x).2) ++ preE e r) ++ [0]
    rw [tabL_pre e r]
    simp
theorem preE_succ {e : V → List UInt8} {E : List V} {j : Nat} {x : V} (h : E[j]? = some x) : preE e (E.take (j + 1)) = preE e (E.take j) ++ (1 :: (chainL (opnE x).1 ++ e (opnE x).2)) := by
  unfold preE
  rw [List.take_add_one, h, List.flatMap_append]
  simp
theorem preE_len {e : V → List UInt8} {c : V → Nat} : ∀ E : List V, (∀ x ∈ E, (opnE x).1.length ≤ 100 ∧ (e (opnE x).2).length + 1000 ≤ 10000 * c (opnE x).2) → (preE e E).length ≤ 10000 * sumOf c (E.map fun x => (opnE x).2)
  | [], _ => Nat.zero_le _
  | x :: r, h => by
    obtain ⟨h0, h1⟩ := h x (by simp)
    have h2 := preE_len (c := c) r (fun y hy => h y (by simp [hy]))
    have h3 := chainL_len (opnE x).1
    have e2 : sumOf c ((x :: r).map fun x => (opnE x).2) = c (opnE x).2 + sumOf c (r.map fun x => (opnE x).2) := rfl
    show (1 :: (chainL (opnE x).1 ++ e (opnE x).2) ++ preE e r).length ≤ _
    rw [List.length_append, e2, List.length_cons, List.length_append]
    omega
set_option maxHeartbeats 8000000 in
set_option maxRecDepth 100000 in
theorem val6_any (f n0 : Nat) (w : World) (v : Value) (l : List UInt8) (ok : Nat → Prop) (n : Int) (b : Nat) (s : ByteArray) (pL pE : Option Addr) (E : List V) (nL cL cE : Nat) (m : Int) (hok : ∀ b, ok b → b < n0) (rE : RowIn ok w pE 7 E.length (fun j us => ∃ (key : ByteArray) (y : V) (xs : List Value), E[j]? = some (ent key.data.toList y) ∧ us = .string key :: xs ∧ key.size ≤ maxLen ∧ LiesV ok f w xs y)) (hcl : E.length ≤ cE ∧ cE ≤ maxLen) (hO : OwnB n0 w v l) (hn0 : n0 ≤ w.heap.size) (hG : 0 < n0) (hm : w.cell? ⟨0, 0, none⟩ = some (.int .i64 m))
    (ih : ∀ x, x ∈ E → AppV f (opnE x).2) (hgd : ∀ x, x ∈ E → (opnE x).1.length ≤ 100 ∧ (encV f (opnE x).2).length + 1000 ≤ 10000 * nodesV f (opnE x).2) (hlen : l.length + 10000 * sumOf (nodesV f) (E.map fun x => (opnE x).2) + 10000 ≤ 700000000) :
    Calls Tryd.prog 21 #[v, .agg #[.int .i64 6, .int .i64 n, .int .u64 (b : Int), .string s, .slice pL nL cL, .slice pE E.length cE]] w fun e w' => ∃ v', e = .returned v' ∧ OwnB n0 w' v' (l ++ (7 :: tabL (encV f) E)) ∧ Grew w w' v v' := by
  obtain ⟨v1, W2, hr, ho, hg, hbk, hlt, hne⟩ := begin_any n0 w v l hO hn0 #[.int .i64 6, .int .i64 n, .int .u64 (b : Int), .string s, .slice pL nL cL, .slice pE E.length cE] 7 (by omega)
  have hc : cellB 7 = .int .u8 7 := rfl
  rw [hc] at hr
  have c0 := hbk.cell 0 _ rfl
  have c5 := hbk.cell 5 _ rfl
  have hn63 : E.length ≤ 9223372036854775807 := by have := hcl.2; unfold maxLen at this; omega
  have HG0 := hide hg
  have HO0 := hide ho
  have HO := hide hO
  have plen : ∀ j, (preE (encV f) (E.take j)).length ≤ 10000 * sumOf (nodesV f) ((E.take j).map fun x => (opnE x).2) := fun j => preE_len _ (fun x hx => hgd x (List.mem_of_mem_take hx))
  have HP := hide plen
  clear ho hg hbk hO plen
  go_enter Tryd.func21, Tryd.ntmps21
  go_wp2_with (at_builtin; refine Lib.wpList_append_run _ rfl _ _ _ _ rfl _ _ rfl rfl _ _ hr ?_)
  go_loopw [0, 70] (fun u i wr => ∃ j : Nat, i = .int .i64 j ∧ j ≤ E.length ∧ Hid (OwnB n0 wr u (l ++ (7 :: preE (encV f) (E.take j)))) ∧ Hid (Grew w wr v u)) (fun _ i _ => E.length - (intOf i).toNat)
  case atStart => exact ⟨0, rfl, Nat.zero_le _, HO0, HG0⟩
  case round =>
    obtain ⟨j, rfl, hj, hO', hG'⟩ := hrel
    have hbw := hG'.out.old HO.out hn0
    have hws := hbw.size
    by_cases hlt' : j < E.length
    · obtain ⟨B, o, rfl, hBok, hBl, x0, x1, x2, x3, x4, x5, x6, ⟨key, y, xs, hy, hus, hks, hly⟩, k0, k1, k2, k3, k4, k5, k6⟩ := rE.seven hlt'
      cases hus
      have hyE : ent key.data.toList y ∈ E := List.mem_iff_getElem?.2 ⟨j, hy⟩
      obtain ⟨yk, yn, yb, ys, ypL, ynL, ycL, ypE, ynE, ycE, rfl, rfl, rfl, rfl, rfl, rfl⟩ := hly.form
      have hBn := hok B hBok
      have r0 := (hbw.cell (p := ⟨B, o + j * 7, none⟩) hBn).trans k0
      have r1 := (hbw.cell (p := ⟨B, o + j * 7 + 1, none⟩) hBn).trans k1
      have r2 := (hbw.cell (p := ⟨B, o + j * 7 + 2, none⟩) hBn).trans k2
      have r3 := (hbw.cell (p := ⟨B, o + j * 7 + 3, none⟩) hBn).trans k3
      have r4 := (hbw.cell (p := ⟨B, o + j * 7 + 4, none⟩) hBn).trans k4
      have r5 := (hbw.cell (p := ⟨B, o + j * 7 + 5, none⟩) hBn).trans k5
      have r6 := (hbw.cell (p := ⟨B, o + j * 7 + 6, none⟩) hBn).trans k6
      clear k0 k1 k2 k3 k4 k5 k6
      obtain ⟨A, hA⟩ : ∃ A, A = wr.alloc (.cells #[.string key, .int .i64 yk, .int .i64 yn, .int .u64 (yb : Int), .string ys, .slice ypL ynL ycL, .slice ypE ynE ycE] 54) := ⟨_, rfl⟩
      have bA : Below wr.heap.size wr A.drew := by rw [hA]; exact ((Below.refl _ wr).alloc (Nat.le_refl _) _).drew
      have sA : A.heap.size = wr.heap.size + 1 := by rw [hA]; simp
      have hblk : Blk A.drew wr.heap.size #[.string key, .int .i64 yk, .int .i64 yn, .int .u64 (yb : Int), .string ys, .slice ypL ynL ycL, .slice ypE ynE ycE] 54 := by rw [hA]; exact blk_alloc wr _ _
      have hl5 := HP.out j
      have hs5 := sumOf_at (c := nodesV f) (L := E.map fun x => (opnE x).2) (j := j) (y := y) (by rw [List.getElem?_map, hy]; rfl)
      rw [← List.map_take] at hs5
      obtain ⟨hk5, hg5⟩ := hgd _ hyE
      rw [opnE_ent] at hk5 hg5
      replace hk5 : key.data.toList.length ≤ 100 := hk5
      replace hg5 : (encV f y).length + 1000 ≤ 10000 * nodesV f y := hg5
      have hcl5 := chainL_len key.data.toList
      have hksz : key.data.toList.length = key.size := by simp
      obtain ⟨v2, W3, hr2, ho2, hg2⟩ := push_one (hO'.out.later bA) (by have := bA.size; omega) 1 (by simp only [List.length_append, List.length_cons]; omega) 27
      have hc1 : cellB 1 = .int .u8 1 := rfl
      rw [hc1] at hr2
      have hgA : Grew w A.drew v u0 := hG'.out.trans (Grew.below bA _)
      have hg3 : Grew w W3 v v2 := hgA.trans hg2
      have hneB : some wr.heap.size ≠ Value.ownBlock u0 := fun e => by have := (hO'.out.lt _ e.symm).2; omega
      obtain ⟨hq1, hq2⟩ := hg2.block (b := wr.heap.size) (by show _ < A.heap.size; omega) hneB
      have hblk3 : Blk W3 wr.heap.size #[.string key, .int .i64 yk, .int .i64 yn, .int .u64 (yb : Int), .string ys, .slice ypL ynL ycL, .slice ypE ynE ycE] 54 := hq1.trans hblk
      have hblk2 : Blk (A.drew.alloc (.cells #[.int .u8 1] 5)) wr.heap.size #[.string key, .int .i64 yk, .int .i64 yn, .int .u64 (yb : Int), .string ys, .slice ypL ynL ycL, .slice ypE ynE ycE] 54 := hblk.alloc _
      have hb3 := hg3.old HO.out hn0
      have C := chain_any n0 W3 v2 _ ho2 (by simp) (Nat.le_trans hn0 hb3.size) m ((hb3.cell (p := ⟨0, 0, none⟩) hG).trans hm) key (by omega) (by simp only [List.length_append, List.length_cons, List.length_nil]; omega)
      have hst : ((l ++ 7 :: preE (encV f) (E.take j) ++ [1]) ++ chainL key.data.toList) ++ encV f y = l ++ (7 :: preE (encV f) (E.take (j + 1))) := by rw [preE_succ hy, opnE_ent]; simp
      have hs3 : wr.heap.size < W3.heap.size := by have := hg2.by'.size; have h : A.drew.heap.size = A.heap.size := rfl; omega
      have D : ∀ w4 v4, OwnB n0 w4 v4 ((l ++ 7 :: preE (encV f) (E.take j) ++ [1]) ++ chainL key.data.toList) → Grew W3 w4 v2 v4 → Hid (Calls Tryd.prog 21 #[v4, .agg #[.int .i64 yk, .int .i64 yn, .int .u64 (yb : Int), .string ys, .slice ypL ynL ycL, .slice ypE ynE ycE]] w4 fun e w' => ∃ v', e = .returned v' ∧ OwnB n0 w' v' (l ++ (7 :: preE (encV f) (E.take (j + 1)))) ∧ Grew w w' v v') := fun w4 v4 ho4 hg4 => by
        have hg34 := hg3.trans hg4
        have hb4 := hg34.old HO.out hn0
        have C2 := ih _ hyE n0 w4 v4 _ ok (.int .i64 yk) (.int .i64 yn) (.int .u64 (yb : Int)) (.string ys) (.slice ypL ynL ycL) (.slice ypE ynE ycE) m hok (by rw [opnE_ent]; exact hly.kept (fun _ h => h) hb4.size (fun b hb _ => hb4.block b (hok b hb))) ho4 (Nat.le_trans hn0 hb4.size) hG ((hb4.cell (p := ⟨0, 0, none⟩) hG).trans hm) (by rw [opnE_ent]; simp only [List.length_append, List.length_cons, List.length_nil]; omega)
        rw [opnE_ent, hst] at C2
        exact hide (C2.mono fun e w' ⟨v', e1, e2, e3⟩ => ⟨v', e1, e2, hg34.trans e3⟩)
      have kb : ∀ w4 v4, Grew W3 w4 v2 v4 → Blk w4 wr.heap.size #[.string key, .int .i64 yk, .int .i64 yn, .int .u64 (yb : Int), .string ys, .slice ypL ynL ycL, .slice ypE ynE ycE] 54 := fun w4 v4 hg4 => ((hg4.block (b := wr.heap.size) hs3 hq2).1).trans hblk3
      have HD := hide D
      have HKB := hide kb
      have HC := hide C
      have HA := hide hA
      clear C D kb hst ho2 hg2 hgA hb3 hl5 hs5 hg5 hly hA hk5 hcl5 hksz hq1 hs3 hg3
      go_wp2
      rw [← HA.out]
      refine wpIn_wide.1 (wpIn_region_any (n := 9) (by kernel_rfl) (loop6R (fun w4 v4 => OwnB n0 w4 v4 ((l ++ 7 :: preE (encV f) (E.take j) ++ [1]) ++ chainL key.data.toList) ∧ Grew W3 w4 v2 v4) rfl rfl rfl rfl rfl rfl rfl (by kernel_rfl) (by kernel_rfl) (by kernel_rfl) (by kernel_rfl) (by kernel_rfl) (by kernel_rfl) (by kernel_rfl) (by kernel_rfl) (by kernel_rfl) (by kernel_rfl) (by kernel_rfl) (by kernel_rfl) (by kernel_rfl) (by kernel_rfl) (by kernel_rfl) (by kernel_rfl) (by kernel_rfl) (hblk.cell 0 _ rfl) (hblk2.cell 0 _ rfl) (hblk3.cell 0 _ rfl) hr2 ?holeC ?holeQ))
      case holeC =>
        refine (callsIn_wide.2 HC.out).mono ?_
        rintro e w4 ⟨v4, rfl, ho4, hg4⟩
        exact ⟨v4, rfl, ho4, hg4⟩
      case holeQ =>
        rintro w4 v4 ⟨ho4, hg4⟩
        have K4 := HD.out w4 v4 ho4 hg4
        have b4 := HKB.out w4 v4 hg4
        have z1 := b4.cell 1 _ rfl
        have z2 := b4.cell 2 _ rfl
        have z3 := b4.cell 3 _ rfl
        have z4 := b4.cell 4 _ rfl
        have z5 := b4.cell 5 _ rfl
        have z6 := b4.cell 6 _ rfl
        clear ho4 hg4 b4 HD HKB HC
        go_wp2_with (go_at_call 21; refine (unhide K4).mono ?_; rintro e w5 ⟨v5, rfl, ho5, hg5⟩; have HO5 := hide ho5; have HG5 := hide hg5; clear ho5 hg5)
        go_roundw
        case rel => exact ⟨j + 1, by congr 1, by omega, HO5, HG5⟩
        case measure => simp only [intOf]; omega
    · have g0 : ¬ (j : Int) < (E.length : Int) := by omega
      have hjL : j = E.length := by omega
      have hl5 := HP.out j
      have hs5 : sumOf (nodesV f) ((E.take j).map fun x => (opnE x).2) ≤ sumOf (nodesV f) (E.map fun x => (opnE x).2) := by rw [hjL, List.take_length]; exact Nat.le_refl _
      obtain ⟨v2, W3, hr2, ho2, hg2⟩ := push_one hO'.out (by omega) 0 (by simp only [List.length_append, List.length_cons]; omega) 27
      have hc1 : cellB 0 = .int .u8 0 := rfl
      rw [hc1] at hr2
      have hfin : OwnB n0 W3 v2 (l ++ (7 :: tabL (encV f) E)) := by
        rw [hjL, List.take_length] at ho2
        rw [tabL_pre]
        simpa using ho2
      have HO4 := hide hfin
      have HG4 := hide (hG'.out.trans hg2)
      clear hfin ho2 hg2 hl5 hs5 hjL hc1
      go_wp2_with (at_builtin; refine Lib.wpList_append_run _ rfl _ _ _ _ rfl _ _ rfl rfl _ _ hr2 ?_)
      go_ret
      exact ⟨v2, rfl, HO4.out, HG4.out⟩
end Go.Proofs.YtdpoiagnjdajbaaDoor.valus
