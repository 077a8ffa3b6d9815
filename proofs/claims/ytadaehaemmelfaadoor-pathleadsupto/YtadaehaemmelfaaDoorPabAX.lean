/- Of our texts, what this claim reaches. -/
import Derived.Test.YtadaehaemmelfaaDoorPabAW
import Derived.Test.YtadaehaemmelfaaDoorPabAT
set_option linter.unusedVariables false
set_option maxHeartbeats 8000000
set_option maxRecDepth 100000
namespace Go.Proofs.YtadaehaemmelfaaDoor.paths
open Go.RowKit Go.Shelf
open utfs (hide unhide)
open valus (Blk blk_alloc Turns opIn_append)
attribute [local go_sem] Oper.semAt_some
theorem opW_append {n : Nat} {P : Program} {ops : Array Oper} {o : Oper} {a : Act} {w w' : World} {K : Act → World → Prop} {Q : Exit → Act → World → Prop} (s x : Operand) (t : TypeId)
  (ho : o.op = .call { callee := .builtin .append, args := #[s, x], argTypes := #[t, t] }) (hg : o.guard = none) {v u v' : Value} (hs : a.eval s = v) (hx : a.eval x = u)
  (hr : (Builtin.append_ #[t, t] o.type #[v, u]).run P w = .ok v' w') (hK : K (a.put o.dst v') w') :
  if Region.wanted o (yielded ops a.tmps) = true then Oper.wpIn Fence.wide n P o a w K Q else (∀ f, o.about P w a.eval = some f → Fence.wide.fn f) ∧ K (a.put o.dst undef) w := by
 rw [if_pos (by simp [Region.wanted, hg])]
 unfold Oper.wpIn
 refine ⟨fun _ _ => trivial, ?_⟩
 rw [Oper.semAt_plain _ _ _ (by rw [ho]; intro c hc'; cases hc')]
 simp [execOp, ho, resolve, invoke, builtin, hs, hx, hr, Result.andThen]
 exact hK
theorem opW_call {n : Nat} {P : Program} {ops : Array Oper} {o : Oper} {a : Act} {w : World} {K : Act → World → Prop} {Q : Exit → Act → World → Prop} (x : Operand) (f : FuncId) (t : TypeId)
  (ho : o.op = .call { callee := .value (.func f), args := #[x], argTypes := #[t] }) (hg : o.guard = none) {v : Value} (hx : a.eval x = v)
  (eg : ∀ args w, (callFunc f args).run P w = .ok (.enter f args) w) (H : Value → World → Prop) (hc : Calls P f #[v] w fun e w' => ∃ c, e = .returned c ∧ H c w') (hK : ∀ c w', H c w' → K (a.put o.dst c) w') :
  if Region.wanted o (yielded ops a.tmps) = true then Oper.wpIn Fence.wide n P o a w K Q else (∀ f, o.about P w a.eval = some f → Fence.wide.fn f) ∧ K (a.put o.dst undef) w := by
 rw [if_pos (by simp [Region.wanted, hg])]
 unfold Oper.wpIn
 refine ⟨fun _ _ => trivial, ?_⟩
 rw [Oper.semAt_plain _ _ _ (by rw [ho]; intro c hc'; cases hc')]
 have hrun : (execOp a.eval o).run P w = .ok (.enter f #[v]) w := by
  have hf : a.eval (.func f) = .func (.func f) #[] #[] := rfl
  simp [execOp, ho, resolve, invoke, hx, hf, eg, Deferred.ofValue]
 rw [hrun]
 refine ⟨fun h => by simp [Fence.wide] at h, CallsIn.mono (callsIn_wide.2 hc) ?_⟩
 rintro e w' ⟨c, rfl, h⟩
 exact hK c w' h
theorem visR1 {Q : Exit → Act → World → Prop} {ops : Array Oper} {D : List Deferred} {t0 t1 t3 t4 t5 t6 t7 t8 t9 t10 t11 t12 t13 t14 t15 t16 t17 t18 t19 t20 t21 t22 t23 t24 t25 t26 t27 t28 t29 t30 t31 t32 t33 t34 t35 t36 t37 t38 t39 t40 t41 t42 t43 t44 t45 t46 t47 t48 t49 t50 t51 t52 t53 t54 t55 t56 : Value} {W : World} {R N : Nat} {qp : Option Addr} {np cp : Nat} {qh : Option Addr} {nh ch : Nat} {q0 q1 q2 q3 q4 q5 q6 q7 q8 q9 q10 q11 q12 q13 q14 : String} {f0 f1 f2 f3 f4 f5 f6 f7 f8 f9 f10 f11 f12 f13 f14 : _}
  (h0 : ops[0]? = some { dst := some 6, op := .load 86 (.tmp 2), type := 86, pos := q0, after := f0, guard := none })
  (h1 : ops[1]? = some { dst := some 7, op := .load 86 (.tmp 2), type := 86, pos := q1, after := f1, guard := none })
  (h2 : ops[2]? = some { dst := some 8, op := .nilCheck (.tmp 7), type := 0, pos := q2, after := f2, guard := none })
  (h3 : ops[3]? = some { dst := some 9, op := .fieldAddr 65 (.tmp 8) 0, type := 0, pos := q3, after := f3, guard := none })
  (h4 : ops[4]? = some { dst := some 10, op := .load 34 (.tmp 9), type := 34, pos := q4, after := f4, guard := none })
  (h5 : ops[5]? = some { dst := some 11, op := .load 86 (.tmp 2), type := 86, pos := q5, after := f5, guard := none })
  (h6 : ops[6]? = some { dst := some 12, op := .nilCheck (.tmp 11), type := 0, pos := q6, after := f6, guard := none })
  (h7 : ops[7]? = some { dst := some 13, op := .fieldAddr 65 (.tmp 12) 1, type := 0, pos := q7, after := f7, guard := none })
  (h8 : ops[8]? = some { dst := some 14, op := .load 27 (.tmp 13), type := 27, pos := q8, after := f8, guard := none })
  (h9 : ops[9]? = some { dst := some 15, op := .call { callee := .value (.func 47), args := #[.tmp 14], argTypes := #[27] }, type := 27, pos := q9, after := f9, guard := none })
  (h10 : ops[10]? = some { dst := some 16, op := .buildSlice 34 1 #[(0, .tmp 15)], type := 34, pos := q10, after := f10, guard := none })
  (h11 : ops[11]? = some { dst := some 17, op := .call { callee := .builtin .append, args := #[.tmp 10, .tmp 16], argTypes := #[34, 34] }, type := 34, pos := q11, after := f11, guard := none })
  (h12 : ops[12]? = some { dst := some 18, op := .nilCheck (.tmp 6), type := 0, pos := q12, after := f12, guard := none })
  (h13 : ops[13]? = some { dst := some 19, op := .fieldAddr 65 (.tmp 18) 0, type := 0, pos := q13, after := f13, guard := none })
  (h14 : ops[14]? = some { dst := none, op := .store 34 (.tmp 19) (.tmp 17), type := 0, pos := q14, after := f14, guard := none })
  (rabcdefghijklmno : Region.ready .any ops #[true, true, true, true, true, true, true, true, true, true, true, true, true, true, true] = [])
  (rabcdefghijklmn : Region.ready .any ops #[true, true, true, true, true, true, true, true, true, true, true, true, true, true, false] = [14])
  (rabcdefghijklm : Region.ready .any ops #[true, true, true, true, true, true, true, true, true, true, true, true, true, false, false] = [13])
  (rabcdefghijkl : Region.ready .any ops #[true, true, true, true, true, true, true, true, true, true, true, true, false, false, false] = [12])
  (rabcdefghijk : Region.ready .any ops #[true, true, true, true, true, true, true, true, true, true, true, false, false, false, false] = [11])
  (rbcdefghijkl : Region.ready .any ops #[false, true, true, true, true, true, true, true, true, true, true, true, false, false, false] = [0])
  (rabcdefghij : Region.ready .any ops #[true, true, true, true, true, true, true, true, true, true, false, false, false, false, false] = [10])
  (rabcdfghijk : Region.ready .any ops #[true, true, true, true, false, true, true, true, true, true, true, false, false, false, false] = [4])
  (rbcdefghijk : Region.ready .any ops #[false, true, true, true, true, true, true, true, true, true, true, false, false, false, false] = [0, 11])
  (rabcdefghi : Region.ready .any ops #[true, true, true, true, true, true, true, true, true, false, false, false, false, false, false] = [9])
  (rabcdfghij : Region.ready .any ops #[true, true, true, true, false, true, true, true, true, true, false, false, false, false, false] = [4, 10])
  (rabcfghijk : Region.ready .any ops #[true, true, true, false, false, true, true, true, true, true, true, false, false, false, false] = [3])
  (rbcdefghij : Region.ready .any ops #[false, true, true, true, true, true, true, true, true, true, false, false, false, false, false] = [0, 10])
  (rbcdfghijk : Region.ready .any ops #[false, true, true, true, false, true, true, true, true, true, true, false, false, false, false] = [0, 4])
  (rabcdefgh : Region.ready .any ops #[true, true, true, true, true, true, true, true, false, false, false, false, false, false, false] = [8])
  (rabcdfghi : Region.ready .any ops #[true, true, true, true, false, true, true, true, true, false, false, false, false, false, false] = [4, 9])
  (rabcfghij : Region.ready .any ops #[true, true, true, false, false, true, true, true, true, true, false, false, false, false, false] = [3, 10])
  (rabfghijk : Region.ready .any ops #[true, true, false, false, false, true, true, true, true, true, true, false, false, false, false] = [2])
  (rbcdefghi : Region.ready .any ops #[false, true, true, true, true, true, true, true, true, false, false, false, false, false, false] = [0, 9])
  (rbcdfghij : Region.ready .any ops #[false, true, true, true, false, true, true, true, true, true, false, false, false, false, false] = [0, 4, 10])
  (rbcfghijk : Region.ready .any ops #[false, true, true, false, false, true, true, true, true, true, true, false, false, false, false] = [0, 3])
  (rabcdefg : Region.ready .any ops #[true, true, true, true, true, true, true, false, false, false, false, false, false, false, false] = [7])
  (rabcdfgh : Region.ready .any ops #[true, true, true, true, false, true, true, true, false, false, false, false, false, false, false] = [4, 8])
  (rabcfghi : Region.ready .any ops #[true, true, true, false, false, true, true, true, true, false, false, false, false, false, false] = [3, 9])
  (rabfghij : Region.ready .any ops #[true, true, false, false, false, true, true, true, true, true, false, false, false, false, false] = [2, 10])
  (rafghijk : Region.ready .any ops #[true, false, false, false, false, true, true, true, true, true, true, false, false, false, false] = [1])
  (rbcdefgh : Region.ready .any ops #[false, true, true, true, true, true, true, true, false, false, false, false, false, false, false] = [0, 8])
  (rbcdfghi : Region.ready .any ops #[false, true, true, true, false, true, true, true, true, false, false, false, false, false, false] = [0, 4, 9])
  (rbcfghij : Region.ready .any ops #[false, true, true, false, false, true, true, true, true, true, false, false, false, false, false] = [0, 3, 10])
  (rbfghijk : Region.ready .any ops #[false, true, false, false, false, true, true, true, true, true, true, false, false, false, false] = [0, 2])
  (rabcdef : Region.ready .any ops #[true, true, true, true, true, true, false, false, false, false, false, false, false, false, false] = [6])
  (rabcdfg : Region.ready .any ops #[true, true, true, true, false, true, true, false, false, false, false, false, false, false, false] = [4, 7])
  (rabcfgh : Region.ready .any ops #[true, true, true, false, false, true, true, true, false, false, false, false, false, false, false] = [3, 8])
  (rabfghi : Region.ready .any ops #[true, true, false, false, false, true, true, true, true, false, false, false, false, false, false] = [2, 9])
  (rafghij : Region.ready .any ops #[true, false, false, false, false, true, true, true, true, true, false, false, false, false, false] = [1, 10])
  (rbcdefg : Region.ready .any ops #[false, true, true, true, true, true, true, false, false, false, false, false, false, false, false] = [0, 7])
  (rbcdfgh : Region.ready .any ops #[false, true, true, true, false, true, true, true, false, false, false, false, false, false, false] = [0, 4, 8])
  (rbcfghi : Region.ready .any ops #[false, true, true, false, false, true, true, true, true, false, false, false, false, false, false] = [0, 3, 9])
  (rbfghij : Region.ready .any ops #[false, true, false, false, false, true, true, true, true, true, false, false, false, false, false] = [0, 2, 10])
  (rfghijk : Region.ready .any ops #[false, false, false, false, false, true, true, true, true, true, true, false, false, false, false] = [0, 1])
  (rabcde : Region.ready .any ops #[true, true, true, true, true, false, false, false, false, false, false, false, false, false, false] = [5])
  (rabcdf : Region.ready .any ops #[true, true, true, true, false, true, false, false, false, false, false, false, false, false, false] = [4, 6])
  (rabcfg : Region.ready .any ops #[true, true, true, false, false, true, true, false, false, false, false, false, false, false, false] = [3, 7])
  (rabfgh : Region.ready .any ops #[true, true, false, false, false, true, true, true, false, false, false, false, false, false, false] = [2, 8])
  (rafghi : Region.ready .any ops #[true, false, false, false, false, true, true, true, true, false, false, false, false, false, false] = [1, 9])
  (rbcdef : Region.ready .any ops #[false, true, true, true, true, true, false, false, false, false, false, false, false, false, false] = [0, 6])
  (rbcdfg : Region.ready .any ops #[false, true, true, true, false, true, true, false, false, false, false, false, false, false, false] = [0, 4, 7])
  (rbcfgh : Region.ready .any ops #[false, true, true, false, false, true, true, true, false, false, false, false, false, false, false] = [0, 3, 8])
  (rbfghi : Region.ready .any ops #[false, true, false, false, false, true, true, true, true, false, false, false, false, false, false] = [0, 2, 9])
  (rfghij : Region.ready .any ops #[false, false, false, false, false, true, true, true, true, true, false, false, false, false, false] = [0, 1, 10])
  (rabcd : Region.ready .any ops #[true, true, true, true, false, false, false, false, false, false, false, false, false, false, false] = [4, 5])
  (rabcf : Region.ready .any ops #[true, true, true, false, false, true, false, false, false, false, false, false, false, false, false] = [3, 6])
  (rabfg : Region.ready .any ops #[true, true, false, false, false, true, true, false, false, false, false, false, false, false, false] = [2, 7])
  (rafgh : Region.ready .any ops #[true, false, false, false, false, true, true, true, false, false, false, false, false, false, false] = [1, 8])
  (rbcde : Region.ready .any ops #[false, true, true, true, true, false, false, false, false, false, false, false, false, false, false] = [0, 5])
  (rbcdf : Region.ready .any ops #[false, true, true, true, false, true, false, false, false, false, false, false, false, false, false] = [0, 4, 6])
  (rbcfg : Region.ready .any ops #[false, true, true, false, false, true, true, false, false, false, false, false, false, false, false] = [0, 3, 7])
  (rbfgh : Region.ready .any ops #[false, true, false, false, false, true, true, true, false, false, false, false, false, false, false] = [0, 2, 8])
  (rfghi : Region.ready .any ops #[false, false, false, false, false, true, true, true, true, false, false, false, false, false, false] = [0, 1, 9])
  (rabc : Region.ready .any ops #[true, true, true, false, false, false, false, false, false, false, false, false, false, false, false] = [3, 5])
  (rabf : Region.ready .any ops #[true, true, false, false, false, true, false, false, false, false, false, false, false, false, false] = [2, 6])
  (rafg : Region.ready .any ops #[true, false, false, false, false, true, true, false, false, false, false, false, false, false, false] = [1, 7])
  (rbcd : Region.ready .any ops #[false, true, true, true, false, false, false, false, false, false, false, false, false, false, false] = [0, 4, 5])
  (rbcf : Region.ready .any ops #[false, true, true, false, false, true, false, false, false, false, false, false, false, false, false] = [0, 3, 6])
  (rbfg : Region.ready .any ops #[false, true, false, false, false, true, true, false, false, false, false, false, false, false, false] = [0, 2, 7])
  (rfgh : Region.ready .any ops #[false, false, false, false, false, true, true, true, false, false, false, false, false, false, false] = [0, 1, 8])
  (rab : Region.ready .any ops #[true, true, false, false, false, false, false, false, false, false, false, false, false, false, false] = [2, 5])
  (raf : Region.ready .any ops #[true, false, false, false, false, true, false, false, false, false, false, false, false, false, false] = [1, 6])
  (rbc : Region.ready .any ops #[false, true, true, false, false, false, false, false, false, false, false, false, false, false, false] = [0, 3, 5])
  (rbf : Region.ready .any ops #[false, true, false, false, false, true, false, false, false, false, false, false, false, false, false] = [0, 2, 6])
  (rfg : Region.ready .any ops #[false, false, false, false, false, true, true, false, false, false, false, false, false, false, false] = [0, 1, 7])
  (ra : Region.ready .any ops #[true, false, false, false, false, false, false, false, false, false, false, false, false, false, false] = [1, 5])
  (rb : Region.ready .any ops #[false, true, false, false, false, false, false, false, false, false, false, false, false, false, false] = [0, 2, 5])
  (rf : Region.ready .any ops #[false, false, false, false, false, true, false, false, false, false, false, false, false, false, false] = [0, 1, 6])
  (r : Region.ready .any ops #[false, false, false, false, false, false, false, false, false, false, false, false, false, false, false] = [0, 1, 5])
  (H9 : Option Addr → Nat → Nat → World → Prop) (H11 : Option Addr → Nat → Nat → Option Addr → Nat → Nat → Nat → World → Prop)
  (c2 : W.cell? ⟨N, 0, none⟩ = some (.pointer (some ⟨R, 0, none⟩))) (cR0 : W.cell? ⟨R, 0, none⟩ = some (.slice qp np cp)) (cR1 : W.cell? ⟨R, 1, none⟩ = some (.slice qh nh ch))
  (k9 : ∀ qc nc cc X, H9 qc nc cc X → X.cell? ⟨N, 0, none⟩ = some (.pointer (some ⟨R, 0, none⟩)) ∧ X.cell? ⟨R, 0, none⟩ = some (.slice qp np cp) ∧ X.cell? ⟨R, 1, none⟩ = some (.slice qh nh ch))
  (k10 : ∀ qc nc cc X, H9 qc nc cc X → (X.alloc (.cells #[.slice qc nc cc] 27)).cell? ⟨N, 0, none⟩ = some (.pointer (some ⟨R, 0, none⟩)) ∧ (X.alloc (.cells #[.slice qc nc cc] 27)).cell? ⟨R, 0, none⟩ = some (.slice qp np cp) ∧ (X.alloc (.cells #[.slice qc nc cc] 27)).cell? ⟨R, 1, none⟩ = some (.slice qh nh ch))
  (k11 : ∀ qc nc cc qv nv cv g X, H11 qc nc cc qv nv cv g X → X.cell? ⟨N, 0, none⟩ = some (.pointer (some ⟨R, 0, none⟩)) ∧ X.cell? ⟨R, 0, none⟩ = some (.slice qp np cp) ∧ X.frozen? ⟨R, 0, none⟩ = false)
  (ent : ∀ args w, (callFunc 47 args).run Tryd.prog w = .ok (.enter 47 args) w)
  (hcl : Calls Tryd.prog 47 #[.slice qh nh ch] W fun e w' => ∃ c, e = .returned c ∧ ∃ qc nc cc, c = .slice qc nc cc ∧ H9 qc nc cc w')
  (hap : ∀ qc nc cc g X, H9 qc nc cc X → g = X.heap.size → ∃ qv nv cv Y, (Builtin.append_ #[34, 34] 34 #[.slice qp np cp, .slice (some ⟨g, 0, none⟩) 1 1]).run Tryd.prog (X.alloc (.cells #[.slice qc nc cc] 27)) = .ok (.slice qv nv cv) Y ∧ H11 qc nc cc qv nv cv g Y)
  (hQ : ∀ qc nc cc qv nv cv g X, H11 qc nc cc qv nv cv g X → Q .normal { tmps := #[t0, t1, (.pointer (some ⟨N, 0, none⟩)), t3, t4, t5, (.pointer (some ⟨R, 0, none⟩)), (.pointer (some ⟨R, 0, none⟩)), (.pointer (some ⟨R, 0, none⟩)), (.pointer (some ⟨R, 0, none⟩)), (.slice qp np cp), (.pointer (some ⟨R, 0, none⟩)), (.pointer (some ⟨R, 0, none⟩)), (.pointer (some ⟨R, 1, none⟩)), (.slice qh nh ch), (.slice qc nc cc), (.slice (some ⟨g, 0, none⟩) 1 1), (.slice qv nv cv), (.pointer (some ⟨R, 0, none⟩)), (.pointer (some ⟨R, 0, none⟩)), t20, t21, t22, t23, t24, t25, t26, t27, t28, t29, t30, t31, t32, t33, t34, t35, t36, t37, t38, t39, t40, t41, t42, t43, t44, t45, t46, t47, t48, t49, t50, t51, t52, t53, t54, t55, t56], defers := D } (X.setCell ⟨R, 0, none⟩ (.slice qv nv cv))) :
  wpAnyIn Fence.wide 9 Tryd.prog .any ops Q 15 #[false, false, false, false, false, false, false, false, false, false, false, false, false, false, false] { tmps := #[t0, t1, (.pointer (some ⟨N, 0, none⟩)), t3, t4, t5, t6, t7, t8, t9, t10, t11, t12, t13, t14, t15, t16, t17, t18, t19, t20, t21, t22, t23, t24, t25, t26, t27, t28, t29, t30, t31, t32, t33, t34, t35, t36, t37, t38, t39, t40, t41, t42, t43, t44, t45, t46, t47, t48, t49, t50, t51, t52, t53, t54, t55, t56], defers := D } W := by
 have sabcdefghijklmno : ∀ (qc : Option Addr) (nc cc : Nat) (qv : Option Addr) (nv cv g : Nat) (X : World), H11 qc nc cc qv nv cv g X → wpAnyIn Fence.wide 9 Tryd.prog .any ops Q 0 #[true, true, true, true, true, true, true, true, true, true, true, true, true, true, true] { tmps := #[t0, t1, (.pointer (some ⟨N, 0, none⟩)), t3, t4, t5, (.pointer (some ⟨R, 0, none⟩)), (.pointer (some ⟨R, 0, none⟩)), (.pointer (some ⟨R, 0, none⟩)), (.pointer (some ⟨R, 0, none⟩)), (.slice qp np cp), (.pointer (some ⟨R, 0, none⟩)), (.pointer (some ⟨R, 0, none⟩)), (.pointer (some ⟨R, 1, none⟩)), (.slice qh nh ch), (.slice qc nc cc), (.slice (some ⟨g, 0, none⟩) 1 1), (.slice qv nv cv), (.pointer (some ⟨R, 0, none⟩)), (.pointer (some ⟨R, 0, none⟩)), t20, t21, t22, t23, t24, t25, t26, t27, t28, t29, t30, t31, t32, t33, t34, t35, t36, t37, t38, t39, t40, t41, t42, t43, t44, t45, t46, t47, t48, t49, t50, t51, t52, t53, t54, t55, t56], defers := D } (X.setCell ⟨R, 0, none⟩ (.slice qv nv cv)) := by
  intro qc nc cc qv nv cv g X hH
  exact wpAnyIn_done rabcdefghijklmno (hQ qc nc cc qv nv cv g X hH) _
 have sabcdefghijklmn : ∀ (qc : Option Addr) (nc cc : Nat) (qv : Option Addr) (nv cv g : Nat) (X : World), H11 qc nc cc qv nv cv g X → wpAnyIn Fence.wide 9 Tryd.prog .any ops Q 1 #[true, true, true, true, true, true, true, true, true, true, true, true, true, true, false] { tmps := #[t0, t1, (.pointer (some ⟨N, 0, none⟩)), t3, t4, t5, (.pointer (some ⟨R, 0, none⟩)), (.pointer (some ⟨R, 0, none⟩)), (.pointer (some ⟨R, 0, none⟩)), (.pointer (some ⟨R, 0, none⟩)), (.slice qp np cp), (.pointer (some ⟨R, 0, none⟩)), (.pointer (some ⟨R, 0, none⟩)), (.pointer (some ⟨R, 1, none⟩)), (.slice qh nh ch), (.slice qc nc cc), (.slice (some ⟨g, 0, none⟩) 1 1), (.slice qv nv cv), (.pointer (some ⟨R, 0, none⟩)), (.pointer (some ⟨R, 0, none⟩)), t20, t21, t22, t23, t24, t25, t26, t27, t28, t29, t30, t31, t32, t33, t34, t35, t36, t37, t38, t39, t40, t41, t42, t43, t44, t45, t46, t47, t48, t49, t50, t51, t52, t53, t54, t55, t56], defers := D } X := by
  intro qc nc cc qv nv cv g X hH
  obtain ⟨b0, b1, b2⟩ := k11 qc nc cc qv nv cv g X hH
  refine wpAnyIn_ready rabcdefghijklmn (by simp) ?_
  refine AllReadyIn.cons h14 (fun K hK => ?_) ?_
  ·go_simp
   exact hK _ _ (sabcdefghijklmno qc nc cc qv nv cv g X hH)
  exact AllReadyIn.nil
 have sabcdefghijklm : ∀ (qc : Option Addr) (nc cc : Nat) (qv : Option Addr) (nv cv g : Nat) (X : World), H11 qc nc cc qv nv cv g X → wpAnyIn Fence.wide 9 Tryd.prog .any ops Q 2 #[true, true, true, true, true, true, true, true, true, true, true, true, true, false, false] { tmps := #[t0, t1, (.pointer (some ⟨N, 0, none⟩)), t3, t4, t5, (.pointer (some ⟨R, 0, none⟩)), (.pointer (some ⟨R, 0, none⟩)), (.pointer (some ⟨R, 0, none⟩)), (.pointer (some ⟨R, 0, none⟩)), (.slice qp np cp), (.pointer (some ⟨R, 0, none⟩)), (.pointer (some ⟨R, 0, none⟩)), (.pointer (some ⟨R, 1, none⟩)), (.slice qh nh ch), (.slice qc nc cc), (.slice (some ⟨g, 0, none⟩) 1 1), (.slice qv nv cv), (.pointer (some ⟨R, 0, none⟩)), t19, t20, t21, t22, t23, t24, t25, t26, t27, t28, t29, t30, t31, t32, t33, t34, t35, t36, t37, t38, t39, t40, t41, t42, t43, t44, t45, t46, t47, t48, t49, t50, t51, t52, t53, t54, t55, t56], defers := D } X := by
  intro qc nc cc qv nv cv g X hH
  obtain ⟨b0, b1, b2⟩ := k11 qc nc cc qv nv cv g X hH
  refine wpAnyIn_ready rabcdefghijklm (by simp) ?_
  refine AllReadyIn.cons h13 (fun K hK => ?_) ?_
  ·go_simp
   exact hK _ _ (sabcdefghijklmn qc nc cc qv nv cv g X hH)
  exact AllReadyIn.nil
 have sabcdefghijkl : ∀ (qc : Option Addr) (nc cc : Nat) (qv : Option Addr) (nv cv g : Nat) (X : World), H11 qc nc cc qv nv cv g X → wpAnyIn Fence.wide 9 Tryd.prog .any ops Q 3 #[true, true, true, true, true, true, true, true, true, true, true, true, false, false, false] { tmps := #[t0, t1, (.pointer (some ⟨N, 0, none⟩)), t3, t4, t5, (.pointer (some ⟨R, 0, none⟩)), (.pointer (some ⟨R, 0, none⟩)), (.pointer (some ⟨R, 0, none⟩)), (.pointer (some ⟨R, 0, none⟩)), (.slice qp np cp), (.pointer (some ⟨R, 0, none⟩)), (.pointer (some ⟨R, 0, none⟩)), (.pointer (some ⟨R, 1, none⟩)), (.slice qh nh ch), (.slice qc nc cc), (.slice (some ⟨g, 0, none⟩) 1 1), (.slice qv nv cv), t18, t19, t20, t21, t22, t23, t24, t25, t26, t27, t28, t29, t30, t31, t32, t33, t34, t35, t36, t37, t38, t39, t40, t41, t42, t43, t44, t45, t46, t47, t48, t49, t50, t51, t52, t53, t54, t55, t56], defers := D } X := by
  intro qc nc cc qv nv cv g X hH
  obtain ⟨b0, b1, b2⟩ := k11 qc nc cc qv nv cv g X hH
  refine wpAnyIn_ready rabcdefghijkl (by simp) ?_
  refine AllReadyIn.cons h12 (fun K hK => ?_) ?_
  ·go_simp
   exact hK _ _ (sabcdefghijklm qc nc cc qv nv cv g X hH)
  exact AllReadyIn.nil
 have sabcdefghijk : ∀ (qc : Option Addr) (nc cc : Nat) (X : World), H9 qc nc cc X → wpAnyIn Fence.wide 9 Tryd.prog .any ops Q 4 #[true, true, true, true, true, true, true, true, true, true, true, false, false, false, false] { tmps := #[t0, t1, (.pointer (some ⟨N, 0, none⟩)), t3, t4, t5, (.pointer (some ⟨R, 0, none⟩)), (.pointer (some ⟨R, 0, none⟩)), (.pointer (some ⟨R, 0, none⟩)), (.pointer (some ⟨R, 0, none⟩)), (.slice qp np cp), (.pointer (some ⟨R, 0, none⟩)), (.pointer (some ⟨R, 0, none⟩)), (.pointer (some ⟨R, 1, none⟩)), (.slice qh nh ch), (.slice qc nc cc), (.slice (some ⟨X.heap.size, 0, none⟩) 1 1), t17, t18, t19, t20, t21, t22, t23, t24, t25, t26, t27, t28, t29, t30, t31, t32, t33, t34, t35, t36, t37, t38, t39, t40, t41, t42, t43, t44, t45, t46, t47, t48, t49, t50, t51, t52, t53, t54, t55, t56], defers := D } (X.alloc (.cells #[.slice qc nc cc] 27)) := by
  intro qc nc cc X hH
  obtain ⟨b0, b1, b2⟩ := k9 qc nc cc X hH
  obtain ⟨a0, a1, a2⟩ := k10 qc nc cc X hH
  refine wpAnyIn_ready rabcdefghijk (by simp) ?_
  refine AllReadyIn.cons h11 (fun K hK => ?_) ?_
  ·obtain ⟨qv, nv, cv, Y, hrun, hy⟩ := hap qc nc cc X.heap.size X hH rfl
   exact opW_append _ _ _ rfl rfl rfl rfl hrun (hK _ _ (sabcdefghijkl qc nc cc qv nv cv X.heap.size Y hy))
  exact AllReadyIn.nil
 have sbcdefghijkl : ∀ (qc : Option Addr) (nc cc : Nat) (qv : Option Addr) (nv cv g : Nat) (X : World), H11 qc nc cc qv nv cv g X → wpAnyIn Fence.wide 9 Tryd.prog .any ops Q 4 #[false, true, true, true, true, true, true, true, true, true, true, true, false, false, false] { tmps := #[t0, t1, (.pointer (some ⟨N, 0, none⟩)), t3, t4, t5, t6, (.pointer (some ⟨R, 0, none⟩)), (.pointer (some ⟨R, 0, none⟩)), (.pointer (some ⟨R, 0, none⟩)), (.slice qp np cp), (.pointer (some ⟨R, 0, none⟩)), (.pointer (some ⟨R, 0, none⟩)), (.pointer (some ⟨R, 1, none⟩)), (.slice qh nh ch), (.slice qc nc cc), (.slice (some ⟨g, 0, none⟩) 1 1), (.slice qv nv cv), t18, t19, t20, t21, t22, t23, t24, t25, t26, t27, t28, t29, t30, t31, t32, t33, t34, t35, t36, t37, t38, t39, t40, t41, t42, t43, t44, t45, t46, t47, t48, t49, t50, t51, t52, t53, t54, t55, t56], defers := D } X := by
  intro qc nc cc qv nv cv g X hH
  obtain ⟨b0, b1, b2⟩ := k11 qc nc cc qv nv cv g X hH
  refine wpAnyIn_ready rbcdefghijkl (by simp) ?_
  refine AllReadyIn.cons h0 (fun K hK => ?_) ?_
  ·go_simp
   exact hK _ _ (sabcdefghijkl qc nc cc qv nv cv g X hH)
  exact AllReadyIn.nil
 have sabcdefghij : ∀ (qc : Option Addr) (nc cc : Nat) (X : World), H9 qc nc cc X → wpAnyIn Fence.wide 9 Tryd.prog .any ops Q 5 #[true, true, true, true, true, true, true, true, true, true, false, false, false, false, false] { tmps := #[t0, t1, (.pointer (some ⟨N, 0, none⟩)), t3, t4, t5, (.pointer (some ⟨R, 0, none⟩)), (.pointer (some ⟨R, 0, none⟩)), (.pointer (some ⟨R, 0, none⟩)), (.pointer (some ⟨R, 0, none⟩)), (.slice qp np cp), (.pointer (some ⟨R, 0, none⟩)), (.pointer (some ⟨R, 0, none⟩)), (.pointer (some ⟨R, 1, none⟩)), (.slice qh nh ch), (.slice qc nc cc), t16, t17, t18, t19, t20, t21, t22, t23, t24, t25, t26, t27, t28, t29, t30, t31, t32, t33, t34, t35, t36, t37, t38, t39, t40, t41, t42, t43, t44, t45, t46, t47, t48, t49, t50, t51, t52, t53, t54, t55, t56], defers := D } X := by
  intro qc nc cc X hH
  obtain ⟨b0, b1, b2⟩ := k9 qc nc cc X hH
  refine wpAnyIn_ready rabcdefghij (by simp) ?_
  refine AllReadyIn.cons h10 (fun K hK => ?_) ?_
  ·go_simp
   exact hK _ _ (sabcdefghijk qc nc cc X hH)
  exact AllReadyIn.nil
 have sabcdfghijk : ∀ (qc : Option Addr) (nc cc : Nat) (X : World), H9 qc nc cc X → wpAnyIn Fence.wide 9 Tryd.prog .any ops Q 5 #[true, true, true, true, false, true, true, true, true, true, true, false, false, false, false] { tmps := #[t0, t1, (.pointer (some ⟨N, 0, none⟩)), t3, t4, t5, (.pointer (some ⟨R, 0, none⟩)), (.pointer (some ⟨R, 0, none⟩)), (.pointer (some ⟨R, 0, none⟩)), (.pointer (some ⟨R, 0, none⟩)), t10, (.pointer (some ⟨R, 0, none⟩)), (.pointer (some ⟨R, 0, none⟩)), (.pointer (some ⟨R, 1, none⟩)), (.slice qh nh ch), (.slice qc nc cc), (.slice (some ⟨X.heap.size, 0, none⟩) 1 1), t17, t18, t19, t20, t21, t22, t23, t24, t25, t26, t27, t28, t29, t30, t31, t32, t33, t34, t35, t36, t37, t38, t39, t40, t41, t42, t43, t44, t45, t46, t47, t48, t49, t50, t51, t52, t53, t54, t55, t56], defers := D } (X.alloc (.cells #[.slice qc nc cc] 27)) := by
  intro qc nc cc X hH
  obtain ⟨b0, b1, b2⟩ := k9 qc nc cc X hH
  obtain ⟨a0, a1, a2⟩ := k10 qc nc cc X hH
  refine wpAnyIn_ready rabcdfghijk (by simp) ?_
  refine AllReadyIn.cons h4 (fun K hK => ?_) ?_
  ·go_simp
   exact hK _ _ (sabcdefghijk qc nc cc X hH)
  exact AllReadyIn.nil
 have sbcdefghijk : ∀ (qc : Option Addr) (nc cc : Nat) (X : World), H9 qc nc cc X → wpAnyIn Fence.wide 9 Tryd.prog .any ops Q 5 #[false, true, true, true, true, true, true, true, true, true, true, false, false, false, false] { tmps := #[t0, t1, (.pointer (some ⟨N, 0, none⟩)), t3, t4, t5, t6, (.pointer (some ⟨R, 0, none⟩)), (.pointer (some ⟨R, 0, none⟩)), (.pointer (some ⟨R, 0, none⟩)), (.slice qp np cp), (.pointer (some ⟨R, 0, none⟩)), (.pointer (some ⟨R, 0, none⟩)), (.pointer (some ⟨R, 1, none⟩)), (.slice qh nh ch), (.slice qc nc cc), (.slice (some ⟨X.heap.size, 0, none⟩) 1 1), t17, t18, t19, t20, t21, t22, t23, t24, t25, t26, t27, t28, t29, t30, t31, t32, t33, t34, t35, t36, t37, t38, t39, t40, t41, t42, t43, t44, t45, t46, t47, t48, t49, t50, t51, t52, t53, t54, t55, t56], defers := D } (X.alloc (.cells #[.slice qc nc cc] 27)) := by
  intro qc nc cc X hH
  obtain ⟨b0, b1, b2⟩ := k9 qc nc cc X hH
  obtain ⟨a0, a1, a2⟩ := k10 qc nc cc X hH
  refine wpAnyIn_ready rbcdefghijk (by simp) ?_
  refine AllReadyIn.cons h0 (fun K hK => ?_) ?_
  ·go_simp
   exact hK _ _ (sabcdefghijk qc nc cc X hH)
  refine AllReadyIn.cons h11 (fun K hK => ?_) ?_
  ·obtain ⟨qv, nv, cv, Y, hrun, hy⟩ := hap qc nc cc X.heap.size X hH rfl
   exact opW_append _ _ _ rfl rfl rfl rfl hrun (hK _ _ (sbcdefghijkl qc nc cc qv nv cv X.heap.size Y hy))
  exact AllReadyIn.nil
 have sabcdefghi : wpAnyIn Fence.wide 9 Tryd.prog .any ops Q 6 #[true, true, true, true, true, true, true, true, true, false, false, false, false, false, false] { tmps := #[t0, t1, (.pointer (some ⟨N, 0, none⟩)), t3, t4, t5, (.pointer (some ⟨R, 0, none⟩)), (.pointer (some ⟨R, 0, none⟩)), (.pointer (some ⟨R, 0, none⟩)), (.pointer (some ⟨R, 0, none⟩)), (.slice qp np cp), (.pointer (some ⟨R, 0, none⟩)), (.pointer (some ⟨R, 0, none⟩)), (.pointer (some ⟨R, 1, none⟩)), (.slice qh nh ch), t15, t16, t17, t18, t19, t20, t21, t22, t23, t24, t25, t26, t27, t28, t29, t30, t31, t32, t33, t34, t35, t36, t37, t38, t39, t40, t41, t42, t43, t44, t45, t46, t47, t48, t49, t50, t51, t52, t53, t54, t55, t56], defers := D } W := by
  refine wpAnyIn_ready rabcdefghi (by simp) ?_
  refine AllReadyIn.cons h9 (fun K hK => ?_) ?_
  ·exact opW_call _ _ _ rfl rfl rfl ent (fun c X => ∃ qc nc cc, c = .slice qc nc cc ∧ H9 qc nc cc X) hcl (fun c X ⟨qc, nc, cc, e, h⟩ => by subst e; exact hK _ _ (sabcdefghij qc nc cc X h))
  exact AllReadyIn.nil
 have sabcdfghij : ∀ (qc : Option Addr) (nc cc : Nat) (X : World), H9 qc nc cc X → wpAnyIn Fence.wide 9 Tryd.prog .any ops Q 6 #[true, true, true, true, false, true, true, true, true, true, false, false, false, false, false] { tmps := #[t0, t1, (.pointer (some ⟨N, 0, none⟩)), t3, t4, t5, (.pointer (some ⟨R, 0, none⟩)), (.pointer (some ⟨R, 0, none⟩)), (.pointer (some ⟨R, 0, none⟩)), (.pointer (some ⟨R, 0, none⟩)), t10, (.pointer (some ⟨R, 0, none⟩)), (.pointer (some ⟨R, 0, none⟩)), (.pointer (some ⟨R, 1, none⟩)), (.slice qh nh ch), (.slice qc nc cc), t16, t17, t18, t19, t20, t21, t22, t23, t24, t25, t26, t27, t28, t29, t30, t31, t32, t33, t34, t35, t36, t37, t38, t39, t40, t41, t42, t43, t44, t45, t46, t47, t48, t49, t50, t51, t52, t53, t54, t55, t56], defers := D } X := by
  intro qc nc cc X hH
  obtain ⟨b0, b1, b2⟩ := k9 qc nc cc X hH
  refine wpAnyIn_ready rabcdfghij (by simp) ?_
  refine AllReadyIn.cons h4 (fun K hK => ?_) ?_
  ·go_simp
   exact hK _ _ (sabcdefghij qc nc cc X hH)
  refine AllReadyIn.cons h10 (fun K hK => ?_) ?_
  ·go_simp
   exact hK _ _ (sabcdfghijk qc nc cc X hH)
  exact AllReadyIn.nil
 have sabcfghijk : ∀ (qc : Option Addr) (nc cc : Nat) (X : World), H9 qc nc cc X → wpAnyIn Fence.wide 9 Tryd.prog .any ops Q 6 #[true, true, true, false, false, true, true, true, true, true, true, false, false, false, false] { tmps := #[t0, t1, (.pointer (some ⟨N, 0, none⟩)), t3, t4, t5, (.pointer (some ⟨R, 0, none⟩)), (.pointer (some ⟨R, 0, none⟩)), (.pointer (some ⟨R, 0, none⟩)), t9, t10, (.pointer (some ⟨R, 0, none⟩)), (.pointer (some ⟨R, 0, none⟩)), (.pointer (some ⟨R, 1, none⟩)), (.slice qh nh ch), (.slice qc nc cc), (.slice (some ⟨X.heap.size, 0, none⟩) 1 1), t17, t18, t19, t20, t21, t22, t23, t24, t25, t26, t27, t28, t29, t30, t31, t32, t33, t34, t35, t36, t37, t38, t39, t40, t41, t42, t43, t44, t45, t46, t47, t48, t49, t50, t51, t52, t53, t54, t55, t56], defers := D } (X.alloc (.cells #[.slice qc nc cc] 27)) := by
  intro qc nc cc X hH
  obtain ⟨b0, b1, b2⟩ := k9 qc nc cc X hH
  obtain ⟨a0, a1, a2⟩ := k10 qc nc cc X hH
  refine wpAnyIn_ready rabcfghijk (by simp) ?_
  refine AllReadyIn.cons h3 (fun K hK => ?_) ?_
  ·go_simp
   exact hK _ _ (sabcdfghijk qc nc cc X hH)
  exact AllReadyIn.nil
 have sbcdefghij : ∀ (qc : Option Addr) (nc cc : Nat) (X : World), H9 qc nc cc X → wpAnyIn Fence.wide 9 Tryd.prog .any ops Q 6 #[false, true, true, true, true, true, true, true, true, true, false, false, false, false, false] { tmps := #[t0, t1, (.pointer (some ⟨N, 0, none⟩)), t3, t4, t5, t6, (.pointer (some ⟨R, 0, none⟩)), (.pointer (some ⟨R, 0, none⟩)), (.pointer (some ⟨R, 0, none⟩)), (.slice qp np cp), (.pointer (some ⟨R, 0, none⟩)), (.pointer (some ⟨R, 0, none⟩)), (.pointer (some ⟨R, 1, none⟩)), (.slice qh nh ch), (.slice qc nc cc), t16, t17, t18, t19, t20, t21, t22, t23, t24, t25, t26, t27, t28, t29, t30, t31, t32, t33, t34, t35, t36, t37, t38, t39, t40, t41, t42, t43, t44, t45, t46, t47, t48, t49, t50, t51, t52, t53, t54, t55, t56], defers := D } X := by
  intro qc nc cc X hH
  obtain ⟨b0, b1, b2⟩ := k9 qc nc cc X hH
  refine wpAnyIn_ready rbcdefghij (by simp) ?_
  refine AllReadyIn.cons h0 (fun K hK => ?_) ?_
  ·go_simp
   exact hK _ _ (sabcdefghij qc nc cc X hH)
  refine AllReadyIn.cons h10 (fun K hK => ?_) ?_
  ·go_simp
   exact hK _ _ (sbcdefghijk qc nc cc X hH)
  exact AllReadyIn.nil
 have sbcdfghijk : ∀ (qc : Option Addr) (nc cc : Nat) (X : World), H9 qc nc cc X → wpAnyIn Fence.wide 9 Tryd.prog .any ops Q 6 #[false, true, true, true, false, true, true, true, true, true, true, false, false, false, false] { tmps := #[t0, t1, (.pointer (some ⟨N, 0, none⟩)), t3, t4, t5, t6, (.pointer (some ⟨R, 0, none⟩)), (.pointer (some ⟨R, 0, none⟩)), (.pointer (some ⟨R, 0, none⟩)), t10, (.pointer (some ⟨R, 0, none⟩)), (.pointer (some ⟨R, 0, none⟩)), (.pointer (some ⟨R, 1, none⟩)), (.slice qh nh ch), (.slice qc nc cc), (.slice (some ⟨X.heap.size, 0, none⟩) 1 1), t17, t18, t19, t20, t21, t22, t23, t24, t25, t26, t27, t28, t29, t30, t31, t32, t33, t34, t35, t36, t37, t38, t39, t40, t41, t42, t43, t44, t45, t46, t47, t48, t49, t50, t51, t52, t53, t54, t55, t56], defers := D } (X.alloc (.cells #[.slice qc nc cc] 27)) := by
  intro qc nc cc X hH
  obtain ⟨b0, b1, b2⟩ := k9 qc nc cc X hH
  obtain ⟨a0, a1, a2⟩ := k10 qc nc cc X hH
  refine wpAnyIn_ready rbcdfghijk (by simp) ?_
  refine AllReadyIn.cons h0 (fun K hK => ?_) ?_
  ·go_simp
   exact hK _ _ (sabcdfghijk qc nc cc X hH)
  refine AllReadyIn.cons h4 (fun K hK => ?_) ?_
  ·go_simp
   exact hK _ _ (sbcdefghijk qc nc cc X hH)
  exact AllReadyIn.nil
 have sabcdefgh : wpAnyIn Fence.wide 9 Tryd.prog .any ops Q 7 #[true, true, true, true, true, true, true, true, false, false, false, false, false, false, false] { tmps := #[t0, t1, (.pointer (some ⟨N, 0, none⟩)), t3, t4, t5, (.pointer (some ⟨R, 0, none⟩)), (.pointer (some ⟨R, 0, none⟩)), (.pointer (some ⟨R, 0, none⟩)), (.pointer (some ⟨R, 0, none⟩)), (.slice qp np cp), (.pointer (some ⟨R, 0, none⟩)), (.pointer (some ⟨R, 0, none⟩)), (.pointer (some ⟨R, 1, none⟩)), t14, t15, t16, t17, t18, t19, t20, t21, t22, t23, t24, t25, t26, t27, t28, t29, t30, t31, t32, t33, t34, t35, t36, t37, t38, t39, t40, t41, t42, t43, t44, t45, t46, t47, t48, t49, t50, t51, t52, t53, t54, t55, t56], defers := D } W := by
  refine wpAnyIn_ready rabcdefgh (by simp) ?_
  refine AllReadyIn.cons h8 (fun K hK => ?_) ?_
  ·go_simp
   exact hK _ _ (sabcdefghi)
  exact AllReadyIn.nil
 have sabcdfghi : wpAnyIn Fence.wide 9 Tryd.prog .any ops Q 7 #[true, true, true, true, false, true, true, true, true, false, false, false, false, false, false] { tmps := #[t0, t1, (.pointer (some ⟨N, 0, none⟩)), t3, t4, t5, (.pointer (some ⟨R, 0, none⟩)), (.pointer (some ⟨R, 0, none⟩)), (.pointer (some ⟨R, 0, none⟩)), (.pointer (some ⟨R, 0, none⟩)), t10, (.pointer (some ⟨R, 0, none⟩)), (.pointer (some ⟨R, 0, none⟩)), (.pointer (some ⟨R, 1, none⟩)), (.slice qh nh ch), t15, t16, t17, t18, t19, t20, t21, t22, t23, t24, t25, t26, t27, t28, t29, t30, t31, t32, t33, t34, t35, t36, t37, t38, t39, t40, t41, t42, t43, t44, t45, t46, t47, t48, t49, t50, t51, t52, t53, t54, t55, t56], defers := D } W := by
  refine wpAnyIn_ready rabcdfghi (by simp) ?_
  refine AllReadyIn.cons h4 (fun K hK => ?_) ?_
  ·go_simp
   exact hK _ _ (sabcdefghi)
  refine AllReadyIn.cons h9 (fun K hK => ?_) ?_
  ·exact opW_call _ _ _ rfl rfl rfl ent (fun c X => ∃ qc nc cc, c = .slice qc nc cc ∧ H9 qc nc cc X) hcl (fun c X ⟨qc, nc, cc, e, h⟩ => by subst e; exact hK _ _ (sabcdfghij qc nc cc X h))
  exact AllReadyIn.nil
 have sabcfghij : ∀ (qc : Option Addr) (nc cc : Nat) (X : World), H9 qc nc cc X → wpAnyIn Fence.wide 9 Tryd.prog .any ops Q 7 #[true, true, true, false, false, true, true, true, true, true, false, false, false, false, false] { tmps := #[t0, t1, (.pointer (some ⟨N, 0, none⟩)), t3, t4, t5, (.pointer (some ⟨R, 0, none⟩)), (.pointer (some ⟨R, 0, none⟩)), (.pointer (some ⟨R, 0, none⟩)), t9, t10, (.pointer (some ⟨R, 0, none⟩)), (.pointer (some ⟨R, 0, none⟩)), (.pointer (some ⟨R, 1, none⟩)), (.slice qh nh ch), (.slice qc nc cc), t16, t17, t18, t19, t20, t21, t22, t23, t24, t25, t26, t27, t28, t29, t30, t31, t32, t33, t34, t35, t36, t37, t38, t39, t40, t41, t42, t43, t44, t45, t46, t47, t48, t49, t50, t51, t52, t53, t54, t55, t56], defers := D } X := by
  intro qc nc cc X hH
  obtain ⟨b0, b1, b2⟩ := k9 qc nc cc X hH
  refine wpAnyIn_ready rabcfghij (by simp) ?_
  refine AllReadyIn.cons h3 (fun K hK => ?_) ?_
  ·go_simp
   exact hK _ _ (sabcdfghij qc nc cc X hH)
  refine AllReadyIn.cons h10 (fun K hK => ?_) ?_
  ·go_simp
   exact hK _ _ (sabcfghijk qc nc cc X hH)
  exact AllReadyIn.nil
 have sabfghijk : ∀ (qc : Option Addr) (nc cc : Nat) (X : World), H9 qc nc cc X → wpAnyIn Fence.wide 9 Tryd.prog .any ops Q 7 #[true, true, false, false, false, true, true, true, true, true, true, false, false, false, false] { tmps := #[t0, t1, (.pointer (some ⟨N, 0, none⟩)), t3, t4, t5, (.pointer (some ⟨R, 0, none⟩)), (.pointer (some ⟨R, 0, none⟩)), t8, t9, t10, (.pointer (some ⟨R, 0, none⟩)), (.pointer (some ⟨R, 0, none⟩)), (.pointer (some ⟨R, 1, none⟩)), (.slice qh nh ch), (.slice qc nc cc), (.slice (some ⟨X.heap.size, 0, none⟩) 1 1), t17, t18, t19, t20, t21, t22, t23, t24, t25, t26, t27, t28, t29, t30, t31, t32, t33, t34, t35, t36, t37, t38, t39, t40, t41, t42, t43, t44, t45, t46, t47, t48, t49, t50, t51, t52, t53, t54, t55, t56], defers := D } (X.alloc (.cells #[.slice qc nc cc] 27)) := by
  intro qc nc cc X hH
  obtain ⟨b0, b1, b2⟩ := k9 qc nc cc X hH
  obtain ⟨a0, a1, a2⟩ := k10 qc nc cc X hH
  refine wpAnyIn_ready rabfghijk (by simp) ?_
  refine AllReadyIn.cons h2 (fun K hK => ?_) ?_
  ·go_simp
   exact hK _ _ (sabcfghijk qc nc cc X hH)
  exact AllReadyIn.nil
 have sbcdefghi : wpAnyIn Fence.wide 9 Tryd.prog .any ops Q 7 #[false, true, true, true, true, true, true, true, true, false, false, false, false, false, false] { tmps := #[t0, t1, (.pointer (some ⟨N, 0, none⟩)), t3, t4, t5, t6, (.pointer (some ⟨R, 0, none⟩)), (.pointer (some ⟨R, 0, none⟩)), (.pointer (some ⟨R, 0, none⟩)), (.slice qp np cp), (.pointer (some ⟨R, 0, none⟩)), (.pointer (some ⟨R, 0, none⟩)), (.pointer (some ⟨R, 1, none⟩)), (.slice qh nh ch), t15, t16, t17, t18, t19, t20, t21, t22, t23, t24, t25, t26, t27, t28, t29, t30, t31, t32, t33, t34, t35, t36, t37, t38, t39, t40, t41, t42, t43, t44, t45, t46, t47, t48, t49, t50, t51, t52, t53, t54, t55, t56], defers := D } W := by
  refine wpAnyIn_ready rbcdefghi (by simp) ?_
  refine AllReadyIn.cons h0 (fun K hK => ?_) ?_
  ·go_simp
   exact hK _ _ (sabcdefghi)
  refine AllReadyIn.cons h9 (fun K hK => ?_) ?_
  ·exact opW_call _ _ _ rfl rfl rfl ent (fun c X => ∃ qc nc cc, c = .slice qc nc cc ∧ H9 qc nc cc X) hcl (fun c X ⟨qc, nc, cc, e, h⟩ => by subst e; exact hK _ _ (sbcdefghij qc nc cc X h))
  exact AllReadyIn.nil
 have sbcdfghij : ∀ (qc : Option Addr) (nc cc : Nat) (X : World), H9 qc nc cc X → wpAnyIn Fence.wide 9 Tryd.prog .any ops Q 7 #[false, true, true, true, false, true, true, true, true, true, false, false, false, false, false] { tmps := #[t0, t1, (.pointer (some ⟨N, 0, none⟩)), t3, t4, t5, t6, (.pointer (some ⟨R, 0, none⟩)), (.pointer (some ⟨R, 0, none⟩)), (.pointer (some ⟨R, 0, none⟩)), t10, (.pointer (some ⟨R, 0, none⟩)), (.pointer (some ⟨R, 0, none⟩)), (.pointer (some ⟨R, 1, none⟩)), (.slice qh nh ch), (.slice qc nc cc), t16, t17, t18, t19, t20, t21, t22, t23, t24, t25, t26, t27, t28, t29, t30, t31, t32, t33, t34, t35, t36, t37, t38, t39, t40, t41, t42, t43, t44, t45, t46, t47, t48, t49, t50, t51, t52, t53, t54, t55, t56], defers := D } X := by
  intro qc nc cc X hH
  obtain ⟨b0, b1, b2⟩ := k9 qc nc cc X hH
  refine wpAnyIn_ready rbcdfghij (by simp) ?_
  refine AllReadyIn.cons h0 (fun K hK => ?_) ?_
  ·go_simp
   exact hK _ _ (sabcdfghij qc nc cc X hH)
  refine AllReadyIn.cons h4 (fun K hK => ?_) ?_
  ·go_simp
   exact hK _ _ (sbcdefghij qc nc cc X hH)
  refine AllReadyIn.cons h10 (fun K hK => ?_) ?_
  ·go_simp
   exact hK _ _ (sbcdfghijk qc nc cc X hH)
  exact AllReadyIn.nil
 have sbcfghijk : ∀ (qc : Option Addr) (nc cc : Nat) (X : World), H9 qc nc cc X → wpAnyIn Fence.wide 9 Tryd.prog .any ops Q 7 #[false, true, true, false, false, true, true, true, true, true, true, false, false, false, false] { tmps := #[t0, t1, (.pointer (some ⟨N, 0, none⟩)), t3, t4, t5, t6, (.pointer (some ⟨R, 0, none⟩)), (.pointer (some ⟨R, 0, none⟩)), t9, t10, (.pointer (some ⟨R, 0, none⟩)), (.pointer (some ⟨R, 0, none⟩)), (.pointer (some ⟨R, 1, none⟩)), (.slice qh nh ch), (.slice qc nc cc), (.slice (some ⟨X.heap.size, 0, none⟩) 1 1), t17, t18, t19, t20, t21, t22, t23, t24, t25, t26, t27, t28, t29, t30, t31, t32, t33, t34, t35, t36, t37, t38, t39, t40, t41, t42, t43, t44, t45, t46, t47, t48, t49, t50, t51, t52, t53, t54, t55, t56], defers := D } (X.alloc (.cells #[.slice qc nc cc] 27)) := by
  intro qc nc cc X hH
  obtain ⟨b0, b1, b2⟩ := k9 qc nc cc X hH
  obtain ⟨a0, a1, a2⟩ := k10 qc nc cc X hH
  refine wpAnyIn_ready rbcfghijk (by simp) ?_
  refine AllReadyIn.cons h0 (fun K hK => ?_) ?_
  ·go_simp
   exact hK _ _ (sabcfghijk qc nc cc X hH)
  refine AllReadyIn.cons h3 (fun K hK => ?_) ?_
  ·go_simp
   exact hK _ _ (sbcdfghijk qc nc cc X hH)
  exact AllReadyIn.nil
 have sabcdefg : wpAnyIn Fence.wide 9 Tryd.prog .any ops Q 8 #[true, true, true, true, true, true, true, false, false, false, false, false, false, false, false] { tmps := #[t0, t1, (.pointer (some ⟨N, 0, none⟩)), t3, t4, t5, (.pointer (some ⟨R, 0, none⟩)), (.pointer (some ⟨R, 0, none⟩)), (.pointer (some ⟨R, 0, none⟩)), (.pointer (some ⟨R, 0, none⟩)), (.slice qp np cp), (.pointer (some ⟨R, 0, none⟩)), (.pointer (some ⟨R, 0, none⟩)), t13, t14, t15, t16, t17, t18, t19, t20, t21, t22, t23, t24, t25, t26, t27, t28, t29, t30, t31, t32, t33, t34, t35, t36, t37, t38, t39, t40, t41, t42, t43, t44, t45, t46, t47, t48, t49, t50, t51, t52, t53, t54, t55, t56], defers := D } W := by
  refine wpAnyIn_ready rabcdefg (by simp) ?_
  refine AllReadyIn.cons h7 (fun K hK => ?_) ?_
  ·go_simp
   exact hK _ _ (sabcdefgh)
  exact AllReadyIn.nil
 have sabcdfgh : wpAnyIn Fence.wide 9 Tryd.prog .any ops Q 8 #[true, true, true, true, false, true, true, true, false, false, false, false, false, false, false] { tmps := #[t0, t1, (.pointer (some ⟨N, 0, none⟩)), t3, t4, t5, (.pointer (some ⟨R, 0, none⟩)), (.pointer (some ⟨R, 0, none⟩)), (.pointer (some ⟨R, 0, none⟩)), (.pointer (some ⟨R, 0, none⟩)), t10, (.pointer (some ⟨R, 0, none⟩)), (.pointer (some ⟨R, 0, none⟩)), (.pointer (some ⟨R, 1, none⟩)), t14, t15, t16, t17, t18, t19, t20, t21, t22, t23, t24, t25, t26, t27, t28, t29, t30, t31, t32, t33, t34, t35, t36, t37, t38, t39, t40, t41, t42, t43, t44, t45, t46, t47, t48, t49, t50, t51, t52, t53, t54, t55, t56], defers := D } W := by
  refine wpAnyIn_ready rabcdfgh (by simp) ?_
  refine AllReadyIn.cons h4 (fun K hK => ?_) ?_
  ·go_simp
   exact hK _ _ (sabcdefgh)
  refine AllReadyIn.cons h8 (fun K hK => ?_) ?_
  ·go_simp
   exact hK _ _ (sabcdfghi)
  exact AllReadyIn.nil
 have sabcfghi : wpAnyIn Fence.wide 9 Tryd.prog .any ops Q 8 #[true, true, true, false, false, true, true, true, true, false, false, false, false, false, false] { tmps := #[t0, t1, (.pointer (some ⟨N, 0, none⟩)), t3, t4, t5, (.pointer (some ⟨R, 0, none⟩)), (.pointer (some ⟨R, 0, none⟩)), (.pointer (some ⟨R, 0, none⟩)), t9, t10, (.pointer (some ⟨R, 0, none⟩)), (.pointer (some ⟨R, 0, none⟩)), (.pointer (some ⟨R, 1, none⟩)), (.slice qh nh ch), t15, t16, t17, t18, t19, t20, t21, t22, t23, t24, t25, t26, t27, t28, t29, t30, t31, t32, t33, t34, t35, t36, t37, t38, t39, t40, t41, t42, t43, t44, t45, t46, t47, t48, t49, t50, t51, t52, t53, t54, t55, t56], defers := D } W := by
  refine wpAnyIn_ready rabcfghi (by simp) ?_
  refine AllReadyIn.cons h3 (fun K hK => ?_) ?_
  ·go_simp
   exact hK _ _ (sabcdfghi)
  refine AllReadyIn.cons h9 (fun K hK => ?_) ?_
  ·exact opW_call _ _ _ rfl rfl rfl ent (fun c X => ∃ qc nc cc, c = .slice qc nc cc ∧ H9 qc nc cc X) hcl (fun c X ⟨qc, nc, cc, e, h⟩ => by subst e; exact hK _ _ (sabcfghij qc nc cc X h))
  exact AllReadyIn.nil
 have sabfghij : ∀ (qc : Option Addr) (nc cc : Nat) (X : World), H9 qc nc cc X → wpAnyIn Fence.wide 9 Tryd.prog .any ops Q 8 #[true, true, false, false, false, true, true, true, true, true, false, false, false, false, false] { tmps := #[t0, t1, (.pointer (some ⟨N, 0, none⟩)), t3, t4, t5, (.pointer (some ⟨R, 0, none⟩)), (.pointer (some ⟨R, 0, none⟩)), t8, t9, t10, (.pointer (some ⟨R, 0, none⟩)), (.pointer (some ⟨R, 0, none⟩)), (.pointer (some ⟨R, 1, none⟩)), (.slice qh nh ch), (.slice qc nc cc), t16, t17, t18, t19, t20, t21, t22, t23, t24, t25, t26, t27, t28, t29, t30, t31, t32, t33, t34, t35, t36, t37, t38, t39, t40, t41, t42, t43, t44, t45, t46, t47, t48, t49, t50, t51, t52, t53, t54, t55, t56], defers := D } X := by
  intro qc nc cc X hH
  obtain ⟨b0, b1, b2⟩ := k9 qc nc cc X hH
  refine wpAnyIn_ready rabfghij (by simp) ?_
  refine AllReadyIn.cons h2 (fun K hK => ?_) ?_
  ·go_simp
   exact hK _ _ (sabcfghij qc nc cc X hH)
  refine AllReadyIn.cons h10 (fun K hK => ?_) ?_
  ·go_simp
   exact hK _ _ (sabfghijk qc nc cc X hH)
  exact AllReadyIn.nil
 have safghijk : ∀ (qc : Option Addr) (nc cc : Nat) (X : World), H9 qc nc cc X → wpAnyIn Fence.wide 9 Tryd.prog .any ops Q 8 #[true, false, false, false, false, true, true, true, true, true, true, false, false, false, false] { tmps := #[t0, t1, (.pointer (some ⟨N, 0, none⟩)), t3, t4, t5, (.pointer (some ⟨R, 0, none⟩)), t7, t8, t9, t10, (.pointer (some ⟨R, 0, none⟩)), (.pointer (some ⟨R, 0, none⟩)), (.pointer (some ⟨R, 1, none⟩)), (.slice qh nh ch), (.slice qc nc cc), (.slice (some ⟨X.heap.size, 0, none⟩) 1 1), t17, t18, t19, t20, t21, t22, t23, t24, t25, t26, t27, t28, t29, t30, t31, t32, t33, t34, t35, t36, t37, t38, t39, t40, t41, t42, t43, t44, t45, t46, t47, t48, t49, t50, t51, t52, t53, t54, t55, t56], defers := D } (X.alloc (.cells #[.slice qc nc cc] 27)) := by
  intro qc nc cc X hH
  obtain ⟨b0, b1, b2⟩ := k9 qc nc cc X hH
  obtain ⟨a0, a1, a2⟩ := k10 qc nc cc X hH
  refine wpAnyIn_ready rafghijk (by simp) ?_
  refine AllReadyIn.cons h1 (fun K hK => ?_) ?_
  ·go_simp
   exact hK _ _ (sabfghijk qc nc cc X hH)
  exact AllReadyIn.nil
 have sbcdefgh : wpAnyIn Fence.wide 9 Tryd.prog .any ops Q 8 #[false, true, true, true, true, true, true, true, false, false, false, false, false, false, false] { tmps := #[t0, t1, (.pointer (some ⟨N, 0, none⟩)), t3, t4, t5, t6, (.pointer (some ⟨R, 0, none⟩)), (.pointer (some ⟨R, 0, none⟩)), (.pointer (some ⟨R, 0, none⟩)), (.slice qp np cp), (.pointer (some ⟨R, 0, none⟩)), (.pointer (some ⟨R, 0, none⟩)), (.pointer (some ⟨R, 1, none⟩)), t14, t15, t16, t17, t18, t19, t20, t21, t22, t23, t24, t25, t26, t27, t28, t29, t30, t31, t32, t33, t34, t35, t36, t37, t38, t39, t40, t41, t42, t43, t44, t45, t46, t47, t48, t49, t50, t51, t52, t53, t54, t55, t56], defers := D } W := by
  refine wpAnyIn_ready rbcdefgh (by simp) ?_
  refine AllReadyIn.cons h0 (fun K hK => ?_) ?_
  ·go_simp
   exact hK _ _ (sabcdefgh)
  refine AllReadyIn.cons h8 (fun K hK => ?_) ?_
  ·go_simp
   exact hK _ _ (sbcdefghi)
  exact AllReadyIn.nil
 have sbcdfghi : wpAnyIn Fence.wide 9 Tryd.prog .any ops Q 8 #[false, true, true, true, false, true, true, true, true, false, false, false, false, false, false] { tmps := #[t0, t1, (.pointer (some ⟨N, 0, none⟩)), t3, t4, t5, t6, (.pointer (some ⟨R, 0, none⟩)), (.pointer (some ⟨R, 0, none⟩)), (.pointer (some ⟨R, 0, none⟩)), t10, (.pointer (some ⟨R, 0, none⟩)), (.pointer (some ⟨R, 0, none⟩)), (.pointer (some ⟨R, 1, none⟩)), (.slice qh nh ch), t15, t16, t17, t18, t19, t20, t21, t22, t23, t24, t25, t26, t27, t28, t29, t30, t31, t32, t33, t34, t35, t36, t37, t38, t39, t40, t41, t42, t43, t44, t45, t46, t47, t48, t49, t50, t51, t52, t53, t54, t55, t56], defers := D } W := by
  refine wpAnyIn_ready rbcdfghi (by simp) ?_
  refine AllReadyIn.cons h0 (fun K hK => ?_) ?_
  ·go_simp
   exact hK _ _ (sabcdfghi)
  refine AllReadyIn.cons h4 (fun K hK => ?_) ?_
  ·go_simp
   exact hK _ _ (sbcdefghi)
  refine AllReadyIn.cons h9 (fun K hK => ?_) ?_
  ·exact opW_call _ _ _ rfl rfl rfl ent (fun c X => ∃ qc nc cc, c = .slice qc nc cc ∧ H9 qc nc cc X) hcl (fun c X ⟨qc, nc, cc, e, h⟩ => by subst e; exact hK _ _ (sbcdfghij qc nc cc X h))
  exact AllReadyIn.nil
 have sbcfghij : ∀ (qc : Option Addr) (nc cc : Nat) (X : World), H9 qc nc cc X → wpAnyIn Fence.wide 9 Tryd.prog .any ops Q 8 #[false, true, true, false, false, true, true, true, true, true, false, false, false, false, false] { tmps := #[t0, t1, (.pointer (some ⟨N, 0, none⟩)), t3, t4, t5, t6, (.pointer (some ⟨R, 0, none⟩)), (.pointer (some ⟨R, 0, none⟩)), t9, t10, (.pointer (some ⟨R, 0, none⟩)), (.pointer (some ⟨R, 0, none⟩)), (.pointer (some ⟨R, 1, none⟩)), (.slice qh nh ch), (.slice qc nc cc), t16, t17, t18, t19, t20, t21, t22, t23, t24, t25, t26, t27, t28, t29, t30, t31, t32, t33, t34, t35, t36, t37, t38, t39, t40, t41, t42, t43, t44, t45, t46, t47, t48, t49, t50, t51, t52, t53, t54, t55, t56], defers := D } X := by
  intro qc nc cc X hH
  obtain ⟨b0, b1, b2⟩ := k9 qc nc cc X hH
  refine wpAnyIn_ready rbcfghij (by simp) ?_
  refine AllReadyIn.cons h0 (fun K hK => ?_) ?_
  ·go_simp
   exact hK _ _ (sabcfghij qc nc cc X hH)
  refine AllReadyIn.cons h3 (fun K hK => ?_) ?_
  ·go_simp
   exact hK _ _ (sbcdfghij qc nc cc X hH)
  refine AllReadyIn.cons h10 (fun K hK => ?_) ?_
  ·go_simp
   exact hK _ _ (sbcfghijk qc nc cc X hH)
  exact AllReadyIn.nil
 have sbfghijk : ∀ (qc : Option Addr) (nc cc : Nat) (X : World), H9 qc nc cc X → wpAnyIn Fence.wide 9 Tryd.prog .any ops Q 8 #[false, true, false, false, false, true, true, true, true, true, true, false, false, false, false] { tmps := #[t0, t1, (.pointer (some ⟨N, 0, none⟩)), t3, t4, t5, t6, (.pointer (some ⟨R, 0, none⟩)), t8, t9, t10, (.pointer (some ⟨R, 0, none⟩)), (.pointer (some ⟨R, 0, none⟩)), (.pointer (some ⟨R, 1, none⟩)), (.slice qh nh ch), (.slice qc nc cc), (.slice (some ⟨X.heap.size, 0, none⟩) 1 1), t17, t18, t19, t20, t21, t22, t23, t24, t25, t26, t27, t28, t29, t30, t31, t32, t33, t34, t35, t36, t37, t38, t39, t40, t41, t42, t43, t44, t45, t46, t47, t48, t49, t50, t51, t52, t53, t54, t55, t56], defers := D } (X.alloc (.cells #[.slice qc nc cc] 27)) := by
  intro qc nc cc X hH
  obtain ⟨b0, b1, b2⟩ := k9 qc nc cc X hH
  obtain ⟨a0, a1, a2⟩ := k10 qc nc cc X hH
  refine wpAnyIn_ready rbfghijk (by simp) ?_
  refine AllReadyIn.cons h0 (fun K hK => ?_) ?_
  ·go_simp
   exact hK _ _ (sabfghijk qc nc cc X hH)
  refine AllReadyIn.cons h2 (fun K hK => ?_) ?_
  ·go_simp
   exact hK _ _ (sbcfghijk qc nc cc X hH)
  exact AllReadyIn.nil
 have sabcdef : wpAnyIn Fence.wide 9 Tryd.prog .any ops Q 9 #[true, true, true, true, true, true, false, false, false, false, false, false, false, false, false] { tmps := #[t0, t1, (.pointer (some ⟨N, 0, none⟩)), t3, t4, t5, (.pointer (some ⟨R, 0, none⟩)), (.pointer (some ⟨R, 0, none⟩)), (.pointer (some ⟨R, 0, none⟩)), (.pointer (some ⟨R, 0, none⟩)), (.slice qp np cp), (.pointer (some ⟨R, 0, none⟩)), t12, t13, t14, t15, t16, t17, t18, t19, t20, t21, t22, t23, t24, t25, t26, t27, t28, t29, t30, t31, t32, t33, t34, t35, t36, t37, t38, t39, t40, t41, t42, t43, t44, t45, t46, t47, t48, t49, t50, t51, t52, t53, t54, t55, t56], defers := D } W := by
  refine wpAnyIn_ready rabcdef (by simp) ?_
  refine AllReadyIn.cons h6 (fun K hK => ?_) ?_
  ·go_simp
   exact hK _ _ (sabcdefg)
  exact AllReadyIn.nil
 have sabcdfg : wpAnyIn Fence.wide 9 Tryd.prog .any ops Q 9 #[true, true, true, true, false, true, true, false, false, false, false, false, false, false, false] { tmps := #[t0, t1, (.pointer (some ⟨N, 0, none⟩)), t3, t4, t5, (.pointer (some ⟨R, 0, none⟩)), (.pointer (some ⟨R, 0, none⟩)), (.pointer (some ⟨R, 0, none⟩)), (.pointer (some ⟨R, 0, none⟩)), t10, (.pointer (some ⟨R, 0, none⟩)), (.pointer (some ⟨R, 0, none⟩)), t13, t14, t15, t16, t17, t18, t19, t20, t21, t22, t23, t24, t25, t26, t27, t28, t29, t30, t31, t32, t33, t34, t35, t36, t37, t38, t39, t40, t41, t42, t43, t44, t45, t46, t47, t48, t49, t50, t51, t52, t53, t54, t55, t56], defers := D } W := by
  refine wpAnyIn_ready rabcdfg (by simp) ?_
  refine AllReadyIn.cons h4 (fun K hK => ?_) ?_
  ·go_simp
   exact hK _ _ (sabcdefg)
  refine AllReadyIn.cons h7 (fun K hK => ?_) ?_
  ·go_simp
   exact hK _ _ (sabcdfgh)
  exact AllReadyIn.nil
 have sabcfgh : wpAnyIn Fence.wide 9 Tryd.prog .any ops Q 9 #[true, true, true, false, false, true, true, true, false, false, false, false, false, false, false] { tmps := #[t0, t1, (.pointer (some ⟨N, 0, none⟩)), t3, t4, t5, (.pointer (some ⟨R, 0, none⟩)), (.pointer (some ⟨R, 0, none⟩)), (.pointer (some ⟨R, 0, none⟩)), t9, t10, (.pointer (some ⟨R, 0, none⟩)), (.pointer (some ⟨R, 0, none⟩)), (.pointer (some ⟨R, 1, none⟩)), t14, t15, t16, t17, t18, t19, t20, t21, t22, t23, t24, t25, t26, t27, t28, t29, t30, t31, t32, t33, t34, t35, t36, t37, t38, t39, t40, t41, t42, t43, t44, t45, t46, t47, t48, t49, t50, t51, t52, t53, t54, t55, t56], defers := D } W := by
  refine wpAnyIn_ready rabcfgh (by simp) ?_
  refine AllReadyIn.cons h3 (fun K hK => ?_) ?_
  ·go_simp
   exact hK _ _ (sabcdfgh)
  refine AllReadyIn.cons h8 (fun K hK => ?_) ?_
  ·go_simp
   exact hK _ _ (sabcfghi)
  exact AllReadyIn.nil
 have sabfghi : wpAnyIn Fence.wide 9 Tryd.prog .any ops Q 9 #[true, true, false, false, false, true, true, true, true, false, false, false, false, false, false] { tmps := #[t0, t1, (.pointer (some ⟨N, 0, none⟩)), t3, t4, t5, (.pointer (some ⟨R, 0, none⟩)), (.pointer (some ⟨R, 0, none⟩)), t8, t9, t10, (.pointer (some ⟨R, 0, none⟩)), (.pointer (some ⟨R, 0, none⟩)), (.pointer (some ⟨R, 1, none⟩)), (.slice qh nh ch), t15, t16, t17, t18, t19, t20, t21, t22, t23, t24, t25, t26, t27, t28, t29, t30, t31, t32, t33, t34, t35, t36, t37, t38, t39, t40, t41, t42, t43, t44, t45, t46, t47, t48, t49, t50, t51, t52, t53, t54, t55, t56], defers := D } W := by
  refine wpAnyIn_ready rabfghi (by simp) ?_
  refine AllReadyIn.cons h2 (fun K hK => ?_) ?_
  ·go_simp
   exact hK _ _ (sabcfghi)
  refine AllReadyIn.cons h9 (fun K hK => ?_) ?_
  ·exact opW_call _ _ _ rfl rfl rfl ent (fun c X => ∃ qc nc cc, c = .slice qc nc cc ∧ H9 qc nc cc X) hcl (fun c X ⟨qc, nc, cc, e, h⟩ => by subst e; exact hK _ _ (sabfghij qc nc cc X h))
  exact AllReadyIn.nil
 have safghij : ∀ (qc : Option Addr) (nc cc : Nat) (X : World), H9 qc nc cc X → wpAnyIn Fence.wide 9 Tryd.prog .any ops Q 9 #[true, false, false, false, false, true, true, true, true, true, false, false, false, false, false] { tmps := #[t0, t1, (.pointer (some ⟨N, 0, none⟩)), t3, t4, t5, (.pointer (some ⟨R, 0, none⟩)), t7, t8, t9, t10, (.pointer (some ⟨R, 0, none⟩)), (.pointer (some ⟨R, 0, none⟩)), (.pointer (some ⟨R, 1, none⟩)), (.slice qh nh ch), (.slice qc nc cc), t16, t17, t18, t19, t20, t21, t22, t23, t24, t25, t26, t27, t28, t29, t30, t31, t32, t33, t34, t35, t36, t37, t38, t39, t40, t41, t42, t43, t44, t45, t46, t47, t48, t49, t50, t51, t52, t53, t54, t55, t56], defers := D } X := by
  intro qc nc cc X hH
  obtain ⟨b0, b1, b2⟩ := k9 qc nc cc X hH
  refine wpAnyIn_ready rafghij (by simp) ?_
  refine AllReadyIn.cons h1 (fun K hK => ?_) ?_
  ·go_simp
   exact hK _ _ (sabfghij qc nc cc X hH)
  refine AllReadyIn.cons h10 (fun K hK => ?_) ?_
  ·go_simp
   exact hK _ _ (safghijk qc nc cc X hH)
  exact AllReadyIn.nil
 have sbcdefg : wpAnyIn Fence.wide 9 Tryd.prog .any ops Q 9 #[false, true, true, true, true, true, true, false, false, false, false, false, false, false, false] { tmps := #[t0, t1, (.pointer (some ⟨N, 0, none⟩)), t3, t4, t5, t6, (.pointer (some ⟨R, 0, none⟩)), (.pointer (some ⟨R, 0, none⟩)), (.pointer (some ⟨R, 0, none⟩)), (.slice qp np cp), (.pointer (some ⟨R, 0, none⟩)), (.pointer (some ⟨R, 0, none⟩)), t13, t14, t15, t16, t17, t18, t19, t20, t21, t22, t23, t24, t25, t26, t27, t28, t29, t30, t31, t32, t33, t34, t35, t36, t37, t38, t39, t40, t41, t42, t43, t44, t45, t46, t47, t48, t49, t50, t51, t52, t53, t54, t55, t56], defers := D } W := by
  refine wpAnyIn_ready rbcdefg (by simp) ?_
  refine AllReadyIn.cons h0 (fun K hK => ?_) ?_
  ·go_simp
   exact hK _ _ (sabcdefg)
  refine AllReadyIn.cons h7 (fun K hK => ?_) ?_
  ·go_simp
   exact hK _ _ (sbcdefgh)
  exact AllReadyIn.nil
 have sbcdfgh : wpAnyIn Fence.wide 9 Tryd.prog .any ops Q 9 #[false, true, true, true, false, true, true, true, false, false, false, false, false, false, false] { tmps := #[t0, t1, (.pointer (some ⟨N, 0, none⟩)), t3, t4, t5, t6, (.pointer (some ⟨R, 0, none⟩)), (.pointer (some ⟨R, 0, none⟩)), (.pointer (some ⟨R, 0, none⟩)), t10, (.pointer (some ⟨R, 0, none⟩)), (.pointer (some ⟨R, 0, none⟩)), (.pointer (some ⟨R, 1, none⟩)), t14, t15, t16, t17, t18, t19, t20, t21, t22, t23, t24, t25, t26, t27, t28, t29, t30, t31, t32, t33, t34, t35, t36, t37, t38, t39, t40, t41, t42, t43, t44, t45, t46, t47, t48, t49, t50, t51, t52, t53, t54, t55, t56], defers := D } W := by
  refine wpAnyIn_ready rbcdfgh (by simp) ?_
  refine AllReadyIn.cons h0 (fun K hK => ?_) ?_
  ·go_simp
   exact hK _ _ (sabcdfgh)
  refine AllReadyIn.cons h4 (fun K hK => ?_) ?_
  ·go_simp
   exact hK _ _ (sbcdefgh)
  refine AllReadyIn.cons h8 (fun K hK => ?_) ?_
  ·go_simp
   exact hK _ _ (sbcdfghi)
  exact AllReadyIn.nil
 have sbcfghi : wpAnyIn Fence.wide 9 Tryd.prog .any ops Q 9 #[false, true, true, false, false, true, true, true, true, false, false, false, false, false, false] { tmps := #[t0, t1, (.pointer (some ⟨N, 0, none⟩)), t3, t4, t5, t6, (.pointer (some ⟨R, 0, none⟩)), (.pointer (some ⟨R, 0, none⟩)), t9, t10, (.pointer (some ⟨R, 0, none⟩)), (.pointer (some ⟨R, 0, none⟩)), (.pointer (some ⟨R, 1, none⟩)), (.slice qh nh ch), t15, t16, t17, t18, t19, t20, t21, t22, t23, t24, t25, t26, t27, t28, t29, t30, t31, t32, t33, t34, t35, t36, t37, t38, t39, t40, t41, t42, t43, t44, t45, t46, t47, t48, t49, t50, t51, t52, t53, t54, t55, t56], defers := D } W := by
  refine wpAnyIn_ready rbcfghi (by simp) ?_
  refine AllReadyIn.cons h0 (fun K hK => ?_) ?_
  ·go_simp
   exact hK _ _ (sabcfghi)
  refine AllReadyIn.cons h3 (fun K hK => ?_) ?_
  ·go_simp
   exact hK _ _ (sbcdfghi)
  refine AllReadyIn.cons h9 (fun K hK => ?_) ?_
  ·exact opW_call _ _ _ rfl rfl rfl ent (fun c X => ∃ qc nc cc, c = .slice qc nc cc ∧ H9 qc nc cc X) hcl (fun c X ⟨qc, nc, cc, e, h⟩ => by subst e; exact hK _ _ (sbcfghij qc nc cc X h))
  exact AllReadyIn.nil
 have sbfghij : ∀ (qc : Option Addr) (nc cc : Nat) (X : World), H9 qc nc cc X → wpAnyIn Fence.wide 9 Tryd.prog .any ops Q 9 #[false, true, false, false, false, true, true, true, true, true, false, false, false, false, false] { tmps := #[t0, t1, (.pointer (some ⟨N, 0, none⟩)), t3, t4, t5, t6, (.pointer (some ⟨R, 0, none⟩)), t8, t9, t10, (.pointer (some ⟨R, 0, none⟩)), (.pointer (some ⟨R, 0, none⟩)), (.pointer (some ⟨R, 1, none⟩)), (.slice qh nh ch), (.slice qc nc cc), t16, t17, t18, t19, t20, t21, t22, t23, t24, t25, t26, t27, t28, t29, t30, t31, t32, t33, t34, t35, t36, t37, t38, t39, t40, t41, t42, t43, t44, t45, t46, t47, t48, t49, t50, t51, t52, t53, t54, t55, t56], defers := D } X := by
  intro qc nc cc X hH
  obtain ⟨b0, b1, b2⟩ := k9 qc nc cc X hH
  refine wpAnyIn_ready rbfghij (by simp) ?_
  refine AllReadyIn.cons h0 (fun K hK => ?_) ?_
  ·go_simp
   exact hK _ _ (sabfghij qc nc cc X hH)
  refine AllReadyIn.cons h2 (fun K hK => ?_) ?_
  ·go_simp
   exact hK _ _ (sbcfghij qc nc cc X hH)
  refine AllReadyIn.cons h10 (fun K hK => ?_) ?_
  ·go_simp
   exact hK _ _ (sbfghijk qc nc cc X hH)
  exact AllReadyIn.nil
 have sfghijk : ∀ (qc : Option Addr) (nc cc : Nat) (X : World), H9 qc nc cc X → wpAnyIn Fence.wide 9 Tryd.prog .any ops Q 9 #[false, false, false, false, false, true, true, true, true, true, true, false, false, false, false] { tmps := #[t0, t1, (.pointer (some ⟨N, 0, none⟩)), t3, t4, t5, t6, t7, t8, t9, t10, (.pointer (some ⟨R, 0, none⟩)), (.pointer (some ⟨R, 0, none⟩)), (.pointer (some ⟨R, 1, none⟩)), (.slice qh nh ch), (.slice qc nc cc), (.slice (some ⟨X.heap.size, 0, none⟩) 1 1), t17, t18, t19, t20, t21, t22, t23, t24, t25, t26, t27, t28, t29, t30, t31, t32, t33, t34, t35, t36, t37, t38, t39, t40, t41, t42, t43, t44, t45, t46, t47, t48, t49, t50, t51, t52, t53, t54, t55, t56], defers := D } (X.alloc (.cells #[.slice qc nc cc] 27)) := by
  intro qc nc cc X hH
  obtain ⟨b0, b1, b2⟩ := k9 qc nc cc X hH
  obtain ⟨a0, a1, a2⟩ := k10 qc nc cc X hH
  refine wpAnyIn_ready rfghijk (by simp) ?_
  refine AllReadyIn.cons h0 (fun K hK => ?_) ?_
  ·go_simp
   exact hK _ _ (safghijk qc nc cc X hH)
  refine AllReadyIn.cons h1 (fun K hK => ?_) ?_
  ·go_simp
   exact hK _ _ (sbfghijk qc nc cc X hH)
  exact AllReadyIn.nil
 have sabcde : wpAnyIn Fence.wide 9 Tryd.prog .any ops Q 10 #[true, true, true, true, true, false, false, false, false, false, false, false, false, false, false] { tmps := #[t0, t1, (.pointer (some ⟨N, 0, none⟩)), t3, t4, t5, (.pointer (some ⟨R, 0, none⟩)), (.pointer (some ⟨R, 0, none⟩)), (.pointer (some ⟨R, 0, none⟩)), (.pointer (some ⟨R, 0, none⟩)), (.slice qp np cp), t11, t12, t13, t14, t15, t16, t17, t18, t19, t20, t21, t22, t23, t24, t25, t26, t27, t28, t29, t30, t31, t32, t33, t34, t35, t36, t37, t38, t39, t40, t41, t42, t43, t44, t45, t46, t47, t48, t49, t50, t51, t52, t53, t54, t55, t56], defers := D } W := by
  refine wpAnyIn_ready rabcde (by simp) ?_
  refine AllReadyIn.cons h5 (fun K hK => ?_) ?_
  ·go_simp
   exact hK _ _ (sabcdef)
  exact AllReadyIn.nil
 have sabcdf : wpAnyIn Fence.wide 9 Tryd.prog .any ops Q 10 #[true, true, true, true, false, true, false, false, false, false, false, false, false, false, false] { tmps := #[t0, t1, (.pointer (some ⟨N, 0, none⟩)), t3, t4, t5, (.pointer (some ⟨R, 0, none⟩)), (.pointer (some ⟨R, 0, none⟩)), (.pointer (some ⟨R, 0, none⟩)), (.pointer (some ⟨R, 0, none⟩)), t10, (.pointer (some ⟨R, 0, none⟩)), t12, t13, t14, t15, t16, t17, t18, t19, t20, t21, t22, t23, t24, t25, t26, t27, t28, t29, t30, t31, t32, t33, t34, t35, t36, t37, t38, t39, t40, t41, t42, t43, t44, t45, t46, t47, t48, t49, t50, t51, t52, t53, t54, t55, t56], defers := D } W := by
  refine wpAnyIn_ready rabcdf (by simp) ?_
  refine AllReadyIn.cons h4 (fun K hK => ?_) ?_
  ·go_simp
   exact hK _ _ (sabcdef)
  refine AllReadyIn.cons h6 (fun K hK => ?_) ?_
  ·go_simp
   exact hK _ _ (sabcdfg)
  exact AllReadyIn.nil
 have sabcfg : wpAnyIn Fence.wide 9 Tryd.prog .any ops Q 10 #[true, true, true, false, false, true, true, false, false, false, false, false, false, false, false] { tmps := #[t0, t1, (.pointer (some ⟨N, 0, none⟩)), t3, t4, t5, (.pointer (some ⟨R, 0, none⟩)), (.pointer (some ⟨R, 0, none⟩)), (.pointer (some ⟨R, 0, none⟩)), t9, t10, (.pointer (some ⟨R, 0, none⟩)), (.pointer (some ⟨R, 0, none⟩)), t13, t14, t15, t16, t17, t18, t19, t20, t21, t22, t23, t24, t25, t26, t27, t28, t29, t30, t31, t32, t33, t34, t35, t36, t37, t38, t39, t40, t41, t42, t43, t44, t45, t46, t47, t48, t49, t50, t51, t52, t53, t54, t55, t56], defers := D } W := by
  refine wpAnyIn_ready rabcfg (by simp) ?_
  refine AllReadyIn.cons h3 (fun K hK => ?_) ?_
  ·go_simp
   exact hK _ _ (sabcdfg)
  refine AllReadyIn.cons h7 (fun K hK => ?_) ?_
  ·go_simp
   exact hK _ _ (sabcfgh)
  exact AllReadyIn.nil
 have sabfgh : wpAnyIn Fence.wide 9 Tryd.prog .any ops Q 10 #[true, true, false, false, false, true, true, true, false, false, false, false, false, false, false] { tmps := #[t0, t1, (.pointer (some ⟨N, 0, none⟩)), t3, t4, t5, (.pointer (some ⟨R, 0, none⟩)), (.pointer (some ⟨R, 0, none⟩)), t8, t9, t10, (.pointer (some ⟨R, 0, none⟩)), (.pointer (some ⟨R, 0, none⟩)), (.pointer (some ⟨R, 1, none⟩)), t14, t15, t16, t17, t18, t19, t20, t21, t22, t23, t24, t25, t26, t27, t28, t29, t30, t31, t32, t33, t34, t35, t36, t37, t38, t39, t40, t41, t42, t43, t44, t45, t46, t47, t48, t49, t50, t51, t52, t53, t54, t55, t56], defers := D } W := by
  refine wpAnyIn_ready rabfgh (by simp) ?_
  refine AllReadyIn.cons h2 (fun K hK => ?_) ?_
  ·go_simp
   exact hK _ _ (sabcfgh)
  refine AllReadyIn.cons h8 (fun K hK => ?_) ?_
  ·go_simp
   exact hK _ _ (sabfghi)
  exact AllReadyIn.nil
 have safghi : wpAnyIn Fence.wide 9 Tryd.prog .any ops Q 10 #[true, false, false, false, false, true, true, true, true, false, false, false, false, false, false] { tmps := #[t0, t1, (.pointer (some ⟨N, 0, none⟩)), t3, t4, t5, (.pointer (some ⟨R, 0, none⟩)), t7, t8, t9, t10, (.pointer (some ⟨R, 0, none⟩)), (.pointer (some ⟨R, 0, none⟩)), (.pointer (some ⟨R, 1, none⟩)), (.slice qh nh ch), t15, t16, t17, t18, t19, t20, t21, t22, t23, t24, t25, t26, t27, t28, t29, t30, t31, t32, t33, t34, t35, t36, t37, t38, t39, t40, t41, t42, t43, t44, t45, t46, t47, t48, t49, t50, t51, t52, t53, t54, t55, t56], defers := D } W := by
  refine wpAnyIn_ready rafghi (by simp) ?_
  refine AllReadyIn.cons h1 (fun K hK => ?_) ?_
  ·go_simp
   exact hK _ _ (sabfghi)
  refine AllReadyIn.cons h9 (fun K hK => ?_) ?_
  ·exact opW_call _ _ _ rfl rfl rfl ent (fun c X => ∃ qc nc cc, c = .slice qc nc cc ∧ H9 qc nc cc X) hcl (fun c X ⟨qc, nc, cc, e, h⟩ => by subst e; exact hK _ _ (safghij qc nc cc X h))
  exact AllReadyIn.nil
 have sbcdef : wpAnyIn Fence.wide 9 Tryd.prog .any ops Q 10 #[false, true, true, true, true, true, false, false, false, false, false, false, false, false, false] { tmps := #[t0, t1, (.pointer (some ⟨N, 0, none⟩)), t3, t4, t5, t6, (.pointer (some ⟨R, 0, none⟩)), (.pointer (some ⟨R, 0, none⟩)), (.pointer (some ⟨R, 0, none⟩)), (.slice qp np cp), (.pointer (some ⟨R, 0, none⟩)), t12, t13, t14, t15, t16, t17, t18, t19, t20, t21, t22, t23, t24, t25, t26, t27, t28, t29, t30, t31, t32, t33, t34, t35, t36, t37, t38, t39, t40, t41, t42, t43, t44, t45, t46, t47, t48, t49, t50, t51, t52, t53, t54, t55, t56], defers := D } W := by
  refine wpAnyIn_ready rbcdef (by simp) ?_
  refine AllReadyIn.cons h0 (fun K hK => ?_) ?_
  ·go_simp
   exact hK _ _ (sabcdef)
  refine AllReadyIn.cons h6 (fun K hK => ?_) ?_
  ·go_simp
   exact hK _ _ (sbcdefg)
  exact AllReadyIn.nil
 have sbcdfg : wpAnyIn Fence.wide 9 Tryd.prog .any ops Q 10 #[false, true, true, true, false, true, true, false, false, false, false, false, false, false, false] { tmps := #[t0, t1, (.pointer (some ⟨N, 0, none⟩)), t3, t4, t5, t6, (.pointer (some ⟨R, 0, none⟩)), (.pointer (some ⟨R, 0, none⟩)), (.pointer (some ⟨R, 0, none⟩)), t10, (.pointer (some ⟨R, 0, none⟩)), (.pointer (some ⟨R, 0, none⟩)), t13, t14, t15, t16, t17, t18, t19, t20, t21, t22, t23, t24, t25, t26, t27, t28, t29, t30, t31, t32, t33, t34, t35, t36, t37, t38, t39, t40, t41, t42, t43, t44, t45, t46, t47, t48, t49, t50, t51, t52, t53, t54, t55, t56], defers := D } W := by
  refine wpAnyIn_ready rbcdfg (by simp) ?_
  refine AllReadyIn.cons h0 (fun K hK => ?_) ?_
  ·go_simp
   exact hK _ _ (sabcdfg)
  refine AllReadyIn.cons h4 (fun K hK => ?_) ?_
  ·go_simp
   exact hK _ _ (sbcdefg)
  refine AllReadyIn.cons h7 (fun K hK => ?_) ?_
  ·go_simp
   exact hK _ _ (sbcdfgh)
  exact AllReadyIn.nil
 have sbcfgh : wpAnyIn Fence.wide 9 Tryd.prog .any ops Q 10 #[false, true, true, false, false, true, true, true, false, false, false, false, false, false, false] { tmps := #[t0, t1, (.pointer (some ⟨N, 0, none⟩)), t3, t4, t5, t6, (.pointer (some ⟨R, 0, none⟩)), (.pointer (some ⟨R, 0, none⟩)), t9, t10, (.pointer (some ⟨R, 0, none⟩)), (.pointer (some ⟨R, 0, none⟩)), (.pointer (some ⟨R, 1, none⟩)), t14, t15, t16, t17, t18, t19, t20, t21, t22, t23, t24, t25, t26, t27, t28, t29, t30, t31, t32, t33, t34, t35, t36, t37, t38, t39, t40, t41, t42, t43, t44, t45, t46, t47, t48, t49, t50, t51, t52, t53, t54, t55, t56], defers := D } W := by
  refine wpAnyIn_ready rbcfgh (by simp) ?_
  refine AllReadyIn.cons h0 (fun K hK => ?_) ?_
  ·go_simp
   exact hK _ _ (sabcfgh)
  refine AllReadyIn.cons h3 (fun K hK => ?_) ?_
  ·go_simp
   exact hK _ _ (sbcdfgh)
  refine AllReadyIn.cons h8 (fun K hK => ?_) ?_
  ·go_simp
   exact hK _ _ (sbcfghi)
  exact AllReadyIn.nil
 have sbfghi : wpAnyIn Fence.wide 9 Tryd.prog .any ops Q 10 #[false, true, false, false, false, true, true, true, true, false, false, false, false, false, false] { tmps := #[t0, t1, (.pointer (some ⟨N, 0, none⟩)), t3, t4, t5, t6, (.pointer (some ⟨R, 0, none⟩)), t8, t9, t10, (.pointer (some ⟨R, 0, none⟩)), (.pointer (some ⟨R, 0, none⟩)), (.pointer (some ⟨R, 1, none⟩)), (.slice qh nh ch), t15, t16, t17, t18, t19, t20, t21, t22, t23, t24, t25, t26, t27, t28, t29, t30, t31, t32, t33, t34, t35, t36, t37, t38, t39, t40, t41, t42, t43, t44, t45, t46, t47, t48, t49, t50, t51, t52, t53, t54, t55, t56], defers := D } W := by
  refine wpAnyIn_ready rbfghi (by simp) ?_
  refine AllReadyIn.cons h0 (fun K hK => ?_) ?_
  ·go_simp
   exact hK _ _ (sabfghi)
  refine AllReadyIn.cons h2 (fun K hK => ?_) ?_
  ·go_simp
   exact hK _ _ (sbcfghi)
  refine AllReadyIn.cons h9 (fun K hK => ?_) ?_
  ·exact opW_call _ _ _ rfl rfl rfl ent (fun c X => ∃ qc nc cc, c = .slice qc nc cc ∧ H9 qc nc cc X) hcl (fun c X ⟨qc, nc, cc, e, h⟩ => by subst e; exact hK _ _ (sbfghij qc nc cc X h))
  exact AllReadyIn.nil
 have sfghij : ∀ (qc : Option Addr) (nc cc : Nat) (X : World), H9 qc nc cc X → wpAnyIn Fence.wide 9 Tryd.prog .any ops Q 10 #[false, false, false, false, false, true, true, true, true, true, false, false, false, false, false] { tmps := #[t0, t1, (.pointer (some ⟨N, 0, none⟩)), t3, t4, t5, t6, t7, t8, t9, t10, (.pointer (some ⟨R, 0, none⟩)), (.pointer (some ⟨R, 0, none⟩)), (.pointer (some ⟨R, 1, none⟩)), (.slice qh nh ch), (.slice qc nc cc), t16, t17, t18, t19, t20, t21, t22, t23, t24, t25, t26, t27, t28, t29, t30, t31, t32, t33, t34, t35, t36, t37, t38, t39, t40, t41, t42, t43, t44, t45, t46, t47, t48, t49, t50, t51, t52, t53, t54, t55, t56], defers := D } X := by
  intro qc nc cc X hH
  obtain ⟨b0, b1, b2⟩ := k9 qc nc cc X hH
  refine wpAnyIn_ready rfghij (by simp) ?_
  refine AllReadyIn.cons h0 (fun K hK => ?_) ?_
  ·go_simp
   exact hK _ _ (safghij qc nc cc X hH)
  refine AllReadyIn.cons h1 (fun K hK => ?_) ?_
  ·go_simp
   exact hK _ _ (sbfghij qc nc cc X hH)
  refine AllReadyIn.cons h10 (fun K hK => ?_) ?_
  ·go_simp
   exact hK _ _ (sfghijk qc nc cc X hH)
  exact AllReadyIn.nil
 have sabcd : wpAnyIn Fence.wide 9 Tryd.prog .any ops Q 11 #[true, true, true, true, false, false, false, false, false, false, false, false, false, false, false] { tmps := #[t0, t1, (.pointer (some ⟨N, 0, none⟩)), t3, t4, t5, (.pointer (some ⟨R, 0, none⟩)), (.pointer (some ⟨R, 0, none⟩)), (.pointer (some ⟨R, 0, none⟩)), (.pointer (some ⟨R, 0, none⟩)), t10, t11, t12, t13, t14, t15, t16, t17, t18, t19, t20, t21, t22, t23, t24, t25, t26, t27, t28, t29, t30, t31, t32, t33, t34, t35, t36, t37, t38, t39, t40, t41, t42, t43, t44, t45, t46, t47, t48, t49, t50, t51, t52, t53, t54, t55, t56], defers := D } W := by
  refine wpAnyIn_ready rabcd (by simp) ?_
  refine AllReadyIn.cons h4 (fun K hK => ?_) ?_
  ·go_simp
   exact hK _ _ (sabcde)
  refine AllReadyIn.cons h5 (fun K hK => ?_) ?_
  ·go_simp
   exact hK _ _ (sabcdf)
  exact AllReadyIn.nil
 have sabcf : wpAnyIn Fence.wide 9 Tryd.prog .any ops Q 11 #[true, true, true, false, false, true, false, false, false, false, false, false, false, false, false] { tmps := #[t0, t1, (.pointer (some ⟨N, 0, none⟩)), t3, t4, t5, (.pointer (some ⟨R, 0, none⟩)), (.pointer (some ⟨R, 0, none⟩)), (.pointer (some ⟨R, 0, none⟩)), t9, t10, (.pointer (some ⟨R, 0, none⟩)), t12, t13, t14, t15, t16, t17, t18, t19, t20, t21, t22, t23, t24, t25, t26, t27, t28, t29, t30, t31, t32, t33, t34, t35, t36, t37, t38, t39, t40, t41, t42, t43, t44, t45, t46, t47, t48, t49, t50, t51, t52, t53, t54, t55, t56], defers := D } W := by
  refine wpAnyIn_ready rabcf (by simp) ?_
  refine AllReadyIn.cons h3 (fun K hK => ?_) ?_
  ·go_simp
   exact hK _ _ (sabcdf)
  refine AllReadyIn.cons h6 (fun K hK => ?_) ?_
  ·go_simp
   exact hK _ _ (sabcfg)
  exact AllReadyIn.nil
 have sabfg : wpAnyIn Fence.wide 9 Tryd.prog .any ops Q 11 #[true, true, false, false, false, true, true, false, false, false, false, false, false, false, false] { tmps := #[t0, t1, (.pointer (some ⟨N, 0, none⟩)), t3, t4, t5, (.pointer (some ⟨R, 0, none⟩)), (.pointer (some ⟨R, 0, none⟩)), t8, t9, t10, (.pointer (some ⟨R, 0, none⟩)), (.pointer (some ⟨R, 0, none⟩)), t13, t14, t15, t16, t17, t18, t19, t20, t21, t22, t23, t24, t25, t26, t27, t28, t29, t30, t31, t32, t33, t34, t35, t36, t37, t38, t39, t40, t41, t42, t43, t44, t45, t46, t47, t48, t49, t50, t51, t52, t53, t54, t55, t56], defers := D } W := by
  refine wpAnyIn_ready rabfg (by simp) ?_
  refine AllReadyIn.cons h2 (fun K hK => ?_) ?_
  ·go_simp
   exact hK _ _ (sabcfg)
  refine AllReadyIn.cons h7 (fun K hK => ?_) ?_
  ·go_simp
   exact hK _ _ (sabfgh)
  exact AllReadyIn.nil
 have safgh : wpAnyIn Fence.wide 9 Tryd.prog .any ops Q 11 #[true, false, false, false, false, true, true, true, false, false, false, false, false, false, false] { tmps := #[t0, t1, (.pointer (some ⟨N, 0, none⟩)), t3, t4, t5, (.pointer (some ⟨R, 0, none⟩)), t7, t8, t9, t10, (.pointer (some ⟨R, 0, none⟩)), (.pointer (some ⟨R, 0, none⟩)), (.pointer (some ⟨R, 1, none⟩)), t14, t15, t16, t17, t18, t19, t20, t21, t22, t23, t24, t25, t26, t27, t28, t29, t30, t31, t32, t33, t34, t35, t36, t37, t38, t39, t40, t41, t42, t43, t44, t45, t46, t47, t48, t49, t50, t51, t52, t53, t54, t55, t56], defers := D } W := by
  refine wpAnyIn_ready rafgh (by simp) ?_
  refine AllReadyIn.cons h1 (fun K hK => ?_) ?_
  ·go_simp
   exact hK _ _ (sabfgh)
  refine AllReadyIn.cons h8 (fun K hK => ?_) ?_
  ·go_simp
   exact hK _ _ (safghi)
  exact AllReadyIn.nil
 have sbcde : wpAnyIn Fence.wide 9 Tryd.prog .any ops Q 11 #[false, true, true, true, true, false, false, false, false, false, false, false, false, false, false] { tmps := #[t0, t1, (.pointer (some ⟨N, 0, none⟩)), t3, t4, t5, t6, (.pointer (some ⟨R, 0, none⟩)), (.pointer (some ⟨R, 0, none⟩)), (.pointer (some ⟨R, 0, none⟩)), (.slice qp np cp), t11, t12, t13, t14, t15, t16, t17, t18, t19, t20, t21, t22, t23, t24, t25, t26, t27, t28, t29, t30, t31, t32, t33, t34, t35, t36, t37, t38, t39, t40, t41, t42, t43, t44, t45, t46, t47, t48, t49, t50, t51, t52, t53, t54, t55, t56], defers := D } W := by
  refine wpAnyIn_ready rbcde (by simp) ?_
  refine AllReadyIn.cons h0 (fun K hK => ?_) ?_
  ·go_simp
   exact hK _ _ (sabcde)
  refine AllReadyIn.cons h5 (fun K hK => ?_) ?_
  ·go_simp
   exact hK _ _ (sbcdef)
  exact AllReadyIn.nil
 have sbcdf : wpAnyIn Fence.wide 9 Tryd.prog .any ops Q 11 #[false, true, true, true, false, true, false, false, false, false, false, false, false, false, false] { tmps := #[t0, t1, (.pointer (some ⟨N, 0, none⟩)), t3, t4, t5, t6, (.pointer (some ⟨R, 0, none⟩)), (.pointer (some ⟨R, 0, none⟩)), (.pointer (some ⟨R, 0, none⟩)), t10, (.pointer (some ⟨R, 0, none⟩)), t12, t13, t14, t15, t16, t17, t18, t19, t20, t21, t22, t23, t24, t25, t26, t27, t28, t29, t30, t31, t32, t33, t34, t35, t36, t37, t38, t39, t40, t41, t42, t43, t44, t45, t46, t47, t48, t49, t50, t51, t52, t53, t54, t55, t56], defers := D } W := by
  refine wpAnyIn_ready rbcdf (by simp) ?_
  refine AllReadyIn.cons h0 (fun K hK => ?_) ?_
  ·go_simp
   exact hK _ _ (sabcdf)
  refine AllReadyIn.cons h4 (fun K hK => ?_) ?_
  ·go_simp
   exact hK _ _ (sbcdef)
  refine AllReadyIn.cons h6 (fun K hK => ?_) ?_
  ·go_simp
   exact hK _ _ (sbcdfg)
  exact AllReadyIn.nil
 have sbcfg : wpAnyIn Fence.wide 9 Tryd.prog .any ops Q 11 #[false, true, true, false, false, true, true, false, false, false, false, false, false, false, false] { tmps := #[t0, t1, (.pointer (some ⟨N, 0, none⟩)), t3, t4, t5, t6, (.pointer (some ⟨R, 0, none⟩)), (.pointer (some ⟨R, 0, none⟩)), t9, t10, (.pointer (some ⟨R, 0, none⟩)), (.pointer (some ⟨R, 0, none⟩)), t13, t14, t15, t16, t17, t18, t19, t20, t21, t22, t23, t24, t25, t26, t27, t28, t29, t30, t31, t32, t33, t34, t35, t36, t37, t38, t39, t40, t41, t42, t43, t44, t45, t46, t47, t48, t49, t50, t51, t52, t53, t54, t55, t56], defers := D } W := by
  refine wpAnyIn_ready rbcfg (by simp) ?_
  refine AllReadyIn.cons h0 (fun K hK => ?_) ?_
  ·go_simp
   exact hK _ _ (sabcfg)
  refine AllReadyIn.cons h3 (fun K hK => ?_) ?_
  ·go_simp
   exact hK _ _ (sbcdfg)
  refine AllReadyIn.cons h7 (fun K hK => ?_) ?_
  ·go_simp
   exact hK _ _ (sbcfgh)
  exact AllReadyIn.nil
 have sbfgh : wpAnyIn Fence.wide 9 Tryd.prog .any ops Q 11 #[false, true, false, false, false, true, true, true, false, false, false, false, false, false, false] { tmps := #[t0, t1, (.pointer (some ⟨N, 0, none⟩)), t3, t4, t5, t6, (.pointer (some ⟨R, 0, none⟩)), t8, t9, t10, (.pointer (some ⟨R, 0, none⟩)), (.pointer (some ⟨R, 0, none⟩)), (.pointer (some ⟨R, 1, none⟩)), t14, t15, t16, t17, t18, t19, t20, t21, t22, t23, t24, t25, t26, t27, t28, t29, t30, t31, t32, t33, t34, t35, t36, t37, t38, t39, t40, t41, t42, t43, t44, t45, t46, t47, t48, t49, t50, t51, t52, t53, t54, t55, t56], defers := D } W := by
  refine wpAnyIn_ready rbfgh (by simp) ?_
  refine AllReadyIn.cons h0 (fun K hK => ?_) ?_
  ·go_simp
   exact hK _ _ (sabfgh)
  refine AllReadyIn.cons h2 (fun K hK => ?_) ?_
  ·go_simp
   exact hK _ _ (sbcfgh)
  refine AllReadyIn.cons h8 (fun K hK => ?_) ?_
  ·go_simp
   exact hK _ _ (sbfghi)
  exact AllReadyIn.nil
 have sfghi : wpAnyIn Fence.wide 9 Tryd.prog .any ops Q 11 #[false, false, false, false, false, true, true, true, true, false, false, false, false, false, false] { tmps := #[t0, t1, (.pointer (some ⟨N, 0, none⟩)), t3, t4, t5, t6, t7, t8, t9, t10, (.pointer (some ⟨R, 0, none⟩)), (.pointer (some ⟨R, 0, none⟩)), (.pointer (some ⟨R, 1, none⟩)), (.slice qh nh ch), t15, t16, t17, t18, t19, t20, t21, t22, t23, t24, t25, t26, t27, t28, t29, t30, t31, t32, t33, t34, t35, t36, t37, t38, t39, t40, t41, t42, t43, t44, t45, t46, t47, t48, t49, t50, t51, t52, t53, t54, t55, t56], defers := D } W := by
  refine wpAnyIn_ready rfghi (by simp) ?_
  refine AllReadyIn.cons h0 (fun K hK => ?_) ?_
  ·go_simp
   exact hK _ _ (safghi)
  refine AllReadyIn.cons h1 (fun K hK => ?_) ?_
  ·go_simp
   exact hK _ _ (sbfghi)
  refine AllReadyIn.cons h9 (fun K hK => ?_) ?_
  ·exact opW_call _ _ _ rfl rfl rfl ent (fun c X => ∃ qc nc cc, c = .slice qc nc cc ∧ H9 qc nc cc X) hcl (fun c X ⟨qc, nc, cc, e, h⟩ => by subst e; exact hK _ _ (sfghij qc nc cc X h))
  exact AllReadyIn.nil
 have sabc : wpAnyIn Fence.wide 9 Tryd.prog .any ops Q 12 #[true, true, true, false, false, false, false, false, false, false, false, false, false, false, false] { tmps := #[t0, t1, (.pointer (some ⟨N, 0, none⟩)), t3, t4, t5, (.pointer (some ⟨R, 0, none⟩)), (.pointer (some ⟨R, 0, none⟩)), (.pointer (some ⟨R, 0, none⟩)), t9, t10, t11, t12, t13, t14, t15, t16, t17, t18, t19, t20, t21, t22, t23, t24, t25, t26, t27, t28, t29, t30, t31, t32, t33, t34, t35, t36, t37, t38, t39, t40, t41, t42, t43, t44, t45, t46, t47, t48, t49, t50, t51, t52, t53, t54, t55, t56], defers := D } W := by
  refine wpAnyIn_ready rabc (by simp) ?_
  refine AllReadyIn.cons h3 (fun K hK => ?_) ?_
  ·go_simp
   exact hK _ _ (sabcd)
  refine AllReadyIn.cons h5 (fun K hK => ?_) ?_
  ·go_simp
   exact hK _ _ (sabcf)
  exact AllReadyIn.nil
 have sabf : wpAnyIn Fence.wide 9 Tryd.prog .any ops Q 12 #[true, true, false, false, false, true, false, false, false, false, false, false, false, false, false] { tmps := #[t0, t1, (.pointer (some ⟨N, 0, none⟩)), t3, t4, t5, (.pointer (some ⟨R, 0, none⟩)), (.pointer (some ⟨R, 0, none⟩)), t8, t9, t10, (.pointer (some ⟨R, 0, none⟩)), t12, t13, t14, t15, t16, t17, t18, t19, t20, t21, t22, t23, t24, t25, t26, t27, t28, t29, t30, t31, t32, t33, t34, t35, t36, t37, t38, t39, t40, t41, t42, t43, t44, t45, t46, t47, t48, t49, t50, t51, t52, t53, t54, t55, t56], defers := D } W := by
  refine wpAnyIn_ready rabf (by simp) ?_
  refine AllReadyIn.cons h2 (fun K hK => ?_) ?_
  ·go_simp
   exact hK _ _ (sabcf)
  refine AllReadyIn.cons h6 (fun K hK => ?_) ?_
  ·go_simp
   exact hK _ _ (sabfg)
  exact AllReadyIn.nil
 have safg : wpAnyIn Fence.wide 9 Tryd.prog .any ops Q 12 #[true, false, false, false, false, true, true, false, false, false, false, false, false, false, false] { tmps := #[t0, t1, (.pointer (some ⟨N, 0, none⟩)), t3, t4, t5, (.pointer (some ⟨R, 0, none⟩)), t7, t8, t9, t10, (.pointer (some ⟨R, 0, none⟩)), (.pointer (some ⟨R, 0, none⟩)), t13, t14, t15, t16, t17, t18, t19, t20, t21, t22, t23, t24, t25, t26, t27, t28, t29, t30, t31, t32, t33, t34, t35, t36, t37, t38, t39, t40, t41, t42, t43, t44, t45, t46, t47, t48, t49, t50, t51, t52, t53, t54, t55, t56], defers := D } W := by
  refine wpAnyIn_ready rafg (by simp) ?_
  refine AllReadyIn.cons h1 (fun K hK => ?_) ?_
  ·go_simp
   exact hK _ _ (sabfg)
  refine AllReadyIn.cons h7 (fun K hK => ?_) ?_
  ·go_simp
   exact hK _ _ (safgh)
  exact AllReadyIn.nil
 have sbcd : wpAnyIn Fence.wide 9 Tryd.prog .any ops Q 12 #[false, true, true, true, false, false, false, false, false, false, false, false, false, false, false] { tmps := #[t0, t1, (.pointer (some ⟨N, 0, none⟩)), t3, t4, t5, t6, (.pointer (some ⟨R, 0, none⟩)), (.pointer (some ⟨R, 0, none⟩)), (.pointer (some ⟨R, 0, none⟩)), t10, t11, t12, t13, t14, t15, t16, t17, t18, t19, t20, t21, t22, t23, t24, t25, t26, t27, t28, t29, t30, t31, t32, t33, t34, t35, t36, t37, t38, t39, t40, t41, t42, t43, t44, t45, t46, t47, t48, t49, t50, t51, t52, t53, t54, t55, t56], defers := D } W := by
  refine wpAnyIn_ready rbcd (by simp) ?_
  refine AllReadyIn.cons h0 (fun K hK => ?_) ?_
  ·go_simp
   exact hK _ _ (sabcd)
  refine AllReadyIn.cons h4 (fun K hK => ?_) ?_
  ·go_simp
   exact hK _ _ (sbcde)
  refine AllReadyIn.cons h5 (fun K hK => ?_) ?_
  ·go_simp
   exact hK _ _ (sbcdf)
  exact AllReadyIn.nil
 have sbcf : wpAnyIn Fence.wide 9 Tryd.prog .any ops Q 12 #[false, true, true, false, false, true, false, false, false, false, false, false, false, false, false] { tmps := #[t0, t1, (.pointer (some ⟨N, 0, none⟩)), t3, t4, t5, t6, (.pointer (some ⟨R, 0, none⟩)), (.pointer (some ⟨R, 0, none⟩)), t9, t10, (.pointer (some ⟨R, 0, none⟩)), t12, t13, t14, t15, t16, t17, t18, t19, t20, t21, t22, t23, t24, t25, t26, t27, t28, t29, t30, t31, t32, t33, t34, t35, t36, t37, t38, t39, t40, t41, t42, t43, t44, t45, t46, t47, t48, t49, t50, t51, t52, t53, t54, t55, t56], defers := D } W := by
  refine wpAnyIn_ready rbcf (by simp) ?_
  refine AllReadyIn.cons h0 (fun K hK => ?_) ?_
  ·go_simp
   exact hK _ _ (sabcf)
  refine AllReadyIn.cons h3 (fun K hK => ?_) ?_
  ·go_simp
   exact hK _ _ (sbcdf)
  refine AllReadyIn.cons h6 (fun K hK => ?_) ?_
  ·go_simp
   exact hK _ _ (sbcfg)
  exact AllReadyIn.nil
 have sbfg : wpAnyIn Fence.wide 9 Tryd.prog .any ops Q 12 #[false, true, false, false, false, true, true, false, false, false, false, false, false, false, false] { tmps := #[t0, t1, (.pointer (some ⟨N, 0, none⟩)), t3, t4, t5, t6, (.pointer (some ⟨R, 0, none⟩)), t8, t9, t10, (.pointer (some ⟨R, 0, none⟩)), (.pointer (some ⟨R, 0, none⟩)), t13, t14, t15, t16, t17, t18, t19, t20, t21, t22, t23, t24, t25, t26, t27, t28, t29, t30, t31, t32, t33, t34, t35, t36, t37, t38, t39, t40, t41, t42, t43, t44, t45, t46, t47, t48, t49, t50, t51, t52, t53, t54, t55, t56], defers := D } W := by
  refine wpAnyIn_ready rbfg (by simp) ?_
  refine AllReadyIn.cons h0 (fun K hK => ?_) ?_
  ·go_simp
   exact hK _ _ (sabfg)
  refine AllReadyIn.cons h2 (fun K hK => ?_) ?_
  ·go_simp
   exact hK _ _ (sbcfg)
  refine AllReadyIn.cons h7 (fun K hK => ?_) ?_
  ·go_simp
   exact hK _ _ (sbfgh)
  exact AllReadyIn.nil
 have sfgh : wpAnyIn Fence.wide 9 Tryd.prog .any ops Q 12 #[false, false, false, false, false, true, true, true, false, false, false, false, false, false, false] { tmps := #[t0, t1, (.pointer (some ⟨N, 0, none⟩)), t3, t4, t5, t6, t7, t8, t9, t10, (.pointer (some ⟨R, 0, none⟩)), (.pointer (some ⟨R, 0, none⟩)), (.pointer (some ⟨R, 1, none⟩)), t14, t15, t16, t17, t18, t19, t20, t21, t22, t23, t24, t25, t26, t27, t28, t29, t30, t31, t32, t33, t34, t35, t36, t37, t38, t39, t40, t41, t42, t43, t44, t45, t46, t47, t48, t49, t50, t51, t52, t53, t54, t55, t56], defers := D } W := by
  refine wpAnyIn_ready rfgh (by simp) ?_
  refine AllReadyIn.cons h0 (fun K hK => ?_) ?_
  ·go_simp
   exact hK _ _ (safgh)
  refine AllReadyIn.cons h1 (fun K hK => ?_) ?_
  ·go_simp
   exact hK _ _ (sbfgh)
  refine AllReadyIn.cons h8 (fun K hK => ?_) ?_
  ·go_simp
   exact hK _ _ (sfghi)
  exact AllReadyIn.nil
 have sab : wpAnyIn Fence.wide 9 Tryd.prog .any ops Q 13 #[true, true, false, false, false, false, false, false, false, false, false, false, false, false, false] { tmps := #[t0, t1, (.pointer (some ⟨N, 0, none⟩)), t3, t4, t5, (.pointer (some ⟨R, 0, none⟩)), (.pointer (some ⟨R, 0, none⟩)), t8, t9, t10, t11, t12, t13, t14, t15, t16, t17, t18, t19, t20, t21, t22, t23, t24, t25, t26, t27, t28, t29, t30, t31, t32, t33, t34, t35, t36, t37, t38, t39, t40, t41, t42, t43, t44, t45, t46, t47, t48, t49, t50, t51, t52, t53, t54, t55, t56], defers := D } W := by
  refine wpAnyIn_ready rab (by simp) ?_
  refine AllReadyIn.cons h2 (fun K hK => ?_) ?_
  ·go_simp
   exact hK _ _ (sabc)
  refine AllReadyIn.cons h5 (fun K hK => ?_) ?_
  ·go_simp
   exact hK _ _ (sabf)
  exact AllReadyIn.nil
 have saf : wpAnyIn Fence.wide 9 Tryd.prog .any ops Q 13 #[true, false, false, false, false, true, false, false, false, false, false, false, false, false, false] { tmps := #[t0, t1, (.pointer (some ⟨N, 0, none⟩)), t3, t4, t5, (.pointer (some ⟨R, 0, none⟩)), t7, t8, t9, t10, (.pointer (some ⟨R, 0, none⟩)), t12, t13, t14, t15, t16, t17, t18, t19, t20, t21, t22, t23, t24, t25, t26, t27, t28, t29, t30, t31, t32, t33, t34, t35, t36, t37, t38, t39, t40, t41, t42, t43, t44, t45, t46, t47, t48, t49, t50, t51, t52, t53, t54, t55, t56], defers := D } W := by
  refine wpAnyIn_ready raf (by simp) ?_
  refine AllReadyIn.cons h1 (fun K hK => ?_) ?_
  ·go_simp
   exact hK _ _ (sabf)
  refine AllReadyIn.cons h6 (fun K hK => ?_) ?_
  ·go_simp
   exact hK _ _ (safg)
  exact AllReadyIn.nil
 have sbc : wpAnyIn Fence.wide 9 Tryd.prog .any ops Q 13 #[false, true, true, false, false, false, false, false, false, false, false, false, false, false, false] { tmps := #[t0, t1, (.pointer (some ⟨N, 0, none⟩)), t3, t4, t5, t6, (.pointer (some ⟨R, 0, none⟩)), (.pointer (some ⟨R, 0, none⟩)), t9, t10, t11, t12, t13, t14, t15, t16, t17, t18, t19, t20, t21, t22, t23, t24, t25, t26, t27, t28, t29, t30, t31, t32, t33, t34, t35, t36, t37, t38, t39, t40, t41, t42, t43, t44, t45, t46, t47, t48, t49, t50, t51, t52, t53, t54, t55, t56], defers := D } W := by
  refine wpAnyIn_ready rbc (by simp) ?_
  refine AllReadyIn.cons h0 (fun K hK => ?_) ?_
  ·go_simp
   exact hK _ _ (sabc)
  refine AllReadyIn.cons h3 (fun K hK => ?_) ?_
  ·go_simp
   exact hK _ _ (sbcd)
  refine AllReadyIn.cons h5 (fun K hK => ?_) ?_
  ·go_simp
   exact hK _ _ (sbcf)
  exact AllReadyIn.nil
 have sbf : wpAnyIn Fence.wide 9 Tryd.prog .any ops Q 13 #[false, true, false, false, false, true, false, false, false, false, false, false, false, false, false] { tmps := #[t0, t1, (.pointer (some ⟨N, 0, none⟩)), t3, t4, t5, t6, (.pointer (some ⟨R, 0, none⟩)), t8, t9, t10, (.pointer (some ⟨R, 0, none⟩)), t12, t13, t14, t15, t16, t17, t18, t19, t20, t21, t22, t23, t24, t25, t26, t27, t28, t29, t30, t31, t32, t33, t34, t35, t36, t37, t38, t39, t40, t41, t42, t43, t44, t45, t46, t47, t48, t49, t50, t51, t52, t53, t54, t55, t56], defers := D } W := by
  refine wpAnyIn_ready rbf (by simp) ?_
  refine AllReadyIn.cons h0 (fun K hK => ?_) ?_
  ·go_simp
   exact hK _ _ (sabf)
  refine AllReadyIn.cons h2 (fun K hK => ?_) ?_
  ·go_simp
   exact hK _ _ (sbcf)
  refine AllReadyIn.cons h6 (fun K hK => ?_) ?_
  ·go_simp
   exact hK _ _ (sbfg)
  exact AllReadyIn.nil
 have sfg : wpAnyIn Fence.wide 9 Tryd.prog .any ops Q 13 #[false, false, false, false, false, true, true, false, false, false, false, false, false, false, false] { tmps := #[t0, t1, (.pointer (some ⟨N, 0, none⟩)), t3, t4, t5, t6, t7, t8, t9, t10, (.pointer (some ⟨R, 0, none⟩)), (.pointer (some ⟨R, 0, none⟩)), t13, t14, t15, t16, t17, t18, t19, t20, t21, t22, t23, t24, t25, t26, t27, t28, t29, t30, t31, t32, t33, t34, t35, t36, t37, t38, t39, t40, t41, t42, t43, t44, t45, t46, t47, t48, t49, t50, t51, t52, t53, t54, t55, t56], defers := D } W := by
  refine wpAnyIn_ready rfg (by simp) ?_
  refine AllReadyIn.cons h0 (fun K hK => ?_) ?_
  ·go_simp
   exact hK _ _ (safg)
  refine AllReadyIn.cons h1 (fun K hK => ?_) ?_
  ·go_simp
   exact hK _ _ (sbfg)
  refine AllReadyIn.cons h7 (fun K hK => ?_) ?_
  ·go_simp
   exact hK _ _ (sfgh)
  exact AllReadyIn.nil
 have sa : wpAnyIn Fence.wide 9 Tryd.prog .any ops Q 14 #[true, false, false, false, false, false, false, false, false, false, false, false, false, false, false] { tmps := #[t0, t1, (.pointer (some ⟨N, 0, none⟩)), t3, t4, t5, (.pointer (some ⟨R, 0, none⟩)), t7, t8, t9, t10, t11, t12, t13, t14, t15, t16, t17, t18, t19, t20, t21, t22, t23, t24, t25, t26, t27, t28, t29, t30, t31, t32, t33, t34, t35, t36, t37, t38, t39, t40, t41, t42, t43, t44, t45, t46, t47, t48, t49, t50, t51, t52, t53, t54, t55, t56], defers := D } W := by
  refine wpAnyIn_ready ra (by simp) ?_
  refine AllReadyIn.cons h1 (fun K hK => ?_) ?_
  ·go_simp
   exact hK _ _ (sab)
  refine AllReadyIn.cons h5 (fun K hK => ?_) ?_
  ·go_simp
   exact hK _ _ (saf)
  exact AllReadyIn.nil
 have sb : wpAnyIn Fence.wide 9 Tryd.prog .any ops Q 14 #[false, true, false, false, false, false, false, false, false, false, false, false, false, false, false] { tmps := #[t0, t1, (.pointer (some ⟨N, 0, none⟩)), t3, t4, t5, t6, (.pointer (some ⟨R, 0, none⟩)), t8, t9, t10, t11, t12, t13, t14, t15, t16, t17, t18, t19, t20, t21, t22, t23, t24, t25, t26, t27, t28, t29, t30, t31, t32, t33, t34, t35, t36, t37, t38, t39, t40, t41, t42, t43, t44, t45, t46, t47, t48, t49, t50, t51, t52, t53, t54, t55, t56], defers := D } W := by
  refine wpAnyIn_ready rb (by simp) ?_
  refine AllReadyIn.cons h0 (fun K hK => ?_) ?_
  ·go_simp
   exact hK _ _ (sab)
  refine AllReadyIn.cons h2 (fun K hK => ?_) ?_
  ·go_simp
   exact hK _ _ (sbc)
  refine AllReadyIn.cons h5 (fun K hK => ?_) ?_
  ·go_simp
   exact hK _ _ (sbf)
  exact AllReadyIn.nil
 have sf : wpAnyIn Fence.wide 9 Tryd.prog .any ops Q 14 #[false, false, false, false, false, true, false, false, false, false, false, false, false, false, false] { tmps := #[t0, t1, (.pointer (some ⟨N, 0, none⟩)), t3, t4, t5, t6, t7, t8, t9, t10, (.pointer (some ⟨R, 0, none⟩)), t12, t13, t14, t15, t16, t17, t18, t19, t20, t21, t22, t23, t24, t25, t26, t27, t28, t29, t30, t31, t32, t33, t34, t35, t36, t37, t38, t39, t40, t41, t42, t43, t44, t45, t46, t47, t48, t49, t50, t51, t52, t53, t54, t55, t56], defers := D } W := by
  refine wpAnyIn_ready rf (by simp) ?_
  refine AllReadyIn.cons h0 (fun K hK => ?_) ?_
  ·go_simp
   exact hK _ _ (saf)
  refine AllReadyIn.cons h1 (fun K hK => ?_) ?_
  ·go_simp
   exact hK _ _ (sbf)
  refine AllReadyIn.cons h6 (fun K hK => ?_) ?_
  ·go_simp
   exact hK _ _ (sfg)
  exact AllReadyIn.nil
 have s : wpAnyIn Fence.wide 9 Tryd.prog .any ops Q 15 #[false, false, false, false, false, false, false, false, false, false, false, false, false, false, false] { tmps := #[t0, t1, (.pointer (some ⟨N, 0, none⟩)), t3, t4, t5, t6, t7, t8, t9, t10, t11, t12, t13, t14, t15, t16, t17, t18, t19, t20, t21, t22, t23, t24, t25, t26, t27, t28, t29, t30, t31, t32, t33, t34, t35, t36, t37, t38, t39, t40, t41, t42, t43, t44, t45, t46, t47, t48, t49, t50, t51, t52, t53, t54, t55, t56], defers := D } W := by
  refine wpAnyIn_ready r (by simp) ?_
  refine AllReadyIn.cons h0 (fun K hK => ?_) ?_
  ·go_simp
   exact hK _ _ (sa)
  refine AllReadyIn.cons h1 (fun K hK => ?_) ?_
  ·go_simp
   exact hK _ _ (sb)
  refine AllReadyIn.cons h5 (fun K hK => ?_) ?_
  ·go_simp
   exact hK _ _ (sf)
  exact AllReadyIn.nil
 exact s
end Go.Proofs.YtadaehaemmelfaaDoor.paths
namespace Go.Proofs.YtadaehaemmelfaaDoor.paths
open Go.RowKit Go.Shelf
open utfs (hide unhide)
open valus (Blk blk_alloc Turns opIn_append)
attribute [local go_sem] Oper.semAt_some
theorem visR6 {Q : Exit → Act → World → Prop} {ops : Array Oper} {D : List Deferred} {t0 t1 t3 t5 t6 t7 t8 t9 t10 t11 t12 t13 t14 t15 t16 t17 t18 t19 t20 t21 t22 t23 t24 t25 t26 t27 t28 t29 t30 t31 t32 t33 t34 t35 t36 t37 t38 t39 t40 t41 t42 t43 t44 t45 t46 t47 t48 t49 t50 t51 t52 t53 t54 t55 t56 : Value} {l : Nat} {W X : World} {R N Bs : Nat} {qh : Option Addr} {nh ch : Nat} {qv : Option Addr} {nv cv : Nat} {key : ByteArray} {i : Int} {q0 q1 q2 q3 q4 q5 q6 q7 q8 q9 q10 : String} {f0 f1 f2 f3 f4 f5 f6 f7 f8 f9 f10 : _}
  (h0 : ops[0]? = some { dst := some 30, op := .load 86 (.tmp 2), type := 86, pos := q0, after := f0, guard := none })
  (h1 : ops[1]? = some { dst := some 31, op := .load 86 (.tmp 2), type := 86, pos := q1, after := f1, guard := none })
  (h2 : ops[2]? = some { dst := some 32, op := .nilCheck (.tmp 31), type := 0, pos := q2, after := f2, guard := none })
  (h3 : ops[3]? = some { dst := some 33, op := .fieldAddr 65 (.tmp 32) 1, type := 0, pos := q3, after := f3, guard := none })
  (h4 : ops[4]? = some { dst := some 34, op := .load 27 (.tmp 33), type := 27, pos := q4, after := f4, guard := none })
  (h5 : ops[5]? = some { dst := some 35, op := .load 60 (.tmp 4), type := 60, pos := q5, after := f5, guard := none })
  (h6 : ops[6]? = some { dst := some 36, op := .buildSlice 27 1 #[(0, .tmp 35)], type := 27, pos := q6, after := f6, guard := none })
  (h7 : ops[7]? = some { dst := some 37, op := .call { callee := .builtin .append, args := #[.tmp 34, .tmp 36], argTypes := #[27, 27] }, type := 27, pos := q7, after := f7, guard := none })
  (h8 : ops[8]? = some { dst := some 38, op := .nilCheck (.tmp 30), type := 0, pos := q8, after := f8, guard := none })
  (h9 : ops[9]? = some { dst := some 39, op := .fieldAddr 65 (.tmp 38) 1, type := 0, pos := q9, after := f9, guard := none })
  (h10 : ops[10]? = some { dst := none, op := .store 27 (.tmp 39) (.tmp 37), type := 0, pos := q10, after := f10, guard := none })
  (rabcdefghijk : Region.ready .any ops #[true, true, true, true, true, true, true, true, true, true, true] = [])
  (rabcdefghij : Region.ready .any ops #[true, true, true, true, true, true, true, true, true, true, false] = [10])
  (rabcdefghi : Region.ready .any ops #[true, true, true, true, true, true, true, true, true, false, false] = [9])
  (rabcdefgh : Region.ready .any ops #[true, true, true, true, true, true, true, true, false, false, false] = [8])
  (rabcdefg : Region.ready .any ops #[true, true, true, true, true, true, true, false, false, false, false] = [7])
  (rbcdefgh : Region.ready .any ops #[false, true, true, true, true, true, true, true, false, false, false] = [0])
  (rabcdef : Region.ready .any ops #[true, true, true, true, true, true, false, false, false, false, false] = [6])
  (rabcdfg : Region.ready .any ops #[true, true, true, true, false, true, true, false, false, false, false] = [4])
  (rbcdefg : Region.ready .any ops #[false, true, true, true, true, true, true, false, false, false, false] = [0, 7])
  (rabcde : Region.ready .any ops #[true, true, true, true, true, false, false, false, false, false, false] = [5])
  (rabcdf : Region.ready .any ops #[true, true, true, true, false, true, false, false, false, false, false] = [4, 6])
  (rabcfg : Region.ready .any ops #[true, true, true, false, false, true, true, false, false, false, false] = [3])
  (rbcdef : Region.ready .any ops #[false, true, true, true, true, true, false, false, false, false, false] = [0, 6])
  (rbcdfg : Region.ready .any ops #[false, true, true, true, false, true, true, false, false, false, false] = [0, 4])
  (rabcd : Region.ready .any ops #[true, true, true, true, false, false, false, false, false, false, false] = [4, 5])
  (rabcf : Region.ready .any ops #[true, true, true, false, false, true, false, false, false, false, false] = [3, 6])
  (rabfg : Region.ready .any ops #[true, true, false, false, false, true, true, false, false, false, false] = [2])
  (rbcde : Region.ready .any ops #[false, true, true, true, true, false, false, false, false, false, false] = [0, 5])
  (rbcdf : Region.ready .any ops #[false, true, true, true, false, true, false, false, false, false, false] = [0, 4, 6])
  (rbcfg : Region.ready .any ops #[false, true, true, false, false, true, true, false, false, false, false] = [0, 3])
  (rabc : Region.ready .any ops #[true, true, true, false, false, false, false, false, false, false, false] = [3, 5])
  (rabf : Region.ready .any ops #[true, true, false, false, false, true, false, false, false, false, false] = [2, 6])
  (rafg : Region.ready .any ops #[true, false, false, false, false, true, true, false, false, false, false] = [1])
  (rbcd : Region.ready .any ops #[false, true, true, true, false, false, false, false, false, false, false] = [0, 4, 5])
  (rbcf : Region.ready .any ops #[false, true, true, false, false, true, false, false, false, false, false] = [0, 3, 6])
  (rbfg : Region.ready .any ops #[false, true, false, false, false, true, true, false, false, false, false] = [0, 2])
  (rab : Region.ready .any ops #[true, true, false, false, false, false, false, false, false, false, false] = [2, 5])
  (raf : Region.ready .any ops #[true, false, false, false, false, true, false, false, false, false, false] = [1, 6])
  (rbc : Region.ready .any ops #[false, true, true, false, false, false, false, false, false, false, false] = [0, 3, 5])
  (rbf : Region.ready .any ops #[false, true, false, false, false, true, false, false, false, false, false] = [0, 2, 6])
  (rfg : Region.ready .any ops #[false, false, false, false, false, true, true, false, false, false, false] = [0, 1])
  (ra : Region.ready .any ops #[true, false, false, false, false, false, false, false, false, false, false] = [1, 5])
  (rb : Region.ready .any ops #[false, true, false, false, false, false, false, false, false, false, false] = [0, 2, 5])
  (rf : Region.ready .any ops #[false, false, false, false, false, true, false, false, false, false, false] = [0, 1, 6])
  (r : Region.ready .any ops #[false, false, false, false, false, false, false, false, false, false, false] = [0, 1, 5])
  (a0 : W.cell? ⟨N, 0, none⟩ = some (.pointer (some ⟨R, 0, none⟩))) (a1 : W.cell? ⟨R, 1, none⟩ = some (.slice qh nh ch))
  (b0 : (W.alloc (.cells #[.string key, .int .i64 i] 60)).cell? ⟨N, 0, none⟩ = some (.pointer (some ⟨R, 0, none⟩))) (b1 : (W.alloc (.cells #[.string key, .int .i64 i] 60)).cell? ⟨R, 1, none⟩ = some (.slice qh nh ch))
  (c0 : X.cell? ⟨N, 0, none⟩ = some (.pointer (some ⟨R, 0, none⟩))) (c1 : X.cell? ⟨R, 1, none⟩ = some (.slice qh nh ch))
  (cf : X.frozen? ⟨R, 1, none⟩ = false) (e0 : W.cell? ⟨Bs, 0, none⟩ = some (.string key)) (e1 : W.cell? ⟨Bs, 1, none⟩ = some (.int .i64 i))
  (hrun : (Builtin.append_ #[27, 27] 27 #[.slice qh nh ch, .slice (some ⟨W.heap.size, 0, none⟩) 1 1]).run Tryd.prog (W.alloc (.cells #[.string key, .int .i64 i] 60)) = .ok (.slice qv nv cv) X)
  (hQ : Q .normal { tmps := #[t0, t1, (.pointer (some ⟨N, 0, none⟩)), t3, (.pointer (some ⟨Bs, 0, none⟩)), t5, t6, t7, t8, t9, t10, t11, t12, t13, t14, t15, t16, t17, t18, t19, t20, t21, t22, t23, t24, t25, t26, t27, t28, t29, (.pointer (some ⟨R, 0, none⟩)), (.pointer (some ⟨R, 0, none⟩)), (.pointer (some ⟨R, 0, none⟩)), (.pointer (some ⟨R, 1, none⟩)), (.slice qh nh ch), (.agg #[.string key, .int .i64 i]), (.slice (some ⟨W.heap.size, 0, none⟩) 1 1), (.slice qv nv cv), (.pointer (some ⟨R, 0, none⟩)), (.pointer (some ⟨R, 1, none⟩)), t40, t41, t42, t43, t44, t45, t46, t47, t48, t49, t50, t51, t52, t53, t54, t55, t56], defers := D } (X.setCell ⟨R, 1, none⟩ (.slice qv nv cv))) :
  wpAnyIn (Fence.wide.inRound l) 9 Tryd.prog .any ops Q 11 #[false, false, false, false, false, false, false, false, false, false, false] { tmps := #[t0, t1, (.pointer (some ⟨N, 0, none⟩)), t3, (.pointer (some ⟨Bs, 0, none⟩)), t5, t6, t7, t8, t9, t10, t11, t12, t13, t14, t15, t16, t17, t18, t19, t20, t21, t22, t23, t24, t25, t26, t27, t28, t29, t30, t31, t32, t33, t34, t35, t36, t37, t38, t39, t40, t41, t42, t43, t44, t45, t46, t47, t48, t49, t50, t51, t52, t53, t54, t55, t56], defers := D } W := by
 have sabcdefghijk : wpAnyIn (Fence.wide.inRound l) 9 Tryd.prog .any ops Q 0 #[true, true, true, true, true, true, true, true, true, true, true] { tmps := #[t0, t1, (.pointer (some ⟨N, 0, none⟩)), t3, (.pointer (some ⟨Bs, 0, none⟩)), t5, t6, t7, t8, t9, t10, t11, t12, t13, t14, t15, t16, t17, t18, t19, t20, t21, t22, t23, t24, t25, t26, t27, t28, t29, (.pointer (some ⟨R, 0, none⟩)), (.pointer (some ⟨R, 0, none⟩)), (.pointer (some ⟨R, 0, none⟩)), (.pointer (some ⟨R, 1, none⟩)), (.slice qh nh ch), (.agg #[.string key, .int .i64 i]), (.slice (some ⟨W.heap.size, 0, none⟩) 1 1), (.slice qv nv cv), (.pointer (some ⟨R, 0, none⟩)), (.pointer (some ⟨R, 1, none⟩)), t40, t41, t42, t43, t44, t45, t46, t47, t48, t49, t50, t51, t52, t53, t54, t55, t56], defers := D } (X.setCell ⟨R, 1, none⟩ (.slice qv nv cv)) := by
  exact wpAnyIn_done rabcdefghijk hQ _
 have sabcdefghij : wpAnyIn (Fence.wide.inRound l) 9 Tryd.prog .any ops Q 1 #[true, true, true, true, true, true, true, true, true, true, false] { tmps := #[t0, t1, (.pointer (some ⟨N, 0, none⟩)), t3, (.pointer (some ⟨Bs, 0, none⟩)), t5, t6, t7, t8, t9, t10, t11, t12, t13, t14, t15, t16, t17, t18, t19, t20, t21, t22, t23, t24, t25, t26, t27, t28, t29, (.pointer (some ⟨R, 0, none⟩)), (.pointer (some ⟨R, 0, none⟩)), (.pointer (some ⟨R, 0, none⟩)), (.pointer (some ⟨R, 1, none⟩)), (.slice qh nh ch), (.agg #[.string key, .int .i64 i]), (.slice (some ⟨W.heap.size, 0, none⟩) 1 1), (.slice qv nv cv), (.pointer (some ⟨R, 0, none⟩)), (.pointer (some ⟨R, 1, none⟩)), t40, t41, t42, t43, t44, t45, t46, t47, t48, t49, t50, t51, t52, t53, t54, t55, t56], defers := D } X := by
  refine wpAnyIn_ready rabcdefghij (by simp) ?_
  refine AllReadyIn.cons h10 (fun K hK => ?_) ?_
  ·go_simp
   exact hK _ _ (sabcdefghijk)
  exact AllReadyIn.nil
 have sabcdefghi : wpAnyIn (Fence.wide.inRound l) 9 Tryd.prog .any ops Q 2 #[true, true, true, true, true, true, true, true, true, false, false] { tmps := #[t0, t1, (.pointer (some ⟨N, 0, none⟩)), t3, (.pointer (some ⟨Bs, 0, none⟩)), t5, t6, t7, t8, t9, t10, t11, t12, t13, t14, t15, t16, t17, t18, t19, t20, t21, t22, t23, t24, t25, t26, t27, t28, t29, (.pointer (some ⟨R, 0, none⟩)), (.pointer (some ⟨R, 0, none⟩)), (.pointer (some ⟨R, 0, none⟩)), (.pointer (some ⟨R, 1, none⟩)), (.slice qh nh ch), (.agg #[.string key, .int .i64 i]), (.slice (some ⟨W.heap.size, 0, none⟩) 1 1), (.slice qv nv cv), (.pointer (some ⟨R, 0, none⟩)), t39, t40, t41, t42, t43, t44, t45, t46, t47, t48, t49, t50, t51, t52, t53, t54, t55, t56], defers := D } X := by
  refine wpAnyIn_ready rabcdefghi (by simp) ?_
  refine AllReadyIn.cons h9 (fun K hK => ?_) ?_
  ·go_simp
   exact hK _ _ (sabcdefghij)
  exact AllReadyIn.nil
 have sabcdefgh : wpAnyIn (Fence.wide.inRound l) 9 Tryd.prog .any ops Q 3 #[true, true, true, true, true, true, true, true, false, false, false] { tmps := #[t0, t1, (.pointer (some ⟨N, 0, none⟩)), t3, (.pointer (some ⟨Bs, 0, none⟩)), t5, t6, t7, t8, t9, t10, t11, t12, t13, t14, t15, t16, t17, t18, t19, t20, t21, t22, t23, t24, t25, t26, t27, t28, t29, (.pointer (some ⟨R, 0, none⟩)), (.pointer (some ⟨R, 0, none⟩)), (.pointer (some ⟨R, 0, none⟩)), (.pointer (some ⟨R, 1, none⟩)), (.slice qh nh ch), (.agg #[.string key, .int .i64 i]), (.slice (some ⟨W.heap.size, 0, none⟩) 1 1), (.slice qv nv cv), t38, t39, t40, t41, t42, t43, t44, t45, t46, t47, t48, t49, t50, t51, t52, t53, t54, t55, t56], defers := D } X := by
  refine wpAnyIn_ready rabcdefgh (by simp) ?_
  refine AllReadyIn.cons h8 (fun K hK => ?_) ?_
  ·go_simp
   exact hK _ _ (sabcdefghi)
  exact AllReadyIn.nil
 have sabcdefg : wpAnyIn (Fence.wide.inRound l) 9 Tryd.prog .any ops Q 4 #[true, true, true, true, true, true, true, false, false, false, false] { tmps := #[t0, t1, (.pointer (some ⟨N, 0, none⟩)), t3, (.pointer (some ⟨Bs, 0, none⟩)), t5, t6, t7, t8, t9, t10, t11, t12, t13, t14, t15, t16, t17, t18, t19, t20, t21, t22, t23, t24, t25, t26, t27, t28, t29, (.pointer (some ⟨R, 0, none⟩)), (.pointer (some ⟨R, 0, none⟩)), (.pointer (some ⟨R, 0, none⟩)), (.pointer (some ⟨R, 1, none⟩)), (.slice qh nh ch), (.agg #[.string key, .int .i64 i]), (.slice (some ⟨W.heap.size, 0, none⟩) 1 1), t37, t38, t39, t40, t41, t42, t43, t44, t45, t46, t47, t48, t49, t50, t51, t52, t53, t54, t55, t56], defers := D } (W.alloc (.cells #[.string key, .int .i64 i] 60)) := by
  refine wpAnyIn_ready rabcdefg (by simp) ?_
  refine AllReadyIn.cons h7 (fun K hK => ?_) ?_
  ·exact opIn_append _ _ _ rfl rfl rfl rfl hrun (hK _ _ sabcdefgh)
  exact AllReadyIn.nil
 have sbcdefgh : wpAnyIn (Fence.wide.inRound l) 9 Tryd.prog .any ops Q 4 #[false, true, true, true, true, true, true, true, false, false, false] { tmps := #[t0, t1, (.pointer (some ⟨N, 0, none⟩)), t3, (.pointer (some ⟨Bs, 0, none⟩)), t5, t6, t7, t8, t9, t10, t11, t12, t13, t14, t15, t16, t17, t18, t19, t20, t21, t22, t23, t24, t25, t26, t27, t28, t29, t30, (.pointer (some ⟨R, 0, none⟩)), (.pointer (some ⟨R, 0, none⟩)), (.pointer (some ⟨R, 1, none⟩)), (.slice qh nh ch), (.agg #[.string key, .int .i64 i]), (.slice (some ⟨W.heap.size, 0, none⟩) 1 1), (.slice qv nv cv), t38, t39, t40, t41, t42, t43, t44, t45, t46, t47, t48, t49, t50, t51, t52, t53, t54, t55, t56], defers := D } X := by
  refine wpAnyIn_ready rbcdefgh (by simp) ?_
  refine AllReadyIn.cons h0 (fun K hK => ?_) ?_
  ·go_simp
   exact hK _ _ (sabcdefgh)
  exact AllReadyIn.nil
 have sabcdef : wpAnyIn (Fence.wide.inRound l) 9 Tryd.prog .any ops Q 5 #[true, true, true, true, true, true, false, false, false, false, false] { tmps := #[t0, t1, (.pointer (some ⟨N, 0, none⟩)), t3, (.pointer (some ⟨Bs, 0, none⟩)), t5, t6, t7, t8, t9, t10, t11, t12, t13, t14, t15, t16, t17, t18, t19, t20, t21, t22, t23, t24, t25, t26, t27, t28, t29, (.pointer (some ⟨R, 0, none⟩)), (.pointer (some ⟨R, 0, none⟩)), (.pointer (some ⟨R, 0, none⟩)), (.pointer (some ⟨R, 1, none⟩)), (.slice qh nh ch), (.agg #[.string key, .int .i64 i]), t36, t37, t38, t39, t40, t41, t42, t43, t44, t45, t46, t47, t48, t49, t50, t51, t52, t53, t54, t55, t56], defers := D } W := by
  refine wpAnyIn_ready rabcdef (by simp) ?_
  refine AllReadyIn.cons h6 (fun K hK => ?_) ?_
  ·go_simp
   exact hK _ _ (sabcdefg)
  exact AllReadyIn.nil
 have sabcdfg : wpAnyIn (Fence.wide.inRound l) 9 Tryd.prog .any ops Q 5 #[true, true, true, true, false, true, true, false, false, false, false] { tmps := #[t0, t1, (.pointer (some ⟨N, 0, none⟩)), t3, (.pointer (some ⟨Bs, 0, none⟩)), t5, t6, t7, t8, t9, t10, t11, t12, t13, t14, t15, t16, t17, t18, t19, t20, t21, t22, t23, t24, t25, t26, t27, t28, t29, (.pointer (some ⟨R, 0, none⟩)), (.pointer (some ⟨R, 0, none⟩)), (.pointer (some ⟨R, 0, none⟩)), (.pointer (some ⟨R, 1, none⟩)), t34, (.agg #[.string key, .int .i64 i]), (.slice (some ⟨W.heap.size, 0, none⟩) 1 1), t37, t38, t39, t40, t41, t42, t43, t44, t45, t46, t47, t48, t49, t50, t51, t52, t53, t54, t55, t56], defers := D } (W.alloc (.cells #[.string key, .int .i64 i] 60)) := by
  refine wpAnyIn_ready rabcdfg (by simp) ?_
  refine AllReadyIn.cons h4 (fun K hK => ?_) ?_
  ·go_simp
   exact hK _ _ (sabcdefg)
  exact AllReadyIn.nil
 have sbcdefg : wpAnyIn (Fence.wide.inRound l) 9 Tryd.prog .any ops Q 5 #[false, true, true, true, true, true, true, false, false, false, false] { tmps := #[t0, t1, (.pointer (some ⟨N, 0, none⟩)), t3, (.pointer (some ⟨Bs, 0, none⟩)), t5, t6, t7, t8, t9, t10, t11, t12, t13, t14, t15, t16, t17, t18, t19, t20, t21, t22, t23, t24, t25, t26, t27, t28, t29, t30, (.pointer (some ⟨R, 0, none⟩)), (.pointer (some ⟨R, 0, none⟩)), (.pointer (some ⟨R, 1, none⟩)), (.slice qh nh ch), (.agg #[.string key, .int .i64 i]), (.slice (some ⟨W.heap.size, 0, none⟩) 1 1), t37, t38, t39, t40, t41, t42, t43, t44, t45, t46, t47, t48, t49, t50, t51, t52, t53, t54, t55, t56], defers := D } (W.alloc (.cells #[.string key, .int .i64 i] 60)) := by
  refine wpAnyIn_ready rbcdefg (by simp) ?_
  refine AllReadyIn.cons h0 (fun K hK => ?_) ?_
  ·go_simp
   exact hK _ _ (sabcdefg)
  refine AllReadyIn.cons h7 (fun K hK => ?_) ?_
  ·exact opIn_append _ _ _ rfl rfl rfl rfl hrun (hK _ _ sbcdefgh)
  exact AllReadyIn.nil
 have sabcde : wpAnyIn (Fence.wide.inRound l) 9 Tryd.prog .any ops Q 6 #[true, true, true, true, true, false, false, false, false, false, false] { tmps := #[t0, t1, (.pointer (some ⟨N, 0, none⟩)), t3, (.pointer (some ⟨Bs, 0, none⟩)), t5, t6, t7, t8, t9, t10, t11, t12, t13, t14, t15, t16, t17, t18, t19, t20, t21, t22, t23, t24, t25, t26, t27, t28, t29, (.pointer (some ⟨R, 0, none⟩)), (.pointer (some ⟨R, 0, none⟩)), (.pointer (some ⟨R, 0, none⟩)), (.pointer (some ⟨R, 1, none⟩)), (.slice qh nh ch), t35, t36, t37, t38, t39, t40, t41, t42, t43, t44, t45, t46, t47, t48, t49, t50, t51, t52, t53, t54, t55, t56], defers := D } W := by
  refine wpAnyIn_ready rabcde (by simp) ?_
  refine AllReadyIn.cons h5 (fun K hK => ?_) ?_
  ·go_simp
   exact hK _ _ (sabcdef)
  exact AllReadyIn.nil
 have sabcdf : wpAnyIn (Fence.wide.inRound l) 9 Tryd.prog .any ops Q 6 #[true, true, true, true, false, true, false, false, false, false, false] { tmps := #[t0, t1, (.pointer (some ⟨N, 0, none⟩)), t3, (.pointer (some ⟨Bs, 0, none⟩)), t5, t6, t7, t8, t9, t10, t11, t12, t13, t14, t15, t16, t17, t18, t19, t20, t21, t22, t23, t24, t25, t26, t27, t28, t29, (.pointer (some ⟨R, 0, none⟩)), (.pointer (some ⟨R, 0, none⟩)), (.pointer (some ⟨R, 0, none⟩)), (.pointer (some ⟨R, 1, none⟩)), t34, (.agg #[.string key, .int .i64 i]), t36, t37, t38, t39, t40, t41, t42, t43, t44, t45, t46, t47, t48, t49, t50, t51, t52, t53, t54, t55, t56], defers := D } W := by
  refine wpAnyIn_ready rabcdf (by simp) ?_
  refine AllReadyIn.cons h4 (fun K hK => ?_) ?_
  ·go_simp
   exact hK _ _ (sabcdef)
  refine AllReadyIn.cons h6 (fun K hK => ?_) ?_
  ·go_simp
   exact hK _ _ (sabcdfg)
  exact AllReadyIn.nil
 have sabcfg : wpAnyIn (Fence.wide.inRound l) 9 Tryd.prog .any ops Q 6 #[true, true, true, false, false, true, true, false, false, false, false] { tmps := #[t0, t1, (.pointer (some ⟨N, 0, none⟩)), t3, (.pointer (some ⟨Bs, 0, none⟩)), t5, t6, t7, t8, t9, t10, t11, t12, t13, t14, t15, t16, t17, t18, t19, t20, t21, t22, t23, t24, t25, t26, t27, t28, t29, (.pointer (some ⟨R, 0, none⟩)), (.pointer (some ⟨R, 0, none⟩)), (.pointer (some ⟨R, 0, none⟩)), t33, t34, (.agg #[.string key, .int .i64 i]), (.slice (some ⟨W.heap.size, 0, none⟩) 1 1), t37, t38, t39, t40, t41, t42, t43, t44, t45, t46, t47, t48, t49, t50, t51, t52, t53, t54, t55, t56], defers := D } (W.alloc (.cells #[.string key, .int .i64 i] 60)) := by
  refine wpAnyIn_ready rabcfg (by simp) ?_
  refine AllReadyIn.cons h3 (fun K hK => ?_) ?_
  ·go_simp
   exact hK _ _ (sabcdfg)
  exact AllReadyIn.nil
 have sbcdef : wpAnyIn (Fence.wide.inRound l) 9 Tryd.prog .any ops Q 6 #[false, true, true, true, true, true, false, false, false, false, false] { tmps := #[t0, t1, (.pointer (some ⟨N, 0, none⟩)), t3, (.pointer (some ⟨Bs, 0, none⟩)), t5, t6, t7, t8, t9, t10, t11, t12, t13, t14, t15, t16, t17, t18, t19, t20, t21, t22, t23, t24, t25, t26, t27, t28, t29, t30, (.pointer (some ⟨R, 0, none⟩)), (.pointer (some ⟨R, 0, none⟩)), (.pointer (some ⟨R, 1, none⟩)), (.slice qh nh ch), (.agg #[.string key, .int .i64 i]), t36, t37, t38, t39, t40, t41, t42, t43, t44, t45, t46, t47, t48, t49, t50, t51, t52, t53, t54, t55, t56], defers := D } W := by
  refine wpAnyIn_ready rbcdef (by simp) ?_
  refine AllReadyIn.cons h0 (fun K hK => ?_) ?_
  ·go_simp
   exact hK _ _ (sabcdef)
  refine AllReadyIn.cons h6 (fun K hK => ?_) ?_
  ·go_simp
   exact hK _ _ (sbcdefg)
  exact AllReadyIn.nil
 have sbcdfg : wpAnyIn (Fence.wide.inRound l) 9 Tryd.prog .any ops Q 6 #[false, true, true, true, false, true, true, false, false, false, false] { tmps := #[t0, t1, (.pointer (some ⟨N, 0, none⟩)), t3, (.pointer (some ⟨Bs, 0, none⟩)), t5, t6, t7, t8, t9, t10, t11, t12, t13, t14, t15, t16, t17, t18, t19, t20, t21, t22, t23, t24, t25, t26, t27, t28, t29, t30, (.pointer (some ⟨R, 0, none⟩)), (.pointer (some ⟨R, 0, none⟩)), (.pointer (some ⟨R, 1, none⟩)), t34, (.agg #[.string key, .int .i64 i]), (.slice (some ⟨W.heap.size, 0, none⟩) 1 1), t37, t38, t39, t40, t41, t42, t43, t44, t45, t46, t47, t48, t49, t50, t51, t52, t53, t54, t55, t56], defers := D } (W.alloc (.cells #[.string key, .int .i64 i] 60)) := by
  refine wpAnyIn_ready rbcdfg (by simp) ?_
  refine AllReadyIn.cons h0 (fun K hK => ?_) ?_
  ·go_simp
   exact hK _ _ (sabcdfg)
  refine AllReadyIn.cons h4 (fun K hK => ?_) ?_
  ·go_simp
   exact hK _ _ (sbcdefg)
  exact AllReadyIn.nil
 have sabcd : wpAnyIn (Fence.wide.inRound l) 9 Tryd.prog .any ops Q 7 #[true, true, true, true, false, false, false, false, false, false, false] { tmps := #[t0, t1, (.pointer (some ⟨N, 0, none⟩)), t3, (.pointer (some ⟨Bs, 0, none⟩)), t5, t6, t7, t8, t9, t10, t11, t12, t13, t14, t15, t16, t17, t18, t19, t20, t21, t22, t23, t24, t25, t26, t27, t28, t29, (.pointer (some ⟨R, 0, none⟩)), (.pointer (some ⟨R, 0, none⟩)), (.pointer (some ⟨R, 0, none⟩)), (.pointer (some ⟨R, 1, none⟩)), t34, t35, t36, t37, t38, t39, t40, t41, t42, t43, t44, t45, t46, t47, t48, t49, t50, t51, t52, t53, t54, t55, t56], defers := D } W := by
  refine wpAnyIn_ready rabcd (by simp) ?_
  refine AllReadyIn.cons h4 (fun K hK => ?_) ?_
  ·go_simp
   exact hK _ _ (sabcde)
  refine AllReadyIn.cons h5 (fun K hK => ?_) ?_
  ·go_simp
   exact hK _ _ (sabcdf)
  exact AllReadyIn.nil
 have sabcf : wpAnyIn (Fence.wide.inRound l) 9 Tryd.prog .any ops Q 7 #[true, true, true, false, false, true, false, false, false, false, false] { tmps := #[t0, t1, (.pointer (some ⟨N, 0, none⟩)), t3, (.pointer (some ⟨Bs, 0, none⟩)), t5, t6, t7, t8, t9, t10, t11, t12, t13, t14, t15, t16, t17, t18, t19, t20, t21, t22, t23, t24, t25, t26, t27, t28, t29, (.pointer (some ⟨R, 0, none⟩)), (.pointer (some ⟨R, 0, none⟩)), (.pointer (some ⟨R, 0, none⟩)), t33, t34, (.agg #[.string key, .int .i64 i]), t36, t37, t38, t39, t40, t41, t42, t43, t44, t45, t46, t47, t48, t49, t50, t51, t52, t53, t54, t55, t56], defers := D } W := by
  refine wpAnyIn_ready rabcf (by simp) ?_
  refine AllReadyIn.cons h3 (fun K hK => ?_) ?_
  ·go_simp
   exact hK _ _ (sabcdf)
  refine AllReadyIn.cons h6 (fun K hK => ?_) ?_
  ·go_simp
   exact hK _ _ (sabcfg)
  exact AllReadyIn.nil
 have sabfg : wpAnyIn (Fence.wide.inRound l) 9 Tryd.prog .any ops Q 7 #[true, true, false, false, false, true, true, false, false, false, false] { tmps := #[t0, t1, (.pointer (some ⟨N, 0, none⟩)), t3, (.pointer (some ⟨Bs, 0, none⟩)), t5, t6, t7, t8, t9, t10, t11, t12, t13, t14, t15, t16, t17, t18, t19, t20, t21, t22, t23, t24, t25, t26, t27, t28, t29, (.pointer (some ⟨R, 0, none⟩)), (.pointer (some ⟨R, 0, none⟩)), t32, t33, t34, (.agg #[.string key, .int .i64 i]), (.slice (some ⟨W.heap.size, 0, none⟩) 1 1), t37, t38, t39, t40, t41, t42, t43, t44, t45, t46, t47, t48, t49, t50, t51, t52, t53, t54, t55, t56], defers := D } (W.alloc (.cells #[.string key, .int .i64 i] 60)) := by
  refine wpAnyIn_ready rabfg (by simp) ?_
  refine AllReadyIn.cons h2 (fun K hK => ?_) ?_
  ·go_simp
   exact hK _ _ (sabcfg)
  exact AllReadyIn.nil
 have sbcde : wpAnyIn (Fence.wide.inRound l) 9 Tryd.prog .any ops Q 7 #[false, true, true, true, true, false, false, false, false, false, false] { tmps := #[t0, t1, (.pointer (some ⟨N, 0, none⟩)), t3, (.pointer (some ⟨Bs, 0, none⟩)), t5, t6, t7, t8, t9, t10, t11, t12, t13, t14, t15, t16, t17, t18, t19, t20, t21, t22, t23, t24, t25, t26, t27, t28, t29, t30, (.pointer (some ⟨R, 0, none⟩)), (.pointer (some ⟨R, 0, none⟩)), (.pointer (some ⟨R, 1, none⟩)), (.slice qh nh ch), t35, t36, t37, t38, t39, t40, t41, t42, t43, t44, t45, t46, t47, t48, t49, t50, t51, t52, t53, t54, t55, t56], defers := D } W := by
  refine wpAnyIn_ready rbcde (by simp) ?_
  refine AllReadyIn.cons h0 (fun K hK => ?_) ?_
  ·go_simp
   exact hK _ _ (sabcde)
  refine AllReadyIn.cons h5 (fun K hK => ?_) ?_
  ·go_simp
   exact hK _ _ (sbcdef)
  exact AllReadyIn.nil
 have sbcdf : wpAnyIn (Fence.wide.inRound l) 9 Tryd.prog .any ops Q 7 #[false, true, true, true, false, true, false, false, false, false, false] { tmps := #[t0, t1, (.pointer (some ⟨N, 0, none⟩)), t3, (.pointer (some ⟨Bs, 0, none⟩)), t5, t6, t7, t8, t9, t10, t11, t12, t13, t14, t15, t16, t17, t18, t19, t20, t21, t22, t23, t24, t25, t26, t27, t28, t29, t30, (.pointer (some ⟨R, 0, none⟩)), (.pointer (some ⟨R, 0, none⟩)), (.pointer (some ⟨R, 1, none⟩)), t34, (.agg #[.string key, .int .i64 i]), t36, t37, t38, t39, t40, t41, t42, t43, t44, t45, t46, t47, t48, t49, t50, t51, t52, t53, t54, t55, t56], defers := D } W := by
  refine wpAnyIn_ready rbcdf (by simp) ?_
  refine AllReadyIn.cons h0 (fun K hK => ?_) ?_
  ·go_simp
   exact hK _ _ (sabcdf)
  refine AllReadyIn.cons h4 (fun K hK => ?_) ?_
  ·go_simp
   exact hK _ _ (sbcdef)
  refine AllReadyIn.cons h6 (fun K hK => ?_) ?_
  ·go_simp
   exact hK _ _ (sbcdfg)
  exact AllReadyIn.nil
 have sbcfg : wpAnyIn (Fence.wide.inRound l) 9 Tryd.prog .any ops Q 7 #[false, true, true, false, false, true, true, false, false, false, false] { tmps := #[t0, t1, (.pointer (some ⟨N, 0, none⟩)), t3, (.pointer (some ⟨Bs, 0, none⟩)), t5, t6, t7, t8, t9, t10, t11, t12, t13, t14, t15, t16, t17, t18, t19, t20, t21, t22, t23, t24, t25, t26, t27, t28, t29, t30, (.pointer (some ⟨R, 0, none⟩)), (.pointer (some ⟨R, 0, none⟩)), t33, t34, (.agg #[.string key, .int .i64 i]), (.slice (some ⟨W.heap.size, 0, none⟩) 1 1), t37, t38, t39, t40, t41, t42, t43, t44, t45, t46, t47, t48, t49, t50, t51, t52, t53, t54, t55, t56], defers := D } (W.alloc (.cells #[.string key, .int .i64 i] 60)) := by
  refine wpAnyIn_ready rbcfg (by simp) ?_
  refine AllReadyIn.cons h0 (fun K hK => ?_) ?_
  ·go_simp
   exact hK _ _ (sabcfg)
  refine AllReadyIn.cons h3 (fun K hK => ?_) ?_
  ·go_simp
   exact hK _ _ (sbcdfg)
  exact AllReadyIn.nil
 have sabc : wpAnyIn (Fence.wide.inRound l) 9 Tryd.prog .any ops Q 8 #[true, true, true, false, false, false, false, false, false, false, false] { tmps := #[t0, t1, (.pointer (some ⟨N, 0, none⟩)), t3, (.pointer (some ⟨Bs, 0, none⟩)), t5, t6, t7, t8, t9, t10, t11, t12, t13, t14, t15, t16, t17, t18, t19, t20, t21, t22, t23, t24, t25, t26, t27, t28, t29, (.pointer (some ⟨R, 0, none⟩)), (.pointer (some ⟨R, 0, none⟩)), (.pointer (some ⟨R, 0, none⟩)), t33, t34, t35, t36, t37, t38, t39, t40, t41, t42, t43, t44, t45, t46, t47, t48, t49, t50, t51, t52, t53, t54, t55, t56], defers := D } W := by
  refine wpAnyIn_ready rabc (by simp) ?_
  refine AllReadyIn.cons h3 (fun K hK => ?_) ?_
  ·go_simp
   exact hK _ _ (sabcd)
  refine AllReadyIn.cons h5 (fun K hK => ?_) ?_
  ·go_simp
   exact hK _ _ (sabcf)
  exact AllReadyIn.nil
 have sabf : wpAnyIn (Fence.wide.inRound l) 9 Tryd.prog .any ops Q 8 #[true, true, false, false, false, true, false, false, false, false, false] { tmps := #[t0, t1, (.pointer (some ⟨N, 0, none⟩)), t3, (.pointer (some ⟨Bs, 0, none⟩)), t5, t6, t7, t8, t9, t10, t11, t12, t13, t14, t15, t16, t17, t18, t19, t20, t21, t22, t23, t24, t25, t26, t27, t28, t29, (.pointer (some ⟨R, 0, none⟩)), (.pointer (some ⟨R, 0, none⟩)), t32, t33, t34, (.agg #[.string key, .int .i64 i]), t36, t37, t38, t39, t40, t41, t42, t43, t44, t45, t46, t47, t48, t49, t50, t51, t52, t53, t54, t55, t56], defers := D } W := by
  refine wpAnyIn_ready rabf (by simp) ?_
  refine AllReadyIn.cons h2 (fun K hK => ?_) ?_
  ·go_simp
   exact hK _ _ (sabcf)
  refine AllReadyIn.cons h6 (fun K hK => ?_) ?_
  ·go_simp
   exact hK _ _ (sabfg)
  exact AllReadyIn.nil
 have safg : wpAnyIn (Fence.wide.inRound l) 9 Tryd.prog .any ops Q 8 #[true, false, false, false, false, true, true, false, false, false, false] { tmps := #[t0, t1, (.pointer (some ⟨N, 0, none⟩)), t3, (.pointer (some ⟨Bs, 0, none⟩)), t5, t6, t7, t8, t9, t10, t11, t12, t13, t14, t15, t16, t17, t18, t19, t20, t21, t22, t23, t24, t25, t26, t27, t28, t29, (.pointer (some ⟨R, 0, none⟩)), t31, t32, t33, t34, (.agg #[.string key, .int .i64 i]), (.slice (some ⟨W.heap.size, 0, none⟩) 1 1), t37, t38, t39, t40, t41, t42, t43, t44, t45, t46, t47, t48, t49, t50, t51, t52, t53, t54, t55, t56], defers := D } (W.alloc (.cells #[.string key, .int .i64 i] 60)) := by
  refine wpAnyIn_ready rafg (by simp) ?_
  refine AllReadyIn.cons h1 (fun K hK => ?_) ?_
  ·go_simp
   exact hK _ _ (sabfg)
  exact AllReadyIn.nil
 have sbcd : wpAnyIn (Fence.wide.inRound l) 9 Tryd.prog .any ops Q 8 #[false, true, true, true, false, false, false, false, false, false, false] { tmps := #[t0, t1, (.pointer (some ⟨N, 0, none⟩)), t3, (.pointer (some ⟨Bs, 0, none⟩)), t5, t6, t7, t8, t9, t10, t11, t12, t13, t14, t15, t16, t17, t18, t19, t20, t21, t22, t23, t24, t25, t26, t27, t28, t29, t30, (.pointer (some ⟨R, 0, none⟩)), (.pointer (some ⟨R, 0, none⟩)), (.pointer (some ⟨R, 1, none⟩)), t34, t35, t36, t37, t38, t39, t40, t41, t42, t43, t44, t45, t46, t47, t48, t49, t50, t51, t52, t53, t54, t55, t56], defers := D } W := by
  refine wpAnyIn_ready rbcd (by simp) ?_
  refine AllReadyIn.cons h0 (fun K hK => ?_) ?_
  ·go_simp
   exact hK _ _ (sabcd)
  refine AllReadyIn.cons h4 (fun K hK => ?_) ?_
  ·go_simp
   exact hK _ _ (sbcde)
  refine AllReadyIn.cons h5 (fun K hK => ?_) ?_
  ·go_simp
   exact hK _ _ (sbcdf)
  exact AllReadyIn.nil
 have sbcf : wpAnyIn (Fence.wide.inRound l) 9 Tryd.prog .any ops Q 8 #[false, true, true, false, false, true, false, false, false, false, false] { tmps := #[t0, t1, (.pointer (some ⟨N, 0, none⟩)), t3, (.pointer (some ⟨Bs, 0, none⟩)), t5, t6, t7, t8, t9, t10, t11, t12, t13, t14, t15, t16, t17, t18, t19, t20, t21, t22, t23, t24, t25, t26, t27, t28, t29, t30, (.pointer (some ⟨R, 0, none⟩)), (.pointer (some ⟨R, 0, none⟩)), t33, t34, (.agg #[.string key, .int .i64 i]), t36, t37, t38, t39, t40, t41, t42, t43, t44, t45, t46, t47, t48, t49, t50, t51, t52, t53, t54, t55, t56], defers := D } W := by
  refine wpAnyIn_ready rbcf (by simp) ?_
  refine AllReadyIn.cons h0 (fun K hK => ?_) ?_
  ·go_simp
   exact hK _ _ (sabcf)
  refine AllReadyIn.cons h3 (fun K hK => ?_) ?_
  ·go_simp
   exact hK _ _ (sbcdf)
  refine AllReadyIn.cons h6 (fun K hK => ?_) ?_
  ·go_simp
   exact hK _ _ (sbcfg)
  exact AllReadyIn.nil
 have sbfg : wpAnyIn (Fence.wide.inRound l) 9 Tryd.prog .any ops Q 8 #[false, true, false, false, false, true, true, false, false, false, false] { tmps := #[t0, t1, (.pointer (some ⟨N, 0, none⟩)), t3, (.pointer (some ⟨Bs, 0, none⟩)), t5, t6, t7, t8, t9, t10, t11, t12, t13, t14, t15, t16, t17, t18, t19, t20, t21, t22, t23, t24, t25, t26, t27, t28, t29, t30, (.pointer (some ⟨R, 0, none⟩)), t32, t33, t34, (.agg #[.string key, .int .i64 i]), (.slice (some ⟨W.heap.size, 0, none⟩) 1 1), t37, t38, t39, t40, t41, t42, t43, t44, t45, t46, t47, t48, t49, t50, t51, t52, t53, t54, t55, t56], defers := D } (W.alloc (.cells #[.string key, .int .i64 i] 60)) := by
  refine wpAnyIn_ready rbfg (by simp) ?_
  refine AllReadyIn.cons h0 (fun K hK => ?_) ?_
  ·go_simp
   exact hK _ _ (sabfg)
  refine AllReadyIn.cons h2 (fun K hK => ?_) ?_
  ·go_simp
   exact hK _ _ (sbcfg)
  exact AllReadyIn.nil
 have sab : wpAnyIn (Fence.wide.inRound l) 9 Tryd.prog .any ops Q 9 #[true, true, false, false, false, false, false, false, false, false, false] { tmps := #[t0, t1, (.pointer (some ⟨N, 0, none⟩)), t3, (.pointer (some ⟨Bs, 0, none⟩)), t5, t6, t7, t8, t9, t10, t11, t12, t13, t14, t15, t16, t17, t18, t19, t20, t21, t22, t23, t24, t25, t26, t27, t28, t29, (.pointer (some ⟨R, 0, none⟩)), (.pointer (some ⟨R, 0, none⟩)), t32, t33, t34, t35, t36, t37, t38, t39, t40, t41, t42, t43, t44, t45, t46, t47, t48, t49, t50, t51, t52, t53, t54, t55, t56], defers := D } W := by
  refine wpAnyIn_ready rab (by simp) ?_
  refine AllReadyIn.cons h2 (fun K hK => ?_) ?_
  ·go_simp
   exact hK _ _ (sabc)
  refine AllReadyIn.cons h5 (fun K hK => ?_) ?_
  ·go_simp
   exact hK _ _ (sabf)
  exact AllReadyIn.nil
 have saf : wpAnyIn (Fence.wide.inRound l) 9 Tryd.prog .any ops Q 9 #[true, false, false, false, false, true, false, false, false, false, false] { tmps := #[t0, t1, (.pointer (some ⟨N, 0, none⟩)), t3, (.pointer (some ⟨Bs, 0, none⟩)), t5, t6, t7, t8, t9, t10, t11, t12, t13, t14, t15, t16, t17, t18, t19, t20, t21, t22, t23, t24, t25, t26, t27, t28, t29, (.pointer (some ⟨R, 0, none⟩)), t31, t32, t33, t34, (.agg #[.string key, .int .i64 i]), t36, t37, t38, t39, t40, t41, t42, t43, t44, t45, t46, t47, t48, t49, t50, t51, t52, t53, t54, t55, t56], defers := D } W := by
  refine wpAnyIn_ready raf (by simp) ?_
  refine AllReadyIn.cons h1 (fun K hK => ?_) ?_
  ·go_simp
   exact hK _ _ (sabf)
  refine AllReadyIn.cons h6 (fun K hK => ?_) ?_
  ·go_simp
   exact hK _ _ (safg)
  exact AllReadyIn.nil
 have sbc : wpAnyIn (Fence.wide.inRound l) 9 Tryd.prog .any ops Q 9 #[false, true, true, false, false, false, false, false, false, false, false] { tmps := #[t0, t1, (.pointer (some ⟨N, 0, none⟩)), t3, (.pointer (some ⟨Bs, 0, none⟩)), t5, t6, t7, t8, t9, t10, t11, t12, t13, t14, t15, t16, t17, t18, t19, t20, t21, t22, t23, t24, t25, t26, t27, t28, t29, t30, (.pointer (some ⟨R, 0, none⟩)), (.pointer (some ⟨R, 0, none⟩)), t33, t34, t35, t36, t37, t38, t39, t40, t41, t42, t43, t44, t45, t46, t47, t48, t49, t50, t51, t52, t53, t54, t55, t56], defers := D } W := by
  refine wpAnyIn_ready rbc (by simp) ?_
  refine AllReadyIn.cons h0 (fun K hK => ?_) ?_
  ·go_simp
   exact hK _ _ (sabc)
  refine AllReadyIn.cons h3 (fun K hK => ?_) ?_
  ·go_simp
   exact hK _ _ (sbcd)
  refine AllReadyIn.cons h5 (fun K hK => ?_) ?_
  ·go_simp
   exact hK _ _ (sbcf)
  exact AllReadyIn.nil
 have sbf : wpAnyIn (Fence.wide.inRound l) 9 Tryd.prog .any ops Q 9 #[false, true, false, false, false, true, false, false, false, false, false] { tmps := #[t0, t1, (.pointer (some ⟨N, 0, none⟩)), t3, (.pointer (some ⟨Bs, 0, none⟩)), t5, t6, t7, t8, t9, t10, t11, t12, t13, t14, t15, t16, t17, t18, t19, t20, t21, t22, t23, t24, t25, t26, t27, t28, t29, t30, (.pointer (some ⟨R, 0, none⟩)), t32, t33, t34, (.agg #[.string key, .int .i64 i]), t36, t37, t38, t39, t40, t41, t42, t43, t44, t45, t46, t47, t48, t49, t50, t51, t52, t53, t54, t55, t56], defers := D } W := by
  refine wpAnyIn_ready rbf (by simp) ?_
  refine AllReadyIn.cons h0 (fun K hK => ?_) ?_
  ·go_simp
   exact hK _ _ (sabf)
  refine AllReadyIn.cons h2 (fun K hK => ?_) ?_
  ·go_simp
   exact hK _ _ (sbcf)
  refine AllReadyIn.cons h6 (fun K hK => ?_) ?_
  ·go_simp
   exact hK _ _ (sbfg)
  exact AllReadyIn.nil
 have sfg : wpAnyIn (Fence.wide.inRound l) 9 Tryd.prog .any ops Q 9 #[false, false, false, false, false, true, true, false, false, false, false] { tmps := #[t0, t1, (.pointer (some ⟨N, 0, none⟩)), t3, (.pointer (some ⟨Bs, 0, none⟩)), t5, t6, t7, t8, t9, t10, t11, t12, t13, t14, t15, t16, t17, t18, t19, t20, t21, t22, t23, t24, t25, t26, t27, t28, t29, t30, t31, t32, t33, t34, (.agg #[.string key, .int .i64 i]), (.slice (some ⟨W.heap.size, 0, none⟩) 1 1), t37, t38, t39, t40, t41, t42, t43, t44, t45, t46, t47, t48, t49, t50, t51, t52, t53, t54, t55, t56], defers := D } (W.alloc (.cells #[.string key, .int .i64 i] 60)) := by
  refine wpAnyIn_ready rfg (by simp) ?_
  refine AllReadyIn.cons h0 (fun K hK => ?_) ?_
  ·go_simp
   exact hK _ _ (safg)
  refine AllReadyIn.cons h1 (fun K hK => ?_) ?_
  ·go_simp
   exact hK _ _ (sbfg)
  exact AllReadyIn.nil
 have sa : wpAnyIn (Fence.wide.inRound l) 9 Tryd.prog .any ops Q 10 #[true, false, false, false, false, false, false, false, false, false, false] { tmps := #[t0, t1, (.pointer (some ⟨N, 0, none⟩)), t3, (.pointer (some ⟨Bs, 0, none⟩)), t5, t6, t7, t8, t9, t10, t11, t12, t13, t14, t15, t16, t17, t18, t19, t20, t21, t22, t23, t24, t25, t26, t27, t28, t29, (.pointer (some ⟨R, 0, none⟩)), t31, t32, t33, t34, t35, t36, t37, t38, t39, t40, t41, t42, t43, t44, t45, t46, t47, t48, t49, t50, t51, t52, t53, t54, t55, t56], defers := D } W := by
  refine wpAnyIn_ready ra (by simp) ?_
  refine AllReadyIn.cons h1 (fun K hK => ?_) ?_
  ·go_simp
   exact hK _ _ (sab)
  refine AllReadyIn.cons h5 (fun K hK => ?_) ?_
  ·go_simp
   exact hK _ _ (saf)
  exact AllReadyIn.nil
 have sb : wpAnyIn (Fence.wide.inRound l) 9 Tryd.prog .any ops Q 10 #[false, true, false, false, false, false, false, false, false, false, false] { tmps := #[t0, t1, (.pointer (some ⟨N, 0, none⟩)), t3, (.pointer (some ⟨Bs, 0, none⟩)), t5, t6, t7, t8, t9, t10, t11, t12, t13, t14, t15, t16, t17, t18, t19, t20, t21, t22, t23, t24, t25, t26, t27, t28, t29, t30, (.pointer (some ⟨R, 0, none⟩)), t32, t33, t34, t35, t36, t37, t38, t39, t40, t41, t42, t43, t44, t45, t46, t47, t48, t49, t50, t51, t52, t53, t54, t55, t56], defers := D } W := by
  refine wpAnyIn_ready rb (by simp) ?_
  refine AllReadyIn.cons h0 (fun K hK => ?_) ?_
  ·go_simp
   exact hK _ _ (sab)
  refine AllReadyIn.cons h2 (fun K hK => ?_) ?_
  ·go_simp
   exact hK _ _ (sbc)
  refine AllReadyIn.cons h5 (fun K hK => ?_) ?_
  ·go_simp
   exact hK _ _ (sbf)
  exact AllReadyIn.nil
 have sf : wpAnyIn (Fence.wide.inRound l) 9 Tryd.prog .any ops Q 10 #[false, false, false, false, false, true, false, false, false, false, false] { tmps := #[t0, t1, (.pointer (some ⟨N, 0, none⟩)), t3, (.pointer (some ⟨Bs, 0, none⟩)), t5, t6, t7, t8, t9, t10, t11, t12, t13, t14, t15, t16, t17, t18, t19, t20, t21, t22, t23, t24, t25, t26, t27, t28, t29, t30, t31, t32, t33, t34, (.agg #[.string key, .int .i64 i]), t36, t37, t38, t39, t40, t41, t42, t43, t44, t45, t46, t47, t48, t49, t50, t51, t52, t53, t54, t55, t56], defers := D } W := by
  refine wpAnyIn_ready rf (by simp) ?_
  refine AllReadyIn.cons h0 (fun K hK => ?_) ?_
  ·go_simp
   exact hK _ _ (saf)
  refine AllReadyIn.cons h1 (fun K hK => ?_) ?_
  ·go_simp
   exact hK _ _ (sbf)
  refine AllReadyIn.cons h6 (fun K hK => ?_) ?_
  ·go_simp
   exact hK _ _ (sfg)
  exact AllReadyIn.nil
 have s : wpAnyIn (Fence.wide.inRound l) 9 Tryd.prog .any ops Q 11 #[false, false, false, false, false, false, false, false, false, false, false] { tmps := #[t0, t1, (.pointer (some ⟨N, 0, none⟩)), t3, (.pointer (some ⟨Bs, 0, none⟩)), t5, t6, t7, t8, t9, t10, t11, t12, t13, t14, t15, t16, t17, t18, t19, t20, t21, t22, t23, t24, t25, t26, t27, t28, t29, t30, t31, t32, t33, t34, t35, t36, t37, t38, t39, t40, t41, t42, t43, t44, t45, t46, t47, t48, t49, t50, t51, t52, t53, t54, t55, t56], defers := D } W := by
  refine wpAnyIn_ready r (by simp) ?_
  refine AllReadyIn.cons h0 (fun K hK => ?_) ?_
  ·go_simp
   exact hK _ _ (sa)
  refine AllReadyIn.cons h1 (fun K hK => ?_) ?_
  ·go_simp
   exact hK _ _ (sb)
  refine AllReadyIn.cons h5 (fun K hK => ?_) ?_
  ·go_simp
   exact hK _ _ (sf)
  exact AllReadyIn.nil
 exact s
theorem visR8 {Q : Exit → Act → World → Prop} {ops : Array Oper} {D : List Deferred} {t0 t1 t3 t4 t5 t6 t7 t8 t9 t10 t11 t12 t13 t14 t15 t16 t17 t18 t19 t20 t21 t22 t23 t24 t25 t26 t27 t28 t29 t30 t31 t32 t33 t34 t35 t36 t37 t38 t39 t40 t41 t42 t43 t44 t45 t46 t47 t48 t49 t50 t51 t52 t53 t54 t55 t56 : Value} {l : Nat} {W : World} {R N n cp : Nat} {q : Option Addr} {q0 q1 q2 q3 q4 q5 q6 q7 q8 q9 q10 q11 q12 q13 q14 : String} {f0 f1 f2 f3 f4 f5 f6 f7 f8 f9 f10 f11 f12 f13 f14 : _}
  (h0 : ops[0]? = some { dst := some 43, op := .load 86 (.tmp 2), type := 86, pos := q0, after := f0, guard := none })
  (h1 : ops[1]? = some { dst := some 44, op := .load 86 (.tmp 2), type := 86, pos := q1, after := f1, guard := none })
  (h2 : ops[2]? = some { dst := some 45, op := .nilCheck (.tmp 44), type := 0, pos := q2, after := f2, guard := none })
  (h3 : ops[3]? = some { dst := some 46, op := .fieldAddr 65 (.tmp 45) 1, type := 0, pos := q3, after := f3, guard := none })
  (h4 : ops[4]? = some { dst := some 47, op := .load 27 (.tmp 46), type := 27, pos := q4, after := f4, guard := none })
  (h5 : ops[5]? = some { dst := some 48, op := .load 86 (.tmp 2), type := 86, pos := q5, after := f5, guard := none })
  (h6 : ops[6]? = some { dst := some 49, op := .nilCheck (.tmp 48), type := 0, pos := q6, after := f6, guard := none })
  (h7 : ops[7]? = some { dst := some 50, op := .fieldAddr 65 (.tmp 49) 1, type := 0, pos := q7, after := f7, guard := none })
  (h8 : ops[8]? = some { dst := some 51, op := .load 27 (.tmp 50), type := 27, pos := q8, after := f8, guard := none })
  (h9 : ops[9]? = some { dst := some 52, op := .call { callee := .builtin .len, args := #[.tmp 51], argTypes := #[27] }, type := 3, pos := q9, after := f9, guard := none })
  (h10 : ops[10]? = some { dst := some 53, op := .binOp .sub 3 (.tmp 52) (.const (.int .i64 1)) 3, type := 3, pos := q10, after := f10, guard := none })
  (h11 : ops[11]? = some { dst := some 54, op := .slice 27 (.tmp 47) none (some (.tmp 53)) none, type := 27, pos := q11, after := f11, guard := none })
  (h12 : ops[12]? = some { dst := some 55, op := .nilCheck (.tmp 43), type := 0, pos := q12, after := f12, guard := none })
  (h13 : ops[13]? = some { dst := some 56, op := .fieldAddr 65 (.tmp 55) 1, type := 0, pos := q13, after := f13, guard := none })
  (h14 : ops[14]? = some { dst := none, op := .store 27 (.tmp 56) (.tmp 54), type := 0, pos := q14, after := f14, guard := none })
  (rabcdefghijklmno : Region.ready .any ops #[true, true, true, true, true, true, true, true, true, true, true, true, true, true, true] = [])
  (rabcdefghijklmn : Region.ready .any ops #[true, true, true, true, true, true, true, true, true, true, true, true, true, true, false] = [14])
  (rabcdefghijklm : Region.ready .any ops #[true, true, true, true, true, true, true, true, true, true, true, true, true, false, false] = [13])
  (rabcdefghijkl : Region.ready .any ops #[true, true, true, true, true, true, true, true, true, true, true, true, false, false, false] = [12])
  (rabcdefghijk : Region.ready .any ops #[true, true, true, true, true, true, true, true, true, true, true, false, false, false, false] = [11])
  (rbcdefghijkl : Region.ready .any ops #[false, true, true, true, true, true, true, true, true, true, true, true, false, false, false] = [0])
  (rabcdefghij : Region.ready .any ops #[true, true, true, true, true, true, true, true, true, true, false, false, false, false, false] = [10])
  (rabcdfghijk : Region.ready .any ops #[true, true, true, true, false, true, true, true, true, true, true, false, false, false, false] = [4])
  (rbcdefghijk : Region.ready .any ops #[false, true, true, true, true, true, true, true, true, true, true, false, false, false, false] = [0, 11])
  (rabcdefghi : Region.ready .any ops #[true, true, true, true, true, true, true, true, true, false, false, false, false, false, false] = [9])
  (rabcdfghij : Region.ready .any ops #[true, true, true, true, false, true, true, true, true, true, false, false, false, false, false] = [4, 10])
  (rabcfghijk : Region.ready .any ops #[true, true, true, false, false, true, true, true, true, true, true, false, false, false, false] = [3])
  (rbcdefghij : Region.ready .any ops #[false, true, true, true, true, true, true, true, true, true, false, false, false, false, false] = [0, 10])
  (rbcdfghijk : Region.ready .any ops #[false, true, true, true, false, true, true, true, true, true, true, false, false, false, false] = [0, 4])
  (rabcdefgh : Region.ready .any ops #[true, true, true, true, true, true, true, true, false, false, false, false, false, false, false] = [8])
  (rabcdfghi : Region.ready .any ops #[true, true, true, true, false, true, true, true, true, false, false, false, false, false, false] = [4, 9])
  (rabcfghij : Region.ready .any ops #[true, true, true, false, false, true, true, true, true, true, false, false, false, false, false] = [3, 10])
  (rabfghijk : Region.ready .any ops #[true, true, false, false, false, true, true, true, true, true, true, false, false, false, false] = [2])
  (rbcdefghi : Region.ready .any ops #[false, true, true, true, true, true, true, true, true, false, false, false, false, false, false] = [0, 9])
  (rbcdfghij : Region.ready .any ops #[false, true, true, true, false, true, true, true, true, true, false, false, false, false, false] = [0, 4, 10])
  (rbcfghijk : Region.ready .any ops #[false, true, true, false, false, true, true, true, true, true, true, false, false, false, false] = [0, 3])
  (rabcdefg : Region.ready .any ops #[true, true, true, true, true, true, true, false, false, false, false, false, false, false, false] = [7])
  (rabcdfgh : Region.ready .any ops #[true, true, true, true, false, true, true, true, false, false, false, false, false, false, false] = [4, 8])
  (rabcfghi : Region.ready .any ops #[true, true, true, false, false, true, true, true, true, false, false, false, false, false, false] = [3, 9])
  (rabfghij : Region.ready .any ops #[true, true, false, false, false, true, true, true, true, true, false, false, false, false, false] = [2, 10])
  (rafghijk : Region.ready .any ops #[true, false, false, false, false, true, true, true, true, true, true, false, false, false, false] = [1])
  (rbcdefgh : Region.ready .any ops #[false, true, true, true, true, true, true, true, false, false, false, false, false, false, false] = [0, 8])
  (rbcdfghi : Region.ready .any ops #[false, true, true, true, false, true, true, true, true, false, false, false, false, false, false] = [0, 4, 9])
  (rbcfghij : Region.ready .any ops #[false, true, true, false, false, true, true, true, true, true, false, false, false, false, false] = [0, 3, 10])
  (rbfghijk : Region.ready .any ops #[false, true, false, false, false, true, true, true, true, true, true, false, false, false, false] = [0, 2])
  (rabcdef : Region.ready .any ops #[true, true, true, true, true, true, false, false, false, false, false, false, false, false, false] = [6])
  (rabcdfg : Region.ready .any ops #[true, true, true, true, false, true, true, false, false, false, false, false, false, false, false] = [4, 7])
  (rabcfgh : Region.ready .any ops #[true, true, true, false, false, true, true, true, false, false, false, false, false, false, false] = [3, 8])
  (rabfghi : Region.ready .any ops #[true, true, false, false, false, true, true, true, true, false, false, false, false, false, false] = [2, 9])
  (rafghij : Region.ready .any ops #[true, false, false, false, false, true, true, true, true, true, false, false, false, false, false] = [1, 10])
  (rbcdefg : Region.ready .any ops #[false, true, true, true, true, true, true, false, false, false, false, false, false, false, false] = [0, 7])
  (rbcdfgh : Region.ready .any ops #[false, true, true, true, false, true, true, true, false, false, false, false, false, false, false] = [0, 4, 8])
  (rbcfghi : Region.ready .any ops #[false, true, true, false, false, true, true, true, true, false, false, false, false, false, false] = [0, 3, 9])
  (rbfghij : Region.ready .any ops #[false, true, false, false, false, true, true, true, true, true, false, false, false, false, false] = [0, 2, 10])
  (rfghijk : Region.ready .any ops #[false, false, false, false, false, true, true, true, true, true, true, false, false, false, false] = [0, 1])
  (rabcde : Region.ready .any ops #[true, true, true, true, true, false, false, false, false, false, false, false, false, false, false] = [5])
  (rabcdf : Region.ready .any ops #[true, true, true, true, false, true, false, false, false, false, false, false, false, false, false] = [4, 6])
  (rabcfg : Region.ready .any ops #[true, true, true, false, false, true, true, false, false, false, false, false, false, false, false] = [3, 7])
  (rabfgh : Region.ready .any ops #[true, true, false, false, false, true, true, true, false, false, false, false, false, false, false] = [2, 8])
  (rafghi : Region.ready .any ops #[true, false, false, false, false, true, true, true, true, false, false, false, false, false, false] = [1, 9])
  (rbcdef : Region.ready .any ops #[false, true, true, true, true, true, false, false, false, false, false, false, false, false, false] = [0, 6])
  (rbcdfg : Region.ready .any ops #[false, true, true, true, false, true, true, false, false, false, false, false, false, false, false] = [0, 4, 7])
  (rbcfgh : Region.ready .any ops #[false, true, true, false, false, true, true, true, false, false, false, false, false, false, false] = [0, 3, 8])
  (rbfghi : Region.ready .any ops #[false, true, false, false, false, true, true, true, true, false, false, false, false, false, false] = [0, 2, 9])
  (rfghij : Region.ready .any ops #[false, false, false, false, false, true, true, true, true, true, false, false, false, false, false] = [0, 1, 10])
  (rabcd : Region.ready .any ops #[true, true, true, true, false, false, false, false, false, false, false, false, false, false, false] = [4, 5])
  (rabcf : Region.ready .any ops #[true, true, true, false, false, true, false, false, false, false, false, false, false, false, false] = [3, 6])
  (rabfg : Region.ready .any ops #[true, true, false, false, false, true, true, false, false, false, false, false, false, false, false] = [2, 7])
  (rafgh : Region.ready .any ops #[true, false, false, false, false, true, true, true, false, false, false, false, false, false, false] = [1, 8])
  (rbcde : Region.ready .any ops #[false, true, true, true, true, false, false, false, false, false, false, false, false, false, false] = [0, 5])
  (rbcdf : Region.ready .any ops #[false, true, true, true, false, true, false, false, false, false, false, false, false, false, false] = [0, 4, 6])
  (rbcfg : Region.ready .any ops #[false, true, true, false, false, true, true, false, false, false, false, false, false, false, false] = [0, 3, 7])
  (rbfgh : Region.ready .any ops #[false, true, false, false, false, true, true, true, false, false, false, false, false, false, false] = [0, 2, 8])
  (rfghi : Region.ready .any ops #[false, false, false, false, false, true, true, true, true, false, false, false, false, false, false] = [0, 1, 9])
  (rabc : Region.ready .any ops #[true, true, true, false, false, false, false, false, false, false, false, false, false, false, false] = [3, 5])
  (rabf : Region.ready .any ops #[true, true, false, false, false, true, false, false, false, false, false, false, false, false, false] = [2, 6])
  (rafg : Region.ready .any ops #[true, false, false, false, false, true, true, false, false, false, false, false, false, false, false] = [1, 7])
  (rbcd : Region.ready .any ops #[false, true, true, true, false, false, false, false, false, false, false, false, false, false, false] = [0, 4, 5])
  (rbcf : Region.ready .any ops #[false, true, true, false, false, true, false, false, false, false, false, false, false, false, false] = [0, 3, 6])
  (rbfg : Region.ready .any ops #[false, true, false, false, false, true, true, false, false, false, false, false, false, false, false] = [0, 2, 7])
  (rfgh : Region.ready .any ops #[false, false, false, false, false, true, true, true, false, false, false, false, false, false, false] = [0, 1, 8])
  (rab : Region.ready .any ops #[true, true, false, false, false, false, false, false, false, false, false, false, false, false, false] = [2, 5])
  (raf : Region.ready .any ops #[true, false, false, false, false, true, false, false, false, false, false, false, false, false, false] = [1, 6])
  (rbc : Region.ready .any ops #[false, true, true, false, false, false, false, false, false, false, false, false, false, false, false] = [0, 3, 5])
  (rbf : Region.ready .any ops #[false, true, false, false, false, true, false, false, false, false, false, false, false, false, false] = [0, 2, 6])
  (rfg : Region.ready .any ops #[false, false, false, false, false, true, true, false, false, false, false, false, false, false, false] = [0, 1, 7])
  (ra : Region.ready .any ops #[true, false, false, false, false, false, false, false, false, false, false, false, false, false, false] = [1, 5])
  (rb : Region.ready .any ops #[false, true, false, false, false, false, false, false, false, false, false, false, false, false, false] = [0, 2, 5])
  (rf : Region.ready .any ops #[false, false, false, false, false, true, false, false, false, false, false, false, false, false, false] = [0, 1, 6])
  (r : Region.ready .any ops #[false, false, false, false, false, false, false, false, false, false, false, false, false, false, false] = [0, 1, 5])
  (a0 : W.cell? ⟨N, 0, none⟩ = some (.pointer (some ⟨R, 0, none⟩))) (a1 : W.cell? ⟨R, 1, none⟩ = some (.slice q (n + 1) cp)) (af : W.frozen? ⟨R, 1, none⟩ = false) (i1 : n ≤ cp) (hw : IntKind.i64.wrap (n : Int) = (n : Int))
  (hQ : Q .normal { tmps := #[t0, t1, (.pointer (some ⟨N, 0, none⟩)), t3, t4, t5, t6, t7, t8, t9, t10, t11, t12, t13, t14, t15, t16, t17, t18, t19, t20, t21, t22, t23, t24, t25, t26, t27, t28, t29, t30, t31, t32, t33, t34, t35, t36, t37, t38, t39, t40, t41, t42, (.pointer (some ⟨R, 0, none⟩)), (.pointer (some ⟨R, 0, none⟩)), (.pointer (some ⟨R, 0, none⟩)), (.pointer (some ⟨R, 1, none⟩)), (.slice q (n + 1) cp), (.pointer (some ⟨R, 0, none⟩)), (.pointer (some ⟨R, 0, none⟩)), (.pointer (some ⟨R, 1, none⟩)), (.slice q (n + 1) cp), (.int .i64 ((n : Int) + 1)), (.int .i64 (n : Int)), (.slice q n cp), (.pointer (some ⟨R, 0, none⟩)), (.pointer (some ⟨R, 1, none⟩))], defers := D } (W.setCell ⟨R, 1, none⟩ (.slice q n cp))) :
  wpAnyIn (Fence.wide.inRound l) 9 Tryd.prog .any ops Q 15 #[false, false, false, false, false, false, false, false, false, false, false, false, false, false, false] { tmps := #[t0, t1, (.pointer (some ⟨N, 0, none⟩)), t3, t4, t5, t6, t7, t8, t9, t10, t11, t12, t13, t14, t15, t16, t17, t18, t19, t20, t21, t22, t23, t24, t25, t26, t27, t28, t29, t30, t31, t32, t33, t34, t35, t36, t37, t38, t39, t40, t41, t42, t43, t44, t45, t46, t47, t48, t49, t50, t51, t52, t53, t54, t55, t56], defers := D } W := by
 have sabcdefghijklmno : wpAnyIn (Fence.wide.inRound l) 9 Tryd.prog .any ops Q 0 #[true, true, true, true, true, true, true, true, true, true, true, true, true, true, true] { tmps := #[t0, t1, (.pointer (some ⟨N, 0, none⟩)), t3, t4, t5, t6, t7, t8, t9, t10, t11, t12, t13, t14, t15, t16, t17, t18, t19, t20, t21, t22, t23, t24, t25, t26, t27, t28, t29, t30, t31, t32, t33, t34, t35, t36, t37, t38, t39, t40, t41, t42, (.pointer (some ⟨R, 0, none⟩)), (.pointer (some ⟨R, 0, none⟩)), (.pointer (some ⟨R, 0, none⟩)), (.pointer (some ⟨R, 1, none⟩)), (.slice q (n + 1) cp), (.pointer (some ⟨R, 0, none⟩)), (.pointer (some ⟨R, 0, none⟩)), (.pointer (some ⟨R, 1, none⟩)), (.slice q (n + 1) cp), (.int .i64 ((n : Int) + 1)), (.int .i64 (n : Int)), (.slice q n cp), (.pointer (some ⟨R, 0, none⟩)), (.pointer (some ⟨R, 1, none⟩))], defers := D } (W.setCell ⟨R, 1, none⟩ (.slice q n cp)) := by
  exact wpAnyIn_done rabcdefghijklmno hQ _
 have sabcdefghijklmn : wpAnyIn (Fence.wide.inRound l) 9 Tryd.prog .any ops Q 1 #[true, true, true, true, true, true, true, true, true, true, true, true, true, true, false] { tmps := #[t0, t1, (.pointer (some ⟨N, 0, none⟩)), t3, t4, t5, t6, t7, t8, t9, t10, t11, t12, t13, t14, t15, t16, t17, t18, t19, t20, t21, t22, t23, t24, t25, t26, t27, t28, t29, t30, t31, t32, t33, t34, t35, t36, t37, t38, t39, t40, t41, t42, (.pointer (some ⟨R, 0, none⟩)), (.pointer (some ⟨R, 0, none⟩)), (.pointer (some ⟨R, 0, none⟩)), (.pointer (some ⟨R, 1, none⟩)), (.slice q (n + 1) cp), (.pointer (some ⟨R, 0, none⟩)), (.pointer (some ⟨R, 0, none⟩)), (.pointer (some ⟨R, 1, none⟩)), (.slice q (n + 1) cp), (.int .i64 ((n : Int) + 1)), (.int .i64 (n : Int)), (.slice q n cp), (.pointer (some ⟨R, 0, none⟩)), (.pointer (some ⟨R, 1, none⟩))], defers := D } W := by
  refine wpAnyIn_ready rabcdefghijklmn (by simp) ?_
  refine AllReadyIn.cons h14 (fun K hK => ?_) ?_
  ·go_simp
   exact hK _ _ (sabcdefghijklmno)
  exact AllReadyIn.nil
 have sabcdefghijklm : wpAnyIn (Fence.wide.inRound l) 9 Tryd.prog .any ops Q 2 #[true, true, true, true, true, true, true, true, true, true, true, true, true, false, false] { tmps := #[t0, t1, (.pointer (some ⟨N, 0, none⟩)), t3, t4, t5, t6, t7, t8, t9, t10, t11, t12, t13, t14, t15, t16, t17, t18, t19, t20, t21, t22, t23, t24, t25, t26, t27, t28, t29, t30, t31, t32, t33, t34, t35, t36, t37, t38, t39, t40, t41, t42, (.pointer (some ⟨R, 0, none⟩)), (.pointer (some ⟨R, 0, none⟩)), (.pointer (some ⟨R, 0, none⟩)), (.pointer (some ⟨R, 1, none⟩)), (.slice q (n + 1) cp), (.pointer (some ⟨R, 0, none⟩)), (.pointer (some ⟨R, 0, none⟩)), (.pointer (some ⟨R, 1, none⟩)), (.slice q (n + 1) cp), (.int .i64 ((n : Int) + 1)), (.int .i64 (n : Int)), (.slice q n cp), (.pointer (some ⟨R, 0, none⟩)), t56], defers := D } W := by
  refine wpAnyIn_ready rabcdefghijklm (by simp) ?_
  refine AllReadyIn.cons h13 (fun K hK => ?_) ?_
  ·go_simp
   exact hK _ _ (sabcdefghijklmn)
  exact AllReadyIn.nil
 have sabcdefghijkl : wpAnyIn (Fence.wide.inRound l) 9 Tryd.prog .any ops Q 3 #[true, true, true, true, true, true, true, true, true, true, true, true, false, false, false] { tmps := #[t0, t1, (.pointer (some ⟨N, 0, none⟩)), t3, t4, t5, t6, t7, t8, t9, t10, t11, t12, t13, t14, t15, t16, t17, t18, t19, t20, t21, t22, t23, t24, t25, t26, t27, t28, t29, t30, t31, t32, t33, t34, t35, t36, t37, t38, t39, t40, t41, t42, (.pointer (some ⟨R, 0, none⟩)), (.pointer (some ⟨R, 0, none⟩)), (.pointer (some ⟨R, 0, none⟩)), (.pointer (some ⟨R, 1, none⟩)), (.slice q (n + 1) cp), (.pointer (some ⟨R, 0, none⟩)), (.pointer (some ⟨R, 0, none⟩)), (.pointer (some ⟨R, 1, none⟩)), (.slice q (n + 1) cp), (.int .i64 ((n : Int) + 1)), (.int .i64 (n : Int)), (.slice q n cp), t55, t56], defers := D } W := by
  refine wpAnyIn_ready rabcdefghijkl (by simp) ?_
  refine AllReadyIn.cons h12 (fun K hK => ?_) ?_
  ·go_simp
   exact hK _ _ (sabcdefghijklm)
  exact AllReadyIn.nil
 have sabcdefghijk : wpAnyIn (Fence.wide.inRound l) 9 Tryd.prog .any ops Q 4 #[true, true, true, true, true, true, true, true, true, true, true, false, false, false, false] { tmps := #[t0, t1, (.pointer (some ⟨N, 0, none⟩)), t3, t4, t5, t6, t7, t8, t9, t10, t11, t12, t13, t14, t15, t16, t17, t18, t19, t20, t21, t22, t23, t24, t25, t26, t27, t28, t29, t30, t31, t32, t33, t34, t35, t36, t37, t38, t39, t40, t41, t42, (.pointer (some ⟨R, 0, none⟩)), (.pointer (some ⟨R, 0, none⟩)), (.pointer (some ⟨R, 0, none⟩)), (.pointer (some ⟨R, 1, none⟩)), (.slice q (n + 1) cp), (.pointer (some ⟨R, 0, none⟩)), (.pointer (some ⟨R, 0, none⟩)), (.pointer (some ⟨R, 1, none⟩)), (.slice q (n + 1) cp), (.int .i64 ((n : Int) + 1)), (.int .i64 (n : Int)), t54, t55, t56], defers := D } W := by
  refine wpAnyIn_ready rabcdefghijk (by simp) ?_
  refine AllReadyIn.cons h11 (fun K hK => ?_) ?_
  ·go_simp
   exact hK _ _ (sabcdefghijkl)
  exact AllReadyIn.nil
 have sbcdefghijkl : wpAnyIn (Fence.wide.inRound l) 9 Tryd.prog .any ops Q 4 #[false, true, true, true, true, true, true, true, true, true, true, true, false, false, false] { tmps := #[t0, t1, (.pointer (some ⟨N, 0, none⟩)), t3, t4, t5, t6, t7, t8, t9, t10, t11, t12, t13, t14, t15, t16, t17, t18, t19, t20, t21, t22, t23, t24, t25, t26, t27, t28, t29, t30, t31, t32, t33, t34, t35, t36, t37, t38, t39, t40, t41, t42, t43, (.pointer (some ⟨R, 0, none⟩)), (.pointer (some ⟨R, 0, none⟩)), (.pointer (some ⟨R, 1, none⟩)), (.slice q (n + 1) cp), (.pointer (some ⟨R, 0, none⟩)), (.pointer (some ⟨R, 0, none⟩)), (.pointer (some ⟨R, 1, none⟩)), (.slice q (n + 1) cp), (.int .i64 ((n : Int) + 1)), (.int .i64 (n : Int)), (.slice q n cp), t55, t56], defers := D } W := by
  refine wpAnyIn_ready rbcdefghijkl (by simp) ?_
  refine AllReadyIn.cons h0 (fun K hK => ?_) ?_
  ·go_simp
   exact hK _ _ (sabcdefghijkl)
  exact AllReadyIn.nil
 have sabcdefghij : wpAnyIn (Fence.wide.inRound l) 9 Tryd.prog .any ops Q 5 #[true, true, true, true, true, true, true, true, true, true, false, false, false, false, false] { tmps := #[t0, t1, (.pointer (some ⟨N, 0, none⟩)), t3, t4, t5, t6, t7, t8, t9, t10, t11, t12, t13, t14, t15, t16, t17, t18, t19, t20, t21, t22, t23, t24, t25, t26, t27, t28, t29, t30, t31, t32, t33, t34, t35, t36, t37, t38, t39, t40, t41, t42, (.pointer (some ⟨R, 0, none⟩)), (.pointer (some ⟨R, 0, none⟩)), (.pointer (some ⟨R, 0, none⟩)), (.pointer (some ⟨R, 1, none⟩)), (.slice q (n + 1) cp), (.pointer (some ⟨R, 0, none⟩)), (.pointer (some ⟨R, 0, none⟩)), (.pointer (some ⟨R, 1, none⟩)), (.slice q (n + 1) cp), (.int .i64 ((n : Int) + 1)), t53, t54, t55, t56], defers := D } W := by
  refine wpAnyIn_ready rabcdefghij (by simp) ?_
  refine AllReadyIn.cons h10 (fun K hK => ?_) ?_
  ·go_simp
   exact hK _ _ (sabcdefghijk)
  exact AllReadyIn.nil
 have sabcdfghijk : wpAnyIn (Fence.wide.inRound l) 9 Tryd.prog .any ops Q 5 #[true, true, true, true, false, true, true, true, true, true, true, false, false, false, false] { tmps := #[t0, t1, (.pointer (some ⟨N, 0, none⟩)), t3, t4, t5, t6, t7, t8, t9, t10, t11, t12, t13, t14, t15, t16, t17, t18, t19, t20, t21, t22, t23, t24, t25, t26, t27, t28, t29, t30, t31, t32, t33, t34, t35, t36, t37, t38, t39, t40, t41, t42, (.pointer (some ⟨R, 0, none⟩)), (.pointer (some ⟨R, 0, none⟩)), (.pointer (some ⟨R, 0, none⟩)), (.pointer (some ⟨R, 1, none⟩)), t47, (.pointer (some ⟨R, 0, none⟩)), (.pointer (some ⟨R, 0, none⟩)), (.pointer (some ⟨R, 1, none⟩)), (.slice q (n + 1) cp), (.int .i64 ((n : Int) + 1)), (.int .i64 (n : Int)), t54, t55, t56], defers := D } W := by
  refine wpAnyIn_ready rabcdfghijk (by simp) ?_
  refine AllReadyIn.cons h4 (fun K hK => ?_) ?_
  ·go_simp
   exact hK _ _ (sabcdefghijk)
  exact AllReadyIn.nil
 have sbcdefghijk : wpAnyIn (Fence.wide.inRound l) 9 Tryd.prog .any ops Q 5 #[false, true, true, true, true, true, true, true, true, true, true, false, false, false, false] { tmps := #[t0, t1, (.pointer (some ⟨N, 0, none⟩)), t3, t4, t5, t6, t7, t8, t9, t10, t11, t12, t13, t14, t15, t16, t17, t18, t19, t20, t21, t22, t23, t24, t25, t26, t27, t28, t29, t30, t31, t32, t33, t34, t35, t36, t37, t38, t39, t40, t41, t42, t43, (.pointer (some ⟨R, 0, none⟩)), (.pointer (some ⟨R, 0, none⟩)), (.pointer (some ⟨R, 1, none⟩)), (.slice q (n + 1) cp), (.pointer (some ⟨R, 0, none⟩)), (.pointer (some ⟨R, 0, none⟩)), (.pointer (some ⟨R, 1, none⟩)), (.slice q (n + 1) cp), (.int .i64 ((n : Int) + 1)), (.int .i64 (n : Int)), t54, t55, t56], defers := D } W := by
  refine wpAnyIn_ready rbcdefghijk (by simp) ?_
  refine AllReadyIn.cons h0 (fun K hK => ?_) ?_
  ·go_simp
   exact hK _ _ (sabcdefghijk)
  refine AllReadyIn.cons h11 (fun K hK => ?_) ?_
  ·go_simp
   exact hK _ _ (sbcdefghijkl)
  exact AllReadyIn.nil
 have sabcdefghi : wpAnyIn (Fence.wide.inRound l) 9 Tryd.prog .any ops Q 6 #[true, true, true, true, true, true, true, true, true, false, false, false, false, false, false] { tmps := #[t0, t1, (.pointer (some ⟨N, 0, none⟩)), t3, t4, t5, t6, t7, t8, t9, t10, t11, t12, t13, t14, t15, t16, t17, t18, t19, t20, t21, t22, t23, t24, t25, t26, t27, t28, t29, t30, t31, t32, t33, t34, t35, t36, t37, t38, t39, t40, t41, t42, (.pointer (some ⟨R, 0, none⟩)), (.pointer (some ⟨R, 0, none⟩)), (.pointer (some ⟨R, 0, none⟩)), (.pointer (some ⟨R, 1, none⟩)), (.slice q (n + 1) cp), (.pointer (some ⟨R, 0, none⟩)), (.pointer (some ⟨R, 0, none⟩)), (.pointer (some ⟨R, 1, none⟩)), (.slice q (n + 1) cp), t52, t53, t54, t55, t56], defers := D } W := by
  refine wpAnyIn_ready rabcdefghi (by simp) ?_
  refine AllReadyIn.cons h9 (fun K hK => ?_) ?_
  ·go_simp
   exact hK _ _ (sabcdefghij)
  exact AllReadyIn.nil
 have sabcdfghij : wpAnyIn (Fence.wide.inRound l) 9 Tryd.prog .any ops Q 6 #[true, true, true, true, false, true, true, true, true, true, false, false, false, false, false] { tmps := #[t0, t1, (.pointer (some ⟨N, 0, none⟩)), t3, t4, t5, t6, t7, t8, t9, t10, t11, t12, t13, t14, t15, t16, t17, t18, t19, t20, t21, t22, t23, t24, t25, t26, t27, t28, t29, t30, t31, t32, t33, t34, t35, t36, t37, t38, t39, t40, t41, t42, (.pointer (some ⟨R, 0, none⟩)), (.pointer (some ⟨R, 0, none⟩)), (.pointer (some ⟨R, 0, none⟩)), (.pointer (some ⟨R, 1, none⟩)), t47, (.pointer (some ⟨R, 0, none⟩)), (.pointer (some ⟨R, 0, none⟩)), (.pointer (some ⟨R, 1, none⟩)), (.slice q (n + 1) cp), (.int .i64 ((n : Int) + 1)), t53, t54, t55, t56], defers := D } W := by
  refine wpAnyIn_ready rabcdfghij (by simp) ?_
  refine AllReadyIn.cons h4 (fun K hK => ?_) ?_
  ·go_simp
   exact hK _ _ (sabcdefghij)
  refine AllReadyIn.cons h10 (fun K hK => ?_) ?_
  ·go_simp
   exact hK _ _ (sabcdfghijk)
  exact AllReadyIn.nil
 have sabcfghijk : wpAnyIn (Fence.wide.inRound l) 9 Tryd.prog .any ops Q 6 #[true, true, true, false, false, true, true, true, true, true, true, false, false, false, false] { tmps := #[t0, t1, (.pointer (some ⟨N, 0, none⟩)), t3, t4, t5, t6, t7, t8, t9, t10, t11, t12, t13, t14, t15, t16, t17, t18, t19, t20, t21, t22, t23, t24, t25, t26, t27, t28, t29, t30, t31, t32, t33, t34, t35, t36, t37, t38, t39, t40, t41, t42, (.pointer (some ⟨R, 0, none⟩)), (.pointer (some ⟨R, 0, none⟩)), (.pointer (some ⟨R, 0, none⟩)), t46, t47, (.pointer (some ⟨R, 0, none⟩)), (.pointer (some ⟨R, 0, none⟩)), (.pointer (some ⟨R, 1, none⟩)), (.slice q (n + 1) cp), (.int .i64 ((n : Int) + 1)), (.int .i64 (n : Int)), t54, t55, t56], defers := D } W := by
  refine wpAnyIn_ready rabcfghijk (by simp) ?_
  refine AllReadyIn.cons h3 (fun K hK => ?_) ?_
  ·go_simp
   exact hK _ _ (sabcdfghijk)
  exact AllReadyIn.nil
 have sbcdefghij : wpAnyIn (Fence.wide.inRound l) 9 Tryd.prog .any ops Q 6 #[false, true, true, true, true, true, true, true, true, true, false, false, false, false, false] { tmps := #[t0, t1, (.pointer (some ⟨N, 0, none⟩)), t3, t4, t5, t6, t7, t8, t9, t10, t11, t12, t13, t14, t15, t16, t17, t18, t19, t20, t21, t22, t23, t24, t25, t26, t27, t28, t29, t30, t31, t32, t33, t34, t35, t36, t37, t38, t39, t40, t41, t42, t43, (.pointer (some ⟨R, 0, none⟩)), (.pointer (some ⟨R, 0, none⟩)), (.pointer (some ⟨R, 1, none⟩)), (.slice q (n + 1) cp), (.pointer (some ⟨R, 0, none⟩)), (.pointer (some ⟨R, 0, none⟩)), (.pointer (some ⟨R, 1, none⟩)), (.slice q (n + 1) cp), (.int .i64 ((n : Int) + 1)), t53, t54, t55, t56], defers := D } W := by
  refine wpAnyIn_ready rbcdefghij (by simp) ?_
  refine AllReadyIn.cons h0 (fun K hK => ?_) ?_
  ·go_simp
   exact hK _ _ (sabcdefghij)
  refine AllReadyIn.cons h10 (fun K hK => ?_) ?_
  ·go_simp
   exact hK _ _ (sbcdefghijk)
  exact AllReadyIn.nil
 have sbcdfghijk : wpAnyIn (Fence.wide.inRound l) 9 Tryd.prog .any ops Q 6 #[false, true, true, true, false, true, true, true, true, true, true, false, false, false, false] { tmps := #[t0, t1, (.pointer (some ⟨N, 0, none⟩)), t3, t4, t5, t6, t7, t8, t9, t10, t11, t12, t13, t14, t15, t16, t17, t18, t19, t20, t21, t22, t23, t24, t25, t26, t27, t28, t29, t30, t31, t32, t33, t34, t35, t36, t37, t38, t39, t40, t41, t42, t43, (.pointer (some ⟨R, 0, none⟩)), (.pointer (some ⟨R, 0, none⟩)), (.pointer (some ⟨R, 1, none⟩)), t47, (.pointer (some ⟨R, 0, none⟩)), (.pointer (some ⟨R, 0, none⟩)), (.pointer (some ⟨R, 1, none⟩)), (.slice q (n + 1) cp), (.int .i64 ((n : Int) + 1)), (.int .i64 (n : Int)), t54, t55, t56], defers := D } W := by
  refine wpAnyIn_ready rbcdfghijk (by simp) ?_
  refine AllReadyIn.cons h0 (fun K hK => ?_) ?_
  ·go_simp
   exact hK _ _ (sabcdfghijk)
  refine AllReadyIn.cons h4 (fun K hK => ?_) ?_
  ·go_simp
   exact hK _ _ (sbcdefghijk)
  exact AllReadyIn.nil
 have sabcdefgh : wpAnyIn (Fence.wide.inRound l) 9 Tryd.prog .any ops Q 7 #[true, true, true, true, true, true, true, true, false, false, false, false, false, false, false] { tmps := #[t0, t1, (.pointer (some ⟨N, 0, none⟩)), t3, t4, t5, t6, t7, t8, t9, t10, t11, t12, t13, t14, t15, t16, t17, t18, t19, t20, t21, t22, t23, t24, t25, t26, t27, t28, t29, t30, t31, t32, t33, t34, t35, t36, t37, t38, t39, t40, t41, t42, (.pointer (some ⟨R, 0, none⟩)), (.pointer (some ⟨R, 0, none⟩)), (.pointer (some ⟨R, 0, none⟩)), (.pointer (some ⟨R, 1, none⟩)), (.slice q (n + 1) cp), (.pointer (some ⟨R, 0, none⟩)), (.pointer (some ⟨R, 0, none⟩)), (.pointer (some ⟨R, 1, none⟩)), t51, t52, t53, t54, t55, t56], defers := D } W := by
  refine wpAnyIn_ready rabcdefgh (by simp) ?_
  refine AllReadyIn.cons h8 (fun K hK => ?_) ?_
  ·go_simp
   exact hK _ _ (sabcdefghi)
  exact AllReadyIn.nil
 have sabcdfghi : wpAnyIn (Fence.wide.inRound l) 9 Tryd.prog .any ops Q 7 #[true, true, true, true, false, true, true, true, true, false, false, false, false, false, false] { tmps := #[t0, t1, (.pointer (some ⟨N, 0, none⟩)), t3, t4, t5, t6, t7, t8, t9, t10, t11, t12, t13, t14, t15, t16, t17, t18, t19, t20, t21, t22, t23, t24, t25, t26, t27, t28, t29, t30, t31, t32, t33, t34, t35, t36, t37, t38, t39, t40, t41, t42, (.pointer (some ⟨R, 0, none⟩)), (.pointer (some ⟨R, 0, none⟩)), (.pointer (some ⟨R, 0, none⟩)), (.pointer (some ⟨R, 1, none⟩)), t47, (.pointer (some ⟨R, 0, none⟩)), (.pointer (some ⟨R, 0, none⟩)), (.pointer (some ⟨R, 1, none⟩)), (.slice q (n + 1) cp), t52, t53, t54, t55, t56], defers := D } W := by
  refine wpAnyIn_ready rabcdfghi (by simp) ?_
  refine AllReadyIn.cons h4 (fun K hK => ?_) ?_
  ·go_simp
   exact hK _ _ (sabcdefghi)
  refine AllReadyIn.cons h9 (fun K hK => ?_) ?_
  ·go_simp
   exact hK _ _ (sabcdfghij)
  exact AllReadyIn.nil
 have sabcfghij : wpAnyIn (Fence.wide.inRound l) 9 Tryd.prog .any ops Q 7 #[true, true, true, false, false, true, true, true, true, true, false, false, false, false, false] { tmps := #[t0, t1, (.pointer (some ⟨N, 0, none⟩)), t3, t4, t5, t6, t7, t8, t9, t10, t11, t12, t13, t14, t15, t16, t17, t18, t19, t20, t21, t22, t23, t24, t25, t26, t27, t28, t29, t30, t31, t32, t33, t34, t35, t36, t37, t38, t39, t40, t41, t42, (.pointer (some ⟨R, 0, none⟩)), (.pointer (some ⟨R, 0, none⟩)), (.pointer (some ⟨R, 0, none⟩)), t46, t47, (.pointer (some ⟨R, 0, none⟩)), (.pointer (some ⟨R, 0, none⟩)), (.pointer (some ⟨R, 1, none⟩)), (.slice q (n + 1) cp), (.int .i64 ((n : Int) + 1)), t53, t54, t55, t56], defers := D } W := by
  refine wpAnyIn_ready rabcfghij (by simp) ?_
  refine AllReadyIn.cons h3 (fun K hK => ?_) ?_
  ·go_simp
   exact hK _ _ (sabcdfghij)
  refine AllReadyIn.cons h10 (fun K hK => ?_) ?_
  ·go_simp
   exact hK _ _ (sabcfghijk)
  exact AllReadyIn.nil
 have sabfghijk : wpAnyIn (Fence.wide.inRound l) 9 Tryd.prog .any ops Q 7 #[true, true, false, false, false, true, true, true, true, true, true, false, false, false, false] { tmps := #[t0, t1, (.pointer (some ⟨N, 0, none⟩)), t3, t4, t5, t6, t7, t8, t9, t10, t11, t12, t13, t14, t15, t16, t17, t18, t19, t20, t21, t22, t23, t24, t25, t26, t27, t28, t29, t30, t31, t32, t33, t34, t35, t36, t37, t38, t39, t40, t41, t42, (.pointer (some ⟨R, 0, none⟩)), (.pointer (some ⟨R, 0, none⟩)), t45, t46, t47, (.pointer (some ⟨R, 0, none⟩)), (.pointer (some ⟨R, 0, none⟩)), (.pointer (some ⟨R, 1, none⟩)), (.slice q (n + 1) cp), (.int .i64 ((n : Int) + 1)), (.int .i64 (n : Int)), t54, t55, t56], defers := D } W := by
  refine wpAnyIn_ready rabfghijk (by simp) ?_
  refine AllReadyIn.cons h2 (fun K hK => ?_) ?_
  ·go_simp
   exact hK _ _ (sabcfghijk)
  exact AllReadyIn.nil
 have sbcdefghi : wpAnyIn (Fence.wide.inRound l) 9 Tryd.prog .any ops Q 7 #[false, true, true, true, true, true, true, true, true, false, false, false, false, false, false] { tmps := #[t0, t1, (.pointer (some ⟨N, 0, none⟩)), t3, t4, t5, t6, t7, t8, t9, t10, t11, t12, t13, t14, t15, t16, t17, t18, t19, t20, t21, t22, t23, t24, t25, t26, t27, t28, t29, t30, t31, t32, t33, t34, t35, t36, t37, t38, t39, t40, t41, t42, t43, (.pointer (some ⟨R, 0, none⟩)), (.pointer (some ⟨R, 0, none⟩)), (.pointer (some ⟨R, 1, none⟩)), (.slice q (n + 1) cp), (.pointer (some ⟨R, 0, none⟩)), (.pointer (some ⟨R, 0, none⟩)), (.pointer (some ⟨R, 1, none⟩)), (.slice q (n + 1) cp), t52, t53, t54, t55, t56], defers := D } W := by
  refine wpAnyIn_ready rbcdefghi (by simp) ?_
  refine AllReadyIn.cons h0 (fun K hK => ?_) ?_
  ·go_simp
   exact hK _ _ (sabcdefghi)
  refine AllReadyIn.cons h9 (fun K hK => ?_) ?_
  ·go_simp
   exact hK _ _ (sbcdefghij)
  exact AllReadyIn.nil
 have sbcdfghij : wpAnyIn (Fence.wide.inRound l) 9 Tryd.prog .any ops Q 7 #[false, true, true, true, false, true, true, true, true, true, false, false, false, false, false] { tmps := #[t0, t1, (.pointer (some ⟨N, 0, none⟩)), t3, t4, t5, t6, t7, t8, t9, t10, t11, t12, t13, t14, t15, t16, t17, t18, t19, t20, t21, t22, t23, t24, t25, t26, t27, t28, t29, t30, t31, t32, t33, t34, t35, t36, t37, t38, t39, t40, t41, t42, t43, (.pointer (some ⟨R, 0, none⟩)), (.pointer (some ⟨R, 0, none⟩)), (.pointer (some ⟨R, 1, none⟩)), t47, (.pointer (some ⟨R, 0, none⟩)), (.pointer (some ⟨R, 0, none⟩)), (.pointer (some ⟨R, 1, none⟩)), (.slice q (n + 1) cp), (.int .i64 ((n : Int) + 1)), t53, t54, t55, t56], defers := D } W := by
  refine wpAnyIn_ready rbcdfghij (by simp) ?_
  refine AllReadyIn.cons h0 (fun K hK => ?_) ?_
  ·go_simp
   exact hK _ _ (sabcdfghij)
  refine AllReadyIn.cons h4 (fun K hK => ?_) ?_
  ·go_simp
   exact hK _ _ (sbcdefghij)
  refine AllReadyIn.cons h10 (fun K hK => ?_) ?_
  ·go_simp
   exact hK _ _ (sbcdfghijk)
  exact AllReadyIn.nil
 have sbcfghijk : wpAnyIn (Fence.wide.inRound l) 9 Tryd.prog .any ops Q 7 #[false, true, true, false, false, true, true, true, true, true, true, false, false, false, false] { tmps := #[t0, t1, (.pointer (some ⟨N, 0, none⟩)), t3, t4, t5, t6, t7, t8, t9, t10, t11, t12, t13, t14, t15, t16, t17, t18, t19, t20, t21, t22, t23, t24, t25, t26, t27, t28, t29, t30, t31, t32, t33, t34, t35, t36, t37, t38, t39, t40, t41, t42, t43, (.pointer (some ⟨R, 0, none⟩)), (.pointer (some ⟨R, 0, none⟩)), t46, t47, (.pointer (some ⟨R, 0, none⟩)), (.pointer (some ⟨R, 0, none⟩)), (.pointer (some ⟨R, 1, none⟩)), (.slice q (n + 1) cp), (.int .i64 ((n : Int) + 1)), (.int .i64 (n : Int)), t54, t55, t56], defers := D } W := by
  refine wpAnyIn_ready rbcfghijk (by simp) ?_
  refine AllReadyIn.cons h0 (fun K hK => ?_) ?_
  ·go_simp
   exact hK _ _ (sabcfghijk)
  refine AllReadyIn.cons h3 (fun K hK => ?_) ?_
  ·go_simp
   exact hK _ _ (sbcdfghijk)
  exact AllReadyIn.nil
 have sabcdefg : wpAnyIn (Fence.wide.inRound l) 9 Tryd.prog .any ops Q 8 #[true, true, true, true, true, true, true, false, false, false, false, false, false, false, false] { tmps := #[t0, t1, (.pointer (some ⟨N, 0, none⟩)), t3, t4, t5, t6, t7, t8, t9, t10, t11, t12, t13, t14, t15, t16, t17, t18, t19, t20, t21, t22, t23, t24, t25, t26, t27, t28, t29, t30, t31, t32, t33, t34, t35, t36, t37, t38, t39, t40, t41, t42, (.pointer (some ⟨R, 0, none⟩)), (.pointer (some ⟨R, 0, none⟩)), (.pointer (some ⟨R, 0, none⟩)), (.pointer (some ⟨R, 1, none⟩)), (.slice q (n + 1) cp), (.pointer (some ⟨R, 0, none⟩)), (.pointer (some ⟨R, 0, none⟩)), t50, t51, t52, t53, t54, t55, t56], defers := D } W := by
  refine wpAnyIn_ready rabcdefg (by simp) ?_
  refine AllReadyIn.cons h7 (fun K hK => ?_) ?_
  ·go_simp
   exact hK _ _ (sabcdefgh)
  exact AllReadyIn.nil
 have sabcdfgh : wpAnyIn (Fence.wide.inRound l) 9 Tryd.prog .any ops Q 8 #[true, true, true, true, false, true, true, true, false, false, false, false, false, false, false] { tmps := #[t0, t1, (.pointer (some ⟨N, 0, none⟩)), t3, t4, t5, t6, t7, t8, t9, t10, t11, t12, t13, t14, t15, t16, t17, t18, t19, t20, t21, t22, t23, t24, t25, t26, t27, t28, t29, t30, t31, t32, t33, t34, t35, t36, t37, t38, t39, t40, t41, t42, (.pointer (some ⟨R, 0, none⟩)), (.pointer (some ⟨R, 0, none⟩)), (.pointer (some ⟨R, 0, none⟩)), (.pointer (some ⟨R, 1, none⟩)), t47, (.pointer (some ⟨R, 0, none⟩)), (.pointer (some ⟨R, 0, none⟩)), (.pointer (some ⟨R, 1, none⟩)), t51, t52, t53, t54, t55, t56], defers := D } W := by
  refine wpAnyIn_ready rabcdfgh (by simp) ?_
  refine AllReadyIn.cons h4 (fun K hK => ?_) ?_
  ·go_simp
   exact hK _ _ (sabcdefgh)
  refine AllReadyIn.cons h8 (fun K hK => ?_) ?_
  ·go_simp
   exact hK _ _ (sabcdfghi)
  exact AllReadyIn.nil
 have sabcfghi : wpAnyIn (Fence.wide.inRound l) 9 Tryd.prog .any ops Q 8 #[true, true, true, false, false, true, true, true, true, false, false, false, false, false, false] { tmps := #[t0, t1, (.pointer (some ⟨N, 0, none⟩)), t3, t4, t5, t6, t7, t8, t9, t10, t11, t12, t13, t14, t15, t16, t17, t18, t19, t20, t21, t22, t23, t24, t25, t26, t27, t28, t29, t30, t31, t32, t33, t34, t35, t36, t37, t38, t39, t40, t41, t42, (.pointer (some ⟨R, 0, none⟩)), (.pointer (some ⟨R, 0, none⟩)), (.pointer (some ⟨R, 0, none⟩)), t46, t47, (.pointer (some ⟨R, 0, none⟩)), (.pointer (some ⟨R, 0, none⟩)), (.pointer (some ⟨R, 1, none⟩)), (.slice q (n + 1) cp), t52, t53, t54, t55, t56], defers := D } W := by
  refine wpAnyIn_ready rabcfghi (by simp) ?_
  refine AllReadyIn.cons h3 (fun K hK => ?_) ?_
  ·go_simp
   exact hK _ _ (sabcdfghi)
  refine AllReadyIn.cons h9 (fun K hK => ?_) ?_
  ·go_simp
   exact hK _ _ (sabcfghij)
  exact AllReadyIn.nil
 have sabfghij : wpAnyIn (Fence.wide.inRound l) 9 Tryd.prog .any ops Q 8 #[true, true, false, false, false, true, true, true, true, true, false, false, false, false, false] { tmps := #[t0, t1, (.pointer (some ⟨N, 0, none⟩)), t3, t4, t5, t6, t7, t8, t9, t10, t11, t12, t13, t14, t15, t16, t17, t18, t19, t20, t21, t22, t23, t24, t25, t26, t27, t28, t29, t30, t31, t32, t33, t34, t35, t36, t37, t38, t39, t40, t41, t42, (.pointer (some ⟨R, 0, none⟩)), (.pointer (some ⟨R, 0, none⟩)), t45, t46, t47, (.pointer (some ⟨R, 0, none⟩)), (.pointer (some ⟨R, 0, none⟩)), (.pointer (some ⟨R, 1, none⟩)), (.slice q (n + 1) cp), (.int .i64 ((n : Int) + 1)), t53, t54, t55, t56], defers := D } W := by
  refine wpAnyIn_ready rabfghij (by simp) ?_
  refine AllReadyIn.cons h2 (fun K hK => ?_) ?_
  ·go_simp
   exact hK _ _ (sabcfghij)
  refine AllReadyIn.cons h10 (fun K hK => ?_) ?_
  ·go_simp
   exact hK _ _ (sabfghijk)
  exact AllReadyIn.nil
 have safghijk : wpAnyIn (Fence.wide.inRound l) 9 Tryd.prog .any ops Q 8 #[true, false, false, false, false, true, true, true, true, true, true, false, false, false, false] { tmps := #[t0, t1, (.pointer (some ⟨N, 0, none⟩)), t3, t4, t5, t6, t7, t8, t9, t10, t11, t12, t13, t14, t15, t16, t17, t18, t19, t20, t21, t22, t23, t24, t25, t26, t27, t28, t29, t30, t31, t32, t33, t34, t35, t36, t37, t38, t39, t40, t41, t42, (.pointer (some ⟨R, 0, none⟩)), t44, t45, t46, t47, (.pointer (some ⟨R, 0, none⟩)), (.pointer (some ⟨R, 0, none⟩)), (.pointer (some ⟨R, 1, none⟩)), (.slice q (n + 1) cp), (.int .i64 ((n : Int) + 1)), (.int .i64 (n : Int)), t54, t55, t56], defers := D } W := by
  refine wpAnyIn_ready rafghijk (by simp) ?_
  refine AllReadyIn.cons h1 (fun K hK => ?_) ?_
  ·go_simp
   exact hK _ _ (sabfghijk)
  exact AllReadyIn.nil
 have sbcdefgh : wpAnyIn (Fence.wide.inRound l) 9 Tryd.prog .any ops Q 8 #[false, true, true, true, true, true, true, true, false, false, false, false, false, false, false] { tmps := #[t0, t1, (.pointer (some ⟨N, 0, none⟩)), t3, t4, t5, t6, t7, t8, t9, t10, t11, t12, t13, t14, t15, t16, t17, t18, t19, t20, t21, t22, t23, t24, t25, t26, t27, t28, t29, t30, t31, t32, t33, t34, t35, t36, t37, t38, t39, t40, t41, t42, t43, (.pointer (some ⟨R, 0, none⟩)), (.pointer (some ⟨R, 0, none⟩)), (.pointer (some ⟨R, 1, none⟩)), (.slice q (n + 1) cp), (.pointer (some ⟨R, 0, none⟩)), (.pointer (some ⟨R, 0, none⟩)), (.pointer (some ⟨R, 1, none⟩)), t51, t52, t53, t54, t55, t56], defers := D } W := by
  refine wpAnyIn_ready rbcdefgh (by simp) ?_
  refine AllReadyIn.cons h0 (fun K hK => ?_) ?_
  ·go_simp
   exact hK _ _ (sabcdefgh)
  refine AllReadyIn.cons h8 (fun K hK => ?_) ?_
  ·go_simp
   exact hK _ _ (sbcdefghi)
  exact AllReadyIn.nil
 have sbcdfghi : wpAnyIn (Fence.wide.inRound l) 9 Tryd.prog .any ops Q 8 #[false, true, true, true, false, true, true, true, true, false, false, false, false, false, false] { tmps := #[t0, t1, (.pointer (some ⟨N, 0, none⟩)), t3, t4, t5, t6, t7, t8, t9, t10, t11, t12, t13, t14, t15, t16, t17, t18, t19, t20, t21, t22, t23, t24, t25, t26, t27, t28, t29, t30, t31, t32, t33, t34, t35, t36, t37, t38, t39, t40, t41, t42, t43, (.pointer (some ⟨R, 0, none⟩)), (.pointer (some ⟨R, 0, none⟩)), (.pointer (some ⟨R, 1, none⟩)), t47, (.pointer (some ⟨R, 0, none⟩)), (.pointer (some ⟨R, 0, none⟩)), (.pointer (some ⟨R, 1, none⟩)), (.slice q (n + 1) cp), t52, t53, t54, t55, t56], defers := D } W := by
  refine wpAnyIn_ready rbcdfghi (by simp) ?_
  refine AllReadyIn.cons h0 (fun K hK => ?_) ?_
  ·go_simp
   exact hK _ _ (sabcdfghi)
  refine AllReadyIn.cons h4 (fun K hK => ?_) ?_
  ·go_simp
   exact hK _ _ (sbcdefghi)
  refine AllReadyIn.cons h9 (fun K hK => ?_) ?_
  ·go_simp
   exact hK _ _ (sbcdfghij)
  exact AllReadyIn.nil
 have sbcfghij : wpAnyIn (Fence.wide.inRound l) 9 Tryd.prog .any ops Q 8 #[false, true, true, false, false, true, true, true, true, true, false, false, false, false, false] { tmps := #[t0, t1, (.pointer (some ⟨N, 0, none⟩)), t3, t4, t5, t6, t7, t8, t9, t10, t11, t12, t13, t14, t15, t16, t17, t18, t19, t20, t21, t22, t23, t24, t25, t26, t27, t28, t29, t30, t31, t32, t33, t34, t35, t36, t37, t38, t39, t40, t41, t42, t43, (.pointer (some ⟨R, 0, none⟩)), (.pointer (some ⟨R, 0, none⟩)), t46, t47, (.pointer (some ⟨R, 0, none⟩)), (.pointer (some ⟨R, 0, none⟩)), (.pointer (some ⟨R, 1, none⟩)), (.slice q (n + 1) cp), (.int .i64 ((n : Int) + 1)), t53, t54, t55, t56], defers := D } W := by
  refine wpAnyIn_ready rbcfghij (by simp) ?_
  refine AllReadyIn.cons h0 (fun K hK => ?_) ?_
  ·go_simp
   exact hK _ _ (sabcfghij)
  refine AllReadyIn.cons h3 (fun K hK => ?_) ?_
  ·go_simp
   exact hK _ _ (sbcdfghij)
  refine AllReadyIn.cons h10 (fun K hK => ?_) ?_
  ·go_simp
   exact hK _ _ (sbcfghijk)
  exact AllReadyIn.nil
 have sbfghijk : wpAnyIn (Fence.wide.inRound l) 9 Tryd.prog .any ops Q 8 #[false, true, false, false, false, true, true, true, true, true, true, false, false, false, false] { tmps := #[t0, t1, (.pointer (some ⟨N, 0, none⟩)), t3, t4, t5, t6, t7, t8, t9, t10, t11, t12, t13, t14, t15, t16, t17, t18, t19, t20, t21, t22, t23, t24, t25, t26, t27, t28, t29, t30, t31, t32, t33, t34, t35, t36, t37, t38, t39, t40, t41, t42, t43, (.pointer (some ⟨R, 0, none⟩)), t45, t46, t47, (.pointer (some ⟨R, 0, none⟩)), (.pointer (some ⟨R, 0, none⟩)), (.pointer (some ⟨R, 1, none⟩)), (.slice q (n + 1) cp), (.int .i64 ((n : Int) + 1)), (.int .i64 (n : Int)), t54, t55, t56], defers := D } W := by
  refine wpAnyIn_ready rbfghijk (by simp) ?_
  refine AllReadyIn.cons h0 (fun K hK => ?_) ?_
  ·go_simp
   exact hK _ _ (sabfghijk)
  refine AllReadyIn.cons h2 (fun K hK => ?_) ?_
  ·go_simp
   exact hK _ _ (sbcfghijk)
  exact AllReadyIn.nil
 have sabcdef : wpAnyIn (Fence.wide.inRound l) 9 Tryd.prog .any ops Q 9 #[true, true, true, true, true, true, false, false, false, false, false, false, false, false, false] { tmps := #[t0, t1, (.pointer (some ⟨N, 0, none⟩)), t3, t4, t5, t6, t7, t8, t9, t10, t11, t12, t13, t14, t15, t16, t17, t18, t19, t20, t21, t22, t23, t24, t25, t26, t27, t28, t29, t30, t31, t32, t33, t34, t35, t36, t37, t38, t39, t40, t41, t42, (.pointer (some ⟨R, 0, none⟩)), (.pointer (some ⟨R, 0, none⟩)), (.pointer (some ⟨R, 0, none⟩)), (.pointer (some ⟨R, 1, none⟩)), (.slice q (n + 1) cp), (.pointer (some ⟨R, 0, none⟩)), t49, t50, t51, t52, t53, t54, t55, t56], defers := D } W := by
  refine wpAnyIn_ready rabcdef (by simp) ?_
  refine AllReadyIn.cons h6 (fun K hK => ?_) ?_
  ·go_simp
   exact hK _ _ (sabcdefg)
  exact AllReadyIn.nil
 have sabcdfg : wpAnyIn (Fence.wide.inRound l) 9 Tryd.prog .any ops Q 9 #[true, true, true, true, false, true, true, false, false, false, false, false, false, false, false] { tmps := #[t0, t1, (.pointer (some ⟨N, 0, none⟩)), t3, t4, t5, t6, t7, t8, t9, t10, t11, t12, t13, t14, t15, t16, t17, t18, t19, t20, t21, t22, t23, t24, t25, t26, t27, t28, t29, t30, t31, t32, t33, t34, t35, t36, t37, t38, t39, t40, t41, t42, (.pointer (some ⟨R, 0, none⟩)), (.pointer (some ⟨R, 0, none⟩)), (.pointer (some ⟨R, 0, none⟩)), (.pointer (some ⟨R, 1, none⟩)), t47, (.pointer (some ⟨R, 0, none⟩)), (.pointer (some ⟨R, 0, none⟩)), t50, t51, t52, t53, t54, t55, t56], defers := D } W := by
  refine wpAnyIn_ready rabcdfg (by simp) ?_
  refine AllReadyIn.cons h4 (fun K hK => ?_) ?_
  ·go_simp
   exact hK _ _ (sabcdefg)
  refine AllReadyIn.cons h7 (fun K hK => ?_) ?_
  ·go_simp
   exact hK _ _ (sabcdfgh)
  exact AllReadyIn.nil
 have sabcfgh : wpAnyIn (Fence.wide.inRound l) 9 Tryd.prog .any ops Q 9 #[true, true, true, false, false, true, true, true, false, false, false, false, false, false, false] { tmps := #[t0, t1, (.pointer (some ⟨N, 0, none⟩)), t3, t4, t5, t6, t7, t8, t9, t10, t11, t12, t13, t14, t15, t16, t17, t18, t19, t20, t21, t22, t23, t24, t25, t26, t27, t28, t29, t30, t31, t32, t33, t34, t35, t36, t37, t38, t39, t40, t41, t42, (.pointer (some ⟨R, 0, none⟩)), (.pointer (some ⟨R, 0, none⟩)), (.pointer (some ⟨R, 0, none⟩)), t46, t47, (.pointer (some ⟨R, 0, none⟩)), (.pointer (some ⟨R, 0, none⟩)), (.pointer (some ⟨R, 1, none⟩)), t51, t52, t53, t54, t55, t56], defers := D } W := by
  refine wpAnyIn_ready rabcfgh (by simp) ?_
  refine AllReadyIn.cons h3 (fun K hK => ?_) ?_
  ·go_simp
   exact hK _ _ (sabcdfgh)
  refine AllReadyIn.cons h8 (fun K hK => ?_) ?_
  ·go_simp
   exact hK _ _ (sabcfghi)
  exact AllReadyIn.nil
 have sabfghi : wpAnyIn (Fence.wide.inRound l) 9 Tryd.prog .any ops Q 9 #[true, true, false, false, false, true, true, true, true, false, false, false, false, false, false] { tmps := #[t0, t1, (.pointer (some ⟨N, 0, none⟩)), t3, t4, t5, t6, t7, t8, t9, t10, t11, t12, t13, t14, t15, t16, t17, t18, t19, t20, t21, t22, t23, t24, t25, t26, t27, t28, t29, t30, t31, t32, t33, t34, t35, t36, t37, t38, t39, t40, t41, t42, (.pointer (some ⟨R, 0, none⟩)), (.pointer (some ⟨R, 0, none⟩)), t45, t46, t47, (.pointer (some ⟨R, 0, none⟩)), (.pointer (some ⟨R, 0, none⟩)), (.pointer (some ⟨R, 1, none⟩)), (.slice q (n + 1) cp), t52, t53, t54, t55, t56], defers := D } W := by
  refine wpAnyIn_ready rabfghi (by simp) ?_
  refine AllReadyIn.cons h2 (fun K hK => ?_) ?_
  ·go_simp
   exact hK _ _ (sabcfghi)
  refine AllReadyIn.cons h9 (fun K hK => ?_) ?_
  ·go_simp
   exact hK _ _ (sabfghij)
  exact AllReadyIn.nil
 have safghij : wpAnyIn (Fence.wide.inRound l) 9 Tryd.prog .any ops Q 9 #[true, false, false, false, false, true, true, true, true, true, false, false, false, false, false] { tmps := #[t0, t1, (.pointer (some ⟨N, 0, none⟩)), t3, t4, t5, t6, t7, t8, t9, t10, t11, t12, t13, t14, t15, t16, t17, t18, t19, t20, t21, t22, t23, t24, t25, t26, t27, t28, t29, t30, t31, t32, t33, t34, t35, t36, t37, t38, t39, t40, t41, t42, (.pointer (some ⟨R, 0, none⟩)), t44, t45, t46, t47, (.pointer (some ⟨R, 0, none⟩)), (.pointer (some ⟨R, 0, none⟩)), (.pointer (some ⟨R, 1, none⟩)), (.slice q (n + 1) cp), (.int .i64 ((n : Int) + 1)), t53, t54, t55, t56], defers := D } W := by
  refine wpAnyIn_ready rafghij (by simp) ?_
  refine AllReadyIn.cons h1 (fun K hK => ?_) ?_
  ·go_simp
   exact hK _ _ (sabfghij)
  refine AllReadyIn.cons h10 (fun K hK => ?_) ?_
  ·go_simp
   exact hK _ _ (safghijk)
  exact AllReadyIn.nil
 have sbcdefg : wpAnyIn (Fence.wide.inRound l) 9 Tryd.prog .any ops Q 9 #[false, true, true, true, true, true, true, false, false, false, false, false, false, false, false] { tmps := #[t0, t1, (.pointer (some ⟨N, 0, none⟩)), t3, t4, t5, t6, t7, t8, t9, t10, t11, t12, t13, t14, t15, t16, t17, t18, t19, t20, t21, t22, t23, t24, t25, t26, t27, t28, t29, t30, t31, t32, t33, t34, t35, t36, t37, t38, t39, t40, t41, t42, t43, (.pointer (some ⟨R, 0, none⟩)), (.pointer (some ⟨R, 0, none⟩)), (.pointer (some ⟨R, 1, none⟩)), (.slice q (n + 1) cp), (.pointer (some ⟨R, 0, none⟩)), (.pointer (some ⟨R, 0, none⟩)), t50, t51, t52, t53, t54, t55, t56], defers := D } W := by
  refine wpAnyIn_ready rbcdefg (by simp) ?_
  refine AllReadyIn.cons h0 (fun K hK => ?_) ?_
  ·go_simp
   exact hK _ _ (sabcdefg)
  refine AllReadyIn.cons h7 (fun K hK => ?_) ?_
  ·go_simp
   exact hK _ _ (sbcdefgh)
  exact AllReadyIn.nil
 have sbcdfgh : wpAnyIn (Fence.wide.inRound l) 9 Tryd.prog .any ops Q 9 #[false, true, true, true, false, true, true, true, false, false, false, false, false, false, false] { tmps := #[t0, t1, (.pointer (some ⟨N, 0, none⟩)), t3, t4, t5, t6, t7, t8, t9, t10, t11, t12, t13, t14, t15, t16, t17, t18, t19, t20, t21, t22, t23, t24, t25, t26, t27, t28, t29, t30, t31, t32, t33, t34, t35, t36, t37, t38, t39, t40, t41, t42, t43, (.pointer (some ⟨R, 0, none⟩)), (.pointer (some ⟨R, 0, none⟩)), (.pointer (some ⟨R, 1, none⟩)), t47, (.pointer (some ⟨R, 0, none⟩)), (.pointer (some ⟨R, 0, none⟩)), (.pointer (some ⟨R, 1, none⟩)), t51, t52, t53, t54, t55, t56], defers := D } W := by
  refine wpAnyIn_ready rbcdfgh (by simp) ?_
  refine AllReadyIn.cons h0 (fun K hK => ?_) ?_
  ·go_simp
   exact hK _ _ (sabcdfgh)
  refine AllReadyIn.cons h4 (fun K hK => ?_) ?_
  ·go_simp
   exact hK _ _ (sbcdefgh)
  refine AllReadyIn.cons h8 (fun K hK => ?_) ?_
  ·go_simp
   exact hK _ _ (sbcdfghi)
  exact AllReadyIn.nil
 have sbcfghi : wpAnyIn (Fence.wide.inRound l) 9 Tryd.prog .any ops Q 9 #[false, true, true, false, false, true, true, true, true, false, false, false, false, false, false] { tmps := #[t0, t1, (.pointer (some ⟨N, 0, none⟩)), t3, t4, t5, t6, t7, t8, t9, t10, t11, t12, t13, t14, t15, t16, t17, t18, t19, t20, t21, t22, t23, t24, t25, t26, t27, t28, t29, t30, t31, t32, t33, t34, t35, t36, t37, t38, t39, t40, t41, t42, t43, (.pointer (some ⟨R, 0, none⟩)), (.pointer (some ⟨R, 0, none⟩)), t46, t47, (.pointer (some ⟨R, 0, none⟩)), (.pointer (some ⟨R, 0, none⟩)), (.pointer (some ⟨R, 1, none⟩)), (.slice q (n + 1) cp), t52, t53, t54, t55, t56], defers := D } W := by
  refine wpAnyIn_ready rbcfghi (by simp) ?_
  refine AllReadyIn.cons h0 (fun K hK => ?_) ?_
  ·go_simp
   exact hK _ _ (sabcfghi)
  refine AllReadyIn.cons h3 (fun K hK => ?_) ?_
  ·go_simp
   exact hK _ _ (sbcdfghi)
  refine AllReadyIn.cons h9 (fun K hK => ?_) ?_
  ·go_simp
   exact hK _ _ (sbcfghij)
  exact AllReadyIn.nil
 have sbfghij : wpAnyIn (Fence.wide.inRound l) 9 Tryd.prog .any ops Q 9 #[false, true, false, false, false, true, true, true, true, true, false, false, false, false, false] { tmps := #[t0, t1, (.pointer (some ⟨N, 0, none⟩)), t3, t4, t5, t6, t7, t8, t9, t10, t11, t12, t13, t14, t15, t16, t17, t18, t19, t20, t21, t22, t23, t24, t25, t26, t27, t28, t29, t30, t31, t32, t33, t34, t35, t36, t37, t38, t39, t40, t41, t42, t43, (.pointer (some ⟨R, 0, none⟩)), t45, t46, t47, (.pointer (some ⟨R, 0, none⟩)), (.pointer (some ⟨R, 0, none⟩)), (.pointer (some ⟨R, 1, none⟩)), (.slice q (n + 1) cp), (.int .i64 ((n : Int) + 1)), t53, t54, t55, t56], defers := D } W := by
  refine wpAnyIn_ready rbfghij (by simp) ?_
  refine AllReadyIn.cons h0 (fun K hK => ?_) ?_
  ·go_simp
   exact hK _ _ (sabfghij)
  refine AllReadyIn.cons h2 (fun K hK => ?_) ?_
  ·go_simp
   exact hK _ _ (sbcfghij)
  refine AllReadyIn.cons h10 (fun K hK => ?_) ?_
  ·go_simp
   exact hK _ _ (sbfghijk)
  exact AllReadyIn.nil
 have sfghijk : wpAnyIn (Fence.wide.inRound l) 9 Tryd.prog .any ops Q 9 #[false, false, false, false, false, true, true, true, true, true, true, false, false, false, false] { tmps := #[t0, t1, (.pointer (some ⟨N, 0, none⟩)), t3, t4, t5, t6, t7, t8, t9, t10, t11, t12, t13, t14, t15, t16, t17, t18, t19, t20, t21, t22, t23, t24, t25, t26, t27, t28, t29, t30, t31, t32, t33, t34, t35, t36, t37, t38, t39, t40, t41, t42, t43, t44, t45, t46, t47, (.pointer (some ⟨R, 0, none⟩)), (.pointer (some ⟨R, 0, none⟩)), (.pointer (some ⟨R, 1, none⟩)), (.slice q (n + 1) cp), (.int .i64 ((n : Int) + 1)), (.int .i64 (n : Int)), t54, t55, t56], defers := D } W := by
  refine wpAnyIn_ready rfghijk (by simp) ?_
  refine AllReadyIn.cons h0 (fun K hK => ?_) ?_
  ·go_simp
   exact hK _ _ (safghijk)
  refine AllReadyIn.cons h1 (fun K hK => ?_) ?_
  ·go_simp
   exact hK _ _ (sbfghijk)
  exact AllReadyIn.nil
 have sabcde : wpAnyIn (Fence.wide.inRound l) 9 Tryd.prog .any ops Q 10 #[true, true, true, true, true, false, false, false, false, false, false, false, false, false, false] { tmps := #[t0, t1, (.pointer (some ⟨N, 0, none⟩)), t3, t4, t5, t6, t7, t8, t9, t10, t11, t12, t13, t14, t15, t16, t17, t18, t19, t20, t21, t22, t23, t24, t25, t26, t27, t28, t29, t30, t31, t32, t33, t34, t35, t36, t37, t38, t39, t40, t41, t42, (.pointer (some ⟨R, 0, none⟩)), (.pointer (some ⟨R, 0, none⟩)), (.pointer (some ⟨R, 0, none⟩)), (.pointer (some ⟨R, 1, none⟩)), (.slice q (n + 1) cp), t48, t49, t50, t51, t52, t53, t54, t55, t56], defers := D } W := by
  refine wpAnyIn_ready rabcde (by simp) ?_
  refine AllReadyIn.cons h5 (fun K hK => ?_) ?_
  ·go_simp
   exact hK _ _ (sabcdef)
  exact AllReadyIn.nil
 have sabcdf : wpAnyIn (Fence.wide.inRound l) 9 Tryd.prog .any ops Q 10 #[true, true, true, true, false, true, false, false, false, false, false, false, false, false, false] { tmps := #[t0, t1, (.pointer (some ⟨N, 0, none⟩)), t3, t4, t5, t6, t7, t8, t9, t10, t11, t12, t13, t14, t15, t16, t17, t18, t19, t20, t21, t22, t23, t24, t25, t26, t27, t28, t29, t30, t31, t32, t33, t34, t35, t36, t37, t38, t39, t40, t41, t42, (.pointer (some ⟨R, 0, none⟩)), (.pointer (some ⟨R, 0, none⟩)), (.pointer (some ⟨R, 0, none⟩)), (.pointer (some ⟨R, 1, none⟩)), t47, (.pointer (some ⟨R, 0, none⟩)), t49, t50, t51, t52, t53, t54, t55, t56], defers := D } W := by
  refine wpAnyIn_ready rabcdf (by simp) ?_
  refine AllReadyIn.cons h4 (fun K hK => ?_) ?_
  ·go_simp
   exact hK _ _ (sabcdef)
  refine AllReadyIn.cons h6 (fun K hK => ?_) ?_
  ·go_simp
   exact hK _ _ (sabcdfg)
  exact AllReadyIn.nil
 have sabcfg : wpAnyIn (Fence.wide.inRound l) 9 Tryd.prog .any ops Q 10 #[true, true, true, false, false, true, true, false, false, false, false, false, false, false, false] { tmps := #[t0, t1, (.pointer (some ⟨N, 0, none⟩)), t3, t4, t5, t6, t7, t8, t9, t10, t11, t12, t13, t14, t15, t16, t17, t18, t19, t20, t21, t22, t23, t24, t25, t26, t27, t28, t29, t30, t31, t32, t33, t34, t35, t36, t37, t38, t39, t40, t41, t42, (.pointer (some ⟨R, 0, none⟩)), (.pointer (some ⟨R, 0, none⟩)), (.pointer (some ⟨R, 0, none⟩)), t46, t47, (.pointer (some ⟨R, 0, none⟩)), (.pointer (some ⟨R, 0, none⟩)), t50, t51, t52, t53, t54, t55, t56], defers := D } W := by
  refine wpAnyIn_ready rabcfg (by simp) ?_
  refine AllReadyIn.cons h3 (fun K hK => ?_) ?_
  ·go_simp
   exact hK _ _ (sabcdfg)
  refine AllReadyIn.cons h7 (fun K hK => ?_) ?_
  ·go_simp
   exact hK _ _ (sabcfgh)
  exact AllReadyIn.nil
 have sabfgh : wpAnyIn (Fence.wide.inRound l) 9 Tryd.prog .any ops Q 10 #[true, true, false, false, false, true, true, true, false, false, false, false, false, false, false] { tmps := #[t0, t1, (.pointer (some ⟨N, 0, none⟩)), t3, t4, t5, t6, t7, t8, t9, t10, t11, t12, t13, t14, t15, t16, t17, t18, t19, t20, t21, t22, t23, t24, t25, t26, t27, t28, t29, t30, t31, t32, t33, t34, t35, t36, t37, t38, t39, t40, t41, t42, (.pointer (some ⟨R, 0, none⟩)), (.pointer (some ⟨R, 0, none⟩)), t45, t46, t47, (.pointer (some ⟨R, 0, none⟩)), (.pointer (some ⟨R, 0, none⟩)), (.pointer (some ⟨R, 1, none⟩)), t51, t52, t53, t54, t55, t56], defers := D } W := by
  refine wpAnyIn_ready rabfgh (by simp) ?_
  refine AllReadyIn.cons h2 (fun K hK => ?_) ?_
  ·go_simp
   exact hK _ _ (sabcfgh)
  refine AllReadyIn.cons h8 (fun K hK => ?_) ?_
  ·go_simp
   exact hK _ _ (sabfghi)
  exact AllReadyIn.nil
 have safghi : wpAnyIn (Fence.wide.inRound l) 9 Tryd.prog .any ops Q 10 #[true, false, false, false, false, true, true, true, true, false, false, false, false, false, false] { tmps := #[t0, t1, (.pointer (some ⟨N, 0, none⟩)), t3, t4, t5, t6, t7, t8, t9, t10, t11, t12, t13, t14, t15, t16, t17, t18, t19, t20, t21, t22, t23, t24, t25, t26, t27, t28, t29, t30, t31, t32, t33, t34, t35, t36, t37, t38, t39, t40, t41, t42, (.pointer (some ⟨R, 0, none⟩)), t44, t45, t46, t47, (.pointer (some ⟨R, 0, none⟩)), (.pointer (some ⟨R, 0, none⟩)), (.pointer (some ⟨R, 1, none⟩)), (.slice q (n + 1) cp), t52, t53, t54, t55, t56], defers := D } W := by
  refine wpAnyIn_ready rafghi (by simp) ?_
  refine AllReadyIn.cons h1 (fun K hK => ?_) ?_
  ·go_simp
   exact hK _ _ (sabfghi)
  refine AllReadyIn.cons h9 (fun K hK => ?_) ?_
  ·go_simp
   exact hK _ _ (safghij)
  exact AllReadyIn.nil
 have sbcdef : wpAnyIn (Fence.wide.inRound l) 9 Tryd.prog .any ops Q 10 #[false, true, true, true, true, true, false, false, false, false, false, false, false, false, false] { tmps := #[t0, t1, (.pointer (some ⟨N, 0, none⟩)), t3, t4, t5, t6, t7, t8, t9, t10, t11, t12, t13, t14, t15, t16, t17, t18, t19, t20, t21, t22, t23, t24, t25, t26, t27, t28, t29, t30, t31, t32, t33, t34, t35, t36, t37, t38, t39, t40, t41, t42, t43, (.pointer (some ⟨R, 0, none⟩)), (.pointer (some ⟨R, 0, none⟩)), (.pointer (some ⟨R, 1, none⟩)), (.slice q (n + 1) cp), (.pointer (some ⟨R, 0, none⟩)), t49, t50, t51, t52, t53, t54, t55, t56], defers := D } W := by
  refine wpAnyIn_ready rbcdef (by simp) ?_
  refine AllReadyIn.cons h0 (fun K hK => ?_) ?_
  ·go_simp
   exact hK _ _ (sabcdef)
  refine AllReadyIn.cons h6 (fun K hK => ?_) ?_
  ·go_simp
   exact hK _ _ (sbcdefg)
  exact AllReadyIn.nil
 have sbcdfg : wpAnyIn (Fence.wide.inRound l) 9 Tryd.prog .any ops Q 10 #[false, true, true, true, false, true, true, false, false, false, false, false, false, false, false] { tmps := #[t0, t1, (.pointer (some ⟨N, 0, none⟩)), t3, t4, t5, t6, t7, t8, t9, t10, t11, t12, t13, t14, t15, t16, t17, t18, t19, t20, t21, t22, t23, t24, t25, t26, t27, t28, t29, t30, t31, t32, t33, t34, t35, t36, t37, t38, t39, t40, t41, t42, t43, (.pointer (some ⟨R, 0, none⟩)), (.pointer (some ⟨R, 0, none⟩)), (.pointer (some ⟨R, 1, none⟩)), t47, (.pointer (some ⟨R, 0, none⟩)), (.pointer (some ⟨R, 0, none⟩)), t50, t51, t52, t53, t54, t55, t56], defers := D } W := by
  refine wpAnyIn_ready rbcdfg (by simp) ?_
  refine AllReadyIn.cons h0 (fun K hK => ?_) ?_
  ·go_simp
   exact hK _ _ (sabcdfg)
  refine AllReadyIn.cons h4 (fun K hK => ?_) ?_
  ·go_simp
   exact hK _ _ (sbcdefg)
  refine AllReadyIn.cons h7 (fun K hK => ?_) ?_
  ·go_simp
   exact hK _ _ (sbcdfgh)
  exact AllReadyIn.nil
 have sbcfgh : wpAnyIn (Fence.wide.inRound l) 9 Tryd.prog .any ops Q 10 #[false, true, true, false, false, true, true, true, false, false, false, false, false, false, false] { tmps := #[t0, t1, (.pointer (some ⟨N, 0, none⟩)), t3, t4, t5, t6, t7, t8, t9, t10, t11, t12, t13, t14, t15, t16, t17, t18, t19, t20, t21, t22, t23, t24, t25, t26, t27, t28, t29, t30, t31, t32, t33, t34, t35, t36, t37, t38, t39, t40, t41, t42, t43, (.pointer (some ⟨R, 0, none⟩)), (.pointer (some ⟨R, 0, none⟩)), t46, t47, (.pointer (some ⟨R, 0, none⟩)), (.pointer (some ⟨R, 0, none⟩)), (.pointer (some ⟨R, 1, none⟩)), t51, t52, t53, t54, t55, t56], defers := D } W := by
  refine wpAnyIn_ready rbcfgh (by simp) ?_
  refine AllReadyIn.cons h0 (fun K hK => ?_) ?_
  ·go_simp
   exact hK _ _ (sabcfgh)
  refine AllReadyIn.cons h3 (fun K hK => ?_) ?_
  ·go_simp
   exact hK _ _ (sbcdfgh)
  refine AllReadyIn.cons h8 (fun K hK => ?_) ?_
  ·go_simp
   exact hK _ _ (sbcfghi)
  exact AllReadyIn.nil
 have sbfghi : wpAnyIn (Fence.wide.inRound l) 9 Tryd.prog .any ops Q 10 #[false, true, false, false, false, true, true, true, true, false, false, false, false, false, false] { tmps := #[t0, t1, (.pointer (some ⟨N, 0, none⟩)), t3, t4, t5, t6, t7, t8, t9, t10, t11, t12, t13, t14, t15, t16, t17, t18, t19, t20, t21, t22, t23, t24, t25, t26, t27, t28, t29, t30, t31, t32, t33, t34, t35, t36, t37, t38, t39, t40, t41, t42, t43, (.pointer (some ⟨R, 0, none⟩)), t45, t46, t47, (.pointer (some ⟨R, 0, none⟩)), (.pointer (some ⟨R, 0, none⟩)), (.pointer (some ⟨R, 1, none⟩)), (.slice q (n + 1) cp), t52, t53, t54, t55, t56], defers := D } W := by
  refine wpAnyIn_ready rbfghi (by simp) ?_
  refine AllReadyIn.cons h0 (fun K hK => ?_) ?_
  ·go_simp
   exact hK _ _ (sabfghi)
  refine AllReadyIn.cons h2 (fun K hK => ?_) ?_
  ·go_simp
   exact hK _ _ (sbcfghi)
  refine AllReadyIn.cons h9 (fun K hK => ?_) ?_
  ·go_simp
   exact hK _ _ (sbfghij)
  exact AllReadyIn.nil
 have sfghij : wpAnyIn (Fence.wide.inRound l) 9 Tryd.prog .any ops Q 10 #[false, false, false, false, false, true, true, true, true, true, false, false, false, false, false] { tmps := #[t0, t1, (.pointer (some ⟨N, 0, none⟩)), t3, t4, t5, t6, t7, t8, t9, t10, t11, t12, t13, t14, t15, t16, t17, t18, t19, t20, t21, t22, t23, t24, t25, t26, t27, t28, t29, t30, t31, t32, t33, t34, t35, t36, t37, t38, t39, t40, t41, t42, t43, t44, t45, t46, t47, (.pointer (some ⟨R, 0, none⟩)), (.pointer (some ⟨R, 0, none⟩)), (.pointer (some ⟨R, 1, none⟩)), (.slice q (n + 1) cp), (.int .i64 ((n : Int) + 1)), t53, t54, t55, t56], defers := D } W := by
  refine wpAnyIn_ready rfghij (by simp) ?_
  refine AllReadyIn.cons h0 (fun K hK => ?_) ?_
  ·go_simp
   exact hK _ _ (safghij)
  refine AllReadyIn.cons h1 (fun K hK => ?_) ?_
  ·go_simp
   exact hK _ _ (sbfghij)
  refine AllReadyIn.cons h10 (fun K hK => ?_) ?_
  ·go_simp
   exact hK _ _ (sfghijk)
  exact AllReadyIn.nil
 have sabcd : wpAnyIn (Fence.wide.inRound l) 9 Tryd.prog .any ops Q 11 #[true, true, true, true, false, false, false, false, false, false, false, false, false, false, false] { tmps := #[t0, t1, (.pointer (some ⟨N, 0, none⟩)), t3, t4, t5, t6, t7, t8, t9, t10, t11, t12, t13, t14, t15, t16, t17, t18, t19, t20, t21, t22, t23, t24, t25, t26, t27, t28, t29, t30, t31, t32, t33, t34, t35, t36, t37, t38, t39, t40, t41, t42, (.pointer (some ⟨R, 0, none⟩)), (.pointer (some ⟨R, 0, none⟩)), (.pointer (some ⟨R, 0, none⟩)), (.pointer (some ⟨R, 1, none⟩)), t47, t48, t49, t50, t51, t52, t53, t54, t55, t56], defers := D } W := by
  refine wpAnyIn_ready rabcd (by simp) ?_
  refine AllReadyIn.cons h4 (fun K hK => ?_) ?_
  ·go_simp
   exact hK _ _ (sabcde)
  refine AllReadyIn.cons h5 (fun K hK => ?_) ?_
  ·go_simp
   exact hK _ _ (sabcdf)
  exact AllReadyIn.nil
 have sabcf : wpAnyIn (Fence.wide.inRound l) 9 Tryd.prog .any ops Q 11 #[true, true, true, false, false, true, false, false, false, false, false, false, false, false, false] { tmps := #[t0, t1, (.pointer (some ⟨N, 0, none⟩)), t3, t4, t5, t6, t7, t8, t9, t10, t11, t12, t13, t14, t15, t16, t17, t18, t19, t20, t21, t22, t23, t24, t25, t26, t27, t28, t29, t30, t31, t32, t33, t34, t35, t36, t37, t38, t39, t40, t41, t42, (.pointer (some ⟨R, 0, none⟩)), (.pointer (some ⟨R, 0, none⟩)), (.pointer (some ⟨R, 0, none⟩)), t46, t47, (.pointer (some ⟨R, 0, none⟩)), t49, t50, t51, t52, t53, t54, t55, t56], defers := D } W := by
  refine wpAnyIn_ready rabcf (by simp) ?_
  refine AllReadyIn.cons h3 (fun K hK => ?_) ?_
  ·go_simp
   exact hK _ _ (sabcdf)
  refine AllReadyIn.cons h6 (fun K hK => ?_) ?_
  ·go_simp
   exact hK _ _ (sabcfg)
  exact AllReadyIn.nil
 have sabfg : wpAnyIn (Fence.wide.inRound l) 9 Tryd.prog .any ops Q 11 #[true, true, false, false, false, true, true, false, false, false, false, false, false, false, false] { tmps := #[t0, t1, (.pointer (some ⟨N, 0, none⟩)), t3, t4, t5, t6, t7, t8, t9, t10, t11, t12, t13, t14, t15, t16, t17, t18, t19, t20, t21, t22, t23, t24, t25, t26, t27, t28, t29, t30, t31, t32, t33, t34, t35, t36, t37, t38, t39, t40, t41, t42, (.pointer (some ⟨R, 0, none⟩)), (.pointer (some ⟨R, 0, none⟩)), t45, t46, t47, (.pointer (some ⟨R, 0, none⟩)), (.pointer (some ⟨R, 0, none⟩)), t50, t51, t52, t53, t54, t55, t56], defers := D } W := by
  refine wpAnyIn_ready rabfg (by simp) ?_
  refine AllReadyIn.cons h2 (fun K hK => ?_) ?_
  ·go_simp
   exact hK _ _ (sabcfg)
  refine AllReadyIn.cons h7 (fun K hK => ?_) ?_
  ·go_simp
   exact hK _ _ (sabfgh)
  exact AllReadyIn.nil
 have safgh : wpAnyIn (Fence.wide.inRound l) 9 Tryd.prog .any ops Q 11 #[true, false, false, false, false, true, true, true, false, false, false, false, false, false, false] { tmps := #[t0, t1, (.pointer (some ⟨N, 0, none⟩)), t3, t4, t5, t6, t7, t8, t9, t10, t11, t12, t13, t14, t15, t16, t17, t18, t19, t20, t21, t22, t23, t24, t25, t26, t27, t28, t29, t30, t31, t32, t33, t34, t35, t36, t37, t38, t39, t40, t41, t42, (.pointer (some ⟨R, 0, none⟩)), t44, t45, t46, t47, (.pointer (some ⟨R, 0, none⟩)), (.pointer (some ⟨R, 0, none⟩)), (.pointer (some ⟨R, 1, none⟩)), t51, t52, t53, t54, t55, t56], defers := D } W := by
  refine wpAnyIn_ready rafgh (by simp) ?_
  refine AllReadyIn.cons h1 (fun K hK => ?_) ?_
  ·go_simp
   exact hK _ _ (sabfgh)
  refine AllReadyIn.cons h8 (fun K hK => ?_) ?_
  ·go_simp
   exact hK _ _ (safghi)
  exact AllReadyIn.nil
 have sbcde : wpAnyIn (Fence.wide.inRound l) 9 Tryd.prog .any ops Q 11 #[false, true, true, true, true, false, false, false, false, false, false, false, false, false, false] { tmps := #[t0, t1, (.pointer (some ⟨N, 0, none⟩)), t3, t4, t5, t6, t7, t8, t9, t10, t11, t12, t13, t14, t15, t16, t17, t18, t19, t20, t21, t22, t23, t24, t25, t26, t27, t28, t29, t30, t31, t32, t33, t34, t35, t36, t37, t38, t39, t40, t41, t42, t43, (.pointer (some ⟨R, 0, none⟩)), (.pointer (some ⟨R, 0, none⟩)), (.pointer (some ⟨R, 1, none⟩)), (.slice q (n + 1) cp), t48, t49, t50, t51, t52, t53, t54, t55, t56], defers := D } W := by
  refine wpAnyIn_ready rbcde (by simp) ?_
  refine AllReadyIn.cons h0 (fun K hK => ?_) ?_
  ·go_simp
   exact hK _ _ (sabcde)
  refine AllReadyIn.cons h5 (fun K hK => ?_) ?_
  ·go_simp
   exact hK _ _ (sbcdef)
  exact AllReadyIn.nil
 have sbcdf : wpAnyIn (Fence.wide.inRound l) 9 Tryd.prog .any ops Q 11 #[false, true, true, true, false, true, false, false, false, false, false, false, false, false, false] { tmps := #[t0, t1, (.pointer (some ⟨N, 0, none⟩)), t3, t4, t5, t6, t7, t8, t9, t10, t11, t12, t13, t14, t15, t16, t17, t18, t19, t20, t21, t22, t23, t24, t25, t26, t27, t28, t29, t30, t31, t32, t33, t34, t35, t36, t37, t38, t39, t40, t41, t42, t43, (.pointer (some ⟨R, 0, none⟩)), (.pointer (some ⟨R, 0, none⟩)), (.pointer (some ⟨R, 1, none⟩)), t47, (.pointer (some ⟨R, 0, none⟩)), t49, t50, t51, t52, t53, t54, t55, t56], defers := D } W := by
  refine wpAnyIn_ready rbcdf (by simp) ?_
  refine AllReadyIn.cons h0 (fun K hK => ?_) ?_
  ·go_simp
   exact hK _ _ (sabcdf)
  refine AllReadyIn.cons h4 (fun K hK => ?_) ?_
  ·go_simp
   exact hK _ _ (sbcdef)
  refine AllReadyIn.cons h6 (fun K hK => ?_) ?_
  ·go_simp
   exact hK _ _ (sbcdfg)
  exact AllReadyIn.nil
 have sbcfg : wpAnyIn (Fence.wide.inRound l) 9 Tryd.prog .any ops Q 11 #[false, true, true, false, false, true, true, false, false, false, false, false, false, false, false] { tmps := #[t0, t1, (.pointer (some ⟨N, 0, none⟩)), t3, t4, t5, t6, t7, t8, t9, t10, t11, t12, t13, t14, t15, t16, t17, t18, t19, t20, t21, t22, t23, t24, t25, t26, t27, t28, t29, t30, t31, t32, t33, t34, t35, t36, t37, t38, t39, t40, t41, t42, t43, (.pointer (some ⟨R, 0, none⟩)), (.pointer (some ⟨R, 0, none⟩)), t46, t47, (.pointer (some ⟨R, 0, none⟩)), (.pointer (some ⟨R, 0, none⟩)), t50, t51, t52, t53, t54, t55, t56], defers := D } W := by
  refine wpAnyIn_ready rbcfg (by simp) ?_
  refine AllReadyIn.cons h0 (fun K hK => ?_) ?_
  ·go_simp
   exact hK _ _ (sabcfg)
  refine AllReadyIn.cons h3 (fun K hK => ?_) ?_
  ·go_simp
   exact hK _ _ (sbcdfg)
  refine AllReadyIn.cons h7 (fun K hK => ?_) ?_
  ·go_simp
   exact hK _ _ (sbcfgh)
  exact AllReadyIn.nil
 have sbfgh : wpAnyIn (Fence.wide.inRound l) 9 Tryd.prog .any ops Q 11 #[false, true, false, false, false, true, true, true, false, false, false, false, false, false, false] { tmps := #[t0, t1, (.pointer (some ⟨N, 0, none⟩)), t3, t4, t5, t6, t7, t8, t9, t10, t11, t12, t13, t14, t15, t16, t17, t18, t19, t20, t21, t22, t23, t24, t25, t26, t27, t28, t29, t30, t31, t32, t33, t34, t35, t36, t37, t38, t39, t40, t41, t42, t43, (.pointer (some ⟨R, 0, none⟩)), t45, t46, t47, (.pointer (some ⟨R, 0, none⟩)), (.pointer (some ⟨R, 0, none⟩)), (.pointer (some ⟨R, 1, none⟩)), t51, t52, t53, t54, t55, t56], defers := D } W := by
  refine wpAnyIn_ready rbfgh (by simp) ?_
  refine AllReadyIn.cons h0 (fun K hK => ?_) ?_
  ·go_simp
   exact hK _ _ (sabfgh)
  refine AllReadyIn.cons h2 (fun K hK => ?_) ?_
  ·go_simp
   exact hK _ _ (sbcfgh)
  refine AllReadyIn.cons h8 (fun K hK => ?_) ?_
  ·go_simp
   exact hK _ _ (sbfghi)
  exact AllReadyIn.nil
 have sfghi : wpAnyIn (Fence.wide.inRound l) 9 Tryd.prog .any ops Q 11 #[false, false, false, false, false, true, true, true, true, false, false, false, false, false, false] { tmps := #[t0, t1, (.pointer (some ⟨N, 0, none⟩)), t3, t4, t5, t6, t7, t8, t9, t10, t11, t12, t13, t14, t15, t16, t17, t18, t19, t20, t21, t22, t23, t24, t25, t26, t27, t28, t29, t30, t31, t32, t33, t34, t35, t36, t37, t38, t39, t40, t41, t42, t43, t44, t45, t46, t47, (.pointer (some ⟨R, 0, none⟩)), (.pointer (some ⟨R, 0, none⟩)), (.pointer (some ⟨R, 1, none⟩)), (.slice q (n + 1) cp), t52, t53, t54, t55, t56], defers := D } W := by
  refine wpAnyIn_ready rfghi (by simp) ?_
  refine AllReadyIn.cons h0 (fun K hK => ?_) ?_
  ·go_simp
   exact hK _ _ (safghi)
  refine AllReadyIn.cons h1 (fun K hK => ?_) ?_
  ·go_simp
   exact hK _ _ (sbfghi)
  refine AllReadyIn.cons h9 (fun K hK => ?_) ?_
  ·go_simp
   exact hK _ _ (sfghij)
  exact AllReadyIn.nil
 have sabc : wpAnyIn (Fence.wide.inRound l) 9 Tryd.prog .any ops Q 12 #[true, true, true, false, false, false, false, false, false, false, false, false, false, false, false] { tmps := #[t0, t1, (.pointer (some ⟨N, 0, none⟩)), t3, t4, t5, t6, t7, t8, t9, t10, t11, t12, t13, t14, t15, t16, t17, t18, t19, t20, t21, t22, t23, t24, t25, t26, t27, t28, t29, t30, t31, t32, t33, t34, t35, t36, t37, t38, t39, t40, t41, t42, (.pointer (some ⟨R, 0, none⟩)), (.pointer (some ⟨R, 0, none⟩)), (.pointer (some ⟨R, 0, none⟩)), t46, t47, t48, t49, t50, t51, t52, t53, t54, t55, t56], defers := D } W := by
  refine wpAnyIn_ready rabc (by simp) ?_
  refine AllReadyIn.cons h3 (fun K hK => ?_) ?_
  ·go_simp
   exact hK _ _ (sabcd)
  refine AllReadyIn.cons h5 (fun K hK => ?_) ?_
  ·go_simp
   exact hK _ _ (sabcf)
  exact AllReadyIn.nil
 have sabf : wpAnyIn (Fence.wide.inRound l) 9 Tryd.prog .any ops Q 12 #[true, true, false, false, false, true, false, false, false, false, false, false, false, false, false] { tmps := #[t0, t1, (.pointer (some ⟨N, 0, none⟩)), t3, t4, t5, t6, t7, t8, t9, t10, t11, t12, t13, t14, t15, t16, t17, t18, t19, t20, t21, t22, t23, t24, t25, t26, t27, t28, t29, t30, t31, t32, t33, t34, t35, t36, t37, t38, t39, t40, t41, t42, (.pointer (some ⟨R, 0, none⟩)), (.pointer (some ⟨R, 0, none⟩)), t45, t46, t47, (.pointer (some ⟨R, 0, none⟩)), t49, t50, t51, t52, t53, t54, t55, t56], defers := D } W := by
  refine wpAnyIn_ready rabf (by simp) ?_
  refine AllReadyIn.cons h2 (fun K hK => ?_) ?_
  ·go_simp
   exact hK _ _ (sabcf)
  refine AllReadyIn.cons h6 (fun K hK => ?_) ?_
  ·go_simp
   exact hK _ _ (sabfg)
  exact AllReadyIn.nil
 have safg : wpAnyIn (Fence.wide.inRound l) 9 Tryd.prog .any ops Q 12 #[true, false, false, false, false, true, true, false, false, false, false, false, false, false, false] { tmps := #[t0, t1, (.pointer (some ⟨N, 0, none⟩)), t3, t4, t5, t6, t7, t8, t9, t10, t11, t12, t13, t14, t15, t16, t17, t18, t19, t20, t21, t22, t23, t24, t25, t26, t27, t28, t29, t30, t31, t32, t33, t34, t35, t36, t37, t38, t39, t40, t41, t42, (.pointer (some ⟨R, 0, none⟩)), t44, t45, t46, t47, (.pointer (some ⟨R, 0, none⟩)), (.pointer (some ⟨R, 0, none⟩)), t50, t51, t52, t53, t54, t55, t56], defers := D } W := by
  refine wpAnyIn_ready rafg (by simp) ?_
  refine AllReadyIn.cons h1 (fun K hK => ?_) ?_
  ·go_simp
   exact hK _ _ (sabfg)
  refine AllReadyIn.cons h7 (fun K hK => ?_) ?_
  ·go_simp
   exact hK _ _ (safgh)
  exact AllReadyIn.nil
 have sbcd : wpAnyIn (Fence.wide.inRound l) 9 Tryd.prog .any ops Q 12 #[false, true, true, true, false, false, false, false, false, false, false, false, false, false, false] { tmps := #[t0, t1, (.pointer (some ⟨N, 0, none⟩)), t3, t4, t5, t6, t7, t8, t9, t10, t11, t12, t13, t14, t15, t16, t17, t18, t19, t20, t21, t22, t23, t24, t25, t26, t27, t28, t29, t30, t31, t32, t33, t34, t35, t36, t37, t38, t39, t40, t41, t42, t43, (.pointer (some ⟨R, 0, none⟩)), (.pointer (some ⟨R, 0, none⟩)), (.pointer (some ⟨R, 1, none⟩)), t47, t48, t49, t50, t51, t52, t53, t54, t55, t56], defers := D } W := by
  refine wpAnyIn_ready rbcd (by simp) ?_
  refine AllReadyIn.cons h0 (fun K hK => ?_) ?_
  ·go_simp
   exact hK _ _ (sabcd)
  refine AllReadyIn.cons h4 (fun K hK => ?_) ?_
  ·go_simp
   exact hK _ _ (sbcde)
  refine AllReadyIn.cons h5 (fun K hK => ?_) ?_
  ·go_simp
   exact hK _ _ (sbcdf)
  exact AllReadyIn.nil
 have sbcf : wpAnyIn (Fence.wide.inRound l) 9 Tryd.prog .any ops Q 12 #[false, true, true, false, false, true, false, false, false, false, false, false, false, false, false] { tmps := #[t0, t1, (.pointer (some ⟨N, 0, none⟩)), t3, t4, t5, t6, t7, t8, t9, t10, t11, t12, t13, t14, t15, t16, t17, t18, t19, t20, t21, t22, t23, t24, t25, t26, t27, t28, t29, t30, t31, t32, t33, t34, t35, t36, t37, t38, t39, t40, t41, t42, t43, (.pointer (some ⟨R, 0, none⟩)), (.pointer (some ⟨R, 0, none⟩)), t46, t47, (.pointer (some ⟨R, 0, none⟩)), t49, t50, t51, t52, t53, t54, t55, t56], defers := D } W := by
  refine wpAnyIn_ready rbcf (by simp) ?_
  refine AllReadyIn.cons h0 (fun K hK => ?_) ?_
  ·go_simp
   exact hK _ _ (sabcf)
  refine AllReadyIn.cons h3 (fun K hK => ?_) ?_
  ·go_simp
   exact hK _ _ (sbcdf)
  refine AllReadyIn.cons h6 (fun K hK => ?_) ?_
  ·go_simp
   exact hK _ _ (sbcfg)
  exact AllReadyIn.nil
 have sbfg : wpAnyIn (Fence.wide.inRound l) 9 Tryd.prog .any ops Q 12 #[false, true, false, false, false, true, true, false, false, false, false, false, false, false, false] { tmps := #[t0, t1, (.pointer (some ⟨N, 0, none⟩)), t3, t4, t5, t6, t7, t8, t9, t10, t11, t12, t13, t14, t15, t16, t17, t18, t19, t20, t21, t22, t23, t24, t25, t26, t27, t28, t29, t30, t31, t32, t33, t34, t35, t36, t37, t38, t39, t40, t41, t42, t43, (.pointer (some ⟨R, 0, none⟩)), t45, t46, t47, (.pointer (some ⟨R, 0, none⟩)), (.pointer (some ⟨R, 0, none⟩)), t50, t51, t52, t53, t54, t55, t56], defers := D } W := by
  refine wpAnyIn_ready rbfg (by simp) ?_
  refine AllReadyIn.cons h0 (fun K hK => ?_) ?_
  ·go_simp
   exact hK _ _ (sabfg)
  refine AllReadyIn.cons h2 (fun K hK => ?_) ?_
  ·go_simp
   exact hK _ _ (sbcfg)
  refine AllReadyIn.cons h7 (fun K hK => ?_) ?_
  ·go_simp
   exact hK _ _ (sbfgh)
  exact AllReadyIn.nil
 have sfgh : wpAnyIn (Fence.wide.inRound l) 9 Tryd.prog .any ops Q 12 #[false, false, false, false, false, true, true, true, false, false, false, false, false, false, false] { tmps := #[t0, t1, (.pointer (some ⟨N, 0, none⟩)), t3, t4, t5, t6, t7, t8, t9, t10, t11, t12, t13, t14, t15, t16, t17, t18, t19, t20, t21, t22, t23, t24, t25, t26, t27, t28, t29, t30, t31, t32, t33, t34, t35, t36, t37, t38, t39, t40, t41, t42, t43, t44, t45, t46, t47, (.pointer (some ⟨R, 0, none⟩)), (.pointer (some ⟨R, 0, none⟩)), (.pointer (some ⟨R, 1, none⟩)), t51, t52, t53, t54, t55, t56], defers := D } W := by
  refine wpAnyIn_ready rfgh (by simp) ?_
  refine AllReadyIn.cons h0 (fun K hK => ?_) ?_
  ·go_simp
   exact hK _ _ (safgh)
  refine AllReadyIn.cons h1 (fun K hK => ?_) ?_
  ·go_simp
   exact hK _ _ (sbfgh)
  refine AllReadyIn.cons h8 (fun K hK => ?_) ?_
  ·go_simp
   exact hK _ _ (sfghi)
  exact AllReadyIn.nil
 have sab : wpAnyIn (Fence.wide.inRound l) 9 Tryd.prog .any ops Q 13 #[true, true, false, false, false, false, false, false, false, false, false, false, false, false, false] { tmps := #[t0, t1, (.pointer (some ⟨N, 0, none⟩)), t3, t4, t5, t6, t7, t8, t9, t10, t11, t12, t13, t14, t15, t16, t17, t18, t19, t20, t21, t22, t23, t24, t25, t26, t27, t28, t29, t30, t31, t32, t33, t34, t35, t36, t37, t38, t39, t40, t41, t42, (.pointer (some ⟨R, 0, none⟩)), (.pointer (some ⟨R, 0, none⟩)), t45, t46, t47, t48, t49, t50, t51, t52, t53, t54, t55, t56], defers := D } W := by
  refine wpAnyIn_ready rab (by simp) ?_
  refine AllReadyIn.cons h2 (fun K hK => ?_) ?_
  ·go_simp
   exact hK _ _ (sabc)
  refine AllReadyIn.cons h5 (fun K hK => ?_) ?_
  ·go_simp
   exact hK _ _ (sabf)
  exact AllReadyIn.nil
 have saf : wpAnyIn (Fence.wide.inRound l) 9 Tryd.prog .any ops Q 13 #[true, false, false, false, false, true, false, false, false, false, false, false, false, false, false] { tmps := #[t0, t1, (.pointer (some ⟨N, 0, none⟩)), t3, t4, t5, t6, t7, t8, t9, t10, t11, t12, t13, t14, t15, t16, t17, t18, t19, t20, t21, t22, t23, t24, t25, t26, t27, t28, t29, t30, t31, t32, t33, t34, t35, t36, t37, t38, t39, t40, t41, t42, (.pointer (some ⟨R, 0, none⟩)), t44, t45, t46, t47, (.pointer (some ⟨R, 0, none⟩)), t49, t50, t51, t52, t53, t54, t55, t56], defers := D } W := by
  refine wpAnyIn_ready raf (by simp) ?_
  refine AllReadyIn.cons h1 (fun K hK => ?_) ?_
  ·go_simp
   exact hK _ _ (sabf)
  refine AllReadyIn.cons h6 (fun K hK => ?_) ?_
  ·go_simp
   exact hK _ _ (safg)
  exact AllReadyIn.nil
 have sbc : wpAnyIn (Fence.wide.inRound l) 9 Tryd.prog .any ops Q 13 #[false, true, true, false, false, false, false, false, false, false, false, false, false, false, false] { tmps := #[t0, t1, (.pointer (some ⟨N, 0, none⟩)), t3, t4, t5, t6, t7, t8, t9, t10, t11, t12, t13, t14, t15, t16, t17, t18, t19, t20, t21, t22, t23, t24, t25, t26, t27, t28, t29, t30, t31, t32, t33, t34, t35, t36, t37, t38, t39, t40, t41, t42, t43, (.pointer (some ⟨R, 0, none⟩)), (.pointer (some ⟨R, 0, none⟩)), t46, t47, t48, t49, t50, t51, t52, t53, t54, t55, t56], defers := D } W := by
  refine wpAnyIn_ready rbc (by simp) ?_
  refine AllReadyIn.cons h0 (fun K hK => ?_) ?_
  ·go_simp
   exact hK _ _ (sabc)
  refine AllReadyIn.cons h3 (fun K hK => ?_) ?_
  ·go_simp
   exact hK _ _ (sbcd)
  refine AllReadyIn.cons h5 (fun K hK => ?_) ?_
  ·go_simp
   exact hK _ _ (sbcf)
  exact AllReadyIn.nil
 have sbf : wpAnyIn (Fence.wide.inRound l) 9 Tryd.prog .any ops Q 13 #[false, true, false, false, false, true, false, false, false, false, false, false, false, false, false] { tmps := #[t0, t1, (.pointer (some ⟨N, 0, none⟩)), t3, t4, t5, t6, t7, t8, t9, t10, t11, t12, t13, t14, t15, t16, t17, t18, t19, t20, t21, t22, t23, t24, t25, t26, t27, t28, t29, t30, t31, t32, t33, t34, t35, t36, t37, t38, t39, t40, t41, t42, t43, (.pointer (some ⟨R, 0, none⟩)), t45, t46, t47, (.pointer (some ⟨R, 0, none⟩)), t49, t50, t51, t52, t53, t54, t55, t56], defers := D } W := by
  refine wpAnyIn_ready rbf (by simp) ?_
  refine AllReadyIn.cons h0 (fun K hK => ?_) ?_
  ·go_simp
   exact hK _ _ (sabf)
  refine AllReadyIn.cons h2 (fun K hK => ?_) ?_
  ·go_simp
   exact hK _ _ (sbcf)
  refine AllReadyIn.cons h6 (fun K hK => ?_) ?_
  ·go_simp
   exact hK _ _ (sbfg)
  exact AllReadyIn.nil
 have sfg : wpAnyIn (Fence.wide.inRound l) 9 Tryd.prog .any ops Q 13 #[false, false, false, false, false, true, true, false, false, false, false, false, false, false, false] { tmps := #[t0, t1, (.pointer (some ⟨N, 0, none⟩)), t3, t4, t5, t6, t7, t8, t9, t10, t11, t12, t13, t14, t15, t16, t17, t18, t19, t20, t21, t22, t23, t24, t25, t26, t27, t28, t29, t30, t31, t32, t33, t34, t35, t36, t37, t38, t39, t40, t41, t42, t43, t44, t45, t46, t47, (.pointer (some ⟨R, 0, none⟩)), (.pointer (some ⟨R, 0, none⟩)), t50, t51, t52, t53, t54, t55, t56], defers := D } W := by
  refine wpAnyIn_ready rfg (by simp) ?_
  refine AllReadyIn.cons h0 (fun K hK => ?_) ?_
  ·go_simp
   exact hK _ _ (safg)
  refine AllReadyIn.cons h1 (fun K hK => ?_) ?_
  ·go_simp
   exact hK _ _ (sbfg)
  refine AllReadyIn.cons h7 (fun K hK => ?_) ?_
  ·go_simp
   exact hK _ _ (sfgh)
  exact AllReadyIn.nil
 have sa : wpAnyIn (Fence.wide.inRound l) 9 Tryd.prog .any ops Q 14 #[true, false, false, false, false, false, false, false, false, false, false, false, false, false, false] { tmps := #[t0, t1, (.pointer (some ⟨N, 0, none⟩)), t3, t4, t5, t6, t7, t8, t9, t10, t11, t12, t13, t14, t15, t16, t17, t18, t19, t20, t21, t22, t23, t24, t25, t26, t27, t28, t29, t30, t31, t32, t33, t34, t35, t36, t37, t38, t39, t40, t41, t42, (.pointer (some ⟨R, 0, none⟩)), t44, t45, t46, t47, t48, t49, t50, t51, t52, t53, t54, t55, t56], defers := D } W := by
  refine wpAnyIn_ready ra (by simp) ?_
  refine AllReadyIn.cons h1 (fun K hK => ?_) ?_
  ·go_simp
   exact hK _ _ (sab)
  refine AllReadyIn.cons h5 (fun K hK => ?_) ?_
  ·go_simp
   exact hK _ _ (saf)
  exact AllReadyIn.nil
 have sb : wpAnyIn (Fence.wide.inRound l) 9 Tryd.prog .any ops Q 14 #[false, true, false, false, false, false, false, false, false, false, false, false, false, false, false] { tmps := #[t0, t1, (.pointer (some ⟨N, 0, none⟩)), t3, t4, t5, t6, t7, t8, t9, t10, t11, t12, t13, t14, t15, t16, t17, t18, t19, t20, t21, t22, t23, t24, t25, t26, t27, t28, t29, t30, t31, t32, t33, t34, t35, t36, t37, t38, t39, t40, t41, t42, t43, (.pointer (some ⟨R, 0, none⟩)), t45, t46, t47, t48, t49, t50, t51, t52, t53, t54, t55, t56], defers := D } W := by
  refine wpAnyIn_ready rb (by simp) ?_
  refine AllReadyIn.cons h0 (fun K hK => ?_) ?_
  ·go_simp
   exact hK _ _ (sab)
  refine AllReadyIn.cons h2 (fun K hK => ?_) ?_
  ·go_simp
   exact hK _ _ (sbc)
  refine AllReadyIn.cons h5 (fun K hK => ?_) ?_
  ·go_simp
   exact hK _ _ (sbf)
  exact AllReadyIn.nil
 have sf : wpAnyIn (Fence.wide.inRound l) 9 Tryd.prog .any ops Q 14 #[false, false, false, false, false, true, false, false, false, false, false, false, false, false, false] { tmps := #[t0, t1, (.pointer (some ⟨N, 0, none⟩)), t3, t4, t5, t6, t7, t8, t9, t10, t11, t12, t13, t14, t15, t16, t17, t18, t19, t20, t21, t22, t23, t24, t25, t26, t27, t28, t29, t30, t31, t32, t33, t34, t35, t36, t37, t38, t39, t40, t41, t42, t43, t44, t45, t46, t47, (.pointer (some ⟨R, 0, none⟩)), t49, t50, t51, t52, t53, t54, t55, t56], defers := D } W := by
  refine wpAnyIn_ready rf (by simp) ?_
  refine AllReadyIn.cons h0 (fun K hK => ?_) ?_
  ·go_simp
   exact hK _ _ (saf)
  refine AllReadyIn.cons h1 (fun K hK => ?_) ?_
  ·go_simp
   exact hK _ _ (sbf)
  refine AllReadyIn.cons h6 (fun K hK => ?_) ?_
  ·go_simp
   exact hK _ _ (sfg)
  exact AllReadyIn.nil
 have s : wpAnyIn (Fence.wide.inRound l) 9 Tryd.prog .any ops Q 15 #[false, false, false, false, false, false, false, false, false, false, false, false, false, false, false] { tmps := #[t0, t1, (.pointer (some ⟨N, 0, none⟩)), t3, t4, t5, t6, t7, t8, t9, t10, t11, t12, t13, t14, t15, t16, t17, t18, t19, t20, t21, t22, t23, t24, t25, t26, t27, t28, t29, t30, t31, t32, t33, t34, t35, t36, t37, t38, t39, t40, t41, t42, t43, t44, t45, t46, t47, t48, t49, t50, t51, t52, t53, t54, t55, t56], defers := D } W := by
  refine wpAnyIn_ready r (by simp) ?_
  refine AllReadyIn.cons h0 (fun K hK => ?_) ?_
  ·go_simp
   exact hK _ _ (sa)
  refine AllReadyIn.cons h1 (fun K hK => ?_) ?_
  ·go_simp
   exact hK _ _ (sb)
  refine AllReadyIn.cons h5 (fun K hK => ?_) ?_
  ·go_simp
   exact hK _ _ (sf)
  exact AllReadyIn.nil
 exact s
end Go.Proofs.YtadaehaemmelfaaDoor.paths
namespace Go.Proofs.YtadaehaemmelfaaDoor.paths
open Go.RowKit Go.Shelf
attribute [local go_sem] Oper.semAt_some
theorem ofR4 {Q : Exit → Act → World → Prop} {ops : Array Oper} {D : List Deferred} {t0 t1 t4 t5 t7 t8 t9 t10 t11 t12 t13 t14 t15 t16 t17 t18 t19 t20 t21 : Value} {W X Y : World} {R Bs : Nat} {qv qa qc qd : Option Addr} {nv cv na ca nc cc nd cd : Nat} {key : ByteArray} {i : Int} {q0 q1 q2 q3 q4 q5 q6 q7 : String} {f0 f1 f2 f3 f4 f5 f6 f7 : _}
  (h0 : ops[0]? = some { dst := some 14, op := .load 34 (.tmp 2), type := 34, pos := q0, after := f0, guard := none })
  (h1 : ops[1]? = some { dst := some 15, op := .load 60 (.tmp 3), type := 60, pos := q1, after := f1, guard := none })
  (h2 : ops[2]? = some { dst := some 16, op := .buildSlice 27 1 #[(0, .tmp 15)], type := 27, pos := q2, after := f2, guard := none })
  (h3 : ops[3]? = some { dst := some 17, op := .move (.tmp 6), type := 27, pos := q3, after := f3, guard := none })
  (h4 : ops[4]? = some { dst := some 18, op := .call { callee := .builtin .append, args := #[.tmp 16, .tmp 17], argTypes := #[27, 27] }, type := 27, pos := q4, after := f4, guard := none })
  (h5 : ops[5]? = some { dst := some 19, op := .buildSlice 34 1 #[(0, .tmp 18)], type := 34, pos := q5, after := f5, guard := none })
  (h6 : ops[6]? = some { dst := some 20, op := .call { callee := .builtin .append, args := #[.tmp 14, .tmp 19], argTypes := #[34, 34] }, type := 34, pos := q6, after := f6, guard := none })
  (h7 : ops[7]? = some { dst := none, op := .store 34 (.tmp 2) (.tmp 20), type := 0, pos := q7, after := f7, guard := none })
  (rabcdefgh : Region.ready .any ops #[true, true, true, true, true, true, true, true] = [])
  (rabcdefg : Region.ready .any ops #[true, true, true, true, true, true, true, false] = [7])
  (rabcdef : Region.ready .any ops #[true, true, true, true, true, true, false, false] = [6])
  (rabcde : Region.ready .any ops #[true, true, true, true, true, false, false, false] = [5])
  (rbcdef : Region.ready .any ops #[false, true, true, true, true, true, false, false] = [0])
  (rabcd : Region.ready .any ops #[true, true, true, true, false, false, false, false] = [4])
  (rbcde : Region.ready .any ops #[false, true, true, true, true, false, false, false] = [0, 5])
  (rabc : Region.ready .any ops #[true, true, true, false, false, false, false, false] = [3])
  (rabd : Region.ready .any ops #[true, true, false, true, false, false, false, false] = [2])
  (rbcd : Region.ready .any ops #[false, true, true, true, false, false, false, false] = [0, 4])
  (rab : Region.ready .any ops #[true, true, false, false, false, false, false, false] = [2, 3])
  (rad : Region.ready .any ops #[true, false, false, true, false, false, false, false] = [1])
  (rbc : Region.ready .any ops #[false, true, true, false, false, false, false, false] = [0, 3])
  (rbd : Region.ready .any ops #[false, true, false, true, false, false, false, false] = [0, 2])
  (ra : Region.ready .any ops #[true, false, false, false, false, false, false, false] = [1, 3])
  (rb : Region.ready .any ops #[false, true, false, false, false, false, false, false] = [0, 2, 3])
  (rd : Region.ready .any ops #[false, false, false, true, false, false, false, false] = [0, 1])
  (r : Region.ready .any ops #[false, false, false, false, false, false, false, false] = [0, 1, 3])
  (a0 : W.cell? ⟨R, 0, none⟩ = some (.slice qv nv cv))
  (b0 : (W.alloc (.cells #[.string key, .int .i64 i] 60)).cell? ⟨R, 0, none⟩ = some (.slice qv nv cv))
  (c0 : X.cell? ⟨R, 0, none⟩ = some (.slice qv nv cv))
  (d0 : (X.alloc (.cells #[.slice qc nc cc] 27)).cell? ⟨R, 0, none⟩ = some (.slice qv nv cv))
  (e0 : Y.cell? ⟨R, 0, none⟩ = some (.slice qv nv cv))
  (ef : Y.frozen? ⟨R, 0, none⟩ = false) (s0 : W.cell? ⟨Bs, 0, none⟩ = some (.string key)) (s1 : W.cell? ⟨Bs, 1, none⟩ = some (.int .i64 i))
  (s2 : (W.alloc (.cells #[.string key, .int .i64 i] 60)).cell? ⟨Bs, 0, none⟩ = some (.string key))
  (hrun4 : (Builtin.append_ #[27, 27] 27 #[.slice (some ⟨W.heap.size, 0, none⟩) 1 1, .slice qa na ca]).run Tryd.prog (W.alloc (.cells #[.string key, .int .i64 i] 60)) = .ok (.slice qc nc cc) X)
  (hrun6 : (Builtin.append_ #[34, 34] 34 #[.slice qv nv cv, .slice (some ⟨X.heap.size, 0, none⟩) 1 1]).run Tryd.prog (X.alloc (.cells #[.slice qc nc cc] 27)) = .ok (.slice qd nd cd) Y)
  (hQ : Q .normal { tmps := #[t0, t1, (.pointer (some ⟨R, 0, none⟩)), (.pointer (some ⟨Bs, 0, none⟩)), t4, t5, (.slice qa na ca), t7, t8, t9, t10, t11, t12, t13, (.slice qv nv cv), (.agg #[.string key, .int .i64 i]), (.slice (some ⟨W.heap.size, 0, none⟩) 1 1), (.slice qa na ca), (.slice qc nc cc), (.slice (some ⟨X.heap.size, 0, none⟩) 1 1), (.slice qd nd cd), t21], defers := D } (Y.setCell ⟨R, 0, none⟩ (.slice qd nd cd))) :
  wpAnyIn Fence.wide 9 Tryd.prog .any ops Q 8 #[false, false, false, false, false, false, false, false] { tmps := #[t0, t1, (.pointer (some ⟨R, 0, none⟩)), (.pointer (some ⟨Bs, 0, none⟩)), t4, t5, (.slice qa na ca), t7, t8, t9, t10, t11, t12, t13, t14, t15, t16, t17, t18, t19, t20, t21], defers := D } W := by
 have sabcdefgh : wpAnyIn Fence.wide 9 Tryd.prog .any ops Q 0 #[true, true, true, true, true, true, true, true] { tmps := #[t0, t1, (.pointer (some ⟨R, 0, none⟩)), (.pointer (some ⟨Bs, 0, none⟩)), t4, t5, (.slice qa na ca), t7, t8, t9, t10, t11, t12, t13, (.slice qv nv cv), (.agg #[.string key, .int .i64 i]), (.slice (some ⟨W.heap.size, 0, none⟩) 1 1), (.slice qa na ca), (.slice qc nc cc), (.slice (some ⟨X.heap.size, 0, none⟩) 1 1), (.slice qd nd cd), t21], defers := D } (Y.setCell ⟨R, 0, none⟩ (.slice qd nd cd)) := by
  exact wpAnyIn_done rabcdefgh hQ _
 have sabcdefg : wpAnyIn Fence.wide 9 Tryd.prog .any ops Q 1 #[true, true, true, true, true, true, true, false] { tmps := #[t0, t1, (.pointer (some ⟨R, 0, none⟩)), (.pointer (some ⟨Bs, 0, none⟩)), t4, t5, (.slice qa na ca), t7, t8, t9, t10, t11, t12, t13, (.slice qv nv cv), (.agg #[.string key, .int .i64 i]), (.slice (some ⟨W.heap.size, 0, none⟩) 1 1), (.slice qa na ca), (.slice qc nc cc), (.slice (some ⟨X.heap.size, 0, none⟩) 1 1), (.slice qd nd cd), t21], defers := D } Y := by
  refine wpAnyIn_ready rabcdefg (by simp) ?_
  refine AllReadyIn.cons h7 (fun K hK => ?_) ?_
  ·go_simp
   exact hK _ _ (sabcdefgh)
  exact AllReadyIn.nil
 have sabcdef : wpAnyIn Fence.wide 9 Tryd.prog .any ops Q 2 #[true, true, true, true, true, true, false, false] { tmps := #[t0, t1, (.pointer (some ⟨R, 0, none⟩)), (.pointer (some ⟨Bs, 0, none⟩)), t4, t5, (.slice qa na ca), t7, t8, t9, t10, t11, t12, t13, (.slice qv nv cv), (.agg #[.string key, .int .i64 i]), (.slice (some ⟨W.heap.size, 0, none⟩) 1 1), (.slice qa na ca), (.slice qc nc cc), (.slice (some ⟨X.heap.size, 0, none⟩) 1 1), t20, t21], defers := D } (X.alloc (.cells #[.slice qc nc cc] 27)) := by
  refine wpAnyIn_ready rabcdef (by simp) ?_
  refine AllReadyIn.cons h6 (fun K hK => ?_) ?_
  ·exact opW_append _ _ _ rfl rfl rfl rfl hrun6 (hK _ _ sabcdefg)
  exact AllReadyIn.nil
 have sabcde : wpAnyIn Fence.wide 9 Tryd.prog .any ops Q 3 #[true, true, true, true, true, false, false, false] { tmps := #[t0, t1, (.pointer (some ⟨R, 0, none⟩)), (.pointer (some ⟨Bs, 0, none⟩)), t4, t5, (.slice qa na ca), t7, t8, t9, t10, t11, t12, t13, (.slice qv nv cv), (.agg #[.string key, .int .i64 i]), (.slice (some ⟨W.heap.size, 0, none⟩) 1 1), (.slice qa na ca), (.slice qc nc cc), t19, t20, t21], defers := D } X := by
  refine wpAnyIn_ready rabcde (by simp) ?_
  refine AllReadyIn.cons h5 (fun K hK => ?_) ?_
  ·go_simp
   exact hK _ _ (sabcdef)
  exact AllReadyIn.nil
 have sbcdef : wpAnyIn Fence.wide 9 Tryd.prog .any ops Q 3 #[false, true, true, true, true, true, false, false] { tmps := #[t0, t1, (.pointer (some ⟨R, 0, none⟩)), (.pointer (some ⟨Bs, 0, none⟩)), t4, t5, (.slice qa na ca), t7, t8, t9, t10, t11, t12, t13, t14, (.agg #[.string key, .int .i64 i]), (.slice (some ⟨W.heap.size, 0, none⟩) 1 1), (.slice qa na ca), (.slice qc nc cc), (.slice (some ⟨X.heap.size, 0, none⟩) 1 1), t20, t21], defers := D } (X.alloc (.cells #[.slice qc nc cc] 27)) := by
  refine wpAnyIn_ready rbcdef (by simp) ?_
  refine AllReadyIn.cons h0 (fun K hK => ?_) ?_
  ·go_simp
   exact hK _ _ (sabcdef)
  exact AllReadyIn.nil
 have sabcd : wpAnyIn Fence.wide 9 Tryd.prog .any ops Q 4 #[true, true, true, true, false, false, false, false] { tmps := #[t0, t1, (.pointer (some ⟨R, 0, none⟩)), (.pointer (some ⟨Bs, 0, none⟩)), t4, t5, (.slice qa na ca), t7, t8, t9, t10, t11, t12, t13, (.slice qv nv cv), (.agg #[.string key, .int .i64 i]), (.slice (some ⟨W.heap.size, 0, none⟩) 1 1), (.slice qa na ca), t18, t19, t20, t21], defers := D } (W.alloc (.cells #[.string key, .int .i64 i] 60)) := by
  refine wpAnyIn_ready rabcd (by simp) ?_
  refine AllReadyIn.cons h4 (fun K hK => ?_) ?_
  ·exact opW_append _ _ _ rfl rfl rfl rfl hrun4 (hK _ _ sabcde)
  exact AllReadyIn.nil
 have sbcde : wpAnyIn Fence.wide 9 Tryd.prog .any ops Q 4 #[false, true, true, true, true, false, false, false] { tmps := #[t0, t1, (.pointer (some ⟨R, 0, none⟩)), (.pointer (some ⟨Bs, 0, none⟩)), t4, t5, (.slice qa na ca), t7, t8, t9, t10, t11, t12, t13, t14, (.agg #[.string key, .int .i64 i]), (.slice (some ⟨W.heap.size, 0, none⟩) 1 1), (.slice qa na ca), (.slice qc nc cc), t19, t20, t21], defers := D } X := by
  refine wpAnyIn_ready rbcde (by simp) ?_
  refine AllReadyIn.cons h0 (fun K hK => ?_) ?_
  ·go_simp
   exact hK _ _ (sabcde)
  refine AllReadyIn.cons h5 (fun K hK => ?_) ?_
  ·go_simp
   exact hK _ _ (sbcdef)
  exact AllReadyIn.nil
 have sabc : wpAnyIn Fence.wide 9 Tryd.prog .any ops Q 5 #[true, true, true, false, false, false, false, false] { tmps := #[t0, t1, (.pointer (some ⟨R, 0, none⟩)), (.pointer (some ⟨Bs, 0, none⟩)), t4, t5, (.slice qa na ca), t7, t8, t9, t10, t11, t12, t13, (.slice qv nv cv), (.agg #[.string key, .int .i64 i]), (.slice (some ⟨W.heap.size, 0, none⟩) 1 1), t17, t18, t19, t20, t21], defers := D } (W.alloc (.cells #[.string key, .int .i64 i] 60)) := by
  refine wpAnyIn_ready rabc (by simp) ?_
  refine AllReadyIn.cons h3 (fun K hK => ?_) ?_
  ·go_simp
   exact hK _ _ (sabcd)
  exact AllReadyIn.nil
 have sabd : wpAnyIn Fence.wide 9 Tryd.prog .any ops Q 5 #[true, true, false, true, false, false, false, false] { tmps := #[t0, t1, (.pointer (some ⟨R, 0, none⟩)), (.pointer (some ⟨Bs, 0, none⟩)), t4, t5, (.slice qa na ca), t7, t8, t9, t10, t11, t12, t13, (.slice qv nv cv), (.agg #[.string key, .int .i64 i]), t16, (.slice qa na ca), t18, t19, t20, t21], defers := D } W := by
  refine wpAnyIn_ready rabd (by simp) ?_
  refine AllReadyIn.cons h2 (fun K hK => ?_) ?_
  ·go_simp
   exact hK _ _ (sabcd)
  exact AllReadyIn.nil
 have sbcd : wpAnyIn Fence.wide 9 Tryd.prog .any ops Q 5 #[false, true, true, true, false, false, false, false] { tmps := #[t0, t1, (.pointer (some ⟨R, 0, none⟩)), (.pointer (some ⟨Bs, 0, none⟩)), t4, t5, (.slice qa na ca), t7, t8, t9, t10, t11, t12, t13, t14, (.agg #[.string key, .int .i64 i]), (.slice (some ⟨W.heap.size, 0, none⟩) 1 1), (.slice qa na ca), t18, t19, t20, t21], defers := D } (W.alloc (.cells #[.string key, .int .i64 i] 60)) := by
  refine wpAnyIn_ready rbcd (by simp) ?_
  refine AllReadyIn.cons h0 (fun K hK => ?_) ?_
  ·go_simp
   exact hK _ _ (sabcd)
  refine AllReadyIn.cons h4 (fun K hK => ?_) ?_
  ·exact opW_append _ _ _ rfl rfl rfl rfl hrun4 (hK _ _ sbcde)
  exact AllReadyIn.nil
 have sab : wpAnyIn Fence.wide 9 Tryd.prog .any ops Q 6 #[true, true, false, false, false, false, false, false] { tmps := #[t0, t1, (.pointer (some ⟨R, 0, none⟩)), (.pointer (some ⟨Bs, 0, none⟩)), t4, t5, (.slice qa na ca), t7, t8, t9, t10, t11, t12, t13, (.slice qv nv cv), (.agg #[.string key, .int .i64 i]), t16, t17, t18, t19, t20, t21], defers := D } W := by
  refine wpAnyIn_ready rab (by simp) ?_
  refine AllReadyIn.cons h2 (fun K hK => ?_) ?_
  ·go_simp
   exact hK _ _ (sabc)
  refine AllReadyIn.cons h3 (fun K hK => ?_) ?_
  ·go_simp
   exact hK _ _ (sabd)
  exact AllReadyIn.nil
 have sad : wpAnyIn Fence.wide 9 Tryd.prog .any ops Q 6 #[true, false, false, true, false, false, false, false] { tmps := #[t0, t1, (.pointer (some ⟨R, 0, none⟩)), (.pointer (some ⟨Bs, 0, none⟩)), t4, t5, (.slice qa na ca), t7, t8, t9, t10, t11, t12, t13, (.slice qv nv cv), t15, t16, (.slice qa na ca), t18, t19, t20, t21], defers := D } W := by
  refine wpAnyIn_ready rad (by simp) ?_
  refine AllReadyIn.cons h1 (fun K hK => ?_) ?_
  ·go_simp
   exact hK _ _ (sabd)
  exact AllReadyIn.nil
 have sbc : wpAnyIn Fence.wide 9 Tryd.prog .any ops Q 6 #[false, true, true, false, false, false, false, false] { tmps := #[t0, t1, (.pointer (some ⟨R, 0, none⟩)), (.pointer (some ⟨Bs, 0, none⟩)), t4, t5, (.slice qa na ca), t7, t8, t9, t10, t11, t12, t13, t14, (.agg #[.string key, .int .i64 i]), (.slice (some ⟨W.heap.size, 0, none⟩) 1 1), t17, t18, t19, t20, t21], defers := D } (W.alloc (.cells #[.string key, .int .i64 i] 60)) := by
  refine wpAnyIn_ready rbc (by simp) ?_
  refine AllReadyIn.cons h0 (fun K hK => ?_) ?_
  ·go_simp
   exact hK _ _ (sabc)
  refine AllReadyIn.cons h3 (fun K hK => ?_) ?_
  ·go_simp
   exact hK _ _ (sbcd)
  exact AllReadyIn.nil
 have sbd : wpAnyIn Fence.wide 9 Tryd.prog .any ops Q 6 #[false, true, false, true, false, false, false, false] { tmps := #[t0, t1, (.pointer (some ⟨R, 0, none⟩)), (.pointer (some ⟨Bs, 0, none⟩)), t4, t5, (.slice qa na ca), t7, t8, t9, t10, t11, t12, t13, t14, (.agg #[.string key, .int .i64 i]), t16, (.slice qa na ca), t18, t19, t20, t21], defers := D } W := by
  refine wpAnyIn_ready rbd (by simp) ?_
  refine AllReadyIn.cons h0 (fun K hK => ?_) ?_
  ·go_simp
   exact hK _ _ (sabd)
  refine AllReadyIn.cons h2 (fun K hK => ?_) ?_
  ·go_simp
   exact hK _ _ (sbcd)
  exact AllReadyIn.nil
 have sa : wpAnyIn Fence.wide 9 Tryd.prog .any ops Q 7 #[true, false, false, false, false, false, false, false] { tmps := #[t0, t1, (.pointer (some ⟨R, 0, none⟩)), (.pointer (some ⟨Bs, 0, none⟩)), t4, t5, (.slice qa na ca), t7, t8, t9, t10, t11, t12, t13, (.slice qv nv cv), t15, t16, t17, t18, t19, t20, t21], defers := D } W := by
  refine wpAnyIn_ready ra (by simp) ?_
  refine AllReadyIn.cons h1 (fun K hK => ?_) ?_
  ·go_simp
   exact hK _ _ (sab)
  refine AllReadyIn.cons h3 (fun K hK => ?_) ?_
  ·go_simp
   exact hK _ _ (sad)
  exact AllReadyIn.nil
 have sb : wpAnyIn Fence.wide 9 Tryd.prog .any ops Q 7 #[false, true, false, false, false, false, false, false] { tmps := #[t0, t1, (.pointer (some ⟨R, 0, none⟩)), (.pointer (some ⟨Bs, 0, none⟩)), t4, t5, (.slice qa na ca), t7, t8, t9, t10, t11, t12, t13, t14, (.agg #[.string key, .int .i64 i]), t16, t17, t18, t19, t20, t21], defers := D } W := by
  refine wpAnyIn_ready rb (by simp) ?_
  refine AllReadyIn.cons h0 (fun K hK => ?_) ?_
  ·go_simp
   exact hK _ _ (sab)
  refine AllReadyIn.cons h2 (fun K hK => ?_) ?_
  ·go_simp
   exact hK _ _ (sbc)
  refine AllReadyIn.cons h3 (fun K hK => ?_) ?_
  ·go_simp
   exact hK _ _ (sbd)
  exact AllReadyIn.nil
 have sd : wpAnyIn Fence.wide 9 Tryd.prog .any ops Q 7 #[false, false, false, true, false, false, false, false] { tmps := #[t0, t1, (.pointer (some ⟨R, 0, none⟩)), (.pointer (some ⟨Bs, 0, none⟩)), t4, t5, (.slice qa na ca), t7, t8, t9, t10, t11, t12, t13, t14, t15, t16, (.slice qa na ca), t18, t19, t20, t21], defers := D } W := by
  refine wpAnyIn_ready rd (by simp) ?_
  refine AllReadyIn.cons h0 (fun K hK => ?_) ?_
  ·go_simp
   exact hK _ _ (sad)
  refine AllReadyIn.cons h1 (fun K hK => ?_) ?_
  ·go_simp
   exact hK _ _ (sbd)
  exact AllReadyIn.nil
 have s : wpAnyIn Fence.wide 9 Tryd.prog .any ops Q 8 #[false, false, false, false, false, false, false, false] { tmps := #[t0, t1, (.pointer (some ⟨R, 0, none⟩)), (.pointer (some ⟨Bs, 0, none⟩)), t4, t5, (.slice qa na ca), t7, t8, t9, t10, t11, t12, t13, t14, t15, t16, t17, t18, t19, t20, t21], defers := D } W := by
  refine wpAnyIn_ready r (by simp) ?_
  refine AllReadyIn.cons h0 (fun K hK => ?_) ?_
  ·go_simp
   exact hK _ _ (sa)
  refine AllReadyIn.cons h1 (fun K hK => ?_) ?_
  ·go_simp
   exact hK _ _ (sb)
  refine AllReadyIn.cons h3 (fun K hK => ?_) ?_
  ·go_simp
   exact hK _ _ (sd)
  exact AllReadyIn.nil
 exact s
end Go.Proofs.YtadaehaemmelfaaDoor.paths
