/- The program's nodes and Nodes. -/
import Derived.Test.YtdpoiagnjdajbaaDoorPartAH
import Derived.Test.YtdpoiagnjdajbaaDoorPartAE
set_option linter.unusedVariables false
namespace Go.Proofs.YtdpoiagnjdajbaaDoor.valus
open Go.RowKit Go.Shelf
attribute [local go_sem] Oper.semAt_some

theorem walkN_any (B o : Nat) (w : World) :
    CallsIn Fence.wide 7 Tryd.prog 51 #[.agg #[.pointer (some ⟨B, o, none⟩), .int .i64 0], .func (.func 52) #[] #[]] w fun e w' => e = .returned (.func (.func 70) #[] #[.pointer (some ⟨w.heap.size, 0, none⟩), .pointer (some ⟨w.heap.size + 1, 0, none⟩)]) ∧
      w' = (w.alloc (.cells #[.pointer (some ⟨B, o, none⟩), .int .i64 0] 62)).alloc (.cells #[.func (.func 52) #[] #[]] 90) := by
  refine callsIn_of_wp Tryd.func51 rfl trivial ?_ rfl
  simp only [Tryd.ntmps51, List.size_toArray, List.length_cons, List.length_nil, Nat.reduceAdd, Nat.reduceSub, Array.replicate_succ, Array.replicate_zero, List.push_toArray, List.append_toArray, List.nil_append, List.cons_append]
  gi_wp2
  go_ret
  exact ⟨rfl, rfl⟩
theorem nodesN_any (B o : Nat) (w : World) :
    CallsIn Fence.wide 8 Tryd.prog 28 #[.pointer (some ⟨B, o, none⟩)] w fun e w' => e = .returned (.func (.func 70) #[] #[.pointer (some ⟨w.heap.size, 0, none⟩), .pointer (some ⟨w.heap.size + 1, 0, none⟩)]) ∧
      w' = (w.alloc (.cells #[.pointer (some ⟨B, o, none⟩), .int .i64 0] 62)).alloc (.cells #[.func (.func 52) #[] #[]] 90) := by
  refine callsIn_of_wp Tryd.func28 rfl trivial ?_ rfl
  simp only [Tryd.ntmps28, List.size_toArray, List.length_cons, List.length_nil, Nat.reduceAdd, Nat.reduceSub, Array.replicate_succ, Array.replicate_zero, List.push_toArray, List.append_toArray, List.nil_append, List.cons_append]
  gi_wp2_with (refine ⟨trivial, ?_⟩; gi_at_call 51; refine (walkN_any B o w).mono ?_; rintro e w' ⟨rfl, rfl⟩)
  go_ret
  exact ⟨rfl, rfl⟩

end Go.Proofs.YtdpoiagnjdajbaaDoor.valus
