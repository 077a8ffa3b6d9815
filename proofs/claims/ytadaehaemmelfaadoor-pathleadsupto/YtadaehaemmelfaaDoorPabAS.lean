/- Of our texts, what this claim reaches. -/
import Derived.Test.YtadaehaemmelfaaDoorPabAH
import Derived.Test.YtadaehaemmelfaaDoorPabAE
set_option linter.unusedVariables false
namespace Go.Proofs.YtadaehaemmelfaaDoor.valus
open Go.RowKit Go.Shelf
attribute [local go_sem] Oper.semAt_some
theorem walkN_any (B o : Nat) (w : World) :
  CallsIn Fence.wide 7 Tryd.prog 55 #[.agg #[.pointer (some ⟨B, o, none⟩), .int .i64 0], .func (.func 56) #[] #[]] w fun e w' => e = .returned (.func (.func 71) #[] #[.pointer (some ⟨w.heap.size, 0, none⟩), .pointer (some ⟨w.heap.size + 1, 0, none⟩)]) ∧
   w' = (w.alloc (.cells #[.pointer (some ⟨B, o, none⟩), .int .i64 0] 77)).alloc (.cells #[.func (.func 56) #[] #[]] 107) := by
 refine callsIn_of_wp Tryd.func55 rfl trivial ?_ rfl
 simp only [Tryd.ntmps55, List.size_toArray, List.length_cons, List.length_nil, Nat.reduceAdd, Nat.reduceSub, Array.replicate_succ, Array.replicate_zero, List.push_toArray, List.append_toArray, List.nil_append, List.cons_append]
 gi_wp2
 go_ret
 exact ⟨rfl, rfl⟩
theorem nodesN_any (B o : Nat) (w : World) :
  CallsIn Fence.wide 8 Tryd.prog 37 #[.pointer (some ⟨B, o, none⟩)] w fun e w' => e = .returned (.func (.func 71) #[] #[.pointer (some ⟨w.heap.size, 0, none⟩), .pointer (some ⟨w.heap.size + 1, 0, none⟩)]) ∧
   w' = (w.alloc (.cells #[.pointer (some ⟨B, o, none⟩), .int .i64 0] 77)).alloc (.cells #[.func (.func 56) #[] #[]] 107) := by
 refine callsIn_of_wp Tryd.func37 rfl trivial ?_ rfl
 simp only [Tryd.ntmps37, List.size_toArray, List.length_cons, List.length_nil, Nat.reduceAdd, Nat.reduceSub, Array.replicate_succ, Array.replicate_zero, List.push_toArray, List.append_toArray, List.nil_append, List.cons_append]
 gi_wp2_with (refine ⟨trivial, ?_⟩; gi_at_call 55; refine (walkN_any B o w).mono ?_; rintro e w' ⟨rfl, rfl⟩)
 go_ret
 exact ⟨rfl, rfl⟩
end Go.Proofs.YtadaehaemmelfaaDoor.valus
