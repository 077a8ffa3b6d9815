/- Of our texts, what this claim reaches. -/
import Derived.Test.YticcibefchffmaaDoorPptAD
import Derived.Test.YticcibefchffmaaDoorPptAE
import Derived.Shelf.SlicesQ.Reverse
set_option linter.unusedVariables false
namespace Go.Proofs.YticcibefchffmaaDoor
namespace valus
open Go.RowKit
structure Turns (M:Nat->Prop) (W W':World):Prop where
 os:W'.os=W.os
 tape:W'.tape=W.tape
 output:W'.output=W.output
 size:W.heap.size<=W'.heap.size
 block:∀b,b<W.heap.size->¬M b->W'.heap[b]?=W.heap[b]?
theorem Turns.below {M:Nat->Prop}{A B:World}{n:Nat}(h:Turns M A B)(hn:n<=A.heap.size)(hM:∀b,M b->n<=b):Below n A B :=
 ⟨h.os,h.tape,h.output,h.size,fun k hk=>h.block k (by omega) (fun hm=>by have:=hM k hm;omega)⟩
theorem Turns.cell {M:Nat->Prop}{A B:World}(h:Turns M A B){p:Addr}(hp:p.block<A.heap.size)(hm:¬M p.block):B.cell? p=A.cell? p:=World.cell?_of_block (h.block _ hp hm)
end valus
end Go.Proofs.YticcibefchffmaaDoor
