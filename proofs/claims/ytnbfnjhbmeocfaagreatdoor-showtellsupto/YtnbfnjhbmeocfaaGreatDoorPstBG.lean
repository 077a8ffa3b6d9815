/- Of our texts, what this claim reaches. -/
import Derived.Test.YtnbfnjhbmeocfaaGreatDoorPstBF
import Derived.Test.YtnbfnjhbmeocfaaGreatDoorPstAE
import Derived.Test.YtnbfnjhbmeocfaaGreatDoorPstAI
import Derived.Test.YtnbfnjhbmeocfaaGreatDoorChecked
import Derived.Lib.AppendStr
import Derived.Lib.AppendZeros
import Derived.Maps.AppendAt
import Derived.WalkKit
set_option linter.unusedVariables false
namespace Go.Proofs.YtnbfnjhbmeocfaaGreatDoor
namespace valus
open Go.RowKit Go.Shelf
structure Grew (w w':World) (v v':Value):Prop where
 by':w.grownBy w' v.ownBlock
 at':v'.ownBlock=v.ownBlock\/∃g,v'.ownBlock=some g/\w.heap.size<=g
theorem Grew.block {w w':World}{v v':Value}(h:Grew w w' v v'){b:Nat}(hb:b<w.heap.size)(hn:some b≠v.ownBlock):w'.heap[b]?=w.heap[b]?/\some b≠v'.ownBlock :=
 ⟨h.by'.block b hb hn,fun e=>by
  rcases h.at' with h1 | ⟨g,h1,h2⟩
  ·exact hn (e.trans h1)
  ·rw [h1] at e
   injection e with e;omega⟩
theorem Grew.trans {a b c:World}{u v x:Value}(h:Grew a b u v)(k:Grew b c v x):Grew a c u x:=by
 have s1:=h.by'.size
 have s2:=k.by'.size
 refine⟨⟨k.by'.os.trans h.by'.os,k.by'.tape.trans h.by'.tape,k.by'.output.trans h.by'.output,by omega,fun q hq hn=>?_⟩,?_⟩
 ·obtain⟨e1,e2⟩:=h.block hq hn
  exact(k.by'.block q (by omega) e2).trans e1
 ·rcases k.at' with h1 | ⟨g,h1,h2⟩
  ·rcases h.at' with h3 | ⟨g',h3,h4⟩
   ·exact .inl (h1.trans h3)
   ·exact .inr ⟨g',h1.trans h3,h4⟩
  ·exact .inr ⟨g,h1,by omega⟩
theorem Grew.below {w w':World}(hb:Below w.heap.size w w')(v:Value):Grew w w' v v:=⟨⟨hb.os,hb.tape,hb.output,hb.size,fun b hlt _=>hb.block b hlt⟩,.inl rfl⟩
theorem Grew.to_below {w w':World}{v v':Value}{n0:Nat}(h:Grew w w' v v')(hn:n0<=w.heap.size)(hv:∀g,v.ownBlock=some g->n0<=g):Below n0 w w' :=
 ⟨h.by'.os,h.by'.tape,h.by'.output,h.by'.size,fun b hb=>h.by'.block b (by omega) (fun e=>by have:=hv b e.symm;omega)⟩
end valus
end Go.Proofs.YtnbfnjhbmeocfaaGreatDoor
