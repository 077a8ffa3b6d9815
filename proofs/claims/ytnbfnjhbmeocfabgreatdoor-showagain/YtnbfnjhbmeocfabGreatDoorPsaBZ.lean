/- Of our texts, what this claim reaches. -/
import Derived.Test.YtnbfnjhbmeocfabGreatDoorPsaBU
import Derived.Test.YtnbfnjhbmeocfabGreatDoorPsaBY
set_option linter.unusedVariables false
namespace Go.Proofs.YtnbfnjhbmeocfabGreatDoor
namespace valus
open Go.RowKit Go.Shelf
open toks (MaxOk)
theorem jnT {s:ByteArray}{v:V}{w:World}(hA:qB s (.inl v))(h:Calls Tryz.prog 11 #[.string s] w (jgh s w)):Calls Tryz.prog 11 #[.string s] w fun e w'=>(∃(xk xn:Int) (xb:Nat) (xz:ByteArray) (xL:Option Addr) (xl xc:Nat) (xE:Option Addr) (xe xd:Nat),e=.returned (.tuple #[.agg #[.int .i64 xk,.int .i64 xn,.int .u64 (xb:Int),.string xz,.slice xL xl xc,.slice xE xe xd],.int .i64 0,.int .i64 0])/\LiesV (fun q=>w.heap.size<=q/\q<w'.heap.size) 40 w' [.int .i64 xk,.int .i64 xn,.int .u64 (xb:Int),.string xz,.slice xL xl xc,.slice xE xe xd] v)/\Below w.heap.size w w' :=
 h.mono fun e w' ⟨h1,h2⟩=>⟨by
  rcases h1 with ⟨xk,xn,xb,xz,xL,xl,xc,xE,xe,xd,u,h3,h4,h5⟩ | ⟨pq,_,h4⟩
  ·have e2:=zF h4 hA
   injection e2 with e2;subst e2;exact⟨xk,xn,xb,xz,xL,xl,xc,xE,xe,xd,h3,h5⟩
  ·exact absurd (zF h4 hA) (by simp),h2⟩
end valus
end Go.Proofs.YtnbfnjhbmeocfabGreatDoor
