/- Of our texts, what this claim reaches. -/
import Derived.Test.YtnbfnjhbmeocfabGreatDoorPsbBS
import Derived.Test.YtnbfnjhbmeocfabGreatDoorPsbBN
import Derived.Test.YtnbfnjhbmeocfabGreatDoorPsbAF
set_option linter.unusedVariables false
namespace Go.Proofs.YtnbfnjhbmeocfabGreatDoor
namespace valus
open Go.RowKit Go.Shelf
open trees (nd pd Jv zJ)
open toks (jG MaxOk)
theorem Zn {s:ByteArray}{x y:V⊕(Int×Int)}(h:qV s x)(k:qV s y):x=y:=by
 have U:=Yn (fun keys=>jms s (jG s.data.toList) keys) (jko s (jG s.data.toList)) 20
 rcases h with ⟨h1,h2⟩ | ⟨h1,h⟩<;>rcases k with ⟨k1,k2⟩ | ⟨k1,k⟩
 ·rw [h2,k2]
 ·omega
 ·omega
 ·rcases h with ⟨c,ts,h2,h3⟩ | ⟨t,h2,h⟩<;>rcases k with ⟨c',ts',k2,k3⟩ | ⟨t',k2,k⟩
  ·rw [h2] at k2
   injection k2 with k2;injection k2 with e1 e2;rw [h3,k3,e1,e2]
  ·rw [h2] at k2
   cases k2
  ·rw [h2] at k2
   cases k2
  ·rw [h2] at k2
   injection k2 with k2;injection k2 with k2 _;subst k2
   rcases h with ⟨pq,h3,h4⟩ | ⟨v,h3,h4⟩<;>rcases k with ⟨rs,k3,k4⟩ | ⟨u,k3,k4⟩
   ·have e:=U _ _ _ h3 k3
    rw [h4,k4,e]
   ·have e:=U _ _ _ h3 k3
    cases e
   ·have e:=U _ _ _ h3 k3
    cases e
   ·have e:=U _ _ _ h3 k3
    injection e with e;subst e
    rcases h4 with ⟨a,b⟩ | ⟨a,b⟩<;>rcases k4 with ⟨c,d⟩ | ⟨c,d⟩
    ·rw [b,d]
    ·exact absurd a c
    ·exact absurd c a
    ·rw [b,d]
theorem jim (ok:Nat->Prop)(w:World):LiesV ok 1 w [.int .i64 0,.int .i64 0,.int .u64 0,.string ⟨#[]⟩,.slice none 0 0,.slice none 0 0] (mkV (0,0,0,[]) [] []) :=
 ⟨0,0,0,⟨#[]⟩,[],[],none,none,0,0,rfl,rfl,⟨⟨by omega,by omega⟩,⟨by omega,by omega⟩,by omega,by decide⟩,⟨Nat.le_refl _,Nat.zero_le _,Nat.le_refl _,Nat.zero_le _⟩,fun h=>absurd rfl h,fun h=>absurd rfl h⟩
end valus
end Go.Proofs.YtnbfnjhbmeocfabGreatDoor
