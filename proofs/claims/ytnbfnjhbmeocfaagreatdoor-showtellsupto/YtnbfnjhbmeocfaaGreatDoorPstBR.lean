/- Of our texts, what this claim reaches. -/
import Derived.Test.YtnbfnjhbmeocfaaGreatDoorPstBP
import Derived.Test.YtnbfnjhbmeocfaaGreatDoorPstBN
import Derived.Test.YtnbfnjhbmeocfaaGreatDoorPstAA
import Derived.Test.YtnbfnjhbmeocfaaGreatDoorPstAP
import Derived.Test.YtnbfnjhbmeocfaaGreatDoorPstBQ
import Derived.Deep.CutRange
import Derived.Deep.RegionWith
import Derived.Test.YtnbfnjhbmeocfaaGreatDoorPstBL
set_option linter.unusedVariables false
namespace Go.Proofs.YtnbfnjhbmeocfaaGreatDoor
namespace valus
open trees (nd Sym)
theorem jjl {lv:Nat}{S:List zU}{v:V}(h:Gr lv S v):S≠[]:=by
 cases lv with
 | zero=>exact h.elim
 | succ lv=>rcases h with ⟨k,src,lab,rfl,_⟩ | ⟨B,vs,rfl,_⟩ | ⟨B,es,E,rfl,_⟩<;>simp
open toks (qx isB isW isM noL zA jW)
theorem zz (c:UInt8)(x:List UInt8)(h:isM c=true):jE (c :: x)=(6,[c]) :: jE x:=by
 have hb:isB c=false/\c≠10/\c≠35/\isW c=false:=by
  unfold isM at h;simp only [Bool.or_eq_true,beq_iff_eq] at h
  rcases h with ((((((h | h) | h) | h) | h) | h) | h)<;>(rw [show c=_ from h];decide)
 have e:qx (c :: x)=(6,1):=by
  unfold qx;simp only;rw [if_neg (by rw [hb.1];decide),if_neg hb.2.1,if_neg hb.2.2.1,if_neg (by rw [hb.2.2.2];decide),if_pos h]
 rw [Qy (by simp),e];rfl
theorem jcI (x:List UInt8):jE (10 :: x)=jE x:=by
 have e:qx (10 :: x)=(2,1):=by
  unfold qx;simp only;rw [if_neg (by decide),if_pos trivial]
 rw [Qy (by simp),e];rfl
theorem ZO (c:UInt8)(x:List UInt8)(h:isB c=true):jE (c :: x)=jE x:=by
 rw [<-YH (c :: x),<-YH x,zA,if_pos h,List.drop_succ_cons]
end valus
end Go.Proofs.YtnbfnjhbmeocfaaGreatDoor
