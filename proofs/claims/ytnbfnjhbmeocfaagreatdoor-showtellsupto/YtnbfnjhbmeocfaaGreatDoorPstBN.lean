/- Of our texts, what this claim reaches. -/
import Derived.Test.YtnbfnjhbmeocfaaGreatDoorPstBM
import Derived.Test.YtnbfnjhbmeocfaaGreatDoorPstAI
import Derived.Shelf.SlSortCmp.WholeK
import Derived.Test.YtnbfnjhbmeocfaaGreatDoorProg
import Derived.Test.YtnbfnjhbmeocfaaGreatDoorPstAA
import Derived.Test.YtnbfnjhbmeocfaaGreatDoorPstAF
import Derived.Shelf.SlSortCmp.NoneTotal
set_option linter.unusedVariables false
namespace Go.Proofs.YtnbfnjhbmeocfaaGreatDoor
namespace valus
open Go.RowKit Go.Shelf
open trees (nd)
def jj7 (E:List V):Prop:=E.Pairwise (fun a b=>ZG (jz a).1 (jz b).1=.lt)
open trees (nd)
abbrev zU:=Nat×List UInt8
open trees (nd Sym)
def ji9 (G:List zU->V->Prop):List V->List zU->Prop
 | [],B=>B=[(6,[93])]
 | v :: vs,B=>∃seg c rest,seg≠[]/\G seg v/\B=seg++c :: rest/\((c=(6,[44])/\ji9 G vs rest)\/(c=(6,[93])/\vs=[]/\rest=[]))
def ji4 (G:List zU->V->Prop):List (List UInt8)->List V->List zU->Prop
 | _,[],B=>B=[(6,[125])]
 | keys,e :: es,B=>∃kt m sv c rest key y,(kt.1=4\/kt.1=5)/\jaK kt.2 kt.1 key 0/\key∉keys/\(m=(6,[58])\/m=(6,[61]))/\G sv y/\e=ent key y/\B=kt :: m :: (sv++c :: rest)/\((c=(6,[44])/\ji4 G (keys++[key]) es rest)\/(c=(6,[125])/\es=[]/\rest=[]))
def Gr:Nat->List zU->V->Prop
 | 0,_,_=>False
 | lv + 1, S, v => (∃ k src lab, S = [(k, src)] ∧ (k = 4 ∨ k = 5) ∧ jeb src k lab 0 ∧ v = mkV lab [] []) ∨
   (∃B vs,S=(6,[91]) :: B/\ji9 (Gr lv) vs B/\v=mkV (5,0,0,[]) vs [])\/
   (∃B es E,S=(6,[123]) :: B/\ji4 (Gr lv) [] es B/\E.Perm es/\jj7 E/\v=mkV (6,0,0,[]) [] E)
def qQ (ct:Nat->zU)(ts:List Sym):List zU:=ts.map (fun x=>ct x.2)
section
variable {ct : Nat → zU} {pl : Nat → Int}
end
end valus
end Go.Proofs.YtnbfnjhbmeocfaaGreatDoor
