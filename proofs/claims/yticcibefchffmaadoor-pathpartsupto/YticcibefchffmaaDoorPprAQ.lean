/- Of our texts, what this claim reaches. -/
import Derived.Test.YticcibefchffmaaDoorPprAN
import Derived.Test.YticcibefchffmaaDoorPprAJ
import Derived.Test.YticcibefchffmaaDoorPprAE
import Derived.Deep.QuietTactic
import Derived.BigQuiet
import Derived.Test.YticcibefchffmaaDoorPprAP
import Derived.Lib.IndexAny
import Derived.Lib.IndexMore
set_option linter.unusedVariables false
set_option maxHeartbeats 1000000
set_option maxRecDepth 100000
namespace Go.Proofs.YticcibefchffmaaDoor
namespace escs
open Go.RowKit
open utfs
open bigs (hexc digB jv jD)
theorem zP {rs:List Int}(h:∀r∈rs,sc r=true):(jZ rs).length<=6*(enc rs).length+2:=by
 have:=Jj rs h;unfold jZ;simp only [List.length_cons,List.length_append,List.length_nil];omega
structure EscTabs (w:World):Prop where
 utf:Lib.Utf8Tabs 2 3 w
 bru:Lib.TabIs Tryd.prog w "math/bits.deBruijn64tab" .u8 jv
theorem EscTabs.below {w w':World}(h:EscTabs w)(hb:Below w.heap.size w w'):EscTabs w':=⟨Utf8Tabs_below h.utf hb,jD h.bru hb⟩
theorem Qy {s:ByteArray}{l:List UInt8}(h:s.data.toList=l):(⟨l.toArray⟩:ByteArray)=s:=by
 rw [<-h]
def j8 (l:List UInt8):List UInt8:=if jz l=true then l else if 0<=bad l then [] else jZ (zL l)
def Qm (l:List UInt8):Int:=if jz l=true then 0 else if 0<=bad l then 3 else 0
def Qv (l:List UInt8):List UInt8:=if 0<=bad l then [] else jZ (zL l)
def Qq (l:List UInt8):Int:=if 0<=bad l then 3 else 0
theorem JF (w:World)(s:ByteArray)(hs:s.size<=1073741824)(hT:EscTabs w) :
  Calls Tryd.prog 71 #[.string s] w fun e w'=>e=.returned (.tuple #[.string ⟨(Qv s.data.toList).toArray⟩,.int .i64 (Qq s.data.toList)])/\Below w.heap.size w w':=by
 unfold Qv Qq
 by_cases h:0<=bad s.data.toList
 ·rw [if_pos h,if_pos h]
  exact JH s w (by omega) hT.utf h
 ·rw [if_neg h,if_neg h]
  obtain⟨a,b⟩:=qy (l:=s.data.toList) (by omega);exact Je s _ w hs hT.utf hT.bru a b
theorem QG (w:World)(s:ByteArray)(hs:s.size<=1073741824)(hT:EscTabs w) :
  Calls Tryd.prog 49 #[.string s] w fun e w'=>e=.returned (.tuple #[.string ⟨(j8 s.data.toList).toArray⟩,.int .i64 (Qm s.data.toList)])/\Below w.heap.size w w':=by
 have KB:=ja (JV w s);have KQ:=ja (JF w s hs hT);have e1:j8 s.data.toList=if jz s.data.toList=true then s.data.toList else Qv s.data.toList:=rfl
 have e2:Qm s.data.toList=if jz s.data.toList=true then 0 else Qq s.data.toList:=rfl
 rw [e1,e2];have et:(⟨s.data.toList.toArray⟩:ByteArray)=s:=Qy rfl;clear hT e1 e2;generalize jz s.data.toList=b at *;generalize Qv s.data.toList=T at *;generalize Qq s.data.toList=E at *;cases b with
 | true=>
  rw [if_pos rfl,if_pos rfl,et];clear et KQ
  go_enter Tryd.func49,Tryd.ntmps49
  go_wp2_with fail
  refine(jb KB).mono ?_
  rintro _ w1 ⟨rfl,hw⟩
  rw [hw];clear hw;go_wp2;go_ret2;exact⟨rfl,Below.refl _ _⟩
 | false=>
  rw [if_neg (by decide),if_neg (by decide)];clear et
  go_enter Tryd.func49,Tryd.ntmps49
  go_wp2_with fail
  refine(jb KB).mono ?_
  rintro _ w1 ⟨rfl,hw⟩
  rw [hw];clear hw
  go_wp2_with fail
  refine(jb KQ).mono ?_
  rintro _ w1 ⟨rfl,b1⟩
  have B1:=ja b1;clear b1 KQ KB;go_wp2;go_ret2;exact⟨rfl,jb B1⟩
end escs
namespace paths
open utfs (bad enc zL sc)
open escs (j8 jz jZ)
open bigs (tellB digB hexc)
abbrev St:Type:=List UInt8×Int
def ju (x:St):Int:=if x.2 < -1\/(-1<x.2/\x.1≠[]) then 1 else if 100<x.1.length then 2 else if 0<=bad x.1 then 3 else 0
def jN:List St->Int
 | []=>0
 | x :: l=>if ju x=0 then jN l else ju x
def jl (p:List St):Int:=if 20<p.length then 5 else jN p
def stT (x:St):List UInt8:=if x.2 = -1 then 46 :: j8 x.1 else 91 :: (tellB 10 x.2++[93])
def jG:List St->List UInt8
 | []=>[]
 | x :: l=>stT x++jG l
def QK (p:List St):List UInt8:=36 :: jG p
theorem qJ:∀(p q:List St),jG (p++q)=jG p++jG q
 | [],q=>rfl
 | x :: p,q=>by show stT x++jG (p++q)=_;rw [qJ p q,<-List.append_assoc];rfl
theorem j4 {x:St}(h:ju x=0) : -1<=x.2/\(x.2 = -1\/(0<=x.2/\x.1=[]))/\x.1.length<=100/\bad x.1<0:=by
 unfold ju at h;split at h
 ·omega
 ·rename_i h1
  split at h
  ·omega
  ·split at h
   ·omega
   ·refine⟨by omega,?_,by omega,by omega⟩
    by_cases e:x.2 = -1
    ·exact .inl e
    ·exact .inr ⟨by omega,Classical.byContradiction fun hn=>h1 (.inr ⟨by omega,hn⟩)⟩
theorem zH:∀{p:List St},jN p=0->∀x∈p,ju x=0
 | [],_,x,hx=>absurd hx (List.not_mem_nil)
 | y :: l,h,x,hx=>by
  unfold jN at h;split at h
  ·rename_i h1
   rcases List.mem_cons.1 hx with rfl | hx
   ·exact h1
   ·exact zH h x hx
  ·rename_i h1
   exact absurd h h1
theorem qw {p:List St}(h:jl p=0):p.length<=20/\∀x∈p,ju x=0:=by
 unfold jl at h;split at h
 ·omega
 ·exact⟨by omega,zH h⟩
end paths
end Go.Proofs.YticcibefchffmaaDoor
