/- Of our texts, what this claim reaches. -/
import Derived.Test.YtnbfnjhbmeocfaaGreatDoorProg
import Derived.Test.YtnbfnjhbmeocfaaGreatDoorPstAC
import Derived.WalkKit
import Derived.WalkSmall
import Derived.OwnWalk
import Derived.BigCall
import Derived.Maps.AppendAt
import Derived.Deep.AppendLies
import Derived.Laws.OwnMore
import Derived.Below
import Derived.Deep.QuietTactic
import Derived.BigQuiet
import Derived.BigRegion
import Derived.Deep.CutRange
import Derived.Deep.RegionWith
import Derived.KernelRfl
set_option linter.unusedVariables false
namespace Go.Proofs.YtnbfnjhbmeocfaaGreatDoor
namespace valus
open Go.RowKit
theorem jb {p:Prop}(h:p):Hid p:=h
theorem ja {p:Prop}(h:Hid p):p:=h
theorem jm (s:ByteArray):s.data.toList.length=s.size:=by rw [Array.length_toList];rfl
theorem YL (s:ByteArray)(a b:Nat):(s.extract a b).data.toList=(s.data.toList.take b).drop a:=by
 rw [ByteArray.data_extract,Array.toList_extract,List.extract_eq_take_drop,List.drop_take]
theorem JL (s:ByteArray)(k:Nat):(s.extract k s.size).data.toList=s.data.toList.drop k:=by
 rw [YL,<-jm s,List.take_length]
def Blk (w:World)(b:Nat)(cs:Array Value)(t:Nat):Prop:=w.heap[b]?=some (.cells cs t)
theorem Blk.lt {w:World}{b:Nat}{cs:Array Value}{t:Nat}(h:Blk w b cs t):b<w.heap.size:=by
 unfold Blk at h;exact(Array.getElem?_eq_some_iff.1 h).1
theorem Blk.below {w w':World}{b:Nat}{cs:Array Value}{t:Nat}(h:Blk w b cs t)(hb:Below w.heap.size w w'):Blk w' b cs t:=by
 have:=hb.block b h.lt;unfold Blk at *;rw [this,h]
theorem jd (w:World)(cs:Array Value)(t:Nat):Blk (w.alloc (.cells cs t)) w.heap.size cs t:=by
 show(w.heap.push _)[w.heap.size]?=_
 simp
theorem Blk.cell {w:World}{b:Nat}{cs:Array Value}{t:Nat}(h:Blk w b cs t)(j:Nat)(v:Value)(hj:cs[j]?=some v):w.cell? ⟨b,j,none⟩=some v:=by
 unfold Blk at h;simp only [World.cell?,h];exact hj
theorem Blk.set {w:World}{b:Nat}{cs:Array Value}{t:Nat}(h:Blk w b cs t)(j:Nat)(v:Value):Blk (w.setCell ⟨b,j,none⟩ v) b (cs.setIfInBounds j v) t:=by
 unfold Blk at *;simp only [World.setCell,Array.getElem?_modify,h];simp
theorem Blk.set_other {w:World}{b:Nat}{cs:Array Value}{t:Nat}(h:Blk w b cs t)(p:Addr)(v:Value)(hp:b≠p.block):Blk (w.setCell p v) b cs t:=by
 unfold Blk at *;rw [Below.heap_setCell _ _ _ _ hp,h]
theorem Blk.alloc {w:World}{b:Nat}{cs:Array Value}{t:Nat}(h:Blk w b cs t)(o:Obj):Blk (w.alloc o) b cs t:=by
 unfold Blk at *;rw [Below.heap_alloc _ _ _ (Blk.lt h),h]
theorem Blk.grown {w w':World}{b:Nat}{cs:Array Value}{t:Nat}{r:Option Nat}(h:Blk w b cs t)(hg:w.grownBy w' r)(hr:some b≠r):Blk w' b cs t:=by
 have:=hg.block b h.lt hr;unfold Blk at *;rw [this,h]
theorem qY (w:World)(r:Option Nat):w.grownBy w r:=⟨rfl,rfl,rfl,Nat.le_refl _,fun _ _ _=>rfl⟩
theorem jkb:∃fV fE,Typed Tryz.prog 26 44 23 24 3 2 22 9 fV fE :=
 ⟨_,_,⟨Tryz.underlying26,Tryz.underlying44,Tryz.underlying23,Tryz.underlying24,Tryz.underlying3,Tryz.underlying2,Tryz.underlying22,Tryz.underlying9,
  by kernel_rfl,by kernel_rfl,by kernel_rfl,by kernel_rfl,by kernel_rfl,by kernel_rfl,by kernel_rfl,by kernel_rfl,
  ⟨_,rfl,rfl,rfl⟩,⟨_,rfl,rfl,rfl⟩,⟨_,rfl,rfl,rfl⟩,⟨_,rfl,rfl,rfl⟩,⟨_,rfl,rfl,rfl⟩,⟨_,rfl,rfl,rfl⟩,⟨_,rfl,rfl,rfl⟩,⟨_,rfl,rfl,rfl⟩⟩⟩
open Go.RowKit
theorem jfC (a:Int):ZA a a=.eq:=jc6.refl trivial
theorem Zv:∀(l m:List UInt8),Op.bytesLess l m=decide (ZG l m=.lt)
 | [],[]=>rfl
 | [],_ :: _=>rfl
 | _ :: _,[]=>rfl
 | x :: r,y :: t=>by
  have ih:=Zv r t;have e:ZG (x :: r) (y :: t)=Qb (ZA (x.toNat:Int) (y.toNat:Int)) (ZG r t):=rfl;rw [e]
  by_cases h1:x.toNat<y.toNat
  ·have c:ZA (x.toNat:Int) (y.toNat:Int)=.lt:=by unfold ZA;rw [if_pos (by omega)]
   have h2:x<y:=UInt8.lt_iff_toNat_lt.2 h1;rw [c];simp [Op.bytesLess,h2,Qb]
  ·by_cases h3:x=y
   ·subst h3
    rw [jfC];have e3:Op.bytesLess (x :: r) (x :: t)=Op.bytesLess r t:=by simp [Op.bytesLess]
    rw [e3,ih];rfl
   ·have h4:x.toNat≠y.toNat:=fun h=>h3 (UInt8.toNat_inj.1 h)
    have c:ZA (x.toNat:Int) (y.toNat:Int)=.gt:=by unfold ZA;rw [if_neg (by omega),if_neg (by omega)]
    have h2:¬x<y:=fun h=>h1 (UInt8.lt_iff_toNat_lt.1 h)
    rw [c];simp [Op.bytesLess,h2,h3,Qb]
theorem jaX (l:List UInt8):ZG l l=.eq:=Zy.refl trivial
end valus
end Go.Proofs.YtnbfnjhbmeocfaaGreatDoor
