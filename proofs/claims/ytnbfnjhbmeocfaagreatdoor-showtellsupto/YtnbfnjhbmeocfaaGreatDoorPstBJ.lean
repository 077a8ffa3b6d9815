/- Of our texts, what this claim reaches. -/
import Derived.Test.YtnbfnjhbmeocfaaGreatDoorPstAE
import Derived.Test.YtnbfnjhbmeocfaaGreatDoorPstAF
import Derived.Test.YtnbfnjhbmeocfaaGreatDoorPstAA
import Derived.Deep.QuietTactic
import Derived.BigQuiet
import Derived.BigRegion
import Derived.Test.YtnbfnjhbmeocfaaGreatDoorPstBH
import Derived.Test.YtnbfnjhbmeocfaaGreatDoorPstAP
import Derived.Test.YtnbfnjhbmeocfaaGreatDoorPstBI
import Derived.Test.YtnbfnjhbmeocfaaGreatDoorPstAS
import Derived.Test.YtnbfnjhbmeocfaaGreatDoorPstAM
import Derived.Lib.Bytealg
import Derived.Lib.Index
import Derived.Test.YtnbfnjhbmeocfaaGreatDoorProg
import Derived.WalkKit
import Derived.WalkSmall
import Derived.OwnWalk
import Derived.BigCall
import Derived.Maps.AppendAt
import Derived.Deep.AppendLies
import Derived.Laws.OwnMore
import Derived.Below
import Derived.Test.YtnbfnjhbmeocfaaGreatDoorPstAI
set_option linter.unusedVariables false
namespace Go.Proofs.YtnbfnjhbmeocfaaGreatDoor
namespace valus
open Go.RowKit Go.Shelf
open bigs (numRes QE)
def Yn (l:List UInt8)(x:Lab)(er:Int):Prop :=
 (l=[110,117,108,108]/\x=(0,0,0,[])/\er=0)\/(l=[102,97,108,115,101]/\x=(1,0,0,[])/\er=0)\/(l=[116,114,117,101]/\x=(1,1,0,[])/\er=0)\/
 ((l≠[110,117,108,108]/\l≠[102,97,108,115,101]/\l≠[116,114,117,101])/\
  (((numRes l).2≠4/\er=(numRes l).2/\x=if er=0 then (2,(numRes l).1,0,[]) else (0,0,0,[]))\/
   ((numRes l).2=4/\∃v,QE l v er/\x=if er=0 then (3,0,v,[]) else (0,0,0,[]))))
end valus
namespace toks
theorem jfp {l:List UInt8}{k:Nat}(h:k<l.length):l.drop k=l[k] :: l.drop (k+1):=List.drop_eq_getElem_cons h
theorem jip {p:UInt8->Bool}{c:UInt8}{t:List UInt8}(h:p c=false):zA p (c :: t)=0:=by rw [zA,if_neg (by rw [h];decide)]
theorem Yf {p:UInt8->Bool}{l:List UInt8}{k:Nat}(h:k<l.length)(hp:p l[k]=false):zA p (l.drop k)=0:=by
 rw [jfp h,jip hp]
open Go.RowKit
theorem ja {p:Prop}(h:Hid p):p:=h
theorem jm (s:ByteArray):s.data.toList.length=s.size:=by rw [Array.length_toList];rfl
theorem YL (s:ByteArray)(a b:Nat):(s.extract a b).data.toList=(s.data.toList.take b).drop a:=by
 rw [ByteArray.data_extract,Array.toList_extract,List.extract_eq_take_drop,List.drop_take]
theorem JL (s:ByteArray)(k:Nat):(s.extract k s.size).data.toList=s.data.toList.drop k:=by
 rw [YL,<-jm s,List.take_length]
def Blk (w:World)(b:Nat)(cs:Array Value)(t:Nat):Prop:=w.heap[b]?=some (.cells cs t)
theorem Blk.lt {w:World}{b:Nat}{cs:Array Value}{t:Nat}(h:Blk w b cs t):b<w.heap.size:=by
 unfold Blk at h;exact(Array.getElem?_eq_some_iff.1 h).1
theorem Blk.cell {w:World}{b:Nat}{cs:Array Value}{t:Nat}(h:Blk w b cs t)(j:Nat)(v:Value)(hj:cs[j]?=some v):w.cell? ⟨b,j,none⟩=some v:=by
 unfold Blk at h;simp only [World.cell?,h];exact hj
open Go.RowKit
def tkC (t:Tk):List Value:=[.int .i64 (t.kind:Int),.int .i64 (t.fro:Int),.int .i64 (t.til:Int)]
theorem qy:∀l:List Tk,(l.flatMap tkC).length=l.length*3
 | []=>rfl
 | t :: l=>by
  rw [List.flatMap_cons,List.length_append,qy l];simp [tkC];omega
end toks
end Go.Proofs.YtnbfnjhbmeocfaaGreatDoor
