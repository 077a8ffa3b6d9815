/- Of our texts, what this claim reaches. -/
import Derived.Test.YtnbfnjhbmeocfaaGreatDoorPstBJ
import Derived.Test.YtnbfnjhbmeocfaaGreatDoorPstBL
import Derived.Test.YtnbfnjhbmeocfaaGreatDoorPstBH
import Derived.Test.YtnbfnjhbmeocfaaGreatDoorPstAA
import Derived.Below
import Derived.Laws.AppendOwn
import Derived.Laws.OwnMore
import Derived.Maps.OwnSet
set_option linter.unusedVariables false
namespace Go.Proofs.YtnbfnjhbmeocfaaGreatDoor
namespace valus
open Go.RowKit Go.Shelf
def jeb (src:List UInt8)(kind:Nat)(x:Lab)(er:Int):Prop :=
 if kind=4 then Yn src x er else er=escs.jj1 (escs.unq src)/\x=if er=0 then (4,0,0,escs.jjz (escs.unq src)) else (0,0,0,[])
theorem zi {R:Nat}{w w':World}(hb:Below w.heap.size w w'):Only R w w':=⟨hb.os,hb.tape,hb.output,hb.size,fun q hq _=>hb.block q hq⟩
open Go.RowKit Go.Shelf
def jaK (src:List UInt8)(kind:Nat)(key:List UInt8)(er:Int):Prop :=
 if kind=4 then (if escs.qA src=true then key=src/\er=0 else key=[]/\er=4) else key=escs.jjz (escs.unq src)/\er=escs.jj1 (escs.unq src)
open Go.RowKit Go.Shelf
open trees (nd)
def Tabs (R:Nat)(w:World):Prop:=Lib.Utf8Tabs 1 2 w/\1<R/\2<R
theorem Tabs.only {R:Nat}{w w':World}(h:Tabs R w)(hR:R<w.heap.size)(ho:Only R w w'):Tabs R w':=by
 obtain⟨⟨h1,h2⟩,h3,h4⟩:=h;have hb:∀q,q<R->w'.heap[q]?=w.heap[q]?:=fun q hq=>ho.block q (by omega) (fun e=>by have:=Option.some.inj e;omega)
 refine⟨⟨fun c hc=>(World.cell?_of_block (a:=⟨1,c,none⟩) (hb _ h3)).trans (h1 c hc),fun i hi=>?_⟩,h3,h4⟩;obtain⟨a1,a2⟩:=h2 i hi;exact⟨(World.cell?_of_block (a:=⟨2,2*i,none⟩) (hb _ h4)).trans a1,(World.cell?_of_block (a:=⟨2,2*i+1,none⟩) (hb _ h4)).trans a2⟩
open Go.RowKit Go.Shelf
structure But2 (R M:Nat) (w w':World):Prop where
 os:w'.os=w.os
 tape:w'.tape=w.tape
 output:w'.output=w.output
 size:w.heap.size<=w'.heap.size
 block:∀q,q<w.heap.size->q≠R->q≠M->w'.heap[q]?=w.heap[q]?
theorem But2.of {R M:Nat}{w w':World}(h:Only R w w'):But2 R M w w':=⟨h.os,h.tape,h.output,h.size,fun q hq h1 _=>h.block q hq (fun e=>h1 (Option.some.inj e))⟩
theorem But2.trans {R M:Nat}{a b c:World}(h:But2 R M a b)(k:But2 R M b c):But2 R M a c :=
 ⟨k.os.trans h.os,k.tape.trans h.tape,k.output.trans h.output,Nat.le_trans h.size k.size,fun q hq h1 h2=>(k.block q (Nat.lt_of_lt_of_le hq h.size) h1 h2).trans (h.block q hq h1 h2)⟩
end valus
end Go.Proofs.YtnbfnjhbmeocfaaGreatDoor
