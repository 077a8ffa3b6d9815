/- Of our texts, what this claim reaches. -/
import Derived.Test.YtnbfnjhbmeocfaaGreatDoorPmtAX
import Derived.Test.YtnbfnjhbmeocfaaGreatDoorPmtAA
import Derived.Test.YtnbfnjhbmeocfaaGreatDoorPmtBA
import Derived.Test.YtnbfnjhbmeocfaaGreatDoorPmtAB
set_option linter.unusedVariables false
namespace Go.Proofs.YtnbfnjhbmeocfaaGreatDoor
namespace valus
open Go.RowKit
def Tb (B:Nat)(w:World):Prop:=∃w0,w0.heap.size=B/\ShowTabs w0/\Below B w0 w
theorem Tb.next {B:Nat}{w w':World}(h:Tb B w)(hb:Below B w w'):Tb B w':=by
 obtain⟨w0,h1,h2,h3⟩:=h;exact⟨w0,h1,h2,h3.trans hb⟩
theorem Tb.tabs {B:Nat}{w:World}(h:Tb B w):ShowTabs w:=by
 obtain⟨w0,h1,h2,h3⟩:=h;subst h1;exact h2.below h3
def jlg (B R b2 b3:Nat)(cs:Array Value)(w:World):Prop:=(R<b2/\R<b3)/\Blk w b2 #[.pointer (some ⟨R,0,none⟩)] 207/\Blk w b3 cs 26
open Go.RowKit
theorem jhw (B R:Nat)(w:World)(cs:Array Value)(hR:R<w.heap.size) :
  jlg B R w.heap.size (w.heap.size+1) cs ((w.alloc (.cells #[.pointer (some ⟨R,0,none⟩)] 207)).alloc (.cells cs 26))/\Below w.heap.size w ((w.alloc (.cells #[.pointer (some ⟨R,0,none⟩)] 207)).alloc (.cells cs 26)):=by
 refine⟨⟨⟨hR,by omega⟩,(jf w _ _).alloc _,?_⟩,((Below.refl _ w).alloc (Nat.le_refl _) _).alloc (by simp) _⟩;have h:=jf (w.alloc (.cells #[.pointer (some ⟨R,0,none⟩)] 207)) cs 26;rwa [World.size_alloc] at h
section
variable (B R f : Nat) (F : Nat → List UInt8) (many : Bool) (fm : Int) (w : World) (l : List UInt8) (d : Nat) (n : Int) (b : Nat) (s : ByteArray)
end
end valus
end Go.Proofs.YtnbfnjhbmeocfaaGreatDoor
