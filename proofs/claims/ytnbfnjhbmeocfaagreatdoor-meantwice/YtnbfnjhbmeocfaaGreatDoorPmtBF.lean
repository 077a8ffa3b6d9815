/- Of our texts, what this claim reaches. -/
import Derived.Test.YtnbfnjhbmeocfaaGreatDoorPmtBE
import Derived.Test.YtnbfnjhbmeocfaaGreatDoorPmtAQ
import Derived.Test.YtnbfnjhbmeocfaaGreatDoorPmtAL
set_option linter.unusedVariables false
namespace Go.Proofs.YtnbfnjhbmeocfaaGreatDoor
namespace valus
open Go.RowKit Go.Shelf
open bigs (numRes zI)
def Zk (l:List UInt8)(x:Lab)(er:Int):Prop :=
 (l=[110,117,108,108]/\x=(0,0,0,[])/\er=0)\/(l=[102,97,108,115,101]/\x=(1,0,0,[])/\er=0)\/(l=[116,114,117,101]/\x=(1,1,0,[])/\er=0)\/
 ((l≠[110,117,108,108]/\l≠[102,97,108,115,101]/\l≠[116,114,117,101])/\
  (((numRes l).2≠4/\er=(numRes l).2/\x=if er=0 then (2,(numRes l).1,0,[]) else (0,0,0,[]))\/
   ((numRes l).2=4/\∃v,zI l v er/\x=if er=0 then (3,0,v,[]) else (0,0,0,[]))))
theorem zK (s:ByteArray)(l:List UInt8):((s.toList == l)=true->s.data.toList=l)/\((s.toList == l)=false->s.data.toList≠l):=by
 have e:s.toList=s.data.toList:=Lib.toList_data s;rw [e];exact⟨fun h=>eq_of_beq h,fun h=>ne_of_beq_false h⟩
theorem jh2 (w:World)(s:ByteArray)(hs:s.size<=140737488355328):Calls Tryz.prog 9 #[.string s] w fun e w'=>(∃(k n:Int) (b:Nat) (er:Int),e=.returned (.tuple #[.agg #[.int .i64 k,.int .i64 n,.int .u64 (b:Int),.string ⟨#[]⟩,.slice none 0 0,.slice none 0 0],.int .i64 er])/\Zk s.data.toList (k,n,b,[]) er)/\Below w.heap.size w w':=by
 cases h1:s.toList == [110,117,108,108] with
 | true=>exact(jgT w s h1).mono fun e w' ⟨e1,e2⟩=>⟨⟨0,0,0,0,e1,.inl ⟨(zK s _).1 h1,rfl,rfl⟩⟩,e2⟩
 | false=>
  cases h2:s.toList == [102,97,108,115,101] with
  | true=>exact(jeI w s h1 h2).mono fun e w' ⟨e1,e2⟩=>⟨⟨1,0,0,0,e1,.inr (.inl ⟨(zK s _).1 h2,rfl,rfl⟩)⟩,e2⟩
  | false=>
   cases h3:s.toList == [116,114,117,101] with
   | true=>exact(jgt w s h1 h2 h3).mono fun e w' ⟨e1,e2⟩=>⟨⟨1,1,0,0,e1,.inr (.inr (.inl ⟨(zK s _).1 h3,rfl,rfl⟩))⟩,e2⟩
   | false=>
    have hno:s.data.toList≠[110,117,108,108]/\s.data.toList≠[102,97,108,115,101]/\s.data.toList≠[116,114,117,101]:=⟨(zK s _).2 h1,(zK s _).2 h2,(zK s _).2 h3⟩
    by_cases h4:(numRes s.data.toList).2=4
    ·refine(je4 w s h1 h2 h3 hs (numRes s.data.toList).1 (by rw [<-h4])).mono fun e w' ⟨⟨v,x,e1,e2⟩,e3⟩=>⟨?_,e3⟩
     rcases e2 with ⟨rfl,e4⟩ | ⟨hx,e4⟩
     ·exact⟨3,0,v,0,e4,.inr (.inr (.inr ⟨hno,.inr ⟨h4,v,e1,by rw [if_pos rfl]⟩⟩))⟩
     ·exact⟨0,0,0,x,e4,.inr (.inr (.inr ⟨hno,.inr ⟨h4,v,e1,by rw [if_neg hx]⟩⟩))⟩
    ·by_cases h0:(numRes s.data.toList).2=0
     ·refine(jjg w s h1 h2 h3 (numRes s.data.toList).1 (by rw [<-h0])).mono fun e w' ⟨e1,e2⟩=>⟨⟨2,(numRes s.data.toList).1,0,0,e1,.inr (.inr (.inr ⟨hno,.inl ⟨h4,h0.symm,by rw [if_pos rfl]⟩⟩))⟩,e2⟩
     ·refine(jd0 w s h1 h2 h3 (numRes s.data.toList).1 (numRes s.data.toList).2 (bne_iff_ne.2 h0) (bne_iff_ne.2 h4) rfl).mono fun e w' ⟨e1,e2⟩=>⟨⟨0,0,0,(numRes s.data.toList).2,e1,.inr (.inr (.inr ⟨hno,.inl ⟨h4,rfl,by rw [if_neg h0]⟩⟩))⟩,e2⟩
end valus
end Go.Proofs.YtnbfnjhbmeocfaaGreatDoor
