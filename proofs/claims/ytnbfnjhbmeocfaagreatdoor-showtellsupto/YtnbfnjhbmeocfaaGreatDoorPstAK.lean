/- Of our texts, what this claim reaches. -/
import Derived.Test.YtnbfnjhbmeocfaaGreatDoorPstAI
import Derived.Test.YtnbfnjhbmeocfaaGreatDoorPstAJ
import Derived.Lib.OthersKept
import Derived.WalkKit
import Derived.BigCall
set_option linter.unusedVariables false
set_option maxHeartbeats 2000000
set_option maxRecDepth 100000
namespace Go.Proofs.YtnbfnjhbmeocfaaGreatDoor
namespace utfs
open Go.RowKit
theorem jb {p:Prop}(h:p):Hid p:=h
theorem ja {p:Prop}(h:Hid p):p:=h
def jP (l:List UInt8):Int:=if l=[] then -1 else if Jn l=true then -1 else ((Lib.decodeL l).1:Int)
def jZ (l:List UInt8):Nat:=if l=[] then 0 else (Lib.decodeL l).2
theorem jco (s:ByteArray):Lib.decodeGo s=if s.data.toList=[] then (65533,0) else Lib.decodeL s.data.toList:=by
 unfold Lib.decodeGo;have h:=Lib.decodeL_drop s 0;rw [List.drop_zero] at h
 by_cases h0:s.data.toList=[]
 ·rw [if_pos h0,if_pos]
  have:=congrArg List.length h0;rw [Array.length_toList] at this;exact this
 ·rw [if_neg h0,if_neg,h]
  intro e;apply h0
  apply List.eq_nil_of_length_eq_zero
  rw [Array.length_toList];exact e
theorem jew {l:List UInt8}(hb:Jn l=false)(h65:(Lib.decodeL l).1=65533)(hw:(Lib.decodeL l).2<=1)(h1:1<=(Lib.decodeL l).2):False:=by
 have:=of_decide_eq_false hb;exact this ⟨h65,by omega⟩
theorem X6 (l:List UInt8):1<=(Lib.decodeL l).2:=by unfold Lib.decodeL;exact Lib.width_pos _ _
theorem jia (s:ByteArray)(w:World)(hT:Lib.Utf8Tabs 1 2 w) :
  Calls Tryz.prog 192 #[.string s] w fun e w'=>e=.returned (.tuple #[.int .i32 (jP s.data.toList),.int .i64 (jZ s.data.toList)])/\Below w.heap.size w w':=by
 have hd:=jco s;have hw:=X6 s.data.toList
 by_cases h0:s.data.toList=[]
 ·have e1:(Lib.decodeGo s)=(65533,0):=by rw [hd,if_pos h0]
  have e2:jP s.data.toList = -1:=by simp [jP,h0]
  have e3:jZ s.data.toList=0:=by simp [jZ,h0]
  rw [e2,e3];have hc:=Tryz.utf8_DecodeRuneInString s w hT;rw [e1] at hc;have HC:=jb hc;clear hc e1 e2 e3 hd hw h0 hT
  go_enter Tryz.func192,Tryz.ntmps192
  go_wp2_with (go_at_call 201;refine(ja HC).mono ?_;rintro e w' ⟨rfl,hb⟩)
  go_ret2;exact⟨rfl,hb⟩
 ·cases hb:Jn s.data.toList with
  | true=>
   obtain⟨ed,_⟩:=jau h0 hb;have e1:(Lib.decodeGo s)=(65533,1):=by rw [hd,if_neg h0,ed]
   have e2:jP s.data.toList = -1:=by simp [jP,h0,hb]
   have e3:jZ s.data.toList=1:=by simp [jZ,h0,ed]
   rw [e2,e3];have hc:=Tryz.utf8_DecodeRuneInString s w hT;rw [e1] at hc;have HC:=jb hc;clear hc e1 e2 e3 hd hw h0 hT ed hb
   go_enter Tryz.func192,Tryz.ntmps192
   go_wp2_with (go_at_call 201;refine(ja HC).mono ?_;rintro e w' ⟨rfl,hb⟩)
   go_ret2;exact⟨rfl,hb⟩
  | false=>
   have e1:(Lib.decodeGo s)=Lib.decodeL s.data.toList:=by rw [hd,if_neg h0]
   have e2:jP s.data.toList=((Lib.decodeL s.data.toList).1:Int):=by simp [jP,h0,hb]
   have e3:jZ s.data.toList=(Lib.decodeL s.data.toList).2:=by simp [jZ,h0]
   have hx:=fun h65 hw1=>jew hb h65 hw1 hw
   rw [e2,e3];have hc:=Tryz.utf8_DecodeRuneInString s w hT;rw [e1] at hc;have HC:=jb hc;clear hc e1 e2 e3 hd h0 hT hb;generalize (Lib.decodeL s.data.toList).1=r at *;generalize (Lib.decodeL s.data.toList).2=n at *
   by_cases h65:r=65533
   ·have hn:¬n<=1:=fun h=>hx h65 h
    have t1:((r:Int) == 65533)=true:=by simp [h65]
    have t2:decide ((n:Int)<=1)=false:=by simp;omega
    have H5:=jb h65;clear hx h65
    go_enter Tryz.func192,Tryz.ntmps192
    go_wp2_with (go_at_call 201;refine(ja HC).mono ?_;rintro e w' ⟨rfl,hb⟩)
    go_ret2;exact⟨rfl,hb⟩
   ·have t1:((r:Int) == 65533)=false:=by simp;omega
    clear hx h65
    go_enter Tryz.func192,Tryz.ntmps192
    go_wp2_with (go_at_call 201;refine(ja HC).mono ?_;rintro e w' ⟨rfl,hb⟩)
    go_ret2;exact⟨rfl,hb⟩
theorem ja5 {l:List UInt8}(h:l≠[]):(jP l<0)↔Jn l=true:=by
 unfold jP;rw [if_neg h]
 by_cases hb:Jn l=true
 ·simp [hb]
 ·simp only [hb];simp
theorem YW (s:ByteArray)(w:World)(hT:Lib.Utf8Tabs 1 2 w)(h:s.data.toList≠[]) :
  Calls Tryz.prog 145 #[.string s] w fun e w'=>e=.returned (.bool (Jn s.data.toList))/\Below w.heap.size w w':=by
 have hn:=ja5 h;have hc:=jia s w hT;have HC:=jb hc;clear hc hT h;generalize jP s.data.toList=r at *;generalize jZ s.data.toList=n at *;cases hb:Jn s.data.toList with
 | true=>
  rw [hb] at hn;have h0:r<0:=hn.2 rfl;clear hn hb
  go_enter Tryz.func145,Tryz.ntmps145
  go_wp2_with (go_at_call 192;refine(ja HC).mono ?_;rintro e w' ⟨rfl,hb⟩)
  go_ret;exact⟨by simp,hb⟩
 | false=>
  rw [hb] at hn;have h0:¬r<0:=fun h=>by have:=hn.1 h;simp at this
  clear hn hb
  go_enter Tryz.func145,Tryz.ntmps145
  go_wp2_with (go_at_call 192;refine(ja HC).mono ?_;rintro e w' ⟨rfl,hb⟩)
  go_ret;exact⟨by simp;omega,hb⟩
theorem JL (s:ByteArray)(k:Nat):(s.extract k s.size).data.toList=s.data.toList.drop k:=by
 rw [ByteArray.data_extract,Array.toList_extract,List.extract_eq_take_drop];apply List.take_of_length_le
 rw [List.length_drop,Array.length_toList];exact Nat.le_refl _
theorem jm (s:ByteArray):s.data.toList.length=s.size:=Array.length_toList
theorem Xw (s:ByteArray)(w:World)(hs:s.size<=9223372036854775807)(hT:Lib.Utf8Tabs 1 2 w) :
  Calls Tryz.prog 83 #[.string s] w fun e w'=>e=.returned (.int .i64 (bad s.data.toList))/\Below w.heap.size w w':=by
 go_enter Tryz.func83,Tryz.ntmps83
 go_wp2
 go_loopw [] (fun wr=>∃(pos fuel:Nat),wr.heap[w.heap.size]?=some (.stringIter s pos)/\Below w.heap.size w wr/\QO fuel pos (s.data.toList.drop pos)=bad s.data.toList/\s.size<=pos+fuel) (fun wr=>s.size - wr.iterPos w.heap.size)
 case atStart=>
  refine⟨0,s.size,?_,(Below.refl _ w).alloc (Nat.le_refl _) _,rfl,by omega⟩;have:=World.iter_heap w s 0;simpa using this
 case round=>
  obtain⟨pos,fuel,hit,hbw,hacc,hfu⟩:=hrel;have hsz:w.heap.size<wr.heap.size:=(Array.getElem?_eq_some_iff.1 hit).1
  by_cases hp:pos<s.size
  ·have hnx:∀ty,(Instr.next (.pointer (some ⟨w.heap.size,0,none⟩)) true ty).run Tryz.prog wr=_:=fun ty=>Lib.run_next_any_at wr w.heap.size s pos ty hit hp
   have hl:s.data.toList.drop pos≠[]:=by
    intro e;have:=congrArg List.length e;rw [List.length_drop,Array.length_toList] at this;simp only [List.length_nil] at this;have h2:s.data.size=s.size:=rfl;omega
   have hd:=Lib.decodeL_drop s pos;have hwd:=X6 (s.data.toList.drop pos);rw [hd] at hwd;obtain⟨f,rfl⟩:∃f,fuel=f+1:=⟨fuel - 1,by omega⟩
   have hstep:QO (f+1) pos (s.data.toList.drop pos)=if Jn (s.data.toList.drop pos)=true then (pos:Int) else QO f (pos+(Utf8.decode s pos).2) (s.data.toList.drop (pos+(Utf8.decode s pos).2)):=by
    simp only [QO];rw [if_neg hl,hd,List.drop_drop]
   rw [hstep] at hacc;have hit2:=Lib.iterAt_heap wr w.heap.size s pos (pos+(Utf8.decode s pos).2) hit;have hbw2:=Lib.below_iterAt hbw (k:=w.heap.size) (by omega) s (pos+(Utf8.decode s pos).2);have HA:=jb hacc;clear hacc hstep
   by_cases h65:(Utf8.decode s pos).1=65533
   ·have t1:(((Utf8.decode s pos).1:Int) == 65533)=true:=by simp [h65]
    have H65:=jb h65;clear h65;have hsb:=YW (s.extract pos s.size) _ (Utf8Tabs_below hT hbw2) (by rw [JL];exact hl);rw [JL] at hsb;have HSB:=jb hsb;clear hsb;cases hbb:Jn (s.data.toList.drop pos) with
    | true=>
     rw [hbb] at HSB HA;rw [if_pos rfl] at HA;clear hbb
     go_wp2_with (go_at_call 145;refine(ja HSB).mono ?_;rintro e w1 ⟨rfl,hb1⟩)
     go_ret;rw [<-ja HA];exact⟨rfl,hbw2.trans (hb1.mono (by rw [Lib.iterAt_size];omega))⟩
    | false=>
     rw [hbb] at HSB HA;rw [if_neg (by simp)] at HA;clear hbb
     go_wp2_with (go_at_call 145;refine(ja HSB).mono ?_;rintro e w1 ⟨rfl,hb1⟩)
     have hit3:w1.heap[w.heap.size]?=some (.stringIter s (pos+(Utf8.decode s pos).2)):=by
      rw [hb1.block _ (by rw [Lib.iterAt_size];omega)];exact hit2
     go_roundw
     case rel=>exact⟨_,f,hit3,hbw2.trans (hb1.mono (by rw [Lib.iterAt_size];omega)),ja HA,by omega⟩
     case measure=>
      simp only [World.iterPos,hit3,hit];omega
   ·have t1:(((Utf8.decode s pos).1:Int) == 65533)=false:=by simp;omega
    have hbb:Jn (s.data.toList.drop pos)=false:=decide_eq_false (by rw [hd];omega);rw [hbb,if_neg (by simp)] at HA;clear h65 hbb;go_wp2;go_roundw
    case rel=>exact⟨_,f,hit2,hbw2,ja HA,by omega⟩
    case measure=>
     simp only [World.iterPos,hit2,hit];omega
  ·have hnx:∀ty,(Instr.next (.pointer (some ⟨w.heap.size,0,none⟩)) true ty).run Tryz.prog wr=_:=fun ty=>Lib.run_next_end_at wr w.heap.size s pos ty hit hp
   have hl:s.data.toList.drop pos=[]:=List.drop_of_length_le (by rw [jm];omega);rw [hl,Yb] at hacc;have HA:=jb hacc;clear hacc hl;go_wp2;go_ret;rw [<-ja HA];exact⟨rfl,hbw⟩
end utfs
end Go.Proofs.YtnbfnjhbmeocfaaGreatDoor
