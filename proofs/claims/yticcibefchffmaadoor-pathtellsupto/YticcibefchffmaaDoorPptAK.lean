/- Of our texts, what this claim reaches. -/
import Derived.Test.YticcibefchffmaaDoorPptAI
import Derived.Test.YticcibefchffmaaDoorPptAJ
import Derived.Lib.OthersKept
import Derived.WalkKit
import Derived.BigCall
set_option linter.unusedVariables false
set_option maxHeartbeats 2000000
set_option maxRecDepth 100000
namespace Go.Proofs.YticcibefchffmaaDoor
namespace utfs
open Go.RowKit
theorem jb {p:Prop}(h:p):Hid p:=h
theorem ja {p:Prop}(h:Hid p):p:=h
def jf (l:List UInt8):Int:=if l=[] then -1 else if jI l=true then -1 else ((Lib.decodeL l).1:Int)
def jg (l:List UInt8):Nat:=if l=[] then 0 else (Lib.decodeL l).2
theorem Qc (s:ByteArray):Lib.decodeGo s=if s.data.toList=[] then (65533,0) else Lib.decodeL s.data.toList:=by
 unfold Lib.decodeGo;have h:=Lib.decodeL_drop s 0;rw [List.drop_zero] at h
 by_cases h0:s.data.toList=[]
 ·rw [if_pos h0,if_pos]
  have:=congrArg List.length h0;rw [Array.length_toList] at this;exact this
 ·rw [if_neg h0,if_neg,h]
  intro e;apply h0
  apply List.eq_nil_of_length_eq_zero
  rw [Array.length_toList];exact e
theorem QE {l:List UInt8}(hb:jI l=false)(h65:(Lib.decodeL l).1=65533)(hw:(Lib.decodeL l).2<=1)(h1:1<=(Lib.decodeL l).2):False:=by
 have:=of_decide_eq_false hb;exact this ⟨h65,by omega⟩
theorem zI (l:List UInt8):1<=(Lib.decodeL l).2:=by unfold Lib.decodeL;exact Lib.width_pos _ _
theorem Qi (s:ByteArray)(w:World)(hT:Lib.Utf8Tabs 2 3 w) :
  Calls Tryd.prog 98 #[.string s] w fun e w'=>e=.returned (.tuple #[.int .i32 (jf s.data.toList),.int .i64 (jg s.data.toList)])/\Below w.heap.size w w':=by
 have hd:=Qc s;have hw:=zI s.data.toList
 by_cases h0:s.data.toList=[]
 ·have e1:(Lib.decodeGo s)=(65533,0):=by rw [hd,if_pos h0]
  have e2:jf s.data.toList = -1:=by simp [jf,h0]
  have e3:jg s.data.toList=0:=by simp [jg,h0]
  rw [e2,e3];have hc:=Tryd.utf8_DecodeRuneInString s w hT;rw [e1] at hc;have HC:=jb hc;clear hc e1 e2 e3 hd hw h0 hT
  go_enter Tryd.func98,Tryd.ntmps98
  go_wp2_with (go_at_call 115;refine(ja HC).mono ?_;rintro e w' ⟨rfl,hb⟩)
  go_ret2;exact⟨rfl,hb⟩
 ·cases hb:jI s.data.toList with
  | true=>
   obtain⟨ed,_⟩:=JB h0 hb;have e1:(Lib.decodeGo s)=(65533,1):=by rw [hd,if_neg h0,ed]
   have e2:jf s.data.toList = -1:=by simp [jf,h0,hb]
   have e3:jg s.data.toList=1:=by simp [jg,h0,ed]
   rw [e2,e3];have hc:=Tryd.utf8_DecodeRuneInString s w hT;rw [e1] at hc;have HC:=jb hc;clear hc e1 e2 e3 hd hw h0 hT ed hb
   go_enter Tryd.func98,Tryd.ntmps98
   go_wp2_with (go_at_call 115;refine(ja HC).mono ?_;rintro e w' ⟨rfl,hb⟩)
   go_ret2;exact⟨rfl,hb⟩
  | false=>
   have e1:(Lib.decodeGo s)=Lib.decodeL s.data.toList:=by rw [hd,if_neg h0]
   have e2:jf s.data.toList=((Lib.decodeL s.data.toList).1:Int):=by simp [jf,h0,hb]
   have e3:jg s.data.toList=(Lib.decodeL s.data.toList).2:=by simp [jg,h0]
   have hx:=fun h65 hw1=>QE hb h65 hw1 hw
   rw [e2,e3];have hc:=Tryd.utf8_DecodeRuneInString s w hT;rw [e1] at hc;have HC:=jb hc;clear hc e1 e2 e3 hd h0 hT hb;generalize (Lib.decodeL s.data.toList).1=r at *;generalize (Lib.decodeL s.data.toList).2=n at *
   by_cases h65:r=65533
   ·have hn:¬n<=1:=fun h=>hx h65 h
    have t1:((r:Int) == 65533)=true:=by simp [h65]
    have t2:decide ((n:Int)<=1)=false:=by simp;omega
    have H5:=jb h65;clear hx h65
    go_enter Tryd.func98,Tryd.ntmps98
    go_wp2_with (go_at_call 115;refine(ja HC).mono ?_;rintro e w' ⟨rfl,hb⟩)
    go_ret2;exact⟨rfl,hb⟩
   ·have t1:((r:Int) == 65533)=false:=by simp;omega
    clear hx h65
    go_enter Tryd.func98,Tryd.ntmps98
    go_wp2_with (go_at_call 115;refine(ja HC).mono ?_;rintro e w' ⟨rfl,hb⟩)
    go_ret2;exact⟨rfl,hb⟩
theorem qK {l:List UInt8}(h:l≠[]):(jf l<0)↔jI l=true:=by
 unfold jf;rw [if_neg h]
 by_cases hb:jI l=true
 ·simp [hb]
 ·simp only [hb];simp
theorem Jj (s:ByteArray)(w:World)(hT:Lib.Utf8Tabs 2 3 w)(h:s.data.toList≠[]) :
  Calls Tryd.prog 79 #[.string s] w fun e w'=>e=.returned (.bool (jI s.data.toList))/\Below w.heap.size w w':=by
 have hn:=qK h;have hc:=Qi s w hT;have HC:=jb hc;clear hc hT h;generalize jf s.data.toList=r at *;generalize jg s.data.toList=n at *;cases hb:jI s.data.toList with
 | true=>
  rw [hb] at hn;have h0:r<0:=hn.2 rfl;clear hn hb
  go_enter Tryd.func79,Tryd.ntmps79
  go_wp2_with (go_at_call 98;refine(ja HC).mono ?_;rintro e w' ⟨rfl,hb⟩)
  go_ret;exact⟨by simp,hb⟩
 | false=>
  rw [hb] at hn;have h0:¬r<0:=fun h=>by have:=hn.1 h;simp at this
  clear hn hb
  go_enter Tryd.func79,Tryd.ntmps79
  go_wp2_with (go_at_call 98;refine(ja HC).mono ?_;rintro e w' ⟨rfl,hb⟩)
  go_ret;exact⟨by simp;omega,hb⟩
theorem jj (s:ByteArray)(k:Nat):(s.extract k s.size).data.toList=s.data.toList.drop k:=by
 rw [ByteArray.data_extract,Array.toList_extract,List.extract_eq_take_drop];apply List.take_of_length_le
 rw [List.length_drop,Array.length_toList];exact Nat.le_refl _
theorem jc (s:ByteArray):s.data.toList.length=s.size:=Array.length_toList
theorem J0 (s:ByteArray)(w:World)(hs:s.size<=9223372036854775807)(hT:Lib.Utf8Tabs 2 3 w) :
  Calls Tryd.prog 59 #[.string s] w fun e w'=>e=.returned (.int .i64 (bad s.data.toList))/\Below w.heap.size w w':=by
 go_enter Tryd.func59,Tryd.ntmps59
 go_wp2
 go_loopw [] (fun wr=>∃(pos fuel:Nat),wr.heap[w.heap.size]?=some (.stringIter s pos)/\Below w.heap.size w wr/\qU fuel pos (s.data.toList.drop pos)=bad s.data.toList/\s.size<=pos+fuel) (fun wr=>s.size - wr.iterPos w.heap.size)
 case atStart=>
  refine⟨0,s.size,?_,(Below.refl _ w).alloc (Nat.le_refl _) _,rfl,by omega⟩;have:=World.iter_heap w s 0;simpa using this
 case round=>
  obtain⟨pos,fuel,hit,hbw,hacc,hfu⟩:=hrel;have hsz:w.heap.size<wr.heap.size:=(Array.getElem?_eq_some_iff.1 hit).1
  by_cases hp:pos<s.size
  ·have hnx:∀ty,(Instr.next (.pointer (some ⟨w.heap.size,0,none⟩)) true ty).run Tryd.prog wr=_:=fun ty=>Lib.run_next_any_at wr w.heap.size s pos ty hit hp
   have hl:s.data.toList.drop pos≠[]:=by
    intro e;have:=congrArg List.length e;rw [List.length_drop,Array.length_toList] at this;simp only [List.length_nil] at this;have h2:s.data.size=s.size:=rfl;omega
   have hd:=Lib.decodeL_drop s pos;have hwd:=zI (s.data.toList.drop pos);rw [hd] at hwd;obtain⟨f,rfl⟩:∃f,fuel=f+1:=⟨fuel - 1,by omega⟩
   have hstep:qU (f+1) pos (s.data.toList.drop pos)=if jI (s.data.toList.drop pos)=true then (pos:Int) else qU f (pos+(Utf8.decode s pos).2) (s.data.toList.drop (pos+(Utf8.decode s pos).2)):=by
    simp only [qU];rw [if_neg hl,hd,List.drop_drop]
   rw [hstep] at hacc;have hit2:=Lib.iterAt_heap wr w.heap.size s pos (pos+(Utf8.decode s pos).2) hit;have hbw2:=Lib.below_iterAt hbw (k:=w.heap.size) (by omega) s (pos+(Utf8.decode s pos).2);have HA:=jb hacc;clear hacc hstep
   by_cases h65:(Utf8.decode s pos).1=65533
   ·have t1:(((Utf8.decode s pos).1:Int) == 65533)=true:=by simp [h65]
    have H65:=jb h65;clear h65;have hsb:=Jj (s.extract pos s.size) _ (Utf8Tabs_below hT hbw2) (by rw [jj];exact hl);rw [jj] at hsb;have HSB:=jb hsb;clear hsb;cases hbb:jI (s.data.toList.drop pos) with
    | true=>
     rw [hbb] at HSB HA;rw [if_pos rfl] at HA;clear hbb
     go_wp2_with (go_at_call 79;refine(ja HSB).mono ?_;rintro e w1 ⟨rfl,hb1⟩)
     go_ret;rw [<-ja HA];exact⟨rfl,hbw2.trans (hb1.mono (by rw [Lib.iterAt_size];omega))⟩
    | false=>
     rw [hbb] at HSB HA;rw [if_neg (by simp)] at HA;clear hbb
     go_wp2_with (go_at_call 79;refine(ja HSB).mono ?_;rintro e w1 ⟨rfl,hb1⟩)
     have hit3:w1.heap[w.heap.size]?=some (.stringIter s (pos+(Utf8.decode s pos).2)):=by
      rw [hb1.block _ (by rw [Lib.iterAt_size];omega)];exact hit2
     go_roundw
     case rel=>exact⟨_,f,hit3,hbw2.trans (hb1.mono (by rw [Lib.iterAt_size];omega)),ja HA,by omega⟩
     case measure=>
      simp only [World.iterPos,hit3,hit];omega
   ·have t1:(((Utf8.decode s pos).1:Int) == 65533)=false:=by simp;omega
    have hbb:jI (s.data.toList.drop pos)=false:=decide_eq_false (by rw [hd];omega);rw [hbb,if_neg (by simp)] at HA;clear h65 hbb;go_wp2;go_roundw
    case rel=>exact⟨_,f,hit2,hbw2,ja HA,by omega⟩
    case measure=>
     simp only [World.iterPos,hit2,hit];omega
  ·have hnx:∀ty,(Instr.next (.pointer (some ⟨w.heap.size,0,none⟩)) true ty).run Tryd.prog wr=_:=fun ty=>Lib.run_next_end_at wr w.heap.size s pos ty hit hp
   have hl:s.data.toList.drop pos=[]:=List.drop_of_length_le (by rw [jc];omega);rw [hl,zN] at hacc;have HA:=jb hacc;clear hacc hl;go_wp2;go_ret;rw [<-ja HA];exact⟨rfl,hbw⟩
theorem Jc (r:Int)(w:World) :
  Calls Tryd.prog 138 #[.int .i32 r] w fun e w'=>e=.returned (.int .i64 (jT r))/\w'=w:=by
 have key:∀n:Int,jT r=n->Calls Tryd.prog 138 #[.int .i32 r] w (fun e w'=>e=.returned (.int .i64 n)/\w'=w)->
   Calls Tryd.prog 138 #[.int .i32 r] w fun e w'=>e=.returned (.int .i64 (jT r))/\w'=w:=fun n e h=>by rw [e];exact h
 by_cases h0:r<0
 ·refine key 0 (by have:sc r=false:=decide_eq_false (by omega);simp [jT,this]) ?_
  clear key
  go_enter Tryd.func138,Tryd.ntmps138
  go_wp2;go_ret;exact⟨rfl,rfl⟩
 ·by_cases h1:55296<=r
  ·by_cases h2:r<=57343
   ·refine key 0 (by have:sc r=false:=decide_eq_false (by omega);simp [jT,this]) ?_
    clear key
    go_enter Tryd.func138,Tryd.ntmps138
    go_wp2;go_ret;exact⟨rfl,rfl⟩
   ·by_cases h3:1114111<r
    ·refine key 0 (by have:sc r=false:=decide_eq_false (by omega);simp [jT,this]) ?_
     clear key
     go_enter Tryd.func138,Tryd.ntmps138
     go_wp2;go_ret;exact⟨rfl,rfl⟩
    ·have hs:sc r=true:=decide_eq_true (by omega)
     by_cases h4:r<65536
     ·refine key 3 (by simp only [jT,hs,if_true];rw [if_neg (by omega),if_neg (by omega),if_pos h4]) ?_
      clear key hs
      go_enter Tryd.func138,Tryd.ntmps138
      go_wp2;go_ret;exact⟨rfl,rfl⟩
     ·refine key 4 (by simp only [jT,hs,if_true];rw [if_neg (by omega),if_neg (by omega),if_neg h4]) ?_
      clear key hs
      go_enter Tryd.func138,Tryd.ntmps138
      go_wp2;go_ret;exact⟨rfl,rfl⟩
  ·have hs:sc r=true:=decide_eq_true (by omega)
   by_cases h2:r<128
   ·refine key 1 (by simp only [jT,hs,if_true];rw [if_pos h2]) ?_
    clear key hs
    go_enter Tryd.func138,Tryd.ntmps138
    go_wp2;go_ret;exact⟨rfl,rfl⟩
   ·by_cases h3:r<2048
    ·refine key 2 (by simp only [jT,hs,if_true];rw [if_neg h2,if_pos h3]) ?_
     clear key hs
     go_enter Tryd.func138,Tryd.ntmps138
     go_wp2;go_ret;exact⟨rfl,rfl⟩
    ·refine key 3 (by simp only [jT,hs,if_true];rw [if_neg h2,if_neg h3,if_pos (by omega)]) ?_
     clear key hs
     go_enter Tryd.func138,Tryd.ntmps138
     go_wp2;go_ret;exact⟨rfl,rfl⟩
end utfs
end Go.Proofs.YticcibefchffmaaDoor
