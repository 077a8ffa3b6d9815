/- Of our texts, what this claim reaches. -/
import Derived.Test.YtadaehaemmelfaaDoorPubAI
import Derived.Test.YtadaehaemmelfaaDoorPubAJ
import Derived.Lib.OthersKept
import Derived.WalkKit
import Derived.BigCall
import Derived.Lib.ItoaNum
set_option linter.unusedVariables false
set_option maxHeartbeats 2000000
set_option maxRecDepth 100000
namespace Go.Proofs.YtadaehaemmelfaaDoor
namespace utfs
open Go.RowKit
theorem ja {p:Prop}(h:p):Hid p:=h
theorem jc {p:Prop}(h:Hid p):p:=h
def jJ (l:List UInt8):Int:=if l=[] then -1 else if Jy l=true then -1 else ((Lib.decodeL l).1:Int)
def jO (l:List UInt8):Nat:=if l=[] then 0 else (Lib.decodeL l).2
theorem XH (s:ByteArray):Lib.decodeGo s=if s.data.toList=[] then (65533,0) else Lib.decodeL s.data.toList:=by
 unfold Lib.decodeGo;have h:=Lib.decodeL_drop s 0;rw [List.drop_zero] at h
 by_cases h0:s.data.toList=[]
 ·rw [if_pos h0,if_pos]
  have:=congrArg List.length h0;rw [Array.length_toList] at this;exact this
 ·rw [if_neg h0,if_neg,h]
  intro e;apply h0
  apply List.eq_nil_of_length_eq_zero
  rw [Array.length_toList];exact e
theorem XS {l:List UInt8}(hb:Jy l=false)(h65:(Lib.decodeL l).1=65533)(hw:(Lib.decodeL l).2<=1)(h1:1<=(Lib.decodeL l).2):False:=by
 have:=of_decide_eq_false hb;exact this ⟨h65,by omega⟩
theorem Q1 (l:List UInt8):1<=(Lib.decodeL l).2:=by unfold Lib.decodeL;exact Lib.width_pos _ _
theorem jbh (s:ByteArray)(w:World)(hT:Lib.Utf8Tabs 1 2 w) :
  Calls Tryd.prog 90 #[.string s] w fun e w'=>e=.returned (.tuple #[.int .i32 (jJ s.data.toList),.int .i64 (jO s.data.toList)])/\Below w.heap.size w w':=by
 have hd:=XH s;have hw:=Q1 s.data.toList
 by_cases h0:s.data.toList=[]
 ·have e1:(Lib.decodeGo s)=(65533,0):=by rw [hd,if_pos h0]
  have e2:jJ s.data.toList = -1:=by simp [jJ,h0]
  have e3:jO s.data.toList=0:=by simp [jO,h0]
  rw [e2,e3];have hc:=Tryd.utf8_DecodeRuneInString s w hT;rw [e1] at hc;have HC:=ja hc;clear hc e1 e2 e3 hd hw h0 hT
  go_enter Tryd.func90,Tryd.ntmps90
  go_wp2_with (go_at_call 109;refine(jc HC).mono ?_;rintro e w' ⟨rfl,hb⟩)
  go_ret2;exact⟨rfl,hb⟩
 ·cases hb:Jy s.data.toList with
  | true=>
   obtain⟨ed,_⟩:=jat h0 hb;have e1:(Lib.decodeGo s)=(65533,1):=by rw [hd,if_neg h0,ed]
   have e2:jJ s.data.toList = -1:=by simp [jJ,h0,hb]
   have e3:jO s.data.toList=1:=by simp [jO,h0,ed]
   rw [e2,e3];have hc:=Tryd.utf8_DecodeRuneInString s w hT;rw [e1] at hc;have HC:=ja hc;clear hc e1 e2 e3 hd hw h0 hT ed hb
   go_enter Tryd.func90,Tryd.ntmps90
   go_wp2_with (go_at_call 109;refine(jc HC).mono ?_;rintro e w' ⟨rfl,hb⟩)
   go_ret2;exact⟨rfl,hb⟩
  | false=>
   have e1:(Lib.decodeGo s)=Lib.decodeL s.data.toList:=by rw [hd,if_neg h0]
   have e2:jJ s.data.toList=((Lib.decodeL s.data.toList).1:Int):=by simp [jJ,h0,hb]
   have e3:jO s.data.toList=(Lib.decodeL s.data.toList).2:=by simp [jO,h0]
   have hx:=fun h65 hw1=>XS hb h65 hw1 hw
   rw [e2,e3];have hc:=Tryd.utf8_DecodeRuneInString s w hT;rw [e1] at hc;have HC:=ja hc;clear hc e1 e2 e3 hd h0 hT hb;generalize (Lib.decodeL s.data.toList).1=r at *;generalize (Lib.decodeL s.data.toList).2=n at *
   by_cases h65:r=65533
   ·have hn:¬n<=1:=fun h=>hx h65 h
    have t1:((r:Int) == 65533)=true:=by simp [h65]
    have t2:decide ((n:Int)<=1)=false:=by simp;omega
    have H5:=ja h65;clear hx h65
    go_enter Tryd.func90,Tryd.ntmps90
    go_wp2_with (go_at_call 109;refine(jc HC).mono ?_;rintro e w' ⟨rfl,hb⟩)
    go_ret2;exact⟨rfl,hb⟩
   ·have t1:((r:Int) == 65533)=false:=by simp;omega
    clear hx h65
    go_enter Tryd.func90,Tryd.ntmps90
    go_wp2_with (go_at_call 109;refine(jc HC).mono ?_;rintro e w' ⟨rfl,hb⟩)
    go_ret2;exact⟨rfl,hb⟩
theorem Ze {l:List UInt8}(h:l≠[]):(jJ l<0)↔Jy l=true:=by
 unfold jJ;rw [if_neg h]
 by_cases hb:Jy l=true
 ·simp [hb]
 ·simp only [hb];simp
theorem Zc (s:ByteArray)(w:World)(hT:Lib.Utf8Tabs 1 2 w)(h:s.data.toList≠[]) :
  Calls Tryd.prog 75 #[.string s] w fun e w'=>e=.returned (.bool (Jy s.data.toList))/\Below w.heap.size w w':=by
 have hn:=Ze h;have hc:=jbh s w hT;have HC:=ja hc;clear hc hT h;generalize jJ s.data.toList=r at *;generalize jO s.data.toList=n at *;cases hb:Jy s.data.toList with
 | true=>
  rw [hb] at hn;have h0:r<0:=hn.2 rfl;clear hn hb
  go_enter Tryd.func75,Tryd.ntmps75
  go_wp2_with (go_at_call 90;refine(jc HC).mono ?_;rintro e w' ⟨rfl,hb⟩)
  go_ret;exact⟨by simp,hb⟩
 | false=>
  rw [hb] at hn;have h0:¬r<0:=fun h=>by have:=hn.1 h;simp at this
  clear hn hb
  go_enter Tryd.func75,Tryd.ntmps75
  go_wp2_with (go_at_call 90;refine(jc HC).mono ?_;rintro e w' ⟨rfl,hb⟩)
  go_ret;exact⟨by simp;omega,hb⟩
theorem JM (s:ByteArray)(k:Nat):(s.extract k s.size).data.toList=s.data.toList.drop k:=by
 rw [ByteArray.data_extract,Array.toList_extract,List.extract_eq_take_drop];apply List.take_of_length_le
 rw [List.length_drop,Array.length_toList];exact Nat.le_refl _
theorem jn (s:ByteArray):s.data.toList.length=s.size:=Array.length_toList
theorem Qk (s:ByteArray)(w:World)(hs:s.size<=9223372036854775807)(hT:Lib.Utf8Tabs 1 2 w) :
  Calls Tryd.prog 58 #[.string s] w fun e w'=>e=.returned (.int .i64 (bad s.data.toList))/\Below w.heap.size w w':=by
 go_enter Tryd.func58,Tryd.ntmps58
 go_wp2
 go_loopw [] (fun wr=>∃(pos fuel:Nat),wr.heap[w.heap.size]?=some (.stringIter s pos)/\Below w.heap.size w wr/\Qg fuel pos (s.data.toList.drop pos)=bad s.data.toList/\s.size<=pos+fuel) (fun wr=>s.size - wr.iterPos w.heap.size)
 case atStart=>
  refine⟨0,s.size,?_,(Below.refl _ w).alloc (Nat.le_refl _) _,rfl,by omega⟩;have:=World.iter_heap w s 0;simpa using this
 case round=>
  obtain⟨pos,fuel,hit,hbw,hacc,hfu⟩:=hrel;have hsz:w.heap.size<wr.heap.size:=(Array.getElem?_eq_some_iff.1 hit).1
  by_cases hp:pos<s.size
  ·have hnx:∀ty,(Instr.next (.pointer (some ⟨w.heap.size,0,none⟩)) true ty).run Tryd.prog wr=_:=fun ty=>Lib.run_next_any_at wr w.heap.size s pos ty hit hp
   have hl:s.data.toList.drop pos≠[]:=by
    intro e;have:=congrArg List.length e;rw [List.length_drop,Array.length_toList] at this;simp only [List.length_nil] at this;have h2:s.data.size=s.size:=rfl;omega
   have hd:=Lib.decodeL_drop s pos;have hwd:=Q1 (s.data.toList.drop pos);rw [hd] at hwd;obtain⟨f,rfl⟩:∃f,fuel=f+1:=⟨fuel - 1,by omega⟩
   have hstep:Qg (f+1) pos (s.data.toList.drop pos)=if Jy (s.data.toList.drop pos)=true then (pos:Int) else Qg f (pos+(Utf8.decode s pos).2) (s.data.toList.drop (pos+(Utf8.decode s pos).2)):=by
    simp only [Qg];rw [if_neg hl,hd,List.drop_drop]
   rw [hstep] at hacc;have hit2:=Lib.iterAt_heap wr w.heap.size s pos (pos+(Utf8.decode s pos).2) hit;have hbw2:=Lib.below_iterAt hbw (k:=w.heap.size) (by omega) s (pos+(Utf8.decode s pos).2);have HA:=ja hacc;clear hacc hstep
   by_cases h65:(Utf8.decode s pos).1=65533
   ·have t1:(((Utf8.decode s pos).1:Int) == 65533)=true:=by simp [h65]
    have H65:=ja h65;clear h65;have hsb:=Zc (s.extract pos s.size) _ (Utf8Tabs_below hT hbw2) (by rw [JM];exact hl);rw [JM] at hsb;have HSB:=ja hsb;clear hsb;cases hbb:Jy (s.data.toList.drop pos) with
    | true=>
     rw [hbb] at HSB HA;rw [if_pos rfl] at HA;clear hbb
     go_wp2_with (go_at_call 75;refine(jc HSB).mono ?_;rintro e w1 ⟨rfl,hb1⟩)
     go_ret;rw [<-jc HA];exact⟨rfl,hbw2.trans (hb1.mono (by rw [Lib.iterAt_size];omega))⟩
    | false=>
     rw [hbb] at HSB HA;rw [if_neg (by simp)] at HA;clear hbb
     go_wp2_with (go_at_call 75;refine(jc HSB).mono ?_;rintro e w1 ⟨rfl,hb1⟩)
     have hit3:w1.heap[w.heap.size]?=some (.stringIter s (pos+(Utf8.decode s pos).2)):=by
      rw [hb1.block _ (by rw [Lib.iterAt_size];omega)];exact hit2
     go_roundw
     case rel=>exact⟨_,f,hit3,hbw2.trans (hb1.mono (by rw [Lib.iterAt_size];omega)),jc HA,by omega⟩
     case measure=>
      simp only [World.iterPos,hit3,hit];omega
   ·have t1:(((Utf8.decode s pos).1:Int) == 65533)=false:=by simp;omega
    have hbb:Jy (s.data.toList.drop pos)=false:=decide_eq_false (by rw [hd];omega);rw [hbb,if_neg (by simp)] at HA;clear h65 hbb;go_wp2;go_roundw
    case rel=>exact⟨_,f,hit2,hbw2,jc HA,by omega⟩
    case measure=>
     simp only [World.iterPos,hit2,hit];omega
  ·have hnx:∀ty,(Instr.next (.pointer (some ⟨w.heap.size,0,none⟩)) true ty).run Tryd.prog wr=_:=fun ty=>Lib.run_next_end_at wr w.heap.size s pos ty hit hp
   have hl:s.data.toList.drop pos=[]:=List.drop_of_length_le (by rw [jn];omega);rw [hl,Xy] at hacc;have HA:=ja hacc;clear hacc hl;go_wp2;go_ret;rw [<-jc HA];exact⟨rfl,hbw⟩
end utfs
namespace escs
open Go.RowKit
open utfs
theorem YY (s:ByteArray)(h:0<s.size):s.toList.isEmpty=false:=by
 rw [ByteArray.toList_eq,List.isEmpty_eq_false_iff];intro e;have:=congrArg List.length e;rw [jn] at this;simp only [List.length_nil] at this;omega
theorem Xk (s:ByteArray)(h:s.size=0):s.toList.isEmpty=true:=by
 rw [ByteArray.toList_eq,List.isEmpty_iff];apply List.eq_nil_of_length_eq_zero
 rw [jn];exact h
end escs
end Go.Proofs.YtadaehaemmelfaaDoor
