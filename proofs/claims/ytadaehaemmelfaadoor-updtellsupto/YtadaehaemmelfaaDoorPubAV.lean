/- Of our texts, what this claim reaches. -/
import Derived.Test.YtadaehaemmelfaaDoorPubAU
import Derived.Lib.AppendZerosOnto
import Derived.Deep.DeepAppendWide
import Derived.Laws.CopyRow
import Derived.Lib.Overlaps
import Derived.Lib.AppendZeros
import Derived.Lib.JoinLaws
import Derived.Laws.Externs
import Derived.Shelf.RegionOpenPlain
import Derived.Deep.RegionLaw
import Derived.Lib.Walk
set_option linter.unusedVariables false
set_option maxHeartbeats 4000000
set_option maxRecDepth 100000
namespace Go.Proofs.YtadaehaemmelfaaDoor
namespace valus
open Go.RowKit Go.Shelf
/-- There is room: in place. -/
theorem ZT (w:World)(g c n i:Nat)(cur:Array Value)(hg:w.heap[g]?=some (.cells cur 57 (0,0)))(hcz:cur.size=c*7)(hc:c<=maxLen)(hi:i<n)(hroom:n+1<=c)(vb:Nat)(vs:List Value)(tv:TypeId)(hv:w.heap[vb]?=some (.cells vs.toArray tv (0,0)))(hne:vb≠g)(hvl:vs.length=7)
  (h1c:∀u∈cur.toList.take (n*7),u.oneCell'=true) (h1v:∀u∈vs,u.oneCell'=true) :
  Calls Tryd.prog 112 #[.slice (some ⟨g,0,none⟩) n c,.int .i64 (i:Int),.slice (some ⟨vb,0,none⟩) 1 1] w fun e w'=>
   e=.returned (.slice (some ⟨g,0,none⟩) (n+1) c)/\∃X:Array Value,w'.heap[g]?=some (.cells X 57 (0,0))/\X.size=cur.size/\X.toList.take ((n+1)*7)=cur.toList.take (i*7)++(vs++(cur.toList.take (n*7)).drop (i*7))/\w.grownBy w' (some g):=by
 obtain⟨B,hB⟩:∃B,B=(cur.toList.take (n*7)).drop (i*7):=⟨_,rfl⟩
 have hBl:B.length=(n - i)*7:=by rw [hB,List.length_drop,List.length_take,Array.length_toList,hcz];omega
 have mixed:(Tryd.prog).follows .mixedOrders=true:=by kernel_rfl
 have hz1:¬((i:Int)=(n:Int)):=by omega
 have hz3:¬((c:Int)<(n:Int)+1):=by omega
 have hc63:c<=9223372036854775807:=by unfold maxLen at hc;omega
 have hin:i<=n:=by omega
 have hw1:IntKind.i64.wrap ((i:Int)+1)=(i:Int)+1:=by rw [IntKind.wrap_i64];omega
 have hb1:(0:Int)<=(i:Int)+1:=by omega
 have htn:((i:Int)+1).toNat=i+1:=by omega
 have hb2:¬(c=i+1):=by omega
 have hb4:¬(c=i):=by omega
 have hb3:(i:Int)<=(n:Int)+1:=by omega
 obtain⟨X1,hX1⟩:∃X1,X1=(cur.toList.take ((i+1)*7)++B++cur.toList.drop ((i+1)*7+B.length)).toArray:=⟨_,rfl⟩
 obtain⟨X2,hX2⟩:∃X2,X2=(X1.toList.take (i*7)++vs++X1.toList.drop (i*7+vs.length)).toArray:=⟨_,rfl⟩
 have hov:∀lb cb,(callFunc 121 #[.slice (some ⟨vb,0,none⟩) 1 1,.slice (some ⟨g,(i+1)*7,none⟩) lb cb]).run Tryd.prog w=.ok (.value (.bool false)) w:=fun lb cb=>jag w vb _ tv hv g _ cur _ hg (by omega) hne 1 1 lb cb
 have hX1s:X1.size=cur.size:=by rw [hX1];simp;omega
 have hcp1:∀ty dc sc,(Builtin.copy_ #[24,24] ty #[.slice (some ⟨g,(i+1)*7,none⟩) (n - i) dc,.slice (some ⟨g,i*7,none⟩) (n+1 - i) sc]).run Tryd.prog w.drew=.ok (goInt ((n - i:Nat):Int)) (w.drew.setRow g X1):=fun ty dc sc=>by
  rw [hX1]
  exact Jt w.drew _ _ ty 57 g ((i+1)*7) (n - i) dc ⟨g,i*7,none⟩ (n+1 - i) sc cur 57 B Tryd.underlying24 Yw hg (n - i) (by simp only [Nat.min_def];split<;>omega) hBl (fun j v hj=>by
   rw [Addr.add_lit];have hj':(cur.toList.take (n*7))[i*7+j]?=some v:=by rw [hB,List.getElem?_drop] at hj;exact hj
   rw [List.getElem?_take] at hj';split at hj'
   ·rw [Array.getElem?_toList] at hj'
    have hg':w.drew.heap[g]?=some (.cells cur 57 (0,0)):=hg
    simp only [World.cell?,hg'];exact hj'
   ·cases hj') (by omega) (fun v hv=>h1c v (by rw [hB] at hv;exact List.mem_of_mem_drop hv))
 obtain⟨W1,hW1⟩:∃W1,W1=w.drew.setRow g X1:=⟨_,rfl⟩
 have hg1:W1.heap[g]?=some (.cells X1 57 (0,0)):=by rw [hW1];exact setRow_heap w.drew g cur X1 57 (0,0) hg
 have hv1:W1.heap[vb]?=some (.cells vs.toArray tv (0,0)):=by rw [hW1,setRow_other _ _ _ _ hne];exact hv
 have hcp2:∀ty dc,(Builtin.copy_ #[24,24] ty #[.slice (some ⟨g,i*7,none⟩) (n+1 - i) dc,.slice (some ⟨vb,0,none⟩) 1 1]).run Tryd.prog W1=.ok (goInt 1) (W1.setRow g X2):=fun ty dc=>by
  rw [hX2]
  exact Jt W1 _ _ ty 57 g (i*7) (n+1 - i) dc ⟨vb,0,none⟩ 1 1 X1 57 vs Tryd.underlying24 Yw hg1 1 (by simp only [Nat.min_def];split<;>omega) (by omega) (fun j v hj=>by
   rw [Addr.add_lit];simp only [World.cell?,hv1];simpa using hj) (by omega) h1v
 rw [<-hW1] at hcp1;clear hg1 hv1;have HW1:=ja hW1;have HX1:=ja hX1;have HX2:=ja hX2;clear hW1 hX1 hX2
 go_enter Tryd.func112,Tryd.ntmps112
 go_wp2_with (simp only [hov])
 go_region_law_o (refine step_copy7 rfl _ _ 24 24 rfl _ _ (by simp [Act.eval,Act.put]) (by simp [Act.eval,Act.put]) (hcp1 _ _ _) ?_)
 go_wp2_with (at_builtin;refine wpList_copy7 _ rfl _ _ 24 24 rfl _ _ rfl rfl (hcp2 _ _) ?_)
 go_ret;have hX1:=HX1.out;have hX2:=HX2.out;have hW1:=HW1.out;have l1:(cur.toList.take ((i+1)*7)).length=(i+1)*7:=by rw [List.length_take,Array.length_toList];omega
 have q1:X1.toList=cur.toList.take ((i+1)*7)++(B++cur.toList.drop ((i+1)*7+B.length)):=by rw [hX1,List.append_assoc]
 have t1:X1.toList.take (i*7)=cur.toList.take (i*7):=by rw [q1,List.take_append_of_le_length (by omega),List.take_take,Nat.min_eq_left (by omega)]
 have t2:X1.toList.drop (i*7+vs.length)=B++cur.toList.drop ((i+1)*7+B.length):=by
  rw [q1,show i*7+vs.length=(cur.toList.take ((i+1)*7)).length by omega,List.drop_left]
 have q2:X2.toList=(cur.toList.take (i*7)++(vs++B))++cur.toList.drop ((i+1)*7+B.length):=by rw [hX2,t1,t2];simp [List.append_assoc]
 have l2:(cur.toList.take (i*7)++(vs++B)).length=(n+1)*7:=by rw [List.length_append,List.length_append,List.length_take,Array.length_toList];omega
 refine⟨rfl,X2,setRow_heap W1 g X1 X2 _ _ (by rw [hW1];exact setRow_heap w.drew g cur X1 57 (0,0) hg),?_,?_,?_⟩
 ·rw [<-Array.length_toList,q2,List.length_append,l2,List.length_drop,Array.length_toList]
  omega
 ·rw [q2,<-l2,List.take_left,hB]
 ·rw [hW1]
  refine⟨rfl,rfl,rfl,by simp [World.setRow],fun b hb hne'=>?_⟩;have hbg:b≠g:=fun e=>hne' (by rw [e])
  rw [setRow_other _ _ _ _ hbg,setRow_other _ _ _ _ hbg];rfl
open Go.RowKit Go.Shelf
theorem setRow_size (w:World)(g:Nat)(cs:Array Value):(w.setRow g cs).heap.size=w.heap.size:=by simp [World.setRow]
theorem Xx (w:World)(g c n i:Nat)(cur:Array Value)(hg:w.heap[g]?=some (.cells cur 57 (0,0)))(hcz:cur.size=c*7)(hi:i<n)(hnc:n<=c)(hroom:c<n+1)(hbig:n<=10000000)(vb:Nat)(vs:List Value)(tv:TypeId)(hv:w.heap[vb]?=some (.cells vs.toArray tv (0,0)))(hvl:vs.length=7)
  (h1c:∀u∈cur.toList.take (n*7),u.oneCell'=true) (h1v:∀u∈vs,u.oneCell'=true) :
  Calls Tryd.prog 112 #[.slice (some ⟨g,0,none⟩) n c,.int .i64 (i:Int),.slice (some ⟨vb,0,none⟩) 1 1] w fun e w'=>
   ∃G,e=.returned (.slice (some ⟨w.heap.size,0,none⟩) (n+1) G)/\n+1<=G/\G<=maxLen/\∃X:Array Value,w'.heap[w.heap.size]?=some (.cells X 57 (0,0))/\X.size=G*7/\X.toList.take ((n+1)*7)=cur.toList.take (i*7)++(vs++(cur.toList.take (n*7)).drop (i*7))/\w.grownBy w' none:=by
 obtain⟨B,hB⟩:∃B,B=(cur.toList.take (n*7)).drop (i*7):=⟨_,rfl⟩
 have hBl:B.length=(n - i)*7:=by rw [hB,List.length_drop,List.length_take,Array.length_toList,hcz];omega
 obtain⟨A,hA⟩:∃A,A=cur.toList.take (i*7):=⟨_,rfl⟩
 have hAl:A.length=i*7:=by rw [hA,List.length_take,Array.length_toList,hcz];omega
 have mixed:(Tryd.prog).follows .mixedOrders=true:=by kernel_rfl
 obtain⟨i0,hi0,hz0,hzs,hzb⟩:=info_parts JK;have hgw:g<w.heap.size:=(Array.getElem?_eq_some_iff.1 hg).1;have hvw:vb<w.heap.size:=(Array.getElem?_eq_some_iff.1 hv).1;have hz2:¬((i:Int)=(n:Int)):=by omega
 have hz3:(c:Int)<(n:Int)+1:=by omega
 have hkk:(n:Int)+1 - (i:Int)=((n+1 - i:Nat):Int):=by omega
 have hik:i+(n+1 - i)=n+1:=by omega
 have hold:(Builtin.firstCells i0.size i (.slice (some ⟨g,0,none⟩) i c)).run Tryd.prog w.drew=.ok A.toArray w.drew:=by
  rw [hzs];refine run_firstCells_some w.drew 7 i ⟨g,0,none⟩ i c A hAl (fun j v hj=>?_);rw [Addr.add_lit,Nat.zero_add];rw [hA,List.getElem?_take] at hj;split at hj
  ·rw [Array.getElem?_toList] at hj
   have hg':w.drew.heap[g]?=some (.cells cur 57 (0,0)):=hg
   simp only [World.cell?,hg'];exact hj
  ·cases hj
 obtain⟨G,hG⟩:∃G,G=grownCap w (n+1) c 57:=⟨_,rfl⟩
 obtain⟨Z1,hZ1⟩:∃Z1:Array Value,Z1=Builtin.zeroCells (Value.agg #[.string ⟨#[]⟩,.int .i64 0,.int .i64 0,.int .u64 0,.string ⟨#[]⟩,.slice none 0 0,.slice none 0 0]).cells (n+1 - i):=⟨_,rfl⟩
 obtain⟨Z2,hZ2⟩:∃Z2:Array Value,Z2=Builtin.zeroCells (Value.agg #[.string ⟨#[]⟩,.int .i64 0,.int .i64 0,.int .u64 0,.string ⟨#[]⟩,.slice none 0 0,.slice none 0 0]).cells (G - (n+1)):=⟨_,rfl⟩
 obtain⟨ROW,hROW⟩:∃ROW:Array Value,ROW=A.toArray++Z1++Z2:=⟨_,rfl⟩
 have hGn:n+1<=G:=by rw [hG];exact grownCap_ge w _ _ _
 have hGm:G<=maxLen:=by rw [hG];exact grownCap_le_maxLen w (n+1) c 57 (by unfold maxLen;omega)
 have hG63:G<=9223372036854775807:=by unfold maxLen at hGm;omega
 have hrz:∀ty,(Builtin.append_ #[24,3] ty #[.slice (some ⟨g,0,none⟩) i c,.int .i64 ((n:Int)+1 - (i:Int))]).run Tryd.prog w=.ok (.slice (some ⟨w.heap.size,0,none⟩) (n+1) G) (w.drew.alloc (.cells ROW 57)):=fun ty=>by
  have h:=Lib.run_append_grow_zeros w 24 3 ty 57 i0 _ .i64 .i64 Tryd.underlying24 Tryd.underlying3 hi0 hz0 (some ⟨g,0,none⟩) i c A hold (n+1 - i) (by omega) (by omega) (by omega) (by omega) (by rw [hzb];omega) (by rw [hzb,hik];exact growslice_fits_wide hroom (by omega));rw [hik,<-hG] at h;rw [hkk,hROW,hZ1,hZ2];exact h
 have hRs:ROW.size=G*7:=by
  rw [hROW,hZ1,hZ2];simp [Builtin.zeroCells,Value.cells,hAl];omega
 obtain⟨W1,hW1⟩:∃W1,W1=w.drew.alloc (.cells ROW 57):=⟨_,rfl⟩
 rw [<-hW1] at hrz;have hN1:W1.heap[w.heap.size]?=some (.cells ROW 57 (0,0)):=by rw [hW1];exact World.alloc_heap_new w.drew _
 have hb1:W1.heap[g]?=some (.cells cur 57 (0,0)):=by rw [hW1];exact(Below.heap_alloc _ _ _ hgw).trans hg
 have hv1:W1.heap[vb]?=some (.cells vs.toArray tv (0,0)):=by rw [hW1];exact(Below.heap_alloc _ _ _ hvw).trans hv
 obtain⟨X1,hX1⟩:∃X1,X1=(ROW.toList.take (i*7)++vs++ROW.toList.drop (i*7+vs.length)).toArray:=⟨_,rfl⟩
 have hX1s:X1.size=G*7:=by rw [hX1];simp;omega
 have hcpA:∀ty dc,(Builtin.copy_ #[24,24] ty #[.slice (some ⟨w.heap.size,i*7,none⟩) (n+1 - i) dc,.slice (some ⟨vb,0,none⟩) 1 1]).run Tryd.prog W1=.ok (goInt 1) (W1.setRow w.heap.size X1):=fun ty dc=>by
  rw [hX1]
  exact Jt W1 _ _ ty 57 w.heap.size (i*7) (n+1 - i) dc ⟨vb,0,none⟩ 1 1 ROW 57 vs Tryd.underlying24 Yw hN1 1 (by simp only [Nat.min_def];split<;>omega) (by omega) (fun j v hj=>by
   rw [Addr.add_lit];simp only [World.cell?,hv1];simpa using hj) (by omega) h1v
 obtain⟨W2,hW2⟩:∃W2,W2=W1.setRow w.heap.size X1:=⟨_,rfl⟩
 rw [<-hW2] at hcpA;have hN2:W2.heap[w.heap.size]?=some (.cells X1 57 (0,0)):=by rw [hW2];exact setRow_heap W1 _ ROW X1 _ _ hN1
 have hb2:W2.heap[g]?=some (.cells cur 57 (0,0)):=by rw [hW2,setRow_other _ _ _ _ (by omega)];exact hb1
 obtain⟨X2,hX2⟩:∃X2,X2=(X1.toList.take ((i+1)*7)++B++X1.toList.drop ((i+1)*7+B.length)).toArray:=⟨_,rfl⟩
 have hcpB:∀ty dc sc,(Builtin.copy_ #[24,24] ty #[.slice (some ⟨w.heap.size,(i+1)*7,none⟩) (n - i) dc,.slice (some ⟨g,i*7,none⟩) (n - i) sc]).run Tryd.prog W2.drew=.ok (goInt ((n - i:Nat):Int)) (W2.drew.setRow w.heap.size X2):=fun ty dc sc=>by
  rw [hX2]
  exact Jt W2.drew _ _ ty 57 w.heap.size ((i+1)*7) (n - i) dc ⟨g,i*7,none⟩ (n - i) sc X1 57 B Tryd.underlying24 Yw hN2 (n - i) (by simp only [Nat.min_def];split<;>omega) hBl (fun j v hj=>by
   rw [Addr.add_lit];have hj':(cur.toList.take (n*7))[i*7+j]?=some v:=by rw [hB,List.getElem?_drop] at hj;exact hj
   rw [List.getElem?_take] at hj';split at hj'
   ·rw [Array.getElem?_toList] at hj'
    have hg':W2.drew.heap[g]?=some (.cells cur 57 (0,0)):=hb2
    simp only [World.cell?,hg'];exact hj'
   ·cases hj') (by omega) (fun v hv=>h1c v (by rw [hB] at hv;exact List.mem_of_mem_drop hv))
 have hw1:IntKind.i64.wrap ((i:Int)+1)=(i:Int)+1:=by rw [IntKind.wrap_i64];omega
 have hw2:IntKind.i64.wrap ((n:Int)+1 - (i:Int))=(n:Int)+1 - (i:Int):=by rw [IntKind.wrap_i64];omega
 have hb3:(0:Int)<=(i:Int)+1:=by omega
 have htn:((i:Int)+1).toNat=i+1:=by omega
 have hGi:¬(G=i):=by omega
 have hGim:¬(G=i+1):=by omega
 have hci:¬(c=i):=by omega
 have hc0:¬(c=0):=by omega
 have hin:i<=n:=by omega
 have hic:(i:Int)<=(c:Int):=by omega
 have hb4:(i:Int)<=(n:Int):=by omega
 have HA:=ja hA;have HAl:=ja hAl;have HG:=ja hG;have HR:=ja hROW;have HW1:=ja hW1;have HW2:=ja hW2;have HX1:=ja hX1;have HX2:=ja hX2;clear hkk hik hold hA hAl hG hROW hZ1 hZ2 hW1 hW2 hX1 hX2 hN1 hb1 hv1 hb2
 go_enter Tryd.func112,Tryd.ntmps112
 go_wp2_with (first
  | (at_builtin;refine Lib.wpList_append_run _ rfl _ _ _ _ rfl _ _ rfl rfl _ _ (hrz _) ?_)
  | (at_builtin;refine wpList_copy7 _ rfl _ _ 24 24 rfl _ _ rfl rfl (hcpA _ _) ?_))
 go_region_law_o (refine step_copy7 rfl _ _ 24 24 rfl _ _ (by simp [Act.eval,Act.put]) (by simp [Act.eval,Act.put]) (hcpB _ _ _) ?_)
 go_wp2;go_ret
 have l1:(ROW.toList.take (i*7))=A:=by
  rw [HR.out];simp only [Array.toList_append,List.append_assoc];rw [<-HAl.out,List.take_left]
 have q1:X1.toList=(A++vs)++ROW.toList.drop (i*7+vs.length):=by rw [HX1.out,l1]
 have la:(A++vs).length=(i+1)*7:=by rw [List.length_append,HAl.out];omega
 have q2:X2.toList=(A++(vs++B))++X1.toList.drop ((i+1)*7+B.length):=by
  rw [HX2.out];have:X1.toList.take ((i+1)*7)=A++vs:=by rw [q1,<-la,List.take_left]
  rw [this];simp [List.append_assoc]
 have l2:(A++(vs++B)).length=(n+1)*7:=by rw [List.length_append,List.length_append,HAl.out];omega
 refine⟨G,rfl,hGn,hGm,X2,setRow_heap W2.drew _ X1 X2 _ _ hN2,?_,?_,?_⟩
 ·rw [<-Array.length_toList,q2,List.length_append,l2,List.length_drop,Array.length_toList,hX1s]
  omega
 ·rw [q2,<-l2,List.take_left,hB,HA.out]
 ·rw [HW2.out,HW1.out]
  refine⟨rfl,rfl,rfl,by
   rw [setRow_size]
   show _<=(World.setRow _ _ _).heap.size
   rw [setRow_size,World.size_alloc];exact Nat.le_succ _,fun b hb hne'=>?_⟩
  rw [setRow_other _ _ _ _ (by omega)]
  show(World.setRow _ _ _).heap[b]?=_
  rw [setRow_other _ _ _ _ (by omega)];exact Below.heap_alloc _ _ _ hb
open Go.RowKit Go.Shelf
attribute [local go_sem] Oper.semAt_some
theorem jcg {Q:Exit->Act->World->Prop}{ops:Array Oper}{D:List Deferred}{t0 t1 t2 t3 t6 t9 t10 t11 t12 t13 t14 t15 t16 t17 t18 t19 t20 t21 t22 t23 t24 t25 t26 v:Value}{W:World}{Bk Bv i:Nat}{key:ByteArray}{ak an:Int}{ab:Nat}{az:ByteArray}{apL:Option Addr}{anL acL:Nat}{apE:Option Addr}{anE acE:Nat}{q0 q1 q2 q3 q4 q5 q6 q7 q8:String}{f0 f1 f2 f3 f4 f5 f6 f7 f8:_}
  (H:World->Int->Int->Nat->ByteArray->Option Addr->Nat->Nat->Option Addr->Nat->Nat->Prop) (H2:World->Value->Prop)
  (h0:ops[0]?=some { dst:=some 19,op:=.move (.tmp 7),type:=24,pos:=q0,after:=f0,guard:=none })
  (h1:ops[1]?=some { dst:=some 20,op:=.move (.tmp 8),type:=3,pos:=q1,after:=f1,guard:=none })
  (h2:ops[2]?=some { dst:=some 21,op:=.load 9 (.tmp 4),type:=9,pos:=q2,after:=f2,guard:=none })
  (h3:ops[3]?=some { dst:=some 22,op:=.load 26 (.tmp 5),type:=26,pos:=q3,after:=f3,guard:=none })
  (h4:ops[4]?=some { dst:=some 23,op:=.call { callee:=.value (.func 29),args:=#[.tmp 22],argTypes:=#[26] },type:=26,pos:=q4,after:=f4,guard:=none })
  (h5:ops[5]?=some { dst:=some 24,op:=.build 57 #[(0,.tmp 21),(1,.tmp 23)],type:=57,pos:=q5,after:=f5,guard:=none })
  (h6:ops[6]?=some { dst:=some 25,op:=.buildSlice 24 1 #[(0,.tmp 24)],type:=24,pos:=q6,after:=f6,guard:=none })
  (h7:ops[7]?=some { dst:=some 26,op:=.call { callee:=.value (.func 112),args:=#[.tmp 19,.tmp 20,.tmp 25],argTypes:=#[24,3,24] },type:=24,pos:=q7,after:=f7,guard:=none })
  (h8:ops[8]?=some { dst:=some 6,op:=.assign (.tmp 26),type:=24,pos:=q8,after:=f8,guard:=none })
  (r012345678:Region.ready .any ops #[true,true,true,true,true,true,true,true,true]=[])
  (r01234567:Region.ready .any ops #[true,true,true,true,true,true,true,true,false]=[8])
  (r0123456:Region.ready .any ops #[true,true,true,true,true,true,true,false,false]=[7])
  (r012345:Region.ready .any ops #[true,true,true,true,true,true,false,false,false]=[6])
  (r023456:Region.ready .any ops #[true,false,true,true,true,true,true,false,false]=[1])
  (r123456:Region.ready .any ops #[false,true,true,true,true,true,true,false,false]=[0])
  (r01234:Region.ready .any ops #[true,true,true,true,true,false,false,false,false]=[5])
  (r02345:Region.ready .any ops #[true,false,true,true,true,true,false,false,false]=[1,6])
  (r12345:Region.ready .any ops #[false,true,true,true,true,true,false,false,false]=[0,6])
  (r23456:Region.ready .any ops #[false,false,true,true,true,true,true,false,false]=[0,1])
  (r0123:Region.ready .any ops #[true,true,true,true,false,false,false,false,false]=[4])
  (r0134:Region.ready .any ops #[true,true,false,true,true,false,false,false,false]=[2])
  (r0234:Region.ready .any ops #[true,false,true,true,true,false,false,false,false]=[1,5])
  (r1234:Region.ready .any ops #[false,true,true,true,true,false,false,false,false]=[0,5])
  (r2345:Region.ready .any ops #[false,false,true,true,true,true,false,false,false]=[0,1,6])
  (r012:Region.ready .any ops #[true,true,true,false,false,false,false,false,false]=[3])
  (r013:Region.ready .any ops #[true,true,false,true,false,false,false,false,false]=[2,4])
  (r023:Region.ready .any ops #[true,false,true,true,false,false,false,false,false]=[1,4])
  (r034:Region.ready .any ops #[true,false,false,true,true,false,false,false,false]=[1,2])
  (r123:Region.ready .any ops #[false,true,true,true,false,false,false,false,false]=[0,4])
  (r134:Region.ready .any ops #[false,true,false,true,true,false,false,false,false]=[0,2])
  (r234:Region.ready .any ops #[false,false,true,true,true,false,false,false,false]=[0,1,5])
  (r01:Region.ready .any ops #[true,true,false,false,false,false,false,false,false]=[2,3])
  (r02:Region.ready .any ops #[true,false,true,false,false,false,false,false,false]=[1,3])
  (r03:Region.ready .any ops #[true,false,false,true,false,false,false,false,false]=[1,2,4])
  (r12:Region.ready .any ops #[false,true,true,false,false,false,false,false,false]=[0,3])
  (r13:Region.ready .any ops #[false,true,false,true,false,false,false,false,false]=[0,2,4])
  (r23:Region.ready .any ops #[false,false,true,true,false,false,false,false,false]=[0,1,4])
  (r34:Region.ready .any ops #[false,false,false,true,true,false,false,false,false]=[0,1,2])
  (r0:Region.ready .any ops #[true,false,false,false,false,false,false,false,false]=[1,2,3])
  (r1:Region.ready .any ops #[false,true,false,false,false,false,false,false,false]=[0,2,3])
  (r2:Region.ready .any ops #[false,false,true,false,false,false,false,false,false]=[0,1,3])
  (r3:Region.ready .any ops #[false,false,false,true,false,false,false,false,false]=[0,1,2,4])
  (r:Region.ready .any ops #[false,false,false,false,false,false,false,false,false]=[0,1,2,3])
  (ck:W.cell? ⟨Bk,0,none⟩=some (.string key))
  (c0:W.cell? ⟨Bv,0,none⟩=some (.int .i64 ak))
  (c1:W.cell? ⟨Bv,1,none⟩=some (.int .i64 an))
  (c2:W.cell? ⟨Bv,2,none⟩=some (.int .u64 (ab:Int)))
  (c3:W.cell? ⟨Bv,3,none⟩=some (.string az))
  (c4:W.cell? ⟨Bv,4,none⟩=some (.slice apL anL acL))
  (c5:W.cell? ⟨Bv,5,none⟩=some (.slice apE anE acE))
  (hC:CallsIn Fence.wide 8 Tryd.prog 29 #[(.agg #[.int .i64 ak,.int .i64 an,.int .u64 (ab:Int),.string az,.slice apL anL acL,.slice apE anE acE])] W fun e w1=>∃(k n:Int) (b:Nat) (s:ByteArray) (pL:Option Addr) (nL cL:Nat) (pE:Option Addr) (nE cE:Nat),e=.returned (.agg #[.int .i64 k,.int .i64 n,.int .u64 (b:Int),.string s,.slice pL nL cL,.slice pE nE cE])/\H w1 k n b s pL nL cL pE nE cE)
  (hd:∀(w1:World) (k n:Int) (b:Nat) (s:ByteArray) (pL:Option Addr) (nL cL:Nat) (pE:Option Addr) (nE cE:Nat),H w1 k n b s pL nL cL pE nE cE->w1.cell? ⟨Bk,0,none⟩=some (.string key))
  (hI:∀(w1:World) (k n:Int) (b:Nat) (s:ByteArray) (pL:Option Addr) (nL cL:Nat) (pE:Option Addr) (nE cE:Nat),H w1 k n b s pL nL cL pE nE cE->CallsIn Fence.wide 8 Tryd.prog 112 #[v,.int .i64 (i:Int),.slice (some ⟨w1.heap.size,0,none⟩) 1 1] (w1.alloc (.cells #[.string key,.int .i64 k,.int .i64 n,.int .u64 (b:Int),.string s,.slice pL nL cL,.slice pE nE cE] 57)) fun e w2=>∃v',e=.returned v'/\H2 w2 v')
  (hQ:∀(w1:World) (k n:Int) (b:Nat) (s:ByteArray) (pL:Option Addr) (nL cL:Nat) (pE:Option Addr) (nE cE:Nat) w2 v',H2 w2 v'->Q .normal { tmps:=#[t0,t1,t2,t3,(.pointer (some ⟨Bk,0,none⟩)),(.pointer (some ⟨Bv,0,none⟩)),v',v,(.int .i64 (i:Int)),t9,t10,t11,t12,t13,t14,t15,t16,t17,t18,v,(.int .i64 (i:Int)),(.string key),(.agg #[.int .i64 ak,.int .i64 an,.int .u64 (ab:Int),.string az,.slice apL anL acL,.slice apE anE acE]),(.agg #[.int .i64 k,.int .i64 n,.int .u64 (b:Int),.string s,.slice pL nL cL,.slice pE nE cE]),(.agg #[.string key,.int .i64 k,.int .i64 n,.int .u64 (b:Int),.string s,.slice pL nL cL,.slice pE nE cE]),(.slice (some ⟨w1.heap.size,0,none⟩) 1 1),v'],defers:=D } w2) :
  wpAnyIn Fence.wide 9 Tryd.prog .any ops Q 9 #[false,false,false,false,false,false,false,false,false] { tmps:=#[t0,t1,t2,t3,(.pointer (some ⟨Bk,0,none⟩)),(.pointer (some ⟨Bv,0,none⟩)),t6,v,(.int .i64 (i:Int)),t9,t10,t11,t12,t13,t14,t15,t16,t17,t18,t19,t20,t21,t22,t23,t24,t25,t26],defers:=D } W:=by
 have s0123456:∀(w1:World) (k n:Int) (b:Nat) (s:ByteArray) (pL:Option Addr) (nL cL:Nat) (pE:Option Addr) (nE cE:Nat),H w1 k n b s pL nL cL pE nE cE->wpAnyIn Fence.wide 9 Tryd.prog .any ops Q 2 #[true,true,true,true,true,true,true,false,false] { tmps:=#[t0,t1,t2,t3,(.pointer (some ⟨Bk,0,none⟩)),(.pointer (some ⟨Bv,0,none⟩)),t6,v,(.int .i64 (i:Int)),t9,t10,t11,t12,t13,t14,t15,t16,t17,t18,v,(.int .i64 (i:Int)),(.string key),(.agg #[.int .i64 ak,.int .i64 an,.int .u64 (ab:Int),.string az,.slice apL anL acL,.slice apE anE acE]),(.agg #[.int .i64 k,.int .i64 n,.int .u64 (b:Int),.string s,.slice pL nL cL,.slice pE nE cE]),(.agg #[.string key,.int .i64 k,.int .i64 n,.int .u64 (b:Int),.string s,.slice pL nL cL,.slice pE nE cE]),(.slice (some ⟨w1.heap.size,0,none⟩) 1 1),t26],defers:=D } (w1.alloc (.cells #[.string key,.int .i64 k,.int .i64 n,.int .u64 (b:Int),.string s,.slice pL nL cL,.slice pE nE cE] 57)):=by
  intro w1 k n b s pL nL cL pE nE cE hH;have e0:=hd w1 k n b s pL nL cL pE nE cE hH;refine wpAnyIn_ready r0123456 (by simp) (AllReadyIn.cons h7 (fun K hK=>?_) AllReadyIn.nil)
  go_simp
  refine⟨trivial,(hI w1 k n b s pL nL cL pE nE cE hH).mono ?_⟩
  rintro e w2 ⟨v',rfl,hH2⟩
  refine hK _ _ (wpAnyIn_ready r01234567 (by simp) (AllReadyIn.cons h8 (fun K hK=>?_) AllReadyIn.nil))
  go_simp
  exact hK _ _ (wpAnyIn_done r012345678 (hQ w1 k n b s pL nL cL pE nE cE w2 v' hH2) _)
 have s012345:∀(w1:World) (k n:Int) (b:Nat) (s:ByteArray) (pL:Option Addr) (nL cL:Nat) (pE:Option Addr) (nE cE:Nat),H w1 k n b s pL nL cL pE nE cE->wpAnyIn Fence.wide 9 Tryd.prog .any ops Q 3 #[true,true,true,true,true,true,false,false,false] { tmps:=#[t0,t1,t2,t3,(.pointer (some ⟨Bk,0,none⟩)),(.pointer (some ⟨Bv,0,none⟩)),t6,v,(.int .i64 (i:Int)),t9,t10,t11,t12,t13,t14,t15,t16,t17,t18,v,(.int .i64 (i:Int)),(.string key),(.agg #[.int .i64 ak,.int .i64 an,.int .u64 (ab:Int),.string az,.slice apL anL acL,.slice apE anE acE]),(.agg #[.int .i64 k,.int .i64 n,.int .u64 (b:Int),.string s,.slice pL nL cL,.slice pE nE cE]),(.agg #[.string key,.int .i64 k,.int .i64 n,.int .u64 (b:Int),.string s,.slice pL nL cL,.slice pE nE cE]),t25,t26],defers:=D } w1:=by
  intro w1 k n b s pL nL cL pE nE cE hH;have e0:=hd w1 k n b s pL nL cL pE nE cE hH;refine wpAnyIn_ready r012345 (by simp) ?_
  refine AllReadyIn.cons h6 (fun K hK=>?_) ?_
  ·go_simp
   exact hK _ _ (s0123456 w1 k n b s pL nL cL pE nE cE hH)
  exact AllReadyIn.nil
 have s023456:∀(w1:World) (k n:Int) (b:Nat) (s:ByteArray) (pL:Option Addr) (nL cL:Nat) (pE:Option Addr) (nE cE:Nat),H w1 k n b s pL nL cL pE nE cE->wpAnyIn Fence.wide 9 Tryd.prog .any ops Q 3 #[true,false,true,true,true,true,true,false,false] { tmps:=#[t0,t1,t2,t3,(.pointer (some ⟨Bk,0,none⟩)),(.pointer (some ⟨Bv,0,none⟩)),t6,v,(.int .i64 (i:Int)),t9,t10,t11,t12,t13,t14,t15,t16,t17,t18,v,t20,(.string key),(.agg #[.int .i64 ak,.int .i64 an,.int .u64 (ab:Int),.string az,.slice apL anL acL,.slice apE anE acE]),(.agg #[.int .i64 k,.int .i64 n,.int .u64 (b:Int),.string s,.slice pL nL cL,.slice pE nE cE]),(.agg #[.string key,.int .i64 k,.int .i64 n,.int .u64 (b:Int),.string s,.slice pL nL cL,.slice pE nE cE]),(.slice (some ⟨w1.heap.size,0,none⟩) 1 1),t26],defers:=D } (w1.alloc (.cells #[.string key,.int .i64 k,.int .i64 n,.int .u64 (b:Int),.string s,.slice pL nL cL,.slice pE nE cE] 57)):=by
  intro w1 k n b s pL nL cL pE nE cE hH;have e0:=hd w1 k n b s pL nL cL pE nE cE hH;refine wpAnyIn_ready r023456 (by simp) ?_
  refine AllReadyIn.cons h1 (fun K hK=>?_) ?_
  ·go_simp
   exact hK _ _ (s0123456 w1 k n b s pL nL cL pE nE cE hH)
  exact AllReadyIn.nil
 have s123456:∀(w1:World) (k n:Int) (b:Nat) (s:ByteArray) (pL:Option Addr) (nL cL:Nat) (pE:Option Addr) (nE cE:Nat),H w1 k n b s pL nL cL pE nE cE->wpAnyIn Fence.wide 9 Tryd.prog .any ops Q 3 #[false,true,true,true,true,true,true,false,false] { tmps:=#[t0,t1,t2,t3,(.pointer (some ⟨Bk,0,none⟩)),(.pointer (some ⟨Bv,0,none⟩)),t6,v,(.int .i64 (i:Int)),t9,t10,t11,t12,t13,t14,t15,t16,t17,t18,t19,(.int .i64 (i:Int)),(.string key),(.agg #[.int .i64 ak,.int .i64 an,.int .u64 (ab:Int),.string az,.slice apL anL acL,.slice apE anE acE]),(.agg #[.int .i64 k,.int .i64 n,.int .u64 (b:Int),.string s,.slice pL nL cL,.slice pE nE cE]),(.agg #[.string key,.int .i64 k,.int .i64 n,.int .u64 (b:Int),.string s,.slice pL nL cL,.slice pE nE cE]),(.slice (some ⟨w1.heap.size,0,none⟩) 1 1),t26],defers:=D } (w1.alloc (.cells #[.string key,.int .i64 k,.int .i64 n,.int .u64 (b:Int),.string s,.slice pL nL cL,.slice pE nE cE] 57)):=by
  intro w1 k n b s pL nL cL pE nE cE hH;have e0:=hd w1 k n b s pL nL cL pE nE cE hH;refine wpAnyIn_ready r123456 (by simp) ?_
  refine AllReadyIn.cons h0 (fun K hK=>?_) ?_
  ·go_simp
   exact hK _ _ (s0123456 w1 k n b s pL nL cL pE nE cE hH)
  exact AllReadyIn.nil
 have s01234:∀(w1:World) (k n:Int) (b:Nat) (s:ByteArray) (pL:Option Addr) (nL cL:Nat) (pE:Option Addr) (nE cE:Nat),H w1 k n b s pL nL cL pE nE cE->wpAnyIn Fence.wide 9 Tryd.prog .any ops Q 4 #[true,true,true,true,true,false,false,false,false] { tmps:=#[t0,t1,t2,t3,(.pointer (some ⟨Bk,0,none⟩)),(.pointer (some ⟨Bv,0,none⟩)),t6,v,(.int .i64 (i:Int)),t9,t10,t11,t12,t13,t14,t15,t16,t17,t18,v,(.int .i64 (i:Int)),(.string key),(.agg #[.int .i64 ak,.int .i64 an,.int .u64 (ab:Int),.string az,.slice apL anL acL,.slice apE anE acE]),(.agg #[.int .i64 k,.int .i64 n,.int .u64 (b:Int),.string s,.slice pL nL cL,.slice pE nE cE]),t24,t25,t26],defers:=D } w1:=by
  intro w1 k n b s pL nL cL pE nE cE hH;have e0:=hd w1 k n b s pL nL cL pE nE cE hH;refine wpAnyIn_ready r01234 (by simp) ?_
  refine AllReadyIn.cons h5 (fun K hK=>?_) ?_
  ·go_simp
   exact hK _ _ (s012345 w1 k n b s pL nL cL pE nE cE hH)
  exact AllReadyIn.nil
 have s02345:∀(w1:World) (k n:Int) (b:Nat) (s:ByteArray) (pL:Option Addr) (nL cL:Nat) (pE:Option Addr) (nE cE:Nat),H w1 k n b s pL nL cL pE nE cE->wpAnyIn Fence.wide 9 Tryd.prog .any ops Q 4 #[true,false,true,true,true,true,false,false,false] { tmps:=#[t0,t1,t2,t3,(.pointer (some ⟨Bk,0,none⟩)),(.pointer (some ⟨Bv,0,none⟩)),t6,v,(.int .i64 (i:Int)),t9,t10,t11,t12,t13,t14,t15,t16,t17,t18,v,t20,(.string key),(.agg #[.int .i64 ak,.int .i64 an,.int .u64 (ab:Int),.string az,.slice apL anL acL,.slice apE anE acE]),(.agg #[.int .i64 k,.int .i64 n,.int .u64 (b:Int),.string s,.slice pL nL cL,.slice pE nE cE]),(.agg #[.string key,.int .i64 k,.int .i64 n,.int .u64 (b:Int),.string s,.slice pL nL cL,.slice pE nE cE]),t25,t26],defers:=D } w1:=by
  intro w1 k n b s pL nL cL pE nE cE hH;have e0:=hd w1 k n b s pL nL cL pE nE cE hH;refine wpAnyIn_ready r02345 (by simp) ?_
  refine AllReadyIn.cons h1 (fun K hK=>?_) ?_
  ·go_simp
   exact hK _ _ (s012345 w1 k n b s pL nL cL pE nE cE hH)
  refine AllReadyIn.cons h6 (fun K hK=>?_) ?_
  ·go_simp
   exact hK _ _ (s023456 w1 k n b s pL nL cL pE nE cE hH)
  exact AllReadyIn.nil
 have s12345:∀(w1:World) (k n:Int) (b:Nat) (s:ByteArray) (pL:Option Addr) (nL cL:Nat) (pE:Option Addr) (nE cE:Nat),H w1 k n b s pL nL cL pE nE cE->wpAnyIn Fence.wide 9 Tryd.prog .any ops Q 4 #[false,true,true,true,true,true,false,false,false] { tmps:=#[t0,t1,t2,t3,(.pointer (some ⟨Bk,0,none⟩)),(.pointer (some ⟨Bv,0,none⟩)),t6,v,(.int .i64 (i:Int)),t9,t10,t11,t12,t13,t14,t15,t16,t17,t18,t19,(.int .i64 (i:Int)),(.string key),(.agg #[.int .i64 ak,.int .i64 an,.int .u64 (ab:Int),.string az,.slice apL anL acL,.slice apE anE acE]),(.agg #[.int .i64 k,.int .i64 n,.int .u64 (b:Int),.string s,.slice pL nL cL,.slice pE nE cE]),(.agg #[.string key,.int .i64 k,.int .i64 n,.int .u64 (b:Int),.string s,.slice pL nL cL,.slice pE nE cE]),t25,t26],defers:=D } w1:=by
  intro w1 k n b s pL nL cL pE nE cE hH;have e0:=hd w1 k n b s pL nL cL pE nE cE hH;refine wpAnyIn_ready r12345 (by simp) ?_
  refine AllReadyIn.cons h0 (fun K hK=>?_) ?_
  ·go_simp
   exact hK _ _ (s012345 w1 k n b s pL nL cL pE nE cE hH)
  refine AllReadyIn.cons h6 (fun K hK=>?_) ?_
  ·go_simp
   exact hK _ _ (s123456 w1 k n b s pL nL cL pE nE cE hH)
  exact AllReadyIn.nil
 have s23456:∀(w1:World) (k n:Int) (b:Nat) (s:ByteArray) (pL:Option Addr) (nL cL:Nat) (pE:Option Addr) (nE cE:Nat),H w1 k n b s pL nL cL pE nE cE->wpAnyIn Fence.wide 9 Tryd.prog .any ops Q 4 #[false,false,true,true,true,true,true,false,false] { tmps:=#[t0,t1,t2,t3,(.pointer (some ⟨Bk,0,none⟩)),(.pointer (some ⟨Bv,0,none⟩)),t6,v,(.int .i64 (i:Int)),t9,t10,t11,t12,t13,t14,t15,t16,t17,t18,t19,t20,(.string key),(.agg #[.int .i64 ak,.int .i64 an,.int .u64 (ab:Int),.string az,.slice apL anL acL,.slice apE anE acE]),(.agg #[.int .i64 k,.int .i64 n,.int .u64 (b:Int),.string s,.slice pL nL cL,.slice pE nE cE]),(.agg #[.string key,.int .i64 k,.int .i64 n,.int .u64 (b:Int),.string s,.slice pL nL cL,.slice pE nE cE]),(.slice (some ⟨w1.heap.size,0,none⟩) 1 1),t26],defers:=D } (w1.alloc (.cells #[.string key,.int .i64 k,.int .i64 n,.int .u64 (b:Int),.string s,.slice pL nL cL,.slice pE nE cE] 57)):=by
  intro w1 k n b s pL nL cL pE nE cE hH;have e0:=hd w1 k n b s pL nL cL pE nE cE hH;refine wpAnyIn_ready r23456 (by simp) ?_
  refine AllReadyIn.cons h0 (fun K hK=>?_) ?_
  ·go_simp
   exact hK _ _ (s023456 w1 k n b s pL nL cL pE nE cE hH)
  refine AllReadyIn.cons h1 (fun K hK=>?_) ?_
  ·go_simp
   exact hK _ _ (s123456 w1 k n b s pL nL cL pE nE cE hH)
  exact AllReadyIn.nil
 have s0123:wpAnyIn Fence.wide 9 Tryd.prog .any ops Q 5 #[true,true,true,true,false,false,false,false,false] { tmps:=#[t0,t1,t2,t3,(.pointer (some ⟨Bk,0,none⟩)),(.pointer (some ⟨Bv,0,none⟩)),t6,v,(.int .i64 (i:Int)),t9,t10,t11,t12,t13,t14,t15,t16,t17,t18,v,(.int .i64 (i:Int)),(.string key),(.agg #[.int .i64 ak,.int .i64 an,.int .u64 (ab:Int),.string az,.slice apL anL acL,.slice apE anE acE]),t23,t24,t25,t26],defers:=D } W:=by
  refine wpAnyIn_ready r0123 (by simp) ?_
  refine AllReadyIn.cons h4 (fun K hK=>?_) ?_
  ·go_simp
   refine⟨trivial,hC.mono ?_⟩
   rintro e w1 ⟨k,n,b,s,pL,nL,cL,pE,nE,cE,rfl,hH⟩
   exact hK _ _ (s01234 w1 k n b s pL nL cL pE nE cE hH)
  exact AllReadyIn.nil
 have s0134:∀(w1:World) (k n:Int) (b:Nat) (s:ByteArray) (pL:Option Addr) (nL cL:Nat) (pE:Option Addr) (nE cE:Nat),H w1 k n b s pL nL cL pE nE cE->wpAnyIn Fence.wide 9 Tryd.prog .any ops Q 5 #[true,true,false,true,true,false,false,false,false] { tmps:=#[t0,t1,t2,t3,(.pointer (some ⟨Bk,0,none⟩)),(.pointer (some ⟨Bv,0,none⟩)),t6,v,(.int .i64 (i:Int)),t9,t10,t11,t12,t13,t14,t15,t16,t17,t18,v,(.int .i64 (i:Int)),t21,(.agg #[.int .i64 ak,.int .i64 an,.int .u64 (ab:Int),.string az,.slice apL anL acL,.slice apE anE acE]),(.agg #[.int .i64 k,.int .i64 n,.int .u64 (b:Int),.string s,.slice pL nL cL,.slice pE nE cE]),t24,t25,t26],defers:=D } w1:=by
  intro w1 k n b s pL nL cL pE nE cE hH;have e0:=hd w1 k n b s pL nL cL pE nE cE hH;refine wpAnyIn_ready r0134 (by simp) ?_
  refine AllReadyIn.cons h2 (fun K hK=>?_) ?_
  ·go_simp
   exact hK _ _ (s01234 w1 k n b s pL nL cL pE nE cE hH)
  exact AllReadyIn.nil
 have s0234:∀(w1:World) (k n:Int) (b:Nat) (s:ByteArray) (pL:Option Addr) (nL cL:Nat) (pE:Option Addr) (nE cE:Nat),H w1 k n b s pL nL cL pE nE cE->wpAnyIn Fence.wide 9 Tryd.prog .any ops Q 5 #[true,false,true,true,true,false,false,false,false] { tmps:=#[t0,t1,t2,t3,(.pointer (some ⟨Bk,0,none⟩)),(.pointer (some ⟨Bv,0,none⟩)),t6,v,(.int .i64 (i:Int)),t9,t10,t11,t12,t13,t14,t15,t16,t17,t18,v,t20,(.string key),(.agg #[.int .i64 ak,.int .i64 an,.int .u64 (ab:Int),.string az,.slice apL anL acL,.slice apE anE acE]),(.agg #[.int .i64 k,.int .i64 n,.int .u64 (b:Int),.string s,.slice pL nL cL,.slice pE nE cE]),t24,t25,t26],defers:=D } w1:=by
  intro w1 k n b s pL nL cL pE nE cE hH;have e0:=hd w1 k n b s pL nL cL pE nE cE hH;refine wpAnyIn_ready r0234 (by simp) ?_
  refine AllReadyIn.cons h1 (fun K hK=>?_) ?_
  ·go_simp
   exact hK _ _ (s01234 w1 k n b s pL nL cL pE nE cE hH)
  refine AllReadyIn.cons h5 (fun K hK=>?_) ?_
  ·go_simp
   exact hK _ _ (s02345 w1 k n b s pL nL cL pE nE cE hH)
  exact AllReadyIn.nil
 have s1234:∀(w1:World) (k n:Int) (b:Nat) (s:ByteArray) (pL:Option Addr) (nL cL:Nat) (pE:Option Addr) (nE cE:Nat),H w1 k n b s pL nL cL pE nE cE->wpAnyIn Fence.wide 9 Tryd.prog .any ops Q 5 #[false,true,true,true,true,false,false,false,false] { tmps:=#[t0,t1,t2,t3,(.pointer (some ⟨Bk,0,none⟩)),(.pointer (some ⟨Bv,0,none⟩)),t6,v,(.int .i64 (i:Int)),t9,t10,t11,t12,t13,t14,t15,t16,t17,t18,t19,(.int .i64 (i:Int)),(.string key),(.agg #[.int .i64 ak,.int .i64 an,.int .u64 (ab:Int),.string az,.slice apL anL acL,.slice apE anE acE]),(.agg #[.int .i64 k,.int .i64 n,.int .u64 (b:Int),.string s,.slice pL nL cL,.slice pE nE cE]),t24,t25,t26],defers:=D } w1:=by
  intro w1 k n b s pL nL cL pE nE cE hH;have e0:=hd w1 k n b s pL nL cL pE nE cE hH;refine wpAnyIn_ready r1234 (by simp) ?_
  refine AllReadyIn.cons h0 (fun K hK=>?_) ?_
  ·go_simp
   exact hK _ _ (s01234 w1 k n b s pL nL cL pE nE cE hH)
  refine AllReadyIn.cons h5 (fun K hK=>?_) ?_
  ·go_simp
   exact hK _ _ (s12345 w1 k n b s pL nL cL pE nE cE hH)
  exact AllReadyIn.nil
 have s2345:∀(w1:World) (k n:Int) (b:Nat) (s:ByteArray) (pL:Option Addr) (nL cL:Nat) (pE:Option Addr) (nE cE:Nat),H w1 k n b s pL nL cL pE nE cE->wpAnyIn Fence.wide 9 Tryd.prog .any ops Q 5 #[false,false,true,true,true,true,false,false,false] { tmps:=#[t0,t1,t2,t3,(.pointer (some ⟨Bk,0,none⟩)),(.pointer (some ⟨Bv,0,none⟩)),t6,v,(.int .i64 (i:Int)),t9,t10,t11,t12,t13,t14,t15,t16,t17,t18,t19,t20,(.string key),(.agg #[.int .i64 ak,.int .i64 an,.int .u64 (ab:Int),.string az,.slice apL anL acL,.slice apE anE acE]),(.agg #[.int .i64 k,.int .i64 n,.int .u64 (b:Int),.string s,.slice pL nL cL,.slice pE nE cE]),(.agg #[.string key,.int .i64 k,.int .i64 n,.int .u64 (b:Int),.string s,.slice pL nL cL,.slice pE nE cE]),t25,t26],defers:=D } w1:=by
  intro w1 k n b s pL nL cL pE nE cE hH;have e0:=hd w1 k n b s pL nL cL pE nE cE hH;refine wpAnyIn_ready r2345 (by simp) ?_
  refine AllReadyIn.cons h0 (fun K hK=>?_) ?_
  ·go_simp
   exact hK _ _ (s02345 w1 k n b s pL nL cL pE nE cE hH)
  refine AllReadyIn.cons h1 (fun K hK=>?_) ?_
  ·go_simp
   exact hK _ _ (s12345 w1 k n b s pL nL cL pE nE cE hH)
  refine AllReadyIn.cons h6 (fun K hK=>?_) ?_
  ·go_simp
   exact hK _ _ (s23456 w1 k n b s pL nL cL pE nE cE hH)
  exact AllReadyIn.nil
 have s012:wpAnyIn Fence.wide 9 Tryd.prog .any ops Q 6 #[true,true,true,false,false,false,false,false,false] { tmps:=#[t0,t1,t2,t3,(.pointer (some ⟨Bk,0,none⟩)),(.pointer (some ⟨Bv,0,none⟩)),t6,v,(.int .i64 (i:Int)),t9,t10,t11,t12,t13,t14,t15,t16,t17,t18,v,(.int .i64 (i:Int)),(.string key),t22,t23,t24,t25,t26],defers:=D } W:=by
  refine wpAnyIn_ready r012 (by simp) ?_
  refine AllReadyIn.cons h3 (fun K hK=>?_) ?_
  ·go_simp
   exact hK _ _ (s0123)
  exact AllReadyIn.nil
 have s013:wpAnyIn Fence.wide 9 Tryd.prog .any ops Q 6 #[true,true,false,true,false,false,false,false,false] { tmps:=#[t0,t1,t2,t3,(.pointer (some ⟨Bk,0,none⟩)),(.pointer (some ⟨Bv,0,none⟩)),t6,v,(.int .i64 (i:Int)),t9,t10,t11,t12,t13,t14,t15,t16,t17,t18,v,(.int .i64 (i:Int)),t21,(.agg #[.int .i64 ak,.int .i64 an,.int .u64 (ab:Int),.string az,.slice apL anL acL,.slice apE anE acE]),t23,t24,t25,t26],defers:=D } W:=by
  refine wpAnyIn_ready r013 (by simp) ?_
  refine AllReadyIn.cons h2 (fun K hK=>?_) ?_
  ·go_simp
   exact hK _ _ (s0123)
  refine AllReadyIn.cons h4 (fun K hK=>?_) ?_
  ·go_simp
   refine⟨trivial,hC.mono ?_⟩
   rintro e w1 ⟨k,n,b,s,pL,nL,cL,pE,nE,cE,rfl,hH⟩
   exact hK _ _ (s0134 w1 k n b s pL nL cL pE nE cE hH)
  exact AllReadyIn.nil
 have s023:wpAnyIn Fence.wide 9 Tryd.prog .any ops Q 6 #[true,false,true,true,false,false,false,false,false] { tmps:=#[t0,t1,t2,t3,(.pointer (some ⟨Bk,0,none⟩)),(.pointer (some ⟨Bv,0,none⟩)),t6,v,(.int .i64 (i:Int)),t9,t10,t11,t12,t13,t14,t15,t16,t17,t18,v,t20,(.string key),(.agg #[.int .i64 ak,.int .i64 an,.int .u64 (ab:Int),.string az,.slice apL anL acL,.slice apE anE acE]),t23,t24,t25,t26],defers:=D } W:=by
  refine wpAnyIn_ready r023 (by simp) ?_
  refine AllReadyIn.cons h1 (fun K hK=>?_) ?_
  ·go_simp
   exact hK _ _ (s0123)
  refine AllReadyIn.cons h4 (fun K hK=>?_) ?_
  ·go_simp
   refine⟨trivial,hC.mono ?_⟩
   rintro e w1 ⟨k,n,b,s,pL,nL,cL,pE,nE,cE,rfl,hH⟩
   exact hK _ _ (s0234 w1 k n b s pL nL cL pE nE cE hH)
  exact AllReadyIn.nil
 have s034:∀(w1:World) (k n:Int) (b:Nat) (s:ByteArray) (pL:Option Addr) (nL cL:Nat) (pE:Option Addr) (nE cE:Nat),H w1 k n b s pL nL cL pE nE cE->wpAnyIn Fence.wide 9 Tryd.prog .any ops Q 6 #[true,false,false,true,true,false,false,false,false] { tmps:=#[t0,t1,t2,t3,(.pointer (some ⟨Bk,0,none⟩)),(.pointer (some ⟨Bv,0,none⟩)),t6,v,(.int .i64 (i:Int)),t9,t10,t11,t12,t13,t14,t15,t16,t17,t18,v,t20,t21,(.agg #[.int .i64 ak,.int .i64 an,.int .u64 (ab:Int),.string az,.slice apL anL acL,.slice apE anE acE]),(.agg #[.int .i64 k,.int .i64 n,.int .u64 (b:Int),.string s,.slice pL nL cL,.slice pE nE cE]),t24,t25,t26],defers:=D } w1:=by
  intro w1 k n b s pL nL cL pE nE cE hH;have e0:=hd w1 k n b s pL nL cL pE nE cE hH;refine wpAnyIn_ready r034 (by simp) ?_
  refine AllReadyIn.cons h1 (fun K hK=>?_) ?_
  ·go_simp
   exact hK _ _ (s0134 w1 k n b s pL nL cL pE nE cE hH)
  refine AllReadyIn.cons h2 (fun K hK=>?_) ?_
  ·go_simp
   exact hK _ _ (s0234 w1 k n b s pL nL cL pE nE cE hH)
  exact AllReadyIn.nil
 have s123:wpAnyIn Fence.wide 9 Tryd.prog .any ops Q 6 #[false,true,true,true,false,false,false,false,false] { tmps:=#[t0,t1,t2,t3,(.pointer (some ⟨Bk,0,none⟩)),(.pointer (some ⟨Bv,0,none⟩)),t6,v,(.int .i64 (i:Int)),t9,t10,t11,t12,t13,t14,t15,t16,t17,t18,t19,(.int .i64 (i:Int)),(.string key),(.agg #[.int .i64 ak,.int .i64 an,.int .u64 (ab:Int),.string az,.slice apL anL acL,.slice apE anE acE]),t23,t24,t25,t26],defers:=D } W:=by
  refine wpAnyIn_ready r123 (by simp) ?_
  refine AllReadyIn.cons h0 (fun K hK=>?_) ?_
  ·go_simp
   exact hK _ _ (s0123)
  refine AllReadyIn.cons h4 (fun K hK=>?_) ?_
  ·go_simp
   refine⟨trivial,hC.mono ?_⟩
   rintro e w1 ⟨k,n,b,s,pL,nL,cL,pE,nE,cE,rfl,hH⟩
   exact hK _ _ (s1234 w1 k n b s pL nL cL pE nE cE hH)
  exact AllReadyIn.nil
 have s134:∀(w1:World) (k n:Int) (b:Nat) (s:ByteArray) (pL:Option Addr) (nL cL:Nat) (pE:Option Addr) (nE cE:Nat),H w1 k n b s pL nL cL pE nE cE->wpAnyIn Fence.wide 9 Tryd.prog .any ops Q 6 #[false,true,false,true,true,false,false,false,false] { tmps:=#[t0,t1,t2,t3,(.pointer (some ⟨Bk,0,none⟩)),(.pointer (some ⟨Bv,0,none⟩)),t6,v,(.int .i64 (i:Int)),t9,t10,t11,t12,t13,t14,t15,t16,t17,t18,t19,(.int .i64 (i:Int)),t21,(.agg #[.int .i64 ak,.int .i64 an,.int .u64 (ab:Int),.string az,.slice apL anL acL,.slice apE anE acE]),(.agg #[.int .i64 k,.int .i64 n,.int .u64 (b:Int),.string s,.slice pL nL cL,.slice pE nE cE]),t24,t25,t26],defers:=D } w1:=by
  intro w1 k n b s pL nL cL pE nE cE hH;have e0:=hd w1 k n b s pL nL cL pE nE cE hH;refine wpAnyIn_ready r134 (by simp) ?_
  refine AllReadyIn.cons h0 (fun K hK=>?_) ?_
  ·go_simp
   exact hK _ _ (s0134 w1 k n b s pL nL cL pE nE cE hH)
  refine AllReadyIn.cons h2 (fun K hK=>?_) ?_
  ·go_simp
   exact hK _ _ (s1234 w1 k n b s pL nL cL pE nE cE hH)
  exact AllReadyIn.nil
 have s234:∀(w1:World) (k n:Int) (b:Nat) (s:ByteArray) (pL:Option Addr) (nL cL:Nat) (pE:Option Addr) (nE cE:Nat),H w1 k n b s pL nL cL pE nE cE->wpAnyIn Fence.wide 9 Tryd.prog .any ops Q 6 #[false,false,true,true,true,false,false,false,false] { tmps:=#[t0,t1,t2,t3,(.pointer (some ⟨Bk,0,none⟩)),(.pointer (some ⟨Bv,0,none⟩)),t6,v,(.int .i64 (i:Int)),t9,t10,t11,t12,t13,t14,t15,t16,t17,t18,t19,t20,(.string key),(.agg #[.int .i64 ak,.int .i64 an,.int .u64 (ab:Int),.string az,.slice apL anL acL,.slice apE anE acE]),(.agg #[.int .i64 k,.int .i64 n,.int .u64 (b:Int),.string s,.slice pL nL cL,.slice pE nE cE]),t24,t25,t26],defers:=D } w1:=by
  intro w1 k n b s pL nL cL pE nE cE hH;have e0:=hd w1 k n b s pL nL cL pE nE cE hH;refine wpAnyIn_ready r234 (by simp) ?_
  refine AllReadyIn.cons h0 (fun K hK=>?_) ?_
  ·go_simp
   exact hK _ _ (s0234 w1 k n b s pL nL cL pE nE cE hH)
  refine AllReadyIn.cons h1 (fun K hK=>?_) ?_
  ·go_simp
   exact hK _ _ (s1234 w1 k n b s pL nL cL pE nE cE hH)
  refine AllReadyIn.cons h5 (fun K hK=>?_) ?_
  ·go_simp
   exact hK _ _ (s2345 w1 k n b s pL nL cL pE nE cE hH)
  exact AllReadyIn.nil
 have s01:wpAnyIn Fence.wide 9 Tryd.prog .any ops Q 7 #[true,true,false,false,false,false,false,false,false] { tmps:=#[t0,t1,t2,t3,(.pointer (some ⟨Bk,0,none⟩)),(.pointer (some ⟨Bv,0,none⟩)),t6,v,(.int .i64 (i:Int)),t9,t10,t11,t12,t13,t14,t15,t16,t17,t18,v,(.int .i64 (i:Int)),t21,t22,t23,t24,t25,t26],defers:=D } W:=by
  refine wpAnyIn_ready r01 (by simp) ?_
  refine AllReadyIn.cons h2 (fun K hK=>?_) ?_
  ·go_simp
   exact hK _ _ (s012)
  refine AllReadyIn.cons h3 (fun K hK=>?_) ?_
  ·go_simp
   exact hK _ _ (s013)
  exact AllReadyIn.nil
 have s02:wpAnyIn Fence.wide 9 Tryd.prog .any ops Q 7 #[true,false,true,false,false,false,false,false,false] { tmps:=#[t0,t1,t2,t3,(.pointer (some ⟨Bk,0,none⟩)),(.pointer (some ⟨Bv,0,none⟩)),t6,v,(.int .i64 (i:Int)),t9,t10,t11,t12,t13,t14,t15,t16,t17,t18,v,t20,(.string key),t22,t23,t24,t25,t26],defers:=D } W:=by
  refine wpAnyIn_ready r02 (by simp) ?_
  refine AllReadyIn.cons h1 (fun K hK=>?_) ?_
  ·go_simp
   exact hK _ _ (s012)
  refine AllReadyIn.cons h3 (fun K hK=>?_) ?_
  ·go_simp
   exact hK _ _ (s023)
  exact AllReadyIn.nil
 have s03:wpAnyIn Fence.wide 9 Tryd.prog .any ops Q 7 #[true,false,false,true,false,false,false,false,false] { tmps:=#[t0,t1,t2,t3,(.pointer (some ⟨Bk,0,none⟩)),(.pointer (some ⟨Bv,0,none⟩)),t6,v,(.int .i64 (i:Int)),t9,t10,t11,t12,t13,t14,t15,t16,t17,t18,v,t20,t21,(.agg #[.int .i64 ak,.int .i64 an,.int .u64 (ab:Int),.string az,.slice apL anL acL,.slice apE anE acE]),t23,t24,t25,t26],defers:=D } W:=by
  refine wpAnyIn_ready r03 (by simp) ?_
  refine AllReadyIn.cons h1 (fun K hK=>?_) ?_
  ·go_simp
   exact hK _ _ (s013)
  refine AllReadyIn.cons h2 (fun K hK=>?_) ?_
  ·go_simp
   exact hK _ _ (s023)
  refine AllReadyIn.cons h4 (fun K hK=>?_) ?_
  ·go_simp
   refine⟨trivial,hC.mono ?_⟩
   rintro e w1 ⟨k,n,b,s,pL,nL,cL,pE,nE,cE,rfl,hH⟩
   exact hK _ _ (s034 w1 k n b s pL nL cL pE nE cE hH)
  exact AllReadyIn.nil
 have s12:wpAnyIn Fence.wide 9 Tryd.prog .any ops Q 7 #[false,true,true,false,false,false,false,false,false] { tmps:=#[t0,t1,t2,t3,(.pointer (some ⟨Bk,0,none⟩)),(.pointer (some ⟨Bv,0,none⟩)),t6,v,(.int .i64 (i:Int)),t9,t10,t11,t12,t13,t14,t15,t16,t17,t18,t19,(.int .i64 (i:Int)),(.string key),t22,t23,t24,t25,t26],defers:=D } W:=by
  refine wpAnyIn_ready r12 (by simp) ?_
  refine AllReadyIn.cons h0 (fun K hK=>?_) ?_
  ·go_simp
   exact hK _ _ (s012)
  refine AllReadyIn.cons h3 (fun K hK=>?_) ?_
  ·go_simp
   exact hK _ _ (s123)
  exact AllReadyIn.nil
 have s13:wpAnyIn Fence.wide 9 Tryd.prog .any ops Q 7 #[false,true,false,true,false,false,false,false,false] { tmps:=#[t0,t1,t2,t3,(.pointer (some ⟨Bk,0,none⟩)),(.pointer (some ⟨Bv,0,none⟩)),t6,v,(.int .i64 (i:Int)),t9,t10,t11,t12,t13,t14,t15,t16,t17,t18,t19,(.int .i64 (i:Int)),t21,(.agg #[.int .i64 ak,.int .i64 an,.int .u64 (ab:Int),.string az,.slice apL anL acL,.slice apE anE acE]),t23,t24,t25,t26],defers:=D } W:=by
  refine wpAnyIn_ready r13 (by simp) ?_
  refine AllReadyIn.cons h0 (fun K hK=>?_) ?_
  ·go_simp
   exact hK _ _ (s013)
  refine AllReadyIn.cons h2 (fun K hK=>?_) ?_
  ·go_simp
   exact hK _ _ (s123)
  refine AllReadyIn.cons h4 (fun K hK=>?_) ?_
  ·go_simp
   refine⟨trivial,hC.mono ?_⟩
   rintro e w1 ⟨k,n,b,s,pL,nL,cL,pE,nE,cE,rfl,hH⟩
   exact hK _ _ (s134 w1 k n b s pL nL cL pE nE cE hH)
  exact AllReadyIn.nil
 have s23:wpAnyIn Fence.wide 9 Tryd.prog .any ops Q 7 #[false,false,true,true,false,false,false,false,false] { tmps:=#[t0,t1,t2,t3,(.pointer (some ⟨Bk,0,none⟩)),(.pointer (some ⟨Bv,0,none⟩)),t6,v,(.int .i64 (i:Int)),t9,t10,t11,t12,t13,t14,t15,t16,t17,t18,t19,t20,(.string key),(.agg #[.int .i64 ak,.int .i64 an,.int .u64 (ab:Int),.string az,.slice apL anL acL,.slice apE anE acE]),t23,t24,t25,t26],defers:=D } W:=by
  refine wpAnyIn_ready r23 (by simp) ?_
  refine AllReadyIn.cons h0 (fun K hK=>?_) ?_
  ·go_simp
   exact hK _ _ (s023)
  refine AllReadyIn.cons h1 (fun K hK=>?_) ?_
  ·go_simp
   exact hK _ _ (s123)
  refine AllReadyIn.cons h4 (fun K hK=>?_) ?_
  ·go_simp
   refine⟨trivial,hC.mono ?_⟩
   rintro e w1 ⟨k,n,b,s,pL,nL,cL,pE,nE,cE,rfl,hH⟩
   exact hK _ _ (s234 w1 k n b s pL nL cL pE nE cE hH)
  exact AllReadyIn.nil
 have s34:∀(w1:World) (k n:Int) (b:Nat) (s:ByteArray) (pL:Option Addr) (nL cL:Nat) (pE:Option Addr) (nE cE:Nat),H w1 k n b s pL nL cL pE nE cE->wpAnyIn Fence.wide 9 Tryd.prog .any ops Q 7 #[false,false,false,true,true,false,false,false,false] { tmps:=#[t0,t1,t2,t3,(.pointer (some ⟨Bk,0,none⟩)),(.pointer (some ⟨Bv,0,none⟩)),t6,v,(.int .i64 (i:Int)),t9,t10,t11,t12,t13,t14,t15,t16,t17,t18,t19,t20,t21,(.agg #[.int .i64 ak,.int .i64 an,.int .u64 (ab:Int),.string az,.slice apL anL acL,.slice apE anE acE]),(.agg #[.int .i64 k,.int .i64 n,.int .u64 (b:Int),.string s,.slice pL nL cL,.slice pE nE cE]),t24,t25,t26],defers:=D } w1:=by
  intro w1 k n b s pL nL cL pE nE cE hH;have e0:=hd w1 k n b s pL nL cL pE nE cE hH;refine wpAnyIn_ready r34 (by simp) ?_
  refine AllReadyIn.cons h0 (fun K hK=>?_) ?_
  ·go_simp
   exact hK _ _ (s034 w1 k n b s pL nL cL pE nE cE hH)
  refine AllReadyIn.cons h1 (fun K hK=>?_) ?_
  ·go_simp
   exact hK _ _ (s134 w1 k n b s pL nL cL pE nE cE hH)
  refine AllReadyIn.cons h2 (fun K hK=>?_) ?_
  ·go_simp
   exact hK _ _ (s234 w1 k n b s pL nL cL pE nE cE hH)
  exact AllReadyIn.nil
 have s0:wpAnyIn Fence.wide 9 Tryd.prog .any ops Q 8 #[true,false,false,false,false,false,false,false,false] { tmps:=#[t0,t1,t2,t3,(.pointer (some ⟨Bk,0,none⟩)),(.pointer (some ⟨Bv,0,none⟩)),t6,v,(.int .i64 (i:Int)),t9,t10,t11,t12,t13,t14,t15,t16,t17,t18,v,t20,t21,t22,t23,t24,t25,t26],defers:=D } W:=by
  refine wpAnyIn_ready r0 (by simp) ?_
  refine AllReadyIn.cons h1 (fun K hK=>?_) ?_
  ·go_simp
   exact hK _ _ (s01)
  refine AllReadyIn.cons h2 (fun K hK=>?_) ?_
  ·go_simp
   exact hK _ _ (s02)
  refine AllReadyIn.cons h3 (fun K hK=>?_) ?_
  ·go_simp
   exact hK _ _ (s03)
  exact AllReadyIn.nil
 have s1:wpAnyIn Fence.wide 9 Tryd.prog .any ops Q 8 #[false,true,false,false,false,false,false,false,false] { tmps:=#[t0,t1,t2,t3,(.pointer (some ⟨Bk,0,none⟩)),(.pointer (some ⟨Bv,0,none⟩)),t6,v,(.int .i64 (i:Int)),t9,t10,t11,t12,t13,t14,t15,t16,t17,t18,t19,(.int .i64 (i:Int)),t21,t22,t23,t24,t25,t26],defers:=D } W:=by
  refine wpAnyIn_ready r1 (by simp) ?_
  refine AllReadyIn.cons h0 (fun K hK=>?_) ?_
  ·go_simp
   exact hK _ _ (s01)
  refine AllReadyIn.cons h2 (fun K hK=>?_) ?_
  ·go_simp
   exact hK _ _ (s12)
  refine AllReadyIn.cons h3 (fun K hK=>?_) ?_
  ·go_simp
   exact hK _ _ (s13)
  exact AllReadyIn.nil
 have s2:wpAnyIn Fence.wide 9 Tryd.prog .any ops Q 8 #[false,false,true,false,false,false,false,false,false] { tmps:=#[t0,t1,t2,t3,(.pointer (some ⟨Bk,0,none⟩)),(.pointer (some ⟨Bv,0,none⟩)),t6,v,(.int .i64 (i:Int)),t9,t10,t11,t12,t13,t14,t15,t16,t17,t18,t19,t20,(.string key),t22,t23,t24,t25,t26],defers:=D } W:=by
  refine wpAnyIn_ready r2 (by simp) ?_
  refine AllReadyIn.cons h0 (fun K hK=>?_) ?_
  ·go_simp
   exact hK _ _ (s02)
  refine AllReadyIn.cons h1 (fun K hK=>?_) ?_
  ·go_simp
   exact hK _ _ (s12)
  refine AllReadyIn.cons h3 (fun K hK=>?_) ?_
  ·go_simp
   exact hK _ _ (s23)
  exact AllReadyIn.nil
 have s3:wpAnyIn Fence.wide 9 Tryd.prog .any ops Q 8 #[false,false,false,true,false,false,false,false,false] { tmps:=#[t0,t1,t2,t3,(.pointer (some ⟨Bk,0,none⟩)),(.pointer (some ⟨Bv,0,none⟩)),t6,v,(.int .i64 (i:Int)),t9,t10,t11,t12,t13,t14,t15,t16,t17,t18,t19,t20,t21,(.agg #[.int .i64 ak,.int .i64 an,.int .u64 (ab:Int),.string az,.slice apL anL acL,.slice apE anE acE]),t23,t24,t25,t26],defers:=D } W:=by
  refine wpAnyIn_ready r3 (by simp) ?_
  refine AllReadyIn.cons h0 (fun K hK=>?_) ?_
  ·go_simp
   exact hK _ _ (s03)
  refine AllReadyIn.cons h1 (fun K hK=>?_) ?_
  ·go_simp
   exact hK _ _ (s13)
  refine AllReadyIn.cons h2 (fun K hK=>?_) ?_
  ·go_simp
   exact hK _ _ (s23)
  refine AllReadyIn.cons h4 (fun K hK=>?_) ?_
  ·go_simp
   refine⟨trivial,hC.mono ?_⟩
   rintro e w1 ⟨k,n,b,s,pL,nL,cL,pE,nE,cE,rfl,hH⟩
   exact hK _ _ (s34 w1 k n b s pL nL cL pE nE cE hH)
  exact AllReadyIn.nil
 have s:wpAnyIn Fence.wide 9 Tryd.prog .any ops Q 9 #[false,false,false,false,false,false,false,false,false] { tmps:=#[t0,t1,t2,t3,(.pointer (some ⟨Bk,0,none⟩)),(.pointer (some ⟨Bv,0,none⟩)),t6,v,(.int .i64 (i:Int)),t9,t10,t11,t12,t13,t14,t15,t16,t17,t18,t19,t20,t21,t22,t23,t24,t25,t26],defers:=D } W:=by
  refine wpAnyIn_ready r (by simp) ?_
  refine AllReadyIn.cons h0 (fun K hK=>?_) ?_
  ·go_simp
   exact hK _ _ (s0)
  refine AllReadyIn.cons h1 (fun K hK=>?_) ?_
  ·go_simp
   exact hK _ _ (s1)
  refine AllReadyIn.cons h2 (fun K hK=>?_) ?_
  ·go_simp
   exact hK _ _ (s2)
  refine AllReadyIn.cons h3 (fun K hK=>?_) ?_
  ·go_simp
   exact hK _ _ (s3)
  exact AllReadyIn.nil
 exact s
open Go.RowKit Go.Shelf
theorem Zy (g:List UInt8->Bool):∀(E:List V) (m:Nat),idx g m E = -1\/((m:Int)<=idx g m E/\idx g m E<(m:Int)+(E.length:Int))
 | [],m=>.inl rfl
 | e :: l,m=>by
  unfold idx;split
  ·exact .inr ⟨Int.le_refl _,by simp only [List.length_cons];omega⟩
  ·rcases Zy g l (m+1) with h | h
   ·exact .inl h
   ·exact .inr ⟨by omega,by simp only [List.length_cons];omega⟩
open Go.RowKit Go.Shelf
theorem zG {d:Nat}:∀{rows:List (List Value)},(∀us,us∈rows->us.length=d)->rows.flatten.length=rows.length*d
 | [],_=>by simp
 | a :: rows,h=>by
  rw [List.flatten_cons,List.length_append,h a (by simp),zG (fun us hu=>h us (by simp [hu])),List.length_cons,Nat.add_mul];omega
theorem JJ {n0:Nat}(X:World)(v:Value)(nF:Nat)(rows:List (List Value))(how:X.ownsRow n0 57 7 v nF rows.flatten)(hrl:rows.length=nF)(hr7:∀us,us∈rows->us.length=7)(hr1:∀u,u∈rows.flatten->u.oneCell'=true)(i:Nat)(hi:i<=nF)(hn0:n0<=X.heap.size)(hlen:nF<=2000000)(vb:Nat)(vs:List Value)(hvb:X.heap[vb]?=some (.cells vs.toArray 57 (0,0)))(hne:some vb≠v.ownBlock)(hvl:vs.length=7)(h1v:∀u∈vs,u.oneCell'=true) :
  Calls Tryd.prog 112 #[v,.int .i64 (i:Int),.slice (some ⟨vb,0,none⟩) 1 1] X fun e X'=>∃v',e=.returned v'/\X'.ownsRow n0 57 7 v' (nF+1) ((rows.take i).flatten++(vs++(rows.drop i).flatten))/\X.grownBy X' v.ownBlock/\(v'.ownBlock=v.ownBlock\/v'.ownBlock=some X.heap.size):=by
 have hfl:rows.flatten.length=nF*7:=how.1
 have hcut:(rows.take i).flatten=rows.flatten.take (i*7)/\(rows.drop i).flatten=rows.flatten.drop (i*7):=by
  have e:rows.flatten=(rows.take i).flatten++(rows.drop i).flatten:=by rw [<-List.flatten_append,List.take_append_drop]
  have hl2:(rows.take i).flatten.length=i*7:=by rw [zG (fun us hu=>hr7 us (List.mem_of_mem_take hu)),List.length_take,Nat.min_eq_left (by omega)]
  constructor
  ·rw [e,<-hl2,List.take_left]
  ·rw [e,<-hl2,List.drop_left]
 by_cases hend:i=nF
 ·obtain⟨i0,hi0,hz0,hz1,hz2⟩:=info_parts JK
  obtain⟨v',X',hrun,hown',hgrow,_,hat⟩:=run_append_own_at (P:=Tryd.prog) X n0 24 24 57 i0 _ 7 104 Tryd.underlying24 hi0 hz0 hz1 hz2 rfl (by decide) v _ _ how ⟨vb,0,none⟩ 1 1 vs (by omega) (fun j u hj=>by
   rw [Addr.add_lit,Nat.zero_add];simp only [World.cell?,hvb];simpa using hj) h1v (by unfold maxLen;omega) (by omega) hn0
  have hfin:X'.ownsRow n0 57 7 v' (nF+1) ((rows.take i).flatten++(vs++(rows.drop i).flatten)):=by
   rw [hcut.1,hcut.2,hend,List.take_of_length_le (by omega),List.drop_of_length_le (by omega),List.append_nil];exact hown'
  have HF:=ja (And.intro hfin hat);obtain⟨ob,hob⟩:∃ob,ob=v.ownBlock:=⟨_,rfl⟩
  rw [<-hob] at hgrow HF ⊢;clear hob hat hne;clear hfin hown' hr7 hr1 hrl
  obtain⟨p,c,hv⟩:∃p c,v=.slice p nF c:=by
   rcases how.2 with ⟨h1,h2⟩ | ⟨g,cap,cur,h1,_⟩
   ·exact⟨none,0,by rw [h1,h2]⟩
   ·exact⟨_,_,h1⟩
  subst hv
  have hpc:nF<=c:=by
   rcases how.2 with ⟨h1,h2⟩ | ⟨g,cap,cur,h1,_,_,h3,_⟩
   ·omega
   ·cases h1
    exact h3
  have hc63:c<=9223372036854775807:=by
   rcases how.2 with ⟨h1,h2⟩ | ⟨g,cap,cur,h1,_,_,_,h4,_⟩
   ·simp only [Value.slice.injEq] at h1
    omega
   ·cases h1
    unfold maxLen at h4;omega
  have Hw:=ja how;subst hend;have h63:i<=9223372036854775807:=by omega
  clear how hcut hfl
  go_enter Tryd.func112,Tryd.ntmps112
  go_wp2_with (at_builtin;refine Lib.wpList_append_run _ rfl _ _ _ _ rfl _ _ rfl rfl _ _ hrun ?_)
  all_goals
   go_ret;exact⟨v',rfl,HF.out.1,hgrow,HF.out.2⟩
 ·rcases how.2 with ⟨h1,h2⟩ | ⟨g,c,cur,rfl,hg0,hg,hnc,hcm,hcz,hcur⟩
  ·omega
  ·have h1c:∀u∈cur.toList.take (nF*7),u.oneCell'=true:=fun u hu=>by rw [hcur] at hu;exact hr1 u hu
   have ecur:∀(Y:Array Value),Y.toList.take ((nF+1)*7)=cur.toList.take (i*7)++(vs++(cur.toList.take (nF*7)).drop (i*7))->Y.toList.take ((nF+1)*7)=(rows.take i).flatten++(vs++(rows.drop i).flatten):=fun Y hY=>by
    have e2:cur.toList.take (i*7)=rows.flatten.take (i*7):=by rw [<-hcur,List.take_take,Nat.min_eq_left (by omega)]
    rw [hY,hcur,e2,hcut.1,hcut.2]
   have hne':vb≠g:=fun e=>hne (by rw [e];rfl)
   have hxl:((rows.take i).flatten++(vs++(rows.drop i).flatten)).length=(nF+1)*7:=by
    rw [hcut.1,hcut.2];simp only [List.length_append,List.length_take,List.length_drop,hfl,hvl];omega
   by_cases hroom:nF+1<=c
   ·refine(ZT X g c nF i cur hg hcz hcm (by omega) hroom vb vs 57 hvb hne' hvl h1c h1v).mono ?_
    rintro e X' ⟨rfl,Y,y1,y2,y3,y4⟩
    refine⟨_,rfl,⟨hxl,.inr ⟨g,c,Y,rfl,hg0,y1,hroom,hcm,by rw [y2];exact hcz,ecur Y y3⟩⟩,y4,.inl rfl⟩
   ·refine(Xx X g c nF i cur hg hcz (by omega) hnc (by omega) (by omega) vb vs 57 hvb hvl h1c h1v).mono ?_
    rintro e X' ⟨G,rfl,g1,g2,Y,y1,y2,y3,y4⟩
    have y5:X.grownBy X' (some g):=⟨y4.os,y4.tape,y4.output,y4.size,fun b hb _=>y4.block b hb (by simp)⟩
    exact⟨_,rfl,⟨hxl,.inr ⟨X.heap.size,G,Y,rfl,hn0,y1,g1,g2,y2,ecur Y y3⟩⟩,y5,.inr rfl⟩
open Go.RowKit Go.Shelf
theorem Jl {P:Program}(w:World)(dT sT ty elem:TypeId)(g o dLen dCap:Nat)(a:Addr)(sLen sCap:Nat)(cur:Array Value)(t:TypeId)(cs:List Value)
  (hu:P.underlying dT=some (.slice elem)) (hs:(P.info? elem).map (·.size)=some 6)
  (hg:w.heap[g]?=some (.cells cur t (0,0))) (m:Nat) (hm:Nat.min sLen dLen=m) (hn:cs.length=m*6)
  (hsrc:∀j v,cs[j]?=some v->w.cell? (a.add j)=some v) (hfit:o+cs.length<=cur.size) (h1:∀v∈cs,v.oneCell'=true) :
  (Builtin.copy_ #[dT,sT] ty #[.slice (some ⟨g,o,none⟩) dLen dCap,.slice (some a) sLen sCap]).run P w =
   .ok (goInt m) (w.setRow g (cur.toList.take o++cs++cur.toList.drop (o+cs.length)).toArray):=by
 have hl:=run_loadCells_list (P:=P) w a cs hsrc;have hst:=run_storeCells_at P g o t cs 0 cur w hg (by simpa using hfit) h1;cases hq:P.info? elem with
 | none=>simp [hq] at hs
 | some i=>
  have hi:i.size=6:=by simpa [hq] using hs
  simp [Builtin.copy_,run_underlying hu,Builtin.lenOf,Builtin.firstCells,sizeOf,typeInfo,hq,hi,hm,<-hn,hl,hst]
theorem Yx:(Tryd.prog.info? 26).map (·.size)=some 6:=by kernel_rfl
theorem Y9 (w:World)(vb:Nat)(cv:Array Value)(tv:TypeId)(hv:w.heap[vb]?=some (.cells cv tv (0,0)))(g o:Nat)(cur:Array Value)(t:TypeId)(hg:w.heap[g]?=some (.cells cur t (0,0)))(h0:cur.size≠0)(hne:vb≠g)(la ca lb cb:Nat) :
  (callFunc 119 #[.slice (some ⟨vb,0,none⟩) la ca,.slice (some ⟨g,o,none⟩) lb cb]).run Tryd.prog w=.ok (.value (.bool false)) w:=by
 rw [run_callFunc_extern Tryd.func119 (by kernel_rfl) (by kernel_rfl) (by kernel_rfl) (e:=Extern.SlicesOverlaps.overlaps #[23,23] #[4]) (by kernel_rfl),
  Lib.run_overlaps_apart w 23 4 26 Tryd.underlying23 6 (fun w=>Tryd.sizeOf26 w) ⟨vb,0,none⟩ ⟨g,o,none⟩ la ca lb cb hne tv t cv.size cur.size (by simp [World.shape?,hv]) (by simp [World.shape?,hg]) h0 (by simp [World.frozen?,hv]) (by simp [World.frozen?,hv])]
 rfl
open Go.RowKit Go.Shelf
/-- There is room: in place. -/
theorem Zd (w:World)(g c n i:Nat)(cur:Array Value)(hg:w.heap[g]?=some (.cells cur 26 (0,0)))(hcz:cur.size=c*6)(hc:c<=maxLen)(hi:i<n)(hroom:n+1<=c)(vb:Nat)(vs:List Value)(tv:TypeId)(hv:w.heap[vb]?=some (.cells vs.toArray tv (0,0)))(hne:vb≠g)(hvl:vs.length=6)
  (h1c:∀u∈cur.toList.take (n*6),u.oneCell'=true) (h1v:∀u∈vs,u.oneCell'=true) :
  Calls Tryd.prog 110 #[.slice (some ⟨g,0,none⟩) n c,.int .i64 (i:Int),.slice (some ⟨vb,0,none⟩) 1 1] w fun e w'=>
   e=.returned (.slice (some ⟨g,0,none⟩) (n+1) c)/\∃X:Array Value,w'.heap[g]?=some (.cells X 26 (0,0))/\X.size=cur.size/\X.toList.take ((n+1)*6)=cur.toList.take (i*6)++(vs++(cur.toList.take (n*6)).drop (i*6))/\w.grownBy w' (some g):=by
 obtain⟨B,hB⟩:∃B,B=(cur.toList.take (n*6)).drop (i*6):=⟨_,rfl⟩
 have hBl:B.length=(n - i)*6:=by rw [hB,List.length_drop,List.length_take,Array.length_toList,hcz];omega
 have mixed:(Tryd.prog).follows .mixedOrders=true:=by kernel_rfl
 have hz1:¬((i:Int)=(n:Int)):=by omega
 have hz3:¬((c:Int)<(n:Int)+1):=by omega
 have hc63:c<=9223372036854775807:=by unfold maxLen at hc;omega
 have hin:i<=n:=by omega
 have hw1:IntKind.i64.wrap ((i:Int)+1)=(i:Int)+1:=by rw [IntKind.wrap_i64];omega
 have hb1:(0:Int)<=(i:Int)+1:=by omega
 have htn:((i:Int)+1).toNat=i+1:=by omega
 have hb2:¬(c=i+1):=by omega
 have hb4:¬(c=i):=by omega
 have hb3:(i:Int)<=(n:Int)+1:=by omega
 obtain⟨X1,hX1⟩:∃X1,X1=(cur.toList.take ((i+1)*6)++B++cur.toList.drop ((i+1)*6+B.length)).toArray:=⟨_,rfl⟩
 obtain⟨X2,hX2⟩:∃X2,X2=(X1.toList.take (i*6)++vs++X1.toList.drop (i*6+vs.length)).toArray:=⟨_,rfl⟩
 have hov:∀lb cb,(callFunc 119 #[.slice (some ⟨vb,0,none⟩) 1 1,.slice (some ⟨g,(i+1)*6,none⟩) lb cb]).run Tryd.prog w=.ok (.value (.bool false)) w:=fun lb cb=>Y9 w vb _ tv hv g _ cur _ hg (by omega) hne 1 1 lb cb
 have hX1s:X1.size=cur.size:=by rw [hX1];simp;omega
 have hcp1:∀ty dc sc,(Builtin.copy_ #[23,23] ty #[.slice (some ⟨g,(i+1)*6,none⟩) (n - i) dc,.slice (some ⟨g,i*6,none⟩) (n+1 - i) sc]).run Tryd.prog w.drew=.ok (goInt ((n - i:Nat):Int)) (w.drew.setRow g X1):=fun ty dc sc=>by
  rw [hX1]
  exact Jl w.drew _ _ ty 26 g ((i+1)*6) (n - i) dc ⟨g,i*6,none⟩ (n+1 - i) sc cur 26 B Tryd.underlying23 Yx hg (n - i) (by simp only [Nat.min_def];split<;>omega) hBl (fun j v hj=>by
   rw [Addr.add_lit];have hj':(cur.toList.take (n*6))[i*6+j]?=some v:=by rw [hB,List.getElem?_drop] at hj;exact hj
   rw [List.getElem?_take] at hj';split at hj'
   ·rw [Array.getElem?_toList] at hj'
    have hg':w.drew.heap[g]?=some (.cells cur 26 (0,0)):=hg
    simp only [World.cell?,hg'];exact hj'
   ·cases hj') (by omega) (fun v hv=>h1c v (by rw [hB] at hv;exact List.mem_of_mem_drop hv))
 obtain⟨W1,hW1⟩:∃W1,W1=w.drew.setRow g X1:=⟨_,rfl⟩
 have hg1:W1.heap[g]?=some (.cells X1 26 (0,0)):=by rw [hW1];exact setRow_heap w.drew g cur X1 26 (0,0) hg
 have hv1:W1.heap[vb]?=some (.cells vs.toArray tv (0,0)):=by rw [hW1,setRow_other _ _ _ _ hne];exact hv
 have hcp2:∀ty dc,(Builtin.copy_ #[23,23] ty #[.slice (some ⟨g,i*6,none⟩) (n+1 - i) dc,.slice (some ⟨vb,0,none⟩) 1 1]).run Tryd.prog W1=.ok (goInt 1) (W1.setRow g X2):=fun ty dc=>by
  rw [hX2]
  exact Jl W1 _ _ ty 26 g (i*6) (n+1 - i) dc ⟨vb,0,none⟩ 1 1 X1 26 vs Tryd.underlying23 Yx hg1 1 (by simp only [Nat.min_def];split<;>omega) (by omega) (fun j v hj=>by
   rw [Addr.add_lit];simp only [World.cell?,hv1];simpa using hj) (by omega) h1v
 rw [<-hW1] at hcp1;clear hg1 hv1;have HW1:=ja hW1;have HX1:=ja hX1;have HX2:=ja hX2;clear hW1 hX1 hX2
 go_enter Tryd.func110,Tryd.ntmps110
 go_wp2_with (simp only [hov])
 go_region_law_o (refine step_copy6 rfl _ _ 23 23 rfl _ _ (by simp [Act.eval,Act.put]) (by simp [Act.eval,Act.put]) (hcp1 _ _ _) ?_)
 go_wp2_with (at_builtin;refine wpList_copy6 _ rfl _ _ 23 23 rfl _ _ rfl rfl (hcp2 _ _) ?_)
 go_ret;have hX1:=HX1.out;have hX2:=HX2.out;have hW1:=HW1.out;have l1:(cur.toList.take ((i+1)*6)).length=(i+1)*6:=by rw [List.length_take,Array.length_toList];omega
 have q1:X1.toList=cur.toList.take ((i+1)*6)++(B++cur.toList.drop ((i+1)*6+B.length)):=by rw [hX1,List.append_assoc]
 have t1:X1.toList.take (i*6)=cur.toList.take (i*6):=by rw [q1,List.take_append_of_le_length (by omega),List.take_take,Nat.min_eq_left (by omega)]
 have t2:X1.toList.drop (i*6+vs.length)=B++cur.toList.drop ((i+1)*6+B.length):=by
  rw [q1,show i*6+vs.length=(cur.toList.take ((i+1)*6)).length by omega,List.drop_left]
 have q2:X2.toList=(cur.toList.take (i*6)++(vs++B))++cur.toList.drop ((i+1)*6+B.length):=by rw [hX2,t1,t2];simp [List.append_assoc]
 have l2:(cur.toList.take (i*6)++(vs++B)).length=(n+1)*6:=by rw [List.length_append,List.length_append,List.length_take,Array.length_toList];omega
 refine⟨rfl,X2,setRow_heap W1 g X1 X2 _ _ (by rw [hW1];exact setRow_heap w.drew g cur X1 26 (0,0) hg),?_,?_,?_⟩
 ·rw [<-Array.length_toList,q2,List.length_append,l2,List.length_drop,Array.length_toList]
  omega
 ·rw [q2,<-l2,List.take_left,hB]
 ·rw [hW1]
  refine⟨rfl,rfl,rfl,by simp [World.setRow],fun b hb hne'=>?_⟩;have hbg:b≠g:=fun e=>hne' (by rw [e])
  rw [setRow_other _ _ _ _ hbg,setRow_other _ _ _ _ hbg];rfl
open Go.RowKit Go.Shelf
theorem ZD (w:World)(g c n i:Nat)(cur:Array Value)(hg:w.heap[g]?=some (.cells cur 26 (0,0)))(hcz:cur.size=c*6)(hi:i<n)(hnc:n<=c)(hroom:c<n+1)(hbig:n<=10000000)(vb:Nat)(vs:List Value)(tv:TypeId)(hv:w.heap[vb]?=some (.cells vs.toArray tv (0,0)))(hvl:vs.length=6)
  (h1c:∀u∈cur.toList.take (n*6),u.oneCell'=true) (h1v:∀u∈vs,u.oneCell'=true) :
  Calls Tryd.prog 110 #[.slice (some ⟨g,0,none⟩) n c,.int .i64 (i:Int),.slice (some ⟨vb,0,none⟩) 1 1] w fun e w'=>
   ∃G,e=.returned (.slice (some ⟨w.heap.size,0,none⟩) (n+1) G)/\n+1<=G/\G<=maxLen/\∃X:Array Value,w'.heap[w.heap.size]?=some (.cells X 26 (0,0))/\X.size=G*6/\X.toList.take ((n+1)*6)=cur.toList.take (i*6)++(vs++(cur.toList.take (n*6)).drop (i*6))/\w.grownBy w' none:=by
 obtain⟨B,hB⟩:∃B,B=(cur.toList.take (n*6)).drop (i*6):=⟨_,rfl⟩
 have hBl:B.length=(n - i)*6:=by rw [hB,List.length_drop,List.length_take,Array.length_toList,hcz];omega
 obtain⟨A,hA⟩:∃A,A=cur.toList.take (i*6):=⟨_,rfl⟩
 have hAl:A.length=i*6:=by rw [hA,List.length_take,Array.length_toList,hcz];omega
 have mixed:(Tryd.prog).follows .mixedOrders=true:=by kernel_rfl
 obtain⟨i0,hi0,hz0,hzs,hzb⟩:=info_parts JP;have hgw:g<w.heap.size:=(Array.getElem?_eq_some_iff.1 hg).1;have hvw:vb<w.heap.size:=(Array.getElem?_eq_some_iff.1 hv).1;have hz2:¬((i:Int)=(n:Int)):=by omega
 have hz3:(c:Int)<(n:Int)+1:=by omega
 have hkk:(n:Int)+1 - (i:Int)=((n+1 - i:Nat):Int):=by omega
 have hik:i+(n+1 - i)=n+1:=by omega
 have hold:(Builtin.firstCells i0.size i (.slice (some ⟨g,0,none⟩) i c)).run Tryd.prog w.drew=.ok A.toArray w.drew:=by
  rw [hzs];refine run_firstCells_some w.drew 6 i ⟨g,0,none⟩ i c A hAl (fun j v hj=>?_);rw [Addr.add_lit,Nat.zero_add];rw [hA,List.getElem?_take] at hj;split at hj
  ·rw [Array.getElem?_toList] at hj
   have hg':w.drew.heap[g]?=some (.cells cur 26 (0,0)):=hg
   simp only [World.cell?,hg'];exact hj
  ·cases hj
 obtain⟨G,hG⟩:∃G,G=grownCap w (n+1) c 26:=⟨_,rfl⟩
 obtain⟨Z1,hZ1⟩:∃Z1:Array Value,Z1=Builtin.zeroCells (Value.agg #[.int .i64 0,.int .i64 0,.int .u64 0,.string ⟨#[]⟩,.slice none 0 0,.slice none 0 0]).cells (n+1 - i):=⟨_,rfl⟩
 obtain⟨Z2,hZ2⟩:∃Z2:Array Value,Z2=Builtin.zeroCells (Value.agg #[.int .i64 0,.int .i64 0,.int .u64 0,.string ⟨#[]⟩,.slice none 0 0,.slice none 0 0]).cells (G - (n+1)):=⟨_,rfl⟩
 obtain⟨ROW,hROW⟩:∃ROW:Array Value,ROW=A.toArray++Z1++Z2:=⟨_,rfl⟩
 have hGn:n+1<=G:=by rw [hG];exact grownCap_ge w _ _ _
 have hGm:G<=maxLen:=by rw [hG];exact grownCap_le_maxLen w (n+1) c 26 (by unfold maxLen;omega)
 have hG63:G<=9223372036854775807:=by unfold maxLen at hGm;omega
 have hrz:∀ty,(Builtin.append_ #[23,3] ty #[.slice (some ⟨g,0,none⟩) i c,.int .i64 ((n:Int)+1 - (i:Int))]).run Tryd.prog w=.ok (.slice (some ⟨w.heap.size,0,none⟩) (n+1) G) (w.drew.alloc (.cells ROW 26)):=fun ty=>by
  have h:=Lib.run_append_grow_zeros w 23 3 ty 26 i0 _ .i64 .i64 Tryd.underlying23 Tryd.underlying3 hi0 hz0 (some ⟨g,0,none⟩) i c A hold (n+1 - i) (by omega) (by omega) (by omega) (by omega) (by rw [hzb];omega) (by rw [hzb,hik];exact growslice_fits_wide hroom (by omega));rw [hik,<-hG] at h;rw [hkk,hROW,hZ1,hZ2];exact h
 have hRs:ROW.size=G*6:=by
  rw [hROW,hZ1,hZ2];simp [Builtin.zeroCells,Value.cells,hAl];omega
 obtain⟨W1,hW1⟩:∃W1,W1=w.drew.alloc (.cells ROW 26):=⟨_,rfl⟩
 rw [<-hW1] at hrz;have hN1:W1.heap[w.heap.size]?=some (.cells ROW 26 (0,0)):=by rw [hW1];exact World.alloc_heap_new w.drew _
 have hb1:W1.heap[g]?=some (.cells cur 26 (0,0)):=by rw [hW1];exact(Below.heap_alloc _ _ _ hgw).trans hg
 have hv1:W1.heap[vb]?=some (.cells vs.toArray tv (0,0)):=by rw [hW1];exact(Below.heap_alloc _ _ _ hvw).trans hv
 obtain⟨X1,hX1⟩:∃X1,X1=(ROW.toList.take (i*6)++vs++ROW.toList.drop (i*6+vs.length)).toArray:=⟨_,rfl⟩
 have hX1s:X1.size=G*6:=by rw [hX1];simp;omega
 have hcpA:∀ty dc,(Builtin.copy_ #[23,23] ty #[.slice (some ⟨w.heap.size,i*6,none⟩) (n+1 - i) dc,.slice (some ⟨vb,0,none⟩) 1 1]).run Tryd.prog W1=.ok (goInt 1) (W1.setRow w.heap.size X1):=fun ty dc=>by
  rw [hX1]
  exact Jl W1 _ _ ty 26 w.heap.size (i*6) (n+1 - i) dc ⟨vb,0,none⟩ 1 1 ROW 26 vs Tryd.underlying23 Yx hN1 1 (by simp only [Nat.min_def];split<;>omega) (by omega) (fun j v hj=>by
   rw [Addr.add_lit];simp only [World.cell?,hv1];simpa using hj) (by omega) h1v
 obtain⟨W2,hW2⟩:∃W2,W2=W1.setRow w.heap.size X1:=⟨_,rfl⟩
 rw [<-hW2] at hcpA;have hN2:W2.heap[w.heap.size]?=some (.cells X1 26 (0,0)):=by rw [hW2];exact setRow_heap W1 _ ROW X1 _ _ hN1
 have hb2:W2.heap[g]?=some (.cells cur 26 (0,0)):=by rw [hW2,setRow_other _ _ _ _ (by omega)];exact hb1
 obtain⟨X2,hX2⟩:∃X2,X2=(X1.toList.take ((i+1)*6)++B++X1.toList.drop ((i+1)*6+B.length)).toArray:=⟨_,rfl⟩
 have hcpB:∀ty dc sc,(Builtin.copy_ #[23,23] ty #[.slice (some ⟨w.heap.size,(i+1)*6,none⟩) (n - i) dc,.slice (some ⟨g,i*6,none⟩) (n - i) sc]).run Tryd.prog W2.drew=.ok (goInt ((n - i:Nat):Int)) (W2.drew.setRow w.heap.size X2):=fun ty dc sc=>by
  rw [hX2]
  exact Jl W2.drew _ _ ty 26 w.heap.size ((i+1)*6) (n - i) dc ⟨g,i*6,none⟩ (n - i) sc X1 26 B Tryd.underlying23 Yx hN2 (n - i) (by simp only [Nat.min_def];split<;>omega) hBl (fun j v hj=>by
   rw [Addr.add_lit];have hj':(cur.toList.take (n*6))[i*6+j]?=some v:=by rw [hB,List.getElem?_drop] at hj;exact hj
   rw [List.getElem?_take] at hj';split at hj'
   ·rw [Array.getElem?_toList] at hj'
    have hg':W2.drew.heap[g]?=some (.cells cur 26 (0,0)):=hb2
    simp only [World.cell?,hg'];exact hj'
   ·cases hj') (by omega) (fun v hv=>h1c v (by rw [hB] at hv;exact List.mem_of_mem_drop hv))
 have hw1:IntKind.i64.wrap ((i:Int)+1)=(i:Int)+1:=by rw [IntKind.wrap_i64];omega
 have hw2:IntKind.i64.wrap ((n:Int)+1 - (i:Int))=(n:Int)+1 - (i:Int):=by rw [IntKind.wrap_i64];omega
 have hb3:(0:Int)<=(i:Int)+1:=by omega
 have htn:((i:Int)+1).toNat=i+1:=by omega
 have hGi:¬(G=i):=by omega
 have hGim:¬(G=i+1):=by omega
 have hci:¬(c=i):=by omega
 have hc0:¬(c=0):=by omega
 have hin:i<=n:=by omega
 have hic:(i:Int)<=(c:Int):=by omega
 have hb4:(i:Int)<=(n:Int):=by omega
 have HA:=ja hA;have HAl:=ja hAl;have HG:=ja hG;have HR:=ja hROW;have HW1:=ja hW1;have HW2:=ja hW2;have HX1:=ja hX1;have HX2:=ja hX2;clear hkk hik hold hA hAl hG hROW hZ1 hZ2 hW1 hW2 hX1 hX2 hN1 hb1 hv1 hb2
 go_enter Tryd.func110,Tryd.ntmps110
 go_wp2_with (first
  | (at_builtin;refine Lib.wpList_append_run _ rfl _ _ _ _ rfl _ _ rfl rfl _ _ (hrz _) ?_)
  | (at_builtin;refine wpList_copy6 _ rfl _ _ 23 23 rfl _ _ rfl rfl (hcpA _ _) ?_))
 go_region_law_o (refine step_copy6 rfl _ _ 23 23 rfl _ _ (by simp [Act.eval,Act.put]) (by simp [Act.eval,Act.put]) (hcpB _ _ _) ?_)
 go_wp2;go_ret
 have l1:(ROW.toList.take (i*6))=A:=by
  rw [HR.out];simp only [Array.toList_append,List.append_assoc];rw [<-HAl.out,List.take_left]
 have q1:X1.toList=(A++vs)++ROW.toList.drop (i*6+vs.length):=by rw [HX1.out,l1]
 have la:(A++vs).length=(i+1)*6:=by rw [List.length_append,HAl.out];omega
 have q2:X2.toList=(A++(vs++B))++X1.toList.drop ((i+1)*6+B.length):=by
  rw [HX2.out];have:X1.toList.take ((i+1)*6)=A++vs:=by rw [q1,<-la,List.take_left]
  rw [this];simp [List.append_assoc]
 have l2:(A++(vs++B)).length=(n+1)*6:=by rw [List.length_append,List.length_append,HAl.out];omega
 refine⟨G,rfl,hGn,hGm,X2,setRow_heap W2.drew _ X1 X2 _ _ hN2,?_,?_,?_⟩
 ·rw [<-Array.length_toList,q2,List.length_append,l2,List.length_drop,Array.length_toList,hX1s]
  omega
 ·rw [q2,<-l2,List.take_left,hB,HA.out]
 ·rw [HW2.out,HW1.out]
  refine⟨rfl,rfl,rfl,by
   rw [setRow_size]
   show _<=(World.setRow _ _ _).heap.size
   rw [setRow_size,World.size_alloc];exact Nat.le_succ _,fun b hb hne'=>?_⟩
  rw [setRow_other _ _ _ _ (by omega)]
  show(World.setRow _ _ _).heap[b]?=_
  rw [setRow_other _ _ _ _ (by omega)];exact Below.heap_alloc _ _ _ hb
open Go.RowKit Go.Shelf
theorem ZI {n0:Nat}(X:World)(v:Value)(nF:Nat)(rows:List (List Value))(how:X.ownsRow n0 26 6 v nF rows.flatten)(hrl:rows.length=nF)(hr7:∀us,us∈rows->us.length=6)(hr1:∀u,u∈rows.flatten->u.oneCell'=true)(i:Nat)(hi:i<=nF)(hn0:n0<=X.heap.size)(hlen:nF<=2000000)(vb:Nat)(vs:List Value)(hvb:X.heap[vb]?=some (.cells vs.toArray 26 (0,0)))(hne:some vb≠v.ownBlock)(hvl:vs.length=6)(h1v:∀u∈vs,u.oneCell'=true) :
  Calls Tryd.prog 110 #[v,.int .i64 (i:Int),.slice (some ⟨vb,0,none⟩) 1 1] X fun e X'=>∃v',e=.returned v'/\X'.ownsRow n0 26 6 v' (nF+1) ((rows.take i).flatten++(vs++(rows.drop i).flatten))/\X.grownBy X' v.ownBlock/\(v'.ownBlock=v.ownBlock\/v'.ownBlock=some X.heap.size):=by
 have hfl:rows.flatten.length=nF*6:=how.1
 have hcut:(rows.take i).flatten=rows.flatten.take (i*6)/\(rows.drop i).flatten=rows.flatten.drop (i*6):=by
  have e:rows.flatten=(rows.take i).flatten++(rows.drop i).flatten:=by rw [<-List.flatten_append,List.take_append_drop]
  have hl2:(rows.take i).flatten.length=i*6:=by rw [zG (fun us hu=>hr7 us (List.mem_of_mem_take hu)),List.length_take,Nat.min_eq_left (by omega)]
  constructor
  ·rw [e,<-hl2,List.take_left]
  ·rw [e,<-hl2,List.drop_left]
 by_cases hend:i=nF
 ·obtain⟨i0,hi0,hz0,hz1,hz2⟩:=info_parts JP
  obtain⟨v',X',hrun,hown',hgrow,_,hat⟩:=run_append_own_at (P:=Tryd.prog) X n0 23 23 26 i0 _ 6 88 Tryd.underlying23 hi0 hz0 hz1 hz2 rfl (by decide) v _ _ how ⟨vb,0,none⟩ 1 1 vs (by omega) (fun j u hj=>by
   rw [Addr.add_lit,Nat.zero_add];simp only [World.cell?,hvb];simpa using hj) h1v (by unfold maxLen;omega) (by omega) hn0
  have hfin:X'.ownsRow n0 26 6 v' (nF+1) ((rows.take i).flatten++(vs++(rows.drop i).flatten)):=by
   rw [hcut.1,hcut.2,hend,List.take_of_length_le (by omega),List.drop_of_length_le (by omega),List.append_nil];exact hown'
  have HF:=ja (And.intro hfin hat);obtain⟨ob,hob⟩:∃ob,ob=v.ownBlock:=⟨_,rfl⟩
  rw [<-hob] at hgrow HF ⊢;clear hob hat hne;clear hfin hown' hr7 hr1 hrl
  obtain⟨p,c,hv⟩:∃p c,v=.slice p nF c:=by
   rcases how.2 with ⟨h1,h2⟩ | ⟨g,cap,cur,h1,_⟩
   ·exact⟨none,0,by rw [h1,h2]⟩
   ·exact⟨_,_,h1⟩
  subst hv
  have hpc:nF<=c:=by
   rcases how.2 with ⟨h1,h2⟩ | ⟨g,cap,cur,h1,_,_,h3,_⟩
   ·omega
   ·cases h1
    exact h3
  have hc63:c<=9223372036854775807:=by
   rcases how.2 with ⟨h1,h2⟩ | ⟨g,cap,cur,h1,_,_,_,h4,_⟩
   ·simp only [Value.slice.injEq] at h1
    omega
   ·cases h1
    unfold maxLen at h4;omega
  have Hw:=ja how;subst hend;have h63:i<=9223372036854775807:=by omega
  clear how hcut hfl
  go_enter Tryd.func110,Tryd.ntmps110
  go_wp2_with (at_builtin;refine Lib.wpList_append_run _ rfl _ _ _ _ rfl _ _ rfl rfl _ _ hrun ?_)
  all_goals
   go_ret;exact⟨v',rfl,HF.out.1,hgrow,HF.out.2⟩
 ·rcases how.2 with ⟨h1,h2⟩ | ⟨g,c,cur,rfl,hg0,hg,hnc,hcm,hcz,hcur⟩
  ·omega
  ·have h1c:∀u∈cur.toList.take (nF*6),u.oneCell'=true:=fun u hu=>by rw [hcur] at hu;exact hr1 u hu
   have ecur:∀(Y:Array Value),Y.toList.take ((nF+1)*6)=cur.toList.take (i*6)++(vs++(cur.toList.take (nF*6)).drop (i*6))->Y.toList.take ((nF+1)*6)=(rows.take i).flatten++(vs++(rows.drop i).flatten):=fun Y hY=>by
    have e2:cur.toList.take (i*6)=rows.flatten.take (i*6):=by rw [<-hcur,List.take_take,Nat.min_eq_left (by omega)]
    rw [hY,hcur,e2,hcut.1,hcut.2]
   have hne':vb≠g:=fun e=>hne (by rw [e];rfl)
   have hxl:((rows.take i).flatten++(vs++(rows.drop i).flatten)).length=(nF+1)*6:=by
    rw [hcut.1,hcut.2];simp only [List.length_append,List.length_take,List.length_drop,hfl,hvl];omega
   by_cases hroom:nF+1<=c
   ·refine(Zd X g c nF i cur hg hcz hcm (by omega) hroom vb vs 26 hvb hne' hvl h1c h1v).mono ?_
    rintro e X' ⟨rfl,Y,y1,y2,y3,y4⟩
    refine⟨_,rfl,⟨hxl,.inr ⟨g,c,Y,rfl,hg0,y1,hroom,hcm,by rw [y2];exact hcz,ecur Y y3⟩⟩,y4,.inl rfl⟩
   ·refine(ZD X g c nF i cur hg hcz (by omega) hnc (by omega) (by omega) vb vs 26 hvb hvl h1c h1v).mono ?_
    rintro e X' ⟨G,rfl,g1,g2,Y,y1,y2,y3,y4⟩
    have y5:X.grownBy X' (some g):=⟨y4.os,y4.tape,y4.output,y4.size,fun b hb _=>y4.block b hb (by simp)⟩
    exact⟨_,rfl,⟨hxl,.inr ⟨X.heap.size,G,Y,rfl,hn0,y1,g1,g2,y2,ecur Y y3⟩⟩,y5,.inr rfl⟩
open Go.RowKit Go.Shelf
theorem JR {P:Program}{w:World}{ops:Array Oper}{o:Oper}{a:Act}{K:Act->World->Prop}{Q:Exit->Act->World->Prop}{E:Prop}(hgd:o.guard=none)(s x:Operand)(t tn:TypeId)
  (ho:o.op=.call { callee:=.builtin .append,args:=#[s,x],argTypes:=#[t,tn] }) (vs vx:Value) (hs:a.eval s=vs) (hx:a.eval x=vx)
  (v':Value) (w':World) (hr:(Builtin.append_ #[t,tn] o.type #[vs,vx]).run P w=.ok v' w') (h:K (a.put o.dst v') w'):if Region.wanted o (yielded ops a.tmps)=true then Oper.wp P o a w K Q else E:=by
 have hw:Region.wanted o (yielded ops a.tmps)=true:=by simp [Region.wanted,hgd]
 rw [if_pos hw];exact Lib.wp_append_run w s x t tn ho vs vx hs hx v' w' hr h
theorem Q5 {P:Program}(w:World)(t e ty:TypeId)(z:Value)(ht:P.underlying t=some (.slice e))(hv:∀w,(zeroValue e).run P w=.ok z w)(h1:∀u∈z.cells.toList,u.oneCell'=true)(g o c:Nat)(cur:Array Value)(tt:TypeId)(hg:w.heap[g]?=some (.cells cur tt (0,0)))(hfit:o+z.cells.size<=cur.size) :
  (Builtin.clear_ #[t] ty #[.slice (some ⟨g,o,none⟩) 1 c]).run P w=.ok (.tuple #[]) (w.setRow g (cur.toList.take o++z.cells.toList++cur.toList.drop (o+z.cells.size)).toArray):=by
 have hzc:Builtin.zeroCells z.cells 1=z.cells:=by
  apply Array.ext
  ·simp [Builtin.zeroCells]
  ·intro i h1 h2
   simp only [Builtin.zeroCells,Array.getElem_map,Array.getElem_range];rw [Nat.mod_eq_of_lt h2,getElem!_pos z.cells i h2]
 have hst:=run_storeCells_at P g o tt z.cells.toList 0 cur w hg (by simpa using hfit) h1;simp only [Nat.add_zero,Array.length_toList] at hst;simp [Builtin.clear_,run_underlying ht,hv,hzc,hst]
theorem ZL {n0:Nat}(X:World)(v:Value)(i k:Nat)(rows:List (List Value))(how:X.ownsRow n0 26 6 v (i+k+1) rows.flatten)(hrl:rows.length=i+k+1)(hr6:∀us,us∈rows->us.length=6)(hr1:∀u,u∈rows.flatten->u.oneCell'=true)(hlen:i+k<=2000000) :
  Calls Tryd.prog 100 #[v,.int .i64 (i:Int),.int .i64 ((i:Int)+1)] X fun e X'=>∃v',e=.returned v'/\X'.ownsRow n0 26 6 v' (i+k) ((rows.take i).flatten++(rows.drop (i+1)).flatten)/\X.grownBy X' v.ownBlock/\v'.ownBlock=v.ownBlock:=by
 have hfl:rows.flatten.length=(i+k+1)*6:=how.1
 have hcutA:(rows.take i).flatten=rows.flatten.take (i*6):=by
  have e:rows.flatten=(rows.take i).flatten++(rows.drop i).flatten:=by rw [<-List.flatten_append,List.take_append_drop]
  have hl2:(rows.take i).flatten.length=i*6:=by rw [zG (fun us hu=>hr6 us (List.mem_of_mem_take hu)),List.length_take,Nat.min_eq_left (by omega)]
  rw [e,<-hl2,List.take_left]
 have hcutB:(rows.drop (i+1)).flatten=rows.flatten.drop ((i+1)*6):=by
  have e:rows.flatten=(rows.take (i+1)).flatten++(rows.drop (i+1)).flatten:=by rw [<-List.flatten_append,List.take_append_drop]
  have hl2:(rows.take (i+1)).flatten.length=(i+1)*6:=by rw [zG (fun us hu=>hr6 us (List.mem_of_mem_take hu)),List.length_take,Nat.min_eq_left (by omega)]
  rw [e,<-hl2,List.drop_left]
 rcases how.2 with ⟨_,h2⟩ | ⟨g,c,cur,rfl,hg0,hg,hnc,hcm,hcz,hcur⟩
 ·omega
 obtain⟨i0,hi0,hz0,hzs,hzb⟩:=info_parts JP;obtain⟨news,hnews⟩:∃news,news=rows.flatten.drop ((i+1)*6):=⟨_,rfl⟩
 have hnl:news.length=k*6:=by rw [hnews,List.length_drop,hfl];omega
 have hownI:X.drew.ownsRow n0 26 6 (.slice (some ⟨g,0,none⟩) i c) i (rows.flatten.take (i*6)):=⟨by rw [List.length_take,hfl];omega,.inr ⟨g,c,cur,rfl,hg0,hg,by omega,hcm,hcz,by rw [<-hcur,List.take_take,Nat.min_eq_left (by omega)]⟩⟩
 obtain⟨A,hA,hsrc⟩:∃A:Addr,(if c=i+1 then some (⟨g,0,none⟩:Addr) else some ⟨g,(i+1)*6,none⟩)=some A/\∀j u,news[j]?=some u->X.drew.cell? (A.add j)=some u:=by
  by_cases h:c=i+1
  ·refine⟨⟨g,0,none⟩,by simp [h],fun t u hu=>?_⟩
   rw [List.getElem?_eq_none (by omega)] at hu;cases hu
  ·refine⟨⟨g,(i+1)*6,none⟩,by simp [h],fun t u hu=>?_⟩
   have ht:t<k*6:=by
    have:=(List.getElem?_eq_some_iff.1 hu).1;rwa [hnl] at this
   rw [hnews,List.getElem?_drop,<-hcur,List.getElem?_take_of_lt (by omega),Array.getElem?_toList] at hu;rw [Addr.add_lit];have hg':X.drew.heap[g]?=some (.cells cur 26 (0,0)):=hg
   simp only [World.cell?,hg'];exact hu
 obtain⟨W1,hrun,hown1,hgr1⟩:=run_append_fits (P:=Tryd.prog) X.drew n0 23 23 26 i0 6 Tryd.underlying23 hi0 hzs g i c _ hownI A k (c - (i+1)) news hnl hsrc (fun u hu=>hr1 u (by rw [hnews] at hu;exact List.mem_of_mem_drop hu)) (by omega)
 rcases hown1.2 with ⟨e1,_⟩ | ⟨g1,c1,cur1,e1,_,hg1,_,_,hcz1,hcur1⟩
 ·cases e1
 simp only [Value.slice.injEq,Option.some.injEq,Addr.mk.injEq,and_true,true_and] at e1;obtain⟨rfl,rfl⟩:=e1;obtain⟨X2,hX2⟩:∃X2,X2=(cur1.toList.take ((i+k)*6)++(Value.agg #[.int .i64 0,.int .i64 0,.int .u64 0,.string ⟨#[]⟩,.slice none 0 0,.slice none 0 0]).cells.toList++cur1.toList.drop ((i+k)*6+6)).toArray:=⟨_,rfl⟩
 have hcl:∀ty cc,(Builtin.clear_ #[23] ty #[.slice (some ⟨g,(i+k)*6,none⟩) 1 cc]).run Tryd.prog W1=.ok (.tuple #[]) (W1.setRow g X2):=fun ty cc=>by
  rw [hX2]
  exact Q5 W1 _ _ ty (.agg #[.int .i64 0,.int .i64 0,.int .u64 0,.string ⟨#[]⟩,.slice none 0 0,.slice none 0 0]) Tryd.underlying23 (fun w=>by simp [zeroValue,typeInfo,hi0,hz0]) (fun u hu=>by
   simp only [Value.cells,List.mem_cons,List.not_mem_nil,or_false] at hu
   rcases hu with rfl | rfl | rfl | rfl | rfl | rfl<;>rfl) g _ cc cur1 26 hg1 (by
   show(i+k)*6+6<=cur1.size
   rw [hcz1];omega)
 have hfin:(W1.setRow g X2).ownsRow n0 26 6 (.slice (some ⟨g,0,none⟩) (i+k) c) (i+k) ((rows.take i).flatten++(rows.drop (i+1)).flatten)/\X.grownBy (W1.setRow g X2) (some g):=by
  have l1:(cur1.toList.take ((i+k)*6)).length=(i+k)*6:=by rw [List.length_take,Array.length_toList,hcz1];omega
  have lt1:X2.toList.take ((i+k)*6)=cur1.toList.take ((i+k)*6):=by
   rw [hX2,List.append_assoc];exact List.take_left' l1
  refine⟨⟨by rw [hcutA,hcutB,<-hnews];exact hown1.1,.inr ⟨g,c,X2,rfl,hg0,setRow_heap W1 g cur1 X2 _ _ hg1,by omega,hcm,?_,?_⟩⟩,hgr1.os,hgr1.tape,hgr1.output,?_,fun b hb hne=>?_⟩
  ·rw [hX2]
   simp only [List.size_toArray,List.length_append,l1,List.length_drop,Array.length_toList,hcz1]
   show(i+k)*6+6+(c*6 - ((i+k)*6+6))=c*6
   omega
  ·rw [lt1,hcur1,hcutA,hcutB,hnews]
  ·have:=hgr1.size
   simpa [World.setRow] using this
  ·rw [setRow_other _ _ _ _ (fun e=>hne (by rw [e]))]
   exact hgr1.block b hb hne
 have HF:=ja hfin;have hz1:¬((i:Int)=(i:Int)+1):=by omega
 have hic:i<=c:=by omega
 have hjc:i+1<=c:=by omega
 have hkc:i+k+1<=c:=by omega
 have hkn:¬(c=i+k):=by omega
 have htn:((i:Int)+1).toNat=i+1:=by omega
 have hj1:(0:Int)<=(i:Int)+1:=by omega
 have hj2:(i:Int)<=(i:Int)+1:=by omega
 have hj3:(i:Int)+1<=((i+k+1:Nat):Int):=by omega
 have hj4:(i:Int)+1<=(c:Int):=by omega
 have hj5:i+1<=i+k+1:=by omega
 have hj6:(i:Int)<=(i:Int)+(k:Int):=by omega
 have hj7:(i:Int)+(k:Int)<=(c:Int):=by omega
 have hj8:(i:Int)+(k:Int)+1<=(c:Int):=by omega
 have hj9:(i:Int)+(k:Int)<=(i:Int)+(k:Int)+1:=by omega
 have mixed:(Tryd.prog).follows .mixedOrders=true:=by kernel_rfl
 have hs1:i+k+1 - (i+1)=k:=by omega
 have hs2:i+k+1 - (i+k)=1:=by omega
 have hc63:c<=9223372036854775807:=by unfold maxLen at hcm;omega
 have HX2:=ja hX2;clear hfin hX2 hown1 hgr1 hg1 hcz1 hcur1 hownI hsrc hnews hnl how hcutA hcutB hfl hr6 hr1 hrl hg hcz hcur
 go_enter Tryd.func100,Tryd.ntmps100
 go_wp2_with fail
 go_region_law_o (refine JR rfl _ _ 23 23 rfl (.slice (some ⟨g,0,none⟩) i c) (.slice (some A) k (c - (i+1))) (by simp [Act.eval,Act.put]) (by simp [Act.eval,Act.put]) _ _ hrun ?_)
 go_wp2;go_ret;exact⟨_,rfl,HF.out.1,HF.out.2,rfl⟩
end valus
end Go.Proofs.YtadaehaemmelfaaDoor
