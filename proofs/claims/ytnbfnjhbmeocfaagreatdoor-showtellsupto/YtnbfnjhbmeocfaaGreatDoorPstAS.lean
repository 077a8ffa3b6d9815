/- Of our texts, what this claim reaches. -/
import Derived.Test.YtnbfnjhbmeocfaaGreatDoorPstAM
import Derived.Test.YtnbfnjhbmeocfaaGreatDoorPstAO
import Derived.Deep.QuietTactic
import Derived.BigQuiet
import Derived.Test.YtnbfnjhbmeocfaaGreatDoorPstAR
import Derived.Test.YtnbfnjhbmeocfaaGreatDoorPstAI
import Derived.Test.YtnbfnjhbmeocfaaGreatDoorPstAA
set_option linter.unusedVariables false
set_option maxHeartbeats 1000000
set_option maxRecDepth 100000
namespace Go.Proofs.YtnbfnjhbmeocfaaGreatDoor
namespace escs
open Go.RowKit
open utfs
open bigs (X4)
theorem jdy (l:List UInt8):(⟨l.toArray⟩:ByteArray).size=l.length:=by show l.toArray.size=_;rw [List.size_toArray]
open Go.RowKit
open utfs
open bigs (X4)
def jjz:Res->List UInt8
 | .inl _=>[]
 | .inr (rs,_)=>enc rs
def jj1:Res->Int
 | .inl e=>e
 | .inr (_,_)=>0
open Go.RowKit
open utfs
open bigs (hexc digB zn Jr)
theorem QJ:∀(l:List UInt8),(∀c∈l,c.toNat<128)->∃ls:List Int,(∀r∈ls,sc r=true)/\l=enc ls
 | [],_=>⟨[],by simp,rfl⟩
 | c :: l,h=>by
  obtain⟨ls,h1,h2⟩:=QJ l (fun d hd=>h d (List.mem_cons_of_mem _ hd));have hc:=h c List.mem_cons_self;refine⟨(c.toNat:Int) :: ls,?_,?_⟩
  ·intro r hr
   rcases List.mem_cons.1 hr with rfl | hr
   ·exact jhT (by omega) (by omega)
   ·exact h1 r hr
  ·rw [qR,je1 (by omega) (by omega),<-h2]
   simp
theorem X9 {d:Nat}(h:d<16):(hexc d).toNat<128/\hexc d≠10:=by
 have:∀k:Fin 16,(hexc k).toNat<128/\hexc k≠10:=by decide
 exact this ⟨d,h⟩
theorem jiS {r:Int}(hs:sc r=true):(∃ls:List Int,(∀q∈ls,sc q=true)/\qr r=enc ls)/\(10:UInt8)∉qr r:=by
 have h0:=jQ hs
 rcases Qr r hs with h | ⟨h,h34,h92,h10,h9,h13⟩ | ⟨h,h127,h34,h92⟩
 ·rcases h with rfl | rfl | rfl | rfl | rfl
  all_goals exact⟨QJ _ (by decide),by decide⟩
 ·rw [Qn h h10 h9 h13]
  rcases Ze h0.1 h with ⟨d,hd,_,eg⟩ | ⟨a,d,ha,hd,_,eg⟩
  ·rw [eg]
   have x:=X9 hd;refine⟨QJ _ ?_,?_⟩
   ·simp [x.1]
   ·simp [Ne.symm x.2]
  ·rw [eg]
   have x:=X9 hd;have y:=X9 ha;refine⟨QJ _ ?_,?_⟩
   ·simp [x.1,y.1]
   ·simp [Ne.symm x.2,Ne.symm y.2]
 ·rw [JN h h127 h34 h92]
  refine⟨⟨[r],by simpa using hs,by rw [jbq]⟩,?_⟩
  have ten:∀x:Int,0<=x->x<256->x≠10->(10:UInt8)≠x.toNat.toUInt8:=fun x a b c e=>by
   have:=congrArg UInt8.toNat e;rw [jT a b] at this;have t:(10:UInt8).toNat=10:=rfl;omega
  rcases qX hs with ⟨a,e⟩ | ⟨a,b,e⟩ | ⟨a,b,e⟩ | ⟨a,e⟩<;>rw [e]
  ·simp only [List.mem_singleton]
   exact ten _ (by omega) (by omega) (by omega)
  ·simp only [List.mem_cons,List.not_mem_nil,or_false,not_or]
   exact⟨ten _ (by omega) (by omega) (by omega),ten _ (by omega) (by omega) (by omega)⟩
  ·simp only [List.mem_cons,List.not_mem_nil,or_false,not_or]
   exact⟨ten _ (by omega) (by omega) (by omega),ten _ (by omega) (by omega) (by omega),ten _ (by omega) (by omega) (by omega)⟩
  ·simp only [List.mem_cons,List.not_mem_nil,or_false,not_or]
   exact⟨ten _ (by omega) (by omega) (by omega),ten _ (by omega) (by omega) (by omega),ten _ (by omega) (by omega) (by omega),ten _ (by omega) (by omega) (by omega)⟩
theorem jeY:∀(rs:List Int),(∀r∈rs,sc r=true)->(∃ls:List Int,(∀q∈ls,sc q=true)/\qs rs=enc ls)/\(10:UInt8)∉qs rs
 | [],_=>⟨⟨[],by simp,rfl⟩,by simp [qs]⟩
 | r :: rs,h=>by
  obtain⟨⟨l1,a1,e1⟩,n1⟩:=jiS (h r List.mem_cons_self);obtain⟨⟨l2,a2,e2⟩,n2⟩:=jeY rs (fun q hq=>h q (List.mem_cons_of_mem _ hq));rw [Zz];refine⟨⟨l1++l2,?_,by rw [z8,e1,e2]⟩,?_⟩
  ·intro q hq
   rcases List.mem_append.1 hq with k | k
   ·exact a1 q k
   ·exact a2 q k
  ·intro k
   rcases List.mem_append.1 k with k | k
   ·exact n1 k
   ·exact n2 k
theorem jcM {rs:List Int}(h:∀r∈rs,sc r=true):bad (jF rs) = -1/\(10:UInt8)∉jF rs:=by
 obtain⟨⟨ls,a,e⟩,n⟩:=jeY rs h
 have he:jF rs=enc (34 :: (ls++[34])):=by
  have e34:Lib.encodeRune 34=[34]:=by decide
  unfold jF;rw [qR,z8,jbq,e34,e];rfl
 refine⟨?_,?_⟩
 ·rw [he]
  apply jeG
  intro r hr
  rcases List.mem_cons.1 hr with rfl | hr
  ·rfl
  ·rcases List.mem_append.1 hr with k | k
   ·exact a r k
   ·simp only [List.mem_singleton] at k
    rw [k];rfl
 ·unfold jF
  intro k
  rcases List.mem_cons.1 k with k | k
  ·cases k
  ·rcases List.mem_append.1 k with k | k
   ·exact n k
   ·simp only [List.mem_singleton] at k
    cases k
theorem Yz {rs:List Int}(h:∀r∈rs,sc r=true):(jF rs).length<=6*(enc rs).length+2:=by
 have:=jeN rs h;unfold jF;simp only [List.length_cons,List.length_append,List.length_nil];omega
structure EscTabs (w:World):Prop where
 utf:Lib.Utf8Tabs 1 2 w
 bru:Lib.TabIs Tryz.prog w "math/bits.deBruijn64tab" .u8 zn
theorem QM {s:ByteArray}{l:List UInt8}(h:s.data.toList=l):(⟨l.toArray⟩:ByteArray)=s:=by
 rw [<-h]
def JC (l:List UInt8):List UInt8:=if qA l=true then l else if 0<=bad l then [] else jF (QS l)
def jkh (l:List UInt8):Int:=if qA l=true then 0 else if 0<=bad l then 3 else 0
def YV (l:List UInt8):List UInt8:=if 0<=bad l then [] else jF (QS l)
def jiM (l:List UInt8):Int:=if 0<=bad l then 3 else 0
theorem jap (w:World)(s:ByteArray)(hs:s.size<=1073741824)(hT:EscTabs w) :
  Calls Tryz.prog 232 #[.string s] w fun e w'=>e=.returned (.tuple #[.string ⟨(YV s.data.toList).toArray⟩,.int .i64 (jiM s.data.toList)])/\Below w.heap.size w w':=by
 unfold YV jiM
 by_cases h:0<=bad s.data.toList
 ·rw [if_pos h,if_pos h]
  exact jfH s w (by omega) hT.utf h
 ·rw [if_neg h,if_neg h]
  obtain⟨a,b⟩:=zt (l:=s.data.toList) (by omega);exact jd9 s _ w hs hT.utf hT.bru a b
theorem jiy (w:World)(s:ByteArray)(hs:s.size<=1073741824)(hT:EscTabs w) :
  Calls Tryz.prog 228 #[.string s] w fun e w'=>e=.returned (.tuple #[.string ⟨(JC s.data.toList).toArray⟩,.int .i64 (jkh s.data.toList)])/\Below w.heap.size w w':=by
 have KB:=jb (jhj w s);have KQ:=jb (jap w s hs hT);have e1:JC s.data.toList=if qA s.data.toList=true then s.data.toList else YV s.data.toList:=rfl
 have e2:jkh s.data.toList=if qA s.data.toList=true then 0 else jiM s.data.toList:=rfl
 rw [e1,e2];have et:(⟨s.data.toList.toArray⟩:ByteArray)=s:=QM rfl;clear hT e1 e2;generalize qA s.data.toList=b at *;generalize YV s.data.toList=T at *;generalize jiM s.data.toList=E at *;cases b with
 | true=>
  rw [if_pos rfl,if_pos rfl,et];clear et KQ
  go_enter Tryz.func228,Tryz.ntmps228
  go_wp2_with fail
  refine(ja KB).mono ?_
  rintro _ w1 ⟨rfl,hw⟩
  rw [hw];clear hw;go_wp2;go_ret2;exact⟨rfl,Below.refl _ _⟩
 | false=>
  rw [if_neg (by decide),if_neg (by decide)];clear et
  go_enter Tryz.func228,Tryz.ntmps228
  go_wp2_with fail
  refine(ja KB).mono ?_
  rintro _ w1 ⟨rfl,hw⟩
  rw [hw];clear hw
  go_wp2_with fail
  refine(ja KQ).mono ?_
  rintro _ w1 ⟨rfl,b1⟩
  have B1:=jb b1;clear b1 KQ KB;go_wp2;go_ret2;exact⟨rfl,ja B1⟩
end escs
namespace valus
open bigs (tellB)
def z7 (F:Nat->List UInt8)(x:Lab):List UInt8 :=
 if x.1=1 then (if x.2.1=1 then [116,114,117,101] else [102,97,108,115,101])
 else if x.1=2 then tellB 10 x.2.1 else if x.1=3 then F x.2.2.1 else if x.1=4 then escs.YV x.2.2.2 else [110,117,108,108]
def inL (d:Nat):List UInt8:=List.replicate (2*d) 32
def jk:List (List UInt8)->List UInt8
 | []=>[]
 | [p]=>p
 | p :: q :: r=>p++44 :: 32 :: jk (q :: r)
def Qd (d:Nat)(p:List UInt8):List UInt8:=10 :: (inL (d+1)++(p++[44]))
def jr (d:Nat)(ps:List (List UInt8)):List UInt8:=ps.flatMap (Qd d)
def jq (many:Bool)(d:Nat)(ps:List (List UInt8)):List UInt8 :=
 if many=true then (if ps=[] then [] else jr d ps++10 :: inL d) else jk ps
def qv (k t:List UInt8):List UInt8:=escs.JC k++58 :: 32 :: t
def ji (F:Nat->List UInt8)(many:Bool):Nat->Nat->V->List UInt8
 | 0,_,_=>[]
 | f+1,d,v=>
  if (opn v).1.1=5 then 91 :: (jq many d ((opn v).2.1.map (ji F many f (d+1)))++[93])
  else if (opn v).1.1=6 then 123 :: (jq many d ((opn v).2.2.map (fun e=>qv (jz e).1 (ji F many f (d+1) (jz e).2)))++[125])
  else z7 F (opn v).1
theorem jU (p:List UInt8):∀ps:List (List UInt8),jk (ps++[p])=jk ps++(if ps=[] then p else 44 :: 32 :: p)
 | []=>rfl
 | [q]=>rfl
 | q :: r :: t=>by
  have ih:=jU p (r :: t);rw [if_neg (by simp)] at ih ⊢
  show q++44 :: 32 :: jk (r :: t++[p])=(q++44 :: 32 :: jk (r :: t))++_
  rw [ih];simp
theorem qH (d:Nat)(p:List UInt8)(ps:List (List UInt8)):jr d (ps++[p])=jr d ps++Qd d p:=by
 unfold jr;simp
theorem Qx:∀(ps:List (List UInt8)) (k:Nat),(jk (ps.take k)).length<=(jk ps).length
 | [],k=>by simp
 | [p],0=>by simp [jk]
 | [p],k+1=>by simp
 | p :: q :: r,0=>by simp [jk]
 | p :: q :: r,1=>by simp [jk]
 | p :: q :: r,k+2=>by
  have ih:=Qx (q :: r) (k+1);simp only [List.take_succ_cons] at ih ⊢;simp only [jk,List.length_append,List.length_cons] at ih ⊢;omega
theorem Qm (d:Nat):∀(ps:List (List UInt8)) (k:Nat),(jr d (ps.take k)).length<=(jr d ps).length
 | [],k=>by simp
 | p :: r,0=>by simp [jr]
 | p :: r,k+1=>by
  have ih:=Qm d r k;rw [List.take_succ_cons];unfold jr at ih ⊢;simp only [List.flatMap_cons,List.length_append] at ih ⊢;omega
theorem qj (d:Nat):(inL d).length=2*d:=by unfold inL;simp
theorem JF (d:Nat)(p:List UInt8):(Qd d p).length=2*d+4+p.length:=by
 unfold Qd;simp only [List.length_cons,List.length_append,qj,List.length_nil];omega
end valus
end Go.Proofs.YtnbfnjhbmeocfaaGreatDoor
