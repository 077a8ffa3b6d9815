/- Of our texts, what this claim reaches. -/
import Derived.Test.YtadaehaemmelfaaDoorPubAO
import Derived.Test.YtadaehaemmelfaaDoorPubAQ
import Derived.WalkLawsBesides
set_option linter.unusedVariables false
set_option maxHeartbeats 4000000
set_option maxRecDepth 100000
namespace Go.Proofs.YtadaehaemmelfaaDoor
namespace valus
open Go.RowKit Go.Shelf
def RowsE (ok:Nat->Prop)(f:Nat)(W:World)(F:List V)(rows:List (List Value)):Prop:=rows.length=F.length/\∀(i:Nat) (us:List Value),rows[i]?=some us->us.length=7/\∃(key:ByteArray) (y:V) (xs:List Value),F[i]?=some (ent key.data.toList y)/\us=.string key :: xs/\key.size<=maxLen/\LiesV ok f W xs y
open Go.RowKit Go.Shelf
def jD (k:List UInt8)(E:List V):List V:=E.filter fun e=>!decide ((jE e).1=k)
theorem QI (k:List UInt8)(E:List V):(jD k E).length<=E.length:=List.length_filter_le _ _
theorem jae {k:List UInt8}{E:List V}{j:Nat}{x:List UInt8}{y:V}(h:E[j]?=some (ent x y)):jD k (E.take (j+1))=jD k (E.take j)++(if x=k then [] else [ent x y]):=by
 rw [jD,List.take_add_one,List.filter_append,h]
 congr 1
 by_cases e:x=k
 ·simp [e,jv]
 ·simp [e,jv]
theorem Qt (w:World)(t:TypeId)(u0 u1 u2 u3 u4 u5 u6:Value):∀j u,([u0,u1,u2,u3,u4,u5,u6]:List Value)[j]?=some u->(w.alloc (.cells #[u0,u1,u2,u3,u4,u5,u6] t)).cell? ((⟨w.heap.size,0,none⟩:Addr).add j)=some u:=fun j u h=>by
 rw [Addr.add_lit,Nat.zero_add];exact Blk.cell (jb w #[u0,u1,u2,u3,u4,u5,u6] t) j u (by simpa using h)
theorem jbd {key:ByteArray}{xs:List Value}(h:∀u,u∈xs->u.oneCell'=true):∀u∈(Value.string key :: xs),u.oneCell'=true:=fun u hu=>by
 rcases List.mem_cons.1 hu with rfl | hu
 ·rfl
 ·exact h u hu
open Go.RowKit Go.Shelf
attribute [local go_sem] Oper.semAt_some
theorem Q2 {n:Nat}{P:Program}{ops:Array Oper}{o:Oper}{a:Act}{w w':World}{K:Act->World->Prop}{Q:Exit->Act->World->Prop}(s x:Operand)(t:TypeId)
  (ho:o.op=.call { callee:=.builtin .append,args:=#[s,x],argTypes:=#[t,t] }) (hg:o.guard=none) {v u v':Value} (hs:a.eval s=v) (hx:a.eval x=u)
  (hr:(Builtin.append_ #[t,t] o.type #[v,u]).run P w=.ok v' w') (hK:K (a.put o.dst v') w') :
  if Region.wanted o (yielded ops a.tmps)=true then Oper.wpIn Fence.wide n P o a w K Q else (∀f,o.about P w a.eval=some f->Fence.wide.fn f)/\K (a.put o.dst undef) w:=by
 rw [if_pos (by simp [Region.wanted,hg])];unfold Oper.wpIn;refine⟨fun _ _=>trivial,?_⟩;rw [Oper.semAt_plain _ _ _ (by rw [ho];intro c hc';cases hc')];simp [execOp,ho,resolve,invoke,builtin,hs,hx,hr,Result.andThen];exact hK
theorem jcf {Q:Exit->Act->World->Prop}{ops:Array Oper}{D:List Deferred}{t0 t1 t2 t3 t4 t6 t8 t9 t10 t11 t12 t13 t14 t15 t16 t17 t18 t19 t20 t21 t22 t23 t24 t25 t26 t27 t28 v:Value}{W:World}{Bx:Nat}{key:ByteArray}{ak an:Int}{ab:Nat}{az:ByteArray}{apL:Option Addr}{anL acL:Nat}{apE:Option Addr}{anE acE:Nat}{q0 q1 q2 q3 q4 q5 q6 q7 q8 q9:String}{f0 f1 f2 f3 f4 f5 f6 f7 f8 f9:_}
  (H:World->Int->Int->Nat->ByteArray->Option Addr->Nat->Nat->Option Addr->Nat->Nat->Prop)
  (h0:ops[0]?=some { dst:=some 18,op:=.move (.tmp 5),type:=24,pos:=q0,after:=f0,guard:=none })
  (h1:ops[1]?=some { dst:=some 19,op:=.fieldAddr 57 (.tmp 7) 0,type:=0,pos:=q1,after:=f1,guard:=none })
  (h2:ops[2]?=some { dst:=some 20,op:=.load 9 (.tmp 19),type:=9,pos:=q2,after:=f2,guard:=none })
  (h3:ops[3]?=some { dst:=some 21,op:=.fieldAddr 57 (.tmp 7) 1,type:=0,pos:=q3,after:=f3,guard:=none })
  (h4:ops[4]?=some { dst:=some 22,op:=.load 26 (.tmp 21),type:=26,pos:=q4,after:=f4,guard:=none })
  (h5:ops[5]?=some { dst:=some 23,op:=.call { callee:=.value (.func 29),args:=#[.tmp 22],argTypes:=#[26] },type:=26,pos:=q5,after:=f5,guard:=none })
  (h6:ops[6]?=some { dst:=some 24,op:=.build 57 #[(0,.tmp 20),(1,.tmp 23)],type:=57,pos:=q6,after:=f6,guard:=none })
  (h7:ops[7]?=some { dst:=some 25,op:=.buildSlice 24 1 #[(0,.tmp 24)],type:=24,pos:=q7,after:=f7,guard:=none })
  (h8:ops[8]?=some { dst:=some 26,op:=.call { callee:=.builtin .append,args:=#[.tmp 18,.tmp 25],argTypes:=#[24,24] },type:=24,pos:=q8,after:=f8,guard:=none })
  (h9:ops[9]?=some { dst:=some 5,op:=.assign (.tmp 26),type:=24,pos:=q9,after:=f9,guard:=none })
  (r0123456789:Region.ready .any ops #[true,true,true,true,true,true,true,true,true,true]=[])
  (r012345678:Region.ready .any ops #[true,true,true,true,true,true,true,true,true,false]=[9])
  (r01234567:Region.ready .any ops #[true,true,true,true,true,true,true,true,false,false]=[8])
  (r0123456:Region.ready .any ops #[true,true,true,true,true,true,true,false,false,false]=[7])
  (r1234567:Region.ready .any ops #[false,true,true,true,true,true,true,true,false,false]=[0])
  (r012345:Region.ready .any ops #[true,true,true,true,true,true,false,false,false,false]=[6])
  (r123456:Region.ready .any ops #[false,true,true,true,true,true,true,false,false,false]=[0,7])
  (r01234:Region.ready .any ops #[true,true,true,true,true,false,false,false,false,false]=[5])
  (r01345:Region.ready .any ops #[true,true,false,true,true,true,false,false,false,false]=[2])
  (r12345:Region.ready .any ops #[false,true,true,true,true,true,false,false,false,false]=[0,6])
  (r0123:Region.ready .any ops #[true,true,true,true,false,false,false,false,false,false]=[4])
  (r0134:Region.ready .any ops #[true,true,false,true,true,false,false,false,false,false]=[2,5])
  (r0345:Region.ready .any ops #[true,false,false,true,true,true,false,false,false,false]=[1])
  (r1234:Region.ready .any ops #[false,true,true,true,true,false,false,false,false,false]=[0,5])
  (r1345:Region.ready .any ops #[false,true,false,true,true,true,false,false,false,false]=[0,2])
  (r012:Region.ready .any ops #[true,true,true,false,false,false,false,false,false,false]=[3])
  (r013:Region.ready .any ops #[true,true,false,true,false,false,false,false,false,false]=[2,4])
  (r034:Region.ready .any ops #[true,false,false,true,true,false,false,false,false,false]=[1,5])
  (r123:Region.ready .any ops #[false,true,true,true,false,false,false,false,false,false]=[0,4])
  (r134:Region.ready .any ops #[false,true,false,true,true,false,false,false,false,false]=[0,2,5])
  (r345:Region.ready .any ops #[false,false,false,true,true,true,false,false,false,false]=[0,1])
  (r01:Region.ready .any ops #[true,true,false,false,false,false,false,false,false,false]=[2,3])
  (r03:Region.ready .any ops #[true,false,false,true,false,false,false,false,false,false]=[1,4])
  (r12:Region.ready .any ops #[false,true,true,false,false,false,false,false,false,false]=[0,3])
  (r13:Region.ready .any ops #[false,true,false,true,false,false,false,false,false,false]=[0,2,4])
  (r34:Region.ready .any ops #[false,false,false,true,true,false,false,false,false,false]=[0,1,5])
  (r0:Region.ready .any ops #[true,false,false,false,false,false,false,false,false,false]=[1,3])
  (r1:Region.ready .any ops #[false,true,false,false,false,false,false,false,false,false]=[0,2,3])
  (r3:Region.ready .any ops #[false,false,false,true,false,false,false,false,false,false]=[0,1,4])
  (r:Region.ready .any ops #[false,false,false,false,false,false,false,false,false,false]=[0,1,3])
  (c0:W.cell? ⟨Bx,0,none⟩=some (.string key))
  (c1:W.cell? ⟨Bx,1,none⟩=some (.int .i64 ak))
  (c2:W.cell? ⟨Bx,2,none⟩=some (.int .i64 an))
  (c3:W.cell? ⟨Bx,3,none⟩=some (.int .u64 (ab:Int)))
  (c4:W.cell? ⟨Bx,4,none⟩=some (.string az))
  (c5:W.cell? ⟨Bx,5,none⟩=some (.slice apL anL acL))
  (c6:W.cell? ⟨Bx,6,none⟩=some (.slice apE anE acE))
  (hC:CallsIn Fence.wide 8 Tryd.prog 29 #[(.agg #[.int .i64 ak,.int .i64 an,.int .u64 (ab:Int),.string az,.slice apL anL acL,.slice apE anE acE])] W fun e w1=>∃(k n:Int) (b:Nat) (s:ByteArray) (pL:Option Addr) (nL cL:Nat) (pE:Option Addr) (nE cE:Nat),e=.returned (.agg #[.int .i64 k,.int .i64 n,.int .u64 (b:Int),.string s,.slice pL nL cL,.slice pE nE cE])/\H w1 k n b s pL nL cL pE nE cE)
  (hd:∀(w1:World) (k n:Int) (b:Nat) (s:ByteArray) (pL:Option Addr) (nL cL:Nat) (pE:Option Addr) (nE cE:Nat),H w1 k n b s pL nL cL pE nE cE->w1.cell? ⟨Bx,0,none⟩=some (.string key))
  (hQ:∀(w1:World) (k n:Int) (b:Nat) (s:ByteArray) (pL:Option Addr) (nL cL:Nat) (pE:Option Addr) (nE cE:Nat),H w1 k n b s pL nL cL pE nE cE->∃v' w2,(Builtin.append_ #[24,24] 24 #[v,.slice (some ⟨w1.heap.size,0,none⟩) 1 1]).run Tryd.prog (w1.alloc (.cells #[.string key,.int .i64 k,.int .i64 n,.int .u64 (b:Int),.string s,.slice pL nL cL,.slice pE nE cE] 57))=.ok v' w2/\Q .normal { tmps:=#[t0,t1,t2,t3,t4,v',t6,(.pointer (some ⟨Bx,0,none⟩)),t8,t9,t10,t11,t12,t13,t14,t15,t16,t17,v,(.pointer (some ⟨Bx,0,none⟩)),(.string key),(.pointer (some ⟨Bx,1,none⟩)),(.agg #[.int .i64 ak,.int .i64 an,.int .u64 (ab:Int),.string az,.slice apL anL acL,.slice apE anE acE]),(.agg #[.int .i64 k,.int .i64 n,.int .u64 (b:Int),.string s,.slice pL nL cL,.slice pE nE cE]),(.agg #[.string key,.int .i64 k,.int .i64 n,.int .u64 (b:Int),.string s,.slice pL nL cL,.slice pE nE cE]),(.slice (some ⟨w1.heap.size,0,none⟩) 1 1),v',t27,t28],defers:=D } w2) :
  wpAnyIn Fence.wide 9 Tryd.prog .any ops Q 10 #[false,false,false,false,false,false,false,false,false,false] { tmps:=#[t0,t1,t2,t3,t4,v,t6,(.pointer (some ⟨Bx,0,none⟩)),t8,t9,t10,t11,t12,t13,t14,t15,t16,t17,t18,t19,t20,t21,t22,t23,t24,t25,t26,t27,t28],defers:=D } W:=by
 have s01234567:∀(w1:World) (k n:Int) (b:Nat) (s:ByteArray) (pL:Option Addr) (nL cL:Nat) (pE:Option Addr) (nE cE:Nat),H w1 k n b s pL nL cL pE nE cE->wpAnyIn Fence.wide 9 Tryd.prog .any ops Q 2 #[true,true,true,true,true,true,true,true,false,false] { tmps:=#[t0,t1,t2,t3,t4,v,t6,(.pointer (some ⟨Bx,0,none⟩)),t8,t9,t10,t11,t12,t13,t14,t15,t16,t17,v,(.pointer (some ⟨Bx,0,none⟩)),(.string key),(.pointer (some ⟨Bx,1,none⟩)),(.agg #[.int .i64 ak,.int .i64 an,.int .u64 (ab:Int),.string az,.slice apL anL acL,.slice apE anE acE]),(.agg #[.int .i64 k,.int .i64 n,.int .u64 (b:Int),.string s,.slice pL nL cL,.slice pE nE cE]),(.agg #[.string key,.int .i64 k,.int .i64 n,.int .u64 (b:Int),.string s,.slice pL nL cL,.slice pE nE cE]),(.slice (some ⟨w1.heap.size,0,none⟩) 1 1),t26,t27,t28],defers:=D } (w1.alloc (.cells #[.string key,.int .i64 k,.int .i64 n,.int .u64 (b:Int),.string s,.slice pL nL cL,.slice pE nE cE] 57)):=by
  intro w1 k n b s pL nL cL pE nE cE hH;have e0:=hd w1 k n b s pL nL cL pE nE cE hH;obtain⟨v',w2,hrun,hq⟩:=hQ w1 k n b s pL nL cL pE nE cE hH;refine wpAnyIn_ready r01234567 (by simp) (AllReadyIn.cons h8 (fun K hK=>?_) AllReadyIn.nil);refine Q2 _ _ _ rfl rfl rfl rfl hrun (hK _ _ ?_);refine wpAnyIn_ready r012345678 (by simp) (AllReadyIn.cons h9 (fun K hK=>?_) AllReadyIn.nil)
  go_simp
  exact hK _ _ (wpAnyIn_done r0123456789 hq _)
 have s0123456:∀(w1:World) (k n:Int) (b:Nat) (s:ByteArray) (pL:Option Addr) (nL cL:Nat) (pE:Option Addr) (nE cE:Nat),H w1 k n b s pL nL cL pE nE cE->wpAnyIn Fence.wide 9 Tryd.prog .any ops Q 3 #[true,true,true,true,true,true,true,false,false,false] { tmps:=#[t0,t1,t2,t3,t4,v,t6,(.pointer (some ⟨Bx,0,none⟩)),t8,t9,t10,t11,t12,t13,t14,t15,t16,t17,v,(.pointer (some ⟨Bx,0,none⟩)),(.string key),(.pointer (some ⟨Bx,1,none⟩)),(.agg #[.int .i64 ak,.int .i64 an,.int .u64 (ab:Int),.string az,.slice apL anL acL,.slice apE anE acE]),(.agg #[.int .i64 k,.int .i64 n,.int .u64 (b:Int),.string s,.slice pL nL cL,.slice pE nE cE]),(.agg #[.string key,.int .i64 k,.int .i64 n,.int .u64 (b:Int),.string s,.slice pL nL cL,.slice pE nE cE]),t25,t26,t27,t28],defers:=D } w1:=by
  intro w1 k n b s pL nL cL pE nE cE hH;have e0:=hd w1 k n b s pL nL cL pE nE cE hH;refine wpAnyIn_ready r0123456 (by simp) ?_
  refine AllReadyIn.cons h7 (fun K hK=>?_) ?_
  ·go_simp
   exact hK _ _ (s01234567 w1 k n b s pL nL cL pE nE cE hH)
  exact AllReadyIn.nil
 have s1234567:∀(w1:World) (k n:Int) (b:Nat) (s:ByteArray) (pL:Option Addr) (nL cL:Nat) (pE:Option Addr) (nE cE:Nat),H w1 k n b s pL nL cL pE nE cE->wpAnyIn Fence.wide 9 Tryd.prog .any ops Q 3 #[false,true,true,true,true,true,true,true,false,false] { tmps:=#[t0,t1,t2,t3,t4,v,t6,(.pointer (some ⟨Bx,0,none⟩)),t8,t9,t10,t11,t12,t13,t14,t15,t16,t17,t18,(.pointer (some ⟨Bx,0,none⟩)),(.string key),(.pointer (some ⟨Bx,1,none⟩)),(.agg #[.int .i64 ak,.int .i64 an,.int .u64 (ab:Int),.string az,.slice apL anL acL,.slice apE anE acE]),(.agg #[.int .i64 k,.int .i64 n,.int .u64 (b:Int),.string s,.slice pL nL cL,.slice pE nE cE]),(.agg #[.string key,.int .i64 k,.int .i64 n,.int .u64 (b:Int),.string s,.slice pL nL cL,.slice pE nE cE]),(.slice (some ⟨w1.heap.size,0,none⟩) 1 1),t26,t27,t28],defers:=D } (w1.alloc (.cells #[.string key,.int .i64 k,.int .i64 n,.int .u64 (b:Int),.string s,.slice pL nL cL,.slice pE nE cE] 57)):=by
  intro w1 k n b s pL nL cL pE nE cE hH;have e0:=hd w1 k n b s pL nL cL pE nE cE hH;refine wpAnyIn_ready r1234567 (by simp) ?_
  refine AllReadyIn.cons h0 (fun K hK=>?_) ?_
  ·go_simp
   exact hK _ _ (s01234567 w1 k n b s pL nL cL pE nE cE hH)
  exact AllReadyIn.nil
 have s012345:∀(w1:World) (k n:Int) (b:Nat) (s:ByteArray) (pL:Option Addr) (nL cL:Nat) (pE:Option Addr) (nE cE:Nat),H w1 k n b s pL nL cL pE nE cE->wpAnyIn Fence.wide 9 Tryd.prog .any ops Q 4 #[true,true,true,true,true,true,false,false,false,false] { tmps:=#[t0,t1,t2,t3,t4,v,t6,(.pointer (some ⟨Bx,0,none⟩)),t8,t9,t10,t11,t12,t13,t14,t15,t16,t17,v,(.pointer (some ⟨Bx,0,none⟩)),(.string key),(.pointer (some ⟨Bx,1,none⟩)),(.agg #[.int .i64 ak,.int .i64 an,.int .u64 (ab:Int),.string az,.slice apL anL acL,.slice apE anE acE]),(.agg #[.int .i64 k,.int .i64 n,.int .u64 (b:Int),.string s,.slice pL nL cL,.slice pE nE cE]),t24,t25,t26,t27,t28],defers:=D } w1:=by
  intro w1 k n b s pL nL cL pE nE cE hH;have e0:=hd w1 k n b s pL nL cL pE nE cE hH;refine wpAnyIn_ready r012345 (by simp) ?_
  refine AllReadyIn.cons h6 (fun K hK=>?_) ?_
  ·go_simp
   exact hK _ _ (s0123456 w1 k n b s pL nL cL pE nE cE hH)
  exact AllReadyIn.nil
 have s123456:∀(w1:World) (k n:Int) (b:Nat) (s:ByteArray) (pL:Option Addr) (nL cL:Nat) (pE:Option Addr) (nE cE:Nat),H w1 k n b s pL nL cL pE nE cE->wpAnyIn Fence.wide 9 Tryd.prog .any ops Q 4 #[false,true,true,true,true,true,true,false,false,false] { tmps:=#[t0,t1,t2,t3,t4,v,t6,(.pointer (some ⟨Bx,0,none⟩)),t8,t9,t10,t11,t12,t13,t14,t15,t16,t17,t18,(.pointer (some ⟨Bx,0,none⟩)),(.string key),(.pointer (some ⟨Bx,1,none⟩)),(.agg #[.int .i64 ak,.int .i64 an,.int .u64 (ab:Int),.string az,.slice apL anL acL,.slice apE anE acE]),(.agg #[.int .i64 k,.int .i64 n,.int .u64 (b:Int),.string s,.slice pL nL cL,.slice pE nE cE]),(.agg #[.string key,.int .i64 k,.int .i64 n,.int .u64 (b:Int),.string s,.slice pL nL cL,.slice pE nE cE]),t25,t26,t27,t28],defers:=D } w1:=by
  intro w1 k n b s pL nL cL pE nE cE hH;have e0:=hd w1 k n b s pL nL cL pE nE cE hH;refine wpAnyIn_ready r123456 (by simp) ?_
  refine AllReadyIn.cons h0 (fun K hK=>?_) ?_
  ·go_simp
   exact hK _ _ (s0123456 w1 k n b s pL nL cL pE nE cE hH)
  refine AllReadyIn.cons h7 (fun K hK=>?_) ?_
  ·go_simp
   exact hK _ _ (s1234567 w1 k n b s pL nL cL pE nE cE hH)
  exact AllReadyIn.nil
 have s01234:wpAnyIn Fence.wide 9 Tryd.prog .any ops Q 5 #[true,true,true,true,true,false,false,false,false,false] { tmps:=#[t0,t1,t2,t3,t4,v,t6,(.pointer (some ⟨Bx,0,none⟩)),t8,t9,t10,t11,t12,t13,t14,t15,t16,t17,v,(.pointer (some ⟨Bx,0,none⟩)),(.string key),(.pointer (some ⟨Bx,1,none⟩)),(.agg #[.int .i64 ak,.int .i64 an,.int .u64 (ab:Int),.string az,.slice apL anL acL,.slice apE anE acE]),t23,t24,t25,t26,t27,t28],defers:=D } W:=by
  refine wpAnyIn_ready r01234 (by simp) ?_
  refine AllReadyIn.cons h5 (fun K hK=>?_) ?_
  ·go_simp
   refine⟨trivial,hC.mono ?_⟩
   rintro e w1 ⟨k,n,b,s,pL,nL,cL,pE,nE,cE,rfl,hH⟩
   exact hK _ _ (s012345 w1 k n b s pL nL cL pE nE cE hH)
  exact AllReadyIn.nil
 have s01345:∀(w1:World) (k n:Int) (b:Nat) (s:ByteArray) (pL:Option Addr) (nL cL:Nat) (pE:Option Addr) (nE cE:Nat),H w1 k n b s pL nL cL pE nE cE->wpAnyIn Fence.wide 9 Tryd.prog .any ops Q 5 #[true,true,false,true,true,true,false,false,false,false] { tmps:=#[t0,t1,t2,t3,t4,v,t6,(.pointer (some ⟨Bx,0,none⟩)),t8,t9,t10,t11,t12,t13,t14,t15,t16,t17,v,(.pointer (some ⟨Bx,0,none⟩)),t20,(.pointer (some ⟨Bx,1,none⟩)),(.agg #[.int .i64 ak,.int .i64 an,.int .u64 (ab:Int),.string az,.slice apL anL acL,.slice apE anE acE]),(.agg #[.int .i64 k,.int .i64 n,.int .u64 (b:Int),.string s,.slice pL nL cL,.slice pE nE cE]),t24,t25,t26,t27,t28],defers:=D } w1:=by
  intro w1 k n b s pL nL cL pE nE cE hH;have e0:=hd w1 k n b s pL nL cL pE nE cE hH;refine wpAnyIn_ready r01345 (by simp) ?_
  refine AllReadyIn.cons h2 (fun K hK=>?_) ?_
  ·go_simp
   exact hK _ _ (s012345 w1 k n b s pL nL cL pE nE cE hH)
  exact AllReadyIn.nil
 have s12345:∀(w1:World) (k n:Int) (b:Nat) (s:ByteArray) (pL:Option Addr) (nL cL:Nat) (pE:Option Addr) (nE cE:Nat),H w1 k n b s pL nL cL pE nE cE->wpAnyIn Fence.wide 9 Tryd.prog .any ops Q 5 #[false,true,true,true,true,true,false,false,false,false] { tmps:=#[t0,t1,t2,t3,t4,v,t6,(.pointer (some ⟨Bx,0,none⟩)),t8,t9,t10,t11,t12,t13,t14,t15,t16,t17,t18,(.pointer (some ⟨Bx,0,none⟩)),(.string key),(.pointer (some ⟨Bx,1,none⟩)),(.agg #[.int .i64 ak,.int .i64 an,.int .u64 (ab:Int),.string az,.slice apL anL acL,.slice apE anE acE]),(.agg #[.int .i64 k,.int .i64 n,.int .u64 (b:Int),.string s,.slice pL nL cL,.slice pE nE cE]),t24,t25,t26,t27,t28],defers:=D } w1:=by
  intro w1 k n b s pL nL cL pE nE cE hH;have e0:=hd w1 k n b s pL nL cL pE nE cE hH;refine wpAnyIn_ready r12345 (by simp) ?_
  refine AllReadyIn.cons h0 (fun K hK=>?_) ?_
  ·go_simp
   exact hK _ _ (s012345 w1 k n b s pL nL cL pE nE cE hH)
  refine AllReadyIn.cons h6 (fun K hK=>?_) ?_
  ·go_simp
   exact hK _ _ (s123456 w1 k n b s pL nL cL pE nE cE hH)
  exact AllReadyIn.nil
 have s0123:wpAnyIn Fence.wide 9 Tryd.prog .any ops Q 6 #[true,true,true,true,false,false,false,false,false,false] { tmps:=#[t0,t1,t2,t3,t4,v,t6,(.pointer (some ⟨Bx,0,none⟩)),t8,t9,t10,t11,t12,t13,t14,t15,t16,t17,v,(.pointer (some ⟨Bx,0,none⟩)),(.string key),(.pointer (some ⟨Bx,1,none⟩)),t22,t23,t24,t25,t26,t27,t28],defers:=D } W:=by
  refine wpAnyIn_ready r0123 (by simp) ?_
  refine AllReadyIn.cons h4 (fun K hK=>?_) ?_
  ·go_simp
   exact hK _ _ (s01234)
  exact AllReadyIn.nil
 have s0134:wpAnyIn Fence.wide 9 Tryd.prog .any ops Q 6 #[true,true,false,true,true,false,false,false,false,false] { tmps:=#[t0,t1,t2,t3,t4,v,t6,(.pointer (some ⟨Bx,0,none⟩)),t8,t9,t10,t11,t12,t13,t14,t15,t16,t17,v,(.pointer (some ⟨Bx,0,none⟩)),t20,(.pointer (some ⟨Bx,1,none⟩)),(.agg #[.int .i64 ak,.int .i64 an,.int .u64 (ab:Int),.string az,.slice apL anL acL,.slice apE anE acE]),t23,t24,t25,t26,t27,t28],defers:=D } W:=by
  refine wpAnyIn_ready r0134 (by simp) ?_
  refine AllReadyIn.cons h2 (fun K hK=>?_) ?_
  ·go_simp
   exact hK _ _ (s01234)
  refine AllReadyIn.cons h5 (fun K hK=>?_) ?_
  ·go_simp
   refine⟨trivial,hC.mono ?_⟩
   rintro e w1 ⟨k,n,b,s,pL,nL,cL,pE,nE,cE,rfl,hH⟩
   exact hK _ _ (s01345 w1 k n b s pL nL cL pE nE cE hH)
  exact AllReadyIn.nil
 have s0345:∀(w1:World) (k n:Int) (b:Nat) (s:ByteArray) (pL:Option Addr) (nL cL:Nat) (pE:Option Addr) (nE cE:Nat),H w1 k n b s pL nL cL pE nE cE->wpAnyIn Fence.wide 9 Tryd.prog .any ops Q 6 #[true,false,false,true,true,true,false,false,false,false] { tmps:=#[t0,t1,t2,t3,t4,v,t6,(.pointer (some ⟨Bx,0,none⟩)),t8,t9,t10,t11,t12,t13,t14,t15,t16,t17,v,t19,t20,(.pointer (some ⟨Bx,1,none⟩)),(.agg #[.int .i64 ak,.int .i64 an,.int .u64 (ab:Int),.string az,.slice apL anL acL,.slice apE anE acE]),(.agg #[.int .i64 k,.int .i64 n,.int .u64 (b:Int),.string s,.slice pL nL cL,.slice pE nE cE]),t24,t25,t26,t27,t28],defers:=D } w1:=by
  intro w1 k n b s pL nL cL pE nE cE hH;have e0:=hd w1 k n b s pL nL cL pE nE cE hH;refine wpAnyIn_ready r0345 (by simp) ?_
  refine AllReadyIn.cons h1 (fun K hK=>?_) ?_
  ·go_simp
   exact hK _ _ (s01345 w1 k n b s pL nL cL pE nE cE hH)
  exact AllReadyIn.nil
 have s1234:wpAnyIn Fence.wide 9 Tryd.prog .any ops Q 6 #[false,true,true,true,true,false,false,false,false,false] { tmps:=#[t0,t1,t2,t3,t4,v,t6,(.pointer (some ⟨Bx,0,none⟩)),t8,t9,t10,t11,t12,t13,t14,t15,t16,t17,t18,(.pointer (some ⟨Bx,0,none⟩)),(.string key),(.pointer (some ⟨Bx,1,none⟩)),(.agg #[.int .i64 ak,.int .i64 an,.int .u64 (ab:Int),.string az,.slice apL anL acL,.slice apE anE acE]),t23,t24,t25,t26,t27,t28],defers:=D } W:=by
  refine wpAnyIn_ready r1234 (by simp) ?_
  refine AllReadyIn.cons h0 (fun K hK=>?_) ?_
  ·go_simp
   exact hK _ _ (s01234)
  refine AllReadyIn.cons h5 (fun K hK=>?_) ?_
  ·go_simp
   refine⟨trivial,hC.mono ?_⟩
   rintro e w1 ⟨k,n,b,s,pL,nL,cL,pE,nE,cE,rfl,hH⟩
   exact hK _ _ (s12345 w1 k n b s pL nL cL pE nE cE hH)
  exact AllReadyIn.nil
 have s1345:∀(w1:World) (k n:Int) (b:Nat) (s:ByteArray) (pL:Option Addr) (nL cL:Nat) (pE:Option Addr) (nE cE:Nat),H w1 k n b s pL nL cL pE nE cE->wpAnyIn Fence.wide 9 Tryd.prog .any ops Q 6 #[false,true,false,true,true,true,false,false,false,false] { tmps:=#[t0,t1,t2,t3,t4,v,t6,(.pointer (some ⟨Bx,0,none⟩)),t8,t9,t10,t11,t12,t13,t14,t15,t16,t17,t18,(.pointer (some ⟨Bx,0,none⟩)),t20,(.pointer (some ⟨Bx,1,none⟩)),(.agg #[.int .i64 ak,.int .i64 an,.int .u64 (ab:Int),.string az,.slice apL anL acL,.slice apE anE acE]),(.agg #[.int .i64 k,.int .i64 n,.int .u64 (b:Int),.string s,.slice pL nL cL,.slice pE nE cE]),t24,t25,t26,t27,t28],defers:=D } w1:=by
  intro w1 k n b s pL nL cL pE nE cE hH;have e0:=hd w1 k n b s pL nL cL pE nE cE hH;refine wpAnyIn_ready r1345 (by simp) ?_
  refine AllReadyIn.cons h0 (fun K hK=>?_) ?_
  ·go_simp
   exact hK _ _ (s01345 w1 k n b s pL nL cL pE nE cE hH)
  refine AllReadyIn.cons h2 (fun K hK=>?_) ?_
  ·go_simp
   exact hK _ _ (s12345 w1 k n b s pL nL cL pE nE cE hH)
  exact AllReadyIn.nil
 have s012:wpAnyIn Fence.wide 9 Tryd.prog .any ops Q 7 #[true,true,true,false,false,false,false,false,false,false] { tmps:=#[t0,t1,t2,t3,t4,v,t6,(.pointer (some ⟨Bx,0,none⟩)),t8,t9,t10,t11,t12,t13,t14,t15,t16,t17,v,(.pointer (some ⟨Bx,0,none⟩)),(.string key),t21,t22,t23,t24,t25,t26,t27,t28],defers:=D } W:=by
  refine wpAnyIn_ready r012 (by simp) ?_
  refine AllReadyIn.cons h3 (fun K hK=>?_) ?_
  ·go_simp
   exact hK _ _ (s0123)
  exact AllReadyIn.nil
 have s013:wpAnyIn Fence.wide 9 Tryd.prog .any ops Q 7 #[true,true,false,true,false,false,false,false,false,false] { tmps:=#[t0,t1,t2,t3,t4,v,t6,(.pointer (some ⟨Bx,0,none⟩)),t8,t9,t10,t11,t12,t13,t14,t15,t16,t17,v,(.pointer (some ⟨Bx,0,none⟩)),t20,(.pointer (some ⟨Bx,1,none⟩)),t22,t23,t24,t25,t26,t27,t28],defers:=D } W:=by
  refine wpAnyIn_ready r013 (by simp) ?_
  refine AllReadyIn.cons h2 (fun K hK=>?_) ?_
  ·go_simp
   exact hK _ _ (s0123)
  refine AllReadyIn.cons h4 (fun K hK=>?_) ?_
  ·go_simp
   exact hK _ _ (s0134)
  exact AllReadyIn.nil
 have s034:wpAnyIn Fence.wide 9 Tryd.prog .any ops Q 7 #[true,false,false,true,true,false,false,false,false,false] { tmps:=#[t0,t1,t2,t3,t4,v,t6,(.pointer (some ⟨Bx,0,none⟩)),t8,t9,t10,t11,t12,t13,t14,t15,t16,t17,v,t19,t20,(.pointer (some ⟨Bx,1,none⟩)),(.agg #[.int .i64 ak,.int .i64 an,.int .u64 (ab:Int),.string az,.slice apL anL acL,.slice apE anE acE]),t23,t24,t25,t26,t27,t28],defers:=D } W:=by
  refine wpAnyIn_ready r034 (by simp) ?_
  refine AllReadyIn.cons h1 (fun K hK=>?_) ?_
  ·go_simp
   exact hK _ _ (s0134)
  refine AllReadyIn.cons h5 (fun K hK=>?_) ?_
  ·go_simp
   refine⟨trivial,hC.mono ?_⟩
   rintro e w1 ⟨k,n,b,s,pL,nL,cL,pE,nE,cE,rfl,hH⟩
   exact hK _ _ (s0345 w1 k n b s pL nL cL pE nE cE hH)
  exact AllReadyIn.nil
 have s123:wpAnyIn Fence.wide 9 Tryd.prog .any ops Q 7 #[false,true,true,true,false,false,false,false,false,false] { tmps:=#[t0,t1,t2,t3,t4,v,t6,(.pointer (some ⟨Bx,0,none⟩)),t8,t9,t10,t11,t12,t13,t14,t15,t16,t17,t18,(.pointer (some ⟨Bx,0,none⟩)),(.string key),(.pointer (some ⟨Bx,1,none⟩)),t22,t23,t24,t25,t26,t27,t28],defers:=D } W:=by
  refine wpAnyIn_ready r123 (by simp) ?_
  refine AllReadyIn.cons h0 (fun K hK=>?_) ?_
  ·go_simp
   exact hK _ _ (s0123)
  refine AllReadyIn.cons h4 (fun K hK=>?_) ?_
  ·go_simp
   exact hK _ _ (s1234)
  exact AllReadyIn.nil
 have s134:wpAnyIn Fence.wide 9 Tryd.prog .any ops Q 7 #[false,true,false,true,true,false,false,false,false,false] { tmps:=#[t0,t1,t2,t3,t4,v,t6,(.pointer (some ⟨Bx,0,none⟩)),t8,t9,t10,t11,t12,t13,t14,t15,t16,t17,t18,(.pointer (some ⟨Bx,0,none⟩)),t20,(.pointer (some ⟨Bx,1,none⟩)),(.agg #[.int .i64 ak,.int .i64 an,.int .u64 (ab:Int),.string az,.slice apL anL acL,.slice apE anE acE]),t23,t24,t25,t26,t27,t28],defers:=D } W:=by
  refine wpAnyIn_ready r134 (by simp) ?_
  refine AllReadyIn.cons h0 (fun K hK=>?_) ?_
  ·go_simp
   exact hK _ _ (s0134)
  refine AllReadyIn.cons h2 (fun K hK=>?_) ?_
  ·go_simp
   exact hK _ _ (s1234)
  refine AllReadyIn.cons h5 (fun K hK=>?_) ?_
  ·go_simp
   refine⟨trivial,hC.mono ?_⟩
   rintro e w1 ⟨k,n,b,s,pL,nL,cL,pE,nE,cE,rfl,hH⟩
   exact hK _ _ (s1345 w1 k n b s pL nL cL pE nE cE hH)
  exact AllReadyIn.nil
 have s345:∀(w1:World) (k n:Int) (b:Nat) (s:ByteArray) (pL:Option Addr) (nL cL:Nat) (pE:Option Addr) (nE cE:Nat),H w1 k n b s pL nL cL pE nE cE->wpAnyIn Fence.wide 9 Tryd.prog .any ops Q 7 #[false,false,false,true,true,true,false,false,false,false] { tmps:=#[t0,t1,t2,t3,t4,v,t6,(.pointer (some ⟨Bx,0,none⟩)),t8,t9,t10,t11,t12,t13,t14,t15,t16,t17,t18,t19,t20,(.pointer (some ⟨Bx,1,none⟩)),(.agg #[.int .i64 ak,.int .i64 an,.int .u64 (ab:Int),.string az,.slice apL anL acL,.slice apE anE acE]),(.agg #[.int .i64 k,.int .i64 n,.int .u64 (b:Int),.string s,.slice pL nL cL,.slice pE nE cE]),t24,t25,t26,t27,t28],defers:=D } w1:=by
  intro w1 k n b s pL nL cL pE nE cE hH;have e0:=hd w1 k n b s pL nL cL pE nE cE hH;refine wpAnyIn_ready r345 (by simp) ?_
  refine AllReadyIn.cons h0 (fun K hK=>?_) ?_
  ·go_simp
   exact hK _ _ (s0345 w1 k n b s pL nL cL pE nE cE hH)
  refine AllReadyIn.cons h1 (fun K hK=>?_) ?_
  ·go_simp
   exact hK _ _ (s1345 w1 k n b s pL nL cL pE nE cE hH)
  exact AllReadyIn.nil
 have s01:wpAnyIn Fence.wide 9 Tryd.prog .any ops Q 8 #[true,true,false,false,false,false,false,false,false,false] { tmps:=#[t0,t1,t2,t3,t4,v,t6,(.pointer (some ⟨Bx,0,none⟩)),t8,t9,t10,t11,t12,t13,t14,t15,t16,t17,v,(.pointer (some ⟨Bx,0,none⟩)),t20,t21,t22,t23,t24,t25,t26,t27,t28],defers:=D } W:=by
  refine wpAnyIn_ready r01 (by simp) ?_
  refine AllReadyIn.cons h2 (fun K hK=>?_) ?_
  ·go_simp
   exact hK _ _ (s012)
  refine AllReadyIn.cons h3 (fun K hK=>?_) ?_
  ·go_simp
   exact hK _ _ (s013)
  exact AllReadyIn.nil
 have s03:wpAnyIn Fence.wide 9 Tryd.prog .any ops Q 8 #[true,false,false,true,false,false,false,false,false,false] { tmps:=#[t0,t1,t2,t3,t4,v,t6,(.pointer (some ⟨Bx,0,none⟩)),t8,t9,t10,t11,t12,t13,t14,t15,t16,t17,v,t19,t20,(.pointer (some ⟨Bx,1,none⟩)),t22,t23,t24,t25,t26,t27,t28],defers:=D } W:=by
  refine wpAnyIn_ready r03 (by simp) ?_
  refine AllReadyIn.cons h1 (fun K hK=>?_) ?_
  ·go_simp
   exact hK _ _ (s013)
  refine AllReadyIn.cons h4 (fun K hK=>?_) ?_
  ·go_simp
   exact hK _ _ (s034)
  exact AllReadyIn.nil
 have s12:wpAnyIn Fence.wide 9 Tryd.prog .any ops Q 8 #[false,true,true,false,false,false,false,false,false,false] { tmps:=#[t0,t1,t2,t3,t4,v,t6,(.pointer (some ⟨Bx,0,none⟩)),t8,t9,t10,t11,t12,t13,t14,t15,t16,t17,t18,(.pointer (some ⟨Bx,0,none⟩)),(.string key),t21,t22,t23,t24,t25,t26,t27,t28],defers:=D } W:=by
  refine wpAnyIn_ready r12 (by simp) ?_
  refine AllReadyIn.cons h0 (fun K hK=>?_) ?_
  ·go_simp
   exact hK _ _ (s012)
  refine AllReadyIn.cons h3 (fun K hK=>?_) ?_
  ·go_simp
   exact hK _ _ (s123)
  exact AllReadyIn.nil
 have s13:wpAnyIn Fence.wide 9 Tryd.prog .any ops Q 8 #[false,true,false,true,false,false,false,false,false,false] { tmps:=#[t0,t1,t2,t3,t4,v,t6,(.pointer (some ⟨Bx,0,none⟩)),t8,t9,t10,t11,t12,t13,t14,t15,t16,t17,t18,(.pointer (some ⟨Bx,0,none⟩)),t20,(.pointer (some ⟨Bx,1,none⟩)),t22,t23,t24,t25,t26,t27,t28],defers:=D } W:=by
  refine wpAnyIn_ready r13 (by simp) ?_
  refine AllReadyIn.cons h0 (fun K hK=>?_) ?_
  ·go_simp
   exact hK _ _ (s013)
  refine AllReadyIn.cons h2 (fun K hK=>?_) ?_
  ·go_simp
   exact hK _ _ (s123)
  refine AllReadyIn.cons h4 (fun K hK=>?_) ?_
  ·go_simp
   exact hK _ _ (s134)
  exact AllReadyIn.nil
 have s34:wpAnyIn Fence.wide 9 Tryd.prog .any ops Q 8 #[false,false,false,true,true,false,false,false,false,false] { tmps:=#[t0,t1,t2,t3,t4,v,t6,(.pointer (some ⟨Bx,0,none⟩)),t8,t9,t10,t11,t12,t13,t14,t15,t16,t17,t18,t19,t20,(.pointer (some ⟨Bx,1,none⟩)),(.agg #[.int .i64 ak,.int .i64 an,.int .u64 (ab:Int),.string az,.slice apL anL acL,.slice apE anE acE]),t23,t24,t25,t26,t27,t28],defers:=D } W:=by
  refine wpAnyIn_ready r34 (by simp) ?_
  refine AllReadyIn.cons h0 (fun K hK=>?_) ?_
  ·go_simp
   exact hK _ _ (s034)
  refine AllReadyIn.cons h1 (fun K hK=>?_) ?_
  ·go_simp
   exact hK _ _ (s134)
  refine AllReadyIn.cons h5 (fun K hK=>?_) ?_
  ·go_simp
   refine⟨trivial,hC.mono ?_⟩
   rintro e w1 ⟨k,n,b,s,pL,nL,cL,pE,nE,cE,rfl,hH⟩
   exact hK _ _ (s345 w1 k n b s pL nL cL pE nE cE hH)
  exact AllReadyIn.nil
 have s0:wpAnyIn Fence.wide 9 Tryd.prog .any ops Q 9 #[true,false,false,false,false,false,false,false,false,false] { tmps:=#[t0,t1,t2,t3,t4,v,t6,(.pointer (some ⟨Bx,0,none⟩)),t8,t9,t10,t11,t12,t13,t14,t15,t16,t17,v,t19,t20,t21,t22,t23,t24,t25,t26,t27,t28],defers:=D } W:=by
  refine wpAnyIn_ready r0 (by simp) ?_
  refine AllReadyIn.cons h1 (fun K hK=>?_) ?_
  ·go_simp
   exact hK _ _ (s01)
  refine AllReadyIn.cons h3 (fun K hK=>?_) ?_
  ·go_simp
   exact hK _ _ (s03)
  exact AllReadyIn.nil
 have s1:wpAnyIn Fence.wide 9 Tryd.prog .any ops Q 9 #[false,true,false,false,false,false,false,false,false,false] { tmps:=#[t0,t1,t2,t3,t4,v,t6,(.pointer (some ⟨Bx,0,none⟩)),t8,t9,t10,t11,t12,t13,t14,t15,t16,t17,t18,(.pointer (some ⟨Bx,0,none⟩)),t20,t21,t22,t23,t24,t25,t26,t27,t28],defers:=D } W:=by
  refine wpAnyIn_ready r1 (by simp) ?_
  refine AllReadyIn.cons h0 (fun K hK=>?_) ?_
  ·go_simp
   exact hK _ _ (s01)
  refine AllReadyIn.cons h2 (fun K hK=>?_) ?_
  ·go_simp
   exact hK _ _ (s12)
  refine AllReadyIn.cons h3 (fun K hK=>?_) ?_
  ·go_simp
   exact hK _ _ (s13)
  exact AllReadyIn.nil
 have s3:wpAnyIn Fence.wide 9 Tryd.prog .any ops Q 9 #[false,false,false,true,false,false,false,false,false,false] { tmps:=#[t0,t1,t2,t3,t4,v,t6,(.pointer (some ⟨Bx,0,none⟩)),t8,t9,t10,t11,t12,t13,t14,t15,t16,t17,t18,t19,t20,(.pointer (some ⟨Bx,1,none⟩)),t22,t23,t24,t25,t26,t27,t28],defers:=D } W:=by
  refine wpAnyIn_ready r3 (by simp) ?_
  refine AllReadyIn.cons h0 (fun K hK=>?_) ?_
  ·go_simp
   exact hK _ _ (s03)
  refine AllReadyIn.cons h1 (fun K hK=>?_) ?_
  ·go_simp
   exact hK _ _ (s13)
  refine AllReadyIn.cons h4 (fun K hK=>?_) ?_
  ·go_simp
   exact hK _ _ (s34)
  exact AllReadyIn.nil
 have s:wpAnyIn Fence.wide 9 Tryd.prog .any ops Q 10 #[false,false,false,false,false,false,false,false,false,false] { tmps:=#[t0,t1,t2,t3,t4,v,t6,(.pointer (some ⟨Bx,0,none⟩)),t8,t9,t10,t11,t12,t13,t14,t15,t16,t17,t18,t19,t20,t21,t22,t23,t24,t25,t26,t27,t28],defers:=D } W:=by
  refine wpAnyIn_ready r (by simp) ?_
  refine AllReadyIn.cons h0 (fun K hK=>?_) ?_
  ·go_simp
   exact hK _ _ (s0)
  refine AllReadyIn.cons h1 (fun K hK=>?_) ?_
  ·go_simp
   exact hK _ _ (s1)
  refine AllReadyIn.cons h3 (fun K hK=>?_) ?_
  ·go_simp
   exact hK _ _ (s3)
  exact AllReadyIn.nil
 exact s
open Go.RowKit Go.Shelf
theorem RowsE.kept {ok ok':Nat->Prop}{f:Nat}{W W':World}{F:List V}{r:List (List Value)}(h:RowsE ok f W F r)(ho:∀b,ok b->ok' b)(hs:W.heap.size<=W'.heap.size)(hb:∀b,ok b->b<W.heap.size->W'.heap[b]?=W.heap[b]?):RowsE ok' f W' F r :=
 ⟨h.1,fun i us hi=>by
  obtain⟨h1,key,y,xs,h2,h3,h4,h5⟩:=h.2 i us hi;exact⟨h1,key,y,xs,h2,h3,h4,h5.kept ho hs hb⟩⟩
open Go.RowKit Go.Shelf
attribute [local go_sem] Oper.semAt_some
open Go.RowKit Go.Shelf
def gtr (kk k:List UInt8):Bool:=!Op.bytesLess k kk && !(k == kk)
def JA (kk:List UInt8)(F:List V):Nat:=if idx (gtr kk) 0 F<0 then F.length else (idx (gtr kk) 0 F).toNat
def qx (kk:List UInt8)(y:V)(F:List V):List V:=F.take (JA kk F)++ent kk y :: F.drop (JA kk F)
open Go.RowKit Go.Shelf
def RowsL (ok:Nat->Prop)(f:Nat)(W:World)(F:List V)(rows:List (List Value)):Prop:=rows.length=F.length/\∀(i:Nat) (us:List Value),rows[i]?=some us->∃y,F[i]?=some y/\LiesV ok f W us y
theorem RowsL.kept {ok ok':Nat->Prop}{f:Nat}{W W':World}{F:List V}{r:List (List Value)}(h:RowsL ok f W F r)(ho:∀b,ok b->ok' b)(hs:W.heap.size<=W'.heap.size)(hb:∀b,ok b->b<W.heap.size->W'.heap[b]?=W.heap[b]?):RowsL ok' f W' F r :=
 ⟨h.1,fun i us hi=>by
  obtain⟨y,h2,h3⟩:=h.2 i us hi;exact⟨y,h2,h3.kept ho hs hb⟩⟩
open Go.RowKit Go.Shelf
def RowsD (d:Nat)(P:Nat->Prop)(Q:Nat->(Nat->Prop)->List Value->Prop)(n:Nat)(rows:List (List Value)):Prop:=rows.length=n/\∃T:Nat->Nat->Prop,(∀(i:Nat) (us:List Value),rows[i]?=some us->us.length=d/\Q i (T i) us)/\(∀i b,T i b->P b)/\∀i j b,T i b->T j b->i=j
def QE (f:Nat)(W:World)(F:List V)(i:Nat)(T:Nat->Prop)(us:List Value):Prop:=∃(key:ByteArray) (y:V) (xs:List Value),F[i]?=some (ent key.data.toList y)/\us=.string key :: xs/\key.size<=maxLen/\LiesD f T W xs y
def QL (f:Nat)(W:World)(L:List V)(i:Nat)(T:Nat->Prop)(us:List Value):Prop:=∃y,L[i]?=some y/\LiesD f T W us y
theorem RowD.of {d ty:Nat}{W:World}{v:Value}{n:Nat}{S P:Nat->Prop}{Q:Nat->(Nat->Prop)->List Value->Prop}{rows:List (List Value)}{n0:Nat}(ho:W.ownsRow n0 ty d v n rows.flatten)(hr:RowsD d P Q n rows)(hP:∀b,P b->S b/\some b≠v.ownBlock)(hv:∀g,v.ownBlock=some g->S g):RowD d ty W v n S Q:=by
 obtain⟨h1,T,h2,h3,h4⟩:=hr;refine⟨rows,T,⟨ho.1,ho.2.imp id ?_⟩,h1,h2,fun g hg=>⟨hv g hg,fun i hi=>(hP g (h3 i g hi)).2 hg.symm⟩,fun i b hi=>(hP b (h3 i b hi)).1,h4⟩
 rintro⟨g,cap,cur,e,_,h⟩
 exact⟨g,cap,cur,e,Nat.zero_le _,h⟩
theorem RowD.to {d ty:Nat}{W:World}{v:Value}{n:Nat}{S:Nat->Prop}{Q:Nat->(Nat->Prop)->List Value->Prop}(h:RowD d ty W v n S Q):∃rows,W.ownsRow 0 ty d v n rows.flatten/\RowsD d (fun b=>S b/\some b≠v.ownBlock) Q n rows/\∀g,v.ownBlock=some g->S g:=by
 obtain⟨rows,T,h1,h2,h3,h4,h5,h6⟩:=h;exact⟨rows,h1,⟨h2,T,h3,fun i b hi=>⟨h5 i b hi,fun e=>(h4 b e.symm).2 i hi⟩,h6⟩,fun g hg=>(h4 g hg).1⟩
theorem RowsD.kept {d:Nat}{P P':Nat->Prop}{Q Q':Nat->(Nat->Prop)->List Value->Prop}{n:Nat}{rows:List (List Value)}(h:RowsD d P Q n rows)(hP:∀b,P b->P' b)(hq:∀i T us,(∀b,T b->P b)->Q i T us->Q' i T us):RowsD d P' Q' n rows:=by
 obtain⟨h1,T,h2,h3,h4⟩:=h;exact⟨h1,T,fun i us hi=>⟨(h2 i us hi).1,hq i (T i) us (h3 i) (h2 i us hi).2⟩,fun i b hi=>hP b (h3 i b hi),h4⟩
theorem QE.same {f:Nat}{W W':World}{F:List V}{P:Nat->Prop}(hb:∀b,P b->b<W.heap.size->W'.heap[b]?=W.heap[b]?):∀(i:Nat) (T:Nat->Prop) (us:List Value),(∀b,T b->P b)->QE f W F i T us->QE f W' F i T us:=by
 rintro i T us hT ⟨key,y,xs,a,c,e,g⟩
 exact⟨key,y,xs,a,c,e,g.same fun b h=>hb b (hT b h)⟩
theorem QL.same {f:Nat}{W W':World}{F:List V}{P:Nat->Prop}(hb:∀b,P b->b<W.heap.size->W'.heap[b]?=W.heap[b]?):∀(i:Nat) (T:Nat->Prop) (us:List Value),(∀b,T b->P b)->QL f W F i T us->QL f W' F i T us:=by
 rintro i T us hT ⟨y,a,g⟩
 exact⟨y,a,g.same fun b h=>hb b (hT b h)⟩
theorem RowsD.flat {d:Nat}{P:Nat->Prop}{Q:Nat->(Nat->Prop)->List Value->Prop}{n:Nat}{rows:List (List Value)}(h:RowsD d P Q n rows):∀us,us∈rows->us.length=d:=by
 obtain⟨h1,T,h2,_⟩:=h;intro us hu;obtain⟨i,hi⟩:=List.mem_iff_getElem?.1 hu
 exact(h2 i us hi).1
theorem LiesD.ones {f:Nat}{S:Nat->Prop}{w:World}{us:List Value}{t:V}(h:LiesD f S w us t):∀u,u∈us->u.oneCell'=true:=h.lies.ones
theorem RowsD.onesE {f:Nat}{P:Nat->Prop}{W:World}{F:List V}{n:Nat}{rows:List (List Value)}(h:RowsD 7 P (QE f W F) n rows):∀u,u∈rows.flatten->u.oneCell'=true:=by
 obtain⟨h1,T,h2,_⟩:=h;intro u hu;obtain⟨us,hus,hu⟩:=List.mem_flatten.1 hu;obtain⟨i,hi⟩:=List.mem_iff_getElem?.1 hus
 obtain⟨_,key,y,xs,_,rfl,_,hl⟩:=h2 i us hi
 rcases List.mem_cons.1 hu with rfl | hu
 ·rfl
 ·exact hl.ones u hu
theorem RowsD.onesL {f:Nat}{P:Nat->Prop}{W:World}{F:List V}{n:Nat}{rows:List (List Value)}(h:RowsD 6 P (QL f W F) n rows):∀u,u∈rows.flatten->u.oneCell'=true:=by
 obtain⟨h1,T,h2,_⟩:=h;intro u hu;obtain⟨us,hus,hu⟩:=List.mem_flatten.1 hu;obtain⟨i,hi⟩:=List.mem_iff_getElem?.1 hus
 obtain⟨_,y,_,hl⟩:=h2 i us hi;exact hl.ones u hu
theorem RowsD.ins {d:Nat}{P S:Nat->Prop}{Q Q':Nat->(Nat->Prop)->List Value->Prop}{n k:Nat}{rows:List (List Value)}{vs:List Value}(h:RowsD d P Q n rows)(hk:k<=n)(hvl:vs.length=d)(hPS:∀b,S b->¬P b)(ho:∀i T us,i<k->Q i T us->Q' i T us)(hn:Q' k S vs)(hm:∀i T us,k<=i->Q i T us->Q' (i+1) T us) :
  RowsD d (fun b=>P b\/S b) Q' (n+1) (rows.take k++vs :: rows.drop k):=by
 obtain⟨h1,T,h2,h3,h4⟩:=h;have hkl:(rows.take k).length=k:=by rw [List.length_take,h1,Nat.min_eq_left hk]
 refine⟨by rw [List.length_append,hkl,List.length_cons,List.length_drop,h1];omega,fun i=>if i<k then T i else if i=k then S else T (i - 1),fun i us hi=>?_,fun i b hi=>?_,fun i j b hi hj=>?_⟩
 ·rcases Nat.lt_trichotomy i k with hik | hik | hik
  ·rw [List.getElem?_append_left (by omega),List.getElem?_take_of_lt hik] at hi
   simp only [if_pos hik];exact⟨(h2 i us hi).1,ho i _ us hik (h2 i us hi).2⟩
  ·subst hik
   rw [List.getElem?_append_right (by omega),hkl,Nat.sub_self,List.getElem?_cons_zero] at hi;cases hi
   simp only [Nat.lt_irrefl,if_false,if_true];exact⟨hvl,hn⟩
  ·obtain⟨j,rfl⟩:∃j,i=j+1:=⟨i - 1,by omega⟩
   rw [List.getElem?_append_right (by omega),hkl,show j+1 - k=(j - k)+1 by omega,List.getElem?_cons_succ,List.getElem?_drop,show k+(j - k)=j by omega] at hi;simp only [if_neg (show ¬(j+1<k) by omega),if_neg (show ¬(j+1=k) by omega),Nat.add_sub_cancel];exact⟨(h2 j us hi).1,hm j _ us (by omega) (h2 j us hi).2⟩
 ·simp only at hi
  split at hi
  ·exact .inl (h3 _ _ hi)
  ·split at hi
   ·exact .inr hi
   ·exact .inl (h3 _ _ hi)
 ·simp only at hi hj
  split at hi
  ·split at hj
   ·exact h4 _ _ _ hi hj
   ·split at hj
    ·exact absurd (h3 _ _ hi) (hPS b hj)
    ·have:=h4 _ _ _ hi hj
     omega
  ·split at hi
   ·split at hj
    ·exact absurd (h3 _ _ hj) (hPS b hi)
    ·split at hj
     ·omega
     ·exact absurd (h3 _ _ hj) (hPS b hi)
   ·split at hj
    ·have:=h4 _ _ _ hi hj
     omega
    ·split at hj
     ·exact absurd (h3 _ _ hi) (hPS b hj)
     ·have:=h4 _ _ _ hi hj
      omega
theorem RowsD.del {d:Nat}{P:Nat->Prop}{Q Q':Nat->(Nat->Prop)->List Value->Prop}{n k:Nat}{rows:List (List Value)}(h:RowsD d P Q (n+1) rows)(hk:k<=n)(ho:∀i T us,i<k->Q i T us->Q' i T us)(hm:∀i T us,k<=i->Q (i+1) T us->Q' i T us) :
  RowsD d P Q' n (rows.take k++rows.drop (k+1)):=by
 obtain⟨h1,T,h2,h3,h4⟩:=h;have hkl:(rows.take k).length=k:=by rw [List.length_take,h1];omega
 refine⟨by rw [List.length_append,hkl,List.length_drop,h1];omega,fun i=>if i<k then T i else T (i+1),fun i us hi=>?_,fun i b hi=>?_,fun i j b hi hj=>?_⟩
 ·rcases Nat.lt_or_ge i k with hik | hik
  ·rw [List.getElem?_append_left (by omega),List.getElem?_take_of_lt hik] at hi
   simp only [if_pos hik];exact⟨(h2 i us hi).1,ho i _ us hik (h2 i us hi).2⟩
  ·rw [List.getElem?_append_right (by omega),hkl,List.getElem?_drop,show k+1+(i - k)=i+1 by omega] at hi
   simp only [if_neg (show ¬(i<k) by omega)];exact⟨(h2 _ us hi).1,hm i _ us hik (h2 _ us hi).2⟩
 ·simp only at hi
  split at hi<;>exact h3 _ _ hi
 ·simp only at hi hj
  split at hi
  ·split at hj
   ·exact h4 _ _ _ hi hj
   ·have:=h4 _ _ _ hi hj
    omega
  ·split at hj
   ·have:=h4 _ _ _ hi hj
    omega
   ·have:=h4 _ _ _ hi hj
    omega
def OwnD (n0:Nat)(P:Nat->Prop)(f:Nat)(W:World)(v:Value)(F:List V):Prop:=∃rows:List (List Value),W.ownsRow n0 57 7 v F.length rows.flatten/\RowsD 7 P (QE f W F) F.length rows/\∀b,P b->n0<=b/\b<W.heap.size/\some b≠v.ownBlock
theorem OwnD.nil (n0 f:Nat)(W:World):OwnD n0 (fun _=>False) f W (.slice none 0 0) []:=⟨[],World.ownsRow_nil _ _ _ _,⟨rfl,fun _ _=>False,fun i us h=>by simp at h,fun _ _ h=>h,fun _ _ _ h=>h.elim⟩,fun _ h=>h.elim⟩
theorem OwnD.still {n0 f:Nat}{P:Nat->Prop}{W W':World}{v:Value}{F:List V}(h:OwnD n0 P f W v F)(hb:Below W.heap.size W W'):OwnD n0 P f W' v F:=by
 obtain⟨rows,ho,hr,hP⟩:=h;refine⟨rows,qA ho (fun g hg=>hb.block g (ho.lt g hg).2),hr.kept (fun _ h=>h) (QE.same fun b _ hlt=>hb.block b hlt),fun b h=>⟨(hP b h).1,Nat.lt_of_lt_of_le (hP b h).2.1 hb.size,(hP b h).2.2⟩⟩
theorem OwnD.put {n0 f k:Nat}{P S:Nat->Prop}{W w1:World}{v v':Value}{F:List V}{rows:List (List Value)}{key:ByteArray}{xs:List Value}{y:V}(hr:RowsD 7 P (QE f W F) F.length rows)(hP:∀b,P b->n0<=b/\b<W.heap.size/\some b≠v.ownBlock)(hl:LiesD f S W xs y)(hS:∀b,S b->(n0<=b/\b<W.heap.size/\some b≠v.ownBlock)/\¬P b)(hk:key.size<=maxLen)(hkn:k<=F.length)
  (ho:w1.ownsRow n0 57 7 v' (F.length+1) ((rows.take k).flatten++((.string key :: xs)++(rows.drop k).flatten))) (hg:W.grownBy w1 v.ownBlock) (hat:v'.ownBlock=v.ownBlock\/v'.ownBlock=some W.heap.size):OwnD n0 (fun b=>P b\/S b) f w1 v' (F.take k++ent key.data.toList y :: F.drop k):=by
 have hPS:∀b,P b\/S b->n0<=b/\b<W.heap.size/\some b≠v.ownBlock:=fun b hb=>hb.elim (hP b) (fun h=>(hS b h).1)
 have el:(F.take k++ent key.data.toList y :: F.drop k).length=F.length+1:=by simp;omega
 have hkl:(F.take k).length=k:=by rw [List.length_take,Nat.min_eq_left hkn]
 have blk:∀b,P b\/S b->b<W.heap.size->w1.heap[b]?=W.heap[b]?:=fun b hb hlt=>hg.block b hlt (hPS b hb).2.2
 refine⟨rows.take k++(.string key :: xs) :: rows.drop k,?_,?_,fun b hb=>⟨(hPS b hb).1,Nat.lt_of_lt_of_le (hPS b hb).2.1 hg.size,fun e=>?_⟩⟩
 ·rw [el]
  simpa using ho
 ·rw [el]
  refine(hr.ins (Q':=QE f W (F.take k++ent key.data.toList y :: F.drop k)) hkn (by simp [hl.len]) (fun b h=>(hS b h).2) ?_ ?_ ?_).kept (fun _ h=>h) (QE.same blk)
  ·rintro i T us hi ⟨ky,z,zs,a,c⟩
   exact⟨ky,z,zs,by rw [List.getElem?_append_left (by omega),List.getElem?_take_of_lt hi];exact a,c⟩
  ·exact⟨key,y,xs,by rw [List.getElem?_append_right (by omega),hkl,Nat.sub_self];rfl,rfl,hk,hl⟩
  ·rintro i T us hi ⟨ky,z,zs,a,c⟩
   exact⟨ky,z,zs,by rw [List.getElem?_append_right (by omega),hkl,show i+1 - k=(i - k)+1 by omega,List.getElem?_cons_succ,List.getElem?_drop,show k+(i - k)=i by omega];exact a,c⟩
 ·rcases hat with h | h
  ·exact(hPS b hb).2.2 (e.trans h)
  ·have:=e.trans h
   injection this with this;have:=(hPS b hb).2.1;omega
theorem OwnD.row {n0 f:Nat}{P:Nat->Prop}{W:World}{v:Value}{F:List V}(h:OwnD n0 P f W v F):RowD 7 57 W v F.length (fun b=>n0<=b/\b<W.heap.size) (QE f W F):=by
 obtain⟨rows,ho,hr,hP⟩:=h;exact RowD.of ho hr (fun b hb=>⟨⟨(hP b hb).1,(hP b hb).2.1⟩,(hP b hb).2.2⟩) (fun g hg=>ho.lt g hg)
open Go.RowKit Go.Shelf
theorem RowD.at {d ty:Nat}{W:World}{v:Value}{n:Nat}{S:Nat->Prop}{Q:Nat->(Nat->Prop)->List Value->Prop}(h:RowD d ty W v n S Q){j:Nat}(hj:j<n):∃(G cap:Nat) (cur:Array Value) (us:List Value) (T0:Nat->Prop),v=.slice (some ⟨G,0,none⟩) n cap/\W.heap[G]?=some (.cells cur ty (0,0))/\S G/\us.length=d/\(∀r,r<d->cur[j*d+r]?=us[r]?)/\Q j T0 us/\(∀b,T0 b->S b)/\¬T0 G/\
  ∀(W':World) (cur':Array Value) (us':List Value) (S':Nat->Prop) (Q':Nat->(Nat->Prop)->List Value->Prop),us'.length=d->W'.heap[G]?=some (.cells cur' ty (0,0))->cur'.size=cur.size->(∀r,r<d->cur'[j*d+r]?=us'[r]?)->(∀i,i<j*d\/j*d+d<=i->cur'[i]?=cur[i]?)->(∀b,S' b->¬S b\/T0 b)->Q' j S' us'->(∀i T us,i≠j->i<n->(∀b,T b->S b/\¬T0 b/\b≠G)->Q i T us->Q' i T us)->RowD d ty W' v n (fun b=>(S b/\¬T0 b)\/S' b) Q':=by
 obtain⟨rows,T,h0,h2,h3,h4,h5,h6⟩:=h;obtain⟨_,h1⟩:=h0
 rcases h1 with ⟨_,e⟩ | ⟨G,cap,cur,rfl,_,hg,h7,h8,h9,h10⟩
 ·omega
 have hcell:∀i us,rows[i]?=some us->∀r,r<d->cur[i*d+r]?=us[r]?:=fun i us hi r hr=>by
  have hin:i<n:=by rw [<-h2];exact(List.getElem?_eq_some_iff.1 hi).1
  have e:=ZK (fun i us hi=>(h3 i us hi).1) hi hr
  have hlt2:i*d+r<n*d:=by
   have:=Nat.mul_le_mul_right d (show i+1<=n from hin);rw [Nat.add_mul] at this;omega
  rw [<-h10,List.getElem?_take_of_lt hlt2,Array.getElem?_toList] at e;exact e
 obtain⟨us,hus⟩:∃us,rows[j]?=some us:=⟨_,List.getElem?_eq_getElem (by rw [h2];exact hj)⟩
 obtain⟨u1,u2⟩:=h3 j us hus;refine⟨G,cap,cur,us,T j,rfl,hg,(h4 G rfl).1,u1,hcell j us hus,u2,h5 j,(h4 G rfl).2 j,?_⟩;intro W' cur' us' S' Q' k1 k2 k3 k4 k5 k6 k7 k8;have hnd:n*d<=cur'.toList.length:=by rw [Array.length_toList,k3,h9];exact Nat.mul_le_mul_right d h7
 obtain⟨rows',r1,r2,r3⟩:=Qo (d:=d) cur'.toList n hnd;have hTj:∀i b,i≠j->T i b->S b/\¬T j b/\b≠G:=fun i b hi hb=>⟨h5 i b hb,fun hx=>hi (h6 i j b hb hx),fun e=>(h4 G rfl).2 i (by rw [<-e];exact hb)⟩
 refine⟨rows',fun i=>if i=j then S' else T i,⟨?_,.inr ⟨G,cap,cur',rfl,Nat.zero_le _,k2,h7,h8,by rw [k3];exact h9,r2.symm⟩⟩,r1,fun i vs hi=>?_,fun g hg=>?_,fun i b hb=>?_,fun i l b hi hl=>?_⟩
 ·rw [r2,List.length_take,Nat.min_eq_left hnd]
 ·have hin:i<n:=by rw [<-r1];exact(List.getElem?_eq_some_iff.1 hi).1
  have hj2:=Nat.mul_le_mul_right d (show i+1<=n from hin);rw [Nat.add_mul] at hj2;have e:=r3 i vs hi;have hl:vs.length=d:=by rw [e,List.length_take,List.length_drop];omega
  have hv:∀r,r<d->cur'[i*d+r]?=vs[r]?:=fun r hr=>by rw [e,List.getElem?_take_of_lt hr,List.getElem?_drop,Array.getElem?_toList]
  refine⟨hl,?_⟩
  by_cases hij:i=j
  ·subst hij
   have:vs=us':=List.ext_getElem? fun r=>by
    by_cases hr:r<d
    ·rw [<-hv r hr,k4 r hr]
    ·rw [List.getElem?_eq_none (by omega),List.getElem?_eq_none (by omega)]
   rw [this];simp only [if_true];exact k7
  ·obtain⟨zs,hzs⟩:∃zs,rows[i]?=some zs:=⟨_,List.getElem?_eq_getElem (by rw [h2];exact hin)⟩
   obtain⟨z1,z2⟩:=h3 i zs hzs
   have:vs=zs:=List.ext_getElem? fun r=>by
    by_cases hr:r<d
    ·rw [<-hv r hr,<-hcell i zs hzs r hr]
     refine k5 _ ?_
     rcases Nat.lt_or_gt_of_ne hij with hlt | hgt
     ·have:=Nat.mul_le_mul_right d (show i+1<=j from hlt)
      rw [Nat.add_mul] at this;exact .inl (by omega)
     ·have:=Nat.mul_le_mul_right d (show j+1<=i from hgt)
      rw [Nat.add_mul] at this;exact .inr (by omega)
    ·rw [List.getElem?_eq_none (by omega),List.getElem?_eq_none (by omega)]
   rw [this];simp only [if_neg hij];exact k8 i (T i) zs hij hin (fun b hb=>hTj i b hij hb) z2
 ·have:G=g:=by simpa [Value.ownBlock] using hg
  subst this;refine⟨.inl ⟨(h4 G rfl).1,(h4 G rfl).2 j⟩,fun i hi=>?_⟩;simp only at hi;split at hi
  ·exact(k6 G hi).elim (fun h=>h (h4 G rfl).1) ((h4 G rfl).2 j)
  ·exact(h4 G rfl).2 i hi
 ·simp only at hb
  split at hb
  ·exact .inr hb
  ·rename_i hij
   exact .inl ⟨h5 i b hb,(hTj i b hij hb).2.1⟩
 ·simp only at hi hl
  split at hi
  ·split at hl
   ·omega
   ·rename_i hlj
    have:=hTj l b hlj hl;exact((k6 b hi).elim (fun h=>h this.1) this.2.1).elim
  ·rename_i hij
   split at hl
   ·have:=hTj i b hij hi
    exact((k6 b hl).elim (fun h=>h this.1) this.2.1).elim
   ·exact h6 i l b hi hl
def jbU (W W':World)(B o:Nat)(us':List Value):Prop:=∃cur cur' ty,W.heap[B]?=some (.cells cur ty (0,0))/\W'.heap[B]?=some (.cells cur' ty (0,0))/\cur'.size=cur.size/\(∀i,i<us'.length->cur'[o+i]?=us'[i]?)/\∀i,i<o\/o+us'.length<=i->cur'[i]?=cur[i]?
def RootD (n0 R:Nat)(W:World)(t:V):Prop:=∃(f:Nat) (S:Nat->Prop) (x0 x1 x2 x3 x4 x5:Value),Blk W R #[x0,x1,x2,x3,x4,x5] 26/\LiesD f S W [x0,x1,x2,x3,x4,x5] t/\n0<=R/\∀b,S b->n0<=b/\b<W.heap.size/\b≠R
def Here (n0:Nat)(W:World)(B o:Nat)(S:Nat->Prop)(f:Nat)(t:V):Prop:=∃(us:List Value) (cur:Array Value) (ty:Nat),W.heap[B]?=some (.cells cur ty (0,0))/\us.length=6/\(∀i,i<6->cur[o+i]?=us[i]?)/\LiesD f S W us t/\n0<=B/\¬S B/\∀b,S b->n0<=b/\b<W.heap.size
def XC (W W':World)(B o:Nat)(S:Nat->Prop)(t':V):Prop:=∃(f:Nat) (S':Nat->Prop) (us':List Value),us'.length=6/\jbU W W' B o us'/\LiesD f S' W' us' t'/\∀b,S' b->(S b\/W.heap.size<=b)/\b<W'.heap.size
def Hole (n0 R:Nat)(W:World)(B o:Nat)(S:Nat->Prop)(C:V->V):Prop:=∀(W':World) (t':V),Turns (fun b=>b=B\/S b) W W'->XC W W' B o S t'->RootD n0 R W' (C t')
theorem RootD.here {n0 R:Nat}{W:World}{t:V}(h:RootD n0 R W t):∃f S,Here n0 W R 0 S f t/\Hole n0 R W R 0 S (fun z=>z):=by
 obtain⟨f,S,x0,x1,x2,x3,x4,x5,hB,hl,hR,hS⟩:=h;have hlt:=hB.lt;refine⟨f,S,⟨_,_,_,hB,rfl,fun i hi=>?_,hl,hR,fun h=>(hS R h).2.2 rfl,fun b h=>⟨(hS b h).1,(hS b h).2.1⟩⟩,?_⟩
 ·rw [Nat.zero_add]
  match i,hi with
  | 0,_=>rfl
  | 1,_=>rfl
  | 2,_=>rfl
  | 3,_=>rfl
  | 4,_=>rfl
  | 5,_=>rfl
 ·rintro W' t' hT ⟨g,S',us',hus,⟨cur,cur',ty,k1,k2,k3,k4,k5⟩,hl',hS'⟩
  match us',hus with
  | [y0,y1,y2,y3,y4,y5],_=>
   have e:cur=#[x0,x1,x2,x3,x4,x5]/\ty=26:=by
    unfold Blk at hB;rw [hB] at k1;injection k1 with k1;injection k1 with k1 k1';exact⟨k1.symm,k1'.symm⟩
   obtain⟨rfl,rfl⟩:=e
   have ec:cur'=#[y0,y1,y2,y3,y4,y5]:=Array.ext_getElem? fun i=>by
    by_cases hi:i<6
    ·have:=k4 i hi
     rw [Nat.zero_add] at this;rw [this];simp
    ·rw [Array.getElem?_eq_none (by rw [k3];simp;omega),Array.getElem?_eq_none (by simp;omega)]
   subst ec;refine⟨g,S',y0,y1,y2,y3,y4,y5,k2,hl',hR,fun b hb=>?_⟩;obtain⟨h1,h2⟩:=hS' b hb
   rcases h1 with h1 | h1
   ·exact⟨(hS b h1).1,h2,(hS b h1).2.2⟩
   ·exact⟨by omega,h2,by omega⟩
theorem RootD.below {n0 R:Nat}{W W':World}{t:V}(h:RootD n0 R W t)(hb:Below W.heap.size W W'):RootD n0 R W' t:=by
 obtain⟨f,S,x0,x1,x2,x3,x4,x5,hB,hl,hR,hS⟩:=h;exact⟨f,S,x0,x1,x2,x3,x4,x5,hB.below hb,hl.same (fun b _ hlt=>hb.block b hlt),hR,fun b h=>⟨(hS b h).1,Nat.lt_of_lt_of_le (hS b h).2.1 hb.size,(hS b h).2.2⟩⟩
theorem Here.below {n0 B o f:Nat}{S:Nat->Prop}{W W':World}{t:V}(h:Here n0 W B o S f t)(hb:Below W.heap.size W W'):Here n0 W' B o S f t:=by
 obtain⟨us,cur,ty,h1,h2,h3,h4,h5,h6,h7⟩:=h;exact⟨us,cur,ty,(hb.block B (Array.getElem?_eq_some_iff.1 h1).1).trans h1,h2,h3,h4.same (fun b _ hlt=>hb.block b hlt),h5,h6,fun b h=>⟨(h7 b h).1,Nat.lt_of_lt_of_le (h7 b h).2 hb.size⟩⟩
theorem Hole.below {n0 R B o:Nat}{S:Nat->Prop}{C:V->V}{W W':World}(h:Hole n0 R W B o S C)(hb:Below W.heap.size W W')(hB:B<W.heap.size):Hole n0 R W' B o S C:=by
 rintro W2 t' hT ⟨g,S',us',hus,⟨cur,cur',ty,k1,k2,k3⟩,hl',hS'⟩
 refine h W2 t' ((Turns.of_below (M:=fun b=>(b=B\/S b)\/W.heap.size<=b) hb (fun b h=>.inr h)).trans hT (fun b _ h=>.inl h) |>.mono (fun b hlt h=>h.elim id (fun h=>by omega))) ⟨g,S',us',hus,⟨cur,cur',ty,(hb.block B hB).symm.trans k1,k2,k3⟩,hl',fun b hb'=>?_⟩;obtain⟨h1,h2⟩:=hS' b hb';have:=hb.size;exact⟨h1.imp id (fun h=>by omega),h2⟩
theorem Here.elem {n0 R B o f j:Nat}{W:World}{S:Nat->Prop}{t y:V}{C:V->V}(h:Here n0 W B o S f t)(hH:Hole n0 R W B o S C)(hj:(opn t).2.1[j]?=some y) :
  ∃B2 c f2 S2,W.cell? ⟨B,o+4,none⟩=some (.slice (some ⟨B2,0,none⟩) (opn t).2.1.length c)/\Here n0 W B2 (j*6) S2 f2 y/\Hole n0 R W B2 (j*6) S2 (fun z=>C (mkV (opn t).1 ((opn t).2.1.set j z) (opn t).2.2)):=by
 obtain⟨us,cur,ty,g1,g2,g3,hl,g5,g6,g7⟩:=h;cases f with
 | zero=>exact hl.elim
 | succ f=>
  obtain⟨k,n,b,s,L,E,vL,vE,SL,SE,rfl,rfl,h3,h4,h5,h6,h7⟩:=hl;rw [jQ] at hj ⊢;have hjl:j<L.length:=(List.getElem?_eq_some_iff.1 hj).1;obtain⟨G,cap,cur2,us2,T0,rfl,k1,k2,k3,k4,⟨y',e,hly⟩,k6,k7,k8⟩:=h4.at hjl
  dsimp only at hj
  rw [hj] at e;cases e
  have hSG:S G:=h7 G (.inl k2);have hT0S:∀b,T0 b->S b:=fun b h=>h7 b (.inl (k6 b h))
  have hGlt:=(g7 G hSG).2;refine⟨G,cap,f,T0,?_,⟨us2,cur2,_,k1,k3,k4,hly,(g7 G hSG).1,k7,fun b h=>g7 b (hT0S b h)⟩,?_⟩
  ·have:=g3 4 (by omega)
   simp only [World.cell?,g1];exact this
  ·rintro W' t' hT ⟨f3,S',us',hus,⟨cur3,cur',ty',m1,m2,m3,m4,m5⟩,hl',hS'⟩
   rw [k1] at m1;cases m1
   rw [hus] at m4 m5;have hBG:B≠G:=fun e=>g6 (by rw [e];exact hSG)
   have hBlt:=(Array.getElem?_eq_some_iff.1 g1).1;have hB':W'.heap[B]?=W.heap[B]?:=hT.block B hBlt (fun h=>h.elim hBG (fun h=>g6 (hT0S B h)))
   refine hH W' _ (hT.mono fun b _ h=>.inr (h.elim (fun e=>by rw [e];exact hSG) (hT0S b))) ⟨(max f f3)+1,fun b=>((SL b/\¬T0 b)\/S' b)\/SE b,[.int .i64 k,.int .i64 n,.int .u64 (b:Int),.string s,.slice (some ⟨G,0,none⟩) L.length cap,vE],rfl,⟨cur,cur,ty,g1,hB'.trans g1,rfl,g3,fun _ _=>rfl⟩,?_,fun b hb=>?_⟩
   ·refine⟨k,n,b,s,L.set j t',E,_,vE,fun b=>(SL b/\¬T0 b)\/S' b,SE,rfl,rfl,h3,?_,?_,fun b hb hE=>?_,fun b h=>h⟩
    ·rw [List.length_set]
     refine k8 W' cur' us' S' _ hus m2 m3 m4 m5 (fun b hb=>?_) ⟨t',by rw [List.getElem?_set_self hjl],hl'.to (Nat.le_max_right _ _)⟩ ?_
     ·rcases(hS' b hb).1 with h | h
      ·exact .inr h
      ·exact .inl fun hx=>by have:=(g7 b (h7 b (.inl hx))).2;omega
     ·rintro i T us hij hin hTb ⟨z,a,c⟩
      refine⟨z,by rw [List.getElem?_set_ne (fun e=>hij e.symm)];exact a,(c.same fun b hb hlt=>hT.block b hlt (fun hx=>?_)).to (Nat.le_max_left _ _)⟩;obtain⟨_,q2,q3⟩:=hTb b hb;exact hx.elim q3 q2
    ·refine h5.kept (fun _ h=>h) (fun b hb hlt=>hT.block b hlt (fun hx=>?_)) ?_
     ·rcases hx with rfl | hx
      ·exact h6 _ k2 hb
      ·exact h6 b (k6 b hx) hb
     ·rintro i T us _ hTb ⟨key,z,xs,a,c,e,g⟩
      refine⟨key,z,xs,a,c,e,(g.same fun b hb hlt=>hT.block b hlt (fun hx=>?_)).to (Nat.le_max_left _ _)⟩
      rcases hx with rfl | hx
      ·exact h6 _ k2 (hTb _ hb)
      ·exact h6 b (k6 b hx) (hTb b hb)
    ·rcases hb with hb | hb
     ·exact h6 b hb.1 hE
     ·rcases(hS' b hb).1 with h | h
      ·exact h6 b (k6 b h) hE
      ·have:=(g7 b (h7 b (.inr hE))).2
       omega
   ·have hsz:=hT.size
    rcases hb with (hb | hb) | hb
    ·have:=h7 b (.inl hb.1)
     exact⟨.inl this,Nat.lt_of_lt_of_le (g7 b this).2 hsz⟩
    ·exact⟨(hS' b hb).1.imp (hT0S b) id,(hS' b hb).2⟩
    ·have:=h7 b (.inr hb)
     exact⟨.inl this,Nat.lt_of_lt_of_le (g7 b this).2 hsz⟩
theorem Here.entry {n0 R B o f j:Nat}{W:World}{S:Nat->Prop}{t y:V}{ky:List UInt8}{C:V->V}(h:Here n0 W B o S f t)(hH:Hole n0 R W B o S C)(hj:(opn t).2.2[j]?=some (ent ky y)) :
  ∃B2 c f2 S2,W.cell? ⟨B,o+5,none⟩=some (.slice (some ⟨B2,0,none⟩) (opn t).2.2.length c)/\Here n0 W B2 (j*7+1) S2 f2 y/\Hole n0 R W B2 (j*7+1) S2 (fun z=>C (mkV (opn t).1 (opn t).2.1 ((opn t).2.2.set j (ent ky z)))):=by
 obtain⟨us,cur,ty,g1,g2,g3,hl,g5,g6,g7⟩:=h;cases f with
 | zero=>exact hl.elim
 | succ f=>
  obtain⟨k,n,b,s,L,E,vL,vE,SL,SE,rfl,rfl,h3,h4,h5,h6,h7⟩:=hl;rw [jQ] at hj ⊢;have hjl:j<E.length:=(List.getElem?_eq_some_iff.1 hj).1;obtain⟨G,cap,cur2,us2,T0,rfl,k1,k2,k3,k4,⟨key,y',xs,e,rfl,hks,hly⟩,k6,k7,k8⟩:=h5.at hjl
  dsimp only at hj
  rw [hj] at e;injection e with e;obtain⟨rfl,rfl⟩:=ZY e;have hSG:S G:=h7 G (.inr k2);have hT0S:∀b,T0 b->S b:=fun b h=>h7 b (.inr (k6 b h))
  have hGlt:=(g7 G hSG).2;refine⟨G,cap,f,T0,?_,⟨xs,cur2,_,k1,hly.len,fun i hi=>?_,hly,(g7 G hSG).1,k7,fun b h=>g7 b (hT0S b h)⟩,?_⟩
  ·have:=g3 5 (by omega)
   simp only [World.cell?,g1];exact this
  ·have:=k4 (i+1) (by omega)
   rw [List.getElem?_cons_succ] at this;rw [<-this]
   congr 1
   omega
  ·rintro W' t' hT ⟨f3,S',us',hus,⟨cur3,cur',ty',m1,m2,m3,m4,m5⟩,hl',hS'⟩
   rw [k1] at m1;cases m1
   rw [hus] at m4 m5;have hBG:B≠G:=fun e=>g6 (by rw [e];exact hSG)
   have hBlt:=(Array.getElem?_eq_some_iff.1 g1).1;have hB':W'.heap[B]?=W.heap[B]?:=hT.block B hBlt (fun h=>h.elim hBG (fun h=>g6 (hT0S B h)))
   refine hH W' _ (hT.mono fun b _ h=>.inr (h.elim (fun e=>by rw [e];exact hSG) (hT0S b))) ⟨(max f f3)+1,fun b=>SL b\/((SE b/\¬T0 b)\/S' b),[.int .i64 k,.int .i64 n,.int .u64 (b:Int),.string s,vL,.slice (some ⟨G,0,none⟩) E.length cap],rfl,⟨cur,cur,ty,g1,hB'.trans g1,rfl,g3,fun _ _=>rfl⟩,?_,fun b hb=>?_⟩
   ·refine⟨k,n,b,s,L,E.set j (ent key.data.toList t'),vL,_,SL,fun b=>(SE b/\¬T0 b)\/S' b,rfl,rfl,h3,?_,?_,fun b hL hb=>?_,fun b h=>h⟩
    ·refine h4.kept (fun _ h=>h) (fun b hb hlt=>hT.block b hlt (fun hx=>?_)) ?_
     ·rcases hx with rfl | hx
      ·exact h6 _ hb k2
      ·exact h6 b hb (k6 b hx)
     ·rintro i T us _ hTb ⟨z,a,c⟩
      refine⟨z,a,(c.same fun b hb hlt=>hT.block b hlt (fun hx=>?_)).to (Nat.le_max_left _ _)⟩
      rcases hx with rfl | hx
      ·exact h6 _ (hTb _ hb) k2
      ·exact h6 b (hTb b hb) (k6 b hx)
    ·rw [List.length_set]
     refine k8 W' cur' (.string key :: us') S' _ (by simp [hus]) m2 m3 (fun r hr=>?_) (fun i hi=>m5 i (by omega)) (fun b hb=>?_) ⟨key,t',us',by rw [List.getElem?_set_self hjl],rfl,hks,hl'.to (Nat.le_max_right _ _)⟩ ?_
     ·cases r with
      | zero=>
       rw [m5 _ (by omega),k4 0 (by omega)];rfl
      | succ r=>
       rw [List.getElem?_cons_succ,<-m4 r (by omega)]
       congr 1
       omega
     ·rcases(hS' b hb).1 with h | h
      ·exact .inr h
      ·exact .inl fun hx=>by have:=(g7 b (h7 b (.inr hx))).2;omega
     ·rintro i T us hij hin hTb ⟨ky,z,zs,a,c,e,g⟩
      refine⟨ky,z,zs,by rw [List.getElem?_set_ne (fun e=>hij e.symm)];exact a,c,e,(g.same fun b hb hlt=>hT.block b hlt (fun hx=>?_)).to (Nat.le_max_left _ _)⟩;obtain⟨_,q2,q3⟩:=hTb b hb;exact hx.elim q3 q2
    ·rcases hb with hb | hb
     ·exact h6 b hL hb.1
     ·rcases(hS' b hb).1 with h | h
      ·exact h6 b hL (k6 b h)
      ·have:=(g7 b (h7 b (.inl hL))).2
       omega
   ·have hsz:=hT.size
    rcases hb with hb | (hb | hb)
    ·have:=h7 b (.inl hb)
     exact⟨.inl this,Nat.lt_of_lt_of_le (g7 b this).2 hsz⟩
    ·have:=h7 b (.inr hb.1)
     exact⟨.inl this,Nat.lt_of_lt_of_le (g7 b this).2 hsz⟩
    ·exact⟨(hS' b hb).1.imp (hT0S b) id,(hS' b hb).2⟩
end valus
end Go.Proofs.YtadaehaemmelfaaDoor
