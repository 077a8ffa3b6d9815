/- Of our texts, what this claim reaches. -/
import Derived.Test.YtadaehaemmelfaaDoorPubAG
import Derived.Test.YtadaehaemmelfaaDoorPubAB
import Derived.Maps.OwnIn
set_option linter.unusedVariables false
set_option maxHeartbeats 4000000
set_option maxRecDepth 100000
namespace Go.Proofs.YtadaehaemmelfaaDoor
namespace valus
open Go.RowKit Go.Shelf
def Free (W:World)(b:Nat):Prop:=∀i,W.frozen? ⟨b,i,none⟩=false
theorem Free.set {W:World}{b:Nat}(h:Free W b)(p:Addr)(v:Value):Free (W.setCell p v) b:=fun i=>by
 rw [World.frozen?_setCell];exact h i
theorem Free.same {W W':World}{b:Nat}(h:Free W b)(hb:W'.heap[b]?=W.heap[b]?):Free W' b:=fun i=>by
 rw [World.frozen?_of_block (w:=W) (w':=W') (a:=⟨b,i,none⟩) hb];exact h i
theorem Yt {P:Program}(T ty e:TypeId)(inf:TypeInfo)(z:Value)(d bytes:Nat)(ht:P.underlying T=some (.slice e))(hi:P.info? e=some inf)(hz:inf.zero=some z)(hsize:inf.size=d)(hby:inf.bytes=bytes)(hzs:z.cells.size=d)(hd:0<d)(hd7:bytes<=200)
  {W:World} {p:Option Addr} {n c:Nat} (hn:n<=10000000)
  (hrow:n≠0->∃b q,p=some ⟨b,q,none⟩/\∀i,i<n*d->∃u,W.cell? ⟨b,q+i,none⟩=some u/\u.oneCell'=true) :
  ∃p' c' W1,(Builtin.append_ #[T,T] ty #[.slice none 0 0,.slice p n c]).run P W=.ok (.slice p' n c') W1/\W.grownBy W1 none/\n<=c'/\c'<=maxLen/\
   (n≠0->p'=some ⟨W.heap.size,0,none⟩/\W.heap.size<W1.heap.size/\Free W1 W.heap.size/\∃b q,p=some ⟨b,q,none⟩/\∀i,i<n*d->W1.cell? ⟨W.heap.size,0+i,none⟩=W.cell? ⟨b,q+i,none⟩):=by
 by_cases h0:n=0
 ·subst h0
  refine⟨none,0,W,?_,⟨rfl,rfl,rfl,Nat.le_refl _,fun _ _ _=>rfl⟩,Nat.le_refl _,Nat.zero_le _,fun h=>absurd rfl h⟩;cases p<;>simp [Builtin.append_,run_underlying ht,sizeOf,typeInfo,hi,Builtin.lenOf,Builtin.firstCells,loadCells,loadCellsFrom]
 ·obtain⟨b,q,rfl,hc⟩:=hrow h0
  obtain⟨v',W1,hr,h2,h3,h4,h5⟩:=run_append_own_at (P:=P) W 0 T ty e inf z d bytes ht hi hz hsize hby hzs hd (.slice none 0 0) 0 [] (World.ownsRow_nil _ _ _ _) ⟨b,q,none⟩ n c
   ((List.range (n*d)).map fun i=>(W.cell? ⟨b,q+i,none⟩).getD undef) (by simp)
   (fun j u h=>by
    rw [List.getElem?_map] at h
    by_cases hj:j<n*d
    ·rw [List.getElem?_range hj] at h
     obtain⟨u',hu,_⟩:=hc j hj;simp only [Option.map_some,Option.some.injEq,hu,Option.getD_some] at h;rw [<-h];rw [Addr.add_lit];exact hu
    ·rw [List.getElem?_eq_none (by simp;omega)] at h
     cases h)
   (fun u h=>by
    obtain⟨j,hj,e⟩:=List.mem_map.1 h;obtain⟨u',hu,h1⟩:=hc j (List.mem_range.1 hj);rw [hu] at e;rw [<-e];exact h1) (by unfold maxLen;omega) (by rw [Nat.zero_add];have:=Nat.mul_le_mul hn hd7;omega) (Nat.zero_le _)
  rw [Nat.zero_add,List.nil_append] at h2;obtain⟨hl,hh⟩:=h2
  rcases hh with ⟨_,h⟩ | ⟨g,cap,cur,rfl,_,hg,k1,k2,k3,k4⟩
  ·exact absurd h h0
  ·have hgs:g=W.heap.size:=by
    rcases h5 with h | h
    ·cases h
    ·simpa [Value.ownBlock] using h
   subst hgs;refine⟨_,cap,W1,hr,h3,k1,k2,fun _=>⟨rfl,(Array.getElem?_eq_some_iff.1 hg).1,fun i=>by simp [World.frozen?,hg],b,q,rfl,fun i hi=>?_⟩⟩;obtain⟨u,hu,_⟩:=hc i hi
   have e1:cur.toList[i]?=some u:=by
    have e2:(cur.toList.take (n*d))[i]?=some u:=by
     rw [k4,List.getElem?_map,List.getElem?_range hi];simp [hu]
    rwa [List.getElem?_take_of_lt hi] at e2
   rw [hu,Nat.zero_add];rw [Array.getElem?_toList] at e1;simp [World.cell?,hg,e1]
theorem j7 {l n:Nat}{P:Program}{ops:Array Oper}{o:Oper}{a:Act}{w w':World}{K:Act->World->Prop}{Q:Exit->Act->World->Prop}(s x:Operand)(t:TypeId)
  (ho:o.op=.call { callee:=.builtin .append,args:=#[s,x],argTypes:=#[t,t] }) (hg:o.guard=none) {v u v':Value} (hs:a.eval s=v) (hx:a.eval x=u)
  (hr:(Builtin.append_ #[t,t] o.type #[v,u]).run P w=.ok v' w') (hK:K (a.put o.dst v') w') :
  if Region.wanted o (yielded ops a.tmps)=true then Oper.wpIn (Fence.wide.inRound l) n P o a w K Q else (∀f,o.about P w a.eval=some f->(Fence.wide.inRound l).fn f)/\K (a.put o.dst undef) w:=by
 rw [if_pos (by simp [Region.wanted,hg])];unfold Oper.wpIn;refine⟨fun _ _=>trivial,?_⟩;rw [Oper.semAt_plain _ _ _ (by rw [ho];intro c hc';cases hc')];simp [execOp,ho,resolve,invoke,builtin,hs,hx,hr,Result.andThen];exact hK
open Go.RowKit Go.Shelf
attribute [local go_sem] Oper.semAt_some
theorem jbD {l:Nat}{Q:Exit->Act->World->Prop}{ops:Array Oper}{D:List Deferred}{t0 t1 t2 t4 t5 t6 t7 t8 t9 t10 t11 t12 t13 t14 t15 t16 t17 t18 t19 t20 t21 t22 t23 t24 t25 t26:Value}{W W1:World}{Bx B o n c c':Nat}{p p':Option Addr}{q0 q1 q2 q3 q4 q5 q6 q7 q8 q9 q10:String}{f0 f1 f2 f3 f4 f5 f6 f7 f8 f9 f10:_}
  (h0:ops[0]?=some { dst:=some 6,op:=.fieldAddr 77 (.tmp 3) 0,type:=0,pos:=q0,after:=f0,guard:=none })
  (h1:ops[1]?=some { dst:=some 7,op:=.load 58 (.tmp 6),type:=58,pos:=q1,after:=f1,guard:=none })
  (h2:ops[2]?=some { dst:=some 8,op:=.fieldAddr 77 (.tmp 3) 0,type:=0,pos:=q2,after:=f2,guard:=none })
  (h3:ops[3]?=some { dst:=some 9,op:=.load 58 (.tmp 8),type:=58,pos:=q3,after:=f3,guard:=none })
  (h4:ops[4]?=some { dst:=some 10,op:=.nilCheck (.tmp 9),type:=0,pos:=q4,after:=f4,guard:=none })
  (h5:ops[5]?=some { dst:=some 11,op:=.fieldAddr 26 (.tmp 10) 4,type:=0,pos:=q5,after:=f5,guard:=none })
  (h6:ops[6]?=some { dst:=some 12,op:=.load 23 (.tmp 11),type:=23,pos:=q6,after:=f6,guard:=none })
  (h7:ops[7]?=some { dst:=some 13,op:=.call { callee:=.builtin .append,args:=#[.const (.slice none 0 0),.tmp 12],argTypes:=#[23,23] },type:=23,pos:=q7,after:=f7,guard:=none })
  (h8:ops[8]?=some { dst:=some 14,op:=.nilCheck (.tmp 7),type:=0,pos:=q8,after:=f8,guard:=none })
  (h9:ops[9]?=some { dst:=some 15,op:=.fieldAddr 26 (.tmp 14) 4,type:=0,pos:=q9,after:=f9,guard:=none })
  (h10:ops[10]?=some { dst:=none,op:=.store 23 (.tmp 15) (.tmp 13),type:=0,pos:=q10,after:=f10,guard:=none })
  (r0_0:Region.ready .any ops #[false,false,false,false,false,false,false,false,false,false,false]=[0,2])
  (r0_1:Region.ready .any ops #[false,false,true,false,false,false,false,false,false,false,false]=[0,3])
  (r0_2:Region.ready .any ops #[false,false,true,true,false,false,false,false,false,false,false]=[0,4])
  (r0_3:Region.ready .any ops #[false,false,true,true,true,false,false,false,false,false,false]=[0,5])
  (r0_4:Region.ready .any ops #[false,false,true,true,true,true,false,false,false,false,false]=[0,6])
  (r0_5:Region.ready .any ops #[false,false,true,true,true,true,true,false,false,false,false]=[0,7])
  (r0_6:Region.ready .any ops #[false,false,true,true,true,true,true,true,false,false,false]=[0])
  (r1_0:Region.ready .any ops #[true,false,false,false,false,false,false,false,false,false,false]=[1,2])
  (r1_1:Region.ready .any ops #[true,false,true,false,false,false,false,false,false,false,false]=[1,3])
  (r1_2:Region.ready .any ops #[true,false,true,true,false,false,false,false,false,false,false]=[1,4])
  (r1_3:Region.ready .any ops #[true,false,true,true,true,false,false,false,false,false,false]=[1,5])
  (r1_4:Region.ready .any ops #[true,false,true,true,true,true,false,false,false,false,false]=[1,6])
  (r1_5:Region.ready .any ops #[true,false,true,true,true,true,true,false,false,false,false]=[1,7])
  (r1_6:Region.ready .any ops #[true,false,true,true,true,true,true,true,false,false,false]=[1])
  (r2_0:Region.ready .any ops #[true,true,false,false,false,false,false,false,false,false,false]=[2])
  (r2_1:Region.ready .any ops #[true,true,true,false,false,false,false,false,false,false,false]=[3])
  (r2_2:Region.ready .any ops #[true,true,true,true,false,false,false,false,false,false,false]=[4])
  (r2_3:Region.ready .any ops #[true,true,true,true,true,false,false,false,false,false,false]=[5])
  (r2_4:Region.ready .any ops #[true,true,true,true,true,true,false,false,false,false,false]=[6])
  (r2_5:Region.ready .any ops #[true,true,true,true,true,true,true,false,false,false,false]=[7])
  (r2_6:Region.ready .any ops #[true,true,true,true,true,true,true,true,false,false,false]=[8])
  (ra:Region.ready .any ops #[true,true,true,true,true,true,true,true,true,false,false]=[9])
  (rb:Region.ready .any ops #[true,true,true,true,true,true,true,true,true,true,false]=[10])
  (rc:Region.ready .any ops #[true,true,true,true,true,true,true,true,true,true,true]=[])
  (c0:W.cell? ⟨Bx,0,none⟩=some (.pointer (some ⟨B,o,none⟩))) (c4:W.cell? ⟨B,o+4,none⟩=some (.slice p n c)) (hrun:(Builtin.append_ #[23,23] 23 #[.slice none 0 0,.slice p n c]).run Tryd.prog W=.ok (.slice p' n c') W1)
  (d0:W1.cell? ⟨Bx,0,none⟩=some (.pointer (some ⟨B,o,none⟩))) (d4:W1.cell? ⟨B,o+4,none⟩=some (.slice p n c)) (e4:W1.frozen? ⟨B,o+4,none⟩=false)
  (hQ:Q .normal { tmps:=#[t0,t1,t2,(.pointer (some ⟨Bx,0,none⟩)),t4,t5,(.pointer (some ⟨Bx,0,none⟩)),(.pointer (some ⟨B,o,none⟩)),(.pointer (some ⟨Bx,0,none⟩)),(.pointer (some ⟨B,o,none⟩)),(.pointer (some ⟨B,o,none⟩)),(.pointer (some ⟨B,o+4,none⟩)),(.slice p n c),(.slice p' n c'),(.pointer (some ⟨B,o,none⟩)),(.pointer (some ⟨B,o+4,none⟩)),t16,t17,t18,t19,t20,t21,t22,t23,t24,t25,t26],defers:=D } (W1.setCell ⟨B,o+4,none⟩ (.slice p' n c'))) :
  wpAnyIn (Fence.wide.inRound l) 9 Tryd.prog .any ops Q 11 #[false,false,false,false,false,false,false,false,false,false,false] { tmps:=#[t0,t1,t2,(.pointer (some ⟨Bx,0,none⟩)),t4,t5,t6,t7,t8,t9,t10,t11,t12,t13,t14,t15,t16,t17,t18,t19,t20,t21,t22,t23,t24,t25,t26],defers:=D } W:=by
 have sc:wpAnyIn (Fence.wide.inRound l) 9 Tryd.prog .any ops Q 0 #[true,true,true,true,true,true,true,true,true,true,true] { tmps:=#[t0,t1,t2,(.pointer (some ⟨Bx,0,none⟩)),t4,t5,(.pointer (some ⟨Bx,0,none⟩)),(.pointer (some ⟨B,o,none⟩)),(.pointer (some ⟨Bx,0,none⟩)),(.pointer (some ⟨B,o,none⟩)),(.pointer (some ⟨B,o,none⟩)),(.pointer (some ⟨B,o+4,none⟩)),(.slice p n c),(.slice p' n c'),(.pointer (some ⟨B,o,none⟩)),(.pointer (some ⟨B,o+4,none⟩)),t16,t17,t18,t19,t20,t21,t22,t23,t24,t25,t26],defers:=D } (W1.setCell ⟨B,o+4,none⟩ (.slice p' n c')):=wpAnyIn_done rc hQ _
 have sb:wpAnyIn (Fence.wide.inRound l) 9 Tryd.prog .any ops Q 1 #[true,true,true,true,true,true,true,true,true,true,false] { tmps:=#[t0,t1,t2,(.pointer (some ⟨Bx,0,none⟩)),t4,t5,(.pointer (some ⟨Bx,0,none⟩)),(.pointer (some ⟨B,o,none⟩)),(.pointer (some ⟨Bx,0,none⟩)),(.pointer (some ⟨B,o,none⟩)),(.pointer (some ⟨B,o,none⟩)),(.pointer (some ⟨B,o+4,none⟩)),(.slice p n c),(.slice p' n c'),(.pointer (some ⟨B,o,none⟩)),(.pointer (some ⟨B,o+4,none⟩)),t16,t17,t18,t19,t20,t21,t22,t23,t24,t25,t26],defers:=D } W1:=by
  refine wpAnyIn_ready rb (by simp) (AllReadyIn.cons h10 (fun K hK=>?_) AllReadyIn.nil)
  go_simp
  exact hK _ _ sc
 have sa:wpAnyIn (Fence.wide.inRound l) 9 Tryd.prog .any ops Q 2 #[true,true,true,true,true,true,true,true,true,false,false] { tmps:=#[t0,t1,t2,(.pointer (some ⟨Bx,0,none⟩)),t4,t5,(.pointer (some ⟨Bx,0,none⟩)),(.pointer (some ⟨B,o,none⟩)),(.pointer (some ⟨Bx,0,none⟩)),(.pointer (some ⟨B,o,none⟩)),(.pointer (some ⟨B,o,none⟩)),(.pointer (some ⟨B,o+4,none⟩)),(.slice p n c),(.slice p' n c'),(.pointer (some ⟨B,o,none⟩)),t15,t16,t17,t18,t19,t20,t21,t22,t23,t24,t25,t26],defers:=D } W1:=by
  refine wpAnyIn_ready ra (by simp) (AllReadyIn.cons h9 (fun K hK=>?_) AllReadyIn.nil)
  go_simp
  exact hK _ _ sb
 have s2_6:wpAnyIn (Fence.wide.inRound l) 9 Tryd.prog .any ops Q 3 #[true,true,true,true,true,true,true,true,false,false,false] { tmps:=#[t0,t1,t2,(.pointer (some ⟨Bx,0,none⟩)),t4,t5,(.pointer (some ⟨Bx,0,none⟩)),(.pointer (some ⟨B,o,none⟩)),(.pointer (some ⟨Bx,0,none⟩)),(.pointer (some ⟨B,o,none⟩)),(.pointer (some ⟨B,o,none⟩)),(.pointer (some ⟨B,o+4,none⟩)),(.slice p n c),(.slice p' n c'),t14,t15,t16,t17,t18,t19,t20,t21,t22,t23,t24,t25,t26],defers:=D } W1:=by
  refine wpAnyIn_ready r2_6 (by simp) (AllReadyIn.cons h8 (fun K hK=>?_) AllReadyIn.nil)
  go_simp
  exact hK _ _ sa
 have s1_6:wpAnyIn (Fence.wide.inRound l) 9 Tryd.prog .any ops Q 4 #[true,false,true,true,true,true,true,true,false,false,false] { tmps:=#[t0,t1,t2,(.pointer (some ⟨Bx,0,none⟩)),t4,t5,(.pointer (some ⟨Bx,0,none⟩)),t7,(.pointer (some ⟨Bx,0,none⟩)),(.pointer (some ⟨B,o,none⟩)),(.pointer (some ⟨B,o,none⟩)),(.pointer (some ⟨B,o+4,none⟩)),(.slice p n c),(.slice p' n c'),t14,t15,t16,t17,t18,t19,t20,t21,t22,t23,t24,t25,t26],defers:=D } W1:=by
  refine wpAnyIn_ready r1_6 (by simp) ?_
  refine AllReadyIn.cons h1 (fun K hK=>?_) ?_
  ·go_simp
   exact hK _ _ s2_6
  exact AllReadyIn.nil
 have s2_5:wpAnyIn (Fence.wide.inRound l) 9 Tryd.prog .any ops Q 4 #[true,true,true,true,true,true,true,false,false,false,false] { tmps:=#[t0,t1,t2,(.pointer (some ⟨Bx,0,none⟩)),t4,t5,(.pointer (some ⟨Bx,0,none⟩)),(.pointer (some ⟨B,o,none⟩)),(.pointer (some ⟨Bx,0,none⟩)),(.pointer (some ⟨B,o,none⟩)),(.pointer (some ⟨B,o,none⟩)),(.pointer (some ⟨B,o+4,none⟩)),(.slice p n c),t13,t14,t15,t16,t17,t18,t19,t20,t21,t22,t23,t24,t25,t26],defers:=D } W:=by
  refine wpAnyIn_ready r2_5 (by simp) ?_
  refine AllReadyIn.cons h7 (fun K hK=>?_) ?_
  ·exact j7 _ _ _ rfl rfl rfl rfl hrun (hK _ _ s2_6)
  exact AllReadyIn.nil
 have s0_6:wpAnyIn (Fence.wide.inRound l) 9 Tryd.prog .any ops Q 5 #[false,false,true,true,true,true,true,true,false,false,false] { tmps:=#[t0,t1,t2,(.pointer (some ⟨Bx,0,none⟩)),t4,t5,t6,t7,(.pointer (some ⟨Bx,0,none⟩)),(.pointer (some ⟨B,o,none⟩)),(.pointer (some ⟨B,o,none⟩)),(.pointer (some ⟨B,o+4,none⟩)),(.slice p n c),(.slice p' n c'),t14,t15,t16,t17,t18,t19,t20,t21,t22,t23,t24,t25,t26],defers:=D } W1:=by
  refine wpAnyIn_ready r0_6 (by simp) ?_
  refine AllReadyIn.cons h0 (fun K hK=>?_) ?_
  ·go_simp
   exact hK _ _ s1_6
  exact AllReadyIn.nil
 have s1_5:wpAnyIn (Fence.wide.inRound l) 9 Tryd.prog .any ops Q 5 #[true,false,true,true,true,true,true,false,false,false,false] { tmps:=#[t0,t1,t2,(.pointer (some ⟨Bx,0,none⟩)),t4,t5,(.pointer (some ⟨Bx,0,none⟩)),t7,(.pointer (some ⟨Bx,0,none⟩)),(.pointer (some ⟨B,o,none⟩)),(.pointer (some ⟨B,o,none⟩)),(.pointer (some ⟨B,o+4,none⟩)),(.slice p n c),t13,t14,t15,t16,t17,t18,t19,t20,t21,t22,t23,t24,t25,t26],defers:=D } W:=by
  refine wpAnyIn_ready r1_5 (by simp) ?_
  refine AllReadyIn.cons h1 (fun K hK=>?_) ?_
  ·go_simp
   exact hK _ _ s2_5
  refine AllReadyIn.cons h7 (fun K hK=>?_) ?_
  ·exact j7 _ _ _ rfl rfl rfl rfl hrun (hK _ _ s1_6)
  exact AllReadyIn.nil
 have s2_4:wpAnyIn (Fence.wide.inRound l) 9 Tryd.prog .any ops Q 5 #[true,true,true,true,true,true,false,false,false,false,false] { tmps:=#[t0,t1,t2,(.pointer (some ⟨Bx,0,none⟩)),t4,t5,(.pointer (some ⟨Bx,0,none⟩)),(.pointer (some ⟨B,o,none⟩)),(.pointer (some ⟨Bx,0,none⟩)),(.pointer (some ⟨B,o,none⟩)),(.pointer (some ⟨B,o,none⟩)),(.pointer (some ⟨B,o+4,none⟩)),t12,t13,t14,t15,t16,t17,t18,t19,t20,t21,t22,t23,t24,t25,t26],defers:=D } W:=by
  refine wpAnyIn_ready r2_4 (by simp) ?_
  refine AllReadyIn.cons h6 (fun K hK=>?_) ?_
  ·go_simp
   exact hK _ _ s2_5
  exact AllReadyIn.nil
 have s0_5:wpAnyIn (Fence.wide.inRound l) 9 Tryd.prog .any ops Q 6 #[false,false,true,true,true,true,true,false,false,false,false] { tmps:=#[t0,t1,t2,(.pointer (some ⟨Bx,0,none⟩)),t4,t5,t6,t7,(.pointer (some ⟨Bx,0,none⟩)),(.pointer (some ⟨B,o,none⟩)),(.pointer (some ⟨B,o,none⟩)),(.pointer (some ⟨B,o+4,none⟩)),(.slice p n c),t13,t14,t15,t16,t17,t18,t19,t20,t21,t22,t23,t24,t25,t26],defers:=D } W:=by
  refine wpAnyIn_ready r0_5 (by simp) ?_
  refine AllReadyIn.cons h0 (fun K hK=>?_) ?_
  ·go_simp
   exact hK _ _ s1_5
  refine AllReadyIn.cons h7 (fun K hK=>?_) ?_
  ·exact j7 _ _ _ rfl rfl rfl rfl hrun (hK _ _ s0_6)
  exact AllReadyIn.nil
 have s1_4:wpAnyIn (Fence.wide.inRound l) 9 Tryd.prog .any ops Q 6 #[true,false,true,true,true,true,false,false,false,false,false] { tmps:=#[t0,t1,t2,(.pointer (some ⟨Bx,0,none⟩)),t4,t5,(.pointer (some ⟨Bx,0,none⟩)),t7,(.pointer (some ⟨Bx,0,none⟩)),(.pointer (some ⟨B,o,none⟩)),(.pointer (some ⟨B,o,none⟩)),(.pointer (some ⟨B,o+4,none⟩)),t12,t13,t14,t15,t16,t17,t18,t19,t20,t21,t22,t23,t24,t25,t26],defers:=D } W:=by
  refine wpAnyIn_ready r1_4 (by simp) ?_
  refine AllReadyIn.cons h1 (fun K hK=>?_) ?_
  ·go_simp
   exact hK _ _ s2_4
  refine AllReadyIn.cons h6 (fun K hK=>?_) ?_
  ·go_simp
   exact hK _ _ s1_5
  exact AllReadyIn.nil
 have s2_3:wpAnyIn (Fence.wide.inRound l) 9 Tryd.prog .any ops Q 6 #[true,true,true,true,true,false,false,false,false,false,false] { tmps:=#[t0,t1,t2,(.pointer (some ⟨Bx,0,none⟩)),t4,t5,(.pointer (some ⟨Bx,0,none⟩)),(.pointer (some ⟨B,o,none⟩)),(.pointer (some ⟨Bx,0,none⟩)),(.pointer (some ⟨B,o,none⟩)),(.pointer (some ⟨B,o,none⟩)),t11,t12,t13,t14,t15,t16,t17,t18,t19,t20,t21,t22,t23,t24,t25,t26],defers:=D } W:=by
  refine wpAnyIn_ready r2_3 (by simp) ?_
  refine AllReadyIn.cons h5 (fun K hK=>?_) ?_
  ·go_simp
   exact hK _ _ s2_4
  exact AllReadyIn.nil
 have s0_4:wpAnyIn (Fence.wide.inRound l) 9 Tryd.prog .any ops Q 7 #[false,false,true,true,true,true,false,false,false,false,false] { tmps:=#[t0,t1,t2,(.pointer (some ⟨Bx,0,none⟩)),t4,t5,t6,t7,(.pointer (some ⟨Bx,0,none⟩)),(.pointer (some ⟨B,o,none⟩)),(.pointer (some ⟨B,o,none⟩)),(.pointer (some ⟨B,o+4,none⟩)),t12,t13,t14,t15,t16,t17,t18,t19,t20,t21,t22,t23,t24,t25,t26],defers:=D } W:=by
  refine wpAnyIn_ready r0_4 (by simp) ?_
  refine AllReadyIn.cons h0 (fun K hK=>?_) ?_
  ·go_simp
   exact hK _ _ s1_4
  refine AllReadyIn.cons h6 (fun K hK=>?_) ?_
  ·go_simp
   exact hK _ _ s0_5
  exact AllReadyIn.nil
 have s1_3:wpAnyIn (Fence.wide.inRound l) 9 Tryd.prog .any ops Q 7 #[true,false,true,true,true,false,false,false,false,false,false] { tmps:=#[t0,t1,t2,(.pointer (some ⟨Bx,0,none⟩)),t4,t5,(.pointer (some ⟨Bx,0,none⟩)),t7,(.pointer (some ⟨Bx,0,none⟩)),(.pointer (some ⟨B,o,none⟩)),(.pointer (some ⟨B,o,none⟩)),t11,t12,t13,t14,t15,t16,t17,t18,t19,t20,t21,t22,t23,t24,t25,t26],defers:=D } W:=by
  refine wpAnyIn_ready r1_3 (by simp) ?_
  refine AllReadyIn.cons h1 (fun K hK=>?_) ?_
  ·go_simp
   exact hK _ _ s2_3
  refine AllReadyIn.cons h5 (fun K hK=>?_) ?_
  ·go_simp
   exact hK _ _ s1_4
  exact AllReadyIn.nil
 have s2_2:wpAnyIn (Fence.wide.inRound l) 9 Tryd.prog .any ops Q 7 #[true,true,true,true,false,false,false,false,false,false,false] { tmps:=#[t0,t1,t2,(.pointer (some ⟨Bx,0,none⟩)),t4,t5,(.pointer (some ⟨Bx,0,none⟩)),(.pointer (some ⟨B,o,none⟩)),(.pointer (some ⟨Bx,0,none⟩)),(.pointer (some ⟨B,o,none⟩)),t10,t11,t12,t13,t14,t15,t16,t17,t18,t19,t20,t21,t22,t23,t24,t25,t26],defers:=D } W:=by
  refine wpAnyIn_ready r2_2 (by simp) ?_
  refine AllReadyIn.cons h4 (fun K hK=>?_) ?_
  ·go_simp
   exact hK _ _ s2_3
  exact AllReadyIn.nil
 have s0_3:wpAnyIn (Fence.wide.inRound l) 9 Tryd.prog .any ops Q 8 #[false,false,true,true,true,false,false,false,false,false,false] { tmps:=#[t0,t1,t2,(.pointer (some ⟨Bx,0,none⟩)),t4,t5,t6,t7,(.pointer (some ⟨Bx,0,none⟩)),(.pointer (some ⟨B,o,none⟩)),(.pointer (some ⟨B,o,none⟩)),t11,t12,t13,t14,t15,t16,t17,t18,t19,t20,t21,t22,t23,t24,t25,t26],defers:=D } W:=by
  refine wpAnyIn_ready r0_3 (by simp) ?_
  refine AllReadyIn.cons h0 (fun K hK=>?_) ?_
  ·go_simp
   exact hK _ _ s1_3
  refine AllReadyIn.cons h5 (fun K hK=>?_) ?_
  ·go_simp
   exact hK _ _ s0_4
  exact AllReadyIn.nil
 have s1_2:wpAnyIn (Fence.wide.inRound l) 9 Tryd.prog .any ops Q 8 #[true,false,true,true,false,false,false,false,false,false,false] { tmps:=#[t0,t1,t2,(.pointer (some ⟨Bx,0,none⟩)),t4,t5,(.pointer (some ⟨Bx,0,none⟩)),t7,(.pointer (some ⟨Bx,0,none⟩)),(.pointer (some ⟨B,o,none⟩)),t10,t11,t12,t13,t14,t15,t16,t17,t18,t19,t20,t21,t22,t23,t24,t25,t26],defers:=D } W:=by
  refine wpAnyIn_ready r1_2 (by simp) ?_
  refine AllReadyIn.cons h1 (fun K hK=>?_) ?_
  ·go_simp
   exact hK _ _ s2_2
  refine AllReadyIn.cons h4 (fun K hK=>?_) ?_
  ·go_simp
   exact hK _ _ s1_3
  exact AllReadyIn.nil
 have s2_1:wpAnyIn (Fence.wide.inRound l) 9 Tryd.prog .any ops Q 8 #[true,true,true,false,false,false,false,false,false,false,false] { tmps:=#[t0,t1,t2,(.pointer (some ⟨Bx,0,none⟩)),t4,t5,(.pointer (some ⟨Bx,0,none⟩)),(.pointer (some ⟨B,o,none⟩)),(.pointer (some ⟨Bx,0,none⟩)),t9,t10,t11,t12,t13,t14,t15,t16,t17,t18,t19,t20,t21,t22,t23,t24,t25,t26],defers:=D } W:=by
  refine wpAnyIn_ready r2_1 (by simp) ?_
  refine AllReadyIn.cons h3 (fun K hK=>?_) ?_
  ·go_simp
   exact hK _ _ s2_2
  exact AllReadyIn.nil
 have s0_2:wpAnyIn (Fence.wide.inRound l) 9 Tryd.prog .any ops Q 9 #[false,false,true,true,false,false,false,false,false,false,false] { tmps:=#[t0,t1,t2,(.pointer (some ⟨Bx,0,none⟩)),t4,t5,t6,t7,(.pointer (some ⟨Bx,0,none⟩)),(.pointer (some ⟨B,o,none⟩)),t10,t11,t12,t13,t14,t15,t16,t17,t18,t19,t20,t21,t22,t23,t24,t25,t26],defers:=D } W:=by
  refine wpAnyIn_ready r0_2 (by simp) ?_
  refine AllReadyIn.cons h0 (fun K hK=>?_) ?_
  ·go_simp
   exact hK _ _ s1_2
  refine AllReadyIn.cons h4 (fun K hK=>?_) ?_
  ·go_simp
   exact hK _ _ s0_3
  exact AllReadyIn.nil
 have s1_1:wpAnyIn (Fence.wide.inRound l) 9 Tryd.prog .any ops Q 9 #[true,false,true,false,false,false,false,false,false,false,false] { tmps:=#[t0,t1,t2,(.pointer (some ⟨Bx,0,none⟩)),t4,t5,(.pointer (some ⟨Bx,0,none⟩)),t7,(.pointer (some ⟨Bx,0,none⟩)),t9,t10,t11,t12,t13,t14,t15,t16,t17,t18,t19,t20,t21,t22,t23,t24,t25,t26],defers:=D } W:=by
  refine wpAnyIn_ready r1_1 (by simp) ?_
  refine AllReadyIn.cons h1 (fun K hK=>?_) ?_
  ·go_simp
   exact hK _ _ s2_1
  refine AllReadyIn.cons h3 (fun K hK=>?_) ?_
  ·go_simp
   exact hK _ _ s1_2
  exact AllReadyIn.nil
 have s2_0:wpAnyIn (Fence.wide.inRound l) 9 Tryd.prog .any ops Q 9 #[true,true,false,false,false,false,false,false,false,false,false] { tmps:=#[t0,t1,t2,(.pointer (some ⟨Bx,0,none⟩)),t4,t5,(.pointer (some ⟨Bx,0,none⟩)),(.pointer (some ⟨B,o,none⟩)),t8,t9,t10,t11,t12,t13,t14,t15,t16,t17,t18,t19,t20,t21,t22,t23,t24,t25,t26],defers:=D } W:=by
  refine wpAnyIn_ready r2_0 (by simp) ?_
  refine AllReadyIn.cons h2 (fun K hK=>?_) ?_
  ·go_simp
   exact hK _ _ s2_1
  exact AllReadyIn.nil
 have s0_1:wpAnyIn (Fence.wide.inRound l) 9 Tryd.prog .any ops Q 10 #[false,false,true,false,false,false,false,false,false,false,false] { tmps:=#[t0,t1,t2,(.pointer (some ⟨Bx,0,none⟩)),t4,t5,t6,t7,(.pointer (some ⟨Bx,0,none⟩)),t9,t10,t11,t12,t13,t14,t15,t16,t17,t18,t19,t20,t21,t22,t23,t24,t25,t26],defers:=D } W:=by
  refine wpAnyIn_ready r0_1 (by simp) ?_
  refine AllReadyIn.cons h0 (fun K hK=>?_) ?_
  ·go_simp
   exact hK _ _ s1_1
  refine AllReadyIn.cons h3 (fun K hK=>?_) ?_
  ·go_simp
   exact hK _ _ s0_2
  exact AllReadyIn.nil
 have s1_0:wpAnyIn (Fence.wide.inRound l) 9 Tryd.prog .any ops Q 10 #[true,false,false,false,false,false,false,false,false,false,false] { tmps:=#[t0,t1,t2,(.pointer (some ⟨Bx,0,none⟩)),t4,t5,(.pointer (some ⟨Bx,0,none⟩)),t7,t8,t9,t10,t11,t12,t13,t14,t15,t16,t17,t18,t19,t20,t21,t22,t23,t24,t25,t26],defers:=D } W:=by
  refine wpAnyIn_ready r1_0 (by simp) ?_
  refine AllReadyIn.cons h1 (fun K hK=>?_) ?_
  ·go_simp
   exact hK _ _ s2_0
  refine AllReadyIn.cons h2 (fun K hK=>?_) ?_
  ·go_simp
   exact hK _ _ s1_1
  exact AllReadyIn.nil
 have s0_0:wpAnyIn (Fence.wide.inRound l) 9 Tryd.prog .any ops Q 11 #[false,false,false,false,false,false,false,false,false,false,false] { tmps:=#[t0,t1,t2,(.pointer (some ⟨Bx,0,none⟩)),t4,t5,t6,t7,t8,t9,t10,t11,t12,t13,t14,t15,t16,t17,t18,t19,t20,t21,t22,t23,t24,t25,t26],defers:=D } W:=by
  refine wpAnyIn_ready r0_0 (by simp) ?_
  refine AllReadyIn.cons h0 (fun K hK=>?_) ?_
  ·go_simp
   exact hK _ _ s1_0
  refine AllReadyIn.cons h2 (fun K hK=>?_) ?_
  ·go_simp
   exact hK _ _ s0_1
  exact AllReadyIn.nil
 exact s0_0
theorem jbE {l:Nat}{Q:Exit->Act->World->Prop}{ops:Array Oper}{D:List Deferred}{t0 t1 t2 t4 t5 t6 t7 t8 t9 t10 t11 t12 t13 t14 t15 t16 t17 t18 t19 t20 t21 t22 t23 t24 t25 t26:Value}{W W1:World}{Bx B o n c c':Nat}{p p':Option Addr}{q0 q1 q2 q3 q4 q5 q6 q7 q8 q9 q10:String}{f0 f1 f2 f3 f4 f5 f6 f7 f8 f9 f10:_}
  (h0:ops[0]?=some { dst:=some 16,op:=.fieldAddr 77 (.tmp 3) 0,type:=0,pos:=q0,after:=f0,guard:=none })
  (h1:ops[1]?=some { dst:=some 17,op:=.load 58 (.tmp 16),type:=58,pos:=q1,after:=f1,guard:=none })
  (h2:ops[2]?=some { dst:=some 18,op:=.fieldAddr 77 (.tmp 3) 0,type:=0,pos:=q2,after:=f2,guard:=none })
  (h3:ops[3]?=some { dst:=some 19,op:=.load 58 (.tmp 18),type:=58,pos:=q3,after:=f3,guard:=none })
  (h4:ops[4]?=some { dst:=some 20,op:=.nilCheck (.tmp 19),type:=0,pos:=q4,after:=f4,guard:=none })
  (h5:ops[5]?=some { dst:=some 21,op:=.fieldAddr 26 (.tmp 20) 5,type:=0,pos:=q5,after:=f5,guard:=none })
  (h6:ops[6]?=some { dst:=some 22,op:=.load 24 (.tmp 21),type:=24,pos:=q6,after:=f6,guard:=none })
  (h7:ops[7]?=some { dst:=some 23,op:=.call { callee:=.builtin .append,args:=#[.const (.slice none 0 0),.tmp 22],argTypes:=#[24,24] },type:=24,pos:=q7,after:=f7,guard:=none })
  (h8:ops[8]?=some { dst:=some 24,op:=.nilCheck (.tmp 17),type:=0,pos:=q8,after:=f8,guard:=none })
  (h9:ops[9]?=some { dst:=some 25,op:=.fieldAddr 26 (.tmp 24) 5,type:=0,pos:=q9,after:=f9,guard:=none })
  (h10:ops[10]?=some { dst:=none,op:=.store 24 (.tmp 25) (.tmp 23),type:=0,pos:=q10,after:=f10,guard:=none })
  (r0_0:Region.ready .any ops #[false,false,false,false,false,false,false,false,false,false,false]=[0,2])
  (r0_1:Region.ready .any ops #[false,false,true,false,false,false,false,false,false,false,false]=[0,3])
  (r0_2:Region.ready .any ops #[false,false,true,true,false,false,false,false,false,false,false]=[0,4])
  (r0_3:Region.ready .any ops #[false,false,true,true,true,false,false,false,false,false,false]=[0,5])
  (r0_4:Region.ready .any ops #[false,false,true,true,true,true,false,false,false,false,false]=[0,6])
  (r0_5:Region.ready .any ops #[false,false,true,true,true,true,true,false,false,false,false]=[0,7])
  (r0_6:Region.ready .any ops #[false,false,true,true,true,true,true,true,false,false,false]=[0])
  (r1_0:Region.ready .any ops #[true,false,false,false,false,false,false,false,false,false,false]=[1,2])
  (r1_1:Region.ready .any ops #[true,false,true,false,false,false,false,false,false,false,false]=[1,3])
  (r1_2:Region.ready .any ops #[true,false,true,true,false,false,false,false,false,false,false]=[1,4])
  (r1_3:Region.ready .any ops #[true,false,true,true,true,false,false,false,false,false,false]=[1,5])
  (r1_4:Region.ready .any ops #[true,false,true,true,true,true,false,false,false,false,false]=[1,6])
  (r1_5:Region.ready .any ops #[true,false,true,true,true,true,true,false,false,false,false]=[1,7])
  (r1_6:Region.ready .any ops #[true,false,true,true,true,true,true,true,false,false,false]=[1])
  (r2_0:Region.ready .any ops #[true,true,false,false,false,false,false,false,false,false,false]=[2])
  (r2_1:Region.ready .any ops #[true,true,true,false,false,false,false,false,false,false,false]=[3])
  (r2_2:Region.ready .any ops #[true,true,true,true,false,false,false,false,false,false,false]=[4])
  (r2_3:Region.ready .any ops #[true,true,true,true,true,false,false,false,false,false,false]=[5])
  (r2_4:Region.ready .any ops #[true,true,true,true,true,true,false,false,false,false,false]=[6])
  (r2_5:Region.ready .any ops #[true,true,true,true,true,true,true,false,false,false,false]=[7])
  (r2_6:Region.ready .any ops #[true,true,true,true,true,true,true,true,false,false,false]=[8])
  (ra:Region.ready .any ops #[true,true,true,true,true,true,true,true,true,false,false]=[9])
  (rb:Region.ready .any ops #[true,true,true,true,true,true,true,true,true,true,false]=[10])
  (rc:Region.ready .any ops #[true,true,true,true,true,true,true,true,true,true,true]=[])
  (c0:W.cell? ⟨Bx,0,none⟩=some (.pointer (some ⟨B,o,none⟩))) (c4:W.cell? ⟨B,o+5,none⟩=some (.slice p n c)) (hrun:(Builtin.append_ #[24,24] 24 #[.slice none 0 0,.slice p n c]).run Tryd.prog W=.ok (.slice p' n c') W1)
  (d0:W1.cell? ⟨Bx,0,none⟩=some (.pointer (some ⟨B,o,none⟩))) (d4:W1.cell? ⟨B,o+5,none⟩=some (.slice p n c)) (e4:W1.frozen? ⟨B,o+5,none⟩=false)
  (hQ:Q .normal { tmps:=#[t0,t1,t2,(.pointer (some ⟨Bx,0,none⟩)),t4,t5,t6,t7,t8,t9,t10,t11,t12,t13,t14,t15,(.pointer (some ⟨Bx,0,none⟩)),(.pointer (some ⟨B,o,none⟩)),(.pointer (some ⟨Bx,0,none⟩)),(.pointer (some ⟨B,o,none⟩)),(.pointer (some ⟨B,o,none⟩)),(.pointer (some ⟨B,o+5,none⟩)),(.slice p n c),(.slice p' n c'),(.pointer (some ⟨B,o,none⟩)),(.pointer (some ⟨B,o+5,none⟩)),t26],defers:=D } (W1.setCell ⟨B,o+5,none⟩ (.slice p' n c'))) :
  wpAnyIn (Fence.wide.inRound l) 9 Tryd.prog .any ops Q 11 #[false,false,false,false,false,false,false,false,false,false,false] { tmps:=#[t0,t1,t2,(.pointer (some ⟨Bx,0,none⟩)),t4,t5,t6,t7,t8,t9,t10,t11,t12,t13,t14,t15,t16,t17,t18,t19,t20,t21,t22,t23,t24,t25,t26],defers:=D } W:=by
 have sc:wpAnyIn (Fence.wide.inRound l) 9 Tryd.prog .any ops Q 0 #[true,true,true,true,true,true,true,true,true,true,true] { tmps:=#[t0,t1,t2,(.pointer (some ⟨Bx,0,none⟩)),t4,t5,t6,t7,t8,t9,t10,t11,t12,t13,t14,t15,(.pointer (some ⟨Bx,0,none⟩)),(.pointer (some ⟨B,o,none⟩)),(.pointer (some ⟨Bx,0,none⟩)),(.pointer (some ⟨B,o,none⟩)),(.pointer (some ⟨B,o,none⟩)),(.pointer (some ⟨B,o+5,none⟩)),(.slice p n c),(.slice p' n c'),(.pointer (some ⟨B,o,none⟩)),(.pointer (some ⟨B,o+5,none⟩)),t26],defers:=D } (W1.setCell ⟨B,o+5,none⟩ (.slice p' n c')):=wpAnyIn_done rc hQ _
 have sb:wpAnyIn (Fence.wide.inRound l) 9 Tryd.prog .any ops Q 1 #[true,true,true,true,true,true,true,true,true,true,false] { tmps:=#[t0,t1,t2,(.pointer (some ⟨Bx,0,none⟩)),t4,t5,t6,t7,t8,t9,t10,t11,t12,t13,t14,t15,(.pointer (some ⟨Bx,0,none⟩)),(.pointer (some ⟨B,o,none⟩)),(.pointer (some ⟨Bx,0,none⟩)),(.pointer (some ⟨B,o,none⟩)),(.pointer (some ⟨B,o,none⟩)),(.pointer (some ⟨B,o+5,none⟩)),(.slice p n c),(.slice p' n c'),(.pointer (some ⟨B,o,none⟩)),(.pointer (some ⟨B,o+5,none⟩)),t26],defers:=D } W1:=by
  refine wpAnyIn_ready rb (by simp) (AllReadyIn.cons h10 (fun K hK=>?_) AllReadyIn.nil)
  go_simp
  exact hK _ _ sc
 have sa:wpAnyIn (Fence.wide.inRound l) 9 Tryd.prog .any ops Q 2 #[true,true,true,true,true,true,true,true,true,false,false] { tmps:=#[t0,t1,t2,(.pointer (some ⟨Bx,0,none⟩)),t4,t5,t6,t7,t8,t9,t10,t11,t12,t13,t14,t15,(.pointer (some ⟨Bx,0,none⟩)),(.pointer (some ⟨B,o,none⟩)),(.pointer (some ⟨Bx,0,none⟩)),(.pointer (some ⟨B,o,none⟩)),(.pointer (some ⟨B,o,none⟩)),(.pointer (some ⟨B,o+5,none⟩)),(.slice p n c),(.slice p' n c'),(.pointer (some ⟨B,o,none⟩)),t25,t26],defers:=D } W1:=by
  refine wpAnyIn_ready ra (by simp) (AllReadyIn.cons h9 (fun K hK=>?_) AllReadyIn.nil)
  go_simp
  exact hK _ _ sb
 have s2_6:wpAnyIn (Fence.wide.inRound l) 9 Tryd.prog .any ops Q 3 #[true,true,true,true,true,true,true,true,false,false,false] { tmps:=#[t0,t1,t2,(.pointer (some ⟨Bx,0,none⟩)),t4,t5,t6,t7,t8,t9,t10,t11,t12,t13,t14,t15,(.pointer (some ⟨Bx,0,none⟩)),(.pointer (some ⟨B,o,none⟩)),(.pointer (some ⟨Bx,0,none⟩)),(.pointer (some ⟨B,o,none⟩)),(.pointer (some ⟨B,o,none⟩)),(.pointer (some ⟨B,o+5,none⟩)),(.slice p n c),(.slice p' n c'),t24,t25,t26],defers:=D } W1:=by
  refine wpAnyIn_ready r2_6 (by simp) (AllReadyIn.cons h8 (fun K hK=>?_) AllReadyIn.nil)
  go_simp
  exact hK _ _ sa
 have s1_6:wpAnyIn (Fence.wide.inRound l) 9 Tryd.prog .any ops Q 4 #[true,false,true,true,true,true,true,true,false,false,false] { tmps:=#[t0,t1,t2,(.pointer (some ⟨Bx,0,none⟩)),t4,t5,t6,t7,t8,t9,t10,t11,t12,t13,t14,t15,(.pointer (some ⟨Bx,0,none⟩)),t17,(.pointer (some ⟨Bx,0,none⟩)),(.pointer (some ⟨B,o,none⟩)),(.pointer (some ⟨B,o,none⟩)),(.pointer (some ⟨B,o+5,none⟩)),(.slice p n c),(.slice p' n c'),t24,t25,t26],defers:=D } W1:=by
  refine wpAnyIn_ready r1_6 (by simp) ?_
  refine AllReadyIn.cons h1 (fun K hK=>?_) ?_
  ·go_simp
   exact hK _ _ s2_6
  exact AllReadyIn.nil
 have s2_5:wpAnyIn (Fence.wide.inRound l) 9 Tryd.prog .any ops Q 4 #[true,true,true,true,true,true,true,false,false,false,false] { tmps:=#[t0,t1,t2,(.pointer (some ⟨Bx,0,none⟩)),t4,t5,t6,t7,t8,t9,t10,t11,t12,t13,t14,t15,(.pointer (some ⟨Bx,0,none⟩)),(.pointer (some ⟨B,o,none⟩)),(.pointer (some ⟨Bx,0,none⟩)),(.pointer (some ⟨B,o,none⟩)),(.pointer (some ⟨B,o,none⟩)),(.pointer (some ⟨B,o+5,none⟩)),(.slice p n c),t23,t24,t25,t26],defers:=D } W:=by
  refine wpAnyIn_ready r2_5 (by simp) ?_
  refine AllReadyIn.cons h7 (fun K hK=>?_) ?_
  ·exact j7 _ _ _ rfl rfl rfl rfl hrun (hK _ _ s2_6)
  exact AllReadyIn.nil
 have s0_6:wpAnyIn (Fence.wide.inRound l) 9 Tryd.prog .any ops Q 5 #[false,false,true,true,true,true,true,true,false,false,false] { tmps:=#[t0,t1,t2,(.pointer (some ⟨Bx,0,none⟩)),t4,t5,t6,t7,t8,t9,t10,t11,t12,t13,t14,t15,t16,t17,(.pointer (some ⟨Bx,0,none⟩)),(.pointer (some ⟨B,o,none⟩)),(.pointer (some ⟨B,o,none⟩)),(.pointer (some ⟨B,o+5,none⟩)),(.slice p n c),(.slice p' n c'),t24,t25,t26],defers:=D } W1:=by
  refine wpAnyIn_ready r0_6 (by simp) ?_
  refine AllReadyIn.cons h0 (fun K hK=>?_) ?_
  ·go_simp
   exact hK _ _ s1_6
  exact AllReadyIn.nil
 have s1_5:wpAnyIn (Fence.wide.inRound l) 9 Tryd.prog .any ops Q 5 #[true,false,true,true,true,true,true,false,false,false,false] { tmps:=#[t0,t1,t2,(.pointer (some ⟨Bx,0,none⟩)),t4,t5,t6,t7,t8,t9,t10,t11,t12,t13,t14,t15,(.pointer (some ⟨Bx,0,none⟩)),t17,(.pointer (some ⟨Bx,0,none⟩)),(.pointer (some ⟨B,o,none⟩)),(.pointer (some ⟨B,o,none⟩)),(.pointer (some ⟨B,o+5,none⟩)),(.slice p n c),t23,t24,t25,t26],defers:=D } W:=by
  refine wpAnyIn_ready r1_5 (by simp) ?_
  refine AllReadyIn.cons h1 (fun K hK=>?_) ?_
  ·go_simp
   exact hK _ _ s2_5
  refine AllReadyIn.cons h7 (fun K hK=>?_) ?_
  ·exact j7 _ _ _ rfl rfl rfl rfl hrun (hK _ _ s1_6)
  exact AllReadyIn.nil
 have s2_4:wpAnyIn (Fence.wide.inRound l) 9 Tryd.prog .any ops Q 5 #[true,true,true,true,true,true,false,false,false,false,false] { tmps:=#[t0,t1,t2,(.pointer (some ⟨Bx,0,none⟩)),t4,t5,t6,t7,t8,t9,t10,t11,t12,t13,t14,t15,(.pointer (some ⟨Bx,0,none⟩)),(.pointer (some ⟨B,o,none⟩)),(.pointer (some ⟨Bx,0,none⟩)),(.pointer (some ⟨B,o,none⟩)),(.pointer (some ⟨B,o,none⟩)),(.pointer (some ⟨B,o+5,none⟩)),t22,t23,t24,t25,t26],defers:=D } W:=by
  refine wpAnyIn_ready r2_4 (by simp) ?_
  refine AllReadyIn.cons h6 (fun K hK=>?_) ?_
  ·go_simp
   exact hK _ _ s2_5
  exact AllReadyIn.nil
 have s0_5:wpAnyIn (Fence.wide.inRound l) 9 Tryd.prog .any ops Q 6 #[false,false,true,true,true,true,true,false,false,false,false] { tmps:=#[t0,t1,t2,(.pointer (some ⟨Bx,0,none⟩)),t4,t5,t6,t7,t8,t9,t10,t11,t12,t13,t14,t15,t16,t17,(.pointer (some ⟨Bx,0,none⟩)),(.pointer (some ⟨B,o,none⟩)),(.pointer (some ⟨B,o,none⟩)),(.pointer (some ⟨B,o+5,none⟩)),(.slice p n c),t23,t24,t25,t26],defers:=D } W:=by
  refine wpAnyIn_ready r0_5 (by simp) ?_
  refine AllReadyIn.cons h0 (fun K hK=>?_) ?_
  ·go_simp
   exact hK _ _ s1_5
  refine AllReadyIn.cons h7 (fun K hK=>?_) ?_
  ·exact j7 _ _ _ rfl rfl rfl rfl hrun (hK _ _ s0_6)
  exact AllReadyIn.nil
 have s1_4:wpAnyIn (Fence.wide.inRound l) 9 Tryd.prog .any ops Q 6 #[true,false,true,true,true,true,false,false,false,false,false] { tmps:=#[t0,t1,t2,(.pointer (some ⟨Bx,0,none⟩)),t4,t5,t6,t7,t8,t9,t10,t11,t12,t13,t14,t15,(.pointer (some ⟨Bx,0,none⟩)),t17,(.pointer (some ⟨Bx,0,none⟩)),(.pointer (some ⟨B,o,none⟩)),(.pointer (some ⟨B,o,none⟩)),(.pointer (some ⟨B,o+5,none⟩)),t22,t23,t24,t25,t26],defers:=D } W:=by
  refine wpAnyIn_ready r1_4 (by simp) ?_
  refine AllReadyIn.cons h1 (fun K hK=>?_) ?_
  ·go_simp
   exact hK _ _ s2_4
  refine AllReadyIn.cons h6 (fun K hK=>?_) ?_
  ·go_simp
   exact hK _ _ s1_5
  exact AllReadyIn.nil
 have s2_3:wpAnyIn (Fence.wide.inRound l) 9 Tryd.prog .any ops Q 6 #[true,true,true,true,true,false,false,false,false,false,false] { tmps:=#[t0,t1,t2,(.pointer (some ⟨Bx,0,none⟩)),t4,t5,t6,t7,t8,t9,t10,t11,t12,t13,t14,t15,(.pointer (some ⟨Bx,0,none⟩)),(.pointer (some ⟨B,o,none⟩)),(.pointer (some ⟨Bx,0,none⟩)),(.pointer (some ⟨B,o,none⟩)),(.pointer (some ⟨B,o,none⟩)),t21,t22,t23,t24,t25,t26],defers:=D } W:=by
  refine wpAnyIn_ready r2_3 (by simp) ?_
  refine AllReadyIn.cons h5 (fun K hK=>?_) ?_
  ·go_simp
   exact hK _ _ s2_4
  exact AllReadyIn.nil
 have s0_4:wpAnyIn (Fence.wide.inRound l) 9 Tryd.prog .any ops Q 7 #[false,false,true,true,true,true,false,false,false,false,false] { tmps:=#[t0,t1,t2,(.pointer (some ⟨Bx,0,none⟩)),t4,t5,t6,t7,t8,t9,t10,t11,t12,t13,t14,t15,t16,t17,(.pointer (some ⟨Bx,0,none⟩)),(.pointer (some ⟨B,o,none⟩)),(.pointer (some ⟨B,o,none⟩)),(.pointer (some ⟨B,o+5,none⟩)),t22,t23,t24,t25,t26],defers:=D } W:=by
  refine wpAnyIn_ready r0_4 (by simp) ?_
  refine AllReadyIn.cons h0 (fun K hK=>?_) ?_
  ·go_simp
   exact hK _ _ s1_4
  refine AllReadyIn.cons h6 (fun K hK=>?_) ?_
  ·go_simp
   exact hK _ _ s0_5
  exact AllReadyIn.nil
 have s1_3:wpAnyIn (Fence.wide.inRound l) 9 Tryd.prog .any ops Q 7 #[true,false,true,true,true,false,false,false,false,false,false] { tmps:=#[t0,t1,t2,(.pointer (some ⟨Bx,0,none⟩)),t4,t5,t6,t7,t8,t9,t10,t11,t12,t13,t14,t15,(.pointer (some ⟨Bx,0,none⟩)),t17,(.pointer (some ⟨Bx,0,none⟩)),(.pointer (some ⟨B,o,none⟩)),(.pointer (some ⟨B,o,none⟩)),t21,t22,t23,t24,t25,t26],defers:=D } W:=by
  refine wpAnyIn_ready r1_3 (by simp) ?_
  refine AllReadyIn.cons h1 (fun K hK=>?_) ?_
  ·go_simp
   exact hK _ _ s2_3
  refine AllReadyIn.cons h5 (fun K hK=>?_) ?_
  ·go_simp
   exact hK _ _ s1_4
  exact AllReadyIn.nil
 have s2_2:wpAnyIn (Fence.wide.inRound l) 9 Tryd.prog .any ops Q 7 #[true,true,true,true,false,false,false,false,false,false,false] { tmps:=#[t0,t1,t2,(.pointer (some ⟨Bx,0,none⟩)),t4,t5,t6,t7,t8,t9,t10,t11,t12,t13,t14,t15,(.pointer (some ⟨Bx,0,none⟩)),(.pointer (some ⟨B,o,none⟩)),(.pointer (some ⟨Bx,0,none⟩)),(.pointer (some ⟨B,o,none⟩)),t20,t21,t22,t23,t24,t25,t26],defers:=D } W:=by
  refine wpAnyIn_ready r2_2 (by simp) ?_
  refine AllReadyIn.cons h4 (fun K hK=>?_) ?_
  ·go_simp
   exact hK _ _ s2_3
  exact AllReadyIn.nil
 have s0_3:wpAnyIn (Fence.wide.inRound l) 9 Tryd.prog .any ops Q 8 #[false,false,true,true,true,false,false,false,false,false,false] { tmps:=#[t0,t1,t2,(.pointer (some ⟨Bx,0,none⟩)),t4,t5,t6,t7,t8,t9,t10,t11,t12,t13,t14,t15,t16,t17,(.pointer (some ⟨Bx,0,none⟩)),(.pointer (some ⟨B,o,none⟩)),(.pointer (some ⟨B,o,none⟩)),t21,t22,t23,t24,t25,t26],defers:=D } W:=by
  refine wpAnyIn_ready r0_3 (by simp) ?_
  refine AllReadyIn.cons h0 (fun K hK=>?_) ?_
  ·go_simp
   exact hK _ _ s1_3
  refine AllReadyIn.cons h5 (fun K hK=>?_) ?_
  ·go_simp
   exact hK _ _ s0_4
  exact AllReadyIn.nil
 have s1_2:wpAnyIn (Fence.wide.inRound l) 9 Tryd.prog .any ops Q 8 #[true,false,true,true,false,false,false,false,false,false,false] { tmps:=#[t0,t1,t2,(.pointer (some ⟨Bx,0,none⟩)),t4,t5,t6,t7,t8,t9,t10,t11,t12,t13,t14,t15,(.pointer (some ⟨Bx,0,none⟩)),t17,(.pointer (some ⟨Bx,0,none⟩)),(.pointer (some ⟨B,o,none⟩)),t20,t21,t22,t23,t24,t25,t26],defers:=D } W:=by
  refine wpAnyIn_ready r1_2 (by simp) ?_
  refine AllReadyIn.cons h1 (fun K hK=>?_) ?_
  ·go_simp
   exact hK _ _ s2_2
  refine AllReadyIn.cons h4 (fun K hK=>?_) ?_
  ·go_simp
   exact hK _ _ s1_3
  exact AllReadyIn.nil
 have s2_1:wpAnyIn (Fence.wide.inRound l) 9 Tryd.prog .any ops Q 8 #[true,true,true,false,false,false,false,false,false,false,false] { tmps:=#[t0,t1,t2,(.pointer (some ⟨Bx,0,none⟩)),t4,t5,t6,t7,t8,t9,t10,t11,t12,t13,t14,t15,(.pointer (some ⟨Bx,0,none⟩)),(.pointer (some ⟨B,o,none⟩)),(.pointer (some ⟨Bx,0,none⟩)),t19,t20,t21,t22,t23,t24,t25,t26],defers:=D } W:=by
  refine wpAnyIn_ready r2_1 (by simp) ?_
  refine AllReadyIn.cons h3 (fun K hK=>?_) ?_
  ·go_simp
   exact hK _ _ s2_2
  exact AllReadyIn.nil
 have s0_2:wpAnyIn (Fence.wide.inRound l) 9 Tryd.prog .any ops Q 9 #[false,false,true,true,false,false,false,false,false,false,false] { tmps:=#[t0,t1,t2,(.pointer (some ⟨Bx,0,none⟩)),t4,t5,t6,t7,t8,t9,t10,t11,t12,t13,t14,t15,t16,t17,(.pointer (some ⟨Bx,0,none⟩)),(.pointer (some ⟨B,o,none⟩)),t20,t21,t22,t23,t24,t25,t26],defers:=D } W:=by
  refine wpAnyIn_ready r0_2 (by simp) ?_
  refine AllReadyIn.cons h0 (fun K hK=>?_) ?_
  ·go_simp
   exact hK _ _ s1_2
  refine AllReadyIn.cons h4 (fun K hK=>?_) ?_
  ·go_simp
   exact hK _ _ s0_3
  exact AllReadyIn.nil
 have s1_1:wpAnyIn (Fence.wide.inRound l) 9 Tryd.prog .any ops Q 9 #[true,false,true,false,false,false,false,false,false,false,false] { tmps:=#[t0,t1,t2,(.pointer (some ⟨Bx,0,none⟩)),t4,t5,t6,t7,t8,t9,t10,t11,t12,t13,t14,t15,(.pointer (some ⟨Bx,0,none⟩)),t17,(.pointer (some ⟨Bx,0,none⟩)),t19,t20,t21,t22,t23,t24,t25,t26],defers:=D } W:=by
  refine wpAnyIn_ready r1_1 (by simp) ?_
  refine AllReadyIn.cons h1 (fun K hK=>?_) ?_
  ·go_simp
   exact hK _ _ s2_1
  refine AllReadyIn.cons h3 (fun K hK=>?_) ?_
  ·go_simp
   exact hK _ _ s1_2
  exact AllReadyIn.nil
 have s2_0:wpAnyIn (Fence.wide.inRound l) 9 Tryd.prog .any ops Q 9 #[true,true,false,false,false,false,false,false,false,false,false] { tmps:=#[t0,t1,t2,(.pointer (some ⟨Bx,0,none⟩)),t4,t5,t6,t7,t8,t9,t10,t11,t12,t13,t14,t15,(.pointer (some ⟨Bx,0,none⟩)),(.pointer (some ⟨B,o,none⟩)),t18,t19,t20,t21,t22,t23,t24,t25,t26],defers:=D } W:=by
  refine wpAnyIn_ready r2_0 (by simp) ?_
  refine AllReadyIn.cons h2 (fun K hK=>?_) ?_
  ·go_simp
   exact hK _ _ s2_1
  exact AllReadyIn.nil
 have s0_1:wpAnyIn (Fence.wide.inRound l) 9 Tryd.prog .any ops Q 10 #[false,false,true,false,false,false,false,false,false,false,false] { tmps:=#[t0,t1,t2,(.pointer (some ⟨Bx,0,none⟩)),t4,t5,t6,t7,t8,t9,t10,t11,t12,t13,t14,t15,t16,t17,(.pointer (some ⟨Bx,0,none⟩)),t19,t20,t21,t22,t23,t24,t25,t26],defers:=D } W:=by
  refine wpAnyIn_ready r0_1 (by simp) ?_
  refine AllReadyIn.cons h0 (fun K hK=>?_) ?_
  ·go_simp
   exact hK _ _ s1_1
  refine AllReadyIn.cons h3 (fun K hK=>?_) ?_
  ·go_simp
   exact hK _ _ s0_2
  exact AllReadyIn.nil
 have s1_0:wpAnyIn (Fence.wide.inRound l) 9 Tryd.prog .any ops Q 10 #[true,false,false,false,false,false,false,false,false,false,false] { tmps:=#[t0,t1,t2,(.pointer (some ⟨Bx,0,none⟩)),t4,t5,t6,t7,t8,t9,t10,t11,t12,t13,t14,t15,(.pointer (some ⟨Bx,0,none⟩)),t17,t18,t19,t20,t21,t22,t23,t24,t25,t26],defers:=D } W:=by
  refine wpAnyIn_ready r1_0 (by simp) ?_
  refine AllReadyIn.cons h1 (fun K hK=>?_) ?_
  ·go_simp
   exact hK _ _ s2_0
  refine AllReadyIn.cons h2 (fun K hK=>?_) ?_
  ·go_simp
   exact hK _ _ s1_1
  exact AllReadyIn.nil
 have s0_0:wpAnyIn (Fence.wide.inRound l) 9 Tryd.prog .any ops Q 11 #[false,false,false,false,false,false,false,false,false,false,false] { tmps:=#[t0,t1,t2,(.pointer (some ⟨Bx,0,none⟩)),t4,t5,t6,t7,t8,t9,t10,t11,t12,t13,t14,t15,t16,t17,t18,t19,t20,t21,t22,t23,t24,t25,t26],defers:=D } W:=by
  refine wpAnyIn_ready r0_0 (by simp) ?_
  refine AllReadyIn.cons h0 (fun K hK=>?_) ?_
  ·go_simp
   exact hK _ _ s1_0
  refine AllReadyIn.cons h2 (fun K hK=>?_) ?_
  ·go_simp
   exact hK _ _ s0_1
  exact AllReadyIn.nil
 exact s0_0
open Go.RowKit Go.Shelf
def okC (ok0:Nat->Prop)(n0:Nat)(M:Nat->Prop)(W:World)(b:Nat):Prop:=(b<n0/\ok0 b)\/(n0<=b/\(b<W.heap.size/\b≠n0+1)/\¬M b/\∃i v,W.cell? ⟨b,i,none⟩=some v)
def pl (p:Nd×V):Nat×Nat:=(p.1.1,p.1.2.1)
structure CopyI (ok0:Nat->Prop) (w:World) (n1 f:Nat) (t:V) (M:Nat->Prop) (s:List (Nd×V)) (W:World):Prop where
 mine:∀b,M b->n1<=b
 lt:w.heap.size+1<n1
 size:n1<=W.heap.size
 below:Below w.heap.size w W
 root:∃us:List Value,(∀i,i<6->W.cell? ⟨w.heap.size,0+i,none⟩=us[i]?)/\LiesV (okC ok0 w.heap.size M W) f W us t
 wait:∀p,p∈s->(w.heap.size<=p.1.1/\¬M p.1.1/\p.1.1<W.heap.size/\Free W p.1.1)/\∃us:List Value,(∀i,i<6->W.cell? ⟨p.1.1,p.1.2.1+i,none⟩=us[i]?)/\LiesV ok0 f w us p.2
 apart:(s.map pl).Nodup
theorem CopyI.still {ok0:Nat->Prop}{w:World}{n1 f:Nat}{t:V}{M M':Nat->Prop}{s:List (Nd×V)}{W W':World}(h:CopyI ok0 w n1 f t M s W)(ht:Turns (fun b=>M b\/(n1<=b/\∃o:Obj,W.heap[b]?=some o/\o.isCells=false)) W W')(hm:∀b,M' b->M b\/W.heap.size<=b):CopyI ok0 w n1 f t M' s W':=by
 have h1:=h.lt;have h2:=h.size;have h3:=ht.size;have old:∀b,b<n1->W'.heap[b]?=W.heap[b]?:=fun b hb=>ht.block b (by omega) (fun hx=>hx.elim (fun hx=>by have:=h.mine b hx;omega) (fun hx=>by omega))
 have new:∀b i v,b<W.heap.size->¬M b->W.cell? ⟨b,i,none⟩=some v->W'.heap[b]?=W.heap[b]?:=fun b i v hb hM hc=>ht.block b hb (fun hx=>hx.elim hM (fun hx=>by
  obtain⟨_,o,ho,hi⟩:=hx;obtain⟨o2,h2,h3⟩:=cells_of_cell hc;simp only at h2;rw [ho] at h2;cases h2
  rw [hi] at h3;cases h3))
 have nM:∀b,b<W.heap.size->¬M b->¬M' b:=fun b hb hM hx=>(hm b hx).elim hM (fun hx=>by omega)
 have blk:∀b,okC ok0 w.heap.size M W b->W'.heap[b]?=W.heap[b]?:=fun b hb=>hb.elim (fun hb=>old b (by omega)) (fun hb=>by
  obtain⟨_,⟨hlt,_⟩,hM,i,v,hc⟩:=hb;exact new b i v hlt hM hc)
 have okk:∀b,okC ok0 w.heap.size M W b->okC ok0 w.heap.size M' W' b:=fun b hb=>by
  have e:=blk b hb
  rcases hb with hb | ⟨h0,⟨hlt,hl1⟩,hM,i,v,hc⟩
  ·exact .inl hb
  ·exact .inr ⟨h0,⟨by omega,hl1⟩,nM b hlt hM,i,v,(World.cell?_of_block e).trans hc⟩
 refine⟨fun b hb=>(hm b hb).elim (h.mine b) (fun hx=>by omega),h1,by omega,h.below.trans (ht.below (n:=w.heap.size) (by omega) (fun b hb=>hb.elim (fun hx=>by have:=h.mine b hx;omega) (fun hx=>by omega))),?_,fun p hp=>?_,h.apart⟩
 ·obtain⟨us,hus,hl⟩:=h.root
  exact⟨us,fun i hi=>(World.cell?_of_block (old w.heap.size (by omega))).trans (hus i hi),hl.kept okk h3 (fun b hb _=>blk b hb)⟩
 ·obtain⟨⟨g1,g2,g3,g4⟩,us,hus,hl⟩:=h.wait p hp
  have hlen:=hl.len;have e:W'.heap[p.1.1]?=W.heap[p.1.1]?:=new _ _ _ g3 g2 ((hus 0 (by omega)).trans (List.getElem?_eq_getElem (by omega)))
  exact⟨⟨g1,nM _ g3 g2,by omega,g4.same e⟩,us,fun i hi=>(World.cell?_of_block e).trans (hus i hi),hl⟩
theorem Y5 {ok:Nat->Prop}{w W:World}{f B o q k i:Nat}{xs:List Value}{z:V}(hk:k=4\/k=5)(h3:∃s,W.cell? ⟨B,o+3,none⟩=some (.string s))(h4:∃p n c,W.cell? ⟨B,o+4,none⟩=some (.slice p n c))(h5:∃p n c,W.cell? ⟨B,o+5,none⟩=some (.slice p n c))
  (hl:LiesV ok f w xs z) (hx:∀i,i<6->W.cell? ⟨B,q+i,none⟩=xs[i]?) (hi:i<6) (e:q+i=o+k):q=o:=by
 have hlen:=hl.len
 match xs,hlen with
 | [x0,x1,x2,x3,x4,x5],_=>
  obtain⟨vk,vn,vb,vs,vpL,vnL,vcL,vpE,vnE,vcE,rfl,rfl,rfl,rfl,rfl,rfl⟩:=hl.form;obtain⟨s,h3⟩:=h3;obtain⟨p4,n4,c4,h4⟩:=h4;obtain⟨p5,n5,c5,h5⟩:=h5;have hc:=hx i hi;rw [e] at hc
  rcases hk with rfl | rfl
  ·rw [h4] at hc
   match i,hi with
   | 0,_=>cases hc
   | 1,_=>cases hc
   | 2,_=>cases hc
   | 3,_=>cases hc
   | 4,_=>omega
   | 5,_=>
    have:=hx 4 (by omega);rw [show q+4=o+3 by omega,h3] at this;cases this
  ·rw [h5] at hc
   match i,hi with
   | 0,_=>cases hc
   | 1,_=>cases hc
   | 2,_=>cases hc
   | 3,_=>cases hc
   | 4,_=>
    have:=hx 3 (by omega);rw [show q+3=o+4 by omega,h4] at this;cases this
   | 5,_=>omega
theorem CopyI.turn {ok0:Nat->Prop}{w:World}{n1 f:Nat}{t:V}{M:Nat->Prop}{s:List (Nd×V)}{W W1:World}(h:CopyI ok0 w n1 f t M s W)(hM:∀b,M b->b<W.heap.size){B o k d n c c':Nat}{p p':Option Addr}(hk:k=4\/k=5)(hd:d=if k=4 then 6 else 7)
  (b1:w.heap.size<=B) (b2:¬M B) (b3:B<W.heap.size) (b4:Free W B) (b5:∀q,q∈s->pl q≠(B,o)) (h3:∃s,W.cell? ⟨B,o+3,none⟩=some (.string s)) (h4:∃p n c,W.cell? ⟨B,o+4,none⟩=some (.slice p n c)) (h5:∃p n c,W.cell? ⟨B,o+5,none⟩=some (.slice p n c))
  (hc:W.cell? ⟨B,o+k,none⟩=some (.slice p n c)) (hg:W.grownBy W1 none) (m1:n<=c') (m2:c'<=maxLen)
  (hrow:n≠0->p'=some ⟨W.heap.size,0,none⟩/\W.heap.size<W1.heap.size/\Free W1 W.heap.size/\∃b q,p=some ⟨b,q,none⟩/\b<w.heap.size/\ok0 b/\∀i,i<n*d->(W.cell? ⟨b,q+i,none⟩).isSome=true/\W1.cell? ⟨W.heap.size,0+i,none⟩=W.cell? ⟨b,q+i,none⟩) :
  CopyI ok0 w n1 f t M s (W1.setCell ⟨B,o+k,none⟩ (.slice p' n c'))/\(∀b,b<W.heap.size->b≠B->(W1.setCell ⟨B,o+k,none⟩ (.slice p' n c')).heap[b]?=W.heap[b]?)/\
   (∀i,i≠o+k->(W1.setCell ⟨B,o+k,none⟩ (.slice p' n c')).cell? ⟨B,i,none⟩=W.cell? ⟨B,i,none⟩)/\(W1.setCell ⟨B,o+k,none⟩ (.slice p' n c')).cell? ⟨B,o+k,none⟩=some (.slice p' n c')/\Free (W1.setCell ⟨B,o+k,none⟩ (.slice p' n c')) B/\
   (n≠0->Free (W1.setCell ⟨B,o+k,none⟩ (.slice p' n c')) W.heap.size/\∀i,(W1.setCell ⟨B,o+k,none⟩ (.slice p' n c')).cell? ⟨W.heap.size,i,none⟩=W1.cell? ⟨W.heap.size,i,none⟩)/\W1.heap.size=(W1.setCell ⟨B,o+k,none⟩ (.slice p' n c')).heap.size:=by
 have h1:=h.lt;have hs1:=h.size;have hgs:=hg.size;have old:∀b,b<W.heap.size->W1.heap[b]?=W.heap[b]?:=fun b hb=>hg.block b hb (by simp)
 have hcell1:W1.cell? ⟨B,o+k,none⟩=some (.slice p n c):=(World.cell?_of_block (old B b3)).trans hc
 obtain⟨W',hW'⟩:∃W',W'=W1.setCell ⟨B,o+k,none⟩ (.slice p' n c'):=⟨_,rfl⟩
 rw [<-hW'];have hsz:W'.heap.size=W1.heap.size:=by rw [hW'];simp [World.setCell]
 have blk:∀b,b≠B->W'.heap[b]?=W1.heap[b]?:=fun b hb=>by rw [hW'];exact Below.heap_setCell _ _ _ _ (fun e=>hb e)
 have cel:∀i,i≠o+k->W'.cell? ⟨B,i,none⟩=W.cell? ⟨B,i,none⟩:=fun i hi=>by
  rw [hW'];refine(World.cell?_setCell_other _ (a:=⟨B,o+k,none⟩) (b:=⟨B,i,none⟩) _ ?_).trans (World.cell?_of_block (old B b3));intro e;injection e with _ e;omega
 have hit:W'.cell? ⟨B,o+k,none⟩=some (.slice p' n c'):=by rw [hW'];exact World.cell?_setCell_same _ _ _ hcell1
 have hfr:Free W' B:=by rw [hW'];exact(b4.same (old B b3)).set _ _
 have same:∀b i,b<W.heap.size->¬(b=B/\i=o+k)->W'.cell? ⟨b,i,none⟩=W.cell? ⟨b,i,none⟩:=fun b i hb hne=>by
  by_cases e:b=B
  ·subst e
   exact cel i (fun e=>hne ⟨rfl,e⟩)
  ·exact(World.cell?_of_block (blk b e)).trans (World.cell?_of_block (old b hb))
 have weak:∀b,okC ok0 w.heap.size M W b->okC ok0 w.heap.size M W' b:=fun b hb=>by
  rcases hb with hb | ⟨h0,⟨hlt,hl1⟩,hM',i,v,hv⟩
  ·exact .inl hb
  ·refine .inr ⟨h0,⟨by omega,hl1⟩,hM',?_⟩
   by_cases e:b=B/\i=o+k
   ·obtain⟨rfl,rfl⟩:=e
    exact⟨_,_,hit⟩
   ·exact⟨i,v,(same b i hlt e).trans hv⟩
 have okb:∀b,okC ok0 w.heap.size M W b->b<W.heap.size:=fun b hb=>hb.elim (fun hb=>by omega) (fun hb=>hb.2.1.1)
 have NR:NewRow (okC ok0 w.heap.size M W) (okC ok0 w.heap.size M W') W W' B o k:=by
  refine⟨by omega,weak,hk,h3,h4,h5,fun b i _ hb hne=>same b i hb hne,p,n,c,p',c',hc,hit,m1,m2,fun hn=>?_⟩;obtain⟨e1,e2,e3,b,q,e4,e5,e6,e7⟩:=hrow hn;have hne:W.heap.size≠B:=by omega
  have hq:∀i,i<n*(if k=4 then 6 else 7)->W'.cell? ⟨W.heap.size,0+i,none⟩=W'.cell? ⟨b,q+i,none⟩:=fun i hi=>by
   rw [<-hd] at hi;exact(World.cell?_of_block (blk _ hne)).trans ((e7 i hi).2.trans (same b (q+i) (by omega) (fun e=>by omega)).symm)
  refine⟨b,q,W.heap.size,0,e4,e1,.inr ⟨by omega,⟨by omega,by omega⟩,fun hx=>by have:=hM _ hx;omega,0,?_⟩,by omega,hq⟩;have hpos:0<n*d:=Nat.mul_pos (by omega) (by rw [hd];split<;>omega);obtain⟨i1,i2⟩:=e7 0 hpos;obtain⟨v,hv⟩:=Option.isSome_iff_exists.1 i1;exact⟨v,(World.cell?_of_block (blk _ hne)).trans (i2.trans hv)⟩
 refine⟨⟨h.mine,h1,by omega,?_,?_,fun q hq=>?_,h.apart⟩,fun b hb hne=>(blk b hne).trans (old b hb),cel,hit,hfr,fun hn=>?_,hsz.symm⟩
 ·refine h.below.trans ⟨?_,?_,?_,by omega,fun b hb=>(blk b (by omega)).trans (old b (by omega))⟩
  ·rw [hW'];exact hg.os
  ·rw [hW'];exact hg.tape
  ·rw [hW'];exact hg.output
 ·obtain⟨us,hus,hl⟩:=h.root
  have hlen:=hl.len;have hr:okC ok0 w.heap.size M W w.heap.size:=.inr ⟨Nat.le_refl _,⟨by omega,by omega⟩,fun hx=>by have:=h.mine _ hx;omega,0+0,_,(hus 0 (by omega)).trans (List.getElem?_eq_getElem (by omega))⟩;exact NR.elem hr (by omega) hl (NR.value hl) hus
 ·obtain⟨⟨g1,g2,g3,g4⟩,us,hus,hl⟩:=h.wait q hq
  refine⟨⟨g1,g2,by omega,?_⟩,us,fun i hi=>?_,hl⟩
  ·by_cases e:q.1.1=B
   ·rw [e];exact hfr
   ·exact g4.same ((blk _ e).trans (old _ g3))
  ·rw [<-hus i hi]
   refine same _ _ g3 (fun e=>b5 q hq ?_);obtain⟨e1,e2⟩:=e;have hus':∀i,i<6->W.cell? ⟨B,q.1.2.1+i,none⟩=us[i]?:=fun i hi=>by rw [<-e1];exact hus i hi
   have:=Y5 hk h3 h4 h5 hl hus' hi e2;simp only [pl,e1,this]
 ·obtain⟨e1,e2,e3,_⟩:=hrow hn
  have hne:W.heap.size≠B:=by omega
  exact⟨e3.same (blk _ hne),fun i=>World.cell?_of_block (blk _ hne)⟩
open Go.RowKit Go.Shelf
theorem CopyI.tail {ok0:Nat->Prop}{w:World}{n1 f:Nat}{t:V}{M:Nat->Prop}{p:Nd×V}{s:List (Nd×V)}{W:World}(h:CopyI ok0 w n1 f t M (p :: s) W):CopyI ok0 w n1 f t M s W/\∀q,q∈s->pl q≠pl p:=by
 have ha:=h.apart;rw [List.map_cons,List.nodup_cons] at ha;refine⟨⟨h.mine,h.lt,h.size,h.below,h.root,fun q hq=>h.wait q (by simp [hq]),ha.2⟩,fun q hq e=>ha.1 ?_⟩;rw [<-e];exact List.mem_map.2 ⟨q,hq,rfl⟩
theorem RowIn.flat {ok:Nat->Prop}{w:World}{p:Option Addr}{d n:Nat}{Q:Nat->List Value->Prop}(h:RowIn ok w p d n Q)(hd:0<d)(hQ:∀j us,Q j us->∀u,u∈us->u.oneCell'=true)(hn:n≠0) :
  ∃b q,p=some ⟨b,q,none⟩/\b<w.heap.size/\ok b/\∀i,i<n*d->∃u,w.cell? ⟨b,q+i,none⟩=some u/\u.oneCell'=true:=by
 obtain⟨b,q,hp,hok,hb,hk⟩:=h hn;refine⟨b,q,hp,hb,hok,fun i hi=>?_⟩;have hj:i / d<n:=(Nat.div_lt_iff_lt_mul hd).2 hi;have hr:i % d<d:=Nat.mod_lt _ hd;obtain⟨us,u1,u2,u3⟩:=hk (i / d) hj
 have e:q+i / d*d+i % d=q+i:=by
  have:=Nat.div_add_mod i d;rw [Nat.mul_comm] at this;omega
 have hc:=u2 (i % d) hr;rw [e,List.getElem?_eq_getElem (by omega)] at hc;exact⟨_,hc,hQ _ us u3 _ (List.getElem_mem _)⟩
theorem LiesV.ones {ok:Nat->Prop}{f:Nat}{w:World}{us:List Value}{t:V}(h:LiesV ok f w us t):∀u,u∈us->u.oneCell'=true:=by
 have hlen:=h.len
 match us,hlen with
 | [x0,x1,x2,x3,x4,x5],_=>
  obtain⟨vk,vn,vb,vs,vpL,vnL,vcL,vpE,vnE,vcE,rfl,rfl,rfl,rfl,rfl,rfl⟩:=h.form;intro u hu;simp only [List.mem_cons,List.not_mem_nil,or_false] at hu
  rcases hu with rfl | rfl | rfl | rfl | rfl | rfl<;>rfl
def Z8 (n0:Nat)(w W:World)(M:Nat->Prop)(p p':Option Addr)(n d g:Nat):Prop:=n≠0->p'=some ⟨g,0,none⟩/\(n0<=g/\¬M g/\g<W.heap.size/\Free W g)/\∃b q,p=some ⟨b,q,none⟩/\∀i,i<n*d->W.cell? ⟨g,0+i,none⟩=w.cell? ⟨b,q+i,none⟩
theorem ZE {g:V->Nat}:∀{l:List V},(∀y,y∈l->1<=g y)->l.length<=jo g l
 | [],_=>Nat.zero_le _
 | y :: l,h=>by
  have h1:=h y (by simp);have h2:=ZE (l:=l) (fun z hz=>h z (by simp [hz]))
  show l.length+1<=g y+jo g l
  omega
theorem Qn (g d k:Nat)(a:Int)(n:Nat)(hd:0<d):((jC (some ⟨g,0,none⟩) d k a n).map fun x=>(x.1,x.2.1)).Nodup:=by
 rw [jC,List.map_map];refine List.Pairwise.map _ (fun i j (hij:i≠j)=>?_) List.nodup_range;intro e;simp only [Function.comp,Qa,Option.getD_some,Prod.mk.injEq,true_and] at e;have:i*d=j*d:=by omega
 exact hij (Nat.eq_of_mul_eq_mul_right hd this)
theorem zO (g d k:Nat)(a:Int)(n:Nat){x:Nd}(h:x∈jC (some ⟨g,0,none⟩) d k a n):x.1=g:=by
 obtain⟨j,_,rfl⟩:=List.mem_map.1 h;rfl
theorem CopyI.kids {ok0:Nat->Prop}{w:World}{n1 f:Nat}{t:V}{M:Nat->Prop}{s:List (Nd×V)}{W:World}(h:CopyI ok0 w n1 f t M s W){x:Nd}{us:List Value}{z:V}(hl:LiesV ok0 f w us z){pL pE pL' pE':Option Addr}{nL nE cL cE cL' cE' g4 g5:Nat}(u4:us[4]?=some (.slice pL nL cL))(u5:us[5]?=some (.slice pE nE cE))
  (hM:¬M x.1) (hx:x.1<W.heap.size) (c4:W.cell? ⟨x.1,x.2.1+4,none⟩=some (.slice pL' nL cL')) (c5:W.cell? ⟨x.1,x.2.1+5,none⟩=some (.slice pE' nE cE')) (mL:Z8 w.heap.size w W M pL pL' nL 6 g4) (mE:Z8 w.heap.size w W M pE pE' nE 7 g5) (h45:nL≠0->nE≠0->g4≠g5) (hs:∀q,q∈s->(nL≠0->q.1.1≠g4)/\(nE≠0->q.1.1≠g5)) :
  ∃ks:List (Nd×V),KidsN M W x (ks.map Prod.fst)/\ks.map Prod.snd=parts z/\CopyI ok0 w n1 f t M (ks++s) W/\jM f (ks++s)+1=jM f ((x,z) :: s)/\∀q,q∈ks->(nL≠0/\q.1.1=g4)\/(nE≠0/\q.1.1=g5):=by
 cases f with
 | zero=>exact hl.elim
 | succ f=>
  have hz:=hl.isV;obtain⟨k,n,b,sx,L,E,vL,vE,vcL,vcE,rfl,rfl,h3,h4,hL,hE⟩:=hl;cases u4
  cases u5
  obtain⟨a,ha⟩:∃a:Int,a=IntKind.i64.wrap (x.2.2+1):=⟨_,rfl⟩
  have kL:L.length≠0->pL'=some ⟨g4,0,none⟩:=fun hn=>(mL hn).1
  have kE:E.length≠0->pE'=some ⟨g5,0,none⟩:=fun hn=>(mE hn).1
  obtain⟨ks,hks⟩:∃ks,ks=(jC pL' 6 0 a L.length).zip L++(jC pE' 7 1 a E.length).zip (E.map fun e=>(jE e).2):=⟨_,rfl⟩
  have hf:ks.map Prod.fst=jC pL' 6 0 a L.length++jC pE' 7 1 a E.length:=by
   rw [hks,List.map_append,List.map_fst_zip (by rw [jy];exact Nat.le_refl _),List.map_fst_zip (by rw [jy,List.length_map];exact Nat.le_refl _)]
  have hsnd:ks.map Prod.snd=parts (mkV (k,n,b,sx.data.toList) L E):=by
   rw [hks,List.map_append,List.map_snd_zip (by rw [jy];exact Nat.le_refl _),List.map_snd_zip (by rw [jy,List.length_map];exact Nat.le_refl _),jB]
  have hblk:∀q,q∈ks->(L.length≠0/\q.1.1=g4)\/(E.length≠0/\q.1.1=g5):=fun q hq=>by
   have hq':q.1∈ks.map Prod.fst:=List.mem_map.2 ⟨q,hq,rfl⟩;rw [hf] at hq'
   rcases List.mem_append.1 hq' with hq' | hq'
   ·have hn:L.length≠0:=fun e=>by rw [e] at hq';cases hq'
    rw [kL hn] at hq';exact .inl ⟨hn,zO _ _ _ _ _ hq'⟩
   ·have hn:E.length≠0:=fun e=>by rw [e] at hq';cases hq'
    rw [kE hn] at hq';exact .inr ⟨hn,zO _ _ _ _ _ hq'⟩
  refine⟨ks,⟨pL',pE',L.length,cL',E.length,cE',hM,hx,c4,c5,fun hn=>⟨_,_,kL hn⟩,fun hn=>⟨_,_,kE hn⟩,by rw [hf,ha]⟩,hsnd,⟨h.mine,h.lt,h.size,h.below,h.root,fun q hq=>?_,?_⟩,?_,hblk⟩
  ·rcases List.mem_append.1 hq with hq | hq
   ·rw [hks] at hq
    rcases List.mem_append.1 hq with hq | hq
    ·obtain⟨j,hj,e⟩:=List.getElem_of_mem hq
     have hj0:=hj;rw [List.length_zip,jy,Nat.min_self] at hj0;have ep:=kL (by omega);subst ep;rw [List.getElem_zip,zQ] at e;obtain⟨_,m2,mb,mq,rfl,m3⟩:=mL (by omega);obtain⟨B,o,eb,hb,hbl,hk⟩:=hL (by omega);cases eb
     obtain⟨vs,v1,v2,y,hy,hly⟩:=hk j hj0;rw [List.getElem?_eq_getElem hj0] at hy;injection hy with hy;rw [<-e];refine⟨m2,vs,fun i hi=>?_,?_⟩
     ·rw [<-v2 i hi]
      have h6:(j+1)*6<=L.length*6:=Nat.mul_le_mul_right 6 hj0;have:=m3 (j*6+i) (by omega);rw [<-Nat.add_assoc,<-Nat.add_assoc] at this;exact this
     ·rw [hy]
      exact hly.up
    ·obtain⟨j,hj,e⟩:=List.getElem_of_mem hq
     have hj0:=hj;rw [List.length_zip,jy,List.length_map,Nat.min_self] at hj0;have ep:=kE (by omega);subst ep;rw [List.getElem_zip,zQ,List.getElem_map] at e;obtain⟨_,m2,mb,mq,rfl,m3⟩:=mE (by omega);obtain⟨B,o,eb,hb,hbl,hk⟩:=hE (by omega);cases eb
     obtain⟨vs,v1,v2,key,y,xs,hy,rfl,_,hly⟩:=hk j hj0;rw [List.getElem?_eq_getElem hj0] at hy;injection hy with hy;rw [<-e];refine⟨m2,xs,fun i hi=>?_,?_⟩
     ·have hv:=v2 (i+1) (by omega)
      rw [List.getElem?_cons_succ] at hv;rw [<-hv];have h6:(j+1)*7<=E.length*7:=Nat.mul_le_mul_right 7 hj0;have:=m3 (j*7+(i+1)) (by omega);rw [<-Nat.add_assoc mq] at this;rw [<-this]
      show W.cell? ⟨g5,0+j*7+1+i,none⟩=_
      congr 2
      omega
     ·rw [hy,jv]
      exact hly.up
   ·exact h.wait q hq
  ·rw [List.map_append,List.nodup_append]
   refine⟨?_,h.apart,?_⟩
   ·have e:ks.map pl=(ks.map Prod.fst).map fun x=>(x.1,x.2.1):=by rw [List.map_map];rfl
    rw [e,hf,List.map_append,List.nodup_append];refine⟨?_,?_,?_⟩
    ·by_cases hn:L.length=0
     ·rw [hn];exact List.nodup_nil
     ·rw [kL hn];exact Qn _ _ _ _ _ (by omega)
    ·by_cases hn:E.length=0
     ·rw [hn];exact List.nodup_nil
     ·rw [kE hn];exact Qn _ _ _ _ _ (by omega)
    ·intro u hu v hv huv
     obtain⟨u',hu',rfl⟩:=List.mem_map.1 hu;obtain⟨v',hv',rfl⟩:=List.mem_map.1 hv;have hn:L.length≠0:=fun e=>by rw [e] at hu';cases hu'
     have hn':E.length≠0:=fun e=>by rw [e] at hv';cases hv'
     rw [kL hn] at hu';rw [kE hn'] at hv';have e1:=zO _ _ _ _ _ hu';have e2:=zO _ _ _ _ _ hv';simp only [Prod.mk.injEq] at huv;exact h45 hn hn' (by rw [<-e1,<-e2];exact huv.1)
   ·intro u hu v hv huv
    obtain⟨u',hu',rfl⟩:=List.mem_map.1 hu;obtain⟨v',hv',rfl⟩:=List.mem_map.1 hv;simp only [pl,Prod.mk.injEq] at huv
    rcases hblk u' hu' with ⟨hn,e⟩ | ⟨hn,e⟩
    ·exact(hs v' hv').1 hn (by rw [<-e];exact huv.1.symm)
    ·exact(hs v' hv').2 hn (by rw [<-e];exact huv.1.symm)
  ·rw [JG,j8,qt hz,jM,hsnd]
   omega
theorem CopyI.len {ok0:Nat->Prop}{w:World}{n1 f:Nat}{t:V}{M:Nat->Prop}{W:World}:∀{s:List (Nd×V)},CopyI ok0 w n1 f t M s W->(zh s).length<=jM f s
 | [],_=>Nat.zero_le _
 | p :: s,h=>by
  have h1:=CopyI.len (s:=s) h.tail.1;obtain⟨_,us,_,hl⟩:=h.wait p (by simp);have:=qY hl.isV;rw [j8];simp only [zh,List.map_cons,List.length_cons] at *;omega
open Go.RowKit Go.Shelf
attribute [local go_sem] Oper.semAt_some
theorem JP:(Tryd.prog.info? 26).map (fun i=>(i.zero,i.size,i.bytes))=some (some (.agg #[.int .i64 0,.int .i64 0,.int .u64 0,.string ⟨#[]⟩,.slice none 0 0,.slice none 0 0]),6,88):=by kernel_rfl
theorem JK:(Tryd.prog.info? 57).map (fun i=>(i.zero,i.size,i.bytes))=some (some (.agg #[.string ⟨#[]⟩,.int .i64 0,.int .i64 0,.int .u64 0,.string ⟨#[]⟩,.slice none 0 0,.slice none 0 0]),7,104):=by kernel_rfl
theorem Z6 {ok0:Nat->Prop}{w:World}{n1 f:Nat}{t:V}{M:Nat->Prop}{s:List (Nd×V)}{W:World}(h:CopyI ok0 w n1 f t M s W)(T e d bytes:Nat){z:Value}(hz:z.cells.size=d)(ht:Tryd.prog.underlying T=some (.slice e))(hi:(Tryd.prog.info? e).map (fun i=>(i.zero,i.size,i.bytes))=some (some z,d,bytes))(hd:0<d)(hby:bytes<=200)
  {p:Option Addr} {n c:Nat} {Q:Nat->List Value->Prop} (hn:n<=10000000) (hR:RowIn ok0 w p d n Q) (hQ:∀j us,Q j us->∀u,u∈us->u.oneCell'=true) :
  ∃p' c' W1,(Builtin.append_ #[T,T] T #[.slice none 0 0,.slice p n c]).run Tryd.prog W.drew=.ok (.slice p' n c') W1/\W.grownBy W1 none/\n<=c'/\c'<=maxLen/\
   (n≠0->p'=some ⟨W.heap.size,0,none⟩/\W.heap.size<W1.heap.size/\Free W1 W.heap.size/\∃b q,p=some ⟨b,q,none⟩/\b<w.heap.size/\ok0 b/\∀i,i<n*d->(W.cell? ⟨b,q+i,none⟩).isSome=true/\W1.cell? ⟨W.heap.size,0+i,none⟩=W.cell? ⟨b,q+i,none⟩):=by
 obtain⟨i0,hi,hz0,hz1,hz2⟩:=info_parts hi;have hcell:∀b i,b<w.heap.size->W.cell? ⟨b,i,none⟩=w.cell? ⟨b,i,none⟩:=fun b i hb=>World.cell?_of_block (h.below.block b hb)
 obtain⟨p',c',W1,r1,r2,r3,r4,r5⟩:=Yt (P:=Tryd.prog) T T e i0 z d bytes ht hi hz0 hz1 hz2 hz hd hby (W:=W.drew) (p:=p) (n:=n) (c:=c) hn (fun hne=>by
  obtain⟨b,q,hp,hb,_,hk⟩:=hR.flat hd hQ hne;refine⟨b,q,hp,fun i hi=>?_⟩;obtain⟨u,hu,h1⟩:=hk i hi;exact⟨u,(hcell b _ hb).trans hu,h1⟩)
 refine⟨p',c',W1,r1,⟨r2.os,r2.tape,r2.output,r2.size,r2.block⟩,r3,r4,fun hne=>?_⟩;obtain⟨e1,e2,e3,b,q,e4,e5⟩:=r5 hne;obtain⟨b',q',hp,hb,hok,hk⟩:=hR.flat hd hQ hne;rw [e4] at hp;cases hp
 refine⟨e1,e2,e3,b,q,e4,hb,hok,fun i hi=>⟨?_,e5 i hi⟩⟩;obtain⟨u,hu,_⟩:=hk i hi;rw [hcell b _ hb,hu];rfl
theorem zM (W:World)(B:Nat)(u0 u1 u2 u3 u4 u5:Value):Turns (fun b=>b=B) W (jp W B u0 u1 u2 u3 u4 u5):=by
 have h:=fun(X:World) (i:Nat) (v:Value)=>Turns.setCell (M:=fun b=>b=B) X ⟨B,i,none⟩ v rfl
 exact(((((h W 0 u0).trans (h _ 1 u1) (fun _ _ h=>h)).trans (h _ 2 u2) (fun _ _ h=>h)).trans (h _ 3 u3) (fun _ _ h=>h)).trans (h _ 4 u4) (fun _ _ h=>h)).trans (h _ 5 u5) (fun _ _ h=>h)
theorem JQ {w:World}{B:Nat}{u0 u1 u2 u3 u4 u5:Value}(tmps:Array Value)(h:Blk w B #[u0,u1,u2,u3,u4,u5] 26)(ht:tmps[2]?=some (.pointer (some ⟨B,0,none⟩)):=by rfl):(results Tryd.f29 tmps).run Tryd.prog w=.ok (.agg #[u0,u1,u2,u3,u4,u5]) w:=by
 obtain⟨c0,c1,c2,c3,c4,c5⟩:=h.cells6;simp [results,Tryd.f29,ht,go_sem,c0,c1,c2,c3,c4,c5]
theorem LiesV.rows {ok:Nat->Prop}{f:Nat}{w:World}{us:List Value}{z:V}(h:LiesV ok f w us z):∃(k n:Int) (b:Nat) (s:ByteArray) (pL:Option Addr) (nL cL:Nat) (pE:Option Addr) (nE cE:Nat) (QL QE:Nat->List Value->Prop),us=[.int .i64 k,.int .i64 n,.int .u64 (b:Int),.string s,.slice pL nL cL,.slice pE nE cE]/\
  RowIn ok w pL 6 nL QL/\(∀j us,QL j us->∀u,u∈us->u.oneCell'=true)/\RowIn ok w pE 7 nE QE/\(∀j us,QE j us->∀u,u∈us->u.oneCell'=true)/\nL+nE<=jd f z:=by
 cases f with
 | zero=>exact h.elim
 | succ f=>
  have hz:=h.isV;obtain⟨k,n,b,s,L,E,pL,pE,cL,cE,rfl,rfl,h3,h4,hL,hE⟩:=h;refine⟨k,n,b,s,pL,_,cL,pE,_,cE,_,_,rfl,hL,?_,hE,?_,?_⟩
  ·rintro j us ⟨y,_,hy⟩
   exact hy.ones
  ·rintro j us ⟨key,y,xs,_,rfl,_,hy⟩ u hu
   rcases List.mem_cons.1 hu with rfl | hu
   ·rfl
   ·exact hy.ones u hu
  ·rw [qt hz,jB]
   have hp:∀y,y∈L++E.map (fun e=>(jE e).2)->1<=jd (f+1) y:=fun y hy=>by
    rcases List.mem_append.1 hy with hy | hy
    ·obtain⟨j,hj,e⟩:=List.getElem_of_mem hy
     obtain⟨_,_,_,_,_,hk⟩:=hL (by omega);obtain⟨_,_,_,y',hy',hly⟩:=hk j hj;rw [List.getElem?_eq_getElem hj,e] at hy';cases hy'
     exact qY hly.up.isV
    ·obtain⟨q,hq,rfl⟩:=List.mem_map.1 hy
     obtain⟨j,hj,e⟩:=List.getElem_of_mem hq;obtain⟨_,_,_,_,_,hk⟩:=hE (by omega);obtain⟨_,_,_,key,y',xs,hy',_,_,hly⟩:=hk j hj;rw [List.getElem?_eq_getElem hj,e] at hy';cases hy'
     rw [jv];exact qY hly.up.isV
   have:=ZE hp;rw [List.length_append,List.length_map] at this;omega
theorem ja7 (ok0:Nat->Prop)(f:Nat)(w:World)(t:V)(a0 a1 a2 a3 a4 a5:Value)(hok:∀b,ok0 b->b<w.heap.size)(hl:LiesV ok0 f w [a0,a1,a2,a3,a4,a5] t)(hn:jd f t<=10000000) :
  CallsIn Fence.wide 9 Tryd.prog 29 #[.agg #[a0,a1,a2,a3,a4,a5]] w fun e w'=>(∃x0 x1 x2 x3 x4 x5,e=.returned (.agg #[x0,x1,x2,x3,x4,x5])/\LiesV (fun b=>ok0 b\/(w.heap.size<=b/\b<w'.heap.size)) f w' [x0,x1,x2,x3,x4,x5] t)/\Below w.heap.size w w':=by
 obtain⟨k,n,b,s,pL,nL,cL,pE,nE,cE,rfl,rfl,rfl,rfl,rfl,rfl⟩:=hl.form;refine callsIn_of_wp_marks Tryd.func29 rfl trivial ?_ rfl
 simp only [Tryd.ntmps29,List.size_toArray,List.length_cons,List.length_nil,Nat.reduceAdd,Nat.reduceSub,Array.replicate_succ,Array.replicate_zero,List.push_toArray,List.append_toArray,List.nil_append,List.cons_append]
 gi_wp2
 obtain⟨Wb,hWb⟩:∃Wb,Wb=(w.alloc (.cells #[.int .i64 k,.int .i64 n,.int .u64 (b:Int),.string s,.slice pL nL cL,.slice pE nE cE] 26)).alloc (.cells #[.int .i64 0,.int .i64 0,.int .u64 0,.string ⟨#[]⟩,.slice none 0 0,.slice none 0 0] 26):=⟨_,rfl⟩
 rw [<-hWb];have sb:Wb.heap.size=w.heap.size+2:=by rw [hWb];simp
 have tb:Below w.heap.size w Wb:=by rw [hWb];exact((Below.refl _ w).alloc (Nat.le_refl _) _).alloc (by simp) _
 have vb:Blk Wb w.heap.size #[.int .i64 k,.int .i64 n,.int .u64 (b:Int),.string s,.slice pL nL cL,.slice pE nE cE] 26:=by rw [hWb];exact(jb w _ _).alloc _
 have rb:Blk Wb (w.heap.size+1) #[.int .i64 0,.int .i64 0,.int .u64 0,.string ⟨#[]⟩,.slice none 0 0,.slice none 0 0] 26:=by
  rw [hWb];have:=jb (w.alloc (.cells #[.int .i64 k,.int .i64 n,.int .u64 (b:Int),.string s,.slice pL nL cL,.slice pE nE cE] 26)) #[.int .i64 0,.int .i64 0,.int .u64 0,.string ⟨#[]⟩,.slice none 0 0,.slice none 0 0] 26;rwa [World.size_alloc] at this
 clear hWb;refine⟨trivial,(JC _ _ _).mono ?_⟩
 rintro e w' ⟨rfl,rfl⟩
 gi_wp2
 obtain⟨W2,hW2⟩:∃W2,W2=(Wb.alloc (.cells #[.pointer (some ⟨w.heap.size,0,none⟩),.int .i64 0] 77)).alloc (.cells #[.func (.func 56) #[] #[]] 107):=⟨_,rfl⟩
 rw [<-hW2];have s2:W2.heap.size=Wb.heap.size+2:=by rw [hW2];simp
 have t2:Turns (fun _=>False) Wb W2:=by rw [hW2];exact(Turns.alloc _ _ _).trans (Turns.alloc (fun _=>False) _ _) (fun _ _ h=>h)
 have x1:W2.heap[w.heap.size+2]?=some (.cells #[.pointer (some ⟨w.heap.size,0,none⟩),.int .i64 0] 77):=by rw [<-sb,hW2];exact(jb Wb _ _).alloc _
 have x2:W2.heap[w.heap.size+2+1]?=some (.cells #[.func (.func 56) #[] #[]] 107):=by
  rw [<-sb,hW2];have:=jb (Wb.alloc (.cells #[.pointer (some ⟨w.heap.size,0,none⟩),.int .i64 0] 77)) #[.func (.func 56) #[] #[]] 107;rwa [World.size_alloc] at this
 clear hW2
 refine qS (lb:=#[.pointer (some ⟨w.heap.size+2,0,none⟩),.pointer (some ⟨w.heap.size+2+1,0,none⟩)]) rfl (enters_of Tryd.func71 (by kernel_rfl) rfl)
  (Qu (w.heap.size+2) (w.heap.size+2+1) (w.heap.size,0,0) zh (jM f) W2 x1 x2) (Below.refl _ _) rfl (fun M W x kids l o o' h _ h2 h3=>h.put o' h2 h3)
  (w.heap.size+2) (by omega)
  (fun M st W=>CopyI ok0 w (w.heap.size+2) f t M st W/\jM f st<=jd f t/\(∀p,p∈st->p.1.1≠w.heap.size+1)/\Blk W (w.heap.size+1) #[.int .i64 0,.int .i64 0,.int .u64 0,.string ⟨#[]⟩,.slice none 0 0,.slice none 0 0] 26)
  (fun _ _ _ _=>False)
  ?ab (fun _ _ _ _ _ _ h _ _=>h) [((w.heap.size,0,0),t)] rfl (fun b h=>by omega) ?start (fun M st X h=>by have:=h.1.len;omega)
  (fun x a' W=>∃Bx,Blk W Bx #[.pointer (some ⟨x.1,x.2.1,none⟩),.int .i64 x.2.2] 77/\a'={ tmps:=#[.agg #[.int .i64 k,.int .i64 n,.int .u64 (b:Int),.string s,.slice pL nL cL,.slice pE nE cE],.pointer (some ⟨w.heap.size,0,none⟩),.pointer (some ⟨w.heap.size+1,0,none⟩),.pointer (some ⟨Bx,0,none⟩),.func (.func 71) #[] #[.pointer (some ⟨w.heap.size+2,0,none⟩),.pointer (some ⟨w.heap.size+2+1,0,none⟩)],Jw x,undef,undef,undef,undef,undef,undef,undef,undef,undef,undef,undef,undef,undef,undef,undef,undef,undef,undef,undef,undef,undef],defers:=[] })
  ?ax ?assign ?body ?done (fun _ _ _ _ _ h _=>h.elim)
 case ab=>
  rintro M M' st A B ⟨hS,hle,hne,hrb⟩ ht hm
  refine⟨hS.still ht hm,hle,hne,(ht.block _ (by have:=hS.size;omega) (fun h=>?_)).trans hrb⟩
  rcases h with h | h
  ·have:=hS.mine _ h
   omega
  ·omega
 case start=>
  have e0:jM f [((w.heap.size,0,0),t)]=jd f t:=by rw [j8];rfl
  have vb2:Blk W2 w.heap.size #[.int .i64 k,.int .i64 n,.int .u64 (b:Int),.string s,.slice pL nL cL,.slice pE nE cE] 26:=(t2.block _ (by omega) (fun h=>h)).trans vb;have b2:Below w.heap.size w W2:=tb.trans (t2.below (by omega) (fun _ h=>h.elim))
  have hcs:∀i,i<6->W2.cell? ⟨w.heap.size,0+i,none⟩=[Value.int .i64 k,.int .i64 n,.int .u64 (b:Int),.string s,.slice pL nL cL,.slice pE nE cE][i]?:=fun i hi=>by
   rw [Nat.zero_add]
   match i,hi with
   | 0,_=>exact vb2.cell 0 _ rfl
   | 1,_=>exact vb2.cell 1 _ rfl
   | 2,_=>exact vb2.cell 2 _ rfl
   | 3,_=>exact vb2.cell 3 _ rfl
   | 4,_=>exact vb2.cell 4 _ rfl
   | 5,_=>exact vb2.cell 5 _ rfl
  refine⟨⟨fun b h=>by omega,by omega,by omega,b2,⟨_,hcs,hl.kept (fun b hb=>.inl ⟨hok b hb,hb⟩) b2.size (fun b _ hb=>b2.block b hb)⟩,fun p hp=>?_,by simp⟩,by rw [e0];exact Nat.le_refl _,by simp,(t2.block _ (by omega) (fun h=>h)).trans rb⟩;rw [List.mem_singleton.1 hp];exact⟨⟨Nat.le_refl _,by simp only;omega,by simp only;omega,fun i=>by have h:=vb2;unfold Blk at h;simp [World.frozen?,h]⟩,_,hcs,hl⟩
 case ax=>
  rintro x a' W l o o' ⟨Bx,hb,ha⟩ h1 h2
  refine⟨Bx,(World.putObj_heap_other (fun e=>?_)).trans hb,ha⟩;rw [<-e,show W.heap[Bx]?=_ from hb] at h1;cases h1
  cases h2
 case assign=>
  intro l x W K hK;simp only [Jw] at *
  gi_wp2
  exact hK _ _ (Turns.alloc _ _ _) ⟨W.heap.size,jb _ _ _,by simp⟩
 case body=>
  rintro l M st x rest a' W hlw ⟨r,hr⟩ ⟨Bx,hbB,rfl⟩ ⟨hS,hle,hne,hrb⟩ hM ht
  cases st with
  | nil=>cases ht
  | cons p st=>
   simp only [zh,List.map_cons,List.cons.injEq] at ht;obtain⟨rfl,rfl⟩:=ht;obtain⟨hT,hap⟩:=hS.tail;obtain⟨⟨b1,b2,b3,b4⟩,us,hus,hlu⟩:=hS.wait p (by simp);obtain⟨vk,vn,vb',vs,vpL,vnL,vcL,vpE,vnE,vcE,QL,QE,rfl,hRL,hQL,hRE,hQE,hsum⟩:=hlu.rows;have hB1:p.1.1≠w.heap.size+1:=hne p (by simp);have hle2:=hle;rw [j8] at hle2;have v3:W.cell? ⟨p.1.1,p.1.2.1+3,none⟩=some (.string vs):=hus 3 (by omega)
   have v4:W.cell? ⟨p.1.1,p.1.2.1+4,none⟩=some (.slice vpL vnL vcL):=hus 4 (by omega)
   have v5:W.cell? ⟨p.1.1,p.1.2.1+5,none⟩=some (.slice vpE vnE vcE):=hus 5 (by omega)
   have nB:Bx≠p.1.1:=fun e=>by
    have h1:=hbB;unfold Blk at h1;rw [e] at h1;have h2:=v3;simp [World.cell?,h1] at h2
   have lBx:=Blk.lt hbB;have sz0:=hS.size;obtain⟨p4,c4',W1,run1,g1,m1,m2,row1⟩:=Z6 hT 23 26 6 88 rfl Tryd.underlying23 JP (by omega) (by omega) (c:=vcL) (n:=vnL) (by omega) hRL hQL;have T1:=hT.turn hM (k:=4) (d:=6) (.inl rfl) rfl b1 b2 b3 b4 hap ⟨_,v3⟩ ⟨_,_,_,v4⟩ ⟨_,_,_,v5⟩ v4 g1 m1 m2 row1;have d0:W1.cell? ⟨Bx,0,none⟩=some (.pointer (some ⟨p.1.1,p.1.2.1,none⟩)):=(World.cell?_of_block (g1.block Bx lBx (by simp))).trans (Blk.cell hbB 0 _ rfl)
   have d4:W1.cell? ⟨p.1.1,p.1.2.1+4,none⟩=some (.slice vpL vnL vcL):=(World.cell?_of_block (g1.block p.1.1 b3 (by simp))).trans v4
   have e4:W1.frozen? ⟨p.1.1,p.1.2.1+4,none⟩=false:=(b4.same (g1.block p.1.1 b3 (by simp))) _
   obtain⟨Wm,hWm⟩:∃Wm,Wm=W1.setCell ⟨p.1.1,p.1.2.1+4,none⟩ (.slice p4 vnL c4'):=⟨_,rfl⟩
   rw [<-hWm] at T1;obtain⟨hT',blk',cel',hit',free',new',sz'⟩:=T1;have sg1:=g1.size;have hbB':Blk Wm Bx #[.pointer (some ⟨p.1.1,p.1.2.1,none⟩),.int .i64 p.1.2.2] 77:=(blk' Bx lBx nB).trans hbB;have v3':=(cel' (p.1.2.1+3) (by omega)).trans v3;have v5':=(cel' (p.1.2.1+5) (by omega)).trans v5;obtain⟨p5,c5',W3,run2,g2,m3,m4,row2⟩:=Z6 hT' 24 57 7 104 rfl Tryd.underlying24 JK (by omega) (by omega) (c:=vcE) (n:=vnE) (by omega) hRE hQE;have T2:=hT'.turn (fun b hb=>by have:=hM b hb;omega) (k:=5) (d:=7) (.inr rfl) rfl b1 b2 (by omega) free' hap ⟨_,v3'⟩ ⟨_,_,_,hit'⟩ ⟨_,_,_,v5'⟩ v5' g2 m3 m4 row2;have d0':W3.cell? ⟨Bx,0,none⟩=some (.pointer (some ⟨p.1.1,p.1.2.1,none⟩)):=(World.cell?_of_block (g2.block Bx (by omega) (by simp))).trans (Blk.cell hbB' 0 _ rfl)
   have d5:W3.cell? ⟨p.1.1,p.1.2.1+5,none⟩=some (.slice vpE vnE vcE):=(World.cell?_of_block (g2.block p.1.1 (by omega) (by simp))).trans v5'
   have e5:W3.frozen? ⟨p.1.1,p.1.2.1+5,none⟩=false:=(free'.same (g2.block p.1.1 (by omega) (by simp))) _
   obtain⟨Wn,hWn⟩:∃Wn,Wn=W3.setCell ⟨p.1.1,p.1.2.1+5,none⟩ (.slice p5 vnE c5'):=⟨_,rfl⟩
   rw [<-hWn] at T2;obtain⟨hT2,blk2,cel2,hit2,free2,new2,sz2⟩:=T2;have sg2:=g2.size
   have FIN:QZ W2.heap.size (fun M st W=>CopyI ok0 w (w.heap.size+2) f t M st W/\jM f st<=jd f t/\(∀p,p∈st->p.1.1≠w.heap.size+1)/\Blk W (w.heap.size+1) #[.int .i64 0,.int .i64 0,.int .u64 0,.string ⟨#[]⟩,.slice none 0 0,.slice none 0 0] 26) (fun _ _ _ _=>False) zh (jM f) KidsN M (p :: st) p.1 (List.map Prod.fst st) W .normal { tmps:=#[],defers:=[] } Wn:=by
    have mL:Z8 w.heap.size w Wn M vpL p4 vnL 6 W.heap.size:=fun hn0=>by
     obtain⟨i1,i2,i3,ib,iq,i4,ilt,iok,i5⟩:=row1 hn0;obtain⟨j1,j2⟩:=new' hn0;have bl:Wn.heap[W.heap.size]?=Wm.heap[W.heap.size]?:=blk2 _ (by omega) (by omega)
     refine⟨i1,⟨by omega,fun hx=>by have:=hM _ hx;omega,by omega,j1.same bl⟩,ib,iq,i4,fun i hi=>?_⟩;exact(World.cell?_of_block bl).trans ((j2 _).trans ((i5 i hi).2.trans (World.cell?_of_block (hT.below.block ib ilt))))
    have mE:Z8 w.heap.size w Wn M vpE p5 vnE 7 Wm.heap.size:=fun hn0=>by
     obtain⟨i1,i2,i3,ib,iq,i4,ilt,iok,i5⟩:=row2 hn0;obtain⟨j1,j2⟩:=new2 hn0;refine⟨i1,⟨by omega,fun hx=>by have:=hM _ hx;omega,by omega,j1⟩,ib,iq,i4,fun i hi=>?_⟩;exact(j2 _).trans ((i5 i hi).2.trans (World.cell?_of_block (hT'.below.block ib ilt)))
    obtain⟨ks,hkd,hks,hK,hleft,hkb⟩:=hT2.kids (x:=p.1) hlu rfl rfl b2 (by omega) ((cel2 (p.1.2.1+4) (by omega)).trans hit') hit2 mL mE (fun hn0 _=>by have:=(row1 hn0).2.1;omega) (fun q hq=>by have:=(hT.wait q hq).1.2.2.1;exact⟨fun _=>by omega,fun _=>by omega⟩);have hleft':jM f (ks++st)+1=jM f (p :: st):=hleft;have bl1:∀b,b<W.heap.size->b≠p.1.1->Wn.heap[b]?=W.heap[b]?:=fun b hb hne=>(blk2 b (by omega) hne).trans (blk' b hb hne)
    refine⟨⟨⟨by omega,fun k o _ hk hc=>(bl1 k (Array.getElem?_eq_some_iff.1 hk).1 (fun e=>?_)).trans hk⟩,⟨hT2.below.os.trans hS.below.os.symm,hT2.below.tape.trans hS.below.tape.symm,hT2.below.output.trans hS.below.output.symm,by omega,fun b hb hnn=>bl1 b hb (fun e=>hnn (by rw [e];exact b2))⟩⟩,ks++st,ks.map Prod.fst,⟨hK,by omega,fun q hq=>?_,(bl1 _ (by omega) (fun e=>hB1 e.symm)).trans hrb⟩,by simp [zh],by omega,hkd⟩
    ·obtain⟨o2,h2,h3⟩:=cells_of_cell v3
     simp only at h2;rw [<-e,hk] at h2;cases h2
     rw [hc] at h3;cases h3
    ·rcases List.mem_append.1 hq with hq | hq
     ·rcases hkb q hq with ⟨hn0,e⟩ | ⟨hn0,e⟩
      ·rw [e];omega
      ·rw [e];omega
     ·exact hne q (by simp [hq])
   have c0:W.cell? ⟨Bx,0,none⟩=some (.pointer (some ⟨p.1.1,p.1.2.1,none⟩)):=Blk.cell hbB 0 _ rfl
   have c0':Wm.cell? ⟨Bx,0,none⟩=some (.pointer (some ⟨p.1.1,p.1.2.1,none⟩)):=Blk.cell hbB' 0 _ rfl
   have HF:=ja FIN;have H1:=ja hWm;have H2:=ja hWn;clear FIN hWm hWn new' new2 row1 row2 blk' blk2 cel' cel2 hT' hT2 hT hS hap hRL hRE hQL hQE
   gi_wp2
   refine wpIn_region_any (by kernel_rfl) ?_
   refine jbD rfl rfl rfl rfl rfl rfl rfl rfl rfl rfl rfl (by kernel_rfl) (by kernel_rfl) (by kernel_rfl) (by kernel_rfl) (by kernel_rfl) (by kernel_rfl) (by kernel_rfl) (by kernel_rfl) (by kernel_rfl) (by kernel_rfl) (by kernel_rfl) (by kernel_rfl) (by kernel_rfl) (by kernel_rfl) (by kernel_rfl) (by kernel_rfl) (by kernel_rfl) (by kernel_rfl) (by kernel_rfl) (by kernel_rfl) (by kernel_rfl) (by kernel_rfl) (by kernel_rfl) (by kernel_rfl) c0 v4 run1 d0 d4 e4 ?_
   rw [<-H1.out]
   gi_wp2
   refine wpIn_region_any (by kernel_rfl) ?_
   refine jbE rfl rfl rfl rfl rfl rfl rfl rfl rfl rfl rfl (by kernel_rfl) (by kernel_rfl) (by kernel_rfl) (by kernel_rfl) (by kernel_rfl) (by kernel_rfl) (by kernel_rfl) (by kernel_rfl) (by kernel_rfl) (by kernel_rfl) (by kernel_rfl) (by kernel_rfl) (by kernel_rfl) (by kernel_rfl) (by kernel_rfl) (by kernel_rfl) (by kernel_rfl) (by kernel_rfl) (by kernel_rfl) (by kernel_rfl) (by kernel_rfl) (by kernel_rfl) (by kernel_rfl) (by kernel_rfl) c0' v5' run2 d0' d5 e5 ?_
   rw [<-H2.out]
   gi_wp2
   exact HF.out
 case done=>
  rintro D M st W hD ht ⟨hS,hle,hne,hrb⟩ hdf
  obtain⟨us,hus,hlu⟩:=hS.root;have hlen:=hlu.len
  match us,hlen with
  | [y0,y1,y2,y3,y4,y5],_=>
   obtain⟨vk,vn,vbb,vs,vpL,vnL,vcL,vpE,vnE,vcE,rfl,rfl,rfl,rfl,rfl,rfl⟩:=hlu.form;have r0:=hus 0 (by omega);have r1:=hus 1 (by omega);have r2:=hus 2 (by omega);have r3:=hus 3 (by omega);have r4:=hus 4 (by omega);have r5:=hus 5 (by omega);simp only [Nat.zero_add,Nat.add_zero,List.getElem?_cons_zero,List.getElem?_cons_succ] at r0 r1 r2 r3 r4 r5;have q0:=hrb.cell 0 _ rfl;have q1:=hrb.cell 1 _ rfl;have q2:=hrb.cell 2 _ rfl;have q3:=hrb.cell 3 _ rfl;have q4:=hrb.cell 4 _ rfl;have q5:=hrb.cell 5 _ rfl;have z0:=Blk.froz hrb 0;have z1:=Blk.froz hrb 1;have z2:=Blk.froz hrb 2;have z3:=Blk.froz hrb 3;have z4:=Blk.froz hrb 4;have z5:=Blk.froz hrb 5;have HS:=ja hS;have HL:=ja hlu;have HU:=ja hus;clear hS hlu hus
   gi_wp2
   have hX:=jk hrb (.int .i64 vk) (.int .i64 vn) (.int .u64 (vbb:Int)) (.string vs) (.slice vpL vnL vcL) (.slice vpE vnE vcE);have hdl:=(Array.getElem?_eq_some_iff.1 hdf).1
   have tX:Turns (fun b=>b=w.heap.size+1) W (jp W (w.heap.size+1) (.int .i64 vk) (.int .i64 vn) (.int .u64 (vbb:Int)) (.string vs) (.slice vpL vnL vcL) (.slice vpE vnE vcE)) :=
    zM _ _ _ _ _ _ _ _
   generalize hXX:jp W (w.heap.size+1) (.int .i64 vk) (.int .i64 vn) (.int .u64 (vbb:Int)) (.string vs) (.slice vpL vnL vcL) (.slice vpE vnE vcE)=X at hX tX;simp only [jp] at hXX;rw [hXX];have hdf2:X.heap[D]?=some (.deferred (some [])):=(tX.block D hdl (by omega)).trans hdf
   have hX2:Blk (X.putObj D (.deferred none)) (w.heap.size+1) #[.int .i64 vk,.int .i64 vn,.int .u64 (vbb:Int),.string vs,.slice vpL vnL vcL,.slice vpE vnE vcE] 26:=(World.putObj_heap_other (by omega)).trans hX;refine⟨by simp,.inl ⟨_,_,rfl,run_takeDeferred hdf2,?_⟩⟩;have tY:Turns (fun b=>b=w.heap.size+1\/b=D) W (X.putObj D (.deferred none)):=(tX.mono fun _ _ h=>.inl h).trans (Turns.putObj (M:=fun b=>b=D) _ _ _ rfl) (fun _ _ h=>.inr h);refine⟨_,JQ _ hX2,⟨_,_,_,_,_,_,rfl,?_⟩,HS.out.below.trans (tY.below (n:=w.heap.size) (by have:=HS.out.size;omega) (fun b h=>by omega))⟩;refine HL.out.kept (fun b hb=>hb.elim (fun h=>.inl h.2) (fun h=>.inr ⟨h.1,Nat.lt_of_lt_of_le h.2.1.1 tY.size⟩)) tY.size (fun b hb hlt=>tY.block b hlt (fun hx=>?_))
   rcases hb with hb | ⟨_,⟨_,h1⟩,_,i,v,hc⟩
   ·omega
   ·rcases hx with hx | hx
    ·exact h1 hx
    ·subst hx
     simp [World.cell?,hdf] at hc
open Go.RowKit Go.Shelf
def RowD (d ty:Nat)(w:World)(v:Value)(n:Nat)(S:Nat->Prop)(Q:Nat->(Nat->Prop)->List Value->Prop):Prop :=
 ∃(rows:List (List Value)) (T:Nat->Nat->Prop),w.ownsRow 0 ty d v n rows.flatten/\rows.length=n/\
  (∀(i:Nat) (us:List Value),rows[i]?=some us->us.length=d/\Q i (T i) us)/\
  (∀g,v.ownBlock=some g->S g/\∀i,¬T i g)/\(∀i b,T i b->S b)/\∀i j b,T i b->T j b->i=j
def LiesD:Nat->(Nat->Prop)->World->List Value->V->Prop
 | 0,_,_,_,_=>False
 | f + 1, S, w, vs, t => ∃ (k n : Int) (b : Nat) (s : ByteArray) (L E : List V) (vL vE : Value) (SL SE : Nat → Prop),
   t=mkV (k,n,b,s.data.toList) L E/\vs=[.int .i64 k,.int .i64 n,.int .u64 (b:Int),.string s,vL,vE]/\
   ((-9223372036854775808<=k/\k<=9223372036854775807)/\(-9223372036854775808<=n/\n<=9223372036854775807)/\b<18446744073709551616/\s.size<=maxLen)/\
   RowD 6 26 w vL L.length SL (fun i T us=>∃y,L[i]?=some y/\LiesD f T w us y)/\
   RowD 7 57 w vE E.length SE (fun i T us=>∃(key:ByteArray) (y:V) (xs:List Value),E[i]?=some (ent key.data.toList y)/\us=.string key :: xs/\key.size<=maxLen/\LiesD f T w xs y)/\
   (∀b,SL b->¬SE b)/\∀b,SL b\/SE b->S b
theorem qA {w w':World}{base ty d:Nat}{v:Value}{n:Nat}{xs:List Value}(h:w.ownsRow base ty d v n xs)(hb:∀g,v.ownBlock=some g->w'.heap[g]?=w.heap[g]?):w'.ownsRow base ty d v n xs:=by
 refine⟨h.1,h.2.imp id ?_⟩
 rintro⟨g,cap,cur,rfl,h1,h2,h3⟩
 exact⟨g,cap,cur,rfl,h1,(hb g rfl).trans h2,h3⟩
theorem RowD.kept {d ty:Nat}{w w':World}{v:Value}{n:Nat}{S S':Nat->Prop}{Q Q':Nat->(Nat->Prop)->List Value->Prop}(h:RowD d ty w v n S Q)(hS:∀b,S b->S' b)(hb:∀b,S b->b<w.heap.size->w'.heap[b]?=w.heap[b]?)(hq:∀i T us,i<n->(∀b,T b->S b)->Q i T us->Q' i T us):RowD d ty w' v n S' Q':=by
 obtain⟨rows,T,h1,h2,h3,h4,h5,h6⟩:=h;refine⟨rows,T,qA h1 (fun g hg=>hb g (h4 g hg).1 (World.ownsRow.lt h1 g hg).2),h2,fun i us hi=>?_,fun g hg=>⟨hS g (h4 g hg).1,(h4 g hg).2⟩,fun i b hi=>hS b (h5 i b hi),h6⟩;obtain⟨a,c⟩:=h3 i us hi;exact⟨a,hq i (T i) us (by rw [<-h2];exact(List.getElem?_eq_some_iff.1 hi).1) (h5 i) c⟩
theorem LiesD.kept {w w':World}:∀{f:Nat} {S S':Nat->Prop} {vs:List Value} {t:V},LiesD f S w vs t->(∀b,S b->S' b)->(∀b,S b->b<w.heap.size->w'.heap[b]?=w.heap[b]?)->LiesD f S' w' vs t
 | 0,_,_,_,_,h,_,_=>h.elim
 | f+1,S,S',vs,t,h,hS,hb=>by
  obtain⟨k,n,b,s,L,E,vL,vE,SL,SE,h1,h2,h3,h4,h5,h6,h7⟩:=h;refine⟨k,n,b,s,L,E,vL,vE,SL,SE,h1,h2,h3,h4.kept (fun _ h=>h) (fun b h=>hb b (h7 b (.inl h))) ?_,h5.kept (fun _ h=>h) (fun b h=>hb b (h7 b (.inr h))) ?_,h6,fun b h=>hS b (h7 b h)⟩
  ·rintro i T us _ hT ⟨y,a,c⟩
   exact⟨y,a,c.kept (fun _ h=>h) (fun b h=>hb b (h7 b (.inl (hT b h))))⟩
  ·rintro i T us _ hT ⟨key,y,xs,a,c,e,g⟩
   exact⟨key,y,xs,a,c,e,g.kept (fun _ h=>h) (fun b h=>hb b (h7 b (.inr (hT b h))))⟩
theorem LiesD.mono {w:World}{f:Nat}{S S':Nat->Prop}{vs:List Value}{t:V}(h:LiesD f S w vs t)(hS:∀b,S b->S' b):LiesD f S' w vs t:=h.kept hS (fun _ _ _=>rfl)
theorem LiesD.same {w w':World}{f:Nat}{S:Nat->Prop}{vs:List Value}{t:V}(h:LiesD f S w vs t)(hb:∀b,S b->b<w.heap.size->w'.heap[b]?=w.heap[b]?):LiesD f S w' vs t:=h.kept (fun _ h=>h) hb
theorem LiesD.up {w:World}:∀{f:Nat} {S:Nat->Prop} {vs:List Value} {t:V},LiesD f S w vs t->LiesD (f+1) S w vs t
 | 0,_,_,_,h=>h.elim
 | f+1,S,vs,t,h=>by
  obtain⟨k,n,b,s,L,E,vL,vE,SL,SE,h1,h2,h3,h4,h5,h6,h7⟩:=h;refine⟨k,n,b,s,L,E,vL,vE,SL,SE,h1,h2,h3,h4.kept (fun _ h=>h) (fun _ _ _=>rfl) ?_,h5.kept (fun _ h=>h) (fun _ _ _=>rfl) ?_,h6,h7⟩
  ·rintro i T us _ hT ⟨y,a,c⟩
   exact⟨y,a,c.up⟩
  ·rintro i T us _ hT ⟨key,y,xs,a,c,e,g⟩
   exact⟨key,y,xs,a,c,e,g.up⟩
theorem LiesD.to {w:World}{f g:Nat}{S:Nat->Prop}{vs:List Value}{t:V}(hfg:f<=g)(h:LiesD f S w vs t):LiesD g S w vs t:=by
 obtain⟨d,rfl⟩:=Nat.le.dest hfg
 induction d with
 | zero=>exact h
 | succ d ih=>exact(ih (by omega)).up
theorem LiesD.len {w:World}{f:Nat}{S:Nat->Prop}{vs:List Value}{t:V}(h:LiesD f S w vs t):vs.length=6:=by
 cases f with
 | zero=>exact h.elim
 | succ f=>
  obtain⟨k,n,b,s,L,E,vL,vE,SL,SE,h1,rfl,_⟩:=h;rfl
theorem ZK {d:Nat}:∀{rows:List (List Value)} {i r:Nat} {us:List Value},(∀(i:Nat) (us:List Value),rows[i]?=some us->us.length=d)->rows[i]?=some us->r<d->rows.flatten[i*d+r]?=us[r]?
 | [],i,r,us,_,h,_=>by simp at h
 | a :: rows,0,r,us,hd,h,hr=>by
  simp only [List.getElem?_cons_zero,Option.some.injEq] at h;subst h;have:=hd 0 a rfl;rw [List.flatten_cons,Nat.zero_mul,Nat.zero_add,List.getElem?_append_left (by omega)]
 | a :: rows,i+1,r,us,hd,h,hr=>by
  have ha:=hd 0 a rfl;rw [List.getElem?_cons_succ] at h;have:=ZK (fun i us hi=>hd (i+1) us (by simpa using hi)) h hr;rw [List.flatten_cons,List.getElem?_append_right (by rw [ha,Nat.add_mul];omega),ha,<-this]
  congr 1
  rw [Nat.add_mul];omega
theorem RowD.slice {d ty:Nat}{w:World}{v:Value}{n:Nat}{S:Nat->Prop}{Q:Nat->(Nat->Prop)->List Value->Prop}(h:RowD d ty w v n S Q):∃p c,v=.slice p n c/\n<=c/\c<=maxLen:=by
 obtain⟨rows,T,⟨_,h1⟩,_⟩:=h
 rcases h1 with ⟨rfl,rfl⟩ | ⟨g,cap,cur,rfl,_,_,h2,h3,_⟩
 ·exact⟨none,0,rfl,Nat.le_refl _,Nat.zero_le _⟩
 ·exact⟨_,cap,rfl,h2,h3⟩
theorem RowD.rowIn {d ty:Nat}{w:World}{p:Option Addr}{n c:Nat}{S:Nat->Prop}{Q:Nat->(Nat->Prop)->List Value->Prop}{Q':Nat->List Value->Prop}(h:RowD d ty w (.slice p n c) n S Q)(hq:∀i T us,i<n->(∀b,T b->S b)->Q i T us->Q' i us):RowIn (fun b=>S b/\b<w.heap.size) w p d n Q':=by
 intro hn;obtain⟨rows,T,h0,h2,h3,h4,h5,h6⟩:=h;have hlt:=World.ownsRow.lt h0;obtain⟨_,h1⟩:=h0
 rcases h1 with ⟨_,e⟩ | ⟨g,cap,cur,e,_,hg,h7,h8,h9,h10⟩
 ·exact absurd e hn
 ·cases e
  refine⟨g,0,rfl,⟨(h4 g rfl).1,(hlt g rfl).2⟩,(hlt g rfl).2,fun j hj=>?_⟩;obtain⟨us,hus⟩:∃us,rows[j]?=some us:=⟨_,List.getElem?_eq_getElem (by rw [h2];exact hj)⟩
  obtain⟨u1,u2⟩:=h3 j us hus;refine⟨us,u1,fun i hi=>?_,hq j (T j) us hj (h5 j) u2⟩;have e:=ZK (fun i us hi=>(h3 i us hi).1) hus hi
  have hlt2:j*d+i<n*d:=by
   have:=Nat.mul_le_mul_right d (show j+1<=n from hj);rw [Nat.add_mul] at this;omega
  rw [<-h10,List.getElem?_take_of_lt hlt2,Array.getElem?_toList] at e;rw [<-e,Nat.zero_add];simp [World.cell?,hg]
theorem LiesD.lies {w:World}:∀{f:Nat} {S:Nat->Prop} {vs:List Value} {t:V},LiesD f S w vs t->LiesV (fun b=>S b/\b<w.heap.size) f w vs t
 | 0,_,_,_,h=>h.elim
 | f+1,S,vs,t,h=>by
  obtain⟨k,n,b,s,L,E,vL,vE,SL,SE,rfl,rfl,h3,h4,h5,h6,h7⟩:=h;obtain⟨pL,cL,rfl,a1,a2⟩:=h4.slice;obtain⟨pE,cE,rfl,b1,b2⟩:=h5.slice;refine⟨k,n,b,s,L,E,pL,pE,cL,cE,rfl,rfl,h3,⟨a1,a2,b1,b2⟩,?_,?_⟩
  ·refine RowIn.kept (Q:=fun j us=>∃y,L[j]?=some y/\LiesV (fun b=>S b/\b<w.heap.size) f w us y) (h4.rowIn ?_) (fun b h=>⟨h7 b (.inl h.1),h.2⟩) (Nat.le_refl _) (fun _ _ _=>rfl) (fun _ _ _ h=>h)
   rintro i T us _ hT ⟨y,a,c⟩
   exact⟨y,a,c.lies.weaken (fun b h=>⟨h7 b (.inl (hT b h.1)),h.2⟩)⟩
  ·refine RowIn.kept (Q:=fun j us=>∃(key:ByteArray) (y:V) (xs:List Value),E[j]?=some (ent key.data.toList y)/\us=.string key :: xs/\key.size<=maxLen/\LiesV (fun b=>S b/\b<w.heap.size) f w xs y) (h5.rowIn ?_) (fun b h=>⟨h7 b (.inr h.1),h.2⟩) (Nat.le_refl _) (fun _ _ _=>rfl) (fun _ _ _ h=>h)
   rintro i T us _ hT ⟨key,y,xs,a,c,e,g⟩
   exact⟨key,y,xs,a,c,e,g.lies.weaken (fun b h=>⟨h7 b (.inr (hT b h.1)),h.2⟩)⟩
theorem Qo {d:Nat}(cs:List Value):∀(n:Nat),n*d<=cs.length->∃rows:List (List Value),rows.length=n/\rows.flatten=cs.take (n*d)/\∀(i:Nat) (us:List Value),rows[i]?=some us->us=(cs.drop (i*d)).take d
 | 0,_=>⟨[],rfl,by simp,fun i us h=>by simp at h⟩
 | n+1,h=>by
  have h':n*d+d<=cs.length:=by rw [Nat.add_mul] at h;omega
  obtain⟨rows,h1,h2,h3⟩:=Qo (d:=d) cs n (by omega);refine⟨rows++[(cs.drop (n*d)).take d],by simp [h1],?_,fun i us hi=>?_⟩
  ·rw [List.flatten_append,h2,List.flatten_singleton,Nat.add_mul,Nat.one_mul,List.take_add]
  ·rcases Nat.lt_or_ge i rows.length with hlt | hge
   ·rw [List.getElem?_append_left hlt] at hi
    exact h3 i us hi
   ·rw [List.getElem?_append_right hge] at hi
    have hi0:i - rows.length=0:=by
     rcases Nat.eq_zero_or_pos (i - rows.length) with h | h
     ·exact h
     ·rw [List.getElem?_eq_none (by simp;omega)] at hi
      cases hi
    rw [hi0] at hi;simp only [List.getElem?_cons_zero,Option.some.injEq] at hi;rw [<-hi,show i=n by omega]
open Go.RowKit Go.Shelf
def jcc (G:Nat->Nat->Prop)(W:World)(b i B n c:Nat):Prop:=∃d,(∀j,j<n*d->G B j)/\∃cur,((d=6/\(∃s,W.cell? ⟨b,i - 1,none⟩=some (.string s))/\W.heap[B]?=some (.cells cur 26 (0,0)))\/(d=7/\(∃p n c,W.cell? ⟨b,i - 1,none⟩=some (.slice p n c))/\W.heap[B]?=some (.cells cur 57 (0,0))))/\cur.size=c*d
structure CopyU (n0:Nat) (M:Nat->Prop) (X G:Nat->Nat->Prop) (par:Nat->Nat×Nat) (W:World):Prop where
 sub:∀b i,G b i->n0<=b/\b≠n0+1/\¬M b/\∃cur ty,W.heap[b]?=some (.cells cur ty (0,0))
 tie:∀b i p n c,G b i->W.cell? ⟨b,i,none⟩=some (.slice p n c)->X b i\/(p=none/\n=0/\c=0)\/∃B,p=some ⟨B,0,none⟩/\par B=(b,i)/\b<B/\n≠0/\n<=c/\c<=maxLen/\jcc G W b i B n c
theorem CopyU.excuse {n0:Nat}{M:Nat->Prop}{X X' G:Nat->Nat->Prop}{par:Nat->Nat×Nat}{W:World}(h:CopyU n0 M X G par W)(hX:∀b i p n c,G b i->W.cell? ⟨b,i,none⟩=some (.slice p n c)->X b i->X' b i):CopyU n0 M X' G par W :=
 ⟨h.sub,fun b i p n c hG hc=>(h.tie b i p n c hG hc).imp (hX b i p n c hG hc) id⟩
theorem CopyU.still {n0 n1:Nat}{M M':Nat->Prop}{X G:Nat->Nat->Prop}{par:Nat->Nat×Nat}{W W':World}(h:CopyU n0 M X G par W)(ht:Turns (fun b=>M b\/(n1<=b/\∃o:Obj,W.heap[b]?=some o/\o.isCells=false)) W W')(hm:∀b,M' b->M b\/W.heap.size<=b):CopyU n0 M' X G par W':=by
 have blk:∀b i,G b i->W'.heap[b]?=W.heap[b]?:=fun b i hb=>by
  obtain⟨_,_,h3,cur,ty,h4⟩:=h.sub b i hb;refine ht.block b (Array.getElem?_eq_some_iff.1 h4).1 (fun hx=>hx.elim h3 ?_)
  rintro⟨_,o,ho,hi⟩
  rw [h4] at ho;cases ho
  cases hi
 refine⟨fun b i hb=>?_,fun b i p n c hb hc=>?_⟩
 ·obtain⟨h1,h2,h3,cur,ty,h4⟩:=h.sub b i hb
  have hlt:=(Array.getElem?_eq_some_iff.1 h4).1;exact⟨h1,h2,fun hx=>(hm b hx).elim h3 (fun hx=>by omega),cur,ty,(blk b i hb).trans h4⟩
 ·rw [World.cell?_of_block (w:=W) (blk b i hb)] at hc
  refine(h.tie b i p n c hb hc).imp id (Or.imp id ?_)
  rintro⟨B,e1,e2,e3,e4,e5,e6,d,e7,cur,e8,e9⟩
  have hd:0<d:=by rcases e8 with ⟨e,_⟩ | ⟨e,_⟩<;>omega
  have hB:=blk B 0 (e7 0 (Nat.mul_pos (by omega) hd));refine⟨B,e1,e2,e3,e4,e5,e6,d,e7,cur,?_,e9⟩
  rcases e8 with ⟨a1,⟨s,a2⟩,a3⟩ | ⟨a1,⟨p',n',c',a2⟩,a3⟩
  ·exact .inl ⟨a1,⟨s,(World.cell?_of_block (w:=W) (blk b i hb)).trans a2⟩,hB.trans a3⟩
  ·exact .inr ⟨a1,⟨p',n',c',(World.cell?_of_block (w:=W) (blk b i hb)).trans a2⟩,hB.trans a3⟩
theorem jL {W:World}{B j:Nat}{cur:Array Value}{ty:Nat}(h:W.heap[B]?=some (.cells cur ty (0,0)))(v:Value):(W.setCell ⟨B,j,none⟩ v).heap[B]?=some (.cells (cur.setIfInBounds j v) ty (0,0)):=Blk.set (w:=W) h j v
theorem CopyU.turn {n0:Nat}{M:Nat->Prop}{X G:Nat->Nat->Prop}{par:Nat->Nat×Nat}{W W1:World}(h:CopyU n0 M X G par W)(hn0:n0+1<W.heap.size)(hM:∀b,M b->b<W.heap.size){B o k d n c c':Nat}{p p':Option Addr}{ty:Nat}(hk:(k=4/\d=6/\ty=26)\/(k=5/\d=7/\ty=57))
  (hB:G B (o+k)) (h3:∃s,W.cell? ⟨B,o+3,none⟩=some (.string s)) (h4:∃p n c,W.cell? ⟨B,o+4,none⟩=some (.slice p n c)) (hc:W.cell? ⟨B,o+k,none⟩=some (.slice p n c)) (hg:W.grownBy W1 none) (m1:n<=c') (m2:c'<=maxLen)
  (hz:n=0->p'=none/\c'=0) (hrow:n≠0->p'=some ⟨W.heap.size,0,none⟩/\∃cur,W1.heap[W.heap.size]?=some (.cells cur ty (0,0))/\cur.size=c'*d) :
  CopyU n0 M (fun b i=>(X b i/\¬(b=B/\i=o+k))\/b=W.heap.size) (fun b i=>G b i\/(n≠0/\b=W.heap.size/\i<n*d)) (fun b=>if b=W.heap.size then (B,o+k) else par b) (W1.setCell ⟨B,o+k,none⟩ (.slice p' n c')):=by
 obtain⟨g,eg⟩:∃g,g=W.heap.size:=⟨_,rfl⟩
 rw [<-eg] at hrow ⊢
 have lt:∀b i,G b i->b<g:=fun b i hb=>by
  obtain⟨_,_,_,cur,ty,h4⟩:=h.sub b i hb;rw [eg];exact(Array.getElem?_eq_some_iff.1 h4).1
 have hBg:=lt _ _ hB;have old:∀b,b<g->W1.heap[b]?=W.heap[b]?:=fun b hb=>hg.block b (by omega) (by simp)
 obtain⟨W',hW'⟩:∃W',W'=W1.setCell ⟨B,o+k,none⟩ (.slice p' n c'):=⟨_,rfl⟩
 rw [<-hW'];have blk:∀b,b≠B->W'.heap[b]?=W1.heap[b]?:=fun b hb=>by rw [hW'];exact Below.heap_setCell _ _ _ _ (fun e=>hb e)
 have cel:∀i,i≠o+k->W'.cell? ⟨B,i,none⟩=W.cell? ⟨B,i,none⟩:=fun i hi=>by
  rw [hW'];refine(World.cell?_setCell_other _ (a:=⟨B,o+k,none⟩) (b:=⟨B,i,none⟩) _ ?_).trans (World.cell?_of_block (old B hBg));intro e;injection e with _ e;omega
 have hit:W'.cell? ⟨B,o+k,none⟩=some (.slice p' n c'):=by rw [hW'];exact World.cell?_setCell_same _ _ _ ((World.cell?_of_block (old B hBg)).trans hc)
 have same:∀b i,b<g->¬(b=B/\i=o+k)->W'.cell? ⟨b,i,none⟩=W.cell? ⟨b,i,none⟩:=fun b i hb hne=>by
  by_cases e:b=B
  ·subst e
   exact cel i (fun e=>hne ⟨rfl,e⟩)
  ·exact(World.cell?_of_block (blk b e)).trans (World.cell?_of_block (old b hb))
 have cells:∀b cur ty,b<g->W.heap[b]?=some (.cells cur ty (0,0))->∃cur',W'.heap[b]?=some (.cells cur' ty (0,0))/\cur'.size=cur.size:=fun b cur ty hb hcc=>by
  by_cases e:b=B
  ·subst e
   refine⟨_,?_,Array.size_setIfInBounds (xs:=cur) (i:=o+k) (a:=.slice p' n c')⟩;rw [hW'];exact jL ((old b hb).trans hcc) _
  ·exact⟨cur,(blk b e).trans ((old b hb).trans hcc),rfl⟩
 refine⟨?_,?_⟩
 ·rintro b i (hb | ⟨hn,rfl,hi⟩)
  ·obtain⟨h1,h2,h3,cur,ty,h4⟩:=h.sub b i hb
   obtain⟨cur',c1,_⟩:=cells b cur ty (lt b i hb) h4;exact⟨h1,h2,h3,cur',ty,c1⟩
  ·obtain⟨_,cur,c1,_⟩:=hrow hn
   exact⟨by omega,by omega,fun hx=>by have:=hM _ hx;omega,cur,_,(blk b (by omega)).trans c1⟩
 ·rintro b i q m e hb hce
  by_cases hbg:b=g
  ·exact .inl (.inr hbg)
  ·replace hb:G b i:=hb.elim id (fun hx=>absurd hx.2.1 hbg)
   by_cases hne:b=B/\i=o+k
   ·obtain⟨rfl,rfl⟩:=hne
    rw [hit] at hce;injection hce with hce;injection hce with e1 e2 e3;subst e1;subst e2;subst e3
    by_cases hn:n=0
    ·exact .inr (.inl ⟨(hz hn).1,hn,(hz hn).2⟩)
    ·obtain⟨r1,cur,r2,r3⟩:=hrow hn
     refine .inr (.inr ⟨g,r1,by simp,hBg,hn,m1,m2,d,fun j hj=>.inr ⟨hn,rfl,hj⟩,cur,?_,r3⟩)
     rcases hk with ⟨rfl,hd,rfl⟩ | ⟨rfl,hd,rfl⟩
     ·obtain⟨s,h3⟩:=h3
      exact .inl ⟨hd,⟨s,(cel (o+3) (by omega)).trans h3⟩,(blk g (by omega)).trans r2⟩
     ·obtain⟨p4,n4,c4,h4⟩:=h4
      exact .inr ⟨hd,⟨p4,n4,c4,(cel (o+4) (by omega)).trans h4⟩,(blk g (by omega)).trans r2⟩
   ·have hbl:=lt b i hb
    rw [same b i hbl hne] at hce
    rcases h.tie b i q m e hb hce with hx | hx | ⟨B2,e1,e2,e3,e4,e5,e6,d2,e7,cur,e8,e9⟩
    ·exact .inl (.inl ⟨hx,hne⟩)
    ·exact .inr (.inl hx)
    ·have hd2:0<d2:=by rcases e8 with ⟨e,_⟩ | ⟨e,_⟩<;>omega
     have hB2:B2<g:=lt B2 0 (e7 0 (Nat.mul_pos (by omega) hd2));refine .inr (.inr ⟨B2,e1,?_,e3,e4,e5,e6,d2,fun j hj=>.inl (e7 j hj),?_⟩)
     ·rw [if_neg (by omega)]
      exact e2
     ·rcases e8 with ⟨a1,⟨s,a2⟩,a3⟩ | ⟨a1,⟨p',n',c',a2⟩,a3⟩
      ·obtain⟨cur',c1,c2⟩:=cells B2 cur _ hB2 a3
       refine⟨cur',.inl ⟨a1,⟨s,(same b (i - 1) hbl ?_).trans a2⟩,c1⟩,by omega⟩
       rintro⟨rfl,hi⟩
       rw [hi,hc] at a2;cases a2
      ·obtain⟨cur',c1,c2⟩:=cells B2 cur _ hB2 a3
       refine⟨cur',.inr ⟨a1,?_,c1⟩,by omega⟩
       by_cases hne2:b=B/\i - 1=o+k
       ·obtain⟨rfl,hi⟩:=hne2
        rw [hi];exact⟨_,_,_,hit⟩
       ·exact⟨p',n',c',(same b (i - 1) hbl hne2).trans a2⟩
def upto (par:Nat->Nat×Nat)(P:Nat->Prop)(C:Nat->Nat->Prop):Nat->Nat->Prop
 | 0,_=>False
 | n+1,B=>(P B/\(par B).1<B)/\(C (par B).1 (par B).2\/upto par P C n (par B).1)
def und (par:Nat->Nat×Nat)(P:Nat->Prop)(C:Nat->Nat->Prop)(B:Nat):Prop:=∃n,upto par P C n B
theorem upto.mono {par:Nat->Nat×Nat}{P:Nat->Prop}{C C':Nat->Nat->Prop}(hC:∀b i,C b i->C' b i):∀{n B:Nat},upto par P C n B->upto par P C' n B
 | 0,_,h=>h.elim
 | n+1,_,h=>⟨h.1,h.2.imp (hC _ _) (upto.mono hC)⟩
theorem und.mono {par:Nat->Nat×Nat}{P:Nat->Prop}{C C':Nat->Nat->Prop}(hC:∀b i,C b i->C' b i){B:Nat}(h:und par P C B):und par P C' B:=h.elim fun n h=>⟨n,h.mono hC⟩
theorem upto.more {par:Nat->Nat×Nat}{P:Nat->Prop}{C:Nat->Nat->Prop}:∀{n B:Nat},upto par P C n B->upto par P C (n+1) B
 | 0,_,h=>h.elim
 | n+1,_,h=>⟨h.1,h.2.imp id (upto.more (n:=n))⟩
theorem upto.lt {par:Nat->Nat×Nat}{P:Nat->Prop}{C:Nat->Nat->Prop}{b0:Nat}(hC:∀b i,C b i->b=b0):∀{n B:Nat},upto par P C n B->b0<B
 | 0,_,h=>h.elim
 | n+1,B,⟨h1,h2⟩=>by
  rcases h2 with h2 | h2
  ·have:=hC _ _ h2
   have:=h1.2;omega
  ·have:=upto.lt hC h2
   have:=h1.2;omega
theorem und.lt {par:Nat->Nat×Nat}{P:Nat->Prop}{C:Nat->Nat->Prop}{b0 B:Nat}(hC:∀b i,C b i->b=b0)(h:und par P C B):b0<B:=h.elim fun _ h=>h.lt hC
theorem upto.apart {par:Nat->Nat×Nat}{P:Nat->Prop}{C D:Nat->Nat->Prop}{b0:Nat}(hC:∀b i,C b i->b=b0)(hD:∀b i,D b i->b=b0)(hCD:∀b i,C b i->¬D b i):∀{n m B:Nat},upto par P C n B->upto par P D m B->False
 | 0,_,_,h,_=>h
 | _+1,0,_,_,h=>h
 | n+1,m+1,B,⟨h1,h2⟩,⟨_,g2⟩=>by
  rcases h2 with h2 | h2
  ·rcases g2 with g2 | g2
   ·exact hCD _ _ h2 g2
   ·have:=upto.lt hD g2
    have:=hC _ _ h2;omega
  ·rcases g2 with g2 | g2
   ·have:=upto.lt hC h2
    have:=hD _ _ g2;omega
   ·exact upto.apart hC hD hCD h2 g2
theorem und.apart {par:Nat->Nat×Nat}{P:Nat->Prop}{C D:Nat->Nat->Prop}{b0 B:Nat}(hC:∀b i,C b i->b=b0)(hD:∀b i,D b i->b=b0)(hCD:∀b i,C b i->¬D b i)(h:und par P C B)(g:und par P D B):False:=by
 obtain⟨n,h⟩:=h;obtain⟨m,g⟩:=g;exact h.apart hC hD hCD g
theorem upto.over {par:Nat->Nat×Nat}{P:Nat->Prop}{C D:Nat->Nat->Prop}{B:Nat}(hC:∀b i,C b i->b=B){m:Nat}(hB:upto par P D m B):∀{n x:Nat},upto par P C n x->upto par P D (n+m) x
 | 0,_,h=>h.elim
 | n+1,x,⟨h1,h2⟩=>by
  rw [show n+1+m=(n+m)+1 by omega];refine⟨h1,.inr ?_⟩
  rcases h2 with h2 | h2
  ·rw [hC _ _ h2]
   clear h1 h2
   induction n with
   | zero=>rwa [Nat.zero_add]
   | succ n ih=>rw [show n+1+m=(n+m)+1 by omega];exact ih.more
  ·exact upto.over hC hB h2
theorem und.over {par:Nat->Nat×Nat}{P:Nat->Prop}{C D:Nat->Nat->Prop}{B x:Nat}(hC:∀b i,C b i->b=B)(hB:und par P D B)(h:und par P C x):und par P D x:=by
 obtain⟨n,h⟩:=h;obtain⟨m,hB⟩:=hB;exact⟨_,upto.over hC hB h⟩
def two (b o:Nat)(x i:Nat):Prop:=x=b/\(i=o+4\/i=o+5)
def jay (b k:Nat)(x i:Nat):Prop:=x=b/\i=k
theorem Xd {par:Nat->Nat×Nat}{P:Nat->Prop}{W:World}{d ty b i B n c:Nat}{cur:Array Value}(hP:P B)(hd:d=6\/d=7)(e2:par B=(b,i))(e3:b<B)(e5:n<=c)(e6:c<=maxLen)(hB:W.heap[B]?=some (.cells cur ty (0,0)))(hs:cur.size=c*d)(pl:Nat->Nat)(hpl:∀j,pl j=if d=6 then j*6 else j*7+1)
  {Q:Nat->(Nat->Prop)->List Value->Prop} (hQ:∀j us,j<n->us.length=d->(∀r,r<d->W.cell? ⟨B,j*d+r,none⟩=us[r]?)->Q j (und par P (two B (pl j))) us):RowD d ty W (.slice (some ⟨B,0,none⟩) n c) n (und par P (jay b i)) Q:=by
 have hd0:0<d:=by omega
 have hnd:n*d<=cur.toList.length:=by rw [Array.length_toList,hs];exact Nat.mul_le_mul_right d e5
 obtain⟨rows,r1,r2,r3⟩:=Qo (d:=d) cur.toList n hnd;have hBu:und par P (jay b i) B:=⟨1,⟨hP,by rw [e2];exact e3⟩,.inl (by rw [e2];exact⟨rfl,rfl⟩)⟩
 have two1:∀j b i,two B (pl j) b i->b=B:=fun j b i h=>h.1
 refine⟨rows,fun j=>und par P (two B (pl j)),⟨?_,.inr ⟨B,c,cur,rfl,Nat.zero_le _,hB,e5,e6,hs,r2.symm⟩⟩,r1,fun j us hj=>?_,fun g hg=>?_,fun j x hx=>und.over (two1 j) hBu hx,fun j l x hj hl=>?_⟩
 ·rw [r2,List.length_take,Nat.min_eq_left hnd]
 ·have hj':j<n:=by rw [<-r1];exact(List.getElem?_eq_some_iff.1 hj).1
  have hj2:=Nat.mul_le_mul_right d (show j+1<=n from hj');rw [Nat.add_mul] at hj2;have e:=r3 j us hj;have hl:us.length=d:=by rw [e,List.length_take,List.length_drop];omega
  refine⟨hl,hQ j us hj' hl (fun r hr=>?_)⟩;rw [e,List.getElem?_take_of_lt hr,List.getElem?_drop,Array.getElem?_toList];simp [World.cell?,hB]
 ·have:B=g:=by simpa [Value.ownBlock] using hg
  subst this;exact⟨hBu,fun j hj=>by have:=hj.lt (two1 j);omega⟩
 ·refine Classical.byContradiction fun hne=>hj.apart (two1 j) (two1 l) ?_ hl
  rintro y r ⟨rfl,h1⟩ ⟨_,h2⟩
  rw [hpl] at h1 h2
  rcases hd with rfl | rfl
  ·simp only [if_true] at h1 h2
   omega
  ·simp only [show ¬(7=6) by decide,if_false] at h1 h2
   omega
theorem und.good {par:Nat->Nat×Nat}{P:Nat->Prop}{C:Nat->Nat->Prop}{B:Nat}(h:und par P C B):P B:=by
 obtain⟨n,h⟩:=h;cases n with
 | zero=>exact h.elim
 | succ n=>exact h.1.1
theorem CopyU.tree {n0:Nat}{M:Nat->Prop}{G:Nat->Nat->Prop}{par:Nat->Nat×Nat}{W:World}(h:CopyU n0 M (fun _ _=>False) G par W){ok:Nat->Prop}:∀{f:Nat} {us:List Value} {t:V} {b o:Nat},LiesV ok f W us t->(∀i,i<6->G b (o+i))->(∀i,i<6->W.cell? ⟨b,o+i,none⟩=us[i]?)->LiesD f (und par (fun x=>∃i,G x i) (two b o)) W us t
 | 0,_,_,_,_,h,_,_=>h.elim
 | f+1,us,t,b,o,hl,hG,hc=>by
  obtain⟨k,n,x,s,L,E,pL,pE,cL,cE,rfl,rfl,h3,⟨a1,a2,a3,a4⟩,hL,hE⟩:=hl;have c3:W.cell? ⟨b,o+3,none⟩=some (.string s):=hc 3 (by omega)
  have c4:W.cell? ⟨b,o+4,none⟩=some (.slice pL L.length cL):=hc 4 (by omega)
  have c5:W.cell? ⟨b,o+5,none⟩=some (.slice pE E.length cE):=hc 5 (by omega)
  have g4:=hG 4 (by omega);have g5:=hG 5 (by omega);have onec1:∀k x i,jay b k x i->x=b:=fun k x i h=>h.1
  refine⟨k,n,x,s,L,E,_,_,und par (fun x=>∃i,G x i) (jay b (o+4)),und par (fun x=>∃i,G x i) (jay b (o+5)),rfl,rfl,h3,?_,?_,fun z hz hy=>hz.apart (onec1 _) (onec1 _) ?_ hy,fun z hz=>?_⟩
  ·rcases h.tie b (o+4) pL L.length cL g4 c4 with hx | ⟨e1,e2,e3⟩ | ⟨B,e1,e2,e3,e4,e5,e6,d,e7,cur,e8,e9⟩
   ·exact hx.elim
   ·rw [e1,e2,e3]
    exact⟨[],fun _ _=>False,World.ownsRow_nil _ _ _ _,rfl,fun i us h=>by simp at h,fun g hg=>by simp [Value.ownBlock] at hg,fun i b h=>h.elim,fun i j b h=>h.elim⟩
   ·subst e1
    rcases e8 with ⟨rfl,_,a7⟩ | ⟨_,⟨p',n',c',a6⟩,_⟩
    ·refine Xd ⟨0,e7 0 (by omega)⟩ (.inl rfl) e2 e3 e5 e6 a7 e9 (fun j=>j*6) (fun j=>by simp) (fun j us hj hlen hus=>?_)
     obtain⟨B',q,eb,_,_,hk⟩:=hL e4;cases eb
     obtain⟨vs,v1,v2,y,hy,hly⟩:=hk j hj
     have evs:us=vs:=List.ext_getElem? fun r=>by
      by_cases hr:r<6
      ·rw [<-hus r hr,<-v2 r hr,Nat.zero_add]
      ·rw [List.getElem?_eq_none (by omega),List.getElem?_eq_none (by omega)]
     subst evs;refine⟨y,hy,CopyU.tree h hly (fun i hi=>e7 _ ?_) hus⟩;have:=Nat.mul_le_mul_right 6 (show j+1<=L.length from hj);omega
    ·rw [show o+4 - 1=o+3 by omega,c3] at a6
     cases a6
  ·rcases h.tie b (o+5) pE E.length cE g5 c5 with hx | ⟨e1,e2,e3⟩ | ⟨B,e1,e2,e3,e4,e5,e6,d,e7,cur,e8,e9⟩
   ·exact hx.elim
   ·rw [e1,e2,e3]
    exact⟨[],fun _ _=>False,World.ownsRow_nil _ _ _ _,rfl,fun i us h=>by simp at h,fun g hg=>by simp [Value.ownBlock] at hg,fun i b h=>h.elim,fun i j b h=>h.elim⟩
   ·subst e1
    rcases e8 with ⟨_,⟨s',a6⟩,_⟩ | ⟨rfl,_,a7⟩
    ·rw [show o+5 - 1=o+4 by omega,c4] at a6
     cases a6
    ·refine Xd ⟨0,e7 0 (by omega)⟩ (.inr rfl) e2 e3 e5 e6 a7 e9 (fun j=>j*7+1) (fun j=>by simp) (fun j us hj hlen hus=>?_)
     obtain⟨B',q,eb,_,_,hk⟩:=hE e4;cases eb
     obtain⟨vs,v1,v2,key,y,xs,hy,rfl,hks,hly⟩:=hk j hj
     have evs:us=.string key :: xs:=List.ext_getElem? fun r=>by
      by_cases hr:r<7
      ·rw [<-hus r hr,<-v2 r hr,Nat.zero_add]
      ·rw [List.getElem?_eq_none (by omega),List.getElem?_eq_none (by omega)]
     subst evs;have:=Nat.mul_le_mul_right 7 (show j+1<=E.length from hj);refine⟨key,y,xs,hy,rfl,hks,CopyU.tree h hly (fun i hi=>e7 _ (by omega)) (fun i hi=>?_)⟩;have:=hus (i+1) (by omega);rw [List.getElem?_cons_succ] at this;rw [<-this]
     congr 2
     omega
  ·rintro y r ⟨_,h1⟩ ⟨_,h2⟩
   omega
  ·rcases hz with hz | hz
   ·exact hz.mono fun b i h=>⟨h.1,.inl h.2⟩
   ·exact hz.mono fun b i h=>⟨h.1,.inr h.2⟩
open Go.RowKit Go.Shelf
attribute [local go_sem] Oper.semAt_some
theorem J0 {P:Program}(T ty e:TypeId)(inf:TypeInfo)(z:Value)(d bytes:Nat)(ht:P.underlying T=some (.slice e))(hi:P.info? e=some inf)(hz:inf.zero=some z)(hsize:inf.size=d)(hby:inf.bytes=bytes)(hzs:z.cells.size=d)(hd:0<d)(hd7:bytes<=200)
  {W:World} {p:Option Addr} {n c:Nat} (hn:n<=10000000)
  (hrow:n≠0->∃b q,p=some ⟨b,q,none⟩/\∀i,i<n*d->∃u,W.cell? ⟨b,q+i,none⟩=some u/\u.oneCell'=true) :
  ∃p' c' W1,(Builtin.append_ #[T,T] ty #[.slice none 0 0,.slice p n c]).run P W=.ok (.slice p' n c') W1/\W.grownBy W1 none/\n<=c'/\c'<=maxLen/\(n=0->p'=none/\c'=0)/\
   (n≠0->p'=some ⟨W.heap.size,0,none⟩/\W.heap.size<W1.heap.size/\Free W1 W.heap.size/\(∃cur,W1.heap[W.heap.size]?=some (.cells cur e (0,0))/\cur.size=c'*d)/\∃b q,p=some ⟨b,q,none⟩/\∀i,i<n*d->W1.cell? ⟨W.heap.size,0+i,none⟩=W.cell? ⟨b,q+i,none⟩):=by
 by_cases h0:n=0
 ·subst h0
  refine⟨none,0,W,?_,⟨rfl,rfl,rfl,Nat.le_refl _,fun _ _ _=>rfl⟩,Nat.le_refl _,Nat.zero_le _,fun _=>⟨rfl,rfl⟩,fun h=>absurd rfl h⟩;cases p<;>simp [Builtin.append_,run_underlying ht,sizeOf,typeInfo,hi,Builtin.lenOf,Builtin.firstCells,loadCells,loadCellsFrom]
 ·obtain⟨b,q,rfl,hc⟩:=hrow h0
  obtain⟨v',W1,hr,h2,h3,h4,h5⟩:=run_append_own_at (P:=P) W 0 T ty e inf z d bytes ht hi hz hsize hby hzs hd (.slice none 0 0) 0 [] (World.ownsRow_nil _ _ _ _) ⟨b,q,none⟩ n c
   ((List.range (n*d)).map fun i=>(W.cell? ⟨b,q+i,none⟩).getD undef) (by simp)
   (fun j u h=>by
    rw [List.getElem?_map] at h
    by_cases hj:j<n*d
    ·rw [List.getElem?_range hj] at h
     obtain⟨u',hu,_⟩:=hc j hj;simp only [Option.map_some,Option.some.injEq,hu,Option.getD_some] at h;rw [<-h];rw [Addr.add_lit];exact hu
    ·rw [List.getElem?_eq_none (by simp;omega)] at h
     cases h)
   (fun u h=>by
    obtain⟨j,hj,e⟩:=List.mem_map.1 h;obtain⟨u',hu,h1⟩:=hc j (List.mem_range.1 hj);rw [hu] at e;rw [<-e];exact h1) (by unfold maxLen;omega) (by rw [Nat.zero_add];have:=Nat.mul_le_mul hn hd7;omega) (Nat.zero_le _)
  rw [Nat.zero_add,List.nil_append] at h2;obtain⟨hl,hh⟩:=h2
  rcases hh with ⟨_,h⟩ | ⟨g,cap,cur,rfl,_,hg,k1,k2,k3,k4⟩
  ·exact absurd h h0
  ·have hgs:g=W.heap.size:=by
    rcases h5 with h | h
    ·cases h
    ·simpa [Value.ownBlock] using h
   subst hgs;refine⟨_,cap,W1,hr,h3,k1,k2,fun h=>absurd h h0,fun _=>⟨rfl,(Array.getElem?_eq_some_iff.1 hg).1,fun i=>by simp [World.frozen?,hg],⟨cur,hg,k3⟩,b,q,rfl,fun i hi=>?_⟩⟩;obtain⟨u,hu,_⟩:=hc i hi
   have e1:cur.toList[i]?=some u:=by
    have e2:(cur.toList.take (n*d))[i]?=some u:=by
     rw [k4,List.getElem?_map,List.getElem?_range hi];simp [hu]
    rwa [List.getElem?_take_of_lt hi] at e2
   rw [hu,Nat.zero_add];rw [Array.getElem?_toList] at e1;simp [World.cell?,hg,e1]
theorem Zi {ok0:Nat->Prop}{w:World}{n1 f:Nat}{t:V}{M:Nat->Prop}{s:List (Nd×V)}{W:World}(h:CopyI ok0 w n1 f t M s W)(T e d bytes:Nat){z:Value}(hz:z.cells.size=d)(ht:Tryd.prog.underlying T=some (.slice e))(hi:(Tryd.prog.info? e).map (fun i=>(i.zero,i.size,i.bytes))=some (some z,d,bytes))(hd:0<d)(hby:bytes<=200)
  {p:Option Addr} {n c:Nat} {Q:Nat->List Value->Prop} (hn:n<=10000000) (hR:RowIn ok0 w p d n Q) (hQ:∀j us,Q j us->∀u,u∈us->u.oneCell'=true) :
  ∃p' c' W1,(Builtin.append_ #[T,T] T #[.slice none 0 0,.slice p n c]).run Tryd.prog W.drew=.ok (.slice p' n c') W1/\W.grownBy W1 none/\n<=c'/\c'<=maxLen/\
   (n≠0->p'=some ⟨W.heap.size,0,none⟩/\W.heap.size<W1.heap.size/\Free W1 W.heap.size/\∃b q,p=some ⟨b,q,none⟩/\b<w.heap.size/\ok0 b/\∀i,i<n*d->(W.cell? ⟨b,q+i,none⟩).isSome=true/\W1.cell? ⟨W.heap.size,0+i,none⟩=W.cell? ⟨b,q+i,none⟩)/\(n=0->p'=none/\c'=0)/\(n≠0->p'=some ⟨W.heap.size,0,none⟩/\∃cur,W1.heap[W.heap.size]?=some (.cells cur e (0,0))/\cur.size=c'*d):=by
 obtain⟨i0,hi,hz0,hz1,hz2⟩:=info_parts hi;have hcell:∀b i,b<w.heap.size->W.cell? ⟨b,i,none⟩=w.cell? ⟨b,i,none⟩:=fun b i hb=>World.cell?_of_block (h.below.block b hb)
 obtain⟨p',c',W1,r1,r2,r3,r4,rz,r5⟩:=J0 (P:=Tryd.prog) T T e i0 z d bytes ht hi hz0 hz1 hz2 hz hd hby (W:=W.drew) (p:=p) (n:=n) (c:=c) hn (fun hne=>by
  obtain⟨b,q,hp,hb,_,hk⟩:=hR.flat hd hQ hne;refine⟨b,q,hp,fun i hi=>?_⟩;obtain⟨u,hu,h1⟩:=hk i hi;exact⟨u,(hcell b _ hb).trans hu,h1⟩)
 refine⟨p',c',W1,r1,⟨r2.os,r2.tape,r2.output,r2.size,r2.block⟩,r3,r4,fun hne=>?_,rz,fun hne=>⟨(r5 hne).1,(r5 hne).2.2.2.1⟩⟩;obtain⟨e1,e2,e3,_,b,q,e4,e5⟩:=r5 hne;obtain⟨b',q',hp,hb,hok,hk⟩:=hR.flat hd hQ hne;rw [e4] at hp;cases hp
 refine⟨e1,e2,e3,b,q,e4,hb,hok,fun i hi=>⟨?_,e5 i hi⟩⟩;obtain⟨u,hu,_⟩:=hk i hi;rw [hcell b _ hb,hu];rfl
def jbR (s:List (Nd×V))(b i:Nat):Prop:=∃q,q∈s/\q.1.1=b/\(i=q.1.2.1+4\/i=q.1.2.1+5)
def CopyG (w:World)(M:Nat->Prop)(st:List (Nd×V))(W:World):Prop:=∃G par,CopyU w.heap.size M (jbR st) G par W/\(∀i,i<6->G w.heap.size (0+i))/\∀p,p∈st->∀i,i<6->G p.1.1 (p.1.2.1+i)
theorem LiesV.four {ok:Nat->Prop}{f:Nat}{w:World}{us:List Value}{t:V}(h:LiesV ok f w us t){i:Nat}{p:Option Addr}{n c:Nat}(hi:us[i]?=some (.slice p n c)):i=4\/i=5:=by
 have hlen:=h.len
 match us,hlen with
 | [x0,x1,x2,x3,x4,x5],_=>
  obtain⟨vk,vn,vb,vs,vpL,vnL,vcL,vpE,vnE,vcE,rfl,rfl,rfl,rfl,rfl,rfl⟩:=h.form
  match i with
  | 0=>cases hi
  | 1=>cases hi
  | 2=>cases hi
  | 3=>cases hi
  | 4=>exact .inl rfl
  | 5=>exact .inr rfl
  | _+6=>simp at hi
theorem LiesV.keys {ok:Nat->Prop}{f:Nat}{w:World}{x0 x1 x2 x3 x4:Value}{t:V}{p:Option Addr}{n c:Nat}(h:LiesV ok f w [x0,x1,x2,x3,x4,.slice p n c] t)(hn:n≠0):∃b q,p=some ⟨b,q,none⟩/\∀j,j<n->∃s,w.cell? ⟨b,q+j*7,none⟩=some (.string s):=by
 cases f with
 | zero=>exact h.elim
 | succ f=>
  obtain⟨k,m,b,s,L,E,pL,pE,cL,cE,h1,h2,h3,h4,hL,hE⟩:=h;simp only [List.cons.injEq,Value.slice.injEq,and_true] at h2;obtain⟨_,_,_,_,_,rfl,rfl,rfl⟩:=h2;obtain⟨B,o,e,_,_,hk⟩:=hE hn;refine⟨B,o,e,fun j hj=>?_⟩;obtain⟨us,u1,u2,key,y,xs,_,rfl,_⟩:=hk j hj;exact⟨key,u2 0 (by omega)⟩
theorem YT {g d k:Nat}{a:Int}{n j:Nat}(hj:j<n):(g,0+j*d+k,a)∈jC (some ⟨g,0,none⟩) d k a n:=List.mem_map.2 ⟨j,List.mem_range.2 hj,rfl⟩
theorem YR {g d k:Nat}{a:Int}{n:Nat}{x:Nd}(h:x∈jC (some ⟨g,0,none⟩) d k a n):∃j,j<n/\x=(g,0+j*d+k,a):=by
 obtain⟨j,hj,rfl⟩:=List.mem_map.1 h;exact⟨j,List.mem_range.1 hj,rfl⟩
theorem YW {ks:List (Nd×V)}{x:Nd}(h:x∈ks.map Prod.fst):∃q,q∈ks/\q.1=x:=by
 obtain⟨q,hq,e⟩:=List.mem_map.1 h;exact⟨q,hq,e⟩
theorem CopyG.kids {w Wn:World}{n1 f g4 g5:Nat}{ok0 M:Nat->Prop}{t z:V}{p:Nd×V}{st ks:List (Nd×V)}{X G:Nat->Nat->Prop}{par:Nat->Nat×Nat}{x0 x1 x2 x3:Value}{pL pE pL' pE':Option Addr}{nL nE cL cE cL' cE':Nat}(hl:LiesV ok0 f w [x0,x1,x2,x3,.slice pL nL cL,.slice pE nE cE] z)
  (hX:∀b i,X b i->(((jbR (p :: st) b i/\¬(b=p.1.1/\i=p.1.2.1+4))\/b=g4)/\¬(b=p.1.1/\i=p.1.2.1+5))\/b=g5) (U:CopyU w.heap.size M X G par Wn) (hG0:∀i,i<6->G w.heap.size (0+i)) (hGs:∀q,q∈st->∀i,i<6->G q.1.1 (q.1.2.1+i))
  (G4:∀i,G g4 i->(nL≠0/\i<nL*6)\/g4=g5) (G4':∀i,nL≠0->i<nL*6->G g4 i) (G5:∀i,G g5 i↔nE≠0/\i<nE*7)
  (hkd:KidsN M Wn p.1 (ks.map Prod.fst)) (c4:Wn.cell? ⟨p.1.1,p.1.2.1+4,none⟩=some (.slice pL' nL cL')) (c5:Wn.cell? ⟨p.1.1,p.1.2.1+5,none⟩=some (.slice pE' nE cE')) (mL:Z8 w.heap.size w Wn M pL pL' nL 6 g4) (mE:Z8 w.heap.size w Wn M pE pE' nE 7 g5)
  (hK:CopyI ok0 w n1 f t M (ks++st) Wn):CopyG w M (ks++st) Wn:=by
 obtain⟨qL,qE,mL',kL,mE',kE,_,_,d4,d5,_,_,hks⟩:=hkd;rw [c4] at d4;rw [c5] at d5;cases d4
 cases d5
 have eL:nL≠0->pL'=some ⟨g4,0,none⟩:=fun h=>(mL h).1
 have eE:nE≠0->pE'=some ⟨g5,0,none⟩:=fun h=>(mE h).1
 have in4:∀j,j<nL->∃q,q∈ks/\q.1.1=g4/\q.1.2.1=j*6:=fun j hj=>by
  obtain⟨q,hq,e⟩:=YW (ks:=ks) (x:=(g4,0+j*6+0,IntKind.i64.wrap (p.1.2.2+1))) (by rw [hks,eL (by omega)];exact List.mem_append.2 (.inl (YT hj)));exact⟨q,hq,by rw [e],by rw [e];simp⟩
 have in5:∀j,j<nE->∃q,q∈ks/\q.1.1=g5/\q.1.2.1=j*7+1:=fun j hj=>by
  obtain⟨q,hq,e⟩:=YW (ks:=ks) (x:=(g5,0+j*7+1,IntKind.i64.wrap (p.1.2.2+1))) (by rw [hks,eE (by omega)];exact List.mem_append.2 (.inr (YT hj)));exact⟨q,hq,by rw [e],by rw [e];simp⟩
 refine⟨G,par,U.excuse fun b i p' n' c' hG hc hx=>?_,hG0,fun q hq=>?_⟩
 ·by_cases h5:b=g5
  ·subst h5
   obtain⟨hn,hi⟩:=(G5 i).1 hG;obtain⟨q,hq,e1,e2⟩:=in5 (i / 7) (by omega);obtain⟨_,us,hus,hly⟩:=hK.wait q (List.mem_append.2 (.inl hq))
   by_cases hz:i % 7=0
   ·obtain⟨_,_,B,o,hp,he⟩:=mE hn
    obtain⟨B2,o2,hp2,hs⟩:=hl.keys hn;rw [hp] at hp2;cases hp2
    obtain⟨s,hs⟩:=hs (i / 7) (by omega);have:=he i hi;rw [Nat.zero_add,hc,show i=i / 7*7 by omega,hs] at this;cases this
   ·have hr:i % 7 - 1<6:=by omega
    have:=hus (i % 7 - 1) hr;rw [e1,e2,show i / 7*7+1+(i % 7 - 1)=i by omega,hc] at this;refine⟨q,List.mem_append.2 (.inl hq),e1,?_⟩;have:=hly.four this.symm;omega
  ·by_cases h4:b=g4
   ·subst h4
    obtain⟨hn,hi⟩:=(G4 i hG).resolve_right h5;obtain⟨q,hq,e1,e2⟩:=in4 (i / 6) (by omega);obtain⟨_,us,hus,hly⟩:=hK.wait q (List.mem_append.2 (.inl hq));have hr:i % 6<6:=Nat.mod_lt _ (by omega);have:=hus (i % 6) hr;rw [e1,e2,show i / 6*6+i % 6=i by omega,hc] at this;refine⟨q,List.mem_append.2 (.inl hq),e1,?_⟩;have:=hly.four this.symm;omega
   ·have hx2:((jbR (p :: st) b i/\¬(b=p.1.1/\i=p.1.2.1+4))/\¬(b=p.1.1/\i=p.1.2.1+5)):=by
     rcases hX b i hx with ⟨h | h,h'⟩ | h
     ·exact⟨h,h'⟩
     ·exact absurd h h4
     ·exact absurd h h5
    obtain⟨⟨⟨q,hq,e1,e2⟩,n4⟩,n5⟩:=hx2
    rcases List.mem_cons.1 hq with rfl | hq
    ·rcases e2 with e2 | e2
     ·exact absurd ⟨e1.symm,e2⟩ n4
     ·exact absurd ⟨e1.symm,e2⟩ n5
    ·exact⟨q,List.mem_append.2 (.inr hq),e1,e2⟩
 ·rcases List.mem_append.1 hq with hq | hq
  ·have hq':q.1∈ks.map Prod.fst:=List.mem_map.2 ⟨q,hq,rfl⟩
   rw [hks] at hq'
   rcases List.mem_append.1 hq' with hq' | hq'
   ·have hn:nL≠0:=fun e=>by rw [e] at hq';cases hq'
    rw [eL hn] at hq';obtain⟨j,hj,e⟩:=YR hq';rw [e];have:=Nat.mul_le_mul_right 6 (show j+1<=nL from hj);exact fun i hi=>G4' _ hn (by simp only;omega)
   ·have hn:nE≠0:=fun e=>by rw [e] at hq';cases hq'
    rw [eE hn] at hq';obtain⟨j,hj,e⟩:=YR hq';rw [e];have:=Nat.mul_le_mul_right 7 (show j+1<=nE from hj);exact fun i hi=>(G5 _).2 ⟨hn,by simp only;omega⟩
  ·exact hGs q hq
theorem CopyG.start {w W:World}{M:Nat->Prop}{t:V}{ok:Nat->Prop}{f:Nat}{us:List Value}{a:Int}{cur:Array Value}{ty:Nat}(hM:∀b,M b->w.heap.size+1<b)(hB:W.heap[w.heap.size]?=some (.cells cur ty (0,0)))(hl:LiesV ok f w us t)(hc:∀i,i<6->W.cell? ⟨w.heap.size,0+i,none⟩=us[i]?):CopyG w M [((w.heap.size,0,a),t)] W:=by
 refine⟨fun b i=>b=w.heap.size/\i<6,fun _=>(0,0),⟨fun b i h=>?_,fun b i p n c h e=>.inl ⟨((w.heap.size,0,a),t),by simp,h.1.symm,?_⟩⟩,fun i hi=>⟨rfl,by omega⟩,fun p hp i hi=>?_⟩
 ·obtain⟨rfl,_⟩:=h
  exact⟨Nat.le_refl _,by omega,fun hx=>by have:=hM _ hx;omega,cur,ty,hB⟩
 ·obtain⟨rfl,hi⟩:=h
  have:=hc i hi;rw [Nat.zero_add,e] at this;have:=hl.four this.symm;simp only;omega
 ·rw [List.mem_singleton.1 hp]
  exact⟨rfl,by simp only;omega⟩
theorem zk (ok0:Nat->Prop)(f:Nat)(w:World)(t:V)(a0 a1 a2 a3 a4 a5:Value)(hok:∀b,ok0 b->b<w.heap.size)(hl:LiesV ok0 f w [a0,a1,a2,a3,a4,a5] t)(hn:jd f t<=10000000) :
  CallsIn Fence.wide 9 Tryd.prog 29 #[.agg #[a0,a1,a2,a3,a4,a5]] w fun e w'=>(∃x0 x1 x2 x3 x4 x5,e=.returned (.agg #[x0,x1,x2,x3,x4,x5])/\LiesD f (fun b=>w.heap.size<=b/\b<w'.heap.size) w' [x0,x1,x2,x3,x4,x5] t)/\Below w.heap.size w w':=by
 obtain⟨k,n,b,s,pL,nL,cL,pE,nE,cE,rfl,rfl,rfl,rfl,rfl,rfl⟩:=hl.form;refine callsIn_of_wp_marks Tryd.func29 rfl trivial ?_ rfl
 simp only [Tryd.ntmps29,List.size_toArray,List.length_cons,List.length_nil,Nat.reduceAdd,Nat.reduceSub,Array.replicate_succ,Array.replicate_zero,List.push_toArray,List.append_toArray,List.nil_append,List.cons_append]
 gi_wp2
 obtain⟨Wb,hWb⟩:∃Wb,Wb=(w.alloc (.cells #[.int .i64 k,.int .i64 n,.int .u64 (b:Int),.string s,.slice pL nL cL,.slice pE nE cE] 26)).alloc (.cells #[.int .i64 0,.int .i64 0,.int .u64 0,.string ⟨#[]⟩,.slice none 0 0,.slice none 0 0] 26):=⟨_,rfl⟩
 rw [<-hWb];have sb:Wb.heap.size=w.heap.size+2:=by rw [hWb];simp
 have tb:Below w.heap.size w Wb:=by rw [hWb];exact((Below.refl _ w).alloc (Nat.le_refl _) _).alloc (by simp) _
 have vb:Blk Wb w.heap.size #[.int .i64 k,.int .i64 n,.int .u64 (b:Int),.string s,.slice pL nL cL,.slice pE nE cE] 26:=by rw [hWb];exact(jb w _ _).alloc _
 have rb:Blk Wb (w.heap.size+1) #[.int .i64 0,.int .i64 0,.int .u64 0,.string ⟨#[]⟩,.slice none 0 0,.slice none 0 0] 26:=by
  rw [hWb];have:=jb (w.alloc (.cells #[.int .i64 k,.int .i64 n,.int .u64 (b:Int),.string s,.slice pL nL cL,.slice pE nE cE] 26)) #[.int .i64 0,.int .i64 0,.int .u64 0,.string ⟨#[]⟩,.slice none 0 0,.slice none 0 0] 26;rwa [World.size_alloc] at this
 clear hWb;refine⟨trivial,(JC _ _ _).mono ?_⟩
 rintro e w' ⟨rfl,rfl⟩
 gi_wp2
 obtain⟨W2,hW2⟩:∃W2,W2=(Wb.alloc (.cells #[.pointer (some ⟨w.heap.size,0,none⟩),.int .i64 0] 77)).alloc (.cells #[.func (.func 56) #[] #[]] 107):=⟨_,rfl⟩
 rw [<-hW2];have s2:W2.heap.size=Wb.heap.size+2:=by rw [hW2];simp
 have t2:Turns (fun _=>False) Wb W2:=by rw [hW2];exact(Turns.alloc _ _ _).trans (Turns.alloc (fun _=>False) _ _) (fun _ _ h=>h)
 have x1:W2.heap[w.heap.size+2]?=some (.cells #[.pointer (some ⟨w.heap.size,0,none⟩),.int .i64 0] 77):=by rw [<-sb,hW2];exact(jb Wb _ _).alloc _
 have x2:W2.heap[w.heap.size+2+1]?=some (.cells #[.func (.func 56) #[] #[]] 107):=by
  rw [<-sb,hW2];have:=jb (Wb.alloc (.cells #[.pointer (some ⟨w.heap.size,0,none⟩),.int .i64 0] 77)) #[.func (.func 56) #[] #[]] 107;rwa [World.size_alloc] at this
 clear hW2
 refine qS (lb:=#[.pointer (some ⟨w.heap.size+2,0,none⟩),.pointer (some ⟨w.heap.size+2+1,0,none⟩)]) rfl (enters_of Tryd.func71 (by kernel_rfl) rfl)
  (Qu (w.heap.size+2) (w.heap.size+2+1) (w.heap.size,0,0) zh (jM f) W2 x1 x2) (Below.refl _ _) rfl (fun M W x kids l o o' h _ h2 h3=>h.put o' h2 h3)
  (w.heap.size+2) (by omega)
  (fun M st W=>CopyG w M st W/\CopyI ok0 w (w.heap.size+2) f t M st W/\jM f st<=jd f t/\(∀p,p∈st->p.1.1≠w.heap.size+1)/\Blk W (w.heap.size+1) #[.int .i64 0,.int .i64 0,.int .u64 0,.string ⟨#[]⟩,.slice none 0 0,.slice none 0 0] 26)
  (fun _ _ _ _=>False)
  ?ab (fun _ _ _ _ _ _ h _ _=>h) [((w.heap.size,0,0),t)] rfl (fun b h=>by omega) ?start (fun M st X h=>by have:=h.2.1.len;omega)
  (fun x a' W=>∃Bx,Blk W Bx #[.pointer (some ⟨x.1,x.2.1,none⟩),.int .i64 x.2.2] 77/\a'={ tmps:=#[.agg #[.int .i64 k,.int .i64 n,.int .u64 (b:Int),.string s,.slice pL nL cL,.slice pE nE cE],.pointer (some ⟨w.heap.size,0,none⟩),.pointer (some ⟨w.heap.size+1,0,none⟩),.pointer (some ⟨Bx,0,none⟩),.func (.func 71) #[] #[.pointer (some ⟨w.heap.size+2,0,none⟩),.pointer (some ⟨w.heap.size+2+1,0,none⟩)],Jw x,undef,undef,undef,undef,undef,undef,undef,undef,undef,undef,undef,undef,undef,undef,undef,undef,undef,undef,undef,undef,undef],defers:=[] })
  ?ax ?assign ?body ?done (fun _ _ _ _ _ h _=>h.elim)
 case ab=>
  rintro M M' st A B ⟨⟨G,par,hU,hG0,hGs⟩,hS,hle,hne,hrb⟩ ht hm
  refine⟨⟨G,par,hU.still ht hm,hG0,hGs⟩,hS.still ht hm,hle,hne,(ht.block _ (by have:=hS.size;omega) (fun h=>?_)).trans hrb⟩
  rcases h with h | h
  ·have:=hS.mine _ h
   omega
  ·omega
 case start=>
  have e0:jM f [((w.heap.size,0,0),t)]=jd f t:=by rw [j8];rfl
  have vb2:Blk W2 w.heap.size #[.int .i64 k,.int .i64 n,.int .u64 (b:Int),.string s,.slice pL nL cL,.slice pE nE cE] 26:=(t2.block _ (by omega) (fun h=>h)).trans vb;have b2:Below w.heap.size w W2:=tb.trans (t2.below (by omega) (fun _ h=>h.elim))
  have hcs:∀i,i<6->W2.cell? ⟨w.heap.size,0+i,none⟩=[Value.int .i64 k,.int .i64 n,.int .u64 (b:Int),.string s,.slice pL nL cL,.slice pE nE cE][i]?:=fun i hi=>by
   rw [Nat.zero_add]
   match i,hi with
   | 0,_=>exact vb2.cell 0 _ rfl
   | 1,_=>exact vb2.cell 1 _ rfl
   | 2,_=>exact vb2.cell 2 _ rfl
   | 3,_=>exact vb2.cell 3 _ rfl
   | 4,_=>exact vb2.cell 4 _ rfl
   | 5,_=>exact vb2.cell 5 _ rfl
  refine⟨CopyG.start (fun b h=>by omega) vb2 hl hcs,⟨fun b h=>by omega,by omega,by omega,b2,⟨_,hcs,hl.kept (fun b hb=>.inl ⟨hok b hb,hb⟩) b2.size (fun b _ hb=>b2.block b hb)⟩,fun p hp=>?_,by simp⟩,by rw [e0];exact Nat.le_refl _,by simp,(t2.block _ (by omega) (fun h=>h)).trans rb⟩;rw [List.mem_singleton.1 hp];exact⟨⟨Nat.le_refl _,by simp only;omega,by simp only;omega,fun i=>by have h:=vb2;unfold Blk at h;simp [World.frozen?,h]⟩,_,hcs,hl⟩
 case ax=>
  rintro x a' W l o o' ⟨Bx,hb,ha⟩ h1 h2
  refine⟨Bx,(World.putObj_heap_other (fun e=>?_)).trans hb,ha⟩;rw [<-e,show W.heap[Bx]?=_ from hb] at h1;cases h1
  cases h2
 case assign=>
  intro l x W K hK;simp only [Jw] at *
  gi_wp2
  exact hK _ _ (Turns.alloc _ _ _) ⟨W.heap.size,jb _ _ _,by simp⟩
 case body=>
  rintro l M st x rest a' W hlw ⟨r,hr⟩ ⟨Bx,hbB,rfl⟩ ⟨⟨G,par,hU,hG0,hGs⟩,hS,hle,hne,hrb⟩ hM ht
  cases st with
  | nil=>cases ht
  | cons p st=>
   simp only [zh,List.map_cons,List.cons.injEq] at ht;obtain⟨rfl,rfl⟩:=ht;obtain⟨hT,hap⟩:=hS.tail;obtain⟨⟨b1,b2,b3,b4⟩,us,hus,hlu⟩:=hS.wait p (by simp);obtain⟨vk,vn,vb',vs,vpL,vnL,vcL,vpE,vnE,vcE,QL,QE,rfl,hRL,hQL,hRE,hQE,hsum⟩:=hlu.rows;have hB1:p.1.1≠w.heap.size+1:=hne p (by simp);have hle2:=hle;rw [j8] at hle2;have v3:W.cell? ⟨p.1.1,p.1.2.1+3,none⟩=some (.string vs):=hus 3 (by omega)
   have v4:W.cell? ⟨p.1.1,p.1.2.1+4,none⟩=some (.slice vpL vnL vcL):=hus 4 (by omega)
   have v5:W.cell? ⟨p.1.1,p.1.2.1+5,none⟩=some (.slice vpE vnE vcE):=hus 5 (by omega)
   have nB:Bx≠p.1.1:=fun e=>by
    have h1:=hbB;unfold Blk at h1;rw [e] at h1;have h2:=v3;simp [World.cell?,h1] at h2
   have lBx:=Blk.lt hbB;have sz0:=hS.size;obtain⟨p4,c4',W1,run1,g1,m1,m2,row1,z1,w1⟩:=Zi hT 23 26 6 88 rfl Tryd.underlying23 JP (by omega) (by omega) (c:=vcL) (n:=vnL) (by omega) hRL hQL;have T1:=hT.turn hM (k:=4) (d:=6) (.inl rfl) rfl b1 b2 b3 b4 hap ⟨_,v3⟩ ⟨_,_,_,v4⟩ ⟨_,_,_,v5⟩ v4 g1 m1 m2 row1;have d0:W1.cell? ⟨Bx,0,none⟩=some (.pointer (some ⟨p.1.1,p.1.2.1,none⟩)):=(World.cell?_of_block (g1.block Bx lBx (by simp))).trans (Blk.cell hbB 0 _ rfl)
   have d4:W1.cell? ⟨p.1.1,p.1.2.1+4,none⟩=some (.slice vpL vnL vcL):=(World.cell?_of_block (g1.block p.1.1 b3 (by simp))).trans v4
   have e4:W1.frozen? ⟨p.1.1,p.1.2.1+4,none⟩=false:=(b4.same (g1.block p.1.1 b3 (by simp))) _
   have U1:=hU.turn (by omega) hM (k:=4) (d:=6) (.inl ⟨rfl,rfl,rfl⟩) (hGs p (by simp) 4 (by omega)) ⟨_,v3⟩ ⟨_,_,_,v4⟩ v4 g1 m1 m2 z1 w1;obtain⟨Wm,hWm⟩:∃Wm,Wm=W1.setCell ⟨p.1.1,p.1.2.1+4,none⟩ (.slice p4 vnL c4'):=⟨_,rfl⟩
   rw [<-hWm] at T1 U1;obtain⟨hT',blk',cel',hit',free',new',sz'⟩:=T1;have sg1:=g1.size;have hbB':Blk Wm Bx #[.pointer (some ⟨p.1.1,p.1.2.1,none⟩),.int .i64 p.1.2.2] 77:=(blk' Bx lBx nB).trans hbB;have v3':=(cel' (p.1.2.1+3) (by omega)).trans v3;have v5':=(cel' (p.1.2.1+5) (by omega)).trans v5;obtain⟨p5,c5',W3,run2,g2,m3,m4,row2,z2,w2⟩:=Zi hT' 24 57 7 104 rfl Tryd.underlying24 JK (by omega) (by omega) (c:=vcE) (n:=vnE) (by omega) hRE hQE;have T2:=hT'.turn (fun b hb=>by have:=hM b hb;omega) (k:=5) (d:=7) (.inr rfl) rfl b1 b2 (by omega) free' hap ⟨_,v3'⟩ ⟨_,_,_,hit'⟩ ⟨_,_,_,v5'⟩ v5' g2 m3 m4 row2;have d0':W3.cell? ⟨Bx,0,none⟩=some (.pointer (some ⟨p.1.1,p.1.2.1,none⟩)):=(World.cell?_of_block (g2.block Bx (by omega) (by simp))).trans (Blk.cell hbB' 0 _ rfl)
   have d5:W3.cell? ⟨p.1.1,p.1.2.1+5,none⟩=some (.slice vpE vnE vcE):=(World.cell?_of_block (g2.block p.1.1 (by omega) (by simp))).trans v5'
   have e5:W3.frozen? ⟨p.1.1,p.1.2.1+5,none⟩=false:=(free'.same (g2.block p.1.1 (by omega) (by simp))) _
   have U2:=U1.turn (by omega) (fun b hb=>by have:=hM b hb;omega) (k:=5) (d:=7) (.inr ⟨rfl,rfl,rfl⟩) (.inl (hGs p (by simp) 5 (by omega))) ⟨_,v3'⟩ ⟨_,_,_,hit'⟩ v5' g2 m3 m4 z2 w2;obtain⟨Wn,hWn⟩:∃Wn,Wn=W3.setCell ⟨p.1.1,p.1.2.1+5,none⟩ (.slice p5 vnE c5'):=⟨_,rfl⟩
   rw [<-hWn] at T2 U2;obtain⟨hT2,blk2,cel2,hit2,free2,new2,sz2⟩:=T2;have sg2:=g2.size
   have FIN:QZ W2.heap.size (fun M st W=>CopyG w M st W/\CopyI ok0 w (w.heap.size+2) f t M st W/\jM f st<=jd f t/\(∀p,p∈st->p.1.1≠w.heap.size+1)/\Blk W (w.heap.size+1) #[.int .i64 0,.int .i64 0,.int .u64 0,.string ⟨#[]⟩,.slice none 0 0,.slice none 0 0] 26) (fun _ _ _ _=>False) zh (jM f) KidsN M (p :: st) p.1 (List.map Prod.fst st) W .normal { tmps:=#[],defers:=[] } Wn:=by
    have mL:Z8 w.heap.size w Wn M vpL p4 vnL 6 W.heap.size:=fun hn0=>by
     obtain⟨i1,i2,i3,ib,iq,i4,ilt,iok,i5⟩:=row1 hn0;obtain⟨j1,j2⟩:=new' hn0;have bl:Wn.heap[W.heap.size]?=Wm.heap[W.heap.size]?:=blk2 _ (by omega) (by omega)
     refine⟨i1,⟨by omega,fun hx=>by have:=hM _ hx;omega,by omega,j1.same bl⟩,ib,iq,i4,fun i hi=>?_⟩;exact(World.cell?_of_block bl).trans ((j2 _).trans ((i5 i hi).2.trans (World.cell?_of_block (hT.below.block ib ilt))))
    have mE:Z8 w.heap.size w Wn M vpE p5 vnE 7 Wm.heap.size:=fun hn0=>by
     obtain⟨i1,i2,i3,ib,iq,i4,ilt,iok,i5⟩:=row2 hn0;obtain⟨j1,j2⟩:=new2 hn0;refine⟨i1,⟨by omega,fun hx=>by have:=hM _ hx;omega,by omega,j1⟩,ib,iq,i4,fun i hi=>?_⟩;exact(j2 _).trans ((i5 i hi).2.trans (World.cell?_of_block (hT'.below.block ib ilt)))
    obtain⟨ks,hkd,hks,hK,hleft,hkb⟩:=hT2.kids (x:=p.1) hlu rfl rfl b2 (by omega) ((cel2 (p.1.2.1+4) (by omega)).trans hit') hit2 mL mE (fun hn0 _=>by have:=(row1 hn0).2.1;omega) (fun q hq=>by have:=(hT.wait q hq).1.2.2.1;exact⟨fun _=>by omega,fun _=>by omega⟩);have hleft':jM f (ks++st)+1=jM f (p :: st):=hleft
    have nG:∀i,¬G W.heap.size i/\¬G Wm.heap.size i:=fun i=>by
     constructor<;>intro h<;>obtain⟨_,_,_,cur,ty,h4⟩:=hU.sub _ _ h<;>have:=(Array.getElem?_eq_some_iff.1 h4).1<;>omega
    have hGf:CopyG w M (ks++st) Wn:=by
     refine CopyG.kids (g4:=W.heap.size) (g5:=Wm.heap.size) hlu (fun b i h=>h) U2 (fun i hi=>.inl (.inl (hG0 i hi))) (fun q hq i hi=>.inl (.inl (hGs q (by simp [hq]) i hi))) (fun i h=>?_) (fun i hn hi=>.inl (.inr ⟨hn,rfl,hi⟩)) (fun i=>⟨fun h=>?_,fun h=>.inr ⟨h.1,rfl,h.2⟩⟩) hkd ((cel2 (p.1.2.1+4) (by omega)).trans hit') hit2 mL mE hK
     ·rcases h with (h | h) | h
      ·exact absurd h (nG i).1
      ·exact .inl ⟨h.1,h.2.2⟩
      ·exact .inr h.2.1
     ·rcases h with (h | h) | h
      ·exact absurd h (nG i).2
      ·exact absurd h.2.1 (fun e=>by have:=(row1 h.1).2.1;omega)
      ·exact⟨h.1,h.2.2⟩
    have bl1:∀b,b<W.heap.size->b≠p.1.1->Wn.heap[b]?=W.heap[b]?:=fun b hb hne=>(blk2 b (by omega) hne).trans (blk' b hb hne)
    refine⟨⟨⟨by omega,fun k o _ hk hc=>(bl1 k (Array.getElem?_eq_some_iff.1 hk).1 (fun e=>?_)).trans hk⟩,⟨hT2.below.os.trans hS.below.os.symm,hT2.below.tape.trans hS.below.tape.symm,hT2.below.output.trans hS.below.output.symm,by omega,fun b hb hnn=>bl1 b hb (fun e=>hnn (by rw [e];exact b2))⟩⟩,ks++st,ks.map Prod.fst,⟨hGf,hK,by omega,fun q hq=>?_,(bl1 _ (by omega) (fun e=>hB1 e.symm)).trans hrb⟩,by simp [zh],by omega,hkd⟩
    ·obtain⟨o2,h2,h3⟩:=cells_of_cell v3
     simp only at h2;rw [<-e,hk] at h2;cases h2
     rw [hc] at h3;cases h3
    ·rcases List.mem_append.1 hq with hq | hq
     ·rcases hkb q hq with ⟨hn0,e⟩ | ⟨hn0,e⟩
      ·rw [e];omega
      ·rw [e];omega
     ·exact hne q (by simp [hq])
   have c0:W.cell? ⟨Bx,0,none⟩=some (.pointer (some ⟨p.1.1,p.1.2.1,none⟩)):=Blk.cell hbB 0 _ rfl
   have c0':Wm.cell? ⟨Bx,0,none⟩=some (.pointer (some ⟨p.1.1,p.1.2.1,none⟩)):=Blk.cell hbB' 0 _ rfl
   have HF:=ja FIN;have H1:=ja hWm;have H2:=ja hWn;clear FIN hWm hWn U1 U2 hU hGs z1 z2 w1 w2 new' new2 row1 row2 blk' blk2 cel' cel2 hT' hT2 hT hS hap hRL hRE hQL hQE
   gi_wp2
   refine wpIn_region_any (by kernel_rfl) ?_
   refine jbD rfl rfl rfl rfl rfl rfl rfl rfl rfl rfl rfl (by kernel_rfl) (by kernel_rfl) (by kernel_rfl) (by kernel_rfl) (by kernel_rfl) (by kernel_rfl) (by kernel_rfl) (by kernel_rfl) (by kernel_rfl) (by kernel_rfl) (by kernel_rfl) (by kernel_rfl) (by kernel_rfl) (by kernel_rfl) (by kernel_rfl) (by kernel_rfl) (by kernel_rfl) (by kernel_rfl) (by kernel_rfl) (by kernel_rfl) (by kernel_rfl) (by kernel_rfl) (by kernel_rfl) (by kernel_rfl) c0 v4 run1 d0 d4 e4 ?_
   rw [<-H1.out]
   gi_wp2
   refine wpIn_region_any (by kernel_rfl) ?_
   refine jbE rfl rfl rfl rfl rfl rfl rfl rfl rfl rfl rfl (by kernel_rfl) (by kernel_rfl) (by kernel_rfl) (by kernel_rfl) (by kernel_rfl) (by kernel_rfl) (by kernel_rfl) (by kernel_rfl) (by kernel_rfl) (by kernel_rfl) (by kernel_rfl) (by kernel_rfl) (by kernel_rfl) (by kernel_rfl) (by kernel_rfl) (by kernel_rfl) (by kernel_rfl) (by kernel_rfl) (by kernel_rfl) (by kernel_rfl) (by kernel_rfl) (by kernel_rfl) (by kernel_rfl) (by kernel_rfl) c0' v5' run2 d0' d5 e5 ?_
   rw [<-H2.out]
   gi_wp2
   exact HF.out
 case done=>
  rintro D M st W hD ht ⟨⟨G,par,hU,hG0,hGs⟩,hS,hle,hne,hrb⟩ hdf
  have est:st=[]:=List.map_eq_nil_iff.1 ht;subst est;obtain⟨us,hus,hlu⟩:=hS.root;have hlen:=hlu.len
  match us,hlen with
  | [y0,y1,y2,y3,y4,y5],_=>
   obtain⟨vk,vn,vbb,vs,vpL,vnL,vcL,vpE,vnE,vcE,rfl,rfl,rfl,rfl,rfl,rfl⟩:=hlu.form;have r0:=hus 0 (by omega);have r1:=hus 1 (by omega);have r2:=hus 2 (by omega);have r3:=hus 3 (by omega);have r4:=hus 4 (by omega);have r5:=hus 5 (by omega);simp only [Nat.zero_add,Nat.add_zero,List.getElem?_cons_zero,List.getElem?_cons_succ] at r0 r1 r2 r3 r4 r5;have q0:=hrb.cell 0 _ rfl;have q1:=hrb.cell 1 _ rfl;have q2:=hrb.cell 2 _ rfl;have q3:=hrb.cell 3 _ rfl;have q4:=hrb.cell 4 _ rfl;have q5:=hrb.cell 5 _ rfl;have z0:=Blk.froz hrb 0;have z1:=Blk.froz hrb 1;have z2:=Blk.froz hrb 2;have z3:=Blk.froz hrb 3;have z4:=Blk.froz hrb 4;have z5:=Blk.froz hrb 5;have HS:=ja hS;have hDD:=(hU.excuse (X':=fun _ _=>False) (fun b i p n c _ _ hx=>by obtain⟨q,hq,_⟩:=hx;cases hq)).tree hlu hG0 hus;have HL:=ja hDD;have HU2:=ja hU.sub;clear hU hG0 hGs hDD;have HU:=ja hus;clear hS hlu hus
   gi_wp2
   have hX:=jk hrb (.int .i64 vk) (.int .i64 vn) (.int .u64 (vbb:Int)) (.string vs) (.slice vpL vnL vcL) (.slice vpE vnE vcE);have hdl:=(Array.getElem?_eq_some_iff.1 hdf).1
   have tX:Turns (fun b=>b=w.heap.size+1) W (jp W (w.heap.size+1) (.int .i64 vk) (.int .i64 vn) (.int .u64 (vbb:Int)) (.string vs) (.slice vpL vnL vcL) (.slice vpE vnE vcE)) :=
    zM _ _ _ _ _ _ _ _
   generalize hXX:jp W (w.heap.size+1) (.int .i64 vk) (.int .i64 vn) (.int .u64 (vbb:Int)) (.string vs) (.slice vpL vnL vcL) (.slice vpE vnE vcE)=X at hX tX;simp only [jp] at hXX;rw [hXX];have hdf2:X.heap[D]?=some (.deferred (some [])):=(tX.block D hdl (by omega)).trans hdf
   have hX2:Blk (X.putObj D (.deferred none)) (w.heap.size+1) #[.int .i64 vk,.int .i64 vn,.int .u64 (vbb:Int),.string vs,.slice vpL vnL vcL,.slice vpE vnE vcE] 26:=(World.putObj_heap_other (by omega)).trans hX;refine⟨by simp,.inl ⟨_,_,rfl,run_takeDeferred hdf2,?_⟩⟩;have tY:Turns (fun b=>b=w.heap.size+1\/b=D) W (X.putObj D (.deferred none)):=(tX.mono fun _ _ h=>.inl h).trans (Turns.putObj (M:=fun b=>b=D) _ _ _ rfl) (fun _ _ h=>.inr h);refine⟨_,JQ _ hX2,⟨_,_,_,_,_,_,rfl,?_⟩,HS.out.below.trans (tY.below (n:=w.heap.size) (by have:=HS.out.size;omega) (fun b h=>by omega))⟩;have hsz:W.heap.size<=(X.putObj D (.deferred none)).heap.size:=tY.size;refine HL.out.kept (fun b hb=>?_) (fun b hb hlt=>tY.block b hlt (fun hx=>?_))
   ·have h1:=hb.lt (b0:=w.heap.size) (fun b i h=>h.1)
    obtain⟨i,h2⟩:=hb.good;obtain⟨_,_,_,cur,ty,h4⟩:=HU2.out b i h2;have:=(Array.getElem?_eq_some_iff.1 h4).1;exact⟨by omega,by omega⟩
   ·obtain⟨i,h2⟩:=hb.good
    obtain⟨_,h3,_,cur,ty,h4⟩:=HU2.out b i h2
    rcases hx with hx | hx
    ·exact h3 hx
    ·subst hx
     rw [hdf] at h4;cases h4
end valus
end Go.Proofs.YtadaehaemmelfaaDoor
