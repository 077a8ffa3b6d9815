/- Of our texts, what this claim reaches. -/
import Derived.Test.YtnbfnjhbmeocfaaGreatDoorPstAV
import Derived.Test.YtnbfnjhbmeocfaaGreatDoorPstAW
set_option linter.unusedVariables false
set_option maxHeartbeats 8000000
set_option maxRecDepth 100000
namespace Go.Proofs.YtnbfnjhbmeocfaaGreatDoor
namespace bigs
open Go.RowKit
theorem j5 (w:World)(a:Option Addr)(l:List Nat)(cap:Nat)(hl:l.length<=1152921504606846975)(hcap:l.length<=cap)(h:RowU w a l)(hs:je l) :
  Calls Tryz.prog 203 #[.slice a l.length cap] w fun e w'=>e=.returned (.slice a (jh (jc l)).length cap)/\w'=w:=by
 go_enter Tryz.func203,Tryz.ntmps203
 go_wp2
 go_loopw [3] (fun v wr=>∃(k:Nat),k<=l.length/\v=.int .i64 k/\Hid (jc (l.take k)=jc l)/\wr=w) (fun v _=>(intOf v).toNat)
 case atStart=>exact⟨l.length,Nat.le_refl _,rfl,by show jc _=_;rw [List.take_length],rfl⟩
 case round=>
  obtain⟨k,hk,rfl,hv,rfl⟩:=hrel;cases k with
  | zero=>
   have hfin:(jh (jc l)).length=0:=by
    have e:jc l=0:=by rw [<-hv.out];rfl
    rw [e,jI];rfl
   have HF:=jb hfin;clear hfin hv;go_wp2;go_ret;rw [ja HF];exact⟨rfl,rfl⟩
  | succ m=>
   obtain⟨b,o,rfl,hb,hc⟩:=h (by intro e;rw [e] at hk;simp at hk);have c:=hc m (by omega)
   by_cases h0:l.getD m 0=0
   ·have hv2:Hid (jc (l.take m)=jc l):=by
     have:=jK l m;rw [h0] at this
     show jc (l.take m)=jc l
     rw [<-hv.out,this];omega
    rw [h0] at c;clear hc hv h0;go_wp2;go_roundw
    case rel=>exact⟨m,by omega,by go_num,hv2,by trivial⟩
    case measure=>simp only [intOf];omega
   ·have hfin:(jh (jc l)).length=m+1:=by
     have e:jh (jc l)=l.take (m+1):=by
      rw [<-hv.out];apply jbg (Jb hs _)
      right
      rw [List.length_take,Nat.min_eq_left (by omega)];have:(l.take (m+1)).getD (m+1 - 1) 0=l.getD m 0:=by simp [List.getD]
      rw [this];exact h0
     rw [e,List.length_take];omega
    have HF:=jb hfin;have h0':(((l.getD m 0:Nat):Int) == 0)=false:=beq_false_of_ne (by omega);clear hfin hv hc h0;generalize l.getD m 0=x at *;go_wp2;go_ret;rw [ja HF];exact⟨rfl,rfl⟩
theorem Zr (w:World)(v:Value)(l:List Nat)(hl:l.length<=1152921504606846975)(h:WSl w v l)(hs:je l) :
  Calls Tryz.prog 203 #[v] w fun e w'=>∃v',e=.returned v'/\WBig w' v' (jc l)/\v'.ownBlock=v.ownBlock/\w'=w:=by
 obtain⟨a,cap,rfl,hc,hr⟩:=h;refine(j5 w a l cap hl hc hr hs).mono ?_
 rintro e w' ⟨rfl,rfl⟩
 exact⟨_,rfl,⟨a,cap,rfl,Nat.le_trans (jp hs) hc,hr.cut hs⟩,by cases a<;>rfl,rfl⟩
theorem jaY (w:World):Calls Tryz.prog 264 #[.bool true] w fun e w'=>e=.returned (.int .i64 1)/\w'=w:=by
 go_enter Tryz.func264,Tryz.ntmps264
 go_wp2;go_ret;exact⟨rfl,rfl⟩
theorem Yg (w:World):Calls Tryz.prog 264 #[.bool false] w fun e w'=>e=.returned (.int .i64 (-1))/\w'=w:=by
 go_enter Tryz.func264,Tryz.ntmps264
 go_wp2;go_ret;exact⟨rfl,rfl⟩
theorem Qz (x:Nat)(h:x<18446744073709551616):Lib.bitLen x=bits x:=by
 induction x using Nat.strongRecOn with
 | ind x ih=>
  by_cases h0:x=0
  ·subst h0;rw [zd];rfl
  ·rw [Lib.bitLen_half x h0 h,zk h0,ih _ (by omega) (by omega)];omega
theorem jdQ (j:Nat):∀n,n / 2 ^ j≠0->bits n=j+bits (n / 2 ^ j):=by
 induction j with
 | zero=>intro n _;simp
 | succ j ih=>
  intro n h;have e:n / 2 ^ (j+1)=n / 2 / 2 ^ j:=by rw [Nat.div_div_eq_div_mul,Nat.pow_succ,Nat.mul_comm 2]
  rw [e] at h ⊢;have h0:n≠0:=by intro e0;subst e0;simp at h
  rw [zk h0,ih (n / 2) h];omega
theorem jaq (x:Nat)(w:World)(h:x<4294967296) :
  Calls Tryz.prog 204 #[.int .u32 x] w fun e w'=>e=.returned (.int .i64 (bits x))/\w'=w:=by
 have:=jgD x w h;rwa [Qz x (by omega)] at this
theorem jdb (x:Nat)(w:World)(h:x<4294967296) :
  Calls Tryz.prog 277 #[.int .u32 x] w fun e w'=>e=.returned (.int .i64 ((32 - bits x:Nat):Int))/\w'=w:=by
 have b:bits x<=32:=J0 (k:=32) h;have K:=jb (jaq x w h);generalize bits x=y at *
 go_enter Tryz.func277,Tryz.ntmps277
 go_wp2_with fail
 refine(ja K).mono ?_
 rintro e w1 ⟨rfl,rfl⟩
 go_wp2;go_ret;refine⟨congrArg Ending.returned (congrArg (Value.int IntKind.i64) ?_),rfl⟩;omega
theorem jcs (x:Nat)(w:World)(h:x<65536) :
  Calls Tryz.prog 218 #[.int .u64 x] w fun e w'=>e=.returned (.int .i64 (bits x))/\w'=w:=by
 have:=jfG x w h;rwa [Qz x (by omega)] at this
theorem jdO (x:Nat)(w:World)(h:x<65536) :
  Calls Tryz.prog 177 #[.int .u64 x] w fun e w'=>e=.returned (.int .i64 (bits x))/\w'=w:=by
 have K:=jb (jcs x w h);generalize bits x=y at *
 go_enter Tryz.func177,Tryz.ntmps177
 go_wp2_with fail
 refine(ja K).mono ?_
 rintro e w1 ⟨rfl,rfl⟩
 go_wp2;go_ret;exact⟨rfl,rfl⟩
theorem Xr (w:World)(ty:TypeId)(base:Nat)(v:Value)(n:Nat)(xs:List Value)(hown:w.ownsRow base 222 1 v n xs)(a:Option Addr)(l:List Nat)(c:Nat)(hr:RowU w a l)
  (hb:(n+l.length)*4<=140737488355328) (hbase:base<=w.heap.size) :
  ∃v' w',(Builtin.append_ #[168,168] ty #[v,.slice a l.length c]).run Tryz.prog w=.ok v' w'/\w'.ownsRow base 222 1 v' (n+l.length) (xs++l.map wrd)/\w.grownBy w' v.ownBlock:=by
 obtain⟨i0,hi,hz0,hz1,hz2⟩:=info_parts jbZ;obtain⟨vb,vc,rfl⟩:=jfs hown;cases a with
 | none=>
  have hl:l=[]:=by
   by_cases h:l=[]
   ·exact h
   ·obtain⟨b,o,e,_⟩:=hr h
    cases e
  subst hl;refine⟨.slice vb n vc,w,?_,by simpa using hown,⟨rfl,rfl,rfl,Nat.le_refl _,fun _ _ _=>rfl⟩⟩
  rcases hown.2 with ⟨e,rfl⟩ | ⟨g,cap,cur,e,hbg,hg,hnc,_⟩
  ·rw [e]
   simp [Builtin.append_,run_underlying Tryz.underlying168,sizeOf,typeInfo,hi,Builtin.lenOf,Builtin.firstCells]
  ·rw [e]
   simp [Builtin.append_,run_underlying Tryz.underlying168,sizeOf,typeInfo,hi,Builtin.lenOf,Builtin.firstCells,hnc,storeCells]
 | some ad=>
  obtain⟨v',w',h1,h2,h3,_⟩:=run_append_own (P:=Tryz.prog) w base 168 ty 222 i0 (.int .u32 0) 1 4 Tryz.underlying168 hi hz0 hz1 hz2 rfl (by decide) _ n xs hown ad l.length c (l.map wrd) (by simp) (fun j u hu=>by
   have hj:j<l.length:=by
    have:=(List.getElem?_eq_some_iff.1 hu).1;simpa using this
   obtain⟨b,o,e,_,hc⟩:=hr (by intro e;rw [e] at hj;simp at hj);cases e
   have hcj:=hc j hj
   have hu':u=.int .u32 ((l.getD j 0:Nat):Int):=by
    rw [List.getElem?_map,List.getElem?_eq_getElem hj] at hu;simp at hu;rw [<-hu];simp [wrd,List.getD,List.getElem?_eq_getElem hj]
   rw [hu'];have hadd:(⟨b,o,none⟩:Addr).add j=⟨b,o+j,none⟩:=by unfold Addr.add;split<;>simp_all
   rw [hadd]
   exact hcj) (fun u hu=>by
    obtain⟨x,_,rfl⟩:=List.mem_map.1 hu;rfl) (by unfold maxLen;omega) hb hbase
  exact⟨v',w',h1,h2,h3⟩
theorem QY (w:World){ops:Array Oper}{rest:List Oper}{o:Oper}{a:Act}{Q:Exit->Act->World->Prop}(hgd:o.guard=none)(s x:Operand)
  (ho:o.op=.call { callee:=.builtin .append,args:=#[s,x],argTypes:=#[168,168] }) (base:Nat) (v:Value) (n:Nat) (xs:List Value) (hs:a.eval s=v) (hown:w.ownsRow base 222 1 v n xs)
  (ad:Option Addr) (l:List Nat) (c:Nat) (hx:a.eval x=.slice ad l.length c) (hr:RowU w ad l) (hb:(n+l.length)*4<=140737488355328) (hbase:base<=w.heap.size)
  (h:∀v' w',w'.ownsRow base 222 1 v' (n+l.length) (xs++l.map wrd)->w.grownBy w' v.ownBlock->wpList Tryz.prog ops Q rest (a.put o.dst v') w'):wpList Tryz.prog ops Q (o :: rest) a w:=by
 refine wpList_plain hgd fun K hK=>?_
 obtain⟨v',w',h1,h2,h3⟩:=Xr w o.type base v n xs hown ad l c hr hb hbase;unfold Oper.wp execOp;simp only [ho,resolve,invoke,builtin,Sem.run_bind,Sem.run_pure,Result.andThen_ok,List.map_toArray,List.map_cons,List.map_nil,hs,hx,h1];exact hK _ _ (h v' w' h2 h3)
theorem jjy {w:World}{B:Nat}{v:Value}{l:List Nat}(h:w.ownsRow B 222 1 v l.length (l.map wrd))(h0:l≠[]):∃g c,v=.slice (some ⟨g,0,none⟩) l.length c/\Own w g c l/\B<=g:=by
 rcases h.2 with ⟨rfl,e⟩ | ⟨g,cap,cur,rfl,hb,r⟩
 ·exact absurd (List.eq_nil_of_length_eq_zero e) h0
 ·exact⟨g,cap,rfl,⟨h.1,.inr ⟨g,cap,cur,rfl,Nat.zero_le _,r⟩⟩,hb⟩
theorem jjh {w:World}{B:Nat}{v:Value}{l:List Nat}(h:w.ownsRow B 222 1 v l.length (l.map wrd)):WSl w v l:=by
 obtain⟨a,c,e,hc,hr⟩:=jc0 h;exact⟨a,c,e,hc,hr⟩
theorem jdc (w:World)(v:Value)(l:List Nat)(h:WSl w v l)(hs:je l)(hl:l.length<=1000000) :
  Calls Tryz.prog 261 #[v] w fun e w'=>∃v',e=.returned v'/\w'.ownsRow w.heap.size 222 1 v' (jh (jc l)).length ((jh (jc l)).map wrd)/\Below w.heap.size w w':=by
 obtain⟨a,cap,rfl,hc,hr⟩:=h;have K:=jb (j5 w a l cap (by omega) hc hr hs);have hr2:=hr.cut hs;have hl2:(jh (jc l)).length<=1000000:=Nat.le_trans (jp hs) hl;clear hr hs;generalize jh (jc l)=D at *
 go_enter Tryz.func261,Tryz.ntmps261
 go_wp2_with fail
 refine(ja K).mono ?_
 rintro e w1 ⟨rfl,rfl⟩
 go_wp2_with (at_builtin;refine QY _ rfl _ _ rfl w1.heap.size _ 0 [] rfl (World.ownsRow_nil _ _ _ _) a D cap rfl hr2 ?c1 ?c2 ?_)
 case c1=>omega
 case c2=>exact Nat.le_refl _
 intro v2 w2 hown2 hgrow2;have hb2:Below w1.heap.size w1 w2:=(Below.refl _ w1).grown hgrow2 (Nat.le_refl _) (fun j h=>by simp [Value.ownBlock] at h);clear hgrow2 K;go_wp2;go_ret;exact⟨_,rfl,by simpa using hown2,hb2⟩
theorem jjg (w:World)(v u:Value)(l k:List Nat)(hv:WSl w v l)(hu:WSl w u k)(sl:je l)(sk:je k)(ll:l.length<=1000000)(lk:k.length<=1000000) :
  Calls Tryz.prog 238 #[v,u] w fun e w'=>e=.returned (.int .i64 (sgn (jc l) (jc k)))/\Below w.heap.size w w':=by
 obtain⟨aa,ca,rfl,hca,ra⟩:=hv;obtain⟨ab,cb,rfl,hcb,rb⟩:=hu;have K1:=jb (j5 w aa l ca (by omega) hca ra sl);have K2:=jb (j5 w ab k cb (by omega) hcb rb sk);have rA:=ra.cut sl;have rB:=rb.cut sk;have lA:(jh (jc l)).length<=1000000:=Nat.le_trans (jp sl) ll;have lB:(jh (jc k)).length<=1000000:=Nat.le_trans (jp sk) lk;have sA:=jn (jc l);have sB:=jn (jc k);have HE:Hid (jc (jh (jc l))=jc l/\jc (jh (jc k))=jc k):=⟨ju _,ju _⟩
 have HL:Hid ((jh (jc l)).length<(jh (jc k)).length->jc l<jc k):=Qj;have HG:Hid ((jh (jc k)).length<(jh (jc l)).length->jc k<jc l):=Qj;clear ra rb sl sk;generalize jh (jc l)=A at *;generalize jh (jc k)=B at *;generalize jc l=m at *;generalize jc k=n at *
 rcases Nat.lt_trichotomy A.length B.length with hlt | heq | hgt
 ·have E:=jb (ZJ (HL.out hlt))
  have t3:decide (B.length<A.length)=false:=decide_eq_false (by omega);have t1:(((A.length:Nat):Int) != (B.length:Nat))=true:=by simp only [bne_iff_ne];omega
  go_enter Tryz.func238,Tryz.ntmps238
  go_wp2_with fail
  refine(ja K1).mono ?_
  rintro e w1 ⟨rfl,rfl⟩
  go_wp2_with fail
  refine(ja K2).mono ?_
  rintro e w1 ⟨rfl,rfl⟩
  go_wp2_with fail
  refine(Yg _).mono ?_
  rintro e w1 ⟨rfl,rfl⟩
  go_wp2;go_ret;rw [ja E];exact⟨rfl,Below.refl _ _⟩
 ·have HEQ:=jb heq
  have t1:(((A.length:Nat):Int) != (B.length:Nat))=false:=by simp [heq]
  have le1:A.length<=B.length:=by omega
  have le2:B.length<=A.length:=by omega
  clear heq HL HG
  go_enter Tryz.func238,Tryz.ntmps238
  go_wp2_with fail
  refine(ja K1).mono ?_
  rintro e w1 ⟨rfl,rfl⟩
  go_wp2_with fail
  refine(ja K2).mono ?_
  rintro e w1 ⟨rfl,rfl⟩
  go_wp2_with fail
  go_loopw [5] (fun i wr=>∃k:Nat,i=.int .i64 ((k:Int) - 1)/\k<=A.length/\Hid (jc (A.drop k)=jc (B.drop k))/\Below w1.heap.size w1 wr) (fun i _=>(intOf i+1).toNat)
  case atStart=>
   refine⟨A.length,rfl,Nat.le_refl _,?_,Below.refl _ _⟩
   show _=_
   rw [List.drop_of_length_le (by omega),List.drop_of_length_le (by omega)]
  case round=>
   obtain⟨k,rfl,hk,hd,hbw⟩:=hrel;cases k with
   | zero=>
    have e:sgn m n=0:=by
     apply jbC
     have:=hd.out;rw [List.drop_zero,List.drop_zero,HE.out.1,HE.out.2] at this;exact this
    have E:=jb e;clear e;clear hd;go_wp2;go_ret;rw [ja E];exact⟨rfl,hbw⟩
   | succ j=>
    have e0:((j+1:Nat):Int) - 1=(j:Int):=by omega
    rw [e0];obtain⟨b1,o1,rfl,hb1,hc1⟩:=rA (by intro e;rw [e] at hk;simp at hk);obtain⟨b2,o2,rfl,hb2,hc2⟩:=rB (by intro e;rw [e] at le1;simp at le1;rw [le1] at hk;simp at hk);have x1:wr.cell? ⟨b1,o1+j,none⟩=some (.int .u32 ((A.getD j 0:Nat):Int)):=by rw [hbw.cell (p:=⟨b1,o1+j,none⟩) hb1];exact hc1 j (by omega)
    have x2:wr.cell? ⟨b2,o2+j,none⟩=some (.int .u32 ((B.getD j 0:Nat):Int)):=by rw [hbw.cell (p:=⟨b2,o2+j,none⟩) hb2];exact hc2 j (by omega)
    have D1:=qu A j;have D2:=qu B j;rw [hd.out] at D1;have i1:(j:Int)<(A.length:Int):=by omega
    have i2:(j:Int)<(B.length:Int):=by omega
    rcases Nat.lt_trichotomy (A.getD j 0) (B.getD j 0) with h | h | h
    ·have e:sgn m n = -1:=by
      apply ZJ
      rw [<-HE.out.1,<-HE.out.2];exact QW (k:=j) sA sB (by omega)
     have E:=jb e;have t2:(((A.getD j 0:Nat):Int) != ((B.getD j 0:Nat):Int))=true:=by simp only [bne_iff_ne];omega
     clear e D1 D2 hd hc1 hc2 rA rB K1 K2;generalize A.getD j 0=x at *;generalize B.getD j 0=y at *;have t3:decide (y<x)=false:=decide_eq_false (by omega)
     go_wp2_with fail
     go_quiet (fail)
     have y1:(wr.drewN nq).cell? ⟨b1,o1+j,none⟩=some (.int .u32 (x:Int)):=x1
     have y2:(wr.drewN nq).cell? ⟨b2,o2+j,none⟩=some (.int .u32 (y:Int)):=x2
     have hbz:Below w1.heap.size w1 (wr.drewN nq):=below_drewN hbw _;clear x1 x2 hbw;generalize wr.drewN nq=wz at *
     go_wp2_with fail
     go_quiet ((go_at_call 264;exact Calls.quiet_of_same (Yg _)))
     go_wp2;go_ret;rw [ja E];exact⟨rfl,below_drewN hbz _⟩
    ·have hd2:Hid (jc (A.drop j)=jc (B.drop j)):=by show _=_;rw [D1,D2,h]
     have t2:(((B.getD j 0:Nat):Int) != ((B.getD j 0:Nat):Int))=false:=by simp
     rw [h] at x1;clear D1 D2 hd h hc1 hc2 rA rB K1 K2;generalize B.getD j 0=y at *
     go_wp2_with fail
     go_quiet (fail)
     go_wp2;go_roundw
     case rel=>exact⟨j,rfl,by omega,hd2,below_drewN hbw _⟩
     case measure=>simp only [intOf];omega
    ·have e:sgn m n=1:=by
      apply jbr
      rw [<-HE.out.1,<-HE.out.2];exact QW (k:=j) sB sA (by omega)
     have E:=jb e;have t2:(((A.getD j 0:Nat):Int) != ((B.getD j 0:Nat):Int))=true:=by simp only [bne_iff_ne];omega
     clear e D1 D2 hd hc1 hc2 rA rB K1 K2;generalize A.getD j 0=x at *;generalize B.getD j 0=y at *;have t3:decide (y<x)=true:=decide_eq_true (by omega)
     go_wp2_with fail
     go_quiet (fail)
     have y1:(wr.drewN nq).cell? ⟨b1,o1+j,none⟩=some (.int .u32 (x:Int)):=x1
     have y2:(wr.drewN nq).cell? ⟨b2,o2+j,none⟩=some (.int .u32 (y:Int)):=x2
     have hbz:Below w1.heap.size w1 (wr.drewN nq):=below_drewN hbw _;clear x1 x2 hbw;generalize wr.drewN nq=wz at *
     go_wp2_with fail
     go_quiet ((go_at_call 264;exact Calls.quiet_of_same (jaY _)))
     go_wp2;go_ret;rw [ja E];exact⟨rfl,below_drewN hbz _⟩
 ·have E:=jb (jbr (HG.out hgt))
  have t3:decide (B.length<A.length)=true:=decide_eq_true (by omega);have t1:(((A.length:Nat):Int) != (B.length:Nat))=true:=by simp only [bne_iff_ne];omega
  go_enter Tryz.func238,Tryz.ntmps238
  go_wp2_with fail
  refine(ja K1).mono ?_
  rintro e w1 ⟨rfl,rfl⟩
  go_wp2_with fail
  refine(ja K2).mono ?_
  rintro e w1 ⟨rfl,rfl⟩
  go_wp2_with fail
  refine(jaY _).mono ?_
  rintro e w1 ⟨rfl,rfl⟩
  go_wp2;go_ret;rw [ja E];exact⟨rfl,Below.refl _ _⟩
theorem jhF {n:Nat}(h:n≠0):bits n=((jh n).length - 1)*32+bits ((jh n).getD ((jh n).length - 1) 0)/\bits ((jh n).getD ((jh n).length - 1) 0)<=32:=by
 have hp:=zK h;have hl:=QF h;have hd:=QD (jh n) ((jh n).length - 1) (jn n);rw [qu,List.drop_of_length_le (by omega),ju] at hd;have e:(4294967296:Nat)=2 ^ 32:=by decide
 rw [e,<-Nat.pow_mul] at hd;have hd':(jh n).getD ((jh n).length - 1) 0=n / 2 ^ (32*((jh n).length - 1)):=by rw [<-hd];simp [jc]
 have hb:=jdQ (32*((jh n).length - 1)) n (by rw [<-hd'];exact hl);rw [<-hd'] at hb;refine⟨by omega,J0 (k:=32) (jG (jn n) _)⟩
theorem jit (w:World)(v:Value)(l:List Nat)(h:WSl w v l)(hs:je l)(hl:l.length<=1000000) :
  Calls Tryz.prog 163 #[v] w fun e w'=>e=.returned (.int .i64 (bits (jc l)))/\Below w.heap.size w w':=by
 obtain⟨a,cap,rfl,hc,hr⟩:=h;have K:=jb (j5 w a l cap (by omega) hc hr hs);have hr2:=hr.cut hs;have hl2:(jh (jc l)).length<=1000000:=Nat.le_trans (jp hs) hl
 by_cases h0:jc l=0
 ·rw [h0,zd]
  rw [h0,jI] at K;clear hr hs hr2 hl2 h0
  go_enter Tryz.func163,Tryz.ntmps163
  go_wp2_with fail
  refine(ja K).mono ?_
  rintro e w1 ⟨rfl,rfl⟩
  go_wp2;go_ret;exact⟨rfl,Below.refl _ _⟩
 ·have hp:=zK h0
  obtain⟨e1,e2⟩:=jhF h0;have hw:=jG (jn (jc l)) ((jh (jc l)).length - 1);rw [e1];clear hr hs e1;generalize jh (jc l)=D at *;obtain⟨b,o,rfl,hb,hcell⟩:=hr2 (by intro e;rw [e] at hp;simp at hp);have c1:=hcell (D.length - 1) (by omega);have K3:=jb (jaq (D.getD (D.length - 1) 0) w hw);have hz:(((D.length:Nat):Int) == 0)=false:=beq_false_of_ne (by omega);clear hcell h0;generalize D.getD (D.length - 1) 0=x at *;generalize hn:D.length=n at *;obtain⟨n,rfl⟩:∃k,n=k+1:=⟨n - 1,by omega⟩
  rw [Nat.add_sub_cancel] at *;have e0:((n+1:Nat):Int) - 1=(n:Int):=by omega
  generalize bits x=y at *;clear hn
  go_enter Tryz.func163,Tryz.ntmps163
  go_wp2_with fail
  refine(ja K).mono ?_
  rintro e w1 ⟨rfl,rfl⟩
  go_wp2_with fail
  refine(ja K3).mono ?_
  rintro e w1 ⟨rfl,rfl⟩
  go_wp2;go_ret;refine⟨congrArg Ending.returned (congrArg (Value.int IntKind.i64) ?_),Below.refl _ _⟩;omega
open Go.RowKit
theorem jgC {D M B:List Nat}{k q:Nat}(hD:D.length=k)(h:jc D+4294967296 ^ k*q=jc (M.take k)+jc (B.take k)) :
  jc (D++[(q+M.getD k 0+B.getD k 0) % 4294967296])+4294967296 ^ (k+1)*((q+M.getD k 0+B.getD k 0) / 4294967296)=jc (M.take (k+1))+jc (B.take (k+1)):=by
 rw [qd,zf,hD,jK,jK];generalize M.getD k 0=x;generalize B.getD k 0=y;have e:4294967296 ^ (k+1)*((q+x+y) / 4294967296)=4294967296 ^ k*(4294967296*((q+x+y) / 4294967296)):=by rw [Nat.pow_succ,Nat.mul_assoc]
 have e2:4294967296 ^ k*((q+x+y) % 4294967296)+4294967296 ^ k*(4294967296*((q+x+y) / 4294967296))=4294967296 ^ k*q+4294967296 ^ k*x+4294967296 ^ k*y:=by
  rw [<-Nat.mul_add,Nat.mod_add_div,Nat.mul_add,Nat.mul_add]
 omega
theorem jba {l:List Nat}{k:Nat}(h:l.length<=k):l.getD k 0=0:=by rw [List.getD,List.getElem?_eq_none h];rfl
theorem jfM (w:World)(g c o ca:Nat)(P M S B:List Nat)(vb:Value)(ho:P.length=o)(hBM:B.length<=M.length)(hM:M.length<=1000000)(sM:je M)(sB:je B)
  (own:Own w g c (P++(M++S))) (hB:WSl w vb B) (hne:B≠[]->vb.ownBlock≠some g) :
  Calls Tryz.prog 265 #[.slice (some ⟨g,o,none⟩) M.length ca,vb] w fun e w'=>∃(M':List Nat) (b:Bool),e=.returned (.bool b)/\M'.length=M.length/\je M'/\
   jc M'+4294967296 ^ M.length*b.toNat=jc M+jc B/\Own w' g c (P++(M'++S))/\w.grownBy w' (some g):=by
 obtain⟨ab,cb,rfl,hcb,rb⟩:=hB;have hne':B≠[]->∀b o s,ab=some ⟨b,o,s⟩->b≠g:=fun h0 b o s e h=>hne h0 (by rw [e,h];rfl)
 clear hne;subst ho
 go_enter Tryz.func265,Tryz.ntmps265
 go_wp2
 go_loopw [5,10] (fun cc i wr=>∃(k q:Nat) (D:List Nat),i=.int .i64 k/\cc=.int .u64 q/\q<=1/\k<=M.length/\Hid (D.length=k)/\Hid (je D)/\Hid (jc D+4294967296 ^ k*q=jc (M.take k)+jc (B.take k))/\
  Own wr g c (P++((D++M.drop k)++S))/\w.grownBy wr (some g)) (fun _ i _=>M.length - (intOf i).toNat)
 case atStart=>exact⟨0,0,[],rfl,rfl,by omega,Nat.zero_le _,rfl,JG,by show _=_;simp [jc],own,qY _ _⟩
 case round=>
  clear own;obtain⟨k,q,D,rfl,rfl,hq,hkM,hD,sD,hval,hown,hgr⟩:=hrel
  by_cases hlt:k<M.length
  ·have hlen:(D++M.drop k).length=M.length:=jaH hD.out hkM
   have c1:wr.cell? ⟨g,P.length+k,none⟩=some (.int .u32 ((M.getD k 0:Nat):Int)):=by
    rw [hown.cellMid k (by omega),jay hD.out hlt]
   have f1:=hown.froz (P.length+k);have x1:=jG sM k;have x2:=jG sB k;have hval2:Hid (jc (D++[(q+M.getD k 0+B.getD k 0) % 4294967296])+4294967296 ^ (k+1)*((q+M.getD k 0+B.getD k 0) / 4294967296)=jc (M.take (k+1))+jc (B.take (k+1))):=jgC hD.out hval.out;have sD2:Hid (je (D++[(q+M.getD k 0+B.getD k 0) % 4294967296])):=zh.2 ⟨sD.out,q9 (by omega)⟩;have hD2:Hid (∀d,(D++[d]).length=k+1):=fun d=>by rw [List.length_append,hD.out];rfl
   have hset:Hid (∀d:Nat,Own (wr.setCell ⟨g,P.length+k,none⟩ (.int .u32 (d:Int))) g c (P++(((D++[d])++M.drop (k+1))++S))):=fun d=>by
    have h:=hown.setMid k d (by omega);rwa [jbb hD.out hlt] at h
   have hgr2:Hid (∀u,w.grownBy (wr.setCell ⟨g,P.length+k,none⟩ u) (some g)):=fun u=>JZ hgr _ u
   have i1:(k:Int)<(M.length:Int):=by omega
   by_cases hb:k<B.length
   ·obtain⟨b,ob,rfl,hbb,hcb'⟩:=rb (by intro e;rw [e] at hb;simp at hb)
    have hbg:=hne' (by intro e;rw [e] at hb;simp at hb) b ob none rfl;have c2:wr.cell? ⟨b,ob+k,none⟩=some (.int .u32 ((B.getD k 0:Nat):Int)):=hgr.cell (hcb' k hb) (fun e=>hbg (by simpa using e))
    have i2:(k:Int)<(B.length:Int):=by omega
    clear hcb' hne' hval sD hown hgr hlen rb;generalize M.getD k 0=x at *;generalize B.getD k 0=y at *;go_wp2;go_roundw
    case rel=>
     have ed:(((q:Int)+(x:Int)+(y:Int)) % 4294967296)=(((q+x+y) % 4294967296:Nat):Int):=by omega
     refine⟨k+1,(q+x+y) / 4294967296,D++[(q+x+y) % 4294967296],by go_num,by go_num,by omega,by omega,hD2.out _,sD2,hval2,?_,hgr2.out _⟩;rw [ed];exact hset.out _
    case measure=>simp only [intOf];omega
   ·have e0:B.getD k 0=0:=jba (by omega)
    have i2:¬(k:Int)<(B.length:Int):=by omega
    rw [e0] at hval2 sD2;clear hne' hval sD hown hgr hlen rb x2 e0;generalize M.getD k 0=x at *;go_wp2;go_roundw
    case rel=>
     have ed:(((q:Int)+(x:Int)) % 4294967296)=(((q+x+0) % 4294967296:Nat):Int):=by omega
     refine⟨k+1,(q+x+0) / 4294967296,D++[(q+x+0) % 4294967296],by go_num,by congr 1,by omega,by omega,hD2.out _,sD2,hval2,?_,hgr2.out _⟩;rw [ed];exact hset.out _
    case measure=>simp only [intOf];omega
  ·have hkl:k=M.length:=by omega
   have HK:=jb hkl
   have hfin:Hid (D.length=M.length/\jc D+4294967296 ^ M.length*q=jc M+jc B/\Own wr g c (P++(D++S))):=by
    refine⟨by rw [hD.out,hkl],?_,?_⟩
    ·have h:=hval.out
     rwa [hkl,List.take_length,List.take_of_length_le hBM] at h
    ·rwa [hkl,List.drop_length,List.append_nil] at hown
   clear hkl hval hown hD;have h01:q=0\/q=1:=by omega
   rcases h01 with rfl | rfl
   ·go_wp2
    go_ret;exact⟨D,false,rfl,hfin.out.1,sD.out,hfin.out.2.1,hfin.out.2.2,hgr⟩
   ·go_wp2
    go_ret;exact⟨D,true,rfl,hfin.out.1,sD.out,hfin.out.2.1,hfin.out.2.2,hgr⟩
theorem jd4 {D M B:List Nat}{k q q' n d:Nat}(hD:D.length=k)(h:jc D+n*jc (B.take k)=jc (M.take k)+4294967296 ^ k*q)(hd:q+B.getD k 0*n+d=M.getD k 0+4294967296*q') :
  jc (D++[d])+n*jc (B.take (k+1))=jc (M.take (k+1))+4294967296 ^ (k+1)*q':=by
 rw [qd,zf,hD,jK,jK];generalize M.getD k 0=x at *;generalize B.getD k 0=y at *;have e:4294967296 ^ (k+1)*q'=4294967296 ^ k*(4294967296*q'):=by rw [Nat.pow_succ,Nat.mul_assoc]
 have e2:n*(jc (B.take k)+4294967296 ^ k*y)=n*jc (B.take k)+4294967296 ^ k*(y*n):=by rw [Nat.mul_add,Nat.mul_left_comm,Nat.mul_comm n y]
 have e3:4294967296 ^ k*q+4294967296 ^ k*(y*n)+4294967296 ^ k*d=4294967296 ^ k*x+4294967296 ^ k*(4294967296*q'):=by rw [<-Nat.mul_add,<-Nat.mul_add,<-Nat.mul_add,hd]
 omega
theorem YT (w:World)(g c o ca n:Nat)(P M S B:List Nat)(vb:Value)(ho:P.length=o)(hBM:B.length<=M.length)(hM:M.length<=1000000)(sM:je M)(sB:je B)(hn:n<4294967296)
  (own:Own w g c (P++(M++S))) (hB:WSl w vb B) (hne:B≠[]->vb.ownBlock≠some g) :
  Calls Tryz.prog 295 #[.slice (some ⟨g,o,none⟩) M.length ca,vb,.int .u32 n] w fun e w'=>∃(M':List Nat) (q:Nat) (b:Bool),e=.returned (.bool b)/\(b=true↔0<q)/\M'.length=M.length/\je M'/\
   jc M'+n*jc B=jc M+4294967296 ^ M.length*q/\Own w' g c (P++(M'++S))/\w.grownBy w' (some g):=by
 obtain⟨ab,cb,rfl,hcb,rb⟩:=hB;have hne':B≠[]->∀b o s,ab=some ⟨b,o,s⟩->b≠g:=fun h0 b o s e h=>hne h0 (by rw [e,h];rfl)
 clear hne;subst ho
 go_enter Tryz.func295,Tryz.ntmps295
 go_wp2
 go_loopw [7,13] (fun cc i wr=>∃(k q:Nat) (D:List Nat),i=.int .i64 k/\cc=.int .u64 q/\q<4294967296/\k<=M.length/\Hid (D.length=k)/\Hid (je D)/\Hid (jc D+n*jc (B.take k)=jc (M.take k)+4294967296 ^ k*q)/\
  Own wr g c (P++((D++M.drop k)++S))/\w.grownBy wr (some g)) (fun _ i _=>M.length - (intOf i).toNat)
 case atStart=>exact⟨0,0,[],rfl,rfl,by omega,Nat.zero_le _,rfl,JG,by show _=_;simp [jc],own,qY _ _⟩
 case round=>
  clear own;obtain⟨k,q,D,rfl,rfl,hq,hkM,hD,sD,hval,hown,hgr⟩:=hrel
  by_cases hlt:k<M.length
  ·have hlen:(D++M.drop k).length=M.length:=jaH hD.out hkM
   have c1:wr.cell? ⟨g,P.length+k,none⟩=some (.int .u32 ((M.getD k 0:Nat):Int)):=by
    rw [hown.cellMid k (by omega),jay hD.out hlt]
   have f1:=hown.froz (P.length+k);have x1:=jG sM k;have x2:=jG sB k;have hval2:Hid (∀d q',q+B.getD k 0*n+d=M.getD k 0+4294967296*q'->jc (D++[d])+n*jc (B.take (k+1))=jc (M.take (k+1))+4294967296 ^ (k+1)*q'):=fun d q' h=>jd4 hD.out hval.out h
   have sD2:Hid (∀d,d<4294967296->je (D++[d])):=fun d h=>zh.2 ⟨sD.out,q9 h⟩
   have hD2:Hid (∀d,(D++[d]).length=k+1):=fun d=>by rw [List.length_append,hD.out];rfl
   have hset:Hid (∀d:Nat,Own (wr.setCell ⟨g,P.length+k,none⟩ (.int .u32 (d:Int))) g c (P++(((D++[d])++M.drop (k+1))++S))):=fun d=>by
    have h:=hown.setMid k d (by omega);rwa [jbb hD.out hlt] at h
   have hgr2:Hid (∀u,w.grownBy (wr.setCell ⟨g,P.length+k,none⟩ u) (some g)):=fun u=>JZ hgr _ u
   have i1:(k:Int)<(M.length:Int):=by omega
   by_cases hb:k<B.length
   ·obtain⟨b,ob,rfl,hbb,hcb'⟩:=rb (by intro e;rw [e] at hb;simp at hb)
    have hbg:=hne' (by intro e;rw [e] at hb;simp at hb) b ob none rfl;have c2:wr.cell? ⟨b,ob+k,none⟩=some (.int .u32 ((B.getD k 0:Nat):Int)):=hgr.cell (hcb' k hb) (fun e=>hbg (by simpa using e))
    have i2:(k:Int)<(B.length:Int):=by omega
    clear hcb' hne' hval sD hown hgr hlen rb;generalize M.getD k 0=x at *;generalize B.getD k 0=y at *;have hp:y*n<=4294967295*4294967295:=Nat.mul_le_mul (by omega) (by omega);have hpi:(y:Int)*(n:Int)=((y*n:Nat):Int):=by rw [Int.natCast_mul]
    generalize y*n=p at *
    by_cases hbo:x<(q+p) % 4294967296
    ·go_wp2
     go_roundw
     case rel=>
      have ed:(((x:Int) - ((q:Int)+(p:Int))) % 4294967296)=((x+4294967296 - (q+p) % 4294967296:Nat):Int):=by omega
      refine⟨k+1,(q+p) / 4294967296+1,D++[x+4294967296 - (q+p) % 4294967296],by go_num,by go_num,by omega,by omega,hD2.out _,sD2.out _ (by omega),hval2.out _ _ (by omega),?_,hgr2.out _⟩;rw [ed];exact hset.out _
     case measure=>simp only [intOf];omega
    ·go_wp2
     go_roundw
     case rel=>
      have ed:(((x:Int) - ((q:Int)+(p:Int)) % 4294967296))=((x - (q+p) % 4294967296:Nat):Int):=by omega
      refine⟨k+1,(q+p) / 4294967296,D++[x - (q+p) % 4294967296],by go_num,by go_num,by omega,by omega,hD2.out _,sD2.out _ (by omega),hval2.out _ _ (by omega),?_,hgr2.out _⟩;rw [ed];exact hset.out _
     case measure=>simp only [intOf];omega
   ·have e0:B.getD k 0=0:=jba (by omega)
    have i2:¬(k:Int)<(B.length:Int):=by omega
    have hval3:Hid (∀d q',q+d=M.getD k 0+4294967296*q'->jc (D++[d])+n*jc (B.take (k+1))=jc (M.take (k+1))+4294967296 ^ (k+1)*q'):=fun d q' h=>hval2.out d q' (by rw [e0];omega)
    clear hne' hval hval2 sD hown hgr hlen rb x2 e0;generalize M.getD k 0=x at *
    by_cases hbo:x<q
    ·go_wp2
     go_roundw
     case rel=>
      have ed:(((x:Int) - (q:Int)) % 4294967296)=((x+4294967296 - q:Nat):Int):=by omega
      refine⟨k+1,1,D++[x+4294967296 - q],by go_num,by go_num,by omega,by omega,hD2.out _,sD2.out _ (by omega),hval3.out _ _ (by omega),?_,hgr2.out _⟩;rw [ed];exact hset.out _
     case measure=>simp only [intOf];omega
    ·go_wp2
     go_roundw
     case rel=>
      have ed:((x:Int) - (q:Int))=((x - q:Nat):Int):=by omega
      refine⟨k+1,0,D++[x - q],by go_num,by go_num,by omega,by omega,hD2.out _,sD2.out _ (by omega),hval3.out _ _ (by omega),?_,hgr2.out _⟩;rw [ed];exact hset.out _
     case measure=>simp only [intOf];omega
  ·have hkl:k=M.length:=by omega
   have hfin:Hid (D.length=M.length/\jc D+n*jc B=jc M+4294967296 ^ M.length*q/\Own wr g c (P++(D++S))):=by
    refine⟨by rw [hD.out,hkl],?_,?_⟩
    ·have h:=hval.out
     rwa [hkl,List.take_length,List.take_of_length_le hBM] at h
    ·rwa [hkl,List.drop_length,List.append_nil] at hown
   clear hkl hval hown hD
   by_cases h0:q=0
   ·subst h0
    go_wp2;go_ret;exact⟨D,0,false,rfl,by simp,hfin.out.1,sD.out,hfin.out.2.1,hfin.out.2.2,hgr⟩
   ·have t0:decide (0<q)=true:=decide_eq_true (by omega)
    go_wp2;go_ret;exact⟨D,q,true,rfl,by simp;omega,hfin.out.1,sD.out,hfin.out.2.1,hfin.out.2.2,hgr⟩
end bigs
end Go.Proofs.YtnbfnjhbmeocfaaGreatDoor
