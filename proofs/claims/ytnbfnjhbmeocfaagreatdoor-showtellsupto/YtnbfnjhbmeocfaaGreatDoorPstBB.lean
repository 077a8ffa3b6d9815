/- Of our texts, what this claim reaches. -/
import Derived.Test.YtnbfnjhbmeocfaaGreatDoorPstBA
import Derived.Test.YtnbfnjhbmeocfaaGreatDoorPstAI
import Derived.Deep.CutRange
import Derived.BigQuiet
set_option linter.unusedVariables false
set_option maxHeartbeats 8000000
set_option maxRecDepth 100000
set_option linter.unusedSimpArgs false
namespace Go.Proofs.YtnbfnjhbmeocfaaGreatDoor
namespace bigs
open Go.RowKit
def UnitOf (w:World)(d:Value)(Y c:Nat):Prop:=∃A B,DivOf w d A B/\0<B/\A / B=Y / 10 ^ c/\(A % B=0↔Y % 10 ^ c=0)
theorem UnitOf.below {w w':World}{d:Value}{Y c:Nat}(h:UnitOf w d Y c)(hb:Below w.heap.size w w'):UnitOf w' d Y c:=by
 obtain⟨A,B,h1,h2⟩:=h;exact⟨A,B,h1.below hb,h2⟩
theorem jdY:wF=16*5 ^ c80:=by unfold wF;exact Eq.refl _
theorem jan {e:Int}(h1 : -1074<=e):2 ^ (e - 2).toNat*2 ^ c80=2 ^ (e+1074).toNat*16*2 ^ (-(e - 2)).toNat:=by
 have e16:(16:Nat)=2 ^ 4:=rfl;have ec:c80=1080:=rfl;rw [e16,<-Nat.pow_add,<-Nat.pow_add,<-Nat.pow_add,ec]
 congr 1
 omega
theorem jiW {w:World}{d:Value}{q N:Nat}{e:Int}(h1 : -1074<=e)(h:DivOf w d (q*2 ^ (e - 2).toNat) (10 ^ N*2 ^ (-(e - 2)).toNat)):UnitOf w d (q*2 ^ (e+1074).toNat*wF) (N+1080):=by
 have hB:0<10 ^ N*2 ^ (-(e - 2)).toNat:=Nat.mul_pos (jD N) (Nat.pow_pos (by decide))
 have hx:q*2 ^ (e - 2).toNat*10 ^ (N+1080)=q*2 ^ (e+1074).toNat*wF*(10 ^ N*2 ^ (-(e - 2)).toNat):=by
  have k:=jan h1;have ec:N+1080=N+c80:=rfl;rw [ec,Nat.pow_add,jbw c80,jdY];generalize 2 ^ (e - 2).toNat=a at *;generalize 2 ^ (e+1074).toNat=b at *;generalize 2 ^ (-(e - 2)).toNat=f at *;generalize 2 ^ c80=g at *;generalize 5 ^ c80=z at *;generalize 10 ^ N=t
  calc q*a*(t*(g*z))=q*t*z*(a*g):=by simp only [Nat.mul_assoc,Nat.mul_comm,Nat.mul_left_comm]
   _=q*t*z*(b*16*f):=by rw [k]
   _=q*b*(16*z)*(t*f):=by simp only [Nat.mul_assoc,Nat.mul_comm,Nat.mul_left_comm]
 obtain⟨k1,k2⟩:=jaS hB (jD (N+1080)) hx;exact⟨_,_,h,hB,k1,k2⟩
theorem jfE {w:World}{d:Value}{q N:Nat}{e:Int}(h1 : -1074<=e)(hN:N<=1080)(h:DivOf w d (q*10 ^ N*2 ^ (e - 2).toNat) (1*2 ^ (-(e - 2)).toNat)):UnitOf w d (q*2 ^ (e+1074).toNat*wF) (1080 - N):=by
 have hB:0<1*2 ^ (-(e - 2)).toNat:=Nat.mul_pos (by decide) (Nat.pow_pos (by decide))
 have hx:q*10 ^ N*2 ^ (e - 2).toNat*10 ^ (1080 - N)=q*2 ^ (e+1074).toNat*wF*(1*2 ^ (-(e - 2)).toNat):=by
  have k:=jan h1;have ec:N+(1080 - N)=c80:=by show N+(1080 - N)=1080;omega
  have et:10 ^ N*10 ^ (1080 - N)=2 ^ c80*5 ^ c80:=by rw [<-Nat.pow_add,ec,jbw]
  rw [jdY];generalize 2 ^ (e - 2).toNat=a at *;generalize 2 ^ (e+1074).toNat=b at *;generalize 2 ^ (-(e - 2)).toNat=f at *;generalize 2 ^ c80=g at *;generalize 5 ^ c80=z at *;generalize 10 ^ (1080 - N)=s at *;generalize 10 ^ N=t at *
  calc q*t*a*s=q*a*(t*s):=by simp only [Nat.mul_assoc,Nat.mul_comm,Nat.mul_left_comm]
   _=q*a*(g*z):=by rw [et]
   _=q*z*(a*g):=by simp only [Nat.mul_assoc,Nat.mul_comm,Nat.mul_left_comm]
   _=q*z*(b*16*f):=by rw [k]
   _=q*b*(16*z)*(1*f):=by rw [Nat.one_mul];simp only [Nat.mul_assoc,Nat.mul_comm,Nat.mul_left_comm]
 obtain⟨k1,k2⟩:=jaS hB (jD (1080 - N)) hx;exact⟨_,_,h,hB,k1,k2⟩
theorem jc7 (w:World)(q:Nat)(e t:Int)(hq:q<18446744073709551616)(h1 : -1074<=e)(h2:e<=971)(t1 : -400<=t)(t2:t<=400) :
  Calls Tryz.prog 290 #[.int .u64 q,.int .i64 (e - 2),.int .i64 t] w fun r w'=>∃d,r=.returned d/\UnitOf w' d (q*2 ^ (e+1074).toNat*wF) (t+1080).toNat/\Below w.heap.size w w':=by
 by_cases c:0<=t
 ·obtain⟨N,rfl⟩:∃N:Nat,t=N:=⟨t.toNat,by omega⟩
  refine(jdH w q N (e - 2) hq (by omega) (by omega) (by omega)).mono ?_
  rintro r w' ⟨d,rfl,hd,b⟩
  rw [show((N:Int)+1080).toNat=N+1080 by omega];exact⟨d,rfl,jiW h1 hd,b⟩
 ·obtain⟨N,rfl⟩:∃N:Nat,t = -(N:Int):=⟨(-t).toNat,by omega⟩
  refine(jbA w q N (e - 2) hq (by omega) (by omega) (by omega) (by omega)).mono ?_
  rintro r w' ⟨d,rfl,hd,b⟩
  rw [show(-(N:Int)+1080).toNat=1080 - N by omega];exact⟨d,rfl,jfE h1 (by omega) hd,b⟩
theorem jdN {w:World}{d:Value}{Y c b:Nat}{a1 a2 a3:Option Addr}{n1 c1 n2 c2 n3 c3:Nat}(hd:UnitOf w d Y c)(bk:Blk w b #[.slice a1 n1 c1,.slice a2 n2 c2,.slice a3 n3 c3] 246) :
  ∀a4 n4 c4 a5 n5 c5 a6 n6 c6,d=.agg #[.slice a4 n4 c4,.slice a5 n5 c5,.slice a6 n6 c6]->UnitOf (((w.setCell ⟨b,0,none⟩ (.slice a4 n4 c4)).setCell ⟨b,1,none⟩ (.slice a5 n5 c5)).setCell ⟨b,2,none⟩ (.slice a6 n6 c6)) d Y c:=by
 intro a4 n4 c4 a5 n5 c5 a6 n6 c6 e;obtain⟨A,B,h1,h2⟩:=hd;exact⟨A,B,jaE h1 bk _ _ _ _ _ _ _ _ _ e,h2⟩
theorem jil (w:World)(q:Nat)(qI:Int)(e t:Int)(b1 b2:Nat)(hqI:qI=q)(hq:q<18446744073709551616)(h1 : -1074<=e)(h2:e<=971)(t1 : -400<=t)(t2:t<=400)(k1:Blk w b1 #[.int .i64 e] 3)(k2:Blk w b2 #[.int .i64 t] 3) :
  Calls Tryz.prog 289 #[.int .u64 qI,.pointer (some ⟨b1,0,none⟩),.pointer (some ⟨b2,0,none⟩)] w fun r w'=>∃d,r=.returned d/\UnitOf w' d (q*2 ^ (e+1074).toNat*wF) (t+1080).toNat/\Below w.heap.size w w':=by
 have K1:∀w,Hid _:=fun w=>jb (jc7 w q e t hq h1 h2 t1 t2)
 rw [<-hqI] at K1;clear hqI hq;generalize q*2 ^ (e+1074).toNat*wF=Y at *;generalize (t+1080).toNat=c at *;have b0:Below w.heap.size w (w.alloc (.cells #[.slice none 0 0,.slice none 0 0,.slice none 0 0] 246)):=(Below.refl _ _).alloc (Nat.le_refl _) _;have bk0:=jd w #[.slice none 0 0,.slice none 0 0,.slice none 0 0] 246;have r1:=(k1.alloc (.cells #[.slice none 0 0,.slice none 0 0,.slice none 0 0] 246)).cell 0 _ rfl;have r2:=(k2.alloc (.cells #[.slice none 0 0,.slice none 0 0,.slice none 0 0] 246)).cell 0 _ rfl;have l1:=k1.lt;have l2:=k2.lt;clear k1 k2
 go_enter Tryz.func289,Tryz.ntmps289
 go_wp2_with fail
 generalize w.alloc (.cells #[.slice none 0 0,.slice none 0 0,.slice none 0 0] 246)=w0 at *;refine(ja (K1 w0)).mono ?_
 rintro r w3 ⟨d,rfl,hd,b3⟩
 have bw3:=b0.trans (b3.mono b0.size);have bk3:=bk0.below b3;have FD:=jb (jdN (b:=w.heap.size) hd bk3);have BF:∀u1 u2 u3,Hid _:=fun u1 u2 u3=>jb (Jh (b:=w.heap.size) bw3 (Nat.le_refl _) u1 u2 u3)
 obtain⟨A,B,⟨a4,n4,c4,a5,n5,c5,a6,n6,c6,rfl,_⟩,_⟩:=hd;have c0:=bk3.cell 0 _ rfl;have c1:=bk3.cell 1 _ rfl;have c2:=bk3.cell 2 _ rfl;have z0:=bk3.froz 0;have z1:=bk3.froz 1;have z2:=bk3.froz 2;have F:=bk3.set3 (.slice a4 n4 c4) (.slice a5 n5 c5) (.slice a6 n6 c6);have FC:=jb (And.intro (F.cell 0 _ rfl) (And.intro (F.cell 1 _ rfl) (F.cell 2 _ rfl)));clear K1 b3 b0 bk0 bk3 F bw3 r1 r2;go_wp2;have FI:=ja FD _ _ _ _ _ _ _ _ _ rfl;have BB:=ja (BF (.slice a4 n4 c4) (.slice a5 n5 c5) (.slice a6 n6 c6));obtain⟨f0,f1,f2⟩:=ja FC;clear FD BF FC c0 c1 c2 z0 z1 z2;generalize (((w3.setCell ⟨w.heap.size,0,none⟩ (.slice a4 n4 c4)).setCell ⟨w.heap.size,1,none⟩ (.slice a5 n5 c5)).setCell ⟨w.heap.size,2,none⟩ (.slice a6 n6 c6))=wF at *;refine bodyPost_ret (v:=.agg #[.slice a4 n4 c4,.slice a5 n5 c5,.slice a6 n6 c6]) (by simp [results,Tryz.results289,go_sem,f0,f1,f2]) rfl ?_
 exact⟨_,rfl,FI,BB⟩
open Go.RowKit
section
variable {P : Program} {ops : Array Oper} {md : Region.Mode} {Q : Exit → Act → World → Prop} {I : Array Bool → Act → World → Prop}
theorem jaN {l:List Bool}{i:Nat}(h:l[i]?=some false):(l.set i true).count false+1=l.count false:=by
 induction l generalizing i with
 | nil=>cases h
 | cons b r ih=>
  cases i with
  | zero=>
   have e:b=false:=by simpa using h
   subst e;simp
  | succ i=>
   have:=ih (i:=i) (by simpa using h);rw [List.set_cons_succ,List.count_cons,List.count_cons];omega
theorem jhc (step:∀s a w,s.size=ops.size->I s a w->∀i∈Region.ready md ops s,wpOp P ops Q i (fun a' w'=>I (s.setIfInBounds i true) a' w') a w)
  (fin:∀s a w,s.size=ops.size->I s a w->Region.ready md ops s=[]->Q .normal a w) :
  ∀(n:Nat) (s:Array Bool) (a:Act) (w:World),s.size=ops.size->s.toList.count false<=n->I s a w->wpAny P md ops Q n s a w:=by
 intro n
 induction n with
 | zero=>
  intro s a w hs hc hI
  have hr:Region.ready md ops s=[]:=by
   refine List.eq_nil_iff_forall_not_mem.2 fun i hi=>?_
   have h1:=(mem_ready.1 hi).1
   have hlt:i<s.size:=by
    rcases Nat.lt_or_ge i s.size with h | h
    ·exact h
    ·simp [Array.getElem?_eq_none h] at h1
   have h2:s.toList[i]?=some false:=by
    simp [hlt] at h1;simp [hlt,h1]
   have:=jaN h2;omega
  exact⟨hr,fin s a w hs hI hr⟩
 | succ n ih=>
  intro s a w hs hc hI;refine⟨fun hr=>fin s a w hs hI hr,fun i hi=>wpOp_mono (fun a' w' h=>ih _ a' w' (by simp [hs]) ?_ h) (step s a w hs hI i hi)⟩;have h1:=(mem_ready.1 hi).1
  have hlt:i<s.size:=by
   rcases Nat.lt_or_ge i s.size with h | h
   ·exact h
   ·simp [Array.getElem?_eq_none h] at h1
  have h2:s.toList[i]?=some false:=by
   simp [hlt] at h1;simp [hlt,h1]
  have:=jaN h2;rw [Array.toList_setIfInBounds];omega
theorem jfL {id:Nat}{a:Act}{w:World}(hm:P.follows .mixedOrders=true)
  (step:∀s a w,s.size=ops.size->I s a w->∀i∈Region.ready .any ops s,wpOp P ops Q i (fun a' w'=>I (s.setIfInBounds i true) a' w') a w)
  (fin:∀s a w,s.size=ops.size->I s a w->Region.ready .any ops s=[]->Q .normal a w)
  (h:I (Array.replicate ops.size false) a { w with drawn:=w.drawn+1 }):(Code.region id ops true).wp P Q a w:=by
 refine wp_region_any hm (jhc step fin _ _ _ _ (by simp) ?_ h);simp
end
def fr:List (Nat×Value)->Nat->Array Bool->Act->Act
 | [],_,_,a=>a
 | (d,v) :: r,k,s,a=>fr r (k+1) s (if s.getD k false then a.put (some d) v else a)
theorem jif (a:Act)(d:Option Nat)(v:Value):(a.put d v).tmps.size=a.tmps.size:=by
 cases d<;>simp [Act.put]
theorem Xi {a:Act}{d k:Nat}{v:Value}(h:k≠d):(a.put (some d) v).eval (.tmp k)=a.eval (.tmp k):=by
 simp [Act.put,Act.eval,Ne.symm h]
theorem Xa {a:Act}{d:Nat}{v:Value}(h:d<a.tmps.size):(a.put (some d) v).eval (.tmp d)=v:=by
 simp [Act.put,Act.eval,h]
theorem YM:∀(l:List (Nat×Value)) (k:Nat) (s:Array Bool) (a:Act) (x:Nat),(∀p∈l,p.1≠x)->(fr l k s a).eval (.tmp x)=a.eval (.tmp x)
 | [],_,_,_,_,_=>rfl
 | (d,v) :: r,k,s,a,x,h=>by
  show(fr r (k+1) s _).eval _=_
  rw [YM r (k+1) s _ x (fun p hp=>h p (List.mem_cons_of_mem _ hp))];split
  ·exact Xi (fun e=>h (d,v) (by simp) e.symm)
  ·rfl
theorem jjr:∀(l:List (Nat×Value)) (k:Nat) (s:Array Bool) (a:Act) (j d:Nat) (v:Value),l[j]?=some (d,v)->(l.map (·.1)).Nodup->d<a.tmps.size->s.getD (k+j) false=true->(fr l k s a).eval (.tmp d)=v
 | [],_,_,_,_,_,_,h,_,_,_=>by cases h
 | (d',v') :: r,k,s,a,0,d,v,h,nd,hd,hs=>by
  have e:(d',v')=(d,v):=by simpa using h
  injection e with e1 e2;subst e1 e2
  show(fr r (k+1) s _).eval _=_
  rw [Nat.add_zero] at hs;rw [hs,if_pos rfl,YM r (k+1) s _ d' ?_]
  ·exact Xa hd
  ·intro p hp e
   rw [List.map_cons,List.nodup_cons] at nd;exact nd.1 (List.mem_map.2 ⟨p,hp,e⟩)
 | (d',v') :: r,k,s,a,j+1,d,v,h,nd,hd,hs=>by
  show(fr r (k+1) s _).eval _=_
  refine jjr r (k+1) s _ j d v (by simpa using h) ?_ ?_ (by rwa [show k+1+j=k+(j+1) by omega])
  ·rw [List.map_cons,List.nodup_cons] at nd
   exact nd.2
  ·split
   ·rw [jif];exact hd
   ·exact hd
theorem jhB:∀(l:List (Nat×Value)) (k:Nat) (s:Array Bool) (a:Act) (x:Nat) (u:Value),(∀p∈l,p.1≠x)->(fr l k s a).put (some x) u=fr l k s (a.put (some x) u)
 | [],_,_,_,_,_,_=>rfl
 | (d,v) :: r,k,s,a,x,u,h=>by
  show(fr r (k+1) s _).put _ _=fr r (k+1) s _
  rw [jhB r (k+1) s _ x u (fun p hp=>h p (List.mem_cons_of_mem _ hp))]
  congr 1
  split
  ·have hne:d≠x:=h (d,v) (by simp)
   simp only [Act.put]
   congr 1
   rw [Array.setIfInBounds_comm _ _ hne]
  ·rfl
theorem jbx:∀(l:List (Nat×Value)) (k:Nat) (s s':Array Bool) (a:Act),(∀j,j<l.length->s.getD (k+j) false=s'.getD (k+j) false)->fr l k s a=fr l k s' a
 | [],_,_,_,_,_=>rfl
 | (d,v) :: r,k,s,s',a,h=>by
  show fr r (k+1) s _=fr r (k+1) s' _
  have h0:=h 0 (by simp);rw [Nat.add_zero] at h0;rw [h0];exact jbx r (k+1) s s' _ (fun j hj=>by have:=h (j+1) (by simp;omega);rwa [show k+(j+1)=k+1+j by omega] at this)
theorem jdj:∀(l:List (Nat×Value)) (k:Nat) (s:Array Bool) (a:Act) (j d:Nat) (v:Value),l[j]?=some (d,v)->(l.map (·.1)).Nodup->k+j<s.size->s.getD (k+j) false=false->fr l k (s.setIfInBounds (k+j) true) a=(fr l k s a).put (some d) v
 | [],_,_,_,_,_,_,h,_,_,_=>by cases h
 | (d',v') :: r,k,s,a,0,d,v,h,nd,hk,hs=>by
  have e:(d',v')=(d,v):=by simpa using h
  injection e with e1 e2;subst e1 e2;rw [Nat.add_zero] at *
  show fr r (k+1) _ _=(fr r (k+1) s _).put _ _
  rw [List.map_cons,List.nodup_cons] at nd;rw [hs,jhB r (k+1) s _ d' v' (fun p hp e=>nd.1 (List.mem_map.2 ⟨p,hp,e⟩))];have e0:(s.setIfInBounds k true).getD k false=true:=by simp [hk]
  rw [e0,if_pos rfl,if_neg (by decide)];refine jbx r (k+1) _ s _ (fun j _=>?_);rw [getD_set_ne false (by omega)]
 | (d',v') :: r,k,s,a,j+1,d,v,h,nd,hk,hs=>by
  show fr r (k+1) _ _=(fr r (k+1) s _).put _ _
  rw [List.map_cons,List.nodup_cons] at nd;have e0:(s.setIfInBounds (k+(j+1)) true).getD k false=s.getD k false:=getD_set_ne false (by omega);rw [e0];have:=jdj r (k+1) s (if s.getD k false then a.put (some d') v' else a) j d v (by simpa using h) nd.2 (by omega) (by rwa [show k+1+j=k+(j+1) by omega]);rwa [show k+1+j=k+(j+1) by omega] at this
theorem jgS:∀(l:List (Nat×Value)) (k:Nat) (s:Array Bool) (a:Act),(∀j,j<l.length->s.getD (k+j) false=true)->fr l k s a=l.foldl (fun a p=>a.put (some p.1) p.2) a
 | [],_,_,_,_=>rfl
 | (d,v) :: r,k,s,a,h=>by
  show fr r (k+1) s _=_
  have h0:=h 0 (by simp);rw [Nat.add_zero] at h0;rw [h0,if_pos rfl];exact jgS r (k+1) s _ (fun j hj=>by have:=h (j+1) (by simp;omega);rwa [show k+(j+1)=k+1+j by omega] at this)
theorem jY {P:Program}{ops:Array Oper}{Q:Exit->Act->World->Prop}{i:Nat}{K:Act->World->Prop}{a:Act}{w:World}{o:Oper}(ho:ops[i]?=some o)(hg:o.guard=none)(h:o.wp P a w K Q):wpOp P ops Q i K a w:=by
 unfold wpOp;rw [ho];have e:Region.wanted o (yielded ops a.tmps)=true:=by simp [Region.wanted,hg]
 simp only [e,if_true];exact .inl h
theorem ZX (a:Act)(w:World)(K:Act->World->Prop)(Q:Exit->Act->World->Prop)(o:Oper)(x b:Nat)(hx:a.tmps[x]?.getD undef=.pointer (some ⟨b,0,none⟩))(ho:o.op=.fieldAddr 246 (.tmp x) 0)(h:K (a.put o.dst (.pointer (some ⟨b,0,none⟩))) w):o.wp Tryz.prog a w K Q:=by
 unfold Oper.wp execOp;rw [ho]
 go_simp
 exact h
theorem Q5 (a:Act)(w:World)(K:Act->World->Prop)(Q:Exit->Act->World->Prop)(o:Oper)(x b:Nat)(v:Value)(hx:a.tmps[x]?.getD undef=.pointer (some ⟨b,0,none⟩))(hc:w.cell? ⟨b,0,none⟩=some v)(ho:o.op=.load 168 (.tmp x))(h:K (a.put o.dst v) w):o.wp Tryz.prog a w K Q:=by
 unfold Oper.wp execOp;rw [ho]
 go_simp
 exact h
theorem jfZ (a:Act)(w:World)(K:Act->World->Prop)(Q:Exit->Act->World->Prop)(o:Oper)(x b:Nat)(v:Value)(hx:a.tmps[x]?.getD undef=.pointer (some ⟨b,0,none⟩))(hc:w.cell? ⟨b,0,none⟩=some v)(ho:o.op=.load 3 (.tmp x))(h:K (a.put o.dst v) w):o.wp Tryz.prog a w K Q:=by
 unfold Oper.wp execOp;rw [ho]
 go_simp
 exact h
theorem jdx (a:Act)(w:World)(K:Act->World->Prop)(Q:Exit->Act->World->Prop)(o:Oper)(x b:Nat)(v1 v2 v3:Value)(hx:a.tmps[x]?.getD undef=.pointer (some ⟨b,0,none⟩))(hc0:w.cell? ⟨b,0,none⟩=some v1)(hc1:w.cell? ⟨b,1,none⟩=some v2)(hc2:w.cell? ⟨b,2,none⟩=some v3)(ho:o.op=.load 246 (.tmp x))(h:K (a.put o.dst (.agg #[v1,v2,v3])) w):o.wp Tryz.prog a w K Q:=by
 unfold Oper.wp execOp;rw [ho]
 go_simp
 exact h
theorem ZI (a:Act)(w:World)(K:Act->World->Prop)(Q:Exit->Act->World->Prop)(o:Oper)(x:Nat)(v:Value)(hx:a.tmps[x]?.getD undef=v)(ho:o.op=.call { callee:=.value (.func 237),args:=#[.tmp x],argTypes:=#[168] })(h:Calls Tryz.prog 237 #[v] w fun e w'=>∃u,e=.returned u/\K (a.put o.dst u) w'):o.wp Tryz.prog a w K Q:=by
 have hf:=Tryz.func237;unfold Oper.wp execOp;rw [ho]
 go_simp
 refine h.mono ?_
 rintro e w' ⟨u,rfl,hk⟩
 exact hk
theorem jfS (a:Act)(w:World)(K:Act->World->Prop)(Q:Exit->Act->World->Prop)(o:Oper)(x:Nat)(v:Value)(hx:a.tmps[x]?.getD undef=v)(ho:o.op=.call { callee:=.value (.func 291),args:=#[.tmp x],argTypes:=#[246] })(h:Calls Tryz.prog 291 #[v] w fun e w'=>∃u,e=.returned u/\K (a.put o.dst u) w'):o.wp Tryz.prog a w K Q:=by
 have hf:=Tryz.func291;unfold Oper.wp execOp;rw [ho]
 go_simp
 refine h.mono ?_
 rintro e w' ⟨u,rfl,hk⟩
 exact hk
theorem jiu (a:Act)(w:World)(K:Act->World->Prop)(Q:Exit->Act->World->Prop)(o:Oper)(x:Nat)(c:Bool)(hx:a.tmps[x]?.getD undef=.bool c)(ho:o.op=.unOp .not 4 (.tmp x))(h:K (a.put o.dst (.bool !c)) w):o.wp Tryz.prog a w K Q:=by
 unfold Oper.wp execOp;rw [ho]
 go_simp
 exact h
theorem run_build (a:Act)(w:World)(K:Act->World->Prop)(Q:Exit->Act->World->Prop)(o:Oper)(x1 x2 x3 x4 x5:Nat)(y1 y2 y3 t:Int)(c:Bool)(h1:a.tmps[x1]?.getD undef=.int .u64 y1)(h2:a.tmps[x2]?.getD undef=.int .u64 y2)(h3:a.tmps[x3]?.getD undef=.int .u64 y3)(h4:a.tmps[x4]?.getD undef=.bool c)(h5:a.tmps[x5]?.getD undef=.int .i64 t)(ho:o.op=.build 301 #[(0,.tmp x1),(1,.tmp x2),(2,.tmp x3),(3,.tmp x4),(4,.tmp x5)])(h:K (a.put o.dst (.agg #[.int .u64 y1,.int .u64 y2,.int .u64 y3,.bool c,.int .i64 t])) w):o.wp Tryz.prog a w K Q:=by
 unfold Oper.wp execOp;rw [ho]
 go_simp
 exact h
theorem jfh (a:Act)(w:World)(K:Act->World->Prop)(Q:Exit->Act->World->Prop)(o:Oper)  (ho:o.op=.alloc 301)(h:K (a.put o.dst (.pointer (some ⟨w.heap.size,0,none⟩))) (w.alloc (.cells #[.int .u64 0,.int .u64 0,.int .u64 0,.bool false,.int .i64 0] 301))):o.wp Tryz.prog a w K Q:=by
 unfold Oper.wp execOp;rw [ho]
 go_simp
 exact h
theorem run_store (a:Act)(w:World)(K:Act->World->Prop)(Q:Exit->Act->World->Prop)(o:Oper)(x y b:Nat)(u1 u2 u3 u4 u5:Value)(y1 y2 y3 t:Int)(c:Bool)(hx:a.tmps[x]?.getD undef=.pointer (some ⟨b,0,none⟩))(hy:a.tmps[y]?.getD undef=.agg #[.int .u64 y1,.int .u64 y2,.int .u64 y3,.bool c,.int .i64 t])(bk:Blk w b #[u1,u2,u3,u4,u5] 301)(ho:o.op=.store 301 (.tmp x) (.tmp y))(h:K (a.put o.dst undef) (((((w.setCell ⟨b,0,none⟩ (.int .u64 y1)).setCell ⟨b,1,none⟩ (.int .u64 y2)).setCell ⟨b,2,none⟩ (.int .u64 y3)).setCell ⟨b,3,none⟩ (.bool c)).setCell ⟨b,4,none⟩ (.int .i64 t))):o.wp Tryz.prog a w K Q:=by
 have c0:=bk.cell 0 _ rfl;have c1:=bk.cell 1 _ rfl;have c2:=bk.cell 2 _ rfl;have c3:=bk.cell 3 _ rfl;have c4:=bk.cell 4 _ rfl;have z0:=bk.froz 0;have z1:=bk.froz 1;have z2:=bk.froz 2;have z3:=bk.froz 3;have z4:=bk.froz 4;clear bk;unfold Oper.wp execOp;rw [ho]
 go_simp
 exact h
open Go.RowKit
def ji0:Array Oper:=#[{ dst:=some 42,op:=Op.fieldAddr 246 (Operand.tmp 8) 0,type:=0,pos := "short.go:26",after:=#[],guard:=none },{ dst:=some 43,op:=Op.load 168 (Operand.tmp 42),type:=168,pos := "short.go:26",after:=#[{ on:=0,ground:=Ground.data }],guard:=none },{ dst:=some 44,op:=Op.call { callee:=Callee.value (Operand.func 237),args:=#[Operand.tmp 43],argTypes:=#[168] },type:=22,pos := "short.go:26",after:=#[{ on:=1,ground:=Ground.data }],guard:=none },{ dst:=some 45,op:=Op.fieldAddr 246 (Operand.tmp 9) 0,type:=0,pos := "short.go:26",after:=#[],guard:=none },{ dst:=some 46,op:=Op.load 168 (Operand.tmp 45),type:=168,pos := "short.go:26",after:=#[{ on:=3,ground:=Ground.data }],guard:=none },{ dst:=some 47,op:=Op.call { callee:=Callee.value (Operand.func 237),args:=#[Operand.tmp 46],argTypes:=#[168] },type:=22,pos := "short.go:26",after:=#[{ on:=4,ground:=Ground.data },{ on:=2,ground:=Ground.chain }],guard:=none },{ dst:=some 48,op:=Op.fieldAddr 246 (Operand.tmp 10) 0,type:=0,pos := "short.go:26",after:=#[],guard:=none },{ dst:=some 49,op:=Op.load 168 (Operand.tmp 48),type:=168,pos := "short.go:26",after:=#[{ on:=6,ground:=Ground.data }],guard:=none },{ dst:=some 50,op:=Op.call { callee:=Callee.value (Operand.func 237),args:=#[Operand.tmp 49],argTypes:=#[168] },type:=22,pos := "short.go:26",after:=#[{ on:=7,ground:=Ground.data },{ on:=5,ground:=Ground.chain }],guard:=none },{ dst:=some 51,op:=Op.load 246 (Operand.tmp 9),type:=246,pos := "short.go:26",after:=#[],guard:=none },{ dst:=some 52,op:=Op.call { callee:=Callee.value (Operand.func 291),args:=#[Operand.tmp 51],argTypes:=#[246] },type:=4,pos := "short.go:26",after:=#[{ on:=9,ground:=Ground.data },{ on:=8,ground:=Ground.chain }],guard:=none },{ dst:=some 53,op:=Op.unOp UnOp.not 4 (Operand.tmp 52),type:=4,pos := "short.go:26",after:=#[{ on:=10,ground:=Ground.data }],guard:=none },{ dst:=some 54,op:=Op.load 3 (Operand.tmp 5),type:=3,pos := "short.go:26",after:=#[],guard:=none },{ dst:=some 55,op:=Op.build 301 #[(0,Operand.tmp 44),(1,Operand.tmp 47),(2,Operand.tmp 50),(3,Operand.tmp 53),(4,Operand.tmp 54)],type:=301,pos := "short.go:26",after:=#[{ on:=2,ground:=Ground.data },{ on:=5,ground:=Ground.data },{ on:=8,ground:=Ground.data },{ on:=11,ground:=Ground.data },{ on:=12,ground:=Ground.data }],guard:=none },{ dst:=some 11,op:=Op.alloc 301,type:=0,pos := "short.go:26",after:=#[],guard:=none },{ dst:=none,op:=Op.store 301 (Operand.tmp 11) (Operand.tmp 55),type:=0,pos := "short.go:26",after:=#[{ on:=14,ground:=Ground.data },{ on:=13,ground:=Ground.data },{ on:=10,ground:=Ground.chain },{ on:=0,ground:=Ground.phase },{ on:=1,ground:=Ground.phase },{ on:=2,ground:=Ground.phase },{ on:=3,ground:=Ground.phase },{ on:=4,ground:=Ground.phase },{ on:=5,ground:=Ground.phase },{ on:=6,ground:=Ground.phase },{ on:=7,ground:=Ground.phase },{ on:=8,ground:=Ground.phase },{ on:=9,ground:=Ground.phase },{ on:=10,ground:=Ground.phase },{ on:=11,ground:=Ground.phase },{ on:=12,ground:=Ground.phase },{ on:=13,ground:=Ground.phase },{ on:=14,ground:=Ground.phase }],guard:=none }]
def Jl (b8 b9 b10:Nat)(a1 a4 a5 a6 a7:Option Addr)(n1 c1 n4 c4 n5 c5 n6 c6 n7 c7:Nat)(y1 y2 y3 t:Int)(ex:Bool)(b:Nat):List (Nat×Value):=[(42,.pointer (some ⟨b8,0,none⟩)),(43,.slice a1 n1 c1),(44,.int .u64 y1),(45,.pointer (some ⟨b9,0,none⟩)),(46,.slice a4 n4 c4),(47,.int .u64 y2),(48,.pointer (some ⟨b10,0,none⟩)),(49,.slice a7 n7 c7),(50,.int .u64 y3),(51,.agg #[.slice a4 n4 c4,.slice a5 n5 c5,.slice a6 n6 c6]),(52,.bool ex),(53,.bool !ex),(54,.int .i64 t),(55,.agg #[.int .u64 y1,.int .u64 y2,.int .u64 y3,.bool !ex,.int .i64 t]),(11,.pointer (some ⟨b,0,none⟩))]
theorem Xk {s:Array Bool}{i:Nat}(h:i<s.size):(s.setIfInBounds i true).getD i false=true:=by simp [h]
theorem JP (a:Act)(x:Nat):a.eval (.tmp x)=a.tmps[x]?.getD undef:=by simp [Act.eval]
theorem jdR {md:Region.Mode}{ops:Array Oper}{s:Array Bool}(hs:s.size=ops.size)(hB:((List.range ops.size).all fun j=>((ops[j]?).map fun o=>o.after.all fun e=>decide (e.on<j)).getD true)=true)(hr:Region.ready md ops s=[]):∀j,j<ops.size->s.getD j false=true:=by
 have hb:∀(j:Nat) (o:Oper),ops[j]?=some o->∀e:Edge,e∈o.after->e.on<j:=by
  intro j o ho e he;have hj:j<ops.size:=(Array.getElem?_eq_some_iff.1 ho).1;have h1:=List.all_eq_true.1 hB j (List.mem_range.2 hj);rw [ho] at h1;have h2:(o.after.all fun e=>decide (e.on<j))=true:=h1;exact of_decide_eq_true (Array.all_eq_true'.1 h2 e he)
 intro j
 induction j using Nat.strongRecOn with
 | ind j ih=>
  intro hj;cases h:s.getD j false with
  | true=>rfl
  | false=>
   exfalso
   have hm:j∈Region.ready md ops s:=by
    refine mem_ready.2 ⟨getD_in (by omega) h,ops[j],Array.getElem?_eq_getElem hj,fun e he _=>?_⟩;have hlt:=hb j _ (Array.getElem?_eq_getElem hj) e he;exact ih e.on hlt (by omega)
   rw [hr] at hm;cases hm
theorem jeH:∀(l:List (Nat×Value)) (x y:Nat×Value) (k:Nat) (s:Array Bool) (a:Act),s.getD (k+l.length) false=false->fr (l++[x]) k s a=fr (l++[y]) k s a
 | [],x,y,k,s,a,h=>by
  rw [List.length_nil,Nat.add_zero] at h
  show fr [] (k+1) s (if s.getD k false then _ else a)=fr [] (k+1) s (if s.getD k false then _ else a)
  rw [h];rfl
 | p :: r,x,y,k,s,a,h=>by
  show fr (r++[x]) (k+1) s _=fr (r++[y]) (k+1) s _
  exact jeH r x y (k+1) s _ (by rw [List.length_cons] at h;rwa [show k+1+r.length=k+(r.length+1) by omega])
theorem je7:∀(l:List (Nat×Value)) (k n:Nat) (a:Act),fr l k (Array.replicate n false) a=a
 | [],_,_,_=>rfl
 | (d,v) :: r,k,n,a=>by
  show fr r (k+1) _ (if (Array.replicate n false).getD k false then _ else a)=a
  rw [getD_replicate_false];exact je7 r (k+1) n a
theorem jkc {w:World}{b:Nat}{x1 x2 x3 x4 x5:Value}{t:Nat}(h:Blk w b #[x1,x2,x3,x4,x5] t)(u1 u2 u3 u4 u5:Value):Blk (((((w.setCell ⟨b,0,none⟩ u1).setCell ⟨b,1,none⟩ u2).setCell ⟨b,2,none⟩ u3).setCell ⟨b,3,none⟩ u4).setCell ⟨b,4,none⟩ u5) b #[u1,u2,u3,u4,u5] t:=by
 have:=((((h.set 0 u1).set 1 u2).set 2 u3).set 3 u4).set 4 u5;simpa using this
def jkr (a0:Act)(wR:World)(L:Nat->List (Nat×Value))(fin:Array Value)(s:Array Bool)(a:Act)(w:World):Prop :=
 ∃b,a=fr (L b) 0 s a0/\Below wR.heap.size wR w/\(s.getD 15 false=true->s.getD 14 false=true)/\(s.getD 14 false=true->wR.heap.size<=b/\Blk w b (if s.getD 15 false then fin else #[.int .u64 0,.int .u64 0,.int .u64 0,.bool false,.int .i64 0]) 301)
theorem jj3 {a0:Act}{w:World}{Q:Exit->Act->World->Prop}(b8 b9 b10 bT:Nat)(a1 a2 a3 a4 a5 a6 a7 a8 a9:Option Addr)(n1 c1 n2 c2 n3 c3 n4 c4 n5 c5 n6 c6 n7 c7 n8 c8 n9 c9:Nat)(y1 y2 y3 t:Int)(ex:Bool)(ha:a0.tmps.size=79)
  (h5:a0.tmps[5]?.getD undef=.pointer (some ⟨bT,0,none⟩)) (h8:a0.tmps[8]?.getD undef=.pointer (some ⟨b8,0,none⟩)) (h9:a0.tmps[9]?.getD undef=.pointer (some ⟨b9,0,none⟩)) (h10:a0.tmps[10]?.getD undef=.pointer (some ⟨b10,0,none⟩))
  (k8:Blk w b8 #[.slice a1 n1 c1,.slice a2 n2 c2,.slice a3 n3 c3] 246) (k9:Blk w b9 #[.slice a4 n4 c4,.slice a5 n5 c5,.slice a6 n6 c6] 246) (k10:Blk w b10 #[.slice a7 n7 c7,.slice a8 n8 c8,.slice a9 n9 c9] 246) (kT:Blk w bT #[.int .i64 t] 3)
  (S1:∀w',Below w.heap.size w w'->Calls Tryz.prog 237 #[.slice a1 n1 c1] w' fun e w''=>e=.returned (.int .u64 y1)/\w''=w')
  (S2:∀w',Below w.heap.size w w'->Calls Tryz.prog 237 #[.slice a4 n4 c4] w' fun e w''=>e=.returned (.int .u64 y2)/\w''=w')
  (S3:∀w',Below w.heap.size w w'->Calls Tryz.prog 237 #[.slice a7 n7 c7] w' fun e w''=>e=.returned (.int .u64 y3)/\w''=w')
  (SE:∀w',Below w.heap.size w w'->Calls Tryz.prog 291 #[.agg #[.slice a4 n4 c4,.slice a5 n5 c5,.slice a6 n6 c6]] w' fun e w''=>e=.returned (.bool ex)/\Below w'.heap.size w' w'')
  (fin:∀b wF,w.heap.size<=b->Below w.heap.size w wF->Blk wF b #[.int .u64 y1,.int .u64 y2,.int .u64 y3,.bool !ex,.int .i64 t] 301->Q .normal ((Jl b8 b9 b10 a1 a4 a5 a6 a7 n1 c1 n4 c4 n5 c5 n6 c6 n7 c7 y1 y2 y3 t ex b).foldl (fun a p=>a.put (some p.1) p.2) a0) wF) :
  (Code.region 7 ji0 true).wp Tryz.prog Q a0 w:=by
 have nd:∀b,((Jl b8 b9 b10 a1 a4 a5 a6 a7 n1 c1 n4 c4 n5 c5 n6 c6 n7 c7 y1 y2 y3 t ex b).map (·.1)).Nodup:=fun b=>by
  show([42,43,44,45,46,47,48,49,50,51,52,53,54,55,11]:List Nat).Nodup
  decide
 refine jfL (I:=jkr a0 w (Jl b8 b9 b10 a1 a4 a5 a6 a7 n1 c1 n4 c4 n5 c5 n6 c6 n7 c7 y1 y2 y3 t ex) #[.int .u64 y1,.int .u64 y2,.int .u64 y3,.bool !ex,.int .i64 t]) (by kernel_rfl) ?_ ?_ ?_
 ·intro s a wx hs hI i hi
  obtain⟨b,rfl,bw,h1514,hal⟩:=hI;obtain⟨un,o,ho,hall⟩:=mem_ready.1 hi;have hsz:s.size=16:=hs
  have hi16:i<16:=by
   have:=(Array.getElem?_eq_some_iff.1 ho).1;exact this
  have unf:s.getD i false=false:=by
   simp [show i<s.size by omega] at un;simp [show i<s.size by omega,un]
  have dp:∀j,(o.after.any fun e=>Region.binds .any e && e.on == j)=true->s.getD j false=true:=by
   intro j hj;obtain⟨e,he,hb⟩:=Array.any_eq_true'.1 hj;rw [Bool.and_eq_true] at hb;have h1:=hall e he hb.1;have h2:e.on=j:=by simpa using hb.2
   rw [h2] at h1;exact h1
  have ot:∀x,(∀p∈Jl b8 b9 b10 a1 a4 a5 a6 a7 n1 c1 n4 c4 n5 c5 n6 c6 n7 c7 y1 y2 y3 t ex b,p.1≠x)->(fr (Jl b8 b9 b10 a1 a4 a5 a6 a7 n1 c1 n4 c4 n5 c5 n6 c6 n7 c7 y1 y2 y3 t ex b) 0 s a0).tmps[x]?.getD undef=a0.tmps[x]?.getD undef:=fun x hx=>by have h:=YM _ 0 s a0 x hx;rwa [JP,JP] at h
  have at':∀j d v,(Jl b8 b9 b10 a1 a4 a5 a6 a7 n1 c1 n4 c4 n5 c5 n6 c6 n7 c7 y1 y2 y3 t ex b)[j]?=some (d,v)->d<79->s.getD j false=true->(fr (Jl b8 b9 b10 a1 a4 a5 a6 a7 n1 c1 n4 c4 n5 c5 n6 c6 n7 c7 y1 y2 y3 t ex b) 0 s a0).tmps[d]?.getD undef=v:=fun j d v h1 h2 h3=>by have h:=jjr _ 0 s a0 j d v h1 (nd b) (by rw [ha];exact h2) (by rw [Nat.zero_add];exact h3);rwa [JP] at h
  have nx:∀d v,(Jl b8 b9 b10 a1 a4 a5 a6 a7 n1 c1 n4 c4 n5 c5 n6 c6 n7 c7 y1 y2 y3 t ex b)[i]?=some (d,v)->i≠14->i≠15->∀w',Below w.heap.size w w'->(s.getD 14 false=true->w.heap.size<=b/\Blk w' b (if s.getD 15 false then #[.int .u64 y1,.int .u64 y2,.int .u64 y3,.bool !ex,.int .i64 t] else #[.int .u64 0,.int .u64 0,.int .u64 0,.bool false,.int .i64 0]) 301)->jkr a0 w (Jl b8 b9 b10 a1 a4 a5 a6 a7 n1 c1 n4 c4 n5 c5 n6 c6 n7 c7 y1 y2 y3 t ex) #[.int .u64 y1,.int .u64 y2,.int .u64 y3,.bool !ex,.int .i64 t] (s.setIfInBounds i true) ((fr (Jl b8 b9 b10 a1 a4 a5 a6 a7 n1 c1 n4 c4 n5 c5 n6 c6 n7 c7 y1 y2 y3 t ex b) 0 s a0).put (some d) v) w':=by
   intro d v h1 h2 h3 w' hb hk;refine⟨b,?_,hb,by rw [getD_set_ne false h2,getD_set_ne false h3];exact h1514,?_⟩
   ·have:=jdj _ 0 s a0 i d v h1 (nd b) (by omega) (by rw [Nat.zero_add];exact unf)
    rw [Nat.zero_add] at this;exact this.symm
   ·rw [getD_set_ne false h2,getD_set_ne false h3]
    exact hk
  rcases i with _ | _ | _ | _ | _ | _ | _ | _ | _ | _ | _ | _ | _ | _ | _ | _ | i
  ·injection ho with ho
   subst ho;refine jY rfl rfl ?_
   exact ZX _ _ _ _ _ 8 b8 (by rw [ot 8 (fun p hp e=>absurd (List.mem_map.2 ⟨p,hp,e⟩) (by show 8∉([42,43,44,45,46,47,48,49,50,51,52,53,54,55,11]:List Nat);decide))];exact h8) rfl (nx 42 _ rfl (by decide) (by decide) _ bw hal)
  ·injection ho with ho
   subst ho;refine jY rfl rfl ?_
   exact Q5 _ _ _ _ _ 42 b8 _ (at' 0 42 _ rfl (by decide) (dp 0 (by kernel_rfl))) ((k8.below bw).cell 0 _ rfl) rfl (nx 43 _ rfl (by decide) (by decide) _ bw hal)
  ·injection ho with ho
   subst ho;refine jY rfl rfl ?_
   refine ZI _ _ _ _ _ 43 _ (at' 1 43 _ rfl (by decide) (dp 1 (by kernel_rfl))) rfl ((S1 wx bw).mono ?_)
   rintro e w' ⟨rfl,rfl⟩
   exact⟨_,rfl,nx 44 _ rfl (by decide) (by decide) _ bw hal⟩
  ·injection ho with ho
   subst ho;refine jY rfl rfl ?_
   exact ZX _ _ _ _ _ 9 b9 (by rw [ot 9 (fun p hp e=>absurd (List.mem_map.2 ⟨p,hp,e⟩) (by show 9∉([42,43,44,45,46,47,48,49,50,51,52,53,54,55,11]:List Nat);decide))];exact h9) rfl (nx 45 _ rfl (by decide) (by decide) _ bw hal)
  ·injection ho with ho
   subst ho;refine jY rfl rfl ?_
   exact Q5 _ _ _ _ _ 45 b9 _ (at' 3 45 _ rfl (by decide) (dp 3 (by kernel_rfl))) ((k9.below bw).cell 0 _ rfl) rfl (nx 46 _ rfl (by decide) (by decide) _ bw hal)
  ·injection ho with ho
   subst ho;refine jY rfl rfl ?_
   refine ZI _ _ _ _ _ 46 _ (at' 4 46 _ rfl (by decide) (dp 4 (by kernel_rfl))) rfl ((S2 wx bw).mono ?_)
   rintro e w' ⟨rfl,rfl⟩
   exact⟨_,rfl,nx 47 _ rfl (by decide) (by decide) _ bw hal⟩
  ·injection ho with ho
   subst ho;refine jY rfl rfl ?_
   exact ZX _ _ _ _ _ 10 b10 (by rw [ot 10 (fun p hp e=>absurd (List.mem_map.2 ⟨p,hp,e⟩) (by show 10∉([42,43,44,45,46,47,48,49,50,51,52,53,54,55,11]:List Nat);decide))];exact h10) rfl (nx 48 _ rfl (by decide) (by decide) _ bw hal)
  ·injection ho with ho
   subst ho;refine jY rfl rfl ?_
   exact Q5 _ _ _ _ _ 48 b10 _ (at' 6 48 _ rfl (by decide) (dp 6 (by kernel_rfl))) ((k10.below bw).cell 0 _ rfl) rfl (nx 49 _ rfl (by decide) (by decide) _ bw hal)
  ·injection ho with ho
   subst ho;refine jY rfl rfl ?_
   refine ZI _ _ _ _ _ 49 _ (at' 7 49 _ rfl (by decide) (dp 7 (by kernel_rfl))) rfl ((S3 wx bw).mono ?_)
   rintro e w' ⟨rfl,rfl⟩
   exact⟨_,rfl,nx 50 _ rfl (by decide) (by decide) _ bw hal⟩
  ·injection ho with ho
   subst ho;refine jY rfl rfl ?_
   exact jdx _ _ _ _ _ 9 b9 _ _ _ (by rw [ot 9 (fun p hp e=>absurd (List.mem_map.2 ⟨p,hp,e⟩) (by show 9∉([42,43,44,45,46,47,48,49,50,51,52,53,54,55,11]:List Nat);decide))];exact h9) ((k9.below bw).cell 0 _ rfl) ((k9.below bw).cell 1 _ rfl) ((k9.below bw).cell 2 _ rfl) rfl (nx 51 _ rfl (by decide) (by decide) _ bw hal)
  ·injection ho with ho
   subst ho;refine jY rfl rfl ?_
   refine jfS _ _ _ _ _ 51 _ (at' 9 51 _ rfl (by decide) (dp 9 (by kernel_rfl))) rfl ((SE wx bw).mono ?_)
   rintro e w' ⟨rfl,b'⟩
   exact⟨_,rfl,nx 52 _ rfl (by decide) (by decide) w' (bw.trans (b'.mono bw.size)) (fun h=>⟨(hal h).1,(hal h).2.below b'⟩)⟩
  ·injection ho with ho
   subst ho;refine jY rfl rfl ?_
   exact jiu _ _ _ _ _ 52 ex (at' 10 52 _ rfl (by decide) (dp 10 (by kernel_rfl))) rfl (nx 53 _ rfl (by decide) (by decide) _ bw hal)
  ·injection ho with ho
   subst ho;refine jY rfl rfl ?_
   exact jfZ _ _ _ _ _ 5 bT _ (by rw [ot 5 (fun p hp e=>absurd (List.mem_map.2 ⟨p,hp,e⟩) (by show 5∉([42,43,44,45,46,47,48,49,50,51,52,53,54,55,11]:List Nat);decide))];exact h5) ((kT.below bw).cell 0 _ rfl) rfl (nx 54 _ rfl (by decide) (by decide) _ bw hal)
  ·injection ho with ho
   subst ho;refine jY rfl rfl ?_
   exact run_build _ _ _ _ _ 44 47 50 53 54 y1 y2 y3 t (!ex) (at' 2 44 _ rfl (by decide) (dp 2 (by kernel_rfl))) (at' 5 47 _ rfl (by decide) (dp 5 (by kernel_rfl))) (at' 8 50 _ rfl (by decide) (dp 8 (by kernel_rfl))) (at' 11 53 _ rfl (by decide) (dp 11 (by kernel_rfl))) (at' 12 54 _ rfl (by decide) (dp 12 (by kernel_rfl))) rfl (nx 55 _ rfl (by decide) (by decide) _ bw hal)
  ·injection ho with ho
   subst ho;refine jY rfl rfl ?_
   refine jfh _ _ _ _ _ rfl ⟨wx.heap.size,?_,bw.alloc bw.size _,?_,?_⟩
   ·have e1:fr (Jl b8 b9 b10 a1 a4 a5 a6 a7 n1 c1 n4 c4 n5 c5 n6 c6 n7 c7 y1 y2 y3 t ex b) 0 s a0=fr (Jl b8 b9 b10 a1 a4 a5 a6 a7 n1 c1 n4 c4 n5 c5 n6 c6 n7 c7 y1 y2 y3 t ex wx.heap.size) 0 s a0:=jeH ((Jl b8 b9 b10 a1 a4 a5 a6 a7 n1 c1 n4 c4 n5 c5 n6 c6 n7 c7 y1 y2 y3 t ex b).take 14) (11,.pointer (some ⟨b,0,none⟩)) (11,.pointer (some ⟨wx.heap.size,0,none⟩)) 0 s a0 unf
    rw [e1];have:=jdj (Jl b8 b9 b10 a1 a4 a5 a6 a7 n1 c1 n4 c4 n5 c5 n6 c6 n7 c7 y1 y2 y3 t ex wx.heap.size) 0 s a0 14 11 (.pointer (some ⟨wx.heap.size,0,none⟩)) rfl (nd _) (by omega) unf;exact this.symm
   ·intro _
    exact Xk (by omega)
   ·intro _
    rw [getD_set_ne false (by decide)]
    have h15:s.getD 15 false=false:=by
     cases h:s.getD 15 false with
     | false=>rfl
     | true=>rw [h1514 h] at unf;cases unf
    rw [h15];exact⟨bw.size,jd _ _ _⟩
  ·injection ho with ho
   subst ho;refine jY rfl rfl ?_
   have s14:=dp 14 (by kernel_rfl);obtain⟨g1,g2⟩:=hal s14;rw [unf] at g2;refine run_store _ _ _ _ _ 11 55 b _ _ _ _ _ y1 y2 y3 t (!ex) (at' 14 11 _ rfl (by decide) (dp 14 (by kernel_rfl))) (at' 13 55 _ rfl (by decide) (dp 13 (by kernel_rfl))) g2 rfl ⟨b,?_,?_,?_,?_⟩
   ·exact jbx _ 0 _ _ _ (fun j hj=>by
     have hj':j<15:=hj;rw [getD_set_ne false (by omega)])
   ·exact((((bw.setCell (p:=⟨b,0,none⟩) g1 _).setCell (p:=⟨b,1,none⟩) g1 _).setCell (p:=⟨b,2,none⟩) g1 _).setCell (p:=⟨b,3,none⟩) g1 _).setCell (p:=⟨b,4,none⟩) g1 _
   ·intro _
    rw [getD_set_ne false (by decide)];exact s14
   ·intro _
    rw [Xk (by omega)];exact⟨g1,jkc g2 _ _ _ _ _⟩
  ·omega
 ·intro s a wx hs hI hr
  obtain⟨b,rfl,bw,_,hal⟩:=hI;have al:=jdR (md:=.any) (ops:=ji0) hs (by kernel_rfl) hr;obtain⟨g1,g2⟩:=hal (al 14 (by decide));rw [al 15 (by decide)] at g2;rw [jgS _ 0 s a0 (fun j hj=>by rw [Nat.zero_add];exact al j (by have hj':j<15:=hj;have h16:ji0.size=16:=(by kernel_rfl);omega))];exact fin b wx g1 bw g2
 ·refine⟨0,?_,(Below.refl _ _).drew,?_,?_⟩
  ·rw [je7]
  ·intro h
   rw [getD_replicate_false] at h;cases h
  ·intro h
   rw [getD_replicate_false] at h;cases h
open Go.RowKit
theorem jge (a:Act)(w:World)(K:Act->World->Prop)(Q:Exit->Act->World->Prop)(o:Oper)(x b:Nat)(v1 v2 v3 v4 v5:Value)(hx:a.tmps[x]?.getD undef=.pointer (some ⟨b,0,none⟩))(bk:Blk w b #[v1,v2,v3,v4,v5] 301)(ho:o.op=.load 301 (.tmp x))(h:K (a.put o.dst (.agg #[v1,v2,v3,v4,v5])) w):o.wp Tryz.prog a w K Q:=by
 have c0:=bk.cell 0 _ rfl;have c1:=bk.cell 1 _ rfl;have c2:=bk.cell 2 _ rfl;have c3:=bk.cell 3 _ rfl;have c4:=bk.cell 4 _ rfl;clear bk;unfold Oper.wp execOp;rw [ho]
 go_simp
 exact h
theorem XG {P:Program}{ops:Array Oper}{Q:Exit->Act->World->Prop}{a:Act}{w:World}{rest:List Oper}{o:Oper}(hg:o.guard=none)(h:o.wp P a w (wpList P ops Q rest) Q):wpList P ops Q (o :: rest) a w:=by
 unfold wpList;have e:Region.wanted o (yielded ops a.tmps)=true:=by simp [Region.wanted,hg]
 simp only [e,if_true];exact .inl h
theorem jjG {a:Act}{w:World}{Q:Exit->Act->World->Prop}(p1 p2:String)(x y d:Nat)(b bR:Nat)(u1 u2 u3 u4 u5:Value)(y1 y2 y3 t:Int)(c:Bool)(hd:d<a.tmps.size)(hy:y≠d)
  (hx:a.tmps[x]?.getD undef=.pointer (some ⟨b,0,none⟩)) (hz:a.tmps[y]?.getD undef=.pointer (some ⟨bR,0,none⟩)) (kb:Blk w b #[.int .u64 y1,.int .u64 y2,.int .u64 y3,.bool c,.int .i64 t] 301) (kR:Blk w bR #[u1,u2,u3,u4,u5] 301)
  (h:∀w',Below bR w w'->Blk w' bR #[.int .u64 y1,.int .u64 y2,.int .u64 y3,.bool c,.int .i64 t] 301->Q .normal (a.put (some d) (.agg #[.int .u64 y1,.int .u64 y2,.int .u64 y3,.bool c,.int .i64 t])) w') (id:Nat) (tt t0:TypeId) (e1 e2:Array Edge) :
  Code.wp Tryz.prog (Code.region id #[{ dst:=some d,op:=Op.load 301 (Operand.tmp x),type:=tt,pos:=p1,after:=e1,guard:=none },{ dst:=none,op:=Op.store 301 (Operand.tmp y) (Operand.tmp d),type:=t0,pos:=p2,after:=e2,guard:=none }] false) Q a w:=by
 refine wp_region_list (XG rfl (jge a w _ Q _ x b _ _ _ _ _ hx kb rfl (XG rfl (run_store _ w _ Q _ y d bR u1 u2 u3 u4 u5 y1 y2 y3 t c ?_ ?_ kR rfl ?_))))
 ·rw [<-JP,Xi hy,JP]
  exact hz
 ·rw [<-JP,Xa hd]
 ·refine h _ ?_ (jkc kR _ _ _ _ _)
  exact(((((Below.refl _ _).setCell (p:=⟨bR,0,none⟩) (Nat.le_refl _) _).setCell (p:=⟨bR,1,none⟩) (Nat.le_refl _) _).setCell (p:=⟨bR,2,none⟩) (Nat.le_refl _) _).setCell (p:=⟨bR,3,none⟩) (Nat.le_refl _) _).setCell (p:=⟨bR,4,none⟩) (Nat.le_refl _) _
open Go.RowKit
theorem wrap_small (x:Int)(h1 : -1000000000<=x)(h2:x<=1000000000):IntKind.i64.wrap x=x:=by
 simp [IntKind.wrap,IntKind.bits,IntKind.signed];omega
theorem qF (w:World)(o:Obj):(w.alloc o).heap.size=w.heap.size+1:=by
 show(w.heap.push o).size=_
 simp
theorem Q9 (w:World)(Y c:Nat)(d:Value)(h:UnitOf w d Y c)(hb:Y / 10 ^ c<18446744073709551616):∀a1 n1 c1 v2 v3,d=.agg #[.slice a1 n1 c1,v2,v3]->Calls Tryz.prog 237 #[.slice a1 n1 c1] w fun e w'=>e=.returned (.int .u64 ((Y / 10 ^ c:Nat):Int))/\w'=w:=by
 intro a1 n1 c1 v2 v3 e;obtain⟨A,B,⟨x1,m1,z1,x2,m2,z2,x3,m3,z3,e2,f1,_⟩,hB,q,_⟩:=h;rw [e] at e2;injection e2 with e3
 have e4:Value.slice a1 n1 c1=.slice x1 m1 z1:=by
  have:=congrArg (fun a:Array Value=>a[0]?) e3;simpa using this
 rw [e4];have:=jfT w _ (A / B) f1 (by rw [q];exact hb);rwa [q] at this
theorem Q0 (w:World)(Y c:Nat)(d:Value)(h:UnitOf w d Y c):Calls Tryz.prog 291 #[d] w fun e w'=>e=.returned (.bool (decide (Y % 10 ^ c=0)))/\Below w.heap.size w w':=by
 obtain⟨A,B,h1,h2,_,h3⟩:=h;have:=jdT w d A B h1 h2;rwa [decide_eq_decide.2 h3] at this
theorem jdr (w:World)(m bl:Nat)(e t:Int)(hbl:bl=bits m)(ht:t=((bl:Int) - 1+e)*1262611 / 4194304 - 17)(hm:m<9007199254740992)(hm0:0<m)(h1 : -1074<=e)(h2:e<=971)(bel:Nat)(hbel:(m=4503599627370496/\-1074<e/\bel=1)\/(¬(m=4503599627370496/\-1074<e)/\bel=2))
  (Y1 Y2 Y3 c:Nat) (hY1:Y1=(4*m - bel)*2 ^ (e+1074).toNat*wF) (hY2:Y2=4*m*2 ^ (e+1074).toNat*wF) (hY3:Y3=(4*m+2)*2 ^ (e+1074).toNat*wF) (hc:c=(t+1080).toNat) (hb1:Y1 / 10 ^ c<9000000000000000000) (hb2:Y2 / 10 ^ c<9000000000000000000) (hb3:Y3 / 10 ^ c<9000000000000000000) (hb4:0<Y3 / 10 ^ c) :
  Calls Tryz.prog 272 #[.int .u64 m,.int .i64 e] w fun r w'=>r=.returned (.agg #[.int .u64 ((Y1 / 10 ^ c+(if m % 2=1\/Y1 % 10 ^ c≠0 then 1 else 0):Nat):Int),.int .u64 ((Y2 / 10 ^ c:Nat):Int),.int .u64 ((Y3 / 10 ^ c - (if m % 2=1/\Y3 % 10 ^ c=0 then 1 else 0):Nat):Int),.bool (!decide (Y2 % 10 ^ c=0)),.int .i64 t])/\Below w.heap.size w w':=by
 generalize hRL:((Y1 / 10 ^ c+(if m % 2=1\/Y1 % 10 ^ c≠0 then 1 else 0):Nat):Int)=RL;generalize hRM:((Y2 / 10 ^ c:Nat):Int)=RM;generalize hRH:((Y3 / 10 ^ c - (if m % 2=1/\Y3 % 10 ^ c=0 then 1 else 0):Nat):Int)=RH;generalize hRX:(!decide (Y2 % 10 ^ c=0))=RX;have HRL:=jb hRL;have HRM:=jb hRM;have HRH:=jb hRH;have HRX:=jb hRX;clear hRL hRM hRH hRX;have hbl2:bl<=53:=by rw [hbl];exact J0 (k:=53) hm
 have hbl1:1<=bl:=by rw [hbl];exact Yl (by omega)
 have KL:∀w,Hid (Calls Tryz.prog 218 #[.int .u64 m] w fun e w'=>e=.returned (.int .i64 bl)/\w'=w):=fun w=>by
  have h:=Tryz.bits_Len64 (m:Int) w (by omega) (by omega);rw [Int.toNat_natCast,Qz m (by omega),<-hbl] at h;exact jb h
 have KF:∀w,Hid (Calls Tryz.prog 288 #[.int .i64 ((bl:Int) - 1+e)] w fun r w'=>r=.returned (.int .i64 (((bl:Int) - 1+e)*1262611 / 4194304))/\w'=w):=fun w=>jb (jbl w _ (by omega) (by omega))
 have f1 : -1000<=((bl:Int) - 1+e)*1262611 / 4194304:=by omega
 have f2:((bl:Int) - 1+e)*1262611 / 4194304<=1000:=by omega
 have t1 : -400<=t:=by omega
 have t2:t<=400:=by omega
 have wr1:=wrap_small ((bl:Int) - 1) (by omega) (by omega);have wr2:=wrap_small ((bl:Int) - 1+e) (by omega) (by omega);have wr3:IntKind.i64.wrap (((bl:Int) - 1+e)*1262611 / 4194304 - 17)=t:=by rw [ht];exact wrap_small _ (by omega) (by omega)
 have HT:=jb ht;have HBL:=jb hbl;clear ht hbl;generalize ((bl:Int) - 1+e)*1262611 / 4194304=fl at *
 go_enter Tryz.func272,Tryz.ntmps272
 go_upto_region 1 with fail
 have b0:Below w.heap.size w ((w.alloc (.cells #[.int .i64 e] 3)).alloc (.cells #[.int .u64 0,.int .u64 0,.int .u64 0,.bool false,.int .i64 0] 301)):=((Below.refl _ _).alloc (Nat.le_refl _) _).alloc (by rw [qF];omega) _;have bk1:=(jd w #[.int .i64 e] 3).alloc (.cells #[.int .u64 0,.int .u64 0,.int .u64 0,.bool false,.int .i64 0] 301);have bk2:=jd (w.alloc (.cells #[.int .i64 e] 3)) #[.int .u64 0,.int .u64 0,.int .u64 0,.bool false,.int .i64 0] 301;rw [qF] at bk2;generalize (w.alloc (.cells #[.int .i64 e] 3)).alloc (.cells #[.int .u64 0,.int .u64 0,.int .u64 0,.bool false,.int .i64 0] 301)=w0 at *;have r1:=bk1.cell 0 _ rfl;have lt1:=bk1.lt;have r1':∀o,(w0.alloc o).cell? ⟨w.heap.size,0,none⟩=some (.int .i64 e):=fun o=>(bk1.alloc o).cell 0 _ rfl
 go_cut [5] from 13 to 19 (fun s5 wx=>s5=.pointer (some ⟨w0.heap.size,0,none⟩)/\(w0.alloc (.cells #[.int .i64 t] 3)).drew=wx)
 case first=>
  go_region_with (first
   | (go_at_call 218
      refine(ja (KL _)).mono ?_
      rintro _ _ ⟨rfl,rfl⟩)
   | (go_at_call 288
      refine(ja (KF _)).mono ?_
      rintro _ _ ⟨rfl,rfl⟩))
  all_goals (go_wp2_with fail;go_meet;exact⟨rfl,by trivial⟩)
 case rest=>
 obtain⟨rfl,rfl⟩:=hcut;have bt:Blk (w0.alloc (.cells #[.int .i64 t] 3)).drew w0.heap.size #[.int .i64 t] 3:=jd w0 #[.int .i64 t] 3;have bk1':Blk (w0.alloc (.cells #[.int .i64 t] 3)).drew w.heap.size #[.int .i64 e] 3:=bk1.alloc (.cells #[.int .i64 t] 3);have bk2':Blk (w0.alloc (.cells #[.int .i64 t] 3)).drew (w.heap.size+1) #[.int .u64 0,.int .u64 0,.int .u64 0,.bool false,.int .i64 0] 301:=bk2.alloc (.cells #[.int .i64 t] 3);have bw1:Below w.heap.size w (w0.alloc (.cells #[.int .i64 t] 3)).drew:=(b0.alloc b0.size _).drew;have ltb:=bk1.lt;have ltc:=bk2.lt;clear r1 r1' lt1 wr1 wr2 wr3 bk1 bk2 b0 KL KF;generalize (w0.alloc (.cells #[.int .i64 t] 3)).drew=w1 at *;generalize w0.heap.size=bT at *;have r1:=bk1'.cell 0 _ rfl;have mI1:(0:Int)<(m:Int):=by omega
 have mI2:(m:Int)<9007199254740992:=by omega
 have hbelI:((m:Int)=4503599627370496/\-1074<e/\(bel:Int)=1)\/(¬((m:Int)=4503599627370496/\-1074<e)/\(bel:Int)=2):=by omega
 have KC:∀(q:Nat) (qI:Int) (w':World),qI=q->q<18446744073709551616->Below w1.heap.size w1 w'->Hid (Calls Tryz.prog 289 #[.int .u64 qI,.pointer (some ⟨w.heap.size,0,none⟩),.pointer (some ⟨bT,0,none⟩)] w' fun r w''=>∃d,r=.returned d/\UnitOf w'' d (q*2 ^ (e+1074).toNat*wF) (t+1080).toNat/\Below w'.heap.size w' w''):=fun q qI w' h1' h2' hb=>jb (jil w' q qI e t w.heap.size bT h1' h2' h1 h2 t1 t2 (bk1'.below hb) (bt.below hb))
 have hq1:4*(m:Int) - (bel:Int)=((4*m - bel:Nat):Int):=by omega
 have hq2:4*(m:Int)=((4*m:Nat):Int):=by omega
 have hq3:4*(m:Int)+2=((4*m+2:Nat):Int):=by omega
 have K1:=KC (4*m - bel) (4*(m:Int) - (bel:Int)) w1 hq1 (by omega) (Below.refl _ _);have K2:∀w',Below w1.heap.size w1 w'->Hid _:=fun w'=>KC (4*m) (4*(m:Int)) w' hq2 (by omega)
 have K3:∀w',Below w1.heap.size w1 w'->Hid _:=fun w'=>KC (4*m+2) (4*(m:Int)+2) w' hq3 (by omega)
 have HPAR:=jb (show(m:Int) % 2=((m % 2:Nat):Int) by omega);clear KC hq1 hq2 hq3;rw [<-hY1,<-hc] at K1;rw [<-hY2,<-hc] at K2;rw [<-hY3,<-hc] at K3;clear hY1 hY2 hY3 hc;generalize (m:Int)=mI at *;generalize (bel:Int)=bI at *
 go_upto_region 4 with fail
 go_cut [26] from 21 to 25 (fun s26 wx=>(s26=.bool true/\bI=1/\w1=wx)\/(s26=.bool false/\bI=2/\w1=wx))
 case first=>
  rcases hbelI with ⟨x1,x2,x3⟩ | ⟨x1,x2⟩
  ·have y1:(mI == 4503599627370496)=true:=by simp;exact x1
   have y2:decide (-1074<e)=true:=decide_eq_true x2;have X3:=jb x3;clear x1 x3 hbel;go_wp2
   go_meet
   case rel=>exact .inl ⟨by first | rfl | simp [x2],ja X3,by trivial⟩
  ·by_cases x3:mI=4503599627370496
   ·have x4:¬-1074<e:=fun h=>x1 ⟨x3,h⟩
    have y1:(mI == 4503599627370496)=true:=by simp;exact x3
    have y2:decide (-1074<e)=false:=decide_eq_false x4;have X2:=jb x2;clear x1 x2 x3 hbel;go_wp2
    go_meet
    case rel=>exact .inr ⟨by first | rfl | (simp;omega),ja X2,by trivial⟩
   ·have y1:(mI == 4503599627370496)=false:=beq_false_of_ne x3
    have X2:=jb x2;clear x1 x2 x3 hbel;go_wp2
    go_meet
    case rel=>exact .inr ⟨by first | rfl | simp,ja X2,by trivial⟩
 case rest=>
 go_upto_if 26 with fail
 have HCUT:=jb hcut;clear hcut
 go_cut [7] from 21 to 26 (fun s7 wx=>s7=.int .u64 bI/\w1=wx)
 case first=>
  rcases ja HCUT with ⟨rfl,rfl,rfl⟩ | ⟨rfl,rfl,rfl⟩
  ·go_wp2
   go_meet
   case rel=>exact⟨rfl,by trivial⟩
  ·go_wp2
   go_meet
   case rel=>exact⟨rfl,by trivial⟩
 case rest=>
 obtain⟨rfl,rfl⟩:=hcut;have bI1:1<=bI/\bI<=2:=by rcases hbelI with ⟨_,_,h⟩ | ⟨_,h⟩<;>omega
 obtain⟨bI1,bI2⟩:=bI1;clear hbelI hbel HCUT
 go_wp2_with fail
 refine(ja K1).mono ?_
 rintro r w2 ⟨d1,rfl,u1,x1⟩
 go_wp2_with fail
 refine(ja (K2 w2 x1)).mono ?_
 rintro r w3 ⟨d2,rfl,u2,x2⟩
 have x12:=x1.trans (x2.mono x1.size)
 go_wp2_with fail
 refine(ja (K3 w3 x12)).mono ?_
 rintro r w4 ⟨d3,rfl,u3,x3⟩
 have x13:=x12.trans (x3.mono x12.size);have bw4:=bw1.trans (x13.mono bw1.size);have u1':=(u1.below x2).below x3;have u2':=u2.below x3;have bk2'':=bk2'.below x13;have bt':=bt.below x13;clear K1 K2 K3 u1 u2 x1 x2 x3 x12 x13 bk1' bk2' bt bw1 r1;have E1:∀w',Below w4.heap.size w4 w'->Hid _:=fun w' hb=>jb (Q0 w' _ _ _ (u1'.below hb))
 have E2:∀w',Below w4.heap.size w4 w'->Hid _:=fun w' hb=>jb (Q0 w' _ _ _ (u2'.below hb))
 have E3:∀w',Below w4.heap.size w4 w'->Hid _:=fun w' hb=>jb (Q0 w' _ _ _ (u3.below hb))
 have SS1:=jb (fun w' (hb:Below w4.heap.size w4 w')=>Q9 w' _ _ _ (u1'.below hb) (by omega));have SS2:=jb (fun w' (hb:Below w4.heap.size w4 w')=>Q9 w' _ _ _ (u2'.below hb) (by omega));have SS3:=jb (fun w' (hb:Below w4.heap.size w4 w')=>Q9 w' _ _ _ (u3.below hb) (by omega));obtain⟨A1,B1,⟨a1,n1,c1,a2,n2,c2,a3,n3,c3,rfl,-⟩,-⟩:=u1';obtain⟨A2,B2,⟨a4,n4,c4,a5,n5,c5,a6,n6,c6,rfl,-⟩,-⟩:=u2';obtain⟨A3,B3,⟨a7,n7,c7,a8,n8,c8,a9,n9,c9,rfl,-⟩,-⟩:=u3;generalize Y1 / 10 ^ c=y1 at *;generalize Y2 / 10 ^ c=y2 at *;generalize Y3 / 10 ^ c=y3 at *;generalize hx1:decide (Y1 % 10 ^ c=0)=ex1 at *;generalize hx2:decide (Y2 % 10 ^ c=0)=ex2 at *;generalize hx3:decide (Y3 % 10 ^ c=0)=ex3 at *;have HX:=jb (And.intro hx1 (And.intro hx2 hx3));clear hx1 hx2 hx3
 go_upto_region 7 with fail
 have g8:=((jd w4 #[.slice a1 n1 c1,.slice a2 n2 c2,.slice a3 n3 c3] 246).alloc (.cells #[.slice a4 n4 c4,.slice a5 n5 c5,.slice a6 n6 c6] 246)).alloc (.cells #[.slice a7 n7 c7,.slice a8 n8 c8,.slice a9 n9 c9] 246);have g9:=(jd (w4.alloc (.cells #[.slice a1 n1 c1,.slice a2 n2 c2,.slice a3 n3 c3] 246)) #[.slice a4 n4 c4,.slice a5 n5 c5,.slice a6 n6 c6] 246).alloc (.cells #[.slice a7 n7 c7,.slice a8 n8 c8,.slice a9 n9 c9] 246);have g10:=jd ((w4.alloc (.cells #[.slice a1 n1 c1,.slice a2 n2 c2,.slice a3 n3 c3] 246)).alloc (.cells #[.slice a4 n4 c4,.slice a5 n5 c5,.slice a6 n6 c6] 246)) #[.slice a7 n7 c7,.slice a8 n8 c8,.slice a9 n9 c9] 246;rw [qF] at g9;rw [qF,qF] at g10
 have b7:Below w4.heap.size w4 (((w4.alloc (.cells #[.slice a1 n1 c1,.slice a2 n2 c2,.slice a3 n3 c3] 246)).alloc (.cells #[.slice a4 n4 c4,.slice a5 n5 c5,.slice a6 n6 c6] 246)).alloc (.cells #[.slice a7 n7 c7,.slice a8 n8 c8,.slice a9 n9 c9] 246)):=(((Below.refl _ _).alloc (Nat.le_refl _) _).alloc (by rw [qF];omega) _).alloc (by rw [qF,qF];omega) _;generalize ((w4.alloc (.cells #[.slice a1 n1 c1,.slice a2 n2 c2,.slice a3 n3 c3] 246)).alloc (.cells #[.slice a4 n4 c4,.slice a5 n5 c5,.slice a6 n6 c6] 246)).alloc (.cells #[.slice a7 n7 c7,.slice a8 n8 c8,.slice a9 n9 c9] 246)=w7 at *;have gT:=bt'.below b7;have gR:=bk2''.below b7;have bw7:=bw4.trans (b7.mono bw4.size)
 go_cut [11] from 42 to 55 (fun s11 wx=>∃b,s11=.pointer (some ⟨b,0,none⟩)/\w7.heap.size<=b/\Below w7.heap.size w7 wx/\Blk wx b #[.int .u64 (y1:Int),.int .u64 (y2:Int),.int .u64 (y3:Int),.bool !ex2,.int .i64 t] 301)
 case first=>
  change Code.wp Tryz.prog (Code.region 7 ji0 true) _ _ _
  refine jj3 (w4.heap.size) (w4.heap.size+1) (w4.heap.size+1+1) bT a1 a2 a3 a4 a5 a6 a7 a8 a9 n1 c1 n2 c2 n3 c3 n4 c4 n5 c5 n6 c6 n7 c7 n8 c8 n9 c9 y1 y2 y3 t ex2 ?_ ?_ ?_ ?_ ?_ g8 g9 g10 gT ?_ ?_ ?_ ?_ ?_
  ·rfl
  ·rfl
  ·rfl
  ·rfl
  ·rfl
  ·intro w' hb
   exact ja SS1 w' (b7.trans (hb.mono b7.size)) _ _ _ _ _ rfl
  ·intro w' hb
   exact ja SS2 w' (b7.trans (hb.mono b7.size)) _ _ _ _ _ rfl
  ·intro w' hb
   exact ja SS3 w' (b7.trans (hb.mono b7.size)) _ _ _ _ _ rfl
  ·intro w' hb
   exact ja (E2 w' (b7.trans (hb.mono b7.size)))
  ·intro b wF q1 q2 q3
   simp only [Jl,List.foldl,Act.put,List.setIfInBounds_toArray,List.set_cons_succ,List.set_cons_zero]
   go_wp2_with fail
   go_meet
   case rel=>exact⟨b,rfl,q1,q2,q3⟩
 case rest=>
 obtain⟨b,rfl,hb,bx,kb⟩:=hcut;obtain⟨od,hod⟩:∃od:Bool,od=decide (m % 2=1):=⟨_,rfl⟩
 have ODD:(mI % 2 == 1)=od:=by
  rw [ja HPAR,hod]
  by_cases h:m % 2=1
  ·rw [h];rfl
  ·rw [decide_eq_false h]
   exact beq_false_of_ne (by omega)
 obtain⟨lo,hlo⟩:∃lo:Nat,lo=y1+(if (od || !ex1) then 1 else 0):=⟨_,rfl⟩
 obtain⟨hi,hhi⟩:∃hi:Nat,hi=y3 - (if (od && ex3) then 1 else 0):=⟨_,rfl⟩
 have HLO:=jb hlo;have HHI:=jb hhi;have HOD:=jb hod;have y1b:(0:Int)<=(y1:Int)/\(y1:Int)<9000000000000000000:=by omega
 have y3b:(1:Int)<=(y3:Int)/\(y3:Int)<9000000000000000000:=by omega
 obtain⟨y1b1,y1b2⟩:=y1b;obtain⟨y3b1,y3b2⟩:=y3b;have ne1:w.heap.size+1<w7.heap.size:=gR.lt;have bws:=bw7.size;clear hlo hhi hod SS1 SS2 SS3 E2 HPAR
 go_upto_region 9 with fail
 clear ODD
 go_cut [64] from 56 to 63 (fun s64 wx=>s64=.bool (od || !ex1)/\Below w7.heap.size w7 wx/\Blk wx b #[.int .u64 (y1:Int),.int .u64 (y2:Int),.int .u64 (y3:Int),.bool !ex2,.int .i64 t] 301)
 case first=>
  cases od with
  | true=>
   go_wp2
   go_meet
   case rel=>exact⟨rfl,bx,kb⟩
  | false=>
   have q0:=(g8.below bx).cell 0 _ rfl;have q1:=(g8.below bx).cell 1 _ rfl;have q2:=(g8.below bx).cell 2 _ rfl;have K:=E1 wc (b7.trans (bx.mono b7.size))
   go_wp2_with fail
   refine(ja K).mono ?_
   rintro r w8 ⟨rfl,b8⟩
   go_wp2
   go_meet
   case rel=>exact⟨rfl,bx.trans (b8.mono bx.size),kb.below b8⟩
 case rest=>
 obtain⟨rfl,bx2,kb2⟩:=hcut;clear bx kb
 go_upto_if 64 with fail
 go_cut [] from 59 to 68 (fun wx=>Below w7.heap.size w7 wx/\Blk wx b #[.int .u64 (lo:Int),.int .u64 (y2:Int),.int .u64 (y3:Int),.bool !ex2,.int .i64 t] 301)
 case first=>
  cases hx:(od || !ex1) with
  | true=>
   have HL:Hid ((lo:Int)=(y1:Int)+1):=jb (by have:=ja HLO;rw [hx,if_pos rfl] at this;omega);have q0:=kb2.cell 0 _ rfl;have z0:=kb2.froz 0;have k0:=kb2.set 0 (.int .u64 ((y1:Int)+1));have K0:Hid (Blk (_) b #[.int .u64 ((y1:Int)+1),.int .u64 (y2:Int),.int .u64 (y3:Int),.bool !ex2,.int .i64 t] 301):=jb (by simpa using k0);have B0:=jb (bx2.setCell (p:=⟨b,0,none⟩) hb (.int .u64 ((y1:Int)+1)));clear k0 hx;go_wp2
   go_meet
   case rel=>exact⟨ja B0,by rw [ja HL];exact ja K0⟩
  | false=>
   have HL:Hid (lo=y1):=jb (by have:=ja HLO;rw [hx,if_neg (by decide)] at this;omega);go_wp2
   go_meet
   case rel=>exact⟨bx2,by rw [ja HL];exact kb2⟩
 case rest=>
 obtain⟨bx3,kb3⟩:=hcut;clear bx2 kb2
 go_upto_region 11 with fail
 go_cut [73] from 69 to 72 (fun s73 wx=>s73=.bool (od && ex3)/\Below w7.heap.size w7 wx/\Blk wx b #[.int .u64 (lo:Int),.int .u64 (y2:Int),.int .u64 (y3:Int),.bool !ex2,.int .i64 t] 301)
 case first=>
  cases od with
  | false=>
   go_wp2
   go_meet
   case rel=>exact⟨rfl,bx3,kb3⟩
  | true=>
   have q0:=(g10.below bx3).cell 0 _ rfl;have q1:=(g10.below bx3).cell 1 _ rfl;have q2:=(g10.below bx3).cell 2 _ rfl;have K:=E3 wc (b7.trans (bx3.mono b7.size))
   go_wp2_with fail
   refine(ja K).mono ?_
   rintro r w8 ⟨rfl,b8⟩
   go_wp2
   go_meet
   case rel=>exact⟨rfl,bx3.trans (b8.mono bx3.size),kb3.below b8⟩
 case rest=>
 obtain⟨rfl,bx4,kb4⟩:=hcut;clear bx3 kb3
 go_upto_if 73 with fail
 go_cut [] from 12 to 77 (fun wx=>Below w7.heap.size w7 wx/\Blk wx b #[.int .u64 (lo:Int),.int .u64 (y2:Int),.int .u64 (hi:Int),.bool !ex2,.int .i64 t] 301)
 case first=>
  cases hx:(od && ex3) with
  | true=>
   have HL:Hid ((hi:Int)=(y3:Int) - 1):=jb (by have:=ja HHI;rw [hx,if_pos rfl] at this;omega);have q0:=kb4.cell 2 _ rfl;have z0:=kb4.froz 2;have k0:=kb4.set 2 (.int .u64 ((y3:Int) - 1));have K0:Hid (Blk (_) b #[.int .u64 (lo:Int),.int .u64 (y2:Int),.int .u64 ((y3:Int) - 1),.bool !ex2,.int .i64 t] 301):=jb (by simpa using k0);have B0:=jb (bx4.setCell (p:=⟨b,2,none⟩) hb (.int .u64 ((y3:Int) - 1)));clear k0 hx;go_wp2
   go_meet
   case rel=>exact⟨ja B0,by rw [ja HL];exact ja K0⟩
  | false=>
   have HL:Hid (hi=y3):=jb (by have:=ja HHI;rw [hx,if_neg (by decide)] at this;omega);go_wp2
   go_meet
   case rel=>exact⟨bx4,by rw [ja HL];exact kb4⟩
 case rest=>
 obtain⟨bx5,kb5⟩:=hcut;clear bx4 kb4;have gR':=gR.below bx5;have bw8:=bw7.trans (bx5.mono bw7.size)
 have FIN1:Hid ((lo:Int)=RL):=jb (by
  have a:=ja HLO;obtain⟨q1,q2,q3⟩:=ja HX;rw [<-ja HRL,a,ja HOD,<-q1]
  by_cases u:m % 2=1<;>by_cases v:Y1 % 10 ^ c=0<;>simp [u,v])
 have FIN3:Hid ((hi:Int)=RH):=jb (by
  have a:=ja HHI;obtain⟨q1,q2,q3⟩:=ja HX;rw [<-ja HRH,a,ja HOD,<-q3]
  by_cases u:m % 2=1<;>by_cases v:Y3 % 10 ^ c=0<;>simp [u,v])
 have FIN2:Hid ((y2:Int)=RM):=HRM;have FINX:Hid ((!ex2)=RX):=HRX;clear HRL HRM HRH HRX;clear HLO HHI HOD HX HBL HT ltb ltc gR g8 g9 g10 gT E1 E3 bw7 bx5 b7;clear y1b1 y1b2 y3b1 y3b2 hb1 hb2 hb3 hb4 mI1 mI2 hb bI1 bI2 bws bk2'' bt' bw4 hm hm0 h1 h2 f1 f2 t1 t2 hbl1 hbl2
 go_upto_region 13 with fail
 refine jjG _ _ 11 4 78 b (w.heap.size+1) _ _ _ _ _ (lo:Int) (y2:Int) (hi:Int) t (!ex2) ?_ (by decide) ?_ ?_ kb5 gR' ?_ 13 _ _ _ _
 ·exact Nat.lt_of_lt_of_eq (by decide:78<79) rfl
 ·rfl
 ·rfl
 intro w9 b9 k9;have BB:=jb (bw8.trans (b9.mono (Nat.le_succ _)));have r0:=k9.cell 0 _ rfl;have r1:=k9.cell 1 _ rfl;have r2:=k9.cell 2 _ rfl;have r3:=k9.cell 3 _ rfl;have r4:=k9.cell 4 _ rfl;clear b9 k9 kb5 gR' bw8;have FF:=jb (And.intro (ja FIN1) (And.intro (ja FIN2) (And.intro (ja FIN3) (ja FINX))));rw [ja FIN1] at r0;rw [ja FIN2] at r1;rw [ja FIN3] at r2;rw [ja FINX] at r3;clear FF FIN1 FIN2 FIN3 FINX;go_wp2;refine bodyPost_ret (v:=.agg #[.int .u64 RL,.int .u64 RM,.int .u64 RH,.bool RX,.int .i64 t]) (by simp [results,Tryz.results272,go_sem,Act.put,r0,r1,r2,r3,r4]) rfl ?_
 exact⟨rfl,ja BB⟩
open Go.RowKit
def Z5 (lo hi R D P H q:Int)(more:Bool):Int×Bool :=
 if D<lo then (P,decide (P<=hi)) else if hi<P\/R<H then (D,true) else if R=H/\more=false/\q % 2=0 then (D,true) else (P,true)
theorem YU (w:World)(lo A hi U R D P H q x:Int)(more ok:Bool)(tn:Int)(hU:2<=U)(hR:A % U=R)(hD:A - R=D)(hP:D+U=P)(hH:U / 2=H)(hq:D / U=q)(hA:0<=A)(hl:0<=lo)(hh:0<=hi)(hD0:0<=D)(hP0:P<18446744073709551616)(hl2:lo<18446744073709551616)(hh2:hi<18446744073709551616)
  (hx:Z5 lo hi R D P H q more=(x,ok)) :
  Calls Tryz.prog 292 #[.agg #[.int .u64 lo,.int .u64 A,.int .u64 hi,.bool more,.int .i64 tn],.int .u64 U] w fun e w'=>e=.returned (.tuple #[.int .u64 x,.bool ok])/\Below w.heap.size w w':=by
 have R0:0<=R:=by rw [<-hR];exact Int.emod_nonneg _ (by omega)
 have R1:R<U:=by rw [<-hR];exact Int.emod_lt_of_pos _ (by omega)
 have wr1:IntKind.u64.wrap (A - R)=D:=by
  rw [hD];simp [IntKind.wrap,IntKind.bits,IntKind.signed];omega
 have wr2:IntKind.u64.wrap (D+U)=P:=by
  rw [hP];simp [IntKind.wrap,IntKind.bits,IntKind.signed];omega
 have q0:0<=q:=by rw [<-hq];exact Int.ediv_nonneg hD0 (by omega)
 have q1:q<=D:=by rw [<-hq];exact Int.ediv_le_self _ hD0
 have wr3:IntKind.u64.wrap (D.tdiv U)=q:=by
  rw [Int.tdiv_eq_ediv_of_nonneg hD0,hq];simp [IntKind.wrap,IntKind.bits,IntKind.signed];omega
 have wr4:q.tmod 2=q % 2:=Int.tmod_eq_emod_of_nonneg q0;have HX:=jb hx;have P0:0<=P:=by omega
 have A1:A<18446744073709551616:=by omega
 have U1:U<18446744073709551616:=by omega
 clear hx hD hP
 go_enter Tryz.func292,Tryz.ntmps292
 have b0:Below w.heap.size w (w.alloc (.cells #[.int .u64 lo,.int .u64 A,.int .u64 hi,.bool more,.int .i64 tn] 301)):=(Below.refl _ _).alloc (Nat.le_refl _) _;have bk:=jd w #[.int .u64 lo,.int .u64 A,.int .u64 hi,.bool more,.int .i64 tn] 301
 go_upto_region 1 with fail
 generalize w.alloc (.cells #[.int .u64 lo,.int .u64 A,.int .u64 hi,.bool more,.int .i64 tn] 301)=w1 at *;have r0:=bk.cell 0 _ rfl;have r1:=bk.cell 1 _ rfl;have r2:=bk.cell 2 _ rfl;have r3:=bk.cell 3 _ rfl;have n0:U≠0:=by omega
 have B0:=jb b0;clear bk b0
 go_upto_region 4 with fail
 by_cases c1:D<lo
 ·have E:Hid ((P,decide (P<=hi))=(x,ok)):=jb (by have:=ja HX;unfold Z5 at this;rwa [if_pos c1] at this)
  clear HX
  go_upto_region 5 with fail
  go_quiet (fail)
  go_wp2;have e:=Prod.mk.inj (ja E);rw [<-e.1,<-e.2];refine bodyPost_ret (v:=.tuple #[.int .u64 P,.bool (decide (P<=hi))]) (by simp [results,Tryz.results292,go_sem]) rfl ⟨rfl,below_drewN (ja B0) _⟩
 ·have E:Hid ((if hi<P\/R<H then (D,true) else if R=H/\more=false/\q % 2=0 then (D,true) else (P,true))=(x,ok)):=jb (by have:=ja HX;unfold Z5 at this;rwa [if_neg c1] at this)
  clear HX
  by_cases c2:hi<P
  ·have E2:Hid ((D,true)=(x,ok)):=jb (by have:=ja E;rwa [if_pos (.inl c2)] at this)
   clear E;go_wp2;have e:=Prod.mk.inj (ja E2);rw [<-e.1,<-e.2];refine bodyPost_ret (v:=.tuple #[.int .u64 D,.bool true]) (by simp [results,Tryz.results292,go_sem]) rfl ⟨rfl,ja B0⟩
  ·by_cases c3:R<H
   ·have E2:Hid ((D,true)=(x,ok)):=jb (by have:=ja E;rwa [if_pos (.inr c3)] at this)
    clear E;go_wp2;have e:=Prod.mk.inj (ja E2);rw [<-e.1,<-e.2];refine bodyPost_ret (v:=.tuple #[.int .u64 D,.bool true]) (by simp [results,Tryz.results292,go_sem]) rfl ⟨rfl,ja B0⟩
   ·have E2:Hid ((if R=H/\more=false/\q % 2=0 then (D,true) else (P,true))=(x,ok)):=jb (by have:=ja E;rwa [if_neg (by omega)] at this)
    clear E
    go_upto_region 8 with fail
    by_cases c4:R=H
    ·cases more with
     | false=>
      by_cases c5:q % 2=0
      ·have y5:(q % 2 == 0)=true:=by rw [c5];rfl
       have E3:Hid ((D,true)=(x,ok)):=jb (by have:=ja E2;rwa [if_pos ⟨c4,rfl,c5⟩] at this);clear E2;go_wp2;have e:=Prod.mk.inj (ja E3);rw [<-e.1,<-e.2];refine bodyPost_ret (v:=.tuple #[.int .u64 D,.bool true]) (by simp [results,Tryz.results292,go_sem]) rfl ⟨rfl,ja B0⟩
      ·have y5:(q % 2 == 0)=false:=beq_false_of_ne c5
       have E3:Hid ((P,true)=(x,ok)):=jb (by have:=ja E2;rwa [if_neg (fun h=>c5 h.2.2)] at this);clear E2;go_wp2;have e:=Prod.mk.inj (ja E3);rw [<-e.1,<-e.2];refine bodyPost_ret (v:=.tuple #[.int .u64 P,.bool true]) (by simp [results,Tryz.results292,go_sem]) rfl ⟨rfl,ja B0⟩
     | true=>
      have E3:Hid ((P,true)=(x,ok)):=jb (by have:=ja E2;rwa [if_neg (fun h=>by cases h.2.1)] at this);clear E2;go_wp2;have e:=Prod.mk.inj (ja E3);rw [<-e.1,<-e.2];refine bodyPost_ret (v:=.tuple #[.int .u64 P,.bool true]) (by simp [results,Tryz.results292,go_sem]) rfl ⟨rfl,ja B0⟩
    ·have E3:Hid ((P,true)=(x,ok)):=jb (by have:=ja E2;rwa [if_neg (fun h=>c4 h.1)] at this)
     clear E2;go_wp2;have e:=Prod.mk.inj (ja E3);rw [<-e.1,<-e.2];refine bodyPost_ret (v:=.tuple #[.int .u64 P,.bool true]) (by simp [results,Tryz.results292,go_sem]) rfl ⟨rfl,ja B0⟩
open Go.RowKit
theorem jfm {r c u a:Nat}(h0:0<r)(ha:a=fX r / 10 ^ c)(hu:1<=u):∃(x:Nat) (ok:Bool),Z5 (Xs r c:Nat) (JJ r c:Nat) ((a % 10 ^ u:Nat):Int) ((a / 10 ^ u*10 ^ u:Nat):Int) ((a / 10 ^ u*10 ^ u+10 ^ u:Nat):Int) ((10 ^ u / 2:Nat):Int) ((a / 10 ^ u:Nat):Int) (!decide (fX r % 10 ^ c=0))=((x:Int),ok)/\x<=a / 10 ^ u*10 ^ u+10 ^ u/\(ok=true->Jm r (c+u) (x*10 ^ c))/\(ok=false->¬Good r (c+u)):=by
 have hlow:=jhL (u:=u) h0 ha;have hdown:=jfz h0 ha hu;have hup:=jiw h0 ha hu;have hm:((!decide (fX r % 10 ^ c=0))=false)↔fX r % 10 ^ c=0:=by simp
 generalize (!decide (fX r % 10 ^ c=0))=more at *;have hq:((a / 10 ^ u:Nat):Int) % 2=0↔a / 10 ^ u % 2=0:=by omega
 generalize hqq:((a / 10 ^ u:Nat):Int)=q at *;clear hqq;generalize a / 10 ^ u*10 ^ u=D at *;generalize a % 10 ^ u=R at *;generalize 10 ^ u / 2=H at *;have hU:D<=D+10 ^ u:=Nat.le_add_right _ _;generalize D+10 ^ u=P at *;generalize Xs r c=lo at *;generalize JJ r c=hi at *
 by_cases c1:D<lo
 ·refine⟨P,decide (P<=hi),?_,Nat.le_refl _,?_,?_⟩
  ·unfold Z5
   rw [if_pos (by omega)]
   congr 1
   exact decide_eq_decide.2 (by omega)
  ·intro h
   exact(hlow c1).1 (of_decide_eq_true h)
  ·intro h
   exact(hlow c1).2 (of_decide_eq_false h)
 ·by_cases c2:hi<P\/R<H
  ·refine⟨D,true,?_,hU,?_,?_⟩
   ·unfold Z5
    rw [if_neg (by omega),if_pos (by omega)]
   ·intro _
    exact hdown c1 (by rcases c2 with h | h;exact .inl h;exact .inr (.inl h))
   ·intro h
    cases h
  ·by_cases c3:R=H/\more=false/\q % 2=0
   ·refine⟨D,true,?_,hU,?_,?_⟩
    ·unfold Z5
     rw [if_neg (by omega),if_neg (by omega),if_pos ⟨by omega,c3.2.1,c3.2.2⟩]
    ·intro _
     exact hdown c1 (.inr (.inr ⟨c3.1,hm.1 c3.2.1,hq.1 c3.2.2⟩))
    ·intro h
     cases h
   ·refine⟨P,true,?_,Nat.le_refl _,?_,?_⟩
    ·unfold Z5
     rw [if_neg (by omega),if_neg (by omega),if_neg (fun h=>c3 ⟨by omega,h.2.1,h.2.2⟩)]
    ·intro _
     exact hup c1 (by omega) (by omega) (fun h=>c3 ⟨h.1,hm.2 h.2.1,hq.2 h.2.2⟩)
    ·intro h
     cases h
theorem XH (w:World)(r c u a lo hi:Nat)(UI tn:Int)(more:Bool)(hUI:UI=((10 ^ u:Nat):Int))(h0:0<r)(ha:a=fX r / 10 ^ c)(hu:1<=u)(hlo:lo=Xs r c)(hhi:hi=JJ r c)(hmore:more = !decide (fX r % 10 ^ c=0))(hau:10 ^ u<=a)(hab:a<9000000000000000000)(hl2:lo<18446744073709551616)(hh2:hi<18446744073709551616):∃(x:Nat) (ok:Bool),x<18446744073709551616/\(ok=true->Jm r (c+u) (x*10 ^ c))/\(ok=false->¬Good r (c+u))/\
  Calls Tryz.prog 292 #[.agg #[.int .u64 lo,.int .u64 a,.int .u64 hi,.bool more,.int .i64 tn],.int .u64 UI] w fun e w'=>e=.returned (.tuple #[.int .u64 x,.bool ok])/\Below w.heap.size w w':=by
 obtain⟨x,ok,h,hx,h1,h2⟩:=jfm h0 ha hu;rw [<-hlo,<-hhi,<-hmore] at h;have e1:=Nat.div_add_mod a (10 ^ u);have e2:a / 10 ^ u*10 ^ u<=a:=Nat.div_mul_le_self _ _;rw [Nat.mul_comm] at e1
 have t2:2<=10 ^ u:=by
  obtain⟨v,rfl⟩:∃v,u=v+1:=⟨u - 1,by omega⟩
  have:=jD v;rw [Nat.pow_succ];omega
 have k1:((a:Nat):Int) % UI=((a % 10 ^ u:Nat):Int):=by rw [hUI];exact(Int.natCast_emod _ _).symm
 have k2:((a / 10 ^ u*10 ^ u:Nat):Int) / UI=((a / 10 ^ u:Nat):Int):=by
  rw [hUI,<-Int.natCast_ediv,Nat.mul_div_cancel _ (by omega)]
 have k3:UI / 2=((10 ^ u / 2:Nat):Int):=by rw [hUI];omega
 refine⟨x,ok,by omega,h1,h2,YU w lo a hi UI _ _ _ _ _ x more ok tn (by omega) k1 ?_ ?_ k3 k2 (by omega) (by omega) (by omega) (by omega) (by omega) (by omega) (by omega) h⟩
 ·omega
 ·rw [hUI];omega
open Go.RowKit
theorem jfQ {r c u a i:Nat}(ha:a=fX r / 10 ^ c)(h:a / 10 ^ u<10)(hi:c+u<i):¬10 ^ i<=fX r:=by
 intro hle
 have h1:a<10 ^ (u+1):=by
  rw [Nat.pow_succ,Nat.mul_comm];exact(Nat.div_lt_iff_lt_mul (jD u)).1 h
 have h2:fX r<10 ^ (u+1)*10 ^ c:=by
  rw [ha] at h1;exact(Nat.div_lt_iff_lt_mul (jD c)).1 h1
 rw [<-Nat.pow_add] at h2;have h3:(10:Nat) ^ (u+1+c)<=10 ^ i:=Nat.pow_le_pow_right (by omega) (by omega);omega
theorem jhf {r c u a:Nat}(ha:a=fX r / 10 ^ c)(h:10 ^ u<=a):10 ^ (c+u)<=fX r:=by
 rw [Nat.pow_add,Nat.mul_comm];rw [ha] at h;exact(Nat.le_div_iff_mul_le (jD c)).1 h
theorem Jk {r c a:Nat}(h0:0<r)(ha:a=fX r / 10 ^ c)(h:100000000000000000<=a):Good r (c+1):=by
 refine jaz h0 ?_
 rw [ha] at h;have:=(Nat.le_div_iff_mul_le (jD c)).1 h;rw [Nat.pow_succ];omega
theorem jbp (w:World)(r c a lo hi:Nat)(tn:Int)(more:Bool)(h0:0<r)(ha:a=fX r / 10 ^ c)(hlo:lo=Xs r c)(hhi:hi=JJ r c)(hmore:more = !decide (fX r % 10 ^ c=0))(hab1:100000000000000000<=a)(hab:a<9000000000000000000)(hl2:lo<18446744073709551616)(hh2:hi<18446744073709551616) :
  Calls Tryz.prog 273 #[.agg #[.int .u64 lo,.int .u64 a,.int .u64 hi,.bool more,.int .i64 tn]] w fun e w'=>(∃x:Nat,e=.returned (.int .u64 x)/\x<18446744073709551616/\∃j,Qf r j (x*10 ^ c))/\Below w.heap.size w w':=by
 have KN:Hid (∀(w':World) (u:Nat) (UI:Int),UI=((10 ^ u:Nat):Int)->1<=u->10 ^ u<=a->∃(x:Nat) (ok:Bool),x<18446744073709551616/\(ok=true->Jm r (c+u) (x*10 ^ c))/\(ok=false->¬Good r (c+u))/\
  Calls Tryz.prog 292 #[.agg #[.int .u64 lo,.int .u64 a,.int .u64 hi,.bool more,.int .i64 tn],.int .u64 UI] w' fun e w''=>e=.returned (.tuple #[.int .u64 x,.bool ok])/\Below w'.heap.size w' w''):=jb (fun w' u UI e1 e2 e3=>XH w' r c u a lo hi UI tn more e1 h0 ha e2 hlo hhi hmore e3 hab hl2 hh2)
 have HT:Hid (∀u i,a / 10 ^ u<10->c+u<i->¬10 ^ i<=fX r):=jb (fun u i h k=>jfQ ha h k);have HL:Hid (∀u,10 ^ u<=a->10 ^ (c+u)<=fX r):=jb (fun u h=>jhf ha h);have HG:Hid (Good r (c+1)):=jb (Jk h0 ha hab1);clear hlo hhi hmore ha h0 hl2 hh2
 go_enter Tryz.func273,Tryz.ntmps273
 have b0:Below w.heap.size w (w.alloc (.cells #[.int .u64 lo,.int .u64 a,.int .u64 hi,.bool more,.int .i64 tn] 301)):=(Below.refl _ _).alloc (Nat.le_refl _) _;have bk:=jd w #[.int .u64 lo,.int .u64 a,.int .u64 hi,.bool more,.int .i64 tn] 301
 go_upto_region 1 with fail
 generalize w.alloc (.cells #[.int .u64 lo,.int .u64 a,.int .u64 hi,.bool more,.int .i64 tn] 301)=w1 at *;have r0:=bk.cell 0 _ rfl;have r1:=bk.cell 1 _ rfl;have r2:=bk.cell 2 _ rfl;have r3:=bk.cell 3 _ rfl;have r4:=bk.cell 4 _ rfl;have BK:=jb bk;have B0:=jb b0;clear bk b0;go_wp2
 go_loopw [3] (fun v wr=>∃(u:Nat) (UI:Int),v=.int .u64 UI/\Hid (UI=((10 ^ u:Nat):Int))/\1<=u/\10<=UI/\UI<=(a:Int)/\wr=w1) (fun v _=>a - (intOf v).toNat)
 case atStart=>exact⟨1,10,rfl,jb rfl,Nat.le_refl _,by omega,by omega,by trivial⟩
 case round=>
  obtain⟨u,UI,rfl,hUI,hu,hU1,hU2,rfl⟩:=hrel;obtain⟨Q,hQ⟩:∃Q:Int,Q=(a:Int) / UI:=⟨_,rfl⟩
  have wr1:IntKind.u64.wrap ((a:Int) / UI)=Q:=by
   rw [<-hQ];have q0:0<=Q:=by rw [hQ];exact Int.ediv_nonneg (by omega) (by omega)
   have q1:Q<=a:=by rw [hQ];exact Int.ediv_le_self _ (by omega)
   simp [IntKind.wrap,IntKind.bits,IntKind.signed];omega
  have n0:UI≠0:=by omega
  by_cases c1:10<=Q
  ·have hm:UI*10<=a:=by
    rw [hQ] at c1;have:=(Int.le_ediv_iff_mul_le (by omega:0<UI)).1 c1;omega
   have wr2:IntKind.u64.wrap (UI*10)=UI*10:=by
    simp [IntKind.wrap,IntKind.bits,IntKind.signed];omega
   have HM:Hid (UI*10=((10 ^ (u+1):Nat):Int)):=jb (by rw [ja hUI,Nat.pow_succ];omega);have HB:=jb hm;clear hQ hm;go_wp2;go_roundw
   case rel=>exact⟨u+1,UI*10,by first | rfl | trivial,HM,by omega,by omega,ja HB,by trivial⟩
   case measure=>have:=ja HB;simp only [intOf];omega
  ·have HTOP:Hid (∀i,c+u<i->¬10 ^ i<=fX r):=jb (fun i k=>ja HT u i (by
    have e:((a / 10 ^ u:Nat):Int)=Q:=by rw [hQ,ja hUI];exact Int.natCast_ediv _ _
    omega) k)
   have HU2:Hid (10 ^ u<=a):=jb (by have:=ja hUI;omega);clear hQ;obtain⟨x,ok,hx,hp,hn,K⟩:=ja KN wr u UI (ja hUI) hu (ja HU2);have HP:=jb (And.intro hp hn);clear hp hn
   go_wp2_with fail
   refine K.mono ?_
   rintro e w2 ⟨rfl,b2⟩
   have bw2:=jb ((ja B0).trans (b2.mono (ja B0).size));have BK2:=jb ((ja BK).below b2);clear K b2 r0 r1 r2 r3 r4 wr1
   go_wp2_with fail
   go_loopw [3,4,5] (fun v vx vo wr=>∃(u:Nat) (UI:Int) (x:Nat) (ok:Bool),v=.int .u64 UI/\vx=.int .u64 x/\vo=.bool ok/\Hid (UI=((10 ^ u:Nat):Int))/\1<=u/\10<=UI/\UI<=(a:Int)/\x<18446744073709551616/\Hid ((ok=true->Jm r (c+u) (x*10 ^ c))/\(ok=false->¬Good r (c+u)))/\Hid (∀i,c+u<i->10 ^ i<=fX r->¬Good r i)/\Hid (Below w.heap.size w wr)/\Hid (Blk wr w.heap.size #[.int .u64 lo,.int .u64 a,.int .u64 hi,.bool more,.int .i64 tn] 301)) (fun v _ _ _=>(intOf v).toNat)
   case atStart=>exact⟨u,UI,x,ok,rfl,rfl,rfl,hUI,hu,hU1,hU2,hx,HP,jb (fun i k h=>absurd h (ja HTOP i k)),bw2,BK2⟩
   case round=>
    clear HP HTOP HU2 bw2 BK2 hUI hu hU1 hU2 hx n0 c1;obtain⟨u,UI,x,ok,rfl,rfl,rfl,hUI,hu,hU1,hU2,hx,HP,HN,hB,hK⟩:=hrel;have HU2:Hid (10 ^ u<=a):=jb (by have:=ja hUI;omega);cases ok with
    | true=>
     have HBEST:Hid (∃j,Qf r j (x*10 ^ c)):=jb ⟨c+u,ja HL u (ja HU2),(ja HP).1 rfl,ja HN⟩;clear HP HN
     go_wp2_with fail
     go_ret;exact⟨⟨x,rfl,hx,ja HBEST⟩,ja hB⟩
    | false=>
     by_cases c2:10<UI
     ·obtain⟨v,hv⟩:∃v,u=v+1:=⟨u - 1,by omega⟩
      have HD:Hid (UI / 10=((10 ^ v:Nat):Int)):=jb (by have:=ja hUI;rw [hv,Nat.pow_succ] at this;omega)
      have hv1:1<=v:=by
       rcases Nat.eq_zero_or_pos v with e | e
       ·exfalso
        have:=ja HD;rw [e] at this;have:=ja hUI;rw [hv,e] at this;omega
       ·exact e
      have HNEW:Hid (∀i,c+v<i->10 ^ i<=fX r->¬Good r i):=jb (fun i k h=>by
       rcases Nat.lt_or_ge (c+u) i with g | g
       ·exact ja HN i g h
       ·have e:i=c+u:=by omega
        rw [e];exact(ja HP).2 rfl)
      have d1:10<=UI / 10:=by
       have:=ja HD;obtain⟨z,rfl⟩:∃z,v=z+1:=⟨v - 1,by omega⟩
       have:=jD z;rw [Nat.pow_succ] at *;omega
      have d2:UI / 10<=(a:Int):=by omega
      have HV2:Hid (10 ^ v<=a):=jb (by have:=ja HD;omega);obtain⟨x2,ok2,hx2,hp,hn,K⟩:=ja KN wr v (UI / 10) (ja HD) hv1 (ja HV2);have HP2:=jb (And.intro hp hn);have HMEAS:Hid ((UI / 10).toNat<UI.toNat):=jb (by omega);generalize hVI:UI / 10=VI at *;have r0:=(ja hK).cell 0 _ rfl;have r1:=(ja hK).cell 1 _ rfl;have r2:=(ja hK).cell 2 _ rfl;have r3:=(ja hK).cell 3 _ rfl;have r4:=(ja hK).cell 4 _ rfl;clear hp hn HP HN hv
      go_wp2_with fail
      refine K.mono ?_
      rintro e w3 ⟨rfl,b3⟩
      have bw3:=jb ((ja hB).trans (b3.mono (ja hB).size));have BK3:=jb ((ja hK).below b3);clear K b3 r0 r1 r2 r3 r4 hB hK
      go_wp2_with fail
      go_roundw
      case rel=>exact⟨v,VI,x2,ok2,by first | rfl | trivial,by first | rfl | trivial,by first | rfl | trivial,HD,hv1,d1,d2,hx2,HP2,HNEW,bw3,BK3⟩
      case measure=>exact ja HMEAS
     ·exfalso
      have e:u=1:=by
       rcases Nat.lt_or_ge 1 u with g | g
       ·exfalso
        obtain⟨z,rfl⟩:∃z,u=z+2:=⟨u - 2,by omega⟩
        have:=ja hUI;have p:=jD z;rw [Nat.pow_succ,Nat.pow_succ] at this;omega
       ·omega
      rw [e] at HP;exact(ja HP).2 rfl (ja HG)
open Go.RowKit
theorem jgh (N:Nat)(x:Int)(h:x+1080=N)(hN:6<=N):x*1262611 / 4194304+1080=(Qa N:Int):=by
 unfold Qa;omega
theorem jju (r:Nat)(h:0<r):∃bel:Nat,((jM r=4503599627370496/\0<r / 4503599627370496 - 1/\bel=1)\/(¬(jM r=4503599627370496/\0<r / 4503599627370496 - 1)/\bel=2))/\fL r=(4*jM r - bel)*step r*wF:=by
 obtain⟨s,rfl⟩:∃s,r=s+1:=⟨r - 1,by omega⟩
 have e:=zw s;have e2:=Jz s;have hm:0<jM (s+1):=by unfold jM;split<;>omega
 by_cases c:jM (s+1)=4503599627370496/\0<(s+1) / 4503599627370496 - 1
 ·refine⟨1,.inl ⟨c.1,c.2,rfl⟩,?_⟩
  have hd:step (s+1)=2*step s:=by
   have h1:(s+1) % 4503599627370496=0:=by
    have:=c.1;unfold jM at this;split at this<;>omega
   have h2:(s+1) / 4503599627370496 - 1=(s / 4503599627370496 - 1)+1:=by omega
   unfold step;rw [h2,Nat.pow_succ,Nat.mul_comm]
  have e3:mid s=(4*jM (s+1) - 1)*step (s+1):=by
   have e':4*jM (s+1)*step (s+1)=JV s+4*step s:=e;rw [Nat.sub_mul,e2,e',hd];omega
  unfold fL;rw [Nat.add_sub_cancel,e3]
 ·refine⟨2,.inr ⟨c,rfl⟩,?_⟩
  have hd:step (s+1)=step s:=by
   have h2:(s+1) / 4503599627370496 - 1=s / 4503599627370496 - 1:=by
    unfold jM at c;split at c<;>omega
   unfold step;rw [h2]
  have e3:mid s=(4*jM (s+1) - 2)*step (s+1):=by
   have e':4*jM (s+1)*step (s+1)=JV s+4*step s:=e;rw [Nat.sub_mul,e2,e',hd];omega
  unfold fL;rw [Nat.add_sub_cancel,e3]
theorem jfy (m:Nat)(h:0<m):2 ^ (bits m - 1)<=m/\m<2 ^ (bits m - 1+1):=by
 induction m using Nat.strongRecOn with
 | _ m ih=>
  rw [zk (by omega)]
  rcases Nat.lt_or_ge m 2 with g | g
  ·have e:m=1:=by omega
   subst e;simp [zd]
  ·have k:=ih (m / 2) (by omega) (by omega)
   have b1:bits (m / 2)=bits (m / 2) - 1+1:=by rw [zk (by omega)];omega
   rw [Nat.add_sub_cancel];generalize bits (m / 2) - 1=z at *;rw [b1,Nat.pow_succ,Nat.pow_succ];rw [Nat.pow_succ] at k;omega
theorem jf6 {r:Nat}(h0:0<r)(hr:r<9218868437227405312){L c:Nat}(hL:L=Qa (bits (jM r) - 1+(r / 4503599627370496 - 1)+6))(hc:L=c+17) :
  100000000000000000<=fX r / 10 ^ c/\fX r / 10 ^ c<2000000000000000000/\fH r / 10 ^ c<4000000000000000000/\fL r / 10 ^ c<2000000000000000000:=by
 have hm:0<jM r:=by unfold jM;split<;>omega
 obtain⟨b1,b2⟩:=jfy (jM r) hm
 have hb:bits (jM r) - 1<=52:=by
  have:=J0 (k:=53) (QC r);omega
 obtain⟨k1,k2⟩:=jic (r:=r) (E:=r / 4503599627370496 - 1) (b:=bits (jM r) - 1) rfl b1 b2 (by omega) hb;rw [<-hL,hc] at k1 k2;rw [Nat.pow_add] at k1;rw [show c+17+1=c+18 by omega,Nat.pow_add] at k2;have p:=jD c
 have q1:fH r<=2*fX r:=by
  unfold fH fX;rw [Jz]
  have:2*step r<=JV r:=by
   unfold JV;exact Nat.mul_le_mul_right _ (by omega)
  rw [<-Nat.mul_assoc];exact Nat.mul_le_mul_right _ (by omega)
 have q2:=(Jg r h0).1;generalize (10:Nat) ^ c=P at *;refine⟨(Nat.le_div_iff_mul_le p).2 (by omega),(Nat.div_lt_iff_lt_mul p).2 (by omega),(Nat.div_lt_iff_lt_mul p).2 (by omega),(Nat.div_lt_iff_lt_mul p).2 (by omega)⟩
theorem jcy (r:Nat):jM r % 2=r % 2:=by unfold jM;split<;>omega
theorem jhU (w:World)(r m:Nat)(e:Int)(h0:0<r)(hr:r<9218868437227405312)(hm:m=jM r)(he:e=((r / 4503599627370496 - 1:Nat):Int) - 1074):∃(t:Int) (c lo a hi:Nat) (more:Bool),c=(t+1080).toNat/\-400<=t/\t<=400/\lo=Xs r c/\a=fX r / 10 ^ c/\hi=JJ r c/\more=(!decide (fX r % 10 ^ c=0))/\100000000000000000<=a/\a<9000000000000000000/\lo<18446744073709551616/\hi<18446744073709551616/\
  Calls Tryz.prog 272 #[.int .u64 m,.int .i64 e] w fun r w'=>r=.returned (.agg #[.int .u64 lo,.int .u64 a,.int .u64 hi,.bool more,.int .i64 t])/\Below w.heap.size w w':=by
 have m0:0<m:=by rw [hm];unfold jM;split<;>omega
 have m1:m<9007199254740992:=by rw [hm];exact QC r
 obtain⟨bel,hbel,hL⟩:=jju r h0;rw [<-hm] at hbel hL;have hb1:1<=bits m:=by rw [zk (by omega)];omega
 have hb2:bits m<=53:=J0 (k:=53) m1;have hE:r / 4503599627370496 - 1<=2045:=by omega
 have ls:=jgh (bits m - 1+(r / 4503599627370496 - 1)+6) ((bits m:Int) - 1+e) (by omega) (by omega);have hLg:700<=Qa (bits m - 1+(r / 4503599627370496 - 1)+6):=by unfold Qa;omega
 obtain⟨c,hc⟩:∃c,Qa (bits m - 1+(r / 4503599627370496 - 1)+6)=c+17:=⟨_ - 17,(Nat.sub_add_cancel (by omega)).symm⟩
 obtain⟨f1,f2,f3,f4⟩:=jf6 h0 hr (c:=c) rfl (by rw [<-hm];exact hc);obtain⟨t,ht⟩:∃t:Int,t=((bits m:Int) - 1+e)*1262611 / 4194304 - 17:=⟨_,rfl⟩
 have hct:c=(t+1080).toNat:=by omega
 have t1 : -400<=t:=by omega
 have t2:t<=400:=by omega
 have hEe:(e+1074).toNat=r / 4503599627370496 - 1:=by omega
 have hs:step r=2 ^ (e+1074).toNat:=by rw [hEe];rfl
 have hX:fX r=4*m*2 ^ (e+1074).toNat*wF:=by unfold fX JV;rw [hm,hs]
 have hH:fH r=(4*m+2)*2 ^ (e+1074).toNat*wF:=by unfold fH mid;rw [hm,hs]
 rw [hs] at hL;have hpar:m % 2=r % 2:=by rw [hm];exact jcy r
 have HC:=jdr w m (bits m) e t rfl ht m1 m0 (by omega) (by omega) bel (by omega) (fL r) (fX r) (fH r) c hL hX hH hct (by omega) (by omega) (by omega) (by have:=(Jg r h0).2;have:fX r / 10 ^ c<=fH r / 10 ^ c:=Nat.div_le_div_right (by omega);omega);rw [hpar] at HC;refine⟨t,c,Xs r c,fX r / 10 ^ c,JJ r c,_,hct,t1,t2,rfl,rfl,rfl,rfl,f1,by omega,?_,?_,HC⟩
 ·unfold Xs
  split<;>omega
 ·unfold JJ
  omega
end bigs
end Go.Proofs.YtnbfnjhbmeocfaaGreatDoor
