/- Of our texts, what this claim reaches. -/
import Derived.Test.YtnbfnjhbmeocfaaGreatDoorPstAN
import Derived.Deep.QuietTactic
import Derived.BigQuiet
set_option linter.unusedVariables false
set_option maxHeartbeats 4000000
set_option maxRecDepth 100000
namespace Go.Proofs.YtnbfnjhbmeocfaaGreatDoor
namespace bigs
open Go.RowKit
theorem jbe (n:Nat):(madeCells #[Value.int .i64 0] n).toList=(List.replicate n 0).map num:=by
 rw [toList_madeCells_one];simp [num]
theorem XZ (n:Nat):jH (List.replicate n 0):=by
 intro j hj;rw [List.length_replicate] at hj;simp [List.getD,hj]
theorem YZ (l:List Nat)(k d:Nat)(h:k<l.length):(l.set k d).take (k+1)=l.take k++[d]:=by
 rw [ZU _ _ (by simpa using h),List.take_set_of_le (by omega)];simp [List.getD,h]
theorem jaO {l:List Nat}{k d:Nat}(hs:jH l)(hd:d<10000):jH (l.set k d):=by
 intro j hj;rw [List.length_set] at hj
 by_cases e:k=j
 ·subst e
  simp [List.getD,hj,hd]
 ·rw [List.getD,List.getElem?_set_ne e]
  exact hs j hj
theorem jcR {l a b:List Nat}{k q d p:Nat}(hk:k<l.length)(h:val (l.take k)+val (b.take k)=val (a.take k)+10000 ^ k*q)(hd:d+b.getD k 0+q=a.getD k 0+10000*p) :
  val ((l.set k d).take (k+1))+val (b.take (k+1))=val (a.take (k+1))+10000 ^ (k+1)*p:=by
 rw [YZ l k d hk,zu,Zw,List.length_take,Nat.min_eq_left (by omega),qg,qg];generalize a.getD k 0=x at *;generalize b.getD k 0=y at *;have e:10000 ^ (k+1)*p=10000 ^ k*(10000*p):=by rw [Nat.pow_succ,Nat.mul_assoc]
 have e2:10000 ^ k*d+10000 ^ k*y+10000 ^ k*q=10000 ^ k*x+10000 ^ k*(10000*p):=by
  rw [<-Nat.mul_add,<-Nat.mul_add,<-Nat.mul_add,hd]
 omega
theorem zO {m n:Nat}(h:m<=n):(dig m).length<=(dig n).length:=jN (Nat.lt_of_le_of_lt h (Q1 n))
theorem jfw {l:List Nat}{m n q:Nat}(hnm:n<=m)(hl:l.length=(dig m).length)(hs:jH l)(h:val l+val ((dig n).take (dig m).length)=m+10000 ^ (dig m).length*q):val l=m - n:=by
 have h1:=jbk hs;rw [hl] at h1;rw [List.take_of_length_le (zO hnm),zl] at h;cases q with
 | zero=>omega
 | succ q=>
  have:10000 ^ (dig m).length*(q+1)=10000 ^ (dig m).length*q+10000 ^ (dig m).length:=by rw [Nat.mul_add,Nat.mul_one]
  omega
theorem jaM (w:World)(va vb:Value)(m n:Nat)(hm:(dig m).length<=1048576)(hnm:n<=m)(ha:Lies w va m)(hb:Lies w vb n) :
  Calls Tryz.prog 151 #[va,vb] w fun e w'=>∃v,e=.returned v/\Lies w' v (m - n)/\ja4 w.heap.size v/\Below w.heap.size w w':=by
 obtain⟨i0,hi,hz0,hz1,hz2⟩:=info_parts Zp;have hn:=Nat.le_trans (zO hnm) hm;obtain⟨aa,ca,rfl,hca,ra⟩:=ha;obtain⟨ab,cb,rfl,hcb,rb⟩:=hb;have sa:=qn m;have sb:=qn n
 have HE:Hid (∀l q,l.length=(dig m).length->jH l->val l+val ((dig n).take (dig m).length)=val ((dig m).take (dig m).length)+10000 ^ (dig m).length*q->val l=m - n):=fun l q h1 h2 h3=>by
  rw [List.take_length,zl] at h3;exact jfw hnm h1 h2 h3
 generalize dig m=A at *;generalize dig n=B at *
 go_enter Tryz.func151,Tryz.ntmps151
 go_wp2_with (at_make;refine wpList_make_full _ rfl _ _ 99 rfl w.heap.size 3 i0 (.int .i64 0) 1 Tryz.underlying99 hi hz0 hz1 _ _ _ _ A.length rfl rfl (by omega) (by omega) ?b2 ?b3 ?b4 ?_)
 case b2=>rw [hz2];omega
 case b3=>unfold maxLen;omega
 case b4=>exact Nat.le_refl _
 intro w1 hown1 hgrow1;rw [jbe] at hown1;have hbw1:Below w.heap.size w w1:=(Below.refl _ w).grown hgrow1 (Nat.le_refl _) (fun k h=>by cases h);clear hgrow1;go_wp2
 go_loopw [6,14] (fun c i wr=>∃(k q:Nat) (l:List Nat),i=.int .i64 k/\c=.int .i64 q/\k<=A.length/\q<=1/\l.length=A.length/\Hid (jH l)/\Hid (val (l.take k)+val (B.take k)=val (A.take k)+10000 ^ k*q)/\
  wr.ownsRow w.heap.size 3 1 (.slice (some ⟨w.heap.size,0,none⟩) A.length A.length) A.length (l.map num)/\Below w.heap.size w wr) (fun _ i _=>A.length - (intOf i).toNat)
 case atStart=>exact⟨0,0,List.replicate A.length 0,rfl,rfl,Nat.zero_le _,by omega,by simp,XZ _,by show _=_;simp [val],hown1,hbw1⟩
 case round=>
  obtain⟨k,q,l,rfl,rfl,hk,hq,hll,hsm,hval,hown,hbw⟩:=hrel
  by_cases hlt:k<A.length
  ·obtain⟨b,o,rfl,hba,hca'⟩:=ra (by intro e;rw [e] at hlt;simp at hlt)
   have c1:wr.cell? ⟨b,o+k,none⟩=some (.int .i64 ((A.getD k 0:Nat):Int)):=by rw [hbw.cell (p:=⟨b,o+k,none⟩) hba];exact hca' k hlt
   have c2:wr.cell? ⟨w.heap.size,k,none⟩=some (.int .i64 ((l.getD k 0:Nat):Int)):=by
    rw [hown.cellAt k (by omega)];simp [num,List.getD,hll,hlt]
   have f2:=hown.frozenAt k;have xa:=qD sa k;have xb:=qD sb k;have C2:∀n,Hid _:=fun n=>jb (ZF (wr.drewN n) ab B cb k (by omega) (rb.below (below_drewN hbw n)))
   have HR:Hid (∀d p,d+B.getD k 0+q=A.getD k 0+10000*p->val ((l.set k d).take (k+1))+val (B.take (k+1))=val (A.take (k+1))+10000 ^ (k+1)*p):=fun d p h=>jcR (by omega) hval.out h
   have HS:Hid (∀d,d<10000->jH (l.set k d)):=fun d h=>jaO hsm.out h
   have i1:(k:Int)<(A.length:Int):=by omega
   clear hca' hval hsm;generalize A.getD k 0=x at *;generalize B.getD k 0=y at *
   by_cases hxy:y+q<=x
   ·have t1:decide (((x:Int) - y - q)<0)=false:=decide_eq_false (by omega)
    go_wp2_with fail
    go_quiet ((go_at_call 107;exact Calls.quiet_of_same (ja (C2 _))))
    go_wp2;go_roundw
    case rel=>
     have ed:((x:Int) - y - q:Int)=((x - y - q:Nat):Int):=by omega
     have hown2:(wr.drewN nq).ownsRow w.heap.size 3 1 (.slice (some ⟨w.heap.size,0,none⟩) A.length A.length) A.length (l.map num):=hown;have hst:=hown2.stored k (num (x - y - q));refine⟨k+1,0,l.set k (x - y - q),by go_num,rfl,by omega,by omega,by simp [hll],HS.out _ (by omega),HR.out _ _ (by omega),?_,?_⟩
     ·rw [ed,List.map_set]
      exact hst.1
     ·exact(below_drewN hbw nq).setCell (Nat.le_refl _) _
    case measure=>simp only [intOf];omega
   ·have t1:decide (((x:Int) - y - q)<0)=true:=decide_eq_true (by omega)
    go_wp2_with fail
    go_quiet ((go_at_call 107;exact Calls.quiet_of_same (ja (C2 _))))
    go_wp2;go_roundw
    case rel=>
     have ed:((x:Int) - y - q+10000:Int)=((x+10000 - y - q:Nat):Int):=by omega
     have hown2:(wr.drewN nq).ownsRow w.heap.size 3 1 (.slice (some ⟨w.heap.size,0,none⟩) A.length A.length) A.length (l.map num):=hown;have hst:=hown2.stored k (num (x+10000 - y - q));refine⟨k+1,1,l.set k (x+10000 - y - q),by go_num,rfl,by omega,by omega,by simp [hll],HS.out _ (by omega),HR.out _ _ (by omega),?_,?_⟩
     ·rw [ed,List.map_set]
      exact hst.1
     ·exact(below_drewN hbw nq).setCell (Nat.le_refl _) _
    case measure=>simp only [intOf];omega
  ·have hkl:k=A.length:=by omega
   have e:val l=m - n:=HE.out l q hll hsm.out (by have h:=hval.out;rw [hkl,List.take_of_length_le (by omega:l.length<=A.length)] at h;exact h);have hfr:=jb (JU hown);obtain⟨g,cap,hv,hc,hr⟩:=Zt (l:=l) (w:=wr) (base:=w.heap.size) (v:=.slice (some ⟨w.heap.size,0,none⟩) A.length A.length) (by rw [hll];exact hown);have C1:=jb (XB wr g l cap (by omega) hc hr hsm.out);rw [<-hv,e] at C1;clear hval hown hr hsm e hv hc
   go_wp2_with fail
   refine(ja C1).mono ?_
   rintro e w2 ⟨v,rfl,hL,hob,rfl⟩
   have HO:=jb hob;clear hob;go_wp2;go_ret;exact⟨_,rfl,hL,fun g hg=>ja hfr g (by rw [<-ja HO];exact hg),hbw⟩
open Go.RowKit
theorem ji1 (l:List Nat)(d:Nat):∀j,j<l.length->val (l.set j d)+10000 ^ j*l.getD j 0=val l+10000 ^ j*d:=by
 induction l with
 | nil=>intro j h;simp at h
 | cons x l ih=>
  intro j h;cases j with
  | zero=>simp [val];omega
  | succ j=>
   have:=ih j (by simpa using h);simp only [List.set_cons_succ,val,List.getD_cons_succ,Nat.pow_succ];have e1:10000 ^ j*10000*l.getD j 0=10000*(10000 ^ j*l.getD j 0):=by rw [Nat.mul_comm (10000 ^ j),Nat.mul_assoc]
   have e2:10000 ^ j*10000*d=10000*(10000 ^ j*d):=by rw [Nat.mul_comm (10000 ^ j),Nat.mul_assoc]
   omega
def qf (l:List Nat)(k:Nat):Prop:=∀j,k<=j->l.getD j 0=0
theorem J2 {l:List Nat}{k j d:Nat}(h:qf l k)(hj:j<k):qf (l.set j d) k:=by
 intro i hi;rw [List.getD,List.getElem?_set_ne (by omega)];exact h i hi
theorem zH {l:List Nat}{k d:Nat}(h:qf l k):qf (l.set k d) (k+1):=by
 intro i hi;rw [List.getD,List.getElem?_set_ne (by omega)];exact h i (by omega)
theorem zC (n:Nat):qf (List.replicate n 0) 0:=by
 intro j _
 by_cases h:j<n
 ·simp [List.getD,h]
 ·rw [List.getD,List.getElem?_eq_none (by simp;omega)];rfl
theorem jhK (n:Nat):val (List.replicate n 0)=0:=by
 induction n with
 | zero=>rfl
 | succ n ih=>rw [List.replicate_succ,val,ih]
theorem jg9 {l b:List Nat}{i k q a X:Nat}(hj:i+k<l.length)(h:val l+10000 ^ (i+k)*q=X+10000 ^ i*a*val (b.take k)) :
  val (l.set (i+k) ((q+(l.getD (i+k) 0+a*b.getD k 0)) % 10000))+10000 ^ (i+(k+1))*((q+(l.getD (i+k) 0+a*b.getD k 0)) / 10000)=X+10000 ^ i*a*val (b.take (k+1)):=by
 have h1:=ji1 l ((q+(l.getD (i+k) 0+a*b.getD k 0)) % 10000) (i+k) hj;rw [qg];generalize l.getD (i+k) 0=z at *;generalize b.getD k 0=y at *;have e1:10000 ^ (i+(k+1))*((q+(z+a*y)) / 10000)=10000 ^ (i+k)*(10000*((q+(z+a*y)) / 10000)):=by rw [<-Nat.add_assoc,Nat.pow_succ,Nat.mul_assoc]
 have e2:10000 ^ (i+k)*((q+(z+a*y)) % 10000)+10000 ^ (i+k)*(10000*((q+(z+a*y)) / 10000))=10000 ^ (i+k)*q+(10000 ^ (i+k)*z+10000 ^ (i+k)*(a*y)):=by
  rw [<-Nat.mul_add,Nat.mod_add_div,Nat.mul_add,Nat.mul_add]
 have e3:10000 ^ i*a*(val (b.take k)+10000 ^ k*y)=10000 ^ i*a*val (b.take k)+10000 ^ (i+k)*(a*y):=by
  rw [Nat.mul_add,Nat.pow_add,Nat.mul_assoc,Nat.mul_assoc,Nat.mul_assoc,Nat.mul_left_comm a]
 omega
theorem jio {l a b:List Nat}{i q:Nat}(h:val l=val (a.take i)*val b+10000 ^ i*a.getD i 0*val b):val l=val (a.take (i+1))*val b:=by
 rw [h,qg,Nat.add_mul]
theorem jbV (w:World)(va vb:Value)(m n:Nat)(hm:(dig m).length<=1048576)(hn:(dig n).length<=1048576)(ha:Lies w va m)(hb:Lies w vb n) :
  Calls Tryz.prog 104 #[va,vb] w fun e w'=>∃v,e=.returned v/\Lies w' v (m*n)/\ja4 w.heap.size v/\Below w.heap.size w w':=by
 obtain⟨i0,hi,hz0,hz1,hz2⟩:=info_parts Zp;obtain⟨aa,ca,rfl,hca,ra⟩:=ha;obtain⟨ab,cb,rfl,hcb,rb⟩:=hb;have sa:=qn m;have sb:=qn n;have HE:Hid (val ((dig m).take (dig m).length)*val (dig n)=m*n):=by show _=_;rw [List.take_length,zl,zl]
 generalize dig m=A at *;generalize dig n=B at *
 go_enter Tryz.func104,Tryz.ntmps104
 go_wp2_with (at_make;refine wpList_make_full _ rfl _ _ 99 rfl w.heap.size 3 i0 (.int .i64 0) 1 Tryz.underlying99 hi hz0 hz1 _ _ _ _ (A.length+B.length+1) rfl rfl (by omega) (by omega) ?b2 ?b3 ?b4 ?_)
 case b2=>rw [hz2];omega
 case b3=>unfold maxLen;omega
 case b4=>exact Nat.le_refl _
 intro w1 hown1 hgrow1;rw [jbe] at hown1;have hbw1:Below w.heap.size w w1:=(Below.refl _ w).grown hgrow1 (Nat.le_refl _) (fun k h=>by cases h);clear hgrow1;go_wp2
 go_loopw [18] (fun i wr=>∃(k:Nat) (l:List Nat),i=.int .i64 k/\k<=A.length/\l.length=A.length+B.length+1/\Hid (jH l)/\Hid (qf l (k+B.length))/\Hid (val l=val (A.take k)*val B)/\
  wr.ownsRow w.heap.size 3 1 (.slice (some ⟨w.heap.size,0,none⟩) (A.length+B.length+1) (A.length+B.length+1)) (A.length+B.length+1) (l.map num)/\Below w.heap.size w wr) (fun i _=>A.length - (intOf i).toNat)
 case atStart=>exact⟨0,List.replicate (A.length+B.length+1) 0,rfl,Nat.zero_le _,by simp,XZ _,fun j _=>zC _ j (Nat.zero_le _),by show _=_;rw [jhK];simp [val],hown1,hbw1⟩
 case round=>
  obtain⟨i,l,rfl,hiA,hll,hsm,hno,hval,hown,hbw⟩:=hrel
  by_cases hlt:i<A.length
  ·obtain⟨b,o,rfl,hba,hca'⟩:=ra (by intro e;rw [e] at hlt;simp at hlt)
   have hca2:=hca' i hlt;have xa:=qD sa i;have HN:Hid (∀l:List Nat,val l=val (A.take i)*val B+10000 ^ i*A.getD i 0*val B->val l=val (A.take (i+1))*val B):=fun l h=>jio (q:=0) h
   clear hca' hown1 hbw1;generalize hx:A.getD i 0=x at *;have HX:=jb hx;clear hx;generalize hXX:val (A.take i)*val B=X at *;have HXX:=jb hXX;clear hXX
   go_wp2_with fail
   go_loopw [7,8] (fun c kk wr=>∃(k q:Nat) (l:List Nat),kk=.int .i64 k/\c=.int .i64 q/\q<10000/\k<=B.length+1/\(k<=B.length\/q=0)/\l.length=A.length+B.length+1/\Hid (jH l)/\
    Hid (if k<=B.length then qf l (i+B.length) else qf l (i+B.length+1))/\Hid (val l+10000 ^ (i+k)*q=X+10000 ^ i*x*val (B.take k))/\
    wr.ownsRow w.heap.size 3 1 (.slice (some ⟨w.heap.size,0,none⟩) (A.length+B.length+1) (A.length+B.length+1)) (A.length+B.length+1) (l.map num)/\Below w.heap.size w wr) (fun _ kk _=>B.length+1 - (intOf kk).toNat)
   case atStart=>exact⟨0,0,l,rfl,rfl,by omega,by omega,by omega,hll,hsm,by show ite _ _ _;rw [if_pos (Nat.zero_le _)];exact hno.out,by show _=_;rw [hval.out];simp [val],hown,hbw⟩
   case round=>
    clear hown hbw hsm hno hval hll;obtain⟨k,q,l,rfl,rfl,hq,hkB,hkq,hll,hsm,hno,hval,hown,hbw⟩:=hrel
    by_cases hgo:k<B.length\/0<q
    ·have xb:=qD sb k
     have eb:B.length<=k->B.getD k 0=0:=fun h=>by rw [List.getD,List.getElem?_eq_none h];rfl
     have hkB2:k<=B.length:=by omega
     have hno2:qf l (i+B.length):=by have h:=hno.out;rwa [if_pos hkB2] at h
     have xz:=qD hsm.out (i+k);have ez:B.length<=k->l.getD (i+k) 0=0:=fun h=>hno2 (i+k) (by omega)
     have c1:wr.cell? ⟨b,o+i,none⟩=some (.int .i64 ((x:Nat):Int)):=by rw [hbw.cell (p:=⟨b,o+i,none⟩) hba];exact hca2
     have c2:wr.cell? ⟨w.heap.size,i+k,none⟩=some (.int .i64 ((l.getD (i+k) 0:Nat):Int)):=by
      rw [hown.cellAt (i+k) (by omega)];simp [num,List.getD,show i+k<l.length by omega]
     have f2:=hown.frozenAt (i+k);have C2:∀n,Hid _:=fun n=>jb (ZF (wr.drewN n) ab B cb k (by omega) (rb.below (below_drewN hbw n)))
     have hval2:Hid (val (l.set (i+k) ((q+(l.getD (i+k) 0+x*B.getD k 0)) % 10000))+10000 ^ (i+(k+1))*((q+(l.getD (i+k) 0+x*B.getD k 0)) / 10000)=X+10000 ^ i*x*val (B.take (k+1))):=jg9 (by omega) hval.out;have hsm2:Hid (∀d,d<10000->jH (l.set (i+k) d)):=fun d h=>jaO hsm.out h
     have hno3:Hid (∀d,if k+1<=B.length then qf (l.set (i+k) d) (i+B.length) else qf (l.set (i+k) d) (i+B.length+1)):=fun d=>by
      by_cases h:k+1<=B.length
      ·rw [if_pos h];exact J2 hno2 (by omega)
      ·rw [if_neg h]
       have e:k=B.length:=by omega
       rw [e];exact zH hno2
     have i1:(i:Int)<(A.length:Int):=by omega
     have i2:(i:Int)+(k:Int)<((A.length+B.length+1:Nat):Int):=by omega
     generalize B.getD k 0=y at *;generalize l.getD (i+k) 0=z at *;have hp:x*y<=9999*9999:=Nat.mul_le_mul (by omega) (by omega);have hp0:B.length<=k->x*y=0:=fun h=>by rw [eb h];rfl
     have hpi:(x:Int)*(y:Int)=((x*y:Nat):Int):=by rw [Int.natCast_mul]
     generalize x*y=p at *;clear hno hno2 hval hsm hca2;have hgo':k<B.length\/(¬k<B.length/\0<q):=by omega
     clear hgo
     have hk2:k+1<=B.length\/(q+(z+p)) / 10000=0:=by
      by_cases h:k+1<=B.length
      ·exact .inl h
      ·have:=ez (by omega)
       have:=hp0 (by omega)
       right;omega
     clear eb ez hp0
     rcases hgo' with h1 | ⟨h1,h2⟩
     ·go_wp2_with fail
      go_quiet ((go_at_call 107;exact Calls.quiet_of_same (ja (C2 _))))
      go_wp2;go_roundw
      case rel=>
       have ed:(((q:Int)+((z:Int)+(p:Int))) % 10000)=(((q+(z+p)) % 10000:Nat):Int):=by omega
       have hown2:(wr.drewN nq).ownsRow w.heap.size 3 1 (.slice (some ⟨w.heap.size,0,none⟩) (A.length+B.length+1) (A.length+B.length+1)) (A.length+B.length+1) (l.map num):=hown;have hst:=hown2.stored (i+k) (num ((q+(z+p)) % 10000));refine⟨k+1,(q+(z+p)) / 10000,l.set (i+k) ((q+(z+p)) % 10000),by go_num,by congr 1,by omega,by omega,hk2,by simp [hll],hsm2.out _ (by omega),hno3.out _,hval2,?_,?_⟩
       ·rw [ed,List.map_set]
        exact hst.1
       ·exact(below_drewN hbw nq).setCell (Nat.le_refl _) _
      case measure=>simp only [intOf];omega
     ·have h3:¬((k:Int)<(B.length:Int)):=by omega
      go_wp2_with fail
      go_quiet ((go_at_call 107;exact Calls.quiet_of_same (ja (C2 _))))
      go_wp2;go_roundw
      case rel=>
       have ed:(((q:Int)+((z:Int)+(p:Int))) % 10000)=(((q+(z+p)) % 10000:Nat):Int):=by omega
       have hown2:(wr.drewN nq).ownsRow w.heap.size 3 1 (.slice (some ⟨w.heap.size,0,none⟩) (A.length+B.length+1) (A.length+B.length+1)) (A.length+B.length+1) (l.map num):=hown;have hst:=hown2.stored (i+k) (num ((q+(z+p)) % 10000));refine⟨k+1,(q+(z+p)) / 10000,l.set (i+k) ((q+(z+p)) % 10000),by go_num,by congr 1,by omega,by omega,hk2,by simp [hll],hsm2.out _ (by omega),hno3.out _,hval2,?_,?_⟩
       ·rw [ed,List.map_set]
        exact hst.1
       ·exact(below_drewN hbw nq).setCell (Nat.le_refl _) _
      case measure=>simp only [intOf];omega
    ·have q0:q=0:=by omega
     have hkB3:B.length<=k:=by omega
     subst q0
     have hval2:Hid (val l=val (A.take (i+1))*val B):=by
      refine HN.out l ?_
      have h:=hval.out;rw [List.take_of_length_le hkB3] at h;omega
     have hno2:Hid (qf l (i+1+B.length)):=fun j hj=>by
      have h:=hno.out
      by_cases e:k<=B.length
      ·rw [if_pos e] at h;exact h j (by omega)
      ·rw [if_neg e] at h;exact h j (by omega)
     clear hval hno hca2;go_wp2;go_roundw
     case rel=>exact⟨i+1,l,by go_num,by omega,hll,hsm,hno2,hval2,hown,hbw⟩
     case measure=>simp only [intOf];omega
  ·have hkl:i=A.length:=by omega
   have e:val l=m*n:=by rw [hval.out,hkl];exact HE.out
   have hfr:=jb (JU hown);obtain⟨g,cap,hv,hc,hr⟩:=Zt (l:=l) (w:=wr) (base:=w.heap.size) (v:=.slice (some ⟨w.heap.size,0,none⟩) (A.length+B.length+1) (A.length+B.length+1)) (by rw [hll];exact hown);have C1:=jb (XB wr g l cap (by omega) hc hr hsm.out);rw [<-hv,e] at C1;clear hval hown hr hsm e hv hc hno
   go_wp2_with fail
   refine(ja C1).mono ?_
   rintro e w2 ⟨v,rfl,hL,hob,rfl⟩
   have HO:=jb hob;clear hob;go_wp2;go_ret;exact⟨_,rfl,hL,fun g hg=>ja hfr g (by rw [<-ja HO];exact hg),hbw⟩
open Go.RowKit
theorem jfs {w:World}{base e n:Nat}{v:Value}{xs:List Value}(h:w.ownsRow base e 1 v n xs):∃b c,v=.slice b n c:=by
 rcases h.2 with ⟨rfl,rfl⟩ | ⟨g,cap,cur,rfl,_⟩
 ·exact⟨_,_,rfl⟩
 ·exact⟨_,_,rfl⟩
theorem jgb {w w':World}{base e n:Nat}{v:Value}{xs:List Value}(h:w.ownsRow base e 1 v n xs)(hb:Below w.heap.size w w'):w'.ownsRow base e 1 v n xs:=by
 refine⟨h.1,?_⟩
 rcases h.2 with hn | ⟨g,cap,cur,e,h1,hg,rest⟩
 ·exact .inl hn
 ·refine .inr ⟨g,cap,cur,e,h1,?_,rest⟩
  rw [hb.block g (Array.getElem?_eq_some_iff.1 hg).1];exact hg
end bigs
end Go.Proofs.YtnbfnjhbmeocfaaGreatDoor
