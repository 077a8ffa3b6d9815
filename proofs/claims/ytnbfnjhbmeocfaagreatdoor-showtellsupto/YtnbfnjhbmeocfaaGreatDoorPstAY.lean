/- Of our texts, what this claim reaches. -/
import Derived.Test.YtnbfnjhbmeocfaaGreatDoorPstAX
import Derived.Laws.CopyOwn
import Derived.Laws.BitsLemmas
import Derived.Test.YtnbfnjhbmeocfaaGreatDoorPstAV
set_option linter.unusedVariables false
set_option maxHeartbeats 8000000
set_option maxRecDepth 100000
namespace Go.Proofs.YtnbfnjhbmeocfaaGreatDoor
namespace bigs
open Go.RowKit
theorem jgK {l b:List Nat}{i k q a X:Nat}(hj:i+k<l.length)(h:jc l+4294967296 ^ (i+k)*q=X+4294967296 ^ i*a*jc (b.take k)) :
  jc (l.set (i+k) ((q+(a*b.getD k 0+l.getD (i+k) 0)) % 4294967296))+4294967296 ^ (i+(k+1))*((q+(a*b.getD k 0+l.getD (i+k) 0)) / 4294967296)=X+4294967296 ^ i*a*jc (b.take (k+1)):=by
 have h1:=zV l ((q+(a*b.getD k 0+l.getD (i+k) 0)) % 4294967296) (i+k) hj;rw [jK];generalize l.getD (i+k) 0=z at *;generalize b.getD k 0=y at *;have e1:4294967296 ^ (i+(k+1))*((q+(a*y+z)) / 4294967296)=4294967296 ^ (i+k)*(4294967296*((q+(a*y+z)) / 4294967296)):=by rw [<-Nat.add_assoc,Nat.pow_succ,Nat.mul_assoc]
 have e2:4294967296 ^ (i+k)*((q+(a*y+z)) % 4294967296)+4294967296 ^ (i+k)*(4294967296*((q+(a*y+z)) / 4294967296))=4294967296 ^ (i+k)*q+(4294967296 ^ (i+k)*(a*y)+4294967296 ^ (i+k)*z):=by
  rw [<-Nat.mul_add,Nat.mod_add_div,Nat.mul_add,Nat.mul_add]
 have e3:4294967296 ^ i*a*(jc (b.take k)+4294967296 ^ k*y)=4294967296 ^ i*a*jc (b.take k)+4294967296 ^ (i+k)*(a*y):=by
  rw [Nat.mul_add,Nat.pow_add,Nat.mul_assoc,Nat.mul_assoc,Nat.mul_assoc,Nat.mul_left_comm a]
 omega
theorem jhv {l a b:List Nat}{i:Nat}(h:jc l=jc (a.take i)*jc b+4294967296 ^ i*a.getD i 0*jc b):jc l=jc (a.take (i+1))*jc b:=by
 rw [h,jK,Nat.add_mul]
theorem jbT (w:World)(v u:Value)(l k:List Nat)(hv:WSl w v l)(hu:WSl w u k)(sl:je l)(sk:je k)(ll:l.length<=400000)(lk:k.length<=400000) :
  Calls Tryz.prog 166 #[v,u] w fun e w'=>∃v',e=.returned v'/\WBig w' v' (jc l*jc k)/\Below w.heap.size w w':=by
 obtain⟨i0,hi,hz0,hz1,hz2⟩:=info_parts jbZ;obtain⟨aa,ca,rfl,hca,ra⟩:=hv;obtain⟨ab,cb,rfl,hcb,rb⟩:=hu;have K1:=jb (j5 w aa l ca (by omega) hca ra sl);have K2:=jb (j5 w ab k cb (by omega) hcb rb sk);have rA:=ra.cut sl;have rB:=rb.cut sk;have lA:(jh (jc l)).length<=400000:=Nat.le_trans (jp sl) ll;have lB:(jh (jc k)).length<=400000:=Nat.le_trans (jp sk) lk;have sA:=jn (jc l);have sB:=jn (jc k);have HE:Hid (jc ((jh (jc l)).take (jh (jc l)).length)*jc (jh (jc k))=jc l*jc k):=by show _=_;rw [List.take_length,ju,ju]
 clear ra rb sl sk;generalize jh (jc l)=A at *;generalize jh (jc k)=B at *;generalize jc l*jc k=S at *
 go_enter Tryz.func166,Tryz.ntmps166
 go_wp2_with fail
 refine(ja K1).mono ?_
 rintro e w1 ⟨rfl,rfl⟩
 go_wp2_with fail
 refine(ja K2).mono ?_
 rintro e w1 ⟨rfl,rfl⟩
 clear K1 K2
 go_wp2_with (at_make;refine wpList_make_full _ rfl _ _ 168 rfl w1.heap.size 222 i0 (.int .u32 0) 1 Tryz.underlying168 hi hz0 hz1 _ _ _ _ (A.length+B.length) rfl rfl (by omega) (by omega) ?b2 ?b3 ?b4 ?_)
 case b2=>rw [hz2];omega
 case b3=>unfold maxLen;omega
 case b4=>exact Nat.le_refl _
 intro w2 hown2 hgrow2;have hb2:Below w1.heap.size w1 w2:=(Below.refl _ w1).grown hgrow2 (Nat.le_refl _) (fun k h=>by cases h);have own2:Own w2 w1.heap.size (A.length+B.length) (List.replicate (A.length+B.length) 0):=Zl hown2;clear hgrow2 hown2
 go_wp2_with fail
 go_loopw [23] (fun i wr=>∃(k:Nat) (L:List Nat),i=.int .i64 k/\k<=A.length/\L.length=A.length+B.length/\Hid (je L)/\Hid (qf L (k+B.length))/\Hid (jc L=jc (A.take k)*jc B)/\
  Own wr w1.heap.size (A.length+B.length) L/\Below w1.heap.size w1 wr) (fun i _=>A.length - (intOf i).toNat)
 case atStart=>exact⟨0,List.replicate (A.length+B.length) 0,rfl,Nat.zero_le _,by simp,J3 _,fun j _=>zC _ j (Nat.zero_le _),by show _=_;rw [ZS];simp [jc],own2,hb2⟩
 case round=>
  clear own2 hb2;obtain⟨i,L,rfl,hiA,hll,hsm,hno,hval,hown,hbw⟩:=hrel
  by_cases hlt:i<A.length
  ·obtain⟨b,o,rfl,hba,hca'⟩:=rA (by intro e;rw [e] at hlt;simp at hlt)
   have hca2:=hca' i hlt;have xa:=jG sA i;have HN:Hid (∀l:List Nat,jc l=jc (A.take i)*jc B+4294967296 ^ i*A.getD i 0*jc B->jc l=jc (A.take (i+1))*jc B):=fun l h=>jhv h
   have c1:wr.cell? ⟨b,o+i,none⟩=some (.int .u32 ((A.getD i 0:Nat):Int)):=by rw [hbw.cell (p:=⟨b,o+i,none⟩) hba];exact hca2
   have i1:(i:Int)<(A.length:Int):=by omega
   clear hca' hca2;generalize hx:A.getD i 0=x at *;have HX:=jb hx;clear hx;generalize hXX:jc (A.take i)*jc B=X at *;have HXX:=jb hXX;clear hXX
   go_wp2_with fail
   go_loopw [8,30] (fun cc kk wr=>∃(k q:Nat) (L:List Nat),kk=.int .i64 k/\cc=.int .u64 q/\q<4294967296/\k<=B.length/\L.length=A.length+B.length/\Hid (je L)/\
    Hid (qf L (i+B.length))/\Hid (jc L+4294967296 ^ (i+k)*q=X+4294967296 ^ i*x*jc (B.take k))/\
    Own wr w1.heap.size (A.length+B.length) L/\Below w1.heap.size w1 wr) (fun _ kk _=>B.length - (intOf kk).toNat)
   case atStart=>exact⟨0,0,L,rfl,rfl,by omega,by omega,hll,hsm,hno,by show _=_;rw [hval.out];simp [jc],hown,hbw⟩
   case round=>
    clear hown hbw hsm hno hval hll c1;obtain⟨k,q,L,rfl,rfl,hq,hkB,hll,hsm,hno,hval,hown,hbw⟩:=hrel
    by_cases hgo:k<B.length
    ·obtain⟨b2,o2,rfl,hbb,hcb'⟩:=rB (by intro e;rw [e] at hgo;simp at hgo)
     have xb:=jG sB k;have xz:=jG hsm.out (i+k);have c2:wr.cell? ⟨b2,o2+k,none⟩=some (.int .u32 ((B.getD k 0:Nat):Int)):=by rw [hbw.cell (p:=⟨b2,o2+k,none⟩) hbb];exact hcb' k hgo
     have c3:wr.cell? ⟨w1.heap.size,i+k,none⟩=some (.int .u32 ((L.getD (i+k) 0:Nat):Int)):=hown.cell (i+k) (by omega)
     have f3:=hown.froz (i+k);have hval2:Hid (jc (L.set (i+k) ((q+(x*B.getD k 0+L.getD (i+k) 0)) % 4294967296))+4294967296 ^ (i+(k+1))*((q+(x*B.getD k 0+L.getD (i+k) 0)) / 4294967296)=X+4294967296 ^ i*x*jc (B.take (k+1))):=jgK (by omega) hval.out;have hsm2:Hid (∀d,d<4294967296->je (L.set (i+k) d)):=fun d h=>zc hsm.out h
     have hno2:Hid (∀d,qf (L.set (i+k) d) (i+B.length)):=fun d=>J2 hno.out (by omega)
     have hset:Hid (∀d:Nat,Own (wr.setCell ⟨w1.heap.size,i+k,none⟩ (.int .u32 (d:Int))) w1.heap.size (A.length+B.length) (L.set (i+k) d)):=fun d=>hown.set (i+k) d
     have hbw2:Hid (∀u,Below w1.heap.size w1 (wr.setCell ⟨w1.heap.size,i+k,none⟩ u)):=fun u=>hbw.setCell (Nat.le_refl _) u
     have i2:(k:Int)<(B.length:Int):=by omega
     have i3:(i:Int)+(k:Int)<((A.length+B.length:Nat):Int):=by omega
     clear hcb' hval hsm hno hown hbw;generalize B.getD k 0=y at *;generalize L.getD (i+k) 0=z at *;have hp:x*y<=4294967295*4294967295:=Nat.mul_le_mul (by omega) (by omega);have hpi:(x:Int)*(y:Int)=((x*y:Nat):Int):=by rw [Int.natCast_mul]
     generalize x*y=p at *;go_wp2;go_roundw
     case rel=>
      have ed:(((q:Int)+((p:Int)+(z:Int))) % 4294967296)=(((q+(p+z)) % 4294967296:Nat):Int):=by omega
      refine⟨k+1,(q+(p+z)) / 4294967296,L.set (i+k) ((q+(p+z)) % 4294967296),by go_num,by go_num,by omega,by omega,by simp [hll],hsm2.out _ (by omega),hno2.out _,hval2,?_,hbw2.out _⟩;rw [ed];exact hset.out _
     case measure=>simp only [intOf];omega
    ·have hkB2:k=B.length:=by omega
     have hz:L.getD (i+B.length) 0=0:=hno.out _ (Nat.le_refl _)
     have c3:wr.cell? ⟨w1.heap.size,i+B.length,none⟩=some (.int .u32 0):=by
      rw [hown.cell (i+B.length) (by omega),hz];rfl
     have f3:=hown.froz (i+B.length)
     have hval2:Hid (jc (L.set (i+B.length) q)=jc (A.take (i+1))*jc B):=by
      refine HN.out _ ?_
      have h:=hval.out;have h2:=zV L q (i+B.length) (by omega);rw [hkB2,List.take_length] at h;rw [hz,Nat.mul_zero] at h2;omega
     have hsm2:Hid (je (L.set (i+B.length) q)):=zc hsm.out hq
     have hno2:Hid (qf (L.set (i+B.length) q) (i+1+B.length)):=by
      have h:=zH (d:=q) hno.out;rwa [show i+B.length+1=i+1+B.length by omega] at h
     have hset:Hid (Own (wr.setCell ⟨w1.heap.size,i+B.length,none⟩ (.int .u32 (q:Int))) w1.heap.size (A.length+B.length) (L.set (i+B.length) q)):=hown.set _ q;have hbw2:Hid (∀u,Below w1.heap.size w1 (wr.setCell ⟨w1.heap.size,i+B.length,none⟩ u)):=fun u=>hbw.setCell (Nat.le_refl _) u
     have i2:¬(k:Int)<(B.length:Int):=by omega
     have i3:(i:Int)+(B.length:Int)<((A.length+B.length:Nat):Int):=by omega
     clear hval hsm hno hown hbw hkB2 hz HN;go_wp2;go_roundw
     case rel=>exact⟨i+1,L.set (i+B.length) q,by go_num,by omega,by simp [hll],hsm2,hno2,hval2,hset,hbw2.out _⟩
     case measure=>simp only [intOf];omega
  ·have hkl:i=A.length:=by omega
   have e:jc L=S:=by rw [hval.out,hkl];exact HE.out
   have C1:=jb (j5 wr (some ⟨w1.heap.size,0,none⟩) L (A.length+B.length) (by omega) (by omega) hown.row hsm.out);have R1:=jb (hown.row.cut hsm.out);have L1:Hid ((jh (jc L)).length<=A.length+B.length):=by have:=jp hsm.out;show _<=_;omega
   rw [hll,e] at C1;rw [e] at R1 L1;clear hval hown hsm e hno hkl hll
   go_wp2_with fail
   refine(ja C1).mono ?_
   rintro e w2 ⟨rfl,rfl⟩
   go_wp2;go_ret;exact⟨_,rfl,⟨_,_,rfl,L1.out,ja R1⟩,hbw⟩
open Go.RowKit
theorem jjw {m n:Nat}(h:n<=m):0<=sgn m n:=by unfold sgn;rw [if_neg (by omega)];split<;>omega
open Go.RowKit
theorem Jp:∀n:Int,0<=n->n<2 ^ 64->IntKind.u64.wrap n=n:=fun n h1 h2=>by
 simp [IntKind.wrap,IntKind.bits,IntKind.signed];omega
theorem jiE:∀n:Int,0<=n->n<2 ^ 32->IntKind.u32.wrap n=n:=fun n h1 h2=>by
 simp [IntKind.wrap,IntKind.bits,IntKind.signed];omega
theorem Xz (r x:Nat)(hr:r<4294967296)(hx:x<4294967296):Go.bits .or .u64 ((r:Int)*4294967296) (x:Int)=((r*4294967296+x:Nat):Int):=by
 rw [bits_join .u64 64 (by decide) Jp 32 _ _ (by omega) (by omega) (by omega) (by omega) (by omega) (by omega)];omega
theorem jdm {M D:List Nat}{i b r s d r':Nat}(h:jc (M.drop (i+1))=b*jc D+r)(hs:s=r*4294967296+M.getD i 0)(hd:s=b*d+r') :
  jc (M.drop i)=b*jc (d :: D)+r':=by
 rw [qu,h,jc];generalize M.getD i 0=x at *;have e:b*(d+4294967296*jc D)=b*d+4294967296*(b*jc D):=by rw [Nat.mul_add,Nat.mul_left_comm]
 omega
theorem jhZ {M D:List Nat}{i:Nat}(hi:i<M.length):(M.take (i+1)++D).getD i 0=M.getD i 0:=by
 rw [List.getD,List.getElem?_append_left (by rw [List.length_take];omega),List.getElem?_take_of_lt (by omega)];rfl
theorem jhH {M D:List Nat}{i d:Nat}(hi:i<M.length):(M.take (i+1)++D).set i d=M.take i++(d :: D):=by
 rw [YD M i hi,List.append_assoc,List.set_append_right _ _ (by rw [List.length_take];omega),List.length_take,Nat.min_eq_left (by omega),Nat.sub_self];rfl
theorem ZE (w:World)(g c ca b:Nat)(M S:List Nat)(hM:M.length<=1000000)(sM:je M)(hb0:b≠0)(hb:b<4294967296)(own:Own w g c (M++S)) :
  Calls Tryz.prog 262 #[.slice (some ⟨g,0,none⟩) M.length ca,.int .u32 b] w fun e w'=>∃(M':List Nat),e=.returned (.int .u32 ((jc M % b:Nat):Int))/\M'.length=M.length/\je M'/\
   jc M'=jc M / b/\Own w' g c (M'++S)/\w.grownBy w' (some g):=by
 have hbi:(b:Int)≠0:=by omega
 have hbi':((b:Int) == 0)=false:=beq_false_of_ne hbi
 go_enter Tryz.func262,Tryz.ntmps262
 go_wp2
 go_loopw [5,6] (fun cc i wr=>∃(j r:Nat) (D:List Nat),i=.int .i64 ((j:Int) - 1)/\cc=.int .u64 r/\r<b/\j<=M.length/\Hid (D.length=M.length - j)/\Hid (je D)/\Hid (jc (M.drop j)=b*jc D+r)/\
  Own wr g c ((M.take j++D)++S)/\w.grownBy wr (some g)) (fun _ i _=>(intOf i+1).toNat)
 case atStart=>exact⟨M.length,0,[],rfl,rfl,by omega,Nat.le_refl _,by show _=_;simp,JG,by show _=_;rw [List.drop_length];simp [jc],by rw [List.take_length,List.append_nil];exact own,qY _ _⟩
 case round=>
  clear own;obtain⟨j,r,D,rfl,rfl,hr,hjM,hD,sD,hval,hown,hgr⟩:=hrel;cases j with
  | zero=>
   have hfin:Hid (D.length=M.length/\jc D=jc M / b/\r=jc M % b/\Own wr g c (D++S)):=by
    have h:=hval.out;rw [List.drop_zero] at h;rw [List.take_zero,List.nil_append] at hown;have h1:=hD.out;have h2:jc M / b=jc D:=by rw [h,Nat.mul_add_div (by omega),Nat.div_eq_of_lt hr];omega
    have h3:jc M % b=r:=by rw [h,Nat.mul_add_mod,Nat.mod_eq_of_lt hr]
    exact⟨by omega,h2.symm,h3.symm,hown⟩
   clear hval hown hD;go_wp2;go_ret;rw [<-hfin.out.2.2.1];exact⟨D,rfl,hfin.out.1,sD.out,hfin.out.2.1,hfin.out.2.2.2,hgr⟩
  | succ i=>
   have e0:((i+1:Nat):Int) - 1=(i:Int):=by omega
   rw [e0];have hi:i<M.length:=by omega
   have hlen:(M.take (i+1)++D).length=M.length:=by rw [List.length_append,List.length_take,hD.out];omega
   have c1:wr.cell? ⟨g,i,none⟩=some (.int .u32 ((M.getD i 0:Nat):Int)):=by
    have h:=Own.cellMid (P:=[]) (M:=M.take (i+1)++D) (S:=S) (by rw [List.nil_append];exact hown) i (by omega);rw [jhZ hi] at h;simpa using h
   have f1:=hown.froz i;have x1:=jG sM i
   have hset:Hid (∀d:Nat,Own (wr.setCell ⟨g,i,none⟩ (.int .u32 (d:Int))) g c ((M.take i++(d :: D))++S)):=fun d=>by
    have h:=Own.setMid (P:=[]) (M:=M.take (i+1)++D) (S:=S) (by rw [List.nil_append];exact hown) i d (by omega);rw [jhH hi] at h;simpa using h
   have hgr2:Hid (∀u,w.grownBy (wr.setCell ⟨g,i,none⟩ u) (some g)):=fun u=>JZ hgr _ u
   have hval2:Hid (∀s d r',s=r*4294967296+M.getD i 0->s=b*d+r'->jc (M.drop i)=b*jc (d :: D)+r'):=fun s d r' h1 h2=>jdm hval.out h1 h2
   have i1:(i:Int)<(M.length:Int):=by omega
   have hD2:Hid (∀d,(d :: D).length=M.length - i):=fun d=>by rw [List.length_cons,hD.out];omega
   have sD2:Hid (∀d,d<4294967296->je (d :: D)):=fun d h=>qi.2 ⟨h,sD.out⟩
   clear hval hown hgr hlen hD sD;generalize M.getD i 0=x at *;have hor:=Xz r x (by omega) x1;obtain⟨s,hs⟩:∃s,s=r*4294967296+x:=⟨_,rfl⟩
   rw [<-hs] at hor
   have hsb:s<4294967296*b:=by
    have h:(r+1)*4294967296<=b*4294967296:=Nat.mul_le_mul_right _ (by omega);omega
   have hs64:s<18446744073709551616:=by omega
   have hd:s / b<4294967296:=Nat.div_lt_of_lt_mul (by rw [Nat.mul_comm];exact hsb);have hm:s % b<b:=Nat.mod_lt _ (by omega);have q1:(s:Int) / (b:Int)=((s / b:Nat):Int):=by simp
   have q2:(s:Int) % (b:Int)=((s % b:Nat):Int):=by simp
   have HV:Hid (s=b*(s / b)+s % b):=(Nat.div_add_mod s b).symm;have HS:=jb hs;clear hs;generalize s / b=d at *;generalize s % b=r' at *;clear hsb;go_wp2;go_roundw
   case rel=>exact⟨i,r',d :: D,by go_num,by go_num,by omega,by omega,hD2.out _,sD2.out _ hd,hval2.out _ _ _ (ja HS) HV.out,hset.out _,hgr2.out _⟩
   case measure=>simp only [intOf];omega
open Go.RowKit
theorem WSl.kept {w w':World}{v:Value}{l:List Nat}{g:Nat}(h:WSl w v l)(hg:w.grownBy w' (some g))(hne:l≠[]->v.ownBlock≠some g):WSl w' v l:=by
 obtain⟨a,cap,rfl,hc,hr⟩:=h;refine⟨a,cap,rfl,hc,?_⟩
 by_cases h0:l=[]
 ·intro h;exact absurd h0 h
 ·exact hr.kept hg (fun b o s e hb=>hne h0 (by rw [e,hb];rfl))
theorem jh3 {M B:List Nat}{t:Nat}(sM:je M)(hM:M.length=t+2)(hB:B.length=t+1)(ht:B.getD t 0≠0)(sB:je B) :
  jc M / jc B<=(M.getD (t+1) 0*4294967296+M.getD t 0) / B.getD t 0:=by
 have h1:=QD M t sM;rw [qu,qu,List.drop_of_length_le (by omega),show jc []=0 from rfl] at h1;obtain⟨x,e,hx⟩:=Jc B t sB;rw [qu,List.drop_of_length_le (by omega),show jc []=0 from rfl] at e;have e2:M.getD (t+1) 0*4294967296+M.getD t 0=jc M / 4294967296 ^ t:=by omega
 rw [e2,Nat.div_div_eq_div_mul];refine Nat.div_le_div_left ?_ ?_
 ·rw [Nat.mul_zero,Nat.add_zero] at e;omega
 ·have:0<4294967296 ^ t:=Nat.pow_pos (by omega)
  exact Nat.mul_pos this (by omega)
theorem jdS {M1 B:List Nat}{m n G q X:Nat}(h:jc M1+G*jc B=m+X*4294967296*q)(h1:jc M1<X*4294967296)(hB:jc B<X)(hG:G<4294967296)(hm:q≠0->True):q<=1:=by
 have h2:G*jc B<=4294967296*X:=Nat.mul_le_mul (by omega) (by omega);have h3:q<=1\/2<=q:=by omega
 rcases h3 with h3 | h3
 ·exact h3
 ·have h4:X*4294967296*2<=X*4294967296*q:=Nat.mul_le_mul_left _ h3
  have h5:G*jc B<4294967296*X:=by
   by_cases e:jc B=0
   ·rw [e];simp;omega
   ·exact Nat.mul_lt_mul_of_lt_of_le hG (by omega) (by omega)
  omega
theorem jgZ {a b m G:Nat}(h:a+G*b=m)(hq:m / b<=G)(hb:0<b):G=m / b/\a=m % b:=by
 have h1:G<=m / b:=by
  rw [Nat.le_div_iff_mul_le hb];omega
 have e:G=m / b:=by omega
 refine⟨e,?_⟩;have:=Nat.div_add_mod m b;rw [<-e,Nat.mul_comm] at this;omega
theorem jfP {a a2 b m G X:Nat}{c:Bool}(h:a+G*b=m+X*Bool.toNat true)(ha:a<X)(h2:a2+X*c.toNat=a+b)(hq:m / b<=G)(hb:0<b) :
  0<G/\m / b<=G - 1/\a2+(G - 1)*b=m+X*(!c).toNat:=by
 have e1:X*Bool.toNat true=X:=by rw [show Bool.toNat true=1 from rfl,Nat.mul_one]
 have hgt:m<G*b:=by omega
 have h3:m / b<G:=Nat.div_lt_of_lt_mul (by rw [Nat.mul_comm];exact hgt)
 have e2:(G - 1)*b+b=G*b:=by
  obtain⟨k,rfl⟩:∃k,G=k+1:=⟨G - 1,by have:=Nat.lt_of_le_of_lt (Nat.zero_le _) h3;omega⟩
  rw [Nat.add_sub_cancel,Nat.add_mul,Nat.one_mul]
 refine⟨Nat.lt_of_le_of_lt (Nat.zero_le _) h3,Nat.le_sub_one_of_lt h3,?_⟩;clear h3 hq;cases c with
 | false=>
  have e3:X*Bool.toNat false=0:=by rw [show Bool.toNat false=0 from rfl,Nat.mul_zero]
  have e4:X*(!false).toNat=X:=by rw [show(!false).toNat=1 from rfl,Nat.mul_one]
  omega
 | true=>
  have e4:X*(!true).toNat=0:=by rw [show(!true).toNat=0 from rfl,Nat.mul_zero]
  omega
theorem YR (w:World)(g c o ca t:Nat)(P M S B:List Nat)(vb:Value)(ho:P.length=o)(hM:M.length=t+2)(hB:B.length=t+1)(ht:B.getD t 0≠0)(htl:t<=900000)(sM:je M)(sB:je B)
  (hlt:jc M<jc B*4294967296) (own:Own w g c (P++(M++S))) (hvb:WSl w vb B) (hne:B≠[]->vb.ownBlock≠some g) :
  Calls Tryz.prog 278 #[.slice (some ⟨g,o,none⟩) (t+2:Nat) ca,vb] w fun e w'=>∃(M':List Nat),e=.returned (.int .u32 ((jc M / jc B:Nat):Int))/\M'.length=t+2/\je M'/\
   jc M'=jc M % jc B/\Own w' g c (P++(M'++S))/\w.grownBy w' (some g):=by
 have hB0:B≠[]:=by intro e;rw [e] at hB;simp at hB
 have hge:=jh3 sM hM hB ht sB;have hlt2:jc M / jc B<4294967296:=Nat.div_lt_of_lt_mul hlt
 have hbpos:0<jc B:=by
  by_cases e:jc B=0
  ·rw [e] at hlt;simp at hlt
  ·omega
 have hwB:jc B<4294967296 ^ (t+1):=by have:=Jo sB;rwa [hB] at this
 have c1:w.cell? ⟨g,P.length+(t+1),none⟩=some (.int .u32 ((M.getD (t+1) 0:Nat):Int)):=own.cellMid (t+1) (by omega)
 have c2:w.cell? ⟨g,P.length+t,none⟩=some (.int .u32 ((M.getD t 0:Nat):Int)):=own.cellMid t (by omega)
 have x1:=jG sM (t+1);have x2:=jG sM t;have x3:=jG sB t;obtain⟨ab,cb,rfl,hcb,rb⟩:=hvb;obtain⟨b3,o3,rfl,hb3,hc3⟩:=rb hB0;have c3:w.cell? ⟨b3,o3+t,none⟩=some (.int .u32 ((B.getD t 0:Nat):Int)):=hc3 t (by omega)
 have hvb:WSl w (.slice (some ⟨b3,o3,none⟩) (t+1) cb) B:=⟨_,cb,by rw [hB],by omega,rb⟩
 have hnb:B≠[]->(Value.slice (some ⟨b3,o3,none⟩) (t+1) cb).ownBlock≠some g:=hne;subst ho;have KT:∀(wz:World) (G:Nat),G<4294967296->Own wz g c (P++(M++S))->WSl wz (.slice (some ⟨b3,o3,none⟩) (t+1) cb) B->Hid _:=fun wz G hG hO hW=>jb (YT wz g c P.length ca G P M S B _ rfl (by omega) (by omega) sM sB hG hO hW hnb)
 have KA:∀(wz:World) (M1:List Nat),M1.length=t+2->je M1->Own wz g c (P++(M1++S))->WSl wz (.slice (some ⟨b3,o3,none⟩) (t+1) cb) B->Hid _:=fun wz M1 h1 h2 hO hW=>jb (jfM wz g c P.length ca P M1 S B _ rfl (by omega) (by omega) h2 sB hO hW hnb)
 rw [hM] at KT;have hor:=Xz (M.getD (t+1) 0) (M.getD t 0) x1 x2;have ht':((B.getD t 0:Nat):Int)≠0:=by omega
 have ht2:(((B.getD t 0:Nat):Int) == 0)=false:=beq_false_of_ne ht';have hh:M.getD (t+1) 0*4294967296+M.getD t 0<18446744073709551616:=by omega
 have e0:((t+1:Nat):Int) - 1=(t:Int):=by omega
 rw [hB];have HB:=jb hB;have HM:=jb hM;have HWB:=jb hwB;have HSM:=jb sM;clear rb hc3 hB hM ht sM sB hne hB0 hwB hlt;generalize M.getD (t+1) 0=m1 at *;generalize M.getD t 0=m0 at *;generalize B.getD t 0=bt at *;generalize m1*4294967296+m0=h at *;have q1:(h:Int) / (bt:Int)=((h / bt:Nat):Int):=by simp
 have hq64:h / bt<=h:=Nat.div_le_self _ _;generalize h / bt=G0 at *;have hmn:min ((G0:Nat):Int) 4294967295=((min G0 4294967295:Nat):Int):=by omega
 have hGG:min G0 4294967295<4294967296:=by omega
 have hG:Hid (jc M / jc B<=min G0 4294967295):=by show _<=_;omega
 generalize min G0 4294967295=G1 at *;clear hge
 go_enter Tryz.func278,Tryz.ntmps278
 go_wp2_with fail
 go_quiet (fail)
 have c3z:(w.drewN nq).cell? ⟨b3,o3+t,none⟩=some (.int .u32 (bt:Int)):=c3
 have ownz:Own (w.drewN nq) g c (P++(M++S)):=own;have hgz:w.grownBy (w.drewN nq) (some g):=jee (qY _ _) _;have KZ:=KT (w.drewN nq) G1 (by omega) ownz (hvb.kept hgz hnb);clear c1 c2 c3 own ownz KT;generalize w.drewN nq=wz at *
 go_wp2_with fail
 refine(ja KZ).mono ?_
 rintro e w1 ⟨M1,q,b',rfl,hbq,hM1,sM1,hval1,own1,hg1⟩
 have hq1:q<=1:=by
  have h1:=Jo sM1;rw [hM1,Nat.pow_succ] at h1;rw [Nat.pow_succ] at hval1;exact jdS (n:=0) hval1 h1 (ja HWB) (by omega) (fun _=>trivial)
 have hval2:jc M1+G1*jc B=jc M+4294967296 ^ (t+2)*b'.toNat:=by
  rw [hval1]
  congr 2
  cases b' with
  | false => have : ¬ 0 < q := fun h => by simpa using hbq.2 h
             show q=0
             omega
  | true => have := hbq.1 rfl
            show q=1
            omega
 have HV1:=jb hval2;have hgw1:=Qp hgz hg1;clear hval1 hval2 hbq hq1 KZ hgz hg1 c3z;have hkey:=jb (⟨hM1,sM1,ja HV1,own1,hgw1⟩:M1.length=t+2/\je M1/\jc M1+G1*jc B=jc M+4294967296 ^ (t+2)*b'.toNat/\Own w1 g c (P++(M1++S))/\w.grownBy w1 (some g));clear hM1 sM1 HV1 own1 hgw1
 go_wp2_with fail
 go_loopw [7,8] (fun gg bb wr=>∃(G:Nat) (b:Bool) (M1:List Nat),gg=.int .u32 G/\bb=.bool b/\G<4294967296/\Hid (jc M / jc B<=G)/\Hid (M1.length=t+2/\je M1/\jc M1+G*jc B=jc M+4294967296 ^ (t+2)*b.toNat/\Own wr g c (P++(M1++S))/\w.grownBy wr (some g))) (fun gg _ _=>(intOf gg).toNat)
 case atStart=>exact⟨G1,b',M1,rfl,rfl,by omega,hG,hkey⟩
 case round=>
  clear hkey;obtain⟨G,b,M1,rfl,rfl,hGW,hGq,hk⟩:=hrel;cases b with
  | false=>
   have hfin:Hid (G=jc M / jc B/\jc M1=jc M % jc B):=by
    refine jgZ ?_ hGq.out hbpos
    have h:=hk.out.2.2.1;rwa [show Bool.toNat false=0 from rfl,Nat.mul_zero,Nat.add_zero] at h
   go_wp2;go_ret;rw [<-hfin.out.1];exact⟨M1,rfl,hk.out.1,hk.out.2.1,hfin.out.2,hk.out.2.2.2.1,hk.out.2.2.2.2⟩
  | true=>
   have KB:=KA wr M1 hk.out.1 hk.out.2.1 hk.out.2.2.2.1 (hvb.kept hk.out.2.2.2.2 hnb);rw [hk.out.1] at KB
   have hpre:∀(M2:List Nat) (c:Bool),jc M2+4294967296 ^ (t+2)*c.toNat=jc M1+jc B->Hid (0<G/\jc M / jc B<=G - 1/\jc M2+(G - 1)*jc B=jc M+4294967296 ^ (t+2)*(!c).toNat):=fun M2 c h=>by
    have h1:=Jo hk.out.2.1;rw [hk.out.1] at h1;exact jfP hk.out.2.2.1 h1 h hGq.out hbpos
   have HP:=jb hpre;have HG1:=jb hk.out.2.2.2.2;clear KA hpre hk hGq
   go_wp2_with fail
   refine(ja KB).mono ?_
   rintro e w2 ⟨M2,b2,rfl,hM2,sM2,hval2,own2,hg2⟩
   have hP:=(ja HP M2 b2 hval2).out;have hG1:0<G:=hP.1;have HK:Hid (M2.length=t+2/\je M2/\jc M2+(G - 1)*jc B=jc M+4294967296 ^ (t+2)*(!b2).toNat/\Own w2 g c (P++(M2++S))/\w.grownBy w2 (some g)):=⟨hM2,sM2,hP.2.2,own2,Qp (ja HG1) hg2⟩
   have HQ:=jb hP.2.1;clear hM2 sM2 hval2 own2 hg2 hP HP HG1 KB;go_wp2;go_roundw
   case rel=>exact⟨G - 1,!b2,M2,by congr 1;omega,rfl,by omega,ja HQ,HK⟩
   case measure=>simp only [intOf];omega
open Go.RowKit
theorem jg0 (z u s:Nat)(hs:s<=32)(hz:z<2 ^ s)(hu:u<2 ^ (32 - s)):Go.bits .or .u32 (z:Int) ((2 ^ s*u:Nat):Int)=((z+2 ^ s*u:Nat):Int)/\z+2 ^ s*u<4294967296:=by
 have e:2 ^ s*2 ^ (32 - s)=4294967296:=by rw [<-Nat.pow_add,show s+(32 - s)=32 by omega]
 have h1:2 ^ s*(u+1)<=2 ^ s*2 ^ (32 - s):=Nat.mul_le_mul_left _ hu;rw [Nat.mul_add,Nat.mul_one,e] at h1;refine⟨?_,by omega⟩;have hc:Go.bits .or .u32 (z:Int) ((2 ^ s*u:Nat):Int)=Go.bits .or .u32 ((2 ^ s*u:Nat):Int) (z:Int):=by simp only [Go.bits,BitVec.or_comm]
 rw [hc,bits_join .u32 32 (by decide) jiE s _ _ (by omega) ?_ ?_ (by omega) ?_ ?_]
 ·omega
 ·simp
 ·have:(2:Int) ^ 32=4294967296:=by decide
  rw [this];omega
 ·have:((z:Nat):Int)<((2 ^ s:Nat):Int):=by omega
  simpa using this
 ·have:(2:Int) ^ 32=4294967296:=by decide
  rw [this];omega
theorem jdG (x s:Nat)(hs:s<32)(hx:x<4294967296):(x*2 ^ s) % 4294967296=2 ^ s*(x % 2 ^ (32 - s))/\(x*2 ^ s) / 4294967296=x / 2 ^ (32 - s)/\x / 2 ^ (32 - s)<2 ^ s/\x*2 ^ s<18446744073709551616/\x % 2 ^ (32 - s)<2 ^ (32 - s)/\2 ^ s<=2147483648:=by
 have e:2 ^ s*2 ^ (32 - s)=4294967296:=by rw [<-Nat.pow_add,show s+(32 - s)=32 by omega]
 have hp:0<2 ^ (32 - s):=Nat.pow_pos (by omega);have hp2:0<2 ^ s:=Nat.pow_pos (by omega);have h31:2 ^ s<=2147483648:=Nat.pow_le_pow_right (n:=2) (by omega) (show s<=31 by omega);refine⟨?_,?_,?_,?_,Nat.mod_lt _ hp,h31⟩
 ·rw [<-e,Nat.mul_comm x,Nat.mul_mod_mul_left]
 ·rw [<-e,Nat.mul_comm x,Nat.mul_div_mul_left _ _ hp2]
 ·exact Nat.div_lt_of_lt_mul (by rw [Nat.mul_comm,e];exact hx)
 ·have:x*2 ^ s<=4294967295*2147483648:=Nat.mul_le_mul (by omega) h31
  omega
theorem jdV {L:List Nat}{j x s X:Nat}(hj:j+1<L.length)(hz:L.getD (j+1) 0=0) :
  jc ((L.set j (L.getD j 0+(x*2 ^ s) % 4294967296)).set (j+1) ((x*2 ^ s) / 4294967296))=jc L+4294967296 ^ j*(x*2 ^ s):=by
 have h1:=zV L (L.getD j 0+(x*2 ^ s) % 4294967296) j (by omega);have h2:=zV (L.set j (L.getD j 0+(x*2 ^ s) % 4294967296)) ((x*2 ^ s) / 4294967296) (j+1) (by simpa using hj)
 have e:(L.set j (L.getD j 0+(x*2 ^ s) % 4294967296)).getD (j+1) 0=0:=by
  rw [List.getD,List.getElem?_set_ne (by omega)];exact hz
 rw [e,Nat.mul_zero] at h2;generalize x*2 ^ s=d at *;have e2:4294967296 ^ (j+1)*(d / 4294967296)=4294967296 ^ j*(4294967296*(d / 4294967296)):=by rw [Nat.pow_succ,Nat.mul_assoc]
 have e3:4294967296 ^ j*(L.getD j 0+d % 4294967296)+4294967296 ^ j*(4294967296*(d / 4294967296))=4294967296 ^ j*L.getD j 0+4294967296 ^ j*d:=by
  rw [<-Nat.mul_add,Nat.add_assoc,Nat.mod_add_div,Nat.mul_add]
 omega
theorem Jv (w:World)(v:Value)(l:List Nat)(n:Nat)(hv:WSl w v l)(sl:je l)(ll:l.length<=400000)(hn:n<=100000) :
  Calls Tryz.prog 259 #[v,.int .i64 n] w fun e w'=>∃L:List Nat,e=.returned (.slice (some ⟨w.heap.size,0,none⟩) L.length L.length)/\L.length=l.length+n / 32+1/\je L/\jc L=jc l*2 ^ n/\
   Own w' w.heap.size L.length L/\Below w.heap.size w w':=by
 obtain⟨i0,hi,hz0,hz1,hz2⟩:=info_parts jbZ;obtain⟨aa,ca,rfl,hca,ra⟩:=hv
 have HP:Hid (jc l*2 ^ n=jc (l.take l.length)*2 ^ (n % 32)*4294967296 ^ (n / 32)):=by
  show _=_
  rw [List.take_length,Nat.mul_assoc,show(4294967296:Nat)=2 ^ 32 from rfl,<-Nat.pow_mul,<-Nat.pow_add,Nat.add_comm,Nat.div_add_mod]
 generalize jc l*2 ^ n=T at *;have hs:n % 32<32:=by omega
 have hm:n / 32<=100000:=by omega
 have n1:(n:Int) / 32=((n / 32:Nat):Int):=by omega
 have n2:(n:Int) % 32=((n % 32:Nat):Int):=by omega
 generalize n % 32=s at *;generalize n / 32=m at *
 go_enter Tryz.func259,Tryz.ntmps259
 go_wp2_with (at_make;refine wpList_make_full _ rfl _ _ 168 rfl w.heap.size 222 i0 (.int .u32 0) 1 Tryz.underlying168 hi hz0 hz1 _ _ _ _ (l.length+m+1) rfl rfl (by omega) (by omega) ?b2 ?b3 ?b4 ?_)
 case b2=>rw [hz2];omega
 case b3=>unfold maxLen;omega
 case b4=>exact Nat.le_refl _
 intro w2 hown2 hgrow2;have hb2:Below w.heap.size w w2:=(Below.refl _ w).grown hgrow2 (Nat.le_refl _) (fun k h=>by cases h);have own2:Own w2 w.heap.size (l.length+m+1) (List.replicate (l.length+m+1) 0):=Zl hown2;clear hgrow2 hown2
 go_wp2_with fail
 go_loopw [23] (fun i wr=>∃(k:Nat) (L:List Nat),i=.int .i64 k/\k<=l.length/\L.length=l.length+m+1/\Hid (je L)/\Hid (qf L (k+m+1))/\Hid (L.getD (k+m) 0<2 ^ s)/\Hid (jc L=jc (l.take k)*2 ^ s*4294967296 ^ m)/\
  Own wr w.heap.size (l.length+m+1) L/\Below w.heap.size w wr) (fun i _=>l.length - (intOf i).toNat)
 case atStart=>
  refine⟨0,List.replicate (l.length+m+1) 0,rfl,Nat.zero_le _,by simp,J3 _,fun j _=>zC _ j (Nat.zero_le _),?_,by show _=_;rw [ZS];simp [jc],own2,hb2⟩
  show _<_
  rw [zC _ _ (Nat.zero_le _)];exact Nat.pow_pos (by omega)
 case round=>
  clear own2 hb2;obtain⟨k,L,rfl,hkl,hll,hsm,hno,hlow,hval,hown,hbw⟩:=hrel
  by_cases hlt:k<l.length
  ·obtain⟨b,o,rfl,hba,hca'⟩:=ra (by intro e;rw [e] at hlt;simp at hlt)
   have c1:wr.cell? ⟨b,o+k,none⟩=some (.int .u32 ((l.getD k 0:Nat):Int)):=by rw [hbw.cell (p:=⟨b,o+k,none⟩) hba];exact hca' k hlt
   have xa:=jG sl k;obtain⟨p1,p2,p3,p4,p5,p6⟩:=jdG (l.getD k 0) s hs xa;obtain⟨o1,o2⟩:=jg0 (L.getD (k+m) 0) _ s (by omega) hlow.out p5;have hz:L.getD (k+m+1) 0=0:=hno.out _ (Nat.le_refl _);have hr:=jdV (L:=L) (j:=k+m) (x:=l.getD k 0) (s:=s) (X:=0) (by omega) hz
   have hval2:Hid (jc ((L.set (k+m) (L.getD (k+m) 0+(l.getD k 0*2 ^ s) % 4294967296)).set (k+m+1) ((l.getD k 0*2 ^ s) / 4294967296))=jc (l.take (k+1))*2 ^ s*4294967296 ^ m):=by
    show _=_
    rw [hr,hval.out,jK,Nat.add_mul,Nat.add_mul]
    congr 1
    rw [Nat.pow_add,Nat.mul_assoc,Nat.mul_assoc,Nat.mul_assoc,Nat.mul_comm (4294967296 ^ m),Nat.mul_assoc]
   have c2:wr.cell? ⟨w.heap.size,k+m,none⟩=some (.int .u32 ((L.getD (k+m) 0:Nat):Int)):=hown.cell (k+m) (by omega)
   have f2:=hown.froz (k+m);rw [<-p1] at o1 o2;have hset:Hid (∀d1 d2:Nat,Own ((wr.setCell ⟨w.heap.size,k+m,none⟩ (.int .u32 (d1:Int))).setCell ⟨w.heap.size,k+m+1,none⟩ (.int .u32 (d2:Int))) w.heap.size (l.length+m+1) ((L.set (k+m) d1).set (k+m+1) d2)):=fun d1 d2=>(hown.set (k+m) d1).set (k+m+1) d2
   have hbw2:Hid (∀u u',Below w.heap.size w ((wr.setCell ⟨w.heap.size,k+m,none⟩ u).setCell ⟨w.heap.size,k+m+1,none⟩ u')):=fun u u'=>(hbw.setCell (Nat.le_refl _) u).setCell (Nat.le_refl _) u'
   have hsm2:Hid (∀d1 d2,d1<4294967296->d2<4294967296->je ((L.set (k+m) d1).set (k+m+1) d2)):=fun d1 d2 h1 h2=>zc (zc hsm.out h1) h2
   have hno2:Hid (∀d1 d2,qf ((L.set (k+m) d1).set (k+m+1) d2) (k+1+m+1)):=fun d1 d2=>by
    have h:=zH (d:=d2) (J2 (d:=d1) (j:=k+m) hno.out (by omega));rwa [show k+m+1+1=k+1+m+1 by omega] at h
   have hlow2:Hid (∀d1 d2,((L.set (k+m) d1).set (k+m+1) d2).getD (k+1+m) 0=d2):=fun d1 d2=>by
    rw [show k+1+m=k+m+1 by omega];rw [List.getD,List.getElem?_set_self (by simp;omega)];rfl
   have c4:∀d1:Nat,(wr.setCell ⟨w.heap.size,k+m,none⟩ (.int .u32 (d1:Int))).cell? ⟨w.heap.size,k+m+1,none⟩=some (.int .u32 0):=fun d1=>by
    rw [(hown.set (k+m) d1).cell (k+m+1) (by simp;omega),List.getD,List.getElem?_set_ne (by omega)];have hz':=hz;rw [List.getD] at hz';rw [hz'];rfl
   have f4:∀d1:Nat,(wr.setCell ⟨w.heap.size,k+m,none⟩ (.int .u32 (d1:Int))).frozen? ⟨w.heap.size,k+m+1,none⟩=false:=fun d1=>(hown.set (k+m) d1).froz _
   have hw:((l.getD k 0:Nat):Int)*2 ^ s=((l.getD k 0*2 ^ s:Nat):Int):=by simp
   have i1:(k:Int)<(l.length:Int):=by omega
   have i2:(k:Int)+(m:Int)<((l.length+m+1:Nat):Int):=by omega
   have i3:(k:Int)+(m:Int)+1<((l.length+m+1:Nat):Int):=by omega
   rw [<-p2] at p3;have P3:=jb p3;clear hca' hval hsm hno hown hbw hlow hr p1 p2 p3 p5 p6 hz;generalize L.getD (k+m) 0=z at *;generalize l.getD k 0=x at *;generalize x*2 ^ s=wd at *;have q1:(wd:Int) % 4294967296=((wd % 4294967296:Nat):Int):=by omega
   have q2:(wd:Int) / 4294967296=((wd / 4294967296:Nat):Int):=by omega
   have q3:wd / 4294967296<4294967296:=by omega
   generalize wd % 4294967296=lo at *;generalize wd / 4294967296=hg at *;have c5:=c4 (z+lo);have f5:=f4 (z+lo);generalize z+lo=d1 at *;clear c4 f4;go_wp2;go_roundw
   case rel=>exact⟨k+1,(L.set (k+m) d1).set (k+m+1) hg,by go_num,by omega,by simp [hll],hsm2.out _ _ o2 q3,hno2.out _ _,by show _<_;rw [hlow2.out];exact ja P3,hval2,hset.out _ _,hbw2.out _ _⟩
   case measure=>simp only [intOf];omega
  ·have hkl2:k=l.length:=by omega
   have e:Hid (jc L=T):=by show _=_;rw [hval.out,hkl2];exact HP.out.symm
   have HL:=jb hll;clear hval hno hlow hkl2;go_wp2;go_ret;refine⟨L,?_,hll,hsm.out,e.out,?_,hbw⟩
   ·rw [hll];rfl
   ·rw [hll];exact hown
theorem jfV (x n:Nat)(hn:n<32)(hx:x<4294967296):x*4294967296 / 2 ^ n=x*2 ^ (32 - n)/\(x*2 ^ (32 - n)) / 4294967296=x / 2 ^ n/\(x*2 ^ (32 - n)) % 4294967296=2 ^ (32 - n)*(x % 2 ^ n)/\x % 2 ^ n<2 ^ (32 - (32 - n))/\x / 2 ^ n<2 ^ (32 - n)/\x*2 ^ (32 - n)<18446744073709551616/\x / 2 ^ n<4294967296:=by
 have e:2 ^ (32 - n)*2 ^ n=4294967296:=by rw [<-Nat.pow_add,show 32 - n+n=32 by omega]
 have hp:0<2 ^ n:=Nat.pow_pos (by omega);have hp2:0<2 ^ (32 - n):=Nat.pow_pos (by omega);have h32:2 ^ (32 - n)<=4294967296:=Nat.pow_le_pow_right (n:=2) (by omega) (show 32 - n<=32 by omega);refine⟨?_,?_,?_,?_,?_,?_,Nat.lt_of_le_of_lt (Nat.div_le_self _ _) hx⟩
 ·rw [<-e,<-Nat.mul_assoc,Nat.mul_div_cancel _ hp]
 ·rw [<-e,Nat.mul_comm x,Nat.mul_div_mul_left _ _ hp2]
 ·rw [<-e,Nat.mul_comm x,Nat.mul_mod_mul_left]
 ·rw [show 32 - (32 - n)=n by omega];exact Nat.mod_lt _ hp
 ·exact Nat.div_lt_of_lt_mul (by rw [Nat.mul_comm,e];exact hx)
 ·have:x*2 ^ (32 - n)<=4294967295*4294967296:=Nat.mul_le_mul (by omega) h32
  omega
theorem jc8 {x n:Nat}{l:List Nat}(h:l.getD 0 0=x):jc (l.take 1) / 2 ^ n=x / 2 ^ n:=by
 rw [show(1:Nat)=0+1 from rfl,jK,h];simp [jc]
theorem jdv (l:List Nat)(k n:Nat)(hn:n<32):jc (l.take (k+1+1)) / 2 ^ n=jc (l.take (k+1)) / 2 ^ n+4294967296 ^ k*(l.getD (k+1) 0*2 ^ (32 - n)):=by
 have e:2 ^ (32 - n)*2 ^ n=4294967296:=by rw [<-Nat.pow_add,show 32 - n+n=32 by omega]
 have hp:0<2 ^ n:=Nat.pow_pos (by omega);rw [jK l (k+1)]
 have e2:4294967296 ^ (k+1)*l.getD (k+1) 0=2 ^ n*(4294967296 ^ k*(l.getD (k+1) 0*2 ^ (32 - n))):=by
  rw [Nat.pow_succ];rw (config:={ occs:=.pos [2] }) [<-e];rw [Nat.mul_comm (2 ^ n),Nat.mul_assoc,Nat.mul_assoc,Nat.mul_assoc,Nat.mul_comm (l.getD (k+1) 0),Nat.mul_assoc,Nat.mul_comm (2 ^ n)]
 rw [e2,Nat.add_mul_div_left _ _ hp]
theorem jcQ {L:List Nat}{k d h:Nat}(hk:k+1<L.length)(hz:L.getD (k+1) 0=0) :
  jc ((L.set (k+1) (d / 4294967296)).set k (L.getD k 0+d % 4294967296))=jc L+4294967296 ^ k*d:=by
 have h1:=zV L (d / 4294967296) (k+1) hk;have h2:=zV (L.set (k+1) (d / 4294967296)) (L.getD k 0+d % 4294967296) k (by simp;omega)
 have e:(L.set (k+1) (d / 4294967296)).getD k 0=L.getD k 0:=by
  rw [List.getD,List.getElem?_set_ne (by omega)];rfl
 rw [e] at h2;rw [hz,Nat.mul_zero] at h1;have e2:4294967296 ^ (k+1)*(d / 4294967296)=4294967296 ^ k*(4294967296*(d / 4294967296)):=by rw [Nat.pow_succ,Nat.mul_assoc]
 have e3:4294967296 ^ k*(L.getD k 0+d % 4294967296)+4294967296 ^ k*(4294967296*(d / 4294967296))=4294967296 ^ k*L.getD k 0+4294967296 ^ k*d:=by
  rw [<-Nat.mul_add,Nat.add_assoc,Nat.mod_add_div,Nat.mul_add]
 omega
theorem XY (w:World)(v:Value)(l:List Nat)(n:Nat)(hv:WSl w v l)(sl:je l)(ll:l.length<=400000)(hn:n<32) :
  Calls Tryz.prog 260 #[v,.int .i64 n] w fun e w'=>∃L:List Nat,e=.returned (.slice (some ⟨w.heap.size,0,none⟩) L.length L.length)/\L.length=l.length/\je L/\jc L=jc l / 2 ^ n/\
   Own w' w.heap.size L.length L/\Below w.heap.size w w':=by
 obtain⟨i0,hi,hz0,hz1,hz2⟩:=info_parts jbZ;obtain⟨aa,ca,rfl,hca,ra⟩:=hv
 go_enter Tryz.func260,Tryz.ntmps260
 go_wp2_with (at_make;refine wpList_make_full _ rfl _ _ 168 rfl w.heap.size 222 i0 (.int .u32 0) 1 Tryz.underlying168 hi hz0 hz1 _ _ _ _ l.length rfl rfl (by omega) (by omega) ?b2 ?b3 ?b4 ?_)
 case b2=>rw [hz2];omega
 case b3=>unfold maxLen;omega
 case b4=>exact Nat.le_refl _
 intro w2 hown2 hgrow2;have hb2:Below w.heap.size w w2:=(Below.refl _ w).grown hgrow2 (Nat.le_refl _) (fun k h=>by cases h);have own2:Own w2 w.heap.size l.length (List.replicate l.length 0):=Zl hown2;clear hgrow2 hown2
 go_wp2_with fail
 go_loopw [14] (fun i wr=>∃(k:Nat) (L:List Nat),i=.int .i64 k/\k<=l.length/\L.length=l.length/\Hid (je L)/\Hid (qf L k)/\Hid (∀j,k=j+1->L.getD j 0<2 ^ (32 - n))/\Hid (jc L=jc (l.take k) / 2 ^ n)/\
  Own wr w.heap.size l.length L/\Below w.heap.size w wr) (fun i _=>l.length - (intOf i).toNat)
 case atStart=>exact⟨0,List.replicate l.length 0,rfl,Nat.zero_le _,by simp,J3 _,fun j _=>zC _ j (Nat.zero_le _),fun j h=>by omega,by show _=_;rw [ZS];simp [jc],own2,hb2⟩
 case round=>
  clear own2 hb2;obtain⟨k,L,rfl,hkl,hll,hsm,hno,hlow,hval,hown,hbw⟩:=hrel
  by_cases hlt:k<l.length
  ·obtain⟨b,o,rfl,hba,hca'⟩:=ra (by intro e;rw [e] at hlt;simp at hlt)
   have c1:wr.cell? ⟨b,o+k,none⟩=some (.int .u32 ((l.getD k 0:Nat):Int)):=by rw [hbw.cell (p:=⟨b,o+k,none⟩) hba];exact hca' k hlt
   have xa:=jG sl k;obtain⟨p1,p2,p3,p4,p5,p6,p7⟩:=jfV (l.getD k 0) n hn xa;have hz:L.getD k 0=0:=hno.out _ (Nat.le_refl _);have c2:wr.cell? ⟨w.heap.size,k,none⟩=some (.int .u32 0):=by rw [hown.cell k (by omega),hz];rfl
   have f2:=hown.froz k;have i1:(k:Int)<(l.length:Int):=by omega
   have hw:((l.getD k 0:Nat):Int)*4294967296 / 2 ^ n=((l.getD k 0*2 ^ (32 - n):Nat):Int):=by
    rw [<-p1];simp
   have hx64:l.getD k 0*4294967296<18446744073709551616:=by omega
   clear hca';cases k with
   | zero=>
    have hval2:Hid (jc (L.set 0 (l.getD 0 0 / 2 ^ n))=jc (l.take (0+1)) / 2 ^ n):=by
     show _=_
     have h:=zV L (l.getD 0 0 / 2 ^ n) 0 (by omega);rw [jc8 rfl];have h2:=hval.out;rw [hz,Nat.mul_zero,Nat.pow_zero,Nat.one_mul] at h;rw [List.take_zero,show jc []=0 from rfl,Nat.zero_div] at h2;generalize l.getD 0 0 / 2 ^ n=y at *;omega
    have hset:Hid (∀d:Nat,Own (wr.setCell ⟨w.heap.size,0,none⟩ (.int .u32 (d:Int))) w.heap.size l.length (L.set 0 d)):=fun d=>hown.set 0 d
    have hbw2:Hid (∀u,Below w.heap.size w (wr.setCell ⟨w.heap.size,0,none⟩ u)):=fun u=>hbw.setCell (Nat.le_refl _) u
    have hsm2:Hid (∀d,d<4294967296->je (L.set 0 d)):=fun d h=>zc hsm.out h
    have hno2:Hid (∀d,qf (L.set 0 d) (0+1)):=fun d=>zH hno.out
    have hlow2:Hid (∀d,d<2 ^ (32 - n)->∀j,0+1=j+1->(L.set 0 d).getD j 0<2 ^ (32 - n)):=fun d h j e=>by
     have:j=0:=by omega
     subst this;rw [List.getD,List.getElem?_set_self (by omega)];exact h
    rw [Nat.add_zero] at c1;have P5:=jb p5;have P2:=jb p2;have HV:=jb hval2;rw [<-p2] at p7;clear hval hsm hno hown hbw hlow p1 p2 p3 p4 p5 hz hval2;generalize hxx:l.getD 0 0 / 2 ^ n=hg at *;clear hxx;generalize l.getD 0 0=x at *;generalize x*2 ^ (32 - n)=wd at *;have q2:(wd:Int) / 4294967296=((wd / 4294967296:Nat):Int):=by omega
    rw [ja P2] at q2 p7;go_wp2;go_roundw
    case rel=>exact⟨0+1,L.set 0 hg,by go_num,by omega,by simp [hll],hsm2.out _ p7,hno2.out _,hlow2.out _ (ja P5),(ja HV).out,hset.out _,hbw2.out _⟩
    case measure=>simp only [intOf];omega
   | succ j=>
    obtain⟨o1,o2⟩:=jg0 (L.getD j 0) _ (32 - n) (by omega) (hlow.out j rfl) p4
    have hval2:Hid (jc ((L.set (j+1) (l.getD (j+1) 0*2 ^ (32 - n) / 4294967296)).set j (L.getD j 0+l.getD (j+1) 0*2 ^ (32 - n) % 4294967296))=jc (l.take (j+1+1)) / 2 ^ n):=by
     show _=_
     rw [jcQ (h:=0) (by omega) hz,jdv l j n hn,hval.out]
    have c3:∀d1:Nat,(wr.setCell ⟨w.heap.size,j+1,none⟩ (.int .u32 (d1:Int))).cell? ⟨w.heap.size,j,none⟩=some (.int .u32 ((L.getD j 0:Nat):Int)):=fun d1=>by
     rw [(hown.set (j+1) d1).cell j (by simp;omega),List.getD,List.getElem?_set_ne (by omega)];rfl
    have f3:∀d1:Nat,(wr.setCell ⟨w.heap.size,j+1,none⟩ (.int .u32 (d1:Int))).frozen? ⟨w.heap.size,j,none⟩=false:=fun d1=>(hown.set (j+1) d1).froz _
    have hset:Hid (∀d1 d2:Nat,Own ((wr.setCell ⟨w.heap.size,j+1,none⟩ (.int .u32 (d1:Int))).setCell ⟨w.heap.size,j,none⟩ (.int .u32 (d2:Int))) w.heap.size l.length ((L.set (j+1) d1).set j d2)):=fun d1 d2=>(hown.set (j+1) d1).set j d2
    have hbw2:Hid (∀u u',Below w.heap.size w ((wr.setCell ⟨w.heap.size,j+1,none⟩ u).setCell ⟨w.heap.size,j,none⟩ u')):=fun u u'=>(hbw.setCell (Nat.le_refl _) u).setCell (Nat.le_refl _) u'
    have hsm2:Hid (∀d1 d2,d1<4294967296->d2<4294967296->je ((L.set (j+1) d1).set j d2)):=fun d1 d2 h1 h2=>zc (zc hsm.out h1) h2
    have hno2:Hid (∀d1 d2,qf ((L.set (j+1) d1).set j d2) (j+1+1)):=fun d1 d2=>J2 (zH hno.out) (by omega)
    have hlow2:Hid (∀d1 d2,d1<2 ^ (32 - n)->∀i,j+1+1=i+1->((L.set (j+1) d1).set j d2).getD i 0<2 ^ (32 - n)):=fun d1 d2 h i e=>by
     have:i=j+1:=by omega
     subst this;rw [List.getD,List.getElem?_set_ne (by omega),List.getElem?_set_self (by omega)];exact h
    rw [<-p3] at o1 o2;rw [<-p2] at p5 p7;have P5:=jb p5;clear hval hsm hno hown hbw hlow p1 p2 p3 p4 p5 hz;generalize L.getD j 0=z at *;generalize l.getD (j+1) 0=x at *;generalize x*2 ^ (32 - n)=wd at *;have q1:(wd:Int) % 4294967296=((wd % 4294967296:Nat):Int):=by omega
    have q2:(wd:Int) / 4294967296=((wd / 4294967296:Nat):Int):=by omega
    generalize wd % 4294967296=lo at *;generalize wd / 4294967296=hg at *;have c4:=c3 hg;have f4:=f3 hg;clear c3 f3;generalize z+lo=d1 at *;have e0:((j+1:Nat):Int) - 1=(j:Int):=by omega
    have i2:(j:Int)<(l.length:Int):=by omega
    go_wp2;go_roundw
    case rel=>exact⟨j+1+1,(L.set (j+1) hg).set j d1,by go_num,by omega,by simp [hll],hsm2.out _ _ p7 o2,hno2.out _ _,hlow2.out _ _ (ja P5),hval2,hset.out _ _,hbw2.out _ _⟩
    case measure=>simp only [intOf];omega
  ·have hkl2:k=l.length:=by omega
   have e:Hid (jc L=jc l / 2 ^ n):=by show _=_;rw [hval.out,hkl2,List.take_length]
   clear hval hno hlow hkl2;go_wp2;go_ret;refine⟨L,?_,hll,hsm.out,e.out,?_,hbw⟩
   ·rw [hll];rfl
   ·rw [hll];exact hown
open Go.RowKit
theorem jeT (x:Nat):x<2 ^ bits x:=by
 induction x using Nat.strongRecOn with
 | ind x ih=>
  by_cases h:x=0
  ·subst h;rw [zd];simp
  ·rw [zk h,Nat.pow_succ]
   have:=ih (x / 2) (by omega);omega
theorem jiQ {x:Nat}:x≠0->2 ^ bits x<=2*x:=by
 induction x using Nat.strongRecOn with
 | ind x ih=>
  intro h;rw [zk h,Nat.pow_succ]
  by_cases h2:x / 2=0
  ·rw [h2,zd];omega
  ·have:=ih (x / 2) (by omega) h2
   omega
theorem Yl {x:Nat}(h:x≠0):1<=bits x:=by rw [zk h];omega
theorem jhr {n t:Nat}(h:(jh n).length=t+1):∀s,s=32 - bits ((jh n).getD t 0)->2147483648*4294967296 ^ t<=n*2 ^ s/\n*2 ^ s<4294967296 ^ (t+1)/\s<=31:=by
 intro s hs;have h0:n≠0:=by intro e;rw [e,jI] at h;simp at h
 have hl:=QF h0;rw [h,Nat.add_sub_cancel] at hl;have hw:=jG (jn n) t;obtain⟨x,e,hx⟩:=Jc (jh n) t (jn n);rw [ju,qu,List.drop_of_length_le (by omega),show jc []=0 from rfl,Nat.mul_zero,Nat.add_zero] at e;generalize (jh n).getD t 0=b at *;have b1:=jeT b;have b2:=jiQ hl;have b3:=Yl hl;have b4:bits b<=32:=J0 (k:=32) hw;have e2:2 ^ bits b*2 ^ s=4294967296:=by rw [<-Nat.pow_add,show bits b+s=32 by omega]
 have hp:0<2 ^ s:=Nat.pow_pos (by omega);have u1:4294967296<=2*b*2 ^ s:=by rw [<-e2];exact Nat.mul_le_mul_right _ b2
 have u2:(b+1)*2 ^ s<=4294967296:=by rw [<-e2];exact Nat.mul_le_mul_right _ b1
 have u3:2147483648<=b*2 ^ s:=by rw [Nat.mul_assoc] at u1;omega
 refine⟨?_,?_,by omega⟩
 ·have v1:4294967296 ^ t*b*2 ^ s<=n*2 ^ s:=Nat.mul_le_mul_right _ (by omega)
  have v2:4294967296 ^ t*2147483648<=4294967296 ^ t*(b*2 ^ s):=Nat.mul_le_mul_left _ u3;rw [<-Nat.mul_assoc] at v2;rw [Nat.mul_comm];omega
 ·have v1:n*2 ^ s<(4294967296 ^ t*(b+1))*2 ^ s:=Nat.mul_lt_mul_of_pos_right (by rw [Nat.mul_add,Nat.mul_one];omega) hp
  have v2:4294967296 ^ t*((b+1)*2 ^ s)<=4294967296 ^ t*4294967296:=Nat.mul_le_mul_left _ u2;rw [<-Nat.mul_assoc] at v2;rw [Nat.pow_succ];omega
theorem jfX {R:List Nat}{i t d:Nat}(sR:je R)(hl:i+t+2<=R.length)(hd:d<4294967296 ^ (t+1))(hlt:jc (R.drop (i+1))<d) :
  R=R.take i++((R.drop i).take (t+2)++(R.drop i).drop (t+2))/\(R.take i).length=i/\((R.drop i).take (t+2)).length=t+2/\je ((R.drop i).take (t+2))/\jc ((R.drop i).drop (t+2))=0/\jc ((R.drop i).take (t+2))<d*4294967296:=by
 have e1:(R.drop i).drop (t+2)=(R.drop (i+1)).drop (t+1):=by rw [List.drop_drop,List.drop_drop];congr 1;omega
 have h0:jc ((R.drop i).drop (t+2))=0:=by
  rw [e1,QD _ _ (JX sR _)];exact Nat.div_eq_of_lt (by omega)
 have hv:=qd ((R.drop i).take (t+2)) ((R.drop i).drop (t+2));rw [List.take_append_drop,h0,Nat.mul_zero,Nat.add_zero] at hv;refine⟨by rw [List.take_append_drop,List.take_append_drop],by rw [List.length_take];omega,by rw [List.length_take,List.length_drop];omega,Jb (JX sR _) _,h0,?_⟩;rw [<-hv,qu];have:=jG sR i;omega
theorem jgF {R M':List Nat}{i t d q X m:Nat}(sR:je R)(hl:i+t+2<=R.length)(h0:jc ((R.drop i).drop (t+2))=0)(hM:M'.length=t+2)(hd0:0<d)
  (hm:jc M'=jc ((R.drop i).take (t+2)) % d) (hq:q=jc ((R.drop i).take (t+2)) / d) (h:jc R+d*4294967296 ^ (i+1)*X=m) :
  jc (R.take i++(M'++(R.drop i).drop (t+2)))+d*4294967296 ^ i*(q+4294967296*X)=m/\jc ((R.take i++(M'++(R.drop i).drop (t+2))).drop i)<d:=by
 have hi:(R.take i).length=i:=by rw [List.length_take];omega
 have e1:jc (M'++(R.drop i).drop (t+2))=jc M':=by rw [qd,h0,Nat.mul_zero,Nat.add_zero]
 have e2:(R.take i++(M'++(R.drop i).drop (t+2))).drop i=M'++(R.drop i).drop (t+2):=by rw [List.drop_append_of_le_length (by omega),List.drop_of_length_le (by omega),List.nil_append]
 rw [e2,e1];refine⟨?_,by rw [hm];exact Nat.mod_lt _ hd0⟩
 have hR:jc R=jc (R.take i)+4294967296 ^ i*jc ((R.drop i).take (t+2)):=by
  have h1:=qd (R.take i) (R.drop i);rw [List.take_append_drop,hi] at h1;have h2:=qd ((R.drop i).take (t+2)) ((R.drop i).drop (t+2));rw [List.take_append_drop,h0,Nat.mul_zero,Nat.add_zero] at h2;rw [h1,h2]
 rw [qd,hi,e1,hm,<-h,hR];generalize jc ((R.drop i).take (t+2))=y at *;have hdm:=Nat.div_add_mod y d;rw [<-hq] at hdm
 have a1:d*4294967296 ^ i*(q+4294967296*X)=4294967296 ^ i*(d*q)+d*4294967296 ^ (i+1)*X:=by
  rw [Nat.mul_add,Nat.pow_succ]
  congr 1
  ·rw [Nat.mul_comm d,Nat.mul_assoc]
  ·rw [Nat.mul_assoc,Nat.mul_assoc,Nat.mul_assoc]
 have a2:4294967296 ^ i*(y % d)+4294967296 ^ i*(d*q)=4294967296 ^ i*y:=by rw [<-Nat.mul_add,Nat.add_comm,hdm]
 omega
theorem jgW {Q:List Nat}{i q:Nat}(hi:i<Q.length):jc ((Q.set i q).drop i)=q+4294967296*jc (Q.drop (i+1)):=by
 rw [qu]
 congr 1
 ·rw [List.getD,List.getElem?_set_self hi];rfl
 ·rw [List.drop_set,if_pos (by omega)]
theorem jdA {m n s t a:Nat}(h:2147483648*4294967296 ^ t<=n*2 ^ s)(hs:s<=31)(hm:m<4294967296 ^ (a+t)):m*2 ^ s / 4294967296 ^ a<n*2 ^ s:=by
 have h31:2 ^ s<=2147483648:=Nat.pow_le_pow_right (n:=2) (by omega) hs;have hp:0<2 ^ s:=Nat.pow_pos (by omega);have h1:m*2 ^ s<4294967296 ^ (a+t)*2 ^ s:=Nat.mul_lt_mul_of_pos_right hm hp;have h2:4294967296 ^ (a+t)*2 ^ s<=4294967296 ^ (a+t)*2147483648:=Nat.mul_le_mul_left _ h31
 have h3:m*2 ^ s / 4294967296 ^ a<4294967296 ^ t*2147483648:=by
  apply Nat.div_lt_of_lt_mul
  rw [<-Nat.mul_assoc,<-Nat.pow_add];omega
 rw [Nat.mul_comm] at h;omega
theorem jhS {m n s r q:Nat}(h:r+n*2 ^ s*q=m*2 ^ s)(hr:r<n*2 ^ s):q=m / n/\r / 2 ^ s=m % n:=by
 have hp:0<2 ^ s:=Nat.pow_pos (by omega);have h1:m*2 ^ s / (n*2 ^ s)=q:=by rw [<-h,Nat.add_comm,Nat.mul_add_div (by omega),Nat.div_eq_of_lt hr];omega
 have h2:m*2 ^ s % (n*2 ^ s)=r:=by rw [<-h,Nat.add_comm,Nat.mul_add_mod,Nat.mod_eq_of_lt hr]
 rw [Nat.mul_div_mul_right _ _ hp] at h1;rw [Nat.mul_mod_mul_right] at h2;refine⟨h1.symm,?_⟩;rw [<-h2,Nat.mul_div_cancel _ hp]
open Go.RowKit
theorem jby (d q:Nat):d*4294967296 ^ 0*q=d*q:=by rw [Nat.pow_zero,Nat.mul_one]
theorem Yv (w:World)(va vb:Value)(m n t:Nat)(hA:WBig w va m)(hB:WBig w vb n)(hnt:(jh n).length=t+1)(hle:n<=m)(lm:(jh m).length<=300000) :
  Calls Tryz.prog 263 #[va,vb] w fun e w'=>∃v1 v2 Q R,e=.returned (.tuple #[v1,v2])/\WSl w' v1 Q/\WSl w' v2 R/\je Q/\je R/\Q.length<=400000/\R.length<=400000/\jc Q=m / n/\jc R=m % n/\Below w.heap.size w w':=by
 obtain⟨i0,hi,hz0,hz1,hz2⟩:=info_parts jbZ;have hBv:=hB;have hAv:=hA;obtain⟨aa,ca,rfl,hca,ra⟩:=hA;obtain⟨ab,cb,rfl,hcb,rb⟩:=hB;have hlen:=ZH hle;have hn0:n≠0:=by intro e;rw [e,jI] at hnt;simp at hnt
 have hl:=QF hn0;rw [hnt,Nat.add_sub_cancel] at hl;have hw:=jG (jn n) t;obtain⟨b3,o3,rfl,hb3,hc3⟩:=rb (fun e=>hn0 (Yx.1 e));have c3:=hc3 t (by omega);have K1:=jb (jdb ((jh n).getD t 0) w hw);obtain⟨s,hs⟩:∃s,s=32 - bits ((jh n).getD t 0):=⟨_,rfl⟩
 obtain⟨N1,N2,N3⟩:=jhr hnt s hs;rw [<-hs] at K1;have hml:=JY m;obtain⟨a,ha⟩:∃a,(jh m).length=a+t:=⟨(jh m).length - t,by omega⟩
 have hst:m*2 ^ s / 4294967296 ^ a<n*2 ^ s:=jdA N1 N3 (by rw [<-ha];exact hml);have K2:=jb (Jv w (.slice (some ⟨b3,o3,none⟩) (jh n).length cb) (jh n) s ⟨_,cb,rfl,hcb,rb⟩ (jn n) (by omega) (by omega))
 have hDl:(jh (n*2 ^ s)).length=t+1:=by
  have h1:=za N2
  have h2:4294967296 ^ t<=n*2 ^ s:=by
   have:1*4294967296 ^ t<=2147483648*4294967296 ^ t:=Nat.mul_le_mul_right _ (by omega);omega
  have h3:=Ya h2;omega
 have hdpos:0<n*2 ^ s:=Nat.mul_pos (by omega) (Nat.pow_pos (by omega))
 have hDt:(jh (n*2 ^ s)).getD t 0≠0:=by
  have h:=QF (n:=n*2 ^ s) (by omega);rwa [hDl,Nat.add_sub_cancel] at h
 have HEND:Hid (∀r q,r+n*2 ^ s*q=m*2 ^ s->r<n*2 ^ s->q=m / n/\r / 2 ^ s=m % n):=fun r q h1 h2=>jhS h1 h2
 rw [ju] at K2;have HML:=jb (ju m);have HNT:=jb hnt;rw [hnt];rw [hnt] at K2;have e0:((t+1:Nat):Int) - 1=(t:Int):=by omega
 have htl:t<=300000:=by omega
 have hal:a<=300000:=by omega
 have hat:a+t<=300000:=by omega
 have HST:=jb hst;have HN2:=jb N2;have HHA:=jb ha;clear hc3 rb hcb hlen hl hs N1 N2 hml hst ha hnt;generalize (jh n).getD t 0=bt at *
 go_enter Tryz.func263,Tryz.ntmps263
 go_wp2_with fail
 refine(ja K1).mono ?_
 rintro e w1 ⟨rfl,rfl⟩
 clear K1
 go_wp2_with fail
 refine(ja K2).mono ?_
 rintro e w2 ⟨L1,rfl,hL1,sL1,hv1,own1,b2⟩
 have hL1':L1.length=t+2:=by omega
 have C3:=jb (j5 w2 (some ⟨w1.heap.size,0,none⟩) L1 L1.length (by omega) (Nat.le_refl _) own1.row sL1);have R3:=own1.row.cut sL1;rw [hv1] at C3 R3;rw [hDl] at C3;rw [hL1'] at C3;rw [hL1'];clear K2 hv1 sL1 hL1
 go_wp2_with fail
 refine(ja C3).mono ?_
 rintro e w3 ⟨rfl,rfl⟩
 have K4:=jb (Jv w3 (.slice aa (jh m).length ca) (jh m) s (hAv.below b2) (jn m) (by omega) (by omega));rw [ja HML] at K4;clear C3
 go_wp2_with fail
 refine(ja K4).mono ?_
 rintro e w4 ⟨L2,rfl,hL2,sL2,hv2,own2,b4⟩
 have hs0:s / 32=0:=by omega
 have hL2':L2.length=a+t+1:=by rw [hL2,ja HHA,hs0]
 have hlt1:w1.heap.size<w3.heap.size:=own1.lt;have R4:=R3.below b4;have b14:=b2.trans (b4.mono b2.size);rw [hL2'] at own2;rw [hL2'];clear K4 R3 own1 hL2 hs0 hL1'
 go_wp2_with (at_make;refine wpList_make_full _ rfl _ _ 168 rfl w4.heap.size 222 i0 (.int .u32 0) 1 Tryz.underlying168 hi hz0 hz1 _ _ _ _ a rfl rfl (by omega) (by omega) ?b2 ?b3 ?b4 ?_)
 case b2=>rw [hz2];omega
 case b3=>unfold maxLen;omega
 case b4=>exact Nat.le_refl _
 intro w5 hown5 hgrow5;have b45:Below w4.heap.size w4 w5:=(Below.refl _ w4).grown hgrow5 (Nat.le_refl _) (fun k h=>by cases h);have own5:Own w5 w4.heap.size a (List.replicate a 0):=Zl hown5;have hlt2:w3.heap.size<w4.heap.size:=own2.lt;have R5:=R4.below b45;have own25:=own2.below b45;have b15:=b14.trans (b45.mono b14.size);clear hgrow5 hown5 R4 own2 b14 b45 b4 b2
 have HS0:Hid (jc L2+n*2 ^ s*4294967296 ^ a*jc ((List.replicate a 0).drop a)=m*2 ^ s):=by
  show _=_
  rw [List.drop_of_length_le (by simp),show jc []=0 from rfl,Nat.mul_zero,Nat.add_zero,hv2]
 have HS1:Hid (jc (L2.drop a)<n*2 ^ s):=by
  show _<_
  rw [QD _ _ sL2,hv2];exact ja HST
 clear HST hv2;have HSD:=jb (jn (n*2 ^ s));have HVD:=jb (ju (n*2 ^ s))
 have HMID:Hid (∀(R:List Nat) (i:Nat),je R->R.length=a+t+1->i<a->jc (R.drop (i+1))<n*2 ^ s->R=R.take i++((R.drop i).take (t+2)++(R.drop i).drop (t+2))/\(R.take i).length=i/\((R.drop i).take (t+2)).length=t+2/\je ((R.drop i).take (t+2))/\jc ((R.drop i).drop (t+2))=0/\jc ((R.drop i).take (t+2))<n*2 ^ s*4294967296) :=
  fun R i h1 h2 h3 h4=>jfX h1 (by omega) (ja HN2) h4
 generalize jh (n*2 ^ s)=D at *;generalize hds:n*2 ^ s=d at *;have HDS:=jb hds;clear hds HN2;generalize hg2:w3.heap.size=g2 at *;generalize hg4:w4.heap.size=g4 at *;clear hg2 hg4
 go_wp2_with fail
 go_loopw [10] (fun i wr=>∃(j:Nat) (R Q:List Nat),i=.int .i64 ((j:Int) - 1)/\j<=a/\R.length=a+t+1/\Q.length=a/\Hid (je R)/\Hid (je Q)/\Hid (jc R+d*4294967296 ^ j*jc (Q.drop j)=m*2 ^ s)/\Hid (jc (R.drop j)<d)/\
  Hid (Own wr g2 (a+t+1) R)/\Hid (Own wr g4 a Q)/\Hid (RowU wr (some ⟨w1.heap.size,0,none⟩) D)/\Below w1.heap.size w1 wr) (fun i _=>(intOf i+1).toNat)
 case atStart=>exact⟨a,L2,List.replicate a 0,rfl,Nat.le_refl _,hL2',by simp,sL2,J3 _,HS0,HS1,own25,own5,R5,b15⟩
 case round=>
  clear own25 own5 R5 b15 HS0 HS1 sL2 hL2';obtain⟨j,R,Q,rfl,hja,hRl,hQl,sR,sQ,hval,hless,hoR,hoQ,hrD,hbw⟩:=hrel;cases j with
  | zero=>
   have hfin:Hid (jc Q=m / n/\jc R / 2 ^ s=m % n):=by
    have h:=hval.out;have h2:=hless.out;rw [jby,List.drop_zero] at h;rw [List.drop_zero] at h2;exact HEND.out _ _ h h2
   have C6:=jb (j5 wr (some ⟨g2,0,none⟩) R (a+t+1) (by omega) (by omega) (ja hoR).row sR.out);have hw6:WSl wr (.slice (some ⟨g2,0,none⟩) (jh (jc R)).length (a+t+1)) (jh (jc R)):=⟨_,_,rfl,by have:=jp sR.out;omega,(ja hoR).row.cut sR.out⟩
   have hl6:(jh (jc R)).length<=400000:=by have:=jp sR.out;omega
   have C7:=jb (XY wr _ _ s hw6 (jn _) hl6 (by omega));rw [ju,hfin.out.2] at C7;have HWQ:Hid (WSl wr (.slice (some ⟨g4,0,none⟩) a a) Q):=⟨_,_,by rw [hQl],by omega,(ja hoQ).row⟩
   rw [hRl] at C6;clear hval hless hoR hoQ hrD hw6;generalize (jh (jc R)).length=lr at *
   go_wp2_with fail
   refine(ja C6).mono ?_
   rintro e w6 ⟨rfl,rfl⟩
   go_wp2_with fail
   refine(ja C7).mono ?_
   rintro e w7 ⟨L3,rfl,hL3,sL3,hv3,own3,b7⟩
   have HF:Hid (WSl w7 (.slice (some ⟨w6.heap.size,0,none⟩) L3.length L3.length) L3):=⟨_,_,rfl,Nat.le_refl _,own3.row⟩
   have HWQ7:=jb ((ja HWQ).below b7);have b17:=hbw.trans (b7.mono hbw.size);have HL3:=jb hL3;clear own3 C7 C6 hL3;go_wp2;go_ret2;exact⟨.slice (some ⟨g4,0,none⟩) a a,.slice (some ⟨w6.heap.size,0,none⟩) L3.length L3.length,Q,L3,rfl,ja HWQ7,ja HF,sQ.out,sL3,by omega,by have:=ja HL3;omega,hfin.out.1,hv3,b17⟩
  | succ i=>
   have e1:((i+1:Nat):Int) - 1=(i:Int):=by omega
   rw [e1];obtain⟨m1,m2,m3,m4,m5,m6⟩:=HMID.out R i sR.out hRl (by omega) hless.out;have hoR2:=ja hoR;rw [m1] at hoR2
   have hne:D≠[]->(Value.slice (some ⟨w1.heap.size,0,none⟩) (t+1) (t+2)).ownBlock≠some g2:=fun _ e=>by
    have e':some w1.heap.size=some g2:=e;simp at e';omega
   have hwD:WSl wr (.slice (some ⟨w1.heap.size,0,none⟩) (t+1) (t+2)) D:=⟨_,_,by rw [hDl],by omega,ja hrD⟩
   have KD:∀ca',Hid _:=fun ca'=>jb (YR wr g2 (a+t+1) i ca' t (R.take i) ((R.drop i).take (t+2)) ((R.drop i).drop (t+2)) D _ m2 m3 hDl hDt (by omega) m4 HSD.out (by rw [HVD.out];exact m6) hoR2 hwD hne)
   have hqW:jc ((R.drop i).take (t+2)) / jc D<4294967296:=Nat.div_lt_of_lt_mul (by rw [HVD.out];exact m6)
   have HNX:Hid (∀(M':List Nat) (q:Nat),M'.length=t+2->jc M'=jc ((R.drop i).take (t+2)) % jc D->q=jc ((R.drop i).take (t+2)) / jc D->jc (R.take i++(M'++(R.drop i).drop (t+2)))+d*4294967296 ^ i*(q+4294967296*jc (Q.drop (i+1)))=m*2 ^ s/\jc ((R.take i++(M'++(R.drop i).drop (t+2))).drop i)<d):=fun M' q h1 h2 h3=>by
    rw [HVD.out] at h2 h3;exact jgF sR.out (by omega) m5 h1 hdpos h2 h3 hval.out
   have HLN:Hid (∀M':List Nat,M'.length=t+2->(R.take i++(M'++(R.drop i).drop (t+2))).length=a+t+1):=fun M' h=>by
    rw [List.length_append,List.length_append,h,m2,List.length_drop,List.length_drop];omega
   have HWD:Hid (∀M':List Nat,je M'->je (R.take i++(M'++(R.drop i).drop (t+2)))):=fun M' h=>zh.2 ⟨Jb sR.out _,zh.2 ⟨h,JX (JX sR.out _) _⟩⟩
   have HQN:Hid (∀q,jc ((Q.set i q).drop i)=q+4294967296*jc (Q.drop (i+1))):=fun q=>jgW (by omega)
   have HQS:Hid (∀q,q<4294967296->je (Q.set i q)):=fun q h=>zc sQ.out h
   have i1:(i:Int)<(a:Int):=by omega
   have i2:(i:Int)<=(i:Int)+((t:Int)+1)+1:=by omega
   have i3:(i:Int)+((t:Int)+1)+1<=((a+t+1:Nat):Int):=by omega
   generalize hqq:jc ((R.drop i).take (t+2)) / jc D=q at *;have HQQ:=jb hqq;clear hqq m1 m2 m3 m4 m5 m6 hoR hoR2 hval hless sR hwD hne hRl
   go_wp2_with fail
   rw [show i+(t+1)+1 - i=t+2 by omega];refine(ja (KD _)).mono ?_
   rintro e w6 ⟨M',rfl,hM',sM',hvM',own6,hgr6⟩
   have hoQ6:=(ja hoQ).kept hgr6 (by omega);have hrD6:=(ja hrD).kept hgr6 (fun b o s e=>by simp at e;omega);have b6:Below w1.heap.size w1 w6:=hbw.trans (Ql hgr6 (by omega) hbw.size);have cQ:=hoQ6.cell i (by omega);have fQ:=hoQ6.froz i;have hset:Hid (Own (w6.setCell ⟨g4,i,none⟩ (.int .u32 (q:Int))) g4 a (Q.set i q)):=hoQ6.set i q;have hgr7:w6.grownBy (w6.setCell ⟨g4,i,none⟩ (.int .u32 (q:Int))) (some g4):=JZ (qY _ _) _ _;have hoR7:=jb (own6.kept hgr7 (by omega));have hrD7:=jb (hrD6.kept hgr7 (fun b o s e=>by simp at e;omega));have b7:Hid (Below w1.heap.size w1 (w6.setCell ⟨g4,i,none⟩ (.int .u32 (q:Int)))):=b6.setCell (by show w1.heap.size<=g4;omega) _;have HN:=jb (HNX.out M' q hM' hvM' rfl);have HL:=jb (HLN.out M' hM');have HWM:=jb (HWD.out M' sM');clear hoQ6 hrD6 b6 hgr7 own6 hgr6 KD hvM' hM' sM' HNX HLN HWD;generalize Q.getD i 0=qz at *
   go_wp2;go_roundw
   case rel=>
    refine⟨i,R.take i++(M'++(R.drop i).drop (t+2)),Q.set i q,by go_num,by omega,ja HL,by rw [List.length_set];exact hQl,ja HWM,HQS.out q hqW,?_,(ja HN).2,ja hoR7,hset,ja hrD7,ja b7⟩
    show _=_
    rw [HQN.out q];exact(ja HN).1
   case measure=>simp only [intOf];omega
open Go.RowKit
theorem Zu (w:World)(x:Nat):RowU (w.alloc (.cells #[.int .u32 (x:Int)] 222)) (some ⟨w.heap.size,0,none⟩) [x]:=fun _=>by
 refine⟨w.heap.size,0,rfl,by simp,fun j hj=>?_⟩;have:j=0:=by simp at hj;exact hj
 subst this;exact cell_one_new _ _ _ 0 _ rfl
theorem jii (w:World)(n:Nat)(h:n=0):WBig w (.slice none 0 0) n:=by
 subst h;exact⟨none,0,by rw [jI];rfl,by rw [jI];simp,by rw [jI];exact fun h=>absurd rfl h⟩
theorem jjv (w:World)(v u:Value)(l k:List Nat)(hu:WSl w u k)(sk:je k)(lk:k.length<=300000)(h0:jc k=0) :
  Calls Tryz.prog 236 #[v,u] w fun e w'=>∃a c a' c',e=.returned (.tuple #[.slice a 0 c,.slice a' 0 c',.int .i64 1])/\Below w.heap.size w w':=by
 obtain⟨ab,cb,rfl,hcb,rb⟩:=hu;have K1:=jb (j5 w ab k cb (by omega) hcb rb sk);rw [h0,jI] at K1
 go_enter Tryz.func236,Tryz.ntmps236
 go_wp2_with fail
 refine(ja K1).mono ?_
 rintro e w1 ⟨rfl,rfl⟩
 go_wp2
 go_ret3
 exact⟨_,_,_,_,rfl,Below.refl _ _⟩
theorem jfa (w:World)(v u:Value)(l k:List Nat)(hv:WSl w v l)(hu:WSl w u k)(sl:je l)(sk:je k)(ll:l.length<=300000)(lk:k.length<=300000)(h0:jc k≠0) :
  Calls Tryz.prog 236 #[v,u] w fun e w'=>∃v1 v2,e=.returned (.tuple #[v1,v2,.int .i64 0])/\WBig w' v1 (jc l / jc k)/\WBig w' v2 (jc l % jc k)/\Below w.heap.size w w':=by
 obtain⟨ab,cb,rfl,hcb,rb⟩:=hu;have K1:=jb (j5 w ab k cb (by omega) hcb rb sk);have hub:WSl w (.slice ab (jh (jc k)).length cb) (jh (jc k)):=⟨_,_,rfl,Nat.le_trans (jp sk) hcb,rb.cut sk⟩
 have lB:(jh (jc k)).length<=300000:=Nat.le_trans (jp sk) lk;have K2:=jb (jjg w v _ l _ hv hub sl (jn (jc k)) (by omega) (by omega));rw [ju] at K2;have hp:=zK h0;have hz:(((jh (jc k)).length:Nat) == 0)=false:=beq_false_of_ne (by omega);have hz':((((jh (jc k)).length:Nat):Int) == 0)=false:=beq_false_of_ne (by omega);have hmL:=jp sl;generalize hm:jc l=m at *;generalize hn:jc k=n at *;have HM:=jb hm;clear hm hn rb hcb
 by_cases hlt:m<n
 ·rw [ZJ hlt] at K2
  have HQ:Hid (m / n=0/\m % n=m):=⟨Nat.div_eq_of_lt hlt,Nat.mod_eq_of_lt hlt⟩
  generalize hq:m / n=q at *;generalize hr:m % n=r at *;clear hq hr
  go_enter Tryz.func236,Tryz.ntmps236
  go_wp2_with fail
  refine(ja K1).mono ?_
  rintro e w1 ⟨rfl,rfl⟩
  go_wp2_with fail
  refine(ja K2).mono ?_
  rintro e w2 ⟨rfl,b2⟩
  have K3:=jb (jdc w2 v l (hv.below b2) sl (by omega));rw [ja HM] at K3;clear K1 K2
  go_wp2_with fail
  refine(ja K3).mono ?_
  rintro e w3 ⟨v3,rfl,hown3,b3⟩
  have HB:Hid (WBig w3 v3 r):=by show WBig w3 v3 r;rw [HQ.out.2];exact jjh hown3
  clear hown3 K3;go_wp2
  go_ret3
  exact⟨_,_,rfl,jii _ _ HQ.out.1,ja HB,b2.trans (b3.mono b2.size)⟩
 ·have hs:=jjw (show n<=m by omega)
  generalize sgn m n=s at *;have hs':¬(s<0):=by omega
  have hm0:m≠0:=by omega
  by_cases h1:(jh n).length=1
  ·obtain⟨x,hx⟩:∃x,jh n=[x]:=by
    cases e:jh n with
    | nil=>rw [e] at h1;simp at h1
    | cons y t=>
     cases t with
     | nil=>exact⟨y,rfl⟩
     | cons z t=>rw [e] at h1;simp at h1
   have hxw:x<4294967296:=by
    have h:=jG (jn n) 0;rw [hx] at h;exact h
   have hxn:x=n:=by
    have h:=ju n;rw [hx,zf] at h;exact h
   have hx0:x≠0:=by omega
   obtain⟨ab',cb',e',hcb',rb'⟩:=hub;cases e'
   rw [hx] at rb';obtain⟨b3,o3,rfl,hb3,hc3⟩:=rb' (by simp);have c3:w.cell? ⟨b3,o3,none⟩=some (.int .u32 (x:Int)):=hc3 0 (by simp)
   have sD:=jn m;have hD0:jh m≠[]:=fun e=>hm0 (Yx.1 e)
   have HVD:=jb (ju m);have lD:(jh m).length<=300000:=by omega
   rw [h1] at K1 K2;rw [<-hxn];have HRX:Hid (m % x<x):=Nat.mod_lt _ (by omega);clear hc3 rb' hcb' hz hz' hp hx hxn h1 lB h0 hlt hs hm0;generalize hq:m / x=q at *;generalize hr:m % x=r at *;have HQ:=jb hq;have HR:=jb hr;have hrx:r<x:=HRX.out;clear hq hr
   go_enter Tryz.func236,Tryz.ntmps236
   go_wp2_with fail
   refine(ja K1).mono ?_
   rintro e w1 ⟨rfl,rfl⟩
   go_wp2_with fail
   refine(ja K2).mono ?_
   rintro e w2 ⟨rfl,b2⟩
   have K3:=jb (jdc w2 v l (hv.below b2) sl (by omega));rw [ja HM] at K3;clear K1 K2
   go_wp2_with fail
   refine(ja K3).mono ?_
   rintro e w3 ⟨v3,rfl,hown3,b3'⟩
   obtain⟨g,c,rfl,own3,hg⟩:=jjy hown3 hD0;have b13:=b2.trans (b3'.mono b2.size);have hgw:w1.heap.size<=g:=Nat.le_trans b2.size hg;have c4:w3.cell? ⟨b3,o3,none⟩=some (.int .u32 (x:Int)):=jga b13 c3
   have k4:=ZE w3 g c c x (jh m) [] (by omega) sD hx0 hxw (by rw [List.append_nil];exact own3);rw [ja HVD,ja HQ,ja HR] at k4;have K4:=jb k4;clear k4 own3 hown3 K3 c3 b2 b3'
   go_wp2_with fail
   refine(ja K4).mono ?_
   rintro e w4 ⟨M',rfl,hM',sM',hvM',own4,hgr4⟩
   rw [List.append_nil] at own4;have b14:Below w1.heap.size w1 w4:=b13.trans (Ql hgr4 hgw b13.size);have C5:=jb (j5 w4 (some ⟨g,0,none⟩) M' c (by omega) own4.cap own4.row sM')
   have HW5:Hid (RowU w4 (some ⟨g,0,none⟩) (jh q)/\(jh q).length<=c):=by
    refine⟨?_,?_⟩
    ·rw [<-hvM'];exact own4.row.cut sM'
    ·rw [<-hvM'];exact Nat.le_trans (jp sM') own4.cap
   rw [hM',hvM'] at C5;have C6:=jb (j5 (w4.alloc (.cells #[.int .u32 (r:Int)] 222)) (some ⟨w4.heap.size,0,none⟩) [r] 1 (by simp) (by simp) (Zu w4 r) (q9 (by omega)))
   have HW6:Hid (RowU (w4.alloc (.cells #[.int .u32 (r:Int)] 222)) (some ⟨w4.heap.size,0,none⟩) (jh r)/\(jh r).length<=1):=by
    have h1:=(Zu w4 r).cut (q9 (by omega));have h2:=jp (q9 (show r<4294967296 by omega));rw [zf] at h1 h2;exact⟨h1,h2⟩
   rw [zf] at C6;have b15:Below w1.heap.size w1 (w4.alloc (.cells #[.int .u32 (r:Int)] 222)):=b14.alloc b14.size _;have HW5':Hid (RowU (w4.alloc (.cells #[.int .u32 (r:Int)] 222)) (some ⟨g,0,none⟩) (jh q)):=HW5.out.1.below ((Below.refl _ w4).alloc (Nat.le_refl _) _);clear hvM' hM' sM' own4 hgr4 K4
   go_wp2_with fail
   refine(ja C5).mono ?_
   rintro e w5 ⟨rfl,rfl⟩
   go_wp2_with fail
   refine(ja C6).mono ?_
   rintro e w6 ⟨rfl,rfl⟩
   go_wp2
   go_ret3
   exact⟨.slice (some ⟨g,0,none⟩) (jh q).length c,.slice (some ⟨w5.heap.size,0,none⟩) (jh r).length 1,rfl,⟨_,_,rfl,HW5.out.2,HW5'.out⟩,⟨_,_,rfl,HW6.out.2,HW6.out.1⟩,b15⟩
  ·obtain⟨t,ht⟩:∃t,(jh n).length=t+1:=⟨(jh n).length - 1,by omega⟩
   have h1':((((jh n).length:Nat):Int) == 1)=false:=beq_false_of_ne (by omega);have h1n:(((jh n).length:Nat) == 1)=false:=beq_false_of_ne (by omega);obtain⟨aa,ca,rfl,hca,ra⟩:=hv;have hle:n<=m:=by omega
   have hlm:(jh m).length<=300000:=by omega
   have HT:=jb ht;generalize hq:m / n=q at *;generalize hr:m % n=r at *;have HQ:=jb hq;have HR:=jb hr;clear hq hr ht h0 hlt hs hm0
   go_enter Tryz.func236,Tryz.ntmps236
   go_wp2_with fail
   refine(ja K1).mono ?_
   rintro e w1 ⟨rfl,rfl⟩
   go_wp2_with fail
   refine(ja K2).mono ?_
   rintro e w2 ⟨rfl,b2⟩
   have ra2:=ra.below b2;have C3:=jb (j5 w2 aa l ca (by omega) hca ra2 sl);have hA:WBig w2 (.slice aa (jh m).length ca) m:=⟨_,_,rfl,by omega,by have h:=ra2.cut sl;rwa [ja HM] at h⟩
   rw [ja HM] at C3;have k4:=Yv w2 _ _ m n t hA (hub.below b2) (ja HT) hle hlm;rw [ja HQ,ja HR] at k4;have K4:=jb k4;clear k4 hA hub K1 K2 ra2
   go_wp2_with fail
   refine(ja C3).mono ?_
   rintro e w3 ⟨rfl,rfl⟩
   go_wp2_with fail
   refine(ja K4).mono ?_
   rintro e w4 ⟨v4,v5,Q,R,rfl,hQ,hR,sQ,sR,lQ,lR,vQ,vR,b4⟩
   have C5:=jb (Zr w4 v4 Q (by omega) hQ sQ);have C6:=jb (Zr w4 v5 R (by omega) hR sR);rw [vQ] at C5;rw [vR] at C6;clear K4 hQ hR sQ sR lQ lR vQ vR
   go_wp2_with fail
   refine(ja C5).mono ?_
   rintro e w5 ⟨v6,rfl,hv6,_,rfl⟩
   go_wp2_with fail
   refine(ja C6).mono ?_
   rintro e w6 ⟨v7,rfl,hv7,_,rfl⟩
   have H6:=jb hv6;have H7:=jb hv7;clear hv6 hv7 C5 C6;go_wp2
   go_ret3
   exact⟨v6,v7,rfl,ja H6,ja H7,b2.trans (b4.mono b2.size)⟩
open Go.RowKit
theorem Xb (w:World)(v:Value)(l:List Nat)(n:Nat)(hv:WSl w v l)(sl:je l)(ll:l.length<=300000)(hn:n<=4000) :
  Calls Tryz.prog 235 #[v,.int .i64 n] w fun e w'=>∃v',e=.returned (.tuple #[v',.int .i64 0])/\WBig w' v' (jc l*2 ^ n)/\Below w.heap.size w w':=by
 have K1:=jb (Zr w v l (by omega) hv sl);have hl1:(jh (jc l)).length<=300000:=Nat.le_trans (jp sl) ll;have hn1:¬(4000<(n:Int)):=by omega
 have hn2:(0:Int)<=(n:Int):=by omega
 generalize hT:jc l*2 ^ n=T at *;have HT:=jb hT;clear hT
 go_enter Tryz.func235,Tryz.ntmps235
 go_wp2_with fail
 refine(ja K1).mono ?_
 rintro e w1 ⟨v1,rfl,hv1,_,rfl⟩
 have k2:=Jv w1 v1 (jh (jc l)) n hv1 (jn _) (by omega) (by omega);rw [ju,ja HT] at k2;have K2:=jb k2;clear k2 K1 hv1 hv
 go_wp2_with fail
 refine(ja K2).mono ?_
 rintro e w2 ⟨L,rfl,hL,sL,hvL,own2,b2⟩
 have K3:=jb (Zr w2 _ L (by omega) ⟨_,_,rfl,Nat.le_refl _,own2.row⟩ sL);rw [hvL] at K3;clear K2 hL hvL sL own2
 go_wp2_with fail
 refine(ja K3).mono ?_
 rintro e w3 ⟨v3,rfl,hv3,_,rfl⟩
 have H3:=jb hv3;clear hv3 K3;go_wp2;go_ret2;exact⟨_,rfl,ja H3,b2⟩
theorem jji (w:World)(v u:Value)(x y:Nat)(hv:WBig w v x)(hu:WBig w u y)(lx:(jh x).length<=400000)(ly:(jh y).length<=400000) :
  Calls Tryz.prog 166 #[v,u] w fun e w'=>∃v',e=.returned v'/\WBig w' v' (x*y)/\Below w.heap.size w w':=by
 have h:=jbT w v u (jh x) (jh y) hv hu (jn x) (jn y) lx ly;rwa [ju,ju] at h
theorem jhA (w:World)(v u:Value)(x y:Nat)(hv:WBig w v x)(hu:WSl w u [y])(hy:y<4294967296)(lx:(jh x).length<=400000) :
  Calls Tryz.prog 166 #[v,u] w fun e w'=>∃v',e=.returned v'/\WBig w' v' (x*y)/\Below w.heap.size w w':=by
 have h:=jbT w v u (jh x) [y] hv hu (jn x) (q9 hy) lx (by simp);rwa [ju,zf] at h
theorem jah {b k:Nat}(hb:b<4294967296):(jh (b ^ k)).length<=k+1:=by
 apply za
 have h1:b ^ k<=4294967296 ^ k:=Nat.pow_le_pow_left (by omega) _;have h2:4294967296 ^ k<4294967296 ^ (k+1):=Nat.pow_lt_pow_right (by omega) (by omega);omega
theorem jgt (n i:Nat):n / 2 ^ i=2*(n / 2 ^ (i+1))+n / 2 ^ i % 2:=by
 have e:n / 2 ^ (i+1)=n / 2 ^ i / 2:=by rw [Nat.div_div_eq_div_mul,Nat.pow_succ]
 rw [e];omega
theorem and_one (x:Nat)(hx:x<=1000):Go.bits .and .i64 (x:Int) 1=((x % 2:Nat):Int):=by
 have h:=bits_mask .i64 62 (by decide) (fun n h1 h2=>by simp [IntKind.wrap,IntKind.bits,IntKind.signed];omega) 1 (by decide) (x:Int) (by omega) (by omega);have e:((2:Int) ^ 1 - 1)=1:=by decide
 rw [e] at h;rw [h];omega
theorem jis (w:World):WBig (w.alloc (.cells #[.int .u32 1] 222)) (.slice (some ⟨w.heap.size,0,none⟩) 1 1) 1:=by
 have e:jh 1=[1]:=by rw [zB (by omega)];simp [jI]
 refine⟨_,1,by rw [e];rfl,by rw [e];simp,?_⟩;rw [e];exact Zu w 1
theorem jiI (w:World)(b n:Nat)(hb:b<4294967296)(hn:n<=1000) :
  Calls Tryz.prog 207 #[.int .u32 b,.int .i64 n] w fun e w'=>∃v',e=.returned (.tuple #[v',.int .i64 0])/\WBig w' v' (b ^ n)/\Below w.heap.size w w':=by
 have hn1:¬((n:Int)<0):=by omega
 have hn2:¬(1000<(n:Int)):=by omega
 have KL:∀wz:World,Hid _:=fun wz=>jb (jdO n wz (by omega))
 have hbits:bits n<=10:=J0 (k:=10) (by omega);have H0:Hid (n / 2 ^ bits n=0):=Nat.div_eq_of_lt (jeT n);generalize bits n=B at *;have hb1:Below w.heap.size w (w.alloc (.cells #[.int .u32 (b:Int)] 222)):=(Below.refl _ w).alloc (Nat.le_refl _) _;have hb2:Below w.heap.size w ((w.alloc (.cells #[.int .u32 (b:Int)] 222)).alloc (.cells #[.int .u32 1] 222)):=hb1.alloc hb1.size _;have hbase:WSl ((w.alloc (.cells #[.int .u32 (b:Int)] 222)).alloc (.cells #[.int .u32 1] 222)) (.slice (some ⟨w.heap.size,0,none⟩) 1 1) [b]:=⟨_,1,rfl,by simp,(Zu w b).below ((Below.refl _ _).alloc (Nat.le_refl _) _)⟩
 have hone:=jis (w.alloc (.cells #[.int .u32 (b:Int)] 222));have hsz:(w.alloc (.cells #[.int .u32 (b:Int)] 222)).heap.size=w.heap.size+1:=by simp
 rw [hsz] at hone;have HBASE:=jb hbase;have HONE:=jb hone;have HB2:=jb hb2;have KZ:=KL ((w.alloc (.cells #[.int .u32 (b:Int)] 222)).alloc (.cells #[.int .u32 1] 222));clear hbase hone hb2 hb1 hsz KL
 go_enter Tryz.func207,Tryz.ntmps207
 go_wp2_with fail
 refine(ja KZ).mono ?_
 rintro e w1 ⟨rfl,hw1⟩
 subst hw1;clear KZ
 go_wp2_with fail
 go_loopw [7,8] (fun pv bit wr=>∃j:Nat,bit=.int .i64 ((j:Int) - 1)/\j<=B/\Hid (WBig wr pv (b ^ (n / 2 ^ j)))/\Hid (WSl wr (.slice (some ⟨w.heap.size,0,none⟩) 1 1) [b])/\Below w.heap.size w wr) (fun _ bit _=>(intOf bit+1).toNat)
 case atStart=>exact⟨B,rfl,Nat.le_refl _,by show WBig _ _ _;rw [H0.out];exact ja HONE,HBASE,ja HB2⟩
 case round=>
  clear HONE HBASE HB2;obtain⟨j,rfl,hjB,hP,hBa,hbw⟩:=hrel;cases j with
  | zero=>
   have HF:Hid (WBig wr u7 (b ^ n)):=by have h:=hP.out;rwa [Nat.pow_zero,Nat.div_one] at h
   clear hP hBa;go_wp2;go_ret2;exact⟨_,rfl,ja HF,hbw⟩
  | succ i=>
   have e0:((i+1:Nat):Int) - 1=(i:Int):=by omega
   rw [e0];have hm1:n / 2 ^ (i+1)<=n:=Nat.div_le_self _ _;have hl1:=jah (k:=n / 2 ^ (i+1)) hb;have KM:=jb (jji wr u7 u7 _ _ hP.out hP.out (by omega) (by omega));have hx:=jgt n i;have hx1:n / 2 ^ i<=n:=Nat.div_le_self _ _;have hsh:(n:Int) / 2 ^ i=((n / 2 ^ i:Nat):Int):=by simp
   have hand:=and_one (n / 2 ^ i) (by omega);have hpar:n / 2 ^ i % 2=0\/n / 2 ^ i % 2=1:=by omega
   have hlp:=jah (k:=2*(n / 2 ^ (i+1))) hb;generalize n / 2 ^ (i+1)=m at *;rw [<-Nat.pow_add,<-Nat.two_mul] at KM;generalize hq:n / 2 ^ i=x at *;have HQ:=jb hq;clear hq
   rcases hpar with h2 | h2
   ·have HX:Hid (b ^ (2*m)=b ^ (n / 2 ^ i)):=by show _=_;rw [ja HQ];congr 1;omega
    rw [h2] at hand;clear hP h2 hx
    go_wp2_with fail
    refine(ja KM).mono ?_
    rintro e w2 ⟨v2,rfl,hv2,b2⟩
    have HV:Hid (WBig w2 v2 (b ^ (n / 2 ^ i))):=by show WBig _ _ _;rw [<-HX.out];exact hv2
    have HBa2:=jb ((ja hBa).below b2);have hbw2:=hbw.trans (b2.mono hbw.size);clear hv2 KM b2;go_wp2;go_roundw
    case rel=>exact⟨i,by go_num,by omega,HV,HBa2,hbw2⟩
    case measure=>simp only [intOf];omega
   ·have HX:Hid (b ^ (2*m)*b=b ^ (n / 2 ^ i)):=by show _=_;rw [ja HQ,<-Nat.pow_succ];congr 1;omega
    rw [h2] at hand;clear hP h2
    go_wp2_with fail
    refine(ja KM).mono ?_
    rintro e w2 ⟨v2,rfl,hv2,b2⟩
    have HBa2:=(ja hBa).below b2;have hbw2:=hbw.trans (b2.mono hbw.size);have k3:=jhA w2 v2 _ _ b hv2 HBa2 hb (by omega);rw [HX.out] at k3;have K3:=jb k3;clear hv2 KM b2 k3 hx
    go_wp2_with fail
    refine(ja K3).mono ?_
    rintro e w3 ⟨v3,rfl,hv3,b3⟩
    have HV:=jb hv3;have HBa3:=jb (HBa2.below b3);have hbw3:=hbw2.trans (b3.mono hbw2.size);clear hv3 K3 b3 HBa2;go_wp2;go_roundw
    case rel=>exact⟨i,by go_num,by omega,HV,HBa3,hbw3⟩
    case measure=>simp only [intOf];omega
open Go.RowKit
def byt (n:Nat):Value:=.int .u8 (n:Int)
def OwnB (w:World)(g c:Nat)(l:List Nat):Prop:=w.ownsRow 0 5 1 (.slice (some ⟨g,0,none⟩) l.length c) l.length (l.map byt)
theorem OwnB.cell {w:World}{g c:Nat}{l:List Nat}(h:OwnB w g c l)(j:Nat)(hj:j<l.length):w.cell? ⟨g,j,none⟩=some (.int .u8 ((l.getD j 0:Nat):Int)):=by
 rw [World.ownsRow.cellAt h j (by omega)];simp [byt,List.getD,hj]
open Go.RowKit
def Blk (w:World)(b:Nat)(cs:Array Value)(t:Nat):Prop:=w.heap[b]?=some (.cells cs t)
theorem Blk.lt {w:World}{b:Nat}{cs:Array Value}{t:Nat}(h:Blk w b cs t):b<w.heap.size:=by
 unfold Blk at h;exact(Array.getElem?_eq_some_iff.1 h).1
theorem Blk.below {w w':World}{b:Nat}{cs:Array Value}{t:Nat}(h:Blk w b cs t)(hb:Below w.heap.size w w'):Blk w' b cs t:=by
 have:=hb.block b h.lt;unfold Blk at *;rw [this,h]
theorem jd (w:World)(cs:Array Value)(t:Nat):Blk (w.alloc (.cells cs t)) w.heap.size cs t:=by
 show(w.heap.push _)[w.heap.size]?=_
 simp
theorem Blk.cell {w:World}{b:Nat}{cs:Array Value}{t:Nat}(h:Blk w b cs t)(j:Nat)(v:Value)(hj:cs[j]?=some v):w.cell? ⟨b,j,none⟩=some v:=by
 unfold Blk at h;simp only [World.cell?,h];exact hj
theorem Blk.froz {w:World}{b:Nat}{cs:Array Value}{t:Nat}(h:Blk w b cs t)(j:Nat):w.frozen? ⟨b,j,none⟩=false:=by
 unfold Blk at h;simp [World.frozen?,h]
theorem Blk.set {w:World}{b:Nat}{cs:Array Value}{t:Nat}(h:Blk w b cs t)(j:Nat)(v:Value):Blk (w.setCell ⟨b,j,none⟩ v) b (cs.setIfInBounds j v) t:=by
 unfold Blk at *;simp only [World.setCell,Array.getElem?_modify,h];simp
theorem Blk.set_other {w:World}{b:Nat}{cs:Array Value}{t:Nat}(h:Blk w b cs t)(p:Addr)(v:Value)(hp:b≠p.block):Blk (w.setCell p v) b cs t:=by
 unfold Blk at *;rw [Below.heap_setCell _ _ _ _ hp,h]
theorem Blk.alloc {w:World}{b:Nat}{cs:Array Value}{t:Nat}(h:Blk w b cs t)(o:Obj):Blk (w.alloc o) b cs t:=by
 unfold Blk at *;rw [Below.heap_alloc _ _ _ (Blk.lt h),h]
theorem jjf (w:World)(x y:Nat):RowU (w.alloc (.cells #[.int .u32 (x:Int),.int .u32 (y:Int)] 222)) (some ⟨w.heap.size,0,none⟩) [x,y]:=fun _=>by
 refine⟨w.heap.size,0,rfl,by simp,fun j hj=>?_⟩;have hj2:j=0\/j=1:=by simp at hj;omega
 rcases hj2 with rfl | rfl
 ·exact(jd w _ _).cell 0 _ rfl
 ·exact(jd w _ _).cell 1 _ rfl
def Zc (cs:Array Value):Prop:=∀(j:Nat) (q:Int),cs[j]?≠some (.int .u32 q)
theorem WSl.setBlk {w:World}{v:Value}{l:List Nat}{b:Nat}{cs:Array Value}{t:Nat}(h:WSl w v l)(hb:Blk w b cs t)(hn:Zc cs)(j:Nat)(u:Value):WSl (w.setCell ⟨b,j,none⟩ u) v l:=by
 obtain⟨a,cap,rfl,hc,hr⟩:=h;refine⟨a,cap,rfl,hc,fun h0=>?_⟩;obtain⟨ba,oa,rfl,hba,hca⟩:=hr h0
 have ne:ba≠b:=by
  intro e;subst e;have h1:=hca 0 (by cases l with | nil=>exact absurd rfl h0 | cons x r=>simp);unfold Blk at hb;simp only [World.cell?,hb] at h1;exact hn _ _ h1
 refine⟨ba,oa,rfl,by simpa [World.setCell] using hba,fun k hk=>?_⟩;rw [World.cell?_setCell_other w ⟨b,j,none⟩ ⟨ba,oa+k,none⟩ u (by intro e;exact ne (by injection e with e1;exact e1.symm))];exact hca k hk
theorem YJ {cs:Array Value}{j:Nat}{v:Value}(h:Zc cs)(hv:∀q,v≠.int .u32 q):Zc (cs.setIfInBounds j v):=by
 intro i q;rw [Array.getElem?_setIfInBounds];split
 ·split
  ·intro e;exact hv q (by injection e)
  ·simp
 ·exact h i q
theorem QP (x y z:Value)(hx:∀q,x≠.int .u32 q)(hy:∀q,y≠.int .u32 q)(hz:∀q,z≠.int .u32 q):Zc #[x,y,z]:=by
 intro j q
 rcases j with _ | _ | _ | j<;>simp_all
theorem WSl.set3 {w:World}{v:Value}{l:List Nat}{b:Nat}{x y z:Value}{t:Nat}(h:WSl w v l)(hb:Blk w b #[x,y,z] t)(hn:Zc #[x,y,z])(u1 u2 u3:Value)(h1:∀q,u1≠.int .u32 q)(h2:∀q,u2≠.int .u32 q) :
  WSl (((w.setCell ⟨b,0,none⟩ u1).setCell ⟨b,1,none⟩ u2).setCell ⟨b,2,none⟩ u3) v l:=by
 have n1:=YJ (j:=0) hn h1;have n2:=YJ (j:=1) n1 h2;exact((h.setBlk hb hn 0 u1).setBlk (hb.set 0 u1) n1 1 u2).setBlk ((hb.set 0 u1).set 1 u2) n2 2 u3
theorem Blk.set3 {w:World}{b:Nat}{x y z:Value}{t:Nat}(h:Blk w b #[x,y,z] t)(u1 u2 u3:Value):Blk (((w.setCell ⟨b,0,none⟩ u1).setCell ⟨b,1,none⟩ u2).setCell ⟨b,2,none⟩ u3) b #[u1,u2,u3] t:=by
 have:=((h.set 0 u1).set 1 u2).set 2 u3;simpa using this
theorem Jh {B:Nat}{a w:World}{b:Nat}(h:Below B a w)(hb:B<=b)(u1 u2 u3:Value):Below B a (((w.setCell ⟨b,0,none⟩ u1).setCell ⟨b,1,none⟩ u2).setCell ⟨b,2,none⟩ u3) :=
 ((h.setCell (p:=⟨b,0,none⟩) hb u1).setCell (p:=⟨b,1,none⟩) hb u2).setCell (p:=⟨b,2,none⟩) hb u3
end bigs
end Go.Proofs.YtnbfnjhbmeocfaaGreatDoor
