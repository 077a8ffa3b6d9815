/- Of our texts, what this claim reaches. -/
import Derived.Test.YticcibefchffmaaDoorPptAS
import Derived.Test.YticcibefchffmaaDoorPptAY
import Derived.Test.YticcibefchffmaaDoorPptAV
import Derived.Test.YticcibefchffmaaDoorPptAZ
import Derived.BigRegion
set_option linter.unusedVariables false
set_option maxHeartbeats 16000000
set_option maxRecDepth 100000
namespace Go.Proofs.YticcibefchffmaaDoor
namespace paths
open Go.RowKit
open utfs (bad jb ja)
open escs (unq qX qV zg)
open valus (Blk jl jc jj zf qB qw qb qH)
structure RIn (w0:World) (T:Nat) (K:List SK) (v u0 u1:Value) (wr:World):Prop where
 blk:Blk wr T #[u0,u1] 50
 own:wr.ownsRow w0.heap.size 50 2 v K.length (K.flatMap stC)
 ob:∀g,v.ownBlock=some g->w0.heap.size<=g/\g<T
 bel:Below w0.heap.size w0 wr
 lt:w0.heap.size<=T
theorem RIn.drew {w0 wr:World}{T:Nat}{K:List SK}{v u0 u1:Value}(h:RIn w0 T K v u0 u1 wr):RIn w0 T K v u0 u1 wr.drew :=
 ⟨h.blk,h.own.kept (row:=none) ⟨rfl,rfl,rfl,Nat.le_refl _,fun _ _ _=>rfl⟩ (Classical.em _),h.ob,h.bel.drew,h.lt⟩
theorem RIn.below {w0 wr w':World}{T:Nat}{K:List SK}{v u0 u1:Value}(h:RIn w0 T K v u0 u1 wr)(hb:Below wr.heap.size wr w'):RIn w0 T K v u0 u1 w' :=
 ⟨h.blk.below hb,h.own.kept (row:=none) ⟨hb.os,hb.tape,hb.output,hb.size,fun k hk _=>hb.block k hk⟩ (Classical.em _),h.ob,h.bel.trans (hb.mono h.bel.size),h.lt⟩
theorem RIn.keep {w0 wr:World}{T j:Nat}{K:List SK}{v u0 u1 x:Value}(h:RIn w0 T K v u0 u1 wr):(wr.setCell ⟨T,j,none⟩ x).ownsRow w0.heap.size 50 2 v K.length (K.flatMap stC):=by
 refine h.own.kept (qb wr T j x) ?_
 cases hv:v.ownBlock with
 | none=>exact .inl rfl
 | some g=>exact .inr (fun e=>by injection e with e;have:=h.ob g hv;omega)
theorem RIn.set0 {w0 wr:World}{T:Nat}{K:List SK}{v u0 u1:Value}(h:RIn w0 T K v u0 u1 wr)(x:Value):RIn w0 T K v x u1 (wr.setCell ⟨T,0,none⟩ x) :=
 ⟨by have:=h.blk.set 0 x;simpa using this,h.keep,h.ob,h.bel.setCell (p:=⟨T,0,none⟩) h.lt x,h.lt⟩
theorem RIn.set1 {w0 wr:World}{T:Nat}{K:List SK}{v u0 u1:Value}(h:RIn w0 T K v u0 u1 wr)(x:Value):RIn w0 T K v u0 x (wr.setCell ⟨T,1,none⟩ x) :=
 ⟨by have:=h.blk.set 1 x;simpa using this,h.keep,h.ob,h.bel.setCell (p:=⟨T,1,none⟩) h.lt x,h.lt⟩
theorem RIn.cells {w0 wr:World}{T:Nat}{K:List SK}{v u0 u1:Value}(h:RIn w0 T K v u0 u1 wr):wr.cell? ⟨T,0,none⟩=some u0/\wr.cell? ⟨T,1,none⟩=some u1/\wr.frozen? ⟨T,0,none⟩=false/\wr.frozen? ⟨T,1,none⟩=false :=
 ⟨h.blk.cell 0 _ rfl,h.blk.cell 1 _ rfl,Blk.froz h.blk 0,Blk.froz h.blk 1⟩
abbrev XL (l:List UInt8) (w:World) (e:Ending) (w':World):Prop :=
 ((∃P p c,e=.returned (.tuple #[.slice p P.length c,.bool true])/\P.length<=c/\LiesP w' p P/\qa l (.inl P))\/(e=.returned (.tuple #[.slice none 0 0,.bool false])/\qa l (.inr ())))/\Below w.heap.size w w'
theorem zJ {l:List UInt8}(h:gR l.length [] (l.drop 1)=none):qa l (.inr ()):=.inr ⟨rfl,fun P hP=>by rw [h] at hP;cases hP⟩
theorem Zc {l:List UInt8}{P:List St}(h:gR l.length [] (l.drop 1)=some P)(h2:jk P≠0\/jn P≠l):qa l (.inr ()):=.inr ⟨rfl,fun Q hQ=>by rw [h] at hQ;injection hQ with hQ;rw [<-hQ];exact h2⟩
theorem Xn {l:List UInt8}{P:List St}(h:gR l.length [] (l.drop 1)=some P)(h2:jk P=0)(h3:jn P=l):qa l (.inl P):=.inl ⟨P,h,h2,h3,rfl⟩
theorem drop_at {s:ByteArray}{k:Nat}(h:k<s.size):s.data.toList.drop k=s[k]'h :: s.data.toList.drop (k+1):=by
 rw [List.drop_eq_getElem_cons (show k<s.data.toList.length from h)];rfl
theorem Zh {s:ByteArray}{k:Nat}(h:k<s.size):(s.data.toList.drop k).head?=some (s[k]'h):=by rw [drop_at h];rfl
theorem ZO {s:ByteArray}{k:Nat}(h:¬k<s.size):(s.data.toList.drop k).head?=none:=by
 rw [List.drop_of_length_le (by rw [jc];omega)];rfl
theorem qz (c:UInt8)(t:List UInt8):Jt (c :: t)=if c=91 then jQ t else zk t:=rfl
theorem zG {s:ByteArray}{k n:Nat}{D:List St}{X:Option (List St)}(hk:k<s.size)(h91:s[k]'hk=91)(h:gR (n+1) D (s.data.toList.drop k)=X)(hd:jQ (s.data.toList.drop (k+1))=none):X=none:=by
 rw [<-h,Qz (by rw [drop_at hk];simp),drop_at hk,h91];rw [qz,if_pos rfl,hd]
theorem Q0 {s:ByteArray}{k n:Nat}{D:List St}{X:Option (List St)}(hk:k<s.size)(h91:s[k]'hk=91)(h:gR (n+1) D (s.data.toList.drop k)=X){x:St}{r:List UInt8}(hd:jQ (s.data.toList.drop (k+1))=some (x,r)):gR n (D++[x]) r=X:=by
 rw [<-h,Qz (by rw [drop_at hk];simp),drop_at hk,h91];rw [qz,if_pos rfl,hd]
theorem XS {s:ByteArray}{k n:Nat}{D:List St}{X:Option (List St)}(hk:k<s.size)(h91:s[k]'hk≠91)(h:gR (n+1) D (s.data.toList.drop k)=X)(hd:zk (s.data.toList.drop (k+1))=none):X=none:=by
 rw [<-h,Qz (by rw [drop_at hk];simp),drop_at hk];rw [qz,if_neg h91,hd]
theorem zD {s:ByteArray}{k n:Nat}{D:List St}{X:Option (List St)}(hk:k<s.size)(h91:s[k]'hk≠91)(h:gR (n+1) D (s.data.toList.drop k)=X){x:St}{r:List UInt8}(hd:zk (s.data.toList.drop (k+1))=some (x,r)):gR n (D++[x]) r=X:=by
 rw [<-h,Qz (by rw [drop_at hk];simp),drop_at hk];rw [qz,if_neg h91,hd]
theorem YY {s:ByteArray}{q x:Nat}(hq:q<s.size)(h:48<=(s[q]'hq).toNat/\(s[q]'hq).toNat<=57):qA x (s.data.toList.drop q)=if 576460752303423488<x then none else qA (x*10+((s[q]'hq).toNat - 48)) (s.data.toList.drop (q+1)):=by
 rw [drop_at hq]
 conv=>lhs;unfold qA
 rw [if_pos h]
theorem Yp {s:ByteArray}{q x:Nat}(h:∀hq:q<s.size,¬(48<=(s[q]'hq).toNat/\(s[q]'hq).toNat<=57)):qA x (s.data.toList.drop q)=some (x,s.data.toList.drop q):=by
 by_cases hq:q<s.size
 ·rw [drop_at hq]
  unfold qA;rw [if_neg (h hq)]
 ·rw [List.drop_of_length_le (by rw [jc];omega)]
  rfl
theorem Yv {s:ByteArray}{a q:Nat}(haq:a<=q)(hqs:q<=s.size)(h:∀j (hj:j<s.size),a<=j->j<q->qj (s[j]'hj)=true)(hq:∀hq:q<s.size,qj (s[q]'hq)=false) :
  (s.data.toList.drop a).takeWhile qj=(s.extract a q).data.toList/\(s.data.toList.drop a).dropWhile qj=s.data.toList.drop q:=by
 have e:s.data.toList.drop a=(s.extract a q).data.toList++s.data.toList.drop q:=by
  rw [qB,List.drop_take];have:=(List.take_append_drop (q - a) (s.data.toList.drop a)).symm;rw [List.drop_drop,show a+(q - a)=q by omega] at this;exact this
 rw [e];refine Ze (fun b hb=>?_) ?_
 ·obtain⟨i,hi,rfl⟩:=List.getElem_of_mem hb
  have hlen:(s.extract a q).data.toList.length=q - a:=by rw [jc,ByteArray.size_extract];omega
  have hk:i<q - a:=by omega
  have:=h (a+i) (by omega) (by omega) (by omega)
  have e2:(s.extract a q).data.toList[i]=s[a+i]'(by omega):=by
   have h1:(s.extract a q).data.toList[i]?=some (s[a+i]'(by omega)):=by
    rw [qB,List.drop_take,List.getElem?_take_of_lt hk,List.getElem?_drop];exact List.getElem?_eq_getElem (show a+i<s.data.toList.length by rw [jc];omega)
   rw [List.getElem?_eq_getElem hi] at h1;injection h1
  rw [e2];exact this
 ·by_cases hqq:q<s.size
  ·exact .inr ⟨_,_,drop_at hqq,hq hqq⟩
  ·exact .inl (List.drop_of_length_le (by rw [jc];omega))
theorem ze (w0:World)(s:ByteArray)(hs:s.size<=1048576):Calls Tryd.prog 11 #[.string s] w0 (XL s.data.toList w0):=by
 obtain⟨i0,hi,hz0,hz1,hz2⟩:=info_parts Qt;obtain⟨X,hX⟩:∃X,X=gR s.data.toList.length [] (s.data.toList.drop 1):=⟨_,rfl⟩
 have HX:=jb hX;have hX1:gR s.size [] (s.data.toList.drop 1)=X:=by rw [hX,jc]
 have HX1:=jb hX1;clear hX hX1
 go_enter Tryd.func11,Tryd.ntmps11
 go_wp2_with fail
 go_loopw [4,5] (fun v i wr=>∃(k n:Nat) (K:List SK),i=.int .i64 k/\1<=k/\k<=s.size+1/\K.length<k/\s.size<=n+k/\Hid (gR n (K.map stL) (s.data.toList.drop k)=X)/\Hid (∀x∈K,x.1.size<=9223372036854775807/\-9223372036854775808<=x.2/\x.2<=9223372036854775807)/\wr.ownsRow w0.heap.size 50 2 v K.length (K.flatMap stC)/\Below w0.heap.size w0 wr) (fun _ i _=>s.size+1 - (intOf i).toNat)
 case atStart=>exact⟨1,s.size,[],rfl,by omega,by omega,by simp,by omega,HX1,jb (fun x hx=>absurd hx (List.not_mem_nil)),World.ownsRow_nil _ _ _ _,Below.refl _ _⟩
 case round=>
  obtain⟨k,n,K,rfl,hk1,hk2,hKk,hnk,HE,HK,hown,hbw⟩:=hrel
  by_cases hlt:k<s.size
  ·obtain⟨n,rfl⟩:∃m,n=m+1:=⟨n - 1,by omega⟩
   obtain⟨p,c,rfl,hc,_,_⟩:=jU hown HK.out;have hown0:∀g,(Value.slice p K.length c).ownBlock=some g->w0.heap.size<=g/\g<wr.heap.size:=hown.lt;have R0:RIn w0 wr.heap.size K (.slice p K.length c) (.string ⟨#[]⟩) (.int .i64 (-1)) (wr.alloc (.cells #[.string ⟨#[]⟩,.int .i64 (-1)] 50)):=⟨jl _ _ _,hown.alloc _,hown0,hbw.alloc hbw.size _,hbw.size⟩
   obtain⟨cb,hcb⟩:∃cb:UInt8,s[k]'hlt=cb:=⟨_,rfl⟩
   have HR0:=jb R0;have HCB:=jb hcb;clear R0 hown0 hown hbw
   go_upto_region 5 with fail
   generalize hT:wr.heap.size=T at HR0 ⊢;generalize hW:wr.alloc (.cells #[.string ⟨#[]⟩,.int .i64 (-1)] 50)=W1 at HR0 ⊢;clear hT hW
   by_cases h91:cb=91
   ·subst h91
    have e91:((((s[k]'hlt).toNat:Nat):Int) == 91)=true:=by rw [hcb];rfl
    obtain⟨x0,x1,z0,z1⟩:=HR0.out.cells;have R1:=jb (HR0.out.set1 (.int .i64 0));clear hcb HR0
    go_wp2_with fail
    go_loopw [5] (fun i wq=>∃(q x:Nat),i=.int .i64 q/\k+1<=q/\q<=s.size/\x<=5764607523034234889/\Hid (qA x (s.data.toList.drop q)=qA 0 (s.data.toList.drop (k+1)))/\RIn w0 T K (.slice p K.length c) (.string ⟨#[]⟩) (.int .i64 (x:Int)) wq) (fun i _=>s.size - (intOf i).toNat)
    case atStart=>exact⟨k+1,0,by go_num,by omega,by omega,by omega,jb rfl,R1.out⟩
    case round=>
     clear x0 x1 z0 z1 R1;obtain⟨q,x,rfl,hq1,hq2,hx1,HDG,RR⟩:=hrel;obtain⟨x0,x1,z0,z1⟩:=RR.cells
     by_cases hd:∃hq:q<s.size,48<=(s[q]'hq).toNat/\(s[q]'hq).toNat<=57
     ·obtain⟨hq,hd⟩:=hd
      have KD:∀u,Hid (Calls Tryd.prog 33 #[.string s,.int .i64 (q:Int)] u fun e w'=>e=.returned (.bool true)/\w'=u):=fun u=>jb (Zg u s q (by omega) hq true (jb ⟨fun _=>hd,fun _=>rfl⟩))
      have hgo:=YY (x:=x) hq hd;rw [HDG.out] at hgo
      by_cases hx:(x:Int) > 576460752303423488
      ·have HN:Hid (X=none):=jb (zG hlt HCB.out HE.out (by unfold jQ;rw [hgo,if_pos (by omega)]))
       have HB:=jb RR.bel;clear hgo RR
       go_wp2_with fail
       refine(ja (KD _)).mono ?_
       rintro _ w5 ⟨rfl,rfl⟩
       go_wp2;go_ret2;exact⟨.inr ⟨rfl,zJ (HX.out.symm.trans HN.out)⟩,HB.out⟩
      ·rw [if_neg (by omega)] at hgo
       obtain⟨y,hy⟩:∃y:Nat,(s[q]'hq).toNat=y:=⟨_,rfl⟩
       rw [hy] at hgo hd;have HG:=jb hgo
       have hyw:IntKind.u8.wrap ((y:Int) - 48)=(y:Int) - 48:=by
        have:IntKind.u8.wrap ((y:Int) - 48)=((y:Int) - 48) % 256:=rfl;rw [this];omega
       have RY:=jb (RR.set1 (.int .i64 ((x:Int)*10+((y:Int) - 48))));clear hgo HDG RR
       go_upto_region 12 with (go_at_call 33;refine(ja (KD _)).mono ?_;rintro _ w5 ⟨rfl,rfl⟩)
       have hcast:((x*10+(y - 48):Nat):Int)=(x:Int)*10+((y:Int) - 48):=by omega
       go_region
       clear x0 x1 z0 z1;go_wp2;go_roundw
       case rel=>exact⟨q+1,x*10+(y - 48),by go_num,by omega,by omega,by omega,jb HG.out.symm,by rw [hcast];exact RY.out.drew⟩
       case measure=>simp only [intOf];omega
     ·have KD:∀u,Hid (Calls Tryd.prog 33 #[.string s,.int .i64 (q:Int)] u fun e w'=>e=.returned (.bool false)/\w'=u):=fun u=>jb (by
       by_cases hq:q<s.size
       ·exact Zg u s q (by omega) hq false (jb ⟨fun h=>(by cases h),fun h=>absurd ⟨hq,h⟩ hd⟩)
       ·exact Zy u s q (by omega) (by omega) (by omega))
      have hgo:=Yp (x:=x) (fun hq h=>hd ⟨hq,h⟩);rw [HDG.out] at hgo
      by_cases hx:(x:Int) > 4611686018427387904
      ·have HN:Hid (X=none):=jb (zG hlt HCB.out HE.out (by unfold jQ;rw [hgo];dsimp only;rw [if_pos (by omega)]))
       have HB:=jb RR.bel;clear hgo RR
       go_wp2_with fail
       refine(ja (KD _)).mono ?_
       rintro _ w5 ⟨rfl,rfl⟩
       go_wp2;go_ret2;exact⟨.inr ⟨rfl,zJ (HX.out.symm.trans HN.out)⟩,HB.out⟩
      ·have HG:=jb (Q0 hlt HCB.out HE.out (x:=([],(x:Int))) (r:=(s.data.toList.drop q).drop 1) (by unfold jQ;rw [hgo];dsimp only;rw [if_neg (by omega)]))
       have HRR0:=jb RR;clear hgo RR
       go_upto_region 29 with (go_at_call 33;refine(ja (KD _)).mono ?_;rintro _ w5 ⟨rfl,rfl⟩)
       clear x0 x1 z0 z1;have RR:=HRR0.out;clear HRR0 KD;obtain⟨y0,y1,_,_⟩:=RR.cells;have HRR:=jb RR;have hO:=RR.own;clear RR
       go_wp2_with (at_builtin;refine wpList_append_lies _ rfl _ _ 22 rfl w0.heap.size 50 i0 (.agg #[.string ⟨#[]⟩,.int .i64 0]) 2 24 Tryd.underlying22 hi hz0 hz1 hz2 rfl (by decide) _ _ _ rfl (hO.alloc _) ⟨w5.heap.size,0,none⟩ 1 1 [.string ⟨#[]⟩,.int .i64 (x:Int)] rfl rfl ?c1 ?c2 ?c3 ?c4 ?c5 ?c6 (w5.heap.size+1) ?c7 ?_)
       case c1=>exact cell_two_new _ _ _ _
       case c2=>intro u hu;simp at hu;rcases hu with rfl | rfl<;>rfl
       case c3=>decide
       case c4=>unfold maxLen;omega
       case c5=>omega
       case c6=>have:=HRR.out.bel.size;simp;omega
       case c7=>simp
       intro g cap w9 hown9 hg9 hat9 hlt9;have hb9:Below w0.heap.size w0 w9:=(HRR.out.bel.alloc HRR.out.bel.size _).grown hg9 (by have:=HRR.out.bel.size;simp;omega) (fun x hx=>by have:=HRR.out.ob x hx;omega);clear hg9 hat9 hO HRR y0 y1;go_wp2;go_roundw
       case rel=>
        refine⟨q+1,n,K++[(⟨#[]⟩,(x:Int))],by go_num,by omega,by omega,by simp;omega,by omega,jb ?_,jb ?_,?_,hb9⟩
        ·rw [List.map_append]
         rw [List.drop_drop] at HG;exact HG.out
        ·intro x hx
         rcases List.mem_append.1 hx with hx | hx
         ·exact HK.out x hx
         ·obtain rfl:=List.mem_singleton.1 hx
          exact⟨by simp [ByteArray.size],by dsimp only;omega,by dsimp only;omega⟩
        ·rw [List.flatMap_append,List.length_append]
         exact hown9
       case measure=>simp only [intOf];omega
   ·have e91:((((s[k]'hlt).toNat:Nat):Int) == 91)=false:=by rw [hcb];exact beq_false_of_ne (fun e=>h91 (UInt8.toNat_inj.1 (by show cb.toNat=91;omega)))
    have hn91:s[k]'hlt≠91:=by rw [hcb];exact h91
    have HN91:=jb hn91;clear hcb h91 HCB hn91
    by_cases h34:(s.data.toList.drop (k+1)).head?=some 34
    ·have hk3:k+1<s.size:=Classical.byContradiction fun h=>by rw [ZO h] at h34;cases h34
     have h34':s[k+1]'hk3=34:=by rw [Zh hk3] at h34;injection h34
     have e34:((((s[k+1]'hk3).toNat:Nat):Int) == 34)=true:=by rw [h34'];rfl
     have hxs:(s.extract (k+1) s.size).size<=1048576:=by rw [ByteArray.size_extract];omega
     have KU:=jb (escs.JP W1 (s.extract (k+1) s.size) (by omega) _ (jb rfl));have hkR:zk (s.data.toList.drop (k+1))=if zg (unq (s.data.toList.drop (k+1)))=0 then some ((qX (unq (s.data.toList.drop (k+1))),-1),(s.data.toList.drop (k+1)).drop (qV (unq (s.data.toList.drop (k+1))))) else none:=by unfold zk;rw [if_pos h34]
     rw [jj] at KU
     have hrn:qV (unq (s.data.toList.drop (k+1)))<=s.size - (k+1)/\(qX (unq (s.data.toList.drop (k+1)))).length<=s.size:=by
      cases h:unq (s.data.toList.drop (k+1)) with
      | inl e=>exact⟨Nat.zero_le _,Nat.zero_le _⟩
      | inr g=>
       obtain⟨r1,m⟩:=g;have h1:=escs.JQ h;rw [List.length_drop,jc] at h1;exact⟨h1.2.1,by show(utfs.enc r1).length<=_;omega⟩
     clear h34 h34';generalize unq (s.data.toList.drop (k+1))=R at *;generalize qX R=rt at *;generalize qV R=rn at *;generalize zg R=re at *
     by_cases hre:re=0
     ·subst hre
      rw [if_pos rfl] at hkR;have HG:=jb (zD hlt HN91.out HE.out hkR);clear hkR
      go_upto_region 20 with (go_at_call 34;refine(ja KU).mono ?_;rintro _ w5 ⟨rfl,b5⟩)
      have RR0:=HR0.out.below b5;obtain⟨x0,x1,z0,z1⟩:=RR0.cells;have RR1:=jb (RR0.set0 (.string ⟨rt.toArray⟩));clear b5 RR0 HR0 KU
      go_upto_region 29 with fail
      clear x0 x1 z0 z1;generalize w5.setCell ⟨T,0,none⟩ (.string ⟨rt.toArray⟩)=W5 at RR1 ⊢;have RR:=RR1.out;clear RR1;obtain⟨y0,y1,_,_⟩:=RR.cells;have HRR:=jb RR;have hO:=RR.own;clear RR
      go_wp2_with (at_builtin;refine wpList_append_lies _ rfl _ _ 22 rfl w0.heap.size 50 i0 (.agg #[.string ⟨#[]⟩,.int .i64 0]) 2 24 Tryd.underlying22 hi hz0 hz1 hz2 rfl (by decide) _ _ _ rfl (hO.alloc _) ⟨W5.heap.size,0,none⟩ 1 1 [.string ⟨rt.toArray⟩,.int .i64 (-1)] rfl rfl ?c1 ?c2 ?c3 ?c4 ?c5 ?c6 (W5.heap.size+1) ?c7 ?_)
      case c1=>exact cell_two_new _ _ _ _
      case c2=>intro u hu;simp at hu;rcases hu with rfl | rfl<;>rfl
      case c3=>decide
      case c4=>unfold maxLen;omega
      case c5=>omega
      case c6=>have:=HRR.out.bel.size;simp;omega
      case c7=>simp
      intro g cap w9 hown9 hg9 hat9 hlt9;have hb9:Below w0.heap.size w0 w9:=(HRR.out.bel.alloc HRR.out.bel.size _).grown hg9 (by have:=HRR.out.bel.size;simp;omega) (fun x hx=>by have:=HRR.out.ob x hx;omega);clear hg9 hat9 hO HRR y0 y1;go_wp2;go_roundw
      case rel=>
       refine⟨k+1+rn,n,K++[(⟨rt.toArray⟩,(-1))],by go_num,by omega,by omega,by simp;omega,by omega,jb ?_,jb ?_,?_,hb9⟩
       ·rw [List.map_append]
        rw [List.drop_drop] at HG;exact HG.out
       ·intro x hx
        rcases List.mem_append.1 hx with hx | hx
        ·exact HK.out x hx
        ·obtain rfl:=List.mem_singleton.1 hx
         exact⟨by show(⟨rt.toArray⟩:ByteArray).size<=_;rw [qw];omega,by dsimp only;omega,by dsimp only;omega⟩
       ·rw [List.flatMap_append,List.length_append]
        exact hown9
      case measure=>simp only [intOf];omega
     ·rw [if_neg hre] at hkR
      have HN:Hid (X=none):=jb (XS hlt HN91.out HE.out hkR);have hre2:(re != 0)=true:=bne_iff_ne.2 hre;have HB:=jb HR0.out.bel;have HBS:Hid (w0.heap.size<=W1.heap.size):=jb HR0.out.bel.size;clear hkR hre HR0
      go_wp2_with fail
      refine(ja KU).mono ?_
      rintro _ w5 ⟨rfl,b5⟩
      have HB5:=jb (HB.out.trans (b5.mono HBS.out));clear b5 KU HB;go_wp2;go_ret2;exact⟨.inr ⟨rfl,zJ (HX.out.symm.trans HN.out)⟩,HB5.out⟩
    ·have hkR:zk (s.data.toList.drop (k+1))=some (((s.data.toList.drop (k+1)).takeWhile qj,-1),(s.data.toList.drop (k+1)).dropWhile qj):=by unfold zk;rw [if_neg h34]
     have HKR:=jb hkR
     have hc34:(¬k+1<s.size)\/(∃h:k+1<s.size,((((s[k+1]'h).toNat:Nat):Int) == 34)=false):=by
      by_cases h:k+1<s.size
      ·refine .inr ⟨h,beq_false_of_ne (fun e=>h34 ?_)⟩
       rw [Zh h];exact congrArg some (UInt8.toNat_inj.1 (by show(s[k+1]'h).toNat=34;omega))
      ·exact .inl h
     clear hkR h34
     rcases hc34 with hp | ⟨hp,e34⟩
     ·have hpE:(s.size:Int)=(k:Int)+1:=by omega
      have HP1:Hid (s.size=k+1):=jb (by omega);clear hp
      go_wp2_with fail
      go_loopw [5] (fun i wq=>i=.int .i64 ((k:Int)+1)/\wq=W1) (fun i _=>0)
      case atStart=>exact⟨by go_num,rfl⟩
      case round=>
       obtain⟨rfl,rfl⟩:=hrel;obtain⟨t1,t2⟩:=Yv (s:=s) (a:=k+1) (q:=k+1) (by omega) (by omega) (fun j hj h1 h2=>by omega) (fun h=>by have:=HP1.out;omega);have hkR:=HKR.out;have hxe:(s.extract (k+1) (k+1)).data.toList=[]:=List.eq_nil_of_length_eq_zero (by rw [jc,ByteArray.size_extract];omega);rw [t1,t2,hxe] at hkR;have HG:=jb (zD hlt HN91.out HE.out hkR);have RR1:=jb (HR0.out.set0 (.string ByteArray.empty));clear hxe;obtain⟨x0,x1,z0,z1⟩:=HR0.out.cells;clear t1 t2 hkR HKR
       go_wp2_with fail
       rw [run_slice_string (P:=Tryd.prog) (w:=wr) 9 s .i64 .i64 ((k:Int)+1) ((k:Int)+1) Tryd.underlying9 (by omega) (by omega) (by omega),show((k:Int)+1).toNat=k+1 by omega];simp only [Result.andThen]
       go_upto_region 29 with fail
       clear x0 x1 z0 z1;generalize wr.setCell ⟨T,0,none⟩ (.string ByteArray.empty)=W5 at RR1 ⊢;have RR:=RR1.out;clear RR1;obtain⟨y0,y1,_,_⟩:=RR.cells;have HRR:=jb RR;have hO:=RR.own;clear RR
       go_wp2_with (at_builtin;refine wpList_append_lies _ rfl _ _ 22 rfl w0.heap.size 50 i0 (.agg #[.string ⟨#[]⟩,.int .i64 0]) 2 24 Tryd.underlying22 hi hz0 hz1 hz2 rfl (by decide) _ _ _ rfl (hO.alloc _) ⟨W5.heap.size,0,none⟩ 1 1 [.string ByteArray.empty,.int .i64 (-1)] rfl rfl ?c1 ?c2 ?c3 ?c4 ?c5 ?c6 (W5.heap.size+1) ?c7 ?_)
       case c1=>exact cell_two_new _ _ _ _
       case c2=>intro u hu;simp at hu;rcases hu with rfl | rfl<;>rfl
       case c3=>decide
       case c4=>unfold maxLen;omega
       case c5=>omega
       case c6=>have:=HRR.out.bel.size;simp;omega
       case c7=>simp
       intro g cap w9 hown9 hg9 hat9 hlt9;have hb9:Below w0.heap.size w0 w9:=(HRR.out.bel.alloc HRR.out.bel.size _).grown hg9 (by have:=HRR.out.bel.size;simp;omega) (fun x hx=>by have:=HRR.out.ob x hx;omega);clear hg9 hat9 hO HRR y0 y1;go_wp2;go_roundw
       case rel=>
        refine⟨k+1,n,K++[(ByteArray.empty,(-1))],by go_num,by omega,by omega,by simp;omega,by omega,jb ?_,jb ?_,?_,hb9⟩
        ·rw [List.map_append]
         exact HG.out
        ·intro x hx
         rcases List.mem_append.1 hx with hx | hx
         ·exact HK.out x hx
         ·obtain rfl:=List.mem_singleton.1 hx
          exact⟨by show(0:Nat)<=_;omega,by dsimp only;omega,by dsimp only;omega⟩
        ·rw [List.flatMap_append,List.length_append]
         exact hown9
       case measure=>simp only [intOf];omega
     ·go_wp2_with fail
      go_loopw [5] (fun i wq=>∃q:Nat,i=.int .i64 q/\k+1<=q/\q<=s.size/\Hid (∀j (hj:j<s.size),k+1<=j->j<q->qj (s[j]'hj)=true)/\wq=W1) (fun i _=>s.size - (intOf i).toNat)
      case atStart=>exact⟨k+1,by go_num,by omega,by omega,jb (fun j hj h1 h2=>by omega),rfl⟩
      case round=>
       obtain⟨q,rfl,hq1,hq2,HS,rfl⟩:=hrel
       by_cases hq:∃hq:q<s.size,qj (s[q]'hq)=true
       ·obtain⟨hq,hns⟩:=hq
        have hs3:s[q]'hq≠46/\s[q]'hq≠91:=by
         unfold qj at hns;simp only [Bool.and_eq_true,bne_iff_ne,ne_eq] at hns;exact hns
        have n46:((((s[q]'hq).toNat:Nat):Int) != 46)=true:=bne_iff_ne.2 (fun e=>hs3.1 (UInt8.toNat_inj.1 (by show(s[q]'hq).toNat=46;omega)));have n91:((((s[q]'hq).toNat:Nat):Int) != 91)=true:=bne_iff_ne.2 (fun e=>hs3.2 (UInt8.toNat_inj.1 (by show(s[q]'hq).toNat=91;omega)))
        have HS2:Hid (∀j (hj:j<s.size),k+1<=j->j<q+1->qj (s[j]'hj)=true):=jb (fun j hj h1 h2=>by
         by_cases e:j=q
         ·subst e;exact hns
         ·exact HS.out j hj h1 (by omega))
        clear hs3 hns HS;go_wp2;go_roundw
        case rel=>exact⟨q+1,by go_num,by omega,by omega,HS2,trivial⟩
        case measure=>simp only [intOf];omega
       ·obtain⟨t1,t2⟩:=Yv (a:=k+1) hq1 hq2 HS.out (fun h=>by
         cases hv:qj (s[q]'h) with
         | true=>exact absurd ⟨h,hv⟩ hq
         | false=>rfl)
        have hkR:=HKR.out;rw [t1,t2] at hkR;have HG:=jb (zD hlt HN91.out HE.out hkR)
        have hcq:(¬q<s.size)\/(∃h:q<s.size,((((s[q]'h).toNat:Nat):Int) != 46)=false)\/(∃h:q<s.size,((((s[q]'h).toNat:Nat):Int) != 46)=true/\((((s[q]'h).toNat:Nat):Int) != 91)=false):=by
         by_cases h:q<s.size
         ·by_cases h46:s[q]'h=46
          ·exact .inr (.inl ⟨h,by rw [h46];rfl⟩)
          ·by_cases h91:s[q]'h=91
           ·exact .inr (.inr ⟨h,by rw [h91];rfl,by rw [h91];rfl⟩)
           ·exact absurd ⟨h,by simp [qj,h46,h91]⟩ hq
         ·exact .inl h
        have hmin:min ((k:Int)+1) (s.size:Int)=(k:Int)+1:=by omega
        have hqf:¬(q:Int)<(k:Int)+1:=by omega
        have RR1:=jb (HR0.out.set0 (.string (s.extract (k+1) q)));obtain⟨x0,x1,z0,z1⟩:=HR0.out.cells;clear t1 t2 hkR hq HS HKR
        rcases hcq with hcq | ⟨hcq,n46⟩ | ⟨hcq,n46,n91⟩
        ·go_upto_region 29 with fail
         clear x0 x1 z0 z1;generalize wr.setCell ⟨T,0,none⟩ (.string (s.extract (k+1) q))=W5 at RR1 ⊢;have RR:=RR1.out;clear RR1;obtain⟨y0,y1,_,_⟩:=RR.cells;have HRR:=jb RR;have hO:=RR.own;clear RR
         go_wp2_with (at_builtin;refine wpList_append_lies _ rfl _ _ 22 rfl w0.heap.size 50 i0 (.agg #[.string ⟨#[]⟩,.int .i64 0]) 2 24 Tryd.underlying22 hi hz0 hz1 hz2 rfl (by decide) _ _ _ rfl (hO.alloc _) ⟨W5.heap.size,0,none⟩ 1 1 [.string (s.extract (k+1) q),.int .i64 (-1)] rfl rfl ?c1 ?c2 ?c3 ?c4 ?c5 ?c6 (W5.heap.size+1) ?c7 ?_)
         case c1=>exact cell_two_new _ _ _ _
         case c2=>intro u hu;simp at hu;rcases hu with rfl | rfl<;>rfl
         case c3=>decide
         case c4=>unfold maxLen;omega
         case c5=>omega
         case c6=>have:=HRR.out.bel.size;simp;omega
         case c7=>simp
         intro g cap w9 hown9 hg9 hat9 hlt9;have hb9:Below w0.heap.size w0 w9:=(HRR.out.bel.alloc HRR.out.bel.size _).grown hg9 (by have:=HRR.out.bel.size;simp;omega) (fun x hx=>by have:=HRR.out.ob x hx;omega);clear hg9 hat9 hO HRR y0 y1;go_wp2;go_roundw
         case rel=>
          refine⟨q,n,K++[((s.extract (k+1) q),(-1))],by go_num,by omega,by omega,by simp;omega,by omega,jb ?_,jb ?_,?_,hb9⟩
          ·rw [List.map_append]
           exact HG.out
          ·intro x hx
           rcases List.mem_append.1 hx with hx | hx
           ·exact HK.out x hx
           ·obtain rfl:=List.mem_singleton.1 hx
            exact⟨by show(s.extract (k+1) q).size<=_;rw [ByteArray.size_extract];omega,by dsimp only;omega,by dsimp only;omega⟩
          ·rw [List.flatMap_append,List.length_append]
           exact hown9
         case measure=>simp only [intOf];omega
        ·go_upto_region 29 with fail
         clear x0 x1 z0 z1;generalize wr.setCell ⟨T,0,none⟩ (.string (s.extract (k+1) q))=W5 at RR1 ⊢;have RR:=RR1.out;clear RR1;obtain⟨y0,y1,_,_⟩:=RR.cells;have HRR:=jb RR;have hO:=RR.own;clear RR
         go_wp2_with (at_builtin;refine wpList_append_lies _ rfl _ _ 22 rfl w0.heap.size 50 i0 (.agg #[.string ⟨#[]⟩,.int .i64 0]) 2 24 Tryd.underlying22 hi hz0 hz1 hz2 rfl (by decide) _ _ _ rfl (hO.alloc _) ⟨W5.heap.size,0,none⟩ 1 1 [.string (s.extract (k+1) q),.int .i64 (-1)] rfl rfl ?c1 ?c2 ?c3 ?c4 ?c5 ?c6 (W5.heap.size+1) ?c7 ?_)
         case c1=>exact cell_two_new _ _ _ _
         case c2=>intro u hu;simp at hu;rcases hu with rfl | rfl<;>rfl
         case c3=>decide
         case c4=>unfold maxLen;omega
         case c5=>omega
         case c6=>have:=HRR.out.bel.size;simp;omega
         case c7=>simp
         intro g cap w9 hown9 hg9 hat9 hlt9;have hb9:Below w0.heap.size w0 w9:=(HRR.out.bel.alloc HRR.out.bel.size _).grown hg9 (by have:=HRR.out.bel.size;simp;omega) (fun x hx=>by have:=HRR.out.ob x hx;omega);clear hg9 hat9 hO HRR y0 y1;go_wp2;go_roundw
         case rel=>
          refine⟨q,n,K++[((s.extract (k+1) q),(-1))],by go_num,by omega,by omega,by simp;omega,by omega,jb ?_,jb ?_,?_,hb9⟩
          ·rw [List.map_append]
           exact HG.out
          ·intro x hx
           rcases List.mem_append.1 hx with hx | hx
           ·exact HK.out x hx
           ·obtain rfl:=List.mem_singleton.1 hx
            exact⟨by show(s.extract (k+1) q).size<=_;rw [ByteArray.size_extract];omega,by dsimp only;omega,by dsimp only;omega⟩
          ·rw [List.flatMap_append,List.length_append]
           exact hown9
         case measure=>simp only [intOf];omega
        ·go_upto_region 29 with fail
         clear x0 x1 z0 z1;generalize wr.setCell ⟨T,0,none⟩ (.string (s.extract (k+1) q))=W5 at RR1 ⊢;have RR:=RR1.out;clear RR1;obtain⟨y0,y1,_,_⟩:=RR.cells;have HRR:=jb RR;have hO:=RR.own;clear RR
         go_wp2_with (at_builtin;refine wpList_append_lies _ rfl _ _ 22 rfl w0.heap.size 50 i0 (.agg #[.string ⟨#[]⟩,.int .i64 0]) 2 24 Tryd.underlying22 hi hz0 hz1 hz2 rfl (by decide) _ _ _ rfl (hO.alloc _) ⟨W5.heap.size,0,none⟩ 1 1 [.string (s.extract (k+1) q),.int .i64 (-1)] rfl rfl ?c1 ?c2 ?c3 ?c4 ?c5 ?c6 (W5.heap.size+1) ?c7 ?_)
         case c1=>exact cell_two_new _ _ _ _
         case c2=>intro u hu;simp at hu;rcases hu with rfl | rfl<;>rfl
         case c3=>decide
         case c4=>unfold maxLen;omega
         case c5=>omega
         case c6=>have:=HRR.out.bel.size;simp;omega
         case c7=>simp
         intro g cap w9 hown9 hg9 hat9 hlt9;have hb9:Below w0.heap.size w0 w9:=(HRR.out.bel.alloc HRR.out.bel.size _).grown hg9 (by have:=HRR.out.bel.size;simp;omega) (fun x hx=>by have:=HRR.out.ob x hx;omega);clear hg9 hat9 hO HRR y0 y1;go_wp2;go_roundw
         case rel=>
          refine⟨q,n,K++[((s.extract (k+1) q),(-1))],by go_num,by omega,by omega,by simp;omega,by omega,jb ?_,jb ?_,?_,hb9⟩
          ·rw [List.map_append]
           exact HG.out
          ·intro x hx
           rcases List.mem_append.1 hx with hx | hx
           ·exact HK.out x hx
           ·obtain rfl:=List.mem_singleton.1 hx
            exact⟨by show(s.extract (k+1) q).size<=_;rw [ByteArray.size_extract];omega,by dsimp only;omega,by dsimp only;omega⟩
          ·rw [List.flatMap_append,List.length_append]
           exact hown9
         case measure=>simp only [intOf];omega
  ·have hdr:s.data.toList.drop k=[]:=List.drop_of_length_le (by rw [jc];omega)
   have hF:X=some (K.map stL):=by rw [<-HE.out,hdr,XK]
   obtain⟨p,c,rfl,hc,hL,_⟩:=jU hown HK.out;have hlenK:(K.map stL).length=K.length:=List.length_map _;have KF:=jb (j3 wr p c (K.map stL) hL (by rw [hlenK];omega));rw [hlenK] at KF;have HF:=jb (HX.out.symm.trans hF);have HL:=jb hL;have HLK:=jb hlenK;clear hdr hF hL HE hown hlenK
   go_wp2_with fail
   refine(ja KF).mono ?_
   rintro _ w1 ⟨rfl,b1⟩
   have hL1:=HL.out.keep b1;have B1:=jb (hbw.trans (b1.mono hbw.size));clear KF b1
   by_cases e:jk (K.map stL)=0
   ·have KT:=jb (zn w1 p c (K.map stL) hL1 e)
    rw [HLK.out] at KT;rw [e];have HL1:=jb hL1;clear hL1 HL
    go_wp2_with fail
    refine(ja KT).mono ?_
    rintro _ w2 ⟨rfl,b2⟩
    have B2:=jb (B1.out.trans (b2.mono B1.out.size));have L2:=jb (HL1.out.keep b2);clear KT b2 B1 HL1
    by_cases hq:jn (K.map stL)=s.data.toList
    ·have hs2:(jn (K.map stL) == s.toList)=true:=by rw [ByteArray.toList_eq];exact beq_iff_eq.2 hq
     have HQ:=jb (Xn HF.out e hq);clear hq e;go_wp2;go_ret2;exact⟨.inl ⟨K.map stL,p,c,by rw [HLK.out];rfl,by rw [HLK.out];exact hc,L2.out,HQ.out⟩,B2.out⟩
    ·have hs2:(jn (K.map stL) == s.toList)=false:=by rw [ByteArray.toList_eq];exact beq_eq_false_iff_ne.2 hq
     have HQ:=jb (Zc HF.out (.inr hq));clear hq e;go_wp2;go_ret2;exact⟨.inr ⟨rfl,HQ.out⟩,B2.out⟩
   ·have e1:(jk (K.map stL) != 0)=true:=bne_iff_ne.2 e
    have HQ:=jb (Zc HF.out (.inl e));clear e hL1 HL;go_wp2;go_ret2;exact⟨.inr ⟨rfl,HQ.out⟩,B1.out⟩
end paths
end Go.Proofs.YticcibefchffmaaDoor
