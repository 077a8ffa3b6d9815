/- Of our texts, what this claim reaches. -/
import Derived.Test.YtnbfnjhbmeocfaaGreatDoorPstAJ
import Derived.Test.YtnbfnjhbmeocfaaGreatDoorPstAI
set_option linter.unusedVariables false
namespace Go.Proofs.YtnbfnjhbmeocfaaGreatDoor
namespace escs
open utfs
open bigs (hexc hexv hexc_val digB digB_low digB_high)
def qr (r:Int):List UInt8 :=
 if r=34 then [92,34] else if r=92 then [92,92] else if r=10 then [92,110] else if r=9 then [92,116] else if r=13 then [92,114]
 else if r<32\/r=127 then [92,117,123]++(digB 16 r.toNat++[125]) else Lib.encodeRune r
def qs (rs:List Int):List UInt8:=rs.flatMap qr
def jF (rs:List Int):List UInt8:=34 :: (qs rs++[34])
theorem jj2:qs []=[]:=rfl
theorem Zz (r:Int)(rs:List Int):qs (r :: rs)=qr r++qs rs:=by simp [qs]
theorem jar (a b:List Int):qs (a++b)=qs a++qs b:=by simp [qs]
theorem jht (r:Int):qs [r]=qr r:=by simp [qs]
abbrev jiB:Type:=Int⊕(Int×Nat)
def qU:Nat->Nat->List UInt8->Nat×Nat
 | 0,v,_=>(v,0)
 | _+1,v,[]=>(v,0)
 | f+1,v,c :: l=>if hexv c<16 then ((qU f (v*16+hexv c) l).1,(qU f (v*16+hexv c) l).2+1) else (v,0)
def jcK (s:List UInt8):jiB :=
 if (qU 6 0 s).2=0\/(s.drop (qU 6 0 s).2).head?≠some 125 then .inl 4
 else if sc ((qU 6 0 s).1:Int)=true then .inr (((qU 6 0 s).1:Int),((qU 6 0 s).2+4)) else .inl 3
def Zi (t:List UInt8):jiB :=
 if t.take 2=[117,123] then jcK (t.drop 2)
 else match t with
  | []=>.inl 4
  | c :: _=>if c=34\/c=92\/c=47 then .inr ((c.toNat:Int),2) else if c=110 then .inr (10,2) else if c=116 then .inr (9,2) else if c=114 then .inr (13,2) else .inl 4
def zJ (l:List UInt8):jiB :=
 if l.headD 0=10 then .inl 4 else if l.headD 0=92 then Zi (l.drop 1) else if Jn l=true then .inl 3 else .inr (((Lib.decodeL l).1:Int),(Lib.decodeL l).2)
abbrev Res:Type:=Int⊕(List Int×Nat)
def je0 (r:Int)(n:Nat):Res->Res
 | .inl e=>.inl e
 | .inr (rs,k)=>.inr ((r :: rs),(n+k))
def jie:Nat->List UInt8->Res
 | 0,_=>.inl 4
 | _+1,[]=>.inl 4
 | f+1,c :: t=>if c=34 then .inr ([],1) else match zJ (c :: t) with
  | .inl e=>.inl e
  | .inr (r,n)=>je0 r n (jie f ((c :: t).drop n))
def unq (q:List UInt8):Res :=
 match q with
 | []=>.inl 4
 | c :: t=>if c=34 then (match jie (t.length+1) t with | .inl e=>.inl e | .inr (rs,k)=>.inr (rs,(k+1))) else .inl 4
theorem Yd:∀(f v:Nat) (l x:List UInt8),(qU f v l).2<l.length->qU f v (l.take ((qU f v l).2+1)++x)=qU f v l
 | 0,v,l,x,_=>by simp [qU]
 | f+1,v,[],x,h=>by simp at h
 | f+1,v,c :: l,x,h=>by
  by_cases hc:hexv c<16
  ·have e:qU (f+1) v (c :: l)=((qU f (v*16+hexv c) l).1,(qU f (v*16+hexv c) l).2+1):=by rw [qU,if_pos hc]
   rw [e] at h ⊢;simp only [List.length_cons] at h;have ih:=Yd f (v*16+hexv c) l x (by omega);rw [List.take_succ_cons,List.cons_append,qU,if_pos hc,ih]
  ·have e:qU (f+1) v (c :: l)=(v,0):=by rw [qU,if_neg hc]
   rw [e,List.take_succ_cons,List.take_zero,List.cons_append,qU,if_neg hc]
theorem je1 {r:Int}(h0:0<=r)(h1:r<=127):Lib.encodeRune r=[r.toNat.toUInt8]:=by
 simp [Lib.encodeRune,Lib.encodeRuneZ_one h0 h1]
theorem jhT {r:Int}(h0:0<=r)(h1:r<=127):sc r=true:=decide_eq_true (by omega)
theorem jf5 {t:List UInt8}(h:t.take 2=[117,123]):∃s,t=117 :: 123 :: s:=by
 match t,h with
 | [],h=>simp at h
 | [a],h=>simp at h
 | a :: b :: s,h=>simp at h;exact⟨s,by rw [h.1,h.2]⟩
theorem jfi {s:List UInt8}{r:Int}{m:Nat}(h:jcK s=.inr (r,m)) :
  5<=m/\m - 3<=s.length/\sc r=true/\∀x,jcK (s.take (m - 3)++x)=.inr (r,m):=by
 unfold jcK at h;split at h
 ·cases h
 ·rename_i hn
  split at h
  ·rename_i hs
   cases h
   have h0:(qU 6 0 s).2≠0:=fun e=>hn (.inl e)
   have h1:(s.drop (qU 6 0 s).2).head?=some 125:=Classical.byContradiction fun e=>hn (.inr e)
   have hl:(qU 6 0 s).2<s.length:=by
    rcases Nat.lt_or_ge (qU 6 0 s).2 s.length with k | k
    ·exact k
    ·rw [List.drop_of_length_le k] at h1;cases h1
   refine⟨by omega,by omega,hs,fun x=>?_⟩;have e1:(qU 6 0 s).2+4 - 3=(qU 6 0 s).2+1:=by omega
   rw [e1];have hf:=Yd 6 0 s x hl
   have hh:((s.take ((qU 6 0 s).2+1)++x).drop (qU 6 0 s).2).head?=some 125:=by
    rw [<-h1,List.head?_drop,List.head?_drop,List.getElem?_append_left (by rw [List.length_take];omega),List.getElem?_take_of_lt (by omega)]
   unfold jcK;rw [hf,if_neg (by rw [hh];simp [h0]),if_pos hs]
  ·cases h
theorem jdX {l:List UInt8}{r:Int}{m:Nat}(hl:l≠[])(h:zJ l=.inr (r,m)) :
  1<=m/\m<=l.length/\sc r=true/\(Lib.encodeRune r).length<=m/\∀x,zJ (l.take m++x)=.inr (r,m):=by
 match l,hl with
 | c :: t,_=>
  unfold zJ at h;rw [List.headD_cons,List.drop_succ_cons,List.drop_zero] at h;split at h
  ·cases h
  ·rename_i h10
   split at h
   ·rename_i h92
    subst h92;unfold Zi at h;split at h
    ·rename_i h2
     obtain⟨s,rfl⟩:=jf5 h2;have e2:(117 :: 123 :: s).drop 2=s:=rfl;rw [e2] at h;obtain⟨a1,a2,a3,a4⟩:=jfi h;have h4:=jy r;refine⟨by omega,by simp only [List.length_cons];omega,a3,by omega,fun x=>?_⟩;obtain⟨k,rfl⟩:∃k,m=k+3:=⟨m - 3,by omega⟩
     have e3:k+3 - 3=k:=by omega
     rw [e3] at a4;have e4:(92 :: 117 :: 123 :: s).take (k+3)++x=92 :: 117 :: 123 :: (s.take k++x):=by simp
     rw [e4];unfold zJ;rw [List.headD_cons,if_neg (by decide),if_pos rfl,List.drop_succ_cons,List.drop_zero];unfold Zi;rw [if_pos (by simp)];exact a4 x
    ·match t with
     | []=>cases h
     | c :: t'=>
      simp only at h
      have fin:∀(q:Int),0<=q->q<=127->c≠117->(∀x,Zi (c :: x)=.inr (q,2))->(Sum.inr (q,2):jiB)=.inr (r,m)->1<=m/\m<=(92 :: c :: t').length/\sc r=true/\(Lib.encodeRune r).length<=m/\∀x,zJ ((92 :: c :: t').take m++x)=.inr (r,m):=by
       intro q q0 q1 hc hx e;cases e
       refine⟨by omega,by simp,jhT q0 q1,by rw [je1 q0 q1];simp,fun x=>?_⟩;have e4:(92 :: c :: t').take 2++x=92 :: c :: x:=by simp
       rw [e4];unfold zJ;rw [List.headD_cons,if_neg (by decide),if_pos rfl,List.drop_succ_cons,List.drop_zero];exact hx x
      have ne2:c≠117->∀x:List UInt8,¬(c :: x).take 2=[117,123]:=fun hc x e=>by
       rw [List.take_succ_cons] at e;injection e with e1 e2;exact hc e1
      split at h
      ·rename_i hc
       have hc7:c≠117:=by rcases hc with rfl | rfl | rfl<;>decide
       refine fin (c.toNat:Int) (by omega) (by rcases hc with rfl | rfl | rfl<;>decide) hc7 (fun x=>?_) h;unfold Zi;rw [if_neg (ne2 hc7 x)];simp only;rw [if_pos hc]
      ·rename_i hc
       split at h
       ·rename_i h1
        subst h1;exact fin 10 (by decide) (by decide) (by decide) (fun x=>by simp [Zi]) h
       ·split at h
        ·rename_i h1
         subst h1;exact fin 9 (by decide) (by decide) (by decide) (fun x=>by simp [Zi]) h
        ·split at h
         ·rename_i h1
          subst h1;exact fin 13 (by decide) (by decide) (by decide) (fun x=>by simp [Zi]) h
         ·cases h
   ·rename_i h92
    split at h
    ·cases h
    ·rename_i hb
     have hb':Jn (c :: t)=false:=by simpa using hb
     obtain⟨q,rest,hs,e,ed⟩:=XU (by simp) hb';rw [ed] at h;simp only at h;have hq:=jQ hs;have eq:((q.toNat:Nat):Int)=q:=by omega
     rw [eq] at h;cases h
     have h4:=jy r;have hlen:=congrArg List.length e;rw [List.length_append] at hlen;refine⟨by omega,by omega,hs,Nat.le_refl _,fun x=>?_⟩
     have hc:(Lib.encodeRune r++x).headD 0=c:=by
      rcases he:Lib.encodeRune r with _ | ⟨a,b⟩
      ·rw [he] at h4;simp at h4
      ·rw [he] at e
       injection e with e1 _;rw [e1];rfl
     rw [e,List.take_left' rfl];unfold zJ;rw [hc,if_neg h10,if_neg h92,if_neg (by rw [XX hs];simp),J5 hs];simp only;rw [eq]
theorem Qr (r:Int)(h:sc r=true):(r=34\/r=92\/r=10\/r=9\/r=13)\/((r<32\/r=127)/\r≠34/\r≠92/\r≠10/\r≠9/\r≠13)\/(32<=r/\r≠127/\r≠34/\r≠92):=by omega
theorem Qn {r:Int}(h:r<32\/r=127)(h1:r≠10)(h2:r≠9)(h3:r≠13):qr r=92 :: 117 :: 123 :: (digB 16 r.toNat++[125]):=by
 unfold qr;rw [if_neg (by omega),if_neg (by omega),if_neg h1,if_neg h2,if_neg h3,if_pos h];rfl
theorem JN {r:Int}(h0:32<=r)(h1:r≠127)(h2:r≠34)(h3:r≠92):qr r=Lib.encodeRune r:=by
 unfold qr;rw [if_neg h2,if_neg h3,if_neg (by omega),if_neg (by omega),if_neg (by omega),if_neg (by omega)]
theorem Ze {r:Int}(h0:0<=r)(h:r<32\/r=127):(∃d,d<16/\r.toNat=d/\digB 16 r.toNat=[hexc d])\/(∃a d,a<16/\d<16/\r.toNat=a*16+d/\digB 16 r.toNat=[hexc a,hexc d]):=by
 by_cases c:r.toNat<16
 ·exact .inl ⟨r.toNat,c,rfl,digB_low c⟩
 ·refine .inr ⟨r.toNat / 16,r.toNat % 16,by omega,by omega,by omega,?_⟩
  rw [digB_high (by decide) (by omega),digB_low (b:=16) (n:=r.toNat / 16) (by omega)];rfl
theorem Yi:hexv 125=16:=by decide
theorem jeK {r:Int}(hs:sc r=true)(x:List UInt8):∃c t,qr r++x=c :: t/\c≠34/\zJ (c :: t)=.inr (r,(qr r).length):=by
 have h0:=jQ hs
 rcases Qr r hs with h | ⟨h,h34,h92,h10,h9,h13⟩ | ⟨h,h127,h34,h92⟩
 ·rcases h with rfl | rfl | rfl | rfl | rfl
  ·exact⟨92,34 :: x,rfl,by decide,by simp [zJ,Zi,qr]⟩
  ·exact⟨92,92 :: x,rfl,by decide,by simp [zJ,Zi,qr]⟩
  ·exact⟨92,110 :: x,rfl,by decide,by simp [zJ,Zi,qr]⟩
  ·exact⟨92,116 :: x,rfl,by decide,by simp [zJ,Zi,qr]⟩
  ·exact⟨92,114 :: x,rfl,by decide,by simp [zJ,Zi,qr]⟩
 ·have e:=Qn h h10 h9 h13
  refine⟨92,117 :: 123 :: (digB 16 r.toNat++[125]++x),by rw [e];simp,by decide,?_⟩
  have key:jcK (digB 16 r.toNat++[125]++x)=.inr (r,(qr r).length):=by
   rw [e]
   rcases Ze h0.1 h with ⟨d,hd,ed,eg⟩ | ⟨a,d,ha,hd,ed,eg⟩
   ·have v:=(hexc_val hd).1
    rw [eg]
    have hf:qU 6 0 ([hexc d]++[125]++x)=(d,1):=by
     simp only [List.cons_append,List.nil_append,qU,v,Yi];rw [if_pos hd,if_neg (by omega)];simp
    unfold jcK;rw [hf,if_neg (by simp)];simp only;have:((d:Nat):Int)=r:=by omega
    rw [this,if_pos hs];rfl
   ·have va:=(hexc_val ha).1
    have vd:=(hexc_val hd).1;rw [eg]
    have hf:qU 6 0 ([hexc a,hexc d]++[125]++x)=(a*16+d,2):=by
     simp only [List.cons_append,List.nil_append,qU,va,vd,Yi];rw [if_pos ha,if_pos hd,if_neg (by omega)];simp
    unfold jcK;rw [hf,if_neg (by simp)];simp only;have:((a*16+d:Nat):Int)=r:=by omega
    rw [this,if_pos hs];rfl
  unfold zJ;rw [List.headD_cons,if_neg (by decide),if_pos rfl,List.drop_succ_cons,List.drop_zero];unfold Zi;rw [if_pos (by simp)];exact key
 ·rw [JN h h127 h34 h92]
  have h4:=jy r
  rcases he:Lib.encodeRune r++x with _ | ⟨c,t⟩
  ·exact absurd he (jeA r x)
  ·have hc:c.toNat≠34/\c.toNat≠92/\c.toNat≠10:=by
    rcases qX hs with ⟨a,e⟩ | ⟨a,b,e⟩ | ⟨a,b,e⟩ | ⟨a,e⟩<;>rw [e] at he<;>injection he with e1 _<;>rw [<-e1,jT (by omega) (by omega)]<;>omega
   have n34:c≠34:=fun e=>hc.1 (by rw [e];rfl)
   have n92:c≠92:=fun e=>hc.2.1 (by rw [e];rfl)
   have n10:c≠10:=fun e=>hc.2.2 (by rw [e];rfl)
   refine⟨c,t,rfl,n34,?_⟩;unfold zJ;rw [List.headD_cons,if_neg n10,if_neg n92,<-he,if_neg (by rw [XX hs];simp),J5 hs];simp only;have eq:((r.toNat:Nat):Int)=r:=by omega
   rw [eq]
theorem jjR {r:Int}(hs:sc r=true):1<=(qr r).length:=by
 obtain⟨c,t,e,_,h⟩:=jeK hs [];have:=jdX (by simp) h;exact this.1
theorem jku {r:Int}(hs:sc r=true):(qr r).length<=6/\(qr r).length<=6*(Lib.encodeRune r).length:=by
 have h0:=jQ hs;have h4:=jy r
 have key:(qr r).length<=6:=by
  rcases Qr r hs with h | ⟨h,h34,h92,h10,h9,h13⟩ | ⟨h,h127,h34,h92⟩
  ·rcases h with rfl | rfl | rfl | rfl | rfl<;>decide
  ·rw [Qn h h10 h9 h13]
   rcases Ze h0.1 h with ⟨d,_,_,eg⟩ | ⟨a,d,_,_,_,eg⟩<;>rw [eg]<;>simp
  ·rw [JN h h127 h34 h92];omega
 exact⟨key,by omega⟩
theorem jeN:∀(rs:List Int),(∀r∈rs,sc r=true)->(qs rs).length<=6*(enc rs).length
 | [],_=>by simp [qs]
 | r :: rs,h=>by
  have a:=jku (h r List.mem_cons_self);have b:=jeN rs (fun q hq=>h q (List.mem_cons_of_mem _ hq));rw [Zz,qR,List.length_append,List.length_append];omega
theorem jjn:∀(rs:List Int),(∀r∈rs,sc r=true)->rs.length<=(qs rs).length
 | [],_=>by simp
 | r :: rs,h=>by
  have a:=jjR (h r List.mem_cons_self);have b:=jjn rs (fun q hq=>h q (List.mem_cons_of_mem _ hq));rw [Zz,List.length_append,List.length_cons];omega
theorem jaB:∀(rs:List Int) (f:Nat) (x:List UInt8),(∀r∈rs,sc r=true)->rs.length<f->jie f (qs rs++34 :: x)=.inr (rs,((qs rs).length+1))
 | [],f,x,_,hf=>by
  obtain⟨k,rfl⟩:∃k,f=k+1:=⟨f - 1,by omega⟩
  simp [qs,jie]
 | r :: rs,f,x,h,hf=>by
  obtain⟨k,rfl⟩:∃k,f=k+1:=⟨f - 1,by omega⟩
  simp only [List.length_cons] at hf;have ih:=jaB rs k x (fun q hq=>h q (List.mem_cons_of_mem _ hq)) (by omega);obtain⟨c,t,e,hc,hn⟩:=jeK (h r List.mem_cons_self) (qs rs++34 :: x);rw [Zz,List.append_assoc,e,jie,if_neg hc,hn];simp only;rw [<-e,List.drop_left' rfl,ih];simp only [je0,List.length_append];rw [Nat.add_assoc]
theorem jig (rs:List Int)(x:List UInt8)(h:∀r∈rs,sc r=true):unq (jF rs++x)=.inr (rs,(jF rs).length):=by
 have hg:=jjn rs h;unfold jF;rw [List.cons_append,unq,if_pos rfl,List.append_assoc];rw [show qs rs++([34]++x)=qs rs++34 :: x from rfl,jaB rs _ x h (by simp;omega)];simp
end escs
end Go.Proofs.YtnbfnjhbmeocfaaGreatDoor
