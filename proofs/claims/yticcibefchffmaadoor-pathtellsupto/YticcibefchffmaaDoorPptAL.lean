/- Of our texts, what this claim reaches. -/
import Derived.Test.YticcibefchffmaaDoorPptAJ
import Derived.Test.YticcibefchffmaaDoorPptAI
set_option linter.unusedVariables false
namespace Go.Proofs.YticcibefchffmaaDoor
namespace escs
open utfs
open bigs (hexc hexv hexv_le hexc_val digB digB_low digB_high)
def qr (r:Int):List UInt8 :=
 if r=34 then [92,34] else if r=92 then [92,92] else if r=10 then [92,110] else if r=9 then [92,116] else if r=13 then [92,114]
 else if r<32\/r=127 then [92,117,123]++(digB 16 r.toNat++[125]) else Lib.encodeRune r
def qs (rs:List Int):List UInt8:=rs.flatMap qr
def jm (rs:List Int):List UInt8:=34 :: (qs rs++[34])
theorem JK (r:Int)(rs:List Int):qs (r :: rs)=qr r++qs rs:=by simp [qs]
theorem Jp (a b:List Int):qs (a++b)=qs a++qs b:=by simp [qs]
theorem Z7 (r:Int):qs [r]=qr r:=by simp [qs]
abbrev Ji:Type:=Int⊕(Int×Nat)
def je:Nat->Nat->List UInt8->Nat×Nat
 | 0,v,_=>(v,0)
 | _+1,v,[]=>(v,0)
 | f+1,v,c :: l=>if hexv c<16 then ((je f (v*16+hexv c) l).1,(je f (v*16+hexv c) l).2+1) else (v,0)
def j2 (s:List UInt8):Ji :=
 if (je 6 0 s).2=0\/(s.drop (je 6 0 s).2).head?≠some 125 then .inl 4
 else if sc ((je 6 0 s).1:Int)=true then .inr (((je 6 0 s).1:Int),((je 6 0 s).2+4)) else .inl 3
def jv (t:List UInt8):Ji :=
 if t.take 2=[117,123] then j2 (t.drop 2)
 else match t with
  | []=>.inl 4
  | c :: _=>if c=34\/c=92\/c=47 then .inr ((c.toNat:Int),2) else if c=110 then .inr (10,2) else if c=116 then .inr (9,2) else if c=114 then .inr (13,2) else .inl 4
def jp (l:List UInt8):Ji :=
 if l.headD 0=10 then .inl 4 else if l.headD 0=92 then jv (l.drop 1) else if jI l=true then .inl 3 else .inr (((Lib.decodeL l).1:Int),(Lib.decodeL l).2)
abbrev Res:Type:=Int⊕(List Int×Nat)
def qN (r:Int)(n:Nat):Res->Res
 | .inl e=>.inl e
 | .inr (rs,k)=>.inr ((r :: rs),(n+k))
def j8:Nat->List UInt8->Res
 | 0,_=>.inl 4
 | _+1,[]=>.inl 4
 | f+1,c :: t=>if c=34 then .inr ([],1) else match jp (c :: t) with
  | .inl e=>.inl e
  | .inr (r,n)=>qN r n (j8 f ((c :: t).drop n))
def unq (q:List UInt8):Res :=
 match q with
 | []=>.inl 4
 | c :: t=>if c=34 then (match j8 (t.length+1) t with | .inl e=>.inl e | .inr (rs,k)=>.inr (rs,(k+1))) else .inl 4
theorem Zj:∀(f v:Nat) (l:List UInt8),(je f v l).2<=f/\(je f v l).2<=l.length
 | 0,v,l=>by simp [je]
 | f+1,v,[]=>by simp [je]
 | f+1,v,c :: l=>by
  unfold je;split
  ·have:=Zj f (v*16+hexv c) l
   simp only [List.length_cons];omega
  ·simp
theorem zR:∀(f v:Nat) (l x:List UInt8),(je f v l).2<l.length->je f v (l.take ((je f v l).2+1)++x)=je f v l
 | 0,v,l,x,_=>by simp [je]
 | f+1,v,[],x,h=>by simp at h
 | f+1,v,c :: l,x,h=>by
  by_cases hc:hexv c<16
  ·have e:je (f+1) v (c :: l)=((je f (v*16+hexv c) l).1,(je f (v*16+hexv c) l).2+1):=by rw [je,if_pos hc]
   rw [e] at h ⊢;simp only [List.length_cons] at h;have ih:=zR f (v*16+hexv c) l x (by omega);rw [List.take_succ_cons,List.cons_append,je,if_pos hc,ih]
  ·have e:je (f+1) v (c :: l)=(v,0):=by rw [je,if_neg hc]
   rw [e,List.take_succ_cons,List.take_zero,List.cons_append,je,if_neg hc]
theorem Zi {r:Int}(h0:0<=r)(h1:r<=127):Lib.encodeRune r=[r.toNat.toUInt8]:=by
 simp [Lib.encodeRune,Lib.encodeRuneZ_one h0 h1]
theorem YR {r:Int}(h0:0<=r)(h1:r<=127):sc r=true:=decide_eq_true (by omega)
theorem zt {t:List UInt8}(h:t.take 2=[117,123]):∃s,t=117 :: 123 :: s:=by
 match t,h with
 | [],h=>simp at h
 | [a],h=>simp at h
 | a :: b :: s,h=>simp at h;exact⟨s,by rw [h.1,h.2]⟩
theorem ZA {s:List UInt8}{r:Int}{m:Nat}(h:j2 s=.inr (r,m)) :
  5<=m/\m - 3<=s.length/\sc r=true/\∀x,j2 (s.take (m - 3)++x)=.inr (r,m):=by
 unfold j2 at h;split at h
 ·cases h
 ·rename_i hn
  split at h
  ·rename_i hs
   cases h
   have h0:(je 6 0 s).2≠0:=fun e=>hn (.inl e)
   have h1:(s.drop (je 6 0 s).2).head?=some 125:=Classical.byContradiction fun e=>hn (.inr e)
   have hl:(je 6 0 s).2<s.length:=by
    rcases Nat.lt_or_ge (je 6 0 s).2 s.length with k | k
    ·exact k
    ·rw [List.drop_of_length_le k] at h1;cases h1
   refine⟨by omega,by omega,hs,fun x=>?_⟩;have e1:(je 6 0 s).2+4 - 3=(je 6 0 s).2+1:=by omega
   rw [e1];have hf:=zR 6 0 s x hl
   have hh:((s.take ((je 6 0 s).2+1)++x).drop (je 6 0 s).2).head?=some 125:=by
    rw [<-h1,List.head?_drop,List.head?_drop,List.getElem?_append_left (by rw [List.length_take];omega),List.getElem?_take_of_lt (by omega)]
   unfold j2;rw [hf,if_neg (by rw [hh];simp [h0]),if_pos hs]
  ·cases h
theorem qy {l:List UInt8}{r:Int}{m:Nat}(hl:l≠[])(h:jp l=.inr (r,m)) :
  1<=m/\m<=l.length/\sc r=true/\(Lib.encodeRune r).length<=m/\∀x,jp (l.take m++x)=.inr (r,m):=by
 match l,hl with
 | c :: t,_=>
  unfold jp at h;rw [List.headD_cons,List.drop_succ_cons,List.drop_zero] at h;split at h
  ·cases h
  ·rename_i h10
   split at h
   ·rename_i h92
    subst h92;unfold jv at h;split at h
    ·rename_i h2
     obtain⟨s,rfl⟩:=zt h2;have e2:(117 :: 123 :: s).drop 2=s:=rfl;rw [e2] at h;obtain⟨a1,a2,a3,a4⟩:=ZA h;have h4:=jd r;refine⟨by omega,by simp only [List.length_cons];omega,a3,by omega,fun x=>?_⟩;obtain⟨k,rfl⟩:∃k,m=k+3:=⟨m - 3,by omega⟩
     have e3:k+3 - 3=k:=by omega
     rw [e3] at a4;have e4:(92 :: 117 :: 123 :: s).take (k+3)++x=92 :: 117 :: 123 :: (s.take k++x):=by simp
     rw [e4];unfold jp;rw [List.headD_cons,if_neg (by decide),if_pos rfl,List.drop_succ_cons,List.drop_zero];unfold jv;rw [if_pos (by simp)];exact a4 x
    ·match t with
     | []=>cases h
     | c :: t'=>
      simp only at h
      have fin:∀(q:Int),0<=q->q<=127->c≠117->(∀x,jv (c :: x)=.inr (q,2))->(Sum.inr (q,2):Ji)=.inr (r,m)->1<=m/\m<=(92 :: c :: t').length/\sc r=true/\(Lib.encodeRune r).length<=m/\∀x,jp ((92 :: c :: t').take m++x)=.inr (r,m):=by
       intro q q0 q1 hc hx e;cases e
       refine⟨by omega,by simp,YR q0 q1,by rw [Zi q0 q1];simp,fun x=>?_⟩;have e4:(92 :: c :: t').take 2++x=92 :: c :: x:=by simp
       rw [e4];unfold jp;rw [List.headD_cons,if_neg (by decide),if_pos rfl,List.drop_succ_cons,List.drop_zero];exact hx x
      have ne2:c≠117->∀x:List UInt8,¬(c :: x).take 2=[117,123]:=fun hc x e=>by
       rw [List.take_succ_cons] at e;injection e with e1 e2;exact hc e1
      split at h
      ·rename_i hc
       have hc7:c≠117:=by rcases hc with rfl | rfl | rfl<;>decide
       refine fin (c.toNat:Int) (by omega) (by rcases hc with rfl | rfl | rfl<;>decide) hc7 (fun x=>?_) h;unfold jv;rw [if_neg (ne2 hc7 x)];simp only;rw [if_pos hc]
      ·rename_i hc
       split at h
       ·rename_i h1
        subst h1;exact fin 10 (by decide) (by decide) (by decide) (fun x=>by simp [jv]) h
       ·split at h
        ·rename_i h1
         subst h1;exact fin 9 (by decide) (by decide) (by decide) (fun x=>by simp [jv]) h
        ·split at h
         ·rename_i h1
          subst h1;exact fin 13 (by decide) (by decide) (by decide) (fun x=>by simp [jv]) h
         ·cases h
   ·rename_i h92
    split at h
    ·cases h
    ·rename_i hb
     have hb':jI (c :: t)=false:=by simpa using hb
     obtain⟨q,rest,hs,e,ed⟩:=q6 (by simp) hb';rw [ed] at h;simp only at h;have hq:=jh hs;have eq:((q.toNat:Nat):Int)=q:=by omega
     rw [eq] at h;cases h
     have h4:=jd r;have hlen:=congrArg List.length e;rw [List.length_append] at hlen;refine⟨by omega,by omega,hs,Nat.le_refl _,fun x=>?_⟩
     have hc:(Lib.encodeRune r++x).headD 0=c:=by
      rcases he:Lib.encodeRune r with _ | ⟨a,b⟩
      ·rw [he] at h4;simp at h4
      ·rw [he] at e
       injection e with e1 _;rw [e1];rfl
     rw [e,List.take_left' rfl];unfold jp;rw [hc,if_neg h10,if_neg h92,if_neg (by rw [Jb hs];simp),qv hs];simp only;rw [eq]
theorem z7 (r:Int)(h:sc r=true):(r=34\/r=92\/r=10\/r=9\/r=13)\/((r<32\/r=127)/\r≠34/\r≠92/\r≠10/\r≠9/\r≠13)\/(32<=r/\r≠127/\r≠34/\r≠92):=by omega
theorem zu {r:Int}(h:r<32\/r=127)(h1:r≠10)(h2:r≠9)(h3:r≠13):qr r=92 :: 117 :: 123 :: (digB 16 r.toNat++[125]):=by
 unfold qr;rw [if_neg (by omega),if_neg (by omega),if_neg h1,if_neg h2,if_neg h3,if_pos h];rfl
theorem q8 {r:Int}(h0:32<=r)(h1:r≠127)(h2:r≠34)(h3:r≠92):qr r=Lib.encodeRune r:=by
 unfold qr;rw [if_neg h2,if_neg h3,if_neg (by omega),if_neg (by omega),if_neg (by omega),if_neg (by omega)]
theorem J1 {r:Int}(h0:0<=r)(h:r<32\/r=127):(∃d,d<16/\r.toNat=d/\digB 16 r.toNat=[hexc d])\/(∃a d,a<16/\d<16/\r.toNat=a*16+d/\digB 16 r.toNat=[hexc a,hexc d]):=by
 by_cases c:r.toNat<16
 ·exact .inl ⟨r.toNat,c,rfl,digB_low c⟩
 ·refine .inr ⟨r.toNat / 16,r.toNat % 16,by omega,by omega,by omega,?_⟩
  rw [digB_high (by decide) (by omega),digB_low (b:=16) (n:=r.toNat / 16) (by omega)];rfl
theorem qY:hexv 125=16:=by decide
theorem Zp {r:Int}(hs:sc r=true)(x:List UInt8):∃c t,qr r++x=c :: t/\c≠34/\jp (c :: t)=.inr (r,(qr r).length):=by
 have h0:=jh hs
 rcases z7 r hs with h | ⟨h,h34,h92,h10,h9,h13⟩ | ⟨h,h127,h34,h92⟩
 ·rcases h with rfl | rfl | rfl | rfl | rfl
  ·exact⟨92,34 :: x,rfl,by decide,by simp [jp,jv,qr]⟩
  ·exact⟨92,92 :: x,rfl,by decide,by simp [jp,jv,qr]⟩
  ·exact⟨92,110 :: x,rfl,by decide,by simp [jp,jv,qr]⟩
  ·exact⟨92,116 :: x,rfl,by decide,by simp [jp,jv,qr]⟩
  ·exact⟨92,114 :: x,rfl,by decide,by simp [jp,jv,qr]⟩
 ·have e:=zu h h10 h9 h13
  refine⟨92,117 :: 123 :: (digB 16 r.toNat++[125]++x),by rw [e];simp,by decide,?_⟩
  have key:j2 (digB 16 r.toNat++[125]++x)=.inr (r,(qr r).length):=by
   rw [e]
   rcases J1 h0.1 h with ⟨d,hd,ed,eg⟩ | ⟨a,d,ha,hd,ed,eg⟩
   ·have v:=(hexc_val hd).1
    rw [eg]
    have hf:je 6 0 ([hexc d]++[125]++x)=(d,1):=by
     simp only [List.cons_append,List.nil_append,je,v,qY];rw [if_pos hd,if_neg (by omega)];simp
    unfold j2;rw [hf,if_neg (by simp)];simp only;have:((d:Nat):Int)=r:=by omega
    rw [this,if_pos hs];rfl
   ·have va:=(hexc_val ha).1
    have vd:=(hexc_val hd).1;rw [eg]
    have hf:je 6 0 ([hexc a,hexc d]++[125]++x)=(a*16+d,2):=by
     simp only [List.cons_append,List.nil_append,je,va,vd,qY];rw [if_pos ha,if_pos hd,if_neg (by omega)];simp
    unfold j2;rw [hf,if_neg (by simp)];simp only;have:((a*16+d:Nat):Int)=r:=by omega
    rw [this,if_pos hs];rfl
  unfold jp;rw [List.headD_cons,if_neg (by decide),if_pos rfl,List.drop_succ_cons,List.drop_zero];unfold jv;rw [if_pos (by simp)];exact key
 ·rw [q8 h h127 h34 h92]
  have h4:=jd r
  rcases he:Lib.encodeRune r++x with _ | ⟨c,t⟩
  ·exact absurd he (QH r x)
  ·have hc:c.toNat≠34/\c.toNat≠92/\c.toNat≠10:=by
    rcases jX hs with ⟨a,e⟩ | ⟨a,b,e⟩ | ⟨a,b,e⟩ | ⟨a,e⟩<;>rw [e] at he<;>injection he with e1 _<;>rw [<-e1,jq (by omega) (by omega)]<;>omega
   have n34:c≠34:=fun e=>hc.1 (by rw [e];rfl)
   have n92:c≠92:=fun e=>hc.2.1 (by rw [e];rfl)
   have n10:c≠10:=fun e=>hc.2.2 (by rw [e];rfl)
   refine⟨c,t,rfl,n34,?_⟩;unfold jp;rw [List.headD_cons,if_neg n10,if_neg n92,<-he,if_neg (by rw [Jb hs];simp),qv hs];simp only;have eq:((r.toNat:Nat):Int)=r:=by omega
   rw [eq]
theorem YO {r:Int}(hs:sc r=true):1<=(qr r).length:=by
 obtain⟨c,t,e,_,h⟩:=Zp hs [];have:=qy (by simp) h;exact this.1
theorem jad {r:Int}(hs:sc r=true):(qr r).length<=6/\(qr r).length<=6*(Lib.encodeRune r).length:=by
 have h0:=jh hs;have h4:=jd r
 have key:(qr r).length<=6:=by
  rcases z7 r hs with h | ⟨h,h34,h92,h10,h9,h13⟩ | ⟨h,h127,h34,h92⟩
  ·rcases h with rfl | rfl | rfl | rfl | rfl<;>decide
  ·rw [zu h h10 h9 h13]
   rcases J1 h0.1 h with ⟨d,_,_,eg⟩ | ⟨a,d,_,_,_,eg⟩<;>rw [eg]<;>simp
  ·rw [q8 h h127 h34 h92];omega
 exact⟨key,by omega⟩
theorem Q9:∀(rs:List Int),(∀r∈rs,sc r=true)->(qs rs).length<=6*(enc rs).length
 | [],_=>by simp [qs]
 | r :: rs,h=>by
  have a:=jad (h r List.mem_cons_self);have b:=Q9 rs (fun q hq=>h q (List.mem_cons_of_mem _ hq));rw [JK,jG,List.length_append,List.length_append];omega
theorem Yw:∀(rs:List Int),(∀r∈rs,sc r=true)->rs.length<=(qs rs).length
 | [],_=>by simp
 | r :: rs,h=>by
  have a:=YO (h r List.mem_cons_self);have b:=Yw rs (fun q hq=>h q (List.mem_cons_of_mem _ hq));rw [JK,List.length_append,List.length_cons];omega
theorem Jx:∀(rs:List Int) (f:Nat) (x:List UInt8),(∀r∈rs,sc r=true)->rs.length<f->j8 f (qs rs++34 :: x)=.inr (rs,((qs rs).length+1))
 | [],f,x,_,hf=>by
  obtain⟨k,rfl⟩:∃k,f=k+1:=⟨f - 1,by omega⟩
  simp [qs,j8]
 | r :: rs,f,x,h,hf=>by
  obtain⟨k,rfl⟩:∃k,f=k+1:=⟨f - 1,by omega⟩
  simp only [List.length_cons] at hf;have ih:=Jx rs k x (fun q hq=>h q (List.mem_cons_of_mem _ hq)) (by omega);obtain⟨c,t,e,hc,hn⟩:=Zp (h r List.mem_cons_self) (qs rs++34 :: x);rw [JK,List.append_assoc,e,j8,if_neg hc,hn];simp only;rw [<-e,List.drop_left' rfl,ih];simp only [qN,List.length_append];rw [Nat.add_assoc]
theorem Qn (rs:List Int)(x:List UInt8)(h:∀r∈rs,sc r=true):unq (jm rs++x)=.inr (rs,(jm rs).length):=by
 have hg:=Yw rs h;unfold jm;rw [List.cons_append,unq,if_pos rfl,List.append_assoc];rw [show qs rs++([34]++x)=qs rs++34 :: x from rfl,Jx rs _ x h (by simp;omega)];simp
theorem J7:∀(f:Nat) (l:List UInt8) (rs:List Int) (k:Nat),j8 f l=.inr (rs,k)->
  1<=k/\k<=l.length/\(∀r∈rs,sc r=true)/\(enc rs).length+1<=k/\l.getD (k - 1) 0=34/\∀f',∃e,j8 f' (l.take (k - 1))=.inl e
 | 0,l,rs,k,h=>by simp [j8] at h
 | f+1,[],rs,k,h=>by simp [j8] at h
 | f+1,c :: t,rs,k,h=>by
  rw [j8] at h
  by_cases hc:c=34
  ·rw [if_pos hc] at h
   cases h
   refine⟨by omega,by simp,by simp,by simp [enc],by simp [hc],fun f'=>⟨4,?_⟩⟩;cases f'<;>simp [j8]
  ·rw [if_neg hc] at h
   cases hn:jp (c :: t) with
   | inl e=>rw [hn] at h;cases h
   | inr p=>
    obtain⟨r,n⟩:=p;rw [hn] at h;simp only at h;obtain⟨a1,a2,a3,a4,a5⟩:=qy (by simp) hn;cases hu:j8 f ((c :: t).drop n) with
    | inl e=>rw [hu] at h;cases h
    | inr p=>
     obtain⟨rs',k'⟩:=p;rw [hu] at h;simp only [qN,Sum.inr.injEq,Prod.mk.injEq] at h;obtain⟨rfl,rfl⟩:=h;obtain⟨b1,b2,b3,b4,b5,b6⟩:=J7 f _ _ _ hu;rw [List.length_drop] at b2;refine⟨by omega,by omega,?_,?_,?_,?_⟩
     ·intro q hq
      rcases List.mem_cons.1 hq with rfl | hq
      ·exact a3
      ·exact b3 q hq
     ·rw [jG,List.length_append];omega
     ·rw [<-b5,List.getD_eq_getElem?_getD,List.getD_eq_getElem?_getD,List.getElem?_drop]
      congr 2
      omega
     ·intro f'
      cases f' with
      | zero=>exact⟨4,rfl⟩
      | succ f'=>
       obtain⟨e,he⟩:=b6 f';refine⟨e,?_⟩;have e1:n+k' - 1=n+(k' - 1):=by omega
       have e2:(c :: t).take (n+(k' - 1))=(c :: t).take n++((c :: t).drop n).take (k' - 1):=List.take_add;have hh:=a5 (((c :: t).drop n).take (k' - 1));rw [<-e2] at hh;rw [e1]
       have e3:((c :: t).take (n+(k' - 1))).drop n=((c :: t).drop n).take (k' - 1):=by
        rw [e2,List.drop_left' (by rw [List.length_take];omega)]
       obtain⟨n',rfl⟩:∃n',n=n'+1:=⟨n - 1,by omega⟩
       have e4:(c :: t).take (n'+1+(k' - 1))=c :: t.take (n'+(k' - 1)):=by
        rw [show n'+1+(k' - 1)=(n'+(k' - 1))+1 by omega,List.take_succ_cons]
       rw [e4] at hh e3 ⊢;rw [j8,if_neg hc,hh];simp only;rw [e3,he];rfl
theorem JQ {q:List UInt8}{rs:List Int}{k:Nat}(h:unq q=.inr (rs,k)) :
  2<=k/\k<=q.length/\(∀r∈rs,sc r=true)/\(enc rs).length+2<=k/\q.getD (k - 1) 0=34/\∃e,unq (q.take (k - 1))=.inl e:=by
 match q with
 | []=>cases h
 | c :: t=>
  rw [unq] at h
  by_cases hc:c=34
  ·rw [if_pos hc] at h
   cases hu:j8 (t.length+1) t with
   | inl e=>rw [hu] at h;cases h
   | inr p=>
    obtain⟨rs',k'⟩:=p;rw [hu] at h;simp only [Sum.inr.injEq,Prod.mk.injEq] at h;obtain⟨rfl,rfl⟩:=h;obtain⟨b1,b2,b3,b4,b5,b6⟩:=J7 _ _ _ _ hu;refine⟨by omega,by simp only [List.length_cons];omega,b3,by omega,?_,?_⟩
    ·rw [<-b5]
     obtain⟨j,rfl⟩:∃j,k'=j+1:=⟨k' - 1,by omega⟩
     rfl
    ·obtain⟨j,rfl⟩:∃j,k'=j+1:=⟨k' - 1,by omega⟩
     obtain⟨e,he⟩:=b6 ((t.take j).length+1);refine⟨e,?_⟩;rw [show j+1+1 - 1=j+1 by omega,List.take_succ_cons,unq,if_pos hc];rw [show j+1 - 1=j by omega] at he;rw [he]
  ·rw [if_neg hc] at h;cases h
theorem QX {s:List UInt8}{e:Int}(h:j2 s=.inl e):e=3\/e=4:=by
 unfold j2 at h;split at h
 ·cases h;omega
 ·split at h
  ·cases h
  ·cases h;omega
theorem Qk {l:List UInt8}{e:Int}(h:jp l=.inl e):e=3\/e=4:=by
 unfold jp at h;split at h
 ·cases h;omega
 ·split at h
  ·unfold jv at h
   split at h
   ·exact QX h
   ·split at h
    ·cases h;omega
    ·split at h
     ·cases h
     ·split at h
      ·cases h
      ·split at h
       ·cases h
       ·split at h
        ·cases h
        ·cases h;omega
  ·split at h
   ·cases h;omega
   ·cases h
end escs
end Go.Proofs.YticcibefchffmaaDoor
