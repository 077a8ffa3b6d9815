/- Of our texts, what this claim reaches. -/
import Derived.Test.YtnbfnjhbmeocfabGreatDoorPsbBU
import Derived.Test.YtnbfnjhbmeocfabGreatDoorPsbBV
set_option linter.unusedVariables false
namespace Go.Proofs.YtnbfnjhbmeocfabGreatDoor
namespace valus
open toks (isW)
open bigs (tellB jW)
structure Fit (t:V):Prop where
 i:IsV 20 t
 g:J1 20 t
 z:jH qa t=0
theorem jpq {ok:Nat->Prop}{w:World}{f:Nat}{vs:List Value}{t:V}(h:LiesV ok f w vs t)(h0:jH qa t=0):Fit t/\LiesV ok 20 w vs t:=by
 have hl:=LiesV.shallow f 20 h (Qy h.isV h0).1;exact⟨⟨hl.isV,ZN hl h0,h0⟩,hl⟩
theorem jpr {F:Nat->List UInt8}(hF:∀b,b<18446744073709551616->jW b (F b))(many:Bool){t:V}(h:Fit t):Gr 20 (jN (J9 F many 20 t)) t:=by
 obtain⟨h1,h2⟩:=jaH hF many 20 0 t h.i h.g h.z;unfold J9;cases many with
 | false=>rw [if_neg (by decide),List.append_nil];exact h1
 | true=>
  rw [if_pos rfl,h2 [10] (Zx (by decide)),jbo]
  show Gr 20 (_++[]) t
  rw [List.append_nil];exact h1
theorem jdZ {F:Nat->List UInt8}(hF:∀b,b<18446744073709551616->jW b (F b))(many:Bool){t:V}(h:Fit t)(hs:(J9 F many 20 t).length<=20000):qV ⟨(J9 F many 20 t).toArray⟩ (.inl t):=by
 have hz:(⟨(J9 F many 20 t).toArray⟩:ByteArray).size<=20000:=by
  show(J9 F many 20 t).toArray.size<=20000
  rw [List.size_toArray];exact hs
 exact(jpf hz (jpr hF many h)).1 h.z
theorem jbi {c:UInt8}(h1:c≠44)(h2:c≠32):∀ps:List (List UInt8),c∈jB ps->∃p∈ps,c∈p
 | [],h=>by cases h
 | [p],h=>⟨p,by simp,h⟩
 | p :: q :: r,h=>by
  have h':c∈p++44 :: 32 :: jB (q :: r):=h;rw [List.mem_append,List.mem_cons,List.mem_cons] at h'
  rcases h' with h' | h' | h' | h'
  ·exact⟨p,by simp,h'⟩
  ·exact absurd h' h1
  ·exact absurd h' h2
  ·obtain⟨x,hx,hc⟩:=jbi h1 h2 (q :: r) h'
   exact⟨x,List.mem_cons_of_mem _ hx,hc⟩
theorem YX {F:Nat->List UInt8}(hF:∀b,b<18446744073709551616->jW b (F b)):∀(f d:Nat) (v:V),IsV f v->J1 f v->jH qa v=0->(10:UInt8)∉jC F false f d v
 | 0,_,_,h,_,_=>h.elim
 | f+1,d,v,hI,hG,h0=>by
  obtain⟨⟨k,n,b,s⟩,L,E,rfl,hb,hL,hE⟩:=hI;obtain⟨o,⟨ho1,ho2⟩,gL,gE⟩:=hG;obtain⟨p1,p2,p3⟩:=YT (Qj h0);rw [qR] at o ho1 ho2 gL gE p1 p2 p3;simp only at ho1 ho2 gL gE p1 p2 p3 hb;have hLg:∀y∈L,jH qa y=0:=fun y hy=>zy h0 (by rw [qN];exact List.mem_append_left _ hy)
  have hEg:∀e∈E,jH qa (jE e).2=0:=fun e he=>zy h0 (by rw [qN];exact List.mem_append_right _ (List.mem_map.2 ⟨e,he,rfl⟩))
  have hEI:∀e∈E,IsV f (jE e).2:=fun e he=>by
   obtain⟨k',y,rfl,hy⟩:=hE e he;rw [qF];exact hy
  have eb:∀ps,jQ false d ps=jB ps:=fun ps=>by unfold jQ;rw [if_neg (by decide)]
  rw [jC,qR];simp only
  by_cases k5:k=5
  ·rw [if_pos k5,eb]
   intro hm;rw [List.mem_cons,List.mem_append,List.mem_singleton] at hm
   rcases hm with hm | hm | hm
   ·exact absurd hm (by decide)
   ·obtain⟨p,hp,hc⟩:=jbi (by decide) (by decide) _ hm
    obtain⟨y,hy,rfl⟩:=List.mem_map.1 hp;exact YX hF f (d+1) y (hL y hy) (gL y hy) (hLg y hy) hc
   ·exact absurd hm (by decide)
  ·rw [if_neg k5]
   by_cases k6:k=6
   ·rw [if_pos k6,eb]
    obtain⟨kg,_,_⟩:=QD _ _ p3;intro hm;rw [List.mem_cons,List.mem_append,List.mem_singleton] at hm
    rcases hm with hm | hm | hm
    ·exact absurd hm (by decide)
    ·obtain⟨p,hp,hc⟩:=jbi (by decide) (by decide) _ hm
     obtain⟨e,he,rfl⟩:=List.mem_map.1 hp;obtain⟨_,_,_,_,_,hno,_⟩:=jen (kg (jE e).1 (List.mem_map.2 ⟨e,he,rfl⟩));unfold Js at hc;rw [List.mem_append,List.mem_cons,List.mem_cons] at hc
     rcases hc with hc | hc | hc | hc
     ·exact hno hc
     ·exact absurd hc (by decide)
     ·exact absurd hc (by decide)
     ·exact YX hF f (d+1) _ (hEI e he) (gE e he) (hEg e he) hc
    ·exact absurd hm (by decide)
   ·rw [if_neg k6]
    have wd:∀T:List UInt8,(∀c∈T,isW c=true)->(10:UInt8)∉T:=fun T h hm=>absurd (h 10 hm) (by decide)
    unfold JY;simp only;split
    ·split<;>decide
    ·split
     ·exact wd _ (jfL o.i.1 o.i.2).2.1
     ·split
      ·exact wd _ (jc6 hb p1 (hF b hb)).2.1
      ·split
       ·obtain⟨g1,g2⟩:=utfs.JO p2
        unfold escs.jeg;rw [if_neg (by omega)];exact(escs.Y0 g2).2
       ·decide
theorem jjQ {F:Nat->List UInt8}(hF:∀b,b<18446744073709551616->jW b (F b)){t:V}(h:Fit t):Lib.indexByte (J9 F false 20 t) 10 = -1:=by
 refine escs.index_none _ _ ?_
 unfold J9;rw [if_neg (by decide),List.append_nil];exact YX hF 20 0 t h.i h.g h.z
theorem Xi (F:Nat->List UInt8)(many:Bool){t:V}(h:jH qa t=0):JQ F many t=J9 F many 20 t:=by unfold JQ;rw [if_pos h]
theorem jdg (F:Nat->List UInt8)(many:Bool){t:V}(h:jH qa t≠0):JQ F many t=[]:=by unfold JQ;rw [if_neg h]
theorem jhf (F:Nat->List UInt8)(t:V):Lib.hasSuffix (J9 F true 20 t) [10]=true:=by
 unfold J9;rw [if_pos rfl];unfold Lib.hasSuffix;simp
def jas:V:=mkV (0,0,0,[]) [] []
theorem jks:qa jas=0:=by
 unfold qa jas;rw [qR];have hk:J5 0 0 0 ([]:List UInt8) ([]:List V).length ([]:List V).length:=by unfold J5;simp;decide
 simp only;rw [if_neg (fun h=>h hk),if_neg (by simp),if_neg (by decide)];rfl
theorem ja5:jH qa jas=0:=JI.2 ⟨1999,by
 show(if qa jas=0 then Jn (Ju qa 19) 1999 (parts jas) else .inl (qa jas))=.inr 1999
 rw [if_pos jks];rfl⟩
theorem jhd (F:Nat->List UInt8):JQ F false jas=[110,117,108,108]:=by
 rw [Xi F false ja5];rfl
end valus
end Go.Proofs.YtnbfnjhbmeocfabGreatDoor
