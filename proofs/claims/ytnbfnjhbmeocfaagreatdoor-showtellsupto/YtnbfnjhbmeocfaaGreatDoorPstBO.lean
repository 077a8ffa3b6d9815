/- Of our texts, what this claim reaches. -/
import Derived.Test.YtnbfnjhbmeocfaaGreatDoorPstAA
import Derived.Test.YtnbfnjhbmeocfaaGreatDoorPstBJ
set_option linter.unusedVariables false
namespace Go.Proofs.YtnbfnjhbmeocfaaGreatDoor
namespace trees
open toks
structure At (L:List UInt8) (l:List Tk) (i:Nat) (ts:List Sym):Prop where
 le:i<=l.length
 eq:ts=Q2 L i (l.drop i)
 sol:∀h:i<l.length,3<l[i].kind
theorem jiU {l:List Tk}{i:Nat}(h:i<l.length):l.drop i=l[i] :: l.drop (i+1):=List.drop_eq_getElem_cons h
theorem jeX (L:List UInt8)(l:List Tk):∀(d n:Nat),(∀k (h:k<l.length),n<=k->k<n+d->¬3<l[k].kind)->n+d<=l.length->Q2 L n (l.drop n)=Q2 L (n+d) (l.drop (n+d))
 | 0,n,_,_=>rfl
 | d+1,n,h,hl=>by
  have hn:n<l.length:=by omega
  rw [jiU hn,jgU (h n hn (Nat.le_refl _) (by omega)),jeX L l d (n+1) (fun k hk h1 h2=>h k hk (by omega) (by omega)) (by omega),show n+1+d=n+(d+1) by omega]
structure Nxt (l:List Tk) (n j:Nat):Prop where
 le:n<=j
 lt:j<=l.length
 no:∀k (h:k<l.length),n<=k->k<j->¬3<l[k].kind
 sol:∀h:j<l.length,3<l[j].kind
theorem Nxt.at {L:List UInt8}{l:List Tk}{n j:Nat}(h:Nxt l n j):At L l j (Q2 L n (l.drop n)):=by
 have:=h.le;have:=h.lt;refine⟨h.lt,?_,h.sol⟩;rw [jeX L l (j - n) n (fun k hk h1 h2=>h.no k hk h1 (by omega)) (by omega),show n+(j - n)=j by omega]
structure Good (s:ByteArray) (l:List Tk):Prop where
 kind:∀(j:Nat) (h:j<l.length),1<=l[j].kind/\l[j].kind<=7
 fro:∀(j:Nat) (h:j<l.length),l[j].fro<s.size
 mark:∀(j:Nat) (h:j<l.length),l[j].kind=6->isM (s.data.toList.getD l[j].fro 0)=true
 len:l.length<=20000
 size:s.size<=20000
end trees
end Go.Proofs.YtnbfnjhbmeocfaaGreatDoor
