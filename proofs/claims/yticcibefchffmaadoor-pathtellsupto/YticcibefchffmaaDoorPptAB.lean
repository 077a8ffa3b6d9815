/- Of our texts, what this claim reaches. -/
import Derived.Test.YticcibefchffmaaDoorPptAA
import Derived.Below
import Derived.Laws.AppendOwn
import Derived.Laws.OwnMore
set_option linter.unusedVariables false
namespace Go.Proofs.YticcibefchffmaaDoor
namespace valus
open Go.RowKit
def RowIn (ok:Nat->Prop)(w:World)(p:Option Addr)(d n:Nat)(Q:Nat->List Value->Prop):Prop :=
 n≠0->∃B o,p=some ⟨B,o,none⟩/\ok B/\B<w.heap.size/\∀j,j<n->∃us:List Value,us.length=d/\(∀i,i<d->w.cell? ⟨B,o+j*d+i,none⟩=us[i]?)/\Q j us
theorem RowIn.kept {ok ok':Nat->Prop}{w w':World}{p:Option Addr}{d n:Nat}{Q Q':Nat->List Value->Prop}(h:RowIn ok w p d n Q)(ho:∀b,ok b->ok' b)(hs:w.heap.size<=w'.heap.size)(hb:∀b,ok b->b<w.heap.size->w'.heap[b]?=w.heap[b]?)(hq:∀j us,j<n->Q j us->Q' j us):RowIn ok' w' p d n Q':=by
 intro hn;obtain⟨B,o,hp,hok,hlt,hk⟩:=h hn;refine⟨B,o,hp,ho B hok,Nat.lt_of_lt_of_le hlt hs,fun j hj=>?_⟩;obtain⟨us,u1,u2,u3⟩:=hk j hj;refine⟨us,u1,fun i hi=>?_,hq j us hj u3⟩;rw [World.cell?_of_block (w:=w) (w':=w') (a:=⟨B,o+j*d+i,none⟩) (hb B hok hlt)];exact u2 i hi
def LiesV (ok:Nat->Prop):Nat->World->List Value->V->Prop
 | 0,_,_,_=>False
 | f + 1, w, vs, t => ∃ (k n : Int) (b : Nat) (s : ByteArray) (L E : List V) (pL pE : Option Addr) (cL cE : Nat),
   t=mkV (k,n,b,s.data.toList) L E/\vs=[.int .i64 k,.int .i64 n,.int .u64 (b:Int),.string s,.slice pL L.length cL,.slice pE E.length cE]/\
   ((-9223372036854775808<=k/\k<=9223372036854775807)/\(-9223372036854775808<=n/\n<=9223372036854775807)/\b<18446744073709551616/\s.size<=maxLen)/\
   (L.length<=cL/\cL<=maxLen/\E.length<=cE/\cE<=maxLen)/\
   RowIn ok w pL 6 L.length (fun j us=>∃y,L[j]?=some y/\LiesV ok f w us y)/\
   RowIn ok w pE 7 E.length (fun j us=>∃(key:ByteArray) (y:V) (xs:List Value),E[j]?=some (ent key.data.toList y)/\us=.string key :: xs/\key.size<=maxLen/\LiesV ok f w xs y)
theorem LiesV.kept {ok ok':Nat->Prop}{w w':World}(ho:∀b,ok b->ok' b)(hs:w.heap.size<=w'.heap.size)(hb:∀b,ok b->b<w.heap.size->w'.heap[b]?=w.heap[b]?):∀{f:Nat} {vs:List Value} {t:V},LiesV ok f w vs t->LiesV ok' f w' vs t
 | 0,_,_,h=>h.elim
 | f+1,vs,t,h=>by
  obtain⟨k,n,b,s,L,E,pL,pE,cL,cE,h1,h2,h3,h4,h5,h6⟩:=h;refine⟨k,n,b,s,L,E,pL,pE,cL,cE,h1,h2,h3,h4,h5.kept ho hs hb ?_,h6.kept ho hs hb ?_⟩
  ·rintro j us _ ⟨y,a,c⟩
   exact⟨y,a,c.kept ho hs hb⟩
  ·rintro j us _ ⟨key,y,xs,a,c,e,g⟩
   exact⟨key,y,xs,a,c,e,g.kept ho hs hb⟩
theorem LiesV.below {ok:Nat->Prop}{w w':World}{f:Nat}{vs:List Value}{t:V}(h:LiesV ok f w vs t)(hb:Below w.heap.size w w'):LiesV ok f w' vs t :=
 h.kept (fun _ h=>h) hb.size (fun b _ hlt=>hb.block b hlt)
theorem LiesV.isV {ok:Nat->Prop}{w:World}:∀{f:Nat} {vs:List Value} {t:V},LiesV ok f w vs t->IsV f t
 | 0,_,_,h=>h.elim
 | f+1,vs,t,h=>by
  obtain⟨k,n,b,s,L,E,pL,pE,cL,cE,rfl,h2,h3,h4,h5,h6⟩:=h;refine IsV.mk.2 ⟨h3.2.2.1,fun y hy=>?_,fun e he=>?_⟩
  ·obtain⟨j,hj,e⟩:=List.getElem_of_mem hy
   obtain⟨B,o,_,_,_,hk⟩:=h5 (by omega);obtain⟨us,_,_,z,a,c⟩:=hk j hj;rw [List.getElem?_eq_getElem hj,e] at a;injection a with a;rw [a];exact c.isV
  ·obtain⟨j,hj,e'⟩:=List.getElem_of_mem he
   obtain⟨B,o,_,_,_,hk⟩:=h6 (by omega);obtain⟨us,_,_,key,z,xs,a,_,_,c⟩:=hk j hj;rw [List.getElem?_eq_getElem hj,e'] at a;injection a with a;exact⟨key.data.toList,z,a,c.isV⟩
end valus
end Go.Proofs.YticcibefchffmaaDoor
