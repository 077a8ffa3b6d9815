/- Of our texts, what this claim reaches. -/
import Derived.Test.YticcibefchffmaaDoorPptAF
import Derived.Maps.OwnIn
import Derived.Test.YticcibefchffmaaDoorPptAA
import Derived.Test.YticcibefchffmaaDoorPptAC
set_option linter.unusedVariables false
namespace Go.Proofs.YticcibefchffmaaDoor
namespace valus
open Go.RowKit Go.Shelf
attribute [local go_sem] Oper.semAt_some
open Go.RowKit
def At (ok:Nat->Prop)(f:Nat)(W:World)(x:Nd)(t:V):Prop:=ok x.1/\x.1<W.heap.size/\∃us:List Value,(∀i,i<6->W.cell? ⟨x.1,x.2.1+i,none⟩=us[i]?)/\LiesV ok f W us t
theorem At.isV {ok:Nat->Prop}{f:Nat}{W:World}{x:Nd}{t:V}(h:At ok f W x t):IsV f t:=by
 obtain⟨_,_,us,_,h⟩:=h;exact h.isV
open Go.RowKit Go.ChangeShapes Go.WideShapes
def QO {H:Type}(bk:DataW H->Nat):List (DataW H)->Nat
 | []=>0
 | d :: r=>bk d+QO bk r
section
variable {H : Type} {enc : TypeId × Value → H} {P : Program} {w : World} {spare : Nat → Bool} {held : Bool} {bk : DataW H → Nat}
theorem Xb {fs:Array Field}{cs:List Value}{n:Nat}{xs:List (DataW H×List MemPlace)}{i off:Nat}{t:TypeId}(hx:xs.length=fs.size)
  (h:∀(i:Nat) (f:Field),fs[i]?=some f->DataW.trod enc P w 0 spare held n f.type ((cs.drop f.offset).take (P.cellsOf f.type))=xs[i]?) (hf:∃f,fs[i]?=some f/\f.offset=off/\f.type=t) :
  ∃x,xs[i]?=some x/\DataW.trod enc P w 0 spare held n t ((cs.drop off).take (P.cellsOf t))=some x:=by
 obtain⟨f,h1,rfl,rfl⟩:=hf
 have hi:i<xs.length:=by
  rw [hx];exact(Array.getElem?_eq_some_iff.1 h1).1
 exact⟨xs[i],List.getElem?_eq_getElem hi,by rw [h i f h1,List.getElem?_eq_getElem hi]⟩
theorem jag (hs:∀es sp,QO bk es<=bk (.slice es sp)){t e:TypeId}{d fuel:Nat}{cs:List Value}{x:DataW H×List MemPlace}(hd:0<d)(ht:P.underlying t=some (.slice e))(hc:P.cellsOf e=d)(h:DataW.trod enc P w 0 spare held fuel t cs=some x) :
  ∃(p:Option Addr) (len cap n:Nat) (es:List (DataW H×List MemPlace)),cs=[.slice p len cap]/\len<=cap/\cap<=maxLen/\n<=fuel/\(len≠0->n<fuel)/\es.length=len/\QO bk (es.map (·.1))<=bk x.1/\RowIn (fun _=>True) w p d len (fun j us=>∃y,es[j]?=some y/\DataW.trod enc P w 0 spare held n e us=some y):=by
 rcases DataW.trod_slice ht h with ⟨rfl,_⟩ | ⟨a,len,cap,elems,rest,n,rfl,rfl,rfl,hb,hl,hm,hlen,hel,hsp,hns⟩
 ·exact⟨none,0,0,0,[],rfl,Nat.le_refl _,Nat.zero_le _,Nat.zero_le _,fun h=>absurd rfl h,rfl,Nat.zero_le _,fun h=>absurd rfl h⟩
 ·refine⟨some a,len,cap,n,elems,rfl,hl,hm,Nat.le_succ _,fun _=>Nat.lt_succ_self _,hlen,hs _ _,fun h0=>?_⟩
  have each:∀j,j<len->∃us:List Value,us.length=d/\(∀i,i<d->w.cell? ((a.add (j*d)).add i)=us[i]?)/\∃y,elems[j]?=some y/\DataW.trod enc P w 0 spare held n e us=some y:=by
   intro j hj;have h1:=hel j hj;rw [List.getElem?_eq_getElem (by omega),hc,Option.bind_eq_some_iff] at h1;obtain⟨us,g1,g2⟩:=h1;obtain⟨_,g3,g4⟩:=World.cells?_some g1
   exact⟨us,g3,g4,elems[j]'(by omega),List.getElem?_eq_getElem (by omega),g2⟩
  have hz:∃v,w.cell? a=some v:=by
   obtain⟨us,g1,g2,_⟩:=each 0 (by omega);have g3:=g2 0 hd;rw [List.getElem?_eq_getElem (by omega)] at g3;refine⟨us[0],?_⟩;rw [<-g3];simp [Addr.add]
  obtain⟨v,hv⟩:=hz;have hspot:=World.cell?_spot hv
  obtain⟨b,off,spot⟩:=a;have hs:spot=none:=hspot;subst hs;have hlt:b<w.heap.size:=DataW.trod_lt _ _ _ _ h (.cell b off) (List.mem_append_left _ (MemPlace.mem_row.2 ⟨0,by rw [hc];exact Nat.mul_pos (by omega) hd,by simp⟩));refine⟨b,off,rfl,trivial,hlt,fun j hj=>?_⟩;obtain⟨us,g1,g2,g3⟩:=each j hj;refine⟨us,g1,fun i hi=>?_,g3⟩;have g4:=g2 i hi;rw [add_plain,add_plain] at g4;exact g4
variable {tV tE tL tM tI tN tU tS : TypeId} {fV fE : Array Field}
end
end valus
end Go.Proofs.YticcibefchffmaaDoor
