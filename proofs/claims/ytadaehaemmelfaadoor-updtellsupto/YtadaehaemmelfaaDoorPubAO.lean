/- Of our texts, what this claim reaches. -/
import Derived.Test.YtadaehaemmelfaaDoorPubAE
import Derived.WalkLawsBesides
set_option linter.unusedVariables false
set_option maxHeartbeats 4000000
set_option maxRecDepth 100000
namespace Go.Proofs.YtadaehaemmelfaaDoor
namespace valus
open Go.RowKit
abbrev JO (ok:Nat->Prop) (f:Nat) (w:World) (p:Option Addr) (E:List V):Prop:=RowIn ok w p 7 E.length (fun j us=>∃(key:ByteArray) (y:V) (xs:List Value),E[j]?=some (ent key.data.toList y)/\us=.string key :: xs/\key.size<=maxLen/\LiesV ok f w xs y)
def idx (g:List UInt8->Bool):Nat->List V->Int
 | _,[]=>-1
 | n,e :: l=>if g (jE e).1=true then (n:Int) else idx g (n+1) l
theorem Yr {g:List UInt8->Bool}{E:List V}{j:Nat}{k:List UInt8}{y:V}(h:E[j]?=some (ent k y)):idx g j (E.drop j)=if g k=true then (j:Int) else idx g (j+1) (E.drop (j+1)):=by
 obtain⟨hj,e⟩:=List.getElem?_eq_some_iff.1 h
 rw [List.drop_eq_getElem_cons hj,e]
 show(if g (jE (ent k y)).1=true then (j:Int) else _)=_
 rw [jv]
theorem ZM {g:List UInt8->Bool}{E:List V}{j:Nat}(h:E.length<=j):idx g j (E.drop j) = -1:=by
 rw [List.drop_eq_nil_of_le h];rfl
theorem Xq (ok:Nat->Prop)(f:Nat)(w:World)(E:List V)(pE:Option Addr)(cE:Nat)(kk:ByteArray)(hE:JO ok f w pE E)(h1:E.length<=cE)(h2:cE<=maxLen) :
  Calls Tryd.prog 51 #[.slice pE E.length cE,.string kk] w fun e w'=>e=.returned (.int .i64 (idx (fun x=>decide (x=kk.data.toList)) 0 E))/\Below w.heap.size w w':=by
 have h3:E.length<=9223372036854775807:=by unfold maxLen at h2;omega
 go_enter Tryd.func51,Tryd.ntmps51
 go_wp2
 go_loopw [9] (fun i wr=>∃j:Nat,i=.int .i64 j/\j<=E.length/\Hid (idx (fun x=>decide (x=kk.data.toList)) j (E.drop j)=idx (fun x=>decide (x=kk.data.toList)) 0 E)/\Below w.heap.size w wr) (fun i _=>E.length - (intOf i).toNat)
 case atStart=>exact⟨0,rfl,Nat.zero_le _,rfl,Below.refl _ _⟩
 case round=>
  obtain⟨j,rfl,hj,hacc,hbw⟩:=hrel
  by_cases hlt:j<E.length
  ·obtain⟨B,o,rfl,_,hBl,x0,x1,x2,x3,x4,x5,x6,⟨key,y,xs,hy,hus,hks,hly⟩,k0,k1,k2,k3,k4,k5,k6⟩:=hE.seven hlt
   cases hus
   obtain⟨vk,vn,vb,vs,vpL,vnL,vcL,vpE,vnE,vcE,rfl,rfl,rfl,rfl,rfl,rfl⟩:=hly.form;have q0:=(hbw.cell (p:=⟨B,o+j*7,none⟩) hBl).trans k0;have q1:=(hbw.cell (p:=⟨B,o+j*7+1,none⟩) hBl).trans k1;have q2:=(hbw.cell (p:=⟨B,o+j*7+2,none⟩) hBl).trans k2;have q3:=(hbw.cell (p:=⟨B,o+j*7+3,none⟩) hBl).trans k3;have q4:=(hbw.cell (p:=⟨B,o+j*7+4,none⟩) hBl).trans k4;have q5:=(hbw.cell (p:=⟨B,o+j*7+5,none⟩) hBl).trans k5;have q6:=(hbw.cell (p:=⟨B,o+j*7+6,none⟩) hBl).trans k6;have hstep:=Yr (g:=fun x=>decide (x=kk.data.toList)) hy;rw [hacc.out] at hstep;clear k0 k1 k2 k3 k4 k5 k6 hacc;have hbA:Below w.heap.size w (wr.alloc (.cells #[.string key,.int .i64 vk,.int .i64 vn,.int .u64 (vb:Int),.string vs,.slice vpL vnL vcL,.slice vpE vnE vcE] 57)):=hbw.alloc (by have:=hbw.size;omega) _
   by_cases hk:key.data.toList=kk.data.toList
   ·have hs2:(key.toList == kk.toList)=true:=by rw [ByteArray.toList_eq,ByteArray.toList_eq];exact beq_iff_eq.2 hk
    rw [if_pos (decide_eq_true hk)] at hstep;have HS:=ja hstep;clear hstep hk;go_wp2;go_ret;exact⟨by rw [HS.out];rfl,hbA⟩
   ·have hs2:(key.toList == kk.toList)=false:=by rw [ByteArray.toList_eq,ByteArray.toList_eq];exact beq_eq_false_iff_ne.2 hk
    rw [if_neg (by simpa using hk)] at hstep;have HS:=ja hstep.symm;clear hstep hk;go_wp2;refine⟨⟨j+1,?_,by omega,HS,hbA⟩,?_⟩
    ·congr 1
    ·simp only [intOf]
     omega
  ·have HS:=ja (hacc.out.symm.trans (ZM (by omega)))
   have g0:¬(j:Int)<(E.length:Int):=by omega
   clear hacc;go_wp2;go_ret;exact⟨by rw [HS.out];rfl,hbw⟩
theorem jbi (w:World)(K:Nat)(kk key:ByteArray)(k n:Int)(b:Nat)(s:ByteArray)(pL:Option Addr)(nL cL:Nat)(pE:Option Addr)(nE cE:Nat)(hK:w.cell? ⟨K,0,none⟩=some (.string kk)) :
  Calls Tryd.prog 85 #[.agg #[.string key,.int .i64 k,.int .i64 n,.int .u64 (b:Int),.string s,.slice pL nL cL,.slice pE nE cE],.pointer (some ⟨K,0,none⟩)] w fun e w'=>e=.returned (.bool (key.toList == kk.toList))/\Below w.heap.size w w':=by
 have hlt:=World.block_lt_of_cell? w _ hK
 have hK2:(w.alloc (.cells #[.string key,.int .i64 k,.int .i64 n,.int .u64 (b:Int),.string s,.slice pL nL cL,.slice pE nE cE] 57)).cell? ⟨K,0,none⟩=some (.string kk):=(World.cell?_alloc_lt _ _ _ hlt).trans hK
 go_enter Tryd.func85,Tryd.ntmps85
 go_wp2;go_ret;exact⟨rfl,(Below.refl _ w).alloc (Nat.le_refl _) _⟩
theorem find_index (ok:Nat->Prop)(f:Nat)(w:World)(E:List V)(pE:Option Addr)(cE K:Nat)(kk:ByteArray)(hE:JO ok f w pE E)(h1:E.length<=cE)(h2:cE<=maxLen)(hK:w.cell? ⟨K,0,none⟩=some (.string kk)) :
  Calls Tryd.prog 84 #[.slice pE E.length cE,.func (.func 85) #[] #[.pointer (some ⟨K,0,none⟩)]] w fun e w'=>e=.returned (.int .i64 (idx (fun x=>decide (x=kk.data.toList)) 0 E))/\Below w.heap.size w w':=by
 have h3:E.length<=9223372036854775807:=by unfold maxLen at h2;omega
 have hKl:=World.block_lt_of_cell? w _ hK
 go_enter Tryd.func84,Tryd.ntmps84
 go_wp2
 go_loopw [8] (fun i wr=>∃j:Nat,i=.int .i64 j/\j<=E.length/\Hid (idx (fun x=>decide (x=kk.data.toList)) j (E.drop j)=idx (fun x=>decide (x=kk.data.toList)) 0 E)/\Below w.heap.size w wr) (fun i _=>E.length - (intOf i).toNat)
 case atStart=>exact⟨0,rfl,Nat.zero_le _,rfl,Below.refl _ _⟩
 case round=>
  obtain⟨j,rfl,hj,hacc,hbw⟩:=hrel
  by_cases hlt:j<E.length
  ·obtain⟨B,o,rfl,_,hBl,x0,x1,x2,x3,x4,x5,x6,⟨key,y,xs,hy,hus,hks,hly⟩,k0,k1,k2,k3,k4,k5,k6⟩:=hE.seven hlt
   cases hus
   obtain⟨vk,vn,vb,vs,vpL,vnL,vcL,vpE,vnE,vcE,rfl,rfl,rfl,rfl,rfl,rfl⟩:=hly.form;have q0:=(hbw.cell (p:=⟨B,o+j*7,none⟩) hBl).trans k0;have q1:=(hbw.cell (p:=⟨B,o+j*7+1,none⟩) hBl).trans k1;have q2:=(hbw.cell (p:=⟨B,o+j*7+2,none⟩) hBl).trans k2;have q3:=(hbw.cell (p:=⟨B,o+j*7+3,none⟩) hBl).trans k3;have q4:=(hbw.cell (p:=⟨B,o+j*7+4,none⟩) hBl).trans k4;have q5:=(hbw.cell (p:=⟨B,o+j*7+5,none⟩) hBl).trans k5;have q6:=(hbw.cell (p:=⟨B,o+j*7+6,none⟩) hBl).trans k6;have hstep:=Yr (g:=fun x=>decide (x=kk.data.toList)) hy;rw [hacc.out] at hstep;clear k0 k1 k2 k3 k4 k5 k6 hacc;have C:=jbi wr K kk key vk vn vb vs vpL vnL vcL vpE vnE vcE ((hbw.cell (p:=⟨K,0,none⟩) hKl).trans hK)
   have ht:(key.toList == kk.toList)=(fun x=>decide (x=kk.data.toList)) key.data.toList:=by
    show(key.toList == kk.toList)=decide (key.data.toList=kk.data.toList)
    rw [ByteArray.toList_eq,ByteArray.toList_eq]
    by_cases h:key.data.toList=kk.data.toList
    ·rw [decide_eq_true h];exact beq_iff_eq.2 h
    ·rw [decide_eq_false h];exact beq_eq_false_iff_ne.2 h
   rw [ht] at C;cases hg:(fun x=>decide (x=kk.data.toList)) key.data.toList with
   | true=>
    rw [hg] at C;rw [if_pos hg] at hstep;have HC:=ja C;have HS:=ja hstep;clear hstep hg C ht
    go_wp2_with (go_at_call 85;refine(jc HC).mono ?_;rintro e w1 ⟨rfl,hb1⟩)
    go_ret;exact⟨by rw [HS.out];rfl,hbw.trans (hb1.mono hbw.size)⟩
   | false=>
    rw [hg] at C;rw [if_neg (fun h=>Bool.noConfusion (hg.symm.trans h))] at hstep;have HC:=ja C;have HS:=ja hstep.symm;clear hstep hg C ht
    go_wp2_with (go_at_call 85;refine(jc HC).mono ?_;rintro e w1 ⟨rfl,hb1⟩)
    refine⟨⟨j+1,?_,by omega,HS,hbw.trans (hb1.mono hbw.size)⟩,?_⟩
    ·congr 1
    ·simp only [intOf]
     omega
  ·have HS:=ja (hacc.out.symm.trans (ZM (by omega)))
   have g0:¬(j:Int)<(E.length:Int):=by omega
   clear hacc;go_wp2;go_ret;exact⟨by rw [HS.out];rfl,hbw⟩
theorem ja0 (w:World)(K:Nat)(kk key:ByteArray)(k n:Int)(b:Nat)(s:ByteArray)(pL:Option Addr)(nL cL:Nat)(pE:Option Addr)(nE cE:Nat)(hK:w.cell? ⟨K,0,none⟩=some (.string kk)) :
  Calls Tryd.prog 111 #[.agg #[.string key,.int .i64 k,.int .i64 n,.int .u64 (b:Int),.string s,.slice pL nL cL,.slice pE nE cE],.pointer (some ⟨K,0,none⟩)] w fun e w'=>e=.returned (.bool (!Op.bytesLess key.toList kk.toList && !(key.toList == kk.toList)))/\Below w.heap.size w w':=by
 have hlt:=World.block_lt_of_cell? w _ hK
 have hK2:(w.alloc (.cells #[.string key,.int .i64 k,.int .i64 n,.int .u64 (b:Int),.string s,.slice pL nL cL,.slice pE nE cE] 57)).cell? ⟨K,0,none⟩=some (.string kk):=(World.cell?_alloc_lt _ _ _ hlt).trans hK
 go_enter Tryd.func111,Tryd.ntmps111
 go_wp2;go_ret;exact⟨rfl,(Below.refl _ w).alloc (Nat.le_refl _) _⟩
theorem Yn (ok:Nat->Prop)(f:Nat)(w:World)(E:List V)(pE:Option Addr)(cE K:Nat)(kk:ByteArray)(hE:JO ok f w pE E)(h1:E.length<=cE)(h2:cE<=maxLen)(hK:w.cell? ⟨K,0,none⟩=some (.string kk)) :
  Calls Tryd.prog 84 #[.slice pE E.length cE,.func (.func 111) #[] #[.pointer (some ⟨K,0,none⟩)]] w fun e w'=>e=.returned (.int .i64 (idx (fun x=>!Op.bytesLess x kk.data.toList && !(x == kk.data.toList)) 0 E))/\Below w.heap.size w w':=by
 have h3:E.length<=9223372036854775807:=by unfold maxLen at h2;omega
 have hKl:=World.block_lt_of_cell? w _ hK
 go_enter Tryd.func84,Tryd.ntmps84
 go_wp2
 go_loopw [8] (fun i wr=>∃j:Nat,i=.int .i64 j/\j<=E.length/\Hid (idx (fun x=>!Op.bytesLess x kk.data.toList && !(x == kk.data.toList)) j (E.drop j)=idx (fun x=>!Op.bytesLess x kk.data.toList && !(x == kk.data.toList)) 0 E)/\Below w.heap.size w wr) (fun i _=>E.length - (intOf i).toNat)
 case atStart=>exact⟨0,rfl,Nat.zero_le _,rfl,Below.refl _ _⟩
 case round=>
  obtain⟨j,rfl,hj,hacc,hbw⟩:=hrel
  by_cases hlt:j<E.length
  ·obtain⟨B,o,rfl,_,hBl,x0,x1,x2,x3,x4,x5,x6,⟨key,y,xs,hy,hus,hks,hly⟩,k0,k1,k2,k3,k4,k5,k6⟩:=hE.seven hlt
   cases hus
   obtain⟨vk,vn,vb,vs,vpL,vnL,vcL,vpE,vnE,vcE,rfl,rfl,rfl,rfl,rfl,rfl⟩:=hly.form;have q0:=(hbw.cell (p:=⟨B,o+j*7,none⟩) hBl).trans k0;have q1:=(hbw.cell (p:=⟨B,o+j*7+1,none⟩) hBl).trans k1;have q2:=(hbw.cell (p:=⟨B,o+j*7+2,none⟩) hBl).trans k2;have q3:=(hbw.cell (p:=⟨B,o+j*7+3,none⟩) hBl).trans k3;have q4:=(hbw.cell (p:=⟨B,o+j*7+4,none⟩) hBl).trans k4;have q5:=(hbw.cell (p:=⟨B,o+j*7+5,none⟩) hBl).trans k5;have q6:=(hbw.cell (p:=⟨B,o+j*7+6,none⟩) hBl).trans k6;have hstep:=Yr (g:=fun x=>!Op.bytesLess x kk.data.toList && !(x == kk.data.toList)) hy;rw [hacc.out] at hstep;clear k0 k1 k2 k3 k4 k5 k6 hacc;have C:=ja0 wr K kk key vk vn vb vs vpL vnL vcL vpE vnE vcE ((hbw.cell (p:=⟨K,0,none⟩) hKl).trans hK)
   have ht:(!Op.bytesLess key.toList kk.toList && !(key.toList == kk.toList))=(fun x=>!Op.bytesLess x kk.data.toList && !(x == kk.data.toList)) key.data.toList:=by rw [ByteArray.toList_eq,ByteArray.toList_eq]
   rw [ht] at C;cases hg:(fun x=>!Op.bytesLess x kk.data.toList && !(x == kk.data.toList)) key.data.toList with
   | true=>
    rw [hg] at C;rw [if_pos hg] at hstep;have HC:=ja C;have HS:=ja hstep;clear hstep hg C ht
    go_wp2_with (go_at_call 111;refine(jc HC).mono ?_;rintro e w1 ⟨rfl,hb1⟩)
    go_ret;exact⟨by rw [HS.out];rfl,hbw.trans (hb1.mono hbw.size)⟩
   | false=>
    rw [hg] at C;rw [if_neg (fun h=>Bool.noConfusion (hg.symm.trans h))] at hstep;have HC:=ja C;have HS:=ja hstep.symm;clear hstep hg C ht
    go_wp2_with (go_at_call 111;refine(jc HC).mono ?_;rintro e w1 ⟨rfl,hb1⟩)
    refine⟨⟨j+1,?_,by omega,HS,hbw.trans (hb1.mono hbw.size)⟩,?_⟩
    ·congr 1
    ·simp only [intOf]
     omega
  ·have HS:=ja (hacc.out.symm.trans (ZM (by omega)))
   have g0:¬(j:Int)<(E.length:Int):=by omega
   clear hacc;go_wp2;go_ret;exact⟨by rw [HS.out];rfl,hbw⟩
theorem zY (ok:Nat->Prop)(f:Nat)(w:World)(E:List V)(pE:Option Addr)(cE:Nat)(kk:ByteArray)(hE:JO ok f w pE E)(h1:E.length<=cE)(h2:cE<=maxLen) :
  Calls Tryd.prog 65 #[.slice pE E.length cE,.string kk] w fun e w'=>e=.returned (.int .i64 (idx (fun x=>decide (x=kk.data.toList)) 0 E))/\Below w.heap.size w w':=by
 have hb:Below w.heap.size w (w.alloc (.cells #[.string kk] 9)):=(Below.refl _ w).alloc (Nat.le_refl _) _;have C:=find_index ok f (w.alloc (.cells #[.string kk] 9)) E pE cE w.heap.size kk (hE.kept (fun _ h=>h) hb.size (fun b _ h=>hb.block b h) (fun j us _ ⟨key,y,xs,a1,a2,a3,a4⟩=>⟨key,y,xs,a1,a2,a3,a4.below hb⟩)) h1 h2 (Blk.cell (jb w #[.string kk] _) 0 _ rfl);have HC:=ja C;clear C hE;generalize idx (fun x=>decide (x=kk.data.toList)) 0 E=r at *
 go_enter Tryd.func65,Tryd.ntmps65
 go_wp2_with (go_at_call 84;refine(jc HC).mono ?_;rintro e w1 ⟨rfl,hb1⟩)
 go_ret;exact⟨rfl,hb.trans (hb1.mono hb.size)⟩
end valus
end Go.Proofs.YtadaehaemmelfaaDoor
