/- Of our texts, what this claim reaches. -/
import Derived.Test.YtnbfnjhbmeocfaaGreatDoorCards
import Derived.Test.YtnbfnjhbmeocfaaGreatDoorTie
import Derived.Test.YtnbfnjhbmeocfaaGreatDoorPstAH
import Derived.Test.YtnbfnjhbmeocfaaGreatDoorPstBD
import Derived.Lib.LaidU8T
import Derived.Lib.LaidTab
import Derived.HandedShaped
import Derived.Shelf.Vars
set_option linter.unusedVariables false
namespace Go.Proofs.YtnbfnjhbmeocfaaGreatDoor
namespace frame
open Go.ChangeShapes Go.WideShapes Go.ChangeAt Go.RowKit
open valus
open bigs (zn)
theorem YE {P:Program}{w:World}:∀{l:List (String×DataW Unit)} {ps:List MemPlace},DataW.LaidVars P w l ps->∀n d,(n,d)∈l->∃g t cs fuel p,P.globalNamed n=some g/\(P.globals[g]?).map (·.type)=some t/\w.var? P n=some cs/\DataW.trod (fun _=>()) P w 0 (fun _=>true) false fuel t cs.toList=some (d,p)
 | [],_,_,_,_,hm=>by cases hm
 | (n',d') :: r,ps,h,n,d,hm=>by
  obtain⟨g,t,cs,fuel,p,q,h1,h2,h3,h4,h5,_⟩:=h
  rcases List.mem_cons.1 hm with e | e
  ·cases e
   exact⟨g,t,cs,fuel,p,h1,h2,h3,h4⟩
  ·exact YE h5 n d e
theorem jg6 {P:Program}{W:World}{l:List (String×DataW Unit)}{name:String}{k:IntKind}{zs:List Int}{g:Nat}{t e:TypeId}{n:Nat}{d:DataW Unit}
  (h:laidMet P l W) (hm:(name,d)∈l) (hd:d=Lib.tabData k zs) (hg:P.globalNamed name=some g) (hty:(P.globals[g]?).map (·.type)=some t) (ht:P.underlying t=some (.array n e)) (he:P.underlying e=some (.int k)) (hce:P.cellsOf e=1) (hct:P.cellsOf t=n):Lib.TabIs P W name k zs:=by
 obtain⟨_,hv,_⟩:=h;obtain⟨g',t',cs,fuel,p,hg',ht',hvar,htr⟩:=YE hv name d hm;obtain rfl:=Option.some.inj (hg.symm.trans hg');obtain rfl:=Option.some.inj (hty.symm.trans ht');rw [hd] at htr;unfold Lib.TabIs;rw [hvar,<-Lib.cells_of_tab ht he hce hct htr]
theorem ji5:U8Types Tryz.prog Tryz.lays197_ren:={ Tryz.lays197 with }
theorem jim:U8Extra Tryz.prog Tryz.lays197_ren:=⟨by kernel_rfl,by kernel_rfl,by kernel_rfl,by kernel_rfl,by kernel_rfl,by kernel_rfl,by kernel_rfl⟩
theorem jgy:Rows.laid_unicode_utf8_acceptRanges=Lib.acceptData:=by kernel_rfl
theorem jj6 {W:World}(h:laidMetH Tryz.prog Rows.showTellsRow.laid W):ShowTabs W:=by
 rw [MakeChecks.laidMetH_plain _ _ _ (by kernel_rfl)] at h;have e1:(Rows.laid_internal_strconv_uint64pow10:DataW Unit)=Lib.tabData .u64 Lib.pow10Tab:=by kernel_rfl
 have e2:(Rows.laid_math_bits_deBruijn64tab:DataW Unit)=Lib.tabData .u8 zn:=by kernel_rfl
 refine⟨utf8Tabs_of_readsT ji5 jim (Pinned.utf8First_eq ▸ Lib.laidMet.reads h (.tail _ (.tail _ (.tail _ (.tail _ (.head _)))))) (jgy ▸ Lib.laidMet.reads h (.tail _ (.tail _ (.tail _ (.head _))))),?_,?_⟩
 ·exact jg6 h (.tail _ (.head _)) e2 (g:=5) (by kernel_rfl) (t:=325) (by kernel_rfl) (n:=64) (e:=5) (by kernel_rfl) (by kernel_rfl) (by kernel_rfl) (by kernel_rfl)
 ·exact jg6 h (.tail _ (.tail _ (.head _))) e1 (g:=3) (by kernel_rfl) (t:=320) (by kernel_rfl) (n:=20) (e:=22) (by kernel_rfl) (by kernel_rfl) (by kernel_rfl) (by kernel_rfl)
end frame
end Go.Proofs.YtnbfnjhbmeocfaaGreatDoor
