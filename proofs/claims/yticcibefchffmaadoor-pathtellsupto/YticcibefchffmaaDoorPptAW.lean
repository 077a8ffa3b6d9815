/- Of our texts, what this claim reaches. -/
import Derived.Test.YticcibefchffmaaDoorCards
import Derived.Test.YticcibefchffmaaDoorTie
import Derived.Test.YticcibefchffmaaDoorPptAH
import Derived.Test.YticcibefchffmaaDoorPptAV
import Derived.Lib.LaidU8T
import Derived.Lib.LaidTab
import Derived.HandedShaped
import Derived.Shelf.Vars
set_option linter.unusedVariables false
namespace Go.Proofs.YticcibefchffmaaDoor
namespace frame
open Go.ChangeShapes Go.WideShapes Go.ChangeAt Go.RowKit
open paths
open bigs (jS)
theorem zE {P:Program}{w:World}:∀{l:List (String×DataW Unit)} {ps:List MemPlace},DataW.LaidVars P w l ps->∀n d,(n,d)∈l->∃g t cs fuel p,P.globalNamed n=some g/\(P.globals[g]?).map (·.type)=some t/\w.var? P n=some cs/\DataW.trod (fun _=>()) P w 0 (fun _=>true) false fuel t cs.toList=some (d,p)
 | [],_,_,_,_,hm=>by cases hm
 | (n',d') :: r,ps,h,n,d,hm=>by
  obtain⟨g,t,cs,fuel,p,q,h1,h2,h3,h4,h5,_⟩:=h
  rcases List.mem_cons.1 hm with e | e
  ·cases e
   exact⟨g,t,cs,fuel,p,h1,h2,h3,h4⟩
  ·exact zE h5 n d e
theorem Z9 {P:Program}{W:World}{l:List (String×DataW Unit)}{name:String}{k:IntKind}{zs:List Int}{g:Nat}{t e:TypeId}{n:Nat}{d:DataW Unit}
  (h:laidMet P l W) (hm:(name,d)∈l) (hd:d=Lib.tabData k zs) (hg:P.globalNamed name=some g) (hty:(P.globals[g]?).map (·.type)=some t) (ht:P.underlying t=some (.array n e)) (he:P.underlying e=some (.int k)) (hce:P.cellsOf e=1) (hct:P.cellsOf t=n):Lib.TabIs P W name k zs:=by
 obtain⟨_,hv,_⟩:=h;obtain⟨g',t',cs,fuel,p,hg',ht',hvar,htr⟩:=zE hv name d hm;obtain rfl:=Option.some.inj (hg.symm.trans hg');obtain rfl:=Option.some.inj (hty.symm.trans ht');rw [hd] at htr;unfold Lib.TabIs;rw [hvar,<-Lib.cells_of_tab ht he hce hct htr]
theorem Ys:U8Types Tryd.prog Tryd.lays197_ren:={ Tryd.lays197 with }
theorem Yu:U8Extra Tryd.prog Tryd.lays197_ren:=⟨by kernel_rfl,by kernel_rfl,by kernel_rfl,by kernel_rfl,by kernel_rfl,by kernel_rfl,by kernel_rfl⟩
theorem Zt:Rows.laid_unicode_utf8_acceptRanges=Lib.acceptData:=by kernel_rfl
theorem Y6 {W:World}(h:laidMetH Tryd.prog Rows.pathBackUptoRow.laid W):PTabs W:=by
 rw [MakeChecks.laidMetH_plain _ _ _ (by kernel_rfl)] at h;have e1:(Rows.laid_internal_strconv_uint64pow10:DataW Unit)=Lib.tabData .u64 Lib.pow10Tab:=by kernel_rfl
 have e2:(Rows.laid_math_bits_deBruijn64tab:DataW Unit)=Lib.tabData .u8 jS:=by kernel_rfl
 have hu:=utf8Tabs_of_readsT Ys Yu (Pinned.utf8First_eq ▸ Lib.laidMet.reads h (.tail _ (.tail _ (.tail _ (.tail _ (.head _)))))) (Zt ▸ Lib.laidMet.reads h (.tail _ (.tail _ (.tail _ (.head _)))));have h64:=Z9 h (.tail _ (.head _)) e2 (g:=5) (by kernel_rfl) (t:=175) (by kernel_rfl) (n:=64) (e:=5) (by kernel_rfl) (by kernel_rfl) (by kernel_rfl) (by kernel_rfl);have hpw:=Z9 h (.tail _ (.tail _ (.head _))) e1 (g:=0) (by kernel_rfl) (t:=159) (by kernel_rfl) (n:=20) (e:=34) (by kernel_rfl) (by kernel_rfl) (by kernel_rfl) (by kernel_rfl);exact⟨⟨hu,h64⟩,⟨hpw,h64⟩⟩
theorem jaj {W:World}(h:W.ShapedOpen Tryd.prog):∃m:Int,W.cell? ⟨1,0,none⟩=some (.int .i64 m) :=
 Go.Proofs.cell_of_shapedOpen_int (zero:=#[.int .i64 0]) (t:=3) h (of_decide_eq_true (by kernel_rfl)) (by kernel_rfl) rfl (by kernel_rfl) (by kernel_rfl) Tryd.underlying3
theorem QU:∃fS,Tryd.prog.underlying 50=some (.struct fS)/\(∃f,fS[0]?=some f/\f.offset=0/\f.type=9)/\(∃f,fS[1]?=some f/\f.offset=1/\f.type=3) :=
 ⟨_,Tryd.underlying50,⟨_,rfl,rfl,rfl⟩,⟨_,rfl,rfl,rfl⟩⟩
theorem QL:Tryd.prog.cellsOf 50=2:=by kernel_rfl
theorem ZX:Tryd.prog.cellsOf 9=1:=by kernel_rfl
theorem Zw:Tryd.prog.cellsOf 3=1:=by kernel_rfl
set_option maxRecDepth 100000 in
/-- A path that came in. -/
theorem Z6 {H:Type}{enc:TypeId×Value->H}{W:World}{a:Option Addr}{n c:Nat}{d:DataW H}{p:List MemPlace}
  (h:DataW.Trod enc Tryd.prog W 0 (fun _=>true) true 22 (.slice a n c) d p) :
  ∃P:List St,n=P.length/\P.length<=c/\c<=maxLen/\LiesP W a P:=by
 obtain⟨fuel,hf⟩:=h;obtain⟨fS,hS,s0,s1⟩:=QU;obtain⟨p5,l5,a5,n5,es5,e5,b5,m5,k5,q5,el5,sm5,r5⟩:=valus.jag (bk:=Rows.uptoBulk) QW (d:=2) (by omega) Tryd.underlying22 QL hf;have he':[Value.slice a n c]=[Value.slice p5 l5 a5]:=e5;simp only [List.cons.injEq,Value.slice.injEq,and_true] at he';obtain⟨rfl,rfl,rfl⟩:=he'
 by_cases hz:n=0
 ·subst hz
  exact⟨[],rfl,b5,m5,fun h=>absurd rfl h⟩
 ·obtain⟨B,o,hp,hok,hlt,hr⟩:=r5 hz
  obtain⟨P,hP,hq⟩:=valus.jab (Q:=fun j (x:St)=>∃key:ByteArray,key.data.toList=x.1/\key.size<=9223372036854775807/\(-9223372036854775808<=x.2/\x.2<=9223372036854775807)/\W.cell? ⟨B,o+j*2,none⟩=some (.string key)/\W.cell? ⟨B,o+j*2+1,none⟩=some (.int .i64 x.2)) n (fun j hj=>by
   obtain⟨us,u1,u2,y,u7,u3⟩:=hr j hj;obtain⟨ys,n',hn',hy',_,hys,hg⟩:=DataW.trod_struct hS u3;obtain⟨y0,_,g0⟩:=valus.Xb hys hg s0;obtain⟨y1,_,g1⟩:=valus.Xb hys hg s1;rw [ZX] at g0;rw [Zw] at g1
   match us,u1 with
   | [d0,d1],u1=>
    obtain⟨key,ek,_,wk⟩:=DataW.trod_string Tryd.underlying9 g0;obtain⟨z,ez,_,wz⟩:=DataW.trod_int Tryd.underlying3 g1;simp only [List.drop,List.take] at ek ez;injection ek with ek;injection ez with ez;subst ek ez;have bz:=bounds_i64 wz;have c0:=u2 0 (by omega);have c1:=u2 1 (by omega);refine⟨(key.data.toList,z),key,rfl,by unfold maxLen at wk;omega,bz,?_,?_⟩
    ·rw [Nat.add_zero] at c0;exact c0
    ·exact c1)
  subst hP;exact⟨P,rfl,b5,m5,fun _=>⟨B,o,hp,hlt,fun j x hx=>hq j x hx⟩⟩
end frame
end Go.Proofs.YticcibefchffmaaDoor
