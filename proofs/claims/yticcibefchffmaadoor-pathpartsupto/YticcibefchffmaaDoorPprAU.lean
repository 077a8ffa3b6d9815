/- Of our texts, what this claim reaches. -/
import Derived.Test.YticcibefchffmaaDoorCards
import Derived.Test.YticcibefchffmaaDoorTie
import Derived.Test.YticcibefchffmaaDoorPprAI
import Derived.Test.YticcibefchffmaaDoorPprAT
import Derived.Lib.LaidU8T
import Derived.Lib.LaidTab
import Derived.HandedShaped
import Derived.Shelf.Vars
import Derived.Test.YticcibefchffmaaDoorPprAC
import Derived.Lib.SliceRun
import Derived.WalkKit
set_option linter.unusedVariables false
set_option maxHeartbeats 8000000
set_option maxRecDepth 100000
namespace Go.Proofs.YticcibefchffmaaDoor
namespace frame
open Go.ChangeShapes Go.WideShapes Go.ChangeAt Go.RowKit
open paths
open bigs (jv)
theorem qz {P:Program}{w:World}:∀{l:List (String×DataW Unit)} {ps:List MemPlace},DataW.LaidVars P w l ps->∀n d,(n,d)∈l->∃g t cs fuel p,P.globalNamed n=some g/\(P.globals[g]?).map (·.type)=some t/\w.var? P n=some cs/\DataW.trod (fun _=>()) P w 0 (fun _=>true) false fuel t cs.toList=some (d,p)
 | [],_,_,_,_,hm=>by cases hm
 | (n',d') :: r,ps,h,n,d,hm=>by
  obtain⟨g,t,cs,fuel,p,q,h1,h2,h3,h4,h5,_⟩:=h
  rcases List.mem_cons.1 hm with e | e
  ·cases e
   exact⟨g,t,cs,fuel,p,h1,h2,h3,h4⟩
  ·exact qz h5 n d e
theorem JL {P:Program}{W:World}{l:List (String×DataW Unit)}{name:String}{k:IntKind}{zs:List Int}{g:Nat}{t e:TypeId}{n:Nat}{d:DataW Unit}
  (h:laidMet P l W) (hm:(name,d)∈l) (hd:d=Lib.tabData k zs) (hg:P.globalNamed name=some g) (hty:(P.globals[g]?).map (·.type)=some t) (ht:P.underlying t=some (.array n e)) (he:P.underlying e=some (.int k)) (hce:P.cellsOf e=1) (hct:P.cellsOf t=n):Lib.TabIs P W name k zs:=by
 obtain⟨_,hv,_⟩:=h;obtain⟨g',t',cs,fuel,p,hg',ht',hvar,htr⟩:=qz hv name d hm;obtain rfl:=Option.some.inj (hg.symm.trans hg');obtain rfl:=Option.some.inj (hty.symm.trans ht');rw [hd] at htr;unfold Lib.TabIs;rw [hvar,<-Lib.cells_of_tab ht he hce hct htr]
theorem QC:U8Types Tryd.prog Tryd.lays197_ren:={ Tryd.lays197 with }
theorem Qt:U8Extra Tryd.prog Tryd.lays197_ren:=⟨by kernel_rfl,by kernel_rfl,by kernel_rfl,by kernel_rfl,by kernel_rfl,by kernel_rfl,by kernel_rfl⟩
theorem Jp:Rows.laid_unicode_utf8_acceptRanges=Lib.acceptData:=by kernel_rfl
theorem QX {W:World}(h:laidMetH Tryd.prog Rows.pathBackUptoRow.laid W):PTabs W:=by
 rw [MakeChecks.laidMetH_plain _ _ _ (by kernel_rfl)] at h;have e1:(Rows.laid_internal_strconv_uint64pow10:DataW Unit)=Lib.tabData .u64 Lib.pow10Tab:=by kernel_rfl
 have e2:(Rows.laid_math_bits_deBruijn64tab:DataW Unit)=Lib.tabData .u8 jv:=by kernel_rfl
 have hu:=utf8Tabs_of_readsT QC Qt (Pinned.utf8First_eq ▸ Lib.laidMet.reads h (.tail _ (.tail _ (.tail _ (.tail _ (.head _)))))) (Jp ▸ Lib.laidMet.reads h (.tail _ (.tail _ (.tail _ (.head _)))));have h64:=JL h (.tail _ (.head _)) e2 (g:=5) (by kernel_rfl) (t:=175) (by kernel_rfl) (n:=64) (e:=5) (by kernel_rfl) (by kernel_rfl) (by kernel_rfl) (by kernel_rfl);have hpw:=JL h (.tail _ (.tail _ (.head _))) e1 (g:=0) (by kernel_rfl) (t:=159) (by kernel_rfl) (n:=20) (e:=34) (by kernel_rfl) (by kernel_rfl) (by kernel_rfl) (by kernel_rfl);exact⟨⟨hu,h64⟩,⟨hpw,h64⟩⟩
theorem qA:∃fS,Tryd.prog.underlying 50=some (.struct fS)/\(∃f,fS[0]?=some f/\f.offset=0/\f.type=9)/\(∃f,fS[1]?=some f/\f.offset=1/\f.type=3) :=
 ⟨_,Tryd.underlying50,⟨_,rfl,rfl,rfl⟩,⟨_,rfl,rfl,rfl⟩⟩
theorem qn:Tryd.prog.cellsOf 50=2:=by kernel_rfl
theorem Jq:Tryd.prog.cellsOf 9=1:=by kernel_rfl
theorem JB:Tryd.prog.cellsOf 3=1:=by kernel_rfl
/-- A path that came in. -/
theorem zJ {H:Type}{enc:TypeId×Value->H}{W:World}{a:Option Addr}{n c:Nat}{d:DataW H}{p:List MemPlace}
  (h:DataW.Trod enc Tryd.prog W 0 (fun _=>true) true 22 (.slice a n c) d p) :
  ∃P:List St,n=P.length/\P.length<=c/\c<=maxLen/\LiesP W a P/\(a=none->c=0):=by
 obtain⟨fuel,hf⟩:=h
 have hnil:a=none->c=0:=by
  intro ha;have hf':DataW.trod enc Tryd.prog W 0 (fun _=>true) true fuel 22 [.slice a n c]=some (d,p):=hf
  rcases DataW.trod_slice Tryd.underlying22 hf' with ⟨e,_⟩ | ⟨a',len,cap,elems,rest,m,_,e,_⟩
  ·injection e with e
   injection e with _ _ e
  ·injection e with e
   injection e with e;rw [ha] at e;cases e
 obtain⟨fS,hS,s0,s1⟩:=qA;obtain⟨p5,l5,a5,n5,es5,e5,b5,m5,k5,q5,el5,sm5,r5⟩:=valus.Qw (bk:=Rows.uptoBulk) j5 (d:=2) (by omega) Tryd.underlying22 qn hf;have he':[Value.slice a n c]=[Value.slice p5 l5 a5]:=e5;simp only [List.cons.injEq,Value.slice.injEq,and_true] at he';obtain⟨rfl,rfl,rfl⟩:=he'
 by_cases hz:n=0
 ·subst hz
  exact⟨[],rfl,b5,m5,fun h=>absurd rfl h,hnil⟩
 ·obtain⟨B,o,hp,hok,hlt,hr⟩:=r5 hz
  obtain⟨P,hP,hq⟩:=valus.J8 (Q:=fun j (x:St)=>∃key:ByteArray,key.data.toList=x.1/\key.size<=9223372036854775807/\(-9223372036854775808<=x.2/\x.2<=9223372036854775807)/\W.cell? ⟨B,o+j*2,none⟩=some (.string key)/\W.cell? ⟨B,o+j*2+1,none⟩=some (.int .i64 x.2)) n (fun j hj=>by
   obtain⟨us,u1,u2,y,u7,u3⟩:=hr j hj;obtain⟨ys,n',hn',hy',_,hys,hg⟩:=DataW.trod_struct hS u3;obtain⟨y0,_,g0⟩:=valus.jF hys hg s0;obtain⟨y1,_,g1⟩:=valus.jF hys hg s1;rw [Jq] at g0;rw [JB] at g1
   match us,u1 with
   | [d0,d1],u1=>
    obtain⟨key,ek,_,wk⟩:=DataW.trod_string Tryd.underlying9 g0;obtain⟨z,ez,_,wz⟩:=DataW.trod_int Tryd.underlying3 g1;simp only [List.drop,List.take] at ek ez;injection ek with ek;injection ez with ez;subst ek ez;have bz:=bounds_i64 wz;have c0:=u2 0 (by omega);have c1:=u2 1 (by omega);refine⟨(key.data.toList,z),key,rfl,by unfold maxLen at wk;omega,bz,?_,?_⟩
    ·rw [Nat.add_zero] at c0;exact c0
    ·exact c1)
  subst hP;exact⟨P,rfl,b5,m5,fun _=>⟨B,o,hp,hlt,fun j x hx=>hq j x hx⟩,hnil⟩
theorem Jg {H:Type}:∀l:List (DataW H),(∀d∈l,1<=Rows.uptoBulk d)->l.length<=valus.jB Rows.uptoBulk l
 | [],_=>Nat.le_refl _
 | d :: r,h=>by
  have h1:=h d List.mem_cons_self;have h2:=Jg r (fun x hx=>h x (List.mem_cons_of_mem _ hx))
  show r.length+1<=Rows.uptoBulk d+valus.jB Rows.uptoBulk r
  omega
theorem qQ {H:Type}{enc:TypeId×Value->H}{W:World}{a:Option Addr}{n c:Nat}{d:DataW H}{p:List MemPlace}
  (h:DataW.Trod enc Tryd.prog W 0 (fun _=>true) true 22 (.slice a n c) d p):n<=Rows.uptoBulk d:=by
 obtain⟨fuel,hf⟩:=h;obtain⟨fS,hS,s0,s1⟩:=qA;obtain⟨p5,l5,a5,n5,es5,e5,b5,m5,k5,q5,el5,sm5,r5⟩:=valus.Qw (bk:=Rows.uptoBulk) j5 (d:=2) (by omega) Tryd.underlying22 qn hf;have he':[Value.slice a n c]=[Value.slice p5 l5 a5]:=e5;simp only [List.cons.injEq,Value.slice.injEq,and_true] at he';obtain⟨rfl,rfl,rfl⟩:=he'
 have hge:(es5.map (·.1)).length<=valus.jB Rows.uptoBulk (es5.map (·.1)):=Jg _ (fun x hx=>by
  obtain⟨y,hy,rfl⟩:=List.mem_map.1 hx;obtain⟨j,hj,rfl⟩:=List.getElem_of_mem hy;obtain⟨B,o,hp,hok,hlt,hr⟩:=r5 (by omega);obtain⟨us,u1,u2,y,u7,u3⟩:=hr j (by omega);rw [List.getElem?_eq_getElem hj] at u7;injection u7 with u7;obtain⟨ys,n',hn',hy',_,_,_⟩:=DataW.trod_struct hS u3;rw [u7,hy'];have:=zI (ys.map (·.1))
  show 1<=Rows.uptoBulk (.agg (ys.map (·.1)))
  omega)
 rw [List.length_map] at hge;have sm:valus.jB Rows.uptoBulk (es5.map (·.1))<=Rows.uptoBulk d:=sm5;omega
end frame
namespace paths
open Go.RowKit
open utfs (ja jb)
open valus (Blk jc)
theorem qO (b o j:Nat):(⟨b,o,none⟩:Addr).add j=⟨b,o+j,none⟩:=by
 unfold Addr.add;split<;>simp_all
theorem jC:∀K:List SK,(K.flatMap stC).length=K.length*2
 | []=>rfl
 | x :: K=>by
  rw [List.flatMap_cons,List.length_append,jC K,List.length_cons]
  show 2+_=_
  omega
theorem J0 (K:List SK):∀u∈K.flatMap stC,u.oneCell'=true:=fun u hu=>by
 obtain⟨x,_,hu⟩:=List.mem_flatMap.1 hu;simp only [stC,List.mem_cons,List.not_mem_nil,or_false] at hu
 rcases hu with rfl | rfl<;>rfl
abbrev QS (K:List SK):Prop:=∀x∈K,x.1.size<=9223372036854775807/\-9223372036854775808<=x.2/\x.2<=9223372036854775807
theorem LiesP.sk {w:World}{p:Option Addr}{P:List St}(h:LiesP w p P):∃K:List SK,K.map stL=P/\QS K/\(P.length≠0->∃b o,p=some ⟨b,o,none⟩/\b<w.heap.size/\∀j u,(K.flatMap stC)[j]?=some u->w.cell? ⟨b,o+j,none⟩=some u):=by
 by_cases hz:P.length=0
 ·have:P=[]:=List.eq_nil_of_length_eq_zero hz
  subst this;exact⟨[],rfl,fun x hx=>absurd hx (List.not_mem_nil),fun h=>absurd rfl h⟩
 ·obtain⟨B,o,e,hB,hc⟩:=h hz
  obtain⟨K,hK,hq⟩:=valus.J8 (Q:=fun j (x:SK)=>P[j]?=some (stL x)/\(x.1.size<=9223372036854775807/\-9223372036854775808<=x.2/\x.2<=9223372036854775807)/\w.cell? ⟨B,o+j*2,none⟩=some (.string x.1)/\w.cell? ⟨B,o+j*2+1,none⟩=some (.int .i64 x.2)) P.length (fun j hj=>by
   obtain⟨key,k1,k2,k3,k4,k5⟩:=hc j _ (List.getElem?_eq_getElem hj);exact⟨(key,(P[j]).2),by rw [List.getElem?_eq_getElem hj];show _=some (key.data.toList,(P[j]).2);rw [k1],⟨k2,k3⟩,k4,k5⟩)
  refine⟨K,?_,fun x hx=>?_,fun _=>⟨B,o,e,hB,fun j u hu=>?_⟩⟩
  ·apply List.ext_getElem?
   intro j;rw [List.getElem?_map]
   by_cases hj:j<K.length
   ·rw [List.getElem?_eq_getElem hj]
    exact(hq j K[j] (List.getElem?_eq_getElem hj)).1.symm
   ·rw [List.getElem?_eq_none (by omega),List.getElem?_eq_none (by omega)]
    rfl
  ·obtain⟨j,hj,rfl⟩:=List.getElem_of_mem hx
   exact(hq j K[j] (List.getElem?_eq_getElem hj)).2.1
  ·have hj:j<K.length*2:=by
    rw [<-jC];exact(List.getElem?_eq_some_iff.1 hu).1
   have hd:j / 2<K.length:=by omega
   obtain⟨_,_,c0,c1⟩:=hq (j / 2) K[j / 2] (List.getElem?_eq_getElem hd);obtain⟨g0,g1⟩:=zW K (j / 2) hd
   by_cases h2:j % 2=0
   ·have e2:j=j / 2*2:=by omega
    rw [e2,g0] at hu;rw [e2,c0,hu]
   ·have e2:j=j / 2*2+1:=by omega
    rw [e2,g1] at hu;rw [e2,<-Nat.add_assoc,c1,hu]
theorem zV (w:World)(p:Option Addr)(c:Nat)(P:List St)(K:List SK)(hK:K.map stL=P)(hl:P.length<=20000)(hrow:P.length≠0->∃b o,p=some ⟨b,o,none⟩/\b<w.heap.size/\∀j u,(K.flatMap stC)[j]?=some u->w.cell? ⟨b,o+j,none⟩=some u) :
  Calls Tryd.prog 24 #[.slice p P.length c] w fun e w'=>∃v,e=.returned v/\w'.ownsRow w.heap.size 50 2 v K.length (K.flatMap stC)/\Below w.heap.size w w':=by
 obtain⟨i0,hinf,hz0,hz1,hz2⟩:=info_parts zm;have q22:∀(w:World) (a:Option Addr) (n c n' c':Nat),(binOp .eql 22 (.slice a n c) (.slice none n' c')).run Tryd.prog w=.ok (.bool a.isNone) w:=fun w a n c n' c'=>Lib.run_eql_slice_nil w _ _ a n c n' c' Tryd.underlying22
 have hKl:K.length=P.length:=by rw [<-hK,List.length_map]
 by_cases hle:P.length=0
 ·have hK0:K=[]:=List.eq_nil_of_length_eq_zero (by omega)
  have hP0:P=[]:=List.eq_nil_of_length_eq_zero hle;subst hK0 hP0;clear hrow hK;cases p with
  | none=>
   go_enter Tryd.func24,Tryd.ntmps24
   go_wp2;go_ret;exact⟨_,rfl,World.ownsRow_nil _ _ _ _,Below.refl _ _⟩
  | some ad=>
   have ho:=World.ownsRow_lit (base:=w.heap.size) (e:=50) (size:=2) w #[] 0 (Nat.le_refl _) (by decide) rfl;have HO:=ja ho;have HB:=ja ((Below.refl _ w).alloc (Nat.le_refl _) (.cells #[] 50));clear ho
   go_enter Tryd.func24,Tryd.ntmps24
   go_wp2_with (at_builtin;refine wpList_append_fits _ rfl _ _ 22 rfl w.heap.size 50 i0 2 Tryd.underlying22 hinf hz1 _ 0 0 [] rfl (jb HO) ad 0 c [] rfl rfl (fun j u hu=>by simp at hu) (fun u hu=>by cases hu) (Nat.le_refl _) ?_)
   intro wx hown2 hg2;have HX:=ja hown2;have BX:=ja ((jb HB).grown hg2 (by simp) (fun k hk=>by injection hk with hk;omega));clear hown2 hg2 HO HB;go_wp2;go_ret;exact⟨_,rfl,jb HX,jb BX⟩
 ·obtain⟨b,o,rfl,hbl,hc⟩:=hrow hle
  have hlp:0<P.length:=by omega
  have ho:=World.ownsRow_lit (base:=w.heap.size) (e:=50) (size:=2) w #[] 0 (Nat.le_refl _) (by decide) rfl;have hfl:=jC K;rw [hKl] at hfl
  have hnews:∀(j:Nat) (u:Value),(K.flatMap stC)[j]?=some u->(w.alloc (.cells #[] 50)).cell? ((⟨b,o,none⟩:Addr).add j)=some u:=fun j u hu=>by
   rw [qO,World.cell?_of_block (w:=w) (w':=w.alloc (.cells #[] 50)) (a:=⟨b,o+j,none⟩) (Below.heap_alloc _ _ _ hbl)];exact hc j u hu
  have HN:=ja hnews;have H1:=ja (J0 K);have HB:=ja ((Below.refl _ w).alloc (Nat.le_refl _) (.cells #[] 50));have HKL:=ja hKl;clear hK hrow hc hnews hKl;generalize K.flatMap stC=xs at *
  go_enter Tryd.func24,Tryd.ntmps24
  go_wp2_with (at_builtin;refine wpList_append_lies _ rfl _ _ 22 rfl w.heap.size 50 i0 (.agg #[.string ⟨#[]⟩,.int .i64 0]) 2 24 Tryd.underlying22 hinf hz0 hz1 hz2 rfl (by decide) _ _ _ rfl ho ⟨b,o,none⟩ P.length c xs rfl hfl (jb HN) (jb H1) hlp (by unfold maxLen;omega) (by omega) (by simp) (w.heap.size+1) (by simp) ?_)
  intro g cap' wx hown2 hg2 hat hlt2;have HO:=ja hown2;have BX:=ja ((jb HB).grown hg2 (by simp) (fun k hk=>by have:=(ho.lt k hk).1;omega));clear hown2 hg2 hat hlt2 HB HN H1;go_wp2;go_ret;refine⟨_,rfl,?_,jb BX⟩;rw [HKL.out];exact jb HO
end paths
end Go.Proofs.YticcibefchffmaaDoor
