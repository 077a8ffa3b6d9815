/- Of our texts, what this claim reaches. -/
import Derived.Test.YtadaehaemmelfaaDoorPubCA
import Derived.Test.YtadaehaemmelfaaDoorPubBK
import Derived.Test.YtadaehaemmelfaaDoorPubAG
import Derived.Maps.AppendAt
set_option linter.unusedVariables false
set_option maxHeartbeats 8000000
set_option maxRecDepth 100000
namespace Go.Proofs.YtadaehaemmelfaaDoor
namespace valus
open Go.RowKit
def Flat (ok:Nat->Prop)(f:Nat)(w:World):List Value->List (V×Nat)->Prop
 | xs,[]=>xs=[]
 | xs,(y,a) :: l=>∃(x0 x1 x2 x3 x4 x5:Value) (r:List Value),xs=x0 :: x1 :: x2 :: x3 :: x4 :: x5 :: .int .i64 (a:Int) :: r/\LiesV ok f w [x0,x1,x2,x3,x4,x5] y/\Flat ok f w r l
theorem Flat.len {ok:Nat->Prop}{f:Nat}{w:World}:∀{l:List (V×Nat)} {xs:List Value},Flat ok f w xs l->xs.length=l.length*7
 | [],xs,h=>by rw [show xs=[] from h];rfl
 | (y,a) :: l,xs,h=>by
  obtain⟨x0,x1,x2,x3,x4,x5,r,rfl,_,hr⟩:=h;have:=hr.len;simp only [List.length_cons] at *;omega
theorem Flat.append {ok:Nat->Prop}{f:Nat}{w:World}:∀{l:List (V×Nat)} {xs:List Value} {m:List (V×Nat)} {ys:List Value},Flat ok f w xs l->Flat ok f w ys m->Flat ok f w (xs++ys) (l++m)
 | [],xs,m,ys,h,g=>by rw [show xs=[] from h];exact g
 | (y,a) :: l,xs,m,ys,h,g=>by
  obtain⟨x0,x1,x2,x3,x4,x5,r,rfl,hl,hr⟩:=h;exact⟨x0,x1,x2,x3,x4,x5,r++ys,rfl,hl,hr.append g⟩
theorem Flat.one {ok:Nat->Prop}{f:Nat}{w:World}:∀{l:List (V×Nat)} {xs:List Value},Flat ok f w xs l->∀u∈xs,Value.oneCell' u=true
 | [],xs,h=>by rw [show xs=[] from h];simp
 | (y,a) :: l,xs,h=>by
  obtain⟨x0,x1,x2,x3,x4,x5,r,rfl,hl,hr⟩:=h;obtain⟨k,n,b,s,pL,nL,cL,pE,nE,cE,rfl,rfl,rfl,rfl,rfl,rfl⟩:=hl.form;have:=hr.one;intro u hu;simp only [List.mem_cons] at hu
  rcases hu with rfl | rfl | rfl | rfl | rfl | rfl | rfl | hu
  all_goals first | rfl | exact this u hu
def jca (ok:Nat->Prop)(f:Nat)(w:World)(W:World)(tv:Value)(l:List (V×Nat)):Prop :=
 ∃(p:Option Addr) (c:Nat) (xs:List Value),tv=.slice p l.length c/\l.length<=c/\Flat ok f w xs l/\(l≠[]->∃B o,p=some ⟨B,o,none⟩/\w.heap.size<=B/\B<W.heap.size/\∀k u,xs[k]?=some u->W.cell? ⟨B,o+k,none⟩=some u)
def zy (f:Nat)(l:List (V×Nat)):Nat:=jo (jd f) (l.map Prod.fst)
theorem JD {f:Nat}:∀{l:List (V×Nat)},(∀p,p∈l->IsV f p.1)->l.length<=zy f l
 | [],_=>Nat.zero_le _
 | p :: l,h=>by
  have h1:=qY (h p (by simp));have h2:=JD (f:=f) (l:=l) (fun q hq=>h q (by simp [hq]));have e:zy f (p :: l)=jd f p.1+zy f l:=rfl;rw [e,List.length_cons];omega
theorem Flat.isV {ok:Nat->Prop}{f:Nat}{w:World}:∀{l:List (V×Nat)} {xs:List Value},Flat ok f w xs l->∀p,p∈l->IsV f p.1
 | [],xs,h=>by simp
 | (y,a) :: l,xs,h=>by
  obtain⟨x0,x1,x2,x3,x4,x5,r,rfl,hl,hr⟩:=h;intro p hp
  rcases List.mem_cons.1 hp with rfl | hp
  ·exact hl.isV
  ·exact hr.isV p hp
theorem XM {f:Nat}{y:V}{a:Nat}{l:List (V×Nat)}(hy:IsV f y):zy f ((parts y).map (fun z=>(z,a+1))++l)+1=zy f ((y,a) :: l):=by
 have e:zy f ((y,a) :: l)=jd f y+zy f l:=rfl;rw [e,qt hy,zy,List.map_append,jH,List.map_map];have e2:(Prod.fst ∘ fun z:V=>(z,a+1))=id:=rfl;rw [e2,List.map_id];unfold zy;omega
theorem jbG:(Tryd.prog.info? 112).map (fun i=>(i.zero,i.size,i.bytes))=some (some (.agg #[.int .i64 0,.int .i64 0,.int .u64 0,.string ⟨#[]⟩,.slice none 0 0,.slice none 0 0,.int .i64 0]),7,96):=by kernel_rfl
theorem Zp (w:World)(x0 x1 x2 x3 x4 x5 x6:Value)(t:TypeId):∀j u,[x0,x1,x2,x3,x4,x5,x6][j]?=some u->(w.alloc (.cells #[x0,x1,x2,x3,x4,x5,x6] t)).cell? ((⟨w.heap.size,0,none⟩:Addr).add j)=some u :=
 fun j u hu=>World.news_of_block (jb w #[x0,x1,x2,x3,x4,x5,x6] t) j u hu
theorem jbk {ok:Nat->Prop}{f base n:Nat}{w W:World}{v:Value}{xs:List Value}{l:List (V×Nat)}(h:W.ownsRow base 112 7 v n xs)(hf:Flat ok f w xs l)(hb:w.heap.size<=base):jca ok f w W v l:=by
 have hl:=hf.len;have hx:=h.1;have hn:n=l.length:=by omega
 rcases h.2 with ⟨rfl,h0⟩ | ⟨g,cap,cur,rfl,hg,hblk,hc,_,hcs,ht⟩
 ·obtain rfl:l=[]:=List.eq_nil_of_length_eq_zero (by omega)
  exact⟨none,0,xs,rfl,Nat.le_refl _,hf,fun h=>absurd rfl h⟩
 ·refine⟨some ⟨g,0,none⟩,cap,xs,by rw [hn],by omega,hf,fun _=>⟨g,0,rfl,by omega,(Array.getElem?_eq_some_iff.1 hblk).1,fun k u hk=>?_⟩⟩
  have hlt:k<n*7:=by
   have:=(List.getElem?_eq_some_iff.1 hk).1;omega
  rw [<-ht,List.getElem?_take,if_pos hlt,Array.getElem?_toList] at hk;rw [Nat.zero_add];simp only [World.cell?,hblk];exact hk
theorem Y0 {ok:Nat->Prop}{f:Nat}{w:World}{y:V}{k n:Int}{b:Nat}{s:ByteArray}{pL:Option Addr}{nL cL:Nat}{pE:Option Addr}{nE cE:Nat}(h:LiesV ok f w [.int .i64 k,.int .i64 n,.int .u64 (b:Int),.string s,.slice pL nL cL,.slice pE nE cE] y) :
  ∃L E:List V,y=mkV (k,n,b,s.data.toList) L E/\nL=L.length/\nE=E.length/\(L.length<=cL/\cL<=maxLen/\E.length<=cE/\cE<=maxLen)/\RowIn ok w pL 6 L.length (fun j us=>∃z,L[j]?=some z/\LiesV ok f w us z)/\jaC ok f w pE E:=by
 cases f with
 | zero=>exact h.elim
 | succ f=>
  obtain⟨k',n',b',s',L,E,pL',pE',cL',cE',rfl,hv,h3,h4,hL,hE⟩:=h;simp only [List.cons.injEq,Value.int.injEq,Value.string.injEq,Value.slice.injEq,true_and,and_true] at hv;obtain⟨rfl,rfl,hbb,rfl,⟨rfl,rfl,rfl⟩,⟨rfl,rfl,rfl⟩⟩:=hv;obtain rfl:b=b':=by omega
  exact⟨L,E,rfl,rfl,rfl,h4,hL.kept (fun _ h=>h) (Nat.le_refl _) (fun _ _ _=>rfl) (fun j us _ ⟨z,a1,a2⟩=>⟨z,a1,a2.up⟩),hE.kept (fun _ h=>h) (Nat.le_refl _) (fun _ _ _=>rfl) (fun j us _ ⟨key,z,xs,a1,a2,a3,a4⟩=>⟨key,z,xs,a1,a2,a3,a4.up⟩)⟩
theorem Zo {l:List V}{j:Nat}{z:V}(h:l[j]?=some z):l.take (j+1)=l.take j++[z]:=by
 rw [List.take_add_one,h];rfl
theorem jaP {ok:Nat->Prop}{f:Nat}{w:World}{y:V}{x0 x1 x2 x3 x4 x5:Value}(h:LiesV ok f w [x0,x1,x2,x3,x4,x5] y) :
  Calls Tryd.prog 60 #[.agg #[x0,x1,x2,x3,x4,x5]] w fun e w'=>e=.returned (.int .i64 (jr y))/\Below w.heap.size w w':=by
 cases f with
 | zero=>exact h.elim
 | succ f=>
  obtain⟨k,n,b,s,L,E,pL,pE,cL,cE,rfl,hv,h3,h4,hL,hE⟩:=h;cases hv
  exact jbu ok f w k n b s L E pL pE cL cE h3.2.2.1 h3.2.2.2 hE h4.1 h4.2.1 h4.2.2.1 h4.2.2.2
theorem zE (f:Nat)(w:World)(t:V)(a0 a1 a2 a3 a4 a5:Value)(hl:LiesV (fun b=>b<w.heap.size) f w [a0,a1,a2,a3,a4,a5] t)(hn:jd f t<=10000000) :
  Calls Tryd.prog 40 #[.agg #[a0,a1,a2,a3,a4,a5]] w fun e w'=>e=.returned (.int .i64 (jh jr t))/\Below w.heap.size w w':=by
 obtain⟨i0,hi,hz0,hz1,hz2⟩:=info_parts jbG;obtain⟨k,n,b,s,pL,nL,cL,pE,nE,cE,rfl,rfl,rfl,rfl,rfl,rfl⟩:=hl.form
 go_enter Tryd.func40,Tryd.ntmps40
 go_wp2
 go_loopw [3,4] (fun tv mv wr=>∃(l:List (V×Nat)) (many:Nat),mv=.int .i64 (many:Int)/\many<=2000/\(∀p,p∈l->p.2<=20)/\jca (fun b=>b<w.heap.size) f w wr tv l/\zy f l<=jd f t/\Hid (chk jr (2000 - many) l=jh jr t)/\Below w.heap.size w wr) (fun _ mv _=>2001 - (intOf mv).toNat)
 case atStart=>
  refine⟨[(t,0)],0,rfl,by omega,by simp,⟨some ⟨w.heap.size+1,0,none⟩,1,[.int .i64 k,.int .i64 n,.int .u64 (b:Int),.string s,.slice pL nL cL,.slice pE nE cE,.int .i64 0],rfl,Nat.le_refl _,⟨_,_,_,_,_,_,[],rfl,hl,rfl⟩,fun _=>⟨w.heap.size+1,0,rfl,by omega,by simp,fun j u hu=>?_⟩⟩,Nat.le_refl _,rfl,((Below.refl _ w).alloc (Nat.le_refl _) _).alloc (by simp) _⟩;have hb:=jb (w.alloc (.cells #[.int .i64 k,.int .i64 n,.int .u64 (b:Int),.string s,.slice pL nL cL,.slice pE nE cE] 26)) #[.int .i64 k,.int .i64 n,.int .u64 (b:Int),.string s,.slice pL nL cL,.slice pE nE cE,.int .i64 0] 112;rw [World.size_alloc] at hb;rw [Nat.zero_add];exact hb.cell j u (by simpa using hu)
 case round=>
  obtain⟨l,many,rfl,hmany,h20,⟨tp,tc,xs,rfl,htc,hflat,hcells⟩,hnl,hacc,hbw⟩:=hrel;cases l with
  | nil=>
   have hz:jh jr t=0:=by
    rw [<-hacc.out];cases 2000 - many<;>rfl
   have HZ:=ja hz;clear hz hacc;simp only [List.length_nil];go_wp2;go_ret;exact⟨by rw [HZ.out];rfl,hbw⟩
  | cons q l=>
   obtain⟨y,a⟩:=q;obtain⟨x0,x1,x2,x3,x4,x5,r,rfl,hly,hr⟩:=hflat;obtain⟨B,o,rfl,hBge,hBlt,hc⟩:=hcells (by simp);have hLV:=hly;obtain⟨vk,vn,vb,vs,vpL,vnL,vcL,vpE,vnE,vcE,rfl,rfl,rfl,rfl,rfl,rfl⟩:=hly.form;have ha20:a<=20:=h20 (y,a) (by simp);have q0:=hc 0 _ rfl;have q1:=hc 1 _ rfl;have q2:=hc 2 _ rfl;have q3:=hc 3 _ rfl;have q4:=hc 4 _ rfl;have q5:=hc 5 _ rfl;have q6:=hc 6 _ rfl;rw [Nat.add_zero] at q0
   have hrest:Hid (∀j u,r[j]?=some u->wr.cell? ⟨B,o+7+j,none⟩=some u):=fun j u hu=>by
    have:=hc (j+7) u hu;rwa [show o+7+j=o+(j+7) by omega]
   obtain⟨A,hA⟩:∃A,A=wr.alloc (.cells #[.int .i64 vk,.int .i64 vn,.int .u64 (vb:Int),.string vs,.slice vpL vnL vcL,.slice vpE vnE vcE,.int .i64 (a:Int)] 112):=⟨_,rfl⟩
   have hblk:Blk A wr.heap.size #[.int .i64 vk,.int .i64 vn,.int .u64 (vb:Int),.string vs,.slice vpL vnL vcL,.slice vpE vnE vcE,.int .i64 (a:Int)] 112:=by rw [hA];exact jb _ _ _
   have hbA:Below w.heap.size w A:=by rw [hA];exact hbw.alloc (by have:=hbw.size;omega) _
   have hwA:Below wr.heap.size wr A:=by rw [hA];exact(Below.refl _ _).alloc (Nat.le_refl _) _
   simp only [List.length_cons] at htc;have hrest1:=hrest;simp only [List.length_cons];clear hc hcells
   go_upto_region 5 with fail
   rw [<-hA]
   go_cut [3] from 21 to 22 (fun v wx=>(∃B' o',v=.slice (some ⟨B',o',none⟩) l.length (tc - 1)/\(l≠[]->B'=B/\o'=o+7))/\wx=A)
   case first=>
    by_cases h1:tc=1
    ·subst h1
     have hl0:l=[]:=List.eq_nil_of_length_eq_zero (by omega);have HL:=ja hl0;clear hl0 hA
     go_wp2_with fail
     all_goals go_meet
     all_goals exact⟨⟨B,o,by rw [HL.out];rfl,fun h=>absurd HL.out h⟩,rfl⟩
    ·have h1':(1:Int)<(tc:Int):=by omega
     clear hA
     go_wp2_with fail
     go_meet
     exact⟨⟨B,o+7,rfl,fun _=>⟨rfl,rfl⟩⟩,rfl⟩
   case rest=>
    obtain⟨⟨B',o',rfl,hBo⟩,hwc⟩:=hcut;rw [hwc];clear hwc wc;have HACC:=hacc.out;have e1:((many+1:Nat):Int)=(many:Int)+1:=by omega
    clear hA hacc q0 q1 q2 q3 q4 q5 q6;have z0:=hblk.cell 0 _ rfl;have z1:=hblk.cell 1 _ rfl;have z2:=hblk.cell 2 _ rfl;have z3:=hblk.cell 3 _ rfl;have z4:=hblk.cell 4 _ rfl;have z5:=hblk.cell 5 _ rfl;have z6:=hblk.cell 6 _ rfl
    by_cases g1:many=2000
    ·have hv:jh jr t=2:=by
      rw [<-HACC,g1];rfl
     have i1:(many:Int)+1 > 2000:=by omega
     have HV:=ja hv;clear hv HACC g1
     go_wp2_with fail
     go_ret;exact⟨by rw [HV.out];rfl,hbA⟩
    have i1:¬(many:Int)+1 > 2000:=by omega
    obtain⟨m,hm⟩:∃m,2000 - many=m+1:=⟨1999 - many,by omega⟩
    rw [hm] at HACC;have hck2:(if 20<=a then 5 else if jr y=0 then chk jr m ((parts y).map (fun z=>(z,a+1))++l) else jr y)=jh jr t:=HACC;clear HACC
    by_cases g2:20<=a
    ·rw [if_pos g2] at hck2
     have i2:(a:Int) ≥ 20:=by omega
     have HV:=ja hck2;clear hck2
     go_wp2_with fail
     go_ret;exact⟨by rw [<-HV.out];rfl,hbA⟩
    rw [if_neg g2] at hck2;have i2:¬(a:Int) ≥ 20:=by omega
    have hon:=jaP (hLV.kept (fun _ h=>h) hbA.size (fun b h _=>hbA.block b h));have HON:=ja hon;clear hon
    by_cases g3:jr y=0
    ·rw [if_pos g3] at hck2
     rw [g3] at HON;have HC:=ja hck2;clear hck2 g3
     go_upto_region 15 with (go_at_call 60;refine(jc HON).mono ?_;rintro e A3 ⟨rfl,b3⟩)
     obtain⟨L,E,rfl,rfl,rfl,⟨l1,l2,l3,l4⟩,hRL,hRE⟩:=Y0 hLV;have hm9:maxLen=9223372036854775807:=rfl;have hblk3:Blk A3 wr.heap.size #[.int .i64 vk,.int .i64 vn,.int .u64 (vb:Int),.string vs,.slice vpL L.length vcL,.slice vpE E.length vcE,.int .i64 (a:Int)] 112:=hblk.below b3;have hb3:Below w.heap.size w A3:=hbA.trans (b3.mono hbA.size);have hw3:Below wr.heap.size wr A3:=hwA.trans (b3.mono hwA.size);have hrest3:Hid (∀j u,r[j]?=some u->A3.cell? ⟨B,o+7+j,none⟩=some u):=fun j u hu=>(hw3.cell (p:=⟨B,o+7+j,none⟩) hBlt).trans (hrest.out j u hu)
     have hB3:B<A3.heap.size:=Nat.lt_of_lt_of_le hBlt hw3.size;have hisV:=hLV.isV;have hnode:=XM (f:=f) (a:=a) (l:=l) hisV;have hflatV:=hr.isV;clear HON z0 z1 z2 z3 z4 z5 z6 hblk hrest hrest1 hwA b3 hw3 hBlt hbA;obtain⟨Bx,hBx⟩:∃Bx,Bx=wr.heap.size:=⟨_,rfl⟩
     rw [<-hBx] at hblk3 ⊢;clear hBx;have y4:=hblk3.cell 4 _ rfl;have y5:=hblk3.cell 5 _ rfl;have y6:=hblk3.cell 6 _ rfl
     go_wp2_with fail
     go_loopw [7,40] (fun pv i wx=>∃(j:Nat) (ys:List Value),i=.int .i64 j/\j<=L.length/\wx.ownsRow A3.heap.size 112 7 pv j ys/\Hid (Flat (fun b=>b<w.heap.size) f w ys ((L.take j).map fun z=>(z,a+1)))/\Below A3.heap.size A3 wx) (fun _ i _=>L.length - (intOf i).toNat)
     case atStart=>exact⟨0,[],rfl,Nat.zero_le _,World.ownsRow_nil _ _ _ _,by simp [Flat,Hid],Below.refl _ _⟩
     case round=>
      obtain⟨j,ys,rfl,hj,hown,hfl,hbx⟩:=hrel
      by_cases hlt:j<L.length
      ·obtain⟨bL,oL,rfl,hbL,_,x0,x1,x2,x3,x4,x5,⟨z,hz,hlz⟩,c0,c1,c2,c3,c4,c5⟩:=hRL.six hlt
       have hLZ:=hlz;obtain⟨uk,un,ub,us,upL,unL,ucL,upE,unE,ucE,rfl,rfl,rfl,rfl,rfl,rfl⟩:=hlz.form;have hbt:Below w.heap.size w wr:=hb3.trans (hbx.mono hb3.size);have e0:=(hbt.cell (p:=⟨bL,oL+j*6,none⟩) hbL).trans c0;have e1':=(hbt.cell (p:=⟨bL,oL+j*6+1,none⟩) hbL).trans c1;have e2:=(hbt.cell (p:=⟨bL,oL+j*6+2,none⟩) hbL).trans c2;have e3:=(hbt.cell (p:=⟨bL,oL+j*6+3,none⟩) hbL).trans c3;have e4:=(hbt.cell (p:=⟨bL,oL+j*6+4,none⟩) hbL).trans c4;have e5:=(hbt.cell (p:=⟨bL,oL+j*6+5,none⟩) hbL).trans c5;have v6:wr.cell? ⟨Bx,6,none⟩=some (.int .i64 (a:Int)):=(hbx.cell (p:=⟨Bx,6,none⟩) hblk3.lt).trans y6
       have v7:(wr.alloc (.cells #[.int .i64 uk,.int .i64 un,.int .u64 (ub:Int),.string us,.slice upL unL ucL,.slice upE unE ucE] 26)).cell? ⟨Bx,6,none⟩=some (.int .i64 (a:Int)):=(World.cell?_of_block (Below.heap_alloc _ _ _ (Nat.lt_of_lt_of_le hblk3.lt hbx.size))).trans v6
       have hjl:j+1<=10000000:=by
        have h1:=hnode
        have h2:=JD (f:=f) (l:=(parts (mkV (vk,vn,vb,vs.data.toList) L E)).map (fun z=>(z,a+1))++l) (fun p hp=>by
         rcases List.mem_append.1 hp with hp | hp
         ·obtain⟨z,hz,rfl⟩:=List.mem_map.1 hp
          exact(hisV.more.part hz)
         ·exact hflatV p hp)
        rw [jB] at h2;simp only [List.length_append,List.length_map] at h2;rw [jB] at h1;omega
       clear c0 c1 c2 c3 c4 c5 hlz
       go_wp2_with (at_builtin;refine wpList_append_own_at _ rfl _ _ 113 rfl A3.heap.size 112 i0 _ 7 96 Tryd.underlying113 hi hz0 hz1 hz2 rfl (by decide) _ _ _ rfl ((hown.alloc _).alloc _) ⟨wr.heap.size+1,0,none⟩ 1 1 [.int .i64 uk,.int .i64 un,.int .u64 (ub:Int),.string us,.slice upL unL ucL,.slice upE unE ucE,.int .i64 ((a:Int)+1)] rfl rfl ?c1 ?c2 ?c3 ?c4 ?c5 ?_)
       case c1=>
        have:=Zp (wr.alloc (.cells #[.int .i64 uk,.int .i64 un,.int .u64 (ub:Int),.string us,.slice upL unL ucL,.slice upE unE ucE] 26)) (.int .i64 uk) (.int .i64 un) (.int .u64 (ub:Int)) (.string us) (.slice upL unL ucL) (.slice upE unE ucE) (.int .i64 ((a:Int)+1)) 112;rw [World.size_alloc] at this;exact this
       case c2=>intro u hu;simp at hu;rcases hu with rfl | rfl | rfl | rfl | rfl | rfl | rfl<;>rfl
       case c3=>unfold maxLen;omega
       case c4=>omega
       case c5=>have:=hbx.size;simp;omega
       intro v' w1 hown1 hg1 _ _
       go_wp2_with fail
       go_roundw
       case rel=>
        refine⟨j+1,_,by simp,by omega,hown1,?_,?_⟩
        ·rw [Zo hz,List.map_append]
         exact Flat.append hfl.out ⟨_,_,_,_,_,_,[],rfl,hLZ,rfl⟩
        ·exact(((hbx.alloc hbx.size _).alloc (by have:=hbx.size;simp;omega) _).grown hg1 (by have:=hbx.size;simp;omega) (fun g hg=>(World.ownsRow.lt hown g hg).1))
       case measure=>simp [intOf];omega
      ·obtain rfl:j=L.length:=by omega
       have v5:wr.cell? ⟨Bx,5,none⟩=some (.slice vpE E.length vcE):=(hbx.cell (p:=⟨Bx,5,none⟩) hblk3.lt).trans y5
       have hall:L.length+E.length+l.length<=10000000:=by
        have h1:=hnode
        have h2:=JD (f:=f) (l:=(parts (mkV (vk,vn,vb,vs.data.toList) L E)).map (fun z=>(z,a+1))++l) (fun p hp=>by
         rcases List.mem_append.1 hp with hp | hp
         ·obtain⟨z,hz,rfl⟩:=List.mem_map.1 hp
          exact(hisV.more.part hz)
         ·exact hflatV p hp)
        rw [jB] at h2;simp only [List.length_append,List.length_map] at h2;rw [jB] at h1;omega
       go_wp2_with fail
       go_loopw [7,57] (fun pv i wx=>∃(j:Nat) (ys:List Value),i=.int .i64 j/\j<=E.length/\wx.ownsRow A3.heap.size 112 7 pv (L.length+j) ys/\Hid (Flat (fun b=>b<w.heap.size) f w ys ((L++(E.take j).map (fun e=>(jE e).2)).map fun z=>(z,a+1)))/\Below A3.heap.size A3 wx) (fun _ i _=>E.length - (intOf i).toNat)
       case atStart=>exact⟨0,ys,rfl,Nat.zero_le _,hown,by rw [List.take_zero,List.map_nil,List.append_nil];rw [List.take_length] at hfl;exact hfl,hbx⟩
       case round=>
        clear hfl hbx hown v5;obtain⟨j,ys,rfl,hj,hown,hfl,hbx⟩:=hrel
        by_cases hlt2:j<E.length
        ·obtain⟨bE,oE,rfl,hbE,_,x0,x1,x2,x3,x4,x5,x6,⟨key,z,xs,hz,hus,hks,hlz⟩,c0,c1,c2,c3,c4,c5,c6⟩:=hRE.seven hlt2
         cases hus
         have hLZ:=hlz;obtain⟨uk,un,ub,us,upL,unL,ucL,upE,unE,ucE,rfl,rfl,rfl,rfl,rfl,rfl⟩:=hlz.form;have hbt:Below w.heap.size w wr:=hb3.trans (hbx.mono hb3.size);have e0:=(hbt.cell (p:=⟨bE,oE+j*7,none⟩) hbE).trans c0;have e1':=(hbt.cell (p:=⟨bE,oE+j*7+1,none⟩) hbE).trans c1;have e2:=(hbt.cell (p:=⟨bE,oE+j*7+2,none⟩) hbE).trans c2;have e3:=(hbt.cell (p:=⟨bE,oE+j*7+3,none⟩) hbE).trans c3;have e4:=(hbt.cell (p:=⟨bE,oE+j*7+4,none⟩) hbE).trans c4;have e5:=(hbt.cell (p:=⟨bE,oE+j*7+5,none⟩) hbE).trans c5;have e6:=(hbt.cell (p:=⟨bE,oE+j*7+6,none⟩) hbE).trans c6;have v6:wr.cell? ⟨Bx,6,none⟩=some (.int .i64 (a:Int)):=(hbx.cell (p:=⟨Bx,6,none⟩) hblk3.lt).trans y6
         obtain⟨W4,hW4⟩:∃W4,W4=wr.alloc (.cells #[.string key,.int .i64 uk,.int .i64 un,.int .u64 (ub:Int),.string us,.slice upL unL ucL,.slice upE unE ucE] 57):=⟨_,rfl⟩
         have hb4:Blk W4 wr.heap.size #[.string key,.int .i64 uk,.int .i64 un,.int .u64 (ub:Int),.string us,.slice upL unL ucL,.slice upE unE ucE] 57:=by rw [hW4];exact jb _ _ _
         have v7:W4.cell? ⟨Bx,6,none⟩=some (.int .i64 (a:Int)):=by rw [hW4];exact(World.cell?_of_block (Below.heap_alloc _ _ _ (Nat.lt_of_lt_of_le hblk3.lt hbx.size))).trans v6
         have p1:=hb4.cell 1 _ rfl;have p2:=hb4.cell 2 _ rfl;have p3:=hb4.cell 3 _ rfl;have p4:=hb4.cell 4 _ rfl;have p5:=hb4.cell 5 _ rfl;have p6:=hb4.cell 6 _ rfl;rw [hW4] at v7 p1 p2 p3 p4 p5 p6;clear c0 c1 c2 c3 c4 c5 c6 hlz hW4 hb4
         go_wp2_with (at_builtin;refine wpList_append_own_at _ rfl _ _ 113 rfl A3.heap.size 112 i0 _ 7 96 Tryd.underlying113 hi hz0 hz1 hz2 rfl (by decide) _ _ _ rfl ((hown.alloc _).alloc _) ⟨wr.heap.size+1,0,none⟩ 1 1 [.int .i64 uk,.int .i64 un,.int .u64 (ub:Int),.string us,.slice upL unL ucL,.slice upE unE ucE,.int .i64 ((a:Int)+1)] rfl rfl ?c1 ?c2 ?c3 ?c4 ?c5 ?_)
         case c1=>
          have:=Zp (wr.alloc (.cells #[.string key,.int .i64 uk,.int .i64 un,.int .u64 (ub:Int),.string us,.slice upL unL ucL,.slice upE unE ucE] 57)) (.int .i64 uk) (.int .i64 un) (.int .u64 (ub:Int)) (.string us) (.slice upL unL ucL) (.slice upE unE ucE) (.int .i64 ((a:Int)+1)) 112;rw [World.size_alloc] at this;exact this
         case c2=>intro u hu;simp at hu;rcases hu with rfl | rfl | rfl | rfl | rfl | rfl | rfl<;>rfl
         case c3=>unfold maxLen;omega
         case c4=>omega
         case c5=>have:=hbx.size;simp;omega
         intro v' w1 hown1 hg1 _ _
         go_wp2_with fail
         go_roundw
         case rel=>
          refine⟨j+1,_,by simp,by omega,hown1,?_,?_⟩
          ·have e7:L++(E.take (j+1)).map (fun e=>(jE e).2)=(L++(E.take j).map (fun e=>(jE e).2))++[z]:=by
            rw [Zo hz,List.map_append,<-List.append_assoc];rfl
           rw [e7,List.map_append];exact Flat.append hfl.out ⟨_,_,_,_,_,_,[],rfl,hLZ,rfl⟩
          ·exact(((hbx.alloc hbx.size _).alloc (by have:=hbx.size;simp;omega) _).grown hg1 (by have:=hbx.size;simp;omega) (fun g hg=>(World.ownsRow.lt hown g hg).1))
         case measure=>simp [intOf];omega
        ·obtain rfl:j=E.length:=by omega
         have hnews:∀j u,r[j]?=some u->wr.cell? ((⟨B',o',none⟩:Addr).add j)=some u:=fun j u hu=>by
          have hne:l≠[]:=fun e=>by
           subst e;rw [show r=[] from hr] at hu;simp at hu
          obtain⟨rfl,rfl⟩:=hBo hne;rw [Addr.add_lit];exact(hbx.cell (p:=⟨B',o+7+j,none⟩) hB3).trans (hrest3.out j u hu)
         have hlen:=hr.len;have hone:=hr.one;have HN:=ja hnews;have HR:=ja hr;have HO:=ja hone;clear hnews hr hone
         go_wp2_with (at_builtin;refine wpList_append_own_at _ rfl _ _ 113 rfl A3.heap.size 112 i0 _ 7 96 Tryd.underlying113 hi hz0 hz1 hz2 rfl (by decide) _ _ _ rfl hown ⟨B',o',none⟩ l.length (tc - 1) r rfl hlen HN.out HO.out ?c3 ?c4 ?c5 ?_)
         case c3=>unfold maxLen;omega
         case c4=>omega
         case c5=>exact hbx.size
         intro v' w1 hown1 hg1 _ _
         go_wp2_with fail
         go_roundw
         case rel=>
          refine⟨(parts (mkV (vk,vn,vb,vs.data.toList) L E)).map (fun z=>(z,a+1))++l,many+1,by simp,by omega,?_,jbk hown1 ?_ hb3.size,by omega,?_,?_⟩
          ·intro p hp
           rcases List.mem_append.1 hp with hp | hp
           ·obtain⟨z,hz,rfl⟩:=List.mem_map.1 hp
            show a+1<=20
            omega
           ·exact h20 p (by simp [hp])
          ·rw [List.take_length] at hfl
           exact Flat.append hfl.out HR.out
          ·have e8:2000 - (many+1)=m:=by omega
           rw [e8];exact HC.out
          ·exact hb3.trans ((hbx.grown hg1 hbx.size (fun g hg=>(World.ownsRow.lt hown g hg).1)).mono hb3.size)
         case measure=>simp [intOf];omega
    ·rw [if_neg g3] at hck2
     obtain⟨v,hv⟩:∃v,v=jr y:=⟨_,rfl⟩
     rw [<-hv] at HON hck2 g3;have g4:(v != 0)=true:=bne_iff_ne.2 g3;have HV:=ja hck2;clear hck2 hv
     go_wp2_with (go_at_call 60;refine(jc HON).mono ?_;rintro e A3 ⟨rfl,b3⟩)
     go_ret;exact⟨by rw [<-HV.out];rfl,hbA.trans (b3.mono hbA.size)⟩
end valus
end Go.Proofs.YtadaehaemmelfaaDoor
