/- Of our texts, what this claim reaches. -/
import Derived.Test.YtadaehaemmelfaaDoorPubAY
import Derived.Test.YtadaehaemmelfaaDoorPubAZ
import Derived.Test.YtadaehaemmelfaaDoorPubBA
import Derived.Test.YtadaehaemmelfaaDoorPubBB
import Derived.Test.YtadaehaemmelfaaDoorPubAT
set_option linter.unusedVariables false
set_option maxHeartbeats 8000000
set_option maxRecDepth 100000
set_option linter.unusedSimpArgs false
namespace Go.Proofs.YtadaehaemmelfaaDoor
namespace upds
open Go.RowKit Go.Shelf
open valus
open paths (St LiesP jt jq jf je jl jm)
def JH (x:St)(key:List UInt8)(y h:V):Int×V:=if x.2 = -1 then zo x.1 key y h else (10,h)
def zV (t:V)(P:List St)(key:List UInt8):Int×V:=match je t P with
 | .inr e=>(e,t)
 | .inl y=>jj (JH (ju P) key y) t P.dropLast
theorem XN {n0 R:Nat}{W:World}{t:V}(h:RootD n0 R W t)(hn0:n0<=W.heap.size)(hnt:Few 1000000 t)(p:Option Addr)(c:Nat)(P:List St)(hP:LiesP W p P)(hPl:P.length<=20)(hPc:P.length<=c)(hcm:c<=9223372036854775807)(hP0:P≠[])(hck:jq P=0)(hT:jt W)(g:Nat)(y:V)(k n:Int)(b:Nat)(s:ByteArray)(pL:Option Addr)(nL cL:Nat)(pE:Option Addr)(nE cE:Nat)(hl:LiesV (fun q=>q<W.heap.size) g W [.int .i64 k,.int .i64 n,.int .u64 (b:Int),.string s,.slice pL nL cL,.slice pE nE cE] y)(key:ByteArray)(hkm:key.size<=maxLen) :
  Calls Tryd.prog 64 #[.pointer (some ⟨R,0,none⟩),.agg #[.int .i64 4,.slice p P.length c,.int .i64 k,.int .i64 n,.int .u64 (b:Int),.string s,.slice pL nL cL,.slice pE nE cE,.string key]] W (ChW n0 R W (zV t P key.data.toList)):=by
 obtain⟨m,hm⟩:∃m,P.length=m+1:=⟨P.length - 1,by have:=List.length_pos_iff.2 hP0;omega⟩
 have hlt:m<P.length:=by omega
 obtain⟨Bp,op,xk,rfl,hBp,hk1,hk2,hk3,e0,e1⟩:=hP.at hlt
 have hlast:ju P=P[m]:=by
  unfold ju;rw [List.getLast?_eq_getElem?,hm,Nat.add_sub_cancel,List.getElem?_eq_getElem hlt];rfl
 have hxk:(ju P).1=xk.data.toList:=by rw [hlast,<-hk1]
 have hdl:P.dropLast.length=m:=by rw [List.length_dropLast,hm,Nat.add_sub_cancel]
 have hckD:jq P.dropLast=0:=Ju hck;have hxs:=(jm ((jl hck).2 _ (List.getElem_mem hlt)))
 have hxl:xk.size<=maxLen:=by
  have:=hxs.2.2.1;rw [<-hk1,jn] at this;unfold maxLen;omega
 obtain⟨W0,hW0⟩:∃W0,W0=W.alloc (.cells #[.int .i64 4,.slice (some ⟨Bp,op,none⟩) (m+1) c,.int .i64 k,.int .i64 n,.int .u64 (b:Int),.string s,.slice pL nL cL,.slice pE nE cE,.string key] 45):=⟨_,rfl⟩
 have b0:Below W.heap.size W W0:=by rw [hW0];exact(Below.refl _ W).alloc (Nat.le_refl _) _
 have s0:W0.heap.size=W.heap.size+1:=by rw [hW0];simp
 have hZ:Blk W0 W.heap.size #[.int .i64 4,.slice (some ⟨Bp,op,none⟩) (m+1) c,.int .i64 k,.int .i64 n,.int .u64 (b:Int),.string s,.slice pL nL cL,.slice pE nE cE,.string key] 45:=by rw [hW0];exact jb W _ _
 obtain⟨fr,Sr,x0,x1,x2,x3,x4,x5,hRB,hRl,hR0,hRS⟩:=h;have hroot:RootD n0 R W t:=⟨fr,Sr,x0,x1,x2,x3,x4,x5,hRB,hRl,hR0,hRS⟩
 have hRlt:=hRB.lt;obtain⟨vk,vn,vb,vs,vpL,vnL,vcL,vpE,vnE,vcE,rfl,rfl,rfl,rfl,rfl,rfl⟩:=hRl.lies.form
 have KG:Hid (∀wg,Below W0.heap.size W0 wg->Calls Tryd.prog 8 #[.agg #[.int .i64 vk,.int .i64 vn,.int .u64 (vb:Int),.string vs,.slice vpL vnL vcL,.slice vpE vnE vcE],.slice (some ⟨Bp,op,none⟩) (m+1) c] wg fun e w1=>∃(er yk yn:Int) (yb:Nat) (ys:ByteArray) (ypL:Option Addr) (ynL ycL:Nat) (ypE:Option Addr) (ynE ycE:Nat),e=.returned (.tuple #[.agg #[.int .i64 yk,.int .i64 yn,.int .u64 (yb:Int),.string ys,.slice ypL ynL ycL,.slice ypE ynE ycE],.int .i64 er])/\((er=0/\∃z f,je t P=.inl z/\LiesV (fun q=>wg.heap.size<=q/\q<w1.heap.size) f w1 [.int .i64 yk,.int .i64 yn,.int .u64 (yb:Int),.string ys,.slice ypL ynL ycL,.slice ypE ynE ycE] z)\/(er≠0/\je t P=.inr er))/\Below W0.heap.size W0 w1/\Blk w1 R #[.int .i64 vk,.int .i64 vn,.int .u64 (vb:Int),.string vs,.slice vpL vnL vcL,.slice vpE vnE vcE] 26/\Blk w1 W.heap.size #[.int .i64 4,.slice (some ⟨Bp,op,none⟩) (m+1) c,.int .i64 k,.int .i64 n,.int .u64 (b:Int),.string s,.slice pL nL cL,.slice pE nE cE,.string key] 45/\Below wg.heap.size wg w1):=ja (fun wg hwg=>by
  have bD:Below W.heap.size W wg:=b0.trans (hwg.mono b0.size);have G:=paths.Zz 10000000 (Nat.le_refl _) wg fr t _ _ _ _ _ _ ((hRl.lies.weaken fun b h=>h.2).kept (fun q h=>Nat.lt_of_lt_of_le h bD.size) bD.size (fun q h _=>bD.block q h)) (by have:=hnt.at hRl.lies.isV;omega) _ c P (hP.keep bD) (by omega) (Utf8Tabs_below hT bD);have hlp:paths.jY t P=je t P:=by unfold paths.jY;rw [if_pos hck]
  rw [hlp,hm] at G;refine G.mono fun e w1 ⟨h1,hb⟩=>?_
  have hb0:Below W0.heap.size W0 w1:=hwg.trans (hb.mono hwg.size);have r1:Blk w1 R _ 26:=(hRB.below b0).below (hb0.mono (Nat.le_refl _));have r2:Blk w1 W.heap.size _ 45:=hZ.below hb0
  rcases h1 with ⟨z,f,x0,x1,x2,x3,x4,x5,hz,rfl,hlz,_⟩ | ⟨er,hz,hne,rfl⟩
  ·obtain⟨yk,yn,yb,ys,ypL,ynL,ycL,ypE,ynE,ycE,rfl,rfl,rfl,rfl,rfl,rfl⟩:=hlz.form
   exact⟨0,yk,yn,yb,ys,ypL,ynL,ycL,ypE,ynE,ycE,rfl,.inl ⟨rfl,z,f,hz,hlz⟩,hb0,r1,r2,hb⟩
  ·exact⟨er,0,0,0,⟨#[]⟩,none,0,0,none,0,0,rfl,.inr ⟨hne,hz⟩,hb0,r1,r2,hb⟩)
 have q0:W0.drew.cell? ⟨R,0,none⟩=some (.int .i64 vk):=(hRB.below b0).cell 0 _ rfl
 have q1:W0.drew.cell? ⟨R,1,none⟩=some (.int .i64 vn):=(hRB.below b0).cell 1 _ rfl
 have q2:W0.drew.cell? ⟨R,2,none⟩=some (.int .u64 (vb:Int)):=(hRB.below b0).cell 2 _ rfl
 have q3:W0.drew.cell? ⟨R,3,none⟩=some (.string vs):=(hRB.below b0).cell 3 _ rfl
 have q4:W0.drew.cell? ⟨R,4,none⟩=some (.slice vpL vnL vcL):=(hRB.below b0).cell 4 _ rfl
 have q5:W0.drew.cell? ⟨R,5,none⟩=some (.slice vpE vnE vcE):=(hRB.below b0).cell 5 _ rfl
 have q6:W0.drew.cell? ⟨W.heap.size,1,none⟩=some (.slice (some ⟨Bp,op,none⟩) (m+1) c):=hZ.cell 1 _ rfl
 have p0:W0.cell? ⟨R,0,none⟩=_:=q0
 have p1:W0.cell? ⟨R,1,none⟩=_:=q1
 have p2:W0.cell? ⟨R,2,none⟩=_:=q2
 have p3:W0.cell? ⟨R,3,none⟩=_:=q3
 have p4:W0.cell? ⟨R,4,none⟩=_:=q4
 have p5:W0.cell? ⟨R,5,none⟩=_:=q5
 have p6:W0.cell? ⟨W.heap.size,1,none⟩=_:=q6
 have z0:=hZ.cell 0 _ rfl;rw [hW0] at z0;have HZ:=ja hZ;have HW0:=ja hW0;have hsR:R<W0.heap.size:=by omega
 have hsO:W.heap.size<W0.heap.size:=by omega
 have HCUT:Hid (∀w1,Below W0.heap.size W0 w1->Calls Tryd.prog 80 #[.slice (some ⟨Bp,op,none⟩) (m+1) c] w1 fun e w'=>e=.returned (.tuple #[.slice (some ⟨Bp,op,none⟩) m c,.agg #[.string xk,.int .i64 (P[m]).2]])/\Below w1.heap.size w1 w'):=ja fun w1 hw1=>by
  have b1:Below W.heap.size W w1:=b0.trans (hw1.mono b0.size);exact zt w1 Bp op c m xk _ (by omega) hcm ((b1.cell (p:=⟨Bp,op+m*2,none⟩) hBp).trans e0) ((b1.cell (p:=⟨Bp,op+m*2+1,none⟩) hBp).trans e1)
 have hIx:∀x∈P.dropLast,x.2 = -1\/0<=x.2:=fun x hx=>(jm ((jl hckD).2 x hx)).2.1.imp id And.left
 have KA:Hid (∀(w2:World) (z:V) (f:Nat) (yk yn:Int) (yb:Nat) (ys:ByteArray) (ypL:Option Addr) (ynL ycL:Nat) (ypE:Option Addr) (ynE ycE:Nat),je t P=.inl z->LiesV (fun q=>q<w2.heap.size) f w2 [.int .i64 yk,.int .i64 yn,.int .u64 (yb:Int),.string ys,.slice ypL ynL ycL,.slice ypE ynE ycE] z->Below W0.heap.size W0 w2->Calls Tryd.prog 78 #[.pointer (some ⟨R,0,none⟩),.slice (some ⟨Bp,op,none⟩) m c,.func (.func 101) #[] #[.pointer (some ⟨w2.heap.size+1,0,none⟩),.pointer (some ⟨w2.heap.size+1+1,0,none⟩),.pointer (some ⟨w2.heap.size+1+2,0,none⟩)]] ((((w2.alloc (.cells #[.string xk,.int .i64 (P[m]).2] 60)).alloc (.cells #[.string xk,.int .i64 (P[m]).2] 60)).alloc (.cells #[.string key] 9)).alloc (.cells #[.int .i64 yk,.int .i64 yn,.int .u64 (yb:Int),.string ys,.slice ypL ynL ycL,.slice ypE ynE ycE] 26)) (ChW n0 R W (zV t P key.data.toList))):=ja fun w2 z f yk yn yb ys ypL ynL ycL ypE ynE ycE hz hlz hw2=>by
  obtain⟨W2,hW2⟩:∃W2,W2=(((w2.alloc (.cells #[.string xk,.int .i64 (P[m]).2] 60)).alloc (.cells #[.string xk,.int .i64 (P[m]).2] 60)).alloc (.cells #[.string key] 9)).alloc (.cells #[.int .i64 yk,.int .i64 yn,.int .u64 (yb:Int),.string ys,.slice ypL ynL ycL,.slice ypE ynE ycE] 26):=⟨_,rfl⟩
  rw [<-hW2];have b1:Below W.heap.size W w2:=b0.trans (hw2.mono b0.size);have b12:Below w2.heap.size w2 W2:=by rw [hW2];exact((((Below.refl _ w2).alloc (Nat.le_refl _) _).alloc (by simp) _).alloc (by simp;omega) _).alloc (by simp;omega) _
  have b2:Below W.heap.size W W2:=b1.trans (b12.mono b1.size)
  have hS:Blk W2 (w2.heap.size+1) #[.string xk,.int .i64 (P[m]).2] 60:=by
   rw [hW2];have:=jb (w2.alloc (.cells #[.string xk,.int .i64 (P[m]).2] 60)) #[.string xk,.int .i64 (P[m]).2] 60;rw [World.size_alloc] at this;exact Blk.alloc (Blk.alloc this _) _
  have hK:Blk W2 (w2.heap.size+1+1) #[.string key] 9:=by
   rw [hW2];have:=jb ((w2.alloc (.cells #[.string xk,.int .i64 (P[m]).2] 60)).alloc (.cells #[.string xk,.int .i64 (P[m]).2] 60)) #[.string key] 9;rw [World.size_alloc,World.size_alloc] at this;exact Blk.alloc this _
  have hV:Blk W2 (w2.heap.size+1+2) #[.int .i64 yk,.int .i64 yn,.int .u64 (yb:Int),.string ys,.slice ypL ynL ycL,.slice ypE ynE ycE] 26:=by
   rw [hW2];have:=jb (((w2.alloc (.cells #[.string xk,.int .i64 (P[m]).2] 60)).alloc (.cells #[.string xk,.int .i64 (P[m]).2] 60)).alloc (.cells #[.string key] 9)) #[.int .i64 yk,.int .i64 yn,.int .u64 (yb:Int),.string ys,.slice ypL ynL ycL,.slice ypE ynE ycE] 26;rw [World.size_alloc,World.size_alloc,World.size_alloc] at this;exact this
  have hfz:Few 1000000 z:=qr P (fun x hx=>(jm ((jl hck).2 x hx)).2.1.imp id And.left) hRl.lies.isV hnt hz;have hdM:zV t P key.data.toList=jj (JH (ju P) key.data.toList z) t P.dropLast:=by unfold zV;rw [hz]
  rw [hdM]
  have A:=jaf (hroot.below b2) (Nat.le_trans hn0 b2.size) hnt (some ⟨Bp,op,none⟩) c P.dropLast ((LiesP.less hP).keep b2) (by rw [hdl];omega) hckD (Utf8Tabs_below hT b2) (w2.heap.size+1) (w2.heap.size+1+1) (w2.heap.size+1+2) (JH (ju P) key.data.toList z) (fun W1 B o S f' z' hb hh hz'=>by
   have hfew:Few 1000000 z':=qr P.dropLast hIx hRl.lies.isV hnt hz';have hlW1:LiesV (fun q=>q<W1.heap.size) f W1 [.int .i64 yk,.int .i64 yn,.int .u64 (yb:Int),.string ys,.slice ypL ynL ycL,.slice ypE ynE ycE] z:=(hlz.below b12 |>.kept (fun q h=>Nat.lt_of_lt_of_le h b12.size) (Nat.le_refl _) (fun _ _ _=>rfl)).below hb |>.kept (fun q h=>Nat.lt_of_lt_of_le h hb.size) (Nat.le_refl _) (fun _ _ _=>rfl)
   by_cases hx:P[m].2 = -1
   ·have hG:JH (ju P) key.data.toList z z'=zo xk.data.toList key.data.toList z z':=by unfold JH;rw [hlast,if_pos hx,hk1]
    rw [hG];rw [hx] at hS
    by_cases hke:key.data.toList=xk.data.toList
    ·exact Xw hh hfew _ _ _ xk key hkm (hS.below hb) (hK.below hb) f z _ _ _ _ _ _ (hV.below hb) hlW1 hfz hke
    ·by_cases hix:idx (fun x=>decide (x=key.data.toList)) 0 (opn z').2.2<0
     ·exact Z0 hh hfew _ _ _ xk key hkm (hS.below hb) (hK.below hb) f z _ _ _ _ _ _ (hV.below hb) hlW1 hfz hke hix
     ·exact ZO hh hfew _ _ _ xk key hkm (hS.below hb) (hK.below hb) f z _ _ _ _ _ _ (hV.below hb) hlW1 hfz hke (by omega)
   ·have hG:JH (ju P) key.data.toList z z'=(10,z'):=by unfold JH;rw [hlast,if_neg hx]
    rw [hG];exact ZW _ _ _ xk _ hx (hS.below hb))
  rw [hdl] at A;exact A.mono fun e w' hc=>ChW.from hc b2 hn0
 have HB0:=ja b0;rw [hm];have za0:∀w:World,(w.alloc (.cells #[.int .i64 0,.int .i64 0,.int .u64 0,.string ⟨#[]⟩,.slice none 0 0,.slice none 0 0] 26)).cell? ⟨w.heap.size,0,none⟩=some (.int .i64 0):=fun w=>(jb w #[.int .i64 0,.int .i64 0,.int .u64 0,.string ⟨#[]⟩,.slice none 0 0,.slice none 0 0] 26).cell 0 _ rfl
 have za1:∀w:World,(w.alloc (.cells #[.int .i64 0,.int .i64 0,.int .u64 0,.string ⟨#[]⟩,.slice none 0 0,.slice none 0 0] 26)).cell? ⟨w.heap.size,1,none⟩=some (.int .i64 0):=fun w=>(jb w #[.int .i64 0,.int .i64 0,.int .u64 0,.string ⟨#[]⟩,.slice none 0 0,.slice none 0 0] 26).cell 1 _ rfl
 have za2:∀w:World,(w.alloc (.cells #[.int .i64 0,.int .i64 0,.int .u64 0,.string ⟨#[]⟩,.slice none 0 0,.slice none 0 0] 26)).cell? ⟨w.heap.size,2,none⟩=some (.int .u64 0):=fun w=>(jb w #[.int .i64 0,.int .i64 0,.int .u64 0,.string ⟨#[]⟩,.slice none 0 0,.slice none 0 0] 26).cell 2 _ rfl
 have za3:∀w:World,(w.alloc (.cells #[.int .i64 0,.int .i64 0,.int .u64 0,.string ⟨#[]⟩,.slice none 0 0,.slice none 0 0] 26)).cell? ⟨w.heap.size,3,none⟩=some (.string ⟨#[]⟩):=fun w=>(jb w #[.int .i64 0,.int .i64 0,.int .u64 0,.string ⟨#[]⟩,.slice none 0 0,.slice none 0 0] 26).cell 3 _ rfl
 have za4:∀w:World,(w.alloc (.cells #[.int .i64 0,.int .i64 0,.int .u64 0,.string ⟨#[]⟩,.slice none 0 0,.slice none 0 0] 26)).cell? ⟨w.heap.size,4,none⟩=some (.slice none 0 0):=fun w=>(jb w #[.int .i64 0,.int .i64 0,.int .u64 0,.string ⟨#[]⟩,.slice none 0 0,.slice none 0 0] 26).cell 4 _ rfl
 have za5:∀w:World,(w.alloc (.cells #[.int .i64 0,.int .i64 0,.int .u64 0,.string ⟨#[]⟩,.slice none 0 0,.slice none 0 0] 26)).cell? ⟨w.heap.size,5,none⟩=some (.slice none 0 0):=fun w=>(jb w #[.int .i64 0,.int .i64 0,.int .u64 0,.string ⟨#[]⟩,.slice none 0 0,.slice none 0 0] 26).cell 5 _ rfl
 have zf:∀(w:World) (i:Nat),(w.alloc (.cells #[.int .i64 0,.int .i64 0,.int .u64 0,.string ⟨#[]⟩,.slice none 0 0,.slice none 0 0] 26)).frozen? ⟨w.heap.size,i,none⟩=false:=fun w i=>(jb w #[.int .i64 0,.int .i64 0,.int .u64 0,.string ⟨#[]⟩,.slice none 0 0,.slice none 0 0] 26).froz i
 have n1:W0.heap.size≠R:=by omega
 have n2:W0.heap.size≠W.heap.size:=by omega
 have n1':R≠W0.heap.size:=by omega
 have n2':W.heap.size≠W0.heap.size:=by omega
 clear hZ hW0 hRl hRS hroot hRB hP hT b0 hl s0
 go_enter Tryd.func64,Tryd.ntmps64
 go_upto_region 7 with fail
 rw [<-HW0.out];clear z0
 go_region_with (first
  | (go_at_call 8;refine(KG.out _ (by first | exact(Below.refl _ _).drew | exact((Below.refl _ _).alloc (Nat.le_refl _) _).drew)).mono ?_;rintro e w1 ⟨er,yk,yn,yb,ys,ypL,ynL,ycL,ypE,ynE,ycE,rfl,hres,hb,hr,ho,hbg⟩;have i0:=hr.cell 0 _ rfl;have i1:=hr.cell 1 _ rfl;have i2:=hr.cell 2 _ rfl;have i3:=hr.cell 3 _ rfl;have i4:=hr.cell 4 _ rfl;have i5:=hr.cell 5 _ rfl;have i6:=ho.cell 1 _ rfl;have hlt1:R<w1.heap.size:=hr.lt;have hlt2:W.heap.size<w1.heap.size:=ho.lt;have n3:w1.heap.size≠R:=(by omega);have n4:w1.heap.size≠W.heap.size:=(by omega);have n3':R≠w1.heap.size:=(by omega);have n4':W.heap.size≠w1.heap.size:=(by omega);(first | (have jz:Blk w1 W0.heap.size #[.int .i64 0,.int .i64 0,.int .u64 0,.string ⟨#[]⟩,.slice none 0 0,.slice none 0 0] 26:=Blk.below (w:=(W0.alloc (.cells #[.int .i64 0,.int .i64 0,.int .u64 0,.string ⟨#[]⟩,.slice none 0 0,.slice none 0 0] 26)).drew) (jb W0 _ _) hbg;have j0:=jz.cell 0 _ rfl;have f0:=jz.froz 0;have j1:=jz.cell 1 _ rfl;have f1:=jz.froz 1;have j2:=jz.cell 2 _ rfl;have f2:=jz.froz 2;have j3:=jz.cell 3 _ rfl;have f3:=jz.froz 3;have j4:=jz.cell 4 _ rfl;have f4:=jz.froz 4;have j5:=jz.cell 5 _ rfl;have f5:=jz.froz 5;have JZ:=ja jz;clear jz) | skip);have HRES:=ja hres;have HB1:=ja hb;have HR1:=ja hr;have HO1:=ja ho;clear hres hb hr ho hbg))
 all_goals
  rcases HRES.out with ⟨rfl,z,f,hz,hlz⟩ | ⟨hne,hz⟩
  ·have HZL:=ja hz
   have HLZ:=ja hlz;clear hz hlz HRES
   go_wp2_with (first
    | (go_at_call 80;refine(HCUT.out _ (by first | with_reducible exact HB1.out | with_reducible exact HB1.out.alloc HB1.out.size _ | (with_reducible (refine Below.setCell (Below.setCell (Below.setCell (Below.setCell (Below.setCell (Below.setCell HB1.out ?_ _) ?_ _) ?_ _) ?_ _) ?_ _) ?_ _))<;>exact Nat.le_refl _)).mono ?_;rintro e w2 ⟨rfl,hb2⟩;have hb3:=(show Below W0.heap.size W0 w2 from Below.trans (by first | with_reducible exact HB1.out | with_reducible exact HB1.out.alloc HB1.out.size _ | (with_reducible (refine Below.setCell (Below.setCell (Below.setCell (Below.setCell (Below.setCell (Below.setCell HB1.out ?_ _) ?_ _) ?_ _) ?_ _) ?_ _) ?_ _))<;>exact Nat.le_refl _) (hb2.mono (by have:=HB1.out.size;simp;omega)));have HO2:=ja (Blk.alloc (HZ.out.below hb3) (.cells #[.string xk,.int .i64 (P[m]).2] 60));(first | (have hlw:LiesV (fun q=>q<w2.heap.size) f w2 [.int .i64 yk,.int .i64 yn,.int .u64 (yb:Int),.string ys,.slice ypL ynL ycL,.slice ypE ynE ycE] z:=HLZ.out.kept (fun q h=>by have:=hb2.size;simp at this;omega) (by have:=hb2.size;simp at this;omega) (fun q h hq=>(hb2.block q (by simp;omega)).trans (by with_reducible exact Below.heap_alloc _ _ _ hq))) | (have hlw:LiesV (fun q=>q<w2.heap.size) f w2 [.int .i64 yk,.int .i64 yn,.int .u64 (yb:Int),.string ys,.slice ypL ynL ycL,.slice ypE ynE ycE] z:=HLZ.out.kept (fun q h=>by have:=hb2.size;simp at this;omega) (by have:=hb2.size;simp at this;omega) (fun q h hq=>(hb2.block q (by simp;omega)).trans (by have hne:q≠W0.heap.size:=(by have:=h.1;simp at this;omega);rw [Below.heap_setCell _ _ _ _ hne,Below.heap_setCell _ _ _ _ hne,Below.heap_setCell _ _ _ _ hne,Below.heap_setCell _ _ _ _ hne,Below.heap_setCell _ _ _ _ hne,Below.heap_setCell _ _ _ _ hne]))));have KA1:=ja (KA.out w2 z f yk yn yb ys ypL ynL ycL ypE ynE ycE HZL.out hlw hb3);have u0:=HO2.out.cell 0 _ rfl;have u8:=HO2.out.cell 8 _ rfl;(first | (have hwx:Blk w2 w1.heap.size #[.int .i64 yk,.int .i64 yn,.int .u64 (yb:Int),.string ys,.slice ypL ynL ycL,.slice ypE ynE ycE] 26:=by with_reducible exact Blk.below (jb w1 _ _) hb2) | (have hwx:Blk w2 W0.heap.size #[.int .i64 yk,.int .i64 yn,.int .u64 (yb:Int),.string ys,.slice ypL ynL ycL,.slice ypE ynE ycE] 26:=Blk.below (jk JZ.out _ _ _ _ _ _) hb2));have hwy:=Blk.alloc hwx (.cells #[.string xk,.int .i64 (P[m]).2] 60);have y0:=hwy.cell 0 _ rfl;have y1:=hwy.cell 1 _ rfl;have y2:=hwy.cell 2 _ rfl;have y3:=hwy.cell 3 _ rfl;have y4:=hwy.cell 4 _ rfl;have y5:=hwy.cell 5 _ rfl;clear hb2 hb3 hwx hwy hlw)
    | (go_at_call 83;refine(Yq _ _ _ _ _ _ _ _ _ _ _ _ _ _).mono ?_;rintro e w' ⟨rfl,rfl⟩)
    | (go_at_call 78;refine(jc KA1).mono ?_;rintro e w' hch;have he:=hch.1;subst he;have HC:=ja hch;clear hch))
   go_ret;exact HC.out
  ·have hne2:(er != 0)=true:=bne_iff_ne.2 hne
   have HE:Hid (zV t P key.data.toList=(er,t)):=ja (by unfold zV;rw [hz]);have HNE:=ja hne;clear hz hne HRES;go_wp2;go_ret;rw [HE.out];refine⟨rfl,?_,fun h=>absurd h HNE.out⟩;exact(HB0.out.trans (Below.mono (by first | with_reducible exact HB1.out | with_reducible exact HB1.out.alloc HB1.out.size _ | (with_reducible (refine Below.setCell (Below.setCell (Below.setCell (Below.setCell (Below.setCell (Below.setCell HB1.out ?_ _) ?_ _) ?_ _) ?_ _) ?_ _) ?_ _))<;>exact Nat.le_refl _) HB0.out.size)).mono hn0
end upds
end Go.Proofs.YtadaehaemmelfaaDoor
