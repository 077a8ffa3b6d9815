/- Of our texts, what this claim reaches. -/
import Derived.Test.YtadaehaemmelfaaDoorPubAR
import Derived.WalkLawsBesides
set_option linter.unusedVariables false
set_option maxHeartbeats 4000000
set_option maxRecDepth 100000
namespace Go.Proofs.YtadaehaemmelfaaDoor
namespace valus
open Go.RowKit Go.Shelf
theorem QR (ok:Nat->Prop)(f:Nat)(w:World)(E:List V)(pE:Option Addr)(cE:Nat)(kk:ByteArray)(hE:JO ok f w pE E)(h1:E.length<=cE)(h2:cE<=maxLen)(hok:∀b,ok b->b<w.heap.size)(hn:E.length<=10000000)(hnod:∀e,e∈E->jd f (jE e).2<=10000000) :
  Calls Tryd.prog 99 #[.slice pE E.length cE,.string kk] w fun e w'=>∃v,e=.returned v/\(∃P,OwnD w.heap.size P f w' v (jD kk.data.toList E))/\Below w.heap.size w w':=by
 obtain⟨i0,hi,hz0,hz1,hz2⟩:=info_parts JK
 go_enter Tryd.func99,Tryd.ntmps99
 go_wp2
 go_loopw [10,5] (fun i v wr=>∃j:Nat,i=.int .i64 j/\j<=E.length/\Hid (∃P,OwnD w.heap.size P f wr v (jD kk.data.toList (E.take j)))/\Below w.heap.size w wr) (fun i _ _=>E.length - (intOf i).toNat)
 case atStart=>exact⟨0,rfl,Nat.zero_le _,ja ⟨_,OwnD.nil _ _ _⟩,Below.refl _ _⟩
 case round=>
  obtain⟨j,rfl,hj,hacc,hbw⟩:=hrel
  by_cases hlt:j<E.length
  ·obtain⟨B,o,rfl,_,hBl,x0,x1,x2,x3,x4,x5,x6,⟨key,y,xs,hy,hus,hks,hly⟩,k0,k1,k2,k3,k4,k5,k6⟩:=hE.seven hlt
   cases hus
   obtain⟨vk,vn,vb,vs,vpL,vnL,vcL,vpE,vnE,vcE,rfl,rfl,rfl,rfl,rfl,rfl⟩:=hly.form;have q0:=(hbw.cell (p:=⟨B,o+j*7,none⟩) hBl).trans k0;have q1:=(hbw.cell (p:=⟨B,o+j*7+1,none⟩) hBl).trans k1;have q2:=(hbw.cell (p:=⟨B,o+j*7+2,none⟩) hBl).trans k2;have q3:=(hbw.cell (p:=⟨B,o+j*7+3,none⟩) hBl).trans k3;have q4:=(hbw.cell (p:=⟨B,o+j*7+4,none⟩) hBl).trans k4;have q5:=(hbw.cell (p:=⟨B,o+j*7+5,none⟩) hBl).trans k5;have q6:=(hbw.cell (p:=⟨B,o+j*7+6,none⟩) hBl).trans k6;have hstep:=jae (k:=kk.data.toList) hy;clear k0 k1 k2 k3 k4 k5 k6;have sw:=hbw.size;have hbA:Below w.heap.size w (wr.alloc (.cells #[.string key,.int .i64 vk,.int .i64 vn,.int .u64 (vb:Int),.string vs,.slice vpL vnL vcL,.slice vpE vnE vcE] 57)):=hbw.alloc sw _
   by_cases hk:key.data.toList=kk.data.toList
   ·have hs2:(key.toList == kk.toList)=true:=by rw [ByteArray.toList_eq,ByteArray.toList_eq];exact beq_iff_eq.2 hk
    rw [if_pos hk,List.append_nil] at hstep;have HA:Hid (∃P,OwnD w.heap.size P f (wr.alloc (.cells #[.string key,.int .i64 vk,.int .i64 vn,.int .u64 (vb:Int),.string vs,.slice vpL vnL vcL,.slice vpE vnE vcE] 57)) u5 (jD kk.data.toList (E.take (j+1)))):=ja (by rw [hstep];obtain⟨P0,hP0⟩:=hacc.out;exact⟨P0,hP0.still ((Below.refl _ wr).alloc (Nat.le_refl _) _)⟩);clear hstep hk hacc;go_wp2;go_roundw
    case rel=>exact⟨j+1,by congr 1,by omega,HA,hbA⟩
    case measure=>simp only [intOf];omega
   ·have hs2:(key.toList == kk.toList)=false:=by rw [ByteArray.toList_eq,ByteArray.toList_eq];exact beq_eq_false_iff_ne.2 hk
    rw [if_neg hk] at hstep
    have hlen:(jD kk.data.toList (E.take j)).length<=10000000:=by
     have:=QI kk.data.toList (E.take j);rw [List.length_take] at this;omega
    obtain⟨A,hA⟩:∃A,A=wr.alloc (.cells #[.string key,.int .i64 vk,.int .i64 vn,.int .u64 (vb:Int),.string vs,.slice vpL vnL vcL,.slice vpE vnE vcE] 57):=⟨_,rfl⟩
    have sA:A.heap.size=wr.heap.size+1:=by rw [hA];simp
    have bA:Below wr.heap.size wr A:=by rw [hA];exact(Below.refl _ wr).alloc (Nat.le_refl _) _
    have hbA':Below w.heap.size w A:=hbw.trans (bA.mono sw);have hblk:Blk A wr.heap.size #[.string key,.int .i64 vk,.int .i64 vn,.int .u64 (vb:Int),.string vs,.slice vpL vnL vcL,.slice vpE vnE vcE] 57:=by rw [hA];exact jb _ _ _
    have hyE:jd f y<=10000000:=by
     have:=hnod (ent key.data.toList y) (List.mem_iff_getElem?.2 ⟨j,hy⟩);rwa [jv] at this
    have C:=zk ok f A.drew y _ _ _ _ _ _ (fun b hb=>Nat.lt_of_lt_of_le (hok b hb) hbA'.size) (LiesV.kept (w:=A) (w':=A.drew) (fun _ h=>h) (Nat.le_refl A.heap.size) (fun _ _ _=>rfl) (hly.below hbA')) hyE;have a0:A.drew.cell? ⟨wr.heap.size,0,none⟩=_:=hblk.cell 0 _ rfl
    have a1:A.drew.cell? ⟨wr.heap.size,1,none⟩=_:=hblk.cell 1 _ rfl
    have a2:A.drew.cell? ⟨wr.heap.size,2,none⟩=_:=hblk.cell 2 _ rfl
    have a3:A.drew.cell? ⟨wr.heap.size,3,none⟩=_:=hblk.cell 3 _ rfl
    have a4:A.drew.cell? ⟨wr.heap.size,4,none⟩=_:=hblk.cell 4 _ rfl
    have a5:A.drew.cell? ⟨wr.heap.size,5,none⟩=_:=hblk.cell 5 _ rfl
    have a6:A.drew.cell? ⟨wr.heap.size,6,none⟩=_:=hblk.cell 6 _ rfl
    have z0:=hblk.cell 0 _ rfl;rw [hA] at z0;have HC:=ja C;have HS:=ja hstep;have HA:=ja hA;clear hstep hk hly hA C;go_wp2;rw [<-HA.out]
    refine wpIn_wide.1 (wpIn_region_any (n:=9) (by kernel_rfl) (jcf (fun w1 k n b s pL nL cL pE nE cE=>LiesD f (fun b=>A.heap.size<=b/\b<w1.heap.size) w1 [.int .i64 k,.int .i64 n,.int .u64 (b:Int),.string s,.slice pL nL cL,.slice pE nE cE] y/\Below A.heap.size A w1) rfl rfl rfl rfl rfl rfl rfl rfl rfl rfl (by kernel_rfl) (by kernel_rfl) (by kernel_rfl) (by kernel_rfl) (by kernel_rfl) (by kernel_rfl) (by kernel_rfl) (by kernel_rfl) (by kernel_rfl) (by kernel_rfl) (by kernel_rfl) (by kernel_rfl) (by kernel_rfl) (by kernel_rfl) (by kernel_rfl) (by kernel_rfl) (by kernel_rfl) (by kernel_rfl) (by kernel_rfl) (by kernel_rfl) (by kernel_rfl) (by kernel_rfl) (by kernel_rfl) (by kernel_rfl) (by kernel_rfl) (by kernel_rfl) (by kernel_rfl) (by kernel_rfl) (by kernel_rfl) (by kernel_rfl) a0 a1 a2 a3 a4 a5 a6 ?holeC ?holeD ?holeQ))
    case holeC=>
     refine(callsIn_wide.2 (callsIn_wide.1 HC.out)).mono ?_
     rintro e w1 ⟨⟨x0,x1,x2,x3,x4,x5,rfl,hx⟩,hb1⟩
     obtain⟨k,n,b,s,pL,nL,cL,pE,nE,cE,rfl,rfl,rfl,rfl,rfl,rfl⟩:=hx.lies.form;exact⟨k,n,b,s,pL,nL,cL,pE,nE,cE,rfl,hx,⟨hb1.os,hb1.tape,hb1.output,hb1.size,hb1.block⟩⟩
    case holeD=>
     rintro w1 k n b s pL nL cL pE nE cE ⟨_,hb1⟩
     exact(hb1.cell (p:=⟨wr.heap.size,0,none⟩) (by simp only;omega)).trans a0
    case holeQ=>
     rintro w1 k n b s pL nL cL pE nE cE ⟨hx,hb1⟩
     have s1:=hb1.size;have bB:Below wr.heap.size wr (w1.alloc (.cells #[.string key,.int .i64 k,.int .i64 n,.int .u64 (b:Int),.string s,.slice pL nL cL,.slice pE nE cE] 57)):=(bA.trans (hb1.mono (by omega))).alloc (by omega) _;obtain⟨P0,hO0⟩:=hacc.out;obtain⟨rows,how,hrows,hPP⟩:=hO0.still bB;obtain⟨rows0,how0,_,hPP0⟩:=hO0;obtain⟨v',w2,hrun,hown',hgrow,_,hat⟩:=run_append_own_at (P:=Tryd.prog) (w1.alloc (.cells #[.string key,.int .i64 k,.int .i64 n,.int .u64 (b:Int),.string s,.slice pL nL cL,.slice pE nE cE] 57)) w.heap.size 24 24 57 i0 _ 7 104 Tryd.underlying24 hi hz0 hz1 hz2 rfl (by decide) u5 _ _ how ⟨w1.heap.size,0,none⟩ 1 1 [.string key,.int .i64 k,.int .i64 n,.int .u64 (b:Int),.string s,.slice pL nL cL,.slice pE nE cE] rfl (Qt _ _ _ _ _ _ _ _ _) (jbd hx.ones) (by unfold maxLen;omega) (by omega) (by simp;omega);refine⟨v',w2,hrun,?_⟩;have hb2:=hbw.trans (bB.mono sw)
     have hL:=hx.same (w':=w1.alloc (.cells #[.string key,.int .i64 k,.int .i64 n,.int .u64 (b:Int),.string s,.slice pL nL cL,.slice pE nE cE] 57)) (fun b _ hlt=>Below.heap_alloc _ _ _ hlt)
     have OW:=OwnD.put (k:=(jD kk.data.toList (E.take j)).length) hrows hPP hL (fun b hb=>⟨⟨by omega,by simp;omega,fun e=>by
      have h1:=how0.lt b e.symm;omega⟩,fun hp=>by
      have:=(hPP0 b hp).2.1;omega⟩) hks (Nat.le_refl _) (by
      have e1:rows.take (jD kk.data.toList (E.take j)).length=rows:=List.take_of_length_le (by rw [hrows.1];exact Nat.le_refl _);have e2:rows.drop (jD kk.data.toList (E.take j)).length=[]:=List.drop_of_length_le (by rw [hrows.1];exact Nat.le_refl _);rw [e1,e2,List.flatten_nil,List.append_nil];exact hown') hgrow hat
     rw [List.take_length,List.drop_length] at OW;rw [<-HS.out] at OW;have hb3:Below w.heap.size w w2:=hb2.grown hgrow hb2.size (fun k hk=>(how.lt k hk).1);have HO:Hid (∃P,OwnD w.heap.size P f w2 v' (jD kk.data.toList (E.take (j+1)))):=ja ⟨_,OW⟩;clear OW hL hgrow hown' how hat hb2 bB hrows hPP hPP0 hrun how0;go_wp2;go_roundw
     case rel=>exact⟨j+1,by congr 1,by omega,HO,hb3⟩
     case measure=>simp only [intOf];omega
  ·have g0:¬(j:Int)<(E.length:Int):=by omega
   have hjE:j=E.length:=by omega
   have HA:Hid (∃P,OwnD w.heap.size P f wr u5 (jD kk.data.toList E)):=ja (by have:=hacc.out;rwa [hjE,List.take_length] at this);clear hacc hjE;go_wp2;go_ret;exact⟨_,rfl,HA.out,hbw⟩
end valus
end Go.Proofs.YtadaehaemmelfaaDoor
