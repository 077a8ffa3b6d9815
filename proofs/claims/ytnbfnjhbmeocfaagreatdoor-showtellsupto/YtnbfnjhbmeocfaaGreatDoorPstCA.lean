/- Of our texts, what this claim reaches. -/
import Derived.Test.YtnbfnjhbmeocfaaGreatDoorPstBX
import Derived.Test.YtnbfnjhbmeocfaaGreatDoorPstBZ
import Derived.Test.YtnbfnjhbmeocfaaGreatDoorPstBV
set_option linter.unusedVariables false
set_option maxHeartbeats 8000000
set_option maxRecDepth 100000
namespace Go.Proofs.YtnbfnjhbmeocfaaGreatDoor
namespace valus
open Go.RowKit Go.Shelf
open bigs (jv)
theorem jbW (f:Nat)(w:World)(t:V)(a0 a1 a2 a3 a4 a5:Value)(hl:LiesV (fun b=>b<w.heap.size) f w [a0,a1,a2,a3,a4,a5] t)(hn:jB f t<=10000000)(hT:ShowTabs w) :
  Calls Tryz.prog 8 #[.agg #[a0,a1,a2,a3,a4,a5]] w fun e w'=>e=.returned (.bool true)/\Below w.heap.size w w':=by
 obtain⟨k,n,b,s,pL,nL,cL,pE,nE,cE,rfl,rfl,rfl,rfl,rfl,rfl⟩:=hl.form;obtain⟨F,hF⟩:=jeE w hT;have bV:Below w.heap.size w (w.alloc (.cells #[.int .i64 k,.int .i64 n,.int .u64 (b:Int),.string s,.slice pL nL cL,.slice pE nE cE] 26)):=(Below.refl _ w).alloc (Nat.le_refl _) _;have hX:=jd w #[.int .i64 k,.int .i64 n,.int .u64 (b:Int),.string s,.slice pL nL cL,.slice pE nE cE] 26;obtain⟨W,hW⟩:∃W,W=w.alloc (.cells #[.int .i64 k,.int .i64 n,.int .u64 (b:Int),.string s,.slice pL nL cL,.slice pE nE cE] 26):=⟨_,rfl⟩
 have hsz:w.heap.size<W.heap.size:=by rw [hW];simp
 rw [<-hW] at bV hX;have low:∀w1,Below W.heap.size W w1->Below w.heap.size w w1:=fun w1 h1=>bV.trans (h1.mono (Nat.le_of_lt hsz))
 have later:∀w1,Below W.heap.size W w1->LiesV (fun q=>q<w1.heap.size) f w1 [.int .i64 k,.int .i64 n,.int .u64 (b:Int),.string s,.slice pL nL cL,.slice pE nE cE] t:=fun w1 h1=>hl.kept (fun q hq=>Nat.lt_of_lt_of_le hq (low w1 h1).size) (low w1 h1).size (fun q hq _=>(low w1 h1).block q hq)
 have DD:Hid (∀w1,Below W.heap.size W w1->w1.cell? ⟨w.heap.size,0,none⟩=some (.int .i64 k)/\w1.cell? ⟨w.heap.size,1,none⟩=some (.int .i64 n)/\w1.cell? ⟨w.heap.size,2,none⟩=some (.int .u64 (b:Int))/\w1.cell? ⟨w.heap.size,3,none⟩=some (.string s)/\w1.cell? ⟨w.heap.size,4,none⟩=some (.slice pL nL cL)/\w1.cell? ⟨w.heap.size,5,none⟩=some (.slice pE nE cE)):=jb fun w1 h1=>
  have X:=hX.below' h1 hsz
  ⟨X.cell 0 _ rfl,X.cell 1 _ rfl,X.cell 2 _ rfl,X.cell 3 _ rfl,X.cell 4 _ rfl,X.cell 5 _ rfl⟩
 obtain⟨T1,hT1⟩:∃T1,T1=Jy F false t:=⟨_,rfl⟩
 obtain⟨T2,hT2⟩:∃T2,T2=Jy F true t:=⟨_,rfl⟩
 obtain⟨er,her⟩:∃er,er=jC jR t:=⟨_,rfl⟩
 have nx:∀{w1 w2:World},Below W.heap.size W w1->Below w1.heap.size w1 w2->Below W.heap.size W w2:=fun h1 h2=>h1.trans (h2.mono h1.size)
 have K1:Hid (∀w1,Below W.heap.size W w1->Calls Tryz.prog 20 #[.agg #[.int .i64 k,.int .i64 n,.int .u64 (b:Int),.string s,.slice pL nL cL,.slice pE nE cE]] w1 fun e w'=>e=.returned (.tuple #[.string ⟨T1.toArray⟩,.int .i64 er])/\Below W.heap.size W w'):=jb fun w1 h1=>by
  rw [hT1,her];exact(jfu f hF w1 k n b s pL nL cL pE nE cE t (hT.below (low w1 h1)) (later w1 h1) hn).mono fun e w2 h=>⟨h.1,nx h1 h.2⟩
 have K2:Hid (∀w1,Below W.heap.size W w1->Calls Tryz.prog 21 #[.agg #[.int .i64 k,.int .i64 n,.int .u64 (b:Int),.string s,.slice pL nL cL,.slice pE nE cE]] w1 fun e w'=>e=.returned (.tuple #[.string ⟨T2.toArray⟩,.int .i64 er])/\Below W.heap.size W w'):=jb fun w1 h1=>by
  rw [hT2,her];exact(jft f hF w1 k n b s pL nL cL pE nE cE t (hT.below (low w1 h1)) (later w1 h1) hn).mono fun e w2 h=>⟨h.1,nx h1 h.2⟩
 have K3:Hid (∀w1,Below W.heap.size W w1->Calls Tryz.prog 22 #[.agg #[.int .i64 k,.int .i64 n,.int .u64 (b:Int),.string s,.slice pL nL cL,.slice pE nE cE]] w1 fun e w'=>e=.returned (.int .i64 er)/\Below W.heap.size W w'):=jb fun w1 h1=>by
  rw [her];exact(jfK f w1 t _ _ _ _ _ _ (later w1 h1) hn).mono fun e w2 h=>⟨h.1,nx h1 h.2⟩
 have g0:=Below.refl W.heap.size W;obtain⟨x0,x1,x2,x3,x4,x5⟩:=DD.out W g0;have G0:=jb g0;have FIN:=jb low
 by_cases h0:er=0
 ·have hz:jC jR t=0:=by rw [<-her];exact h0
  obtain⟨hfit,hl20⟩:=jjO hl hz;rw [XL F false hz] at hT1;rw [XL F true hz] at hT2;have hlen2:=zx hF true 20 0 t hfit.i hfit.g hz (by omega);have hnod:=(JR hfit.i hz).2;obtain⟨U,hU⟩:∃U,U=ji F true 20 0 t:=⟨_,rfl⟩
  have e1:T1=ji F false 20 0 t:=by rw [hT1];unfold Ym;simp
  have e2:T2=U++[10]:=by rw [hT2,hU];unfold Ym;simp
  rw [<-hU] at hlen2;have c1:∀u,(Op.stringOp .add ⟨U.toArray⟩ ⟨#[10]⟩).run Tryz.prog u=.ok (.string ⟨T2.toArray⟩) u:=fun u=>by rw [e2];exact bigs.jg U [10] (by simp only [List.length_cons,List.length_nil];omega) u
  have later2:∀w1,Below W.heap.size W w1->LiesV (fun q=>q<w1.heap.size) 20 w1 [.int .i64 k,.int .i64 n,.int .u64 (b:Int),.string s,.slice pL nL cL,.slice pE nE cE] t:=fun w1 h1=>hl20.kept (fun q hq=>Nat.lt_of_lt_of_le hq (low w1 h1).size) (low w1 h1).size (fun q hq _=>(low w1 h1).block q hq)
  have i0:((0:Nat):Int)=0:=rfl
  have K4:Hid (∀w1,Below W.heap.size W w1->Calls Tryz.prog 23 #[.agg #[.int .i64 k,.int .i64 n,.int .u64 (b:Int),.string s,.slice pL nL cL,.slice pE nE cE],.bool false,.int .i64 0] w1 fun e w'=>e=.returned (.string ⟨T1.toArray⟩)/\Below W.heap.size W w'):=jb fun w1 h1=>by
   have K:=(XR hF false 20 w1 0 k n b s pL nL cL pE nE cE t (later2 w1 h1) ⟨hfit.i,hfit.g,hz,hnod⟩ (by omega)).mono fun e w2 h=>(⟨h.1,nx h1 h.2⟩:_/\Below W.heap.size W w2)
   rw [<-e1,i0] at K;exact K
  have K5:Hid (∀w1,Below W.heap.size W w1->Calls Tryz.prog 23 #[.agg #[.int .i64 k,.int .i64 n,.int .u64 (b:Int),.string s,.slice pL nL cL,.slice pE nE cE],.bool true,.int .i64 0] w1 fun e w'=>e=.returned (.string ⟨U.toArray⟩)/\Below W.heap.size W w'):=jb fun w1 h1=>by
   have K:=(XR hF true 20 w1 0 k n b s pL nL cL pE nE cE t (later2 w1 h1) ⟨hfit.i,hfit.g,hz,hnod⟩ (by omega)).mono fun e w2 h=>(⟨h.1,nx h1 h.2⟩:_/\Below W.heap.size W w2)
   rw [<-hU,i0] at K;exact K
  clear hl hn hF hT1 hT2 her later low bV hX hlen2 hnod hU e1 e2 later2 hl20 hfit hz hT nx hsz g0 i0;obtain⟨S1,hS1⟩:∃S1:ByteArray,S1=⟨T1.toArray⟩:=⟨_,rfl⟩
  obtain⟨S2,hS2⟩:∃S2:ByteArray,S2=⟨T2.toArray⟩:=⟨_,rfl⟩
  obtain⟨S3,hS3⟩:∃S3:ByteArray,S3=⟨U.toArray⟩:=⟨_,rfl⟩
  rw [<-hS1] at K1 K4;rw [<-hS2] at K2 c1;rw [<-hS3] at K5 c1;clear hS1 hS2 hS3;subst h0;have q1:(S1.toList == S1.toList)=true:=beq_self_eq_true _;have q2:(S2.toList == S2.toList)=true:=beq_self_eq_true _;have mixed:Tryz.prog.follows Departure.mixedOrders=true:=by kernel_rfl
  go_enter Tryz.func8,Tryz.ntmps8
  go_upto_region 1 with fail
  rw [<-hW];clear hW
  go_wp2_with (first
   | (go_at_call 20;refine(ja K1 _ G0.out).mono ?_;rintro e w1 ⟨rfl,g1⟩;obtain⟨y0,y1,y2,y3,y4,y5⟩:=ja DD w1 g1;have G1:=jb g1;clear g1)
   | (go_at_call 21;refine(ja K2 _ G1.out).mono ?_;rintro e w2 ⟨rfl,g2⟩;obtain⟨z0,z1,z2,z3,z4,z5⟩:=ja DD w2 g2;have G2:=jb g2;clear g2)
   | (go_at_call 22;refine(ja K3 _ G2.out).mono ?_;rintro e w3 ⟨rfl,g3⟩;obtain⟨u0,u1,u2,u3,u4,u5⟩:=ja DD w3 g3;have G3:=jb g3;clear g3)
   | (go_at_call 23;refine(ja K4 _ G3.out).mono ?_;rintro e w4 ⟨rfl,g4⟩;obtain⟨v0,v1,v2,v3,v4,v5⟩:=ja DD w4 g4;have G4:=jb g4;clear g4 K4)
   | (go_at_call 23;refine(ja K5 _ G4.out).mono ?_;rintro e w5 ⟨rfl,g5⟩;have G5:=jb g5;clear g5))
  go_ret;exact⟨rfl,FIN.out _ G5.out⟩
 ·have hz:jC jR t≠0:=by rw [<-her];exact h0
  rw [jac F false hz] at hT1;rw [jac F true hz] at hT2;subst hT1 hT2;have q1:(er == er)=true:=beq_self_eq_true _;have n1:(er != 0)=true:=bne_iff_ne.2 h0;have mixed:Tryz.prog.follows Departure.mixedOrders=true:=by kernel_rfl
  clear hl hn hF her later low bV hX hz hT nx hsz g0
  go_enter Tryz.func8,Tryz.ntmps8
  go_upto_region 1 with fail
  rw [<-hW];clear hW
  go_wp2_with (first
   | (go_at_call 20;refine(ja K1 _ G0.out).mono ?_;rintro e w1 ⟨rfl,g1⟩;obtain⟨y0,y1,y2,y3,y4,y5⟩:=ja DD w1 g1;have G1:=jb g1;clear g1)
   | (go_at_call 21;refine(ja K2 _ G1.out).mono ?_;rintro e w2 ⟨rfl,g2⟩;obtain⟨z0,z1,z2,z3,z4,z5⟩:=ja DD w2 g2;have G2:=jb g2;clear g2)
   | (go_at_call 22;refine(ja K3 _ G2.out).mono ?_;rintro e w3 ⟨rfl,g3⟩;obtain⟨u0,u1,u2,u3,u4,u5⟩:=ja DD w3 g3;have G3:=jb g3;clear g3))
  go_ret;exact⟨rfl,FIN.out _ G3.out⟩
end valus
end Go.Proofs.YtnbfnjhbmeocfaaGreatDoor
