/- Of our texts, what this claim reaches. -/
import Derived.Test.YtadaehaemmelfaaDoorPubAY
set_option linter.unusedVariables false
set_option maxHeartbeats 16000000
set_option maxRecDepth 100000
set_option linter.unusedSimpArgs false
namespace Go.Proofs.YtadaehaemmelfaaDoor
namespace upds
open Go.RowKit Go.Shelf
open valus
open paths (St)
theorem Xw {n0 B o f:Nat}{W:World}{S:Nat->Prop}{t:V}(h:Here n0 W B o S f t)(hnt:Few 1000000 t)(Bs Bk Bw:Nat)(xk key:ByteArray)(hk:key.size<=maxLen)(hs:Blk W Bs #[.string xk,.int .i64 (-1)] 60)(hkb:Blk W Bk #[.string key] 9)(g:Nat)(y:V)(a0 a1 a2 a3 a4 a5:Value)(hwb:Blk W Bw #[a0,a1,a2,a3,a4,a5] 26)(hl:LiesV (fun b=>b<W.heap.size) g W [a0,a1,a2,a3,a4,a5] y)(hn:Few 1000000 y)(heq:key.data.toList=xk.data.toList) :
  Calls Tryd.prog 101 #[.pointer (some ⟨B,o,none⟩),.pointer (some ⟨Bs,0,none⟩),.pointer (some ⟨Bk,0,none⟩),.pointer (some ⟨Bw,0,none⟩)] W (ByP W B o S (zo xk.data.toList key.data.toList y t)):=by
 obtain⟨ak,an,ab,az,apL,anL,acL,apE,anE,acE,rfl,rfl,rfl,rfl,rfl,rfl⟩:=hl.form;obtain⟨k,n,b,s,L,E,pL,pE,cL,cE,SL,SE,cur,ty,f',rfl,rfl,hB,hc,h3,h4,hL,hE,hd,hi,g5,g6,g7⟩:=Here.apart h;have hlt:=(Array.getElem?_eq_some_iff.1 hB).1;have c5:W.cell? ⟨B,o+5,none⟩=some (.slice pE E.length cE):=ji hB (hc 5 (by omega))
 have s0:W.cell? ⟨Bs,0,none⟩=some (.string xk):=hs.cell 0 _ rfl
 have s1:W.cell? ⟨Bs,1,none⟩=some (.int .i64 (-1)):=hs.cell 1 _ rfl
 have k0:W.cell? ⟨Bk,0,none⟩=some (.string key):=hkb.cell 0 _ rfl
 have ea:zo xk.data.toList key.data.toList y (mkV (k,n,b,s.data.toList) L E)=(0,mkV (k,n,b,s.data.toList) L (qx key.data.toList y (jD key.data.toList (jD xk.data.toList E)))):=by
  unfold zo;rw [if_neg (fun h=>h.1 heq)];rfl
 have hs2:(key.toList == xk.toList)=true:=by rw [ByteArray.toList_eq,ByteArray.toList_eq];exact beq_iff_eq.2 heq
 obtain⟨R2,hR2⟩:∃R2,R2=mkV (k,n,b,s.data.toList) L (qx key.data.toList y (jD key.data.toList (jD xk.data.toList E))):=⟨_,rfl⟩
 have K:=ja fun WD (bD:Below W.heap.size W WD)=>QA (Bk:=Bk) (Bw:=Bw) (g:=g) hB hc h3 h4 hL hE hi g6 g7 hnt xk key hk y ak an ab az apL anL acL apE anE acE hkb hwb hl hn WD bD
 rw [<-hR2] at ea K;have HE:=ja ea;have w0:W.cell? ⟨Bw,0,none⟩=some (.int .i64 ak):=hwb.cell 0 _ rfl
 have w1:W.cell? ⟨Bw,1,none⟩=some (.int .i64 an):=hwb.cell 1 _ rfl
 have w2:W.cell? ⟨Bw,2,none⟩=some (.int .u64 (ab:Int)):=hwb.cell 2 _ rfl
 have w3:W.cell? ⟨Bw,3,none⟩=some (.string az):=hwb.cell 3 _ rfl
 have w4:W.cell? ⟨Bw,4,none⟩=some (.slice apL anL acL):=hwb.cell 4 _ rfl
 have w5:W.cell? ⟨Bw,5,none⟩=some (.slice apE anE acE):=hwb.cell 5 _ rfl
 have q0:W.drew.cell? ⟨Bs,0,none⟩=some (.string xk):=s0
 have q1:W.drew.cell? ⟨Bk,0,none⟩=some (.string key):=k0
 have q5:W.drew.cell? ⟨B,o+5,none⟩=some (.slice pE E.length cE):=c5
 have e0:∀n,(W.drewN n).drew.cell? ⟨Bs,0,none⟩=some (.string xk):=fun _=>s0
 have e1:∀n,(W.drewN n).drew.cell? ⟨Bk,0,none⟩=some (.string key):=fun _=>k0
 have e2:∀n,(W.drewN n).drew.cell? ⟨B,o+5,none⟩=some (.slice pE E.length cE):=fun _=>c5
 have f0:∀n,(W.drewN n).drew.cell? ⟨Bw,0,none⟩=some (.int .i64 ak):=fun _=>w0
 have f1:∀n,(W.drewN n).drew.cell? ⟨Bw,1,none⟩=some (.int .i64 an):=fun _=>w1
 have f2:∀n,(W.drewN n).drew.cell? ⟨Bw,2,none⟩=some (.int .u64 (ab:Int)):=fun _=>w2
 have f3:∀n,(W.drewN n).drew.cell? ⟨Bw,3,none⟩=some (.string az):=fun _=>w3
 have f4:∀n,(W.drewN n).drew.cell? ⟨Bw,4,none⟩=some (.slice apL anL acL):=fun _=>w4
 have f5:∀n,(W.drewN n).drew.cell? ⟨Bw,5,none⟩=some (.slice apE anE acE):=fun _=>w5
 have e0d:∀n,(W.drewN n).cell? ⟨Bs,0,none⟩=some (.string xk):=fun _=>s0
 have e1d:∀n,(W.drewN n).cell? ⟨Bk,0,none⟩=some (.string key):=fun _=>k0
 have e2d:∀n,(W.drewN n).cell? ⟨B,o+5,none⟩=some (.slice pE E.length cE):=fun _=>c5
 have f0d:∀n,(W.drewN n).cell? ⟨Bw,0,none⟩=some (.int .i64 ak):=fun _=>w0
 have f1d:∀n,(W.drewN n).cell? ⟨Bw,1,none⟩=some (.int .i64 an):=fun _=>w1
 have f2d:∀n,(W.drewN n).cell? ⟨Bw,2,none⟩=some (.int .u64 (ab:Int)):=fun _=>w2
 have f3d:∀n,(W.drewN n).cell? ⟨Bw,3,none⟩=some (.string az):=fun _=>w3
 have f4d:∀n,(W.drewN n).cell? ⟨Bw,4,none⟩=some (.slice apL anL acL):=fun _=>w4
 have f5d:∀n,(W.drewN n).cell? ⟨Bw,5,none⟩=some (.slice apE anE acE):=fun _=>w5
 clear ea hc hL hE hd hi g7 g6 g5 h4 h3 h hl hs hkb hwb hR2 w0 w1 w2 w3 w4 w5 hn hnt hk hB hlt heq
 go_enter Tryd.func101,Tryd.ntmps101
 go_upto_region 3 with fail
 go_quiet (fail)
 go_upto_region 5 with fail
 clear s0 s1 k0 c5 q0 q1 q5 hs2
 go_region_with (first
  | (go_at_call 99;refine((K.out _ (_root_.Go.below_drewN (Below.refl _ _) _).drew).1).mono ?_;rintro e x1 ⟨p,c,rfl,hP⟩;have y0:=hP.k;have y1:=hP.v0;have y2:=hP.v1;have y3:=hP.v2;have y4:=hP.v3;have y5:=hP.v4;have y6:=hP.v5;have KQ:=ja ((K.out _ (_root_.Go.below_drewN (Below.refl _ _) _).drew).2 p c x1 hP);clear hP)
  | (go_at_call 102;refine(jc KQ).mono ?_;rintro e x2 ⟨p2,c2,nn,rfl,G0,G1,hF⟩;have HF:=ja hF;clear hF))
 all_goals
  go_wp2;go_ret;rw [HE.out];exact HF.out
end upds
end Go.Proofs.YtadaehaemmelfaaDoor
