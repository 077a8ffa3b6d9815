/- Of our texts, what this claim reaches. -/
import Derived.Test.YtnbfnjhbmeocfaaGreatDoorPmtAD
import Derived.Test.YtnbfnjhbmeocfaaGreatDoorPmtAE
import Derived.Test.YtnbfnjhbmeocfaaGreatDoorPmtAA
import Derived.Deep.QuietTactic
import Derived.BigQuiet
import Derived.BigRegion
set_option linter.unusedVariables false
set_option maxHeartbeats 4000000
set_option maxRecDepth 100000
namespace Go.Proofs.YtnbfnjhbmeocfaaGreatDoor
namespace valus
open Go.RowKit Go.Shelf
def TokAt (w:World)(a:Option Addr)(l:List toks.Tk)(R:Nat):Prop :=
 l≠[]->∃b o,a=some ⟨b,o,none⟩/\b<R/\∀j (h:j<l.length),w.cell? ⟨b,o+j*3,none⟩=some (.int .i64 (l[j].kind:Int))/\w.cell? ⟨b,o+j*3+1,none⟩=some (.int .i64 (l[j].fro:Int))/\w.cell? ⟨b,o+j*3+2,none⟩=some (.int .i64 (l[j].til:Int))
theorem TokAt.kept {w w':World}{a:Option Addr}{l:List toks.Tk}{R:Nat}(h:TokAt w a l R)(hb:∀b,b<R->w'.heap[b]?=w.heap[b]?):TokAt w' a l R:=fun hl=>by
 obtain⟨b,o,e1,e2,e3⟩:=h hl;refine⟨b,o,e1,e2,fun j hj=>?_⟩;obtain⟨c0,c1,c2⟩:=e3 j hj;exact⟨(World.cell?_of_block (a:=⟨b,o+j*3,none⟩) (hb b e2)).trans c0,(World.cell?_of_block (a:=⟨b,o+j*3+1,none⟩) (hb b e2)).trans c1,(World.cell?_of_block (a:=⟨b,o+j*3+2,none⟩) (hb b e2)).trans c2⟩
def MRd (w:World)(R:Nat)(s:ByteArray)(l:List toks.Tk)(pl er:Int):Prop :=
 ∃a cap,Blk w R #[.string s,.slice a l.length cap,.int .i64 pl,.int .i64 er] 63/\l.length<=cap/\l.length<=1000000/\TokAt w a l R
theorem MRd.lt {w:World}{R:Nat}{s:ByteArray}{l:List toks.Tk}{pl er:Int}(h:MRd w R s l pl er):R<w.heap.size:=by
 obtain⟨a,cap,hb,_⟩:=h;exact hb.lt
theorem MRd.later {w w':World}{R:Nat}{s:ByteArray}{l:List toks.Tk}{pl er:Int}(h:MRd w R s l pl er)(hb:Below w.heap.size w w'):MRd w' R s l pl er:=by
 have hl:=h.lt;obtain⟨a,cap,h1,h2,h3,h4⟩:=h;exact⟨a,cap,(hb.block R hl).trans h1,h2,h3,h4.kept (fun b hlt=>hb.block b (by omega))⟩
theorem zq (w:World)(R:Nat)(s:ByteArray)(l:List toks.Tk)(pl er:Int)(h:MRd w R s l pl er)(k e:Int)(j:Nat)(hj:j<l.length)(p:Option Addr)(n c:Nat) :
  Calls Tryz.prog 179 #[.pointer (some ⟨R,0,none⟩),.agg #[.int .i64 k,.int .i64 (j:Int),.int .i64 e,.slice p n c]] w fun e w'=>e=.returned (.bool (decide (l[j].kind=4)))/\Below w.heap.size w w':=by
 have b1:Below w.heap.size w (w.alloc (.cells #[.int .i64 k,.int .i64 (j:Int),.int .i64 e,.slice p n c] 59)):=(Below.refl _ w).alloc (Nat.le_refl _) _;have hn:=jf w #[.int .i64 k,.int .i64 (j:Int),.int .i64 e,.slice p n c] 59;have h1:=h.later b1;obtain⟨a,cap,g1,g2,g3,g4⟩:=h1;obtain⟨b,o,rfl,e2,e3⟩:=g4 (fun e=>by rw [e] at hj;cases hj);obtain⟨t0,_,_⟩:=e3 j hj;obtain⟨K,hK⟩:∃K:Int,K=(l[j].kind:Int):=⟨_,rfl⟩
 rw [<-hK] at t0;have r1:=g1.cell 1 _ rfl;have n1:=hn.cell 1 _ rfl;have hjI:(j:Int)<(l.length:Int):=by omega
 have hl63:(l.length:Int)<=1000000:=by omega
 obtain⟨r,hr⟩:∃r,r=decide (l[j].kind=4):=⟨_,rfl⟩
 rw [<-hr]
 have hq:(K == 4)=r:=by
  rw [hr,hK]
  by_cases h4:l[j].kind=4
  ·rw [decide_eq_true h4,h4]
   rfl
  ·rw [decide_eq_false h4]
   exact beq_false_of_ne (by omega)
 have HB:=jd b1;simp only [List.getElem_toArray,List.getElem_cons_zero,List.getElem_cons_succ] at r1 n1;clear g1 g2 g3 g4 e3 e2 hn h b1 hK hr
 go_enter Tryz.func179,Tryz.ntmps179
 go_upto_region 1 with fail
 go_quiet (fail)
 go_wp2;go_ret;exact⟨rfl,below_drewN HB.out _⟩
theorem jkT (s:ByteArray)(a b:Nat)(x y:Int)(hx:x=(a:Int))(hy:y=(b:Int))(h1:a<=b)(h2:b<=s.size)(W:World):(Instr.slice 9 (.string s) (some (.int .i64 x)) (some (.int .i64 y)) none).run Tryz.prog W=.ok (.string (s.extract a b)) W:=by
 subst hx;subst hy;rw [run_slice_string W 9 s .i64 .i64 (a:Int) (b:Int) Tryz.underlying9 (by omega) (by omega) (by omega)];simp
theorem zo (w:World)(R:Nat)(s:ByteArray)(l:List toks.Tk)(pl er:Int)(h:MRd w R s l pl er)(k e:Int)(j:Nat)(hj:j<l.length)(hft:l[j].fro<=l[j].til/\l[j].til<=s.size)(p:Option Addr)(n c:Nat) :
  Calls Tryz.prog 180 #[.pointer (some ⟨R,0,none⟩),.agg #[.int .i64 k,.int .i64 (j:Int),.int .i64 e,.slice p n c]] w fun e w'=>e=.returned (.string (s.extract l[j].fro l[j].til))/\Below w.heap.size w w':=by
 have b1:Below w.heap.size w (w.alloc (.cells #[.int .i64 k,.int .i64 (j:Int),.int .i64 e,.slice p n c] 59)):=(Below.refl _ w).alloc (Nat.le_refl _) _;have hn:=jf w #[.int .i64 k,.int .i64 (j:Int),.int .i64 e,.slice p n c] 59;have h1:=h.later b1;obtain⟨a,cap,g1,g2,g3,g4⟩:=h1;obtain⟨b,o,rfl,e2,e3⟩:=g4 (fun e=>by rw [e] at hj;cases hj);obtain⟨t0,t1,t2⟩:=e3 j hj;obtain⟨K,hK⟩:∃K:Int,K=(l[j].kind:Int):=⟨_,rfl⟩
 obtain⟨A,hA⟩:∃A:Int,A=(l[j].fro:Int):=⟨_,rfl⟩
 obtain⟨B,hB⟩:∃B:Int,B=(l[j].til:Int):=⟨_,rfl⟩
 have sl:=jkT s l[j].fro l[j].til A B hA hB hft.1 hft.2;rw [<-hK] at t0;rw [<-hA] at t1;rw [<-hB] at t2;obtain⟨sx,hsx⟩:∃sx,sx=s.extract l[j].fro l[j].til:=⟨_,rfl⟩
 rw [<-hsx] at sl ⊢;have r0:=g1.cell 0 _ rfl;have r1:=g1.cell 1 _ rfl;have n1:=hn.cell 1 _ rfl;have hjI:(j:Int)<(l.length:Int):=by omega
 have hl63:(l.length:Int)<=1000000:=by omega
 have HB:=jd b1;have hRl:=g1.lt;simp only [List.getElem_toArray,List.getElem_cons_zero,List.getElem_cons_succ] at r0 r1 n1;obtain⟨W,hW⟩:∃W,W=w.alloc (.cells #[.int .i64 k,.int .i64 (j:Int),.int .i64 e,.slice p n c] 59):=⟨_,rfl⟩
 rw [<-hW] at g1 r0 r1 n1 t0 t1 t2 HB;have sW:W.heap.size=w.heap.size+1:=by rw [hW];simp
 have HG:=jd g1;clear g2 g3 g4 e3 e2 hn h b1 hK hA hB hsx g1 hft hRl
 go_enter Tryz.func180,Tryz.ntmps180
 go_upto_region 1 with fail
 rw [<-hW];have bn:Below W.heap.size W (W.alloc (.cells #[.int .i64 0,.int .i64 0,.int .i64 0] 39)):=(Below.refl _ W).alloc (Nat.le_refl _) _;have lR:=World.block_lt_of_cell? W _ r1
 have lN:=World.block_lt_of_cell? W _ n1
 have lT:=World.block_lt_of_cell? W _ t0
 have r1':=(bn.cell (p:=⟨R,1,none⟩) lR).trans r1;have n1':=(bn.cell (p:=⟨w.heap.size,1,none⟩) lN).trans n1;have t0':=(bn.cell (p:=⟨b,o+j*3,none⟩) lT).trans t0;have t1':=(bn.cell (p:=⟨b,o+j*3+1,none⟩) lT).trans t1;have t2':=(bn.cell (p:=⟨b,o+j*3+2,none⟩) lT).trans t2;have zb:=jf W #[.int .i64 0,.int .i64 0,.int .i64 0] 39;have z0:=Blk.cell zb 0 _ rfl;have z1:=Blk.cell zb 1 _ rfl;have z2:=Blk.cell zb 2 _ rfl;have y0:=Blk.froz zb 0;have y1:=Blk.froz zb 1;have y2:=Blk.froz zb 2;clear bn zb sW lR lN lT hW;have b2:Below W.heap.size W (W.alloc (.cells #[.int .i64 K,.int .i64 A,.int .i64 B] 39)).drew:=((Below.refl _ W).alloc (Nat.le_refl _) _).drew;have lR2:=World.block_lt_of_cell? W _ r0
 have q0:=(b2.cell (p:=⟨R,0,none⟩) lR2).trans r0;have tb:Blk (W.alloc (.cells #[.int .i64 K,.int .i64 A,.int .i64 B] 39)).drew W.heap.size #[.int .i64 K,.int .i64 A,.int .i64 B] 39:=jf W _ _;have HB2:=jd (HB.out.trans (b2.mono HB.out.size));have HQ:=jd (And.intro q0 tb);clear b2 lR2 q0 tb
 go_region
 clear r1' n1' t0' t1' t2' z0 z1 z2 y0 y1 y2 r0 r1 n1 t0 t1 t2;obtain⟨q0,tb⟩:=HQ.out;generalize (W.alloc (.cells #[.int .i64 K,.int .i64 A,.int .i64 B] 39)).drew=X at *;obtain⟨D,hD⟩:∃D,D=W.heap.size:=⟨_,rfl⟩
 rw [<-hD] at tb ⊢;have q1:=tb.cell 1 _ rfl;have q2:=tb.cell 2 _ rfl;simp only [List.getElem_toArray,List.getElem_cons_zero,List.getElem_cons_succ] at q1 q2;clear hD HQ tb
 go_upto_region 2 with fail
 go_quiet (fail)
 go_wp2;go_ret;exact⟨rfl,below_drewN HB2.out _⟩
end valus
end Go.Proofs.YtnbfnjhbmeocfaaGreatDoor
