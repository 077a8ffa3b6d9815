/- Of our texts, what this claim reaches. -/
import Derived.Test.YtadaehaemmelfaaDoorPubBY
import Derived.Test.YtadaehaemmelfaaDoorPubAS
import Derived.Deep.DrawnRows
set_option linter.unusedVariables false
set_option maxHeartbeats 16000000
set_option maxRecDepth 100000
set_option linter.unusedSimpArgs false
namespace Go.Proofs.YtadaehaemmelfaaDoor
namespace upds
open Go.RowKit Go.Shelf
open valus
open paths (St LiesP jt jq jf je)
theorem Qz (w:World)(b q:Nat)(hq:q≠b)(u0 u1 u2 u3 u4 u5 u6 u7 u8:Value):(qG w b u0 u1 u2 u3 u4 u5 u6 u7 u8).heap[q]?=w.heap[q]?:=by
 simp only [qG];rw [Below.heap_setCell _ _ _ _ hq,Below.heap_setCell _ _ _ _ hq,Below.heap_setCell _ _ _ _ hq,Below.heap_setCell _ _ _ _ hq,Below.heap_setCell _ _ _ _ hq,Below.heap_setCell _ _ _ _ hq,Below.heap_setCell _ _ _ _ hq,Below.heap_setCell _ _ _ _ hq,Below.heap_setCell _ _ _ _ hq]
theorem Jk (w:World)(b:Nat)(u0 u1 u2 u3 u4 u5 u6 u7 u8:Value):(qG w b u0 u1 u2 u3 u4 u5 u6 u7 u8).heap.size=w.heap.size:=by simp [qG,World.setCell]
theorem qg {w:World}{p:Option Addr}{P:List St}(h:LiesP w p P){b:Nat}(hb:P.length≠0->∀B o,p=some ⟨B,o,none⟩->B≠b)(u0 u1 u2 u3 u4 u5 u6 u7 u8:Value):LiesP (qG w b u0 u1 u2 u3 u4 u5 u6 u7 u8) p P:=fun hn=>by
 obtain⟨B,o,e,hB,hc⟩:=h hn;have hne:=hb hn B o e;refine⟨B,o,e,by rw [Jk];exact hB,fun j x hx=>?_⟩;obtain⟨key,k1,k2,k3,k4,k5⟩:=hc j x hx;have hcell:∀i,(qG w b u0 u1 u2 u3 u4 u5 u6 u7 u8).cell? ⟨B,i,none⟩=w.cell? ⟨B,i,none⟩:=fun i=>World.cell?_of_block (a:=⟨B,i,none⟩) (Qz w b B hne _ _ _ _ _ _ _ _ _)
 exact⟨key,k1,k2,k3,by rw [hcell];exact k4,by rw [hcell];exact k5⟩
theorem qM {ok:Nat->Prop}{f:Nat}{w:World}{us:List Value}{t:V}(h:LiesV ok f w us t){b:Nat}(hb:¬ok b)(u0 u1 u2 u3 u4 u5 u6 u7 u8:Value):LiesV ok f (qG w b u0 u1 u2 u3 u4 u5 u6 u7 u8) us t :=
 h.kept (fun q h=>h) (by rw [Jk];exact Nat.le_refl _) (fun q hq _=>Qz w b q (fun e=>hb (e ▸ hq)) _ _ _ _ _ _ _ _ _)
theorem QP (n m:Nat)(h:n≠0)(h2:n<=20)(h3:n*2<=m):n - 1<n/\(n - 1)*2<m/\IntKind.i64.wrap ((n:Int) - 1)=((n - 1:Nat):Int)/\(0:Int)<=((n - 1:Nat):Int)/\((n - 1:Nat):Int)<(n:Int):=by
 refine⟨by omega,by omega,?_,by omega,by omega⟩;have:((n - 1:Nat):Int)=(n:Int) - 1:=by omega
 rw [this];simp [IntKind.wrap,IntKind.bits,IntKind.signed];omega
theorem Yv {P:List St}(h:P.length≠0):P[P.length - 1]?=some (ju P):=by
 unfold ju;rw [List.getLast?_eq_getElem?,List.getElem?_eq_getElem (by omega)];rfl
theorem qy {w:World}{B:Nat}{u0 u1 u2 u3 u4 u5 u6 u7 u8:Value}(tmps:Array Value)(h:Blk w B #[u0,u1,u2,u3,u4,u5,u6,u7,u8] 45)(ht:tmps[4]?=some (.pointer (some ⟨B,0,none⟩)):=by rfl):(results Tryd.f24 tmps).run Tryd.prog w=.ok (.agg #[u0,u1,u2,u3,u4,u5,u6,u7,u8]) w:=by
 have c0:=h.cell 0 _ rfl;have c1:=h.cell 1 _ rfl;have c2:=h.cell 2 _ rfl;have c3:=h.cell 3 _ rfl;have c4:=h.cell 4 _ rfl;have c5:=h.cell 5 _ rfl;have c6:=h.cell 6 _ rfl;have c7:=h.cell 7 _ rfl;have c8:=h.cell 8 _ rfl;simp [results,Tryd.f24,ht,go_sem,c0,c1,c2,c3,c4,c5,c6,c7,c8]
theorem jbx {N M:Nat}(hM:1<=M){t:V}{P:List St}{w w':World}{e:Ending}(h:paths.QW N M (je t P) w e w'):∃(k n:Int) (b:Nat) (s:ByteArray) (pL:Option Addr) (nL cL:Nat) (pE:Option Addr) (nE cE:Nat) (er:Int) (g:Nat),e=.returned (.tuple #[.agg #[.int .i64 k,.int .i64 n,.int .u64 (b:Int),.string s,.slice pL nL cL,.slice pE nE cE],.int .i64 er])/\LiesV (fun q=>q<N) g w' [.int .i64 k,.int .i64 n,.int .u64 (b:Int),.string s,.slice pL nL cL,.slice pE nE cE] (zc t P)/\jd g (zc t P)<=M/\Below w.heap.size w w':=by
 obtain⟨⟨y,f,x0,x1,x2,x3,x4,x5,h1,h2,h3,h4⟩ | ⟨er,h1,h2,h3⟩,hb⟩:=h
 ·obtain⟨k,n,b,s,pL,nL,cL,pE,nE,cE,rfl,rfl,rfl,rfl,rfl,rfl⟩:=h3.form
  unfold zc;rw [h1];exact⟨k,n,b,s,pL,nL,cL,pE,nE,cE,0,f,h2,h3,h4,hb⟩
 ·unfold zc
  rw [h1];exact⟨0,0,0,⟨#[]⟩,none,0,0,none,0,0,er,1,h3,qk _ w',hM,hb⟩
theorem Yc (w:World)(f:Nat)(t:V)(k n:Int)(b:Nat)(s:ByteArray)(pL:Option Addr)(nL cL:Nat)(pE:Option Addr)(nE cE:Nat)(hl:LiesV (fun q=>q<w.heap.size) f w [.int .i64 k,.int .i64 n,.int .u64 (b:Int),.string s,.slice pL nL cL,.slice pE nE cE] t)(hn:jd f t<=2000)(x:OpD)(us:List Value)(hx:OpIn w us x)(hk:1<=x.1/\x.1<=4)(hPl:x.2.1.length<=20)(hPi:∀y∈x.2.1,-1<=y.2)(hP0:x.1≠1->x.2.1≠[]) :
  Calls Tryd.prog 24 #[.agg #[.int .i64 k,.int .i64 n,.int .u64 (b:Int),.string s,.slice pL nL cL,.slice pE nE cE],.agg us.toArray] w fun e w'=>∃vs:List Value,e=.returned (.agg vs.toArray)/\OpIn w' vs (jZ x t)/\Below w.heap.size w w':=by
 obtain⟨p,c,g,ok,on,ob,os,opL,onL,ocL,opE,onE,ocE,key,rfl,h2,h3,h4,h5,h6,h7,h8,h9⟩:=hx;obtain⟨W0,hW0⟩:∃W0,W0=((w.alloc (.cells #[.int .i64 k,.int .i64 n,.int .u64 (b:Int),.string s,.slice pL nL cL,.slice pE nE cE] 26)).alloc (.cells #[.int .i64 x.1,.slice p x.2.1.length c,.int .i64 ok,.int .i64 on,.int .u64 (ob:Int),.string os,.slice opL onL ocL,.slice opE onE ocE,.string key] 45)).alloc (.cells #[.int .i64 0,.slice none 0 0,.int .i64 0,.int .i64 0,.int .u64 0,.string ⟨#[]⟩,.slice none 0 0,.slice none 0 0,.string ⟨#[]⟩] 45):=⟨_,rfl⟩
 have b0:Below w.heap.size w W0:=by rw [hW0];exact(((Below.refl _ w).alloc (Nat.le_refl _) _).alloc (by simp) _).alloc (by simp;omega) _
 have s0:W0.heap.size=w.heap.size+3:=by rw [hW0];simp
 have hV:Blk W0 w.heap.size #[.int .i64 k,.int .i64 n,.int .u64 (b:Int),.string s,.slice pL nL cL,.slice pE nE cE] 26:=by rw [hW0];exact((jb w _ _).alloc _).alloc _
 have hO:Blk W0 (w.heap.size+1) #[.int .i64 x.1,.slice p x.2.1.length c,.int .i64 ok,.int .i64 on,.int .u64 (ob:Int),.string os,.slice opL onL ocL,.slice opE onE ocE,.string key] 45:=by
  rw [hW0];have:=jb (w.alloc (.cells #[.int .i64 k,.int .i64 n,.int .u64 (b:Int),.string s,.slice pL nL cL,.slice pE nE cE] 26)) #[.int .i64 x.1,.slice p x.2.1.length c,.int .i64 ok,.int .i64 on,.int .u64 (ob:Int),.string os,.slice opL onL ocL,.slice opE onE ocE,.string key] 45;rw [World.size_alloc] at this;exact this.alloc _
 have hR:Blk W0 (w.heap.size+2) #[.int .i64 0,.slice none 0 0,.int .i64 0,.int .i64 0,.int .u64 0,.string ⟨#[]⟩,.slice none 0 0,.slice none 0 0,.string ⟨#[]⟩] 45:=by
  rw [hW0];have:=jb ((w.alloc (.cells #[.int .i64 k,.int .i64 n,.int .u64 (b:Int),.string s,.slice pL nL cL,.slice pE nE cE] 26)).alloc (.cells #[.int .i64 x.1,.slice p x.2.1.length c,.int .i64 ok,.int .i64 on,.int .u64 (ob:Int),.string os,.slice opL onL ocL,.slice opE onE ocE,.string key] 45)) #[.int .i64 0,.slice none 0 0,.int .i64 0,.int .i64 0,.int .u64 0,.string ⟨#[]⟩,.slice none 0 0,.slice none 0 0,.string ⟨#[]⟩] 45;rwa [World.size_alloc,World.size_alloc] at this
 obtain⟨p',c',W1,hrun,b1,hP1,m1,m2,hnew⟩:=J9 (h3.keep b0) (by omega) c 27;have b01:=b0.trans (b1.mono b0.size)
 have KL:Hid (Calls Tryd.prog 14 #[.agg #[.int .i64 k,.int .i64 n,.int .u64 (b:Int),.string s,.slice pL nL cL,.slice pE nE cE],.slice p' x.2.1.length c'] W1 fun e w2=>∃(kw nw:Int) (bw:Nat) (sw:ByteArray) (pLw:Option Addr) (nLw cLw:Nat) (pEw:Option Addr) (nEw cEw:Nat) (er:Int) (gw:Nat),e=.returned (.tuple #[.agg #[.int .i64 kw,.int .i64 nw,.int .u64 (bw:Int),.string sw,.slice pLw nLw cLw,.slice pEw nEw cEw],.int .i64 er])/\Hid (LiesV (fun q=>q<w.heap.size) gw w2 [.int .i64 kw,.int .i64 nw,.int .u64 (bw:Int),.string sw,.slice pLw nLw cLw,.slice pEw nEw cEw] (zc t x.2.1)/\jd gw (zc t x.2.1)<=10000000/\Below W1.heap.size W1 w2)):=ja (by
  refine(paths.YE w.heap.size 10000000 x.2.1 f W1 t _ _ _ _ _ _ p' c' b01.size (hl.kept (fun q h=>h) b01.size (fun q h _=>b01.block q h)) (by omega) hP1 m1 m2 hPi).mono ?_
  intro e w2 h;obtain⟨kw,nw,bw,sw,pLw,nLw,cLw,pEw,nEw,cEw,er,gw,e1,e2,e3,e4⟩:=jbx (by decide) h;exact⟨kw,nw,bw,sw,pLw,nLw,cLw,pEw,nEw,cEw,er,gw,e1,ja ⟨e2,e3,e4⟩⟩)
 have o0:=hO.cell 0 _ rfl;have o1:=hO.cell 1 _ rfl;have o2:=hO.cell 2 _ rfl;have o3:=hO.cell 3 _ rfl;have o4:=hO.cell 4 _ rfl;have o5:=hO.cell 5 _ rfl;have o6:=hO.cell 6 _ rfl;have o7:=hO.cell 7 _ rfl;have o8:=hO.cell 8 _ rfl;have z1:=(hV.below b1).cells6;simp only [List.getElem_toArray,List.getElem_cons_zero,List.getElem_cons_succ] at o0 o1 o2 o3 o4 o5 o6 o7 o8;have HW0:=ja hW0;have HB:=ja (And.intro b01 (And.intro s0 (And.intro b1.size (And.intro (hO.below b1) (hR.below b1)))));have HP:=ja (And.intro hP1 (And.intro m1 (And.intro m2 (And.intro hnew (And.intro h3 (And.intro h8 h9))))));obtain⟨a0,a1,a2,a3,a4,a5⟩:=z1;clear hl hn h2 h3 h4 h5 h6 h7 h8 h9 b0 s0 hV hO hR b1 hP1 m1 m2 hnew b01 hPi hW0
 go_enter Tryd.func24,Tryd.ntmps24
 go_upto_region 1 with fail
 rw [<-HW0.out];clear HW0
 go_upto_region 2 with (at_builtin;refine Lib.wpList_append_run _ rfl _ _ _ _ rfl _ _ rfl rfl _ _ hrun ?_)
 clear hrun o0 o1 o2 o3 o4 o5 o6 o7 o8
 go_upto_region 3 with (go_at_call 14;refine(jc KL).mono ?_;rintro e w2 ⟨kw,nw,bw,sw,pLw,nLw,cLw,pEw,nEw,cEw,er,gw,rfl,hh⟩;have HL:=ja hh.out;clear hh)
 obtain⟨W3,hW3⟩:∃W3,W3=w2.alloc (.cells #[.int .i64 kw,.int .i64 nw,.int .u64 (bw:Int),.string sw,.slice pLw nLw cLw,.slice pEw nEw cEw] 26):=⟨_,rfl⟩
 rw [<-hW3];clear KL a0 a1 a2 a3 a4 a5;have b13:Below W1.heap.size W1 W3:=by rw [hW3];exact HL.out.2.2.alloc HL.out.2.2.size _
 have b23:Below w2.heap.size w2 W3:=by rw [hW3];exact(Below.refl _ _).alloc (Nat.le_refl _) _
 have hD:Blk W3 w2.heap.size #[.int .i64 kw,.int .i64 nw,.int .u64 (bw:Int),.string sw,.slice pLw nLw cLw,.slice pEw nEw cEw] 26:=by rw [hW3];exact jb _ _ _
 have b03:=HB.out.1.trans (b13.mono HB.out.1.size);have hO3:=HB.out.2.2.2.1.below b13;have hR3:=HB.out.2.2.2.2.below b13;have hLW:LiesV (fun q=>q<w.heap.size) gw W3 [.int .i64 kw,.int .i64 nw,.int .u64 (bw:Int),.string sw,.slice pLw nLw cLw,.slice pEw nEw cEw] (zc t x.2.1):=HL.out.1.kept (fun q h=>h) b23.size (fun q h hq=>b23.block q hq);have hPW:=HP.out.1.keep b13;have hnew:=HP.out.2.2.2.1;have o0:=hO3.cell 0 _ rfl;have o1:=hO3.cell 1 _ rfl;have o2:=hO3.cell 2 _ rfl;have o3:=hO3.cell 3 _ rfl;have o4:=hO3.cell 4 _ rfl;have o5:=hO3.cell 5 _ rfl;have o6:=hO3.cell 6 _ rfl;have o7:=hO3.cell 7 _ rfl;have o8:=hO3.cell 8 _ rfl;have r0:=hR3.cell 0 _ rfl;have r1:=hR3.cell 1 _ rfl;have r2:=hR3.cell 2 _ rfl;have r3:=hR3.cell 3 _ rfl;have r4:=hR3.cell 4 _ rfl;have r5:=hR3.cell 5 _ rfl;have r6:=hR3.cell 6 _ rfl;have r7:=hR3.cell 7 _ rfl;have r8:=hR3.cell 8 _ rfl;have f0:=hR3.froz 0
 have f1:=hR3.froz 1;have f2:=hR3.froz 2;have f3:=hR3.froz 3;have f4:=hR3.froz 4;have f5:=hR3.froz 5;have f6:=hR3.froz 6;have f7:=hR3.froz 7;have f8:=hR3.froz 8;obtain⟨d0,d1,d2,d3,d4,d5⟩:=hD.cells6;simp only [List.getElem_toArray,List.getElem_cons_zero,List.getElem_cons_succ] at o0 o1 o2 o3 o4 o5 o6 o7 o8 r0 r1 r2 r3 r4 r5 r6 r7 r8
 have hne2:x.2.1.length≠0->∀B o,p'=some ⟨B,o,none⟩->B≠w.heap.size+2:=fun hn B o e=>by
  have:=(hnew hn).1;rw [e] at this;injection this with this;injection this with this;have:=HB.out.2.1;omega
 clear hW3 b23 hO3
 rcases(show x.1=1\/x.1=2\/x.1=3\/x.1=4 by omega) with hkx | hkx | hkx | hkx
 ·have hU:jZ x t=(1,x.2.1,zc t x.2.1,[]):=by unfold jZ;rw [if_pos hkx]
  have HY:=ja (qB hR3 (.int .i64 1) (.slice p' x.2.1.length c') (.int .i64 kw) (.int .i64 nw) (.int .u64 (bw:Int)) (.string sw) (.slice pLw nLw cLw) (.slice pEw nEw cEw) (.string ⟨#[]⟩));have HBZ:=ja (j9 b03 (b:=w.heap.size+2) (by omega) (.int .i64 1) (.slice p' x.2.1.length c') (.int .i64 kw) (.int .i64 nw) (.int .u64 (bw:Int)) (.string sw) (.slice pLw nLw cLw) (.slice pEw nEw cEw) (.string ⟨#[]⟩));have HPZ:=ja (qg hPW hne2 (.int .i64 1) (.slice p' x.2.1.length c') (.int .i64 kw) (.int .i64 nw) (.int .u64 (bw:Int)) (.string sw) (.slice pLw nLw cLw) (.slice pEw nEw cEw) (.string ⟨#[]⟩));have HVZ:=ja (qM (hLW) (b:=w.heap.size+2) (by omega) (.int .i64 1) (.slice p' x.2.1.length c') (.int .i64 kw) (.int .i64 nw) (.int .u64 (bw:Int)) (.string sw) (.slice pLw nLw cLw) (.slice pEw nEw cEw) (.string ⟨#[]⟩));have HU:=ja hU;rw [hkx] at o0
  clear hR3 hPW hLW hD hU hkx hnew hne2
  go_wp2_with fail
  obtain⟨Y,hYe⟩:∃Y,Y=qG W3 (w.heap.size+2) (.int .i64 1) (.slice p' x.2.1.length c') (.int .i64 kw) (.int .i64 nw) (.int .u64 (bw:Int)) (.string sw) (.slice pLw nLw cLw) (.slice pEw nEw cEw) (.string ⟨#[]⟩):=⟨_,rfl⟩
  rw [<-hYe] at HY HBZ HPZ HVZ;simp only [qG] at hYe;rw [<-hYe];refine bodyPost_ret (qy _ HY.out) rfl ?_
  refine⟨_,rfl,?_,HBZ.out⟩;rw [HU.out];exact⟨p',c',_,_,_,_,_,_,_,_,_,_,_,⟨#[]⟩,rfl,⟨by show(-9223372036854775808:Int)<=_;dsimp only;omega,by dsimp only;omega⟩,HPZ.out,HP.out.2.1,by have h:=HP.out.2.2.1;unfold maxLen at h;exact h,HVZ.out.weaken (fun q h=>Nat.lt_of_lt_of_le h HBZ.out.size),HL.out.2.1,by unfold maxLen;decide,rfl⟩
 ·have hU:jZ x t=(3,x.2.1,zg,[]):=by unfold jZ;rw [if_neg (by omega),if_pos hkx]
  have HY:=ja (qB hR3 (.int .i64 3) (.slice p' x.2.1.length c') (.int .i64 0) (.int .i64 0) (.int .u64 0) (.string ⟨#[]⟩) (.slice none 0 0) (.slice none 0 0) (.string ⟨#[]⟩));have HBZ:=ja (j9 b03 (b:=w.heap.size+2) (by omega) (.int .i64 3) (.slice p' x.2.1.length c') (.int .i64 0) (.int .i64 0) (.int .u64 0) (.string ⟨#[]⟩) (.slice none 0 0) (.slice none 0 0) (.string ⟨#[]⟩));have HPZ:=ja (qg hPW hne2 (.int .i64 3) (.slice p' x.2.1.length c') (.int .i64 0) (.int .i64 0) (.int .u64 0) (.string ⟨#[]⟩) (.slice none 0 0) (.slice none 0 0) (.string ⟨#[]⟩));have HVZ:=ja (qM (qk (fun _=>False) W3) (b:=w.heap.size+2) (by exact id) (.int .i64 3) (.slice p' x.2.1.length c') (.int .i64 0) (.int .i64 0) (.int .u64 0) (.string ⟨#[]⟩) (.slice none 0 0) (.slice none 0 0) (.string ⟨#[]⟩));have HU:=ja hU;rw [hkx] at o0
  clear hR3 hPW hLW hD hU hkx hnew hne2
  go_wp2_with fail
  obtain⟨Y,hYe⟩:∃Y,Y=qG W3 (w.heap.size+2) (.int .i64 3) (.slice p' x.2.1.length c') (.int .i64 0) (.int .i64 0) (.int .u64 0) (.string ⟨#[]⟩) (.slice none 0 0) (.slice none 0 0) (.string ⟨#[]⟩):=⟨_,rfl⟩
  rw [<-hYe] at HY HBZ HPZ HVZ;simp only [qG] at hYe;rw [<-hYe];refine bodyPost_ret (qy _ HY.out) rfl ?_
  refine⟨_,rfl,?_,HBZ.out⟩;rw [HU.out];exact⟨p',c',_,_,_,_,_,_,_,_,_,_,_,⟨#[]⟩,rfl,⟨by show(-9223372036854775808:Int)<=_;dsimp only;omega,by dsimp only;omega⟩,HPZ.out,HP.out.2.1,by have h:=HP.out.2.2.1;unfold maxLen at h;exact h,HVZ.out.weaken (fun q h=>h.elim),(show jd 1 zg<=10000000 by decide),by unfold maxLen;decide,rfl⟩
 ·have hU:jZ x t=(2,x.2.1,zc t x.2.1,[]):=by unfold jZ;rw [if_neg (by omega),if_neg (by omega),if_pos hkx]
  have HY:=ja (qB hR3 (.int .i64 2) (.slice p' x.2.1.length c') (.int .i64 kw) (.int .i64 nw) (.int .u64 (bw:Int)) (.string sw) (.slice pLw nLw cLw) (.slice pEw nEw cEw) (.string ⟨#[]⟩));have HBZ:=ja (j9 b03 (b:=w.heap.size+2) (by omega) (.int .i64 2) (.slice p' x.2.1.length c') (.int .i64 kw) (.int .i64 nw) (.int .u64 (bw:Int)) (.string sw) (.slice pLw nLw cLw) (.slice pEw nEw cEw) (.string ⟨#[]⟩));have HPZ:=ja (qg hPW hne2 (.int .i64 2) (.slice p' x.2.1.length c') (.int .i64 kw) (.int .i64 nw) (.int .u64 (bw:Int)) (.string sw) (.slice pLw nLw cLw) (.slice pEw nEw cEw) (.string ⟨#[]⟩));have HVZ:=ja (qM (hLW) (b:=w.heap.size+2) (by omega) (.int .i64 2) (.slice p' x.2.1.length c') (.int .i64 kw) (.int .i64 nw) (.int .u64 (bw:Int)) (.string sw) (.slice pLw nLw cLw) (.slice pEw nEw cEw) (.string ⟨#[]⟩));have HU:=ja hU;rw [hkx] at o0
  clear hR3 hPW hLW hD hU hkx hnew hne2
  go_wp2_with fail
  obtain⟨Y,hYe⟩:∃Y,Y=qG W3 (w.heap.size+2) (.int .i64 2) (.slice p' x.2.1.length c') (.int .i64 kw) (.int .i64 nw) (.int .u64 (bw:Int)) (.string sw) (.slice pLw nLw cLw) (.slice pEw nEw cEw) (.string ⟨#[]⟩):=⟨_,rfl⟩
  rw [<-hYe] at HY HBZ HPZ HVZ;simp only [qG] at hYe;rw [<-hYe];refine bodyPost_ret (qy _ HY.out) rfl ?_
  refine⟨_,rfl,?_,HBZ.out⟩;rw [HU.out];exact⟨p',c',_,_,_,_,_,_,_,_,_,_,_,⟨#[]⟩,rfl,⟨by show(-9223372036854775808:Int)<=_;dsimp only;omega,by dsimp only;omega⟩,HPZ.out,HP.out.2.1,by have h:=HP.out.2.2.1;unfold maxLen at h;exact h,HVZ.out.weaken (fun q h=>Nat.lt_of_lt_of_le h HBZ.out.size),HL.out.2.1,by unfold maxLen;decide,rfl⟩
 ·have hU:jZ x t=(4,zT x.2.1 x.2.2.2,zg,(ju x.2.1).1):=by unfold jZ;rw [if_neg (by omega),if_neg (by omega),if_neg (by omega)]
  have hPn:x.2.1.length≠0:=by
   have h:=hP0 (by omega);intro e;exact h (List.eq_nil_of_length_eq_zero e)
  obtain⟨e1,e2,cur,e3,e4⟩:=hnew hPn;obtain⟨hi2,hcs,hwrap,hi0,hi1⟩:=QP _ _ hPn hPl e4;subst e1;have hbB:W0.heap.size≠w.heap.size+2:=hne2 hPn _ _ rfl;have hcur3:W3.heap[W0.heap.size]?=some (.cells cur 60 (0,0)):=(b13.block _ e2).trans e3
  obtain⟨Bo,oo,lk,rfl,hBo,q1,q2,q3,q4,q5⟩:=HP.out.2.2.2.2.1.at hi2
  have hlastk:lk.data.toList=(ju x.2.1).1:=by
   rw [q1];have h:=Yv hPn;rw [List.getElem?_eq_getElem hi2] at h;injection h with h;rw [h]
  have q4':=(b03.cell (p:=⟨Bo,oo+(x.2.1.length - 1)*2,none⟩) hBo).trans q4;have hRK:=J6 hPW hPn hcur3 e4 key (by have h:=HP.out.2.2.2.2.2.1;unfold maxLen at h;exact h);rw [HP.out.2.2.2.2.2.2] at hRK;obtain⟨W4,hW4⟩:∃W4,W4=W3.setCell ⟨W0.heap.size,(x.2.1.length - 1)*2,none⟩ (.string key):=⟨_,rfl⟩
  have hlW:w.heap.size+3<=W0.heap.size:=by have:=HB.out.2.1;omega
  have b04:Below w.heap.size w W4:=by rw [hW4];exact b03.setCell (by show _<=W0.heap.size;omega) _
  have hR4:Blk W4 (w.heap.size+2) #[.int .i64 0,.slice none 0 0,.int .i64 0,.int .i64 0,.int .u64 0,.string ⟨#[]⟩,.slice none 0 0,.slice none 0 0,.string ⟨#[]⟩] 45:=by rw [hW4];exact hR3.set_other _ _ (by show w.heap.size+2≠W0.heap.size;omega)
  have hO4:Blk W4 (w.heap.size+1) #[.int .i64 x.1,.slice (some ⟨Bo,oo,none⟩) x.2.1.length c,.int .i64 ok,.int .i64 on,.int .u64 (ob:Int),.string os,.slice opL onL ocL,.slice opE onE ocE,.string key] 45:=by rw [hW4];exact(HB.out.2.2.2.1.below b13).set_other _ _ (by show w.heap.size+1≠W0.heap.size;omega)
  have q4'':=(b04.cell (p:=⟨Bo,oo+(x.2.1.length - 1)*2,none⟩) hBo).trans q4;rw [<-hW4] at hRK;have hcell0:W3.cell? ⟨W0.heap.size,(x.2.1.length - 1)*2,none⟩=some cur[(x.2.1.length - 1)*2]:=by simp [World.cell?,hcur3,hcs]
  have hfz0:W3.frozen? ⟨W0.heap.size,(x.2.1.length - 1)*2,none⟩=false:=by simp [World.frozen?,hcur3]
  have HW4:=ja hW4;have HY:=ja (qB hR4 (.int .i64 4) (.slice (some ⟨W0.heap.size,0,none⟩) x.2.1.length c') (.int .i64 0) (.int .i64 0) (.int .u64 0) (.string ⟨#[]⟩) (.slice none 0 0) (.slice none 0 0) (.string lk));have HBZ:=ja (j9 b04 (b:=w.heap.size+2) (by omega) (.int .i64 4) (.slice (some ⟨W0.heap.size,0,none⟩) x.2.1.length c') (.int .i64 0) (.int .i64 0) (.int .u64 0) (.string ⟨#[]⟩) (.slice none 0 0) (.slice none 0 0) (.string lk));have HPZ:=ja (qg hRK (b:=w.heap.size+2) (fun _ B o e=>by injection e with e;injection e with e;omega) (.int .i64 4) (.slice (some ⟨W0.heap.size,0,none⟩) x.2.1.length c') (.int .i64 0) (.int .i64 0) (.int .u64 0) (.string ⟨#[]⟩) (.slice none 0 0) (.slice none 0 0) (.string lk));have HU:=ja hU;have HLK:=ja (And.intro hlastk q2);rw [hkx] at o0;clear hPW hLW hD hU hkx hnew hne2 hRK hlastk q1 q4 e3 hcur3 hW4 q5
  go_upto_region 11 with fail
  rw [<-HW4.out];have u0:=hO4.cell 0 _ rfl;have u1:=hO4.cell 1 _ rfl;have u2:=hO4.cell 2 _ rfl;have u3:=hO4.cell 3 _ rfl;have u4:=hO4.cell 4 _ rfl;have u5:=hO4.cell 5 _ rfl;have u6:=hO4.cell 6 _ rfl;have u7:=hO4.cell 7 _ rfl;have u8:=hO4.cell 8 _ rfl;have v0:=hR4.cell 0 _ rfl;have v1:=hR4.cell 1 _ rfl;have v2:=hR4.cell 2 _ rfl;have v3:=hR4.cell 3 _ rfl;have v4:=hR4.cell 4 _ rfl;have v5:=hR4.cell 5 _ rfl;have v6:=hR4.cell 6 _ rfl;have v7:=hR4.cell 7 _ rfl;have v8:=hR4.cell 8 _ rfl;have g0:=hR4.froz 0;have g1:=hR4.froz 1;have g2:=hR4.froz 2;have g3:=hR4.froz 3;have g4:=hR4.froz 4;have g5:=hR4.froz 5;have g6:=hR4.froz 6;have g7:=hR4.froz 7;have g8:=hR4.froz 8;simp only [List.getElem_toArray,List.getElem_cons_zero,List.getElem_cons_succ] at u0 u1 u2 u3 u4 u5 u6 u7 u8 v0 v1 v2 v3 v4 v5 v6 v7 v8
  clear HW4 o0 o1 o2 o3 o4 o5 o6 o7 o8 r0 r1 r2 r3 r4 r5 r6 r7 r8 f0 f1 f2 f3 f4 f5 f6 f7 f8 d0 d1 d2 d3 d4 d5 hR4 hO4 hcell0 hfz0
  go_wp2_with fail
  obtain⟨Y,hYe⟩:∃Y,Y=qG W4 (w.heap.size+2) (.int .i64 4) (.slice (some ⟨W0.heap.size,0,none⟩) x.2.1.length c') (.int .i64 0) (.int .i64 0) (.int .u64 0) (.string ⟨#[]⟩) (.slice none 0 0) (.slice none 0 0) (.string lk):=⟨_,rfl⟩
  rw [<-hYe] at HY HBZ HPZ;simp only [qG] at hYe;rw [<-hYe];refine bodyPost_ret (qy _ HY.out) rfl ?_
  refine⟨_,rfl,?_,HBZ.out⟩;rw [HU.out];refine⟨some ⟨W0.heap.size,0,none⟩,c',1,0,0,0,⟨#[]⟩,none,0,0,none,0,0,lk,?_,⟨by show(-9223372036854775808:Int)<=_;dsimp only;omega,by dsimp only;omega⟩,HPZ.out,?_,?_,qk _ _,(show jd 1 zg<=10000000 by decide),by unfold maxLen;exact HLK.out.2,HLK.out.1⟩
  ·show _=[Value.int .i64 4,.slice (some ⟨W0.heap.size,0,none⟩) (zT x.2.1 x.2.2.2).length c',_,_,_,_,_,_,_]
   rw [zF];rfl
  ·show(zT x.2.1 x.2.2.2).length<=c'
   rw [zF];exact HP.out.2.1
  ·have h:=HP.out.2.2.1
   unfold maxLen at h;exact h
end upds
set_option linter.unusedSimpArgs false
namespace upds
open Go.RowKit Go.Shelf
open valus
open paths (St LiesP jt jq jf je)
theorem QF {w:World}{b:Nat}{x0 x1 x2 x3 x4 x5 x6 x7 x8:Value}{t:Nat}(h:Blk w b #[x0,x1,x2,x3,x4,x5,x6,x7,x8] t)(u0 u1 u2 u3 u4 u5:Value):Blk (Jh w b 2 u0 u1 u2 u3 u4 u5) b #[x0,x1,u0,u1,u2,u3,u4,u5,x8] t:=by
 simpa [Jh] using (((((h.set 2 u0).set 3 u1).set 4 u2).set 5 u3).set 6 u4).set 7 u5
theorem J5 {B:Nat}{a w:World}(h:Below B a w){b:Nat}(hb:B<=b)(o:Nat)(u0 u1 u2 u3 u4 u5:Value):Below B a (Jh w b o u0 u1 u2 u3 u4 u5):=by
 unfold Jh;exact(((((h.setCell (by show _<=b;omega) _).setCell (by show _<=b;omega) _).setCell (by show _<=b;omega) _).setCell (by show _<=b;omega) _).setCell (by show _<=b;omega) _).setCell (by show _<=b;omega) _
theorem YO {M:Nat}(hM:1<=M){t:V}{P:List St}(hc:jq P=0){w w':World}{e:Ending}(h:paths.jci M (paths.jY t P) w e w'):∃(k n:Int) (b:Nat) (s:ByteArray) (pL:Option Addr) (nL cL:Nat) (pE:Option Addr) (nE cE:Nat) (er:Int) (g:Nat),e=.returned (.tuple #[.agg #[.int .i64 k,.int .i64 n,.int .u64 (b:Int),.string s,.slice pL nL cL,.slice pE nE cE],.int .i64 er])/\LiesV (fun q=>w.heap.size<=q/\q<w'.heap.size) g w' [.int .i64 k,.int .i64 n,.int .u64 (b:Int),.string s,.slice pL nL cL,.slice pE nE cE] (zc t P)/\jd g (zc t P)<=M/\Below w.heap.size w w':=by
 unfold paths.jY at h;rw [if_pos hc] at h;obtain⟨⟨y,f,x0,x1,x2,x3,x4,x5,h1,h2,h3,h4⟩ | ⟨er,h1,h2,h3⟩,hb⟩:=h
 ·obtain⟨k,n,b,s,pL,nL,cL,pE,nE,cE,rfl,rfl,rfl,rfl,rfl,rfl⟩:=h3.form
  unfold zc;rw [h1];exact⟨k,n,b,s,pL,nL,cL,pE,nE,cE,0,f,h2,h3,h4,hb⟩
 ·unfold zc
  rw [h1];exact⟨0,0,0,⟨#[]⟩,none,0,0,none,0,0,er,1,h3,qk _ w',hM,hb⟩
theorem jaX (w:World)(f:Nat)(t:V)(k n:Int)(b:Nat)(s:ByteArray)(pL:Option Addr)(nL cL:Nat)(pE:Option Addr)(nE cE:Nat)(hl:LiesV (fun q=>q<w.heap.size) f w [.int .i64 k,.int .i64 n,.int .u64 (b:Int),.string s,.slice pL nL cL,.slice pE nE cE] t)(hn:jd f t<=10000000)(x:OpD)(us:List Value)(hx:OpIn w us x)(hT:jt w)(hgood:∀y:V,∀g,IsV g y->jh jr y=0->jd g y<=2000)(he:(qQ [x] t).2.1=0)(hk:1<=x.1/\x.1<=4)(hcp:jq x.2.1=0)(hPl:x.2.1.length<=20)(hP0:x.1≠1->x.2.1≠[]) :
  Calls Tryd.prog 22 #[.agg #[.int .i64 k,.int .i64 n,.int .u64 (b:Int),.string s,.slice pL nL cL,.slice pE nE cE],.agg us.toArray] w fun e w'=>∃vs:List Value,e=.returned (.tuple #[.agg vs.toArray,.int .i64 0])/\OpIn w' vs (jZ x t)/\Below w.heap.size w w':=by
 have hx0:=hx;obtain⟨p,c,g,ok,on,ob,os,opL,onL,ocL,opE,onE,ocE,key,rfl,h2,h3,h4,h5,h6,h7,h8,h9⟩:=hx;obtain⟨W0,hW0⟩:∃W0,W0=((w.alloc (.cells #[.int .i64 k,.int .i64 n,.int .u64 (b:Int),.string s,.slice pL nL cL,.slice pE nE cE] 26)).alloc (.cells #[.int .i64 x.1,.slice p x.2.1.length c,.int .i64 ok,.int .i64 on,.int .u64 (ob:Int),.string os,.slice opL onL ocL,.slice opE onE ocE,.string key] 45)).alloc (.cells #[.int .i64 0,.slice none 0 0,.int .i64 0,.int .i64 0,.int .u64 0,.string ⟨#[]⟩,.slice none 0 0,.slice none 0 0,.string ⟨#[]⟩] 45):=⟨_,rfl⟩
 have b0:Below w.heap.size w W0:=by rw [hW0];exact(((Below.refl _ w).alloc (Nat.le_refl _) _).alloc (by simp) _).alloc (by simp;omega) _
 have s0:W0.heap.size=w.heap.size+3:=by rw [hW0];simp
 have hV:Blk W0 w.heap.size #[.int .i64 k,.int .i64 n,.int .u64 (b:Int),.string s,.slice pL nL cL,.slice pE nE cE] 26:=by rw [hW0];exact((jb w _ _).alloc _).alloc _
 have hO:Blk W0 (w.heap.size+1) #[.int .i64 x.1,.slice p x.2.1.length c,.int .i64 ok,.int .i64 on,.int .u64 (ob:Int),.string os,.slice opL onL ocL,.slice opE onE ocE,.string key] 45:=by
  rw [hW0];have:=jb (w.alloc (.cells #[.int .i64 k,.int .i64 n,.int .u64 (b:Int),.string s,.slice pL nL cL,.slice pE nE cE] 26)) #[.int .i64 x.1,.slice p x.2.1.length c,.int .i64 ok,.int .i64 on,.int .u64 (ob:Int),.string os,.slice opL onL ocL,.slice opE onE ocE,.string key] 45;rw [World.size_alloc] at this;exact this.alloc _
 have hR:Blk W0 (w.heap.size+2) #[.int .i64 0,.slice none 0 0,.int .i64 0,.int .i64 0,.int .u64 0,.string ⟨#[]⟩,.slice none 0 0,.slice none 0 0,.string ⟨#[]⟩] 45:=by
  rw [hW0];have:=jb ((w.alloc (.cells #[.int .i64 k,.int .i64 n,.int .u64 (b:Int),.string s,.slice pL nL cL,.slice pE nE cE] 26)).alloc (.cells #[.int .i64 x.1,.slice p x.2.1.length c,.int .i64 ok,.int .i64 on,.int .u64 (ob:Int),.string os,.slice opL onL ocL,.slice opE onE ocE,.string key] 45)) #[.int .i64 0,.slice none 0 0,.int .i64 0,.int .i64 0,.int .u64 0,.string ⟨#[]⟩,.slice none 0 0,.slice none 0 0,.string ⟨#[]⟩] 45;rwa [World.size_alloc,World.size_alloc] at this
 have KA:=JT W0 f t k n b s pL nL cL pE nE cE (jP hl b0) hn x _ (hx0.below b0) (Utf8Tabs_below hT b0) hgood;obtain⟨r,hr⟩:∃r,r=qQ [x] t:=⟨_,rfl⟩
 rw [<-hr] at KA he;have HKA:=ja KA;have a0:=hV.cell 0 _ rfl;have a1:=hV.cell 1 _ rfl;have a2:=hV.cell 2 _ rfl;have a3:=hV.cell 3 _ rfl;have a4:=hV.cell 4 _ rfl;have a5:=hV.cell 5 _ rfl;have o0:=hO.cell 0 _ rfl;have o1:=hO.cell 1 _ rfl;have o2:=hO.cell 2 _ rfl;have o3:=hO.cell 3 _ rfl;have o4:=hO.cell 4 _ rfl;have o5:=hO.cell 5 _ rfl;have o6:=hO.cell 6 _ rfl;have o7:=hO.cell 7 _ rfl;have o8:=hO.cell 8 _ rfl;simp only [List.getElem_toArray,List.getElem_cons_zero,List.getElem_cons_succ] at a0 a1 a2 a3 a4 a5 o0 o1 o2 o3 o4 o5 o6 o7 o8;have HB:=ja (And.intro b0 (And.intro s0 (And.intro hV (And.intro hO hR))));have HP:=ja (And.intro h3 (And.intro h8 (And.intro h9 (And.intro hl (And.intro hn hT)))));have HW0:=ja hW0;have HE:=ja he;clear hl hn hx0 h2 h3 h4 h5 h6 h7 h8 h9 hT hgood b0 s0 hV hO hR KA hr hW0 he
 go_enter Tryd.func22,Tryd.ntmps22
 go_upto_region 1 with fail
 rw [<-HW0.out];clear HW0
 go_upto_region 4 with (go_at_call 20;refine HKA.out.mono ?_;rintro e w1 ⟨b1,hok,_⟩;obtain⟨fr,x0,x1,x2,x3,x4,x5,rfl,hlz,_⟩:=hok HE.out;obtain⟨kr,nr,br,sr,pLr,nLr,cLr,pEr,nEr,cEr,rfl,rfl,rfl,rfl,rfl,rfl⟩:=hlz.form;have B1:=ja b1;clear b1 hok hlz)
 clear HKA a0 a1 a2 a3 a4 a5 o0 o1 o2 o3 o4 o5 o6 o7 o8;obtain⟨W1,hW1⟩:∃W1,W1=w1.alloc (.cells #[.int .i64 kr,.int .i64 nr,.int .u64 (br:Int),.string sr,.slice pLr nLr cLr,.slice pEr nEr cEr] 26):=⟨_,rfl⟩
 rw [<-hW1];have b01:Below W0.heap.size W0 W1:=by rw [hW1];exact B1.out.alloc B1.out.size _
 obtain⟨p',c',W5,hrun,b5,hP1,m1,m2,hnew⟩:=J9 (HP.out.1.keep (HB.out.1.trans (b01.mono HB.out.1.size))) (by omega) c 27;have O1:=HB.out.2.2.2.1.below b01;have o1:=O1.cell 1 _ rfl;simp only [List.getElem_toArray,List.getElem_cons_zero,List.getElem_cons_succ] at o1;have b05:=b01.trans (b5.mono b01.size);have hs1:=b01.size;have HS:=ja (And.intro hP1 (And.intro m1 (And.intro m2 (And.intro hnew (And.intro b05 (And.intro b5.size (And.intro hs1 (And.intro b01 b5))))))));clear hW1 hP1 m1 m2 hnew b5 b01 O1 b05
 go_upto_region 5 with (at_builtin;refine Lib.wpList_append_run _ rfl _ _ _ _ rfl _ _ rfl rfl _ _ hrun ?_)
 clear hrun o1;obtain⟨W6,hW6⟩:∃W6,W6=W5.alloc (.cells #[.int .i64 0,.slice p' x.2.1.length c',.int .i64 0,.int .i64 0,.int .u64 0,.string ⟨#[]⟩,.slice none 0 0,.slice none 0 0,.string ⟨#[]⟩] 45):=⟨_,rfl⟩
 rw [<-hW6];have b56:Below W5.heap.size W5 W6:=by rw [hW6];exact(Below.refl _ _).alloc (Nat.le_refl _) _
 have hX:Blk W6 W5.heap.size #[.int .i64 0,.slice p' x.2.1.length c',.int .i64 0,.int .i64 0,.int .u64 0,.string ⟨#[]⟩,.slice none 0 0,.slice none 0 0,.string ⟨#[]⟩] 45:=by rw [hW6];exact jb _ _ _
 have b05:=HS.out.2.2.2.2.1;have b06:=b05.trans (b56.mono b05.size);have hO6:=HB.out.2.2.2.1.below b06;have hV6:=HB.out.2.2.1.below b06;have hR6:=HB.out.2.2.2.2.below b06;have hsz:=HB.out.2.1;have hs5:=b05.size;have hs6:W6.heap.size=W5.heap.size+1:=by rw [hW6,World.size_alloc]
 have b00:=HB.out.1
 have hne2:x.2.1.length≠0->∀B o,p'=some ⟨B,o,none⟩->B≠w.heap.size+2:=fun hn B o e=>by
  have h:=(HS.out.2.2.2.1 hn).1;rw [e] at h;injection h with h;injection h with h;have:=HS.out.2.2.2.2.2.2.1;omega
 have o0:=hO6.cell 0 _ rfl;have y0:=hX.cell 0 _ rfl;have f0:=hX.froz 0;simp only [List.getElem_toArray,List.getElem_cons_zero,List.getElem_cons_succ] at o0 y0;clear hW6
 rcases(show x.1=1\/x.1=2\/x.1=3\/x.1=4 by omega) with hkx | hkx | hkx | hkx
 ·have hU:jZ x t=(1,x.2.1,zc t x.2.1,[]):=by unfold jZ;rw [if_pos hkx]
  rw [hkx] at o0;clear hkx
  go_upto_region 8 with fail
  obtain⟨W7,hW7⟩:∃W7,W7=W6.setCell ⟨W5.heap.size,0,none⟩ (.int .i64 1):=⟨_,rfl⟩
  rw [<-hW7];have b57:Below W5.heap.size W5 W7:=by rw [hW7];exact b56.setCell (Nat.le_refl _) _
  have hs7:W7.heap.size=W5.heap.size+1:=by rw [hW7];simpa [World.setCell] using hs6
  have hX7:Blk W7 W5.heap.size #[.int .i64 1,.slice p' x.2.1.length c',.int .i64 0,.int .i64 0,.int .u64 0,.string ⟨#[]⟩,.slice none 0 0,.slice none 0 0,.string ⟨#[]⟩] 45:=by rw [hW7];exact hX.set 0 _
  have b07:=b05.trans (b57.mono b05.size);have bw7:=b00.trans (b07.mono b00.size)
  have KG:Hid (Calls Tryd.prog 8 #[.agg #[.int .i64 k,.int .i64 n,.int .u64 (b:Int),.string s,.slice pL nL cL,.slice pE nE cE],.slice p x.2.1.length c] W7 fun e w8=>∃(kw nw:Int) (bw:Nat) (sw:ByteArray) (pLw:Option Addr) (nLw cLw:Nat) (pEw:Option Addr) (nEw cEw:Nat) (er:Int) (gw:Nat),e=.returned (.tuple #[.agg #[.int .i64 kw,.int .i64 nw,.int .u64 (bw:Int),.string sw,.slice pLw nLw cLw,.slice pEw nEw cEw],.int .i64 er])/\Hid (LiesV (fun q=>W7.heap.size<=q/\q<w8.heap.size) gw w8 [.int .i64 kw,.int .i64 nw,.int .u64 (bw:Int),.string sw,.slice pLw nLw cLw,.slice pEw nEw cEw] (zc t x.2.1)/\jd gw (zc t x.2.1)<=10000000/\Below W7.heap.size W7 w8)):=ja (by
   refine(paths.Zz 10000000 (Nat.le_refl _) W7 f t _ _ _ _ _ _ (jP HP.out.2.2.2.1 bw7) HP.out.2.2.2.2.1 p c x.2.1 (HP.out.1.keep bw7) (by omega) (Utf8Tabs_below HP.out.2.2.2.2.2 bw7)).mono ?_
   intro e w8 h;obtain⟨kw,nw,bw,sw,pLw,nLw,cLw,pEw,nEw,cEw,er,gw,e1,e2,e3,e4⟩:=YO (by decide) hcp h;exact⟨kw,nw,bw,sw,pLw,nLw,cLw,pEw,nEw,cEw,er,gw,e1,ja ⟨e2,e3,e4⟩⟩)
  obtain⟨a0,a1,a2,a3,a4,a5⟩:=(HB.out.2.2.1.below b07).cells6;have o1:=(HB.out.2.2.2.1.below b07).cell 1 _ rfl;simp only [List.getElem_toArray,List.getElem_cons_zero,List.getElem_cons_succ] at o1;have HX7:=ja hX7;clear hX hO6 hV6 hR6 hW7 f0 y0 o0 b56 b06 hX7
  go_upto_region 18 with (go_at_call 8;refine(jc KG).mono ?_;rintro e w8 ⟨kw,nw,bw,sw,pLw,nLw,cLw,pEw,nEw,cEw,er,gw,rfl,hh⟩;have HG:=ja hh.out;have X8:=HX7.out.below hh.out.2.2;have q2:=X8.cell 2 _ rfl;have q3:=X8.cell 3 _ rfl;have q4:=X8.cell 4 _ rfl;have q5:=X8.cell 5 _ rfl;have q6:=X8.cell 6 _ rfl;have q7:=X8.cell 7 _ rfl;have l2:=X8.froz 2;have l3:=X8.froz 3;have l4:=X8.froz 4;have l5:=X8.froz 5;have l6:=X8.froz 6;have l7:=X8.froz 7;have HX8:=ja X8;clear hh X8)
  clear KG a0 a1 a2 a3 a4 a5 o1 q2 q3 q4 q5 q6 q7 l2 l3 l4 l5 l6 l7;obtain⟨W9,hW9⟩:∃W9,W9=Jh w8 W5.heap.size 2 (.int .i64 kw) (.int .i64 nw) (.int .u64 (bw:Int)) (.string sw) (.slice pLw nLw cLw) (.slice pEw nEw cEw):=⟨_,rfl⟩
  have hfold:=hW9;simp only [Jh] at hfold;rw [<-hfold];clear hfold;have b58:=b57.trans (HG.out.2.2.mono b57.size);have b59:Below W5.heap.size W5 W9:=by rw [hW9];exact J5 b58 (Nat.le_refl _) _ _ _ _ _ _ _
  have b099:=b05.trans (b59.mono b05.size);have b09:=b00.trans (b099.mono b00.size);have hX9:Blk W9 W5.heap.size #[.int .i64 1,.slice p' x.2.1.length c',.int .i64 kw,.int .i64 nw,.int .u64 (bw:Int),.string sw,.slice pLw nLw cLw,.slice pEw nEw cEw,.string ⟨#[]⟩] 45:=by rw [hW9];exact QF HX8.out _ _ _ _ _ _
  have hR9:=HB.out.2.2.2.2.below b099;have ht9:=zp w8 W5.heap.size 2 (.int .i64 kw) (.int .i64 nw) (.int .u64 (bw:Int)) (.string sw) (.slice pLw nLw cLw) (.slice pEw nEw cEw);rw [<-hW9] at ht9;have hv9:LiesV (fun q=>W7.heap.size<=q/\q<W9.heap.size) gw W9 [.int .i64 kw,.int .i64 nw,.int .u64 (bw:Int),.string sw,.slice pLw nLw cLw,.slice pEw nEw cEw] (zc t x.2.1):=HG.out.1.kept (fun q h=>⟨h.1,Nat.lt_of_lt_of_le h.2 ht9.size⟩) ht9.size (fun q h hq=>ht9.block q hq (by omega));clear hW9 ht9 b58 b57 b07 bw7 HX7 HX8;have HY:=ja (qB hR9 (.int .i64 1) (.slice p' x.2.1.length c') (.int .i64 kw) (.int .i64 nw) (.int .u64 (bw:Int)) (.string sw) (.slice pLw nLw cLw) (.slice pEw nEw cEw) (.string ⟨#[]⟩))
  have HBZ:=ja (j9 b09 (b:=w.heap.size+2) (by omega) (.int .i64 1) (.slice p' x.2.1.length c') (.int .i64 kw) (.int .i64 nw) (.int .u64 (bw:Int)) (.string sw) (.slice pLw nLw cLw) (.slice pEw nEw cEw) (.string ⟨#[]⟩));have HPZ:=ja (qg (HS.out.1.keep b59) hne2 (.int .i64 1) (.slice p' x.2.1.length c') (.int .i64 kw) (.int .i64 nw) (.int .u64 (bw:Int)) (.string sw) (.slice pLw nLw cLw) (.slice pEw nEw cEw) (.string ⟨#[]⟩));have HVZ:=ja (qM hv9 (b:=w.heap.size+2) (by omega) (.int .i64 1) (.slice p' x.2.1.length c') (.int .i64 kw) (.int .i64 nw) (.int .u64 (bw:Int)) (.string sw) (.slice pLw nLw cLw) (.slice pEw nEw cEw) (.string ⟨#[]⟩));have HU:=ja hU;have r0:=hR9.cell 0 _ rfl;have r1:=hR9.cell 1 _ rfl;have r2:=hR9.cell 2 _ rfl;have r3:=hR9.cell 3 _ rfl;have r4:=hR9.cell 4 _ rfl;have r5:=hR9.cell 5 _ rfl;have r6:=hR9.cell 6 _ rfl;have r7:=hR9.cell 7 _ rfl
  have r8:=hR9.cell 8 _ rfl;have v0:=hR9.froz 0;have v1:=hR9.froz 1;have v2:=hR9.froz 2;have v3:=hR9.froz 3;have v4:=hR9.froz 4;have v5:=hR9.froz 5;have v6:=hR9.froz 6;have v7:=hR9.froz 7;have v8:=hR9.froz 8;have z0:=hX9.cell 0 _ rfl;have z1:=hX9.cell 1 _ rfl;have z2:=hX9.cell 2 _ rfl;have z3:=hX9.cell 3 _ rfl;have z4:=hX9.cell 4 _ rfl;have z5:=hX9.cell 5 _ rfl;have z6:=hX9.cell 6 _ rfl;have z7:=hX9.cell 7 _ rfl;have z8:=hX9.cell 8 _ rfl;simp only [List.getElem_toArray,List.getElem_cons_zero,List.getElem_cons_succ] at r0 r1 r2 r3 r4 r5 r6 r7 r8 z0 z1 z2 z3 z4 z5 z6 z7 z8;clear hR9 hX9 hv9 hne2 hU b09
  go_wp2_with fail
  obtain⟨Y,hYe⟩:∃Y,Y=qG W9 (w.heap.size+2) (.int .i64 1) (.slice p' x.2.1.length c') (.int .i64 kw) (.int .i64 nw) (.int .u64 (bw:Int)) (.string sw) (.slice pLw nLw cLw) (.slice pEw nEw cEw) (.string ⟨#[]⟩):=⟨_,rfl⟩
  have hYs:Y.heap.size=W9.heap.size:=by rw [hYe,Jk]
  rw [<-hYe] at HY HBZ HPZ HVZ;simp only [qG] at hYe;rw [<-hYe];refine bodyPost_ret (qD _ HY.out) rfl ?_
  refine⟨_,rfl,?_,HBZ.out⟩;rw [HU.out];exact⟨p',c',_,_,_,_,_,_,_,_,_,_,_,⟨#[]⟩,rfl,⟨by show(-9223372036854775808:Int)<=_;dsimp only;omega,by dsimp only;omega⟩,HPZ.out,HS.out.2.1,by have h:=HS.out.2.2.1;unfold maxLen at h;exact h,HVZ.out.weaken (fun q h=>by have:=HBZ.out.size;exact Nat.lt_of_lt_of_le h.2 (by rw [hYs];exact Nat.le_refl _)),HG.out.2.1,by unfold maxLen;decide,rfl⟩
 ·have hU:jZ x t=(3,x.2.1,zg,[]):=by unfold jZ;rw [if_neg (by omega),if_pos hkx]
  rw [hkx] at o0;clear hkx
  go_upto_region 18 with fail
  obtain⟨W9,hW9⟩:∃W9,W9=W6.setCell ⟨W5.heap.size,0,none⟩ (.int .i64 3):=⟨_,rfl⟩
  rw [<-hW9];have b59:Below W5.heap.size W5 W9:=by rw [hW9];exact b56.setCell (Nat.le_refl _) _
  have hX9:Blk W9 W5.heap.size #[.int .i64 3,.slice p' x.2.1.length c',.int .i64 0,.int .i64 0,.int .u64 0,.string ⟨#[]⟩,.slice none 0 0,.slice none 0 0,.string ⟨#[]⟩] 45:=by rw [hW9];exact hX.set 0 _
  have b099:=b05.trans (b59.mono b05.size);have b09:=b00.trans (b099.mono b00.size);have hR9:=HB.out.2.2.2.2.below b099;have hv9:LiesV (fun q=>W9.heap.size<=q/\q<0) 1 W9 [.int .i64 0,.int .i64 0,.int .u64 ((0:Nat):Int),.string ⟨#[]⟩,.slice none 0 0,.slice none 0 0] zg:=qk _ _;clear hX hO6 hV6 hR6 hW9 f0 y0 o0 b56 b06;have HY:=ja (qB hR9 (.int .i64 3) (.slice p' x.2.1.length c') (.int .i64 0) (.int .i64 0) (.int .u64 0) (.string ⟨#[]⟩) (.slice none 0 0) (.slice none 0 0) (.string ⟨#[]⟩));have HBZ:=ja (j9 b09 (b:=w.heap.size+2) (by omega) (.int .i64 3) (.slice p' x.2.1.length c') (.int .i64 0) (.int .i64 0) (.int .u64 0) (.string ⟨#[]⟩) (.slice none 0 0) (.slice none 0 0) (.string ⟨#[]⟩))
  have HPZ:=ja (qg (HS.out.1.keep b59) hne2 (.int .i64 3) (.slice p' x.2.1.length c') (.int .i64 0) (.int .i64 0) (.int .u64 0) (.string ⟨#[]⟩) (.slice none 0 0) (.slice none 0 0) (.string ⟨#[]⟩));have HVZ:=ja (qM hv9 (b:=w.heap.size+2) (by omega) (.int .i64 3) (.slice p' x.2.1.length c') (.int .i64 0) (.int .i64 0) (.int .u64 0) (.string ⟨#[]⟩) (.slice none 0 0) (.slice none 0 0) (.string ⟨#[]⟩));have HU:=ja hU;have r0:=hR9.cell 0 _ rfl;have r1:=hR9.cell 1 _ rfl;have r2:=hR9.cell 2 _ rfl;have r3:=hR9.cell 3 _ rfl;have r4:=hR9.cell 4 _ rfl;have r5:=hR9.cell 5 _ rfl;have r6:=hR9.cell 6 _ rfl;have r7:=hR9.cell 7 _ rfl;have r8:=hR9.cell 8 _ rfl;have v0:=hR9.froz 0;have v1:=hR9.froz 1;have v2:=hR9.froz 2;have v3:=hR9.froz 3;have v4:=hR9.froz 4;have v5:=hR9.froz 5;have v6:=hR9.froz 6;have v7:=hR9.froz 7;have v8:=hR9.froz 8;have z0:=hX9.cell 0 _ rfl
  have z1:=hX9.cell 1 _ rfl;have z2:=hX9.cell 2 _ rfl;have z3:=hX9.cell 3 _ rfl;have z4:=hX9.cell 4 _ rfl;have z5:=hX9.cell 5 _ rfl;have z6:=hX9.cell 6 _ rfl;have z7:=hX9.cell 7 _ rfl;have z8:=hX9.cell 8 _ rfl;simp only [List.getElem_toArray,List.getElem_cons_zero,List.getElem_cons_succ] at r0 r1 r2 r3 r4 r5 r6 r7 r8 z0 z1 z2 z3 z4 z5 z6 z7 z8;clear hR9 hX9 hv9 hne2 hU b09
  go_wp2_with fail
  obtain⟨Y,hYe⟩:∃Y,Y=qG W9 (w.heap.size+2) (.int .i64 3) (.slice p' x.2.1.length c') (.int .i64 0) (.int .i64 0) (.int .u64 0) (.string ⟨#[]⟩) (.slice none 0 0) (.slice none 0 0) (.string ⟨#[]⟩):=⟨_,rfl⟩
  rw [<-hYe] at HY HBZ HPZ HVZ;simp only [qG] at hYe;rw [<-hYe];refine bodyPost_ret (qD _ HY.out) rfl ?_
  refine⟨_,rfl,?_,HBZ.out⟩;rw [HU.out];exact⟨p',c',_,_,_,_,_,_,_,_,_,_,_,⟨#[]⟩,rfl,⟨by show(-9223372036854775808:Int)<=_;dsimp only;omega,by dsimp only;omega⟩,HPZ.out,HS.out.2.1,by have h:=HS.out.2.2.1;unfold maxLen at h;exact h,HVZ.out.weaken (fun q h=>by omega),(show jd 1 zg<=10000000 by decide),by unfold maxLen;decide,rfl⟩
 ·have hU:jZ x t=(2,x.2.1,zc t x.2.1,[]):=by unfold jZ;rw [if_neg (by omega),if_neg (by omega),if_pos hkx]
  rw [hkx] at o0;clear hkx
  go_upto_region 13 with fail
  obtain⟨W7,hW7⟩:∃W7,W7=W6.setCell ⟨W5.heap.size,0,none⟩ (.int .i64 2):=⟨_,rfl⟩
  rw [<-hW7];have b57:Below W5.heap.size W5 W7:=by rw [hW7];exact b56.setCell (Nat.le_refl _) _
  have hs7:W7.heap.size=W5.heap.size+1:=by rw [hW7];simpa [World.setCell] using hs6
  have hX7:Blk W7 W5.heap.size #[.int .i64 2,.slice p' x.2.1.length c',.int .i64 0,.int .i64 0,.int .u64 0,.string ⟨#[]⟩,.slice none 0 0,.slice none 0 0,.string ⟨#[]⟩] 45:=by rw [hW7];exact hX.set 0 _
  have b07:=b05.trans (b57.mono b05.size);have bw7:=b00.trans (b07.mono b00.size)
  have KG:Hid (Calls Tryd.prog 8 #[.agg #[.int .i64 k,.int .i64 n,.int .u64 (b:Int),.string s,.slice pL nL cL,.slice pE nE cE],.slice p x.2.1.length c] W7 fun e w8=>∃(kw nw:Int) (bw:Nat) (sw:ByteArray) (pLw:Option Addr) (nLw cLw:Nat) (pEw:Option Addr) (nEw cEw:Nat) (er:Int) (gw:Nat),e=.returned (.tuple #[.agg #[.int .i64 kw,.int .i64 nw,.int .u64 (bw:Int),.string sw,.slice pLw nLw cLw,.slice pEw nEw cEw],.int .i64 er])/\Hid (LiesV (fun q=>W7.heap.size<=q/\q<w8.heap.size) gw w8 [.int .i64 kw,.int .i64 nw,.int .u64 (bw:Int),.string sw,.slice pLw nLw cLw,.slice pEw nEw cEw] (zc t x.2.1)/\jd gw (zc t x.2.1)<=10000000/\Below W7.heap.size W7 w8)):=ja (by
   refine(paths.Zz 10000000 (Nat.le_refl _) W7 f t _ _ _ _ _ _ (jP HP.out.2.2.2.1 bw7) HP.out.2.2.2.2.1 p c x.2.1 (HP.out.1.keep bw7) (by omega) (Utf8Tabs_below HP.out.2.2.2.2.2 bw7)).mono ?_
   intro e w8 h;obtain⟨kw,nw,bw,sw,pLw,nLw,cLw,pEw,nEw,cEw,er,gw,e1,e2,e3,e4⟩:=YO (by decide) hcp h;exact⟨kw,nw,bw,sw,pLw,nLw,cLw,pEw,nEw,cEw,er,gw,e1,ja ⟨e2,e3,e4⟩⟩)
  obtain⟨a0,a1,a2,a3,a4,a5⟩:=(HB.out.2.2.1.below b07).cells6;have o1:=(HB.out.2.2.2.1.below b07).cell 1 _ rfl;simp only [List.getElem_toArray,List.getElem_cons_zero,List.getElem_cons_succ] at o1;have HX7:=ja hX7;clear hX hO6 hV6 hR6 hW7 f0 y0 o0 b56 b06 hX7
  go_upto_region 18 with (go_at_call 8;refine(jc KG).mono ?_;rintro e w8 ⟨kw,nw,bw,sw,pLw,nLw,cLw,pEw,nEw,cEw,er,gw,rfl,hh⟩;have HG:=ja hh.out;have X8:=HX7.out.below hh.out.2.2;have q2:=X8.cell 2 _ rfl;have q3:=X8.cell 3 _ rfl;have q4:=X8.cell 4 _ rfl;have q5:=X8.cell 5 _ rfl;have q6:=X8.cell 6 _ rfl;have q7:=X8.cell 7 _ rfl;have l2:=X8.froz 2;have l3:=X8.froz 3;have l4:=X8.froz 4;have l5:=X8.froz 5;have l6:=X8.froz 6;have l7:=X8.froz 7;have HX8:=ja X8;clear hh X8)
  clear KG a0 a1 a2 a3 a4 a5 o1 q2 q3 q4 q5 q6 q7 l2 l3 l4 l5 l6 l7;obtain⟨W9,hW9⟩:∃W9,W9=Jh w8 W5.heap.size 2 (.int .i64 kw) (.int .i64 nw) (.int .u64 (bw:Int)) (.string sw) (.slice pLw nLw cLw) (.slice pEw nEw cEw):=⟨_,rfl⟩
  have hfold:=hW9;simp only [Jh] at hfold;rw [<-hfold];clear hfold;have b58:=b57.trans (HG.out.2.2.mono b57.size);have b59:Below W5.heap.size W5 W9:=by rw [hW9];exact J5 b58 (Nat.le_refl _) _ _ _ _ _ _ _
  have b099:=b05.trans (b59.mono b05.size);have b09:=b00.trans (b099.mono b00.size);have hX9:Blk W9 W5.heap.size #[.int .i64 2,.slice p' x.2.1.length c',.int .i64 kw,.int .i64 nw,.int .u64 (bw:Int),.string sw,.slice pLw nLw cLw,.slice pEw nEw cEw,.string ⟨#[]⟩] 45:=by rw [hW9];exact QF HX8.out _ _ _ _ _ _
  have hR9:=HB.out.2.2.2.2.below b099;have ht9:=zp w8 W5.heap.size 2 (.int .i64 kw) (.int .i64 nw) (.int .u64 (bw:Int)) (.string sw) (.slice pLw nLw cLw) (.slice pEw nEw cEw);rw [<-hW9] at ht9;have hv9:LiesV (fun q=>W7.heap.size<=q/\q<W9.heap.size) gw W9 [.int .i64 kw,.int .i64 nw,.int .u64 (bw:Int),.string sw,.slice pLw nLw cLw,.slice pEw nEw cEw] (zc t x.2.1):=HG.out.1.kept (fun q h=>⟨h.1,Nat.lt_of_lt_of_le h.2 ht9.size⟩) ht9.size (fun q h hq=>ht9.block q hq (by omega));clear hW9 ht9 b58 b57 b07 bw7 HX7 HX8;have HY:=ja (qB hR9 (.int .i64 2) (.slice p' x.2.1.length c') (.int .i64 kw) (.int .i64 nw) (.int .u64 (bw:Int)) (.string sw) (.slice pLw nLw cLw) (.slice pEw nEw cEw) (.string ⟨#[]⟩))
  have HBZ:=ja (j9 b09 (b:=w.heap.size+2) (by omega) (.int .i64 2) (.slice p' x.2.1.length c') (.int .i64 kw) (.int .i64 nw) (.int .u64 (bw:Int)) (.string sw) (.slice pLw nLw cLw) (.slice pEw nEw cEw) (.string ⟨#[]⟩));have HPZ:=ja (qg (HS.out.1.keep b59) hne2 (.int .i64 2) (.slice p' x.2.1.length c') (.int .i64 kw) (.int .i64 nw) (.int .u64 (bw:Int)) (.string sw) (.slice pLw nLw cLw) (.slice pEw nEw cEw) (.string ⟨#[]⟩));have HVZ:=ja (qM hv9 (b:=w.heap.size+2) (by omega) (.int .i64 2) (.slice p' x.2.1.length c') (.int .i64 kw) (.int .i64 nw) (.int .u64 (bw:Int)) (.string sw) (.slice pLw nLw cLw) (.slice pEw nEw cEw) (.string ⟨#[]⟩));have HU:=ja hU;have r0:=hR9.cell 0 _ rfl;have r1:=hR9.cell 1 _ rfl;have r2:=hR9.cell 2 _ rfl;have r3:=hR9.cell 3 _ rfl;have r4:=hR9.cell 4 _ rfl;have r5:=hR9.cell 5 _ rfl;have r6:=hR9.cell 6 _ rfl;have r7:=hR9.cell 7 _ rfl
  have r8:=hR9.cell 8 _ rfl;have v0:=hR9.froz 0;have v1:=hR9.froz 1;have v2:=hR9.froz 2;have v3:=hR9.froz 3;have v4:=hR9.froz 4;have v5:=hR9.froz 5;have v6:=hR9.froz 6;have v7:=hR9.froz 7;have v8:=hR9.froz 8;have z0:=hX9.cell 0 _ rfl;have z1:=hX9.cell 1 _ rfl;have z2:=hX9.cell 2 _ rfl;have z3:=hX9.cell 3 _ rfl;have z4:=hX9.cell 4 _ rfl;have z5:=hX9.cell 5 _ rfl;have z6:=hX9.cell 6 _ rfl;have z7:=hX9.cell 7 _ rfl;have z8:=hX9.cell 8 _ rfl;simp only [List.getElem_toArray,List.getElem_cons_zero,List.getElem_cons_succ] at r0 r1 r2 r3 r4 r5 r6 r7 r8 z0 z1 z2 z3 z4 z5 z6 z7 z8;clear hR9 hX9 hv9 hne2 hU b09
  go_wp2_with fail
  obtain⟨Y,hYe⟩:∃Y,Y=qG W9 (w.heap.size+2) (.int .i64 2) (.slice p' x.2.1.length c') (.int .i64 kw) (.int .i64 nw) (.int .u64 (bw:Int)) (.string sw) (.slice pLw nLw cLw) (.slice pEw nEw cEw) (.string ⟨#[]⟩):=⟨_,rfl⟩
  have hYs:Y.heap.size=W9.heap.size:=by rw [hYe,Jk]
  rw [<-hYe] at HY HBZ HPZ HVZ;simp only [qG] at hYe;rw [<-hYe];refine bodyPost_ret (qD _ HY.out) rfl ?_
  refine⟨_,rfl,?_,HBZ.out⟩;rw [HU.out];exact⟨p',c',_,_,_,_,_,_,_,_,_,_,_,⟨#[]⟩,rfl,⟨by show(-9223372036854775808:Int)<=_;dsimp only;omega,by dsimp only;omega⟩,HPZ.out,HS.out.2.1,by have h:=HS.out.2.2.1;unfold maxLen at h;exact h,HVZ.out.weaken (fun q h=>by have:=HBZ.out.size;exact Nat.lt_of_lt_of_le h.2 (by rw [hYs];exact Nat.le_refl _)),HG.out.2.1,by unfold maxLen;decide,rfl⟩
 ·have hU:jZ x t=(4,zT x.2.1 x.2.2.2,zg,(ju x.2.1).1):=by unfold jZ;rw [if_neg (by omega),if_neg (by omega),if_neg (by omega)]
  have hPn:x.2.1.length≠0:=by
   have h:=hP0 (by omega);intro e;exact h (List.eq_nil_of_length_eq_zero e)
  have HU:=ja hU;rw [hkx] at o0;clear hkx hU;obtain⟨e1,e2,cur,e3,e4⟩:=HS.out.2.2.2.1 hPn;obtain⟨hi2,hcs,hwrap,hi0,hi1⟩:=QP _ _ hPn hPl e4;subst e1;have hlP:=HS.out.1;obtain⟨Bo,oo,lk,hBe,hBo,q1,q2,q3,q4,q5⟩:=hlP.at hi2;injection hBe with hBe;injection hBe with hBe1 hBe2;subst hBe1 hBe2
  have hlastk:lk.data.toList=(ju x.2.1).1:=by
   rw [q1];have h:=Yv hPn;rw [List.getElem?_eq_getElem hi2] at h;injection h with h;rw [h]
  rw [Nat.zero_add] at q4;obtain⟨W7,hW7⟩:∃W7,W7=W6.setCell ⟨W5.heap.size,0,none⟩ (.int .i64 4):=⟨_,rfl⟩
  have b57:Below W5.heap.size W5 W7:=by rw [hW7];exact b56.setCell (Nat.le_refl _) _
  have hX7:Blk W7 W5.heap.size #[.int .i64 4,.slice (some ⟨W1.heap.size,0,none⟩) x.2.1.length c',.int .i64 0,.int .i64 0,.int .u64 0,.string ⟨#[]⟩,.slice none 0 0,.slice none 0 0,.string ⟨#[]⟩] 45:=by rw [hW7];exact hX.set 0 _
  have b07:=b05.trans (b57.mono b05.size);have k4:=(b57.cell (p:=⟨W1.heap.size,(x.2.1.length - 1)*2,none⟩) hBo).trans q4;have hc7:W7.heap[W1.heap.size]?=some (.cells cur 60 (0,0)):=(b57.block _ hBo).trans e3
  have kf:W7.frozen? ⟨W1.heap.size,(x.2.1.length - 1)*2,none⟩=false:=by simp [World.frozen?,hc7]
  have hRK:=J6 (hlP.keep b57) hPn hc7 e4 key (by have h:=HP.out.2.1;unfold maxLen at h;exact h);rw [HP.out.2.2.1] at hRK;have w1X:W1.heap.size≠W5.heap.size:=by omega
  have x1:=hX7.cell 1 _ rfl;have x8:=hX7.cell 8 _ rfl;have xf:=hX7.froz 8;have g8:=(HB.out.2.2.2.1.below b07).cell 8 _ rfl;simp only [List.getElem_toArray,List.getElem_cons_zero,List.getElem_cons_succ] at x1 x8 g8;have HW7:=ja hW7;have HX7:=ja hX7;have HRK:=ja hRK;have HC7:=ja hc7;have HLK:=ja (And.intro hlastk q2);clear hRK hc7 hX7 hX hO6 hV6 hR6 hW7 hlP q1 q4 q5 e3
  go_upto_region 16 with fail
  rw [<-HW7.out];clear HW7 f0 y0 o0
  go_upto_region 17 with fail
  obtain⟨W9,hW9⟩:∃W9,W9=((W7.setCell ⟨W1.heap.size,(x.2.1.length - 1)*2,none⟩ (.string key)).setCell ⟨W5.heap.size,8,none⟩ (.string lk)).drew:=⟨_,rfl⟩
  have hX9:Blk W9 W5.heap.size #[.int .i64 4,.slice (some ⟨W1.heap.size,0,none⟩) x.2.1.length c',.int .i64 0,.int .i64 0,.int .u64 0,.string ⟨#[]⟩,.slice none 0 0,.slice none 0 0,.string lk] 45:=by rw [hW9];exact(HX7.out.set_other ⟨W1.heap.size,(x.2.1.length - 1)*2,none⟩ (.string key) w1X.symm).set 8 _
  have b09':Below W1.heap.size W1 W9:=by
   rw [hW9];refine Below.drew ?_
   have hh:Below W1.heap.size W1 W7:=(HS.out.2.2.2.2.2.2.2.2).trans (b57.mono HS.out.2.2.2.2.2.1);exact(hh.setCell (Nat.le_refl _) _).setCell (by show _<=W5.heap.size;omega) _
  have b099:Below W0.heap.size W0 W9:=(HS.out.2.2.2.2.2.2.2.1).trans (b09'.mono HS.out.2.2.2.2.2.2.1);have b09:=b00.trans (b099.mono b00.size);have hR9:=HB.out.2.2.2.2.below b099
  have hP9:LiesP W9 (some ⟨W1.heap.size,0,none⟩) (zT x.2.1 x.2.2.2):=by
   rw [hW9];refine LiesP.below (n:=W5.heap.size) HRK.out (Below.drew ((Below.refl W5.heap.size _).setCell (p:=⟨W5.heap.size,8,none⟩) (Nat.le_refl _) _)) (fun B o e _=>?_);injection e with e;injection e with e;omega
  have HY:=ja (qB hR9 (.int .i64 4) (.slice (some ⟨W1.heap.size,0,none⟩) x.2.1.length c') (.int .i64 0) (.int .i64 0) (.int .u64 0) (.string ⟨#[]⟩) (.slice none 0 0) (.slice none 0 0) (.string lk));have HBZ:=ja (j9 b09 (b:=w.heap.size+2) (by omega) (.int .i64 4) (.slice (some ⟨W1.heap.size,0,none⟩) x.2.1.length c') (.int .i64 0) (.int .i64 0) (.int .u64 0) (.string ⟨#[]⟩) (.slice none 0 0) (.slice none 0 0) (.string lk));have HPZ:=ja (qg hP9 (b:=w.heap.size+2) (fun _ B o e=>by injection e with e;injection e with e;omega) (.int .i64 4) (.slice (some ⟨W1.heap.size,0,none⟩) x.2.1.length c') (.int .i64 0) (.int .i64 0) (.int .u64 0) (.string ⟨#[]⟩) (.slice none 0 0) (.slice none 0 0) (.string lk));have r0:=hR9.cell 0 _ rfl;have r1:=hR9.cell 1 _ rfl;have r2:=hR9.cell 2 _ rfl;have r3:=hR9.cell 3 _ rfl;have r4:=hR9.cell 4 _ rfl;have r5:=hR9.cell 5 _ rfl
  have r6:=hR9.cell 6 _ rfl;have r7:=hR9.cell 7 _ rfl;have r8:=hR9.cell 8 _ rfl;have v0:=hR9.froz 0;have v1:=hR9.froz 1;have v2:=hR9.froz 2;have v3:=hR9.froz 3;have v4:=hR9.froz 4;have v5:=hR9.froz 5;have v6:=hR9.froz 6;have v7:=hR9.froz 7;have v8:=hR9.froz 8;have z0:=hX9.cell 0 _ rfl;have z1:=hX9.cell 1 _ rfl;have z2:=hX9.cell 2 _ rfl;have z3:=hX9.cell 3 _ rfl;have z4:=hX9.cell 4 _ rfl;have z5:=hX9.cell 5 _ rfl;have z6:=hX9.cell 6 _ rfl;have z7:=hX9.cell 7 _ rfl;have z8:=hX9.cell 8 _ rfl;simp only [List.getElem_toArray,List.getElem_cons_zero,List.getElem_cons_succ] at r0 r1 r2 r3 r4 r5 r6 r7 r8 z0 z1 z2 z3 z4 z5 z6 z7 z8;have HW9:=ja hW9;clear hX9 b09' b099 b09 hR9 hP9 hW9 hne2 b56 b06 b57 b07
  go_region_with fail
  all_goals
   rw [<-HW9.out];clear k4 kf x1 x8 xf g8
   go_wp2_with fail
   obtain⟨Y,hYe⟩:∃Y,Y=qG W9 (w.heap.size+2) (.int .i64 4) (.slice (some ⟨W1.heap.size,0,none⟩) x.2.1.length c') (.int .i64 0) (.int .i64 0) (.int .u64 0) (.string ⟨#[]⟩) (.slice none 0 0) (.slice none 0 0) (.string lk):=⟨_,rfl⟩
   rw [<-hYe] at HY HBZ HPZ;simp only [qG] at hYe;rw [<-hYe];refine bodyPost_ret (qD _ HY.out) rfl ?_
   refine⟨_,rfl,?_,HBZ.out⟩;rw [HU.out];refine⟨some ⟨W1.heap.size,0,none⟩,c',1,0,0,0,⟨#[]⟩,none,0,0,none,0,0,lk,?_,⟨by show(-9223372036854775808:Int)<=_;dsimp only;omega,by dsimp only;omega⟩,HPZ.out,?_,?_,qk _ _,(show jd 1 zg<=10000000 by decide),by unfold maxLen;exact HLK.out.2,HLK.out.1⟩
   ·show _=[Value.int .i64 4,.slice (some ⟨W1.heap.size,0,none⟩) (zT x.2.1 x.2.2.2).length c',_,_,_,_,_,_,_]
    rw [zF];rfl
   ·show(zT x.2.1 x.2.2.2).length<=c'
    rw [zF];exact HS.out.2.1
   ·have h:=HS.out.2.2.1
    unfold maxLen at h;exact h
end upds
set_option linter.unusedSimpArgs false
namespace upds
open Go.RowKit Go.Shelf
open valus
open paths (St LiesP jt jq jf je)
def jbF (r:Int×Int×V)(w:World)(e:Ending)(w':World):Prop:=Below w.heap.size w w'/\(r.2.1=0->∃(f:Nat) (x0 x1 x2 x3 x4 x5:Value),e=.returned (.tuple #[.agg #[x0,x1,x2,x3,x4,x5],.int .i64 0])/\LiesV (fun q=>q<w'.heap.size) f w' [x0,x1,x2,x3,x4,x5] r.2.2)/\(r.2.1≠0->e=.returned (.tuple #[.agg #[.int .i64 0,.int .i64 0,.int .u64 0,.string ⟨#[]⟩,.slice none 0 0,.slice none 0 0],.int .i64 r.2.1]))
theorem YM {x:OpD}{t:V}(hg:jh jr t=0):(qQ [x] t).2.1=(qR x.1 x.2.1 x.2.2.1 x.2.2.2 t).1/\((qR x.1 x.2.1 x.2.2.1 x.2.2.2 t).1=0->(qQ [x] t).2.2=(qR x.1 x.2.1 x.2.2.1 x.2.2.2 t).2):=by
 have h:qQ [x] t=if (qR x.1 x.2.1 x.2.2.1 x.2.2.2 t).1≠0 then (((0:Nat):Int),(qR x.1 x.2.1 x.2.2.1 x.2.2.2 t).1,t) else JF 1 [] (qR x.1 x.2.1 x.2.2.1 x.2.2.2 t).2:=by
  unfold qQ;rw [if_neg (by simpa using hg)];rfl
 rw [h]
 by_cases h0:(qR x.1 x.2.1 x.2.2.1 x.2.2.2 t).1=0
 ·rw [if_neg (by simpa using h0)]
  exact⟨h0.symm,fun _=>rfl⟩
 ·rw [if_pos h0]
  exact⟨rfl,fun h=>absurd h h0⟩
theorem ja2 {x:OpD}{t:V}(h:(qQ [x] t).2.1=0):jh jr t=0/\qf x.1 x.2.1 x.2.2.1 x.2.2.2=0:=by
 by_cases hg:jh jr t=0
 ·refine⟨hg,?_⟩
  have h1:=(YM (x:=x) hg).1;rw [h] at h1;unfold qR at h1;split at h1
  ·rename_i hc
   exact absurd h1.symm hc
  ·rename_i hc
   exact Classical.byContradiction hc
 ·exfalso
  unfold qQ at h;rw [if_pos hg] at h;exact hg h
theorem jbf (w:World)(f:Nat)(t:V)(k n:Int)(b:Nat)(s:ByteArray)(pL:Option Addr)(nL cL:Nat)(pE:Option Addr)(nE cE:Nat)(hl:LiesV (fun q=>q<w.heap.size) f w [.int .i64 k,.int .i64 n,.int .u64 (b:Int),.string s,.slice pL nL cL,.slice pE nE cE] t)(hn:jd f t<=10000000)(x:OpD)(us:List Value)(hx:OpIn w us x)(hgood:∀y:V,∀g,IsV g y->jh jr y=0->jd g y<=2000) :
  Calls Tryd.prog 21 #[.agg #[.int .i64 k,.int .i64 n,.int .u64 (b:Int),.string s,.slice pL nL cL,.slice pE nE cE],.agg us.toArray] w (jbF (qQ [x] t) w):=by
 obtain⟨p,c,g,ok,on,ob,os,opL,onL,ocL,opE,onE,ocE,key,rfl,h2,h3,h4,h5,h6,h7,h8,h9⟩:=hx
 by_cases hg:jh jr t=0
 ·obtain⟨e1,e2⟩:=YM (x:=x) hg
  refine(J8 (fun q=>q<w.heap.size) f w t k n b s pL nL cL pE nE cE (fun q h=>h) hl hg (hgood t f hl.isV hg) hgood x.1 h2 p c x.2.1 h3 h4 h5 g x.2.2.1 ok on ob os opL onL ocL opE onE ocE h6 h7 key h8).mono ?_
  rw [h9]
  rintro e w' ⟨hb,k9,n9,b9,s9,pL9,nL9,cL9,pE9,nE9,cE9,rfl,g1,g2⟩
  refine⟨hb,fun h=>?_,fun h=>?_⟩
  ·rw [e1] at h
   obtain⟨f9,hl9⟩:=g1 h;exact⟨f9,_,_,_,_,_,_,by rw [h],by rw [e2 h];exact hl9.weaken (fun q h=>h.2)⟩
  ·rw [e1] at h
   obtain⟨rfl,rfl,rfl,rfl,rfl,rfl,rfl,rfl,rfl,rfl⟩:=g2 h;rw [e1];rfl
 ·have hr:qQ [x] t=(0,jh jr t,t):=by unfold qQ;rw [if_pos hg]
  rw [hr];obtain⟨W0,hW0⟩:∃W0,W0=Zk w #[.int .i64 k,.int .i64 n,.int .u64 (b:Int),.string s,.slice pL nL cL,.slice pE nE cE] #[.int .i64 x.1,.slice p x.2.1.length c,.int .i64 ok,.int .i64 on,.int .u64 (ob:Int),.string os,.slice opL onL ocL,.slice opE onE ocE,.string key] qv:=⟨_,rfl⟩
  have h3':=QQ w #[.int .i64 k,.int .i64 n,.int .u64 (b:Int),.string s,.slice pL nL cL,.slice pE nE cE] #[.int .i64 x.1,.slice p x.2.1.length c,.int .i64 ok,.int .i64 on,.int .u64 (ob:Int),.string os,.slice opL onL ocL,.slice opE onE ocE,.string key] qv;rw [<-hW0] at h3';obtain⟨fv,hfv⟩:∃fv,fv=jh jr t:=⟨_,rfl⟩
  have KV:=ja (zE f W0 t _ _ _ _ _ _ (jP hl h3'.b) hn);rw [<-hfv] at KV hg ⊢;have H3:=ja h3';have a0:=h3'.a.cell 0 _ rfl;have a1:=h3'.a.cell 1 _ rfl;have a2:=h3'.a.cell 2 _ rfl;have a3:=h3'.a.cell 3 _ rfl;have a4:=h3'.a.cell 4 _ rfl;have a5:=h3'.a.cell 5 _ rfl;simp only [List.getElem_toArray,List.getElem_cons_zero,List.getElem_cons_succ] at a0 a1 a2 a3 a4 a5;unfold Zk qv at hW0;have HW0:=ja hW0;have HG:=ja hg;have hgb:(fv != 0)=true:=bne_iff_ne.2 hg;clear h3' hW0 hl hn h2 h3 h4 h5 h6 h7 h8 h9 hgood hfv hr hg
  go_enter Tryd.func21,Tryd.ntmps21
  go_upto_region 1 with fail
  rw [<-HW0.out];clear HW0
  go_upto_region 3 with (go_at_call 40;refine(jc KV).mono ?_;rintro e w1 ⟨rfl,b1⟩;have B1:=ja b1;clear b1)
  have K1:=H3.out.below B1.out;have HY:=ja (jk K1.r (.int .i64 0) (.int .i64 0) (.int .u64 0) (.string ⟨#[]⟩) (.slice none 0 0) (.slice none 0 0));have HBZ:=ja (jg K1.b (b:=w.heap.size+2) (by omega) (.int .i64 0) (.int .i64 0) (.int .u64 0) (.string ⟨#[]⟩) (.slice none 0 0) (.slice none 0 0));have r0:=K1.r.cell 0 _ rfl;have r1:=K1.r.cell 1 _ rfl;have r2:=K1.r.cell 2 _ rfl;have r3:=K1.r.cell 3 _ rfl;have r4:=K1.r.cell 4 _ rfl;have r5:=K1.r.cell 5 _ rfl;have g0:=K1.r.froz 0;have g1:=K1.r.froz 1;have g2:=K1.r.froz 2;have g3:=K1.r.froz 3;have g4:=K1.r.froz 4;have g5:=K1.r.froz 5;simp only [qv,List.getElem_toArray,List.getElem_cons_zero,List.getElem_cons_succ] at r0 r1 r2 r3 r4 r5;clear K1 KV a0 a1 a2 a3 a4 a5
  go_wp2_with fail
  obtain⟨Y,hYe⟩:∃Y,Y=jp w1 (w.heap.size+2) (.int .i64 0) (.int .i64 0) (.int .u64 0) (.string ⟨#[]⟩) (.slice none 0 0) (.slice none 0 0):=⟨_,rfl⟩
  rw [<-hYe] at HY HBZ;simp only [jp] at hYe;rw [<-hYe];refine bodyPost_ret (qa _ HY.out) rfl ?_
  exact⟨HBZ.out,fun h=>absurd h HG.out,fun _=>rfl⟩
end upds
set_option linter.unusedSimpArgs false
namespace upds
open Go.RowKit Go.Shelf
open valus
open paths (St LiesP jt jq jf je)
attribute [local go_sem ↓] Go.wp_at_zero Go.wp_at_succ
theorem Zr (w:World):OpIn w [.int .i64 0,.slice none 0 0,.int .i64 0,.int .i64 0,.int .u64 0,.string ⟨#[]⟩,.slice none 0 0,.slice none 0 0,.string ⟨#[]⟩] (0,[],zg,[]) :=
 ⟨none,0,1,0,0,0,⟨#[]⟩,none,0,0,none,0,0,⟨#[]⟩,rfl,⟨by decide,by decide⟩,fun h=>absurd rfl h,Nat.le_refl _,by decide,qk _ w,by decide,by unfold maxLen;decide,rfl⟩
theorem Xn (f:Nat)(w:World)(t:V)(k n:Int)(b:Nat)(s:ByteArray)(pL:Option Addr)(nL cL:Nat)(pE:Option Addr)(nE cE:Nat)(hl:LiesV (fun q=>q<w.heap.size) f w [.int .i64 k,.int .i64 n,.int .u64 (b:Int),.string s,.slice pL nL cL,.slice pE nE cE] t)(hn:jd f t<=10000000)(x:OpD)(us:List Value)(hx:OpIn w us x)(hT:jt w) :
  Calls Tryd.prog 5 #[.agg #[.int .i64 k,.int .i64 n,.int .u64 (b:Int),.string s,.slice pL nL cL,.slice pE nE cE],.agg us.toArray] w fun e w'=>e=.returned (.bool true)/\Below w.heap.size w w':=by
 have hgood:∀y:V,∀g,IsV g y->jh jr y=0->jd g y<=2000:=fun y g h1 h2=>(QS h1 h2).2
 have hx0:=hx;obtain⟨p,c,g,ok,on,ob,os,opL,onL,ocL,opE,onE,ocE,key,rfl,_⟩:=hx;obtain⟨W0,hW0⟩:∃W0,W0=(w.alloc (.cells #[.int .i64 k,.int .i64 n,.int .u64 (b:Int),.string s,.slice pL nL cL,.slice pE nE cE] 26)).alloc (.cells #[.int .i64 x.1,.slice p x.2.1.length c,.int .i64 ok,.int .i64 on,.int .u64 (ob:Int),.string os,.slice opL onL ocL,.slice opE onE ocE,.string key] 45):=⟨_,rfl⟩
 have b0:Below w.heap.size w W0:=by rw [hW0];exact((Below.refl _ w).alloc (Nat.le_refl _) _).alloc (by simp) _
 have hA:Blk W0 w.heap.size #[.int .i64 k,.int .i64 n,.int .u64 (b:Int),.string s,.slice pL nL cL,.slice pE nE cE] 26:=by rw [hW0];exact(jb w _ _).alloc _
 have hO:Blk W0 (w.heap.size+1) #[.int .i64 x.1,.slice p x.2.1.length c,.int .i64 ok,.int .i64 on,.int .u64 (ob:Int),.string os,.slice opL onL ocL,.slice opE onE ocE,.string key] 45:=by
  rw [hW0];have:=jb (w.alloc (.cells #[.int .i64 k,.int .i64 n,.int .u64 (b:Int),.string s,.slice pL nL cL,.slice pE nE cE] 26)) #[.int .i64 x.1,.slice p x.2.1.length c,.int .i64 ok,.int .i64 on,.int .u64 (ob:Int),.string os,.slice opL onL ocL,.slice opE onE ocE,.string key] 45;rwa [World.size_alloc] at this
 obtain⟨r,hr⟩:∃r,r=qQ [x] t:=⟨_,rfl⟩
 have KA:=JT W0 f t k n b s pL nL cL pE nE cE (jP hl b0) hn x _ (hx0.below b0) (Utf8Tabs_below hT b0) hgood
 have KU:Hid (∀v,Below W0.heap.size W0 v->Calls Tryd.prog 21 #[.agg #[.int .i64 k,.int .i64 n,.int .u64 (b:Int),.string s,.slice pL nL cL,.slice pE nE cE],.agg #[.int .i64 x.1,.slice p x.2.1.length c,.int .i64 ok,.int .i64 on,.int .u64 (ob:Int),.string os,.slice opL onL ocL,.slice opE onE ocE,.string key]] v (jbF r v)):=ja fun v hv=>by
  have bv:=b0.trans (hv.mono b0.size);rw [hr];exact jbf v f t k n b s pL nL cL pE nE cE (jP hl bv) hn x _ (hx0.below bv) hgood
 rw [<-hr] at KA;have HKA:=ja KA;have HB:=ja (And.intro b0 (And.intro hA hO));have a0:=hA.cell 0 _ rfl;have a1:=hA.cell 1 _ rfl;have a2:=hA.cell 2 _ rfl;have a3:=hA.cell 3 _ rfl;have a4:=hA.cell 4 _ rfl;have a5:=hA.cell 5 _ rfl;have o0:=hO.cell 0 _ rfl;have o1:=hO.cell 1 _ rfl;have o2:=hO.cell 2 _ rfl;have o3:=hO.cell 3 _ rfl;have o4:=hO.cell 4 _ rfl;have o5:=hO.cell 5 _ rfl;have o6:=hO.cell 6 _ rfl;have o7:=hO.cell 7 _ rfl;have o8:=hO.cell 8 _ rfl;simp only [List.getElem_toArray,List.getElem_cons_zero,List.getElem_cons_succ] at a0 a1 a2 a3 a4 a5 o0 o1 o2 o3 o4 o5 o6 o7 o8
 by_cases hr0:r.2.1=0
 ·obtain⟨hg,hck⟩:=ja2 (x:=x) (by rw [<-hr];exact hr0)
  obtain⟨hk1,hk4,hcp,_,hP0⟩:=qJ hck;have hcp2:=paths.jl hcp;have hPx:∀y∈x.2.1,-1<=y.2:=fun y hy=>(paths.jm (hcp2.2 y hy)).1
  have KN:Hid (∀v,Below W0.heap.size W0 v->Calls Tryd.prog 22 #[.agg #[.int .i64 k,.int .i64 n,.int .u64 (b:Int),.string s,.slice pL nL cL,.slice pE nE cE],.agg #[.int .i64 x.1,.slice p x.2.1.length c,.int .i64 ok,.int .i64 on,.int .u64 (ob:Int),.string os,.slice opL onL ocL,.slice opE onE ocE,.string key]] v fun e w'=>∃vs:List Value,e=.returned (.tuple #[.agg vs.toArray,.int .i64 0])/\OpIn w' vs (jZ x t)/\Below v.heap.size v w'):=ja fun v hv=>by
   have bv:=b0.trans (hv.mono b0.size);exact jaX v f t k n b s pL nL cL pE nE cE (jP hl bv) hn x _ (hx0.below bv) (Utf8Tabs_below hT bv) hgood (by rw [<-hr];exact hr0) ⟨hk1,hk4⟩ hcp hcp2.1 hP0
  have KD:Hid (∀v,Below W0.heap.size W0 v->Calls Tryd.prog 24 #[.agg #[.int .i64 k,.int .i64 n,.int .u64 (b:Int),.string s,.slice pL nL cL,.slice pE nE cE],.agg #[.int .i64 x.1,.slice p x.2.1.length c,.int .i64 ok,.int .i64 on,.int .u64 (ob:Int),.string os,.slice opL onL ocL,.slice opE onE ocE,.string key]] v fun e w'=>∃vs:List Value,e=.returned (.agg vs.toArray)/\OpIn w' vs (jZ x t)/\Below v.heap.size v w'):=ja fun v hv=>by
   have bv:=b0.trans (hv.mono b0.size);exact Yc v f t k n b s pL nL cL pE nE cE (jP hl bv) (hgood t f hl.isV hg) x _ (hx0.below bv) ⟨hk1,hk4⟩ hcp2.1 hPx hP0
  have hul:(jZ x t).2.1.length<=9223372036854775807:=by
   have h20:=hcp2.1;unfold jZ;split
   ·dsimp only;omega
   ·split
    ·dsimp only;omega
    ·split
     ·dsimp only;omega
     ·dsimp only
      rw [zF];omega
  have HR0:=ja hr0;have HUL:=ja hul;have HW0:=ja hW0;clear hl hn hx0 hT hgood b0 hA hO KA hr hr0 hg hck hk1 hk4 hcp hP0 hcp2 hPx hul hW0
  go_enter Tryd.func5,Tryd.ntmps5
  go_upto_region 1 with fail
  rw [<-HW0.out];clear HW0
  go_upto_region 2 with (go_at_call 20;refine HKA.out.mono ?_;rintro e w1 ⟨b1,h0,_⟩;obtain⟨fa,x0,x1,x2,x3,x4,x5,rfl,hla,_⟩:=h0 HR0.out;obtain⟨ka,na,ba,sa,pLa,nLa,cLa,pEa,nEa,cEa,rfl,rfl,rfl,rfl,rfl,rfl⟩:=hla.form;have HLA:=ja hla;have B1:=ja b1;clear b1 h0 hla)
  clear HKA a0 a1 a2 a3 a4 a5 o0 o1 o2 o3 o4 o5 o6 o7 o8;obtain⟨W1,hW1⟩:∃W1,W1=w1.alloc (.cells #[.int .i64 ka,.int .i64 na,.int .u64 (ba:Int),.string sa,.slice pLa nLa cLa,.slice pEa nEa cEa] 26):=⟨_,rfl⟩
  rw [<-hW1];have b11:Below w1.heap.size w1 W1:=by rw [hW1];exact(Below.refl _ _).alloc (Nat.le_refl _) _
  have hVA:Blk W1 w1.heap.size #[.int .i64 ka,.int .i64 na,.int .u64 (ba:Int),.string sa,.slice pLa nLa cLa,.slice pEa nEa cEa] 26:=by rw [hW1];exact jb _ _ _
  have c01:=B1.out.trans (b11.mono B1.out.size);have HC1:=ja (And.intro c01 (And.intro hVA (HLA.out.kept (ok':=fun q=>q<W1.heap.size) (fun q h=>Nat.lt_of_lt_of_le h.2 b11.size) b11.size (fun q h hq=>b11.block q hq))));have A1:=HB.out.2.1.below c01;have O1:=HB.out.2.2.below c01;have a0:=A1.cell 0 _ rfl;have a1:=A1.cell 1 _ rfl;have a2:=A1.cell 2 _ rfl;have a3:=A1.cell 3 _ rfl;have a4:=A1.cell 4 _ rfl;have a5:=A1.cell 5 _ rfl;have o0:=O1.cell 0 _ rfl;have o1:=O1.cell 1 _ rfl;have o2:=O1.cell 2 _ rfl;have o3:=O1.cell 3 _ rfl;have o4:=O1.cell 4 _ rfl;have o5:=O1.cell 5 _ rfl;have o6:=O1.cell 6 _ rfl;have o7:=O1.cell 7 _ rfl;have o8:=O1.cell 8 _ rfl;simp only [List.getElem_toArray,List.getElem_cons_zero,List.getElem_cons_succ] at a0 a1 a2 a3 a4 a5 o0 o1 o2 o3 o4 o5 o6 o7 o8;clear hW1 b11 hVA c01 A1 O1 HLA B1
  go_upto_region 3 with (go_at_call 21;refine(KU.out _ HC1.out.1).mono ?_;rintro e w2 ⟨b2,h0,_⟩;obtain⟨fb,x0,x1,x2,x3,x4,x5,rfl,hlb⟩:=h0 HR0.out;obtain⟨kb,nb,bb,sb,pLb,nLb,cLb,pEb,nEb,cEb,rfl,rfl,rfl,rfl,rfl,rfl⟩:=hlb.form;have HLB:=ja hlb;have B2:=ja b2;clear b2 h0 hlb)
  clear KU a0 a1 a2 a3 a4 a5 o0 o1 o2 o3 o4 o5 o6 o7 o8;obtain⟨W2,hW2⟩:∃W2,W2=w2.alloc (.cells #[.int .i64 kb,.int .i64 nb,.int .u64 (bb:Int),.string sb,.slice pLb nLb cLb,.slice pEb nEb cEb] 26):=⟨_,rfl⟩
  rw [<-hW2];have b22:Below w2.heap.size w2 W2:=by rw [hW2];exact(Below.refl _ _).alloc (Nat.le_refl _) _
  have hVB:Blk W2 w2.heap.size #[.int .i64 kb,.int .i64 nb,.int .u64 (bb:Int),.string sb,.slice pLb nLb cLb,.slice pEb nEb cEb] 26:=by rw [hW2];exact jb _ _ _
  have c12:=B2.out.trans (b22.mono B2.out.size);have c02:=HC1.out.1.trans (c12.mono HC1.out.1.size);have HC2:=ja (And.intro c02 (And.intro (HC1.out.2.1.below c12) (And.intro hVB (And.intro (jP HC1.out.2.2 c12) (jP HLB.out b22)))));have A2:=HB.out.2.1.below c02;have O2:=HB.out.2.2.below c02;have a0:=A2.cell 0 _ rfl;have a1:=A2.cell 1 _ rfl;have a2:=A2.cell 2 _ rfl;have a3:=A2.cell 3 _ rfl;have a4:=A2.cell 4 _ rfl;have a5:=A2.cell 5 _ rfl;have o0:=O2.cell 0 _ rfl;have o1:=O2.cell 1 _ rfl;have o2:=O2.cell 2 _ rfl;have o3:=O2.cell 3 _ rfl;have o4:=O2.cell 4 _ rfl;have o5:=O2.cell 5 _ rfl;have o6:=O2.cell 6 _ rfl;have o7:=O2.cell 7 _ rfl;have o8:=O2.cell 8 _ rfl;simp only [List.getElem_toArray,List.getElem_cons_zero,List.getElem_cons_succ] at a0 a1 a2 a3 a4 a5 o0 o1 o2 o3 o4 o5 o6 o7 o8;clear hW2 b22 hVB c12 c02 A2 O2 HLB B2 HC1
  go_upto_region 4 with (go_at_call 22;refine(KN.out _ HC2.out.1).mono ?_;rintro e w3 ⟨vs,rfl,hin,b3⟩;have HIN:=ja hin;obtain⟨pn,cn,gn,kn,nn,bn,sn,pLn,nLn,cLn,pEn,nEn,cEn,keyn,rfl,_⟩:=hin;have B3:=ja b3;clear b3)
  clear KN a0 a1 a2 a3 a4 a5 o0 o1 o2 o3 o4 o5 o6 o7 o8;obtain⟨W3,hW3⟩:∃W3,W3=w3.alloc (.cells #[.int .i64 (jZ x t).1,.slice pn (jZ x t).2.1.length cn,.int .i64 kn,.int .i64 nn,.int .u64 (bn:Int),.string sn,.slice pLn nLn cLn,.slice pEn nEn cEn,.string keyn] 45):=⟨_,rfl⟩
  rw [<-hW3];have b33:Below w3.heap.size w3 W3:=by rw [hW3];exact(Below.refl _ _).alloc (Nat.le_refl _) _
  have hVN:Blk W3 w3.heap.size #[.int .i64 (jZ x t).1,.slice pn (jZ x t).2.1.length cn,.int .i64 kn,.int .i64 nn,.int .u64 (bn:Int),.string sn,.slice pLn nLn cLn,.slice pEn nEn cEn,.string keyn] 45:=by rw [hW3];exact jb _ _ _
  have c23:=B3.out.trans (b33.mono B3.out.size);have c03:=HC2.out.1.trans (c23.mono HC2.out.1.size);have HC3:=ja (And.intro c03 (And.intro hVN (HIN.out.below b33)));have KS:=ja (Je (jP HC2.out.2.2.2.1 c23) (jP HC2.out.2.2.2.2 c23));obtain⟨d0,d1,d2,d3,d4,d5⟩:=(HC2.out.2.1.below c23).cells6;obtain⟨g0,g1,g2,g3,g4,g5⟩:=(HC2.out.2.2.1.below c23).cells6;clear hW3 b33 hVN c23 c03 HIN B3 HC2
  go_upto_region 8 with (go_at_call 13;refine KS.out.mono ?_;rintro e w4 ⟨rfl,b4⟩;have B4:=ja b4;clear b4)
  clear KS d0 d1 d2 d3 d4 d5 g0 g1 g2 g3 g4 g5;have c34:=B4.out;have c04:=HC3.out.1.trans (c34.mono HC3.out.1.size);have A4:=HB.out.2.1.below c04;have O4:=HB.out.2.2.below c04;have N4:=HC3.out.2.1.below c34;have HN4:=ja (And.intro N4 (And.intro (HC3.out.2.2.below c34) c04));have a0:=A4.cell 0 _ rfl;have a1:=A4.cell 1 _ rfl;have a2:=A4.cell 2 _ rfl;have a3:=A4.cell 3 _ rfl;have a4:=A4.cell 4 _ rfl;have a5:=A4.cell 5 _ rfl;have o0:=O4.cell 0 _ rfl;have o1:=O4.cell 1 _ rfl;have o2:=O4.cell 2 _ rfl;have o3:=O4.cell 3 _ rfl;have o4:=O4.cell 4 _ rfl;have o5:=O4.cell 5 _ rfl;have o6:=O4.cell 6 _ rfl;have o7:=O4.cell 7 _ rfl;have o8:=O4.cell 8 _ rfl;have z0:=N4.cell 0 _ rfl;have z1:=N4.cell 1 _ rfl;have z2:=N4.cell 2 _ rfl;have z3:=N4.cell 3 _ rfl;have z4:=N4.cell 4 _ rfl;have z5:=N4.cell 5 _ rfl;have z6:=N4.cell 6 _ rfl;have z7:=N4.cell 7 _ rfl;have z8:=N4.cell 8 _ rfl
  simp only [List.getElem_toArray,List.getElem_cons_zero,List.getElem_cons_succ] at a0 a1 a2 a3 a4 a5 o0 o1 o2 o3 o4 o5 o6 o7 o8 z0 z1 z2 z3 z4 z5 z6 z7 z8;clear c34 c04 A4 O4 N4 HC3 B4
  go_region_with (first
   | (go_at_call 24;refine(KD.out _ (_root_.Go.below_drewN HN4.out.2.2 1)).mono ?_;rintro e w5 ⟨vs,rfl,hin,b5⟩;have HIN5:=ja hin;obtain⟨pm,cm,gm,km,nm,bm,sm,pLm,nLm,cLm,pEm,nEm,cEm,keym,rfl,_⟩:=hin;have bb5:=(_root_.Go.below_drewN (Below.refl _ w4) 1).trans b5;have HB5:=ja bb5;have N5:=HN4.out.1.below bb5;have y0:=N5.cell 0 _ rfl;have y1:=N5.cell 1 _ rfl;have y2:=N5.cell 2 _ rfl;have y3:=N5.cell 3 _ rfl;have y4:=N5.cell 4 _ rfl;have y5:=N5.cell 5 _ rfl;have y6:=N5.cell 6 _ rfl;have y7:=N5.cell 7 _ rfl;have y8:=N5.cell 8 _ rfl;simp only [List.getElem_toArray,List.getElem_cons_zero,List.getElem_cons_succ] at y0 y1 y2 y3 y4 y5 y6 y7 y8;clear b5 bb5 N5)
   | (go_at_call 23;refine(QH w5 _ _ (jZ x t) (HN4.out.2.1.below HB5.out) HIN5.out HUL.out).mono ?_;rintro e w6 ⟨rfl,b6⟩;have B6:=ja (HB.out.1.trans ((HN4.out.2.2.trans ((HB5.out.trans (b6.mono HB5.out.size)).mono HN4.out.2.2.size)).mono HB.out.1.size));clear b6))
  all_goals
   go_wp2_with fail
   go_ret;exact⟨by first | rfl | simp,B6.out⟩
 ·have KN:Hid (∀v,Below W0.heap.size W0 v->Calls Tryd.prog 22 #[.agg #[.int .i64 k,.int .i64 n,.int .u64 (b:Int),.string s,.slice pL nL cL,.slice pE nE cE],.agg #[.int .i64 x.1,.slice p x.2.1.length c,.int .i64 ok,.int .i64 on,.int .u64 (ob:Int),.string os,.slice opL onL ocL,.slice opE onE ocE,.string key]] v fun e w'=>e=.returned (.tuple #[.agg #[.int .i64 0,.slice none 0 0,.int .i64 0,.int .i64 0,.int .u64 0,.string ⟨#[]⟩,.slice none 0 0,.slice none 0 0,.string ⟨#[]⟩],.int .i64 r.2.1])/\Below v.heap.size v w'):=ja fun v hv=>by
   have bv:=b0.trans (hv.mono b0.size);have h:=jbc v f t k n b s pL nL cL pE nE cE (jP hl bv) hn x _ (hx0.below bv) (Utf8Tabs_below hT bv) hgood (by rw [<-hr];exact hr0);rw [<-hr] at h;exact h
  have HR0:=ja hr0;have hrb:(r.2.1 != 0)=true:=bne_iff_ne.2 hr0;have hrr:(r.2.1 != r.2.1)=false:=by simp
  have HW0:=ja hW0;clear hl hn hx0 hT hgood b0 hA hO KA hr hr0 hW0
  go_enter Tryd.func5,Tryd.ntmps5
  go_upto_region 1 with fail
  rw [<-HW0.out];clear HW0
  go_upto_region 2 with (go_at_call 20;refine HKA.out.mono ?_;rintro e w1 ⟨b1,_,h0⟩;have h0':=h0 HR0.out;subst h0';have B1:=ja b1;clear b1 h0)
  clear HKA a0 a1 a2 a3 a4 a5 o0 o1 o2 o3 o4 o5 o6 o7 o8;obtain⟨W1,hW1⟩:∃W1,W1=w1.alloc (.cells #[.int .i64 0,.int .i64 0,.int .u64 0,.string ⟨#[]⟩,.slice none 0 0,.slice none 0 0] 26):=⟨_,rfl⟩
  rw [<-hW1];have b11:Below w1.heap.size w1 W1:=by rw [hW1];exact(Below.refl _ _).alloc (Nat.le_refl _) _
  have hVA:Blk W1 w1.heap.size #[.int .i64 0,.int .i64 0,.int .u64 0,.string ⟨#[]⟩,.slice none 0 0,.slice none 0 0] 26:=by rw [hW1];exact jb _ _ _
  have c01:=B1.out.trans (b11.mono B1.out.size);have HC1:=ja (And.intro c01 hVA);have A1:=HB.out.2.1.below c01;have O1:=HB.out.2.2.below c01;have a0:=A1.cell 0 _ rfl;have a1:=A1.cell 1 _ rfl;have a2:=A1.cell 2 _ rfl;have a3:=A1.cell 3 _ rfl;have a4:=A1.cell 4 _ rfl;have a5:=A1.cell 5 _ rfl;have o0:=O1.cell 0 _ rfl;have o1:=O1.cell 1 _ rfl;have o2:=O1.cell 2 _ rfl;have o3:=O1.cell 3 _ rfl;have o4:=O1.cell 4 _ rfl;have o5:=O1.cell 5 _ rfl;have o6:=O1.cell 6 _ rfl;have o7:=O1.cell 7 _ rfl;have o8:=O1.cell 8 _ rfl;simp only [List.getElem_toArray,List.getElem_cons_zero,List.getElem_cons_succ] at a0 a1 a2 a3 a4 a5 o0 o1 o2 o3 o4 o5 o6 o7 o8;clear hW1 b11 hVA c01 A1 O1 B1
  go_upto_region 3 with (go_at_call 21;refine(KU.out _ HC1.out.1).mono ?_;rintro e w2 ⟨b2,_,h0⟩;have h0':=h0 HR0.out;subst h0';have B2:=ja b2;clear b2 h0)
  clear KU a0 a1 a2 a3 a4 a5 o0 o1 o2 o3 o4 o5 o6 o7 o8;obtain⟨W2,hW2⟩:∃W2,W2=w2.alloc (.cells #[.int .i64 0,.int .i64 0,.int .u64 0,.string ⟨#[]⟩,.slice none 0 0,.slice none 0 0] 26):=⟨_,rfl⟩
  rw [<-hW2];have b22:Below w2.heap.size w2 W2:=by rw [hW2];exact(Below.refl _ _).alloc (Nat.le_refl _) _
  have hVB:Blk W2 w2.heap.size #[.int .i64 0,.int .i64 0,.int .u64 0,.string ⟨#[]⟩,.slice none 0 0,.slice none 0 0] 26:=by rw [hW2];exact jb _ _ _
  have c12:=B2.out.trans (b22.mono B2.out.size);have c02:=HC1.out.1.trans (c12.mono HC1.out.1.size);have HC2:=ja (And.intro c02 (And.intro (HC1.out.2.below c12) hVB));have A2:=HB.out.2.1.below c02;have O2:=HB.out.2.2.below c02;have a0:=A2.cell 0 _ rfl;have a1:=A2.cell 1 _ rfl;have a2:=A2.cell 2 _ rfl;have a3:=A2.cell 3 _ rfl;have a4:=A2.cell 4 _ rfl;have a5:=A2.cell 5 _ rfl;have o0:=O2.cell 0 _ rfl;have o1:=O2.cell 1 _ rfl;have o2:=O2.cell 2 _ rfl;have o3:=O2.cell 3 _ rfl;have o4:=O2.cell 4 _ rfl;have o5:=O2.cell 5 _ rfl;have o6:=O2.cell 6 _ rfl;have o7:=O2.cell 7 _ rfl;have o8:=O2.cell 8 _ rfl;simp only [List.getElem_toArray,List.getElem_cons_zero,List.getElem_cons_succ] at a0 a1 a2 a3 a4 a5 o0 o1 o2 o3 o4 o5 o6 o7 o8;clear hW2 b22 hVB c12 c02 A2 O2 B2 HC1
  go_upto_region 4 with (go_at_call 22;refine(KN.out _ HC2.out.1).mono ?_;rintro e w3 ⟨rfl,b3⟩;have B3:=ja b3;clear b3)
  clear KN a0 a1 a2 a3 a4 a5 o0 o1 o2 o3 o4 o5 o6 o7 o8;obtain⟨W3,hW3⟩:∃W3,W3=w3.alloc (.cells #[.int .i64 0,.slice none 0 0,.int .i64 0,.int .i64 0,.int .u64 0,.string ⟨#[]⟩,.slice none 0 0,.slice none 0 0,.string ⟨#[]⟩] 45):=⟨_,rfl⟩
  rw [<-hW3];have b33:Below w3.heap.size w3 W3:=by rw [hW3];exact(Below.refl _ _).alloc (Nat.le_refl _) _
  have hVN:Blk W3 w3.heap.size #[.int .i64 0,.slice none 0 0,.int .i64 0,.int .i64 0,.int .u64 0,.string ⟨#[]⟩,.slice none 0 0,.slice none 0 0,.string ⟨#[]⟩] 45:=by rw [hW3];exact jb _ _ _
  have c23:=B3.out.trans (b33.mono B3.out.size);have c03:=HC2.out.1.trans (c23.mono HC2.out.1.size);have HC3:=ja (And.intro c03 hVN);have KS:=ja (Je (zR (fun _=>True) W3) (zR (fun _=>True) W3));obtain⟨d0,d1,d2,d3,d4,d5⟩:=(HC2.out.2.1.below c23).cells6;obtain⟨g0,g1,g2,g3,g4,g5⟩:=(HC2.out.2.2.below c23).cells6;clear hW3 b33 hVN c23 c03 B3 HC2
  go_upto_region 7 with (go_at_call 13;refine KS.out.mono ?_;rintro e w4 ⟨rfl,b4⟩;have B4:=ja b4;clear b4)
  clear KS d0 d1 d2 d3 d4 d5 g0 g1 g2 g3 g4 g5;have c04:=HC3.out.1.trans (B4.out.mono HC3.out.1.size);have N4:=HC3.out.2.below B4.out;have z0:=N4.cell 0 _ rfl;have z1:=N4.cell 1 _ rfl;have z2:=N4.cell 2 _ rfl;have z3:=N4.cell 3 _ rfl;have z4:=N4.cell 4 _ rfl;have z5:=N4.cell 5 _ rfl;have z6:=N4.cell 6 _ rfl;have z7:=N4.cell 7 _ rfl;have z8:=N4.cell 8 _ rfl;simp only [List.getElem_toArray,List.getElem_cons_zero,List.getElem_cons_succ] at z0 z1 z2 z3 z4 z5 z6 z7 z8;have HN4:=ja c04;clear c04 N4 B4 HC3
  go_wp2_with (go_at_call 23;refine(QH w4 _ _ (0,[],zg,[]) (Zr w4) (Zr w4) (by decide)).mono ?_;rintro e w6 ⟨rfl,b6⟩;have B6:=ja (HB.out.1.trans ((HN4.out.trans (b6.mono HN4.out.size)).mono HB.out.1.size));clear b6)
  go_ret;exact⟨by first | rfl | simp,B6.out⟩
theorem ZG (f:Nat)(w:World)(t:V)(a0 a1 a2 a3 a4 a5:Value)(hl:LiesV (fun q=>q<w.heap.size) f w [a0,a1,a2,a3,a4,a5] t)(hn:jd f t<=1048576)(x:OpD)(us:List Value)(hx:OpIn w us x)(hT:jt w) :
  Calls Tryd.prog 5 #[.agg #[a0,a1,a2,a3,a4,a5],.agg us.toArray] w fun e w'=>e=.returned (.bool true)/\Below w.heap.size w w':=by
 obtain⟨k,n,b,s,pL,nL,cL,pE,nE,cE,rfl,rfl,rfl,rfl,rfl,rfl⟩:=hl.form;exact Xn f w t k n b s pL nL cL pE nE cE hl (by omega) x us hx hT
end upds
end Go.Proofs.YtadaehaemmelfaaDoor
