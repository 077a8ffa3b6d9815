/- Of our texts, what this claim reaches. -/
import Derived.Test.YtnbfnjhbmeocfaaGreatDoorPmtBM
import Derived.Test.YtnbfnjhbmeocfaaGreatDoorPmtBQ
import Derived.Test.YtnbfnjhbmeocfaaGreatDoorPmtAA
import Derived.Test.YtnbfnjhbmeocfaaGreatDoorPmtBH
import Derived.Test.YtnbfnjhbmeocfaaGreatDoorPmtBP
set_option linter.unusedVariables false
set_option maxHeartbeats 8000000
set_option maxRecDepth 100000
namespace Go.Proofs.YtnbfnjhbmeocfaaGreatDoor
namespace valus
open Go.RowKit Go.Shelf
open trees (nd Lies pd q7 QU qP)
open toks (jv MaxOk)
theorem jhK {w:World}{b:Nat}{cs:Array Value}{t:Nat}(h:Blk w b cs t):Blk w.drew b cs t:=h
def qx (s:ByteArray)(x:V⊕(Int×Int)):Prop :=
 (20000<s.size/\x=.inr (0,2))\/(s.size<=20000/\
  ((∃c ts,pd (q7 s.data.toList)=.inl (c,ts)/\x=.inr ((qP s (jv s.data.toList) ts:Int),(c:Int)))\/
   ∃t,pd (q7 s.data.toList)=.inr (t,[])/\
    ((∃pq,qt (zY s (jv s.data.toList)) (J8 s (jv s.data.toList)) 20 t (.inr pq)/\x=.inr pq)\/
     ∃v,qt (zY s (jv s.data.toList)) (J8 s (jv s.data.toList)) 20 t (.inl v)/\((jU qi v=0/\x=.inl v)\/(jU qi v≠0/\x=.inr (0,jU qi v))))))
abbrev jfN (s:ByteArray) (w:World) (e:Ending) (w':World):Prop :=
 ((∃(vk nn:Int) (b:Nat) (z:ByteArray) (pL:Option Addr) (nL cL:Nat) (pE:Option Addr) (nE cE:Nat) (v:V),e=.returned (.tuple #[.agg #[.int .i64 vk,.int .i64 nn,.int .u64 (b:Int),.string z,.slice pL nL cL,.slice pE nE cE],.int .i64 0,.int .i64 0])/\qx s (.inl v)/\LiesV (fun q=>w.heap.size<=q/\q<w'.heap.size) 40 w' [.int .i64 vk,.int .i64 nn,.int .u64 (b:Int),.string z,.slice pL nL cL,.slice pE nE cE] v)\/
  ∃pq:Int×Int,e=.returned (.tuple #[.agg #[.int .i64 0,.int .i64 0,.int .u64 0,.string ⟨#[]⟩,.slice none 0 0,.slice none 0 0],.int .i64 pq.1,.int .i64 pq.2])/\qx s (.inr pq))/\Below w.heap.size w w'
theorem zG {w:World}{B:Nat}{u0 u1 u2 u3 u4 u5:Value}{x y:Int}(tmps:Array Value)(h:Blk w B #[u0,u1,u2,u3,u4,u5] 26)(ht:tmps[2]?=some (.pointer (some ⟨B,0,none⟩)):=by rfl)(hx:tmps[3]?=some (.int .i64 x):=by rfl)(hy:tmps[4]?=some (.int .i64 y):=by rfl):(results Tryz.f11 tmps).run Tryz.prog w=.ok (.tuple #[.agg #[u0,u1,u2,u3,u4,u5],.int .i64 x,.int .i64 y]) w:=by
 obtain⟨c0,c1,c2,c3,c4,c5⟩:=h.cells6;simp [results,Tryz.f11,ht,hx,hy,go_sem,c0,c1,c2,c3,c4,c5]
theorem jc7 (w:World)(s:ByteArray)(p e:Int)(he:(e != 0)=true)(u0 u1 u2:Int)(u3:Option Addr)(u4 u5:Nat)(hA:qx s (.inr (p,e)))
  (HP:Calls Tryz.prog 29 #[.string s] (w.alloc (.cells #[.int .i64 0,.int .i64 0,.int .u64 0,.string ⟨#[]⟩,.slice none 0 0,.slice none 0 0] 26)) fun r w'=>r=.returned (.tuple #[.agg #[.int .i64 u0,.int .i64 u1,.int .i64 u2,.slice u3 u4 u5],.int .i64 p,.int .i64 e])/\Below (w.alloc (.cells #[.int .i64 0,.int .i64 0,.int .u64 0,.string ⟨#[]⟩,.slice none 0 0,.slice none 0 0] 26)).heap.size (w.alloc (.cells #[.int .i64 0,.int .i64 0,.int .u64 0,.string ⟨#[]⟩,.slice none 0 0,.slice none 0 0] 26)) w') :
  Calls Tryz.prog 11 #[.string s] w (jfN s w):=by
 have b0:Below w.heap.size w (w.alloc (.cells #[.int .i64 0,.int .i64 0,.int .u64 0,.string ⟨#[]⟩,.slice none 0 0,.slice none 0 0] 26)):=(Below.refl _ w).alloc (Nat.le_refl _) _;have hr0:=jf w #[.int .i64 0,.int .i64 0,.int .u64 0,.string ⟨#[]⟩,.slice none 0 0,.slice none 0 0] 26;have HC:=jd HP;have HH:=jd (And.intro b0 (And.intro hr0 hA));clear b0 hr0 hA HP
 go_enter Tryz.func11,Tryz.ntmps11
 go_upto_region 2 with (go_at_call 29;refine(ja HC).mono ?_;rintro r w1 ⟨rfl,b1⟩)
 obtain⟨b0,hr0,hA⟩:=HH.out;have bA:Below w1.heap.size w1 (w1.alloc (.cells #[.int .i64 u0,.int .i64 u1,.int .i64 u2,.slice u3 u4 u5] 59)):=(Below.refl _ w1).alloc (Nat.le_refl _) _;have hr5:=(hr0.below b1).below bA;have FIN:=jd (And.intro hA (b0.trans ((b1.trans (bA.mono b1.size)).mono (by simp))));clear b0 hr0 hA HC HH b1 bA;generalize w1.alloc (.cells #[.int .i64 u0,.int .i64 u1,.int .i64 u2,.slice u3 u4 u5] 59)=X at *
 go_upto_region 3 with fail
 have hY:=jD hr5 (.int .i64 0) (.int .i64 0) (.int .u64 0) (.string ⟨#[]⟩) (.slice none 0 0) (.slice none 0 0);have HY:=jd hY;have HF:=jd (jw (Below.refl w.heap.size X) (b:=w.heap.size) (Nat.le_refl _) (.int .i64 0) (.int .i64 0) (.int .u64 0) (.string ⟨#[]⟩) (.slice none 0 0) (.slice none 0 0));have x0:=hr5.cell 0 _ rfl;have x1:=hr5.cell 1 _ rfl;have x2:=hr5.cell 2 _ rfl;have x3:=hr5.cell 3 _ rfl;have x4:=hr5.cell 4 _ rfl;have x5:=hr5.cell 5 _ rfl;have z0:=Blk.froz hr5 0;have z1:=Blk.froz hr5 1;have z2:=Blk.froz hr5 2;have z3:=Blk.froz hr5 3;have z4:=Blk.froz hr5 4;have z5:=Blk.froz hr5 5;clear hY;go_wp2;have hY:=HY.out;have hF:=HF.out;clear HY HF x0 x1 x2 x3 x4 x5 z0 z1 z2 z3 z4 z5 ;generalize hXX:jM X w.heap.size (.int .i64 0) (.int .i64 0) (.int .u64 0) (.string ⟨#[]⟩) (.slice none 0 0) (.slice none 0 0)=Y at hY hF;simp only [jM] at hXX;rw [hXX];clear hXX
 refine bodyPost_ret (zG _ hY) rfl ?_
 obtain⟨hA,bX⟩:=FIN.out;exact⟨.inr ⟨(p,e),rfl,hA⟩,bX.trans hF⟩
theorem jgn (w:World)(s:ByteArray)(hs:s.size<=20000)(hM:MaxOk w)(hT:Lib.Utf8Tabs 1 2 w)(t:trees.T)(hp:pd (q7 s.data.toList)=.inr (t,[])) :
  Calls Tryz.prog 11 #[.string s] w (jfN s w):=by
 have b0:Below w.heap.size w (w.alloc (.cells #[.int .i64 0,.int .i64 0,.int .u64 0,.string ⟨#[]⟩,.slice none 0 0,.slice none 0 0] 26)):=(Below.refl _ w).alloc (Nat.le_refl _) _;have s0:(w.alloc (.cells #[.int .i64 0,.int .i64 0,.int .u64 0,.string ⟨#[]⟩,.slice none 0 0,.slice none 0 0] 26)).heap.size=w.heap.size+1:=by simp
 have hr0:=jf w #[.int .i64 0,.int .i64 0,.int .u64 0,.string ⟨#[]⟩,.slice none 0 0,.slice none 0 0] 26;have HP:=trees.jbA (w.alloc (.cells #[.int .i64 0,.int .i64 0,.int .u64 0,.string ⟨#[]⟩,.slice none 0 0,.slice none 0 0] 26)) s hs (hM.below (Nat.le_refl _) b0);have hdoc:QU (jv s.data.toList).length (q7 s.data.toList)=.inr (nd 6 0 (jv s.data.toList).length [t],[]):=by unfold QU;rw [hp]
 rw [hdoc] at HP
 have HPP:Calls Tryz.prog 29 #[.string s] (w.alloc (.cells #[.int .i64 0,.int .i64 0,.int .u64 0,.string ⟨#[]⟩,.slice none 0 0,.slice none 0 0] 26)) fun r w'=>(∃(dk da de:Int) (kb ko dc:Nat),r=.returned (.tuple #[.agg #[.int .i64 dk,.int .i64 da,.int .i64 de,.slice (some ⟨kb,ko,none⟩) 1 dc],.int .i64 0,.int .i64 0])/\kb<w'.heap.size/\∃us:List Value,us.length=4/\(∀i,i<4->w'.cell? ⟨kb,ko+i,none⟩=us[i]?)/\Lies (fun q=>q<w'.heap.size) 40 w' us t)/\Below (w.alloc (.cells #[.int .i64 0,.int .i64 0,.int .u64 0,.string ⟨#[]⟩,.slice none 0 0,.slice none 0 0] 26)).heap.size (w.alloc (.cells #[.int .i64 0,.int .i64 0,.int .u64 0,.string ⟨#[]⟩,.slice none 0 0,.slice none 0 0] 26)) w':=by
  refine HP.mono ?_
  rintro r w' ⟨hb,u0,u1,u2,u3,rfl,hl⟩
  refine⟨?_,hb⟩
  have hfin:∀(f:Nat) (us:List Value) (x:trees.T),Lies (fun b=>(w.alloc (.cells #[.int .i64 0,.int .i64 0,.int .u64 0,.string ⟨#[]⟩,.slice none 0 0,.slice none 0 0] 26)).heap.size<=b) f w' us x->Lies (fun q=>q<w'.heap.size) f w' us x:=by
   intro f
   induction f with
   | zero=>exact fun us x h=>h.elim
   | succ f ih=>
    rintro us x ⟨k,a,e,l,p,cap,h1,h2,h3,h4⟩
    refine⟨k,a,e,l,p,cap,h1,h2,h3,fun hl=>?_⟩;obtain⟨b,o,q1,q2,q3,q4⟩:=h4 hl;refine⟨b,o,q1,q3,q3,fun j hj=>?_⟩;obtain⟨vs,v1,v2,v3⟩:=q4 j hj;exact⟨vs,v1,v2,ih vs _ v3⟩
  obtain⟨k,a,e,l,p,cap,h1,h2,h3,h4⟩:=hl;obtain⟨rfl,rfl,rfl,rfl⟩:=trees.qh h1;obtain⟨kb,ko,rfl,_,hlt,hk⟩:=h4 (by simp);injection h2 with e0 h2;injection h2 with e1 h2;injection h2 with e2 h2;injection h2 with e3 _;subst e0 e1 e2 e3;obtain⟨us,q1,q2,q3⟩:=hk 0 (by simp);refine⟨_,_,_,kb,ko,cap,rfl,hlt,us,q1,fun i hi=>?_,hfin _ _ _ q3⟩;have:=q2 i hi;rwa [Nat.zero_mul,Nat.add_zero] at this
 have HC:=jd HPP;have HH:=jd (And.intro b0 (And.intro s0 (And.intro hr0 (And.intro hM (And.intro hT hp)))));clear b0 hr0 HP hdoc HPP hM hT s0 hp
 go_enter Tryz.func11,Tryz.ntmps11
 go_upto_region 2 with (go_at_call 29;refine(ja HC).mono ?_;rintro r w1 ⟨⟨dk,da,de,kb,ko,dc,rfl,hkb,us,hus,hce,hly⟩,b1⟩)
 obtain⟨b0,s0,hr0,hM,hT,hp⟩:=HH.out
 have hfrm:∃(tk ta te:Int) (tp:Option Addr) (tl tc:Nat),us=[.int .i64 tk,.int .i64 ta,.int .i64 te,.slice tp tl tc]:=by
  obtain⟨a1,a2,a3,a4,a5,a6,_,rfl,_⟩:=hly;exact⟨_,_,_,_,_,_,rfl⟩
 obtain⟨tk,ta,te,tp,tl,tc,rfl⟩:=hfrm;have bA:Below w1.heap.size w1 (w1.alloc (.cells #[.int .i64 dk,.int .i64 da,.int .i64 de,.slice (some ⟨kb,ko,none⟩) 1 dc] 59)):=(Below.refl _ w1).alloc (Nat.le_refl _) _;have hN:=jf w1 #[.int .i64 dk,.int .i64 da,.int .i64 de,.slice (some ⟨kb,ko,none⟩) 1 dc] 59;have bP:Below w.heap.size w (w1.alloc (.cells #[.int .i64 dk,.int .i64 da,.int .i64 de,.slice (some ⟨kb,ko,none⟩) 1 dc] 59)):=b0.trans ((b1.trans (bA.mono b1.size)).mono (by omega));have KC:=jd (toks.jfQ s (w1.alloc (.cells #[.int .i64 dk,.int .i64 da,.int .i64 de,.slice (some ⟨kb,ko,none⟩) 1 dc] 59)) hs (hM.below (Nat.le_refl _) bP))
 have HA:Hid (Below w.heap.size w (w1.alloc (.cells #[.int .i64 dk,.int .i64 da,.int .i64 de,.slice (some ⟨kb,ko,none⟩) 1 dc] 59))/\Blk (w1.alloc (.cells #[.int .i64 dk,.int .i64 da,.int .i64 de,.slice (some ⟨kb,ko,none⟩) 1 dc] 59)) w.heap.size #[.int .i64 0,.int .i64 0,.int .u64 0,.string ⟨#[]⟩,.slice none 0 0,.slice none 0 0] 26/\Blk (w1.alloc (.cells #[.int .i64 dk,.int .i64 da,.int .i64 de,.slice (some ⟨kb,ko,none⟩) 1 dc] 59)) w1.heap.size #[.int .i64 dk,.int .i64 da,.int .i64 de,.slice (some ⟨kb,ko,none⟩) 1 dc] 59/\kb<w1.heap.size/\(∀i,i<4->(w1.alloc (.cells #[.int .i64 dk,.int .i64 da,.int .i64 de,.slice (some ⟨kb,ko,none⟩) 1 dc] 59)).cell? ⟨kb,ko+i,none⟩=[Value.int .i64 tk,.int .i64 ta,.int .i64 te,.slice tp tl tc][i]?)/\Lies (fun q=>q<w1.heap.size) 40 (w1.alloc (.cells #[.int .i64 dk,.int .i64 da,.int .i64 de,.slice (some ⟨kb,ko,none⟩) 1 dc] 59)) [.int .i64 tk,.int .i64 ta,.int .i64 te,.slice tp tl tc] t/\w.heap.size<w1.heap.size):=jd ⟨bP,(hr0.below b1).below bA,hN,hkb,fun i hi=>(bA.cell (p:=⟨kb,ko+i,none⟩) hkb).trans (hce i hi),hly.below bA,by have:=b1.size;omega⟩
 clear HC b0 s0 hr0 b1 bA hN bP hM hce hly hus hkb;generalize hP0:w1.alloc (.cells #[.int .i64 dk,.int .i64 da,.int .i64 de,.slice (some ⟨kb,ko,none⟩) 1 dc] 59)=P at KC HA;obtain⟨N,hNN⟩:∃N,N=w1.heap.size:=⟨_,rfl⟩
 rw [<-hNN] at HA ⊢;clear hP0 hNN HH;have HT:=jd (And.intro hT hp);clear hT hp
 go_upto_region 6 with (go_at_call 15;refine(ja KC).mono ?_;rintro r w3 ⟨v,rfl,⟨ta0,cap,rfl,hcap,hRT⟩,b3⟩)
 obtain⟨bP,hr3,hN3,hkb,hce,hly,hwN⟩:=HA.out;obtain⟨hT,hp⟩:=HT.out;have g:=trees.good s hs;obtain⟨L,hL⟩:∃L,L=jv s.data.toList:=⟨_,rfl⟩
 rw [<-hL] at g hRT hcap ⊢
 have hLl:L.length<=20000:=by
  rw [hL,toks.jir];exact Nat.le_trans (toks.jdI 0 _) hs
 have hgd:∀(j:Nat) (h:j<L.length),L[j].fro<=L[j].til/\L[j].til<=s.size:=by
  subst hL;intro j hj;obtain⟨a1,a2,a3,a4,a5,_⟩:=toks.jb9 j 0 s.data.toList (jv s.data.toList)[j] (List.getElem?_eq_getElem hj);have e:s.data.toList.length=s.size:=rfl;omega
 have bR:Below w3.heap.size w3 (w3.alloc (.cells #[.string s,.slice ta0 L.length cap,.int .i64 0,.int .i64 0] 63)):=(Below.refl _ w3).alloc (Nat.le_refl _) _;have hRb:=jf w3 #[.string s,.slice ta0 L.length cap,.int .i64 0,.int .i64 0] 63;have b3R:=b3.trans (bR.mono b3.size);have hP3:=b3.size;have hNP:=hN3.lt
 have hmX:MRd (w3.alloc (.cells #[.string s,.slice ta0 L.length cap,.int .i64 0,.int .i64 0] 63)) w3.heap.size s L 0 0:=by
  refine⟨ta0,cap,hRb,hcap,by omega,fun h0=>?_⟩;obtain⟨q,o,e1,e2,e3⟩:=hRT h0;refine⟨q,o,e1,e2,fun j hj=>?_⟩;obtain⟨c0,c1,c2⟩:=e3 j hj;exact⟨(bR.cell (p:=⟨q,o+j*3,none⟩) e2).trans c0,(bR.cell (p:=⟨q,o+j*3+1,none⟩) e2).trans c1,(bR.cell (p:=⟨q,o+j*3+2,none⟩) e2).trans c2⟩
 have bX:Below w.heap.size w (w3.alloc (.cells #[.string s,.slice ta0 L.length cap,.int .i64 0,.int .i64 0] 63)):=bP.trans (b3R.mono bP.size)
 have hTX:Tabs w3.heap.size (w3.alloc (.cells #[.string s,.slice ta0 L.length cap,.int .i64 0,.int .i64 0] 63)):=by
  have hws:=bP.size;refine⟨Utf8Tabs_below hT bX,?_,?_⟩
  ·have:=World.block_lt_of_cell? w _ (hT.1 0 (by decide))
   simp only at this;omega
  ·have:=World.block_lt_of_cell? w _ (hT.2 0 (by decide)).1
   simp only at this;omega
 have hlX:Lies (fun q=>q<w3.heap.size) 40 (w3.alloc (.cells #[.string s,.slice ta0 L.length cap,.int .i64 0,.int .i64 0] 63)) [.int .i64 tk,.int .i64 ta,.int .i64 te,.slice tp tl tc] t:=(hly.kept b3R.size (fun q _ hq=>b3R.block q hq)).weaken (fun q hq=>by omega);have hpv:=trees.jbn (trees.jeY hp).2;have hsl:(q7 s.data.toList).length<=20000:=trees.jef s hs;have HS:=jd hs;have hform:Xx L.length 20 t:=jcf L.length 20 (q7 s.data.toList) t (fun x hx=>by rw [hL];exact trees.jhY hx) hsl hpv;have C:=jdG w3.heap.size s L (by omega) hgd 20 t hform 40 (Nat.le_refl _) (w3.alloc (.cells #[.string s,.slice ta0 L.length cap,.int .i64 0,.int .i64 0] 63)) 0 0 _ _ _ _ hmX hlX hTX;have HC:=jd C;have hrX:=(hr3.below b3R)
 have hNX:=(hN3.below b3R)
 have hcX:∀i,i<4->(w3.alloc (.cells #[.string s,.slice ta0 L.length cap,.int .i64 0,.int .i64 0] 63)).cell? ⟨kb,ko+i,none⟩=[Value.int .i64 tk,.int .i64 ta,.int .i64 te,.slice tp tl tc][i]?:=fun i hi=>(b3R.cell (p:=⟨kb,ko+i,none⟩) (show kb<P.heap.size by omega)).trans (hce i hi)
 have hsX:(w3.alloc (.cells #[.string s,.slice ta0 L.length cap,.int .i64 0,.int .i64 0] 63)).heap.size=w3.heap.size+1:=by simp
 have hwR:w.heap.size<w3.heap.size:=by omega
 have HG:=jd (And.intro bX (And.intro hrX (And.intro hTX (And.intro hsX (And.intro hwR (And.intro hp (And.intro hpv hsl)))))));have n3:=hNX.cell 3 _ rfl;simp only [List.getElem_toArray,List.getElem_cons_zero,List.getElem_cons_succ] at n3;have k0:=hcX 0 (by omega);have k1:=hcX 1 (by omega);have k2:=hcX 2 (by omega);have k3:=hcX 3 (by omega);simp only [List.getElem?_cons_zero,List.getElem?_cons_succ,Nat.add_zero] at k0 k1 k2 k3;have HL:=jd hL;clear C hrX hNX hcX hsX hwR bX hTX hlX hpv hsl hform bR hRb b3R hmX hgd hP3 hNP g hLl hRT hcap b3 bP hr3 hN3 hkb hce hly hwN hT hp HA HT KC hL hs;generalize hXX:w3.alloc (.cells #[.string s,.slice ta0 L.length cap,.int .i64 0,.int .i64 0] 63)=X at *;obtain⟨R,hR⟩:∃R,R=w3.heap.size:=⟨_,rfl⟩
 rw [<-hR] at HC HG ⊢;clear hR hXX
 go_upto_region 7 with (go_at_call 30;refine(ja HC).mono ?_;rintro e1 w5 ⟨hres,o5⟩;rcases hres with ⟨vk,nn,b,z,pL,nL,cL,pE,nE,cE,v,rfl,hRel,hlv,hm5⟩ | ⟨pq,rfl,hRel,hm5⟩)
 ·obtain⟨bX,hrX,hTX,hsX,hwR,hp,hpv,hsl⟩:=HG.out
  have hL:=HL.out;subst hL;have bV:Below w5.heap.size w5 (w5.alloc (.cells #[.int .i64 vk,.int .i64 nn,.int .u64 (b:Int),.string z,.slice pL nL cL,.slice pE nE cE] 26)):=(Below.refl _ w5).alloc (Nat.le_refl _) _;have hD:=jf w5 #[.int .i64 vk,.int .i64 nn,.int .u64 (b:Int),.string z,.slice pL nL cL,.slice pE nE cE] 26;have o6:=o5.trans (js (R:=R) bV);have hr6:Blk (w5.alloc (.cells #[.int .i64 vk,.int .i64 nn,.int .u64 (b:Int),.string z,.slice pL nL cL,.slice pE nE cE] 26)) w.heap.size #[.int .i64 0,.int .i64 0,.int .u64 0,.string ⟨#[]⟩,.slice none 0 0,.slice none 0 0] 26:=(o6.block w.heap.size (by omega) (fun e=>by have:=Option.some.inj e;omega)).trans hrX;have hT6:=hTX.only (by omega) o6
  have hb6:Below w.heap.size w (w5.alloc (.cells #[.int .i64 vk,.int .i64 nn,.int .u64 (b:Int),.string z,.slice pL nL cL,.slice pE nE cE] 26)):=⟨o6.os.trans bX.os,o6.tape.trans bX.tape,o6.output.trans bX.output,Nat.le_trans bX.size o6.size,fun q hq=>(o6.block q (by have:=bX.size;omega) (fun e=>by have:=Option.some.inj e;omega)).trans (bX.block q hq)⟩
  have hl6:LiesV (fun q=>w.heap.size<=q/\q<w5.heap.size/\w.heap.size<q) 40 (w5.alloc (.cells #[.int .i64 vk,.int .i64 nn,.int .u64 (b:Int),.string z,.slice pL nL cL,.slice pE nE cE] 26)) [.int .i64 vk,.int .i64 nn,.int .u64 (b:Int),.string z,.slice pL nL cL,.slice pE nE cE] v:=hlv.kept (fun q hq=>⟨by omega,hq.2,by omega⟩) bV.size (fun q hq _=>bV.block q hq.2)
  have hnd:jP 40 v<=10000000:=by
   have:=jaF (kr:=zY s (jv s.data.toList)) (lf:=J8 s (jv s.data.toList)) (fun a v h=>by
    obtain⟨_,lab,er,_,h⟩:=h
    rcases h with ⟨_,h⟩ | ⟨_,h⟩
    ·injection h with h
     exact⟨lab,h⟩
    ·cases h) 0 20 20 (q7 s.data.toList) t v hpv hRel 40
   omega
  have hs6:(w5.alloc (.cells #[.int .i64 vk,.int .i64 nn,.int .u64 (b:Int),.string z,.slice pL nL cL,.slice pE nE cE] 26)).heap.size=w5.heap.size+1:=by simp
  have KC:=jd (callsIn_wide.1 (jbq 40 (w5.alloc (.cells #[.int .i64 vk,.int .i64 nn,.int .u64 (b:Int),.string z,.slice pL nL cL,.slice pE nE cE] 26)) v _ _ _ _ _ _ (hl6.kept (fun q hq=>by omega) (Nat.le_refl _) (fun _ _ _=>rfl)) hnd hT6.1));have HA:=jd (And.intro hr6 (And.intro hD (And.intro hb6 (And.intro hl6 (And.intro hs6 (And.intro hp (And.intro hRel hwR)))))));obtain⟨fv,hfv⟩:∃fv,fv=jU qi v:=⟨_,rfl⟩
  rw [<-hfv] at KC;have HFV:=jd hfv;have q0:=hD.cell 0 _ rfl;have q1:=hD.cell 1 _ rfl;have q2:=hD.cell 2 _ rfl;have q3:=hD.cell 3 _ rfl;have q4:=hD.cell 4 _ rfl;have q5:=hD.cell 5 _ rfl;clear bV hD o6 hr6 hT6 hb6 hl6 hnd hs6 hp hRel hwR bX hrX hTX hsX hpv hsl o5 hlv hm5 HC HG HL n3 k0 k1 k2 k3 hfv;generalize hPP:w5.alloc (.cells #[.int .i64 vk,.int .i64 nn,.int .u64 (b:Int),.string z,.slice pL nL cL,.slice pE nE cE] 26)=P5 at KC HA q0 q1 q2 q3 q4 q5 ⊢;obtain⟨B,hB⟩:∃B,B=w5.heap.size:=⟨_,rfl⟩
  rw [<-hB] at HA q0 q1 q2 q3 q4 q5 ⊢;clear hPP hB;cases h0:(fv != 0) with
  | true=>
   go_upto_region 11 with (go_at_call 17;refine(ja KC).mono ?_;rintro e2 w6 ⟨rfl,b6⟩)
   obtain⟨hr6,hD,hb6,hl6,hs6,hp,hRel,hwR⟩:=HA.out;have hr5:=hr6.below b6;have FIN:=jd (And.intro (show qx s (.inr (0,fv)) from .inr ⟨HS.out,.inr ⟨t,hp,.inr ⟨v,hRel,.inr ⟨fun e=>by rw [HFV.out,e] at h0;simp at h0,by rw [HFV.out]⟩⟩⟩⟩) (hb6.trans (b6.mono hb6.size)));clear hr6 hD hb6 hl6 hs6 hp hRel hwR b6 KC HA HFV q0 q1 q2 q3 q4 q5;have hY:=jD hr5 (.int .i64 0) (.int .i64 0) (.int .u64 0) (.string ⟨#[]⟩) (.slice none 0 0) (.slice none 0 0);have HY:=jd hY;have HF:=jd (jw (Below.refl w.heap.size w6) (b:=w.heap.size) (Nat.le_refl _) (.int .i64 0) (.int .i64 0) (.int .u64 0) (.string ⟨#[]⟩) (.slice none 0 0) (.slice none 0 0));have x0:=hr5.cell 0 _ rfl;have x1:=hr5.cell 1 _ rfl;have x2:=hr5.cell 2 _ rfl;have x3:=hr5.cell 3 _ rfl;have x4:=hr5.cell 4 _ rfl;have x5:=hr5.cell 5 _ rfl;have z0:=Blk.froz hr5 0;have z1:=Blk.froz hr5 1;have z2:=Blk.froz hr5 2
   have z3:=Blk.froz hr5 3;have z4:=Blk.froz hr5 4;have z5:=Blk.froz hr5 5;clear hY;go_wp2;have hY:=HY.out;have hF:=HF.out;clear HY HF x0 x1 x2 x3 x4 x5 z0 z1 z2 z3 z4 z5 ;generalize hXX:jM w6 w.heap.size (.int .i64 0) (.int .i64 0) (.int .u64 0) (.string ⟨#[]⟩) (.slice none 0 0) (.slice none 0 0)=Y at hY hF;simp only [jM] at hXX;rw [hXX];clear hXX;refine bodyPost_ret (zG _ hY) rfl ?_
   obtain⟨hA,bX⟩:=FIN.out;exact⟨.inr ⟨(0,fv),rfl,hA⟩,bX.trans hF⟩
  | false=>
   have hfz:fv=0:=by simpa using h0
   subst hfz
   go_upto_region 12 with (go_at_call 17;refine(ja KC).mono ?_;rintro e2 w6 ⟨rfl,b6⟩)
   obtain⟨hr6,hD,hb6,hl6,hs6,hp,hRel,hwR⟩:=HA.out;have hr5:=hr6.below b6;have hD6:=hD.below b6;have hv6:LiesV (fun q=>w.heap.size<q/\q<w6.heap.size) 40 w6 [.int .i64 vk,.int .i64 nn,.int .u64 (b:Int),.string z,.slice pL nL cL,.slice pE nE cE] v:=hl6.kept (fun q hq=>⟨hq.2.2,by have:=b6.size;omega⟩) b6.size (fun q hq _=>b6.block q (by omega));have FIN:=jd (And.intro (show qx s (.inl v) from .inr ⟨HS.out,.inr ⟨t,hp,.inr ⟨v,hRel,.inl ⟨HFV.out.symm,rfl⟩⟩⟩⟩) (And.intro hv6 (hb6.trans (b6.mono hb6.size))));clear hr6 hD hb6 hl6 hs6 hp hRel hwR b6 KC HA HFV q0 q1 q2 q3 q4 q5 h0 hv6;have hY:=jD hr5 (.int .i64 vk) (.int .i64 nn) (.int .u64 (b:Int)) (.string z) (.slice pL nL cL) (.slice pE nE cE);have HY:=jd hY
   have HF:=jd (jw (Below.refl w.heap.size w6) (b:=w.heap.size) (Nat.le_refl _) (.int .i64 vk) (.int .i64 nn) (.int .u64 (b:Int)) (.string z) (.slice pL nL cL) (.slice pE nE cE));have x0:=hr5.cell 0 _ rfl;have x1:=hr5.cell 1 _ rfl;have x2:=hr5.cell 2 _ rfl;have x3:=hr5.cell 3 _ rfl;have x4:=hr5.cell 4 _ rfl;have x5:=hr5.cell 5 _ rfl;have z0:=Blk.froz hr5 0;have z1:=Blk.froz hr5 1;have z2:=Blk.froz hr5 2;have z3:=Blk.froz hr5 3;have z4:=Blk.froz hr5 4;have z5:=Blk.froz hr5 5;have q0:=hD6.cell 0 _ rfl;have q1:=hD6.cell 1 _ rfl;have q2:=hD6.cell 2 _ rfl;have q3:=hD6.cell 3 _ rfl;have q4:=hD6.cell 4 _ rfl;have q5:=hD6.cell 5 _ rfl;clear hY;go_wp2;have hY:=HY.out;have hF:=HF.out;clear HY HF x0 x1 x2 x3 x4 x5 z0 z1 z2 z3 z4 z5 q0 q1 q2 q3 q4 q5
   have HOT:=jd (fun q (hq:w.heap.size<q)=>qk w6 w.heap.size q (by omega) (.int .i64 vk) (.int .i64 nn) (.int .u64 (b:Int)) (.string z) (.slice pL nL cL) (.slice pE nE cE));generalize hXX:jM w6 w.heap.size (.int .i64 vk) (.int .i64 nn) (.int .u64 (b:Int)) (.string z) (.slice pL nL cL) (.slice pE nE cE)=Y at hY hF HOT;simp only [jM] at hXX;rw [hXX];clear hXX;refine bodyPost_ret (zG _ hY) rfl ?_
   obtain⟨hA,hv6,bX⟩:=FIN.out;have hsz:=hF.size;exact⟨.inl ⟨vk,nn,b,z,pL,nL,cL,pE,nE,cE,v,rfl,hA,hv6.kept (fun q hq=>by omega) hsz (fun q hq _=>HOT.out q (by omega))⟩,bX.trans hF⟩
 ·obtain⟨bX,hrX,hTX,hsX,hwR,hp,hpv,hsl⟩:=HG.out
  have hL:=HL.out;subst hL;have bV:Below w5.heap.size w5 (w5.alloc (.cells #[.int .i64 0,.int .i64 0,.int .u64 0,.string ⟨#[]⟩,.slice none 0 0,.slice none 0 0] 26)):=(Below.refl _ w5).alloc (Nat.le_refl _) _;have o6:=o5.trans (js (R:=R) bV);have hr5:Blk (w5.alloc (.cells #[.int .i64 0,.int .i64 0,.int .u64 0,.string ⟨#[]⟩,.slice none 0 0,.slice none 0 0] 26)) w.heap.size #[.int .i64 0,.int .i64 0,.int .u64 0,.string ⟨#[]⟩,.slice none 0 0,.slice none 0 0] 26:=(o6.block w.heap.size (by omega) (fun e=>by have:=Option.some.inj e;omega)).trans hrX
  have hb6:Below w.heap.size w (w5.alloc (.cells #[.int .i64 0,.int .i64 0,.int .u64 0,.string ⟨#[]⟩,.slice none 0 0,.slice none 0 0] 26)):=⟨o6.os.trans bX.os,o6.tape.trans bX.tape,o6.output.trans bX.output,Nat.le_trans bX.size o6.size,fun q hq=>(o6.block q (by have:=bX.size;omega) (fun e=>by have:=Option.some.inj e;omega)).trans (bX.block q hq)⟩
  have hm6:=hm5.later bV;obtain⟨P1,P2⟩:=pq;obtain⟨aR,cR,hRB,_,_,_⟩:=hm6;have hneq:R≠w.heap.size:=by omega
  have FIN:=jd (And.intro (show qx s (.inr (P1,P2)) from .inr ⟨HS.out,.inr ⟨t,hp,.inl ⟨_,hRel,rfl⟩⟩⟩) hb6);clear bV o6 hb6 hp hRel hwR bX hrX hTX hsX hpv hsl o5 hm5 HC HG HL n3 k0 k1 k2 k3;generalize w5.alloc (.cells #[.int .i64 0,.int .i64 0,.int .u64 0,.string ⟨#[]⟩,.slice none 0 0,.slice none 0 0] 26)=X6 at *;have r2:=hRB.cell 2 _ rfl;have r3:=hRB.cell 3 _ rfl;simp only [List.getElem_toArray,List.getElem_cons_zero,List.getElem_cons_succ] at r2 r3;clear hRB;have hneR:=hneq;have hY:=jD hr5 (.int .i64 0) (.int .i64 0) (.int .u64 0) (.string ⟨#[]⟩) (.slice none 0 0) (.slice none 0 0);have hF:=jw (Below.refl w.heap.size X6) (b:=w.heap.size) (Nat.le_refl _) (.int .i64 0) (.int .i64 0) (.int .u64 0) (.string ⟨#[]⟩) (.slice none 0 0) (.slice none 0 0)
  have y2:(jM X6 w.heap.size (.int .i64 0) (.int .i64 0) (.int .u64 0) (.string ⟨#[]⟩) (.slice none 0 0) (.slice none 0 0)).cell? ⟨R,2,none⟩=some (.int .i64 P1):=(World.cell?_of_block (a:=⟨R,2,none⟩) (qk X6 w.heap.size R hneR (.int .i64 0) (.int .i64 0) (.int .u64 0) (.string ⟨#[]⟩) (.slice none 0 0) (.slice none 0 0))).trans r2
  have y3:(jM X6 w.heap.size (.int .i64 0) (.int .i64 0) (.int .u64 0) (.string ⟨#[]⟩) (.slice none 0 0) (.slice none 0 0)).cell? ⟨R,3,none⟩=some (.int .i64 P2):=(World.cell?_of_block (a:=⟨R,3,none⟩) (qk X6 w.heap.size R hneR (.int .i64 0) (.int .i64 0) (.int .u64 0) (.string ⟨#[]⟩) (.slice none 0 0) (.slice none 0 0))).trans r3
  simp only [jM] at y2 y3;have HY:=jd hY;have HF:=jd hF;have x0:=hr5.cell 0 _ rfl;have x1:=hr5.cell 1 _ rfl;have x2:=hr5.cell 2 _ rfl;have x3:=hr5.cell 3 _ rfl;have x4:=hr5.cell 4 _ rfl;have x5:=hr5.cell 5 _ rfl;have z0:=Blk.froz hr5 0;have z1:=Blk.froz hr5 1;have z2:=Blk.froz hr5 2;have z3:=Blk.froz hr5 3;have z4:=Blk.froz hr5 4;have z5:=Blk.froz hr5 5;clear hY hF hneR hneq hr5
  go_upto_region 8 with fail
  go_region
  clear x0 x1 x2 x3 x4 x5 z0 z1 z2 z3 z4 z5 y2 y3 r2 r3;go_wp2;obtain⟨Y,hYe⟩:∃Y,Y=(jM X6 w.heap.size (.int .i64 0) (.int .i64 0) (.int .u64 0) (.string ⟨#[]⟩) (.slice none 0 0) (.slice none 0 0)).drew:=⟨_,rfl⟩
  have hY2:Blk Y w.heap.size #[.int .i64 0,.int .i64 0,.int .u64 0,.string ⟨#[]⟩,.slice none 0 0,.slice none 0 0] 26:=by rw [hYe];exact jhK HY.out
  have hF2:Below w.heap.size X6 Y:=by rw [hYe];exact HF.out.drew
  simp only [jM] at hYe;rw [<-hYe];clear hYe HY HF;refine bodyPost_ret (zG _ hY2) rfl ?_
  obtain⟨hA,bX⟩:=FIN.out;exact⟨.inr ⟨(P1,P2),rfl,hA⟩,bX.trans hF2⟩
theorem jdt (w:World)(s:ByteArray)(hM:MaxOk w)(hT:Lib.Utf8Tabs 1 2 w):Calls Tryz.prog 11 #[.string s] w (jfN s w):=by
 have b0:Below w.heap.size w (w.alloc (.cells #[.int .i64 0,.int .i64 0,.int .u64 0,.string ⟨#[]⟩,.slice none 0 0,.slice none 0 0] 26)):=(Below.refl _ w).alloc (Nat.le_refl _) _
 by_cases hs:20000<s.size
 ·exact jc7 w s 0 2 rfl 0 0 0 none 0 0 (.inl ⟨hs,rfl⟩) (trees.jdj (w.alloc (.cells #[.int .i64 0,.int .i64 0,.int .u64 0,.string ⟨#[]⟩,.slice none 0 0,.slice none 0 0] 26)) s hs)
 ·cases hp:pd (q7 s.data.toList) with
  | inr q=>
   obtain⟨t,r⟩:=q;have hr:=(trees.jeY hp).1;subst hr;exact jgn w s (by omega) hM hT t hp
  | inl q=>
   obtain⟨c,ts⟩:=q;have HP:=trees.jbA (w.alloc (.cells #[.int .i64 0,.int .i64 0,.int .u64 0,.string ⟨#[]⟩,.slice none 0 0,.slice none 0 0] 26)) s (by omega) (hM.below (Nat.le_refl _) b0);have hd:QU (jv s.data.toList).length (q7 s.data.toList)=.inl (c,ts):=by unfold QU;rw [hp]
   rw [hd] at HP;obtain⟨_,_,_,hc⟩:=trees.jic hp;refine jc7 w s _ _ ?_ 0 0 0 none 0 0 (.inr ⟨by omega,.inl ⟨c,ts,hp,rfl⟩⟩) (HP.mono fun e w' h=>⟨h.2,h.1⟩)
   rcases hc with rfl | ⟨rfl,_⟩<;>rfl
open trees (nd Sym pv pd q7)
open toks (jv)
theorem jbu (s:ByteArray)(hs:s.size<=20000){t:trees.T}(h:pv 20 (q7 s.data.toList)=.inr (t,[])):Xx (jv s.data.toList).length 20 t :=
 jcf _ 20 _ t (fun x hx=>trees.jhY hx) (trees.jef s hs) h
theorem Qf {s:ByteArray}{v:V}(h:qx s (.inl v)):s.size<=20000/\Gr 20 (jcc s.data.toList) v/\jU qi v=0:=by
 rcases h with ⟨_,h⟩ | ⟨hs,⟨_,_,_,h⟩ | ⟨t,hp,⟨_,_,h⟩ | ⟨u,h1,⟨h2,h3⟩ | ⟨_,h⟩⟩⟩⟩
 ·cases h
 ·cases h
 ·cases h
 ·injection h3 with h3
  subst h3;have hpv:=trees.jbn (trees.jeY hp).2;have h4:=(Z9 rfl 20 t (.inl v) (jbu s hs hpv) 20).1 h1;have h5:=ji5 20 20 (q7 s.data.toList) t v (jbI s) hpv h4;rw [jgu] at h5;exact⟨hs,h5,h2⟩
 ·cases h
theorem jaa {G:List qy->V->Prop}(hG:∀S v,G S v->∀t∈S,t.1≠7):∀(vs:List V) (B:List qy),jes G vs B->∀t∈B,t.1≠7
 | [],B,h,t,ht=>by
  rw [show B=[(6,[93])] from h,List.mem_singleton] at ht;subst ht
  decide
 | v :: vs,B,h,t,ht=>by
  obtain⟨seg,c,rest,_,h2,rfl,h3⟩:=h;rw [List.mem_append,List.mem_cons] at ht
  rcases ht with ht | ht | ht
  ·exact hG seg v h2 t ht
  ·subst ht
   rcases h3 with ⟨rfl,_⟩ | ⟨rfl,_⟩<;>decide
  ·rcases h3 with ⟨_,h4⟩ | ⟨_,_,rfl⟩
   ·exact jaa hG vs rest h4 t ht
   ·simp at ht
theorem jal {G:List qy->V->Prop}(hG:∀S v,G S v->∀t∈S,t.1≠7):∀(es:List V) (keys:List (List UInt8)) (B:List qy),jfv G keys es B->∀t∈B,t.1≠7
 | [],keys,B,h,t,ht=>by
  rw [show B=[(6,[125])] from h,List.mem_singleton] at ht;subst ht
  decide
 | e :: es,keys,B,h,t,ht=>by
  obtain⟨kt,m,sv,c,rest,key,y,h1,_,_,hm,h2,_,rfl,h3⟩:=h;rw [List.mem_cons,List.mem_cons,List.mem_append,List.mem_cons] at ht
  rcases ht with ht | ht | ht | ht | ht
  ·subst ht
   omega
  ·subst ht
   rcases hm with rfl | rfl<;>decide
  ·exact hG sv y h2 t ht
  ·subst ht
   rcases h3 with ⟨rfl,_⟩ | ⟨rfl,_⟩<;>decide
  ·rcases h3 with ⟨_,h4⟩ | ⟨_,_,rfl⟩
   ·exact jal hG es _ rest h4 t ht
   ·simp at ht
theorem jdb:∀(lv:Nat) (S:List qy) (v:V),Gr lv S v->∀t∈S,t.1≠7
 | 0,_,_,h=>h.elim
 | lv+1,S,v,h=>by
  intro t ht;have ih:=jdb lv
  rcases h with ⟨k,src,lab,rfl,h2,_⟩ | ⟨B,vs,rfl,h2,_⟩ | ⟨B,es,E,rfl,h2,_⟩
  ·rw [List.mem_singleton] at ht
   subst ht;simp only;omega
  ·rcases List.mem_cons.1 ht with rfl | ht
   ·decide
   ·exact jaa ih vs B h2 t ht
  ·rcases List.mem_cons.1 ht with rfl | ht
   ·decide
   ·exact jal ih es [] B h2 t ht
theorem jfR {lv:Nat}{L:List UInt8}{v:V}(h:Gr lv (jcc L) v):jkS L:=fun t ht h7=>by
 refine jdb lv _ v h t ?_ h7
 unfold jcc;rw [List.mem_filter];exact⟨ht,by unfold jct;rw [h7];rfl⟩
theorem jdu {vs0:List V}{G G':List qy->V->Prop}(h:∀S v,v∈vs0->G S v->G' S v):∀(vs:List V) (B:List qy),(∀v∈vs,v∈vs0)->jes G vs B->jes G' vs B
 | [],_,_,h=>h
 | v :: vs,B,hv,hs=>by
  obtain⟨seg,c,rest,h1,h2,h3,h4⟩:=hs;refine⟨seg,c,rest,h1,h seg v (hv v (by simp)) h2,h3,?_⟩
  rcases h4 with ⟨h5,h6⟩ | h5
  ·exact .inl ⟨h5,jdu h vs rest (fun x hx=>hv x (by simp [hx])) h6⟩
  ·exact .inr h5
theorem jc2 {G G':List qy->V->Prop}{es0:List V}(h:∀S v k,ent k v∈es0->G S v->G' S v):∀(es:List V) (keys:List (List UInt8)) (B:List qy),(∀e∈es,e∈es0)->jfv G keys es B->jfv G' keys es B
 | [],_,_,_,h=>h
 | e :: es,keys,B,hv,hs=>by
  obtain⟨kt,m,sv,c,rest,key,y,h1,h2,h3,h4,h5,h6,h7,h8⟩:=hs;refine⟨kt,m,sv,c,rest,key,y,h1,h2,h3,h4,h sv y key (by rw [<-h6];exact hv e (by simp)) h5,h6,h7,?_⟩
  rcases h8 with ⟨h9,h10⟩ | h9
  ·exact .inl ⟨h9,jc2 h es _ rest (fun x hx=>hv x (by simp [hx])) h10⟩
  ·exact .inr h9
open trees (nd Sym pv)
open toks (jB isB isW isM noL jF jk)
theorem jeR:∀(lv n l:Nat) (S:List qy) (v:V),lv<=n->jO n v<=l->Gr lv S v->Gr l S v
 | 0,_,_,_,_,_,_,h=>h.elim
 | lv+1,0,_,_,_,hn,_,_=>by omega
 | lv+1,n+1,0,S,v,_,hd,_=>by
  have:jO (n+1) v=maxOf (jO n) (parts v)+1:=rfl;omega
 | lv+1,n+1,l+1,S,v,hn,hd,h=>by
  have hd':maxOf (jO n) (parts v)<=l:=by
   have:jO (n+1) v=maxOf (jO n) (parts v)+1:=rfl;omega
  have ih:∀(S:List qy) (x:V),x∈parts v->Gr lv S x->Gr l S x:=fun S x hx hg=>jeR lv n l S x (by omega) (Nat.le_trans (jdm hx) hd') hg
  rcases h with h | ⟨B,vs,h1,h2,h3⟩ | ⟨B,es,E,h1,h2,h3,h4,h5⟩
  ·exact .inl h
  ·refine .inr (.inl ⟨B,vs,h1,jdu (vs0:=vs) (fun S x hx=>ih S x ?_) vs B (fun x hx=>hx) h2,h3⟩)
   rw [h3,JH,List.map_nil,List.append_nil];exact hx
  ·refine .inr (.inr ⟨B,es,E,h1,jc2 (es0:=es) (fun S x k hx=>ih S x ?_) es [] B (fun x hx=>hx) h2,h3,h4,h5⟩)
   rw [h5,JH,List.nil_append,List.mem_map];exact⟨ent k x,h3.mem_iff.2 hx,rfl⟩
end valus
end Go.Proofs.YtnbfnjhbmeocfaaGreatDoor
