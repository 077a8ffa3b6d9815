/- Of our texts, what this claim reaches. -/
import Derived.Test.YtnbfnjhbmeocfaaGreatDoorPmtBI
import Derived.Test.YtnbfnjhbmeocfaaGreatDoorPmtBJ
import Derived.Maps.OwnSet
import Derived.Test.YtnbfnjhbmeocfaaGreatDoorPmtAH
set_option linter.unusedVariables false
set_option maxHeartbeats 8000000
set_option maxRecDepth 100000
namespace Go.Proofs.YtnbfnjhbmeocfaaGreatDoor
namespace valus
open Go.RowKit Go.Shelf
open trees (nd Lies)
abbrev YE (n R:Nat) (s:ByteArray) (l:List toks.Tk) (pl er:Int) (Rel:V⊕(Int×Int)->Prop) (w:World) (e:Ending) (w':World):Prop :=
 ((∃(k nn:Int) (b:Nat) (z:ByteArray) (pL:Option Addr) (nL cL:Nat) (pE:Option Addr) (nE cE:Nat) (v:V),e=.returned (.tuple #[.agg #[.int .i64 k,.int .i64 nn,.int .u64 (b:Int),.string z,.slice pL nL cL,.slice pE nE cE],.bool true])/\Rel (.inl v)/\LiesV (fun b=>w.heap.size<=b/\b<w'.heap.size) n w' [.int .i64 k,.int .i64 nn,.int .u64 (b:Int),.string z,.slice pL nL cL,.slice pE nE cE] v/\MRd w' R s l pl er)\/(∃pq:Int×Int,e=.returned (.tuple #[.agg #[.int .i64 0,.int .i64 0,.int .u64 0,.string ⟨#[]⟩,.slice none 0 0,.slice none 0 0],.bool false])/\Rel (.inr pq)/\MRd w' R s l pq.1 pq.2))/\Only R w w'
def Tabs (R:Nat)(w:World):Prop:=Lib.Utf8Tabs 1 2 w/\1<R/\2<R
theorem Tabs.only {R:Nat}{w w':World}(h:Tabs R w)(hR:R<w.heap.size)(ho:Only R w w'):Tabs R w':=by
 obtain⟨⟨h1,h2⟩,h3,h4⟩:=h;have hb:∀q,q<R->w'.heap[q]?=w.heap[q]?:=fun q hq=>ho.block q (by omega) (fun e=>by have:=Option.some.inj e;omega)
 refine⟨⟨fun c hc=>(World.cell?_of_block (a:=⟨1,c,none⟩) (hb _ h3)).trans (h1 c hc),fun i hi=>?_⟩,h3,h4⟩;obtain⟨a1,a2⟩:=h2 i hi;exact⟨(World.cell?_of_block (a:=⟨2,2*i,none⟩) (hb _ h4)).trans a1,(World.cell?_of_block (a:=⟨2,2*i+1,none⟩) (hb _ h4)).trans a2⟩
def jjC (n R:Nat)(s:ByteArray)(l:List toks.Tk)(t:trees.T)(Rel:V⊕(Int×Int)->Prop):Prop :=
 ∀(w:World) (pl er:Int) (u0 u1 u2 u3:Value),MRd w R s l pl er->Lies (fun b=>b<R) n w [u0,u1,u2,u3] t->Tabs R w->Calls Tryz.prog 30 #[.pointer (some ⟨R,0,none⟩),.agg #[u0,u1,u2,u3]] w (YE n R s l pl er Rel w)
def zp (Rl:trees.T->V⊕(Int×Int)->Prop):List trees.T->List V->V⊕(Int×Int)->Prop
 | [],acc,x=>x=.inl (mkV (5,0,0,[]) acc [])
 | t :: r,acc,x=>(∃v,Rl t (.inl v)/\zp Rl r (acc++[v]) x)\/∃pq,Rl t (.inr pq)/\x=.inr pq
theorem qk (w:World)(b q:Nat)(hq:q≠b)(u0 u1 u2 u3 u4 u5:Value):(jM w b u0 u1 u2 u3 u4 u5).heap[q]?=w.heap[q]?:=by
 unfold jM;rw [Below.heap_setCell _ _ _ _ hq,Below.heap_setCell _ _ _ _ hq,Below.heap_setCell _ _ _ _ hq,Below.heap_setCell _ _ _ _ hq,Below.heap_setCell _ _ _ _ hq,Below.heap_setCell _ _ _ _ hq]
theorem Z3 {w:World}{B:Nat}{u0 u1 u2 u3 u4 u5:Value}{x:Bool}(tmps:Array Value)(h:Blk w B #[u0,u1,u2,u3,u4,u5] 26)(ht:tmps[4]?=some (.pointer (some ⟨B,0,none⟩)):=by rfl)(hx:tmps[5]?=some (.bool x):=by rfl):(results Tryz.f61 tmps).run Tryz.prog w=.ok (.tuple #[.agg #[u0,u1,u2,u3,u4,u5],.bool x]) w:=by
 obtain⟨c0,c1,c2,c3,c4,c5⟩:=h.cells6;simp [results,Tryz.f61,ht,hx,go_sem,c0,c1,c2,c3,c4,c5]
theorem jin (n R:Nat)(s:ByteArray)(l:List toks.Tk)(pl er:Int)(Rl:trees.T->V⊕(Int×Int)->Prop)(w:World)(hm:MRd w R s l pl er)(hT:Tabs R w)(na ne:Int)(np:Option Addr)(nc:Nat)(T:List trees.T)(hTl:T.length<=nc/\T.length<=1000000)
  (hrow:T≠[]->∃b o,np=some ⟨b,o,none⟩/\b<R/\∀(j:Nat) (h:j<T.length),∃us:List Value,us.length=4/\(∀i,i<4->w.cell? ⟨b,o+j*4+i,none⟩=us[i]?)/\Lies (fun b=>b<R) n w us T[j]) (hk:∀t∈T,jjC n R s l t (Rl t)) :
  Calls Tryz.prog 61 #[.pointer (some ⟨R,0,none⟩),.agg #[.int .i64 5,.int .i64 na,.int .i64 ne,.slice np T.length nc]] w (YE (n+1) R s l pl er (zp Rl T []) w):=by
 have hRw:=hm.lt;have b0:Below w.heap.size w (((w.alloc (.cells #[.int .i64 5,.int .i64 na,.int .i64 ne,.slice np T.length nc] 59)).alloc (.cells #[.int .i64 0,.int .i64 0,.int .u64 0,.string ⟨#[]⟩,.slice none 0 0,.slice none 0 0] 26)).alloc (.cells #[.int .i64 5,.int .i64 0,.int .u64 0,.string ⟨#[]⟩,.slice none 0 0,.slice none 0 0] 26)):=(((Below.refl _ w).alloc (Nat.le_refl _) _).alloc (by simp) _).alloc (by simp;omega) _;have s0:(((w.alloc (.cells #[.int .i64 5,.int .i64 na,.int .i64 ne,.slice np T.length nc] 59)).alloc (.cells #[.int .i64 0,.int .i64 0,.int .u64 0,.string ⟨#[]⟩,.slice none 0 0,.slice none 0 0] 26)).alloc (.cells #[.int .i64 5,.int .i64 0,.int .u64 0,.string ⟨#[]⟩,.slice none 0 0,.slice none 0 0] 26)).heap.size=w.heap.size+3:=by simp
 have hn0:Blk (((w.alloc (.cells #[.int .i64 5,.int .i64 na,.int .i64 ne,.slice np T.length nc] 59)).alloc (.cells #[.int .i64 0,.int .i64 0,.int .u64 0,.string ⟨#[]⟩,.slice none 0 0,.slice none 0 0] 26)).alloc (.cells #[.int .i64 5,.int .i64 0,.int .u64 0,.string ⟨#[]⟩,.slice none 0 0,.slice none 0 0] 26)) w.heap.size #[.int .i64 5,.int .i64 na,.int .i64 ne,.slice np T.length nc] 59:=((jf w _ _).alloc _).alloc _
 have hr0:Blk (((w.alloc (.cells #[.int .i64 5,.int .i64 na,.int .i64 ne,.slice np T.length nc] 59)).alloc (.cells #[.int .i64 0,.int .i64 0,.int .u64 0,.string ⟨#[]⟩,.slice none 0 0,.slice none 0 0] 26)).alloc (.cells #[.int .i64 5,.int .i64 0,.int .u64 0,.string ⟨#[]⟩,.slice none 0 0,.slice none 0 0] 26)) (w.heap.size+1) #[.int .i64 0,.int .i64 0,.int .u64 0,.string ⟨#[]⟩,.slice none 0 0,.slice none 0 0] 26:=by
  have h:=(jf (w.alloc (.cells #[.int .i64 5,.int .i64 na,.int .i64 ne,.slice np T.length nc] 59)) #[.int .i64 0,.int .i64 0,.int .u64 0,.string ⟨#[]⟩,.slice none 0 0,.slice none 0 0] 26).alloc (.cells #[.int .i64 5,.int .i64 0,.int .u64 0,.string ⟨#[]⟩,.slice none 0 0,.slice none 0 0] 26);rwa [World.size_alloc] at h
 have hd0:Blk (((w.alloc (.cells #[.int .i64 5,.int .i64 na,.int .i64 ne,.slice np T.length nc] 59)).alloc (.cells #[.int .i64 0,.int .i64 0,.int .u64 0,.string ⟨#[]⟩,.slice none 0 0,.slice none 0 0] 26)).alloc (.cells #[.int .i64 5,.int .i64 0,.int .u64 0,.string ⟨#[]⟩,.slice none 0 0,.slice none 0 0] 26)) (w.heap.size+2) #[.int .i64 5,.int .i64 0,.int .u64 0,.string ⟨#[]⟩,.slice none 0 0,.slice none 0 0] 26:=by
  have h:=jf ((w.alloc (.cells #[.int .i64 5,.int .i64 na,.int .i64 ne,.slice np T.length nc] 59)).alloc (.cells #[.int .i64 0,.int .i64 0,.int .u64 0,.string ⟨#[]⟩,.slice none 0 0,.slice none 0 0] 26)) #[.int .i64 5,.int .i64 0,.int .u64 0,.string ⟨#[]⟩,.slice none 0 0,.slice none 0 0] 26;rwa [World.size_alloc,World.size_alloc] at h
 have ST:Hid (ML R w (((w.alloc (.cells #[.int .i64 5,.int .i64 na,.int .i64 ne,.slice np T.length nc] 59)).alloc (.cells #[.int .i64 0,.int .i64 0,.int .u64 0,.string ⟨#[]⟩,.slice none 0 0,.slice none 0 0] 26)).alloc (.cells #[.int .i64 5,.int .i64 0,.int .u64 0,.string ⟨#[]⟩,.slice none 0 0,.slice none 0 0] 26)) n 5 na ne np T.length nc [] none 0/\MRd (((w.alloc (.cells #[.int .i64 5,.int .i64 na,.int .i64 ne,.slice np T.length nc] 59)).alloc (.cells #[.int .i64 0,.int .i64 0,.int .u64 0,.string ⟨#[]⟩,.slice none 0 0,.slice none 0 0] 26)).alloc (.cells #[.int .i64 5,.int .i64 0,.int .u64 0,.string ⟨#[]⟩,.slice none 0 0,.slice none 0 0] 26)) R s l pl er):=jd ⟨⟨hd0,OwnR.nil _ _ _ _ _,hn0,hr0,js b0,by omega,hRw⟩,hm.later b0⟩;have a3:=hn0.cell 3 _ rfl;simp only [List.getElem_toArray,List.getElem_cons_zero,List.getElem_cons_succ] at a3;have HROW:=jd hrow;have HK:=jd hk
 have HT:=jd (And.intro hT (And.intro hm hRw));have hn63:T.length<=1000000:=hTl.2;clear b0 s0 hn0 hr0 hd0 hrow hk hT hm hRw hTl
 go_enter Tryz.func61,Tryz.ntmps61
 go_wp2;clear a3
 go_loopw [15] (fun a wr=>∃(j:Nat) (acc:List V) (p:Option Addr) (cp:Nat),a=.int .i64 j/\j<=T.length/\Hid (acc.length=j/\(∀x,zp Rl (T.drop j) acc x->zp Rl T [] x)/\ML R w wr n 5 na ne np T.length nc acc p cp/\MRd wr R s l pl er)) (fun a _=>T.length - (intOf a).toNat)
 case atStart=>exact⟨0,[],none,0,rfl,Nat.zero_le _,jd ⟨rfl,fun x h=>h,ST.out.1,ST.out.2⟩⟩
 case round=>
  obtain⟨j,acc,p,cp,rfl,hj,hh⟩:=hrel;obtain⟨hal,hup,hst,hmr⟩:=hh.out;obtain⟨hT0,hm0,hRw⟩:=HT.out;clear hh ST
  by_cases hlt:j<T.length
  ·have hltI:(j:Int)<(T.length:Int):=by omega
   obtain⟨bk,o,rfl,hbR,hcell⟩:=HROW.out (fun e=>by rw [e] at hlt;cases hlt);obtain⟨us,hus,hce,hly⟩:=hcell j hlt;have hlw:Lies (fun b=>b<R) n wr us T[j]:=hly.kept hst.b.size (fun q hq hq2=>hst.b.block q hq2 (fun e=>by have:=Option.some.inj e;omega))
   have hfrm:∃(tk ta te:Int) (tp:Option Addr) (tl tc:Nat),us=[.int .i64 tk,.int .i64 ta,.int .i64 te,.slice tp tl tc]:=by
    cases n with
    | zero=>exact hlw.elim
    | succ n=>
     obtain⟨a1,a2,a3,a4,a5,a6,_,rfl,_⟩:=hlw;exact⟨_,_,_,_,_,_,rfl⟩
   obtain⟨tk,ta,te,tp,tl,tc,rfl⟩:=hfrm;have hcw:∀i,i<4->wr.cell? ⟨bk,o+j*4+i,none⟩=[Value.int .i64 tk,.int .i64 ta,.int .i64 te,.slice tp tl tc][i]?:=fun i hi=>(World.cell?_of_block (a:=⟨bk,o+j*4+i,none⟩) (hst.b.block bk (by omega) (fun e=>by have:=Option.some.inj e;omega))).trans (hce i hi)
   have k0:wr.cell? ⟨bk,o+j*4,none⟩=some (.int .i64 tk):=hcw 0 (by omega)
   have k1:wr.cell? ⟨bk,o+j*4+1,none⟩=some (.int .i64 ta):=hcw 1 (by omega)
   have k2:wr.cell? ⟨bk,o+j*4+2,none⟩=some (.int .i64 te):=hcw 2 (by omega)
   have k3:wr.cell? ⟨bk,o+j*4+3,none⟩=some (.slice tp tl tc):=hcw 3 (by omega)
   have bA:Below wr.heap.size wr (wr.alloc (.cells #[.int .i64 tk,.int .i64 ta,.int .i64 te,.slice tp tl tc] 59)):=(Below.refl _ wr).alloc (Nat.le_refl _) _;have hst4:=hst.later (js bA);have hRr:=hmr.lt;have C:=HK.out T[j] (List.getElem_mem hlt) (wr.alloc (.cells #[.int .i64 tk,.int .i64 ta,.int .i64 te,.slice tp tl tc] 59)) pl er _ _ _ _ (hmr.later bA) (hlw.kept bA.size (fun q hq hq2=>bA.block q hq2)) ((hT0.only hRw hst.b).only hRr (js bA));have HC:=jd C;have HS4:=jd hst4;have HUP:=jd hup;have HAL:=jd hal;have HRR:=jd hRw;have hdr:T.drop j=T[j] :: T.drop (j+1):=List.drop_eq_getElem_cons hlt;have HDR:=jd hdr;clear C hst4 hst hup hmr hlw hly hcell hce hcw hus hbR hal hT0 hm0 hRw hdr bA hRr
   go_upto_region 6 with (go_at_call 30;refine(ja HC).mono ?_;rintro e1 w2 ⟨hres,o2⟩;rcases hres with ⟨vk,nn,b,z,pL,nL,cL,pE,nE,cE,v,rfl,hRel,hlv,hm2⟩ | ⟨pq,rfl,hRel,hm2⟩)
   ·obtain⟨p',cp',W',hrun,hdW,hnx,hkp⟩:=HS4.out.push o2 vk nn b z pL nL cL pE nE cE v hlv (by have:=HAL.out;omega)
    have hal:=HAL.out;have hA:=(HS4.out.later o2).later (js ((Below.refl _ w2).alloc (Nat.le_refl _) (.cells #[.int .i64 vk,.int .i64 nn,.int .u64 (b:Int),.string z,.slice pL nL cL,.slice pE nE cE] 26)));have d4:=hA.d.cell 4 _ rfl;have hX:=jf w2 #[.int .i64 vk,.int .i64 nn,.int .u64 (b:Int),.string z,.slice pL nL cL,.slice pE nE cE] 26;have x0:=hX.cell 0 _ rfl;have x1:=hX.cell 1 _ rfl;have x2:=hX.cell 2 _ rfl;have x3:=hX.cell 3 _ rfl;have x4:=hX.cell 4 _ rfl;have x5:=hX.cell 5 _ rfl;have hA2:=hA.d.alloc (.cells #[.int .i64 vk,.int .i64 nn,.int .u64 (b:Int),.string z,.slice pL nL cL,.slice pE nE cE] 26);have f4:=hA2.cell 4 _ rfl;have w4:=hdW.cell 4 _ rfl;have w4':=Blk.froz hdW 4;simp only [List.getElem_toArray,List.getElem_cons_zero,List.getElem_cons_succ] at d4 f4 w4
    have NX:Hid ((acc++[v]).length=j+1/\(∀x,zp Rl (T.drop (j+1)) (acc++[v]) x->zp Rl T [] x)/\ML R w (W'.setCell ⟨w.heap.size+2,4,none⟩ (.slice p' (acc.length+1) cp')) n 5 na ne (some ⟨bk,o,none⟩) T.length nc (acc++[v]) p' cp'/\MRd (W'.setCell ⟨w.heap.size+2,4,none⟩ (.slice p' (acc.length+1) cp')) R s l pl er):=jd ⟨by simp;omega,fun x hx=>HUP.out x (by rw [HDR.out];exact .inl ⟨v,hRel,hx⟩),hnx,by
     obtain⟨a,cap,g1,g2,g3,g4⟩:=hm2;exact⟨a,cap,(hkp R (Nat.le_refl R)).trans g1,g2,g3,g4.kept (fun q hq=>hkp q (Nat.le_of_lt hq))⟩⟩
    clear hnx hkp hA hA2 hdW hX HC HS4 hlv hm2 o2 hRel hal HUP HDR HAL k0 k1 k2 k3
    go_wp2_with (at_builtin;refine Lib.wpList_append_run _ rfl _ _ _ _ rfl _ _ rfl rfl _ _ hrun ?_)
    go_roundw
    case rel=>exact⟨j+1,acc++[v],p',cp',by go_num,hlt,NX⟩
    case measure=>simp only [intOf];omega
   ·have bB:Below w2.heap.size w2 (w2.alloc (.cells #[.int .i64 0,.int .i64 0,.int .u64 0,.string ⟨#[]⟩,.slice none 0 0,.slice none 0 0] 26)):=(Below.refl _ w2).alloc (Nat.le_refl _) _
    have hA:=(HS4.out.later o2).later (js bB);have hr5:=hA.r;have FIN:=jd (And.intro (HUP.out (.inr pq) (by rw [HDR.out];exact .inr ⟨pq,hRel,rfl⟩)) (And.intro (hm2.later bB) (And.intro hA.b (And.intro HRR.out hA.s))));clear hA bB HC HS4 o2 hRel hm2 HUP HDR HAL k0 k1 k2 k3;generalize w2.alloc (.cells #[.int .i64 0,.int .i64 0,.int .u64 0,.string ⟨#[]⟩,.slice none 0 0,.slice none 0 0] 26)=X at *
    go_upto_region 7 with fail
    have hY:=jD hr5 (.int .i64 0) (.int .i64 0) (.int .u64 0) (.string ⟨#[]⟩) (.slice none 0 0) (.slice none 0 0);have HY:=jd hY;have HF:=jd (jw (Below.refl (w.heap.size+1) X) (b:=w.heap.size+1) (Nat.le_refl _) (.int .i64 0) (.int .i64 0) (.int .u64 0) (.string ⟨#[]⟩) (.slice none 0 0) (.slice none 0 0));have x0:=hr5.cell 0 _ rfl;have x1:=hr5.cell 1 _ rfl;have x2:=hr5.cell 2 _ rfl;have x3:=hr5.cell 3 _ rfl;have x4:=hr5.cell 4 _ rfl;have x5:=hr5.cell 5 _ rfl;have z0:=Blk.froz hr5 0;have z1:=Blk.froz hr5 1;have z2:=Blk.froz hr5 2;have z3:=Blk.froz hr5 3;have z4:=Blk.froz hr5 4;have z5:=Blk.froz hr5 5;clear hY;go_wp2;have hY:=HY.out;have hF:=HF.out;clear HY HF x0 x1 x2 x3 x4 x5 z0 z1 z2 z3 z4 z5 ;generalize hXX:jM X (w.heap.size+1) (.int .i64 0) (.int .i64 0) (.int .u64 0) (.string ⟨#[]⟩) (.slice none 0 0) (.slice none 0 0)=Y at hY hF;simp only [jM] at hXX;rw [hXX]
    clear hXX;refine bodyPost_ret (Z3 _ hY) rfl ?_
    obtain⟨hLT,hmX,oX,hRw,hsX⟩:=FIN.out;obtain⟨a,cap,g1,g2,g3,g4⟩:=hmX;refine⟨.inr ⟨pq,rfl,hLT,⟨a,cap,(hF.block R (by omega)).trans g1,g2,g3,g4.kept (fun q hq=>hF.block q (by omega))⟩⟩,?_⟩;exact⟨hF.os.trans oX.os,hF.tape.trans oX.tape,hF.output.trans oX.output,Nat.le_trans oX.size hF.size,fun q hq hne=>(hF.block q (by omega)).trans (oX.block q hq hne)⟩
  ·obtain rfl:j=T.length:=by omega
   have hr5:=hst.r;have hD5:=hst.d;have FIN:=jd (And.intro (hup _ (by rw [List.drop_length];exact rfl)) (And.intro hmr (And.intro hst.b (And.intro hRw (And.intro hst.s hst.value)))));clear hup hmr hst hal hT0 hm0 hRw hlt hj HROW HK HT
   go_upto_region 10 with fail
   have hY:=jD hr5 (.int .i64 5) (.int .i64 0) (.int .u64 0) (.string ⟨#[]⟩) (.slice p acc.length cp) (.slice none 0 0);have HY:=jd hY;have HF:=jd (jw (Below.refl (w.heap.size+1) wr) (b:=w.heap.size+1) (Nat.le_refl _) (.int .i64 5) (.int .i64 0) (.int .u64 0) (.string ⟨#[]⟩) (.slice p acc.length cp) (.slice none 0 0));have x0:=hr5.cell 0 _ rfl;have x1:=hr5.cell 1 _ rfl;have x2:=hr5.cell 2 _ rfl;have x3:=hr5.cell 3 _ rfl;have x4:=hr5.cell 4 _ rfl;have x5:=hr5.cell 5 _ rfl;have z0:=Blk.froz hr5 0;have z1:=Blk.froz hr5 1;have z2:=Blk.froz hr5 2;have z3:=Blk.froz hr5 3;have z4:=Blk.froz hr5 4;have z5:=Blk.froz hr5 5;have q0:=hD5.cell 0 _ rfl;have q1:=hD5.cell 1 _ rfl;have q2:=hD5.cell 2 _ rfl;have q3:=hD5.cell 3 _ rfl;have q4:=hD5.cell 4 _ rfl;have q5:=hD5.cell 5 _ rfl;clear hY;go_wp2;have hY:=HY.out;have hF:=HF.out
   clear HY HF x0 x1 x2 x3 x4 x5 z0 z1 z2 z3 z4 z5 q0 q1 q2 q3 q4 q5;have HOT:=jd (fun q (hq:w.heap.size+3<=q)=>qk wr (w.heap.size+1) q (by omega) (.int .i64 5) (.int .i64 0) (.int .u64 0) (.string ⟨#[]⟩) (.slice p acc.length cp) (.slice none 0 0));generalize hXX:jM wr (w.heap.size+1) (.int .i64 5) (.int .i64 0) (.int .u64 0) (.string ⟨#[]⟩) (.slice p acc.length cp) (.slice none 0 0)=Y at hY hF HOT;simp only [jM] at hXX;rw [hXX];clear hXX;refine bodyPost_ret (Z3 _ hY) rfl ?_
   obtain⟨hLT,hmX,oX,hRw,hsX,hV⟩:=FIN.out;obtain⟨a,cap,g1,g2,g3,g4⟩:=hmX;have hsz:=hF.size;refine⟨.inl ⟨5,0,0,⟨#[]⟩,p,acc.length,cp,none,0,0,_,rfl,hLT,?_,⟨a,cap,(hF.block R (by omega)).trans g1,g2,g3,g4.kept (fun q hq=>hF.block q (by omega))⟩⟩,?_⟩
   ·exact hV.kept (fun q hq=>⟨by omega,by omega⟩) hsz (fun q hq _=>HOT.out q (by omega))
   ·exact⟨hF.os.trans oX.os,hF.tape.trans oX.tape,hF.output.trans oX.output,Nat.le_trans oX.size hF.size,fun q hq hne=>(hF.block q (by omega)).trans (oX.block q hq hne)⟩
open Go.RowKit Go.Shelf
structure But2 (R M:Nat) (w w':World):Prop where
 os:w'.os=w.os
 tape:w'.tape=w.tape
 output:w'.output=w.output
 size:w.heap.size<=w'.heap.size
 block:∀q,q<w.heap.size->q≠R->q≠M->w'.heap[q]?=w.heap[q]?
theorem But2.of {R M:Nat}{w w':World}(h:Only R w w'):But2 R M w w':=⟨h.os,h.tape,h.output,h.size,fun q hq h1 _=>h.block q hq (fun e=>h1 (Option.some.inj e))⟩
theorem But2.map {R M:Nat}{w w':World}(h:w.grownBy w' (some M)):But2 R M w w':=⟨h.os,h.tape,h.output,h.size,fun q hq _ h2=>h.block q hq (fun e=>h2 (Option.some.inj e))⟩
theorem But2.trans {R M:Nat}{a b c:World}(h:But2 R M a b)(k:But2 R M b c):But2 R M a c :=
 ⟨k.os.trans h.os,k.tape.trans h.tape,k.output.trans h.output,Nat.le_trans h.size k.size,fun q hq h1 h2=>(k.block q (Nat.lt_of_lt_of_le hq h.size) h1 h2).trans (h.block q hq h1 h2)⟩
abbrev Z2 (w:World) (M n:Nat) (D:DataW Unit):Prop:=w.ownsMap Tryz.prog 9 (unitElem (H:=Unit)) M n D
theorem jdV (w:World):(zeroValue 225).run Tryz.prog w=.ok (.agg #[]) w:=by kernel_rfl
theorem jlj (z:ByteArray)(hz:z.size<=maxLen):keyOf Tryz.prog 9 (.string z)=some (.string z.data.toList):=by
 rw [keyOf_string Tryz.underlying9];simp [mapKey,Tryz.underlying9,hz]
theorem jht (w:World)(R:Nat)(s:ByteArray)(l:List toks.Tk)(pl er:Int)(h:MRd w R s l pl er)(k e:Int)(j:Nat)(p:Option Addr)(n c:Nat)(M m:Nat)(D:DataW Unit)(hM:Z2 w M m D)(hMR:R<M)(hm:m<1000000)(kz:ByteArray)(hz:kz.size<=maxLen)
  (HKA:∀v,Below w.heap.size w v->Calls Tryz.prog 175 #[.pointer (some ⟨R,0,none⟩),.agg #[.int .i64 k,.int .i64 (j:Int),.int .i64 e,.slice p n c]] v fun e w'=>e=.returned (.tuple #[.string kz,.int .i64 0])/\Below v.heap.size v w') (hno:Maps.has D (.string kz.data.toList)=false) :
  Calls Tryz.prog 113 #[.pointer (some ⟨R,0,none⟩),.agg #[.int .i64 k,.int .i64 (j:Int),.int .i64 e,.slice p n c],.map (some M)] w fun e w'=>e=.returned (.tuple #[.string kz,.bool true])/\Z2 w' M (m+1) (D.put (.string kz.data.toList) (.agg []))/\MRd w' R s l pl er/\But2 R M w w':=by
 have b0:Below w.heap.size w (w.alloc (.cells #[.int .i64 k,.int .i64 (j:Int),.int .i64 e,.slice p n c] 59)):=(Below.refl _ w).alloc (Nat.le_refl _) _;have hn0:=jf w #[.int .i64 k,.int .i64 (j:Int),.int .i64 e,.slice p n c] 59;have a0:=hn0.cell 0 _ rfl;have a1:=hn0.cell 1 _ rfl;have a2:=hn0.cell 2 _ rfl;have a3:=hn0.cell 3 _ rfl;have KA:=jd (HKA _ b0);have HH:=jd (And.intro h (And.intro b0 (And.intro hM hn0)));clear HKA hn0
 go_enter Tryz.func113,Tryz.ntmps113
 go_upto_region 5 with (go_at_call 175;refine(ja KA).mono ?_;rintro e1 w3 ⟨rfl,b3⟩)
 obtain⟨h,b0,hM,hn0⟩:=HH.out;have b03:=b0.trans (b3.mono b0.size);have hM3:Z2 w3 M m D:=hM.kept (row:=none) ⟨b03.os,b03.tape,b03.output,b03.size,fun q hq _=>b03.block q hq⟩ (by simp);have hM4:Z2 (w3.alloc (.cells #[] 225)) M m D:=hM3.alloc _;have law:Maps.Keyed Tryz.prog 9:=Maps.string_keyed Tryz.underlying9;have hkey:=jlj kz hz;have hml:m<maxLen:=by unfold maxLen;omega
 have b4:Below w.heap.size w (w3.alloc (.cells #[] 225)):=b03.trans (((Below.refl _ w3).alloc (Nat.le_refl _) _).mono b03.size);have FIN:=jd (And.intro h (And.intro b4 hM.lt));clear b03 b3 b0 hn0 h hM a0 a1 a2 a3 KA HH hz b4
 go_wp2_with (first
  | (at_lookup;refine wpList_lookup_own_unit _ rfl _ _ 180 rfl 9 225 law Tryz.underlying180 (jdV _) M m D rfl hM3 _ _ rfl hkey ?_;rw [hno])
  | (at_mapUpdate;refine wpList_mapUpdate_own _ rfl _ _ _ 180 rfl 9 225 law Tryz.underlying180 _ M m D rfl hM4 hml _ _ _ rfl rfl hkey (.agg []) [] unitElem_mk ?_;intro w5 hM5 hg5))
 refine bodyPost_ret (v:=.tuple #[.string kz,.bool true]) (by simp [results,Tryz.f113,go_sem]) rfl ?_
 obtain⟨h,b4,hMl⟩:=FIN.out;have hRl:=h.lt;obtain⟨a,cap,g1,g2,g3,g4⟩:=h.later b4;refine⟨rfl,hM5,⟨a,cap,(hg5.block R (by have:=b4.size;omega) (fun e=>by have:=Option.some.inj e;omega)).trans g1,g2,g3,g4.kept (fun q hq=>hg5.block q (by have:=b4.size;omega) (fun e=>by have:=Option.some.inj e;omega))⟩,(But2.of (js b4)).trans (But2.map hg5)⟩
theorem jeK (w:World)(R:Nat)(s:ByteArray)(l:List toks.Tk)(pl er:Int)(h:MRd w R s l pl er)(k e:Int)(j:Nat)(hj:j<l.length)(p:Option Addr)(n c:Nat)(M:Nat)(kz:ByteArray)(ke:Int)(hke:ke≠0)
  (HKA:∀v,Below w.heap.size w v->Calls Tryz.prog 175 #[.pointer (some ⟨R,0,none⟩),.agg #[.int .i64 k,.int .i64 (j:Int),.int .i64 e,.slice p n c]] v fun e w'=>e=.returned (.tuple #[.string kz,.int .i64 ke])/\Below v.heap.size v w') :
  Calls Tryz.prog 113 #[.pointer (some ⟨R,0,none⟩),.agg #[.int .i64 k,.int .i64 (j:Int),.int .i64 e,.slice p n c],.map (some M)] w fun e w'=>e=.returned (.tuple #[.string ⟨#[]⟩,.bool false])/\MRd w' R s l (l[j].fro:Int) ke/\Only R w w':=by
 have b0:Below w.heap.size w (w.alloc (.cells #[.int .i64 k,.int .i64 (j:Int),.int .i64 e,.slice p n c] 59)):=(Below.refl _ w).alloc (Nat.le_refl _) _;have hn0:=jf w #[.int .i64 k,.int .i64 (j:Int),.int .i64 e,.slice p n c] 59;have a0:=hn0.cell 0 _ rfl;have a1:=hn0.cell 1 _ rfl;have a2:=hn0.cell 2 _ rfl;have a3:=hn0.cell 3 _ rfl;have KA:=jd (HKA _ b0);have g0:(ke != 0)=true:=bne_iff_ne.2 hke;have HH:=jd (And.intro h (And.intro b0 hn0));have KR:Hid (∀v,MRd v R s l pl er->Calls Tryz.prog 118 #[.pointer (some ⟨R,0,none⟩),.agg #[.int .i64 k,.int .i64 (j:Int),.int .i64 e,.slice p n c],.int .i64 ke] v fun e w'=>(∃v,e=.returned v)/\MRd w' R s l (l[j].fro:Int) ke/\Only R v w'):=jd fun v hv=>jT v R s l pl er hv k e j hj p n c ke
 obtain⟨fr,hfr⟩:∃fr:Int,fr=(l[j].fro:Int):=⟨_,rfl⟩
 rw [<-hfr] at KR;rw [<-hfr];clear HKA hn0 hfr
 go_enter Tryz.func113,Tryz.ntmps113
 go_upto_region 3 with (go_at_call 175;refine(ja KA).mono ?_;rintro e1 w3 ⟨rfl,b3⟩)
 obtain⟨h,b0,hn0⟩:=HH.out;have b03:=b0.trans (b3.mono b0.size);have hn3:=hn0.below b3;have c0:=hn3.cell 0 _ rfl;have c1:=hn3.cell 1 _ rfl;have c2:=hn3.cell 2 _ rfl;have c3:=hn3.cell 3 _ rfl;have HRM:=jd (KR.out w3 (h.later b03));have FIN:=jd b03;clear b03 b3 b0 hn0 hn3 h a0 a1 a2 a3 KA HH KR hke
 go_wp2_with (go_at_call 118;refine(ja HRM).mono ?_;rintro e1 w6 ⟨⟨vv,rfl⟩,hm6,o6⟩)
 refine bodyPost_ret (v:=.tuple #[.string ⟨#[]⟩,.bool false]) (by simp [results,Tryz.f113,go_sem]) rfl ⟨rfl,hm6,(js FIN.out).trans o6⟩
theorem jb7 (w:World)(R:Nat)(s:ByteArray)(l:List toks.Tk)(pl er:Int)(h:MRd w R s l pl er)(k e:Int)(j:Nat)(hj:j<l.length)(p:Option Addr)(n c:Nat)(M m:Nat)(D:DataW Unit)(hM:Z2 w M m D)(kz:ByteArray)(hz:kz.size<=maxLen)
  (HKA:∀v,Below w.heap.size w v->Calls Tryz.prog 175 #[.pointer (some ⟨R,0,none⟩),.agg #[.int .i64 k,.int .i64 (j:Int),.int .i64 e,.slice p n c]] v fun e w'=>e=.returned (.tuple #[.string kz,.int .i64 0])/\Below v.heap.size v w') (hyes:Maps.has D (.string kz.data.toList)=true) :
  Calls Tryz.prog 113 #[.pointer (some ⟨R,0,none⟩),.agg #[.int .i64 k,.int .i64 (j:Int),.int .i64 e,.slice p n c],.map (some M)] w fun e w'=>e=.returned (.tuple #[.string ⟨#[]⟩,.bool false])/\MRd w' R s l (l[j].fro:Int) 6/\Only R w w':=by
 have b0:Below w.heap.size w (w.alloc (.cells #[.int .i64 k,.int .i64 (j:Int),.int .i64 e,.slice p n c] 59)):=(Below.refl _ w).alloc (Nat.le_refl _) _;have hn0:=jf w #[.int .i64 k,.int .i64 (j:Int),.int .i64 e,.slice p n c] 59;have a0:=hn0.cell 0 _ rfl;have a1:=hn0.cell 1 _ rfl;have a2:=hn0.cell 2 _ rfl;have a3:=hn0.cell 3 _ rfl;have KA:=jd (HKA _ b0);have HH:=jd (And.intro h (And.intro b0 (And.intro hM hn0)));have KR:Hid (∀v,MRd v R s l pl er->Calls Tryz.prog 118 #[.pointer (some ⟨R,0,none⟩),.agg #[.int .i64 k,.int .i64 (j:Int),.int .i64 e,.slice p n c],.int .i64 6] v fun e w'=>(∃v,e=.returned v)/\MRd w' R s l (l[j].fro:Int) 6/\Only R v w'):=jd fun v hv=>jT v R s l pl er hv k e j hj p n c 6
 obtain⟨fr,hfr⟩:∃fr:Int,fr=(l[j].fro:Int):=⟨_,rfl⟩
 rw [<-hfr] at KR;rw [<-hfr];clear HKA hn0 hfr
 go_enter Tryz.func113,Tryz.ntmps113
 go_upto_region 5 with (go_at_call 175;refine(ja KA).mono ?_;rintro e1 w3 ⟨rfl,b3⟩)
 obtain⟨h,b0,hM,hn0⟩:=HH.out;have b03:=b0.trans (b3.mono b0.size);have hM3:Z2 w3 M m D:=hM.kept (row:=none) ⟨b03.os,b03.tape,b03.output,b03.size,fun q hq _=>b03.block q hq⟩ (by simp);have law:Maps.Keyed Tryz.prog 9:=Maps.string_keyed Tryz.underlying9;have hkey:=jlj kz hz;have bB:Below w3.heap.size w3 (w3.alloc (.cells #[] 225)):=(Below.refl _ w3).alloc (Nat.le_refl _) _;have b4:Below w.heap.size w (w3.alloc (.cells #[] 225)):=b03.trans (bB.mono b03.size);have hn4:=(hn0.below b3).below bB;have c0:=hn4.cell 0 _ rfl;have c1:=hn4.cell 1 _ rfl;have c2:=hn4.cell 2 _ rfl;have c3:=hn4.cell 3 _ rfl;have HRM:=jd (KR.out _ (h.later b4));have FIN:=jd b4;clear b03 b3 b0 bB b4 hn0 hn4 h hM a0 a1 a2 a3 KA HH KR hz
 go_wp2_with (first
  | (at_lookup;refine wpList_lookup_own_unit _ rfl _ _ 180 rfl 9 225 law Tryz.underlying180 (jdV _) M m D rfl hM3 _ _ rfl hkey ?_;rw [hyes])
  | (go_at_call 118;refine(ja HRM).mono ?_;rintro e1 w6 ⟨⟨vv,rfl⟩,hm6,o6⟩))
 refine bodyPost_ret (v:=.tuple #[.string ⟨#[]⟩,.bool false]) (by simp [results,Tryz.f113,go_sem]) rfl ⟨rfl,hm6,(js FIN.out).trans o6⟩
open Go.RowKit Go.Shelf
theorem qU {w:World}{B:Nat}{u0 u1 u2 u3 u4 u5:Value}{x:Bool}(tmps:Array Value)(h:Blk w B #[u0,u1,u2,u3,u4,u5] 26)(ht:tmps[4]?=some (.pointer (some ⟨B,0,none⟩)):=by rfl)(hx:tmps[5]?=some (.bool x):=by rfl):(results Tryz.f30 tmps).run Tryz.prog w=.ok (.tuple #[.agg #[u0,u1,u2,u3,u4,u5],.bool x]) w:=by
 obtain⟨c0,c1,c2,c3,c4,c5⟩:=h.cells6;simp [results,Tryz.f30,ht,hx,go_sem,c0,c1,c2,c3,c4,c5]
theorem jhe (n R:Nat)(s:ByteArray)(l:List toks.Tk)(pl er:Int)(Rel:V⊕(Int×Int)->Prop)(w:World)(hRw:R<w.heap.size)(k na ne:Int)(np:Option Addr)(nl nc:Nat)(hk:k=3)
  (hC:∀v,Below w.heap.size w v->Calls Tryz.prog 60 #[.pointer (some ⟨R,0,none⟩),.agg #[.int .i64 k,.int .i64 na,.int .i64 ne,.slice np nl nc]] v (YE n R s l pl er Rel v)) :
  Calls Tryz.prog 30 #[.pointer (some ⟨R,0,none⟩),.agg #[.int .i64 k,.int .i64 na,.int .i64 ne,.slice np nl nc]] w (YE n R s l pl er Rel w):=by
 subst hk;have b0:Below w.heap.size w ((w.alloc (.cells #[.int .i64 3,.int .i64 na,.int .i64 ne,.slice np nl nc] 59)).alloc (.cells #[.int .i64 0,.int .i64 0,.int .u64 0,.string ⟨#[]⟩,.slice none 0 0,.slice none 0 0] 26)):=((Below.refl _ w).alloc (Nat.le_refl _) _).alloc (by simp) _;have s0:((w.alloc (.cells #[.int .i64 3,.int .i64 na,.int .i64 ne,.slice np nl nc] 59)).alloc (.cells #[.int .i64 0,.int .i64 0,.int .u64 0,.string ⟨#[]⟩,.slice none 0 0,.slice none 0 0] 26)).heap.size=w.heap.size+2:=by simp
 have hn0:Blk ((w.alloc (.cells #[.int .i64 3,.int .i64 na,.int .i64 ne,.slice np nl nc] 59)).alloc (.cells #[.int .i64 0,.int .i64 0,.int .u64 0,.string ⟨#[]⟩,.slice none 0 0,.slice none 0 0] 26)) w.heap.size #[.int .i64 3,.int .i64 na,.int .i64 ne,.slice np nl nc] 59:=(jf w _ _).alloc _
 have hr0:Blk ((w.alloc (.cells #[.int .i64 3,.int .i64 na,.int .i64 ne,.slice np nl nc] 59)).alloc (.cells #[.int .i64 0,.int .i64 0,.int .u64 0,.string ⟨#[]⟩,.slice none 0 0,.slice none 0 0] 26)) (w.heap.size+1) #[.int .i64 0,.int .i64 0,.int .u64 0,.string ⟨#[]⟩,.slice none 0 0,.slice none 0 0] 26:=by
  have h:=jf (w.alloc (.cells #[.int .i64 3,.int .i64 na,.int .i64 ne,.slice np nl nc] 59)) #[.int .i64 0,.int .i64 0,.int .u64 0,.string ⟨#[]⟩,.slice none 0 0,.slice none 0 0] 26;rwa [World.size_alloc] at h
 have a0:=hn0.cell 0 _ rfl;have a1:=hn0.cell 1 _ rfl;have a2:=hn0.cell 2 _ rfl;have a3:=hn0.cell 3 _ rfl;simp only [List.getElem_toArray,List.getElem_cons_zero,List.getElem_cons_succ] at a0 a1 a2 a3;have HC:=jd (hC _ b0);have HH:=jd (And.intro b0 (And.intro s0 (And.intro hr0 hRw)));clear hC b0 s0 hn0 hr0 hRw
 go_enter Tryz.func30,Tryz.ntmps30
 go_wp2_with fail
 go_at_call 60
 refine(ja HC).mono ?_
 rintro e1 w3 ⟨hres,o3⟩
 obtain⟨b0,s0,hr0,hRw⟩:=HH.out;have hr3:Blk w3 (w.heap.size+1) _ _:=(o3.block (w.heap.size+1) hr0.lt (fun e=>by have:=Option.some.inj e;omega)).trans hr0;have o4:Only R w w3:=(js b0).trans o3;have hs3:=o3.size;rw [s0] at hs3
 rcases hres with ⟨vk,nn,b,z,pL,nL,cL,pE,nE,cE,v,rfl,hRel,hlv,hm2⟩ | ⟨pq,rfl,hRel,hm2⟩
 ·rw [s0] at hlv
  have FIN:=jd (And.intro hRel (And.intro hlv (And.intro hm2 (And.intro o4 hRw))));clear hRel hlv hm2 o3 o4 b0 s0 hr0 HH HC a0 a1 a2 a3 hRw hs3;have hY:=jD hr3 (.int .i64 vk) (.int .i64 nn) (.int .u64 (b:Int)) (.string z) (.slice pL nL cL) (.slice pE nE cE);have HY:=jd hY;have HF:=jd (jw (Below.refl (w.heap.size+1) w3) (b:=w.heap.size+1) (Nat.le_refl _) (.int .i64 vk) (.int .i64 nn) (.int .u64 (b:Int)) (.string z) (.slice pL nL cL) (.slice pE nE cE));have x0:=hr3.cell 0 _ rfl;have x1:=hr3.cell 1 _ rfl;have x2:=hr3.cell 2 _ rfl;have x3:=hr3.cell 3 _ rfl;have x4:=hr3.cell 4 _ rfl;have x5:=hr3.cell 5 _ rfl;have z0:=Blk.froz hr3 0;have z1:=Blk.froz hr3 1;have z2:=Blk.froz hr3 2;have z3:=Blk.froz hr3 3;have z4:=Blk.froz hr3 4;have z5:=Blk.froz hr3 5;clear hY;go_wp2;have hY:=HY.out;have hF:=HF.out;clear HY HF x0 x1 x2 x3 x4 x5 z0 z1 z2 z3 z4 z5 
  have HOT:=jd (fun q (hq:w.heap.size+2<=q)=>qk w3 (w.heap.size+1) q (by omega) (.int .i64 vk) (.int .i64 nn) (.int .u64 (b:Int)) (.string z) (.slice pL nL cL) (.slice pE nE cE));generalize hXX:jM w3 (w.heap.size+1) (.int .i64 vk) (.int .i64 nn) (.int .u64 (b:Int)) (.string z) (.slice pL nL cL) (.slice pE nE cE)=Y at hY hF HOT;simp only [jM] at hXX;rw [hXX];clear hXX;refine bodyPost_ret (qU _ hY) rfl ?_
  obtain⟨hRel,hlv,hm2,o4,hRw⟩:=FIN.out;obtain⟨a,cap,g1,g2,g3,g4⟩:=hm2;have hsz:=hF.size;refine⟨.inl ⟨vk,nn,b,z,pL,nL,cL,pE,nE,cE,v,rfl,hRel,?_,⟨a,cap,(hF.block R (by omega)).trans g1,g2,g3,g4.kept (fun q hq=>hF.block q (by omega))⟩⟩,?_⟩
  ·exact hlv.kept (fun q hq=>⟨by omega,by omega⟩) hsz (fun q hq _=>HOT.out q (by omega))
  ·exact⟨hF.os.trans o4.os,hF.tape.trans o4.tape,hF.output.trans o4.output,Nat.le_trans o4.size hF.size,fun q hq hne=>(hF.block q (by omega)).trans (o4.block q hq hne)⟩
 ·have FIN:=jd (And.intro hRel (And.intro hm2 (And.intro o4 hRw)))
  clear hRel hm2 o3 o4 b0 s0 hr0 HH HC a0 a1 a2 a3 hRw hs3;have hY:=jD hr3 (.int .i64 0) (.int .i64 0) (.int .u64 0) (.string ⟨#[]⟩) (.slice none 0 0) (.slice none 0 0);have HY:=jd hY;have HF:=jd (jw (Below.refl (w.heap.size+1) w3) (b:=w.heap.size+1) (Nat.le_refl _) (.int .i64 0) (.int .i64 0) (.int .u64 0) (.string ⟨#[]⟩) (.slice none 0 0) (.slice none 0 0));have x0:=hr3.cell 0 _ rfl;have x1:=hr3.cell 1 _ rfl;have x2:=hr3.cell 2 _ rfl;have x3:=hr3.cell 3 _ rfl;have x4:=hr3.cell 4 _ rfl;have x5:=hr3.cell 5 _ rfl;have z0:=Blk.froz hr3 0;have z1:=Blk.froz hr3 1;have z2:=Blk.froz hr3 2;have z3:=Blk.froz hr3 3;have z4:=Blk.froz hr3 4;have z5:=Blk.froz hr3 5;clear hY;go_wp2;have hY:=HY.out;have hF:=HF.out;clear HY HF x0 x1 x2 x3 x4 x5 z0 z1 z2 z3 z4 z5 
  generalize hXX:jM w3 (w.heap.size+1) (.int .i64 0) (.int .i64 0) (.int .u64 0) (.string ⟨#[]⟩) (.slice none 0 0) (.slice none 0 0)=Y at hY hF;simp only [jM] at hXX;rw [hXX];clear hXX;refine bodyPost_ret (qU _ hY) rfl ?_
  obtain⟨hRel,hm2,o4,hRw⟩:=FIN.out;obtain⟨a,cap,g1,g2,g3,g4⟩:=hm2;refine⟨.inr ⟨pq,rfl,hRel,⟨a,cap,(hF.block R (by omega)).trans g1,g2,g3,g4.kept (fun q hq=>hF.block q (by omega))⟩⟩,?_⟩;exact⟨hF.os.trans o4.os,hF.tape.trans o4.tape,hF.output.trans o4.output,Nat.le_trans o4.size hF.size,fun q hq hne=>(hF.block q (by omega)).trans (o4.block q hq hne)⟩
theorem jiw (n R:Nat)(s:ByteArray)(l:List toks.Tk)(pl er:Int)(Rel:V⊕(Int×Int)->Prop)(w:World)(hRw:R<w.heap.size)(k na ne:Int)(np:Option Addr)(nl nc:Nat)(hk:k=5)
  (hC:∀v,Below w.heap.size w v->Calls Tryz.prog 61 #[.pointer (some ⟨R,0,none⟩),.agg #[.int .i64 k,.int .i64 na,.int .i64 ne,.slice np nl nc]] v (YE n R s l pl er Rel v)) :
  Calls Tryz.prog 30 #[.pointer (some ⟨R,0,none⟩),.agg #[.int .i64 k,.int .i64 na,.int .i64 ne,.slice np nl nc]] w (YE n R s l pl er Rel w):=by
 subst hk;have b0:Below w.heap.size w ((w.alloc (.cells #[.int .i64 5,.int .i64 na,.int .i64 ne,.slice np nl nc] 59)).alloc (.cells #[.int .i64 0,.int .i64 0,.int .u64 0,.string ⟨#[]⟩,.slice none 0 0,.slice none 0 0] 26)):=((Below.refl _ w).alloc (Nat.le_refl _) _).alloc (by simp) _;have s0:((w.alloc (.cells #[.int .i64 5,.int .i64 na,.int .i64 ne,.slice np nl nc] 59)).alloc (.cells #[.int .i64 0,.int .i64 0,.int .u64 0,.string ⟨#[]⟩,.slice none 0 0,.slice none 0 0] 26)).heap.size=w.heap.size+2:=by simp
 have hn0:Blk ((w.alloc (.cells #[.int .i64 5,.int .i64 na,.int .i64 ne,.slice np nl nc] 59)).alloc (.cells #[.int .i64 0,.int .i64 0,.int .u64 0,.string ⟨#[]⟩,.slice none 0 0,.slice none 0 0] 26)) w.heap.size #[.int .i64 5,.int .i64 na,.int .i64 ne,.slice np nl nc] 59:=(jf w _ _).alloc _
 have hr0:Blk ((w.alloc (.cells #[.int .i64 5,.int .i64 na,.int .i64 ne,.slice np nl nc] 59)).alloc (.cells #[.int .i64 0,.int .i64 0,.int .u64 0,.string ⟨#[]⟩,.slice none 0 0,.slice none 0 0] 26)) (w.heap.size+1) #[.int .i64 0,.int .i64 0,.int .u64 0,.string ⟨#[]⟩,.slice none 0 0,.slice none 0 0] 26:=by
  have h:=jf (w.alloc (.cells #[.int .i64 5,.int .i64 na,.int .i64 ne,.slice np nl nc] 59)) #[.int .i64 0,.int .i64 0,.int .u64 0,.string ⟨#[]⟩,.slice none 0 0,.slice none 0 0] 26;rwa [World.size_alloc] at h
 have a0:=hn0.cell 0 _ rfl;have a1:=hn0.cell 1 _ rfl;have a2:=hn0.cell 2 _ rfl;have a3:=hn0.cell 3 _ rfl;simp only [List.getElem_toArray,List.getElem_cons_zero,List.getElem_cons_succ] at a0 a1 a2 a3;have HC:=jd (hC _ b0);have HH:=jd (And.intro b0 (And.intro s0 (And.intro hr0 hRw)));clear hC b0 s0 hn0 hr0 hRw
 go_enter Tryz.func30,Tryz.ntmps30
 go_wp2_with fail
 go_at_call 61
 refine(ja HC).mono ?_
 rintro e1 w3 ⟨hres,o3⟩
 obtain⟨b0,s0,hr0,hRw⟩:=HH.out;have hr3:Blk w3 (w.heap.size+1) _ _:=(o3.block (w.heap.size+1) hr0.lt (fun e=>by have:=Option.some.inj e;omega)).trans hr0;have o4:Only R w w3:=(js b0).trans o3;have hs3:=o3.size;rw [s0] at hs3
 rcases hres with ⟨vk,nn,b,z,pL,nL,cL,pE,nE,cE,v,rfl,hRel,hlv,hm2⟩ | ⟨pq,rfl,hRel,hm2⟩
 ·rw [s0] at hlv
  have FIN:=jd (And.intro hRel (And.intro hlv (And.intro hm2 (And.intro o4 hRw))));clear hRel hlv hm2 o3 o4 b0 s0 hr0 HH HC a0 a1 a2 a3 hRw hs3;have hY:=jD hr3 (.int .i64 vk) (.int .i64 nn) (.int .u64 (b:Int)) (.string z) (.slice pL nL cL) (.slice pE nE cE);have HY:=jd hY;have HF:=jd (jw (Below.refl (w.heap.size+1) w3) (b:=w.heap.size+1) (Nat.le_refl _) (.int .i64 vk) (.int .i64 nn) (.int .u64 (b:Int)) (.string z) (.slice pL nL cL) (.slice pE nE cE));have x0:=hr3.cell 0 _ rfl;have x1:=hr3.cell 1 _ rfl;have x2:=hr3.cell 2 _ rfl;have x3:=hr3.cell 3 _ rfl;have x4:=hr3.cell 4 _ rfl;have x5:=hr3.cell 5 _ rfl;have z0:=Blk.froz hr3 0;have z1:=Blk.froz hr3 1;have z2:=Blk.froz hr3 2;have z3:=Blk.froz hr3 3;have z4:=Blk.froz hr3 4;have z5:=Blk.froz hr3 5;clear hY;go_wp2;have hY:=HY.out;have hF:=HF.out;clear HY HF x0 x1 x2 x3 x4 x5 z0 z1 z2 z3 z4 z5 
  have HOT:=jd (fun q (hq:w.heap.size+2<=q)=>qk w3 (w.heap.size+1) q (by omega) (.int .i64 vk) (.int .i64 nn) (.int .u64 (b:Int)) (.string z) (.slice pL nL cL) (.slice pE nE cE));generalize hXX:jM w3 (w.heap.size+1) (.int .i64 vk) (.int .i64 nn) (.int .u64 (b:Int)) (.string z) (.slice pL nL cL) (.slice pE nE cE)=Y at hY hF HOT;simp only [jM] at hXX;rw [hXX];clear hXX;refine bodyPost_ret (qU _ hY) rfl ?_
  obtain⟨hRel,hlv,hm2,o4,hRw⟩:=FIN.out;obtain⟨a,cap,g1,g2,g3,g4⟩:=hm2;have hsz:=hF.size;refine⟨.inl ⟨vk,nn,b,z,pL,nL,cL,pE,nE,cE,v,rfl,hRel,?_,⟨a,cap,(hF.block R (by omega)).trans g1,g2,g3,g4.kept (fun q hq=>hF.block q (by omega))⟩⟩,?_⟩
  ·exact hlv.kept (fun q hq=>⟨by omega,by omega⟩) hsz (fun q hq _=>HOT.out q (by omega))
  ·exact⟨hF.os.trans o4.os,hF.tape.trans o4.tape,hF.output.trans o4.output,Nat.le_trans o4.size hF.size,fun q hq hne=>(hF.block q (by omega)).trans (o4.block q hq hne)⟩
 ·have FIN:=jd (And.intro hRel (And.intro hm2 (And.intro o4 hRw)))
  clear hRel hm2 o3 o4 b0 s0 hr0 HH HC a0 a1 a2 a3 hRw hs3;have hY:=jD hr3 (.int .i64 0) (.int .i64 0) (.int .u64 0) (.string ⟨#[]⟩) (.slice none 0 0) (.slice none 0 0);have HY:=jd hY;have HF:=jd (jw (Below.refl (w.heap.size+1) w3) (b:=w.heap.size+1) (Nat.le_refl _) (.int .i64 0) (.int .i64 0) (.int .u64 0) (.string ⟨#[]⟩) (.slice none 0 0) (.slice none 0 0));have x0:=hr3.cell 0 _ rfl;have x1:=hr3.cell 1 _ rfl;have x2:=hr3.cell 2 _ rfl;have x3:=hr3.cell 3 _ rfl;have x4:=hr3.cell 4 _ rfl;have x5:=hr3.cell 5 _ rfl;have z0:=Blk.froz hr3 0;have z1:=Blk.froz hr3 1;have z2:=Blk.froz hr3 2;have z3:=Blk.froz hr3 3;have z4:=Blk.froz hr3 4;have z5:=Blk.froz hr3 5;clear hY;go_wp2;have hY:=HY.out;have hF:=HF.out;clear HY HF x0 x1 x2 x3 x4 x5 z0 z1 z2 z3 z4 z5 
  generalize hXX:jM w3 (w.heap.size+1) (.int .i64 0) (.int .i64 0) (.int .u64 0) (.string ⟨#[]⟩) (.slice none 0 0) (.slice none 0 0)=Y at hY hF;simp only [jM] at hXX;rw [hXX];clear hXX;refine bodyPost_ret (qU _ hY) rfl ?_
  obtain⟨hRel,hm2,o4,hRw⟩:=FIN.out;obtain⟨a,cap,g1,g2,g3,g4⟩:=hm2;refine⟨.inr ⟨pq,rfl,hRel,⟨a,cap,(hF.block R (by omega)).trans g1,g2,g3,g4.kept (fun q hq=>hF.block q (by omega))⟩⟩,?_⟩;exact⟨hF.os.trans o4.os,hF.tape.trans o4.tape,hF.output.trans o4.output,Nat.le_trans o4.size hF.size,fun q hq hne=>(hF.block q (by omega)).trans (o4.block q hq hne)⟩
theorem jiq (n R:Nat)(s:ByteArray)(l:List toks.Tk)(pl er:Int)(Rel:V⊕(Int×Int)->Prop)(w:World)(hRw:R<w.heap.size)(k na ne:Int)(np:Option Addr)(nl nc:Nat)(h3:¬k=3)(h5:¬k=5)
  (hC:∀v,Below w.heap.size w v->Calls Tryz.prog 62 #[.pointer (some ⟨R,0,none⟩),.agg #[.int .i64 k,.int .i64 na,.int .i64 ne,.slice np nl nc]] v (YE n R s l pl er Rel v)) :
  Calls Tryz.prog 30 #[.pointer (some ⟨R,0,none⟩),.agg #[.int .i64 k,.int .i64 na,.int .i64 ne,.slice np nl nc]] w (YE n R s l pl er Rel w):=by
 have b0:Below w.heap.size w ((w.alloc (.cells #[.int .i64 k,.int .i64 na,.int .i64 ne,.slice np nl nc] 59)).alloc (.cells #[.int .i64 0,.int .i64 0,.int .u64 0,.string ⟨#[]⟩,.slice none 0 0,.slice none 0 0] 26)):=((Below.refl _ w).alloc (Nat.le_refl _) _).alloc (by simp) _;have s0:((w.alloc (.cells #[.int .i64 k,.int .i64 na,.int .i64 ne,.slice np nl nc] 59)).alloc (.cells #[.int .i64 0,.int .i64 0,.int .u64 0,.string ⟨#[]⟩,.slice none 0 0,.slice none 0 0] 26)).heap.size=w.heap.size+2:=by simp
 have hn0:Blk ((w.alloc (.cells #[.int .i64 k,.int .i64 na,.int .i64 ne,.slice np nl nc] 59)).alloc (.cells #[.int .i64 0,.int .i64 0,.int .u64 0,.string ⟨#[]⟩,.slice none 0 0,.slice none 0 0] 26)) w.heap.size #[.int .i64 k,.int .i64 na,.int .i64 ne,.slice np nl nc] 59:=(jf w _ _).alloc _
 have hr0:Blk ((w.alloc (.cells #[.int .i64 k,.int .i64 na,.int .i64 ne,.slice np nl nc] 59)).alloc (.cells #[.int .i64 0,.int .i64 0,.int .u64 0,.string ⟨#[]⟩,.slice none 0 0,.slice none 0 0] 26)) (w.heap.size+1) #[.int .i64 0,.int .i64 0,.int .u64 0,.string ⟨#[]⟩,.slice none 0 0,.slice none 0 0] 26:=by
  have h:=jf (w.alloc (.cells #[.int .i64 k,.int .i64 na,.int .i64 ne,.slice np nl nc] 59)) #[.int .i64 0,.int .i64 0,.int .u64 0,.string ⟨#[]⟩,.slice none 0 0,.slice none 0 0] 26;rwa [World.size_alloc] at h
 have a0:=hn0.cell 0 _ rfl;have a1:=hn0.cell 1 _ rfl;have a2:=hn0.cell 2 _ rfl;have a3:=hn0.cell 3 _ rfl;simp only [List.getElem_toArray,List.getElem_cons_zero,List.getElem_cons_succ] at a0 a1 a2 a3;have HC:=jd (hC _ b0);have HH:=jd (And.intro b0 (And.intro s0 (And.intro hr0 hRw)));clear hC b0 s0 hn0 hr0 hRw
 go_enter Tryz.func30,Tryz.ntmps30
 go_wp2_with fail
 go_at_call 62
 refine(ja HC).mono ?_
 rintro e1 w3 ⟨hres,o3⟩
 obtain⟨b0,s0,hr0,hRw⟩:=HH.out;have hr3:Blk w3 (w.heap.size+1) _ _:=(o3.block (w.heap.size+1) hr0.lt (fun e=>by have:=Option.some.inj e;omega)).trans hr0;have o4:Only R w w3:=(js b0).trans o3;have hs3:=o3.size;rw [s0] at hs3
 rcases hres with ⟨vk,nn,b,z,pL,nL,cL,pE,nE,cE,v,rfl,hRel,hlv,hm2⟩ | ⟨pq,rfl,hRel,hm2⟩
 ·rw [s0] at hlv
  have FIN:=jd (And.intro hRel (And.intro hlv (And.intro hm2 (And.intro o4 hRw))));clear hRel hlv hm2 o3 o4 b0 s0 hr0 HH HC a0 a1 a2 a3 hRw hs3;have hY:=jD hr3 (.int .i64 vk) (.int .i64 nn) (.int .u64 (b:Int)) (.string z) (.slice pL nL cL) (.slice pE nE cE);have HY:=jd hY;have HF:=jd (jw (Below.refl (w.heap.size+1) w3) (b:=w.heap.size+1) (Nat.le_refl _) (.int .i64 vk) (.int .i64 nn) (.int .u64 (b:Int)) (.string z) (.slice pL nL cL) (.slice pE nE cE));have x0:=hr3.cell 0 _ rfl;have x1:=hr3.cell 1 _ rfl;have x2:=hr3.cell 2 _ rfl;have x3:=hr3.cell 3 _ rfl;have x4:=hr3.cell 4 _ rfl;have x5:=hr3.cell 5 _ rfl;have z0:=Blk.froz hr3 0;have z1:=Blk.froz hr3 1;have z2:=Blk.froz hr3 2;have z3:=Blk.froz hr3 3;have z4:=Blk.froz hr3 4;have z5:=Blk.froz hr3 5;clear hY;go_wp2;have hY:=HY.out;have hF:=HF.out;clear HY HF x0 x1 x2 x3 x4 x5 z0 z1 z2 z3 z4 z5 
  have HOT:=jd (fun q (hq:w.heap.size+2<=q)=>qk w3 (w.heap.size+1) q (by omega) (.int .i64 vk) (.int .i64 nn) (.int .u64 (b:Int)) (.string z) (.slice pL nL cL) (.slice pE nE cE));generalize hXX:jM w3 (w.heap.size+1) (.int .i64 vk) (.int .i64 nn) (.int .u64 (b:Int)) (.string z) (.slice pL nL cL) (.slice pE nE cE)=Y at hY hF HOT;simp only [jM] at hXX;rw [hXX];clear hXX;refine bodyPost_ret (qU _ hY) rfl ?_
  obtain⟨hRel,hlv,hm2,o4,hRw⟩:=FIN.out;obtain⟨a,cap,g1,g2,g3,g4⟩:=hm2;have hsz:=hF.size;refine⟨.inl ⟨vk,nn,b,z,pL,nL,cL,pE,nE,cE,v,rfl,hRel,?_,⟨a,cap,(hF.block R (by omega)).trans g1,g2,g3,g4.kept (fun q hq=>hF.block q (by omega))⟩⟩,?_⟩
  ·exact hlv.kept (fun q hq=>⟨by omega,by omega⟩) hsz (fun q hq _=>HOT.out q (by omega))
  ·exact⟨hF.os.trans o4.os,hF.tape.trans o4.tape,hF.output.trans o4.output,Nat.le_trans o4.size hF.size,fun q hq hne=>(hF.block q (by omega)).trans (o4.block q hq hne)⟩
 ·have FIN:=jd (And.intro hRel (And.intro hm2 (And.intro o4 hRw)))
  clear hRel hm2 o3 o4 b0 s0 hr0 HH HC a0 a1 a2 a3 hRw hs3;have hY:=jD hr3 (.int .i64 0) (.int .i64 0) (.int .u64 0) (.string ⟨#[]⟩) (.slice none 0 0) (.slice none 0 0);have HY:=jd hY;have HF:=jd (jw (Below.refl (w.heap.size+1) w3) (b:=w.heap.size+1) (Nat.le_refl _) (.int .i64 0) (.int .i64 0) (.int .u64 0) (.string ⟨#[]⟩) (.slice none 0 0) (.slice none 0 0));have x0:=hr3.cell 0 _ rfl;have x1:=hr3.cell 1 _ rfl;have x2:=hr3.cell 2 _ rfl;have x3:=hr3.cell 3 _ rfl;have x4:=hr3.cell 4 _ rfl;have x5:=hr3.cell 5 _ rfl;have z0:=Blk.froz hr3 0;have z1:=Blk.froz hr3 1;have z2:=Blk.froz hr3 2;have z3:=Blk.froz hr3 3;have z4:=Blk.froz hr3 4;have z5:=Blk.froz hr3 5;clear hY;go_wp2;have hY:=HY.out;have hF:=HF.out;clear HY HF x0 x1 x2 x3 x4 x5 z0 z1 z2 z3 z4 z5 
  generalize hXX:jM w3 (w.heap.size+1) (.int .i64 0) (.int .i64 0) (.int .u64 0) (.string ⟨#[]⟩) (.slice none 0 0) (.slice none 0 0)=Y at hY hF;simp only [jM] at hXX;rw [hXX];clear hXX;refine bodyPost_ret (qU _ hY) rfl ?_
  obtain⟨hRel,hm2,o4,hRw⟩:=FIN.out;obtain⟨a,cap,g1,g2,g3,g4⟩:=hm2;refine⟨.inr ⟨pq,rfl,hRel,⟨a,cap,(hF.block R (by omega)).trans g1,g2,g3,g4.kept (fun q hq=>hF.block q (by omega))⟩⟩,?_⟩;exact⟨hF.os.trans o4.os,hF.tape.trans o4.tape,hF.output.trans o4.output,Nat.le_trans o4.size hF.size,fun q hq hne=>(hF.block q (by omega)).trans (o4.block q hq hne)⟩
open Go.RowKit Go.Shelf
theorem jgq (w:World)(aS:ByteArray)(ak an af:Int)(az:ByteArray)(apL:Option Addr)(anL acL:Nat)(apE:Option Addr)(anE acE:Nat)(bs:ByteArray)(bk bn bf:Int)(bz:ByteArray)(bpL:Option Addr)(bnL bcL:Nat)(bpE:Option Addr)(bnE bcE:Nat) :
  Calls Tryz.prog 115 #[.agg #[.string aS,.int .i64 ak,.int .i64 an,.int .u64 af,.string az,.slice apL anL acL,.slice apE anE acE],.agg #[.string bs,.int .i64 bk,.int .i64 bn,.int .u64 bf,.string bz,.slice bpL bnL bcL,.slice bpE bnE bcE]] w fun e w'=>e=.returned (.int .i64 (Lib.compareBytes aS.data.toList bs.data.toList))/\w'=(w.alloc (.cells #[.string aS,.int .i64 ak,.int .i64 an,.int .u64 af,.string az,.slice apL anL acL,.slice apE anE acE] 44)).alloc (.cells #[.string bs,.int .i64 bk,.int .i64 bn,.int .u64 bf,.string bz,.slice bpL bnL bcL,.slice bpE bnE bcE] 44):=by
 have h1:Blk ((w.alloc (.cells #[.string aS,.int .i64 ak,.int .i64 an,.int .u64 af,.string az,.slice apL anL acL,.slice apE anE acE] 44)).alloc (.cells #[.string bs,.int .i64 bk,.int .i64 bn,.int .u64 bf,.string bz,.slice bpL bnL bcL,.slice bpE bnE bcE] 44)) w.heap.size #[.string aS,.int .i64 ak,.int .i64 an,.int .u64 af,.string az,.slice apL anL acL,.slice apE anE acE] 44:=(jf w _ _).alloc _
 have h2:Blk ((w.alloc (.cells #[.string aS,.int .i64 ak,.int .i64 an,.int .u64 af,.string az,.slice apL anL acL,.slice apE anE acE] 44)).alloc (.cells #[.string bs,.int .i64 bk,.int .i64 bn,.int .u64 bf,.string bz,.slice bpL bnL bcL,.slice bpE bnE bcE] 44)) (w.heap.size+1) #[.string bs,.int .i64 bk,.int .i64 bn,.int .u64 bf,.string bz,.slice bpL bnL bcL,.slice bpE bnE bcE] 44:=by
  have h:=jf (w.alloc (.cells #[.string aS,.int .i64 ak,.int .i64 an,.int .u64 af,.string az,.slice apL anL acL,.slice apE anE acE] 44)) #[.string bs,.int .i64 bk,.int .i64 bn,.int .u64 bf,.string bz,.slice bpL bnL bcL,.slice bpE bnE bcE] 44;rwa [World.size_alloc] at h
 have c0:=h1.cell 0 _ rfl;have d0:=h2.cell 0 _ rfl;have K:=jd (Tryz.strings_Compare aS bs ((w.alloc (.cells #[.string aS,.int .i64 ak,.int .i64 an,.int .u64 af,.string az,.slice apL anL acL,.slice apE anE acE] 44)).alloc (.cells #[.string bs,.int .i64 bk,.int .i64 bn,.int .u64 bf,.string bz,.slice bpL bnL bcL,.slice bpE bnE bcE] 44)));clear h1 h2;generalize Lib.compareBytes aS.data.toList bs.data.toList=r at *
 go_enter Tryz.func115,Tryz.ntmps115
 go_wp2_with (go_at_call 116;refine(ja K).mono ?_;rintro e w3 ⟨rfl,h3⟩;rw [h3])
 go_ret;exact⟨rfl,rfl⟩
end valus
end Go.Proofs.YtnbfnjhbmeocfaaGreatDoor
