/- Of our texts, what this claim reaches. -/
import Derived.Test.YtadaehaemmelfaaDoorPubBE
import Derived.Test.YtadaehaemmelfaaDoorPubAG
set_option linter.unusedVariables false
set_option maxHeartbeats 4000000
set_option maxRecDepth 100000
namespace Go.Proofs.YtadaehaemmelfaaDoor
namespace valus
open Go.RowKit Go.Shelf
attribute [local go_sem] Oper.semAt_some
theorem Still.at {n1:Nat}{C:Nat->Prop}{f:Nat}{Wb:World}{M:Nat->Prop}{s:List (Nd×V)}{W:World}(h:Still n1 C f Wb M s W){p:Nd×V}(hp:p∈s):At (fun b=>b<n1/\¬C b) f W p.1 p.2:=by
 obtain⟨hok,hlt,us,hus,hl⟩:=h.lies p hp;have hb:∀b,(b<n1/\¬C b)->b<Wb.heap.size->W.heap[b]?=Wb.heap[b]?:=fun b hb hlt=>h.turn.block b hlt (fun hx=>hx.elim hb.2 (fun h=>by omega))
 exact⟨hok,Nat.lt_of_lt_of_le hlt h.turn.size,us,fun i hi=>(World.cell?_of_block (hb _ hok hlt)).trans (hus i hi),hl.kept (fun _ h=>h) h.turn.size hb⟩
theorem At.six {ok:Nat->Prop}{f:Nat}{W:World}{x:Nd}{t:V}(h:At ok f W x t):∃(k n:Int) (b:Nat) (s:ByteArray) (L E:List V) (pL pE:Option Addr) (cL cE:Nat),t=mkV (k,n,b,s.data.toList) L E/\b<18446744073709551616/\s.size<=maxLen/\Six W x.1 x.2.1 k n b s pL L.length cL pE E.length cE/\jaC ok f W pE E/\L.length<=cL/\cL<=maxLen/\E.length<=cE/\cE<=maxLen:=by
 obtain⟨hok,hlt,us,hus,hl⟩:=h;cases f with
 | zero=>exact hl.elim
 | succ f=>
  obtain⟨k,n,b,s,L,E,pL,pE,cL,cE,rfl,rfl,h3,h4,hL,hE⟩:=hl;exact⟨k,n,b,s,L,E,pL,pE,cL,cE,rfl,h3.2.2.1,h3.2.2.2,⟨hus 0 (by omega),hus 1 (by omega),hus 2 (by omega),hus 3 (by omega),hus 4 (by omega),hus 5 (by omega),hlt⟩,hE.kept (fun _ h=>h) (Nat.le_refl _) (fun _ _ _=>rfl) (fun j us _ ⟨key,y,xs,a1,a2,a3,a4⟩=>⟨key,y,xs,a1,a2,a3,a4.up⟩),h4⟩
def Za (s:List (Nd×V)):List (V×Nat):=s.map fun p=>(p.2,p.1.2.2.toNat)
theorem jao {ks:List (Nd×V)}{a:Nat}(h:∀k,k∈ks->k.1.2.2=(a:Int)):Za ks=(ks.map Prod.snd).map fun y=>(y,a):=by
 rw [Za,List.map_map];apply List.map_congr_left
 intro k hk;rw [h k hk];rfl
theorem Jz {w:World}{B:Nat}{v:Int}(tmps:Array Value)(h:Boxed w B 30 (.int .i64 v))(ht:tmps[2]?=some (.pointer (some ⟨B,0,none⟩)):=by rfl):(results Tryd.f16 tmps).run Tryd.prog w=.ok (.int .i64 v) w:=by
 have hc:=h.cell;simp [results,Tryd.f16,ht,go_sem,hc]
theorem Qb {W W':World}(B:Nat)(h:Below W.heap.size W W'):KeepsFrom B W W':=⟨h.size,fun k o _ hk _=>(h.block k (Array.getElem?_eq_some_iff.1 hk).1).trans hk⟩
theorem zv {W W':World}(M:Nat->Prop)(h:Below W.heap.size W W'):Turns M W W':=⟨h.os,h.tape,h.output,h.size,fun b hb _=>h.block b hb⟩
theorem qH (f:Nat)(w:World)(t:V)(a0 a1 a2 a3 a4 a5:Value)(hl:LiesV (fun b=>b<w.heap.size) f w [a0,a1,a2,a3,a4,a5] t)(hn:jd f t<=10000000)(hT:Lib.Utf8Tabs 1 2 w) :
  CallsIn Fence.wide 9 Tryd.prog 16 #[.agg #[a0,a1,a2,a3,a4,a5]] w fun e w'=>e=.returned (.int .i64 (jh jr t))/\Below w.heap.size w w':=by
 obtain⟨k,n,b,s,pL,nL,cL,pE,nE,cE,rfl,rfl,rfl,rfl,rfl,rfl⟩:=hl.form;refine callsIn_of_wp_marks Tryd.func16 rfl trivial ?_ rfl
 simp only [Tryd.ntmps16,List.size_toArray,List.length_cons,List.length_nil,Nat.reduceAdd,Nat.reduceSub,Array.replicate_succ,Array.replicate_zero,List.push_toArray,List.append_toArray,List.nil_append,List.cons_append]
 gi_wp2
 obtain⟨Wb,hWb⟩:∃Wb,Wb=((w.alloc (.cells #[.int .i64 k,.int .i64 n,.int .u64 (b:Int),.string s,.slice pL nL cL,.slice pE nE cE] 26)).alloc (.cells #[.int .i64 0] 30)).alloc (.cells #[.int .i64 0] 3):=⟨_,rfl⟩
 rw [<-hWb];have sb:Wb.heap.size=w.heap.size+3:=by rw [hWb];simp
 have tb:Below w.heap.size w Wb:=by rw [hWb];exact(((Below.refl _ w).alloc (Nat.le_refl _) _).alloc (by simp) _).alloc (by simp;omega) _
 have vb:Blk Wb w.heap.size #[.int .i64 k,.int .i64 n,.int .u64 (b:Int),.string s,.slice pL nL cL,.slice pE nE cE] 26:=by rw [hWb];exact((jb w _ _).alloc _).alloc _
 have rb:Boxed Wb (w.heap.size+1) 30 (.int .i64 0):=by
  rw [hWb];have:=(Boxed.new (w.alloc (.cells #[.int .i64 k,.int .i64 n,.int .u64 (b:Int),.string s,.slice pL nL cL,.slice pE nE cE] 26)) 30 (.int .i64 0)).alloc (.cells #[.int .i64 0] 3);rwa [World.size_alloc] at this
 have cb:Boxed Wb (w.heap.size+1+1) 3 (.int .i64 0):=by
  rw [hWb];have:=Boxed.new ((w.alloc (.cells #[.int .i64 k,.int .i64 n,.int .u64 (b:Int),.string s,.slice pL nL cL,.slice pE nE cE] 26)).alloc (.cells #[.int .i64 0] 30)) 3 (.int .i64 0);rwa [World.size_alloc,World.size_alloc] at this
 clear hWb;refine⟨trivial,(JC _ _ _).mono ?_⟩
 rintro e w' ⟨rfl,rfl⟩
 gi_wp2
 obtain⟨W2,hW2⟩:∃W2,W2=(Wb.alloc (.cells #[.pointer (some ⟨w.heap.size,0,none⟩),.int .i64 0] 77)).alloc (.cells #[.func (.func 56) #[] #[]] 107):=⟨_,rfl⟩
 rw [<-hW2];have s2:W2.heap.size=Wb.heap.size+2:=by rw [hW2];simp
 have t2:Turns (fun _=>False) Wb W2:=by rw [hW2];exact(Turns.alloc _ _ _).trans (Turns.alloc (fun _=>False) _ _) (fun _ _ h=>h)
 have x1:W2.heap[w.heap.size+3]?=some (.cells #[.pointer (some ⟨w.heap.size,0,none⟩),.int .i64 0] 77):=by rw [<-sb,hW2];exact(jb Wb _ _).alloc _
 have x2:W2.heap[w.heap.size+3+1]?=some (.cells #[.func (.func 56) #[] #[]] 107):=by
  rw [<-sb,hW2];have:=jb (Wb.alloc (.cells #[.pointer (some ⟨w.heap.size,0,none⟩),.int .i64 0] 77)) #[.func (.func 56) #[] #[]] 107;rwa [World.size_alloc] at this
 clear hW2
 refine qS (lb:=#[.pointer (some ⟨w.heap.size+3,0,none⟩),.pointer (some ⟨w.heap.size+3+1,0,none⟩)]) rfl (enters_of Tryd.func71 (by kernel_rfl) rfl)
  (Qu (w.heap.size+3) (w.heap.size+3+1) (w.heap.size,0,0) zh (jM f) W2 x1 x2) (Below.refl _ _) rfl (fun M W x kids l o o' h _ h2 h3=>h.put o' h2 h3)
  (w.heap.size+3) (by omega)
  (fun M st W=>Still (w.heap.size+3) (fun b=>b=w.heap.size+1\/b=w.heap.size+1+1) f Wb M st W/\jM f st<=jd f t/\(∀p,p∈st->0<=p.1.2.2/\p.1.2.2<=20)/\∃cnt:Nat,cnt<=2000/\chk jr (2000 - cnt) (Za st)=jh jr t/\Boxed W (w.heap.size+1+1) 3 (.int .i64 (cnt:Int))/\Boxed W (w.heap.size+1) 30 (.int .i64 0))
  (fun c M _ W=>c=.ret/\(∀b,M b->w.heap.size+3<=b)/\Turns (fun b=>(b=w.heap.size+1\/b=w.heap.size+1+1)\/w.heap.size+3<=b) Wb W/\Boxed W (w.heap.size+1) 30 (.int .i64 (jh jr t)))
  ?ab ?abx [((w.heap.size,0,0),t)] rfl (fun b h=>by omega) ?start (fun M st X h=>by have:=Z4 h.1;omega)
  (fun x a' W=>∃Bx,Blk W Bx #[.pointer (some ⟨x.1,x.2.1,none⟩),.int .i64 x.2.2] 77/\a'={ tmps:=#[.agg #[.int .i64 k,.int .i64 n,.int .u64 (b:Int),.string s,.slice pL nL cL,.slice pE nE cE],.pointer (some ⟨w.heap.size,0,none⟩),.pointer (some ⟨w.heap.size+1,0,none⟩),.pointer (some ⟨w.heap.size+1+1,0,none⟩),.pointer (some ⟨Bx,0,none⟩),undef,.func (.func 71) #[] #[.pointer (some ⟨w.heap.size+3,0,none⟩),.pointer (some ⟨w.heap.size+3+1,0,none⟩)],Jw x,undef,undef,undef,undef,undef,undef,undef,undef,undef,undef,undef,undef,undef],defers:=[] })
  ?ax ?assign ?body ?done ?stop
 case ab=>
  rintro M M' st A B ⟨hS,hle,hab,cnt,hcn,hck,hbx,hrb⟩ ht hm
  exact⟨hS.abides ht hm,hle,hab,cnt,hcn,hck,hS.box (by omega) hbx ht,hS.box (by omega) hrb ht⟩
 case abx=>
  rintro c M M' _ A B ⟨rfl,hM,htu,hrb⟩ ht hm
  have hs:=htu.size;have key:∀b,(M b\/(w.heap.size+3<=b/\∃o:Obj,A.heap[b]?=some o/\o.isCells=false))->w.heap.size+3<=b:=fun b h=>h.elim (hM b) (fun h=>h.1)
  exact⟨rfl,fun b hb=>(hm b hb).elim (hM b) (fun h=>by omega),htu.trans ht (fun b _ h=>.inr (key b h)),(ht.block _ hrb.lt (fun h=>by have:=key _ h;omega)).trans hrb⟩
 case start=>
  have e0:jM f [((w.heap.size,0,0),t)]=jd f t:=by rw [j8];rfl
  refine⟨Xi hl tb (fun i hi=>?_) (by omega) (by omega) (by omega) (fun b hb=>by omega) (by omega) (fun b hb=>by omega) (t2.mono fun _ _ h=>h.elim),by rw [e0];exact Nat.le_refl _,by simp,0,by omega,rfl,(t2.block _ cb.lt (fun h=>h)).trans cb,(t2.block _ rb.lt (fun h=>h)).trans rb⟩
  ·rw [Nat.zero_add]
   match i,hi with
   | 0,_=>exact vb.cell 0 _ rfl
   | 1,_=>exact vb.cell 1 _ rfl
   | 2,_=>exact vb.cell 2 _ rfl
   | 3,_=>exact vb.cell 3 _ rfl
   | 4,_=>exact vb.cell 4 _ rfl
   | 5,_=>exact vb.cell 5 _ rfl
 case ax=>
  rintro x a' W l o o' ⟨Bx,hb,ha⟩ h1 h2
  refine⟨Bx,(World.putObj_heap_other (fun e=>?_)).trans hb,ha⟩;rw [<-e,show W.heap[Bx]?=_ from hb] at h1;cases h1
  cases h2
 case assign=>
  intro l x W K hK;simp only [Jw] at *
  gi_wp2
  exact hK _ _ (Turns.alloc _ _ _) ⟨W.heap.size,jb _ _ _,by simp⟩
 case body=>
  rintro l M st x rest a' W hlw ⟨r,hr⟩ ⟨Bx,hbB,rfl⟩ ⟨hS,hle,hab,cnt,hcn,hck,hbx,hrb⟩ hM ht
  cases st with
  | nil=>cases ht
  | cons p st=>
   simp only [zh,List.map_cons,List.cons.injEq] at ht;obtain⟨rfl,rfl⟩:=ht;obtain⟨a,ha⟩:∃a:Nat,p.1.2.2=(a:Int):=⟨p.1.2.2.toNat,by have:=hab p (by simp);omega⟩
   have ha20:a<=20:=by have:=(hab p (by simp)).2;omega
   have hdoc:Za (p :: st)=(p.2,a) :: Za st:=by simp [Za,ha]
   rw [hdoc] at hck;have n1:¬M (w.heap.size+1):=fun h=>by have:=hS.mine _ h;omega
   have n2:¬M (w.heap.size+1+1):=fun h=>by have:=hS.mine _ h;omega
   have c1:=hbx.cell;have f1:=hbx.frozen
   have nB:Bx≠w.heap.size+1+1:=fun e=>by
    have h1:=hbB;unfold Blk at h1;rw [e,show W.heap[w.heap.size+1+1]?=_ from hbx] at h1;injection h1 with h1;injection h1 with _ h1;exact absurd h1 (by decide)
   obtain⟨W1,hW1⟩:∃W1,W1=W.setCell ⟨w.heap.size+1+1,0,none⟩ (.int .i64 ((cnt:Int)+1)):=⟨_,rfl⟩
   have kA:KeepsFrom W2.heap.size W W1:=by rw [hW1];exact(KeepsOthers.setCell _ _ _).from _
   have tA:Turns (fun b=>¬M b) W W1:=by rw [hW1];exact Turns.setCell _ _ _ n2
   have bx1:Boxed W1 (w.heap.size+1+1) 3 (.int .i64 ((cnt+1:Nat):Int)):=by
    have h:=hbx.set (.int .i64 ((cnt:Int)+1));rw [<-hW1] at h;have e:((cnt+1:Nat):Int)=(cnt:Int)+1:=by omega
    rw [e];exact h
   have rb1:Boxed W1 (w.heap.size+1) 30 (.int .i64 0):=by rw [hW1];exact hrb.other (by omega) _
   have hB1:Blk W1 Bx #[.pointer (some ⟨p.1.1,p.1.2.1,none⟩),.int .i64 p.1.2.2] 77:=by rw [hW1];exact hbB.set_other _ _ nB
   have hS1:Still (w.heap.size+3) (fun b=>b=w.heap.size+1\/b=w.heap.size+1+1) f Wb M (p :: st) W1:=hS.round (by rw [hW1];exact Turns.setCell _ _ _ (.inl (.inr rfl)));have c2:=bx1.cell;have r1:=rb1.cell;have r2:=rb1.frozen;have d0:=hB1.cell 0 _ rfl;have d1:=hB1.cell 1 _ rfl;rw [ha] at d1;have e1:((cnt+1:Nat):Int)=(cnt:Int)+1:=by omega
   rw [e1] at c2
   -- how a round ends that has told a number
   have told:∀(W3:World) (v:Int),KeepsFrom W2.heap.size W1 W3->Turns (fun b=>¬M b) W1 W3->Turns (fun b=>(b=w.heap.size+1\/b=w.heap.size+1+1)\/w.heap.size+3<=b) W1 W3->Boxed W3 (w.heap.size+1) 30 (.int .i64 0)->jh jr t=v->
     (KeepsFrom W2.heap.size W (W3.setCell ⟨w.heap.size+1,0,none⟩ (.int .i64 v))/\Turns (fun b=>¬M b) W (W3.setCell ⟨w.heap.size+1,0,none⟩ (.int .i64 v)))/\((∀b,M b->w.heap.size+3<=b)/\Turns (fun b=>(b=w.heap.size+1\/b=w.heap.size+1+1)\/w.heap.size+3<=b) Wb (W3.setCell ⟨w.heap.size+1,0,none⟩ (.int .i64 v))/\Boxed (W3.setCell ⟨w.heap.size+1,0,none⟩ (.int .i64 v)) (w.heap.size+1) 30 (.int .i64 (jh jr t))):=by
    intro W3 v k3 t3 u3 b3 hv;refine⟨⟨(kA.trans k3).trans ((KeepsOthers.setCell _ _ _).from _),(tA.trans t3 (fun _ _ h=>h)).trans (Turns.setCell (M:=fun b=>¬M b) _ _ _ n1) (fun _ _ h=>h)⟩,hS.mine,((hS1.turn.trans u3 (fun _ _ h=>h)).trans (Turns.setCell (M:=fun b=>b=w.heap.size+1) _ _ _ rfl) (fun _ _ h=>.inl (.inl h))),?_⟩;rw [hv];exact b3.set _
   have HT:=ja told;have HW:=ja hW1;rw [hW1] at c2 r1 r2 d0 d1
   by_cases g1:cnt=2000
   ·have hv:jh jr t=2:=by
     rw [<-hck,g1];rfl
    have i1:(cnt:Int)+1 > 2000:=by omega
    have HV:=ja hv;have HZ:=ja s2;clear told hck g1 hv s2
    gi_wp2
    rw [<-HW.out];have hq:=HT.out W1 2 (KeepsFrom.refl _ _) (Turns.refl _ _) (Turns.refl _ _) rb1 HV.out;exact⟨hq.1,rfl,hq.2⟩
   ·have i1:¬(cnt:Int)+1 > 2000:=by omega
    obtain⟨m,hm⟩:∃m,2000 - cnt=m+1:=⟨1999 - cnt,by omega⟩
    rw [hm] at hck;have hck2:(if 20<=a then 5 else if jr p.2=0 then chk jr m ((parts p.2).map (fun y=>(y,a+1))++Za st) else jr p.2)=jh jr t:=hck;clear hck
    by_cases g2:20<=a
    ·rw [if_pos g2] at hck2
     have i2:(a:Int) ≥ 20:=by omega
     have HV:=ja hck2.symm;have HZ:=ja s2;clear told hck2 s2
     gi_wp2
     rw [<-HW.out];have hq:=HT.out W1 5 (KeepsFrom.refl _ _) (Turns.refl _ _) (Turns.refl _ _) rb1 HV.out;exact⟨hq.1,rfl,hq.2⟩
    ·rw [if_neg g2] at hck2
     have i2:¬(a:Int) ≥ 20:=by omega
     obtain⟨vk,vn,vb,vs,VL,VE,vpL,vpE,vcL,vcE,het,h64,hsz,hsix,hrow,l1,l2,l3,l4⟩:=(hS1.at (p:=p) (by simp)).six;have hbt:Below w.heap.size w W1:=tb.trans (hS1.turn.below (n:=w.heap.size) (by omega) (fun b h=>by omega));have hal:=jam _ f W1 p.1.1 p.1.2.1 vk vn vb vs VL VE vpL vpE vcL vcE h64 hsz hsix hrow l1 l2 l3 l4 (Utf8Tabs_below hT hbt);rw [<-het] at hal;have HAL:=ja hal;rw [hW1] at HAL;clear told hal hsix hrow
     by_cases g3:jr p.2=0
     ·rw [if_pos g3] at hck2
      rw [g3] at HAL;have HC:=ja hck2;have HZ:=ja s2;clear hck2 s2
      gi_wp2
      refine⟨trivial,(CallsIn.inRound l (callsIn_wide.2 HAL.out)).mono ?_⟩
      rintro e W3 ⟨rfl,b3⟩
      gi_wp2
      rw [<-HW.out] at b3;have hS3:=hS1.round (zv _ b3);obtain⟨ks,hkd,hks,hS4,hka,hleft⟩:=hS3.next
      have hwr:IntKind.i64.wrap (p.1.2.2+1)=((a+1:Nat):Int):=by
       rw [ha,IntWalk.i64_left,IntWalk.wrap64_in _ (by omega)];omega
      refine⟨⟨kA.trans (Qb _ b3),tA.trans (zv (fun b=>¬M b) b3) (fun _ _ h=>h)⟩,ks++st,ks.map Prod.fst,⟨hS4,by omega,?_,cnt+1,by omega,?_,(b3.block _ bx1.lt).trans bx1,(b3.block _ rb1.lt).trans rb1⟩,by simp [zh],by omega,hkd⟩
      ·intro q hq
       rcases List.mem_append.1 hq with hq | hq
       ·rw [hka q hq,hwr]
        omega
       ·exact hab q (by simp [hq])
      ·have e2:2000 - (cnt+1)=m:=by omega
       have e3:Za (ks++st)=(parts p.2).map (fun y=>(y,a+1))++Za st:=by
        rw [<-hks,<-jao (fun k hk=>(hka k hk).trans hwr)];simp [Za]
       rw [e2,e3];exact HC.out
     ·rw [if_neg g3] at hck2
      have hrange:=XX p.2;obtain⟨v,hv⟩:∃v,v=jr p.2:=⟨_,rfl⟩
      rw [<-hv] at HAL hck2 g3;have g4:(v != 0)=true:=bne_iff_ne.2 g3;have HV:=ja hck2.symm;have HZ:=ja s2;clear hck2 s2 hv
      gi_wp2
      refine⟨trivial,(CallsIn.inRound l (callsIn_wide.2 HAL.out)).mono ?_⟩
      rintro e W3 ⟨rfl,b3⟩
      rw [<-HW.out] at b3;have rb3:Boxed W3 (w.heap.size+1) 30 (.int .i64 0):=(b3.block _ rb1.lt).trans rb1;have r3:=rb3.cell;have r4:=rb3.frozen
      gi_wp2
      have hq:=HT.out W3 v (Qb _ b3) (zv _ b3) (zv _ b3) rb3 HV.out;exact⟨hq.1,rfl,hq.2⟩
 case done=>
  rintro D M st W hD ht ⟨hS,hle,hab,cnt,hcn,hck,hbx,hrb⟩ hdf
  obtain rfl:st=[]:=List.map_eq_nil_iff.1 ht
  have hz:jh jr t=0:=by
   rw [<-hck];cases 2000 - cnt<;>rfl
  have r1:=hrb.cell;have r2:=hrb.frozen
  gi_wp2
  have hrb2:=hrb.set (.int .i64 0);have hdf2:(W.setCell ⟨w.heap.size+1,0,none⟩ (.int .i64 0)).heap[D]?=some (.deferred (some [])):=(Below.heap_setCell _ _ _ _ (fun e=>by simp only at e;omega)).trans hdf
  have hrb3:Boxed ((W.setCell ⟨w.heap.size+1,0,none⟩ (.int .i64 0)).putObj D (.deferred none)) (w.heap.size+1) 30 (.int .i64 0):=(World.putObj_heap_other (by omega)).trans hrb2;refine⟨by simp,.inl ⟨_,_,rfl,run_takeDeferred hdf2,?_⟩⟩;refine⟨_,Jz _ hrb3,by rw [hz],?_⟩;exact tb.trans ((((hS.turn.trans (Turns.setCell (M:=fun b=>b=w.heap.size+1) _ _ _ rfl) (fun b _ h=>.inl (.inl h))).trans (Turns.putObj (M:=fun b=>w.heap.size+3<=b) _ _ _ (by omega)) (fun b _ h=>.inr h)).below (n:=w.heap.size) (by omega) (fun b h=>by omega)))
 case stop=>
  rintro D c M W hD ⟨rfl,hM,htu,hrb⟩ hdf
  gi_wp2
  have hrb3:Boxed (W.putObj D (.deferred none)) (w.heap.size+1) 30 (.int .i64 (jh jr t)):=(World.putObj_heap_other (by omega)).trans hrb;refine⟨by simp,.inl ⟨_,_,rfl,run_takeDeferred hdf,?_⟩⟩;refine⟨_,Jz _ hrb3,rfl,?_⟩;exact tb.trans (((htu.trans (Turns.putObj (M:=fun b=>w.heap.size+3<=b) _ _ _ (by omega)) (fun b _ h=>.inr h)).below (n:=w.heap.size) (by omega) (fun b h=>by omega)))
end valus
end Go.Proofs.YtadaehaemmelfaaDoor
