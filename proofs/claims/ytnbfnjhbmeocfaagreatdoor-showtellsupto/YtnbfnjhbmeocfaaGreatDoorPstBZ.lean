/- Of our texts, what this claim reaches. -/
import Derived.Test.YtnbfnjhbmeocfaaGreatDoorPstBY
import Derived.Test.YtnbfnjhbmeocfaaGreatDoorPstBL
import Derived.Test.YtnbfnjhbmeocfaaGreatDoorPstBT
import Derived.Test.YtnbfnjhbmeocfaaGreatDoorPstBN
import Derived.Test.YtnbfnjhbmeocfaaGreatDoorPstAA
import Derived.Test.YtnbfnjhbmeocfaaGreatDoorPstAP
import Derived.Test.YtnbfnjhbmeocfaaGreatDoorPstBQ
import Derived.Deep.CutRange
import Derived.Deep.RegionWith
import Derived.Test.YtnbfnjhbmeocfaaGreatDoorPstAE
import Derived.Test.YtnbfnjhbmeocfaaGreatDoorPstAB
import Derived.Test.YtnbfnjhbmeocfaaGreatDoorPstAF
import Derived.Deep.QuietTactic
import Derived.BigQuiet
set_option linter.unusedVariables false
set_option maxHeartbeats 8000000
set_option maxRecDepth 100000
namespace Go.Proofs.YtnbfnjhbmeocfaaGreatDoor
namespace valus
open Go.RowKit
open bigs (jv)
def Ym (F:Nat->List UInt8)(many:Bool)(f:Nat)(t:V):List UInt8:=ji F many f 0 t++(if many=true then [10] else [])
theorem jbt (B R f:Nat){F:Nat->List UInt8}(hF:∀b,b<18446744073709551616->jv b (F b))(many:Bool)(fm:Int)(hfm:jen many fm)(w:World)(k n:Int)(b:Nat)(s:ByteArray)(pL:Option Addr)(nL cL:Nat)(pE:Option Addr)(nE cE:Nat)(t:V)
  (hg:Pg B R [] 0 fm w) (hT:Tb B w) (hBw:B<=w.heap.size) (hl:LiesB B f w [.int .i64 k,.int .i64 n,.int .u64 (b:Int),.string s,.slice pL nL cL,.slice pE nE cE] t) (hG:Jq f t) (hd:f<=1000) (hlen:(ji F many f 0 t).length<=140737488355327) :
  Calls Tryz.prog 85 #[.pointer (some ⟨R,0,none⟩),.agg #[.int .i64 k,.int .i64 n,.int .u64 (b:Int),.string s,.slice pL nL cL,.slice pE nE cE]] w fun e w'=>(∃v,e=.returned v)/\Pg B R (Ym F many f t) 0 fm w'/\Below B w w':=by
 have bV:Below w.heap.size w (w.alloc (.cells #[.int .i64 k,.int .i64 n,.int .u64 (b:Int),.string s,.slice pL nL cL,.slice pE nE cE] 26)):=(Below.refl _ w).alloc (Nat.le_refl _) _;have bB:=bV.mono hBw;have hX:=jd w #[.int .i64 k,.int .i64 n,.int .u64 (b:Int),.string s,.slice pL nL cL,.slice pE nE cE] 26;have x0:=hX.cell 0 _ rfl;have x1:=hX.cell 1 _ rfl;have x2:=hX.cell 2 _ rfl;have x3:=hX.cell 3 _ rfl;have x4:=hX.cell 4 _ rfl;have x5:=hX.cell 5 _ rfl;have KV:=jb (jaw B R hF many fm hfm f _ [] 0 k n b s pL nL cL pE nE cE t (hg.below bV) (hT.next bB) (by have:=bV.size;omega) (hl.next bB) hG (by omega) (by rw [List.length_nil];omega));have HB:=jb (And.intro bB hBw);have HL:=jb hlen;unfold Ym;clear hX hg hT hl hG hlen bB bV hBw
 rcases hfm with ⟨rfl,rfl⟩ | ⟨rfl,rfl⟩
 ·rw [if_pos rfl]
  go_enter Tryz.func85,Tryz.ntmps85
  go_wp2_with (go_at_call 146;refine(ja KV).mono ?_)
  rintro e w1 ⟨⟨v,rfl⟩,g1,b1,k1⟩
  have c3:=g1.c3;rw [List.nil_append] at g1;have b01:=HB.out.1.trans b1;have KE:=jb (jjt B R (ji F true f 0 t) 0 1 w1 g1 (by have:=HL.out;omega) (by have:=b01.size;have:=HB.out.2;omega));have H1:=jb b01;clear g1 b1 k1 b01 KV HB
  go_wp2_with (go_at_call 147;refine(ja KE).mono ?_)
  rintro e w2 ⟨rfl,g2,b2,k2⟩
  have H2:=jb (And.intro g2 (H1.out.trans b2));clear g2 b2 k2;go_wp2;go_end0;exact⟨⟨_,rfl⟩,H2.out⟩
 ·rw [if_neg (by decide),List.append_nil]
  go_enter Tryz.func85,Tryz.ntmps85
  go_wp2_with (go_at_call 146;refine(ja KV).mono ?_)
  rintro e w1 ⟨⟨v,rfl⟩,g1,b1,k1⟩
  have c3:=g1.c3;rw [List.nil_append] at g1;have H1:=jb (And.intro g1 (HB.out.1.trans b1));clear g1 b1 k1 KV HB;go_wp2;go_end0;exact⟨⟨_,rfl⟩,H1.out⟩
theorem jhM (w:World)(fm:Int):Pg w.heap.size w.heap.size [] 0 fm (w.alloc (.cells #[.pointer none,.slice none 0 0,.int .i64 0,.int .i64 fm] 153)) :=
 .inl ⟨Nat.le_refl _,.slice none 0 0,jd w _ _,World.ownsRowF_nil _ _ _ _,by simp [Value.ownBlock]⟩
theorem ji7 (F:Nat->List UInt8)(many:Bool)(f:Nat){t:V}(h:Gr f (jE (ji F many f 0 t)) t):ji F many f 0 t≠[]:=fun e=>by
 rw [e] at h;exact jjl h rfl
theorem LiesV.shallow {ok:Nat->Prop}{w:World}:∀(f m:Nat) {vs:List Value} {t:V},LiesV ok f w vs t->zj f t<=m->LiesV ok m w vs t
 | 0,_,_,_,h,_=>h.elim
 | f+1,0,_,t,_,hd=>by
  have:zj (f+1) t=maxOf (zj f) (parts t)+1:=rfl;omega
 | f+1,m+1,_,t,h,hd=>by
  obtain⟨k,n,b,s,L,E,pL,pE,cL,cE,rfl,rfl,h1,h2,rL,rE⟩:=h
  have hd':maxOf (zj f) (parts (mkV (k,n,b,s.data.toList) L E))<=m:=by
   have:zj (f+1) (mkV (k,n,b,s.data.toList) L E)=maxOf (zj f) (parts (mkV (k,n,b,s.data.toList) L E))+1:=rfl;omega
  rw [j8] at hd';refine⟨k,n,b,s,L,E,pL,pE,cL,cE,rfl,rfl,h1,h2,rL.kept (fun _ h=>h) (Nat.le_refl _) (fun _ _ _=>rfl) (fun j us _ ⟨y,e1,e2⟩=>⟨y,e1,LiesV.shallow f m e2 (Nat.le_trans (YP (List.mem_append_left _ (List.mem_iff_getElem?.2 ⟨j,e1⟩))) hd')⟩),rE.kept (fun _ h=>h) (Nat.le_refl _) (fun _ _ _=>rfl) (fun j us _ ⟨key,y,xs,e1,e2,e3,e4⟩=>⟨key,y,xs,e1,e2,e3,LiesV.shallow f m e4 (Nat.le_trans (YP (List.mem_append_right _ (List.mem_map.2 ⟨_,List.mem_iff_getElem?.2 ⟨j,e1⟩,by rw [qk]⟩))) hd')⟩)⟩
def Jy (F:Nat->List UInt8)(many:Bool)(t:V):List UInt8:=if jC jR t=0 then Ym F many 20 t else []
theorem jaf (f:Nat){F:Nat->List UInt8}(hF:∀b,b<18446744073709551616->jv b (F b))(many:Bool)(fm:Int)(hfm:jen many fm)(w:World)(k n:Int)(b:Nat)(s:ByteArray)(pL:Option Addr)(nL cL:Nat)(pE:Option Addr)(nE cE:Nat)(t:V)
  (hT:ShowTabs w) (hl:LiesV (fun q=>q<w.heap.size) f w [.int .i64 k,.int .i64 n,.int .u64 (b:Int),.string s,.slice pL nL cL,.slice pE nE cE] t) (hno:jB f t<=10000000) :
  Calls Tryz.prog 39 #[.agg #[.int .i64 k,.int .i64 n,.int .u64 (b:Int),.string s,.slice pL nL cL,.slice pE nE cE],.int .i64 fm] w fun e w'=>e=.returned (.tuple #[.string ⟨(Jy F many t).toArray⟩,.int .i64 (jC jR t)])/\Below w.heap.size w w':=by
 have bV:Below w.heap.size w (w.alloc (.cells #[.int .i64 k,.int .i64 n,.int .u64 (b:Int),.string s,.slice pL nL cL,.slice pE nE cE] 26)):=(Below.refl _ w).alloc (Nat.le_refl _) _;have hX:=jd w #[.int .i64 k,.int .i64 n,.int .u64 (b:Int),.string s,.slice pL nL cL,.slice pE nE cE] 26;obtain⟨W,hW⟩:∃W,W=w.alloc (.cells #[.int .i64 k,.int .i64 n,.int .u64 (b:Int),.string s,.slice pL nL cL,.slice pE nE cE] 26):=⟨_,rfl⟩
 rw [<-hW] at bV hX;have x0:=hX.cell 0 _ rfl;have x1:=hX.cell 1 _ rfl;have x2:=hX.cell 2 _ rfl;have x3:=hX.cell 3 _ rfl;have x4:=hX.cell 4 _ rfl;have x5:=hX.cell 5 _ rfl;have hlW:LiesV (fun q=>q<W.heap.size) f W [.int .i64 k,.int .i64 n,.int .u64 (b:Int),.string s,.slice pL nL cL,.slice pE nE cE] t:=hl.kept (fun q hq=>Nat.lt_of_lt_of_le hq bV.size) bV.size (fun q hq _=>bV.block q hq);have hI:IsV f t:=hl.isV;have KC:=callsIn_wide.1 (jgB f W t _ _ _ _ _ _ hlW hno (hT.below bV).utf);unfold Jy
 by_cases h0:jC jR t=0
 ·rw [h0] at KC
  rw [h0,if_pos rfl];have HKC:=jb KC;have hl:=LiesV.shallow f 20 hl (JR hI h0).1;have hI:=hl.isV;have hG:=QN hl h0;have hlen:=zx hF many 20 0 t hI hG h0 (by omega);have hnod:=(JR hI h0).2;have hgr:=(jbj hF many 20 0 t hI hG h0).1;have hne:Ym F many 20 t≠[]:=fun e=>ji7 F many 20 hgr (by unfold Ym at e;exact(List.append_eq_nil_iff.1 e).1)
  have KD:Hid (∀w1,Below w.heap.size w w1->Calls Tryz.prog 85 #[.pointer (some ⟨w1.heap.size,0,none⟩),.agg #[.int .i64 k,.int .i64 n,.int .u64 (b:Int),.string s,.slice pL nL cL,.slice pE nE cE]] (w1.alloc (.cells #[.pointer none,.slice none 0 0,.int .i64 0,.int .i64 fm] 153)) fun e w'=>(∃v,e=.returned v)/\Pg w1.heap.size w1.heap.size (Ym F many 20 t) 0 fm w'/\Below w1.heap.size w1 w'):=jb fun w1 hb1=>by
   have bA:Below w1.heap.size w1 (w1.alloc (.cells #[.pointer none,.slice none 0 0,.int .i64 0,.int .i64 fm] 153)):=(Below.refl _ w1).alloc (Nat.le_refl _) _;have hl1:LiesB w1.heap.size 20 w1 [.int .i64 k,.int .i64 n,.int .u64 (b:Int),.string s,.slice pL nL cL,.slice pE nE cE] t:=hl.kept (fun q hq=>Nat.lt_of_lt_of_le hq hb1.size) hb1.size (fun q hq _=>hb1.block q hq);refine(jbt w1.heap.size w1.heap.size 20 hF many fm hfm _ k n b s pL nL cL pE nE cE t (jhM w1 fm) ⟨w1,rfl,hT.below hb1,bA⟩ bA.size (hl1.next bA) hG (by omega) (by omega)).mono ?_
   rintro e w' ⟨h1,h2,h3⟩
   exact⟨h1,h2,bA.trans h3⟩
  have KS:Hid (∀(w1 w2:World),Pg w1.heap.size w1.heap.size (Ym F many 20 t) 0 fm w2->Calls Tryz.prog 86 #[.pointer (some ⟨w1.heap.size,0,none⟩)] w2 fun e w'=>e=.returned (.string ⟨(Ym F many 20 t).toArray⟩)/\Below w1.heap.size w2 w'):=jb fun w1 w2 hg=>jjJ _ _ _ 0 fm w2 hg hne
  have HB:=jb bV;have HX:=jb hX;clear KC hl hlW hT hG hlen hgr hne hX hI h0 hno hF hfm
  go_enter Tryz.func39,Tryz.ntmps39
  go_upto_region 1 with fail
  rw [<-hW];clear hW bV
  go_upto_region 4 with (go_at_call 17;refine(ja HKC).mono ?_;rintro e w1 ⟨rfl,b1⟩)
  have b01:=HB.out.trans (b1.mono HB.out.size);have X1:Blk w1 w.heap.size #[.int .i64 k,.int .i64 n,.int .u64 (b:Int),.string s,.slice pL nL cL,.slice pE nE cE] 26:=HX.out.below b1;have X2:=X1.alloc (.cells #[.pointer none,.slice none 0 0,.int .i64 0,.int .i64 fm] 153);have y0:=X2.cell 0 _ rfl;have y1:=X2.cell 1 _ rfl;have y2:=X2.cell 2 _ rfl;have y3:=X2.cell 3 _ rfl;have y4:=X2.cell 4 _ rfl;have y5:=X2.cell 5 _ rfl;have KD1:=jb (KD.out w1 b01);have KS1:=KS.out w1;have HKS:=jb KS1;have H1:=jb b01;clear x0 x1 x2 x3 x4 x5 b1 b01 X1 X2 KD KS HKC HB HX KS1
  go_wp2_with (first
   | (go_at_call 85;refine(ja KD1).mono ?_;rintro e w2 ⟨⟨v,rfl⟩,g2,b2⟩;have KS2:=jb (HKS.out w2 g2);have H2:=jb b2;clear g2 b2)
   | (go_at_call 86;refine(ja KS2).mono ?_;rintro e w3 ⟨rfl,b3⟩))
  go_ret2;exact⟨rfl,H1.out.trans ((H2.out.trans b3).mono H1.out.size)⟩
 ·rw [if_neg h0]
  obtain⟨er,her⟩:∃er,er=jC jR t:=⟨_,rfl⟩
  rw [<-her] at KC h0 ⊢;have HKC:=jb KC;have g0:(er != 0)=true:=bne_iff_ne.2 h0;have HB:=jb bV;clear KC hl hlW hT hX hI hno hF hfm her
  go_enter Tryz.func39,Tryz.ntmps39
  go_upto_region 1 with fail
  rw [<-hW];clear hW bV
  go_wp2_with (go_at_call 17;refine(ja HKC).mono ?_;rintro e w1 ⟨rfl,b1⟩)
  go_ret2;exact⟨rfl,HB.out.trans (b1.mono HB.out.size)⟩
theorem jfu (f:Nat){F:Nat->List UInt8}(hF:∀b,b<18446744073709551616->jv b (F b))(w:World)(k n:Int)(b:Nat)(s:ByteArray)(pL:Option Addr)(nL cL:Nat)(pE:Option Addr)(nE cE:Nat)(t:V)
  (hT:ShowTabs w) (hl:LiesV (fun q=>q<w.heap.size) f w [.int .i64 k,.int .i64 n,.int .u64 (b:Int),.string s,.slice pL nL cL,.slice pE nE cE] t) (hno:jB f t<=10000000) :
  Calls Tryz.prog 20 #[.agg #[.int .i64 k,.int .i64 n,.int .u64 (b:Int),.string s,.slice pL nL cL,.slice pE nE cE]] w fun e w'=>e=.returned (.tuple #[.string ⟨(Jy F false t).toArray⟩,.int .i64 (jC jR t)])/\Below w.heap.size w w':=by
 have bV:Below w.heap.size w (w.alloc (.cells #[.int .i64 k,.int .i64 n,.int .u64 (b:Int),.string s,.slice pL nL cL,.slice pE nE cE] 26)):=(Below.refl _ w).alloc (Nat.le_refl _) _;have hX:=jd w #[.int .i64 k,.int .i64 n,.int .u64 (b:Int),.string s,.slice pL nL cL,.slice pE nE cE] 26;have x0:=hX.cell 0 _ rfl;have x1:=hX.cell 1 _ rfl;have x2:=hX.cell 2 _ rfl;have x3:=hX.cell 3 _ rfl;have x4:=hX.cell 4 _ rfl;have x5:=hX.cell 5 _ rfl;have K:=jb (jaf f hF false 0 (.inr ⟨rfl,rfl⟩) _ k n b s pL nL cL pE nE cE t (hT.below bV) (hl.kept (fun q hq=>Nat.lt_of_lt_of_le hq bV.size) bV.size (fun q hq _=>bV.block q hq)) hno);have HB:=jb bV;clear hX bV hT hl hno hF
 go_enter Tryz.func20,Tryz.ntmps20
 go_wp2_with (go_at_call 39;refine(ja K).mono ?_;rintro e w1 ⟨rfl,b1⟩)
 go_ret2;exact⟨rfl,HB.out.trans (b1.mono HB.out.size)⟩
theorem jft (f:Nat){F:Nat->List UInt8}(hF:∀b,b<18446744073709551616->jv b (F b))(w:World)(k n:Int)(b:Nat)(s:ByteArray)(pL:Option Addr)(nL cL:Nat)(pE:Option Addr)(nE cE:Nat)(t:V)
  (hT:ShowTabs w) (hl:LiesV (fun q=>q<w.heap.size) f w [.int .i64 k,.int .i64 n,.int .u64 (b:Int),.string s,.slice pL nL cL,.slice pE nE cE] t) (hno:jB f t<=10000000) :
  Calls Tryz.prog 21 #[.agg #[.int .i64 k,.int .i64 n,.int .u64 (b:Int),.string s,.slice pL nL cL,.slice pE nE cE]] w fun e w'=>e=.returned (.tuple #[.string ⟨(Jy F true t).toArray⟩,.int .i64 (jC jR t)])/\Below w.heap.size w w':=by
 have bV:Below w.heap.size w (w.alloc (.cells #[.int .i64 k,.int .i64 n,.int .u64 (b:Int),.string s,.slice pL nL cL,.slice pE nE cE] 26)):=(Below.refl _ w).alloc (Nat.le_refl _) _;have hX:=jd w #[.int .i64 k,.int .i64 n,.int .u64 (b:Int),.string s,.slice pL nL cL,.slice pE nE cE] 26;have x0:=hX.cell 0 _ rfl;have x1:=hX.cell 1 _ rfl;have x2:=hX.cell 2 _ rfl;have x3:=hX.cell 3 _ rfl;have x4:=hX.cell 4 _ rfl;have x5:=hX.cell 5 _ rfl;have K:=jb (jaf f hF true 1 (.inl ⟨rfl,rfl⟩) _ k n b s pL nL cL pE nE cE t (hT.below bV) (hl.kept (fun q hq=>Nat.lt_of_lt_of_le hq bV.size) bV.size (fun q hq _=>bV.block q hq)) hno);have HB:=jb bV;clear hX bV hT hl hno hF
 go_enter Tryz.func21,Tryz.ntmps21
 go_wp2_with (go_at_call 39;refine(ja K).mono ?_;rintro e w1 ⟨rfl,b1⟩)
 go_ret2;exact⟨rfl,HB.out.trans (b1.mono HB.out.size)⟩
open toks (isW)
open bigs (tellB jv)
structure Fit (t:V):Prop where
 i:IsV 20 t
 g:Jq 20 t
 z:jC jR t=0
theorem jjO {ok:Nat->Prop}{w:World}{f:Nat}{vs:List Value}{t:V}(h:LiesV ok f w vs t)(h0:jC jR t=0):Fit t/\LiesV ok 20 w vs t:=by
 have hl:=LiesV.shallow f 20 h (JR h.isV h0).1;exact⟨⟨hl.isV,QN hl h0,h0⟩,hl⟩
theorem XL (F:Nat->List UInt8)(many:Bool){t:V}(h:jC jR t=0):Jy F many t=Ym F many 20 t:=by unfold Jy;rw [if_pos h]
theorem jac (F:Nat->List UInt8)(many:Bool){t:V}(h:jC jR t≠0):Jy F many t=[]:=by unfold Jy;rw [if_neg h]
end valus
end Go.Proofs.YtnbfnjhbmeocfaaGreatDoor
