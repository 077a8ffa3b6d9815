/- Of our texts, what this claim reaches. -/
import Derived.Test.YtnbfnjhbmeocfaaGreatDoorPmtBT
import Derived.Test.YtnbfnjhbmeocfaaGreatDoorPmtBH
import Derived.Test.YtnbfnjhbmeocfaaGreatDoorPmtBS
set_option linter.unusedVariables false
set_option maxHeartbeats 8000000
set_option maxRecDepth 100000
namespace Go.Proofs.YtnbfnjhbmeocfaaGreatDoor
namespace valus
open Go.RowKit
theorem jjG (w:World)(fm:Int):Pg w.heap.size w.heap.size [] 0 fm (w.alloc (.cells #[.pointer none,.slice none 0 0,.int .i64 0,.int .i64 fm] 153)) :=
 .inl ⟨Nat.le_refl _,.slice none 0 0,jf w _ _,World.ownsRowF_nil _ _ _ _,by simp [Value.ownBlock]⟩
open Go.RowKit
def Q4 (k:List UInt8):V:=mkV (4,0,0,k) [] []
theorem jhA (ok:Nat->Prop)(w:World)(k:ByteArray)(hk:k.size<=maxLen):LiesV ok 1 w [.int .i64 4,.int .i64 0,.int .u64 0,.string k,.slice none 0 0,.slice none 0 0] (Q4 k.data.toList) :=
 ⟨4,0,0,k,[],[],none,none,0,0,rfl,rfl,⟨⟨by omega,by omega⟩,⟨by omega,by omega⟩,by omega,hk⟩,⟨Nat.le_refl _,Nat.zero_le _,Nat.le_refl _,Nat.zero_le _⟩,fun h=>absurd rfl h,fun h=>absurd rfl h⟩
theorem jgF (B R:Nat)(fm:Int)(w:World)(l:List UInt8)(d:Nat)(s:ByteArray)(hs:s.size<=1073741824)(pL:Option Addr)(nL cL:Nat)(pE:Option Addr)(nE cE:Nat)(hg:Pg B R l (d:Int) fm w)(hT:Tb B w)(hBw:B<=w.heap.size)(hlen:l.length+(escs.Qu s.data.toList).length<=140737488355328) :
  Calls Tryz.prog 146 #[.pointer (some ⟨R,0,none⟩),.agg #[.int .i64 4,.int .i64 0,.int .u64 0,.string s,.slice pL nL cL,.slice pE nE cE]] w fun e w'=>(∃v,e=.returned v)/\Pg B R (l++escs.Qu s.data.toList) (d:Int) fm w'/\Below B w w'/\KeptR R w w':=by
 obtain⟨hX,bX⟩:=jhw B R w #[.int .i64 4,.int .i64 0,.int .u64 0,.string s,.slice pL nL cL,.slice pE nE cE] hg.lt;have bXB:=bX.mono hBw;obtain⟨T,hTT⟩:∃T,T=escs.Qu s.data.toList:=⟨_,rfl⟩
 obtain⟨W,hW⟩:∃W,W=(w.alloc (.cells #[.pointer (some ⟨R,0,none⟩)] 207)).alloc (.cells #[.int .i64 4,.int .i64 0,.int .u64 0,.string s,.slice pL nL cL,.slice pE nE cE] 26):=⟨_,rfl⟩
 have hsz:W.heap.size=w.heap.size+2:=by rw [hW];simp
 rw [<-hW] at hX bX bXB;have KL:=jfa W.drew 4 0 0 s pL pE nL cL nE cE rfl ⟨(escs.Qu s.data.toList).toArray⟩ (escs.jk3 s.data.toList) (jd fun w1 hw=>escs.jgP w1 s hs (((hT.next bXB).tabs.below (Below.drew (Below.refl _ W))).below hw).esc);rw [<-hTT] at KL hlen ⊢;have HKL:=jd KL
 have KW:Hid (∀w1,Below W.drew.heap.size W.drew w1->Calls Tryz.prog 197 #[.pointer (some ⟨R,0,none⟩),.string ⟨T.toArray⟩] w1 fun e w'=>e=.returned (.tuple #[])/\Pg B R (l++T) (d:Int) fm w'/\Below B w w'/\KeptR R w w'):=jd fun w1 hb1=>by
  have b01:Below w.heap.size w w1:=(bX.trans (Below.drew (Below.refl _ W))).trans (hb1.mono (by show w.heap.size<=W.heap.size;omega));refine(jkI B R l T d fm w1 (hg.below b01) hlen (by have:=b01.size;omega)).mono ?_
  rintro e w' ⟨h1,h2,h3,h4⟩
  exact⟨h1,h2,(b01.mono hBw).trans h3,(KeptR.below b01).trans h4⟩
 obtain⟨_,q2,q3⟩:=hX;have D0:W.drew.cell? ⟨w.heap.size,0,none⟩=some (.pointer (some ⟨R,0,none⟩)):=q2.cell 0 _ rfl
 have D1:∀w1,Hid (Below W.drew.heap.size W.drew w1->w1.cell? ⟨w.heap.size,0,none⟩=some (.pointer (some ⟨R,0,none⟩))):=fun w1=>jd fun hb1=>(hb1.cell (p:=⟨w.heap.size,0,none⟩) (by show w.heap.size<W.heap.size;omega)).trans D0
 have C0:W.cell? ⟨w.heap.size+1,0,none⟩=_:=q3.cell 0 _ rfl
 have E0:W.drew.cell? ⟨w.heap.size+1,0,none⟩=_:=q3.cell 0 _ rfl
 have E1:W.drew.cell? ⟨w.heap.size+1,1,none⟩=_:=q3.cell 1 _ rfl
 have E2:W.drew.cell? ⟨w.heap.size+1,2,none⟩=_:=q3.cell 2 _ rfl
 have E3:W.drew.cell? ⟨w.heap.size+1,3,none⟩=_:=q3.cell 3 _ rfl
 have E4:W.drew.cell? ⟨w.heap.size+1,4,none⟩=_:=q3.cell 4 _ rfl
 have E5:W.drew.cell? ⟨w.heap.size+1,5,none⟩=_:=q3.cell 5 _ rfl
 have mixed:Tryz.prog.follows Departure.mixedOrders=true:=by kernel_rfl
 clear q2 q3 KL hg hT hlen bX bXB hsz hTT
 go_enter Tryz.func146,Tryz.ntmps146
 go_upto_region 1 with fail
 rw [<-hW];clear hW;go_wp2
 go_region_with (first
  | (go_at_call 198;refine(ja HKL).mono ?_;rintro e w1 ⟨rfl,b1⟩;have D2:=ja (D1 w1) b1;have KW1:=jd (KW.out w1 b1);clear b1)
  | (go_at_call 197;refine(ja KW1).mono ?_;rintro e w2 ⟨rfl,g2⟩))
 all_goals
  have H2:=jd g2;clear g2;go_wp2;go_end0;exact⟨⟨_,rfl⟩,H2.out⟩
theorem jhF (B R:Nat)(w:World)(s:ByteArray)(hs:s.size<=1073741824)(pL:Option Addr)(nL cL:Nat)(pE:Option Addr)(nE cE:Nat)
  (hg:Pg B R [] 0 0 w) (hT:Tb B w) (hBw:B<=w.heap.size) (hlen:(escs.Qu s.data.toList).length<=140737488355327) :
  Calls Tryz.prog 85 #[.pointer (some ⟨R,0,none⟩),.agg #[.int .i64 4,.int .i64 0,.int .u64 0,.string s,.slice pL nL cL,.slice pE nE cE]] w fun e w'=>(∃v,e=.returned v)/\Pg B R (escs.Qu s.data.toList) 0 0 w'/\Below B w w':=by
 have bV:Below w.heap.size w (w.alloc (.cells #[.int .i64 4,.int .i64 0,.int .u64 0,.string s,.slice pL nL cL,.slice pE nE cE] 26)):=(Below.refl _ w).alloc (Nat.le_refl _) _;have bB:=bV.mono hBw;have hX:=jf w #[.int .i64 4,.int .i64 0,.int .u64 0,.string s,.slice pL nL cL,.slice pE nE cE] 26;obtain⟨x0,x1,x2,x3,x4,x5⟩:=hX.cells6;have KV:=jd (jgF B R 0 _ [] 0 s hs pL nL cL pE nE cE (hg.below bV) (hT.next bB) (by have:=bV.size;omega) (by rw [List.length_nil];omega));have HB:=jd bB;clear hX hg hT hlen bB bV hBw
 go_enter Tryz.func85,Tryz.ntmps85
 go_wp2_with (go_at_call 146;refine(ja KV).mono ?_)
 rintro e w1 ⟨⟨v,rfl⟩,g1,b1,k1⟩
 have c3:=g1.c3;rw [List.nil_append] at g1;have H1:=jd (And.intro g1 (HB.out.trans b1));clear g1 b1 k1 KV HB;go_wp2;go_end0;exact⟨⟨_,rfl⟩,H1.out⟩
def ja9 (l:List UInt8):List UInt8:=if jU qi (Q4 l)=0 then escs.Qu l else []
theorem jfp (w:World)(s:ByteArray)(hs:s.size<=maxLen)(hT:ShowTabs w) :
  Calls Tryz.prog 39 #[.agg #[.int .i64 4,.int .i64 0,.int .u64 0,.string s,.slice none 0 0,.slice none 0 0],.int .i64 0] w fun e w'=>e=.returned (.tuple #[.string ⟨(ja9 s.data.toList).toArray⟩,.int .i64 (jU qi (Q4 s.data.toList))])/\Below w.heap.size w w':=by
 have bV:Below w.heap.size w (w.alloc (.cells #[.int .i64 4,.int .i64 0,.int .u64 0,.string s,.slice none 0 0,.slice none 0 0] 26)):=(Below.refl _ w).alloc (Nat.le_refl _) _;have hX:=jf w #[.int .i64 4,.int .i64 0,.int .u64 0,.string s,.slice none 0 0,.slice none 0 0] 26;obtain⟨W,hW⟩:∃W,W=w.alloc (.cells #[.int .i64 4,.int .i64 0,.int .u64 0,.string s,.slice none 0 0,.slice none 0 0] 26):=⟨_,rfl⟩
 rw [<-hW] at bV hX;have x0:=hX.cell 0 _ rfl;have x1:=hX.cell 1 _ rfl;have x2:=hX.cell 2 _ rfl;have x3:=hX.cell 3 _ rfl;have x4:=hX.cell 4 _ rfl;have x5:=hX.cell 5 _ rfl;have hlW:LiesV (fun q=>q<W.heap.size) 1 W [.int .i64 4,.int .i64 0,.int .u64 0,.string s,.slice none 0 0,.slice none 0 0] (Q4 s.data.toList):=jhA _ W s hs;obtain⟨t,ht⟩:∃t,t=Q4 s.data.toList:=⟨_,rfl⟩
 have KC:=callsIn_wide.1 (jbq 1 W _ _ _ _ _ _ _ hlW (show 0+1<=10000000 by decide) (hT.below bV).utf);unfold ja9;rw [<-ht] at KC ⊢
 by_cases h0:jU qi t=0
 ·rw [h0] at KC
  rw [h0,if_pos rfl];have HKC:=jd KC;have h0':jU qi (Q4 s.data.toList)=0:=by rw [<-ht];exact h0
  have p2:utfs.bad s.data.toList<0:=(jbm (Yx h0')).2.1
  have l4:s.data.toList.length<=4000:=by
   have:=Yx h0';unfold qi Q4 at this;rw [jad] at this;simp only at this;split at this
   ·cases this
   ·split at this
    ·cases this
    ·rename_i h
     omega
  have hsz:s.size<=1073741824:=by
   have e:s.data.toList.length=s.size:=by rw [Array.length_toList];rfl
   omega
  have hq:escs.Qu s.data.toList=escs.jJ (utfs.YS s.data.toList):=by unfold escs.Qu;rw [if_neg (by omega)]
  obtain⟨g1,g2⟩:=utfs.Q8 p2
  have hlen:(escs.Qu s.data.toList).length<=24002:=by
   have:=escs.YT g2;rw [<-g1] at this;rw [hq];omega
  have hne:escs.Qu s.data.toList≠[]:=by rw [hq];unfold escs.jJ;simp
  have KD:Hid (∀w1,Below w.heap.size w w1->Calls Tryz.prog 85 #[.pointer (some ⟨w1.heap.size,0,none⟩),.agg #[.int .i64 4,.int .i64 0,.int .u64 0,.string s,.slice none 0 0,.slice none 0 0]] (w1.alloc (.cells #[.pointer none,.slice none 0 0,.int .i64 0,.int .i64 0] 153)) fun e w'=>(∃v,e=.returned v)/\Pg w1.heap.size w1.heap.size (escs.Qu s.data.toList) 0 0 w'/\Below w1.heap.size w1 w'):=jd fun w1 hb1=>by
   have bA:Below w1.heap.size w1 (w1.alloc (.cells #[.pointer none,.slice none 0 0,.int .i64 0,.int .i64 0] 153)):=(Below.refl _ w1).alloc (Nat.le_refl _) _;refine(jhF w1.heap.size w1.heap.size _ s hsz none 0 0 none 0 0 (jjG w1 0) ⟨w1,rfl,hT.below hb1,bA⟩ bA.size (by omega)).mono ?_
   rintro e w' ⟨h1,h2,h3⟩
   exact⟨h1,h2,bA.trans h3⟩
  have KS:Hid (∀(w1 w2:World),Pg w1.heap.size w1.heap.size (escs.Qu s.data.toList) 0 0 w2->Calls Tryz.prog 86 #[.pointer (some ⟨w1.heap.size,0,none⟩)] w2 fun e w'=>e=.returned (.string ⟨(escs.Qu s.data.toList).toArray⟩)/\Below w1.heap.size w2 w'):=jd fun w1 w2 hg=>jkW _ _ _ 0 0 w2 hg hne
  have HB:=jd bV;have HX:=jd hX;clear KC hlW hT hlen hne hX h0 h0' hq g1 g2 p2 l4 hsz ht
  go_enter Tryz.func39,Tryz.ntmps39
  go_upto_region 1 with fail
  rw [<-hW];clear hW bV
  go_upto_region 4 with (go_at_call 17;refine(ja HKC).mono ?_;rintro e w1 ⟨rfl,b1⟩)
  have b01:=HB.out.trans (b1.mono HB.out.size);have X1:Blk w1 w.heap.size #[.int .i64 4,.int .i64 0,.int .u64 0,.string s,.slice none 0 0,.slice none 0 0] 26:=HX.out.below b1;have X2:=X1.alloc (.cells #[.pointer none,.slice none 0 0,.int .i64 0,.int .i64 0] 153);have y0:=X2.cell 0 _ rfl;have y1:=X2.cell 1 _ rfl;have y2:=X2.cell 2 _ rfl;have y3:=X2.cell 3 _ rfl;have y4:=X2.cell 4 _ rfl;have y5:=X2.cell 5 _ rfl;have KD1:=jd (KD.out w1 b01);have KS1:=KS.out w1;have HKS:=jd KS1;have H1:=jd b01;clear x0 x1 x2 x3 x4 x5 b1 b01 X1 X2 KD KS HKC HB HX KS1
  go_wp2_with (first
   | (go_at_call 85;refine(ja KD1).mono ?_;rintro e w2 ⟨⟨v,rfl⟩,g2,b2⟩;have KS2:=jd (HKS.out w2 g2);have H2:=jd b2;clear g2 b2)
   | (go_at_call 86;refine(ja KS2).mono ?_;rintro e w3 ⟨rfl,b3⟩))
  go_ret2;exact⟨rfl,H1.out.trans ((H2.out.trans b3).mono H1.out.size)⟩
 ·rw [if_neg h0]
  obtain⟨er,her⟩:∃er,er=jU qi t:=⟨_,rfl⟩
  rw [<-her] at KC h0 ⊢;have HKC:=jd KC;have g0:(er != 0)=true:=bne_iff_ne.2 h0;have HB:=jd bV;clear KC hlW hT hX her ht
  go_enter Tryz.func39,Tryz.ntmps39
  go_upto_region 1 with fail
  rw [<-hW];clear hW bV
  go_wp2_with (go_at_call 17;refine(ja HKC).mono ?_;rintro e w1 ⟨rfl,b1⟩)
  go_ret2;exact⟨rfl,HB.out.trans (b1.mono HB.out.size)⟩
theorem jhp (w:World)(s:ByteArray)(hs:s.size<=maxLen)(hT:ShowTabs w) :
  Calls Tryz.prog 20 #[.agg #[.int .i64 4,.int .i64 0,.int .u64 0,.string s,.slice none 0 0,.slice none 0 0]] w fun e w'=>e=.returned (.tuple #[.string ⟨(ja9 s.data.toList).toArray⟩,.int .i64 (jU qi (Q4 s.data.toList))])/\Below w.heap.size w w':=by
 have bV:Below w.heap.size w (w.alloc (.cells #[.int .i64 4,.int .i64 0,.int .u64 0,.string s,.slice none 0 0,.slice none 0 0] 26)):=(Below.refl _ w).alloc (Nat.le_refl _) _;have hX:=jf w #[.int .i64 4,.int .i64 0,.int .u64 0,.string s,.slice none 0 0,.slice none 0 0] 26;obtain⟨x0,x1,x2,x3,x4,x5⟩:=hX.cells6;have K:=jd (jfp _ s hs (hT.below bV));have HB:=jd bV;clear hX bV hT
 go_enter Tryz.func20,Tryz.ntmps20
 go_wp2_with (go_at_call 39;refine(ja K).mono ?_;rintro e w1 ⟨rfl,b1⟩)
 go_ret2;exact⟨rfl,HB.out.trans (b1.mono HB.out.size)⟩
end valus
end Go.Proofs.YtnbfnjhbmeocfaaGreatDoor
