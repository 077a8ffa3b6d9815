/- Of our texts, what this claim reaches. -/
import Derived.Test.YtnbfnjhbmeocfabGreatDoorPsbAM
import Derived.Test.YtnbfnjhbmeocfabGreatDoorPsbAQ
import Derived.WalkSmall
import Derived.Test.YtnbfnjhbmeocfabGreatDoorPsbAP
import Derived.Test.YtnbfnjhbmeocfabGreatDoorPsbAI
import Derived.Test.YtnbfnjhbmeocfabGreatDoorPsbAA
set_option linter.unusedVariables false
set_option maxHeartbeats 4000000
set_option maxRecDepth 100000
namespace Go.Proofs.YtnbfnjhbmeocfabGreatDoor
namespace escs
open Go.RowKit
open utfs
open bigs (digB zR Z1 zO)
def Bld (B b:Nat)(l:List UInt8)(w:World):Prop:=Lib.IsBuilderF 58 5 B b (Lib.byteCells l) w
def Kept (b:Nat)(w w':World):Prop:=Lib.OthersKept 5 (some b) w w'
theorem Bld.below {B b:Nat}{l:List UInt8}{w w':World}(h:Bld B b l w)(hb:Below w.heap.size w w'):Bld B b l w':=by
 have at_:∀p,Lib.BuilderAtF 58 5 B b p (Lib.byteCells l) w->Lib.BuilderAtF 58 5 B b p (Lib.byteCells l) w':=fun p h=>by
  have hlt:=h.lt;obtain⟨hB,v,hv,hown,hne⟩:=h;exact⟨hB,v,(hb.block b hlt).trans hv,hown.kept (row:=none) ⟨hb.os,hb.tape,hb.output,hb.size,fun k hk _=>hb.block k hk⟩ (Classical.em _),hne⟩
 exact h.elim (fun x=>.inl (at_ _ x)) (fun x=>.inr (at_ _ x))
theorem Kept.below {b:Nat}{w w':World}(hb:Below w.heap.size w w'):Kept b w w':=fun k o hk _ _=>(hb.block k (Array.getElem?_eq_some_iff.1 hk).1).trans hk
theorem Kept.trans {b:Nat}{w1 w2 w3:World}(h1:Kept b w1 w2)(h2:Kept b w2 w3):Kept b w1 w3:=Lib.OthersKept.trans h1 h2
theorem jeL (B b:Nat)(l:List UInt8)(x:Int)(c:UInt8)(hx:x=(c.toNat:Int))(w:World)(h:Bld B b l w)(hl:l.length+1<=140737488355328)(hB:B<=w.heap.size) :
  Calls Tryz.prog 140 #[.pointer (some ⟨b,0,none⟩),.int .u8 x] w fun e w'=>e=.returned .nilIface/\Bld B b (l++[c]) w'/\Below B w w'/\Kept b w w':=by
 subst hx;refine(Tryz.Builder_WriteByte_k B b (Lib.byteCells l) _ w h (by rw [Lib.byteCells_length];exact hl) hB).mono ?_
 rintro e w' ⟨rfl,h1,h2,h3⟩
 refine⟨rfl,?_,h2,h3⟩;unfold Bld;rw [Lib.byteCells_append];exact .inr h1
theorem jf5 (B b:Nat)(l m:List UInt8)(w:World)(h:Bld B b l w)(hl:l.length+m.length<=140737488355328)(hB:B<=w.heap.size) :
  Calls Tryz.prog 112 #[.pointer (some ⟨b,0,none⟩),.string ⟨m.toArray⟩] w fun e w'=>(∃n:Int,e=.returned (.tuple #[.int .i64 n,.nilIface]))/\Bld B b (l++m) w'/\Below B w w'/\Kept b w w':=by
 refine(Tryz.Builder_WriteString_k B b (Lib.byteCells l) ⟨m.toArray⟩ w h (by rw [Lib.byteCells_length];exact hl) hB).mono ?_
 rintro e w' ⟨rfl,h1,h2,h3⟩
 refine⟨⟨_,rfl⟩,?_,h2,h3⟩;unfold Bld;rw [Lib.byteCells_append];exact .inr h1
theorem jed (B b:Nat)(l:List UInt8)(r:Int)(hs:sc r=true)(w:World)(h:Bld B b l w)(hl:l.length+4<=140737488355328)(hB:B<=w.heap.size) :
  Calls Tryz.prog 133 #[.pointer (some ⟨b,0,none⟩),.int .i32 r] w fun e w'=>(∃n:Int,e=.returned (.tuple #[.int .i64 n,.nilIface]))/\Bld B b (l++Lib.encodeRune r) w'/\Below B w w'/\Kept b w w':=by
 have h0:=qU hs;refine(Tryz.Builder_WriteRune_k B b (Lib.byteCells l) r (by omega) (by omega) w h (by rw [Lib.byteCells_length];exact hl) hB).mono ?_
 rintro e w' ⟨rfl,h1,h2,h3⟩
 refine⟨⟨_,rfl⟩,?_,h2,h3⟩;unfold Bld;rw [Lib.byteCells_append,Lib.byteCells_encodeRune];exact .inr h1
theorem jmV (B b:Nat)(l:List UInt8)(w:World)(h:Bld B b l w)(hB:B<=w.heap.size) :
  Calls Tryz.prog 23 #[.pointer (some ⟨b,0,none⟩)] w fun e w'=>e=.returned (.string ⟨l.toArray⟩)/\Below B w w':=by
 refine(Tryz.Builder_String_any_k B b l w h hB).mono ?_
 rintro e w' ⟨rfl,_,h2,_⟩
 exact⟨rfl,h2⟩
theorem jqi (w:World)(u:Nat)(hu:u<256)(ht:Lib.TabIs Tryz.prog w "math/bits.deBruijn64tab" .u8 zR) :
  Calls Tryz.prog 161 #[.int .i64 (u:Int),.int .i64 16] w fun e w'=>e=.returned (.string ⟨(digB 16 u).toArray⟩)/\Below w.heap.size w w':=by
 have K:=jd (Z1 w u (by omega) ht);clear ht;have i1:¬(u:Int)<0:=by omega
 go_enter Tryz.func161,Tryz.ntmps161
 go_wp2_with fail
 refine(ja K).mono ?_
 rintro e w' ⟨rfl,b1⟩
 have B:=jd b1;clear b1 K;go_wp2;go_ret;exact⟨rfl,ja B⟩
theorem jn6 (w:World)(u:Nat)(hu:u<256)(ht:Lib.TabIs Tryz.prog w "math/bits.deBruijn64tab" .u8 zR) :
  Calls Tryz.prog 137 #[.int .i64 (u:Int),.int .i64 16] w fun e w'=>e=.returned (.string ⟨(digB 16 u).toArray⟩)/\Below w.heap.size w w':=by
 have K:=jd (jqi w u hu ht);clear ht
 go_enter Tryz.func137,Tryz.ntmps137
 go_wp2_with fail
 refine(ja K).mono ?_
 rintro e w' ⟨rfl,b1⟩
 have B:=jd b1;clear b1 K;go_wp2;go_ret;exact⟨rfl,ja B⟩
theorem jpL (a b:List UInt8)(h:a.length+b.length<=9223372036854775807)(u:World):(Op.stringOp .add ⟨a.toArray⟩ ⟨b.toArray⟩).run Tryz.prog u=.ok (.string ⟨(a++b).toArray⟩) u:=by
 rw [run_string_add_sum _ _ _ (by show a.toArray.size+b.toArray.size<=_;rw [List.size_toArray,List.size_toArray];exact h)]
 congr 2
theorem jpb (B b:Nat)(l:List UInt8)(r:Int)(hs:sc r=true)(w:World)(h:Bld B b l w)(hl:l.length+16<=140737488355328)(hB:B<=w.heap.size)(ht:Lib.TabIs Tryz.prog w "math/bits.deBruijn64tab" .u8 zR) :
  Calls Tryz.prog 141 #[.pointer (some ⟨b,0,none⟩),.int .i32 r] w fun e w'=>e=.returned (.tuple #[])/\Bld B b (l++qr r) w'/\Below B w w'/\Kept b w w':=by
 have h0:=qU hs
 rcases Zm r hs with c | ⟨c,h34,h92,h10,h9,h13⟩ | ⟨c,h127,h34,h92⟩
 ·rcases c with rfl | rfl | rfl | rfl | rfl
  ·have K1:=jd (jeL B b l 92 92 rfl w h (by omega) hB)
   have e:Hid (l++qr 34=l++[92]++Lib.encodeRune 34):=jd (by rw [List.append_assoc];rfl);clear ht h
   go_enter Tryz.func141,Tryz.ntmps141
   go_wp2_with fail
   refine(ja K1).mono ?_
   rintro _ w1 ⟨rfl,b1,k1,o1⟩
   have K2:=jd (jed B b (l++[92]) 34 hs w1 b1 (by simp;omega) (Nat.le_trans hB k1.size))
   go_wp2_with fail
   refine(ja K2).mono ?_
   rintro _ w2 ⟨⟨n,rfl⟩,b2,k2,o2⟩
   go_wp2;go_end0;rw [ja e];exact⟨rfl,b2,k1.trans k2,o1.trans o2⟩
  ·have K1:=jd (jeL B b l 92 92 rfl w h (by omega) hB)
   have e:Hid (l++qr 92=l++[92]++Lib.encodeRune 92):=jd (by rw [List.append_assoc];rfl);clear ht h
   go_enter Tryz.func141,Tryz.ntmps141
   go_wp2_with fail
   refine(ja K1).mono ?_
   rintro _ w1 ⟨rfl,b1,k1,o1⟩
   have K2:=jd (jed B b (l++[92]) 92 hs w1 b1 (by simp;omega) (Nat.le_trans hB k1.size))
   go_wp2_with fail
   refine(ja K2).mono ?_
   rintro _ w2 ⟨⟨n,rfl⟩,b2,k2,o2⟩
   go_wp2;go_end0;rw [ja e];exact⟨rfl,b2,k1.trans k2,o1.trans o2⟩
  ·have K1:=jd (jf5 B b l [92,110] w h (by simp;omega) hB)
   have e:Hid (l++qr 10=l++[92,110]):=jd rfl;clear ht h
   go_enter Tryz.func141,Tryz.ntmps141
   go_wp2_with fail
   refine(ja K1).mono ?_
   rintro _ w1 ⟨⟨n,rfl⟩,b1,k1,o1⟩
   go_wp2;go_end0;rw [ja e];exact⟨rfl,b1,k1,o1⟩
  ·have K1:=jd (jf5 B b l [92,116] w h (by simp;omega) hB)
   have e:Hid (l++qr 9=l++[92,116]):=jd rfl;clear ht h
   go_enter Tryz.func141,Tryz.ntmps141
   go_wp2_with fail
   refine(ja K1).mono ?_
   rintro _ w1 ⟨⟨n,rfl⟩,b1,k1,o1⟩
   go_wp2;go_end0;rw [ja e];exact⟨rfl,b1,k1,o1⟩
  ·have K1:=jd (jf5 B b l [92,114] w h (by simp;omega) hB)
   have e:Hid (l++qr 13=l++[92,114]):=jd rfl;clear ht h
   go_enter Tryz.func141,Tryz.ntmps141
   go_wp2_with fail
   refine(ja K1).mono ?_
   rintro _ w1 ⟨⟨n,rfl⟩,b1,k1,o1⟩
   go_wp2;go_end0;rw [ja e];exact⟨rfl,b1,k1,o1⟩
 ·obtain⟨u,rfl⟩:∃u:Nat,r=u:=⟨r.toNat,by omega⟩
  have hu:u<256:=by omega
  have KH:=jd (jn6 w u hu ht);have e:Hid (l++qr (u:Int)=l++([92,117,123]++digB 16 u++[125])):=jd (by rw [jaN c h10 h9 h13];simp)
  have hd:(digB 16 u).length<=2:=by
   rcases XD h0.1 c with ⟨d,_,_,eg⟩ | ⟨a,d,_,_,_,eg⟩<;>rw [Int.toNat_natCast] at eg<;>rw [eg]<;>simp
  generalize digB 16 u=D at *;have a1:=jpL [92,117,123] D (by simp;omega);have a2:=jpL ([92,117,123]++D) [125] (by simp;omega);have hm:([92,117,123]++D++[125]).length<=6:=by simp;omega
  generalize [92,117,123]++D++[125]=M at *;generalize [92,117,123]++D=M1 at *;have i34:((u:Int) == 34)=false:=beq_false_of_ne h34;have i92:((u:Int) == 92)=false:=beq_false_of_ne h92;have i10:((u:Int) == 10)=false:=beq_false_of_ne h10;have i9:((u:Int) == 9)=false:=beq_false_of_ne h9;have i13:((u:Int) == 13)=false:=beq_false_of_ne h13;have H:=jd h
  by_cases c1:(u:Int)<32
  ·clear h34 h92 h10 h9 h13 c ht h hs hd
   go_enter Tryz.func141,Tryz.ntmps141
   go_wp2_with fail
   refine(ja KH).mono ?_
   rintro _ w1 ⟨rfl,k1⟩
   have K2:=jd (jf5 B b l M w1 ((ja H).below k1) (by omega) (Nat.le_trans hB k1.size))
   go_wp2_with fail
   refine(ja K2).mono ?_
   rintro _ w2 ⟨⟨n,rfl⟩,b2,k2,o2⟩
   go_wp2;go_end0;rw [ja e];exact⟨rfl,b2,(k1.mono hB).trans k2,(Kept.below k1).trans o2⟩
  ·have i127:((u:Int) == 127)=true:=by rw [show(u:Int)=127 by omega];rfl
   clear h34 h92 h10 h9 h13 c ht h hs hd
   go_enter Tryz.func141,Tryz.ntmps141
   go_wp2_with fail
   refine(ja KH).mono ?_
   rintro _ w1 ⟨rfl,k1⟩
   have K2:=jd (jf5 B b l M w1 ((ja H).below k1) (by omega) (Nat.le_trans hB k1.size))
   go_wp2_with fail
   refine(ja K2).mono ?_
   rintro _ w2 ⟨⟨n,rfl⟩,b2,k2,o2⟩
   go_wp2;go_end0;rw [ja e];exact⟨rfl,b2,(k1.mono hB).trans k2,(Kept.below k1).trans o2⟩
 ·have K1:=jd (jed B b l r hs w h (by omega) hB)
  have e:Hid (l++qr r=l++Lib.encodeRune r):=jd (by rw [Q9 c h127 h34 h92]);have i34:(r == 34)=false:=beq_false_of_ne h34;have i92:(r == 92)=false:=beq_false_of_ne h92;have i10:(r == 10)=false:=beq_false_of_ne (by omega);have i9:(r == 9)=false:=beq_false_of_ne (by omega);have i13:(r == 13)=false:=beq_false_of_ne (by omega);have i127:(r == 127)=false:=beq_false_of_ne h127;have i32:¬r<32:=by omega
  clear ht h h34 h92 h127
  go_enter Tryz.func141,Tryz.ntmps141
  go_wp2_with fail
  refine(ja K1).mono ?_
  rintro _ w1 ⟨⟨n,rfl⟩,b1,k1,o1⟩
  go_wp2;go_end0;rw [ja e];exact⟨rfl,b1,k1,o1⟩
theorem jjC (s:ByteArray)(w:World)(hs:s.size<=9223372036854775807)(hT:Lib.Utf8Tabs 1 2 w)(hb:0<=bad s.data.toList) :
  Calls Tryz.prog 115 #[.string s] w fun e w'=>e=.returned (.tuple #[.string ⟨#[]⟩,.int .i64 3])/\Below w.heap.size w w':=by
 have K:=jd (jaI s w hs hT);clear hT;generalize bad s.data.toList=v at *
 go_enter Tryz.func115,Tryz.ntmps115
 go_wp2_with fail
 refine(ja K).mono ?_
 rintro _ w1 ⟨rfl,b1⟩
 clear K;go_wp2;go_ret2;exact⟨rfl,b1⟩
theorem jhl {s:ByteArray}{rs acc:List Int}{pos:Nat}{r:Int}{rest:List Int}(hl:s.data.toList=enc rs)(hsc:∀q∈rs,sc q=true)(hr:rs=acc++r :: rest)(hp:pos=(enc acc).length) :
  pos<s.size/\Utf8.decode s pos=(r.toNat,(Lib.encodeRune r).length)/\sc r=true/\pos+(Lib.encodeRune r).length=(enc (acc++[r])).length:=by
 have hq:sc r=true:=hsc r (by rw [hr];simp);have h4:=jU r;have hd:=Lib.decodeL_drop s pos
 have he:s.data.toList.drop pos=Lib.encodeRune r++enc rest:=by
  rw [hl,hr,zt,Jg,hp,List.drop_left' rfl]
 rw [he,ZD hq] at hd;have hlen:=congrArg List.length hl;rw [js,hr,zt,Jg,List.length_append,List.length_append] at hlen;refine⟨by omega,hd.symm,hq,?_⟩;rw [zt,Yl,List.length_append,hp]
theorem jhR (s:ByteArray)(rs:List Int)(w:World)(hs:s.size<=1073741824)(hT:Lib.Utf8Tabs 1 2 w)(ht:Lib.TabIs Tryz.prog w "math/bits.deBruijn64tab" .u8 zR)(hl:s.data.toList=enc rs)(hsc:∀r∈rs,sc r=true) :
  Calls Tryz.prog 115 #[.string s] w fun e w'=>e=.returned (.tuple #[.string ⟨(jV rs).toArray⟩,.int .i64 0])/\Below w.heap.size w w':=by
 have K:=jaI s w (by omega) hT;rw [hl,jiK hsc] at K;have K:=jd K;have HL:=jd hl;have HSC:=jd hsc;have HT:=jd ht;clear hT ht hl hsc
 go_enter Tryz.func115,Tryz.ntmps115
 go_wp2_with fail
 refine(ja K).mono ?_
 rintro _ w1 ⟨rfl,b1⟩
 have B1:=jd b1;clear K;have I0:Hid (Bld w1.heap.size w1.heap.size [] (w1.alloc (.cells #[.pointer none,.slice none 0 0] 58))):=jd (Lib.IsBuilderF.of (Lib.fresh_isBuilder 58 5 w1))
 go_wp2_with fail
 refine(jeL w1.heap.size w1.heap.size [] 34 34 rfl _ (ja I0) (by simp) (by simp)).mono ?_
 rintro _ w2 ⟨rfl,i2,b2,o2⟩
 have b2':Below w1.heap.size w1 w2:=((Below.refl _ w1).alloc (Nat.le_refl _) _).trans b2;have lt2:w1.heap.size<w2.heap.size:=by have:=b2.size;simp at this;omega
 have I2:=jd i2;have B2:=jd b2';clear i2 b2 b2' o2 I0 b1;have hN:w.heap.size<=w1.heap.size:=(ja B1).size;generalize w1.heap.size=N at *;generalize hM:w2.heap.size=M at *
 go_wp2_with fail
 go_loopw [] (fun wr=>∃(acc rest:List Int) (pos:Nat),wr.heap[M]?=some (.stringIter s pos)/\Hid (rs=acc++rest)/\Hid (pos=(enc acc).length)/\Hid (Bld N N (34 :: qs acc) wr)/\Hid (Below N w1 wr)) (fun wr=>s.size - wr.iterPos M)
 case atStart=>
  refine⟨[],rs,0,?_,jd rfl,jd rfl,jd (Lib.IsBuilderF.alloc (ja I2) _),jd ((ja B2).alloc (by omega) _)⟩;rw [<-hM];have:=World.iter_heap w2 s 0;simpa using this
 case round=>
  obtain⟨acc,rest,pos,hit,hr,hp,hI,hB⟩:=hrel;have hsz:M<wr.heap.size:=(Array.getElem?_eq_some_iff.1 hit).1;cases rest with
  | nil=>
   have hps:¬pos<s.size:=by
    have h1:=congrArg List.length (ja HL);have h2:=ja hr;rw [List.append_nil] at h2;rw [js,h2] at h1;have:=ja hp;omega
   have hnx:∀ty,(Instr.next (.pointer (some ⟨M,0,none⟩)) true ty).run Tryz.prog wr=_:=fun ty=>Lib.run_next_end_at wr M s pos ty hit hps
   have hlen:(34 :: qs acc).length<=6*s.size+1:=by
    have h2:=ja hr;rw [List.append_nil] at h2;have h3:=ji2 rs (ja HSC);rw [<-ja HL,js,h2] at h3;simp only [List.length_cons];omega
   have E:Hid (jV rs=34 :: qs acc++[34]):=jd (by
    have h2:=ja hr;rw [List.append_nil] at h2;rw [h2];rfl)
   clear hr hp hit hps;generalize 34 :: qs acc=L at *
   go_wp2_with fail
   refine(jeL N N L 34 34 rfl wr (ja hI) (by omega) (by omega)).mono ?_
   rintro _ w3 ⟨rfl,i3,b3,o3⟩
   have I3:=jd i3;have B3:=jd ((ja hB).trans b3);have s3:=b3.size;clear i3 b3 o3 hI hB
   go_wp2_with fail
   refine(jmV N N (L++[34]) w3 (ja I3) (by omega)).mono ?_
   rintro _ w4 ⟨rfl,b4⟩
   go_wp2;go_ret2;rw [ja E];exact⟨rfl,(ja B1).trans (((ja B3).trans b4).mono hN)⟩
  | cons r rest=>
   obtain⟨hps,hdec,hq,hnext⟩:=jhl (ja HL) (ja HSC) (ja hr) (ja hp);have h0:=qU hq;have h4:=jU r
   have hnx:∀ty,(Instr.next (.pointer (some ⟨M,0,none⟩)) true ty).run Tryz.prog wr=.ok (.tuple #[.bool true,.int .i64 (pos:Int),.int .i32 r]) (wr.iterAt M s (pos+(Lib.encodeRune r).length)):=fun ty=>by
    rw [Lib.run_next_any_at wr M s pos ty hit hps,hdec];simp only;rw [show((r.toNat:Nat):Int)=r by omega]
   have hlen:(34 :: qs acc).length<=6*s.size+1:=by
    have h2:=ja hr;have h3:=ji2 acc (fun q hq=>ja HSC q (by rw [h2];exact List.mem_append_left _ hq));have:=ja hp;simp only [List.length_cons];omega
   have I2:Hid (Bld N N (34 :: qs acc) (wr.iterAt M s (pos+(Lib.encodeRune r).length))):=jd (Lib.IsBuilderF.iterAt (ja hI) hit _);have hit2:=Lib.iterAt_heap wr M s pos (pos+(Lib.encodeRune r).length) hit;have B3:=jd (Lib.below_iterAt (ja hB) (k:=M) (by omega) s (pos+(Lib.encodeRune r).length));have T2:=jd (zO (ja HT) ((ja B1).trans ((ja B3).mono hN)));have hr2:Hid (rs=(acc++[r])++rest):=jd (by rw [ja hr];simp);have hn2:Hid (pos+(Lib.encodeRune r).length=(enc (acc++[r])).length):=jd hnext;have hq2:Hid (34 :: qs (acc++[r])=34 :: qs acc++qr r):=jd (by rw [jlg,jo8];rfl);have hsz2:N<=(wr.iterAt M s (pos+(Lib.encodeRune r).length)).heap.size:=by rw [Lib.iterAt_size];omega
   have hqp:Hid (wr.iterPos M=pos):=jd (by simp only [World.iterPos,hit]);clear hr hp hI hB hnext hdec hit;generalize 34 :: qs acc=L at *;generalize (Lib.encodeRune r).length=n at *
   go_wp2_with fail
   refine(jpb N N L r hq _ (ja I2) (by omega) hsz2 (ja T2)).mono ?_
   rintro _ w3 ⟨rfl,i3,b3,o3⟩
   have hit3:w3.heap[M]?=some (.stringIter s (pos+n)):=o3 M _ hit2 (by simp;omega) (by simp)
   have I3:=jd i3;have B4:=jd ((ja B3).trans b3);clear i3 b3 o3 I2 B3 T2;go_wp2;go_roundw
   case rel=>exact⟨acc++[r],rest,pos+n,hit3,hr2,hn2,jd (by rw [ja hq2];exact ja I3),B4⟩
   case measure=>
    have:=ja hqp;rw [this];simp only [World.iterPos,hit3];omega
open Go.RowKit
open utfs
open bigs (JU Qq jec ZU)
theorem jfF (r:List UInt8):Lib.hasPrefix (92 :: 117 :: 123 :: r) [92,117,123]=true/\Lib.trimPrefix (92 :: 117 :: 123 :: r) [92,117,123]=r:=by
 have h:Lib.hasPrefix (92 :: 117 :: 123 :: r) [92,117,123]=true:=by simp [Lib.hasPrefix]
 exact⟨h,by unfold Lib.trimPrefix;rw [if_pos h];rfl⟩
theorem jnN {t:List UInt8}(hn:t.take 2≠[117,123]):Lib.hasPrefix (92 :: t) [92,117,123]=false:=by
 match t,hn with
 | [],_=>rfl
 | [a],_=>simp [Lib.hasPrefix,List.isPrefixOf]
 | a :: b :: r,hn=>
  by_cases e1:a=117
  ·have:b≠123:=fun e=>hn (by rw [e1,e];simp)
   simp [Lib.hasPrefix,List.isPrefixOf,Ne.symm this]
  ·simp [Lib.hasPrefix,List.isPrefixOf,Ne.symm e1]
theorem ZO {s:ByteArray}(h:0<s.size):s.data.toList=(s[0]'h) :: s.data.toList.drop 1:=by
 have:=JU s 0 h;rwa [List.drop_zero] at this
theorem jjD {t:List UInt8}(ht:t=[]):JS t=.inl 4:=by rw [ht];rfl
theorem jnl {c:UInt8}{t:List UInt8}(h:(c :: t).take 2≠[117,123]):JS (c :: t)=if c=34\/c=92\/c=47 then .inr ((c.toNat:Int),2) else if c=110 then .inr (10,2) else if c=116 then .inr (9,2) else if c=114 then .inr (13,2) else .inl 4:=by
 unfold JS;rw [if_neg h]
theorem jhC (l:List UInt8):(⟨l.toArray⟩:ByteArray).size=l.length:=by show l.toArray.size=_;rw [List.size_toArray]
theorem jgf (w:World)(s:ByteArray)(hs:s.size<=1073741824)(h0:0<s.size)(h92:s[0]'h0=92)(Q:jcu)(hQ:Hid (Q=JS (s.data.toList.drop 1))) :
  Calls Tryz.prog 156 #[.string s] w fun e w'=>e=.returned (.tuple #[.int .i32 (ja6 Q),.int .i64 (jb3 Q:Int),.int .i64 (jbD Q)])/\Below w.heap.size w w':=by
 have KC:=Tryz.strings_CutPrefix s ⟨#[92,117,123]⟩ w;rw [ZO h0,h92] at KC
 by_cases h2:(s.data.toList.drop 1).take 2=[117,123]
 ·obtain⟨r,hr⟩:=jea h2
  have hl:=congrArg List.length hr;rw [List.length_drop,js] at hl;simp only [List.length_cons] at hl
  have q:Hid (Q=Q3 (⟨r.toArray⟩:ByteArray).data.toList):=jd (by
   rw [ja hQ,hr];unfold JS;rw [if_pos (by simp)];rfl)
  have KN:=jd (jno w ⟨r.toArray⟩ (by rw [jhC];omega) Q q);have e3:(⟨#[92,117,123]⟩:ByteArray).data.toList=[92,117,123]:=rfl;rw [hr,e3,(jfF r).1,(jfF r).2] at KC;have KC:=jd KC;clear hQ q hr h2 hl e3;generalize ja6 Q=a1 at *;generalize jb3 Q=a2 at *;generalize jbD Q=a3 at *
  go_enter Tryz.func156,Tryz.ntmps156
  go_wp2_with fail
  refine(ja KC).mono ?_
  rintro _ w1 ⟨rfl,hw⟩
  rw [hw];clear hw
  go_wp2_with fail
  refine(ja KN).mono ?_
  rintro _ w1 ⟨rfl,b1⟩
  have B1:=jd b1;clear b1 KN KC;go_wp2;refine bodyPost_ret (v:=.tuple #[.int .i32 a1,.int .i64 (a2:Int),.int .i64 a3]) (by simp [results,Tryz.results156,go_sem]) rfl ?_
  exact⟨rfl,ja B1⟩
 ·have e3:(⟨#[92,117,123]⟩:ByteArray).data.toList=[92,117,123]:=rfl
  rw [e3,jnN h2] at KC;generalize Lib.trimPrefix (92 :: s.data.toList.drop 1) [92,117,123]=R at *;have KC:=jd KC;clear e3
  by_cases h1:s.size<2
  ·have F:Hid (Q=.inl 4):=jd (by
    rw [ja hQ];exact jjD (List.drop_of_length_le (by rw [js];omega)))
   have i1:(s.size:Int)<2:=by omega
   clear hQ h2 h92
   go_enter Tryz.func156,Tryz.ntmps156
   go_wp2_with fail
   refine(ja KC).mono ?_
   rintro _ w1 ⟨rfl,hw⟩
   rw [hw];clear hw;go_wp2;refine bodyPost_ret (v:=.tuple #[.int .i32 0,.int .i64 0,.int .i64 4]) (by simp [results,Tryz.results156,go_sem]) rfl ?_
   rw [ja F];exact⟨rfl,Below.refl _ _⟩
  ·have i1:¬(s.size:Int)<2:=by omega
   have g1:1<s.size:=by omega
   have j1:(1:Int)<(s.size:Int):=by omega
   have hc:=JU s 1 g1;rw [hc] at h2;have q:=ja hQ;rw [hc,jnl h2] at q;have eqv:∀n:Nat,n<256->(s[1]'g1=UInt8.ofNat n↔(s[1]'g1).toNat=n):=fun n hn=>ZU _ n hn
   have e34:s[1]'g1=34↔(s[1]'g1).toNat=34:=eqv 34 (by decide);have e92:s[1]'g1=92↔(s[1]'g1).toNat=92:=eqv 92 (by decide);have e47:s[1]'g1=47↔(s[1]'g1).toNat=47:=eqv 47 (by decide);have e110:s[1]'g1=110↔(s[1]'g1).toNat=110:=eqv 110 (by decide);have e116:s[1]'g1=116↔(s[1]'g1).toNat=116:=eqv 116 (by decide);have e114:s[1]'g1=114↔(s[1]'g1).toNat=114:=eqv 114 (by decide);have u:=UInt8.toNat_lt (s[1]'g1);clear hQ h2 h92 hc eqv
   by_cases c0:(s[1]'g1).toNat=34
   ·have F:Hid (Q=.inr (((s[1]'g1).toNat:Int),2)):=jd (by
     rw [q];rw [if_pos (by exact .inl (e34.2 c0))])
    have b34:(((s[1]'g1).toNat:Int) == 34)=true:=by rw [show((s[1]'g1).toNat:Int)=34 by omega];rfl
    clear q e34 e92 e47 e110 e116 e114 c0
    go_enter Tryz.func156,Tryz.ntmps156
    go_wp2_with fail
    refine(ja KC).mono ?_
    rintro _ w1 ⟨rfl,hw⟩
    rw [hw];clear hw;go_wp2;refine bodyPost_ret (v:=.tuple #[.int .i32 ((s[1]'g1).toNat:Int),.int .i64 2,.int .i64 0]) (by simp [results,Tryz.results156,go_sem]) rfl ?_
    rw [ja F];exact⟨rfl,Below.refl _ _⟩
   ·skip
    by_cases c1:(s[1]'g1).toNat=92
    ·have F:Hid (Q=.inr (((s[1]'g1).toNat:Int),2)):=jd (by
      rw [q];rw [if_pos (by exact .inr (.inl (e92.2 c1)))])
     have b34:(((s[1]'g1).toNat:Int) == 34)=false:=beq_false_of_ne (by omega);have b92:(((s[1]'g1).toNat:Int) == 92)=true:=by rw [show((s[1]'g1).toNat:Int)=92 by omega];rfl
     clear q e34 e92 e47 e110 e116 e114 c0 c1
     go_enter Tryz.func156,Tryz.ntmps156
     go_wp2_with fail
     refine(ja KC).mono ?_
     rintro _ w1 ⟨rfl,hw⟩
     rw [hw];clear hw;go_wp2;refine bodyPost_ret (v:=.tuple #[.int .i32 ((s[1]'g1).toNat:Int),.int .i64 2,.int .i64 0]) (by simp [results,Tryz.results156,go_sem]) rfl ?_
     rw [ja F];exact⟨rfl,Below.refl _ _⟩
    ·skip
     by_cases c2:(s[1]'g1).toNat=47
     ·have F:Hid (Q=.inr (((s[1]'g1).toNat:Int),2)):=jd (by
       rw [q];rw [if_pos (by exact .inr (.inr (e47.2 c2)))])
      have b34:(((s[1]'g1).toNat:Int) == 34)=false:=beq_false_of_ne (by omega);have b92:(((s[1]'g1).toNat:Int) == 92)=false:=beq_false_of_ne (by omega);have b47:(((s[1]'g1).toNat:Int) == 47)=true:=by rw [show((s[1]'g1).toNat:Int)=47 by omega];rfl
      clear q e34 e92 e47 e110 e116 e114 c0 c1 c2
      go_enter Tryz.func156,Tryz.ntmps156
      go_wp2_with fail
      refine(ja KC).mono ?_
      rintro _ w1 ⟨rfl,hw⟩
      rw [hw];clear hw;go_wp2;refine bodyPost_ret (v:=.tuple #[.int .i32 ((s[1]'g1).toNat:Int),.int .i64 2,.int .i64 0]) (by simp [results,Tryz.results156,go_sem]) rfl ?_
      rw [ja F];exact⟨rfl,Below.refl _ _⟩
     ·skip
      by_cases c3:(s[1]'g1).toNat=110
      ·have F:Hid (Q=.inr (10,2)):=jd (by
        rw [q];rw [if_neg (by rintro(h | h | h);exact c0 (e34.1 h);exact c1 (e92.1 h);exact c2 (e47.1 h))];rw [if_pos (e110.2 c3)])
       have b34:(((s[1]'g1).toNat:Int) == 34)=false:=beq_false_of_ne (by omega);have b92:(((s[1]'g1).toNat:Int) == 92)=false:=beq_false_of_ne (by omega);have b47:(((s[1]'g1).toNat:Int) == 47)=false:=beq_false_of_ne (by omega);have b110:(((s[1]'g1).toNat:Int) == 110)=true:=by rw [show((s[1]'g1).toNat:Int)=110 by omega];rfl
       clear q e34 e92 e47 e110 e116 e114 c0 c1 c2 c3
       go_enter Tryz.func156,Tryz.ntmps156
       go_wp2_with fail
       refine(ja KC).mono ?_
       rintro _ w1 ⟨rfl,hw⟩
       rw [hw];clear hw;go_wp2;refine bodyPost_ret (v:=.tuple #[.int .i32 10,.int .i64 2,.int .i64 0]) (by simp [results,Tryz.results156,go_sem]) rfl ?_
       rw [ja F];exact⟨rfl,Below.refl _ _⟩
      ·skip
       by_cases c4:(s[1]'g1).toNat=116
       ·have F:Hid (Q=.inr (9,2)):=jd (by
         rw [q];rw [if_neg (by rintro(h | h | h);exact c0 (e34.1 h);exact c1 (e92.1 h);exact c2 (e47.1 h))];rw [if_neg (fun h=>c3 (e110.1 h))];rw [if_pos (e116.2 c4)])
        have b34:(((s[1]'g1).toNat:Int) == 34)=false:=beq_false_of_ne (by omega);have b92:(((s[1]'g1).toNat:Int) == 92)=false:=beq_false_of_ne (by omega);have b47:(((s[1]'g1).toNat:Int) == 47)=false:=beq_false_of_ne (by omega);have b110:(((s[1]'g1).toNat:Int) == 110)=false:=beq_false_of_ne (by omega);have b116:(((s[1]'g1).toNat:Int) == 116)=true:=by rw [show((s[1]'g1).toNat:Int)=116 by omega];rfl
        clear q e34 e92 e47 e110 e116 e114 c0 c1 c2 c3 c4
        go_enter Tryz.func156,Tryz.ntmps156
        go_wp2_with fail
        refine(ja KC).mono ?_
        rintro _ w1 ⟨rfl,hw⟩
        rw [hw];clear hw;go_wp2;refine bodyPost_ret (v:=.tuple #[.int .i32 9,.int .i64 2,.int .i64 0]) (by simp [results,Tryz.results156,go_sem]) rfl ?_
        rw [ja F];exact⟨rfl,Below.refl _ _⟩
       ·skip
        by_cases c5:(s[1]'g1).toNat=114
        ·have F:Hid (Q=.inr (13,2)):=jd (by
          rw [q];rw [if_neg (by rintro(h | h | h);exact c0 (e34.1 h);exact c1 (e92.1 h);exact c2 (e47.1 h))];rw [if_neg (fun h=>c3 (e110.1 h))];rw [if_neg (fun h=>c4 (e116.1 h))];rw [if_pos (e114.2 c5)])
         have b34:(((s[1]'g1).toNat:Int) == 34)=false:=beq_false_of_ne (by omega);have b92:(((s[1]'g1).toNat:Int) == 92)=false:=beq_false_of_ne (by omega);have b47:(((s[1]'g1).toNat:Int) == 47)=false:=beq_false_of_ne (by omega);have b110:(((s[1]'g1).toNat:Int) == 110)=false:=beq_false_of_ne (by omega);have b116:(((s[1]'g1).toNat:Int) == 116)=false:=beq_false_of_ne (by omega);have b114:(((s[1]'g1).toNat:Int) == 114)=true:=by rw [show((s[1]'g1).toNat:Int)=114 by omega];rfl
         clear q e34 e92 e47 e110 e116 e114 c0 c1 c2 c3 c4 c5
         go_enter Tryz.func156,Tryz.ntmps156
         go_wp2_with fail
         refine(ja KC).mono ?_
         rintro _ w1 ⟨rfl,hw⟩
         rw [hw];clear hw;go_wp2;refine bodyPost_ret (v:=.tuple #[.int .i32 13,.int .i64 2,.int .i64 0]) (by simp [results,Tryz.results156,go_sem]) rfl ?_
         rw [ja F];exact⟨rfl,Below.refl _ _⟩
        ·have F:Hid (Q=.inl 4):=jd (by
          rw [q];rw [if_neg (by rintro(h | h | h);exact c0 (e34.1 h);exact c1 (e92.1 h);exact c2 (e47.1 h))];rw [if_neg (fun h=>c3 (e110.1 h))];rw [if_neg (fun h=>c4 (e116.1 h))];rw [if_neg (fun h=>c5 (e114.1 h))])
         have b34:(((s[1]'g1).toNat:Int) == 34)=false:=beq_false_of_ne (by omega);have b92:(((s[1]'g1).toNat:Int) == 92)=false:=beq_false_of_ne (by omega);have b47:(((s[1]'g1).toNat:Int) == 47)=false:=beq_false_of_ne (by omega);have b110:(((s[1]'g1).toNat:Int) == 110)=false:=beq_false_of_ne (by omega);have b116:(((s[1]'g1).toNat:Int) == 116)=false:=beq_false_of_ne (by omega);have b114:(((s[1]'g1).toNat:Int) == 114)=false:=beq_false_of_ne (by omega);clear q e34 e92 e47 e110 e116 e114 c0 c1 c2 c3 c4 c5
         go_enter Tryz.func156,Tryz.ntmps156
         go_wp2_with fail
         refine(ja KC).mono ?_
         rintro _ w1 ⟨rfl,hw⟩
         rw [hw];clear hw;go_wp2;refine bodyPost_ret (v:=.tuple #[.int .i32 0,.int .i64 0,.int .i64 4]) (by simp [results,Tryz.results156,go_sem]) rfl ?_
         rw [ja F];exact⟨rfl,Below.refl _ _⟩
theorem jg2 {c:UInt8}{t:List UInt8}(h:c=10):qw (c :: t)=.inl 4:=by unfold qw;rw [List.headD_cons,if_pos h]
theorem jeV {c:UInt8}{t:List UInt8}(h:c=92):qw (c :: t)=JS t:=by
 subst h;unfold qw;rw [List.headD_cons,if_neg (by decide),if_pos rfl];rfl
theorem jik {c:UInt8}{t:List UInt8}(h1:c≠10)(h2:c≠92):qw (c :: t)=if Qa (c :: t)=true then .inl 3 else .inr (((Lib.decodeL (c :: t)).1:Int),(Lib.decodeL (c :: t)).2):=by
 unfold qw;rw [List.headD_cons,if_neg h1,if_neg h2]
theorem jkt (w:World)(s:ByteArray)(hs:s.size<=1073741824)(h0:0<s.size)(hT:Lib.Utf8Tabs 1 2 w)(Q:jcu)(hQ:Hid (Q=qw s.data.toList)) :
  Calls Tryz.prog 132 #[.string s] w fun e w'=>e=.returned (.tuple #[.int .i32 (ja6 Q),.int .i64 (jb3 Q:Int),.int .i64 (jbD Q)])/\Below w.heap.size w w':=by
 have hc:=ZO h0;have e10:s[0]'h0=10↔(s[0]'h0).toNat=10:=ZU (s[0]'h0) 10 (by decide);have e92:s[0]'h0=92↔(s[0]'h0).toNat=92:=ZU (s[0]'h0) 92 (by decide);have j0:(0:Int)<(s.size:Int):=by omega
 by_cases c1:(s[0]'h0).toNat=10
 ·have F:Hid (Q=.inl 4):=jd (by rw [ja hQ,hc,jg2 (e10.2 c1)])
  have b10:(((s[0]'h0).toNat:Int) == 10)=true:=by rw [show((s[0]'h0).toNat:Int)=10 by omega];rfl
  clear hQ hc e10 e92 c1 hT
  go_enter Tryz.func132,Tryz.ntmps132
  go_wp2;refine bodyPost_ret (v:=.tuple #[.int .i32 0,.int .i64 0,.int .i64 4]) (by simp [results,Tryz.results132,go_sem]) rfl ?_
  rw [ja F];exact⟨rfl,Below.refl _ _⟩
 ·have b10:(((s[0]'h0).toNat:Int) == 10)=false:=beq_false_of_ne (by omega)
  by_cases c2:(s[0]'h0).toNat=92
  ·have q:Hid (Q=JS (s.data.toList.drop 1)):=jd (by rw [ja hQ,hc,jeV (e92.2 c2)];rfl)
   have K:=jd (jgf w s hs h0 (e92.2 c2) Q q);have b92:(((s[0]'h0).toNat:Int) == 92)=true:=by rw [show((s[0]'h0).toNat:Int)=92 by omega];rfl
   clear hQ hc e10 e92 c1 c2 hT q;generalize ja6 Q=a1 at *;generalize jb3 Q=a2 at *;generalize jbD Q=a3 at *
   go_enter Tryz.func132,Tryz.ntmps132
   go_wp2_with fail
   refine(ja K).mono ?_
   rintro _ w1 ⟨rfl,b1⟩
   have B1:=jd b1;clear b1 K;go_wp2;refine bodyPost_ret (v:=.tuple #[.int .i32 a1,.int .i64 (a2:Int),.int .i64 a3]) (by simp [results,Tryz.results132,go_sem]) rfl ?_
   exact⟨rfl,ja B1⟩
  ·have b92:(((s[0]'h0).toNat:Int) == 92)=false:=beq_false_of_ne (by omega)
   have q:=ja hQ;have hne:s.data.toList≠[]:=by rw [hc];simp
   rw [hc,jik (fun h=>c1 (e10.1 h)) (fun h=>c2 (e92.1 h)),<-hc] at q;have K:=jd (XH s w hT);have hneg:=jc7 hne;have hR:qW s.data.toList=if Qa s.data.toList=true then -1 else ((Lib.decodeL s.data.toList).1:Int):=by unfold qW;rw [if_neg hne]
   have hN:Je s.data.toList=(Lib.decodeL s.data.toList).2:=by unfold Je;rw [if_neg hne]
   clear hQ hc e10 e92 c1 c2 hT hne;cases hb:Qa s.data.toList with
   | true=>
    rw [hb,if_pos rfl] at q;have F:=jd q;rw [hb] at hneg;have i1:qW s.data.toList<0:=hneg.2 rfl;clear q hneg hR hN hb;generalize qW s.data.toList=r at *;generalize Je s.data.toList=n at *
    go_enter Tryz.func132,Tryz.ntmps132
    go_wp2_with fail
    refine(ja K).mono ?_
    rintro _ w1 ⟨rfl,b1⟩
    have B1:=jd b1;clear b1 K;go_wp2;refine bodyPost_ret (v:=.tuple #[.int .i32 0,.int .i64 0,.int .i64 3]) (by simp [results,Tryz.results132,go_sem]) rfl ?_
    rw [ja F];exact⟨rfl,ja B1⟩
   | false=>
    rw [hb,if_neg (by decide)] at q hR;rw [<-hR,<-hN] at q;have F:=jd q;rw [hb] at hneg;have i1:¬qW s.data.toList<0:=fun h=>by have:=hneg.1 h;cases this
    clear q hneg hR hN hb;generalize qW s.data.toList=r at *;generalize Je s.data.toList=n at *
    go_enter Tryz.func132,Tryz.ntmps132
    go_wp2_with fail
    refine(ja K).mono ?_
    rintro _ w1 ⟨rfl,b1⟩
    have B1:=jd b1;clear b1 K;go_wp2;refine bodyPost_ret (v:=.tuple #[.int .i32 r,.int .i64 (n:Int),.int .i64 0]) (by simp [results,Tryz.results132,go_sem]) rfl ?_
    rw [ja F];exact⟨rfl,ja B1⟩
open Go.RowKit
open utfs
open bigs (JU Qq jec ZU)
def Xz:Res->List UInt8
 | .inl _=>[]
 | .inr (rs,_)=>enc rs
def jqe:Res->Nat
 | .inl _=>0
 | .inr (_,n)=>n
def jcM:Res->Int
 | .inl e=>e
 | .inr (_,_)=>0
def Qg (acc:List Int)(k:Nat):Res->Res
 | .inl e=>.inl e
 | .inr (rs,n)=>.inr ((acc++rs),(k+n))
theorem jhK (acc:List Int)(k:Nat)(r:Int)(n:Nat)(R:Res):Qg acc k (ZP r n R)=Qg (acc++[r]) (k+n) R:=by
 cases R with
 | inl e=>rfl
 | inr p=>
  obtain⟨rs,m⟩:=p;simp only [ZP,Qg,Sum.inr.injEq,Prod.mk.injEq];exact⟨by simp,by omega⟩
def At (L:List UInt8)(acc:List Int)(k f:Nat):Prop:=unq L=Qg acc k (JR f (L.drop k))
theorem jlV {s:ByteArray}(h0:0<s.size)(h:s[0]'h0=34):At s.data.toList [] 1 s.size:=by
 have e:=ZO h0;have hl:(s.data.toList.drop 1).length+1=s.size:=by rw [List.length_drop,js];omega
 unfold At
 have e2:unq s.data.toList=unq (34 :: s.data.toList.drop 1):=by
  conv=>lhs;rw [e]
  rw [h]
 rw [e2,unq,if_pos rfl,hl];cases JR s.size (s.data.toList.drop 1) with
 | inl e=>rfl
 | inr p=>
  obtain⟨rs,k⟩:=p;simp only [Qg,Sum.inr.injEq,Prod.mk.injEq];exact⟨rfl,by omega⟩
theorem joO {s:ByteArray}{acc:List Int}{k f:Nat}{r:Int}{n:Nat}(hk:k<s.size)(h:At s.data.toList acc k (f+1))(h34:s[k]'hk≠34)(hn:qw (s.data.toList.drop k)=.inr (r,n)):At s.data.toList (acc++[r]) (k+n) f:=by
 unfold At at *;have hd:=JU s k hk;rw [h];rw [hd] at hn
 have:JR (f+1) (s.data.toList.drop k)=ZP r n (JR f ((s.data.toList.drop k).drop n)):=by
  rw [hd,JR,if_neg h34,hn]
 rw [this,jhK,List.drop_drop]
theorem jnv {s:ByteArray}{acc:List Int}{k f:Nat}{e:Int}(hk:k<s.size)(h:At s.data.toList acc k (f+1))(h34:s[k]'hk≠34)(hn:qw (s.data.toList.drop k)=.inl e):unq s.data.toList=.inl e:=by
 unfold At at *;have hd:=JU s k hk;rw [h];rw [hd] at hn;rw [hd,JR,if_neg h34,hn];rfl
theorem joQ {s:ByteArray}{acc:List Int}{k f:Nat}(hk:k<s.size)(h:At s.data.toList acc k (f+1))(h34:s[k]'hk=34):unq s.data.toList=.inr (acc,(k+1)):=by
 unfold At at *;rw [h,JU s k hk,JR,if_pos h34];simp [Qg]
theorem jph {s:ByteArray}{acc:List Int}{k f:Nat}(hk:s.size<=k)(h:At s.data.toList acc k (f+1)):unq s.data.toList=.inl 4:=by
 unfold At at *;rw [h,List.drop_of_length_le (by rw [js];omega),JR];rfl
theorem jdu {s:ByteArray}(h:s.size=0\/∃h0:0<s.size,s[0]'h0≠34):unq s.data.toList=.inl 4:=by
 rcases h with h | ⟨h0,h⟩
 ·have:s.data.toList=[]:=List.eq_nil_of_length_eq_zero (by rw [js];exact h)
  rw [this];rfl
 ·rw [ZO h0,unq,if_neg h]
theorem Zc (w:World)(s:ByteArray)(hs:s.size<=1073741824)(hT:Lib.Utf8Tabs 1 2 w)(R:Res)(hR:Hid (R=unq s.data.toList)) :
  Calls Tryz.prog 94 #[.string s] w fun e w'=>e=.returned (.tuple #[.string ⟨(Xz R).toArray⟩,.int .i64 (jqe R:Int),.int .i64 (jcM R)])/\Below w.heap.size w w':=by
 by_cases h0:s.size=0
 ·have F:Hid (R=.inl 4):=jd (by rw [ja hR];exact jdu (.inl h0))
  have e0:=jf8 s h0;clear hR hT h0
  go_enter Tryz.func94,Tryz.ntmps94
  go_wp2;refine bodyPost_ret (v:=.tuple #[.string ⟨#[]⟩,.int .i64 0,.int .i64 4]) (by simp [results,Tryz.results94,go_sem]) rfl ?_
  rw [ja F];exact⟨rfl,Below.refl _ _⟩
 ·have hp:0<s.size:=by omega
  have e0:=jiI s hp;have j0:(0:Int)<(s.size:Int):=by omega
  have e34:s[0]'hp=34↔(s[0]'hp).toNat=34:=ZU (s[0]'hp) 34 (by decide);clear h0
  by_cases c:(s[0]'hp).toNat=34
  ·have hA:=jlV hp (e34.2 c)
   have b34:(((s[0]'hp).toNat:Int) != 34)=false:=by rw [show((s[0]'hp).toNat:Int)=34 by omega];rfl
   have HA:=jd hA;have HT:=jd hT;have I0:Hid (Bld w.heap.size w.heap.size (enc []) (w.alloc (.cells #[.pointer none,.slice none 0 0] 58))):=jd (Lib.IsBuilderF.of (Lib.fresh_isBuilder 58 5 w));have B0:Hid (Below w.heap.size w (w.alloc (.cells #[.pointer none,.slice none 0 0] 58))):=jd ((Below.refl _ w).alloc (Nat.le_refl _) _);clear e34 c hA hT
   go_enter Tryz.func94,Tryz.ntmps94
   go_wp2_with fail
   go_loopw [6] (fun a wr=>∃(k f:Nat) (acc:List Int),a=.int .i64 (k:Int)/\1<=k/\k<=s.size/\s.size+1<=k+f/\Hid (At s.data.toList acc k f)/\Hid ((enc acc).length<=k)/\Hid (Bld w.heap.size w.heap.size (enc acc) wr)/\Hid (Below w.heap.size w wr)) (fun a _=>s.size - (intOf a).toNat)
   case atStart=>exact⟨1,s.size,[],rfl,by omega,by omega,by omega,HA,jd (by simp [enc]),I0,B0⟩
   case round=>
    obtain⟨k,f',acc,rfl,k1,ks,kf,hAt,hle,hI,hB⟩:=hrel;obtain⟨f,rfl⟩:∃f,f'=f+1:=⟨f' - 1,by omega⟩
    clear HA I0 B0;have hsz:=(ja hB).size
    by_cases ck:k<s.size
    ·have i1:(k:Int)<(s.size:Int):=by omega
     have s0:(0:Int)<=(k:Int):=by omega
     have s1:(k:Int)<=(s.size:Int):=by omega
     have e34:s[k]'ck=34↔(s[k]'ck).toNat=34:=ZU (s[k]'ck) 34 (by decide)
     by_cases c:(s[k]'ck).toNat=34
     ·have F:Hid (R=.inr (acc,(k+1))):=jd (by rw [ja hR];exact joQ ck (ja hAt) (e34.2 c))
      have b34k:(((s[k]'ck).toNat:Int) != 34)=false:=by rw [show((s[k]'ck).toNat:Int)=34 by omega];rfl
      have ne1:((k:Int) == (s.size:Int))=false:=beq_false_of_ne (by omega);clear hR hAt e34 c
      go_wp2_with fail
      refine(jmV w.heap.size w.heap.size (enc acc) wr (ja hI) hsz).mono ?_
      rintro _ w2 ⟨rfl,b2⟩
      have B2:=jd ((ja hB).trans b2);clear b2 hB hI;go_wp2;refine bodyPost_ret (v:=.tuple #[.string ⟨(enc acc).toArray⟩,.int .i64 ((k+1:Nat):Int),.int .i64 0]) (by simp [results,Tryz.results94,go_sem]<;>omega) rfl ?_
      rw [ja F];exact⟨rfl,ja B2⟩
     ·have b34k:(((s[k]'ck).toNat:Int) != 34)=true:=by simp only [bne_iff_ne];omega
      have n34:s[k]'ck≠34:=fun h=>c (e34.1 h)
      have hxs:(s.extract k s.size).size=s.size - k:=by rw [ByteArray.size_extract];omega
      have K:=jkt wr (s.extract k s.size) (by rw [hxs];omega) (by rw [hxs];omega) (Utf8Tabs_below (ja HT) (ja hB)) (qw (s.data.toList.drop k)) (jd (by rw [q9]));have hne:s.data.toList.drop k≠[]:=by rw [JU s k ck];simp
      cases hn:qw (s.data.toList.drop k) with
      | inl e=>
       have F:Hid (R=.inl e):=jd (by rw [ja hR];exact jnv ck (ja hAt) n34 hn);have he:=jga hn;have ie:(e != 0)=true:=by simp only [bne_iff_ne];omega
       rw [hn] at K;simp only [ja6,jb3,jbD] at K;have K:=jd K;clear hn hR hAt e34 c n34 hne he hI hxs
       go_wp2_with fail
       refine(ja K).mono ?_
       rintro _ w2 ⟨rfl,b2⟩
       have B2:=jd ((ja hB).trans (b2.mono hsz));clear b2 hB K;go_wp2;refine bodyPost_ret (v:=.tuple #[.string ⟨#[]⟩,.int .i64 0,.int .i64 e]) (by simp [results,Tryz.results94,go_sem]) rfl ?_
       rw [ja F];exact⟨rfl,ja B2⟩
      | inr p=>
       obtain⟨r,n⟩:=p;obtain⟨n1,n2,hsc,n4,_⟩:=Xo hne hn;rw [List.length_drop,js] at n2;have A2:Hid (At s.data.toList (acc++[r]) (k+n) f):=jd (joO ck (ja hAt) n34 hn);have L2:Hid ((enc (acc++[r])).length<=k+n):=jd (by rw [zt,Yl,List.length_append];have:=ja hle;omega);have E2:Hid (enc (acc++[r])=enc acc++Lib.encodeRune r):=jd (by rw [zt,Yl]);rw [hn] at K;simp only [ja6,jb3,jbD] at K;have K:=jd K;have hlen:(enc acc).length<=1073741824:=by have:=ja hle;omega
       clear hn hAt e34 c n34 hne hxs n4 hle;generalize enc acc=X at *
       go_wp2_with fail
       refine(ja K).mono ?_
       rintro _ w2 ⟨rfl,b2⟩
       have I2:=jd ((ja hI).below b2);have B2:=jd ((ja hB).trans (b2.mono hsz));have s2:=b2.size;clear b2 hB hI K
       go_wp2_with fail
       refine(jed w.heap.size w.heap.size X r hsc w2 (ja I2) (by omega) (by omega)).mono ?_
       rintro _ w3 ⟨⟨m,rfl⟩,i3,b3,_⟩
       have I3:=jd i3;have B3:=jd ((ja B2).trans b3);clear i3 b3 I2 B2;go_wp2;go_roundw
       case rel=>exact⟨k+n,f,acc++[r],by go_num,by omega,by omega,by omega,A2,L2,jd (by rw [ja E2];exact ja I3),B3⟩
       case measure=>simp [intOf];omega
    ·have F:Hid (R=.inl 4):=jd (by rw [ja hR];exact jph (by omega) (ja hAt))
     have i1:¬(k:Int)<(s.size:Int):=by omega
     have t1:decide ((k:Int)<(s.size:Int))=false:=decide_eq_false i1;have eq1:((k:Int) == (s.size:Int))=true:=by rw [show(k:Int)=(s.size:Int) by omega];simp
     clear hR hAt hle hI;go_wp2;refine bodyPost_ret (v:=.tuple #[.string ⟨#[]⟩,.int .i64 0,.int .i64 4]) (by simp [results,Tryz.results94,go_sem]) rfl ?_
     rw [ja F];exact⟨rfl,ja hB⟩
  ·have F:Hid (R=.inl 4):=jd (by rw [ja hR];exact jdu (.inr ⟨hp,fun h=>c (e34.1 h)⟩))
   have b34:(((s[0]'hp).toNat:Int) != 34)=true:=by simp only [bne_iff_ne];omega
   clear hR hT e34 c
   go_enter Tryz.func94,Tryz.ntmps94
   go_wp2;refine bodyPost_ret (v:=.tuple #[.string ⟨#[]⟩,.int .i64 0,.int .i64 4]) (by simp [results,Tryz.results94,go_sem]) rfl ?_
   rw [ja F];exact⟨rfl,Below.refl _ _⟩
open Go.RowKit
open utfs
open bigs (hexc digB zR zO)
theorem ZF:∀(l:List UInt8),(∀c∈l,c.toNat<128)->∃ls:List Int,(∀r∈ls,sc r=true)/\l=enc ls
 | [],_=>⟨[],by simp,rfl⟩
 | c :: l,h=>by
  obtain⟨ls,h1,h2⟩:=ZF l (fun d hd=>h d (List.mem_cons_of_mem _ hd));have hc:=h c List.mem_cons_self;refine⟨(c.toNat:Int) :: ls,?_,?_⟩
  ·intro r hr
   rcases List.mem_cons.1 hr with rfl | hr
   ·exact jm1 (by omega) (by omega)
   ·exact h1 r hr
  ·rw [Jg,jis (by omega) (by omega),<-h2]
   simp
theorem jbE {d:Nat}(h:d<16):(hexc d).toNat<128/\hexc d≠10:=by
 have:∀k:Fin 16,(hexc k).toNat<128/\hexc k≠10:=by decide
 exact this ⟨d,h⟩
theorem joT {r:Int}(hs:sc r=true):(∃ls:List Int,(∀q∈ls,sc q=true)/\qr r=enc ls)/\(10:UInt8)∉qr r:=by
 have h0:=qU hs
 rcases Zm r hs with h | ⟨h,h34,h92,h10,h9,h13⟩ | ⟨h,h127,h34,h92⟩
 ·rcases h with rfl | rfl | rfl | rfl | rfl
  all_goals exact⟨ZF _ (by decide),by decide⟩
 ·rw [jaN h h10 h9 h13]
  rcases XD h0.1 h with ⟨d,hd,_,eg⟩ | ⟨a,d,ha,hd,_,eg⟩
  ·rw [eg]
   have x:=jbE hd;refine⟨ZF _ ?_,?_⟩
   ·simp [x.1]
   ·simp [Ne.symm x.2]
  ·rw [eg]
   have x:=jbE hd;have y:=jbE ha;refine⟨ZF _ ?_,?_⟩
   ·simp [x.1,y.1]
   ·simp [Ne.symm x.2,Ne.symm y.2]
 ·rw [Q9 h h127 h34 h92]
  refine⟨⟨[r],by simpa using hs,by rw [Yl]⟩,?_⟩
  have ten:∀x:Int,0<=x->x<256->x≠10->(10:UInt8)≠x.toNat.toUInt8:=fun x a b c e=>by
   have:=congrArg UInt8.toNat e;rw [qe a b] at this;have t:(10:UInt8).toNat=10:=rfl;omega
  rcases JK hs with ⟨a,e⟩ | ⟨a,b,e⟩ | ⟨a,b,e⟩ | ⟨a,e⟩<;>rw [e]
  ·simp only [List.mem_singleton]
   exact ten _ (by omega) (by omega) (by omega)
  ·simp only [List.mem_cons,List.not_mem_nil,or_false,not_or]
   exact⟨ten _ (by omega) (by omega) (by omega),ten _ (by omega) (by omega) (by omega)⟩
  ·simp only [List.mem_cons,List.not_mem_nil,or_false,not_or]
   exact⟨ten _ (by omega) (by omega) (by omega),ten _ (by omega) (by omega) (by omega),ten _ (by omega) (by omega) (by omega)⟩
  ·simp only [List.mem_cons,List.not_mem_nil,or_false,not_or]
   exact⟨ten _ (by omega) (by omega) (by omega),ten _ (by omega) (by omega) (by omega),ten _ (by omega) (by omega) (by omega),ten _ (by omega) (by omega) (by omega)⟩
theorem ji0:∀(rs:List Int),(∀r∈rs,sc r=true)->(∃ls:List Int,(∀q∈ls,sc q=true)/\qs rs=enc ls)/\(10:UInt8)∉qs rs
 | [],_=>⟨⟨[],by simp,rfl⟩,by simp [qs]⟩
 | r :: rs,h=>by
  obtain⟨⟨l1,a1,e1⟩,n1⟩:=joT (h r List.mem_cons_self);obtain⟨⟨l2,a2,e2⟩,n2⟩:=ji0 rs (fun q hq=>h q (List.mem_cons_of_mem _ hq));rw [Ya];refine⟨⟨l1++l2,?_,by rw [zt,e1,e2]⟩,?_⟩
  ·intro q hq
   rcases List.mem_append.1 hq with k | k
   ·exact a1 q k
   ·exact a2 q k
  ·intro k
   rcases List.mem_append.1 k with k | k
   ·exact n1 k
   ·exact n2 k
theorem Y0 {rs:List Int}(h:∀r∈rs,sc r=true):bad (jV rs) = -1/\(10:UInt8)∉jV rs:=by
 obtain⟨⟨ls,a,e⟩,n⟩:=ji0 rs h
 have he:jV rs=enc (34 :: (ls++[34])):=by
  have e34:Lib.encodeRune 34=[34]:=by decide
  unfold jV;rw [Jg,zt,Yl,e34,e];rfl
 refine⟨?_,?_⟩
 ·rw [he]
  apply jiK
  intro r hr
  rcases List.mem_cons.1 hr with rfl | hr
  ·rfl
  ·rcases List.mem_append.1 hr with k | k
   ·exact a r k
   ·simp only [List.mem_singleton] at k
    rw [k];rfl
 ·unfold jV
  intro k
  rcases List.mem_cons.1 k with k | k
  ·cases k
  ·rcases List.mem_append.1 k with k | k
   ·exact n k
   ·simp only [List.mem_singleton] at k
    cases k
theorem index_none:∀(l:List UInt8) (c:UInt8),c∉l->Lib.indexByte l c = -1
 | [],_,_=>rfl
 | b :: l,c,h=>by
  have h1:(b == c)=false:=beq_false_of_ne (fun e=>h (by rw [e];exact List.mem_cons_self));have ih:=index_none l c (fun k=>h (List.mem_cons_of_mem _ k));unfold Lib.indexByte;rw [h1,ih];rfl
theorem jbr {rs:List Int}(h:∀r∈rs,sc r=true):(jV rs).length<=6*(enc rs).length+2:=by
 have:=ji2 rs h;unfold jV;simp only [List.length_cons,List.length_append,List.length_nil];omega
structure EscTabs (w:World):Prop where
 utf:Lib.Utf8Tabs 1 2 w
 bru:Lib.TabIs Tryz.prog w "math/bits.deBruijn64tab" .u8 zR
theorem EscTabs.below {w w':World}(h:EscTabs w)(hb:Below w.heap.size w w'):EscTabs w':=⟨Utf8Tabs_below h.utf hb,zO h.bru hb⟩
theorem jiY {s:ByteArray}{l:List UInt8}(h:s.data.toList=l):(⟨l.toArray⟩:ByteArray)=s:=by
 rw [<-h]
def jaz (l:List UInt8):List UInt8:=if zg l=true then l else if 0<=bad l then [] else jV (jb7 l)
def jpX (l:List UInt8):Int:=if zg l=true then 0 else if 0<=bad l then 3 else 0
def jeg (l:List UInt8):List UInt8:=if 0<=bad l then [] else jV (jb7 l)
def joS (l:List UInt8):Int:=if 0<=bad l then 3 else 0
theorem jd9 (w:World)(s:ByteArray)(hs:s.size<=1073741824)(hT:EscTabs w) :
  Calls Tryz.prog 115 #[.string s] w fun e w'=>e=.returned (.tuple #[.string ⟨(jeg s.data.toList).toArray⟩,.int .i64 (joS s.data.toList)])/\Below w.heap.size w w':=by
 unfold jeg joS
 by_cases h:0<=bad s.data.toList
 ·rw [if_pos h,if_pos h]
  exact jjC s w (by omega) hT.utf h
 ·rw [if_neg h,if_neg h]
  obtain⟨a,b⟩:=JO (l:=s.data.toList) (by omega);exact jhR s _ w hs hT.utf hT.bru a b
theorem jon (w:World)(s:ByteArray)(hs:s.size<=1073741824)(hT:EscTabs w) :
  Calls Tryz.prog 111 #[.string s] w fun e w'=>e=.returned (.tuple #[.string ⟨(jaz s.data.toList).toArray⟩,.int .i64 (jpX s.data.toList)])/\Below w.heap.size w w':=by
 have KB:=jd (jb6 w s);have KQ:=jd (jd9 w s hs hT);have e1:jaz s.data.toList=if zg s.data.toList=true then s.data.toList else jeg s.data.toList:=rfl
 have e2:jpX s.data.toList=if zg s.data.toList=true then 0 else joS s.data.toList:=rfl
 rw [e1,e2];have et:(⟨s.data.toList.toArray⟩:ByteArray)=s:=jiY rfl;clear hT e1 e2;generalize zg s.data.toList=b at *;generalize jeg s.data.toList=T at *;generalize joS s.data.toList=E at *;cases b with
 | true=>
  rw [if_pos rfl,if_pos rfl,et];clear et KQ
  go_enter Tryz.func111,Tryz.ntmps111
  go_wp2_with fail
  refine(ja KB).mono ?_
  rintro _ w1 ⟨rfl,hw⟩
  rw [hw];clear hw;go_wp2;go_ret2;exact⟨rfl,Below.refl _ _⟩
 | false=>
  rw [if_neg (by decide),if_neg (by decide)];clear et
  go_enter Tryz.func111,Tryz.ntmps111
  go_wp2_with fail
  refine(ja KB).mono ?_
  rintro _ w1 ⟨rfl,hw⟩
  rw [hw];clear hw
  go_wp2_with fail
  refine(ja KQ).mono ?_
  rintro _ w1 ⟨rfl,b1⟩
  have B1:=jd b1;clear b1 KQ KB;go_wp2;go_ret2;exact⟨rfl,ja B1⟩
end escs
namespace valus
open bigs (tellB)
def JY (F:Nat->List UInt8)(x:Lab):List UInt8 :=
 if x.1=1 then (if x.2.1=1 then [116,114,117,101] else [102,97,108,115,101])
 else if x.1=2 then tellB 10 x.2.1 else if x.1=3 then F x.2.2.1 else if x.1=4 then escs.jeg x.2.2.2 else [110,117,108,108]
def inL (d:Nat):List UInt8:=List.replicate (2*d) 32
def jB:List (List UInt8)->List UInt8
 | []=>[]
 | [p]=>p
 | p :: q :: r=>p++44 :: 32 :: jB (q :: r)
def Z5 (d:Nat)(p:List UInt8):List UInt8:=10 :: (inL (d+1)++(p++[44]))
def jK (d:Nat)(ps:List (List UInt8)):List UInt8:=ps.flatMap (Z5 d)
def jQ (many:Bool)(d:Nat)(ps:List (List UInt8)):List UInt8 :=
 if many=true then (if ps=[] then [] else jK d ps++10 :: inL d) else jB ps
def Js (k t:List UInt8):List UInt8:=escs.jaz k++58 :: 32 :: t
def jC (F:Nat->List UInt8)(many:Bool):Nat->Nat->V->List UInt8
 | 0,_,_=>[]
 | f+1,d,v=>
  if (opn v).1.1=5 then 91 :: (jQ many d ((opn v).2.1.map (jC F many f (d+1)))++[93])
  else if (opn v).1.1=6 then 123 :: (jQ many d ((opn v).2.2.map (fun e=>Js (jE e).1 (jC F many f (d+1) (jE e).2)))++[125])
  else JY F (opn v).1
theorem zq (p:List UInt8):∀ps:List (List UInt8),jB (ps++[p])=jB ps++(if ps=[] then p else 44 :: 32 :: p)
 | []=>rfl
 | [q]=>rfl
 | q :: r :: t=>by
  have ih:=zq p (r :: t);rw [if_neg (by simp)] at ih ⊢
  show q++44 :: 32 :: jB (r :: t++[p])=(q++44 :: 32 :: jB (r :: t))++_
  rw [ih];simp
theorem QB (d:Nat)(p:List UInt8)(ps:List (List UInt8)):jK d (ps++[p])=jK d ps++Z5 d p:=by
 unfold jK;simp
theorem jbC:∀(ps:List (List UInt8)) (k:Nat),(jB (ps.take k)).length<=(jB ps).length
 | [],k=>by simp
 | [p],0=>by simp [jB]
 | [p],k+1=>by simp
 | p :: q :: r,0=>by simp [jB]
 | p :: q :: r,1=>by simp [jB]
 | p :: q :: r,k+2=>by
  have ih:=jbC (q :: r) (k+1);simp only [List.take_succ_cons] at ih ⊢;simp only [jB,List.length_append,List.length_cons] at ih ⊢;omega
theorem jcl (d:Nat):∀(ps:List (List UInt8)) (k:Nat),(jK d (ps.take k)).length<=(jK d ps).length
 | [],k=>by simp
 | p :: r,0=>by simp [jK]
 | p :: r,k+1=>by
  have ih:=jcl d r k;rw [List.take_succ_cons];unfold jK at ih ⊢;simp only [List.flatMap_cons,List.length_append] at ih ⊢;omega
theorem JZ (d:Nat):(inL d).length=2*d:=by unfold inL;simp
theorem Yz (d:Nat)(p:List UInt8):(Z5 d p).length=2*d+4+p.length:=by
 unfold Z5;simp only [List.length_cons,List.length_append,JZ,List.length_nil];omega
end valus
end Go.Proofs.YtnbfnjhbmeocfabGreatDoor
