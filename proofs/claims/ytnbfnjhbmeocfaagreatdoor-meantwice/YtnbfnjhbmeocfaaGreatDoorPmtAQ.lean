/- Of our texts, what this claim reaches. -/
import Derived.Test.YtnbfnjhbmeocfaaGreatDoorPmtAL
import Derived.Test.YtnbfnjhbmeocfaaGreatDoorPmtAP
import Derived.WalkSmall
import Derived.Test.YtnbfnjhbmeocfaaGreatDoorPmtAO
set_option linter.unusedVariables false
set_option maxHeartbeats 4000000
set_option maxRecDepth 100000
namespace Go.Proofs.YtnbfnjhbmeocfaaGreatDoor
namespace escs
open Go.RowKit
open utfs
open bigs (digB zi QZ zd)
def Bld (B b:Nat)(l:List UInt8)(w:World):Prop:=Lib.IsBuilderF 149 5 B b (Lib.byteCells l) w
def Kept (b:Nat)(w w':World):Prop:=Lib.OthersKept 5 (some b) w w'
theorem Bld.below {B b:Nat}{l:List UInt8}{w w':World}(h:Bld B b l w)(hb:Below w.heap.size w w'):Bld B b l w':=by
 have at_:∀p,Lib.BuilderAtF 149 5 B b p (Lib.byteCells l) w->Lib.BuilderAtF 149 5 B b p (Lib.byteCells l) w':=fun p h=>by
  have hlt:=h.lt;obtain⟨hB,v,hv,hown,hne⟩:=h;exact⟨hB,v,(hb.block b hlt).trans hv,hown.kept (row:=none) ⟨hb.os,hb.tape,hb.output,hb.size,fun k hk _=>hb.block k hk⟩ (Classical.em _),hne⟩
 exact h.elim (fun x=>.inl (at_ _ x)) (fun x=>.inr (at_ _ x))
theorem Kept.below {b:Nat}{w w':World}(hb:Below w.heap.size w w'):Kept b w w':=fun k o hk _ _=>(hb.block k (Array.getElem?_eq_some_iff.1 hk).1).trans hk
theorem Kept.trans {b:Nat}{w1 w2 w3:World}(h1:Kept b w1 w2)(h2:Kept b w2 w3):Kept b w1 w3:=Lib.OthersKept.trans h1 h2
theorem jb3 (B b:Nat)(l:List UInt8)(x:Int)(c:UInt8)(hx:x=(c.toNat:Int))(w:World)(h:Bld B b l w)(hl:l.length+1<=140737488355328)(hB:B<=w.heap.size) :
  Calls Tryz.prog 256 #[.pointer (some ⟨b,0,none⟩),.int .u8 x] w fun e w'=>e=.returned .nilIface/\Bld B b (l++[c]) w'/\Below B w w'/\Kept b w w':=by
 subst hx;refine(Tryz.Builder_WriteByte_k B b (Lib.byteCells l) _ w h (by rw [Lib.byteCells_length];exact hl) hB).mono ?_
 rintro e w' ⟨rfl,h1,h2,h3⟩
 refine⟨rfl,?_,h2,h3⟩;unfold Bld;rw [Lib.byteCells_append];exact .inr h1
theorem jdK (B b:Nat)(l m:List UInt8)(w:World)(h:Bld B b l w)(hl:l.length+m.length<=140737488355328)(hB:B<=w.heap.size) :
  Calls Tryz.prog 229 #[.pointer (some ⟨b,0,none⟩),.string ⟨m.toArray⟩] w fun e w'=>(∃n:Int,e=.returned (.tuple #[.int .i64 n,.nilIface]))/\Bld B b (l++m) w'/\Below B w w'/\Kept b w w':=by
 refine(Tryz.Builder_WriteString_k B b (Lib.byteCells l) ⟨m.toArray⟩ w h (by rw [Lib.byteCells_length];exact hl) hB).mono ?_
 rintro e w' ⟨rfl,h1,h2,h3⟩
 refine⟨⟨_,rfl⟩,?_,h2,h3⟩;unfold Bld;rw [Lib.byteCells_append];exact .inr h1
theorem jcG (B b:Nat)(l:List UInt8)(r:Int)(hs:sc r=true)(w:World)(h:Bld B b l w)(hl:l.length+4<=140737488355328)(hB:B<=w.heap.size) :
  Calls Tryz.prog 221 #[.pointer (some ⟨b,0,none⟩),.int .i32 r] w fun e w'=>(∃n:Int,e=.returned (.tuple #[.int .i64 n,.nilIface]))/\Bld B b (l++Lib.encodeRune r) w'/\Below B w w'/\Kept b w w':=by
 have h0:=qH hs;refine(Tryz.Builder_WriteRune_k B b (Lib.byteCells l) r (by omega) (by omega) w h (by rw [Lib.byteCells_length];exact hl) hB).mono ?_
 rintro e w' ⟨rfl,h1,h2,h3⟩
 refine⟨⟨_,rfl⟩,?_,h2,h3⟩;unfold Bld;rw [Lib.byteCells_append,Lib.byteCells_encodeRune];exact .inr h1
theorem jiI (B b:Nat)(l:List UInt8)(w:World)(h:Bld B b l w)(hB:B<=w.heap.size) :
  Calls Tryz.prog 86 #[.pointer (some ⟨b,0,none⟩)] w fun e w'=>e=.returned (.string ⟨l.toArray⟩)/\Below B w w':=by
 refine(Tryz.Builder_String_any_k B b l w h hB).mono ?_
 rintro e w' ⟨rfl,_,h2,_⟩
 exact⟨rfl,h2⟩
theorem jlG (w:World)(u:Nat)(hu:u<256)(ht:Lib.TabIs Tryz.prog w "math/bits.deBruijn64tab" .u8 zi) :
  Calls Tryz.prog 271 #[.int .i64 (u:Int),.int .i64 16] w fun e w'=>e=.returned (.string ⟨(digB 16 u).toArray⟩)/\Below w.heap.size w w':=by
 have K:=jd (QZ w u (by omega) ht);clear ht;have i1:¬(u:Int)<0:=by omega
 go_enter Tryz.func271,Tryz.ntmps271
 go_wp2_with fail
 refine(ja K).mono ?_
 rintro e w' ⟨rfl,b1⟩
 have B:=jd b1;clear b1 K;go_wp2;go_ret;exact⟨rfl,ja B⟩
theorem jjW (w:World)(u:Nat)(hu:u<256)(ht:Lib.TabIs Tryz.prog w "math/bits.deBruijn64tab" .u8 zi) :
  Calls Tryz.prog 253 #[.int .i64 (u:Int),.int .i64 16] w fun e w'=>e=.returned (.string ⟨(digB 16 u).toArray⟩)/\Below w.heap.size w w':=by
 have K:=jd (jlG w u hu ht);clear ht
 go_enter Tryz.func253,Tryz.ntmps253
 go_wp2_with fail
 refine(ja K).mono ?_
 rintro e w' ⟨rfl,b1⟩
 have B:=jd b1;clear b1 K;go_wp2;go_ret;exact⟨rfl,ja B⟩
theorem jli (a b:List UInt8)(h:a.length+b.length<=9223372036854775807)(u:World):(Op.stringOp .add ⟨a.toArray⟩ ⟨b.toArray⟩).run Tryz.prog u=.ok (.string ⟨(a++b).toArray⟩) u:=by
 rw [run_string_add_sum _ _ _ (by show a.toArray.size+b.toArray.size<=_;rw [List.size_toArray,List.size_toArray];exact h)]
 congr 2
theorem jkQ (B b:Nat)(l:List UInt8)(r:Int)(hs:sc r=true)(w:World)(h:Bld B b l w)(hl:l.length+16<=140737488355328)(hB:B<=w.heap.size)(ht:Lib.TabIs Tryz.prog w "math/bits.deBruijn64tab" .u8 zi) :
  Calls Tryz.prog 257 #[.pointer (some ⟨b,0,none⟩),.int .i32 r] w fun e w'=>e=.returned (.tuple #[])/\Bld B b (l++qr r) w'/\Below B w w'/\Kept b w w':=by
 have h0:=qH hs
 rcases ZU r hs with c | ⟨c,h34,h92,h10,h9,h13⟩ | ⟨c,h127,h34,h92⟩
 ·rcases c with rfl | rfl | rfl | rfl | rfl
  ·have K1:=jd (jb3 B b l 92 92 rfl w h (by omega) hB)
   have e:Hid (l++qr 34=l++[92]++Lib.encodeRune 34):=jd (by rw [List.append_assoc];rfl);clear ht h
   go_enter Tryz.func257,Tryz.ntmps257
   go_wp2_with fail
   refine(ja K1).mono ?_
   rintro _ w1 ⟨rfl,b1,k1,o1⟩
   have K2:=jd (jcG B b (l++[92]) 34 hs w1 b1 (by simp;omega) (Nat.le_trans hB k1.size))
   go_wp2_with fail
   refine(ja K2).mono ?_
   rintro _ w2 ⟨⟨n,rfl⟩,b2,k2,o2⟩
   go_wp2;go_end0;rw [ja e];exact⟨rfl,b2,k1.trans k2,o1.trans o2⟩
  ·have K1:=jd (jb3 B b l 92 92 rfl w h (by omega) hB)
   have e:Hid (l++qr 92=l++[92]++Lib.encodeRune 92):=jd (by rw [List.append_assoc];rfl);clear ht h
   go_enter Tryz.func257,Tryz.ntmps257
   go_wp2_with fail
   refine(ja K1).mono ?_
   rintro _ w1 ⟨rfl,b1,k1,o1⟩
   have K2:=jd (jcG B b (l++[92]) 92 hs w1 b1 (by simp;omega) (Nat.le_trans hB k1.size))
   go_wp2_with fail
   refine(ja K2).mono ?_
   rintro _ w2 ⟨⟨n,rfl⟩,b2,k2,o2⟩
   go_wp2;go_end0;rw [ja e];exact⟨rfl,b2,k1.trans k2,o1.trans o2⟩
  ·have K1:=jd (jdK B b l [92,110] w h (by simp;omega) hB)
   have e:Hid (l++qr 10=l++[92,110]):=jd rfl;clear ht h
   go_enter Tryz.func257,Tryz.ntmps257
   go_wp2_with fail
   refine(ja K1).mono ?_
   rintro _ w1 ⟨⟨n,rfl⟩,b1,k1,o1⟩
   go_wp2;go_end0;rw [ja e];exact⟨rfl,b1,k1,o1⟩
  ·have K1:=jd (jdK B b l [92,116] w h (by simp;omega) hB)
   have e:Hid (l++qr 9=l++[92,116]):=jd rfl;clear ht h
   go_enter Tryz.func257,Tryz.ntmps257
   go_wp2_with fail
   refine(ja K1).mono ?_
   rintro _ w1 ⟨⟨n,rfl⟩,b1,k1,o1⟩
   go_wp2;go_end0;rw [ja e];exact⟨rfl,b1,k1,o1⟩
  ·have K1:=jd (jdK B b l [92,114] w h (by simp;omega) hB)
   have e:Hid (l++qr 13=l++[92,114]):=jd rfl;clear ht h
   go_enter Tryz.func257,Tryz.ntmps257
   go_wp2_with fail
   refine(ja K1).mono ?_
   rintro _ w1 ⟨⟨n,rfl⟩,b1,k1,o1⟩
   go_wp2;go_end0;rw [ja e];exact⟨rfl,b1,k1,o1⟩
 ·obtain⟨u,rfl⟩:∃u:Nat,r=u:=⟨r.toNat,by omega⟩
  have hu:u<256:=by omega
  have KH:=jd (jjW w u hu ht);have e:Hid (l++qr (u:Int)=l++([92,117,123]++digB 16 u++[125])):=jd (by rw [jcu c h10 h9 h13];simp)
  have hd:(digB 16 u).length<=2:=by
   rcases X4 h0.1 c with ⟨d,_,_,eg⟩ | ⟨a,d,_,_,_,eg⟩<;>rw [Int.toNat_natCast] at eg<;>rw [eg]<;>simp
  generalize digB 16 u=D at *;have a1:=jli [92,117,123] D (by simp;omega);have a2:=jli ([92,117,123]++D) [125] (by simp;omega);have hm:([92,117,123]++D++[125]).length<=6:=by simp;omega
  generalize [92,117,123]++D++[125]=M at *;generalize [92,117,123]++D=M1 at *;have i34:((u:Int) == 34)=false:=beq_false_of_ne h34;have i92:((u:Int) == 92)=false:=beq_false_of_ne h92;have i10:((u:Int) == 10)=false:=beq_false_of_ne h10;have i9:((u:Int) == 9)=false:=beq_false_of_ne h9;have i13:((u:Int) == 13)=false:=beq_false_of_ne h13;have H:=jd h
  by_cases c1:(u:Int)<32
  ·clear h34 h92 h10 h9 h13 c ht h hs hd
   go_enter Tryz.func257,Tryz.ntmps257
   go_wp2_with fail
   refine(ja KH).mono ?_
   rintro _ w1 ⟨rfl,k1⟩
   have K2:=jd (jdK B b l M w1 ((ja H).below k1) (by omega) (Nat.le_trans hB k1.size))
   go_wp2_with fail
   refine(ja K2).mono ?_
   rintro _ w2 ⟨⟨n,rfl⟩,b2,k2,o2⟩
   go_wp2;go_end0;rw [ja e];exact⟨rfl,b2,(k1.mono hB).trans k2,(Kept.below k1).trans o2⟩
  ·have i127:((u:Int) == 127)=true:=by rw [show(u:Int)=127 by omega];rfl
   clear h34 h92 h10 h9 h13 c ht h hs hd
   go_enter Tryz.func257,Tryz.ntmps257
   go_wp2_with fail
   refine(ja KH).mono ?_
   rintro _ w1 ⟨rfl,k1⟩
   have K2:=jd (jdK B b l M w1 ((ja H).below k1) (by omega) (Nat.le_trans hB k1.size))
   go_wp2_with fail
   refine(ja K2).mono ?_
   rintro _ w2 ⟨⟨n,rfl⟩,b2,k2,o2⟩
   go_wp2;go_end0;rw [ja e];exact⟨rfl,b2,(k1.mono hB).trans k2,(Kept.below k1).trans o2⟩
 ·have K1:=jd (jcG B b l r hs w h (by omega) hB)
  have e:Hid (l++qr r=l++Lib.encodeRune r):=jd (by rw [ZP c h127 h34 h92]);have i34:(r == 34)=false:=beq_false_of_ne h34;have i92:(r == 92)=false:=beq_false_of_ne h92;have i10:(r == 10)=false:=beq_false_of_ne (by omega);have i9:(r == 9)=false:=beq_false_of_ne (by omega);have i13:(r == 13)=false:=beq_false_of_ne (by omega);have i127:(r == 127)=false:=beq_false_of_ne h127;have i32:¬r<32:=by omega
  clear ht h h34 h92 h127
  go_enter Tryz.func257,Tryz.ntmps257
  go_wp2_with fail
  refine(ja K1).mono ?_
  rintro _ w1 ⟨⟨n,rfl⟩,b1,k1,o1⟩
  go_wp2;go_end0;rw [ja e];exact⟨rfl,b1,k1,o1⟩
theorem jgI (s:ByteArray)(w:World)(hs:s.size<=9223372036854775807)(hT:Lib.Utf8Tabs 1 2 w)(hb:0<=bad s.data.toList) :
  Calls Tryz.prog 232 #[.string s] w fun e w'=>e=.returned (.tuple #[.string ⟨#[]⟩,.int .i64 3])/\Below w.heap.size w w':=by
 have K:=jd (X0 s w hs hT);clear hT;generalize bad s.data.toList=v at *
 go_enter Tryz.func232,Tryz.ntmps232
 go_wp2_with fail
 refine(ja K).mono ?_
 rintro _ w1 ⟨rfl,b1⟩
 clear K;go_wp2;go_ret2;exact⟨rfl,b1⟩
theorem jfz {s:ByteArray}{rs acc:List Int}{pos:Nat}{r:Int}{rest:List Int}(hl:s.data.toList=enc rs)(hsc:∀q∈rs,sc q=true)(hr:rs=acc++r :: rest)(hp:pos=(enc acc).length) :
  pos<s.size/\Utf8.decode s pos=(r.toNat,(Lib.encodeRune r).length)/\sc r=true/\pos+(Lib.encodeRune r).length=(enc (acc++[r])).length:=by
 have hq:sc r=true:=hsc r (by rw [hr];simp);have h4:=jL r;have hd:=Lib.decodeL_drop s pos
 have he:s.data.toList.drop pos=Lib.encodeRune r++enc rest:=by
  rw [hl,hr,zS,JE,hp,List.drop_left' rfl]
 rw [he,QG hq] at hd;have hlen:=congrArg List.length hl;rw [jp,hr,zS,JE,List.length_append,List.length_append] at hlen;refine⟨by omega,hd.symm,hq,?_⟩;rw [zS,jcz,List.length_append,hp]
theorem jfg (s:ByteArray)(rs:List Int)(w:World)(hs:s.size<=1073741824)(hT:Lib.Utf8Tabs 1 2 w)(ht:Lib.TabIs Tryz.prog w "math/bits.deBruijn64tab" .u8 zi)(hl:s.data.toList=enc rs)(hsc:∀r∈rs,sc r=true) :
  Calls Tryz.prog 232 #[.string s] w fun e w'=>e=.returned (.tuple #[.string ⟨(jJ rs).toArray⟩,.int .i64 0])/\Below w.heap.size w w':=by
 have K:=X0 s w (by omega) hT;rw [hl,jkj hsc] at K;have K:=jd K;have HL:=jd hl;have HSC:=jd hsc;have HT:=jd ht;clear hT ht hl hsc
 go_enter Tryz.func232,Tryz.ntmps232
 go_wp2_with fail
 refine(ja K).mono ?_
 rintro _ w1 ⟨rfl,b1⟩
 have B1:=jd b1;clear K;have I0:Hid (Bld w1.heap.size w1.heap.size [] (w1.alloc (.cells #[.pointer none,.slice none 0 0] 149))):=jd (Lib.IsBuilderF.of (Lib.fresh_isBuilder 149 5 w1))
 go_wp2_with fail
 refine(jb3 w1.heap.size w1.heap.size [] 34 34 rfl _ (ja I0) (by simp) (by simp)).mono ?_
 rintro _ w2 ⟨rfl,i2,b2,o2⟩
 have b2':Below w1.heap.size w1 w2:=((Below.refl _ w1).alloc (Nat.le_refl _) _).trans b2;have lt2:w1.heap.size<w2.heap.size:=by have:=b2.size;simp at this;omega
 have I2:=jd i2;have B2:=jd b2';clear i2 b2 b2' o2 I0 b1;have hN:w.heap.size<=w1.heap.size:=(ja B1).size;generalize w1.heap.size=N at *;generalize hM:w2.heap.size=M at *
 go_wp2_with fail
 go_loopw [] (fun wr=>∃(acc rest:List Int) (pos:Nat),wr.heap[M]?=some (.stringIter s pos)/\Hid (rs=acc++rest)/\Hid (pos=(enc acc).length)/\Hid (Bld N N (34 :: qs acc) wr)/\Hid (Below N w1 wr)) (fun wr=>s.size - wr.iterPos M)
 case atStart=>
  refine⟨[],rs,0,?_,jd rfl,jd rfl,jd (Lib.IsBuilderF.alloc (ja I2) _),jd ((ja B2).alloc (by omega) _)⟩;rw [<-hM];have:=World.iter_heap w2 s 0;simpa using this
 case round=>
  obtain⟨acc,rest,pos,hit,hr,hp,hI,hB⟩:=hrel;have hsz:M<wr.heap.size:=(Array.getElem?_eq_some_iff.1 hit).1;cases rest with
  | nil=>
   have hps:¬pos<s.size:=by
    have h1:=congrArg List.length (ja HL);have h2:=ja hr;rw [List.append_nil] at h2;rw [jp,h2] at h1;have:=ja hp;omega
   have hnx:∀ty,(Instr.next (.pointer (some ⟨M,0,none⟩)) true ty).run Tryz.prog wr=_:=fun ty=>Lib.run_next_end_at wr M s pos ty hit hps
   have hlen:(34 :: qs acc).length<=6*s.size+1:=by
    have h2:=ja hr;rw [List.append_nil] at h2;have h3:=jfS rs (ja HSC);rw [<-ja HL,jp,h2] at h3;simp only [List.length_cons];omega
   have E:Hid (jJ rs=34 :: qs acc++[34]):=jd (by
    have h2:=ja hr;rw [List.append_nil] at h2;rw [h2];rfl)
   clear hr hp hit hps;generalize 34 :: qs acc=L at *
   go_wp2_with fail
   refine(jb3 N N L 34 34 rfl wr (ja hI) (by omega) (by omega)).mono ?_
   rintro _ w3 ⟨rfl,i3,b3,o3⟩
   have I3:=jd i3;have B3:=jd ((ja hB).trans b3);have s3:=b3.size;clear i3 b3 o3 hI hB
   go_wp2_with fail
   refine(jiI N N (L++[34]) w3 (ja I3) (by omega)).mono ?_
   rintro _ w4 ⟨rfl,b4⟩
   go_wp2;go_ret2;rw [ja E];exact⟨rfl,(ja B1).trans (((ja B3).trans b4).mono hN)⟩
  | cons r rest=>
   obtain⟨hps,hdec,hq,hnext⟩:=jfz (ja HL) (ja HSC) (ja hr) (ja hp);have h0:=qH hq;have h4:=jL r
   have hnx:∀ty,(Instr.next (.pointer (some ⟨M,0,none⟩)) true ty).run Tryz.prog wr=.ok (.tuple #[.bool true,.int .i64 (pos:Int),.int .i32 r]) (wr.iterAt M s (pos+(Lib.encodeRune r).length)):=fun ty=>by
    rw [Lib.run_next_any_at wr M s pos ty hit hps,hdec];simp only;rw [show((r.toNat:Nat):Int)=r by omega]
   have hlen:(34 :: qs acc).length<=6*s.size+1:=by
    have h2:=ja hr;have h3:=jfS acc (fun q hq=>ja HSC q (by rw [h2];exact List.mem_append_left _ hq));have:=ja hp;simp only [List.length_cons];omega
   have I2:Hid (Bld N N (34 :: qs acc) (wr.iterAt M s (pos+(Lib.encodeRune r).length))):=jd (Lib.IsBuilderF.iterAt (ja hI) hit _);have hit2:=Lib.iterAt_heap wr M s pos (pos+(Lib.encodeRune r).length) hit;have B3:=jd (Lib.below_iterAt (ja hB) (k:=M) (by omega) s (pos+(Lib.encodeRune r).length));have T2:=jd (zd (ja HT) ((ja B1).trans ((ja B3).mono hN)));have hr2:Hid (rs=(acc++[r])++rest):=jd (by rw [ja hr];simp);have hn2:Hid (pos+(Lib.encodeRune r).length=(enc (acc++[r])).length):=jd hnext;have hq2:Hid (34 :: qs (acc++[r])=34 :: qs acc++qr r):=jd (by rw [jgD,jla];rfl);have hsz2:N<=(wr.iterAt M s (pos+(Lib.encodeRune r).length)).heap.size:=by rw [Lib.iterAt_size];omega
   have hqp:Hid (wr.iterPos M=pos):=jd (by simp only [World.iterPos,hit]);clear hr hp hI hB hnext hdec hit;generalize 34 :: qs acc=L at *;generalize (Lib.encodeRune r).length=n at *
   go_wp2_with fail
   refine(jkQ N N L r hq _ (ja I2) (by omega) hsz2 (ja T2)).mono ?_
   rintro _ w3 ⟨rfl,i3,b3,o3⟩
   have hit3:w3.heap[M]?=some (.stringIter s (pos+n)):=o3 M _ hit2 (by simp;omega) (by simp)
   have I3:=jd i3;have B4:=jd ((ja B3).trans b3);clear i3 b3 o3 I2 B3 T2;go_wp2;go_roundw
   case rel=>exact⟨acc++[r],rest,pos+n,hit3,hr2,hn2,jd (by rw [ja hq2];exact ja I3),B4⟩
   case measure=>
    have:=ja hqp;rw [this];simp only [World.iterPos,hit3];omega
open Go.RowKit
open utfs
open bigs (Jb JC jb1 Q1)
theorem jdc (r:List UInt8):Lib.hasPrefix (92 :: 117 :: 123 :: r) [92,117,123]=true/\Lib.trimPrefix (92 :: 117 :: 123 :: r) [92,117,123]=r:=by
 have h:Lib.hasPrefix (92 :: 117 :: 123 :: r) [92,117,123]=true:=by simp [Lib.hasPrefix]
 exact⟨h,by unfold Lib.trimPrefix;rw [if_pos h];rfl⟩
theorem jkr {t:List UInt8}(hn:t.take 2≠[117,123]):Lib.hasPrefix (92 :: t) [92,117,123]=false:=by
 match t,hn with
 | [],_=>rfl
 | [a],_=>simp [Lib.hasPrefix,List.isPrefixOf]
 | a :: b :: r,hn=>
  by_cases e1:a=117
  ·have:b≠123:=fun e=>hn (by rw [e1,e];simp)
   simp [Lib.hasPrefix,List.isPrefixOf,Ne.symm this]
  ·simp [Lib.hasPrefix,List.isPrefixOf,Ne.symm e1]
theorem QJ {s:ByteArray}(h:0<s.size):s.data.toList=(s[0]'h) :: s.data.toList.drop 1:=by
 have:=Jb s 0 h;rwa [List.drop_zero] at this
theorem jgx {t:List UInt8}(ht:t=[]):zZ t=.inl 4:=by rw [ht];rfl
theorem jje {c:UInt8}{t:List UInt8}(h:(c :: t).take 2≠[117,123]):zZ (c :: t)=if c=34\/c=92\/c=47 then .inr ((c.toNat:Int),2) else if c=110 then .inr (10,2) else if c=116 then .inr (9,2) else if c=114 then .inr (13,2) else .inl 4:=by
 unfold zZ;rw [if_neg h]
theorem jeC (l:List UInt8):(⟨l.toArray⟩:ByteArray).size=l.length:=by show l.toArray.size=_;rw [List.size_toArray]
theorem jc3 (w:World)(s:ByteArray)(hs:s.size<=1073741824)(h0:0<s.size)(h92:s[0]'h0=92)(Q:jaK)(hQ:Hid (Q=zZ (s.data.toList.drop 1))) :
  Calls Tryz.prog 248 #[.string s] w fun e w'=>e=.returned (.tuple #[.int .i32 (jaw Q),.int .i64 (Ym Q:Int),.int .i64 (jar Q)])/\Below w.heap.size w w':=by
 have KC:=Tryz.strings_CutPrefix s ⟨#[92,117,123]⟩ w;rw [QJ h0,h92] at KC
 by_cases h2:(s.data.toList.drop 1).take 2=[117,123]
 ·obtain⟨r,hr⟩:=jbW h2
  have hl:=congrArg List.length hr;rw [List.length_drop,jp] at hl;simp only [List.length_cons] at hl
  have q:Hid (Q=J4 (⟨r.toArray⟩:ByteArray).data.toList):=jd (by
   rw [ja hQ,hr];unfold zZ;rw [if_pos (by simp)];rfl)
  have KN:=jd (jjn w ⟨r.toArray⟩ (by rw [jeC];omega) Q q);have e3:(⟨#[92,117,123]⟩:ByteArray).data.toList=[92,117,123]:=rfl;rw [hr,e3,(jdc r).1,(jdc r).2] at KC;have KC:=jd KC;clear hQ q hr h2 hl e3;generalize jaw Q=a1 at *;generalize Ym Q=a2 at *;generalize jar Q=a3 at *
  go_enter Tryz.func248,Tryz.ntmps248
  go_wp2_with fail
  refine(ja KC).mono ?_
  rintro _ w1 ⟨rfl,hw⟩
  rw [hw];clear hw
  go_wp2_with fail
  refine(ja KN).mono ?_
  rintro _ w1 ⟨rfl,b1⟩
  have B1:=jd b1;clear b1 KN KC;go_wp2;refine bodyPost_ret (v:=.tuple #[.int .i32 a1,.int .i64 (a2:Int),.int .i64 a3]) (by simp [results,Tryz.results248,go_sem]) rfl ?_
  exact⟨rfl,ja B1⟩
 ·have e3:(⟨#[92,117,123]⟩:ByteArray).data.toList=[92,117,123]:=rfl
  rw [e3,jkr h2] at KC;generalize Lib.trimPrefix (92 :: s.data.toList.drop 1) [92,117,123]=R at *;have KC:=jd KC;clear e3
  by_cases h1:s.size<2
  ·have F:Hid (Q=.inl 4):=jd (by
    rw [ja hQ];exact jgx (List.drop_of_length_le (by rw [jp];omega)))
   have i1:(s.size:Int)<2:=by omega
   clear hQ h2 h92
   go_enter Tryz.func248,Tryz.ntmps248
   go_wp2_with fail
   refine(ja KC).mono ?_
   rintro _ w1 ⟨rfl,hw⟩
   rw [hw];clear hw;go_wp2;refine bodyPost_ret (v:=.tuple #[.int .i32 0,.int .i64 0,.int .i64 4]) (by simp [results,Tryz.results248,go_sem]) rfl ?_
   rw [ja F];exact⟨rfl,Below.refl _ _⟩
  ·have i1:¬(s.size:Int)<2:=by omega
   have g1:1<s.size:=by omega
   have j1:(1:Int)<(s.size:Int):=by omega
   have hc:=Jb s 1 g1;rw [hc] at h2;have q:=ja hQ;rw [hc,jje h2] at q;have eqv:∀n:Nat,n<256->(s[1]'g1=UInt8.ofNat n↔(s[1]'g1).toNat=n):=fun n hn=>Q1 _ n hn
   have e34:s[1]'g1=34↔(s[1]'g1).toNat=34:=eqv 34 (by decide);have e92:s[1]'g1=92↔(s[1]'g1).toNat=92:=eqv 92 (by decide);have e47:s[1]'g1=47↔(s[1]'g1).toNat=47:=eqv 47 (by decide);have e110:s[1]'g1=110↔(s[1]'g1).toNat=110:=eqv 110 (by decide);have e116:s[1]'g1=116↔(s[1]'g1).toNat=116:=eqv 116 (by decide);have e114:s[1]'g1=114↔(s[1]'g1).toNat=114:=eqv 114 (by decide);have u:=UInt8.toNat_lt (s[1]'g1);clear hQ h2 h92 hc eqv
   by_cases c0:(s[1]'g1).toNat=34
   ·have F:Hid (Q=.inr (((s[1]'g1).toNat:Int),2)):=jd (by
     rw [q];rw [if_pos (by exact .inl (e34.2 c0))])
    have b34:(((s[1]'g1).toNat:Int) == 34)=true:=by rw [show((s[1]'g1).toNat:Int)=34 by omega];rfl
    clear q e34 e92 e47 e110 e116 e114 c0
    go_enter Tryz.func248,Tryz.ntmps248
    go_wp2_with fail
    refine(ja KC).mono ?_
    rintro _ w1 ⟨rfl,hw⟩
    rw [hw];clear hw;go_wp2;refine bodyPost_ret (v:=.tuple #[.int .i32 ((s[1]'g1).toNat:Int),.int .i64 2,.int .i64 0]) (by simp [results,Tryz.results248,go_sem]) rfl ?_
    rw [ja F];exact⟨rfl,Below.refl _ _⟩
   ·skip
    by_cases c1:(s[1]'g1).toNat=92
    ·have F:Hid (Q=.inr (((s[1]'g1).toNat:Int),2)):=jd (by
      rw [q];rw [if_pos (by exact .inr (.inl (e92.2 c1)))])
     have b34:(((s[1]'g1).toNat:Int) == 34)=false:=beq_false_of_ne (by omega);have b92:(((s[1]'g1).toNat:Int) == 92)=true:=by rw [show((s[1]'g1).toNat:Int)=92 by omega];rfl
     clear q e34 e92 e47 e110 e116 e114 c0 c1
     go_enter Tryz.func248,Tryz.ntmps248
     go_wp2_with fail
     refine(ja KC).mono ?_
     rintro _ w1 ⟨rfl,hw⟩
     rw [hw];clear hw;go_wp2;refine bodyPost_ret (v:=.tuple #[.int .i32 ((s[1]'g1).toNat:Int),.int .i64 2,.int .i64 0]) (by simp [results,Tryz.results248,go_sem]) rfl ?_
     rw [ja F];exact⟨rfl,Below.refl _ _⟩
    ·skip
     by_cases c2:(s[1]'g1).toNat=47
     ·have F:Hid (Q=.inr (((s[1]'g1).toNat:Int),2)):=jd (by
       rw [q];rw [if_pos (by exact .inr (.inr (e47.2 c2)))])
      have b34:(((s[1]'g1).toNat:Int) == 34)=false:=beq_false_of_ne (by omega);have b92:(((s[1]'g1).toNat:Int) == 92)=false:=beq_false_of_ne (by omega);have b47:(((s[1]'g1).toNat:Int) == 47)=true:=by rw [show((s[1]'g1).toNat:Int)=47 by omega];rfl
      clear q e34 e92 e47 e110 e116 e114 c0 c1 c2
      go_enter Tryz.func248,Tryz.ntmps248
      go_wp2_with fail
      refine(ja KC).mono ?_
      rintro _ w1 ⟨rfl,hw⟩
      rw [hw];clear hw;go_wp2;refine bodyPost_ret (v:=.tuple #[.int .i32 ((s[1]'g1).toNat:Int),.int .i64 2,.int .i64 0]) (by simp [results,Tryz.results248,go_sem]) rfl ?_
      rw [ja F];exact⟨rfl,Below.refl _ _⟩
     ·skip
      by_cases c3:(s[1]'g1).toNat=110
      ·have F:Hid (Q=.inr (10,2)):=jd (by
        rw [q];rw [if_neg (by rintro(h | h | h);exact c0 (e34.1 h);exact c1 (e92.1 h);exact c2 (e47.1 h))];rw [if_pos (e110.2 c3)])
       have b34:(((s[1]'g1).toNat:Int) == 34)=false:=beq_false_of_ne (by omega);have b92:(((s[1]'g1).toNat:Int) == 92)=false:=beq_false_of_ne (by omega);have b47:(((s[1]'g1).toNat:Int) == 47)=false:=beq_false_of_ne (by omega);have b110:(((s[1]'g1).toNat:Int) == 110)=true:=by rw [show((s[1]'g1).toNat:Int)=110 by omega];rfl
       clear q e34 e92 e47 e110 e116 e114 c0 c1 c2 c3
       go_enter Tryz.func248,Tryz.ntmps248
       go_wp2_with fail
       refine(ja KC).mono ?_
       rintro _ w1 ⟨rfl,hw⟩
       rw [hw];clear hw;go_wp2;refine bodyPost_ret (v:=.tuple #[.int .i32 10,.int .i64 2,.int .i64 0]) (by simp [results,Tryz.results248,go_sem]) rfl ?_
       rw [ja F];exact⟨rfl,Below.refl _ _⟩
      ·skip
       by_cases c4:(s[1]'g1).toNat=116
       ·have F:Hid (Q=.inr (9,2)):=jd (by
         rw [q];rw [if_neg (by rintro(h | h | h);exact c0 (e34.1 h);exact c1 (e92.1 h);exact c2 (e47.1 h))];rw [if_neg (fun h=>c3 (e110.1 h))];rw [if_pos (e116.2 c4)])
        have b34:(((s[1]'g1).toNat:Int) == 34)=false:=beq_false_of_ne (by omega);have b92:(((s[1]'g1).toNat:Int) == 92)=false:=beq_false_of_ne (by omega);have b47:(((s[1]'g1).toNat:Int) == 47)=false:=beq_false_of_ne (by omega);have b110:(((s[1]'g1).toNat:Int) == 110)=false:=beq_false_of_ne (by omega);have b116:(((s[1]'g1).toNat:Int) == 116)=true:=by rw [show((s[1]'g1).toNat:Int)=116 by omega];rfl
        clear q e34 e92 e47 e110 e116 e114 c0 c1 c2 c3 c4
        go_enter Tryz.func248,Tryz.ntmps248
        go_wp2_with fail
        refine(ja KC).mono ?_
        rintro _ w1 ⟨rfl,hw⟩
        rw [hw];clear hw;go_wp2;refine bodyPost_ret (v:=.tuple #[.int .i32 9,.int .i64 2,.int .i64 0]) (by simp [results,Tryz.results248,go_sem]) rfl ?_
        rw [ja F];exact⟨rfl,Below.refl _ _⟩
       ·skip
        by_cases c5:(s[1]'g1).toNat=114
        ·have F:Hid (Q=.inr (13,2)):=jd (by
          rw [q];rw [if_neg (by rintro(h | h | h);exact c0 (e34.1 h);exact c1 (e92.1 h);exact c2 (e47.1 h))];rw [if_neg (fun h=>c3 (e110.1 h))];rw [if_neg (fun h=>c4 (e116.1 h))];rw [if_pos (e114.2 c5)])
         have b34:(((s[1]'g1).toNat:Int) == 34)=false:=beq_false_of_ne (by omega);have b92:(((s[1]'g1).toNat:Int) == 92)=false:=beq_false_of_ne (by omega);have b47:(((s[1]'g1).toNat:Int) == 47)=false:=beq_false_of_ne (by omega);have b110:(((s[1]'g1).toNat:Int) == 110)=false:=beq_false_of_ne (by omega);have b116:(((s[1]'g1).toNat:Int) == 116)=false:=beq_false_of_ne (by omega);have b114:(((s[1]'g1).toNat:Int) == 114)=true:=by rw [show((s[1]'g1).toNat:Int)=114 by omega];rfl
         clear q e34 e92 e47 e110 e116 e114 c0 c1 c2 c3 c4 c5
         go_enter Tryz.func248,Tryz.ntmps248
         go_wp2_with fail
         refine(ja KC).mono ?_
         rintro _ w1 ⟨rfl,hw⟩
         rw [hw];clear hw;go_wp2;refine bodyPost_ret (v:=.tuple #[.int .i32 13,.int .i64 2,.int .i64 0]) (by simp [results,Tryz.results248,go_sem]) rfl ?_
         rw [ja F];exact⟨rfl,Below.refl _ _⟩
        ·have F:Hid (Q=.inl 4):=jd (by
          rw [q];rw [if_neg (by rintro(h | h | h);exact c0 (e34.1 h);exact c1 (e92.1 h);exact c2 (e47.1 h))];rw [if_neg (fun h=>c3 (e110.1 h))];rw [if_neg (fun h=>c4 (e116.1 h))];rw [if_neg (fun h=>c5 (e114.1 h))])
         have b34:(((s[1]'g1).toNat:Int) == 34)=false:=beq_false_of_ne (by omega);have b92:(((s[1]'g1).toNat:Int) == 92)=false:=beq_false_of_ne (by omega);have b47:(((s[1]'g1).toNat:Int) == 47)=false:=beq_false_of_ne (by omega);have b110:(((s[1]'g1).toNat:Int) == 110)=false:=beq_false_of_ne (by omega);have b116:(((s[1]'g1).toNat:Int) == 116)=false:=beq_false_of_ne (by omega);have b114:(((s[1]'g1).toNat:Int) == 114)=false:=beq_false_of_ne (by omega);clear q e34 e92 e47 e110 e116 e114 c0 c1 c2 c3 c4 c5
         go_enter Tryz.func248,Tryz.ntmps248
         go_wp2_with fail
         refine(ja KC).mono ?_
         rintro _ w1 ⟨rfl,hw⟩
         rw [hw];clear hw;go_wp2;refine bodyPost_ret (v:=.tuple #[.int .i32 0,.int .i64 0,.int .i64 4]) (by simp [results,Tryz.results248,go_sem]) rfl ?_
         rw [ja F];exact⟨rfl,Below.refl _ _⟩
theorem jfs {c:UInt8}{t:List UInt8}(h:c=10):qa (c :: t)=.inl 4:=by unfold qa;rw [List.headD_cons,if_pos h]
theorem jcm {c:UInt8}{t:List UInt8}(h:c=92):qa (c :: t)=zZ t:=by
 subst h;unfold qa;rw [List.headD_cons,if_neg (by decide),if_pos rfl];rfl
theorem jew {c:UInt8}{t:List UInt8}(h1:c≠10)(h2:c≠92):qa (c :: t)=if Jq (c :: t)=true then .inl 3 else .inr (((Lib.decodeL (c :: t)).1:Int),(Lib.decodeL (c :: t)).2):=by
 unfold qa;rw [List.headD_cons,if_neg h1,if_neg h2]
theorem jgO (w:World)(s:ByteArray)(hs:s.size<=1073741824)(h0:0<s.size)(hT:Lib.Utf8Tabs 1 2 w)(Q:jaK)(hQ:Hid (Q=qa s.data.toList)) :
  Calls Tryz.prog 220 #[.string s] w fun e w'=>e=.returned (.tuple #[.int .i32 (jaw Q),.int .i64 (Ym Q:Int),.int .i64 (jar Q)])/\Below w.heap.size w w':=by
 have hc:=QJ h0;have e10:s[0]'h0=10↔(s[0]'h0).toNat=10:=Q1 (s[0]'h0) 10 (by decide);have e92:s[0]'h0=92↔(s[0]'h0).toNat=92:=Q1 (s[0]'h0) 92 (by decide);have j0:(0:Int)<(s.size:Int):=by omega
 by_cases c1:(s[0]'h0).toNat=10
 ·have F:Hid (Q=.inl 4):=jd (by rw [ja hQ,hc,jfs (e10.2 c1)])
  have b10:(((s[0]'h0).toNat:Int) == 10)=true:=by rw [show((s[0]'h0).toNat:Int)=10 by omega];rfl
  clear hQ hc e10 e92 c1 hT
  go_enter Tryz.func220,Tryz.ntmps220
  go_wp2;refine bodyPost_ret (v:=.tuple #[.int .i32 0,.int .i64 0,.int .i64 4]) (by simp [results,Tryz.results220,go_sem]) rfl ?_
  rw [ja F];exact⟨rfl,Below.refl _ _⟩
 ·have b10:(((s[0]'h0).toNat:Int) == 10)=false:=beq_false_of_ne (by omega)
  by_cases c2:(s[0]'h0).toNat=92
  ·have q:Hid (Q=zZ (s.data.toList.drop 1)):=jd (by rw [ja hQ,hc,jcm (e92.2 c2)];rfl)
   have K:=jd (jc3 w s hs h0 (e92.2 c2) Q q);have b92:(((s[0]'h0).toNat:Int) == 92)=true:=by rw [show((s[0]'h0).toNat:Int)=92 by omega];rfl
   clear hQ hc e10 e92 c1 c2 hT q;generalize jaw Q=a1 at *;generalize Ym Q=a2 at *;generalize jar Q=a3 at *
   go_enter Tryz.func220,Tryz.ntmps220
   go_wp2_with fail
   refine(ja K).mono ?_
   rintro _ w1 ⟨rfl,b1⟩
   have B1:=jd b1;clear b1 K;go_wp2;refine bodyPost_ret (v:=.tuple #[.int .i32 a1,.int .i64 (a2:Int),.int .i64 a3]) (by simp [results,Tryz.results220,go_sem]) rfl ?_
   exact⟨rfl,ja B1⟩
  ·have b92:(((s[0]'h0).toNat:Int) == 92)=false:=beq_false_of_ne (by omega)
   have q:=ja hQ;have hne:s.data.toList≠[]:=by rw [hc];simp
   rw [hc,jew (fun h=>c1 (e10.1 h)) (fun h=>c2 (e92.1 h)),<-hc] at q;have K:=jd (ZQ s w hT);have hneg:=jbj hne;have hR:zC s.data.toList=if Jq s.data.toList=true then -1 else ((Lib.decodeL s.data.toList).1:Int):=by unfold zC;rw [if_neg hne]
   have hN:zv s.data.toList=(Lib.decodeL s.data.toList).2:=by unfold zv;rw [if_neg hne]
   clear hQ hc e10 e92 c1 c2 hT hne;cases hb:Jq s.data.toList with
   | true=>
    rw [hb,if_pos rfl] at q;have F:=jd q;rw [hb] at hneg;have i1:zC s.data.toList<0:=hneg.2 rfl;clear q hneg hR hN hb;generalize zC s.data.toList=r at *;generalize zv s.data.toList=n at *
    go_enter Tryz.func220,Tryz.ntmps220
    go_wp2_with fail
    refine(ja K).mono ?_
    rintro _ w1 ⟨rfl,b1⟩
    have B1:=jd b1;clear b1 K;go_wp2;refine bodyPost_ret (v:=.tuple #[.int .i32 0,.int .i64 0,.int .i64 3]) (by simp [results,Tryz.results220,go_sem]) rfl ?_
    rw [ja F];exact⟨rfl,ja B1⟩
   | false=>
    rw [hb,if_neg (by decide)] at q hR;rw [<-hR,<-hN] at q;have F:=jd q;rw [hb] at hneg;have i1:¬zC s.data.toList<0:=fun h=>by have:=hneg.1 h;cases this
    clear q hneg hR hN hb;generalize zC s.data.toList=r at *;generalize zv s.data.toList=n at *
    go_enter Tryz.func220,Tryz.ntmps220
    go_wp2_with fail
    refine(ja K).mono ?_
    rintro _ w1 ⟨rfl,b1⟩
    have B1:=jd b1;clear b1 K;go_wp2;refine bodyPost_ret (v:=.tuple #[.int .i32 r,.int .i64 (n:Int),.int .i64 0]) (by simp [results,Tryz.results220,go_sem]) rfl ?_
    rw [ja F];exact⟨rfl,ja B1⟩
open Go.RowKit
open utfs
open bigs (Jb JC jb1 Q1)
def ZR:Res->List UInt8
 | .inl _=>[]
 | .inr (rs,_)=>enc rs
def jlC:Res->Nat
 | .inl _=>0
 | .inr (_,n)=>n
def jaL:Res->Int
 | .inl e=>e
 | .inr (_,_)=>0
def JG (acc:List Int)(k:Nat):Res->Res
 | .inl e=>.inl e
 | .inr (rs,n)=>.inr ((acc++rs),(k+n))
theorem jep (acc:List Int)(k:Nat)(r:Int)(n:Nat)(R:Res):JG acc k (Qz r n R)=JG (acc++[r]) (k+n) R:=by
 cases R with
 | inl e=>rfl
 | inr p=>
  obtain⟨rs,m⟩:=p;simp only [Qz,JG,Sum.inr.injEq,Prod.mk.injEq];exact⟨by simp,by omega⟩
def At (L:List UInt8)(acc:List Int)(k f:Nat):Prop:=unq L=JG acc k (z7 f (L.drop k))
theorem jhQ {s:ByteArray}(h0:0<s.size)(h:s[0]'h0=34):At s.data.toList [] 1 s.size:=by
 have e:=QJ h0;have hl:(s.data.toList.drop 1).length+1=s.size:=by rw [List.length_drop,jp];omega
 unfold At
 have e2:unq s.data.toList=unq (34 :: s.data.toList.drop 1):=by
  conv=>lhs;rw [e]
  rw [h]
 rw [e2,unq,if_pos rfl,hl];cases z7 s.size (s.data.toList.drop 1) with
 | inl e=>rfl
 | inr p=>
  obtain⟨rs,k⟩:=p;simp only [JG,Sum.inr.injEq,Prod.mk.injEq];exact⟨rfl,by omega⟩
theorem jjS {s:ByteArray}{acc:List Int}{k f:Nat}{r:Int}{n:Nat}(hk:k<s.size)(h:At s.data.toList acc k (f+1))(h34:s[k]'hk≠34)(hn:qa (s.data.toList.drop k)=.inr (r,n)):At s.data.toList (acc++[r]) (k+n) f:=by
 unfold At at *;have hd:=Jb s k hk;rw [h];rw [hd] at hn
 have:z7 (f+1) (s.data.toList.drop k)=Qz r n (z7 f ((s.data.toList.drop k).drop n)):=by
  rw [hd,z7,if_neg h34,hn]
 rw [this,jep,List.drop_drop]
theorem jie {s:ByteArray}{acc:List Int}{k f:Nat}{e:Int}(hk:k<s.size)(h:At s.data.toList acc k (f+1))(h34:s[k]'hk≠34)(hn:qa (s.data.toList.drop k)=.inl e):unq s.data.toList=.inl e:=by
 unfold At at *;have hd:=Jb s k hk;rw [h];rw [hd] at hn;rw [hd,z7,if_neg h34,hn];rfl
theorem jkn {s:ByteArray}{acc:List Int}{k f:Nat}(hk:k<s.size)(h:At s.data.toList acc k (f+1))(h34:s[k]'hk=34):unq s.data.toList=.inr (acc,(k+1)):=by
 unfold At at *;rw [h,Jb s k hk,z7,if_pos h34];simp [JG]
theorem jkY {s:ByteArray}{acc:List Int}{k f:Nat}(hk:s.size<=k)(h:At s.data.toList acc k (f+1)):unq s.data.toList=.inl 4:=by
 unfold At at *;rw [h,List.drop_of_length_le (by rw [jp];omega),z7];rfl
theorem jbd {s:ByteArray}(h:s.size=0\/∃h0:0<s.size,s[0]'h0≠34):unq s.data.toList=.inl 4:=by
 rcases h with h | ⟨h0,h⟩
 ·have:s.data.toList=[]:=List.eq_nil_of_length_eq_zero (by rw [jp];exact h)
  rw [this];rfl
 ·rw [QJ h0,unq,if_neg h]
theorem Qm (w:World)(s:ByteArray)(hs:s.size<=1073741824)(hT:Lib.Utf8Tabs 1 2 w)(R:Res)(hR:Hid (R=unq s.data.toList)) :
  Calls Tryz.prog 181 #[.string s] w fun e w'=>e=.returned (.tuple #[.string ⟨(ZR R).toArray⟩,.int .i64 (jlC R:Int),.int .i64 (jaL R)])/\Below w.heap.size w w':=by
 by_cases h0:s.size=0
 ·have F:Hid (R=.inl 4):=jd (by rw [ja hR];exact jbd (.inl h0))
  have e0:=jdZ s h0;clear hR hT h0
  go_enter Tryz.func181,Tryz.ntmps181
  go_wp2;refine bodyPost_ret (v:=.tuple #[.string ⟨#[]⟩,.int .i64 0,.int .i64 4]) (by simp [results,Tryz.results181,go_sem]) rfl ?_
  rw [ja F];exact⟨rfl,Below.refl _ _⟩
 ·have hp:0<s.size:=by omega
  have e0:=jfL s hp;have j0:(0:Int)<(s.size:Int):=by omega
  have e34:s[0]'hp=34↔(s[0]'hp).toNat=34:=Q1 (s[0]'hp) 34 (by decide);clear h0
  by_cases c:(s[0]'hp).toNat=34
  ·have hA:=jhQ hp (e34.2 c)
   have b34:(((s[0]'hp).toNat:Int) != 34)=false:=by rw [show((s[0]'hp).toNat:Int)=34 by omega];rfl
   have HA:=jd hA;have HT:=jd hT;have I0:Hid (Bld w.heap.size w.heap.size (enc []) (w.alloc (.cells #[.pointer none,.slice none 0 0] 149))):=jd (Lib.IsBuilderF.of (Lib.fresh_isBuilder 149 5 w));have B0:Hid (Below w.heap.size w (w.alloc (.cells #[.pointer none,.slice none 0 0] 149))):=jd ((Below.refl _ w).alloc (Nat.le_refl _) _);clear e34 c hA hT
   go_enter Tryz.func181,Tryz.ntmps181
   go_wp2_with fail
   go_loopw [6] (fun a wr=>∃(k f:Nat) (acc:List Int),a=.int .i64 (k:Int)/\1<=k/\k<=s.size/\s.size+1<=k+f/\Hid (At s.data.toList acc k f)/\Hid ((enc acc).length<=k)/\Hid (Bld w.heap.size w.heap.size (enc acc) wr)/\Hid (Below w.heap.size w wr)) (fun a _=>s.size - (intOf a).toNat)
   case atStart=>exact⟨1,s.size,[],rfl,by omega,by omega,by omega,HA,jd (by simp [enc]),I0,B0⟩
   case round=>
    obtain⟨k,f',acc,rfl,k1,ks,kf,hAt,hle,hI,hB⟩:=hrel;obtain⟨f,rfl⟩:∃f,f'=f+1:=⟨f' - 1,by omega⟩
    clear HA I0 B0;have hsz:=(ja hB).size
    by_cases ck:k<s.size
    ·have i1:(k:Int)<(s.size:Int):=by omega
     have s0:(0:Int)<=(k:Int):=by omega
     have s1:(k:Int)<=(s.size:Int):=by omega
     have e34:s[k]'ck=34↔(s[k]'ck).toNat=34:=Q1 (s[k]'ck) 34 (by decide)
     by_cases c:(s[k]'ck).toNat=34
     ·have F:Hid (R=.inr (acc,(k+1))):=jd (by rw [ja hR];exact jkn ck (ja hAt) (e34.2 c))
      have b34k:(((s[k]'ck).toNat:Int) != 34)=false:=by rw [show((s[k]'ck).toNat:Int)=34 by omega];rfl
      have ne1:((k:Int) == (s.size:Int))=false:=beq_false_of_ne (by omega);clear hR hAt e34 c
      go_wp2_with fail
      refine(jiI w.heap.size w.heap.size (enc acc) wr (ja hI) hsz).mono ?_
      rintro _ w2 ⟨rfl,b2⟩
      have B2:=jd ((ja hB).trans b2);clear b2 hB hI;go_wp2;refine bodyPost_ret (v:=.tuple #[.string ⟨(enc acc).toArray⟩,.int .i64 ((k+1:Nat):Int),.int .i64 0]) (by simp [results,Tryz.results181,go_sem]<;>omega) rfl ?_
      rw [ja F];exact⟨rfl,ja B2⟩
     ·have b34k:(((s[k]'ck).toNat:Int) != 34)=true:=by simp only [bne_iff_ne];omega
      have n34:s[k]'ck≠34:=fun h=>c (e34.1 h)
      have hxs:(s.extract k s.size).size=s.size - k:=by rw [ByteArray.size_extract];omega
      have K:=jgO wr (s.extract k s.size) (by rw [hxs];omega) (by rw [hxs];omega) (Utf8Tabs_below (ja HT) (ja hB)) (qa (s.data.toList.drop k)) (jd (by rw [qB]));have hne:s.data.toList.drop k≠[]:=by rw [Jb s k ck];simp
      cases hn:qa (s.data.toList.drop k) with
      | inl e=>
       have F:Hid (R=.inl e):=jd (by rw [ja hR];exact jie ck (ja hAt) n34 hn);have he:=jd1 hn;have ie:(e != 0)=true:=by simp only [bne_iff_ne];omega
       rw [hn] at K;simp only [jaw,Ym,jar] at K;have K:=jd K;clear hn hR hAt e34 c n34 hne he hI hxs
       go_wp2_with fail
       refine(ja K).mono ?_
       rintro _ w2 ⟨rfl,b2⟩
       have B2:=jd ((ja hB).trans (b2.mono hsz));clear b2 hB K;go_wp2;refine bodyPost_ret (v:=.tuple #[.string ⟨#[]⟩,.int .i64 0,.int .i64 e]) (by simp [results,Tryz.results181,go_sem]) rfl ?_
       rw [ja F];exact⟨rfl,ja B2⟩
      | inr p=>
       obtain⟨r,n⟩:=p;obtain⟨n1,n2,hsc,n4,_⟩:=Zd hne hn;rw [List.length_drop,jp] at n2;have A2:Hid (At s.data.toList (acc++[r]) (k+n) f):=jd (jjS ck (ja hAt) n34 hn);have L2:Hid ((enc (acc++[r])).length<=k+n):=jd (by rw [zS,jcz,List.length_append];have:=ja hle;omega);have E2:Hid (enc (acc++[r])=enc acc++Lib.encodeRune r):=jd (by rw [zS,jcz]);rw [hn] at K;simp only [jaw,Ym,jar] at K;have K:=jd K;have hlen:(enc acc).length<=1073741824:=by have:=ja hle;omega
       clear hn hAt e34 c n34 hne hxs n4 hle;generalize enc acc=X at *
       go_wp2_with fail
       refine(ja K).mono ?_
       rintro _ w2 ⟨rfl,b2⟩
       have I2:=jd ((ja hI).below b2);have B2:=jd ((ja hB).trans (b2.mono hsz));have s2:=b2.size;clear b2 hB hI K
       go_wp2_with fail
       refine(jcG w.heap.size w.heap.size X r hsc w2 (ja I2) (by omega) (by omega)).mono ?_
       rintro _ w3 ⟨⟨m,rfl⟩,i3,b3,_⟩
       have I3:=jd i3;have B3:=jd ((ja B2).trans b3);clear i3 b3 I2 B2;go_wp2;go_roundw
       case rel=>exact⟨k+n,f,acc++[r],by go_num,by omega,by omega,by omega,A2,L2,jd (by rw [ja E2];exact ja I3),B3⟩
       case measure=>simp [intOf];omega
    ·have F:Hid (R=.inl 4):=jd (by rw [ja hR];exact jkY (by omega) (ja hAt))
     have i1:¬(k:Int)<(s.size:Int):=by omega
     have t1:decide ((k:Int)<(s.size:Int))=false:=decide_eq_false i1;have eq1:((k:Int) == (s.size:Int))=true:=by rw [show(k:Int)=(s.size:Int) by omega];simp
     clear hR hAt hle hI;go_wp2;refine bodyPost_ret (v:=.tuple #[.string ⟨#[]⟩,.int .i64 0,.int .i64 4]) (by simp [results,Tryz.results181,go_sem]) rfl ?_
     rw [ja F];exact⟨rfl,ja hB⟩
  ·have F:Hid (R=.inl 4):=jd (by rw [ja hR];exact jbd (.inr ⟨hp,fun h=>c (e34.1 h)⟩))
   have b34:(((s[0]'hp).toNat:Int) != 34)=true:=by simp only [bne_iff_ne];omega
   clear hR hT e34 c
   go_enter Tryz.func181,Tryz.ntmps181
   go_wp2;refine bodyPost_ret (v:=.tuple #[.string ⟨#[]⟩,.int .i64 0,.int .i64 4]) (by simp [results,Tryz.results181,go_sem]) rfl ?_
   rw [ja F];exact⟨rfl,Below.refl _ _⟩
open Go.RowKit
open utfs
open bigs (hexc digB zi zd)
theorem YT {rs:List Int}(h:∀r∈rs,sc r=true):(jJ rs).length<=6*(enc rs).length+2:=by
 have:=jfS rs h;unfold jJ;simp only [List.length_cons,List.length_append,List.length_nil];omega
structure EscTabs (w:World):Prop where
 utf:Lib.Utf8Tabs 1 2 w
 bru:Lib.TabIs Tryz.prog w "math/bits.deBruijn64tab" .u8 zi
theorem EscTabs.below {w w':World}(h:EscTabs w)(hb:Below w.heap.size w w'):EscTabs w':=⟨Utf8Tabs_below h.utf hb,zd h.bru hb⟩
def Qu (l:List UInt8):List UInt8:=if 0<=bad l then [] else jJ (YS l)
def jk3 (l:List UInt8):Int:=if 0<=bad l then 3 else 0
theorem jgP (w:World)(s:ByteArray)(hs:s.size<=1073741824)(hT:EscTabs w) :
  Calls Tryz.prog 232 #[.string s] w fun e w'=>e=.returned (.tuple #[.string ⟨(Qu s.data.toList).toArray⟩,.int .i64 (jk3 s.data.toList)])/\Below w.heap.size w w':=by
 unfold Qu jk3
 by_cases h:0<=bad s.data.toList
 ·rw [if_pos h,if_pos h]
  exact jgI s w (by omega) hT.utf h
 ·rw [if_neg h,if_neg h]
  obtain⟨a,b⟩:=Q8 (l:=s.data.toList) (by omega);exact jfg s _ w hs hT.utf hT.bru a b
end escs
end Go.Proofs.YtnbfnjhbmeocfaaGreatDoor
