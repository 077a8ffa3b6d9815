/- Of our texts, what this claim reaches. -/
import Derived.Test.YtnbfnjhbmeocfaaGreatDoorPstAM
import Derived.Test.YtnbfnjhbmeocfaaGreatDoorPstAQ
import Derived.WalkSmall
import Derived.Test.YtnbfnjhbmeocfaaGreatDoorPstAK
import Derived.OwnWalk
set_option linter.unusedVariables false
set_option maxHeartbeats 2000000
set_option maxRecDepth 100000
namespace Go.Proofs.YtnbfnjhbmeocfaaGreatDoor
namespace escs
open Go.RowKit
open utfs
open bigs (digB zn QX Jr)
def Bld (B b:Nat)(l:List UInt8)(w:World):Prop:=Lib.IsBuilderF 149 5 B b (Lib.byteCells l) w
def Kept (b:Nat)(w w':World):Prop:=Lib.OthersKept 5 (some b) w w'
theorem Bld.below {B b:Nat}{l:List UInt8}{w w':World}(h:Bld B b l w)(hb:Below w.heap.size w w'):Bld B b l w':=by
 have at_:∀p,Lib.BuilderAtF 149 5 B b p (Lib.byteCells l) w->Lib.BuilderAtF 149 5 B b p (Lib.byteCells l) w':=fun p h=>by
  have hlt:=h.lt;obtain⟨hB,v,hv,hown,hne⟩:=h;exact⟨hB,v,(hb.block b hlt).trans hv,hown.kept (row:=none) ⟨hb.os,hb.tape,hb.output,hb.size,fun k hk _=>hb.block k hk⟩ (Classical.em _),hne⟩
 exact h.elim (fun x=>.inl (at_ _ x)) (fun x=>.inr (at_ _ x))
theorem Kept.below {b:Nat}{w w':World}(hb:Below w.heap.size w w'):Kept b w w':=fun k o hk _ _=>(hb.block k (Array.getElem?_eq_some_iff.1 hk).1).trans hk
theorem Kept.trans {b:Nat}{w1 w2 w3:World}(h1:Kept b w1 w2)(h2:Kept b w2 w3):Kept b w1 w3:=Lib.OthersKept.trans h1 h2
theorem jbn (B b:Nat)(l:List UInt8)(x:Int)(c:UInt8)(hx:x=(c.toNat:Int))(w:World)(h:Bld B b l w)(hl:l.length+1<=140737488355328)(hB:B<=w.heap.size) :
  Calls Tryz.prog 256 #[.pointer (some ⟨b,0,none⟩),.int .u8 x] w fun e w'=>e=.returned .nilIface/\Bld B b (l++[c]) w'/\Below B w w'/\Kept b w w':=by
 subst hx;refine(Tryz.Builder_WriteByte_k B b (Lib.byteCells l) _ w h (by rw [Lib.byteCells_length];exact hl) hB).mono ?_
 rintro e w' ⟨rfl,h1,h2,h3⟩
 refine⟨rfl,?_,h2,h3⟩;unfold Bld;rw [Lib.byteCells_append];exact .inr h1
theorem jcX (B b:Nat)(l m:List UInt8)(w:World)(h:Bld B b l w)(hl:l.length+m.length<=140737488355328)(hB:B<=w.heap.size) :
  Calls Tryz.prog 229 #[.pointer (some ⟨b,0,none⟩),.string ⟨m.toArray⟩] w fun e w'=>(∃n:Int,e=.returned (.tuple #[.int .i64 n,.nilIface]))/\Bld B b (l++m) w'/\Below B w w'/\Kept b w w':=by
 refine(Tryz.Builder_WriteString_k B b (Lib.byteCells l) ⟨m.toArray⟩ w h (by rw [Lib.byteCells_length];exact hl) hB).mono ?_
 rintro e w' ⟨rfl,h1,h2,h3⟩
 refine⟨⟨_,rfl⟩,?_,h2,h3⟩;unfold Bld;rw [Lib.byteCells_append];exact .inr h1
theorem jd6 (B b:Nat)(l:List UInt8)(r:Int)(hs:sc r=true)(w:World)(h:Bld B b l w)(hl:l.length+4<=140737488355328)(hB:B<=w.heap.size) :
  Calls Tryz.prog 221 #[.pointer (some ⟨b,0,none⟩),.int .i32 r] w fun e w'=>(∃n:Int,e=.returned (.tuple #[.int .i64 n,.nilIface]))/\Bld B b (l++Lib.encodeRune r) w'/\Below B w w'/\Kept b w w':=by
 have h0:=jQ hs;refine(Tryz.Builder_WriteRune_k B b (Lib.byteCells l) r (by omega) (by omega) w h (by rw [Lib.byteCells_length];exact hl) hB).mono ?_
 rintro e w' ⟨rfl,h1,h2,h3⟩
 refine⟨⟨_,rfl⟩,?_,h2,h3⟩;unfold Bld;rw [Lib.byteCells_append,Lib.byteCells_encodeRune];exact .inr h1
theorem jjX (B b:Nat)(l:List UInt8)(w:World)(h:Bld B b l w)(hB:B<=w.heap.size) :
  Calls Tryz.prog 86 #[.pointer (some ⟨b,0,none⟩)] w fun e w'=>e=.returned (.string ⟨l.toArray⟩)/\Below B w w':=by
 refine(Tryz.Builder_String_any_k B b l w h hB).mono ?_
 rintro e w' ⟨rfl,_,h2,_⟩
 exact⟨rfl,h2⟩
theorem jkx (w:World)(u:Nat)(hu:u<256)(ht:Lib.TabIs Tryz.prog w "math/bits.deBruijn64tab" .u8 zn) :
  Calls Tryz.prog 271 #[.int .i64 (u:Int),.int .i64 16] w fun e w'=>e=.returned (.string ⟨(digB 16 u).toArray⟩)/\Below w.heap.size w w':=by
 have K:=jb (QX w u (by omega) ht);clear ht;have i1:¬(u:Int)<0:=by omega
 go_enter Tryz.func271,Tryz.ntmps271
 go_wp2_with fail
 refine(ja K).mono ?_
 rintro e w' ⟨rfl,b1⟩
 have B:=jb b1;clear b1 K;go_wp2;go_ret;exact⟨rfl,ja B⟩
theorem jiP (w:World)(u:Nat)(hu:u<256)(ht:Lib.TabIs Tryz.prog w "math/bits.deBruijn64tab" .u8 zn) :
  Calls Tryz.prog 253 #[.int .i64 (u:Int),.int .i64 16] w fun e w'=>e=.returned (.string ⟨(digB 16 u).toArray⟩)/\Below w.heap.size w w':=by
 have K:=jb (jkx w u hu ht);clear ht
 go_enter Tryz.func253,Tryz.ntmps253
 go_wp2_with fail
 refine(ja K).mono ?_
 rintro e w' ⟨rfl,b1⟩
 have B:=jb b1;clear b1 K;go_wp2;go_ret;exact⟨rfl,ja B⟩
theorem jdt (a b:List UInt8)(h:a.length+b.length<=9223372036854775807)(u:World):(Op.stringOp .add ⟨a.toArray⟩ ⟨b.toArray⟩).run Tryz.prog u=.ok (.string ⟨(a++b).toArray⟩) u:=by
 rw [run_string_add_sum _ _ _ (by show a.toArray.size+b.toArray.size<=_;rw [List.size_toArray,List.size_toArray];exact h)]
 congr 2
theorem jjS (B b:Nat)(l:List UInt8)(r:Int)(hs:sc r=true)(w:World)(h:Bld B b l w)(hl:l.length+16<=140737488355328)(hB:B<=w.heap.size)(ht:Lib.TabIs Tryz.prog w "math/bits.deBruijn64tab" .u8 zn) :
  Calls Tryz.prog 257 #[.pointer (some ⟨b,0,none⟩),.int .i32 r] w fun e w'=>e=.returned (.tuple #[])/\Bld B b (l++qr r) w'/\Below B w w'/\Kept b w w':=by
 have h0:=jQ hs
 rcases Qr r hs with c | ⟨c,h34,h92,h10,h9,h13⟩ | ⟨c,h127,h34,h92⟩
 ·rcases c with rfl | rfl | rfl | rfl | rfl
  ·have K1:=jb (jbn B b l 92 92 rfl w h (by omega) hB)
   have e:Hid (l++qr 34=l++[92]++Lib.encodeRune 34):=jb (by rw [List.append_assoc];rfl);clear ht h
   go_enter Tryz.func257,Tryz.ntmps257
   go_wp2_with fail
   refine(ja K1).mono ?_
   rintro _ w1 ⟨rfl,b1,k1,o1⟩
   have K2:=jb (jd6 B b (l++[92]) 34 hs w1 b1 (by simp;omega) (Nat.le_trans hB k1.size))
   go_wp2_with fail
   refine(ja K2).mono ?_
   rintro _ w2 ⟨⟨n,rfl⟩,b2,k2,o2⟩
   go_wp2;go_end0;rw [ja e];exact⟨rfl,b2,k1.trans k2,o1.trans o2⟩
  ·have K1:=jb (jbn B b l 92 92 rfl w h (by omega) hB)
   have e:Hid (l++qr 92=l++[92]++Lib.encodeRune 92):=jb (by rw [List.append_assoc];rfl);clear ht h
   go_enter Tryz.func257,Tryz.ntmps257
   go_wp2_with fail
   refine(ja K1).mono ?_
   rintro _ w1 ⟨rfl,b1,k1,o1⟩
   have K2:=jb (jd6 B b (l++[92]) 92 hs w1 b1 (by simp;omega) (Nat.le_trans hB k1.size))
   go_wp2_with fail
   refine(ja K2).mono ?_
   rintro _ w2 ⟨⟨n,rfl⟩,b2,k2,o2⟩
   go_wp2;go_end0;rw [ja e];exact⟨rfl,b2,k1.trans k2,o1.trans o2⟩
  ·have K1:=jb (jcX B b l [92,110] w h (by simp;omega) hB)
   have e:Hid (l++qr 10=l++[92,110]):=jb rfl;clear ht h
   go_enter Tryz.func257,Tryz.ntmps257
   go_wp2_with fail
   refine(ja K1).mono ?_
   rintro _ w1 ⟨⟨n,rfl⟩,b1,k1,o1⟩
   go_wp2;go_end0;rw [ja e];exact⟨rfl,b1,k1,o1⟩
  ·have K1:=jb (jcX B b l [92,116] w h (by simp;omega) hB)
   have e:Hid (l++qr 9=l++[92,116]):=jb rfl;clear ht h
   go_enter Tryz.func257,Tryz.ntmps257
   go_wp2_with fail
   refine(ja K1).mono ?_
   rintro _ w1 ⟨⟨n,rfl⟩,b1,k1,o1⟩
   go_wp2;go_end0;rw [ja e];exact⟨rfl,b1,k1,o1⟩
  ·have K1:=jb (jcX B b l [92,114] w h (by simp;omega) hB)
   have e:Hid (l++qr 13=l++[92,114]):=jb rfl;clear ht h
   go_enter Tryz.func257,Tryz.ntmps257
   go_wp2_with fail
   refine(ja K1).mono ?_
   rintro _ w1 ⟨⟨n,rfl⟩,b1,k1,o1⟩
   go_wp2;go_end0;rw [ja e];exact⟨rfl,b1,k1,o1⟩
 ·obtain⟨u,rfl⟩:∃u:Nat,r=u:=⟨r.toNat,by omega⟩
  have hu:u<256:=by omega
  have KH:=jb (jiP w u hu ht);have e:Hid (l++qr (u:Int)=l++([92,117,123]++digB 16 u++[125])):=jb (by rw [Qn c h10 h9 h13];simp)
  have hd:(digB 16 u).length<=2:=by
   rcases Ze h0.1 c with ⟨d,_,_,eg⟩ | ⟨a,d,_,_,_,eg⟩<;>rw [Int.toNat_natCast] at eg<;>rw [eg]<;>simp
  generalize digB 16 u=D at *;have a1:=jdt [92,117,123] D (by simp;omega);have a2:=jdt ([92,117,123]++D) [125] (by simp;omega);have hm:([92,117,123]++D++[125]).length<=6:=by simp;omega
  generalize [92,117,123]++D++[125]=M at *;generalize [92,117,123]++D=M1 at *;have i34:((u:Int) == 34)=false:=beq_false_of_ne h34;have i92:((u:Int) == 92)=false:=beq_false_of_ne h92;have i10:((u:Int) == 10)=false:=beq_false_of_ne h10;have i9:((u:Int) == 9)=false:=beq_false_of_ne h9;have i13:((u:Int) == 13)=false:=beq_false_of_ne h13;have H:=jb h
  by_cases c1:(u:Int)<32
  ·clear h34 h92 h10 h9 h13 c ht h hs hd
   go_enter Tryz.func257,Tryz.ntmps257
   go_wp2_with fail
   refine(ja KH).mono ?_
   rintro _ w1 ⟨rfl,k1⟩
   have K2:=jb (jcX B b l M w1 ((ja H).below k1) (by omega) (Nat.le_trans hB k1.size))
   go_wp2_with fail
   refine(ja K2).mono ?_
   rintro _ w2 ⟨⟨n,rfl⟩,b2,k2,o2⟩
   go_wp2;go_end0;rw [ja e];exact⟨rfl,b2,(k1.mono hB).trans k2,(Kept.below k1).trans o2⟩
  ·have i127:((u:Int) == 127)=true:=by rw [show(u:Int)=127 by omega];rfl
   clear h34 h92 h10 h9 h13 c ht h hs hd
   go_enter Tryz.func257,Tryz.ntmps257
   go_wp2_with fail
   refine(ja KH).mono ?_
   rintro _ w1 ⟨rfl,k1⟩
   have K2:=jb (jcX B b l M w1 ((ja H).below k1) (by omega) (Nat.le_trans hB k1.size))
   go_wp2_with fail
   refine(ja K2).mono ?_
   rintro _ w2 ⟨⟨n,rfl⟩,b2,k2,o2⟩
   go_wp2;go_end0;rw [ja e];exact⟨rfl,b2,(k1.mono hB).trans k2,(Kept.below k1).trans o2⟩
 ·have K1:=jb (jd6 B b l r hs w h (by omega) hB)
  have e:Hid (l++qr r=l++Lib.encodeRune r):=jb (by rw [JN c h127 h34 h92]);have i34:(r == 34)=false:=beq_false_of_ne h34;have i92:(r == 92)=false:=beq_false_of_ne h92;have i10:(r == 10)=false:=beq_false_of_ne (by omega);have i9:(r == 9)=false:=beq_false_of_ne (by omega);have i13:(r == 13)=false:=beq_false_of_ne (by omega);have i127:(r == 127)=false:=beq_false_of_ne h127;have i32:¬r<32:=by omega
  clear ht h h34 h92 h127
  go_enter Tryz.func257,Tryz.ntmps257
  go_wp2_with fail
  refine(ja K1).mono ?_
  rintro _ w1 ⟨⟨n,rfl⟩,b1,k1,o1⟩
  go_wp2;go_end0;rw [ja e];exact⟨rfl,b1,k1,o1⟩
theorem jfH (s:ByteArray)(w:World)(hs:s.size<=9223372036854775807)(hT:Lib.Utf8Tabs 1 2 w)(hb:0<=bad s.data.toList) :
  Calls Tryz.prog 232 #[.string s] w fun e w'=>e=.returned (.tuple #[.string ⟨#[]⟩,.int .i64 3])/\Below w.heap.size w w':=by
 have K:=jb (Xw s w hs hT);clear hT;generalize bad s.data.toList=v at *
 go_enter Tryz.func232,Tryz.ntmps232
 go_wp2_with fail
 refine(ja K).mono ?_
 rintro _ w1 ⟨rfl,b1⟩
 clear K;go_wp2;go_ret2;exact⟨rfl,b1⟩
theorem jd1 {s:ByteArray}{rs acc:List Int}{pos:Nat}{r:Int}{rest:List Int}(hl:s.data.toList=enc rs)(hsc:∀q∈rs,sc q=true)(hr:rs=acc++r :: rest)(hp:pos=(enc acc).length) :
  pos<s.size/\Utf8.decode s pos=(r.toNat,(Lib.encodeRune r).length)/\sc r=true/\pos+(Lib.encodeRune r).length=(enc (acc++[r])).length:=by
 have hq:sc r=true:=hsc r (by rw [hr];simp);have h4:=jy r;have hd:=Lib.decodeL_drop s pos
 have he:s.data.toList.drop pos=Lib.encodeRune r++enc rest:=by
  rw [hl,hr,z8,qR,hp,List.drop_left' rfl]
 rw [he,J5 hq] at hd;have hlen:=congrArg List.length hl;rw [jm,hr,z8,qR,List.length_append,List.length_append] at hlen;refine⟨by omega,hd.symm,hq,?_⟩;rw [z8,jbq,List.length_append,hp]
theorem jd9 (s:ByteArray)(rs:List Int)(w:World)(hs:s.size<=1073741824)(hT:Lib.Utf8Tabs 1 2 w)(ht:Lib.TabIs Tryz.prog w "math/bits.deBruijn64tab" .u8 zn)(hl:s.data.toList=enc rs)(hsc:∀r∈rs,sc r=true) :
  Calls Tryz.prog 232 #[.string s] w fun e w'=>e=.returned (.tuple #[.string ⟨(jF rs).toArray⟩,.int .i64 0])/\Below w.heap.size w w':=by
 have K:=Xw s w (by omega) hT;rw [hl,jeG hsc] at K;have K:=jb K;have HL:=jb hl;have HSC:=jb hsc;have HT:=jb ht;clear hT ht hl hsc
 go_enter Tryz.func232,Tryz.ntmps232
 go_wp2_with fail
 refine(ja K).mono ?_
 rintro _ w1 ⟨rfl,b1⟩
 have B1:=jb b1;clear K;have I0:Hid (Bld w1.heap.size w1.heap.size [] (w1.alloc (.cells #[.pointer none,.slice none 0 0] 149))):=jb (Lib.IsBuilderF.of (Lib.fresh_isBuilder 149 5 w1))
 go_wp2_with fail
 refine(jbn w1.heap.size w1.heap.size [] 34 34 rfl _ (ja I0) (by simp) (by simp)).mono ?_
 rintro _ w2 ⟨rfl,i2,b2,o2⟩
 have b2':Below w1.heap.size w1 w2:=((Below.refl _ w1).alloc (Nat.le_refl _) _).trans b2;have lt2:w1.heap.size<w2.heap.size:=by have:=b2.size;simp at this;omega
 have I2:=jb i2;have B2:=jb b2';clear i2 b2 b2' o2 I0 b1;have hN:w.heap.size<=w1.heap.size:=(ja B1).size;generalize w1.heap.size=N at *;generalize hM:w2.heap.size=M at *
 go_wp2_with fail
 go_loopw [] (fun wr=>∃(acc rest:List Int) (pos:Nat),wr.heap[M]?=some (.stringIter s pos)/\Hid (rs=acc++rest)/\Hid (pos=(enc acc).length)/\Hid (Bld N N (34 :: qs acc) wr)/\Hid (Below N w1 wr)) (fun wr=>s.size - wr.iterPos M)
 case atStart=>
  refine⟨[],rs,0,?_,jb rfl,jb rfl,jb (Lib.IsBuilderF.alloc (ja I2) _),jb ((ja B2).alloc (by omega) _)⟩;rw [<-hM];have:=World.iter_heap w2 s 0;simpa using this
 case round=>
  obtain⟨acc,rest,pos,hit,hr,hp,hI,hB⟩:=hrel;have hsz:M<wr.heap.size:=(Array.getElem?_eq_some_iff.1 hit).1;cases rest with
  | nil=>
   have hps:¬pos<s.size:=by
    have h1:=congrArg List.length (ja HL);have h2:=ja hr;rw [List.append_nil] at h2;rw [jm,h2] at h1;have:=ja hp;omega
   have hnx:∀ty,(Instr.next (.pointer (some ⟨M,0,none⟩)) true ty).run Tryz.prog wr=_:=fun ty=>Lib.run_next_end_at wr M s pos ty hit hps
   have hlen:(34 :: qs acc).length<=6*s.size+1:=by
    have h2:=ja hr;rw [List.append_nil] at h2;have h3:=jeN rs (ja HSC);rw [<-ja HL,jm,h2] at h3;simp only [List.length_cons];omega
   have E:Hid (jF rs=34 :: qs acc++[34]):=jb (by
    have h2:=ja hr;rw [List.append_nil] at h2;rw [h2];rfl)
   clear hr hp hit hps;generalize 34 :: qs acc=L at *
   go_wp2_with fail
   refine(jbn N N L 34 34 rfl wr (ja hI) (by omega) (by omega)).mono ?_
   rintro _ w3 ⟨rfl,i3,b3,o3⟩
   have I3:=jb i3;have B3:=jb ((ja hB).trans b3);have s3:=b3.size;clear i3 b3 o3 hI hB
   go_wp2_with fail
   refine(jjX N N (L++[34]) w3 (ja I3) (by omega)).mono ?_
   rintro _ w4 ⟨rfl,b4⟩
   go_wp2;go_ret2;rw [ja E];exact⟨rfl,(ja B1).trans (((ja B3).trans b4).mono hN)⟩
  | cons r rest=>
   obtain⟨hps,hdec,hq,hnext⟩:=jd1 (ja HL) (ja HSC) (ja hr) (ja hp);have h0:=jQ hq;have h4:=jy r
   have hnx:∀ty,(Instr.next (.pointer (some ⟨M,0,none⟩)) true ty).run Tryz.prog wr=.ok (.tuple #[.bool true,.int .i64 (pos:Int),.int .i32 r]) (wr.iterAt M s (pos+(Lib.encodeRune r).length)):=fun ty=>by
    rw [Lib.run_next_any_at wr M s pos ty hit hps,hdec];simp only;rw [show((r.toNat:Nat):Int)=r by omega]
   have hlen:(34 :: qs acc).length<=6*s.size+1:=by
    have h2:=ja hr;have h3:=jeN acc (fun q hq=>ja HSC q (by rw [h2];exact List.mem_append_left _ hq));have:=ja hp;simp only [List.length_cons];omega
   have I2:Hid (Bld N N (34 :: qs acc) (wr.iterAt M s (pos+(Lib.encodeRune r).length))):=jb (Lib.IsBuilderF.iterAt (ja hI) hit _);have hit2:=Lib.iterAt_heap wr M s pos (pos+(Lib.encodeRune r).length) hit;have B3:=jb (Lib.below_iterAt (ja hB) (k:=M) (by omega) s (pos+(Lib.encodeRune r).length));have T2:=jb (Jr (ja HT) ((ja B1).trans ((ja B3).mono hN)));have hr2:Hid (rs=(acc++[r])++rest):=jb (by rw [ja hr];simp);have hn2:Hid (pos+(Lib.encodeRune r).length=(enc (acc++[r])).length):=jb hnext;have hq2:Hid (34 :: qs (acc++[r])=34 :: qs acc++qr r):=jb (by rw [jar,jht];rfl);have hsz2:N<=(wr.iterAt M s (pos+(Lib.encodeRune r).length)).heap.size:=by rw [Lib.iterAt_size];omega
   have hqp:Hid (wr.iterPos M=pos):=jb (by simp only [World.iterPos,hit]);clear hr hp hI hB hnext hdec hit;generalize 34 :: qs acc=L at *;generalize (Lib.encodeRune r).length=n at *
   go_wp2_with fail
   refine(jjS N N L r hq _ (ja I2) (by omega) hsz2 (ja T2)).mono ?_
   rintro _ w3 ⟨rfl,i3,b3,o3⟩
   have hit3:w3.heap[M]?=some (.stringIter s (pos+n)):=o3 M _ hit2 (by simp;omega) (by simp)
   have I3:=jb i3;have B4:=jb ((ja B3).trans b3);clear i3 b3 o3 I2 B3 T2;go_wp2;go_roundw
   case rel=>exact⟨acc++[r],rest,pos+n,hit3,hr2,hn2,jb (by rw [ja hq2];exact ja I3),B4⟩
   case measure=>
    have:=ja hqp;rw [this];simp only [World.iterPos,hit3];omega
end escs
namespace utfs
open Go.RowKit
theorem zq (n:Int)(w:World):Calls Tryz.prog 129 #[.int .i64 n] w fun e w'=>e=.returned (.bool (sc n))/\w'=w:=by
 have key:∀b:Bool,sc n=b->Calls Tryz.prog 129 #[.int .i64 n] w (fun e w'=>e=.returned (.bool b)/\w'=w)->Calls Tryz.prog 129 #[.int .i64 n] w (fun e w'=>e=.returned (.bool (sc n))/\w'=w):=fun b e h=>by rw [e];exact h
 by_cases h0:0<=n
 ·have t0:decide (0<=n)=true:=decide_eq_true h0
  by_cases h1:n<=1114111
  ·have t1:decide (n<=1114111)=true:=decide_eq_true h1
   by_cases h2:n<55296
   ·have t2:decide (n<55296)=true:=decide_eq_true h2
    refine key true (decide_eq_true (by omega)) ?_
    clear key
    go_enter Tryz.func129,Tryz.ntmps129
    go_wp2;go_ret;exact⟨rfl,rfl⟩
   ·have t2:decide (n<55296)=false:=decide_eq_false h2
    by_cases h3:57343<n
    ·refine key true (decide_eq_true (by omega)) ?_
     have t3:decide (57343<n)=true:=decide_eq_true h3;clear key
     go_enter Tryz.func129,Tryz.ntmps129
     go_wp2;go_ret;exact⟨rfl,rfl⟩
    ·refine key false (decide_eq_false (by omega)) ?_
     have t3:decide (57343<n)=false:=decide_eq_false h3;clear key
     go_enter Tryz.func129,Tryz.ntmps129
     go_wp2;go_ret;exact⟨rfl,rfl⟩
  ·have t1:decide (n<=1114111)=false:=decide_eq_false h1
   refine key false (decide_eq_false (by omega)) ?_
   clear key
   go_enter Tryz.func129,Tryz.ntmps129
   go_wp2;go_ret;exact⟨rfl,rfl⟩
 ·have t0:decide (0<=n)=false:=decide_eq_false h0
  refine key false (decide_eq_false (by omega)) ?_
  clear key
  go_enter Tryz.func129,Tryz.ntmps129
  go_wp2;go_ret;exact⟨rfl,rfl⟩
theorem jix (x:Int)(w:World):(convert 147 9 (.slice (some ⟨w.heap.size,0,none⟩) 1 1)).run Tryz.prog (w.alloc (.cells #[.int .u8 x] 5))=.ok (.string ⟨#[x.toNat.toUInt8]⟩) (w.alloc (.cells #[.int .u8 x] 5)):=by
 rw [run_convert_bytes_string _ 147 9 5 _ _ _ Tryz.underlying147 Tryz.underlying5 Tryz.underlying9]
 have hl:(loadCells ⟨w.heap.size,0,none⟩ 1).run Tryz.prog (w.alloc (.cells #[.int .u8 x] 5))=.ok (([x].map (Value.int .u8)).toArray) (w.alloc (.cells #[.int .u8 x] 5)) :=
  run_loadCells_list _ _ [.int .u8 x] (by intro j u hj;match j,hj with | 0,hj=>simp at hj;subst hj;simp [Addr.add])
 rw [run_bytesToString _ _ _ _ [x] hl];rfl
theorem zy (x:Int)(w:World)(h0:0<=x)(h1:x<=255):Calls Tryz.prog 153 #[.int .i64 x] w fun e w'=>e=.returned (.string ⟨#[x.toNat.toUInt8]⟩)/\Below w.heap.size w w':=by
 have hcv:=jix x w
 go_enter Tryz.func153,Tryz.ntmps153
 go_wp2;go_ret;exact⟨rfl,(Below.refl _ w).alloc (Nat.le_refl _) _⟩
theorem jbU {a b:ByteArray}(h:a=b):Ending.returned (.string a)=.returned (.string b):=by rw [h]
theorem two_bytes (a b:UInt8):(⟨#[a]⟩:ByteArray)++⟨#[b]⟩=⟨#[a,b]⟩:=by apply ByteArray.ext;rw [ByteArray.data_append];rfl
theorem ZY (a b c:UInt8):(⟨#[a]⟩:ByteArray)++⟨#[b]⟩++⟨#[c]⟩=⟨#[a,b,c]⟩:=by rw [two_bytes];apply ByteArray.ext;rw [ByteArray.data_append];rfl
theorem jdw (a b c d:UInt8):(⟨#[a]⟩:ByteArray)++⟨#[b]⟩++⟨#[c]⟩++⟨#[d]⟩=⟨#[a,b,c,d]⟩:=by rw [ZY];apply ByteArray.ext;rw [ByteArray.data_append];rfl
theorem jd8 (n:Int)(w:World)(hs:sc n=true):Calls Tryz.prog 93 #[.int .i64 n] w fun e w'=>e=.returned (.string ⟨(Lib.encodeRune n).toArray⟩)/\Below w.heap.size w w':=by
 have h:=jQ hs
 rcases qX hs with ⟨a,e⟩ | ⟨a,b,e⟩ | ⟨a,b,e⟩ | ⟨a,e⟩
 ·rw [e]
  clear e hs
  go_enter Tryz.func93,Tryz.ntmps93
  go_wp2_with fail
  refine(zy _ _ (by omega) (by omega)).mono ?_
  rintro e w1 ⟨rfl,b1⟩
  go_wp2_with fail
  go_ret;exact⟨rfl,b1⟩
 ·rw [e]
  clear e hs
  go_enter Tryz.func93,Tryz.ntmps93
  go_wp2_with fail
  refine(zy _ _ (by omega) (by omega)).mono ?_
  rintro e w1 ⟨rfl,b1⟩
  go_wp2_with fail
  refine(zy _ _ (by omega) (by omega)).mono ?_
  rintro e w2 ⟨rfl,b2⟩
  go_wp2_with fail
  go_ret;exact⟨jbU (two_bytes _ _),b1.trans (b2.mono b1.size)⟩
 ·rw [e]
  clear e hs
  go_enter Tryz.func93,Tryz.ntmps93
  go_wp2_with fail
  refine(zy _ _ (by omega) (by omega)).mono ?_
  rintro e w1 ⟨rfl,c1⟩
  have b1:=c1
  go_wp2_with fail
  refine(zy _ _ (by omega) (by omega)).mono ?_
  rintro e w2 ⟨rfl,c2⟩
  have b2:=b1.trans (c2.mono b1.size)
  go_wp2_with fail
  refine(zy _ _ (by omega) (by omega)).mono ?_
  rintro e w3 ⟨rfl,c3⟩
  have b3:=b2.trans (c3.mono b2.size)
  go_wp2_with fail
  go_ret;exact⟨jbU (ZY _ _ _),b3⟩
 ·rw [e]
  clear e hs
  go_enter Tryz.func93,Tryz.ntmps93
  go_wp2_with fail
  refine(zy _ _ (by omega) (by omega)).mono ?_
  rintro e w1 ⟨rfl,c1⟩
  have b1:=c1
  go_wp2_with fail
  refine(zy _ _ (by omega) (by omega)).mono ?_
  rintro e w2 ⟨rfl,c2⟩
  have b2:=b1.trans (c2.mono b1.size)
  go_wp2_with fail
  refine(zy _ _ (by omega) (by omega)).mono ?_
  rintro e w3 ⟨rfl,c3⟩
  have b3:=b2.trans (c3.mono b2.size)
  go_wp2_with fail
  refine(zy _ _ (by omega) (by omega)).mono ?_
  rintro e w4 ⟨rfl,c4⟩
  have b4:=b3.trans (c4.mono b3.size)
  go_wp2_with fail
  go_ret;exact⟨jbU (jdw _ _ _ _),b4⟩
open Go.RowKit
theorem zY {l:List UInt8}(h0:l≠[])(h:Lib.decodeL l=(65533,1)):jP l = -1/\jZ l=1:=by
 have hb:Jn l=true:=decide_eq_true (by rw [h];exact⟨rfl,rfl⟩);exact⟨by simp [jP,h0,hb],by simp [jZ,h0,h]⟩
theorem JM {l:List UInt8}{v:Int}{n:Nat}(h0:l≠[])(h:Lib.decodeL l=(v.toNat,n))(hv:0<=v)(hn:n=1->v<128):jP l=v/\jZ l=n:=by
 have hb:Jn l=false:=decide_eq_false (by rw [h];simp only;omega);refine⟨?_,by simp [jZ,h0,h]⟩;simp only [jP,h0,if_false,hb];rw [h];simp only [Bool.false_eq_true,if_false];omega
def byt (l:List UInt8)(i:Nat):Nat:=(l.getD i 0).toNat
theorem JQ (l:List UInt8)(i:Nat):byt l i<256:=UInt8.toNat_lt _
theorem Jj (l:List UInt8):Lib.decodeL l=Lib.decodeN l.length (byt l 0) (byt l 1) (byt l 2) (byt l 3):=Lib.decodeL_N l
def val (l:List UInt8)(lead:Int):Nat->Int
 | 0=>0
 | 1=>(byt l 0:Int) - lead
 | k+2=>val l lead (k+1)*64+(byt l (k+1):Int) - 128
def qQ (l:List UInt8)(j:Nat):Prop:=128<=byt l j/\byt l j<192
theorem jeU (l:List UInt8)(a:Int):val l a 2=(((byt l 0:Nat):Int) - a)*64+(byt l 1:Int) - 128:=rfl
theorem Y9 (l:List UInt8)(a:Int):val l a 3=((((byt l 0:Nat):Int) - a)*64+(byt l 1:Int) - 128)*64+(byt l 2:Int) - 128:=rfl
theorem jcL (l:List UInt8)(a:Int):val l a 4=(((((byt l 0:Nat):Int) - a)*64+(byt l 1:Int) - 128)*64+(byt l 2:Int) - 128)*64+(byt l 3:Int) - 128:=rfl
theorem jjW (l:List UInt8)(h0:l≠[])(h:byt l 0<128):jP l=(byt l 0:Int)/\jZ l=1:=by
 refine JM h0 ?_ (by omega) (fun _=>by omega)
 rw [Jj];unfold Lib.decodeN;rw [if_pos h];simp
theorem jib (l:List UInt8)(h0:l≠[])(h:(128<=byt l 0/\byt l 0<192)\/248<=byt l 0):jP l = -1/\jZ l=1:=by
 have hb:=JQ l 0;refine zY h0 ?_
 rw [Jj];unfold Lib.decodeN;rw [if_neg (by omega),if_neg (by omega),if_neg (by omega),if_neg (by omega)]
theorem YB (l:List UInt8)(h0:l≠[])(h:192<=byt l 0/\byt l 0<224)(hx:l.length<2\/¬qQ l 1):jP l = -1/\jZ l=1:=by
 have hb:=JQ l 1;unfold qQ at hx;refine zY h0 ?_
 rw [Jj];unfold Lib.decodeN;rw [if_neg (by omega),if_neg (by omega),if_neg (by omega),if_neg (by omega)]
theorem XM (l:List UInt8)(h0:l≠[])(h:224<=byt l 0/\byt l 0<240)(hx:l.length<3\/¬qQ l 1\/¬qQ l 2):jP l = -1/\jZ l=1:=by
 have hb:=JQ l 1;have hb2:=JQ l 2;unfold qQ at hx;refine zY h0 ?_
 rw [Jj];unfold Lib.decodeN;rw [if_neg (by omega),if_neg (by omega),if_neg (by omega),if_neg (by omega)]
theorem Ye (l:List UInt8)(h0:l≠[])(h:240<=byt l 0/\byt l 0<248)(hx:l.length<4\/¬qQ l 1\/¬qQ l 2\/¬qQ l 3):jP l = -1/\jZ l=1:=by
 have hb:=JQ l 1;have hb2:=JQ l 2;have hb3:=JQ l 3;unfold qQ at hx;refine zY h0 ?_
 rw [Jj];unfold Lib.decodeN;rw [if_neg (by omega),if_neg (by omega),if_neg (by omega),if_neg (by omega)]
theorem jj0 (l:List UInt8)(h0:l≠[])(h:192<=byt l 0/\byt l 0<224)(hl:2<=l.length)(c1:qQ l 1) :
  (128<=val l 192 2/\sc (val l 192 2)=true->jP l=val l 192 2/\jZ l=2)/\((val l 192 2<128\/sc (val l 192 2)=false)->jP l = -1/\jZ l=1):=by
 unfold qQ at c1;rw [jeU];refine⟨fun⟨a,b⟩=>?_,fun a=>?_⟩
 ·have s:=jQ b
  refine JM h0 ?_ (by omega) (fun h=>by cases h)
  rw [Jj];unfold Lib.decodeN;rw [if_neg (by omega),if_pos (by omega),if_pos (by omega)];apply Prod.ext<;>simp only<;>omega
 ·refine zY h0 ?_
  have s:((((byt l 0:Nat):Int) - 192)*64+(byt l 1:Int) - 128)<128:=by
   rcases a with a | a
   ·exact a
   ·have:=Yo a;omega
  rw [Jj];unfold Lib.decodeN;rw [if_neg (by omega),if_pos (by omega),if_neg (by omega)]
theorem jjF (l:List UInt8)(h0:l≠[])(h:224<=byt l 0/\byt l 0<240)(hl:3<=l.length)(c1:qQ l 1)(c2:qQ l 2) :
  (2048<=val l 224 3/\sc (val l 224 3)=true->jP l=val l 224 3/\jZ l=3)/\((val l 224 3<2048\/sc (val l 224 3)=false)->jP l = -1/\jZ l=1):=by
 unfold qQ at c1 c2;rw [Y9];refine⟨fun⟨a,b⟩=>?_,fun a=>?_⟩
 ·have s:=jQ b
  refine JM h0 ?_ (by omega) (fun h=>by cases h)
  rw [Jj];unfold Lib.decodeN;rw [if_neg (by omega),if_neg (by omega),if_pos (by omega),if_pos (by omega)];apply Prod.ext<;>simp only<;>omega
 ·refine zY h0 ?_
  have s:(((((byt l 0:Nat):Int) - 224)*64+(byt l 1:Int) - 128)*64+(byt l 2:Int) - 128)<2048\/(55296<=(((((byt l 0:Nat):Int) - 224)*64+(byt l 1:Int) - 128)*64+(byt l 2:Int) - 128)/\(((((byt l 0:Nat):Int) - 224)*64+(byt l 1:Int) - 128)*64+(byt l 2:Int) - 128)<=57343):=by
   rcases a with a | a
   ·exact .inl a
   ·have:=Yo a;omega
  rw [Jj];unfold Lib.decodeN;rw [if_neg (by omega),if_neg (by omega),if_pos (by omega),if_neg (by omega)]
theorem jjZ (l:List UInt8)(h0:l≠[])(h:240<=byt l 0/\byt l 0<248)(hl:4<=l.length)(c1:qQ l 1)(c2:qQ l 2)(c3:qQ l 3) :
  (65536<=val l 240 4/\sc (val l 240 4)=true->jP l=val l 240 4/\jZ l=4)/\((val l 240 4<65536\/sc (val l 240 4)=false)->jP l = -1/\jZ l=1):=by
 unfold qQ at c1 c2 c3;rw [jcL];refine⟨fun⟨a,b⟩=>?_,fun a=>?_⟩
 ·have s:=jQ b
  refine JM h0 ?_ (by omega) (fun h=>by cases h)
  rw [Jj];unfold Lib.decodeN;rw [if_neg (by omega),if_neg (by omega),if_neg (by omega),if_pos (by omega),if_pos (by omega)];apply Prod.ext<;>simp only<;>omega
 ·refine zY h0 ?_
  have s:((((((byt l 0:Nat):Int) - 240)*64+(byt l 1:Int) - 128)*64+(byt l 2:Int) - 128)*64+(byt l 3:Int) - 128)<65536\/1114111<((((((byt l 0:Nat):Int) - 240)*64+(byt l 1:Int) - 128)*64+(byt l 2:Int) - 128)*64+(byt l 3:Int) - 128):=by
   rcases a with a | a
   ·exact .inl a
   ·have:=Yo a;omega
  rw [Jj];unfold Lib.decodeN;rw [if_neg (by omega),if_neg (by omega),if_neg (by omega),if_pos (by omega),if_neg (by omega)]
theorem JT (s:ByteArray)(i:Nat)(h:i<s.size):byt s.data.toList i=(s[i]'h).toNat:=by
 unfold byt
 have:s.data.toList.getD i 0=s[i]'h:=by
  have h':i<s.data.toList.length:=by rw [jm];exact h
  rw [List.getD_eq_getElem?_getD,List.getElem?_eq_getElem h'];simp;rfl
 rw [this]
theorem zS (s:ByteArray)(h:0<s.size):s.toList.isEmpty=false:=by
 rw [ByteArray.toList_eq,List.isEmpty_eq_false_iff];intro e;have:=congrArg List.length e;rw [jm] at this;simp only [List.length_nil] at this;omega
theorem jgX (s:ByteArray)(h:s.size=0):s.toList.isEmpty=true:=by
 rw [ByteArray.toList_eq,List.isEmpty_iff];apply List.eq_nil_of_length_eq_zero
 rw [jm];exact h
theorem XC (s:ByteArray)(h:0<s.size):s.data.toList≠[]:=by
 intro e;have:=congrArg List.length e;rw [jm] at this;simp only [List.length_nil] at this;omega
theorem XS (l:List UInt8)(a:Int)(k:Nat)(hk:1<=k):val l a (k+1)=val l a k*64+(byt l k:Int) - 128:=by
 obtain⟨m,rfl⟩:∃m,k=m+1:=⟨k - 1,by omega⟩
 rfl
theorem ZW (l:List UInt8)(a:Int)(h0:a<=(byt l 0:Int))(h1:(byt l 0:Int)<a+32):∀k,1<=k->k<=4->(∀j,1<=j->j<k->qQ l j)->0<=val l a k/\val l a k<=8388607:=by
 intro k hk h4 hc;have v1:val l a 1=(byt l 0:Int) - a:=rfl
 match k,hk,h4,hc with
 | 1,_,_,_=>rw [v1];omega
 | 2,_,_,hc=>have c1:=hc 1 (by omega) (by omega);unfold qQ at c1;rw [jeU];omega
 | 3,_,_,hc=>have c1:=hc 1 (by omega) (by omega);have c2:=hc 2 (by omega) (by omega);unfold qQ at c1 c2;rw [Y9];omega
 | 4,_,_,hc=>have c1:=hc 1 (by omega) (by omega);have c2:=hc 2 (by omega) (by omega);have c3:=hc 3 (by omega) (by omega);unfold qQ at c1 c2 c3;rw [jcL];omega
theorem jid (s:ByteArray)(w:World)(hs:s.size<=9223372036854775807)(h0:0<s.size)(hb:byt s.data.toList 0<128) :
  Calls Tryz.prog 128 #[.string s] w fun e w'=>e=.returned (.tuple #[.int .i32 (byt s.data.toList 0),.int .i64 1])/\Below w.heap.size w w':=by
 have h255:=JQ s.data.toList 0;rw [JT s 0 h0] at *;have hne:s.toList.isEmpty=false:=zS s h0
 go_enter Tryz.func128,Tryz.ntmps128
 go_wp2
 go_region
 go_wp2;go_ret2;exact⟨rfl,(Below.refl _ w).drew⟩
theorem jcv (s:ByteArray)(w:World)(hs:s.size<=9223372036854775807)(h0:0<s.size)(hb:128<=byt s.data.toList 0/\byt s.data.toList 0<192) :
  Calls Tryz.prog 128 #[.string s] w fun e w'=>e=.returned (.tuple #[.int .i32 (-1),.int .i64 1])/\Below w.heap.size w w':=by
 have h255:=JQ s.data.toList 0;rw [JT s 0 h0] at *;have hne:s.toList.isEmpty=false:=zS s h0
 go_enter Tryz.func128,Tryz.ntmps128
 go_wp2
 go_region
 go_wp2;go_ret2;exact⟨rfl,(Below.refl _ w).drew⟩
theorem jbJ (s:ByteArray)(w:World)(hs:s.size<=9223372036854775807)(h0:0<s.size)(hb:248<=byt s.data.toList 0) :
  Calls Tryz.prog 128 #[.string s] w fun e w'=>e=.returned (.tuple #[.int .i32 (-1),.int .i64 1])/\Below w.heap.size w w':=by
 have h255:=JQ s.data.toList 0;rw [JT s 0 h0] at *;have hne:s.toList.isEmpty=false:=zS s h0
 go_enter Tryz.func128,Tryz.ntmps128
 go_wp2
 go_region
 go_wp2;go_ret2;exact⟨rfl,(Below.refl _ w).drew⟩
theorem jdE (s:ByteArray)(w:World)(h0:s.size=0) :
  Calls Tryz.prog 128 #[.string s] w fun e w'=>e=.returned (.tuple #[.int .i32 (-1),.int .i64 0])/\Below w.heap.size w w':=by
 have hne:s.toList.isEmpty=true:=jgX s h0;clear h0
 go_enter Tryz.func128,Tryz.ntmps128
 go_wp2;go_ret2;exact⟨rfl,Below.refl _ w⟩
open Go.RowKit
theorem jjI {P:Nat->Prop}{k:Nat}(h1:1<=k)(h2:k<3)(h:¬P k):¬P 1\/¬P 2:=by
 rcases(show k=1\/k=2 by omega) with e | e
 ·subst e;exact .inl h
 ·subst e;exact .inr h
theorem jgR {P:Nat->Prop}{k:Nat}(h1:1<=k)(h2:k<4)(h:¬P k):¬P 1\/¬P 2\/¬P 3:=by
 rcases(show k=1\/k=2\/k=3 by omega) with e | e | e
 ·subst e;exact .inl h
 ·subst e;exact .inr (.inl h)
 ·subst e;exact .inr (.inr h)
theorem jjU (s:ByteArray)(w:World)(hs:s.size<=9223372036854775807)(h0:0<s.size)(hb:192<=byt s.data.toList 0/\byt s.data.toList 0<224) :
  Calls Tryz.prog 128 #[.string s] w fun e w'=>e=.returned (.tuple #[.int .i32 (jP s.data.toList),.int .i64 (jZ s.data.toList)])/\Below w.heap.size w w':=by
 have hl:=XC s h0;have hne:s.toList.isEmpty=false:=zS s h0;have g0:=JT s 0 h0;have b0:192<=s[0].toNat/\s[0].toNat<224:=by rw [<-g0];exact hb
 have G0:=jb g0;have HB:=jb hb;have HLN:=jb (jm s);clear g0 hb
 by_cases hlen:s.size<2
 ·have hbad:=YB s.data.toList hl HB.out (.inl (by rw [jm];omega))
  rw [hbad.1,hbad.2];clear hbad hl
  go_enter Tryz.func128,Tryz.ntmps128
  go_wp2
  go_region
  go_wp2;go_ret2;exact⟨rfl,(Below.refl _ w).drew⟩
 ·have ta128:decide ((s[0].toNat:Int)<128)=false:=decide_eq_false (by omega)
  have tb192:decide (192<=(s[0].toNat:Int))=true:=decide_eq_true (by omega);have ta224:decide ((s[0].toNat:Int)<224)=true:=decide_eq_true (by omega)
  go_enter Tryz.func128,Tryz.ntmps128
  go_wp2
  go_region
  go_wp2
  go_loopw [6,7] (fun r i wr=>∃k:Nat,Below w.heap.size w wr/\1<=k/\k<=2/\i=.int .i64 k/\r=.int .i64 (val s.data.toList 192 k)/\Hid (∀j,1<=j->j<k->qQ s.data.toList j)) (fun _ i _=>2 - (intOf i).toNat)
  case atStart=>
   refine⟨1,(Below.refl _ w).drew,by omega,by omega,rfl,?_,fun j h1 h2=>by omega⟩;have v1:val s.data.toList 192 1=(byt s.data.toList 0:Int) - 192:=rfl;rw [v1,G0.out]
  case round=>
   obtain⟨k,hbw,hk1,hk2,rfl,rfl,hcon⟩:=hrel;have hvb:=ZW s.data.toList 192 (by have:=HB.out;omega) (by have:=HB.out;omega) k hk1 (by omega) hcon.out;have hvs:=jb (XS s.data.toList 192 k hk1)
   by_cases hlt:k<2
   ·have hks:k<s.size:=by omega
    have gk:=JT s k hks;have hk255:=JQ s.data.toList k;have GK:=jb gk
    by_cases hct:qQ s.data.toList k
    ·have hct':128<=s[k].toNat/\s[k].toNat<192:=by rw [<-GK.out];exact hct
     have hcon2:Hid (∀j,1<=j->j<k+1->qQ s.data.toList j):=fun j h1 h2=>by
      by_cases e:j=k
      ·subst e;exact hct
      ·exact hcon.out j h1 (by omega)
     clear hct gk;generalize val s.data.toList 192 k=v at *;go_wp2;go_roundw
     case rel=>exact⟨k+1,hbw,by omega,by omega,by go_num,by rw [hvs.out,GK.out],hcon2⟩
     case measure=>simp [intOf];omega
    ·have hbad:=YB s.data.toList hl HB.out (.inr (by rwa [show k=1 by omega] at hct))
     have hct':s[k].toNat<128\/192<=s[k].toNat:=by
      have:¬(128<=byt s.data.toList k/\byt s.data.toList k<192):=hct;rw [GK.out] at this;omega
     have HBAD:=jb hbad;clear hct gk hbad;generalize val s.data.toList 192 k=v at *
     rcases hct' with hct' | hct'
     ·go_wp2
      go_ret2;rw [HBAD.out.1,HBAD.out.2];exact⟨rfl,hbw⟩
     ·go_wp2
      go_ret2;rw [HBAD.out.1,HBAD.out.2];exact⟨rfl,hbw⟩
   ·obtain rfl:k=2:=by omega
    have hc:=hcon.out;obtain⟨q1,q2⟩:=jj0 s.data.toList hl HB.out (by rw [jm];omega) (hc 1 (by omega) (by omega));clear hc hvs;generalize val s.data.toList 192 2=v at *
    by_cases hle:v<128
    ·have hbad:=jb (q2 (.inl hle))
     clear q1 q2;go_wp2;go_ret2;rw [hbad.out.1,hbad.out.2];exact⟨rfl,hbw⟩
    ·cases hsc:sc v with
     | true=>
      have hgood:=jb (q1 ⟨by omega,hsc⟩);have hsv:=jQ hsc;have hc:=zq v wr;rw [hsc] at hc;have HC:=jb hc;clear q1 q2 hc hsc
      go_wp2_with fail
      refine(ja HC).mono ?_
      rintro e w1 ⟨rfl,rfl⟩
      go_wp2_with fail
      go_ret2;rw [hgood.out.1,hgood.out.2];exact⟨rfl,hbw⟩
     | false=>
      have hbad:=jb (q2 (.inr hsc));have hc:=zq v wr;rw [hsc] at hc;have HC:=jb hc;clear q1 q2 hc hsc
      go_wp2_with fail
      refine(ja HC).mono ?_
      rintro e w1 ⟨rfl,rfl⟩
      go_wp2_with fail
      go_ret2;rw [hbad.out.1,hbad.out.2];exact⟨rfl,hbw⟩
theorem jjA (s:ByteArray)(w:World)(hs:s.size<=9223372036854775807)(h0:0<s.size)(hb:224<=byt s.data.toList 0/\byt s.data.toList 0<240) :
  Calls Tryz.prog 128 #[.string s] w fun e w'=>e=.returned (.tuple #[.int .i32 (jP s.data.toList),.int .i64 (jZ s.data.toList)])/\Below w.heap.size w w':=by
 have hl:=XC s h0;have hne:s.toList.isEmpty=false:=zS s h0;have g0:=JT s 0 h0;have b0:224<=s[0].toNat/\s[0].toNat<240:=by rw [<-g0];exact hb
 have G0:=jb g0;have HB:=jb hb;have HLN:=jb (jm s);clear g0 hb
 by_cases hlen:s.size<3
 ·have hbad:=XM s.data.toList hl HB.out (.inl (by rw [jm];omega))
  rw [hbad.1,hbad.2];clear hbad hl
  go_enter Tryz.func128,Tryz.ntmps128
  go_wp2
  go_region
  go_wp2;go_ret2;exact⟨rfl,(Below.refl _ w).drew⟩
 ·have ta128:decide ((s[0].toNat:Int)<128)=false:=decide_eq_false (by omega)
  have tb192:decide (192<=(s[0].toNat:Int))=true:=decide_eq_true (by omega);have ta224:decide ((s[0].toNat:Int)<224)=false:=decide_eq_false (by omega);have tb224:decide (224<=(s[0].toNat:Int))=true:=decide_eq_true (by omega);have ta240:decide ((s[0].toNat:Int)<240)=true:=decide_eq_true (by omega)
  go_enter Tryz.func128,Tryz.ntmps128
  go_wp2
  go_region
  go_wp2
  go_loopw [6,7] (fun r i wr=>∃k:Nat,Below w.heap.size w wr/\1<=k/\k<=3/\i=.int .i64 k/\r=.int .i64 (val s.data.toList 224 k)/\Hid (∀j,1<=j->j<k->qQ s.data.toList j)) (fun _ i _=>3 - (intOf i).toNat)
  case atStart=>
   refine⟨1,(Below.refl _ w).drew,by omega,by omega,rfl,?_,fun j h1 h2=>by omega⟩;have v1:val s.data.toList 224 1=(byt s.data.toList 0:Int) - 224:=rfl;rw [v1,G0.out]
  case round=>
   obtain⟨k,hbw,hk1,hk2,rfl,rfl,hcon⟩:=hrel;have hvb:=ZW s.data.toList 224 (by have:=HB.out;omega) (by have:=HB.out;omega) k hk1 (by omega) hcon.out;have hvs:=jb (XS s.data.toList 224 k hk1)
   by_cases hlt:k<3
   ·have hks:k<s.size:=by omega
    have gk:=JT s k hks;have hk255:=JQ s.data.toList k;have GK:=jb gk
    by_cases hct:qQ s.data.toList k
    ·have hct':128<=s[k].toNat/\s[k].toNat<192:=by rw [<-GK.out];exact hct
     have hcon2:Hid (∀j,1<=j->j<k+1->qQ s.data.toList j):=fun j h1 h2=>by
      by_cases e:j=k
      ·subst e;exact hct
      ·exact hcon.out j h1 (by omega)
     clear hct gk;generalize val s.data.toList 224 k=v at *;go_wp2;go_roundw
     case rel=>exact⟨k+1,hbw,by omega,by omega,by go_num,by rw [hvs.out,GK.out],hcon2⟩
     case measure=>simp [intOf];omega
    ·have hbad:=XM s.data.toList hl HB.out (.inr (jjI hk1 hlt hct))
     have hct':s[k].toNat<128\/192<=s[k].toNat:=by
      have:¬(128<=byt s.data.toList k/\byt s.data.toList k<192):=hct;rw [GK.out] at this;omega
     have HBAD:=jb hbad;clear hct gk hbad;generalize val s.data.toList 224 k=v at *
     rcases hct' with hct' | hct'
     ·go_wp2
      go_ret2;rw [HBAD.out.1,HBAD.out.2];exact⟨rfl,hbw⟩
     ·go_wp2
      go_ret2;rw [HBAD.out.1,HBAD.out.2];exact⟨rfl,hbw⟩
   ·obtain rfl:k=3:=by omega
    have hc:=hcon.out;obtain⟨q1,q2⟩:=jjF s.data.toList hl HB.out (by rw [jm];omega) (hc 1 (by omega) (by omega)) (hc 2 (by omega) (by omega));clear hc hvs;generalize val s.data.toList 224 3=v at *
    by_cases hle:v<2048
    ·have hbad:=jb (q2 (.inl hle))
     clear q1 q2;go_wp2;go_ret2;rw [hbad.out.1,hbad.out.2];exact⟨rfl,hbw⟩
    ·cases hsc:sc v with
     | true=>
      have hgood:=jb (q1 ⟨by omega,hsc⟩);have hsv:=jQ hsc;have hc:=zq v wr;rw [hsc] at hc;have HC:=jb hc;clear q1 q2 hc hsc
      go_wp2_with fail
      refine(ja HC).mono ?_
      rintro e w1 ⟨rfl,rfl⟩
      go_wp2_with fail
      go_ret2;rw [hgood.out.1,hgood.out.2];exact⟨rfl,hbw⟩
     | false=>
      have hbad:=jb (q2 (.inr hsc));have hc:=zq v wr;rw [hsc] at hc;have HC:=jb hc;clear q1 q2 hc hsc
      go_wp2_with fail
      refine(ja HC).mono ?_
      rintro e w1 ⟨rfl,rfl⟩
      go_wp2_with fail
      go_ret2;rw [hbad.out.1,hbad.out.2];exact⟨rfl,hbw⟩
theorem jjC (s:ByteArray)(w:World)(hs:s.size<=9223372036854775807)(h0:0<s.size)(hb:240<=byt s.data.toList 0/\byt s.data.toList 0<248) :
  Calls Tryz.prog 128 #[.string s] w fun e w'=>e=.returned (.tuple #[.int .i32 (jP s.data.toList),.int .i64 (jZ s.data.toList)])/\Below w.heap.size w w':=by
 have hl:=XC s h0;have hne:s.toList.isEmpty=false:=zS s h0;have g0:=JT s 0 h0;have b0:240<=s[0].toNat/\s[0].toNat<248:=by rw [<-g0];exact hb
 have G0:=jb g0;have HB:=jb hb;have HLN:=jb (jm s);clear g0 hb
 by_cases hlen:s.size<4
 ·have hbad:=Ye s.data.toList hl HB.out (.inl (by rw [jm];omega))
  rw [hbad.1,hbad.2];clear hbad hl
  go_enter Tryz.func128,Tryz.ntmps128
  go_wp2
  go_region
  go_wp2;go_ret2;exact⟨rfl,(Below.refl _ w).drew⟩
 ·have ta128:decide ((s[0].toNat:Int)<128)=false:=decide_eq_false (by omega)
  have tb192:decide (192<=(s[0].toNat:Int))=true:=decide_eq_true (by omega);have ta224:decide ((s[0].toNat:Int)<224)=false:=decide_eq_false (by omega);have tb224:decide (224<=(s[0].toNat:Int))=true:=decide_eq_true (by omega);have ta240:decide ((s[0].toNat:Int)<240)=false:=decide_eq_false (by omega);have tb240:decide (240<=(s[0].toNat:Int))=true:=decide_eq_true (by omega);have ta248:decide ((s[0].toNat:Int)<248)=true:=decide_eq_true (by omega)
  go_enter Tryz.func128,Tryz.ntmps128
  go_wp2
  go_region
  go_wp2
  go_loopw [6,7] (fun r i wr=>∃k:Nat,Below w.heap.size w wr/\1<=k/\k<=4/\i=.int .i64 k/\r=.int .i64 (val s.data.toList 240 k)/\Hid (∀j,1<=j->j<k->qQ s.data.toList j)) (fun _ i _=>4 - (intOf i).toNat)
  case atStart=>
   refine⟨1,(Below.refl _ w).drew,by omega,by omega,rfl,?_,fun j h1 h2=>by omega⟩;have v1:val s.data.toList 240 1=(byt s.data.toList 0:Int) - 240:=rfl;rw [v1,G0.out]
  case round=>
   obtain⟨k,hbw,hk1,hk2,rfl,rfl,hcon⟩:=hrel;have hvb:=ZW s.data.toList 240 (by have:=HB.out;omega) (by have:=HB.out;omega) k hk1 (by omega) hcon.out;have hvs:=jb (XS s.data.toList 240 k hk1)
   by_cases hlt:k<4
   ·have hks:k<s.size:=by omega
    have gk:=JT s k hks;have hk255:=JQ s.data.toList k;have GK:=jb gk
    by_cases hct:qQ s.data.toList k
    ·have hct':128<=s[k].toNat/\s[k].toNat<192:=by rw [<-GK.out];exact hct
     have hcon2:Hid (∀j,1<=j->j<k+1->qQ s.data.toList j):=fun j h1 h2=>by
      by_cases e:j=k
      ·subst e;exact hct
      ·exact hcon.out j h1 (by omega)
     clear hct gk;generalize val s.data.toList 240 k=v at *;go_wp2;go_roundw
     case rel=>exact⟨k+1,hbw,by omega,by omega,by go_num,by rw [hvs.out,GK.out],hcon2⟩
     case measure=>simp [intOf];omega
    ·have hbad:=Ye s.data.toList hl HB.out (.inr (jgR hk1 hlt hct))
     have hct':s[k].toNat<128\/192<=s[k].toNat:=by
      have:¬(128<=byt s.data.toList k/\byt s.data.toList k<192):=hct;rw [GK.out] at this;omega
     have HBAD:=jb hbad;clear hct gk hbad;generalize val s.data.toList 240 k=v at *
     rcases hct' with hct' | hct'
     ·go_wp2
      go_ret2;rw [HBAD.out.1,HBAD.out.2];exact⟨rfl,hbw⟩
     ·go_wp2
      go_ret2;rw [HBAD.out.1,HBAD.out.2];exact⟨rfl,hbw⟩
   ·obtain rfl:k=4:=by omega
    have hc:=hcon.out;obtain⟨q1,q2⟩:=jjZ s.data.toList hl HB.out (by rw [jm];omega) (hc 1 (by omega) (by omega)) (hc 2 (by omega) (by omega)) (hc 3 (by omega) (by omega));clear hc hvs;generalize val s.data.toList 240 4=v at *
    by_cases hle:v<65536
    ·have hbad:=jb (q2 (.inl hle))
     clear q1 q2;go_wp2;go_ret2;rw [hbad.out.1,hbad.out.2];exact⟨rfl,hbw⟩
    ·cases hsc:sc v with
     | true=>
      have hgood:=jb (q1 ⟨by omega,hsc⟩);have hsv:=jQ hsc;have hc:=zq v wr;rw [hsc] at hc;have HC:=jb hc;clear q1 q2 hc hsc
      go_wp2_with fail
      refine(ja HC).mono ?_
      rintro e w1 ⟨rfl,rfl⟩
      go_wp2_with fail
      go_ret2;rw [hgood.out.1,hgood.out.2];exact⟨rfl,hbw⟩
     | false=>
      have hbad:=jb (q2 (.inr hsc));have hc:=zq v wr;rw [hsc] at hc;have HC:=jb hc;clear q1 q2 hc hsc
      go_wp2_with fail
      refine(ja HC).mono ?_
      rintro e w1 ⟨rfl,rfl⟩
      go_wp2_with fail
      go_ret2;rw [hbad.out.1,hbad.out.2];exact⟨rfl,hbw⟩
theorem jcH (s:ByteArray)(w:World)(hs:s.size<=9223372036854775807) :
  Calls Tryz.prog 128 #[.string s] w fun e w'=>e=.returned (.tuple #[.int .i32 (jP s.data.toList),.int .i64 (jZ s.data.toList)])/\Below w.heap.size w w':=by
 by_cases h0:0<s.size
 ·have hl:=XC s h0
  by_cases h1:byt s.data.toList 0<128
  ·have h:=jid s w hs h0 h1
   obtain⟨e1,e2⟩:=jjW s.data.toList hl h1;rw [e1,e2];exact h
  ·by_cases h2:byt s.data.toList 0<192
   ·have h:=jcv s w hs h0 ⟨by omega,h2⟩
    obtain⟨e1,e2⟩:=jib s.data.toList hl (.inl ⟨by omega,h2⟩);rw [e1,e2];exact h
   ·by_cases h3:byt s.data.toList 0<224
    ·exact jjU s w hs h0 ⟨by omega,h3⟩
    ·by_cases h4:byt s.data.toList 0<240
     ·exact jjA s w hs h0 ⟨by omega,h4⟩
     ·by_cases h5:byt s.data.toList 0<248
      ·exact jjC s w hs h0 ⟨by omega,h5⟩
      ·have h:=jbJ s w hs h0 (by omega)
       obtain⟨e1,e2⟩:=jib s.data.toList hl (.inr (by omega));rw [e1,e2];exact h
 ·have hz:s.size=0:=by omega
  have h:=jdE s w hz;have e:s.data.toList=[]:=List.eq_nil_of_length_eq_zero (by rw [jm];exact hz);have e1:jP s.data.toList = -1:=by simp [jP,e]
  have e2:jZ s.data.toList=0:=by simp [jZ,e]
  rw [e1,e2];exact h
open Go.RowKit
theorem jjN:(Tryz.prog.info? 21).map (fun i=>(i.zero,i.size,i.bytes))=some (some (.int .i32 0),1,4):=by kernel_rfl
def jjs (w:World)(a:Option Addr)(l:List Int):Prop :=
 0<l.length->∃b o,a=some ⟨b,o,none⟩/\b<w.heap.size/\∀j,j<l.length->w.cell? ⟨b,o+j,none⟩=some (.int .i32 (l.getD j 0))
theorem jgA {w:World}{base:Nat}{v:Value}{l:List Int}(h:w.ownsRow base 21 1 v l.length (l.map (Value.int .i32))) :
  ∃a cap,v=.slice a l.length cap/\jjs w a l/\l.length<=cap:=by
 have h':=h
 rcases h.2 with ⟨rfl,h0⟩ | ⟨g,cap,cur,rfl,_,hg,hcap,_⟩
 ·have:l=[]:=List.eq_nil_of_length_eq_zero h0
  subst this;exact⟨none,0,rfl,fun h=>absurd h (by simp),by simp⟩
 ·refine⟨_,cap,rfl,fun _=>⟨g,0,rfl,(Array.getElem?_eq_some_iff.1 hg).1,fun j hj=>?_⟩,hcap⟩
  rw [Nat.zero_add,h'.cellAt j (by omega)];simp [List.getD,List.getElem?_eq_getElem hj]
theorem jje {w:World}{base e n:Nat}{v:Value}{xs:List Value}(h:w.ownsRow base e 1 v n xs):∀g,v.ownBlock=some g->base<=g:=by
 intro g hg
 rcases h.2 with ⟨rfl,_⟩ | ⟨g',cap,cur,rfl,hb,_⟩
 ·simp [Value.ownBlock] at hg
 ·simp only [Value.ownBlock,Option.some.injEq] at hg
  omega
open Go.RowKit
theorem jg8 {l:List UInt8}(h:l≠[]):(Lib.decodeL l).2<=l.length:=by
 rcases XF l h with ⟨e,_⟩ | ⟨r,rest,hs,hl,e⟩
 ·rw [e]
  cases l with
  | nil=>exact absurd rfl h
  | cons a b=>simp
 ·rw [e,hl,List.length_append];simp only;omega
theorem jgr {l:List UInt8}(h:l≠[]):jZ l=(Lib.decodeL l).2:=by simp [jZ,h]
theorem jiD (s:ByteArray)(pos:Nat)(hp:pos<s.size):s.data.toList.drop pos≠[]:=by
 intro e;have:=congrArg List.length e;rw [List.length_drop,jm] at this;simp only [List.length_nil] at this;omega
theorem ZB (s:ByteArray)(w:World)(hs:s.size<=140737488355328) :
  Calls Tryz.prog 88 #[.string s] w fun e w'=>e=.returned (.int .i64 (bad s.data.toList))/\Below w.heap.size w w':=by
 go_enter Tryz.func88,Tryz.ntmps88
 go_wp2
 go_loopw [3] (fun i wr=>∃(pos fuel:Nat),i=.int .i64 pos/\pos<=s.size/\Below w.heap.size w wr/\Hid (QO fuel pos (s.data.toList.drop pos)=bad s.data.toList)/\s.size<=pos+fuel) (fun i _=>s.size - (intOf i).toNat)
 case atStart=>exact⟨0,s.size,rfl,Nat.zero_le _,Below.refl _ _,rfl,by omega⟩
 case round=>
  obtain⟨pos,fuel,rfl,hle,hbw,hacc,hfu⟩:=hrel
  by_cases hp:pos<s.size
  ·have hl:=jiD s pos hp
   have hwl:=jg8 hl;rw [List.length_drop,jm] at hwl;have hwd:=X6 (s.data.toList.drop pos);obtain⟨f,rfl⟩:∃f,fuel=f+1:=⟨fuel - 1,by omega⟩
   have hc:=jcH (s.extract pos s.size) wr (by rw [ByteArray.size_extract];omega);rw [JL,jgr hl] at hc;have hneg:=ja5 hl
   have hstep:QO (f+1) pos (s.data.toList.drop pos)=if Jn (s.data.toList.drop pos)=true then (pos:Int) else QO f (pos+(Lib.decodeL (s.data.toList.drop pos)).2) (s.data.toList.drop (pos+(Lib.decodeL (s.data.toList.drop pos)).2)):=by
    simp only [QO];rw [if_neg hl,List.drop_drop]
   have h2:=hacc.out;rw [hstep] at h2;have HA:=jb h2;have HC:=jb hc;clear hc h2 hstep hacc;generalize jP (s.data.toList.drop pos)=r at *;generalize (Lib.decodeL (s.data.toList.drop pos)).2=n at *;cases hbb:Jn (s.data.toList.drop pos) with
   | true=>
    rw [hbb] at HA hneg;rw [if_pos rfl] at HA;have hr:r<0:=hneg.2 rfl;clear hbb hneg
    go_wp2_with fail
    refine(ja HC).mono ?_
    rintro e w1 ⟨rfl,b1⟩
    go_wp2_with fail
    go_ret;rw [<-HA.out];exact⟨rfl,hbw.trans (b1.mono hbw.size)⟩
   | false=>
    rw [hbb] at HA hneg;rw [if_neg (by simp)] at HA;have hr:¬r<0:=fun h=>by have:=hneg.1 h;cases this
    clear hbb hneg
    go_wp2_with fail
    refine(ja HC).mono ?_
    rintro e w1 ⟨rfl,b1⟩
    go_wp2_with fail
    go_roundw
    case rel=>exact⟨pos+n,f,by go_num,by omega,hbw.trans (b1.mono hbw.size),HA,by omega⟩
    case measure=>simp [intOf];omega
  ·have hl:s.data.toList.drop pos=[]:=List.drop_of_length_le (by rw [jm];omega)
   have h2:=hacc.out;rw [hl,Yb] at h2;have HA:=jb h2;clear h2 hl hacc;go_wp2;go_ret;rw [<-HA.out];exact⟨rfl,hbw⟩
theorem jb1 {r:Int}(hs:sc r=true)(rest:List UInt8):jP (Lib.encodeRune r++rest)=r/\jZ (Lib.encodeRune r++rest)=(Lib.encodeRune r).length:=by
 have h:=jQ hs;refine JM (jeA r rest) (J5 hs rest) h.1 (fun h1=>?_)
 rcases qX hs with ⟨a,e⟩ | ⟨a,b,e⟩ | ⟨a,b,e⟩ | ⟨a,e⟩
 ·omega
 ·rw [e] at h1;simp at h1
 ·rw [e] at h1;simp at h1
 ·rw [e] at h1;simp at h1
def jhm:Value->Nat
 | .string s=>s.size
 | _=>0
theorem jd2 {w w':World}{base:Nat}{e:TypeId}{v:Value}{n:Nat}{xs:List Value}(h:w.ownsRow base e 1 v n xs)(hb:Below w.heap.size w w'):w'.ownsRow base e 1 v n xs:=by
 refine⟨h.1,?_⟩
 rcases h.2 with h2 | ⟨g,cap,cur,e1,e2,hg,e3⟩
 ·exact .inl h2
 ·exact .inr ⟨g,cap,cur,e1,e2,by rw [hb.block g (Array.getElem?_eq_some_iff.1 hg).1];exact hg,e3⟩
theorem jcd (s:ByteArray)(rs:List Int)(w:World)(hs:s.size<=1073741824)(hl:s.data.toList=enc rs)(hsc:∀r∈rs,sc r=true) :
  Calls Tryz.prog 92 #[.string s] w fun e w'=>∃a cap,e=.returned (.slice a rs.length cap)/\jjs w' a rs/\rs.length<=cap/\Below w.heap.size w w':=by
 obtain⟨i0,hi,hz0,hz1,hz2⟩:=info_parts jjN;have HSC:=jb hsc;have HL:=jb hl;clear hsc hl
 go_enter Tryz.func92,Tryz.ntmps92
 go_wp2
 go_loopw [0,3] (fun sv v wr=>∃(t:ByteArray) (acc rest:List Int),sv=.string t/\Hid (t.data.toList=enc rest)/\Hid (acc++rest=rs)/\wr.ownsRow w.heap.size 21 1 v acc.length (acc.map (Value.int .i32))/\Below w.heap.size w wr/\acc.length+t.size<=s.size) (fun sv _ _=>jhm sv)
 case atStart=>
  exact⟨s,[],rs,rfl,HL,rfl,World.ownsRow_nil _ _ _ _,Below.refl _ _,by simp⟩
 case round=>
  obtain⟨t,acc,rest,rfl,ht,hacc,hown,hbw,hal⟩:=hrel
  by_cases hp:0<t.size
  ·cases rest with
   | nil=>
    have h1:=congrArg List.length ht.out;rw [jm] at h1;simp only [jik,List.length_nil] at h1;omega
   | cons r rest=>
    have hr:sc r=true:=HSC.out r (by rw [<-hacc.out];simp);have hrb:=jQ hr;have ht':=ht.out;rw [qR] at ht';have h4:=jy r;have hlen:(Lib.encodeRune r).length+(enc rest).length=t.size:=by rw [<-jm,ht',List.length_append]
    have hc:=jcH t wr (by omega);rw [ht',(jb1 hr _).1,(jb1 hr _).2] at hc
    have htd:Hid ((t.extract (Lib.encodeRune r).length t.size).data.toList=enc rest):=by
     show(t.extract (Lib.encodeRune r).length t.size).data.toList=enc rest
     rw [JL,ht',Yc]
    have hts:(t.extract (Lib.encodeRune r).length t.size).size=t.size - (Lib.encodeRune r).length:=by rw [ByteArray.size_extract];omega
    have HTS:=jb hts;have HC:=jb hc;have hacc':Hid ((acc++[r])++rest=rs):=by show(acc++[r])++rest=rs;rw [<-hacc.out];simp
    clear hc hts ht' ht hacc;generalize (Lib.encodeRune r).length=n at *
    go_wp2_with fail
    refine(ja HC).mono ?_
    rintro e w1 ⟨rfl,b1⟩
    have hown1:=jd2 hown b1;have hbw1:=hbw.trans (b1.mono hbw.size)
    go_wp2_with (at_builtin;refine wpList_append_own _ rfl _ _ 160 rfl w.heap.size 21 i0 (.int .i32 0) 1 4 Tryz.underlying160 hi hz0 hz1 hz2 rfl (by decide) _ _ _ rfl (hown1.alloc _) ⟨w1.heap.size,0,none⟩ 1 1 [.int .i32 r] rfl rfl ?c1 ?c2 ?c3 ?c4 ?c5 ?_)
    case c1=>
     intro j u hj
     match j,hj with
     | 0,hj=>simp at hj;subst hj;simp [Addr.add]
    case c2=>intro u hu;simp at hu;subst hu;rfl
    case c3=>unfold maxLen;omega
    case c4=>omega
    case c5=>have:=hbw1.size;simp;omega
    intro v' w2 hown' hgrow _;have hge:=jje hown1;have hbw3:Below w.heap.size w w2:=(hbw1.alloc hbw1.size _).grown hgrow (by have:=hbw1.size;simp;omega) (fun k hk=>hge k hk);clear hgrow hge hown hown1;go_wp2;go_roundw
    case rel=>
     refine⟨_,acc++[r],rest,rfl,htd,hacc',?_,hbw3,?_⟩
     ·simpa using hown'
     ·rw [HTS.out];simp;omega
    case measure=>
     simp only [jhm];rw [HTS.out];omega
  ·have hr:rest=[]:=by
    cases rest with
    | nil=>rfl
    | cons r rest=>
     have h1:=congrArg List.length ht.out;rw [jm,qR,List.length_append] at h1;have:=jy r;omega
   have h2:=hacc.out;rw [hr,List.append_nil] at h2;rw [h2] at hown;obtain⟨a,cap,rfl,hE,hcap⟩:=jgA hown;clear h2 hr hacc ht hown;go_wp2;go_ret;exact⟨a,cap,rfl,hE,hcap,hbw⟩
end utfs
end Go.Proofs.YtnbfnjhbmeocfaaGreatDoor
