/- Of our texts, what this claim reaches. -/
import Derived.Test.YticcibefchffmaaDoorPprAN
import Derived.Test.YticcibefchffmaaDoorPprAO
import Derived.WalkSmall
set_option linter.unusedVariables false
set_option maxHeartbeats 2000000
set_option maxRecDepth 100000
namespace Go.Proofs.YticcibefchffmaaDoor
namespace escs
open Go.RowKit
open utfs
open bigs (digB jv jY jD)
def Bld (B b:Nat)(l:List UInt8)(w:World):Prop:=Lib.IsBuilderF 60 5 B b (Lib.byteCells l) w
def Kept (b:Nat)(w w':World):Prop:=Lib.OthersKept 5 (some b) w w'
theorem Bld.below {B b:Nat}{l:List UInt8}{w w':World}(h:Bld B b l w)(hb:Below w.heap.size w w'):Bld B b l w':=by
 have at_:∀p,Lib.BuilderAtF 60 5 B b p (Lib.byteCells l) w->Lib.BuilderAtF 60 5 B b p (Lib.byteCells l) w':=fun p h=>by
  have hlt:=h.lt;obtain⟨hB,v,hv,hown,hne⟩:=h;exact⟨hB,v,(hb.block b hlt).trans hv,hown.kept (row:=none) ⟨hb.os,hb.tape,hb.output,hb.size,fun k hk _=>hb.block k hk⟩ (Classical.em _),hne⟩
 exact h.elim (fun x=>.inl (at_ _ x)) (fun x=>.inr (at_ _ x))
theorem Kept.below {b:Nat}{w w':World}(hb:Below w.heap.size w w'):Kept b w w':=fun k o hk _ _=>(hb.block k (Array.getElem?_eq_some_iff.1 hk).1).trans hk
theorem Kept.trans {b:Nat}{w1 w2 w3:World}(h1:Kept b w1 w2)(h2:Kept b w2 w3):Kept b w1 w3:=Lib.OthersKept.trans h1 h2
theorem zl (B b:Nat)(l:List UInt8)(x:Int)(c:UInt8)(hx:x=(c.toNat:Int))(w:World)(h:Bld B b l w)(hl:l.length+1<=140737488355328)(hB:B<=w.heap.size) :
  Calls Tryd.prog 89 #[.pointer (some ⟨b,0,none⟩),.int .u8 x] w fun e w'=>e=.returned .nilIface/\Bld B b (l++[c]) w'/\Below B w w'/\Kept b w w':=by
 subst hx;refine(Tryd.Builder_WriteByte_k B b (Lib.byteCells l) _ w h (by rw [Lib.byteCells_length];exact hl) hB).mono ?_
 rintro e w' ⟨rfl,h1,h2,h3⟩
 refine⟨rfl,?_,h2,h3⟩;unfold Bld;rw [Lib.byteCells_append];exact .inr h1
theorem qa (B b:Nat)(l m:List UInt8)(w:World)(h:Bld B b l w)(hl:l.length+m.length<=140737488355328)(hB:B<=w.heap.size) :
  Calls Tryd.prog 29 #[.pointer (some ⟨b,0,none⟩),.string ⟨m.toArray⟩] w fun e w'=>(∃n:Int,e=.returned (.tuple #[.int .i64 n,.nilIface]))/\Bld B b (l++m) w'/\Below B w w'/\Kept b w w':=by
 refine(Tryd.Builder_WriteString_k B b (Lib.byteCells l) ⟨m.toArray⟩ w h (by rw [Lib.byteCells_length];exact hl) hB).mono ?_
 rintro e w' ⟨rfl,h1,h2,h3⟩
 refine⟨⟨_,rfl⟩,?_,h2,h3⟩;unfold Bld;rw [Lib.byteCells_append];exact .inr h1
theorem zQ (B b:Nat)(l:List UInt8)(r:Int)(hs:sc r=true)(w:World)(h:Bld B b l w)(hl:l.length+4<=140737488355328)(hB:B<=w.heap.size) :
  Calls Tryd.prog 101 #[.pointer (some ⟨b,0,none⟩),.int .i32 r] w fun e w'=>(∃n:Int,e=.returned (.tuple #[.int .i64 n,.nilIface]))/\Bld B b (l++Lib.encodeRune r) w'/\Below B w w'/\Kept b w w':=by
 have h0:=js hs;refine(Tryd.Builder_WriteRune_k B b (Lib.byteCells l) r (by omega) (by omega) w h (by rw [Lib.byteCells_length];exact hl) hB).mono ?_
 rintro e w' ⟨rfl,h1,h2,h3⟩
 refine⟨⟨_,rfl⟩,?_,h2,h3⟩;unfold Bld;rw [Lib.byteCells_append,Lib.byteCells_encodeRune];exact .inr h1
theorem JS (B b:Nat)(l:List UInt8)(w:World)(h:Bld B b l w)(hB:B<=w.heap.size) :
  Calls Tryd.prog 31 #[.pointer (some ⟨b,0,none⟩)] w fun e w'=>e=.returned (.string ⟨l.toArray⟩)/\Below B w w':=by
 refine(Tryd.Builder_String_any_k B b l w h hB).mono ?_
 rintro e w' ⟨rfl,_,h2,_⟩
 exact⟨rfl,h2⟩
theorem Q1 (w:World)(u:Nat)(hu:u<256)(ht:Lib.TabIs Tryd.prog w "math/bits.deBruijn64tab" .u8 jv) :
  Calls Tryd.prog 91 #[.int .i64 (u:Int),.int .i64 16] w fun e w'=>e=.returned (.string ⟨(digB 16 u).toArray⟩)/\Below w.heap.size w w':=by
 have K:=ja (jY w u (by omega) ht);clear ht;have i1:¬(u:Int)<0:=by omega
 go_enter Tryd.func91,Tryd.ntmps91
 go_wp2_with fail
 refine(jb K).mono ?_
 rintro e w' ⟨rfl,b1⟩
 have B:=ja b1;clear b1 K;go_wp2;go_ret;exact⟨rfl,jb B⟩
theorem QD (w:World)(u:Nat)(hu:u<256)(ht:Lib.TabIs Tryd.prog w "math/bits.deBruijn64tab" .u8 jv) :
  Calls Tryd.prog 72 #[.int .i64 (u:Int),.int .i64 16] w fun e w'=>e=.returned (.string ⟨(digB 16 u).toArray⟩)/\Below w.heap.size w w':=by
 have K:=ja (Q1 w u hu ht);clear ht
 go_enter Tryd.func72,Tryd.ntmps72
 go_wp2_with fail
 refine(jb K).mono ?_
 rintro e w' ⟨rfl,b1⟩
 have B:=ja b1;clear b1 K;go_wp2;go_ret;exact⟨rfl,jb B⟩
theorem Jo (a b:List UInt8)(h:a.length+b.length<=9223372036854775807)(u:World):(Op.stringOp .add ⟨a.toArray⟩ ⟨b.toArray⟩).run Tryd.prog u=.ok (.string ⟨(a++b).toArray⟩) u:=by
 rw [run_string_add_sum _ _ _ (by show a.toArray.size+b.toArray.size<=_;rw [List.size_toArray,List.size_toArray];exact h)]
 congr 2
theorem QN (B b:Nat)(l:List UInt8)(r:Int)(hs:sc r=true)(w:World)(h:Bld B b l w)(hl:l.length+16<=140737488355328)(hB:B<=w.heap.size)(ht:Lib.TabIs Tryd.prog w "math/bits.deBruijn64tab" .u8 jv) :
  Calls Tryd.prog 90 #[.pointer (some ⟨b,0,none⟩),.int .i32 r] w fun e w'=>e=.returned (.tuple #[])/\Bld B b (l++qr r) w'/\Below B w w'/\Kept b w w':=by
 have h0:=js hs
 rcases zt r hs with c | ⟨c,h34,h92,h10,h9,h13⟩ | ⟨c,h127,h34,h92⟩
 ·rcases c with rfl | rfl | rfl | rfl | rfl
  ·have K1:=ja (zl B b l 92 92 rfl w h (by omega) hB)
   have e:Hid (l++qr 34=l++[92]++Lib.encodeRune 34):=ja (by rw [List.append_assoc];rfl);clear ht h
   go_enter Tryd.func90,Tryd.ntmps90
   go_wp2_with fail
   refine(jb K1).mono ?_
   rintro _ w1 ⟨rfl,b1,k1,o1⟩
   have K2:=ja (zQ B b (l++[92]) 34 hs w1 b1 (by simp;omega) (Nat.le_trans hB k1.size))
   go_wp2_with fail
   refine(jb K2).mono ?_
   rintro _ w2 ⟨⟨n,rfl⟩,b2,k2,o2⟩
   go_wp2;go_end0;rw [jb e];exact⟨rfl,b2,k1.trans k2,o1.trans o2⟩
  ·have K1:=ja (zl B b l 92 92 rfl w h (by omega) hB)
   have e:Hid (l++qr 92=l++[92]++Lib.encodeRune 92):=ja (by rw [List.append_assoc];rfl);clear ht h
   go_enter Tryd.func90,Tryd.ntmps90
   go_wp2_with fail
   refine(jb K1).mono ?_
   rintro _ w1 ⟨rfl,b1,k1,o1⟩
   have K2:=ja (zQ B b (l++[92]) 92 hs w1 b1 (by simp;omega) (Nat.le_trans hB k1.size))
   go_wp2_with fail
   refine(jb K2).mono ?_
   rintro _ w2 ⟨⟨n,rfl⟩,b2,k2,o2⟩
   go_wp2;go_end0;rw [jb e];exact⟨rfl,b2,k1.trans k2,o1.trans o2⟩
  ·have K1:=ja (qa B b l [92,110] w h (by simp;omega) hB)
   have e:Hid (l++qr 10=l++[92,110]):=ja rfl;clear ht h
   go_enter Tryd.func90,Tryd.ntmps90
   go_wp2_with fail
   refine(jb K1).mono ?_
   rintro _ w1 ⟨⟨n,rfl⟩,b1,k1,o1⟩
   go_wp2;go_end0;rw [jb e];exact⟨rfl,b1,k1,o1⟩
  ·have K1:=ja (qa B b l [92,116] w h (by simp;omega) hB)
   have e:Hid (l++qr 9=l++[92,116]):=ja rfl;clear ht h
   go_enter Tryd.func90,Tryd.ntmps90
   go_wp2_with fail
   refine(jb K1).mono ?_
   rintro _ w1 ⟨⟨n,rfl⟩,b1,k1,o1⟩
   go_wp2;go_end0;rw [jb e];exact⟨rfl,b1,k1,o1⟩
  ·have K1:=ja (qa B b l [92,114] w h (by simp;omega) hB)
   have e:Hid (l++qr 13=l++[92,114]):=ja rfl;clear ht h
   go_enter Tryd.func90,Tryd.ntmps90
   go_wp2_with fail
   refine(jb K1).mono ?_
   rintro _ w1 ⟨⟨n,rfl⟩,b1,k1,o1⟩
   go_wp2;go_end0;rw [jb e];exact⟨rfl,b1,k1,o1⟩
 ·obtain⟨u,rfl⟩:∃u:Nat,r=u:=⟨r.toNat,by omega⟩
  have hu:u<256:=by omega
  have KH:=ja (QD w u hu ht);have e:Hid (l++qr (u:Int)=l++([92,117,123]++digB 16 u++[125])):=ja (by rw [JX c h10 h9 h13];simp)
  have hd:(digB 16 u).length<=2:=by
   rcases Jf h0.1 c with ⟨d,_,_,eg⟩ | ⟨a,d,_,_,_,eg⟩<;>rw [Int.toNat_natCast] at eg<;>rw [eg]<;>simp
  generalize digB 16 u=D at *;have a1:=Jo [92,117,123] D (by simp;omega);have a2:=Jo ([92,117,123]++D) [125] (by simp;omega);have hm:([92,117,123]++D++[125]).length<=6:=by simp;omega
  generalize [92,117,123]++D++[125]=M at *;generalize [92,117,123]++D=M1 at *;have i34:((u:Int) == 34)=false:=beq_false_of_ne h34;have i92:((u:Int) == 92)=false:=beq_false_of_ne h92;have i10:((u:Int) == 10)=false:=beq_false_of_ne h10;have i9:((u:Int) == 9)=false:=beq_false_of_ne h9;have i13:((u:Int) == 13)=false:=beq_false_of_ne h13;have H:=ja h
  by_cases c1:(u:Int)<32
  ·clear h34 h92 h10 h9 h13 c ht h hs hd
   go_enter Tryd.func90,Tryd.ntmps90
   go_wp2_with fail
   refine(jb KH).mono ?_
   rintro _ w1 ⟨rfl,k1⟩
   have K2:=ja (qa B b l M w1 ((jb H).below k1) (by omega) (Nat.le_trans hB k1.size))
   go_wp2_with fail
   refine(jb K2).mono ?_
   rintro _ w2 ⟨⟨n,rfl⟩,b2,k2,o2⟩
   go_wp2;go_end0;rw [jb e];exact⟨rfl,b2,(k1.mono hB).trans k2,(Kept.below k1).trans o2⟩
  ·have i127:((u:Int) == 127)=true:=by rw [show(u:Int)=127 by omega];rfl
   clear h34 h92 h10 h9 h13 c ht h hs hd
   go_enter Tryd.func90,Tryd.ntmps90
   go_wp2_with fail
   refine(jb KH).mono ?_
   rintro _ w1 ⟨rfl,k1⟩
   have K2:=ja (qa B b l M w1 ((jb H).below k1) (by omega) (Nat.le_trans hB k1.size))
   go_wp2_with fail
   refine(jb K2).mono ?_
   rintro _ w2 ⟨⟨n,rfl⟩,b2,k2,o2⟩
   go_wp2;go_end0;rw [jb e];exact⟨rfl,b2,(k1.mono hB).trans k2,(Kept.below k1).trans o2⟩
 ·have K1:=ja (zQ B b l r hs w h (by omega) hB)
  have e:Hid (l++qr r=l++Lib.encodeRune r):=ja (by rw [zA c h127 h34 h92]);have i34:(r == 34)=false:=beq_false_of_ne h34;have i92:(r == 92)=false:=beq_false_of_ne h92;have i10:(r == 10)=false:=beq_false_of_ne (by omega);have i9:(r == 9)=false:=beq_false_of_ne (by omega);have i13:(r == 13)=false:=beq_false_of_ne (by omega);have i127:(r == 127)=false:=beq_false_of_ne h127;have i32:¬r<32:=by omega
  clear ht h h34 h92 h127
  go_enter Tryd.func90,Tryd.ntmps90
  go_wp2_with fail
  refine(jb K1).mono ?_
  rintro _ w1 ⟨⟨n,rfl⟩,b1,k1,o1⟩
  go_wp2;go_end0;rw [jb e];exact⟨rfl,b1,k1,o1⟩
theorem JH (s:ByteArray)(w:World)(hs:s.size<=9223372036854775807)(hT:Lib.Utf8Tabs 2 3 w)(hb:0<=bad s.data.toList) :
  Calls Tryd.prog 71 #[.string s] w fun e w'=>e=.returned (.tuple #[.string ⟨#[]⟩,.int .i64 3])/\Below w.heap.size w w':=by
 have K:=ja (za s w hs hT);clear hT;generalize bad s.data.toList=v at *
 go_enter Tryd.func71,Tryd.ntmps71
 go_wp2_with fail
 refine(jb K).mono ?_
 rintro _ w1 ⟨rfl,b1⟩
 clear K;go_wp2;go_ret2;exact⟨rfl,b1⟩
theorem Jd {s:ByteArray}{rs acc:List Int}{pos:Nat}{r:Int}{rest:List Int}(hl:s.data.toList=enc rs)(hsc:∀q∈rs,sc q=true)(hr:rs=acc++r :: rest)(hp:pos=(enc acc).length) :
  pos<s.size/\Utf8.decode s pos=(r.toNat,(Lib.encodeRune r).length)/\sc r=true/\pos+(Lib.encodeRune r).length=(enc (acc++[r])).length:=by
 have hq:sc r=true:=hsc r (by rw [hr];simp);have h4:=je r;have hd:=Lib.decodeL_drop s pos
 have he:s.data.toList.drop pos=Lib.encodeRune r++enc rest:=by
  rw [hl,hr,j3,jT,hp,List.drop_left' rfl]
 rw [he,qk hq] at hd;have hlen:=congrArg List.length hl;rw [jj,hr,j3,jT,List.length_append,List.length_append] at hlen;refine⟨by omega,hd.symm,hq,?_⟩;rw [j3,Qs,List.length_append,hp]
theorem Je (s:ByteArray)(rs:List Int)(w:World)(hs:s.size<=1073741824)(hT:Lib.Utf8Tabs 2 3 w)(ht:Lib.TabIs Tryd.prog w "math/bits.deBruijn64tab" .u8 jv)(hl:s.data.toList=enc rs)(hsc:∀r∈rs,sc r=true) :
  Calls Tryd.prog 71 #[.string s] w fun e w'=>e=.returned (.tuple #[.string ⟨(jZ rs).toArray⟩,.int .i64 0])/\Below w.heap.size w w':=by
 have K:=za s w (by omega) hT;rw [hl,Qz hsc] at K;have K:=ja K;have HL:=ja hl;have HSC:=ja hsc;have HT:=ja ht;clear hT ht hl hsc
 go_enter Tryd.func71,Tryd.ntmps71
 go_wp2_with fail
 refine(jb K).mono ?_
 rintro _ w1 ⟨rfl,b1⟩
 have B1:=ja b1;clear K;have I0:Hid (Bld w1.heap.size w1.heap.size [] (w1.alloc (.cells #[.pointer none,.slice none 0 0] 60))):=ja (Lib.IsBuilderF.of (Lib.fresh_isBuilder 60 5 w1))
 go_wp2_with fail
 refine(zl w1.heap.size w1.heap.size [] 34 34 rfl _ (jb I0) (by simp) (by simp)).mono ?_
 rintro _ w2 ⟨rfl,i2,b2,o2⟩
 have b2':Below w1.heap.size w1 w2:=((Below.refl _ w1).alloc (Nat.le_refl _) _).trans b2;have lt2:w1.heap.size<w2.heap.size:=by have:=b2.size;simp at this;omega
 have I2:=ja i2;have B2:=ja b2';clear i2 b2 b2' o2 I0 b1;have hN:w.heap.size<=w1.heap.size:=(jb B1).size;generalize w1.heap.size=N at *;generalize hM:w2.heap.size=M at *
 go_wp2_with fail
 go_loopw [] (fun wr=>∃(acc rest:List Int) (pos:Nat),wr.heap[M]?=some (.stringIter s pos)/\Hid (rs=acc++rest)/\Hid (pos=(enc acc).length)/\Hid (Bld N N (34 :: qs acc) wr)/\Hid (Below N w1 wr)) (fun wr=>s.size - wr.iterPos M)
 case atStart=>
  refine⟨[],rs,0,?_,ja rfl,ja rfl,ja (Lib.IsBuilderF.alloc (jb I2) _),ja ((jb B2).alloc (by omega) _)⟩;rw [<-hM];have:=World.iter_heap w2 s 0;simpa using this
 case round=>
  obtain⟨acc,rest,pos,hit,hr,hp,hI,hB⟩:=hrel;have hsz:M<wr.heap.size:=(Array.getElem?_eq_some_iff.1 hit).1;cases rest with
  | nil=>
   have hps:¬pos<s.size:=by
    have h1:=congrArg List.length (jb HL);have h2:=jb hr;rw [List.append_nil] at h2;rw [jj,h2] at h1;have:=jb hp;omega
   have hnx:∀ty,(Instr.next (.pointer (some ⟨M,0,none⟩)) true ty).run Tryd.prog wr=_:=fun ty=>Lib.run_next_end_at wr M s pos ty hit hps
   have hlen:(34 :: qs acc).length<=6*s.size+1:=by
    have h2:=jb hr;rw [List.append_nil] at h2;have h3:=Jj rs (jb HSC);rw [<-jb HL,jj,h2] at h3;simp only [List.length_cons];omega
   have E:Hid (jZ rs=34 :: qs acc++[34]):=ja (by
    have h2:=jb hr;rw [List.append_nil] at h2;rw [h2];rfl)
   clear hr hp hit hps;generalize 34 :: qs acc=L at *
   go_wp2_with fail
   refine(zl N N L 34 34 rfl wr (jb hI) (by omega) (by omega)).mono ?_
   rintro _ w3 ⟨rfl,i3,b3,o3⟩
   have I3:=ja i3;have B3:=ja ((jb hB).trans b3);have s3:=b3.size;clear i3 b3 o3 hI hB
   go_wp2_with fail
   refine(JS N N (L++[34]) w3 (jb I3) (by omega)).mono ?_
   rintro _ w4 ⟨rfl,b4⟩
   go_wp2;go_ret2;rw [jb E];exact⟨rfl,(jb B1).trans (((jb B3).trans b4).mono hN)⟩
  | cons r rest=>
   obtain⟨hps,hdec,hq,hnext⟩:=Jd (jb HL) (jb HSC) (jb hr) (jb hp);have h0:=js hq;have h4:=je r
   have hnx:∀ty,(Instr.next (.pointer (some ⟨M,0,none⟩)) true ty).run Tryd.prog wr=.ok (.tuple #[.bool true,.int .i64 (pos:Int),.int .i32 r]) (wr.iterAt M s (pos+(Lib.encodeRune r).length)):=fun ty=>by
    rw [Lib.run_next_any_at wr M s pos ty hit hps,hdec];simp only;rw [show((r.toNat:Nat):Int)=r by omega]
   have hlen:(34 :: qs acc).length<=6*s.size+1:=by
    have h2:=jb hr;have h3:=Jj acc (fun q hq=>jb HSC q (by rw [h2];exact List.mem_append_left _ hq));have:=jb hp;simp only [List.length_cons];omega
   have I2:Hid (Bld N N (34 :: qs acc) (wr.iterAt M s (pos+(Lib.encodeRune r).length))):=ja (Lib.IsBuilderF.iterAt (jb hI) hit _);have hit2:=Lib.iterAt_heap wr M s pos (pos+(Lib.encodeRune r).length) hit;have B3:=ja (Lib.below_iterAt (jb hB) (k:=M) (by omega) s (pos+(Lib.encodeRune r).length));have T2:=ja (jD (jb HT) ((jb B1).trans ((jb B3).mono hN)));have hr2:Hid (rs=(acc++[r])++rest):=ja (by rw [jb hr];simp);have hn2:Hid (pos+(Lib.encodeRune r).length=(enc (acc++[r])).length):=ja hnext;have hq2:Hid (34 :: qs (acc++[r])=34 :: qs acc++qr r):=ja (by rw [Jn,QP];rfl);have hsz2:N<=(wr.iterAt M s (pos+(Lib.encodeRune r).length)).heap.size:=by rw [Lib.iterAt_size];omega
   have hqp:Hid (wr.iterPos M=pos):=ja (by simp only [World.iterPos,hit]);clear hr hp hI hB hnext hdec hit;generalize 34 :: qs acc=L at *;generalize (Lib.encodeRune r).length=n at *
   go_wp2_with fail
   refine(QN N N L r hq _ (jb I2) (by omega) hsz2 (jb T2)).mono ?_
   rintro _ w3 ⟨rfl,i3,b3,o3⟩
   have hit3:w3.heap[M]?=some (.stringIter s (pos+n)):=o3 M _ hit2 (by simp;omega) (by simp)
   have I3:=ja i3;have B4:=ja ((jb B3).trans b3);clear i3 b3 o3 I2 B3 T2;go_wp2;go_roundw
   case rel=>exact⟨acc++[r],rest,pos+n,hit3,hr2,hn2,ja (by rw [jb hq2];exact jb I3),B4⟩
   case measure=>
    have:=jb hqp;rw [this];simp only [World.iterPos,hit3];omega
end escs
end Go.Proofs.YticcibefchffmaaDoor
