/- Of our texts, what this claim reaches. -/
import Derived.Lib.RuneBytes
import Derived.Lib.Bytealg
import Derived.Lib.TrimUEq
set_option linter.unusedVariables false
set_option maxHeartbeats 2000000
set_option maxRecDepth 100000
namespace Go.Proofs.YtadaehaemmelfaaDoor
namespace utfs
def sc (r:Int):Bool:=decide (0<=r/\r<=1114111/\(r<55296\/57343<r))
theorem qF {r:Int}(h:sc r=true):0<=r/\r<=1114111/\(r<55296\/57343<r):=of_decide_eq_true h
theorem QJ {r:Int}(h:sc r=false):r<0\/1114111<r\/(55296<=r/\r<=57343):=by
 have:=of_decide_eq_false h;omega
def enc (l:List Int):List UInt8:=l.flatMap Lib.encodeRune
theorem jb4 {r:Int}(h:sc r=true) :
  (r<=127/\Lib.encodeRuneZ r=[r])\/(128<=r/\r<=2047/\Lib.encodeRuneZ r=[192+r / 64,128+r % 64])\/
  (2048<=r/\r<=65535/\Lib.encodeRuneZ r=[224+r / 4096,128+r / 64 % 64,128+r % 64])\/
  (65536<=r/\Lib.encodeRuneZ r=[240+r / 262144,128+r / 4096 % 64,128+r / 64 % 64,128+r % 64]):=by
 obtain⟨h0,h1,h2⟩:=qF h
 by_cases a:r<=127
 ·exact .inl ⟨a,Lib.encodeRuneZ_one h0 a⟩
 ·by_cases b:r<=2047
  ·exact .inr (.inl ⟨by omega,b,Lib.encodeRuneZ_two (by omega) b⟩)
  ·by_cases c:r<=65535
   ·exact .inr (.inr (.inl ⟨by omega,c,Lib.encodeRuneZ_three (by omega)⟩))
   ·exact .inr (.inr (.inr ⟨by omega,Lib.encodeRuneZ_four (by omega) h1⟩))
theorem qN {x:Int}{b:UInt8}(h:x=b.toNat):x.toNat.toUInt8=b:=by
 subst h;simp
theorem jV {x:Int}(h0:0<=x)(h1:x<256):(x.toNat.toUInt8).toNat=x.toNat:=by
 simp only [Nat.toUInt8,UInt8.toNat_ofNat'];omega
theorem Qs {r:Int}(h:sc r=true) :
  (r<=127/\Lib.encodeRune r=[r.toNat.toUInt8])\/(128<=r/\r<=2047/\Lib.encodeRune r=[(192+r / 64).toNat.toUInt8,(128+r % 64).toNat.toUInt8])\/
  (2048<=r/\r<=65535/\Lib.encodeRune r=[(224+r / 4096).toNat.toUInt8,(128+r / 64 % 64).toNat.toUInt8,(128+r % 64).toNat.toUInt8])\/
  (65536<=r/\Lib.encodeRune r=[(240+r / 262144).toNat.toUInt8,(128+r / 4096 % 64).toNat.toUInt8,(128+r / 64 % 64).toNat.toUInt8,(128+r % 64).toNat.toUInt8]):=by
 rcases jb4 h with ⟨a,e⟩ | ⟨a,b,e⟩ | ⟨a,b,e⟩ | ⟨a,e⟩
 ·exact .inl ⟨a,by simp [Lib.encodeRune,e]⟩
 ·exact .inr (.inl ⟨a,b,by simp [Lib.encodeRune,e]⟩)
 ·exact .inr (.inr (.inl ⟨a,b,by simp [Lib.encodeRune,e]⟩))
 ·exact .inr (.inr (.inr ⟨a,by simp [Lib.encodeRune,e]⟩))
/-- what begins with a scalar's code is read as that -/
theorem YP {r:Int}(h:sc r=true)(rest:List UInt8):Lib.decodeL (Lib.encodeRune r++rest)=(r.toNat,(Lib.encodeRune r).length):=by
 have hr:=qF h;rw [Lib.decodeL_N]
 rcases Qs h with ⟨a,e⟩ | ⟨a,b,e⟩ | ⟨a,b,e⟩ | ⟨a,e⟩
 ·rw [e]
  simp only [List.cons_append,List.nil_append,List.getD_cons_zero,List.getD_cons_succ,List.length_cons,List.length_nil,jV (x:=r) (by omega) (by omega)];unfold Lib.decodeN;rw [if_pos (by omega)]
 ·rw [e]
  simp only [List.cons_append,List.nil_append,List.getD_cons_zero,List.getD_cons_succ,List.length_cons,List.length_nil,jV (x:=192+r / 64) (by omega) (by omega),jV (x:=128+r % 64) (by omega) (by omega)];unfold Lib.decodeN;rw [if_neg (by omega),if_pos (by omega),if_pos (by omega)];apply Prod.ext<;>simp only<;>omega
 ·rw [e]
  simp only [List.cons_append,List.nil_append,List.getD_cons_zero,List.getD_cons_succ,List.length_cons,List.length_nil,jV (x:=224+r / 4096) (by omega) (by omega),jV (x:=128+r / 64 % 64) (by omega) (by omega),jV (x:=128+r % 64) (by omega) (by omega)];unfold Lib.decodeN;rw [if_neg (by omega),if_neg (by omega),if_pos (by omega),if_pos (by omega)];apply Prod.ext<;>simp only<;>omega
 ·rw [e]
  simp only [List.cons_append,List.nil_append,List.getD_cons_zero,List.getD_cons_succ,List.length_cons,List.length_nil,jV (x:=240+r / 262144) (by omega) (by omega),jV (x:=128+r / 4096 % 64) (by omega) (by omega),jV (x:=128+r / 64 % 64) (by omega) (by omega),jV (x:=128+r % 64) (by omega) (by omega)];unfold Lib.decodeN;rw [if_neg (by omega),if_neg (by omega),if_neg (by omega),if_pos (by omega),if_pos (by omega)];apply Prod.ext<;>simp only<;>omega
def Jy (l:List UInt8):Bool:=decide ((Lib.decodeL l).1=65533/\(Lib.decodeL l).2=1)
theorem jaq (n b0 b1 b2 b3:Nat)(h0:b0<256) :
  (Lib.decodeN n b0 b1 b2 b3=(65533,1))\/(∃r:Int,sc r=true/\(
   (Lib.decodeN n b0 b1 b2 b3=(r.toNat,1)/\r=b0/\r<=127)\/
   (Lib.decodeN n b0 b1 b2 b3=(r.toNat,2)/\2<=n/\128<=r/\r<=2047/\192+r / 64=b0/\128+r % 64=b1)\/
   (Lib.decodeN n b0 b1 b2 b3=(r.toNat,3)/\3<=n/\2048<=r/\r<=65535/\224+r / 4096=b0/\128+r / 64 % 64=b1/\128+r % 64=b2)\/
   (Lib.decodeN n b0 b1 b2 b3=(r.toNat,4)/\4<=n/\65536<=r/\240+r / 262144=b0/\128+r / 4096 % 64=b1/\128+r / 64 % 64=b2/\128+r % 64=b3))):=by
 unfold Lib.decodeN;split
 ·refine .inr ⟨b0,decide_eq_true (by omega),.inl ⟨by simp,rfl,by omega⟩⟩
 ·split
  ·split
   ·refine .inr ⟨((b0 % 32*64+b1 % 64:Nat):Int),decide_eq_true (by omega),.inr (.inl ⟨by rw [Int.toNat_natCast],by omega,by omega,by omega,by omega,by omega⟩)⟩
   ·exact .inl rfl
  ·split
   ·split
    ·refine .inr ⟨((b0 % 16*4096+b1 % 64*64+b2 % 64:Nat):Int),decide_eq_true (by omega),.inr (.inr (.inl ⟨by rw [Int.toNat_natCast],by omega,by omega,by omega,by omega,by omega,by omega⟩))⟩
    ·exact .inl rfl
   ·split
    ·split
     ·refine .inr ⟨((b0 % 8*262144+b1 % 64*4096+b2 % 64*64+b3 % 64:Nat):Int),decide_eq_true (by omega),.inr (.inr (.inr ⟨by rw [Int.toNat_natCast],by omega,by omega,by omega,by omega,by omega,by omega⟩))⟩
     ·exact .inl rfl
    ·exact .inl rfl
theorem Xa (l:List UInt8)(h:l≠[]) :
  (Lib.decodeL l=(65533,1)/\∀r rest,sc r=true->l≠Lib.encodeRune r++rest)\/
  (∃r rest,sc r=true/\l=Lib.encodeRune r++rest/\Lib.decodeL l=(r.toNat,(Lib.encodeRune r).length)):=by
 have hl:1<=l.length:=by cases l with | nil=>exact absurd rfl h | cons a b=>simp
 rcases jaq l.length (l.getD 0 0).toNat (l.getD 1 0).toNat (l.getD 2 0).toNat (l.getD 3 0).toNat (UInt8.toNat_lt _) with e | ⟨r,hs,e⟩
 ·left
  rw [<-Lib.decodeL_N] at e;refine⟨e,fun r rest hs hl=>?_⟩;rw [hl,YP hs rest] at e;simp only [Prod.mk.injEq] at e;have hr:=qF hs;have h65:r=65533:=by omega
  subst h65;have:Lib.encodeRune 65533=[239,191,189]:=by decide
  rw [this] at e;simp at e
 ·right
  simp only [<-Lib.decodeL_N] at e;have hr:=qF hs
  suffices hh:∃rest,l=Lib.encodeRune r++rest by
   obtain⟨rest,hrest⟩:=hh;exact⟨r,rest,hs,hrest,by rw [hrest];exact YP hs rest⟩
  rcases Qs hs with ⟨a,ec⟩ | ⟨a,b,ec⟩ | ⟨a,b,ec⟩ | ⟨a,ec⟩
  ·rcases e with ⟨_,e0,_⟩ | ⟨_,_,c,_⟩ | ⟨_,_,c,_⟩ | ⟨_,_,c,_⟩
   ·match l,h with
    | x :: t,_=>exact⟨t,by rw [ec,qN e0];simp⟩
   ·omega
   ·omega
   ·omega
  ·rcases e with ⟨_,_,c⟩ | ⟨_,hn,_,_,e0,e1⟩ | ⟨_,_,c,_⟩ | ⟨_,_,c,_⟩
   ·omega
   ·match l,hn with
    | x :: y :: t,_=>exact⟨t,by rw [ec,qN e0,qN e1];simp⟩
   ·omega
   ·omega
  ·rcases e with ⟨_,_,c⟩ | ⟨_,_,_,c,_⟩ | ⟨_,hn,_,_,e0,e1,e2⟩ | ⟨_,_,c,_⟩
   ·omega
   ·omega
   ·match l,hn with
    | x :: y :: z :: t,_=>exact⟨t,by rw [ec,qN e0,qN e1,qN e2];simp⟩
   ·omega
  ·rcases e with ⟨_,_,c⟩ | ⟨_,_,_,c,_⟩ | ⟨_,_,_,c,_⟩ | ⟨_,hn,_,e0,e1,e2,e3⟩
   ·omega
   ·omega
   ·omega
   ·match l,hn with
    | x :: y :: z :: v :: t,_=>exact⟨t,by rw [ec,qN e0,qN e1,qN e2,qN e3];simp⟩
theorem jat {l:List UInt8}(h:l≠[])(hb:Jy l=true):Lib.decodeL l=(65533,1)/\∀r rest,sc r=true->l≠Lib.encodeRune r++rest:=by
 rcases Xa l h with e | ⟨r,rest,hs,hl,e⟩
 ·exact e
 ·exfalso
  have:=of_decide_eq_true hb;rw [e] at this;have hr:=qF hs;have h65:r=65533:=by simp only at this;omega
  subst h65;have e3:Lib.encodeRune 65533=[239,191,189]:=by decide
  rw [e3] at this;simp at this
def Qg:Nat->Nat->List UInt8->Int
 | 0,_,_=>-1
 | f+1,pos,l=>if l=[] then -1 else if Jy l=true then pos else Qg f (pos+(Lib.decodeL l).2) (l.drop (Lib.decodeL l).2)
def bad (l:List UInt8):Int:=Qg l.length 0 l
theorem Xy (f pos:Nat):Qg f pos [] = -1:=by cases f<;>simp [Qg]
end utfs
end Go.Proofs.YtadaehaemmelfaaDoor
