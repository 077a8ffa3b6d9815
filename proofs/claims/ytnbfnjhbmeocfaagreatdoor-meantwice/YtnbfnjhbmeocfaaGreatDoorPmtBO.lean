/- Of our texts, what this claim reaches. -/
import Derived.Test.YtnbfnjhbmeocfaaGreatDoorProg
import Derived.Test.YtnbfnjhbmeocfaaGreatDoorPmtBN
import Derived.WalkKit
import Derived.WalkSmall
import Derived.OwnWalk
import Derived.BigCall
import Derived.Maps.AppendAt
import Derived.Deep.AppendLies
import Derived.Laws.OwnMore
import Derived.Below
import Derived.Deep.QuietTactic
import Derived.BigQuiet
import Derived.Test.YtnbfnjhbmeocfaaGreatDoorPmtAA
set_option linter.unusedVariables false
set_option maxHeartbeats 4000000
set_option maxRecDepth 100000
namespace Go.Proofs.YtnbfnjhbmeocfaaGreatDoor
namespace toks
open Go.RowKit
theorem jd {p:Prop}(h:p):Hid p:=h
theorem ja {p:Prop}(h:Hid p):p:=h
theorem jp (s:ByteArray):s.data.toList.length=s.size:=by rw [Array.length_toList];rfl
theorem jan (s:ByteArray)(a b:Nat):(s.extract a b).data.toList=(s.data.toList.take b).drop a:=by
 rw [ByteArray.data_extract,Array.toList_extract,List.extract_eq_take_drop,List.drop_take]
theorem qB (s:ByteArray)(k:Nat):(s.extract k s.size).data.toList=s.data.toList.drop k:=by
 rw [jan,<-jp s,List.take_length]
theorem byte_at (s:ByteArray)(k:Nat)(h:k<s.size):s.data.toList[k]'(by rw [jp];exact h)=s[k]'h:=rfl
def Blk (w:World)(b:Nat)(cs:Array Value)(t:Nat):Prop:=w.heap[b]?=some (.cells cs t)
theorem Blk.lt {w:World}{b:Nat}{cs:Array Value}{t:Nat}(h:Blk w b cs t):b<w.heap.size:=by
 unfold Blk at h;exact(Array.getElem?_eq_some_iff.1 h).1
theorem Blk.below {w w':World}{b:Nat}{cs:Array Value}{t:Nat}(h:Blk w b cs t)(hb:Below w.heap.size w w'):Blk w' b cs t:=by
 have:=hb.block b h.lt;unfold Blk at *;rw [this,h]
theorem jf (w:World)(cs:Array Value)(t:Nat):Blk (w.alloc (.cells cs t)) w.heap.size cs t:=by
 show(w.heap.push _)[w.heap.size]?=_
 simp
theorem Blk.cell {w:World}{b:Nat}{cs:Array Value}{t:Nat}(h:Blk w b cs t)(j:Nat)(v:Value)(hj:cs[j]?=some v):w.cell? ⟨b,j,none⟩=some v:=by
 unfold Blk at h;simp only [World.cell?,h];exact hj
theorem Blk.froz {w:World}{b:Nat}{cs:Array Value}{t:Nat}(h:Blk w b cs t)(j:Nat):w.frozen? ⟨b,j,none⟩=false:=by
 unfold Blk at h;simp [World.frozen?,h]
theorem Blk.set {w:World}{b:Nat}{cs:Array Value}{t:Nat}(h:Blk w b cs t)(j:Nat)(v:Value):Blk (w.setCell ⟨b,j,none⟩ v) b (cs.setIfInBounds j v) t:=by
 unfold Blk at *;simp only [World.setCell,Array.getElem?_modify,h];simp
theorem Blk.set_other {w:World}{b:Nat}{cs:Array Value}{t:Nat}(h:Blk w b cs t)(p:Addr)(v:Value)(hp:b≠p.block):Blk (w.setCell p v) b cs t:=by
 unfold Blk at *;rw [Below.heap_setCell _ _ _ _ hp,h]
theorem Blk.alloc {w:World}{b:Nat}{cs:Array Value}{t:Nat}(h:Blk w b cs t)(o:Obj):Blk (w.alloc o) b cs t:=by
 unfold Blk at *;rw [Below.heap_alloc _ _ _ (Blk.lt h),h]
theorem Blk.grown {w w':World}{b:Nat}{cs:Array Value}{t:Nat}{r:Option Nat}(h:Blk w b cs t)(hg:w.grownBy w' r)(hr:some b≠r):Blk w' b cs t:=by
 have:=hg.block b h.lt hr;unfold Blk at *;rw [this,h]
theorem jC (w:World)(r:Option Nat):w.grownBy w r:=⟨rfl,rfl,rfl,Nat.le_refl _,fun _ _ _=>rfl⟩
theorem j7 (w:World)(B j:Nat)(v:Value):w.grownBy (w.setCell ⟨B,j,none⟩ v) (some B) :=
 ⟨rfl,rfl,rfl,by simp [World.setCell],fun k _ hk=>Below.heap_setCell _ _ _ _ (fun e=>hk (by rw [e]))⟩
theorem jj {w w1 w2:World}{r:Option Nat}(h:w.grownBy w1 r)(g:w1.grownBy w2 r):w.grownBy w2 r :=
 ⟨g.os.trans h.os,g.tape.trans h.tape,g.output.trans h.output,Nat.le_trans h.size g.size,fun k hk hr=>(g.block k (Nat.lt_of_lt_of_le hk h.size) hr).trans (h.block k hk hr)⟩
def Ctr (w:World)(B:Nat)(s:ByteArray)(m:Nat)(b:Bool):Prop:=Blk w B #[.string s,.int .i64 (m:Int),.bool b] 69
def MaxOk (w:World):Prop:=∃x:Int,w.cell? ⟨0,0,none⟩=some (.int .i64 x)
theorem MaxOk.lt {w:World}(h:MaxOk w):0<w.heap.size:=by
 obtain⟨x,hx⟩:=h;exact World.block_lt_of_cell? w _ hx
theorem MaxOk.below {w w':World}{B:Nat}(h:MaxOk w)(hB:w.heap.size<=B)(hb:Below B w w'):MaxOk w':=by
 have:=h.lt;obtain⟨x,hx⟩:=h;exact⟨x,by rw [hb.cell (p:=⟨0,0,none⟩) (Nat.lt_of_lt_of_le this hB)];exact hx⟩
theorem MaxOk.grown {w w':World}{B:Nat}(h:MaxOk w)(hg:w.grownBy w' (some B))(hB:0<B):MaxOk w':=by
 obtain⟨x,hx⟩:=h;exact⟨x,hg.cell hx (fun e=>by injection e with e;exact absurd e (Nat.ne_of_lt hB))⟩
theorem Q7 {c:UInt8}{k:Nat}(hk:k<256):(c == k.toUInt8)=((c.toNat:Int) == (k:Int)):=by
 rw [Bool.eq_iff_iff,beq_iff_eq,beq_iff_eq]
 constructor
 ·intro e;rw [e];simp [Nat.toUInt8];omega
 ·intro e
  apply UInt8.toNat_inj.1
  have:c.toNat=k:=by omega
  rw [this];simp [Nat.toUInt8];omega
theorem jjZ (c:UInt8):isB c=((c.toNat:Int) == 32 || (c.toNat:Int) == 9 || (c.toNat:Int) == 13):=by
 have h1:=@Q7 c 32 (by decide);have h2:=@Q7 c 9 (by decide);have h3:=@Q7 c 13 (by decide);exact congr (congrArg or (congr (congrArg or h1) h2)) h3
theorem jj1 (c:UInt8):isM c=((c.toNat:Int) == 123 || (c.toNat:Int) == 125 || (c.toNat:Int) == 91 || (c.toNat:Int) == 93 || (c.toNat:Int) == 58 || (c.toNat:Int) == 61 || (c.toNat:Int) == 44):=by
 have h1:=@Q7 c 123 (by decide);have h2:=@Q7 c 125 (by decide);have h3:=@Q7 c 91 (by decide);have h4:=@Q7 c 93 (by decide);have h5:=@Q7 c 58 (by decide);have h6:=@Q7 c 61 (by decide);have h7:=@Q7 c 44 (by decide);exact congr (congrArg or (congr (congrArg or (congr (congrArg or (congr (congrArg or (congr (congrArg or (congr (congrArg or h1) h2)) h3)) h4)) h5)) h6)) h7
theorem Xz (w:World)(c:UInt8) :
  Calls Tryz.prog 71 #[.int .u8 (c.toNat:Int)] w fun e w'=>e=.returned (.bool (isB c))/\w'=w:=by
 rw [jjZ];generalize (c.toNat:Int)=n;cases h1:n == 32<;>cases h2:n == 9<;>cases h3:n == 13
 all_goals
  go_enter Tryz.func71,Tryz.ntmps71
  go_wp2;go_ret;exact⟨rfl,rfl⟩
theorem jeQ (w:World)(c:UInt8) :
  Calls Tryz.prog 75 #[.int .u8 (c.toNat:Int)] w fun e w'=>e=.returned (.bool (isM c))/\w'=w:=by
 rw [jj1];generalize (c.toNat:Int)=n;cases h1:n == 123
 case true=>go_enter Tryz.func75,Tryz.ntmps75;go_wp2;go_ret;exact⟨rfl,rfl⟩
 cases h2:n == 125
 case true=>go_enter Tryz.func75,Tryz.ntmps75;go_wp2;go_ret;exact⟨rfl,rfl⟩
 cases h3:n == 91
 case true=>go_enter Tryz.func75,Tryz.ntmps75;go_wp2;go_ret;exact⟨rfl,rfl⟩
 cases h4:n == 93
 case true=>go_enter Tryz.func75,Tryz.ntmps75;go_wp2;go_ret;exact⟨rfl,rfl⟩
 cases h5:n == 58
 case true=>go_enter Tryz.func75,Tryz.ntmps75;go_wp2;go_ret;exact⟨rfl,rfl⟩
 cases h6:n == 61
 case true=>go_enter Tryz.func75,Tryz.ntmps75;go_wp2;go_ret;exact⟨rfl,rfl⟩
 cases h7:n == 44
 case true=>go_enter Tryz.func75,Tryz.ntmps75;go_wp2;go_ret;exact⟨rfl,rfl⟩
 go_enter Tryz.func75,Tryz.ntmps75;go_wp2;go_ret;exact⟨rfl,rfl⟩
theorem jag (w:World)(c:UInt8) :
  Calls Tryz.prog 74 #[.int .u8 (c.toNat:Int)] w fun e w'=>e=.returned (.bool (isW c))/\w'=w:=by
 have key:∀b:Bool,isW c=b->Calls Tryz.prog 74 #[.int .u8 (c.toNat:Int)] w (fun e w'=>e=.returned (.bool b)/\w'=w)->Calls Tryz.prog 74 #[.int .u8 (c.toNat:Int)] w (fun e w'=>e=.returned (.bool (isW c))/\w'=w):=fun b e h=>by rw [e];exact h
 have yes:(((97:Int)<=(c.toNat:Int)/\(c.toNat:Int)<=122)\/((65:Int)<=(c.toNat:Int)/\(c.toNat:Int)<=90)\/((48:Int)<=(c.toNat:Int)/\(c.toNat:Int)<=57)\/(c.toNat:Int)=95\/(c.toNat:Int)=45\/(c.toNat:Int)=43\/(c.toNat:Int)=46)->isW c=true:=fun h=>decide_eq_true (by omega)
 have no:¬(((97:Int)<=(c.toNat:Int)/\(c.toNat:Int)<=122)\/((65:Int)<=(c.toNat:Int)/\(c.toNat:Int)<=90)\/((48:Int)<=(c.toNat:Int)/\(c.toNat:Int)<=57)\/(c.toNat:Int)=95\/(c.toNat:Int)=45\/(c.toNat:Int)=43\/(c.toNat:Int)=46)->isW c=false:=fun h=>decide_eq_false (by omega)
 generalize isW c=r at *;generalize (c.toNat:Int)=n at *
 by_cases e1:n=95
 ·refine key true (yes (by omega)) ?_
  clear key yes no;subst e1
  go_enter Tryz.func74,Tryz.ntmps74;go_wp2;go_ret;exact⟨rfl,rfl⟩
 by_cases e2:n=45
 ·refine key true (yes (by omega)) ?_
  clear key yes no;subst e2
  go_enter Tryz.func74,Tryz.ntmps74;go_wp2;go_ret;exact⟨rfl,rfl⟩
 by_cases e3:n=43
 ·refine key true (yes (by omega)) ?_
  clear key yes no;subst e3
  go_enter Tryz.func74,Tryz.ntmps74;go_wp2;go_ret;exact⟨rfl,rfl⟩
 by_cases e4:n=46
 ·refine key true (yes (by omega)) ?_
  clear key yes no;subst e4
  go_enter Tryz.func74,Tryz.ntmps74;go_wp2;go_ret;exact⟨rfl,rfl⟩
 have i1:(n == 95)=false:=beq_false_of_ne e1;have i2:(n == 45)=false:=beq_false_of_ne e2;have i3:(n == 43)=false:=beq_false_of_ne e3;have i4:(n == 46)=false:=beq_false_of_ne e4
 by_cases a1:97<=n
 ·have d1:decide (97<=n)=true:=decide_eq_true a1
  by_cases a2:n<=122
  ·refine key true (yes (by omega)) ?_
   clear key yes no
   go_enter Tryz.func74,Tryz.ntmps74;go_wp2;go_ret;exact⟨rfl,rfl⟩
  ·refine key false (no (by omega)) ?_
   clear key yes no;have d2:decide (n<=122)=false:=decide_eq_false a2;have a3:65<=n:=by omega
   have a4:¬n<=90:=by omega
   have a5:48<=n:=by omega
   have a6:¬n<=57:=by omega
   go_enter Tryz.func74,Tryz.ntmps74;go_wp2;go_ret;exact⟨rfl,rfl⟩
 ·have d1:decide (97<=n)=false:=decide_eq_false a1
  by_cases a3:65<=n
  ·by_cases a4:n<=90
   ·refine key true (yes (by omega)) ?_
    clear key yes no
    go_enter Tryz.func74,Tryz.ntmps74;go_wp2;go_ret;exact⟨rfl,rfl⟩
   ·refine key false (no (by omega)) ?_
    clear key yes no;have a5:48<=n:=by omega
    have a6:¬n<=57:=by omega
    go_enter Tryz.func74,Tryz.ntmps74;go_wp2;go_ret;exact⟨rfl,rfl⟩
  ·by_cases a5:48<=n
   ·by_cases a6:n<=57
    ·refine key true (yes (by omega)) ?_
     clear key yes no
     go_enter Tryz.func74,Tryz.ntmps74;go_wp2;go_ret;exact⟨rfl,rfl⟩
    ·refine key false (no (by omega)) ?_
     clear key yes no
     go_enter Tryz.func74,Tryz.ntmps74;go_wp2;go_ret;exact⟨rfl,rfl⟩
   ·refine key false (no (by omega)) ?_
    clear key yes no
    go_enter Tryz.func74,Tryz.ntmps74;go_wp2;go_ret;exact⟨rfl,rfl⟩
open Go.RowKit
theorem zQ {p:UInt8->Bool}{s:ByteArray}{a k:Nat}(h:k<s.size)(hp:p (s[k]'h)=true)(hr:a+jF p (s.data.toList.drop a)=k+jF p (s.data.toList.drop k)):a+jF p (s.data.toList.drop a)=(k+1)+jF p (s.data.toList.drop (k+1)):=by
 rw [hr,jjI (by rw [jp];exact h) (by rw [byte_at s k h];exact hp)];omega
theorem jcX {p:UInt8->Bool}{s:ByteArray}{a k:Nat}(h:k<s.size)(hp:p (s[k]'h)=false)(hr:a+jF p (s.data.toList.drop a)=k+jF p (s.data.toList.drop k)):a+jF p (s.data.toList.drop a)=k:=by
 rw [hr,Qq (by rw [jp];exact h) (by rw [byte_at s k h];exact hp)];omega
theorem jei {p:UInt8->Bool}{s:ByteArray}{a k:Nat}(h:s.size<=k)(hr:a+jF p (s.data.toList.drop a)=k+jF p (s.data.toList.drop k)):a+jF p (s.data.toList.drop a)=k:=by
 rw [hr,jkh (by rw [jp];exact h)];omega
theorem jip (w:World)(B:Nat)(s:ByteArray)(m:Nat)(b:Bool)(a:Nat)(ha:a<=s.size)(hs:s.size<=20000)(hc:Ctr w B s m b) :
  Calls Tryz.prog 72 #[.pointer (some ⟨B,0,none⟩),.int .i64 (a:Int),.func (.func 71) #[] #[]] w fun e w'=>e=.returned (.int .i64 ((a+jF isB (s.data.toList.drop a):Nat):Int))/\w'=w:=by
 have c0:=hc.cell 0 _ rfl;clear hc
 go_enter Tryz.func72,Tryz.ntmps72
 go_wp2_with fail
 go_loopw [1] (fun i wr=>∃k:Nat,k<=s.size/\i=.int .i64 k/\Hid (a+jF isB (s.data.toList.drop a)=k+jF isB (s.data.toList.drop k))/\wr=w) (fun i _=>s.size - (intOf i).toNat)
 case atStart=>exact⟨a,ha,rfl,jd rfl,rfl⟩
 case round=>
  obtain⟨k,hk,rfl,hr,hw⟩:=hrel;subst hw
  by_cases hlt:k<s.size
  ·have KI:=jd (Xz wr (s[k]'hlt))
   have RM:=jd (zQ (p:=isB) (a:=a) hlt);have RH:=jd (jcX (p:=isB) (a:=a) hlt);generalize isB (s[k]'hlt)=o at *;have i1:(k:Int)<(s.size:Int):=by omega
   cases o with
   | true=>
    have RM2:=jd (ja RM rfl (ja hr));clear RM RH hr
    go_wp2_with fail
    refine(ja KI).mono ?_
    rintro e w2 ⟨rfl,hw⟩
    rw [hw];clear hw KI;go_wp2;go_roundw
    case rel=>exact⟨k+1,by omega,by go_num,RM2,by first | rfl | trivial⟩
    case measure=>simp [intOf];omega
   | false=>
    have RH2:=jd (ja RH rfl (ja hr));clear RM RH hr
    go_wp2_with fail
    refine(ja KI).mono ?_
    rintro e w2 ⟨rfl,hw⟩
    rw [hw];clear hw KI;go_wp2;go_ret;rw [ja RH2];exact⟨rfl,rfl⟩
  ·have RO:=jd (jei (p:=isB) (a:=a) (Nat.le_of_not_lt hlt) (ja hr))
   have hks:k=s.size:=by omega
   clear hr;have d1:decide ((k:Int)<(s.size:Int))=false:=decide_eq_false (by omega);clear hks;go_wp2;go_ret;rw [ja RO];exact⟨rfl,rfl⟩
theorem jjt (w:World)(B:Nat)(s:ByteArray)(m:Nat)(b:Bool)(a:Nat)(ha:a<=s.size)(hs:s.size<=20000)(hc:Ctr w B s m b) :
  Calls Tryz.prog 72 #[.pointer (some ⟨B,0,none⟩),.int .i64 (a:Int),.func (.func 74) #[] #[]] w fun e w'=>e=.returned (.int .i64 ((a+jF isW (s.data.toList.drop a):Nat):Int))/\w'=w:=by
 have c0:=hc.cell 0 _ rfl;clear hc
 go_enter Tryz.func72,Tryz.ntmps72
 go_wp2_with fail
 go_loopw [1] (fun i wr=>∃k:Nat,k<=s.size/\i=.int .i64 k/\Hid (a+jF isW (s.data.toList.drop a)=k+jF isW (s.data.toList.drop k))/\wr=w) (fun i _=>s.size - (intOf i).toNat)
 case atStart=>exact⟨a,ha,rfl,jd rfl,rfl⟩
 case round=>
  obtain⟨k,hk,rfl,hr,hw⟩:=hrel;subst hw
  by_cases hlt:k<s.size
  ·have KI:=jd (jag wr (s[k]'hlt))
   have RM:=jd (zQ (p:=isW) (a:=a) hlt);have RH:=jd (jcX (p:=isW) (a:=a) hlt);generalize isW (s[k]'hlt)=o at *;have i1:(k:Int)<(s.size:Int):=by omega
   cases o with
   | true=>
    have RM2:=jd (ja RM rfl (ja hr));clear RM RH hr
    go_wp2_with fail
    refine(ja KI).mono ?_
    rintro e w2 ⟨rfl,hw⟩
    rw [hw];clear hw KI;go_wp2;go_roundw
    case rel=>exact⟨k+1,by omega,by go_num,RM2,by first | rfl | trivial⟩
    case measure=>simp [intOf];omega
   | false=>
    have RH2:=jd (ja RH rfl (ja hr));clear RM RH hr
    go_wp2_with fail
    refine(ja KI).mono ?_
    rintro e w2 ⟨rfl,hw⟩
    rw [hw];clear hw KI;go_wp2;go_ret;rw [ja RH2];exact⟨rfl,rfl⟩
  ·have RO:=jd (jei (p:=isW) (a:=a) (Nat.le_of_not_lt hlt) (ja hr))
   have hks:k=s.size:=by omega
   clear hr;have d1:decide ((k:Int)<(s.size:Int))=false:=decide_eq_false (by omega);clear hks;go_wp2;go_ret;rw [ja RO];exact⟨rfl,rfl⟩
theorem jb4 {c:UInt8}(k:UInt8)(h:c=k):((c.toNat:Int) == (k.toNat:Int))=true:=by rw [h];exact beq_self_eq_true _
theorem jcB {c:UInt8}(k:UInt8)(h:c≠k):((c.toNat:Int) == (k.toNat:Int))=false:=beq_false_of_ne (fun e=>h (UInt8.toNat_inj.1 (by omega)))
theorem jib {c:UInt8}(k:UInt8)(h:c=k):((c.toNat:Int) != (k.toNat:Int))=false:=by unfold bne;rw [jb4 k h];rfl
theorem jh7 {c:UInt8}(k:UInt8)(h:c≠k):((c.toNat:Int) != (k.toNat:Int))=true:=by unfold bne;rw [jcB k h];rfl
theorem Ctr.text {w:World}{B:Nat}{s:ByteArray}{m:Nat}{b:Bool}(h:Ctr w B s m b)(e:Nat):Ctr (w.setCell ⟨B,1,none⟩ (.int .i64 (e:Int))) B s e b:=by
 have:=h.set 1 (.int .i64 (e:Int));simpa [Ctr] using this
theorem Ctr.note {w:World}{B:Nat}{s:ByteArray}{m:Nat}{b:Bool}(h:Ctr w B s m b):Ctr (w.setCell ⟨B,2,none⟩ (.bool true)) B s m true:=by
 have:=h.set 2 (.bool true);simpa [Ctr] using this
theorem jem (w:World)(B:Nat)(s:ByteArray)(m:Nat)(b:Bool)(a:Nat)(ha:a<s.size)(hs:s.size<=20000)(hc:Ctr w B s m b)(hm:a<m) :
  Calls Tryz.prog 77 #[.pointer (some ⟨B,0,none⟩),.int .i64 (a:Int)] w fun e w'=>e=.returned (.tuple #[.int .i64 0,.bool false])/\w'=w:=by
 have c1:=hc.cell 1 _ rfl;clear hc;have d1:decide ((a:Int)<(m:Int))=true:=decide_eq_true (by omega);have i1:(a:Int)<(m:Int):=by omega
 go_enter Tryz.func77,Tryz.ntmps77
 go_wp2;go_ret2;exact⟨rfl,rfl⟩
theorem jj8 (w:World)(B:Nat)(s:ByteArray)(m:Nat)(b:Bool)(a:Nat)(ha:a<s.size)(hs:s.size<=20000)(hc:Ctr w B s m b)(h34:s[a]'ha≠34) :
  Calls Tryz.prog 77 #[.pointer (some ⟨B,0,none⟩),.int .i64 (a:Int)] w fun e w'=>e=.returned (.tuple #[.int .i64 0,.bool false])/\w'=w:=by
 by_cases hm:a<m
 ·exact jem w B s m b a ha hs hc hm
 have c0:=hc.cell 0 _ rfl;have c1:=hc.cell 1 _ rfl;clear hc;have i2:(((s[a]'ha).toNat:Int) == 34)=false:=jcB 34 h34;have i3:(((s[a]'ha).toNat:Int) != 34)=true:=jh7 34 h34;have d1:decide ((a:Int)<(m:Int))=false:=decide_eq_false (by omega);have d0:decide (a<m)=false:=decide_eq_false (by omega);clear h34
 go_enter Tryz.func77,Tryz.ntmps77
 go_wp2;go_ret2;exact⟨rfl,rfl⟩
theorem ji0 {s:ByteArray}{a e:Nat}(w:Way s.data.toList a e)(h:e+1<s.size)(h0:e<s.size)(h1:s[e]'h0=92)(h2:s[e+1]'h≠10):Way s.data.toList a (e+2) :=
 jkH w (by rw [jp];exact h) h1 h2
theorem Xc {s:ByteArray}{a e:Nat}(w:Way s.data.toList a e)(h:e<s.size)(h1:s[e]'h≠34)(h2:s[e]'h≠10)(h3:s[e]'h=92->∀h:e+1<s.size,s[e+1]'h=10):Way s.data.toList a (e+1) :=
 jjf w (by rw [jp];exact h) h1 h2 (fun q h'=>h3 q (by rw [jp] at h';exact h'))
theorem jiW {s:ByteArray}{a e:Nat}(w:Way s.data.toList a e)(h:e<s.size)(h1:s[e]'h=34):jk (s.data.toList.drop (a+1))=e - a :=
 jkF w (by rw [jp];exact h) h1
theorem jeh {s:ByteArray}{a e:Nat}(w:Way s.data.toList a e)(h:s.size<=e\/∃h:e<s.size,s[e]'h=10):jk (s.data.toList.drop (a+1))=0/\NoText s.data.toList a e:=by
 refine jja w ?_
 rcases h with h | ⟨h,h1⟩
 ·exact jjO (by rw [jp];exact h)
 ·exact jgQ (by rw [jp];exact h) h1
theorem jfu (w:World)(B:Nat)(s:ByteArray)(m:Nat)(b:Bool)(a:Nat)(ha:a<s.size)(hs:s.size<=20000)(hc:Ctr w B s m b)(hm:m<=a)(h34:s[a]'ha=34) :
  Calls Tryz.prog 77 #[.pointer (some ⟨B,0,none⟩),.int .i64 (a:Int)] w fun e w'=>
   (e=.returned (.tuple #[.int .i64 ((a+1+jk (s.data.toList.drop (a+1)):Nat):Int),.bool true])/\jk (s.data.toList.drop (a+1))≠0/\w'=w)\/
   (∃q:Nat,e=.returned (.tuple #[.int .i64 0,.bool false])/\jk (s.data.toList.drop (a+1))=0/\NoText s.data.toList a q/\q<=s.size/\w'=w.setCell ⟨B,1,none⟩ (.int .i64 (q:Int))):=by
 have c0:=hc.cell 0 _ rfl;have c1:=hc.cell 1 _ rfl;have f1:=hc.froz 1;clear hc;have i2:(((s[a]'ha).toNat:Int) == 34)=true:=jb4 34 h34;have i3:(((s[a]'ha).toNat:Int) != 34)=false:=jib 34 h34;have d1:decide ((a:Int)<(m:Int))=false:=decide_eq_false (by omega);have d0:decide (a<m)=false:=decide_eq_false (by omega);have W0:=jd (jhC (l:=s.data.toList) (a:=a) (by rw [jp];exact ha));clear h34
 go_enter Tryz.func77,Tryz.ntmps77
 go_wp2_with fail
 clear i2 i3
 go_loopw [6] (fun i wr=>∃k:Nat,k<=s.size/\i=.int .i64 k/\Hid (Way s.data.toList a k)/\wr=w) (fun i _=>s.size - (intOf i).toNat)
 case atStart=>exact⟨a+1,ha,by go_num,W0,rfl⟩
 case round=>
  obtain⟨k,hk,rfl,hW,hw⟩:=hrel;subst hw;have hak:=(ja hW).lo
  by_cases hlt:k<s.size
  ·have i1:(k:Int)<(s.size:Int):=by omega
   by_cases h10:s[k]'hlt=10
   ·have E:=jd (jeh (ja hW) (.inr ⟨hlt,h10⟩))
    have j1:(((s[k]'hlt).toNat:Int) == 10)=true:=jb4 10 h10;have j2:(((s[k]'hlt).toNat:Int) != 10)=false:=jib 10 h10;clear h10 hW W0;go_wp2;go_ret2;exact .inr ⟨k,rfl,(ja E).1,(ja E).2,hk,rfl⟩
   ·have j1:(((s[k]'hlt).toNat:Int) == 10)=false:=jcB 10 h10
    have j2:(((s[k]'hlt).toNat:Int) != 10)=true:=jh7 10 h10
    by_cases h3:s[k]'hlt=34
    ·have E:=jd (jiW (ja hW) hlt h3)
     have j3:(((s[k]'hlt).toNat:Int) == 34)=true:=jb4 34 h3;clear h10 h3 hW W0;go_wp2;go_ret2;refine .inl ⟨?_,?_,rfl⟩
     ·rw [ja E,show a+1+(k - a)=k+1 by omega]
      go_num
     ·rw [ja E];omega
    ·have j3:(((s[k]'hlt).toNat:Int) == 34)=false:=jcB 34 h3
     by_cases h9:s[k]'hlt=92
     ·have j4:(((s[k]'hlt).toNat:Int) == 92)=true:=jb4 92 h9
      by_cases hl2:k+1<s.size
      ·have i4:(k:Int)+1<(s.size:Int):=by omega
       by_cases h11:s[k+1]'hl2=10
       ·have E:=jd (Xc (ja hW) hlt h3 h10 (fun _ _=>h11))
        have j5:(((s[k+1]'hl2).toNat:Int) == 10)=true:=jb4 10 h11;have j6:(((s[k+1]'hl2).toNat:Int) != 10)=false:=jib 10 h11;clear h10 h3 h9 h11 hW W0;go_wp2;go_roundw
        case rel=>exact⟨k+1,by omega,by go_num,E,by first | rfl | trivial⟩
        case measure=>simp [intOf];omega
       ·have E:=jd (ji0 (ja hW) hl2 hlt h9 h11)
        have j5:(((s[k+1]'hl2).toNat:Int) == 10)=false:=jcB 10 h11;have j6:(((s[k+1]'hl2).toNat:Int) != 10)=true:=jh7 10 h11;clear h10 h3 h9 h11 hW W0;go_wp2;go_roundw
        case rel=>exact⟨k+2,by omega,by go_num,E,by first | rfl | trivial⟩
        case measure=>simp [intOf];omega
      ·have E:=jd (Xc (ja hW) hlt h3 h10 (fun _ h=>absurd h hl2))
       have d4:decide ((k:Int)+1<(s.size:Int))=false:=decide_eq_false (by omega);clear h10 h3 h9 hW W0;go_wp2;go_roundw
       case rel=>exact⟨k+1,by omega,by go_num,E,by first | rfl | trivial⟩
       case measure=>simp [intOf];omega
     ·have E:=jd (Xc (ja hW) hlt h3 h10 (fun h=>absurd h h9))
      have j4:(((s[k]'hlt).toNat:Int) == 92)=false:=jcB 92 h9;clear h10 h3 h9 hW W0;go_wp2;go_roundw
      case rel=>exact⟨k+1,by omega,by go_num,E,by first | rfl | trivial⟩
      case measure=>simp [intOf];omega
  ·have E:=jd (jeh (ja hW) (.inl (Nat.le_of_not_lt hlt)))
   have d4:decide ((k:Int)<(s.size:Int))=false:=decide_eq_false (by omega);clear hW W0;go_wp2;go_ret2;exact .inr ⟨k,rfl,(ja E).1,(ja E).2,hk,rfl⟩
end toks
namespace trees
open toks
structure At (L:List UInt8) (l:List Tk) (i:Nat) (ts:List Sym):Prop where
 le:i<=l.length
 eq:ts=zA L i (l.drop i)
 sol:∀h:i<l.length,3<l[i].kind
theorem jcJ {l:List Tk}{i:Nat}(h:i<l.length):l.drop i=l[i] :: l.drop (i+1):=List.drop_eq_getElem_cons h
theorem QL {L:List UInt8}{l:List Tk}{i:Nat}{x:Sym}{r:List Sym}(h:At L l i (x :: r)) :
  ∃hi:i<l.length,x.2=i/\x.1=J3 L l[i]/\3<l[i].kind/\r=zA L (i+1) (l.drop (i+1)):=by
 have hi:i<l.length:=by
  rcases Nat.lt_or_ge i l.length with h1 | h1
  ·exact h1
  ·have:=h.eq
   rw [List.drop_of_length_le h1] at this;cases this
 have hk:=h.sol hi;have e:=h.eq;rw [jcJ hi,Jd hk] at e;injection e with e1 e2;exact⟨hi,by rw [e1],by rw [e1],hk,e2⟩
theorem jcg {L:List UInt8}{l:List Tk}{i:Nat}(h:At L l i []):i=l.length:=by
 rcases Nat.lt_or_ge i l.length with h1 | h1
 ·have e:=h.eq
  rw [jcJ h1,Jd (h.sol h1)] at e;cases e
 ·have:=h.le
  omega
theorem jfW (L:List UInt8)(l:List Tk):∀(d n:Nat),(∀k (h:k<l.length),n<=k->k<n+d->¬3<l[k].kind)->n+d<=l.length->zA L n (l.drop n)=zA L (n+d) (l.drop (n+d))
 | 0,n,_,_=>rfl
 | d+1,n,h,hl=>by
  have hn:n<l.length:=by omega
  rw [jcJ hn,Xp (h n hn (Nat.le_refl _) (by omega)),jfW L l d (n+1) (fun k hk h1 h2=>h k hk (by omega) (by omega)) (by omega),show n+1+d=n+(d+1) by omega]
structure Nxt (l:List Tk) (n j:Nat):Prop where
 le:n<=j
 lt:j<=l.length
 no:∀k (h:k<l.length),n<=k->k<j->¬3<l[k].kind
 sol:∀h:j<l.length,3<l[j].kind
theorem Nxt.at {L:List UInt8}{l:List Tk}{n j:Nat}(h:Nxt l n j):At L l j (zA L n (l.drop n)):=by
 have:=h.le;have:=h.lt;refine⟨h.lt,?_,h.sol⟩;rw [jfW L l (j - n) n (fun k hk h1 h2=>h.no k hk h1 (by omega)) (by omega),show n+(j - n)=j by omega]
structure Good (s:ByteArray) (l:List Tk):Prop where
 kind:∀(j:Nat) (h:j<l.length),1<=l[j].kind/\l[j].kind<=7
 fro:∀(j:Nat) (h:j<l.length),l[j].fro<s.size
 mark:∀(j:Nat) (h:j<l.length),l[j].kind=6->isM (s.data.toList.getD l[j].fro 0)=true
 len:l.length<=20000
 size:s.size<=20000
theorem jbR {l:List UInt8}{n:Nat}(h:jB l=(6,n)):isM (l.headD 0)=true:=by
 cases l with
 | nil=>simp [jB] at h
 | cons c t=>
  unfold jB at h;simp only at h;split at h
  ·simp at h
  ·split at h
   ·simp at h
   ·split at h
    ·simp at h
    ·split at h
     ·simp at h
     ·split at h
      ·rename_i hm;exact hm
      ·split at h
       ·simp at h
       ·split at h<;>simp at h
theorem good (s:ByteArray)(hs:s.size<=20000):Good s (jv s.data.toList):=by
 have key:∀(j:Nat) (h:j<(jv s.data.toList).length),_:=fun j h=>jb9 j 0 s.data.toList (jv s.data.toList)[j] (List.getElem?_eq_getElem h)
 refine⟨fun j h=>?_,fun j h=>?_,fun j h hk=>?_,?_,hs⟩
 ·obtain⟨_,_,_,_,_,k1,k7,_⟩:=key j h
  exact⟨k1,k7⟩
 ·obtain⟨_,h2,h3,_⟩:=key j h
  rw [jp] at h3;omega
 ·obtain⟨_,h2,h3,h4,_⟩:=key j h
  rw [Nat.sub_zero,hk] at h4;have:=jbR h4;rw [List.headD_eq_head?_getD,List.head?_drop] at this;exact this
 ·have:=jdI 0 s.data.toList
  rw [jp] at this;exact Nat.le_trans this hs
def jK (ts:List Sym)(m:UInt8):Bool :=
 match ts with
 | []=>false
 | x :: _=>x.1 == m
theorem ji3 {s:ByteArray}{l:List Tk}(g:Good s l){i:Nat}(hi:i<l.length){m:UInt8}(h1:m≠63)(h2:m≠120):(J3 s.data.toList l[i] == m)=(decide (l[i].kind=6) && (s.data.toList.getD l[i].fro 0 == m)):=by
 unfold J3
 by_cases h6:l[i].kind=6
 ·rw [if_pos h6,decide_eq_true h6];rfl
 ·rw [if_neg h6,decide_eq_false h6,Bool.false_and]
  split
  ·exact beq_false_of_ne (Ne.symm h1)
  ·exact beq_false_of_ne (Ne.symm h2)
theorem jfO {c:UInt8}(h:isM c=true):c≠120/\c≠63/\c≠0:=by
 refine⟨fun e=>?_,fun e=>?_,fun e=>?_⟩<;>(rw [e] at h;exact absurd h (by decide))
theorem jkf {s:ByteArray}{l:List Tk}(g:Good s l){i:Nat}(hi:i<l.length)(h3:3<l[i].kind):(J3 s.data.toList l[i] == 120)=decide (l[i].kind=4\/l[i].kind=5):=by
 have:=g.kind i hi;unfold J3
 by_cases h6:l[i].kind=6
 ·rw [if_pos h6,decide_eq_false (by omega)]
  exact beq_false_of_ne (jfO (g.mark i hi h6)).1
 ·rw [if_neg h6]
  by_cases h7:l[i].kind=7
  ·rw [if_pos h7,decide_eq_false (by omega)];rfl
  ·rw [if_neg h7,decide_eq_true (by omega)];rfl
def qP (s:ByteArray)(l:List Tk)(ts:List Sym):Nat :=
 match ts with
 | []=>s.size
 | x :: _=>(l.getD x.2 ⟨0,0,0⟩).fro
end trees
end Go.Proofs.YtnbfnjhbmeocfaaGreatDoor
