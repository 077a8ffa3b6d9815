/- Of our texts, what this claim reaches. -/
import Derived.Test.YtnbfnjhbmeocfaaGreatDoorProg
import Derived.Lib.BitFns
import Derived.Lib.Strings
import Derived.Lib.Slices
import Derived.Lib.Small
import Derived.Lib.Walk
set_option linter.unusedVariables false
set_option maxHeartbeats 4000000
set_option maxRecDepth 100000
namespace Go.Proofs.YtnbfnjhbmeocfaaGreatDoor
namespace bigs
theorem Zk (b:Int)(n k p:Nat)(hp:2 ^ k=p)(hb:b=((n / p:Nat):Int))(hn:n / p<256)(hx:n<18446744073709551616)(h:p<=n) :
  Lib.len8 b=((Lib.bitLen n - k:Nat):Int)/\k<=Lib.bitLen n/\Lib.bitLen n<=k+8:=by
 subst hp;subst hb;rw [Lib.bitLen_shift k n h hx];generalize n / 2 ^ k=y at *;rw [Lib.len8_of _ (by omega) (by omega),Int.toNat_natCast];have l:=Lib.bitLen_le8 ⟨y,hn⟩;simp only at l;omega
theorem jcB (b:Int)(n:Nat)(hb:b=(n:Int))(hn:n<256):Lib.len8 b=(Lib.bitLen n:Int)/\Lib.bitLen n<=8:=by
 subst hb;rw [Lib.len8_of _ (by omega) (by omega),Int.toNat_natCast];exact⟨rfl,Lib.bitLen_le8 ⟨n,hn⟩⟩
theorem jgv (x:Int)(w:World)(h0:0<=x)(h1:x<=4294967295) :
  Calls Tryz.prog 204 #[.int .u32 x] w fun e w'=>e=.returned (.int .i64 (Lib.bitLen x.toNat))/\w'=w:=by
 go_enter Tryz.func204,Tryz.ntmps204
 go_wp2
 all_goals (go_ret;refine⟨congrArg Ending.returned (congrArg (Value.int IntKind.i64) ?_),rfl⟩)
 all_goals first
  | (have e := Zk (x / 65536 / 256 % 256) x.toNat 24 16777216 rfl (by omega) (by omega) (by omega) (by omega)
     rw [e.1];omega)
  | (have e := Zk (x / 65536 % 256) x.toNat 16 65536 rfl (by omega) (by omega) (by omega) (by omega)
     rw [e.1];omega)
  | (have e := Zk (x / 256 % 256) x.toNat 8 256 rfl (by omega) (by omega) (by omega) (by omega)
     rw [e.1];omega)
  | (have e := jcB (x % 256) x.toNat (by omega) (by omega)
     rw [e.1];omega)
theorem jgD (x:Nat)(w:World)(h:x<4294967296) :
  Calls Tryz.prog 204 #[.int .u32 x] w fun e w'=>e=.returned (.int .i64 (Lib.bitLen x))/\w'=w:=jgv (x:Int) w (by omega) (by omega)
theorem jgo (x:Int)(w:World)(h0:0<=x)(h1:x<=65535) :
  Calls Tryz.prog 218 #[.int .u64 x] w fun e w'=>e=.returned (.int .i64 (Lib.bitLen x.toNat))/\w'=w:=by
 go_enter Tryz.func218,Tryz.ntmps218
 go_wp2
 all_goals (go_ret;refine⟨congrArg Ending.returned (congrArg (Value.int IntKind.i64) ?_),rfl⟩)
 all_goals first
  | (have e := Zk (x / 256 % 256) x.toNat 8 256 rfl (by omega) (by omega) (by omega) (by omega)
     rw [e.1];omega)
  | (have e := jcB (x % 256) x.toNat (by omega) (by omega)
     rw [e.1];omega)
theorem jfG (x:Nat)(w:World)(h:x<65536) :
  Calls Tryz.prog 218 #[.int .u64 x] w fun e w'=>e=.returned (.int .i64 (Lib.bitLen x))/\w'=w:=jgo (x:Int) w (by omega) (by omega)
end bigs
end Go.Proofs.YtnbfnjhbmeocfaaGreatDoor
