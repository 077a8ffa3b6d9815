/- Of our texts, what this claim reaches. -/
import Derived.Shelf.Strings.BuilderK
import Derived.Shelf.Strings.BuilderRune
import Derived.Shelf.Unicode.DecodeAny
import Derived.Shelf.Strconv.Itoa4
import Derived.Shelf.Small.Bits
import Derived.Shelf.LaysM
import Derived.Shelf.Small.Wraps
import Derived.Test.YtadaehaemmelfaaDoorProg
set_option linter.unusedVariables false
namespace Go.Proofs
open Go.Shelf
def Tryd.lays197_ren:Go.Shelf.Ren:=⟨fun | 197=>109 | 260=>118 | n=>n,fun | 9=>9 | 21=>21 | 3=>3 | 4=>4 | 5=>5 | 105=>91 | 119=>167 | 0=>0 | 46=>94 | 139=>170 | 138=>169 | n=>n,fun | 3=>1 | 4=>2 | n=>n⟩
theorem Tryd.lays197:Go.Proofs.Lays.n197 Tryd.prog Tryd.lays197_ren:={
 mixed:=by kernel_rfl
 f197:=Tryd.func109.trans (congrArg some (by kernel_rfl))
 f260:=Tryd.func118.trans (congrArg some (by kernel_rfl))
 t0:=Tryd.underlying0
 a0:=Tryd.isAgg0
 z0:=Tryd.sizeOf0
 v0:=Tryd.zeroValue0
 t3:=Tryd.underlying3
 a3:=Tryd.isAgg3
 z3:=Tryd.sizeOf3
 v3:=Tryd.zeroValue3
 t4:=Tryd.underlying4
 a4:=Tryd.isAgg4
 z4:=Tryd.sizeOf4
 v4:=Tryd.zeroValue4
 t5:=Tryd.underlying5
 a5:=Tryd.isAgg5
 z5:=Tryd.sizeOf5
 v5:=Tryd.zeroValue5
 t9:=Tryd.underlying9
 a9:=Tryd.isAgg9
 z9:=Tryd.sizeOf9
 v9:=Tryd.zeroValue9
 t21:=Tryd.underlying21
 a21:=Tryd.isAgg21
 z21:=Tryd.sizeOf21
 v21:=Tryd.zeroValue21
 t46:=Tryd.underlying94
 a46:=Tryd.isAgg94
 z46:=Tryd.sizeOf94
 v46:=Tryd.zeroValue94
 t105:=Tryd.underlying91
 a105:=Tryd.isAgg91
 z105:=Tryd.sizeOf91
 v105:=Tryd.zeroValue91
 t119:=Tryd.underlying167
 a119:=Tryd.isAgg167
 z119:=Tryd.sizeOf167
 t138:=Tryd.underlying169
 a138:=Tryd.isAgg169
 z138:=Tryd.sizeOf169
 v138:=Tryd.zeroValue169
 t139:=Tryd.underlying170
 a139:=Tryd.isAgg170
 z139:=Tryd.sizeOf170
 v139:=Tryd.zeroValue170
 g3:=by kernel_rfl
 g4:=by kernel_rfl }
open Go.RowKit Go.Lib in
theorem Tryd.utf8_DecodeRuneInString (s:ByteArray)(w:World)(hT:Lib.Utf8Tabs 1 2 w) :
  Calls Tryd.prog 109 #[.string s] w fun e w'=>e=.returned (.tuple #[.int .i32 (Lib.decodeGo s).1,.int .i64 (Lib.decodeGo s).2])/\Below w.heap.size w w':=Any.utf8_DecodeRuneInString Tryd.lays197 s w hT
end Go.Proofs
