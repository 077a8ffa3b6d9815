/- Of our texts, what this claim reaches. -/
import Derived.Shelf.Strings.BuilderK
import Derived.Shelf.Strings.BuilderRune
import Derived.Shelf.Strings.Prefix
import Derived.Shelf.Small.Wraps
import Derived.Shelf.Small.Strs
import Derived.Shelf.Small.Utf8
import Derived.Shelf.Unicode.DecodeAny
import Derived.Shelf.Strconv.Itoa4
import Derived.Shelf.Small.Bits
import Derived.Shelf.Strings.Search1
import Derived.Shelf.Strings.IndexAnyAll
import Derived.Shelf.Strings.Cut
import Derived.Shelf.LaysM
import Derived.Test.YticcibefchffmaaDoorProg
import Derived.Lib.ItoaNum
set_option linter.unusedVariables false
namespace Go.Proofs
open Go.Shelf
def Tryd.lays167_ren:Go.Shelf.Ren:=⟨fun | 167=>89 | 240=>48 | 276=>69 | n=>n,fun | 70=>57 | 5=>5 | 75=>62 | 0=>0 | 72=>60 | 37=>58 | 4=>4 | 164=>117 | 80=>66 | 9=>9 | n=>n,fun | n=>n⟩
theorem Tryd.lays167:Go.Proofs.Lays.n167 Tryd.prog Tryd.lays167_ren:={
 mixed:=by kernel_rfl
 f167:=Tryd.func89.trans (congrArg some (by kernel_rfl))
 f240:=Tryd.func48.trans (congrArg some (by kernel_rfl))
 f276:=Tryd.func69.trans (congrArg some (by kernel_rfl))
 t0:=Tryd.underlying0
 a0:=Tryd.isAgg0
 z0:=Tryd.sizeOf0
 v0:=Tryd.zeroValue0
 t4:=Tryd.underlying4
 a4:=Tryd.isAgg4
 z4:=Tryd.sizeOf4
 v4:=Tryd.zeroValue4
 t5:=Tryd.underlying5
 a5:=Tryd.isAgg5
 z5:=Tryd.sizeOf5
 v5:=Tryd.zeroValue5
 t9:=Tryd.underlying9
 a9:=Tryd.isAgg9
 z9:=Tryd.sizeOf9
 v9:=Tryd.zeroValue9
 t20:=Tryd.underlying20
 a20:=Tryd.isAgg20
 z20:=Tryd.sizeOf20
 v20:=Tryd.zeroValue20
 t37:=Tryd.underlying58
 a37:=Tryd.isAgg58
 z37:=Tryd.sizeOf58
 v37:=Tryd.zeroValue58
 t70:=Tryd.underlying57
 a70:=Tryd.isAgg57
 z70:=Tryd.sizeOf57
 v70:=Tryd.zeroValue57
 t72:=Tryd.underlying60
 a72:=Tryd.isAgg60
 z72:=Tryd.sizeOf60
 v72:=Tryd.zeroValue60
 t75:=Tryd.underlying62
 a75:=Tryd.isAgg62
 z75:=Tryd.sizeOf62
 v75:=Tryd.zeroValue62
 t164:=Tryd.underlying117
 a164:=Tryd.isAgg117
 z164:=Tryd.sizeOf117
 v164:=Tryd.zeroValue117 }
theorem Tryd.Builder_Extra_167:Builder.Extra Tryd.prog Tryd.lays167_ren:={
 sizeBuilder:=by kernel_rfl
 liesBuilder:=by kernel_rfl
 t5:=Tryd.underlying5
 a5:=Tryd.isAgg5
 z5:=Tryd.sizeOf5
 v5:=Tryd.zeroValue5
 infoByte:=by kernel_rfl
 cellsByte:=by kernel_rfl
 sizeByte:=by kernel_rfl
 neB5:=by decide }
def Tryd.lays166_ren:Go.Shelf.Ren:=⟨fun | 166=>29 | 240=>48 | 276=>69 | n=>n,fun | 70=>57 | 9=>9 | 3=>3 | 75=>62 | 0=>0 | 72=>60 | 37=>58 | 4=>4 | 164=>117 | 80=>66 | 5=>5 | n=>n,fun | n=>n⟩
theorem Tryd.lays166:Go.Proofs.Lays.n166 Tryd.prog Tryd.lays166_ren:={
 mixed:=by kernel_rfl
 f166:=Tryd.func29.trans (congrArg some (by kernel_rfl))
 f240:=Tryd.func48.trans (congrArg some (by kernel_rfl))
 f276:=Tryd.func69.trans (congrArg some (by kernel_rfl))
 t0:=Tryd.underlying0
 a0:=Tryd.isAgg0
 z0:=Tryd.sizeOf0
 v0:=Tryd.zeroValue0
 t3:=Tryd.underlying3
 a3:=Tryd.isAgg3
 z3:=Tryd.sizeOf3
 v3:=Tryd.zeroValue3
 t4:=Tryd.underlying4
 a4:=Tryd.isAgg4
 z4:=Tryd.sizeOf4
 v4:=Tryd.zeroValue4
 t9:=Tryd.underlying9
 a9:=Tryd.isAgg9
 z9:=Tryd.sizeOf9
 v9:=Tryd.zeroValue9
 t20:=Tryd.underlying20
 a20:=Tryd.isAgg20
 z20:=Tryd.sizeOf20
 v20:=Tryd.zeroValue20
 t37:=Tryd.underlying58
 a37:=Tryd.isAgg58
 z37:=Tryd.sizeOf58
 v37:=Tryd.zeroValue58
 t70:=Tryd.underlying57
 a70:=Tryd.isAgg57
 z70:=Tryd.sizeOf57
 v70:=Tryd.zeroValue57
 t72:=Tryd.underlying60
 a72:=Tryd.isAgg60
 z72:=Tryd.sizeOf60
 v72:=Tryd.zeroValue60
 t75:=Tryd.underlying62
 a75:=Tryd.isAgg62
 z75:=Tryd.sizeOf62
 v75:=Tryd.zeroValue62
 t164:=Tryd.underlying117
 a164:=Tryd.isAgg117
 z164:=Tryd.sizeOf117
 v164:=Tryd.zeroValue117 }
theorem Tryd.Builder_Extra_166:Builder.Extra Tryd.prog Tryd.lays166_ren:={
 sizeBuilder:=by kernel_rfl
 liesBuilder:=by kernel_rfl
 t5:=Tryd.underlying5
 a5:=Tryd.isAgg5
 z5:=Tryd.sizeOf5
 v5:=Tryd.zeroValue5
 infoByte:=by kernel_rfl
 cellsByte:=by kernel_rfl
 sizeByte:=by kernel_rfl
 neB5:=by decide }
def Tryd.lays169_ren:Go.Shelf.Ren:=⟨fun | 169=>31 | n=>n,fun | 70=>57 | 9=>9 | 0=>0 | 72=>60 | 37=>58 | 127=>95 | 3=>3 | 5=>5 | n=>n,fun | n=>n⟩
theorem Tryd.lays169:Go.Proofs.Lays.n169 Tryd.prog Tryd.lays169_ren:={
 mixed:=by kernel_rfl
 f169:=Tryd.func31.trans (congrArg some (by kernel_rfl))
 t0:=Tryd.underlying0
 a0:=Tryd.isAgg0
 z0:=Tryd.sizeOf0
 v0:=Tryd.zeroValue0
 t3:=Tryd.underlying3
 a3:=Tryd.isAgg3
 z3:=Tryd.sizeOf3
 v3:=Tryd.zeroValue3
 t9:=Tryd.underlying9
 a9:=Tryd.isAgg9
 z9:=Tryd.sizeOf9
 v9:=Tryd.zeroValue9
 t37:=Tryd.underlying58
 a37:=Tryd.isAgg58
 z37:=Tryd.sizeOf58
 v37:=Tryd.zeroValue58
 t70:=Tryd.underlying57
 a70:=Tryd.isAgg57
 z70:=Tryd.sizeOf57
 v70:=Tryd.zeroValue57
 t72:=Tryd.underlying60
 a72:=Tryd.isAgg60
 z72:=Tryd.sizeOf60
 v72:=Tryd.zeroValue60
 t127:=Tryd.underlying95
 a127:=Tryd.isAgg95
 z127:=Tryd.sizeOf95
 v127:=Tryd.zeroValue95 }
theorem Tryd.Builder_Extra_169:Builder.Extra Tryd.prog Tryd.lays169_ren:={
 sizeBuilder:=by kernel_rfl
 liesBuilder:=by kernel_rfl
 t5:=Tryd.underlying5
 a5:=Tryd.isAgg5
 z5:=Tryd.sizeOf5
 v5:=Tryd.zeroValue5
 infoByte:=by kernel_rfl
 cellsByte:=by kernel_rfl
 sizeByte:=by kernel_rfl
 neB5:=by decide }
def Tryd.lays119_ren:Go.Shelf.Ren:=⟨fun | 119=>124 | n=>n,fun | 21=>21 | 4=>4 | n=>n,fun | n=>n⟩
theorem Tryd.lays119:Go.Proofs.Lays.n119 Tryd.prog Tryd.lays119_ren:={
 mixed:=by kernel_rfl
 f119:=Tryd.func124.trans (congrArg some (by kernel_rfl))
 t4:=Tryd.underlying4
 a4:=Tryd.isAgg4
 z4:=Tryd.sizeOf4
 v4:=Tryd.zeroValue4
 t21:=Tryd.underlying21
 a21:=Tryd.isAgg21
 z21:=Tryd.sizeOf21
 v21:=Tryd.zeroValue21 }
theorem Tryd.utf8_ValidRune (r:Int)(w:World) :
  Calls Tryd.prog 124 #[.int .i32 r] w fun e w'=>e=.returned (.bool (Lib.validRune r))/\w'=w:=Any.utf8_ValidRune Tryd.lays119 r w
def Tryd.lays137_ren:Go.Shelf.Ren:=⟨fun | 137=>123 | 217=>135 | 266=>139 | n=>n,fun | 9=>9 | 5=>5 | 3=>3 | n=>n,fun | n=>n⟩
theorem Tryd.lays137:Go.Proofs.Lays.n137 Tryd.prog Tryd.lays137_ren:={
 mixed:=by kernel_rfl
 f137:=Tryd.func123.trans (congrArg some (by kernel_rfl))
 f217:=Tryd.func135.trans (congrArg some (by kernel_rfl))
 f266:=Tryd.func139.trans (congrArg some (by kernel_rfl))
 t3:=Tryd.underlying3
 a3:=Tryd.isAgg3
 z3:=Tryd.sizeOf3
 v3:=Tryd.zeroValue3
 t5:=Tryd.underlying5
 a5:=Tryd.isAgg5
 z5:=Tryd.sizeOf5
 v5:=Tryd.zeroValue5
 t9:=Tryd.underlying9
 a9:=Tryd.isAgg9
 z9:=Tryd.sizeOf9
 v9:=Tryd.zeroValue9 }
open Go.RowKit in
theorem Tryd.strings_IndexByte (s:ByteArray)(c:Int)(w:World) :
  Calls Tryd.prog 123 #[.string s,.int .u8 c] w fun e w'=>e=.returned (.int .i64 (Lib.indexByte s.data.toList c.toNat.toUInt8))/\w'=w:=Any.strings_IndexByte Tryd.lays137 s c w
def Tryd.lays103_ren:Go.Shelf.Ren:=⟨fun | 103=>51 | 210=>73 | 206=>92 | n=>n,fun | 9=>9 | 4=>4 | 24=>96 | 3=>3 | n=>n,fun | n=>n⟩
theorem Tryd.lays103:Go.Proofs.Lays.n103 Tryd.prog Tryd.lays103_ren:={
 mixed:=by kernel_rfl
 f103:=Tryd.func51.trans (congrArg some (by kernel_rfl))
 f206:=Tryd.func92.trans (congrArg some (by kernel_rfl))
 f210:=Tryd.func73.trans (congrArg some (by kernel_rfl))
 t3:=Tryd.underlying3
 a3:=Tryd.isAgg3
 z3:=Tryd.sizeOf3
 v3:=Tryd.zeroValue3
 t4:=Tryd.underlying4
 a4:=Tryd.isAgg4
 z4:=Tryd.sizeOf4
 v4:=Tryd.zeroValue4
 t9:=Tryd.underlying9
 a9:=Tryd.isAgg9
 z9:=Tryd.sizeOf9
 v9:=Tryd.zeroValue9
 t24:=Tryd.underlying96
 a24:=Tryd.isAgg96
 z24:=Tryd.sizeOf96
 v24:=Tryd.zeroValue96 }
open Go.RowKit in
theorem Tryd.strings_CutPrefix (s p:ByteArray)(w:World) :
  Calls Tryd.prog 51 #[.string s,.string p] w fun e w'=>e=.returned (.tuple #[.string ⟨(Lib.trimPrefix s.data.toList p.data.toList).toArray⟩,.bool (Lib.hasPrefix s.data.toList p.data.toList)])/\w'=w:=Any.strings_CutPrefix Tryd.lays103 s p w
open Go.RowKit in
theorem Tryd.Builder_WriteByte_k (B b:Nat)(bs:List Value)(c:Int)(w:World)(h:Lib.IsBuilderF 60 5 B b bs w)(hlen:bs.length+1<=140737488355328)(hBw:B<=w.heap.size) :
  Calls Tryd.prog 89 #[.pointer (some ⟨b,0,none⟩),.int .u8 c] w fun e w'=>e=.returned .nilIface/\(Lib.BuilderAtF 60 5 B b (.pointer (some ⟨b,0,none⟩)) (bs++[.int .u8 c]) w'/\Below B w w'/\Lib.OthersKept 5 (some b) w w'):=Any.Builder_WriteByte_k Tryd.lays167 Tryd.Builder_Extra_167 B b bs c w h hlen hBw
open Go.RowKit in
theorem Tryd.Builder_WriteString_k (B b:Nat)(bs:List Value)(s:ByteArray)(w:World)(h:Lib.IsBuilderF 60 5 B b bs w)(hlen:bs.length+s.size<=140737488355328)(hBw:B<=w.heap.size) :
  Calls Tryd.prog 29 #[.pointer (some ⟨b,0,none⟩),.string s] w fun e w'=>e=.returned (.tuple #[.int .i64 s.size,.nilIface])/\(Lib.BuilderAtF 60 5 B b (.pointer (some ⟨b,0,none⟩)) (bs++Lib.strCells s) w'/\Below B w w'/\Lib.OthersKept 5 (some b) w w'):=Any.Builder_WriteString_k Tryd.lays166 Tryd.Builder_Extra_166 B b bs s w h hlen hBw
open Go.RowKit in
theorem Tryd.Builder_String_any_k (B b:Nat)(l:List UInt8)(w:World)(h:Lib.IsBuilderF 60 5 B b (Lib.byteCells l) w)(hBw:B<=w.heap.size) :
  Calls Tryd.prog 31 #[.pointer (some ⟨b,0,none⟩)] w fun e w'=>e=.returned (.string ⟨l.toArray⟩)/\(Lib.IsBuilderF 60 5 B b (Lib.byteCells l) w'/\Below B w w'/\Lib.OthersKept 5 (some b) w w'):=Any.Builder_String_any_k Tryd.lays169 Tryd.Builder_Extra_169 B b l w h hBw
def Tryd.lays168_ren:Go.Shelf.Ren:=⟨fun | 168=>101 | 240=>48 | 242=>116 | 276=>69 | 278=>131 | n=>n,fun | 70=>57 | 21=>21 | 3=>3 | 75=>62 | 0=>0 | 72=>60 | 37=>58 | 4=>4 | 164=>117 | 51=>160 | 5=>5 | 46=>110 | 80=>66 | 9=>9 | n=>n,fun | n=>n⟩
theorem Tryd.lays168:Go.Proofs.Lays.n168 Tryd.prog Tryd.lays168_ren:={
 mixed:=by kernel_rfl
 f168:=Tryd.func101.trans (congrArg some (by kernel_rfl))
 f240:=Tryd.func48.trans (congrArg some (by kernel_rfl))
 f242:=Tryd.func116.trans (congrArg some (by kernel_rfl))
 f276:=Tryd.func69.trans (congrArg some (by kernel_rfl))
 f278:=Tryd.func131.trans (congrArg some (by kernel_rfl))
 t0:=Tryd.underlying0
 a0:=Tryd.isAgg0
 z0:=Tryd.sizeOf0
 v0:=Tryd.zeroValue0
 t3:=Tryd.underlying3
 a3:=Tryd.isAgg3
 z3:=Tryd.sizeOf3
 v3:=Tryd.zeroValue3
 t4:=Tryd.underlying4
 a4:=Tryd.isAgg4
 z4:=Tryd.sizeOf4
 v4:=Tryd.zeroValue4
 t5:=Tryd.underlying5
 a5:=Tryd.isAgg5
 z5:=Tryd.sizeOf5
 v5:=Tryd.zeroValue5
 t9:=Tryd.underlying9
 a9:=Tryd.isAgg9
 z9:=Tryd.sizeOf9
 v9:=Tryd.zeroValue9
 t20:=Tryd.underlying20
 a20:=Tryd.isAgg20
 z20:=Tryd.sizeOf20
 v20:=Tryd.zeroValue20
 t21:=Tryd.underlying21
 a21:=Tryd.isAgg21
 z21:=Tryd.sizeOf21
 v21:=Tryd.zeroValue21
 t37:=Tryd.underlying58
 a37:=Tryd.isAgg58
 z37:=Tryd.sizeOf58
 v37:=Tryd.zeroValue58
 t46:=Tryd.underlying110
 a46:=Tryd.isAgg110
 z46:=Tryd.sizeOf110
 v46:=Tryd.zeroValue110
 t51:=Tryd.underlying160
 a51:=Tryd.isAgg160
 z51:=Tryd.sizeOf160
 v51:=Tryd.zeroValue160
 t70:=Tryd.underlying57
 a70:=Tryd.isAgg57
 z70:=Tryd.sizeOf57
 v70:=Tryd.zeroValue57
 t72:=Tryd.underlying60
 a72:=Tryd.isAgg60
 z72:=Tryd.sizeOf60
 v72:=Tryd.zeroValue60
 t75:=Tryd.underlying62
 a75:=Tryd.isAgg62
 z75:=Tryd.sizeOf62
 v75:=Tryd.zeroValue62
 t164:=Tryd.underlying117
 a164:=Tryd.isAgg117
 z164:=Tryd.sizeOf117
 v164:=Tryd.zeroValue117 }
theorem Tryd.Builder_Extra_168:Builder.Extra Tryd.prog Tryd.lays168_ren:={
 sizeBuilder:=by kernel_rfl
 liesBuilder:=by kernel_rfl
 t5:=Tryd.underlying5
 a5:=Tryd.isAgg5
 z5:=Tryd.sizeOf5
 v5:=Tryd.zeroValue5
 infoByte:=by kernel_rfl
 cellsByte:=by kernel_rfl
 sizeByte:=by kernel_rfl
 neB5:=by decide }
open Go.RowKit in
theorem Tryd.Builder_WriteRune_k (B b:Nat)(bs:List Value)(r:Int)(hr0 : -2147483648<=r)(hr1:r<=2147483647)(w:World)(h:Lib.IsBuilderF 60 5 B b bs w)(hlen:bs.length+4<=140737488355328)(hBw:B<=w.heap.size) :
  Calls Tryd.prog 101 #[.pointer (some ⟨b,0,none⟩),.int .i32 r] w fun e w'=>e=.returned (.tuple #[.int .i64 (Lib.runeCells r).length,.nilIface])/\(Lib.BuilderAtF 60 5 B b (.pointer (some ⟨b,0,none⟩)) (bs++Lib.runeCells r) w'/\Below B w w'/\Lib.OthersKept 5 (some b) w w'):=Any.Builder_WriteRune_k Tryd.lays168 Tryd.Builder_Extra_168 B b bs r hr0 hr1 w h hlen hBw
def Tryd.laysM173_ren:Go.Shelf.Ren:=⟨fun | 173=>72 | 246=>91 | 283=>102 | 284=>103 | 285=>104 | 286=>105 | 129=>118 | 317=>117 | 318=>119 | 319=>120 | 320=>121 | 337=>132 | 338=>133 | n=>n,fun | 2=>2 | 3=>3 | 9=>9 | 4=>4 | 171=>140 | 0=>0 | 53=>34 | 37=>58 | 5=>5 | 173=>143 | 212=>159 | 51=>160 | 20=>20 | 213=>161 | 46=>110 | 232=>174 | 233=>175 | n=>n,fun | 17=>0 | 18=>4 | 19=>5 | n=>n⟩
theorem Tryd.laysM173:Go.Proofs.LaysM.n173 Tryd.prog Tryd.laysM173_ren:={
 mixed:=by kernel_rfl
 f129:=Tryd.func118.trans (congrArg some (by kernel_rfl))
 f173:=Tryd.func72.trans (congrArg some (by kernel_rfl))
 f246:=Tryd.func91.trans (congrArg some (by kernel_rfl))
 f283:=Tryd.func102.trans (congrArg some (by kernel_rfl))
 f284:=Tryd.func103.trans (congrArg some (by kernel_rfl))
 f285:=Tryd.func104.trans (congrArg some (by kernel_rfl))
 f286:=Tryd.func105.trans (congrArg some (by kernel_rfl))
 f317:=Tryd.func117.trans (congrArg some (by kernel_rfl))
 f318:=Tryd.func119.trans (congrArg some (by kernel_rfl))
 f319:=Tryd.func120.trans (congrArg some (by kernel_rfl))
 f320:=Tryd.func121.trans (congrArg some (by kernel_rfl))
 f337:=Tryd.func132.trans (congrArg some (by kernel_rfl))
 f338:=Tryd.func133.trans (congrArg some (by kernel_rfl))
 t0:=Tryd.underlying0
 a0:=Tryd.isAgg0
 z0:=Tryd.sizeOf0
 v0:=Tryd.zeroValue0
 t2:=Tryd.underlying2
 a2:=Tryd.isAgg2
 z2:=Tryd.sizeOf2
 v2:=Tryd.zeroValue2
 t3:=Tryd.underlying3
 a3:=Tryd.isAgg3
 z3:=Tryd.sizeOf3
 v3:=Tryd.zeroValue3
 t4:=Tryd.underlying4
 a4:=Tryd.isAgg4
 z4:=Tryd.sizeOf4
 v4:=Tryd.zeroValue4
 t5:=Tryd.underlying5
 a5:=Tryd.isAgg5
 z5:=Tryd.sizeOf5
 v5:=Tryd.zeroValue5
 t9:=Tryd.underlying9
 a9:=Tryd.isAgg9
 z9:=Tryd.sizeOf9
 v9:=Tryd.zeroValue9
 t20:=Tryd.underlying20
 a20:=Tryd.isAgg20
 z20:=Tryd.sizeOf20
 v20:=Tryd.zeroValue20
 t37:=Tryd.underlying58
 a37:=Tryd.isAgg58
 z37:=Tryd.sizeOf58
 v37:=Tryd.zeroValue58
 t46:=Tryd.underlying110
 a46:=Tryd.isAgg110
 z46:=Tryd.sizeOf110
 v46:=Tryd.zeroValue110
 t51:=Tryd.underlying160
 a51:=Tryd.isAgg160
 z51:=Tryd.sizeOf160
 v51:=Tryd.zeroValue160
 t53:=Tryd.underlying34
 a53:=Tryd.isAgg34
 z53:=Tryd.sizeOf34
 v53:=Tryd.zeroValue34
 t171:=Tryd.underlying140
 a171:=Tryd.isAgg140
 z171:=Tryd.sizeOf140
 v171:=Tryd.zeroValue140
 t173:=Tryd.underlying143
 a173:=Tryd.isAgg143
 z173:=Tryd.sizeOf143
 v173:=Tryd.zeroValue143
 t212:=Tryd.underlying159
 a212:=Tryd.isAgg159
 z212:=Tryd.sizeOf159
 v212:=Tryd.zeroValue159
 t213:=Tryd.underlying161
 a213:=Tryd.isAgg161
 z213:=Tryd.sizeOf161
 t232:=Tryd.underlying174
 a232:=Tryd.isAgg174
 z232:=Tryd.sizeOf174
 v232:=Tryd.zeroValue174
 t233:=Tryd.underlying175
 a233:=Tryd.isAgg175
 z233:=Tryd.sizeOf175
 v233:=Tryd.zeroValue175
 g17:=by kernel_rfl
 g18:=by kernel_rfl
 g19:=by kernel_rfl
 i0:=by kernel_rfl
 i2:=by kernel_rfl
 i3:=by kernel_rfl
 i4:=by kernel_rfl
 i5:=by kernel_rfl
 i9:=by kernel_rfl
 i20:=by kernel_rfl
 i37:=by kernel_rfl
 i46:=by kernel_rfl
 i51:=by kernel_rfl
 i53:=by kernel_rfl
 i171:=by kernel_rfl
 i173:=by kernel_rfl
 i212:=by kernel_rfl
 i232:=by kernel_rfl
 i233:=by kernel_rfl
 m17:=by kernel_rfl
 m18:=by kernel_rfl
 m19:=by kernel_rfl }
open Go.RowKit Go.Sort Go.Lib in
theorem Tryd.strconv_FormatInt_10 (n:Int)(h0 : -9223372036854775808<=n)(h1:n<=9223372036854775807)(w:World)(htab:Lib.TabIs Tryd.prog w "internal/strconv.uint64pow10" .u64 Lib.pow10Tab) :
  Calls Tryd.prog 72 #[.int .i64 n,.int .i64 10] w fun e w'=>e=.returned (.string ⟨(Lib.itoa n).toArray⟩)/\∃k os,w'=grow (w.drewN k) os:=Any.strconv_FormatInt_10 Tryd.laysM173 n h0 h1 w htab
def Tryd.lays145_ren:Go.Shelf.Ren:=⟨fun | 145=>96 | 220=>111 | 219=>127 | 217=>135 | 225=>126 | 224=>125 | 267=>136 | 266=>139 | 314=>140 | n=>n,fun | 9=>9 | 4=>4 | 59=>133 | 3=>3 | 5=>5 | 46=>110 | 146=>178 | 51=>160 | n=>n,fun | 1=>1 | n=>n⟩
theorem Tryd.lays145:Go.Proofs.Lays.n145 Tryd.prog Tryd.lays145_ren:={
 mixed:=by kernel_rfl
 f145:=Tryd.func96.trans (congrArg some (by kernel_rfl))
 f217:=Tryd.func135.trans (congrArg some (by kernel_rfl))
 f219:=Tryd.func127.trans (congrArg some (by kernel_rfl))
 f220:=Tryd.func111.trans (congrArg some (by kernel_rfl))
 f224:=Tryd.func125.trans (congrArg some (by kernel_rfl))
 f225:=Tryd.func126.trans (congrArg some (by kernel_rfl))
 f266:=Tryd.func139.trans (congrArg some (by kernel_rfl))
 f267:=Tryd.func136.trans (congrArg some (by kernel_rfl))
 f314:=Tryd.func140.trans (congrArg some (by kernel_rfl))
 t3:=Tryd.underlying3
 a3:=Tryd.isAgg3
 z3:=Tryd.sizeOf3
 v3:=Tryd.zeroValue3
 t4:=Tryd.underlying4
 a4:=Tryd.isAgg4
 z4:=Tryd.sizeOf4
 v4:=Tryd.zeroValue4
 t5:=Tryd.underlying5
 a5:=Tryd.isAgg5
 z5:=Tryd.sizeOf5
 v5:=Tryd.zeroValue5
 t9:=Tryd.underlying9
 a9:=Tryd.isAgg9
 z9:=Tryd.sizeOf9
 v9:=Tryd.zeroValue9
 t46:=Tryd.underlying110
 a46:=Tryd.isAgg110
 z46:=Tryd.sizeOf110
 v46:=Tryd.zeroValue110
 t51:=Tryd.underlying160
 a51:=Tryd.isAgg160
 z51:=Tryd.sizeOf160
 v51:=Tryd.zeroValue160
 t59:=Tryd.underlying133
 a59:=Tryd.isAgg133
 z59:=Tryd.sizeOf133
 v59:=Tryd.zeroValue133
 t146:=Tryd.underlying178
 a146:=Tryd.isAgg178
 z146:=Tryd.sizeOf178
 v146:=Tryd.zeroValue178
 g1:=by kernel_rfl }
open Go.RowKit Go.Lib in
theorem Tryd.strings_Cut (s sep:ByteArray)(m:Int)(w:World)(hs:s.size<4294967281)(hm:w.cell? ⟨1,0,none⟩=some (.int .i64 m)) :
  Calls Tryd.prog 96 #[.string s,.string sep] w fun e w'=>e=.returned (.tuple #[.string ⟨(Lib.cut s.data.toList sep.data.toList).1.toArray⟩,.string ⟨(Lib.cut s.data.toList sep.data.toList).2.1.toArray⟩,.bool (Lib.cut s.data.toList sep.data.toList).2.2])/\∃n,w'=w.drewN n:=Any.strings_Cut Tryd.lays145 s sep m w hs hm
def Tryd.lays99_ren:Go.Shelf.Ren:=⟨fun | 99=>93 | 206=>92 | n=>n,fun | 9=>9 | 4=>4 | 3=>3 | n=>n,fun | n=>n⟩
theorem Tryd.lays99:Go.Proofs.Lays.n99 Tryd.prog Tryd.lays99_ren:={
 mixed:=by kernel_rfl
 f99:=Tryd.func93.trans (congrArg some (by kernel_rfl))
 f206:=Tryd.func92.trans (congrArg some (by kernel_rfl))
 t3:=Tryd.underlying3
 a3:=Tryd.isAgg3
 z3:=Tryd.sizeOf3
 v3:=Tryd.zeroValue3
 t4:=Tryd.underlying4
 a4:=Tryd.isAgg4
 z4:=Tryd.sizeOf4
 v4:=Tryd.zeroValue4
 t9:=Tryd.underlying9
 a9:=Tryd.isAgg9
 z9:=Tryd.sizeOf9
 v9:=Tryd.zeroValue9 }
open Go.RowKit Go.Lib in
theorem Tryd.strings_HasPrefix (s p:ByteArray)(w:World) :
  Calls Tryd.prog 93 #[.string s,.string p] w fun e w'=>e=.returned (.bool (Lib.hasPrefix s.data.toList p.data.toList))/\w'=w:=Any.strings_HasPrefix Tryd.lays99 s p w
def Tryd.lays152_ren:Go.Shelf.Ren:=⟨fun | 152=>107 | 137=>123 | 119=>124 | 224=>125 | 225=>126 | 217=>135 | 266=>139 | n=>n,fun | 9=>9 | 21=>21 | 3=>3 | 4=>4 | 5=>5 | 0=>0 | 46=>110 | n=>n,fun | n=>n⟩
theorem Tryd.lays152:Go.Proofs.Lays.n152 Tryd.prog Tryd.lays152_ren:={
 mixed:=by kernel_rfl
 f119:=Tryd.func124.trans (congrArg some (by kernel_rfl))
 f137:=Tryd.func123.trans (congrArg some (by kernel_rfl))
 f152:=Tryd.func107.trans (congrArg some (by kernel_rfl))
 f217:=Tryd.func135.trans (congrArg some (by kernel_rfl))
 f224:=Tryd.func125.trans (congrArg some (by kernel_rfl))
 f225:=Tryd.func126.trans (congrArg some (by kernel_rfl))
 f266:=Tryd.func139.trans (congrArg some (by kernel_rfl))
 t0:=Tryd.underlying0
 a0:=Tryd.isAgg0
 z0:=Tryd.sizeOf0
 v0:=Tryd.zeroValue0
 t3:=Tryd.underlying3
 a3:=Tryd.isAgg3
 z3:=Tryd.sizeOf3
 v3:=Tryd.zeroValue3
 t4:=Tryd.underlying4
 a4:=Tryd.isAgg4
 z4:=Tryd.sizeOf4
 v4:=Tryd.zeroValue4
 t5:=Tryd.underlying5
 a5:=Tryd.isAgg5
 z5:=Tryd.sizeOf5
 v5:=Tryd.zeroValue5
 t9:=Tryd.underlying9
 a9:=Tryd.isAgg9
 z9:=Tryd.sizeOf9
 v9:=Tryd.zeroValue9
 t21:=Tryd.underlying21
 a21:=Tryd.isAgg21
 z21:=Tryd.sizeOf21
 v21:=Tryd.zeroValue21
 t46:=Tryd.underlying110
 a46:=Tryd.isAgg110
 z46:=Tryd.sizeOf110
 v46:=Tryd.zeroValue110 }
open Go.RowKit Go.Lib in
theorem Tryd.strings_IndexRune_ascii (s:ByteArray)(r:Int)(w:World)(h0:0<=r)(h1:r<128) :
  Calls Tryd.prog 107 #[.string s,.int .i32 r] w fun e w'=>e=.returned (.int .i64 (Lib.indexByte s.data.toList r.toNat.toUInt8))/\w'=w:=Any.strings_IndexRune_ascii Tryd.lays152 s r w h0 h1
def Tryd.lays226_ren:Go.Shelf.Ren:=⟨fun | 226=>108 | n=>n,fun | 3=>3 | 4=>4 | n=>n,fun | n=>n⟩
theorem Tryd.lays226:Go.Proofs.Lays.n226 Tryd.prog Tryd.lays226_ren:={
 mixed:=by kernel_rfl
 f226:=Tryd.func108.trans (congrArg some (by kernel_rfl))
 t3:=Tryd.underlying3
 a3:=Tryd.isAgg3
 z3:=Tryd.sizeOf3
 v3:=Tryd.zeroValue3
 t4:=Tryd.underlying4
 a4:=Tryd.isAgg4
 z4:=Tryd.sizeOf4
 v4:=Tryd.zeroValue4 }
open Go.RowKit Go.Lib in
theorem Tryd.strings_shouldUseASCIISet (n:Int)(w:World) :
  Calls Tryd.prog 108 #[.int .i64 n] w fun e w'=>e=.returned (.bool (decide (8<n)))/\w'=w:=Any.strings_shouldUseASCIISet Tryd.lays226 n w
def Tryd.lays153_ren:Go.Shelf.Ren:=⟨fun | 153=>95 | 152=>107 | 226=>108 | 227=>109 | 228=>110 | 137=>123 | 119=>124 | 224=>125 | 225=>126 | 217=>135 | 266=>139 | n=>n,fun | 9=>9 | 3=>3 | 4=>4 | 5=>5 | 21=>21 | 117=>150 | 116=>149 | 0=>0 | 46=>110 | 124=>165 | n=>n,fun | n=>n⟩
theorem Tryd.lays153:Go.Proofs.Lays.n153 Tryd.prog Tryd.lays153_ren:={
 mixed:=by kernel_rfl
 f119:=Tryd.func124.trans (congrArg some (by kernel_rfl))
 f137:=Tryd.func123.trans (congrArg some (by kernel_rfl))
 f152:=Tryd.func107.trans (congrArg some (by kernel_rfl))
 f153:=Tryd.func95.trans (congrArg some (by kernel_rfl))
 f217:=Tryd.func135.trans (congrArg some (by kernel_rfl))
 f224:=Tryd.func125.trans (congrArg some (by kernel_rfl))
 f225:=Tryd.func126.trans (congrArg some (by kernel_rfl))
 f226:=Tryd.func108.trans (congrArg some (by kernel_rfl))
 f227:=Tryd.func109.trans (congrArg some (by kernel_rfl))
 f228:=Tryd.func110.trans (congrArg some (by kernel_rfl))
 f266:=Tryd.func139.trans (congrArg some (by kernel_rfl))
 t0:=Tryd.underlying0
 a0:=Tryd.isAgg0
 z0:=Tryd.sizeOf0
 v0:=Tryd.zeroValue0
 t3:=Tryd.underlying3
 a3:=Tryd.isAgg3
 z3:=Tryd.sizeOf3
 v3:=Tryd.zeroValue3
 t4:=Tryd.underlying4
 a4:=Tryd.isAgg4
 z4:=Tryd.sizeOf4
 v4:=Tryd.zeroValue4
 t5:=Tryd.underlying5
 a5:=Tryd.isAgg5
 z5:=Tryd.sizeOf5
 v5:=Tryd.zeroValue5
 t9:=Tryd.underlying9
 a9:=Tryd.isAgg9
 z9:=Tryd.sizeOf9
 v9:=Tryd.zeroValue9
 t21:=Tryd.underlying21
 a21:=Tryd.isAgg21
 z21:=Tryd.sizeOf21
 v21:=Tryd.zeroValue21
 t46:=Tryd.underlying110
 a46:=Tryd.isAgg110
 z46:=Tryd.sizeOf110
 v46:=Tryd.zeroValue110
 t116:=Tryd.underlying149
 a116:=Tryd.isAgg149
 z116:=Tryd.sizeOf149
 t117:=Tryd.underlying150
 a117:=Tryd.isAgg150
 z117:=Tryd.sizeOf150
 v117:=Tryd.zeroValue150
 t124:=Tryd.underlying165
 a124:=Tryd.isAgg165
 z124:=Tryd.sizeOf165
 v124:=Tryd.zeroValue165 }
open Go.RowKit Go.Lib in
theorem Tryd.strings_IndexAny_long (hv116:∀w,(zeroValue 149).run Tryd.prog w=.ok (.agg (Array.replicate 256 (.bool false))) w)(s chars:ByteArray)(w:World)(h2:2<=chars.size)(h8:8<s.size)(hs:s.size<4294967281)(hcs:chars.size<4294967281)(hascii:∀(j:Nat) b,chars.data.toList[j]?=some b->b.toNat<128) :
  Calls Tryd.prog 95 #[.string s,.string chars] w fun e w'=>e=.returned (.int .i64 (Lib.indexAny s.data.toList chars.data.toList))/\w'=((w.alloc (.cells (Lib.setCells chars.data.toList) 149)).alloc (.cells (Lib.setCells chars.data.toList) 149)):=Any.strings_IndexAny_long Tryd.lays153 hv116 (by kernel_rfl) s chars w h2 h8 hs hcs hascii
def Tryd.lays197_ren:Go.Shelf.Ren:=⟨fun | 197=>115 | 260=>130 | n=>n,fun | 9=>9 | 21=>21 | 3=>3 | 4=>4 | 5=>5 | 105=>91 | 119=>170 | 0=>0 | 46=>110 | 139=>173 | 138=>172 | n=>n,fun | 3=>2 | 4=>3 | n=>n⟩
theorem Tryd.lays197:Go.Proofs.Lays.n197 Tryd.prog Tryd.lays197_ren:={
 mixed:=by kernel_rfl
 f197:=Tryd.func115.trans (congrArg some (by kernel_rfl))
 f260:=Tryd.func130.trans (congrArg some (by kernel_rfl))
 t0:=Tryd.underlying0
 a0:=Tryd.isAgg0
 z0:=Tryd.sizeOf0
 v0:=Tryd.zeroValue0
 t3:=Tryd.underlying3
 a3:=Tryd.isAgg3
 z3:=Tryd.sizeOf3
 v3:=Tryd.zeroValue3
 t4:=Tryd.underlying4
 a4:=Tryd.isAgg4
 z4:=Tryd.sizeOf4
 v4:=Tryd.zeroValue4
 t5:=Tryd.underlying5
 a5:=Tryd.isAgg5
 z5:=Tryd.sizeOf5
 v5:=Tryd.zeroValue5
 t9:=Tryd.underlying9
 a9:=Tryd.isAgg9
 z9:=Tryd.sizeOf9
 v9:=Tryd.zeroValue9
 t21:=Tryd.underlying21
 a21:=Tryd.isAgg21
 z21:=Tryd.sizeOf21
 v21:=Tryd.zeroValue21
 t46:=Tryd.underlying110
 a46:=Tryd.isAgg110
 z46:=Tryd.sizeOf110
 v46:=Tryd.zeroValue110
 t105:=Tryd.underlying91
 a105:=Tryd.isAgg91
 z105:=Tryd.sizeOf91
 v105:=Tryd.zeroValue91
 t119:=Tryd.underlying170
 a119:=Tryd.isAgg170
 z119:=Tryd.sizeOf170
 t138:=Tryd.underlying172
 a138:=Tryd.isAgg172
 z138:=Tryd.sizeOf172
 v138:=Tryd.zeroValue172
 t139:=Tryd.underlying173
 a139:=Tryd.isAgg173
 z139:=Tryd.sizeOf173
 v139:=Tryd.zeroValue173
 g3:=by kernel_rfl
 g4:=by kernel_rfl }
open Go.RowKit Go.Lib in
theorem Tryd.utf8_DecodeRuneInString (s:ByteArray)(w:World)(hT:Lib.Utf8Tabs 2 3 w) :
  Calls Tryd.prog 115 #[.string s] w fun e w'=>e=.returned (.tuple #[.int .i32 (Lib.decodeGo s).1,.int .i64 (Lib.decodeGo s).2])/\Below w.heap.size w w':=Any.utf8_DecodeRuneInString Tryd.lays197 s w hT
end Go.Proofs
namespace Go.Proofs.YticcibefchffmaaDoor.bigs
def hexv (c:UInt8):Nat:=if 48<=c.toNat/\c.toNat<=57 then c.toNat - 48 else if 97<=c.toNat/\c.toNat<=102 then c.toNat - 97+10 else if 65<=c.toNat/\c.toNat<=70 then c.toNat - 65+10 else 16
theorem hexv_le (c:UInt8):hexv c<=16:=by
 unfold hexv;split
 ·omega
 ·split
  ·omega
  ·split<;>omega
theorem hexv_low:hexv 95=16:=by decide
def formG (b:Nat):Bool->List UInt8->Bool
 | q,[]=>q
 | q,c :: r=>if c=95/\q=true then formG b false r else if b<=hexv c then false else formG b true r
def valG (b:Nat):Nat->List UInt8->Nat
 | n,[]=>n
 | n,c :: r=>if c=95 then valG b n r else valG b (n*b+hexv c) r
def formedL (b:Nat)(l:List UInt8):Bool:=!(b == 10 && decide (1<l.length) && l.headD 0 == 48) && formG b false l
def signCut:List UInt8->Bool×List UInt8
 | []=>(false,[])
 | c :: r=>if c=45 then (true,r) else (false,c :: r)
def baseCut:List UInt8->Nat×List UInt8
 | []=>(10,[])
 | [c]=>(10,[c])
 | c :: d :: r=>if c=48 then (if d=98 then (2,r) else if d=111 then (8,r) else if d=120 then (16,r) else (10,c :: d :: r)) else (10,c :: d :: r)
def limitOf (below:Bool):Nat:=if below then 9223372036854775808 else 9223372036854775807
def bodyRes (below:Bool)(b:Nat)(l:List UInt8):Int×Int :=
 if formedL b l=false then (0,4) else if limitOf below<valG b 0 l then (0,7) else (if below then -((valG b 0 l:Nat):Int) else ((valG b 0 l:Nat):Int),0)
def numRes (l:List UInt8):Int×Int :=
 if 80<l.length then (0,2) else bodyRes (signCut l).1 (baseCut (signCut l).2).1 (baseCut (signCut l).2).2
theorem valG_ge {b:Nat}(hb:0<b):∀(l:List UInt8) (n:Nat),n<=valG b n l:=by
 intro l
 induction l with
 | nil=>intro n;exact Nat.le_refl _
 | cons c r ih=>
  intro n;unfold valG;split
  ·exact ih n
  ·refine Nat.le_trans ?_ (ih _)
   have:=Nat.le_mul_of_pos_right n hb;omega
theorem valG_append (b:Nat):∀(l m:List UInt8) (n:Nat),valG b n (l++m)=valG b (valG b n l) m:=by
 intro l
 induction l with
 | nil=>intro m n;rfl
 | cons c r ih=>
  intro m n;rw [List.cons_append,valG,valG];split
  ·exact ih m n
  ·exact ih m _
def hexc (d:Nat):UInt8:=UInt8.ofNat (if d<10 then 48+d else 87+d)
theorem hexc_val {d:Nat}(h:d<16):hexv (hexc d)=d/\hexc d≠95:=by
 have:∀k:Fin 16,hexv (hexc k)=k/\hexc k≠95:=by decide
 exact this ⟨d,h⟩
theorem hexc_zero {d:Nat}(h:d<16):hexc d=48↔d=0:=by
 have:∀k:Fin 16,hexc k=48↔k.1=0:=by decide
 exact this ⟨d,h⟩
theorem hexc_sign {d:Nat}(h:d<16):hexc d≠45:=by
 have:∀k:Fin 16,hexc k≠45:=by decide
 exact this ⟨d,h⟩
def digF (b:Nat):Nat->Nat->List UInt8
 | 0,n=>[hexc n]
 | f+1,n=>if b<2\/n<b then [hexc n] else digF b f (n / b)++[hexc (n % b)]
def digB (b n:Nat):List UInt8:=digF b n n
theorem digF_low {b n:Nat}(h:n<b)(f:Nat):digF b f n=[hexc n]:=by
 cases f with
 | zero=>rfl
 | succ f=>rw [digF,if_pos (.inr h)]
theorem digF_same {b:Nat}(hb:2<=b)(n:Nat):∀(f g:Nat),n<=f->n<=g->digF b f n=digF b g n:=by
 induction n using Nat.strongRecOn with
 | ind n ih=>
  intro f g hf hg
  by_cases h:n<b
  ·rw [digF_low h,digF_low h]
  ·obtain⟨f',rfl⟩:∃f',f=f'+1:=⟨f - 1,by omega⟩
   obtain⟨g',rfl⟩:∃g',g=g'+1:=⟨g - 1,by omega⟩
   have hd:n / b<n:=Nat.div_lt_self (by omega) (by omega);rw [digF,digF,if_neg (by omega),if_neg (by omega),ih (n / b) hd f' g' (by omega) (by omega)]
theorem digB_low {b n:Nat}(h:n<b):digB b n=[hexc n]:=digF_low h n
theorem digB_high {b n:Nat}(hb:2<=b)(h:b<=n):digB b n=digB b (n / b)++[hexc (n % b)]:=by
 obtain⟨m,rfl⟩:∃m,n=m+1:=⟨n - 1,by omega⟩
 have hd:(m+1) / b<m+1:=Nat.div_lt_self (by omega) (by omega);unfold digB;rw [digF,if_neg (by omega),digF_same hb ((m+1) / b) m ((m+1) / b) (by omega) (Nat.le_refl _)]
theorem digB_ten (n:Nat):digB 10 n=Lib.decDigits n:=by
 induction n using Nat.strongRecOn with
 | ind n ih=>
  by_cases h:n<10
  ·rw [digB_low h,Lib.decDigits,dif_pos h,hexc,if_pos h]
  ·rw [digB_high (by decide) (by omega),Lib.decDigits,dif_neg h,ih _ (by omega),hexc,if_pos (by omega)]
theorem digB_val {b:Nat}(h2:2<=b)(h16:b<=16)(n:Nat):valG b 0 (digB b n)=n:=by
 induction n using Nat.strongRecOn with
 | ind n ih=>
  by_cases h:n<b
  ·obtain⟨e,ne⟩:=hexc_val (d:=n) (by omega)
   rw [digB_low h,valG,if_neg ne,e,valG];omega
  ·have hm:n % b<b:=Nat.mod_lt _ (by omega)
   obtain⟨e,ne⟩:=hexc_val (d:=n % b) (by omega);rw [digB_high h2 (by omega),valG_append,ih _ (Nat.div_lt_self (by omega) (by omega)),valG,if_neg ne,e,valG];rw [Nat.mul_comm];exact Nat.div_add_mod n b
theorem digB_form {b:Nat}(h2:2<=b)(h16:b<=16)(n:Nat):∀q,formG b q (digB b n)=true:=by
 induction n using Nat.strongRecOn with
 | ind n ih=>
  intro q
  by_cases h:n<b
  ·obtain⟨e,ne⟩:=hexc_val (d:=n) (by omega)
   rw [digB_low h,formG,if_neg (by simp [ne]),e,if_neg (by omega),formG]
  ·have hm:n % b<b:=Nat.mod_lt _ (by omega)
   obtain⟨e,ne⟩:=hexc_val (d:=n % b) (by omega);have i:=ih (n / b) (Nat.div_lt_self (by omega) (by omega)) q;rw [digB_high h2 (by omega)];generalize digB b (n / b)=l at *;clear h ih
   induction l generalizing q with
   | nil=>rw [List.nil_append,formG,if_neg (by simp [ne]),e,if_neg (by omega),formG]
   | cons a r ih2=>
    rw [formG] at i;rw [List.cons_append,formG];split at i
    ·rename_i hc
     rw [if_pos hc];exact ih2 false i
    ·rename_i hc
     rw [if_neg hc];split at i
     ·cases i
     ·rename_i hk
      rw [if_neg hk];exact ih2 true i
theorem digB_head {b:Nat}(h2:2<=b)(h16:b<=16)(n:Nat):∃d r,digB b n=hexc d :: r/\d<16/\(d=0->r=[]):=by
 induction n using Nat.strongRecOn with
 | ind n ih=>
  by_cases h:n<b
  ·exact⟨n,[],digB_low h,by omega,fun _=>rfl⟩
  ·obtain⟨d,r,e,hd,h0⟩:=ih (n / b) (Nat.div_lt_self (by omega) (by omega))
   refine⟨d,r++[hexc (n % b)],by rw [digB_high h2 (by omega),e];rfl,hd,fun z=>?_⟩
   exfalso
   have hr:=h0 z;subst z hr;have v:=digB_val h2 h16 (n / b);rw [e,valG,if_neg (by decide),valG] at v;have z:hexv (hexc 0)=0:=by decide
   rw [z] at v;have p:0<n / b:=Nat.div_pos (by omega) (by omega);omega
theorem digB_len {b:Nat}(h2:2<=b):∀(k n:Nat),n<b ^ (k+1)->(digB b n).length<=k+1:=by
 intro k
 induction k with
 | zero=>
  intro n h;rw [digB_low (by simpa using h)];simp
 | succ k ih=>
  intro n h
  by_cases c:n<b
  ·rw [digB_low c];simp
  ·rw [digB_high h2 (by omega),List.length_append]
   have:=ih (n / b) (by rw [Nat.div_lt_iff_lt_mul (by omega)];rwa [Nat.pow_succ] at h);simp;omega
def preB (b:Nat):List UInt8:=if b=2 then [48,98] else if b=8 then [48,111] else if b=16 then [48,120] else []
def tellB (b:Nat)(n:Int):List UInt8:=(if n<0 then [45] else [])++(preB b++digB b n.natAbs)
def GoodB (b:Nat):Prop:=b=2\/b=8\/b=10\/b=16
theorem baseCut_tell {b:Nat}(hb:GoodB b)(m:Nat):baseCut (preB b++digB b m)=(b,digB b m):=by
 rcases hb with rfl | rfl | rfl | rfl
 ·simp [preB,baseCut]
 ·simp [preB,baseCut]
 ·obtain⟨d,r,e,hd,h0⟩:=digB_head (b:=10) (by decide) (by decide) m
  rw [show preB 10=[] by rfl,List.nil_append,e];cases r with
  | nil=>rfl
  | cons x r=>
   simp only [baseCut];rw [if_neg];intro z;exact absurd (h0 ((hexc_zero hd).1 z)) (by simp)
 ·simp [preB,baseCut]
theorem formed_tell {b:Nat}(hb:GoodB b)(m:Nat):formedL b (digB b m)=true:=by
 have h2:2<=b:=by unfold GoodB at hb;omega
 have h16:b<=16:=by unfold GoodB at hb;omega
 unfold formedL;rw [digB_form h2 h16 m false];obtain⟨d,r,e,hd,h0⟩:=digB_head h2 h16 m;rw [e];cases r with
 | nil=>simp
 | cons x r=>
  have:hexc d≠48:=fun z=>absurd (h0 ((hexc_zero hd).1 z)) (by simp)
  simp [this]
theorem tell_head {b:Nat}(hb:GoodB b)(m:Nat):∃c r,preB b++digB b m=c :: r/\c≠45:=by
 rcases hb with rfl | rfl | rfl | rfl
 ·exact⟨48,_,rfl,by decide⟩
 ·exact⟨48,_,rfl,by decide⟩
 ·obtain⟨d,r,e,hd,h0⟩:=digB_head (b:=10) (by decide) (by decide) m
  exact⟨hexc d,r,e,hexc_sign hd⟩
 ·exact⟨48,_,rfl,by decide⟩
theorem tell_len {b:Nat}(hb:GoodB b)(n:Int)(h0 : -9223372036854775808<=n)(h1:n<=9223372036854775807):(tellB b n).length<=67:=by
 have h2:2<=b:=by unfold GoodB at hb;omega
 have hk:(digB b n.natAbs).length<=64:=by
  refine digB_len h2 63 _ (Nat.lt_of_lt_of_le (m:=2 ^ 64) (by omega) ?_);exact Nat.pow_le_pow_left h2 64
 have hp:(preB b).length<=2:=by
  unfold preB;split
  ·simp
  ·split
   ·simp
   ·split<;>simp
 unfold tellB;rw [List.length_append,List.length_append];split<;>simp<;>omega
theorem read_tell {b:Nat}(hb:GoodB b)(n:Int)(h0 : -9223372036854775808<=n)(h1:n<=9223372036854775807):numRes (tellB b n)=(n,0):=by
 have h2:2<=b:=by unfold GoodB at hb;omega
 have h16:b<=16:=by unfold GoodB at hb;omega
 have hl:=tell_len hb n h0 h1;unfold numRes;rw [if_neg (by omega)]
 have hs:signCut (tellB b n)=(decide (n<0),preB b++digB b n.natAbs):=by
  unfold tellB
  by_cases c:n<0
  ·rw [if_pos c];simp [signCut,c]
  ·rw [if_neg c,List.nil_append]
   obtain⟨x,r,e,hx⟩:=tell_head hb n.natAbs;rw [e,signCut,if_neg hx];simp [c]
 rw [hs];simp only;rw [baseCut_tell hb];unfold bodyRes;simp only;rw [formed_tell hb,if_neg (by decide),digB_val h2 h16]
 by_cases c:n<0
 ·simp only [c,decide_true,limitOf,if_true]
  rw [if_neg (by omega)]
  congr 1
  omega
 ·simp only [c,decide_false,limitOf,Bool.false_eq_true,if_false]
  rw [if_neg (by omega)]
  congr 1
  omega
end Go.Proofs.YticcibefchffmaaDoor.bigs
