/- Of our texts, what this claim reaches. -/
import Derived.Shelf.Strings.BuilderK
import Derived.Shelf.Strings.BuilderRune
import Derived.Shelf.Strings.Prefix
import Derived.Shelf.Small.Wraps
import Derived.Shelf.Small.Strs
import Derived.Shelf.Small.Utf8
import Derived.Shelf.Unicode.DecodeAny
import Derived.Shelf.Strconv.Itoa4
import Derived.Shelf.Small.Bits
import Derived.Shelf.Strings.Search1
import Derived.Shelf.Strings.IndexAnyAll
import Derived.Shelf.Strings.Cut
import Derived.Shelf.LaysM
import Derived.Test.YticcibefchffmaaDoorProg
import Derived.Lib.ItoaNum
set_option linter.unusedVariables false
namespace Go.Proofs
open Go.Shelf
def Tryd.lays167_ren:Go.Shelf.Ren:=⟨fun | 167=>89 | 240=>48 | 276=>69 | n=>n,fun | 70=>57 | 5=>5 | 75=>62 | 0=>0 | 72=>60 | 37=>58 | 4=>4 | 164=>117 | 80=>66 | 9=>9 | n=>n,fun | n=>n⟩
theorem Tryd.lays167:Go.Proofs.Lays.n167 Tryd.prog Tryd.lays167_ren:={
 mixed:=by kernel_rfl
 f167:=Tryd.func89.trans (congrArg some (by kernel_rfl))
 f240:=Tryd.func48.trans (congrArg some (by kernel_rfl))
 f276:=Tryd.func69.trans (congrArg some (by kernel_rfl))
 t0:=Tryd.underlying0
 a0:=Tryd.isAgg0
 z0:=Tryd.sizeOf0
 v0:=Tryd.zeroValue0
 t4:=Tryd.underlying4
 a4:=Tryd.isAgg4
 z4:=Tryd.sizeOf4
 v4:=Tryd.zeroValue4
 t5:=Tryd.underlying5
 a5:=Tryd.isAgg5
 z5:=Tryd.sizeOf5
 v5:=Tryd.zeroValue5
 t9:=Tryd.underlying9
 a9:=Tryd.isAgg9
 z9:=Tryd.sizeOf9
 v9:=Tryd.zeroValue9
 t20:=Tryd.underlying20
 a20:=Tryd.isAgg20
 z20:=Tryd.sizeOf20
 v20:=Tryd.zeroValue20
 t37:=Tryd.underlying58
 a37:=Tryd.isAgg58
 z37:=Tryd.sizeOf58
 v37:=Tryd.zeroValue58
 t70:=Tryd.underlying57
 a70:=Tryd.isAgg57
 z70:=Tryd.sizeOf57
 v70:=Tryd.zeroValue57
 t72:=Tryd.underlying60
 a72:=Tryd.isAgg60
 z72:=Tryd.sizeOf60
 v72:=Tryd.zeroValue60
 t75:=Tryd.underlying62
 a75:=Tryd.isAgg62
 z75:=Tryd.sizeOf62
 v75:=Tryd.zeroValue62
 t164:=Tryd.underlying117
 a164:=Tryd.isAgg117
 z164:=Tryd.sizeOf117
 v164:=Tryd.zeroValue117 }
theorem Tryd.Builder_Extra_167:Builder.Extra Tryd.prog Tryd.lays167_ren:={
 sizeBuilder:=by kernel_rfl
 liesBuilder:=by kernel_rfl
 t5:=Tryd.underlying5
 a5:=Tryd.isAgg5
 z5:=Tryd.sizeOf5
 v5:=Tryd.zeroValue5
 infoByte:=by kernel_rfl
 cellsByte:=by kernel_rfl
 sizeByte:=by kernel_rfl
 neB5:=by decide }
def Tryd.lays166_ren:Go.Shelf.Ren:=⟨fun | 166=>29 | 240=>48 | 276=>69 | n=>n,fun | 70=>57 | 9=>9 | 3=>3 | 75=>62 | 0=>0 | 72=>60 | 37=>58 | 4=>4 | 164=>117 | 80=>66 | 5=>5 | n=>n,fun | n=>n⟩
theorem Tryd.lays166:Go.Proofs.Lays.n166 Tryd.prog Tryd.lays166_ren:={
 mixed:=by kernel_rfl
 f166:=Tryd.func29.trans (congrArg some (by kernel_rfl))
 f240:=Tryd.func48.trans (congrArg some (by kernel_rfl))
 f276:=Tryd.func69.trans (congrArg some (by kernel_rfl))
 t0:=Tryd.underlying0
 a0:=Tryd.isAgg0
 z0:=Tryd.sizeOf0
 v0:=Tryd.zeroValue0
 t3:=Tryd.underlying3
 a3:=Tryd.isAgg3
 z3:=Tryd.sizeOf3
 v3:=Tryd.zeroValue3
 t4:=Tryd.underlying4
 a4:=Tryd.isAgg4
 z4:=Tryd.sizeOf4
 v4:=Tryd.zeroValue4
 t9:=Tryd.underlying9
 a9:=Tryd.isAgg9
 z9:=Tryd.sizeOf9
 v9:=Tryd.zeroValue9
 t20:=Tryd.underlying20
 a20:=Tryd.isAgg20
 z20:=Tryd.sizeOf20
 v20:=Tryd.zeroValue20
 t37:=Tryd.underlying58
 a37:=Tryd.isAgg58
 z37:=Tryd.sizeOf58
 v37:=Tryd.zeroValue58
 t70:=Tryd.underlying57
 a70:=Tryd.isAgg57
 z70:=Tryd.sizeOf57
 v70:=Tryd.zeroValue57
 t72:=Tryd.underlying60
 a72:=Tryd.isAgg60
 z72:=Tryd.sizeOf60
 v72:=Tryd.zeroValue60
 t75:=Tryd.underlying62
 a75:=Tryd.isAgg62
 z75:=Tryd.sizeOf62
 v75:=Tryd.zeroValue62
 t164:=Tryd.underlying117
 a164:=Tryd.isAgg117
 z164:=Tryd.sizeOf117
 v164:=Tryd.zeroValue117 }
theorem Tryd.Builder_Extra_166:Builder.Extra Tryd.prog Tryd.lays166_ren:={
 sizeBuilder:=by kernel_rfl
 liesBuilder:=by kernel_rfl
 t5:=Tryd.underlying5
 a5:=Tryd.isAgg5
 z5:=Tryd.sizeOf5
 v5:=Tryd.zeroValue5
 infoByte:=by kernel_rfl
 cellsByte:=by kernel_rfl
 sizeByte:=by kernel_rfl
 neB5:=by decide }
def Tryd.lays169_ren:Go.Shelf.Ren:=⟨fun | 169=>31 | n=>n,fun | 70=>57 | 9=>9 | 0=>0 | 72=>60 | 37=>58 | 127=>95 | 3=>3 | 5=>5 | n=>n,fun | n=>n⟩
theorem Tryd.lays169:Go.Proofs.Lays.n169 Tryd.prog Tryd.lays169_ren:={
 mixed:=by kernel_rfl
 f169:=Tryd.func31.trans (congrArg some (by kernel_rfl))
 t0:=Tryd.underlying0
 a0:=Tryd.isAgg0
 z0:=Tryd.sizeOf0
 v0:=Tryd.zeroValue0
 t3:=Tryd.underlying3
 a3:=Tryd.isAgg3
 z3:=Tryd.sizeOf3
 v3:=Tryd.zeroValue3
 t9:=Tryd.underlying9
 a9:=Tryd.isAgg9
 z9:=Tryd.sizeOf9
 v9:=Tryd.zeroValue9
 t37:=Tryd.underlying58
 a37:=Tryd.isAgg58
 z37:=Tryd.sizeOf58
 v37:=Tryd.zeroValue58
 t70:=Tryd.underlying57
 a70:=Tryd.isAgg57
 z70:=Tryd.sizeOf57
 v70:=Tryd.zeroValue57
 t72:=Tryd.underlying60
 a72:=Tryd.isAgg60
 z72:=Tryd.sizeOf60
 v72:=Tryd.zeroValue60
 t127:=Tryd.underlying95
 a127:=Tryd.isAgg95
 z127:=Tryd.sizeOf95
 v127:=Tryd.zeroValue95 }
theorem Tryd.Builder_Extra_169:Builder.Extra Tryd.prog Tryd.lays169_ren:={
 sizeBuilder:=by kernel_rfl
 liesBuilder:=by kernel_rfl
 t5:=Tryd.underlying5
 a5:=Tryd.isAgg5
 z5:=Tryd.sizeOf5
 v5:=Tryd.zeroValue5
 infoByte:=by kernel_rfl
 cellsByte:=by kernel_rfl
 sizeByte:=by kernel_rfl
 neB5:=by decide }
open Go.RowKit in
theorem Tryd.Builder_WriteByte_k (B b:Nat)(bs:List Value)(c:Int)(w:World)(h:Lib.IsBuilderF 60 5 B b bs w)(hlen:bs.length+1<=140737488355328)(hBw:B<=w.heap.size) :
  Calls Tryd.prog 89 #[.pointer (some ⟨b,0,none⟩),.int .u8 c] w fun e w'=>e=.returned .nilIface/\(Lib.BuilderAtF 60 5 B b (.pointer (some ⟨b,0,none⟩)) (bs++[.int .u8 c]) w'/\Below B w w'/\Lib.OthersKept 5 (some b) w w'):=Any.Builder_WriteByte_k Tryd.lays167 Tryd.Builder_Extra_167 B b bs c w h hlen hBw
open Go.RowKit in
theorem Tryd.Builder_WriteString_k (B b:Nat)(bs:List Value)(s:ByteArray)(w:World)(h:Lib.IsBuilderF 60 5 B b bs w)(hlen:bs.length+s.size<=140737488355328)(hBw:B<=w.heap.size) :
  Calls Tryd.prog 29 #[.pointer (some ⟨b,0,none⟩),.string s] w fun e w'=>e=.returned (.tuple #[.int .i64 s.size,.nilIface])/\(Lib.BuilderAtF 60 5 B b (.pointer (some ⟨b,0,none⟩)) (bs++Lib.strCells s) w'/\Below B w w'/\Lib.OthersKept 5 (some b) w w'):=Any.Builder_WriteString_k Tryd.lays166 Tryd.Builder_Extra_166 B b bs s w h hlen hBw
open Go.RowKit in
theorem Tryd.Builder_String_any_k (B b:Nat)(l:List UInt8)(w:World)(h:Lib.IsBuilderF 60 5 B b (Lib.byteCells l) w)(hBw:B<=w.heap.size) :
  Calls Tryd.prog 31 #[.pointer (some ⟨b,0,none⟩)] w fun e w'=>e=.returned (.string ⟨l.toArray⟩)/\(Lib.IsBuilderF 60 5 B b (Lib.byteCells l) w'/\Below B w w'/\Lib.OthersKept 5 (some b) w w'):=Any.Builder_String_any_k Tryd.lays169 Tryd.Builder_Extra_169 B b l w h hBw
def Tryd.lays168_ren:Go.Shelf.Ren:=⟨fun | 168=>101 | 240=>48 | 242=>116 | 276=>69 | 278=>131 | n=>n,fun | 70=>57 | 21=>21 | 3=>3 | 75=>62 | 0=>0 | 72=>60 | 37=>58 | 4=>4 | 164=>117 | 51=>160 | 5=>5 | 46=>110 | 80=>66 | 9=>9 | n=>n,fun | n=>n⟩
theorem Tryd.lays168:Go.Proofs.Lays.n168 Tryd.prog Tryd.lays168_ren:={
 mixed:=by kernel_rfl
 f168:=Tryd.func101.trans (congrArg some (by kernel_rfl))
 f240:=Tryd.func48.trans (congrArg some (by kernel_rfl))
 f242:=Tryd.func116.trans (congrArg some (by kernel_rfl))
 f276:=Tryd.func69.trans (congrArg some (by kernel_rfl))
 f278:=Tryd.func131.trans (congrArg some (by kernel_rfl))
 t0:=Tryd.underlying0
 a0:=Tryd.isAgg0
 z0:=Tryd.sizeOf0
 v0:=Tryd.zeroValue0
 t3:=Tryd.underlying3
 a3:=Tryd.isAgg3
 z3:=Tryd.sizeOf3
 v3:=Tryd.zeroValue3
 t4:=Tryd.underlying4
 a4:=Tryd.isAgg4
 z4:=Tryd.sizeOf4
 v4:=Tryd.zeroValue4
 t5:=Tryd.underlying5
 a5:=Tryd.isAgg5
 z5:=Tryd.sizeOf5
 v5:=Tryd.zeroValue5
 t9:=Tryd.underlying9
 a9:=Tryd.isAgg9
 z9:=Tryd.sizeOf9
 v9:=Tryd.zeroValue9
 t20:=Tryd.underlying20
 a20:=Tryd.isAgg20
 z20:=Tryd.sizeOf20
 v20:=Tryd.zeroValue20
 t21:=Tryd.underlying21
 a21:=Tryd.isAgg21
 z21:=Tryd.sizeOf21
 v21:=Tryd.zeroValue21
 t37:=Tryd.underlying58
 a37:=Tryd.isAgg58
 z37:=Tryd.sizeOf58
 v37:=Tryd.zeroValue58
 t46:=Tryd.underlying110
 a46:=Tryd.isAgg110
 z46:=Tryd.sizeOf110
 v46:=Tryd.zeroValue110
 t51:=Tryd.underlying160
 a51:=Tryd.isAgg160
 z51:=Tryd.sizeOf160
 v51:=Tryd.zeroValue160
 t70:=Tryd.underlying57
 a70:=Tryd.isAgg57
 z70:=Tryd.sizeOf57
 v70:=Tryd.zeroValue57
 t72:=Tryd.underlying60
 a72:=Tryd.isAgg60
 z72:=Tryd.sizeOf60
 v72:=Tryd.zeroValue60
 t75:=Tryd.underlying62
 a75:=Tryd.isAgg62
 z75:=Tryd.sizeOf62
 v75:=Tryd.zeroValue62
 t164:=Tryd.underlying117
 a164:=Tryd.isAgg117
 z164:=Tryd.sizeOf117
 v164:=Tryd.zeroValue117 }
theorem Tryd.Builder_Extra_168:Builder.Extra Tryd.prog Tryd.lays168_ren:={
 sizeBuilder:=by kernel_rfl
 liesBuilder:=by kernel_rfl
 t5:=Tryd.underlying5
 a5:=Tryd.isAgg5
 z5:=Tryd.sizeOf5
 v5:=Tryd.zeroValue5
 infoByte:=by kernel_rfl
 cellsByte:=by kernel_rfl
 sizeByte:=by kernel_rfl
 neB5:=by decide }
open Go.RowKit in
theorem Tryd.Builder_WriteRune_k (B b:Nat)(bs:List Value)(r:Int)(hr0 : -2147483648<=r)(hr1:r<=2147483647)(w:World)(h:Lib.IsBuilderF 60 5 B b bs w)(hlen:bs.length+4<=140737488355328)(hBw:B<=w.heap.size) :
  Calls Tryd.prog 101 #[.pointer (some ⟨b,0,none⟩),.int .i32 r] w fun e w'=>e=.returned (.tuple #[.int .i64 (Lib.runeCells r).length,.nilIface])/\(Lib.BuilderAtF 60 5 B b (.pointer (some ⟨b,0,none⟩)) (bs++Lib.runeCells r) w'/\Below B w w'/\Lib.OthersKept 5 (some b) w w'):=Any.Builder_WriteRune_k Tryd.lays168 Tryd.Builder_Extra_168 B b bs r hr0 hr1 w h hlen hBw
def Tryd.laysM173_ren:Go.Shelf.Ren:=⟨fun | 173=>72 | 246=>91 | 283=>102 | 284=>103 | 285=>104 | 286=>105 | 129=>118 | 317=>117 | 318=>119 | 319=>120 | 320=>121 | 337=>132 | 338=>133 | n=>n,fun | 2=>2 | 3=>3 | 9=>9 | 4=>4 | 171=>140 | 0=>0 | 53=>34 | 37=>58 | 5=>5 | 173=>143 | 212=>159 | 51=>160 | 20=>20 | 213=>161 | 46=>110 | 232=>174 | 233=>175 | n=>n,fun | 17=>0 | 18=>4 | 19=>5 | n=>n⟩
theorem Tryd.laysM173:Go.Proofs.LaysM.n173 Tryd.prog Tryd.laysM173_ren:={
 mixed:=by kernel_rfl
 f129:=Tryd.func118.trans (congrArg some (by kernel_rfl))
 f173:=Tryd.func72.trans (congrArg some (by kernel_rfl))
 f246:=Tryd.func91.trans (congrArg some (by kernel_rfl))
 f283:=Tryd.func102.trans (congrArg some (by kernel_rfl))
 f284:=Tryd.func103.trans (congrArg some (by kernel_rfl))
 f285:=Tryd.func104.trans (congrArg some (by kernel_rfl))
 f286:=Tryd.func105.trans (congrArg some (by kernel_rfl))
 f317:=Tryd.func117.trans (congrArg some (by kernel_rfl))
 f318:=Tryd.func119.trans (congrArg some (by kernel_rfl))
 f319:=Tryd.func120.trans (congrArg some (by kernel_rfl))
 f320:=Tryd.func121.trans (congrArg some (by kernel_rfl))
 f337:=Tryd.func132.trans (congrArg some (by kernel_rfl))
 f338:=Tryd.func133.trans (congrArg some (by kernel_rfl))
 t0:=Tryd.underlying0
 a0:=Tryd.isAgg0
 z0:=Tryd.sizeOf0
 v0:=Tryd.zeroValue0
 t2:=Tryd.underlying2
 a2:=Tryd.isAgg2
 z2:=Tryd.sizeOf2
 v2:=Tryd.zeroValue2
 t3:=Tryd.underlying3
 a3:=Tryd.isAgg3
 z3:=Tryd.sizeOf3
 v3:=Tryd.zeroValue3
 t4:=Tryd.underlying4
 a4:=Tryd.isAgg4
 z4:=Tryd.sizeOf4
 v4:=Tryd.zeroValue4
 t5:=Tryd.underlying5
 a5:=Tryd.isAgg5
 z5:=Tryd.sizeOf5
 v5:=Tryd.zeroValue5
 t9:=Tryd.underlying9
 a9:=Tryd.isAgg9
 z9:=Tryd.sizeOf9
 v9:=Tryd.zeroValue9
 t20:=Tryd.underlying20
 a20:=Tryd.isAgg20
 z20:=Tryd.sizeOf20
 v20:=Tryd.zeroValue20
 t37:=Tryd.underlying58
 a37:=Tryd.isAgg58
 z37:=Tryd.sizeOf58
 v37:=Tryd.zeroValue58
 t46:=Tryd.underlying110
 a46:=Tryd.isAgg110
 z46:=Tryd.sizeOf110
 v46:=Tryd.zeroValue110
 t51:=Tryd.underlying160
 a51:=Tryd.isAgg160
 z51:=Tryd.sizeOf160
 v51:=Tryd.zeroValue160
 t53:=Tryd.underlying34
 a53:=Tryd.isAgg34
 z53:=Tryd.sizeOf34
 v53:=Tryd.zeroValue34
 t171:=Tryd.underlying140
 a171:=Tryd.isAgg140
 z171:=Tryd.sizeOf140
 v171:=Tryd.zeroValue140
 t173:=Tryd.underlying143
 a173:=Tryd.isAgg143
 z173:=Tryd.sizeOf143
 v173:=Tryd.zeroValue143
 t212:=Tryd.underlying159
 a212:=Tryd.isAgg159
 z212:=Tryd.sizeOf159
 v212:=Tryd.zeroValue159
 t213:=Tryd.underlying161
 a213:=Tryd.isAgg161
 z213:=Tryd.sizeOf161
 t232:=Tryd.underlying174
 a232:=Tryd.isAgg174
 z232:=Tryd.sizeOf174
 v232:=Tryd.zeroValue174
 t233:=Tryd.underlying175
 a233:=Tryd.isAgg175
 z233:=Tryd.sizeOf175
 v233:=Tryd.zeroValue175
 g17:=by kernel_rfl
 g18:=by kernel_rfl
 g19:=by kernel_rfl
 i0:=by kernel_rfl
 i2:=by kernel_rfl
 i3:=by kernel_rfl
 i4:=by kernel_rfl
 i5:=by kernel_rfl
 i9:=by kernel_rfl
 i20:=by kernel_rfl
 i37:=by kernel_rfl
 i46:=by kernel_rfl
 i51:=by kernel_rfl
 i53:=by kernel_rfl
 i171:=by kernel_rfl
 i173:=by kernel_rfl
 i212:=by kernel_rfl
 i232:=by kernel_rfl
 i233:=by kernel_rfl
 m17:=by kernel_rfl
 m18:=by kernel_rfl
 m19:=by kernel_rfl }
open Go.RowKit Go.Sort Go.Lib in
theorem Tryd.strconv_FormatInt_10 (n:Int)(h0 : -9223372036854775808<=n)(h1:n<=9223372036854775807)(w:World)(htab:Lib.TabIs Tryd.prog w "internal/strconv.uint64pow10" .u64 Lib.pow10Tab) :
  Calls Tryd.prog 72 #[.int .i64 n,.int .i64 10] w fun e w'=>e=.returned (.string ⟨(Lib.itoa n).toArray⟩)/\∃k os,w'=grow (w.drewN k) os:=Any.strconv_FormatInt_10 Tryd.laysM173 n h0 h1 w htab
def Tryd.lays197_ren:Go.Shelf.Ren:=⟨fun | 197=>115 | 260=>130 | n=>n,fun | 9=>9 | 21=>21 | 3=>3 | 4=>4 | 5=>5 | 105=>91 | 119=>170 | 0=>0 | 46=>110 | 139=>173 | 138=>172 | n=>n,fun | 3=>2 | 4=>3 | n=>n⟩
theorem Tryd.lays197:Go.Proofs.Lays.n197 Tryd.prog Tryd.lays197_ren:={
 mixed:=by kernel_rfl
 f197:=Tryd.func115.trans (congrArg some (by kernel_rfl))
 f260:=Tryd.func130.trans (congrArg some (by kernel_rfl))
 t0:=Tryd.underlying0
 a0:=Tryd.isAgg0
 z0:=Tryd.sizeOf0
 v0:=Tryd.zeroValue0
 t3:=Tryd.underlying3
 a3:=Tryd.isAgg3
 z3:=Tryd.sizeOf3
 v3:=Tryd.zeroValue3
 t4:=Tryd.underlying4
 a4:=Tryd.isAgg4
 z4:=Tryd.sizeOf4
 v4:=Tryd.zeroValue4
 t5:=Tryd.underlying5
 a5:=Tryd.isAgg5
 z5:=Tryd.sizeOf5
 v5:=Tryd.zeroValue5
 t9:=Tryd.underlying9
 a9:=Tryd.isAgg9
 z9:=Tryd.sizeOf9
 v9:=Tryd.zeroValue9
 t21:=Tryd.underlying21
 a21:=Tryd.isAgg21
 z21:=Tryd.sizeOf21
 v21:=Tryd.zeroValue21
 t46:=Tryd.underlying110
 a46:=Tryd.isAgg110
 z46:=Tryd.sizeOf110
 v46:=Tryd.zeroValue110
 t105:=Tryd.underlying91
 a105:=Tryd.isAgg91
 z105:=Tryd.sizeOf91
 v105:=Tryd.zeroValue91
 t119:=Tryd.underlying170
 a119:=Tryd.isAgg170
 z119:=Tryd.sizeOf170
 t138:=Tryd.underlying172
 a138:=Tryd.isAgg172
 z138:=Tryd.sizeOf172
 v138:=Tryd.zeroValue172
 t139:=Tryd.underlying173
 a139:=Tryd.isAgg173
 z139:=Tryd.sizeOf173
 v139:=Tryd.zeroValue173
 g3:=by kernel_rfl
 g4:=by kernel_rfl }
open Go.RowKit Go.Lib in
theorem Tryd.utf8_DecodeRuneInString (s:ByteArray)(w:World)(hT:Lib.Utf8Tabs 2 3 w) :
  Calls Tryd.prog 115 #[.string s] w fun e w'=>e=.returned (.tuple #[.int .i32 (Lib.decodeGo s).1,.int .i64 (Lib.decodeGo s).2])/\Below w.heap.size w w':=Any.utf8_DecodeRuneInString Tryd.lays197 s w hT
end Go.Proofs
namespace Go.Proofs.YticcibefchffmaaDoor.bigs
def hexc (d:Nat):UInt8:=UInt8.ofNat (if d<10 then 48+d else 87+d)
def digF (b:Nat):Nat->Nat->List UInt8
 | 0,n=>[hexc n]
 | f+1,n=>if b<2\/n<b then [hexc n] else digF b f (n / b)++[hexc (n % b)]
def digB (b n:Nat):List UInt8:=digF b n n
theorem digF_low {b n:Nat}(h:n<b)(f:Nat):digF b f n=[hexc n]:=by
 cases f with
 | zero=>rfl
 | succ f=>rw [digF,if_pos (.inr h)]
theorem digF_same {b:Nat}(hb:2<=b)(n:Nat):∀(f g:Nat),n<=f->n<=g->digF b f n=digF b g n:=by
 induction n using Nat.strongRecOn with
 | ind n ih=>
  intro f g hf hg
  by_cases h:n<b
  ·rw [digF_low h,digF_low h]
  ·obtain⟨f',rfl⟩:∃f',f=f'+1:=⟨f - 1,by omega⟩
   obtain⟨g',rfl⟩:∃g',g=g'+1:=⟨g - 1,by omega⟩
   have hd:n / b<n:=Nat.div_lt_self (by omega) (by omega);rw [digF,digF,if_neg (by omega),if_neg (by omega),ih (n / b) hd f' g' (by omega) (by omega)]
theorem digB_low {b n:Nat}(h:n<b):digB b n=[hexc n]:=digF_low h n
theorem digB_high {b n:Nat}(hb:2<=b)(h:b<=n):digB b n=digB b (n / b)++[hexc (n % b)]:=by
 obtain⟨m,rfl⟩:∃m,n=m+1:=⟨n - 1,by omega⟩
 have hd:(m+1) / b<m+1:=Nat.div_lt_self (by omega) (by omega);unfold digB;rw [digF,if_neg (by omega),digF_same hb ((m+1) / b) m ((m+1) / b) (by omega) (Nat.le_refl _)]
theorem digB_ten (n:Nat):digB 10 n=Lib.decDigits n:=by
 induction n using Nat.strongRecOn with
 | ind n ih=>
  by_cases h:n<10
  ·rw [digB_low h,Lib.decDigits,dif_pos h,hexc,if_pos h]
  ·rw [digB_high (by decide) (by omega),Lib.decDigits,dif_neg h,ih _ (by omega),hexc,if_pos (by omega)]
theorem digB_len {b:Nat}(h2:2<=b):∀(k n:Nat),n<b ^ (k+1)->(digB b n).length<=k+1:=by
 intro k
 induction k with
 | zero=>
  intro n h;rw [digB_low (by simpa using h)];simp
 | succ k ih=>
  intro n h
  by_cases c:n<b
  ·rw [digB_low c];simp
  ·rw [digB_high h2 (by omega),List.length_append]
   have:=ih (n / b) (by rw [Nat.div_lt_iff_lt_mul (by omega)];rwa [Nat.pow_succ] at h);simp;omega
def preB (b:Nat):List UInt8:=if b=2 then [48,98] else if b=8 then [48,111] else if b=16 then [48,120] else []
def tellB (b:Nat)(n:Int):List UInt8:=(if n<0 then [45] else [])++(preB b++digB b n.natAbs)
def GoodB (b:Nat):Prop:=b=2\/b=8\/b=10\/b=16
theorem tell_len {b:Nat}(hb:GoodB b)(n:Int)(h0 : -9223372036854775808<=n)(h1:n<=9223372036854775807):(tellB b n).length<=67:=by
 have h2:2<=b:=by unfold GoodB at hb;omega
 have hk:(digB b n.natAbs).length<=64:=by
  refine digB_len h2 63 _ (Nat.lt_of_lt_of_le (m:=2 ^ 64) (by omega) ?_);exact Nat.pow_le_pow_left h2 64
 have hp:(preB b).length<=2:=by
  unfold preB;split
  ·simp
  ·split
   ·simp
   ·split<;>simp
 unfold tellB;rw [List.length_append,List.length_append];split<;>simp<;>omega
end Go.Proofs.YticcibefchffmaaDoor.bigs
