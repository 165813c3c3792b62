/- The contracts of library functions. -/
import Derived.Shelf.Strings.Builder1
import Derived.Shelf.Small.Strs
import Derived.Shelf.Small.Wraps
import Derived.Shelf.Strings.BuilderF
import Derived.Shelf.Strings.BuilderK
import Derived.Shelf.Strconv.Atoi
import Derived.Shelf.Strconv.Itoa0
import Derived.Shelf.Strconv.Itoa1
import Derived.Shelf.LaysM
import Derived.Shelf.Strconv.Itoa2
import Derived.Shelf.Strconv.Itoa3
import Derived.Shelf.Strconv.AtoiErrFast
import Derived.Shelf.Strconv.ParseIntEmpty
import Derived.Shelf.Strconv.AtoiFail
import Derived.Shelf.Strconv.Clone
import Derived.Shelf.Strconv.SyntaxError
import Derived.Shelf.LaysC
import Derived.Shelf.Strconv.ToError
import Derived.Shelf.Strconv.Lower
import Derived.Shelf.Strconv.ParseUint10
import Derived.Shelf.Strconv.ParseUint10Empty
import Derived.Shelf.Strconv.ParseUint10Any
import Derived.Shelf.Strconv.ParseInt10
import Derived.Shelf.Strconv.AtoiLong
import Derived.Shelf.Strconv.AtoiInnerAll
import Derived.Shelf.Strconv.RangeError
import Derived.Shelf.Strconv.ToErrorRange
import Derived.Shelf.Strconv.AtoiAll
import Derived.Shelf.Strconv.ErrVarAll
import Derived.Shelf.Strings.Search1
import Derived.Shelf.Strings.Prefix
import Derived.Test.YtclgbmmambkiaaaGreatDoorProg
set_option maxRecDepth 100000
set_option maxHeartbeats 4000000
set_option linter.unusedVariables false
set_option linter.unusedSimpArgs false
namespace Go.Proofs
open Go.Shelf
def Tryz.lays169_ren:Go.Shelf.Ren:=⟨fun | 169=>64 | n=>n,fun | 70=>108 | 9=>9 | 0=>0 | 72=>111 | 37=>109 | 127=>176 | 3=>3 | 5=>5 | n=>n,fun | n=>n⟩
theorem Tryz.lays169:Go.Proofs.Lays.n169 Tryz.prog Tryz.lays169_ren := {
  mixed:=by kernel_rfl
  f169:=Tryz.func64.trans (congrArg some (by kernel_rfl))
  t0:=Tryz.underlying0
  a0:=Tryz.isAgg0
  z0:=Tryz.sizeOf0
  v0:=Tryz.zeroValue0
  t3:=Tryz.underlying3
  a3:=Tryz.isAgg3
  z3:=Tryz.sizeOf3
  v3:=Tryz.zeroValue3
  t9:=Tryz.underlying9
  a9:=Tryz.isAgg9
  z9:=Tryz.sizeOf9
  v9:=Tryz.zeroValue9
  t37:=Tryz.underlying109
  a37:=Tryz.isAgg109
  z37:=Tryz.sizeOf109
  v37:=Tryz.zeroValue109
  t70:=Tryz.underlying108
  a70:=Tryz.isAgg108
  z70:=Tryz.sizeOf108
  v70:=Tryz.zeroValue108
  t72:=Tryz.underlying111
  a72:=Tryz.isAgg111
  z72:=Tryz.sizeOf111
  v72:=Tryz.zeroValue111
  t127:=Tryz.underlying176
  a127:=Tryz.isAgg176
  z127:=Tryz.sizeOf176
  v127:=Tryz.zeroValue176 }
theorem Tryz.Builder_Extra_169:Builder.Extra Tryz.prog Tryz.lays169_ren := {
  sizeBuilder:=by kernel_rfl
  liesBuilder:=by kernel_rfl
  t5:=Tryz.underlying5
  a5:=Tryz.isAgg5
  z5:=Tryz.sizeOf5
  v5:=Tryz.zeroValue5
  infoByte:=by kernel_rfl
  cellsByte:=by kernel_rfl
  sizeByte:=by kernel_rfl
  neB5:=by decide }
def Tryz.lays137_ren:Go.Shelf.Ren:=⟨fun | 137=>252 | 217=>277 | 266=>290 | n=>n,fun | 9=>9 | 5=>5 | 3=>3 | n=>n,fun | n=>n⟩
theorem Tryz.lays137:Go.Proofs.Lays.n137 Tryz.prog Tryz.lays137_ren := {
  mixed:=by kernel_rfl
  f137:=Tryz.func252.trans (congrArg some (by kernel_rfl))
  f217:=Tryz.func277.trans (congrArg some (by kernel_rfl))
  f266:=Tryz.func290.trans (congrArg some (by kernel_rfl))
  t3:=Tryz.underlying3
  a3:=Tryz.isAgg3
  z3:=Tryz.sizeOf3
  v3:=Tryz.zeroValue3
  t5:=Tryz.underlying5
  a5:=Tryz.isAgg5
  z5:=Tryz.sizeOf5
  v5:=Tryz.zeroValue5
  t9:=Tryz.underlying9
  a9:=Tryz.isAgg9
  z9:=Tryz.sizeOf9
  v9:=Tryz.zeroValue9 }
open Go.RowKit in
theorem Tryz.strings_IndexByte(s:ByteArray)(c:Int)(w:World) :
    Calls Tryz.prog 252 #[.string s,.int .u8 c] w fun e w'=>e=.returned (.int .i64 (Lib.indexByte s.data.toList c.toNat.toUInt8))∧w'=w:=Any.strings_IndexByte Tryz.lays137 s c w
def Tryz.lays103_ren:Go.Shelf.Ren:=⟨fun | 103=>253 | 210=>278 | 206=>287 | n=>n,fun | 9=>9 | 4=>4 | 24=>260 | 3=>3 | n=>n,fun | n=>n⟩
theorem Tryz.lays103:Go.Proofs.Lays.n103 Tryz.prog Tryz.lays103_ren := {
  mixed:=by kernel_rfl
  f103:=Tryz.func253.trans (congrArg some (by kernel_rfl))
  f206:=Tryz.func287.trans (congrArg some (by kernel_rfl))
  f210:=Tryz.func278.trans (congrArg some (by kernel_rfl))
  t3:=Tryz.underlying3
  a3:=Tryz.isAgg3
  z3:=Tryz.sizeOf3
  v3:=Tryz.zeroValue3
  t4:=Tryz.underlying4
  a4:=Tryz.isAgg4
  z4:=Tryz.sizeOf4
  v4:=Tryz.zeroValue4
  t9:=Tryz.underlying9
  a9:=Tryz.isAgg9
  z9:=Tryz.sizeOf9
  v9:=Tryz.zeroValue9
  t24:=Tryz.underlying260
  a24:=Tryz.isAgg260
  z24:=Tryz.sizeOf260
  v24:=Tryz.zeroValue260 }
open Go.RowKit in
theorem Tryz.strings_CutPrefix(s p:ByteArray)(w:World) :
    Calls Tryz.prog 253 #[.string s,.string p] w fun e w'=>e=.returned (.tuple #[.string ⟨(Lib.trimPrefix s.data.toList p.data.toList).toArray⟩,.bool (Lib.hasPrefix s.data.toList p.data.toList)])∧w'=w:=Any.strings_CutPrefix Tryz.lays103 s p w
open Go.RowKit in
theorem Tryz.Builder_String_k(B b:Nat)(l:List UInt8)(w:World)(h:Lib.IsBuilderF 111 5 B b (Lib.byteCells l) w)(h0:l≠[]) :
    Calls Tryz.prog 64 #[.pointer (some ⟨b,0,none⟩)] w fun e w'=>e=.returned (.string ⟨l.toArray⟩)∧(Lib.IsBuilderF 111 5 B b (Lib.byteCells l) w'∧Below B w w'∧Lib.OthersKept 5 (some b) w w'):=Any.Builder_String_k Tryz.lays169 Tryz.Builder_Extra_169 B b l w h h0
open Go.RowKit in
theorem Tryz.Builder_String_empty_k(B b:Nat)(w:World)(h:Lib.IsBuilderF 111 5 B b [] w)(hBw:B≤w.heap.size) :
    Calls Tryz.prog 64 #[.pointer (some ⟨b,0,none⟩)] w fun e w'=>e=.returned (.string ⟨#[]⟩)∧(Lib.IsBuilderF 111 5 B b [] w'∧Below B w w'∧Lib.OthersKept 5 (some b) w w'):=Any.Builder_String_empty_k Tryz.lays169 Tryz.Builder_Extra_169 B b w h hBw
open Go.RowKit in
theorem Tryz.Builder_String_any_k(B b:Nat)(l:List UInt8)(w:World)(h:Lib.IsBuilderF 111 5 B b (Lib.byteCells l) w)(hBw:B≤w.heap.size) :
    Calls Tryz.prog 64 #[.pointer (some ⟨b,0,none⟩)] w fun e w'=>e=.returned (.string ⟨l.toArray⟩)∧(Lib.IsBuilderF 111 5 B b (Lib.byteCells l) w'∧Below B w w'∧Lib.OthersKept 5 (some b) w w'):=Any.Builder_String_any_k Tryz.lays169 Tryz.Builder_Extra_169 B b l w h hBw
def Tryz.laysM171_ren:Go.Shelf.Ren:=⟨fun | 171=>254 | 243=>279 | 246=>291 | 283=>296 | 284=>297 | 285=>298 | 286=>299 | 129=>306 | 317=>305 | 318=>307 | 319=>308 | 320=>309 | 337=>313 | 338=>314 | n=>n,fun | 3=>3 | 9=>9 | 2=>2 | 4=>4 | 171=>280 | 0=>0 | 53=>281 | 37=>109 | 5=>5 | 173=>284 | 212=>294 | 51=>295 | 20=>20 | 213=>296 | 46=>297 | 232=>309 | 233=>310 | n=>n,fun | 17=>1 | 18=>4 | 19=>5 | n=>n⟩
theorem Tryz.laysM171:Go.Proofs.LaysM.n171 Tryz.prog Tryz.laysM171_ren := {
  mixed:=by kernel_rfl
  f129:=Tryz.func306.trans (congrArg some (by kernel_rfl))
  f171:=Tryz.func254.trans (congrArg some (by kernel_rfl))
  f243:=Tryz.func279.trans (congrArg some (by kernel_rfl))
  f246:=Tryz.func291.trans (congrArg some (by kernel_rfl))
  f283:=Tryz.func296.trans (congrArg some (by kernel_rfl))
  f284:=Tryz.func297.trans (congrArg some (by kernel_rfl))
  f285:=Tryz.func298.trans (congrArg some (by kernel_rfl))
  f286:=Tryz.func299.trans (congrArg some (by kernel_rfl))
  f317:=Tryz.func305.trans (congrArg some (by kernel_rfl))
  f318:=Tryz.func307.trans (congrArg some (by kernel_rfl))
  f319:=Tryz.func308.trans (congrArg some (by kernel_rfl))
  f320:=Tryz.func309.trans (congrArg some (by kernel_rfl))
  f337:=Tryz.func313.trans (congrArg some (by kernel_rfl))
  f338:=Tryz.func314.trans (congrArg some (by kernel_rfl))
  t0:=Tryz.underlying0
  a0:=Tryz.isAgg0
  z0:=Tryz.sizeOf0
  v0:=Tryz.zeroValue0
  t2:=Tryz.underlying2
  a2:=Tryz.isAgg2
  z2:=Tryz.sizeOf2
  v2:=Tryz.zeroValue2
  t3:=Tryz.underlying3
  a3:=Tryz.isAgg3
  z3:=Tryz.sizeOf3
  v3:=Tryz.zeroValue3
  t4:=Tryz.underlying4
  a4:=Tryz.isAgg4
  z4:=Tryz.sizeOf4
  v4:=Tryz.zeroValue4
  t5:=Tryz.underlying5
  a5:=Tryz.isAgg5
  z5:=Tryz.sizeOf5
  v5:=Tryz.zeroValue5
  t9:=Tryz.underlying9
  a9:=Tryz.isAgg9
  z9:=Tryz.sizeOf9
  v9:=Tryz.zeroValue9
  t20:=Tryz.underlying20
  a20:=Tryz.isAgg20
  z20:=Tryz.sizeOf20
  v20:=Tryz.zeroValue20
  t37:=Tryz.underlying109
  a37:=Tryz.isAgg109
  z37:=Tryz.sizeOf109
  v37:=Tryz.zeroValue109
  t46:=Tryz.underlying297
  a46:=Tryz.isAgg297
  z46:=Tryz.sizeOf297
  v46:=Tryz.zeroValue297
  t51:=Tryz.underlying295
  a51:=Tryz.isAgg295
  z51:=Tryz.sizeOf295
  v51:=Tryz.zeroValue295
  t53:=Tryz.underlying281
  a53:=Tryz.isAgg281
  z53:=Tryz.sizeOf281
  v53:=Tryz.zeroValue281
  t171:=Tryz.underlying280
  a171:=Tryz.isAgg280
  z171:=Tryz.sizeOf280
  v171:=Tryz.zeroValue280
  t173:=Tryz.underlying284
  a173:=Tryz.isAgg284
  z173:=Tryz.sizeOf284
  v173:=Tryz.zeroValue284
  t212:=Tryz.underlying294
  a212:=Tryz.isAgg294
  z212:=Tryz.sizeOf294
  v212:=Tryz.zeroValue294
  t213:=Tryz.underlying296
  a213:=Tryz.isAgg296
  z213:=Tryz.sizeOf296
  t232:=Tryz.underlying309
  a232:=Tryz.isAgg309
  z232:=Tryz.sizeOf309
  v232:=Tryz.zeroValue309
  t233:=Tryz.underlying310
  a233:=Tryz.isAgg310
  z233:=Tryz.sizeOf310
  v233:=Tryz.zeroValue310
  g17:=by kernel_rfl
  g18:=by kernel_rfl
  g19:=by kernel_rfl
  i0:=by kernel_rfl
  i2:=by kernel_rfl
  i3:=by kernel_rfl
  i4:=by kernel_rfl
  i5:=by kernel_rfl
  i9:=by kernel_rfl
  i20:=by kernel_rfl
  i37:=by kernel_rfl
  i46:=by kernel_rfl
  i51:=by kernel_rfl
  i53:=by kernel_rfl
  i171:=by kernel_rfl
  i173:=by kernel_rfl
  i212:=by kernel_rfl
  i232:=by kernel_rfl
  i233:=by kernel_rfl
  m17:=by kernel_rfl
  m18:=by kernel_rfl
  m19:=by kernel_rfl }
open Go.RowKit Go.Sort Go.Lib in
theorem Tryz.strconv_Itoa(n:Int)(h0 : -9223372036854775808≤n)(h1:n≤9223372036854775807)(w:World)(htab:Lib.TabIs Tryz.prog w "internal/strconv.uint64pow10" .u64 Lib.pow10Tab) :
    Calls Tryz.prog 254 #[.int .i64 n] w fun e w'=>e=.returned (.string ⟨(Lib.itoa n).toArray⟩)∧∃k os,w'=grow (w.drewN k) os:=Any.strconv_Itoa Tryz.laysM171 n h0 h1 w htab
def Tryz.laysC172_ren:Go.Shelf.Ren:=⟨fun | 172=>289 | 244=>294 | 245=>295 | 247=>300 | 279=>301 | 280=>302 | 281=>303 | 282=>304 | 287=>310 | 316=>311 | 171=>254 | 205=>312 | 321=>315 | 322=>316 | 243=>279 | 246=>291 | 283=>296 | 284=>297 | 285=>298 | 286=>299 | 129=>306 | 317=>305 | 318=>307 | 319=>308 | 320=>309 | 337=>313 | 338=>314 | n=>n,fun | 9=>9 | 3=>3 | 75=>114 | 76=>116 | 4=>4 | 5=>5 | 167=>286 | 37=>109 | 0=>0 | 85=>287 | 2=>2 | 168=>289 | 53=>281 | 175=>299 | 46=>297 | 210=>302 | 127=>176 | 145=>308 | 143=>306 | 21=>21 | 171=>280 | 173=>284 | 212=>294 | 51=>295 | 20=>20 | 213=>296 | 232=>309 | 233=>310 | 80=>118 | n=>n,fun | 15=>2 | 16=>3 | 17=>1 | 18=>4 | 19=>5 | n=>n⟩
theorem Tryz.laysC172:Go.Proofs.LaysC.n172 Tryz.prog Tryz.laysC172_ren := {
  mixed:=by kernel_rfl
  f129:=Tryz.func306.trans (congrArg some (by kernel_rfl))
  f171:=Tryz.func254.trans (congrArg some (by kernel_rfl))
  f172:=Tryz.func289.trans (congrArg some (by kernel_rfl))
  f205:=Tryz.func312.trans (congrArg some (by kernel_rfl))
  f243:=Tryz.func279.trans (congrArg some (by kernel_rfl))
  f244:=Tryz.func294.trans (congrArg some (by kernel_rfl))
  f245:=Tryz.func295.trans (congrArg some (by kernel_rfl))
  f246:=Tryz.func291.trans (congrArg some (by kernel_rfl))
  f247:=Tryz.func300.trans (congrArg some (by kernel_rfl))
  f279:=Tryz.func301.trans (congrArg some (by kernel_rfl))
  f280:=Tryz.func302.trans (congrArg some (by kernel_rfl))
  f281:=Tryz.func303.trans (congrArg some (by kernel_rfl))
  f282:=Tryz.func304.trans (congrArg some (by kernel_rfl))
  f283:=Tryz.func296.trans (congrArg some (by kernel_rfl))
  f284:=Tryz.func297.trans (congrArg some (by kernel_rfl))
  f285:=Tryz.func298.trans (congrArg some (by kernel_rfl))
  f286:=Tryz.func299.trans (congrArg some (by kernel_rfl))
  f287:=Tryz.func310.trans (congrArg some (by kernel_rfl))
  f316:=Tryz.func311.trans (congrArg some (by kernel_rfl))
  f317:=Tryz.func305.trans (congrArg some (by kernel_rfl))
  f318:=Tryz.func307.trans (congrArg some (by kernel_rfl))
  f319:=Tryz.func308.trans (congrArg some (by kernel_rfl))
  f320:=Tryz.func309.trans (congrArg some (by kernel_rfl))
  f321:=Tryz.func315.trans (congrArg some (by kernel_rfl))
  f322:=Tryz.func316.trans (congrArg some (by kernel_rfl))
  f337:=Tryz.func313.trans (congrArg some (by kernel_rfl))
  f338:=Tryz.func314.trans (congrArg some (by kernel_rfl))
  t0:=Tryz.underlying0
  a0:=Tryz.isAgg0
  z0:=Tryz.sizeOf0
  v0:=Tryz.zeroValue0
  t2:=Tryz.underlying2
  a2:=Tryz.isAgg2
  z2:=Tryz.sizeOf2
  v2:=Tryz.zeroValue2
  t3:=Tryz.underlying3
  a3:=Tryz.isAgg3
  z3:=Tryz.sizeOf3
  v3:=Tryz.zeroValue3
  t4:=Tryz.underlying4
  a4:=Tryz.isAgg4
  z4:=Tryz.sizeOf4
  v4:=Tryz.zeroValue4
  t5:=Tryz.underlying5
  a5:=Tryz.isAgg5
  z5:=Tryz.sizeOf5
  v5:=Tryz.zeroValue5
  t9:=Tryz.underlying9
  a9:=Tryz.isAgg9
  z9:=Tryz.sizeOf9
  v9:=Tryz.zeroValue9
  t20:=Tryz.underlying20
  a20:=Tryz.isAgg20
  z20:=Tryz.sizeOf20
  v20:=Tryz.zeroValue20
  t21:=Tryz.underlying21
  a21:=Tryz.isAgg21
  z21:=Tryz.sizeOf21
  v21:=Tryz.zeroValue21
  t37:=Tryz.underlying109
  a37:=Tryz.isAgg109
  z37:=Tryz.sizeOf109
  v37:=Tryz.zeroValue109
  t46:=Tryz.underlying297
  a46:=Tryz.isAgg297
  z46:=Tryz.sizeOf297
  v46:=Tryz.zeroValue297
  t51:=Tryz.underlying295
  a51:=Tryz.isAgg295
  z51:=Tryz.sizeOf295
  v51:=Tryz.zeroValue295
  t53:=Tryz.underlying281
  a53:=Tryz.isAgg281
  z53:=Tryz.sizeOf281
  v53:=Tryz.zeroValue281
  t75:=Tryz.underlying114
  a75:=Tryz.isAgg114
  z75:=Tryz.sizeOf114
  v75:=Tryz.zeroValue114
  t76:=Tryz.underlying116
  a76:=Tryz.isAgg116
  z76:=Tryz.sizeOf116
  v76:=Tryz.zeroValue116
  t85:=Tryz.underlying287
  a85:=Tryz.isAgg287
  z85:=Tryz.sizeOf287
  v85:=Tryz.zeroValue287
  t127:=Tryz.underlying176
  a127:=Tryz.isAgg176
  z127:=Tryz.sizeOf176
  v127:=Tryz.zeroValue176
  t143:=Tryz.underlying306
  a143:=Tryz.isAgg306
  z143:=Tryz.sizeOf306
  v143:=Tryz.zeroValue306
  t145:=Tryz.underlying308
  a145:=Tryz.isAgg308
  z145:=Tryz.sizeOf308
  v145:=Tryz.zeroValue308
  t167:=Tryz.underlying286
  a167:=Tryz.isAgg286
  z167:=Tryz.sizeOf286
  v167:=Tryz.zeroValue286
  t168:=Tryz.underlying289
  a168:=Tryz.isAgg289
  z168:=Tryz.sizeOf289
  v168:=Tryz.zeroValue289
  t171:=Tryz.underlying280
  a171:=Tryz.isAgg280
  z171:=Tryz.sizeOf280
  v171:=Tryz.zeroValue280
  t173:=Tryz.underlying284
  a173:=Tryz.isAgg284
  z173:=Tryz.sizeOf284
  v173:=Tryz.zeroValue284
  t175:=Tryz.underlying299
  a175:=Tryz.isAgg299
  z175:=Tryz.sizeOf299
  v175:=Tryz.zeroValue299
  t210:=Tryz.underlying302
  a210:=Tryz.isAgg302
  z210:=Tryz.sizeOf302
  v210:=Tryz.zeroValue302
  t212:=Tryz.underlying294
  a212:=Tryz.isAgg294
  z212:=Tryz.sizeOf294
  v212:=Tryz.zeroValue294
  t213:=Tryz.underlying296
  a213:=Tryz.isAgg296
  z213:=Tryz.sizeOf296
  t232:=Tryz.underlying309
  a232:=Tryz.isAgg309
  z232:=Tryz.sizeOf309
  v232:=Tryz.zeroValue309
  t233:=Tryz.underlying310
  a233:=Tryz.isAgg310
  z233:=Tryz.sizeOf310
  v233:=Tryz.zeroValue310
  g15:=by kernel_rfl
  g16:=by kernel_rfl
  g17:=by kernel_rfl
  g18:=by kernel_rfl
  g19:=by kernel_rfl
  t80:=Tryz.underlying118
  a80:=Tryz.isAgg118
  z80:=Tryz.sizeOf118
  v80:=Tryz.zeroValue118
  i0:=by kernel_rfl
  i2:=by kernel_rfl
  i3:=by kernel_rfl
  i4:=by kernel_rfl
  i5:=by kernel_rfl
  i9:=by kernel_rfl
  i20:=by kernel_rfl
  i21:=by kernel_rfl
  i37:=by kernel_rfl
  i46:=by kernel_rfl
  i51:=by kernel_rfl
  i53:=by kernel_rfl
  i75:=by kernel_rfl
  i76:=by kernel_rfl
  i80:=by kernel_rfl
  i85:=by kernel_rfl
  i127:=by kernel_rfl
  i143:=by kernel_rfl
  i145:=by kernel_rfl
  i167:=by kernel_rfl
  i168:=by kernel_rfl
  i171:=by kernel_rfl
  i173:=by kernel_rfl
  i175:=by kernel_rfl
  i210:=by kernel_rfl
  i212:=by kernel_rfl
  i232:=by kernel_rfl
  i233:=by kernel_rfl
  m15:=by kernel_rfl
  m16:=by kernel_rfl
  m17:=by kernel_rfl
  m18:=by kernel_rfl
  m19:=by kernel_rfl
  c0:=by kernel_rfl
  c2:=by kernel_rfl
  c3:=by kernel_rfl
  c4:=by kernel_rfl
  c5:=by kernel_rfl
  c9:=by kernel_rfl
  c20:=by kernel_rfl
  c21:=by kernel_rfl
  c37:=by kernel_rfl
  c46:=by kernel_rfl
  c51:=by kernel_rfl
  c53:=by kernel_rfl
  c75:=by kernel_rfl
  c76:=by kernel_rfl
  c80:=by kernel_rfl
  c85:=by kernel_rfl
  c127:=by kernel_rfl
  c143:=by kernel_rfl
  c145:=by kernel_rfl
  c167:=by kernel_rfl
  c168:=by kernel_rfl
  c171:=by kernel_rfl
  c173:=by kernel_rfl
  c175:=by kernel_rfl
  c210:=by kernel_rfl
  c212:=by kernel_rfl
  c213:=by kernel_rfl
  c232:=by kernel_rfl
  c233:=by kernel_rfl }
open Go.RowKit in
theorem Tryz.strconv_Atoi_ok(s:ByteArray)(hmax:s.size≤9223372036854775806)(v:Int)(h:Lib.atoiAll s.data.toList=.ok v)(w:World) :
    Calls Tryz.prog 289 #[.string s] w fun e w'=>e=.returned (.tuple #[.int .i64 v,.nilIface])∧(w'=w∨∃t,w'=Lib.bytesWorld w 5 t):=Any.strconv_Atoi_ok Tryz.laysC172 s hmax v h w
open Go.RowKit in
theorem Tryz.strconv_Atoi_syntax_var(s:ByteArray)(hlim:s.size≤281474976710656)(h:Lib.atoiAll s.data.toList=Lib.NumEnd.syntax)(tp:TypeId)(p:Value)(w:World)(hvar:w.var? Tryz.prog "strconv.ErrSyntax" = some #[.iface tp p]) :
    Calls Tryz.prog 289 #[.string s] w fun e w'=>∃N,e=.returned (.tuple #[.int .i64 0,.iface 289 (.pointer (some ⟨N,0,none⟩))])∧w.heap.size≤N∧w'.heap[N]? = some (.cells #[.string ⟨#[65,116,111,105]⟩,.string s,.iface tp p] 302 (0,0))∧Below w.heap.size w w':=Any.strconv_Atoi_syntax_var Tryz.laysC172 s hlim h tp p w hvar
open Go.RowKit in
theorem Tryz.strconv_Atoi_range_var(s:ByteArray)(hlim:s.size≤281474976710656)(h:Lib.atoiAll s.data.toList=.range)(tp:TypeId)(p:Value)(w:World)(hvar:w.var? Tryz.prog "strconv.ErrRange" = some #[.iface tp p]) :
    Calls Tryz.prog 289 #[.string s] w fun e w'=>∃N,e=.returned (.tuple #[.int .i64 (Lib.atoiSat s.data.toList),.iface 289 (.pointer (some ⟨N,0,none⟩))])∧w.heap.size≤N∧w'.heap[N]? = some (.cells #[.string ⟨#[65,116,111,105]⟩,.string s,.iface tp p] 302 (0,0))∧Below w.heap.size w w':=Any.strconv_Atoi_range_var Tryz.laysC172 s hlim h tp p w hvar
def Tryz.lays99_ren:Go.Shelf.Ren:=⟨fun | 99=>272 | 206=>287 | n=>n,fun | 9=>9 | 4=>4 | 3=>3 | n=>n,fun | n=>n⟩
theorem Tryz.lays99:Go.Proofs.Lays.n99 Tryz.prog Tryz.lays99_ren := {
  mixed:=by kernel_rfl
  f99:=Tryz.func272.trans (congrArg some (by kernel_rfl))
  f206:=Tryz.func287.trans (congrArg some (by kernel_rfl))
  t3:=Tryz.underlying3
  a3:=Tryz.isAgg3
  z3:=Tryz.sizeOf3
  v3:=Tryz.zeroValue3
  t4:=Tryz.underlying4
  a4:=Tryz.isAgg4
  z4:=Tryz.sizeOf4
  v4:=Tryz.zeroValue4
  t9:=Tryz.underlying9
  a9:=Tryz.isAgg9
  z9:=Tryz.sizeOf9
  v9:=Tryz.zeroValue9 }
open Go.RowKit Go.Lib in
theorem Tryz.strings_HasPrefix(s p:ByteArray)(w:World) :
    Calls Tryz.prog 272 #[.string s,.string p] w fun e w'=>e=.returned (.bool (Lib.hasPrefix s.data.toList p.data.toList))∧w'=w:=Any.strings_HasPrefix Tryz.lays99 s p w
end Go.Proofs
