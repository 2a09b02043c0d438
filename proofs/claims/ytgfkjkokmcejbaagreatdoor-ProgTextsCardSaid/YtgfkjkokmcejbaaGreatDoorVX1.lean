/-
 No statement: what ProgTextsLift needs, of the texts Shelf, OE1.
-/
import Derived.Shelf.Strings.Builder1
import Derived.Shelf.Strings.Builder2
import Derived.Shelf.Strings.OnBuilder
import Derived.Shelf.Strings.Trim
import Derived.Shelf.Small.Utf8
import Derived.Shelf.Small.Strs
import Derived.Shelf.Small.Wraps
import Derived.Shelf.Strings.BuilderF
import Derived.Shelf.Strings.BuilderK
import Derived.Shelf.Strconv.Itoa0
import Derived.Shelf.Strconv.Itoa1
import Derived.Shelf.LaysM
import Derived.Shelf.Strconv.Itoa2
import Derived.Shelf.Strconv.Itoa3
import Derived.Shelf.Strconv.Itoa4
import Derived.Shelf.Strconv.ParseIntEmpty
import Derived.Shelf.Strconv.Clone
import Derived.Shelf.Strconv.SyntaxError
import Derived.Shelf.LaysC
import Derived.Shelf.Strconv.ToError
import Derived.Shelf.Strconv.Lower
import Derived.Shelf.Strconv.ParseUint10
import Derived.Shelf.Strconv.ParseUint10Empty
import Derived.Shelf.Strconv.ParseUint10Any
import Derived.Shelf.Strconv.ParseInt10
import Derived.Shelf.Strconv.RangeError
import Derived.Shelf.Strconv.ToErrorRange
import Derived.Shelf.Strconv.ParseUintEmpty
import Derived.Shelf.Strconv.ParseUint10b64
import Derived.Shelf.Strconv.ParseUint10b32
import Derived.Shelf.Strconv.ParseUint10b16
import Derived.Shelf.Strconv.ParseUint10b8
import Derived.Shelf.Strconv.ParseUint10At
import Derived.Shelf.Strconv.ParseInt10At64
import Derived.Shelf.Strconv.ParseInt10At32
import Derived.Shelf.Strconv.ParseInt10At16
import Derived.Shelf.Strconv.ParseInt10At8
import Derived.Shelf.Strconv.ParseInt10All
import Derived.Shelf.Strconv.ParseIntPublic10
import Derived.Shelf.Strconv.ErrVarParseInt
import Derived.Shelf.Strings.Search1
import Derived.Shelf.Strings.Search2
import Derived.Shelf.Strings.Cut
import Derived.Shelf.Strings.Shaped
import Derived.Shelf.Strings.Prefix
import Derived.Shelf.Unicode.Decode
import Derived.Shelf.Strings.Runes
import Derived.Shelf.Strings.IndexAny
import Derived.Shelf.Strings.AsciiSet
import Derived.Shelf.Strings.IndexAnyAll
import Derived.Shelf.Bits.Mul64
import Derived.Shelf.Unicode.DecodeSlow
import Derived.Shelf.Unicode.DecodeAny
import Derived.Test.YtgfkjkokmcejbaaGreatDoorProg
import Derived.WalkKit
import Derived.WalkSpells
import Derived.Lib.Hide
import Derived.Deep.Draws
import Derived.Sort.Walk0
import Derived.Lib.ParseIntB
import Derived.Lib.AtoiErrMem
import Derived.Lib.AppendIntMem
import Derived.IntWalk
import Derived.LoopTactic
import Derived.StillTailTactics
import Derived.Deep.QuietTactic
import Derived.BigQuiet
import Derived.Lib.ParseIntBTie
import Derived.RangeFuncRecord
import Derived.ArgAppend
import Derived.OwnWalk
import Derived.Deep.RegionHeld3
import Derived.BigRegion
import Derived.Deep.Cut
import Derived.Deep.RegionLaw
import Derived.Shelf.Spec.SearchS
import Derived.Lib.AppendZerosOnto
import Derived.Lib.SliceRun
import Derived.Laws.IdiomStrings
import Derived.Lib.OwnBridge
import Derived.Lib.SlicesCompact
import Derived.Sort.OwnSorted
import Derived.Lib.Builder
import Derived.Lib.AppendStr
namespace Go.Proofs.YtgfkjkokmcejbaaGreatDoor
open Go.RowKit Tryz
end Go.Proofs.YtgfkjkokmcejbaaGreatDoor
namespace Go.Proofs
open Go.RowKit Tryz
abbrev Tp := Option Addr
abbrev Tq := List UInt8
abbrev Tr := ByteArray
end Go.Proofs
namespace Go.Proofs.YtgfkjkokmcejbaaGreatDoor
open Go.RowKit Tryz
theorem aA {p : Prop} (h : p) : RowKit.Hid p := Lib.hid h
theorem S7 {α : Type _} {l : List α} {i : Nat} {a : α} : l.toArray.setIfInBounds i a = (l.set i a).toArray := by simp
theorem S9 {α : Type _} {x a : α} {l : List α} : (x :: l).set 0 a = a :: l := rfl
theorem Ta {α : Type _} {x a : α} {l : List α} {n : Nat} : (x :: l).set (n + 1) a = x :: l.set n a := rfl
end Go.Proofs.YtgfkjkokmcejbaaGreatDoor
set_option maxHeartbeats 40000000
set_option maxRecDepth 100000
open List renaming length_append -> Tb, length_cons -> Te, length_eq_zero_iff -> Tg, length_take -> Th
open Nat renaming le_refl -> Td
open Array renaming length_toList -> Ti
open Go.Lib renaming decDigits -> Tl, toList_data -> Tm
namespace Go.Proofs
open Go.RowKit Tryz
section
open Go.Shelf
def lays169_ren:Go.Shelf.Ren:=⟨fun | 169=>38 | n=>n,fun | 70=>90 | 9=>9 | 0=>0 | 72=>92 | 37=>54 | 127=>146 | 3=>3 | 5=>5 | n=>n,fun | n=>n⟩
theorem lays169:Go.Proofs.Lays.n169 prog lays169_ren:={
 mixed:=by kernel_rfl
 f169:=func38.trans (congrArg some (by kernel_rfl))
 t0:=underlying0
 a0:=isAgg0
 z0:=sizeOf0
 v0:=zeroValue0
 t3:=underlying3
 a3:=isAgg3
 z3:=sizeOf3
 v3:=zeroValue3
 t9:=underlying9
 a9:=isAgg9
 z9:=sizeOf9
 v9:=zeroValue9
 t37:=underlying54
 a37:=isAgg54
 z37:=sizeOf54
 v37:=zeroValue54
 t70:=underlying90
 a70:=isAgg90
 z70:=sizeOf90
 v70:=zeroValue90
 t72:=underlying92
 a72:=isAgg92
 z72:=sizeOf92
 v72:=zeroValue92
 t127:=underlying146
 a127:=isAgg146
 z127:=sizeOf146
 v127:=zeroValue146 }
theorem Builder_Extra_169:Builder.Extra prog lays169_ren:={
 sizeBuilder:=by kernel_rfl
 liesBuilder:=by kernel_rfl
 t5:=underlying5
 a5:=isAgg5
 z5:=sizeOf5
 v5:=zeroValue5
 infoByte:=by kernel_rfl
 cellsByte:=by kernel_rfl
 sizeByte:=by kernel_rfl
 neB5:=by decide }
open Go.RowKit in
theorem Builder_String_any (B b:Nat) (l:Tq) (w:World) (h:Lib.IsBuilder 92 5 B b (Lib.byteCells l) w) (a:B<=w.heap.size) :
 Calls prog 38 #[.pointer (some ⟨b,0,none⟩)] w fun e w'=>e=.returned (.string ⟨l.toArray⟩)/\Below B w w':=Any.Builder_String_any lays169 Builder_Extra_169 B b l w h a
def lays156_ren:Go.Shelf.Ren:=⟨fun | 156=>72 | 165=>129 | 166=>36 | 169=>38 | 240=>71 | 241=>183 | 276=>128 | 277=>224 | n=>n,fun | 31=>55 | 9=>9 | 3=>3 | 4=>4 | 0=>0 | 20=>20 | 72=>92 | 76=>95 | 70=>90 | 37=>54 | 75=>94 | 127=>146 | 164=>209 | 5=>5 | 80=>98 | n=>n,fun | n=>n⟩
theorem lays156:Go.Proofs.Lays.n156 prog lays156_ren:={
 mixed:=by kernel_rfl
 f156:=func72.trans (congrArg some (by kernel_rfl))
 f165:=func129.trans (congrArg some (by kernel_rfl))
 f166:=func36.trans (congrArg some (by kernel_rfl))
 f169:=func38.trans (congrArg some (by kernel_rfl))
 f240:=func71.trans (congrArg some (by kernel_rfl))
 f241:=func183.trans (congrArg some (by kernel_rfl))
 f276:=func128.trans (congrArg some (by kernel_rfl))
 f277:=func224.trans (congrArg some (by kernel_rfl))
 t0:=underlying0
 a0:=isAgg0
 z0:=sizeOf0
 v0:=zeroValue0
 t3:=underlying3
 a3:=isAgg3
 z3:=sizeOf3
 v3:=zeroValue3
 t4:=underlying4
 a4:=isAgg4
 z4:=sizeOf4
 v4:=zeroValue4
 t9:=underlying9
 a9:=isAgg9
 z9:=sizeOf9
 v9:=zeroValue9
 t20:=underlying20
 a20:=isAgg20
 z20:=sizeOf20
 v20:=zeroValue20
 t31:=underlying55
 a31:=isAgg55
 z31:=sizeOf55
 v31:=zeroValue55
 t37:=underlying54
 a37:=isAgg54
 z37:=sizeOf54
 v37:=zeroValue54
 t70:=underlying90
 a70:=isAgg90
 z70:=sizeOf90
 v70:=zeroValue90
 t72:=underlying92
 a72:=isAgg92
 z72:=sizeOf92
 v72:=zeroValue92
 t75:=underlying94
 a75:=isAgg94
 z75:=sizeOf94
 v75:=zeroValue94
 t76:=underlying95
 a76:=isAgg95
 z76:=sizeOf95
 v76:=zeroValue95
 t127:=underlying146
 a127:=isAgg146
 z127:=sizeOf146
 v127:=zeroValue146
 t164:=underlying209
 a164:=isAgg209
 z164:=sizeOf209
 v164:=zeroValue209 }
theorem Builder_Extra_156:Builder.Extra prog lays156_ren:={
 sizeBuilder:=by kernel_rfl
 liesBuilder:=by kernel_rfl
 t5:=underlying5
 a5:=isAgg5
 z5:=sizeOf5
 v5:=zeroValue5
 infoByte:=by kernel_rfl
 cellsByte:=by kernel_rfl
 sizeByte:=by kernel_rfl
 neB5:=by decide }
open Go.RowKit in
theorem strings_Join_none (a:Tp) (c:Nat) (b:Tr) (w:World) :
 Calls prog 72 #[.slice a 0 c,.string b] w fun e w'=>e=.returned (.string ⟨#[]⟩)/\w'=w:=Any.strings_Join_none lays156 Builder_Extra_156 a c b w
open Go.RowKit in
theorem strings_Join (g o c:Nat) (xs:List ByteArray) (a:Tr) (w:World) (b:∀ (j:Nat) x,xs[j]? = some x->w.cell? ⟨g,o+j,none⟩=some (.string x)) (h:g<w.heap.size) (k:xs.length<=140737488355328) (f:xs.length<=c) (d:(Lib.join (xs.map (·.data.toList)) a.data.toList).length<=140737488355328) :
 Calls prog 72 #[.slice (some ⟨g,o,none⟩) xs.length c,.string a] w fun e w'=>e=.returned (.string ⟨(Lib.join (xs.map (·.data.toList)) a.data.toList).toArray⟩)/\Below w.heap.size w w':=Any.strings_Join lays156 Builder_Extra_156 g o c xs a w b h k f d
def lays161_ren:Go.Shelf.Ren:=⟨fun | 161=>109 | 231=>167 | 227=>168 | 233=>169 | 235=>170 | 228=>173 | 197=>207 | 151=>208 | 260=>238 | 152=>171 | 137=>209 | 119=>210 | 224=>165 | 225=>164 | 217=>163 | 266=>205 | n=>n,fun | 9=>9 | 4=>4 | 3=>3 | 5=>5 | 117=>254 | 116=>253 | 0=>0 | 124=>257 | 105=>290 | 21=>21 | 119=>326 | 46=>250 | 139=>329 | 138=>328 | n=>n,fun | 3=>2 | 4=>3 | n=>n⟩
theorem lays161:Go.Proofs.Lays.n161 prog lays161_ren:={
 mixed:=by kernel_rfl
 f119:=func210.trans (congrArg some (by kernel_rfl))
 f137:=func209.trans (congrArg some (by kernel_rfl))
 f151:=func208.trans (congrArg some (by kernel_rfl))
 f152:=func171.trans (congrArg some (by kernel_rfl))
 f161:=func109.trans (congrArg some (by kernel_rfl))
 f197:=func207.trans (congrArg some (by kernel_rfl))
 f217:=func163.trans (congrArg some (by kernel_rfl))
 f224:=func165.trans (congrArg some (by kernel_rfl))
 f225:=func164.trans (congrArg some (by kernel_rfl))
 f227:=func168.trans (congrArg some (by kernel_rfl))
 f228:=func173.trans (congrArg some (by kernel_rfl))
 f231:=func167.trans (congrArg some (by kernel_rfl))
 f233:=func169.trans (congrArg some (by kernel_rfl))
 f235:=func170.trans (congrArg some (by kernel_rfl))
 f260:=func238.trans (congrArg some (by kernel_rfl))
 f266:=func205.trans (congrArg some (by kernel_rfl))
 t0:=underlying0
 a0:=isAgg0
 z0:=sizeOf0
 v0:=zeroValue0
 t3:=underlying3
 a3:=isAgg3
 z3:=sizeOf3
 v3:=zeroValue3
 t4:=underlying4
 a4:=isAgg4
 z4:=sizeOf4
 v4:=zeroValue4
 t5:=underlying5
 a5:=isAgg5
 z5:=sizeOf5
 v5:=zeroValue5
 t9:=underlying9
 a9:=isAgg9
 z9:=sizeOf9
 v9:=zeroValue9
 t21:=underlying21
 a21:=isAgg21
 z21:=sizeOf21
 v21:=zeroValue21
 t46:=underlying250
 a46:=isAgg250
 z46:=sizeOf250
 v46:=zeroValue250
 t105:=underlying290
 a105:=isAgg290
 z105:=sizeOf290
 v105:=zeroValue290
 t116:=underlying253
 a116:=isAgg253
 z116:=sizeOf253
 t117:=underlying254
 a117:=isAgg254
 z117:=sizeOf254
 v117:=zeroValue254
 t119:=underlying326
 a119:=isAgg326
 z119:=sizeOf326
 t124:=underlying257
 a124:=isAgg257
 z124:=sizeOf257
 v124:=zeroValue257
 t138:=underlying328
 a138:=isAgg328
 z138:=sizeOf328
 v138:=zeroValue328
 t139:=underlying329
 a139:=isAgg329
 z139:=sizeOf329
 v139:=zeroValue329
 g3:=by kernel_rfl
 g4:=by kernel_rfl }
open Go.RowKit in
theorem strings_TrimLeft_one (s:Tr) (c:UInt8) (a:c.toNat<128) (w:World) :
 Calls prog 109 #[.string s,.string ⟨#[c]⟩] w fun e w'=>e=.returned (.string ⟨(Lib.trimLeftB s.data.toList c).toArray⟩)/\w'=w:=Any.strings_TrimLeft_one lays161 s c a w
def lays119_ren:Go.Shelf.Ren:=⟨fun | 119=>210 | n=>n,fun | 21=>21 | 4=>4 | n=>n,fun | n=>n⟩
theorem lays119:Go.Proofs.Lays.n119 prog lays119_ren:={
 mixed:=by kernel_rfl
 f119:=func210.trans (congrArg some (by kernel_rfl))
 t4:=underlying4
 a4:=isAgg4
 z4:=sizeOf4
 v4:=zeroValue4
 t21:=underlying21
 a21:=isAgg21
 z21:=sizeOf21
 v21:=zeroValue21 }
theorem utf8_ValidRune (r:Int) (w:World) :
 Calls prog 210 #[.int .i32 r] w fun e w'=>e=.returned (.bool (Lib.validRune r))/\w'=w:=Any.utf8_ValidRune lays119 r w
def lays106_ren:Go.Shelf.Ren:=⟨fun | 106=>294 | 213=>296 | 265=>297 | n=>n,fun | 9=>9 | 3=>3 | n=>n,fun | n=>n⟩
theorem lays106:Go.Proofs.Lays.n106 prog lays106_ren:={
 mixed:=by kernel_rfl
 f106:=func294.trans (congrArg some (by kernel_rfl))
 f213:=func296.trans (congrArg some (by kernel_rfl))
 f265:=func297.trans (congrArg some (by kernel_rfl))
 t3:=underlying3
 a3:=isAgg3
 z3:=sizeOf3
 v3:=zeroValue3
 t9:=underlying9
 a9:=isAgg9
 z9:=sizeOf9
 v9:=zeroValue9 }
open Go.RowKit in
theorem strings_Compare (a b:Tr) (w:World) :
 Calls prog 294 #[.string a,.string b] w fun e w'=>e=.returned (.int .i64 (Lib.compareBytes a.data.toList b.data.toList))/\w'=w:=Any.strings_Compare lays106 a b w
def lays137_ren:Go.Shelf.Ren:=⟨fun | 137=>209 | 217=>163 | 266=>205 | n=>n,fun | 9=>9 | 5=>5 | 3=>3 | n=>n,fun | n=>n⟩
theorem lays137:Go.Proofs.Lays.n137 prog lays137_ren:={
 mixed:=by kernel_rfl
 f137:=func209.trans (congrArg some (by kernel_rfl))
 f217:=func163.trans (congrArg some (by kernel_rfl))
 f266:=func205.trans (congrArg some (by kernel_rfl))
 t3:=underlying3
 a3:=isAgg3
 z3:=sizeOf3
 v3:=zeroValue3
 t5:=underlying5
 a5:=isAgg5
 z5:=sizeOf5
 v5:=zeroValue5
 t9:=underlying9
 a9:=isAgg9
 z9:=sizeOf9
 v9:=zeroValue9 }
open Go.RowKit in
theorem strings_IndexByte (s:Tr) (c:Int) (w:World) :
 Calls prog 209 #[.string s,.int .u8 c] w fun e w'=>e=.returned (.int .i64 (Lib.indexByte s.data.toList c.toNat.toUInt8))/\w'=w:=Any.strings_IndexByte lays137 s c w
def lays103_ren:Go.Shelf.Ren:=⟨fun | 103=>111 | 210=>174 | 206=>211 | n=>n,fun | 9=>9 | 4=>4 | 24=>194 | 3=>3 | n=>n,fun | n=>n⟩
theorem lays103:Go.Proofs.Lays.n103 prog lays103_ren:={
 mixed:=by kernel_rfl
 f103:=func111.trans (congrArg some (by kernel_rfl))
 f206:=func211.trans (congrArg some (by kernel_rfl))
 f210:=func174.trans (congrArg some (by kernel_rfl))
 t3:=underlying3
 a3:=isAgg3
 z3:=sizeOf3
 v3:=zeroValue3
 t4:=underlying4
 a4:=isAgg4
 z4:=sizeOf4
 v4:=zeroValue4
 t9:=underlying9
 a9:=isAgg9
 z9:=sizeOf9
 v9:=zeroValue9
 t24:=underlying194
 a24:=isAgg194
 z24:=sizeOf194
 v24:=zeroValue194 }
open Go.RowKit in
theorem strings_CutPrefix (s p:Tr) (w:World) :
 Calls prog 111 #[.string s,.string p] w fun e w'=>e=.returned (.tuple #[.string ⟨(Lib.trimPrefix s.data.toList p.data.toList).toArray⟩,.bool (Lib.hasPrefix s.data.toList p.data.toList)])/\w'=w:=Any.strings_CutPrefix lays103 s p w
def laysM173_ren:Go.Shelf.Ren:=⟨fun | 173=>131 | 246=>184 | 283=>225 | 284=>226 | 285=>227 | 286=>228 | 129=>248 | 317=>247 | 318=>249 | 319=>250 | 320=>251 | 337=>264 | 338=>265 | n=>n,fun | 2=>2 | 3=>3 | 9=>9 | 4=>4 | 171=>301 | 0=>0 | 53=>268 | 37=>54 | 5=>5 | 173=>304 | 212=>316 | 51=>287 | 20=>20 | 213=>317 | 46=>250 | 232=>348 | 233=>349 | n=>n,fun | 17=>1 | 18=>4 | 19=>5 | n=>n⟩
theorem laysM173:Go.Proofs.LaysM.n173 prog laysM173_ren:={
 mixed:=by kernel_rfl
 f129:=func248.trans (congrArg some (by kernel_rfl))
 f173:=func131.trans (congrArg some (by kernel_rfl))
 f246:=func184.trans (congrArg some (by kernel_rfl))
 f283:=func225.trans (congrArg some (by kernel_rfl))
 f284:=func226.trans (congrArg some (by kernel_rfl))
 f285:=func227.trans (congrArg some (by kernel_rfl))
 f286:=func228.trans (congrArg some (by kernel_rfl))
 f317:=func247.trans (congrArg some (by kernel_rfl))
 f318:=func249.trans (congrArg some (by kernel_rfl))
 f319:=func250.trans (congrArg some (by kernel_rfl))
 f320:=func251.trans (congrArg some (by kernel_rfl))
 f337:=func264.trans (congrArg some (by kernel_rfl))
 f338:=func265.trans (congrArg some (by kernel_rfl))
 t0:=underlying0
 a0:=isAgg0
 z0:=sizeOf0
 v0:=zeroValue0
 t2:=underlying2
 a2:=isAgg2
 z2:=sizeOf2
 v2:=zeroValue2
 t3:=underlying3
 a3:=isAgg3
 z3:=sizeOf3
 v3:=zeroValue3
 t4:=underlying4
 a4:=isAgg4
 z4:=sizeOf4
 v4:=zeroValue4
 t5:=underlying5
 a5:=isAgg5
 z5:=sizeOf5
 v5:=zeroValue5
 t9:=underlying9
 a9:=isAgg9
 z9:=sizeOf9
 v9:=zeroValue9
 t20:=underlying20
 a20:=isAgg20
 z20:=sizeOf20
 v20:=zeroValue20
 t37:=underlying54
 a37:=isAgg54
 z37:=sizeOf54
 v37:=zeroValue54
 t46:=underlying250
 a46:=isAgg250
 z46:=sizeOf250
 v46:=zeroValue250
 t51:=underlying287
 a51:=isAgg287
 z51:=sizeOf287
 v51:=zeroValue287
 t53:=underlying268
 a53:=isAgg268
 z53:=sizeOf268
 v53:=zeroValue268
 t171:=underlying301
 a171:=isAgg301
 z171:=sizeOf301
 v171:=zeroValue301
 t173:=underlying304
 a173:=isAgg304
 z173:=sizeOf304
 v173:=zeroValue304
 t212:=underlying316
 a212:=isAgg316
 z212:=sizeOf316
 v212:=zeroValue316
 t213:=underlying317
 a213:=isAgg317
 z213:=sizeOf317
 t232:=underlying348
 a232:=isAgg348
 z232:=sizeOf348
 v232:=zeroValue348
 t233:=underlying349
 a233:=isAgg349
 z233:=sizeOf349
 v233:=zeroValue349
 g17:=by kernel_rfl
 g18:=by kernel_rfl
 g19:=by kernel_rfl
 i0:=by kernel_rfl
 i2:=by kernel_rfl
 i3:=by kernel_rfl
 i4:=by kernel_rfl
 i5:=by kernel_rfl
 i9:=by kernel_rfl
 i20:=by kernel_rfl
 i37:=by kernel_rfl
 i46:=by kernel_rfl
 i51:=by kernel_rfl
 i53:=by kernel_rfl
 i171:=by kernel_rfl
 i173:=by kernel_rfl
 i212:=by kernel_rfl
 i232:=by kernel_rfl
 i233:=by kernel_rfl
 m17:=by kernel_rfl
 m18:=by kernel_rfl
 m19:=by kernel_rfl }
open Go.RowKit Go.Sort Go.Lib in
theorem strconv_FormatInt_10 (n:Int) (h0: -9223372036854775808<=n) (h1:n<=9223372036854775807) (w:World) (htab:Lib.TabIs prog w "internal/strconv.uint64pow10" .u64 Lib.pow10Tab) :
 Calls prog 131 #[.int .i64 n,.int .i64 10] w fun e w'=>e=.returned (.string ⟨(Lib.itoa n).toArray⟩)/\∃ k os,w'=grow (w.drewN k) os:=Any.strconv_FormatInt_10 laysM173 n h0 h1 w htab
def laysM316_ren:Go.Shelf.Ren:=⟨fun | 316=>118 | n=>n,fun | 9=>9 | 3=>3 | 4=>4 | 37=>54 | 0=>0 | 127=>146 | 5=>5 | n=>n,fun | n=>n⟩
theorem laysM316:Go.Proofs.LaysM.n316 prog laysM316_ren:={
 mixed:=by kernel_rfl
 f316:=func118.trans (congrArg some (by kernel_rfl))
 t0:=underlying0
 a0:=isAgg0
 z0:=sizeOf0
 v0:=zeroValue0
 t3:=underlying3
 a3:=isAgg3
 z3:=sizeOf3
 v3:=zeroValue3
 t4:=underlying4
 a4:=isAgg4
 z4:=sizeOf4
 v4:=zeroValue4
 t9:=underlying9
 a9:=isAgg9
 z9:=sizeOf9
 v9:=zeroValue9
 t37:=underlying54
 a37:=isAgg54
 z37:=sizeOf54
 v37:=zeroValue54
 t127:=underlying146
 a127:=isAgg146
 z127:=sizeOf146
 v127:=zeroValue146
 t5:=underlying5
 a5:=isAgg5
 z5:=sizeOf5
 v5:=zeroValue5
 i0:=by kernel_rfl
 i3:=by kernel_rfl
 i4:=by kernel_rfl
 i5:=by kernel_rfl
 i9:=by kernel_rfl
 i37:=by kernel_rfl
 i127:=by kernel_rfl }
open Go.RowKit in
theorem stringslite_Clone (s:Tr) (w:World) (a:s.size<=281474976710656) :
 Calls prog 118 #[.string s] w fun e w'=>e=.returned (.string s)/\Below w.heap.size w w':=Any.stringslite_Clone laysM316 s w a
def laysC174_ren:Go.Shelf.Ren:=⟨fun | 174=>242 | 247=>259 | 245=>260 | 287=>270 | 279=>271 | 280=>272 | 281=>273 | 282=>274 | 321=>286 | 322=>287 | 316=>118 | 171=>289 | 205=>288 | 243=>295 | 246=>184 | 283=>225 | 284=>226 | 285=>227 | 286=>228 | 129=>248 | 317=>247 | 318=>249 | 319=>250 | 320=>251 | 337=>264 | 338=>265 | n=>n,fun | 9=>9 | 3=>3 | 2=>2 | 75=>94 | 85=>311 | 4=>4 | 167=>337 | 5=>5 | 53=>268 | 175=>338 | 46=>250 | 168=>340 | 37=>54 | 0=>0 | 210=>357 | 21=>21 | 127=>146 | 145=>363 | 143=>361 | 171=>301 | 173=>304 | 212=>316 | 51=>287 | 20=>20 | 213=>317 | 232=>348 | 233=>349 | 80=>98 | n=>n,fun | 15=>6 | 16=>7 | 17=>1 | 18=>4 | 19=>5 | n=>n⟩
theorem laysC174:Go.Proofs.LaysC.n174 prog laysC174_ren:={
 mixed:=by kernel_rfl
 f129:=func248.trans (congrArg some (by kernel_rfl))
 f171:=func289.trans (congrArg some (by kernel_rfl))
 f174:=func242.trans (congrArg some (by kernel_rfl))
 f205:=func288.trans (congrArg some (by kernel_rfl))
 f243:=func295.trans (congrArg some (by kernel_rfl))
 f245:=func260.trans (congrArg some (by kernel_rfl))
 f246:=func184.trans (congrArg some (by kernel_rfl))
 f247:=func259.trans (congrArg some (by kernel_rfl))
 f279:=func271.trans (congrArg some (by kernel_rfl))
 f280:=func272.trans (congrArg some (by kernel_rfl))
 f281:=func273.trans (congrArg some (by kernel_rfl))
 f282:=func274.trans (congrArg some (by kernel_rfl))
 f283:=func225.trans (congrArg some (by kernel_rfl))
 f284:=func226.trans (congrArg some (by kernel_rfl))
 f285:=func227.trans (congrArg some (by kernel_rfl))
 f286:=func228.trans (congrArg some (by kernel_rfl))
 f287:=func270.trans (congrArg some (by kernel_rfl))
 f316:=func118.trans (congrArg some (by kernel_rfl))
 f317:=func247.trans (congrArg some (by kernel_rfl))
 f318:=func249.trans (congrArg some (by kernel_rfl))
 f319:=func250.trans (congrArg some (by kernel_rfl))
 f320:=func251.trans (congrArg some (by kernel_rfl))
 f321:=func286.trans (congrArg some (by kernel_rfl))
 f322:=func287.trans (congrArg some (by kernel_rfl))
 f337:=func264.trans (congrArg some (by kernel_rfl))
 f338:=func265.trans (congrArg some (by kernel_rfl))
 t0:=underlying0
 a0:=isAgg0
 z0:=sizeOf0
 v0:=zeroValue0
 t2:=underlying2
 a2:=isAgg2
 z2:=sizeOf2
 v2:=zeroValue2
 t3:=underlying3
 a3:=isAgg3
 z3:=sizeOf3
 v3:=zeroValue3
 t4:=underlying4
 a4:=isAgg4
 z4:=sizeOf4
 v4:=zeroValue4
 t5:=underlying5
 a5:=isAgg5
 z5:=sizeOf5
 v5:=zeroValue5
 t9:=underlying9
 a9:=isAgg9
 z9:=sizeOf9
 v9:=zeroValue9
 t20:=underlying20
 a20:=isAgg20
 z20:=sizeOf20
 v20:=zeroValue20
 t21:=underlying21
 a21:=isAgg21
 z21:=sizeOf21
 v21:=zeroValue21
 t37:=underlying54
 a37:=isAgg54
 z37:=sizeOf54
 v37:=zeroValue54
 t46:=underlying250
 a46:=isAgg250
 z46:=sizeOf250
 v46:=zeroValue250
 t51:=underlying287
 a51:=isAgg287
 z51:=sizeOf287
 v51:=zeroValue287
 t53:=underlying268
 a53:=isAgg268
 z53:=sizeOf268
 v53:=zeroValue268
 t75:=underlying94
 a75:=isAgg94
 z75:=sizeOf94
 v75:=zeroValue94
 t85:=underlying311
 a85:=isAgg311
 z85:=sizeOf311
 v85:=zeroValue311
 t127:=underlying146
 a127:=isAgg146
 z127:=sizeOf146
 v127:=zeroValue146
 t143:=underlying361
 a143:=isAgg361
 z143:=sizeOf361
 v143:=zeroValue361
 t145:=underlying363
 a145:=isAgg363
 z145:=sizeOf363
 v145:=zeroValue363
 t167:=underlying337
 a167:=isAgg337
 z167:=sizeOf337
 v167:=zeroValue337
 t168:=underlying340
 a168:=isAgg340
 z168:=sizeOf340
 v168:=zeroValue340
 t171:=underlying301
 a171:=isAgg301
 z171:=sizeOf301
 v171:=zeroValue301
 t173:=underlying304
 a173:=isAgg304
 z173:=sizeOf304
 v173:=zeroValue304
 t175:=underlying338
 a175:=isAgg338
 z175:=sizeOf338
 v175:=zeroValue338
 t210:=underlying357
 a210:=isAgg357
 z210:=sizeOf357
 v210:=zeroValue357
 t212:=underlying316
 a212:=isAgg316
 z212:=sizeOf316
 v212:=zeroValue316
 t213:=underlying317
 a213:=isAgg317
 z213:=sizeOf317
 t232:=underlying348
 a232:=isAgg348
 z232:=sizeOf348
 v232:=zeroValue348
 t233:=underlying349
 a233:=isAgg349
 z233:=sizeOf349
 v233:=zeroValue349
 g15:=by kernel_rfl
 g16:=by kernel_rfl
 g17:=by kernel_rfl
 g18:=by kernel_rfl
 g19:=by kernel_rfl
 t80:=underlying98
 a80:=isAgg98
 z80:=sizeOf98
 v80:=zeroValue98
 i0:=by kernel_rfl
 i2:=by kernel_rfl
 i3:=by kernel_rfl
 i4:=by kernel_rfl
 i5:=by kernel_rfl
 i9:=by kernel_rfl
 i20:=by kernel_rfl
 i21:=by kernel_rfl
 i37:=by kernel_rfl
 i46:=by kernel_rfl
 i51:=by kernel_rfl
 i53:=by kernel_rfl
 i75:=by kernel_rfl
 i80:=by kernel_rfl
 i85:=by kernel_rfl
 i127:=by kernel_rfl
 i143:=by kernel_rfl
 i145:=by kernel_rfl
 i167:=by kernel_rfl
 i168:=by kernel_rfl
 i171:=by kernel_rfl
 i173:=by kernel_rfl
 i175:=by kernel_rfl
 i210:=by kernel_rfl
 i212:=by kernel_rfl
 i232:=by kernel_rfl
 i233:=by kernel_rfl
 m15:=by kernel_rfl
 m16:=by kernel_rfl
 m17:=by kernel_rfl
 m18:=by kernel_rfl
 m19:=by kernel_rfl
 c0:=by kernel_rfl
 c2:=by kernel_rfl
 c3:=by kernel_rfl
 c4:=by kernel_rfl
 c5:=by kernel_rfl
 c9:=by kernel_rfl
 c20:=by kernel_rfl
 c21:=by kernel_rfl
 c37:=by kernel_rfl
 c46:=by kernel_rfl
 c51:=by kernel_rfl
 c53:=by kernel_rfl
 c75:=by kernel_rfl
 c80:=by kernel_rfl
 c85:=by kernel_rfl
 c127:=by kernel_rfl
 c143:=by kernel_rfl
 c145:=by kernel_rfl
 c167:=by kernel_rfl
 c168:=by kernel_rfl
 c171:=by kernel_rfl
 c173:=by kernel_rfl
 c175:=by kernel_rfl
 c210:=by kernel_rfl
 c212:=by kernel_rfl
 c213:=by kernel_rfl
 c232:=by kernel_rfl
 c233:=by kernel_rfl }
open Go.RowKit in
theorem strconv_ParseInt_10_at64_ok (s:Tr) (a:s.size<=9223372036854775806) (v:Int) (h:Lib.parseIntB 64 s.data.toList=.ok v) (w:World) :
 Calls prog 242 #[.string s,.int .i64 10,.int .i64 64] w fun e w'=>e=.returned (.tuple #[.int .i64 v,.nilIface])/\(w'=w\/∃ t,w'=Lib.bytesWorld w 5 t):=Any.strconv_ParseInt_10_at64_ok laysC174 s a v h w
def lays219_ren:Go.Shelf.Ren:=⟨fun | 219=>108 | 217=>163 | 225=>164 | 224=>165 | 267=>166 | 266=>205 | 314=>206 | n=>n,fun | 9=>9 | 3=>3 | 4=>4 | 5=>5 | 46=>250 | 146=>288 | 51=>287 | n=>n,fun | 1=>0 | n=>n⟩
theorem lays219:Go.Proofs.Lays.n219 prog lays219_ren:={
 mixed:=by kernel_rfl
 f217:=func163.trans (congrArg some (by kernel_rfl))
 f219:=func108.trans (congrArg some (by kernel_rfl))
 f224:=func165.trans (congrArg some (by kernel_rfl))
 f225:=func164.trans (congrArg some (by kernel_rfl))
 f266:=func205.trans (congrArg some (by kernel_rfl))
 f267:=func166.trans (congrArg some (by kernel_rfl))
 f314:=func206.trans (congrArg some (by kernel_rfl))
 t3:=underlying3
 a3:=isAgg3
 z3:=sizeOf3
 v3:=zeroValue3
 t4:=underlying4
 a4:=isAgg4
 z4:=sizeOf4
 v4:=zeroValue4
 t5:=underlying5
 a5:=isAgg5
 z5:=sizeOf5
 v5:=zeroValue5
 t9:=underlying9
 a9:=isAgg9
 z9:=sizeOf9
 v9:=zeroValue9
 t46:=underlying250
 a46:=isAgg250
 z46:=sizeOf250
 v46:=zeroValue250
 t51:=underlying287
 a51:=isAgg287
 z51:=sizeOf287
 v51:=zeroValue287
 t146:=underlying288
 a146:=isAgg288
 z146:=sizeOf288
 v146:=zeroValue288
 g1:=by kernel_rfl }
open Go.RowKit Go.Lib in
theorem stringslite_Index_one (s:Tr) (c:UInt8) (w:World) :
 Calls prog 108 #[.string s,.string ⟨#[c]⟩] w fun e w'=>e=.returned (.int .i64 (Lib.indexByte s.data.toList c))/\w'=w:=Any.stringslite_Index_one lays219 s c w
def lays99_ren:Go.Shelf.Ren:=⟨fun | 99=>203 | 206=>211 | n=>n,fun | 9=>9 | 4=>4 | 3=>3 | n=>n,fun | n=>n⟩
theorem lays99:Go.Proofs.Lays.n99 prog lays99_ren:={
 mixed:=by kernel_rfl
 f99:=func203.trans (congrArg some (by kernel_rfl))
 f206:=func211.trans (congrArg some (by kernel_rfl))
 t3:=underlying3
 a3:=isAgg3
 z3:=sizeOf3
 v3:=zeroValue3
 t4:=underlying4
 a4:=isAgg4
 z4:=sizeOf4
 v4:=zeroValue4
 t9:=underlying9
 a9:=isAgg9
 z9:=sizeOf9
 v9:=zeroValue9 }
open Go.RowKit Go.Lib in
theorem strings_HasPrefix (s p:Tr) (w:World) :
 Calls prog 203 #[.string s,.string p] w fun e w'=>e=.returned (.bool (Lib.hasPrefix s.data.toList p.data.toList))/\w'=w:=Any.strings_HasPrefix lays99 s p w
def lays152_ren:Go.Shelf.Ren:=⟨fun | 152=>171 | 137=>209 | 119=>210 | 224=>165 | 225=>164 | 217=>163 | 266=>205 | n=>n,fun | 9=>9 | 21=>21 | 3=>3 | 4=>4 | 5=>5 | 0=>0 | 46=>250 | n=>n,fun | n=>n⟩
theorem lays152:Go.Proofs.Lays.n152 prog lays152_ren:={
 mixed:=by kernel_rfl
 f119:=func210.trans (congrArg some (by kernel_rfl))
 f137:=func209.trans (congrArg some (by kernel_rfl))
 f152:=func171.trans (congrArg some (by kernel_rfl))
 f217:=func163.trans (congrArg some (by kernel_rfl))
 f224:=func165.trans (congrArg some (by kernel_rfl))
 f225:=func164.trans (congrArg some (by kernel_rfl))
 f266:=func205.trans (congrArg some (by kernel_rfl))
 t0:=underlying0
 a0:=isAgg0
 z0:=sizeOf0
 v0:=zeroValue0
 t3:=underlying3
 a3:=isAgg3
 z3:=sizeOf3
 v3:=zeroValue3
 t4:=underlying4
 a4:=isAgg4
 z4:=sizeOf4
 v4:=zeroValue4
 t5:=underlying5
 a5:=isAgg5
 z5:=sizeOf5
 v5:=zeroValue5
 t9:=underlying9
 a9:=isAgg9
 z9:=sizeOf9
 v9:=zeroValue9
 t21:=underlying21
 a21:=isAgg21
 z21:=sizeOf21
 v21:=zeroValue21
 t46:=underlying250
 a46:=isAgg250
 z46:=sizeOf250
 v46:=zeroValue250 }
open Go.RowKit Go.Lib in
theorem strings_IndexRune_ascii (s:Tr) (r:Int) (w:World) (b:0<=r) (a:r<128) :
 Calls prog 171 #[.string s,.int .i32 r] w fun e w'=>e=.returned (.int .i64 (Lib.indexByte s.data.toList r.toNat.toUInt8))/\w'=w:=Any.strings_IndexRune_ascii lays152 s r w b a
def lays226_ren:Go.Shelf.Ren:=⟨fun | 226=>172 | n=>n,fun | 3=>3 | 4=>4 | n=>n,fun | n=>n⟩
theorem lays226:Go.Proofs.Lays.n226 prog lays226_ren:={
 mixed:=by kernel_rfl
 f226:=func172.trans (congrArg some (by kernel_rfl))
 t3:=underlying3
 a3:=isAgg3
 z3:=sizeOf3
 v3:=zeroValue3
 t4:=underlying4
 a4:=isAgg4
 z4:=sizeOf4
 v4:=zeroValue4 }
open Go.RowKit Go.Lib in
theorem strings_shouldUseASCIISet (n:Int) (w:World) :
 Calls prog 172 #[.int .i64 n] w fun e w'=>e=.returned (.bool (decide (8<n)))/\w'=w:=Any.strings_shouldUseASCIISet lays226 n w
def lays153_ren:Go.Shelf.Ren:=⟨fun | 153=>110 | 152=>171 | 226=>172 | 227=>168 | 228=>173 | 137=>209 | 119=>210 | 224=>165 | 225=>164 | 217=>163 | 266=>205 | n=>n,fun | 9=>9 | 3=>3 | 4=>4 | 5=>5 | 21=>21 | 117=>254 | 116=>253 | 0=>0 | 46=>250 | 124=>257 | n=>n,fun | n=>n⟩
theorem lays153:Go.Proofs.Lays.n153 prog lays153_ren:={
 mixed:=by kernel_rfl
 f119:=func210.trans (congrArg some (by kernel_rfl))
 f137:=func209.trans (congrArg some (by kernel_rfl))
 f152:=func171.trans (congrArg some (by kernel_rfl))
 f153:=func110.trans (congrArg some (by kernel_rfl))
 f217:=func163.trans (congrArg some (by kernel_rfl))
 f224:=func165.trans (congrArg some (by kernel_rfl))
 f225:=func164.trans (congrArg some (by kernel_rfl))
 f226:=func172.trans (congrArg some (by kernel_rfl))
 f227:=func168.trans (congrArg some (by kernel_rfl))
 f228:=func173.trans (congrArg some (by kernel_rfl))
 f266:=func205.trans (congrArg some (by kernel_rfl))
 t0:=underlying0
 a0:=isAgg0
 z0:=sizeOf0
 v0:=zeroValue0
 t3:=underlying3
 a3:=isAgg3
 z3:=sizeOf3
 v3:=zeroValue3
 t4:=underlying4
 a4:=isAgg4
 z4:=sizeOf4
 v4:=zeroValue4
 t5:=underlying5
 a5:=isAgg5
 z5:=sizeOf5
 v5:=zeroValue5
 t9:=underlying9
 a9:=isAgg9
 z9:=sizeOf9
 v9:=zeroValue9
 t21:=underlying21
 a21:=isAgg21
 z21:=sizeOf21
 v21:=zeroValue21
 t46:=underlying250
 a46:=isAgg250
 z46:=sizeOf250
 v46:=zeroValue250
 t116:=underlying253
 a116:=isAgg253
 z116:=sizeOf253
 t117:=underlying254
 a117:=isAgg254
 z117:=sizeOf254
 v117:=zeroValue254
 t124:=underlying257
 a124:=isAgg257
 z124:=sizeOf257
 v124:=zeroValue257 }
open Go.RowKit Go.Lib in
theorem strings_IndexAny_long (d:∀ w,(zeroValue 253).run prog w=.ok (.agg (Array.replicate 256 (.bool false))) w) (s a:Tr) (w:World) (h:2<=a.size) (g:8<s.size) (hs:s.size<4294967281) (f:a.size<4294967281) (c:∀ (j:Nat) b,a.data.toList[j]? = some b->b.toNat<128) :
 Calls prog 110 #[.string s,.string a] w fun e w'=>e=.returned (.int .i64 (Lib.indexAny s.data.toList a.data.toList))/\w'=((w.alloc (.cells (Lib.setCells a.data.toList) 253)).alloc (.cells (Lib.setCells a.data.toList) 253)):=Any.strings_IndexAny_long lays153 d (by kernel_rfl) s a w h g hs f c
def lays264_ren:Go.Shelf.Ren:=⟨fun | 264=>284 | n=>n,fun | 53=>268 | 46=>250 | n=>n,fun | n=>n⟩
theorem lays264:Go.Proofs.Lays.n264 prog lays264_ren:={
 mixed:=by kernel_rfl
 f264:=func284.trans (congrArg some (by kernel_rfl))
 t46:=underlying250
 a46:=isAgg250
 z46:=sizeOf250
 v46:=zeroValue250
 t53:=underlying268
 a53:=isAgg268
 z53:=sizeOf268
 v53:=zeroValue268 }
open Go.RowKit Go.Lib in
theorem bits_Mul64 (x y:Nat) (hx:x<18446744073709551616) (a:y<18446744073709551616) (w:World) :
 Calls prog 284 #[.int .u64 x,.int .u64 y] w fun e w'=>e=.returned (.tuple #[.int .u64 ((x*y / 18446744073709551616:Nat):Int),.int .u64 ((x*y % 18446744073709551616:Nat):Int)])/\w'=w:=Any.bits_Mul64 lays264 x y hx a w
end
end Go.Proofs
namespace Go.Proofs.YtgfkjkokmcejbaaGreatDoor
open Go.RowKit Tryz
theorem bA0 (w:Go.World) (o:Go.Obj):Go.RowKit.Below w.heap.size w (w.alloc o):=(Go.RowKit.Below.refl _ _).alloc (Td _) o
structure aC (S:Nat->Prop) (w w':World):Prop where
 os:w'.os=w.os
 tape:w'.tape=w.tape
 output:w'.output=w.output
 size:w.heap.size<=w'.heap.size
 block:∀ k,k<w.heap.size->¬ S k->w'.heap[k]? = w.heap[k]?
theorem aC.refl (S:Nat->Prop) (w:World):aC S w w:=⟨rfl,rfl,rfl,Td _,fun _ _ _=>rfl⟩
theorem aC.trans {S T:Nat->Prop} {a b c:World} (h:aC S a b) (k:aC T b c) (j:∀ i,T i->i<a.heap.size->S i):aC S a c :=
 ⟨k.os.trans h.os,k.tape.trans h.tape,k.output.trans h.output,Nat.le_trans h.size k.size,fun i d f =>
  (k.block i (Nat.lt_of_lt_of_le d h.size) (fun g=>f (j i g d))).trans (h.block i d f)⟩
theorem aC.mono {S T:Nat->Prop} {a b:World} (h:aC S a b) (d:∀ i,S i->i<a.heap.size->T i):aC T a b :=
 ⟨h.os,h.tape,h.output,h.size,fun i c f=>h.block i c (fun hs=>f (d i hs c))⟩
theorem aC.alloc {S:Nat->Prop} {a w:World} (h:aC S a w) (o:Obj):aC S a (w.alloc o) :=
 h.trans (T:=S) ⟨rfl,rfl,rfl,by simp,fun k b _=>Below.heap_alloc _ _ _ b⟩ (fun _ hs _=>hs)
theorem aC.drew {S:Nat->Prop} {a w:World} (h:aC S a w):aC S a w.drew:=⟨h.os,h.tape,h.output,h.size,h.block⟩
theorem aC.drewN {S:Nat->Prop} {a w:World} (h:aC S a w) (n:Nat):aC S a (w.drewN n):=⟨h.os,h.tape,h.output,h.size,h.block⟩
theorem aC.setCell {S:Nat->Prop} {a w:World} (h:aC S a w) {p:Addr} (hp:S p.block\/a.heap.size<=p.block) (u:Value):aC S a (w.setCell p u) :=
 h.trans (T:=fun i=>i=p.block) ⟨rfl,rfl,rfl,by simp [World.setCell],fun k _ b=>Below.heap_setCell _ _ _ _ b⟩
  (fun i c hl=>by subst c;rcases hp with hp | hp;exact hp;omega)
theorem aC.grown {S:Nat->Prop} {a w w':World} {row:Option Nat} (h:aC S a w) (b:w.grownBy w' row) (hr:∀ k,row=some k->S k\/a.heap.size<=k):aC S a w' :=
 h.trans (T:=fun i=>row=some i) ⟨b.os,b.tape,b.output,b.size,fun k d c=>b.block k d (fun e=>c e.symm)⟩
  (fun i f hl=>by rcases hr i f with hp | hp;exact hp;omega)
theorem aC.below {S:Nat->Prop} {B:Nat} {w w':World} (h:aC S w w') (a:∀ k,S k->B<=k) (c:B<=w.heap.size):Below B w w' :=
 ⟨h.os,h.tape,h.output,h.size,fun k b=>h.block k (by omega) (fun hs=>by have:=a k hs;omega)⟩
theorem aC.heap {S:Nat->Prop} {w w':World} {k:Nat} {o:Obj} (h:aC S w w') (a:w.heap[k]? = some o) (b:¬ S k):w'.heap[k]? = some o :=
 (h.block k (lt_of_block a) b).trans a
theorem aC.cell {S:Nat->Prop} {w w':World} {a:Addr} {v:Value} (h:aC S w w') (b:w.cell? a=some v) (c:¬ S a.block):w'.cell? a=some v :=
 (World.cell?_of_block (h.block a.block (World.block_lt_of_cell? w a b) c)).trans b
theorem aC.owns {S:Nat->Prop} {w w':World} {base:Nat} {e:TypeId} {size:Nat} {v:Value} {n:Nat} {xs:List Value} (h:aC S w w') (ho:w.ownsRow base e size v n xs)
 (j:∀ b,v.ownBlock=some b->¬ S b):w'.ownsRow base e size v n xs:=by
 refine ⟨ho.1,?_⟩;rcases ho.2 with hn | ⟨g,d,c,rfl,f,a,rest⟩
 · exact .inl hn
 · exact .inr ⟨g,d,c,rfl,f,h.heap a (j g (by simp [Value.ownBlock])),rest⟩
theorem Ej {w:World} {e:TypeId} {v:Value} {n:Nat} {xs:List Value} (h:w.ownsRow 0 e 1 v n xs):xs.length=n:=by rw [h.1,Nat.mul_one]
theorem eD {w:World} {e:TypeId} {g n:Nat} {a:Array Value} {xs:List Value} (d:w.heap[g]? = some (.cells a e (0,0))) (c:a.toList.take n=xs) {j:Nat} {v:Value} (b:xs[j]? = some v):w.cell? ⟨g,j,none⟩=some v:=by
 rw [cell_of_row w g j a e (0,0) d];rw [<- c,List.getElem?_take] at b;split at b
 · simpa using b
 · cases b
theorem cN (b:Nat) (e:TypeId):∀ (f:List Value) (o:Nat) (w:World) (a:Array Value),w.heap[b]? = some (.cells a e (0,0))->o+f.length<=a.size ->
 ∃ c,(w.setCells b o f).heap[b]? = some (.cells c e (0,0))/\c.toList=a.toList.take o++f++a.toList.drop (o+f.length)
 | [],o,w,a,h,_=>⟨a,h,by simp⟩
 | v :: r, o, w, a, h, hl => by
   have l:=heap_setCell_same w b o a e v h;have hs:(a.setIfInBounds o v).size=a.size:=by simp
   obtain ⟨c,k,j⟩:=cN b e r (o+1) _ _ l (by simp at hl |-;omega);refine ⟨c,k,?_⟩;rw [j];simp only [Te] at hl |-
   have ho:o<a.toList.length:=by rw [Ti];omega
   have g:(a.toList.take o).length=o:=by rw [Th];omega
   have d:(a.toList.take o++[a.toList[o]]).set o v=a.toList.take o++[v]:=by
    rw [List.set_append,if_neg (by omega),g,Nat.sub_self];rfl
   rw [Array.toList_setIfInBounds,List.take_set,List.drop_set_of_lt (by omega),List.take_succ_eq_append_getElem ho,d];simp [Nat.add_assoc,Nat.add_comm 1]
theorem cO {S:Nat->Prop} {w w':World} {row:Option Nat} (h:aC S w w') (c:∀ k,S k->row=some k):w.grownBy w' row :=
 ⟨h.os,h.tape,h.output,h.size,fun k b a=>h.block k b (fun hs=>a (c k hs).symm)⟩
theorem dO {x y:Tr} (h:x.data.toList=y.data.toList):x=y:=by
 cases x;cases y;simp only [ByteArray.mk.injEq];exact Array.toList_inj.1 h
def bW (a:Int):Prop:= -9223372036854775808<=a/\a<=9223372036854775807
def fZ (l:Tq):Option Int :=
 match Lib.parseIntB 64 l with
 | .ok v=>if Lib.itoa v=l then some v else none
 | _=>none
theorem Eh {l:Tq} {v:Int} (h:Lib.parseIntB 64 l=.ok v):bW v:=by
 cases l with
 | nil=>simp [Lib.parseIntB] at h
 | cons c r =>
   simp only [Lib.parseIntB] at h;split at h
   · cases h
   · cases h
   · rename_i u a
     split at h
     · cases h
     · split at h
       · cases h
       · simp only [Lib.NumEnd.ok.injEq] at h
         unfold bW;split at h <;> omega
theorem sD (M:Nat) (c:UInt8) (hc:48<=c.toNat/\c.toNat<=57):∀ (l:Tq) (acc v:Nat),Lib.parseUintM M acc l=.ok v->v<1844674407370955162->v*10+(c.toNat-48)<=M->Lib.parseUintM M acc (l++[c])=.ok (v*10+(c.toNat-48))
 | [], acc, v, h, hv, hM => by
   simp only [Lib.parseUintM,Lib.NumEnd.ok.injEq] at h;subst h;rw [List.nil_append,Lib.parseUintM,if_pos hc,if_neg (by omega),if_neg (by omega),Lib.parseUintM]
 | d :: r, acc, v, h, hv, hM => by
   rw [Lib.parseUintM] at h;rw [List.cons_append,Lib.parseUintM];by_cases f:48<=d.toNat/\d.toNat<=57
   · rw [if_pos f] at h |-
     by_cases b:1844674407370955162<=acc
     · rw [if_pos b] at h;cases h
     · rw [if_neg b] at h |-
       by_cases a:M<acc*10+(d.toNat-48)
       · rw [if_pos a] at h;cases h
       · rw [if_neg a] at h |-
         exact sD M c hc r _ v h hv hM
   · rw [if_neg f] at h;cases h
theorem gB (m:Nat) (h:m<10):(UInt8.ofNat (48+m)).toNat=48+m:=by rw [UInt8.toNat_ofNat'];omega
theorem Bg (u:Nat) (b:u<=9223372036854775808):Lib.parseUintM (2 ^ 64-1) 0 (Tl u)=.ok u:=by
 induction u using Nat.strongRecOn with
 | _ u ih =>
   rw [Tl];by_cases h:u<10
   · rw [dif_pos h]
     have:=sD (2 ^ 64-1) (UInt8.ofNat (48+u)) (by rw [gB u h];omega) [] 0 0 rfl (by omega) (by rw [gB u h];omega);rw [gB u h] at this;simpa using this
   · rw [dif_neg h]
     have a:u % 10<10:=Nat.mod_lt _ (by omega);have:=sD (2 ^ 64-1) (UInt8.ofNat (48+u % 10)) (by rw [gB _ a];omega) _ 0 (u / 10) (ih (u / 10) (by omega) (by omega)) (by omega) (by rw [gB _ a];omega);rw [gB _ a] at this;rw [this];congr 1
     omega
theorem sH (u:Nat):∀ c∈Tl u,48<=c.toNat/\c.toNat<=57:=by
 induction u using Nat.strongRecOn with
 | _ u ih =>
   rw [Tl];by_cases h:u<10
   · rw [dif_pos h]
     intro c hc;obtain rfl:=List.mem_singleton.1 hc;rw [gB u h];omega
   · rw [dif_neg h]
     have a:u % 10<10:=Nat.mod_lt _ (by omega);intro c hc;rcases List.mem_append.1 hc with hc | hc
     · exact ih (u / 10) (by omega) c hc
     · obtain rfl:=List.mem_singleton.1 hc
       rw [gB _ a];omega
theorem pP (u:Nat):∃ c r,Tl u=c::r/\48<=c.toNat/\c.toNat<=57:=by
 cases h:Tl u with
 | nil =>
   rw [Tl] at h;split at h <;> simp at h
 | cons c r=>exact ⟨c,r,rfl,sH u c (by rw [h];simp)⟩
theorem Er {n:Int} (hn:bW n):fZ (Lib.itoa n)=some n:=by
 obtain ⟨k,j⟩:=hn
 have hp:Lib.parseIntB 64 (Lib.itoa n)=.ok n:=by
  unfold Lib.itoa;by_cases f:n<0
  · rw [if_pos f]
    obtain ⟨c,r,a,_⟩:=pP n.natAbs;have b:Lib.parseUintB 64 (Tl n.natAbs)=.ok n.natAbs:=by rw [Lib.parseUintB,if_neg (by rw [a];simp),Bg _ (by omega)]
    have d:¬ 9223372036854775808<n.natAbs:=by omega
    have l: -(n.natAbs:Int)=n:=by omega
    simp [Lib.parseIntB,b,d];omega
  · rw [if_neg f]
    obtain ⟨c,r,a,hd⟩:=pP n.toNat;have b:Lib.parseUintB 64 (Tl n.toNat)=.ok n.toNat:=by rw [Lib.parseUintB,if_neg (by rw [a];simp),Bg _ (by omega)]
    have d:¬ 9223372036854775808<=n.toNat:=by omega
    have h:¬ c.toNat=43:=by omega
    have g:¬ c.toNat=45:=by omega
    rw [a] at b |-
    simp [Lib.parseIntB,b,d,h,g];omega
 unfold fZ;rw [hp];simp
def isD (c:UInt8):Prop:=48<=c.toNat/\c.toNat<=57
def dV (d:Tq):Nat:=d.foldl (fun u c=>10*u+(c.toNat-48)) 0
theorem pW (d:Tq) (c:UInt8):dV (d++[c])=10*dV d+(c.toNat-48):=by unfold dV;rw [List.foldl_append];rfl
theorem De (u:Nat):dV (Tl u)=u:=by
 induction u using Nat.strongRecOn with
 | _ u ih =>
   rw [Tl];by_cases h:u<10
   · rw [dif_pos h]
     show 10*0+((UInt8.ofNat (48+u)).toNat-48)=u;rw [gB u h];omega
   · rw [dif_neg h,pW,ih (u / 10) (by omega),gB _ (Nat.mod_lt _ (by omega))]
     omega
theorem rD:∀ (k u:Nat),u<10 ^ (k+1)->(Tl u).length<=k+1
 | 0,u,h=>by rw [Tl,dif_pos (by omega)];simp
 | k + 1, u, h => by
   rw [Tl];by_cases a:u<10
   · rw [dif_pos a];simp
   · rw [dif_neg a,Tb]
     have:=rD k (u / 10) (by rw [Nat.div_lt_iff_lt_mul (by omega)];rw [Nat.pow_succ] at h;exact h);simp;omega
theorem Fa (u:Nat):0<u->∀ r,¬ Tl u=48::r:=by
 induction u using Nat.strongRecOn with
 | _ u ih =>
   intro d r e;rw [Tl] at e;by_cases h:u<10
   · rw [dif_pos h] at e
     have a:UInt8.ofNat (48+u)=48:=(List.cons.inj e).1;have:=gB u h;rw [a] at this;have:(48:UInt8).toNat=48:=rfl;omega
   · rw [dif_neg h] at e
     obtain ⟨c,q,b,_⟩:=pP (u / 10);rw [b,List.cons_append] at e;have a:=(List.cons.inj e).1;subst a;exact ih (u / 10) (by omega) (by omega) q b
theorem tS:Tl 0=[48]:=by rw [Tl,dif_pos (by omega)];rfl
theorem Hg {c:UInt8} (h:isD c):UInt8.ofNat (48+(c.toNat-48))=c:=by
 rw [show 48+(c.toNat-48)=c.toNat by have:=h.1;omega];exact UInt8.ofNat_toNat
theorem wP:∀ (n:Nat) (d:Tq),d.length=n->¬ d=[]->(∀ c∈d,isD c)->(∀ r,d=48::r->r=[])->Tl (dV d)=d:=by
 intro n;induction n with
 | zero=>intro d hl hn _ _;exact absurd (Tg.1 hl) hn
 | succ n ih =>
   intro d hl hn hd j;rcases List.eq_nil_or_concat d with e | ⟨e,c,rfl⟩
   · exact absurd e hn
   · rw [List.concat_eq_append] at *
     have b:isD c:=hd c (by simp);rw [pW];by_cases g:e=[]
     · subst g
       rw [show dV []=0 from rfl,Nat.mul_zero,Nat.zero_add,Tl,dif_pos (by have:=b.2;omega),Hg b];rfl
     · have a:=ih e (by simp at hl;exact hl) g (fun x hx=>hd x (by simp [hx])) (fun r hr=>by
        have:=j (r++[c]) (by rw [hr];rfl);simp at this)
       have f:0<dV e:=by
        rcases Nat.eq_zero_or_pos (dV e) with h | h
        · rw [h,tS] at a
          have:=j [c] (by rw [<- a];rfl);cases this
        · exact h
       have hx:c.toNat-48<10:=by have:=b.2;omega
       rw [Tl,dif_neg (by omega),show (10*dV e+(c.toNat-48)) / 10=dV e by omega,show (10*dV e+(c.toNat-48)) % 10=c.toNat-48 by omega,a,Hg b]
theorem Fw:∀ (n:Nat) (d:Tq),d.length=n->(∀ c∈d,isD c)->dV d<10 ^ n:=by
 intro n;induction n with
 | zero=>intro d hl _;rw [Tg.1 hl];decide
 | succ n ih =>
   intro d hl hd;rcases List.eq_nil_or_concat d with rfl | ⟨e,c,rfl⟩
   · simp at hl
   · rw [List.concat_eq_append] at *
     have a:isD c:=hd c (by simp);have:=ih e (by simp at hl;exact hl) (fun x hx=>hd x (by simp [hx]));have b:=a.2;rw [pW,Nat.pow_succ];omega
def okD (neg:Bool) (d:Tq):Prop:=¬ d=[]/\d.length<=19/\(∀ c∈d,isD c)/\(∀ r,d=48::r->r=[]/\neg=false)
theorem Ep {l:Tq} {v:Int} (h:fZ l=some v) :
 (v<0/\∃ d,l=45::d/\okD true d/\dV d=v.natAbs)\/(0<=v/\okD false l/\dV l=v.toNat):=by
 have hl:Lib.itoa v=l/\bW v:=by
  unfold fZ at h;split at h
  · rename_i x hx
    split at h
    · rename_i f
      cases h;exact ⟨f,Eh hx⟩
    · cases h
  · cases h
 obtain ⟨hl,m,k⟩:=hl
 have ok:∀ (u:Nat) (a:Bool),u<=9223372036854775808->(a=true->0<u)->okD a (Tl u):=fun u a j hn=>by
  refine ⟨?_,rD 18 u (by omega),sH u,fun r e=>?_⟩
  · obtain ⟨c,r,g,_⟩:=pP u;rw [g];simp
  · rcases Nat.eq_zero_or_pos u with h | h
    · subst h
      rw [tS] at e;refine ⟨by simpa using e.symm,?_⟩;cases a with
      | false=>rfl
      | true=>exact absurd (hn rfl) (by omega)
    · exact absurd e (Fa u h r)
 unfold Lib.itoa at hl;by_cases b:v<0
 · rw [if_pos b] at hl
   exact .inl ⟨b,_,hl.symm,ok _ _ (by omega) (fun _=>by omega),De _⟩
 · rw [if_neg b] at hl
   subst hl;exact .inr ⟨by omega,ok _ _ (by omega) (fun h=>by cases h),De _⟩
theorem Hs {d:Tq} (h:okD true d) (g:dV d<=9223372036854775808):fZ (45::d)=some (-(dV d:Int)):=by
 obtain ⟨f,j,c,b⟩:=h;have hd:=wP _ d rfl f c (fun r hr=>(b r hr).1)
 have a:0<dV d:=by
  rcases Nat.eq_zero_or_pos (dV d) with h | h
  · rw [h,tS] at hd
    have:=(b [] hd.symm).2;cases this
  · exact h
 have hn:bW (-(dV d:Int)):=by unfold bW;omega
 have:=Er hn;rwa [Lib.itoa,if_pos (by omega),show (-(dV d:Int)).natAbs=dV d by omega,hd] at this
theorem wU {d:Tq} (h:okD false d) (f:dV d<=9223372036854775807):fZ d=some (dV d:Int):=by
 obtain ⟨c,g,b,a⟩:=h;have hd:=wP _ d rfl c b (fun r hr=>(a r hr).1);have hn:bW (dV d:Int):=by unfold bW;omega
 have:=Er hn;rwa [Lib.itoa,if_neg (by omega),show ((dV d:Int)).toNat=dV d by omega,hd] at this
theorem F8 {l:Tq} {v:Int} (h:fZ l=some v):bW v:=by
 unfold fZ at h;split at h
 · rename_i x hx
   split at h
   · cases h;exact Eh hx
   · cases h
 · cases h
theorem mS {d:Tq} (h:¬ (okD true d/\dV d<=9223372036854775808)):fZ (45::d)=none:=by
 cases e:fZ (45::d) with
 | none=>rfl
 | some v =>
   have b:=F8 e;unfold bW at b;rcases Ep e with ⟨c,f,hd,ho,a⟩ | ⟨c,ho,a⟩
   · cases hd
     exact absurd ⟨ho,by omega⟩ h
   · have:=ho.2.2.1 45 (by simp)
     exact absurd this.1 (by decide)
theorem iJ {d:Tq} (b:∀ r,¬ d=45::r) (h:¬ (okD false d/\dV d<=9223372036854775807)):fZ d=none:=by
 cases e:fZ d with
 | none=>rfl
 | some v =>
   have a:=F8 e;unfold bW at a;rcases Ep e with ⟨_,c,hd,_⟩ | ⟨g,ho,f⟩
   · exact absurd hd (b c)
   · exact absurd ⟨ho,by omega⟩ h
theorem rQ:∀ (d:Tq) (acc v:Nat),Lib.parseUintM (2 ^ 64-1) acc d=.ok v->(∀ c∈d,isD c)->v=d.foldl (fun u c=>10*u+(c.toNat-48)) acc
 | [],acc,v,h,_=>by simp only [Lib.parseUintM,Lib.NumEnd.ok.injEq] at h;exact h.symm
 | c :: r, acc, v, h, hd => by
   have f:48<=c.toNat/\c.toNat<=57:=hd c (by simp);rw [Lib.parseUintM,if_pos f] at h;by_cases b:1844674407370955162<=acc
   · rw [if_pos b] at h;cases h
   · rw [if_neg b] at h
     by_cases a:2 ^ 64-1<acc*10+(c.toNat-48)
     · rw [if_pos a] at h;cases h
     · rw [if_neg a] at h
       have:=rQ r _ v h (fun x hx=>hd x (by simp [hx]));rw [this,List.foldl_cons,Nat.mul_comm acc 10]
theorem tE {d:Tq} (b:¬ d=[]) (hd:∀ c∈d,isD c) (f:∀ r,d=48::r->r=[]) (g:dV d<=9223372036854775807):Lib.parseIntB 64 d=.ok (dV d:Int):=by
 have hl:d.length<=19:=by
  have:=rD 18 (dV d) (by omega);rwa [wP _ d rfl b hd f] at this
 have h:=wU (d:=d) ⟨b,hl,hd,fun r hr=>⟨f r hr,rfl⟩⟩ g;unfold fZ at h;split at h
 · rename_i v a
   split at h
   · cases h;exact a
   · cases h
 · cases h
theorem lB {d:Tq} (hd:∀ c∈d,isD c) (f:9223372036854775807<dV d) (v:Int):¬ Lib.parseIntB 64 d=.ok v:=by
 intro h;cases d with
 | nil=>simp [Lib.parseIntB] at h
 | cons c r =>
   have b:=hd c (by simp);have n1:¬ (c.toNat=43\/c.toNat=45):=by have:=b.1;omega
   simp only [Lib.parseIntB,if_neg n1] at h;cases hp:Lib.parseUintB 64 (c::r) with
   | ok u =>
     rw [hp] at h;rw [Lib.parseUintB,if_neg (by simp)] at hp;have a:u=dV (c::r):=rQ _ _ _ hp hd;have n2:¬ c.toNat=45:=by omega
     simp only at h;rw [if_pos ⟨n2,by rw [a];omega⟩] at h;cases h
   | _=>rw [hp] at h;cases h
theorem LR {d:Tq} (hd:∀ c∈d,isD c) (a:9223372036854775807<dV d):fZ d=none:=by
 unfold fZ;split
 · rename_i v h;exact absurd h (lB hd a v)
 · rfl
theorem yJ {d:Tq} (a:¬ d=[]) (hd:∀ c∈d,isD c) (b:∀ r,d=48::r->r=[]) (f:dV d<=9223372036854775807):fZ d=some (dV d:Int):=by
 have hl:d.length<=19:=by
  have:=rD 18 (dV d) (by omega);rwa [wP _ d rfl a hd b] at this
 exact wU ⟨a,hl,hd,fun r hr=>⟨b r hr,rfl⟩⟩ f
def bH (c:UInt8):Bool:=decide (97<=(c.toNat:Int)) && decide ((c.toNat:Int)<=122)
def aZ (c:UInt8):Bool:=decide (48<=(c.toNat:Int)) && decide ((c.toNat:Int)<=57)
def a8 (c:UInt8):Bool:=bH c || aZ c
def cD:Tq->Bool
 | []=>false
 | c::r=>bH c && decide (r.length<=7) && r.all a8
def Lg:Tq->List (Tq)
 | []=>[[]]
 | c::r=>if c=47 then []::Lg r else ((c::(Lg r).head!)::(Lg r).tail)
def LU (l:Tq) (p:Nat):Bool :=
 match l with
 | []=>decide (0<p)
 | c::r=>decide (c=47) && (Lg r).all cD && decide ((Lg r).length+p<=4)
def Qv (l:Tq):Bool:=LU l 0
theorem mV (c:UInt8) (r:Tq):cD (c::r)=(bH c && decide (r.length<=7) && r.all a8):=rfl
def bR (p:UInt8->Bool) (l:Tq):Nat:=(l.takeWhile p).length
def cU (c:UInt8):Bool:=c == 40 || c == 41 || c == 44 || c == 61 || c == 60 || c == 62 || c == 43 || c == 45 || c == 42 || c == 47 || c == 37
def cT (c d:UInt8):Bool:=d == 61 && (c == 33 || c == 60 || c == 62)
def iB:Tq->Nat
 | []=>0
 | [c]=>if cU c then 1 else 0
 | c::d::_=>if cT c d then 2 else if cU c then 1 else 0
inductive Fst | bad (e:Int) | tok (k:Int) (n:Nat) (v:Int)
def jM (l:Tq):Fst:=if 8<bR a8 l then .bad 5 else .tok 1 (bR a8 l) 0
def l5 (l:Tq):Fst :=
 if (1<bR aZ l/\l.head? = some 48)\/(∃ d,(l.drop (bR aZ l)).head? = some d/\bH d=true) then .bad 2
 else if 9223372036854775807<dV (l.take (bR aZ l)) then .bad 1 else .tok 2 (bR aZ l) (dV (l.take (bR aZ l)))
def iF (l:Tq):Fst:=if iB l=0 then .bad 2 else .tok 3 (iB l) 0
def bV:Tq->Fst
 | []=>.bad 2
 | c::r=>if bH c then jM (c::r) else if aZ c then l5 (c::r) else iF (c::r)
structure Tk where
 kind:Int
 text:Tq
 num:Int
 place:Nat
instance : Inhabited Tk := ⟨⟨0, [], 0, 0⟩⟩
inductive fR | bad (p:Nat) (e:Int) | ok (ts:List Tk)
def fR.after (acc:List Tk):fR->fR
 | .bad p e=>.bad p e
 | .ok ts=>.ok (acc++ts)
theorem rI (E:fR):E.after []=E:=by cases E <;> rfl
theorem gD (a b:List Tk) (E:fR):(E.after b).after a=E.after (a++b):=by cases E <;> simp [fR.after]
def cR:Tq->Nat->fR
 | [],_=>.ok []
 | c :: r, p =>
   if c=32 then cR r (p+1)
   else match bV (c::r) with
    | .bad e=>.bad p e
    | .tok k n v=>(cR (r.drop (n-1)) (p+n)).after [⟨k,(c::r).take n,v,p⟩]
termination_by l => l.length
decreasing_by
 all_goals simp
 omega
theorem j0 (p:Nat):cR [] p=.ok []:=by rw [cR]
theorem e8 (r:Tq) (p:Nat):cR (32::r) p=cR r (p+1):=by rw [cR,if_pos rfl]
theorem nZ {l:Tq} {p:Nat} {e:Int} (b:¬ l=[]) (a:¬ l.head? = some 32) (h:bV l=.bad e):cR l p=.bad p e:=by
 cases l with
 | nil=>exact absurd rfl b
 | cons c r =>
   rw [cR,if_neg (by simpa using a),h]
theorem gX {l:Tq} {p n:Nat} {k v:Int} (a:¬ l.head? = some 32) (hn:1<=n) (h:bV l=.tok k n v):cR l p=(cR (l.drop n) (p+n)).after [⟨k,l.take n,v,p⟩]:=by
 cases l with
 | nil=>cases h
 | cons c r =>
   rw [cR,if_neg (by simpa using a),h];simp only;obtain ⟨m,rfl⟩:∃ m,n=m+1:=⟨n-1,by omega⟩;rfl
theorem uC (q:UInt8->Bool) (l:Tq):bR q l<=l.length:=by
 unfold bR;have:=congrArg List.length (List.takeWhile_append_dropWhile (p:=q) (l:=l));rw [Tb] at this;omega
theorem DH {a b l:Tq} (h:a++b=l):l.take a.length=a/\l.drop a.length=b:=by
 subst h;simp
theorem mC (q:UInt8->Bool) (l:Tq):l.take (bR q l)=l.takeWhile q:=by
 exact (DH (List.takeWhile_append_dropWhile (p:=q) (l:=l))).1
theorem pO (q:UInt8->Bool) (l:Tq):l.drop (bR q l)=l.dropWhile q:=by
 exact (DH (List.takeWhile_append_dropWhile (p:=q) (l:=l))).2
theorem uD {q:UInt8->Bool}:∀ {l:Tq} {n:Nat},n<=l.length->(∀ j (h:j<l.length),j<n->q l[j]=true)->(∀ h:n<l.length,q l[n]=false)->bR q l=n
 | [],n,h,_,_=>by simp at h;subst h;rfl
 | c :: r, 0, _, _, h2 => by
   have:=h2 (by simp);unfold bR;rw [List.takeWhile_cons_of_neg (by simpa using this)];rfl
 | c :: r, n + 1, h, h1, h2 => by
   have d:=h1 0 (by simp) (by omega);have a:=uD (q:=q) (l:=r) (n:=n) (by simpa using h) (fun j b hn=>by have:=h1 (j+1) (by simpa using b) (by omega);simpa using this) (fun hn=>by have:=h2 (by simpa using hn);simpa using this);unfold bR at a |-
   rw [List.takeWhile_cons_of_pos (by simpa using d)];simp [a]
theorem rC (c:UInt8):aZ c=true ↔ isD c:=by
 unfold aZ isD;simp;omega
theorem tA {q:UInt8->Bool} {c:UInt8} {r:Tq} (h:q c=true):1<=bR q (c::r):=by
 unfold bR;rw [List.takeWhile_cons_of_pos h];simp
theorem Cf (l:Tq):iB l<=l.length:=by
 match l with
 | []=>simp [iB]
 | [c] =>
   show (if cU c then 1 else 0)<=1;split <;> omega
 | c :: d :: r =>
   show (if cT c d then 2 else if cU c then 1 else 0)<=r.length+1+1;split
   · omega
   · split <;> omega
theorem BE {l:Tq} {k v:Int} {n:Nat} (h:bV l=.tok k n v):1<=n/\n<=l.length:=by
 cases l with
 | nil=>cases h
 | cons c r =>
   simp only [bV] at h;split at h
   · rename_i hs
     unfold jM at h;split at h
     · cases h
     · cases h
       exact ⟨tA (by unfold a8;simp [hs]),uC _ _⟩
   · split at h
     · rename_i hd
       unfold l5 at h;split at h
       · cases h
       · split at h
         · cases h
         · cases h
           exact ⟨tA hd,uC _ _⟩
     · unfold iF at h
       split at h
       · cases h
       · cases h
         exact ⟨by omega,Cf _⟩
theorem BC {l:Tq} {k v:Int} {n:Nat} (h:bV l=.tok k n v):(k=1\/k=2\/k=3)/\(¬ k=2->v=0)/\0<=v/\v<=9223372036854775807:=by
 cases l with
 | nil=>cases h
 | cons c r =>
   simp only [bV] at h;split at h
   · unfold jM at h
     split at h
     · cases h
     · cases h;exact ⟨.inl rfl,fun _=>rfl,by omega,by omega⟩
   · split at h
     · unfold l5 at h
       split at h
       · cases h
       · split at h
         · cases h
         · cases h;exact ⟨.inr (.inl rfl),fun h=>absurd rfl h,by omega,by omega⟩
     · unfold iF at h
       split at h
       · cases h
       · cases h;exact ⟨.inr (.inr rfl),fun _=>rfl,by omega,by omega⟩
theorem Mn (l:Tq) (p:Nat):cR l p=cR (l.drop (bR (· == 32) l)) (p+bR (· == 32) l):=by
 induction l generalizing p with
 | nil=>rfl
 | cons c r ih =>
   by_cases h:c=32
   · subst h
     rw [e8,ih (p+1)];have:bR (· == 32) (32::r)=bR (· == 32) r+1:=by unfold bR;rw [List.takeWhile_cons_of_pos (by decide)];rfl
     rw [this,List.drop_succ_cons];congr 1
     omega
   · have:bR (· == 32) (c::r)=0:=by unfold bR;rw [List.takeWhile_cons_of_neg (by simpa using h)];rfl
     rw [this];rfl
theorem II (l:Tq):¬ (l.drop (bR (· == 32) l)).head? = some 32:=by
 rw [pO];intro h;have:=List.head?_dropWhile_not (p:=fun c:UInt8=>c == 32) (l:=l);rw [h] at this;simp at this
theorem Bm (l:Tq) (p:Nat) (d:¬ l.head? = some 32):(l=[]/\cR l p=.ok [])\/(∃ e,¬ l=[]/\bV l=.bad e/\cR l p=.bad p e) \/
 ∃ k n v,¬ l=[]/\bV l=.tok k n v/\1<=n/\n<=l.length/\cR l p=(cR (l.drop n) (p+n)).after [⟨k,l.take n,v,p⟩]:=by
 by_cases c:l=[]
 · subst c;exact .inl ⟨rfl,j0 p⟩
 · right
   cases h:bV l with
   | bad e=>exact .inl ⟨e,c,rfl,nZ c d h⟩
   | tok k n v =>
     obtain ⟨a,b⟩:=BE h;exact .inr ⟨k,n,v,c,rfl,a,b,gX d a h⟩
theorem nY {C:Tq->Nat->Prop} (d:∀ p,C [] p) (b:∀ r p,C r (p+1)->C (32::r) p) (g:∀ l p e,¬ l.head? = some 32->¬ l=[]->bV l=.bad e->C l p)
 (f:∀ l p k n v,¬ l.head? = some 32->¬ l=[]->bV l=.tok k n v->1<=n->n<=l.length->C (l.drop n) (p+n)->C l p):∀ (m:Nat) (l:Tq) (p:Nat),l.length<=m->C l p:=by
 intro m;induction m with
 | zero =>
   intro l p h;obtain rfl:l=[]:=Tg.1 (by omega);exact d p
 | succ m ih =>
   intro l p h;by_cases a:l.head? = some 32
   · cases l with
     | nil=>cases a
     | cons c r =>
       obtain rfl:c=32:=by simpa using a
       exact b r p (ih r (p+1) (by simpa using h))
   · rcases Bm l p a with ⟨rfl,_⟩ | ⟨e,o,j,_⟩ | ⟨k,n,v,o,j,s,q,_⟩
     · exact d p
     · exact g l p e a o j
     · exact f l p k n v a o j s q (ih _ _ (by simp;omega))
theorem Ah {E:fR} {a ts:List Tk} (h:E.after a=.ok ts):∃ b,E=.ok b/\ts=a++b:=by
 cases E with
 | bad p e=>cases h
 | ok x=>cases h;exact ⟨x,rfl,rfl⟩
theorem Jn (l:Tq) (p:Nat):∀ ts,cR l p=.ok ts->(ts.map fun t=>t.text.length).sum<=l.length/\ts.length<=l.length/\(∀ t∈ts,t.text.length<=l.length/\t.place<=p+l.length/\(t.kind=1\/t.kind=2\/t.kind=3)/\0<=t.num/\t.num<=9223372036854775807):=by
 refine nY (C:=fun l p=>∀ ts,cR l p=.ok ts->(ts.map fun t=>t.text.length).sum<=l.length/\ts.length<=l.length/\(∀ t∈ts,t.text.length<=l.length/\t.place<=p+l.length/\(t.kind=1\/t.kind=2\/t.kind=3)/\0<=t.num/\t.num<=9223372036854775807)) ?_ ?_ ?_ ?_ l.length l p (Td _)
 · intro p ts h
   rw [j0] at h;cases h;exact ⟨by simp,by simp,fun t ht=>by cases ht⟩
 · intro r p j ts h
   rw [e8] at h;obtain ⟨a,b,c⟩:=j ts h;exact ⟨by simp;omega,by simp;omega,fun t ht=>by have:=c t ht;simp;exact ⟨by omega,by omega,this.2.2⟩⟩
 · intro l p e m o f ts h
   rw [nZ o m f] at h;cases h
 · intro l p k n v m o f hn hl j ts h
   rw [gX m hn f] at h;obtain ⟨g,q,rfl⟩:=Ah h;obtain ⟨a,b,c⟩:=j g q;have d:=BC f;simp only [List.length_drop] at a b c;refine ⟨by simp;omega,by simp;omega,fun t ht=>?_⟩;rcases List.mem_cons.1 ht with rfl | ht
   · exact ⟨by simp;omega,by simp,d.1,d.2.2⟩
   · have:=c t ht
     exact ⟨by omega,by omega,this.2.2⟩
inductive F where
 | nil:F
 | cons (op nm:Tr) (n:Int) (ks rest:F):F
def F.len:F->Nat
 | .nil=>0
 | .cons _ _ _ _ r=>r.len+1
structure TN where
 op:Tr
 nm:Tr
 n:Int
 ks:F
def TN.f (t:TN):F:=.cons t.op t.nm t.n t.ks .nil
def F.at:F->Nat->Option TN
 | .nil,_=>none
 | .cons o m n k _,0=>some ⟨o,m,n,k⟩
 | .cons _ _ _ _ r,j+1=>r.at j
def F.drop:F->Nat->F
 | f,0=>f
 | .nil,_+1=>.nil
 | .cons _ _ _ _ r,j+1=>r.drop j
theorem F.drop_zero (f:F):f.drop 0=f:=by cases f <;> rfl
theorem F.drop_at:∀ (f:F) (j:Nat),j<f.len->∃ t,f.at j=some t/\f.drop j=.cons t.op t.nm t.n t.ks (f.drop (j+1))
 | .nil,_,h=>by simp [F.len] at h
 | .cons o m n k r,0,_=>⟨⟨o,m,n,k⟩,rfl,by rw [F.drop_zero,F.drop,F.drop_zero]⟩
 | .cons o m n k r, j + 1, h => by
   obtain ⟨t,b,a⟩:=F.drop_at r j (by simp [F.len] at h;omega);exact ⟨t,b,a⟩
theorem F.drop_len:∀ (f:F) (j:Nat),f.len<=j->f.drop j=.nil
 | .nil,0,_=>rfl
 | .nil,_+1,_=>rfl
 | .cons o m n k r,0,h=>by simp [F.len] at h
 | .cons o m n k r,j+1,h=>F.drop_len r j (by simp [F.len] at h;omega)
def l6:Tq:=[110,117,109]
def iR:Tq:=[110,97,109,101]
def iQ:Tq:=[110,101,103]
def bZ (o:Tr):Bool:=o.data.toList == l6
def bT (o:Tr):Bool:=o.data.toList == iR
def fM (o:Tr):Bool:=o.data.toList == iQ
def Bs (o:Tr):Bool:=o.data.toList == [42] || o.data.toList == [47] || o.data.toList == [37]
def H7 (o:Tr):Bool:=o.data.toList == [43] || o.data.toList == [45]
def lF (o:Tr):Bool:=o.data.toList == [43] || o.data.toList == [45] || o.data.toList == [42] || o.data.toList == [47] || o.data.toList == [37]
def cV (o:Tr):Int:=if bZ o || bT o then 0 else if fM o then 1 else if lF o then 2 else -1
def jD:F->Int->Int
 | .nil,l=>l
 | .cons _ _ _ ks r,l=>if l<0 then l else jD r (jD ks (l-1))
def mZ (o m:Tr) (n:Int) (k:Nat):Int :=
 if (cV o != (k:Int))=true then 2 else if (bT o && !cD m.data.toList)=true then 5 else if (bZ o && decide (n<0))=true then 1 else 0
def bK:F->Int
 | .nil=>0
 | .cons o m n ks r=>if mZ o m n ks.len=0 then (if bK ks=0 then bK r else bK ks) else mZ o m n ks.len
def aW (t:TN):Int:=if jD t.ks 31<0 then 4 else bK t.f
theorem pR (t:TN):bK t.f=if mZ t.op t.nm t.n t.ks.len=0 then bK t.ks else mZ t.op t.nm t.n t.ks.len:=by
 unfold TN.f;rw [bK];by_cases h:bK t.ks=0
 · rw [if_pos h,h];rfl
 · rw [if_neg h]
def Dx (o m:Tr) (n:Int) (ts:List (Tq)):Tq :=
 if bZ o=true then Lib.itoa n else if bT o=true then m.data.toList
 else if fM o=true then 45::ts.headD [] else 40::(ts.headD []++32::(o.data.toList++32::(ts.tail.headD []++[41])))
def KJ:F->List (Tq)
 | .nil=>[]
 | .cons o m n ks r=>Dx o m n (KJ ks)::KJ r
def aV (t:TN):Tq:=Dx t.op t.nm t.n (KJ t.ks)
def fJ:F->F->Bool
 | .nil,.nil=>true
 | .cons o m n ks r,.cons o' m' n' ks' r'=>(o.data.toList == o'.data.toList) && (ks.len == ks'.len) && !(bZ o && n != n') && !(bT o && m.data.toList != m'.data.toList) && fJ ks ks' && fJ r r'
 | _,_=>false
def dF (a b:TN):Bool:=fJ a.f b.f
theorem eX {a b:Bool} (h:a=b):Ending.returned (.bool a)=.returned (.bool b):=by rw [h]
theorem DY {a b:Nat} (h:a=b):Ending.returned (.int .i64 (a:Int))=.returned (.int .i64 (b:Int)):=by rw [h]
theorem eR (c:UInt8) (w:World):Calls prog 212 #[.int .u8 c.toNat] w fun e w'=>e=.returned (.bool (bH c))/\w=w':=by
 obtain ⟨x,hx⟩:∃ x:Int,(c.toNat:Int)=x:=⟨_,rfl⟩;unfold bH;rw [hx];by_cases h:97<=x
 · go_enter func212,ntmps212
   go_wp2
   go_ret;exact ⟨eX (a:=decide (x<=122)) (by rw [decide_eq_true h];rfl),rfl⟩
 · go_enter func212,ntmps212
   go_wp2
   go_ret;exact ⟨eX (a:=false) (by rw [decide_eq_false (by omega)];rfl),rfl⟩
theorem oA (c:UInt8) (w:World):Calls prog 214 #[.int .u8 c.toNat] w fun e w'=>e=.returned (.bool (aZ c))/\w=w':=by
 obtain ⟨x,hx⟩:∃ x:Int,(c.toNat:Int)=x:=⟨_,rfl⟩;unfold aZ;rw [hx];by_cases h:48<=x
 · go_enter func214,ntmps214
   go_wp2
   go_ret;exact ⟨eX (a:=decide (x<=57)) (by rw [decide_eq_true h];rfl),rfl⟩
 · go_enter func214,ntmps214
   go_wp2
   go_ret;exact ⟨eX (a:=false) (by rw [decide_eq_false (by omega)];rfl),rfl⟩
theorem Ez (c:UInt8) (w:World):Calls prog 240 #[.int .u8 c.toNat] w fun e w'=>e=.returned (.bool (a8 c))/\w=w':=by
 unfold a8;cases h:bH c with
 | true =>
   have C:=aA (p:=∀ w,Calls prog 212 #[.int .u8 c.toNat] w fun e w'=>e=.returned (.bool true)/\w=w') (fun w=>by have:=eR c w;rwa [h] at this);clear h;go_enter func240,ntmps240
   go_wp2_with (go_at_call 212;refine (C.out _).mono ?_;rintro e w' ⟨rfl,rfl⟩)
   go_ret;exact ⟨eX (a:=true) rfl,rfl⟩
 | false =>
   have C:=aA (p:=∀ w,Calls prog 212 #[.int .u8 c.toNat] w fun e w'=>e=.returned (.bool false)/\w=w') (fun w=>by have:=eR c w;rwa [h] at this);have D:=aA (p:=∀ w,Calls prog 214 #[.int .u8 c.toNat] w fun e w'=>e=.returned (.bool (aZ c))/\w=w') (fun w=>oA c w);clear h;go_enter func240,ntmps240
   go_wp2_with (first | (go_at_call 212;refine (C.out _).mono ?_;rintro e w' ⟨rfl,rfl⟩) | (go_at_call 214;refine (D.out _).mono ?_;rintro e w' ⟨rfl,rfl⟩))
   go_ret;exact ⟨eX (a:=aZ c) rfl,rfl⟩
theorem gI (s:Tr) (a b:Nat):(s.extract a b).data.toList=(s.data.toList.drop a).take (b-a):=by
 rw [ByteArray.data_extract,Array.toList_extract]
theorem qN (s:Tr) (a:Nat):(s.extract a s.size).data.toList=s.data.toList.drop a:=by
 rw [gI];exact List.take_of_length_le (by simp)
theorem fI (s:Tr) (b:Nat):(s.extract 0 b).data.toList=s.data.toList.take b:=by
 rw [gI];rfl
theorem Cr (l:Tq):Lib.hasPrefix l (⟨#[32]⟩:Tr).data.toList=decide (l.head? = some 32):=by
 cases l with
 | nil=>rfl
 | cons c r =>
   show [32].isPrefixOf (c::r)=_;rw [List.isPrefixOf];by_cases h:c=32
   · subst h;rfl
   · rw [beq_eq_false_iff_ne.2 (fun e:(32:UInt8)=c=>h e.symm)]
     rw [decide_eq_false (by simpa using h)];rfl
theorem Jo (s:Tr) (p:Nat) (hp:p<=s.size) (q:s.size<=281474976710656) (w:World):Calls prog 175 #[.string s,.int .i64 p] w fun e w'=>e=.returned (.int .i64 ((p+bR (· == 32) (s.data.toList.drop p):Nat):Int))/\w=w':=by
 have C:=aA (p:=∀ (k:Nat) w,Calls prog 203 #[.string (s.extract k s.size),.string ⟨#[32]⟩] w fun e w'=>e=.returned (.bool (decide ((s.data.toList.drop k).head? = some 32)))/\w=w') (fun k w=>by
  have:=strings_HasPrefix (s.extract k s.size) ⟨#[32]⟩ w;rw [Cr,qN] at this;exact this.mono fun e w' ⟨o,h2⟩=>⟨o,h2.symm⟩)
 obtain ⟨N,j⟩:∃ N,p+bR (· == 32) (s.data.toList.drop p)=N:=⟨_,rfl⟩;rw [j];have H:=aA j;clear j;go_enter func175,ntmps175
 go_wp2_with fail
 go_loop [1] (fun i=>∃ k:Nat,p<=k/\k<=s.size/\i=.int .i64 k/\Hid (k+bR (· == 32) (s.data.toList.drop k)=N)) (fun i=>s.size-(intOf i).toNat)
 case atStart=>exact ⟨p,Td _,by omega,rfl,H⟩
 case round =>
  obtain ⟨k,n,t,rfl,f⟩:=hrel;by_cases a:(s.data.toList.drop k).head? = some 32
  · have D:=aA (p:=∀ w,Calls prog 203 #[.string (s.extract k s.size),.string ⟨#[32]⟩] w fun e w'=>e=.returned (.bool true)/\w=w') (fun w=>by have:=C.out k w;rwa [decide_eq_true a] at this)
    have b:k<s.size:=by
     have hl:s.data.toList.length=s.size:=by simp
     rcases Nat.lt_or_ge k s.size with h | h
     · exact h
     · rw [List.drop_of_length_le (by omega)] at a;cases a
    have d:=aA (show k+1+bR (· == 32) (s.data.toList.drop (k+1))=N by
     rw [<- f.out];have hd:=List.drop_eq_getElem_cons (l:=s.data.toList) (i:=k) (by simpa using b);rw [hd] at a |-
     have m:s.data.toList[k]'(by simpa using b)=32:=by simpa using a
     have:bR (· == 32) (s.data.toList[k]'(by simpa using b)::s.data.toList.drop (k+1))=bR (· == 32) (s.data.toList.drop (k+1))+1:=by
      unfold bR;rw [List.takeWhile_cons_of_pos (by rw [m];decide)];rfl
     rw [this];omega)
    clear a;go_wp2_with (go_at_call 203;refine (D.out _).mono ?_;rintro e w' ⟨rfl,rfl⟩)
    go_round
    case rel=>exact ⟨k+1,by omega,by omega,by go_num,d⟩
    case measure=>simp [intOf];omega
  · have D:=aA (p:=∀ w,Calls prog 203 #[.string (s.extract k s.size),.string ⟨#[32]⟩] w fun e w'=>e=.returned (.bool false)/\w=w') (fun w=>by have:=C.out k w;rwa [decide_eq_false a] at this)
    have g:Hid (k=N):=aA (by
     rw [<- f.out]
     have:bR (· == 32) (s.data.toList.drop k)=0:=by
      cases e:s.data.toList.drop k with
      | nil=>rfl
      | cons c r =>
        rw [e] at a;unfold bR;rw [List.takeWhile_cons_of_neg (by simpa using a)];rfl
     omega)
    clear a;go_wp2_with (go_at_call 203;refine (D.out _).mono ?_;rintro e w' ⟨rfl,rfl⟩)
    go_ret;exact ⟨DY g.out,rfl⟩
theorem e9 (s:Tr) (o:s.size<=281474976710656) (w:World) :
 Calls prog 239 #[.string s,.func (.func 214) #[] #[]] w fun e w'=>e=.returned (.int .i64 (bR aZ s.data.toList:Int))/\w=w':=by
 have d:=aA oA;go_enter func239,ntmps239
 go_wp2_with fail
 go_loop [5] (fun i=>∃ k:Nat,k<=s.size/\i=.int .i64 k/\Hid (∀ j (h:j<s.data.toList.length),j<k->aZ s.data.toList[j]=true)) (fun i=>s.size-(intOf i).toNat)
 case atStart=>exact ⟨0,by omega,rfl,aA (fun j _ h=>by omega)⟩
 case round =>
  obtain ⟨k,r,rfl,a⟩:=hrel;have hl:s.data.toList.length=s.size:=by simp
  by_cases f:k<s.size
  · cases b:aZ s[k] with
    | true =>
      have D:=aA (p:=∀ w,Calls prog 214 #[.int .u8 s[k].toNat] w fun e w'=>e=.returned (.bool true)/\w=w') (fun w=>by have:=d.out s[k] w;rwa [b] at this)
      have c:=aA (show ∀ j (h:j<s.data.toList.length),j<k+1->aZ s.data.toList[j]=true from fun j m g=>by
       by_cases e:j=k
       · subst e;exact b
       · exact a.out j m (by omega))
      clear b hl;go_wp2_with (go_at_call 214;refine (D.out _).mono ?_;rintro e w' ⟨rfl,rfl⟩)
      go_round
      case rel=>exact ⟨k+1,by omega,by go_num,c⟩
      case measure=>simp [intOf];omega
    | false =>
      have D:=aA (p:=∀ w,Calls prog 214 #[.int .u8 s[k].toNat] w fun e w'=>e=.returned (.bool false)/\w=w') (fun w=>by have:=d.out s[k] w;rwa [b] at this);have R:=aA (uD (q:=aZ) (l:=s.data.toList) (n:=k) (by omega) a.out (fun _=>b));clear b hl;go_wp2_with (go_at_call 214;refine (D.out _).mono ?_;rintro e w' ⟨rfl,rfl⟩)
      go_ret;exact ⟨DY R.out.symm,rfl⟩
  · obtain rfl:k=s.size:=by omega
    have R:=aA (uD (q:=aZ) (l:=s.data.toList) (n:=s.size) (by omega) a.out (fun h=>by omega));clear hl;go_wp2_with fail
    go_ret;exact ⟨DY R.out.symm,rfl⟩
theorem Jt (s:Tr) (o:s.size<=281474976710656) (w:World) :
 Calls prog 239 #[.string s,.func (.func 240) #[] #[]] w fun e w'=>e=.returned (.int .i64 (bR a8 s.data.toList:Int))/\w=w':=by
 have d:=aA Ez;go_enter func239,ntmps239
 go_wp2_with fail
 go_loop [5] (fun i=>∃ k:Nat,k<=s.size/\i=.int .i64 k/\Hid (∀ j (h:j<s.data.toList.length),j<k->a8 s.data.toList[j]=true)) (fun i=>s.size-(intOf i).toNat)
 case atStart=>exact ⟨0,by omega,rfl,aA (fun j _ h=>by omega)⟩
 case round =>
  obtain ⟨k,r,rfl,a⟩:=hrel;have hl:s.data.toList.length=s.size:=by simp
  by_cases f:k<s.size
  · cases b:a8 s[k] with
    | true =>
      have D:=aA (p:=∀ w,Calls prog 240 #[.int .u8 s[k].toNat] w fun e w'=>e=.returned (.bool true)/\w=w') (fun w=>by have:=d.out s[k] w;rwa [b] at this)
      have c:=aA (show ∀ j (h:j<s.data.toList.length),j<k+1->a8 s.data.toList[j]=true from fun j m g=>by
       by_cases e:j=k
       · subst e;exact b
       · exact a.out j m (by omega))
      clear b hl;go_wp2_with (go_at_call 240;refine (D.out _).mono ?_;rintro e w' ⟨rfl,rfl⟩)
      go_round
      case rel=>exact ⟨k+1,by omega,by go_num,c⟩
      case measure=>simp [intOf];omega
    | false =>
      have D:=aA (p:=∀ w,Calls prog 240 #[.int .u8 s[k].toNat] w fun e w'=>e=.returned (.bool false)/\w=w') (fun w=>by have:=d.out s[k] w;rwa [b] at this);have R:=aA (uD (q:=a8) (l:=s.data.toList) (n:=k) (by omega) a.out (fun _=>b));clear b hl;go_wp2_with (go_at_call 240;refine (D.out _).mono ?_;rintro e w' ⟨rfl,rfl⟩)
      go_ret;exact ⟨DY R.out.symm,rfl⟩
  · obtain rfl:k=s.size:=by omega
    have R:=aA (uD (q:=a8) (l:=s.data.toList) (n:=s.size) (by omega) a.out (fun h=>by omega));clear hl;go_wp2_with fail
    go_ret;exact ⟨DY R.out.symm,rfl⟩
theorem vC {s:Tr} (h:s.size=1):s.data.toList=[s[0]'(by omega)]:=by
 have hl:s.data.toList.length=s.size:=by simp
 cases e:s.data.toList with
 | nil=>rw [e] at hl;simp at hl;omega
 | cons c r =>
   have a:s.data.toList[0]? = some (s[0]'(by omega)):=List.getElem?_eq_getElem (by omega);rw [e] at a hl;have b:c=s[0]:=by simpa using a
   have:r=[]:=Tg.1 (by simp at hl;omega);rw [this,b]
theorem B7 {s:Tr} (h:2<=s.size):∃ r,s.data.toList=s[0]::s[1]::r:=by
 have a:=List.drop_eq_getElem_cons (l:=s.data.toList) (i:=0) (by simp;omega);have b:=List.drop_eq_getElem_cons (l:=s.data.toList) (i:=1) (by simp;omega);rw [List.drop_zero] at a;rw [a,Nat.zero_add,b];exact ⟨_,rfl⟩
theorem Dh (c:UInt8) (k:Nat) (a:k<256):((c.toNat:Int) == (k:Int))=(c == UInt8.ofNat k):=by
 by_cases h:c=UInt8.ofNat k
 · subst h
   rw [UInt8.toNat_ofNat'];rw [show k % 2 ^ 8=k by omega];simp
 · rw [beq_eq_false_iff_ne.2 h,beq_eq_false_iff_ne.2]
   intro e;apply h
   apply UInt8.toNat_inj.1
   rw [UInt8.toNat_ofNat'];omega
theorem yH (c:UInt8):cU c=((c.toNat:Int) == 40 || (c.toNat:Int) == 41 || (c.toNat:Int) == 44 || (c.toNat:Int) == 61 || (c.toNat:Int) == 60 || (c.toNat:Int) == 62 || (c.toNat:Int) == 43 || (c.toNat:Int) == 45 || (c.toNat:Int) == 42 || (c.toNat:Int) == 47 || (c.toNat:Int) == 37):=by
 unfold cU;have q:∀ k:Nat,k<256->(c == UInt8.ofNat k)=((c.toNat:Int) == (k:Int)):=fun k a=>(Dh c k a).symm
 exact congr (congrArg or (congr (congrArg or (congr (congrArg or (congr (congrArg or (congr (congrArg or (congr (congrArg or (congr (congrArg or (congr (congrArg or (congr (congrArg or (congr (congrArg or (q 40 (by decide))) (q 41 (by decide)))) (q 44 (by decide)))) (q 61 (by decide)))) (q 60 (by decide)))) (q 62 (by decide)))) (q 43 (by decide)))) (q 45 (by decide)))) (q 42 (by decide)))) (q 47 (by decide)))) (q 37 (by decide))
theorem Cy (s:Tr) (b:1<=s.size) (t1:((s.extract 0 (min 2 (s.size:Int)).toNat).toList == [33,61])=false) (t2:((s.extract 0 (min 2 (s.size:Int)).toNat).toList == [60,61])=false) (a:((s.extract 0 (min 2 (s.size:Int)).toNat).toList == [62,61])=false) {n:Nat} (R:n=if (((s[0]'(by omega)).toNat:Int) == 40 || ((s[0]'(by omega)).toNat:Int) == 41 || ((s[0]'(by omega)).toNat:Int) == 44 || ((s[0]'(by omega)).toNat:Int) == 61 || ((s[0]'(by omega)).toNat:Int) == 60 || ((s[0]'(by omega)).toNat:Int) == 62 || ((s[0]'(by omega)).toNat:Int) == 43 || ((s[0]'(by omega)).toNat:Int) == 45 || ((s[0]'(by omega)).toNat:Int) == 42 || ((s[0]'(by omega)).toNat:Int) == 47 || ((s[0]'(by omega)).toNat:Int) == 37)=true then 1 else 0) (w:World):Calls prog 243 #[.string s] w fun e w'=>e=.returned (.int .i64 (n:Int))/\w=w':=by
 have R:=aA R;go_enter func243,ntmps243
 go_wp2_with fail
 all_goals
  go_ret;refine ⟨?_,rfl⟩;rw [R.out];simp only [*,Bool.true_or,Bool.or_true,if_true,Bool.or_false,Bool.false_eq_true,if_false];rfl
theorem Js (s:Tr) (a:1<=s.size) (t1:((s.extract 0 (min 2 (s.size:Int)).toNat).toList == [33,61])=true) (w:World):Calls prog 243 #[.string s] w fun e w'=>e=.returned (.int .i64 ((2:Nat):Int))/\w=w':=by
 go_enter func243,ntmps243
 go_wp2_with fail
 go_ret;exact ⟨rfl,rfl⟩
theorem Jr (s:Tr) (a:1<=s.size) (t1:((s.extract 0 (min 2 (s.size:Int)).toNat).toList == [33,61])=false) (t2:((s.extract 0 (min 2 (s.size:Int)).toNat).toList == [60,61])=true) (w:World):Calls prog 243 #[.string s] w fun e w'=>e=.returned (.int .i64 ((2:Nat):Int))/\w=w':=by
 go_enter func243,ntmps243
 go_wp2_with fail
 go_ret;exact ⟨rfl,rfl⟩
theorem Jq (s:Tr) (b:1<=s.size) (t1:((s.extract 0 (min 2 (s.size:Int)).toNat).toList == [33,61])=false) (t2:((s.extract 0 (min 2 (s.size:Int)).toNat).toList == [60,61])=false) (a:((s.extract 0 (min 2 (s.size:Int)).toNat).toList == [62,61])=true) (w:World):Calls prog 243 #[.string s] w fun e w'=>e=.returned (.int .i64 ((2:Nat):Int))/\w=w':=by
 go_enter func243,ntmps243
 go_wp2_with fail
 go_ret;exact ⟨rfl,rfl⟩
theorem Jp (s:Tr) (a:1<=s.size) (w:World):Calls prog 243 #[.string s] w fun e w'=>e=.returned (.int .i64 (iB s.data.toList:Int))/\w=w':=by
 by_cases b:s.size=1
 · have T:(s.extract 0 (min 2 (s.size:Int)).toNat).toList=[s[0]'(by omega)]:=by rw [Tm,fI,vC b,show (min 2 (s.size:Int)).toNat=1 by omega];rfl
   refine Cy s a (by rw [T];simp) (by rw [T];simp) (by rw [T];simp) ?_ w;rw [vC b];show (if cU _=true then 1 else 0)=_;rw [yH]
 · obtain ⟨r,hr⟩:=B7 (s:=s) (by omega)
   have T:(s.extract 0 (min 2 (s.size:Int)).toNat).toList=[s[0]'(by omega),s[1]'(by omega)]:=by
    rw [Tm,fI,show (min 2 (s.size:Int)).toNat=2 by omega,hr];rfl
   have E:iB s.data.toList=if cT (s[0]'(by omega)) (s[1]'(by omega)) then 2 else if cU (s[0]'(by omega)) then 1 else 0:=by rw [hr];rfl
   have q:∀ k:UInt8,([s[0]'(by omega),s[1]'(by omega)] == [k,61])=((s[0]'(by omega)) == k && (s[1]'(by omega)) == 61):=fun k=>by
    show ((s[0]'(by omega)) == k && ((s[1]'(by omega)) == 61 && true))=_;rw [Bool.and_true]
   by_cases hd:s[1]'(by omega)=61
   · by_cases a1:s[0]'(by omega)=33
     · rw [E,show cT (s[0]'(by omega)) (s[1]'(by omega))=true by unfold cT;rw [hd,a1];decide]
       exact Js s a (by rw [T,q,hd,a1];decide) w
     by_cases a2:s[0]'(by omega)=60
     · rw [E,show cT (s[0]'(by omega)) (s[1]'(by omega))=true by unfold cT;rw [hd,a2];decide]
       exact Jr s a (by rw [T,q,hd,a2];decide) (by rw [T,q,hd,a2];decide) w
     by_cases a3:s[0]'(by omega)=62
     · rw [E,show cT (s[0]'(by omega)) (s[1]'(by omega))=true by unfold cT;rw [hd,a3];decide]
       exact Jq s a (by rw [T,q,hd,a3];decide) (by rw [T,q,hd,a3];decide) (by rw [T,q,hd,a3];decide) w
     refine Cy s a (by rw [T,q,beq_eq_false_iff_ne.2 a1];rfl) (by rw [T,q,beq_eq_false_iff_ne.2 a2];rfl) (by rw [T,q,beq_eq_false_iff_ne.2 a3];rfl) ?_ w;rw [E, <- yH,show cT (s[0]'(by omega)) (s[1]'(by omega))=false by unfold cT;rw [beq_eq_false_iff_ne.2 a1,beq_eq_false_iff_ne.2 a2,beq_eq_false_iff_ne.2 a3];simp];rfl
   · have z:(s[1]'(by omega) == 61)=false:=beq_eq_false_iff_ne.2 hd
     refine Cy s a (by rw [T,q,z,Bool.and_false]) (by rw [T,q,z,Bool.and_false]) (by rw [T,q,z,Bool.and_false]) ?_ w;rw [E, <- yH,show cT (s[0]'(by omega)) (s[1]'(by omega))=false by unfold cT;rw [z];rfl];rfl
theorem aL {W:World} {B:Nat} {d c b a:Value} {t:TypeId} (h:W.heap[B]? = some (.cells #[d,c,b,a] t (0,0))) :
 (W.cell? ⟨B,0,none⟩=some d/\W.cell? ⟨B,1,none⟩=some c/\W.cell? ⟨B,2,none⟩=some b/\W.cell? ⟨B,3,none⟩=some a) /\
 (W.frozen? ⟨B,0,none⟩=false/\W.frozen? ⟨B,1,none⟩=false/\W.frozen? ⟨B,2,none⟩=false/\W.frozen? ⟨B,3,none⟩=false):=by
 refine ⟨⟨?_,?_,?_,?_⟩,?_,?_,?_,?_⟩ <;> simp [World.cell?,World.frozen?,h]
theorem qE (W:World) (B o:Nat) (a:Array Value) (t:TypeId) (v:Value) (h:W.heap[B]? = some (.cells a t (0,0))):(W.setCell ⟨B,o,none⟩ v).heap[B]? = some (.cells (a.setIfInBounds o v) t (0,0)) :=
 heap_setCell_same W B o a t v h
theorem aY {W:World} {B:Nat} {k j g f:Value} {t:TypeId} (h:W.heap[B]? = some (.cells #[k,j,g,f] t (0,0))) (d c b a:Value) :
 ((((W.setCell ⟨B,0,none⟩ d).setCell ⟨B,1,none⟩ c).setCell ⟨B,2,none⟩ b).setCell ⟨B,3,none⟩ a).heap[B]? = some (.cells #[d,c,b,a] t (0,0)):=by
 have:=qE _ B 3 _ t a (qE _ B 2 _ t b (qE _ B 1 _ t c (qE W B 0 _ t d h)));simpa using this
theorem cG {b:Nat} {A W:World} {B:Nat} (h:Below b A W) (a:b<=B) (g f d c:Value) :
 Below b A ((((W.setCell ⟨B,0,none⟩ g).setCell ⟨B,1,none⟩ f).setCell ⟨B,2,none⟩ d).setCell ⟨B,3,none⟩ c) :=
 (((h.setCell (p:=⟨B,0,none⟩) a g).setCell (p:=⟨B,1,none⟩) a f).setCell (p:=⟨B,2,none⟩) a d).setCell (p:=⟨B,3,none⟩) a c
theorem tQ {W:World} {B:Nat} {k j g f:Value} {t:TypeId} (h:W.heap[B]? = some (.cells #[k,j,g,f] t (0,0))) (d c b a:Value) (o:Obj) :
 (((((W.setCell ⟨B,0,none⟩ d).setCell ⟨B,1,none⟩ c).setCell ⟨B,2,none⟩ b).setCell ⟨B,3,none⟩ a).alloc o).heap[B]? = some (.cells #[d,c,b,a] t (0,0)) :=
 (Below.heap_alloc _ _ _ (lt_of_block (aY h d c b a))).trans (aY h d c b a)
theorem uZ (s:Tr) (c:s.size<=281474976710656) (w:World):Calls prog 58 #[.string s] w fun e w'=>e=.returned (.string s)/\Below w.heap.size w w':=by
 go_enter func58,ntmps58
 go_wp2_with (go_at_call 118;refine (stringslite_Clone s _ c).mono ?_;rintro e w' ⟨rfl,b⟩;have a:=aA b;clear b)
 go_ret;exact ⟨rfl,a.out⟩
abbrev tkV (k:Int) (s:Tr) (n p:Int):Value:=.agg #[.int .i64 k,.string s,.int .i64 n,.int .i64 p]
abbrev tkO (k:Int) (s:Tr) (n p:Int):Obj:=.cells #[.int .i64 k,.string s,.int .i64 n,.int .i64 p] 261
theorem aG {w:World} {k:Nat} {o:Obj} (h:w.heap[k]? = some o):k<w.heap.size:=(Array.getElem?_eq_some_iff.1 h).1
theorem i7 (k:Int) (s:Tr) (d:s.size<=281474976710656) (w:World):Calls prog 241 #[.int .i64 k,.string s] w fun e w'=>e=.returned (tkV k s 0 0)/\Below w.heap.size w w':=by
 go_enter func241,ntmps241
 go_wp2_with fail
 refine (uZ s d _).mono ?_;rintro e c ⟨rfl,a⟩;have b:=(a.block w.heap.size (by simp)).trans (heap_alloc_new w _);have m:=aA (show Below w.heap.size w c from (bA0 w _).trans (a.mono (by simp)));obtain ⟨⟨q,p,o,n⟩,x,u,t,r⟩:=aL b;have l:=aA b;clear a b;go_wp2_with fail
 obtain ⟨⟨j,h,g,f⟩, -⟩:=aL (aY l.out (.int .i64 k) (.string s) (.int .i64 0) (.int .i64 0));exact bodyPost_ret (v:=tkV k s 0 0) (by simp [results,results241,go_sem,j,h,g,f]) rfl ⟨rfl,cG m.out (Td _) _ _ _ _⟩
def xS (l:Tq):Fst->Value
 | .bad e=>.tuple #[tkV 0 ⟨#[]⟩ 0 0,.int .i64 e]
 | .tok k n v=>.tuple #[tkV k ⟨(l.take n).toArray⟩ v 0,.int .i64 0]
theorem zF (s:Tr) (n:Nat):s.extract 0 n=⟨(s.data.toList.take n).toArray⟩:=dO (by rw [fI])
def iE (w:World):Prop :=
 (∃ tp p t f,w.heap[6]? = some (.cells #[.iface tp p] t f))/\(∃ tp p t f,w.heap[7]? = some (.cells #[.iface tp p] t f))
theorem iE.step {w w':World} (h:iE w) (a:Below w.heap.size w w'):iE w':=by
 obtain ⟨⟨f,p,t1,j,c⟩,⟨d,q,t2,g,b⟩⟩:=h;exact ⟨⟨f,p,t1,j,(a.block _ (aG c)).trans c⟩,⟨d,q,t2,g,(a.block _ (aG b)).trans b⟩⟩
theorem Fv {w:World} {n:String} {g:Nat} {a:Array Value} {t:TypeId} {f:Nat×Nat} (b:prog.globalNamed n=some g) (h:w.heap[g]? = some (.cells a t f)):w.var? prog n=some a:=by
 unfold World.var?;rw [b];simp [h]
theorem tD (s:Tr) (v:Int) (hs:s.size<=281474976710656) (h:Lib.parseIntB 64 s.data.toList=.ok v) (w:World) :
 Calls prog 242 #[.string s,.int .i64 10,.int .i64 64] w fun e w'=>e=.returned (.tuple #[.int .i64 v,.nilIface])/\Below w.heap.size w w':=by
 refine (strconv_ParseInt_10_at64_ok s (by omega) v h w).mono ?_;rintro e w' ⟨rfl,rfl | ⟨t,rfl⟩⟩
 · exact ⟨rfl,Below.refl _ _⟩
 · exact ⟨rfl,Lib.bytesWorld_below _ _ _⟩
def S6 (w:World) (e:Ending) (w':World):Prop:=(∃ n t p,e=.returned (.tuple #[.int .i64 n,.iface t p]))/\Below w.heap.size w w'
theorem nQ (s:Tr) (hs:s.size<=281474976710656) (w:World) (d:iE w) (h:∀ v,¬ Lib.parseIntB 64 s.data.toList=.ok v) :
 Calls prog 242 #[.string s,.int .i64 10,.int .i64 64] w (S6 w):=by
 obtain ⟨⟨c,p,t1,k,g⟩,⟨b,q,t2,j,f⟩⟩:=d;rcases hp:Lib.parseIntB 64 s.data.toList with v | _ | _
 · exact absurd hp (h v)
 · refine (Any.strconv_ParseInt_10_at64_syntax_var laysC174 s hs hp c p w (Fv (by kernel_rfl) g)).mono ?_
   rintro e w' ⟨N,rfl,_,_,a⟩;exact ⟨⟨_,_,_,rfl⟩,a⟩
 · refine (Any.strconv_ParseInt_10_at64_range_var laysC174 s hs hp b q w (Fv (by kernel_rfl) f)).mono ?_
   rintro e w' ⟨N,rfl,_,_,a⟩;exact ⟨⟨_,_,_,rfl⟩,a⟩
theorem Ju (s:Tr) (f:s.size<=281474976710656) (w:World):Calls prog 213 #[.string s] w fun e w'=>e=.returned (xS s.data.toList (jM s.data.toList))/\Below w.heap.size w w':=by
 obtain ⟨n,hn⟩:∃ n,bR a8 s.data.toList=n:=⟨_,rfl⟩;have g:n<=s.size:=by rw [<- hn];have:=uC a8 s.data.toList;simpa using this
 have C:=aA (p:=∀ w,Calls prog 239 #[.string s,.func (.func 240) #[] #[]] w fun e w'=>e=.returned (.int .i64 (n:Int))/\w=w') (fun w=>by have:=Jt s f w;rwa [hn] at this);unfold jM;rw [hn];clear hn;by_cases c:8<n
 · rw [if_pos c]
   unfold xS;go_enter func213,ntmps213
   go_wp2_with (go_at_call 239;refine (C.out _).mono ?_;rintro e w' ⟨rfl,rfl⟩)
   refine bodyPost_ret (v:=.tuple #[tkV 0 ⟨#[]⟩ 0 0,.int .i64 5]) (by simp [results,results213,go_sem]) rfl ⟨rfl,?_⟩;exact bA0 _ _
 · rw [if_neg c]
   have T:=aA (fun w=>i7 1 (s.extract 0 n) (by rw [ByteArray.size_extract];omega) w);have F:=aA (zF s n);unfold xS;go_enter func213,ntmps213
   go_wp2_with (go_at_call 239;refine (C.out _).mono ?_;rintro e w' ⟨rfl,rfl⟩)
   refine (T.out _).mono ?_;rintro e d ⟨rfl,a⟩;have b:=(a.block w.heap.size (by simp)).trans (heap_alloc_new w _);have o:=aA (show Below w.heap.size w d from (bA0 w _).trans (a.mono (by simp)));obtain ⟨⟨u,t,r,q⟩,A,z,y,x⟩:=aL b;have m:=aA b;clear a b;go_wp2_with fail
   obtain ⟨⟨l,k,j,h⟩, -⟩:=aL (aY m.out (.int .i64 1) (.string (s.extract 0 n)) (.int .i64 0) (.int .i64 0));refine bodyPost_ret (v:=.tuple #[tkV 1 (s.extract 0 n) 0 0,.int .i64 0]) (by simp [results,results213,go_sem,l,k,j,h]) rfl ⟨?_,cG o.out (Td _) _ _ _ _⟩;rw [F.out]
theorem Gg (s:Tr) (g:1<=s.size) (y:s.size<=281474976710656) (w:World):Calls prog 216 #[.string s] w fun e w'=>e=.returned (xS s.data.toList (iF s.data.toList))/\Below w.heap.size w w':=by
 obtain ⟨n,hn⟩:∃ n,iB s.data.toList=n:=⟨_,rfl⟩;have f:n<=s.size:=by rw [<- hn];have:=Cf s.data.toList;simpa using this
 have C:=aA (p:=∀ w,Calls prog 243 #[.string s] w fun e w'=>e=.returned (.int .i64 (n:Int))/\w=w') (fun w=>by have:=Jp s g w;rwa [hn] at this);unfold iF;rw [hn];clear hn;by_cases a:n=0
 · rw [if_pos a]
   unfold xS;have q:((n:Int) == 0)=true:=by rw [a];rfl
   clear a;go_enter func216,ntmps216
   go_wp2_with (go_at_call 243;refine (C.out _).mono ?_;rintro e w' ⟨rfl,rfl⟩)
   refine bodyPost_ret (v:=.tuple #[tkV 0 ⟨#[]⟩ 0 0,.int .i64 2]) (by simp [results,results216,go_sem]) rfl ⟨rfl,?_⟩;exact bA0 _ _
 · rw [if_neg a]
   have q:((n:Int) == 0)=false:=by rw [beq_eq_false_iff_ne];omega
   clear a;have T:=aA (fun w=>i7 3 (s.extract 0 n) (by rw [ByteArray.size_extract];omega) w);have F:=aA (zF s n);unfold xS;go_enter func216,ntmps216
   go_wp2_with (go_at_call 243;refine (C.out _).mono ?_;rintro e w' ⟨rfl,rfl⟩)
   refine (T.out _).mono ?_;rintro e d ⟨rfl,b⟩;have c:=(b.block w.heap.size (by simp)).trans (heap_alloc_new w _);have o:=aA (show Below w.heap.size w d from (bA0 w _).trans (b.mono (by simp)));obtain ⟨⟨x,u,t,r⟩,D,B,A,z⟩:=aL c;have m:=aA c;clear b c;go_wp2_with fail
   obtain ⟨⟨l,k,j,h⟩, -⟩:=aL (aY m.out (.int .i64 3) (.string (s.extract 0 n)) (.int .i64 0) (.int .i64 0));refine bodyPost_ret (v:=.tuple #[tkV 3 (s.extract 0 n) 0 0,.int .i64 0]) (by simp [results,results216,go_sem,l,k,j,h]) rfl ⟨?_,cG o.out (Td _) _ _ _ _⟩;rw [F.out]
end Go.Proofs.YtgfkjkokmcejbaaGreatDoor
