/-
 No statement: what ProgTwoLift needs, of the texts Shelf, OE1.
-/
import Derived.Shelf.Strings.Builder1
import Derived.Shelf.Strings.Builder2
import Derived.Shelf.Strings.OnBuilder
import Derived.Shelf.Strings.Trim
import Derived.Shelf.Small.Utf8
import Derived.Shelf.Small.Strs
import Derived.Shelf.Small.Wraps
import Derived.Shelf.Strings.BuilderF
import Derived.Shelf.Strings.BuilderK
import Derived.Shelf.Strconv.Itoa0
import Derived.Shelf.Strconv.Itoa1
import Derived.Shelf.LaysM
import Derived.Shelf.Strconv.Itoa2
import Derived.Shelf.Strconv.Itoa3
import Derived.Shelf.Strconv.Itoa4
import Derived.Shelf.Strconv.ParseIntEmpty
import Derived.Shelf.Strconv.Clone
import Derived.Shelf.Strconv.SyntaxError
import Derived.Shelf.LaysC
import Derived.Shelf.Strconv.ToError
import Derived.Shelf.Strconv.Lower
import Derived.Shelf.Strconv.ParseUint10
import Derived.Shelf.Strconv.ParseUint10Empty
import Derived.Shelf.Strconv.ParseUint10Any
import Derived.Shelf.Strconv.ParseInt10
import Derived.Shelf.Strconv.RangeError
import Derived.Shelf.Strconv.ToErrorRange
import Derived.Shelf.Strconv.ParseUintEmpty
import Derived.Shelf.Strconv.ParseUint10b64
import Derived.Shelf.Strconv.ParseUint10b32
import Derived.Shelf.Strconv.ParseUint10b16
import Derived.Shelf.Strconv.ParseUint10b8
import Derived.Shelf.Strconv.ParseUint10At
import Derived.Shelf.Strconv.ParseInt10At64
import Derived.Shelf.Strconv.ParseInt10At32
import Derived.Shelf.Strconv.ParseInt10At16
import Derived.Shelf.Strconv.ParseInt10At8
import Derived.Shelf.Strconv.ParseInt10All
import Derived.Shelf.Strconv.ParseIntPublic10
import Derived.Shelf.Strconv.ErrVarParseInt
import Derived.Shelf.Strings.Search1
import Derived.Shelf.Strings.Search2
import Derived.Shelf.Strings.Cut
import Derived.Shelf.Strings.Shaped
import Derived.Shelf.Strings.Prefix
import Derived.Shelf.Unicode.Decode
import Derived.Shelf.Strings.Runes
import Derived.Shelf.Strings.IndexAny
import Derived.Shelf.Strings.AsciiSet
import Derived.Shelf.Strings.IndexAnyAll
import Derived.Shelf.Bits.Mul64
import Derived.Shelf.Unicode.DecodeSlow
import Derived.Shelf.Unicode.DecodeAny
import Derived.Test.YtgfkjkokmcejbaaGreatDoorProg
import Derived.WalkKit
import Derived.WalkSpells
import Derived.Lib.Hide
import Derived.Deep.Draws
import Derived.Sort.Walk0
import Derived.Lib.ParseIntB
import Derived.Lib.AtoiErrMem
import Derived.Lib.AppendIntMem
import Derived.IntWalk
import Derived.LoopTactic
import Derived.StillTailTactics
import Derived.Deep.QuietTactic
import Derived.BigQuiet
import Derived.Lib.ParseIntBTie
import Derived.RangeFuncRecord
import Derived.ArgAppend
import Derived.OwnWalk
import Derived.Deep.RegionHeld3
import Derived.BigRegion
import Derived.Deep.Cut
import Derived.Deep.RegionLaw
import Derived.Shelf.Spec.SearchS
import Derived.Lib.AppendZerosOnto
import Derived.Lib.SliceRun
import Derived.Laws.IdiomStrings
import Derived.Lib.OwnBridge
import Derived.Lib.SlicesCompact
import Derived.Sort.OwnSorted
import Derived.Lib.Builder
import Derived.Lib.AppendStr
namespace Go.Proofs.YtgfkjkokmcejbaaGreatDoor
theorem aA {p : Prop} (h : p) : RowKit.Hid p := Lib.hid h
theorem Sf {α : Type _} {l : List α} {i : Nat} {a : α} : l.toArray.setIfInBounds i a = (l.set i a).toArray := by simp
theorem Sg {α : Type _} {x a : α} {l : List α} : (x :: l).set 0 a = a :: l := rfl
theorem Sh {α : Type _} {x a : α} {l : List α} {n : Nat} : (x :: l).set (n + 1) a = x :: l.set n a := rfl
end Go.Proofs.YtgfkjkokmcejbaaGreatDoor
set_option maxHeartbeats 40000000
set_option maxRecDepth 100000
namespace Go.Proofs
open Go.RowKit
section
open Go.Shelf
def Tryz.lays169_ren:Go.Shelf.Ren:=⟨fun | 169=>38 | n=>n,fun | 70=>90 | 9=>9 | 0=>0 | 72=>92 | 37=>54 | 127=>146 | 3=>3 | 5=>5 | n=>n,fun | n=>n⟩
theorem Tryz.lays169:Go.Proofs.Lays.n169 Tryz.prog Tryz.lays169_ren:={
 mixed:=by kernel_rfl
 f169:=Tryz.func38.trans (congrArg some (by kernel_rfl))
 t0:=Tryz.underlying0
 a0:=Tryz.isAgg0
 z0:=Tryz.sizeOf0
 v0:=Tryz.zeroValue0
 t3:=Tryz.underlying3
 a3:=Tryz.isAgg3
 z3:=Tryz.sizeOf3
 v3:=Tryz.zeroValue3
 t9:=Tryz.underlying9
 a9:=Tryz.isAgg9
 z9:=Tryz.sizeOf9
 v9:=Tryz.zeroValue9
 t37:=Tryz.underlying54
 a37:=Tryz.isAgg54
 z37:=Tryz.sizeOf54
 v37:=Tryz.zeroValue54
 t70:=Tryz.underlying90
 a70:=Tryz.isAgg90
 z70:=Tryz.sizeOf90
 v70:=Tryz.zeroValue90
 t72:=Tryz.underlying92
 a72:=Tryz.isAgg92
 z72:=Tryz.sizeOf92
 v72:=Tryz.zeroValue92
 t127:=Tryz.underlying146
 a127:=Tryz.isAgg146
 z127:=Tryz.sizeOf146
 v127:=Tryz.zeroValue146 }
theorem Tryz.Builder_Extra_169:Builder.Extra Tryz.prog Tryz.lays169_ren:={
 sizeBuilder:=by kernel_rfl
 liesBuilder:=by kernel_rfl
 t5:=Tryz.underlying5
 a5:=Tryz.isAgg5
 z5:=Tryz.sizeOf5
 v5:=Tryz.zeroValue5
 infoByte:=by kernel_rfl
 cellsByte:=by kernel_rfl
 sizeByte:=by kernel_rfl
 neB5:=by decide }
open Go.RowKit in
theorem Tryz.Builder_String_any (B b:Nat) (l:List UInt8) (w:World) (h:Lib.IsBuilder 92 5 B b (Lib.byteCells l) w) (hBw:B<=w.heap.size) :
 Calls Tryz.prog 38 #[.pointer (some ⟨b,0,none⟩)] w fun e w'=>e=.returned (.string ⟨l.toArray⟩)/\Below B w w':=Any.Builder_String_any Tryz.lays169 Tryz.Builder_Extra_169 B b l w h hBw
def Tryz.lays156_ren:Go.Shelf.Ren:=⟨fun | 156=>72 | 165=>129 | 166=>36 | 169=>38 | 240=>71 | 241=>183 | 276=>128 | 277=>224 | n=>n,fun | 31=>55 | 9=>9 | 3=>3 | 4=>4 | 0=>0 | 20=>20 | 72=>92 | 76=>95 | 70=>90 | 37=>54 | 75=>94 | 127=>146 | 164=>209 | 5=>5 | 80=>98 | n=>n,fun | n=>n⟩
theorem Tryz.lays156:Go.Proofs.Lays.n156 Tryz.prog Tryz.lays156_ren:={
 mixed:=by kernel_rfl
 f156:=Tryz.func72.trans (congrArg some (by kernel_rfl))
 f165:=Tryz.func129.trans (congrArg some (by kernel_rfl))
 f166:=Tryz.func36.trans (congrArg some (by kernel_rfl))
 f169:=Tryz.func38.trans (congrArg some (by kernel_rfl))
 f240:=Tryz.func71.trans (congrArg some (by kernel_rfl))
 f241:=Tryz.func183.trans (congrArg some (by kernel_rfl))
 f276:=Tryz.func128.trans (congrArg some (by kernel_rfl))
 f277:=Tryz.func224.trans (congrArg some (by kernel_rfl))
 t0:=Tryz.underlying0
 a0:=Tryz.isAgg0
 z0:=Tryz.sizeOf0
 v0:=Tryz.zeroValue0
 t3:=Tryz.underlying3
 a3:=Tryz.isAgg3
 z3:=Tryz.sizeOf3
 v3:=Tryz.zeroValue3
 t4:=Tryz.underlying4
 a4:=Tryz.isAgg4
 z4:=Tryz.sizeOf4
 v4:=Tryz.zeroValue4
 t9:=Tryz.underlying9
 a9:=Tryz.isAgg9
 z9:=Tryz.sizeOf9
 v9:=Tryz.zeroValue9
 t20:=Tryz.underlying20
 a20:=Tryz.isAgg20
 z20:=Tryz.sizeOf20
 v20:=Tryz.zeroValue20
 t31:=Tryz.underlying55
 a31:=Tryz.isAgg55
 z31:=Tryz.sizeOf55
 v31:=Tryz.zeroValue55
 t37:=Tryz.underlying54
 a37:=Tryz.isAgg54
 z37:=Tryz.sizeOf54
 v37:=Tryz.zeroValue54
 t70:=Tryz.underlying90
 a70:=Tryz.isAgg90
 z70:=Tryz.sizeOf90
 v70:=Tryz.zeroValue90
 t72:=Tryz.underlying92
 a72:=Tryz.isAgg92
 z72:=Tryz.sizeOf92
 v72:=Tryz.zeroValue92
 t75:=Tryz.underlying94
 a75:=Tryz.isAgg94
 z75:=Tryz.sizeOf94
 v75:=Tryz.zeroValue94
 t76:=Tryz.underlying95
 a76:=Tryz.isAgg95
 z76:=Tryz.sizeOf95
 v76:=Tryz.zeroValue95
 t127:=Tryz.underlying146
 a127:=Tryz.isAgg146
 z127:=Tryz.sizeOf146
 v127:=Tryz.zeroValue146
 t164:=Tryz.underlying209
 a164:=Tryz.isAgg209
 z164:=Tryz.sizeOf209
 v164:=Tryz.zeroValue209 }
theorem Tryz.Builder_Extra_156:Builder.Extra Tryz.prog Tryz.lays156_ren:={
 sizeBuilder:=by kernel_rfl
 liesBuilder:=by kernel_rfl
 t5:=Tryz.underlying5
 a5:=Tryz.isAgg5
 z5:=Tryz.sizeOf5
 v5:=Tryz.zeroValue5
 infoByte:=by kernel_rfl
 cellsByte:=by kernel_rfl
 sizeByte:=by kernel_rfl
 neB5:=by decide }
open Go.RowKit in
theorem Tryz.strings_Join_none (a:Option Addr) (c:Nat) (sep:ByteArray) (w:World) :
 Calls Tryz.prog 72 #[.slice a 0 c,.string sep] w fun e w'=>e=.returned (.string ⟨#[]⟩)/\w'=w:=Any.strings_Join_none Tryz.lays156 Tryz.Builder_Extra_156 a c sep w
open Go.RowKit in
theorem Tryz.strings_Join (bk o c:Nat) (xs:List ByteArray) (sep:ByteArray) (w:World) (hcells:∀ (j:Nat) x,xs[j]? = some x->w.cell? ⟨bk,o+j,none⟩=some (.string x)) (hbk:bk<w.heap.size) (hN:xs.length<=140737488355328) (hcap:xs.length<=c) (hlen:(Lib.join (xs.map (·.data.toList)) sep.data.toList).length<=140737488355328) :
 Calls Tryz.prog 72 #[.slice (some ⟨bk,o,none⟩) xs.length c,.string sep] w fun e w'=>e=.returned (.string ⟨(Lib.join (xs.map (·.data.toList)) sep.data.toList).toArray⟩)/\Below w.heap.size w w':=Any.strings_Join Tryz.lays156 Tryz.Builder_Extra_156 bk o c xs sep w hcells hbk hN hcap hlen
def Tryz.lays161_ren:Go.Shelf.Ren:=⟨fun | 161=>109 | 231=>167 | 227=>168 | 233=>169 | 235=>170 | 228=>173 | 197=>207 | 151=>208 | 260=>238 | 152=>171 | 137=>209 | 119=>210 | 224=>165 | 225=>164 | 217=>163 | 266=>205 | n=>n,fun | 9=>9 | 4=>4 | 3=>3 | 5=>5 | 117=>254 | 116=>253 | 0=>0 | 124=>257 | 105=>290 | 21=>21 | 119=>326 | 46=>250 | 139=>329 | 138=>328 | n=>n,fun | 3=>2 | 4=>3 | n=>n⟩
theorem Tryz.lays161:Go.Proofs.Lays.n161 Tryz.prog Tryz.lays161_ren:={
 mixed:=by kernel_rfl
 f119:=Tryz.func210.trans (congrArg some (by kernel_rfl))
 f137:=Tryz.func209.trans (congrArg some (by kernel_rfl))
 f151:=Tryz.func208.trans (congrArg some (by kernel_rfl))
 f152:=Tryz.func171.trans (congrArg some (by kernel_rfl))
 f161:=Tryz.func109.trans (congrArg some (by kernel_rfl))
 f197:=Tryz.func207.trans (congrArg some (by kernel_rfl))
 f217:=Tryz.func163.trans (congrArg some (by kernel_rfl))
 f224:=Tryz.func165.trans (congrArg some (by kernel_rfl))
 f225:=Tryz.func164.trans (congrArg some (by kernel_rfl))
 f227:=Tryz.func168.trans (congrArg some (by kernel_rfl))
 f228:=Tryz.func173.trans (congrArg some (by kernel_rfl))
 f231:=Tryz.func167.trans (congrArg some (by kernel_rfl))
 f233:=Tryz.func169.trans (congrArg some (by kernel_rfl))
 f235:=Tryz.func170.trans (congrArg some (by kernel_rfl))
 f260:=Tryz.func238.trans (congrArg some (by kernel_rfl))
 f266:=Tryz.func205.trans (congrArg some (by kernel_rfl))
 t0:=Tryz.underlying0
 a0:=Tryz.isAgg0
 z0:=Tryz.sizeOf0
 v0:=Tryz.zeroValue0
 t3:=Tryz.underlying3
 a3:=Tryz.isAgg3
 z3:=Tryz.sizeOf3
 v3:=Tryz.zeroValue3
 t4:=Tryz.underlying4
 a4:=Tryz.isAgg4
 z4:=Tryz.sizeOf4
 v4:=Tryz.zeroValue4
 t5:=Tryz.underlying5
 a5:=Tryz.isAgg5
 z5:=Tryz.sizeOf5
 v5:=Tryz.zeroValue5
 t9:=Tryz.underlying9
 a9:=Tryz.isAgg9
 z9:=Tryz.sizeOf9
 v9:=Tryz.zeroValue9
 t21:=Tryz.underlying21
 a21:=Tryz.isAgg21
 z21:=Tryz.sizeOf21
 v21:=Tryz.zeroValue21
 t46:=Tryz.underlying250
 a46:=Tryz.isAgg250
 z46:=Tryz.sizeOf250
 v46:=Tryz.zeroValue250
 t105:=Tryz.underlying290
 a105:=Tryz.isAgg290
 z105:=Tryz.sizeOf290
 v105:=Tryz.zeroValue290
 t116:=Tryz.underlying253
 a116:=Tryz.isAgg253
 z116:=Tryz.sizeOf253
 t117:=Tryz.underlying254
 a117:=Tryz.isAgg254
 z117:=Tryz.sizeOf254
 v117:=Tryz.zeroValue254
 t119:=Tryz.underlying326
 a119:=Tryz.isAgg326
 z119:=Tryz.sizeOf326
 t124:=Tryz.underlying257
 a124:=Tryz.isAgg257
 z124:=Tryz.sizeOf257
 v124:=Tryz.zeroValue257
 t138:=Tryz.underlying328
 a138:=Tryz.isAgg328
 z138:=Tryz.sizeOf328
 v138:=Tryz.zeroValue328
 t139:=Tryz.underlying329
 a139:=Tryz.isAgg329
 z139:=Tryz.sizeOf329
 v139:=Tryz.zeroValue329
 g3:=by kernel_rfl
 g4:=by kernel_rfl }
open Go.RowKit in
theorem Tryz.strings_TrimLeft_one (s:ByteArray) (c:UInt8) (hc:c.toNat<128) (w:World) :
 Calls Tryz.prog 109 #[.string s,.string ⟨#[c]⟩] w fun e w'=>e=.returned (.string ⟨(Lib.trimLeftB s.data.toList c).toArray⟩)/\w'=w:=Any.strings_TrimLeft_one Tryz.lays161 s c hc w
def Tryz.lays119_ren:Go.Shelf.Ren:=⟨fun | 119=>210 | n=>n,fun | 21=>21 | 4=>4 | n=>n,fun | n=>n⟩
theorem Tryz.lays119:Go.Proofs.Lays.n119 Tryz.prog Tryz.lays119_ren:={
 mixed:=by kernel_rfl
 f119:=Tryz.func210.trans (congrArg some (by kernel_rfl))
 t4:=Tryz.underlying4
 a4:=Tryz.isAgg4
 z4:=Tryz.sizeOf4
 v4:=Tryz.zeroValue4
 t21:=Tryz.underlying21
 a21:=Tryz.isAgg21
 z21:=Tryz.sizeOf21
 v21:=Tryz.zeroValue21 }
theorem Tryz.utf8_ValidRune (r:Int) (w:World) :
 Calls Tryz.prog 210 #[.int .i32 r] w fun e w'=>e=.returned (.bool (Lib.validRune r))/\w'=w:=Any.utf8_ValidRune Tryz.lays119 r w
def Tryz.lays106_ren:Go.Shelf.Ren:=⟨fun | 106=>294 | 213=>296 | 265=>297 | n=>n,fun | 9=>9 | 3=>3 | n=>n,fun | n=>n⟩
theorem Tryz.lays106:Go.Proofs.Lays.n106 Tryz.prog Tryz.lays106_ren:={
 mixed:=by kernel_rfl
 f106:=Tryz.func294.trans (congrArg some (by kernel_rfl))
 f213:=Tryz.func296.trans (congrArg some (by kernel_rfl))
 f265:=Tryz.func297.trans (congrArg some (by kernel_rfl))
 t3:=Tryz.underlying3
 a3:=Tryz.isAgg3
 z3:=Tryz.sizeOf3
 v3:=Tryz.zeroValue3
 t9:=Tryz.underlying9
 a9:=Tryz.isAgg9
 z9:=Tryz.sizeOf9
 v9:=Tryz.zeroValue9 }
open Go.RowKit in
theorem Tryz.strings_Compare (a b:ByteArray) (w:World) :
 Calls Tryz.prog 294 #[.string a,.string b] w fun e w'=>e=.returned (.int .i64 (Lib.compareBytes a.data.toList b.data.toList))/\w'=w:=Any.strings_Compare Tryz.lays106 a b w
def Tryz.lays137_ren:Go.Shelf.Ren:=⟨fun | 137=>209 | 217=>163 | 266=>205 | n=>n,fun | 9=>9 | 5=>5 | 3=>3 | n=>n,fun | n=>n⟩
theorem Tryz.lays137:Go.Proofs.Lays.n137 Tryz.prog Tryz.lays137_ren:={
 mixed:=by kernel_rfl
 f137:=Tryz.func209.trans (congrArg some (by kernel_rfl))
 f217:=Tryz.func163.trans (congrArg some (by kernel_rfl))
 f266:=Tryz.func205.trans (congrArg some (by kernel_rfl))
 t3:=Tryz.underlying3
 a3:=Tryz.isAgg3
 z3:=Tryz.sizeOf3
 v3:=Tryz.zeroValue3
 t5:=Tryz.underlying5
 a5:=Tryz.isAgg5
 z5:=Tryz.sizeOf5
 v5:=Tryz.zeroValue5
 t9:=Tryz.underlying9
 a9:=Tryz.isAgg9
 z9:=Tryz.sizeOf9
 v9:=Tryz.zeroValue9 }
open Go.RowKit in
theorem Tryz.strings_IndexByte (s:ByteArray) (c:Int) (w:World) :
 Calls Tryz.prog 209 #[.string s,.int .u8 c] w fun e w'=>e=.returned (.int .i64 (Lib.indexByte s.data.toList c.toNat.toUInt8))/\w'=w:=Any.strings_IndexByte Tryz.lays137 s c w
def Tryz.lays103_ren:Go.Shelf.Ren:=⟨fun | 103=>111 | 210=>174 | 206=>211 | n=>n,fun | 9=>9 | 4=>4 | 24=>194 | 3=>3 | n=>n,fun | n=>n⟩
theorem Tryz.lays103:Go.Proofs.Lays.n103 Tryz.prog Tryz.lays103_ren:={
 mixed:=by kernel_rfl
 f103:=Tryz.func111.trans (congrArg some (by kernel_rfl))
 f206:=Tryz.func211.trans (congrArg some (by kernel_rfl))
 f210:=Tryz.func174.trans (congrArg some (by kernel_rfl))
 t3:=Tryz.underlying3
 a3:=Tryz.isAgg3
 z3:=Tryz.sizeOf3
 v3:=Tryz.zeroValue3
 t4:=Tryz.underlying4
 a4:=Tryz.isAgg4
 z4:=Tryz.sizeOf4
 v4:=Tryz.zeroValue4
 t9:=Tryz.underlying9
 a9:=Tryz.isAgg9
 z9:=Tryz.sizeOf9
 v9:=Tryz.zeroValue9
 t24:=Tryz.underlying194
 a24:=Tryz.isAgg194
 z24:=Tryz.sizeOf194
 v24:=Tryz.zeroValue194 }
open Go.RowKit in
theorem Tryz.strings_CutPrefix (s p:ByteArray) (w:World) :
 Calls Tryz.prog 111 #[.string s,.string p] w fun e w'=>e=.returned (.tuple #[.string ⟨(Lib.trimPrefix s.data.toList p.data.toList).toArray⟩,.bool (Lib.hasPrefix s.data.toList p.data.toList)])/\w'=w:=Any.strings_CutPrefix Tryz.lays103 s p w
def Tryz.laysM173_ren:Go.Shelf.Ren:=⟨fun | 173=>131 | 246=>184 | 283=>225 | 284=>226 | 285=>227 | 286=>228 | 129=>248 | 317=>247 | 318=>249 | 319=>250 | 320=>251 | 337=>264 | 338=>265 | n=>n,fun | 2=>2 | 3=>3 | 9=>9 | 4=>4 | 171=>301 | 0=>0 | 53=>268 | 37=>54 | 5=>5 | 173=>304 | 212=>316 | 51=>287 | 20=>20 | 213=>317 | 46=>250 | 232=>348 | 233=>349 | n=>n,fun | 17=>1 | 18=>4 | 19=>5 | n=>n⟩
theorem Tryz.laysM173:Go.Proofs.LaysM.n173 Tryz.prog Tryz.laysM173_ren:={
 mixed:=by kernel_rfl
 f129:=Tryz.func248.trans (congrArg some (by kernel_rfl))
 f173:=Tryz.func131.trans (congrArg some (by kernel_rfl))
 f246:=Tryz.func184.trans (congrArg some (by kernel_rfl))
 f283:=Tryz.func225.trans (congrArg some (by kernel_rfl))
 f284:=Tryz.func226.trans (congrArg some (by kernel_rfl))
 f285:=Tryz.func227.trans (congrArg some (by kernel_rfl))
 f286:=Tryz.func228.trans (congrArg some (by kernel_rfl))
 f317:=Tryz.func247.trans (congrArg some (by kernel_rfl))
 f318:=Tryz.func249.trans (congrArg some (by kernel_rfl))
 f319:=Tryz.func250.trans (congrArg some (by kernel_rfl))
 f320:=Tryz.func251.trans (congrArg some (by kernel_rfl))
 f337:=Tryz.func264.trans (congrArg some (by kernel_rfl))
 f338:=Tryz.func265.trans (congrArg some (by kernel_rfl))
 t0:=Tryz.underlying0
 a0:=Tryz.isAgg0
 z0:=Tryz.sizeOf0
 v0:=Tryz.zeroValue0
 t2:=Tryz.underlying2
 a2:=Tryz.isAgg2
 z2:=Tryz.sizeOf2
 v2:=Tryz.zeroValue2
 t3:=Tryz.underlying3
 a3:=Tryz.isAgg3
 z3:=Tryz.sizeOf3
 v3:=Tryz.zeroValue3
 t4:=Tryz.underlying4
 a4:=Tryz.isAgg4
 z4:=Tryz.sizeOf4
 v4:=Tryz.zeroValue4
 t5:=Tryz.underlying5
 a5:=Tryz.isAgg5
 z5:=Tryz.sizeOf5
 v5:=Tryz.zeroValue5
 t9:=Tryz.underlying9
 a9:=Tryz.isAgg9
 z9:=Tryz.sizeOf9
 v9:=Tryz.zeroValue9
 t20:=Tryz.underlying20
 a20:=Tryz.isAgg20
 z20:=Tryz.sizeOf20
 v20:=Tryz.zeroValue20
 t37:=Tryz.underlying54
 a37:=Tryz.isAgg54
 z37:=Tryz.sizeOf54
 v37:=Tryz.zeroValue54
 t46:=Tryz.underlying250
 a46:=Tryz.isAgg250
 z46:=Tryz.sizeOf250
 v46:=Tryz.zeroValue250
 t51:=Tryz.underlying287
 a51:=Tryz.isAgg287
 z51:=Tryz.sizeOf287
 v51:=Tryz.zeroValue287
 t53:=Tryz.underlying268
 a53:=Tryz.isAgg268
 z53:=Tryz.sizeOf268
 v53:=Tryz.zeroValue268
 t171:=Tryz.underlying301
 a171:=Tryz.isAgg301
 z171:=Tryz.sizeOf301
 v171:=Tryz.zeroValue301
 t173:=Tryz.underlying304
 a173:=Tryz.isAgg304
 z173:=Tryz.sizeOf304
 v173:=Tryz.zeroValue304
 t212:=Tryz.underlying316
 a212:=Tryz.isAgg316
 z212:=Tryz.sizeOf316
 v212:=Tryz.zeroValue316
 t213:=Tryz.underlying317
 a213:=Tryz.isAgg317
 z213:=Tryz.sizeOf317
 t232:=Tryz.underlying348
 a232:=Tryz.isAgg348
 z232:=Tryz.sizeOf348
 v232:=Tryz.zeroValue348
 t233:=Tryz.underlying349
 a233:=Tryz.isAgg349
 z233:=Tryz.sizeOf349
 v233:=Tryz.zeroValue349
 g17:=by kernel_rfl
 g18:=by kernel_rfl
 g19:=by kernel_rfl
 i0:=by kernel_rfl
 i2:=by kernel_rfl
 i3:=by kernel_rfl
 i4:=by kernel_rfl
 i5:=by kernel_rfl
 i9:=by kernel_rfl
 i20:=by kernel_rfl
 i37:=by kernel_rfl
 i46:=by kernel_rfl
 i51:=by kernel_rfl
 i53:=by kernel_rfl
 i171:=by kernel_rfl
 i173:=by kernel_rfl
 i212:=by kernel_rfl
 i232:=by kernel_rfl
 i233:=by kernel_rfl
 m17:=by kernel_rfl
 m18:=by kernel_rfl
 m19:=by kernel_rfl }
open Go.RowKit Go.Sort Go.Lib in
theorem Tryz.strconv_FormatInt_10 (n:Int) (h0: -9223372036854775808<=n) (h1:n<=9223372036854775807) (w:World) (htab:Lib.TabIs Tryz.prog w "internal/strconv.uint64pow10" .u64 Lib.pow10Tab) :
 Calls Tryz.prog 131 #[.int .i64 n,.int .i64 10] w fun e w'=>e=.returned (.string ⟨(Lib.itoa n).toArray⟩)/\∃ k os,w'=grow (w.drewN k) os:=Any.strconv_FormatInt_10 Tryz.laysM173 n h0 h1 w htab
def Tryz.laysM316_ren:Go.Shelf.Ren:=⟨fun | 316=>118 | n=>n,fun | 9=>9 | 3=>3 | 4=>4 | 37=>54 | 0=>0 | 127=>146 | 5=>5 | n=>n,fun | n=>n⟩
theorem Tryz.laysM316:Go.Proofs.LaysM.n316 Tryz.prog Tryz.laysM316_ren:={
 mixed:=by kernel_rfl
 f316:=Tryz.func118.trans (congrArg some (by kernel_rfl))
 t0:=Tryz.underlying0
 a0:=Tryz.isAgg0
 z0:=Tryz.sizeOf0
 v0:=Tryz.zeroValue0
 t3:=Tryz.underlying3
 a3:=Tryz.isAgg3
 z3:=Tryz.sizeOf3
 v3:=Tryz.zeroValue3
 t4:=Tryz.underlying4
 a4:=Tryz.isAgg4
 z4:=Tryz.sizeOf4
 v4:=Tryz.zeroValue4
 t9:=Tryz.underlying9
 a9:=Tryz.isAgg9
 z9:=Tryz.sizeOf9
 v9:=Tryz.zeroValue9
 t37:=Tryz.underlying54
 a37:=Tryz.isAgg54
 z37:=Tryz.sizeOf54
 v37:=Tryz.zeroValue54
 t127:=Tryz.underlying146
 a127:=Tryz.isAgg146
 z127:=Tryz.sizeOf146
 v127:=Tryz.zeroValue146
 t5:=Tryz.underlying5
 a5:=Tryz.isAgg5
 z5:=Tryz.sizeOf5
 v5:=Tryz.zeroValue5
 i0:=by kernel_rfl
 i3:=by kernel_rfl
 i4:=by kernel_rfl
 i5:=by kernel_rfl
 i9:=by kernel_rfl
 i37:=by kernel_rfl
 i127:=by kernel_rfl }
open Go.RowKit in
theorem Tryz.stringslite_Clone (s:ByteArray) (w:World) (hlim:s.size<=281474976710656) :
 Calls Tryz.prog 118 #[.string s] w fun e w'=>e=.returned (.string s)/\Below w.heap.size w w':=Any.stringslite_Clone Tryz.laysM316 s w hlim
def Tryz.laysC174_ren:Go.Shelf.Ren:=⟨fun | 174=>242 | 247=>259 | 245=>260 | 287=>270 | 279=>271 | 280=>272 | 281=>273 | 282=>274 | 321=>286 | 322=>287 | 316=>118 | 171=>289 | 205=>288 | 243=>295 | 246=>184 | 283=>225 | 284=>226 | 285=>227 | 286=>228 | 129=>248 | 317=>247 | 318=>249 | 319=>250 | 320=>251 | 337=>264 | 338=>265 | n=>n,fun | 9=>9 | 3=>3 | 2=>2 | 75=>94 | 85=>311 | 4=>4 | 167=>337 | 5=>5 | 53=>268 | 175=>338 | 46=>250 | 168=>340 | 37=>54 | 0=>0 | 210=>357 | 21=>21 | 127=>146 | 145=>363 | 143=>361 | 171=>301 | 173=>304 | 212=>316 | 51=>287 | 20=>20 | 213=>317 | 232=>348 | 233=>349 | 80=>98 | n=>n,fun | 15=>6 | 16=>7 | 17=>1 | 18=>4 | 19=>5 | n=>n⟩
theorem Tryz.laysC174:Go.Proofs.LaysC.n174 Tryz.prog Tryz.laysC174_ren:={
 mixed:=by kernel_rfl
 f129:=Tryz.func248.trans (congrArg some (by kernel_rfl))
 f171:=Tryz.func289.trans (congrArg some (by kernel_rfl))
 f174:=Tryz.func242.trans (congrArg some (by kernel_rfl))
 f205:=Tryz.func288.trans (congrArg some (by kernel_rfl))
 f243:=Tryz.func295.trans (congrArg some (by kernel_rfl))
 f245:=Tryz.func260.trans (congrArg some (by kernel_rfl))
 f246:=Tryz.func184.trans (congrArg some (by kernel_rfl))
 f247:=Tryz.func259.trans (congrArg some (by kernel_rfl))
 f279:=Tryz.func271.trans (congrArg some (by kernel_rfl))
 f280:=Tryz.func272.trans (congrArg some (by kernel_rfl))
 f281:=Tryz.func273.trans (congrArg some (by kernel_rfl))
 f282:=Tryz.func274.trans (congrArg some (by kernel_rfl))
 f283:=Tryz.func225.trans (congrArg some (by kernel_rfl))
 f284:=Tryz.func226.trans (congrArg some (by kernel_rfl))
 f285:=Tryz.func227.trans (congrArg some (by kernel_rfl))
 f286:=Tryz.func228.trans (congrArg some (by kernel_rfl))
 f287:=Tryz.func270.trans (congrArg some (by kernel_rfl))
 f316:=Tryz.func118.trans (congrArg some (by kernel_rfl))
 f317:=Tryz.func247.trans (congrArg some (by kernel_rfl))
 f318:=Tryz.func249.trans (congrArg some (by kernel_rfl))
 f319:=Tryz.func250.trans (congrArg some (by kernel_rfl))
 f320:=Tryz.func251.trans (congrArg some (by kernel_rfl))
 f321:=Tryz.func286.trans (congrArg some (by kernel_rfl))
 f322:=Tryz.func287.trans (congrArg some (by kernel_rfl))
 f337:=Tryz.func264.trans (congrArg some (by kernel_rfl))
 f338:=Tryz.func265.trans (congrArg some (by kernel_rfl))
 t0:=Tryz.underlying0
 a0:=Tryz.isAgg0
 z0:=Tryz.sizeOf0
 v0:=Tryz.zeroValue0
 t2:=Tryz.underlying2
 a2:=Tryz.isAgg2
 z2:=Tryz.sizeOf2
 v2:=Tryz.zeroValue2
 t3:=Tryz.underlying3
 a3:=Tryz.isAgg3
 z3:=Tryz.sizeOf3
 v3:=Tryz.zeroValue3
 t4:=Tryz.underlying4
 a4:=Tryz.isAgg4
 z4:=Tryz.sizeOf4
 v4:=Tryz.zeroValue4
 t5:=Tryz.underlying5
 a5:=Tryz.isAgg5
 z5:=Tryz.sizeOf5
 v5:=Tryz.zeroValue5
 t9:=Tryz.underlying9
 a9:=Tryz.isAgg9
 z9:=Tryz.sizeOf9
 v9:=Tryz.zeroValue9
 t20:=Tryz.underlying20
 a20:=Tryz.isAgg20
 z20:=Tryz.sizeOf20
 v20:=Tryz.zeroValue20
 t21:=Tryz.underlying21
 a21:=Tryz.isAgg21
 z21:=Tryz.sizeOf21
 v21:=Tryz.zeroValue21
 t37:=Tryz.underlying54
 a37:=Tryz.isAgg54
 z37:=Tryz.sizeOf54
 v37:=Tryz.zeroValue54
 t46:=Tryz.underlying250
 a46:=Tryz.isAgg250
 z46:=Tryz.sizeOf250
 v46:=Tryz.zeroValue250
 t51:=Tryz.underlying287
 a51:=Tryz.isAgg287
 z51:=Tryz.sizeOf287
 v51:=Tryz.zeroValue287
 t53:=Tryz.underlying268
 a53:=Tryz.isAgg268
 z53:=Tryz.sizeOf268
 v53:=Tryz.zeroValue268
 t75:=Tryz.underlying94
 a75:=Tryz.isAgg94
 z75:=Tryz.sizeOf94
 v75:=Tryz.zeroValue94
 t85:=Tryz.underlying311
 a85:=Tryz.isAgg311
 z85:=Tryz.sizeOf311
 v85:=Tryz.zeroValue311
 t127:=Tryz.underlying146
 a127:=Tryz.isAgg146
 z127:=Tryz.sizeOf146
 v127:=Tryz.zeroValue146
 t143:=Tryz.underlying361
 a143:=Tryz.isAgg361
 z143:=Tryz.sizeOf361
 v143:=Tryz.zeroValue361
 t145:=Tryz.underlying363
 a145:=Tryz.isAgg363
 z145:=Tryz.sizeOf363
 v145:=Tryz.zeroValue363
 t167:=Tryz.underlying337
 a167:=Tryz.isAgg337
 z167:=Tryz.sizeOf337
 v167:=Tryz.zeroValue337
 t168:=Tryz.underlying340
 a168:=Tryz.isAgg340
 z168:=Tryz.sizeOf340
 v168:=Tryz.zeroValue340
 t171:=Tryz.underlying301
 a171:=Tryz.isAgg301
 z171:=Tryz.sizeOf301
 v171:=Tryz.zeroValue301
 t173:=Tryz.underlying304
 a173:=Tryz.isAgg304
 z173:=Tryz.sizeOf304
 v173:=Tryz.zeroValue304
 t175:=Tryz.underlying338
 a175:=Tryz.isAgg338
 z175:=Tryz.sizeOf338
 v175:=Tryz.zeroValue338
 t210:=Tryz.underlying357
 a210:=Tryz.isAgg357
 z210:=Tryz.sizeOf357
 v210:=Tryz.zeroValue357
 t212:=Tryz.underlying316
 a212:=Tryz.isAgg316
 z212:=Tryz.sizeOf316
 v212:=Tryz.zeroValue316
 t213:=Tryz.underlying317
 a213:=Tryz.isAgg317
 z213:=Tryz.sizeOf317
 t232:=Tryz.underlying348
 a232:=Tryz.isAgg348
 z232:=Tryz.sizeOf348
 v232:=Tryz.zeroValue348
 t233:=Tryz.underlying349
 a233:=Tryz.isAgg349
 z233:=Tryz.sizeOf349
 v233:=Tryz.zeroValue349
 g15:=by kernel_rfl
 g16:=by kernel_rfl
 g17:=by kernel_rfl
 g18:=by kernel_rfl
 g19:=by kernel_rfl
 t80:=Tryz.underlying98
 a80:=Tryz.isAgg98
 z80:=Tryz.sizeOf98
 v80:=Tryz.zeroValue98
 i0:=by kernel_rfl
 i2:=by kernel_rfl
 i3:=by kernel_rfl
 i4:=by kernel_rfl
 i5:=by kernel_rfl
 i9:=by kernel_rfl
 i20:=by kernel_rfl
 i21:=by kernel_rfl
 i37:=by kernel_rfl
 i46:=by kernel_rfl
 i51:=by kernel_rfl
 i53:=by kernel_rfl
 i75:=by kernel_rfl
 i80:=by kernel_rfl
 i85:=by kernel_rfl
 i127:=by kernel_rfl
 i143:=by kernel_rfl
 i145:=by kernel_rfl
 i167:=by kernel_rfl
 i168:=by kernel_rfl
 i171:=by kernel_rfl
 i173:=by kernel_rfl
 i175:=by kernel_rfl
 i210:=by kernel_rfl
 i212:=by kernel_rfl
 i232:=by kernel_rfl
 i233:=by kernel_rfl
 m15:=by kernel_rfl
 m16:=by kernel_rfl
 m17:=by kernel_rfl
 m18:=by kernel_rfl
 m19:=by kernel_rfl
 c0:=by kernel_rfl
 c2:=by kernel_rfl
 c3:=by kernel_rfl
 c4:=by kernel_rfl
 c5:=by kernel_rfl
 c9:=by kernel_rfl
 c20:=by kernel_rfl
 c21:=by kernel_rfl
 c37:=by kernel_rfl
 c46:=by kernel_rfl
 c51:=by kernel_rfl
 c53:=by kernel_rfl
 c75:=by kernel_rfl
 c80:=by kernel_rfl
 c85:=by kernel_rfl
 c127:=by kernel_rfl
 c143:=by kernel_rfl
 c145:=by kernel_rfl
 c167:=by kernel_rfl
 c168:=by kernel_rfl
 c171:=by kernel_rfl
 c173:=by kernel_rfl
 c175:=by kernel_rfl
 c210:=by kernel_rfl
 c212:=by kernel_rfl
 c213:=by kernel_rfl
 c232:=by kernel_rfl
 c233:=by kernel_rfl }
open Go.RowKit in
theorem Tryz.strconv_ParseInt_10_at64_ok (s:ByteArray) (hmax:s.size<=9223372036854775806) (v:Int) (h:Lib.parseIntB 64 s.data.toList=.ok v) (w:World) :
 Calls Tryz.prog 242 #[.string s,.int .i64 10,.int .i64 64] w fun e w'=>e=.returned (.tuple #[.int .i64 v,.nilIface])/\(w'=w\/∃ t,w'=Lib.bytesWorld w 5 t):=Any.strconv_ParseInt_10_at64_ok Tryz.laysC174 s hmax v h w
def Tryz.lays219_ren:Go.Shelf.Ren:=⟨fun | 219=>108 | 217=>163 | 225=>164 | 224=>165 | 267=>166 | 266=>205 | 314=>206 | n=>n,fun | 9=>9 | 3=>3 | 4=>4 | 5=>5 | 46=>250 | 146=>288 | 51=>287 | n=>n,fun | 1=>0 | n=>n⟩
theorem Tryz.lays219:Go.Proofs.Lays.n219 Tryz.prog Tryz.lays219_ren:={
 mixed:=by kernel_rfl
 f217:=Tryz.func163.trans (congrArg some (by kernel_rfl))
 f219:=Tryz.func108.trans (congrArg some (by kernel_rfl))
 f224:=Tryz.func165.trans (congrArg some (by kernel_rfl))
 f225:=Tryz.func164.trans (congrArg some (by kernel_rfl))
 f266:=Tryz.func205.trans (congrArg some (by kernel_rfl))
 f267:=Tryz.func166.trans (congrArg some (by kernel_rfl))
 f314:=Tryz.func206.trans (congrArg some (by kernel_rfl))
 t3:=Tryz.underlying3
 a3:=Tryz.isAgg3
 z3:=Tryz.sizeOf3
 v3:=Tryz.zeroValue3
 t4:=Tryz.underlying4
 a4:=Tryz.isAgg4
 z4:=Tryz.sizeOf4
 v4:=Tryz.zeroValue4
 t5:=Tryz.underlying5
 a5:=Tryz.isAgg5
 z5:=Tryz.sizeOf5
 v5:=Tryz.zeroValue5
 t9:=Tryz.underlying9
 a9:=Tryz.isAgg9
 z9:=Tryz.sizeOf9
 v9:=Tryz.zeroValue9
 t46:=Tryz.underlying250
 a46:=Tryz.isAgg250
 z46:=Tryz.sizeOf250
 v46:=Tryz.zeroValue250
 t51:=Tryz.underlying287
 a51:=Tryz.isAgg287
 z51:=Tryz.sizeOf287
 v51:=Tryz.zeroValue287
 t146:=Tryz.underlying288
 a146:=Tryz.isAgg288
 z146:=Tryz.sizeOf288
 v146:=Tryz.zeroValue288
 g1:=by kernel_rfl }
open Go.RowKit Go.Lib in
theorem Tryz.stringslite_Index_one (s:ByteArray) (c:UInt8) (w:World) :
 Calls Tryz.prog 108 #[.string s,.string ⟨#[c]⟩] w fun e w'=>e=.returned (.int .i64 (Lib.indexByte s.data.toList c))/\w'=w:=Any.stringslite_Index_one Tryz.lays219 s c w
def Tryz.lays99_ren:Go.Shelf.Ren:=⟨fun | 99=>203 | 206=>211 | n=>n,fun | 9=>9 | 4=>4 | 3=>3 | n=>n,fun | n=>n⟩
theorem Tryz.lays99:Go.Proofs.Lays.n99 Tryz.prog Tryz.lays99_ren:={
 mixed:=by kernel_rfl
 f99:=Tryz.func203.trans (congrArg some (by kernel_rfl))
 f206:=Tryz.func211.trans (congrArg some (by kernel_rfl))
 t3:=Tryz.underlying3
 a3:=Tryz.isAgg3
 z3:=Tryz.sizeOf3
 v3:=Tryz.zeroValue3
 t4:=Tryz.underlying4
 a4:=Tryz.isAgg4
 z4:=Tryz.sizeOf4
 v4:=Tryz.zeroValue4
 t9:=Tryz.underlying9
 a9:=Tryz.isAgg9
 z9:=Tryz.sizeOf9
 v9:=Tryz.zeroValue9 }
open Go.RowKit Go.Lib in
theorem Tryz.strings_HasPrefix (s p:ByteArray) (w:World) :
 Calls Tryz.prog 203 #[.string s,.string p] w fun e w'=>e=.returned (.bool (Lib.hasPrefix s.data.toList p.data.toList))/\w'=w:=Any.strings_HasPrefix Tryz.lays99 s p w
def Tryz.lays152_ren:Go.Shelf.Ren:=⟨fun | 152=>171 | 137=>209 | 119=>210 | 224=>165 | 225=>164 | 217=>163 | 266=>205 | n=>n,fun | 9=>9 | 21=>21 | 3=>3 | 4=>4 | 5=>5 | 0=>0 | 46=>250 | n=>n,fun | n=>n⟩
theorem Tryz.lays152:Go.Proofs.Lays.n152 Tryz.prog Tryz.lays152_ren:={
 mixed:=by kernel_rfl
 f119:=Tryz.func210.trans (congrArg some (by kernel_rfl))
 f137:=Tryz.func209.trans (congrArg some (by kernel_rfl))
 f152:=Tryz.func171.trans (congrArg some (by kernel_rfl))
 f217:=Tryz.func163.trans (congrArg some (by kernel_rfl))
 f224:=Tryz.func165.trans (congrArg some (by kernel_rfl))
 f225:=Tryz.func164.trans (congrArg some (by kernel_rfl))
 f266:=Tryz.func205.trans (congrArg some (by kernel_rfl))
 t0:=Tryz.underlying0
 a0:=Tryz.isAgg0
 z0:=Tryz.sizeOf0
 v0:=Tryz.zeroValue0
 t3:=Tryz.underlying3
 a3:=Tryz.isAgg3
 z3:=Tryz.sizeOf3
 v3:=Tryz.zeroValue3
 t4:=Tryz.underlying4
 a4:=Tryz.isAgg4
 z4:=Tryz.sizeOf4
 v4:=Tryz.zeroValue4
 t5:=Tryz.underlying5
 a5:=Tryz.isAgg5
 z5:=Tryz.sizeOf5
 v5:=Tryz.zeroValue5
 t9:=Tryz.underlying9
 a9:=Tryz.isAgg9
 z9:=Tryz.sizeOf9
 v9:=Tryz.zeroValue9
 t21:=Tryz.underlying21
 a21:=Tryz.isAgg21
 z21:=Tryz.sizeOf21
 v21:=Tryz.zeroValue21
 t46:=Tryz.underlying250
 a46:=Tryz.isAgg250
 z46:=Tryz.sizeOf250
 v46:=Tryz.zeroValue250 }
open Go.RowKit Go.Lib in
theorem Tryz.strings_IndexRune_ascii (s:ByteArray) (r:Int) (w:World) (h0:0<=r) (h1:r<128) :
 Calls Tryz.prog 171 #[.string s,.int .i32 r] w fun e w'=>e=.returned (.int .i64 (Lib.indexByte s.data.toList r.toNat.toUInt8))/\w'=w:=Any.strings_IndexRune_ascii Tryz.lays152 s r w h0 h1
def Tryz.lays226_ren:Go.Shelf.Ren:=⟨fun | 226=>172 | n=>n,fun | 3=>3 | 4=>4 | n=>n,fun | n=>n⟩
theorem Tryz.lays226:Go.Proofs.Lays.n226 Tryz.prog Tryz.lays226_ren:={
 mixed:=by kernel_rfl
 f226:=Tryz.func172.trans (congrArg some (by kernel_rfl))
 t3:=Tryz.underlying3
 a3:=Tryz.isAgg3
 z3:=Tryz.sizeOf3
 v3:=Tryz.zeroValue3
 t4:=Tryz.underlying4
 a4:=Tryz.isAgg4
 z4:=Tryz.sizeOf4
 v4:=Tryz.zeroValue4 }
open Go.RowKit Go.Lib in
theorem Tryz.strings_shouldUseASCIISet (n:Int) (w:World) :
 Calls Tryz.prog 172 #[.int .i64 n] w fun e w'=>e=.returned (.bool (decide (8<n)))/\w'=w:=Any.strings_shouldUseASCIISet Tryz.lays226 n w
def Tryz.lays153_ren:Go.Shelf.Ren:=⟨fun | 153=>110 | 152=>171 | 226=>172 | 227=>168 | 228=>173 | 137=>209 | 119=>210 | 224=>165 | 225=>164 | 217=>163 | 266=>205 | n=>n,fun | 9=>9 | 3=>3 | 4=>4 | 5=>5 | 21=>21 | 117=>254 | 116=>253 | 0=>0 | 46=>250 | 124=>257 | n=>n,fun | n=>n⟩
theorem Tryz.lays153:Go.Proofs.Lays.n153 Tryz.prog Tryz.lays153_ren:={
 mixed:=by kernel_rfl
 f119:=Tryz.func210.trans (congrArg some (by kernel_rfl))
 f137:=Tryz.func209.trans (congrArg some (by kernel_rfl))
 f152:=Tryz.func171.trans (congrArg some (by kernel_rfl))
 f153:=Tryz.func110.trans (congrArg some (by kernel_rfl))
 f217:=Tryz.func163.trans (congrArg some (by kernel_rfl))
 f224:=Tryz.func165.trans (congrArg some (by kernel_rfl))
 f225:=Tryz.func164.trans (congrArg some (by kernel_rfl))
 f226:=Tryz.func172.trans (congrArg some (by kernel_rfl))
 f227:=Tryz.func168.trans (congrArg some (by kernel_rfl))
 f228:=Tryz.func173.trans (congrArg some (by kernel_rfl))
 f266:=Tryz.func205.trans (congrArg some (by kernel_rfl))
 t0:=Tryz.underlying0
 a0:=Tryz.isAgg0
 z0:=Tryz.sizeOf0
 v0:=Tryz.zeroValue0
 t3:=Tryz.underlying3
 a3:=Tryz.isAgg3
 z3:=Tryz.sizeOf3
 v3:=Tryz.zeroValue3
 t4:=Tryz.underlying4
 a4:=Tryz.isAgg4
 z4:=Tryz.sizeOf4
 v4:=Tryz.zeroValue4
 t5:=Tryz.underlying5
 a5:=Tryz.isAgg5
 z5:=Tryz.sizeOf5
 v5:=Tryz.zeroValue5
 t9:=Tryz.underlying9
 a9:=Tryz.isAgg9
 z9:=Tryz.sizeOf9
 v9:=Tryz.zeroValue9
 t21:=Tryz.underlying21
 a21:=Tryz.isAgg21
 z21:=Tryz.sizeOf21
 v21:=Tryz.zeroValue21
 t46:=Tryz.underlying250
 a46:=Tryz.isAgg250
 z46:=Tryz.sizeOf250
 v46:=Tryz.zeroValue250
 t116:=Tryz.underlying253
 a116:=Tryz.isAgg253
 z116:=Tryz.sizeOf253
 t117:=Tryz.underlying254
 a117:=Tryz.isAgg254
 z117:=Tryz.sizeOf254
 v117:=Tryz.zeroValue254
 t124:=Tryz.underlying257
 a124:=Tryz.isAgg257
 z124:=Tryz.sizeOf257
 v124:=Tryz.zeroValue257 }
open Go.RowKit Go.Lib in
theorem Tryz.strings_IndexAny_long (hv116:∀ w,(zeroValue 253).run Tryz.prog w=.ok (.agg (Array.replicate 256 (.bool false))) w) (s chars:ByteArray) (w:World) (h2:2<=chars.size) (h8:8<s.size) (hs:s.size<4294967281) (hcs:chars.size<4294967281) (hascii:∀ (j:Nat) b,chars.data.toList[j]? = some b->b.toNat<128) :
 Calls Tryz.prog 110 #[.string s,.string chars] w fun e w'=>e=.returned (.int .i64 (Lib.indexAny s.data.toList chars.data.toList))/\w'=((w.alloc (.cells (Lib.setCells chars.data.toList) 253)).alloc (.cells (Lib.setCells chars.data.toList) 253)):=Any.strings_IndexAny_long Tryz.lays153 hv116 (by kernel_rfl) s chars w h2 h8 hs hcs hascii
def Tryz.lays264_ren:Go.Shelf.Ren:=⟨fun | 264=>284 | n=>n,fun | 53=>268 | 46=>250 | n=>n,fun | n=>n⟩
theorem Tryz.lays264:Go.Proofs.Lays.n264 Tryz.prog Tryz.lays264_ren:={
 mixed:=by kernel_rfl
 f264:=Tryz.func284.trans (congrArg some (by kernel_rfl))
 t46:=Tryz.underlying250
 a46:=Tryz.isAgg250
 z46:=Tryz.sizeOf250
 v46:=Tryz.zeroValue250
 t53:=Tryz.underlying268
 a53:=Tryz.isAgg268
 z53:=Tryz.sizeOf268
 v53:=Tryz.zeroValue268 }
open Go.RowKit Go.Lib in
theorem Tryz.bits_Mul64 (x y:Nat) (hx:x<18446744073709551616) (hy:y<18446744073709551616) (w:World) :
 Calls Tryz.prog 284 #[.int .u64 x,.int .u64 y] w fun e w'=>e=.returned (.tuple #[.int .u64 ((x*y / 18446744073709551616:Nat):Int),.int .u64 ((x*y % 18446744073709551616:Nat):Int)])/\w'=w:=Any.bits_Mul64 Tryz.lays264 x y hx hy w
end
end Go.Proofs
namespace Go.Proofs.YtgfkjkokmcejbaaGreatDoor
open Go.RowKit
theorem bA0 (w:Go.World) (o:Go.Obj):Go.RowKit.Below w.heap.size w (w.alloc o):=(Go.RowKit.Below.refl _ _).alloc (Nat.le_refl _) o
section
section
open Go.RowKit
structure aD (S:Nat->Prop) (w w':World):Prop where
 os:w'.os=w.os
 tape:w'.tape=w.tape
 output:w'.output=w.output
 size:w.heap.size<=w'.heap.size
 block:∀ k,k<w.heap.size->¬ S k->w'.heap[k]? = w.heap[k]?
theorem aD.refl (S:Nat->Prop) (w:World):aD S w w:=⟨rfl,rfl,rfl,Nat.le_refl _,fun _ _ _=>rfl⟩
theorem aD.trans {S T:Nat->Prop} {a b c:World} (h:aD S a b) (k:aD T b c) (hT:∀ i,T i->i<a.heap.size->S i):aD S a c :=
 ⟨k.os.trans h.os,k.tape.trans h.tape,k.output.trans h.output,Nat.le_trans h.size k.size,fun i hi hS =>
  (k.block i (Nat.lt_of_lt_of_le hi h.size) (fun ht=>hS (hT i ht hi))).trans (h.block i hi hS)⟩
theorem aD.mono {S T:Nat->Prop} {a b:World} (h:aD S a b) (hT:∀ i,S i->i<a.heap.size->T i):aD T a b :=
 ⟨h.os,h.tape,h.output,h.size,fun i hi hS=>h.block i hi (fun hs=>hS (hT i hs hi))⟩
theorem aD.alloc {S:Nat->Prop} {a w:World} (h:aD S a w) (o:Obj):aD S a (w.alloc o) :=
 h.trans (T:=S) ⟨rfl,rfl,rfl,by simp,fun k hk _=>Below.heap_alloc _ _ _ hk⟩ (fun _ hs _=>hs)
theorem aD.drew {S:Nat->Prop} {a w:World} (h:aD S a w):aD S a w.drew:=⟨h.os,h.tape,h.output,h.size,h.block⟩
theorem aD.drewN {S:Nat->Prop} {a w:World} (h:aD S a w) (n:Nat):aD S a (w.drewN n):=⟨h.os,h.tape,h.output,h.size,h.block⟩
theorem aD.setCell {S:Nat->Prop} {a w:World} (h:aD S a w) {p:Addr} (hp:S p.block\/a.heap.size<=p.block) (u:Value):aD S a (w.setCell p u) :=
 h.trans (T:=fun i=>i=p.block) ⟨rfl,rfl,rfl,by simp [World.setCell],fun k _ hk=>Below.heap_setCell _ _ _ _ hk⟩
  (fun i hi hl=>by subst hi;rcases hp with hp | hp;exact hp;omega)
theorem aD.grown {S:Nat->Prop} {a w w':World} {row:Option Nat} (h:aD S a w) (hg:w.grownBy w' row) (hr:∀ k,row=some k->S k\/a.heap.size<=k):aD S a w' :=
 h.trans (T:=fun i=>row=some i) ⟨hg.os,hg.tape,hg.output,hg.size,fun k hk hne=>hg.block k hk (fun e=>hne e.symm)⟩
  (fun i hi hl=>by rcases hr i hi with hp | hp;exact hp;omega)
theorem aD.below {S:Nat->Prop} {B:Nat} {w w':World} (h:aD S w w') (hS:∀ k,S k->B<=k) (hB:B<=w.heap.size):Below B w w' :=
 ⟨h.os,h.tape,h.output,h.size,fun k hk=>h.block k (by omega) (fun hs=>by have:=hS k hs;omega)⟩
theorem aD.heap {S:Nat->Prop} {w w':World} {k:Nat} {o:Obj} (h:aD S w w') (hk:w.heap[k]? = some o) (hS:¬ S k):w'.heap[k]? = some o :=
 (h.block k (lt_of_block hk) hS).trans hk
theorem aD.cell {S:Nat->Prop} {w w':World} {a:Addr} {v:Value} (h:aD S w w') (hk:w.cell? a=some v) (hS:¬ S a.block):w'.cell? a=some v :=
 (World.cell?_of_block (h.block a.block (World.block_lt_of_cell? w a hk) hS)).trans hk
theorem aD.owns {S:Nat->Prop} {w w':World} {base:Nat} {e:TypeId} {size:Nat} {v:Value} {n:Nat} {xs:List Value} (h:aD S w w') (ho:w.ownsRow base e size v n xs)
 (hS:∀ b,v.ownBlock=some b->¬ S b):w'.ownsRow base e size v n xs:=by
 refine ⟨ho.1,?_⟩;rcases ho.2 with hn | ⟨g,cap,cur,rfl,hb,hgg,rest⟩
 · exact .inl hn
 · exact .inr ⟨g,cap,cur,rfl,hb,h.heap hgg (hS g (by simp [Value.ownBlock])),rest⟩
theorem DP {w:World} {e:TypeId} {v:Value} {n:Nat} {xs:List Value} (h:w.ownsRow 0 e 1 v n xs):xs.length=n:=by rw [h.1,Nat.mul_one]
theorem dZ {w:World} {e:TypeId} {g n:Nat} {cur:Array Value} {xs:List Value} (hg:w.heap[g]? = some (.cells cur e (0,0))) (ht:cur.toList.take n=xs) {j:Nat} {v:Value} (hj:xs[j]? = some v):w.cell? ⟨g,j,none⟩=some v:=by
 rw [cell_of_row w g j cur e (0,0) hg];rw [<- ht,List.getElem?_take] at hj;split at hj
 · simpa using hj
 · cases hj
theorem cH (b:Nat) (e:TypeId):∀ (vs:List Value) (o:Nat) (w:World) (cur:Array Value),w.heap[b]? = some (.cells cur e (0,0))->o+vs.length<=cur.size ->
 ∃ cur',(w.setCells b o vs).heap[b]? = some (.cells cur' e (0,0))/\cur'.toList=cur.toList.take o++vs++cur.toList.drop (o+vs.length)
 | [],o,w,cur,h,_=>⟨cur,h,by simp⟩
 | v :: r, o, w, cur, h, hl => by
   have h1:=heap_setCell_same w b o cur e v h;have hs:(cur.setIfInBounds o v).size=cur.size:=by simp
   obtain ⟨cur',hc,ht⟩:=cH b e r (o+1) _ _ h1 (by simp at hl |-;omega);refine ⟨cur',hc,?_⟩;rw [ht];simp only [List.length_cons] at hl |-
   have ho:o<cur.toList.length:=by rw [Array.length_toList];omega
   have hto:(cur.toList.take o).length=o:=by rw [List.length_take];omega
   have hset:(cur.toList.take o++[cur.toList[o]]).set o v=cur.toList.take o++[v]:=by
    rw [List.set_append,if_neg (by omega),hto,Nat.sub_self];rfl
   rw [Array.toList_setIfInBounds,List.take_set,List.drop_set_of_lt (by omega),List.take_succ_eq_append_getElem ho,hset];simp [Nat.add_assoc,Nat.add_comm 1]
theorem cI {S:Nat->Prop} {w w':World} {row:Option Nat} (h:aD S w w') (hS:∀ k,S k->row=some k):w.grownBy w' row :=
 ⟨h.os,h.tape,h.output,h.size,fun k hk hne=>h.block k hk (fun hs=>hne (hS k hs).symm)⟩
theorem dI {x y:ByteArray} (h:x.data.toList=y.data.toList):x=y:=by
 cases x;cases y;simp only [ByteArray.mk.injEq];exact Array.toList_inj.1 h
end
section
open Go.RowKit
def bN (a:Int):Prop:= -9223372036854775808<=a/\a<=9223372036854775807
def fR (l:List UInt8):Option Int :=
 match Lib.parseIntB 64 l with
 | .ok v=>if Lib.itoa v=l then some v else none
 | _=>none
theorem DO {l:List UInt8} {v:Int} (h:Lib.parseIntB 64 l=.ok v):bN v:=by
 cases l with
 | nil=>simp [Lib.parseIntB] at h
 | cons c r =>
   simp only [Lib.parseIntB] at h;split at h
   · cases h
   · cases h
   · rename_i u hu
     split at h
     · cases h
     · split at h
       · cases h
       · simp only [Lib.NumEnd.ok.injEq] at h
         unfold bN;split at h <;> omega
theorem rR (M:Nat) (c:UInt8) (hc:48<=c.toNat/\c.toNat<=57):∀ (l:List UInt8) (acc v:Nat),Lib.parseUintM M acc l=.ok v->v<1844674407370955162->v*10+(c.toNat-48)<=M->Lib.parseUintM M acc (l++[c])=.ok (v*10+(c.toNat-48))
 | [], acc, v, h, hv, hM => by
   simp only [Lib.parseUintM,Lib.NumEnd.ok.injEq] at h;subst h;rw [List.nil_append,Lib.parseUintM,if_pos hc,if_neg (by omega),if_neg (by omega),Lib.parseUintM]
 | d :: r, acc, v, h, hv, hM => by
   rw [Lib.parseUintM] at h;rw [List.cons_append,Lib.parseUintM];by_cases h1:48<=d.toNat/\d.toNat<=57
   · rw [if_pos h1] at h |-
     by_cases h2:1844674407370955162<=acc
     · rw [if_pos h2] at h;cases h
     · rw [if_neg h2] at h |-
       by_cases h3:M<acc*10+(d.toNat-48)
       · rw [if_pos h3] at h;cases h
       · rw [if_neg h3] at h |-
         exact rR M c hc r _ v h hv hM
   · rw [if_neg h1] at h;cases h
theorem fV (m:Nat) (h:m<10):(UInt8.ofNat (48+m)).toNat=48+m:=by rw [UInt8.toNat_ofNat'];omega
theorem AF (u:Nat) (hu:u<=9223372036854775808):Lib.parseUintM (2 ^ 64-1) 0 (Lib.decDigits u)=.ok u:=by
 induction u using Nat.strongRecOn with
 | _ u ih =>
   rw [Lib.decDigits];by_cases h:u<10
   · rw [dif_pos h]
     have:=rR (2 ^ 64-1) (UInt8.ofNat (48+u)) (by rw [fV u h];omega) [] 0 0 rfl (by omega) (by rw [fV u h];omega);rw [fV u h] at this;simpa using this
   · rw [dif_neg h]
     have h2:u % 10<10:=Nat.mod_lt _ (by omega);have:=rR (2 ^ 64-1) (UInt8.ofNat (48+u % 10)) (by rw [fV _ h2];omega) _ 0 (u / 10) (ih (u / 10) (by omega) (by omega)) (by omega) (by rw [fV _ h2];omega);rw [fV _ h2] at this;rw [this];congr 1
     omega
theorem rV (u:Nat):∀ c∈Lib.decDigits u,48<=c.toNat/\c.toNat<=57:=by
 induction u using Nat.strongRecOn with
 | _ u ih =>
   rw [Lib.decDigits];by_cases h:u<10
   · rw [dif_pos h]
     intro c hc;obtain rfl:=List.mem_singleton.1 hc;rw [fV u h];omega
   · rw [dif_neg h]
     have h2:u % 10<10:=Nat.mod_lt _ (by omega);intro c hc;rcases List.mem_append.1 hc with hc | hc
     · exact ih (u / 10) (by omega) c hc
     · obtain rfl:=List.mem_singleton.1 hc
       rw [fV _ h2];omega
theorem pH (u:Nat):∃ c r,Lib.decDigits u=c::r/\48<=c.toNat/\c.toNat<=57:=by
 cases h:Lib.decDigits u with
 | nil =>
   rw [Lib.decDigits] at h;split at h <;> simp at h
 | cons c r=>exact ⟨c,r,rfl,rV u c (by rw [h];simp)⟩
theorem DY {n:Int} (hn:bN n):fR (Lib.itoa n)=some n:=by
 obtain ⟨h1,h2⟩:=hn
 have hp:Lib.parseIntB 64 (Lib.itoa n)=.ok n:=by
  unfold Lib.itoa;by_cases h0:n<0
  · rw [if_pos h0]
    obtain ⟨c,r,hc,_⟩:=pH n.natAbs;have e1:Lib.parseUintB 64 (Lib.decDigits n.natAbs)=.ok n.natAbs:=by rw [Lib.parseUintB,if_neg (by rw [hc];simp),AF _ (by omega)]
    have e2:¬ 9223372036854775808<n.natAbs:=by omega
    have e3: -(n.natAbs:Int)=n:=by omega
    simp [Lib.parseIntB,e1,e2];omega
  · rw [if_neg h0]
    obtain ⟨c,r,hc,hd⟩:=pH n.toNat;have e1:Lib.parseUintB 64 (Lib.decDigits n.toNat)=.ok n.toNat:=by rw [Lib.parseUintB,if_neg (by rw [hc];simp),AF _ (by omega)]
    have e2:¬ 9223372036854775808<=n.toNat:=by omega
    have e4:¬ c.toNat=43:=by omega
    have e5:¬ c.toNat=45:=by omega
    rw [hc] at e1 |-
    simp [Lib.parseIntB,e1,e2,e4,e5];omega
 unfold fR;rw [hp];simp
def isD (c:UInt8):Prop:=48<=c.toNat/\c.toNat<=57
def dP (d:List UInt8):Nat:=d.foldl (fun u c=>10*u+(c.toNat-48)) 0
theorem pO (d:List UInt8) (c:UInt8):dP (d++[c])=10*dP d+(c.toNat-48):=by unfold dP;rw [List.foldl_append];rfl
theorem Cn (u:Nat):dP (Lib.decDigits u)=u:=by
 induction u using Nat.strongRecOn with
 | _ u ih =>
   rw [Lib.decDigits];by_cases h:u<10
   · rw [dif_pos h]
     show 10*0+((UInt8.ofNat (48+u)).toNat-48)=u;rw [fV u h];omega
   · rw [dif_neg h,pO,ih (u / 10) (by omega),fV _ (Nat.mod_lt _ (by omega))]
     omega
theorem tD:∀ (k u:Nat),u<10 ^ (k+1)->(Lib.decDigits u).length<=k+1
 | 0,u,h=>by rw [Lib.decDigits,dif_pos (by omega)];simp
 | k + 1, u, h => by
   rw [Lib.decDigits];by_cases h10:u<10
   · rw [dif_pos h10];simp
   · rw [dif_neg h10,List.length_append]
     have:=tD k (u / 10) (by rw [Nat.div_lt_iff_lt_mul (by omega)];rw [Nat.pow_succ] at h;exact h);simp;omega
theorem EC (u:Nat):0<u->∀ r,¬ Lib.decDigits u=48::r:=by
 induction u using Nat.strongRecOn with
 | _ u ih =>
   intro hu r e;rw [Lib.decDigits] at e;by_cases h:u<10
   · rw [dif_pos h] at e
     have e1:UInt8.ofNat (48+u)=48:=(List.cons.inj e).1;have:=fV u h;rw [e1] at this;have:(48:UInt8).toNat=48:=rfl;omega
   · rw [dif_neg h] at e
     obtain ⟨c,q,hc,_⟩:=pH (u / 10);rw [hc,List.cons_append] at e;have e1:=(List.cons.inj e).1;subst e1;exact ih (u / 10) (by omega) (by omega) q hc
theorem tC:Lib.decDigits 0=[48]:=by rw [Lib.decDigits,dif_pos (by omega)];rfl
theorem GO {c:UInt8} (h:isD c):UInt8.ofNat (48+(c.toNat-48))=c:=by
 rw [show 48+(c.toNat-48)=c.toNat by have:=h.1;omega];exact UInt8.ofNat_toNat
theorem vX:∀ (n:Nat) (d:List UInt8),d.length=n->¬ d=[]->(∀ c∈d,isD c)->(∀ r,d=48::r->r=[])->Lib.decDigits (dP d)=d:=by
 intro n;induction n with
 | zero=>intro d hl hn _ _;exact absurd (List.length_eq_zero_iff.1 hl) hn
 | succ n ih =>
   intro d hl hn hd h0;rcases List.eq_nil_or_concat d with e | ⟨e,c,rfl⟩
   · exact absurd e hn
   · rw [List.concat_eq_append] at *
     have hc:isD c:=hd c (by simp);rw [pO];by_cases he:e=[]
     · subst he
       rw [show dP []=0 from rfl,Nat.mul_zero,Nat.zero_add,Lib.decDigits,dif_pos (by have:=hc.2;omega),GO hc];rfl
     · have ih2:=ih e (by simp at hl;exact hl) he (fun x hx=>hd x (by simp [hx])) (fun r hr=>by
        have:=h0 (r++[c]) (by rw [hr];rfl);simp at this)
       have hpos:0<dP e:=by
        rcases Nat.eq_zero_or_pos (dP e) with h | h
        · rw [h,tC] at ih2
          have:=h0 [c] (by rw [<- ih2];rfl);cases this
        · exact h
       have hx:c.toNat-48<10:=by have:=hc.2;omega
       rw [Lib.decDigits,dif_neg (by omega),show (10*dP e+(c.toNat-48)) / 10=dP e by omega,show (10*dP e+(c.toNat-48)) % 10=c.toNat-48 by omega,ih2,GO hc]
theorem Fc:∀ (n:Nat) (d:List UInt8),d.length=n->(∀ c∈d,isD c)->dP d<10 ^ n:=by
 intro n;induction n with
 | zero=>intro d hl _;rw [List.length_eq_zero_iff.1 hl];decide
 | succ n ih =>
   intro d hl hd;rcases List.eq_nil_or_concat d with rfl | ⟨e,c,rfl⟩
   · simp at hl
   · rw [List.concat_eq_append] at *
     have hc:isD c:=hd c (by simp);have:=ih e (by simp at hl;exact hl) (fun x hx=>hd x (by simp [hx]));have h2:=hc.2;rw [pO,Nat.pow_succ];omega
def okD (neg:Bool) (d:List UInt8):Prop:=¬ d=[]/\d.length<=19/\(∀ c∈d,isD c)/\(∀ r,d=48::r->r=[]/\neg=false)
theorem DX {l:List UInt8} {v:Int} (h:fR l=some v) :
 (v<0/\∃ d,l=45::d/\okD true d/\dP d=v.natAbs)\/(0<=v/\okD false l/\dP l=v.toNat):=by
 have hl:Lib.itoa v=l/\bN v:=by
  unfold fR at h;split at h
  · rename_i x hx
    split at h
    · rename_i he
      cases h;exact ⟨he,DO hx⟩
    · cases h
  · cases h
 obtain ⟨hl,h1,h2⟩:=hl
 have ok:∀ (u:Nat) (neg:Bool),u<=9223372036854775808->(neg=true->0<u)->okD neg (Lib.decDigits u):=fun u neg hu hn=>by
  refine ⟨?_,tD 18 u (by omega),rV u,fun r e=>?_⟩
  · obtain ⟨c,r,hc,_⟩:=pH u;rw [hc];simp
  · rcases Nat.eq_zero_or_pos u with h | h
    · subst h
      rw [tC] at e;refine ⟨by simpa using e.symm,?_⟩;cases neg with
      | false=>rfl
      | true=>exact absurd (hn rfl) (by omega)
    · exact absurd e (EC u h r)
 unfold Lib.itoa at hl;by_cases h0:v<0
 · rw [if_pos h0] at hl
   exact .inl ⟨h0,_,hl.symm,ok _ _ (by omega) (fun _=>by omega),Cn _⟩
 · rw [if_neg h0] at hl
   subst hl;exact .inr ⟨by omega,ok _ _ (by omega) (fun h=>by cases h),Cn _⟩
theorem Hb {d:List UInt8} (h:okD true d) (hv:dP d<=9223372036854775808):fR (45::d)=some (-(dP d:Int)):=by
 obtain ⟨h1,h2,h3,h4⟩:=h;have hd:=vX _ d rfl h1 h3 (fun r hr=>(h4 r hr).1)
 have hpos:0<dP d:=by
  rcases Nat.eq_zero_or_pos (dP d) with h | h
  · rw [h,tC] at hd
    have:=(h4 [] hd.symm).2;cases this
  · exact h
 have hn:bN (-(dP d:Int)):=by unfold bN;omega
 have:=DY hn;rwa [Lib.itoa,if_pos (by omega),show (-(dP d:Int)).natAbs=dP d by omega,hd] at this
theorem wD {d:List UInt8} (h:okD false d) (hv:dP d<=9223372036854775807):fR d=some (dP d:Int):=by
 obtain ⟨h1,h2,h3,h4⟩:=h;have hd:=vX _ d rfl h1 h3 (fun r hr=>(h4 r hr).1);have hn:bN (dP d:Int):=by unfold bN;omega
 have:=DY hn;rwa [Lib.itoa,if_neg (by omega),show ((dP d:Int)).toNat=dP d by omega,hd] at this
theorem FL {l:List UInt8} {v:Int} (h:fR l=some v):bN v:=by
 unfold fR at h;split at h
 · rename_i x hx
   split at h
   · cases h;exact DO hx
   · cases h
 · cases h
theorem mK {d:List UInt8} (h:¬ (okD true d/\dP d<=9223372036854775808)):fR (45::d)=none:=by
 cases e:fR (45::d) with
 | none=>rfl
 | some v =>
   have hi:=FL e;unfold bN at hi;rcases DX e with ⟨h0,d',hd,ho,hv⟩ | ⟨h0,ho,hv⟩
   · cases hd
     exact absurd ⟨ho,by omega⟩ h
   · have:=ho.2.2.1 45 (by simp)
     exact absurd this.1 (by decide)
theorem gY {d:List UInt8} (h0:∀ r,¬ d=45::r) (h:¬ (okD false d/\dP d<=9223372036854775807)):fR d=none:=by
 cases e:fR d with
 | none=>rfl
 | some v =>
   have hi:=FL e;unfold bN at hi;rcases DX e with ⟨_,d',hd,_⟩ | ⟨h1,ho,hv⟩
   · exact absurd hd (h0 d')
   · exact absurd ⟨ho,by omega⟩ h
theorem rE:∀ (d:List UInt8) (acc v:Nat),Lib.parseUintM (2 ^ 64-1) acc d=.ok v->(∀ c∈d,isD c)->v=d.foldl (fun u c=>10*u+(c.toNat-48)) acc
 | [],acc,v,h,_=>by simp only [Lib.parseUintM,Lib.NumEnd.ok.injEq] at h;exact h.symm
 | c :: r, acc, v, h, hd => by
   have hc:48<=c.toNat/\c.toNat<=57:=hd c (by simp);rw [Lib.parseUintM,if_pos hc] at h;by_cases h1:1844674407370955162<=acc
   · rw [if_pos h1] at h;cases h
   · rw [if_neg h1] at h
     by_cases h2:2 ^ 64-1<acc*10+(c.toNat-48)
     · rw [if_pos h2] at h;cases h
     · rw [if_neg h2] at h
       have:=rE r _ v h (fun x hx=>hd x (by simp [hx]));rw [this,List.foldl_cons,Nat.mul_comm acc 10]
theorem sR {d:List UInt8} (h1:¬ d=[]) (hd:∀ c∈d,isD c) (h0:∀ r,d=48::r->r=[]) (hv:dP d<=9223372036854775807):Lib.parseIntB 64 d=.ok (dP d:Int):=by
 have hl:d.length<=19:=by
  have:=tD 18 (dP d) (by omega);rwa [vX _ d rfl h1 hd h0] at this
 have h:=wD (d:=d) ⟨h1,hl,hd,fun r hr=>⟨h0 r hr,rfl⟩⟩ hv;unfold fR at h;split at h
 · rename_i v hv'
   split at h
   · cases h;exact hv'
   · cases h
 · cases h
theorem kQ {d:List UInt8} (hd:∀ c∈d,isD c) (hv:9223372036854775807<dP d) (v:Int):¬ Lib.parseIntB 64 d=.ok v:=by
 intro h;cases d with
 | nil=>simp [Lib.parseIntB] at h
 | cons c r =>
   have hc:=hd c (by simp);have n1:¬ (c.toNat=43\/c.toNat=45):=by have:=hc.1;omega
   simp only [Lib.parseIntB,if_neg n1] at h;cases hp:Lib.parseUintB 64 (c::r) with
   | ok u =>
     rw [hp] at h;rw [Lib.parseUintB,if_neg (by simp)] at hp;have hu:u=dP (c::r):=rE _ _ _ hp hd;have n2:¬ c.toNat=45:=by omega
     simp only at h;rw [if_pos ⟨n2,by rw [hu];omega⟩] at h;cases h
   | _=>rw [hp] at h;cases h
theorem Lo {d:List UInt8} (hd:∀ c∈d,isD c) (hv:9223372036854775807<dP d):fR d=none:=by
 unfold fR;split
 · rename_i v h;exact absurd h (kQ hd hv v)
 · rfl
theorem xU {d:List UInt8} (h1:¬ d=[]) (hd:∀ c∈d,isD c) (h0:∀ r,d=48::r->r=[]) (hv:dP d<=9223372036854775807):fR d=some (dP d:Int):=by
 have hl:d.length<=19:=by
  have:=tD 18 (dP d) (by omega);rwa [vX _ d rfl h1 hd h0] at this
 exact wD ⟨h1,hl,hd,fun r hr=>⟨h0 r hr,rfl⟩⟩ hv
end
section
open Go.RowKit
def bE (c:UInt8):Bool:=decide (97<=(c.toNat:Int)) && decide ((c.toNat:Int)<=122)
def aV (c:UInt8):Bool:=decide (48<=(c.toNat:Int)) && decide ((c.toNat:Int)<=57)
def aX (c:UInt8):Bool:=bE c || aV c
def bH:List UInt8->Bool
 | []=>false
 | c::r=>bE c && decide (r.length<=7) && r.all aX
def cX:List UInt8->List (List UInt8)
 | []=>[[]]
 | c::r=>if c=47 then []::cX r else ((c::(cX r).head!)::(cX r).tail)
def DZ (l:List UInt8) (p:Nat):Bool :=
 match l with
 | []=>decide (0<p)
 | c::r=>decide (c=47) && (cX r).all bH && decide ((cX r).length+p<=4)
def lH (l:List UInt8):Bool:=DZ l 0
theorem mO (c:UInt8) (r:List UInt8):bH (c::r)=(bE c && decide (r.length<=7) && r.all aX):=rfl
theorem t8 (c:UInt8) (r:List UInt8) (p:Nat):DZ (c::r) p=(decide (c=47) && (cX r).all bH && decide ((cX r).length+p<=4)):=rfl
theorem wB (l:List UInt8):cX l ≠ []:=by
 cases l with
 | nil=>simp [cX]
 | cons c r=>unfold cX;split <;> simp
theorem sL (l:List UInt8):∃ a q,cX l=a::q:=by
 cases h:cX l with
 | nil=>exact absurd h (wB l)
 | cons a q=>exact ⟨a,q,rfl⟩
theorem e7 (q:List UInt8):cX (47::q)=[]::cX q:=by simp [cX]
theorem eG {c:UInt8} (h:¬ c=47) (q:List UInt8) {a:List UInt8} {b:List (List UInt8)} (e:cX q=a::b):cX (c::q)=(c::a)::b:=by
 rw [cX,if_neg h,e];rfl
end
section
open Go.RowKit
def bL (p:UInt8->Bool) (l:List UInt8):Nat:=(l.takeWhile p).length
def cV (c:UInt8):Bool:=c == 40 || c == 41 || c == 44 || c == 61 || c == 60 || c == 62 || c == 43 || c == 45 || c == 42 || c == 47 || c == 37
def cU (c d:UInt8):Bool:=d == 61 && (c == 33 || c == 60 || c == 62)
def kK:List UInt8->Nat
 | []=>0
 | [c]=>if cV c then 1 else 0
 | c::d::_=>if cU c d then 2 else if cV c then 1 else 0
inductive Fst | bad (e:Int) | tok (k:Int) (n:Nat) (v:Int)
def jL (l:List UInt8):Fst:=if 8<bL aX l then .bad 5 else .tok 1 (bL aX l) 0
def mJ (l:List UInt8):Fst :=
 if (1<bL aV l/\l.head? = some 48)\/(∃ d,(l.drop (bL aV l)).head? = some d/\bE d=true) then .bad 2
 else if 9223372036854775807<dP (l.take (bL aV l)) then .bad 1 else .tok 2 (bL aV l) (dP (l.take (bL aV l)))
def iI (l:List UInt8):Fst:=if kK l=0 then .bad 2 else .tok 3 (kK l) 0
def bU:List UInt8->Fst
 | []=>.bad 2
 | c::r=>if bE c then jL (c::r) else if aV c then mJ (c::r) else iI (c::r)
structure Tk where
 kind:Int
 text:List UInt8
 num:Int
 place:Nat
instance : Inhabited Tk := ⟨⟨0, [], 0, 0⟩⟩
inductive fY | bad (p:Nat) (e:Int) | ok (ts:List Tk)
def fY.after (acc:List Tk):fY->fY
 | .bad p e=>.bad p e
 | .ok ts=>.ok (acc++ts)
theorem qU (E:fY):E.after []=E:=by cases E <;> rfl
theorem fX (a b:List Tk) (E:fY):(E.after b).after a=E.after (a++b):=by cases E <;> simp [fY.after]
def cL:List UInt8->Nat->fY
 | [],_=>.ok []
 | c :: r, p =>
   if c=32 then cL r (p+1)
   else match bU (c::r) with
    | .bad e=>.bad p e
    | .tok k n v=>(cL (r.drop (n-1)) (p+n)).after [⟨k,(c::r).take n,v,p⟩]
termination_by l => l.length
decreasing_by
 all_goals simp
 omega
theorem lJ (p:Nat):cL [] p=.ok []:=by rw [cL]
theorem fH (r:List UInt8) (p:Nat):cL (32::r) p=cL r (p+1):=by rw [cL,if_pos rfl]
theorem qH {l:List UInt8} {p:Nat} {e:Int} (h0:¬ l=[]) (h1:¬ l.head? = some 32) (h:bU l=.bad e):cL l p=.bad p e:=by
 cases l with
 | nil=>exact absurd rfl h0
 | cons c r =>
   rw [cL,if_neg (by simpa using h1),h]
theorem iC {l:List UInt8} {p n:Nat} {k v:Int} (h1:¬ l.head? = some 32) (hn:1<=n) (h:bU l=.tok k n v):cL l p=(cL (l.drop n) (p+n)).after [⟨k,l.take n,v,p⟩]:=by
 cases l with
 | nil=>cases h
 | cons c r =>
   rw [cL,if_neg (by simpa using h1),h];simp only;obtain ⟨m,rfl⟩:∃ m,n=m+1:=⟨n-1,by omega⟩;rfl
theorem tS (q:UInt8->Bool) (l:List UInt8):bL q l<=l.length:=by
 unfold bL;have:=congrArg List.length (List.takeWhile_append_dropWhile (p:=q) (l:=l));rw [List.length_append] at this;omega
theorem Dn {a b l:List UInt8} (h:a++b=l):l.take a.length=a/\l.drop a.length=b:=by
 subst h;simp
theorem oP (q:UInt8->Bool) (l:List UInt8):l.take (bL q l)=l.takeWhile q:=by
 exact (Dn (List.takeWhile_append_dropWhile (p:=q) (l:=l))).1
theorem pG (q:UInt8->Bool) (l:List UInt8):l.drop (bL q l)=l.dropWhile q:=by
 exact (Dn (List.takeWhile_append_dropWhile (p:=q) (l:=l))).2
theorem tT {q:UInt8->Bool}:∀ {l:List UInt8} {n:Nat},n<=l.length->(∀ j (h:j<l.length),j<n->q l[j]=true)->(∀ h:n<l.length,q l[n]=false)->bL q l=n
 | [],n,h,_,_=>by simp at h;subst h;rfl
 | c :: r, 0, _, _, h2 => by
   have:=h2 (by simp);unfold bL;rw [List.takeWhile_cons_of_neg (by simpa using this)];rfl
 | c :: r, n + 1, h, h1, h2 => by
   have hc:=h1 0 (by simp) (by omega);have ih:=tT (q:=q) (l:=r) (n:=n) (by simpa using h) (fun j hj hn=>by have:=h1 (j+1) (by simpa using hj) (by omega);simpa using this) (fun hn=>by have:=h2 (by simpa using hn);simpa using this);unfold bL at ih |-
   rw [List.takeWhile_cons_of_pos (by simpa using hc)];simp [ih]
theorem qR (c:UInt8):aV c=true ↔ isD c:=by
 unfold aV isD;simp;omega
theorem sO {q:UInt8->Bool} {c:UInt8} {r:List UInt8} (h:q c=true):1<=bL q (c::r):=by
 unfold bL;rw [List.takeWhile_cons_of_pos h];simp
theorem BE (l:List UInt8):kK l<=l.length:=by
 match l with
 | []=>simp [kK]
 | [c] =>
   show (if cV c then 1 else 0)<=1;split <;> omega
 | c :: d :: r =>
   show (if cU c d then 2 else if cV c then 1 else 0)<=r.length+1+1;split
   · omega
   · split <;> omega
theorem JL {l:List UInt8} {k v:Int} {n:Nat} (h:bU l=.tok k n v):1<=n/\n<=l.length:=by
 cases l with
 | nil=>cases h
 | cons c r =>
   simp only [bU] at h;split at h
   · rename_i hs
     unfold jL at h;split at h
     · cases h
     · cases h
       exact ⟨sO (by unfold aX;simp [hs]),tS _ _⟩
   · split at h
     · rename_i hd
       unfold mJ at h;split at h
       · cases h
       · split at h
         · cases h
         · cases h
           exact ⟨sO hd,tS _ _⟩
     · unfold iI at h
       split at h
       · cases h
       · cases h
         exact ⟨by omega,BE _⟩
theorem Bh {l:List UInt8} {k v:Int} {n:Nat} (h:bU l=.tok k n v):(k=1\/k=2\/k=3)/\(¬ k=2->v=0)/\0<=v/\v<=9223372036854775807:=by
 cases l with
 | nil=>cases h
 | cons c r =>
   simp only [bU] at h;split at h
   · unfold jL at h
     split at h
     · cases h
     · cases h;exact ⟨.inl rfl,fun _=>rfl,by omega,by omega⟩
   · split at h
     · unfold mJ at h
       split at h
       · cases h
       · split at h
         · cases h
         · cases h;exact ⟨.inr (.inl rfl),fun h=>absurd rfl h,by omega,by omega⟩
     · unfold iI at h
       split at h
       · cases h
       · cases h;exact ⟨.inr (.inr rfl),fun _=>rfl,by omega,by omega⟩
theorem LR (l:List UInt8) (p:Nat):cL l p=cL (l.drop (bL (· == 32) l)) (p+bL (· == 32) l):=by
 induction l generalizing p with
 | nil=>rfl
 | cons c r ih =>
   by_cases h:c=32
   · subst h
     rw [fH,ih (p+1)];have:bL (· == 32) (32::r)=bL (· == 32) r+1:=by unfold bL;rw [List.takeWhile_cons_of_pos (by decide)];rfl
     rw [this,List.drop_succ_cons];congr 1
     omega
   · have:bL (· == 32) (c::r)=0:=by unfold bL;rw [List.takeWhile_cons_of_neg (by simpa using h)];rfl
     rw [this];rfl
theorem In (l:List UInt8):¬ (l.drop (bL (· == 32) l)).head? = some 32:=by
 rw [pG];intro h;have:=List.head?_dropWhile_not (p:=fun c:UInt8=>c == 32) (l:=l);rw [h] at this;simp at this
theorem AN (l:List UInt8) (p:Nat) (h1:¬ l.head? = some 32):(l=[]/\cL l p=.ok [])\/(∃ e,¬ l=[]/\bU l=.bad e/\cL l p=.bad p e) \/
 ∃ k n v,¬ l=[]/\bU l=.tok k n v/\1<=n/\n<=l.length/\cL l p=(cL (l.drop n) (p+n)).after [⟨k,l.take n,v,p⟩]:=by
 by_cases h0:l=[]
 · subst h0;exact .inl ⟨rfl,lJ p⟩
 · right
   cases h:bU l with
   | bad e=>exact .inl ⟨e,h0,rfl,qH h0 h1 h⟩
   | tok k n v =>
     obtain ⟨a,b⟩:=JL h;exact .inr ⟨k,n,v,h0,rfl,a,b,iC h1 a h⟩
theorem nP {C:List UInt8->Nat->Prop} (hnil:∀ p,C [] p) (hblank:∀ r p,C r (p+1)->C (32::r) p) (hbad:∀ l p e,¬ l.head? = some 32->¬ l=[]->bU l=.bad e->C l p)
 (htok:∀ l p k n v,¬ l.head? = some 32->¬ l=[]->bU l=.tok k n v->1<=n->n<=l.length->C (l.drop n) (p+n)->C l p):∀ (m:Nat) (l:List UInt8) (p:Nat),l.length<=m->C l p:=by
 intro m;induction m with
 | zero =>
   intro l p h;obtain rfl:l=[]:=List.length_eq_zero_iff.1 (by omega);exact hnil p
 | succ m ih =>
   intro l p h;by_cases h32:l.head? = some 32
   · cases l with
     | nil=>cases h32
     | cons c r =>
       obtain rfl:c=32:=by simpa using h32
       exact hblank r p (ih r (p+1) (by simpa using h))
   · rcases AN l p h32 with ⟨rfl,_⟩ | ⟨e,h0,hf,_⟩ | ⟨k,n,v,h0,hf,h1,h2,_⟩
     · exact hnil p
     · exact hbad l p e h32 h0 hf
     · exact htok l p k n v h32 h0 hf h1 h2 (ih _ _ (by simp;omega))
theorem zR {E:fY} {a ts:List Tk} (h:E.after a=.ok ts):∃ ts',E=.ok ts'/\ts=a++ts':=by
 cases E with
 | bad p e=>cases h
 | ok x=>cases h;exact ⟨x,rfl,rfl⟩
theorem I7 (l:List UInt8) (p:Nat):∀ ts,cL l p=.ok ts->(ts.map fun t=>t.text.length).sum<=l.length/\ts.length<=l.length/\(∀ t∈ts,t.text.length<=l.length/\t.place<=p+l.length/\(t.kind=1\/t.kind=2\/t.kind=3)/\0<=t.num/\t.num<=9223372036854775807):=by
 refine nP (C:=fun l p=>∀ ts,cL l p=.ok ts->(ts.map fun t=>t.text.length).sum<=l.length/\ts.length<=l.length/\(∀ t∈ts,t.text.length<=l.length/\t.place<=p+l.length/\(t.kind=1\/t.kind=2\/t.kind=3)/\0<=t.num/\t.num<=9223372036854775807)) ?_ ?_ ?_ ?_ l.length l p (Nat.le_refl _)
 · intro p ts h
   rw [lJ] at h;cases h;exact ⟨by simp,by simp,fun t ht=>by cases ht⟩
 · intro r p ih ts h
   rw [fH] at h;obtain ⟨a,b,c⟩:=ih ts h;exact ⟨by simp;omega,by simp;omega,fun t ht=>by have:=c t ht;simp;exact ⟨by omega,by omega,this.2.2⟩⟩
 · intro l p e h1 h0 hf ts h
   rw [qH h0 h1 hf] at h;cases h
 · intro l p k n v h1 h0 hf hn hl ih ts h
   rw [iC h1 hn hf] at h;obtain ⟨ts',h',rfl⟩:=zR h;obtain ⟨a,b,c⟩:=ih ts' h';have hf2:=Bh hf;simp only [List.length_drop] at a b c;refine ⟨by simp;omega,by simp;omega,fun t ht=>?_⟩;rcases List.mem_cons.1 ht with rfl | ht
   · exact ⟨by simp;omega,by simp,hf2.1,hf2.2.2⟩
   · have:=c t ht
     exact ⟨by omega,by omega,this.2.2⟩
end
section
open Go.RowKit
inductive F where
 | nil:F
 | cons (op nm:ByteArray) (n:Int) (ks rest:F):F
def F.len:F->Nat
 | .nil=>0
 | .cons _ _ _ _ r=>r.len+1
structure TN where
 op:ByteArray
 nm:ByteArray
 n:Int
 ks:F
def TN.f (t:TN):F:=.cons t.op t.nm t.n t.ks .nil
def F.at:F->Nat->Option TN
 | .nil,_=>none
 | .cons o m n k _,0=>some ⟨o,m,n,k⟩
 | .cons _ _ _ _ r,j+1=>r.at j
def F.drop:F->Nat->F
 | f,0=>f
 | .nil,_+1=>.nil
 | .cons _ _ _ _ r,j+1=>r.drop j
theorem F.drop_zero (f:F):f.drop 0=f:=by cases f <;> rfl
theorem F.drop_at:∀ (f:F) (j:Nat),j<f.len->∃ t,f.at j=some t/\f.drop j=.cons t.op t.nm t.n t.ks (f.drop (j+1))
 | .nil,_,h=>by simp [F.len] at h
 | .cons o m n k r,0,_=>⟨⟨o,m,n,k⟩,rfl,by rw [F.drop_zero,F.drop,F.drop_zero]⟩
 | .cons o m n k r, j + 1, h => by
   obtain ⟨t,h1,h2⟩:=F.drop_at r j (by simp [F.len] at h;omega);exact ⟨t,h1,h2⟩
theorem F.drop_len:∀ (f:F) (j:Nat),f.len<=j->f.drop j=.nil
 | .nil,0,_=>rfl
 | .nil,_+1,_=>rfl
 | .cons o m n k r,0,h=>by simp [F.len] at h
 | .cons o m n k r,j+1,h=>F.drop_len r j (by simp [F.len] at h;omega)
def tJ:List UInt8:=[110,117,109]
def oA:List UInt8:=[110,97,109,101]
def jE:List UInt8:=[110,101,103]
def cO (o:ByteArray):Bool:=o.data.toList == tJ
def cG (o:ByteArray):Bool:=o.data.toList == oA
def gA (o:ByteArray):Bool:=o.data.toList == jE
def A8 (o:ByteArray):Bool:=o.data.toList == [42] || o.data.toList == [47] || o.data.toList == [37]
def Hj (o:ByteArray):Bool:=o.data.toList == [43] || o.data.toList == [45]
def mN (o:ByteArray):Bool:=o.data.toList == [43] || o.data.toList == [45] || o.data.toList == [42] || o.data.toList == [47] || o.data.toList == [37]
def eC (o:ByteArray):Int:=if cO o || cG o then 0 else if gA o then 1 else if mN o then 2 else -1
def rW:F->Int->Int
 | .nil,l=>l
 | .cons _ _ _ ks r,l=>if l<0 then l else rW r (rW ks (l-1))
def pF (o m:ByteArray) (n:Int) (k:Nat):Int :=
 if (eC o != (k:Int))=true then 2 else if (cG o && !bH m.data.toList)=true then 5 else if (cO o && decide (n<0))=true then 1 else 0
def cC:F->Int
 | .nil=>0
 | .cons o m n ks r=>if pF o m n ks.len=0 then (if cC ks=0 then cC r else cC ks) else pF o m n ks.len
def aT (t:TN):Int:=if rW t.ks 31<0 then 4 else cC t.f
theorem zH (t:TN):cC t.f=if pF t.op t.nm t.n t.ks.len=0 then cC t.ks else pF t.op t.nm t.n t.ks.len:=by
 unfold TN.f;rw [cC];by_cases h:cC t.ks=0
 · rw [if_pos h,h];rfl
 · rw [if_neg h]
def De (o m:ByteArray) (n:Int) (ts:List (List UInt8)):List UInt8 :=
 if cO o=true then Lib.itoa n else if cG o=true then m.data.toList
 else if gA o=true then 45::ts.headD [] else 40::(ts.headD []++32::(o.data.toList++32::(ts.tail.headD []++[41])))
def Kl:F->List (List UInt8)
 | .nil=>[]
 | .cons o m n ks r=>De o m n (Kl ks)::Kl r
def bB (t:TN):List UInt8:=De t.op t.nm t.n (Kl t.ks)
end
section
open Go.RowKit
theorem eA {a b:Bool} (h:a=b):Ending.returned (.bool a)=.returned (.bool b):=by rw [h]
theorem Dz {a b:Nat} (h:a=b):Ending.returned (.int .i64 (a:Int))=.returned (.int .i64 (b:Int)):=by rw [h]
theorem eM (c:UInt8) (w:World):Calls Tryz.prog 212 #[.int .u8 c.toNat] w fun e w'=>e=.returned (.bool (bE c))/\w=w':=by
 obtain ⟨x,hx⟩:∃ x:Int,(c.toNat:Int)=x:=⟨_,rfl⟩;unfold bE;rw [hx];by_cases h:97<=x
 · go_enter Tryz.func212,Tryz.ntmps212
   go_wp2
   go_ret;exact ⟨eA (a:=decide (x<=122)) (by rw [decide_eq_true h];rfl),rfl⟩
 · go_enter Tryz.func212,Tryz.ntmps212
   go_wp2
   go_ret;exact ⟨eA (a:=false) (by rw [decide_eq_false (by omega)];rfl),rfl⟩
theorem nQ (c:UInt8) (w:World):Calls Tryz.prog 214 #[.int .u8 c.toNat] w fun e w'=>e=.returned (.bool (aV c))/\w=w':=by
 obtain ⟨x,hx⟩:∃ x:Int,(c.toNat:Int)=x:=⟨_,rfl⟩;unfold aV;rw [hx];by_cases h:48<=x
 · go_enter Tryz.func214,Tryz.ntmps214
   go_wp2
   go_ret;exact ⟨eA (a:=decide (x<=57)) (by rw [decide_eq_true h];rfl),rfl⟩
 · go_enter Tryz.func214,Tryz.ntmps214
   go_wp2
   go_ret;exact ⟨eA (a:=false) (by rw [decide_eq_false (by omega)];rfl),rfl⟩
theorem Ef (c:UInt8) (w:World):Calls Tryz.prog 240 #[.int .u8 c.toNat] w fun e w'=>e=.returned (.bool (aX c))/\w=w':=by
 unfold aX;cases h:bE c with
 | true =>
   have C:=aA (p:=∀ w,Calls Tryz.prog 212 #[.int .u8 c.toNat] w fun e w'=>e=.returned (.bool true)/\w=w') (fun w=>by have:=eM c w;rwa [h] at this);clear h;go_enter Tryz.func240,Tryz.ntmps240
   go_wp2_with (go_at_call 212;refine (C.out _).mono ?_;rintro e w' ⟨rfl,rfl⟩)
   go_ret;exact ⟨eA (a:=true) rfl,rfl⟩
 | false =>
   have C:=aA (p:=∀ w,Calls Tryz.prog 212 #[.int .u8 c.toNat] w fun e w'=>e=.returned (.bool false)/\w=w') (fun w=>by have:=eM c w;rwa [h] at this);have D:=aA (p:=∀ w,Calls Tryz.prog 214 #[.int .u8 c.toNat] w fun e w'=>e=.returned (.bool (aV c))/\w=w') (fun w=>nQ c w);clear h;go_enter Tryz.func240,Tryz.ntmps240
   go_wp2_with (first | (go_at_call 212;refine (C.out _).mono ?_;rintro e w' ⟨rfl,rfl⟩) | (go_at_call 214;refine (D.out _).mono ?_;rintro e w' ⟨rfl,rfl⟩))
   go_ret;exact ⟨eA (a:=aV c) rfl,rfl⟩
theorem f7 (s:ByteArray) (a b:Nat):(s.extract a b).data.toList=(s.data.toList.drop a).take (b-a):=by
 rw [ByteArray.data_extract,Array.toList_extract]
theorem qG (s:ByteArray) (a:Nat):(s.extract a s.size).data.toList=s.data.toList.drop a:=by
 rw [f7];exact List.take_of_length_le (by simp)
theorem fD (s:ByteArray) (b:Nat):(s.extract 0 b).data.toList=s.data.toList.take b:=by
 rw [f7];rfl
theorem BP (l:List UInt8):Lib.hasPrefix l (⟨#[32]⟩:ByteArray).data.toList=decide (l.head? = some 32):=by
 cases l with
 | nil=>rfl
 | cons c r =>
   show [32].isPrefixOf (c::r)=_;rw [List.isPrefixOf];by_cases h:c=32
   · subst h;rfl
   · rw [beq_eq_false_iff_ne.2 (fun e:(32:UInt8)=c=>h e.symm)]
     rw [decide_eq_false (by simpa using h)];rfl
theorem I8 (s:ByteArray) (p:Nat) (hp:p<=s.size) (hm:s.size<=281474976710656) (w:World):Calls Tryz.prog 175 #[.string s,.int .i64 p] w fun e w'=>e=.returned (.int .i64 ((p+bL (· == 32) (s.data.toList.drop p):Nat):Int))/\w=w':=by
 have C:=aA (p:=∀ (k:Nat) w,Calls Tryz.prog 203 #[.string (s.extract k s.size),.string ⟨#[32]⟩] w fun e w'=>e=.returned (.bool (decide ((s.data.toList.drop k).head? = some 32)))/\w=w') (fun k w=>by
  have:=Tryz.strings_HasPrefix (s.extract k s.size) ⟨#[32]⟩ w;rw [BP,qG] at this;exact this.mono fun e w' ⟨h1,h2⟩=>⟨h1,h2.symm⟩)
 obtain ⟨N,hN⟩:∃ N,p+bL (· == 32) (s.data.toList.drop p)=N:=⟨_,rfl⟩;rw [hN];have H:=aA hN;clear hN;go_enter Tryz.func175,Tryz.ntmps175
 go_wp2_with fail
 go_loop [1] (fun i=>∃ k:Nat,p<=k/\k<=s.size/\i=.int .i64 k/\Hid (k+bL (· == 32) (s.data.toList.drop k)=N)) (fun i=>s.size-(intOf i).toNat)
 case atStart=>exact ⟨p,Nat.le_refl _,by omega,rfl,H⟩
 case round =>
  obtain ⟨k,hk1,hk,rfl,hok⟩:=hrel;by_cases hc:(s.data.toList.drop k).head? = some 32
  · have D:=aA (p:=∀ w,Calls Tryz.prog 203 #[.string (s.extract k s.size),.string ⟨#[32]⟩] w fun e w'=>e=.returned (.bool true)/\w=w') (fun w=>by have:=C.out k w;rwa [decide_eq_true hc] at this)
    have hlt:k<s.size:=by
     have hl:s.data.toList.length=s.size:=by simp
     rcases Nat.lt_or_ge k s.size with h | h
     · exact h
     · rw [List.drop_of_length_le (by omega)] at hc;cases hc
    have hok1:=aA (show k+1+bL (· == 32) (s.data.toList.drop (k+1))=N by
     rw [<- hok.out];have hd:=List.drop_eq_getElem_cons (l:=s.data.toList) (i:=k) (by simpa using hlt);rw [hd] at hc |-
     have h32:s.data.toList[k]'(by simpa using hlt)=32:=by simpa using hc
     have:bL (· == 32) (s.data.toList[k]'(by simpa using hlt)::s.data.toList.drop (k+1))=bL (· == 32) (s.data.toList.drop (k+1))+1:=by
      unfold bL;rw [List.takeWhile_cons_of_pos (by rw [h32];decide)];rfl
     rw [this];omega)
    clear hc;go_wp2_with (go_at_call 203;refine (D.out _).mono ?_;rintro e w' ⟨rfl,rfl⟩)
    go_round
    case rel=>exact ⟨k+1,by omega,by omega,by go_num,hok1⟩
    case measure=>simp [intOf];omega
  · have D:=aA (p:=∀ w,Calls Tryz.prog 203 #[.string (s.extract k s.size),.string ⟨#[32]⟩] w fun e w'=>e=.returned (.bool false)/\w=w') (fun w=>by have:=C.out k w;rwa [decide_eq_false hc] at this)
    have hkN:Hid (k=N):=aA (by
     rw [<- hok.out]
     have:bL (· == 32) (s.data.toList.drop k)=0:=by
      cases e:s.data.toList.drop k with
      | nil=>rfl
      | cons c r =>
        rw [e] at hc;unfold bL;rw [List.takeWhile_cons_of_neg (by simpa using hc)];rfl
     omega)
    clear hc;go_wp2_with (go_at_call 203;refine (D.out _).mono ?_;rintro e w' ⟨rfl,rfl⟩)
    go_ret;exact ⟨Dz hkN.out,rfl⟩
theorem eW (s:ByteArray) (hm:s.size<=281474976710656) (w:World) :
 Calls Tryz.prog 239 #[.string s,.func (.func 214) #[] #[]] w fun e w'=>e=.returned (.int .i64 (bL aV s.data.toList:Int))/\w=w':=by
 have hF:=aA nQ;go_enter Tryz.func239,Tryz.ntmps239
 go_wp2_with fail
 go_loop [5] (fun i=>∃ k:Nat,k<=s.size/\i=.int .i64 k/\Hid (∀ j (h:j<s.data.toList.length),j<k->aV s.data.toList[j]=true)) (fun i=>s.size-(intOf i).toNat)
 case atStart=>exact ⟨0,by omega,rfl,aA (fun j _ h=>by omega)⟩
 case round =>
  obtain ⟨k,hk,rfl,hok⟩:=hrel;have hl:s.data.toList.length=s.size:=by simp
  by_cases hlt:k<s.size
  · cases hc:aV s[k] with
    | true =>
      have D:=aA (p:=∀ w,Calls Tryz.prog 214 #[.int .u8 s[k].toNat] w fun e w'=>e=.returned (.bool true)/\w=w') (fun w=>by have:=hF.out s[k] w;rwa [hc] at this)
      have hok1:=aA (show ∀ j (h:j<s.data.toList.length),j<k+1->aV s.data.toList[j]=true from fun j hj hjk=>by
       by_cases e:j=k
       · subst e;exact hc
       · exact hok.out j hj (by omega))
      clear hc hl;go_wp2_with (go_at_call 214;refine (D.out _).mono ?_;rintro e w' ⟨rfl,rfl⟩)
      go_round
      case rel=>exact ⟨k+1,by omega,by go_num,hok1⟩
      case measure=>simp [intOf];omega
    | false =>
      have D:=aA (p:=∀ w,Calls Tryz.prog 214 #[.int .u8 s[k].toNat] w fun e w'=>e=.returned (.bool false)/\w=w') (fun w=>by have:=hF.out s[k] w;rwa [hc] at this);have R:=aA (tT (q:=aV) (l:=s.data.toList) (n:=k) (by omega) hok.out (fun _=>hc));clear hc hl;go_wp2_with (go_at_call 214;refine (D.out _).mono ?_;rintro e w' ⟨rfl,rfl⟩)
      go_ret;exact ⟨Dz R.out.symm,rfl⟩
  · obtain rfl:k=s.size:=by omega
    have R:=aA (tT (q:=aV) (l:=s.data.toList) (n:=s.size) (by omega) hok.out (fun h=>by omega));clear hl;go_wp2_with fail
    go_ret;exact ⟨Dz R.out.symm,rfl⟩
theorem Jd (s:ByteArray) (hm:s.size<=281474976710656) (w:World) :
 Calls Tryz.prog 239 #[.string s,.func (.func 240) #[] #[]] w fun e w'=>e=.returned (.int .i64 (bL aX s.data.toList:Int))/\w=w':=by
 have hF:=aA Ef;go_enter Tryz.func239,Tryz.ntmps239
 go_wp2_with fail
 go_loop [5] (fun i=>∃ k:Nat,k<=s.size/\i=.int .i64 k/\Hid (∀ j (h:j<s.data.toList.length),j<k->aX s.data.toList[j]=true)) (fun i=>s.size-(intOf i).toNat)
 case atStart=>exact ⟨0,by omega,rfl,aA (fun j _ h=>by omega)⟩
 case round =>
  obtain ⟨k,hk,rfl,hok⟩:=hrel;have hl:s.data.toList.length=s.size:=by simp
  by_cases hlt:k<s.size
  · cases hc:aX s[k] with
    | true =>
      have D:=aA (p:=∀ w,Calls Tryz.prog 240 #[.int .u8 s[k].toNat] w fun e w'=>e=.returned (.bool true)/\w=w') (fun w=>by have:=hF.out s[k] w;rwa [hc] at this)
      have hok1:=aA (show ∀ j (h:j<s.data.toList.length),j<k+1->aX s.data.toList[j]=true from fun j hj hjk=>by
       by_cases e:j=k
       · subst e;exact hc
       · exact hok.out j hj (by omega))
      clear hc hl;go_wp2_with (go_at_call 240;refine (D.out _).mono ?_;rintro e w' ⟨rfl,rfl⟩)
      go_round
      case rel=>exact ⟨k+1,by omega,by go_num,hok1⟩
      case measure=>simp [intOf];omega
    | false =>
      have D:=aA (p:=∀ w,Calls Tryz.prog 240 #[.int .u8 s[k].toNat] w fun e w'=>e=.returned (.bool false)/\w=w') (fun w=>by have:=hF.out s[k] w;rwa [hc] at this);have R:=aA (tT (q:=aX) (l:=s.data.toList) (n:=k) (by omega) hok.out (fun _=>hc));clear hc hl;go_wp2_with (go_at_call 240;refine (D.out _).mono ?_;rintro e w' ⟨rfl,rfl⟩)
      go_ret;exact ⟨Dz R.out.symm,rfl⟩
  · obtain rfl:k=s.size:=by omega
    have R:=aA (tT (q:=aX) (l:=s.data.toList) (n:=s.size) (by omega) hok.out (fun h=>by omega));clear hl;go_wp2_with fail
    go_ret;exact ⟨Dz R.out.symm,rfl⟩
end
section
open Go.RowKit
theorem uO {s:ByteArray} (h:s.size=1):s.data.toList=[s[0]'(by omega)]:=by
 have hl:s.data.toList.length=s.size:=by simp
 cases e:s.data.toList with
 | nil=>rw [e] at hl;simp at hl;omega
 | cons c r =>
   have h00:s.data.toList[0]? = some (s[0]'(by omega)):=List.getElem?_eq_getElem (by omega);rw [e] at h00 hl;have hc:c=s[0]:=by simpa using h00
   have:r=[]:=List.length_eq_zero_iff.1 (by simp at hl;omega);rw [this,hc]
theorem Bt {s:ByteArray} (h:2<=s.size):∃ r,s.data.toList=s[0]::s[1]::r:=by
 have d0:=List.drop_eq_getElem_cons (l:=s.data.toList) (i:=0) (by simp;omega);have d1:=List.drop_eq_getElem_cons (l:=s.data.toList) (i:=1) (by simp;omega);rw [List.drop_zero] at d0;rw [d0,Nat.zero_add,d1];exact ⟨_,rfl⟩
theorem Cv (c:UInt8) (k:Nat) (hk:k<256):((c.toNat:Int) == (k:Int))=(c == UInt8.ofNat k):=by
 by_cases h:c=UInt8.ofNat k
 · subst h
   rw [UInt8.toNat_ofNat'];rw [show k % 2 ^ 8=k by omega];simp
 · rw [beq_eq_false_iff_ne.2 h,beq_eq_false_iff_ne.2]
   intro e;apply h
   apply UInt8.toNat_inj.1
   rw [UInt8.toNat_ofNat'];omega
theorem xR (c:UInt8):cV c=((c.toNat:Int) == 40 || (c.toNat:Int) == 41 || (c.toNat:Int) == 44 || (c.toNat:Int) == 61 || (c.toNat:Int) == 60 || (c.toNat:Int) == 62 || (c.toNat:Int) == 43 || (c.toNat:Int) == 45 || (c.toNat:Int) == 42 || (c.toNat:Int) == 47 || (c.toNat:Int) == 37):=by
 unfold cV;have q:∀ k:Nat,k<256->(c == UInt8.ofNat k)=((c.toNat:Int) == (k:Int)):=fun k hk=>(Cv c k hk).symm
 exact congr (congrArg or (congr (congrArg or (congr (congrArg or (congr (congrArg or (congr (congrArg or (congr (congrArg or (congr (congrArg or (congr (congrArg or (congr (congrArg or (congr (congrArg or (q 40 (by decide))) (q 41 (by decide)))) (q 44 (by decide)))) (q 61 (by decide)))) (q 60 (by decide)))) (q 62 (by decide)))) (q 43 (by decide)))) (q 45 (by decide)))) (q 42 (by decide)))) (q 47 (by decide)))) (q 37 (by decide))
theorem Ca (s:ByteArray) (h1:1<=s.size) (t1:((s.extract 0 (min 2 (s.size:Int)).toNat).toList == [33,61])=false) (t2:((s.extract 0 (min 2 (s.size:Int)).toNat).toList == [60,61])=false) (t3:((s.extract 0 (min 2 (s.size:Int)).toNat).toList == [62,61])=false) {n:Nat} (R:n=if (((s[0]'(by omega)).toNat:Int) == 40 || ((s[0]'(by omega)).toNat:Int) == 41 || ((s[0]'(by omega)).toNat:Int) == 44 || ((s[0]'(by omega)).toNat:Int) == 61 || ((s[0]'(by omega)).toNat:Int) == 60 || ((s[0]'(by omega)).toNat:Int) == 62 || ((s[0]'(by omega)).toNat:Int) == 43 || ((s[0]'(by omega)).toNat:Int) == 45 || ((s[0]'(by omega)).toNat:Int) == 42 || ((s[0]'(by omega)).toNat:Int) == 47 || ((s[0]'(by omega)).toNat:Int) == 37)=true then 1 else 0) (w:World):Calls Tryz.prog 243 #[.string s] w fun e w'=>e=.returned (.int .i64 (n:Int))/\w=w':=by
 have R:=aA R;go_enter Tryz.func243,Tryz.ntmps243
 go_wp2_with fail
 all_goals
  go_ret;refine ⟨?_,rfl⟩;rw [R.out];simp only [*,Bool.true_or,Bool.or_true,if_true,Bool.or_false,Bool.false_eq_true,if_false];rfl
theorem Jc (s:ByteArray) (h1:1<=s.size) (t1:((s.extract 0 (min 2 (s.size:Int)).toNat).toList == [33,61])=true) (w:World):Calls Tryz.prog 243 #[.string s] w fun e w'=>e=.returned (.int .i64 ((2:Nat):Int))/\w=w':=by
 go_enter Tryz.func243,Tryz.ntmps243
 go_wp2_with fail
 go_ret;exact ⟨rfl,rfl⟩
theorem Jb (s:ByteArray) (h1:1<=s.size) (t1:((s.extract 0 (min 2 (s.size:Int)).toNat).toList == [33,61])=false) (t2:((s.extract 0 (min 2 (s.size:Int)).toNat).toList == [60,61])=true) (w:World):Calls Tryz.prog 243 #[.string s] w fun e w'=>e=.returned (.int .i64 ((2:Nat):Int))/\w=w':=by
 go_enter Tryz.func243,Tryz.ntmps243
 go_wp2_with fail
 go_ret;exact ⟨rfl,rfl⟩
theorem Ja (s:ByteArray) (h1:1<=s.size) (t1:((s.extract 0 (min 2 (s.size:Int)).toNat).toList == [33,61])=false) (t2:((s.extract 0 (min 2 (s.size:Int)).toNat).toList == [60,61])=false) (t3:((s.extract 0 (min 2 (s.size:Int)).toNat).toList == [62,61])=true) (w:World):Calls Tryz.prog 243 #[.string s] w fun e w'=>e=.returned (.int .i64 ((2:Nat):Int))/\w=w':=by
 go_enter Tryz.func243,Tryz.ntmps243
 go_wp2_with fail
 go_ret;exact ⟨rfl,rfl⟩
theorem I9 (s:ByteArray) (h1:1<=s.size) (w:World):Calls Tryz.prog 243 #[.string s] w fun e w'=>e=.returned (.int .i64 (kK s.data.toList:Int))/\w=w':=by
 by_cases h2:s.size=1
 · have T:(s.extract 0 (min 2 (s.size:Int)).toNat).toList=[s[0]'(by omega)]:=by rw [Lib.toList_data,fD,uO h2,show (min 2 (s.size:Int)).toNat=1 by omega];rfl
   refine Ca s h1 (by rw [T];simp) (by rw [T];simp) (by rw [T];simp) ?_ w;rw [uO h2];show (if cV _=true then 1 else 0)=_;rw [xR]
 · obtain ⟨r,hr⟩:=Bt (s:=s) (by omega)
   have T:(s.extract 0 (min 2 (s.size:Int)).toNat).toList=[s[0]'(by omega),s[1]'(by omega)]:=by
    rw [Lib.toList_data,fD,show (min 2 (s.size:Int)).toNat=2 by omega,hr];rfl
   have E:kK s.data.toList=if cU (s[0]'(by omega)) (s[1]'(by omega)) then 2 else if cV (s[0]'(by omega)) then 1 else 0:=by rw [hr];rfl
   have q:∀ k:UInt8,([s[0]'(by omega),s[1]'(by omega)] == [k,61])=((s[0]'(by omega)) == k && (s[1]'(by omega)) == 61):=fun k=>by
    show ((s[0]'(by omega)) == k && ((s[1]'(by omega)) == 61 && true))=_;rw [Bool.and_true]
   by_cases hd:s[1]'(by omega)=61
   · by_cases a1:s[0]'(by omega)=33
     · rw [E,show cU (s[0]'(by omega)) (s[1]'(by omega))=true by unfold cU;rw [hd,a1];decide]
       exact Jc s h1 (by rw [T,q,hd,a1];decide) w
     by_cases a2:s[0]'(by omega)=60
     · rw [E,show cU (s[0]'(by omega)) (s[1]'(by omega))=true by unfold cU;rw [hd,a2];decide]
       exact Jb s h1 (by rw [T,q,hd,a2];decide) (by rw [T,q,hd,a2];decide) w
     by_cases a3:s[0]'(by omega)=62
     · rw [E,show cU (s[0]'(by omega)) (s[1]'(by omega))=true by unfold cU;rw [hd,a3];decide]
       exact Ja s h1 (by rw [T,q,hd,a3];decide) (by rw [T,q,hd,a3];decide) (by rw [T,q,hd,a3];decide) w
     refine Ca s h1 (by rw [T,q,beq_eq_false_iff_ne.2 a1];rfl) (by rw [T,q,beq_eq_false_iff_ne.2 a2];rfl) (by rw [T,q,beq_eq_false_iff_ne.2 a3];rfl) ?_ w;rw [E, <- xR,show cU (s[0]'(by omega)) (s[1]'(by omega))=false by unfold cU;rw [beq_eq_false_iff_ne.2 a1,beq_eq_false_iff_ne.2 a2,beq_eq_false_iff_ne.2 a3];simp];rfl
   · have z:(s[1]'(by omega) == 61)=false:=beq_eq_false_iff_ne.2 hd
     refine Ca s h1 (by rw [T,q,z,Bool.and_false]) (by rw [T,q,z,Bool.and_false]) (by rw [T,q,z,Bool.and_false]) ?_ w;rw [E, <- xR,show cU (s[0]'(by omega)) (s[1]'(by omega))=false by unfold cU;rw [z];rfl];rfl
end
section
open Go.RowKit
theorem aL {W:World} {B:Nat} {x0 x1 x2 x3:Value} {t:TypeId} (h:W.heap[B]? = some (.cells #[x0,x1,x2,x3] t (0,0))) :
 (W.cell? ⟨B,0,none⟩=some x0/\W.cell? ⟨B,1,none⟩=some x1/\W.cell? ⟨B,2,none⟩=some x2/\W.cell? ⟨B,3,none⟩=some x3) /\
 (W.frozen? ⟨B,0,none⟩=false/\W.frozen? ⟨B,1,none⟩=false/\W.frozen? ⟨B,2,none⟩=false/\W.frozen? ⟨B,3,none⟩=false):=by
 refine ⟨⟨?_,?_,?_,?_⟩,?_,?_,?_,?_⟩ <;> simp [World.cell?,World.frozen?,h]
theorem pU (W:World) (B o:Nat) (cur:Array Value) (t:TypeId) (v:Value) (h:W.heap[B]? = some (.cells cur t (0,0))):(W.setCell ⟨B,o,none⟩ v).heap[B]? = some (.cells (cur.setIfInBounds o v) t (0,0)) :=
 heap_setCell_same W B o cur t v h
theorem aU {W:World} {B:Nat} {x0 x1 x2 x3:Value} {t:TypeId} (h:W.heap[B]? = some (.cells #[x0,x1,x2,x3] t (0,0))) (v0 v1 v2 v3:Value) :
 ((((W.setCell ⟨B,0,none⟩ v0).setCell ⟨B,1,none⟩ v1).setCell ⟨B,2,none⟩ v2).setCell ⟨B,3,none⟩ v3).heap[B]? = some (.cells #[v0,v1,v2,v3] t (0,0)):=by
 have:=pU _ B 3 _ t v3 (pU _ B 2 _ t v2 (pU _ B 1 _ t v1 (pU W B 0 _ t v0 h)));simpa using this
theorem bY {b:Nat} {A W:World} {B:Nat} (h:Below b A W) (hB:b<=B) (v0 v1 v2 v3:Value) :
 Below b A ((((W.setCell ⟨B,0,none⟩ v0).setCell ⟨B,1,none⟩ v1).setCell ⟨B,2,none⟩ v2).setCell ⟨B,3,none⟩ v3) :=
 (((h.setCell (p:=⟨B,0,none⟩) hB v0).setCell (p:=⟨B,1,none⟩) hB v1).setCell (p:=⟨B,2,none⟩) hB v2).setCell (p:=⟨B,3,none⟩) hB v3
theorem s9 {W:World} {B:Nat} {x0 x1 x2 x3:Value} {t:TypeId} (h:W.heap[B]? = some (.cells #[x0,x1,x2,x3] t (0,0))) (v0 v1 v2 v3:Value) (o:Obj) :
 (((((W.setCell ⟨B,0,none⟩ v0).setCell ⟨B,1,none⟩ v1).setCell ⟨B,2,none⟩ v2).setCell ⟨B,3,none⟩ v3).alloc o).heap[B]? = some (.cells #[v0,v1,v2,v3] t (0,0)) :=
 (Below.heap_alloc _ _ _ (lt_of_block (aU h v0 v1 v2 v3))).trans (aU h v0 v1 v2 v3)
theorem uM (s:ByteArray) (hm:s.size<=281474976710656) (w:World):Calls Tryz.prog 58 #[.string s] w fun e w'=>e=.returned (.string s)/\Below w.heap.size w w':=by
 go_enter Tryz.func58,Tryz.ntmps58
 go_wp2_with (go_at_call 118;refine (Tryz.stringslite_Clone s _ hm).mono ?_;rintro e w' ⟨rfl,hb⟩;have hb1:=aA hb;clear hb)
 go_ret;exact ⟨rfl,hb1.out⟩
abbrev tkV (k:Int) (s:ByteArray) (n p:Int):Value:=.agg #[.int .i64 k,.string s,.int .i64 n,.int .i64 p]
abbrev tkO (k:Int) (s:ByteArray) (n p:Int):Obj:=.cells #[.int .i64 k,.string s,.int .i64 n,.int .i64 p] 261
theorem aK {w:World} {k:Nat} {o:Obj} (h:w.heap[k]? = some o):k<w.heap.size:=(Array.getElem?_eq_some_iff.1 h).1
theorem iU (k:Int) (s:ByteArray) (hm:s.size<=281474976710656) (w:World):Calls Tryz.prog 241 #[.int .i64 k,.string s] w fun e w'=>e=.returned (tkV k s 0 0)/\Below w.heap.size w w':=by
 go_enter Tryz.func241,Tryz.ntmps241
 go_wp2_with fail
 refine (uM s hm _).mono ?_;rintro e w1 ⟨rfl,hb⟩;have hB:=(hb.block w.heap.size (by simp)).trans (heap_alloc_new w _);have B1:=aA (show Below w.heap.size w w1 from (bA0 w _).trans (hb.mono (by simp)));obtain ⟨⟨k0,k1,k2,k3⟩,g0,g1,g2,g3⟩:=aL hB;have c0:=aA hB;clear hb hB;go_wp2_with fail
 obtain ⟨⟨d0,d1,d2,d3⟩, -⟩:=aL (aU c0.out (.int .i64 k) (.string s) (.int .i64 0) (.int .i64 0));exact bodyPost_ret (v:=tkV k s 0 0) (by simp [results,Tryz.results241,go_sem,d0,d1,d2,d3]) rfl ⟨rfl,bY B1.out (Nat.le_refl _) _ _ _ _⟩
end
section
open Go.RowKit
def xB (l:List UInt8):Fst->Value
 | .bad e=>.tuple #[tkV 0 ⟨#[]⟩ 0 0,.int .i64 e]
 | .tok k n v=>.tuple #[tkV k ⟨(l.take n).toArray⟩ v 0,.int .i64 0]
theorem yO (s:ByteArray) (n:Nat):s.extract 0 n=⟨(s.data.toList.take n).toArray⟩:=dI (by rw [fD])
def iG (w:World):Prop :=
 (∃ tp p t f,w.heap[6]? = some (.cells #[.iface tp p] t f))/\(∃ tp p t f,w.heap[7]? = some (.cells #[.iface tp p] t f))
theorem iG.step {w w':World} (h:iG w) (hb:Below w.heap.size w w'):iG w':=by
 obtain ⟨⟨tp,p,t1,f1,h1⟩,⟨tq,q,t2,f2,h2⟩⟩:=h;exact ⟨⟨tp,p,t1,f1,(hb.block _ (aK h1)).trans h1⟩,⟨tq,q,t2,f2,(hb.block _ (aK h2)).trans h2⟩⟩
theorem Fb {w:World} {n:String} {g:Nat} {cs:Array Value} {t:TypeId} {f:Nat×Nat} (hg:Tryz.prog.globalNamed n=some g) (h:w.heap[g]? = some (.cells cs t f)):w.var? Tryz.prog n=some cs:=by
 unfold World.var?;rw [hg];simp [h]
theorem sQ (s:ByteArray) (v:Int) (hs:s.size<=281474976710656) (h:Lib.parseIntB 64 s.data.toList=.ok v) (w:World) :
 Calls Tryz.prog 242 #[.string s,.int .i64 10,.int .i64 64] w fun e w'=>e=.returned (.tuple #[.int .i64 v,.nilIface])/\Below w.heap.size w w':=by
 refine (Tryz.strconv_ParseInt_10_at64_ok s (by omega) v h w).mono ?_;rintro e w' ⟨rfl,rfl | ⟨t,rfl⟩⟩
 · exact ⟨rfl,Below.refl _ _⟩
 · exact ⟨rfl,Lib.bytesWorld_below _ _ _⟩
def Se (w:World) (e:Ending) (w':World):Prop:=(∃ n t p,e=.returned (.tuple #[.int .i64 n,.iface t p]))/\Below w.heap.size w w'
theorem nG (s:ByteArray) (hs:s.size<=281474976710656) (w:World) (hw:iG w) (h:∀ v,¬ Lib.parseIntB 64 s.data.toList=.ok v) :
 Calls Tryz.prog 242 #[.string s,.int .i64 10,.int .i64 64] w (Se w):=by
 obtain ⟨⟨tp,p,t1,f1,h1⟩,⟨tq,q,t2,f2,h2⟩⟩:=hw;rcases hp:Lib.parseIntB 64 s.data.toList with v | _ | _
 · exact absurd hp (h v)
 · refine (Any.strconv_ParseInt_10_at64_syntax_var Tryz.laysC174 s hs hp tp p w (Fb (by kernel_rfl) h1)).mono ?_
   rintro e w' ⟨N,rfl,_,_,hb⟩;exact ⟨⟨_,_,_,rfl⟩,hb⟩
 · refine (Any.strconv_ParseInt_10_at64_range_var Tryz.laysC174 s hs hp tq q w (Fb (by kernel_rfl) h2)).mono ?_
   rintro e w' ⟨N,rfl,_,_,hb⟩;exact ⟨⟨_,_,_,rfl⟩,hb⟩
theorem Je (s:ByteArray) (hm:s.size<=281474976710656) (w:World):Calls Tryz.prog 213 #[.string s] w fun e w'=>e=.returned (xB s.data.toList (jL s.data.toList))/\Below w.heap.size w w':=by
 obtain ⟨n,hn⟩:∃ n,bL aX s.data.toList=n:=⟨_,rfl⟩;have hle:n<=s.size:=by rw [<- hn];have:=tS aX s.data.toList;simpa using this
 have C:=aA (p:=∀ w,Calls Tryz.prog 239 #[.string s,.func (.func 240) #[] #[]] w fun e w'=>e=.returned (.int .i64 (n:Int))/\w=w') (fun w=>by have:=Jd s hm w;rwa [hn] at this);unfold jL;rw [hn];clear hn;by_cases h8:8<n
 · rw [if_pos h8]
   unfold xB;go_enter Tryz.func213,Tryz.ntmps213
   go_wp2_with (go_at_call 239;refine (C.out _).mono ?_;rintro e w' ⟨rfl,rfl⟩)
   refine bodyPost_ret (v:=.tuple #[tkV 0 ⟨#[]⟩ 0 0,.int .i64 5]) (by simp [results,Tryz.results213,go_sem]) rfl ⟨rfl,?_⟩;exact bA0 _ _
 · rw [if_neg h8]
   have T:=aA (fun w=>iU 1 (s.extract 0 n) (by rw [ByteArray.size_extract];omega) w);have F:=aA (yO s n);unfold xB;go_enter Tryz.func213,Tryz.ntmps213
   go_wp2_with (go_at_call 239;refine (C.out _).mono ?_;rintro e w' ⟨rfl,rfl⟩)
   refine (T.out _).mono ?_;rintro e w1 ⟨rfl,hb⟩;have hB:=(hb.block w.heap.size (by simp)).trans (heap_alloc_new w _);have B1:=aA (show Below w.heap.size w w1 from (bA0 w _).trans (hb.mono (by simp)));obtain ⟨⟨k0,k1,k2,k3⟩,g0,g1,g2,g3⟩:=aL hB;have c0:=aA hB;clear hb hB;go_wp2_with fail
   obtain ⟨⟨d0,d1,d2,d3⟩, -⟩:=aL (aU c0.out (.int .i64 1) (.string (s.extract 0 n)) (.int .i64 0) (.int .i64 0));refine bodyPost_ret (v:=.tuple #[tkV 1 (s.extract 0 n) 0 0,.int .i64 0]) (by simp [results,Tryz.results213,go_sem,d0,d1,d2,d3]) rfl ⟨?_,bY B1.out (Nat.le_refl _) _ _ _ _⟩;rw [F.out]
theorem FY (s:ByteArray) (h1:1<=s.size) (hm:s.size<=281474976710656) (w:World):Calls Tryz.prog 216 #[.string s] w fun e w'=>e=.returned (xB s.data.toList (iI s.data.toList))/\Below w.heap.size w w':=by
 obtain ⟨n,hn⟩:∃ n,kK s.data.toList=n:=⟨_,rfl⟩;have hle:n<=s.size:=by rw [<- hn];have:=BE s.data.toList;simpa using this
 have C:=aA (p:=∀ w,Calls Tryz.prog 243 #[.string s] w fun e w'=>e=.returned (.int .i64 (n:Int))/\w=w') (fun w=>by have:=I9 s h1 w;rwa [hn] at this);unfold iI;rw [hn];clear hn;by_cases h8:n=0
 · rw [if_pos h8]
   unfold xB;have q:((n:Int) == 0)=true:=by rw [h8];rfl
   clear h8;go_enter Tryz.func216,Tryz.ntmps216
   go_wp2_with (go_at_call 243;refine (C.out _).mono ?_;rintro e w' ⟨rfl,rfl⟩)
   refine bodyPost_ret (v:=.tuple #[tkV 0 ⟨#[]⟩ 0 0,.int .i64 2]) (by simp [results,Tryz.results216,go_sem]) rfl ⟨rfl,?_⟩;exact bA0 _ _
 · rw [if_neg h8]
   have q:((n:Int) == 0)=false:=by rw [beq_eq_false_iff_ne];omega
   clear h8;have T:=aA (fun w=>iU 3 (s.extract 0 n) (by rw [ByteArray.size_extract];omega) w);have F:=aA (yO s n);unfold xB;go_enter Tryz.func216,Tryz.ntmps216
   go_wp2_with (go_at_call 243;refine (C.out _).mono ?_;rintro e w' ⟨rfl,rfl⟩)
   refine (T.out _).mono ?_;rintro e w1 ⟨rfl,hb⟩;have hB:=(hb.block w.heap.size (by simp)).trans (heap_alloc_new w _);have B1:=aA (show Below w.heap.size w w1 from (bA0 w _).trans (hb.mono (by simp)));obtain ⟨⟨k0,k1,k2,k3⟩,g0,g1,g2,g3⟩:=aL hB;have c0:=aA hB;clear hb hB;go_wp2_with fail
   obtain ⟨⟨d0,d1,d2,d3⟩, -⟩:=aL (aU c0.out (.int .i64 3) (.string (s.extract 0 n)) (.int .i64 0) (.int .i64 0));refine bodyPost_ret (v:=.tuple #[tkV 3 (s.extract 0 n) 0 0,.int .i64 0]) (by simp [results,Tryz.results216,go_sem,d0,d1,d2,d3]) rfl ⟨?_,bY B1.out (Nat.le_refl _) _ _ _ _⟩;rw [F.out]
end
end
end Go.Proofs.YtgfkjkokmcejbaaGreatDoor
