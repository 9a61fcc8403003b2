import Derived.Shelf.Strings.OnBuilder
import Derived.Shelf.Small.Bits
import Derived.Shelf.Small.Strs
import Derived.Shelf.Small.Wraps
import Derived.Shelf.Strings.Cut
import Derived.Shelf.Strings.Prefix
import Derived.Shelf.Strings.Split
import Derived.Shelf.Slices.Turned
import Derived.Shelf.SlGeneric
import Derived.Shelf.SlicesQ.IndexFunc
import Derived.Shelf.SlSortCmp.SmallK
import Derived.Lib.SplitLaws
import Derived.Test.YtgnfknjopafngabGreatDoorKnb
namespace Go.Proofs
open Go.Shelf
def Tryz.lays156_ren:Go.Shelf.Ren:=⟨fun|156=>73|165=>124|166=>125|169=>126|240=>171|241=>172|276=>231|277=>232|n=>n,fun|31=>41|9=>9|3=>3|4=>4|0=>0|20=>20|72=>207|76=>208|70=>205|37=>102|75=>53|127=>254|164=>147|5=>5|80=>90|n=>n,fun|n=>n⟩
theorem Tryz.lays156:Go.Proofs.Lays.n156 Tryz.prog Tryz.lays156_ren:={
 mixed:=by kernel_rfl
 f156:=Tryz.func73.trans (congrArg some (by kernel_rfl))
 f165:=Tryz.func124.trans (congrArg some (by kernel_rfl))
 f166:=Tryz.func125.trans (congrArg some (by kernel_rfl))
 f169:=Tryz.func126.trans (congrArg some (by kernel_rfl))
 f240:=Tryz.func171.trans (congrArg some (by kernel_rfl))
 f241:=Tryz.func172.trans (congrArg some (by kernel_rfl))
 f276:=Tryz.func231.trans (congrArg some (by kernel_rfl))
 f277:=Tryz.func232.trans (congrArg some (by kernel_rfl))
 t0:=Tryz.underlying0
 a0:=Tryz.isAgg0
 z0:=Tryz.sizeOf0
 v0:=Tryz.zeroValue0
 t3:=Tryz.underlying3
 a3:=Tryz.isAgg3
 z3:=Tryz.sizeOf3
 v3:=Tryz.zeroValue3
 t4:=Tryz.underlying4
 a4:=Tryz.isAgg4
 z4:=Tryz.sizeOf4
 v4:=Tryz.zeroValue4
 t9:=Tryz.underlying9
 a9:=Tryz.isAgg9
 z9:=Tryz.sizeOf9
 v9:=Tryz.zeroValue9
 t20:=Tryz.underlying20
 a20:=Tryz.isAgg20
 z20:=Tryz.sizeOf20
 v20:=Tryz.zeroValue20
 t31:=Tryz.underlying41
 a31:=Tryz.isAgg41
 z31:=Tryz.sizeOf41
 v31:=Tryz.zeroValue41
 t37:=Tryz.underlying102
 a37:=Tryz.isAgg102
 z37:=Tryz.sizeOf102
 v37:=Tryz.zeroValue102
 t70:=Tryz.underlying205
 a70:=Tryz.isAgg205
 z70:=Tryz.sizeOf205
 v70:=Tryz.zeroValue205
 t72:=Tryz.underlying207
 a72:=Tryz.isAgg207
 z72:=Tryz.sizeOf207
 v72:=Tryz.zeroValue207
 t75:=Tryz.underlying53
 a75:=Tryz.isAgg53
 z75:=Tryz.sizeOf53
 v75:=Tryz.zeroValue53
 t76:=Tryz.underlying208
 a76:=Tryz.isAgg208
 z76:=Tryz.sizeOf208
 v76:=Tryz.zeroValue208
 t127:=Tryz.underlying254
 a127:=Tryz.isAgg254
 z127:=Tryz.sizeOf254
 v127:=Tryz.zeroValue254
 t164:=Tryz.underlying147
 a164:=Tryz.isAgg147
 z164:=Tryz.sizeOf147
 v164:=Tryz.zeroValue147 }
theorem Tryz.Builder_Extra_156:Builder.Extra Tryz.prog Tryz.lays156_ren:={
 sizeBuilder:=by kernel_rfl
 liesBuilder:=by kernel_rfl
 t5:=Tryz.underlying5
 a5:=Tryz.isAgg5
 z5:=Tryz.sizeOf5
 v5:=Tryz.zeroValue5
 infoByte:=by kernel_rfl
 cellsByte:=by kernel_rfl
 sizeByte:=by kernel_rfl
 neB5:=by decide }
open Go.RowKit in
theorem Tryz.strings_Join_none(a:Option Addr)(c:Nat)(sep:ByteArray)(w:World):
 Calls Tryz.prog 73 #[.slice a 0 c,.string sep] w fun e w'=>e=.returned (.string ⟨#[]⟩)/\w'=w:=Any.strings_Join_none Tryz.lays156 Tryz.Builder_Extra_156 a c sep w
open Go.RowKit in
theorem Tryz.strings_Join(bk o c:Nat)(xs:List ByteArray)(sep:ByteArray)(w:World)(hcells:∀ (j:Nat) x,xs[j]? = some x->w.cell? ⟨bk,o+j,none⟩=some (.string x))(hbk:bk<w.heap.size)(hN:xs.length<=140737488355328)(hcap:xs.length<=c)(hlen:(Lib.join (xs.map (·.data.toList)) sep.data.toList).length<=140737488355328):
 Calls Tryz.prog 73 #[.slice (some ⟨bk,o,none⟩) xs.length c,.string sep] w fun e w'=>e=.returned (.string ⟨(Lib.join (xs.map (·.data.toList)) sep.data.toList).toArray⟩)/\Below w.heap.size w w':=Any.strings_Join Tryz.lays156 Tryz.Builder_Extra_156 bk o c xs sep w hcells hbk hN hcap hlen
def Tryz.lays125_ren:Go.Shelf.Ren:=⟨fun|125=>170|128=>229|129=>230|n=>n,fun|46=>264|3=>3|51=>322|53=>324|4=>4|5=>5|9=>9|n=>n,fun|n=>n⟩
theorem Tryz.lays125:Go.Proofs.Lays.n125 Tryz.prog Tryz.lays125_ren:={
 mixed:=by kernel_rfl
 f125:=Tryz.func170.trans (congrArg some (by kernel_rfl))
 f128:=Tryz.func229.trans (congrArg some (by kernel_rfl))
 f129:=Tryz.func230.trans (congrArg some (by kernel_rfl))
 t3:=Tryz.underlying3
 a3:=Tryz.isAgg3
 z3:=Tryz.sizeOf3
 v3:=Tryz.zeroValue3
 t4:=Tryz.underlying4
 a4:=Tryz.isAgg4
 z4:=Tryz.sizeOf4
 v4:=Tryz.zeroValue4
 t5:=Tryz.underlying5
 a5:=Tryz.isAgg5
 z5:=Tryz.sizeOf5
 v5:=Tryz.zeroValue5
 t9:=Tryz.underlying9
 a9:=Tryz.isAgg9
 z9:=Tryz.sizeOf9
 v9:=Tryz.zeroValue9
 t46:=Tryz.underlying264
 a46:=Tryz.isAgg264
 z46:=Tryz.sizeOf264
 v46:=Tryz.zeroValue264
 t51:=Tryz.underlying322
 a51:=Tryz.isAgg322
 z51:=Tryz.sizeOf322
 v51:=Tryz.zeroValue322
 t53:=Tryz.underlying324
 a53:=Tryz.isAgg324
 z53:=Tryz.sizeOf324
 v53:=Tryz.zeroValue324 }
theorem Tryz.bits_Len(x:Int)(w:World)(h0:0<=x)(h1:x<=18446744073709551615):
 Calls Tryz.prog 170 #[.int .u64 x] w fun e w'=>e=.returned (.int .i64 (Lib.bitLen x.toNat))/\w'=w:=Any.bits_Len Tryz.lays125 x w h0 h1
def Tryz.lays106_ren:Go.Shelf.Ren:=⟨fun|106=>106|213=>154|265=>205|n=>n,fun|9=>9|3=>3|n=>n,fun|n=>n⟩
theorem Tryz.lays106:Go.Proofs.Lays.n106 Tryz.prog Tryz.lays106_ren:={
 mixed:=by kernel_rfl
 f106:=Tryz.func106.trans (congrArg some (by kernel_rfl))
 f213:=Tryz.func154.trans (congrArg some (by kernel_rfl))
 f265:=Tryz.func205.trans (congrArg some (by kernel_rfl))
 t3:=Tryz.underlying3
 a3:=Tryz.isAgg3
 z3:=Tryz.sizeOf3
 v3:=Tryz.zeroValue3
 t9:=Tryz.underlying9
 a9:=Tryz.isAgg9
 z9:=Tryz.sizeOf9
 v9:=Tryz.zeroValue9 }
open Go.RowKit in
theorem Tryz.strings_Compare(a b:ByteArray)(w:World):
 Calls Tryz.prog 106 #[.string a,.string b] w fun e w'=>e=.returned (.int .i64 (Lib.compareBytes a.data.toList b.data.toList))/\w'=w:=Any.strings_Compare Tryz.lays106 a b w
def Tryz.lays103_ren:Go.Shelf.Ren:=⟨fun|103=>159|210=>209|206=>256|n=>n,fun|9=>9|4=>4|24=>68|3=>3|n=>n,fun|n=>n⟩
theorem Tryz.lays103:Go.Proofs.Lays.n103 Tryz.prog Tryz.lays103_ren:={
 mixed:=by kernel_rfl
 f103:=Tryz.func159.trans (congrArg some (by kernel_rfl))
 f206:=Tryz.func256.trans (congrArg some (by kernel_rfl))
 f210:=Tryz.func209.trans (congrArg some (by kernel_rfl))
 t3:=Tryz.underlying3
 a3:=Tryz.isAgg3
 z3:=Tryz.sizeOf3
 v3:=Tryz.zeroValue3
 t4:=Tryz.underlying4
 a4:=Tryz.isAgg4
 z4:=Tryz.sizeOf4
 v4:=Tryz.zeroValue4
 t9:=Tryz.underlying9
 a9:=Tryz.isAgg9
 z9:=Tryz.sizeOf9
 v9:=Tryz.zeroValue9
 t24:=Tryz.underlying68
 a24:=Tryz.isAgg68
 z24:=Tryz.sizeOf68
 v24:=Tryz.zeroValue68 }
open Go.RowKit in
theorem Tryz.strings_CutPrefix(s p:ByteArray)(w:World):
 Calls Tryz.prog 159 #[.string s,.string p] w fun e w'=>e=.returned (.tuple #[.string ⟨(Lib.trimPrefix s.data.toList p.data.toList).toArray⟩,.bool (Lib.hasPrefix s.data.toList p.data.toList)])/\w'=w:=Any.strings_CutPrefix Tryz.lays103 s p w
def Tryz.lays104_ren:Go.Shelf.Ren:=⟨fun|104=>215|211=>257|207=>158|n=>n,fun|9=>9|4=>4|24=>68|3=>3|n=>n,fun|n=>n⟩
theorem Tryz.lays104:Go.Proofs.Lays.n104 Tryz.prog Tryz.lays104_ren:={
 mixed:=by kernel_rfl
 f104:=Tryz.func215.trans (congrArg some (by kernel_rfl))
 f207:=Tryz.func158.trans (congrArg some (by kernel_rfl))
 f211:=Tryz.func257.trans (congrArg some (by kernel_rfl))
 t3:=Tryz.underlying3
 a3:=Tryz.isAgg3
 z3:=Tryz.sizeOf3
 v3:=Tryz.zeroValue3
 t4:=Tryz.underlying4
 a4:=Tryz.isAgg4
 z4:=Tryz.sizeOf4
 v4:=Tryz.zeroValue4
 t9:=Tryz.underlying9
 a9:=Tryz.isAgg9
 z9:=Tryz.sizeOf9
 v9:=Tryz.zeroValue9
 t24:=Tryz.underlying68
 a24:=Tryz.isAgg68
 z24:=Tryz.sizeOf68
 v24:=Tryz.zeroValue68 }
open Go.RowKit in
theorem Tryz.strings_CutSuffix(s p:ByteArray)(w:World)(hs:s.size<=9223372036854775807):
 Calls Tryz.prog 215 #[.string s,.string p] w fun e w'=>e=.returned (.tuple #[.string ⟨(Lib.trimSuffix s.data.toList p.data.toList).toArray⟩,.bool (Lib.hasSuffix s.data.toList p.data.toList)])/\w'=w:=Any.strings_CutSuffix Tryz.lays104 s p w hs
def Tryz.lays145_ren:Go.Shelf.Ren:=⟨fun|145=>160|220=>210|219=>208|217=>252|225=>253|224=>254|267=>255|266=>278|314=>279|n=>n,fun|9=>9|4=>4|59=>257|3=>3|5=>5|46=>264|146=>350|51=>322|n=>n,fun|1=>1|n=>n⟩
theorem Tryz.lays145:Go.Proofs.Lays.n145 Tryz.prog Tryz.lays145_ren:={
 mixed:=by kernel_rfl
 f145:=Tryz.func160.trans (congrArg some (by kernel_rfl))
 f217:=Tryz.func252.trans (congrArg some (by kernel_rfl))
 f219:=Tryz.func208.trans (congrArg some (by kernel_rfl))
 f220:=Tryz.func210.trans (congrArg some (by kernel_rfl))
 f224:=Tryz.func254.trans (congrArg some (by kernel_rfl))
 f225:=Tryz.func253.trans (congrArg some (by kernel_rfl))
 f266:=Tryz.func278.trans (congrArg some (by kernel_rfl))
 f267:=Tryz.func255.trans (congrArg some (by kernel_rfl))
 f314:=Tryz.func279.trans (congrArg some (by kernel_rfl))
 t3:=Tryz.underlying3
 a3:=Tryz.isAgg3
 z3:=Tryz.sizeOf3
 v3:=Tryz.zeroValue3
 t4:=Tryz.underlying4
 a4:=Tryz.isAgg4
 z4:=Tryz.sizeOf4
 v4:=Tryz.zeroValue4
 t5:=Tryz.underlying5
 a5:=Tryz.isAgg5
 z5:=Tryz.sizeOf5
 v5:=Tryz.zeroValue5
 t9:=Tryz.underlying9
 a9:=Tryz.isAgg9
 z9:=Tryz.sizeOf9
 v9:=Tryz.zeroValue9
 t46:=Tryz.underlying264
 a46:=Tryz.isAgg264
 z46:=Tryz.sizeOf264
 v46:=Tryz.zeroValue264
 t51:=Tryz.underlying322
 a51:=Tryz.isAgg322
 z51:=Tryz.sizeOf322
 v51:=Tryz.zeroValue322
 t59:=Tryz.underlying257
 a59:=Tryz.isAgg257
 z59:=Tryz.sizeOf257
 v59:=Tryz.zeroValue257
 t146:=Tryz.underlying350
 a146:=Tryz.isAgg350
 z146:=Tryz.sizeOf350
 v146:=Tryz.zeroValue350
 g1:=by kernel_rfl }
open Go.RowKit Go.Lib in
theorem Tryz.strings_Cut(s sep:ByteArray)(m:Int)(w:World)(hs:s.size<4294967281)(hm:w.cell? ⟨1,0,none⟩=some (.int .i64 m)):
 Calls Tryz.prog 160 #[.string s,.string sep] w fun e w'=>e=.returned (.tuple #[.string ⟨(Lib.cut s.data.toList sep.data.toList).1.toArray⟩,.string ⟨(Lib.cut s.data.toList sep.data.toList).2.1.toArray⟩,.bool (Lib.cut s.data.toList sep.data.toList).2.2])/\∃ n,w'=w.drewN n:=Any.strings_Cut Tryz.lays145 s sep m w hs hm
def Tryz.lays99_ren:Go.Shelf.Ren:=⟨fun|99=>259|206=>256|n=>n,fun|9=>9|4=>4|3=>3|n=>n,fun|n=>n⟩
theorem Tryz.lays99:Go.Proofs.Lays.n99 Tryz.prog Tryz.lays99_ren:={
 mixed:=by kernel_rfl
 f99:=Tryz.func259.trans (congrArg some (by kernel_rfl))
 f206:=Tryz.func256.trans (congrArg some (by kernel_rfl))
 t3:=Tryz.underlying3
 a3:=Tryz.isAgg3
 z3:=Tryz.sizeOf3
 v3:=Tryz.zeroValue3
 t4:=Tryz.underlying4
 a4:=Tryz.isAgg4
 z4:=Tryz.sizeOf4
 v4:=Tryz.zeroValue4
 t9:=Tryz.underlying9
 a9:=Tryz.isAgg9
 z9:=Tryz.sizeOf9
 v9:=Tryz.zeroValue9 }
open Go.RowKit Go.Lib in
theorem Tryz.strings_HasPrefix(s p:ByteArray)(w:World):
 Calls Tryz.prog 259 #[.string s,.string p] w fun e w'=>e=.returned (.bool (Lib.hasPrefix s.data.toList p.data.toList))/\w'=w:=Any.strings_HasPrefix Tryz.lays99 s p w
def Tryz.lays102_ren:Go.Shelf.Ren:=⟨fun|102=>65|209=>109|207=>158|n=>n,fun|9=>9|4=>4|3=>3|n=>n,fun|n=>n⟩
theorem Tryz.lays102:Go.Proofs.Lays.n102 Tryz.prog Tryz.lays102_ren:={
 mixed:=by kernel_rfl
 f102:=Tryz.func65.trans (congrArg some (by kernel_rfl))
 f207:=Tryz.func158.trans (congrArg some (by kernel_rfl))
 f209:=Tryz.func109.trans (congrArg some (by kernel_rfl))
 t3:=Tryz.underlying3
 a3:=Tryz.isAgg3
 z3:=Tryz.sizeOf3
 v3:=Tryz.zeroValue3
 t4:=Tryz.underlying4
 a4:=Tryz.isAgg4
 z4:=Tryz.sizeOf4
 v4:=Tryz.zeroValue4
 t9:=Tryz.underlying9
 a9:=Tryz.isAgg9
 z9:=Tryz.sizeOf9
 v9:=Tryz.zeroValue9 }
open Go.RowKit Go.Lib in
theorem Tryz.strings_TrimSuffix(s p:ByteArray)(w:World)(hs:s.size<=9223372036854775807):
 Calls Tryz.prog 65 #[.string s,.string p] w fun e w'=>e=.returned (.string ⟨(Lib.trimSuffix s.data.toList p.data.toList).toArray⟩)/\w'=w:=Any.strings_TrimSuffix Tryz.lays102 s p w hs
def Tryz.lays146_ren:Go.Shelf.Ren:=⟨fun|146=>64|221=>108|268=>155|138=>156|143=>157|195=>206|197=>203|218=>207|219=>208|260=>250|217=>252|225=>253|224=>254|267=>255|266=>278|314=>279|n=>n,fun|9=>9|31=>41|3=>3|4=>4|0=>0|105=>306|21=>21|5=>5|46=>264|119=>345|139=>348|138=>347|146=>350|51=>322|n=>n,fun|1=>1|3=>2|4=>3|n=>n⟩
theorem Tryz.lays146:Go.Proofs.Lays.n146 Tryz.prog Tryz.lays146_ren:={
 mixed:=by kernel_rfl
 f138:=Tryz.func156.trans (congrArg some (by kernel_rfl))
 f143:=Tryz.func157.trans (congrArg some (by kernel_rfl))
 f146:=Tryz.func64.trans (congrArg some (by kernel_rfl))
 f195:=Tryz.func206.trans (congrArg some (by kernel_rfl))
 f197:=Tryz.func203.trans (congrArg some (by kernel_rfl))
 f217:=Tryz.func252.trans (congrArg some (by kernel_rfl))
 f218:=Tryz.func207.trans (congrArg some (by kernel_rfl))
 f219:=Tryz.func208.trans (congrArg some (by kernel_rfl))
 f221:=Tryz.func108.trans (congrArg some (by kernel_rfl))
 f224:=Tryz.func254.trans (congrArg some (by kernel_rfl))
 f225:=Tryz.func253.trans (congrArg some (by kernel_rfl))
 f260:=Tryz.func250.trans (congrArg some (by kernel_rfl))
 f266:=Tryz.func278.trans (congrArg some (by kernel_rfl))
 f267:=Tryz.func255.trans (congrArg some (by kernel_rfl))
 f268:=Tryz.func155.trans (congrArg some (by kernel_rfl))
 f314:=Tryz.func279.trans (congrArg some (by kernel_rfl))
 t0:=Tryz.underlying0
 a0:=Tryz.isAgg0
 z0:=Tryz.sizeOf0
 v0:=Tryz.zeroValue0
 t3:=Tryz.underlying3
 a3:=Tryz.isAgg3
 z3:=Tryz.sizeOf3
 v3:=Tryz.zeroValue3
 t4:=Tryz.underlying4
 a4:=Tryz.isAgg4
 z4:=Tryz.sizeOf4
 v4:=Tryz.zeroValue4
 t5:=Tryz.underlying5
 a5:=Tryz.isAgg5
 z5:=Tryz.sizeOf5
 v5:=Tryz.zeroValue5
 t9:=Tryz.underlying9
 a9:=Tryz.isAgg9
 z9:=Tryz.sizeOf9
 v9:=Tryz.zeroValue9
 t21:=Tryz.underlying21
 a21:=Tryz.isAgg21
 z21:=Tryz.sizeOf21
 v21:=Tryz.zeroValue21
 t31:=Tryz.underlying41
 a31:=Tryz.isAgg41
 z31:=Tryz.sizeOf41
 v31:=Tryz.zeroValue41
 t46:=Tryz.underlying264
 a46:=Tryz.isAgg264
 z46:=Tryz.sizeOf264
 v46:=Tryz.zeroValue264
 t51:=Tryz.underlying322
 a51:=Tryz.isAgg322
 z51:=Tryz.sizeOf322
 v51:=Tryz.zeroValue322
 t105:=Tryz.underlying306
 a105:=Tryz.isAgg306
 z105:=Tryz.sizeOf306
 v105:=Tryz.zeroValue306
 t119:=Tryz.underlying345
 a119:=Tryz.isAgg345
 z119:=Tryz.sizeOf345
 t138:=Tryz.underlying347
 a138:=Tryz.isAgg347
 z138:=Tryz.sizeOf347
 v138:=Tryz.zeroValue347
 t139:=Tryz.underlying348
 a139:=Tryz.isAgg348
 z139:=Tryz.sizeOf348
 v139:=Tryz.zeroValue348
 t146:=Tryz.underlying350
 a146:=Tryz.isAgg350
 z146:=Tryz.sizeOf350
 v146:=Tryz.zeroValue350
 g1:=by kernel_rfl
 g3:=by kernel_rfl
 g4:=by kernel_rfl }
open Go.RowKit Go.Lib in
theorem Tryz.strings_Split(s sep:ByteArray)(m:Int)(w:World)(hs:s.size<4294967281)(hm:w.cell? ⟨1,0,none⟩=some (.int .i64 m))(h1:1<=sep.size):
 Calls Tryz.prog 64 #[.string s,.string sep] w fun e w'=>
  e=.returned (.slice (some ⟨w.heap.size,0,none⟩) (Lib.countB s sep+1) (Lib.countB s sep+1))/\w'=w.alloc (.cells ((Lib.splitB sep 0 (Lib.countB s sep) s).map Value.string).toArray 9):=Any.strings_Split Tryz.lays146 (by kernel_rfl) s sep m w hs hm h1
def Tryz.lays110_ren:Go.Shelf.Ren:=⟨fun|110=>218|109=>258|n=>n,fun|31=>41|9=>9|4=>4|3=>3|0=>0|n=>n,fun|n=>n⟩
theorem Tryz.lays110:Go.Proofs.Lays.n110 Tryz.prog Tryz.lays110_ren:={
 mixed:=by kernel_rfl
 f109:=Tryz.func258.trans (congrArg some (by kernel_rfl))
 f110:=Tryz.func218.trans (congrArg some (by kernel_rfl))
 t0:=Tryz.underlying0
 a0:=Tryz.isAgg0
 z0:=Tryz.sizeOf0
 v0:=Tryz.zeroValue0
 t3:=Tryz.underlying3
 a3:=Tryz.isAgg3
 z3:=Tryz.sizeOf3
 v3:=Tryz.zeroValue3
 t4:=Tryz.underlying4
 a4:=Tryz.isAgg4
 z4:=Tryz.sizeOf4
 v4:=Tryz.zeroValue4
 t9:=Tryz.underlying9
 a9:=Tryz.isAgg9
 z9:=Tryz.sizeOf9
 v9:=Tryz.zeroValue9
 t31:=Tryz.underlying41
 a31:=Tryz.isAgg41
 z31:=Tryz.sizeOf41
 v31:=Tryz.zeroValue41 }
open Go.Lib in
theorem Tryz.slices_Contains_string(b off n c:Nat)(zs:List ByteArray)(x:ByteArray)(w:World)(hz:n<=zs.length)(hbig:n<=9223372036854775807)(hc:∀ j,j<zs.length->w.cell? ⟨b,off+j,none⟩=some (.string (zs.getD j ByteArray.empty))):
 Calls Tryz.prog 218 #[.slice (some ⟨b,off,none⟩) n c,.string x] w fun e w'=>e=.returned (.bool (Lib.containsS (zs.take n) x))/\w'=w:=Any.slices_Contains_string Tryz.lays110 b off n c zs x w hz hbig hc
open Go.Lib in
theorem Tryz.slices_Contains_string_empty(a:Option Addr)(c:Nat)(x:ByteArray)(w:World):
 Calls Tryz.prog 218 #[.slice a 0 c,.string x] w fun e w'=>e=.returned (.bool false)/\w'=w:=Any.slices_Contains_string_empty Tryz.lays110 a c x w
def Tryz.layContains_ren:Go.Shelf.Ren:=⟨fun|8=>164|6=>217|n=>n,fun|22=>85|23=>144|25=>260|4=>4|3=>3|0=>0|n=>n,fun|n=>n⟩
theorem Tryz.layContains:Go.Proofs.SlLaysH0.n8 Tryz.prog Tryz.layContains_ren:={
 mixed:=by kernel_rfl
 f6:=⟨Tryz.f217.name,by decide,Tryz.func217.trans (congrArg some (by kernel_rfl))⟩
 f8:=⟨Tryz.f164.name,by decide,Tryz.func164.trans (congrArg some (by kernel_rfl))⟩
 t0:=Tryz.underlying0
 a0:=Tryz.isAgg0
 z0:=Tryz.sizeOf0
 v0:=Tryz.zeroValue0
 t3:=Tryz.underlying3
 a3:=Tryz.isAgg3
 z3:=Tryz.sizeOf3
 v3:=Tryz.zeroValue3
 t4:=Tryz.underlying4
 a4:=Tryz.isAgg4
 z4:=Tryz.sizeOf4
 v4:=Tryz.zeroValue4
 t22:=Tryz.underlying85
 a22:=Tryz.isAgg85
 z22:=Tryz.sizeOf85
 v22:=Tryz.zeroValue85
 t25:=Tryz.underlying260
 a25:=Tryz.isAgg260
 z25:=Tryz.sizeOf260
 v25:=Tryz.zeroValue260 }
def Tryz.laySort_ren:Go.Shelf.Ren:=⟨fun|6=>122|15=>170|14=>169|28=>229|29=>230|20=>221|21=>222|22=>223|23=>224|24=>225|25=>226|26=>227|27=>228|46=>260|47=>261|48=>262|49=>263|50=>264|57=>280|n=>n,fun|22=>85|24=>144|25=>204|3=>3|39=>264|0=>0|53=>322|55=>324|4=>4|46=>316|45=>315|50=>285|5=>5|9=>9|66=>334|70=>338|76=>352|77=>230|n=>n,fun|n=>n⟩
theorem Tryz.laySort:Go.Proofs.SlLaysF0.n6 Tryz.prog Tryz.laySort_ren:={
 mixed:=by kernel_rfl
 f6:=⟨Tryz.f122.name,by decide,Tryz.func122.trans (congrArg some (by kernel_rfl))⟩
 f14:=⟨Tryz.f169.name,by decide,Tryz.func169.trans (congrArg some (by kernel_rfl))⟩
 f15:=Tryz.func170.trans (congrArg some (by kernel_rfl))
 f20:=⟨Tryz.f221.name,by decide,Tryz.func221.trans (congrArg some (by kernel_rfl))⟩
 f21:=⟨Tryz.f222.name,by decide,Tryz.func222.trans (congrArg some (by kernel_rfl))⟩
 f22:=⟨Tryz.f223.name,by decide,Tryz.func223.trans (congrArg some (by kernel_rfl))⟩
 f23:=⟨Tryz.f224.name,by decide,Tryz.func224.trans (congrArg some (by kernel_rfl))⟩
 f24:=⟨Tryz.f225.name,by decide,Tryz.func225.trans (congrArg some (by kernel_rfl))⟩
 f25:=⟨Tryz.f226.name,by decide,Tryz.func226.trans (congrArg some (by kernel_rfl))⟩
 f26:=⟨Tryz.f227.name,by decide,Tryz.func227.trans (congrArg some (by kernel_rfl))⟩
 f27:=⟨Tryz.f228.name,by decide,Tryz.func228.trans (congrArg some (by kernel_rfl))⟩
 f28:=Tryz.func229.trans (congrArg some (by kernel_rfl))
 f29:=Tryz.func230.trans (congrArg some (by kernel_rfl))
 f46:=⟨Tryz.f260.name,by decide,Tryz.func260.trans (congrArg some (by kernel_rfl))⟩
 f47:=Tryz.func261.trans (congrArg some (by kernel_rfl))
 f48:=Tryz.func262.trans (congrArg some (by kernel_rfl))
 f49:=⟨Tryz.f263.name,by decide,Tryz.func263.trans (congrArg some (by kernel_rfl))⟩
 f50:=⟨Tryz.f264.name,by decide,Tryz.func264.trans (congrArg some (by kernel_rfl))⟩
 f57:=⟨Tryz.f280.name,by decide,Tryz.func280.trans (congrArg some (by kernel_rfl))⟩
 t0:=Tryz.underlying0
 a0:=Tryz.isAgg0
 z0:=Tryz.sizeOf0
 v0:=Tryz.zeroValue0
 t3:=Tryz.underlying3
 a3:=Tryz.isAgg3
 z3:=Tryz.sizeOf3
 v3:=Tryz.zeroValue3
 t4:=Tryz.underlying4
 a4:=Tryz.isAgg4
 z4:=Tryz.sizeOf4
 v4:=Tryz.zeroValue4
 t5:=Tryz.underlying5
 a5:=Tryz.isAgg5
 z5:=Tryz.sizeOf5
 v5:=Tryz.zeroValue5
 t9:=Tryz.underlying9
 a9:=Tryz.isAgg9
 z9:=Tryz.sizeOf9
 v9:=Tryz.zeroValue9
 t22:=Tryz.underlying85
 a22:=Tryz.isAgg85
 z22:=Tryz.sizeOf85
 v22:=Tryz.zeroValue85
 t25:=Tryz.underlying204
 a25:=Tryz.isAgg204
 z25:=Tryz.sizeOf204
 v25:=Tryz.zeroValue204
 t39:=Tryz.underlying264
 a39:=Tryz.isAgg264
 z39:=Tryz.sizeOf264
 v39:=Tryz.zeroValue264
 t45:=Tryz.underlying315
 a45:=Tryz.isAgg315
 z45:=Tryz.sizeOf315
 v45:=Tryz.zeroValue315
 t46:=Tryz.underlying316
 a46:=Tryz.isAgg316
 z46:=Tryz.sizeOf316
 v46:=Tryz.zeroValue316
 t50:=Tryz.underlying285
 a50:=Tryz.isAgg285
 z50:=Tryz.sizeOf285
 v50:=Tryz.zeroValue285
 t53:=Tryz.underlying322
 a53:=Tryz.isAgg322
 z53:=Tryz.sizeOf322
 v53:=Tryz.zeroValue322
 t55:=Tryz.underlying324
 a55:=Tryz.isAgg324
 z55:=Tryz.sizeOf324
 v55:=Tryz.zeroValue324
 t66:=Tryz.underlying334
 a66:=Tryz.isAgg334
 z66:=Tryz.sizeOf334
 v66:=Tryz.zeroValue334
 t70:=Tryz.underlying338
 a70:=Tryz.isAgg338
 z70:=Tryz.sizeOf338
 v70:=Tryz.zeroValue338
 t76:=Tryz.underlying352
 a76:=Tryz.isAgg352
 z76:=Tryz.sizeOf352
 v76:=Tryz.zeroValue352
 t77:=Tryz.underlying230
 a77:=Tryz.isAgg230
 z77:=Tryz.sizeOf230
 v77:=Tryz.zeroValue230 }
end Go.Proofs
namespace Go.Proofs.YtgnfknjopafngabGreatDoor
open Go
theorem cutA_index{sep:List UInt8}(hs:sep≠[]):∀ (rest:List UInt8) (n:Nat) (cur:List UInt8),rest.length<=n->
 M.cutA sep n cur rest=if Lib.index rest sep = -1 then [cur++rest] else (cur++rest.take (Lib.index rest sep).toNat) :: M.cutS (rest.drop ((Lib.index rest sep).toNat+sep.length)) sep
 | [],n,cur,_=>by
  have h0:0<sep.length:=List.length_pos_iff.2 hs
  rw[M.cutA_stop _ _ _ (by simpa using h0)]
  have:Lib.index [] sep = -1:=by unfold Lib.index;rw[if_neg];simpa using hs
  rw[if_pos this]
 | b :: l,n,cur,hn=>by
  have h0:0<sep.length:=List.length_pos_iff.2 hs
  by_cases hp:sep.isPrefixOf (b :: l)=true
  ·have e:Lib.index (b :: l) sep=0:=by unfold Lib.index;rw[if_pos hp]
   have hpre:=List.isPrefixOf_iff_prefix.1 hp
   have hlen:=hpre.length_le
   rw[e,if_neg (by decide)]
   have ht:(b :: l).take sep.length=sep:=(List.prefix_iff_eq_take.1 hpre).symm
   rw[M.cutA_hit h0 n _ cur (b :: l) hn ler (by omega) ht]
   simp[M.cutS]
  ·have ei:Lib.index (b :: l) sep=if Lib.index l sep == -1 then -1 else Lib.index l sep+1:=by rw[Lib.index,if_neg hp]
   have hge:=Lib.index_ge l sep
   have key:M.cutA sep n cur (b :: l)=M.cutA sep l.length (cur++[b]) l:=by
    by_cases hlt:(b :: l).length<sep.length
    ·rw[M.cutA_stop _ _ _ hlt,M.cutA_stop _ _ _ (by simp at hlt;omega)];simp
    ·have ht:¬ (b :: l).take sep.length=sep:=fun e=>hp (List.isPrefixOf_iff_prefix.2 (by rw[List.prefix_iff_eq_take];exact e.symm))
     rw[M.cutA_miss h0 n l.length cur (b :: l) hn (by simp) hlt ht]
     rfl
   rw[key,cutA_index hs l l.length (cur++[b]) ler,ei]
   by_cases h1:Lib.index l sep = -1
   ·rw[if_pos h1,if_pos (by rw[h1];rfl)];simp
   ·have hb:¬ (Lib.index l sep == -1)=true:=by simpa using h1
    rw[if_neg h1,if_neg hb,if_neg (by omega)]
    have e2:(Lib.index l sep+1).toNat=(Lib.index l sep).toNat+1:=by omega
    rw[e2]
    simp[show (Lib.index l sep).toNat+1+sep.length=(Lib.index l sep).toNat+sep.length+1 by omega]
theorem cutS_index{sep:List UInt8}(hs:sep≠[])(s:List UInt8):
 M.cutS s sep=if Lib.index s sep = -1 then [s] else s.take (Lib.index s sep).toNat :: M.cutS (s.drop ((Lib.index s sep).toNat+sep.length)) sep:=by
 have:=cutA_index hs s s.length [] ler
 rw[List.nil_append,List.nil_append] at this
 exact this
theorem splitK_cut{sep:List UInt8}(hs:sep≠[]):∀ (k:Nat) (s:List UInt8),Lib.count s sep=k->Lib.splitK sep 0 k s=M.cutS s sep
 | 0,s,h=>by
  rw[cutS_index hs]
  by_cases h1:Lib.index s sep = -1
  ·rw[if_pos h1];rfl
  ·obtain⟨i,hi⟩:∃ i:Nat,Lib.index s sep=i:=⟨(Lib.index s sep).toNat,by have:=Lib.index_ge s sep;omega⟩
   rw[Lib.count_hit hs hi] at h
   omega
 | k+1,s,h=>by
  rw[cutS_index hs]
  by_cases h1:Lib.index s sep = -1
  ·rw[Lib.count_miss h1] at h;omega
  ·obtain⟨i,hi⟩:∃ i:Nat,Lib.index s sep=i:=⟨(Lib.index s sep).toNat,by have:=Lib.index_ge s sep;omega⟩
   have hb:¬ (Lib.index s sep == -1)=true:=by simpa using h1
   have h2:=Lib.count_hit hs hi
   rw[if_neg h1,Lib.splitK,if_neg hb]
   have e:(Lib.index s sep).toNat=i:=by omega
   rw[e,splitK_cut hs k _ (by omega),Nat.add_zero]
theorem split_cut(s sep:ByteArray)(hs:1<=sep.size):(Lib.splitB sep 0 (Lib.countB s sep) s).map (fun p=>p.data.toList)=M.cutS s.data.toList sep.data.toList:=by
 have hs':sep.data.toList≠[]:=by
  intro e
  have:=congrArg List.length e
  rw[Array.length_toList,ByteArray.size_data,List.length_nil] at this
  omega
 rw[<-splitK_cut hs' (Lib.countB s sep) s.data.toList rfl]
 exact Lib.splitB_data sep 0 _ s
theorem index_one_miss{s:List UInt8}{c:UInt8}(h:c ∉ s):Lib.index s [c] = -1:=by
 induction s with
 | nil=>rfl
 | cons b l ih=>
  have h1:¬ c=b:=fun e=>h (by simp[e])
  have h2:c ∉ l:=fun e=>h (by simp[e])
  rw[Lib.index,if_neg (by simp[List.isPrefixOf];exact h1),if_pos (by rw[ih h2];rfl)]
theorem index_one_hit{a b:List UInt8}{c:UInt8}(h:c ∉ a):Lib.index (a++c :: b) [c]=a.length:=by
 induction a with
 | nil=>simp[Lib.index,List.isPrefixOf]
 | cons x l ih=>
  have h1:¬ c=x:=fun e=>h (by simp[e])
  have h2:c ∉ l:=fun e=>h (by simp[e])
  have:=ih h2
  rw[List.cons_append,Lib.index,if_neg (by simp[List.isPrefixOf];exact h1),this,if_neg (by rw[beq_iff_eq];omega)]
  simp
theorem first_of{s:List UInt8}{c:UInt8}(h:c∈s):∃ a b,s=a++c :: b/\c ∉ a:=by
 induction s with
 | nil=>simp at h
 | cons x l ih=>
  by_cases hx:c=x
  ·exact⟨[],l,by rw[hx];rfl,by simp⟩
  ·obtain⟨a,b,e,hn⟩:=ih (by simpa [hx] using h)
   exact⟨x :: a,b,by rw[e];rfl,by simp[hx,hn]⟩
theorem cut_miss{s:List UInt8}{c:UInt8}(h:c ∉ s):Lib.cut s [c]=(s,[],false)/\M.cutS s [c]=[s]:=by
 have e:=index_one_miss h
 constructor
 ·unfold Lib.cut;rw[e,if_neg (by decide)]
 ·rw[cutS_index (by simp),if_pos e]
theorem cut_hit{a b:List UInt8}{c:UInt8}(h:c ∉ a):Lib.cut (a++c :: b) [c]=(a,b,true)/\M.cutS (a++c :: b) [c]=a :: M.cutS b [c]:=by
 have e:=index_one_hit (b:=b) h
 constructor
 ·unfold Lib.cut;rw[e,if_pos (by omega)];simp
 ·rw[cutS_index (by simp),e,if_neg (by omega)];simp
theorem cut_cases(s:List UInt8)(c:UInt8):(c ∉ s/\Lib.cut s [c]=(s,[],false)/\M.cutS s [c]=[s])\/∃ a b,s=a++c :: b/\c ∉ a/\Lib.cut s [c]=(a,b,true)/\M.cutS s [c]=a :: M.cutS b [c]:=by
 by_cases h:c∈s
 ·obtain⟨a,b,e,hn⟩:=first_of h
  refine .inr ⟨a,b,e,hn,?_⟩
  rw[e]
  exact cut_hit hn
 ·exact .inl ⟨h,cut_miss h⟩
theorem begins_pre(s t:List UInt8):M.begins s t=Lib.hasPrefix s t:=by
 unfold M.begins Lib.hasPrefix
 rw[Bool.eq_iff_iff,Bool.and_eq_true,decide_eq_true_eq,beq_iff_eq,List.isPrefixOf_iff_prefix,List.prefix_iff_eq_take]
 constructor
 ·rintro ⟨_,h⟩;exact h.symm
 ·intro h
  refine⟨?_,h.symm⟩
  have:=congrArg List.length h
  rw[List.length_take] at this
  omega
theorem pre_split{s t:List UInt8}(h:Lib.hasPrefix s t=true):s=t++s.drop t.length:=by
 unfold Lib.hasPrefix at h
 obtain⟨r,rfl⟩:=List.isPrefixOf_iff_prefix.1 h
 simp
theorem suf_split{s t:List UInt8}(h:Lib.hasSuffix s t=true):s=s.take (s.length-t.length)++t:=by
 unfold Lib.hasSuffix at h
 obtain⟨r,rfl⟩:=List.isSuffixOf_iff_suffix.1 h
 simp
theorem made_no{p:Int->Bool}{a b:Nat}{s:List UInt8}{c:UInt8}(hc:p c.toNat=false)(h:M.made p a b s=true):c ∉ s:=by
 intro hm
 unfold M.made at h
 rw[Bool.and_eq_true,List.all_eq_true] at h
 have:=h.1 c hm
 rw[hc] at this
 cases this
theorem ver_no{s:List UInt8}(h:M.isVerS s=true):(32:UInt8) ∉ s:=by
 unfold M.isVerS at h
 rw[Bool.and_eq_true] at h
 exact made_no (by decide) h.1
def signS(s:List UInt8):Bool:=s == [60,60] || s == [60,61] || s == [61] || s == [62,61] || s == [62,62]
theorem sign_no{s:List UInt8}(h:signS s=true):(32:UInt8) ∉ s/\(40:UInt8) ∉ s:=by
 unfold signS at h
 simp only[Bool.or_eq_true,beq_iff_eq] at h
 rcases h with (((rfl|rfl)|rfl)|rfl)|rfl <;> decide
theorem signP_is(x:List UInt8):M.isSignP (40 :: x)=signS x:=by
 unfold M.isSignP signS
 simp
theorem signP_40{x:List UInt8}(h:M.isSignP x=true):∃ y,x=40 :: y:=by
 unfold M.isSignP at h
 simp only[Bool.or_eq_true,beq_iff_eq] at h
 rcases h with (((rfl|rfl)|rfl)|rfl)|rfl <;> exact⟨_,rfl⟩
def limitC(t:List UInt8):Option (List UInt8 × List UInt8):=
 if Lib.hasPrefix t [40]=true/\Lib.hasSuffix (Lib.trimPrefix t [40]) [41]=true/\(Lib.cut (Lib.trimSuffix (Lib.trimPrefix t [40]) [41]) [32]).2.2=true/\signS (Lib.cut (Lib.trimSuffix (Lib.trimPrefix t [40]) [41]) [32]).1=true/\M.isVerS (Lib.cut (Lib.trimSuffix (Lib.trimPrefix t [40]) [41]) [32]).2.1=true
 then some ((Lib.cut (Lib.trimSuffix (Lib.trimPrefix t [40]) [41]) [32]).1,(Lib.cut (Lib.trimSuffix (Lib.trimPrefix t [40]) [41]) [32]).2.1) else none
def choiceC(s:List UInt8):Option M.Ch:=
 if M.isNameS (Lib.cut s [32]).1=true then
  (if (Lib.cut s [32]).2.2=true then (match limitC (Lib.cut s [32]).2.1 with
    | none=>none
    | some (a,b)=>some ⟨(Lib.cut s [32]).1,a,b⟩)
  else some ⟨(Lib.cut s [32]).1,[],[]⟩)
 else none
theorem limit_some{sg v:List UInt8}(h1:signS sg=true)(h2:M.isVerS v=true):limitC (40 :: (sg++32 :: (v++[41])))=some (sg,v):=by
 have e1:Lib.hasPrefix (40 :: (sg++32 :: (v++[41]))) [40]=true:=by simp[Lib.hasPrefix,List.isPrefixOf]
 have e2:Lib.trimPrefix (40 :: (sg++32 :: (v++[41]))) [40]=sg++32 :: (v++[41]):=by unfold Lib.trimPrefix;rw[if_pos e1];rfl
 have e3:Lib.hasSuffix (sg++32 :: (v++[41])) [41]=true:=by
  unfold Lib.hasSuffix;rw[List.isSuffixOf_iff_suffix];exact⟨sg++32 :: v,by simp⟩
 have e4:Lib.trimSuffix (sg++32 :: (v++[41])) [41]=sg++32 :: v:=by
  unfold Lib.trimSuffix;rw[if_pos e3]
  rw[show sg++32 :: (v++[41])=(sg++32 :: v)++[41] by simp]
  rw[List.take_append_of_le_length (by simp)]
  exact List.take_of_length_le (by simp)
 have e5:=(cut_hit (b:=v) (sign_no h1).1).1
 unfold limitC
 rw[e2,e4,e5,if_pos ⟨e1,e3,rfl,h1,h2⟩]
theorem limit_inv{t sg v:List UInt8}(h:limitC t=some (sg,v)):signS sg=true/\M.isVerS v=true/\t=40 :: (sg++32 :: (v++[41])):=by
 unfold limitC at h
 split at h
 ·rename_i hc
  obtain⟨h1,h2,h3,h4,h5⟩:=hc
  simp only[Option.some.injEq,Prod.mk.injEq] at h
  obtain⟨rfl,rfl⟩:=h
  refine⟨h4,h5,?_⟩
  have e1:=pre_split h1
  have ep:Lib.trimPrefix t [40]=t.drop 1:=by unfold Lib.trimPrefix;rw[if_pos h1];rfl
  rw[ep] at h2 h3 h4 h5 ⊢
  have e2:=suf_split h2
  have es:Lib.trimSuffix (t.drop 1) [41]=(t.drop 1).take ((t.drop 1).length-1):=by unfold Lib.trimSuffix;rw[if_pos h2];rfl
  rw[es] at h3 h4 h5 ⊢
  rcases cut_cases ((t.drop 1).take ((t.drop 1).length-1)) 32 with ⟨_,e,_⟩|⟨a,b,e,_,ec,_⟩
  ·rw[e] at h3;cases h3
  ·rw[ec]
   show t=40 :: (a++32 :: (b++[41]))
   rw[show ([41]:List UInt8).length=1 from rfl] at e2
   rw[e] at e2
   rw[show ([40]:List UInt8).length=1 from rfl,e2] at e1
   rw[e1];simp
 ·cases h
theorem choiceC_is(s:List UInt8):choiceC s=M.choiceS s:=by
 unfold choiceC M.choiceS
 rcases cut_cases s 32 with ⟨hn,e1,e2⟩|⟨a,b,rfl,hn,e1,e2⟩
 ·rw[e1,e2]
  simp only[Bool.false_eq_true,if_false]
 ·rw[e1,e2]
  simp only[if_true]
  rcases cut_cases b 32 with ⟨hb,_,e3⟩|⟨p1,p2,rfl,hb,_,e3⟩
  ·rw[e3]
   have hl:limitC b=none:=by
    cases h:limitC b with
    | none=>rfl
    | some x=>
     obtain⟨sg,v⟩:=x
     obtain⟨_,_,e⟩:=limit_inv h
     exact absurd (by rw[e];simp) hb
   rw[hl]
   simp
  ·rw[e3]
   rcases cut_cases p2 32 with ⟨hc,_,e4⟩|⟨q1,q2,rfl,hc,_,e4⟩
   ·rw[e4]
    show (if M.isNameS a=true then (match limitC (p1++32 :: p2) with|none=>none|some (x,y)=>some (M.Ch.mk a x y)) else none)=if M.isNameS a=true/\0<p2.length/\M.isVerS (p2.take (p2.length-1))=true/\M.isSignP p1=true/\(p2.drop (p2.length-1) == [41])=true then some ⟨a,p1.drop 1,p2.take (p2.length-1)⟩ else none
    by_cases hna:M.isNameS a=true
    ·rw[if_pos hna]
     cases h:limitC (p1++32 :: p2) with
     | some x=>
      obtain⟨sg,v⟩:=x
      obtain⟨hs,hv,e⟩:=limit_inv h
      have h40:(32:UInt8) ∉ 40 :: sg:=by simp[(sign_no hs).1]
      have f1:=(cut_hit (b:=p2) hb).1
      have f2:=(cut_hit (b:=v++[41]) h40).1
      rw[e] at f1
      rw[List.cons_append] at f2
      rw[f1] at f2
      simp only[Prod.mk.injEq] at f2
      obtain⟨rfl,rfl,_⟩:=f2
      rw[if_pos ⟨hna,by simp,by simpa using hv,by rw[signP_is];exact hs,by simp⟩]
      simp
     | none=>
      rw[if_neg]
      rintro ⟨_,h1,h2,h3,h4⟩
      obtain⟨y,rfl⟩:=signP_40 h3
      rw[signP_is] at h3
      have hv:=List.take_append_drop (p2.length-1) p2
      rw[beq_iff_eq] at h4
      rw[h4] at hv
      rw[List.cons_append,<-hv,limit_some h3 h2] at h
      cases h
    ·rw[if_neg hna,if_neg (fun h=>hna h.1)]
   ·rw[e4]
    have hl:limitC (p1++32 :: (q1++32 :: q2))=none:=by
     cases h:limitC (p1++32 :: (q1++32 :: q2)) with
     | none=>rfl
     | some x=>
      obtain⟨sg,v⟩:=x
      obtain⟨hs,hv,e⟩:=limit_inv h
      have h40:(32:UInt8) ∉ 40 :: sg:=by simp[(sign_no hs).1]
      have f1:=(cut_hit (b:=q1++32 :: q2) hb).1
      have f2:=(cut_hit (b:=v++[41]) h40).1
      rw[e] at f1
      rw[List.cons_append] at f2
      rw[f1] at f2
      simp only[Prod.mk.injEq] at f2
      have h32:(32:UInt8)∈v++[41]:=by rw[<-f2.2.1];simp
      simp at h32
      exact absurd h32 (ver_no hv)
    rw[hl]
    have hne:M.cutS q2 [32]≠[]:=by
     have:=(M.cutS_len q2 [32]).1
     intro e;rw[e] at this;simp at this
    cases hq:M.cutS q2 [32] with
    | nil=>exact absurd hq hne
    | cons y l=>simp
def titleC(t:List UInt8):Option (List UInt8 × List UInt8):=
 if (Lib.cut t [32]).2.2=true/\M.isNameS (Lib.cut t [32]).1=true/\M.isVerS (Lib.cut t [32]).2.1=true then some ((Lib.cut t [32]).1,(Lib.cut t [32]).2.1) else none
def packW:List UInt8:=[112,97,99,107,97,103,101,32]
theorem titleC_is(t:List UInt8):M.titleS (packW++t)=titleC t:=by
 have e0:=(cut_hit (a:=[112,97,99,107,97,103,101]) (b:=t) (c:=32) (by decide)).2
 unfold M.titleS titleC
 rw[show packW++t=[112,97,99,107,97,103,101]++32 :: t from rfl,e0]
 rcases cut_cases t 32 with ⟨hn,e1,e2⟩|⟨a,b,rfl,hn,e1,e2⟩
 ·rw[e1,e2,if_neg (by simp)]
 ·rw[e1,e2]
  rcases cut_cases b 32 with ⟨hb,_,e3⟩|⟨p1,p2,rfl,hb,_,e3⟩
  ·rw[e3]
   simp
  ·rw[e3]
   have hne:M.cutS p2 [32]≠[]:=by
    have:=(M.cutS_len p2 [32]).1
    intro e;rw[e] at this;simp at this
   have hv:¬ M.isVerS (p1++32 :: p2)=true:=fun h=>absurd (show (32:UInt8)∈p1++32 :: p2 by simp) (ver_no h)
   rw[if_neg (fun h=>hv h.2.2)]
   cases hq:M.cutS p2 [32] with
   | nil=>exact absurd hq hne
   | cons y l=>rfl
theorem title_none{s:List UInt8}(h:Lib.hasPrefix s packW=false):M.titleS s=none:=by
 unfold M.titleS
 rcases cut_cases s 32 with ⟨hn,_,e2⟩|⟨a,b,rfl,hn,_,e2⟩
 ·rw[e2]
 ·rw[e2]
  split
  ·rename_i x y z e
   simp only[List.cons.injEq] at e
   obtain⟨rfl,_⟩:=e
   rw[if_neg]
   rintro ⟨h1,_⟩
   rw[beq_iff_eq] at h1
   subst h1
   have:Lib.hasPrefix ([112,97,99,107,97,103,101]++32 :: b) packW=true:=by
    unfold Lib.hasPrefix;rw[List.isPrefixOf_iff_prefix];exact⟨b,rfl⟩
   rw[this] at h
   cases h
  ·rfl
def isPartS(q:List UInt8):Bool:=M.made M.partP 1 8 q && !(q == [46]) && !(q == [46,46])
def fileC(t:List UInt8):Option M.Fl:=
 if (Lib.cut t [61]).2.2=true/\(Lib.cut t [61]).2.1.length<=24/\(M.cutS (Lib.cut t [61]).1 [47]).length<=3/\(M.cutS (Lib.cut t [61]).1 [47]).all isPartS=true then some ⟨(Lib.cut t [61]).1,(Lib.cut t [61]).2.1⟩ else none
theorem lead61_miss{s:List UInt8}(h:(61:UInt8) ∉ s):M.lead (fun c=>decide (c≠61)) s=s.length:=
 M.lead_eq (k:=s.length) (fun j hj _=>by
  rw[decide_eq_true_eq]
  intro e
  have:s[j]=61:=by
   apply UInt8.toNat_inj.1
   show s[j].toNat=61
   omega
  exact h (this ▸ List.getElem_mem hj)) ler (fun h=>absurd h (Nat.lt_irrefl _))
theorem lead61_hit{a b:List UInt8}(h:(61:UInt8) ∉ a):M.lead (fun c=>decide (c≠61)) (a++61 :: b)=a.length:=
 M.lead_eq (k:=a.length) (fun j hj hk=>by
  rw[decide_eq_true_eq]
  intro e
  have e2:(a++61 :: b)[j]=a[j]:=List.getElem_append_left hk
  rw[e2] at e
  have:a[j]=61:=by
   apply UInt8.toNat_inj.1
   show a[j].toNat=61
   omega
  exact h (this ▸ List.getElem_mem hk)) (by simp) (fun h=>by
   rw[List.getElem_append_right ler]
   simp)
theorem fileC_is(t:List UInt8):fileC t=M.fileS t:=by
 unfold fileC M.fileS
 rcases cut_cases t 61 with ⟨hn,e1,_⟩|⟨a,b,rfl,hn,e1,_⟩
 ·rw[e1,lead61_miss hn,if_pos rfl,if_neg (by simp)]
 ·have h0:¬ a.length=(a++61 :: b).length:=by simp
  rw[e1,lead61_hit hn,if_neg h0]
  have e3:(a++61 :: b).take a.length=a:=by simp
  have e4:(a++61 :: b).drop (a.length+1)=b:=by simp
  have e5:(a++61 :: b).length-a.length-1=b.length:=by rw[List.length_append,List.length_cons];omega
  rw[e3,e4,e5]
  have e6:M.isPathS a=((M.cutS a [47]).all isPartS && decide ((M.cutS a [47]).length<=3)):=rfl
  rw[e6]
  by_cases h:b.length<=24/\(M.cutS a [47]).length<=3/\(M.cutS a [47]).all isPartS=true
  ·rw[if_pos ⟨rfl,h.1,h.2.1,h.2.2⟩,if_pos]
   rw[h.2.2,decide_eq_true h.2.1]
   exact⟨rfl,h.1⟩
  ·rw[if_neg (fun k=>h ⟨k.2.1,k.2.2.1,k.2.2.2⟩),if_neg]
   rintro ⟨k1,k2⟩
   rw[Bool.and_eq_true,decide_eq_true_eq] at k1
   exact h ⟨k2,k1.2,k1.1⟩
end Go.Proofs.YtgnfknjopafngabGreatDoor
