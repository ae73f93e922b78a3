import Derived.Test.YthejglbnkmimjaaGreatQp00
import Derived.Test.YthejglbnkmimjaaGreatProg
import Derived.Shelf.Strings.Repeat
namespace Go.Proofs
open Go.Shelf
def Tryz.layst_ren: Go.Shelf.Ren:=⟨fun|169=>144|n=>n,fun|70=>188|9=>9|0=>0|72=>190|37=>154|127=>251|3=>3|5=>5|n=>n,fun|n=>n⟩
theorem Tryz.layst: Go.Proofs.Lays.n169 prog Tryz.layst_ren:={
 mixed:=by kernel_rfl
 f169:=func144.trans (congrArg some (by kernel_rfl))
 t0:=Tryz.underlying0
 a0:=Tryz.isAgg0
 z0:=Tryz.sizeOf0
 v0:=Tryz.zeroValue0
 t3:=Tryz.underlying3
 a3:=Tryz.isAgg3
 z3:=Tryz.sizeOf3
 v3:=Tryz.zeroValue3
 t9:=Tryz.underlying9
 a9:=Tryz.isAgg9
 z9:=Tryz.sizeOf9
 v9:=Tryz.zeroValue9
 t37:=Tryz.underlying154
 a37:=Tryz.isAgg154
 z37:=Tryz.sizeOf154
 v37:=Tryz.zeroValue154
 t70:=Tryz.underlying188
 a70:=Tryz.isAgg188
 z70:=Tryz.sizeOf188
 v70:=Tryz.zeroValue188
 t72:=Tryz.underlying190
 a72:=Tryz.isAgg190
 z72:=Tryz.sizeOf190
 v72:=Tryz.zeroValue190
 t127:=Tryz.underlying251
 a127:=Tryz.isAgg251
 z127:=Tryz.sizeOf251
 v127:=Tryz.zeroValue251 }
theorem Tryz.xst: Builder.Extra prog Tryz.layst_ren:={
 sizeBuilder:=by kernel_rfl
 liesBuilder:=by kernel_rfl
 t5:=Tryz.underlying5
 a5:=Tryz.isAgg5
 z5:=Tryz.sizeOf5
 v5:=Tryz.zeroValue5
 infoByte:=by kernel_rfl
 cellsByte:=by kernel_rfl
 sizeByte:=by kernel_rfl
 neB5:=by decide }
open Go.RowKit in
theorem Tryz.bst_any(B b:Nat)(l:List UInt8)(w:World)(h:Lib.IsBuilder 190 5 B b (Lib.byteCells l) w)(a:B<=w.1.size):
  Calls prog 144 #[.pointer (some ⟨b,0,none⟩)] w fun e w'=>e=.returned (.string ⟨l.toArray⟩)/\Below B w w':=Any.Builder_String_any Tryz.layst Tryz.xst B b l w h a
end Go.Proofs
namespace Go.Proofs
open Go.Shelf
def Tryz.layrp_ren: Go.Shelf.Ren:=⟨fun|105=>297|212=>313|99=>153|165=>314|166=>140|170=>315|169=>144|263=>318|264=>319|206=>208|240=>196|241=>320|276=>247|277=>321|n=>n,fun|9=>9|3=>3|4=>4|20=>20|0=>0|46=>245|109=>349|5=>5|72=>190|76=>193|51=>294|146=>354|53=>23|148=>356|70=>188|37=>154|75=>192|127=>251|164=>291|80=>195|n=>n,fun|n=>n⟩
theorem Tryz.layrp: Go.Proofs.Lays.n105 prog Tryz.layrp_ren:={
 mixed:=by kernel_rfl
 f99:=func153.trans (congrArg some (by kernel_rfl))
 f105:=func297.trans (congrArg some (by kernel_rfl))
 f165:=func314.trans (congrArg some (by kernel_rfl))
 f166:=func140.trans (congrArg some (by kernel_rfl))
 f169:=func144.trans (congrArg some (by kernel_rfl))
 f170:=func315.trans (congrArg some (by kernel_rfl))
 f206:=func208.trans (congrArg some (by kernel_rfl))
 f212:=func313.trans (congrArg some (by kernel_rfl))
 f240:=func196.trans (congrArg some (by kernel_rfl))
 f241:=func320.trans (congrArg some (by kernel_rfl))
 f263:=func318.trans (congrArg some (by kernel_rfl))
 f264:=func319.trans (congrArg some (by kernel_rfl))
 f276:=func247.trans (congrArg some (by kernel_rfl))
 f277:=func321.trans (congrArg some (by kernel_rfl))
 t0:=Tryz.underlying0
 a0:=Tryz.isAgg0
 z0:=Tryz.sizeOf0
 v0:=Tryz.zeroValue0
 t3:=Tryz.underlying3
 a3:=Tryz.isAgg3
 z3:=Tryz.sizeOf3
 v3:=Tryz.zeroValue3
 t4:=Tryz.underlying4
 a4:=Tryz.isAgg4
 z4:=Tryz.sizeOf4
 v4:=Tryz.zeroValue4
 t5:=Tryz.underlying5
 a5:=Tryz.isAgg5
 z5:=Tryz.sizeOf5
 v5:=Tryz.zeroValue5
 t9:=Tryz.underlying9
 a9:=Tryz.isAgg9
 z9:=Tryz.sizeOf9
 v9:=Tryz.zeroValue9
 t20:=Tryz.underlying20
 a20:=Tryz.isAgg20
 z20:=Tryz.sizeOf20
 v20:=Tryz.zeroValue20
 t37:=Tryz.underlying154
 a37:=Tryz.isAgg154
 z37:=Tryz.sizeOf154
 v37:=Tryz.zeroValue154
 t46:=Tryz.underlying245
 a46:=Tryz.isAgg245
 z46:=Tryz.sizeOf245
 v46:=Tryz.zeroValue245
 t51:=Tryz.underlying294
 a51:=Tryz.isAgg294
 z51:=Tryz.sizeOf294
 v51:=Tryz.zeroValue294
 t53:=Tryz.underlying23
 a53:=Tryz.isAgg23
 z53:=Tryz.sizeOf23
 v53:=Tryz.zeroValue23
 t70:=Tryz.underlying188
 a70:=Tryz.isAgg188
 z70:=Tryz.sizeOf188
 v70:=Tryz.zeroValue188
 t72:=Tryz.underlying190
 a72:=Tryz.isAgg190
 z72:=Tryz.sizeOf190
 v72:=Tryz.zeroValue190
 t75:=Tryz.underlying192
 a75:=Tryz.isAgg192
 z75:=Tryz.sizeOf192
 v75:=Tryz.zeroValue192
 t76:=Tryz.underlying193
 a76:=Tryz.isAgg193
 z76:=Tryz.sizeOf193
 v76:=Tryz.zeroValue193
 t109:=Tryz.underlying349
 a109:=Tryz.isAgg349
 z109:=Tryz.sizeOf349
 v109:=Tryz.zeroValue349
 t127:=Tryz.underlying251
 a127:=Tryz.isAgg251
 z127:=Tryz.sizeOf251
 v127:=Tryz.zeroValue251
 t146:=Tryz.underlying354
 a146:=Tryz.isAgg354
 z146:=Tryz.sizeOf354
 v146:=Tryz.zeroValue354
 t148:=Tryz.underlying356
 a148:=Tryz.isAgg356
 z148:=Tryz.sizeOf356
 v148:=Tryz.zeroValue356
 t164:=Tryz.underlying291
 a164:=Tryz.isAgg291
 z164:=Tryz.sizeOf291
 v164:=Tryz.zeroValue291 }
theorem Tryz.xrp: Builder.Extra prog Tryz.layrp_ren:={
 sizeBuilder:=by kernel_rfl
 liesBuilder:=by kernel_rfl
 t5:=Tryz.underlying5
 a5:=Tryz.isAgg5
 z5:=Tryz.sizeOf5
 v5:=Tryz.zeroValue5
 infoByte:=by kernel_rfl
 cellsByte:=by kernel_rfl
 sizeByte:=by kernel_rfl
 neB5:=by decide }
open Go.RowKit in
theorem Tryz.rep_any(s:ByteArray)(c:Nat)(w:World)(a:c<=9223372036854775807)(b:s.size*c<=140737488355328):
  Calls prog 297 #[s,c] w fun e w'=>e=.returned (.string ⟨(Lib.repeatL s.data.toList c).toArray⟩)/\Below w.1.size w w':=Any.strings_Repeat Tryz.layrp Tryz.xrp s c w a b
end Go.Proofs
