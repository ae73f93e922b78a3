import Derived.Test.YthejglbnkmimjaaGreatPp00
import Derived.Shelf.Strings.Builder1
import Derived.Test.YthejglbnkmimjaaGreatProg
namespace Go.Proofs
open Go.Shelf
def Tryz.layst_ren: Go.Shelf.Ren:=⟨fun | 169=>144 | n=>n,fun | 70=>188 | 9=>9 | 0=>0 | 72=>190 | 37=>154 | 127=>251 | 3=>3 | 5=>5 | n=>n,fun | n=>n⟩
theorem Tryz.layst: Go.Proofs.Lays.n169 prog Tryz.layst_ren:={
 mixed:=by kernel_rfl
 f169:=func144.trans (congrArg some (by kernel_rfl))
 t0:=Tryz.underlying0
 a0:=Tryz.isAgg0
 z0:=Tryz.sizeOf0
 v0:=Tryz.zeroValue0
 t3:=Tryz.underlying3
 a3:=Tryz.isAgg3
 z3:=Tryz.sizeOf3
 v3:=Tryz.zeroValue3
 t9:=Tryz.underlying9
 a9:=Tryz.isAgg9
 z9:=Tryz.sizeOf9
 v9:=Tryz.zeroValue9
 t37:=Tryz.underlying154
 a37:=Tryz.isAgg154
 z37:=Tryz.sizeOf154
 v37:=Tryz.zeroValue154
 t70:=Tryz.underlying188
 a70:=Tryz.isAgg188
 z70:=Tryz.sizeOf188
 v70:=Tryz.zeroValue188
 t72:=Tryz.underlying190
 a72:=Tryz.isAgg190
 z72:=Tryz.sizeOf190
 v72:=Tryz.zeroValue190
 t127:=Tryz.underlying251
 a127:=Tryz.isAgg251
 z127:=Tryz.sizeOf251
 v127:=Tryz.zeroValue251 }
theorem Tryz.xst: Builder.Extra prog Tryz.layst_ren:={
 sizeBuilder:=by kernel_rfl
 liesBuilder:=by kernel_rfl
 t5:=Tryz.underlying5
 a5:=Tryz.isAgg5
 z5:=Tryz.sizeOf5
 v5:=Tryz.zeroValue5
 infoByte:=by kernel_rfl
 cellsByte:=by kernel_rfl
 sizeByte:=by kernel_rfl
 neB5:=by decide }
open Go.RowKit in
theorem Tryz.bst_any(B b:Nat)(l:List UInt8)(w:World)(h:Lib.IsBuilder 190 5 B b (Lib.byteCells l) w)(a:B<=w.heap.size):
  Calls prog 144 #[.pointer (some ⟨b,0,none⟩)] w fun e w'=>e = .returned (.string ⟨l.toArray⟩)/\Below B w w':=Any.Builder_String_any Tryz.layst Tryz.xst B b l w h a
end Go.Proofs
