import Derived.Test.YtokbfellcadkpaaGreatPp00
import Derived.Shelf.Strings.Builder1
import Derived.Test.YtokbfellcadkpaaGreatProg
namespace Go.Proofs
open Go.Shelf
def Tryz.layst_ren: Go.Shelf.Ren:=⟨fun | 169=>60 | n=>n,fun | 70=>113 | 9=>9 | 0=>0 | 72=>115 | 37=>109 | 127=>182 | 3=>3 | 5=>5 | n=>n,fun | n=>n⟩
theorem Tryz.layst: Go.Proofs.Lays.n169 prog Tryz.layst_ren:={
 mixed:=by kernel_rfl
 f169:=func60.trans (congrArg some (by kernel_rfl))
 t0:=Tryz.underlying0
 a0:=Tryz.isAgg0
 z0:=Tryz.sizeOf0
 v0:=Tryz.zeroValue0
 t3:=Tryz.underlying3
 a3:=Tryz.isAgg3
 z3:=Tryz.sizeOf3
 v3:=Tryz.zeroValue3
 t9:=Tryz.underlying9
 a9:=Tryz.isAgg9
 z9:=Tryz.sizeOf9
 v9:=Tryz.zeroValue9
 t37:=Tryz.underlying109
 a37:=Tryz.isAgg109
 z37:=Tryz.sizeOf109
 v37:=Tryz.zeroValue109
 t70:=Tryz.underlying113
 a70:=Tryz.isAgg113
 z70:=Tryz.sizeOf113
 v70:=Tryz.zeroValue113
 t72:=Tryz.underlying115
 a72:=Tryz.isAgg115
 z72:=Tryz.sizeOf115
 v72:=Tryz.zeroValue115
 t127:=Tryz.underlying182
 a127:=Tryz.isAgg182
 z127:=Tryz.sizeOf182
 v127:=Tryz.zeroValue182 }
theorem Tryz.xst: Builder.Extra prog Tryz.layst_ren:={
 sizeBuilder:=by kernel_rfl
 liesBuilder:=by kernel_rfl
 t5:=Tryz.underlying5
 a5:=Tryz.isAgg5
 z5:=Tryz.sizeOf5
 v5:=Tryz.zeroValue5
 infoByte:=by kernel_rfl
 cellsByte:=by kernel_rfl
 sizeByte:=by kernel_rfl
 neB5:=by decide }
open Go.RowKit in
theorem Tryz.bst_any(B b:Nat)(l:List UInt8)(w:World)(h:Lib.IsBuilder 115 5 B b (Lib.byteCells l) w)(a:B<=w.heap.size):
  Calls prog 60 #[.pointer (some ⟨b,0,none⟩)] w fun e w'=>e = .returned (.string ⟨l.toArray⟩)/\Below B w w':=Any.Builder_String_any Tryz.layst Tryz.xst B b l w h a
end Go.Proofs
