import Derived.Test.YthejglbnkmimjaaGreatQp00
import Derived.Shelf.SlicesE.Compact
import Derived.Test.YthejglbnkmimjaaGreatProg
namespace Go.Proofs
open Go.Shelf
def Tryz.comp_ren: Go.Shelf.Ren:=⟨fun|43=>226|n=>n,fun|22=>272|23=>23|3=>3|4=>4|0=>0|n=>n,fun|n=>n⟩
theorem Tryz.comp: Go.Proofs.SlLaysE.n43 Tryz.prog Tryz.comp_ren:={
 mixed:=by kernel_rfl
 f43:=⟨Tryz.f226.name,by decide,Tryz.func226.trans (congrArg some (by kernel_rfl))⟩
 t0:=Tryz.underlying0
 a0:=Tryz.isAgg0
 z0:=Tryz.sizeOf0
 v0:=Tryz.zeroValue0
 t3:=Tryz.underlying3
 a3:=Tryz.isAgg3
 z3:=Tryz.sizeOf3
 v3:=Tryz.zeroValue3
 t4:=Tryz.underlying4
 a4:=Tryz.isAgg4
 z4:=Tryz.sizeOf4
 v4:=Tryz.zeroValue4
 t22:=Tryz.underlying272
 a22:=Tryz.isAgg272
 z22:=Tryz.sizeOf272
 v22:=Tryz.zeroValue272
 a23:=Tryz.isAgg23
 z23:=Tryz.sizeOf23 }
end Go.Proofs
