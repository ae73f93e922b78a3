import Derived.Test.YthejglbnkmimjaaGreatQp00
import Derived.Shelf.SlicesE.DeleteFunc
import Derived.Test.YthejglbnkmimjaaGreatProg
namespace Go.Proofs
open Go.Shelf
def Tryz.del_ren: Go.Shelf.Ren:=⟨fun|10=>181|6=>237|n=>n,fun|22=>108|23=>160|25=>232|3=>3|4=>4|0=>0|n=>n,fun|n=>n⟩
theorem Tryz.del: Go.Proofs.SlLaysH.n10 prog Tryz.del_ren:={
 mixed:=by kernel_rfl
 f6:=⟨Tryz.f237.name,by decide,func237.trans (congrArg some (by kernel_rfl))⟩
 f10:=⟨Tryz.f181.name,by decide,func181.trans (congrArg some (by kernel_rfl))⟩
 t0:=Tryz.underlying0
 a0:=Tryz.isAgg0
 z0:=Tryz.sizeOf0
 v0:=Tryz.zeroValue0
 t3:=Tryz.underlying3
 a3:=Tryz.isAgg3
 z3:=Tryz.sizeOf3
 v3:=Tryz.zeroValue3
 t4:=Tryz.underlying4
 a4:=Tryz.isAgg4
 z4:=Tryz.sizeOf4
 v4:=Tryz.zeroValue4
 t22:=Tryz.underlying108
 a22:=Tryz.isAgg108
 z22:=Tryz.sizeOf108
 v22:=Tryz.zeroValue108
 a23:=Tryz.isAgg160
 z23:=Tryz.sizeOf160
 t25:=Tryz.underlying232
 a25:=Tryz.isAgg232
 z25:=Tryz.sizeOf232
 v25:=Tryz.zeroValue232 }
end Go.Proofs
