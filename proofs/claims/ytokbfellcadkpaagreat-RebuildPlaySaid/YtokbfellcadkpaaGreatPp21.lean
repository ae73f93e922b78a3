import Derived.Test.YtokbfellcadkpaaGreatPp00
import Derived.Shelf.SlicesE.DeleteFunc
import Derived.Test.YtokbfellcadkpaaGreatProg
namespace Go.Proofs
open Go.Shelf
def Tryz.del_ren: Go.Shelf.Ren:=⟨fun | 10=>165 | 6=>207 | n=>n,fun | 22=>86 | 23=>164 | 25=>211 | 3=>3 | 4=>4 | 0=>0 | n=>n,fun | n=>n⟩
theorem Tryz.del: Go.Proofs.SlLaysH.n10 prog Tryz.del_ren:={
 mixed:=by kernel_rfl
 f6:=⟨Tryz.f207.name,by decide,func207.trans (congrArg some (by kernel_rfl))⟩
 f10:=⟨Tryz.f165.name,by decide,func165.trans (congrArg some (by kernel_rfl))⟩
 t0:=Tryz.underlying0
 a0:=Tryz.isAgg0
 z0:=Tryz.sizeOf0
 v0:=Tryz.zeroValue0
 t3:=Tryz.underlying3
 a3:=Tryz.isAgg3
 z3:=Tryz.sizeOf3
 v3:=Tryz.zeroValue3
 t4:=Tryz.underlying4
 a4:=Tryz.isAgg4
 z4:=Tryz.sizeOf4
 v4:=Tryz.zeroValue4
 t22:=Tryz.underlying86
 a22:=Tryz.isAgg86
 z22:=Tryz.sizeOf86
 v22:=Tryz.zeroValue86
 a23:=Tryz.isAgg164
 z23:=Tryz.sizeOf164
 t25:=Tryz.underlying211
 a25:=Tryz.isAgg211
 z25:=Tryz.sizeOf211
 v25:=Tryz.zeroValue211 }
end Go.Proofs
